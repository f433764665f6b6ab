/-
  CONTRACT: a drawn program is spoilt. Printed by gen/draws.py.
-/
import Derived.Test.YtjfgihmamoiipaaDrawP
namespace Go.Proofs.Ytjfgihmamoiipaa
open Go.RowKit
set_option linter.unusedVariables false

/-- one instruction changed -/
def spoilI (k v : Int) (n i : Nat) (x : I) : I :=
  if k = 0 then { x with c := (v) }
  else if k = 1 then { x with c := (32), k := (v) }
  else if k = 2 then { x with c := (96), k := (14 + v % 4) }
  else if k = 3 then { x with c := (5), k := (((n : Int) - i - 3 + v % 3) % 4294967296) }
  else if k = 4 then { x with c := (21), jt := (((n : Int) - i - 3 + v % 3) % 256) }
  else if k = 5 then { x with c := (37), jt := (0), jf := (((n : Int) - i - 3 + v % 3) % 256) }
  else if k = 6 then { x with c := (52), k := (v % 2) }
  else if k = 7 then { x with c := (100), k := (31 + v % 3) }
  else if k = 8 then { x with c := (v % 32) }
  else { x with c := (IntKind.u16.wrap (x.c + 256)) }
def spoilAt (k : Int) (n i : Nat) : Nat := if k = 8 then n - 1 else i
def spoilP (l : List Int) (j : Nat) (p : List I) : List I :=
  p.set (spoilAt (l.getD j 0 % 10) p.length ((l.getD (j + 1) 0).toNat % p.length)) (spoilI (l.getD j 0 % 10) (l.getD (j + 2) 0) p.length ((l.getD (j + 1) 0).toNat % p.length) (p.getD (spoilAt (l.getD j 0 % 10) p.length ((l.getD (j + 1) 0).toNat % p.length)) I.zero))

/-- all blocks but R and g are as they were -/
structure Grow2 (w w' : World) (R g : Nat) : Prop where
  os : w'.os = w.os
  tape : w'.tape = w.tape
  output : w'.output = w.output
  size : w.heap.size ≤ w'.heap.size
  block : ∀ q, q < w.heap.size → q ≠ R → q ≠ g → w'.heap[q]? = w.heap[q]?
theorem Grow2.of {w w1 : World} {R g : Nat} (h : w.grownBy w1 (some R)) : Grow2 w w1 R g :=
  ⟨h.os, h.tape, h.output, h.size, fun q hq h1 _ => h.block q hq (by simpa using h1)⟩
theorem Grow2.set {w w1 : World} {R g : Nat} (h : Grow2 w w1 R g) (j : Nat) (v : Value) : Grow2 w (w1.setCell ⟨g, j, none⟩ v) R g :=
  ⟨h.os, h.tape, h.output, by have := h.size; simpa [World.setCell] using this, fun q hq h1 h2 => (Below.heap_setCell w1 ⟨g, j, none⟩ v q h2).trans (h.block q hq h1 h2)⟩
theorem insCells_at (p : List I) (i : Nat) (h : i < p.length) : (insCells p)[i * 4]? = some (.int .u16 (p.getD i I.zero).c) := by
  induction p generalizing i with
  | nil => simp at h
  | cons x p ih =>
    have e : insCells (x :: p) = insC x ++ insCells p := by simp [insCells]
    have hl : (insC x).length = 4 := rfl
    rw [e]
    match i with
    | 0 => simp [insC]
    | i + 1 =>
      have hi : i < p.length := by simpa using h
      have := ih i hi
      rw [List.getElem?_append_right (by rw [hl]; omega), hl]
      rw [show (i + 1) * 4 - 4 = i * 4 by omega]
      simpa using this
theorem cell_ltg {w : World} {a : Addr} {v : Value} (h : w.cell? a = some v) : a.block < w.heap.size := by
  by_cases hb : a.block < w.heap.size
  · exact hb
  · exfalso
    simp [World.cell?, Array.getElem?_eq_none (show w.heap.size ≤ a.block by omega)] at h
theorem Rd.setG {w : World} {R cap j : Nat} {a : Option Addr} {l : List Int} (h : Rd w R a cap l j) (g i : Nat) (hg : R < g) (v : Value) : Rd (w.setCell ⟨g, i, none⟩ v) R a cap l j :=
  h.keep (fun k hk => Below.heap_setCell w ⟨g, i, none⟩ v k (by show k ≠ g; omega))

set_option maxRecDepth 100000 in
set_option maxHeartbeats 1000000 in
theorem spoil_0 (R cap : Nat) (a : Option Addr) (l : List Int) (j : Nat) (w : World) (B g pc : Nat) (p : List I) (hR : Rd w R a cap l j) (ho : ownsI w B (.slice (some ⟨g, 0, none⟩) p.length pc) p) (hB : R < B) (hp : 0 < p.length) (hp' : p.length ≤ 64) (hok : ∀ x ∈ p, x.ok) (hk : l.getD j 0 % 10 = 0) :
    Calls Try.prog 82 #[.slice (some ⟨g, 0, none⟩) p.length pc, .pointer (some ⟨R, 0, none⟩)] w fun e w' => e = .returned (.slice (some ⟨g, 0, none⟩) p.length pc) ∧ ownsI w' B (.slice (some ⟨g, 0, none⟩) p.length pc) (spoilP l j p) ∧ Rd w' R a cap l (j + 3) ∧ Grow2 w w' R g := by
  have hl := hR.bys
  have hx0 := isBytes_getD hl j
  have hx1 := isBytes_getD hl (j + 1)
  have hx2 := isBytes_getD hl (j + 2)
  have hgB : B ≤ g := ownI_ge ho g (by simp [Value.ownBlock])
  have hgc : p.length ≤ pc := by
    obtain ⟨_, h | ⟨g', cap', cur, hv, _, _, hn, _⟩⟩ := ho
    · simp at h
    · simp only [Value.slice.injEq] at hv; omega
  have HNx : Hid (∀ q W, Rd W R a cap l q → Calls Try.prog 50 #[.pointer (some ⟨R, 0, none⟩)] W fun e w' => e = .returned (.int .i64 (l.getD q 0)) ∧ Rd w' R a cap l (q + 1) ∧ W.grownBy w' (some R)) := fun q W h => next_any R cap a l q W h
  obtain ⟨i, hi⟩ : ∃ i, (l.getD (j + 1) 0).toNat % p.length = i := ⟨_, rfl⟩
  have hil : i < p.length := by rw [← hi]; exact Nat.mod_lt _ hp
  have hii : l.getD (j + 1) 0 % (p.length : Int) = (i : Int) := by
    rw [← hi, Int.natCast_emod, Int.toNat_of_nonneg hx1.1]
  have hit : (l.getD (j + 1) 0).tmod (p.length : Int) = (i : Int) := by rw [Int.tmod_eq_emod_of_nonneg hx1.1]; exact hii
  have HP : Hid (spoilP l j p = p.set i (spoilI 0 (l.getD (j + 2) 0) p.length i (p.getD i I.zero))) := by
    show _ = _
    unfold spoilP spoilAt
    rw [hk, hi]
    rw [if_neg (by omega)]
  have HO : Hid (ownsI w B (.slice (some ⟨g, 0, none⟩) p.length pc) p) := ho
  have HN0 := HNx.out j
  have HN1 := HNx.out (j + 1)
  have HN2 := HNx.out (j + 2)
  generalize spoilP l j p = PP at *
  generalize l.getD j 0 = x0 at *
  generalize l.getD (j + 1) 0 = x1 at *
  generalize l.getD (j + 2) 0 = v at *
  clear hi ho HNx
  obtain ⟨n, hn⟩ : ∃ n, p.length = n := ⟨_, rfl⟩
  have Hn : Hid (p.length = n) := hn
  rw [hn] at hp hp' hil hii hit hgc ⊢
  have HP2 : Hid (PP = p.set i (spoilI 0 v n i (p.getD i I.zero))) := by have := HP.out; rw [hn] at this; exact this
  clear HP hn
  go_enter Try.func82, Try.ntmps82
  go_wp2_with fail
  refine (HN0 w hR).mono ?_
  rintro _ w1 ⟨rfl, hR1, hg1⟩
  go_wp2_with fail
  refine (HN1 w1 hR1).mono ?_
  rintro _ w2 ⟨rfl, hR2, hg2⟩
  go_wp2_with fail
  refine (HN2 w2 hR2).mono ?_
  rintro _ w3 ⟨rfl, hR3, hg3⟩
  have hG3 := rb_trans (rb_trans hg1 hg2) hg3
  have O3 := ownI_rd HO.out hG3 hB
  have HO3 : Hid (w3.ownsRow B 36 4 (.slice (some ⟨g, 0, none⟩) n pc) n (insCells p)) := by have h := O3; unfold ownsI at h; rw [Hn.out] at h; exact h
  have hC : ∀ q, q < n * 4 → ∃ u, (insCells p)[q]? = some u ∧ w3.cell? ⟨g, q, none⟩ = some u := by
    intro q hq
    have hl := insCells_len p
    rw [Hn.out] at hl
    exact ⟨_, List.getElem?_eq_getElem (by omega), (World.ownsRow.cellAt HO3.out q (by omega)).trans (List.getElem?_eq_getElem (by omega))⟩
  have hcat := insCells_at p i (by rw [Hn.out]; omega)
  have hxok := hok (p.getD i I.zero) (by rw [List.getD_eq_getElem?_getD, List.getElem?_eq_getElem (by rw [Hn.out]; omega)]; exact List.getElem_mem _)
  obtain ⟨y0, u0, d0⟩ := hC (i * 4) (by omega)
  rw [hcat] at u0
  obtain rfl : _ = y0 := by simpa using u0
  obtain ⟨b0, b1, _⟩ := hxok
  obtain ⟨y1, _, d1⟩ := hC (i * 4 + 1) (by omega)
  obtain ⟨y2, _, d2⟩ := hC (i * 4 + 2) (by omega)
  obtain ⟨y3, _, d3⟩ := hC (i * 4 + 3) (by omega)
  have f0 := World.ownsRow.frozenAt HO3.out (i * 4)
  have f1 := World.ownsRow.frozenAt HO3.out (i * 4 + 1)
  have f2 := World.ownsRow.frozenAt HO3.out (i * 4 + 2)
  have f3 := World.ownsRow.frozenAt HO3.out (i * 4 + 3)
  have hgs : g < w3.heap.size := cell_ltg d0
  have hG2 : Grow2 w w3 R g := Grow2.of hG3
  have hRg : R < g := by omega
  have HX : Hid (∃ x, p.getD i I.zero = x) := ⟨_, rfl⟩
  clear hC hR hR1 hR2 hg1 hg2 hg3 hG3 O3 HN0 HN1 HN2 hcat u0 hok
  have HS : Hid (∀ x : I, spoilI 0 v n i x = { x with c := (v) }) := fun x => by simp [spoilI]
  have HB3 : Hid (B = B) := rfl
  go_wp2
  go_ret
  refine ⟨rfl, ?_, (Rd.setG hR3 g _ hRg _), (Grow2.set hG2 _ _)⟩
  have hai : i < p.length := by rw [Hn.out]; omega
  have a0 := ownsI_n Hn.out HO3.out hai 0 (by omega) (.int .u16 (v)) { p.getD i I.zero with c := (v) } rfl
  rw [HP2.out, HS.out]
  unfold ownsI
  rw [List.length_set, Hn.out]
  exact a0

set_option maxRecDepth 100000 in
set_option maxHeartbeats 1000000 in
theorem spoil_1 (R cap : Nat) (a : Option Addr) (l : List Int) (j : Nat) (w : World) (B g pc : Nat) (p : List I) (hR : Rd w R a cap l j) (ho : ownsI w B (.slice (some ⟨g, 0, none⟩) p.length pc) p) (hB : R < B) (hp : 0 < p.length) (hp' : p.length ≤ 64) (hok : ∀ x ∈ p, x.ok) (hk : l.getD j 0 % 10 = 1) :
    Calls Try.prog 82 #[.slice (some ⟨g, 0, none⟩) p.length pc, .pointer (some ⟨R, 0, none⟩)] w fun e w' => e = .returned (.slice (some ⟨g, 0, none⟩) p.length pc) ∧ ownsI w' B (.slice (some ⟨g, 0, none⟩) p.length pc) (spoilP l j p) ∧ Rd w' R a cap l (j + 3) ∧ Grow2 w w' R g := by
  have hl := hR.bys
  have hx0 := isBytes_getD hl j
  have hx1 := isBytes_getD hl (j + 1)
  have hx2 := isBytes_getD hl (j + 2)
  have hgB : B ≤ g := ownI_ge ho g (by simp [Value.ownBlock])
  have hgc : p.length ≤ pc := by
    obtain ⟨_, h | ⟨g', cap', cur, hv, _, _, hn, _⟩⟩ := ho
    · simp at h
    · simp only [Value.slice.injEq] at hv; omega
  have HNx : Hid (∀ q W, Rd W R a cap l q → Calls Try.prog 50 #[.pointer (some ⟨R, 0, none⟩)] W fun e w' => e = .returned (.int .i64 (l.getD q 0)) ∧ Rd w' R a cap l (q + 1) ∧ W.grownBy w' (some R)) := fun q W h => next_any R cap a l q W h
  obtain ⟨i, hi⟩ : ∃ i, (l.getD (j + 1) 0).toNat % p.length = i := ⟨_, rfl⟩
  have hil : i < p.length := by rw [← hi]; exact Nat.mod_lt _ hp
  have hii : l.getD (j + 1) 0 % (p.length : Int) = (i : Int) := by
    rw [← hi, Int.natCast_emod, Int.toNat_of_nonneg hx1.1]
  have hit : (l.getD (j + 1) 0).tmod (p.length : Int) = (i : Int) := by rw [Int.tmod_eq_emod_of_nonneg hx1.1]; exact hii
  have HP : Hid (spoilP l j p = p.set i (spoilI 1 (l.getD (j + 2) 0) p.length i (p.getD i I.zero))) := by
    show _ = _
    unfold spoilP spoilAt
    rw [hk, hi]
    rw [if_neg (by omega)]
  have HO : Hid (ownsI w B (.slice (some ⟨g, 0, none⟩) p.length pc) p) := ho
  have HN0 := HNx.out j
  have HN1 := HNx.out (j + 1)
  have HN2 := HNx.out (j + 2)
  generalize spoilP l j p = PP at *
  generalize l.getD j 0 = x0 at *
  generalize l.getD (j + 1) 0 = x1 at *
  generalize l.getD (j + 2) 0 = v at *
  clear hi ho HNx
  obtain ⟨n, hn⟩ : ∃ n, p.length = n := ⟨_, rfl⟩
  have Hn : Hid (p.length = n) := hn
  rw [hn] at hp hp' hil hii hit hgc ⊢
  have HP2 : Hid (PP = p.set i (spoilI 1 v n i (p.getD i I.zero))) := by have := HP.out; rw [hn] at this; exact this
  clear HP hn
  go_enter Try.func82, Try.ntmps82
  go_wp2_with fail
  refine (HN0 w hR).mono ?_
  rintro _ w1 ⟨rfl, hR1, hg1⟩
  go_wp2_with fail
  refine (HN1 w1 hR1).mono ?_
  rintro _ w2 ⟨rfl, hR2, hg2⟩
  go_wp2_with fail
  refine (HN2 w2 hR2).mono ?_
  rintro _ w3 ⟨rfl, hR3, hg3⟩
  have hG3 := rb_trans (rb_trans hg1 hg2) hg3
  have O3 := ownI_rd HO.out hG3 hB
  have HO3 : Hid (w3.ownsRow B 36 4 (.slice (some ⟨g, 0, none⟩) n pc) n (insCells p)) := by have h := O3; unfold ownsI at h; rw [Hn.out] at h; exact h
  have hC : ∀ q, q < n * 4 → ∃ u, (insCells p)[q]? = some u ∧ w3.cell? ⟨g, q, none⟩ = some u := by
    intro q hq
    have hl := insCells_len p
    rw [Hn.out] at hl
    exact ⟨_, List.getElem?_eq_getElem (by omega), (World.ownsRow.cellAt HO3.out q (by omega)).trans (List.getElem?_eq_getElem (by omega))⟩
  have hcat := insCells_at p i (by rw [Hn.out]; omega)
  have hxok := hok (p.getD i I.zero) (by rw [List.getD_eq_getElem?_getD, List.getElem?_eq_getElem (by rw [Hn.out]; omega)]; exact List.getElem_mem _)
  obtain ⟨y0, u0, d0⟩ := hC (i * 4) (by omega)
  rw [hcat] at u0
  obtain rfl : _ = y0 := by simpa using u0
  obtain ⟨b0, b1, _⟩ := hxok
  obtain ⟨y1, _, d1⟩ := hC (i * 4 + 1) (by omega)
  obtain ⟨y2, _, d2⟩ := hC (i * 4 + 2) (by omega)
  obtain ⟨y3, _, d3⟩ := hC (i * 4 + 3) (by omega)
  have f0 := World.ownsRow.frozenAt HO3.out (i * 4)
  have f1 := World.ownsRow.frozenAt HO3.out (i * 4 + 1)
  have f2 := World.ownsRow.frozenAt HO3.out (i * 4 + 2)
  have f3 := World.ownsRow.frozenAt HO3.out (i * 4 + 3)
  have hgs : g < w3.heap.size := cell_ltg d0
  have hG2 : Grow2 w w3 R g := Grow2.of hG3
  have hRg : R < g := by omega
  have HX : Hid (∃ x, p.getD i I.zero = x) := ⟨_, rfl⟩
  clear hC hR hR1 hR2 hg1 hg2 hg3 hG3 O3 HN0 HN1 HN2 hcat u0 hok
  have HS : Hid (∀ x : I, spoilI 1 v n i x = { x with c := (32), k := (v) }) := fun x => by simp [spoilI]
  have HB3 : Hid (B = B) := rfl
  go_wp2
  go_ret
  refine ⟨rfl, ?_, (Rd.setG (Rd.setG hR3 g _ hRg _) g _ hRg _), (Grow2.set (Grow2.set hG2 _ _) _ _)⟩
  have hai : i < p.length := by rw [Hn.out]; omega
  have a0 := ownsI_n Hn.out HO3.out hai 0 (by omega) (.int .u16 (32)) { p.getD i I.zero with c := (32) } rfl
  have a1 := ownsI_n (by simpa using Hn.out) a0 (by simpa using hai) 3 (by omega) (.int .u32 (v)) { p.getD i I.zero with c := (32), k := (v) } (by rw [getD_set hai]; rfl)
  rw [List.set_set] at a1
  rw [HP2.out, HS.out]
  unfold ownsI
  rw [List.length_set, Hn.out]
  exact a1

set_option maxRecDepth 100000 in
set_option maxHeartbeats 1000000 in
theorem spoil_2 (R cap : Nat) (a : Option Addr) (l : List Int) (j : Nat) (w : World) (B g pc : Nat) (p : List I) (hR : Rd w R a cap l j) (ho : ownsI w B (.slice (some ⟨g, 0, none⟩) p.length pc) p) (hB : R < B) (hp : 0 < p.length) (hp' : p.length ≤ 64) (hok : ∀ x ∈ p, x.ok) (hk : l.getD j 0 % 10 = 2) :
    Calls Try.prog 82 #[.slice (some ⟨g, 0, none⟩) p.length pc, .pointer (some ⟨R, 0, none⟩)] w fun e w' => e = .returned (.slice (some ⟨g, 0, none⟩) p.length pc) ∧ ownsI w' B (.slice (some ⟨g, 0, none⟩) p.length pc) (spoilP l j p) ∧ Rd w' R a cap l (j + 3) ∧ Grow2 w w' R g := by
  have hl := hR.bys
  have hx0 := isBytes_getD hl j
  have hx1 := isBytes_getD hl (j + 1)
  have hx2 := isBytes_getD hl (j + 2)
  have hgB : B ≤ g := ownI_ge ho g (by simp [Value.ownBlock])
  have hgc : p.length ≤ pc := by
    obtain ⟨_, h | ⟨g', cap', cur, hv, _, _, hn, _⟩⟩ := ho
    · simp at h
    · simp only [Value.slice.injEq] at hv; omega
  have HNx : Hid (∀ q W, Rd W R a cap l q → Calls Try.prog 50 #[.pointer (some ⟨R, 0, none⟩)] W fun e w' => e = .returned (.int .i64 (l.getD q 0)) ∧ Rd w' R a cap l (q + 1) ∧ W.grownBy w' (some R)) := fun q W h => next_any R cap a l q W h
  obtain ⟨i, hi⟩ : ∃ i, (l.getD (j + 1) 0).toNat % p.length = i := ⟨_, rfl⟩
  have hil : i < p.length := by rw [← hi]; exact Nat.mod_lt _ hp
  have hii : l.getD (j + 1) 0 % (p.length : Int) = (i : Int) := by
    rw [← hi, Int.natCast_emod, Int.toNat_of_nonneg hx1.1]
  have hit : (l.getD (j + 1) 0).tmod (p.length : Int) = (i : Int) := by rw [Int.tmod_eq_emod_of_nonneg hx1.1]; exact hii
  have HP : Hid (spoilP l j p = p.set i (spoilI 2 (l.getD (j + 2) 0) p.length i (p.getD i I.zero))) := by
    show _ = _
    unfold spoilP spoilAt
    rw [hk, hi]
    rw [if_neg (by omega)]
  have HO : Hid (ownsI w B (.slice (some ⟨g, 0, none⟩) p.length pc) p) := ho
  have HN0 := HNx.out j
  have HN1 := HNx.out (j + 1)
  have HN2 := HNx.out (j + 2)
  generalize spoilP l j p = PP at *
  generalize l.getD j 0 = x0 at *
  generalize l.getD (j + 1) 0 = x1 at *
  generalize l.getD (j + 2) 0 = v at *
  clear hi ho HNx
  obtain ⟨n, hn⟩ : ∃ n, p.length = n := ⟨_, rfl⟩
  have Hn : Hid (p.length = n) := hn
  rw [hn] at hp hp' hil hii hit hgc ⊢
  have HP2 : Hid (PP = p.set i (spoilI 2 v n i (p.getD i I.zero))) := by have := HP.out; rw [hn] at this; exact this
  clear HP hn
  go_enter Try.func82, Try.ntmps82
  go_wp2_with fail
  refine (HN0 w hR).mono ?_
  rintro _ w1 ⟨rfl, hR1, hg1⟩
  go_wp2_with fail
  refine (HN1 w1 hR1).mono ?_
  rintro _ w2 ⟨rfl, hR2, hg2⟩
  go_wp2_with fail
  refine (HN2 w2 hR2).mono ?_
  rintro _ w3 ⟨rfl, hR3, hg3⟩
  have hG3 := rb_trans (rb_trans hg1 hg2) hg3
  have O3 := ownI_rd HO.out hG3 hB
  have HO3 : Hid (w3.ownsRow B 36 4 (.slice (some ⟨g, 0, none⟩) n pc) n (insCells p)) := by have h := O3; unfold ownsI at h; rw [Hn.out] at h; exact h
  have hC : ∀ q, q < n * 4 → ∃ u, (insCells p)[q]? = some u ∧ w3.cell? ⟨g, q, none⟩ = some u := by
    intro q hq
    have hl := insCells_len p
    rw [Hn.out] at hl
    exact ⟨_, List.getElem?_eq_getElem (by omega), (World.ownsRow.cellAt HO3.out q (by omega)).trans (List.getElem?_eq_getElem (by omega))⟩
  have hcat := insCells_at p i (by rw [Hn.out]; omega)
  have hxok := hok (p.getD i I.zero) (by rw [List.getD_eq_getElem?_getD, List.getElem?_eq_getElem (by rw [Hn.out]; omega)]; exact List.getElem_mem _)
  obtain ⟨y0, u0, d0⟩ := hC (i * 4) (by omega)
  rw [hcat] at u0
  obtain rfl : _ = y0 := by simpa using u0
  obtain ⟨b0, b1, _⟩ := hxok
  obtain ⟨y1, _, d1⟩ := hC (i * 4 + 1) (by omega)
  obtain ⟨y2, _, d2⟩ := hC (i * 4 + 2) (by omega)
  obtain ⟨y3, _, d3⟩ := hC (i * 4 + 3) (by omega)
  have f0 := World.ownsRow.frozenAt HO3.out (i * 4)
  have f1 := World.ownsRow.frozenAt HO3.out (i * 4 + 1)
  have f2 := World.ownsRow.frozenAt HO3.out (i * 4 + 2)
  have f3 := World.ownsRow.frozenAt HO3.out (i * 4 + 3)
  have hgs : g < w3.heap.size := cell_ltg d0
  have hG2 : Grow2 w w3 R g := Grow2.of hG3
  have hRg : R < g := by omega
  have HX : Hid (∃ x, p.getD i I.zero = x) := ⟨_, rfl⟩
  clear hC hR hR1 hR2 hg1 hg2 hg3 hG3 O3 HN0 HN1 HN2 hcat u0 hok
  have HS : Hid (∀ x : I, spoilI 2 v n i x = { x with c := (96), k := (14 + v % 4) }) := fun x => by simp [spoilI]
  have HB3 : Hid (B = B) := rfl
  go_wp2
  go_ret
  refine ⟨rfl, ?_, (Rd.setG (Rd.setG hR3 g _ hRg _) g _ hRg _), (Grow2.set (Grow2.set hG2 _ _) _ _)⟩
  have hai : i < p.length := by rw [Hn.out]; omega
  have a0 := ownsI_n Hn.out HO3.out hai 0 (by omega) (.int .u16 (96)) { p.getD i I.zero with c := (96) } rfl
  have a1 := ownsI_n (by simpa using Hn.out) a0 (by simpa using hai) 3 (by omega) (.int .u32 (14 + v % 4)) { p.getD i I.zero with c := (96), k := (14 + v % 4) } (by rw [getD_set hai]; rfl)
  rw [List.set_set] at a1
  rw [HP2.out, HS.out]
  unfold ownsI
  rw [List.length_set, Hn.out]
  exact a1

set_option maxRecDepth 100000 in
set_option maxHeartbeats 1000000 in
theorem spoil_3 (R cap : Nat) (a : Option Addr) (l : List Int) (j : Nat) (w : World) (B g pc : Nat) (p : List I) (hR : Rd w R a cap l j) (ho : ownsI w B (.slice (some ⟨g, 0, none⟩) p.length pc) p) (hB : R < B) (hp : 0 < p.length) (hp' : p.length ≤ 64) (hok : ∀ x ∈ p, x.ok) (hk : l.getD j 0 % 10 = 3) :
    Calls Try.prog 82 #[.slice (some ⟨g, 0, none⟩) p.length pc, .pointer (some ⟨R, 0, none⟩)] w fun e w' => e = .returned (.slice (some ⟨g, 0, none⟩) p.length pc) ∧ ownsI w' B (.slice (some ⟨g, 0, none⟩) p.length pc) (spoilP l j p) ∧ Rd w' R a cap l (j + 3) ∧ Grow2 w w' R g := by
  have hl := hR.bys
  have hx0 := isBytes_getD hl j
  have hx1 := isBytes_getD hl (j + 1)
  have hx2 := isBytes_getD hl (j + 2)
  have hgB : B ≤ g := ownI_ge ho g (by simp [Value.ownBlock])
  have hgc : p.length ≤ pc := by
    obtain ⟨_, h | ⟨g', cap', cur, hv, _, _, hn, _⟩⟩ := ho
    · simp at h
    · simp only [Value.slice.injEq] at hv; omega
  have HNx : Hid (∀ q W, Rd W R a cap l q → Calls Try.prog 50 #[.pointer (some ⟨R, 0, none⟩)] W fun e w' => e = .returned (.int .i64 (l.getD q 0)) ∧ Rd w' R a cap l (q + 1) ∧ W.grownBy w' (some R)) := fun q W h => next_any R cap a l q W h
  obtain ⟨i, hi⟩ : ∃ i, (l.getD (j + 1) 0).toNat % p.length = i := ⟨_, rfl⟩
  have hil : i < p.length := by rw [← hi]; exact Nat.mod_lt _ hp
  have hii : l.getD (j + 1) 0 % (p.length : Int) = (i : Int) := by
    rw [← hi, Int.natCast_emod, Int.toNat_of_nonneg hx1.1]
  have hit : (l.getD (j + 1) 0).tmod (p.length : Int) = (i : Int) := by rw [Int.tmod_eq_emod_of_nonneg hx1.1]; exact hii
  have HP : Hid (spoilP l j p = p.set i (spoilI 3 (l.getD (j + 2) 0) p.length i (p.getD i I.zero))) := by
    show _ = _
    unfold spoilP spoilAt
    rw [hk, hi]
    rw [if_neg (by omega)]
  have HO : Hid (ownsI w B (.slice (some ⟨g, 0, none⟩) p.length pc) p) := ho
  have HN0 := HNx.out j
  have HN1 := HNx.out (j + 1)
  have HN2 := HNx.out (j + 2)
  generalize spoilP l j p = PP at *
  generalize l.getD j 0 = x0 at *
  generalize l.getD (j + 1) 0 = x1 at *
  generalize l.getD (j + 2) 0 = v at *
  clear hi ho HNx
  obtain ⟨n, hn⟩ : ∃ n, p.length = n := ⟨_, rfl⟩
  have Hn : Hid (p.length = n) := hn
  rw [hn] at hp hp' hil hii hit hgc ⊢
  have HP2 : Hid (PP = p.set i (spoilI 3 v n i (p.getD i I.zero))) := by have := HP.out; rw [hn] at this; exact this
  clear HP hn
  go_enter Try.func82, Try.ntmps82
  go_wp2_with fail
  refine (HN0 w hR).mono ?_
  rintro _ w1 ⟨rfl, hR1, hg1⟩
  go_wp2_with fail
  refine (HN1 w1 hR1).mono ?_
  rintro _ w2 ⟨rfl, hR2, hg2⟩
  go_wp2_with fail
  refine (HN2 w2 hR2).mono ?_
  rintro _ w3 ⟨rfl, hR3, hg3⟩
  have hG3 := rb_trans (rb_trans hg1 hg2) hg3
  have O3 := ownI_rd HO.out hG3 hB
  have HO3 : Hid (w3.ownsRow B 36 4 (.slice (some ⟨g, 0, none⟩) n pc) n (insCells p)) := by have h := O3; unfold ownsI at h; rw [Hn.out] at h; exact h
  have hC : ∀ q, q < n * 4 → ∃ u, (insCells p)[q]? = some u ∧ w3.cell? ⟨g, q, none⟩ = some u := by
    intro q hq
    have hl := insCells_len p
    rw [Hn.out] at hl
    exact ⟨_, List.getElem?_eq_getElem (by omega), (World.ownsRow.cellAt HO3.out q (by omega)).trans (List.getElem?_eq_getElem (by omega))⟩
  have hcat := insCells_at p i (by rw [Hn.out]; omega)
  have hxok := hok (p.getD i I.zero) (by rw [List.getD_eq_getElem?_getD, List.getElem?_eq_getElem (by rw [Hn.out]; omega)]; exact List.getElem_mem _)
  obtain ⟨y0, u0, d0⟩ := hC (i * 4) (by omega)
  rw [hcat] at u0
  obtain rfl : _ = y0 := by simpa using u0
  obtain ⟨b0, b1, _⟩ := hxok
  obtain ⟨y1, _, d1⟩ := hC (i * 4 + 1) (by omega)
  obtain ⟨y2, _, d2⟩ := hC (i * 4 + 2) (by omega)
  obtain ⟨y3, _, d3⟩ := hC (i * 4 + 3) (by omega)
  have f0 := World.ownsRow.frozenAt HO3.out (i * 4)
  have f1 := World.ownsRow.frozenAt HO3.out (i * 4 + 1)
  have f2 := World.ownsRow.frozenAt HO3.out (i * 4 + 2)
  have f3 := World.ownsRow.frozenAt HO3.out (i * 4 + 3)
  have hgs : g < w3.heap.size := cell_ltg d0
  have hG2 : Grow2 w w3 R g := Grow2.of hG3
  have hRg : R < g := by omega
  have HX : Hid (∃ x, p.getD i I.zero = x) := ⟨_, rfl⟩
  clear hC hR hR1 hR2 hg1 hg2 hg3 hG3 O3 HN0 HN1 HN2 hcat u0 hok
  have HS : Hid (∀ x : I, spoilI 3 v n i x = { x with c := (5), k := (((n : Int) - i - 3 + v % 3) % 4294967296) }) := fun x => by simp [spoilI]
  have HB3 : Hid (B = B) := rfl
  go_wp2
  go_ret
  refine ⟨rfl, ?_, (Rd.setG (Rd.setG hR3 g _ hRg _) g _ hRg _), (Grow2.set (Grow2.set hG2 _ _) _ _)⟩
  have hai : i < p.length := by rw [Hn.out]; omega
  have a0 := ownsI_n Hn.out HO3.out hai 0 (by omega) (.int .u16 (5)) { p.getD i I.zero with c := (5) } rfl
  have a1 := ownsI_n (by simpa using Hn.out) a0 (by simpa using hai) 3 (by omega) (.int .u32 (((n : Int) - i - 3 + v % 3) % 4294967296)) { p.getD i I.zero with c := (5), k := (((n : Int) - i - 3 + v % 3) % 4294967296) } (by rw [getD_set hai]; rfl)
  rw [List.set_set] at a1
  rw [HP2.out, HS.out]
  unfold ownsI
  rw [List.length_set, Hn.out]
  exact a1

set_option maxRecDepth 100000 in
set_option maxHeartbeats 1000000 in
theorem spoil_4 (R cap : Nat) (a : Option Addr) (l : List Int) (j : Nat) (w : World) (B g pc : Nat) (p : List I) (hR : Rd w R a cap l j) (ho : ownsI w B (.slice (some ⟨g, 0, none⟩) p.length pc) p) (hB : R < B) (hp : 0 < p.length) (hp' : p.length ≤ 64) (hok : ∀ x ∈ p, x.ok) (hk : l.getD j 0 % 10 = 4) :
    Calls Try.prog 82 #[.slice (some ⟨g, 0, none⟩) p.length pc, .pointer (some ⟨R, 0, none⟩)] w fun e w' => e = .returned (.slice (some ⟨g, 0, none⟩) p.length pc) ∧ ownsI w' B (.slice (some ⟨g, 0, none⟩) p.length pc) (spoilP l j p) ∧ Rd w' R a cap l (j + 3) ∧ Grow2 w w' R g := by
  have hl := hR.bys
  have hx0 := isBytes_getD hl j
  have hx1 := isBytes_getD hl (j + 1)
  have hx2 := isBytes_getD hl (j + 2)
  have hgB : B ≤ g := ownI_ge ho g (by simp [Value.ownBlock])
  have hgc : p.length ≤ pc := by
    obtain ⟨_, h | ⟨g', cap', cur, hv, _, _, hn, _⟩⟩ := ho
    · simp at h
    · simp only [Value.slice.injEq] at hv; omega
  have HNx : Hid (∀ q W, Rd W R a cap l q → Calls Try.prog 50 #[.pointer (some ⟨R, 0, none⟩)] W fun e w' => e = .returned (.int .i64 (l.getD q 0)) ∧ Rd w' R a cap l (q + 1) ∧ W.grownBy w' (some R)) := fun q W h => next_any R cap a l q W h
  obtain ⟨i, hi⟩ : ∃ i, (l.getD (j + 1) 0).toNat % p.length = i := ⟨_, rfl⟩
  have hil : i < p.length := by rw [← hi]; exact Nat.mod_lt _ hp
  have hii : l.getD (j + 1) 0 % (p.length : Int) = (i : Int) := by
    rw [← hi, Int.natCast_emod, Int.toNat_of_nonneg hx1.1]
  have hit : (l.getD (j + 1) 0).tmod (p.length : Int) = (i : Int) := by rw [Int.tmod_eq_emod_of_nonneg hx1.1]; exact hii
  have HP : Hid (spoilP l j p = p.set i (spoilI 4 (l.getD (j + 2) 0) p.length i (p.getD i I.zero))) := by
    show _ = _
    unfold spoilP spoilAt
    rw [hk, hi]
    rw [if_neg (by omega)]
  have HO : Hid (ownsI w B (.slice (some ⟨g, 0, none⟩) p.length pc) p) := ho
  have HN0 := HNx.out j
  have HN1 := HNx.out (j + 1)
  have HN2 := HNx.out (j + 2)
  generalize spoilP l j p = PP at *
  generalize l.getD j 0 = x0 at *
  generalize l.getD (j + 1) 0 = x1 at *
  generalize l.getD (j + 2) 0 = v at *
  clear hi ho HNx
  obtain ⟨n, hn⟩ : ∃ n, p.length = n := ⟨_, rfl⟩
  have Hn : Hid (p.length = n) := hn
  rw [hn] at hp hp' hil hii hit hgc ⊢
  have HP2 : Hid (PP = p.set i (spoilI 4 v n i (p.getD i I.zero))) := by have := HP.out; rw [hn] at this; exact this
  clear HP hn
  go_enter Try.func82, Try.ntmps82
  go_wp2_with fail
  refine (HN0 w hR).mono ?_
  rintro _ w1 ⟨rfl, hR1, hg1⟩
  go_wp2_with fail
  refine (HN1 w1 hR1).mono ?_
  rintro _ w2 ⟨rfl, hR2, hg2⟩
  go_wp2_with fail
  refine (HN2 w2 hR2).mono ?_
  rintro _ w3 ⟨rfl, hR3, hg3⟩
  have hG3 := rb_trans (rb_trans hg1 hg2) hg3
  have O3 := ownI_rd HO.out hG3 hB
  have HO3 : Hid (w3.ownsRow B 36 4 (.slice (some ⟨g, 0, none⟩) n pc) n (insCells p)) := by have h := O3; unfold ownsI at h; rw [Hn.out] at h; exact h
  have hC : ∀ q, q < n * 4 → ∃ u, (insCells p)[q]? = some u ∧ w3.cell? ⟨g, q, none⟩ = some u := by
    intro q hq
    have hl := insCells_len p
    rw [Hn.out] at hl
    exact ⟨_, List.getElem?_eq_getElem (by omega), (World.ownsRow.cellAt HO3.out q (by omega)).trans (List.getElem?_eq_getElem (by omega))⟩
  have hcat := insCells_at p i (by rw [Hn.out]; omega)
  have hxok := hok (p.getD i I.zero) (by rw [List.getD_eq_getElem?_getD, List.getElem?_eq_getElem (by rw [Hn.out]; omega)]; exact List.getElem_mem _)
  obtain ⟨y0, u0, d0⟩ := hC (i * 4) (by omega)
  rw [hcat] at u0
  obtain rfl : _ = y0 := by simpa using u0
  obtain ⟨b0, b1, _⟩ := hxok
  obtain ⟨y1, _, d1⟩ := hC (i * 4 + 1) (by omega)
  obtain ⟨y2, _, d2⟩ := hC (i * 4 + 2) (by omega)
  obtain ⟨y3, _, d3⟩ := hC (i * 4 + 3) (by omega)
  have f0 := World.ownsRow.frozenAt HO3.out (i * 4)
  have f1 := World.ownsRow.frozenAt HO3.out (i * 4 + 1)
  have f2 := World.ownsRow.frozenAt HO3.out (i * 4 + 2)
  have f3 := World.ownsRow.frozenAt HO3.out (i * 4 + 3)
  have hgs : g < w3.heap.size := cell_ltg d0
  have hG2 : Grow2 w w3 R g := Grow2.of hG3
  have hRg : R < g := by omega
  have HX : Hid (∃ x, p.getD i I.zero = x) := ⟨_, rfl⟩
  clear hC hR hR1 hR2 hg1 hg2 hg3 hG3 O3 HN0 HN1 HN2 hcat u0 hok
  have HS : Hid (∀ x : I, spoilI 4 v n i x = { x with c := (21), jt := (((n : Int) - i - 3 + v % 3) % 256) }) := fun x => by simp [spoilI]
  have HB3 : Hid (B = B) := rfl
  go_wp2
  go_ret
  refine ⟨rfl, ?_, (Rd.setG (Rd.setG hR3 g _ hRg _) g _ hRg _), (Grow2.set (Grow2.set hG2 _ _) _ _)⟩
  have hai : i < p.length := by rw [Hn.out]; omega
  have a0 := ownsI_n Hn.out HO3.out hai 0 (by omega) (.int .u16 (21)) { p.getD i I.zero with c := (21) } rfl
  have a1 := ownsI_n (by simpa using Hn.out) a0 (by simpa using hai) 1 (by omega) (.int .u8 (((n : Int) - i - 3 + v % 3) % 256)) { p.getD i I.zero with c := (21), jt := (((n : Int) - i - 3 + v % 3) % 256) } (by rw [getD_set hai]; rfl)
  rw [List.set_set] at a1
  rw [HP2.out, HS.out]
  unfold ownsI
  rw [List.length_set, Hn.out]
  exact a1

set_option maxRecDepth 100000 in
set_option maxHeartbeats 1000000 in
theorem spoil_5 (R cap : Nat) (a : Option Addr) (l : List Int) (j : Nat) (w : World) (B g pc : Nat) (p : List I) (hR : Rd w R a cap l j) (ho : ownsI w B (.slice (some ⟨g, 0, none⟩) p.length pc) p) (hB : R < B) (hp : 0 < p.length) (hp' : p.length ≤ 64) (hok : ∀ x ∈ p, x.ok) (hk : l.getD j 0 % 10 = 5) :
    Calls Try.prog 82 #[.slice (some ⟨g, 0, none⟩) p.length pc, .pointer (some ⟨R, 0, none⟩)] w fun e w' => e = .returned (.slice (some ⟨g, 0, none⟩) p.length pc) ∧ ownsI w' B (.slice (some ⟨g, 0, none⟩) p.length pc) (spoilP l j p) ∧ Rd w' R a cap l (j + 3) ∧ Grow2 w w' R g := by
  have hl := hR.bys
  have hx0 := isBytes_getD hl j
  have hx1 := isBytes_getD hl (j + 1)
  have hx2 := isBytes_getD hl (j + 2)
  have hgB : B ≤ g := ownI_ge ho g (by simp [Value.ownBlock])
  have hgc : p.length ≤ pc := by
    obtain ⟨_, h | ⟨g', cap', cur, hv, _, _, hn, _⟩⟩ := ho
    · simp at h
    · simp only [Value.slice.injEq] at hv; omega
  have HNx : Hid (∀ q W, Rd W R a cap l q → Calls Try.prog 50 #[.pointer (some ⟨R, 0, none⟩)] W fun e w' => e = .returned (.int .i64 (l.getD q 0)) ∧ Rd w' R a cap l (q + 1) ∧ W.grownBy w' (some R)) := fun q W h => next_any R cap a l q W h
  obtain ⟨i, hi⟩ : ∃ i, (l.getD (j + 1) 0).toNat % p.length = i := ⟨_, rfl⟩
  have hil : i < p.length := by rw [← hi]; exact Nat.mod_lt _ hp
  have hii : l.getD (j + 1) 0 % (p.length : Int) = (i : Int) := by
    rw [← hi, Int.natCast_emod, Int.toNat_of_nonneg hx1.1]
  have hit : (l.getD (j + 1) 0).tmod (p.length : Int) = (i : Int) := by rw [Int.tmod_eq_emod_of_nonneg hx1.1]; exact hii
  have HP : Hid (spoilP l j p = p.set i (spoilI 5 (l.getD (j + 2) 0) p.length i (p.getD i I.zero))) := by
    show _ = _
    unfold spoilP spoilAt
    rw [hk, hi]
    rw [if_neg (by omega)]
  have HO : Hid (ownsI w B (.slice (some ⟨g, 0, none⟩) p.length pc) p) := ho
  have HN0 := HNx.out j
  have HN1 := HNx.out (j + 1)
  have HN2 := HNx.out (j + 2)
  generalize spoilP l j p = PP at *
  generalize l.getD j 0 = x0 at *
  generalize l.getD (j + 1) 0 = x1 at *
  generalize l.getD (j + 2) 0 = v at *
  clear hi ho HNx
  obtain ⟨n, hn⟩ : ∃ n, p.length = n := ⟨_, rfl⟩
  have Hn : Hid (p.length = n) := hn
  rw [hn] at hp hp' hil hii hit hgc ⊢
  have HP2 : Hid (PP = p.set i (spoilI 5 v n i (p.getD i I.zero))) := by have := HP.out; rw [hn] at this; exact this
  clear HP hn
  go_enter Try.func82, Try.ntmps82
  go_wp2_with fail
  refine (HN0 w hR).mono ?_
  rintro _ w1 ⟨rfl, hR1, hg1⟩
  go_wp2_with fail
  refine (HN1 w1 hR1).mono ?_
  rintro _ w2 ⟨rfl, hR2, hg2⟩
  go_wp2_with fail
  refine (HN2 w2 hR2).mono ?_
  rintro _ w3 ⟨rfl, hR3, hg3⟩
  have hG3 := rb_trans (rb_trans hg1 hg2) hg3
  have O3 := ownI_rd HO.out hG3 hB
  have HO3 : Hid (w3.ownsRow B 36 4 (.slice (some ⟨g, 0, none⟩) n pc) n (insCells p)) := by have h := O3; unfold ownsI at h; rw [Hn.out] at h; exact h
  have hC : ∀ q, q < n * 4 → ∃ u, (insCells p)[q]? = some u ∧ w3.cell? ⟨g, q, none⟩ = some u := by
    intro q hq
    have hl := insCells_len p
    rw [Hn.out] at hl
    exact ⟨_, List.getElem?_eq_getElem (by omega), (World.ownsRow.cellAt HO3.out q (by omega)).trans (List.getElem?_eq_getElem (by omega))⟩
  have hcat := insCells_at p i (by rw [Hn.out]; omega)
  have hxok := hok (p.getD i I.zero) (by rw [List.getD_eq_getElem?_getD, List.getElem?_eq_getElem (by rw [Hn.out]; omega)]; exact List.getElem_mem _)
  obtain ⟨y0, u0, d0⟩ := hC (i * 4) (by omega)
  rw [hcat] at u0
  obtain rfl : _ = y0 := by simpa using u0
  obtain ⟨b0, b1, _⟩ := hxok
  obtain ⟨y1, _, d1⟩ := hC (i * 4 + 1) (by omega)
  obtain ⟨y2, _, d2⟩ := hC (i * 4 + 2) (by omega)
  obtain ⟨y3, _, d3⟩ := hC (i * 4 + 3) (by omega)
  have f0 := World.ownsRow.frozenAt HO3.out (i * 4)
  have f1 := World.ownsRow.frozenAt HO3.out (i * 4 + 1)
  have f2 := World.ownsRow.frozenAt HO3.out (i * 4 + 2)
  have f3 := World.ownsRow.frozenAt HO3.out (i * 4 + 3)
  have hgs : g < w3.heap.size := cell_ltg d0
  have hG2 : Grow2 w w3 R g := Grow2.of hG3
  have hRg : R < g := by omega
  have HX : Hid (∃ x, p.getD i I.zero = x) := ⟨_, rfl⟩
  clear hC hR hR1 hR2 hg1 hg2 hg3 hG3 O3 HN0 HN1 HN2 hcat u0 hok
  have HS : Hid (∀ x : I, spoilI 5 v n i x = { x with c := (37), jt := (0), jf := (((n : Int) - i - 3 + v % 3) % 256) }) := fun x => by simp [spoilI]
  have HB3 : Hid (B = B) := rfl
  go_wp2
  go_ret
  refine ⟨rfl, ?_, (Rd.setG (Rd.setG (Rd.setG hR3 g _ hRg _) g _ hRg _) g _ hRg _), (Grow2.set (Grow2.set (Grow2.set hG2 _ _) _ _) _ _)⟩
  have hai : i < p.length := by rw [Hn.out]; omega
  have a0 := ownsI_n Hn.out HO3.out hai 0 (by omega) (.int .u16 (37)) { p.getD i I.zero with c := (37) } rfl
  have a1 := ownsI_n (by simpa using Hn.out) a0 (by simpa using hai) 1 (by omega) (.int .u8 (0)) { p.getD i I.zero with c := (37), jt := (0) } (by rw [getD_set hai]; rfl)
  rw [List.set_set] at a1
  have a2 := ownsI_n (by simpa using Hn.out) a1 (by simpa using hai) 2 (by omega) (.int .u8 (((n : Int) - i - 3 + v % 3) % 256)) { p.getD i I.zero with c := (37), jt := (0), jf := (((n : Int) - i - 3 + v % 3) % 256) } (by rw [getD_set hai]; rfl)
  rw [List.set_set] at a2
  rw [HP2.out, HS.out]
  unfold ownsI
  rw [List.length_set, Hn.out]
  exact a2

set_option maxRecDepth 100000 in
set_option maxHeartbeats 1000000 in
theorem spoil_6 (R cap : Nat) (a : Option Addr) (l : List Int) (j : Nat) (w : World) (B g pc : Nat) (p : List I) (hR : Rd w R a cap l j) (ho : ownsI w B (.slice (some ⟨g, 0, none⟩) p.length pc) p) (hB : R < B) (hp : 0 < p.length) (hp' : p.length ≤ 64) (hok : ∀ x ∈ p, x.ok) (hk : l.getD j 0 % 10 = 6) :
    Calls Try.prog 82 #[.slice (some ⟨g, 0, none⟩) p.length pc, .pointer (some ⟨R, 0, none⟩)] w fun e w' => e = .returned (.slice (some ⟨g, 0, none⟩) p.length pc) ∧ ownsI w' B (.slice (some ⟨g, 0, none⟩) p.length pc) (spoilP l j p) ∧ Rd w' R a cap l (j + 3) ∧ Grow2 w w' R g := by
  have hl := hR.bys
  have hx0 := isBytes_getD hl j
  have hx1 := isBytes_getD hl (j + 1)
  have hx2 := isBytes_getD hl (j + 2)
  have hgB : B ≤ g := ownI_ge ho g (by simp [Value.ownBlock])
  have hgc : p.length ≤ pc := by
    obtain ⟨_, h | ⟨g', cap', cur, hv, _, _, hn, _⟩⟩ := ho
    · simp at h
    · simp only [Value.slice.injEq] at hv; omega
  have HNx : Hid (∀ q W, Rd W R a cap l q → Calls Try.prog 50 #[.pointer (some ⟨R, 0, none⟩)] W fun e w' => e = .returned (.int .i64 (l.getD q 0)) ∧ Rd w' R a cap l (q + 1) ∧ W.grownBy w' (some R)) := fun q W h => next_any R cap a l q W h
  obtain ⟨i, hi⟩ : ∃ i, (l.getD (j + 1) 0).toNat % p.length = i := ⟨_, rfl⟩
  have hil : i < p.length := by rw [← hi]; exact Nat.mod_lt _ hp
  have hii : l.getD (j + 1) 0 % (p.length : Int) = (i : Int) := by
    rw [← hi, Int.natCast_emod, Int.toNat_of_nonneg hx1.1]
  have hit : (l.getD (j + 1) 0).tmod (p.length : Int) = (i : Int) := by rw [Int.tmod_eq_emod_of_nonneg hx1.1]; exact hii
  have HP : Hid (spoilP l j p = p.set i (spoilI 6 (l.getD (j + 2) 0) p.length i (p.getD i I.zero))) := by
    show _ = _
    unfold spoilP spoilAt
    rw [hk, hi]
    rw [if_neg (by omega)]
  have HO : Hid (ownsI w B (.slice (some ⟨g, 0, none⟩) p.length pc) p) := ho
  have HN0 := HNx.out j
  have HN1 := HNx.out (j + 1)
  have HN2 := HNx.out (j + 2)
  generalize spoilP l j p = PP at *
  generalize l.getD j 0 = x0 at *
  generalize l.getD (j + 1) 0 = x1 at *
  generalize l.getD (j + 2) 0 = v at *
  clear hi ho HNx
  obtain ⟨n, hn⟩ : ∃ n, p.length = n := ⟨_, rfl⟩
  have Hn : Hid (p.length = n) := hn
  rw [hn] at hp hp' hil hii hit hgc ⊢
  have HP2 : Hid (PP = p.set i (spoilI 6 v n i (p.getD i I.zero))) := by have := HP.out; rw [hn] at this; exact this
  clear HP hn
  go_enter Try.func82, Try.ntmps82
  go_wp2_with fail
  refine (HN0 w hR).mono ?_
  rintro _ w1 ⟨rfl, hR1, hg1⟩
  go_wp2_with fail
  refine (HN1 w1 hR1).mono ?_
  rintro _ w2 ⟨rfl, hR2, hg2⟩
  go_wp2_with fail
  refine (HN2 w2 hR2).mono ?_
  rintro _ w3 ⟨rfl, hR3, hg3⟩
  have hG3 := rb_trans (rb_trans hg1 hg2) hg3
  have O3 := ownI_rd HO.out hG3 hB
  have HO3 : Hid (w3.ownsRow B 36 4 (.slice (some ⟨g, 0, none⟩) n pc) n (insCells p)) := by have h := O3; unfold ownsI at h; rw [Hn.out] at h; exact h
  have hC : ∀ q, q < n * 4 → ∃ u, (insCells p)[q]? = some u ∧ w3.cell? ⟨g, q, none⟩ = some u := by
    intro q hq
    have hl := insCells_len p
    rw [Hn.out] at hl
    exact ⟨_, List.getElem?_eq_getElem (by omega), (World.ownsRow.cellAt HO3.out q (by omega)).trans (List.getElem?_eq_getElem (by omega))⟩
  have hcat := insCells_at p i (by rw [Hn.out]; omega)
  have hxok := hok (p.getD i I.zero) (by rw [List.getD_eq_getElem?_getD, List.getElem?_eq_getElem (by rw [Hn.out]; omega)]; exact List.getElem_mem _)
  obtain ⟨y0, u0, d0⟩ := hC (i * 4) (by omega)
  rw [hcat] at u0
  obtain rfl : _ = y0 := by simpa using u0
  obtain ⟨b0, b1, _⟩ := hxok
  obtain ⟨y1, _, d1⟩ := hC (i * 4 + 1) (by omega)
  obtain ⟨y2, _, d2⟩ := hC (i * 4 + 2) (by omega)
  obtain ⟨y3, _, d3⟩ := hC (i * 4 + 3) (by omega)
  have f0 := World.ownsRow.frozenAt HO3.out (i * 4)
  have f1 := World.ownsRow.frozenAt HO3.out (i * 4 + 1)
  have f2 := World.ownsRow.frozenAt HO3.out (i * 4 + 2)
  have f3 := World.ownsRow.frozenAt HO3.out (i * 4 + 3)
  have hgs : g < w3.heap.size := cell_ltg d0
  have hG2 : Grow2 w w3 R g := Grow2.of hG3
  have hRg : R < g := by omega
  have HX : Hid (∃ x, p.getD i I.zero = x) := ⟨_, rfl⟩
  clear hC hR hR1 hR2 hg1 hg2 hg3 hG3 O3 HN0 HN1 HN2 hcat u0 hok
  have HS : Hid (∀ x : I, spoilI 6 v n i x = { x with c := (52), k := (v % 2) }) := fun x => by simp [spoilI]
  have HB3 : Hid (B = B) := rfl
  go_wp2
  go_ret
  refine ⟨rfl, ?_, (Rd.setG (Rd.setG hR3 g _ hRg _) g _ hRg _), (Grow2.set (Grow2.set hG2 _ _) _ _)⟩
  have hai : i < p.length := by rw [Hn.out]; omega
  have a0 := ownsI_n Hn.out HO3.out hai 0 (by omega) (.int .u16 (52)) { p.getD i I.zero with c := (52) } rfl
  have a1 := ownsI_n (by simpa using Hn.out) a0 (by simpa using hai) 3 (by omega) (.int .u32 (v % 2)) { p.getD i I.zero with c := (52), k := (v % 2) } (by rw [getD_set hai]; rfl)
  rw [List.set_set] at a1
  rw [HP2.out, HS.out]
  unfold ownsI
  rw [List.length_set, Hn.out]
  exact a1

set_option maxRecDepth 100000 in
set_option maxHeartbeats 1000000 in
theorem spoil_7 (R cap : Nat) (a : Option Addr) (l : List Int) (j : Nat) (w : World) (B g pc : Nat) (p : List I) (hR : Rd w R a cap l j) (ho : ownsI w B (.slice (some ⟨g, 0, none⟩) p.length pc) p) (hB : R < B) (hp : 0 < p.length) (hp' : p.length ≤ 64) (hok : ∀ x ∈ p, x.ok) (hk : l.getD j 0 % 10 = 7) :
    Calls Try.prog 82 #[.slice (some ⟨g, 0, none⟩) p.length pc, .pointer (some ⟨R, 0, none⟩)] w fun e w' => e = .returned (.slice (some ⟨g, 0, none⟩) p.length pc) ∧ ownsI w' B (.slice (some ⟨g, 0, none⟩) p.length pc) (spoilP l j p) ∧ Rd w' R a cap l (j + 3) ∧ Grow2 w w' R g := by
  have hl := hR.bys
  have hx0 := isBytes_getD hl j
  have hx1 := isBytes_getD hl (j + 1)
  have hx2 := isBytes_getD hl (j + 2)
  have hgB : B ≤ g := ownI_ge ho g (by simp [Value.ownBlock])
  have hgc : p.length ≤ pc := by
    obtain ⟨_, h | ⟨g', cap', cur, hv, _, _, hn, _⟩⟩ := ho
    · simp at h
    · simp only [Value.slice.injEq] at hv; omega
  have HNx : Hid (∀ q W, Rd W R a cap l q → Calls Try.prog 50 #[.pointer (some ⟨R, 0, none⟩)] W fun e w' => e = .returned (.int .i64 (l.getD q 0)) ∧ Rd w' R a cap l (q + 1) ∧ W.grownBy w' (some R)) := fun q W h => next_any R cap a l q W h
  obtain ⟨i, hi⟩ : ∃ i, (l.getD (j + 1) 0).toNat % p.length = i := ⟨_, rfl⟩
  have hil : i < p.length := by rw [← hi]; exact Nat.mod_lt _ hp
  have hii : l.getD (j + 1) 0 % (p.length : Int) = (i : Int) := by
    rw [← hi, Int.natCast_emod, Int.toNat_of_nonneg hx1.1]
  have hit : (l.getD (j + 1) 0).tmod (p.length : Int) = (i : Int) := by rw [Int.tmod_eq_emod_of_nonneg hx1.1]; exact hii
  have HP : Hid (spoilP l j p = p.set i (spoilI 7 (l.getD (j + 2) 0) p.length i (p.getD i I.zero))) := by
    show _ = _
    unfold spoilP spoilAt
    rw [hk, hi]
    rw [if_neg (by omega)]
  have HO : Hid (ownsI w B (.slice (some ⟨g, 0, none⟩) p.length pc) p) := ho
  have HN0 := HNx.out j
  have HN1 := HNx.out (j + 1)
  have HN2 := HNx.out (j + 2)
  generalize spoilP l j p = PP at *
  generalize l.getD j 0 = x0 at *
  generalize l.getD (j + 1) 0 = x1 at *
  generalize l.getD (j + 2) 0 = v at *
  clear hi ho HNx
  obtain ⟨n, hn⟩ : ∃ n, p.length = n := ⟨_, rfl⟩
  have Hn : Hid (p.length = n) := hn
  rw [hn] at hp hp' hil hii hit hgc ⊢
  have HP2 : Hid (PP = p.set i (spoilI 7 v n i (p.getD i I.zero))) := by have := HP.out; rw [hn] at this; exact this
  clear HP hn
  go_enter Try.func82, Try.ntmps82
  go_wp2_with fail
  refine (HN0 w hR).mono ?_
  rintro _ w1 ⟨rfl, hR1, hg1⟩
  go_wp2_with fail
  refine (HN1 w1 hR1).mono ?_
  rintro _ w2 ⟨rfl, hR2, hg2⟩
  go_wp2_with fail
  refine (HN2 w2 hR2).mono ?_
  rintro _ w3 ⟨rfl, hR3, hg3⟩
  have hG3 := rb_trans (rb_trans hg1 hg2) hg3
  have O3 := ownI_rd HO.out hG3 hB
  have HO3 : Hid (w3.ownsRow B 36 4 (.slice (some ⟨g, 0, none⟩) n pc) n (insCells p)) := by have h := O3; unfold ownsI at h; rw [Hn.out] at h; exact h
  have hC : ∀ q, q < n * 4 → ∃ u, (insCells p)[q]? = some u ∧ w3.cell? ⟨g, q, none⟩ = some u := by
    intro q hq
    have hl := insCells_len p
    rw [Hn.out] at hl
    exact ⟨_, List.getElem?_eq_getElem (by omega), (World.ownsRow.cellAt HO3.out q (by omega)).trans (List.getElem?_eq_getElem (by omega))⟩
  have hcat := insCells_at p i (by rw [Hn.out]; omega)
  have hxok := hok (p.getD i I.zero) (by rw [List.getD_eq_getElem?_getD, List.getElem?_eq_getElem (by rw [Hn.out]; omega)]; exact List.getElem_mem _)
  obtain ⟨y0, u0, d0⟩ := hC (i * 4) (by omega)
  rw [hcat] at u0
  obtain rfl : _ = y0 := by simpa using u0
  obtain ⟨b0, b1, _⟩ := hxok
  obtain ⟨y1, _, d1⟩ := hC (i * 4 + 1) (by omega)
  obtain ⟨y2, _, d2⟩ := hC (i * 4 + 2) (by omega)
  obtain ⟨y3, _, d3⟩ := hC (i * 4 + 3) (by omega)
  have f0 := World.ownsRow.frozenAt HO3.out (i * 4)
  have f1 := World.ownsRow.frozenAt HO3.out (i * 4 + 1)
  have f2 := World.ownsRow.frozenAt HO3.out (i * 4 + 2)
  have f3 := World.ownsRow.frozenAt HO3.out (i * 4 + 3)
  have hgs : g < w3.heap.size := cell_ltg d0
  have hG2 : Grow2 w w3 R g := Grow2.of hG3
  have hRg : R < g := by omega
  have HX : Hid (∃ x, p.getD i I.zero = x) := ⟨_, rfl⟩
  clear hC hR hR1 hR2 hg1 hg2 hg3 hG3 O3 HN0 HN1 HN2 hcat u0 hok
  have HS : Hid (∀ x : I, spoilI 7 v n i x = { x with c := (100), k := (31 + v % 3) }) := fun x => by simp [spoilI]
  have HB3 : Hid (B = B) := rfl
  go_wp2
  go_ret
  refine ⟨rfl, ?_, (Rd.setG (Rd.setG hR3 g _ hRg _) g _ hRg _), (Grow2.set (Grow2.set hG2 _ _) _ _)⟩
  have hai : i < p.length := by rw [Hn.out]; omega
  have a0 := ownsI_n Hn.out HO3.out hai 0 (by omega) (.int .u16 (100)) { p.getD i I.zero with c := (100) } rfl
  have a1 := ownsI_n (by simpa using Hn.out) a0 (by simpa using hai) 3 (by omega) (.int .u32 (31 + v % 3)) { p.getD i I.zero with c := (100), k := (31 + v % 3) } (by rw [getD_set hai]; rfl)
  rw [List.set_set] at a1
  rw [HP2.out, HS.out]
  unfold ownsI
  rw [List.length_set, Hn.out]
  exact a1

set_option maxRecDepth 100000 in
set_option maxHeartbeats 1000000 in
theorem spoil_8 (R cap : Nat) (a : Option Addr) (l : List Int) (j : Nat) (w : World) (B g pc : Nat) (p : List I) (hR : Rd w R a cap l j) (ho : ownsI w B (.slice (some ⟨g, 0, none⟩) p.length pc) p) (hB : R < B) (hp : 0 < p.length) (hp' : p.length ≤ 64) (hok : ∀ x ∈ p, x.ok) (hk : l.getD j 0 % 10 = 8) :
    Calls Try.prog 82 #[.slice (some ⟨g, 0, none⟩) p.length pc, .pointer (some ⟨R, 0, none⟩)] w fun e w' => e = .returned (.slice (some ⟨g, 0, none⟩) p.length pc) ∧ ownsI w' B (.slice (some ⟨g, 0, none⟩) p.length pc) (spoilP l j p) ∧ Rd w' R a cap l (j + 3) ∧ Grow2 w w' R g := by
  have hl := hR.bys
  have hx0 := isBytes_getD hl j
  have hx1 := isBytes_getD hl (j + 1)
  have hx2 := isBytes_getD hl (j + 2)
  have hgB : B ≤ g := ownI_ge ho g (by simp [Value.ownBlock])
  have hgc : p.length ≤ pc := by
    obtain ⟨_, h | ⟨g', cap', cur, hv, _, _, hn, _⟩⟩ := ho
    · simp at h
    · simp only [Value.slice.injEq] at hv; omega
  have HNx : Hid (∀ q W, Rd W R a cap l q → Calls Try.prog 50 #[.pointer (some ⟨R, 0, none⟩)] W fun e w' => e = .returned (.int .i64 (l.getD q 0)) ∧ Rd w' R a cap l (q + 1) ∧ W.grownBy w' (some R)) := fun q W h => next_any R cap a l q W h
  obtain ⟨i, hi⟩ : ∃ i, (l.getD (j + 1) 0).toNat % p.length = i := ⟨_, rfl⟩
  have hil : i < p.length := by rw [← hi]; exact Nat.mod_lt _ hp
  have hii : l.getD (j + 1) 0 % (p.length : Int) = (i : Int) := by
    rw [← hi, Int.natCast_emod, Int.toNat_of_nonneg hx1.1]
  have hit : (l.getD (j + 1) 0).tmod (p.length : Int) = (i : Int) := by rw [Int.tmod_eq_emod_of_nonneg hx1.1]; exact hii
  have HP : Hid (spoilP l j p = p.set (p.length - 1) (spoilI 8 (l.getD (j + 2) 0) p.length i (p.getD (p.length - 1) I.zero))) := by
    show _ = _
    unfold spoilP spoilAt
    rw [hk, hi]
    rw [if_pos rfl]
  have HO : Hid (ownsI w B (.slice (some ⟨g, 0, none⟩) p.length pc) p) := ho
  have HN0 := HNx.out j
  have HN1 := HNx.out (j + 1)
  have HN2 := HNx.out (j + 2)
  generalize spoilP l j p = PP at *
  generalize l.getD j 0 = x0 at *
  generalize l.getD (j + 1) 0 = x1 at *
  generalize l.getD (j + 2) 0 = v at *
  clear hi ho HNx
  obtain ⟨n, hn⟩ : ∃ n, p.length = n := ⟨_, rfl⟩
  have Hn : Hid (p.length = n) := hn
  rw [hn] at hp hp' hil hii hit hgc ⊢
  have HP2 : Hid (PP = p.set (n - 1) (spoilI 8 v n i (p.getD (n - 1) I.zero))) := by have := HP.out; rw [hn] at this; exact this
  clear HP hn
  go_enter Try.func82, Try.ntmps82
  go_wp2_with fail
  refine (HN0 w hR).mono ?_
  rintro _ w1 ⟨rfl, hR1, hg1⟩
  go_wp2_with fail
  refine (HN1 w1 hR1).mono ?_
  rintro _ w2 ⟨rfl, hR2, hg2⟩
  go_wp2_with fail
  refine (HN2 w2 hR2).mono ?_
  rintro _ w3 ⟨rfl, hR3, hg3⟩
  have hG3 := rb_trans (rb_trans hg1 hg2) hg3
  have O3 := ownI_rd HO.out hG3 hB
  have HO3 : Hid (w3.ownsRow B 36 4 (.slice (some ⟨g, 0, none⟩) n pc) n (insCells p)) := by have h := O3; unfold ownsI at h; rw [Hn.out] at h; exact h
  have hC : ∀ q, q < n * 4 → ∃ u, (insCells p)[q]? = some u ∧ w3.cell? ⟨g, q, none⟩ = some u := by
    intro q hq
    have hl := insCells_len p
    rw [Hn.out] at hl
    exact ⟨_, List.getElem?_eq_getElem (by omega), (World.ownsRow.cellAt HO3.out q (by omega)).trans (List.getElem?_eq_getElem (by omega))⟩
  have hcat := insCells_at p (n - 1) (by rw [Hn.out]; omega)
  have hxok := hok (p.getD (n - 1) I.zero) (by rw [List.getD_eq_getElem?_getD, List.getElem?_eq_getElem (by rw [Hn.out]; omega)]; exact List.getElem_mem _)
  obtain ⟨y0, u0, d0⟩ := hC ((n - 1) * 4) (by omega)
  rw [hcat] at u0
  obtain rfl : _ = y0 := by simpa using u0
  obtain ⟨b0, b1, _⟩ := hxok
  obtain ⟨y1, _, d1⟩ := hC ((n - 1) * 4 + 1) (by omega)
  obtain ⟨y2, _, d2⟩ := hC ((n - 1) * 4 + 2) (by omega)
  obtain ⟨y3, _, d3⟩ := hC ((n - 1) * 4 + 3) (by omega)
  have f0 := World.ownsRow.frozenAt HO3.out ((n - 1) * 4)
  have f1 := World.ownsRow.frozenAt HO3.out ((n - 1) * 4 + 1)
  have f2 := World.ownsRow.frozenAt HO3.out ((n - 1) * 4 + 2)
  have f3 := World.ownsRow.frozenAt HO3.out ((n - 1) * 4 + 3)
  have hgs : g < w3.heap.size := cell_ltg d0
  have hG2 : Grow2 w w3 R g := Grow2.of hG3
  have hRg : R < g := by omega
  have HX : Hid (∃ x, p.getD (n - 1) I.zero = x) := ⟨_, rfl⟩
  clear hC hR hR1 hR2 hg1 hg2 hg3 hG3 O3 HN0 HN1 HN2 hcat u0 hok
  have HS : Hid (∀ x : I, spoilI 8 v n i x = { x with c := (v % 32) }) := fun x => by simp [spoilI]
  have HB3 : Hid (B = B) := rfl
  go_wp2
  go_ret
  refine ⟨rfl, ?_, (Rd.setG hR3 g _ hRg _), (Grow2.set hG2 _ _)⟩
  have hai : (n - 1) < p.length := by rw [Hn.out]; omega
  have a0 := ownsI_n Hn.out HO3.out hai 0 (by omega) (.int .u16 (v % 32)) { p.getD (n - 1) I.zero with c := (v % 32) } rfl
  rw [HP2.out, HS.out]
  unfold ownsI
  rw [List.length_set, Hn.out]
  exact a0

set_option maxRecDepth 100000 in
set_option maxHeartbeats 1000000 in
theorem spoil_9 (R cap : Nat) (a : Option Addr) (l : List Int) (j : Nat) (w : World) (B g pc : Nat) (p : List I) (hR : Rd w R a cap l j) (ho : ownsI w B (.slice (some ⟨g, 0, none⟩) p.length pc) p) (hB : R < B) (hp : 0 < p.length) (hp' : p.length ≤ 64) (hok : ∀ x ∈ p, x.ok) (hk : l.getD j 0 % 10 = 9) :
    Calls Try.prog 82 #[.slice (some ⟨g, 0, none⟩) p.length pc, .pointer (some ⟨R, 0, none⟩)] w fun e w' => e = .returned (.slice (some ⟨g, 0, none⟩) p.length pc) ∧ ownsI w' B (.slice (some ⟨g, 0, none⟩) p.length pc) (spoilP l j p) ∧ Rd w' R a cap l (j + 3) ∧ Grow2 w w' R g := by
  have hl := hR.bys
  have hx0 := isBytes_getD hl j
  have hx1 := isBytes_getD hl (j + 1)
  have hx2 := isBytes_getD hl (j + 2)
  have hgB : B ≤ g := ownI_ge ho g (by simp [Value.ownBlock])
  have hgc : p.length ≤ pc := by
    obtain ⟨_, h | ⟨g', cap', cur, hv, _, _, hn, _⟩⟩ := ho
    · simp at h
    · simp only [Value.slice.injEq] at hv; omega
  have HNx : Hid (∀ q W, Rd W R a cap l q → Calls Try.prog 50 #[.pointer (some ⟨R, 0, none⟩)] W fun e w' => e = .returned (.int .i64 (l.getD q 0)) ∧ Rd w' R a cap l (q + 1) ∧ W.grownBy w' (some R)) := fun q W h => next_any R cap a l q W h
  obtain ⟨i, hi⟩ : ∃ i, (l.getD (j + 1) 0).toNat % p.length = i := ⟨_, rfl⟩
  have hil : i < p.length := by rw [← hi]; exact Nat.mod_lt _ hp
  have hii : l.getD (j + 1) 0 % (p.length : Int) = (i : Int) := by
    rw [← hi, Int.natCast_emod, Int.toNat_of_nonneg hx1.1]
  have hit : (l.getD (j + 1) 0).tmod (p.length : Int) = (i : Int) := by rw [Int.tmod_eq_emod_of_nonneg hx1.1]; exact hii
  have HP : Hid (spoilP l j p = p.set i (spoilI 9 (l.getD (j + 2) 0) p.length i (p.getD i I.zero))) := by
    show _ = _
    unfold spoilP spoilAt
    rw [hk, hi]
    rw [if_neg (by omega)]
  have HO : Hid (ownsI w B (.slice (some ⟨g, 0, none⟩) p.length pc) p) := ho
  have HN0 := HNx.out j
  have HN1 := HNx.out (j + 1)
  have HN2 := HNx.out (j + 2)
  generalize spoilP l j p = PP at *
  generalize l.getD j 0 = x0 at *
  generalize l.getD (j + 1) 0 = x1 at *
  generalize l.getD (j + 2) 0 = v at *
  clear hi ho HNx
  obtain ⟨n, hn⟩ : ∃ n, p.length = n := ⟨_, rfl⟩
  have Hn : Hid (p.length = n) := hn
  rw [hn] at hp hp' hil hii hit hgc ⊢
  have HP2 : Hid (PP = p.set i (spoilI 9 v n i (p.getD i I.zero))) := by have := HP.out; rw [hn] at this; exact this
  clear HP hn
  go_enter Try.func82, Try.ntmps82
  go_wp2_with fail
  refine (HN0 w hR).mono ?_
  rintro _ w1 ⟨rfl, hR1, hg1⟩
  go_wp2_with fail
  refine (HN1 w1 hR1).mono ?_
  rintro _ w2 ⟨rfl, hR2, hg2⟩
  go_wp2_with fail
  refine (HN2 w2 hR2).mono ?_
  rintro _ w3 ⟨rfl, hR3, hg3⟩
  have hG3 := rb_trans (rb_trans hg1 hg2) hg3
  have O3 := ownI_rd HO.out hG3 hB
  have HO3 : Hid (w3.ownsRow B 36 4 (.slice (some ⟨g, 0, none⟩) n pc) n (insCells p)) := by have h := O3; unfold ownsI at h; rw [Hn.out] at h; exact h
  have hC : ∀ q, q < n * 4 → ∃ u, (insCells p)[q]? = some u ∧ w3.cell? ⟨g, q, none⟩ = some u := by
    intro q hq
    have hl := insCells_len p
    rw [Hn.out] at hl
    exact ⟨_, List.getElem?_eq_getElem (by omega), (World.ownsRow.cellAt HO3.out q (by omega)).trans (List.getElem?_eq_getElem (by omega))⟩
  have hcat := insCells_at p i (by rw [Hn.out]; omega)
  have hxok := hok (p.getD i I.zero) (by rw [List.getD_eq_getElem?_getD, List.getElem?_eq_getElem (by rw [Hn.out]; omega)]; exact List.getElem_mem _)
  obtain ⟨y0, u0, d0⟩ := hC (i * 4) (by omega)
  rw [hcat] at u0
  obtain rfl : _ = y0 := by simpa using u0
  obtain ⟨b0, b1, _⟩ := hxok
  obtain ⟨y1, _, d1⟩ := hC (i * 4 + 1) (by omega)
  obtain ⟨y2, _, d2⟩ := hC (i * 4 + 2) (by omega)
  obtain ⟨y3, _, d3⟩ := hC (i * 4 + 3) (by omega)
  have f0 := World.ownsRow.frozenAt HO3.out (i * 4)
  have f1 := World.ownsRow.frozenAt HO3.out (i * 4 + 1)
  have f2 := World.ownsRow.frozenAt HO3.out (i * 4 + 2)
  have f3 := World.ownsRow.frozenAt HO3.out (i * 4 + 3)
  have hgs : g < w3.heap.size := cell_ltg d0
  have hG2 : Grow2 w w3 R g := Grow2.of hG3
  have hRg : R < g := by omega
  have HX : Hid (∃ x, p.getD i I.zero = x) := ⟨_, rfl⟩
  clear hC hR hR1 hR2 hg1 hg2 hg3 hG3 O3 HN0 HN1 HN2 hcat u0 hok
  have HS : Hid (∀ x : I, spoilI 9 v n i x = { x with c := (IntKind.u16.wrap (x.c + 256)) }) := fun x => by simp [spoilI]
  have HB3 : Hid (B = B) := rfl
  go_wp2
  go_ret
  refine ⟨rfl, ?_, (Rd.setG hR3 g _ hRg _), (Grow2.set hG2 _ _)⟩
  have hai : i < p.length := by rw [Hn.out]; omega
  have a0 := ownsI_n Hn.out HO3.out hai 0 (by omega) (.int .u16 (IntKind.u16.wrap ((p.getD i I.zero).c + 256))) { p.getD i I.zero with c := (IntKind.u16.wrap ((p.getD i I.zero).c + 256)) } rfl
  rw [HP2.out, HS.out]
  unfold ownsI
  rw [List.length_set, Hn.out]
  exact a0

end Go.Proofs.Ytjfgihmamoiipaa
