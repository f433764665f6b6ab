/-
  CONTRACTS: a drawn list of instructions; a drawn run. The drawn instructions are within their kinds.
-/
import Derived.Test.YtjfgihmamoiipaaDrawS
import Derived.Laws.Closers25b
namespace Go.Proofs.Ytjfgihmamoiipaa
open Go.RowKit
set_option linter.unusedVariables false

theorem insK_ok {c k m : Int} {l : List Int} {j : Nat} (hc : 0 ≤ c ∧ c ≤ 172) (hk : 0 ≤ k ∧ k ≤ 4294967295) (hl : isBytes l) (hm : 1 ≤ m) : (insK c k l j m).ok := by
  have h1 := isBytes_getD hl j
  have h2 := isBytes_getD hl (j + 1)
  have b1 := bits_lo_u32 .or k 1
  have b2 := bits_hi_u32 .or k 1
  have e1 : 0 ≤ k % m := Int.emod_nonneg _ (by omega)
  have e2 : 0 ≤ l.getD j 0 % m := Int.emod_nonneg _ (by omega)
  have e3 : 0 ≤ l.getD (j + 1) 0 % m := Int.emod_nonneg _ (by omega)
  unfold insK
  repeat' split
  all_goals (unfold I.ok; simp only; omega)
theorem pickC_bd {l : List Int} (hl : isBytes l) (j : Nat) : 0 ≤ pickC l j ∧ pickC l j ≤ 172 := by
  have h := codes_bd (isBytes_getD hl j)
  unfold pickC
  repeat' split
  all_goals omega
theorem insD_ok {l : List Int} (hl : isBytes l) (j : Nat) {m : Int} (hm : 1 ≤ m) : (insD l j m).ok := insK_ok (pickC_bd hl j) (wordV_bd l hl _) hl hm
theorem headI_ok (i : Nat) {k : Int} (h : 0 ≤ k) : (headI i k).ok := by
  unfold headI
  repeat' split
  all_goals (unfold I.ok; simp only; omega)
theorem lastI_ok (k : Int) : (lastI k).ok := by unfold lastI; split <;> (unfold I.ok; simp only; omega)
theorem ppN_ok {l : List Int} (hl : isBytes l) (j n k : Nat) (hk : k + 1 ≤ n) : ∀ x ∈ ppN l j n k, x.ok := by
  induction k with
  | zero => simp [ppN]
  | succ k ih =>
    intro x hx
    simp only [ppN, List.mem_append, List.mem_singleton] at hx
    rcases hx with hx | rfl
    · exact ih (by omega) x hx
    · unfold piN
      split
      · exact headI_ok _ (isBytes_getD hl _).1
      · exact insD_ok hl _ (by omega)
theorem progP_ok {l : List Int} (hl : isBytes l) (j : Nat) : ∀ x ∈ progP l j, x.ok := by
  intro x hx
  unfold progP at hx
  simp only [List.mem_append, List.mem_singleton] at hx
  have hn : 2 ≤ progN l j := by unfold progN; omega
  rcases hx with hx | rfl
  · exact ppN_ok hl _ _ _ (by omega) x hx
  · exact lastI_ok _
theorem progP_len {l : List Int} (hl : isBytes l) (j : Nat) : 2 ≤ (progP l j).length ∧ (progP l j).length ≤ 31 := by
  have := isBytes_getD hl j
  unfold progP
  rw [List.length_append, ppN_len]
  unfold progN
  simp; omega
theorem rowL_ok {n : Nat} (h : n ≤ 5000) : ∀ x ∈ rowL n, x.ok := by
  intro x hx
  simp only [rowL, List.mem_map, List.mem_range] at hx
  obtain ⟨i, hi, rfl⟩ := hx
  unfold I.ok; simp only; omega
theorem mem_set {p : List I} {i : Nat} {y x : I} (h : x ∈ p.set i y) : x ∈ p ∨ x = y := by
  rcases List.mem_or_eq_of_mem_set h with h | h
  · exact .inl h
  · exact .inr h
theorem longL_ok {n : Nat} (h1 : 2 ≤ n) (h : n ≤ 5000) : ∀ x ∈ longL n, x.ok := by
  intro x hx
  rcases mem_set hx with hx | rfl
  · exact rowL_ok h x hx
  · unfold I.ok; simp only; omega
theorem spoilI_ok {k v : Int} {n i : Nat} {x : I} (hx : x.ok) (hv : 0 ≤ v ∧ v ≤ 255) : (spoilI k v n i x).ok := by
  obtain ⟨h1, h2, h3, h4, h5, h6, h7, h8⟩ := hx
  have hw := wrap_within .u16 (x.c + 256)
  have hw1 : 0 ≤ IntKind.u16.wrap (x.c + 256) := hw.1
  have hw2 : IntKind.u16.wrap (x.c + 256) ≤ 65535 := hw.2
  unfold spoilI
  repeat' split
  all_goals (unfold I.ok; simp only; omega)
theorem getD_ok {p : List I} (h : ∀ x ∈ p, x.ok) (i : Nat) : (p.getD i I.zero).ok := by
  by_cases hi : i < p.length
  · exact h _ (by rw [List.getD_eq_getElem?_getD, List.getElem?_eq_getElem hi]; exact List.getElem_mem hi)
  · rw [List.getD_eq_getElem?_getD, List.getElem?_eq_none (by omega)]; exact I.zero_ok
theorem spoilP_ok {l : List Int} (hl : isBytes l) (j : Nat) {p : List I} (h : ∀ x ∈ p, x.ok) : ∀ x ∈ spoilP l j p, x.ok := by
  intro x hx
  rcases mem_set hx with hx | rfl
  · exact h x hx
  · exact spoilI_ok (getD_ok h _) (isBytes_getD hl _)
theorem spoilP_len (l : List Int) (j : Nat) (p : List I) : (spoilP l j p).length = p.length := by simp [spoilP]

theorem ownsI_mono {w : World} {B B' : Nat} {v : Value} {p : List I} (h : ownsI w B v p) (hb : B' ≤ B) : ownsI w B' v p := by
  obtain ⟨h0, h | ⟨g, cap, cur, rfl, hb', hr⟩⟩ := h
  · exact ⟨h0, .inl h⟩
  · exact ⟨h0, .inr ⟨g, cap, cur, rfl, by omega, hr⟩⟩
theorem ownsI_form {w : World} {B : Nat} {v : Value} {p : List I} (h : ownsI w B v p) (hp : 0 < p.length) : ∃ g pc, v = .slice (some ⟨g, 0, none⟩) p.length pc ∧ B ≤ g := by
  obtain ⟨h0, h | ⟨g, cap, cur, rfl, hb', hr⟩⟩ := h
  · omega
  · exact ⟨g, cap, rfl, hb'⟩
theorem grow2_new {w w1 w2 : World} {R g : Nat} (h : w.grownBy w1 (some R)) (h' : Grow2 w1 w2 R g) (hg : w.heap.size ≤ g) : w.grownBy w2 (some R) :=
  ⟨h'.os.trans h.os, h'.tape.trans h.tape, h'.output.trans h.output, Nat.le_trans h.size h'.size, fun q hq hne => (h'.block q (Nat.lt_of_lt_of_le hq h.size) (by simpa using hne) (by omega)).trans (h.block q hq hne)⟩

theorem spoil_any (R cap : Nat) (a : Option Addr) (l : List Int) (j : Nat) (w : World) (B g pc : Nat) (p : List I) (hR : Rd w R a cap l j) (ho : ownsI w B (.slice (some ⟨g, 0, none⟩) p.length pc) p) (hB : R < B) (hp : 0 < p.length) (hp' : p.length ≤ 64) (hok : ∀ x ∈ p, x.ok) :
    Calls Try.prog 82 #[.slice (some ⟨g, 0, none⟩) p.length pc, .pointer (some ⟨R, 0, none⟩)] w fun e w' => e = .returned (.slice (some ⟨g, 0, none⟩) p.length pc) ∧ ownsI w' B (.slice (some ⟨g, 0, none⟩) p.length pc) (spoilP l j p) ∧ Rd w' R a cap l (j + 3) ∧ Grow2 w w' R g := by
  have hx := isBytes_getD hR.bys j
  have h10 : l.getD j 0 % 10 = 0 ∨ l.getD j 0 % 10 = 1 ∨ l.getD j 0 % 10 = 2 ∨ l.getD j 0 % 10 = 3 ∨ l.getD j 0 % 10 = 4 ∨ l.getD j 0 % 10 = 5 ∨ l.getD j 0 % 10 = 6 ∨ l.getD j 0 % 10 = 7 ∨ l.getD j 0 % 10 = 8 ∨ l.getD j 0 % 10 = 9 := by omega
  rcases h10 with h | h | h | h | h | h | h | h | h | h
  · exact spoil_0 R cap a l j w B g pc p hR ho hB hp hp' hok h
  · exact spoil_1 R cap a l j w B g pc p hR ho hB hp hp' hok h
  · exact spoil_2 R cap a l j w B g pc p hR ho hB hp hp' hok h
  · exact spoil_3 R cap a l j w B g pc p hR ho hB hp hp' hok h
  · exact spoil_4 R cap a l j w B g pc p hR ho hB hp hp' hok h
  · exact spoil_5 R cap a l j w B g pc p hR ho hB hp hp' hok h
  · exact spoil_6 R cap a l j w B g pc p hR ho hB hp hp' hok h
  · exact spoil_7 R cap a l j w B g pc p hR ho hB hp hp' hok h
  · exact spoil_8 R cap a l j w B g pc p hR ho hB hp hp' hok h
  · exact spoil_9 R cap a l j w B g pc p hR ho hB hp hp' hok h

def anyP (l : List Int) (j : Nat) : List I :=
  if l.getD j 0 % 40 = 0 then longL (4095 + (l.getD (j + 1) 0 % 3).toNat)
  else if l.getD j 0 % 40 = 1 then []
  else if l.getD j 0 % 40 < 10 then spoilP l (progPJ l (j + 1)) (progP l (j + 1))
  else progP l (j + 1)
def anyPJ (l : List Int) (j : Nat) : Nat :=
  if l.getD j 0 % 40 = 0 then j + 2
  else if l.getD j 0 % 40 = 1 then j + 1
  else if l.getD j 0 % 40 < 10 then progPJ l (j + 1) + 3
  else progPJ l (j + 1)
theorem anyP_ok {l : List Int} (hl : isBytes l) (j : Nat) : (∀ x ∈ anyP l j, x.ok) ∧ (anyP l j).length ≤ 4097 := by
  unfold anyP
  have h1 := isBytes_getD hl (j + 1)
  split
  · exact ⟨longL_ok (by omega) (by omega), by rw [longL_len]; omega⟩
  · split
    · simp
    · have hp := progP_len hl (j + 1)
      split
      · exact ⟨spoilP_ok hl _ (progP_ok hl _), by rw [spoilP_len]; omega⟩
      · exact ⟨progP_ok hl _, by omega⟩

set_option maxRecDepth 100000 in
set_option maxHeartbeats 1000000 in
theorem drawAny_any (R cap : Nat) (a : Option Addr) (l : List Int) (j : Nat) (w : World) (hR : Rd w R a cap l j) :
    Calls Try.prog 49 #[.pointer (some ⟨R, 0, none⟩)] w fun e w' => ∃ v', e = .returned v' ∧ ownsI w' w.heap.size v' (anyP l j) ∧ Rd w' R a cap l (anyPJ l j) ∧ w.grownBy w' (some R) := by
  have hl := hR.bys
  have hRw := hR.lt
  have hx0 := isBytes_getD hl j
  have hx1 := isBytes_getD hl (j + 1)
  have HNx : Hid (∀ q W, Rd W R a cap l q → Calls Try.prog 50 #[.pointer (some ⟨R, 0, none⟩)] W fun e w' => e = .returned (.int .i64 (l.getD q 0)) ∧ Rd w' R a cap l (q + 1) ∧ W.grownBy w' (some R)) := fun q W h => next_any R cap a l q W h
  have HPr : Hid (∀ W, Rd W R a cap l (j + 1) → Calls Try.prog 81 #[.pointer (some ⟨R, 0, none⟩)] W fun e w' => ∃ v', e = .returned v' ∧ ownsI w' W.heap.size v' (progP l (j + 1)) ∧ Rd w' R a cap l (progPJ l (j + 1)) ∧ W.grownBy w' (some R)) := fun W h => drawProg_any R cap a l (j + 1) W h
  have hplen := progP_len hl (j + 1)
  have hpok := progP_ok hl (j + 1)
  have HN0 := HNx.out j
  have HN1 := HNx.out (j + 1)
  by_cases h0 : l.getD j 0 % 40 = 0
  · have hP : anyP l j = longL (4095 + (l.getD (j + 1) 0 % 3).toNat) := by unfold anyP; rw [if_pos h0]
    have hJ : anyPJ l j = j + 2 := by unfold anyPJ; rw [if_pos h0]
    rw [hP, hJ]
    clear hP hJ HPr hplen hpok HNx
    generalize l.getD j 0 = x0 at *
    generalize l.getD (j + 1) 0 = x1 at *
    obtain ⟨d, hd⟩ : ∃ d : Nat, x1 % 3 = (d : Int) := ⟨(x1 % 3).toNat, by omega⟩
    have hd3 : d < 3 := by omega
    have hN : (x1 % 3).toNat = d := by omega
    rw [hN]
    clear hN
    go_enter Try.func49, Try.ntmps49
    go_wp2_with fail
    refine (HN0 w hR).mono ?_
    rintro _ w1 ⟨rfl, hR1, hg1⟩
    go_wp2_with fail
    refine (HN1 w1 hR1).mono ?_
    rintro _ w2 ⟨rfl, hR2, hg2⟩
    have hL := long_any (4095 + d) w2 (by omega) (by omega)
    rw [show ((4095 + d : Nat) : Int) = 4095 + (d : Int) by push_cast; rfl] at hL
    go_wp2_with fail
    refine hL.mono ?_
    rintro _ w3 ⟨v3, rfl, o3, b3⟩
    have hG := rb_trans (rb_trans hg1 hg2) (rb_below (r := some R) b3)
    have hs : w.heap.size ≤ w2.heap.size := Nat.le_trans hg1.size hg2.size
    have hR3 := hR2.below b3
    have o4 : ownsI w3 w.heap.size v3 (longL (4095 + d)) := ownsI_mono o3 hs
    clear hL o3 b3 hg1 hg2 hR1 hR2 HN0 HN1 hR
    go_wp2
    go_ret
    exact ⟨_, rfl, o4, hR3, hG⟩
  · by_cases h1 : l.getD j 0 % 40 = 1
    · have hP : anyP l j = [] := by unfold anyP; rw [if_neg h0, if_pos h1]
      have hJ : anyPJ l j = j + 1 := by unfold anyPJ; rw [if_neg h0, if_pos h1]
      rw [hP, hJ]
      clear hP hJ HPr hplen hpok HNx
      generalize l.getD j 0 = x0 at *
      go_enter Try.func49, Try.ntmps49
      go_wp2_with fail
      refine (HN0 w hR).mono ?_
      rintro _ w1 ⟨rfl, hR1, hg1⟩
      go_wp2
      go_ret
      exact ⟨_, rfl, World.ownsRow_nil _ _ _ _, hR1, hg1⟩
    · have e0 : (l.getD j 0 % 40 == 0) = false := by simpa using h0
      have e1 : (l.getD j 0 % 40 == 1) = false := by simpa using h1
      by_cases h10 : l.getD j 0 % 40 < 10
      · have hP : anyP l j = spoilP l (progPJ l (j + 1)) (progP l (j + 1)) := by unfold anyP; rw [if_neg h0, if_neg h1, if_pos h10]
        have hJ : anyPJ l j = progPJ l (j + 1) + 3 := by unfold anyPJ; rw [if_neg h0, if_neg h1, if_pos h10]
        rw [hP, hJ]
        have HSp : Hid (∀ W g pc, Rd W R a cap l (progPJ l (j + 1)) → ∀ B, ownsI W B (.slice (some ⟨g, 0, none⟩) (progP l (j + 1)).length pc) (progP l (j + 1)) → R < B → Calls Try.prog 82 #[.slice (some ⟨g, 0, none⟩) (progP l (j + 1)).length pc, .pointer (some ⟨R, 0, none⟩)] W fun e w' => e = .returned (.slice (some ⟨g, 0, none⟩) (progP l (j + 1)).length pc) ∧ ownsI w' B (.slice (some ⟨g, 0, none⟩) (progP l (j + 1)).length pc) (spoilP l (progPJ l (j + 1)) (progP l (j + 1))) ∧ Rd w' R a cap l (progPJ l (j + 1) + 3) ∧ Grow2 W w' R g) :=
          fun W g pc hr B ho hB => spoil_any R cap a l _ W B g pc _ hr ho hB (by omega) (by omega) hpok
        clear hP hJ HNx hpok
        generalize spoilP l (progPJ l (j + 1)) (progP l (j + 1)) = SP at *
        generalize progP l (j + 1) = PP at *
        generalize progPJ l (j + 1) = PJ at *
        generalize l.getD j 0 = x0 at *
        go_enter Try.func49, Try.ntmps49
        go_wp2_with fail
        refine (HN0 w hR).mono ?_
        rintro _ w1 ⟨rfl, hR1, hg1⟩
        go_wp2_with fail
        refine (HPr.out w1 hR1).mono ?_
        rintro _ w2 ⟨v2, rfl, o2, hR2, hg2⟩
        have hs1 := hg1.size
        obtain ⟨g, pc, rfl, hgb⟩ := ownsI_form o2 (by omega)
        go_wp2_with fail
        refine (HSp.out w2 g pc hR2 _ o2 (by omega)).mono ?_
        rintro _ w3 ⟨rfl, o3, hR3, hg3⟩
        have o4 := ownsI_mono o3 hs1
        have hG := grow2_new (rb_trans hg1 hg2) hg3 (by omega)
        clear o2 o3 hg1 hg2 hg3 hR1 hR2 HN0 HN1 HPr HSp hR
        go_wp2
        go_ret
        exact ⟨_, rfl, o4, hR3, hG⟩
      · have hP : anyP l j = progP l (j + 1) := by unfold anyP; rw [if_neg h0, if_neg h1, if_neg h10]
        have hJ : anyPJ l j = progPJ l (j + 1) := by unfold anyPJ; rw [if_neg h0, if_neg h1, if_neg h10]
        rw [hP, hJ]
        clear hP hJ HNx hpok
        generalize progP l (j + 1) = PP at *
        generalize progPJ l (j + 1) = PJ at *
        generalize l.getD j 0 = x0 at *
        go_enter Try.func49, Try.ntmps49
        go_wp2_with fail
        refine (HN0 w hR).mono ?_
        rintro _ w1 ⟨rfl, hR1, hg1⟩
        go_wp2_with fail
        refine (HPr.out w1 hR1).mono ?_
        rintro _ w2 ⟨v2, rfl, o2, hR2, hg2⟩
        have o4 := ownsI_mono o2 hg1.size
        have hG := rb_trans hg1 hg2
        clear o2 hg1 hg2 hR1 HN0 HN1 HPr hR
        go_wp2
        go_ret
        exact ⟨_, rfl, o4, hR2, hG⟩
end Go.Proofs.Ytjfgihmamoiipaa
