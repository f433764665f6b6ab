/-
  CONTRACT: the drawn values to be covered, as a function of the bytes.
-/
import Derived.Test.YtpbljegjinjmnaaDrawV
import Derived.Test.YtpbljegjinjmnaaU64
import Derived.Test.YtpbljegjinjmnaaCovI
namespace Go.Proofs.Ytpbljegjinjmnaa
open Go.RowKit
set_option linter.unusedVariables false

/-- the drawn values one behind the other, each with where the reader stands behind it -/
def nvj (L : List Int) : Nat → Int × Nat
  | 0 => (argV L 3, argJ L 3)
  | i + 1 => (nearV (nvj L i).1 L (nvj L i).2, nearJ L (nvj L i).2)
def nv (L : List Int) (i : Nat) : Int := (nvj L i).1
def nj (L : List Int) (i : Nat) : Nat := (nvj L i).2
theorem nv_isU (L : List Int) (hL : isBytes L) : ∀ i, isU (nv L i)
  | 0 => argV_isU L hL 3
  | i + 1 => nearV_isU (nv_isU L hL i) L hL _
def lstV (f : Nat → Int) (n : Nat) : List Int := (List.range n).map f
theorem lstV_succ (f : Nat → Int) (n : Nat) : lstV f (n + 1) = lstV f n ++ [f n] := by simp [lstV, List.range_succ]
theorem lstV_len (f : Nat → Int) (n : Nat) : (lstV f n).length = n := by simp [lstV]
theorem lstV_get (f : Nat → Int) {n i : Nat} (h : i < n) : (lstV f n).getD i 0 = f i := by simp [lstV, List.getD_eq_getElem?_getD, h]
theorem lstV_isU {f : Nat → Int} (hf : ∀ i, isU (f i)) (n : Nat) : ∀ y ∈ lstV f n, isU y := by
  intro y hy
  simp only [lstV, List.mem_map, List.mem_range] at hy
  obtain ⟨i, _, rfl⟩ := hy
  exact hf i

theorem ownsU_one (w : World) (x : Int) : ownsU (w.alloc (.cells #[.int .u64 x] 26)) w.heap.size (.slice (some ⟨w.heap.size, 0, none⟩) 1 1) [x] :=
  ⟨rfl, .inr ⟨w.heap.size, 1, #[.int .u64 x], rfl, Nat.le_refl _, Go.Deep.blk_alloc_new _ _, Nat.le_refl _, by simp [maxLen], rfl, rfl⟩⟩
theorem ownU_rd {w w1 : World} {B R : Nat} {v : Value} {l : List Int} (h : ownsU w B v l) (hg : w.grownBy w1 (some R)) (hR : R < B) : ownsU w1 B v l :=
  ownsU_kept h hg (fun q hq e => by
    have h1 := (h.lt q hq).1
    have h2 : q = R := by simpa using e
    omega)
theorem ownU_ge {w : World} {B : Nat} {v : Value} {l : List Int} (h : ownsU w B v l) : ∀ k, v.ownBlock = some k → B ≤ k := fun k hk => (h.lt k hk).1
theorem ownU_app {w : World} {B n : Nat} {v : Value} {l : List Int} {x : Int} (hn : n = l.length) (h : w.ownsRow B 26 1 v (n + 1) (l.map (Value.int .u64) ++ [.int .u64 x])) : ownsU w B v (l ++ [x]) := by
  subst hn
  simpa [ownsU] using h

theorem src_drop {w : World} {B g n c : Nat} {l : List Int} (h : ownsU w B (.slice (some ⟨g, 0, none⟩) n c) l) (hn : 2 ≤ l.length) : USrc w (some ⟨g, 1, none⟩) (l.drop 1) := by
  have hc := h.cells rfl
  obtain ⟨_, h | ⟨g', cap, cur, e, hb, hg, _⟩⟩ := h
  · cases h.1
  · have hg' : g < w.heap.size := by
      have : g = g' := by simp at e; exact e.1
      subst this
      exact (Array.getElem?_eq_some_iff.1 hg).1
    refine .inr ⟨g, 1, rfl, hg', fun i hi => ?_⟩
    rw [List.length_drop] at hi
    have := hc (1 + i) (.int .u64 ((l.drop 1).getD i 0)) (by
      have hlt : 1 + i < l.length := by omega
      rw [List.getElem?_map, List.getElem?_eq_getElem hlt, List.getD_eq_getElem?_getD, List.getElem?_drop, List.getElem?_eq_getElem hlt]; rfl)
    rwa [add_at, Nat.zero_add] at this

/-- the numbers vs lie where v says -/
def IsVs (w : World) (v : Value) (vs : List Int) : Prop := ∃ ax cx, v = .slice ax vs.length cx ∧ USrc w ax vs

/-- what is drawn, as said by the bytes -/
structure CovD (L : List Int) (vs : List Int) (f : Int) : Prop where
  bd : ∀ y ∈ vs, isU y
  len : vs.length ≤ 1000
  fm : -1 ≤ f ∧ f ≤ 3

set_option maxRecDepth 100000 in
set_option maxHeartbeats 4000000 in
theorem drawCover_det (l : List Int) (hl : isBytes l) (hn : l.length ≤ 1048576) : ∃ (vs : List Int) (f : Int), CovD (l.take 600) vs f ∧ ∀ (a : Option Addr) (cap : Nat) (w : World), BSrc w a l → l.length ≤ cap →
    Calls Try.prog 6 #[.slice a l.length cap] w fun e w' => ∃ v, e = .returned (.tuple #[v, .int .i64 f]) ∧ IsVs w' v vs ∧ Below w.heap.size w w' := by
  have hbL := isBytes_take hl 600
  obtain ⟨i1, hi1, hy0, hy1, hy2⟩ := info_parts info61
  generalize hLe : l.take 600 = L at *
  have HL : Hid (l.take 600 = L) := hLe
  clear hLe
  have hb0 := isBytes_getD hbL 0
  have hb1 := isBytes_getD hbL 1
  have hb2 := isBytes_getD hbL 2
  have HOp : Hid (∀ a cap w, BSrc w a l → l.length ≤ cap → Calls Try.prog 22 #[.slice a l.length cap] w fun e w' => ∃ R cap', e = .returned (.pointer (some ⟨R, 0, none⟩)) ∧ w.heap.size ≤ R ∧ Rd w' R a cap' L 0 ∧ Below w.heap.size w w') := by
    intro a cap w hs hc
    have := open_any a cap l w hs hl hc hn
    rw [HL.out] at this
    exact this
  have HN : Hid (∀ j R a cap W, Rd W R a cap L j → Calls Try.prog 23 #[.pointer (some ⟨R, 0, none⟩)] W fun e w' => e = .returned (.int .i64 (L.getD j 0)) ∧ Rd w' R a cap L (j + 1) ∧ W.grownBy w' (some R)) := fun j R a cap W h => next_any R cap a L j W h
  have HA : Hid (∀ j R a cap W, Rd W R a cap L j → Calls Try.prog 24 #[.pointer (some ⟨R, 0, none⟩)] W fun e w' => e = .returned (.int .u64 (argV L j)) ∧ Rd w' R a cap L (argJ L j) ∧ W.grownBy w' (some R)) := fun j R a cap W h => arg_any R cap a L j W h
  have HNe : Hid (∀ i R a cap W, Rd W R a cap L (nj L i) → Calls Try.prog 25 #[.int .u64 (nv L i), .pointer (some ⟨R, 0, none⟩)] W fun e w' => e = .returned (.int .u64 (nv L (i + 1))) ∧ Rd w' R a cap L (nj L (i + 1)) ∧ W.grownBy w' (some R)) := fun i R a cap W h => near_any (nv L i) R cap a L (nj L i) W (nv_isU L hbL i) h
  have hnU : Hid (∀ i, isU (nv L i)) := nv_isU L hbL
  have HJ : Hid (∀ j, 0 ≤ L.getD j 0 ∧ L.getD j 0 ≤ 255) := isBytes_getD hbL
  have e0 : Hid (argV L 3 = nv L 0) := rfl
  have e1 : Hid (argJ L 3 = nj L 0) := rfl
  clear hl hn HL
  generalize hx0 : L.getD 0 0 = x0 at *
  generalize hx1 : L.getD 1 0 = x1 at *
  generalize hx2 : L.getD 2 0 = x2 at *
  have HX0 : Hid (L.getD 0 0 = x0) := hx0
  have HX1 : Hid (L.getD 1 0 = x1) := hx1
  have HX2 : Hid (L.getD 2 0 = x2) := hx2
  clear hx0 hx1 hx2
  have HN0 : Hid (∀ R a cap W, Rd W R a cap L 0 → Calls Try.prog 23 #[.pointer (some ⟨R, 0, none⟩)] W fun e w' => e = .returned (.int .i64 x0) ∧ Rd w' R a cap L 1 ∧ W.grownBy w' (some R)) := by have := HN.out 0; rw [HX0.out] at this; exact this
  have HN1 : Hid (∀ R a cap W, Rd W R a cap L 1 → Calls Try.prog 23 #[.pointer (some ⟨R, 0, none⟩)] W fun e w' => e = .returned (.int .i64 x1) ∧ Rd w' R a cap L 2 ∧ W.grownBy w' (some R)) := by have := HN.out 1; rw [HX1.out] at this; exact this
  have HN2 : Hid (∀ R a cap W, Rd W R a cap L 2 → Calls Try.prog 23 #[.pointer (some ⟨R, 0, none⟩)] W fun e w' => e = .returned (.int .i64 x2) ∧ Rd w' R a cap L 3 ∧ W.grownBy w' (some R)) := by have := HN.out 2; rw [HX2.out] at this; exact this
  have HA3 : Hid (∀ R a cap W, Rd W R a cap L 3 → Calls Try.prog 24 #[.pointer (some ⟨R, 0, none⟩)] W fun e w' => e = .returned (.int .u64 (nv L 0)) ∧ Rd w' R a cap L (nj L 0) ∧ W.grownBy w' (some R)) := by have := HA.out 3; rw [e0.out, e1.out] at this; exact this
  clear HX0 HX1 HX2 HA e0 e1
  generalize nv L = V at *
  generalize nj L = J at *
  by_cases k0 : x0 % 12 = 0
  · refine ⟨[], x1 % 3, ⟨by simp, by simp, by omega⟩, fun a cap w hs hc => ?_⟩
    generalize l.length = ll at *
    go_enter Try.func6, Try.ntmps6
    go_wp2_with fail
    refine (HOp.out a cap w hs hc).mono ?_
    rintro _ w1 ⟨R, cR, rfl, hR, r1, B1⟩
    go_wp2_with fail
    refine (HN0.out _ _ _ _ r1).mono ?_
    rintro _ w2 ⟨rfl, r2, g2⟩
    have B2 := B1.grown g2 B1.size (fun q hq => by have : R = q := by simpa using hq
                                                   omega)
    go_wp2_with fail
    refine (HN1.out _ _ _ _ r2).mono ?_
    rintro _ w3 ⟨rfl, r3, g3⟩
    have B3 := B2.grown g3 B2.size (fun q hq => by have : R = q := by simpa using hq
                                                   omega)
    clear HOp HN HN0 HN1 HN2 HA3 HNe hnU HJ
    go_wp2
    go_ret2
    exact ⟨_, rfl, ⟨none, 0, rfl, .inl rfl⟩, B3⟩
  · obtain ⟨N, hN⟩ : ∃ N : Nat, (N : Int) = 1 + x2 % 6 := ⟨(1 + x2 % 6).toNat, by omega⟩
    have hN1 : 1 ≤ N := by omega
    have hN6 : N ≤ 6 := by omega
    have HN' : Hid ((N : Int) = 1 + x2 % 6) := hN
    clear hN
    obtain ⟨M, hM⟩ : ∃ M : Nat, (M : Int) = 1 + L.getD (J (N - 1)) 0 % 4 := ⟨(1 + L.getD (J (N - 1)) 0 % 4).toNat, by have := HJ.out (J (N - 1)); omega⟩
    have hM4 : 1 ≤ M ∧ M ≤ 4 := by have := HJ.out (J (N - 1)); omega
    have HM' : Hid ((M : Int) = 1 + L.getD (J (N - 1)) 0 % 4) := hM
    clear hM
    obtain ⟨P, hP⟩ : ∃ P : Nat, P = 2 ^ M := ⟨_, rfl⟩
    have hP16 : 2 ≤ P ∧ P ≤ 16 := by
      have : M = 1 ∨ M = 2 ∨ M = 3 ∨ M = 4 := by omega
      rcases this with e | e | e | e <;> subst e <;> subst hP <;> decide
    have HP : Hid (P = 2 ^ M) := hP
    clear hP
    obtain ⟨bs, hbs⟩ : ∃ bs : Int, bs = bits .andNot .u64 (V 0) ((low M : Nat) : Int) := ⟨_, rfl⟩
    have HBs : Hid (bs = bits .andNot .u64 (V 0) ((low M : Nat) : Int)) := hbs
    have hbsU : 0 ≤ bs ∧ bs ≤ 18446744073709551615 := by rw [hbs]; exact ⟨bits_lo_u64 _ _ _, bits_hi_u64 _ _ _⟩
    clear hbs
    obtain ⟨bf, hbf⟩ : ∃ bf : Nat → Int, ∀ i : Nat, bf i = (bs + ((i : Int) * 3 + N) % P) % 18446744073709551616 := ⟨_, fun _ => rfl⟩
    have HBf : Hid (∀ i : Nat, bf i = (bs + ((i : Int) * 3 + N) % P) % 18446744073709551616) := hbf
    have hbfU : Hid (∀ i, isU (bf i)) := fun i => by rw [hbf i]; unfold isU; omega
    clear hbf
    obtain ⟨VS, hVS⟩ : ∃ VS : List Int, VS = if x0 % 12 = 3 then (if N = 2 then (lstV bf P).drop 1 else lstV bf P) else if x0 % 12 = 4 then lstV V N ++ [0] ++ [18446744073709551615] else lstV V N := ⟨_, rfl⟩
    obtain ⟨F, hF⟩ : ∃ F : Int, F = if x0 % 12 = 1 then 3 else if x0 % 12 = 2 then -1 else x1 % 3 := ⟨_, rfl⟩
    refine ⟨VS, F, ⟨?_, ?_, ?_⟩, fun a cap w hs hc => ?_⟩
    · rw [hVS]
      split
      · split
        · intro y hy; exact lstV_isU hbfU.out P y (List.mem_of_mem_drop hy)
        · exact lstV_isU hbfU.out P
      · split
        · intro y hy
          simp only [List.mem_append, List.mem_singleton] at hy
          rcases hy with (hy | rfl) | rfl
          · exact lstV_isU hnU.out N y hy
          · unfold isU; omega
          · unfold isU; omega
        · exact lstV_isU hnU.out N
    · rw [hVS]
      split
      · split
        · rw [List.length_drop, lstV_len]; omega
        · rw [lstV_len]; omega
      · split
        · simp only [List.length_append, lstV_len, List.length_singleton]; omega
        · rw [lstV_len]; omega
    · rw [hF]; split <;> (try split) <;> omega
    have HVS : Hid (VS = if x0 % 12 = 3 then (if N = 2 then (lstV bf P).drop 1 else lstV bf P) else if x0 % 12 = 4 then lstV V N ++ [0] ++ [18446744073709551615] else lstV V N) := hVS
    have HF : Hid (F = if x0 % 12 = 1 then 3 else if x0 % 12 = 2 then -1 else x1 % 3) := hF
    clear hVS hF
    generalize l.length = ll at *
    go_enter Try.func6, Try.ntmps6
    go_wp2_with fail
    refine (HOp.out a cap w hs hc).mono ?_
    rintro _ w1 ⟨R, cR, rfl, hR, r1, B1⟩
    have HRq : Hid (∀ q, some R = some q → w.heap.size ≤ q) := fun q hq => by have : R = q := by simpa using hq
                                                                              omega
    go_wp2_with fail
    refine (HN0.out _ _ _ _ r1).mono ?_
    rintro _ w2 ⟨rfl, r2, g2⟩
    have B2 := B1.grown g2 B1.size HRq.out
    go_wp2_with fail
    refine (HN1.out _ _ _ _ r2).mono ?_
    rintro _ w3 ⟨rfl, r3, g3⟩
    have B3 := B2.grown g3 B2.size HRq.out
    clear HOp HN0 HN1 g2 g3 r1 r2 B1 B2
    go_wp2_with fail
    refine (HN2.out _ _ _ _ r3).mono ?_
    rintro _ w4 ⟨rfl, r4, g4⟩
    have B4 := B3.grown g4 B3.size HRq.out
    clear HN2 g4 r3 B3
    go_wp2_with fail
    rw [← HN'.out]
    refine (HA3.out _ _ _ _ r4).mono ?_
    rintro _ w5 ⟨rfl, r5, g5⟩
    have B5 := B4.grown g5 B4.size HRq.out
    clear HA3 g5 r4 B4
    have hR5 := r5.lt
    go_wp2_with fail
    have O5 : ownsU (w5.alloc (.cells #[.int .u64 (V 0)] 26)) w5.heap.size (.slice (some ⟨w5.heap.size, 0, none⟩) 1 1) (lstV V (0 + 1)) := ownsU_one w5 (V 0)
    have r6 := r5.alloc (.cells #[.int .u64 (V 0)] 26)
    have B6 := B5.alloc B5.size (.cells #[.int .u64 (V 0)] 26)
    have hwB : w.heap.size ≤ w5.heap.size := B5.size
    have hsz : w5.heap.size ≤ (w5.alloc (.cells #[.int .u64 (V 0)] 26)).heap.size := by simp
    generalize w5.heap.size = G at *
    generalize w5.alloc (.cells #[.int .u64 (V 0)] 26) = W6 at *
    clear r5 B5
    go_loopw [9, 10] (fun s i wr => ∃ (q : Nat) (g9 c9 : Nat), q + 1 ≤ N ∧ i = .int .i64 ((q : Int) + 1) ∧ s = .slice (some ⟨g9, 0, none⟩) (q + 1) c9 ∧ ownsU wr G (.slice (some ⟨g9, 0, none⟩) (q + 1) c9) (lstV V (q + 1)) ∧ Rd wr R a cR L (J q) ∧ Below w.heap.size w wr ∧ G ≤ wr.heap.size) (fun _ i _ => N - (intOf i).toNat)
    case atStart => exact ⟨0, G, 1, by omega, rfl, rfl, O5, r6, B6, hsz⟩
    case round =>
      obtain ⟨q, g9, c9, hq, rfl, rfl, O, r, B, hG⟩ := hrel
      clear O5 r6 B6 hsz
      by_cases hlt : q + 1 < N
      · have hcq : wr.cell? ⟨g9, q, none⟩ = some (.int .u64 (V q)) := by
          have := (O.cells rfl) q (.int .u64 (V q)) (by rw [List.getElem?_map]; simp [lstV])
          rwa [add_at, Nat.zero_add] at this
        have HNq := HNe.out q
        have HNq : Hid (∀ R a cap W, Rd W R a cap L (J q) → Calls Try.prog 25 #[.int .u64 (V q), .pointer (some ⟨R, 0, none⟩)] W fun e w' => e = .returned (.int .u64 (V (q + 1))) ∧ Rd w' R a cap L (J (q + 1)) ∧ W.grownBy w' (some R)) := HNq
        have HEq : Hid (lstV V (q + 1 + 1) = lstV V (q + 1) ++ [V (q + 1)]) := lstV_succ _ _
        have hln : (lstV V (q + 1)).length = q + 1 := lstV_len _ _
        have h1 : (q : Int) + 1 < (N : Int) := by omega
        clear HN HNe hnU HJ HVS HF HBf HP HM' HN' HBs hbfU
        rename_i HNq0
        clear HNq0
        go_wp2_with fail
        refine (HNq.out _ _ _ _ r).mono ?_
        rintro _ w7 ⟨rfl, r7, g7⟩
        have O7 := ownU_rd O g7 hR5
        have B7 := B.grown g7 B.size HRq.out
        have hG7 : G ≤ w7.heap.size := Nat.le_trans hG g7.size
        have b8 : Below w7.heap.size w7 (w7.alloc (.cells #[.int .u64 (V (q + 1))] 26)) := (Below.refl _ _).alloc (Nat.le_refl _) _
        have O8 := ownsU_below O7 b8
        have r8 := r7.below b8
        have B8 := B7.trans (b8.mono B7.size)
        have hG8 : G ≤ (w7.alloc (.cells #[.int .u64 (V (q + 1))] 26)).heap.size := Nat.le_trans hG7 b8.size
        have HCe : Hid (∀ j u, ([Value.int .u64 (V (q + 1))])[j]? = some u → (w7.alloc (.cells #[.int .u64 (V (q + 1))] 26)).cell? ((⟨w7.heap.size, 0, none⟩ : Addr).add j) = some u) := by
          intro j u hj
          rw [add_at, World.cell?_alloc_at _ _ _ _ (by simp)]
          simpa using hj
        clear HNq r O B g7 O7 B7 r7 b8 hcq
        go_wp2_with (at_builtin; refine wpList_append_own _ rfl (.tmp 38) (.tmp 46) 23 rfl G 26 i1 (.int .u64 0) 1 8 Try.underlying23 hi1 hy0 hy1 hy2 rfl (by decide) (.slice (some ⟨g9, 0, none⟩) (q + 1) c9) (q + 1) ((lstV V (q + 1)).map (Value.int .u64)) rfl (by have := O8; rw [ownsU, hln] at this; exact this) ⟨w7.heap.size, 0, none⟩ 1 1 [.int .u64 (V (q + 1))] rfl rfl HCe.out (by intro u hu; simp at hu; subst hu; rfl) ?c3 ?c4 ?c5 ?_)
        case c3 => unfold maxLen; omega
        case c4 => omega
        case c5 => exact hG8
        intro v9 w9 ow gr _
        have O9 : ownsU w9 G v9 (lstV V (q + 1 + 1)) := by rw [HEq.out]; exact ownU_app hln.symm ow
        have hge := ownU_ge O8
        have r9 := r8.grown gr hR5 hge
        have B9 := B8.grown gr B8.size (fun k hk => by have := hge k hk; omega)
        have hG9 := Nat.le_trans hG8 gr.size
        obtain ⟨g', c', hv9, _, _⟩ := ownsU_at O9 (by rw [lstV_len]; omega)
        rw [lstV_len] at hv9
        subst hv9
        clear ow gr O8 HCe hge r8 B8 hG8 HEq
        go_wp2
        go_roundw
        case rel => exact ⟨q + 1, g', c', by omega, by go_num, rfl, O9, r9, B9, hG9⟩
        case measure => simp [intOf]; omega
      · have eq1 : q + 1 = N := by omega
        have eJ : J q = J (N - 1) := by rw [← eq1]; rfl
        rw [eJ] at r
        rw [eq1] at O
        have hq' : (q : Int) + 1 = (N : Int) := by omega
        rw [hq', eq1]
        clear eJ HNe hlt
        clear hq' eq1 hq q
        have hlN : (lstV V N).length = N := lstV_len _ _
        by_cases k3 : x0 % 12 = 3
        · have hVS : VS = (if N = 2 then (lstV bf P).drop 1 else lstV bf P) := by rw [HVS.out, if_pos k3]
          have hF : F = x1 % 3 := by rw [HF.out, if_neg (by omega), if_neg (by omega)]
          have HVS2 : Hid (VS = (if N = 2 then (lstV bf P).drop 1 else lstV bf P)) := hVS
          subst hF
          have HNx := HN.out (J (N - 1)) R a cR wr r
          have HLo : Hid (∀ w1, Calls Try.prog 26 #[.int .i64 (M : Int)] w1 fun e w' => e = .returned (.int .u64 ((low M : Nat) : Int)) ∧ w' = w1) := fun w1 => l3low_any M w1 (by omega)
          have hx3 := HJ.out (J (N - 1))
          have hMe := HM'.out
          have hwP : IntKind.i64.wrap (2 ^ M) = (P : Int) := by
            rw [HP.out]
            have : M = 1 ∨ M = 2 ∨ M = 3 ∨ M = 4 := by omega
            rcases this with e | e | e | e <;> subst e <;> decide
          have HBsO := HBs.out
          clear HN HJ HVS HF hVS O HP hnU HBs HM' HN'
          generalize L.getD (J (N - 1)) 0 = x3 at *
          generalize J (N - 1) = J1 at *
          have HMe : Hid ((M : Int) = 1 + x3 % 4) := hMe
          have HBsO : Hid (bs = bits .andNot .u64 (V 0) ((low M : Nat) : Int)) := HBsO
          clear hMe
          rename_i HBsO0
          clear HBsO0
          go_wp2_with fail
          refine HNx.mono ?_
          rintro _ w7 ⟨rfl, r7, g7⟩
          have B7 := B.grown g7 B.size HRq.out
          have hG7 : G ≤ w7.heap.size := Nat.le_trans hG g7.size
          clear HNx r g7 B hG r7
          go_wp2_with fail
          rw [← HMe.out]
          refine (HLo.out _).mono ?_
          rintro _ w7 ⟨rfl, rfl⟩
          go_wp2_with fail
          rw [← HBsO.out]
          clear HBsO HMe HLo
          go_loopw [9, 13] (fun s i wr => ∃ q : Nat, q ≤ P ∧ i = .int .i64 q ∧ ownsU wr G s (lstV bf q) ∧ Below w.heap.size w wr ∧ G ≤ wr.heap.size) (fun _ i _ => P - (intOf i).toNat)
          case atStart => exact ⟨0, by omega, rfl, World.ownsRow_nil _ _ _ _, B7, hG7⟩
          case round =>
            obtain ⟨q, hq, rfl, O, B, hG⟩ := hrel
            clear B7 hG7
            by_cases hlt : q < P
            · have hqP : (q : Int) < (P : Int) := by omega
              have hP0 : ¬ (P : Int) = 0 := by omega
              have HEq : Hid (lstV bf (q + 1) = lstV bf q ++ [bf q]) := lstV_succ _ _
              have hln : (lstV bf q).length = q := lstV_len _ _
              have hval : IntKind.u64.wrap (bs + IntKind.u64.wrap (((q : Int) * 3 + N) % P)) = bf q := by
                rw [HBf.out q, IntKind.wrap_u64, IntKind.wrap_u64]
                have h1 : 0 ≤ ((q : Int) * 3 + N) % P := Int.emod_nonneg _ (by omega)
                have h2 : ((q : Int) * 3 + N) % P < P := Int.emod_lt_of_pos _ (by omega)
                rw [Int.emod_eq_of_lt h1 (by omega)]
              have Hval : Hid (IntKind.u64.wrap (bs + IntKind.u64.wrap (((q : Int) * 3 + N) % P)) = bf q) := hval
              have b8 : Below wr.heap.size wr (wr.alloc (.cells #[.int .u64 (bf q)] 26)) := (Below.refl _ _).alloc (Nat.le_refl _) _
              have O8 := ownsU_below O b8
              have B8 := B.trans (b8.mono B.size)
              have hG8 : G ≤ (wr.alloc (.cells #[.int .u64 (bf q)] 26)).heap.size := Nat.le_trans hG b8.size
              have HCe : Hid (∀ j u, ([Value.int .u64 (bf q)])[j]? = some u → (wr.alloc (.cells #[.int .u64 (bf q)] 26)).cell? ((⟨wr.heap.size, 0, none⟩ : Addr).add j) = some u) := by
                intro j u hj
                rw [add_at, World.cell?_alloc_at _ _ _ _ (by simp)]
                simpa using hj
              clear HBf hbfU HVS2 hval O B hG b8
              go_wp2_with (at_builtin; rw [Hval.out]; refine wpList_append_own _ rfl (.tmp 69) (.tmp 81) 23 rfl G 26 i1 (.int .u64 0) 1 8 Try.underlying23 hi1 hy0 hy1 hy2 rfl (by decide) u9 q ((lstV bf q).map (Value.int .u64)) rfl (by have := O8; rw [ownsU, hln] at this; exact this) ⟨wr.heap.size, 0, none⟩ 1 1 [.int .u64 (bf q)] rfl rfl HCe.out (by intro u hu; simp at hu; subst hu; rfl) ?c3 ?c4 ?c5 ?_)
              case c3 => unfold maxLen; omega
              case c4 => omega
              case c5 => exact hG8
              intro v9 w9 ow gr _
              have O9 : ownsU w9 G v9 (lstV bf (q + 1)) := by rw [HEq.out]; exact ownU_app hln.symm ow
              have hge := ownU_ge O8
              have B9 := B8.grown gr B8.size (fun k hk => by have := hge k hk; omega)
              have hG9 := Nat.le_trans hG8 gr.size
              obtain ⟨g', c', hv9, _, _⟩ := ownsU_at O9 (by rw [lstV_len]; omega)
              rw [lstV_len] at hv9
              subst hv9
              clear ow gr O8 HCe hge B8 hG8 HEq Hval
              go_wp2
              go_roundw
              case rel => exact ⟨q + 1, by omega, by go_num, O9, B9, hG9⟩
              case measure => simp [intOf]; omega
            · have eq : q = P := by omega
              subst eq
              obtain ⟨g', c', hv9, hgG, _⟩ := ownsU_at O (by rw [lstV_len]; omega)
              rw [lstV_len] at hv9
              subst hv9
              have hqc : q ≤ c' := by
                obtain ⟨_, h | ⟨g2, cap2, cur, e, _, _, hle, _⟩⟩ := O
                · cases h.1
                · simp at e; rw [lstV_len] at hle; omega
              by_cases n2 : N = 2
              · have hVS : VS = (lstV bf q).drop 1 := by rw [HVS2.out, if_pos n2]
                have hlen : VS.length = q - 1 := by rw [hVS, List.length_drop, lstV_len]
                have HLen : Hid (VS.length = q - 1) := hlen
                have HSd : Hid (IsVs wr (.slice (some ⟨g', 1, none⟩) (q - 1) (c' - 1)) VS) := ⟨_, _, by rw [hlen], by rw [hVS]; exact src_drop O (by rw [lstV_len]; omega)⟩
                have hn2 : (N : Int) = 2 := by omega
                have hnq : ¬ (q : Int) < (q : Int) := by omega
                have h1q : (1 : Int) ≤ (q : Int) := by omega
                have hc1 : ¬ c' = 1 := by omega
                have hc2 : ¬ 1 = c' := by omega
                have hc3 : 1 < c' := by omega
                clear HVS2 hVS HBf hbfU O
                clear hlen
                go_wp2
                go_ret2
                exact ⟨_, rfl, HSd.out, B⟩
              · have hVS : VS = lstV bf q := by rw [HVS2.out, if_neg n2]
                have hlen : VS.length = q := by rw [hVS, lstV_len]
                have HLen : Hid (VS.length = q) := hlen
                have HSd : Hid (IsVs wr (.slice (some ⟨g', 0, none⟩) q c') VS) := by
                  have hu := ownsU_src O
                  rw [← hVS] at hu
                  exact hu
                have hn2 : ¬ (N : Int) = 2 := by omega
                clear HVS2 hVS HBf hbfU O
                clear hlen
                go_wp2
                go_ret2
                exact ⟨_, rfl, HSd.out, B⟩
        · have HSd : Hid (IsVs wr (.slice (some ⟨g9, 0, none⟩) N c9) (lstV V N)) := ownsU_src O
          by_cases k4 : x0 % 12 = 4
          · have hVS : VS = lstV V N ++ [0] ++ [18446744073709551615] := by rw [HVS.out, if_neg k3, if_pos k4]
            have hF : F = x1 % 3 := by rw [HF.out, if_neg (by omega), if_neg (by omega)]
            subst hF
            have b8 : Below wr.heap.size wr (wr.alloc (.cells #[.int .u64 0] 26)) := (Below.refl _ _).alloc (Nat.le_refl _) _
            have O8 := ownsU_below O b8
            have B8 := B.trans (b8.mono B.size)
            have hG8 : G ≤ (wr.alloc (.cells #[.int .u64 0] 26)).heap.size := Nat.le_trans hG b8.size
            have HCe : Hid (∀ j u, ([Value.int .u64 0])[j]? = some u → (wr.alloc (.cells #[.int .u64 0] 26)).cell? ((⟨wr.heap.size, 0, none⟩ : Addr).add j) = some u) := by
              intro j u hj
              rw [add_at, World.cell?_alloc_at _ _ _ _ (by simp)]
              simpa using hj
            have HVS2 : Hid (VS = lstV V N ++ [0] ++ [18446744073709551615]) := hVS
            clear HN HJ HVS HF hVS O B hG b8 HSd HBf hbfU HP hnU HBs HM' HN' r
            go_wp2_with (at_builtin; refine wpList_append_own _ rfl (.tmp 89) (.tmp 90) 23 rfl G 26 i1 (.int .u64 0) 1 8 Try.underlying23 hi1 hy0 hy1 hy2 rfl (by decide) (.slice (some ⟨g9, 0, none⟩) N c9) N ((lstV V N).map (Value.int .u64)) rfl (by have := O8; rw [ownsU, hlN] at this; exact this) ⟨wr.heap.size, 0, none⟩ 1 1 [.int .u64 0] rfl rfl HCe.out (by intro u hu; simp at hu; subst hu; rfl) ?c3 ?c4 ?c5 ?_)
            case c3 => unfold maxLen; omega
            case c4 => omega
            case c5 => exact hG8
            intro v9 w9 ow gr _
            have O9 : ownsU w9 G v9 (lstV V N ++ [0]) := ownU_app hlN.symm ow
            have hge := ownU_ge O8
            have B9 := B8.grown gr B8.size (fun k hk => by have := hge k hk; omega)
            have hG9 := Nat.le_trans hG8 gr.size
            have hl9 : (lstV V N ++ [0]).length = N + 1 := by rw [List.length_append, hlN]; rfl
            have b10 : Below w9.heap.size w9 (w9.alloc (.cells #[.int .u64 18446744073709551615] 26)) := (Below.refl _ _).alloc (Nat.le_refl _) _
            have O10 := ownsU_below O9 b10
            have B10 := B9.trans (b10.mono B9.size)
            have hG10 : G ≤ (w9.alloc (.cells #[.int .u64 18446744073709551615] 26)).heap.size := Nat.le_trans hG9 b10.size
            have HCf : Hid (∀ j u, ([Value.int .u64 18446744073709551615])[j]? = some u → (w9.alloc (.cells #[.int .u64 18446744073709551615] 26)).cell? ((⟨w9.heap.size, 0, none⟩ : Addr).add j) = some u) := by
              intro j u hj
              rw [add_at, World.cell?_alloc_at _ _ _ _ (by simp)]
              simpa using hj
            obtain ⟨g', c', hv9, _, _⟩ := ownsU_at O9 (by rw [hl9]; omega)
            rw [hl9] at hv9
            subst hv9
            clear ow gr O8 HCe hge B8 hG8 O9 B9 hG9 b10
            go_wp2_with (at_builtin; refine wpList_append_own _ rfl (.tmp 92) (.tmp 93) 23 rfl G 26 i1 (.int .u64 0) 1 8 Try.underlying23 hi1 hy0 hy1 hy2 rfl (by decide) (.slice (some ⟨g', 0, none⟩) (N + 1) c') (N + 1) ((lstV V N ++ [0]).map (Value.int .u64)) rfl (by have := O10; rw [ownsU, hl9] at this; exact this) ⟨w9.heap.size, 0, none⟩ 1 1 [.int .u64 18446744073709551615] rfl rfl HCf.out (by intro u hu; simp at hu; subst hu; rfl) ?c3 ?c4 ?c5 ?_)
            case c3 => unfold maxLen; omega
            case c4 => omega
            case c5 => exact hG10
            intro v11 w11 ow gr _
            have O11 : ownsU w11 G v11 (lstV V N ++ [0] ++ [18446744073709551615]) := by
              have h := ow
              simp only [ownsU, List.length_append, hlN, List.length_cons, List.length_nil, List.map_append, List.map_cons, List.map_nil, List.append_assoc, List.cons_append, List.nil_append]
              exact h
            have hge := ownU_ge O10
            have B11 := B10.grown gr B10.size (fun k hk => by have := hge k hk; omega)
            have HR : Hid (IsVs w11 v11 VS) := by unfold Hid; rw [HVS2.out]; exact ownsU_src O11
            clear ow gr O10 HCf hge B10 hG10 O11 HVS2
            go_wp2
            go_ret2
            exact ⟨_, rfl, HR.out, B11⟩
          · have hVS : VS = lstV V N := by rw [HVS.out, if_neg k3, if_neg k4]
            subst hVS
            clear HVS
            have HLen : Hid ((lstV V N).length = N) := hlN
            by_cases k1 : x0 % 12 = 1
            · have hF : F = 3 := by rw [HF.out, if_pos k1]
              subst hF
              clear HN HJ HF O hG HBf hbfU HP hnU HBs HM' HN' r
              go_wp2
              go_ret2
              exact ⟨_, rfl, HSd.out, B⟩
            · by_cases k2 : x0 % 12 = 2
              · have hF : F = -1 := by rw [HF.out, if_neg k1, if_pos k2]
                subst hF
                clear HN HJ HF O hG HBf hbfU HP hnU HBs HM' HN' r
                go_wp2
                go_ret2
                exact ⟨_, rfl, HSd.out, B⟩
              · have hF : F = x1 % 3 := by rw [HF.out, if_neg k1, if_neg k2]
                subst hF
                clear HN HJ HF O hG HBf hbfU HP hnU HBs HM' HN' r
                go_wp2
                go_ret2
                exact ⟨_, rfl, HSd.out, B⟩
end Go.Proofs.Ytpbljegjinjmnaa
