/-
  CONTRACTS: the program's Cover.
-/
import Derived.Test.YtpbljegjinjmnaaCovJ
import Derived.Test.YtpbljegjinjmnaaCondN
namespace Go.Proofs.Ytpbljegjinjmnaa
open Go.RowKit
set_option linter.unusedVariables false

set_option maxRecDepth 100000 in
set_option maxHeartbeats 1000000 in
theorem coverBy_any (f : Int) (w : World) :
    Calls Try.prog 28 #[.int .i64 f] w fun e w' => e = .returned (.func (.func 48) #[] #[.pointer (some ⟨w.heap.size, 0, none⟩)]) ∧ w' = w.alloc (.cells #[.int .i64 f] 3) := by
  go_enter Try.func28, Try.ntmps28
  go_wp2
  go_ret
  exact ⟨rfl, rfl⟩

theorem cell_ltK' {w : World} {a : Addr} {v : Value} (h : w.cell? a = some v) : a.block < w.heap.size := by
  rcases Nat.lt_or_ge a.block w.heap.size with h' | h'
  · exact h'
  · simp [World.cell?, Array.getElem?_eq_none h'] at h
theorem ret_con {c d : K} (h : c = d) : Ending.returned (conV c) = Ending.returned (conV d) := by rw [h]

set_option maxRecDepth 100000 in
set_option maxHeartbeats 1000000 in
theorem coverFn_any (f : Int) (g : Nat) (a : Option Addr) (cap : Nat) (vs : List Nat) (w : World) (hg : w.cell? ⟨g, 0, none⟩ = some (.int .i64 f)) (hf : 0 ≤ f ∧ f ≤ 2) (hs : USrc w a (natV vs)) (h0 : 0 < vs.length) (hn : vs.length ≤ 16777216) (hv : All64 vs) :
    Calls Try.prog 48 #[.slice a vs.length cap, .pointer (some ⟨g, 0, none⟩)] w fun e w' => e = .returned (conV (coverK vs f)) ∧ Below w.heap.size w w' := by
  have hgl : g < w.heap.size := cell_ltK' hg
  have HAg : Hid (∀ w1, Below w.heap.size w w1 → Calls Try.prog 49 #[.slice a vs.length cap] w1 fun e w' => e = .returned (two (covA vs) (covB vs)) ∧ Below w1.heap.size w1 w') := fun w1 hB => agreedBits_any a cap vs w1 (hs.below hB) h0 hn hv
  have HMin : Hid (∀ w1, Below w.heap.size w w1 → Calls Try.prog 50 #[.slice a vs.length cap] w1 fun e w' => e = .returned (.int .u64 ((minN vs vs.length : Nat) : Int)) ∧ w' = w1) := fun w1 hB => slicesMin_any a cap vs w1 (hs.below hB) h0 hn hv
  have HMax : Hid (∀ w1, Below w.heap.size w w1 → Calls Try.prog 51 #[.slice a vs.length cap] w1 fun e w' => e = .returned (.int .u64 ((maxN vs vs.length : Nat) : Int)) ∧ w' = w1) := fun w1 hB => slicesMax_any a cap vs w1 (hs.below hB) h0 hn hv
  have hlh := min_max vs vs.length
  have hhi := maxN_lt hv vs.length
  have hA := covA_lt vs
  have hB := covB_lt hv
  have HS : Hid (∀ w1, Calls Try.prog 52 #[.int .u64 ((minN vs vs.length : Nat) : Int), .int .u64 ((maxN vs vs.length : Nat) : Int), .int .u64 ((covA vs : Nat) : Int)] w1 fun e w' => e = .returned (.bool (decide (maxN vs vs.length - minN vs vs.length < moreK (covA vs)))) ∧ w' = w1) := fun w1 => isSmallerRange_any _ _ _ w1 hlh hhi hA
  have HNm : Hid (∀ w1, Calls Try.prog 54 #[.int .u64 ((covA vs : Nat) : Int), .int .u64 ((covB vs : Nat) : Int)] w1 fun e w' => e = .returned (setV (newMask (covA vs) (covB vs))) ∧ w' = w1) := fun w1 => newMask_any _ _ w1 hA hB
  have HNr : Hid (∀ w1, Calls Try.prog 53 #[.int .u64 ((minN vs vs.length : Nat) : Int), .int .u64 ((maxN vs vs.length : Nat) : Int)] w1 fun e w' => e = .returned (setV (newRange (minN vs vs.length) (maxN vs vs.length))) ∧ w' = w1) := fun w1 => newRange_any _ _ w1 (by omega) hhi
  have HM : Hid (Meth (coverK vs f) "loop.example/s0039/impl.con" #[] (conV (coverK vs f))) := meth_con (coverK_normal hv f)
  have HK : Hid (coverK vs f = if f = 1 ∨ (f = 0 ∧ moreK (covA vs) ≤ maxN vs vs.length - minN vs vs.length) then newMask (covA vs) (covB vs) else newRange (minN vs vs.length) (maxN vs vs.length)) := by
    unfold Hid coverK
    rw [if_neg]
    rintro (h | h)
    · omega
    · exact h hf
  have Y := BoxK.new w 28 (.int .i64 0) (.int .u64 0) (.int .u64 0)
  have B0 : Below w.heap.size w (w.alloc (.cells #[.int .i64 0, .int .u64 0, .int .u64 0] 28)) := (Below.refl _ _).alloc (Nat.le_refl _) _
  clear hs hv hlh hhi hA hB
  generalize hRe : coverK vs f = R at *
  clear hRe
  obtain ⟨s, hse⟩ : ∃ s, decide (maxN vs vs.length - minN vs vs.length < moreK (covA vs)) = s := ⟨_, rfl⟩
  have HSe : Hid (decide (maxN vs vs.length - minN vs vs.length < moreK (covA vs)) = s) := hse
  rw [hse] at HS
  clear hse
  generalize moreK (covA vs) = m at *
  generalize newMask (covA vs) (covB vs) = NM at *
  generalize newRange (minN vs vs.length) (maxN vs vs.length) = NR at *
  generalize covA vs = A at *
  generalize covB vs = B at *
  generalize minN vs vs.length = lo at *
  generalize maxN vs vs.length = hi at *
  generalize vs.length = n at *
  by_cases f2 : f = 2
  · subst f2
    obtain rfl : R = NR := by have := HK.out; rw [if_neg (by omega)] at this; exact this
    clear HK HSe HS HNm
    go_enter Try.func48, Try.ntmps48
    go_wp2_with fail
    refine (HAg.out _ B0).mono ?_
    rintro e w1 ⟨rfl, hb1⟩
    have Y1 := Y.keep hb1
    have B1 := B0.trans (hb1.mono B0.size)
    have hg1 : w1.cell? ⟨g, 0, none⟩ = some (.int .i64 2) := (B1.cell hgl).trans hg
    clear Y hb1 B0 HAg
    go_wp2_with fail
    refine (HMin.out _ B1).mono ?_
    rintro e w2 ⟨rfl, rfl⟩
    go_wp2_with fail
    refine (HMax.out _ B1).mono ?_
    rintro e w3 ⟨rfl, rfl⟩
    clear HMin HMax
    go_wp2_with fail
    refine (HNr.out _).mono ?_
    rintro e w4 ⟨rfl, rfl⟩
    obtain ⟨T, P, F, e1, e2, e4, e3⟩ := HM.out
    have HF : Hid (∀ w, Calls Try.prog F #[P] w fun e w' => e = .returned (conV R) ∧ Below w.heap.size w w') := e3
    rw [e1]
    clear HM e3 e1
    go_wp2_with fail
    refine (HF.out _).mono ?_
    rintro e w3 ⟨rfl, hb3⟩
    obtain ⟨yl, y0, y1, y2, g0, g1, g2⟩ := Y1.keep hb3
    have B3 := B1.trans (hb3.mono B1.size)
    obtain ⟨nk, na, nb⟩ := R
    simp only [conV]
    go_wp2
    exact bodyPost_ret (v := conV ⟨nk, na, nb⟩) (by simp [results, Try.results48, go_sem, y0, y1, y2]) rfl ⟨rfl, below_set3 B3 (Nat.le_refl _) _ _ _⟩
  · by_cases f1 : f = 1
    · subst f1
      obtain rfl : R = NM := by have := HK.out; rw [if_pos (.inl rfl)] at this; exact this
      clear HK HSe HS HNr
      go_enter Try.func48, Try.ntmps48
      go_wp2_with fail
      refine (HAg.out _ B0).mono ?_
      rintro e w1 ⟨rfl, hb1⟩
      have Y1 := Y.keep hb1
      have B1 := B0.trans (hb1.mono B0.size)
      have hg1 : w1.cell? ⟨g, 0, none⟩ = some (.int .i64 1) := (B1.cell hgl).trans hg
      clear Y hb1 B0 HAg
      go_wp2_with fail
      refine (HMin.out _ B1).mono ?_
      rintro e w2 ⟨rfl, rfl⟩
      go_wp2_with fail
      refine (HMax.out _ B1).mono ?_
      rintro e w3 ⟨rfl, rfl⟩
      clear HMin HMax
      go_wp2_with fail
      refine (HNm.out _).mono ?_
      rintro e w4 ⟨rfl, rfl⟩
      obtain ⟨T, P, F, e1, e2, e4, e3⟩ := HM.out
      have HF : Hid (∀ w, Calls Try.prog F #[P] w fun e w' => e = .returned (conV R) ∧ Below w.heap.size w w') := e3
      rw [e1]
      clear HM e3 e1
      go_wp2_with fail
      refine (HF.out _).mono ?_
      rintro e w3 ⟨rfl, hb3⟩
      obtain ⟨yl, y0, y1, y2, g0, g1, g2⟩ := Y1.keep hb3
      have B3 := B1.trans (hb3.mono B1.size)
      obtain ⟨nk, na, nb⟩ := R
      simp only [conV]
      go_wp2
      exact bodyPost_ret (v := conV ⟨nk, na, nb⟩) (by simp [results, Try.results48, go_sem, y0, y1, y2]) rfl ⟨rfl, below_set3 B3 (Nat.le_refl _) _ _ _⟩
    · have f0 : f = 0 := by omega
      subst f0
      cases s with
      | true =>
        obtain rfl : R = NR := by have := HK.out; rw [if_neg (by have := of_decide_eq_true HSe.out; omega)] at this; exact this
        clear HK HSe HNm
        go_enter Try.func48, Try.ntmps48
        go_wp2_with fail
        refine (HAg.out _ B0).mono ?_
        rintro e w1 ⟨rfl, hb1⟩
        have Y1 := Y.keep hb1
        have B1 := B0.trans (hb1.mono B0.size)
        have hg1 : w1.cell? ⟨g, 0, none⟩ = some (.int .i64 0) := (B1.cell hgl).trans hg
        clear Y hb1 B0 HAg
        go_wp2_with fail
        refine (HMin.out _ B1).mono ?_
        rintro e w2 ⟨rfl, rfl⟩
        go_wp2_with fail
        refine (HMax.out _ B1).mono ?_
        rintro e w3 ⟨rfl, rfl⟩
        clear HMin HMax
        go_wp2_with fail
        refine (HS.out _).mono ?_
        rintro e w5 ⟨rfl, rfl⟩
        clear HS
        go_wp2_with fail
        refine (HNr.out _).mono ?_
        rintro e w4 ⟨rfl, rfl⟩
        obtain ⟨T, P, F, e1, e2, e4, e3⟩ := HM.out
        have HF : Hid (∀ w, Calls Try.prog F #[P] w fun e w' => e = .returned (conV R) ∧ Below w.heap.size w w') := e3
        rw [e1]
        clear HM e3 e1
        go_wp2_with fail
        refine (HF.out _).mono ?_
        rintro e w3 ⟨rfl, hb3⟩
        obtain ⟨yl, y0, y1, y2, g0, g1, g2⟩ := Y1.keep hb3
        have B3 := B1.trans (hb3.mono B1.size)
        obtain ⟨nk, na, nb⟩ := R
        simp only [conV]
        go_wp2
        exact bodyPost_ret (v := conV ⟨nk, na, nb⟩) (by simp [results, Try.results48, go_sem, y0, y1, y2]) rfl ⟨rfl, below_set3 B3 (Nat.le_refl _) _ _ _⟩
      | false =>
        obtain rfl : R = NM := by have := HK.out; rw [if_pos (by have := of_decide_eq_false HSe.out; omega)] at this; exact this
        clear HK HSe HNr
        go_enter Try.func48, Try.ntmps48
        go_wp2_with fail
        refine (HAg.out _ B0).mono ?_
        rintro e w1 ⟨rfl, hb1⟩
        have Y1 := Y.keep hb1
        have B1 := B0.trans (hb1.mono B0.size)
        have hg1 : w1.cell? ⟨g, 0, none⟩ = some (.int .i64 0) := (B1.cell hgl).trans hg
        clear Y hb1 B0 HAg
        go_wp2_with fail
        refine (HMin.out _ B1).mono ?_
        rintro e w2 ⟨rfl, rfl⟩
        go_wp2_with fail
        refine (HMax.out _ B1).mono ?_
        rintro e w3 ⟨rfl, rfl⟩
        clear HMin HMax
        go_wp2_with fail
        refine (HS.out _).mono ?_
        rintro e w5 ⟨rfl, rfl⟩
        clear HS
        go_wp2_with fail
        refine (HNm.out _).mono ?_
        rintro e w4 ⟨rfl, rfl⟩
        obtain ⟨T, P, F, e1, e2, e4, e3⟩ := HM.out
        have HF : Hid (∀ w, Calls Try.prog F #[P] w fun e w' => e = .returned (conV R) ∧ Below w.heap.size w w') := e3
        rw [e1]
        clear HM e3 e1
        go_wp2_with fail
        refine (HF.out _).mono ?_
        rintro e w3 ⟨rfl, hb3⟩
        obtain ⟨yl, y0, y1, y2, g0, g1, g2⟩ := Y1.keep hb3
        have B3 := B1.trans (hb3.mono B1.size)
        obtain ⟨nk, na, nb⟩ := R
        simp only [conV]
        go_wp2
        exact bodyPost_ret (v := conV ⟨nk, na, nb⟩) (by simp [results, Try.results48, go_sem, y0, y1, y2]) rfl ⟨rfl, below_set3 B3 (Nat.le_refl _) _ _ _⟩
end Go.Proofs.Ytpbljegjinjmnaa
