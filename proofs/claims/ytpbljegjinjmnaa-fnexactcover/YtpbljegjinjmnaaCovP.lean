/-
  CONTRACTS: the model's Cover.
-/
import Derived.Test.YtpbljegjinjmnaaCovS
namespace Go.Proofs.Ytpbljegjinjmnaa
open Go.RowKit
set_option linter.unusedVariables false

set_option maxRecDepth 100000 in
set_option maxHeartbeats 2000000 in
theorem specCover_any (f : Int) (a : Option Addr) (cap : Nat) (vs : List Nat) (w : World) (hs : USrc w a (natV vs)) (hn : vs.length ≤ 16777216) (hv : All64 vs) :
    Calls Try.prog 18 #[.slice a vs.length cap, .int .i64 f] w fun e w' => e = .returned (conV (coverK vs f)) ∧ Below w.heap.size w w' := by
  have Y := BoxK.new w 28 (.int .i64 0) (.int .u64 0) (.int .u64 0)
  have B0 : Below w.heap.size w (w.alloc (.cells #[.int .i64 0, .int .u64 0, .int .u64 0] 28)) := (Below.refl _ _).alloc (Nat.le_refl _) _
  by_cases h0 : vs.length = 0
  · have HK : Hid (coverK vs f = ⟨0, 0, 0⟩) := coverK_none vs f (.inl h0)
    rw [HK.out, h0]
    clear HK h0 hs hv hn
    obtain ⟨yl, y0, y1, y2, g0, g1, g2⟩ := Y
    go_enter Try.func18, Try.ntmps18
    go_wp2
    exact bodyPost_ret (v := conV ⟨0, 0, 0⟩) (by simp [results, Try.results18, go_sem]) rfl ⟨rfl, B0⟩
  · by_cases hf : 0 ≤ f ∧ f ≤ 2
    · have h0' : 0 < vs.length := by omega
      have hA := covA_lt vs
      have hB := covB_lt hv
      have hlh := min_max vs vs.length
      have hhi := maxN_lt hv vs.length
      have HMk : Hid (∀ w1, Below w.heap.size w w1 → Calls Try.prog 43 #[.slice a vs.length cap] w1 fun e w' => e = .returned (conV ⟨1, covA vs, covB vs⟩) ∧ Below w1.heap.size w1 w') := fun w1 hB => l4mask_any a cap vs w1 (hs.below hB) h0' hn hv
      have HRg : Hid (∀ w1, Below w.heap.size w w1 → Calls Try.prog 44 #[.slice a vs.length cap] w1 fun e w' => e = .returned (conV ⟨2, minN vs vs.length, maxN vs vs.length⟩) ∧ Below w1.heap.size w1 w') := fun w1 hB => l4range_any a cap vs w1 (hs.below hB) h0' hn hv
      have HMo : Hid (∀ w1, Calls Try.prog 45 #[.int .u64 ((covA vs : Nat) : Int)] w1 fun e w' => e = .returned (.int .u64 ((moreK (covA vs) : Nat) : Int)) ∧ w' = w1) := fun w1 => l4more_any _ w1 hA
      have HN1 : Hid (∀ w1, Calls Try.prog 46 #[.agg #[.int .i64 1, .int .u64 ((covA vs : Nat) : Int), .int .u64 ((covB vs : Nat) : Int)]] w1 fun e w' => e = .returned (conV (newMask (covA vs) (covB vs))) ∧ Below w1.heap.size w1 w') := fun w1 => l3norm_any ⟨1, covA vs, covB vs⟩ w1 ⟨⟨by simp, by simp⟩, hA, hB⟩ (by simp [validK, cov_valid])
      have HN2 : Hid (∀ w1, Calls Try.prog 46 #[.agg #[.int .i64 2, .int .u64 ((minN vs vs.length : Nat) : Int), .int .u64 ((maxN vs vs.length : Nat) : Int)]] w1 fun e w' => e = .returned (conV (newRange (minN vs vs.length) (maxN vs vs.length))) ∧ Below w1.heap.size w1 w') := fun w1 => l3norm_any ⟨2, minN vs vs.length, maxN vs vs.length⟩ w1 ⟨⟨by simp, by simp⟩, by simp only; omega, hhi⟩ (by simp [validK, hlh])
      have HK : Hid (coverK vs f = if f = 1 ∨ (f = 0 ∧ moreK (covA vs) ≤ maxN vs vs.length - minN vs vs.length) then newMask (covA vs) (covB vs) else newRange (minN vs vs.length) (maxN vs vs.length)) := by
        unfold Hid coverK
        rw [if_neg]
        rintro (h | h)
        · omega
        · exact h hf
      have hmo : moreK (covA vs) < 18446744073709551616 := by have := low_le (popN_le (inv (covA vs)) 64); unfold moreK; omega
      clear hs hv
      generalize hRe : coverK vs f = R at *
      clear hRe
      generalize moreK (covA vs) = m at *
      generalize newMask (covA vs) (covB vs) = NM at *
      generalize newRange (minN vs vs.length) (maxN vs vs.length) = NR at *
      generalize covA vs = A at *
      generalize covB vs = B at *
      generalize minN vs vs.length = lo at *
      generalize maxN vs vs.length = hi at *
      generalize vs.length = n at *
      have h0i : ¬ (n : Int) = 0 := by omega
      have hf0 : ¬ f < 0 := by omega
      have hf2 : ¬ 2 < f := by omega
      simp only [conV] at HMk HRg
      go_enter Try.func18, Try.ntmps18
      go_wp2_with fail
      refine (HMk.out _ B0).mono ?_
      rintro e w1 ⟨rfl, hb1⟩
      have B1 := (B0.trans (hb1.mono B0.size)).alloc (Nat.le_trans B0.size hb1.size) (.cells #[.int .i64 1, .int .u64 (A : Int), .int .u64 (B : Int)] 28)
      have Y1 := (Y.keep hb1).alloc (.cells #[.int .i64 1, .int .u64 (A : Int), .int .u64 (B : Int)] 28)
      have X1 := BoxK.new w1 28 (.int .i64 1) (.int .u64 (A : Int)) (.int .u64 (B : Int))
      clear Y B0 hb1 HMk
      go_wp2_with fail
      refine (HRg.out _ B1).mono ?_
      rintro e w2 ⟨rfl, hb2⟩
      have B2 := B1.trans (hb2.mono B1.size)
      have Y2 := Y1.keep hb2
      have X2 := X1.keep hb2
      clear Y1 X1 B1 hb2 HRg
      have B3 := B2.alloc B2.size (.cells #[.int .i64 2, .int .u64 (lo : Int), .int .u64 (hi : Int)] 28)
      have Y3 := Y2.alloc (.cells #[.int .i64 2, .int .u64 (lo : Int), .int .u64 (hi : Int)] 28)
      have X3 := X2.alloc (.cells #[.int .i64 2, .int .u64 (lo : Int), .int .u64 (hi : Int)] 28)
      have Z3 := BoxK.new w2 28 (.int .i64 2) (.int .u64 (lo : Int)) (.int .u64 (hi : Int))
      clear B2 Y2 X2
      go_wp2_with fail
      have HX3 : Hid _ := X3
      have HZ3 : Hid _ := Z3
      obtain ⟨_, p0, p1, p2, _, _, _⟩ := X3
      obtain ⟨_, r0, r1, r2, _, _, _⟩ := Z3
      have X3 := HX3
      have Z3 := HZ3
      clear HX3 HZ3
      generalize w2.alloc (.cells #[.int .i64 2, .int .u64 (lo : Int), .int .u64 (hi : Int)] 28) = W3 at *
      by_cases f1 : f = 1
      · subst f1
        obtain rfl : R = NM := by have := HK.out; rw [if_pos (.inl rfl)] at this; exact this
        clear HK
        go_wp2_with fail
        go_quiet (fail)
        have Y4 := Y3.keep (below_drewN (Below.refl _ _) nq)
        have B4 := below_drewN B3 nq
        obtain ⟨xl, x0, x1, x2, _, _, _⟩ := X3.keep (below_drewN (Below.refl _ _) nq)
        obtain ⟨zl, z0, z1, z2, _, _, _⟩ := Z3.keep (below_drewN (Below.refl _ _) nq)
        clear X3 Z3 Y3 B3
        generalize W3.drewN nq = W4 at *
        go_wp2_with fail
        refine (HN1.out _).mono ?_
        rintro e w5 ⟨rfl, hb5⟩
        obtain ⟨yl, y0, y1, y2, g0, g1, g2⟩ := Y4.keep hb5
        have B5 := B4.trans (hb5.mono B4.size)
        clear x0 x1 x2 z0 z1 z2 Y4 B4 hb5 HN1 HN2 HMo
        obtain ⟨nk, na, nb⟩ := R
        simp only [conV]
        go_wp2
        exact bodyPost_ret (v := conV ⟨nk, na, nb⟩) (by simp [results, Try.results18, go_sem, y0, y1, y2]) rfl ⟨rfl, below_set3 B5 (Nat.le_refl _) _ _ _⟩
      · by_cases f2 : f = 2
        · subst f2
          obtain rfl : R = NR := by have := HK.out; rw [if_neg (by omega)] at this; exact this
          clear HK
          go_wp2_with fail
          go_quiet (fail)
          have Y4 := Y3.keep (below_drewN (Below.refl _ _) nq)
          have B4 := below_drewN B3 nq
          obtain ⟨xl, x0, x1, x2, _, _, _⟩ := X3.keep (below_drewN (Below.refl _ _) nq)
          obtain ⟨zl, z0, z1, z2, _, _, _⟩ := Z3.keep (below_drewN (Below.refl _ _) nq)
          clear X3 Z3 Y3 B3
          generalize W3.drewN nq = W4 at *
          go_wp2_with fail
          refine (HN2.out _).mono ?_
          rintro e w5 ⟨rfl, hb5⟩
          obtain ⟨yl, y0, y1, y2, g0, g1, g2⟩ := Y4.keep hb5
          have B5 := B4.trans (hb5.mono B4.size)
          clear x0 x1 x2 z0 z1 z2 Y4 B4 hb5 HN1 HN2 HMo
          obtain ⟨nk, na, nb⟩ := R
          simp only [conV]
          go_wp2
          exact bodyPost_ret (v := conV ⟨nk, na, nb⟩) (by simp [results, Try.results18, go_sem, y0, y1, y2]) rfl ⟨rfl, below_set3 B5 (Nat.le_refl _) _ _ _⟩
        · have f0 : f = 0 := by omega
          subst f0
          by_cases q : m ≤ hi - lo
          · obtain rfl : R = NM := by have := HK.out; rw [if_pos (.inr ⟨rfl, q⟩)] at this; exact this
            have q' : (m : Int) ≤ (hi : Int) - (lo : Int) := by omega
            clear HK
            go_wp2_with fail
            go_quiet (first | (go_at_call 45; exact Calls.quiet_of_same (HMo.out _)))
            have Y4 := Y3.keep (below_drewN (Below.refl _ _) nq)
            have B4 := below_drewN B3 nq
            obtain ⟨xl, x0, x1, x2, _, _, _⟩ := X3.keep (below_drewN (Below.refl _ _) nq)
            obtain ⟨zl, z0, z1, z2, _, _, _⟩ := Z3.keep (below_drewN (Below.refl _ _) nq)
            clear X3 Z3 Y3 B3
            generalize W3.drewN nq = W4 at *
            go_wp2_with fail
            refine (HN1.out _).mono ?_
            rintro e w5 ⟨rfl, hb5⟩
            obtain ⟨yl, y0, y1, y2, g0, g1, g2⟩ := Y4.keep hb5
            have B5 := B4.trans (hb5.mono B4.size)
            clear x0 x1 x2 z0 z1 z2 Y4 B4 hb5 HN1 HN2 HMo
            obtain ⟨nk, na, nb⟩ := R
            simp only [conV]
            go_wp2
            exact bodyPost_ret (v := conV ⟨nk, na, nb⟩) (by simp [results, Try.results18, go_sem, y0, y1, y2]) rfl ⟨rfl, below_set3 B5 (Nat.le_refl _) _ _ _⟩
          · obtain rfl : R = NR := by have := HK.out; rw [if_neg (by omega)] at this; exact this
            have q' : ¬ (m : Int) ≤ (hi : Int) - (lo : Int) := by omega
            clear HK
            go_wp2_with fail
            go_quiet (first | (go_at_call 45; exact Calls.quiet_of_same (HMo.out _)))
            have Y4 := Y3.keep (below_drewN (Below.refl _ _) nq)
            have B4 := below_drewN B3 nq
            obtain ⟨xl, x0, x1, x2, _, _, _⟩ := X3.keep (below_drewN (Below.refl _ _) nq)
            obtain ⟨zl, z0, z1, z2, _, _, _⟩ := Z3.keep (below_drewN (Below.refl _ _) nq)
            clear X3 Z3 Y3 B3
            generalize W3.drewN nq = W4 at *
            go_wp2_with fail
            refine (HN2.out _).mono ?_
            rintro e w5 ⟨rfl, hb5⟩
            obtain ⟨yl, y0, y1, y2, g0, g1, g2⟩ := Y4.keep hb5
            have B5 := B4.trans (hb5.mono B4.size)
            clear x0 x1 x2 z0 z1 z2 Y4 B4 hb5 HN1 HN2 HMo
            obtain ⟨nk, na, nb⟩ := R
            simp only [conV]
            go_wp2
            exact bodyPost_ret (v := conV ⟨nk, na, nb⟩) (by simp [results, Try.results18, go_sem, y0, y1, y2]) rfl ⟨rfl, below_set3 B5 (Nat.le_refl _) _ _ _⟩
    · have HK : Hid (coverK vs f = ⟨0, 0, 0⟩) := coverK_none vs f (.inr hf)
      rw [HK.out]
      clear HK hs hv
      generalize vs.length = n at *
      have h0' : ¬ (n : Int) = 0 := by omega
      obtain ⟨yl, y0, y1, y2, g0, g1, g2⟩ := Y
      by_cases q : f < 0
      · go_enter Try.func18, Try.ntmps18
        go_wp2
        exact bodyPost_ret (v := conV ⟨0, 0, 0⟩) (by simp [results, Try.results18, go_sem]) rfl ⟨rfl, B0⟩
      · have q2 : 2 < f := by omega
        go_enter Try.func18, Try.ntmps18
        go_wp2
        exact bodyPost_ret (v := conV ⟨0, 0, 0⟩) (by simp [results, Try.results18, go_sem]) rfl ⟨rfl, B0⟩
end Go.Proofs.Ytpbljegjinjmnaa
