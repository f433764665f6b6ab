/-
  CONTRACTS: the program's Cover; the model's range, mask and size.
-/
import Derived.Test.YtpbljegjinjmnaaCovK
namespace Go.Proofs.Ytpbljegjinjmnaa
open Go.RowKit
set_option linter.unusedVariables false

theorem coverK_none (vs : List Nat) (f : Int) (h : vs.length = 0 ∨ ¬ (0 ≤ f ∧ f ≤ 2)) : coverK vs f = ⟨0, 0, 0⟩ := by unfold coverK; rw [if_pos h]

set_option maxRecDepth 100000 in
set_option maxHeartbeats 1000000 in
theorem implCover_any (f : Int) (a : Option Addr) (cap : Nat) (vs : List Nat) (w : World) (hs : USrc w a (natV vs)) (hn : vs.length ≤ 16777216) (hv : All64 vs) :
    Calls Try.prog 7 #[.slice a vs.length cap, .int .i64 f] w fun e w' => e = .returned (conV (coverK vs f)) ∧ Below w.heap.size w w' := by
  have Y := BoxK.new w 28 (.int .i64 0) (.int .u64 0) (.int .u64 0)
  have B0 : Below w.heap.size w (w.alloc (.cells #[.int .i64 0, .int .u64 0, .int .u64 0] 28)) := (Below.refl _ _).alloc (Nat.le_refl _) _
  have HF : Hid (∀ w1, Calls Try.prog 27 #[.int .i64 f] w1 fun e w' => e = .returned (.bool (decide (0 ≤ f ∧ f ≤ 2))) ∧ w' = w1) := fun w1 => isForm_any f w1
  by_cases h0 : vs.length = 0
  · have HK : Hid (coverK vs f = ⟨0, 0, 0⟩) := coverK_none vs f (.inl h0)
    rw [HK.out, h0]
    clear HK HF h0 hs hv hn
    obtain ⟨yl, y0, y1, y2, g0, g1, g2⟩ := Y
    go_enter Try.func7, Try.ntmps7
    go_wp2
    exact bodyPost_ret (v := conV ⟨0, 0, 0⟩) (by simp [results, Try.results7, go_sem]) rfl ⟨rfl, B0⟩
  · by_cases hf : 0 ≤ f ∧ f ≤ 2
    · rw [decide_eq_true hf] at HF
      have HG : Hid (∀ w1 g, Below w.heap.size w w1 → w1.cell? ⟨g, 0, none⟩ = some (.int .i64 f) → Calls Try.prog 48 #[.slice a vs.length cap, .pointer (some ⟨g, 0, none⟩)] w1 fun e w' => e = .returned (conV (coverK vs f)) ∧ Below w1.heap.size w1 w') := fun w1 g hB hg => coverFn_any f g a cap vs w1 hg hf (hs.below hB) (by omega) hn hv
      have HBy : Hid (∀ w1, Calls Try.prog 28 #[.int .i64 f] w1 fun e w' => e = .returned (.func (.func 48) #[] #[.pointer (some ⟨w1.heap.size, 0, none⟩)]) ∧ w' = w1.alloc (.cells #[.int .i64 f] 3)) := fun w1 => coverBy_any f w1
      clear hs hv hf
      generalize coverK vs f = R at *
      generalize vs.length = n at *
      have h0' : ¬ (n : Int) = 0 := by omega
      go_enter Try.func7, Try.ntmps7
      go_wp2_with fail
      refine (HF.out _).mono ?_
      rintro e w1 ⟨rfl, rfl⟩
      go_wp2_with fail
      refine (HBy.out _).mono ?_
      rintro e w1 ⟨rfl, rfl⟩
      go_wp2_with fail
      have Y1 := Y.alloc (.cells #[.int .i64 f] 3)
      have B1 := B0.alloc (by simp) (.cells #[.int .i64 f] 3)
      refine (HG.out _ _ B1 (by simp)).mono ?_
      rintro e w2 ⟨rfl, hb2⟩
      obtain ⟨yl, y0, y1, y2, g0, g1, g2⟩ := Y1.keep hb2
      have B2 := B1.trans (hb2.mono B1.size)
      obtain ⟨nk, na, nb⟩ := R
      simp only [conV]
      clear Y Y1 B0 B1 hb2 HF HG HBy
      go_wp2
      exact bodyPost_ret (v := conV ⟨nk, na, nb⟩) (by simp [results, Try.results7, go_sem, y0, y1, y2]) rfl ⟨rfl, below_set3 B2 (Nat.le_refl _) _ _ _⟩
    · have HK : Hid (coverK vs f = ⟨0, 0, 0⟩) := coverK_none vs f (.inr hf)
      rw [HK.out]
      rw [decide_eq_false hf] at HF
      clear HK hs hv
      generalize vs.length = n at *
      have h0' : ¬ (n : Int) = 0 := by omega
      obtain ⟨yl, y0, y1, y2, g0, g1, g2⟩ := Y
      go_enter Try.func7, Try.ntmps7
      go_wp2_with fail
      refine (HF.out _).mono ?_
      rintro e w1 ⟨rfl, rfl⟩
      go_wp2
      exact bodyPost_ret (v := conV ⟨0, 0, 0⟩) (by simp [results, Try.results7, go_sem]) rfl ⟨rfl, B0⟩

theorem shl_bit {k : Nat} (h : k < 64) : IntKind.u64.wrap (2 ^ k) = ((2 ^ k : Nat) : Int) := by
  have h1 : 2 ^ k < 18446744073709551616 := Nat.pow_lt_pow_right (a := 2) (by omega) h
  have e : ((2 : Int) ^ k) = ((2 ^ k : Nat) : Int) := by simp
  rw [IntKind.wrap_u64, e]
  generalize 2 ^ k = p at *
  omega

set_option maxRecDepth 100000 in
set_option maxHeartbeats 1000000 in
theorem l4more_any (a : Nat) (w : World) (ha : a < 18446744073709551616) :
    Calls Try.prog 45 #[.int .u64 (a : Int)] w fun e w' => e = .returned (.int .u64 ((moreK a : Nat) : Int)) ∧ w' = w := by
  have H0 : Hid (low (popN (inv a) 0) = 0) := rfl
  have HE : Hid (low (popN (inv a) 64) = moreK a) := rfl
  have HY : Hid (∀ k, k < 64 → a.testBit k = true → low (popN (inv a) (k + 1)) = low (popN (inv a) k)) := by
    intro k hk h
    have e : (inv a).testBit k = false := by rw [bit_inv ha, h]; simp
    have e2 : popN (inv a) (k + 1) = popN (inv a) k := by rw [popN, if_neg (by rw [e]; decide), Nat.add_zero]
    rw [e2]
  have HNo : Hid (∀ k, k < 64 → a.testBit k = false → low (popN (inv a) (k + 1)) = low (popN (inv a) k) * 2 + 1) := by
    intro k hk h
    have e : (inv a).testBit k = true := by rw [bit_inv ha, h]; simp [hk]
    have e2 : popN (inv a) (k + 1) = popN (inv a) k + 1 := by rw [popN, if_pos e]
    rw [e2, low_next]
  have HL : Hid (∀ k, k ≤ 64 → low (popN (inv a) k) < 18446744073709551616) := by
    intro k hk
    have := low_le (Nat.le_trans (popN_le (inv a) k) hk)
    omega
  generalize moreK a = R at *
  obtain ⟨M, hM⟩ : ∃ M : Nat → Nat, M = fun k => low (popN (inv a) k) := ⟨_, rfl⟩
  have H0' : Hid (M 0 = 0) := by rw [hM]; exact H0
  have HE' : Hid (M 64 = R) := by rw [hM]; exact HE
  have HY' : Hid (∀ k, k < 64 → a.testBit k = true → M (k + 1) = M k) := by rw [hM]; exact HY
  have HN' : Hid (∀ k, k < 64 → a.testBit k = false → M (k + 1) = M k * 2 + 1) := by rw [hM]; exact HNo
  have HL' : Hid (∀ k, k ≤ 64 → M k < 18446744073709551616) := by rw [hM]; exact HL
  clear hM H0 HE HY HNo HL
  have HB : Hid (∀ k, k < 64 → ∃ p : Nat, p < 18446744073709551616 ∧ IntKind.u64.wrap (2 ^ k) = (p : Int) ∧ (bits .and .u64 (a : Int) (p : Int) = 0 ↔ a.testBit k = false)) := by
    intro k hk
    have h1 : 2 ^ k < 18446744073709551616 := Nat.pow_lt_pow_right (a := 2) (by omega) hk
    refine ⟨2 ^ k, h1, shl_bit hk, ?_⟩
    rw [u64_and a _ ha h1, ← and_bit]
    omega
  go_enter Try.func45, Try.ntmps45
  go_wp2_with fail
  go_loopw [3, 4] (fun v i wr => ∃ k : Nat, k ≤ 64 ∧ i = .int .i64 k ∧ v = .int .u64 (M k : Nat) ∧ wr = w) (fun _ i _ => 64 - (intOf i).toNat)
  case atStart => exact ⟨0, by omega, rfl, by rw [H0'.out]; rfl, rfl⟩
  case round =>
    obtain ⟨k, hk, rfl, rfl, rfl⟩ := hrel
    by_cases hlt : k < 64
    · obtain ⟨p, hp, e1, e2⟩ := HB.out k hlt
      cases ht : a.testBit k with
      | true =>
        have E : Hid (M (k + 1) = M k) := HY'.out k hlt ht
        have e3 : ¬ bits .and .u64 (a : Int) (p : Int) = 0 := fun h => by rw [e2.1 h] at ht; exact absurd ht (by decide)
        clear H0' HE' HY' HN' HL' HB e2 ht
        go_wp2
        go_roundw
        case rel => exact ⟨k + 1, by omega, by go_num, by rw [E.out], trivial⟩
        case measure => simp [intOf]; omega
      | false =>
        have E : Hid (M (k + 1) = M k * 2 + 1) := HN'.out k hlt ht
        have e3 : bits .and .u64 (a : Int) (p : Int) = 0 := e2.2 ht
        have hl : M k * 2 + 1 < 18446744073709551616 := by have := HL'.out (k + 1) (by omega); rw [E.out] at this; exact this
        clear H0' HE' HY' HN' HL' HB e2 ht
        go_wp2
        go_roundw
        case rel => 
          refine ⟨k + 1, by omega, by go_num, ?_, trivial⟩
          rw [E.out]; congr 1
        case measure => simp [intOf]; omega
    · have e : k = 64 := by omega
      subst e
      have E := HE'.out
      clear H0' HE' HY' HN' HL' HB
      subst E
      go_wp2
      go_ret
      exact ⟨rfl, rfl⟩
end Go.Proofs.Ytpbljegjinjmnaa
