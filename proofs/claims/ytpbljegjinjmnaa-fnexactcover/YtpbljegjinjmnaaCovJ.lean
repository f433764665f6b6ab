/-
  CONTRACTS: the program's helpers of covering values, second part.
-/
import Derived.Test.YtpbljegjinjmnaaCovI
import Derived.Test.YtpbljegjinjmnaaCondL
namespace Go.Proofs.Ytpbljegjinjmnaa
open Go.RowKit
set_option linter.unusedVariables false

set_option maxRecDepth 100000 in
set_option maxHeartbeats 1000000 in
theorem isForm_any (f : Int) (w : World) :
    Calls Try.prog 27 #[.int .i64 f] w fun e w' => e = .returned (.bool (decide (0 ≤ f ∧ f ≤ 2))) ∧ w' = w := by
  have HE : Hid (decide (0 ≤ f ∧ f ≤ 2) = (f == 0 || f == 1 || f == 2)) := by
    unfold Hid
    rw [Bool.eq_iff_iff]
    simp only [decide_eq_true_eq, Bool.or_eq_true, beq_iff_eq]
    omega
  rw [HE.out]
  clear HE
  by_cases h0 : f = 0
  · subst h0
    go_enter Try.func27, Try.ntmps27
    go_wp2
    go_ret
    exact ⟨rfl, rfl⟩
  · by_cases h1 : f = 1
    · subst h1
      go_enter Try.func27, Try.ntmps27
      go_wp2
      go_ret
      exact ⟨rfl, rfl⟩
    · by_cases h2 : f = 2
      · subst h2
        go_enter Try.func27, Try.ntmps27
        go_wp2
        go_ret
        exact ⟨rfl, rfl⟩
      · go_enter Try.func27, Try.ntmps27
        go_wp2
        go_ret
        refine ⟨?_, rfl⟩
        simp

theorem shl_one {n : Nat} (h : n ≤ 64) : IntKind.u64.wrap (IntKind.u64.wrap (2 ^ n) - 1) = ((low n : Nat) : Int) := by
  have h1 := low_succ n
  have h2 := low_le h
  have e : ((2 : Int) ^ n) = ((2 ^ n : Nat) : Int) := by simp
  rw [IntKind.wrap_u64, IntKind.wrap_u64, e]
  omega

set_option maxRecDepth 100000 in
set_option maxHeartbeats 1000000 in
theorem isSmallerRange_any (l h m : Nat) (w : World) (hlh : l ≤ h) (hh : h < 18446744073709551616) (hm : m < 18446744073709551616) :
    Calls Try.prog 52 #[.int .u64 (l : Int), .int .u64 (h : Int), .int .u64 (m : Int)] w fun e w' => e = .returned (.bool (decide (h - l < moreK m))) ∧ w' = w := by
  have HO : Hid (∀ w, Calls Try.prog 62 #[.int .u64 ((inv m : Nat) : Int)] w fun e w' => e = .returned (.int .i64 ((popN (inv m) 64 : Nat) : Int)) ∧ w' = w) := fun w => onesCount_any _ w (inv_lt m)
  have HN : bits .xor .u64 IntKind.u64.max (m : Int) = ((inv m : Nat) : Int) := u64_not m hm
  have hn := popN_le (inv m) 64
  have HS : Hid (IntKind.u64.wrap (IntKind.u64.wrap (2 ^ popN (inv m) 64) - 1) = ((moreK m : Nat) : Int)) := shl_one hn
  have HL : Hid (moreK m < 18446744073709551616) := by have := low_le hn; unfold Hid moreK; omega
  have e1 : ((h : Int) - (l : Int)) = ((h - l : Nat) : Int) := by omega
  have hd : h - l < 18446744073709551616 := by omega
  generalize moreK m = M at *
  generalize popN (inv m) 64 = n at *
  generalize inv m = I at *
  go_enter Try.func52, Try.ntmps52
  go_wp2_with fail
  refine (HO.out _).mono ?_
  rintro e w1 ⟨rfl, rfl⟩
  go_wp2
  rw [HS.out]
  go_ret
  refine ⟨?_, rfl⟩
  congr 2
  simp

set_option maxRecDepth 100000 in
set_option maxHeartbeats 1000000 in
theorem slicesMin_any (a : Option Addr) (cap : Nat) (vs : List Nat) (w : World) (hs : USrc w a (natV vs)) (h0 : 0 < vs.length) (hn : vs.length ≤ 16777216) (hv : All64 vs) :
    Calls Try.prog 50 #[.slice a vs.length cap] w fun e w' => e = .returned (.int .u64 ((minN vs vs.length : Nat) : Int)) ∧ w' = w := by
  obtain ⟨b, o, rfl, hb, hc⟩ := hs.natAt h0
  have HC : Hid (∀ j, j < vs.length → w.cell? ⟨b, o + j, none⟩ = some (.int .u64 ((vs.getD j 0 : Nat) : Int))) := hc
  have c0 := hc 0 h0
  have HV : Hid (All64 vs) := hv
  have HM : Hid (∀ n, minN vs (n + 1) = if vs.getD n 0 < minN vs n then vs.getD n 0 else minN vs n) := fun n => rfl
  have H1 : Hid (minN vs 1 = vs.getD 0 0) := minN_1 vs
  have HR : Hid (∀ k, minN vs k < 18446744073709551616) := minN_lt hv
  clear hs hc hv
  simp only [Nat.add_zero] at c0
  generalize vs.length = n at *
  generalize minN vs = M at *
  generalize vs.getD 0 0 = v0 at *
  go_enter Try.func50, Try.ntmps50
  go_wp2_with fail
  go_loopw [3, 4] (fun m i wr => ∃ j : Nat, 1 ≤ j ∧ j ≤ n ∧ i = .int .i64 j ∧ m = .int .u64 (M j : Nat) ∧ wr = w) (fun _ i _ => n - (intOf i).toNat)
  case atStart => exact ⟨1, by omega, by omega, rfl, by rw [H1.out], rfl⟩
  case round =>
    obtain ⟨j, h1, h2, rfl, rfl, rfl⟩ := hrel
    by_cases hlt : j < n
    · have c1 := HC.out j hlt
      have E : Hid (M (j + 1) = if vs.getD j 0 < M j then vs.getD j 0 else M j) := HM.out j
      have r1 := HR.out j
      have r2 := HV.out j
      clear HC HM H1 HR HV c0
      generalize vs.getD j 0 = x at *
      go_wp2
      go_roundw
      case rel => 
        refine ⟨j + 1, by omega, by omega, by go_num, ?_, trivial⟩
        rw [E.out]
        congr 1
        split <;> omega
      case measure => simp [intOf]; omega
    · have e : j = n := by omega
      subst e
      clear HC HM H1 HR HV
      go_wp2
      go_ret
      exact ⟨rfl, rfl⟩
set_option maxRecDepth 100000 in
set_option maxHeartbeats 1000000 in
theorem slicesMax_any (a : Option Addr) (cap : Nat) (vs : List Nat) (w : World) (hs : USrc w a (natV vs)) (h0 : 0 < vs.length) (hn : vs.length ≤ 16777216) (hv : All64 vs) :
    Calls Try.prog 51 #[.slice a vs.length cap] w fun e w' => e = .returned (.int .u64 ((maxN vs vs.length : Nat) : Int)) ∧ w' = w := by
  obtain ⟨b, o, rfl, hb, hc⟩ := hs.natAt h0
  have HC : Hid (∀ j, j < vs.length → w.cell? ⟨b, o + j, none⟩ = some (.int .u64 ((vs.getD j 0 : Nat) : Int))) := hc
  have c0 := hc 0 h0
  have HV : Hid (All64 vs) := hv
  have HM : Hid (∀ n, maxN vs (n + 1) = if maxN vs n < vs.getD n 0 then vs.getD n 0 else maxN vs n) := fun n => rfl
  have H1 : Hid (maxN vs 1 = vs.getD 0 0) := maxN_1 vs
  have HR : Hid (∀ k, maxN vs k < 18446744073709551616) := maxN_lt hv
  clear hs hc hv
  simp only [Nat.add_zero] at c0
  generalize vs.length = n at *
  generalize maxN vs = M at *
  generalize vs.getD 0 0 = v0 at *
  go_enter Try.func51, Try.ntmps51
  go_wp2_with fail
  go_loopw [3, 4] (fun m i wr => ∃ j : Nat, 1 ≤ j ∧ j ≤ n ∧ i = .int .i64 j ∧ m = .int .u64 (M j : Nat) ∧ wr = w) (fun _ i _ => n - (intOf i).toNat)
  case atStart => exact ⟨1, by omega, by omega, rfl, by rw [H1.out], rfl⟩
  case round =>
    obtain ⟨j, h1, h2, rfl, rfl, rfl⟩ := hrel
    by_cases hlt : j < n
    · have c1 := HC.out j hlt
      have E : Hid (M (j + 1) = if M j < vs.getD j 0 then vs.getD j 0 else M j) := HM.out j
      have r1 := HR.out j
      have r2 := HV.out j
      clear HC HM H1 HR HV c0
      generalize vs.getD j 0 = x at *
      go_wp2
      go_roundw
      case rel => 
        refine ⟨j + 1, by omega, by omega, by go_num, ?_, trivial⟩
        rw [E.out]
        congr 1
        split <;> omega
      case measure => simp [intOf]; omega
    · have e : j = n := by omega
      subst e
      clear HC HM H1 HR HV
      go_wp2
      go_ret
      exact ⟨rfl, rfl⟩

set_option maxRecDepth 100000 in
set_option maxHeartbeats 1000000 in
theorem agreedBits_any (a : Option Addr) (cap : Nat) (vs : List Nat) (w : World) (hs : USrc w a (natV vs)) (h0 : 0 < vs.length) (hn : vs.length ≤ 16777216) (hv : All64 vs) :
    Calls Try.prog 49 #[.slice a vs.length cap] w fun e w' => e = .returned (two (covA vs) (covB vs)) ∧ Below w.heap.size w w' := by
  obtain ⟨b, o, rfl, hb, hc⟩ := hs.natAt h0
  have HC : Hid (∀ j, j < vs.length → w.cell? ⟨b, o + j, none⟩ = some (.int .u64 ((vs.getD j 0 : Nat) : Int))) := hc
  have c0 := hc 0 h0
  have HV : Hid (All64 vs) := hv
  have HM : Hid (∀ n, difN vs (n + 1) = difN vs n ||| (vs.getD n 0 ^^^ vs.getD 0 0)) := fun n => rfl
  have H1 : Hid (difN vs 0 = 0) := rfl
  have HR : Hid (∀ k, difN vs k < 18446744073709551616) := difN_lt hv
  have HX : Hid (∀ j, bits .xor .u64 ((vs.getD j 0 : Nat) : Int) ((vs.getD 0 0 : Nat) : Int) = ((vs.getD j 0 ^^^ vs.getD 0 0 : Nat) : Int) ∧ vs.getD j 0 ^^^ vs.getD 0 0 < 18446744073709551616) := fun j => ⟨u64_xor _ _ (hv j) (hv 0), xor_lt (hv j) (hv 0)⟩
  have HA : Hid (covA vs = inv (difN vs vs.length)) := rfl
  have HB : Hid (covB vs = vs.getD 0 0 &&& inv (difN vs vs.length)) := rfl
  have v0l := hv 0
  clear hs hc hv
  simp only [Nat.add_zero] at c0
  generalize covA vs = cA at *
  generalize covB vs = cB at *
  generalize vs.length = n at *
  generalize difN vs = M at *
  generalize vs.getD 0 0 = v0 at *
  go_enter Try.func49, Try.ntmps49
  go_wp2_with fail
  go_loopw [4, 9] (fun m i wr => ∃ j : Nat, j ≤ n ∧ i = .int .i64 j ∧ m = .int .u64 (M j : Nat) ∧ wr = w) (fun _ i _ => n - (intOf i).toNat)
  case atStart => exact ⟨0, by omega, rfl, by rw [H1.out]; rfl, rfl⟩
  case round =>
    obtain ⟨j, h2, rfl, rfl, rfl⟩ := hrel
    by_cases hlt : j < n
    · have c1 := HC.out j hlt
      have E : Hid (M (j + 1) = M j ||| (vs.getD j 0 ^^^ v0)) := HM.out j
      have r1 := HR.out j
      have r2 := HV.out j
      obtain ⟨x1, x2⟩ := HX.out j
      have O : bits .or .u64 ((M j : Nat) : Int) ((vs.getD j 0 ^^^ v0 : Nat) : Int) = ((M j ||| (vs.getD j 0 ^^^ v0) : Nat) : Int) := u64_or _ _ r1 x2
      rw [← E.out] at O
      clear HC HM H1 HR HV HX HA HB E
      generalize vs.getD j 0 ^^^ v0 = y at *
      generalize vs.getD j 0 = x at *
      go_wp2
      go_roundw
      case rel => exact ⟨j + 1, by omega, by go_num, rfl, trivial⟩
      case measure => simp [intOf]; omega
    · have e : j = n := by omega
      subst e
      have r1 := HR.out j
      have N : Hid (bits .xor .u64 IntKind.u64.max ((M j : Nat) : Int) = ((inv (M j) : Nat) : Int)) := u64_not _ r1
      have A : Hid (bits .andNot .u64 (v0 : Int) ((M j : Nat) : Int) = ((v0 &&& inv (M j) : Nat) : Int)) := u64_andNot _ _ v0l r1
      clear HC HM H1 HR HV HX
      rw [← HA.out] at N
      rw [← HB.out] at A
      clear HA HB
      generalize M j = d at *
      go_wp2_with fail
      go_quiet (fail)
      go_wp2
      rw [N.out, A.out]
      go_ret2
      exact ⟨rfl, by first | exact (Below.refl _ _).drew | exact below_drewN (Below.refl _ _) _⟩
end Go.Proofs.Ytpbljegjinjmnaa
