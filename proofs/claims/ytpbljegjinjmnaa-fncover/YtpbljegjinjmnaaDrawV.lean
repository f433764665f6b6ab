/-
  CONTRACTS: drawn 64-bit numbers as functions of the bytes.
-/
import Derived.Test.YtpbljegjinjmnaaDrawU
namespace Go.Proofs.Ytpbljegjinjmnaa
open Go.RowKit
set_option linter.unusedVariables false

/-- a drawn argument, and where the reader stands behind it -/
def argV (l : List Int) (j : Nat) : Int :=
  if l.getD j 0 < 120 then l.getD j 0 % 12 else if l.getD j 0 < 150 then l.getD j 0 % 3 * 4294967296 else if l.getD j 0 < 170 then 18446744073709551615 - l.getD j 0 % 3
  else if l.getD j 0 < 190 then 2 ^ (l.getD j 0 * 7 % 64).toNat else if l.getD j 0 < 215 then 140733193392128 + l.getD j 0 % 16 * 4096 else if l.getD j 0 < 225 then 4294967295 + l.getD j 0 % 3
  else bits .xor .u64 (wordV l (j + 1) * 4294967297) (wordV l (wordJ l (j + 1)))
def argJ (l : List Int) (j : Nat) : Nat := if l.getD j 0 < 225 then j + 1 else wordJ l (wordJ l (j + 1))

theorem pow_64 : ∀ k : Nat, k < 64 → (2 : Int) ^ k ≤ 9223372036854775808 ∧ (2 : Int) ^ k % 18446744073709551616 = 2 ^ k ∧ 0 ≤ (2 : Int) ^ k := by decide

theorem argV_isU (l : List Int) (hl : isBytes l) (j : Nat) : isU (argV l j) := by
  have hx := isBytes_getD hl j
  unfold argV
  split
  · unfold isU; omega
  split
  · unfold isU; omega
  split
  · unfold isU; omega
  split
  · have := pow_64 (l.getD j 0 * 7 % 64).toNat (by omega)
    unfold isU; omega
  split
  · unfold isU; omega
  split
  · unfold isU; omega
  · exact isU_bits _ _ _

set_option maxRecDepth 100000 in
set_option maxHeartbeats 2000000 in
theorem arg_any (R cap : Nat) (a : Option Addr) (l : List Int) (j : Nat) (w : World) (hR : Rd w R a cap l j) :
    Calls Try.prog 24 #[.pointer (some ⟨R, 0, none⟩)] w fun e w' => e = .returned (.int .u64 (argV l j)) ∧ Rd w' R a cap l (argJ l j) ∧ w.grownBy w' (some R) := by
  have hx := isBytes_getD hR.bys j
  have HN1 : Hid (∀ W, Rd W R a cap l j → Calls Try.prog 23 #[.pointer (some ⟨R, 0, none⟩)] W fun e w' => e = .returned (.int .i64 (l.getD j 0)) ∧ Rd w' R a cap l (j + 1) ∧ W.grownBy w' (some R)) := fun W h => next_any R cap a l j W h
  have HW1 : Hid (∀ W, Rd W R a cap l (j + 1) → Calls Try.prog 47 #[.pointer (some ⟨R, 0, none⟩)] W fun e w' => e = .returned (.int .u32 (wordV l (j + 1))) ∧ Rd w' R a cap l (wordJ l (j + 1)) ∧ W.grownBy w' (some R)) := fun W h => drawWord_any R cap a l (j + 1) W h
  have HW2 : Hid (∀ W, Rd W R a cap l (wordJ l (j + 1)) → Calls Try.prog 47 #[.pointer (some ⟨R, 0, none⟩)] W fun e w' => e = .returned (.int .u32 (wordV l (wordJ l (j + 1)))) ∧ Rd w' R a cap l (wordJ l (wordJ l (j + 1))) ∧ W.grownBy w' (some R)) := fun W h => drawWord_any R cap a l (wordJ l (j + 1)) W h
  obtain ⟨ha0, ha1⟩ := wordV_range l hR.bys (j + 1)
  obtain ⟨hb0, hb1⟩ := wordV_range l hR.bys (wordJ l (j + 1))
  obtain ⟨V, hV⟩ : ∃ V, argV l j = V := ⟨_, rfl⟩
  obtain ⟨J, hJ⟩ : ∃ J, argJ l j = J := ⟨_, rfl⟩
  rw [hV, hJ]
  unfold argV at hV
  unfold argJ at hJ
  generalize l.getD j 0 = x at *
  generalize wordV l (j + 1) = y at *
  generalize wordV l (wordJ l (j + 1)) = z at *
  generalize wordJ l (wordJ l (j + 1)) = J3 at *
  generalize wordJ l (j + 1) = J2 at *
  have HV : Hid _ := hV
  have HJ : Hid _ := hJ
  clear hV hJ
  go_enter Try.func24, Try.ntmps24
  go_wp2_with fail
  refine (HN1.out _ hR).mono ?_
  rintro _ w1 ⟨rfl, hR1, hg1⟩
  by_cases c1 : x < 120
  · have hV : V = x % 12 := by rw [← HV.out, if_pos c1]
    have hJ : J = j + 1 := by rw [← HJ.out, if_pos (by omega)]
    subst hV hJ
    clear HV HJ HW1 HW2
    go_wp2
    go_ret
    exact ⟨rfl, hR1, hg1⟩
  by_cases c2 : x < 150
  · have hV : V = x % 3 * 4294967296 := by rw [← HV.out, if_neg c1, if_pos c2]
    have hJ : J = j + 1 := by rw [← HJ.out, if_pos (by omega)]
    subst hV hJ
    clear HV HJ HW1 HW2
    go_wp2
    go_ret
    exact ⟨rfl, hR1, hg1⟩
  by_cases c3 : x < 170
  · have hV : V = 18446744073709551615 - x % 3 := by rw [← HV.out, if_neg c1, if_neg c2, if_pos c3]
    have hJ : J = j + 1 := by rw [← HJ.out, if_pos (by omega)]
    subst hV hJ
    clear HV HJ HW1 HW2
    go_wp2
    go_ret
    exact ⟨rfl, hR1, hg1⟩
  by_cases c4 : x < 190
  · have hV : V = 2 ^ (x * 7 % 64).toNat := by rw [← HV.out, if_neg c1, if_neg c2, if_neg c3, if_pos c4]
    have hJ : J = j + 1 := by rw [← HJ.out, if_pos (by omega)]
    subst hV hJ
    clear HV HJ HW1 HW2
    go_wp2
    go_ret
    refine ⟨ret_int ?_, hR1, hg1⟩
    have hp := (pow_64 (x * 7 % 64).toNat (by omega)).2.1
    first | exact hp | (rw [IntKind.wrap_u64]; exact hp)
  by_cases c5 : x < 215
  · have hV : V = 140733193392128 + x % 16 * 4096 := by rw [← HV.out, if_neg c1, if_neg c2, if_neg c3, if_neg c4, if_pos c5]
    have hJ : J = j + 1 := by rw [← HJ.out, if_pos (by omega)]
    subst hV hJ
    clear HV HJ HW1 HW2
    go_wp2
    go_ret
    exact ⟨rfl, hR1, hg1⟩
  by_cases c6 : x < 225
  · have hV : V = 4294967295 + x % 3 := by rw [← HV.out, if_neg c1, if_neg c2, if_neg c3, if_neg c4, if_neg c5, if_pos c6]
    have hJ : J = j + 1 := by rw [← HJ.out, if_pos c6]
    subst hV hJ
    clear HV HJ HW1 HW2
    go_wp2
    go_ret
    exact ⟨rfl, hR1, hg1⟩
  · have hV : V = bits .xor .u64 (y * 4294967297) z := by rw [← HV.out, if_neg c1, if_neg c2, if_neg c3, if_neg c4, if_neg c5, if_neg c6]
    have hJ : J = J3 := by rw [← HJ.out, if_neg c6]
    subst hV hJ
    clear HV HJ
    go_wp2_with fail
    refine (HW1.out _ hR1).mono ?_
    rintro _ w2 ⟨rfl, hR2, hg2⟩
    go_wp2_with fail
    refine (HW2.out _ hR2).mono ?_
    rintro _ w3 ⟨rfl, hR3, hg3⟩
    go_wp2
    go_ret
    exact ⟨rfl, hR3, rb_trans hg1 (rb_trans hg2 hg3)⟩

def nearV (v : Int) (l : List Int) (j : Nat) : Int :=
  if l.getD j 0 % 8 < 3 then v else if l.getD j 0 % 8 = 3 then (v + 1) % 18446744073709551616 else if l.getD j 0 % 8 = 4 then (v - 1) % 18446744073709551616
  else if l.getD j 0 % 8 = 5 then bits .xor .u64 v (2 ^ (l.getD j 0 / 8 % 8).toNat) else if l.getD j 0 % 8 = 6 then bits .xor .u64 v (2 ^ (l.getD j 0 % 64).toNat) else argV l (j + 1)
def nearJ (l : List Int) (j : Nat) : Nat := if l.getD j 0 % 8 < 7 then j + 1 else argJ l (j + 1)

theorem nearV_isU {v : Int} (hv : isU v) (l : List Int) (hl : isBytes l) (j : Nat) : isU (nearV v l j) := by
  unfold nearV
  split
  · exact hv
  split
  · unfold isU; omega
  split
  · unfold isU; omega
  split
  · exact isU_bits _ _ _
  split
  · exact isU_bits _ _ _
  · exact argV_isU l hl _

set_option maxRecDepth 100000 in
set_option maxHeartbeats 2000000 in
theorem near_any (v : Int) (R cap : Nat) (a : Option Addr) (l : List Int) (j : Nat) (w : World) (hv : isU v) (hR : Rd w R a cap l j) :
    Calls Try.prog 25 #[.int .u64 v, .pointer (some ⟨R, 0, none⟩)] w fun e w' => e = .returned (.int .u64 (nearV v l j)) ∧ Rd w' R a cap l (nearJ l j) ∧ w.grownBy w' (some R) := by
  have hx := isBytes_getD hR.bys j
  have HN1 : Hid (∀ W, Rd W R a cap l j → Calls Try.prog 23 #[.pointer (some ⟨R, 0, none⟩)] W fun e w' => e = .returned (.int .i64 (l.getD j 0)) ∧ Rd w' R a cap l (j + 1) ∧ W.grownBy w' (some R)) := fun W h => next_any R cap a l j W h
  have HA : Hid (∀ W, Rd W R a cap l (j + 1) → Calls Try.prog 24 #[.pointer (some ⟨R, 0, none⟩)] W fun e w' => e = .returned (.int .u64 (argV l (j + 1))) ∧ Rd w' R a cap l (argJ l (j + 1)) ∧ W.grownBy w' (some R)) := fun W h => arg_any R cap a l (j + 1) W h
  obtain ⟨hv0, hv1⟩ := hv
  obtain ⟨V, hV⟩ : ∃ V, nearV v l j = V := ⟨_, rfl⟩
  obtain ⟨J, hJ⟩ : ∃ J, nearJ l j = J := ⟨_, rfl⟩
  rw [hV, hJ]
  unfold nearV at hV
  unfold nearJ at hJ
  generalize l.getD j 0 = x at *
  generalize argV l (j + 1) = y at *
  generalize argJ l (j + 1) = J2 at *
  have HV : Hid _ := hV
  have HJ : Hid _ := hJ
  clear hV hJ
  go_enter Try.func25, Try.ntmps25
  go_wp2_with fail
  refine (HN1.out _ hR).mono ?_
  rintro _ w1 ⟨rfl, hR1, hg1⟩
  by_cases c1 : x % 8 < 3
  · have hV : V = v := by rw [← HV.out, if_pos c1]
    have hJ : J = j + 1 := by rw [← HJ.out, if_pos (by omega)]
    subst hV hJ
    clear HV HJ HA
    go_wp2
    go_ret
    exact ⟨rfl, hR1, hg1⟩
  by_cases c2 : x % 8 = 3
  · have hV : V = (v + 1) % 18446744073709551616 := by rw [← HV.out, if_neg c1, if_pos c2]
    have hJ : J = j + 1 := by rw [← HJ.out, if_pos (by omega)]
    subst hV hJ
    clear HV HJ HA
    go_wp2
    go_ret
    refine ⟨ret_int ?_, hR1, hg1⟩
    first | rfl | (rw [IntKind.wrap_u64])
  by_cases c3 : x % 8 = 4
  · have hV : V = (v - 1) % 18446744073709551616 := by rw [← HV.out, if_neg c1, if_neg c2, if_pos c3]
    have hJ : J = j + 1 := by rw [← HJ.out, if_pos (by omega)]
    subst hV hJ
    clear HV HJ HA
    go_wp2
    go_ret
    refine ⟨ret_int ?_, hR1, hg1⟩
    first | rfl | (rw [IntKind.wrap_u64])
  by_cases c4 : x % 8 = 5
  · have hV : V = bits .xor .u64 v (2 ^ (x / 8 % 8).toNat) := by rw [← HV.out, if_neg c1, if_neg c2, if_neg c3, if_pos c4]
    have hJ : J = j + 1 := by rw [← HJ.out, if_pos (by omega)]
    have hp : IntKind.u64.wrap ((2 : Int) ^ (x / 8 % 8).toNat) = 2 ^ (x / 8 % 8).toNat := by rw [IntKind.wrap_u64]; exact (pow_64 (x / 8 % 8).toNat (by omega)).2.1
    subst hV hJ
    clear HV HJ HA
    go_wp2
    go_ret
    refine ⟨ret_int ?_, hR1, hg1⟩
    first | rfl | (rw [hp])
  by_cases c5 : x % 8 = 6
  · have hV : V = bits .xor .u64 v (2 ^ (x % 64).toNat) := by rw [← HV.out, if_neg c1, if_neg c2, if_neg c3, if_neg c4, if_pos c5]
    have hJ : J = j + 1 := by rw [← HJ.out, if_pos (by omega)]
    have hp : IntKind.u64.wrap ((2 : Int) ^ (x % 64).toNat) = 2 ^ (x % 64).toNat := by rw [IntKind.wrap_u64]; exact (pow_64 (x % 64).toNat (by omega)).2.1
    subst hV hJ
    clear HV HJ HA
    go_wp2
    go_ret
    refine ⟨ret_int ?_, hR1, hg1⟩
    first | rfl | (rw [hp])
  · have hV : V = y := by rw [← HV.out, if_neg c1, if_neg c2, if_neg c3, if_neg c4, if_neg c5]
    have hJ : J = J2 := by rw [← HJ.out, if_neg (by omega)]
    subst hV hJ
    clear HV HJ
    go_wp2_with fail
    refine (HA.out _ hR1).mono ?_
    rintro _ w2 ⟨rfl, hR2, hg2⟩
    go_wp2
    go_ret
    exact ⟨rfl, hR2, rb_trans hg1 hg2⟩
end Go.Proofs.Ytpbljegjinjmnaa
