/-
  CONTRACTS: the program's helpers of covering values: counting bits, the smallest and the greatest, the agreed bits.
-/
import Derived.Test.YtpbljegjinjmnaaCovM
import Derived.Test.YtpbljegjinjmnaaCondI
import Derived.Test.YtpbljegjinjmnaaU64
namespace Go.Proofs.Ytpbljegjinjmnaa
open Go.RowKit
set_option linter.unusedVariables false

abbrev natV (vs : List Nat) : List Int := vs.map fun n : Nat => (n : Int)
theorem natV_get (vs : List Nat) (i : Nat) : (natV vs).getD i 0 = ((vs.getD i 0 : Nat) : Int) := by
  rw [List.getD_eq_getElem?_getD, List.getElem?_map, List.getD_eq_getElem?_getD]
  cases vs[i]? <;> simp
theorem USrc.natAt {w : World} {a : Option Addr} {vs : List Nat} (h : USrc w a (natV vs)) (h0 : 0 < vs.length) : ∃ b o, a = some ⟨b, o, none⟩ ∧ b < w.heap.size ∧ ∀ j, j < vs.length → w.cell? ⟨b, o + j, none⟩ = some (.int .u64 ((vs.getD j 0 : Nat) : Int)) := by
  rcases h with h | ⟨b, o, h1, h2, h3⟩
  · have : vs = [] := by simpa using h
    subst this; simp at h0
  · refine ⟨b, o, h1, h2, fun j hj => ?_⟩
    rw [h3 j (by simpa using hj), natV_get]

theorem i64_and (a b : Nat) (ha : a < 9223372036854775808) (hb : b < 9223372036854775808) : bits .and .i64 (a : Int) (b : Int) = ((a &&& b : Nat) : Int) := by
  have hx : a &&& b < 2 ^ 63 := Nat.and_lt_two_pow _ (by omega)
  have h1 : (BitVec.ofInt 64 (a : Int)).toNat = a := by
    rw [BitVec.ofInt_natCast, BitVec.toNat_ofNat]; exact Nat.mod_eq_of_lt (by omega)
  have h2 : (BitVec.ofInt 64 (b : Int)).toNat = b := by
    rw [BitVec.ofInt_natCast, BitVec.toNat_ofNat]; exact Nat.mod_eq_of_lt (by omega)
  show IntKind.i64.wrap ((BitVec.ofInt 64 (a : Int) &&& BitVec.ofInt 64 (b : Int)).toNat : Int) = _
  rw [BitVec.toNat_and, h1, h2, IntKind.wrap_i64]
  omega

theorem and_le_right' (a b : Nat) : a &&& b ≤ b := Nat.and_le_right

set_option maxRecDepth 100000 in
set_option maxHeartbeats 1000000 in
theorem onesCount_any (x : Nat) (w : World) (hx : x < 18446744073709551616) :
    Calls Try.prog 62 #[.int .u64 (x : Int)] w fun e w' => e = .returned (.int .i64 ((popN x 64 : Nat) : Int)) ∧ w' = w := by
  obtain ⟨p1, hp1⟩ : ∃ p1 : Nat, p1 = x / 2 &&& 6148914691236517205 := ⟨_, rfl⟩
  obtain ⟨p2, hp2⟩ : ∃ p2 : Nat, p2 = x &&& 6148914691236517205 := ⟨_, rfl⟩
  have l1 : p1 ≤ 6148914691236517205 := hp1 ▸ Nat.and_le_right
  have l2 : p2 ≤ 6148914691236517205 := hp2 ▸ Nat.and_le_right
  have a1 : bits .and .u64 ((x : Int) / 2) 6148914691236517205 = (p1 : Int) := by
    rw [hp1, show (x : Int) / 2 = ((x / 2 : Nat) : Int) by omega]; exact u64_and _ 6148914691236517205 (by omega) (by decide)
  have a2 : bits .and .u64 (x : Int) 6148914691236517205 = (p2 : Int) := by
    rw [hp2]; exact u64_and _ 6148914691236517205 (by omega) (by decide)
  obtain ⟨q1, hq1⟩ : ∃ q1 : Nat, q1 = (p1 + p2) / 4 &&& 3689348814741910323 := ⟨_, rfl⟩
  obtain ⟨q2, hq2⟩ : ∃ q2 : Nat, q2 = (p1 + p2) &&& 3689348814741910323 := ⟨_, rfl⟩
  have l3 : q1 ≤ 3689348814741910323 := hq1 ▸ Nat.and_le_right
  have l4 : q2 ≤ 3689348814741910323 := hq2 ▸ Nat.and_le_right
  have a3 : bits .and .u64 (((p1 : Int) + p2) / 4) 3689348814741910323 = (q1 : Int) := by
    rw [hq1, show ((p1 : Int) + p2) / 4 = (((p1 + p2) / 4 : Nat) : Int) by omega]; exact u64_and _ 3689348814741910323 (by omega) (by decide)
  have a4 : bits .and .u64 ((p1 : Int) + p2) 3689348814741910323 = (q2 : Int) := by
    rw [hq2, show ((p1 : Int) + p2) = ((p1 + p2 : Nat) : Int) by omega]; exact u64_and _ 3689348814741910323 (by omega) (by decide)
  obtain ⟨y, hy⟩ : ∃ y : Nat, y = ((q1 + q2) / 16 + (q1 + q2)) &&& 1085102592571150095 := ⟨_, rfl⟩
  have a5 : bits .and .u64 (((q1 : Int) + q2) / 16 + ((q1 : Int) + q2)) 1085102592571150095 = (y : Int) := by
    rw [hy, show ((q1 : Int) + q2) / 16 + ((q1 : Int) + q2) = (((q1 + q2) / 16 + (q1 + q2) : Nat) : Int) by omega]; exact u64_and _ 1085102592571150095 (by omega) (by decide)
  have HD : y = dig 8 x := by
    have := (swar 8 x (by simpa using hx)).1
    rw [← this, hy, hq1, hq2, hp1, hp2]
    rfl
  obtain ⟨z1, z2, z3, z4⟩ := swar_sum hx HD
  have HZ : Hid ((((y + y / 256) + (y + y / 256) / 65536) + ((y + y / 256) + (y + y / 256) / 65536) / 4294967296) % 128 = popN x 64) := z4
  clear hp1 hp2 hq1 hq2 hy HD z4
  have a6 : bits .and .i64 ((y : Int) + (y : Int) / 256 + ((y : Int) + (y : Int) / 256) / 65536 + ((y : Int) + (y : Int) / 256 + ((y : Int) + (y : Int) / 256) / 65536) / 4294967296) 127 = ((popN x 64 : Nat) : Int) := by
    rw [← HZ.out, show ((y : Int) + (y : Int) / 256 + ((y : Int) + (y : Int) / 256) / 65536 + ((y : Int) + (y : Int) / 256 + ((y : Int) + (y : Int) / 256) / 65536) / 4294967296) = (((((y + y / 256) + (y + y / 256) / 65536) + ((y + y / 256) + (y + y / 256) / 65536) / 4294967296) : Nat) : Int) by omega]
    rw [show (127 : Int) = ((127 : Nat) : Int) from rfl, i64_and _ 127 z3 (by decide), nat_mask7]
  generalize popN x 64 = R at *
  clear HZ
  go_enter Try.func62, Try.ntmps62
  go_wp2
  go_ret
  exact ⟨rfl, rfl⟩
end Go.Proofs.Ytpbljegjinjmnaa
