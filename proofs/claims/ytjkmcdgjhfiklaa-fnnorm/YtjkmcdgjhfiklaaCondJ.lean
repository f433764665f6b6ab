/-
  CONTRACTS of the program's conditions: the methods of the three sets.
-/
import Derived.Test.YtjkmcdgjhfiklaaCondI
namespace Go.Proofs.Ytjkmcdgjhfiklaa
open Go.RowKit
set_option linter.unusedVariables false

theorem lib_len : ∀ n x : Nat, x ≤ n → x < 18446744073709551616 → Lib.bitLen x = lenN x
  | 0, x, h, _ => by
    have : x = 0 := by omega
    subst this; decide
  | n + 1, x, h, hx => by
    by_cases h0 : x = 0
    · subst h0; decide
    · rw [Lib.bitLen_half x h0 hx, lib_len n (x / 2) (by omega) (by omega)]
      unfold lenN
      by_cases h1 : x = 1
      · subst h1; decide
      · rw [if_neg h0, if_neg (by omega), Nat.log2_def x, if_pos (by omega)]; omega

/-- the table's byte, and what was shifted away -/
theorem len_case {x y : Int} (s : Nat) (h0 : 0 ≤ x) (h1 : x ≤ 18446744073709551615) (hy0 : 0 ≤ y) (hy : y ≤ 255) (e : x.toNat / 2 ^ s = y.toNat) (hs : 2 ^ s ≤ x.toNat) : Lib.len8 y = (Lib.bitLen x.toNat : Int) - s ∧ Lib.bitLen y.toNat ≤ 8 := by
  rw [Lib.len8_of y hy0 hy, Lib.bitLen_shift s x.toNat hs (by omega), e]
  exact ⟨by omega, Lib.bitLen_le8' y hy0 hy⟩
theorem len8_bd {y : Int} (hy0 : 0 ≤ y) (hy : y ≤ 255) : 0 ≤ Lib.len8 y ∧ Lib.len8 y ≤ 8 := by
  have := Lib.bitLen_le8' y hy0 hy
  rw [Lib.len8_of y hy0 hy]; omega

set_option maxRecDepth 100000 in
set_option maxHeartbeats 4000000 in
theorem len64_any (x : Nat) (w : World) (hx : x < 18446744073709551616) :
    Calls Try.prog 103 #[.int .u64 (x : Int)] w fun e w' => e = .returned (.int .i64 ((lenN x : Nat) : Int)) ∧ w' = w := by
  have HE : Hid (lenN x = Lib.bitLen (x : Int).toNat) := by unfold Hid; rw [Int.toNat_natCast]; exact (lib_len x x (Nat.le_refl _) hx).symm
  have h0 : 0 ≤ (x : Int) := by omega
  have h1 : (x : Int) ≤ 18446744073709551615 := by omega
  rw [HE.out]
  clear HE hx
  generalize (x : Int) = y at *
  by_cases c3 : (4294967296 : Int) ≤ y
  · by_cases c2 : (65536 : Int) ≤ y / 4294967296
    · by_cases c1 : (256 : Int) ≤ y / 4294967296 / 65536
      · have q0 : 0 ≤ y / 4294967296 / 65536 / 256 := by omega
        have q1 : y / 4294967296 / 65536 / 256 ≤ 255 := by omega
        have HQ : Hid (Lib.len8 (y / 4294967296 / 65536 / 256) = (Lib.bitLen y.toNat : Int) - 56) := (len_case 56 h0 h1 q0 q1 (by omega) (by omega)).1
        obtain ⟨b0, b1⟩ := len8_bd q0 q1
        go_enter Try.func103, Try.ntmps103
        go_wp2
        go_ret
        refine ⟨ret_int ?_, rfl⟩
        have := HQ.out
        omega
      · have q0 : 0 ≤ y / 4294967296 / 65536 := by omega
        have q1 : y / 4294967296 / 65536 ≤ 255 := by omega
        have HQ : Hid (Lib.len8 (y / 4294967296 / 65536) = (Lib.bitLen y.toNat : Int) - 48) := (len_case 48 h0 h1 q0 q1 (by omega) (by omega)).1
        obtain ⟨b0, b1⟩ := len8_bd q0 q1
        go_enter Try.func103, Try.ntmps103
        go_wp2
        go_ret
        refine ⟨ret_int ?_, rfl⟩
        have := HQ.out
        omega
    · by_cases c1 : (256 : Int) ≤ y / 4294967296
      · have q0 : 0 ≤ y / 4294967296 / 256 := by omega
        have q1 : y / 4294967296 / 256 ≤ 255 := by omega
        have HQ : Hid (Lib.len8 (y / 4294967296 / 256) = (Lib.bitLen y.toNat : Int) - 40) := (len_case 40 h0 h1 q0 q1 (by omega) (by omega)).1
        obtain ⟨b0, b1⟩ := len8_bd q0 q1
        go_enter Try.func103, Try.ntmps103
        go_wp2
        go_ret
        refine ⟨ret_int ?_, rfl⟩
        have := HQ.out
        omega
      · have q0 : 0 ≤ y / 4294967296 := by omega
        have q1 : y / 4294967296 ≤ 255 := by omega
        have HQ : Hid (Lib.len8 (y / 4294967296) = (Lib.bitLen y.toNat : Int) - 32) := (len_case 32 h0 h1 q0 q1 (by omega) (by omega)).1
        obtain ⟨b0, b1⟩ := len8_bd q0 q1
        go_enter Try.func103, Try.ntmps103
        go_wp2
        go_ret
        refine ⟨ret_int ?_, rfl⟩
        have := HQ.out
        omega
  · by_cases c2 : (65536 : Int) ≤ y
    · by_cases c1 : (256 : Int) ≤ y / 65536
      · have q0 : 0 ≤ y / 65536 / 256 := by omega
        have q1 : y / 65536 / 256 ≤ 255 := by omega
        have HQ : Hid (Lib.len8 (y / 65536 / 256) = (Lib.bitLen y.toNat : Int) - 24) := (len_case 24 h0 h1 q0 q1 (by omega) (by omega)).1
        obtain ⟨b0, b1⟩ := len8_bd q0 q1
        go_enter Try.func103, Try.ntmps103
        go_wp2
        go_ret
        refine ⟨ret_int ?_, rfl⟩
        have := HQ.out
        omega
      · have q0 : 0 ≤ y / 65536 := by omega
        have q1 : y / 65536 ≤ 255 := by omega
        have HQ : Hid (Lib.len8 (y / 65536) = (Lib.bitLen y.toNat : Int) - 16) := (len_case 16 h0 h1 q0 q1 (by omega) (by omega)).1
        obtain ⟨b0, b1⟩ := len8_bd q0 q1
        go_enter Try.func103, Try.ntmps103
        go_wp2
        go_ret
        refine ⟨ret_int ?_, rfl⟩
        have := HQ.out
        omega
    · by_cases c1 : (256 : Int) ≤ y
      · have q0 : 0 ≤ y / 256 := by omega
        have q1 : y / 256 ≤ 255 := by omega
        have HQ : Hid (Lib.len8 (y / 256) = (Lib.bitLen y.toNat : Int) - 8) := (len_case 8 h0 h1 q0 q1 (by omega) (by omega)).1
        obtain ⟨b0, b1⟩ := len8_bd q0 q1
        go_enter Try.func103, Try.ntmps103
        go_wp2
        go_ret
        refine ⟨ret_int ?_, rfl⟩
        have := HQ.out
        omega
      · have q0 : 0 ≤ y := by omega
        have q1 : y ≤ 255 := by omega
        have HQ : Hid (Lib.len8 (y) = (Lib.bitLen y.toNat : Int)) := Lib.len8_of y q0 q1
        obtain ⟨b0, b1⟩ := len8_bd q0 q1
        go_enter Try.func103, Try.ntmps103
        go_wp2
        go_ret
        refine ⟨ret_int ?_, rfl⟩
        have := HQ.out
        omega

set_option maxRecDepth 100000 in
set_option maxHeartbeats 1000000 in
theorem conMask_any (a b : Nat) (w : World) :
    Calls Try.prog 141 #[.agg #[.int .u64 (a : Int), .int .u64 (b : Int)]] w fun e w' => e = .returned (conV ⟨1, a, b⟩) ∧ Below w.heap.size w w' := by
  go_enter Try.func141, Try.ntmps141
  go_wp2
  refine bodyPost_ret (v := conV ⟨1, a, b⟩) (by simp [results, Try.results141, go_sem]) rfl ⟨rfl, ?_⟩
  exact ((Below.refl _ _).alloc (Nat.le_refl _) _).alloc (by simp) _
set_option maxRecDepth 100000 in
set_option maxHeartbeats 1000000 in
theorem conRange_any (a b : Nat) (w : World) :
    Calls Try.prog 146 #[.agg #[.int .u64 (a : Int), .int .u64 (b : Int)]] w fun e w' => e = .returned (conV ⟨2, a, b⟩) ∧ Below w.heap.size w w' := by
  go_enter Try.func146, Try.ntmps146
  go_wp2
  refine bodyPost_ret (v := conV ⟨2, a, b⟩) (by simp [results, Try.results146, go_sem]) rfl ⟨rfl, ?_⟩
  exact ((Below.refl _ _).alloc (Nat.le_refl _) _).alloc (by simp) _
set_option maxRecDepth 100000 in
set_option maxHeartbeats 1000000 in
theorem conAny_any (w : World) :
    Calls Try.prog 136 #[.agg #[]] w fun e w' => e = .returned (conV ⟨0, 0, 0⟩) ∧ Below w.heap.size w w' := by
  go_enter Try.func136, Try.ntmps136
  go_wp2
  refine bodyPost_ret (v := conV ⟨0, 0, 0⟩) (by simp [results, Try.results136, go_sem]) rfl ⟨rfl, ?_⟩
  exact ((Below.refl _ _).alloc (Nat.le_refl _) _).alloc (by simp) _

/-- a method called through the interface -/
def Meth (c : K) (name : String) (args : Array Value) (r : Value) : Prop := ∃ T P F, setV c = .iface T P ∧ (∀ w, (method 283 T P name).run Try.prog w = .ok (F, P) w) ∧ (∀ (xs : Array Value) (w : World), (callFunc F xs).run Try.prog w = .ok (.enter F xs) w) ∧
  ∀ w, Calls Try.prog F (#[P] ++ args) w fun e w' => e = .returned r ∧ Below w.heap.size w w'

theorem meth_con {c : K} (h : Normal c) : Meth c "loop.example/s0039/impl.con" #[] (conV c) := by
  rcases h with rfl | ⟨a, b, rfl, _⟩ | ⟨a, b, rfl, _⟩
  · exact ⟨_, _, 136, rfl, fun _ => by kernel_rfl, fun _ _ => by kernel_rfl, conAny_any⟩
  · exact ⟨_, _, 141, rfl, fun _ => by kernel_rfl, fun _ _ => by kernel_rfl, conMask_any a b⟩
  · exact ⟨_, _, 146, rfl, fun _ => by kernel_rfl, fun _ _ => by kernel_rfl, conRange_any a b⟩

set_option maxRecDepth 100000 in
set_option maxHeartbeats 1000000 in
theorem implNorm_any (c : K) (w : World) (ho : c.ok) :
    Calls Try.prog 11 #[conV c] w fun e w' => e = .returned (conV (if validK c then normK c else c)) ∧ Below w.heap.size w w' := by
  have HC : Hid (∀ w, Calls Try.prog 36 #[conV c] w fun e w' => e = .returned (.bool (validK c)) ∧ Below w.heap.size w w') := fun w => isValidCon_any c w ho
  have HN : Hid (∀ w, Calls Try.prog 37 #[conV c] w fun e w' => e = .returned (setV (normK c)) ∧ Below w.heap.size w w') := fun w => conditionOf_any c w ho
  have HM : Hid (validK c = true → Meth (normK c) "loop.example/s0039/impl.con" #[] (conV (normK c))) := fun h => meth_con (normK_normal ho h)
  generalize normK c = N at *
  obtain ⟨V, hV⟩ : ∃ V, validK c = V := ⟨_, rfl⟩
  rw [hV] at HC HM ⊢
  clear hV
  obtain ⟨R, hR⟩ : ∃ R, (if V = true then N else c) = R := ⟨_, rfl⟩
  have HR : Hid (R = if V = true then N else c) := hR.symm
  rw [hR]
  clear hR
  obtain ⟨kind, a, b⟩ := c
  simp only [conV] at HC HN ⊢
  go_enter Try.func11, Try.ntmps11
  go_wp2_with fail
  have X := (BoxK.new w 25 (.int .i64 kind) (.int .u64 (a : Int)) (.int .u64 (b : Int))).alloc (.cells #[.int .i64 0, .int .u64 0, .int .u64 0] 25)
  have Y := BoxK.new (w.alloc (.cells #[.int .i64 kind, .int .u64 (a : Int), .int .u64 (b : Int)] 25)) 25 (.int .i64 0) (.int .u64 0) (.int .u64 0)
  have hsz : (w.alloc (.cells #[.int .i64 kind, .int .u64 (a : Int), .int .u64 (b : Int)] 25)).heap.size = w.heap.size + 1 := by simp
  have B0 : Below w.heap.size w ((w.alloc (.cells #[.int .i64 kind, .int .u64 (a : Int), .int .u64 (b : Int)] 25)).alloc (.cells #[.int .i64 0, .int .u64 0, .int .u64 0] 25)) := ((Below.refl _ _).alloc (Nat.le_refl _) _).alloc (by simp) _
  rw [hsz] at Y
  generalize (w.alloc (.cells #[.int .i64 kind, .int .u64 (a : Int), .int .u64 (b : Int)] 25)).alloc (.cells #[.int .i64 0, .int .u64 0, .int .u64 0] 25) = W at *
  clear hsz
  refine (HC.out _).mono ?_
  rintro e w1 ⟨rfl, hb1⟩
  have X1 := X.keep hb1
  have Y1 := Y.keep hb1
  have B1 := B0.trans (hb1.mono B0.size)
  clear X Y hb1 B0 HC
  obtain ⟨_, x0, x1, x2, _, _, _⟩ := X1
  cases V with
  | false =>
    obtain ⟨yl, y0, y1, y2, g0, g1, g2⟩ := Y1
    have hR : R = ⟨kind, a, b⟩ := HR.out
    subst hR
    clear HN HM HR
    go_wp2
    exact bodyPost_ret (v := conV ⟨kind, a, b⟩) (by simp [results, Try.results11, go_sem, y0, y1, y2]) rfl ⟨rfl, below_set3 B1 (by omega) _ _ _⟩
  | true =>
    have hR : R = N := HR.out
    subst hR
    obtain ⟨T, P, F, e1, e2, e4, e3⟩ := HM.out (by first | rfl | trivial)
    have HF : Hid (∀ w, Calls Try.prog F #[P] w fun e w' => e = .returned (conV R) ∧ Below w.heap.size w w') := e3
    clear HM HR e3
    go_wp2_with fail
    refine (HN.out _).mono ?_
    rintro e w2 ⟨rfl, hb2⟩
    rw [e1]
    have Y2 := Y1.keep hb2
    have B2 := B1.trans (hb2.mono B1.size)
    clear Y1 hb2 HN e1
    go_wp2_with fail
    refine (HF.out _).mono ?_
    rintro e w3 ⟨rfl, hb3⟩
    obtain ⟨yl, y0, y1, y2, g0, g1, g2⟩ := Y2.keep hb3
    have B3 := B2.trans (hb3.mono B2.size)
    obtain ⟨nk, na, nb⟩ := R
    simp only [conV]
    go_wp2
    exact bodyPost_ret (v := conV ⟨nk, na, nb⟩) (by simp [results, Try.results11, go_sem, y0, y1, y2]) rfl ⟨rfl, below_set3 B3 (by omega) _ _ _⟩
end Go.Proofs.Ytjkmcdgjhfiklaa
