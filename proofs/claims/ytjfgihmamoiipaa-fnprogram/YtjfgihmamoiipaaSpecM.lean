/-
  CONTRACTS of the model's small functions of a run.
-/
import Derived.Test.YtjfgihmamoiipaaDec
import Derived.Test.YtjfgihmamoiipaaMathR
namespace Go.Proofs.Ytjfgihmamoiipaa
open Go.RowKit
set_option linter.unusedVariables false

theorem bit_step {one two : Bool} {out u R a b t : Int} {k : Nat} (h : out + u * bitB one two (32 - k) a b = R) (hk : k < 32) (hu : u = pw k)
    (ht : t = if (a % 2 + b % 2 = 1 ∧ one = true) ∨ (a % 2 + b % 2 = 2 ∧ two = true) then u else 0) : (out + t) + (u * 2) * bitB one two (32 - (k + 1)) (a / 2) (b / 2) = R := by
  have e : 32 - k = (32 - (k + 1)) + 1 := by omega
  rw [e, bitB] at h
  rw [← h, ht]
  generalize bitB one two (32 - (k + 1)) (a / 2) (b / 2) = z
  split
  · rw [Int.mul_add, Int.mul_one, Int.mul_assoc]; omega
  · rw [Int.mul_add, Int.mul_zero, Int.mul_assoc]; omega

set_option maxHeartbeats 4000000 in
theorem l1bits_any (a b : Int) (one two : Bool) (w : World) (ha : isWord a) (hb : isWord b) :
    Calls Try.prog 126 #[.int .i64 a, .int .i64 b, .bool one, .bool two] w fun e w' => e = .returned (.int .i64 (bitB one two 32 a b)) ∧ w' = w := by
  obtain ⟨R, hR⟩ : ∃ R, bitB one two 32 a b = R := ⟨_, rfl⟩
  have H0 : Hid (0 + 1 * bitB one two (32 - 0) a b = R) := by unfold Hid; rw [← hR]; simp
  rw [hR]
  clear hR
  obtain ⟨a0, a1⟩ := ha
  obtain ⟨b0, b1⟩ := hb
  go_enter Try.func126, Try.ntmps126
  go_wp2_with fail
  go_loop [0, 1, 9, 10, 11] (fun p q o u i => ∃ (k : Nat) (x y z v : Int), k ≤ 32 ∧ i = .int .i64 k ∧ p = .int .i64 x ∧ q = .int .i64 y ∧ o = .int .i64 z ∧ u = .int .i64 v ∧ 0 ≤ x ∧ x ≤ 4294967295 ∧ 0 ≤ y ∧ y ≤ 4294967295 ∧ Hid (v = pw k) ∧ 1 ≤ v ∧ v ≤ 4294967296 ∧ 0 ≤ z ∧ z < v ∧ Hid (z + v * bitB one two (32 - k) x y = R)) (fun _ _ _ _ i => 32 - (intOf i).toNat)
  case atStart => exact ⟨0, a, b, 0, 1, by omega, rfl, rfl, rfl, rfl, rfl, a0, a1, b0, b1, rfl, by omega, by omega, by omega, by omega, H0⟩
  case round =>
    obtain ⟨k, x, y, z, v, hk, rfl, rfl, rfl, rfl, rfl, x0, x1, y0, y1, hv, v0, v1, z0, z1, H⟩ := hrel
    clear H0 a0 a1 b0 b1
    by_cases hlt : k < 32
    · have hv2 : Hid (v * 2 = pw (k + 1)) := by unfold Hid; rw [hv.out, pw_succ]; omega
      have hv3 : v * 2 ≤ 4294967296 := by rw [hv2.out, ← pw_32]; exact pw_le (by omega)
      have hs0 : Hid (∀ t, (t = if (x % 2 + y % 2 = 1 ∧ one = true) ∨ (x % 2 + y % 2 = 2 ∧ two = true) then v else 0) → (z + t) + (v * 2) * bitB one two (32 - (k + 1)) (x / 2) (y / 2) = R) := fun t ht => bit_step H.out hlt hv.out ht
      have hs : Hid (∀ cx cy t, x % 2 = cx → y % 2 = cy → (t = if (cx + cy = 1 ∧ one = true) ∨ (cx + cy = 2 ∧ two = true) then v else 0) → (z + t) + (v * 2) * bitB one two (32 - (k + 1)) (x / 2) (y / 2) = R) := fun cx cy t h1 h2 ht => hs0.out t (by rw [h1, h2]; exact ht)
      clear hs0 H hv
      have hx : x % 2 = 0 ∨ x % 2 = 1 := by omega
      have hy : y % 2 = 0 ∨ y % 2 = 1 := by omega
      cases one <;> cases two <;> rcases hx with hx | hx <;> rcases hy with hy | hy
      all_goals
        go_wp2
        go_round
        case rel => exact ⟨k + 1, x / 2, y / 2, _, v * 2, by omega, by go_num, rfl, rfl, rfl, rfl, by omega, by omega, by omega, by omega, hv2, by omega, by omega, by omega, by omega, by first | (refine hs.out _ _ v hx hy ?_; simp; done) | (have h0 := hs.out _ _ 0 hx hy; have h := h0 (by simp); rw [Int.add_zero] at h; exact h)⟩
        case measure => simp [intOf]; omega
    · have hk32 : k = 32 := by omega
      subst hk32
      have h := H.out
      simp [bitB] at h
      have h' : Hid (z = R) := h
      clear h
      go_wp2
      go_ret
      exact ⟨ret_int h'.out, rfl⟩

set_option maxHeartbeats 1000000 in
theorem l1power_any (n : Nat) (hn : n ≤ 32) (w : World) : Calls Try.prog 127 #[.int .i64 n] w fun e w' => e = .returned (.int .i64 (pw n)) ∧ w' = w := by
  induction n with
  | zero =>
    go_enter Try.func127, Try.ntmps127
    go_wp2
    go_ret
    exact ⟨rfl, rfl⟩
  | succ n ih =>
    have HI : Hid (Calls Try.prog 127 #[.int .i64 n] w fun e w' => e = .returned (.int .i64 (pw n)) ∧ w' = w) := ih (by omega)
    have hs : Hid (2 * pw n = pw (n + 1)) := (pw_succ n).symm
    have h1 := pw_pos n
    have h2 : pw n ≤ 4294967296 := by rw [← pw_32]; exact pw_le (by omega)
    clear ih
    generalize pw n = z at *
    generalize pw (n + 1) = z' at *
    go_enter Try.func127, Try.ntmps127
    go_wp2_with fail
    refine HI.out.mono ?_
    rintro e w' ⟨rfl, rfl⟩
    go_wp2
    go_ret
    exact ⟨ret_int hs.out, rfl⟩

set_option maxHeartbeats 2000000 in
theorem l1holds_any (op a v : Int) (w : World) (ha : isWord a) (hv : isWord v) : Calls Try.prog 104 #[.int .i64 op, .int .i64 a, .int .i64 v] w fun e w' => e = .returned (.bool (holdL op a v)) ∧ w' = w := by
  have HC : Hid (Calls Try.prog 126 #[.int .i64 a, .int .i64 v, .bool false, .bool true] w fun e w' => e = .returned (.int .i64 (bitB false true 32 a v)) ∧ w' = w) := l1bits_any a v false true w ha hv
  have HH : Hid (holdL op a v = if op = 1 then a == v else if op = 2 then decide (v < a) else if op = 3 then decide (v ≤ a) else bitB false true 32 a v != 0) := rfl
  generalize bitB false true 32 a v = z at *
  generalize holdL op a v = r at *
  clear ha hv
  by_cases h1 : op = 1
  · subst h1
    go_enter Try.func104, Try.ntmps104
    go_wp2
    go_ret
    exact ⟨ret_bool (by rw [HH.out]; rfl), rfl⟩
  by_cases h2 : op = 2
  · subst h2
    go_enter Try.func104, Try.ntmps104
    go_wp2
    go_ret
    exact ⟨ret_bool (by rw [HH.out]; rfl), rfl⟩
  by_cases h3 : op = 3
  · subst h3
    go_enter Try.func104, Try.ntmps104
    go_wp2
    go_ret
    exact ⟨ret_bool (by rw [HH.out]; rfl), rfl⟩
  have e : Hid (r = (z != 0)) := by unfold Hid; rw [HH.out, if_neg h1, if_neg h2, if_neg h3]
  have e1 : (op == 1) = false := by simp [h1]
  have e2 : (op == 2) = false := by simp [h2]
  have e3 : (op == 3) = false := by simp [h3]
  clear HH h1 h2 h3
  go_enter Try.func104, Try.ntmps104
  go_wp2_with (go_at_call 126; refine HC.out.mono ?_; rintro e w' ⟨rfl, rfl⟩)
  go_ret
  exact ⟨ret_bool e.out.symm, rfl⟩

end Go.Proofs.Ytjfgihmamoiipaa
