/-
  CONTRACTS of the program's order of entries.
-/
import Derived.Test.YtjkmcdgjhfiklaaPolB
import Derived.Deep.RegionHeld3
namespace Go.Proofs.Ytjkmcdgjhfiklaa
open Go.RowKit
set_option linter.unusedVariables false

def or2 (x y : Int) : Int := if x ≠ 0 then x else y
def get2 (x y : Int) (j : Nat) : Int := if j = 0 then x else y

set_option maxRecDepth 100000 in
set_option maxHeartbeats 1000000 in
theorem cmpOr2_any (g : Nat) (x y : Int) (w : World) (c : ∀ j, j < 2 → w.cell? ⟨g, j, none⟩ = some (.int .i64 (get2 x y j))) :
    Calls Try.prog 76 #[.slice (some ⟨g, 0, none⟩) 2 2] w fun e w' => e = .returned (.int .i64 (or2 x y)) ∧ w' = w := by
  have HC : Hid (∀ j, j < 2 → w.cell? ⟨g, j, none⟩ = some (.int .i64 (get2 x y j))) := c
  have H1 : Hid (∀ j, j < 2 → (∀ i, i < j → get2 x y i = 0) → get2 x y j ≠ 0 → or2 x y = get2 x y j) := by
    intro j hj h0 h1
    have : j = 0 ∨ j = 1 := by omega
    rcases this with rfl | rfl
    · simp only [get2, if_true] at h1 ⊢; unfold or2; rw [if_pos h1]
    · have a0 := h0 0 (by omega)
      simp [get2] at h1 a0 ⊢; unfold or2; rw [if_neg (by omega)]
  have H2 : Hid ((∀ i, i < 2 → get2 x y i = 0) → or2 x y = 0) := by
    intro h0
    have a0 := h0 0 (by omega)
    have a1 := h0 1 (by omega)
    simp [get2] at a0 a1; unfold or2; rw [if_neg (by omega), a1]
  generalize or2 x y = R at *
  generalize get2 x y = G at *
  clear c
  go_enter Try.func76, Try.ntmps76
  go_wp2_with fail
  go_loopw [8] (fun i wr => ∃ j : Nat, j ≤ 2 ∧ i = .int .i64 j ∧ wr = w ∧ Hid (∀ i, i < j → G i = 0)) (fun i _ => 2 - (intOf i).toNat)
  case atStart => exact ⟨0, by omega, rfl, rfl, fun i hi => by omega⟩
  case round =>
    obtain ⟨j, hj, rfl, rfl, HJ⟩ := hrel
    by_cases hlt : j < 2
    · have c0 := HC.out j hlt
      by_cases hq : G j = 0
      · have HJ2 : Hid (∀ i, i < j + 1 → G i = 0) := by
          intro i hi
          by_cases e : i = j
          · rw [e]; exact hq
          · exact HJ.out i (by omega)
        rw [hq] at c0
        clear HC H1 H2 HJ hq
        go_wp2
        go_roundw
        case rel => exact ⟨j + 1, by omega, by go_num, trivial, HJ2⟩
        case measure => simp [intOf]; omega
      · have E : Hid (R = G j) := H1.out j hlt HJ.out hq
        have hq' : (G j != 0) = true := by simpa using hq
        clear HC H1 H2 HJ
        generalize G j = q at *
        go_wp2
        go_ret
        exact ⟨ret_int E.out.symm, rfl⟩
    · have E : Hid (R = 0) := H2.out (fun i hi => HJ.out i (by omega))
      clear HC H1 H2 HJ
      go_wp2
      go_ret
      exact ⟨ret_int E.out.symm, rfl⟩

theorem cell_alloc_keep {W : World} {a : Addr} {v : Value} (o : Obj) (h : W.cell? a = some v) : (W.alloc o).cell? a = some v := by
  rw [World.cell?_alloc_lt _ _ _ (cell_ltK h)]; exact h
theorem bef_or2 (a b : E) : befE a b = decide (or2 (ordI a.arch b.arch) (ordI a.nr b.nr) < 0) := by
  unfold befE or2
  rcases Int.lt_trichotomy a.arch b.arch with h | h | h
  · rw [ordI_neg h]; simp [h]
  · rw [ordI_same h]
    rcases Int.lt_trichotomy a.nr b.nr with h2 | h2 | h2
    · rw [ordI_neg h2]; simp [h, h2]
    · rw [ordI_same h2]; simp [h, h2]
    · rw [ordI_pos h2]; simp [h]; omega
  · rw [ordI_pos h]; simp; omega

set_option maxRecDepth 100000 in
set_option maxHeartbeats 1000000 in
theorem comesBefore_any (arch nr arch' nr' : Int) (a a' : Option Addr) (n cap n' cap' : Nat) (w : World) (h1 : 0 ≤ arch ∧ arch ≤ 4294967295) (h2 : 0 ≤ nr ∧ nr ≤ 4294967295) (h3 : 0 ≤ arch' ∧ arch' ≤ 4294967295) (h4 : 0 ≤ nr' ∧ nr' ≤ 4294967295) :
    Calls Try.prog 51 #[.agg #[.int .u32 arch, .int .u32 nr, .slice a n cap], .agg #[.int .u32 arch', .int .u32 nr', .slice a' n' cap']] w fun e w' => e = .returned (.bool (decide (or2 (ordI arch arch') (ordI nr nr') < 0))) ∧ Below w.heap.size w w' := by
  have HA : Hid (∀ x y w, (0 ≤ x ∧ x ≤ 4294967295) → (0 ≤ y ∧ y ≤ 4294967295) → Calls Try.prog 77 #[.int .u32 x, .int .u32 y] w fun e w' => e = .returned (.int .i64 (ordI x y)) ∧ w' = w) := fun x y w hx hy => cmp32_any x y w hx hy
  obtain ⟨R, hR⟩ : ∃ R, or2 (ordI arch arch') (ordI nr nr') = R := ⟨_, rfl⟩
  have HR : Hid (or2 (ordI arch arch') (ordI nr nr') = R) := hR
  rw [hR]
  clear hR
  go_enter Try.func51, Try.ntmps51
  go_wp2_with fail
  have X := (BoxK.new w 81 (.int .u32 arch) (.int .u32 nr) (.slice a n cap)).alloc (.cells #[.int .u32 arch', .int .u32 nr', .slice a' n' cap'] 81)
  have Y := BoxK.new (w.alloc (.cells #[.int .u32 arch, .int .u32 nr, .slice a n cap] 81)) 81 (.int .u32 arch') (.int .u32 nr') (.slice a' n' cap')
  have hsz : (w.alloc (.cells #[.int .u32 arch, .int .u32 nr, .slice a n cap] 81)).heap.size = w.heap.size + 1 := by simp
  have B0 : Below w.heap.size w ((w.alloc (.cells #[.int .u32 arch, .int .u32 nr, .slice a n cap] 81)).alloc (.cells #[.int .u32 arch', .int .u32 nr', .slice a' n' cap'] 81)) := ((Below.refl _ _).alloc (Nat.le_refl _) _).alloc (by simp) _
  rw [hsz] at Y
  generalize ((w.alloc (.cells #[.int .u32 arch, .int .u32 nr, .slice a n cap] 81)).alloc (.cells #[.int .u32 arch', .int .u32 nr', .slice a' n' cap'] 81)) = W at *
  clear hsz
  obtain ⟨_, x0, x1, x2, _, _, _⟩ := X
  obtain ⟨_, y0, y1, y2, _, _, _⟩ := Y
  have HS0 : Below W.heap.size W W.drew := (Below.refl _ _).drew
  have HOr : Hid (∀ w1 : World, Calls Try.prog 76 #[.slice (some ⟨w1.heap.size, 0, none⟩) 2 2] (w1.alloc (.cells #[.int .i64 (ordI arch arch'), .int .i64 (ordI nr nr')] 3)).drew fun e w' => e = .returned (.int .i64 R) ∧ w' = (w1.alloc (.cells #[.int .i64 (ordI arch arch'), .int .i64 (ordI nr nr')] 3)).drew) := by
    intro w1
    rw [← HR.out]
    refine cmpOr2_any w1.heap.size _ _ _ (fun j hj => ?_)
    have : j = 0 ∨ j = 1 := by omega
    rcases this with rfl | rfl <;> simp [get2]
  go_region_held3 (fun w' => Below W.heap.size W w' ∧ w'.cell? ⟨w.heap.size, 0, none⟩ = some (.int .u32 arch) ∧ w'.cell? ⟨w.heap.size, 1, none⟩ = some (.int .u32 nr) ∧ w'.cell? ⟨w.heap.size + 1, 0, none⟩ = some (.int .u32 arch') ∧ w'.cell? ⟨w.heap.size + 1, 1, none⟩ = some (.int .u32 nr'))
    (refine ⟨?_, ?_, ?_, ?_, ?_⟩ <;> first | assumption | exact Below.alloc (by assumption) (Below.size (by assumption)) _ | exact cell_alloc_keep _ (by assumption) | (simp [*]; done))
    (first
      | (go_at_call 77; refine (HA.out _ _ _ (by assumption) (by assumption)).mono ?_; rintro e w' ⟨rfl, rfl⟩)
      | (go_at_call 76; refine (HOr.out _).mono ?_; rintro e w' ⟨rfl, rfl⟩))
  have B1 : Below w.heap.size w ((W.alloc (.cells #[.int .i64 (ordI arch arch'), .int .i64 (ordI nr nr')] 3)).drew) := (B0.alloc B0.size _).drew
  go_wp2
  go_ret
  exact ⟨rfl, B1⟩
end Go.Proofs.Ytjkmcdgjhfiklaa
