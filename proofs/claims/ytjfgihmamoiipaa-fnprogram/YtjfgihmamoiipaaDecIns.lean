/-
  CONTRACT of insOf.
-/
import Derived.Test.YtjfgihmamoiipaaDec
namespace Go.Proofs.Ytjfgihmamoiipaa
open Go.RowKit
set_option linter.unusedVariables false

set_option maxHeartbeats 400000 in
set_option maxRecDepth 100000 in
theorem insOf_at (b o cap : Nat) (x0 x1 x2 x3 x4 x5 x6 x7 : Int) (w : World) (hb : b < w.heap.size) (hcap : 8 ≤ cap)
    (c0 : w.cell? ⟨b, o, none⟩ = some (.int .u8 x0)) (c1 : w.cell? ⟨b, o + 1, none⟩ = some (.int .u8 x1)) (c2 : w.cell? ⟨b, o + 2, none⟩ = some (.int .u8 x2)) (c3 : w.cell? ⟨b, o + 3, none⟩ = some (.int .u8 x3))
    (c4 : w.cell? ⟨b, o + 4, none⟩ = some (.int .u8 x4)) (c5 : w.cell? ⟨b, o + 4 + 1, none⟩ = some (.int .u8 x5)) (c6 : w.cell? ⟨b, o + 4 + 2, none⟩ = some (.int .u8 x6)) (c7 : w.cell? ⟨b, o + 4 + 3, none⟩ = some (.int .u8 x7))
    (h0 : 0 ≤ x0 ∧ x0 ≤ 255) (h1 : 0 ≤ x1 ∧ x1 ≤ 255) (h4 : 0 ≤ x4 ∧ x4 ≤ 255) (h5 : 0 ≤ x5 ∧ x5 ≤ 255) (h6 : 0 ≤ x6 ∧ x6 ≤ 255) (h7 : 0 ≤ x7 ∧ x7 ≤ 255) :
    Calls Try.prog 54 #[.slice (some ⟨b, o, none⟩) 8 cap] w fun e w' => e = .returned (insV (x0 + 256 * x1) x2 x3 (x4 + 256 * x5 + 65536 * x6 + 16777216 * x7)) ∧ Below w.heap.size w w' := by
  have HC : Hid (∀ wx cp, (wx.cell? ⟨b, o + 4, none⟩ = some (.int .u8 x4) ∧ wx.cell? ⟨b, o + 4 + 1, none⟩ = some (.int .u8 x5) ∧ wx.cell? ⟨b, o + 4 + 2, none⟩ = some (.int .u8 x6) ∧ wx.cell? ⟨b, o + 4 + 3, none⟩ = some (.int .u8 x7)) → Calls Try.prog 86 #[.slice (some ⟨b, o + 4, none⟩) 4 cp] wx fun e w' => e = .returned (.int .u32 (x4 + 256 * x5 + 65536 * x6 + 16777216 * x7)) ∧ ∃ m, w' = wx.drewN m) :=
    fun wx cp h => wordOf_at b (o + 4) cp x4 x5 x6 x7 wx h.1 h.2.1 h.2.2.1 h.2.2.2 h4 h5 h6 h7
  have HH : Hid (bits .or .u16 (IntKind.u16.wrap x0) (IntKind.u16.wrap (IntKind.u16.wrap x1 * 256)) = x0 + 256 * x1) := by
    unfold Hid
    rw [IntKind.wrap_u16, IntKind.wrap_u16, IntKind.wrap_u16, show x0 % 65536 = x0 by omega, show x1 % 65536 * 256 % 65536 = x1 * 256 by omega]
    exact half_bits x0 x1 h0 h1
  clear h4 h5 h6 h7
  have hcp : ((4 : Int) ≤ (cap : Int)) := by omega
  have hne4 : ¬ cap = 4 := by omega
  have hcp8 : ((8 : Int) ≤ (cap : Int)) := by omega
  have n0 := World.new_ne w _ c0
  have n1 := World.new_ne w _ c1
  have n2 := World.new_ne w _ c2
  have n3 := World.new_ne w _ c3
  have n4 := World.new_ne w _ c4
  have n5 := World.new_ne w _ c5
  have n6 := World.new_ne w _ c6
  have n7 := World.new_ne w _ c7
  go_enter Try.func54, Try.ntmps54
  go_wp2_with fail
  go_region_held3 (fun w' => w'.cell? ⟨b, o, none⟩ = some (.int .u8 x0) ∧ w'.cell? ⟨b, o + 1, none⟩ = some (.int .u8 x1) ∧ w'.cell? ⟨b, o + 2, none⟩ = some (.int .u8 x2) ∧ w'.cell? ⟨b, o + 3, none⟩ = some (.int .u8 x3) ∧ w'.cell? ⟨b, o + 4, none⟩ = some (.int .u8 x4) ∧ w'.cell? ⟨b, o + 4 + 1, none⟩ = some (.int .u8 x5) ∧ w'.cell? ⟨b, o + 4 + 2, none⟩ = some (.int .u8 x6) ∧ w'.cell? ⟨b, o + 4 + 3, none⟩ = some (.int .u8 x7))
    (go_keep)
    ((go_at_call 86; refine (HC.out _ _ ?_).mono ?_; (simp [*]); rintro e w' ⟨rfl, m, rfl⟩))
  all_goals go_wp2
  rw [HH.out]
  refine bodyPost_ret (v := insV (x0 + 256 * x1) x2 x3 (x4 + 256 * x5 + 65536 * x6 + 16777216 * x7)) (by simp [results, Try.results54, go_sem]) rfl ⟨rfl, ?_⟩
  exact ((((below_drewN ((Below.refl _ _).alloc (Nat.le_refl _) _) _).setCell (Nat.le_refl _) _).setCell (Nat.le_refl _) _).setCell (Nat.le_refl _) _).setCell (Nat.le_refl _) _
end Go.Proofs.Ytjfgihmamoiipaa
