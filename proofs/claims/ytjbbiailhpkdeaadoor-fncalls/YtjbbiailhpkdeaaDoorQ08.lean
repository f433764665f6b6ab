/-
  DlgF
-/
import Derived.Test.YtjbbiailhpkdeaaDoorQ07
namespace Go.Proofs.YtjbbiailhpkdeaaDoor
open Go.RowKit
set_option linter.unusedVariables false

set_option maxRecDepth 100000 in
set_option maxHeartbeats 4000000 in
theorem logCall_end (L b o : Nat) (B : List Int) (cap k : Nat) (w : World) (h : LgS w L b o B cap k) (hL : L < w.heap.size) (hbw : b < w.heap.size) (hne : L ≠ b) (hB : isBytes B) (hn : B.length ≤ 1048576) (hk : k ≤ B.length) (hkn0 : ¬ k < B.length) :
    Calls Tryd.prog 52 #[.pointer (some ⟨L, 0, none⟩)] w fun e w' => FramePost L b o B cap k w e w' := by
  have HBad : Hid (∀ (c : Int) (a : Nat), frameR B.length (B.drop k) = .inl (c, a) → ∀ W, Far w W (fun q => q = L) → FramePost L b o B cap k w (Bad c (a : Int)) W) := fun c a e W hF => ⟨hF, .inl ⟨c, a, e, rfl⟩⟩
  have HX : Hid (∀ W, FcS w W → W.cell? ⟨L, 0, none⟩ = some (.slice (some ⟨b, o, none⟩) B.length cap) ∧ W.cell? ⟨L, 1, none⟩ = some (.int .i64 (k : Int))) := fun W hF => by
    have := h.fc hF hL hbw
    exact ⟨this.c0, this.c1⟩
  have HY : Hid (∀ (c a : Int) w1, Calls Tryd.prog 53 #[.bool true, .int .i64 c, .int .i64 a] w1 fun e w' => e = Bad c a ∧ w' = w1) := fun c a w1 => refuse_yes c a w1
  have HN : Hid (∀ (c a : Int) w1, Calls Tryd.prog 53 #[.bool false, .int .i64 c, .int .i64 a] w1 fun e w' => e = .returned (.tuple #[]) ∧ w' = w1) := fun c a w1 => refuse_no c a w1
  have hF0 := FcS.start w
  have hkn : k = B.length := by omega
  have HP : Hid (FramePost L b o B cap k w (Bad 5 (k : Int)) (w.alloc (.cells #[.int .u32 0, .int .u32 0, .slice none 0 0] 34)).drew) := by
    have := HBad.out 5 B.length (frame_end (by omega)) _ hF0.fr.up.drew
    rw [hkn]
    rw [hkn] at this
    exact this
  obtain ⟨x0, x1⟩ := HX.out _ hF0
  rw [← hkn] at x0
  clear HBad HX HN hF0 h hkn0
  generalize FramePost L b o B cap k w = Post at *
  clear hkn hk
  go_enter Tryd.func52, Tryd.ntmps52
  go_wp2_with fail
  generalize w.alloc (.cells #[.int .u32 0, .int .u32 0, .slice none 0 0] 34) = V0 at *
  go_region_dies
  all_goals (refine (HY.out _ _ _).mono ?_; rintro _ w1 ⟨rfl, hw1⟩; rw [hw1]; exact ⟨rfl, HP.out⟩)
end Go.Proofs.YtjbbiailhpkdeaaDoor
