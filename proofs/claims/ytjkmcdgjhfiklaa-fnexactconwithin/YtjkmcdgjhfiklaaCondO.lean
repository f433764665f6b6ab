/-
  CONTRACTS of the program's ConWithin.
-/
import Derived.Test.YtjkmcdgjhfiklaaCondM
namespace Go.Proofs.Ytjkmcdgjhfiklaa
open Go.RowKit
set_option linter.unusedVariables false

set_option maxRecDepth 100000 in
set_option maxHeartbeats 4000000 in
/-- ConWithin's own walk: the second not valid -/
theorem within_yn (ck ca cb dk da db : Int) (V : Int → Int → Int → Bool) (w : World) (e1 : V ck ca cb = true) (e2 : V dk da db = false)
    (HV : Hid (∀ k a b w, OneOf ck ca cb dk da db k a b → Calls Try.prog 36 #[.agg #[.int .i64 k, .int .u64 a, .int .u64 b]] w fun e w' => e = .returned (.bool (V k a b)) ∧ Below w.heap.size w w')) :
    Calls Try.prog 14 #[.agg #[.int .i64 ck, .int .u64 ca, .int .u64 cb], .agg #[.int .i64 dk, .int .u64 da, .int .u64 db]] w fun e w' => e = .returned (.bool false) ∧ Below w.heap.size w w' := by
  go_enter Try.func14, Try.ntmps14
  go_wp2_with fail
  have X := (BoxK.new w 25 (.int .i64 ck) (.int .u64 ca) (.int .u64 cb)).alloc (.cells #[.int .i64 dk, .int .u64 da, .int .u64 db] 25)
  have Y := BoxK.new (w.alloc (.cells #[.int .i64 ck, .int .u64 ca, .int .u64 cb] 25)) 25 (.int .i64 dk) (.int .u64 da) (.int .u64 db)
  have hsz : (w.alloc (.cells #[.int .i64 ck, .int .u64 ca, .int .u64 cb] 25)).heap.size = w.heap.size + 1 := by simp
  have B0 : Below w.heap.size w ((w.alloc (.cells #[.int .i64 ck, .int .u64 ca, .int .u64 cb] 25)).alloc (.cells #[.int .i64 dk, .int .u64 da, .int .u64 db] 25)) := ((Below.refl _ _).alloc (Nat.le_refl _) _).alloc (by simp) _
  rw [hsz] at Y
  generalize (w.alloc (.cells #[.int .i64 ck, .int .u64 ca, .int .u64 cb] 25)).alloc (.cells #[.int .i64 dk, .int .u64 da, .int .u64 db] 25) = W at *
  clear hsz
  have SK : Hid (∀ wa wb, Below wa.heap.size wa wb → (Below w.heap.size w wa ∧ wa.cell? ⟨w.heap.size, 0, none⟩ = some (.int .i64 ck) ∧ wa.cell? ⟨w.heap.size, 1, none⟩ = some (.int .u64 ca) ∧ wa.cell? ⟨w.heap.size, 2, none⟩ = some (.int .u64 cb) ∧ wa.cell? ⟨w.heap.size + 1, 0, none⟩ = some (.int .i64 dk) ∧ wa.cell? ⟨w.heap.size + 1, 1, none⟩ = some (.int .u64 da) ∧ wa.cell? ⟨w.heap.size + 1, 2, none⟩ = some (.int .u64 db)) → (Below w.heap.size w wb ∧ wb.cell? ⟨w.heap.size, 0, none⟩ = some (.int .i64 ck) ∧ wb.cell? ⟨w.heap.size, 1, none⟩ = some (.int .u64 ca) ∧ wb.cell? ⟨w.heap.size, 2, none⟩ = some (.int .u64 cb) ∧ wb.cell? ⟨w.heap.size + 1, 0, none⟩ = some (.int .i64 dk) ∧ wb.cell? ⟨w.heap.size + 1, 1, none⟩ = some (.int .u64 da) ∧ wb.cell? ⟨w.heap.size + 1, 2, none⟩ = some (.int .u64 db))) := fun wa wb hb ⟨s, a0, a1, a2, b0, b1, b2⟩ =>
    ⟨below_step hb s, cell_step hb a0, cell_step hb a1, cell_step hb a2, cell_step hb b0, cell_step hb b1, cell_step hb b2⟩
  have hS0 : Below w.heap.size w W.drew ∧ W.drew.cell? ⟨w.heap.size, 0, none⟩ = some (.int .i64 ck) ∧ W.drew.cell? ⟨w.heap.size, 1, none⟩ = some (.int .u64 ca) ∧ W.drew.cell? ⟨w.heap.size, 2, none⟩ = some (.int .u64 cb) ∧ W.drew.cell? ⟨w.heap.size + 1, 0, none⟩ = some (.int .i64 dk) ∧ W.drew.cell? ⟨w.heap.size + 1, 1, none⟩ = some (.int .u64 da) ∧ W.drew.cell? ⟨w.heap.size + 1, 2, none⟩ = some (.int .u64 db) := by
    obtain ⟨_, x0, x1, x2, _, _, _⟩ := X.drew
    obtain ⟨_, y0, y1, y2, _, _, _⟩ := Y.drew
    exact ⟨B0.drew, x0, x1, x2, y0, y1, y2⟩
  clear X Y
  have hS2 := hS0
  obtain ⟨S0, x0, x1, x2, y0, y1, y2⟩ := hS2
  go_region_with (go_at_call 36; refine (HV.out _ _ _ _ (by first | exact .inl ⟨rfl, rfl, rfl⟩ | exact .inr ⟨rfl, rfl, rfl⟩)).mono ?_; rintro e w1 ⟨rfl, hb1⟩; have hS1 := SK.out _ _ hb1 (by assumption); have hS2 := hS1; obtain ⟨S1, z0, z1, z2, u0, u1, u2⟩ := hS2; first | rw [e1] | rw [e2])
  all_goals
    go_wp2
    exact bodyPost_ret (v := .bool false) (by simp [results, Try.results14, go_sem, Act.put]) rfl ⟨rfl, S1⟩

set_option maxHeartbeats 1000000 in
theorem toCon3 (k a b : Int) (w : World) :
    Calls Try.prog 10 #[.agg #[.int .i64 k, .int .u64 a, .int .u64 b]] w fun e w' => e = .returned (.agg #[.int .i64 k, .int .u64 a, .int .u64 b]) ∧ Below w.heap.size w w' := by
  go_enter Try.func10, Try.ntmps10
  go_wp2
  refine bodyPost_ret (v := .agg #[.int .i64 k, .int .u64 a, .int .u64 b]) (by simp [results, Try.results10, go_sem]) rfl ⟨rfl, ?_⟩
  exact (((Below.refl _ _).alloc (Nat.le_refl _) _).alloc (by simp) _).alloc (by simp; omega) _

theorem implWithin_any (c d : K) (r : Bool) (w : World) (ho : c.ok) (ho' : d.ok) (H : Hid (r = true ↔ (validK c = true ∧ validK d = true ∧ Within c d))) :
    Calls Try.prog 14 #[conV c, conV d] w fun e w' => e = .returned (.bool r) ∧ Below w.heap.size w w' := by
  have HVf : ∀ (k a b : Int) w, OneOf c.kind c.a c.b d.kind d.a d.b k a b → Calls Try.prog 36 #[.agg #[.int .i64 k, .int .u64 a, .int .u64 b]] w fun e w' => e = .returned (.bool (validK ⟨k, a.toNat, b.toNat⟩)) ∧ Below w.heap.size w w' := by
    intro k a b w h
    rcases h with ⟨rfl, rfl, rfl⟩ | ⟨rfl, rfl, rfl⟩
    · exact isValidCon_any c w ho
    · exact isValidCon_any d w ho'
  cases hc : validK c with
  | false =>
    have hr : r = false := dec_no H (by simp [hc])
    subst hr
    exact within_n _ _ _ _ _ _ w (fun w => by have := isValidCon_any c w ho; rw [hc] at this; exact this)
  | true =>
    cases hd : validK d with
    | false =>
      have hr : r = false := dec_no H (by simp [hd])
      subst hr
      exact within_yn _ _ _ _ _ _ (fun k a b => validK ⟨k, a.toNat, b.toNat⟩) w hc hd HVf
    | true =>
      refine within_yy _ _ _ _ _ _ r (fun k a b => setV (normK ⟨k, a.toNat, b.toNat⟩)) w ?_ ?_ ?_
      · intro k a b w h
        refine (HVf k a b w h).mono fun e w' he => ?_
        have : validK ⟨k, a.toNat, b.toNat⟩ = true := by
          rcases h with ⟨rfl, rfl, rfl⟩ | ⟨rfl, rfl, rfl⟩
          · exact hc
          · exact hd
        rw [this] at he; exact he
      · intro k a b w h
        rcases h with ⟨rfl, rfl, rfl⟩ | ⟨rfl, rfl, rfl⟩
        · exact conditionOf_any c w ho
        · exact conditionOf_any d w ho'
      · intro w
        have nc := normK_normal ho hc
        have nd := normK_normal ho' hd
        have e : withinI (normK c) (normK d) = r := by
          rw [Bool.eq_iff_iff, withinI_iff nc nd, within_norm ho ho' hc hd, H.out]
          simp [hc, hd]
        have := isWithin_any _ _ w nc nd
        rw [e] at this
        exact this
end Go.Proofs.Ytjkmcdgjhfiklaa
