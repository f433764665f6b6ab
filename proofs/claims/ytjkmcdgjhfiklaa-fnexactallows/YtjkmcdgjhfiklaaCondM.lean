/-
  CONTRACTS of the program's ConWithin.
-/
import Derived.Test.YtjkmcdgjhfiklaaCondL
namespace Go.Proofs.Ytjkmcdgjhfiklaa
open Go.RowKit
set_option linter.unusedVariables false

theorem below_step {w wa wb : World} (hb : Below wa.heap.size wa wb) (h : Below w.heap.size w wa) : Below w.heap.size w wb := h.trans (hb.mono h.size)

theorem cell_ltK {w : World} {a : Addr} {v : Value} (h : w.cell? a = some v) : a.block < w.heap.size := by
  by_cases hb : a.block < w.heap.size
  · exact hb
  · exfalso
    simp [World.cell?, Array.getElem?_eq_none (show w.heap.size ≤ a.block by omega)] at h
theorem cell_step {wa wb : World} (hb : Below wa.heap.size wa wb) {p : Addr} {v : Value} (h : wa.cell? p = some v) : wb.cell? p = some v := (hb.cell (cell_ltK h)).trans h


/-- the three numbers of one of two conditions -/
def OneOf (ck ca cb dk da db k a b : Int) : Prop := (k = ck ∧ a = ca ∧ b = cb) ∨ (k = dk ∧ a = da ∧ b = db)

set_option maxRecDepth 100000 in
set_option maxHeartbeats 2000000 in
/-- ConWithin's own walk: both valid -/
theorem within_yy (ck ca cb dk da db : Int) (r : Bool) (G : Int → Int → Int → Value) (w : World)
    (HV : Hid (∀ k a b w, OneOf ck ca cb dk da db k a b → Calls Try.prog 36 #[.agg #[.int .i64 k, .int .u64 a, .int .u64 b]] w fun e w' => e = .returned (.bool true) ∧ Below w.heap.size w w'))
    (HP : Hid (∀ k a b w, OneOf ck ca cb dk da db k a b → Calls Try.prog 37 #[.agg #[.int .i64 k, .int .u64 a, .int .u64 b]] w fun e w' => e = .returned (G k a b) ∧ Below w.heap.size w w'))
    (HN : Hid (∀ w, Calls Try.prog 39 #[G ck ca cb, G dk da db] w fun e w' => e = .returned (.bool r) ∧ Below w.heap.size w w')) :
    Calls Try.prog 14 #[.agg #[.int .i64 ck, .int .u64 ca, .int .u64 cb], .agg #[.int .i64 dk, .int .u64 da, .int .u64 db]] w fun e w' => e = .returned (.bool r) ∧ Below w.heap.size w w' := by
  go_enter Try.func14, Try.ntmps14
  go_wp2_with fail
  have X := (BoxK.new w 25 (.int .i64 ck) (.int .u64 ca) (.int .u64 cb)).alloc (.cells #[.int .i64 dk, .int .u64 da, .int .u64 db] 25)
  have Y := BoxK.new (w.alloc (.cells #[.int .i64 ck, .int .u64 ca, .int .u64 cb] 25)) 25 (.int .i64 dk) (.int .u64 da) (.int .u64 db)
  have hsz : (w.alloc (.cells #[.int .i64 ck, .int .u64 ca, .int .u64 cb] 25)).heap.size = w.heap.size + 1 := by simp
  have B0 : Below w.heap.size w ((w.alloc (.cells #[.int .i64 ck, .int .u64 ca, .int .u64 cb] 25)).alloc (.cells #[.int .i64 dk, .int .u64 da, .int .u64 db] 25)) := ((Below.refl _ _).alloc (Nat.le_refl _) _).alloc (by simp) _
  rw [hsz] at Y
  generalize (w.alloc (.cells #[.int .i64 ck, .int .u64 ca, .int .u64 cb] 25)).alloc (.cells #[.int .i64 dk, .int .u64 da, .int .u64 db] 25) = W at *
  clear hsz
  have SK : Hid (∀ wa wb, Below wa.heap.size wa wb → (Below w.heap.size w wa ∧ wa.cell? ⟨w.heap.size, 0, none⟩ = some (.int .i64 ck) ∧ wa.cell? ⟨w.heap.size, 1, none⟩ = some (.int .u64 ca) ∧ wa.cell? ⟨w.heap.size, 2, none⟩ = some (.int .u64 cb) ∧ wa.cell? ⟨w.heap.size + 1, 0, none⟩ = some (.int .i64 dk) ∧ wa.cell? ⟨w.heap.size + 1, 1, none⟩ = some (.int .u64 da) ∧ wa.cell? ⟨w.heap.size + 1, 2, none⟩ = some (.int .u64 db)) → (Below w.heap.size w wb ∧ wb.cell? ⟨w.heap.size, 0, none⟩ = some (.int .i64 ck) ∧ wb.cell? ⟨w.heap.size, 1, none⟩ = some (.int .u64 ca) ∧ wb.cell? ⟨w.heap.size, 2, none⟩ = some (.int .u64 cb) ∧ wb.cell? ⟨w.heap.size + 1, 0, none⟩ = some (.int .i64 dk) ∧ wb.cell? ⟨w.heap.size + 1, 1, none⟩ = some (.int .u64 da) ∧ wb.cell? ⟨w.heap.size + 1, 2, none⟩ = some (.int .u64 db))) := fun wa wb hb ⟨s, a0, a1, a2, b0, b1, b2⟩ =>
    ⟨below_step hb s, cell_step hb a0, cell_step hb a1, cell_step hb a2, cell_step hb b0, cell_step hb b1, cell_step hb b2⟩
  have hS0 : Below w.heap.size w W.drew ∧ W.drew.cell? ⟨w.heap.size, 0, none⟩ = some (.int .i64 ck) ∧ W.drew.cell? ⟨w.heap.size, 1, none⟩ = some (.int .u64 ca) ∧ W.drew.cell? ⟨w.heap.size, 2, none⟩ = some (.int .u64 cb) ∧ W.drew.cell? ⟨w.heap.size + 1, 0, none⟩ = some (.int .i64 dk) ∧ W.drew.cell? ⟨w.heap.size + 1, 1, none⟩ = some (.int .u64 da) ∧ W.drew.cell? ⟨w.heap.size + 1, 2, none⟩ = some (.int .u64 db) := by
    obtain ⟨_, x0, x1, x2, _, _, _⟩ := X.drew
    obtain ⟨_, y0, y1, y2, _, _, _⟩ := Y.drew
    exact ⟨B0.drew, x0, x1, x2, y0, y1, y2⟩
  clear X Y
  go_region_held3 (fun w' => Below w.heap.size w w' ∧ w'.cell? ⟨w.heap.size, 0, none⟩ = some (.int .i64 ck) ∧ w'.cell? ⟨w.heap.size, 1, none⟩ = some (.int .u64 ca) ∧ w'.cell? ⟨w.heap.size, 2, none⟩ = some (.int .u64 cb) ∧ w'.cell? ⟨w.heap.size + 1, 0, none⟩ = some (.int .i64 dk) ∧ w'.cell? ⟨w.heap.size + 1, 1, none⟩ = some (.int .u64 da) ∧ w'.cell? ⟨w.heap.size + 1, 2, none⟩ = some (.int .u64 db))
    (assumption)
    (first
      | (go_at_call 36; refine (HV.out _ _ _ _ (by first | exact .inl ⟨rfl, rfl, rfl⟩ | exact .inr ⟨rfl, rfl, rfl⟩)).mono ?_; rintro e w1 ⟨rfl, hb1⟩; have hS1 := SK.out _ _ hb1 (by assumption))
      | (go_at_call 37; refine (HP.out _ _ _ _ (by first | exact .inl ⟨rfl, rfl, rfl⟩ | exact .inr ⟨rfl, rfl, rfl⟩)).mono ?_; rintro e w1 ⟨rfl, hb1⟩; have hS1 := SK.out _ _ hb1 (by assumption))
      | (go_at_call 39; refine (HN.out _).mono ?_; rintro e w1 ⟨rfl, hb1⟩; have hS1 := SK.out _ _ hb1 (by assumption)))
  all_goals go_wp2
  go_ret
  have B1 : Below w.heap.size w w1 := hS1.1
  exact ⟨rfl, B1⟩

set_option maxRecDepth 100000 in
set_option maxHeartbeats 4000000 in
/-- ConWithin's own walk: the first not valid -/
theorem within_n (ck ca cb dk da db : Int) (w : World)
    (HV : Hid (∀ w, Calls Try.prog 36 #[.agg #[.int .i64 ck, .int .u64 ca, .int .u64 cb]] w fun e w' => e = .returned (.bool false) ∧ Below w.heap.size w w')) :
    Calls Try.prog 14 #[.agg #[.int .i64 ck, .int .u64 ca, .int .u64 cb], .agg #[.int .i64 dk, .int .u64 da, .int .u64 db]] w fun e w' => e = .returned (.bool false) ∧ Below w.heap.size w w' := by
  go_enter Try.func14, Try.ntmps14
  go_wp2_with fail
  have X := (BoxK.new w 25 (.int .i64 ck) (.int .u64 ca) (.int .u64 cb)).alloc (.cells #[.int .i64 dk, .int .u64 da, .int .u64 db] 25)
  have Y := BoxK.new (w.alloc (.cells #[.int .i64 ck, .int .u64 ca, .int .u64 cb] 25)) 25 (.int .i64 dk) (.int .u64 da) (.int .u64 db)
  have hsz : (w.alloc (.cells #[.int .i64 ck, .int .u64 ca, .int .u64 cb] 25)).heap.size = w.heap.size + 1 := by simp
  have B0 : Below w.heap.size w ((w.alloc (.cells #[.int .i64 ck, .int .u64 ca, .int .u64 cb] 25)).alloc (.cells #[.int .i64 dk, .int .u64 da, .int .u64 db] 25)) := ((Below.refl _ _).alloc (Nat.le_refl _) _).alloc (by simp) _
  rw [hsz] at Y
  generalize (w.alloc (.cells #[.int .i64 ck, .int .u64 ca, .int .u64 cb] 25)).alloc (.cells #[.int .i64 dk, .int .u64 da, .int .u64 db] 25) = W at *
  clear hsz
  have SK : Hid (∀ wa wb, Below wa.heap.size wa wb → (Below w.heap.size w wa ∧ wa.cell? ⟨w.heap.size, 0, none⟩ = some (.int .i64 ck) ∧ wa.cell? ⟨w.heap.size, 1, none⟩ = some (.int .u64 ca) ∧ wa.cell? ⟨w.heap.size, 2, none⟩ = some (.int .u64 cb) ∧ wa.cell? ⟨w.heap.size + 1, 0, none⟩ = some (.int .i64 dk) ∧ wa.cell? ⟨w.heap.size + 1, 1, none⟩ = some (.int .u64 da) ∧ wa.cell? ⟨w.heap.size + 1, 2, none⟩ = some (.int .u64 db)) → (Below w.heap.size w wb ∧ wb.cell? ⟨w.heap.size, 0, none⟩ = some (.int .i64 ck) ∧ wb.cell? ⟨w.heap.size, 1, none⟩ = some (.int .u64 ca) ∧ wb.cell? ⟨w.heap.size, 2, none⟩ = some (.int .u64 cb) ∧ wb.cell? ⟨w.heap.size + 1, 0, none⟩ = some (.int .i64 dk) ∧ wb.cell? ⟨w.heap.size + 1, 1, none⟩ = some (.int .u64 da) ∧ wb.cell? ⟨w.heap.size + 1, 2, none⟩ = some (.int .u64 db))) := fun wa wb hb ⟨s, a0, a1, a2, b0, b1, b2⟩ =>
    ⟨below_step hb s, cell_step hb a0, cell_step hb a1, cell_step hb a2, cell_step hb b0, cell_step hb b1, cell_step hb b2⟩
  have hS0 : Below w.heap.size w W.drew ∧ W.drew.cell? ⟨w.heap.size, 0, none⟩ = some (.int .i64 ck) ∧ W.drew.cell? ⟨w.heap.size, 1, none⟩ = some (.int .u64 ca) ∧ W.drew.cell? ⟨w.heap.size, 2, none⟩ = some (.int .u64 cb) ∧ W.drew.cell? ⟨w.heap.size + 1, 0, none⟩ = some (.int .i64 dk) ∧ W.drew.cell? ⟨w.heap.size + 1, 1, none⟩ = some (.int .u64 da) ∧ W.drew.cell? ⟨w.heap.size + 1, 2, none⟩ = some (.int .u64 db) := by
    obtain ⟨_, x0, x1, x2, _, _, _⟩ := X.drew
    obtain ⟨_, y0, y1, y2, _, _, _⟩ := Y.drew
    exact ⟨B0.drew, x0, x1, x2, y0, y1, y2⟩
  clear X Y
  have hS2 := hS0
  obtain ⟨S0, x0, x1, x2, y0, y1, y2⟩ := hS2
  go_region_with (go_at_call 36; refine (HV.out _).mono ?_; rintro e w1 ⟨rfl, hb1⟩)
  all_goals
    have hB1 := below_step hb1 S0
    go_wp2
    exact bodyPost_ret (v := .bool false) (by simp [results, Try.results14, go_sem, Act.put]) rfl ⟨rfl, hB1⟩
end Go.Proofs.Ytjkmcdgjhfiklaa
