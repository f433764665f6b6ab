/-
  THE LAW 'FnExactConWithin': its walk and its row.
-/
import Derived.Test.YtjkmcdgjhfiklaaRows
import Derived.Test.YtjkmcdgjhfiklaaCondO
import Derived.Test.YtjkmcdgjhfiklaaOpenK
namespace Go.Proofs.Ytjkmcdgjhfiklaa.fnExactConWithin
open Go.ChangeShapes Go.WideShapes Go.ChangeAt Go.RowKit Go.Deep
set_option linter.unusedVariables false

set_option maxRecDepth 100000 in
set_option maxHeartbeats 2000000 in
theorem walk0 (ck ca cb dk da db : Int) (r : Bool) (w : World)
    (H1 : Hid (∀ k a b w, Calls Try.prog 10 #[.agg #[.int .i64 k, .int .u64 a, .int .u64 b]] w fun e w' => e = .returned (.agg #[.int .i64 k, .int .u64 a, .int .u64 b]) ∧ Below w.heap.size w w'))
    (H2 : Hid (∀ w, Calls Try.prog 13 #[.agg #[.int .i64 ck, .int .u64 ca, .int .u64 cb], .agg #[.int .i64 dk, .int .u64 da, .int .u64 db]] w fun e w' => e = .returned (.bool r) ∧ Below w.heap.size w w'))
    (H3 : Hid (∀ w, Calls Try.prog 14 #[.agg #[.int .i64 ck, .int .u64 ca, .int .u64 cb], .agg #[.int .i64 dk, .int .u64 da, .int .u64 db]] w fun e w' => e = .returned (.bool r) ∧ Below w.heap.size w w')) :
    Calls Try.prog 4 #[.agg #[.int .i64 ck, .int .u64 ca, .int .u64 cb], .agg #[.int .i64 dk, .int .u64 da, .int .u64 db]] w fun e w' => e = .returned (.bool true) ∧ Below w.heap.size w w' := by
  go_enter Try.func4, Try.ntmps4
  go_wp2_with fail
  have X := (BoxK.new w 24 (.int .i64 ck) (.int .u64 ca) (.int .u64 cb)).alloc (.cells #[.int .i64 dk, .int .u64 da, .int .u64 db] 24)
  have Y := BoxK.new (w.alloc (.cells #[.int .i64 ck, .int .u64 ca, .int .u64 cb] 24)) 24 (.int .i64 dk) (.int .u64 da) (.int .u64 db)
  have hsz : (w.alloc (.cells #[.int .i64 ck, .int .u64 ca, .int .u64 cb] 24)).heap.size = w.heap.size + 1 := by simp
  have B0 : Below w.heap.size w ((w.alloc (.cells #[.int .i64 ck, .int .u64 ca, .int .u64 cb] 24)).alloc (.cells #[.int .i64 dk, .int .u64 da, .int .u64 db] 24)) := ((Below.refl _ _).alloc (Nat.le_refl _) _).alloc (by simp) _
  rw [hsz] at Y
  generalize (w.alloc (.cells #[.int .i64 ck, .int .u64 ca, .int .u64 cb] 24)).alloc (.cells #[.int .i64 dk, .int .u64 da, .int .u64 db] 24) = W at *
  clear hsz
  have SK : Hid (∀ wa wb, Below wa.heap.size wa wb → (Below w.heap.size w wa ∧ wa.cell? ⟨w.heap.size, 0, none⟩ = some (.int .i64 ck) ∧ wa.cell? ⟨w.heap.size, 1, none⟩ = some (.int .u64 ca) ∧ wa.cell? ⟨w.heap.size, 2, none⟩ = some (.int .u64 cb) ∧ wa.cell? ⟨w.heap.size + 1, 0, none⟩ = some (.int .i64 dk) ∧ wa.cell? ⟨w.heap.size + 1, 1, none⟩ = some (.int .u64 da) ∧ wa.cell? ⟨w.heap.size + 1, 2, none⟩ = some (.int .u64 db)) → (Below w.heap.size w wb ∧ wb.cell? ⟨w.heap.size, 0, none⟩ = some (.int .i64 ck) ∧ wb.cell? ⟨w.heap.size, 1, none⟩ = some (.int .u64 ca) ∧ wb.cell? ⟨w.heap.size, 2, none⟩ = some (.int .u64 cb) ∧ wb.cell? ⟨w.heap.size + 1, 0, none⟩ = some (.int .i64 dk) ∧ wb.cell? ⟨w.heap.size + 1, 1, none⟩ = some (.int .u64 da) ∧ wb.cell? ⟨w.heap.size + 1, 2, none⟩ = some (.int .u64 db))) := fun wa wb hb ⟨s, a0, a1, a2, b0, b1, b2⟩ =>
    ⟨below_step hb s, cell_step hb a0, cell_step hb a1, cell_step hb a2, cell_step hb b0, cell_step hb b1, cell_step hb b2⟩
  have hS0 : Below w.heap.size w W.drew ∧ W.drew.cell? ⟨w.heap.size, 0, none⟩ = some (.int .i64 ck) ∧ W.drew.cell? ⟨w.heap.size, 1, none⟩ = some (.int .u64 ca) ∧ W.drew.cell? ⟨w.heap.size, 2, none⟩ = some (.int .u64 cb) ∧ W.drew.cell? ⟨w.heap.size + 1, 0, none⟩ = some (.int .i64 dk) ∧ W.drew.cell? ⟨w.heap.size + 1, 1, none⟩ = some (.int .u64 da) ∧ W.drew.cell? ⟨w.heap.size + 1, 2, none⟩ = some (.int .u64 db) := by
    obtain ⟨_, x0, x1, x2, _, _, _⟩ := X.drew
    obtain ⟨_, y0, y1, y2, _, _, _⟩ := Y.drew
    exact ⟨B0.drew, x0, x1, x2, y0, y1, y2⟩
  clear X Y B0
  go_region_held3 (fun w' => Below w.heap.size w w' ∧ w'.cell? ⟨w.heap.size, 0, none⟩ = some (.int .i64 ck) ∧ w'.cell? ⟨w.heap.size, 1, none⟩ = some (.int .u64 ca) ∧ w'.cell? ⟨w.heap.size, 2, none⟩ = some (.int .u64 cb) ∧ w'.cell? ⟨w.heap.size + 1, 0, none⟩ = some (.int .i64 dk) ∧ w'.cell? ⟨w.heap.size + 1, 1, none⟩ = some (.int .u64 da) ∧ w'.cell? ⟨w.heap.size + 1, 2, none⟩ = some (.int .u64 db))
    (assumption)
    (first
      | (go_at_call 10; refine (H1.out _ _ _ _).mono ?_; rintro e w1 ⟨rfl, hb1⟩; have hS1 := SK.out _ _ hb1 (by assumption))
      | (go_at_call 13; refine (H2.out _).mono ?_; rintro e w1 ⟨rfl, hb1⟩; have hS1 := SK.out _ _ hb1 (by assumption)))
  all_goals go_wp2_with fail
  have hS2 : Below w.heap.size w w1.drew ∧ w1.drew.cell? ⟨w.heap.size, 0, none⟩ = some (.int .i64 ck) ∧ w1.drew.cell? ⟨w.heap.size, 1, none⟩ = some (.int .u64 ca) ∧ w1.drew.cell? ⟨w.heap.size, 2, none⟩ = some (.int .u64 cb) ∧ w1.drew.cell? ⟨w.heap.size + 1, 0, none⟩ = some (.int .i64 dk) ∧ w1.drew.cell? ⟨w.heap.size + 1, 1, none⟩ = some (.int .u64 da) ∧ w1.drew.cell? ⟨w.heap.size + 1, 2, none⟩ = some (.int .u64 db) := SK.out w1 w1.drew ((Below.refl _ _).drew) hS1
  clear hS1 hS0
  go_region_held3 (fun w' => Below w.heap.size w w' ∧ w'.cell? ⟨w.heap.size, 0, none⟩ = some (.int .i64 ck) ∧ w'.cell? ⟨w.heap.size, 1, none⟩ = some (.int .u64 ca) ∧ w'.cell? ⟨w.heap.size, 2, none⟩ = some (.int .u64 cb) ∧ w'.cell? ⟨w.heap.size + 1, 0, none⟩ = some (.int .i64 dk) ∧ w'.cell? ⟨w.heap.size + 1, 1, none⟩ = some (.int .u64 da) ∧ w'.cell? ⟨w.heap.size + 1, 2, none⟩ = some (.int .u64 db))
    (assumption)
    (first
      | (go_at_call 10; refine (H1.out _ _ _ _).mono ?_; rintro e w3 ⟨rfl, hb3⟩; have hS3 := SK.out _ _ hb3 (by assumption))
      | (go_at_call 14; refine (H3.out _).mono ?_; rintro e w3 ⟨rfl, hb3⟩; have hS3 := SK.out _ _ hb3 (by assumption)))
  all_goals go_wp2
  go_ret
  have B3 : Below w.heap.size w w3 := hS3.1
  exact ⟨rfl, B3⟩

theorem walk (c d : K) (w : World) (ho : c.ok) (ho' : d.ok) :
    Calls Try.prog 4 #[conV c, conV d] w fun e w' => e = .returned (.bool true) ∧ Below w.heap.size w w' := by
  obtain ⟨r, H⟩ := ex_dec (validK c = true ∧ validK d = true ∧ Within c d)
  exact walk0 _ _ _ _ _ _ r w (fun k a b w => toCon3 k a b w) (fun w => specWithin_any c d r w ho ho' H) (fun w => implWithin_any c d r w ho ho' H)

set_option maxRecDepth 100000 in
theorem lifted (os : Os) (started : os.Started) (H : Type) (enc : TypeId × Value → H) :
    ReturnsInHanded {} Try.checked os 4 .any (Rows.fnExactConWithinSpec.pre6 enc Try.prog Try.f4 Rows.fnExactConWithinRow.domain false) (Rows.fnExactConWithinSpec.post enc Try.prog Try.f4 false true false false) := by
  refine returnsInHanded_of_change (C := Try.checked) own started (by kernel_rfl) Try.func4
    (ChangeSpec.witness6 (enc := enc) (C := Try.checked) false ⟨#[], #[.agg #[.int .i64 0, .int .u64 0, .int .u64 0], .agg #[.int .i64 0, .int .u64 0, .int .u64 0]], []⟩ 8 (by kernel_rfl) (by kernel_rfl) (by kernel_rfl) (by kernel_rfl)) ?_
  intro W base args ds gs before hval0 hW hcnd _
  have hval : ∀ (j : Nat) t v, Try.f4.params[j]? = some t → args[j]? = some v → Value.okWide Try.prog W .any base t v := hval0
  have hW' := hW
  obtain ⟨p, q, hA0, hV, rfl, hfz, hnd⟩ := hW
  have hA : DataW.TrodAll enc Try.prog W 0 (fun _ => true) true Try.f4.params.toList args.toList ds p := hA0
  rw [Try.params4] at hA hval
  obtain ⟨v0, vs0, d0, ds0, p0, q0, hargs, rfl, rfl, h0, r0⟩ := trodAll_cons hA
  obtain ⟨v1, vs1, d1, ds1, p1, q1, hargs1, rfl, rfl, h1, r1⟩ := trodAll_cons r0
  obtain ⟨rfl, rfl, rfl⟩ := trodAll_nil r1
  obtain rfl : args = #[v0, v1] := by cases args; simp_all
  obtain ⟨rfl, rfl⟩ := trodVars_none hV
  have k0 := h0
  have k1 := h1
  have lt0 : ∀ x ∈ p0, x.block < W.heap.size := by obtain ⟨m, hm⟩ := k0; exact DataW.trod_lt m _ _ _ hm
  have lt1 : ∀ x ∈ p1, x.block < W.heap.size := by obtain ⟨m, hm⟩ := k1; exact DataW.trod_lt m _ _ _ hm
  obtain ⟨c, rfl, hok⟩ := open_con (hval 0 24 v0 rfl rfl) h0
  obtain ⟨d, rfl, hok'⟩ := open_con (hval 1 24 v1 rfl rfl) h1
  clear hA0 hval0
  refine (walk c d W hok hok').mono fun e W' ⟨he, bel⟩ => ?_
  subst he
  exact ⟨_, rfl, _, _, _, [], _, [], hW', trodAll_mk1 (shut_bool Try.underlying4 _), (trodAll_cons_mk (Below.trod laidOut (by kernel_rfl) (of_decide_eq_true (by kernel_rfl)) k0 bel lt0) (trodAll_cons_mk (Below.trod laidOut (by kernel_rfl) (of_decide_eq_true (by kernel_rfl)) k1 bel lt1) trodAll_mk0)), rfl, bel.frame _, fun h => by cases h⟩

theorem proved : Rows.FnExactConWithinSaid :=
  OpenClaim.holds_of_wide 4 Try.f4 rfl rfl rfl rfl rfl rfl rfl ⟨rfl, rfl, rfl, rfl, rfl⟩ rfl rfl rfl rfl rfl (by kernel_rfl) Try.func4 (by kernel_rfl)
    (of_decide_eq_true (by kernel_rfl)) (by unfold Func.isWrapper; first | (rw [if_pos (by decide +kernel)]; kernel_rfl) | (rw [if_neg (by decide +kernel)]; exact ⟨rfl, rfl⟩))
    (fun os started H enc _ => lifted os started H enc)
#print axioms proved
end Go.Proofs.Ytjkmcdgjhfiklaa.fnExactConWithin
