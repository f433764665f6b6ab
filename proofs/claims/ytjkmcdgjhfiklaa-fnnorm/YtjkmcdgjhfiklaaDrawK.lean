/-
  CONTRACTS of drawing conditions, where which one it is does not matter.
-/
import Derived.Test.YtjkmcdgjhfiklaaDrawU
namespace Go.Proofs.Ytjkmcdgjhfiklaa
open Go.RowKit
set_option linter.unusedVariables false

theorem BoxK.grown {w w1 : World} {g : Nat} {x y z : Value} {row : Option Nat} (h : BoxK w g x y z) (hg : w.grownBy w1 row) (hne : some g ≠ row) : BoxK w1 g x y z := by
  have e := hg.block g h.lt hne
  have ec : ∀ o, w1.cell? ⟨g, o, none⟩ = w.cell? ⟨g, o, none⟩ := fun o => World.cell?_of_block (w := w) e
  have ef : ∀ o, w1.frozen? ⟨g, o, none⟩ = w.frozen? ⟨g, o, none⟩ := fun o => by simp [World.frozen?, e]
  exact ⟨Nat.lt_of_lt_of_le h.lt hg.size, (ec 0).trans h.c0, (ec 1).trans h.c1, (ec 2).trans h.c2, (ef 0).trans h.f0, (ef 1).trans h.f1, (ef 2).trans h.f2⟩
theorem grown_set3 (w : World) (G : Nat) (x y z : Value) : w.grownBy (((w.setCell ⟨G, 0, none⟩ x).setCell ⟨G, 1, none⟩ y).setCell ⟨G, 2, none⟩ z) (some G) :=
  rb_set (rb_set (rb_set (World.grownBy.refl _ _) 0 x) 1 y) 2 z

theorem results_box {f : Func} {tmps : Array Value} {w : World} {G t : Nat} {x y z : Value} (hf : f.results = #[.cell t 25]) (ht : tmps[t]? = some (.pointer (some ⟨G, 0, none⟩))) (X : BoxK w G x y z) :
    (results f tmps).run Try.prog w = .ok (.agg #[x, y, z]) w := by
  obtain ⟨_, c0, c1, c2, _, _, _⟩ := X
  simp [results, hf, go_sem, ht, c0, c1, c2]

/-- in the midst of a drawing function that answers a condition in the box G -/
structure DrB (w : World) (R G : Nat) (w' : World) : Prop where
  rd : Rdr w' R
  gr : w.grownBy w' (some R)
  bx : BoxK w' G (.int .i64 0) (.int .u64 0) (.int .u64 0)
theorem DrB.step {w w1 w2 : World} {R G : Nat} (h : DrB w R G w1) (hR : R < G) (d : Dr w1 R w2) : DrB w R G w2 :=
  ⟨d.rd, rb_trans h.gr d.gr, h.bx.grown d.gr (by simp; omega)⟩
theorem DrB.below {w w1 w2 : World} {R G : Nat} (h : DrB w R G w1) (hb : Below w1.heap.size w1 w2) : DrB w R G w2 :=
  ⟨h.rd.below hb, rb_trans h.gr (rb_below hb), h.bx.keep hb⟩
theorem DrB.new {w : World} {R : Nat} (h : Rdr w R) : DrB w R w.heap.size (w.alloc (.cells #[.int .i64 0, .int .u64 0, .int .u64 0] 25)) :=
  ⟨h.below ((Below.refl _ _).alloc (Nat.le_refl _) _), rb_alloc (World.grownBy.refl _ _) _, BoxK.new w _ _ _ _⟩
theorem DrB.done {w w1 : World} {R G : Nat} (h : DrB w R G w1) (hR : R < G) (hG : w.heap.size ≤ G) (x y z : Value) : Dr w R (((w1.setCell ⟨G, 0, none⟩ x).setCell ⟨G, 1, none⟩ y).setCell ⟨G, 2, none⟩ z) :=
  ⟨h.rd.own (grown_set3 _ _ _ _ _) hR (fun k hk => by simp at hk; omega), rb_own h.gr (grown_set3 _ _ _ _ _) (fun k hk => by simp at hk; omega)⟩

def DrK (w : World) (R : Nat) (e : Ending) (w' : World) : Prop := ∃ k a b : Int, (-9223372036854775808 ≤ k ∧ k ≤ 9223372036854775807) ∧ isU a ∧ isU b ∧ e = .returned (.agg #[.int .i64 k, .int .u64 a, .int .u64 b]) ∧ Dr w R w'
theorem DrK.mk {w : World} {R : Nat} {k a b : Int} {w' : World} (hk : -9223372036854775808 ≤ k ∧ k ≤ 9223372036854775807) (ha : isU a) (hb : isU b) (hd : Dr w R w') : DrK w R (.returned (.agg #[.int .i64 k, .int .u64 a, .int .u64 b])) w' := ⟨k, a, b, hk, ha, hb, rfl, hd⟩

theorem low_dr (x : Int) (w : World) (h0 : 0 ≤ x) (h1 : x ≤ 64) : Calls Try.prog 45 #[.int .i64 x] w fun e w' => ∃ y : Int, isU y ∧ e = .returned (.int .u64 y) ∧ w' = w := by
  have e : x = ((x.toNat : Nat) : Int) := by omega
  rw [e]
  refine (l3low_any x.toNat w (by omega)).mono ?_
  rintro _ w' ⟨rfl, rfl⟩
  have := low_le (k := x.toNat) (by omega)
  exact ⟨_, ⟨by omega, by omega⟩, rfl, rfl⟩

set_option maxRecDepth 100000 in
set_option maxHeartbeats 2000000 in
theorem point_any (v : Int) (w : World) : Calls Try.prog 71 #[.int .u64 v] w fun e w' => e = .returned (.agg #[.int .i64 1, .int .u64 18446744073709551615, .int .u64 v]) ∧ Below w.heap.size w w' := by
  go_enter Try.func71, Try.ntmps71
  go_wp2
  refine bodyPost_ret (v := .agg #[.int .i64 1, .int .u64 18446744073709551615, .int .u64 v]) (by simp [results, Try.results71, go_sem]) rfl ⟨rfl, ?_⟩
  first
    | exact (Below.refl _ _).alloc (Nat.le_refl _) _
    | exact below_set3 ((Below.refl _ _).alloc (Nat.le_refl _) _) (Nat.le_refl _) _ _ _

set_option maxRecDepth 100000 in
set_option maxHeartbeats 4000000 in
theorem drawCon_dr (R : Nat) (w : World) (h : Rdr w R) : Calls Try.prog 42 #[.pointer (some ⟨R, 0, none⟩)] w (DrK w R) := by
  have HN : Hid (∀ w, Rdr w R → Calls Try.prog 41 #[.pointer (some ⟨R, 0, none⟩)] w fun e w' => ∃ c : Int, 0 ≤ c ∧ c ≤ 255 ∧ e = .returned (.int .i64 c) ∧ Dr w R w') := fun w h => next_dr R w h
  have HA : Hid (∀ w, Rdr w R → Calls Try.prog 72 #[.pointer (some ⟨R, 0, none⟩)] w (DrU w R)) := fun w h => arg_dr R w h
  have HE : Hid (∀ v w, isU v → Rdr w R → Calls Try.prog 73 #[.int .u64 v, .pointer (some ⟨R, 0, none⟩)] w (DrU w R)) := fun v w hv h => near_dr R v w hv h
  have HL : Hid (∀ x w, 0 ≤ x → x ≤ 64 → Calls Try.prog 45 #[.int .i64 x] w fun e w' => ∃ y : Int, isU y ∧ e = .returned (.int .u64 y) ∧ w' = w) := fun x w h0 h1 => low_dr x w h0 h1
  have HP : Hid (∀ v w, Calls Try.prog 71 #[.int .u64 v] w fun e w' => e = .returned (.agg #[.int .i64 1, .int .u64 18446744073709551615, .int .u64 v]) ∧ Below w.heap.size w w') := fun v w => point_any v w
  have hRG : R < w.heap.size := h.lt
  have D := DrB.new h
  clear h
  go_enter Try.func42, Try.ntmps42
  go_wp2_with fail
  all_goals first
    | exact bodyPost_ret (results_box Try.results42 rfl (D.bx.set3 _ _ _)) rfl (DrK.mk (by omega) (by first | assumption | exact isU_wrap _ | exact isU_bits _ _ _ | (unfold isU at *; omega)) (by first | assumption | exact isU_wrap _ | exact isU_bits _ _ _ | (unfold isU at *; omega)) (D.done hRG (Nat.le_refl _) _ _ _))
    | (go_at_call 41; refine (HN.out _ D.rd).mono ?_; rintro _ w1 ⟨c, c0, c1, rfl, d⟩; replace D := D.step hRG d; obtain ⟨yl, y0, y1, y2, g0, g1, g2⟩ := D.bx; go_wp2_with fail)
    | (go_at_call 72; refine (HA.out _ D.rd).mono ?_; rintro _ w1 ⟨x, hx, rfl, d⟩; replace D := D.step hRG d; have hx0 := hx.1; have hx1 := hx.2; obtain ⟨yl, y0, y1, y2, g0, g1, g2⟩ := D.bx; go_wp2_with fail)
    | (go_at_call 73; refine (HE.out _ _ (by first | assumption | exact isU_wrap _ | exact isU_bits _ _ _ | (unfold isU at *; omega)) D.rd).mono ?_; rintro _ w1 ⟨x, hx, rfl, d⟩; replace D := D.step hRG d; have hx0 := hx.1; have hx1 := hx.2; obtain ⟨yl, y0, y1, y2, g0, g1, g2⟩ := D.bx; go_wp2_with fail)
    | (go_at_call 45; refine (HL.out _ _ (by omega) (by omega)).mono ?_; rintro _ w1 ⟨x, hx, rfl, rfl⟩; have hx0 := hx.1; have hx1 := hx.2; go_wp2_with fail)
    | (go_at_call 71; refine (HP.out _ _).mono ?_; rintro _ w1 ⟨rfl, hb⟩; replace D := D.below hb; obtain ⟨yl, y0, y1, y2, g0, g1, g2⟩ := D.bx; go_wp2_with fail)
  all_goals first
    | exact bodyPost_ret (results_box Try.results42 rfl (D.bx.set3 _ _ _)) rfl (DrK.mk (by omega) (by first | assumption | exact isU_wrap _ | exact isU_bits _ _ _ | (unfold isU at *; omega)) (by first | assumption | exact isU_wrap _ | exact isU_bits _ _ _ | (unfold isU at *; omega)) (D.done hRG (Nat.le_refl _) _ _ _))
    | (go_at_call 41; refine (HN.out _ D.rd).mono ?_; rintro _ w1 ⟨c, c0, c1, rfl, d⟩; replace D := D.step hRG d; obtain ⟨yl, y0, y1, y2, g0, g1, g2⟩ := D.bx; go_wp2_with fail)
    | (go_at_call 72; refine (HA.out _ D.rd).mono ?_; rintro _ w1 ⟨x, hx, rfl, d⟩; replace D := D.step hRG d; have hx0 := hx.1; have hx1 := hx.2; obtain ⟨yl, y0, y1, y2, g0, g1, g2⟩ := D.bx; go_wp2_with fail)
    | (go_at_call 73; refine (HE.out _ _ (by first | assumption | exact isU_wrap _ | exact isU_bits _ _ _ | (unfold isU at *; omega)) D.rd).mono ?_; rintro _ w1 ⟨x, hx, rfl, d⟩; replace D := D.step hRG d; have hx0 := hx.1; have hx1 := hx.2; obtain ⟨yl, y0, y1, y2, g0, g1, g2⟩ := D.bx; go_wp2_with fail)
    | (go_at_call 45; refine (HL.out _ _ (by omega) (by omega)).mono ?_; rintro _ w1 ⟨x, hx, rfl, rfl⟩; have hx0 := hx.1; have hx1 := hx.2; go_wp2_with fail)
    | (go_at_call 71; refine (HP.out _ _).mono ?_; rintro _ w1 ⟨rfl, hb⟩; replace D := D.below hb; obtain ⟨yl, y0, y1, y2, g0, g1, g2⟩ := D.bx; go_wp2_with fail)
  all_goals first
    | exact bodyPost_ret (results_box Try.results42 rfl (D.bx.set3 _ _ _)) rfl (DrK.mk (by omega) (by first | assumption | exact isU_wrap _ | exact isU_bits _ _ _ | (unfold isU at *; omega)) (by first | assumption | exact isU_wrap _ | exact isU_bits _ _ _ | (unfold isU at *; omega)) (D.done hRG (Nat.le_refl _) _ _ _))
    | (go_at_call 41; refine (HN.out _ D.rd).mono ?_; rintro _ w1 ⟨c, c0, c1, rfl, d⟩; replace D := D.step hRG d; obtain ⟨yl, y0, y1, y2, g0, g1, g2⟩ := D.bx; go_wp2_with fail)
    | (go_at_call 72; refine (HA.out _ D.rd).mono ?_; rintro _ w1 ⟨x, hx, rfl, d⟩; replace D := D.step hRG d; have hx0 := hx.1; have hx1 := hx.2; obtain ⟨yl, y0, y1, y2, g0, g1, g2⟩ := D.bx; go_wp2_with fail)
    | (go_at_call 73; refine (HE.out _ _ (by first | assumption | exact isU_wrap _ | exact isU_bits _ _ _ | (unfold isU at *; omega)) D.rd).mono ?_; rintro _ w1 ⟨x, hx, rfl, d⟩; replace D := D.step hRG d; have hx0 := hx.1; have hx1 := hx.2; obtain ⟨yl, y0, y1, y2, g0, g1, g2⟩ := D.bx; go_wp2_with fail)
    | (go_at_call 45; refine (HL.out _ _ (by omega) (by omega)).mono ?_; rintro _ w1 ⟨x, hx, rfl, rfl⟩; have hx0 := hx.1; have hx1 := hx.2; go_wp2_with fail)
    | (go_at_call 71; refine (HP.out _ _).mono ?_; rintro _ w1 ⟨rfl, hb⟩; replace D := D.below hb; obtain ⟨yl, y0, y1, y2, g0, g1, g2⟩ := D.bx; go_wp2_with fail)
  all_goals first
    | exact bodyPost_ret (results_box Try.results42 rfl (D.bx.set3 _ _ _)) rfl (DrK.mk (by omega) (by first | assumption | exact isU_wrap _ | exact isU_bits _ _ _ | (unfold isU at *; omega)) (by first | assumption | exact isU_wrap _ | exact isU_bits _ _ _ | (unfold isU at *; omega)) (D.done hRG (Nat.le_refl _) _ _ _))
    | (go_at_call 41; refine (HN.out _ D.rd).mono ?_; rintro _ w1 ⟨c, c0, c1, rfl, d⟩; replace D := D.step hRG d; obtain ⟨yl, y0, y1, y2, g0, g1, g2⟩ := D.bx; go_wp2_with fail)
    | (go_at_call 72; refine (HA.out _ D.rd).mono ?_; rintro _ w1 ⟨x, hx, rfl, d⟩; replace D := D.step hRG d; have hx0 := hx.1; have hx1 := hx.2; obtain ⟨yl, y0, y1, y2, g0, g1, g2⟩ := D.bx; go_wp2_with fail)
    | (go_at_call 73; refine (HE.out _ _ (by first | assumption | exact isU_wrap _ | exact isU_bits _ _ _ | (unfold isU at *; omega)) D.rd).mono ?_; rintro _ w1 ⟨x, hx, rfl, d⟩; replace D := D.step hRG d; have hx0 := hx.1; have hx1 := hx.2; obtain ⟨yl, y0, y1, y2, g0, g1, g2⟩ := D.bx; go_wp2_with fail)
    | (go_at_call 45; refine (HL.out _ _ (by omega) (by omega)).mono ?_; rintro _ w1 ⟨x, hx, rfl, rfl⟩; have hx0 := hx.1; have hx1 := hx.2; go_wp2_with fail)
    | (go_at_call 71; refine (HP.out _ _).mono ?_; rintro _ w1 ⟨rfl, hb⟩; replace D := D.below hb; obtain ⟨yl, y0, y1, y2, g0, g1, g2⟩ := D.bx; go_wp2_with fail)
  all_goals first
    | exact bodyPost_ret (results_box Try.results42 rfl (D.bx.set3 _ _ _)) rfl (DrK.mk (by omega) (by first | assumption | exact isU_wrap _ | exact isU_bits _ _ _ | (unfold isU at *; omega)) (by first | assumption | exact isU_wrap _ | exact isU_bits _ _ _ | (unfold isU at *; omega)) (D.done hRG (Nat.le_refl _) _ _ _))
    | (go_at_call 41; refine (HN.out _ D.rd).mono ?_; rintro _ w1 ⟨c, c0, c1, rfl, d⟩; replace D := D.step hRG d; obtain ⟨yl, y0, y1, y2, g0, g1, g2⟩ := D.bx; go_wp2_with fail)
    | (go_at_call 72; refine (HA.out _ D.rd).mono ?_; rintro _ w1 ⟨x, hx, rfl, d⟩; replace D := D.step hRG d; have hx0 := hx.1; have hx1 := hx.2; obtain ⟨yl, y0, y1, y2, g0, g1, g2⟩ := D.bx; go_wp2_with fail)
    | (go_at_call 73; refine (HE.out _ _ (by first | assumption | exact isU_wrap _ | exact isU_bits _ _ _ | (unfold isU at *; omega)) D.rd).mono ?_; rintro _ w1 ⟨x, hx, rfl, d⟩; replace D := D.step hRG d; have hx0 := hx.1; have hx1 := hx.2; obtain ⟨yl, y0, y1, y2, g0, g1, g2⟩ := D.bx; go_wp2_with fail)
    | (go_at_call 45; refine (HL.out _ _ (by omega) (by omega)).mono ?_; rintro _ w1 ⟨x, hx, rfl, rfl⟩; have hx0 := hx.1; have hx1 := hx.2; go_wp2_with fail)
    | (go_at_call 71; refine (HP.out _ _).mono ?_; rintro _ w1 ⟨rfl, hb⟩; replace D := D.below hb; obtain ⟨yl, y0, y1, y2, g0, g1, g2⟩ := D.bx; go_wp2_with fail)
  all_goals first
    | exact bodyPost_ret (results_box Try.results42 rfl (D.bx.set3 _ _ _)) rfl (DrK.mk (by omega) (by first | assumption | exact isU_wrap _ | exact isU_bits _ _ _ | (unfold isU at *; omega)) (by first | assumption | exact isU_wrap _ | exact isU_bits _ _ _ | (unfold isU at *; omega)) (D.done hRG (Nat.le_refl _) _ _ _))
    | (go_at_call 41; refine (HN.out _ D.rd).mono ?_; rintro _ w1 ⟨c, c0, c1, rfl, d⟩; replace D := D.step hRG d; obtain ⟨yl, y0, y1, y2, g0, g1, g2⟩ := D.bx; go_wp2_with fail)
    | (go_at_call 72; refine (HA.out _ D.rd).mono ?_; rintro _ w1 ⟨x, hx, rfl, d⟩; replace D := D.step hRG d; have hx0 := hx.1; have hx1 := hx.2; obtain ⟨yl, y0, y1, y2, g0, g1, g2⟩ := D.bx; go_wp2_with fail)
    | (go_at_call 73; refine (HE.out _ _ (by first | assumption | exact isU_wrap _ | exact isU_bits _ _ _ | (unfold isU at *; omega)) D.rd).mono ?_; rintro _ w1 ⟨x, hx, rfl, d⟩; replace D := D.step hRG d; have hx0 := hx.1; have hx1 := hx.2; obtain ⟨yl, y0, y1, y2, g0, g1, g2⟩ := D.bx; go_wp2_with fail)
    | (go_at_call 45; refine (HL.out _ _ (by omega) (by omega)).mono ?_; rintro _ w1 ⟨x, hx, rfl, rfl⟩; have hx0 := hx.1; have hx1 := hx.2; go_wp2_with fail)
    | (go_at_call 71; refine (HP.out _ _).mono ?_; rintro _ w1 ⟨rfl, hb⟩; replace D := D.below hb; obtain ⟨yl, y0, y1, y2, g0, g1, g2⟩ := D.bx; go_wp2_with fail)

end Go.Proofs.Ytjkmcdgjhfiklaa
