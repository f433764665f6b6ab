/-
  DrawK, DrwA, DrwB, DrwC
-/
import Derived.Test.YtoamapdfcdefjaaGreatQ05
import Derived.Deep.AppendLies
import Derived.Deep.RegionLaw
import Derived.OneCell
namespace Go.Proofs.YtoamapdfcdefjaaGreat
open Go.RowKit
set_option linter.unusedVariables false

theorem BoxK.grown {w w1 : World} {g : Nat} {x y z : Value} {row : Option Nat} (h : BoxK w g x y z) (hg : w.grownBy w1 row) (hne : some g ≠ row) : BoxK w1 g x y z := by
  have e := hg.block g h.lt hne
  have ec : ∀ o, w1.cell? ⟨g, o, none⟩ = w.cell? ⟨g, o, none⟩ := fun o => World.cell?_of_block (w := w) e
  have ef : ∀ o, w1.frozen? ⟨g, o, none⟩ = w.frozen? ⟨g, o, none⟩ := fun o => by simp [World.frozen?, e]
  exact ⟨Nat.lt_of_lt_of_le h.lt hg.size, (ec 0).trans h.c0, (ec 1).trans h.c1, (ec 2).trans h.c2, (ef 0).trans h.f0, (ef 1).trans h.f1, (ef 2).trans h.f2⟩
theorem grown_set3 (w : World) (G : Nat) (x y z : Value) : w.grownBy (((w.setCell ⟨G, 0, none⟩ x).setCell ⟨G, 1, none⟩ y).setCell ⟨G, 2, none⟩ z) (some G) :=
  rb_set (rb_set (rb_set (World.grownBy.refl _ _) 0 x) 1 y) 2 z

theorem results_box {f : Func} {tmps : Array Value} {w : World} {G t : Nat} {x y z : Value} (hf : f.results = #[.cell t 41]) (ht : tmps[t]? = some (.pointer (some ⟨G, 0, none⟩))) (X : BoxK w G x y z) :
    (results f tmps).run Tryz.prog w = .ok (.agg #[x, y, z]) w := by
  obtain ⟨_, c0, c1, c2, _, _, _⟩ := X
  simp [results, hf, go_sem, ht, c0, c1, c2]

/-- in the midst of a drawing function that answers a condition in the box G -/
structure DrB (w : World) (R G : Nat) (w' : World) : Prop where
  rd : Rdr w' R
  gr : w.grownBy w' (some R)
  bx : BoxK w' G (.int .i64 0) (.int .u64 0) (.int .u64 0)
theorem DrB.step {w w1 w2 : World} {R G : Nat} (h : DrB w R G w1) (hR : R < G) (d : Dr w1 R w2) : DrB w R G w2 :=
  ⟨d.rd, rb_trans h.gr d.gr, h.bx.grown d.gr (by simp; omega)⟩
theorem DrB.below {w w1 w2 : World} {R G : Nat} (h : DrB w R G w1) (hb : Below w1.heap.size w1 w2) : DrB w R G w2 :=
  ⟨h.rd.below hb, rb_trans h.gr (rb_below hb), h.bx.keep hb⟩
theorem DrB.new {w : World} {R : Nat} (h : Rdr w R) : DrB w R w.heap.size (w.alloc (.cells #[.int .i64 0, .int .u64 0, .int .u64 0] 41)) :=
  ⟨h.below ((Below.refl _ _).alloc (Nat.le_refl _) _), rb_alloc (World.grownBy.refl _ _) _, BoxK.new w _ _ _ _⟩
theorem DrB.done {w w1 : World} {R G : Nat} (h : DrB w R G w1) (hR : R < G) (hG : w.heap.size ≤ G) (x y z : Value) : Dr w R (((w1.setCell ⟨G, 0, none⟩ x).setCell ⟨G, 1, none⟩ y).setCell ⟨G, 2, none⟩ z) :=
  ⟨h.rd.own (grown_set3 _ _ _ _ _) hR (fun k hk => by simp at hk; omega), rb_own h.gr (grown_set3 _ _ _ _ _) (fun k hk => by simp at hk; omega)⟩

def DrK (w : World) (R : Nat) (e : Ending) (w' : World) : Prop := ∃ k a b : Int, (-9223372036854775808 ≤ k ∧ k ≤ 9223372036854775807) ∧ isU a ∧ isU b ∧ e = .returned (.agg #[.int .i64 k, .int .u64 a, .int .u64 b]) ∧ Dr w R w'
theorem DrK.mk {w : World} {R : Nat} {k a b : Int} {w' : World} (hk : -9223372036854775808 ≤ k ∧ k ≤ 9223372036854775807) (ha : isU a) (hb : isU b) (hd : Dr w R w') : DrK w R (.returned (.agg #[.int .i64 k, .int .u64 a, .int .u64 b])) w' := ⟨k, a, b, hk, ha, hb, rfl, hd⟩

theorem low_dr (x : Int) (w : World) (h0 : 0 ≤ x) (h1 : x ≤ 64) : Calls Tryz.prog 39 #[.int .i64 x] w fun e w' => ∃ y : Int, isU y ∧ e = .returned (.int .u64 y) ∧ w' = w := by
  have e : x = ((x.toNat : Nat) : Int) := by omega
  rw [e]
  refine (l3low_any x.toNat w (by omega)).mono ?_
  rintro _ w' ⟨rfl, rfl⟩
  have := low_le (k := x.toNat) (by omega)
  exact ⟨_, ⟨by omega, by omega⟩, rfl, rfl⟩

set_option maxRecDepth 100000 in
set_option maxHeartbeats 2000000 in
theorem point_any (v : Int) (w : World) : Calls Tryz.prog 41 #[.int .u64 v] w fun e w' => e = .returned (.agg #[.int .i64 1, .int .u64 18446744073709551615, .int .u64 v]) ∧ Below w.heap.size w w' := by
  go_enter Tryz.func41, Tryz.ntmps41
  go_wp2
  refine bodyPost_ret (v := .agg #[.int .i64 1, .int .u64 18446744073709551615, .int .u64 v]) (by simp [results, Tryz.results41, go_sem]) rfl ⟨rfl, ?_⟩
  first
    | exact (Below.refl _ _).alloc (Nat.le_refl _) _
    | exact below_set3 ((Below.refl _ _).alloc (Nat.le_refl _) _) (Nat.le_refl _) _ _ _

set_option maxRecDepth 100000 in
set_option maxHeartbeats 4000000 in
theorem drawCon_dr (R : Nat) (w : World) (h : Rdr w R) : Calls Tryz.prog 73 #[.pointer (some ⟨R, 0, none⟩)] w (DrK w R) := by
  have HN : Hid (∀ w, Rdr w R → Calls Tryz.prog 13 #[.pointer (some ⟨R, 0, none⟩)] w fun e w' => ∃ c : Int, 0 ≤ c ∧ c ≤ 255 ∧ e = .returned (.int .i64 c) ∧ Dr w R w') := fun w h => next_dr R w h
  have HA : Hid (∀ w, Rdr w R → Calls Tryz.prog 26 #[.pointer (some ⟨R, 0, none⟩)] w (DrU w R)) := fun w h => arg_dr R w h
  have HE : Hid (∀ v w, isU v → Rdr w R → Calls Tryz.prog 27 #[.int .u64 v, .pointer (some ⟨R, 0, none⟩)] w (DrU w R)) := fun v w hv h => near_dr R v w hv h
  have HL : Hid (∀ x w, 0 ≤ x → x ≤ 64 → Calls Tryz.prog 39 #[.int .i64 x] w fun e w' => ∃ y : Int, isU y ∧ e = .returned (.int .u64 y) ∧ w' = w) := fun x w h0 h1 => low_dr x w h0 h1
  have HP : Hid (∀ v w, Calls Tryz.prog 41 #[.int .u64 v] w fun e w' => e = .returned (.agg #[.int .i64 1, .int .u64 18446744073709551615, .int .u64 v]) ∧ Below w.heap.size w w') := fun v w => point_any v w
  have hRG : R < w.heap.size := h.lt
  have D := DrB.new h
  clear h
  go_enter Tryz.func73, Tryz.ntmps73
  go_wp2_with fail
  all_goals first
    | exact bodyPost_ret (results_box Tryz.results73 rfl (D.bx.set3 _ _ _)) rfl (DrK.mk (by omega) (by first | assumption | exact isU_wrap _ | exact isU_bits _ _ _ | (unfold isU at *; omega)) (by first | assumption | exact isU_wrap _ | exact isU_bits _ _ _ | (unfold isU at *; omega)) (D.done hRG (Nat.le_refl _) _ _ _))
    | (go_at_call 13; refine (HN.out _ D.rd).mono ?_; rintro _ w1 ⟨c, c0, c1, rfl, d⟩; replace D := D.step hRG d; obtain ⟨yl, y0, y1, y2, g0, g1, g2⟩ := D.bx; go_wp2_with fail)
    | (go_at_call 26; refine (HA.out _ D.rd).mono ?_; rintro _ w1 ⟨x, hx, rfl, d⟩; replace D := D.step hRG d; have hx0 := hx.1; have hx1 := hx.2; obtain ⟨yl, y0, y1, y2, g0, g1, g2⟩ := D.bx; go_wp2_with fail)
    | (go_at_call 27; refine (HE.out _ _ (by first | assumption | exact isU_wrap _ | exact isU_bits _ _ _ | (unfold isU at *; omega)) D.rd).mono ?_; rintro _ w1 ⟨x, hx, rfl, d⟩; replace D := D.step hRG d; have hx0 := hx.1; have hx1 := hx.2; obtain ⟨yl, y0, y1, y2, g0, g1, g2⟩ := D.bx; go_wp2_with fail)
    | (go_at_call 39; refine (HL.out _ _ (by omega) (by omega)).mono ?_; rintro _ w1 ⟨x, hx, rfl, rfl⟩; have hx0 := hx.1; have hx1 := hx.2; go_wp2_with fail)
    | (go_at_call 41; refine (HP.out _ _).mono ?_; rintro _ w1 ⟨rfl, hb⟩; replace D := D.below hb; obtain ⟨yl, y0, y1, y2, g0, g1, g2⟩ := D.bx; go_wp2_with fail)
  all_goals first
    | exact bodyPost_ret (results_box Tryz.results73 rfl (D.bx.set3 _ _ _)) rfl (DrK.mk (by omega) (by first | assumption | exact isU_wrap _ | exact isU_bits _ _ _ | (unfold isU at *; omega)) (by first | assumption | exact isU_wrap _ | exact isU_bits _ _ _ | (unfold isU at *; omega)) (D.done hRG (Nat.le_refl _) _ _ _))
    | (go_at_call 13; refine (HN.out _ D.rd).mono ?_; rintro _ w1 ⟨c, c0, c1, rfl, d⟩; replace D := D.step hRG d; obtain ⟨yl, y0, y1, y2, g0, g1, g2⟩ := D.bx; go_wp2_with fail)
    | (go_at_call 26; refine (HA.out _ D.rd).mono ?_; rintro _ w1 ⟨x, hx, rfl, d⟩; replace D := D.step hRG d; have hx0 := hx.1; have hx1 := hx.2; obtain ⟨yl, y0, y1, y2, g0, g1, g2⟩ := D.bx; go_wp2_with fail)
    | (go_at_call 27; refine (HE.out _ _ (by first | assumption | exact isU_wrap _ | exact isU_bits _ _ _ | (unfold isU at *; omega)) D.rd).mono ?_; rintro _ w1 ⟨x, hx, rfl, d⟩; replace D := D.step hRG d; have hx0 := hx.1; have hx1 := hx.2; obtain ⟨yl, y0, y1, y2, g0, g1, g2⟩ := D.bx; go_wp2_with fail)
    | (go_at_call 39; refine (HL.out _ _ (by omega) (by omega)).mono ?_; rintro _ w1 ⟨x, hx, rfl, rfl⟩; have hx0 := hx.1; have hx1 := hx.2; go_wp2_with fail)
    | (go_at_call 41; refine (HP.out _ _).mono ?_; rintro _ w1 ⟨rfl, hb⟩; replace D := D.below hb; obtain ⟨yl, y0, y1, y2, g0, g1, g2⟩ := D.bx; go_wp2_with fail)
  all_goals first
    | exact bodyPost_ret (results_box Tryz.results73 rfl (D.bx.set3 _ _ _)) rfl (DrK.mk (by omega) (by first | assumption | exact isU_wrap _ | exact isU_bits _ _ _ | (unfold isU at *; omega)) (by first | assumption | exact isU_wrap _ | exact isU_bits _ _ _ | (unfold isU at *; omega)) (D.done hRG (Nat.le_refl _) _ _ _))
    | (go_at_call 13; refine (HN.out _ D.rd).mono ?_; rintro _ w1 ⟨c, c0, c1, rfl, d⟩; replace D := D.step hRG d; obtain ⟨yl, y0, y1, y2, g0, g1, g2⟩ := D.bx; go_wp2_with fail)
    | (go_at_call 26; refine (HA.out _ D.rd).mono ?_; rintro _ w1 ⟨x, hx, rfl, d⟩; replace D := D.step hRG d; have hx0 := hx.1; have hx1 := hx.2; obtain ⟨yl, y0, y1, y2, g0, g1, g2⟩ := D.bx; go_wp2_with fail)
    | (go_at_call 27; refine (HE.out _ _ (by first | assumption | exact isU_wrap _ | exact isU_bits _ _ _ | (unfold isU at *; omega)) D.rd).mono ?_; rintro _ w1 ⟨x, hx, rfl, d⟩; replace D := D.step hRG d; have hx0 := hx.1; have hx1 := hx.2; obtain ⟨yl, y0, y1, y2, g0, g1, g2⟩ := D.bx; go_wp2_with fail)
    | (go_at_call 39; refine (HL.out _ _ (by omega) (by omega)).mono ?_; rintro _ w1 ⟨x, hx, rfl, rfl⟩; have hx0 := hx.1; have hx1 := hx.2; go_wp2_with fail)
    | (go_at_call 41; refine (HP.out _ _).mono ?_; rintro _ w1 ⟨rfl, hb⟩; replace D := D.below hb; obtain ⟨yl, y0, y1, y2, g0, g1, g2⟩ := D.bx; go_wp2_with fail)
  all_goals first
    | exact bodyPost_ret (results_box Tryz.results73 rfl (D.bx.set3 _ _ _)) rfl (DrK.mk (by omega) (by first | assumption | exact isU_wrap _ | exact isU_bits _ _ _ | (unfold isU at *; omega)) (by first | assumption | exact isU_wrap _ | exact isU_bits _ _ _ | (unfold isU at *; omega)) (D.done hRG (Nat.le_refl _) _ _ _))
    | (go_at_call 13; refine (HN.out _ D.rd).mono ?_; rintro _ w1 ⟨c, c0, c1, rfl, d⟩; replace D := D.step hRG d; obtain ⟨yl, y0, y1, y2, g0, g1, g2⟩ := D.bx; go_wp2_with fail)
    | (go_at_call 26; refine (HA.out _ D.rd).mono ?_; rintro _ w1 ⟨x, hx, rfl, d⟩; replace D := D.step hRG d; have hx0 := hx.1; have hx1 := hx.2; obtain ⟨yl, y0, y1, y2, g0, g1, g2⟩ := D.bx; go_wp2_with fail)
    | (go_at_call 27; refine (HE.out _ _ (by first | assumption | exact isU_wrap _ | exact isU_bits _ _ _ | (unfold isU at *; omega)) D.rd).mono ?_; rintro _ w1 ⟨x, hx, rfl, d⟩; replace D := D.step hRG d; have hx0 := hx.1; have hx1 := hx.2; obtain ⟨yl, y0, y1, y2, g0, g1, g2⟩ := D.bx; go_wp2_with fail)
    | (go_at_call 39; refine (HL.out _ _ (by omega) (by omega)).mono ?_; rintro _ w1 ⟨x, hx, rfl, rfl⟩; have hx0 := hx.1; have hx1 := hx.2; go_wp2_with fail)
    | (go_at_call 41; refine (HP.out _ _).mono ?_; rintro _ w1 ⟨rfl, hb⟩; replace D := D.below hb; obtain ⟨yl, y0, y1, y2, g0, g1, g2⟩ := D.bx; go_wp2_with fail)
  all_goals first
    | exact bodyPost_ret (results_box Tryz.results73 rfl (D.bx.set3 _ _ _)) rfl (DrK.mk (by omega) (by first | assumption | exact isU_wrap _ | exact isU_bits _ _ _ | (unfold isU at *; omega)) (by first | assumption | exact isU_wrap _ | exact isU_bits _ _ _ | (unfold isU at *; omega)) (D.done hRG (Nat.le_refl _) _ _ _))
    | (go_at_call 13; refine (HN.out _ D.rd).mono ?_; rintro _ w1 ⟨c, c0, c1, rfl, d⟩; replace D := D.step hRG d; obtain ⟨yl, y0, y1, y2, g0, g1, g2⟩ := D.bx; go_wp2_with fail)
    | (go_at_call 26; refine (HA.out _ D.rd).mono ?_; rintro _ w1 ⟨x, hx, rfl, d⟩; replace D := D.step hRG d; have hx0 := hx.1; have hx1 := hx.2; obtain ⟨yl, y0, y1, y2, g0, g1, g2⟩ := D.bx; go_wp2_with fail)
    | (go_at_call 27; refine (HE.out _ _ (by first | assumption | exact isU_wrap _ | exact isU_bits _ _ _ | (unfold isU at *; omega)) D.rd).mono ?_; rintro _ w1 ⟨x, hx, rfl, d⟩; replace D := D.step hRG d; have hx0 := hx.1; have hx1 := hx.2; obtain ⟨yl, y0, y1, y2, g0, g1, g2⟩ := D.bx; go_wp2_with fail)
    | (go_at_call 39; refine (HL.out _ _ (by omega) (by omega)).mono ?_; rintro _ w1 ⟨x, hx, rfl, rfl⟩; have hx0 := hx.1; have hx1 := hx.2; go_wp2_with fail)
    | (go_at_call 41; refine (HP.out _ _).mono ?_; rintro _ w1 ⟨rfl, hb⟩; replace D := D.below hb; obtain ⟨yl, y0, y1, y2, g0, g1, g2⟩ := D.bx; go_wp2_with fail)
  all_goals first
    | exact bodyPost_ret (results_box Tryz.results73 rfl (D.bx.set3 _ _ _)) rfl (DrK.mk (by omega) (by first | assumption | exact isU_wrap _ | exact isU_bits _ _ _ | (unfold isU at *; omega)) (by first | assumption | exact isU_wrap _ | exact isU_bits _ _ _ | (unfold isU at *; omega)) (D.done hRG (Nat.le_refl _) _ _ _))
    | (go_at_call 13; refine (HN.out _ D.rd).mono ?_; rintro _ w1 ⟨c, c0, c1, rfl, d⟩; replace D := D.step hRG d; obtain ⟨yl, y0, y1, y2, g0, g1, g2⟩ := D.bx; go_wp2_with fail)
    | (go_at_call 26; refine (HA.out _ D.rd).mono ?_; rintro _ w1 ⟨x, hx, rfl, d⟩; replace D := D.step hRG d; have hx0 := hx.1; have hx1 := hx.2; obtain ⟨yl, y0, y1, y2, g0, g1, g2⟩ := D.bx; go_wp2_with fail)
    | (go_at_call 27; refine (HE.out _ _ (by first | assumption | exact isU_wrap _ | exact isU_bits _ _ _ | (unfold isU at *; omega)) D.rd).mono ?_; rintro _ w1 ⟨x, hx, rfl, d⟩; replace D := D.step hRG d; have hx0 := hx.1; have hx1 := hx.2; obtain ⟨yl, y0, y1, y2, g0, g1, g2⟩ := D.bx; go_wp2_with fail)
    | (go_at_call 39; refine (HL.out _ _ (by omega) (by omega)).mono ?_; rintro _ w1 ⟨x, hx, rfl, rfl⟩; have hx0 := hx.1; have hx1 := hx.2; go_wp2_with fail)
    | (go_at_call 41; refine (HP.out _ _).mono ?_; rintro _ w1 ⟨rfl, hb⟩; replace D := D.below hb; obtain ⟨yl, y0, y1, y2, g0, g1, g2⟩ := D.bx; go_wp2_with fail)

end Go.Proofs.YtoamapdfcdefjaaGreat
namespace Go.Proofs.YtoamapdfcdefjaaGreat
open Go.RowKit
set_option linter.unusedVariables false

/-- in the midst of a function that draws a condition; where the reader stands is known -/
structure DkS (w W : World) (R : Nat) (ad : Option Addr) (cap : Nat) (l : List Int) (j : Nat) : Prop where
  rd : Rd W R ad cap l j
  gr : w.grownBy W (some R)
  bx : BoxK W w.heap.size (.int .i64 0) (.int .u64 0) (.int .u64 0)
  lt : R < w.heap.size
section
variable {w W W1 : World} {R cap j j1 : Nat} {ad : Option Addr} {l : List Int}
theorem DkS.draw (h : DkS w W R ad cap l j) (hr : Rd W1 R ad cap l j1) (hg : W.grownBy W1 (some R)) : DkS w W1 R ad cap l j1 :=
  have h1 := h.lt
  ⟨hr, rb_trans h.gr hg, h.bx.grown hg (by simp; omega), h1⟩
theorem DkS.below (h : DkS w W R ad cap l j) (hb : Below W.heap.size W W1) : DkS w W1 R ad cap l j :=
  ⟨h.rd.below hb, rb_trans h.gr (rb_below hb), h.bx.keep hb, h.lt⟩
theorem DkS.new (h : Rd w R ad cap l j) : DkS w (w.alloc (.cells #[.int .i64 0, .int .u64 0, .int .u64 0] 41)) R ad cap l j :=
  ⟨h.alloc _, rb_alloc (World.grownBy.refl _ _) _, BoxK.new w _ _ _ _, h.lt⟩
theorem DkS.done (h : DkS w W R ad cap l j) (x y z : Value) : Rd (((W.setCell ⟨w.heap.size, 0, none⟩ x).setCell ⟨w.heap.size, 1, none⟩ y).setCell ⟨w.heap.size, 2, none⟩ z) R ad cap l j ∧ w.grownBy (((W.setCell ⟨w.heap.size, 0, none⟩ x).setCell ⟨w.heap.size, 1, none⟩ y).setCell ⟨w.heap.size, 2, none⟩ z) (some R) :=
  have h1 := h.lt
  ⟨h.rd.grown (grown_set3 _ _ _ _ _) h1 (fun k hk => by simp at hk; omega), rb_own h.gr (grown_set3 _ _ _ _ _) (fun k hk => by simp at hk; omega)⟩
end

/-- what a function answers that draws a condition -/
def KdP (f : Nat) (l : List Int) (j : Nat) (k a b : Int) (J : Nat) : Prop :=
  ∀ (R cap : Nat) (ad : Option Addr) (w : World), Rd w R ad cap l j → Calls Tryz.prog f #[.pointer (some ⟨R, 0, none⟩)] w fun e w' => e = .returned (.agg #[.int .i64 k, .int .u64 a, .int .u64 b]) ∧ Rd w' R ad cap l J ∧ w.grownBy w' (some R)
theorem KdP.ex {f : Nat} {l : List Int} {j : Nat} {k a b : Int} {J : Nat} (h : KdP f l j k a b J) (hf : (0 ≤ k ∧ k ≤ 2) ∧ isU a ∧ isU b) : ∃ k a b J, KdP f l j k a b J ∧ (0 ≤ k ∧ k ≤ 2) ∧ isU a ∧ isU b := ⟨k, a, b, J, h, hf⟩

set_option maxRecDepth 100000 in
set_option maxHeartbeats 4000000 in
theorem drawCon_det (l : List Int) (hl : isBytes l) (j : Nat) : ∃ k a b J, KdP 73 l j k a b J ∧ (0 ≤ k ∧ k ≤ 2) ∧ isU a ∧ isU b := by
  have hx0 := isBytes_getD hl j
  have HN : Hid (∀ t R ad cap W, Rd W R ad cap l t → Calls Tryz.prog 13 #[.pointer (some ⟨R, 0, none⟩)] W fun e w' => e = .returned (.int .i64 (l.getD t 0)) ∧ Rd w' R ad cap l (t + 1) ∧ W.grownBy w' (some R)) := fun t R ad cap W h => next_any R cap ad l t W h
  have HN0 : Hid (∀ R ad cap W, Rd W R ad cap l j → Calls Tryz.prog 13 #[.pointer (some ⟨R, 0, none⟩)] W fun e w' => e = .returned (.int .i64 (l.getD j 0)) ∧ Rd w' R ad cap l (j + 1) ∧ W.grownBy w' (some R)) := HN.out j
  have HA : Hid (∀ t R ad cap W, Rd W R ad cap l t → Calls Tryz.prog 26 #[.pointer (some ⟨R, 0, none⟩)] W fun e w' => e = .returned (.int .u64 (argV l t)) ∧ Rd w' R ad cap l (argJ l t) ∧ W.grownBy w' (some R)) := fun t R ad cap W h => arg_any R cap ad l t W h
  have HE : Hid (∀ v t R ad cap W, isU v → Rd W R ad cap l t → Calls Tryz.prog 27 #[.int .u64 v, .pointer (some ⟨R, 0, none⟩)] W fun e w' => e = .returned (.int .u64 (nearV v l t)) ∧ Rd w' R ad cap l (nearJ l t) ∧ W.grownBy w' (some R)) := fun v t R ad cap W hv h => near_any v R cap ad l t W hv h
  have HP : Hid (∀ v w, Calls Tryz.prog 41 #[.int .u64 v] w fun e w' => e = .returned (.agg #[.int .i64 1, .int .u64 18446744073709551615, .int .u64 v]) ∧ Below w.heap.size w w') := fun v w => point_any v w
  have HaU : Hid (∀ t, isU (argV l t)) := argV_isU l hl
  have HnU : Hid (∀ v t, isU v → isU (nearV v l t)) := fun v t hv => nearV_isU hv l hl t
  have HB : Hid (∀ t, 0 ≤ l.getD t 0 ∧ l.getD t 0 ≤ 255) := isBytes_getD hl
  generalize l.getD j 0 = x0 at *
  by_cases c1 : x0 % 16 < 3
  · apply KdP.ex
    · intro R cap ad w hR
      have D := DkS.new hR
      go_enter Tryz.func73, Tryz.ntmps73
      go_wp2_with fail
      refine (HN0.out _ _ _ _ D.rd).mono ?_
      rintro _ w1 ⟨rfl, r1, g1⟩
      have D1 := D.draw r1 g1
      obtain ⟨yl, y0, y1, y2, f0, f1, f2⟩ := D1.bx
      go_wp2_with fail
      exact bodyPost_ret (results_box Tryz.results73 rfl (D1.bx.set3 _ _ _)) rfl ⟨rfl, D1.done _ _ _⟩
    · unfold isU; omega
  rw [Int.not_lt] at c1
  by_cases c2 : x0 % 16 < 7
  · skip
    obtain ⟨y1v, hy1v⟩ : ∃ z, l.getD (j + 1) 0 = z := ⟨_, rfl⟩
    have by1v := HB.out (j + 1)
    have N1o := HN.out (j + 1)
    rw [hy1v] at N1o by1v
    obtain ⟨by1v0, by1v1⟩ := by1v
    have N1 : Hid (∀ R ad cap W, Rd W R ad cap l (j + 1) → Calls Tryz.prog 13 #[.pointer (some ⟨R, 0, none⟩)] W fun e w' => e = .returned (.int .i64 y1v) ∧ Rd w' R ad cap l ((j + 1) + 1) ∧ W.grownBy w' (some R)) := N1o
    clear N1o hy1v
    clear HN HA HE HB HaU HnU hl
    apply KdP.ex
    · intro R cap ad w hR
      have D := DkS.new hR
      go_enter Tryz.func73, Tryz.ntmps73
      go_wp2_with fail
      refine (HN0.out _ _ _ _ D.rd).mono ?_
      rintro _ w1 ⟨rfl, r1, g1⟩
      have D1 := D.draw r1 g1
      obtain ⟨yl, y0, y1, y2, f0, f1, f2⟩ := D1.bx
      go_wp2_with fail
      refine (N1.out _ _ _ _ D1.rd).mono ?_
      rintro _ w2 ⟨rfl, r2, g2⟩
      have D2 := D1.draw r2 g2
      obtain ⟨yl, y0, y1, y2, f0, f1, f2⟩ := D2.bx
      go_wp2_with fail
      refine (HP.out _ _).mono ?_
      rintro _ w3 ⟨rfl, b3⟩
      have D3 := D2.below b3
      obtain ⟨yl, y0, y1, y2, f0, f1, f2⟩ := D3.bx
      go_wp2_with fail
      exact bodyPost_ret (results_box Tryz.results73 rfl (D3.bx.set3 _ _ _)) rfl ⟨rfl, D3.done _ _ _⟩
    · exact ⟨by omega, by first | assumption | exact isU_bits _ _ _ | exact isU_wrap _ | (unfold isU; omega), by first | assumption | exact isU_bits _ _ _ | exact isU_wrap _ | (unfold isU; omega)⟩
  rw [Int.not_lt] at c2
  by_cases c3 : x0 % 16 = 7
  · skip
    obtain ⟨a1v, ha1v⟩ : ∃ z, argV l (j + 1) = z := ⟨_, rfl⟩
    obtain ⟨J1, hJ1⟩ : ∃ z, argJ l (j + 1) = z := ⟨_, rfl⟩
    have ua1v := HaU.out (j + 1)
    have N1o := HA.out (j + 1)
    rw [ha1v, hJ1] at N1o
    rw [ha1v] at ua1v
    have N1 : Hid (∀ R ad cap W, Rd W R ad cap l (j + 1) → Calls Tryz.prog 26 #[.pointer (some ⟨R, 0, none⟩)] W fun e w' => e = .returned (.int .u64 a1v) ∧ Rd w' R ad cap l J1 ∧ W.grownBy w' (some R)) := N1o
    have va1v := ua1v
    obtain ⟨ua1v0, ua1v1⟩ := va1v
    clear N1o ha1v hJ1
    clear HN HA HE HB HaU HnU hl
    apply KdP.ex
    · intro R cap ad w hR
      have D := DkS.new hR
      go_enter Tryz.func73, Tryz.ntmps73
      go_wp2_with fail
      refine (HN0.out _ _ _ _ D.rd).mono ?_
      rintro _ w1 ⟨rfl, r1, g1⟩
      have D1 := D.draw r1 g1
      obtain ⟨yl, y0, y1, y2, f0, f1, f2⟩ := D1.bx
      go_wp2_with fail
      refine (N1.out _ _ _ _ D1.rd).mono ?_
      rintro _ w2 ⟨rfl, r2, g2⟩
      have D2 := D1.draw r2 g2
      obtain ⟨yl, y0, y1, y2, f0, f1, f2⟩ := D2.bx
      go_wp2_with fail
      refine (HP.out _ _).mono ?_
      rintro _ w3 ⟨rfl, b3⟩
      have D3 := D2.below b3
      obtain ⟨yl, y0, y1, y2, f0, f1, f2⟩ := D3.bx
      go_wp2_with fail
      exact bodyPost_ret (results_box Tryz.results73 rfl (D3.bx.set3 _ _ _)) rfl ⟨rfl, D3.done _ _ _⟩
    · exact ⟨by omega, by first | assumption | exact isU_bits _ _ _ | exact isU_wrap _ | (unfold isU; omega), by first | assumption | exact isU_bits _ _ _ | exact isU_wrap _ | (unfold isU; omega)⟩
  by_cases c4 : x0 % 16 = 8
  · skip
    obtain ⟨y1v, hy1v⟩ : ∃ z, l.getD (j + 1) 0 = z := ⟨_, rfl⟩
    have by1v := HB.out (j + 1)
    have N1o := HN.out (j + 1)
    rw [hy1v] at N1o by1v
    obtain ⟨by1v0, by1v1⟩ := by1v
    have N1 : Hid (∀ R ad cap W, Rd W R ad cap l (j + 1) → Calls Tryz.prog 13 #[.pointer (some ⟨R, 0, none⟩)] W fun e w' => e = .returned (.int .i64 y1v) ∧ Rd w' R ad cap l ((j + 1) + 1) ∧ W.grownBy w' (some R)) := N1o
    clear N1o hy1v
    obtain ⟨q, hq⟩ : ∃ q : Nat, y1v % 5 = (q : Int) := ⟨(y1v % 5).toNat, by omega⟩
    have hq4 : q ≤ 4 := by omega
    have HL : Hid (∀ w, Calls Tryz.prog 39 #[.int .i64 (y1v % 5)] w fun e w' => e = .returned (.int .u64 (low q : Nat)) ∧ w' = w) := fun w => by rw [hq]; exact l3low_any q w (by omega)
    have hlo := low_le (k := q) (by omega)
    clear hq
    generalize low q = lq at *
    obtain ⟨a2v, ha2v⟩ : ∃ z, argV l ((j + 1) + 1) = z := ⟨_, rfl⟩
    obtain ⟨J2, hJ2⟩ : ∃ z, argJ l ((j + 1) + 1) = z := ⟨_, rfl⟩
    have ua2v := HaU.out ((j + 1) + 1)
    have N2o := HA.out ((j + 1) + 1)
    rw [ha2v, hJ2] at N2o
    rw [ha2v] at ua2v
    have N2 : Hid (∀ R ad cap W, Rd W R ad cap l ((j + 1) + 1) → Calls Tryz.prog 26 #[.pointer (some ⟨R, 0, none⟩)] W fun e w' => e = .returned (.int .u64 a2v) ∧ Rd w' R ad cap l J2 ∧ W.grownBy w' (some R)) := N2o
    have va2v := ua2v
    obtain ⟨ua2v0, ua2v1⟩ := va2v
    clear N2o ha2v hJ2
    clear HN HA HE HB HaU HnU hl
    apply KdP.ex
    · intro R cap ad w hR
      have D := DkS.new hR
      go_enter Tryz.func73, Tryz.ntmps73
      go_wp2_with fail
      refine (HN0.out _ _ _ _ D.rd).mono ?_
      rintro _ w1 ⟨rfl, r1, g1⟩
      have D1 := D.draw r1 g1
      obtain ⟨yl, y0, y1, y2, f0, f1, f2⟩ := D1.bx
      go_wp2_with fail
      refine (N1.out _ _ _ _ D1.rd).mono ?_
      rintro _ w2 ⟨rfl, r2, g2⟩
      have D2 := D1.draw r2 g2
      obtain ⟨yl, y0, y1, y2, f0, f1, f2⟩ := D2.bx
      go_wp2_with fail
      refine (HL.out _).mono ?_
      rintro _ w3x ⟨rfl, rfl⟩
      go_wp2_with fail
      refine (N2.out _ _ _ _ D2.rd).mono ?_
      rintro _ w3 ⟨rfl, r3, g3⟩
      have D3 := D2.draw r3 g3
      obtain ⟨yl, y0, y1, y2, f0, f1, f2⟩ := D3.bx
      go_wp2_with fail
      exact bodyPost_ret (results_box Tryz.results73 rfl (D3.bx.set3 _ _ _)) rfl ⟨rfl, D3.done _ _ _⟩
    · exact ⟨by omega, by first | assumption | exact isU_bits _ _ _ | exact isU_wrap _ | (unfold isU; omega), by first | assumption | exact isU_bits _ _ _ | exact isU_wrap _ | (unfold isU; omega)⟩
  by_cases c5 : x0 % 16 = 9
  · skip
    obtain ⟨y1v, hy1v⟩ : ∃ z, l.getD (j + 1) 0 = z := ⟨_, rfl⟩
    have by1v := HB.out (j + 1)
    have N1o := HN.out (j + 1)
    rw [hy1v] at N1o by1v
    obtain ⟨by1v0, by1v1⟩ := by1v
    have N1 : Hid (∀ R ad cap W, Rd W R ad cap l (j + 1) → Calls Tryz.prog 13 #[.pointer (some ⟨R, 0, none⟩)] W fun e w' => e = .returned (.int .i64 y1v) ∧ Rd w' R ad cap l ((j + 1) + 1) ∧ W.grownBy w' (some R)) := N1o
    clear N1o hy1v
    obtain ⟨q, hq⟩ : ∃ q : Nat, y1v % 5 = (q : Int) := ⟨(y1v % 5).toNat, by omega⟩
    have hq4 : q ≤ 4 := by omega
    have HL : Hid (∀ w, Calls Tryz.prog 39 #[.int .i64 (y1v % 5)] w fun e w' => e = .returned (.int .u64 (low q : Nat)) ∧ w' = w) := fun w => by rw [hq]; exact l3low_any q w (by omega)
    have hlo := low_le (k := q) (by omega)
    clear hq
    generalize low q = lq at *
    obtain ⟨y2v, hy2v⟩ : ∃ z, l.getD ((j + 1) + 1) 0 = z := ⟨_, rfl⟩
    have by2v := HB.out ((j + 1) + 1)
    have N2o := HN.out ((j + 1) + 1)
    rw [hy2v] at N2o by2v
    obtain ⟨by2v0, by2v1⟩ := by2v
    have N2 : Hid (∀ R ad cap W, Rd W R ad cap l ((j + 1) + 1) → Calls Tryz.prog 13 #[.pointer (some ⟨R, 0, none⟩)] W fun e w' => e = .returned (.int .i64 y2v) ∧ Rd w' R ad cap l (((j + 1) + 1) + 1) ∧ W.grownBy w' (some R)) := N2o
    clear N2o hy2v
    obtain ⟨a3v, ha3v⟩ : ∃ z, argV l (((j + 1) + 1) + 1) = z := ⟨_, rfl⟩
    obtain ⟨J3, hJ3⟩ : ∃ z, argJ l (((j + 1) + 1) + 1) = z := ⟨_, rfl⟩
    have ua3v := HaU.out (((j + 1) + 1) + 1)
    have N3o := HA.out (((j + 1) + 1) + 1)
    rw [ha3v, hJ3] at N3o
    rw [ha3v] at ua3v
    have N3 : Hid (∀ R ad cap W, Rd W R ad cap l (((j + 1) + 1) + 1) → Calls Tryz.prog 26 #[.pointer (some ⟨R, 0, none⟩)] W fun e w' => e = .returned (.int .u64 a3v) ∧ Rd w' R ad cap l J3 ∧ W.grownBy w' (some R)) := N3o
    have va3v := ua3v
    obtain ⟨ua3v0, ua3v1⟩ := va3v
    clear N3o ha3v hJ3
    clear HN HA HE HB HaU HnU hl
    apply KdP.ex
    · intro R cap ad w hR
      have D := DkS.new hR
      go_enter Tryz.func73, Tryz.ntmps73
      go_wp2_with fail
      refine (HN0.out _ _ _ _ D.rd).mono ?_
      rintro _ w1 ⟨rfl, r1, g1⟩
      have D1 := D.draw r1 g1
      obtain ⟨yl, y0, y1, y2, f0, f1, f2⟩ := D1.bx
      go_wp2_with fail
      refine (N1.out _ _ _ _ D1.rd).mono ?_
      rintro _ w2 ⟨rfl, r2, g2⟩
      have D2 := D1.draw r2 g2
      obtain ⟨yl, y0, y1, y2, f0, f1, f2⟩ := D2.bx
      go_wp2_with fail
      refine (HL.out _).mono ?_
      rintro _ w3x ⟨rfl, rfl⟩
      go_wp2_with fail
      refine (N2.out _ _ _ _ D2.rd).mono ?_
      rintro _ w3 ⟨rfl, r3, g3⟩
      have D3 := D2.draw r3 g3
      obtain ⟨yl, y0, y1, y2, f0, f1, f2⟩ := D3.bx
      go_wp2_with fail
      refine (N3.out _ _ _ _ D3.rd).mono ?_
      rintro _ w4 ⟨rfl, r4, g4⟩
      have D4 := D3.draw r4 g4
      obtain ⟨yl, y0, y1, y2, f0, f1, f2⟩ := D4.bx
      go_wp2_with fail
      exact bodyPost_ret (results_box Tryz.results73 rfl (D4.bx.set3 _ _ _)) rfl ⟨rfl, D4.done _ _ _⟩
    · exact ⟨by omega, by first | assumption | exact isU_bits _ _ _ | exact isU_wrap _ | (unfold isU; omega), by first | assumption | exact isU_bits _ _ _ | exact isU_wrap _ | (unfold isU; omega)⟩
  by_cases c6 : x0 % 16 = 10
  · skip
    obtain ⟨a1v, ha1v⟩ : ∃ z, argV l (j + 1) = z := ⟨_, rfl⟩
    obtain ⟨J1, hJ1⟩ : ∃ z, argJ l (j + 1) = z := ⟨_, rfl⟩
    have ua1v := HaU.out (j + 1)
    have N1o := HA.out (j + 1)
    rw [ha1v, hJ1] at N1o
    rw [ha1v] at ua1v
    have N1 : Hid (∀ R ad cap W, Rd W R ad cap l (j + 1) → Calls Tryz.prog 26 #[.pointer (some ⟨R, 0, none⟩)] W fun e w' => e = .returned (.int .u64 a1v) ∧ Rd w' R ad cap l J1 ∧ W.grownBy w' (some R)) := N1o
    have va1v := ua1v
    obtain ⟨ua1v0, ua1v1⟩ := va1v
    clear N1o ha1v hJ1
    obtain ⟨a2v, ha2v⟩ : ∃ z, argV l J1 = z := ⟨_, rfl⟩
    obtain ⟨J2, hJ2⟩ : ∃ z, argJ l J1 = z := ⟨_, rfl⟩
    have ua2v := HaU.out J1
    have N2o := HA.out J1
    rw [ha2v, hJ2] at N2o
    rw [ha2v] at ua2v
    have N2 : Hid (∀ R ad cap W, Rd W R ad cap l J1 → Calls Tryz.prog 26 #[.pointer (some ⟨R, 0, none⟩)] W fun e w' => e = .returned (.int .u64 a2v) ∧ Rd w' R ad cap l J2 ∧ W.grownBy w' (some R)) := N2o
    have va2v := ua2v
    obtain ⟨ua2v0, ua2v1⟩ := va2v
    clear N2o ha2v hJ2
    clear HN HA HE HB HaU HnU hl
    apply KdP.ex
    · intro R cap ad w hR
      have D := DkS.new hR
      go_enter Tryz.func73, Tryz.ntmps73
      go_wp2_with fail
      refine (HN0.out _ _ _ _ D.rd).mono ?_
      rintro _ w1 ⟨rfl, r1, g1⟩
      have D1 := D.draw r1 g1
      obtain ⟨yl, y0, y1, y2, f0, f1, f2⟩ := D1.bx
      go_wp2_with fail
      refine (N1.out _ _ _ _ D1.rd).mono ?_
      rintro _ w2 ⟨rfl, r2, g2⟩
      have D2 := D1.draw r2 g2
      obtain ⟨yl, y0, y1, y2, f0, f1, f2⟩ := D2.bx
      go_wp2_with fail
      refine (N2.out _ _ _ _ D2.rd).mono ?_
      rintro _ w3 ⟨rfl, r3, g3⟩
      have D3 := D2.draw r3 g3
      obtain ⟨yl, y0, y1, y2, f0, f1, f2⟩ := D3.bx
      go_wp2_with fail
      exact bodyPost_ret (results_box Tryz.results73 rfl (D3.bx.set3 _ _ _)) rfl ⟨rfl, D3.done _ _ _⟩
    · exact ⟨by omega, by first | assumption | exact isU_bits _ _ _ | exact isU_wrap _ | (unfold isU; omega), by first | assumption | exact isU_bits _ _ _ | exact isU_wrap _ | (unfold isU; omega)⟩
  by_cases c7 : x0 % 16 < 14
  · skip
    obtain ⟨y1v, hy1v⟩ : ∃ z, l.getD (j + 1) 0 = z := ⟨_, rfl⟩
    have by1v := HB.out (j + 1)
    have N1o := HN.out (j + 1)
    rw [hy1v] at N1o by1v
    obtain ⟨by1v0, by1v1⟩ := by1v
    have N1 : Hid (∀ R ad cap W, Rd W R ad cap l (j + 1) → Calls Tryz.prog 13 #[.pointer (some ⟨R, 0, none⟩)] W fun e w' => e = .returned (.int .i64 y1v) ∧ Rd w' R ad cap l ((j + 1) + 1) ∧ W.grownBy w' (some R)) := N1o
    clear N1o hy1v
    obtain ⟨y2v, hy2v⟩ : ∃ z, l.getD ((j + 1) + 1) 0 = z := ⟨_, rfl⟩
    have by2v := HB.out ((j + 1) + 1)
    have N2o := HN.out ((j + 1) + 1)
    rw [hy2v] at N2o by2v
    obtain ⟨by2v0, by2v1⟩ := by2v
    have N2 : Hid (∀ R ad cap W, Rd W R ad cap l ((j + 1) + 1) → Calls Tryz.prog 13 #[.pointer (some ⟨R, 0, none⟩)] W fun e w' => e = .returned (.int .i64 y2v) ∧ Rd w' R ad cap l (((j + 1) + 1) + 1) ∧ W.grownBy w' (some R)) := N2o
    clear N2o hy2v
    clear HN HA HE HB HaU HnU hl
    apply KdP.ex
    · intro R cap ad w hR
      have D := DkS.new hR
      go_enter Tryz.func73, Tryz.ntmps73
      go_wp2_with fail
      refine (HN0.out _ _ _ _ D.rd).mono ?_
      rintro _ w1 ⟨rfl, r1, g1⟩
      have D1 := D.draw r1 g1
      obtain ⟨yl, y0, y1, y2, f0, f1, f2⟩ := D1.bx
      go_wp2_with fail
      refine (N1.out _ _ _ _ D1.rd).mono ?_
      rintro _ w2 ⟨rfl, r2, g2⟩
      have D2 := D1.draw r2 g2
      obtain ⟨yl, y0, y1, y2, f0, f1, f2⟩ := D2.bx
      go_wp2_with fail
      refine (N2.out _ _ _ _ D2.rd).mono ?_
      rintro _ w3 ⟨rfl, r3, g3⟩
      have D3 := D2.draw r3 g3
      obtain ⟨yl, y0, y1, y2, f0, f1, f2⟩ := D3.bx
      go_wp2_with fail
      exact bodyPost_ret (results_box Tryz.results73 rfl (D3.bx.set3 _ _ _)) rfl ⟨rfl, D3.done _ _ _⟩
    · exact ⟨by omega, by first | assumption | exact isU_bits _ _ _ | exact isU_wrap _ | (unfold isU; omega), by first | assumption | exact isU_bits _ _ _ | exact isU_wrap _ | (unfold isU; omega)⟩
  rw [Int.not_lt] at c7
  by_cases c8 : x0 % 16 = 14
  · skip
    obtain ⟨a1v, ha1v⟩ : ∃ z, argV l (j + 1) = z := ⟨_, rfl⟩
    obtain ⟨J1, hJ1⟩ : ∃ z, argJ l (j + 1) = z := ⟨_, rfl⟩
    have ua1v := HaU.out (j + 1)
    have N1o := HA.out (j + 1)
    rw [ha1v, hJ1] at N1o
    rw [ha1v] at ua1v
    have N1 : Hid (∀ R ad cap W, Rd W R ad cap l (j + 1) → Calls Tryz.prog 26 #[.pointer (some ⟨R, 0, none⟩)] W fun e w' => e = .returned (.int .u64 a1v) ∧ Rd w' R ad cap l J1 ∧ W.grownBy w' (some R)) := N1o
    have va1v := ua1v
    obtain ⟨ua1v0, ua1v1⟩ := va1v
    clear N1o ha1v hJ1
    obtain ⟨a2v, ha2v⟩ : ∃ z, nearV a1v l J1 = z := ⟨_, rfl⟩
    obtain ⟨J2, hJ2⟩ : ∃ z, nearJ l J1 = z := ⟨_, rfl⟩
    have ua2v := HnU.out a1v J1 ua1v
    have N2o := fun R ad cap W h => HE.out a1v J1 R ad cap W ua1v h
    rw [ha2v, hJ2] at N2o
    rw [ha2v] at ua2v
    have N2 : Hid (∀ R ad cap W, Rd W R ad cap l J1 → Calls Tryz.prog 27 #[.int .u64 a1v, .pointer (some ⟨R, 0, none⟩)] W fun e w' => e = .returned (.int .u64 a2v) ∧ Rd w' R ad cap l J2 ∧ W.grownBy w' (some R)) := N2o
    have va2v := ua2v
    obtain ⟨ua2v0, ua2v1⟩ := va2v
    clear N2o ha2v hJ2
    by_cases hlt : a2v < a1v
    · skip
      clear HN HA HE HB HaU HnU hl
      apply KdP.ex
      · intro R cap ad w hR
        have D := DkS.new hR
        go_enter Tryz.func73, Tryz.ntmps73
        go_wp2_with fail
        refine (HN0.out _ _ _ _ D.rd).mono ?_
        rintro _ w1 ⟨rfl, r1, g1⟩
        have D1 := D.draw r1 g1
        obtain ⟨yl, y0, y1, y2, f0, f1, f2⟩ := D1.bx
        go_wp2_with fail
        refine (N1.out _ _ _ _ D1.rd).mono ?_
        rintro _ w2 ⟨rfl, r2, g2⟩
        have D2 := D1.draw r2 g2
        obtain ⟨yl, y0, y1, y2, f0, f1, f2⟩ := D2.bx
        go_wp2_with fail
        refine (N2.out _ _ _ _ D2.rd).mono ?_
        rintro _ w3 ⟨rfl, r3, g3⟩
        have D3 := D2.draw r3 g3
        obtain ⟨yl, y0, y1, y2, f0, f1, f2⟩ := D3.bx
        go_wp2_with fail
        exact bodyPost_ret (results_box Tryz.results73 rfl (D3.bx.set3 _ _ _)) rfl ⟨rfl, D3.done _ _ _⟩
      · exact ⟨by omega, by first | assumption | exact isU_bits _ _ _ | exact isU_wrap _ | (unfold isU; omega), by first | assumption | exact isU_bits _ _ _ | exact isU_wrap _ | (unfold isU; omega)⟩
    · rw [Int.not_lt] at hlt
      clear HN HA HE HB HaU HnU hl
      apply KdP.ex
      · intro R cap ad w hR
        have D := DkS.new hR
        go_enter Tryz.func73, Tryz.ntmps73
        go_wp2_with fail
        refine (HN0.out _ _ _ _ D.rd).mono ?_
        rintro _ w1 ⟨rfl, r1, g1⟩
        have D1 := D.draw r1 g1
        obtain ⟨yl, y0, y1, y2, f0, f1, f2⟩ := D1.bx
        go_wp2_with fail
        refine (N1.out _ _ _ _ D1.rd).mono ?_
        rintro _ w2 ⟨rfl, r2, g2⟩
        have D2 := D1.draw r2 g2
        obtain ⟨yl, y0, y1, y2, f0, f1, f2⟩ := D2.bx
        go_wp2_with fail
        refine (N2.out _ _ _ _ D2.rd).mono ?_
        rintro _ w3 ⟨rfl, r3, g3⟩
        have D3 := D2.draw r3 g3
        obtain ⟨yl, y0, y1, y2, f0, f1, f2⟩ := D3.bx
        go_wp2_with fail
        exact bodyPost_ret (results_box Tryz.results73 rfl (D3.bx.set3 _ _ _)) rfl ⟨rfl, D3.done _ _ _⟩
      · exact ⟨by omega, by first | assumption | exact isU_bits _ _ _ | exact isU_wrap _ | (unfold isU; omega), by first | assumption | exact isU_bits _ _ _ | exact isU_wrap _ | (unfold isU; omega)⟩
  have c9 : x0 % 16 = 15 := by omega
  obtain ⟨a1v, ha1v⟩ : ∃ z, argV l (j + 1) = z := ⟨_, rfl⟩
  obtain ⟨J1, hJ1⟩ : ∃ z, argJ l (j + 1) = z := ⟨_, rfl⟩
  have ua1v := HaU.out (j + 1)
  have N1o := HA.out (j + 1)
  rw [ha1v, hJ1] at N1o
  rw [ha1v] at ua1v
  have N1 : Hid (∀ R ad cap W, Rd W R ad cap l (j + 1) → Calls Tryz.prog 26 #[.pointer (some ⟨R, 0, none⟩)] W fun e w' => e = .returned (.int .u64 a1v) ∧ Rd w' R ad cap l J1 ∧ W.grownBy w' (some R)) := N1o
  have va1v := ua1v
  obtain ⟨ua1v0, ua1v1⟩ := va1v
  clear N1o ha1v hJ1
  obtain ⟨a2v, ha2v⟩ : ∃ z, nearV a1v l J1 = z := ⟨_, rfl⟩
  obtain ⟨J2, hJ2⟩ : ∃ z, nearJ l J1 = z := ⟨_, rfl⟩
  have ua2v := HnU.out a1v J1 ua1v
  have N2o := fun R ad cap W h => HE.out a1v J1 R ad cap W ua1v h
  rw [ha2v, hJ2] at N2o
  rw [ha2v] at ua2v
  have N2 : Hid (∀ R ad cap W, Rd W R ad cap l J1 → Calls Tryz.prog 27 #[.int .u64 a1v, .pointer (some ⟨R, 0, none⟩)] W fun e w' => e = .returned (.int .u64 a2v) ∧ Rd w' R ad cap l J2 ∧ W.grownBy w' (some R)) := N2o
  have va2v := ua2v
  obtain ⟨ua2v0, ua2v1⟩ := va2v
  clear N2o ha2v hJ2
  obtain ⟨a3v, ha3v⟩ : ∃ z, argV l J2 = z := ⟨_, rfl⟩
  obtain ⟨J3, hJ3⟩ : ∃ z, argJ l J2 = z := ⟨_, rfl⟩
  have ua3v := HaU.out J2
  have N3o := HA.out J2
  rw [ha3v, hJ3] at N3o
  rw [ha3v] at ua3v
  have N3 : Hid (∀ R ad cap W, Rd W R ad cap l J2 → Calls Tryz.prog 26 #[.pointer (some ⟨R, 0, none⟩)] W fun e w' => e = .returned (.int .u64 a3v) ∧ Rd w' R ad cap l J3 ∧ W.grownBy w' (some R)) := N3o
  have va3v := ua3v
  obtain ⟨ua3v0, ua3v1⟩ := va3v
  clear N3o ha3v hJ3
  by_cases hlt : a3v < a1v
  · skip
    clear HN HA HE HB HaU HnU hl
    apply KdP.ex
    · intro R cap ad w hR
      have D := DkS.new hR
      go_enter Tryz.func73, Tryz.ntmps73
      go_wp2_with fail
      refine (HN0.out _ _ _ _ D.rd).mono ?_
      rintro _ w1 ⟨rfl, r1, g1⟩
      have D1 := D.draw r1 g1
      obtain ⟨yl, y0, y1, y2, f0, f1, f2⟩ := D1.bx
      go_wp2_with fail
      refine (N1.out _ _ _ _ D1.rd).mono ?_
      rintro _ w2 ⟨rfl, r2, g2⟩
      have D2 := D1.draw r2 g2
      obtain ⟨yl, y0, y1, y2, f0, f1, f2⟩ := D2.bx
      go_wp2_with fail
      refine (N2.out _ _ _ _ D2.rd).mono ?_
      rintro _ w3 ⟨rfl, r3, g3⟩
      have D3 := D2.draw r3 g3
      obtain ⟨yl, y0, y1, y2, f0, f1, f2⟩ := D3.bx
      go_wp2_with fail
      refine (N3.out _ _ _ _ D3.rd).mono ?_
      rintro _ w4 ⟨rfl, r4, g4⟩
      have D4 := D3.draw r4 g4
      obtain ⟨yl, y0, y1, y2, f0, f1, f2⟩ := D4.bx
      go_wp2_with fail
      exact bodyPost_ret (results_box Tryz.results73 rfl (D4.bx.set3 _ _ _)) rfl ⟨rfl, D4.done _ _ _⟩
    · exact ⟨by omega, by first | assumption | exact isU_bits _ _ _ | exact isU_wrap _ | (unfold isU; omega), by first | assumption | exact isU_bits _ _ _ | exact isU_wrap _ | (unfold isU; omega)⟩
  · rw [Int.not_lt] at hlt
    clear HN HA HE HB HaU HnU hl
    apply KdP.ex
    · intro R cap ad w hR
      have D := DkS.new hR
      go_enter Tryz.func73, Tryz.ntmps73
      go_wp2_with fail
      refine (HN0.out _ _ _ _ D.rd).mono ?_
      rintro _ w1 ⟨rfl, r1, g1⟩
      have D1 := D.draw r1 g1
      obtain ⟨yl, y0, y1, y2, f0, f1, f2⟩ := D1.bx
      go_wp2_with fail
      refine (N1.out _ _ _ _ D1.rd).mono ?_
      rintro _ w2 ⟨rfl, r2, g2⟩
      have D2 := D1.draw r2 g2
      obtain ⟨yl, y0, y1, y2, f0, f1, f2⟩ := D2.bx
      go_wp2_with fail
      refine (N2.out _ _ _ _ D2.rd).mono ?_
      rintro _ w3 ⟨rfl, r3, g3⟩
      have D3 := D2.draw r3 g3
      obtain ⟨yl, y0, y1, y2, f0, f1, f2⟩ := D3.bx
      go_wp2_with fail
      refine (N3.out _ _ _ _ D3.rd).mono ?_
      rintro _ w4 ⟨rfl, r4, g4⟩
      have D4 := D3.draw r4 g4
      obtain ⟨yl, y0, y1, y2, f0, f1, f2⟩ := D4.bx
      go_wp2_with fail
      exact bodyPost_ret (results_box Tryz.results73 rfl (D4.bx.set3 _ _ _)) rfl ⟨rfl, D4.done _ _ _⟩
    · exact ⟨by omega, by first | assumption | exact isU_bits _ _ _ | exact isU_wrap _ | (unfold isU; omega), by first | assumption | exact isU_bits _ _ _ | exact isU_wrap _ | (unfold isU; omega)⟩
end Go.Proofs.YtoamapdfcdefjaaGreat
namespace Go.Proofs.YtoamapdfcdefjaaGreat
open Go.RowKit Go.Deep
set_option linter.unusedVariables false

theorem infoConD : (Tryz.prog.info? 41).map (fun i => (i.zero, i.size, i.bytes)) = some (some (.agg #[.int .i64 0, .int .u64 0, .int .u64 0]), 3, 24) := by kernel_rfl
def cKd (c : K) : List Value := [.int .i64 c.kind, .int .u64 (c.a : Int), .int .u64 (c.b : Int)]
def cKsd (l : List K) : List Value := l.flatMap cKd
theorem cKsd_len (l : List K) : (cKsd l).length = l.length * 3 := by
  induction l with
  | nil => rfl
  | cons p l ih => simp only [cKsd, List.flatMap_cons, List.length_append, List.length_cons] at *; simp only [cKd, List.length_cons, List.length_nil]; omega
abbrev ownsKd (w : World) (B : Nat) (v : Value) (l : List K) : Prop := w.ownsRow B 41 3 v l.length (cKsd l)
/-- a condition of one of the three kinds, its numbers in their range -/
def OkK (c : K) : Prop := (0 ≤ c.kind ∧ c.kind ≤ 2) ∧ c.a ≤ 18446744073709551615 ∧ c.b ≤ 18446744073709551615

/-- a drawn condition and where the reader stands behind it -/
def KdF (l : List Int) (F : Nat → K × Nat) : Prop :=
  ∀ j, OkK (F j).1 ∧ ∀ (R cap : Nat) (ad : Option Addr) (w : World), Rd w R ad cap l j → Calls Tryz.prog 73 #[.pointer (some ⟨R, 0, none⟩)] w fun e w' => e = .returned (.agg #[.int .i64 (F j).1.kind, .int .u64 ((F j).1.a : Int), .int .u64 ((F j).1.b : Int)]) ∧ Rd w' R ad cap l (F j).2 ∧ w.grownBy w' (some R)
theorem kdF_ex (l : List Int) (hl : isBytes l) : ∃ F, KdF l F := by
  have h : ∀ j, ∃ p : K × Nat, OkK p.1 ∧ ∀ (R cap : Nat) (ad : Option Addr) (w : World), Rd w R ad cap l j → Calls Tryz.prog 73 #[.pointer (some ⟨R, 0, none⟩)] w fun e w' => e = .returned (.agg #[.int .i64 p.1.kind, .int .u64 (p.1.a : Int), .int .u64 (p.1.b : Int)]) ∧ Rd w' R ad cap l p.2 ∧ w.grownBy w' (some R) := fun j => by
    obtain ⟨k, a, b, J, h1, h2, ⟨h3, h4⟩, ⟨h5, h6⟩⟩ := drawCon_det l hl j
    have ea : ((a.toNat : Nat) : Int) = a := by omega
    have eb : ((b.toNat : Nat) : Int) = b := by omega
    refine ⟨(⟨k, a.toNat, b.toNat⟩, J), ⟨h2, by show a.toNat ≤ _; omega, by show b.toNat ≤ _; omega⟩, fun R cap ad w hR => ?_⟩
    simp only [ea, eb]
    exact h1 R cap ad w hR
  exact Classical.axiomOfChoice h |>.elim fun F hF => ⟨F, hF⟩

/-- a rule that is being drawn lies in the box G, its conditions behind it; the box of the answer lies ahead of it -/
structure RlS (w W : World) (R : Nat) (ad : Option Addr) (cap : Nat) (l : List Int) (j G : Nat) (v : Value) (ks : List K) : Prop where
  rd : Rd W R ad cap l j
  gr : w.grownBy W (some R)
  lt : R < w.heap.size
  hb : w.heap.size < G
  hG : G < W.heap.size
  c : W.cell? ⟨G, 0, none⟩ = some v
  f : W.frozen? ⟨G, 0, none⟩ = false
  c0 : W.cell? ⟨w.heap.size, 0, none⟩ = some (.slice none 0 0)
  f0 : W.frozen? ⟨w.heap.size, 0, none⟩ = false
  own : ownsKd W (G + 1) v ks
section
variable {w W W1 : World} {R cap j j1 G : Nat} {ad : Option Addr} {l : List Int} {v v1 : Value} {ks ks1 : List K}
theorem cell_grD {g o : Nat} {row : Option Nat} (hg : W.grownBy W1 row) (hlt : g < W.heap.size) (hne : some g ≠ row) : W1.cell? ⟨g, o, none⟩ = W.cell? ⟨g, o, none⟩ ∧ W1.frozen? ⟨g, o, none⟩ = W.frozen? ⟨g, o, none⟩ := by
  have e := hg.block g hlt hne
  exact ⟨World.cell?_of_block (w := W) e, by simp [World.frozen?, e]⟩
theorem RlS.grow {row : Option Nat} (h : RlS w W R ad cap l j G v ks) (hr : Rd W1 R ad cap l j1) (hg : W.grownBy W1 row) (hgr : w.grownBy W1 (some R)) (h1 : some G ≠ row) (h2 : some w.heap.size ≠ row) (ho : ownsKd W1 (G + 1) v1 ks1) (hv : v1 = v) : RlS w W1 R ad cap l j1 G v ks1 := by
  subst hv
  have hw : w.heap.size < W.heap.size := Nat.lt_trans h.hb h.hG
  obtain ⟨e1, e2⟩ := cell_grD (o := 0) hg h.hG h1
  obtain ⟨e3, e4⟩ := cell_grD (o := 0) hg hw h2
  exact ⟨hr, hgr, h.lt, h.hb, Nat.lt_of_lt_of_le h.hG hg.size, e1.trans h.c, e2.trans h.f, e3.trans h.c0, e4.trans h.f0, ho⟩
theorem RlS.draw (h : RlS w W R ad cap l j G v ks) (hr : Rd W1 R ad cap l j1) (hg : W.grownBy W1 (some R)) : RlS w W1 R ad cap l j1 G v ks := by
  have h1 := h.lt
  have h2 := h.hb
  refine h.grow hr hg (rb_trans h.gr hg) (by simp; omega) (by simp; omega) (World.ownsRow.kept h.own hg ?_) rfl
  cases hv : v.ownBlock with
  | none => exact .inl rfl
  | some q => exact .inr (by have := (h.own.lt q hv).1; simp; omega)
theorem RlS.below (h : RlS w W R ad cap l j G v ks) (hb : Below W.heap.size W W1) : RlS w W1 R ad cap l j G v ks :=
  h.grow (row := none) (h.rd.below hb) (rb_below hb) (rb_trans h.gr (rb_below hb)) (by simp) (by simp) (World.ownsRow.kept (row := none) h.own (rb_below hb) (by cases v.ownBlock <;> simp)) rfl
theorem RlS.push (h : RlS w W R ad cap l j G v ks) (hg : W.grownBy W1 v.ownBlock) (ho : ownsKd W1 (G + 1) v1 ks1) : RlS w (W1.setCell ⟨G, 0, none⟩ v1) R ad cap l j G v1 ks1 := by
  have hge : ∀ k, v.ownBlock = some k → G + 1 ≤ k := fun k hk => (h.own.lt k hk).1
  have h1 := h.lt
  have h2 := h.hb
  have hw : w.heap.size < W.heap.size := Nat.lt_trans h.hb h.hG
  obtain ⟨e1, e2⟩ := cell_grD (o := 0) hg h.hG (fun e => by have := hge G e.symm; omega)
  obtain ⟨e3, e4⟩ := cell_grD (o := 0) hg hw (fun e => by have := hge _ e.symm; omega)
  have hs : w.grownBy W1 (some R) := rb_own h.gr hg (fun k hk => by have := hge k hk; omega)
  have hset := rb_set (World.grownBy.refl W1 (some G)) 0 v1
  have hG1 : G < W1.heap.size := Nat.lt_of_lt_of_le h.hG hg.size
  obtain ⟨e5, e6⟩ := cell_grD (o := 0) hset (Nat.lt_of_lt_of_le hw hg.size) (by simp; omega : some w.heap.size ≠ some G)
  refine ⟨(h.rd.grown hg (by omega : R < G + 1) hge).keep (fun k hk => Below.heap_setCell W1 ⟨G, 0, none⟩ v1 k (fun e => by simp at e; omega)), rb_own hs hset (fun k hk => by simp at hk; omega), h1, h2, by simpa [World.setCell] using hG1, World.cell?_setCell_same _ _ _ (e1.trans h.c), ?_, e5.trans (e3.trans h.c0), e6.trans (e4.trans h.f0), ownsRow_setCell_below ho (Nat.lt_succ_self _) _⟩
  have hf := e2.trans h.f
  simpa using hf
end
end Go.Proofs.YtoamapdfcdefjaaGreat
namespace Go.Proofs.YtoamapdfcdefjaaGreat
open Go.RowKit Go.Deep
set_option linter.unusedVariables false

def zeroK : K := ⟨0, 0, 0⟩
/-- the first n conditions of a drawn rule, and where the reader stands behind them -/
def agR (F : Nat → K × Nat) (j : Nat) : Nat → List K × Nat
  | 0 => ([], j)
  | n + 1 => if 2 < n then ((agR F j n).1 ++ [zeroK], (agR F j n).2) else ((agR F j n).1 ++ [(F (agR F j n).2).1], (F (agR F j n).2).2)
theorem agR_succ (F : Nat → K × Nat) (j n : Nat) : agR F j (n + 1) = if 2 < n then ((agR F j n).1 ++ [zeroK], (agR F j n).2) else ((agR F j n).1 ++ [(F (agR F j n).2).1], (F (agR F j n).2).2) := rfl
theorem agR_len (F : Nat → K × Nat) (j n : Nat) : (agR F j n).1.length = n := by
  induction n with
  | zero => rfl
  | succ n ih => rw [agR_succ]; split <;> simp [ih]
theorem agR_ok {l : List Int} {F : Nat → K × Nat} (hF : KdF l F) (j n : Nat) : ∀ c ∈ (agR F j n).1, OkK c := by
  induction n with
  | zero => intro c hc; simp [agR] at hc
  | succ n ih =>
    rw [agR_succ]
    split
    · intro c hc
      simp only [List.mem_append, List.mem_singleton] at hc
      rcases hc with hc | rfl
      · exact ih c hc
      · exact ⟨by decide, by decide, by decide⟩
    · intro c hc
      simp only [List.mem_append, List.mem_singleton] at hc
      rcases hc with hc | rfl
      · exact ih c hc
      · exact (hF _).1
def ruleD (l : List Int) (F : Nat → K × Nat) (j : Nat) : List K := if l.getD (agR F j 6).2 0 % 6 = 1 then (agR F j 6).1.set 5 (F ((agR F j 6).2 + 1)).1 else (agR F j 6).1
def ruleJ (l : List Int) (F : Nat → K × Nat) (j : Nat) : Nat := if l.getD (agR F j 6).2 0 % 6 = 1 then (F ((agR F j 6).2 + 1)).2 else (agR F j 6).2 + 1
theorem ruleD_ok {l : List Int} {F : Nat → K × Nat} (hF : KdF l F) (j : Nat) : (∀ c ∈ ruleD l F j, OkK c) ∧ (ruleD l F j).length = 6 := by
  unfold ruleD
  split
  · refine ⟨fun c hc => ?_, by rw [List.length_set, agR_len]⟩
    rcases List.mem_or_eq_of_mem_set hc with h | rfl
    · exact agR_ok hF j 6 c h
    · exact (hF _).1
  · exact ⟨agR_ok hF j 6, agR_len F j 6⟩

theorem cKsd_set (ks : List K) (i : Nat) (c : K) : cKsd (ks.set i c) = (((cKsd ks).set (i * 3) (.int .i64 c.kind)).set (i * 3 + 1) (.int .u64 (c.a : Int))).set (i * 3 + 2) (.int .u64 (c.b : Int)) := by
  induction ks generalizing i with
  | nil => simp [cKsd]
  | cons p ks ih =>
    have e : cKsd (p :: ks) = cKd p ++ cKsd ks := by simp [cKsd]
    match i with
    | 0 =>
      rw [e]
      simp [cKsd, cKd]
    | i + 1 =>
      have e2 : cKsd ((p :: ks).set (i + 1) c) = cKd p ++ cKsd (ks.set i c) := by simp [cKsd]
      rw [e2, e, ih i, show (i + 1) * 3 = i * 3 + 1 + 1 + 1 by omega]
      simp [cKd]
theorem ownsKd_put {w : World} {B g n cp i : Nat} {ks : List K} (c : K) (h : ownsKd w B (.slice (some ⟨g, 0, none⟩) n cp) ks) : ownsKd (((w.setCell ⟨g, i * 3, none⟩ (.int .i64 c.kind)).setCell ⟨g, i * 3 + 1, none⟩ (.int .u64 (c.a : Int))).setCell ⟨g, i * 3 + 2, none⟩ (.int .u64 (c.b : Int))) B (.slice (some ⟨g, 0, none⟩) n cp) (ks.set i c) := by
  obtain ⟨h0, h | ⟨g', cap, cur, e, hb, hg, hn, hm, hs, hx⟩⟩ := h
  · cases h.1
  · simp only [Value.slice.injEq, Option.some.injEq, Addr.mk.injEq] at e
    obtain ⟨⟨rfl, _, _⟩, rfl, rfl⟩ := e
    have g1 := heap_setCell_same w g (i * 3) cur _ (.int .i64 c.kind) hg
    have g2 := heap_setCell_same _ g (i * 3 + 1) _ _ (.int .u64 (c.a : Int)) g1
    have g3 := heap_setCell_same _ g (i * 3 + 2) _ _ (.int .u64 (c.b : Int)) g2
    refine ⟨by rw [cKsd_len], .inr ⟨g, cp, _, by rw [List.length_set], hb, g3, by rw [List.length_set]; exact hn, hm, by simpa using hs, ?_⟩⟩
    rw [List.length_set, cKsd_set, ← hx]
    simp only [Array.toList_setIfInBounds, List.take_set]
theorem RlS.put {w W : World} {R cap j G g n cp i : Nat} {ad : Option Addr} {l : List Int} {ks : List K} (h : RlS w W R ad cap l j G (.slice (some ⟨g, 0, none⟩) n cp) ks) (c : K) : RlS w (((W.setCell ⟨g, i * 3, none⟩ (.int .i64 c.kind)).setCell ⟨g, i * 3 + 1, none⟩ (.int .u64 (c.a : Int))).setCell ⟨g, i * 3 + 2, none⟩ (.int .u64 (c.b : Int))) R ad cap l j G (.slice (some ⟨g, 0, none⟩) n cp) (ks.set i c) := by
  have hge := (h.own.lt g rfl).1
  have h1 := h.lt
  have h2 := h.hb
  have hset : W.grownBy (((W.setCell ⟨g, i * 3, none⟩ (.int .i64 c.kind)).setCell ⟨g, i * 3 + 1, none⟩ (.int .u64 (c.a : Int))).setCell ⟨g, i * 3 + 2, none⟩ (.int .u64 (c.b : Int))) (some g) := rb_set (rb_set (rb_set (World.grownBy.refl _ _) _ _) _ _) _ _
  exact h.grow (h.rd.grown hset (by omega : R < G + 1) (fun k hk => by simp at hk; omega)) hset (rb_own h.gr hset (fun k hk => by simp at hk; omega)) (by simp; omega) (by simp; omega) (ownsKd_put c h.own) rfl
end Go.Proofs.YtoamapdfcdefjaaGreat
