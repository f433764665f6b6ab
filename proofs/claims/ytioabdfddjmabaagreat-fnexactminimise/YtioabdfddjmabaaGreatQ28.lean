/-
  MLaw
-/
import Derived.Test.YtioabdfddjmabaaGreatRows
import Derived.Test.YtioabdfddjmabaaGreatQ25
import Derived.Test.YtioabdfddjmabaaGreatQ26
import Derived.Test.YtioabdfddjmabaaGreatQ27
namespace Go.Proofs.YtioabdfddjmabaaGreat.fnExactMinimise
open Go.ChangeShapes Go.WideShapes Go.ChangeAt Go.RowKit Go.Deep
set_option linter.unusedVariables false

/-- what the law holds when the two answers are there -/
structure MSt (W3 : World) (D5 D6 m : Nat) (a3 : Option Addr) (c3 : Nat) (a7 : Option Addr) (c7 : Nat) (out : List E) (wr : World) : Prop where
  b3 : Below W3.heap.size W3 wr
  t4 : wr.cell? ⟨W3.heap.size, 0, none⟩ = some (.slice a3 m c3)
  t6 : wr.cell? ⟨D6, 0, none⟩ = some (.slice a7 m c7)
  own : GOwn (D5 + 1) D6 wr a7 c7 out
theorem MSt.keep {W3 : World} {D5 D6 m : Nat} {a3 : Option Addr} {c3 : Nat} {a7 : Option Addr} {c7 : Nat} {out : List E} {wr w1 : World} (h : MSt W3 D5 D6 m a3 c3 a7 c7 out wr) (hb : Below wr.heap.size wr w1) : MSt W3 D5 D6 m a3 c3 a7 c7 out w1 :=
  ⟨below_step hb h.b3, cell_step hb h.t4, cell_step hb h.t6, h.own.keep (Nat.le_of_lt (cell_ltM h.t6)) hb⟩
/-- what it holds of the copy -/
structure XSt (W3 : World) (D5 n : Nat) (a5 : Option Addr) (c5 : Nat) (p : List E) (A : List AdK) (wr : World) : Prop where
  t5 : wr.cell? ⟨D5, 0, none⟩ = some (.slice a5 n c5)
  se : SE wr a5 n A
  src : LSrc 3 PE wr a5 p
theorem XSt.keep {W3 : World} {D5 n : Nat} {a5 : Option Addr} {c5 : Nat} {p : List E} {A : List AdK} {wr w1 : World} (h : XSt W3 D5 n a5 c5 p A wr) (hb : Below wr.heap.size wr w1) : XSt W3 D5 n a5 c5 p A w1 :=
  ⟨cell_step hb h.t5, h.se.below hb, h.src.below PE.stays hb⟩
theorem cell_blk {w w1 : World} {b o : Nat} {v : Value} (h : w.cell? ⟨b, o, none⟩ = some v) (e : w1.heap[b]? = w.heap[b]?) : w1.cell? ⟨b, o, none⟩ = some v := by
  simp only [World.cell?, e] at h ⊢; exact h
/-- the copy is marked: the answers stay -/
theorem MSt.markX {W3 : World} {D5 D6 m : Nat} {a3 : Option Addr} {c3 : Nat} {a7 : Option Addr} {c7 : Nat} {out : List E} {wr w1 : World} {A : List AdK} {k : Int} (h : MSt W3 D5 D6 m a3 c3 a7 c7 out wr) (hw : Wrote wr w1 A k) (hA : ∀ x ∈ A, W3.heap.size < x.1.block ∧ x.1.block < D5) (hD : D5 < D6) : MSt W3 D5 D6 m a3 c3 a7 c7 out w1 :=
  ⟨h.b3.trans (hw.below _ fun x hx => Nat.le_of_lt (hA x hx).1), cell_blk h.t4 (hw.block _ fun x hx => by have := (hA x hx).1; omega), cell_blk h.t6 (hw.block _ fun x hx => by have := (hA x hx).2; omega), h.own.far (by rw [hw.size]; exact Nat.le_refl _) fun q hq _ => hw.block q fun x hx => by have := (hA x hx).2; omega⟩

set_option maxRecDepth 100000 in
set_option maxHeartbeats 8000000 in
theorem walk0 (n cap : Nat) (a : Option Addr) (z : Int) (p : List E) (R : List E → Prop) (w : World) (hz : 0 ≤ z)
    (H0 : Hid (∀ w1, Below w.heap.size w w1 → Calls Tryz.prog 11 #[.agg #[.slice a n cap], .int .i64 1048576] w1 fun e w' => e = .returned (.int .i64 z) ∧ Below w1.heap.size w1 w'))
    (H1 : Hid (∀ w1, Below w.heap.size w w1 → Calls Tryz.prog 13 #[.agg #[.slice a n cap]] w1 fun e w' => ∃ a2 cap2, e = .returned (.agg #[.slice a2 n cap2]) ∧ LSrc 3 PE w' a2 p ∧ (∃ A, SE w' a2 n A ∧ (∀ x ∈ A, w1.heap.size ≤ x.1.block ∧ x.1.block < w'.heap.size) ∧ A.length ≤ 3145728) ∧ Below w1.heap.size w1 w'))
    (H2 : Hid (∀ a2 cap2 w1, LSrc 3 PE w1 a2 p → Calls Tryz.prog 12 #[.agg #[.slice a2 n cap2]] w1 fun e w' => ∃ a3 c3 out, e = .returned (.agg #[.slice a3 out.length c3]) ∧ R out ∧ LSrc 3 PE w' a3 out ∧ Below w1.heap.size w1 w'))
    (H3 : Hid (∀ a2 cap2 w1 out, LSrc 3 PE w1 a2 p → R out → Calls Tryz.prog 7 #[.agg #[.slice a2 n cap2]] w1 fun e w' => ∃ a7 c7, e = .returned (.agg #[.slice a7 out.length c7]) ∧ GOwn w1.heap.size w'.heap.size w' a7 c7 out ∧ Below w1.heap.size w1 w'))
    (H4 : Hid (∀ a2 a3 cap2 cap3 w1, LSrc 3 PE w1 a2 p → LSrc 3 PE w1 a3 p → Calls Tryz.prog 14 #[.agg #[.slice a2 n cap2], .agg #[.slice a3 n cap3]] w1 fun e w' => e = .returned (.bool true) ∧ Below w1.heap.size w1 w'))
    (H5 : Hid (∀ out, R out → ∀ a2 a3 cap2 cap3 w1, LSrc 3 PE w1 a2 out → LSrc 3 PE w1 a3 out → Calls Tryz.prog 14 #[.agg #[.slice a2 out.length cap2], .agg #[.slice a3 out.length cap3]] w1 fun e w' => e = .returned (.bool true) ∧ Below w1.heap.size w1 w'))
    (HR : Hid (∀ out, R out → ∀ D D' w a c, GOwn D D' w a c out → LSrc 3 PE w a out ∧ ∃ A, SE w a out.length A ∧ (A.map Prod.fst).Nodup ∧ (∀ x ∈ A, D ≤ x.1.block ∧ x.1.block < D') ∧ A.length ≤ 4000000)) :
    Calls Tryz.prog 4 #[.agg #[.slice a n cap]] w fun e w' => e = .returned (.bool true) ∧ Below w.heap.size w w' := by
  have hz' : ¬ z < 0 := by omega
  have B0 : Below w.heap.size w (w.alloc (.cells #[.slice a n cap] 49)) := (Below.refl _ _).alloc (Nat.le_refl _) _
  have x0 := box1 w 49 (.slice a n cap)
  go_enter Tryz.func4, Tryz.ntmps4
  go_wp2_with fail
  refine (H0.out _ B0).mono ?_
  rintro _ w1 ⟨rfl, hb1⟩
  have B1 := below_step hb1 B0
  have x1 := cell_step hb1 x0
  clear hb1 B0 x0 H0
  go_wp2_with fail
  refine (H1.out _ B1).mono ?_
  rintro _ w2 ⟨a2, cap2, rfl, hS2, _, hb2⟩
  have B2 := below_step hb2 B1
  have x2 := cell_step hb2 x1
  clear hb2 B1 x1
  go_wp2_with fail
  refine (H2.out _ _ _ hS2).mono ?_
  rintro _ w3 ⟨a3, c3, out, rfl, hR0, hT3, hb3⟩
  have hR : Hid (R out) := hR0
  have B3 := below_step hb3 B2
  have x3 := cell_step hb3 x2
  clear hb3 B2 x2 hS2 H2 hR0
  have HI : Hid (∀ a2 cap2 w1, LSrc 3 PE w1 a2 p → Calls Tryz.prog 7 #[.agg #[.slice a2 n cap2]] w1 fun e w' => ∃ a7 c7, e = .returned (.agg #[.slice a7 out.length c7]) ∧ GOwn w1.heap.size w'.heap.size w' a7 c7 out ∧ Below w1.heap.size w1 w') := fun a2 cap2 w1 h => H3.out a2 cap2 w1 out h hR.out
  have HE : Hid (∀ a2 a3 cap2 cap3 w1, LSrc 3 PE w1 a2 out → LSrc 3 PE w1 a3 out → Calls Tryz.prog 14 #[.agg #[.slice a2 out.length cap2], .agg #[.slice a3 out.length cap3]] w1 fun e w' => e = .returned (.bool true) ∧ Below w1.heap.size w1 w') := H5.out out hR.out
  have HG : Hid (∀ D D' w a c, GOwn D D' w a c out → LSrc 3 PE w a out ∧ ∃ A, SE w a out.length A ∧ (A.map Prod.fst).Nodup ∧ (∀ x ∈ A, D ≤ x.1.block ∧ x.1.block < D') ∧ A.length ≤ 4000000) := HR.out out hR.out
  clear H3 H5 HR hR
  generalize out.length = m at *
  have HT3 : Hid (∀ wr, Below w3.heap.size w3 wr → LSrc 3 PE wr a3 out) := fun wr hb => hT3.below PE.stays hb
  have HX3 : Hid (∀ wr, Below w3.heap.size w3 wr → wr.cell? ⟨w.heap.size, 0, none⟩ = some (.slice a n cap) ∧ Below w.heap.size w wr) := fun wr hb => ⟨cell_step hb x3, below_step hb B3⟩
  have hb3 : Below w3.heap.size w3 (w3.alloc (.cells #[.slice a3 m c3] 25)) := (Below.refl _ _).alloc (Nat.le_refl _) _
  have y4 := box1 w3 25 (.slice a3 m c3)
  obtain ⟨x4, B4⟩ := HX3.out _ hb3
  have hs3 : (w3.alloc (.cells #[.slice a3 m c3] 25)).heap.size = w3.heap.size + 1 := by simp
  have hnx := World.new_ne w3 _ x3
  clear hT3
  go_wp2_with fail
  refine (H1.out _ B4).mono ?_
  clear hnx x3 B3
  generalize w3.alloc (.cells #[.slice a3 m c3] 25) = V3 at *
  rintro _ w4 ⟨a5, c5, rfl, hS5, ⟨A, hSE, hAr, hAl⟩, hb4⟩
  rw [hs3] at hAr
  have hb34 := below_step hb4 hb3
  have y5 := cell_step hb4 y4
  have hs4 := hb4.size
  rw [hs3] at hs4
  clear hb3 hb4 y4 x4 B4 hs3
  clear V3
  have hb5 : Below w4.heap.size w4 (w4.alloc (.cells #[.slice a5 n c5] 25)) := (Below.refl _ _).alloc (Nat.le_refl _) _
  have z5 := box1 w4 25 (.slice a5 n c5)
  have hs5 : (w4.alloc (.cells #[.slice a5 n c5] 25)).heap.size = w4.heap.size + 1 := by simp
  have hb35 := below_step hb5 hb34
  have hnx := World.new_ne w4 _ y5
  have y6 := cell_step hb5 y5
  have hS6 := hS5.below PE.stays hb5
  have hSE6 := hSE.below hb5
  obtain ⟨x4, B4⟩ := HX3.out _ hb34
  have hnx2 := World.new_ne w4 _ x4
  go_wp2_with fail
  refine (HI.out _ _ _ hS6).mono ?_
  clear hnx hnx2 hS5 hSE y5 hb34 x4 B4
  generalize w4.alloc (.cells #[.slice a5 n c5] 25) = V4 at *
  rintro _ w6 ⟨a7, c7, rfl, hG6, hb6⟩
  rw [hs5] at hG6
  have hs6 := hb6.size
  rw [hs5] at hs6
  have hb36 := below_step hb6 hb35
  have y7 := cell_step hb6 y6
  have z7 := cell_step hb6 z5
  have hS7 := hS6.below PE.stays hb6
  have hSE7 := hSE6.below hb6
  clear hb6 hb35 y6 z5 hS6 hSE6 hb5 hs5
  clear V4
  generalize hD5 : w4.heap.size = D5 at *
  clear hD5
  clear w4
  have hb7 : Below w6.heap.size w6 (w6.alloc (.cells #[.slice a7 m c7] 25)) := (Below.refl _ _).alloc (Nat.le_refl _) _
  have hnx := World.new_ne w6 _ y7
  have hnx2 := World.new_ne w6 _ z7
  obtain ⟨x6, B6⟩ := HX3.out _ hb36
  have hnx3 := World.new_ne w6 _ x6
  have MS : MSt w3 D5 w6.heap.size m a3 c3 a7 c7 out (w6.alloc (.cells #[.slice a7 m c7] 25)) := ⟨below_step hb7 hb36, cell_step hb7 y7, box1 w6 25 (.slice a7 m c7), hG6.keep (Nat.le_refl _) hb7⟩
  have XS : XSt w3 D5 n a5 c5 p A (w6.alloc (.cells #[.slice a7 m c7] 25)) := ⟨cell_step hb7 z7, hSE7.below hb7, hS7.below PE.stays hb7⟩
  have hD56 : D5 < w6.heap.size := by omega
  have t4 := MS.t4
  have t6 := MS.t6
  go_wp2_with fail
  refine (HE.out _ _ _ _ _ (HG.out _ _ _ _ _ MS.own).1 (HT3.out _ MS.b3)).mono ?_
  clear hnx hnx2 hnx3 x6 B6 hb7 hb36 y7 z7 hG6 hS7 hSE7 t4 t6 hs6
  generalize hD6 : w6.heap.size = D6 at *
  generalize w6.alloc (.cells #[.slice a7 m c7] 25) = V6 at *
  clear hD6
  clear w6
  rintro _ w7 ⟨rfl, hb7⟩
  have M7 := MS.keep hb7
  have X7 := XS.keep hb7
  clear MS XS hb7
  clear V6
  have SK : Hid (∀ wa wb, Below wa.heap.size wa wb → (MSt w3 D5 D6 m a3 c3 a7 c7 out wa ∧ XSt w3 D5 n a5 c5 p A wa ∧ wa.cell? ⟨w.heap.size, 0, none⟩ = some (.slice a n cap) ∧ wa.cell? ⟨D5, 0, none⟩ = some (.slice a5 n c5)) → (MSt w3 D5 D6 m a3 c3 a7 c7 out wb ∧ XSt w3 D5 n a5 c5 p A wb ∧ wb.cell? ⟨w.heap.size, 0, none⟩ = some (.slice a n cap) ∧ wb.cell? ⟨D5, 0, none⟩ = some (.slice a5 n c5))) := fun wa wb hb ⟨s, x, y0, y1⟩ => ⟨s.keep hb, x.keep hb, cell_step hb y0, cell_step hb y1⟩
  have hS8 := SK.out w7 w7.drew ((Below.refl _ _).drew) ⟨M7, X7, (HX3.out _ M7.b3).1, X7.t5⟩
  clear M7 X7
  go_wp2_with fail
  go_region_held3 (fun w' => MSt w3 D5 D6 m a3 c3 a7 c7 out w' ∧ XSt w3 D5 n a5 c5 p A w' ∧ w'.cell? ⟨w.heap.size, 0, none⟩ = some (.slice a n cap) ∧ w'.cell? ⟨D5, 0, none⟩ = some (.slice a5 n c5))
    (assumption)
    (first
      | (go_at_call 13; refine (H1.out _ (HX3.out _ (MSt.b3 (And.left (by with_reducible assumption)))).2).mono ?_; rintro _ w8 ⟨a8, c8, rfl, hS8', _, hb8⟩; have hs8 := SK.out _ _ hb8 (by with_reducible assumption))
      | (go_at_call 14; refine (H4.out _ _ _ _ _ hs8.2.1.src hS8').mono ?_; rintro _ w9 ⟨rfl, hb9⟩; have hs9 := SK.out _ _ hb9 hs8))
  all_goals
    obtain ⟨M9, X9, x9, t59⟩ := hs9
    clear hs8 hS8' hb8 hb9 hS8 SK
    have hbA : Below w9.heap.size w9 (w9.alloc (.cells #[.slice a5 n c5] 25)) := (Below.refl _ _).alloc (Nat.le_refl _) _
    have HMx : Hid (Calls Tryz.prog 15 #[.agg #[.slice a5 n c5], .int .i64 1] w9 fun e w' => e = .returned (.int .i64 (1 + A.length)) ∧ MSt w3 D5 D6 m a3 c3 a7 c7 out w') := (markPolicy_any a5 n c5 A 1 w9 (by omega) (by omega) (X9.se.below hbA)).mono fun e w' ⟨h1, h2⟩ => ⟨h1, (M9.keep hbA).markX h2 (fun x hx => by have := hAr x hx; omega) hD56⟩
    have hq : ¬ (1 + (A.length : Int)) < 0 := by omega
    generalize (1 + (A.length : Int)) = q1 at *
    clear hbA X9 M9
    go_wp2_with fail
    refine (HMx.out).mono ?_
    rintro _ w10 ⟨rfl, M10⟩
    have t4 := M10.t4
    have t6 := M10.t6
    clear HMx x9 t59
    go_wp2_with fail
    refine (HE.out _ _ _ _ _ (HG.out _ _ _ _ _ M10.own).1 (HT3.out _ M10.b3)).mono ?_
    clear t4 t6
    rintro _ w11 ⟨rfl, hb11⟩
    have M11 := M10.keep hb11
    clear M10 hb11
    obtain ⟨_, A', hSE', hnd, hAr', hAl'⟩ := HG.out _ _ _ _ _ M11.own
    have hbB : Below w11.heap.size w11 (w11.alloc (.cells #[.slice a7 m c7] 25)) := (Below.refl _ _).alloc (Nat.le_refl _) _
    have hsA := hSE'.below hbB
    have M12 := M11.keep hbB
    have HMg : Hid (Calls Tryz.prog 15 #[.agg #[.slice a7 m c7], .int .i64 1] w11 fun e w' => e = .returned (.int .i64 (1 + A'.length)) ∧ (Below w3.heap.size w3 w' ∧ w'.cell? ⟨w3.heap.size, 0, none⟩ = some (.slice a3 m c3) ∧ w'.cell? ⟨D6, 0, none⟩ = some (.slice a7 m c7) ∧ SE w' a7 m A' ∧ HeldA w' A' 1)) := (markPolicy_any a7 m c7 A' 1 w11 (by omega) (by omega) hsA).mono fun e w' ⟨h1, h2⟩ => ⟨h1, M12.b3.trans (h2.below _ fun x hx => by have := hAr' x hx; omega), cell_blk M12.t4 (h2.block _ fun x hx => by have := hAr' x hx; omega), cell_blk M12.t6 (h2.block _ fun x hx => by have := hAr' x hx; omega), hsA.sim h2.sim, h2.held hnd⟩
    have t6 := M11.t6
    have hq2 : ¬ (1 + (A'.length : Int)) < 0 := by omega
    have hl2 : 1 + (A'.length : Int) ≤ 8388608 := by omega
    clear hbB hsA hSE' hnd hAr' M11 M12
    go_wp2_with fail
    refine (HMg.out).mono ?_
    clear HMg t6
    rintro _ w12 ⟨rfl, hb12, t4, t6, hSE12, hH12⟩
    have hbC : Below w12.heap.size w12 (w12.alloc (.cells #[.slice a7 m c7] 25)) := (Below.refl _ _).alloc (Nat.le_refl _) _
    have HMh : Hid (Calls Tryz.prog 16 #[.agg #[.slice a7 m c7], .int .i64 1] w12 fun e w' => e = .returned (.int .i64 (1 + A'.length)) ∧ Below w12.heap.size w12 w') := heldPolicy_any a7 m c7 A' 1 w12 (by omega) hl2 (hSE12.below hbC) (hH12.below hbC)
    generalize (1 + (A'.length : Int)) = q2 at *
    clear hbC hSE12 hH12
    go_wp2_with fail
    refine (HMh.out).mono ?_
    clear HMh t6
    rintro _ w13 ⟨rfl, hb13⟩
    have hb313 := below_step hb13 hb12
    have t413 := cell_step hb13 t4
    obtain ⟨x13, B13⟩ := HX3.out _ hb313
    clear hb13 hb12 t4
    go_wp2_with fail
    refine (H1.out _ B13).mono ?_
    rintro _ w14 ⟨a14, c14, rfl, hS14, _, hb14⟩
    have hb314 := below_step hb14 hb313
    have t414 := cell_step hb14 t413
    clear hb14 hb313 t413 x13 B13
    go_wp2_with fail
    refine (HI.out _ _ _ hS14).mono ?_
    rintro _ w15 ⟨a15, c15, rfl, hG15, hb15⟩
    have hb315 := below_step hb15 hb314
    have t415 := cell_step hb15 t414
    clear hb15 hb314 t414 hS14
    have hb16 : Below w15.heap.size w15 (w15.alloc (.cells #[.slice a15 m c15] 25)) := (Below.refl _ _).alloc (Nat.le_refl _) _
    have hnx := World.new_ne w15 _ t415
    have t416 := cell_step hb16 t415
    have u16 := box1 w15 25 (.slice a15 m c15)
    have hb316 := below_step hb16 hb315
    have hG16 := hG15.keep (Nat.le_refl _) hb16
    go_wp2_with fail
    refine (HE.out _ _ _ _ _ (HG.out _ _ _ _ _ hG16).1 (HT3.out _ hb316)).mono ?_
    clear hnx t416 u16 hG16 hG15 t415 hb16 hb315
    rintro _ w17 ⟨rfl, hb17⟩
    have B17 := (HX3.out _ (below_step hb17 hb316)).2
    go_wp2
    go_ret
    exact ⟨rfl, B17⟩

set_option maxRecDepth 100000 in
set_option maxHeartbeats 1000000 in
theorem walk1 (n cap : Nat) (a : Option Addr) (w : World)
    (H0 : Hid (∀ w1, Below w.heap.size w w1 → Calls Tryz.prog 11 #[.agg #[.slice a n cap], .int .i64 1048576] w1 fun e w' => e = .returned (.int .i64 (-1)) ∧ Below w1.heap.size w1 w')) :
    Calls Tryz.prog 4 #[.agg #[.slice a n cap]] w fun e w' => e = .returned (.bool true) ∧ Below w.heap.size w w' := by
  have B0 : Below w.heap.size w (w.alloc (.cells #[.slice a n cap] 49)) := (Below.refl _ _).alloc (Nat.le_refl _) _
  go_enter Tryz.func4, Tryz.ntmps4
  go_wp2_with fail
  refine (H0.out _ B0).mono ?_
  rintro e w1 ⟨rfl, hb1⟩
  have B1 := below_step hb1 B0
  go_wp2
  go_ret
  exact ⟨rfl, B1⟩

theorem walk (p : List E) (a : Option Addr) (cap : Nat) (w : World) (hs : LSrc 3 PE w a p) (hm : p.length ≤ maxLen) (hin : ∀ e ∈ p, EntryIn e) :
    Calls Tryz.prog 4 #[.agg #[.slice a p.length cap]] w fun e w' => e = .returned (.bool true) ∧ Below w.heap.size w w' := by
  have ho : okP p := fun e he => (hin e he).1
  have hl : p.length ≤ 9223372036854775807 ∧ ∀ e ∈ p, e.rules.length ≤ 9223372036854775807 ∧ ∀ r ∈ e.rules, r.length ≤ 9223372036854775807 := by
    unfold EntryIn maxLen at hin
    unfold maxLen at hm
    exact ⟨by omega, fun e he => ⟨by have := (hin e he).2.1; omega, fun r hr => by have := (hin e he).2.2 r hr; omega⟩⟩
  have H0 : ∀ w1, Below w.heap.size w w1 → Calls Tryz.prog 11 #[.agg #[.slice a p.length cap], .int .i64 1048576] w1 fun e w' => e = .returned (.int .i64 (szF 1048576 (sizeP p))) ∧ Below w1.heap.size w1 w' :=
    fun w1 hb => szPolicy_any p a cap 1048576 w1 (hs.below PE.stays hb) hl.1 hl.2 (by omega) (by omega)
  by_cases h : (1048576 : Int) < sizeP p
  · rw [szF_no h] at H0
    exact walk1 _ cap a w H0
  · rw [szF_yes h] at H0
    have hsz : sizeP p ≤ 1048576 := by omega
    have hp : p.length ≤ 1048576 := by unfold sizeP at hsz; omega
    have he : ∀ e ∈ p, e.rules.length ≤ 1048576 ∧ ∀ r ∈ e.rules, r.length ≤ 1048576 := by
      intro e he
      have h1 : sizeE e ≤ sumBy sizeE p := sumBy_mem sizeE he
      have h2 : sizeE e ≤ 1048576 := by unfold sizeP at hsz; omega
      unfold sizeE sizeRs at h2
      refine ⟨by omega, fun r hr => ?_⟩
      have h3 : r.length ≤ sumBy List.length e.rules := sumBy_mem List.length hr
      omega
    have he' : ∀ e ∈ p, e.rules.length ≤ 16777216 ∧ ∀ r ∈ e.rules, r.length ≤ 16777216 := fun e h => ⟨by have := (he e h).1; omega, fun r hr => by have := (he e h).2 r hr; omega⟩
    exact walk0 p.length cap a _ p (RelMin p) w (by omega) H0
      (fun w1 hb => (toPolicy_any p a cap w1 (hs.below PE.stays hb) hp he).mono fun e w' ⟨a2, cap2, h1, h2, h3⟩ => ⟨a2, cap2, h1, h2.plain fun _ _ _ h => h.plain, copy_se h2 hsz, h3⟩)
      (fun a2 cap2 w1 h => (specMin_any p a2 cap2 w1 h ho (by omega) (fun e h => (he' e h).1) (fun e h => (he' e h).2)).mono fun e w' ⟨a3, c3, out, h1, h2, h3, h4⟩ => ⟨a3, c3, out, h2, h1, h3, h4⟩)
      (fun a2 cap2 w1 out h hr => (implMin_any p a2 cap2 w1 h ho (by omega) (fun e h => (he' e h).1) (fun e h => (he' e h).2)).mono fun e w' ⟨a3, c3, out', h1, h2, h3, h4⟩ => by
        obtain rfl := hr.uniq h1
        exact ⟨a3, c3, h2, h3, h4⟩)
      (fun a2 a3 cap2 cap3 w1 h h' => eqPolicy_any p a2 a3 cap2 cap3 w1 h h' (by omega) he')
      (fun out hr a2 a3 cap2 cap3 w1 h h' => eqPolicy_any out a2 a3 cap2 cap3 w1 h h' (by have := (hr.bounds ho).1; omega) (fun e he => ⟨by have := ((hr.bounds ho).2 e he).1; omega, fun r hr2 => by have := ((hr.bounds ho).2 e he).2 r hr2; omega⟩))
      (fun out hr D D' w a c h => h.read (hr.bounds ho).1 (hr.bounds ho).2)

set_option maxRecDepth 100000 in
theorem lifted (os : Os) (started : os.Started) (H : Type) (enc : TypeId × Value → H) :
    ReturnsInHanded {} Tryz.checked os 4 .any (Rows.fnExactMinimiseSpec.pre6 enc Tryz.prog Tryz.f4 Rows.fnExactMinimiseRow.domain false) (Rows.fnExactMinimiseSpec.post enc Tryz.prog Tryz.f4 false true false false) := by
  refine returnsInHanded_of_change (C := Tryz.checked) own started (by kernel_rfl) Tryz.func4
    (ChangeSpec.witness6 (enc := enc) (C := Tryz.checked) false ⟨#[], #[.agg #[.slice none 0 0]], []⟩ 8 (by kernel_rfl) (by kernel_rfl) (by kernel_rfl) (by kernel_rfl)) ?_
  intro W base args ds gs before hval0 hW hcnd _
  have hval : ∀ (j : Nat) t v, Tryz.f4.params[j]? = some t → args[j]? = some v → Value.okWide Tryz.prog W .any base t v := hval0
  have hW' := hW
  obtain ⟨p, q, hA0, hV, rfl, hfz, hnd⟩ := hW
  have hA : DataW.TrodAll enc Tryz.prog W 0 (fun _ => true) true Tryz.f4.params.toList args.toList ds p := hA0
  rw [Tryz.params4] at hA hval
  obtain ⟨v0, vs0, d0, ds0, p0, q0, hargs, rfl, rfl, h0, r0⟩ := trodAll_cons hA
  obtain ⟨rfl, rfl, rfl⟩ := trodAll_nil r0
  obtain rfl : args = #[v0] := by cases args; simp_all
  obtain ⟨rfl, rfl⟩ := trodVars_none hV
  have k0 := h0
  have lt0 : ∀ x ∈ p0, x.block < W.heap.size := by obtain ⟨m, hm⟩ := k0; exact DataW.trod_lt m _ _ _ hm
  obtain ⟨pp, a, cap, rfl, hml, hsrc, hin⟩ := open_policy (hval 0 49 v0 rfl rfl) h0
  clear hA0 hval0
  refine (walk pp a cap W hsrc hml hin).mono fun e W' ⟨he, bel⟩ => ?_
  subst he
  exact ⟨_, rfl, _, _, _, [], _, [], hW', trodAll_mk1 (shut_bool Tryz.underlying4 _), (trodAll_cons_mk (Below.trod laidOut (by kernel_rfl) (of_decide_eq_true (by kernel_rfl)) k0 bel lt0) trodAll_mk0), rfl, bel.frame _, fun h => by cases h⟩

theorem proved : Rows.FnExactMinimiseSaid :=
  OpenClaim.holds_of_wide 4 Tryz.f4 rfl rfl rfl rfl rfl rfl rfl ⟨rfl, rfl, rfl, rfl, rfl⟩ rfl rfl rfl rfl rfl (by kernel_rfl) Tryz.func4 (by kernel_rfl)
    (of_decide_eq_true (by kernel_rfl)) (by unfold Func.isWrapper; first | (rw [if_pos (by decide +kernel)]; kernel_rfl) | (rw [if_neg (by decide +kernel)]; exact ⟨rfl, rfl⟩))
    (fun os started H enc _ => lifted os started H enc)
#print axioms proved
end Go.Proofs.YtioabdfddjmabaaGreat.fnExactMinimise
