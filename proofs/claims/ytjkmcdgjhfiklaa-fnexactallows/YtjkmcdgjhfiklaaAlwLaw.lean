/-
  THE LAW 'FnExactAllows': its walk and its row.
-/
import Derived.Test.YtjkmcdgjhfiklaaRows
import Derived.Test.YtjkmcdgjhfiklaaAlwC
import Derived.Test.YtjkmcdgjhfiklaaAlwF
import Derived.Test.YtjkmcdgjhfiklaaPolY
import Derived.Test.YtjkmcdgjhfiklaaPolW
import Derived.Test.YtjkmcdgjhfiklaaPolEr
import Derived.Test.YtjkmcdgjhfiklaaOpenP
import Derived.Test.YtjkmcdgjhfiklaaOpenC
import Derived.Test.YtjkmcdgjhfiklaaCallL
namespace Go.Proofs.Ytjkmcdgjhfiklaa.fnExactAllows
open Go.ChangeShapes Go.WideShapes Go.ChangeAt Go.RowKit Go.Deep
set_option linter.unusedVariables false

set_option maxRecDepth 100000 in
set_option maxHeartbeats 8000000 in
theorem walk0 (n cap m cbp : Nat) (a b : Option Addr) (ca cn : Int) (V : Bool) (z y : Int) (S U : World → Option Addr → Prop) (w : World) (hz : 0 ≤ z) (hy : 0 ≤ y)
    (H0 : Hid (∀ w1, Below w.heap.size w w1 → Calls Try.prog 17 #[.agg #[.slice a n cap], .int .i64 1048576] w1 fun e w' => e = .returned (.int .i64 z) ∧ Below w1.heap.size w1 w'))
    (H5 : Hid (∀ w1, Calls Try.prog 22 #[.agg #[.int .u32 ca, .int .u32 cn, .slice b m cbp], .int .i64 z] w1 fun e w' => e = .returned (.int .i64 y) ∧ Below w1.heap.size w1 w'))
    (H1 : Hid (∀ w1, Below w.heap.size w w1 → Calls Try.prog 19 #[.agg #[.slice a n cap]] w1 fun e w' => ∃ a2 cap2, e = .returned (.agg #[.slice a2 n cap2]) ∧ S w' a2 ∧ Below w1.heap.size w1 w'))
    (H6 : Hid (∀ w1, Below w.heap.size w w1 → Calls Try.prog 24 #[.agg #[.int .u32 ca, .int .u32 cn, .slice b m cbp]] w1 fun e w' => ∃ b2 cap2, e = .returned (.agg #[.int .u32 ca, .int .u32 cn, .slice b2 m cap2]) ∧ U w' b2 ∧ Below w1.heap.size w1 w'))
    (H2 : Hid (∀ a2 cap2 b2 cbp2 w1, S w1 a2 → U w1 b2 → Calls Try.prog 23 #[.agg #[.slice a2 n cap2], .agg #[.int .u32 ca, .int .u32 cn, .slice b2 m cbp2]] w1 fun e w' => e = .returned (.bool V) ∧ Below w1.heap.size w1 w'))
    (H3 : Hid (∀ a2 cap2 b2 cbp2 w1, S w1 a2 → U w1 b2 → Calls Try.prog 25 #[.agg #[.slice a2 n cap2], .agg #[.int .u32 ca, .int .u32 cn, .slice b2 m cbp2]] w1 fun e w' => e = .returned (.bool V) ∧ Below w1.heap.size w1 w'))
    (H4 : Hid (∀ a2 a3 cap2 cap3 w1, S w1 a2 → S w1 a3 → Calls Try.prog 21 #[.agg #[.slice a2 n cap2], .agg #[.slice a3 n cap3]] w1 fun e w' => e = .returned (.bool true) ∧ Below w1.heap.size w1 w'))
    (H7 : Hid (∀ a2 a3 cap2 cap3 w1, U w1 a2 → U w1 a3 → Calls Try.prog 26 #[.agg #[.int .u32 ca, .int .u32 cn, .slice a2 m cap2], .agg #[.int .u32 ca, .int .u32 cn, .slice a3 m cap3]] w1 fun e w' => e = .returned (.bool true) ∧ Below w1.heap.size w1 w'))
    (HK : Hid (∀ wa wb a2, Below wa.heap.size wa wb → S wa a2 → S wb a2))
    (HL : Hid (∀ wa wb a2, Below wa.heap.size wa wb → U wa a2 → U wb a2)) :
    Calls Try.prog 7 #[.agg #[.slice a n cap], .agg #[.int .u32 ca, .int .u32 cn, .slice b m cbp]] w fun e w' => e = .returned (.bool true) ∧ Below w.heap.size w w' := by
  have hz' : ¬ z < 0 := by omega
  have hy' : ¬ y < 0 := by omega
  have B0 : Below w.heap.size w ((w.alloc (.cells #[.slice a n cap] 37)).alloc (.cells #[.int .u32 ca, .int .u32 cn, .slice b m cbp] 49)) := ((Below.refl _ _).alloc (Nat.le_refl _) _).alloc (by simp) _
  have X0 := (Box1.new w 37 (.slice a n cap)).keep ((Below.refl _ _).alloc (Nat.le_refl _) (.cells #[.int .u32 ca, .int .u32 cn, .slice b m cbp] 49))
  have Y0 := BoxK.new (w.alloc (.cells #[.slice a n cap] 37)) 49 (.int .u32 ca) (.int .u32 cn) (.slice b m cbp)
  have hsz : (w.alloc (.cells #[.slice a n cap] 37)).heap.size = w.heap.size + 1 := by simp
  rw [hsz] at Y0
  clear hsz
  go_enter Try.func7, Try.ntmps7
  go_wp2_with fail
  refine (H0.out _ B0).mono ?_
  rintro e w1 ⟨rfl, hb1⟩
  have B1 := below_step hb1 B0
  have X1 := X0.keep hb1
  have Y1 := Y0.keep hb1
  have y0 := Y1.c0
  have y1 := Y1.c1
  have y2 := Y1.c2
  clear hb1 B0 X0 Y0
  go_wp2_with fail
  refine (H5.out _).mono ?_
  rintro e w2 ⟨rfl, hb2⟩
  have B2 := below_step hb2 B1
  have X2 := X1.keep hb2
  have Y2 := Y1.keep hb2
  clear hb2 B1 X1 Y1 y0 y1 y2
  go_wp2_with fail
  have SK : Hid (∀ wa wb, Below wa.heap.size wa wb → (Below w.heap.size w wa ∧ wa.cell? ⟨w.heap.size, 0, none⟩ = some (.slice a n cap) ∧ wa.cell? ⟨w.heap.size + 1, 0, none⟩ = some (.int .u32 ca) ∧ wa.cell? ⟨w.heap.size + 1, 1, none⟩ = some (.int .u32 cn) ∧ wa.cell? ⟨w.heap.size + 1, 2, none⟩ = some (.slice b m cbp)) → (Below w.heap.size w wb ∧ wb.cell? ⟨w.heap.size, 0, none⟩ = some (.slice a n cap) ∧ wb.cell? ⟨w.heap.size + 1, 0, none⟩ = some (.int .u32 ca) ∧ wb.cell? ⟨w.heap.size + 1, 1, none⟩ = some (.int .u32 cn) ∧ wb.cell? ⟨w.heap.size + 1, 2, none⟩ = some (.slice b m cbp))) := fun wa wb hb ⟨s, x, y0, y1, y2⟩ =>
    ⟨below_step hb s, cell_step hb x, cell_step hb y0, cell_step hb y1, cell_step hb y2⟩
  have hS3 : Below w.heap.size w w2.drew ∧ w2.drew.cell? ⟨w.heap.size, 0, none⟩ = some (.slice a n cap) ∧ w2.drew.cell? ⟨w.heap.size + 1, 0, none⟩ = some (.int .u32 ca) ∧ w2.drew.cell? ⟨w.heap.size + 1, 1, none⟩ = some (.int .u32 cn) ∧ w2.drew.cell? ⟨w.heap.size + 1, 2, none⟩ = some (.slice b m cbp) := SK.out w2 w2.drew ((Below.refl _ _).drew) ⟨B2, X2.c0, Y2.c0, Y2.c1, Y2.c2⟩
  clear B2 X2 Y2
  go_region_held3 (fun w' => Below w.heap.size w w' ∧ w'.cell? ⟨w.heap.size, 0, none⟩ = some (.slice a n cap) ∧ w'.cell? ⟨w.heap.size + 1, 0, none⟩ = some (.int .u32 ca) ∧ w'.cell? ⟨w.heap.size + 1, 1, none⟩ = some (.int .u32 cn) ∧ w'.cell? ⟨w.heap.size + 1, 2, none⟩ = some (.slice b m cbp))
    (assumption)
    (first
      | (go_at_call 19; refine (H1.out _ (And.left (by assumption))).mono ?_; rintro e w3 ⟨a4, cap4, rfl, hN4, hb3⟩; have hS4 := SK.out _ _ hb3 (by assumption))
      | (go_at_call 24; refine (H6.out _ (And.left hS4)).mono ?_; rintro e w4 ⟨b4, cbp4, rfl, hU4, hb4⟩; have hS5 := SK.out _ _ hb4 hS4; have hN5 := HK.out _ _ _ hb4 hN4)
      | (go_at_call 23; refine (H2.out _ _ _ _ _ hN5 hU4).mono ?_; rintro e w5 ⟨rfl, hb5⟩; have hS6 := SK.out _ _ hb5 hS5))
  all_goals
    obtain ⟨B5, x5, y50, y51, y52⟩ := hS6
    clear hS3 hS4 hS5 hN4 hN5 hU4 hb3 hb4 hb5
    go_wp2_with fail
    refine (H1.out _ B5).mono ?_
    rintro e w6 ⟨a3, cap3, rfl, hS6, hb6⟩
    have hs6 := SK.out _ _ hb6 ⟨B5, x5, y50, y51, y52⟩
    clear B5 x5 y50 y51 y52 hb6
    obtain ⟨B6, x6, y60, y61, y62⟩ := hs6
    have hb7 : Below w6.heap.size w6 (w6.alloc (.cells #[.slice a3 n cap3] 42)) := (Below.refl _ _).alloc (Nat.le_refl _) _
    have Y7 := Box1.new w6 42 (.slice a3 n cap3)
    have hs7 := SK.out _ _ hb7 ⟨B6, x6, y60, y61, y62⟩
    have hS7 := HK.out _ _ _ hb7 hS6
    obtain ⟨B7, x7, y70, y71, y72⟩ := hs7
    have hn6 := World.new_ne w6 _ y60
    clear x6
    go_wp2_with fail
    refine (H6.out _ B7).mono ?_
    clear B6 y60 y61 y62 hn6 hS6
    generalize w6.heap.size = D at *
    generalize w6.alloc (.cells #[.slice a3 n cap3] 42) = w7 at *
    clear hb7
    rintro e w8 ⟨b3, cbp3, rfl, hU8, hb8⟩
    have hs8 := SK.out _ _ hb8 ⟨B7, x7, y70, y71, y72⟩
    have Y8 := Y7.keep hb8
    have hS8 := HK.out _ _ _ hb8 hS7
    clear B7 x7 y70 y71 y72 hS7 Y7 hb8
    have hb9 : Below w8.heap.size w8 (w8.alloc (.cells #[.int .u32 ca, .int .u32 cn, .slice b3 m cbp3] 52)) := (Below.refl _ _).alloc (Nat.le_refl _) _
    have U9 := BoxK.new w8 52 (.int .u32 ca) (.int .u32 cn) (.slice b3 m cbp3)
    have hs9 := SK.out _ _ hb9 hs8
    have Y9 := Y8.keep hb9
    have z9 := Y9.c0
    have hS9 := HK.out _ _ _ hb9 hS8
    have hU9 := HL.out _ _ _ hb9 hU8
    have hn8 := World.new_ne w8 _ Y8.c0
    go_wp2_with fail
    refine (H3.out _ _ _ _ _ hS9 hU9).mono ?_
    clear hS8 hU8 Y8 hs8 z9 hn8
    generalize w8.heap.size = G at *
    generalize w8.alloc (.cells #[.int .u32 ca, .int .u32 cn, .slice b3 m cbp3] 52) = w9 at *
    clear hb9
    rintro e w10 ⟨rfl, hb10⟩
    have SK2 : Hid (∀ wa wb, Below wa.heap.size wa wb → (Below w.heap.size w wa ∧ wa.cell? ⟨w.heap.size, 0, none⟩ = some (.slice a n cap) ∧ wa.cell? ⟨w.heap.size + 1, 0, none⟩ = some (.int .u32 ca) ∧ wa.cell? ⟨w.heap.size + 1, 1, none⟩ = some (.int .u32 cn) ∧ wa.cell? ⟨w.heap.size + 1, 2, none⟩ = some (.slice b m cbp) ∧ wa.cell? ⟨D, 0, none⟩ = some (.slice a3 n cap3) ∧ wa.cell? ⟨G, 0, none⟩ = some (.int .u32 ca) ∧ wa.cell? ⟨G, 1, none⟩ = some (.int .u32 cn) ∧ wa.cell? ⟨G, 2, none⟩ = some (.slice b3 m cbp3) ∧ S wa a3 ∧ U wa b3) → (Below w.heap.size w wb ∧ wb.cell? ⟨w.heap.size, 0, none⟩ = some (.slice a n cap) ∧ wb.cell? ⟨w.heap.size + 1, 0, none⟩ = some (.int .u32 ca) ∧ wb.cell? ⟨w.heap.size + 1, 1, none⟩ = some (.int .u32 cn) ∧ wb.cell? ⟨w.heap.size + 1, 2, none⟩ = some (.slice b m cbp) ∧ wb.cell? ⟨D, 0, none⟩ = some (.slice a3 n cap3) ∧ wb.cell? ⟨G, 0, none⟩ = some (.int .u32 ca) ∧ wb.cell? ⟨G, 1, none⟩ = some (.int .u32 cn) ∧ wb.cell? ⟨G, 2, none⟩ = some (.slice b3 m cbp3) ∧ S wb a3 ∧ U wb b3)) := fun wa wb hb ⟨s, x, y0, y1, y2, z, u0, u1, u2, hs, hu⟩ =>
    ⟨below_step hb s, cell_step hb x, cell_step hb y0, cell_step hb y1, cell_step hb y2, cell_step hb z, cell_step hb u0, cell_step hb u1, cell_step hb u2, HK.out _ _ _ hb hs, HL.out _ _ _ hb hu⟩
    have hs10 := SK2.out _ _ hb10 ⟨hs9.1, hs9.2.1, hs9.2.2.1, hs9.2.2.2.1, hs9.2.2.2.2, Y9.c0, U9.c0, U9.c1, U9.c2, hS9, hU9⟩
    clear hs9 Y9 U9 hS9 hU9 hb10 SK
    go_wp2_with fail
    have hs11 : Below w.heap.size w w10.drew ∧ w10.drew.cell? ⟨w.heap.size, 0, none⟩ = some (.slice a n cap) ∧ w10.drew.cell? ⟨w.heap.size + 1, 0, none⟩ = some (.int .u32 ca) ∧ w10.drew.cell? ⟨w.heap.size + 1, 1, none⟩ = some (.int .u32 cn) ∧ w10.drew.cell? ⟨w.heap.size + 1, 2, none⟩ = some (.slice b m cbp) ∧ w10.drew.cell? ⟨D, 0, none⟩ = some (.slice a3 n cap3) ∧ w10.drew.cell? ⟨G, 0, none⟩ = some (.int .u32 ca) ∧ w10.drew.cell? ⟨G, 1, none⟩ = some (.int .u32 cn) ∧ w10.drew.cell? ⟨G, 2, none⟩ = some (.slice b3 m cbp3) ∧ S w10.drew a3 ∧ U w10.drew b3 := SK2.out w10 w10.drew ((Below.refl _ _).drew) hs10
    clear hs10
    go_region_held3 (fun w' => Below w.heap.size w w' ∧ w'.cell? ⟨w.heap.size, 0, none⟩ = some (.slice a n cap) ∧ w'.cell? ⟨w.heap.size + 1, 0, none⟩ = some (.int .u32 ca) ∧ w'.cell? ⟨w.heap.size + 1, 1, none⟩ = some (.int .u32 cn) ∧ w'.cell? ⟨w.heap.size + 1, 2, none⟩ = some (.slice b m cbp) ∧ w'.cell? ⟨D, 0, none⟩ = some (.slice a3 n cap3) ∧ w'.cell? ⟨G, 0, none⟩ = some (.int .u32 ca) ∧ w'.cell? ⟨G, 1, none⟩ = some (.int .u32 cn) ∧ w'.cell? ⟨G, 2, none⟩ = some (.slice b3 m cbp3) ∧ S w' a3 ∧ U w' b3)
      (assumption)
      (first
        | (go_at_call 19; refine (H1.out _ (And.left (by assumption))).mono ?_; rintro e w12 ⟨a12, cap12, rfl, hN12, hb12⟩; have hs12 := SK2.out _ _ hb12 (by assumption))
        | (go_at_call 21; refine (H4.out _ _ _ _ _ hs12.2.2.2.2.2.2.2.2.2.1 hN12).mono ?_; rintro e w13 ⟨rfl, hb13⟩; have hs13 := SK2.out _ _ hb13 hs12))
    all_goals
      clear hs11 hs12 hb12 hb13 hN12
      go_wp2_with fail
      have hs14 : Below w.heap.size w w13.drew ∧ w13.drew.cell? ⟨w.heap.size, 0, none⟩ = some (.slice a n cap) ∧ w13.drew.cell? ⟨w.heap.size + 1, 0, none⟩ = some (.int .u32 ca) ∧ w13.drew.cell? ⟨w.heap.size + 1, 1, none⟩ = some (.int .u32 cn) ∧ w13.drew.cell? ⟨w.heap.size + 1, 2, none⟩ = some (.slice b m cbp) ∧ w13.drew.cell? ⟨D, 0, none⟩ = some (.slice a3 n cap3) ∧ w13.drew.cell? ⟨G, 0, none⟩ = some (.int .u32 ca) ∧ w13.drew.cell? ⟨G, 1, none⟩ = some (.int .u32 cn) ∧ w13.drew.cell? ⟨G, 2, none⟩ = some (.slice b3 m cbp3) ∧ S w13.drew a3 ∧ U w13.drew b3 := SK2.out w13 w13.drew ((Below.refl _ _).drew) hs13
      clear hs13
      go_region_held3 (fun w' => Below w.heap.size w w' ∧ w'.cell? ⟨w.heap.size, 0, none⟩ = some (.slice a n cap) ∧ w'.cell? ⟨w.heap.size + 1, 0, none⟩ = some (.int .u32 ca) ∧ w'.cell? ⟨w.heap.size + 1, 1, none⟩ = some (.int .u32 cn) ∧ w'.cell? ⟨w.heap.size + 1, 2, none⟩ = some (.slice b m cbp) ∧ w'.cell? ⟨D, 0, none⟩ = some (.slice a3 n cap3) ∧ w'.cell? ⟨G, 0, none⟩ = some (.int .u32 ca) ∧ w'.cell? ⟨G, 1, none⟩ = some (.int .u32 cn) ∧ w'.cell? ⟨G, 2, none⟩ = some (.slice b3 m cbp3) ∧ S w' a3 ∧ U w' b3)
        (assumption)
        (first
          | (go_at_call 24; refine (H6.out _ (And.left (by assumption))).mono ?_; rintro e w15 ⟨b15, cap15, rfl, hN15, hb15⟩; have hs15 := SK2.out _ _ hb15 (by assumption))
          | (go_at_call 26; refine (H7.out _ _ _ _ _ hs15.2.2.2.2.2.2.2.2.2.2 hN15).mono ?_; rintro e w16 ⟨rfl, hb16⟩; have hs16 := SK2.out _ _ hb16 hs15))
      all_goals
        have B16 : Below w.heap.size w w16 := hs16.1
        clear hs14 hs15 hs16
        go_wp2
        go_ret
        exact ⟨rfl, B16⟩

set_option maxRecDepth 100000 in
set_option maxHeartbeats 1000000 in
theorem walk1 (n cap m cbp : Nat) (a b : Option Addr) (ca cn : Int) (w : World)
    (H0 : Hid (∀ w1, Below w.heap.size w w1 → Calls Try.prog 17 #[.agg #[.slice a n cap], .int .i64 1048576] w1 fun e w' => e = .returned (.int .i64 (-1)) ∧ Below w1.heap.size w1 w')) :
    Calls Try.prog 7 #[.agg #[.slice a n cap], .agg #[.int .u32 ca, .int .u32 cn, .slice b m cbp]] w fun e w' => e = .returned (.bool true) ∧ Below w.heap.size w w' := by
  have B0 : Below w.heap.size w ((w.alloc (.cells #[.slice a n cap] 37)).alloc (.cells #[.int .u32 ca, .int .u32 cn, .slice b m cbp] 49)) := ((Below.refl _ _).alloc (Nat.le_refl _) _).alloc (by simp) _
  go_enter Try.func7, Try.ntmps7
  go_wp2_with fail
  refine (H0.out _ B0).mono ?_
  rintro e w1 ⟨rfl, hb1⟩
  have B1 := below_step hb1 B0
  go_wp2
  go_ret
  exact ⟨rfl, B1⟩

set_option maxRecDepth 100000 in
set_option maxHeartbeats 1000000 in
theorem walk2 (n cap m cbp : Nat) (a b : Option Addr) (ca cn z : Int) (w : World) (hz : 0 ≤ z)
    (H0 : Hid (∀ w1, Below w.heap.size w w1 → Calls Try.prog 17 #[.agg #[.slice a n cap], .int .i64 1048576] w1 fun e w' => e = .returned (.int .i64 z) ∧ Below w1.heap.size w1 w'))
    (H5 : Hid (∀ w1, Calls Try.prog 22 #[.agg #[.int .u32 ca, .int .u32 cn, .slice b m cbp], .int .i64 z] w1 fun e w' => e = .returned (.int .i64 (-1)) ∧ Below w1.heap.size w1 w')) :
    Calls Try.prog 7 #[.agg #[.slice a n cap], .agg #[.int .u32 ca, .int .u32 cn, .slice b m cbp]] w fun e w' => e = .returned (.bool true) ∧ Below w.heap.size w w' := by
  have hz' : ¬ z < 0 := by omega
  have B0 : Below w.heap.size w ((w.alloc (.cells #[.slice a n cap] 37)).alloc (.cells #[.int .u32 ca, .int .u32 cn, .slice b m cbp] 49)) := ((Below.refl _ _).alloc (Nat.le_refl _) _).alloc (by simp) _
  have Y0 := BoxK.new (w.alloc (.cells #[.slice a n cap] 37)) 49 (.int .u32 ca) (.int .u32 cn) (.slice b m cbp)
  have hsz : (w.alloc (.cells #[.slice a n cap] 37)).heap.size = w.heap.size + 1 := by simp
  rw [hsz] at Y0
  clear hsz
  go_enter Try.func7, Try.ntmps7
  go_wp2_with fail
  refine (H0.out _ B0).mono ?_
  rintro e w1 ⟨rfl, hb1⟩
  have B1 := below_step hb1 B0
  have Y1 := Y0.keep hb1
  have y0 := Y1.c0
  have y1 := Y1.c1
  have y2 := Y1.c2
  go_wp2_with fail
  refine (H5.out _).mono ?_
  rintro e w2 ⟨rfl, hb2⟩
  have B2 := below_step hb2 B1
  go_wp2
  go_ret
  exact ⟨rfl, B2⟩

theorem walk (p : List E) (c : C) (a b : Option Addr) (cap cbp : Nat) (w : World) (hs : LSrc 3 PE w a p) (hm : p.length ≤ maxLen) (hin : ∀ e ∈ p, EntryIn e) (hu : USrc w b c.args) (hcm : c.args.length ≤ maxLen) (hc : c.ok) :
    Calls Try.prog 7 #[.agg #[.slice a p.length cap], callV c (.slice b c.args.length cbp)] w fun e w' => e = .returned (.bool true) ∧ Below w.heap.size w w' := by
  have ho : okP p := fun e he => (hin e he).1
  have hl : p.length ≤ 9223372036854775807 ∧ ∀ e ∈ p, e.rules.length ≤ 9223372036854775807 ∧ ∀ r ∈ e.rules, r.length ≤ 9223372036854775807 := by
    unfold EntryIn maxLen at hin
    unfold maxLen at hm
    exact ⟨by omega, fun e he => ⟨by have := (hin e he).2.1; omega, fun r hr => by have := (hin e he).2.2 r hr; omega⟩⟩
  unfold maxLen at hcm
  have H0 : ∀ w1, Below w.heap.size w w1 → Calls Try.prog 17 #[.agg #[.slice a p.length cap], .int .i64 1048576] w1 fun e w' => e = .returned (.int .i64 (szF 1048576 (sizeP p))) ∧ Below w1.heap.size w1 w' :=
    fun w1 hb => szPolicy_any p a cap 1048576 w1 (hs.below PE.stays hb) hl.1 hl.2 (by omega) (by omega)
  by_cases h : (1048576 : Int) < sizeP p
  · rw [szF_no h] at H0
    exact walk1 _ cap _ cbp a b _ _ w H0
  · rw [szF_yes h] at H0
    have H5 : ∀ w1, Calls Try.prog 22 #[callV c (.slice b c.args.length cbp), .int .i64 (1048576 - (sizeP p : Int))] w1 fun e w' => e = .returned (.int .i64 (if 1048576 - (sizeP p : Int) - c.args.length < 0 then -1 else 1048576 - (sizeP p : Int) - c.args.length)) ∧ Below w1.heap.size w1 w' := fun w1 => szCall_any c b cbp _ w1 (by omega) (by omega) (by omega)
    by_cases h2 : 1048576 - (sizeP p : Int) - c.args.length < 0
    · rw [if_pos h2] at H5
      exact walk2 _ cap _ cbp a b _ _ _ w (by omega) H0 H5
    · rw [if_neg h2] at H5
      have hsz : sizeP p ≤ 1048576 := by omega
      have hcl : c.args.length ≤ 1048576 := by omega
      have hp : p.length ≤ 1048576 := by unfold sizeP at hsz; omega
      have he : ∀ e ∈ p, e.rules.length ≤ 1048576 ∧ ∀ r ∈ e.rules, r.length ≤ 1048576 := by
        intro e he
        have h1 : sizeE e ≤ sumBy sizeE p := sumBy_mem sizeE he
        have h2 : sizeE e ≤ 1048576 := by unfold sizeP at hsz; omega
        unfold sizeE sizeRs at h2
        refine ⟨by omega, fun r hr => ?_⟩
        have h3 : r.length ≤ sumBy List.length e.rules := sumBy_mem List.length hr
        omega
      have he' : ∀ e ∈ p, e.rules.length ≤ 16777216 ∧ ∀ r ∈ e.rules, r.length ≤ 16777216 := fun e h => ⟨by have := (he e h).1; omega, fun r hr => by have := (he e h).2 r hr; omega⟩
      have hcu : ∀ y ∈ c.args, isU64 y := hc.2.2.2.2
      exact walk0 p.length cap c.args.length cbp a b c.arch c.nr (allowsP p c) _ _ (fun w a => LSrc 3 PE w a p) (fun w b => USrc w b c.args) w (by omega) (by omega) H0 H5
        (fun w1 hb => (toPolicy_any p a cap w1 (hs.below PE.stays hb) hp he).mono fun e w' ⟨a2, cap2, h1, h2, h3⟩ => ⟨a2, cap2, h1, h2.plain fun _ _ _ h => h.plain, h3⟩)
        (fun w1 hb => (toCall_any c b cbp w1 (hu.below hb) hcl).mono fun e w' ⟨v', h1, h2, h3⟩ => by
          obtain ⟨a2, cap2, rfl, h4⟩ := ownsU_src h2
          exact ⟨a2, cap2, h1, h4, h3⟩)
        (fun a2 cap2 b2 cbp2 w1 h g => specAllows_any p c a2 b2 cap2 cbp2 w1 h g ho hcu (by omega) (by omega) (fun e h => (he' e h).1) (fun e h => (he' e h).2))
        (fun a2 cap2 b2 cbp2 w1 h g => implAllows_any p c a2 b2 cap2 cbp2 w1 h g ho hcu (by omega) (by omega) (fun e h => (he' e h).1) (fun e h => (he' e h).2))
        (fun a2 a3 cap2 cap3 w1 h h' => eqPolicy_any p a2 a3 cap2 cap3 w1 h h' (by omega) he')
        (fun a2 a3 cap2 cap3 w1 h h' => eqCall_any c a2 a3 cap2 cap3 w1 h h' (by omega))
        (fun wa wb a2 hb h => h.below PE.stays hb)
        (fun wa wb a2 hb h => h.below hb)

set_option maxRecDepth 100000 in
theorem lifted (os : Os) (started : os.Started) (H : Type) (enc : TypeId × Value → H) :
    ReturnsInHanded {} Try.checked os 7 .any (Rows.fnExactAllowsSpec.pre6 enc Try.prog Try.f7 Rows.fnExactAllowsRow.domain false) (Rows.fnExactAllowsSpec.post enc Try.prog Try.f7 false true false false) := by
  refine returnsInHanded_of_change (C := Try.checked) own started (by kernel_rfl) Try.func7
    (ChangeSpec.witness6 (enc := enc) (C := Try.checked) false ⟨#[], #[.agg #[.slice none 0 0], .agg #[.int .u32 0, .int .u32 0, .slice none 0 0]], []⟩ 8 (by kernel_rfl) (by kernel_rfl) (by kernel_rfl) (by kernel_rfl)) ?_
  intro W base args ds gs before hval0 hW hcnd _
  have hval : ∀ (j : Nat) t v, Try.f7.params[j]? = some t → args[j]? = some v → Value.okWide Try.prog W .any base t v := hval0
  have hW' := hW
  obtain ⟨p, q, hA0, hV, rfl, hfz, hnd⟩ := hW
  have hA : DataW.TrodAll enc Try.prog W 0 (fun _ => true) true Try.f7.params.toList args.toList ds p := hA0
  rw [Try.params7] at hA hval
  obtain ⟨v0, vs0, d0, ds0, p0, q0, hargs, rfl, rfl, h0, r0⟩ := trodAll_cons hA
  obtain ⟨v1, vs1, d1, ds1, p1, q1, hargs1, rfl, rfl, h1, r1⟩ := trodAll_cons r0
  obtain ⟨rfl, rfl, rfl⟩ := trodAll_nil r1
  obtain rfl : args = #[v0, v1] := by cases args; simp_all
  obtain ⟨rfl, rfl⟩ := trodVars_none hV
  have k0 := h0
  have k1 := h1
  have lt0 : ∀ x ∈ p0, x.block < W.heap.size := by obtain ⟨m, hm⟩ := k0; exact DataW.trod_lt m _ _ _ hm
  have lt1 : ∀ x ∈ p1, x.block < W.heap.size := by obtain ⟨m, hm⟩ := k1; exact DataW.trod_lt m _ _ _ hm
  obtain ⟨pp, a, cap, rfl, hml, hsrc, hin⟩ := open_policy (hval 0 37 v0 rfl rfl) h0
  obtain ⟨c, b, cbp, rfl, hcm, hus, hok⟩ := open_call (hval 1 49 v1 rfl rfl) h1
  clear hA0 hval0
  refine (walk pp c a b cap cbp W hsrc hml hin hus hcm hok).mono fun e W' ⟨he, bel⟩ => ?_
  subst he
  exact ⟨_, rfl, _, _, _, [], _, [], hW', trodAll_mk1 (shut_bool Try.underlying4 _), (trodAll_cons_mk (Below.trod laidOut (by kernel_rfl) (of_decide_eq_true (by kernel_rfl)) k0 bel lt0) (trodAll_cons_mk (Below.trod laidOut (by kernel_rfl) (of_decide_eq_true (by kernel_rfl)) k1 bel lt1) trodAll_mk0)), rfl, bel.frame _, fun h => by cases h⟩

theorem proved : Rows.FnExactAllowsSaid :=
  OpenClaim.holds_of_wide 7 Try.f7 rfl rfl rfl rfl rfl rfl rfl ⟨rfl, rfl, rfl, rfl, rfl⟩ rfl rfl rfl rfl rfl (by kernel_rfl) Try.func7 (by kernel_rfl)
    (of_decide_eq_true (by kernel_rfl)) (by unfold Func.isWrapper; first | (rw [if_pos (by decide +kernel)]; kernel_rfl) | (rw [if_neg (by decide +kernel)]; exact ⟨rfl, rfl⟩))
    (fun os started H enc _ => lifted os started H enc)
#print axioms proved
end Go.Proofs.Ytjkmcdgjhfiklaa.fnExactAllows
