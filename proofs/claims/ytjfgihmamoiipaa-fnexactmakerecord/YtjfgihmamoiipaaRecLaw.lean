/-
  THE LAW 'FnExactMakeRecord': its walk and its row.
-/
import Derived.Test.YtjfgihmamoiipaaRows
import Derived.Test.YtjfgihmamoiipaaRecS
import Derived.Test.YtjfgihmamoiipaaOpenC
namespace Go.Proofs.Ytjfgihmamoiipaa.fnExactMakeRecord
open Go.ChangeShapes Go.WideShapes Go.ChangeAt Go.RowKit Go.Deep
set_option linter.unusedVariables false

theorem recB_len (c : C) (ip : Int) : (recB c ip).length ≤ 64 := by
  unfold recB
  split
  · rename_i h; simp [littleL_len, longsB_len, h]
  · simp

theorem Box3.grown {w w1 : World} {g : Nat} {x y z : Value} {row : Option Nat} (h : Box3 w g x y z) (hg : w.grownBy w1 row) (hne : some g ≠ row) : Box3 w1 g x y z := by
  have e := hg.block g h.lt hne
  have ec : ∀ o, w1.cell? ⟨g, o, none⟩ = w.cell? ⟨g, o, none⟩ := fun o => World.cell?_of_block (w := w) e
  have ef : ∀ o, w1.frozen? ⟨g, o, none⟩ = w.frozen? ⟨g, o, none⟩ := fun o => by simp [World.frozen?, e]
  exact ⟨Nat.lt_of_lt_of_le h.lt hg.size, (ec 0).trans h.c0, (ec 1).trans h.c1, (ec 2).trans h.c2, (ef 0).trans h.f0, (ef 1).trans h.f1, (ef 2).trans h.f2⟩

set_option maxRecDepth 100000 in
set_option maxHeartbeats 4000000 in
theorem walk (c : C) (a : Option Addr) (cap : Nat) (ip : Int) (w : World) (hs : USrc w a c.args) (hok : c.ok) (hm : c.args.length ≤ maxLen) (hip : isU64 ip) :
    Calls Try.prog 11 #[callV c (.slice a c.args.length cap), .int .u64 ip] w fun e w' => e = .returned (.bool true) ∧ Below w.heap.size w w' := by
  unfold maxLen at hm
  by_cases hn : c.args.length ≤ 1048576
  · have HSz : Hid (∀ w1, Calls Try.prog 41 #[callV c (.slice a c.args.length cap), .int .i64 1048576] w1 fun e w' => e = .returned (.int .i64 (1048576 - c.args.length)) ∧ Below w1.heap.size w1 w') := by
      intro w1
      refine (szCall_any c a cap 1048576 w1 (by omega) (by omega) (by omega)).mono ?_
      rintro e w' ⟨rfl, hb⟩
      exact ⟨by rw [if_neg (by omega)], hb⟩
    have HC1 : Hid (∀ w1, Below w.heap.size w w1 → Calls Try.prog 43 #[callV c (.slice a c.args.length cap)] w1 fun e w' => ∃ v', e = .returned (callV c v') ∧ ownsU w' w1.heap.size v' c.args ∧ Below w1.heap.size w1 w') :=
      fun w1 hB => toCall_any c a cap w1 (hs.below hB) hn
    have HC2 : Hid (∀ B v w1, ownsU w1 B v c.args → Calls Try.prog 42 #[callV c v, .int .u64 ip] w1 fun e w' => ∃ v', e = .returned v' ∧ owns w' w1.heap.size v' (recB c ip) ∧ Below w1.heap.size w1 w') := by
      intro B v w1 h
      obtain ⟨a', cap', rfl, h'⟩ := ownsU_src h
      exact specRecord_any c a' cap' ip w1 h' hok hip
    have HC3 : Hid (∀ B v w1, ownsU w1 B v c.args → Calls Try.prog 44 #[callV c v, .int .u64 ip] w1 fun e w' => ∃ v', e = .returned v' ∧ owns w' w1.heap.size v' (recB c ip) ∧ Below w1.heap.size w1 w') := by
      intro B v w1 h
      obtain ⟨a', cap', rfl, h'⟩ := ownsU_src h
      exact implRecord_any c a' cap' ip w1 h' hok hip
    have HC4 : Hid (∀ B B' v v' w1, ownsU w1 B v c.args → ownsU w1 B' v' c.args → Calls Try.prog 45 #[callV c v, callV c v'] w1 fun e w' => e = .returned (.bool true) ∧ Below w1.heap.size w1 w') :=
      fun B B' v v' w1 h h' => eqCall_own h h' (by omega)
    have HC5 : Hid (∀ B v w1, ownsU w1 B v c.args → Calls Try.prog 46 #[callV c v, .int .i64 1] w1 fun e w' => e = .returned (.int .i64 (1 + c.args.length)) ∧ w1.grownBy w' v.ownBlock) :=
      fun B v w1 h => markCall_own 1 h (by omega) (by omega) (by omega)
    have hL : (recB c ip).length ≤ 64 := recB_len c ip
    generalize recB c ip = L at *
    have HO : Hid (∀ w1 w2 B v, ownsU w1 B v c.args → Below w1.heap.size w1 w2 → ownsU w2 B v c.args) := fun w1 w2 B v h hb => ownsU_below h hb
    have HOlt : Hid (∀ w1 B v q, ownsU w1 B v c.args → v.ownBlock = some q → B ≤ q ∧ q < w1.heap.size) := fun w1 B v q h hq => h.lt q hq
    have HOs : Hid (∀ w1 B v, ownsU w1 B v c.args → ∃ ax cx, v = .slice ax c.args.length cx) := fun w1 B v h => by obtain ⟨ax, cx, h1, _⟩ := ownsU_src h; exact ⟨ax, cx, h1⟩
    obtain ⟨OW, hOW⟩ : ∃ OW : World → Nat → Value → Prop, ∀ w B v, ownsU w B v c.args = OW w B v := ⟨fun w B v => ownsU w B v c.args, fun _ _ _ => rfl⟩
    simp only [hOW] at HC1 HC2 HC3 HC4 HC5 HO HOlt HOs
    clear hs hok hOW
    obtain ⟨ar, nr, args⟩ := c
    simp only at *
    generalize args.length = n at *
    go_enter Try.func11, Try.ntmps11
    go_wp2_with fail
    have X := Box3.new w 60 (.int .u32 ar) (.int .u32 nr) (.slice a n cap)
    have B0 : Below w.heap.size w (w.alloc (.cells #[.int .u32 ar, .int .u32 nr, .slice a n cap] 60)) := (Below.refl _ _).alloc (Nat.le_refl _) _
    have hG := X.lt
    generalize w.alloc (.cells #[.int .u32 ar, .int .u32 nr, .slice a n cap] 60) = W at *
    refine (HSz.out _).mono ?_
    rintro e w1 ⟨rfl, b1⟩
    have X1 := X.keep b1
    have B1 : Below W.heap.size W w1 := b1
    obtain ⟨_, q0, q1, q2, _, _, _⟩ := X1
    go_wp2_with fail
    refine (HC1.out _ (B0.trans (B1.mono B0.size))).mono ?_
    rintro e w2 ⟨v2, rfl, o2, b2⟩
    have B2 : Below W.heap.size W w2 := B1.trans (b2.mono B1.size)
    clear b1 b2 B1 q0 q1 q2
    go_wp2_with fail
    refine (HC2.out _ _ _ o2).mono ?_
    rintro e w3 ⟨vw, rfl, ow3, b3⟩
    have B3 : Below W.heap.size W w3 := B2.trans (b3.mono B2.size)
    have bw : ∀ q, vw.ownBlock = some q → q < w3.heap.size := fun q hq => (ow3.lt q hq).2
    have bw2 : ∀ q, vw.ownBlock = some q → W.heap.size ≤ q := fun q hq => by have := (ow3.lt q hq).1; have := B2.size; omega
    have X3 := X.keep B3
    clear o2 b3 B2
    obtain ⟨_, q0, q1, q2, _, _, _⟩ := X3
    go_wp2_with fail
    refine (HC1.out _ (B0.trans (B3.mono B0.size))).mono ?_
    rintro e w4 ⟨vx, rfl, ox4, b4⟩
    obtain ⟨ax, cx, hvx⟩ := HOs.out _ _ _ ox4
    subst hvx
    have B4 : Below W.heap.size W w4 := B3.trans (b4.mono B3.size)
    have hs34 := b4.size
    have ow4 := owns_below ow3 b4
    have bx : ∀ q, (Value.slice ax n cx).ownBlock = some q → w3.heap.size ≤ q ∧ q < w4.heap.size := fun q hq => HOlt.out _ _ _ _ ox4 hq
    clear b4 ow3 q0 q1 q2
    have hs3 := B3.size
    clear B3
    go_wp2_with fail
    have Y := Box3.new w4 64 (.int .u32 ar) (.int .u32 nr) (.slice ax n cx)
    have b5 : Below w4.heap.size w4 (w4.alloc (.cells #[.int .u32 ar, (.int .u32 nr), (.slice ax n cx)] 64)) := (Below.refl _ _).alloc (Nat.le_refl _) _
    have B5 := B4.trans (b5.mono B4.size)
    have ow5 := owns_below ow4 b5
    have ox5 := HO.out _ _ _ _ ox4 b5
    have hs4 := B4.size
    have hD : w4.heap.size < (w4.alloc (.cells #[.int .u32 ar, (.int .u32 nr), (.slice ax n cx)] 64)).heap.size := by simp
    generalize w4.alloc (.cells #[.int .u32 ar, (.int .u32 nr), (.slice ax n cx)] 64) = w5 at *
    generalize w4.heap.size = D at *
    clear ow4 ox4 b5 B4
    refine (HC3.out _ _ _ ox5).mono ?_
    rintro e w6 ⟨vg, rfl, og6, b6⟩
    have B6 := B5.trans (b6.mono B5.size)
    have ow6 := owns_below ow5 b6
    have ox6 := HO.out _ _ _ _ ox5 b6
    have Y6 := Y.keep b6
    have bg : ∀ q, vg.ownBlock = some q → D < q := fun q hq => by have := (og6.lt q hq).1; omega
    clear ow5 ox5 b6 B5 Y
    go_wp2_with fail
    refine (eqByteS_own og6 ow6 (by omega)).mono ?_
    rintro e w7 ⟨rfl, b7⟩
    have B7 := B6.trans (b7.mono B6.size)
    have ow7 := owns_below ow6 b7
    have og7 := owns_below og6 b7
    have ox7 := HO.out _ _ _ _ ox6 b7
    have Y7 := Y6.keep b7
    have X7 := X.keep B7
    clear ow6 og6 ox6 b7 B6 Y6
    have b7d : Below w7.heap.size w7 w7.drew := (Below.refl _ _).drew
    have B7d := B7.trans (b7d.mono B7.size)
    have ow7d := owns_below ow7 b7d
    have og7d := owns_below og7 b7d
    have ox7d := HO.out _ _ _ _ ox7 b7d
    have Y7d := Y7.keep b7d
    have Y7' := Y7
    clear ow7 og7 ox7 b7d B7
    obtain ⟨_, q0, q1, q2, _, _, _⟩ := X7
    obtain ⟨_, y0, y1, y2, _, _, _⟩ := Y7'
    go_wp2_with fail
    go_region_with (first
      | (go_at_call 43; refine (HC1.out _ (B0.trans (B7d.mono B0.size))).mono ?_; rintro e w8 ⟨v8, rfl, o8, b8⟩; obtain ⟨_, z0, z1, z2, _, _, _⟩ := Y7d.keep b8)
      | (go_at_call 45; refine (HC4.out _ _ _ _ _ (HO.out _ _ _ _ ox7d b8) o8).mono ?_; rintro e w9 ⟨rfl, b9⟩))
    all_goals
      have B9 := (B7d.trans (b8.mono B7d.size)).trans (b9.mono (Nat.le_trans B7d.size b8.size))
      have ow9 := owns_below (owns_below ow7d b8) b9
      have og9 := owns_below (owns_below og7d b8) b9
      have ox9 := HO.out _ _ _ _ (HO.out _ _ _ _ ox7d b8) b9
      have Y9 := (Y7d.keep b8).keep b9
      clear ow7d og7d ox7d o8 b8 b9 B7d Y7d
      obtain ⟨_, y0, y1, y2, _, _, _⟩ := Y9
      go_wp2_with fail
      refine (HC5.out _ _ _ ox9).mono ?_
      rintro e w10 ⟨rfl, hG1⟩
      have ow10 := owns_kept ow9 hG1 (fun q hq e => by have := bw q hq; have := bx q e.symm; omega)
      have og10 := owns_kept og9 hG1 (fun q hq e => by have := bg q hq; have := bx q e.symm; omega)
      have B10 : Below W.heap.size W w10 := B9.grown hG1 B9.size (fun q hq => by have := bx q hq; omega)
      clear hG1 ow9 og9 ox9 B9 y0 y1 y2
      have hk : decide ((1 : Int) + (n : Int) < 0) = false := by simp; omega
      go_wp2_with fail
      refine (eqByteS_own og10 ow10 (by omega)).mono ?_
      rintro e w11 ⟨rfl, b11⟩
      have B11 := B10.trans (b11.mono B10.size)
      have ow11 := owns_below ow10 b11
      have og11 := owns_below og10 b11
      clear b11 ow10 og10 B10
      go_wp2_with fail
      refine (markByteS_own 1 og11 (by omega) (by omega) (by omega)).mono ?_
      rintro e w12 ⟨rfl, hMV, hG2⟩
      have ow12 := owns_kept ow11 hG2 (fun q hq e => by have := bw q hq; have := bg q e.symm; omega)
      have B12 : Below W.heap.size W w12 := B11.grown hG2 B11.size (fun q hq => by have := bg q hq; omega)
      clear hG2 ow11 og11 B11
      go_wp2_with fail
      refine (heldByteS_own 1 hMV (by omega) (by omega) (by omega)).mono ?_
      rintro e w12 ⟨rfl, rfl⟩
      have X12 := X.keep B12
      obtain ⟨_, q0, q1, q2, _, _, _⟩ := X12
      go_wp2_with fail
      refine (HC1.out _ (B0.trans (B12.mono B0.size))).mono ?_
      rintro e w13 ⟨v13, rfl, o13, b13⟩
      have ow13 := owns_below ow12 b13
      have B13 := B12.trans (b13.mono B12.size)
      clear b13 ow12 B12 hMV q0 q1 q2
      go_wp2_with fail
      refine (HC3.out _ _ _ o13).mono ?_
      rintro e w14 ⟨vh, rfl, oh14, b14⟩
      have ow14 := owns_below ow13 b14
      have B14 := B13.trans (b14.mono B13.size)
      clear b14 ow13 B13 o13
      go_wp2_with fail
      refine (eqByteS_own oh14 ow14 (by omega)).mono ?_
      rintro e w15 ⟨rfl, b15⟩
      have B15 := B14.trans (b15.mono B14.size)
      have B16 := B0.trans (B15.mono B0.size)
      clear b15 B14 B15 ow14 oh14
      go_wp2
      go_ret
      exact ⟨rfl, B16⟩
  · have hlt : (1048576 : Int) - c.args.length < 0 := by omega
    have HSz : Hid (∀ w1, Calls Try.prog 41 #[callV c (.slice a c.args.length cap), .int .i64 1048576] w1 fun e w' => e = .returned (.int .i64 (-1)) ∧ Below w1.heap.size w1 w') := by
      intro w1
      refine (szCall_any c a cap 1048576 w1 (by omega) (by omega) (by omega)).mono ?_
      rintro e w' ⟨rfl, hb⟩
      exact ⟨by rw [if_pos hlt], hb⟩
    obtain ⟨ar, nr, args⟩ := c
    simp only at *
    go_enter Try.func11, Try.ntmps11
    go_wp2_with fail
    have B0 : Below w.heap.size w (w.alloc (.cells #[.int .u32 ar, .int .u32 nr, .slice a args.length cap] 60)) := (Below.refl _ _).alloc (Nat.le_refl _) _
    refine (HSz.out _).mono ?_
    rintro e w1 ⟨rfl, b1⟩
    have B1 := B0.trans (b1.mono B0.size)
    go_wp2
    go_ret
    exact ⟨rfl, B1⟩

set_option maxRecDepth 100000 in
theorem lifted (os : Os) (started : os.Started) (H : Type) (enc : TypeId × Value → H) :
    ReturnsInHanded {} Try.checked os 11 .any (Rows.fnExactMakeRecordSpec.pre6 enc Try.prog Try.f11 Rows.fnExactMakeRecordRow.domain false) (Rows.fnExactMakeRecordSpec.post enc Try.prog Try.f11 false true false false) := by
  refine returnsInHanded_of_change (C := Try.checked) own started (by kernel_rfl) Try.func11
    (ChangeSpec.witness6 (enc := enc) (C := Try.checked) false ⟨#[], #[.agg #[.int .u32 0, .int .u32 0, .slice none 0 0], .int .u64 0], []⟩ 8 (by kernel_rfl) (by kernel_rfl) (by kernel_rfl) (by kernel_rfl)) ?_
  intro W base args ds gs before hval0 hW hcnd _
  have hval : ∀ (j : Nat) t v, Try.f11.params[j]? = some t → args[j]? = some v → Value.okWide Try.prog W .any base t v := hval0
  have hW' := hW
  obtain ⟨p, q, hA0, hV, rfl, hfz, hnd⟩ := hW
  have hA : DataW.TrodAll enc Try.prog W 0 (fun _ => true) true Try.f11.params.toList args.toList ds p := hA0
  rw [Try.params11] at hA hval
  obtain ⟨v0, vs0, d0, ds0, p0, q0, hargs, rfl, rfl, h0, r0⟩ := trodAll_cons hA
  obtain ⟨v1, vs1, d1, ds1, p1, q1, hargs1, rfl, rfl, h1, r1⟩ := trodAll_cons r0
  obtain ⟨rfl, rfl, rfl⟩ := trodAll_nil r1
  obtain rfl : args = #[v0, v1] := by cases args; simp_all
  obtain ⟨rfl, rfl⟩ := trodVars_none hV
  have k0 := h0
  have k1 := h1
  have lt0 : ∀ x ∈ p0, x.block < W.heap.size := by obtain ⟨m, hm⟩ := k0; exact DataW.trod_lt m _ _ _ hm
  have lt1 : ∀ x ∈ p1, x.block < W.heap.size := by obtain ⟨m, hm⟩ := k1; exact DataW.trod_lt m _ _ _ hm
  obtain ⟨c, a, cap, rfl, hm, hs, hok⟩ := open_call (hval 0 60 v0 rfl rfl) h0
  obtain ⟨ip, rfl⟩ := okWide_int Try.underlying61 (hval 1 61 v1 rfl rfl)
  have hip : isU64 ip := by
    obtain ⟨m, hm1⟩ := h1
    obtain ⟨x, e, _, wf⟩ := DataW.trod_int Try.underlying61 hm1
    simp [Value.cells] at e
    subst e
    exact bounds_u64 wf
  clear hA0 hval0
  refine (walk c a cap ip W hs hok hm hip).mono fun e W' ⟨he, bel⟩ => ?_
  subst he
  exact ⟨_, rfl, _, _, _, [], _, [], hW', trodAll_mk1 (shut_bool Try.underlying4 _), (trodAll_cons_mk (Below.trod laidOut (by kernel_rfl) (of_decide_eq_true (by kernel_rfl)) k0 bel lt0) (trodAll_cons_mk (Below.trod laidOut (by kernel_rfl) (of_decide_eq_true (by kernel_rfl)) k1 bel lt1) trodAll_mk0)), rfl, bel.frame _, fun h => by cases h⟩

theorem proved : Rows.FnExactMakeRecordSaid :=
  OpenClaim.holds_of_wide 11 Try.f11 rfl rfl rfl rfl rfl rfl rfl ⟨rfl, rfl, rfl, rfl, rfl⟩ rfl rfl rfl rfl rfl (by kernel_rfl) Try.func11 (by kernel_rfl)
    (of_decide_eq_true (by kernel_rfl)) (by unfold Func.isWrapper; first | (rw [if_pos (by decide +kernel)]; kernel_rfl) | (rw [if_neg (by decide +kernel)]; exact ⟨rfl, rfl⟩))
    (fun os started H enc _ => lifted os started H enc)
#print axioms proved
end Go.Proofs.Ytjfgihmamoiipaa.fnExactMakeRecord
