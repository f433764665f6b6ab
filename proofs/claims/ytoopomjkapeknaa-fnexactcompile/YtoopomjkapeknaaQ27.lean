/-
  CmpLaw
-/
import Derived.Test.YtoopomjkapeknaaRows
import Derived.Test.YtoopomjkapeknaaQ04
import Derived.Test.YtoopomjkapeknaaQ19
import Derived.Test.YtoopomjkapeknaaQ22
import Derived.Test.YtoopomjkapeknaaQ25
import Derived.Test.YtoopomjkapeknaaQ26
namespace Go.Proofs.Ytoopomjkapeknaa.fnExactCompile
open Go.ChangeShapes Go.WideShapes Go.ChangeAt Go.RowKit Go.Deep
set_option linter.unusedVariables false

theorem owns_blk {w w1 : World} {B e s n : Nat} {v : Value} {xs : List Value} (h : w.ownsRow B e s v n xs) (hq : ∀ q, v.ownBlock = some q → w1.heap[q]? = w.heap[q]?) : w1.ownsRow B e s v n xs := by
  obtain ⟨hl, ⟨rfl, hn⟩ | ⟨g, cap, cur, rfl, hb, hgc, r⟩⟩ := h
  · exact ⟨hl, .inl ⟨rfl, hn⟩⟩
  · exact ⟨hl, .inr ⟨g, cap, cur, rfl, hb, (hq g rfl).trans hgc, r⟩⟩
theorem cell_blk {w w1 : World} {b o : Nat} {v : Value} (h : w.cell? ⟨b, o, none⟩ = some v) (e : w1.heap[b]? = w.heap[b]?) : w1.cell? ⟨b, o, none⟩ = some v := by
  simp only [World.cell?, e] at h ⊢; exact h
/-- what the law holds when the two answers are there -/
structure CSt (w : World) (vw vg : Value) (P : List I) (wr : World) : Prop where
  b : Below w.heap.size w wr
  ow : ownsI wr 0 vw P
  og : ownsI wr 0 vg P
theorem CSt.keep {w : World} {vw vg : Value} {P : List I} {wr w1 : World} (h : CSt w vw vg P wr) (hb : Below wr.heap.size wr w1) : CSt w vw vg P w1 :=
  ⟨below_step hb h.b, ownsI_below h.ow hb, ownsI_below h.og hb⟩
/-- what it holds of the copy -/
structure XSt (D5 n : Nat) (a5 : Option Addr) (c5 : Nat) (p : List E) (A : List AdK) (wr : World) : Prop where
  t5 : wr.cell? ⟨D5, 0, none⟩ = some (.slice a5 n c5)
  se : SE wr a5 n A
  src : LSrc 3 PE wr a5 p
theorem XSt.keep {D5 n : Nat} {a5 : Option Addr} {c5 : Nat} {p : List E} {A : List AdK} {wr w1 : World} (h : XSt D5 n a5 c5 p A wr) (hb : Below wr.heap.size wr w1) : XSt D5 n a5 c5 p A w1 :=
  ⟨cell_step hb h.t5, h.se.below hb, h.src.below PE.stays hb⟩
theorem CSt.markX {w : World} {L D5 : Nat} {vw vg : Value} {P : List I} {wr w1 : World} {A : List AdK} {k : Int} (h : CSt w vw vg P wr) (hw : Wrote wr w1 A k) (hA : ∀ x ∈ A, L ≤ x.1.block ∧ x.1.block < D5) (hL : w.heap.size ≤ L) (h1 : ∀ q, vw.ownBlock = some q → q < L) (h2 : ∀ q, vg.ownBlock = some q → D5 < q) : CSt w vw vg P w1 :=
  ⟨h.b.trans (hw.below _ fun x hx => Nat.le_trans hL (hA x hx).1), owns_blk h.ow fun q hq => hw.block q fun x hx => by have := (hA x hx).1; have := h1 q hq; omega, owns_blk h.og fun q hq => hw.block q fun x hx => by have := (hA x hx).2; have := h2 q hq; omega⟩

set_option maxRecDepth 100000 in
set_option maxHeartbeats 8000000 in
theorem walk0 (n cap : Nat) (a : Option Addr) (z : Int) (p : List E) (P : List I) (C : Int) (w : World) (hz : 0 ≤ z) (HP : Hid (P.length ≤ 1048576))
    (H0 : Hid (∀ w1, Below w.heap.size w w1 → Calls Try.prog 4 #[.agg #[.slice a n cap], .int .i64 1048576] w1 fun e w' => e = .returned (.int .i64 z) ∧ Below w1.heap.size w1 w'))
    (H1 : Hid (∀ w1, Below w.heap.size w w1 → Calls Try.prog 6 #[.agg #[.slice a n cap]] w1 fun e w' => ∃ a2 cap2, e = .returned (.agg #[.slice a2 n cap2]) ∧ (LSrc 3 PEC w' a2 p ∧ n ≤ cap2) ∧ (∃ A, SE w' a2 n A ∧ (∀ x ∈ A, w1.heap.size ≤ x.1.block ∧ x.1.block < w'.heap.size) ∧ A.length ≤ 3145728) ∧ Below w1.heap.size w1 w'))
    (H2 : Hid (∀ a2 cap2 w1, LSrc 3 PEC w1 a2 p ∧ n ≤ cap2 → Calls Try.prog 5 #[.agg #[.slice a2 n cap2]] w1 fun e w' => ∃ v, e = .returned (.tuple #[v, .int .i64 C]) ∧ ownsI w' w1.heap.size v P ∧ Below w1.heap.size w1 w'))
    (H3 : Hid (∀ a2 cap2 w1, LSrc 3 PEC w1 a2 p ∧ n ≤ cap2 → Calls Try.prog 7 #[.agg #[.slice a2 n cap2]] w1 fun e w' => ∃ v, e = .returned (.tuple #[v, .int .i64 C]) ∧ ownsI w' w1.heap.size v P ∧ Below w1.heap.size w1 w'))
    (H4 : Hid (∀ a2 a3 cap2 cap3 w1, LSrc 3 PE w1 a2 p → LSrc 3 PE w1 a3 p → Calls Try.prog 9 #[.agg #[.slice a2 n cap2], .agg #[.slice a3 n cap3]] w1 fun e w' => e = .returned (.bool true) ∧ Below w1.heap.size w1 w')) :
    Calls Try.prog 3 #[.agg #[.slice a n cap]] w fun e w' => e = .returned (.bool true) ∧ Below w.heap.size w w' := by
  have hz' : ¬ z < 0 := by omega
  have B0 : Below w.heap.size w (w.alloc (.cells #[.slice a n cap] 24)) := (Below.refl _ _).alloc (Nat.le_refl _) _
  have x0 := box1 w 24 (.slice a n cap)
  go_enter Try.func3, Try.ntmps3
  go_wp2_with fail
  refine (H0.out _ B0).mono ?_
  rintro _ w1 ⟨rfl, hb1⟩
  have B1 := below_step hb1 B0
  have x1 := cell_step hb1 x0
  clear hb1 B0 x0 H0
  go_wp2_with fail
  refine (H1.out _ B1).mono ?_
  rintro _ w2 ⟨a2, cap2, rfl, hS2, _, hb2⟩
  have B2 := below_step hb2 B1
  have x2 := cell_step hb2 x1
  clear hb2 B1 x1
  go_wp2_with fail
  refine (H2.out _ _ _ hS2).mono ?_
  rintro _ w3 ⟨vw, rfl, ow3, hb3⟩
  have B3 := below_step hb3 B2
  have x3 := cell_step hb3 x2
  have bw : ∀ q, vw.ownBlock = some q → q < w3.heap.size := fun q hq => (ow3.lt q hq).2
  have Bw : Hid (∀ q, vw.ownBlock = some q → q < w3.heap.size) := bw
  clear hb3 B2 x2 hS2 H2 bw
  go_wp2_with fail
  refine (H1.out _ B3).mono ?_
  rintro _ w4 ⟨a5, c5, rfl, hS5, ⟨A, hSE, hAr, hAl⟩, hb4⟩
  have B4 := below_step hb4 B3
  have x4 := cell_step hb4 x3
  have ow4 := ownsI_below ow3 hb4
  have hL := B3.size
  have hL3 : w.heap.size < w3.heap.size := cell_ltK x3
  have hL4 : w.heap.size < w4.heap.size := cell_ltK x4
  have hL5 : w3.heap.size ≤ w4.heap.size := hb4.size
  have HAr : Hid (∀ x ∈ A, w3.heap.size ≤ x.1.block ∧ x.1.block < w4.heap.size) := hAr
  clear hb4 x3 ow3 B3 hAr
  have hb5 : Below w4.heap.size w4 (w4.alloc (.cells #[.slice a5 n c5] 31)) := (Below.refl _ _).alloc (Nat.le_refl _) _
  have z5 := box1 w4 31 (.slice a5 n c5)
  have hs5 : (w4.alloc (.cells #[.slice a5 n c5] 31)).heap.size = w4.heap.size + 1 := by simp
  have x5 := cell_step hb5 x4
  have B5 := below_step hb5 B4
  have ow5 := ownsI_below ow4 hb5
  have hS6 : LSrc 3 PEC (w4.alloc (.cells #[.slice a5 n c5] 31)) a5 p ∧ n ≤ c5 := ⟨hS5.1.below PEC.stays hb5, hS5.2⟩
  have hSE6 := hSE.below hb5
  have hnx := World.new_ne w4 _ x4
  go_wp2_with fail
  refine (H3.out _ _ _ hS6).mono ?_
  clear hnx hS5 hSE B4 ow4 hb5 x4
  generalize w4.alloc (.cells #[.slice a5 n c5] 31) = V4 at *
  generalize w4.heap.size = D5 at *
  rintro _ w6 ⟨vg, rfl, og6, hb6⟩
  have Bg : Hid (∀ q, vg.ownBlock = some q → D5 < q) := fun q hq => by have := (og6.lt q hq).1; omega
  have S6 : CSt w vw vg P w6 := ⟨below_step hb6 B5, World.ownsRow.mono (ownsI_below ow5 hb6) (Nat.zero_le _), World.ownsRow.mono og6 (Nat.zero_le _)⟩
  have X6 : XSt D5 n a5 c5 p A w6 := ⟨cell_step hb6 z5, hSE6.below hb6, (PEC.plains hS6.1).below PE.stays hb6⟩
  have x6 := cell_step hb6 x5
  clear ow5 og6 hb6 hs5 z5 hSE6 hS6 x5 B5
  clear V4
  go_wp2_with fail
  refine (eqInsS_own S6.og S6.ow HP.out).mono ?_
  rintro _ w7 ⟨rfl, hb7⟩
  have S7 := S6.keep hb7
  have X7 := X6.keep hb7
  have x7 := cell_step hb7 x6
  clear S6 X6 hb7 x6
  have SK : Hid (∀ wa wb, Below wa.heap.size wa wb → (CSt w vw vg P wa ∧ XSt D5 n a5 c5 p A wa ∧ wa.cell? ⟨w.heap.size, 0, none⟩ = some (.slice a n cap) ∧ wa.cell? ⟨D5, 0, none⟩ = some (.slice a5 n c5)) → (CSt w vw vg P wb ∧ XSt D5 n a5 c5 p A wb ∧ wb.cell? ⟨w.heap.size, 0, none⟩ = some (.slice a n cap) ∧ wb.cell? ⟨D5, 0, none⟩ = some (.slice a5 n c5))) := fun wa wb hb ⟨s, x, y0, y1⟩ => ⟨s.keep hb, x.keep hb, cell_step hb y0, cell_step hb y1⟩
  have hS8 := SK.out w7 w7.drew ((Below.refl _ _).drew) ⟨S7, X7, x7, X7.t5⟩
  clear S7 X7 x7
  go_wp2_with fail
  go_region_held3 (fun w' => CSt w vw vg P w' ∧ XSt D5 n a5 c5 p A w' ∧ w'.cell? ⟨w.heap.size, 0, none⟩ = some (.slice a n cap) ∧ w'.cell? ⟨D5, 0, none⟩ = some (.slice a5 n c5))
    (assumption)
    (first
      | (go_at_call 6; refine (H1.out _ (CSt.b (And.left (by with_reducible assumption)))).mono ?_; rintro _ w8 ⟨a8, c8, rfl, hS8', _, hb8⟩; have hs8 := SK.out _ _ hb8 (by with_reducible assumption))
      | (go_at_call 9; refine (H4.out _ _ _ _ _ hs8.2.1.src (PEC.plains hS8'.1)).mono ?_; rintro _ w9 ⟨rfl, hb9⟩; have hs9 := SK.out _ _ hb9 hs8))
  all_goals
    obtain ⟨S9, X9, x9, t59⟩ := hs9
    clear hs8 hS8' hb8 hb9 hS8 SK
    have hbA : Below w9.heap.size w9 (w9.alloc (.cells #[.slice a5 n c5] 31)) := (Below.refl _ _).alloc (Nat.le_refl _) _
    have HMx : Hid (Calls Try.prog 10 #[.agg #[.slice a5 n c5], .int .i64 1] w9 fun e w' => e = .returned (.int .i64 (1 + A.length)) ∧ CSt w vw vg P w' ∧ w'.cell? ⟨w.heap.size, 0, none⟩ = some (.slice a n cap)) := (markPolicy_any a5 n c5 A 1 w9 (by omega) (by omega) (X9.se.below hbA)).mono fun e w' ⟨h1, h2⟩ => ⟨h1, (S9.keep hbA).markX h2 HAr.out hL Bw.out Bg.out, cell_blk (cell_step hbA x9) (h2.block _ fun x hx => by have := (HAr.out x hx).1; omega)⟩
    have hq : ¬ (1 + (A.length : Int)) < 0 := by omega
    generalize (1 + (A.length : Int)) = q1 at *
    clear hbA X9 S9
    go_wp2_with fail
    refine (HMx.out).mono ?_
    rintro _ w10 ⟨rfl, S10, x10⟩
    clear HMx x9 t59
    go_wp2_with fail
    refine (eqInsS_own S10.og S10.ow HP.out).mono ?_
    rintro _ w11 ⟨rfl, hb11⟩
    have S11 := S10.keep hb11
    have x11 := cell_step hb11 x10
    clear S10 hb11 x10
    go_wp2_with fail
    refine (markInsS_own 1 S11.og HP.out (by omega) (by omega)).mono ?_
    rintro _ w12 ⟨rfl, hMV, hG⟩
    have ow12 := ownsI_kept S11.ow hG (fun q hq e => by have := Bw.out q hq; have := Bg.out q e.symm; omega)
    have B12 : Below w.heap.size w w12 := S11.b.grown hG S11.b.size (fun q hq => by have := Bg.out q hq; omega)
    have x12 : w12.cell? ⟨w.heap.size, 0, none⟩ = some (.slice a n cap) := (hG.cell_far ⟨w.heap.size, 0, none⟩ (cell_ltK x11) (fun e => by have := Bg.out w.heap.size e.symm; omega)).trans x11
    clear hG S11 x11
    go_wp2_with fail
    refine (heldInsS_own 1 hMV HP.out (by omega) (by omega)).mono ?_
    rintro _ w12 ⟨rfl, rfl⟩
    go_wp2_with fail
    refine (H1.out _ B12).mono ?_
    rintro _ w14 ⟨a14, c14, rfl, hS14, _, hb14⟩
    have ow14 := ownsI_below ow12 hb14
    have B14 := below_step hb14 B12
    clear hb14 ow12 B12 hMV x12
    go_wp2_with fail
    refine (H3.out _ _ _ hS14).mono ?_
    rintro _ w15 ⟨vh, rfl, oh15, hb15⟩
    have ow15 := ownsI_below ow14 hb15
    have B15 := below_step hb15 B14
    clear hb15 ow14 B14 hS14
    go_wp2_with fail
    refine (eqInsS_own oh15 ow15 HP.out).mono ?_
    rintro _ w16 ⟨rfl, hb16⟩
    have B16 := below_step hb16 B15
    go_wp2
    go_ret
    exact ⟨rfl, B16⟩

set_option maxRecDepth 100000 in
set_option maxHeartbeats 1000000 in
theorem walk1 (n cap : Nat) (a : Option Addr) (w : World)
    (H0 : Hid (∀ w1, Below w.heap.size w w1 → Calls Try.prog 4 #[.agg #[.slice a n cap], .int .i64 1048576] w1 fun e w' => e = .returned (.int .i64 (-1)) ∧ Below w1.heap.size w1 w')) :
    Calls Try.prog 3 #[.agg #[.slice a n cap]] w fun e w' => e = .returned (.bool true) ∧ Below w.heap.size w w' := by
  have B0 : Below w.heap.size w (w.alloc (.cells #[.slice a n cap] 24)) := (Below.refl _ _).alloc (Nat.le_refl _) _
  go_enter Try.func3, Try.ntmps3
  go_wp2_with fail
  refine (H0.out _ B0).mono ?_
  rintro e w1 ⟨rfl, hb1⟩
  have B1 := below_step hb1 B0
  go_wp2
  go_ret
  exact ⟨rfl, B1⟩

theorem walk (p : List E) (a : Option Addr) (cap : Nat) (w : World) (hs : LSrc 3 PE w a p) (hm : p.length ≤ maxLen) (hin : ∀ e ∈ p, EntryIn e) :
    Calls Try.prog 3 #[.agg #[.slice a p.length cap]] w fun e w' => e = .returned (.bool true) ∧ Below w.heap.size w w' := by
  have ho : okP p := fun e he => (hin e he).1
  have hl : p.length ≤ 9223372036854775807 ∧ ∀ e ∈ p, e.rules.length ≤ 9223372036854775807 ∧ ∀ r ∈ e.rules, r.length ≤ 9223372036854775807 := by
    unfold EntryIn maxLen at hin
    unfold maxLen at hm
    exact ⟨by omega, fun e he => ⟨by have := (hin e he).2.1; omega, fun r hr => by have := (hin e he).2.2 r hr; omega⟩⟩
  have H0 : ∀ w1, Below w.heap.size w w1 → Calls Try.prog 4 #[.agg #[.slice a p.length cap], .int .i64 1048576] w1 fun e w' => e = .returned (.int .i64 (szF 1048576 (sizeP p))) ∧ Below w1.heap.size w1 w' :=
    fun w1 hb => szPolicy_any p a cap 1048576 w1 (hs.below PE.stays hb) hl.1 hl.2 (by omega) (by omega)
  by_cases h : (1048576 : Int) < sizeP p
  · rw [szF_no h] at H0
    exact walk1 _ cap a w H0
  · rw [szF_yes h] at H0
    have hsz : sizeP p ≤ 1048576 := by omega
    have hp : p.length ≤ 1048576 := by unfold sizeP at hsz; omega
    have he : ∀ e ∈ p, e.rules.length ≤ 1048576 ∧ ∀ r ∈ e.rules, r.length ≤ 1048576 := by
      intro e he
      have h1 : sizeE e ≤ sumBy sizeE p := sumBy_mem sizeE he
      have h2 : sizeE e ≤ 1048576 := by unfold sizeP at hsz; omega
      unfold sizeE sizeRs at h2
      refine ⟨by omega, fun r hr => ?_⟩
      have h3 : r.length ≤ sumBy List.length e.rules := sumBy_mem List.length hr
      omega
    have he' : ∀ e ∈ p, e.rules.length ≤ 16777216 ∧ ∀ r ∈ e.rules, r.length ≤ 16777216 := fun e h => ⟨by have := (he e h).1; omega, fun r hr => by have := (he e h).2 r hr; omega⟩
    exact walk0 p.length cap a _ p (cmpL p) (cmpC p) w (by omega) (show _ ≤ _ by have := cmpL_len p; omega) H0
      (fun w1 hb => (toPolicy_any p a cap w1 (hs.below PE.stays hb) hp he).mono fun e w' ⟨a2, cap2, h1, ⟨h2, h4⟩, h3⟩ => ⟨a2, cap2, h1, ⟨h2.plain fun _ _ _ h => h.capped, h4⟩, copy_se h2 hsz, h3⟩)
      (fun a2 cap2 w1 h => specCmp_any p a2 cap2 w1 h.1 h.2 ho (by omega) (fun e h => (he' e h).1) (fun e h => (he' e h).2))
      (fun a2 cap2 w1 h => implCmp_any p a2 cap2 w1 h.1 h.2 ho (by omega) (fun e h => (he' e h).1) (fun e h => (he' e h).2))
      (fun a2 a3 cap2 cap3 w1 h h' => eqPolicy_any p a2 a3 cap2 cap3 w1 h h' (by omega) he')

set_option maxRecDepth 100000 in
theorem lifted (os : Os) (started : os.Started) (H : Type) (enc : TypeId × Value → H) :
    ReturnsInHanded {} Try.checked os 3 .any (Rows.fnExactCompileSpec.pre6 enc Try.prog Try.f3 Rows.fnExactCompileRow.domain false) (Rows.fnExactCompileSpec.post enc Try.prog Try.f3 false true false false) := by
  refine returnsInHanded_of_change (C := Try.checked) own started (by kernel_rfl) Try.func3
    (ChangeSpec.witness6 (enc := enc) (C := Try.checked) false ⟨#[], #[.agg #[.slice none 0 0]], []⟩ 8 (by kernel_rfl) (by kernel_rfl) (by kernel_rfl) (by kernel_rfl)) ?_
  intro W base args ds gs before hval0 hW hcnd _
  have hval : ∀ (j : Nat) t v, Try.f3.params[j]? = some t → args[j]? = some v → Value.okWide Try.prog W .any base t v := hval0
  have hW' := hW
  obtain ⟨p, q, hA0, hV, rfl, hfz, hnd⟩ := hW
  have hA : DataW.TrodAll enc Try.prog W 0 (fun _ => true) true Try.f3.params.toList args.toList ds p := hA0
  rw [Try.params3] at hA hval
  obtain ⟨v0, vs0, d0, ds0, p0, q0, hargs, rfl, rfl, h0, r0⟩ := trodAll_cons hA
  obtain ⟨rfl, rfl, rfl⟩ := trodAll_nil r0
  obtain rfl : args = #[v0] := by cases args; simp_all
  obtain ⟨rfl, rfl⟩ := trodVars_none hV
  have k0 := h0
  have lt0 : ∀ x ∈ p0, x.block < W.heap.size := by obtain ⟨m, hm⟩ := k0; exact DataW.trod_lt m _ _ _ hm
  obtain ⟨pp, a, cap, rfl, hml, hsrc, hin⟩ := open_policy (hval 0 24 v0 rfl rfl) h0
  clear hA0 hval0
  refine (walk pp a cap W hsrc hml hin).mono fun e W' ⟨he, bel⟩ => ?_
  subst he
  exact ⟨_, rfl, _, _, _, [], _, [], hW', trodAll_mk1 (shut_bool Try.underlying4 _), (trodAll_cons_mk (Below.trod laidOut (by kernel_rfl) (of_decide_eq_true (by kernel_rfl)) k0 bel lt0) trodAll_mk0), rfl, bel.frame _, fun h => by cases h⟩

theorem proved : Rows.FnExactCompileSaid :=
  OpenClaim.holds_of_wide 3 Try.f3 rfl rfl rfl rfl rfl rfl rfl ⟨rfl, rfl, rfl, rfl, rfl⟩ rfl rfl rfl rfl rfl (by kernel_rfl) Try.func3 (by kernel_rfl)
    (of_decide_eq_true (by kernel_rfl)) (by unfold Func.isWrapper; first | (rw [if_pos (by decide +kernel)]; kernel_rfl) | (rw [if_neg (by decide +kernel)]; exact ⟨rfl, rfl⟩))
    (fun os started H enc _ => lifted os started H enc)
#print axioms proved
end Go.Proofs.Ytoopomjkapeknaa.fnExactCompile
