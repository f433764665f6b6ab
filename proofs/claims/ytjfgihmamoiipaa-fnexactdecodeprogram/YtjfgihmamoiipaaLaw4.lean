/-
  THE LAW 'FnExactDecodeProgram': its walk and its row.
-/
import Derived.Test.YtjfgihmamoiipaaRows
import Derived.Test.YtjfgihmamoiipaaOwnI
namespace Go.Proofs.Ytjfgihmamoiipaa.fnExactDecodeProgram
open Go.ChangeShapes Go.WideShapes Go.ChangeAt Go.RowKit Go.Deep
set_option linter.unusedVariables false

theorem dec_len (l : List Int) : (decL l).length ≤ l.length := by
  unfold decL
  split
  · simp
  · rw [decN_len]; omega

set_option maxHeartbeats 2000000 in
theorem walk (a : Option Addr) (cap : Nat) (l : List Int) (w : World) (hs : BSrc w a l) (hl : isBytes l) (hm : l.length ≤ maxLen) :
    Calls Try.prog 7 #[.slice a l.length cap] w fun e w' => e = .returned (.bool true) ∧ Below w.heap.size w w' := by
  unfold maxLen at hm
  by_cases hn : l.length ≤ 1048576
  · have HC1 : Hid (∀ w1, Below w.heap.size w w1 → Calls Try.prog 22 #[.slice a l.length cap] w1 fun e w' => e = .returned (.slice (some ⟨w1.heap.size, 0, none⟩) l.length l.length) ∧ owns w' w1.heap.size (.slice (some ⟨w1.heap.size, 0, none⟩) l.length l.length) l ∧ Below w1.heap.size w1 w') :=
      fun w1 hB => toByteS_any a cap l w1 (hs.below hB) hn
    have HC2 : Hid (∀ D w1, owns w1 D (.slice (some ⟨D, 0, none⟩) l.length l.length) l → Calls Try.prog 28 #[.slice (some ⟨D, 0, none⟩) l.length l.length] w1 fun e w' => ∃ v', e = .returned (.tuple #[v', .int .i64 (decC l)]) ∧ ownsI w' w1.heap.size v' (decL l) ∧ Below w1.heap.size w1 w') := by
      intro D w1 h
      obtain ⟨a', cap', e, hs'⟩ := owns_src h
      simp only [Value.slice.injEq] at e
      obtain ⟨rfl, _, rfl⟩ := e
      exact specDecode_any _ _ l w1 hs' hl (Nat.le_refl _) hn
    have HC3 : Hid (∀ D w1, owns w1 D (.slice (some ⟨D, 0, none⟩) l.length l.length) l → Calls Try.prog 15 #[.slice (some ⟨D, 0, none⟩) l.length l.length] w1 fun e w' => ∃ v', e = .returned (.tuple #[v', .int .i64 (decC l)]) ∧ ownsI w' w1.heap.size v' (decL l) ∧ Below w1.heap.size w1 w') := by
      intro D w1 h
      obtain ⟨a', cap', e, hs'⟩ := owns_src h
      simp only [Value.slice.injEq] at e
      obtain ⟨rfl, _, rfl⟩ := e
      exact implDecode_any _ _ l w1 hs' hl (Nat.le_refl _) hn
    have hP : (decL l).length ≤ 1048576 := by have := dec_len l; omega
    generalize decL l = P at *
    generalize decC l = C at *
    clear hs hl
    obtain ⟨n, hn'⟩ : ∃ n, l.length = n := ⟨_, rfl⟩
    have HN : Hid (l.length = n) := hn'
    have hln : Hid (l.length ≤ 16777216) := by show l.length ≤ 16777216; omega
    have hOwn : Hid (∀ w1 w2 B v v', owns w1 B v l → owns w1 w2 v' l → Calls Try.prog 23 #[v, v'] w1 fun e w' => e = .returned (.bool true) ∧ Below w1.heap.size w1 w') := fun w1 w2 B v v' h h' => eqByteS_own h h' hln.out
    have hMark : Hid (∀ w1 B v, owns w1 B v l → Calls Try.prog 26 #[v, .int .i64 1] w1 fun e w' => e = .returned (.int .i64 (1 + n)) ∧ w1.grownBy w' v.ownBlock) := fun w1 B v h => (markByteS_own 1 h hln.out (by omega) (by omega)).mono (by rintro e w' ⟨rfl, _, hg⟩; rw [HN.out]; exact ⟨rfl, hg⟩)
    rw [hn'] at HC1 HC2 HC3 hn hm ⊢
    clear hn'
    have hn2 : (n : Int) ≤ 1048576 := by omega
    go_enter Try.func7, Try.ntmps7
    go_wp2_with fail
    refine (HC1.out _ (Below.refl _ _)).mono ?_
    rintro e w1 ⟨rfl, hr1, hb1⟩
    go_wp2_with fail
    refine (HC2.out _ _ hr1).mono ?_
    rintro e w2 ⟨vw, rfl, ow2, hb2⟩
    have B2 : Below w.heap.size w w2 := hb1.trans (hb2.mono hb1.size)
    have bw : ∀ q, vw.ownBlock = some q → q < w2.heap.size := fun q hq => (ow2.lt q hq).2
    clear hr1 hb1 hb2
    go_wp2_with fail
    refine (HC1.out _ B2).mono ?_
    rintro e w3 ⟨rfl, hr3, hb3⟩
    have B3 : Below w.heap.size w w3 := B2.trans (hb3.mono B2.size)
    have ow3 := ownsI_below ow2 hb3
    have hD3 : w2.heap.size < w3.heap.size := (hr3.lt _ rfl).2
    have hDw : w.heap.size ≤ w2.heap.size := B2.size
    generalize hDe : w2.heap.size = D at *
    clear hb3 ow2 B2 hDe
    go_wp2_with fail
    refine (HC3.out _ _ hr3).mono ?_
    rintro e w4 ⟨vg, rfl, og4, hb4⟩
    have hr4 := owns_below hr3 hb4
    have ow4 := ownsI_below ow3 hb4
    have B4 : Below w.heap.size w w4 := B3.trans (hb4.mono B3.size)
    have bg : ∀ q, vg.ownBlock = some q → D < q := fun q hq => by have := (og4.lt q hq).1; omega
    clear hr3 hb4 ow3
    go_wp2_with fail
    refine (eqInsS_own og4 ow4 hP).mono ?_
    rintro e w5 ⟨rfl, hb5⟩
    have hr5 := owns_below hr4 hb5
    have ow5 := ownsI_below ow4 hb5
    have og5 := ownsI_below og4 hb5
    have B5 : Below w.heap.size w w5 := B4.trans (hb5.mono B4.size)
    clear hr4 hb5 ow4 og4 B4
    go_wp2_with fail
    refine (HC1.out _ B5).mono ?_
    rintro e w6 ⟨rfl, hr6, hb6⟩
    have hr6' := owns_below hr5 hb6
    have ow6 := ownsI_below ow5 hb6
    have og6 := ownsI_below og5 hb6
    have B6 : Below w.heap.size w w6 := B5.trans (hb6.mono B5.size)
    clear hr5 hb6 ow5 og5 B5
    go_wp2_with fail
    refine (hOwn.out _ _ _ _ _ hr6' hr6).mono ?_
    rintro e w7 ⟨rfl, hb7⟩
    have hr7 := owns_below hr6' hb7
    have ow7 := ownsI_below ow6 hb7
    have og7 := ownsI_below og6 hb7
    have B7 : Below w.heap.size w w7 := B6.trans (hb7.mono B6.size)
    clear hr6 hr6' hb7 ow6 og6 B6
    go_wp2_with fail
    refine (hMark.out _ _ _ hr7).mono ?_
    rintro e w8 ⟨rfl, hG⟩
    have ow8 := ownsI_kept ow7 hG (fun q hq e => by have := bw q hq; simp only [Value.ownBlock, Option.some.injEq] at e; omega)
    have og8 := ownsI_kept og7 hG (fun q hq e => by have := bg q hq; simp only [Value.ownBlock, Option.some.injEq] at e; omega)
    have B8 : Below w.heap.size w w8 := B7.grown hG B7.size (fun q hq => by simp only [Value.ownBlock, Option.some.injEq] at hq; omega)
    clear hG hr7 ow7 og7 B7
    have hk : decide ((1 : Int) + (n : Int) < 0) = false := by simp; omega
    go_wp2_with fail
    refine (eqInsS_own og8 ow8 hP).mono ?_
    rintro e w9 ⟨rfl, hb9⟩
    have ow9 := ownsI_below ow8 hb9
    have og9 := ownsI_below og8 hb9
    have B9 : Below w.heap.size w w9 := B8.trans (hb9.mono B8.size)
    clear hb9 ow8 og8 B8
    go_wp2_with fail
    refine (markInsS_own 1 og9 hP (by omega) (by omega)).mono ?_
    rintro e w10 ⟨rfl, hMV, hG⟩
    have ow10 := ownsI_kept ow9 hG (fun q hq e => by have := bw q hq; have := bg q e.symm; omega)
    have B10 : Below w.heap.size w w10 := B9.grown hG B9.size (fun q hq => by have := bg q hq; omega)
    clear hG ow9 og9 B9
    go_wp2_with fail
    refine (heldInsS_own 1 hMV hP (by omega) (by omega)).mono ?_
    rintro e w10 ⟨rfl, rfl⟩
    go_wp2_with fail
    refine (HC1.out _ B10).mono ?_
    rintro e w11 ⟨rfl, hr11, hb11⟩
    have ow11 := ownsI_below ow10 hb11
    have B11 : Below w.heap.size w w11 := B10.trans (hb11.mono B10.size)
    clear hb11 ow10 B10 hMV
    go_wp2_with fail
    refine (HC3.out _ _ hr11).mono ?_
    rintro e w12 ⟨vh, rfl, oh12, hb12⟩
    have ow12 := ownsI_below ow11 hb12
    have B12 : Below w.heap.size w w12 := B11.trans (hb12.mono B11.size)
    clear hb12 ow11 B11 hr11
    go_wp2_with fail
    refine (eqInsS_own oh12 ow12 hP).mono ?_
    rintro e w13 ⟨rfl, hb13⟩
    have B13 : Below w.heap.size w w13 := B12.trans (hb13.mono B12.size)
    go_wp2
    go_ret
    exact ⟨rfl, B13⟩
  · have hlt : (1048576 : Int) < (l.length : Int) := by omega
    go_enter Try.func7, Try.ntmps7
    go_wp2
    go_ret
    exact ⟨rfl, Below.refl _ _⟩

set_option maxRecDepth 100000 in
theorem lifted (os : Os) (started : os.Started) (H : Type) (enc : TypeId × Value → H) :
    ReturnsInHanded {} Try.checked os 7 .any (Rows.fnExactDecodeProgramSpec.pre6 enc Try.prog Try.f7 Rows.fnExactDecodeProgramRow.domain false) (Rows.fnExactDecodeProgramSpec.post enc Try.prog Try.f7 false true false false) := by
  refine returnsInHanded_of_change (C := Try.checked) own started (by kernel_rfl) Try.func7
    (ChangeSpec.witness6 (enc := enc) (C := Try.checked) false ⟨#[], #[.slice none 0 0], []⟩ 8 (by kernel_rfl) (by kernel_rfl) (by kernel_rfl) (by kernel_rfl)) ?_
  intro W base args ds gs before hval0 hW hcnd _
  have hval : ∀ (j : Nat) t v, Try.f7.params[j]? = some t → args[j]? = some v → Value.okWide Try.prog W .any base t v := hval0
  have hW' := hW
  obtain ⟨p, q, hA0, hV, rfl, hfz, hnd⟩ := hW
  have hA : DataW.TrodAll enc Try.prog W 0 (fun _ => true) true Try.f7.params.toList args.toList ds p := hA0
  rw [Try.params7] at hA hval
  obtain ⟨v0, vs0, d0, ds0, p0, q0, hargs, rfl, rfl, h0, r0⟩ := trodAll_cons hA
  obtain ⟨rfl, rfl, rfl⟩ := trodAll_nil r0
  obtain rfl : args = #[v0] := by cases args; simp_all
  obtain ⟨rfl, rfl⟩ := trodVars_none hV
  obtain ⟨a0, len0, cap0, rfl⟩ := okWide_slice Try.underlying22 (hval 0 22 v0 rfl rfl)
  have k0 := h0
  have lt0 : ∀ x ∈ p0, x.block < W.heap.size := by obtain ⟨m, hm⟩ := k0; exact DataW.trod_lt m _ _ _ hm
  obtain ⟨pp, hpl, hml, _, hsrc, hok⟩ := open_bytes h0
  subst hpl
  clear hA0 hval0
  refine (walk a0 cap0 pp W hsrc hok hml).mono fun e W' ⟨he, bel⟩ => ?_
  subst he
  exact ⟨_, rfl, _, _, _, [], _, [], hW', trodAll_mk1 (shut_bool Try.underlying4 _), (trodAll_cons_mk (Below.trod laidOut (by kernel_rfl) (of_decide_eq_true (by kernel_rfl)) k0 bel lt0) trodAll_mk0), rfl, bel.frame _, fun h => by cases h⟩

theorem proved : Rows.FnExactDecodeProgramSaid :=
  OpenClaim.holds_of_wide 7 Try.f7 rfl rfl rfl rfl rfl rfl rfl ⟨rfl, rfl, rfl, rfl, rfl⟩ rfl rfl rfl rfl rfl (by kernel_rfl) Try.func7 (by kernel_rfl)
    (of_decide_eq_true (by kernel_rfl)) (by unfold Func.isWrapper; first | (rw [if_pos (by decide +kernel)]; kernel_rfl) | (rw [if_neg (by decide +kernel)]; exact ⟨rfl, rfl⟩))
    (fun os started H enc _ => lifted os started H enc)
#print axioms proved
end Go.Proofs.Ytjfgihmamoiipaa.fnExactDecodeProgram
