/-
  DLogLaw
-/
import Derived.Test.YtjbbiailhpkdeaaDoorRows
import Derived.Test.YtjbbiailhpkdeaaDoorCards
import Derived.Test.YtjbbiailhpkdeaaDoorTie
import Derived.Test.YtjbbiailhpkdeaaDoorQ05
import Derived.Test.YtjbbiailhpkdeaaDoorQ11
import Derived.Test.YtjbbiailhpkdeaaDoorQ16
import Derived.SevenTiedAt
namespace Go.Proofs.YtjbbiailhpkdeaaDoor.fnExactDecodeLog
open Go.ChangeShapes Go.WideShapes Go.ChangeAt Go.RowKit Go.Deep
set_option linter.unusedVariables false

theorem bytes_of_owns {w : World} {D : Nat} {l : List Int} (h : owns w D (.slice (some ⟨D, 0, none⟩) l.length l.length) l) : BytesAt w D 0 l ∧ D < w.heap.size := by
  have hlt := (h.lt D rfl).2
  obtain ⟨a, cap, e, hs⟩ := owns_src h
  simp only [Value.slice.injEq] at e
  obtain ⟨rfl, _, _⟩ := e
  rcases hs with rfl | ⟨b, o, e2, _, hB⟩
  · exact ⟨fun i hi => absurd hi (by simp), hlt⟩
  · simp only [Option.some.injEq, Addr.mk.injEq] at e2
    obtain ⟨rfl, rfl, _⟩ := e2
    exact ⟨hB, hlt⟩

theorem tot_le_six {cs : List C} (h : ∀ c ∈ cs, c.args.length = 6) : tot cs = 6 * cs.length := by
  induction cs with
  | nil => rfl
  | cons c r ih =>
    have h1 := h c (by simp)
    have h2 := ih (fun x hx => h x (by simp [hx]))
    simp only [tot, List.length_cons, h1, h2]; omega

theorem dec_size {l : List Int} {R : List C} {code : Int} {a : Nat} (hl : isBytes l) (h : decLog l = (R, code, a)) : R.length + tot R ≤ 1048576 ∧ (∀ c ∈ R, c.args.length ≤ 16777216) := by
  by_cases h0 : code = 0
  · subst h0
    obtain ⟨_, _, h1, _, h6⟩ := enc_dec hl h
    have := tot_le_six h6
    exact ⟨by omega, fun c hc => by have := h6 c hc; omega⟩
  · rw [dec_none h h0]; exact ⟨by simp [tot], fun c hc => by simp at hc⟩

set_option maxRecDepth 100000 in
set_option maxHeartbeats 4000000 in
theorem walk (a : Option Addr) (cap : Nat) (l : List Int) (w : World) (hs : BSrc w a l) (hl : isBytes l) (hm : l.length ≤ maxLen) (hg : ErrT w) :
    Calls Tryd.prog 5 #[.slice a l.length cap] w fun e w' => e = .returned (.bool true) ∧ Below w.heap.size w w' := by
  unfold maxLen at hm
  by_cases hn : l.length ≤ 1048576
  · have HC1 : Hid (∀ w1, Below w.heap.size w w1 → Calls Tryd.prog 13 #[.slice a l.length cap] w1 fun e w' => e = .returned (.slice (some ⟨w1.heap.size, 0, none⟩) l.length l.length) ∧ owns w' w1.heap.size (.slice (some ⟨w1.heap.size, 0, none⟩) l.length l.length) l ∧ Below w1.heap.size w1 w') :=
      fun w1 hB => toByteS_any a cap l w1 (hs.below hB) hn
    obtain ⟨R, CD, AT, hd⟩ : ∃ R CD AT, decLog l = (R, CD, AT) := ⟨_, _, _, rfl⟩
    obtain ⟨ht, hma⟩ := dec_size hl hd
    have HC2 : Hid (∀ D w1, owns w1 D (.slice (some ⟨D, 0, none⟩) l.length l.length) l → Calls Tryd.prog 7 #[.slice (some ⟨D, 0, none⟩) l.length l.length] w1 fun e w' => ∃ v', e = .returned (.tuple #[v', .int .i64 CD, .int .i64 (AT : Int)]) ∧ SV R w' v' ∧ Below w1.heap.size w1 w') := by
      intro D w1 h
      obtain ⟨h1, h2⟩ := bytes_of_owns h
      refine (specDecodeLog_at D 0 l.length l w1 h1 h2 (Nat.le_refl _) hl hn).mono ?_
      rintro e w' ⟨cs, code, at_, ad, cp, h3, h4, h5, h6⟩
      rw [hd] at h3
      simp only [Prod.mk.injEq] at h3
      obtain ⟨rfl, rfl, rfl⟩ := h3
      exact ⟨_, h4, ⟨ad, cp, rfl, h5⟩, h6⟩
    have HC3 : Hid (∀ D w1, Below w.heap.size w w1 → owns w1 D (.slice (some ⟨D, 0, none⟩) l.length l.length) l → Calls Tryd.prog 8 #[.slice (some ⟨D, 0, none⟩) l.length l.length] w1 fun e w' => ∃ v', e = .returned (.tuple #[v', .int .i64 CD, .int .i64 (AT : Int)]) ∧ GV R w1.heap.size w' v' ∧ Below w1.heap.size w1 w') := by
      intro D w1 hb h
      obtain ⟨h1, h2⟩ := bytes_of_owns h
      refine (implDecodeLog_any D 0 l l.length w1 h1 h2 (Nat.le_refl _) (hg.below hb) hl hn).mono ?_
      rintro e w' ⟨cs, code, at_, v, h3, h4, h5, h6⟩
      rw [hd] at h3
      simp only [Prod.mk.injEq] at h3
      obtain ⟨rfl, rfl, rfl⟩ := h3
      refine ⟨v, h4, ?_, h5⟩
      rcases h6 with ⟨h7, h8⟩ | ⟨D', N, vs, h7, h8, h9⟩
      · exact .inl ⟨h8, h7⟩
      · exact .inr ⟨D', N, N, vs, h7, h8, h9⟩
    have HEq : Hid (∀ w1 v v', SV R w1 v → SV R w1 v' → Calls Tryd.prog 14 #[v, v'] w1 fun e w' => e = .returned (.bool true) ∧ Below w1.heap.size w1 w') := fun w1 v v' h h' => eqSV h h' (by omega) hma
    have HMk : Hid (∀ B w1 v, GV R B w1 v → Calls Tryd.prog 17 #[v, .int .i64 1] w1 fun e w' => e = .returned (.int .i64 (kN R 1 R.length)) ∧ MV R w' v ∧ Far w1 w' (fun q => B ≤ q)) := fun B w1 v h => markGV h ht
    have HHd : Hid (∀ w1 v, MV R w1 v → Calls Tryd.prog 18 #[v, .int .i64 1] w1 fun e w' => e = .returned (.int .i64 (kN R 1 R.length)) ∧ w' = w1) := fun w1 v h => heldMV h ht
    have hkr : 0 ≤ kN R 1 R.length ∧ kN R 1 R.length ≤ 4194304 := kN_bd (cs := R) (k := 1) R.length (by omega) (by omega) (Nat.le_refl _) ht
    have HSB : Hid (∀ w1 w2 v, SV R w1 v → Below w1.heap.size w1 w2 → SV R w2 v) := fun w1 w2 v h hb => h.below hb
    have HGB : Hid (∀ B w1 w2 v, GV R B w1 v → Below w1.heap.size w1 w2 → GV R B w2 v) := fun B w1 w2 v h hb => h.below hb
    have HGF : Hid (∀ B w1 w2 v S, GV R B w1 v → Far w1 w2 S → (∀ q, S q → q < B) → GV R B w2 v) := fun B w1 w2 v S h hf hS => h.far hf hS
    have HGS : Hid (∀ B w1 v, GV R B w1 v → SV R w1 v) := fun B w1 v h => h.sv
    have HLt : Hid (∀ D w1, owns w1 D (.slice (some ⟨D, 0, none⟩) l.length l.length) l → D < w1.heap.size) := fun D w1 h => (bytes_of_owns h).2
    clear ht hma hd hs hl hg
    generalize kN R 1 R.length = KR at *
    obtain ⟨GVr, hGV⟩ : ∃ GVr : Nat → World → Value → Prop, ∀ B w v, GV R B w v = GVr B w v := ⟨_, fun _ _ _ => rfl⟩
    obtain ⟨SVr, hSV⟩ : ∃ SVr : World → Value → Prop, ∀ w v, SV R w v = SVr w v := ⟨_, fun _ _ => rfl⟩
    obtain ⟨MVr, hMV⟩ : ∃ MVr : World → Value → Prop, ∀ w v, MV R w v = MVr w v := ⟨_, fun _ _ => rfl⟩
    simp only [hGV, hSV, hMV] at HC2 HC3 HEq HMk HHd HSB HGB HGF HGS
    clear hGV hSV hMV
    generalize (AT : Int) = AI at *
    obtain ⟨n, hn'⟩ : ∃ n, l.length = n := ⟨_, rfl⟩
    have HN : Hid (l.length = n) := hn'
    have hln : Hid (l.length ≤ 16777216) := by show l.length ≤ 16777216; omega
    have hOwn : Hid (∀ w1 B B' v v', owns w1 B v l → owns w1 B' v' l → Calls Tryd.prog 15 #[v, v'] w1 fun e w' => e = .returned (.bool true) ∧ Below w1.heap.size w1 w') := fun w1 B B' v v' h h' => eqByteS_own h h' hln.out
    have hMark : Hid (∀ w1 B v, owns w1 B v l → Calls Tryd.prog 16 #[v, .int .i64 1] w1 fun e w' => e = .returned (.int .i64 (1 + n)) ∧ w1.grownBy w' v.ownBlock) := fun w1 B v h => (markByteS_own 1 h hln.out (by omega) (by omega)).mono (by rintro e w' ⟨rfl, _, hg⟩; rw [HN.out]; exact ⟨rfl, hg⟩)
    rw [hn'] at HC1 HC2 HC3 HLt hn hm ⊢
    clear hn'
    have hn2 : (n : Int) ≤ 1048576 := by omega
    go_enter Tryd.func5, Tryd.ntmps5
    go_wp2_with fail
    refine (HC1.out _ (Below.refl _ _)).mono ?_
    rintro e w1 ⟨rfl, hr1, hb1⟩
    go_wp2_with fail
    refine (HC2.out _ _ hr1).mono ?_
    rintro e w2 ⟨vw, rfl, sw2, hb2⟩
    have B2 : Below w.heap.size w w2 := hb1.trans (hb2.mono hb1.size)
    have HK2 : Hid (∀ wz, Below w2.heap.size w2 wz → SVr wz vw) := fun wz hz => HSB.out _ _ _ sw2 hz
    clear hr1 hb1 hb2 sw2
    go_wp2_with fail
    refine (HC1.out _ B2).mono ?_
    rintro e w3 ⟨rfl, hr3, K3⟩
    have B3 : Below w.heap.size w w3 := B2.trans (K3.mono B2.size)
    have hD3 : w2.heap.size < w3.heap.size := HLt.out _ _ hr3
    have hDw : w.heap.size ≤ w2.heap.size := B2.size
    clear B2
    go_wp2_with fail
    refine (HC3.out _ _ B3 hr3).mono ?_
    rintro e w4 ⟨vg, rfl, og4, hb4⟩
    have hr4 := owns_below hr3 hb4
    have B4 : Below w.heap.size w w4 := B3.trans (hb4.mono B3.size)
    have K4 := K3.trans (hb4.mono K3.size)
    clear hr3 hb4 B3 K3
    go_wp2_with fail
    refine (HEq.out _ _ _ (HGS.out _ _ _ og4) (HK2.out _ K4)).mono ?_
    rintro e w5 ⟨rfl, hb5⟩
    have hr5 := owns_below hr4 hb5
    have og5 := HGB.out _ _ _ _ og4 hb5
    have B5 : Below w.heap.size w w5 := B4.trans (hb5.mono B4.size)
    have K5 := K4.trans (hb5.mono K4.size)
    clear hr4 hb5 og4 B4 K4
    go_wp2_with fail
    refine (HC1.out _ B5).mono ?_
    rintro e w6 ⟨rfl, hr6, hb6⟩
    have hr6' := owns_below hr5 hb6
    have og6 := HGB.out _ _ _ _ og5 hb6
    have B6 : Below w.heap.size w w6 := B5.trans (hb6.mono B5.size)
    have K6 := K5.trans (hb6.mono K5.size)
    clear hr5 hb6 og5 B5 K5
    go_wp2_with fail
    refine (hOwn.out _ _ _ _ _ hr6' hr6).mono ?_
    rintro e w7 ⟨rfl, hb7⟩
    have hr7 := owns_below hr6' hb7
    have og7 := HGB.out _ _ _ _ og6 hb7
    have B7 : Below w.heap.size w w7 := B6.trans (hb7.mono B6.size)
    have K7 := K6.trans (hb7.mono K6.size)
    clear hr6 hr6' hb7 og6 B6 K6
    go_wp2_with fail
    refine (hMark.out _ _ _ hr7).mono ?_
    rintro e w8 ⟨rfl, hG⟩
    have og8 := HGF.out _ _ _ _ (fun q => q = w2.heap.size) og7 (Far.grown hG (fun q hq => by simp only [Value.ownBlock, Option.some.injEq] at hq; exact hq.symm)) (fun q hq => by omega)
    have B8 : Below w.heap.size w w8 := B7.grown hG B7.size (fun q hq => by simp only [Value.ownBlock, Option.some.injEq] at hq; omega)
    have K8 : Below w2.heap.size w2 w8 := K7.grown hG K7.size (fun q hq => by simp only [Value.ownBlock, Option.some.injEq] at hq; omega)
    clear hG hr7 og7 B7 K7
    have hk : decide ((1 : Int) + (n : Int) < 0) = false := by simp; omega
    go_wp2_with fail
    refine (HEq.out _ _ _ (HGS.out _ _ _ og8) (HK2.out _ K8)).mono ?_
    rintro e w9 ⟨rfl, hb9⟩
    have og9 := HGB.out _ _ _ _ og8 hb9
    have B9 : Below w.heap.size w w9 := B8.trans (hb9.mono B8.size)
    have K9 := K8.trans (hb9.mono K8.size)
    clear hb9 og8 B8 K8
    go_wp2_with fail
    refine (HMk.out _ _ _ og9).mono ?_
    rintro e w10 ⟨rfl, hMV, hG⟩
    have B10 : Below w.heap.size w w10 := Far.toBelow B9 hG B9.size (fun q hq => by omega)
    have K10 : Below w2.heap.size w2 w10 := Far.toBelow K9 hG K9.size (fun q hq => by omega)
    clear hG og9 B9 K9
    go_wp2_with fail
    refine (HHd.out _ _ hMV).mono ?_
    rintro e w10 ⟨rfl, rfl⟩
    have hr0 : ¬ KR < 0 := by omega
    go_wp2_with fail
    refine (HC1.out _ B10).mono ?_
    rintro e w11 ⟨rfl, hr11, hb11⟩
    have B11 : Below w.heap.size w w11 := B10.trans (hb11.mono B10.size)
    have K11 := K10.trans (hb11.mono K10.size)
    clear hb11 B10 K10 hMV
    go_wp2_with fail
    refine (HC3.out _ _ B11 hr11).mono ?_
    rintro e w12 ⟨vh, rfl, oh12, hb12⟩
    have B12 : Below w.heap.size w w12 := B11.trans (hb12.mono B11.size)
    have K12 := K11.trans (hb12.mono K11.size)
    clear hb12 B11 K11 hr11
    go_wp2_with fail
    refine (HEq.out _ _ _ (HGS.out _ _ _ oh12) (HK2.out _ K12)).mono ?_
    rintro e w13 ⟨rfl, hb13⟩
    have B13 : Below w.heap.size w w13 := B12.trans (hb13.mono B12.size)
    go_wp2
    go_ret
    exact ⟨rfl, B13⟩
  · have hlt : (1048576 : Int) < (l.length : Int) := by omega
    go_enter Tryd.func5, Tryd.ntmps5
    go_wp2
    go_ret
    exact ⟨rfl, Below.refl _ _⟩

set_option maxRecDepth 100000 in
theorem lifted (os : Os) (started : os.Started) (H : Type) (enc : TypeId × Value → H) :
    ReturnsInHanded {} Tryd.checked os 5 .any (fun w args => (Rows.fnExactDecodeLogSpec.pre enc Tryd.prog Tryd.f5 [] false w args ∧ laidMetH Tryd.prog Rows.fnExactDecodeLogRow.laid w) ∧ sizedMet enc Tryd.prog Tryd.f5 (OpenSpec.ofChange Rows.fnExactDecodeLogSpec) false w args)
      (Rows.fnExactDecodeLogSpec.post enc Tryd.prog Tryd.f5 false true false false) := by
  refine returnsInHanded_of_change_and (C := Tryd.checked) (X := fun w _ => laidMetH Tryd.prog Rows.fnExactDecodeLogRow.laid w) (fun _ _ _ hh h => h.of_heap hh) own started (by kernel_rfl) Tryd.func5
    (ChangeSpec.witness_at (enc := enc) (C := Tryd.checked) (os := os) (X := fun w _ => laidMetH Tryd.prog Rows.fnExactDecodeLogRow.laid w) false (laidWorldD os) #[.slice none 0 0] 8 rfl (by kernel_rfl) (by kernel_rfl) (by kernel_rfl) (by kernel_rfl) (by kernel_rfl) (laidWorldD_met os _)) ?_
  intro W base args ds gs before hval0 hW _ _ hL _
  have hval : ∀ (j : Nat) t v, Tryd.f5.params[j]? = some t → args[j]? = some v → Value.okWide Tryd.prog W .any base t v := hval0
  have hW' := hW
  obtain ⟨p, q, hA0, hV, rfl, hfz, hnd⟩ := hW
  have hA : DataW.TrodAll enc Tryd.prog W 0 (fun _ => true) true Tryd.f5.params.toList args.toList ds p := hA0
  rw [Tryd.params5] at hA hval
  obtain ⟨v0, vs0, d0, ds0, p0, q0, hargs, rfl, rfl, h0, r0⟩ := trodAll_cons hA
  obtain ⟨rfl, rfl, rfl⟩ := trodAll_nil r0
  obtain rfl : args = #[v0] := by cases args; simp_all
  obtain ⟨rfl, rfl⟩ := trodVars_none hV
  obtain ⟨a0, len0, cap0, rfl⟩ := okWide_slice Tryd.underlying22 (hval 0 22 v0 rfl rfl)
  have k0 := h0
  have lt0 : ∀ x ∈ p0, x.block < W.heap.size := by obtain ⟨m, hm⟩ := k0; exact DataW.trod_lt m _ _ _ hm
  obtain ⟨pp, hpl, hml, _, hsrc, hok⟩ := open_bytes h0
  subst hpl
  clear hA0 hval0
  refine (walk a0 cap0 pp W hsrc hok hml (errT_of_laid hL)).mono fun e W' ⟨he, bel⟩ => ?_
  subst he
  exact ⟨_, rfl, _, _, _, [], _, [], hW', trodAll_mk1 (shut_bool Tryd.underlying4 _), (trodAll_cons_mk (Below.trod laidOut (by kernel_rfl) (of_decide_eq_true (by kernel_rfl)) k0 bel lt0) trodAll_mk0), rfl, bel.frame _, fun h => by cases h⟩

theorem row_holds : Rows.FnExactDecodeLogSaid :=
  OpenClaim.holds_of_wide 5 Tryd.f5 rfl rfl rfl rfl rfl rfl rfl ⟨rfl, rfl, rfl, rfl, rfl⟩ rfl rfl rfl rfl rfl (by kernel_rfl) Tryd.func5 (by kernel_rfl)
    (of_decide_eq_true (by kernel_rfl)) (by unfold Func.isWrapper; first | (rw [if_pos (by decide +kernel)]; kernel_rfl) | (rw [if_neg (by decide +kernel)]; exact ⟨rfl, rfl⟩))
    (fun os started H enc _ => lifted os started H enc)

theorem proved : Rows.FnExactDecodeLogCardSaid :=
  Claim7.holds_tied_plain_at .later [] [.handle] true (true, "81a264e980dab0c8ee7ffc8a7ecb5315209bc003be0024b921e869e5ad48ad9d") true
    row_holds (fun _ h => by cases h) (by kernel_rfl) (fun _ h => by cases h) fnExactDecodeLog_row_tie rfl ⟨rfl, rfl⟩ (by kernel_rfl) rfl
    (fun f fn hf hfn => by
      obtain rfl : f = 5 := Option.some.inj ((show Tryd.prog.funcNamed "loop.example/s0039/laws.FnExactDecodeLog" = some 5 by kernel_rfl).symm.trans hf) |>.symm
      obtain rfl : fn = Tryd.f5 := (Option.some.inj (Tryd.func5.symm.trans hfn)).symm
      exact ⟨by kernel_rfl, fun j t ht => by
        rw [Tryd.params5] at ht
        have h3 : t = 22 := by
          rcases j with _ | j
          · simpa using ht.symm
          · simp at ht
        subst h3
        exact (show Tryd.prog.wantsStandIn 22 = false by kernel_rfl)⟩)
    (by kernel_rfl)
#print axioms proved
end Go.Proofs.YtjbbiailhpkdeaaDoor.fnExactDecodeLog
