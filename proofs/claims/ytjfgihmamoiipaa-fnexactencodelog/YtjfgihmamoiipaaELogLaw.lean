/-
  THE LAW 'FnExactEncodeLog': its walk and its row.
-/
import Derived.Test.YtjfgihmamoiipaaRows
import Derived.Test.YtjfgihmamoiipaaEncI
import Derived.Test.YtjfgihmamoiipaaCallY
import Derived.Test.YtjfgihmamoiipaaOpenD
namespace Go.Proofs.Ytjfgihmamoiipaa.fnExactEncodeLog
open Go.ChangeShapes Go.WideShapes Go.ChangeAt Go.RowKit Go.Deep
set_option linter.unusedVariables false

theorem encLog_len {cs : List C} (h : ∀ c ∈ cs, c.ok) : (encLog cs).length ≤ 75007 := by
  by_cases hc : callsOk cs = true
  · obtain ⟨h1, h2⟩ := callsOk_inv hc
    rw [encLog_ok hc]
    have := logL_len h h2
    omega
  · rw [encLog_not (by simpa using hc)]; simp

set_option maxRecDepth 100000 in
set_option maxHeartbeats 2000000 in
theorem walk_fit (a : Option Addr) (cap : Nat) (cs : List C) (w : World) (hs : CSrc w a cs) (hok : ∀ c ∈ cs, c.ok) (hm : cs.length ≤ 9223372036854775807) (hm2 : ∀ c ∈ cs, c.args.length ≤ 9223372036854775807) (ht : cs.length + tot cs ≤ 1048576) :
    Calls Try.prog 9 #[.slice a cs.length cap] w fun e w' => e = .returned (.bool true) ∧ Below w.heap.size w w' := by
  have hma : ∀ c ∈ cs, c.args.length ≤ 1048576 := fun c hc => by have := tot_mem hc; omega
  have hn : cs.length ≤ 1048576 := by omega
  have HSz : Hid (Calls Try.prog 32 #[.slice a cs.length cap, .int .i64 1048576] w fun e w' => ∃ r, e = .returned (.int .i64 r) ∧ ((r = -1) ∨ (0 ≤ r ∧ r ≤ 1048576 ∧ cs.length + tot cs ≤ 1048576)) ∧ Below w.heap.size w w') := szCallS_any a cap cs w hs hm hm2
  have HC1 : Hid (∀ w1, Below w.heap.size w w1 → Calls Try.prog 34 #[.slice a cs.length cap] w1 fun e w' => ∃ vs, e = .returned (.slice (some ⟨w1.heap.size, 0, none⟩) cs.length cs.length) ∧ OwnC w' w1.heap.size cs.length vs cs ∧ Below w1.heap.size w1 w') :=
    fun w1 hB => toCallS_any a cap cs w1 (hs.below hB) hn hma
  have HC2 : Hid (∀ D N vs w1, OwnC w1 D N vs cs → Calls Try.prog 33 #[.slice (some ⟨D, 0, none⟩) cs.length cs.length] w1 fun e w' => ∃ v', e = .returned v' ∧ owns w' w1.heap.size v' (encLog cs) ∧ Below w1.heap.size w1 w') :=
    fun D N vs w1 h => specEncLog_any _ _ cs w1 h.src hok hn hma
  have HC3 : Hid (∀ D N vs w1, OwnC w1 D N vs cs → Calls Try.prog 35 #[.slice (some ⟨D, 0, none⟩) cs.length cs.length] w1 fun e w' => ∃ v', e = .returned v' ∧ owns w' w1.heap.size v' (encLog cs) ∧ Below w1.heap.size w1 w') :=
    fun D N vs w1 h => implEncLog_any _ _ cs w1 h.src hok hma
  have HC4 : Hid (∀ D N vs D' N' vs' w1, OwnC w1 D N vs cs → OwnC w1 D' N' vs' cs → Calls Try.prog 36 #[.slice (some ⟨D, 0, none⟩) cs.length cs.length, .slice (some ⟨D', 0, none⟩) cs.length cs.length] w1 fun e w' => e = .returned (.bool true) ∧ Below w1.heap.size w1 w') :=
    fun D N vs D' N' vs' w1 h h' => eqCallS_any _ _ _ _ cs w1 h.src h'.src hn (fun c hc => by have := hma c hc; omega)
  have HC5 : Hid (∀ D N vs w1, OwnC w1 D N vs cs → Calls Try.prog 37 #[.slice (some ⟨D, 0, none⟩) cs.length cs.length, .int .i64 1] w1 fun e w' => e = .returned (.int .i64 (kN cs 1 cs.length)) ∧ MidC w' D N vs cs 1 cs.length ∧ Far w1 w' (setC cs D vs)) :=
    fun D N vs w1 h => markCallS_own D N _ vs cs 1 w1 h ht (by omega) (by omega)
  have hkb := kN_bd (cs := cs) (k := 1) cs.length (by omega) (by omega) (Nat.le_refl _) ht
  have HOS : Hid (∀ D N vs w1 q, OwnC w1 D N vs cs → setC cs D vs q → D ≤ q ∧ q < w1.heap.size) := by
    intro D N vs w1 q h hq
    rcases hq with rfl | ⟨j, hj, hq⟩
    · exact ⟨Nat.le_refl _, h.lt⟩
    · have := (h.own j hj).lt q hq; omega
  have HOB : Hid (∀ D N vs w1 w2, OwnC w1 D N vs cs → Below w1.heap.size w1 w2 → OwnC w2 D N vs cs) := fun D N vs w1 w2 h hb => h.below hb
  have HOL : Hid (∀ D N vs w1, OwnC w1 D N vs cs → D < w1.heap.size) := fun D N vs w1 h => h.lt
  have hL : (encLog cs).length ≤ 75007 := encLog_len hok
  generalize encLog cs = L at *
  generalize kN cs 1 cs.length = KN at *
  clear hs hok hm2 hma
  obtain ⟨OC, hOC⟩ : ∃ OC : World → Nat → Nat → (Nat → Value) → Prop, ∀ w D N vs, OwnC w D N vs cs = OC w D N vs := ⟨_, fun _ _ _ _ => rfl⟩
  obtain ⟨SC, hSC⟩ : ∃ SC : Nat → (Nat → Value) → Nat → Prop, ∀ D vs, setC cs D vs = SC D vs := ⟨_, fun _ _ => rfl⟩
  simp only [hOC, hSC] at HC1 HC2 HC3 HC4 HC5 HOS HOB HOL
  clear hOC hSC
  generalize tot cs = t at *
  generalize cs.length = n at *
  go_enter Try.func9, Try.ntmps9
  go_wp2_with fail
  refine HSz.out.mono ?_
  rintro e w0 ⟨r, rfl, hr, b0⟩
  rcases hr with rfl | ⟨r0, r1, _⟩
  · go_wp2
    go_ret
    exact ⟨rfl, b0⟩
  clear HSz
  go_wp2_with fail
  refine (HC1.out _ b0).mono ?_
  rintro e w1 ⟨vs1, rfl, o1, b1⟩
  have B1 := b0.trans (b1.mono b0.size)
  clear b0 b1
  go_wp2_with fail
  refine (HC2.out _ _ _ _ o1).mono ?_
  rintro e w2 ⟨vw, rfl, ow2, b2⟩
  have B2 := B1.trans (b2.mono B1.size)
  have bw : ∀ q, vw.ownBlock = some q → q < w2.heap.size := fun q hq => (ow2.lt q hq).2
  clear o1 B1 b2
  go_wp2_with fail
  refine (HC1.out _ B2).mono ?_
  rintro e w3 ⟨vx, rfl, ox3, b3⟩
  have B3 := B2.trans (b3.mono B2.size)
  have ow3 := owns_below ow2 b3
  have hDw := B2.size
  have hlt3 := HOL.out _ _ _ _ ox3
  have hS3 : ∀ q, SC w2.heap.size vx q → w2.heap.size ≤ q ∧ q < w3.heap.size := fun q hq => HOS.out _ _ _ _ q ox3 hq
  clear ow2 b3 B2
  generalize w2.heap.size = D at *
  go_wp2_with fail
  refine (HC3.out _ _ _ _ ox3).mono ?_
  rintro e w4 ⟨vg, rfl, og4, b4⟩
  have B4 := B3.trans (b4.mono B3.size)
  have ow4 := owns_below ow3 b4
  have ox4 := HOB.out _ _ _ _ _ ox3 b4
  have bg : ∀ q, vg.ownBlock = some q → w3.heap.size ≤ q := fun q hq => (og4.lt q hq).1
  clear ow3 ox3 b4 B3
  go_wp2_with fail
  refine (eqByteS_own og4 ow4 (by omega)).mono ?_
  rintro e w5 ⟨rfl, b5⟩
  have B5 := B4.trans (b5.mono B4.size)
  have ow5 := owns_below ow4 b5
  have og5 := owns_below og4 b5
  have ox5 := HOB.out _ _ _ _ _ ox4 b5
  clear ow4 og4 ox4 b5 B4
  go_wp2_with fail
  refine (HC1.out _ B5).mono ?_
  rintro e w6 ⟨v6, rfl, o6, b6⟩
  have B6 := B5.trans (b6.mono B5.size)
  have ow6 := owns_below ow5 b6
  have og6 := owns_below og5 b6
  have ox6 := HOB.out _ _ _ _ _ ox5 b6
  clear ow5 og5 ox5 b6 B5
  go_wp2_with fail
  refine (HC4.out _ _ _ _ _ _ _ ox6 o6).mono ?_
  rintro e w7 ⟨rfl, b7⟩
  have B7 := B6.trans (b7.mono B6.size)
  have ow7 := owns_below ow6 b7
  have og7 := owns_below og6 b7
  have ox7 := HOB.out _ _ _ _ _ ox6 b7
  clear ow6 og6 ox6 o6 b7 B6
  go_wp2_with fail
  refine (HC5.out _ _ _ _ ox7).mono ?_
  rintro e w8 ⟨rfl, _, hF⟩
  have ow8 := owns_far ow7 hF (fun q hq hs => by have := bw q hq; have := (hS3 q hs).1; omega)
  have og8 := owns_far og7 hF (fun q hq hs => by have := bg q hq; have := (hS3 q hs).2; omega)
  have B8 : Below w.heap.size w w8 := Far.toBelow B7 hF B7.size (fun q hs => by have := (hS3 q hs).1; omega)
  clear hF ow7 og7 ox7 B7
  have hk : decide (KN < 0) = false := by simp; omega
  go_wp2_with fail
  refine (eqByteS_own og8 ow8 (by omega)).mono ?_
  rintro e w9 ⟨rfl, b9⟩
  have B9 := B8.trans (b9.mono B8.size)
  have ow9 := owns_below ow8 b9
  have og9 := owns_below og8 b9
  clear ow8 og8 b9 B8
  go_wp2_with fail
  refine (markByteS_own 1 og9 (by omega) (by omega) (by omega)).mono ?_
  rintro e w10 ⟨rfl, hMV, hG⟩
  have ow10 := owns_kept ow9 hG (fun q hq e => by have := bw q hq; have := bg q e.symm; omega)
  have B10 : Below w.heap.size w w10 := B9.grown hG B9.size (fun q hq => by have := bg q hq; omega)
  clear hG ow9 og9 B9
  go_wp2_with fail
  refine (heldByteS_own 1 hMV (by omega) (by omega) (by omega)).mono ?_
  rintro e w10 ⟨rfl, rfl⟩
  go_wp2_with fail
  refine (HC1.out _ B10).mono ?_
  rintro e w11 ⟨v11, rfl, o11, b11⟩
  have ow11 := owns_below ow10 b11
  have B11 := B10.trans (b11.mono B10.size)
  clear b11 ow10 B10 hMV
  go_wp2_with fail
  refine (HC3.out _ _ _ _ o11).mono ?_
  rintro e w12 ⟨vh, rfl, oh12, b12⟩
  have ow12 := owns_below ow11 b12
  have B12 := B11.trans (b12.mono B11.size)
  clear b12 ow11 B11 o11
  go_wp2_with fail
  refine (eqByteS_own oh12 ow12 (by omega)).mono ?_
  rintro e w13 ⟨rfl, b13⟩
  have B13 := B12.trans (b13.mono B12.size)
  clear b13 B12 oh12 ow12
  go_wp2
  go_ret
  exact ⟨rfl, B13⟩

set_option maxRecDepth 100000 in
set_option maxHeartbeats 1000000 in
theorem walk (a : Option Addr) (cap : Nat) (cs : List C) (w : World) (hs : CSrc w a cs) (hok : ∀ c ∈ cs, c.ok) (hm : cs.length ≤ maxLen) (hm2 : ∀ c ∈ cs, c.args.length ≤ maxLen) :
    Calls Try.prog 9 #[.slice a cs.length cap] w fun e w' => e = .returned (.bool true) ∧ Below w.heap.size w w' := by
  unfold maxLen at hm hm2
  by_cases ht : cs.length + tot cs ≤ 1048576
  · exact walk_fit a cap cs w hs hok (by omega) (fun c hc => by have := hm2 c hc; omega) ht
  · have HSz : Hid (Calls Try.prog 32 #[.slice a cs.length cap, .int .i64 1048576] w fun e w' => e = .returned (.int .i64 (-1)) ∧ Below w.heap.size w w') := by
      refine (szCallS_any a cap cs w hs (by omega) (fun c hc => by have := hm2 c hc; omega)).mono ?_
      rintro e w' ⟨r, rfl, hr, hb⟩
      rcases hr with rfl | ⟨_, _, h⟩
      · exact ⟨rfl, hb⟩
      · omega
    clear hs hok hm2
    generalize cs.length = n at *
    go_enter Try.func9, Try.ntmps9
    go_wp2_with fail
    refine HSz.out.mono ?_
    rintro e w0 ⟨rfl, b0⟩
    go_wp2
    go_ret
    exact ⟨rfl, b0⟩

set_option maxRecDepth 100000 in
theorem lifted (os : Os) (started : os.Started) (H : Type) (enc : TypeId × Value → H) :
    ReturnsInHanded {} Try.checked os 9 .any (Rows.fnExactEncodeLogSpec.pre6 enc Try.prog Try.f9 Rows.fnExactEncodeLogRow.domain false) (Rows.fnExactEncodeLogSpec.post enc Try.prog Try.f9 false true false false) := by
  refine returnsInHanded_of_change (C := Try.checked) own started (by kernel_rfl) Try.func9
    (ChangeSpec.witness6 (enc := enc) (C := Try.checked) false ⟨#[], #[.slice none 0 0], []⟩ 8 (by kernel_rfl) (by kernel_rfl) (by kernel_rfl) (by kernel_rfl)) ?_
  intro W base args ds gs before hval0 hW hcnd _
  have hval : ∀ (j : Nat) t v, Try.f9.params[j]? = some t → args[j]? = some v → Value.okWide Try.prog W .any base t v := hval0
  have hW' := hW
  obtain ⟨p, q, hA0, hV, rfl, hfz, hnd⟩ := hW
  have hA : DataW.TrodAll enc Try.prog W 0 (fun _ => true) true Try.f9.params.toList args.toList ds p := hA0
  rw [Try.params9] at hA hval
  obtain ⟨v0, vs0, d0, ds0, p0, q0, hargs, rfl, rfl, h0, r0⟩ := trodAll_cons hA
  obtain ⟨rfl, rfl, rfl⟩ := trodAll_nil r0
  obtain rfl : args = #[v0] := by cases args; simp_all
  obtain ⟨rfl, rfl⟩ := trodVars_none hV
  obtain ⟨a0, len0, cap0, rfl⟩ := okWide_slice Try.underlying49 (hval 0 49 v0 rfl rfl)
  have k0 := h0
  have lt0 : ∀ x ∈ p0, x.block < W.heap.size := by obtain ⟨m, hm⟩ := k0; exact DataW.trod_lt m _ _ _ hm
  obtain ⟨cs, hcl, hml, hsrc, hok, hma⟩ := open_calls h0
  subst hcl
  clear hA0 hval0
  refine (walk a0 cap0 cs W hsrc hok hml hma).mono fun e W' ⟨he, bel⟩ => ?_
  subst he
  exact ⟨_, rfl, _, _, _, [], _, [], hW', trodAll_mk1 (shut_bool Try.underlying4 _), (trodAll_cons_mk (Below.trod laidOut (by kernel_rfl) (of_decide_eq_true (by kernel_rfl)) k0 bel lt0) trodAll_mk0), rfl, bel.frame _, fun h => by cases h⟩

theorem proved : Rows.FnExactEncodeLogSaid :=
  OpenClaim.holds_of_wide 9 Try.f9 rfl rfl rfl rfl rfl rfl rfl ⟨rfl, rfl, rfl, rfl, rfl⟩ rfl rfl rfl rfl rfl (by kernel_rfl) Try.func9 (by kernel_rfl)
    (of_decide_eq_true (by kernel_rfl)) (by unfold Func.isWrapper; first | (rw [if_pos (by decide +kernel)]; kernel_rfl) | (rw [if_neg (by decide +kernel)]; exact ⟨rfl, rfl⟩))
    (fun os started H enc _ => lifted os started H enc)
#print axioms proved
end Go.Proofs.Ytjfgihmamoiipaa.fnExactEncodeLog
