/-
  THE LAW 'FnExactDistinct': its walk and its row.
-/
import Derived.Test.YtpbljegjinjmnaaRows
import Derived.Test.YtpbljegjinjmnaaDistI
import Derived.Test.YtpbljegjinjmnaaOpenD
namespace Go.Proofs.Ytpbljegjinjmnaa.fnExactDistinct
open Go.ChangeShapes Go.WideShapes Go.ChangeAt Go.RowKit Go.Deep
set_option linter.unusedVariables false

set_option maxRecDepth 100000 in
set_option maxHeartbeats 4000000 in
theorem walk_fit (a : Option Addr) (cap : Nat) (cs : List C) (w : World) (hs : CSrc w a cs) (hok : ∀ c ∈ cs, c.ok) (hm : cs.length ≤ 9223372036854775807) (hm2 : ∀ c ∈ cs, c.args.length ≤ 9223372036854775807) (ht : cs.length + tot cs ≤ 1048576) :
    Calls Try.prog 4 #[.slice a cs.length cap] w fun e w' => e = .returned (.bool true) ∧ Below w.heap.size w w' := by
  have hma : ∀ c ∈ cs, c.args.length ≤ 1048576 := fun c hc => by have := tot_mem hc; omega
  have hn : cs.length ≤ 1048576 := by omega
  have HSz : Hid (Calls Try.prog 11 #[.slice a cs.length cap, .int .i64 1048576] w fun e w' => ∃ r, e = .returned (.int .i64 r) ∧ ((r = -1) ∨ (0 ≤ r ∧ r ≤ 1048576 ∧ cs.length + tot cs ≤ 1048576)) ∧ Below w.heap.size w w') := szCallS_any a cap cs w hs hm hm2
  have HC1 : Hid (∀ w1, Below w.heap.size w w1 → Calls Try.prog 13 #[.slice a cs.length cap] w1 fun e w' => ∃ vs, e = .returned (.slice (some ⟨w1.heap.size, 0, none⟩) cs.length cs.length) ∧ OwnC w' w1.heap.size cs.length vs cs ∧ Below w1.heap.size w1 w') :=
    fun w1 hB => toCallS_any a cap cs w1 (hs.below hB) hn hma
  have HC2 : Hid (∀ D N vs w1, OwnC w1 D N vs cs → Calls Try.prog 12 #[.slice (some ⟨D, 0, none⟩) cs.length cs.length] w1 fun e w' => ∃ r v', e = .returned v' ∧ IsDist cs r ∧ SV r w' v' ∧ Below w1.heap.size w1 w') := by
    intro D N vs w1 h
    refine (specDist_any cs _ _ w1 h.src (Nat.le_refl _) (fun c hc => ⟨hok c hc, hma c hc⟩) hn).mono ?_
    rintro e w' ⟨r, a', c', rfl, h1, _, h3, h4⟩
    exact ⟨r, _, rfl, h1, ⟨a', c', rfl, h3⟩, h4⟩
  have HC3 : Hid (∀ r, IsDist cs r → ∀ D N vs w1, OwnC w1 D N vs cs → Calls Try.prog 14 #[.slice (some ⟨D, 0, none⟩) cs.length cs.length] w1 fun e w' => ∃ v', e = .returned v' ∧ GV r w1.heap.size w' v' ∧ Below w1.heap.size w1 w') := by
    intro r hr D N vs w1 h
    refine (implDist_any cs _ _ w1 h.src hok hn hma).mono ?_
    rintro e w' ⟨v, rfl, ⟨ds, h1, h2, h3⟩, h4⟩
    obtain rfl : ds = r := dist_uniq h1 hr
    exact ⟨v, rfl, h3, h4⟩
  have HC4 : Hid (∀ D N vs D' N' vs' w1, OwnC w1 D N vs cs → OwnC w1 D' N' vs' cs → Calls Try.prog 15 #[.slice (some ⟨D, 0, none⟩) cs.length cs.length, .slice (some ⟨D', 0, none⟩) cs.length cs.length] w1 fun e w' => e = .returned (.bool true) ∧ Below w1.heap.size w1 w') :=
    fun D N vs D' N' vs' w1 h h' => eqCallS_any _ _ _ _ cs w1 h.src h'.src hn (fun c hc => by have := hma c hc; omega)
  have HC5 : Hid (∀ D N vs w1, OwnC w1 D N vs cs → Calls Try.prog 16 #[.slice (some ⟨D, 0, none⟩) cs.length cs.length, .int .i64 1] w1 fun e w' => e = .returned (.int .i64 (kN cs 1 cs.length)) ∧ MidC w' D N vs cs 1 cs.length ∧ Far w1 w' (setC cs D vs)) :=
    fun D N vs w1 h => markCallS_own D N _ vs cs 1 w1 h ht (by omega) (by omega)
  have hkb := kN_bd (cs := cs) (k := 1) cs.length (by omega) (by omega) (Nat.le_refl _) ht
  have HOS : Hid (∀ D N vs w1 q, OwnC w1 D N vs cs → setC cs D vs q → D ≤ q ∧ q < w1.heap.size) := by
    intro D N vs w1 q h hq
    rcases hq with rfl | ⟨j, hj, hq⟩
    · exact ⟨Nat.le_refl _, h.lt⟩
    · have := (h.own j hj).lt q hq; omega
  have HOB : Hid (∀ D N vs w1 w2, OwnC w1 D N vs cs → Below w1.heap.size w1 w2 → OwnC w2 D N vs cs) := fun D N vs w1 w2 h hb => h.below hb
  have HOL : Hid (∀ D N vs w1, OwnC w1 D N vs cs → D < w1.heap.size) := fun D N vs w1 h => h.lt
  have HEq : Hid (∀ r, IsDist cs r → ∀ w1 v v', SV r w1 v → SV r w1 v' → Calls Try.prog 15 #[v, v'] w1 fun e w' => e = .returned (.bool true) ∧ Below w1.heap.size w1 w') := by
    intro r hr w1 v v' h h'
    have := tot_sub (asc_nodup hr.1) (fun c hc => (hr.2 c).1 hc)
    exact eqSV h h' (by omega) (fun c hc => by have := tot_mem hc; omega)
  have HMk : Hid (∀ r, IsDist cs r → ∀ B w1 v, GV r B w1 v → Calls Try.prog 16 #[v, .int .i64 1] w1 fun e w' => e = .returned (.int .i64 (kN r 1 r.length)) ∧ MV r w' v ∧ Far w1 w' (fun q => B ≤ q)) := by
    intro r hr B w1 v h
    have := tot_sub (asc_nodup hr.1) (fun c hc => (hr.2 c).1 hc)
    exact markGV h (by omega)
  have HHd : Hid (∀ r, IsDist cs r → ∀ w1 v, MV r w1 v → Calls Try.prog 17 #[v, .int .i64 1] w1 fun e w' => e = .returned (.int .i64 (kN r 1 r.length)) ∧ w' = w1) := by
    intro r hr w1 v h
    have := tot_sub (asc_nodup hr.1) (fun c hc => (hr.2 c).1 hc)
    exact heldMV h (by omega)
  have HKr : Hid (∀ r, IsDist cs r → 0 ≤ kN r 1 r.length ∧ kN r 1 r.length ≤ 4194304) := by
    intro r hr
    have := tot_sub (asc_nodup hr.1) (fun c hc => (hr.2 c).1 hc)
    exact kN_bd (cs := r) (k := 1) r.length (by omega) (by omega) (Nat.le_refl _) (by omega)
  generalize kN cs 1 cs.length = KN at *
  clear hs hok hm2 hma
  obtain ⟨ID, hID⟩ : ∃ ID : List C → Prop, ∀ r, IsDist cs r = ID r := ⟨_, fun _ => rfl⟩
  obtain ⟨OC, hOC⟩ : ∃ OC : World → Nat → Nat → (Nat → Value) → Prop, ∀ w D N vs, OwnC w D N vs cs = OC w D N vs := ⟨_, fun _ _ _ _ => rfl⟩
  obtain ⟨SC, hSC⟩ : ∃ SC : Nat → (Nat → Value) → Nat → Prop, ∀ D vs, setC cs D vs = SC D vs := ⟨_, fun _ _ => rfl⟩
  simp only [hID] at HC2 HC3 HEq HMk HHd HKr
  simp only [hOC, hSC] at HC1 HC2 HC3 HC4 HC5 HOS HOB HOL
  clear hOC hSC hID
  generalize tot cs = t at *
  generalize cs.length = n at *
  go_enter Try.func4, Try.ntmps4
  go_wp2_with fail
  refine HSz.out.mono ?_
  rintro e w0 ⟨r, rfl, hr, b0⟩
  rcases hr with rfl | ⟨r0, r1, _⟩
  · go_wp2
    go_ret
    exact ⟨rfl, b0⟩
  clear HSz
  go_wp2_with fail
  refine (HC1.out _ b0).mono ?_
  rintro e w1 ⟨vs1, rfl, o1, b1⟩
  have B1 := b0.trans (b1.mono b0.size)
  clear b0 b1
  go_wp2_with fail
  refine (HC2.out _ _ _ _ o1).mono ?_
  rintro e w2 ⟨rs, vw, rfl, hrs, sw2, b2⟩
  have B2 := B1.trans (b2.mono B1.size)
  have HImp := HC3.out rs hrs
  have HEqr := HEq.out rs hrs
  have HMkr := HMk.out rs hrs
  have HHdr := HHd.out rs hrs
  have hkr := HKr.out rs hrs
  have HSB : Hid (∀ w1 w2 v, SV rs w1 v → Below w1.heap.size w1 w2 → SV rs w2 v) := fun w1 w2 v h hb => h.below hb
  have HGB : Hid (∀ B w1 w2 v, GV rs B w1 v → Below w1.heap.size w1 w2 → GV rs B w2 v) := fun B w1 w2 v h hb => h.below hb
  have HGF : Hid (∀ B w1 w2 v S, GV rs B w1 v → Far w1 w2 S → (∀ q, S q → q < B) → GV rs B w2 v) := fun B w1 w2 v S h hf hS => h.far hf hS
  have HGS : Hid (∀ B w1 v, GV rs B w1 v → SV rs w1 v) := fun B w1 v h => h.sv
  clear HC2 HC3 HEq HMk HHd HKr hrs
  have HImp : Hid (∀ D N vs w1, OC w1 D N vs → Calls Try.prog 14 #[.slice (some ⟨D, 0, none⟩) n n] w1 fun e w' => ∃ v', e = .returned v' ∧ GV rs w1.heap.size w' v' ∧ Below w1.heap.size w1 w') := HImp
  have HEqr : Hid (∀ w1 v v', SV rs w1 v → SV rs w1 v' → Calls Try.prog 15 #[v, v'] w1 fun e w' => e = .returned (.bool true) ∧ Below w1.heap.size w1 w') := HEqr
  have HMkr : Hid (∀ B w1 v, GV rs B w1 v → Calls Try.prog 16 #[v, .int .i64 1] w1 fun e w' => e = .returned (.int .i64 (kN rs 1 rs.length)) ∧ MV rs w' v ∧ Far w1 w' (fun q => B ≤ q)) := HMkr
  have HHdr : Hid (∀ w1 v, MV rs w1 v → Calls Try.prog 17 #[v, .int .i64 1] w1 fun e w' => e = .returned (.int .i64 (kN rs 1 rs.length)) ∧ w' = w1) := HHdr
  rename_i HImp0 HEqr0 HMkr0 HHdr0
  clear HImp0 HEqr0 HMkr0 HHdr0
  generalize kN rs 1 rs.length = KR at *
  obtain ⟨GVr, hGV⟩ : ∃ GVr : Nat → World → Value → Prop, ∀ B w v, GV rs B w v = GVr B w v := ⟨_, fun _ _ _ => rfl⟩
  obtain ⟨SVr, hSV⟩ : ∃ SVr : World → Value → Prop, ∀ w v, SV rs w v = SVr w v := ⟨_, fun _ _ => rfl⟩
  obtain ⟨MVr, hMV⟩ : ∃ MVr : World → Value → Prop, ∀ w v, MV rs w v = MVr w v := ⟨_, fun _ _ => rfl⟩
  simp only [hGV, hSV, hMV] at HImp HEqr HMkr HHdr HSB HGB HGF HGS sw2
  clear hGV hSV hMV o1 B1 b2
  go_wp2_with fail
  refine (HC1.out _ B2).mono ?_
  rintro e w3 ⟨vx, rfl, ox3, b3⟩
  have B3 := B2.trans (b3.mono B2.size)
  have sw3 := HSB.out _ _ _ sw2 b3
  have hDw := B2.size
  have hlt3 := HOL.out _ _ _ _ ox3
  have hS3 : ∀ q, SC w2.heap.size vx q → w2.heap.size ≤ q ∧ q < w3.heap.size := fun q hq => HOS.out _ _ _ _ q ox3 hq
  have K3 : Below w2.heap.size w2 w3 := b3
  have HK2 : Hid (∀ wz, Below w2.heap.size w2 wz → SVr wz vw) := fun wz hz => HSB.out _ _ _ sw2 hz
  have hw3 : Hid (w2.heap.size ≤ w3.heap.size) := b3.size
  clear sw2 sw3 b3 B2
  go_wp2_with fail
  refine (HImp.out _ _ _ _ ox3).mono ?_
  rintro e w4 ⟨vg, rfl, og4, b4⟩
  have B4 := B3.trans (b4.mono B3.size)
  have K4 := K3.trans (b4.mono hw3.out)
  have ox4 := HOB.out _ _ _ _ _ ox3 b4
  clear ox3 b4 B3 K3
  go_wp2_with fail
  refine (HEqr.out _ _ _ (HGS.out _ _ _ og4) (HK2.out _ K4)).mono ?_
  rintro e w5 ⟨rfl, b5⟩
  have B5 := B4.trans (b5.mono B4.size)
  have K5 := K4.trans (b5.mono K4.size)
  have og5 := HGB.out _ _ _ _ og4 b5
  have ox5 := HOB.out _ _ _ _ _ ox4 b5
  clear og4 ox4 b5 B4 K4
  go_wp2_with fail
  refine (HC1.out _ B5).mono ?_
  rintro e w6 ⟨v6, rfl, o6, b6⟩
  have B6 := B5.trans (b6.mono B5.size)
  have K6 := K5.trans (b6.mono K5.size)
  have og6 := HGB.out _ _ _ _ og5 b6
  have ox6 := HOB.out _ _ _ _ _ ox5 b6
  clear og5 ox5 b6 B5 K5
  go_wp2_with fail
  refine (HC4.out _ _ _ _ _ _ _ ox6 o6).mono ?_
  rintro e w7 ⟨rfl, b7⟩
  have B7 := B6.trans (b7.mono B6.size)
  have K7 := K6.trans (b7.mono K6.size)
  have og7 := HGB.out _ _ _ _ og6 b7
  have ox7 := HOB.out _ _ _ _ _ ox6 b7
  clear og6 ox6 o6 b7 B6 K6
  go_wp2_with fail
  refine (HC5.out _ _ _ _ ox7).mono ?_
  rintro e w8 ⟨rfl, _, hF⟩
  have og8 := HGF.out _ _ _ _ _ og7 hF (fun q hq => (hS3 q hq).2)
  have B8 : Below w.heap.size w w8 := Far.toBelow B7 hF B7.size (fun q hs => by have := (hS3 q hs).1; omega)
  have K8 : Below w2.heap.size w2 w8 := Far.toBelow K7 hF K7.size (fun q hs => (hS3 q hs).1)
  clear hF og7 ox7 B7 K7
  have hk : decide (KN < 0) = false := by simp; omega
  have hk' : ¬ KN < 0 := by omega
  go_wp2_with fail
  refine (HEqr.out _ _ _ (HGS.out _ _ _ og8) (HK2.out _ K8)).mono ?_
  rintro e w9 ⟨rfl, b9⟩
  have B9 := B8.trans (b9.mono B8.size)
  have K9 := K8.trans (b9.mono K8.size)
  have og9 := HGB.out _ _ _ _ og8 b9
  clear og8 b9 B8 K8
  go_wp2_with fail
  refine (HMkr.out _ _ _ og9).mono ?_
  rintro e w10 ⟨rfl, hMV, hG⟩
  have B10 : Below w.heap.size w w10 := Far.toBelow B9 hG B9.size (fun q hq => by have := hw3.out; omega)
  have K10 : Below w2.heap.size w2 w10 := Far.toBelow K9 hG K9.size (fun q hq => by have := hw3.out; omega)
  clear hG og9 B9 K9
  go_wp2_with fail
  refine (HHdr.out _ _ hMV).mono ?_
  rintro e w10 ⟨rfl, rfl⟩
  have hr0 : ¬ KR < 0 := by omega
  go_wp2_with fail
  refine (HC1.out _ B10).mono ?_
  rintro e w11 ⟨v11, rfl, o11, b11⟩
  have B11 := B10.trans (b11.mono B10.size)
  have K11 := K10.trans (b11.mono K10.size)
  clear b11 B10 K10 hMV
  go_wp2_with fail
  refine (HImp.out _ _ _ _ o11).mono ?_
  rintro e w12 ⟨vh, rfl, oh12, b12⟩
  have B12 := B11.trans (b12.mono B11.size)
  have K12 := K11.trans (b12.mono K11.size)
  clear b12 B11 K11 o11
  go_wp2_with fail
  refine (HEqr.out _ _ _ (HGS.out _ _ _ oh12) (HK2.out _ K12)).mono ?_
  rintro e w13 ⟨rfl, b13⟩
  have B13 := B12.trans (b13.mono B12.size)
  clear b13 B12 oh12
  go_wp2
  go_ret
  exact ⟨rfl, B13⟩

set_option maxRecDepth 100000 in
set_option maxHeartbeats 1000000 in
theorem walk (a : Option Addr) (cap : Nat) (cs : List C) (w : World) (hs : CSrc w a cs) (hok : ∀ c ∈ cs, c.ok) (hm : cs.length ≤ maxLen) (hm2 : ∀ c ∈ cs, c.args.length ≤ maxLen) :
    Calls Try.prog 4 #[.slice a cs.length cap] w fun e w' => e = .returned (.bool true) ∧ Below w.heap.size w w' := by
  unfold maxLen at hm hm2
  by_cases ht : cs.length + tot cs ≤ 1048576
  · exact walk_fit a cap cs w hs hok (by omega) (fun c hc => by have := hm2 c hc; omega) ht
  · have HSz : Hid (Calls Try.prog 11 #[.slice a cs.length cap, .int .i64 1048576] w fun e w' => e = .returned (.int .i64 (-1)) ∧ Below w.heap.size w w') := by
      refine (szCallS_any a cap cs w hs (by omega) (fun c hc => by have := hm2 c hc; omega)).mono ?_
      rintro e w' ⟨r, rfl, hr, hb⟩
      rcases hr with rfl | ⟨_, _, h⟩
      · exact ⟨rfl, hb⟩
      · omega
    clear hs hok hm2
    generalize cs.length = n at *
    go_enter Try.func4, Try.ntmps4
    go_wp2_with fail
    refine HSz.out.mono ?_
    rintro e w0 ⟨rfl, b0⟩
    go_wp2
    go_ret
    exact ⟨rfl, b0⟩

set_option maxRecDepth 100000 in
theorem lifted (os : Os) (started : os.Started) (H : Type) (enc : TypeId × Value → H) :
    ReturnsInHanded {} Try.checked os 4 .any (Rows.fnExactDistinctSpec.pre6 enc Try.prog Try.f4 Rows.fnExactDistinctRow.domain false) (Rows.fnExactDistinctSpec.post enc Try.prog Try.f4 false true false false) := by
  refine returnsInHanded_of_change (C := Try.checked) own started (by kernel_rfl) Try.func4
    (ChangeSpec.witness6 (enc := enc) (C := Try.checked) false ⟨#[], #[.slice none 0 0], []⟩ 8 (by kernel_rfl) (by kernel_rfl) (by kernel_rfl) (by kernel_rfl)) ?_
  intro W base args ds gs before hval0 hW hcnd _
  have hval : ∀ (j : Nat) t v, Try.f4.params[j]? = some t → args[j]? = some v → Value.okWide Try.prog W .any base t v := hval0
  have hW' := hW
  obtain ⟨p, q, hA0, hV, rfl, hfz, hnd⟩ := hW
  have hA : DataW.TrodAll enc Try.prog W 0 (fun _ => true) true Try.f4.params.toList args.toList ds p := hA0
  rw [Try.params4] at hA hval
  obtain ⟨v0, vs0, d0, ds0, p0, q0, hargs, rfl, rfl, h0, r0⟩ := trodAll_cons hA
  obtain ⟨rfl, rfl, rfl⟩ := trodAll_nil r0
  obtain rfl : args = #[v0] := by cases args; simp_all
  obtain ⟨rfl, rfl⟩ := trodVars_none hV
  obtain ⟨a0, len0, cap0, rfl⟩ := okWide_slice Try.underlying33 (hval 0 33 v0 rfl rfl)
  have k0 := h0
  have lt0 : ∀ x ∈ p0, x.block < W.heap.size := by obtain ⟨m, hm⟩ := k0; exact DataW.trod_lt m _ _ _ hm
  obtain ⟨cs, hcl, hml, hsrc, hok, hma⟩ := open_calls h0
  subst hcl
  clear hA0 hval0
  refine (walk a0 cap0 cs W hsrc hok hml hma).mono fun e W' ⟨he, bel⟩ => ?_
  subst he
  exact ⟨_, rfl, _, _, _, [], _, [], hW', trodAll_mk1 (shut_bool Try.underlying4 _), (trodAll_cons_mk (Below.trod laidOut (by kernel_rfl) (of_decide_eq_true (by kernel_rfl)) k0 bel lt0) trodAll_mk0), rfl, bel.frame _, fun h => by cases h⟩

theorem proved : Rows.FnExactDistinctSaid :=
  OpenClaim.holds_of_wide 4 Try.f4 rfl rfl rfl rfl rfl rfl rfl ⟨rfl, rfl, rfl, rfl, rfl⟩ rfl rfl rfl rfl rfl (by kernel_rfl) Try.func4 (by kernel_rfl)
    (of_decide_eq_true (by kernel_rfl)) (by unfold Func.isWrapper; first | (rw [if_pos (by decide +kernel)]; kernel_rfl) | (rw [if_neg (by decide +kernel)]; exact ⟨rfl, rfl⟩))
    (fun os started H enc _ => lifted os started H enc)
#print axioms proved
end Go.Proofs.Ytpbljegjinjmnaa.fnExactDistinct
