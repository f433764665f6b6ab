/-
  LnLaw
-/
import Derived.Test.YtljhccolmcoifaaGreatRows
import Derived.Test.YtljhccolmcoifaaGreatQ44
import Derived.Test.YtljhccolmcoifaaGreatQ47
import Derived.Test.YtljhccolmcoifaaGreatQ48
import Derived.Test.YtljhccolmcoifaaGreatQ49
namespace Go.Proofs.YtljhccolmcoifaaGreat.fnExactLearn
open Go.ChangeShapes Go.WideShapes Go.ChangeAt Go.RowKit Go.Deep
set_option linter.unusedVariables false

theorem bounds {cs : List C} {ex sp f : Int} {out : List E} {z : Int} (ho : okC cs) (h : RelL cs ex sp f out z) : out.length ≤ 1000 ∧ ∀ e ∈ out, e.rules.length ≤ 200 ∧ ∀ r ∈ e.rules, r.length = 6 := by
  rcases h with ⟨h1, _, h2⟩ | ⟨_, _, rfl⟩
  · rw [Bool.and_eq_true] at h1
    have g1 := of_decide_eq_true h1.1
    have g2 := of_decide_eq_true h1.2
    have F := h2.facts (fun c hc => by
      have := (ho c hc).1
      exact ⟨⟨this.1, this.2.1⟩, ⟨this.2.2.1, this.2.2.2.1⟩, g2.2 c hc, this.2.2.2.2⟩) g2.1 g1.2.1 g1.2.2.2.1 g1.2.2.2.2
    refine ⟨valid_len F.valid, fun e he => ?_⟩
    obtain ⟨i, hi, rfl⟩ := List.getElem_of_mem he
    have e1 : out.getD i E.zero = out[i] := by rw [List.getD_eq_getElem?_getD, List.getElem?_eq_getElem hi]; rfl
    have h1 := validE_parts (validP_parts F.valid hi).1
    rw [e1] at h1
    exact ⟨h1.2.1, fun r hr => (vr_of ((F.ok _ he).2.2 r hr) (h1.2.2 r hr)).1⟩
  · exact ⟨by simp, by simp⟩

theorem walk_fit (a : Option Addr) (cap : Nat) (cs : List C) (ex sp f : Int) (w : World) (hs : CSrc w a cs) (hok : ∀ c ∈ cs, c.ok) (hm : cs.length ≤ 9223372036854775807) (hm2 : ∀ c ∈ cs, c.args.length ≤ 9223372036854775807) (ht : cs.length + tot cs ≤ 1048576) :
    Calls Tryz.prog 3 #[.slice a cs.length cap, .agg #[.int .i64 ex, .int .i64 sp, .int .i64 f]] w fun e w' => e = .returned (.bool true) ∧ Below w.heap.size w w' := by
  have hma : ∀ c ∈ cs, c.args.length ≤ 1048576 := fun c hc => by have := tot_mem hc; omega
  have hn : cs.length ≤ 1048576 := by omega
  have ho : okC cs := fun c hc => ⟨hok c hc, hma c hc⟩
  have hkb := kN_bd (cs := cs) (k := 1) cs.length (by omega) (by omega) (Nat.le_refl _) ht
  refine walk0 cs.length cap a ex sp f (kN cs 1 cs.length) w (fun w D vs => OwnC w D cs.length vs cs) (fun D vs => setC cs D vs) (RelL cs ex sp f) (fun out D D' w a c => GOwn D D' w a c out) hkb.1
    (fun w1 hb => (szCallS_any a cap cs w1 (hs.below hb) hm hm2).mono fun e w' ⟨r, h1, h2, h3⟩ => ⟨r, h1, h2.imp id fun h => ⟨h.1, h.2.1⟩, h3⟩)
    (fun w1 hb => toCallS_any a cap cs w1 (hs.below hb) hn hma)
    (toKnobs_any ex sp f)
    (fun D vs w1 h => (specLearn_any ex sp f cs _ _ w1 h.src (Nat.le_refl _) ho (fun c hc => ⟨hma c hc, (hok c hc).2.2.2.2⟩) hn).mono ?_)
    (fun out z hr D vs w1 h => (implLearn_any ex sp f cs _ _ w1 h.src ho hn).mono ?_)
    (fun D vs D' vs' w1 h h' => eqCallS_any _ _ _ _ cs w1 h.src h'.src hn (fun c hc => by have := hma c hc; omega))
    (fun D vs w1 h => (markCallS_own D _ _ vs cs 1 w1 h ht (by omega) (by omega)).mono fun e w' ⟨h1, _, h3⟩ => ⟨h1, h3⟩)
    ?_
    (fun D vs w1 w2 h hb => h.below hb)
    (fun out z hr a2 a3 cap2 cap3 w1 h h' => eqPolicy_any out a2 a3 cap2 cap3 w1 h h' (by have := (bounds ho hr).1; omega) (fun e he => ⟨by have := ((bounds ho hr).2 e he).1; omega, fun r hr2 => by have := ((bounds ho hr).2 e he).2 r hr2; omega⟩))
    (fun out D D' w1 w2 a c h h1 h2 => h.far h1 h2)
    (fun out z hr D D' w a c h => h.read (bounds ho hr).1 (bounds ho hr).2)
  · rintro e w' (⟨h1, av, cv, out, rfl, h2, h3, _, h4⟩ | ⟨h1, rfl, h2⟩)
    · exact ⟨av, cv, out, 0, rfl, .inl ⟨h1, rfl, h2⟩, fun w2 g1 g2 => PEC.plains (h3 w2 g1 g2), h4⟩
    · exact ⟨none, 0, [], 1, rfl, .inr ⟨h1, rfl, rfl⟩, fun _ _ _ => .inl rfl, h2⟩
  · rintro e w' ⟨a7, c7, out', z', h1, rfl, h2, h3⟩
    obtain ⟨rfl, rfl⟩ := hr.uniq h1
    exact ⟨a7, c7, rfl, h2, h3⟩
  · intro D vs w1 q h hq
    rcases hq with rfl | ⟨j, hj, hq⟩
    · exact ⟨Nat.le_refl _, h.lt⟩
    · have := (h.own j hj).lt q hq; omega

set_option maxRecDepth 100000 in
set_option maxHeartbeats 1000000 in
theorem walk (a : Option Addr) (cap : Nat) (cs : List C) (ex sp f : Int) (w : World) (hs : CSrc w a cs) (hok : ∀ c ∈ cs, c.ok) (hm : cs.length ≤ maxLen) (hm2 : ∀ c ∈ cs, c.args.length ≤ maxLen) :
    Calls Tryz.prog 3 #[.slice a cs.length cap, .agg #[.int .i64 ex, .int .i64 sp, .int .i64 f]] w fun e w' => e = .returned (.bool true) ∧ Below w.heap.size w w' := by
  unfold maxLen at hm hm2
  by_cases ht : cs.length + tot cs ≤ 1048576
  · exact walk_fit a cap cs ex sp f w hs hok (by omega) (fun c hc => by have := hm2 c hc; omega) ht
  · have HSz : Hid (∀ w1, Below w.heap.size w w1 → Calls Tryz.prog 4 #[.slice a cs.length cap, .int .i64 1048576] w1 fun e w' => e = .returned (.int .i64 (-1)) ∧ Below w1.heap.size w1 w') := by
      intro w1 hb1
      refine (szCallS_any a cap cs w1 (hs.below hb1) (by omega) (fun c hc => by have := hm2 c hc; omega)).mono ?_
      rintro e w' ⟨r, rfl, hr, hb⟩
      rcases hr with rfl | ⟨_, _, h⟩
      · exact ⟨rfl, hb⟩
      · omega
    have B0 : Below w.heap.size w (w.alloc (.cells #[.int .i64 ex, .int .i64 sp, .int .i64 f] 24)) := (Below.refl _ _).alloc (Nat.le_refl _) _
    clear hs hok hm2
    generalize cs.length = n at *
    go_enter Tryz.func3, Tryz.ntmps3
    go_wp2_with fail
    refine (HSz.out _ B0).mono ?_
    rintro e w0 ⟨rfl, b0⟩
    have B1 := below_step b0 B0
    go_wp2
    go_ret
    exact ⟨rfl, B1⟩

set_option maxRecDepth 100000 in
theorem lifted (os : Os) (started : os.Started) (H : Type) (enc : TypeId × Value → H) :
    ReturnsInHanded {} Tryz.checked os 3 .any (Rows.fnExactLearnSpec.pre6 enc Tryz.prog Tryz.f3 Rows.fnExactLearnRow.domain false) (Rows.fnExactLearnSpec.post enc Tryz.prog Tryz.f3 false true false false) := by
  refine returnsInHanded_of_change (C := Tryz.checked) own started (by kernel_rfl) Tryz.func3
    (ChangeSpec.witness6 (enc := enc) (C := Tryz.checked) false ⟨#[], #[.slice none 0 0, .agg #[.int .i64 0, .int .i64 0, .int .i64 0]], []⟩ 8 (by kernel_rfl) (by kernel_rfl) (by kernel_rfl) (by kernel_rfl)) ?_
  intro W base args ds gs before hval0 hW hcnd _
  have hval : ∀ (j : Nat) t v, Tryz.f3.params[j]? = some t → args[j]? = some v → Value.okWide Tryz.prog W .any base t v := hval0
  have hW' := hW
  obtain ⟨p, q, hA0, hV, rfl, hfz, hnd⟩ := hW
  have hA : DataW.TrodAll enc Tryz.prog W 0 (fun _ => true) true Tryz.f3.params.toList args.toList ds p := hA0
  rw [Tryz.params3] at hA hval
  obtain ⟨v0, vs0, d0, ds0, p0, q0, hargs, rfl, rfl, h0, r0⟩ := trodAll_cons hA
  obtain ⟨v1, vs1, d1, ds1, p1, q1, hargs1, rfl, rfl, h1, r1⟩ := trodAll_cons r0
  obtain ⟨rfl, rfl, rfl⟩ := trodAll_nil r1
  obtain rfl : args = #[v0, v1] := by cases args; simp_all
  obtain ⟨rfl, rfl⟩ := trodVars_none hV
  have k0 := h0
  have k1 := h1
  have lt0 : ∀ x ∈ p0, x.block < W.heap.size := by obtain ⟨m, hm⟩ := k0; exact DataW.trod_lt m _ _ _ hm
  have lt1 : ∀ x ∈ p1, x.block < W.heap.size := by obtain ⟨m, hm⟩ := k1; exact DataW.trod_lt m _ _ _ hm
  obtain ⟨a0, len0, cap0, rfl⟩ := okWide_slice Tryz.underlying22 (hval 0 22 v0 rfl rfl)
  obtain ⟨cs, hcl, hml, hsrc, hok, hma⟩ := open_calls h0
  subst hcl
  obtain ⟨ex, sp, f, rfl⟩ := open_knobs (hval 1 24 v1 rfl rfl) h1
  clear hA0 hval0
  refine (walk a0 cap0 cs ex sp f W hsrc hok hml hma).mono fun e W' ⟨he, bel⟩ => ?_
  subst he
  exact ⟨_, rfl, _, _, _, [], _, [], hW', trodAll_mk1 (shut_bool Tryz.underlying4 _), (trodAll_cons_mk (Below.trod laidOut (by kernel_rfl) (of_decide_eq_true (by kernel_rfl)) k0 bel lt0) (trodAll_cons_mk (Below.trod laidOut (by kernel_rfl) (of_decide_eq_true (by kernel_rfl)) k1 bel lt1) trodAll_mk0)), rfl, bel.frame _, fun h => by cases h⟩

theorem proved : Rows.FnExactLearnSaid :=
  OpenClaim.holds_of_wide 3 Tryz.f3 rfl rfl rfl rfl rfl rfl rfl ⟨rfl, rfl, rfl, rfl, rfl⟩ rfl rfl rfl rfl rfl (by kernel_rfl) Tryz.func3 (by kernel_rfl)
    (of_decide_eq_true (by kernel_rfl)) (by unfold Func.isWrapper; first | (rw [if_pos (by decide +kernel)]; kernel_rfl) | (rw [if_neg (by decide +kernel)]; exact ⟨rfl, rfl⟩))
    (fun os started H enc _ => lifted os started H enc)
#print axioms proved
end Go.Proofs.YtljhccolmcoifaaGreat.fnExactLearn
