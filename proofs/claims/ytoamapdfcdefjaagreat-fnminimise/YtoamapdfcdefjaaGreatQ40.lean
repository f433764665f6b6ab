/-
  DfD, MnLaw
-/
import Derived.Test.YtoamapdfcdefjaaGreatQ26
import Derived.Test.YtoamapdfcdefjaaGreatQ27
import Derived.Test.YtoamapdfcdefjaaGreatQ28
import Derived.Test.YtoamapdfcdefjaaGreatQ29
import Derived.Test.YtoamapdfcdefjaaGreatRows
import Derived.Test.YtoamapdfcdefjaaGreatQ24
import Derived.Test.YtoamapdfcdefjaaGreatQ38
import Derived.Test.YtoamapdfcdefjaaGreatQ39
import Derived.Test.YtoamapdfcdefjaaGreatQ02
namespace Go.Proofs.YtoamapdfcdefjaaGreat
open Go.RowKit Go.Deep
set_option linter.unusedVariables false

theorem forC (l : List Int) : ForC l := fun P a c B R cap ad j w h1 h2 h3 h4 h5 => by
  by_cases k1 : l.getD j 0 % 10 = 1
  · exact drawFor_1 P h1 h2 a c B R cap ad l j w h3 h4 h5 k1
  by_cases k2 : l.getD j 0 % 10 = 2
  · exact drawFor_2 P h1 h2 a c B R cap ad l j w h3 h4 h5 k2
  · exact drawFor_3 P h1 h2 a c B R cap ad l j w h3 h4 h5 ⟨k1, k2⟩
theorem drawAllows_any (l : List Int) (hl : isBytes l) (hn : l.length ≤ 1048576) (F : Nat → K × Nat) (hF : KdF (l.take 600) F) (a : Option Addr) (cap : Nat) (w : World) (hs : BSrc w a l) (hcap : l.length ≤ cap) :
    Calls Tryz.prog 4 #[.slice a l.length cap] w (AllPost (anyB (l.take 600) F 0) (anyD (l.take 600) F 0) (allX (l.take 600) F) w) := drawAllows_of l hl hn F hF (forC _) a cap w hs hcap
end Go.Proofs.YtoamapdfcdefjaaGreat
namespace Go.Proofs.YtoamapdfcdefjaaGreat.fnMinimise
open Go.ChangeShapes Go.WideShapes Go.ChangeAt Go.RowKit Go.Deep
set_option linter.unusedVariables false

set_option maxRecDepth 100000 in
set_option maxHeartbeats 4000000 in
/-- the law ends at once: what is drawn is not valid, or the call is cut -/
theorem early (a : Option Addr) (n cap : Nat) (V : Bool) (w : World) (hn : n ≤ 1048576)
    (HD : Hid (Calls Tryz.prog 4 #[.slice a n cap] w fun e w' => ∃ a2 n2 c2 ar nr b2 cl cb2, e = .returned (.tuple #[.agg #[.slice a2 n2 c2], .agg #[.int .u32 ar, .int .u32 nr, .slice b2 cl cb2]]) ∧ (V = false ∨ cl = 5) ∧ Below w.heap.size w w' ∧ Hid (∀ w1, Below w'.heap.size w' w1 → Calls Tryz.prog 5 #[.agg #[.slice a2 n2 c2]] w1 fun e w' => e = .returned (.bool V) ∧ Below w1.heap.size w1 w'))) :
    Calls Tryz.prog 3 #[.slice a n cap] w fun e w' => e = .returned (.bool true) ∧ Below w.heap.size w w' := by
  have hlt : ¬ (1048576 : Int) < n := by omega
  go_enter Tryz.func3, Tryz.ntmps3
  go_wp2_with fail
  refine (HD.out).mono ?_
  rintro e w1 ⟨a1, n1, c1, ar, nr, b1, cl, cb1, rfl, hx, B1, HV⟩
  have Hx : Hid _ := hx
  clear hx
  have b2 : Below w1.heap.size w1 ((w1.alloc (.cells #[.slice a1 n1 c1] 25)).alloc (.cells #[.int .u32 ar, .int .u32 nr, .slice b1 cl cb1] 29)) := ((Below.refl _ _).alloc (Nat.le_refl _) _).alloc (by simp) _
  have p2 : ((w1.alloc (.cells #[.slice a1 n1 c1] 25)).alloc (.cells #[.int .u32 ar, .int .u32 nr, .slice b1 cl cb1] 29)).cell? ⟨w1.heap.size, 0, none⟩ = some (.slice a1 n1 c1) := by
    obtain ⟨c3, _⟩ := cell_grD (g := w1.heap.size) (o := 0) (rb_alloc (World.grownBy.refl (w1.alloc (.cells #[.slice a1 n1 c1] 25)) none) (.cells #[.int .u32 ar, .int .u32 nr, .slice b1 cl cb1] 29)) (by simp) (by simp)
    exact c3.trans (box_getD w1 _ 25 _ rfl).1
  have x2 : Box3 ((w1.alloc (.cells #[.slice a1 n1 c1] 25)).alloc (.cells #[.int .u32 ar, .int .u32 nr, .slice b1 cl cb1] 29)) (w1.heap.size + 1) (.int .u32 ar) (.int .u32 nr) (.slice b1 cl cb1) := by
    have := Box3.new (w1.alloc (.cells #[.slice a1 n1 c1] 25)) 29 (.int .u32 ar) (.int .u32 nr) (.slice b1 cl cb1)
    simpa using this
  have B2 := B1.trans (b2.mono B1.size)
  go_upto_region 4 with fail
  generalize ((w1.alloc (.cells #[.slice a1 n1 c1] 25)).alloc (.cells #[.int .u32 ar, .int .u32 nr, .slice b1 cl cb1] 29)) = W2 at *
  have HV2 : Hid (Calls Tryz.prog 5 #[.agg #[.slice a1 n1 c1]] W2 fun e w' => e = .returned (.bool V) ∧ Below W2.heap.size W2 w') := HV.out W2 b2
  clear HV HD b2
  go_wp2_with fail
  refine HV2.out.mono ?_
  rintro _ w3 ⟨rfl, hb3⟩
  have x3 := (x2.keep hb3).c2
  have B3 := B2.trans (hb3.mono B2.size)
  clear x2 p2 B2 B1 hb3
  cases V with
  | false =>
    go_wp2
    go_ret
    exact ⟨rfl, B3⟩
  | true =>
    obtain rfl : cl = 5 := by rcases Hx.out with h | h; cases h; exact h
    go_wp2
    go_ret
    exact ⟨rfl, B3⟩

theorem valid_lens {p : List E} (hv : validP p = true) (ho : okP p) : ∀ e ∈ p, e.rules.length ≤ 200 ∧ ∀ r ∈ e.rules, r.length = 6 := by
  intro e he
  obtain ⟨i, hi, rfl⟩ := List.getElem_of_mem he
  have e1 : p.getD i E.zero = p[i] := by rw [List.getD_eq_getElem?_getD, List.getElem?_eq_getElem hi]; rfl
  have h1 := validE_parts (validP_parts hv hi).1
  rw [e1] at h1
  exact ⟨h1.2.1, fun r hr => (vr_of ((ho _ he).2.2 r hr) (h1.2.2 r hr)).1⟩
/-- what Minimise answers, where its answer is known -/
theorem minimise_is {Q out : List E} (hv : validP Q = true) (ho : okP Q) (hm : IsMin Q out) (hn : Q.length ≤ 1000) (a : Option Addr) (c n : Nat) (hnQ : Q.length = n) (w : World) (hs : LSrc 3 PE w a Q) :
    Calls Tryz.prog 6 #[.agg #[.slice a n c]] w fun e w' => ∃ a3 c3, e = .returned (.agg #[.slice a3 n c3]) ∧ LSrc 3 PE w' a3 out ∧ Below w.heap.size w w' := by
  subst hnQ
  refine (implMin_yes Q a c w hs ho hv hn).mono ?_
  rintro e w' ⟨v, out', rv, lo, hi, gb, h1, h2, h3, h4⟩
  obtain rfl := h1.uniq hm
  have fx := h1.facts hv ho
  obtain ⟨a3, c3, _, e3, _, _, _, _, h5⟩ := ownPs_se h3 (by rw [fx.len]; exact hn) (valid_lens fx.valid fx.ok)
  rw [e3, fx.len] at h2
  exact ⟨a3, c3, h2, h5, h4⟩

theorem walk_fit (a : Option Addr) (cap : Nat) (l : List Int) (w : World) (hs : BSrc w a l) (hl : isBytes l) (hcap : l.length ≤ cap) (hn : l.length ≤ 1048576) :
    Calls Tryz.prog 3 #[.slice a l.length cap] w fun e w' => e = .returned (.bool true) ∧ Below w.heap.size w w' := by
  have hbL := isBytes_take hl 600
  obtain ⟨F, hF⟩ := kdF_ex (l.take 600) hbL
  have HD := fun w1 (hb : Below w.heap.size w w1) => drawAllows_any l hl hn F hF a cap w1 (hs.below hb) hcap
  obtain ⟨hokD, hbdD⟩ := anyD_bd hbL hF 0
  generalize anyD (l.take 600) F 0 = D at *
  generalize anyB (l.take 600) F 0 = bd at *
  generalize allX (l.take 600) F = X at *
  have hbig : ∀ P : List E, BdP P → P.length ≤ 16777216 ∧ (∀ e ∈ P, e.rules.length ≤ 16777216) ∧ ∀ e ∈ P, ∀ r ∈ e.rules, r.length ≤ 16777216 := fun P h => ⟨by have := h.1; omega, fun e he => by have := (h.2 e he).1; omega, fun e he r hr => by have := (h.2 e he).2 r hr; omega⟩
  obtain ⟨hb1, hb2, hb3⟩ := hbig D hbdD
  have HVal : ∀ (P : List E) (a2 : Option Addr) (c2 : Nat) (w1 : World), okP P → BdP P → LSrc 3 PE w1 a2 P → Calls Tryz.prog 5 #[.agg #[.slice a2 P.length c2]] w1 fun e w' => e = .returned (.bool (validP P)) ∧ Below w1.heap.size w1 w' := fun P a2 c2 w1 h1 h2 h3 => by
    obtain ⟨k1, k2, k3⟩ := hbig P h2
    exact specValidP_any P a2 c2 w1 h3 h1 k1 k2 k3
  by_cases hgood : bd = false ∧ validP D = true ∧ X.args.length = 6
  · obtain ⟨rfl, hv, h6⟩ := hgood
    have HD1 : ∀ w1, Below w.heap.size w w1 → Calls Tryz.prog 4 #[.slice a l.length cap] w1 fun e w' => ∃ a2 c2 b2 cb2, e = .returned (.tuple #[.agg #[.slice a2 D.length c2], .agg #[.int .u32 X.arch, .int .u32 X.nr, .slice b2 6 cb2]]) ∧ PolOr w1.heap.size D w' (.slice a2 D.length c2) ∧ LSrc 3 PE w' a2 D ∧ (USrc w' b2 X.args ∧ X.ok) ∧ Below w1.heap.size w1 w' := fun w1 hb => (HD w1 hb).mono (by
      rintro e w' ⟨vp, ar, nr, q, n, cq, args, rfl, h1, h2, h3, h4, h5, ⟨h, _⟩ | ⟨_, hX, hp⟩⟩
      · cases h
      · obtain ⟨a2, c2, rfl⟩ := hp.form
        subst hX
        have h1' : n = 6 := h1.symm.trans h6
        subst h1'
        exact ⟨a2, c2, _, cq, rfl, hp, hp.src, ⟨h3, h4⟩, h5⟩)
    obtain ⟨_, w', _, ⟨a2, c2, b2, cb2, _, _, hsD, ⟨_, hXok⟩, _⟩, _⟩ := HD1 w (Below.refl _ _) []
    have hn3 : D.length ≤ 1000 := by have := hbdD.1; omega
    obtain ⟨_, _, _, ⟨_, out, _, _, _, _, hm, _⟩, _⟩ := implMin_yes D a2 0 w' hsD hokD hv hn3 []
    have fx := hm.facts hv hokD
    have hlens := valid_lens fx.valid fx.ok
    have hlensD := valid_lens hv hokD
    have hbO : BdP out := ⟨by rw [fx.len]; exact hbdD.1, fun e he => ⟨by have := (hlens e he).1; omega, fun r hr => by have := (hlens e he).2 r hr; omega⟩⟩
    obtain ⟨ho1, ho2, ho3⟩ := hbig out hbO
    have hA : A64 (argN X.args) := fun i => by
      unfold argN
      by_cases hi : i < X.args.length
      · rw [List.getD_eq_getElem?_getD, List.getElem?_eq_getElem hi]
        have := hXok.2.2.2.2 _ (List.getElem_mem hi)
        unfold isU64 at this
        show (X.args[i]).toNat < _
        omega
      · rw [List.getD_eq_getElem?_getD, List.getElem?_eq_none (by omega)]; decide
    have hargl : X.args.length ≤ 16777216 := by omega
    have hAl := fx.allows X hA
    have hnr : ∀ i, i < D.length → NRs (rulesAt out i) := fun i hi => (fx.each i hi).nr
    refine walk0 a l.length cap D.length D out X (allowsP D X) (fun i s t k => withinI ((ruleAt out i s).getD k K.zero) ((ruleAt out i t).getD k K.zero)) w hn rfl fx.len hn3 ?_ ?_ ?_ ?_ ?_ ?_ ?_ ?_ ?_
    · exact fun w1 hb => (HD1 w1 hb).mono (by
        rintro e w' ⟨a2, c2, b2, cb2, h1, h2, h3, ⟨h4, _⟩, h5⟩
        exact ⟨a2, c2, b2, cb2, h1, h2, h3, h4, h5⟩)
    · intro a2 c2 w1 h
      rcases h with h | h
      · have := HVal D a2 c2 w1 hokD hbdD h
        rw [hv] at this; exact this
      · have := HVal out a2 c2 w1 fx.ok hbO h
        rw [fx.valid, fx.len] at this; exact this
    · intro a2 c2 b2 cb2 w1 h hu
      rcases h with h | h
      · have := specAllows_any D X a2 b2 c2 cb2 w1 h hu hokD hXok.2.2.2.2 hargl hb1 hb2 hb3
        rw [h6] at this; exact this
      · have := specAllows_any out X a2 b2 c2 cb2 w1 h hu fx.ok hXok.2.2.2.2 hargl ho1 ho2 ho3
        rw [h6, hAl, fx.len] at this; exact this
    · intro a2 c2 w1 ⟨Q, hQ, hsQ⟩
      rcases hQ with hQ | rfl
      · exact minimise_is (hQ.valid hv) (hQ.ok hokD) (hQ.min hm) (by rw [hQ.1]; exact hn3) a2 c2 _ hQ.1 w1 hsQ
      · exact minimise_is fx.valid fx.ok fx.again (by rw [fx.len]; exact hn3) a2 c2 _ fx.len w1 hsQ
    · intro a2 c2 a3 c3 w1 h h'
      have := samePolicy_same out a2 a3 c2 c3 w1 h h' ho1 ho2 ho3
      rw [fx.len] at this; exact this
    · intro i s t k w1 hi hs' ht hk
      have n1 := (hnr i hi _ (getD_mem (d := []) hs')).2 k
      have n2 := (hnr i hi _ (getD_mem (d := []) ht)).2 k
      refine specWithin_any _ _ _ w1 n1.ok n2.ok ?_
      unfold Hid
      exact ⟨fun h => ⟨n1.valid, n2.valid, (withinI_iff n1 n2).1 h⟩, fun h => (withinI_iff n1 n2).2 h.2.2⟩
    · intro i s t hi hs' ht hne
      have hno := (fx.each i hi).stuck.1 s hs' t ht hne
      exact Classical.byContradiction fun hc => by
        have : withinR (at' (rulesAt out i) s) (at' (rulesAt out i) t) = true := (withinR_iff _ _).2 fun k hk => by
          cases e : withinI ((at' (rulesAt out i) s).getD k K.zero) ((at' (rulesAt out i) t).getD k K.zero) with
          | true => rfl
          | false => exact absurd ⟨k, hk, e⟩ hc
        rw [show withinR (at' (rulesAt out i) s) (at' (rulesAt out i) t) = false from hno] at this
        cases this
    · intro i rl hi e
      have := (hlensD _ (getD_mem (d := E.zero) hi)).1
      have e' : (D.getD i E.zero).rules.length = rl := e
      omega
    · intro i hi
      obtain ⟨e1, e2, _⟩ := hm.2 i hi
      refine ⟨e1, e2, (fx.each i hi).len, (hlensD _ (getD_mem (d := E.zero) hi)).1, fun s hs' => (hnr i hi _ (getD_mem (d := []) hs')).1⟩
  · refine early a l.length cap (validP D && !bd) w hn ?_
    refine (HD w (Below.refl _ _)).mono ?_
    rintro e w' ⟨vp, ar, nr, q, n, cq, args, rfl, h1, h2, h3, h4, h5, ⟨hb, P, a2, c2, rfl, h6, h7, h8, h9, h10⟩ | ⟨hb, hX, hp⟩⟩
    · refine ⟨a2, P.length, c2, ar, nr, _, n, cq, rfl, .inl (by rw [hb]; simp), h5, fun w1 hb1 => ?_⟩
      have := HVal P a2 c2 w1 h7 h9 ((polB_src h10).below PE.stays hb1)
      rw [h8] at this
      rw [hb, Bool.not_true, Bool.and_false]
      exact this
    · obtain ⟨a2, c2, rfl⟩ := hp.form
      refine ⟨a2, D.length, c2, ar, nr, _, n, cq, rfl, ?_, h5, fun w1 hb1 => ?_⟩
      · subst hX
        rw [hb, Bool.not_false, Bool.and_true]
        cases hv : validP D with
        | false => exact .inl rfl
        | true =>
          refine .inr ?_
          rcases h2 with h2 | h2
          · exact h2
          · exact absurd ⟨hb, hv, h1.trans h2⟩ hgood
      · have := HVal D a2 c2 w1 hokD hbdD (hp.src.below PE.stays hb1)
        rw [hb, Bool.not_false, Bool.and_true]
        exact this

set_option maxRecDepth 100000 in
set_option maxHeartbeats 1000000 in
theorem walk (a : Option Addr) (cap : Nat) (l : List Int) (w : World) (hs : BSrc w a l) (hl : isBytes l) (hcap : l.length ≤ cap) (hm : l.length ≤ maxLen) :
    Calls Tryz.prog 3 #[.slice a l.length cap] w fun e w' => e = .returned (.bool true) ∧ Below w.heap.size w w' := by
  unfold maxLen at hm
  by_cases hn : l.length ≤ 1048576
  · exact walk_fit a cap l w hs hl hcap hn
  · clear hs hl hcap
    generalize l.length = n at *
    have hn' : (1048576 : Int) < (n : Int) := by omega
    go_enter Tryz.func3, Tryz.ntmps3
    go_wp2
    go_ret
    exact ⟨rfl, Below.refl _ _⟩

set_option maxRecDepth 100000 in
theorem lifted (os : Os) (started : os.Started) (H : Type) (enc : TypeId × Value → H) :
    ReturnsInHanded {} Tryz.checked os 3 .any (Rows.fnMinimiseSpec.pre6 enc Tryz.prog Tryz.f3 Rows.fnMinimiseRow.domain false) (Rows.fnMinimiseSpec.post enc Tryz.prog Tryz.f3 false true false false) := by
  refine returnsInHanded_of_change (C := Tryz.checked) own started (by kernel_rfl) Tryz.func3
    (ChangeSpec.witness6 (enc := enc) (C := Tryz.checked) false ⟨#[], #[.slice none 0 0], []⟩ 8 (by kernel_rfl) (by kernel_rfl) (by kernel_rfl) (by kernel_rfl)) ?_
  intro W base args ds gs before hval0 hW hcnd _
  have hval : ∀ (j : Nat) t v, Tryz.f3.params[j]? = some t → args[j]? = some v → Value.okWide Tryz.prog W .any base t v := hval0
  have hW' := hW
  obtain ⟨p, q, hA0, hV, rfl, hfz, hnd⟩ := hW
  have hA : DataW.TrodAll enc Tryz.prog W 0 (fun _ => true) true Tryz.f3.params.toList args.toList ds p := hA0
  rw [Tryz.params3] at hA hval
  obtain ⟨v0, vs0, d0, ds0, p0, q0, hargs, rfl, rfl, h0, r0⟩ := trodAll_cons hA
  obtain ⟨rfl, rfl, rfl⟩ := trodAll_nil r0
  obtain rfl : args = #[v0] := by cases args; simp_all
  obtain ⟨rfl, rfl⟩ := trodVars_none hV
  obtain ⟨a0, len0, cap0, rfl⟩ := okWide_slice Tryz.underlying22 (hval 0 22 v0 rfl rfl)
  have k0 := h0
  have lt0 : ∀ x ∈ p0, x.block < W.heap.size := by obtain ⟨m, hm⟩ := k0; exact DataW.trod_lt m _ _ _ hm
  obtain ⟨pp, hpl, hml, hcp, hsrc, hok⟩ := open_bytes h0
  subst hpl
  clear hA0 hval0
  refine (walk a0 cap0 pp W hsrc hok hcp hml).mono fun e W' ⟨he, bel⟩ => ?_
  subst he
  exact ⟨_, rfl, _, _, _, [], _, [], hW', trodAll_mk1 (shut_bool Tryz.underlying4 _), (trodAll_cons_mk (Below.trod laidOut (by kernel_rfl) (of_decide_eq_true (by kernel_rfl)) k0 bel lt0) trodAll_mk0), rfl, bel.frame _, fun h => by cases h⟩

theorem proved : Rows.FnMinimiseSaid :=
  OpenClaim.holds_of_wide 3 Tryz.f3 rfl rfl rfl rfl rfl rfl rfl ⟨rfl, rfl, rfl, rfl, rfl⟩ rfl rfl rfl rfl rfl (by kernel_rfl) Tryz.func3 (by kernel_rfl)
    (of_decide_eq_true (by kernel_rfl)) (by unfold Func.isWrapper; first | (rw [if_pos (by decide +kernel)]; kernel_rfl) | (rw [if_neg (by decide +kernel)]; exact ⟨rfl, rfl⟩))
    (fun os started H enc _ => lifted os started H enc)
#print axioms proved
end Go.Proofs.YtoamapdfcdefjaaGreat.fnMinimise
