/-
  THE LAW 'FnCover': its row.
-/
import Derived.Test.YtpbljegjinjmnaaRows
import Derived.Test.YtpbljegjinjmnaaDrawW
import Derived.Test.YtpbljegjinjmnaaCovW
import Derived.Test.YtpbljegjinjmnaaSameC
import Derived.Test.YtpbljegjinjmnaaCondO
import Derived.Test.YtpbljegjinjmnaaCovL
import Derived.Test.YtpbljegjinjmnaaOpenB
import Derived.Test.YtpbljegjinjmnaaMathX
namespace Go.Proofs.Ytpbljegjinjmnaa.fnCover
open Go.ChangeShapes Go.WideShapes Go.ChangeAt Go.RowKit Go.Deep
set_option linter.unusedVariables false

theorem longs_nat {l : List Int} (h : ∀ y ∈ l, isU64 y) : ∃ vs : List Nat, l = natV vs ∧ All64 vs := by
  refine ⟨l.map Int.toNat, ?_, fun i => ?_⟩
  · rw [natV, List.map_map]
    have : l.map id = l.map ((fun n : Nat => (n : Int)) ∘ Int.toNat) := by
      apply List.map_congr_left
      intro x hx
      have := (h x hx).1
      simp [Int.toNat_of_nonneg this]
    rw [List.map_id] at this
    exact this
  · rw [List.getD_eq_getElem?_getD]
    cases e : (l.map Int.toNat)[i]? with
    | none => simp
    | some x =>
      have hx := List.mem_of_getElem? e
      simp only [List.mem_map] at hx
      obtain ⟨y, hy, rfl⟩ := hx
      have := h y hy
      simp only [isU64] at this
      simp only [Option.getD_some]
      omega


theorem point_within {v : Nat} (hv : v < 18446744073709551616) {c : K} (h : holdsK c v = true) : Within (pointK v) c := fun x hx h1 => by
  rw [pointK_holds hx] at h1; subst h1; exact h
theorem within_self (c : K) : Within c c := fun v _ h => h
theorem cover_two {vs : List Nat} : coverK vs 0 = coverK vs 1 ∨ coverK vs 0 = coverK vs 2 := by
  by_cases h0 : vs.length = 0
  · left; unfold coverK; simp [h0]
  · have e : ∀ g : Int, 0 ≤ g ∧ g ≤ 2 → coverK vs g = if g = 1 ∨ (g = 0 ∧ moreK (covA vs) ≤ maxN vs vs.length - minN vs vs.length) then newMask (covA vs) (covB vs) else newRange (minN vs vs.length) (maxN vs vs.length) := fun g hg => by
      unfold coverK; rw [if_neg (by omega)]
    rw [e 0 (by omega), e 1 (by omega), e 2 (by omega)]
    by_cases h : moreK (covA vs) ≤ maxN vs vs.length - minN vs vs.length
    · left; simp [h]
    · right; simp [h]

set_option maxRecDepth 100000 in
set_option maxHeartbeats 1000000 in
theorem early (a : Option Addr) (n cap m : Nat) (f : Int) (w : World) (hn : n ≤ 1048576) (hm : m ≤ 1000) (hf : -1 ≤ f ∧ f ≤ 3) (hx : ¬ (0 < m ∧ 0 ≤ f ∧ f ≤ 2))
    (HD : Hid (Calls Try.prog 6 #[.slice a n cap] w fun e w' => ∃ ax cx, e = .returned (.tuple #[.slice ax m cx, .int .i64 f]) ∧ Below w.heap.size w w')) :
    Calls Try.prog 3 #[.slice a n cap] w fun e w' => e = .returned (.bool true) ∧ Below w.heap.size w w' := by
  have hlt : ¬ (1048576 : Int) < n := by omega
  have hX : Hid (((m : Int) == 0 || decide (f < 0) || decide (2 < f)) = true) := by
    unfold Hid
    simp only [Bool.or_eq_true, beq_iff_eq, decide_eq_true_eq]
    omega
  clear hx
  go_enter Try.func3, Try.ntmps3
  go_wp2_with fail
  refine (HD.out).mono ?_
  rintro e w1 ⟨a1, c1, rfl, B1⟩
  have h := hX.out
  by_cases h1 : ((m : Int) == 0) = true
  · go_wp2
    go_ret
    exact ⟨rfl, B1⟩
  · have h1' : ((m : Int) == 0) = false := by simpa using h1
    clear h1
    by_cases h2 : decide (f < 0) = true
    · go_wp2
      go_ret
      exact ⟨rfl, B1⟩
    · have h2' : decide (f < 0) = false := by simpa using h2
      have h3 : decide (2 < f) = true := by rw [h1', h2'] at h; exact h
      clear h2 h hX
      go_wp2
      go_ret
      exact ⟨rfl, B1⟩

theorem walk_fit (a : Option Addr) (cap : Nat) (l : List Int) (w : World) (hs : BSrc w a l) (hl : isBytes l) (hcap : l.length ≤ cap) (hn : l.length ≤ 1048576) :
    Calls Try.prog 3 #[.slice a l.length cap] w fun e w' => e = .returned (.bool true) ∧ Below w.heap.size w w' := by
  obtain ⟨vz, f, hd, HD⟩ := drawCover_det l hl hn
  obtain ⟨vs, rfl, hv⟩ := longs_nat (l := vz) (fun y hy => by have := hd.bd y hy; unfold isU at this; unfold isU64; omega)
  have hnl : (natV vs).length = vs.length := by simp
  have hlen : vs.length ≤ 1000 := by have := hd.len; omega
  by_cases hx : 0 < vs.length ∧ 0 ≤ f ∧ f ≤ 2
  · obtain ⟨h0, hf⟩ := hx
    have nm : ∀ g, Normal (coverK vs g) := coverK_normal hv
    have src : ∀ w1 ax cx g, USrc w1 ax (natV vs) → Calls Try.prog 7 #[.slice ax vs.length cx, .int .i64 g] w1 fun e w' => e = .returned (conV (coverK vs g)) ∧ Below w1.heap.size w1 w' := fun w1 ax cx g h => implCover_any g ax cx vs w1 h (by omega) hv
    obtain ⟨b1, Hb1⟩ := ex_dec (Within (coverK vs f) (coverK vs 1))
    obtain ⟨b2, Hb2⟩ := ex_dec (Within (coverK vs f) (coverK vs 2))
    refine cover_walk a l.length cap vs.length f (fun i => ((vs.getD i 0 : Nat) : Int)) (coverK vs f).kind (coverK vs f).a (coverK vs f).b (coverK vs 1).kind (coverK vs 1).a (coverK vs 1).b (coverK vs 2).kind (coverK vs 2).a (coverK vs 2).b b1 b2 w hn hlen h0 hf
      (fun w1 ax => USrc w1 ax (natV vs)) (fun w1 w2 ax hb h => h.below hb) ?_ ?_ (fun ax cx w1 h => src w1 ax cx f h) (fun ax cx w1 h => src w1 ax cx 1 h) (fun ax cx w1 h => src w1 ax cx 2 h) ?_ ?_ ?_ ?_ ?_ ?_ ?_ ?_
    · intro w1 ax i h hi
      obtain ⟨b, o, e, _, hc⟩ := h.natAt h0
      exact ⟨b, o, e, hc i hi⟩
    · intro w1 hb
      refine (HD a cap w1 (hs.below hb) hcap).mono ?_
      rintro e w' ⟨v, rfl, ⟨ax, cx, rfl, h⟩, hB⟩
      exact ⟨ax, cx, by rw [hnl], h, hB⟩
    · intro w1
      have := implNorm_any (coverK vs f) w1 (nm f).ok
      rw [if_pos (nm f).valid, (nm f).norm] at this
      exact this
    · intro w1
      have := sameCon_two (coverK vs f) (coverK vs f) w1
      rw [decide_eq_true rfl] at this
      exact this
    · intro i w1 hi
      refine implWithin_any (pointK (vs.getD i 0)) (coverK vs f) true w1 (pointK_normal (hv i)).ok (nm f).ok ?_
      unfold Hid
      exact ⟨fun _ => ⟨(pointK_normal (hv i)).valid, (nm f).valid, point_within (hv i) (coverK_holds hv f hi)⟩, fun _ => rfl⟩
    · intro w1
      refine implWithin_any _ _ b1 w1 (nm f).ok (nm 1).ok ?_
      unfold Hid
      rw [Hb1.out]
      exact ⟨fun h => ⟨(nm f).valid, (nm 1).valid, h⟩, fun h => h.2.2⟩
    · intro w1
      refine implWithin_any _ _ b2 w1 (nm f).ok (nm 2).ok ?_
      unfold Hid
      rw [Hb2.out]
      exact ⟨fun h => ⟨(nm f).valid, (nm 2).valid, h⟩, fun h => h.2.2⟩
    · intro e; subst e; exact Hb1.out.2 (within_self _)
    · intro e; subst e; exact Hb2.out.2 (within_self _)
    · intro e; subst e
      rw [Bool.or_eq_true, Hb1.out, Hb2.out]
      rcases cover_two (vs := vs) with h | h
      · left; rw [h]; exact within_self _
      · right; rw [h]; exact within_self _
  · refine early a l.length cap vs.length f w hn hlen hd.fm hx ?_
    refine (HD a cap w hs hcap).mono ?_
    rintro e w' ⟨v, rfl, ⟨ax, cx, rfl, h⟩, hB⟩
    exact ⟨ax, cx, by rw [hnl], hB⟩

set_option maxRecDepth 100000 in
set_option maxHeartbeats 1000000 in
theorem walk (a : Option Addr) (cap : Nat) (l : List Int) (w : World) (hs : BSrc w a l) (hl : isBytes l) (hcap : l.length ≤ cap) (hm : l.length ≤ maxLen) :
    Calls Try.prog 3 #[.slice a l.length cap] w fun e w' => e = .returned (.bool true) ∧ Below w.heap.size w w' := by
  unfold maxLen at hm
  by_cases hn : l.length ≤ 1048576
  · exact walk_fit a cap l w hs hl hcap hn
  · clear hs hl hcap
    generalize l.length = n at *
    have hn' : (1048576 : Int) < (n : Int) := by omega
    go_enter Try.func3, Try.ntmps3
    go_wp2
    go_ret
    exact ⟨rfl, Below.refl _ _⟩

set_option maxRecDepth 100000 in
theorem lifted (os : Os) (started : os.Started) (H : Type) (enc : TypeId × Value → H) :
    ReturnsInHanded {} Try.checked os 3 .any (Rows.fnCoverSpec.pre6 enc Try.prog Try.f3 Rows.fnCoverRow.domain false) (Rows.fnCoverSpec.post enc Try.prog Try.f3 false true false false) := by
  refine returnsInHanded_of_change (C := Try.checked) own started (by kernel_rfl) Try.func3
    (ChangeSpec.witness6 (enc := enc) (C := Try.checked) false ⟨#[], #[.slice none 0 0], []⟩ 8 (by kernel_rfl) (by kernel_rfl) (by kernel_rfl) (by kernel_rfl)) ?_
  intro W base args ds gs before hval0 hW hcnd _
  have hval : ∀ (j : Nat) t v, Try.f3.params[j]? = some t → args[j]? = some v → Value.okWide Try.prog W .any base t v := hval0
  have hW' := hW
  obtain ⟨p, q, hA0, hV, rfl, hfz, hnd⟩ := hW
  have hA : DataW.TrodAll enc Try.prog W 0 (fun _ => true) true Try.f3.params.toList args.toList ds p := hA0
  rw [Try.params3] at hA hval
  obtain ⟨v0, vs0, d0, ds0, p0, q0, hargs, rfl, rfl, h0, r0⟩ := trodAll_cons hA
  obtain ⟨rfl, rfl, rfl⟩ := trodAll_nil r0
  obtain rfl : args = #[v0] := by cases args; simp_all
  obtain ⟨rfl, rfl⟩ := trodVars_none hV
  obtain ⟨a0, len0, cap0, rfl⟩ := okWide_slice Try.underlying22 (hval 0 22 v0 rfl rfl)
  have k0 := h0
  have lt0 : ∀ x ∈ p0, x.block < W.heap.size := by obtain ⟨m, hm⟩ := k0; exact DataW.trod_lt m _ _ _ hm
  obtain ⟨pp, hpl, hml, hcp, hsrc, hok⟩ := open_bytes h0
  subst hpl
  clear hA0 hval0
  refine (walk a0 cap0 pp W hsrc hok hcp hml).mono fun e W' ⟨he, bel⟩ => ?_
  subst he
  exact ⟨_, rfl, _, _, _, [], _, [], hW', trodAll_mk1 (shut_bool Try.underlying4 _), (trodAll_cons_mk (Below.trod laidOut (by kernel_rfl) (of_decide_eq_true (by kernel_rfl)) k0 bel lt0) trodAll_mk0), rfl, bel.frame _, fun h => by cases h⟩

theorem proved : Rows.FnCoverSaid :=
  OpenClaim.holds_of_wide 3 Try.f3 rfl rfl rfl rfl rfl rfl rfl ⟨rfl, rfl, rfl, rfl, rfl⟩ rfl rfl rfl rfl rfl (by kernel_rfl) Try.func3 (by kernel_rfl)
    (of_decide_eq_true (by kernel_rfl)) (by unfold Func.isWrapper; first | (rw [if_pos (by decide +kernel)]; kernel_rfl) | (rw [if_neg (by decide +kernel)]; exact ⟨rfl, rfl⟩))
    (fun os started H enc _ => lifted os started H enc)
#print axioms proved
end Go.Proofs.Ytpbljegjinjmnaa.fnCover
