/-
  THE LAW 'FnNorm': its row.
-/
import Derived.Test.YtjkmcdgjhfiklaaRows
import Derived.Test.YtjkmcdgjhfiklaaDrawG
import Derived.Test.YtjkmcdgjhfiklaaNormW
import Derived.Test.YtjkmcdgjhfiklaaOpenB
namespace Go.Proofs.Ytjkmcdgjhfiklaa.fnNorm
open Go.ChangeShapes Go.WideShapes Go.ChangeAt Go.RowKit Go.Deep
set_option linter.unusedVariables false

theorem conI {k a b : Int} (h : (-9223372036854775808 ≤ k ∧ k ≤ 9223372036854775807) ∧ isU a ∧ isU b) : ∃ c : K, c.ok ∧ k = c.kind ∧ a = (c.a : Int) ∧ b = (c.b : Int) := by
  obtain ⟨hk, ha, hb⟩ := h
  unfold isU at ha hb
  exact ⟨⟨k, a.toNat, b.toNat⟩, ⟨hk, by simp only; omega, by simp only; omega⟩, rfl, by simp only; omega, by simp only; omega⟩

set_option maxRecDepth 100000 in
set_option maxHeartbeats 1000000 in
theorem sameCon_any (c d : K) (w : World) :
    Calls Try.prog 16 #[conV c, conV d] w fun e w' => e = .returned (.bool (decide (c = d))) ∧ Below w.heap.size w w' := by
  obtain ⟨ck, ca, cb⟩ := c
  obtain ⟨dk, da, db⟩ := d
  simp only [conV]
  obtain ⟨R, hR⟩ : ∃ R, decide ((⟨ck, ca, cb⟩ : K) = ⟨dk, da, db⟩) = R := ⟨_, rfl⟩
  have HR : Hid (decide ((⟨ck, ca, cb⟩ : K) = ⟨dk, da, db⟩) = R) := hR
  rw [hR]
  clear hR
  have B : Below w.heap.size w ((w.alloc (.cells #[.int .i64 ck, .int .u64 (ca : Int), .int .u64 (cb : Int)] 25)).alloc (.cells #[.int .i64 dk, .int .u64 (da : Int), .int .u64 (db : Int)] 25)) := ((Below.refl _ _).alloc (Nat.le_refl _) _).alloc (by simp) _
  by_cases h1 : ck = dk
  · subst h1
    by_cases h2 : ca = da
    · subst h2
      by_cases h3 : cb = db
      · subst h3
        have hR : R = true := by rw [← HR.out]; simp
        subst hR
        clear HR
        go_enter Try.func16, Try.ntmps16
        go_wp2
        go_ret
        exact ⟨by simp, B⟩
      · have hR : R = false := by rw [← HR.out]; simp [h3]
        have e3 : ((cb : Int) == (db : Int)) = false := by rw [beq_eq_false_iff_ne]; omega
        subst hR
        clear HR h3
        go_enter Try.func16, Try.ntmps16
        go_wp2
        go_ret
        exact ⟨by simp, B⟩
    · have hR : R = false := by rw [← HR.out]; simp [h2]
      have e2 : ((ca : Int) == (da : Int)) = false := by rw [beq_eq_false_iff_ne]; omega
      subst hR
      clear HR h2
      go_enter Try.func16, Try.ntmps16
      go_wp2
      go_ret
      exact ⟨by simp, B⟩
  · have hR : R = false := by rw [← HR.out]; simp [h1]
    have e1 : (ck == dk) = false := by rw [beq_eq_false_iff_ne]; exact h1
    subst hR
    clear HR h1
    go_enter Try.func16, Try.ntmps16
    go_wp2
    go_ret
    exact ⟨by simp, B⟩

theorem facts (c d : K) (ho : c.ok) (ho' : d.ok) (hc : validK c = true) (hd : validK d = true) :
    ∃ (xk xa xb yk ya yb : Int) (ab ba s : Bool), NormFacts c.kind c.a c.b d.kind d.a d.b xk xa xb yk ya yb ab ba s := by
  obtain ⟨ab, Hab⟩ := ex_dec (Within c d)
  obtain ⟨ba, Hba⟩ := ex_dec (Within d c)
  have nc := normK_normal ho hc
  have nd := normK_normal ho' hd
  have wn := within_norm ho ho' hc hd
  have wn' := within_norm ho' ho hd hc
  have cx : Within c (normK c) := fun v hv h => by rw [normK_holds ho hc hv]; exact h
  have xc : Within (normK c) c := fun v hv h => by rw [normK_holds ho hc hv] at h; exact h
  have dy : Within d (normK d) := fun v hv h => by rw [normK_holds ho' hd hv]; exact h
  have yd : Within (normK d) d := fun v hv h => by rw [normK_holds ho' hd hv] at h; exact h
  have e1 : (if validK c = true then normK c else c) = normK c := if_pos hc
  have e2 : (if validK d = true then normK d else d) = normK d := if_pos hd
  have vx := nc.valid
  have vy := nd.valid
  refine ⟨(normK c).kind, (normK c).a, (normK c).b, (normK d).kind, (normK d).a, (normK d).b, ab, ba, decide (normK c = normK d), ?_⟩
  refine ⟨fun w => specWithin_any c d ab w ho ho' ?_, fun w => specWithin_any d c ba w ho' ho ?_, fun w => implWithin_any c d ab w ho ho' ?_, fun w => implWithin_any d c ba w ho' ho ?_,
    fun w => implWithin_any (normK c) (normK d) ab w nc.ok nd.ok ?_, fun w => implWithin_any (normK d) (normK c) ba w nd.ok nc.ok ?_, fun w => implWithin_any c (normK c) true w ho nc.ok ?_, fun w => implWithin_any (normK c) c true w nc.ok ho ?_,
    fun w => implWithin_any d (normK d) true w ho' nd.ok ?_, fun w => implWithin_any (normK d) d true w nd.ok ho' ?_, fun w => ?_, fun w => ?_, fun w => sameCon_any _ _ w, ?_⟩
  · unfold Hid; rw [Hab.out]; simp [hc, hd]
  · unfold Hid; rw [Hba.out]; simp [hc, hd]
  · unfold Hid; rw [Hab.out]; simp [hc, hd]
  · unfold Hid; rw [Hba.out]; simp [hc, hd]
  · unfold Hid; rw [Hab.out]; simp [vx, vy, wn]
  · unfold Hid; rw [Hba.out]; simp [vx, vy, wn']
  · unfold Hid; simp [hc, vx, cx]
  · unfold Hid; simp [hc, vx, xc]
  · unfold Hid; simp [hd, vy, dy]
  · unfold Hid; simp [hd, vy, yd]
  · have := implNorm_any c w ho
    rw [e1] at this; exact this
  · have := implNorm_any d w ho'
    rw [e2] at this; exact this
  · rw [beq_iff_eq, Bool.eq_iff_iff, Bool.and_eq_true, Hab.out, Hba.out, decide_eq_true_eq]
    constructor
    · intro e
      exact ⟨wn.1 (by rw [e]; exact fun v _ h => h), wn'.1 (by rw [e]; exact fun v _ h => h)⟩
    · rintro ⟨h1, h2⟩
      exact normal_uniq nc nd (wn.2 h1) (wn'.2 h2)

theorem walk_fit (a : Option Addr) (cap : Nat) (l : List Int) (w : World) (hs : BSrc w a l) (hl : isBytes l) (hcap : l.length ≤ cap) (hn : l.length ≤ 1048576) :
    Calls Try.prog 5 #[.slice a l.length cap] w fun e w' => e = .returned (.bool true) ∧ Below w.heap.size w w' := by
  refine norm_walk a l.length cap w hn (drawTwo a cap l w hs hl hcap hn) ?_
  intro ck ca cb dk da db hc hd
  obtain ⟨c, ho, rfl, rfl, rfl⟩ := conI hc
  obtain ⟨d, ho', rfl, rfl, rfl⟩ := conI hd
  refine ⟨validK c, validK d, fun w => specWithin_any c c _ w ho ho ?_, fun w => specWithin_any d d _ w ho' ho' ?_, fun h h' => facts c d ho ho' h h'⟩
  · unfold Hid
    exact ⟨fun h => ⟨h, h, fun v _ h => h⟩, fun h => h.1⟩
  · unfold Hid
    exact ⟨fun h => ⟨h, h, fun v _ h => h⟩, fun h => h.1⟩

set_option maxRecDepth 100000 in
set_option maxHeartbeats 1000000 in
theorem walk (a : Option Addr) (cap : Nat) (l : List Int) (w : World) (hs : BSrc w a l) (hl : isBytes l) (hcap : l.length ≤ cap) (hm : l.length ≤ maxLen) :
    Calls Try.prog 5 #[.slice a l.length cap] w fun e w' => e = .returned (.bool true) ∧ Below w.heap.size w w' := by
  unfold maxLen at hm
  by_cases hn : l.length ≤ 1048576
  · exact walk_fit a cap l w hs hl hcap hn
  · clear hs hl hcap
    generalize l.length = n at *
    have hn' : (1048576 : Int) < (n : Int) := by omega
    go_enter Try.func5, Try.ntmps5
    go_wp2
    go_ret
    exact ⟨rfl, Below.refl _ _⟩

set_option maxRecDepth 100000 in
theorem lifted (os : Os) (started : os.Started) (H : Type) (enc : TypeId × Value → H) :
    ReturnsInHanded {} Try.checked os 5 .any (Rows.fnNormSpec.pre6 enc Try.prog Try.f5 Rows.fnNormRow.domain false) (Rows.fnNormSpec.post enc Try.prog Try.f5 false true false false) := by
  refine returnsInHanded_of_change (C := Try.checked) own started (by kernel_rfl) Try.func5
    (ChangeSpec.witness6 (enc := enc) (C := Try.checked) false ⟨#[], #[.slice none 0 0], []⟩ 8 (by kernel_rfl) (by kernel_rfl) (by kernel_rfl) (by kernel_rfl)) ?_
  intro W base args ds gs before hval0 hW hcnd _
  have hval : ∀ (j : Nat) t v, Try.f5.params[j]? = some t → args[j]? = some v → Value.okWide Try.prog W .any base t v := hval0
  have hW' := hW
  obtain ⟨p, q, hA0, hV, rfl, hfz, hnd⟩ := hW
  have hA : DataW.TrodAll enc Try.prog W 0 (fun _ => true) true Try.f5.params.toList args.toList ds p := hA0
  rw [Try.params5] at hA hval
  obtain ⟨v0, vs0, d0, ds0, p0, q0, hargs, rfl, rfl, h0, r0⟩ := trodAll_cons hA
  obtain ⟨rfl, rfl, rfl⟩ := trodAll_nil r0
  obtain rfl : args = #[v0] := by cases args; simp_all
  obtain ⟨rfl, rfl⟩ := trodVars_none hV
  obtain ⟨a0, len0, cap0, rfl⟩ := okWide_slice Try.underlying31 (hval 0 31 v0 rfl rfl)
  have k0 := h0
  have lt0 : ∀ x ∈ p0, x.block < W.heap.size := by obtain ⟨m, hm⟩ := k0; exact DataW.trod_lt m _ _ _ hm
  obtain ⟨pp, hpl, hml, hcp, hsrc, hok⟩ := open_bytes h0
  subst hpl
  clear hA0 hval0
  refine (walk a0 cap0 pp W hsrc hok hcp hml).mono fun e W' ⟨he, bel⟩ => ?_
  subst he
  exact ⟨_, rfl, _, _, _, [], _, [], hW', trodAll_mk1 (shut_bool Try.underlying4 _), (trodAll_cons_mk (Below.trod laidOut (by kernel_rfl) (of_decide_eq_true (by kernel_rfl)) k0 bel lt0) trodAll_mk0), rfl, bel.frame _, fun h => by cases h⟩

theorem proved : Rows.FnNormSaid :=
  OpenClaim.holds_of_wide 5 Try.f5 rfl rfl rfl rfl rfl rfl rfl ⟨rfl, rfl, rfl, rfl, rfl⟩ rfl rfl rfl rfl rfl (by kernel_rfl) Try.func5 (by kernel_rfl)
    (of_decide_eq_true (by kernel_rfl)) (by unfold Func.isWrapper; first | (rw [if_pos (by decide +kernel)]; kernel_rfl) | (rw [if_neg (by decide +kernel)]; exact ⟨rfl, rfl⟩))
    (fun os started H enc _ => lifted os started H enc)
#print axioms proved
end Go.Proofs.Ytjkmcdgjhfiklaa.fnNorm
