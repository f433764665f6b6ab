/-
  THE LAW 'FnExactRun': its walk and its row.
-/
import Derived.Test.YtjfgihmamoiipaaRows
import Derived.Test.YtjfgihmamoiipaaRunP
import Derived.Test.YtjfgihmamoiipaaOpenB
namespace Go.Proofs.Ytjfgihmamoiipaa.fnExactRun
open Go.ChangeShapes Go.WideShapes Go.ChangeAt Go.RowKit Go.Deep
set_option linter.unusedVariables false

set_option maxHeartbeats 2000000 in
theorem walk (a a' : Option Addr) (cap cap' : Nat) (p : List I) (r : List Int) (w : World) (hs : Src w a p) (hok : ∀ x ∈ p, x.ok) (hm : p.length ≤ maxLen) (hs' : BSrc w a' r) (hrr : isBytes r) (hm' : r.length ≤ maxLen) :
    Calls Try.prog 5 #[.slice a p.length cap, .slice a' r.length cap'] w fun e w' => e = .returned (.bool true) ∧ Below w.heap.size w w' := by
  unfold maxLen at hm hm'
  by_cases hr : r.length ≤ 1048576
  · by_cases hn : p.length ≤ 1048576
    · have HC1 : Hid (∀ w1, Below w.heap.size w w1 → Calls Try.prog 20 #[.slice a p.length cap] w1 fun e w' => e = .returned (.slice (some ⟨w1.heap.size, 0, none⟩) p.length p.length) ∧ w'.rowIs w1.heap.size 36 (p.length * 4) (insF p) ∧ Below w1.heap.size w1 w') :=
        fun w1 hB => toInsS_any a cap p w1 (hs.below hB) hn
      have HB1 : Hid (∀ w1, Below w.heap.size w w1 → Calls Try.prog 22 #[.slice a' r.length cap'] w1 fun e w' => e = .returned (.slice (some ⟨w1.heap.size, 0, none⟩) r.length r.length) ∧ owns w' w1.heap.size (.slice (some ⟨w1.heap.size, 0, none⟩) r.length r.length) r ∧ Below w1.heap.size w1 w') :=
        fun w1 hB => toByteS_any a' cap' r w1 (hs'.below hB) hr
      have HC2 : Hid (∀ D E w1, w1.rowIs D 36 (p.length * 4) (insF p) → owns w1 E (.slice (some ⟨E, 0, none⟩) r.length r.length) r → Calls Try.prog 14 #[.slice (some ⟨D, 0, none⟩) p.length p.length, .slice (some ⟨E, 0, none⟩) r.length r.length] w1 fun e w' => e = .returned (tripV (runR p r) (runT p r) (runC p r)) ∧ Below w1.heap.size w1 w') := by
        intro D E w1 h h'
        obtain ⟨a2, cap2, e, hs2⟩ := owns_src h'
        simp only [Value.slice.injEq] at e
        obtain ⟨rfl, _, rfl⟩ := e
        exact specRun_any _ _ _ _ p r w1 (Src.of_row h) hok hn (Nat.le_refl _) hs2 hrr hr
      have HC3 : Hid (∀ D E w1, w1.rowIs D 36 (p.length * 4) (insF p) → owns w1 E (.slice (some ⟨E, 0, none⟩) r.length r.length) r → Calls Try.prog 18 #[.slice (some ⟨D, 0, none⟩) p.length p.length, .slice (some ⟨E, 0, none⟩) r.length r.length] w1 fun e w' => e = .returned (tripV (runR p r) (runT p r) (runC p r)) ∧ Below w1.heap.size w1 w') := by
        intro D E w1 h h'
        obtain ⟨a2, cap2, e, hs2⟩ := owns_src h'
        simp only [Value.slice.injEq] at e
        obtain ⟨rfl, _, rfl⟩ := e
        exact implRun_any _ _ _ _ p r w1 (Src.of_row h) hok hn hs2 hrr hr (Nat.le_refl _)
      have HC4 : Hid (∀ D D' w1, w1.rowIs D 36 (p.length * 4) (insF p) → w1.rowIs D' 36 (p.length * 4) (insF p) → Calls Try.prog 21 #[.slice (some ⟨D, 0, none⟩) p.length p.length, .slice (some ⟨D', 0, none⟩) p.length p.length] w1 fun e w' => e = .returned (.bool true) ∧ Below w1.heap.size w1 w') :=
        fun D D' w1 h h' => eqInsS_any _ _ _ _ p w1 (Src.of_row h) (Src.of_row h') hn
      have HB4 : Hid (∀ D D' w1, owns w1 D (.slice (some ⟨D, 0, none⟩) r.length r.length) r → owns w1 D' (.slice (some ⟨D', 0, none⟩) r.length r.length) r → Calls Try.prog 23 #[.slice (some ⟨D, 0, none⟩) r.length r.length, .slice (some ⟨D', 0, none⟩) r.length r.length] w1 fun e w' => e = .returned (.bool true) ∧ Below w1.heap.size w1 w') :=
        fun D D' w1 h h' => eqByteS_own h h' (by omega)
      generalize runR p r = rr at *
      generalize runT p r = rt at *
      generalize runC p r = rcc at *
      generalize insF p = f at *
      clear hs hok hs' hrr
      generalize p.length = n at *
      obtain ⟨n', hn''⟩ : ∃ n', r.length = n' := ⟨_, rfl⟩
      rw [hn''] at HB1 HC2 HC3 HB4 hr hm' ⊢
      clear hn''
      have hr2 : (n' : Int) ≤ 1048576 := by omega
      go_enter Try.func5, Try.ntmps5
      go_wp2_with fail
      refine (szInsS_any a n cap _ _ (by omega) (by omega) (by omega)).mono ?_
      rintro e w ⟨rfl, rfl⟩
      rw [if_neg (by omega)]
      go_wp2_with fail
      refine (HC1.out _ (Below.refl _ _)).mono ?_
      rintro e w1 ⟨rfl, hr1, hb1⟩
      go_wp2_with fail
      refine (HB1.out _ hb1).mono ?_
      rintro e w2 ⟨rfl, ho2, hb2⟩
      have hr2' := hr1.of_block (hb2.block _ hr1.lt)
      have B2 : Below w.heap.size w w2 := hb1.trans (hb2.mono hb1.size)
      clear hb2 hr1
      go_wp2_with fail
      refine (HC2.out _ _ _ hr2' ho2).mono ?_
      rintro e w3 ⟨rfl, hb3⟩
      have B3 : Below w.heap.size w w3 := B2.trans (hb3.mono B2.size)
      clear hb3 hr2' ho2 hb1 B2
      go_wp2_with fail
      refine (HC1.out _ B3).mono ?_
      rintro e w4 ⟨rfl, hr4, hb4⟩
      have B4 : Below w.heap.size w w4 := B3.trans (hb4.mono B3.size)
      clear hb4
      go_wp2_with fail
      refine (HB1.out _ B4).mono ?_
      rintro e w5 ⟨rfl, ho5, hb5⟩
      have hr5 := hr4.of_block (hb5.block _ hr4.lt)
      have B5 : Below w.heap.size w w5 := B4.trans (hb5.mono B4.size)
      clear hb5 hr4
      generalize w3.heap.size = D at *
      generalize w4.heap.size = E at *
      go_wp2_with fail
      refine (HC3.out _ _ _ hr5 ho5).mono ?_
      rintro e w6 ⟨rfl, hb6⟩
      have hr6 := hr5.of_block (hb6.block _ hr5.lt)
      have ho6 := owns_below ho5 hb6
      have B6 : Below w.heap.size w w6 := B5.trans (hb6.mono B5.size)
      clear hb6 hr5 ho5
      go_wp2_with fail
      refine (HC1.out _ B6).mono ?_
      rintro e w7 ⟨rfl, hr7, hb7⟩
      have hr7' := hr6.of_block (hb7.block _ hr6.lt)
      have ho7 := owns_below ho6 hb7
      have B7 : Below w.heap.size w w7 := B6.trans (hb7.mono B6.size)
      clear hb7 hr6 ho6
      go_wp2_with fail
      refine (HC4.out _ _ _ hr7' hr7).mono ?_
      rintro e w8 ⟨rfl, hb8⟩
      have ho8 := owns_below ho7 hb8
      have B8 : Below w.heap.size w w8 := B7.trans (hb8.mono B7.size)
      clear hb8 hr7 hr7' ho7
      go_wp2_with fail
      refine (HB1.out _ B8).mono ?_
      rintro e w9 ⟨rfl, ho9, hb9⟩
      have ho9' := owns_below ho8 hb9
      have B9 : Below w.heap.size w w9 := B8.trans (hb9.mono B8.size)
      clear hb9 ho8
      go_wp2_with fail
      refine (HB4.out _ _ _ ho9' ho9).mono ?_
      rintro e w10 ⟨rfl, hb10⟩
      have B10 : Below w.heap.size w w10 := B9.trans (hb10.mono B9.size)
      go_wp2
      go_ret
      exact ⟨rfl, B10⟩
    · have hlt : (1048576 : Int) - p.length < 0 := by omega
      have hr2 : (r.length : Int) ≤ 1048576 := by omega
      go_enter Try.func5, Try.ntmps5
      go_wp2_with (go_at_call 19; refine (szInsS_any a p.length cap _ _ (by omega) (by omega) (by omega)).mono ?_; rintro e w0 ⟨rfl, rfl⟩; rw [if_pos hlt])
      go_ret
      exact ⟨rfl, Below.refl _ _⟩
  · have hr2 : (1048576 : Int) < (r.length : Int) := by omega
    go_enter Try.func5, Try.ntmps5
    go_wp2
    go_ret
    exact ⟨rfl, Below.refl _ _⟩

set_option maxRecDepth 100000 in
theorem lifted (os : Os) (started : os.Started) (H : Type) (enc : TypeId × Value → H) :
    ReturnsInHanded {} Try.checked os 5 .any (Rows.fnExactRunSpec.pre6 enc Try.prog Try.f5 Rows.fnExactRunRow.domain false) (Rows.fnExactRunSpec.post enc Try.prog Try.f5 false true false false) := by
  refine returnsInHanded_of_change (C := Try.checked) own started (by kernel_rfl) Try.func5
    (ChangeSpec.witness6 (enc := enc) (C := Try.checked) false ⟨#[], #[.slice none 0 0, .slice none 0 0], []⟩ 8 (by kernel_rfl) (by kernel_rfl) (by kernel_rfl) (by kernel_rfl)) ?_
  intro W base args ds gs before hval0 hW hcnd _
  have hval : ∀ (j : Nat) t v, Try.f5.params[j]? = some t → args[j]? = some v → Value.okWide Try.prog W .any base t v := hval0
  have hW' := hW
  obtain ⟨p, q, hA0, hV, rfl, hfz, hnd⟩ := hW
  have hA : DataW.TrodAll enc Try.prog W 0 (fun _ => true) true Try.f5.params.toList args.toList ds p := hA0
  rw [Try.params5] at hA hval
  obtain ⟨v0, vs0, d0, ds0, p0, q0, hargs, rfl, rfl, h0, r0⟩ := trodAll_cons hA
  obtain ⟨v1, vs1, d1, ds1, p1, q1, rfl, rfl, rfl, h1, r1⟩ := trodAll_cons r0
  obtain ⟨rfl, rfl, rfl⟩ := trodAll_nil r1
  obtain rfl : args = #[v0, v1] := by cases args; simp_all
  obtain ⟨rfl, rfl⟩ := trodVars_none hV
  obtain ⟨a0, len0, cap0, rfl⟩ := okWide_slice Try.underlying38 (hval 0 38 v0 rfl rfl)
  obtain ⟨a1, len1, cap1, rfl⟩ := okWide_slice Try.underlying22 (hval 1 22 v1 rfl rfl)
  have k0 := h0
  have k1 := h1
  have lt0 : ∀ x ∈ p0, x.block < W.heap.size := by obtain ⟨m, hm⟩ := k0; exact DataW.trod_lt m _ _ _ hm
  have lt1 : ∀ x ∈ p1, x.block < W.heap.size := by obtain ⟨m, hm⟩ := k1; exact DataW.trod_lt m _ _ _ hm
  obtain ⟨pp, hpl, hml, hsrc, hok⟩ := open_insS h0
  subst hpl
  obtain ⟨rr, hrl, hml1, _, hsrc1, hok1⟩ := open_bytes h1
  subst hrl
  clear hA0 hval0
  refine (walk a0 a1 cap0 cap1 pp rr W hsrc hok hml hsrc1 hok1 hml1).mono fun e W' ⟨he, bel⟩ => ?_
  subst he
  exact ⟨_, rfl, _, _, _, [], _, [], hW', trodAll_mk1 (shut_bool Try.underlying4 _), (trodAll_cons_mk (Below.trod laidOut (by kernel_rfl) (of_decide_eq_true (by kernel_rfl)) k0 bel lt0) (trodAll_cons_mk (Below.trod laidOut (by kernel_rfl) (of_decide_eq_true (by kernel_rfl)) k1 bel lt1) trodAll_mk0)), rfl, bel.frame _, fun h => by cases h⟩

theorem proved : Rows.FnExactRunSaid :=
  OpenClaim.holds_of_wide 5 Try.f5 rfl rfl rfl rfl rfl rfl rfl ⟨rfl, rfl, rfl, rfl, rfl⟩ rfl rfl rfl rfl rfl (by kernel_rfl) Try.func5 (by kernel_rfl)
    (of_decide_eq_true (by kernel_rfl)) (by unfold Func.isWrapper; first | (rw [if_pos (by decide +kernel)]; kernel_rfl) | (rw [if_neg (by decide +kernel)]; exact ⟨rfl, rfl⟩))
    (fun os started H enc _ => lifted os started H enc)
#print axioms proved
end Go.Proofs.Ytjfgihmamoiipaa.fnExactRun
