/-
  THE LAW 'FnExactValidate': its walk and its row.
-/
import Derived.Test.YtjfgihmamoiipaaRows
import Derived.Test.YtjfgihmamoiipaaValid
import Derived.Test.YtjfgihmamoiipaaOpen
namespace Go.Proofs.Ytjfgihmamoiipaa.fnExactValidate
open Go.ChangeShapes Go.WideShapes Go.ChangeAt Go.RowKit Go.Deep
set_option linter.unusedVariables false

set_option maxHeartbeats 1000000 in
theorem walk (a : Option Addr) (cap : Nat) (p : List I) (w : World) (hs : Src w a p) (hok : ∀ x ∈ p, x.ok) (hm : p.length ≤ maxLen) :
    Calls Try.prog 4 #[.slice a p.length cap] w fun e w' => e = .returned (.bool true) ∧ Below w.heap.size w w' := by
  unfold maxLen at hm
  by_cases hn : p.length ≤ 1048576
  · have HC1 : Hid (∀ w1, Below w.heap.size w w1 → Calls Try.prog 20 #[.slice a p.length cap] w1 fun e w' => e = .returned (.slice (some ⟨w1.heap.size, 0, none⟩) p.length p.length) ∧ w'.rowIs w1.heap.size 36 (p.length * 4) (insF p) ∧ Below w1.heap.size w1 w') :=
      fun w1 hB => toInsS_any a cap p w1 (hs.below hB) hn
    have HC2 : Hid (∀ D w1, w1.rowIs D 36 (p.length * 4) (insF p) → Calls Try.prog 13 #[.slice (some ⟨D, 0, none⟩) p.length p.length] w1 fun e w' => e = .returned (pairV (validL p)) ∧ Below w1.heap.size w1 w') :=
      fun D w1 h => specValidate_any _ _ p w1 (Src.of_row h) hok hn
    have HC3 : Hid (∀ D w1, w1.rowIs D 36 (p.length * 4) (insF p) → Calls Try.prog 17 #[.slice (some ⟨D, 0, none⟩) p.length p.length] w1 fun e w' => e = .returned (pairV (validL p)) ∧ Below w1.heap.size w1 w') :=
      fun D w1 h => implValidate_any _ _ p w1 (Src.of_row h) hok hn
    have HC4 : Hid (∀ D D' w1, w1.rowIs D 36 (p.length * 4) (insF p) → w1.rowIs D' 36 (p.length * 4) (insF p) → Calls Try.prog 21 #[.slice (some ⟨D, 0, none⟩) p.length p.length, .slice (some ⟨D', 0, none⟩) p.length p.length] w1 fun e w' => e = .returned (.bool true) ∧ Below w1.heap.size w1 w') :=
      fun D D' w1 h h' => eqInsS_any _ _ _ _ p w1 (Src.of_row h) (Src.of_row h') hn
    generalize validL p = r at *
    obtain ⟨r1, r2⟩ := r
    generalize insF p = f at *
    clear hs hok
    generalize p.length = n at *
    go_enter Try.func4, Try.ntmps4
    go_wp2_with fail
    refine (szInsS_any a n cap _ _ (by omega) (by omega) (by omega)).mono ?_
    rintro e w ⟨rfl, rfl⟩
    rw [if_neg (by omega)]
    go_wp2_with fail
    refine (HC1.out _ (Below.refl _ _)).mono ?_
    rintro e w1 ⟨rfl, hr1, hb1⟩
    go_wp2_with fail
    refine (HC2.out _ _ hr1).mono ?_
    rintro e w2 ⟨rfl, hb2⟩
    have B2 : Below w.heap.size w w2 := hb1.trans (hb2.mono hb1.size)
    clear hr1 hb2
    go_wp2_with fail
    refine (HC1.out _ B2).mono ?_
    rintro e w3 ⟨rfl, hr3, hb3⟩
    have B3 : Below w.heap.size w w3 := B2.trans (hb3.mono B2.size)
    clear hb3
    go_wp2_with fail
    refine (HC3.out _ _ hr3).mono ?_
    rintro e w4 ⟨rfl, hb4⟩
    have hr4 := hr3.of_block (hb4.block _ hr3.lt)
    have B4 : Below w.heap.size w w4 := B3.trans (hb4.mono B3.size)
    clear hr3 hb4
    go_wp2_with fail
    refine (HC1.out _ B4).mono ?_
    rintro e w5 ⟨rfl, hr5, hb5⟩
    have hr4' := hr4.of_block (hb5.block _ hr4.lt)
    have B5 : Below w.heap.size w w5 := B4.trans (hb5.mono B4.size)
    clear hr4 hb5
    go_wp2_with fail
    refine (HC4.out _ _ _ hr4' hr5).mono ?_
    rintro e w6 ⟨rfl, hb6⟩
    have B6 : Below w.heap.size w w6 := B5.trans (hb6.mono B5.size)
    go_wp2
    go_ret
    exact ⟨rfl, B6⟩
  · have hlt : (1048576 : Int) - p.length < 0 := by omega
    go_enter Try.func4, Try.ntmps4
    go_wp2_with (go_at_call 19; refine (szInsS_any a p.length cap _ _ (by omega) (by omega) (by omega)).mono ?_; rintro e w0 ⟨rfl, rfl⟩; rw [if_pos hlt])
    go_ret
    exact ⟨rfl, Below.refl _ _⟩

set_option maxRecDepth 100000 in
theorem lifted (os : Os) (started : os.Started) (H : Type) (enc : TypeId × Value → H) :
    ReturnsInHanded {} Try.checked os 4 .any (Rows.fnExactValidateSpec.pre6 enc Try.prog Try.f4 Rows.fnExactValidateRow.domain false) (Rows.fnExactValidateSpec.post enc Try.prog Try.f4 false true false false) := by
  refine returnsInHanded_of_change (C := Try.checked) own started (by kernel_rfl) Try.func4
    (ChangeSpec.witness6 (enc := enc) (C := Try.checked) false ⟨#[], #[.slice none 0 0], []⟩ 8 (by kernel_rfl) (by kernel_rfl) (by kernel_rfl) (by kernel_rfl)) ?_
  intro W base args ds gs before hval0 hW hcnd _
  have hval : ∀ (j : Nat) t v, Try.f4.params[j]? = some t → args[j]? = some v → Value.okWide Try.prog W .any base t v := hval0
  have hW' := hW
  obtain ⟨p, q, hA0, hV, rfl, hfz, hnd⟩ := hW
  have hA : DataW.TrodAll enc Try.prog W 0 (fun _ => true) true Try.f4.params.toList args.toList ds p := hA0
  rw [Try.params4] at hA hval
  obtain ⟨v0, vs0, d0, ds0, p0, q0, hargs, rfl, rfl, h0, r0⟩ := trodAll_cons hA
  obtain ⟨rfl, rfl, rfl⟩ := trodAll_nil r0
  obtain rfl : args = #[v0] := by cases args; simp_all
  obtain ⟨rfl, rfl⟩ := trodVars_none hV
  obtain ⟨a0, len0, cap0, rfl⟩ := okWide_slice Try.underlying38 (hval 0 38 v0 rfl rfl)
  have k0 := h0
  have lt0 : ∀ x ∈ p0, x.block < W.heap.size := by obtain ⟨m, hm⟩ := k0; exact DataW.trod_lt m _ _ _ hm
  obtain ⟨pp, hpl, hml, hsrc, hok⟩ := open_insS h0
  subst hpl
  clear hA0 hval0
  refine (walk a0 cap0 pp W hsrc hok hml).mono fun e W' ⟨he, bel⟩ => ?_
  subst he
  exact ⟨_, rfl, _, _, _, [], _, [], hW', trodAll_mk1 (shut_bool Try.underlying4 _), (trodAll_cons_mk (Below.trod laidOut (by kernel_rfl) (of_decide_eq_true (by kernel_rfl)) k0 bel lt0) trodAll_mk0), rfl, bel.frame _, fun h => by cases h⟩

theorem proved : Rows.FnExactValidateSaid :=
  OpenClaim.holds_of_wide 4 Try.f4 rfl rfl rfl rfl rfl rfl rfl ⟨rfl, rfl, rfl, rfl, rfl⟩ rfl rfl rfl rfl rfl (by kernel_rfl) Try.func4 (by kernel_rfl)
    (of_decide_eq_true (by kernel_rfl)) (by unfold Func.isWrapper; first | (rw [if_pos (by decide +kernel)]; kernel_rfl) | (rw [if_neg (by decide +kernel)]; exact ⟨rfl, rfl⟩))
    (fun os started H enc _ => lifted os started H enc)
#print axioms proved
end Go.Proofs.Ytjfgihmamoiipaa.fnExactValidate
