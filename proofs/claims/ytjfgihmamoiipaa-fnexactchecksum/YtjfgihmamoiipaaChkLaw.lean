/-
  THE LAW 'FnExactChecksum': its walk and its row.
-/
import Derived.Test.YtjfgihmamoiipaaRows
import Derived.Test.YtjfgihmamoiipaaSum
import Derived.Test.YtjfgihmamoiipaaDec
import Derived.Test.YtjfgihmamoiipaaOpenB
namespace Go.Proofs.Ytjfgihmamoiipaa.fnExactChecksum
open Go.ChangeShapes Go.WideShapes Go.ChangeAt Go.RowKit Go.Deep
set_option linter.unusedVariables false

set_option maxHeartbeats 2000000 in
theorem walk (a : Option Addr) (cap : Nat) (l : List Int) (w : World) (hs : BSrc w a l) (hl : isBytes l) (hm : l.length ≤ maxLen) :
    Calls Try.prog 8 #[.slice a l.length cap] w fun e w' => e = .returned (.bool true) ∧ Below w.heap.size w w' := by
  unfold maxLen at hm
  by_cases hn : l.length ≤ 1048576
  · have HC1 : Hid (∀ w1, Below w.heap.size w w1 → Calls Try.prog 22 #[.slice a l.length cap] w1 fun e w' => e = .returned (.slice (some ⟨w1.heap.size, 0, none⟩) l.length l.length) ∧ owns w' w1.heap.size (.slice (some ⟨w1.heap.size, 0, none⟩) l.length l.length) l ∧ Below w1.heap.size w1 w') :=
      fun w1 hB => toByteS_any a cap l w1 (hs.below hB) hn
    have HC2 : Hid (∀ B v w1, owns w1 B v l → Calls Try.prog 30 #[v] w1 fun e w' => e = .returned (.int .u32 (sumL l)) ∧ Below w1.heap.size w1 w') := by
      intro B v w1 h
      obtain ⟨a, cap, rfl, hs⟩ := owns_src h
      exact specSum_any a cap l w1 hs hl (by omega)
    have HC3 : Hid (∀ B v w1, owns w1 B v l → Calls Try.prog 31 #[v] w1 fun e w' => e = .returned (.int .u32 (sumL l)) ∧ Below w1.heap.size w1 w') := by
      intro B v w1 h
      obtain ⟨a, cap, rfl, hs⟩ := owns_src h
      exact implSum_any a cap l w1 hs hl (by omega)
    have HC4 : Hid (∀ B B' v v' w1, owns w1 B v l → owns w1 B' v' l → Calls Try.prog 23 #[v, v'] w1 fun e w' => e = .returned (.bool true) ∧ Below w1.heap.size w1 w') :=
      fun B B' v v' w1 h h' => eqByteS_own h h' (by omega)
    generalize sumL l = X at *
    have HO : Hid (∀ w1 w2 B v, owns w1 B v l → Below w1.heap.size w1 w2 → owns w2 B v l) := fun w1 w2 B v h hb => owns_below h hb
    clear hs hl
    obtain ⟨OW, hOW⟩ : ∃ OW : World → Nat → Value → Prop, ∀ w B v, owns w B v l = OW w B v := ⟨fun w B v => owns w B v l, fun _ _ _ => rfl⟩
    simp only [hOW] at HC1 HC2 HC3 HC4 HO
    clear hOW
    generalize l.length = n at *
    go_enter Try.func8, Try.ntmps8
    go_wp2_with fail
    refine (HC1.out _ (Below.refl _ _)).mono ?_
    rintro e w1 ⟨rfl, o1, hb1⟩
    go_wp2_with fail
    refine (HC2.out _ _ _ o1).mono ?_
    rintro e w2 ⟨rfl, hb2⟩
    have B2 : Below w.heap.size w w2 := hb1.trans (hb2.mono hb1.size)
    clear o1 hb1 hb2
    go_wp2_with fail
    refine (HC1.out _ B2).mono ?_
    rintro e w3 ⟨rfl, o3, hb3⟩
    have B3 : Below w.heap.size w w3 := B2.trans (hb3.mono B2.size)
    clear hb3 B2
    go_wp2_with fail
    refine (HC3.out _ _ _ o3).mono ?_
    rintro e w4 ⟨rfl, hb4⟩
    have B4 : Below w.heap.size w w4 := B3.trans (hb4.mono B3.size)
    have o4 := HO.out _ _ _ _ o3 hb4
    clear hb4 B3 o3
    go_wp2_with fail
    refine (HC1.out _ B4).mono ?_
    rintro e w5 ⟨rfl, o5, hb5⟩
    have B5 : Below w.heap.size w w5 := B4.trans (hb5.mono B4.size)
    have o5' := HO.out _ _ _ _ o4 hb5
    clear hb5 B4 o4
    go_wp2_with fail
    refine (HC4.out _ _ _ _ _ o5' o5).mono ?_
    rintro e w6 ⟨rfl, hb6⟩
    have B6 : Below w.heap.size w w6 := B5.trans (hb6.mono B5.size)
    go_wp2
    go_ret
    exact ⟨rfl, B6⟩
  · have hlt : (1048576 : Int) < l.length := by omega
    go_enter Try.func8, Try.ntmps8
    go_wp2
    go_ret
    exact ⟨rfl, Below.refl _ _⟩

set_option maxRecDepth 100000 in
theorem lifted (os : Os) (started : os.Started) (H : Type) (enc : TypeId × Value → H) :
    ReturnsInHanded {} Try.checked os 8 .any (Rows.fnExactChecksumSpec.pre6 enc Try.prog Try.f8 Rows.fnExactChecksumRow.domain false) (Rows.fnExactChecksumSpec.post enc Try.prog Try.f8 false true false false) := by
  refine returnsInHanded_of_change (C := Try.checked) own started (by kernel_rfl) Try.func8
    (ChangeSpec.witness6 (enc := enc) (C := Try.checked) false ⟨#[], #[.slice none 0 0], []⟩ 8 (by kernel_rfl) (by kernel_rfl) (by kernel_rfl) (by kernel_rfl)) ?_
  intro W base args ds gs before hval0 hW hcnd _
  have hval : ∀ (j : Nat) t v, Try.f8.params[j]? = some t → args[j]? = some v → Value.okWide Try.prog W .any base t v := hval0
  have hW' := hW
  obtain ⟨p, q, hA0, hV, rfl, hfz, hnd⟩ := hW
  have hA : DataW.TrodAll enc Try.prog W 0 (fun _ => true) true Try.f8.params.toList args.toList ds p := hA0
  rw [Try.params8] at hA hval
  obtain ⟨v0, vs0, d0, ds0, p0, q0, hargs, rfl, rfl, h0, r0⟩ := trodAll_cons hA
  obtain ⟨rfl, rfl, rfl⟩ := trodAll_nil r0
  obtain rfl : args = #[v0] := by cases args; simp_all
  obtain ⟨rfl, rfl⟩ := trodVars_none hV
  obtain ⟨a0, len0, cap0, rfl⟩ := okWide_slice Try.underlying22 (hval 0 22 v0 rfl rfl)
  have k0 := h0
  have lt0 : ∀ x ∈ p0, x.block < W.heap.size := by obtain ⟨m, hm⟩ := k0; exact DataW.trod_lt m _ _ _ hm
  obtain ⟨pp, hpl, hml, _, hsrc, hok⟩ := open_bytes h0
  subst hpl
  clear hA0 hval0
  refine (walk a0 cap0 pp W hsrc hok hml).mono fun e W' ⟨he, bel⟩ => ?_
  subst he
  exact ⟨_, rfl, _, _, _, [], _, [], hW', trodAll_mk1 (shut_bool Try.underlying4 _), (trodAll_cons_mk (Below.trod laidOut (by kernel_rfl) (of_decide_eq_true (by kernel_rfl)) k0 bel lt0) trodAll_mk0), rfl, bel.frame _, fun h => by cases h⟩

theorem proved : Rows.FnExactChecksumSaid :=
  OpenClaim.holds_of_wide 8 Try.f8 rfl rfl rfl rfl rfl rfl rfl ⟨rfl, rfl, rfl, rfl, rfl⟩ rfl rfl rfl rfl rfl (by kernel_rfl) Try.func8 (by kernel_rfl)
    (of_decide_eq_true (by kernel_rfl)) (by unfold Func.isWrapper; first | (rw [if_pos (by decide +kernel)]; kernel_rfl) | (rw [if_neg (by decide +kernel)]; exact ⟨rfl, rfl⟩))
    (fun os started H enc _ => lifted os started H enc)
#print axioms proved
end Go.Proofs.Ytjfgihmamoiipaa.fnExactChecksum
