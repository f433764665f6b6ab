/-
  THE LAW 'FnExactCover': its walk and its row.
-/
import Derived.Test.YtpbljegjinjmnaaRows
import Derived.Test.YtpbljegjinjmnaaCovP
import Derived.Test.YtpbljegjinjmnaaOpenC
namespace Go.Proofs.Ytpbljegjinjmnaa.fnExactCover
open Go.ChangeShapes Go.WideShapes Go.ChangeAt Go.RowKit Go.Deep
set_option linter.unusedVariables false

set_option maxRecDepth 100000 in
set_option maxHeartbeats 2000000 in
theorem walk (a : Option Addr) (cap : Nat) (vs : List Nat) (f : Int) (w : World) (hs : USrc w a (natV vs)) (hv : All64 vs) (hm : vs.length ≤ maxLen) :
    Calls Try.prog 5 #[.slice a vs.length cap, .int .i64 f] w fun e w' => e = .returned (.bool true) ∧ Below w.heap.size w w' := by
  unfold maxLen at hm
  have hnl : (natV vs).length = vs.length := by simp
  by_cases hn : vs.length ≤ 1048576
  · have HC1 : Hid (∀ w1, Below w.heap.size w w1 → Calls Try.prog 19 #[.slice a vs.length cap] w1 fun e w' => e = .returned (.slice (some ⟨w1.heap.size, 0, none⟩) vs.length vs.length) ∧ ownsU w' w1.heap.size (.slice (some ⟨w1.heap.size, 0, none⟩) vs.length vs.length) (natV vs) ∧ Below w1.heap.size w1 w') := by
      intro w1 hB
      have := toUint64S_any a cap (natV vs) w1 (hs.below hB) (by omega)
      rw [hnl] at this
      exact this
    have HC2 : Hid (∀ B v w1, ownsU w1 B v (natV vs) → Calls Try.prog 18 #[v, .int .i64 f] w1 fun e w' => e = .returned (conV (coverK vs f)) ∧ Below w1.heap.size w1 w') := by
      intro B v w1 h
      obtain ⟨a, cap, rfl, hs⟩ := ownsU_src h
      rw [hnl]
      exact specCover_any f a cap vs w1 hs (by omega) hv
    have HC3 : Hid (∀ B v w1, ownsU w1 B v (natV vs) → Calls Try.prog 7 #[v, .int .i64 f] w1 fun e w' => e = .returned (conV (coverK vs f)) ∧ Below w1.heap.size w1 w') := by
      intro B v w1 h
      obtain ⟨a, cap, rfl, hs⟩ := ownsU_src h
      rw [hnl]
      exact implCover_any f a cap vs w1 hs (by omega) hv
    have HC4 : Hid (∀ B B' v v' w1, ownsU w1 B v (natV vs) → ownsU w1 B' v' (natV vs) → Calls Try.prog 21 #[v, v'] w1 fun e w' => e = .returned (.bool true) ∧ Below w1.heap.size w1 w') :=
      fun B B' v v' w1 h h' => (eqUint64S_own h h' (by omega)).mono fun e w' => by rintro ⟨rfl, h2⟩; exact ⟨rfl, by first | exact h2 | (subst h2; exact Below.refl _ _)⟩
    have HC5 : Hid (∀ w1, Calls Try.prog 20 #[conV (coverK vs f), conV (coverK vs f)] w1 fun e w' => e = .returned (.bool true) ∧ Below w1.heap.size w1 w') := fun w1 => eqCon_same _ w1
    have HO : Hid (∀ w1 w2 B v, ownsU w1 B v (natV vs) → Below w1.heap.size w1 w2 → ownsU w2 B v (natV vs)) := fun w1 w2 B v h hb => ownsU_below h hb
    clear hs hv hnl
    generalize coverK vs f = R at *
    obtain ⟨OW, hOW⟩ : ∃ OW : World → Nat → Value → Prop, ∀ w B v, ownsU w B v (natV vs) = OW w B v := ⟨fun w B v => ownsU w B v (natV vs), fun _ _ _ => rfl⟩
    simp only [hOW] at HC1 HC2 HC3 HC4 HO
    clear hOW
    generalize vs.length = n at *
    obtain ⟨nk, na, nb⟩ := R
    simp only [conV] at HC2 HC3 HC5
    have hlt : ¬ (1048576 : Int) < n := by omega
    go_enter Try.func5, Try.ntmps5
    go_wp2_with fail
    refine (HC1.out _ (Below.refl _ _)).mono ?_
    rintro e w1 ⟨rfl, o1, hb1⟩
    go_wp2_with fail
    refine (HC2.out _ _ _ o1).mono ?_
    rintro e w2 ⟨rfl, hb2⟩
    have B2 : Below w.heap.size w w2 := hb1.trans (hb2.mono hb1.size)
    clear o1 hb1 hb2
    have X2 := BoxK.new w2 28 (.int .i64 nk) (.int .u64 (na : Int)) (.int .u64 (nb : Int))
    have B2' := B2.alloc B2.size (.cells #[.int .i64 nk, .int .u64 (na : Int), .int .u64 (nb : Int)] 28)
    go_wp2_with fail
    generalize w2.alloc (.cells #[.int .i64 nk, .int .u64 (na : Int), .int .u64 (nb : Int)] 28) = W2 at *
    refine (HC1.out _ B2').mono ?_
    rintro e w3 ⟨rfl, o3, hb3⟩
    have B3 : Below w.heap.size w w3 := B2'.trans (hb3.mono B2'.size)
    have X3 := X2.keep hb3
    clear hb3 B2 B2' X2
    go_wp2_with fail
    refine (HC3.out _ _ _ o3).mono ?_
    rintro e w4 ⟨rfl, hb4⟩
    have B4 : Below w.heap.size w w4 := B3.trans (hb4.mono B3.size)
    have o4 := HO.out _ _ _ _ o3 hb4
    have X4 := X3.keep hb4
    clear hb4 B3 o3 X3
    have Y4 := BoxK.new w4 28 (.int .i64 nk) (.int .u64 (na : Int)) (.int .u64 (nb : Int))
    have hd4 : Below w4.heap.size w4 (w4.alloc (.cells #[.int .i64 nk, .int .u64 (na : Int), .int .u64 (nb : Int)] 28)) := (Below.refl _ _).alloc (Nat.le_refl _) _
    have X5 := X4.keep hd4
    have o5 := HO.out _ _ _ _ o4 hd4
    have B5 := B4.trans (hd4.mono B4.size)
    clear B4 o4 X4 hd4
    obtain ⟨_, x0, x1, x2, _, _, _⟩ := X5
    obtain ⟨_, y0, y1, y2, _, _, _⟩ := Y4
    go_wp2_with fail
    generalize w4.alloc (.cells #[.int .i64 nk, .int .u64 (na : Int), .int .u64 (nb : Int)] 28) = W4 at *
    refine (HC5.out _).mono ?_
    rintro e w5 ⟨rfl, hb5⟩
    have B6 := B5.trans (hb5.mono B5.size)
    have o6 := HO.out _ _ _ _ o5 hb5
    clear x0 x1 x2 y0 y1 y2 hb5 B5 o5
    go_wp2_with fail
    refine (HC1.out _ B6).mono ?_
    rintro e w7 ⟨rfl, o7, hb7⟩
    have B7 : Below w.heap.size w w7 := B6.trans (hb7.mono B6.size)
    have o7' := HO.out _ _ _ _ o6 hb7
    clear hb7 B6 o6
    go_wp2_with fail
    refine (HC4.out _ _ _ _ _ o7' o7).mono ?_
    rintro e w8 ⟨rfl, hb8⟩
    have B8 : Below w.heap.size w w8 := B7.trans (hb8.mono B7.size)
    go_wp2
    go_ret
    exact ⟨rfl, B8⟩
  · have hlt : (1048576 : Int) < vs.length := by omega
    go_enter Try.func5, Try.ntmps5
    go_wp2
    go_ret
    exact ⟨rfl, Below.refl _ _⟩

theorem longs_nat {l : List Int} (h : ∀ y ∈ l, isU64 y) : ∃ vs : List Nat, l = natV vs ∧ All64 vs := by
  refine ⟨l.map Int.toNat, ?_, fun i => ?_⟩
  · rw [natV, List.map_map]
    have : l.map id = l.map ((fun n : Nat => (n : Int)) ∘ Int.toNat) := by
      apply List.map_congr_left
      intro x hx
      have := (h x hx).1
      simp [Int.toNat_of_nonneg this]
    rw [List.map_id] at this
    exact this
  · rw [List.getD_eq_getElem?_getD]
    cases e : (l.map Int.toNat)[i]? with
    | none => simp
    | some x =>
      have hx := List.mem_of_getElem? e
      simp only [List.mem_map] at hx
      obtain ⟨y, hy, rfl⟩ := hx
      have := h y hy
      simp only [isU64] at this
      simp only [Option.getD_some]
      omega

set_option maxRecDepth 100000 in
theorem lifted (os : Os) (started : os.Started) (H : Type) (enc : TypeId × Value → H) :
    ReturnsInHanded {} Try.checked os 5 .any (Rows.fnExactCoverSpec.pre6 enc Try.prog Try.f5 Rows.fnExactCoverRow.domain false) (Rows.fnExactCoverSpec.post enc Try.prog Try.f5 false true false false) := by
  refine returnsInHanded_of_change (C := Try.checked) own started (by kernel_rfl) Try.func5
    (ChangeSpec.witness6 (enc := enc) (C := Try.checked) false ⟨#[], #[.slice none 0 0, .int .i64 0], []⟩ 8 (by kernel_rfl) (by kernel_rfl) (by kernel_rfl) (by kernel_rfl)) ?_
  intro W base args ds gs before hval0 hW hcnd _
  have hval : ∀ (j : Nat) t v, Try.f5.params[j]? = some t → args[j]? = some v → Value.okWide Try.prog W .any base t v := hval0
  have hW' := hW
  obtain ⟨p, q, hA0, hV, rfl, hfz, hnd⟩ := hW
  have hA : DataW.TrodAll enc Try.prog W 0 (fun _ => true) true Try.f5.params.toList args.toList ds p := hA0
  rw [Try.params5] at hA hval
  obtain ⟨v0, vs0, d0, ds0, p0, q0, hargs, rfl, rfl, h0, r0⟩ := trodAll_cons hA
  obtain ⟨v1, vs1, d1, ds1, p1, q1, hargs1, rfl, rfl, h1, r1⟩ := trodAll_cons r0
  obtain ⟨rfl, rfl, rfl⟩ := trodAll_nil r1
  obtain rfl : args = #[v0, v1] := by cases args; simp_all
  obtain ⟨rfl, rfl⟩ := trodVars_none hV
  have k0 := h0
  have k1 := h1
  have lt0 : ∀ x ∈ p0, x.block < W.heap.size := by obtain ⟨m, hm⟩ := k0; exact DataW.trod_lt m _ _ _ hm
  have lt1 : ∀ x ∈ p1, x.block < W.heap.size := by obtain ⟨m, hm⟩ := k1; exact DataW.trod_lt m _ _ _ hm
  obtain ⟨a0, len0, cap0, rfl⟩ := okWide_slice Try.underlying23 (hval 0 23 v0 rfl rfl)
  obtain ⟨m0, hm0⟩ := h0
  obtain ⟨a, l, cap, he, hml, hs, hok⟩ := open_longs hm0
  simp [Value.cells] at he
  obtain ⟨rfl, rfl, rfl⟩ := he
  obtain ⟨f, rfl⟩ := okWide_int Try.underlying3 (hval 1 3 v1 rfl rfl)
  obtain ⟨vs, rfl, hv⟩ := longs_nat hok
  have hnl : (natV vs).length = vs.length := by simp
  rw [hnl] at hml
  clear hA0 hval0
  have hw := walk a0 cap0 vs f W hs hv hml
  rw [← hnl] at hw
  refine hw.mono fun e W' ⟨he, bel⟩ => ?_
  subst he
  exact ⟨_, rfl, _, _, _, [], _, [], hW', trodAll_mk1 (shut_bool Try.underlying4 _), (trodAll_cons_mk (Below.trod laidOut (by kernel_rfl) (of_decide_eq_true (by kernel_rfl)) k0 bel lt0) (trodAll_cons_mk (Below.trod laidOut (by kernel_rfl) (of_decide_eq_true (by kernel_rfl)) k1 bel lt1) trodAll_mk0)), rfl, bel.frame _, fun h => by cases h⟩

theorem proved : Rows.FnExactCoverSaid :=
  OpenClaim.holds_of_wide 5 Try.f5 rfl rfl rfl rfl rfl rfl rfl ⟨rfl, rfl, rfl, rfl, rfl⟩ rfl rfl rfl rfl rfl (by kernel_rfl) Try.func5 (by kernel_rfl)
    (of_decide_eq_true (by kernel_rfl)) (by unfold Func.isWrapper; first | (rw [if_pos (by decide +kernel)]; kernel_rfl) | (rw [if_neg (by decide +kernel)]; exact ⟨rfl, rfl⟩))
    (fun os started H enc _ => lifted os started H enc)
#print axioms proved
end Go.Proofs.Ytpbljegjinjmnaa.fnExactCover
