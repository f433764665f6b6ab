/-
  THE LAW 'FnExactEncodeProgram': its walk and its row.
-/
import Derived.Test.YtjfgihmamoiipaaRows
import Derived.Test.YtjfgihmamoiipaaEncS
import Derived.Test.YtjfgihmamoiipaaEnc2
import Derived.Test.YtjfgihmamoiipaaMark
import Derived.Test.YtjfgihmamoiipaaOpen
namespace Go.Proofs.Ytjfgihmamoiipaa.fnExactEncodeProgram
open Go.ChangeShapes Go.WideShapes Go.ChangeAt Go.RowKit Go.Deep
set_option linter.unusedVariables false

set_option maxHeartbeats 2000000 in
theorem walk (a : Option Addr) (cap : Nat) (p : List I) (w : World) (hs : Src w a p) (hok : ∀ x ∈ p, x.ok) (hm : p.length ≤ maxLen) :
    Calls Try.prog 6 #[.slice a p.length cap] w fun e w' => e = .returned (.bool true) ∧ Below w.heap.size w w' := by
  unfold maxLen at hm
  by_cases hn : p.length ≤ 1048576
  · have HC1 : Hid (∀ w1, Below w.heap.size w w1 → Calls Try.prog 20 #[.slice a p.length cap] w1 fun e w' => e = .returned (.slice (some ⟨w1.heap.size, 0, none⟩) p.length p.length) ∧ w'.rowIs w1.heap.size 36 (p.length * 4) (insF p) ∧ Below w1.heap.size w1 w') :=
      fun w1 hB => toInsS_any a cap p w1 (hs.below hB) hn
    have HC2 : Hid (∀ D w1, w1.rowIs D 36 (p.length * 4) (insF p) → Calls Try.prog 24 #[.slice (some ⟨D, 0, none⟩) p.length p.length] w1 fun e w' => ∃ v', e = .returned v' ∧ owns w' w1.heap.size v' (encL p) ∧ Below w1.heap.size w1 w') :=
      fun D w1 h => specEncode_any _ _ p w1 (Src.of_row h) hok hn
    have HC3 : Hid (∀ D w1, w1.rowIs D 36 (p.length * 4) (insF p) → Calls Try.prog 16 #[.slice (some ⟨D, 0, none⟩) p.length p.length] w1 fun e w' => ∃ v', e = .returned v' ∧ owns w' w1.heap.size v' (encL p) ∧ Below w1.heap.size w1 w') :=
      fun D w1 h => implEncode_any _ _ p w1 (Src.of_row h) hok hn
    have HC4 : Hid (∀ D D' w1, w1.rowIs D 36 (p.length * 4) (insF p) → w1.rowIs D' 36 (p.length * 4) (insF p) → Calls Try.prog 21 #[.slice (some ⟨D, 0, none⟩) p.length p.length, .slice (some ⟨D', 0, none⟩) p.length p.length] w1 fun e w' => e = .returned (.bool true) ∧ Below w1.heap.size w1 w') :=
      fun D D' w1 h h' => eqInsS_any _ _ _ _ p w1 (Src.of_row h) (Src.of_row h') hn
    have HLen : Hid ((encL p).length = 8 * p.length) := encL_len p
    generalize encL p = L at *
    generalize insF p = f at *
    clear hs hok
    generalize p.length = n at *
    have hL : L.length ≤ 16777216 := by rw [HLen.out]; omega
    go_enter Try.func6, Try.ntmps6
    go_wp2_with fail
    refine (szInsS_any a n cap _ _ (by omega) (by omega) (by omega)).mono ?_
    rintro e w ⟨rfl, rfl⟩
    rw [if_neg (by omega)]
    go_wp2_with fail
    refine (HC1.out _ (Below.refl _ _)).mono ?_
    rintro e w1 ⟨rfl, hr1, hb1⟩
    go_wp2_with fail
    refine (HC2.out _ _ hr1).mono ?_
    rintro e w2 ⟨vw, rfl, ow2, hb2⟩
    have B2 : Below w.heap.size w w2 := hb1.trans (hb2.mono hb1.size)
    have bw : ∀ q, vw.ownBlock = some q → q < w2.heap.size := fun q hq => (ow2.lt q hq).2
    clear hr1 hb1 hb2
    go_wp2_with fail
    refine (HC1.out _ B2).mono ?_
    rintro e w3 ⟨rfl, hr3, hb3⟩
    have B3 : Below w.heap.size w w3 := B2.trans (hb3.mono B2.size)
    have ow3 := owns_below ow2 hb3
    have hD3 := hr3.lt
    have hDw : w.heap.size ≤ w2.heap.size := B2.size
    generalize hDe : w2.heap.size = D at *
    clear hb3 ow2 B2 hDe
    go_wp2_with fail
    refine (HC3.out _ _ hr3).mono ?_
    rintro e w4 ⟨vg, rfl, og4, hb4⟩
    have hr4 := hr3.of_block (hb4.block _ hr3.lt)
    have ow4 := owns_below ow3 hb4
    have B4 : Below w.heap.size w w4 := B3.trans (hb4.mono B3.size)
    have bg : ∀ q, vg.ownBlock = some q → D < q := fun q hq => by have := (og4.lt q hq).1; omega
    clear hr3 hb4 ow3
    go_wp2_with fail
    refine (eqByteS_own og4 ow4 hL).mono ?_
    rintro e w5 ⟨rfl, hb5⟩
    have hr5 := hr4.of_block (hb5.block _ hr4.lt)
    have ow5 := owns_below ow4 hb5
    have og5 := owns_below og4 hb5
    have B5 : Below w.heap.size w w5 := B4.trans (hb5.mono B4.size)
    clear hr4 hb5 ow4 og4 B4
    go_wp2_with fail
    refine (HC1.out _ B5).mono ?_
    rintro e w6 ⟨rfl, hr6, hb6⟩
    have hr6' := hr5.of_block (hb6.block _ hr5.lt)
    have ow6 := owns_below ow5 hb6
    have og6 := owns_below og5 hb6
    have B6 : Below w.heap.size w w6 := B5.trans (hb6.mono B5.size)
    clear hr5 hb6 ow5 og5 B5
    go_wp2_with fail
    refine (HC4.out _ _ _ hr6' hr6).mono ?_
    rintro e w7 ⟨rfl, hb7⟩
    have hr7 := hr6'.of_block (hb7.block _ hr6'.lt)
    have ow7 := owns_below ow6 hb7
    have og7 := owns_below og6 hb7
    have B7 : Below w.heap.size w w7 := B6.trans (hb7.mono B6.size)
    clear hr6 hr6' hb7 ow6 og6 B6
    have hM : MarksI w7 D (n * 4) 1 0 := ⟨_, hr7, fun i hi => by omega⟩
    go_wp2_with fail
    refine (markInsS_some D n n (n * 4) 1 _ hM (Nat.le_refl _) hn (by omega) (by omega)).mono ?_
    rintro e w8 ⟨rfl, _, hG⟩
    have ow8 := owns_kept ow7 hG (fun q hq e => by have := bw q hq; simp only [Option.some.injEq] at e; omega)
    have og8 := owns_kept og7 hG (fun q hq e => by have := bg q hq; simp only [Option.some.injEq] at e; omega)
    have B8 : Below w.heap.size w w8 := B7.grown hG B7.size (fun q hq => by simp only [Option.some.injEq] at hq; omega)
    clear hM hG hr7 ow7 og7 B7
    have hk : decide ((1 : Int) + 4 * (n : Int) < 0) = false := by simp; omega
    go_wp2_with fail
    refine (eqByteS_own og8 ow8 hL).mono ?_
    rintro e w9 ⟨rfl, hb9⟩
    have ow9 := owns_below ow8 hb9
    have og9 := owns_below og8 hb9
    have B9 : Below w.heap.size w w9 := B8.trans (hb9.mono B8.size)
    clear hb9 ow8 og8 B8
    go_wp2_with fail
    refine (markByteS_own 1 og9 hL (by omega) (by omega)).mono ?_
    rintro e w10 ⟨rfl, hMV, hG⟩
    have ow10 := owns_kept ow9 hG (fun q hq e => by have := bw q hq; have := bg q e.symm; omega)
    have B10 : Below w.heap.size w w10 := B9.grown hG B9.size (fun q hq => by have := bg q hq; omega)
    clear hG ow9 og9 B9
    rw [HLen.out] at hMV ⊢
    go_wp2_with fail
    refine (heldByteS_own 1 hMV (by omega) (by omega) (by omega)).mono ?_
    rintro e w10 ⟨rfl, rfl⟩
    go_wp2_with fail
    refine (HC1.out _ B10).mono ?_
    rintro e w11 ⟨rfl, hr11, hb11⟩
    have ow11 := owns_below ow10 hb11
    have B11 : Below w.heap.size w w11 := B10.trans (hb11.mono B10.size)
    clear hb11 ow10 B10 hMV
    go_wp2_with fail
    refine (HC3.out _ _ hr11).mono ?_
    rintro e w12 ⟨vh, rfl, oh12, hb12⟩
    have ow12 := owns_below ow11 hb12
    have B12 : Below w.heap.size w w12 := B11.trans (hb12.mono B11.size)
    clear hb12 ow11 B11 hr11
    go_wp2_with fail
    refine (eqByteS_own oh12 ow12 hL).mono ?_
    rintro e w13 ⟨rfl, hb13⟩
    have B13 : Below w.heap.size w w13 := B12.trans (hb13.mono B12.size)
    go_wp2
    go_ret
    exact ⟨rfl, B13⟩
  · have hlt : (1048576 : Int) - p.length < 0 := by omega
    go_enter Try.func6, Try.ntmps6
    go_wp2_with (go_at_call 19; refine (szInsS_any a p.length cap _ _ (by omega) (by omega) (by omega)).mono ?_; rintro e w0 ⟨rfl, rfl⟩; rw [if_pos hlt])
    go_ret
    exact ⟨rfl, Below.refl _ _⟩

set_option maxRecDepth 100000 in
theorem lifted (os : Os) (started : os.Started) (H : Type) (enc : TypeId × Value → H) :
    ReturnsInHanded {} Try.checked os 6 .any (Rows.fnExactEncodeProgramSpec.pre6 enc Try.prog Try.f6 Rows.fnExactEncodeProgramRow.domain false) (Rows.fnExactEncodeProgramSpec.post enc Try.prog Try.f6 false true false false) := by
  refine returnsInHanded_of_change (C := Try.checked) own started (by kernel_rfl) Try.func6
    (ChangeSpec.witness6 (enc := enc) (C := Try.checked) false ⟨#[], #[.slice none 0 0], []⟩ 8 (by kernel_rfl) (by kernel_rfl) (by kernel_rfl) (by kernel_rfl)) ?_
  intro W base args ds gs before hval0 hW hcnd _
  have hval : ∀ (j : Nat) t v, Try.f6.params[j]? = some t → args[j]? = some v → Value.okWide Try.prog W .any base t v := hval0
  have hW' := hW
  obtain ⟨p, q, hA0, hV, rfl, hfz, hnd⟩ := hW
  have hA : DataW.TrodAll enc Try.prog W 0 (fun _ => true) true Try.f6.params.toList args.toList ds p := hA0
  rw [Try.params6] at hA hval
  obtain ⟨v0, vs0, d0, ds0, p0, q0, hargs, rfl, rfl, h0, r0⟩ := trodAll_cons hA
  obtain ⟨rfl, rfl, rfl⟩ := trodAll_nil r0
  obtain rfl : args = #[v0] := by cases args; simp_all
  obtain ⟨rfl, rfl⟩ := trodVars_none hV
  obtain ⟨a0, len0, cap0, rfl⟩ := okWide_slice Try.underlying38 (hval 0 38 v0 rfl rfl)
  have k0 := h0
  have lt0 : ∀ x ∈ p0, x.block < W.heap.size := by obtain ⟨m, hm⟩ := k0; exact DataW.trod_lt m _ _ _ hm
  obtain ⟨pp, hpl, hml, hsrc, hok⟩ := open_insS h0
  subst hpl
  clear hA0 hval0
  refine (walk a0 cap0 pp W hsrc hok hml).mono fun e W' ⟨he, bel⟩ => ?_
  subst he
  exact ⟨_, rfl, _, _, _, [], _, [], hW', trodAll_mk1 (shut_bool Try.underlying4 _), (trodAll_cons_mk (Below.trod laidOut (by kernel_rfl) (of_decide_eq_true (by kernel_rfl)) k0 bel lt0) trodAll_mk0), rfl, bel.frame _, fun h => by cases h⟩

theorem proved : Rows.FnExactEncodeProgramSaid :=
  OpenClaim.holds_of_wide 6 Try.f6 rfl rfl rfl rfl rfl rfl rfl ⟨rfl, rfl, rfl, rfl, rfl⟩ rfl rfl rfl rfl rfl (by kernel_rfl) Try.func6 (by kernel_rfl)
    (of_decide_eq_true (by kernel_rfl)) (by unfold Func.isWrapper; first | (rw [if_pos (by decide +kernel)]; kernel_rfl) | (rw [if_neg (by decide +kernel)]; exact ⟨rfl, rfl⟩))
    (fun os started H enc _ => lifted os started H enc)
#print axioms proved
end Go.Proofs.Ytjfgihmamoiipaa.fnExactEncodeProgram
