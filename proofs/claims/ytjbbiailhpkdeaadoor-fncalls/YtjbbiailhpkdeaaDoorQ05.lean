/-
  Open, OpenB, DoorT, CallY, DistV
-/
import Derived.Test.YtjbbiailhpkdeaaDoorQ02
import Derived.ProofKit
import Derived.OpenShut
import Derived.ShutString
import Derived.ChangeOld
import Derived.Below
import Derived.Deep.Slices
import Derived.Test.YtjbbiailhpkdeaaDoorQ01
import Derived.Test.YtjbbiailhpkdeaaDoorRows
import Derived.Test.YtjbbiailhpkdeaaDoorQ04
import Derived.ChangeSame
import Derived.ChangeVars
import Derived.JoinedOf
import Derived.RowKit
import Derived.RowKitTokens
import Derived.LaidLaws
import Derived.LaidHandle
import Derived.Stop.Joined
import Derived.Test.YtjbbiailhpkdeaaDoorQ03
namespace Go.Proofs.YtjbbiailhpkdeaaDoor
open Go.ChangeShapes Go.WideShapes Go.ChangeAt Go.RowKit Go.Deep
set_option linter.unusedVariables false

theorem own : ownKnob Tryd.prog.godebug = none := by kernel_rfl
theorem laidOut : laidOutB Tryd.prog = true := by kernel_rfl
theorem cellsU16 : Tryd.prog.cellsOf 139 = 1 := by kernel_rfl
theorem cellsU8 : Tryd.prog.cellsOf 5 = 1 := by kernel_rfl
theorem cellsU32 : Tryd.prog.cellsOf 31 = 1 := by kernel_rfl

theorem cell_lt {w : World} {a : Addr} {v : Value} (h : w.cell? a = some v) : a.block < w.heap.size := by
  by_cases hb : a.block < w.heap.size
  · exact hb
  · exfalso
    simp [World.cell?, Array.getElem?_eq_none (show w.heap.size ≤ a.block by omega)] at h

end Go.Proofs.YtjbbiailhpkdeaaDoor
namespace Go.Proofs.YtjbbiailhpkdeaaDoor
open Go.RowKit
set_option linter.unusedVariables false

open Go.ChangeShapes Go.WideShapes Go.ChangeAt Go.Deep in
set_option maxRecDepth 100000 in
/-- bytes that came in -/
theorem open_bytes {H : Type} {enc : TypeId × Value → H} {W : World} {a : Option Addr} {len cap : Nat} {d : DataW H} {ps : List MemPlace}
    (h : DataW.Trod enc Tryd.prog W 0 (fun _ => true) true 22 (.slice a len cap) d ps) :
    ∃ l : List Int, l.length = len ∧ len ≤ maxLen ∧ len ≤ cap ∧ BSrc W a l ∧ isBytes l := by
  obtain ⟨fuel, hf⟩ := h
  rcases open_ints Tryd.underlying22 Tryd.underlying5 (by kernel_rfl) hf with ⟨hcs, _⟩ | ⟨x, l, c, zs, hcs, _, hl, hm, hz, _, hcell, hwz⟩
  · simp [Value.cells] at hcs
    obtain ⟨rfl, rfl, rfl⟩ := hcs
    exact ⟨[], rfl, by simp, by simp, .inl rfl, fun x hx => by simp at hx⟩
  · simp [Value.cells] at hcs
    obtain ⟨rfl, rfl, rfl⟩ := hcs
    have hzl : zs.length = cap := by simpa using hz
    have hlen : (zs.take len).length = len := by simp; omega
    refine ⟨zs.take len, hlen, by omega, hl, ?_, fun y hy => ?_⟩
    · by_cases h0 : len = 0
      · subst h0; exact .inl (by simp)
      · have hc0 := hcell 0 (by omega)
        have hspot : x.spot = none := by simpa [Addr.add] using World.cell?_spot hc0
        have hlt : x.block < W.heap.size := by simpa [Addr.add] using cell_lt hc0
        obtain ⟨b, o, sp⟩ := x
        simp only at hspot
        subst hspot
        refine .inr ⟨b, o, rfl, hlt, fun i hi => ?_⟩
        have hi' : i < len := by omega
        have hc := hcell i (by omega)
        rw [add_at] at hc
        rw [hc]
        simp [List.getD_eq_getElem?_getD, hi']
    · have := bounds_u8 (hwz y (List.mem_of_mem_take hy))
      omega
end Go.Proofs.YtjbbiailhpkdeaaDoor
namespace Go.Proofs.YtjbbiailhpkdeaaDoor
open Go.ChangeShapes Go.WideShapes Go.RowKit

theorem Tryd.etD : Tryd.prog.globalNamed "errors.errorType" = some 0 := by kernel_rfl
theorem Tryd.rtD : (Tryd.prog.cutTypes.find? (·.1 == "internal/reflectlite.rtype")).map (·.2) = some 103 := by kernel_rfl
theorem Tryd.sizeD : Tryd.prog.types.size + 100 = 247 := by kernel_rfl
theorem Tryd.oneRowD : ((List.range Tryd.prog.types.size).filter fun t => Tryd.prog.rowNamed t [101, 114, 114, 111, 114]) = [51] := by kernel_rfl

theorem errT_of_laid {W : World} (h : laidMetH Tryd.prog [("errors.errorType", Rows.laid_errors_errorType)] W) : ErrT W := by
  have h' : laidMet Tryd.prog [] W ∧ handlesMet Tryd.prog [("errors.errorType", Rows.laid_errors_errorType)] W := h
  obtain ⟨name, u, ty, e1, e2, e3, e4, e5⟩ := h'.2 _ (List.mem_singleton.2 rfl)
  have en : name = [101, 114, 114, 111, 114] := (Option.some.inj e1).symm
  subst en
  obtain rfl := Option.some.inj (Tryd.rtD.symm.trans e2)
  have hm : ty ∈ (List.range Tryd.prog.types.size).filter fun t => Tryd.prog.rowNamed t [101, 114, 114, 111, 114] := List.mem_filter.2 ⟨List.mem_range.2 e3, e4⟩
  rw [Tryd.oneRowD] at hm
  obtain rfl := List.mem_singleton.1 hm
  have hh : typeHandle Tryd.prog 51 = .pointer (some ⟨1, 51, none⟩) := by kernel_rfl
  rw [hh] at e5
  have := World.var?_cell Tryd.etD e5 0
  unfold ErrT
  simpa using this

theorem ErrT.below {w w1 : World} (h : ErrT w) (hb : Below w.heap.size w w1) : ErrT w1 := by
  unfold ErrT at h ⊢
  have h0 : 0 < w.heap.size := by
    rcases Nat.eq_zero_or_pos w.heap.size with h0 | h0
    · simp [World.cell?, h0] at h
    · exact h0
  rw [hb.cell (p := ⟨0, 0, none⟩) h0]; exact h

/-- the settled world, the variable's cell laid -/
noncomputable def laidWorldD (os : Os) : World :=
  let w0 := World.holding Tryd.prog os ⟨#[], #[], []⟩
  { w0 with heap := w0.heap.modify 0 fun
      | .cells _ t frozen => .cells #[.iface 103 (.agg #[.pointer (some ⟨1, 51, none⟩)])] t frozen
      | o => o }
theorem laidWorldD_met (os : Os) (args : Array Value) : laidMetH Tryd.prog [("errors.errorType", Rows.laid_errors_errorType)] ((laidWorldD os).forCall (fun _ _ => 0) ⟨#[], args, []⟩).memory :=
  laidMetH_of_parts (laidMet_nil _ _) (by kernel_rfl)
end Go.Proofs.YtjbbiailhpkdeaaDoor
namespace Go.Proofs.YtjbbiailhpkdeaaDoor
open Go.RowKit
set_option linter.unusedVariables false

theorem kN_succ {cs : List C} {k : Int} {i : Nat} (h : i < cs.length) : kN cs k (i + 1) = kN cs k i + 2 + (cs.getD i C.zero).args.length := by
  unfold kN; rw [tot_take_succ h]; push_cast; omega
theorem kN_bd {cs : List C} {k : Int} (i : Nat) (h0 : 0 ≤ k) (h1 : k ≤ 16) (hi : i ≤ cs.length) (ht : cs.length + tot cs ≤ 1048576) : 0 ≤ kN cs k i ∧ kN cs k i ≤ 4194304 := by
  have := tot_take_le cs i
  unfold kN; omega

set_option maxRecDepth 100000 in
set_option maxHeartbeats 800000 in
theorem markCallS_own (D N cap : Nat) (vs : Nat → Value) (cs : List C) (k : Int) (w : World) (h : OwnC w D N vs cs) (ht : cs.length + tot cs ≤ 1048576) (h0 : 0 ≤ k) (h1 : k ≤ 16) :
    Calls Tryd.prog 17 #[.slice (some ⟨D, 0, none⟩) cs.length cap, .int .i64 k] w fun e w' => e = .returned (.int .i64 (kN cs k cs.length)) ∧ MidC w' D N vs cs k cs.length ∧ Far w w' (setC cs D vs) := by
  have HM0 := MidC.start h k
  have hN := h.le
  have HK : Hid (∀ i, i < cs.length → kN cs k (i + 1) = kN cs k i + 2 + (cs.getD i C.zero).args.length) := fun i hi => kN_succ hi
  have HB : Hid (∀ i, i ≤ cs.length → 0 ≤ kN cs k i ∧ kN cs k i ≤ 4194304) := fun i hi => kN_bd i h0 h1 hi ht
  have HL : Hid (∀ i, i < cs.length → (cs.getD i C.zero).args.length ≤ 1048576) := fun i hi => by have := tot_mem (callL_mem hi); omega
  have HSt : Hid (∀ i w1 w2, i < cs.length → MidC w1 D N vs cs k i → ((w1.setCell ⟨D, i * 3, none⟩ (.int .u32 (kN cs k i))).setCell ⟨D, i * 3 + 1, none⟩ (.int .u32 (kN cs k i + 1))).grownBy w2 (vs i).ownBlock → MarkedU w2 (vs i) (cs.getD i C.zero).args.length (kN cs k i + 2) → MidC w2 D N vs cs k (i + 1)) :=
    fun i w1 w2 hi hm hg hM => hm.step hi hg hM
  have HC : Hid (∀ i w1, i < cs.length → MidC w1 D N vs cs k i → (∃ v0, w1.cell? ⟨D, i * 3, none⟩ = some v0 ∧ w1.frozen? ⟨D, i * 3, none⟩ = false) ∧ (∃ v1, w1.cell? ⟨D, i * 3 + 1, none⟩ = some v1 ∧ w1.frozen? ⟨D, i * 3 + 1, none⟩ = false) ∧ w1.cell? ⟨D, i * 3 + 2, none⟩ = some (vs i) ∧ D < w1.heap.size) := by
    intro i w1 hi hm
    obtain ⟨f, hr, _, hv⟩ := hm.row
    exact ⟨⟨_, hr.cell (by omega), hr.frozen _⟩, ⟨_, hr.cell (by omega), hr.frozen _⟩, by rw [hr.cell (by omega), hv i hi], hr.lt⟩
  have HU : Hid (∀ i w1, i < cs.length → MidC w1 D N vs cs k i → ∀ x y, (∃ ax cx, vs i = .slice ax (cs.getD i C.zero).args.length cx) ∧ Calls Tryd.prog 38 #[vs i, .int .i64 (kN cs k i + 1 + 1)] ((w1.setCell ⟨D, i * 3, none⟩ x).setCell ⟨D, i * 3 + 1, none⟩ y) fun e w' => e = .returned (.int .i64 (kN cs k i + 2 + (cs.getD i C.zero).args.length)) ∧ MarkedU w' (vs i) (cs.getD i C.zero).args.length (kN cs k i + 2) ∧ ((w1.setCell ⟨D, i * 3, none⟩ x).setCell ⟨D, i * 3 + 1, none⟩ y).grownBy w' (vs i).ownBlock) := by
    intro i w1 hi hm x y
    have ho := hm.left i (Nat.le_refl _) hi
    have hne : ∀ q, (vs i).ownBlock = some q → q ≠ D := fun q hq => by have := hm.gt i q hi hq; omega
    have hb := HB.out i (by omega)
    obtain ⟨ax, cx, e1, _⟩ := ownsU_src ho
    refine ⟨⟨ax, cx, e1⟩, ?_⟩
    rw [show kN cs k i + 1 + 1 = kN cs k i + 2 by omega]
    exact markUint64S_own _ (ownsU_set (ownsU_set ho hne) hne) (by have := HL.out i hi; omega) (by omega) (by omega)
  have HF : Hid (∀ i w1 w2 x y, i < cs.length → Far w w1 (setC cs D vs) → ((w1.setCell ⟨D, i * 3, none⟩ x).setCell ⟨D, i * 3 + 1, none⟩ y).grownBy w2 (vs i).ownBlock → Far w w2 (setC cs D vs)) :=
    fun i w1 w2 x y hi hf hg => ((hf.set D _ x (.inl rfl)).set D _ y (.inl rfl)).trans (Far.grown hg (fun q hq => .inr ⟨i, hi, hq⟩))
  have HE : Hid (kN cs k 0 = k) := by show _ = _; unfold kN; simp [tot]
  obtain ⟨n, hn'⟩ : ∃ n, cs.length = n := ⟨_, rfl⟩
  have hn : n ≤ 1048576 := by omega
  rw [hn'] at HK HB HL HSt HC HU HF hN ⊢
  clear h ht hn'
  obtain ⟨MC, hMC⟩ : ∃ MC : World → Nat → Prop, ∀ w i, MidC w D N vs cs k i = MC w i := ⟨_, fun _ _ => rfl⟩
  simp only [hMC] at HM0 HSt HC HU ⊢
  clear hMC
  obtain ⟨K, hK⟩ : ∃ K : Nat → Int, ∀ i, kN cs k i = K i := ⟨_, fun _ => rfl⟩
  simp only [hK] at HK HB HSt HU HE ⊢
  clear hK
  obtain ⟨AL, hAL⟩ : ∃ AL : Nat → Nat, ∀ i, (cs.getD i C.zero).args.length = AL i := ⟨_, fun _ => rfl⟩
  simp only [hAL] at HK HL HSt HU
  clear hAL
  generalize setC cs D vs = S at *
  go_enter Tryd.func17, Tryd.ntmps17
  go_wp2_with fail
  go_loopw [1, 5] (fun q i wr => ∃ j : Nat, j ≤ n ∧ i = .int .i64 j ∧ q = .int .i64 (K j) ∧ MC wr j ∧ Far w wr S) (fun _ i _ => n - (intOf i).toNat)
  case atStart => exact ⟨0, by omega, rfl, by rw [HE.out], HM0, Far.refl _ _⟩
  case round =>
    obtain ⟨j, hj, rfl, rfl, hM, hFr⟩ := hrel
    clear HM0 HE
    by_cases hlt : j < n
    · obtain ⟨⟨v0, c0, f0⟩, ⟨v1, c1, f1⟩, c2, hD⟩ := HC.out j wr hlt hM
      obtain ⟨⟨ax, cx, hvx⟩, hcall⟩ := HU.out j wr hlt hM (.int .u32 (K j)) (.int .u32 (K j + 1))
      have HCl : Hid (Calls Tryd.prog 38 #[vs j, .int .i64 (K j + 1 + 1)] ((wr.setCell ⟨D, j * 3, none⟩ (.int .u32 (K j))).setCell ⟨D, j * 3 + 1, none⟩ (.int .u32 (K j + 1))) fun e w' => e = .returned (.int .i64 (K j + 2 + AL j)) ∧ MarkedU w' (vs j) (AL j) (K j + 2) ∧ ((wr.setCell ⟨D, j * 3, none⟩ (.int .u32 (K j))).setCell ⟨D, j * 3 + 1, none⟩ (.int .u32 (K j + 1))).grownBy w' (vs j).ownBlock) := hcall
      have HS1 : Hid (∀ w2, ((wr.setCell ⟨D, j * 3, none⟩ (.int .u32 (K j))).setCell ⟨D, j * 3 + 1, none⟩ (.int .u32 (K j + 1))).grownBy w2 (vs j).ownBlock → MarkedU w2 (vs j) (AL j) (K j + 2) → MC w2 (j + 1)) := fun w2 => HSt.out j wr w2 hlt hM
      have HF1 : Hid (∀ w2, ((wr.setCell ⟨D, j * 3, none⟩ (.int .u32 (K j))).setCell ⟨D, j * 3 + 1, none⟩ (.int .u32 (K j + 1))).grownBy w2 (vs j).ownBlock → Far w w2 S) := fun w2 => HF.out j wr w2 _ _ hlt hFr
      have HK1 : Hid (K (j + 1) = K j + 2 + AL j) := HK.out j hlt
      obtain ⟨k0, k1⟩ := HB.out j (by omega)
      have hal := HL.out j hlt
      clear HC HU HSt HF HK HB HL hcall hM hFr
      generalize vs j = vj at *
      subst hvx
      generalize AL j = m at *
      generalize hKj : K j = kj at *
      clear hKj
      go_wp2_with fail
      refine HCl.out.mono ?_
      rintro e w2 ⟨rfl, hMk, hg⟩
      have hM2 := HS1.out w2 hg hMk
      have hF2 := HF1.out w2 hg
      clear HCl HS1 HF1 hMk hg c0 c1 c2 f0 f1
      go_wp2
      go_roundw
      case rel => exact ⟨j + 1, by omega, by go_num, by rw [HK1.out], hM2, hF2⟩
      case measure => simp [intOf]; omega
    · have hjn : j = n := by omega
      subst hjn
      go_wp2
      go_ret
      exact ⟨rfl, hM, hFr⟩

set_option maxRecDepth 100000 in
set_option maxHeartbeats 800000 in
theorem heldCallS_own (D N cap : Nat) (vs : Nat → Value) (cs : List C) (k : Int) (w : World) (h : MidC w D N vs cs k cs.length) (ht : cs.length + tot cs ≤ 1048576) (h0 : 0 ≤ k) (h1 : k ≤ 16) :
    Calls Tryd.prog 18 #[.slice (some ⟨D, 0, none⟩) cs.length cap, .int .i64 k] w fun e w' => e = .returned (.int .i64 (kN cs k cs.length)) ∧ w' = w := by
  have hN := h.le
  have HK : Hid (∀ i, i < cs.length → kN cs k (i + 1) = kN cs k i + 2 + (cs.getD i C.zero).args.length) := fun i hi => kN_succ hi
  have HB : Hid (∀ i, i ≤ cs.length → 0 ≤ kN cs k i ∧ kN cs k i ≤ 4194304) := fun i hi => kN_bd i h0 h1 hi ht
  have HL : Hid (∀ i, i < cs.length → (cs.getD i C.zero).args.length ≤ 1048576) := fun i hi => by have := tot_mem (callL_mem hi); omega
  have HC : Hid (∀ i, i < cs.length → w.cell? ⟨D, i * 3, none⟩ = some (.int .u32 (kN cs k i)) ∧ w.cell? ⟨D, i * 3 + 1, none⟩ = some (.int .u32 (kN cs k i + 1)) ∧ w.cell? ⟨D, i * 3 + 2, none⟩ = some (vs i)) := by
    intro i hi
    obtain ⟨f, hr, hf, hv⟩ := h.row
    obtain ⟨f0, f1⟩ := hf i hi
    exact ⟨by rw [hr.cell (by omega), f0], by rw [hr.cell (by omega), f1], by rw [hr.cell (by omega), hv i hi]⟩
  have HU : Hid (∀ i, i < cs.length → (∃ ax cx, vs i = .slice ax (cs.getD i C.zero).args.length cx) ∧ Calls Tryd.prog 39 #[vs i, .int .i64 (kN cs k i + 1 + 1)] w fun e w' => e = .returned (.int .i64 (kN cs k i + 2 + (cs.getD i C.zero).args.length)) ∧ w' = w) := by
    intro i hi
    have ho := h.done i hi
    have hb := HB.out i (by omega)
    rw [show kN cs k i + 1 + 1 = kN cs k i + 2 by omega]
    refine ⟨?_, heldUint64S_own _ ho (by have := HL.out i hi; omega) (by omega) (by omega)⟩
    rcases ho with ⟨e1, e2⟩ | ⟨g, c, e1, _⟩
    · exact ⟨none, 0, by rw [e1, e2]⟩
    · exact ⟨_, c, e1⟩
  have HE : Hid (kN cs k 0 = k) := by show _ = _; unfold kN; simp [tot]
  obtain ⟨n, hn'⟩ : ∃ n, cs.length = n := ⟨_, rfl⟩
  have hn : n ≤ 1048576 := by omega
  rw [hn'] at HK HB HL HC HU hN ⊢
  clear h ht hn'
  obtain ⟨K, hK⟩ : ∃ K : Nat → Int, ∀ i, kN cs k i = K i := ⟨_, fun _ => rfl⟩
  simp only [hK] at HK HB HC HU HE ⊢
  clear hK
  obtain ⟨AL, hAL⟩ : ∃ AL : Nat → Nat, ∀ i, (cs.getD i C.zero).args.length = AL i := ⟨_, fun _ => rfl⟩
  simp only [hAL] at HK HL HU
  clear hAL
  go_enter Tryd.func18, Tryd.ntmps18
  go_wp2_with fail
  go_loopw [1, 5] (fun q i wr => ∃ j : Nat, j ≤ n ∧ i = .int .i64 j ∧ q = .int .i64 (K j) ∧ wr = w) (fun _ i _ => n - (intOf i).toNat)
  case atStart => exact ⟨0, by omega, rfl, by rw [HE.out], rfl⟩
  case round =>
    obtain ⟨j, hj, rfl, rfl, rfl⟩ := hrel
    clear HE
    by_cases hlt : j < n
    · obtain ⟨c0, c1, c2⟩ := HC.out j hlt
      obtain ⟨⟨ax, cx, hvx⟩, hcall⟩ := HU.out j hlt
      have HCl : Hid (Calls Tryd.prog 39 #[vs j, .int .i64 (K j + 1 + 1)] wr fun e w' => e = .returned (.int .i64 (K j + 2 + AL j)) ∧ w' = wr) := hcall
      have HK1 : Hid (K (j + 1) = K j + 2 + AL j) := HK.out j hlt
      obtain ⟨k0, k1⟩ := HB.out j (by omega)
      have hal := HL.out j hlt
      clear HC HU HK HB HL hcall
      generalize vs j = vj at *
      subst hvx
      generalize AL j = m at *
      generalize hKj : K j = kj at *
      clear hKj
      go_wp2_with fail
      refine HCl.out.mono ?_
      rintro e w2 ⟨rfl, rfl⟩
      clear HCl c0 c1 c2
      go_wp2
      go_roundw
      case rel => exact ⟨j + 1, by omega, by go_num, by rw [HK1.out], trivial⟩
      case measure => simp [intOf]; omega
    · have hjn : j = n := by omega
      subst hjn
      go_wp2
      go_ret
      exact ⟨rfl, rfl⟩
end Go.Proofs.YtjbbiailhpkdeaaDoor
namespace Go.Proofs.YtjbbiailhpkdeaaDoor
open Go.RowKit
set_option linter.unusedVariables false

theorem OwnC.far {w w1 : World} {D N : Nat} {vs : Nat → Value} {cs : List C} {S : Nat → Prop} (h : OwnC w D N vs cs) (hf : Far w w1 S) (hS : ∀ q, S q → q < D) : OwnC w1 D N vs cs := by
  obtain ⟨f, hr, hv⟩ := h.row
  refine ⟨⟨f, hr.of_block (hf.block D hr.lt (fun hs => by have := hS D hs; omega)), hv⟩, h.le, fun i hi => ?_, h.inc⟩
  have ho := h.own i hi
  exact row_block ho (fun q hq => hf.block q (ho.lt q hq).2 (fun hs => by have := hS q hs; have := (ho.lt q hq).1; omega))

/-- the answer, in memory of its own from block B on -/
def GV (r : List C) (B : Nat) (w : World) (v : Value) : Prop := (v = .slice none 0 0 ∧ r = []) ∨ ∃ D N c vs, v = .slice (some ⟨D, 0, none⟩) r.length c ∧ B ≤ D ∧ OwnC w D N vs r
/-- its marks -/
def MV (r : List C) (w : World) (v : Value) : Prop := (v = .slice none 0 0 ∧ r = []) ∨ ∃ D N c vs, v = .slice (some ⟨D, 0, none⟩) r.length c ∧ MidC w D N vs r 1 r.length
/-- the model's answer -/
def SV (r : List C) (w : World) (v : Value) : Prop := ∃ a c, v = .slice a r.length c ∧ CSrc w a r

theorem GV.below {r : List C} {B : Nat} {w w1 : World} {v : Value} (h : GV r B w v) (hb : Below w.heap.size w w1) : GV r B w1 v := by
  rcases h with h | ⟨D, N, c, vs, e, hB, ho⟩
  · exact .inl h
  · exact .inr ⟨D, N, c, vs, e, hB, ho.below hb⟩
theorem GV.far {r : List C} {B : Nat} {w w1 : World} {v : Value} {S : Nat → Prop} (h : GV r B w v) (hf : Far w w1 S) (hS : ∀ q, S q → q < B) : GV r B w1 v := by
  rcases h with h | ⟨D, N, c, vs, e, hB, ho⟩
  · exact .inl h
  · exact .inr ⟨D, N, c, vs, e, hB, ho.far hf (fun q hq => by have := hS q hq; omega)⟩
theorem SV.below {r : List C} {w w1 : World} {v : Value} (h : SV r w v) (hb : Below w.heap.size w w1) : SV r w1 v := by
  obtain ⟨a, c, e, hs⟩ := h
  exact ⟨a, c, e, hs.below hb⟩
theorem GV.sv {r : List C} {B : Nat} {w : World} {v : Value} (h : GV r B w v) : SV r w v := by
  rcases h with ⟨e, rfl⟩ | ⟨D, N, c, vs, e, hB, ho⟩
  · exact ⟨none, 0, e, .inl rfl⟩
  · exact ⟨_, c, e, ho.src⟩

theorem eqSV {r : List C} {w : World} {v v' : Value} (h : SV r w v) (h' : SV r w v') (hn : r.length ≤ 1048576) (hm : ∀ c ∈ r, c.args.length ≤ 16777216) :
    Calls Tryd.prog 14 #[v, v'] w fun e w' => e = .returned (.bool true) ∧ Below w.heap.size w w' := by
  obtain ⟨a, c, rfl, hs⟩ := h
  obtain ⟨a', c', rfl, hs'⟩ := h'
  exact eqCallS_any a a' c c' r w hs hs' hn hm

set_option maxRecDepth 100000 in
set_option maxHeartbeats 1000000 in
theorem markNil (w : World) : Calls Tryd.prog 17 #[.slice none 0 0, .int .i64 1] w fun e w' => e = .returned (.int .i64 1) ∧ w' = w := by
  go_enter Tryd.func17, Tryd.ntmps17
  go_wp2_with fail
  go_loopw [1, 5] (fun s i wr => s = .int .i64 1 ∧ i = .int .i64 0 ∧ wr = w) (fun _ i _ => 0)
  case atStart => exact ⟨rfl, rfl, rfl⟩
  case round =>
    obtain ⟨rfl, rfl, rfl⟩ := hrel
    go_wp2
    go_ret
    exact ⟨rfl, rfl⟩
set_option maxRecDepth 100000 in
set_option maxHeartbeats 1000000 in
theorem heldNil (w : World) : Calls Tryd.prog 18 #[.slice none 0 0, .int .i64 1] w fun e w' => e = .returned (.int .i64 1) ∧ w' = w := by
  go_enter Tryd.func18, Tryd.ntmps18
  go_wp2_with fail
  go_loopw [1, 5] (fun s i wr => s = .int .i64 1 ∧ i = .int .i64 0 ∧ wr = w) (fun _ i _ => 0)
  case atStart => exact ⟨rfl, rfl, rfl⟩
  case round =>
    obtain ⟨rfl, rfl, rfl⟩ := hrel
    go_wp2
    go_ret
    exact ⟨rfl, rfl⟩

theorem markGV {r : List C} {B : Nat} {w : World} {v : Value} (h : GV r B w v) (ht : r.length + tot r ≤ 1048576) :
    Calls Tryd.prog 17 #[v, .int .i64 1] w fun e w' => e = .returned (.int .i64 (kN r 1 r.length)) ∧ MV r w' v ∧ Far w w' (fun q => B ≤ q) := by
  rcases h with ⟨rfl, rfl⟩ | ⟨D, N, c, vs, rfl, hB, ho⟩
  · refine (markNil w).mono ?_
    rintro e w' ⟨rfl, rfl⟩
    exact ⟨rfl, .inl ⟨rfl, rfl⟩, Far.refl _ _⟩
  · refine (markCallS_own D N c vs r 1 w ho ht (by omega) (by omega)).mono ?_
    rintro e w' ⟨rfl, hm, hf⟩
    refine ⟨rfl, .inr ⟨D, N, c, vs, rfl, hm⟩, hf.os, hf.tape, hf.output, hf.size, fun q hq hn => hf.block q hq (fun hs => hn ?_)⟩
    rcases hs with rfl | ⟨j, hj, hq⟩
    · exact hB
    · have := ((ho.own j hj).lt q hq).1; omega
theorem heldMV {r : List C} {w : World} {v : Value} (h : MV r w v) (ht : r.length + tot r ≤ 1048576) :
    Calls Tryd.prog 18 #[v, .int .i64 1] w fun e w' => e = .returned (.int .i64 (kN r 1 r.length)) ∧ w' = w := by
  rcases h with ⟨rfl, rfl⟩ | ⟨D, N, c, vs, rfl, hm⟩
  · refine (heldNil w).mono ?_
    rintro e w' ⟨rfl, rfl⟩
    exact ⟨rfl, rfl⟩
  · exact heldCallS_own D N c vs r 1 w hm ht (by omega) (by omega)
end Go.Proofs.YtjbbiailhpkdeaaDoor
