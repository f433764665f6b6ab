/-
  DlgU, DlgV, DlgW
-/
import Derived.Test.YtjbbiailhpkdeaaDoorQ13
import Derived.Test.YtjbbiailhpkdeaaDoorQ03
namespace Go.Proofs.YtjbbiailhpkdeaaDoor
open Go.RowKit
set_option linter.unusedVariables false

theorem cutF_ok (l m : List Int) (hl : isBytes l) (hm : isBytes m) : (∀ p ∈ (cutF m l).1, isBytes p ∧ 0 < p.length ∧ p.length ≤ m.length + l.length) := by
  induction l generalizing m with
  | nil => intro p hp; simp [cutF] at hp
  | cons b r ih =>
    have hb := hl b (by simp)
    have hr : isBytes r := fun x hx => hl x (by simp [hx])
    have hmb : isBytes (m ++ [b]) := fun x hx => by
      rcases List.mem_append.1 hx with h | h
      · exact hm x h
      · simp at h; subst h; exact hb
    intro p hp
    simp only [cutF] at hp
    split at hp
    · rcases List.mem_cons.1 hp with h | h
      · subst h
        exact ⟨hmb, by simp, by simp⟩
      · have := ih [] hr (fun x hx => by simp at hx) p h
        simp at this ⊢
        exact ⟨this.1, this.2.1, by omega⟩
    · have := ih (m ++ [b]) hr hmb p hp
      simp at this ⊢
      exact ⟨this.1, this.2.1, by omega⟩

theorem valsL_append (a b : List (List Int)) : valsL (a ++ b) = (valsL a).bind fun s => (valsL b).map fun t => s ++ t := by
  induction a with
  | nil => simp [valsL]
  | cons p ps ih =>
    simp only [List.cons_append, valsL, ih]
    cases valueL p with
    | none => rfl
    | some v =>
      simp only [Option.bind_some]
      cases valsL ps with
      | none => rfl
      | some s =>
        simp only [Option.bind_some, Option.map_some]
        cases valsL b with
        | none => rfl
        | some t => rfl
theorem take_snocP {ps : List (List Int)} {k : Nat} (h : k < ps.length) : ps.take (k + 1) = ps.take k ++ [ps.getD k []] := by
  rw [List.take_succ_eq_append_getElem h, List.getD_eq_getElem?_getD, List.getElem?_eq_getElem h]; rfl
theorem valsL_snoc {ps : List (List Int)} {k : Nat} (h : k < ps.length) : valsL (ps.take (k + 1)) = (valsL (ps.take k)).bind fun s => (valueL (ps.getD k [])).map fun v => s ++ [v] := by
  rw [take_snocP h, valsL_append]
  simp only [valsL]
  cases valsL (ps.take k) with
  | none => rfl
  | some s =>
    simp only [Option.bind_some]
    cases valueL (ps.getD k []) with
    | none => rfl
    | some v => rfl
theorem valsL_take {ps : List (List Int)} {k : Nat} : valsL ps = (valsL (ps.take k)).bind fun s => (valsL (ps.drop k)).map fun t => s ++ t := by
  conv => lhs; rw [← List.take_append_drop k ps]
  exact valsL_append _ _
theorem vals_bad {ps : List (List Int)} {k : Nat} (h : k < ps.length) (hv : valueL (ps.getD k []) = none) : valsL ps = none := by
  rw [valsL_take (k := k + 1), valsL_snoc h, hv]
  cases valsL (ps.take k) with
  | none => rfl
  | some s => rfl
theorem call_bad {ps : List (List Int)} {k : Nat} {ws : List Int} {v : Int} (h : k < ps.length) (hk : k < 2) (hs : valsL (ps.take k) = some ws) (hl : ws.length = k) (hv : valueL (ps.getD k []) = some v) (hx : 4294967295 < v) : (valsL ps).bind callOf = none := by
  rw [valsL_take (k := k + 1), valsL_snoc h, hv, hs]
  simp only [Option.bind_some, Option.map_some]
  cases valsL (ps.drop (k + 1)) with
  | none => rfl
  | some t =>
    simp only [Option.map_some, Option.bind_some]
    unfold callOf
    rw [if_neg]
    rintro ⟨h1, h2⟩
    match ws, hl with
    | [], hl =>
      simp at h1
      omega
    | [a], hl =>
      simp at h2
      omega
    | a :: b :: r, hl => simp at hl; omega
theorem callB_cut {l : List Int} (hl : isBytes l) : callB l = if (cutF [] l).2 = [] ∧ (cutF [] l).1.length = 8 then (valsL (cutF [] l).1).bind callOf else none := by
  unfold callB
  rw [← cutN_eq 8 hl]
  unfold cutN
  split <;> rfl
end Go.Proofs.YtjbbiailhpkdeaaDoor
namespace Go.Proofs.YtjbbiailhpkdeaaDoor
open Go.RowKit
set_option linter.unusedVariables false

def CallM (l : List Int) (w : World) (e : Ending) (w' : World) : Prop :=
  Below w.heap.size w w' ∧ ((callB l = none ∧ e = .returned (.tuple #[.agg #[.int .u32 0, .int .u32 0, .slice none 0 0], .bool false])) ∨
    ∃ c v, callB l = some c ∧ e = .returned (.tuple #[callV c v, .bool true]) ∧ ownsU w' w.heap.size v c.args)

/-- the call of the values ws, being read in the box at D -/
structure CbS (W : World) (D : Nat) (ws : List Int) (v : Value) : Prop where
  box : Box3 W D (.int .u32 (ws.getD 0 0)) (.int .u32 (ws.getD 1 0)) v
  own : ownsU W (D + 1) v (ws.drop 2)
  u64 : ∀ x ∈ ws, isU64 x
  b0 : ws.getD 0 0 ≤ 4294967295
  b1 : ws.getD 1 0 ≤ 4294967295

theorem CbS.below {W W1 : World} {D : Nat} {ws : List Int} {v : Value} (h : CbS W D ws v) (hb : Below W.heap.size W W1) : CbS W1 D ws v :=
  ⟨h.box.keep hb, ownsU_below h.own hb, h.u64, h.b0, h.b1⟩
theorem Box3.set0 {w : World} {g : Nat} {x y z : Value} (h : Box3 w g x y z) (x' : Value) : Box3 (w.setCell ⟨g, 0, none⟩ x') g x' y z := by
  obtain ⟨hl, c0, c1, c2, f0, f1, f2⟩ := h
  refine ⟨by simpa [World.setCell] using hl, ?_, ?_, ?_, ?_, ?_, ?_⟩
  all_goals simp [go_sem, c0, c1, c2, f0, f1, f2]
theorem Box3.set1 {w : World} {g : Nat} {x y z : Value} (h : Box3 w g x y z) (x' : Value) : Box3 (w.setCell ⟨g, 1, none⟩ x') g x x' z := by
  obtain ⟨hl, c0, c1, c2, f0, f1, f2⟩ := h
  refine ⟨by simpa [World.setCell] using hl, ?_, ?_, ?_, ?_, ?_, ?_⟩
  all_goals simp [go_sem, c0, c1, c2, f0, f1, f2]
theorem Box3.set2 {w : World} {g : Nat} {x y z : Value} (h : Box3 w g x y z) (x' : Value) : Box3 (w.setCell ⟨g, 2, none⟩ x') g x y x' := by
  obtain ⟨hl, c0, c1, c2, f0, f1, f2⟩ := h
  refine ⟨by simpa [World.setCell] using hl, ?_, ?_, ?_, ?_, ?_, ?_⟩
  all_goals simp [go_sem, c0, c1, c2, f0, f1, f2]
theorem ownsU_setD {w : World} {D j : Nat} {v x : Value} {l : List Int} (h : ownsU w (D + 1) v l) : ownsU (w.setCell ⟨D, j, none⟩ x) (D + 1) v l :=
  ownsU_set h (fun q hq => by have := (h.lt q hq).1; omega)
theorem CbS.first {W : World} {D : Nat} {x : Int} {v : Value} (h : CbS W D [] v) (hx : isU64 x) (hb : x ≤ 4294967295) : CbS (W.setCell ⟨D, 0, none⟩ (.int .u32 x)) D ([] ++ [x]) v :=
  ⟨h.box.set0 _, ownsU_setD h.own, fun y hy => by simp at hy; subst hy; exact hx, by simpa using hb, by simp⟩
theorem CbS.second {W : World} {D : Nat} {a x : Int} {v : Value} (h : CbS W D [a] v) (hx : isU64 x) (hb : x ≤ 4294967295) : CbS (W.setCell ⟨D, 1, none⟩ (.int .u32 x)) D ([a] ++ [x]) v :=
  ⟨h.box.set1 _, ownsU_setD h.own, fun y hy => by
    rcases List.mem_append.1 hy with h1 | h1
    · exact h.u64 y h1
    · simp at h1; subst h1; exact hx, by simpa using h.b0, by simpa using hb⟩
theorem CbS.more {W W1 : World} {D : Nat} {ws : List Int} {x : Int} {v v' : Value} {o : Obj} (h : CbS W D ws v) (hl : 2 ≤ ws.length) (hx : isU64 x) (hg : (W.alloc o).grownBy W1 v.ownBlock) (ho : ownsU W1 (D + 1) v' (ws.drop 2 ++ [x])) : CbS (W1.setCell ⟨D, 2, none⟩ v') D (ws ++ [x]) v' := by
  match ws, hl with
  | a :: b :: r, hl =>
    have hb : Below (D + 1) W W1 := ((Below.refl _ _).alloc h.box.lt o).grown hg (by have := h.box.lt; simp; omega) (fun q hq => (h.own.lt q hq).1)
    have hB : Box3 W1 D (.int .u32 a) (.int .u32 b) v := Box3.keepB (by simpa using h.box) hb (by omega)
    refine ⟨by simpa using hB.set2 v', ownsU_setD (by simpa using ho), fun y hy => ?_, by simpa using h.b0, by simpa using h.b1⟩
    rcases List.mem_append.1 hy with h1 | h1
    · exact h.u64 y h1
    · simp at h1; subst h1; exact hx
theorem PcsS.at {w : World} {B : Nat} {out : Value} {vs : List Value} {ps : List (List Int)} (h : PcsS w B out vs ps) (h0 : 0 < vs.length) : ∃ G cap, out = .slice (some ⟨G, 0, none⟩) vs.length cap ∧ G < w.heap.size ∧ ∀ i, i < vs.length → w.cell? ⟨G, i, none⟩ = some (vs.getD i undef) := by
  rcases h.row.2 with ⟨_, h2⟩ | ⟨g, cap, cur, h1, _, hg, _, _, _, hx⟩
  · omega
  · refine ⟨g, cap, h1, (Array.getElem?_eq_some_iff.1 hg).1, fun i hi => ?_⟩
    have e : (cur.toList.take (vs.length * 1))[i]? = some (vs.getD i undef) := by
      rw [hx, List.getElem?_eq_getElem hi, List.getD_eq_getElem?_getD, List.getElem?_eq_getElem hi]; rfl
    rw [List.getElem?_take, if_pos (by omega)] at e
    simp only [World.cell?, hg]
    simpa using e
end Go.Proofs.YtjbbiailhpkdeaaDoor
namespace Go.Proofs.YtjbbiailhpkdeaaDoor
open Go.RowKit
set_option linter.unusedVariables false

set_option maxRecDepth 100000 in
set_option maxHeartbeats 1000000 in
theorem l2call_any (b o cap : Nat) (l : List Int) (w : World) (hp : BytesAt w b o l) (hb : b < w.heap.size) (hB : isBytes l) (hn : l.length ≤ 1048576) :
    Calls Tryd.prog 28 #[.slice (some ⟨b, o, none⟩) l.length cap] w fun e w' => CallM l w e w' := by
  obtain ⟨i0, hi, hz0, hz1, hz2⟩ := info_parts info61
  have HCut : Hid (∀ W, Below w.heap.size w W → Calls Tryd.prog 48 #[.slice (some ⟨b, o, none⟩) l.length cap] W fun e w' => CutPost l W e w') := fun W h => l2cut_any b o cap l W (fun i hi => by rw [h.cell hb]; exact hp i hi) (Nat.lt_of_lt_of_le hb h.size) hB hn
  have HQ := callB_cut hB
  have HO : Hid (∀ i, i < (cutF [] l).1.length → isBytes ((cutF [] l).1.getD i []) ∧ 0 < ((cutF [] l).1.getD i []).length ∧ ((cutF [] l).1.getD i []).length ≤ 1048576) := fun i hi => by
    have := cutF_ok l [] hB (fun x hx => by simp at hx) ((cutF [] l).1.getD i []) (by rw [List.getD_eq_getElem?_getD, List.getElem?_eq_getElem hi]; exact List.getElem_mem hi)
    simp only [List.length_nil, Nat.zero_add] at this
    exact ⟨this.1, this.2.1, by omega⟩
  have HM : Hid (∀ W, Below w.heap.size w W → callB l = none → CallM l w (.returned (.tuple #[.agg #[.int .u32 0, .int .u32 0, .slice none 0 0], .bool false])) W) := fun W h hc => ⟨h, .inl ⟨hc, rfl⟩⟩
  have HM2 : Hid (∀ W c v, Below w.heap.size w W → callB l = some c → ownsU W w.heap.size v c.args → CallM l w (.returned (.tuple #[callV c v, .bool true])) W) := fun W c v h hc ho => ⟨h, .inr ⟨c, v, hc, rfl, ho⟩⟩
  have HPost : Hid (∀ W e W1, CutPost l W e W1 → ∃ out vs, e = .returned (.tuple #[out, .bool (decide ((cutF [] l).2 = []))]) ∧ PcsS W1 W.heap.size out vs (cutF [] l).1 ∧ Below W.heap.size W W1) := fun W e W1 h => h
  generalize cutF [] l = PR at *
  obtain ⟨ps, rest⟩ := PR
  simp only at HQ HO HPost
  have HQ' : Hid (callB l = if rest = [] ∧ ps.length = 8 then (valsL ps).bind callOf else none) := HQ
  have R0 := Box3.new w 34 (.int .u32 0) (.int .u32 0) (.slice none 0 0)
  have B0 : Below w.heap.size w (w.alloc (.cells #[.int .u32 0, .int .u32 0, .slice none 0 0] 34)) := (Below.refl _ _).alloc (Nat.le_refl _) _
  have z0 : (w.alloc (.cells #[.int .u32 0, .int .u32 0, .slice none 0 0] 34)).heap.size = w.heap.size + 1 := by simp
  clear HQ hp
  generalize l.length = n at *
  go_enter Tryd.func28, Tryd.ntmps28
  go_wp2_with fail
  generalize w.alloc (.cells #[.int .u32 0, .int .u32 0, .slice none 0 0] 34) = W0 at *
  refine (HCut.out W0 B0).mono ?_
  intro e W1 hpost
  obtain ⟨out, vs, rfl, hpc, hb1⟩ := HPost.out W0 e W1 hpost
  have R1 := R0.keep hb1
  have B1 : Below w.heap.size w W1 := B0.trans (hb1.mono B0.size)
  have hR : w.heap.size < W1.heap.size := R1.lt
  have hvl := hpc.len
  obtain ⟨a2, cp2, e2⟩ : ∃ a c, out = .slice a vs.length c := by
    rcases hpc.row.2 with ⟨h1, h2⟩ | ⟨g, cap, cur, h1, _⟩
    · exact ⟨none, 0, by rw [h1, h2]⟩
    · exact ⟨_, _, h1⟩
  clear hpost HPost HCut R0 hb1 B0
  by_cases hr : rest = []
  case neg =>
    have hcb : callB l = none := by rw [HQ'.out, if_neg (fun h => hr h.1)]
    have HF : Hid (∀ W, Below w.heap.size w W → CallM l w (.returned (.tuple #[.agg #[.int .u32 0, .int .u32 0, .slice none 0 0], .bool false])) W) := fun W h => HM.out W h hcb
    rw [decide_eq_false hr]
    obtain ⟨_, c0, c1, c2, f0, f1, f2⟩ := R1
    clear hcb HM HM2 HQ' HO hpc hr
    subst e2
    go_wp2
    refine bodyPost_ret (v := .tuple #[.agg #[.int .u32 0, .int .u32 0, .slice none 0 0], .bool false]) (by simp [results, Tryd.results28, go_sem, c0, c1, c2]) rfl ?_
    exact HF.out _ (((B1.setCell (p := ⟨w.heap.size, 0, none⟩) (Nat.le_refl _) _).setCell (p := ⟨w.heap.size, 1, none⟩) (Nat.le_refl _) _).setCell (p := ⟨w.heap.size, 2, none⟩) (Nat.le_refl _) _)
  rw [decide_eq_true hr]
  by_cases h8 : vs.length = 8
  case neg =>
    have hcb : callB l = none := by rw [HQ'.out, if_neg (fun h => h8 (by rw [hvl]; exact h.2))]
    have HF : Hid (∀ W, Below w.heap.size w W → CallM l w (.returned (.tuple #[.agg #[.int .u32 0, .int .u32 0, .slice none 0 0], .bool false])) W) := fun W h => HM.out W h hcb
    obtain ⟨_, c0, c1, c2, f0, f1, f2⟩ := R1
    have h8' : ¬ (vs.length : Int) = 8 := by omega
    clear hcb HM HM2 HQ' HO hpc hr hvl h8
    generalize vs.length = q at *
    subst e2
    go_wp2
    refine bodyPost_ret (v := .tuple #[.agg #[.int .u32 0, .int .u32 0, .slice none 0 0], .bool false]) (by simp [results, Tryd.results28, go_sem, c0, c1, c2]) rfl ?_
    exact HF.out _ (((B1.setCell (p := ⟨w.heap.size, 0, none⟩) (Nat.le_refl _) _).setCell (p := ⟨w.heap.size, 1, none⟩) (Nat.le_refl _) _).setCell (p := ⟨w.heap.size, 2, none⟩) (Nat.le_refl _) _)
  have hps : ps.length = 8 := by omega
  have HQ2 : Hid (callB l = (valsL ps).bind callOf) := by unfold Hid; rw [HQ'.out, if_pos ⟨hr, hps⟩]
  have HB1 : Hid (∀ k, k < 8 → valueL (ps.getD k []) = none → callB l = none) := fun k hk h => by rw [HQ2.out, vals_bad (by omega) h]; rfl
  have HB2 : Hid (∀ k ws v, valsL (ps.take k) = some ws → ws.length = k → k < 2 → valueL (ps.getD k []) = some v → 4294967295 < v → callB l = none) := fun k ws v h1 h2 h3 h4 h5 => by rw [HQ2.out]; exact call_bad (by omega) h3 h1 h2 h4 h5
  have HB3 : Hid (∀ k ws v, k < 8 → valsL (ps.take k) = some ws → valueL (ps.getD k []) = some v → valsL (ps.take (k + 1)) = some (ws ++ [v])) := fun k ws v h1 h2 h3 => by rw [valsL_snoc (by omega), h2, h3]; rfl
  have HB4 : Hid (∀ ws, valsL (ps.take 8) = some ws → ws.getD 0 0 ≤ 4294967295 → ws.getD 1 0 ≤ 4294967295 → callB l = some ⟨ws.getD 0 0, ws.getD 1 0, ws.drop 2⟩) := fun ws h1 h2 h3 => by
    rw [HQ2.out, ← List.take_of_length_le (show ps.length ≤ 8 by omega), h1, Option.bind_some]
    unfold callOf
    rw [if_pos ⟨h2, h3⟩]
  obtain ⟨G, cpG, eo, hG, hcG⟩ := hpc.at (by omega)
  have HPc : Hid (∀ k, k < 8 → ∃ g gc, W1.cell? ⟨G, k, none⟩ = some (.slice (some ⟨g, 0, none⟩) (ps.getD k []).length gc) ∧ g < W1.heap.size ∧ BytesAt W1 g 0 (ps.getD k []) ∧ isBytes (ps.getD k []) ∧ 0 < (ps.getD k []).length ∧ (ps.getD k []).length ≤ 1048576) := fun k hk => by
    obtain ⟨o1, o2, o3⟩ := HO.out k (by omega)
    obtain ⟨g, gc, e1, _, _⟩ := owns_at (hpc.pcs k (by omega)) o2
    obtain ⟨a, c, e3, hsrc⟩ := owns_src (hpc.pcs k (by omega))
    rw [e1] at e3
    simp at e3
    obtain ⟨rfl, rfl⟩ := e3
    rcases hsrc with h | ⟨b', o', h1, h2, h3⟩
    · rw [h] at o2; simp at o2
    · simp at h1
      obtain ⟨rfl, rfl⟩ := h1
      exact ⟨g, gc, by rw [hcG k (by omega), e1], h2, h3, o1, o2, o3⟩
  subst eo
  rw [h8]
  have C0 : CbS (W1.alloc (.cells #[.int .u32 0, .int .u32 0, .slice none 0 0] 34)) W1.heap.size [] (.slice none 0 0) := ⟨Box3.new W1 34 _ _ _, ⟨rfl, .inl ⟨rfl, rfl⟩⟩, fun x hx => by simp at hx, by simp, by simp⟩
  have B2 : Below W1.heap.size W1 (W1.alloc (.cells #[.int .u32 0, .int .u32 0, .slice none 0 0] 34)) := (Below.refl _ _).alloc (Nat.le_refl _) _
  have HV0 : Hid (valsL (ps.take 0) = some []) := rfl
  clear hpc hcG hvl e2 h8 HQ' HQ2 HO hr hB hn
  go_wp2_with fail
  generalize W1.alloc (.cells #[.int .u32 0, .int .u32 0, .slice none 0 0] 34) = W2 at *
  go_loopw [7] (fun i wr => ∃ (k : Nat) (ws : List Int) (v : Value), k ≤ 8 ∧ i = .int .i64 (k : Int) ∧ CbS wr W1.heap.size ws v ∧ Below W1.heap.size W1 wr ∧ Hid (valsL (ps.take k) = some ws) ∧ Hid (ws.length = k)) (fun i _ => 8 - (intOf i).toNat)
  case atStart => exact ⟨0, [], _, by omega, rfl, C0, B2, HV0, rfl⟩
  case round =>
    obtain ⟨k, ws, v, hk, rfl, hC, hBe, hW, hwl⟩ := hrel
    clear C0 B2 HV0
    by_cases hlt : k < 8
    · obtain ⟨g, gc, hcG, hg, hbA, hby, hp0, hpl⟩ := HPc.out k hlt
      have hcG' : wr.cell? ⟨G, k, none⟩ = some (.slice (some ⟨g, 0, none⟩) (ps.getD k []).length gc) := (hBe.cell (p := ⟨G, k, none⟩) hG).trans hcG
      have HV : Hid (Calls Tryd.prog 49 #[.slice (some ⟨g, 0, none⟩) (ps.getD k []).length gc] wr fun e w' => ValPost (ps.getD k []) e ∧ Below wr.heap.size wr w') := l2value_any g 0 gc (ps.getD k []) wr (fun i hi => (hBe.cell (p := ⟨g, _, none⟩) hg).trans (hbA i hi)) (Nat.lt_of_lt_of_le hg hBe.size) hby hp0 hpl
      have HU : Hid (∀ e, ValPost (ps.getD k []) e → (∃ v, valueL (ps.getD k []) = some v ∧ isU64 v ∧ e = .returned (.tuple #[.int .u64 v, .bool true])) ∨ (valueL (ps.getD k []) = none ∧ e = .returned (.tuple #[.int .u64 0, .bool false]))) := fun e h => h
      have HE1 := HB1.out k hlt
      have HE2 : Hid _ := fun x => HB2.out k ws x hW.out hwl.out
      have HE3 : Hid _ := fun x => HB3.out k ws x hlt hW.out
      clear HB1 HB2 HB3 HB4 HPc hcG hbA hby hp0 hpl hps
      have HW2 : Hid (∀ x, valsL (ps.take (k + 1)) = some (ws ++ [x]) → valsL (ps.take (k + 1)) = some (ws ++ [x])) := fun x h => h
      generalize ps.getD k [] = p at *
      have HE1' : Hid (valueL p = none → callB l = none) := HE1
      clear HE1
      obtain ⟨pl, hpl⟩ : ∃ m, p.length = m := ⟨_, rfl⟩
      rw [hpl] at HV hcG'
      clear hpl
      go_wp2_with fail
      refine HV.out.mono ?_
      rintro e W3 ⟨hv, hb3⟩
      have hC3 := hC.below hb3
      have BD : Below W1.heap.size W1 W3 := hBe.trans (hb3.mono hBe.size)
      have B3 : Below w.heap.size w W3 := B1.trans (BD.mono (Nat.le_of_lt hR))
      obtain ⟨_, c0, c1, c2, f0, f1, f2⟩ := R1.keep BD
      rcases HU.out e hv with ⟨x, hx, hU, rfl⟩ | ⟨hx, rfl⟩
      case inr =>
        have hcb := HE1'.out hx
        have HF : Hid (∀ W, Below w.heap.size w W → CallM l w (.returned (.tuple #[.agg #[.int .u32 0, .int .u32 0, .slice none 0 0], .bool false])) W) := fun W h => HM.out W h hcb
        clear hcb HM HM2 HE1' HE2 HE3 HW2 hC hC3 HU hv HV hx hW hwl
        go_wp2
        refine bodyPost_ret (v := .tuple #[.agg #[.int .u32 0, .int .u32 0, .slice none 0 0], .bool false]) (by simp [results, Tryd.results28, go_sem, c0, c1, c2]) rfl ?_
        exact HF.out _ (((B3.setCell (p := ⟨w.heap.size, 0, none⟩) (Nat.le_refl _) _).setCell (p := ⟨w.heap.size, 1, none⟩) (Nat.le_refl _) _).setCell (p := ⟨w.heap.size, 2, none⟩) (Nat.le_refl _) _)
      obtain ⟨x0, x1⟩ := hU
      by_cases hbad : k < 2 ∧ 4294967295 < x
      · have hcb := HE2.out x hbad.1 hx hbad.2
        have HF : Hid (∀ W, Below w.heap.size w W → CallM l w (.returned (.tuple #[.agg #[.int .u32 0, .int .u32 0, .slice none 0 0], .bool false])) W) := fun W h => HM.out W h hcb
        obtain ⟨k2, xb⟩ := hbad
        clear hcb HM HM2 HE1' HE2 HE3 HW2 hC hC3 HU hv HV hx hW hwl
        go_wp2
        refine bodyPost_ret (v := .tuple #[.agg #[.int .u32 0, .int .u32 0, .slice none 0 0], .bool false]) (by simp [results, Tryd.results28, go_sem, c0, c1, c2]) rfl ?_
        exact HF.out _ (((B3.setCell (p := ⟨w.heap.size, 0, none⟩) (Nat.le_refl _) _).setCell (p := ⟨w.heap.size, 1, none⟩) (Nat.le_refl _) _).setCell (p := ⟨w.heap.size, 2, none⟩) (Nat.le_refl _) _)
      have hval := HE3.out x hx
      have HVal : Hid (valsL (ps.take (k + 1)) = some (ws ++ [x])) := hval
      have HLen : Hid ((ws ++ [x]).length = k + 1) := by have := hwl.out; unfold Hid; simp; omega
      clear hval HM HM2 HE1' HE2 HE3 HW2 HU hv HV hx hC hW
      have hwk := hwl.out
      by_cases k0 : k = 0
      · subst k0
        obtain rfl : ws = [] := List.length_eq_zero_iff.1 hwk
        have xb : x ≤ 4294967295 := by omega
        have hC4 := hC3.first ⟨x0, x1⟩ xb
        have BD4 : Below W1.heap.size W1 (W3.setCell ⟨W1.heap.size, 0, none⟩ (.int .u32 x)) := BD.setCell (p := ⟨W1.heap.size, 0, none⟩) (Nat.le_refl _) _
        obtain ⟨_, d0, d1, d2, g0, g1, g2⟩ := hC3.box
        have hC5 : Hid (CbS (W3.setCell ⟨W1.heap.size, 0, none⟩ (.int .u32 x)) W1.heap.size ([] ++ [x]) v) := hC4
        clear hC3 hC4 hwk hwl c0 c1 c2 f0 f1 f2 B3
        go_wp2
        go_roundw
        case rel => exact ⟨1, [] ++ [x], v, by omega, rfl, hC5.out, BD4, HVal, HLen⟩
        case measure => simp [intOf]
      by_cases k1 : k = 1
      · subst k1
        obtain ⟨y, rfl⟩ : ∃ y, ws = [y] := List.length_eq_one_iff.1 hwk
        have xb : x ≤ 4294967295 := by omega
        have hC4 := hC3.second ⟨x0, x1⟩ xb
        have BD4 : Below W1.heap.size W1 (W3.setCell ⟨W1.heap.size, 1, none⟩ (.int .u32 x)) := BD.setCell (p := ⟨W1.heap.size, 1, none⟩) (Nat.le_refl _) _
        obtain ⟨_, d0, d1, d2, g0, g1, g2⟩ := hC3.box
        have hC5 : Hid (CbS (W3.setCell ⟨W1.heap.size, 1, none⟩ (.int .u32 x)) W1.heap.size ([y] ++ [x]) v) := hC4
        clear hC3 hC4 hwk hwl c0 c1 c2 f0 f1 f2 B3 d0
        go_wp2
        go_roundw
        case rel => exact ⟨2, [y] ++ [x], v, by omega, rfl, hC5.out, BD4, HVal, HLen⟩
        case measure => simp [intOf]
      have hw2 : 2 ≤ ws.length := by omega
      have hul : (ws.drop 2).length ≤ 6 := by rw [List.length_drop]; omega
      have HMo : Hid (∀ o v' W4, (W3.alloc o).grownBy W4 v.ownBlock → ownsU W4 (W1.heap.size + 1) v' (ws.drop 2 ++ [x]) → CbS (W4.setCell ⟨W1.heap.size, 2, none⟩ v') W1.heap.size (ws ++ [x]) v') := fun o v' W4 h1 h2 => hC3.more hw2 ⟨x0, x1⟩ h1 h2
      have hO3 := hC3.own
      obtain ⟨hDl, d0, d1, d2, g0, g1, g2⟩ := hC3.box
      obtain ⟨av, cv, ev, _⟩ := ownsU_src hO3
      generalize ws.drop 2 = us at *
      subst ev
      clear hC3 hwk hwl hw2 c0 c1 c2 f0 f1 f2 B3 d0 d1
      go_wp2_with (at_builtin; refine wpList_append_own _ rfl (.tmp 57) (.tmp 59) 32 rfl (W1.heap.size + 1) 44 i0 (.int .u64 0) 1 8 Tryd.underlying32 hi hz0 hz1 hz2 rfl (by decide) _ _ _ rfl (hO3.alloc _) ⟨W3.heap.size, 0, none⟩ 1 1 [.int .u64 x] rfl rfl (cell_one_new _ _ _) (ints_oneCell .u64 [x]) ?c3 ?c4 ?c5 ?_)
      case c3 => unfold maxLen; omega
      case c4 => omega
      case c5 => first | omega | (simp; omega)
      intro v1 W4 hown1 hgrow1 _
      have ho1 : ownsU W4 (W1.heap.size + 1) v1 (us ++ [x]) := by simpa [ownsU] using hown1
      have hC4 := HMo.out _ v1 W4 hgrow1 ho1
      have BD4 : Below W1.heap.size W1 W4 := (BD.alloc BD.size _).grown hgrow1 (by have := BD.size; simp; omega) (fun q hq => by have := (hO3.lt q hq).1; omega)
      have hDB : Below (W1.heap.size + 1) W3 W4 := ((Below.refl _ _).alloc hDl _).grown hgrow1 (by simp; omega) (fun q hq => (hO3.lt q hq).1)
      have d2' : W4.cell? ⟨W1.heap.size, 2, none⟩ = some (.slice av us.length cv) := (hDB.cell (p := ⟨W1.heap.size, 2, none⟩) (Nat.lt_succ_self _)).trans d2
      have g2' : W4.frozen? ⟨W1.heap.size, 2, none⟩ = false := (hDB.frozen (p := ⟨W1.heap.size, 2, none⟩) (Nat.lt_succ_self _)).trans g2
      have BD5 := BD4.setCell (p := ⟨W1.heap.size, 2, none⟩) (Nat.le_refl _) v1
      obtain ⟨av1, cv1, ev1, _⟩ := ownsU_src ho1
      have hC5 : Hid (CbS (W4.setCell ⟨W1.heap.size, 2, none⟩ v1) W1.heap.size (ws ++ [x]) v1) := hC4
      generalize (us ++ [x]).length = ul1 at ev1
      subst ev1
      clear hown1 hgrow1 ho1 hC4 HMo hO3 d2 g2 hDB BD4
      go_wp2
      go_roundw
      case rel => exact ⟨k + 1, ws ++ [x], _, by omega, by go_num, hC5.out, BD5, HVal, HLen⟩
      case measure => simp [intOf]; omega
    · obtain rfl : k = 8 := by omega
      obtain ⟨_, c0, c1, c2, f0, f1, f2⟩ := R1.keep hBe
      have hcb := HB4.out ws hW.out hC.b0 hC.b1
      have BF : Below w.heap.size w wr := B1.trans (hBe.mono (Nat.le_of_lt hR))
      have HF : Hid (CallM l w (.returned (.tuple #[callV ⟨ws.getD 0 0, ws.getD 1 0, ws.drop 2⟩ v, .bool true])) (((wr.setCell ⟨w.heap.size, 0, none⟩ (.int .u32 (ws.getD 0 0))).setCell ⟨w.heap.size, 1, none⟩ (.int .u32 (ws.getD 1 0))).setCell ⟨w.heap.size, 2, none⟩ v)) := by
        refine HM2.out _ _ v (((BF.setCell (p := ⟨w.heap.size, 0, none⟩) (Nat.le_refl _) _).setCell (p := ⟨w.heap.size, 1, none⟩) (Nat.le_refl _) _).setCell (p := ⟨w.heap.size, 2, none⟩) (Nat.le_refl _) _) hcb ?_
        have hne : ∀ q, v.ownBlock = some q → q ≠ w.heap.size := fun q hq => by have := (hC.own.lt q hq).1; omega
        exact ownsU_mono (ownsU_set (ownsU_set (ownsU_set hC.own hne) hne) hne) (by omega)
      obtain ⟨av, cv, ev, _⟩ := ownsU_src hC.own
      have hX := hC.box
      clear hcb HM HM2 HB1 HB2 HB3 HB4 HPc hW hwl hC
      subst ev
      generalize ws.getD 0 0 = x0 at *
      generalize ws.getD 1 0 = x1 at *
      generalize ws.drop 2 = x2 at *
      obtain ⟨_, d0, d1, d2, g0, g1, g2⟩ := hX
      generalize x2.length = x3 at *
      go_wp2
      refine bodyPost_ret (v := .tuple #[.agg #[.int .u32 x0, .int .u32 x1, .slice av x3 cv], .bool true]) (by simp [results, Tryd.results28, go_sem, c0, c1, c2]) rfl ?_
      exact HF.out
end Go.Proofs.YtjbbiailhpkdeaaDoor
