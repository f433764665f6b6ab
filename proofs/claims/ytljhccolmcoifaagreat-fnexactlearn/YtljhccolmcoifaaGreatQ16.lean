/-
  LpgH, MinT, MathI, MinX
-/
import Derived.Test.YtljhccolmcoifaaGreatQ15
import Derived.RangeFuncNested
import Derived.RangeFuncBound
import Derived.RangeFuncLeaves
import Derived.RangeFuncBox
import Derived.Shelf.Abstract
import Derived.WalkKit
import Derived.OwnWalkIn
import Derived.TacticsInMore
import Derived.LoopNIn
import Derived.LoopIn
import Derived.Maps.RangeRun
import Derived.Test.YtljhccolmcoifaaGreatQ14
import Derived.Test.YtljhccolmcoifaaGreatQ13
import Derived.Test.YtljhccolmcoifaaGreatQ07
import Derived.Deep.RegionLaw
namespace Go.Proofs.YtljhccolmcoifaaGreat
open Go.RowKit Go.Shelf
set_option linter.unusedVariables false
set_option linter.unusedSimpArgs false

attribute [local go_sem] Oper.semAt_some

/-- what a round that goes on keeps -/
def KpS (n₀ : Nat) (W W' : World) : Prop := Below n₀ W W' ∧ KeepsWalks W W'
theorem KpS.trans {n₀ : Nat} {a b c : World} (h : KpS n₀ a b) (k : KpS n₀ b c) : KpS n₀ a c := ⟨h.1.trans k.1, h.2.trans k.2⟩
theorem KpS.refl (n₀ : Nat) (a : World) : KpS n₀ a a := ⟨Below.refl _ _, KeepsWalks.refl _⟩

/-- how much of the map is still to come -/
def itLeft (w : World) (r n : Nat) : Nat := match w.heap[r]? with | some (.mapIter _ _ seen _) => n - seen.size | _ => 0
def keyJ (os : List GEl) (j : Nat) : Id2 := (os.getD j ((0, 0), [], undef)).1
/-- the walk over the map -/
structure ItS (w : World) (r m : Nat) (os : List GEl) (seen : Array Nat) : Prop where
  it : w.heap[r]? = some (.mapIter (some m) os.length seen os.length)
  mp : w.heap[m]? = some (.map (entsI (kvG os)) os.length)
  nd : seen.toList.Nodup
  lt : ∀ j ∈ seen.toList, j < os.length
theorem ItS.keep {w w' : World} {r m : Nat} {os : List GEl} {seen : Array Nat} (h : ItS w r m os seen) (hk : KeepsWalks w w') : ItS w' r m os seen :=
  ⟨hk.same r _ h.it rfl, hk.same m _ h.mp rfl, h.nd, h.lt⟩
theorem ents_mem {os : List GEl} {e : MapEntry} (h : e ∈ (entsI (kvG os)).toList) : e.born < os.length ∧ e.key = idV (keyJ os e.born) := by
  obtain ⟨q, hq⟩ := List.mem_iff_getElem?.1 h
  rw [Array.getElem?_toList, entsI_get] at hq
  cases hk : (kvG os)[q]? with
  | none => rw [hk] at hq; cases hq
  | some p =>
    rw [hk] at hq
    simp at hq; subst hq
    have hl : q < os.length := by have := (List.getElem?_eq_some_iff.1 hk).1; simpa [kvG] using this
    refine ⟨hl, ?_⟩
    simp [kvG, List.getElem?_eq_getElem hl] at hk
    simp [keyJ, List.getD_eq_getElem?_getD, List.getElem?_eq_getElem hl, ← hk]
theorem ItS.next {w : World} {r m : Nat} {os : List GEl} {seen : Array Nat} (h : ItS w r m os seen) (hrm : r ≠ m) (ty : TypeId) :
    ((∀ j, j < os.length → j ∈ seen.toList) ∧ (Instr.next (.pointer (some ⟨r, 0, none⟩)) false ty).run Tryz.prog w = .ok (.tuple #[.bool false]) w) ∨
    ∃ (j : Nat) (v : Value) (w1 : World), j < os.length ∧ (Instr.next (.pointer (some ⟨r, 0, none⟩)) false ty).run Tryz.prog w = .ok (.tuple #[.bool true, idV (keyJ os j), v]) w1 ∧ ItS w1 r m os (seen.push j) ∧ seen.size < os.length ∧ w.grownBy w1 (some r) ∧ w1.heap.size = w.heap.size ∧ (Instr.entry (.pointer (some ⟨r, 0, none⟩))).run Tryz.prog w1 = .ok (.tuple #[idV (keyJ os j), v]) w1 := by
  have hold : ∀ x ∈ (entsI (kvG os)).toList, x.born < os.length := fun x hx => (ents_mem hx).1
  have hbn : ((entsI (kvG os)).toList.map (·.born)).Nodup := by
    have e : (entsI (kvG os)).toList.map (·.born) = List.range (kvG os).length := by
      apply List.ext_getElem?
      intro j
      rw [List.getElem?_map, Array.getElem?_toList, entsI_get]
      by_cases hj : j < (kvG os).length
      · simp [hj]
      · rw [List.getElem?_eq_none (Nat.le_of_not_lt hj), List.getElem?_eq_none (show (List.range (kvG os).length).length ≤ j by simp; omega)]; rfl
    rw [e]; exact List.nodup_range
  rcases run_next_at (P := Tryz.prog) w ty r m os.length os.length seen (entsI (kvG os)) os.length h.it h.mp hold (Nat.le_refl _) with ⟨h1, h2⟩ | ⟨e, he, w1, hw1, h2⟩
  · refine .inl ⟨fun j hj => ?_, h2⟩
    have h3 : leftOf (entsI (kvG os)) seen = #[] := Array.eq_empty_of_size_eq_zero h1
    unfold leftOf at h3
    rw [Array.filter_eq_empty_iff] at h3
    have hkj : j < (kvG os).length := by simpa [kvG] using hj
    have h4 := h3 (⟨idV ((kvG os)[j]).1, ((kvG os)[j]).2, j⟩ : MapEntry) (by
      rw [Array.mem_iff_getElem?]
      exact ⟨j, by rw [entsI_get, List.getElem?_eq_getElem hkj]; rfl⟩)
    simp at h4
    simpa using h4
  · obtain ⟨hm1, hm2⟩ := mem_left he
    obtain ⟨g1, g2⟩ := ents_mem hm1
    have hns : e.born ∉ seen.toList := by simpa using hm2
    have hw1h : w1.heap = w.heap := by rcases hw1 with rfl | rfl <;> rfl
    have hrl : r < w.heap.size := (Array.getElem?_eq_some_iff.1 h.it).1
    have hit' : (ChangeMaps.setBlock w1 r (.mapIter (some m) os.length (seen.push e.born) os.length)).heap[r]? = some (.mapIter (some m) os.length (seen.push e.born) os.length) := by
      simp [ChangeMaps.setBlock, hw1h, hrl]
    have hoth : ∀ b, b ≠ r → (ChangeMaps.setBlock w1 r (.mapIter (some m) os.length (seen.push e.born) os.length)).heap[b]? = w.heap[b]? := fun b hb => by
      simp only [ChangeMaps.setBlock, hw1h, Array.getElem?_setIfInBounds]; rw [if_neg (fun e => hb e.symm)]
    have hS' : ItS (ChangeMaps.setBlock w1 r (.mapIter (some m) os.length (seen.push e.born) os.length)) r m os (seen.push e.born) := by
      refine ⟨hit', (hoth m (fun e => hrm e.symm)).trans h.mp, ?_, fun j hj => ?_⟩
      · rw [Array.toList_push, List.nodup_append]
        refine ⟨h.nd, by simp, fun a ha b hb e' => ?_⟩
        simp at hb; subst hb; subst e'; exact hns ha
      · rw [Array.toList_push, List.mem_append, List.mem_singleton] at hj
        rcases hj with hj | rfl
        · exact h.lt j hj
        · exact g1
    refine .inr ⟨e.born, e.val, _, g1, by rw [h2, g2], hS', ?_, ?_, by simp [ChangeMaps.setBlock, hw1h], ?_⟩
    · have := nodup_len (cs := List.range os.length) hS'.nd (fun j hj => List.mem_range.2 (hS'.lt j hj))
      simp at this; omega
    · refine ⟨?_, ?_, ?_, by simp [ChangeMaps.setBlock, hw1h], fun b hb hne => hoth b (fun e => hne (by rw [e]))⟩ <;> (rcases hw1 with rfl | rfl <;> rfl)
    · rw [run_entry_at _ r m os.length seen (entsI (kvG os)) os.length e hit' hS'.mp hm1 hbn, g2]

def seenK (os : List GEl) (seen : Array Nat) : List Id2 := seen.toList.map (keyJ os)
theorem seenK_push (os : List GEl) (seen : Array Nat) (j : Nat) : seenK os (seen.push j) = seenK os seen ++ [keyJ os j] := by simp [seenK]
theorem seenK_all {os : List GEl} {seen : Array Nat} (h1 : ∀ j, j < os.length → j ∈ seen.toList) (h2 : ∀ j ∈ seen.toList, j < os.length) (i : Id2) : i ∈ seenK os seen ↔ ∃ p ∈ os, p.1 = i := by
  unfold seenK
  rw [List.mem_map]
  constructor
  · rintro ⟨j, hj, rfl⟩
    have := h2 j hj
    refine ⟨os[j], List.getElem_mem this, ?_⟩
    simp [keyJ, List.getD_eq_getElem?_getD, List.getElem?_eq_getElem this]
  · rintro ⟨p, hp, rfl⟩
    obtain ⟨j, hj, rfl⟩ := List.mem_iff_getElem.1 hp
    exact ⟨j, h1 j hj, by simp [keyJ, List.getD_eq_getElem?_getD, List.getElem?_eq_getElem hj]⟩
theorem run_rangeM (m : Nat) (es : Array MapEntry) (c : Nat) (w : World) (h : w.heap[m]? = some (.map es c)) : (Instr.range 52 (.map (some m))).run Tryz.prog w = .ok (.pointer (some ⟨w.heap.size, 0, none⟩)) (w.alloc (.mapIter (some m) c #[] c)) := by
  simp [Instr.range, run_underlying Tryz.underlying52, MapKept.run_getObj_map h, go_sem, Result.andThen]

set_option maxRecDepth 100000 in
set_option maxHeartbeats 4000000 in
theorem keys1_in (F : Fence) (n : Nat) (hf : F.fn 53) (hro : F.round = none) (hn : 1 ≤ n) (l Bm m n₀ : Nat) (os : List GEl) (J Jx : List Id2 → World → Prop)
    (hY : ∀ pre x W, J pre W → pre.length < os.length → YieldAt F (n - 1) Tryz.prog l #[idV x] W fun e W' =>
      (e = .returned (.bool true) ∧ J (pre ++ [x]) W' ∧ KpS n₀ W W') ∨ (e = .returned (.bool false) ∧ Jx (pre ++ [x]) W'))
    (W : World) (hJ : AbidesFrom W.heap.size J) (hBm : W.cell? ⟨Bm, 0, none⟩ = some (.map (some m))) (hm : W.heap[m]? = some (.map (entsI (kvG os)) os.length)) (h0 : J [] W) :
    CallsIn F n Tryz.prog 53 #[.func (.yield l) #[] #[], .pointer (some ⟨Bm, 0, none⟩)] W fun e W' => (∃ v, e = .returned v) ∧
      ((∃ ss, ((∀ i, i ∈ ss ↔ ∃ p ∈ os, p.1 = i) ∧ ss.length ≤ os.length) ∧ J ss W') ∨ (∃ pre, True ∧ Jx pre W')) := by
  have hrm : W.heap.size ≠ m := by have := (Array.getElem?_eq_some_iff.1 hm).1; omega
  have hrg := run_rangeM m _ _ W hm
  have h1 : ItS (W.alloc (.mapIter (some m) os.length #[] os.length)) W.heap.size m os #[] :=
    ⟨heap_alloc_new W _, (Below.heap_alloc _ _ m (by have := (Array.getElem?_eq_some_iff.1 hm).1; omega)).trans hm, by simp, by simp⟩
  have hJ1 : J [] (W.alloc (.mapIter (some m) os.length #[] os.length)) := hJ [] W _ none h0 (World.grownBy_alloc W _ none) (fun r e => by cases e)
  refine callsIn_of_wp Tryz.func53 rfl hf ?_ hro
  simp only [Tryz.ntmps53, List.size_toArray, List.length_cons, List.length_nil, Nat.reduceAdd, Nat.reduceSub, Array.replicate_succ, Array.replicate_zero, List.push_toArray, List.append_toArray, List.nil_append, List.cons_append]
  gi_wp2
  generalize W.alloc (.mapIter (some m) os.length #[] os.length) = W1 at *
  gi_loopw [3] (fun _ wr => ∃ seen : Array Nat, ItS wr W.heap.size m os seen ∧ J (seenK os seen) wr) (fun _ wr => itLeft wr W.heap.size os.length)
  case atStart => exact ⟨#[], h1, hJ1⟩
  case round =>
    clear h1 hJ1
    obtain ⟨seen, hI, hJs⟩ := hrel
    rcases hI.next hrm 0 with ⟨g1, g2⟩ | ⟨j, v, w1, g1, g2, g3, g4, g5, g6, g7⟩
    · gi_wp2
      go_end0
      exact ⟨⟨_, rfl⟩, .inl ⟨_, ⟨seenK_all g1 hI.lt, by
        have := nodup_len (cs := List.range os.length) hI.nd (fun j hj => List.mem_range.2 (hI.lt j hj))
        simp [seenK] at this ⊢; omega⟩, hJs⟩⟩
    · have hJ2 : J (seenK os seen) w1 := hJ _ wr w1 (some W.heap.size) hJs g5 (fun r e => by cases e; exact ⟨Nat.le_refl _, _, hI.it, rfl⟩)
      have hJ3 : J (seenK os seen) (w1.alloc (.cells #[.int .u32 (keyJ os j).1, .int .u32 (keyJ os j).2] 59)) := hJ _ w1 _ none hJ2 (World.grownBy_alloc w1 _ none) (fun r e => by cases e)
      have hI3 := g3.keep (KeepsWalks.alloc w1 (.cells #[.int .u32 (keyJ os j).1, .int .u32 (keyJ os j).2] 59))
      obtain ⟨fn, tmps, assign, body, hy, hR⟩ := hY _ (keyJ os j) _ hJ3 (by simp [seenK]; omega)
      have HM : Hid (itLeft wr W.heap.size os.length = os.length - seen.size) := by show _ = _; simp [itLeft, hI.it]
      dsimp only [idV] at hy g2 g7
      clear g3 hI hJs hJ2 hJ3 g5
      gi_wp2
      refine hR.mono ?_
      rintro e W3 (⟨rfl, hJ4, hk4⟩ | ⟨rfl, hJx4⟩)
      · gi_wp2
        have hI4 := hI3.keep hk4.2
        go_roundw
        case rel => exact ⟨seen.push j, hI4, by rw [seenK_push]; exact hJ4⟩
        case measure => rw [HM.out]; simp [itLeft, hI4.it]; omega
      · gi_wp2
        refine bodyPost_ret (results_none rfl _ _ _) rfl ?_
        exact ⟨⟨_, rfl⟩, .inr ⟨_, trivial, hJx4⟩⟩

theorem keys_stops (F : Fence) (n : Nat) (hf : F.fn 53) (hro : F.round = none) (hn : 1 ≤ n) (Bm m n₀ : Nat) (os : List GEl) (w : World) (hBm : w.cell? ⟨Bm, 0, none⟩ = some (.map (some m))) (hm : w.heap[m]? = some (.map (entsI (kvG os)) os.length)) :
    SeqStopsK F n Tryz.prog 53 #[.pointer (some ⟨Bm, 0, none⟩)] (fun x : Id2 => #[idV x]) (KpS n₀) (fun ss => (∀ i, i ∈ ss ↔ ∃ p ∈ os, p.1 = i) ∧ ss.length ≤ os.length) (fun _ => True) os.length w := fun l J Jx W hW hJ _ hY h0 =>
  keys1_in F n hf hro hn l Bm m n₀ os J Jx hY W hJ (cell_step hW hBm) ((hW.block m (Array.getElem?_eq_some_iff.1 hm).1).trans hm) h0

set_option maxHeartbeats 1000000 in
theorem keys_any (m : Option Nat) (w : World) :
    Calls Tryz.prog 26 #[.map m] w fun e w' => e = .returned (.func (.func 53) #[] #[.pointer (some ⟨w.heap.size, 0, none⟩)]) ∧ w' = w.alloc (.cells #[.map m] 52) := by
  go_enter Tryz.func26, Tryz.ntmps26
  go_wp2
  go_ret
  exact ⟨rfl, rfl⟩
end Go.Proofs.YtljhccolmcoifaaGreat
namespace Go.Proofs.YtljhccolmcoifaaGreat
open Go.RowKit
set_option linter.unusedVariables false

def jV : Option K → Value
  | some c => .tuple #[conV c, .bool true]
  | none => .tuple #[conV ⟨0, 0, 0⟩, .bool false]
def bV : Option (Nat × Nat) → Value
  | some (lo, hi) => .tuple #[.int .u64 (lo : Int), .int .u64 (hi : Int), .bool true]
  | none => .tuple #[.int .u64 0, .int .u64 0, .bool false]
theorem blkV_eq (c : K) : blkV c = bV (blockK c) := by
  unfold blkV bV
  cases blockK c <;> rfl
theorem bV_none : bV none = .tuple #[.int .u64 0, .int .u64 0, .bool false] := rfl
theorem bV_some (lo hi : Nat) : bV (some (lo, hi)) = .tuple #[.int .u64 (lo : Int), .int .u64 (hi : Int), .bool true] := rfl
/-- they join by leaving out one bit -/
def OneBit (c d : K) : Prop := c.kind = 1 ∧ d.kind = 1 ∧ c.a = d.a ∧ popN (c.b ^^^ d.b) 64 = 1
theorem joinK_bit {m x y k : Nat} (hk : k < 64) (h : x ^^^ y = 2 ^ k) : joinK ⟨1, m, x⟩ ⟨1, m, y⟩ = some (newMask (m &&& inv (2 ^ k)) (x &&& inv (2 ^ k))) := by
  unfold joinK
  rw [if_pos ⟨rfl, rfl, rfl, by show popN (x ^^^ y) 64 = 1; rw [h]; exact popN_pow hk⟩]
  show some (newMask (m &&& inv (x ^^^ y)) (x &&& inv (x ^^^ y))) = _
  rw [h]
theorem joinK_n1 {c d : K} (h : ¬ OneBit c d) (hb : blockK c = none) : joinK c d = none := by
  unfold OneBit at h
  unfold joinK
  rw [if_neg h, hb]
theorem joinK_n2 {c d : K} (h : ¬ OneBit c d) (hb : blockK d = none) : joinK c d = none := by
  unfold OneBit at h
  unfold joinK
  rw [if_neg h, hb]
  cases blockK c <;> rfl
theorem joinK_bb {c d : K} (h : ¬ OneBit c d) {l1 h1 l2 h2 : Nat} (e1 : blockK c = some (l1, h1)) (e2 : blockK d = some (l2, h2)) : joinK c d = if l2 ≤ h1 + 1 ∧ l1 ≤ h2 + 1 then some (newRange (min l1 l2) (max h1 h2)) else none := by
  unfold OneBit at h
  unfold joinK
  rw [if_neg h, e1, e2]
theorem u64_xor' (a b : Nat) (ha : a < 18446744073709551616) (hb : b < 18446744073709551616) : bits .xor .u64 (a : Int) (b : Int) = ((a ^^^ b : Nat) : Int) := bits_xor_u64_nat a b ha hb
theorem low_one {k : Nat} (hk : k < 64) : low k + 1 = 2 ^ k := by
  unfold low
  have := Nat.two_pow_pos k
  omega

theorem mtc (h l : Nat) (hh : h ≤ 18446744073709551615) (hA : ¬ h + 1 < l) : (h = 18446744073709551615 ∧ ((h : Int) != 18446744073709551615) = false) ∨ (h ≠ 18446744073709551615 ∧ ((h : Int) != 18446744073709551615) = true ∧ ∃ s : Int, IntKind.u64.wrap ((h : Int) + 1) = s ∧ ¬ s < l) := by
  by_cases g : h = 18446744073709551615
  · exact .inl ⟨g, by rw [bne_eq_false_iff_eq]; omega⟩
  · exact .inr ⟨g, by rw [bne_iff_ne]; omega, _, rfl, by simp only [IntKind.wrap_u64]; omega⟩

end Go.Proofs.YtljhccolmcoifaaGreat
namespace Go.Proofs.YtljhccolmcoifaaGreat
set_option linter.unusedVariables false

/-- where the first k conditions differ: nowhere, or at just one place -/
def DiffU (r s : Ru) (k : Nat) (at0 : Int) : Prop :=
  (at0 = -1 ∧ ∀ j, j < k → r.getD j K.zero = s.getD j K.zero) ∨ ∃ p : Nat, p < k ∧ at0 = p ∧ r.getD p K.zero ≠ s.getD p K.zero ∧ ∀ j, j < k → j ≠ p → r.getD j K.zero = s.getD j K.zero
theorem DiffU.zero (r s : Ru) : DiffU r s 0 (-1) := .inl ⟨rfl, fun j hj => by omega⟩
theorem DiffU.cases {r s : Ru} {k : Nat} {a : Int} (h : DiffU r s k a) : a = -1 ∨ ∃ p : Nat, a = p ∧ p < k := by
  rcases h with ⟨h, _⟩ | ⟨p, h1, h2, _⟩
  · exact .inl h
  · exact .inr ⟨p, h2, h1⟩
theorem DiffU.same {r s : Ru} {k : Nat} {a : Int} (h : DiffU r s k a) (e : r.getD k K.zero = s.getD k K.zero) : DiffU r s (k + 1) a := by
  rcases h with ⟨h1, h2⟩ | ⟨p, h1, h2, h3, h4⟩
  · refine .inl ⟨h1, fun j hj => ?_⟩
    by_cases g : j = k
    · rw [g]; exact e
    · exact h2 j (by omega)
  · refine .inr ⟨p, by omega, h2, h3, fun j hj hne => ?_⟩
    by_cases g : j = k
    · rw [g]; exact e
    · exact h4 j (by omega) hne
theorem DiffU.here {r s : Ru} {k : Nat} (h : DiffU r s k (-1)) (e : r.getD k K.zero ≠ s.getD k K.zero) : DiffU r s (k + 1) k := by
  rcases h with ⟨h1, h2⟩ | ⟨p, h1, h2, h3, h4⟩
  · exact .inr ⟨k, by omega, rfl, e, fun j hj hne => h2 j (by omega)⟩
  · omega
theorem DiffU.twice {r s : Ru} {k p : Nat} (h : DiffU r s k p) (hk : k < 6) (e : r.getD k K.zero ≠ s.getD k K.zero) : NoJoin r s := by
  rcases h with ⟨h1, h2⟩ | ⟨p', h1, h2, h3, h4⟩
  · omega
  · rintro x ⟨i, c, ⟨g1, g2, g3, g4⟩, rfl⟩
    by_cases q : k = i
    · subst q
      exact h3 (g3 p' (by omega) (by omega))
    · exact e (g3 k hk q)
theorem DiffU.never {r s : Ru} (h : DiffU r s 6 (-1)) : NoJoin r s := by
  rcases h with ⟨h1, h2⟩ | ⟨p', h1, h2, h3, h4⟩
  · rintro x ⟨i, c, ⟨g1, g2, g3, g4⟩, rfl⟩
    exact g2 (h2 i g1)
  · omega
theorem DiffU.no {r s : Ru} {p : Nat} (h : DiffU r s 6 p) (e : joinK (r.getD p K.zero) (s.getD p K.zero) = none) : NoJoin r s := by
  rcases h with ⟨h1, h2⟩ | ⟨p', h1, h2, h3, h4⟩
  · omega
  · have : p = p' := by omega
    subst this
    rintro x ⟨i, c, ⟨g1, g2, g3, g4⟩, rfl⟩
    by_cases q : i = p
    · subst q; rw [e] at g4; cases g4
    · exact g2 (h4 i g1 q)
theorem DiffU.yes {r s : Ru} {p : Nat} {c : K} (h : DiffU r s 6 p) (e : joinK (r.getD p K.zero) (s.getD p K.zero) = some c) : JoinR r s (r.set p c) := by
  rcases h with ⟨h1, h2⟩ | ⟨p', h1, h2, h3, h4⟩
  · omega
  · have : p = p' := by omega
    subst this
    exact ⟨p, c, ⟨h1, h3, h4, e⟩, rfl⟩
theorem set_take {r : Ru} {p i : Nat} {c : K} (hi : i < r.length) : (r.set p c).take (i + 1) = (r.set p c).take i ++ [if i = p then c else r.getD i K.zero] := by
  rw [List.take_add_one, List.getElem?_set]
  congr 1
  by_cases e : p = i
  · subst e; simp [hi]
  · rw [if_neg e, if_neg (fun q => e q.symm), List.getElem?_eq_getElem hi, List.getD_eq_getElem?_getD, List.getElem?_eq_getElem hi]; rfl
end Go.Proofs.YtljhccolmcoifaaGreat
namespace Go.Proofs.YtljhccolmcoifaaGreat
open Go.RowKit
set_option linter.unusedVariables false

/-- a box with a row behind it, both in memory from w on -/
structure BR (t s : Nat) (w wr : World) (v : Value) (n : Nat) (xs : List Value) : Prop where
  b : Below w.heap.size w wr
  c : wr.cell? ⟨w.heap.size, 0, none⟩ = some v
  f : wr.frozen? ⟨w.heap.size, 0, none⟩ = false
  own : wr.ownsRow (w.heap.size + 1) t s v n xs
theorem cell_ltM {w : World} {p : Addr} {v : Value} (h : w.cell? p = some v) : p.block < w.heap.size := by
  by_cases e : p.block < w.heap.size
  · exact e
  · simp only [World.cell?] at h
    rw [Array.getElem?_eq_none (by omega)] at h; cases h
theorem row_blockM {w w1 : World} {base t s n : Nat} {v : Value} {xs : List Value} (h : w.ownsRow base t s v n xs) (e : ∀ q, v.ownBlock = some q → w1.heap[q]? = w.heap[q]?) : w1.ownsRow base t s v n xs := by
  obtain ⟨h0, h | ⟨g, cap, cur, rfl, hb, hg, hr⟩⟩ := h
  · exact ⟨h0, .inl h⟩
  · exact ⟨h0, .inr ⟨g, cap, cur, rfl, hb, (e g (by simp [Value.ownBlock])).trans hg, hr⟩⟩
theorem BR.keep {t s : Nat} {w wr w1 : World} {v : Value} {n : Nat} {xs : List Value} (h : BR t s w wr v n xs) (hb : Below wr.heap.size wr w1) : BR t s w w1 v n xs :=
  have h1 := cell_ltM h.c
  ⟨below_step hb h.b, cell_step hb h.c, (hb.frozen (p := ⟨w.heap.size, 0, none⟩) h1).trans h.f, World.ownsRow.kept (row := none) h.own ⟨hb.os, hb.tape, hb.output, hb.size, fun k hk _ => hb.block k hk⟩ (by cases v.ownBlock <;> simp)⟩
theorem BR.new (t s : Nat) (w : World) (T : Nat) : BR t s w (w.alloc (.cells #[.slice none 0 0] T)) (.slice none 0 0) 0 [] :=
  ⟨(Below.refl _ _).alloc (Nat.le_refl _) _, by simp, by simp, World.ownsRow_nil _ _ _ _⟩
theorem BR.next {t s : Nat} {w wr w1 : World} {v : Value} {n m gg cap : Nat} {xs ys : List Value} (h : BR t s w wr v n xs) (hown : w1.ownsRow (w.heap.size + 1) t s (.slice (some ⟨gg, 0, none⟩) m cap) m ys) (hg : wr.grownBy w1 v.ownBlock) :
    w1.cell? ⟨w.heap.size, 0, none⟩ = some v ∧ w1.frozen? ⟨w.heap.size, 0, none⟩ = false ∧ BR t s w (w1.setCell ⟨w.heap.size, 0, none⟩ (.slice (some ⟨gg, 0, none⟩) m cap)) (.slice (some ⟨gg, 0, none⟩) m cap) m ys := by
  have h1 := cell_ltM h.c
  simp only at h1
  have ne1 : some w.heap.size ≠ v.ownBlock := fun e => by have := (h.own.lt _ e.symm).1; omega
  have x1 := (hg.cell_far ⟨w.heap.size, 0, none⟩ h1 ne1).trans h.c
  have x2 := (hg.frozen_far ⟨w.heap.size, 0, none⟩ h1 ne1).trans h.f
  have hgg := (hown.lt gg rfl).1
  have hb1 : Below w.heap.size w w1 := h.b.grown hg (by omega) (fun z hz => by have := (h.own.lt z hz).1; omega)
  refine ⟨x1, x2, ⟨hb1.setCell (p := ⟨w.heap.size, 0, none⟩) (Nat.le_refl _) _, World.cell?_setCell_same _ _ _ x1, by simp [x2], ?_⟩⟩
  exact row_blockM hown (fun q hq => by
    have : q = gg := by simpa [Value.ownBlock] using hq.symm
    subst this
    simp only [World.setCell, Array.getElem?_modify]; rw [if_neg (by omega)])

theorem own_form {w : World} {B t s n : Nat} {v : Value} {xs : List Value} (h : w.ownsRow B t s v n xs) : ∃ a c, v = .slice a n c := by
  obtain ⟨_, ⟨rfl, rfl⟩ | ⟨g, cap, cur, rfl, _⟩⟩ := h
  · exact ⟨none, 0, rfl⟩
  · exact ⟨_, _, rfl⟩
theorem own_pos {w : World} {B t s n : Nat} {v : Value} {xs : List Value} (h : w.ownsRow B t s v n xs) (hn : 0 < n) : ∃ g c, v = .slice (some ⟨g, 0, none⟩) n c := by
  obtain ⟨_, h | ⟨g, cap, cur, rfl, _⟩⟩ := h
  · omega
  · exact ⟨_, _, rfl⟩
/-- the cells of conditions -/
def kcs (l : List K) : List Value := l.flatMap fun c => [.int .i64 c.kind, .int .u64 (c.a : Int), .int .u64 (c.b : Int)]
theorem kcs_snoc (l : List K) (c : K) : kcs (l ++ [c]) = kcs l ++ [.int .i64 c.kind, .int .u64 (c.a : Int), .int .u64 (c.b : Int)] := by simp [kcs]
theorem kcs_get (l : List K) (i : Nat) (h : i < l.length) : (kcs l)[i * 3]? = some (.int .i64 l[i].kind) ∧ (kcs l)[i * 3 + 1]? = some (.int .u64 (l[i].a : Int)) ∧ (kcs l)[i * 3 + 2]? = some (.int .u64 (l[i].b : Int)) := by
  induction l generalizing i with
  | nil => simp at h
  | cons x p ih =>
    have e : kcs (x :: p) = [.int .i64 x.kind, .int .u64 (x.a : Int), .int .u64 (x.b : Int)] ++ kcs p := by simp [kcs]
    rw [e]
    match i with
    | 0 => simp
    | i + 1 =>
      have hi : i < p.length := by simpa using h
      have := ih i hi
      rw [List.getElem?_append_right (by simp; omega), List.getElem?_append_right (by simp; omega), List.getElem?_append_right (by simp; omega)]
      simp only [List.length_cons, List.length_nil]
      rw [show (i + 1) * 3 - (0 + 1 + 1 + 1) = i * 3 by omega, show (i + 1) * 3 + 1 - (0 + 1 + 1 + 1) = i * 3 + 1 by omega, show (i + 1) * 3 + 2 - (0 + 1 + 1 + 1) = i * 3 + 2 by omega]
      simpa using this
theorem own_lat {w : World} {B g cap n : Nat} {l : List K} (h : w.ownsRow B 86 3 (.slice (some ⟨g, 0, none⟩) n cap) n (kcs l)) (hn : l.length = n) : LAt 3 PK w g 0 l := fun i hi => by
  obtain ⟨c0, c1, c2⟩ := kcs_get l i hi
  have key := fun j (hj : j < n * 3) => World.ownsRow.cellAt h j hj
  rw [Nat.zero_add]
  exact ⟨(key _ (by omega)).trans c0, (key _ (by omega)).trans c1, (key _ (by omega)).trans c2⟩
theorem infoConM : (Tryz.prog.info? 86).map (fun i => (i.zero, i.size, i.bytes)) = some (some (.agg #[.int .i64 0, .int .u64 0, .int .u64 0]), 3, 24) := by kernel_rfl

def JrPost (r s : Ru) (w : World) (e : Ending) (w' : World) : Prop := ((∃ x b cap, JoinR r s x ∧ e = .returned (.tuple #[.agg #[.slice (some ⟨b, 0, none⟩) 6 cap], .bool true]) ∧ w.heap.size ≤ b ∧ b < w'.heap.size ∧ LAt 3 PK w' b 0 x) ∨ (NoJoin r s ∧ e = .returned (.tuple #[.agg #[.slice none 0 0], .bool false]))) ∧ Below w.heap.size w w'

/-- the boxes of the two rules and of the answer -/
structure J3 (w wr : World) (x y : Value) : Prop where
  b : Below w.heap.size w wr
  x0 : wr.cell? ⟨w.heap.size, 0, none⟩ = some x
  y0 : wr.cell? ⟨w.heap.size + 1, 0, none⟩ = some y
  z0 : wr.cell? ⟨w.heap.size + 1 + 1, 0, none⟩ = some (.slice none 0 0)
  zf : wr.frozen? ⟨w.heap.size + 1 + 1, 0, none⟩ = false
theorem J3.keep {w wr w1 : World} {x y : Value} (h : J3 w wr x y) (hb : Below wr.heap.size wr w1) : J3 w w1 x y :=
  ⟨below_step hb h.b, cell_step hb h.x0, cell_step hb h.y0, cell_step hb h.z0, (hb.frozen (p := ⟨w.heap.size + 1 + 1, 0, none⟩) (cell_ltM h.z0)).trans h.zf⟩
theorem J3.new (w : World) (x y : Value) : J3 w (((w.alloc (.cells #[x] 108)).alloc (.cells #[y] 108)).alloc (.cells #[.slice none 0 0] 108)) x y := by
  refine ⟨(((Below.refl _ _).alloc (Nat.le_refl _) _).alloc (by simp) _).alloc (by simp; omega) _, ?_, ?_, ?_, ?_⟩
  · exact cell_step ((Below.refl _ _).alloc (Nat.le_refl _) _) (cell_step ((Below.refl _ _).alloc (Nat.le_refl _) _) (box1 w 108 x))
  · have := box1 (w.alloc (.cells #[x] 108)) 108 y
    rw [show (w.alloc (.cells #[x] 108)).heap.size = w.heap.size + 1 by simp] at this
    exact cell_step ((Below.refl _ _).alloc (Nat.le_refl _) _) this
  · have := box1 ((w.alloc (.cells #[x] 108)).alloc (.cells #[y] 108)) 108 (.slice none 0 0)
    rw [show ((w.alloc (.cells #[x] 108)).alloc (.cells #[y] 108)).heap.size = w.heap.size + 1 + 1 by simp] at this
    exact this
  · have q : ∀ (u : World) (A : Nat), A = u.heap.size → (u.alloc (.cells #[.slice none 0 0] 108)).frozen? ⟨A, 0, none⟩ = false := by intro u A h; subst h; simp
    exact q _ _ (by simp)

end Go.Proofs.YtljhccolmcoifaaGreat
