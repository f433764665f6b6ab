/-
  CallM, CallS, CallL, CallW, CallX
-/
import Derived.Test.YtjbbiailhpkdeaaDoorQ02
import Derived.Deep.RegionWith
namespace Go.Proofs.YtjbbiailhpkdeaaDoor
open Go.RowKit
set_option linter.unusedVariables false

/-- the value of one call, its arguments in v -/
abbrev callV (c : C) (v : Value) : Value := .agg #[.int .u32 c.arch, .int .u32 c.nr, v]

theorem ownsU_set {w : World} {B D j : Nat} {v x : Value} {l : List Int} (h : ownsU w B v l) (hne : ∀ q, v.ownBlock = some q → q ≠ D) : ownsU (w.setCell ⟨D, j, none⟩ x) B v l :=
  ownsU_kept h (grown_setCell (World.grownBy.refl _ _) j x) (fun q hq e => hne q hq (by simpa using e))
theorem ownsU_mono {w : World} {B B' : Nat} {v : Value} {l : List Int} (h : ownsU w B v l) (hb : B' ≤ B) : ownsU w B' v l := by
  obtain ⟨h0, h | ⟨g, cap, cur, rfl, hb', hr⟩⟩ := h
  · exact ⟨h0, .inl h⟩
  · exact ⟨h0, .inr ⟨g, cap, cur, rfl, by omega, hr⟩⟩
/-- the three cells of a box -/
structure Box3 (w : World) (g : Nat) (x y z : Value) : Prop where
  lt : g < w.heap.size
  c0 : w.cell? ⟨g, 0, none⟩ = some x
  c1 : w.cell? ⟨g, 1, none⟩ = some y
  c2 : w.cell? ⟨g, 2, none⟩ = some z
  f0 : w.frozen? ⟨g, 0, none⟩ = false
  f1 : w.frozen? ⟨g, 1, none⟩ = false
  f2 : w.frozen? ⟨g, 2, none⟩ = false
theorem Box3.keep {w w1 : World} {g : Nat} {x y z : Value} (h : Box3 w g x y z) (hb : Below w.heap.size w w1) : Box3 w1 g x y z :=
  ⟨Nat.lt_of_lt_of_le h.lt hb.size, (hb.cell (p := ⟨g, _, none⟩) h.lt).trans h.c0, (hb.cell (p := ⟨g, _, none⟩) h.lt).trans h.c1, (hb.cell (p := ⟨g, _, none⟩) h.lt).trans h.c2,
    (hb.frozen (p := ⟨g, _, none⟩) h.lt).trans h.f0, (hb.frozen (p := ⟨g, _, none⟩) h.lt).trans h.f1, (hb.frozen (p := ⟨g, _, none⟩) h.lt).trans h.f2⟩
theorem Box3.new (w : World) (t : TypeId) (x y z : Value) : Box3 (w.alloc (.cells #[x, y, z] t)) w.heap.size x y z :=
  ⟨by simp, by simp, by simp, by simp, by simp, by simp, by simp⟩
theorem Box3.alloc {w : World} {g : Nat} {x y z : Value} (h : Box3 w g x y z) (o : Obj) : Box3 (w.alloc o) g x y z := h.keep ((Below.refl _ _).alloc (Nat.le_refl _) o)

set_option maxHeartbeats 1000000 in
theorem eqCall_own {B B' : Nat} {c : C} {v v' : Value} {w : World} (h : ownsU w B v c.args) (h' : ownsU w B' v' c.args) (hn : c.args.length ≤ 16777216) :
    Calls Tryd.prog 37 #[callV c v, callV c v'] w fun e w' => e = .returned (.bool true) ∧ Below w.heap.size w w' := by
  obtain ⟨ar, nr, args⟩ := c
  simp only at h h' hn ⊢
  have HC : Hid (∀ w1, Below w.heap.size w w1 → Calls Tryd.prog 55 #[v, v'] w1 fun e w' => e = .returned (.bool true) ∧ Below w1.heap.size w1 w') :=
    fun w1 hB => eqUint64S_own (ownsU_below h hB) (ownsU_below h' hB) hn
  clear h h'
  go_enter Tryd.func37, Tryd.ntmps37
  go_wp2_with fail
  have hB0 : Below w.heap.size w ((w.alloc (.cells #[.int .u32 ar, .int .u32 nr, v] 34)).alloc (.cells #[.int .u32 ar, .int .u32 nr, v'] 34)) := ((Below.refl _ _).alloc (Nat.le_refl _) _).alloc (by simp) _
  refine (HC.out _ hB0).mono ?_
  rintro e w1 ⟨rfl, hb1⟩
  have hB1 := hB0.trans (hb1.mono hB0.size)
  go_wp2
  go_ret
  exact ⟨rfl, hB1⟩

end Go.Proofs.YtjbbiailhpkdeaaDoor
namespace Go.Proofs.YtjbbiailhpkdeaaDoor
open Go.RowKit
set_option linter.unusedVariables false

/-- calls at an address, each with its arguments where its third cell says -/
def CAt (w : World) (b o : Nat) (cs : List C) : Prop :=
  ∀ i, i < cs.length → w.cell? ⟨b, o + i * 3, none⟩ = some (.int .u32 (cs.getD i C.zero).arch) ∧ w.cell? ⟨b, o + i * 3 + 1, none⟩ = some (.int .u32 (cs.getD i C.zero).nr) ∧
    ∃ a cap, w.cell? ⟨b, o + i * 3 + 2, none⟩ = some (.slice a (cs.getD i C.zero).args.length cap) ∧ USrc w a (cs.getD i C.zero).args
/-- calls that came in, or were made: nil or empty, or at an address -/
def CSrc (w : World) (a : Option Addr) (cs : List C) : Prop := cs = [] ∨ ∃ b o, a = some ⟨b, o, none⟩ ∧ b < w.heap.size ∧ CAt w b o cs

theorem CAt.below {w w' : World} {b o : Nat} {cs : List C} (h : CAt w b o cs) (hlt : b < w.heap.size) (hb : Below w.heap.size w w') : CAt w' b o cs := by
  intro i hi
  obtain ⟨c0, c1, a, cap, c2, hs⟩ := h i hi
  exact ⟨(hb.cell (p := ⟨b, _, none⟩) hlt).trans c0, (hb.cell (p := ⟨b, _, none⟩) hlt).trans c1, a, cap, (hb.cell (p := ⟨b, _, none⟩) hlt).trans c2, hs.below hb⟩
theorem CSrc.below {w w' : World} {a : Option Addr} {cs : List C} (h : CSrc w a cs) (hb : Below w.heap.size w w') : CSrc w' a cs := by
  rcases h with h | ⟨b, o, ha, hlt, hc⟩
  · exact .inl h
  · exact .inr ⟨b, o, ha, Nat.lt_of_lt_of_le hlt hb.size, hc.below hlt hb⟩
end Go.Proofs.YtjbbiailhpkdeaaDoor
namespace Go.Proofs.YtjbbiailhpkdeaaDoor
open Go.RowKit
set_option linter.unusedVariables false

def tot : List C → Nat
  | [] => 0
  | c :: r => c.args.length + tot r
theorem tot_take_succ {cs : List C} {k : Nat} (h : k < cs.length) : tot (cs.take (k + 1)) = tot (cs.take k) + (cs.getD k C.zero).args.length := by
  induction cs generalizing k with
  | nil => simp at h
  | cons c r ih =>
    cases k with
    | zero => simp [tot]
    | succ k =>
      have := ih (k := k) (by simpa using h)
      simp only [List.take_succ_cons, tot, List.getD_cons_succ] at *
      omega
theorem tot_take_le (cs : List C) (k : Nat) : tot (cs.take k) ≤ tot cs := by
  induction cs generalizing k with
  | nil => simp
  | cons c r ih =>
    cases k with
    | zero => simp [tot]
    | succ k => have := ih k; simp only [List.take_succ_cons, tot]; omega
theorem tot_mem {cs : List C} {c : C} (h : c ∈ cs) : c.args.length ≤ tot cs := by
  induction cs with
  | nil => simp at h
  | cons d r ih =>
    simp only [List.mem_cons] at h
    rcases h with rfl | h
    · simp [tot]
    · have := ih h; simp [tot]; omega
theorem callL_mem {cs : List C} {i : Nat} (hi : i < cs.length) : cs.getD i C.zero ∈ cs := by
  rw [List.getD_eq_getElem?_getD, List.getElem?_eq_getElem hi]; exact List.getElem_mem hi
theorem getD_take {cs : List C} {i k : Nat} (h : i < k) : (cs.take k).getD i C.zero = cs.getD i C.zero := by
  simp [List.getD_eq_getElem?_getD, h]

/-- the cells of call i -/
theorem CSrc.at {w : World} {a : Option Addr} {cs : List C} (hs : CSrc w a cs) (i : Nat) (hi : i < cs.length) : ∃ b o, a = some ⟨b, o, none⟩ ∧ b < w.heap.size ∧ w.cell? ⟨b, o + i * 3, none⟩ = some (.int .u32 (cs.getD i C.zero).arch) ∧ w.cell? ⟨b, o + i * 3 + 1, none⟩ = some (.int .u32 (cs.getD i C.zero).nr) ∧
      ∃ a' cap', w.cell? ⟨b, o + i * 3 + 2, none⟩ = some (.slice a' (cs.getD i C.zero).args.length cap') ∧ USrc w a' (cs.getD i C.zero).args := by
  rcases hs with rfl | ⟨b, o, h1, h2, h3⟩
  · simp at hi
  · obtain ⟨c0, c1, a', cap', c2, hu⟩ := h3 i hi
    exact ⟨b, o, h1, h2, c0, c1, a', cap', c2, hu⟩

set_option maxHeartbeats 1000000 in
theorem eqCall_any (c : C) (a a' : Option Addr) (cap cap' : Nat) (w : World) (h : USrc w a c.args) (h' : USrc w a' c.args) (hn : c.args.length ≤ 16777216) :
    Calls Tryd.prog 37 #[callV c (.slice a c.args.length cap), callV c (.slice a' c.args.length cap')] w fun e w' => e = .returned (.bool true) ∧ Below w.heap.size w w' := by
  obtain ⟨ar, nr, args⟩ := c
  simp only at h h' hn ⊢
  have HC : Hid (∀ w1, Below w.heap.size w w1 → Calls Tryd.prog 55 #[.slice a args.length cap, .slice a' args.length cap'] w1 fun e w' => e = .returned (.bool true) ∧ Below w1.heap.size w1 w') :=
    fun w1 hB => eqUint64S_any a a' cap cap' args w1 (h.below hB) (h'.below hB) hn
  clear h h'
  generalize args.length = n at *
  go_enter Tryd.func37, Tryd.ntmps37
  go_wp2_with fail
  have hB0 : Below w.heap.size w ((w.alloc (.cells #[.int .u32 ar, .int .u32 nr, .slice a n cap] 34)).alloc (.cells #[.int .u32 ar, .int .u32 nr, .slice a' n cap'] 34)) := ((Below.refl _ _).alloc (Nat.le_refl _) _).alloc (by simp) _
  refine (HC.out _ hB0).mono ?_
  rintro e w1 ⟨rfl, hb1⟩
  have hB1 := hB0.trans (hb1.mono hB0.size)
  go_wp2
  go_ret
  exact ⟨rfl, hB1⟩

set_option maxRecDepth 100000 in
set_option maxHeartbeats 4000000 in
theorem eqCallS_any (a a' : Option Addr) (cap cap' : Nat) (cs : List C) (w : World) (hs : CSrc w a cs) (hs' : CSrc w a' cs) (hn : cs.length ≤ 1048576) (hm : ∀ c ∈ cs, c.args.length ≤ 16777216) :
    Calls Tryd.prog 14 #[.slice a cs.length cap, .slice a' cs.length cap'] w fun e w' => e = .returned (.bool true) ∧ Below w.heap.size w w' := by
  have HP : Hid (∀ w1, Below w.heap.size w w1 → CSrc w1 a cs) := fun w1 hB => hs.below hB
  have HP' : Hid (∀ w1, Below w.heap.size w w1 → CSrc w1 a' cs) := fun w1 hB => hs'.below hB
  have HM : Hid (∀ i, i < cs.length → (cs.getD i C.zero).args.length ≤ 16777216) := fun i hi => hm _ (callL_mem hi)
  obtain ⟨n, hn'⟩ : ∃ n, cs.length = n := ⟨_, rfl⟩
  have HN : Hid (cs.length = n) := hn'
  rw [hn'] at HM hn ⊢
  clear hs hs' hm hn'
  go_enter Tryd.func14, Tryd.ntmps14
  go_wp2_with fail
  go_loopw [5] (fun i wr => ∃ k : Nat, k ≤ n ∧ i = .int .i64 k ∧ Below w.heap.size w wr) (fun i _ => n - (intOf i).toNat)
  case atStart => exact ⟨0, by omega, rfl, Below.refl _ _⟩
  case round =>
    obtain ⟨k, hk, rfl, hB⟩ := hrel
    by_cases hlt : k < n
    · obtain ⟨b, o, ha, hbl, d0, d1, a1, cap1, d2, hu⟩ := (HP.out _ hB).at k (by rw [HN.out]; exact hlt)
      obtain ⟨b', o', ha', hbl', d0', d1', a2, cap2, d2', hu'⟩ := (HP'.out _ hB).at k (by rw [HN.out]; exact hlt)
      have hm := HM.out k hlt
      have hs := hB.size
      have HC : Hid (Calls Tryd.prog 37 #[callV (cs.getD k C.zero) (.slice a1 (cs.getD k C.zero).args.length cap1), callV (cs.getD k C.zero) (.slice a2 (cs.getD k C.zero).args.length cap2)] wr.drew fun e w' => e = .returned (.bool true) ∧ Below wr.drew.heap.size wr.drew w') :=
        eqCall_any _ a1 a2 cap1 cap2 wr.drew (hu.below (Below.refl _ _).drew) (hu'.below (Below.refl _ _).drew) hm
      subst ha ha'
      clear HP HP' HM hu hu'
      generalize cs.getD k C.zero = c at *
      obtain ⟨ar, nr, args⟩ := c
      simp only at *
      generalize args.length = m at *
      have hlt' : (k : Int) < (n : Int) := by omega
      go_wp2_with fail
      go_region_with (go_at_call 37; refine HC.out.mono ?_; rintro e w1 ⟨rfl, hb1⟩)
      all_goals
        have B1 : Below w.heap.size w w1 := hB.drew.trans (hb1.mono hs)
        clear d0 d1 d2 d0' d1' d2' HC hb1
        go_wp2
        go_roundw
        case rel => exact ⟨k + 1, by omega, by go_num, B1⟩
        case measure => simp [intOf]; omega
    · go_wp2
      go_ret
      exact ⟨rfl, hB⟩
end Go.Proofs.YtjbbiailhpkdeaaDoor
namespace Go.Proofs.YtjbbiailhpkdeaaDoor
open Go.RowKit
set_option linter.unusedVariables false

/-- the calls cs in block D (of N places), their arguments in values of their own, each behind the one before -/
structure OwnC (w : World) (D N : Nat) (vs : Nat → Value) (cs : List C) : Prop where
  row : ∃ f, w.rowIs D 34 (N * 3) f ∧ ∀ i, i < cs.length → f (i * 3) = .int .u32 (cs.getD i C.zero).arch ∧ f (i * 3 + 1) = .int .u32 (cs.getD i C.zero).nr ∧ f (i * 3 + 2) = vs i
  le : cs.length ≤ N
  own : ∀ i, i < cs.length → ownsU w (D + 1) (vs i) (cs.getD i C.zero).args
  inc : ∀ i j p q, i < j → j < cs.length → (vs i).ownBlock = some p → (vs j).ownBlock = some q → p < q

theorem OwnC.lt {w : World} {D N : Nat} {vs : Nat → Value} {cs : List C} (h : OwnC w D N vs cs) : D < w.heap.size := by
  obtain ⟨f, hr, _⟩ := h.row; exact hr.lt
theorem OwnC.src {w : World} {D N : Nat} {vs : Nat → Value} {cs : List C} (h : OwnC w D N vs cs) : CSrc w (some ⟨D, 0, none⟩) cs := by
  obtain ⟨f, hr, hf⟩ := h.row
  have hle := h.le
  refine .inr ⟨D, 0, rfl, hr.lt, fun i hi => ?_⟩
  obtain ⟨f0, f1, f2⟩ := hf i hi
  obtain ⟨a, cap, e, hs⟩ := ownsU_src (h.own i hi)
  refine ⟨?_, ?_, a, cap, ?_, hs⟩
  · rw [Nat.zero_add, hr.cell (by omega), f0]
  · rw [Nat.zero_add, hr.cell (by omega), f1]
  · rw [Nat.zero_add, hr.cell (by omega), f2, e]
theorem OwnC.below {w w1 : World} {D N : Nat} {vs : Nat → Value} {cs : List C} (h : OwnC w D N vs cs) (hb : Below w.heap.size w w1) : OwnC w1 D N vs cs := by
  obtain ⟨f, hr, hf⟩ := h.row
  exact ⟨⟨f, hr.of_block (hb.block D hr.lt), hf⟩, h.le, fun i hi => ownsU_below (h.own i hi) hb, h.inc⟩
/-- the next call is written into the row -/
theorem OwnC.snoc {w w1 : World} {D N k : Nat} {vs : Nat → Value} {cs : List C} {v' : Value} (h : OwnC w D N vs (cs.take k)) (hk : k < cs.length) (hN : cs.length ≤ N) (hb : Below w.heap.size w w1) (hv : ownsU w1 w.heap.size v' (cs.getD k C.zero).args) :
    OwnC (((w1.setCell ⟨D, k * 3, none⟩ (.int .u32 (cs.getD k C.zero).arch)).setCell ⟨D, k * 3 + 1, none⟩ (.int .u32 (cs.getD k C.zero).nr)).setCell ⟨D, k * 3 + 2, none⟩ v') D N (fun i => if i = k then v' else vs i) (cs.take (k + 1)) := by
  have hl : (cs.take k).length = k := by simp; omega
  have hl1 : (cs.take (k + 1)).length = k + 1 := by simp; omega
  have hD := h.lt
  have h1 := h.below hb
  obtain ⟨f, hr, hf⟩ := h1.row
  have hvD : ∀ q, v'.ownBlock = some q → q ≠ D := fun q hq => by have := (hv.lt q hq).1; omega
  have hwD : ∀ i, i < k → ∀ q, (vs i).ownBlock = some q → q ≠ D := fun i hi q hq => by have := ((h.own i (by omega)).lt q hq).1; omega
  refine ⟨⟨_, ((hr.set _ _).set _ _).set _ _, fun i hi => ?_⟩, by omega, fun i hi => ?_, fun i j p q hij hj hp hq => ?_⟩
  · rw [hl1] at hi
    rw [getD_take (by omega)]
    by_cases e : i = k
    · subst e
      refine ⟨?_, ?_, ?_⟩
      · rw [if_neg (by omega), if_neg (by omega), if_pos rfl]
      · rw [if_neg (by omega), if_pos rfl]
      · rw [if_pos rfl, if_pos rfl]
    · obtain ⟨f0, f1, f2⟩ := hf i (by omega)
      rw [getD_take (by omega)] at f0 f1
      refine ⟨?_, ?_, ?_⟩
      · rw [if_neg (by omega), if_neg (by omega), if_neg (by omega), f0]
      · rw [if_neg (by omega), if_neg (by omega), if_neg (by omega), f1]
      · rw [if_neg (by omega), if_neg (by omega), if_neg (by omega), f2, if_neg e]
  · rw [hl1] at hi
    rw [getD_take (by omega)]
    by_cases e : i = k
    · subst e
      simp only [if_true]
      exact ownsU_set (ownsU_set (ownsU_set (ownsU_mono hv (by omega)) hvD) hvD) hvD
    · simp only [if_neg e]
      have h2 := h1.own i (by omega)
      rw [getD_take (by omega)] at h2
      exact ownsU_set (ownsU_set (ownsU_set h2 (hwD i (by omega))) (hwD i (by omega))) (hwD i (by omega))
  · rw [hl1] at hj
    by_cases e : j = k
    · subst e
      simp only [if_true] at hq
      rw [if_neg (by omega)] at hp
      have h2 := ((h.own i (by omega)).lt p hp).2
      have h3 := (hv.lt q hq).1
      omega
    · rw [if_neg (by omega)] at hp hq
      exact h.inc i j p q hij (by omega) hp hq
theorem OwnC.cellOk {w : World} {D N : Nat} {vs : Nat → Value} {cs : List C} (h : OwnC w D N vs cs) (j : Nat) (hj : j < N * 3) : ∃ v, w.cell? ⟨D, j, none⟩ = some v ∧ w.frozen? ⟨D, j, none⟩ = false := by
  obtain ⟨f, hr, _⟩ := h.row
  exact ⟨_, hr.cell hj, hr.frozen j⟩

theorem infoCall : (Tryd.prog.info? 34).map (fun i => (i.zero, i.size, i.bytes)) = some (some (.agg #[.int .u32 0, .int .u32 0, .slice none 0 0]), 3, 32) := by kernel_rfl

end Go.Proofs.YtjbbiailhpkdeaaDoor
namespace Go.Proofs.YtjbbiailhpkdeaaDoor
open Go.RowKit
set_option linter.unusedVariables false

/-- all blocks but those of S are as they were -/
structure Far (w w' : World) (S : Nat → Prop) : Prop where
  os : w'.os = w.os
  tape : w'.tape = w.tape
  output : w'.output = w.output
  size : w.heap.size ≤ w'.heap.size
  block : ∀ q, q < w.heap.size → ¬ S q → w'.heap[q]? = w.heap[q]?
theorem Far.refl (w : World) (S : Nat → Prop) : Far w w S := ⟨rfl, rfl, rfl, Nat.le_refl _, fun _ _ _ => rfl⟩
theorem Far.trans {w w1 w2 : World} {S : Nat → Prop} (h : Far w w1 S) (h' : Far w1 w2 S) : Far w w2 S :=
  ⟨h'.os.trans h.os, h'.tape.trans h.tape, h'.output.trans h.output, Nat.le_trans h.size h'.size, fun q hq hS => (h'.block q (Nat.lt_of_lt_of_le hq h.size) hS).trans (h.block q hq hS)⟩
theorem Far.grown {w w1 : World} {S : Nat → Prop} {r : Option Nat} (h : w.grownBy w1 r) (hr : ∀ q, r = some q → S q) : Far w w1 S :=
  ⟨h.os, h.tape, h.output, h.size, fun q hq hS => h.block q hq (fun e => hS (hr q e.symm))⟩
theorem Far.set {w w1 : World} {S : Nat → Prop} (h : Far w w1 S) (D j : Nat) (v : Value) (hD : S D) : Far w (w1.setCell ⟨D, j, none⟩ v) S :=
  h.trans (Far.grown (grown_setCell (World.grownBy.refl w1 (some D)) j v) (fun q hq => by have : D = q := by simpa using hq
                                                                                          subst this; exact hD))
theorem Far.toBelow {w w1 w2 : World} {S : Nat → Prop} {B : Nat} (hb : Below B w w1) (h : Far w1 w2 S) (hB : B ≤ w1.heap.size) (hS : ∀ q, S q → B ≤ q) : Below B w w2 :=
  ⟨h.os.trans hb.os, h.tape.trans hb.tape, h.output.trans hb.output, Nat.le_trans hb.size h.size, fun q hq => (h.block q (Nat.lt_of_lt_of_le hq hB) (fun hs => by have := hS q hs; omega)).trans (hb.block q hq)⟩
theorem row_block {w w1 : World} {base t s n : Nat} {v : Value} {xs : List Value} (h : w.ownsRow base t s v n xs) (e : ∀ q, v.ownBlock = some q → w1.heap[q]? = w.heap[q]?) : w1.ownsRow base t s v n xs := by
  obtain ⟨h0, h | ⟨g, cap, cur, rfl, hb, hg, hr⟩⟩ := h
  · exact ⟨h0, .inl h⟩
  · exact ⟨h0, .inr ⟨g, cap, cur, rfl, hb, (e g (by simp [Value.ownBlock])).trans hg, hr⟩⟩
theorem owns_far {w w1 : World} {S : Nat → Prop} {B : Nat} {v : Value} {l : List Int} (h : owns w B v l) (hf : Far w w1 S) (hS : ∀ q, v.ownBlock = some q → ¬ S q) : owns w1 B v l :=
  row_block h (fun q hq => hf.block q (h.lt q hq).2 (hS q hq))
theorem MarkedU.keep {w w1 : World} {v : Value} {n : Nat} {k : Int} (h : MarkedU w v n k) (e : ∀ q, v.ownBlock = some q → w1.heap[q]? = w.heap[q]?) : MarkedU w1 v n k := by
  rcases h with h | ⟨g, cap, rfl, hc, f, hr, hf⟩
  · exact .inl h
  · exact .inr ⟨g, cap, rfl, hc, f, hr.of_block (e g (by simp [Value.ownBlock])), hf⟩

/-- the mark at which call j begins -/
def kN (cs : List C) (k : Int) (j : Nat) : Int := k + 2 * j + tot (cs.take j)
/-- the calls ahead of number i hold their marks -/
structure MidC (w : World) (D N : Nat) (vs : Nat → Value) (cs : List C) (k : Int) (i : Nat) : Prop where
  row : ∃ f, w.rowIs D 34 (N * 3) f ∧ (∀ j, j < i → f (j * 3) = .int .u32 (kN cs k j) ∧ f (j * 3 + 1) = .int .u32 (kN cs k j + 1)) ∧ ∀ j, j < cs.length → f (j * 3 + 2) = vs j
  le : cs.length ≤ N
  done : ∀ j, j < i → MarkedU w (vs j) (cs.getD j C.zero).args.length (kN cs k j + 2)
  left : ∀ j, i ≤ j → j < cs.length → ownsU w (D + 1) (vs j) (cs.getD j C.zero).args
  gt : ∀ j q, j < cs.length → (vs j).ownBlock = some q → D < q
  inc : ∀ i j p q, i < j → j < cs.length → (vs i).ownBlock = some p → (vs j).ownBlock = some q → p < q
def setC (cs : List C) (D : Nat) (vs : Nat → Value) (q : Nat) : Prop := q = D ∨ ∃ j, j < cs.length ∧ (vs j).ownBlock = some q

theorem MidC.start {w : World} {D N : Nat} {vs : Nat → Value} {cs : List C} (h : OwnC w D N vs cs) (k : Int) : MidC w D N vs cs k 0 := by
  obtain ⟨f, hr, hf⟩ := h.row
  exact ⟨⟨f, hr, fun j hj => by omega, fun j hj => (hf j hj).2.2⟩, h.le, fun j hj => by omega, fun j _ hj => h.own j hj, fun j q hj hq => by have := ((h.own j hj).lt q hq).1; omega, h.inc⟩
theorem MidC.step {w w2 : World} {D N i : Nat} {vs : Nat → Value} {cs : List C} {k : Int} (h : MidC w D N vs cs k i) (hi : i < cs.length)
    (hg : ((w.setCell ⟨D, i * 3, none⟩ (.int .u32 (kN cs k i))).setCell ⟨D, i * 3 + 1, none⟩ (.int .u32 (kN cs k i + 1))).grownBy w2 (vs i).ownBlock) (hM : MarkedU w2 (vs i) (cs.getD i C.zero).args.length (kN cs k i + 2)) : MidC w2 D N vs cs k (i + 1) := by
  obtain ⟨f, hr, hf, hv⟩ := h.row
  have hr2 := (hr.set (i * 3) (.int .u32 (kN cs k i))).set (i * 3 + 1) (.int .u32 (kN cs k i + 1))
  have hDi : some D ≠ (vs i).ownBlock := fun e => by have := h.gt i D hi e.symm; omega
  have hr3 := hr2.of_block (w' := w2) (hg.block D hr2.lt hDi)
  have hne : ∀ j q, j < cs.length → j ≠ i → (vs j).ownBlock = some q → some q ≠ (vs i).ownBlock := by
    intro j q hj hji hq e
    by_cases h1 : j < i
    · have := h.inc j i q q h1 hi hq e.symm; omega
    · have := h.inc i j q q (by omega) hj e.symm hq; omega
  have hsz : ∀ q, q < w.heap.size → q < ((w.setCell ⟨D, i * 3, none⟩ (.int .u32 (kN cs k i))).setCell ⟨D, i * 3 + 1, none⟩ (.int .u32 (kN cs k i + 1))).heap.size := fun q hq => by simpa [World.setCell] using hq
  have hbl : ∀ j q, j < cs.length → j ≠ i → (vs j).ownBlock = some q → q < w.heap.size → w2.heap[q]? = w.heap[q]? := by
    intro j q hj hji hq hlt
    have hqD := h.gt j q hj hq
    rw [hg.block q (hsz q hlt) (hne j q hj hji hq)]
    rw [Below.heap_setCell _ ⟨D, i * 3 + 1, none⟩ _ q (by show q ≠ D; omega), Below.heap_setCell _ ⟨D, i * 3, none⟩ _ q (by show q ≠ D; omega)]
  refine ⟨⟨_, hr3, fun j hj => ?_, fun j hj => ?_⟩, h.le, fun j hj => ?_, fun j hj1 hj2 => ?_, h.gt, h.inc⟩
  · by_cases e : j = i
    · subst e
      exact ⟨by rw [if_neg (by omega), if_pos rfl], by rw [if_pos rfl]⟩
    · obtain ⟨f0, f1⟩ := hf j (by omega)
      exact ⟨by rw [if_neg (by omega), if_neg (by omega), f0], by rw [if_neg (by omega), if_neg (by omega), f1]⟩
  · rw [if_neg (by omega), if_neg (by omega), hv j hj]
  · by_cases e : j = i
    · subst e; exact hM
    · have hd := h.done j (by omega)
      refine hd.keep (fun q hq => hbl j q (by omega) e hq ?_)
      rcases hd with ⟨h1, _⟩ | ⟨g, cap, h1, _, f', hr', _⟩
      · rw [h1] at hq; simp [Value.ownBlock] at hq
      · rw [h1] at hq
        have : g = q := by simpa [Value.ownBlock] using hq
        subst this; exact hr'.lt
  · have ho := h.left j (by omega) hj2
    exact row_block ho (fun q hq => hbl j q hj2 (by omega) hq (ho.lt q hq).2)
end Go.Proofs.YtjbbiailhpkdeaaDoor
