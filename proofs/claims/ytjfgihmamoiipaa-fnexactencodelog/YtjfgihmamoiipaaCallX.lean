/-
  CONTRACTS of the marks over lists of calls.
-/
import Derived.Test.YtjfgihmamoiipaaCallW
namespace Go.Proofs.Ytjfgihmamoiipaa
open Go.RowKit
set_option linter.unusedVariables false

/-- all blocks but those of S are as they were -/
structure Far (w w' : World) (S : Nat → Prop) : Prop where
  os : w'.os = w.os
  tape : w'.tape = w.tape
  output : w'.output = w.output
  size : w.heap.size ≤ w'.heap.size
  block : ∀ q, q < w.heap.size → ¬ S q → w'.heap[q]? = w.heap[q]?
theorem Far.refl (w : World) (S : Nat → Prop) : Far w w S := ⟨rfl, rfl, rfl, Nat.le_refl _, fun _ _ _ => rfl⟩
theorem Far.trans {w w1 w2 : World} {S : Nat → Prop} (h : Far w w1 S) (h' : Far w1 w2 S) : Far w w2 S :=
  ⟨h'.os.trans h.os, h'.tape.trans h.tape, h'.output.trans h.output, Nat.le_trans h.size h'.size, fun q hq hS => (h'.block q (Nat.lt_of_lt_of_le hq h.size) hS).trans (h.block q hq hS)⟩
theorem Far.grown {w w1 : World} {S : Nat → Prop} {r : Option Nat} (h : w.grownBy w1 r) (hr : ∀ q, r = some q → S q) : Far w w1 S :=
  ⟨h.os, h.tape, h.output, h.size, fun q hq hS => h.block q hq (fun e => hS (hr q e.symm))⟩
theorem Far.set {w w1 : World} {S : Nat → Prop} (h : Far w w1 S) (D j : Nat) (v : Value) (hD : S D) : Far w (w1.setCell ⟨D, j, none⟩ v) S :=
  h.trans (Far.grown (grown_setCell (World.grownBy.refl w1 (some D)) j v) (fun q hq => by have : D = q := by simpa using hq
                                                                                          subst this; exact hD))
theorem Far.toBelow {w w1 w2 : World} {S : Nat → Prop} {B : Nat} (hb : Below B w w1) (h : Far w1 w2 S) (hB : B ≤ w1.heap.size) (hS : ∀ q, S q → B ≤ q) : Below B w w2 :=
  ⟨h.os.trans hb.os, h.tape.trans hb.tape, h.output.trans hb.output, Nat.le_trans hb.size h.size, fun q hq => (h.block q (Nat.lt_of_lt_of_le hq hB) (fun hs => by have := hS q hs; omega)).trans (hb.block q hq)⟩
theorem row_block {w w1 : World} {base t s n : Nat} {v : Value} {xs : List Value} (h : w.ownsRow base t s v n xs) (e : ∀ q, v.ownBlock = some q → w1.heap[q]? = w.heap[q]?) : w1.ownsRow base t s v n xs := by
  obtain ⟨h0, h | ⟨g, cap, cur, rfl, hb, hg, hr⟩⟩ := h
  · exact ⟨h0, .inl h⟩
  · exact ⟨h0, .inr ⟨g, cap, cur, rfl, hb, (e g (by simp [Value.ownBlock])).trans hg, hr⟩⟩
theorem owns_far {w w1 : World} {S : Nat → Prop} {B : Nat} {v : Value} {l : List Int} (h : owns w B v l) (hf : Far w w1 S) (hS : ∀ q, v.ownBlock = some q → ¬ S q) : owns w1 B v l :=
  row_block h (fun q hq => hf.block q (h.lt q hq).2 (hS q hq))
theorem MarkedU.keep {w w1 : World} {v : Value} {n : Nat} {k : Int} (h : MarkedU w v n k) (e : ∀ q, v.ownBlock = some q → w1.heap[q]? = w.heap[q]?) : MarkedU w1 v n k := by
  rcases h with h | ⟨g, cap, rfl, hc, f, hr, hf⟩
  · exact .inl h
  · exact .inr ⟨g, cap, rfl, hc, f, hr.of_block (e g (by simp [Value.ownBlock])), hf⟩

/-- the mark at which call j begins -/
def kN (cs : List C) (k : Int) (j : Nat) : Int := k + 2 * j + tot (cs.take j)
/-- the calls ahead of number i hold their marks -/
structure MidC (w : World) (D N : Nat) (vs : Nat → Value) (cs : List C) (k : Int) (i : Nat) : Prop where
  row : ∃ f, w.rowIs D 64 (N * 3) f ∧ (∀ j, j < i → f (j * 3) = .int .u32 (kN cs k j) ∧ f (j * 3 + 1) = .int .u32 (kN cs k j + 1)) ∧ ∀ j, j < cs.length → f (j * 3 + 2) = vs j
  le : cs.length ≤ N
  done : ∀ j, j < i → MarkedU w (vs j) (cs.getD j C.zero).args.length (kN cs k j + 2)
  left : ∀ j, i ≤ j → j < cs.length → ownsU w (D + 1) (vs j) (cs.getD j C.zero).args
  gt : ∀ j q, j < cs.length → (vs j).ownBlock = some q → D < q
  inc : ∀ i j p q, i < j → j < cs.length → (vs i).ownBlock = some p → (vs j).ownBlock = some q → p < q
def setC (cs : List C) (D : Nat) (vs : Nat → Value) (q : Nat) : Prop := q = D ∨ ∃ j, j < cs.length ∧ (vs j).ownBlock = some q

theorem MidC.start {w : World} {D N : Nat} {vs : Nat → Value} {cs : List C} (h : OwnC w D N vs cs) (k : Int) : MidC w D N vs cs k 0 := by
  obtain ⟨f, hr, hf⟩ := h.row
  exact ⟨⟨f, hr, fun j hj => by omega, fun j hj => (hf j hj).2.2⟩, h.le, fun j hj => by omega, fun j _ hj => h.own j hj, fun j q hj hq => by have := ((h.own j hj).lt q hq).1; omega, h.inc⟩
theorem MidC.step {w w2 : World} {D N i : Nat} {vs : Nat → Value} {cs : List C} {k : Int} (h : MidC w D N vs cs k i) (hi : i < cs.length)
    (hg : ((w.setCell ⟨D, i * 3, none⟩ (.int .u32 (kN cs k i))).setCell ⟨D, i * 3 + 1, none⟩ (.int .u32 (kN cs k i + 1))).grownBy w2 (vs i).ownBlock) (hM : MarkedU w2 (vs i) (cs.getD i C.zero).args.length (kN cs k i + 2)) : MidC w2 D N vs cs k (i + 1) := by
  obtain ⟨f, hr, hf, hv⟩ := h.row
  have hr2 := (hr.set (i * 3) (.int .u32 (kN cs k i))).set (i * 3 + 1) (.int .u32 (kN cs k i + 1))
  have hDi : some D ≠ (vs i).ownBlock := fun e => by have := h.gt i D hi e.symm; omega
  have hr3 := hr2.of_block (w' := w2) (hg.block D hr2.lt hDi)
  have hne : ∀ j q, j < cs.length → j ≠ i → (vs j).ownBlock = some q → some q ≠ (vs i).ownBlock := by
    intro j q hj hji hq e
    by_cases h1 : j < i
    · have := h.inc j i q q h1 hi hq e.symm; omega
    · have := h.inc i j q q (by omega) hj e.symm hq; omega
  have hsz : ∀ q, q < w.heap.size → q < ((w.setCell ⟨D, i * 3, none⟩ (.int .u32 (kN cs k i))).setCell ⟨D, i * 3 + 1, none⟩ (.int .u32 (kN cs k i + 1))).heap.size := fun q hq => by simpa [World.setCell] using hq
  have hbl : ∀ j q, j < cs.length → j ≠ i → (vs j).ownBlock = some q → q < w.heap.size → w2.heap[q]? = w.heap[q]? := by
    intro j q hj hji hq hlt
    have hqD := h.gt j q hj hq
    rw [hg.block q (hsz q hlt) (hne j q hj hji hq)]
    rw [Below.heap_setCell _ ⟨D, i * 3 + 1, none⟩ _ q (by show q ≠ D; omega), Below.heap_setCell _ ⟨D, i * 3, none⟩ _ q (by show q ≠ D; omega)]
  refine ⟨⟨_, hr3, fun j hj => ?_, fun j hj => ?_⟩, h.le, fun j hj => ?_, fun j hj1 hj2 => ?_, h.gt, h.inc⟩
  · by_cases e : j = i
    · subst e
      exact ⟨by rw [if_neg (by omega), if_pos rfl], by rw [if_pos rfl]⟩
    · obtain ⟨f0, f1⟩ := hf j (by omega)
      exact ⟨by rw [if_neg (by omega), if_neg (by omega), f0], by rw [if_neg (by omega), if_neg (by omega), f1]⟩
  · rw [if_neg (by omega), if_neg (by omega), hv j hj]
  · by_cases e : j = i
    · subst e; exact hM
    · have hd := h.done j (by omega)
      refine hd.keep (fun q hq => hbl j q (by omega) e hq ?_)
      rcases hd with ⟨h1, _⟩ | ⟨g, cap, h1, _, f', hr', _⟩
      · rw [h1] at hq; simp [Value.ownBlock] at hq
      · rw [h1] at hq
        have : g = q := by simpa [Value.ownBlock] using hq
        subst this; exact hr'.lt
  · have ho := h.left j (by omega) hj2
    exact row_block ho (fun q hq => hbl j q hj2 (by omega) hq (ho.lt q hq).2)
end Go.Proofs.Ytjfgihmamoiipaa
