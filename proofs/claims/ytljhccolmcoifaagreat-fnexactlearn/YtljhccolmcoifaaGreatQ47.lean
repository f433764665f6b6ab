/-
  LrnG, LrnH, CallX, CallY
-/
import Derived.Test.YtljhccolmcoifaaGreatQ23
import Derived.Test.YtljhccolmcoifaaGreatQ15
import Derived.Test.YtljhccolmcoifaaGreatQ40
import Derived.Test.YtljhccolmcoifaaGreatQ43
import Derived.Test.YtljhccolmcoifaaGreatQ46
import Derived.Test.YtljhccolmcoifaaGreatQ42
namespace Go.Proofs.YtljhccolmcoifaaGreat
open Go.RowKit Go.Deep
set_option linter.unusedVariables false

/-- what the model's Learn answers -/
def SpecLearnP (cs : List C) (ex sp f : Int) (w : World) (e : Ending) (w' : World) : Prop :=
  ((knobsB ex sp f && callsB cs) = true ∧ ∃ av cv out, e = .returned (.tuple #[.agg #[.slice av (List.length out) cv], .int .i64 0]) ∧ IsLearn cs ex sp f out ∧ (∀ w2 : World, w'.heap.size ≤ w2.heap.size → (∀ q, w.heap.size ≤ q → q < w'.heap.size → w2.heap[q]? = w'.heap[q]?) → LSrc 3 PEC w2 av out) ∧ out.length ≤ cv ∧ Below w.heap.size w w') ∨
  ((knobsB ex sp f && callsB cs) = false ∧ e = .returned (.tuple #[.agg #[.slice none 0 0], .int .i64 1]) ∧ Below w.heap.size w w')
theorem pec_blk {w w1 : World} {a : Option Addr} {l : List E} (h : LSrc 3 PEC w a l) (hb : Below w.heap.size w w1) : LSrc 3 PEC w1 a l := h.below PEC.stays hb

set_option maxRecDepth 100000 in
set_option maxHeartbeats 8000000 in
theorem specLearn_of (ex sp f : Int) (cs : List C)
    (HL0 : 0 ≤ f ∧ f ≤ 2 → ∀ (a : Option Addr) (cap : Nat) (w : World), CSrc w a cs → cs.length ≤ cap → (∀ c ∈ cs, okLa c.args) → cs.length ≤ 1000 → Calls Tryz.prog 17 #[.slice a cs.length cap, .agg #[.int .i64 ex, .int .i64 sp, .int .i64 f]] w fun e w' => ∃ av cv out, e = .returned (.agg #[.slice av (List.length out) cv]) ∧ IsLearn cs ex sp f out ∧ (∀ w2, w'.heap.size ≤ w2.heap.size → (∀ q, w.heap.size ≤ q → q < w'.heap.size → w2.heap[q]? = w'.heap[q]?) → LSrc 3 PEC w2 av out) ∧ out.length ≤ cv ∧ Below w.heap.size w w')
    (a : Option Addr) (cap : Nat) (w : World) (hs : CSrc w a cs) (hcap : cs.length ≤ cap) (hok : ∀ c ∈ cs, c.args.length ≤ 1048576 ∧ ∀ y ∈ c.args, 0 ≤ y ∧ y ≤ 18446744073709551615) (hn : cs.length ≤ 1048576) :
    Calls Tryz.prog 5 #[.slice a cs.length cap, .agg #[.int .i64 ex, .int .i64 sp, .int .i64 f]] w (SpecLearnP cs ex sp f w) := by
  have HK : Hid (∀ wr, Calls Tryz.prog 15 #[.agg #[.int .i64 ex, .int .i64 sp, .int .i64 f]] wr fun e w' => e = .returned (.bool (knobsB ex sp f)) ∧ Below wr.heap.size wr w') := l4knobsOK_any ex sp f
  have HC : Hid (∀ wr, Below w.heap.size w wr → Calls Tryz.prog 16 #[.slice a cs.length cap] wr fun e w' => e = .returned (.bool (callsB cs)) ∧ Below wr.heap.size wr w') := fun wr hb => l2callsOK_any cs a cap wr (hs.below hb) hn (fun c hc => (hok c hc).1)
  have HL : Hid (knobsB ex sp f = true → callsB cs = true → ∀ wr, Below w.heap.size w wr → Calls Tryz.prog 17 #[.slice a cs.length cap, .agg #[.int .i64 ex, .int .i64 sp, .int .i64 f]] wr fun e w' => ∃ av cv out, e = .returned (.agg #[.slice av (List.length out) cv]) ∧ IsLearn cs ex sp f out ∧ (∀ w2, w'.heap.size ≤ w2.heap.size → (∀ q, wr.heap.size ≤ q → q < w'.heap.size → w2.heap[q]? = w'.heap[q]?) → LSrc 3 PEC w2 av out) ∧ out.length ≤ cv ∧ Below wr.heap.size wr w') := fun h1 h2 wr hb => by
    have g1 := of_decide_eq_true h1
    have g2 := of_decide_eq_true h2
    exact HL0 ⟨g1.2.2.2.2.1, g1.2.2.2.2.2⟩ a cap wr (hs.below hb) hcap (fun c hc => ⟨g2.2 c hc, (hok c hc).2⟩) g2.1
  have HF : Hid (∀ av cv out w2, knobsB ex sp f = true → callsB cs = true → IsLearn cs ex sp f out → (∀ w3 : World, w2.heap.size ≤ w3.heap.size → (∀ q, w.heap.size ≤ q → q < w2.heap.size → w3.heap[q]? = w2.heap[q]?) → LSrc 3 PEC w3 av out) → out.length ≤ cv → Below w.heap.size w w2 → SpecLearnP cs ex sp f w (.returned (.tuple #[.agg #[.slice av (List.length out) cv], .int .i64 0])) w2) := fun av cv out w2 h1 h2 h3 h4 h5 h6 => .inl ⟨by rw [h1, h2]; rfl, av, cv, out, rfl, h3, h4, h5, h6⟩
  have HB : Hid (∀ w2, (knobsB ex sp f && callsB cs) = false → Below w.heap.size w w2 → SpecLearnP cs ex sp f w (.returned (.tuple #[.agg #[.slice none 0 0], .int .i64 1])) w2) := fun w2 h1 h2 => .inr ⟨h1, rfl, h2⟩
  have B2 : Below w.heap.size w ((w.alloc (.cells #[.int .i64 ex, .int .i64 sp, .int .i64 f] 33)).alloc (.cells #[.slice none 0 0] 28)) := ((Below.refl _ _).alloc (Nat.le_refl _) _).alloc (by simp) _
  have q0 := box1 (w.alloc (.cells #[.int .i64 ex, .int .i64 sp, .int .i64 f] 33)) 28 (.slice none 0 0)
  have q2 : ((w.alloc (.cells #[.int .i64 ex, .int .i64 sp, .int .i64 f] 33)).alloc (.cells #[.slice none 0 0] 28)).frozen? ⟨(w.alloc (.cells #[.int .i64 ex, .int .i64 sp, .int .i64 f] 33)).heap.size, 0, none⟩ = false := by simp
  rw [show (w.alloc (.cells #[.int .i64 ex, .int .i64 sp, .int .i64 f] 33)).heap.size = w.heap.size + 1 by simp] at q0 q2
  have X2 := (Box3.new w 33 (.int .i64 ex) (.int .i64 sp) (.int .i64 f)).alloc (.cells #[.slice none 0 0] 28)
  have hlt := cell_ltM q0
  clear HL0 hs hok hcap
  generalize knobsB ex sp f = kb at *
  generalize callsB cs = cb at *
  generalize cs.length = n at *
  obtain ⟨_, k0, k1, k2, _, _, _⟩ := id X2
  go_enter Tryz.func5, Tryz.ntmps5
  go_wp2_with fail
  generalize (w.alloc (.cells #[.int .i64 ex, .int .i64 sp, .int .i64 f] 33)).alloc (.cells #[.slice none 0 0] 28) = W2 at *
  refine (HK.out W2).mono ?_
  rintro _ w1 ⟨rfl, hb1⟩
  have B1 := below_step hb1 B2
  have c0 := cell_step hb1 q0
  have f0 : w1.frozen? ⟨w.heap.size + 1, 0, none⟩ = false := (hb1.frozen (p := ⟨w.heap.size + 1, 0, none⟩) hlt).trans q2
  have X1 := X2.keep hb1
  clear q0 q2 X2 hb1 B2 HK hlt k0 k1 k2
  cases kb with
  | false =>
    have HB' : Hid (SpecLearnP cs ex sp f w (.returned (.tuple #[.agg #[.slice none 0 0], .int .i64 1])) (w1.setCell ⟨w.heap.size + 1, 0, none⟩ (.slice none 0 0))) := HB.out (w1.setCell ⟨w.heap.size + 1, 0, none⟩ (.slice none 0 0)) (by first | rfl | trivial | simp) (B1.setCell (p := ⟨w.heap.size + 1, 0, none⟩) (show w.heap.size ≤ w.heap.size + 1 by omega) _)
    clear HB HF HL HC X1
    go_wp2
    exact bodyPost_ret (v := .tuple #[.agg #[.slice none 0 0], .int .i64 1]) (by simp [results, Tryz.results5, go_sem, c0]) rfl HB'.out
  | true =>
    go_wp2_with fail
    refine (HC.out w1 B1).mono ?_
    rintro _ w3 ⟨rfl, hb3⟩
    have B3 := below_step hb3 B1
    have c3 := cell_step hb3 c0
    have f3 : w3.frozen? ⟨w.heap.size + 1, 0, none⟩ = false := (hb3.frozen (p := ⟨w.heap.size + 1, 0, none⟩) (cell_ltM c0)).trans f0
    obtain ⟨_, k0, k1, k2, _, _, _⟩ := X1.keep hb3
    clear c0 f0 X1 hb3 B1 HC
    cases cb with
    | false =>
      have HB' : Hid (SpecLearnP cs ex sp f w (.returned (.tuple #[.agg #[.slice none 0 0], .int .i64 1])) (w3.setCell ⟨w.heap.size + 1, 0, none⟩ (.slice none 0 0))) := HB.out (w3.setCell ⟨w.heap.size + 1, 0, none⟩ (.slice none 0 0)) (by first | rfl | trivial | simp) (B3.setCell (p := ⟨w.heap.size + 1, 0, none⟩) (show w.heap.size ≤ w.heap.size + 1 by omega) _)
      clear HB HF HL
      go_wp2
      exact bodyPost_ret (v := .tuple #[.agg #[.slice none 0 0], .int .i64 1]) (by simp [results, Tryz.results5, go_sem, c3]) rfl HB'.out
    | true =>
      have HL' : Hid (∀ wr, Below w.heap.size w wr → Calls Tryz.prog 17 #[.slice a n cap, .agg #[.int .i64 ex, .int .i64 sp, .int .i64 f]] wr fun e w' => ∃ av cv out, e = .returned (.agg #[.slice av (List.length out) cv]) ∧ IsLearn cs ex sp f out ∧ (∀ w2, w'.heap.size ≤ w2.heap.size → (∀ q, wr.heap.size ≤ q → q < w'.heap.size → w2.heap[q]? = w'.heap[q]?) → LSrc 3 PEC w2 av out) ∧ out.length ≤ cv ∧ Below wr.heap.size wr w') := fun wr hb => HL.out (by first | rfl | trivial) (by first | rfl | trivial) wr hb
      clear HL
      go_wp2_with fail
      refine (HL'.out w3 B3).mono ?_
      rintro _ w4 ⟨av, cv, out, rfl, hl1, hl2, hl3, hb4⟩
      have h13 : w.heap.size + 1 < w3.heap.size := cell_ltM c3
      have c4 := cell_step hb4 c3
      have f4 : w4.frozen? ⟨w.heap.size + 1, 0, none⟩ = false := (hb4.frozen (p := ⟨w.heap.size + 1, 0, none⟩) h13).trans f3
      have HF' : Hid (SpecLearnP cs ex sp f w (.returned (.tuple #[.agg #[.slice av out.length cv], .int .i64 0])) (w4.setCell ⟨w.heap.size + 1, 0, none⟩ (.slice av out.length cv))) := HF.out av cv out (w4.setCell ⟨w.heap.size + 1, 0, none⟩ (.slice av out.length cv)) (by first | rfl | trivial) (by first | rfl | trivial) hl1 (fun w9 g1 g2 => hl2 w9 (by simpa [World.setCell] using g1) (fun q h1 h2 => (g2 q (by omega) (by simpa [World.setCell] using h2)).trans (by simp only [World.setCell, Array.getElem?_modify]; rw [if_neg (by omega)]))) hl3 ((below_step hb4 B3).setCell (p := ⟨w.heap.size + 1, 0, none⟩) (show w.heap.size ≤ w.heap.size + 1 by omega) _)
      clear HF HB HL' hl1 hl2 hl3 hb4 c3 f3 k0 k1 k2
      go_wp2
      exact bodyPost_ret (v := .tuple #[.agg #[.slice av out.length cv], .int .i64 0]) (by simp [results, Tryz.results5, go_sem, c4]) rfl HF'.out
end Go.Proofs.YtljhccolmcoifaaGreat
namespace Go.Proofs.YtljhccolmcoifaaGreat
open Go.RowKit Go.Deep

theorem specLearn_any (ex sp f : Int) (cs : List C) (a : Option Addr) (cap : Nat) (w : World) (hs : CSrc w a cs) (hcap : cs.length ≤ cap) (ho : okC cs) (hok : ∀ c ∈ cs, c.args.length ≤ 1048576 ∧ ∀ y ∈ c.args, 0 ≤ y ∧ y ≤ 18446744073709551615) (hn : cs.length ≤ 1048576) :
    Calls Tryz.prog 5 #[.slice a cs.length cap, .agg #[.int .i64 ex, .int .i64 sp, .int .i64 f]] w (SpecLearnP cs ex sp f w) :=
  specLearn_of ex sp f cs (fun hf a cap w hs hcap hc hn => l4learn_of ex sp f (fun t a cap w hs hc hn => l4rules_any t a cap ex sp f w hs hc hn hf) cs a cap w hs hcap ho hc hn) a cap w hs hcap hok hn
end Go.Proofs.YtljhccolmcoifaaGreat
namespace Go.Proofs.YtljhccolmcoifaaGreat
open Go.RowKit
set_option linter.unusedVariables false

/-- all blocks but those of S are as they were -/
structure Far (w w' : World) (S : Nat → Prop) : Prop where
  os : w'.os = w.os
  tape : w'.tape = w.tape
  output : w'.output = w.output
  size : w.heap.size ≤ w'.heap.size
  block : ∀ q, q < w.heap.size → ¬ S q → w'.heap[q]? = w.heap[q]?
theorem Far.refl (w : World) (S : Nat → Prop) : Far w w S := ⟨rfl, rfl, rfl, Nat.le_refl _, fun _ _ _ => rfl⟩
theorem Far.trans {w w1 w2 : World} {S : Nat → Prop} (h : Far w w1 S) (h' : Far w1 w2 S) : Far w w2 S :=
  ⟨h'.os.trans h.os, h'.tape.trans h.tape, h'.output.trans h.output, Nat.le_trans h.size h'.size, fun q hq hS => (h'.block q (Nat.lt_of_lt_of_le hq h.size) hS).trans (h.block q hq hS)⟩
theorem Far.grown {w w1 : World} {S : Nat → Prop} {r : Option Nat} (h : w.grownBy w1 r) (hr : ∀ q, r = some q → S q) : Far w w1 S :=
  ⟨h.os, h.tape, h.output, h.size, fun q hq hS => h.block q hq (fun e => hS (hr q e.symm))⟩
theorem Far.set {w w1 : World} {S : Nat → Prop} (h : Far w w1 S) (D j : Nat) (v : Value) (hD : S D) : Far w (w1.setCell ⟨D, j, none⟩ v) S :=
  h.trans (Far.grown (grown_setCell (World.grownBy.refl w1 (some D)) j v) (fun q hq => by have : D = q := by simpa using hq
                                                                                          subst this; exact hD))
theorem Far.toBelow {w w1 w2 : World} {S : Nat → Prop} {B : Nat} (hb : Below B w w1) (h : Far w1 w2 S) (hB : B ≤ w1.heap.size) (hS : ∀ q, S q → B ≤ q) : Below B w w2 :=
  ⟨h.os.trans hb.os, h.tape.trans hb.tape, h.output.trans hb.output, Nat.le_trans hb.size h.size, fun q hq => (h.block q (Nat.lt_of_lt_of_le hq hB) (fun hs => by have := hS q hs; omega)).trans (hb.block q hq)⟩
theorem row_block {w w1 : World} {base t s n : Nat} {v : Value} {xs : List Value} (h : w.ownsRow base t s v n xs) (e : ∀ q, v.ownBlock = some q → w1.heap[q]? = w.heap[q]?) : w1.ownsRow base t s v n xs := by
  obtain ⟨h0, h | ⟨g, cap, cur, rfl, hb, hg, hr⟩⟩ := h
  · exact ⟨h0, .inl h⟩
  · exact ⟨h0, .inr ⟨g, cap, cur, rfl, hb, (e g (by simp [Value.ownBlock])).trans hg, hr⟩⟩
theorem owns_far {w w1 : World} {S : Nat → Prop} {B : Nat} {v : Value} {l : List Int} (h : owns w B v l) (hf : Far w w1 S) (hS : ∀ q, v.ownBlock = some q → ¬ S q) : owns w1 B v l :=
  row_block h (fun q hq => hf.block q (h.lt q hq).2 (hS q hq))
theorem MarkedU.keep {w w1 : World} {v : Value} {n : Nat} {k : Int} (h : MarkedU w v n k) (e : ∀ q, v.ownBlock = some q → w1.heap[q]? = w.heap[q]?) : MarkedU w1 v n k := by
  rcases h with h | ⟨g, cap, rfl, hc, f, hr, hf⟩
  · exact .inl h
  · exact .inr ⟨g, cap, rfl, hc, f, hr.of_block (e g (by simp [Value.ownBlock])), hf⟩

/-- the mark at which call j begins -/
def kN (cs : List C) (k : Int) (j : Nat) : Int := k + 2 * j + tot (cs.take j)
/-- the calls ahead of number i hold their marks -/
structure MidC (w : World) (D N : Nat) (vs : Nat → Value) (cs : List C) (k : Int) (i : Nat) : Prop where
  row : ∃ f, w.rowIs D 48 (N * 3) f ∧ (∀ j, j < i → f (j * 3) = .int .u32 (kN cs k j) ∧ f (j * 3 + 1) = .int .u32 (kN cs k j + 1)) ∧ ∀ j, j < cs.length → f (j * 3 + 2) = vs j
  le : cs.length ≤ N
  done : ∀ j, j < i → MarkedU w (vs j) (cs.getD j C.zero).args.length (kN cs k j + 2)
  left : ∀ j, i ≤ j → j < cs.length → ownsU w (D + 1) (vs j) (cs.getD j C.zero).args
  gt : ∀ j q, j < cs.length → (vs j).ownBlock = some q → D < q
  inc : ∀ i j p q, i < j → j < cs.length → (vs i).ownBlock = some p → (vs j).ownBlock = some q → p < q
def setC (cs : List C) (D : Nat) (vs : Nat → Value) (q : Nat) : Prop := q = D ∨ ∃ j, j < cs.length ∧ (vs j).ownBlock = some q

theorem MidC.start {w : World} {D N : Nat} {vs : Nat → Value} {cs : List C} (h : OwnC w D N vs cs) (k : Int) : MidC w D N vs cs k 0 := by
  obtain ⟨f, hr, hf⟩ := h.row
  exact ⟨⟨f, hr, fun j hj => by omega, fun j hj => (hf j hj).2.2⟩, h.le, fun j hj => by omega, fun j _ hj => h.own j hj, fun j q hj hq => by have := ((h.own j hj).lt q hq).1; omega, h.inc⟩
theorem MidC.step {w w2 : World} {D N i : Nat} {vs : Nat → Value} {cs : List C} {k : Int} (h : MidC w D N vs cs k i) (hi : i < cs.length)
    (hg : ((w.setCell ⟨D, i * 3, none⟩ (.int .u32 (kN cs k i))).setCell ⟨D, i * 3 + 1, none⟩ (.int .u32 (kN cs k i + 1))).grownBy w2 (vs i).ownBlock) (hM : MarkedU w2 (vs i) (cs.getD i C.zero).args.length (kN cs k i + 2)) : MidC w2 D N vs cs k (i + 1) := by
  obtain ⟨f, hr, hf, hv⟩ := h.row
  have hr2 := (hr.set (i * 3) (.int .u32 (kN cs k i))).set (i * 3 + 1) (.int .u32 (kN cs k i + 1))
  have hDi : some D ≠ (vs i).ownBlock := fun e => by have := h.gt i D hi e.symm; omega
  have hr3 := hr2.of_block (w' := w2) (hg.block D hr2.lt hDi)
  have hne : ∀ j q, j < cs.length → j ≠ i → (vs j).ownBlock = some q → some q ≠ (vs i).ownBlock := by
    intro j q hj hji hq e
    by_cases h1 : j < i
    · have := h.inc j i q q h1 hi hq e.symm; omega
    · have := h.inc i j q q (by omega) hj e.symm hq; omega
  have hsz : ∀ q, q < w.heap.size → q < ((w.setCell ⟨D, i * 3, none⟩ (.int .u32 (kN cs k i))).setCell ⟨D, i * 3 + 1, none⟩ (.int .u32 (kN cs k i + 1))).heap.size := fun q hq => by simpa [World.setCell] using hq
  have hbl : ∀ j q, j < cs.length → j ≠ i → (vs j).ownBlock = some q → q < w.heap.size → w2.heap[q]? = w.heap[q]? := by
    intro j q hj hji hq hlt
    have hqD := h.gt j q hj hq
    rw [hg.block q (hsz q hlt) (hne j q hj hji hq)]
    rw [Below.heap_setCell _ ⟨D, i * 3 + 1, none⟩ _ q (by show q ≠ D; omega), Below.heap_setCell _ ⟨D, i * 3, none⟩ _ q (by show q ≠ D; omega)]
  refine ⟨⟨_, hr3, fun j hj => ?_, fun j hj => ?_⟩, h.le, fun j hj => ?_, fun j hj1 hj2 => ?_, h.gt, h.inc⟩
  · by_cases e : j = i
    · subst e
      exact ⟨by rw [if_neg (by omega), if_pos rfl], by rw [if_pos rfl]⟩
    · obtain ⟨f0, f1⟩ := hf j (by omega)
      exact ⟨by rw [if_neg (by omega), if_neg (by omega), f0], by rw [if_neg (by omega), if_neg (by omega), f1]⟩
  · rw [if_neg (by omega), if_neg (by omega), hv j hj]
  · by_cases e : j = i
    · subst e; exact hM
    · have hd := h.done j (by omega)
      refine hd.keep (fun q hq => hbl j q (by omega) e hq ?_)
      rcases hd with ⟨h1, _⟩ | ⟨g, cap, h1, _, f', hr', _⟩
      · rw [h1] at hq; simp [Value.ownBlock] at hq
      · rw [h1] at hq
        have : g = q := by simpa [Value.ownBlock] using hq
        subst this; exact hr'.lt
  · have ho := h.left j (by omega) hj2
    exact row_block ho (fun q hq => hbl j q hj2 (by omega) hq (ho.lt q hq).2)
end Go.Proofs.YtljhccolmcoifaaGreat
namespace Go.Proofs.YtljhccolmcoifaaGreat
open Go.RowKit
set_option linter.unusedVariables false

theorem kN_succ {cs : List C} {k : Int} {i : Nat} (h : i < cs.length) : kN cs k (i + 1) = kN cs k i + 2 + (cs.getD i C.zero).args.length := by
  unfold kN; rw [tot_take_succ h]; push_cast; omega
theorem kN_bd {cs : List C} {k : Int} (i : Nat) (h0 : 0 ≤ k) (h1 : k ≤ 16) (hi : i ≤ cs.length) (ht : cs.length + tot cs ≤ 1048576) : 0 ≤ kN cs k i ∧ kN cs k i ≤ 4194304 := by
  have := tot_take_le cs i
  unfold kN; omega

set_option maxRecDepth 100000 in
set_option maxHeartbeats 800000 in
theorem markCallS_own (D N cap : Nat) (vs : Nat → Value) (cs : List C) (k : Int) (w : World) (h : OwnC w D N vs cs) (ht : cs.length + tot cs ≤ 1048576) (h0 : 0 ≤ k) (h1 : k ≤ 16) :
    Calls Tryz.prog 11 #[.slice (some ⟨D, 0, none⟩) cs.length cap, .int .i64 k] w fun e w' => e = .returned (.int .i64 (kN cs k cs.length)) ∧ MidC w' D N vs cs k cs.length ∧ Far w w' (setC cs D vs) := by
  have HM0 := MidC.start h k
  have hN := h.le
  have HK : Hid (∀ i, i < cs.length → kN cs k (i + 1) = kN cs k i + 2 + (cs.getD i C.zero).args.length) := fun i hi => kN_succ hi
  have HB : Hid (∀ i, i ≤ cs.length → 0 ≤ kN cs k i ∧ kN cs k i ≤ 4194304) := fun i hi => kN_bd i h0 h1 hi ht
  have HL : Hid (∀ i, i < cs.length → (cs.getD i C.zero).args.length ≤ 1048576) := fun i hi => by have := tot_mem (callL_mem hi); omega
  have HSt : Hid (∀ i w1 w2, i < cs.length → MidC w1 D N vs cs k i → ((w1.setCell ⟨D, i * 3, none⟩ (.int .u32 (kN cs k i))).setCell ⟨D, i * 3 + 1, none⟩ (.int .u32 (kN cs k i + 1))).grownBy w2 (vs i).ownBlock → MarkedU w2 (vs i) (cs.getD i C.zero).args.length (kN cs k i + 2) → MidC w2 D N vs cs k (i + 1)) :=
    fun i w1 w2 hi hm hg hM => hm.step hi hg hM
  have HC : Hid (∀ i w1, i < cs.length → MidC w1 D N vs cs k i → (∃ v0, w1.cell? ⟨D, i * 3, none⟩ = some v0 ∧ w1.frozen? ⟨D, i * 3, none⟩ = false) ∧ (∃ v1, w1.cell? ⟨D, i * 3 + 1, none⟩ = some v1 ∧ w1.frozen? ⟨D, i * 3 + 1, none⟩ = false) ∧ w1.cell? ⟨D, i * 3 + 2, none⟩ = some (vs i) ∧ D < w1.heap.size) := by
    intro i w1 hi hm
    obtain ⟨f, hr, _, hv⟩ := hm.row
    exact ⟨⟨_, hr.cell (by omega), hr.frozen _⟩, ⟨_, hr.cell (by omega), hr.frozen _⟩, by rw [hr.cell (by omega), hv i hi], hr.lt⟩
  have HU : Hid (∀ i w1, i < cs.length → MidC w1 D N vs cs k i → ∀ x y, (∃ ax cx, vs i = .slice ax (cs.getD i C.zero).args.length cx) ∧ Calls Tryz.prog 34 #[vs i, .int .i64 (kN cs k i + 1 + 1)] ((w1.setCell ⟨D, i * 3, none⟩ x).setCell ⟨D, i * 3 + 1, none⟩ y) fun e w' => e = .returned (.int .i64 (kN cs k i + 2 + (cs.getD i C.zero).args.length)) ∧ MarkedU w' (vs i) (cs.getD i C.zero).args.length (kN cs k i + 2) ∧ ((w1.setCell ⟨D, i * 3, none⟩ x).setCell ⟨D, i * 3 + 1, none⟩ y).grownBy w' (vs i).ownBlock) := by
    intro i w1 hi hm x y
    have ho := hm.left i (Nat.le_refl _) hi
    have hne : ∀ q, (vs i).ownBlock = some q → q ≠ D := fun q hq => by have := hm.gt i q hi hq; omega
    have hb := HB.out i (by omega)
    obtain ⟨ax, cx, e1, _⟩ := ownsU_src ho
    refine ⟨⟨ax, cx, e1⟩, ?_⟩
    rw [show kN cs k i + 1 + 1 = kN cs k i + 2 by omega]
    exact markUint64S_own _ (ownsU_set (ownsU_set ho hne) hne) (by have := HL.out i hi; omega) (by omega) (by omega)
  have HF : Hid (∀ i w1 w2 x y, i < cs.length → Far w w1 (setC cs D vs) → ((w1.setCell ⟨D, i * 3, none⟩ x).setCell ⟨D, i * 3 + 1, none⟩ y).grownBy w2 (vs i).ownBlock → Far w w2 (setC cs D vs)) :=
    fun i w1 w2 x y hi hf hg => ((hf.set D _ x (.inl rfl)).set D _ y (.inl rfl)).trans (Far.grown hg (fun q hq => .inr ⟨i, hi, hq⟩))
  have HE : Hid (kN cs k 0 = k) := by show _ = _; unfold kN; simp [tot]
  obtain ⟨n, hn'⟩ : ∃ n, cs.length = n := ⟨_, rfl⟩
  have hn : n ≤ 1048576 := by omega
  rw [hn'] at HK HB HL HSt HC HU HF hN ⊢
  clear h ht hn'
  obtain ⟨MC, hMC⟩ : ∃ MC : World → Nat → Prop, ∀ w i, MidC w D N vs cs k i = MC w i := ⟨_, fun _ _ => rfl⟩
  simp only [hMC] at HM0 HSt HC HU ⊢
  clear hMC
  obtain ⟨K, hK⟩ : ∃ K : Nat → Int, ∀ i, kN cs k i = K i := ⟨_, fun _ => rfl⟩
  simp only [hK] at HK HB HSt HU HE ⊢
  clear hK
  obtain ⟨AL, hAL⟩ : ∃ AL : Nat → Nat, ∀ i, (cs.getD i C.zero).args.length = AL i := ⟨_, fun _ => rfl⟩
  simp only [hAL] at HK HL HSt HU
  clear hAL
  generalize setC cs D vs = S at *
  go_enter Tryz.func11, Tryz.ntmps11
  go_wp2_with fail
  go_loopw [1, 5] (fun q i wr => ∃ j : Nat, j ≤ n ∧ i = .int .i64 j ∧ q = .int .i64 (K j) ∧ MC wr j ∧ Far w wr S) (fun _ i _ => n - (intOf i).toNat)
  case atStart => exact ⟨0, by omega, rfl, by rw [HE.out], HM0, Far.refl _ _⟩
  case round =>
    obtain ⟨j, hj, rfl, rfl, hM, hFr⟩ := hrel
    clear HM0 HE
    by_cases hlt : j < n
    · obtain ⟨⟨v0, c0, f0⟩, ⟨v1, c1, f1⟩, c2, hD⟩ := HC.out j wr hlt hM
      obtain ⟨⟨ax, cx, hvx⟩, hcall⟩ := HU.out j wr hlt hM (.int .u32 (K j)) (.int .u32 (K j + 1))
      have HCl : Hid (Calls Tryz.prog 34 #[vs j, .int .i64 (K j + 1 + 1)] ((wr.setCell ⟨D, j * 3, none⟩ (.int .u32 (K j))).setCell ⟨D, j * 3 + 1, none⟩ (.int .u32 (K j + 1))) fun e w' => e = .returned (.int .i64 (K j + 2 + AL j)) ∧ MarkedU w' (vs j) (AL j) (K j + 2) ∧ ((wr.setCell ⟨D, j * 3, none⟩ (.int .u32 (K j))).setCell ⟨D, j * 3 + 1, none⟩ (.int .u32 (K j + 1))).grownBy w' (vs j).ownBlock) := hcall
      have HS1 : Hid (∀ w2, ((wr.setCell ⟨D, j * 3, none⟩ (.int .u32 (K j))).setCell ⟨D, j * 3 + 1, none⟩ (.int .u32 (K j + 1))).grownBy w2 (vs j).ownBlock → MarkedU w2 (vs j) (AL j) (K j + 2) → MC w2 (j + 1)) := fun w2 => HSt.out j wr w2 hlt hM
      have HF1 : Hid (∀ w2, ((wr.setCell ⟨D, j * 3, none⟩ (.int .u32 (K j))).setCell ⟨D, j * 3 + 1, none⟩ (.int .u32 (K j + 1))).grownBy w2 (vs j).ownBlock → Far w w2 S) := fun w2 => HF.out j wr w2 _ _ hlt hFr
      have HK1 : Hid (K (j + 1) = K j + 2 + AL j) := HK.out j hlt
      obtain ⟨k0, k1⟩ := HB.out j (by omega)
      have hal := HL.out j hlt
      clear HC HU HSt HF HK HB HL hcall hM hFr
      generalize vs j = vj at *
      subst hvx
      generalize AL j = m at *
      generalize hKj : K j = kj at *
      clear hKj
      go_wp2_with fail
      refine HCl.out.mono ?_
      rintro e w2 ⟨rfl, hMk, hg⟩
      have hM2 := HS1.out w2 hg hMk
      have hF2 := HF1.out w2 hg
      clear HCl HS1 HF1 hMk hg c0 c1 c2 f0 f1
      go_wp2
      go_roundw
      case rel => exact ⟨j + 1, by omega, by go_num, by rw [HK1.out], hM2, hF2⟩
      case measure => simp [intOf]; omega
    · have hjn : j = n := by omega
      subst hjn
      go_wp2
      go_ret
      exact ⟨rfl, hM, hFr⟩

end Go.Proofs.YtljhccolmcoifaaGreat
