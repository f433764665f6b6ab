/-
  MrkA, MrkB, MrkC, PolU, PolV, PolX, PolY, PolZ, MrkF, CovI
-/
import Derived.Test.YtoamapdfcdefjaaGreatQ11
import Derived.Test.YtoamapdfcdefjaaGreatQ04
import Derived.Test.YtoamapdfcdefjaaGreatQ22
import Derived.Test.YtoamapdfcdefjaaGreatQ02
namespace Go.Proofs.YtoamapdfcdefjaaGreat
open Go.RowKit
set_option linter.unusedVariables false

abbrev AdK := Addr × IntKind
/-- what cells hold when k, k + 1, .. are written at the addresses, one after another -/
def after : List AdK → Int → (Addr → Option Value) → Addr → Option Value
  | [], _, f => f
  | x :: A, k, f => after A (k + 1) (fun q => if q = x.1 then some (.int x.2 k) else f q)
theorem after_append (A B : List AdK) (k : Int) (f : Addr → Option Value) : after (A ++ B) k f = after B (k + A.length) (after A k f) := by
  induction A generalizing k f with
  | nil => simp [after]
  | cons x A ih =>
    simp only [List.cons_append, after, List.length_cons]
    rw [ih]
    congr 1
    omega
theorem after_out {A : List AdK} {k : Int} {f : Addr → Option Value} {q : Addr} (h : ∀ x ∈ A, x.1 ≠ q) : after A k f q = f q := by
  induction A generalizing k f with
  | nil => rfl
  | cons x A ih =>
    rw [after, ih (fun y hy => h y (by simp [hy])), if_neg (fun e => h x (by simp) e.symm)]
theorem after_get {A : List AdK} {k : Int} {f : Addr → Option Value} (hn : (A.map Prod.fst).Nodup) {j : Nat} (hj : j < A.length) : after A k f A[j].1 = some (.int A[j].2 (k + j)) := by
  induction A generalizing k f j with
  | nil => simp at hj
  | cons x A ih =>
    rw [List.map_cons, List.nodup_cons] at hn
    cases j with
    | zero =>
      simp only [List.getElem_cons_zero, after]
      rw [after_out (fun y hy e => hn.1 (by rw [← e]; exact List.mem_map_of_mem hy)), if_pos rfl]
      simp
    | succ j =>
      simp only [List.getElem_cons_succ, after]
      rw [ih hn.2 (by simpa using hj)]
      congr 2
      push_cast
      omega
/-- numbers lie there, free to be written -/
def IntsAt (w : World) (A : List AdK) : Prop := ∀ x ∈ A, (∃ n, w.cell? x.1 = some (.int x.2 n)) ∧ w.frozen? x.1 = false
/-- numbers stay numbers, slices stay as they are -/
structure Sim (w w' : World) : Prop where
  ints : ∀ p t n, w.cell? p = some (.int t n) → ∃ m, w'.cell? p = some (.int t m)
  rows : ∀ p a n c, w.cell? p = some (.slice a n c) → w'.cell? p = some (.slice a n c)
  frozen : ∀ p, w'.frozen? p = w.frozen? p
theorem Sim.refl (w : World) : Sim w w := ⟨fun p t n h => ⟨n, h⟩, fun p a n c h => h, fun p => rfl⟩
theorem IntsAt.sim {w w' : World} {A : List AdK} (h : IntsAt w A) (s : Sim w w') : IntsAt w' A := fun x hx => by
  obtain ⟨⟨n, h1⟩, h2⟩ := h x hx
  exact ⟨s.ints _ _ _ h1, (s.frozen _).trans h2⟩
/-- k, k + 1, .. were written at the addresses -/
structure Wrote (w w' : World) (A : List AdK) (k : Int) : Prop where
  cell : ∀ p, w'.cell? p = after A k w.cell? p
  sim : Sim w w'
  size : w'.heap.size = w.heap.size
  below : ∀ L, (∀ x ∈ A, L ≤ x.1.block) → Below L w w'
  block : ∀ b, (∀ x ∈ A, x.1.block ≠ b) → w'.heap[b]? = w.heap[b]?
theorem Wrote.refl (w : World) (k : Int) : Wrote w w [] k := ⟨fun p => rfl, Sim.refl w, rfl, fun L _ => Below.refl _ _, fun b _ => rfl⟩
theorem Wrote.drew {w w' : World} {A : List AdK} {k : Int} (h : Wrote w w' A k) : Wrote w w'.drew A k := ⟨h.cell, ⟨h.sim.ints, h.sim.rows, h.sim.frozen⟩, h.size, fun L hL => (h.below L hL).drew, h.block⟩
theorem Sim.set {w : World} {p : Addr} {t : IntKind} {n m : Int} (h : w.cell? p = some (.int t n)) : Sim w (w.setCell p (.int t m)) := by
  refine ⟨fun q t' n' h' => ?_, fun q a n' c h' => ?_, fun q => by simp⟩
  · by_cases e : p = q
    · subst e
      rw [h] at h'
      cases h'
      exact ⟨m, World.cell?_setCell_same' _ _ _ (by rw [h]; rfl)⟩
    · exact ⟨n', (World.cell?_setCell_other _ _ _ _ e).trans h'⟩
  · have e : p ≠ q := fun e => by rw [← e, h] at h'; cases h'
    exact (World.cell?_setCell_other _ _ _ _ e).trans h'
theorem Sim.trans {a b c : World} (h : Sim a b) (h' : Sim b c) : Sim a c :=
  ⟨fun p t n e => by obtain ⟨m, e1⟩ := h.ints p t n e; exact h'.ints p t m e1, fun p x n cc e => h'.rows _ _ _ _ (h.rows _ _ _ _ e), fun p => (h'.frozen p).trans (h.frozen p)⟩
theorem Wrote.trans {a b c : World} {A B : List AdK} {k : Int} {k' : Int} (h : Wrote a b A k) (h' : Wrote b c B k') (hk : k' = k + A.length) : Wrote a c (A ++ B) k := by
  subst hk
  refine ⟨fun p => ?_, h.sim.trans h'.sim, h'.size.trans h.size, fun L hL => ?_, fun bk hb => ?_⟩
  · rw [h'.cell p, after_append]
    congr 1
    funext q
    exact h.cell q
  · exact (h.below L fun x hx => hL x (by simp [hx])).trans (h'.below L fun x hx => hL x (by simp [hx]))
  · exact (h'.block bk fun x hx => hb x (by simp [hx])).trans (h.block bk fun x hx => hb x (by simp [hx]))
theorem Wrote.one {w : World} {b o : Nat} {t : IntKind} {n k : Int} (h : w.cell? ⟨b, o, none⟩ = some (.int t n)) : Wrote w (w.setCell ⟨b, o, none⟩ (.int t k)) [(⟨b, o, none⟩, t)] k := by
  refine ⟨fun p => ?_, Sim.set h, by simp, fun L hL => (Below.refl _ _).setCell (p := ⟨b, o, none⟩) (hL (⟨b, o, none⟩, t) (by simp)) _, fun c hc => ?_⟩
  · simp only [after]
    by_cases e : p = ⟨b, o, none⟩
    · subst e
      rw [if_pos rfl, World.cell?_setCell_same' _ _ _ (by rw [h]; rfl)]
    · rw [if_neg e]; exact World.cell?_setCell_other _ _ _ _ (fun q => e q.symm)
  · have := hc (⟨b, o, none⟩, t) (by simp)
    simp only [World.setCell, Array.getElem?_modify]; rw [if_neg this]
/-- k, k + 1, .. stand at the addresses -/
def HeldA (w : World) (A : List AdK) (k : Int) : Prop := ∀ j (h : j < A.length), w.cell? A[j].1 = some (.int A[j].2 (k + j))
theorem Wrote.held {w w' : World} {A : List AdK} {k : Int} (h : Wrote w w' A k) (hn : (A.map Prod.fst).Nodup) : HeldA w' A k := fun j hj => by
  rw [h.cell, after_get hn hj]
theorem HeldA.below {w w' : World} {A : List AdK} {k : Int} (h : HeldA w A k) (hb : Below w.heap.size w w') : HeldA w' A k := fun j hj => by
  have hc := h j hj
  have hl : A[j].1.block < w.heap.size := by
    simp only [World.cell?] at hc
    by_cases e : A[j].1.block < w.heap.size
    · exact e
    · rw [Array.getElem?_eq_none (by omega)] at hc; cases hc
  rw [hb.cell hl]; exact hc
theorem HeldA.left {w : World} {A B : List AdK} {k : Int} (h : HeldA w (A ++ B) k) : HeldA w A k := fun j hj => by
  have := h j (by rw [List.length_append]; omega)
  rw [List.getElem_append_left hj] at this; exact this
theorem HeldA.right {w : World} {A B : List AdK} {k k' : Int} (h : HeldA w (A ++ B) k) (hk : k' = k + A.length) : HeldA w B k' := fun j hj => by
  subst hk
  have := h (A.length + j) (by rw [List.length_append]; omega)
  rw [List.getElem_append_right (by omega)] at this
  simp only [Nat.add_sub_cancel_left] at this
  rw [this]
  congr 2
  push_cast
  omega

/-! the addresses -/
def a3 (b o : Nat) : List AdK := [(⟨b, o, none⟩, .i64), (⟨b, o + 1, none⟩, .u64), (⟨b, o + 2, none⟩, .u64)]
def conA (b o : Nat) (n : Nat) : List AdK := (List.range n).flatMap fun j => a3 b (o + j * 3)
theorem flat_succ {α : Type} (f : Nat → List α) (n : Nat) : (List.range (n + 1)).flatMap f = (List.range n).flatMap f ++ f n := by
  rw [List.range_succ, List.flatMap_append]; simp
theorem conA_succ (b o n : Nat) : conA b o (n + 1) = conA b o n ++ a3 b (o + n * 3) := flat_succ _ n
theorem conA_len (b o : Nat) : ∀ n, (conA b o n).length = n * 3
  | 0 => rfl
  | n + 1 => by rw [conA_succ, List.length_append, conA_len]; simp [a3]; omega
/-- the conditions of a slice -/
def SK (w : World) (a : Option Addr) (n : Nat) (A : List AdK) : Prop := (n = 0 ∧ A = []) ∨ ∃ b o, a = some ⟨b, o, none⟩ ∧ A = conA b o n ∧ IntsAt w A
/-- the rules of a slice -/
def SR (w : World) (a : Option Addr) (n : Nat) (A : List AdK) : Prop := n ≤ 1048576 ∧ ((n = 0 ∧ A = []) ∨ ∃ b o, a = some ⟨b, o, none⟩ ∧ ∃ F : Nat → List AdK, A = (List.range n).flatMap F ∧ ∀ i, i < n → ∃ a' n' c', w.cell? ⟨b, o + i, none⟩ = some (.slice a' n' c') ∧ SK w a' n' (F i))
def a2 (b o : Nat) : List AdK := [(⟨b, o, none⟩, .u32), (⟨b, o + 1, none⟩, .u32)]
/-- the entries of a slice -/
def SE (w : World) (a : Option Addr) (n : Nat) (A : List AdK) : Prop := n ≤ 1048576 ∧ ((n = 0 ∧ A = []) ∨ ∃ b o, a = some ⟨b, o, none⟩ ∧ ∃ F : Nat → List AdK, A = ((List.range n).flatMap fun i => a2 b (o + i * 3) ++ F i) ∧ ∀ i, i < n → IntsAt w (a2 b (o + i * 3)) ∧ ∃ a' n' c', w.cell? ⟨b, o + i * 3 + 2, none⟩ = some (.slice a' n' c') ∧ SR w a' n' (F i))
theorem SK.sim {w w' : World} {a : Option Addr} {n : Nat} {A : List AdK} (h : SK w a n A) (s : Sim w w') : SK w' a n A := by
  rcases h with h | ⟨b, o, h1, h2, h3⟩
  · exact .inl h
  · exact .inr ⟨b, o, h1, h2, h3.sim s⟩
theorem SR.sim {w w' : World} {a : Option Addr} {n : Nat} {A : List AdK} (h : SR w a n A) (s : Sim w w') : SR w' a n A := by
  obtain ⟨hm, h⟩ := h
  rcases h with h | ⟨b, o, h1, F, h2, h3⟩
  · exact ⟨hm, .inl h⟩
  · refine ⟨hm, .inr ⟨b, o, h1, F, h2, fun i hi => ?_⟩⟩
    obtain ⟨a', n', c', h4, h5⟩ := h3 i hi
    exact ⟨a', n', c', s.rows _ _ _ _ h4, h5.sim s⟩
theorem SE.sim {w w' : World} {a : Option Addr} {n : Nat} {A : List AdK} (h : SE w a n A) (s : Sim w w') : SE w' a n A := by
  obtain ⟨hm, h⟩ := h
  rcases h with h | ⟨b, o, h1, F, h2, h3⟩
  · exact ⟨hm, .inl h⟩
  · refine ⟨hm, .inr ⟨b, o, h1, F, h2, fun i hi => ?_⟩⟩
    obtain ⟨h6, a', n', c', h4, h5⟩ := h3 i hi
    exact ⟨h6.sim s, a', n', c', s.rows _ _ _ _ h4, h5.sim s⟩
end Go.Proofs.YtoamapdfcdefjaaGreat
namespace Go.Proofs.YtoamapdfcdefjaaGreat
open Go.RowKit
set_option linter.unusedVariables false

theorem Wrote.three {w wr : World} {A : List AdK} {b o : Nat} {k q : Int} {n0 n1 n2 : Int} (h : Wrote w wr A k) (hq : q = k + A.length) (c0 : wr.cell? ⟨b, o, none⟩ = some (.int .i64 n0)) (c1 : wr.cell? ⟨b, o + 1, none⟩ = some (.int .u64 n1)) (c2 : wr.cell? ⟨b, o + 2, none⟩ = some (.int .u64 n2)) :
    Wrote w (((wr.setCell ⟨b, o, none⟩ (.int .i64 q)).setCell ⟨b, o + 1, none⟩ (.int .u64 (q + 1))).setCell ⟨b, o + 2, none⟩ (.int .u64 (q + 1 + 1))) (A ++ a3 b o) k := by
  have h1 := Wrote.one (k := q) c0
  have h2 := Wrote.one (k := q + 1) (cell_near (D := b) (i := o) (v := .int .i64 q) (by omega) c1)
  have h3 := Wrote.one (k := q + 1 + 1) (cell_near (D := b) (i := o + 1) (v := .int .u64 (q + 1)) (by omega) (cell_near (D := b) (i := o) (v := .int .i64 q) (by omega) c2))
  have h4 := (h1.trans h2 (by simp)).trans h3 (by simp; omega)
  exact h.trans h4 hq
theorem Wrote.two {w wr : World} {A : List AdK} {b o : Nat} {k q : Int} {n0 n1 : Int} (h : Wrote w wr A k) (hq : q = k + A.length) (c0 : wr.cell? ⟨b, o, none⟩ = some (.int .u32 n0)) (c1 : wr.cell? ⟨b, o + 1, none⟩ = some (.int .u32 n1)) :
    Wrote w ((wr.setCell ⟨b, o, none⟩ (.int .u32 q)).setCell ⟨b, o + 1, none⟩ (.int .u32 (q + 1))) (A ++ a2 b o) k := by
  have h1 := Wrote.one (k := q) c0
  have h2 := Wrote.one (k := q + 1) (cell_near (D := b) (i := o) (v := .int .u32 q) (by omega) c1)
  exact h.trans (h1.trans h2 (by simp)) hq
theorem ret_i {x y : Int} (h : x = y) : Ending.returned (.int .i64 x) = .returned (.int .i64 y) := by rw [h]
theorem a3_mem {b o n j : Nat} (h : j < n) : ∀ x ∈ a3 b (o + j * 3), x ∈ conA b o n := fun x hx => List.mem_flatMap.2 ⟨j, List.mem_range.2 h, hx⟩
theorem mem_flat {α : Type} {F : Nat → List α} {n i : Nat} (h : i < n) {x : α} (hx : x ∈ F i) : x ∈ (List.range n).flatMap F := List.mem_flatMap.2 ⟨i, List.mem_range.2 h, hx⟩
theorem flat_len_le {α : Type} {F : Nat → List α} {n m : Nat} (h : m ≤ n) : ((List.range m).flatMap F).length ≤ ((List.range n).flatMap F).length := by
  obtain ⟨d, rfl⟩ := Nat.le.dest h
  induction d with
  | zero => exact Nat.le_refl _
  | succ d ih =>
    rw [show m + (d + 1) = (m + d) + 1 by omega, flat_succ, List.length_append]
    have := ih (by omega)
    omega

end Go.Proofs.YtoamapdfcdefjaaGreat
namespace Go.Proofs.YtoamapdfcdefjaaGreat
open Go.RowKit
set_option linter.unusedVariables false

def entA (b o : Nat) (F : Nat → List AdK) (j : Nat) : List AdK := (List.range j).flatMap fun i => a2 b (o + i * 3) ++ F i
theorem entA_succ (b o : Nat) (F : Nat → List AdK) (j : Nat) : entA b o F (j + 1) = entA b o F j ++ a2 b (o + j * 3) ++ F j := by
  rw [entA, flat_succ, ← List.append_assoc]; rfl
theorem entA_le (b o : Nat) (F : Nat → List AdK) {j n : Nat} (h : j ≤ n) : (entA b o F j).length ≤ (entA b o F n).length := flat_len_le h

theorem conA_get {b o n j : Nat} (h : j < n) (f : Nat) (hf : f < 3) (h' : j * 3 + f < (conA b o n).length) : (conA b o n)[j * 3 + f] = (a3 b (o + j * 3))[f] := by
  have key : ∀ n, j < n → (conA b o n)[j * 3 + f]? = (a3 b (o + j * 3))[f]? := by
    intro n
    induction n with
    | zero => intro h; omega
    | succ n ih =>
      intro h
      rw [conA_succ]
      by_cases e : j = n
      · subst e
        rw [List.getElem?_append_right (by rw [conA_len]; omega), conA_len]
        congr 1; omega
      · rw [List.getElem?_append_left (by rw [conA_len]; omega)]
        exact ih (by omega)
  have := key n h
  rw [List.getElem?_eq_getElem h', List.getElem?_eq_getElem (by simp [a3]; omega)] at this
  exact Option.some.inj this

end Go.Proofs.YtoamapdfcdefjaaGreat
namespace Go.Proofs.YtoamapdfcdefjaaGreat
open Go.RowKit
set_option linter.unusedVariables false

theorem infoCon : (Tryz.prog.info? 41).map (fun i => (i.zero, i.size, i.bytes)) = some (some (.agg #[.int .i64 0, .int .u64 0, .int .u64 0]), 3, 24) := by kernel_rfl
theorem infoRule : (Tryz.prog.info? 44).map (fun i => (i.zero, i.size, i.bytes)) = some (some (.agg #[.slice none 0 0]), 1, 24) := by kernel_rfl
theorem infoEntry : (Tryz.prog.info? 37).map (fun i => (i.zero, i.size, i.bytes)) = some (some (.agg #[.int .u32 0, .int .u32 0, .slice none 0 0]), 3, 32) := by kernel_rfl

end Go.Proofs.YtoamapdfcdefjaaGreat
namespace Go.Proofs.YtoamapdfcdefjaaGreat
open Go.RowKit
set_option linter.unusedVariables false

/-- a copied slice in new memory -/
def NewP {α : Type} (k : Nat) (P : Nat → World → Nat → Nat → α → Prop) (l : List α) (w : World) (wrap : Value → Value) (e : Ending) (w' : World) : Prop :=
  ∃ a cap, e = .returned (wrap (.slice a l.length cap)) ∧ (LSrcG w.heap.size k (P w.heap.size) w' a l ∧ l.length ≤ cap) ∧ Below w.heap.size w w'
theorem NewP.mk {α : Type} {k : Nat} {P : Nat → World → Nat → Nat → α → Prop} {l : List α} {w : World} {wrap : Value → Value} {w' : World} {a : Option Addr} {cap : Nat} {e : Ending} (he : e = .returned (wrap (.slice a l.length cap))) (h : LSrcG w.heap.size k (P w.heap.size) w' a l) (hc : l.length ≤ cap) (hb : Below w.heap.size w w') : NewP k P l w wrap e w' := ⟨a, cap, he, ⟨h, hc⟩, hb⟩

/-- a box of one cell -/
structure Box1 (w : World) (g : Nat) (x : Value) : Prop where
  lt : g < w.heap.size
  c0 : w.cell? ⟨g, 0, none⟩ = some x
  f0 : w.frozen? ⟨g, 0, none⟩ = false
theorem Box1.keep {w w1 : World} {g : Nat} {x : Value} (h : Box1 w g x) (hb : Below w.heap.size w w1) : Box1 w1 g x :=
  ⟨Nat.lt_of_lt_of_le h.lt hb.size, (hb.cell (p := ⟨g, 0, none⟩) h.lt).trans h.c0, (hb.frozen (p := ⟨g, 0, none⟩) h.lt).trans h.f0⟩
theorem Box1.new (w : World) (t : TypeId) (x : Value) : Box1 (w.alloc (.cells #[x] t)) w.heap.size x := ⟨by simp, by simp, by simp⟩

end Go.Proofs.YtoamapdfcdefjaaGreat
namespace Go.Proofs.YtoamapdfcdefjaaGreat
open Go.RowKit
set_option linter.unusedVariables false

end Go.Proofs.YtoamapdfcdefjaaGreat
namespace Go.Proofs.YtoamapdfcdefjaaGreat
open Go.RowKit
set_option linter.unusedVariables false

end Go.Proofs.YtoamapdfcdefjaaGreat
namespace Go.Proofs.YtoamapdfcdefjaaGreat
open Go.RowKit
set_option linter.unusedVariables false

def sumBy {α : Type} (f : α → Nat) : List α → Nat
  | [] => 0
  | x :: l => f x + sumBy f l
theorem sumBy_take {α : Type} (f : α → Nat) {l : List α} {k : Nat} (h : k < l.length) (d : α) : sumBy f (l.take (k + 1)) = sumBy f (l.take k) + f (l.getD k d) := by
  induction l generalizing k with
  | nil => simp at h
  | cons x l ih =>
    cases k with
    | zero => simp [sumBy]
    | succ k =>
      have := ih (k := k) (by simpa using h)
      simp only [List.take_succ_cons, sumBy, List.getD_cons_succ] at *
      omega
theorem sumBy_take_le {α : Type} (f : α → Nat) (l : List α) (k : Nat) : sumBy f (l.take k) ≤ sumBy f l := by
  induction l generalizing k with
  | nil => simp
  | cons x l ih =>
    cases k with
    | zero => simp [sumBy]
    | succ k => have := ih k; simp only [List.take_succ_cons, sumBy]; omega
theorem sumBy_mem {α : Type} (f : α → Nat) {l : List α} {x : α} (h : x ∈ l) : f x ≤ sumBy f l := by
  induction l with
  | nil => simp at h
  | cons y l ih =>
    simp only [List.mem_cons] at h
    rcases h with rfl | h
    · simp [sumBy]
    · have := ih h; simp [sumBy]; omega
def sizeRs (l : List (List K)) : Nat := l.length + sumBy List.length l
def sizeE (e : E) : Nat := sizeRs e.rules
def sizeP (p : List E) : Nat := p.length + sumBy sizeE p
/-- what is left, or -1 -/
def szF (left : Int) (s : Nat) : Int := if left < s then -1 else left - s
theorem szF_no {left : Int} {s : Nat} (h : left < s) : szF left s = -1 := if_pos h
theorem szF_yes {left : Int} {s : Nat} (h : ¬ left < s) : szF left s = left - s := if_neg h

end Go.Proofs.YtoamapdfcdefjaaGreat
namespace Go.Proofs.YtoamapdfcdefjaaGreat
open Go.RowKit
set_option linter.unusedVariables false

theorem conA_mem {b o n : Nat} {x : AdK} (h : x ∈ conA b o n) : x.1.block = b ∧ o ≤ x.1.off ∧ x.1.off < o + n * 3 := by
  obtain ⟨j, hj, hx⟩ := List.mem_flatMap.1 h
  have hj' := List.mem_range.1 hj
  simp only [a3, List.mem_cons, List.not_mem_nil, or_false] at hx
  rcases hx with rfl | rfl | rfl <;> refine ⟨rfl, ?_, ?_⟩ <;> simp only <;> omega
theorem IntsAt.below {w w' : World} {A : List AdK} (h : IntsAt w A) (hb : Below w.heap.size w w') : IntsAt w' A := fun x hx => by
  obtain ⟨⟨n, h1⟩, h2⟩ := h x hx
  have hl := cell_ltK h1
  exact ⟨⟨n, (hb.cell hl).trans h1⟩, (hb.frozen hl).trans h2⟩
theorem SK.below {w w' : World} {a : Option Addr} {n : Nat} {A : List AdK} (h : SK w a n A) (s : Below w.heap.size w w') : SK w' a n A := by
  rcases h with h | ⟨b, o, h1, h2, h3⟩
  · exact .inl h
  · exact .inr ⟨b, o, h1, h2, h3.below s⟩
theorem SR.below {w w' : World} {a : Option Addr} {n : Nat} {A : List AdK} (h : SR w a n A) (s : Below w.heap.size w w') : SR w' a n A := by
  obtain ⟨hm, h⟩ := h
  rcases h with h | ⟨b, o, h1, F, h2, h3⟩
  · exact ⟨hm, .inl h⟩
  · refine ⟨hm, .inr ⟨b, o, h1, F, h2, fun i hi => ?_⟩⟩
    obtain ⟨a', n', c', h4, h5⟩ := h3 i hi
    exact ⟨a', n', c', cell_step s h4, h5.below s⟩
theorem SE.below {w w' : World} {a : Option Addr} {n : Nat} {A : List AdK} (h : SE w a n A) (s : Below w.heap.size w w') : SE w' a n A := by
  obtain ⟨hm, h⟩ := h
  rcases h with h | ⟨b, o, h1, F, h2, h3⟩
  · exact ⟨hm, .inl h⟩
  · refine ⟨hm, .inr ⟨b, o, h1, F, h2, fun i hi => ?_⟩⟩
    obtain ⟨h6, a', n', c', h4, h5⟩ := h3 i hi
    exact ⟨h6.below s, a', n', c', cell_step s h4, h5.below s⟩

/-! the copy -/
theorem copy_sk {L : Nat} {w : World} {a : Option Addr} {r : List K} (h : LSrcG L 3 PKF w a r) : ∃ A, SK w a r.length A ∧ (∀ x ∈ A, L ≤ x.1.block ∧ x.1.block < w.heap.size) ∧ A.length = r.length * 3 := by
  rcases h with rfl | ⟨b, o, rfl, hL, hlt, hc⟩
  · exact ⟨[], .inl ⟨rfl, rfl⟩, by simp, rfl⟩
  · refine ⟨conA b o r.length, .inr ⟨b, o, rfl, rfl, fun x hx => ?_⟩, fun x hx => by rw [(conA_mem hx).1]; exact ⟨hL, hlt⟩, conA_len _ _ _⟩
    obtain ⟨j, hj, hx⟩ := List.mem_flatMap.1 hx
    obtain ⟨⟨c0, c1, c2⟩, f0, f1, f2⟩ := hc j (List.mem_range.1 hj)
    simp only [a3, List.mem_cons, List.not_mem_nil, or_false] at hx
    rcases hx with rfl | rfl | rfl
    · exact ⟨⟨_, c0⟩, f0⟩
    · exact ⟨⟨_, c1⟩, f1⟩
    · exact ⟨⟨_, c2⟩, f2⟩
theorem copy_sr {L : Nat} {w : World} {a : Option Addr} {l : List (List K)} (h : LSrcG L 1 (PRG L) w a l) (hn : l.length ≤ 1048576) : ∃ A, SR w a l.length A ∧ (∀ x ∈ A, L ≤ x.1.block ∧ x.1.block < w.heap.size) ∧ A.length = sumBy List.length l * 3 := by
  rcases h with rfl | ⟨b, o, rfl, hL, hlt, hc⟩
  · exact ⟨[], ⟨by simp, .inl ⟨rfl, rfl⟩⟩, by simp, rfl⟩
  · have hch : ∀ i, ∃ A, i < l.length → ∃ a' c', w.cell? ⟨b, o + i, none⟩ = some (.slice a' (l.getD i []).length c') ∧ SK w a' (l.getD i []).length A ∧ (∀ x ∈ A, L ≤ x.1.block ∧ x.1.block < w.heap.size) ∧ A.length = (l.getD i []).length * 3 := by
      intro i
      by_cases hi : i < l.length
      · obtain ⟨a', c', h1, h2⟩ := hc i hi
        obtain ⟨A, g1, g2, g3⟩ := copy_sk h2
        have e : l.getD i [] = l[i] := by rw [List.getD_eq_getElem?_getD, List.getElem?_eq_getElem hi]; rfl
        rw [Nat.mul_one] at h1
        exact ⟨A, fun _ => by rw [e]; exact ⟨a', c', h1, g1, g2, g3⟩⟩
      · exact ⟨[], fun h => absurd h hi⟩
    obtain ⟨F, hF⟩ : ∃ F : Nat → List AdK, ∀ i, i < l.length → ∃ a' c', w.cell? ⟨b, o + i, none⟩ = some (.slice a' (l.getD i []).length c') ∧ SK w a' (l.getD i []).length (F i) ∧ (∀ x ∈ F i, L ≤ x.1.block ∧ x.1.block < w.heap.size) ∧ (F i).length = (l.getD i []).length * 3 := ⟨fun i => Classical.choose (hch i), fun i => Classical.choose_spec (hch i)⟩
    refine ⟨(List.range l.length).flatMap F, ⟨hn, .inr ⟨b, o, rfl, F, rfl, fun i hi => ?_⟩⟩, fun x hx => ?_, ?_⟩
    · obtain ⟨a', c', h1, h2, _⟩ := hF i hi
      exact ⟨a', _, c', h1, h2⟩
    · obtain ⟨i, hi, hx⟩ := List.mem_flatMap.1 hx
      obtain ⟨_, _, _, _, h3, _⟩ := hF i (List.mem_range.1 hi)
      exact h3 x hx
    · have key : ∀ n, n ≤ l.length → ((List.range n).flatMap F).length = sumBy List.length (l.take n) * 3 := by
        intro n
        induction n with
        | zero => intro _; simp [sumBy]
        | succ n ih =>
          intro hn
          obtain ⟨_, _, _, _, _, h4⟩ := hF n (by omega)
          rw [flat_succ, List.length_append, ih (by omega), h4, sumBy_take List.length (by omega) []]
          omega
      have := key l.length (Nat.le_refl _)
      rw [List.take_length] at this; exact this
theorem copy_se {L : Nat} {w : World} {a : Option Addr} {l : List E} (h : LSrcG L 3 (PEG L) w a l) (hn : sizeP l ≤ 1048576) : ∃ A, SE w a l.length A ∧ (∀ x ∈ A, L ≤ x.1.block ∧ x.1.block < w.heap.size) ∧ A.length ≤ 3145728 := by
  have hl : l.length ≤ 1048576 := by unfold sizeP at hn; omega
  rcases h with rfl | ⟨b, o, rfl, hL, hlt, hc⟩
  · exact ⟨[], ⟨by simp, .inl ⟨rfl, rfl⟩⟩, by simp, by simp⟩
  · have hsm : ∀ e ∈ l, e.rules.length ≤ 1048576 := fun e he => by
      have h1 : sizeE e ≤ sumBy sizeE l := sumBy_mem sizeE he
      have h2 : e.rules.length ≤ sizeE e := by unfold sizeE sizeRs; omega
      unfold sizeP at hn
      omega
    have hch : ∀ i, ∃ A, i < l.length → ∃ a' c', w.cell? ⟨b, o + i * 3 + 2, none⟩ = some (.slice a' (l.getD i E.zero).rules.length c') ∧ SR w a' (l.getD i E.zero).rules.length A ∧ (∀ x ∈ A, L ≤ x.1.block ∧ x.1.block < w.heap.size) ∧ A.length = sumBy List.length (l.getD i E.zero).rules * 3 := by
      intro i
      by_cases hi : i < l.length
      · obtain ⟨_, _, _, a', c', h1, h2, _⟩ := hc i hi
        obtain ⟨A, g1, g2, g3⟩ := copy_sr h2 (hsm _ (List.getElem_mem hi))
        have e : l.getD i E.zero = l[i] := by rw [List.getD_eq_getElem?_getD, List.getElem?_eq_getElem hi]; rfl
        exact ⟨A, fun _ => by rw [e]; exact ⟨a', c', h1, g1, g2, g3⟩⟩
      · exact ⟨[], fun h => absurd h hi⟩
    obtain ⟨F, hF⟩ : ∃ F : Nat → List AdK, ∀ i, i < l.length → ∃ a' c', w.cell? ⟨b, o + i * 3 + 2, none⟩ = some (.slice a' (l.getD i E.zero).rules.length c') ∧ SR w a' (l.getD i E.zero).rules.length (F i) ∧ (∀ x ∈ F i, L ≤ x.1.block ∧ x.1.block < w.heap.size) ∧ (F i).length = sumBy List.length (l.getD i E.zero).rules * 3 := ⟨fun i => Classical.choose (hch i), fun i => Classical.choose_spec (hch i)⟩
    refine ⟨entA b o F l.length, ⟨hl, .inr ⟨b, o, rfl, F, rfl, fun i hi => ?_⟩⟩, fun x hx => ?_, ?_⟩
    · obtain ⟨a', c', h1, h2, _⟩ := hF i hi
      obtain ⟨c0, c1, ⟨f0, f1⟩, _⟩ := hc i hi
      refine ⟨fun x hx => ?_, a', _, c', h1, h2⟩
      simp only [a2, List.mem_cons, List.not_mem_nil, or_false] at hx
      rcases hx with rfl | rfl
      · exact ⟨⟨_, c0⟩, f0⟩
      · exact ⟨⟨_, c1⟩, f1⟩
    · obtain ⟨i, hi, hx⟩ := List.mem_flatMap.1 hx
      obtain ⟨_, _, _, _, h3, _⟩ := hF i (List.mem_range.1 hi)
      rw [List.mem_append] at hx
      rcases hx with hx | hx
      · simp only [a2, List.mem_cons, List.not_mem_nil, or_false] at hx
        rcases hx with rfl | rfl <;> exact ⟨hL, hlt⟩
      · exact h3 x hx
    · have key : ∀ n, n ≤ l.length → (entA b o F n).length ≤ n * 2 + sumBy sizeE (l.take n) * 3 := by
        intro n
        induction n with
        | zero => intro _; simp [entA]
        | succ n ih =>
          intro hn
          obtain ⟨_, _, _, _, _, h4⟩ := hF n (by omega)
          have h5 := ih (by omega)
          rw [entA_succ, List.length_append, List.length_append, h4, sumBy_take sizeE (by omega) E.zero]
          simp only [a2, List.length_cons, List.length_nil, sizeE, sizeRs]
          omega
      have := key l.length (Nat.le_refl _)
      rw [List.take_length] at this
      unfold sizeP at hn
      omega

end Go.Proofs.YtoamapdfcdefjaaGreat
namespace Go.Proofs.YtoamapdfcdefjaaGreat
open Go.RowKit
set_option linter.unusedVariables false

abbrev natV (vs : List Nat) : List Int := vs.map fun n : Nat => (n : Int)
theorem natV_get (vs : List Nat) (i : Nat) : (natV vs).getD i 0 = ((vs.getD i 0 : Nat) : Int) := by
  rw [List.getD_eq_getElem?_getD, List.getElem?_map, List.getD_eq_getElem?_getD]
  cases vs[i]? <;> simp
theorem USrc.natAt {w : World} {a : Option Addr} {vs : List Nat} (h : USrc w a (natV vs)) (h0 : 0 < vs.length) : ∃ b o, a = some ⟨b, o, none⟩ ∧ b < w.heap.size ∧ ∀ j, j < vs.length → w.cell? ⟨b, o + j, none⟩ = some (.int .u64 ((vs.getD j 0 : Nat) : Int)) := by
  rcases h with h | ⟨b, o, h1, h2, h3⟩
  · have : vs = [] := by simpa using h
    subst this; simp at h0
  · refine ⟨b, o, h1, h2, fun j hj => ?_⟩
    rw [h3 j (by simpa using hj), natV_get]

theorem i64_and (a b : Nat) (ha : a < 9223372036854775808) (hb : b < 9223372036854775808) : bits .and .i64 (a : Int) (b : Int) = ((a &&& b : Nat) : Int) := by
  have hx : a &&& b < 2 ^ 63 := Nat.and_lt_two_pow _ (by omega)
  have h1 : (BitVec.ofInt 64 (a : Int)).toNat = a := by
    rw [BitVec.ofInt_natCast, BitVec.toNat_ofNat]; exact Nat.mod_eq_of_lt (by omega)
  have h2 : (BitVec.ofInt 64 (b : Int)).toNat = b := by
    rw [BitVec.ofInt_natCast, BitVec.toNat_ofNat]; exact Nat.mod_eq_of_lt (by omega)
  show IntKind.i64.wrap ((BitVec.ofInt 64 (a : Int) &&& BitVec.ofInt 64 (b : Int)).toNat : Int) = _
  rw [BitVec.toNat_and, h1, h2, IntKind.wrap_i64]
  omega

theorem and_le_right' (a b : Nat) : a &&& b ≤ b := Nat.and_le_right

set_option maxRecDepth 100000 in
set_option maxHeartbeats 1000000 in
theorem onesCount_any (x : Nat) (w : World) (hx : x < 18446744073709551616) :
    Calls Tryz.prog 96 #[.int .u64 (x : Int)] w fun e w' => e = .returned (.int .i64 ((popN x 64 : Nat) : Int)) ∧ w' = w := by
  obtain ⟨p1, hp1⟩ : ∃ p1 : Nat, p1 = x / 2 &&& 6148914691236517205 := ⟨_, rfl⟩
  obtain ⟨p2, hp2⟩ : ∃ p2 : Nat, p2 = x &&& 6148914691236517205 := ⟨_, rfl⟩
  have l1 : p1 ≤ 6148914691236517205 := hp1 ▸ Nat.and_le_right
  have l2 : p2 ≤ 6148914691236517205 := hp2 ▸ Nat.and_le_right
  have a1 : bits .and .u64 ((x : Int) / 2) 6148914691236517205 = (p1 : Int) := by
    rw [hp1, show (x : Int) / 2 = ((x / 2 : Nat) : Int) by omega]; exact u64_and _ 6148914691236517205 (by omega) (by decide)
  have a2 : bits .and .u64 (x : Int) 6148914691236517205 = (p2 : Int) := by
    rw [hp2]; exact u64_and _ 6148914691236517205 (by omega) (by decide)
  obtain ⟨q1, hq1⟩ : ∃ q1 : Nat, q1 = (p1 + p2) / 4 &&& 3689348814741910323 := ⟨_, rfl⟩
  obtain ⟨q2, hq2⟩ : ∃ q2 : Nat, q2 = (p1 + p2) &&& 3689348814741910323 := ⟨_, rfl⟩
  have l3 : q1 ≤ 3689348814741910323 := hq1 ▸ Nat.and_le_right
  have l4 : q2 ≤ 3689348814741910323 := hq2 ▸ Nat.and_le_right
  have a3 : bits .and .u64 (((p1 : Int) + p2) / 4) 3689348814741910323 = (q1 : Int) := by
    rw [hq1, show ((p1 : Int) + p2) / 4 = (((p1 + p2) / 4 : Nat) : Int) by omega]; exact u64_and _ 3689348814741910323 (by omega) (by decide)
  have a4 : bits .and .u64 ((p1 : Int) + p2) 3689348814741910323 = (q2 : Int) := by
    rw [hq2, show ((p1 : Int) + p2) = ((p1 + p2 : Nat) : Int) by omega]; exact u64_and _ 3689348814741910323 (by omega) (by decide)
  obtain ⟨y, hy⟩ : ∃ y : Nat, y = ((q1 + q2) / 16 + (q1 + q2)) &&& 1085102592571150095 := ⟨_, rfl⟩
  have a5 : bits .and .u64 (((q1 : Int) + q2) / 16 + ((q1 : Int) + q2)) 1085102592571150095 = (y : Int) := by
    rw [hy, show ((q1 : Int) + q2) / 16 + ((q1 : Int) + q2) = (((q1 + q2) / 16 + (q1 + q2) : Nat) : Int) by omega]; exact u64_and _ 1085102592571150095 (by omega) (by decide)
  have HD : y = dig 8 x := by
    have := (swar 8 x (by simpa using hx)).1
    rw [← this, hy, hq1, hq2, hp1, hp2]
    rfl
  obtain ⟨z1, z2, z3, z4⟩ := swar_sum hx HD
  have HZ : Hid ((((y + y / 256) + (y + y / 256) / 65536) + ((y + y / 256) + (y + y / 256) / 65536) / 4294967296) % 128 = popN x 64) := z4
  clear hp1 hp2 hq1 hq2 hy HD z4
  have a6 : bits .and .i64 ((y : Int) + (y : Int) / 256 + ((y : Int) + (y : Int) / 256) / 65536 + ((y : Int) + (y : Int) / 256 + ((y : Int) + (y : Int) / 256) / 65536) / 4294967296) 127 = ((popN x 64 : Nat) : Int) := by
    rw [← HZ.out, show ((y : Int) + (y : Int) / 256 + ((y : Int) + (y : Int) / 256) / 65536 + ((y : Int) + (y : Int) / 256 + ((y : Int) + (y : Int) / 256) / 65536) / 4294967296) = (((((y + y / 256) + (y + y / 256) / 65536) + ((y + y / 256) + (y + y / 256) / 65536) / 4294967296) : Nat) : Int) by omega]
    rw [show (127 : Int) = ((127 : Nat) : Int) from rfl, i64_and _ 127 z3 (by decide), nat_mask7]
  generalize popN x 64 = R at *
  clear HZ
  go_enter Tryz.func96, Tryz.ntmps96
  go_wp2
  go_ret
  exact ⟨rfl, rfl⟩
end Go.Proofs.YtoamapdfcdefjaaGreat
