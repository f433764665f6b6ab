/-
  CONTRACTS of the law's copies of policies.
-/
import Derived.Test.YtjkmcdgjhfiklaaPolS
import Derived.Test.YtjkmcdgjhfiklaaCopy
namespace Go.Proofs.Ytjkmcdgjhfiklaa
open Go.RowKit
set_option linter.unusedVariables false

/-- a slice whose row lies in a block from L on -/
def LSrcG {α : Type} (L k : Nat) (P : World → Nat → Nat → α → Prop) (w : World) (a : Option Addr) (l : List α) : Prop := l = [] ∨ ∃ b o, a = some ⟨b, o, none⟩ ∧ L ≤ b ∧ b < w.heap.size ∧ LAt k P w b o l
def PRG (L : Nat) (w : World) (b o : Nat) (r : List K) : Prop := ∃ a cap, w.cell? ⟨b, o, none⟩ = some (.slice a r.length cap) ∧ LSrcG L 3 PK w a r
def PEG (L : Nat) (w : World) (b o : Nat) (e : E) : Prop := w.cell? ⟨b, o, none⟩ = some (.int .u32 e.arch) ∧ w.cell? ⟨b, o + 1, none⟩ = some (.int .u32 e.nr) ∧ ∃ a cap, w.cell? ⟨b, o + 2, none⟩ = some (.slice a e.rules.length cap) ∧ LSrcG L 1 (PRG L) w a e.rules

theorem LSrcG.plain {α : Type} {L k : Nat} {P Q : World → Nat → Nat → α → Prop} {w : World} {a : Option Addr} {l : List α} (h : LSrcG L k P w a l) (hPQ : ∀ b o x, P w b o x → Q w b o x) : LSrc k Q w a l := by
  rcases h with h | ⟨b, o, h1, _, h2, h3⟩
  · exact .inl h
  · exact .inr ⟨b, o, h1, h2, fun i hi => hPQ _ _ _ (h3 i hi)⟩
theorem PRG.plain {L : Nat} {w : World} {b o : Nat} {r : List K} (h : PRG L w b o r) : PR w b o r := by
  obtain ⟨a, cap, h0, h1⟩ := h
  exact ⟨a, cap, h0, h1.plain fun _ _ _ h => h⟩
theorem PEG.plain {L : Nat} {w : World} {b o : Nat} {e : E} (h : PEG L w b o e) : PE w b o e := by
  obtain ⟨h0, h1, a, cap, h2, h3⟩ := h
  exact ⟨h0, h1, a, cap, h2, h3.plain fun _ _ _ h => h.plain⟩
theorem LSrcG.below {α : Type} {L k : Nat} {P : World → Nat → Nat → α → Prop} (hP : Stays P) {w w' : World} {a : Option Addr} {l : List α} (h : LSrcG L k P w a l) (hb : Below w.heap.size w w') : LSrcG L k P w' a l := by
  rcases h with h | ⟨b, o, ha, hL, hlt, hc⟩
  · exact .inl h
  · exact .inr ⟨b, o, ha, hL, Nat.lt_of_lt_of_le hlt hb.size, fun i hi => hP _ _ _ _ _ hlt hb (hc i hi)⟩
theorem PRG.stays (L : Nat) : Stays (PRG L) := fun w w' b o x hlt hb ⟨a, cap, h0, h1⟩ => ⟨a, cap, (hb.cell (p := ⟨b, _, none⟩) hlt).trans h0, h1.below PK.stays hb⟩
theorem PEG.stays (L : Nat) : Stays (PEG L) := fun w w' b o x hlt hb ⟨h0, h1, a, cap, h2, h3⟩ => ⟨(hb.cell (p := ⟨b, _, none⟩) hlt).trans h0, (hb.cell (p := ⟨b, _, none⟩) hlt).trans h1, a, cap, (hb.cell (p := ⟨b, _, none⟩) hlt).trans h2, h3.below (PRG.stays L) hb⟩
theorem LSrcG.mono {α : Type} {L L' k : Nat} {P Q : World → Nat → Nat → α → Prop} {w : World} {a : Option Addr} {l : List α} (h : LSrcG L k P w a l) (hL : L' ≤ L) (hPQ : ∀ b o x, P w b o x → Q w b o x) : LSrcG L' k Q w a l := by
  rcases h with h | ⟨b, o, h1, h4, h2, h3⟩
  · exact .inl h
  · exact .inr ⟨b, o, h1, Nat.le_trans hL h4, h2, fun i hi => hPQ _ _ _ (h3 i hi)⟩
theorem PRG.mono {L L' : Nat} {w : World} {b o : Nat} {r : List K} (h : PRG L w b o r) (hL : L' ≤ L) : PRG L' w b o r := by
  obtain ⟨a, cap, h0, h1⟩ := h
  exact ⟨a, cap, h0, h1.mono hL fun _ _ _ h => h⟩
theorem PEG.mono {L L' : Nat} {w : World} {b o : Nat} {e : E} (h : PEG L w b o e) (hL : L' ≤ L) : PEG L' w b o e := by
  obtain ⟨h0, h1, a, cap, h2, h3⟩ := h
  exact ⟨h0, h1, a, cap, h2, h3.mono hL fun _ _ _ h => h.mono hL⟩

/-- a store into another block -/
theorem cell_far {w : World} {D i b o : Nat} {v x : Value} (hne : D ≠ b) (h : w.cell? ⟨b, o, none⟩ = some x) : (w.setCell ⟨D, i, none⟩ v).cell? ⟨b, o, none⟩ = some x := by
  have e : (w.setCell ⟨D, i, none⟩ v).cell? ⟨b, o, none⟩ = w.cell? ⟨b, o, none⟩ := by
    apply World.cell?_setCell_other
    intro e; apply hne; injection e
  rw [e]; exact h
/-- a store into another cell of the block -/
theorem cell_near {w : World} {D i o : Nat} {v x : Value} (hne : i ≠ o) (h : w.cell? ⟨D, o, none⟩ = some x) : (w.setCell ⟨D, i, none⟩ v).cell? ⟨D, o, none⟩ = some x := by
  have e : (w.setCell ⟨D, i, none⟩ v).cell? ⟨D, o, none⟩ = w.cell? ⟨D, o, none⟩ := by
    apply World.cell?_setCell_other
    intro e; apply hne; injection e
  rw [e]; exact h
theorem PK.far {w : World} {D i b o : Nat} {v : Value} {c : K} (hne : D ≠ b) (h : PK w b o c) : PK (w.setCell ⟨D, i, none⟩ v) b o c := ⟨cell_far hne h.1, cell_far hne h.2.1, cell_far hne h.2.2⟩
theorem LSrcG.far {α : Type} {L k D i : Nat} {v : Value} {P : World → Nat → Nat → α → Prop} {w : World} {a : Option Addr} {l : List α} (h : LSrcG L k P w a l) (hP : ∀ b o x, L ≤ b → P w b o x → P (w.setCell ⟨D, i, none⟩ v) b o x) : LSrcG L k P (w.setCell ⟨D, i, none⟩ v) a l := by
  rcases h with h | ⟨b, o, h1, h4, h2, h3⟩
  · exact .inl h
  · exact .inr ⟨b, o, h1, h4, by simp; exact h2, fun j hj => hP _ _ _ h4 (h3 j hj)⟩
theorem PRG.far {L D i b o : Nat} {v : Value} {w : World} {r : List K} (hD : D < L) (hne : D ≠ b) (h : PRG L w b o r) : PRG L (w.setCell ⟨D, i, none⟩ v) b o r := by
  obtain ⟨a, cap, h0, h1⟩ := h
  exact ⟨a, cap, cell_far hne h0, h1.far fun b o x hL hx => hx.far (by omega)⟩
theorem PRG.rules_far {L D i : Nat} {v : Value} {w : World} {a : Option Addr} {l : List (List K)} (hD : D < L) (h : LSrcG L 1 (PRG L) w a l) : LSrcG L 1 (PRG L) (w.setCell ⟨D, i, none⟩ v) a l := h.far fun b o x hL hx => hx.far hD (by omega)

/-- an element of the row D is left alone by a store into another element -/
def Apart {α : Type} (sz D : Nat) (P : World → Nat → Nat → α → Prop) : Prop := ∀ w o x c v, P w D o x → (c < o ∨ o + sz ≤ c) → P (w.setCell ⟨D, c, none⟩ v) D o x
theorem PK.apart (D : Nat) : Apart 3 D PK := fun w o x c v h hc => ⟨cell_near (by omega) h.1, cell_near (by omega) h.2.1, cell_near (by omega) h.2.2⟩
theorem PRG.apart (D : Nat) : Apart 1 D (PRG (D + 1)) := fun w o x c v h hc => by
  obtain ⟨a, cap, h0, h1⟩ := h
  exact ⟨a, cap, cell_near (by omega) h0, h1.far fun b o x hL hx => hx.far (by omega)⟩
theorem PEG.apart (D : Nat) : Apart 3 D (PEG (D + 1)) := fun w o x c v h hc => by
  obtain ⟨h0, h1, a, cap, h2, h3⟩ := h
  exact ⟨cell_near (by omega) h0, cell_near (by omega) h1, a, cap, cell_near (by omega) h2, PRG.rules_far (by omega) h3⟩

/-- a row of N elements of which the first k are laid -/
structure Upt {α : Type} (sz : Nat) (P : World → Nat → Nat → α → Prop) (w : World) (D N : Nat) (l : List α) (d : α) (k : Nat) : Prop where
  lt : D < w.heap.size
  own : ∀ c, c < N * sz → (∃ v, w.cell? ⟨D, c, none⟩ = some v) ∧ w.frozen? ⟨D, c, none⟩ = false
  el : ∀ j, j < k → P w D (j * sz) (l.getD j d)
theorem Upt.keep {α : Type} {sz : Nat} {P : World → Nat → Nat → α → Prop} (hP : Stays P) {w w' : World} {D N : Nat} {l : List α} {d : α} {k : Nat} (h : Upt sz P w D N l d k) (hb : Below w.heap.size w w') : Upt sz P w' D N l d k :=
  ⟨Nat.lt_of_lt_of_le h.lt hb.size, fun c hc => ⟨by obtain ⟨v, hv⟩ := (h.own c hc).1; exact ⟨v, (hb.cell (p := ⟨D, c, none⟩) h.lt).trans hv⟩, (hb.frozen (p := ⟨D, c, none⟩) h.lt).trans (h.own c hc).2⟩, fun j hj => hP _ _ _ _ _ h.lt hb (h.el j hj)⟩
theorem Upt.set {α : Type} {sz D : Nat} {P : World → Nat → Nat → α → Prop} (hA : Apart sz D P) {w : World} {N : Nat} {l : List α} {d : α} {k c : Nat} (h : Upt sz P w D N l d k) (hc : k * sz ≤ c) (v : Value) : Upt sz P (w.setCell ⟨D, c, none⟩ v) D N l d k := by
  refine ⟨by simp; exact h.lt, fun i hi => ?_, fun j hj => hA _ _ _ _ _ (h.el j hj) (.inr ?_)⟩
  · obtain ⟨⟨u, hu⟩, hf⟩ := h.own i hi
    refine ⟨?_, by simp [hf]⟩
    by_cases e : c = i
    · subst e; exact ⟨v, World.cell?_setCell_same' w _ v (by rw [hu]; rfl)⟩
    · exact ⟨u, cell_near e hu⟩
  · have : (j + 1) * sz ≤ k * sz := Nat.mul_le_mul_right _ hj
    rw [Nat.add_mul] at this; omega
theorem Upt.next {α : Type} {sz D : Nat} {P : World → Nat → Nat → α → Prop} {w : World} {N : Nat} {l : List α} {d : α} {k : Nat} (h : Upt sz P w D N l d k) (hk : P w D (k * sz) (l.getD k d)) : Upt sz P w D N l d (k + 1) :=
  ⟨h.lt, h.own, fun j hj => by
    by_cases e : j = k
    · subst e; exact hk
    · exact h.el j (by omega)⟩
theorem Upt.new {α : Type} {sz : Nat} {P : World → Nat → Nat → α → Prop} (w : World) (cs : Array Value) (t : TypeId) (N : Nat) (l : List α) (d : α) (hs : cs.size = N * sz) : Upt sz P (w.alloc (.cells cs t)) w.heap.size N l d 0 := by
  have hr := World.rowIs_alloc w cs t (fun i => cs.getD i undef) (fun i h => by simp [h])
  rw [hs] at hr
  exact ⟨hr.lt, fun c hc => ⟨⟨_, hr.cell hc⟩, hr.frozen c⟩, fun j hj => by omega⟩
theorem Upt.all {α : Type} {sz : Nat} {P : World → Nat → Nat → α → Prop} {w : World} {D : Nat} {l : List α} {d : α} {N : Nat} (h : Upt sz P w D N l d l.length) : LAt sz P w D 0 l := fun i hi => by
  have := h.el i hi
  rw [List.getD_eq_getElem?_getD, List.getElem?_eq_getElem hi] at this
  rw [Nat.zero_add]; exact this
end Go.Proofs.Ytjkmcdgjhfiklaa
