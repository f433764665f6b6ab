/-
  WHERE A POLICY LIES; CONTRACTS of the model's look at rules.
-/
import Derived.Test.YtioabdfddjmabaaCondS
import Derived.Test.YtioabdfddjmabaaCondT
import Derived.Test.YtioabdfddjmabaaCondM
import Derived.Test.YtioabdfddjmabaaMathE
namespace Go.Proofs.Ytioabdfddjmabaa
open Go.RowKit
set_option linter.unusedVariables false

/-- elements of k cells each, one behind another -/
def LAt {α : Type} (k : Nat) (P : World → Nat → Nat → α → Prop) (w : World) (b o : Nat) (l : List α) : Prop := ∀ i (h : i < l.length), P w b (o + i * k) l[i]
/-- a slice of them: empty, or at an address -/
def LSrc {α : Type} (k : Nat) (P : World → Nat → Nat → α → Prop) (w : World) (a : Option Addr) (l : List α) : Prop := l = [] ∨ ∃ b o, a = some ⟨b, o, none⟩ ∧ b < w.heap.size ∧ LAt k P w b o l
/-- it stays where what was there is left alone -/
def Stays {α : Type} (P : World → Nat → Nat → α → Prop) : Prop := ∀ w w' b o x, b < w.heap.size → Below w.heap.size w w' → P w b o x → P w' b o x

theorem LSrc.below {α : Type} {k : Nat} {P : World → Nat → Nat → α → Prop} (hP : Stays P) {w w' : World} {a : Option Addr} {l : List α} (h : LSrc k P w a l) (hb : Below w.heap.size w w') : LSrc k P w' a l := by
  rcases h with h | ⟨b, o, ha, hlt, hc⟩
  · exact .inl h
  · exact .inr ⟨b, o, ha, Nat.lt_of_lt_of_le hlt hb.size, fun i hi => hP _ _ _ _ _ hlt hb (hc i hi)⟩

def PK (w : World) (b o : Nat) (c : K) : Prop := w.cell? ⟨b, o, none⟩ = some (.int .i64 c.kind) ∧ w.cell? ⟨b, o + 1, none⟩ = some (.int .u64 (c.a : Int)) ∧ w.cell? ⟨b, o + 2, none⟩ = some (.int .u64 (c.b : Int))
def PR (w : World) (b o : Nat) (r : List K) : Prop := ∃ a cap, w.cell? ⟨b, o, none⟩ = some (.slice a r.length cap) ∧ LSrc 3 PK w a r
def PE (w : World) (b o : Nat) (e : E) : Prop := w.cell? ⟨b, o, none⟩ = some (.int .u32 e.arch) ∧ w.cell? ⟨b, o + 1, none⟩ = some (.int .u32 e.nr) ∧ ∃ a cap, w.cell? ⟨b, o + 2, none⟩ = some (.slice a e.rules.length cap) ∧ LSrc 1 PR w a e.rules

theorem PK.stays : Stays PK := fun w w' b o x hlt hb ⟨h0, h1, h2⟩ => ⟨(hb.cell (p := ⟨b, _, none⟩) hlt).trans h0, (hb.cell (p := ⟨b, _, none⟩) hlt).trans h1, (hb.cell (p := ⟨b, _, none⟩) hlt).trans h2⟩
theorem PR.stays : Stays PR := fun w w' b o x hlt hb ⟨a, cap, h0, h1⟩ => ⟨a, cap, (hb.cell (p := ⟨b, _, none⟩) hlt).trans h0, h1.below PK.stays hb⟩
theorem PE.stays : Stays PE := fun w w' b o x hlt hb ⟨h0, h1, a, cap, h2, h3⟩ => ⟨(hb.cell (p := ⟨b, _, none⟩) hlt).trans h0, (hb.cell (p := ⟨b, _, none⟩) hlt).trans h1, a, cap, (hb.cell (p := ⟨b, _, none⟩) hlt).trans h2, h3.below PR.stays hb⟩

theorem LSrc.at {α : Type} {k : Nat} {P : World → Nat → Nat → α → Prop} {w : World} {a : Option Addr} {l : List α} (h : LSrc k P w a l) {i : Nat} (hi : i < l.length) (d : α) : ∃ b o, a = some ⟨b, o, none⟩ ∧ b < w.heap.size ∧ P w b (o + i * k) (l.getD i d) := by
  rcases h with rfl | ⟨b, o, h1, h2, h3⟩
  · simp at hi
  · refine ⟨b, o, h1, h2, ?_⟩
    rw [List.getD_eq_getElem?_getD, List.getElem?_eq_getElem hi]
    exact h3 i hi
theorem LSrc.addr {α : Type} {k : Nat} {P : World → Nat → Nat → α → Prop} {w : World} {a : Option Addr} {l : List α} (h : LSrc k P w a l) (hn : l ≠ []) : ∃ b o, a = some ⟨b, o, none⟩ ∧ b < w.heap.size ∧ LAt k P w b o l := by
  rcases h with h | h
  · exact absurd h hn
  · exact h
theorem LAt.get {α : Type} {k : Nat} {P : World → Nat → Nat → α → Prop} {w : World} {b o : Nat} {l : List α} (h : LAt k P w b o l) {i : Nat} (hi : i < l.length) (d : α) : P w b (o + i * k) (l.getD i d) := by
  rw [List.getD_eq_getElem?_getD, List.getElem?_eq_getElem hi]; exact h i hi
theorem LAt.below {α : Type} {k : Nat} {P : World → Nat → Nat → α → Prop} (hP : Stays P) {w w' : World} {b o : Nat} {l : List α} (h : LAt k P w b o l) (hlt : b < w.heap.size) (hb : Below w.heap.size w w') : LAt k P w' b o l := fun i hi => hP _ _ _ _ _ hlt hb (h i hi)

/-- one cell's box -/
theorem box1 (w : World) (t : TypeId) (x : Value) : (w.alloc (.cells #[x] t)).cell? ⟨w.heap.size, 0, none⟩ = some x := by simp

end Go.Proofs.Ytioabdfddjmabaa
