/-
  CONTRACT of the program's DecodeProgram.
-/
import Derived.Test.YtioabdfddjmabaaDecIns
namespace Go.Proofs.Ytioabdfddjmabaa
open Go.RowKit
set_option linter.unusedVariables false

/-- the cells of instructions -/
def insC (x : I) : List Value := [.int .u16 x.c, .int .u8 x.jt, .int .u8 x.jf, .int .u32 x.k]
def insCells (p : List I) : List Value := p.flatMap insC
theorem insCells_len (p : List I) : (insCells p).length = p.length * 4 := by
  induction p with
  | nil => rfl
  | cons x p ih => simp only [insCells, List.flatMap_cons, List.length_append, List.length_cons] at *; simp only [insC, List.length_cons, List.length_nil]; omega

/-- an own row of instructions -/
abbrev ownsI (w : World) (base : Nat) (v : Value) (p : List I) : Prop := w.ownsRow base 38 4 v p.length (insCells p)

theorem ownsI_snoc {w : World} {base : Nat} {v : Value} {p : List I} {x : I} {n : Nat} (hn : n = p.length + 1) (h : w.ownsRow base 38 4 v n (insCells p ++ insC x)) : ownsI w base v (p ++ [x]) := by
  subst hn
  simpa [ownsI, insCells] using h
theorem ownsI_below {w w1 : World} {base : Nat} {v : Value} {p : List I} (h : ownsI w base v p) (hb : Below w.heap.size w w1) : ownsI w1 base v p :=
  World.ownsRow.kept (row := none) h ⟨hb.os, hb.tape, hb.output, hb.size, fun k hk _ => hb.block k hk⟩ (by cases v.ownBlock <;> simp)
theorem ownsI_kept {w w' : World} {B : Nat} {v : Value} {p : List I} {row : Option Nat} (h : ownsI w B v p) (hg : w.grownBy w' row) (hne : ∀ q, v.ownBlock = some q → some q ≠ row) : ownsI w' B v p := by
  refine World.ownsRow.kept h hg ?_
  cases hv : v.ownBlock with
  | none => exact .inl rfl
  | some q => exact .inr (hne q hv)
theorem growI_below {w wr w1 : World} {B : Nat} {v : Value} {p : List I} {o : Obj} (hB : Below B w wr) (hBs : B ≤ wr.heap.size) (hown : ownsI wr B v p) (hg : (wr.alloc o).grownBy w1 v.ownBlock) : Below B w w1 :=
  (hB.alloc hBs o).grown hg (by simp; omega) (fun k hk => (hown.lt k hk).1)

theorem dec_bytes {w : World} {b o k n : Nat} {l : List Int} (h : BytesAt w b o l) (hl : isBytes l) (hk : k * 8 + 8 ≤ l.length) :
    (∀ j, j < 8 → w.cell? ⟨b, o + k * 8 + j, none⟩ = some (.int .u8 (l.getD (k * 8 + j) 0))) ∧ ∀ j, 0 ≤ l.getD j 0 ∧ l.getD j 0 ≤ 255 :=
  ⟨fun j hj => by rw [Nat.add_assoc]; exact h (k * 8 + j) (by omega), fun j => isBytes_getD hl j⟩

theorem decBad_true {l : List Int} (h : decBad l = true) : l.length % 8 ≠ 0 ∨ 32768 < l.length := by
  simpa [decBad] using h

theorem decBad_false {l : List Int} (h : ¬ decBad l = true) : l.length % 8 = 0 ∧ l.length ≤ 32768 := by
  simpa [decBad] using h

end Go.Proofs.Ytioabdfddjmabaa
