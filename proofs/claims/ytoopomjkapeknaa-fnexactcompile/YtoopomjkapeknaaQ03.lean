/-
  DecIns, DecP, DecS, BytesM
-/
import Derived.Test.YtoopomjkapeknaaQ02
import Derived.Test.YtoopomjkapeknaaQ01
namespace Go.Proofs.Ytoopomjkapeknaa
open Go.RowKit
set_option linter.unusedVariables false

end Go.Proofs.Ytoopomjkapeknaa
namespace Go.Proofs.Ytoopomjkapeknaa
open Go.RowKit
set_option linter.unusedVariables false

/-- the cells of instructions -/
def insC (x : I) : List Value := [.int .u16 x.c, .int .u8 x.jt, .int .u8 x.jf, .int .u32 x.k]
def insCells (p : List I) : List Value := p.flatMap insC
theorem insCells_len (p : List I) : (insCells p).length = p.length * 4 := by
  induction p with
  | nil => rfl
  | cons x p ih => simp only [insCells, List.flatMap_cons, List.length_append, List.length_cons] at *; simp only [insC, List.length_cons, List.length_nil]; omega

/-- an own row of instructions -/
abbrev ownsI (w : World) (base : Nat) (v : Value) (p : List I) : Prop := w.ownsRow base 51 4 v p.length (insCells p)

theorem ownsI_snoc {w : World} {base : Nat} {v : Value} {p : List I} {x : I} {n : Nat} (hn : n = p.length + 1) (h : w.ownsRow base 51 4 v n (insCells p ++ insC x)) : ownsI w base v (p ++ [x]) := by
  subst hn
  simpa [ownsI, insCells] using h
theorem ownsI_below {w w1 : World} {base : Nat} {v : Value} {p : List I} (h : ownsI w base v p) (hb : Below w.heap.size w w1) : ownsI w1 base v p :=
  World.ownsRow.kept (row := none) h ⟨hb.os, hb.tape, hb.output, hb.size, fun k hk _ => hb.block k hk⟩ (by cases v.ownBlock <;> simp)
theorem ownsI_kept {w w' : World} {B : Nat} {v : Value} {p : List I} {row : Option Nat} (h : ownsI w B v p) (hg : w.grownBy w' row) (hne : ∀ q, v.ownBlock = some q → some q ≠ row) : ownsI w' B v p := by
  refine World.ownsRow.kept h hg ?_
  cases hv : v.ownBlock with
  | none => exact .inl rfl
  | some q => exact .inr (hne q hv)
theorem growI_below {w wr w1 : World} {B : Nat} {v : Value} {p : List I} {o : Obj} (hB : Below B w wr) (hBs : B ≤ wr.heap.size) (hown : ownsI wr B v p) (hg : (wr.alloc o).grownBy w1 v.ownBlock) : Below B w w1 :=
  (hB.alloc hBs o).grown hg (by simp; omega) (fun k hk => (hown.lt k hk).1)

theorem dec_bytes {w : World} {b o k n : Nat} {l : List Int} (h : BytesAt w b o l) (hl : isBytes l) (hk : k * 8 + 8 ≤ l.length) :
    (∀ j, j < 8 → w.cell? ⟨b, o + k * 8 + j, none⟩ = some (.int .u8 (l.getD (k * 8 + j) 0))) ∧ ∀ j, 0 ≤ l.getD j 0 ∧ l.getD j 0 ≤ 255 :=
  ⟨fun j hj => by rw [Nat.add_assoc]; exact h (k * 8 + j) (by omega), fun j => isBytes_getD hl j⟩

theorem decBad_true {l : List Int} (h : decBad l = true) : l.length % 8 ≠ 0 ∨ 32768 < l.length := by
  simpa [decBad] using h

theorem decBad_false {l : List Int} (h : ¬ decBad l = true) : l.length % 8 = 0 ∧ l.length ≤ 32768 := by
  simpa [decBad] using h

end Go.Proofs.Ytoopomjkapeknaa
namespace Go.Proofs.Ytoopomjkapeknaa
open Go.RowKit
set_option linter.unusedVariables false

/-- the eight bytes of one instruction -/
def Eight (b o K : Nat) (x0 x1 x2 x3 x4 x5 x6 x7 : Int) (w : World) : Prop :=
  w.cell? ⟨b, o + K, none⟩ = some (.int .u8 x0) ∧ w.cell? ⟨b, o + K + 1, none⟩ = some (.int .u8 x1) ∧ w.cell? ⟨b, o + (K + 2), none⟩ = some (.int .u8 x2) ∧ w.cell? ⟨b, o + (K + 3), none⟩ = some (.int .u8 x3) ∧
  w.cell? ⟨b, o + (K + 4), none⟩ = some (.int .u8 x4) ∧ w.cell? ⟨b, o + (K + 4) + 1, none⟩ = some (.int .u8 x5) ∧ w.cell? ⟨b, o + (K + 4) + 2, none⟩ = some (.int .u8 x6) ∧ w.cell? ⟨b, o + (K + 4) + 3, none⟩ = some (.int .u8 x7)

end Go.Proofs.Ytoopomjkapeknaa
namespace Go.Proofs.Ytoopomjkapeknaa
open Go.RowKit
set_option linter.unusedVariables false

theorem grown_setCell {w wr : World} {D : Nat} (h : w.grownBy wr (some D)) (j : Nat) (v : Value) : w.grownBy (wr.setCell ⟨D, j, none⟩ v) (some D) :=
  ⟨h.os, h.tape, h.output, by have := h.size; simpa [World.setCell] using this, fun k hk hne => (Below.heap_setCell wr ⟨D, j, none⟩ v k (fun e => hne (by rw [e]))).trans (h.block k hk hne)⟩

/-- the cells of the row D from number 0 to j hold the marks k, k + 1, .. -/
def Marks (w : World) (D N : Nat) (k : Int) (j : Nat) : Prop := ∃ f, w.rowIs D 5 N f ∧ ∀ i, i < j → f i = .int .u8 (IntKind.u8.wrap (k + i))

theorem Marks.step {w : World} {D N j : Nat} {k : Int} (h : Marks w D N k j) : Marks (w.setCell ⟨D, j, none⟩ (.int .u8 (IntKind.u8.wrap (k + j)))) D N k (j + 1) := by
  obtain ⟨f, hr, hf⟩ := h
  refine ⟨_, hr.set _ _, fun i hi => ?_⟩
  by_cases e : i = j
  · rw [if_pos e, e]
  · rw [if_neg e]; exact hf i (by omega)

theorem Marks.own {w : World} {D N j : Nat} {k : Int} (h : Marks w D N k j) (i : Nat) (hi : i < N) : ∃ v, w.cell? ⟨D, i, none⟩ = some v ∧ w.frozen? ⟨D, i, none⟩ = false := by
  obtain ⟨f, hr, _⟩ := h
  exact ⟨_, hr.cell hi, hr.frozen i⟩

theorem owns_marks {w : World} {base g n cap : Nat} {l : List Int} (h : owns w base (.slice (some ⟨g, 0, none⟩) n cap) l) (k : Int) : n = l.length ∧ n ≤ cap ∧ base ≤ g ∧ Marks w g cap k 0 := by
  obtain ⟨_, h | ⟨g', cap', cur, hv, hb, hg, hn, hm, hs, hx⟩⟩ := h
  · simp at h
  · simp only [Value.slice.injEq, Option.some.injEq, Addr.mk.injEq] at hv
    obtain ⟨⟨rfl, _⟩, rfl, rfl⟩ := hv
    refine ⟨rfl, hn, hb, fun i => cur.getD i undef, ⟨cur, hg, by omega, fun i hi => ?_⟩, fun i hi => by omega⟩
    simp [show i < cur.size by omega]

/-- the marks k, k + 1, .. stand in the n bytes of v -/
def MarkedV (w : World) (v : Value) (n : Nat) (k : Int) : Prop := (v = .slice none 0 0 ∧ n = 0) ∨ ∃ g cap, v = .slice (some ⟨g, 0, none⟩) n cap ∧ n ≤ cap ∧ Marks w g cap k n

end Go.Proofs.Ytoopomjkapeknaa
