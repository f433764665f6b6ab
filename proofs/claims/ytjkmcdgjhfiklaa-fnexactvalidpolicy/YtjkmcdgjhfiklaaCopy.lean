/-
  CONTRACTS of the copies and comparisons of whole programs.
-/
import Derived.Test.YtjkmcdgjhfiklaaLeaf
import Derived.Deep.OwnRows
import Derived.Deep.QuietTactic
import Derived.BigQuiet
import Derived.Deep.RegionWith
namespace Go.Proofs.Ytjkmcdgjhfiklaa
open Go.RowKit
set_option linter.unusedVariables false

/-- the cells of a program in a row, one behind another -/
def insF (p : List I) (j : Nat) : Value :=
  if j % 4 = 0 then .int .u16 (p.getD (j / 4) I.zero).c
  else if j % 4 = 1 then .int .u8 (p.getD (j / 4) I.zero).jt
  else if j % 4 = 2 then .int .u8 (p.getD (j / 4) I.zero).jf
  else .int .u32 (p.getD (j / 4) I.zero).k

theorem insF_0 (p : List I) (i : Nat) : insF p (i * 4) = .int .u16 (p.getD i I.zero).c := by
  unfold insF; rw [if_pos (by omega), show i * 4 / 4 = i by omega]
theorem insF_1 (p : List I) (i : Nat) : insF p (i * 4 + 1) = .int .u8 (p.getD i I.zero).jt := by
  unfold insF; rw [if_neg (by omega), if_pos (by omega), show (i * 4 + 1) / 4 = i by omega]
theorem insF_2 (p : List I) (i : Nat) : insF p (i * 4 + 2) = .int .u8 (p.getD i I.zero).jf := by
  unfold insF; rw [if_neg (by omega), if_neg (by omega), if_pos (by omega), show (i * 4 + 2) / 4 = i by omega]
theorem insF_3 (p : List I) (i : Nat) : insF p (i * 4 + 3) = .int .u32 (p.getD i I.zero).k := by
  unfold insF; rw [if_neg (by omega), if_neg (by omega), if_neg (by omega), show (i * 4 + 3) / 4 = i by omega]

/-- a program that came in, or was made: nil or empty, or at an address -/
def Src (w : World) (a : Option Addr) (p : List I) : Prop := p = [] ∨ ∃ b o, a = some ⟨b, o, none⟩ ∧ b < w.heap.size ∧ InsAt w b o p

theorem Src.below {w w' : World} {a : Option Addr} {p : List I} (h : Src w a p) (hb : Below w.heap.size w w') : Src w' a p := by
  rcases h with h | ⟨b, o, ha, hlt, hc⟩
  · exact .inl h
  · refine .inr ⟨b, o, ha, Nat.lt_of_lt_of_le hlt hb.size, fun i hi => ?_⟩
    obtain ⟨c0, c1, c2, c3⟩ := hc i hi
    exact ⟨(hb.cell (p := ⟨b, _, none⟩) hlt).trans c0, (hb.cell (p := ⟨b, _, none⟩) hlt).trans c1, (hb.cell (p := ⟨b, _, none⟩) hlt).trans c2, (hb.cell (p := ⟨b, _, none⟩) hlt).trans c3⟩

theorem Src.of_row {w : World} {D t : Nat} {p : List I} (h : w.rowIs D t (p.length * 4) (insF p)) : Src w (some ⟨D, 0, none⟩) p := by
  refine .inr ⟨D, 0, rfl, h.lt, fun i hi => ?_⟩
  refine ⟨?_, ?_, ?_, ?_⟩
  · rw [Nat.zero_add, h.cell (by omega), insF_0]
  · rw [Nat.zero_add, h.cell (by omega), insF_1]
  · rw [Nat.zero_add, h.cell (by omega), insF_2]
  · rw [Nat.zero_add, h.cell (by omega), insF_3]

/-- the cells up to number 4 k are the program's -/
def Upto (w : World) (D t n : Nat) (p : List I) (k : Nat) : Prop := ∃ f, w.rowIs D t (n * 4) f ∧ ∀ j, j < k * 4 → f j = insF p j

theorem Upto.step {w : World} {D t n k : Nat} {p : List I} (h : Upto w D t n p k) :
    Upto ((((w.setCell ⟨D, k * 4, none⟩ (.int .u16 (p.getD k I.zero).c)).setCell ⟨D, k * 4 + 1, none⟩ (.int .u8 (p.getD k I.zero).jt)).setCell ⟨D, k * 4 + 2, none⟩ (.int .u8 (p.getD k I.zero).jf)).setCell ⟨D, k * 4 + 3, none⟩ (.int .u32 (p.getD k I.zero).k)) D t n p (k + 1) := by
  obtain ⟨f, hr, hf⟩ := h
  refine ⟨_, (((hr.set _ _).set _ _).set _ _).set _ _, fun j hj => ?_⟩
  by_cases e3 : j = k * 4 + 3
  · rw [if_pos e3, e3, insF_3]
  · rw [if_neg e3]
    by_cases e2 : j = k * 4 + 2
    · rw [if_pos e2, e2, insF_2]
    · rw [if_neg e2]
      by_cases e1 : j = k * 4 + 1
      · rw [if_pos e1, e1, insF_1]
      · rw [if_neg e1]
        by_cases e0 : j = k * 4
        · rw [if_pos e0, e0, insF_0]
        · rw [if_neg e0]; exact hf j (by omega)

theorem Upto.own {w : World} {D t n k : Nat} {p : List I} (h : Upto w D t n p k) (j : Nat) (hj : j < n * 4) : ∃ v, w.cell? ⟨D, j, none⟩ = some v ∧ w.frozen? ⟨D, j, none⟩ = false := by
  obtain ⟨f, hr, _⟩ := h
  exact ⟨_, hr.cell hj, hr.frozen j⟩

theorem Upto.done {w : World} {D t n : Nat} {p : List I} (h : Upto w D t n p n) : w.rowIs D t (n * 4) (insF p) := by
  obtain ⟨f, hr, hf⟩ := h
  exact hr.congr hf

theorem Upto.keep {w w' : World} {D t n k : Nat} {p : List I} (h : Upto w D t n p k) (hb : Below w.heap.size w w') : Upto w' D t n p k := by
  obtain ⟨f, hr, hf⟩ := h
  exact ⟨f, hr.of_block (hb.block D hr.lt), hf⟩

end Go.Proofs.Ytjkmcdgjhfiklaa
