/-
  STORES into own instructions, a field at a time.
-/
import Derived.Test.YtjfgihmamoiipaaDecP
import Derived.Laws.OwnMore
namespace Go.Proofs.Ytjfgihmamoiipaa
open Go.RowKit
set_option linter.unusedVariables false

theorem insCells_cons (x : I) (p : List I) : insCells (x :: p) = [.int .u16 x.c, .int .u8 x.jt, .int .u8 x.jf, .int .u32 x.k] ++ insCells p := rfl

theorem insCells_set (p : List I) (i f : Nat) (hi : i < p.length) (v : Value) (y : I) (h : ([.int .u16 (p.getD i I.zero).c, .int .u8 (p.getD i I.zero).jt, .int .u8 (p.getD i I.zero).jf, .int .u32 (p.getD i I.zero).k] : List Value).set f v = [.int .u16 y.c, .int .u8 y.jt, .int .u8 y.jf, .int .u32 y.k]) (hf : f < 4) :
    (insCells p).set (i * 4 + f) v = insCells (p.set i y) := by
  induction p generalizing i with
  | nil => simp at hi
  | cons x p ih =>
    cases i with
    | zero =>
      simp only [List.set_cons_zero, insCells_cons]
      rw [List.set_append_left _ _ (by simp; omega)]
      simp only [Nat.zero_mul, Nat.zero_add]
      rw [show ([Value.int .u16 x.c, .int .u8 x.jt, .int .u8 x.jf, .int .u32 x.k] : List Value).set f v = _ from h]
    | succ i =>
      simp only [List.set_cons_succ, insCells_cons]
      rw [List.set_append_right _ _ (by simp; omega)]
      rw [show (i + 1) * 4 + f - ([Value.int .u16 x.c, .int .u8 x.jt, .int .u8 x.jf, .int .u32 x.k] : List Value).length = i * 4 + f by simp; omega]
      rw [ih i (by simpa using hi) h]

section
variable {w : World} {B g cap : Nat} {p : List I} {i : Nat}
theorem ownsI_s (h : ownsI w B (.slice (some ⟨g, 0, none⟩) p.length cap) p) (hi : i < p.length) (f : Nat) (hf : f < 4) (v : Value) (y : I)
    (e : ([.int .u16 (p.getD i I.zero).c, .int .u8 (p.getD i I.zero).jt, .int .u8 (p.getD i I.zero).jf, .int .u32 (p.getD i I.zero).k] : List Value).set f v = [.int .u16 y.c, .int .u8 y.jt, .int .u8 y.jf, .int .u32 y.k]) :
    ownsI (w.setCell ⟨g, i * 4 + f, none⟩ v) B (.slice (some ⟨g, 0, none⟩) p.length cap) (p.set i y) := by
  have h1 := (World.ownsRow.stored h (i * 4 + f) v).1
  rw [insCells_set p i f hi v y e hf] at h1
  simpa [ownsI] using h1
theorem ownsI_s0 (h : ownsI w B (.slice (some ⟨g, 0, none⟩) p.length cap) p) (hi : i < p.length) (v : Int) :
    ownsI (w.setCell ⟨g, i * 4, none⟩ (.int .u16 v)) B (.slice (some ⟨g, 0, none⟩) p.length cap) (p.set i { p.getD i I.zero with c := v }) := ownsI_s h hi 0 (by omega) _ _ rfl
theorem ownsI_s1 (h : ownsI w B (.slice (some ⟨g, 0, none⟩) p.length cap) p) (hi : i < p.length) (v : Int) :
    ownsI (w.setCell ⟨g, i * 4 + 1, none⟩ (.int .u8 v)) B (.slice (some ⟨g, 0, none⟩) p.length cap) (p.set i { p.getD i I.zero with jt := v }) := ownsI_s h hi 1 (by omega) _ _ rfl
theorem ownsI_s2 (h : ownsI w B (.slice (some ⟨g, 0, none⟩) p.length cap) p) (hi : i < p.length) (v : Int) :
    ownsI (w.setCell ⟨g, i * 4 + 2, none⟩ (.int .u8 v)) B (.slice (some ⟨g, 0, none⟩) p.length cap) (p.set i { p.getD i I.zero with jf := v }) := ownsI_s h hi 2 (by omega) _ _ rfl
theorem ownsI_s3 (h : ownsI w B (.slice (some ⟨g, 0, none⟩) p.length cap) p) (hi : i < p.length) (v : Int) :
    ownsI (w.setCell ⟨g, i * 4 + 3, none⟩ (.int .u32 v)) B (.slice (some ⟨g, 0, none⟩) p.length cap) (p.set i { p.getD i I.zero with k := v }) := ownsI_s h hi 3 (by omega) _ _ rfl
theorem getD_set (hi : i < p.length) (y : I) : (p.set i y).getD i I.zero = y := by
  rw [List.getD_eq_getElem?_getD, List.getElem?_set_self hi]; rfl
theorem ownsI_n {n : Nat} (hn : p.length = n) (h : w.ownsRow B 36 4 (.slice (some ⟨g, 0, none⟩) n cap) n (insCells p)) (hi : i < p.length) (f : Nat) (hf : f < 4) (v : Value) (y : I)
    (e : ([.int .u16 (p.getD i I.zero).c, .int .u8 (p.getD i I.zero).jt, .int .u8 (p.getD i I.zero).jf, .int .u32 (p.getD i I.zero).k] : List Value).set f v = [.int .u16 y.c, .int .u8 y.jt, .int .u8 y.jf, .int .u32 y.k]) :
    (w.setCell ⟨g, i * 4 + f, none⟩ v).ownsRow B 36 4 (.slice (some ⟨g, 0, none⟩) n cap) n (insCells (p.set i y)) := by
  subst hn
  have h1 := (World.ownsRow.stored h (i * 4 + f) v).1
  rw [insCells_set p i f hi v y e hf] at h1
  exact h1
theorem ownsI_all {n : Nat} (hn : p.length = n) (h : w.ownsRow B 36 4 (.slice (some ⟨g, 0, none⟩) n cap) n (insCells p)) (hi : i < p.length) (y : I) :
    ((((w.setCell ⟨g, i * 4, none⟩ (.int .u16 y.c)).setCell ⟨g, i * 4 + 1, none⟩ (.int .u8 y.jt)).setCell ⟨g, i * 4 + 2, none⟩ (.int .u8 y.jf)).setCell ⟨g, i * 4 + 3, none⟩ (.int .u32 y.k)).ownsRow B 36 4 (.slice (some ⟨g, 0, none⟩) n cap) n (insCells (p.set i y)) := by
  have a0 := ownsI_n hn h hi 0 (by omega) (.int .u16 y.c) { p.getD i I.zero with c := y.c } rfl
  have a1 := ownsI_n (by simpa using hn) a0 (by simpa using hi) 1 (by omega) (.int .u8 y.jt) { p.getD i I.zero with c := y.c, jt := y.jt } (by rw [getD_set hi]; rfl)
  rw [List.set_set] at a1
  have a2 := ownsI_n (by simpa using hn) a1 (by simpa using hi) 2 (by omega) (.int .u8 y.jf) { p.getD i I.zero with c := y.c, jt := y.jt, jf := y.jf } (by rw [getD_set hi]; rfl)
  rw [List.set_set] at a2
  have a3 := ownsI_n (by simpa using hn) a2 (by simpa using hi) 3 (by omega) (.int .u32 y.k) y (by rw [getD_set hi]; rfl)
  rw [List.set_set] at a3
  exact a3
end
end Go.Proofs.Ytjfgihmamoiipaa
