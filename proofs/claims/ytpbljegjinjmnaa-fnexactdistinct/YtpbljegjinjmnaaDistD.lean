/-
  A ROW OF CALLS that is written into: its elements, a store, the clearing of its end.
-/
import Derived.Test.YtpbljegjinjmnaaDistC
import Derived.Test.YtpbljegjinjmnaaOrdC
import Derived.Test.YtpbljegjinjmnaaCallW
import Derived.Test.YtpbljegjinjmnaaCondM
import Derived.Laws.IdiomCopy
namespace Go.Proofs.Ytpbljegjinjmnaa
open Go.RowKit
set_option linter.unusedVariables false

def cellF (g : Nat → C × Value) (j : Nat) : Value := if j % 3 = 0 then .int .u32 (g (j / 3)).1.arch else if j % 3 = 1 then .int .u32 (g (j / 3)).1.nr else (g (j / 3)).2
theorem cellF_0 (g : Nat → C × Value) (i : Nat) : cellF g (i * 3) = .int .u32 (g i).1.arch := by
  unfold cellF; rw [if_pos (by omega), show i * 3 / 3 = i by omega]
theorem cellF_1 (g : Nat → C × Value) (i : Nat) : cellF g (i * 3 + 1) = .int .u32 (g i).1.nr := by
  unfold cellF; rw [if_neg (by omega), if_pos (by omega), show (i * 3 + 1) / 3 = i by omega]
theorem cellF_2 (g : Nat → C × Value) (i : Nat) : cellF g (i * 3 + 2) = (g i).2 := by
  unfold cellF; rw [if_neg (by omega), if_neg (by omega), show (i * 3 + 2) / 3 = i by omega]

/-- block D is a row of N calls, the first n of which are g's -/
def RowM (w : World) (D N n : Nat) (g : Nat → C × Value) : Prop := n ≤ N ∧ ∃ f, w.rowIs D 64 (N * 3) f ∧ ∀ j, j < n * 3 → f j = cellF g j

theorem RowM.lt {w : World} {D N n : Nat} {g : Nat → C × Value} (h : RowM w D N n g) : D < w.heap.size := by
  obtain ⟨_, f, hr, _⟩ := h; exact hr.lt
theorem RowM.keep {w w1 : World} {D N n : Nat} {g : Nat → C × Value} (h : RowM w D N n g) (hb : Below w.heap.size w w1) : RowM w1 D N n g := by
  obtain ⟨hn, f, hr, hf⟩ := h
  exact ⟨hn, f, hr.of_block (hb.block D hr.lt), hf⟩
theorem RowM.cells {w : World} {D N n i : Nat} {g : Nat → C × Value} (h : RowM w D N n g) (hi : i < n) :
    w.cell? ⟨D, i * 3, none⟩ = some (.int .u32 (g i).1.arch) ∧ w.cell? ⟨D, i * 3 + 1, none⟩ = some (.int .u32 (g i).1.nr) ∧ w.cell? ⟨D, i * 3 + 2, none⟩ = some (g i).2 := by
  obtain ⟨hn, f, hr, hf⟩ := h
  refine ⟨?_, ?_, ?_⟩
  · rw [hr.cell (by omega), hf _ (by omega), cellF_0]
  · rw [hr.cell (by omega), hf _ (by omega), cellF_1]
  · rw [hr.cell (by omega), hf _ (by omega), cellF_2]
theorem RowM.open {w : World} {D N n : Nat} {g : Nat → C × Value} (h : RowM w D N n g) (j : Nat) (hj : j < N * 3) : ∃ v, w.cell? ⟨D, j, none⟩ = some v ∧ w.frozen? ⟨D, j, none⟩ = false := by
  obtain ⟨hn, f, hr, hf⟩ := h
  exact ⟨_, hr.cell hj, hr.frozen j⟩
theorem RowM.set {w : World} {D N n : Nat} {g : Nat → C × Value} (h : RowM w D N n g) (i : Nat) (p : C × Value) :
    RowM (((w.setCell ⟨D, i * 3, none⟩ (.int .u32 p.1.arch)).setCell ⟨D, i * 3 + 1, none⟩ (.int .u32 p.1.nr)).setCell ⟨D, i * 3 + 2, none⟩ p.2) D N n (fun j => if j = i then p else g j) := by
  obtain ⟨hn, f, hr, hf⟩ := h
  refine ⟨hn, _, ((hr.set _ _).set _ _).set _ _, fun j hj => ?_⟩
  have hj' := hf j hj
  by_cases e0 : j = i * 3
  · subst e0
    rw [if_neg (by omega), if_neg (by omega), if_pos rfl, cellF_0, if_pos rfl]
  · by_cases e1 : j = i * 3 + 1
    · subst e1
      rw [if_neg (by omega), if_pos rfl, cellF_1, if_pos rfl]
    · by_cases e2 : j = i * 3 + 2
      · subst e2
        rw [if_pos rfl, cellF_2, if_pos rfl]
      · rw [if_neg e2, if_neg e1, if_neg e0, hj']
        unfold cellF
        have hne : ¬ j / 3 = i := by omega
        simp only [hne, if_false]
theorem RowM.less {w : World} {D N n m : Nat} {g : Nat → C × Value} (h : RowM w D N n g) (hm : m ≤ n) : RowM w D N m g := by
  obtain ⟨hn, f, hr, hf⟩ := h
  exact ⟨by omega, f, hr, fun j hj => hf j (by omega)⟩

theorem row_setCells {D t n : Nat} : ∀ (vs : List Value) (o : Nat) (w : World) (f : Nat → Value), w.rowIs D t n f → ∃ f', (w.setCells D o vs).rowIs D t n f' ∧ ∀ j, j < o → f' j = f j
  | [], o, w, f, h => ⟨f, h, fun _ _ => rfl⟩
  | v :: r, o, w, f, h => by
    obtain ⟨f', h1, h2⟩ := row_setCells r (o + 1) _ _ (h.set o v)
    refine ⟨f', h1, fun j hj => ?_⟩
    rw [h2 j (by omega), if_neg (by omega)]
theorem below_setCells {B D : Nat} {W : World} (hD : B ≤ D) : ∀ (vs : List Value) (o : Nat) (w : World), Below B W w → Below B W (w.setCells D o vs)
  | [], _, _, h => h
  | v :: r, o, w, h => below_setCells hD r (o + 1) _ (h.setCell (p := ⟨D, o, none⟩) hD v)
theorem RowM.clear {w : World} {D N n m : Nat} {g : Nat → C × Value} (h : RowM w D N n g) (hm : m ≤ n) (vs : List Value) : RowM (w.setCells D (m * 3) vs) D N m g := by
  obtain ⟨hn, f, hr, hf⟩ := h
  obtain ⟨f', h1, h2⟩ := row_setCells vs (m * 3) w f hr
  exact ⟨by omega, f', h1, fun j hj => by rw [h2 j hj, hf j (by omega)]⟩

def zero3 (n : Nat) : List Value := (Builtin.zeroCells #[.int .u32 0, .int .u32 0, .slice none 0 0] n).toList
theorem zero3_len (n : Nat) : (zero3 n).length = n * 3 := by simp [zero3, Builtin.zeroCells]
theorem zero3_one (n : Nat) : ∀ v ∈ zero3 n, v.oneCell' = true := by
  intro v hv
  simp only [zero3, Builtin.zeroCells, Array.toList_map, List.mem_map] at hv
  obtain ⟨i, _, rfl⟩ := hv
  have : i % 3 = 0 ∨ i % 3 = 1 ∨ i % 3 = 2 := by omega
  rcases this with e | e | e <;> simp [e] <;> rfl

/-- 'clear(s)' at calls -/
theorem run_clear3 (w : World) (D o n c ty : Nat) (hn : 0 < n) (hc : ∀ j, j < n * 3 → ∃ v, w.cell? ⟨D, o + j, none⟩ = some v ∧ w.frozen? ⟨D, o + j, none⟩ = false) :
    (Builtin.clear_ #[35] ty #[.slice (some ⟨D, o, none⟩) n c]).run Try.prog w = .ok (.tuple #[]) (w.setCells D o (zero3 n)) := by
  have hv : ∀ w, (zeroValue 64).run Try.prog w = .ok (.agg #[.int .u32 0, .int .u32 0, .slice none 0 0]) w := fun w => by kernel_rfl
  have hst := run_storeCells_cells (P := Try.prog) D o (zero3 n) 0 w (by intro j hj; rw [zero3_len] at hj; obtain ⟨v, h1, _⟩ := hc j hj; rw [Nat.add_zero, h1]; rfl) (by intro j hj; rw [zero3_len] at hj; obtain ⟨v, _, h2⟩ := hc j hj; rw [Nat.add_zero]; exact h2) (zero3_one n)
  simp only [Nat.add_zero] at hst
  obtain ⟨m, rfl⟩ : ∃ m, n = m + 1 := ⟨n - 1, by omega⟩
  have hz : (Builtin.zeroCells (Value.agg #[.int .u32 0, .int .u32 0, .slice none 0 0]).cells (m + 1)).toList = zero3 (m + 1) := rfl
  simp [Builtin.clear_, run_underlying Try.underlying35, hv, hz, hst]

/-- a call whose numbers lie in the world W, below block B -/
structure GoodB (W : World) (B : Nat) (p : C × Value) : Prop where
  ok : p.1.ok
  len : p.1.args.length ≤ 16777216
  src : ∃ a cap, p.2 = .slice a p.1.args.length cap ∧ (p.1.args = [] ∨ ∃ b o, a = some ⟨b, o, none⟩ ∧ b < B ∧ UAt W b o p.1.args)

theorem GoodB.at {W w : World} {B : Nat} {p : C × Value} (h : GoodB W B p) (hb : Below B W w) (hB : B ≤ W.heap.size) : ∃ a cap, p.2 = .slice a p.1.args.length cap ∧ USrc w a p.1.args := by
  obtain ⟨a, cap, e, h1⟩ := h.src
  refine ⟨a, cap, e, ?_⟩
  rcases h1 with h1 | ⟨b, o, h1, h2, h3⟩
  · exact .inl h1
  · exact .inr ⟨b, o, h1, by have := hb.size; omega, fun i hi => by rw [hb.cell h2]; exact h3 i hi⟩

def lst (g : Nat → C × Value) (n : Nat) : List C := (List.range n).map fun i => (g i).1
theorem lst_len (g : Nat → C × Value) (n : Nat) : (lst g n).length = n := by simp [lst]
theorem lst_get (g : Nat → C × Value) {n i : Nat} (h : i < n) : (lst g n).getD i C.zero = (g i).1 := by
  simp [lst, List.getD_eq_getElem?_getD, h]
theorem lst_take (g : Nat → C × Value) {n k : Nat} (h : k ≤ n) : (lst g n).take k = lst g k := by
  unfold lst
  rw [← List.map_take, List.take_range, Nat.min_eq_left h]
theorem lst_succ (g : Nat → C × Value) (n : Nat) : lst g (n + 1) = lst g n ++ [(g n).1] := by
  simp [lst, List.range_succ]
theorem lst_congr {g g' : Nat → C × Value} {n : Nat} (h : ∀ i, i < n → g i = g' i) : lst g n = lst g' n := by
  unfold lst
  apply List.map_congr_left
  intro i hi
  rw [h i (by simpa using hi)]
end Go.Proofs.Ytpbljegjinjmnaa
