/-
  WHAT A SLICE OF CALLS THAT CAME IN HOLDS.
-/
import Derived.Test.YtjfgihmamoiipaaOpenC
namespace Go.Proofs.Ytjfgihmamoiipaa
open Go.RowKit
set_option linter.unusedVariables false

instance : Inhabited C := ⟨C.zero⟩

open Go.ChangeShapes Go.WideShapes Go.ChangeAt Go.Deep in
set_option maxRecDepth 100000 in
theorem open_calls {H : Type} {enc : TypeId × Value → H} {W : World} {a : Option Addr} {len cap : Nat} {d : DataW H} {ps : List MemPlace}
    (h : DataW.Trod enc Try.prog W 0 (fun _ => true) true 49 (.slice a len cap) d ps) :
    ∃ cs : List C, cs.length = len ∧ len ≤ maxLen ∧ CSrc W a cs ∧ (∀ c ∈ cs, c.ok) ∧ ∀ c ∈ cs, c.args.length ≤ maxLen := by
  obtain ⟨fuel, hf⟩ := h
  rcases open_slice Try.underlying49 hf with ⟨hcs, _⟩ | ⟨x, l, c, m, n, D, Pl, hcs, _, hl, hm, hmm, _, hx⟩
  · simp [Value.cells] at hcs
    obtain ⟨rfl, rfl, rfl⟩ := hcs
    exact ⟨[], rfl, by simp, .inl rfl, by simp, by simp⟩
  · simp [Value.cells] at hcs
    obtain ⟨rfl, rfl, rfl⟩ := hcs
    simp only [if_true] at hmm
    subst hmm
    rw [cellsCall] at hx
    have each : ∀ i, i < len → ∃ q : C, (W.cell? (x.add (i * 3)) = some (.int .u32 q.arch) ∧ W.cell? (x.add (i * 3 + 1)) = some (.int .u32 q.nr) ∧ ∃ a' cap', W.cell? (x.add (i * 3 + 2)) = some (.slice a' q.args.length cap') ∧ USrc W a' q.args) ∧ q.ok ∧ q.args.length ≤ maxLen := by
      intro i hi
      obtain ⟨cs', h1, h2⟩ := hx i (by omega)
      obtain ⟨_, hlen, hcell⟩ := World.cells?_some h1
      obtain ⟨q, a', cap', e, hmq, hs, hok⟩ := open_cells h2
      subst e
      have c0 := hcell 0 (by omega)
      have c1 := hcell 1 (by omega)
      have c2 := hcell 2 (by omega)
      rw [add_add] at c0 c1 c2
      exact ⟨q, ⟨by simpa using c0, by simpa using c1, a', cap', by simpa using c2, hs⟩, hok, hmq⟩
    obtain ⟨q, hq⟩ := choose_lt each
    by_cases h0 : len = 0
    · subst h0
      exact ⟨[], rfl, by simp, .inl rfl, by simp, by simp⟩
    · have hspot : x.spot = none := by simpa [Addr.add] using World.cell?_spot (hq 0 (by omega)).1.1
      have hlt : x.block < W.heap.size := by simpa [Addr.add] using cell_lt (hq 0 (by omega)).1.1
      obtain ⟨b, o, sp⟩ := x
      simp only at hspot
      subst hspot
      refine ⟨(List.range len).map q, by simp, by omega, .inr ⟨b, o, rfl, hlt, fun i hi => ?_⟩, ?_, ?_⟩
      · have hi' : i < len := by simpa using hi
        have e : ((List.range len).map q).getD i C.zero = q i := by
          simp [List.getD_eq_getElem?_getD, hi']
        rw [e]
        obtain ⟨⟨c0, c1, a', cap', c2, hs⟩, _⟩ := hq i hi'
        rw [add_at] at c0 c1 c2
        exact ⟨by simpa [Nat.add_assoc] using c0, by simpa [Nat.add_assoc] using c1, a', cap', by simpa [Nat.add_assoc] using c2, hs⟩
      · intro y hy
        simp only [List.mem_map, List.mem_range] at hy
        obtain ⟨i, hi, rfl⟩ := hy
        exact (hq i hi).2.1
      · intro y hy
        simp only [List.mem_map, List.mem_range] at hy
        obtain ⟨i, hi, rfl⟩ := hy
        exact (hq i hi).2.2
end Go.Proofs.Ytjfgihmamoiipaa
