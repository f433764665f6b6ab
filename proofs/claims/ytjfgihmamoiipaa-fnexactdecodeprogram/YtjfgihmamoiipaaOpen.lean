/-
  WHAT A SLICE OF INSTRUCTIONS THAT CAME IN HOLDS: a list of instructions, each within its kinds.
-/
import Derived.Test.YtjfgihmamoiipaaCopy
import Derived.ProofKit
import Derived.OpenShut
import Derived.ShutString
import Derived.ChangeOld
import Derived.Below
import Derived.Deep.Slices
namespace Go.Proofs.Ytjfgihmamoiipaa
open Go.ChangeShapes Go.WideShapes Go.ChangeAt Go.RowKit Go.Deep
set_option linter.unusedVariables false

theorem own : ownKnob Try.prog.godebug = none := by kernel_rfl
theorem laidOut : laidOutB Try.prog = true := by kernel_rfl
theorem cellsIns : Try.prog.cellsOf 84 = 4 := by kernel_rfl
theorem cellsU16 : Try.prog.cellsOf 34 = 1 := by kernel_rfl
theorem cellsU8 : Try.prog.cellsOf 5 = 1 := by kernel_rfl
theorem cellsU32 : Try.prog.cellsOf 28 = 1 := by kernel_rfl

theorem cell_lt {w : World} {a : Addr} {v : Value} (h : w.cell? a = some v) : a.block < w.heap.size := by
  by_cases hb : a.block < w.heap.size
  · exact hb
  · exfalso
    simp [World.cell?, Array.getElem?_eq_none (show w.heap.size ≤ a.block by omega)] at h

set_option maxRecDepth 100000 in
theorem open_insS {H : Type} {enc : TypeId × Value → H} {W : World} {a : Option Addr} {len cap : Nat} {d : DataW H} {ps : List MemPlace}
    (h : DataW.Trod enc Try.prog W 0 (fun _ => true) true 38 (.slice a len cap) d ps) :
    ∃ p : List I, p.length = len ∧ len ≤ maxLen ∧ Src W a p ∧ ∀ x ∈ p, x.ok := by
  obtain ⟨fuel, hf⟩ := h
  rcases open_slice Try.underlying38 hf with ⟨hcs, _⟩ | ⟨x, l, c, m, n, D, Pl, hcs, _, hl, hm, hmm, _, hx⟩
  · simp [Value.cells] at hcs
    obtain ⟨rfl, rfl, rfl⟩ := hcs
    exact ⟨[], rfl, by simp, .inl rfl, by simp⟩
  · simp [Value.cells] at hcs
    obtain ⟨rfl, rfl, rfl⟩ := hcs
    simp only [if_true] at hmm
    subst hmm
    rw [cellsIns] at hx
    have each : ∀ i, i < len → ∃ q : Int × Int × Int × Int, (W.cell? (x.add (i * 4)) = some (.int .u16 q.1) ∧ W.cell? (x.add (i * 4 + 1)) = some (.int .u8 q.2.1) ∧ W.cell? (x.add (i * 4 + 2)) = some (.int .u8 q.2.2.1) ∧ W.cell? (x.add (i * 4 + 3)) = some (.int .u32 q.2.2.2)) ∧ I.ok ⟨q.1, q.2.1, q.2.2.1, q.2.2.2⟩ := by
      intro i hi
      obtain ⟨cs', h1, h2⟩ := hx i (by omega)
      obtain ⟨_, hlen, hcell⟩ := World.cells?_some h1
      obtain ⟨xs, k, hk, hxy, _, hxl, hfl⟩ := DataW.trod_struct Try.underlying84 h2
      match xs, hxl, cs', hlen with
      | [y0, y1, y2, y3], _, [v0, v1, v2, v3], _ =>
        have g0 := hfl 0 _ rfl
        have g1 := hfl 1 _ rfl
        have g2 := hfl 2 _ rfl
        have g3 := hfl 3 _ rfl
        simp [cellsU16, cellsU8, cellsU32] at g0 g1 g2 g3
        obtain ⟨a0, e0, _, w0⟩ := DataW.trod_int Try.underlying34 g0
        obtain ⟨a1, e1, _, w1⟩ := DataW.trod_int Try.underlying5 g1
        obtain ⟨a2, e2, _, w2⟩ := DataW.trod_int Try.underlying5 g2
        obtain ⟨a3, e3, _, w3⟩ := DataW.trod_int Try.underlying28 g3
        simp at e0 e1 e2 e3
        subst e0 e1 e2 e3
        have c0 := hcell 0 (by omega)
        have c1 := hcell 1 (by omega)
        have c2 := hcell 2 (by omega)
        have c3 := hcell 3 (by omega)
        rw [add_add] at c0 c1 c2 c3
        refine ⟨(a0, a1, a2, a3), ⟨by simpa using c0, by simpa using c1, by simpa using c2, by simpa using c3⟩, ?_⟩
        have b0 := bounds_u16 w0
        have b1 := bounds_u8 w1
        have b2 := bounds_u8 w2
        have b3 := bounds_u32 w3
        unfold I.ok
        simp only
        omega
    obtain ⟨q, hq⟩ := choose_lt each
    by_cases h0 : len = 0
    · subst h0
      exact ⟨[], rfl, by simp, .inl rfl, by simp⟩
    · have hspot : x.spot = none := by simpa [Addr.add] using World.cell?_spot (hq 0 (by omega)).1.1
      have hlt : x.block < W.heap.size := by simpa [Addr.add] using cell_lt (hq 0 (by omega)).1.1
      obtain ⟨b, o, sp⟩ := x
      simp only at hspot
      subst hspot
      refine ⟨(List.range len).map fun i => ⟨(q i).1, (q i).2.1, (q i).2.2.1, (q i).2.2.2⟩, by simp, by omega, .inr ⟨b, o, rfl, hlt, fun i hi => ?_⟩, ?_⟩
      · have hi' : i < len := by simpa using hi
        have e : ((List.range len).map fun i => (⟨(q i).1, (q i).2.1, (q i).2.2.1, (q i).2.2.2⟩ : I)).getD i I.zero = ⟨(q i).1, (q i).2.1, (q i).2.2.1, (q i).2.2.2⟩ := by
          simp [List.getD_eq_getElem?_getD, hi']
        rw [e]
        obtain ⟨⟨c0, c1, c2, c3⟩, _⟩ := hq i hi'
        have ea : ∀ m, (⟨b, o, none⟩ : Addr).add m = ⟨b, o + m, none⟩ := fun m => by
          unfold Addr.add
          by_cases hm0 : m = 0
          · subst hm0; simp
          · simp [hm0]
        rw [ea] at c0 c1 c2 c3
        exact ⟨by simpa [Addr.add, Nat.add_assoc] using c0, by simpa [Addr.add, Nat.add_assoc] using c1, by simpa [Addr.add, Nat.add_assoc] using c2, by simpa [Addr.add, Nat.add_assoc] using c3⟩
      · intro y hy
        simp only [List.mem_map, List.mem_range] at hy
        obtain ⟨i, hi, rfl⟩ := hy
        exact (hq i hi).2
end Go.Proofs.Ytjfgihmamoiipaa
