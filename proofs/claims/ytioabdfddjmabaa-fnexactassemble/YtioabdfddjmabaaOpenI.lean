/-
  WHAT A SLICE OF ITEMS THAT CAME IN HOLDS.
-/
import Derived.Test.YtioabdfddjmabaaOpen
import Derived.Test.YtioabdfddjmabaaAsmA
namespace Go.Proofs.Ytioabdfddjmabaa
open Go.RowKit
set_option linter.unusedVariables false

instance : Inhabited It := ⟨It.zero⟩
theorem cellsItem : Try.prog.cellsOf 44 = 6 := by kernel_rfl
theorem cellsInt : Try.prog.cellsOf 3 = 1 := by kernel_rfl

open Go.ChangeShapes Go.WideShapes Go.ChangeAt Go.Deep in
set_option maxRecDepth 100000 in
theorem open_insCells {H : Type} {enc : TypeId × Value → H} {W : World} {fuel : Nat} {cs : List Value} {x : DataW H × List MemPlace}
    (hf : DataW.trod enc Try.prog W 0 (fun _ => true) true fuel 42 cs = some x) :
    ∃ c : I, cs = [.int .u16 c.c, .int .u8 c.jt, .int .u8 c.jf, .int .u32 c.k] ∧ c.ok := by
  obtain ⟨xs, k, hk, hxy, hlen, hxl, hfl⟩ := DataW.trod_struct Try.underlying42 hf
  rw [cellsIns] at hlen
  match xs, hxl, cs, hlen with
  | [y0, y1, y2, y3], _, [v0, v1, v2, v3], _ =>
    have g0 := hfl 0 _ rfl
    have g1 := hfl 1 _ rfl
    have g2 := hfl 2 _ rfl
    have g3 := hfl 3 _ rfl
    simp [cellsU16, cellsU8, cellsU32] at g0 g1 g2 g3
    obtain ⟨a0, e0, _, w0⟩ := DataW.trod_int Try.underlying35 g0
    obtain ⟨a1, e1, _, w1⟩ := DataW.trod_int Try.underlying5 g1
    obtain ⟨a2, e2, _, w2⟩ := DataW.trod_int Try.underlying5 g2
    obtain ⟨a3, e3, _, w3⟩ := DataW.trod_int Try.underlying36 g3
    simp at e0 e1 e2 e3
    subst e0 e1 e2 e3
    refine ⟨⟨a0, a1, a2, a3⟩, rfl, ?_⟩
    have b0 := bounds_u16 w0
    have b1 := bounds_u8 w1
    have b2 := bounds_u8 w2
    have b3 := bounds_u32 w3
    unfold I.ok
    simp only
    omega

open Go.ChangeShapes Go.WideShapes Go.ChangeAt Go.Deep in
set_option maxRecDepth 100000 in
theorem open_itemCells {H : Type} {enc : TypeId × Value → H} {W : World} {fuel : Nat} {cs : List Value} {x : DataW H × List MemPlace}
    (hf : DataW.trod enc Try.prog W 0 (fun _ => true) true fuel 44 cs = some x) :
    ∃ c : It, cs = itC c ∧ c.ok := by
  obtain ⟨xs, k, hk, hxy, hlen, hxl, hfl⟩ := DataW.trod_struct Try.underlying44 hf
  rw [cellsItem] at hlen
  match xs, hxl, cs, hlen with
  | [y0, y1, y2], _, [v0, v1, v2, v3, v4, v5], _ =>
    have g0 := hfl 0 _ rfl
    have g1 := hfl 1 _ rfl
    have g2 := hfl 2 _ rfl
    simp [cellsInt, cellsIns] at g0 g1 g2
    obtain ⟨a0, e0, _, w0⟩ := DataW.trod_int Try.underlying3 g0
    obtain ⟨i, e1, hi⟩ := open_insCells g1
    obtain ⟨a2, e2, _, w2⟩ := DataW.trod_int Try.underlying3 g2
    simp at e0 e1 e2
    obtain ⟨rfl, rfl, rfl, rfl⟩ := e1
    subst e0 e2
    exact ⟨⟨a0, i, a2⟩, rfl, hi, bounds_i64 w0, bounds_i64 w2⟩

open Go.ChangeShapes Go.WideShapes Go.ChangeAt Go.Deep in
set_option maxRecDepth 100000 in
theorem open_itemS {H : Type} {enc : TypeId × Value → H} {W : World} {a : Option Addr} {len cap : Nat} {d : DataW H} {ps : List MemPlace}
    (h : DataW.Trod enc Try.prog W 0 (fun _ => true) true 22 (.slice a len cap) d ps) :
    ∃ p : List It, p.length = len ∧ len ≤ maxLen ∧ TSrc W a p ∧ ∀ x ∈ p, x.ok := by
  obtain ⟨fuel, hf⟩ := h
  rcases open_slice Try.underlying22 hf with ⟨hcs, _⟩ | ⟨x, l, c, m, n, D, Pl, hcs, _, hl, hm, hmm, _, hx⟩
  · simp [Value.cells] at hcs
    obtain ⟨rfl, rfl, rfl⟩ := hcs
    exact ⟨[], rfl, by simp, .inl rfl, by simp⟩
  · simp [Value.cells] at hcs
    obtain ⟨rfl, rfl, rfl⟩ := hcs
    simp only [if_true] at hmm
    subst hmm
    rw [cellsItem] at hx
    have each : ∀ i, i < len → ∃ q : It, (W.cell? (x.add (i * 6)) = some (.int .i64 q.kind) ∧ W.cell? (x.add (i * 6 + 1)) = some (.int .u16 q.ins.c) ∧ W.cell? (x.add (i * 6 + 2)) = some (.int .u8 q.ins.jt) ∧ W.cell? (x.add (i * 6 + 3)) = some (.int .u8 q.ins.jf) ∧ W.cell? (x.add (i * 6 + 4)) = some (.int .u32 q.ins.k) ∧ W.cell? (x.add (i * 6 + 5)) = some (.int .i64 q.target)) ∧ q.ok := by
      intro i hi
      obtain ⟨cs', h1, h2⟩ := hx i (by omega)
      obtain ⟨_, hlen, hcell⟩ := World.cells?_some h1
      obtain ⟨q, rfl, hq⟩ := open_itemCells h2
      have c0 := hcell 0 (by omega)
      have c1 := hcell 1 (by omega)
      have c2 := hcell 2 (by omega)
      have c3 := hcell 3 (by omega)
      have c4 := hcell 4 (by omega)
      have c5 := hcell 5 (by omega)
      rw [add_add] at c0 c1 c2 c3 c4 c5
      exact ⟨q, ⟨by simpa [itC] using c0, by simpa [itC] using c1, by simpa [itC] using c2, by simpa [itC] using c3, by simpa [itC] using c4, by simpa [itC] using c5⟩, hq⟩
    obtain ⟨q, hq⟩ := choose_lt each
    by_cases h0 : len = 0
    · subst h0
      exact ⟨[], rfl, by simp, .inl rfl, by simp⟩
    · have hspot : x.spot = none := by simpa [Addr.add] using World.cell?_spot (hq 0 (by omega)).1.1
      have hlt : x.block < W.heap.size := by simpa [Addr.add] using cell_lt (hq 0 (by omega)).1.1
      obtain ⟨b, o, sp⟩ := x
      simp only at hspot
      subst hspot
      refine ⟨(List.range len).map q, by simp, by omega, .inr ⟨b, o, rfl, hlt, fun i hi => ?_⟩, ?_⟩
      · have hi' : i < len := by simpa using hi
        have e : ((List.range len).map q)[i] = q i := by simp
        rw [e]
        obtain ⟨⟨c0, c1, c2, c3, c4, c5⟩, _⟩ := hq i hi'
        have ea : ∀ m, (⟨b, o, none⟩ : Addr).add m = ⟨b, o + m, none⟩ := fun m => by
          unfold Addr.add
          by_cases hm0 : m = 0
          · subst hm0; simp
          · simp [hm0]
        rw [ea] at c0 c1 c2 c3 c4 c5
        simp only [← Nat.add_assoc] at c0 c1 c2 c3 c4 c5
        exact ⟨c0, c1, c2, c3, c4, c5⟩
      · intro y hy
        simp only [List.mem_map, List.mem_range] at hy
        obtain ⟨i, hi, rfl⟩ := hy
        exact (hq i hi).2
end Go.Proofs.Ytioabdfddjmabaa
