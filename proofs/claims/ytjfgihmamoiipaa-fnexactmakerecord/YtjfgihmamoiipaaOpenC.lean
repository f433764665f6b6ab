/-
  WHAT A CALL, AND A SLICE OF CALLS, THAT CAME IN HOLD.
-/
import Derived.Test.YtjfgihmamoiipaaOpen
import Derived.Test.YtjfgihmamoiipaaCallS
namespace Go.Proofs.Ytjfgihmamoiipaa
open Go.RowKit
set_option linter.unusedVariables false

theorem cellsCall : Try.prog.cellsOf 60 = 3 := by kernel_rfl
theorem cellsLongs : Try.prog.cellsOf 58 = 1 := by kernel_rfl

open Go.ChangeShapes Go.WideShapes Go.ChangeAt Go.Deep in
set_option maxRecDepth 100000 in
theorem open_longs {H : Type} {enc : TypeId × Value → H} {W : World} {fuel : Nat} {cs : List Value} {x : DataW H × List MemPlace}
    (hf : DataW.trod enc Try.prog W 0 (fun _ => true) true fuel 58 cs = some x) :
    ∃ (a : Option Addr) (l : List Int) (cap : Nat), cs = [.slice a l.length cap] ∧ l.length ≤ maxLen ∧ USrc W a l ∧ ∀ y ∈ l, isU64 y := by
  rcases open_ints Try.underlying58 Try.underlying61 (by kernel_rfl) hf with ⟨rfl, _⟩ | ⟨x, len, cap, zs, rfl, _, hl, hm, hz, _, hcell, hwz⟩
  · exact ⟨none, [], 0, rfl, by simp, .inl rfl, by simp⟩
  · have hzl : zs.length = cap := by simpa using hz
    have hlen : (zs.take len).length = len := by simp; omega
    refine ⟨some x, zs.take len, cap, by rw [hlen], by omega, ?_, fun y hy => bounds_u64 (hwz y (List.mem_of_mem_take hy))⟩
    by_cases h0 : len = 0
    · subst h0; exact .inl (by simp)
    · have hc0 := hcell 0 (by omega)
      have hspot : x.spot = none := by simpa [Addr.add] using World.cell?_spot hc0
      have hlt : x.block < W.heap.size := by simpa [Addr.add] using cell_lt hc0
      obtain ⟨b, o, sp⟩ := x
      simp only at hspot
      subst hspot
      refine .inr ⟨b, o, rfl, hlt, fun i hi => ?_⟩
      have hi' : i < len := by omega
      have hc := hcell i (by omega)
      rw [add_at] at hc
      rw [hc]
      simp [List.getD_eq_getElem?_getD, hi']

open Go.ChangeShapes Go.WideShapes Go.ChangeAt Go.Deep in
set_option maxRecDepth 100000 in
theorem open_cells {H : Type} {enc : TypeId × Value → H} {W : World} {fuel : Nat} {cs : List Value} {x : DataW H × List MemPlace}
    (hf : DataW.trod enc Try.prog W 0 (fun _ => true) true fuel 60 cs = some x) :
    ∃ (c : C) (a : Option Addr) (cap : Nat), cs = [.int .u32 c.arch, .int .u32 c.nr, .slice a c.args.length cap] ∧ c.args.length ≤ maxLen ∧ USrc W a c.args ∧ c.ok := by
  obtain ⟨xs, k, hk, hxy, hlen, hxl, hfl⟩ := DataW.trod_struct Try.underlying60 hf
  rw [cellsCall] at hlen
  match xs, hxl, cs, hlen with
  | [y0, y1, y2], _, [v0, v1, v2], _ =>
    have g0 := hfl 0 _ rfl
    have g1 := hfl 1 _ rfl
    have g2 := hfl 2 _ rfl
    simp [cellsU32, cellsLongs] at g0 g1 g2
    obtain ⟨a0, e0, _, w0⟩ := DataW.trod_int Try.underlying28 g0
    obtain ⟨a1, e1, _, w1⟩ := DataW.trod_int Try.underlying28 g1
    obtain ⟨a, l, cap, e2, hm, hs, hu⟩ := open_longs g2
    simp at e0 e1 e2
    subst e0 e1 e2
    have b0 := bounds_u32 w0
    have b1 := bounds_u32 w1
    exact ⟨⟨a0, a1, l⟩, a, cap, rfl, hm, hs, ⟨b0.1, b0.2, b1.1, b1.2, hu⟩⟩

open Go.ChangeShapes Go.WideShapes Go.ChangeAt Go.Deep in
set_option maxRecDepth 100000 in
theorem open_call {H : Type} {enc : TypeId × Value → H} {W : World} {v : Value} {d : DataW H} {ps : List MemPlace} {base : Nat} (hv : Value.okWide Try.prog W .any base 60 v)
    (h : DataW.Trod enc Try.prog W 0 (fun _ => true) true 60 v d ps) :
    ∃ (c : C) (a : Option Addr) (cap : Nat), v = callV c (.slice a c.args.length cap) ∧ c.args.length ≤ maxLen ∧ USrc W a c.args ∧ c.ok := by
  obtain ⟨fuel, hf⟩ := h
  obtain ⟨cs, rfl, hcs⟩ := okWide_struct Try.underlying60 hv
  obtain ⟨c, a, cap, e, hm, hs, hok⟩ := open_cells hf
  refine ⟨c, a, cap, ?_, hm, hs, hok⟩
  simp [Value.cells] at e
  cases cs; simp_all
end Go.Proofs.Ytjfgihmamoiipaa
