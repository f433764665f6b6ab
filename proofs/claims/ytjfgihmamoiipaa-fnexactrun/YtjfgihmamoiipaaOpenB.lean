/-
  WHAT A SLICE OF BYTES THAT CAME IN HOLDS.
-/
import Derived.Test.YtjfgihmamoiipaaOpen
import Derived.Test.YtjfgihmamoiipaaBytes
import Derived.Test.YtjfgihmamoiipaaMathD
namespace Go.Proofs.Ytjfgihmamoiipaa
open Go.RowKit
set_option linter.unusedVariables false

open Go.ChangeShapes Go.WideShapes Go.ChangeAt Go.Deep in
set_option maxRecDepth 100000 in
/-- bytes that came in -/
theorem open_bytes {H : Type} {enc : TypeId × Value → H} {W : World} {a : Option Addr} {len cap : Nat} {d : DataW H} {ps : List MemPlace}
    (h : DataW.Trod enc Try.prog W 0 (fun _ => true) true 22 (.slice a len cap) d ps) :
    ∃ l : List Int, l.length = len ∧ len ≤ maxLen ∧ len ≤ cap ∧ BSrc W a l ∧ isBytes l := by
  obtain ⟨fuel, hf⟩ := h
  rcases open_ints Try.underlying22 Try.underlying5 (by kernel_rfl) hf with ⟨hcs, _⟩ | ⟨x, l, c, zs, hcs, _, hl, hm, hz, _, hcell, hwz⟩
  · simp [Value.cells] at hcs
    obtain ⟨rfl, rfl, rfl⟩ := hcs
    exact ⟨[], rfl, by simp, by simp, .inl rfl, fun x hx => by simp at hx⟩
  · simp [Value.cells] at hcs
    obtain ⟨rfl, rfl, rfl⟩ := hcs
    have hzl : zs.length = cap := by simpa using hz
    have hlen : (zs.take len).length = len := by simp; omega
    refine ⟨zs.take len, hlen, by omega, hl, ?_, fun y hy => ?_⟩
    · by_cases h0 : len = 0
      · subst h0; exact .inl (by simp)
      · have hc0 := hcell 0 (by omega)
        have hspot : x.spot = none := by simpa [Addr.add] using World.cell?_spot hc0
        have hlt : x.block < W.heap.size := by simpa [Addr.add] using cell_lt hc0
        obtain ⟨b, o, sp⟩ := x
        simp only at hspot
        subst hspot
        refine .inr ⟨b, o, rfl, hlt, fun i hi => ?_⟩
        have hi' : i < len := by omega
        have hc := hcell i (by omega)
        rw [add_at] at hc
        rw [hc]
        simp [List.getD_eq_getElem?_getD, hi']
    · have := bounds_u8 (hwz y (List.mem_of_mem_take hy))
      omega
end Go.Proofs.Ytjfgihmamoiipaa
