/-
  WHAT A CONDITION THAT CAME IN HOLDS.
-/
import Derived.Test.YtjkmcdgjhfiklaaOpen
import Derived.Test.YtjkmcdgjhfiklaaCondS
namespace Go.Proofs.Ytjkmcdgjhfiklaa
open Go.RowKit
set_option linter.unusedVariables false

theorem cellsCon : Try.prog.cellsOf 24 = 3 := by kernel_rfl
theorem cellsI64 : Try.prog.cellsOf 3 = 1 := by kernel_rfl
theorem cellsU64 : Try.prog.cellsOf 22 = 1 := by kernel_rfl

/-- what three numbers make -/
theorem conV_mk {k a b : Int} (hk : -9223372036854775808 ≤ k ∧ k ≤ 9223372036854775807) (ha : 0 ≤ a ∧ a ≤ 18446744073709551615) (hb : 0 ≤ b ∧ b ≤ 18446744073709551615) :
    ∃ c : K, c.ok ∧ k = c.kind ∧ a = (c.a : Int) ∧ b = (c.b : Int) :=
  ⟨⟨k, a.toNat, b.toNat⟩, ⟨hk, by simp only; omega, by simp only; omega⟩, rfl, by simp only; omega, by simp only; omega⟩

open Go.ChangeShapes Go.WideShapes Go.ChangeAt Go.Deep in
set_option maxRecDepth 100000 in
theorem open_conCells {H : Type} {enc : TypeId × Value → H} {W : World} {fuel : Nat} {cs : List Value} {x : DataW H × List MemPlace}
    (hf : DataW.trod enc Try.prog W 0 (fun _ => true) true fuel 24 cs = some x) :
    ∃ c : K, cs = [.int .i64 c.kind, .int .u64 (c.a : Int), .int .u64 (c.b : Int)] ∧ c.ok := by
  obtain ⟨xs, k, hk, hxy, hlen, hxl, hfl⟩ := DataW.trod_struct Try.underlying24 hf
  rw [cellsCon] at hlen
  match xs, hxl, cs, hlen with
  | [y0, y1, y2], _, [v0, v1, v2], _ =>
    have g0 := hfl 0 _ rfl
    have g1 := hfl 1 _ rfl
    have g2 := hfl 2 _ rfl
    simp [cellsI64, cellsU64] at g0 g1 g2
    obtain ⟨a0, e0, _, w0⟩ := DataW.trod_int Try.underlying3 g0
    obtain ⟨a1, e1, _, w1⟩ := DataW.trod_int Try.underlying22 g1
    obtain ⟨a2, e2, _, w2⟩ := DataW.trod_int Try.underlying22 g2
    simp at e0 e1 e2
    subst e0 e1 e2
    obtain ⟨c, hc, e0, e1, e2⟩ := conV_mk (bounds_i64 w0) (bounds_u64 w1) (bounds_u64 w2)
    subst e0 e1 e2
    exact ⟨c, rfl, hc⟩

open Go.ChangeShapes Go.WideShapes Go.ChangeAt Go.Deep in
set_option maxRecDepth 100000 in
theorem open_con {H : Type} {enc : TypeId × Value → H} {W : World} {v : Value} {d : DataW H} {ps : List MemPlace} {base : Nat} (hv : Value.okWide Try.prog W .any base 24 v)
    (h : DataW.Trod enc Try.prog W 0 (fun _ => true) true 24 v d ps) : ∃ c : K, v = conV c ∧ c.ok := by
  obtain ⟨fuel, hf⟩ := h
  obtain ⟨cs, rfl, hcs⟩ := okWide_struct Try.underlying24 hv
  obtain ⟨c, e, hok⟩ := open_conCells hf
  refine ⟨c, ?_, hok⟩
  simp [Value.cells] at e
  cases cs; simp_all
end Go.Proofs.Ytjkmcdgjhfiklaa
