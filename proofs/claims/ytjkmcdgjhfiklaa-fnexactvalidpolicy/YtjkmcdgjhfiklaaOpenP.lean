/-
  WHAT A POLICY THAT CAME IN HOLDS.
-/
import Derived.Test.YtjkmcdgjhfiklaaOpenK
import Derived.Test.YtjkmcdgjhfiklaaPolS
import Derived.Test.YtjkmcdgjhfiklaaBytes
namespace Go.Proofs.Ytjkmcdgjhfiklaa
open Go.RowKit
set_option linter.unusedVariables false

instance : Inhabited K := ⟨K.zero⟩
instance : Inhabited E := ⟨E.zero⟩

open Go.ChangeShapes Go.WideShapes Go.ChangeAt Go.Deep in
set_option maxRecDepth 100000 in
/-- a slice of elements of k cells each, whatever the elements -/
theorem open_list {α : Type} [Inhabited α] {H : Type} {enc : TypeId × Value → H} {W : World} {fuel : Nat} {t e : TypeId} {k : Nat} {cs : List Value} {x : DataW H × List MemPlace} (P : World → Nat → Nat → α → Prop) (G : α → Prop)
    (ht : Try.prog.underlying t = some (.slice e)) (hk : Try.prog.cellsOf e = k) (h0k : 0 < k)
    (hP : ∀ n cs' y, DataW.trod enc Try.prog W 0 (fun _ => true) true n e cs' = some y → ∃ q : α, G q ∧ ∀ b o, b < W.heap.size → (∀ j, j < k → W.cell? ⟨b, o + j, none⟩ = cs'[j]?) → P W b o q)
    (hf : DataW.trod enc Try.prog W 0 (fun _ => true) true fuel t cs = some x) :
    ∃ (a : Option Addr) (l : List α) (cap : Nat), cs = [.slice a l.length cap] ∧ l.length ≤ maxLen ∧ LSrc k P W a l ∧ ∀ y ∈ l, G y := by
  rcases open_slice ht hf with ⟨hcs, _⟩ | ⟨x, len, cap, m, n, D, Pl, hcs, _, hl, hm, hmm, _, hx⟩
  · exact ⟨none, [], 0, hcs, by simp, .inl rfl, by simp⟩
  · simp only [if_true] at hmm
    obtain rfl : cap = m := hmm.symm
    rw [hk] at hx
    have each : ∀ i, i < len → ∃ q : α, G q ∧ (∃ v, W.cell? (x.add (i * k)) = some v) ∧ ∀ b o, x = ⟨b, o, none⟩ → b < W.heap.size → P W b (o + i * k) q := by
      intro i hi
      obtain ⟨cs', h1, h2⟩ := hx i (by omega)
      obtain ⟨_, hlen, hcell⟩ := World.cells?_some h1
      obtain ⟨q, hG, hq⟩ := hP _ _ _ h2
      refine ⟨q, hG, ?_, ?_⟩
      · have c0 := hcell 0 h0k
        rw [add_add] at c0
        refine ⟨cs'[0]'(by omega), ?_⟩
        rw [show i * k = i * k + 0 from rfl, c0]
        exact List.getElem?_eq_getElem _
      · intro b o hxe hb
        refine hq b _ hb fun j hj => ?_
        have c := hcell j hj
        rw [add_add, hxe, add_at] at c
        rw [← c, Nat.add_assoc]
    obtain ⟨q, hq⟩ := choose_lt each
    by_cases h0 : len = 0
    · subst h0
      exact ⟨some x, [], cap, by simpa using hcs, by simp, .inl rfl, by simp⟩
    · obtain ⟨v, hv⟩ := (hq 0 (by omega)).2.1
      have hspot : x.spot = none := by simpa [Addr.add] using World.cell?_spot hv
      have hlt : x.block < W.heap.size := by simpa [Addr.add] using cell_lt hv
      obtain ⟨b, o, sp⟩ := x
      simp only at hspot
      subst hspot
      refine ⟨some ⟨b, o, none⟩, (List.range len).map q, cap, by simpa using hcs, by simp; omega, .inr ⟨b, o, rfl, hlt, fun i hi => ?_⟩, ?_⟩
      · have hi' : i < len := by simpa using hi
        have e : ((List.range len).map q)[i] = q i := by simp
        rw [e]
        exact (hq i hi').2.2 b o rfl hlt
      · intro y hy
        simp only [List.mem_map, List.mem_range] at hy
        obtain ⟨i, hi, rfl⟩ := hy
        exact (hq i hi).1

theorem cellsRule : Try.prog.cellsOf 152 = 1 := by kernel_rfl
theorem cellsEntry : Try.prog.cellsOf 119 = 3 := by kernel_rfl
theorem cellsPolicy : Try.prog.cellsOf 37 = 1 := by kernel_rfl
theorem cellsConS : Try.prog.cellsOf 150 = 1 := by kernel_rfl
theorem cellsRuleS : Try.prog.cellsOf 117 = 1 := by kernel_rfl
theorem cellsEntryS : Try.prog.cellsOf 35 = 1 := by kernel_rfl
theorem cellsW32 : Try.prog.cellsOf 46 = 1 := by kernel_rfl

open Go.ChangeShapes Go.WideShapes Go.ChangeAt Go.Deep in
set_option maxRecDepth 100000 in
theorem open_conS {H : Type} {enc : TypeId × Value → H} {W : World} {fuel : Nat} {cs : List Value} {x : DataW H × List MemPlace}
    (hf : DataW.trod enc Try.prog W 0 (fun _ => true) true fuel 150 cs = some x) :
    ∃ (a : Option Addr) (l : List K) (cap : Nat), cs = [.slice a l.length cap] ∧ l.length ≤ maxLen ∧ LSrc 3 PK W a l ∧ okR l := by
  refine open_list PK K.ok Try.underlying150 cellsCon (by omega) (fun n cs' y h => ?_) hf
  obtain ⟨c, rfl, hok⟩ := open_conCells h
  exact ⟨c, hok, fun b o _ hc => ⟨by simpa using hc 0 (by omega), by simpa using hc 1 (by omega), by simpa using hc 2 (by omega)⟩⟩

/-- a rule's length, and its conditions' numbers -/
def RuleIn (r : List K) : Prop := okR r ∧ r.length ≤ maxLen
def EntryIn (e : E) : Prop := e.ok ∧ e.rules.length ≤ maxLen ∧ ∀ r ∈ e.rules, r.length ≤ maxLen

open Go.ChangeShapes Go.WideShapes Go.ChangeAt Go.Deep in
set_option maxRecDepth 100000 in
theorem open_ruleCells {H : Type} {enc : TypeId × Value → H} {W : World} {fuel : Nat} {cs : List Value} {x : DataW H × List MemPlace}
    (hf : DataW.trod enc Try.prog W 0 (fun _ => true) true fuel 152 cs = some x) :
    ∃ (r : List K) (a : Option Addr) (cap : Nat), cs = [.slice a r.length cap] ∧ LSrc 3 PK W a r ∧ RuleIn r := by
  obtain ⟨xs, k, hk, hxy, hlen, hxl, hfl⟩ := DataW.trod_struct Try.underlying152 hf
  rw [cellsRule] at hlen
  match xs, hxl, cs, hlen with
  | [y0], _, [v0], _ =>
    have g0 := hfl 0 _ rfl
    simp [cellsConS] at g0
    obtain ⟨a, l, cap, e, hm, hs, ho⟩ := open_conS g0
    exact ⟨l, a, cap, e, hs, ho, hm⟩

open Go.ChangeShapes Go.WideShapes Go.ChangeAt Go.Deep in
set_option maxRecDepth 100000 in
theorem open_ruleS {H : Type} {enc : TypeId × Value → H} {W : World} {fuel : Nat} {cs : List Value} {x : DataW H × List MemPlace}
    (hf : DataW.trod enc Try.prog W 0 (fun _ => true) true fuel 117 cs = some x) :
    ∃ (a : Option Addr) (l : List (List K)) (cap : Nat), cs = [.slice a l.length cap] ∧ l.length ≤ maxLen ∧ LSrc 1 PR W a l ∧ ∀ r ∈ l, RuleIn r := by
  refine open_list PR RuleIn Try.underlying117 cellsRule (by omega) (fun n cs' y h => ?_) hf
  obtain ⟨r, a, cap, rfl, hs, hin⟩ := open_ruleCells h
  exact ⟨r, hin, fun b o _ hc => ⟨a, cap, by simpa using hc 0 (by omega), hs⟩⟩

open Go.ChangeShapes Go.WideShapes Go.ChangeAt Go.Deep in
set_option maxRecDepth 100000 in
theorem open_entryCells {H : Type} {enc : TypeId × Value → H} {W : World} {fuel : Nat} {cs : List Value} {x : DataW H × List MemPlace}
    (hf : DataW.trod enc Try.prog W 0 (fun _ => true) true fuel 119 cs = some x) :
    ∃ (e : E) (a : Option Addr) (cap : Nat), cs = [.int .u32 e.arch, .int .u32 e.nr, .slice a e.rules.length cap] ∧ LSrc 1 PR W a e.rules ∧ EntryIn e := by
  obtain ⟨xs, k, hk, hxy, hlen, hxl, hfl⟩ := DataW.trod_struct Try.underlying119 hf
  rw [cellsEntry] at hlen
  match xs, hxl, cs, hlen with
  | [y0, y1, y2], _, [v0, v1, v2], _ =>
    have g0 := hfl 0 _ rfl
    have g1 := hfl 1 _ rfl
    have g2 := hfl 2 _ rfl
    simp [cellsW32, cellsRuleS] at g0 g1 g2
    obtain ⟨a0, e0, _, w0⟩ := DataW.trod_int Try.underlying46 g0
    obtain ⟨a1, e1, _, w1⟩ := DataW.trod_int Try.underlying46 g1
    obtain ⟨a, l, cap, e2, hm, hs, hin⟩ := open_ruleS g2
    simp at e0 e1 e2
    subst e0 e1 e2
    exact ⟨⟨a0, a1, l⟩, a, cap, rfl, hs, ⟨bounds_u32 w0, bounds_u32 w1, fun r hr => (hin r hr).1⟩, hm, fun r hr => (hin r hr).2⟩

open Go.ChangeShapes Go.WideShapes Go.ChangeAt Go.Deep in
set_option maxRecDepth 100000 in
theorem open_entryS {H : Type} {enc : TypeId × Value → H} {W : World} {fuel : Nat} {cs : List Value} {x : DataW H × List MemPlace}
    (hf : DataW.trod enc Try.prog W 0 (fun _ => true) true fuel 35 cs = some x) :
    ∃ (a : Option Addr) (l : List E) (cap : Nat), cs = [.slice a l.length cap] ∧ l.length ≤ maxLen ∧ LSrc 3 PE W a l ∧ ∀ e ∈ l, EntryIn e := by
  refine open_list PE EntryIn Try.underlying35 cellsEntry (by omega) (fun n cs' y h => ?_) hf
  obtain ⟨e, a, cap, rfl, hs, hin⟩ := open_entryCells h
  exact ⟨e, hin, fun b o _ hc => ⟨by simpa using hc 0 (by omega), by simpa using hc 1 (by omega), a, cap, by simpa using hc 2 (by omega), hs⟩⟩

open Go.ChangeShapes Go.WideShapes Go.ChangeAt Go.Deep in
set_option maxRecDepth 100000 in
theorem open_policy {H : Type} {enc : TypeId × Value → H} {W : World} {v : Value} {d : DataW H} {ps : List MemPlace} {base : Nat} (hv : Value.okWide Try.prog W .any base 37 v)
    (h : DataW.Trod enc Try.prog W 0 (fun _ => true) true 37 v d ps) :
    ∃ (p : List E) (a : Option Addr) (cap : Nat), v = .agg #[.slice a p.length cap] ∧ p.length ≤ maxLen ∧ LSrc 3 PE W a p ∧ ∀ e ∈ p, EntryIn e := by
  obtain ⟨fuel, hf⟩ := h
  obtain ⟨cs, rfl, hcs⟩ := okWide_struct Try.underlying37 hv
  obtain ⟨xs, k, hk, hxy, hlen, hxl, hfl⟩ := DataW.trod_struct Try.underlying37 hf
  rw [cellsPolicy] at hlen
  obtain ⟨cl⟩ := cs
  simp [Value.cells] at hlen hfl
  match xs, hxl, cl, hlen with
  | [y0], _, [v0], _ =>
    have g0 := hfl 0 _ rfl
    simp [cellsEntryS] at g0
    obtain ⟨a, l, cap, e, hm, hs, hin⟩ := open_entryS g0
    simp at e
    subst e
    exact ⟨l, a, cap, rfl, hm, hs, hin⟩
end Go.Proofs.Ytjkmcdgjhfiklaa
