/-
  THE SORT OF A ROW OF CALLS: what the row holds behind it.
-/
import Derived.Test.YtpbljegjinjmnaaDistT
import Derived.Test.YtpbljegjinjmnaaDistE
import Derived.Shelf.SlSortCmp.NoneTotal
namespace Go.Proofs.Ytpbljegjinjmnaa
open Go.Shelf Go.RowKit Go.Lib Go.Sort
set_option linter.unusedVariables false

theorem sw_block {α : Type} [Inhabited α] (enc : α → List Value) (k : Nat) (w : World) (D off m : Nat) (dk : Array α) (os : Array Obj) {j : Nat} (hj : j < w.heap.size) (hne : j ≠ D) : (sortWorldK enc k w D off m dk os).heap[j]? = w.heap[j]? := by
  unfold sortWorldK putRowK putRow
  rw [heap_grow_old _ _ (by simpa [mapBlock, Sort.ahead] using hj)]
  simp only [mapBlock, Sort.ahead, Array.getElem?_modify]
  rw [if_neg (fun e => hne e.symm)]

theorem sw_row {α : Type} [Inhabited α] (enc : α → List Value) (k : Nat) {w : World} {D m t n : Nat} {f : Nat → Value} (dk : Array α) (os : Array Obj) (h : w.rowIs D t n f) : (sortWorldK enc k w D 0 m dk os).rowIs D t n (fun j => if j < dk.size * k then (flatK enc k dk)[j]! else f j) := by
  have hlt := h.lt
  obtain ⟨c, hc, hs, hv⟩ := h
  refine ⟨putCells id 0 (flatK enc k dk) c, ?_, by simpa [putCells] using hs, fun i hi => ?_⟩
  · unfold sortWorldK putRowK putRow
    rw [heap_grow_old _ _ (by simpa [mapBlock, Sort.ahead] using hlt)]
    simp only [mapBlock, Sort.ahead, Array.getElem?_modify, if_true, hc, Option.map_some, onCells]
  · simp only [putCells, Array.getElem?_mapIdx, hv i hi, Option.map_some, Nat.zero_le, true_and, Nat.zero_add, size_flatK, Nat.sub_zero, id]

theorem sw_below {α : Type} [Inhabited α] (enc : α → List Value) (k : Nat) {B : Nat} {W w : World} {D m : Nat} (dk : Array α) (os : Array Obj) (hb : Below B W w) (hD : B ≤ D) (hBw : B ≤ w.heap.size) : Below B W (sortWorldK enc k w D 0 m dk os) :=
  hb.trans ⟨rfl, rfl, rfl, by simp only [sortWorldK, putRowK, size_grow, size_putRow]; exact Nat.le_add_right _ _, fun j hj => sw_block enc k w D 0 m dk os (by omega) (by omega)⟩

theorem choose_below {α : Type} [Inhabited α] {n : Nat} {P : Nat → α → Prop} (h : ∀ i, i < n → ∃ q, P i q) : ∃ f : Nat → α, ∀ i, i < n → P i (f i) := by
  classical
  refine ⟨fun i => if hi : i < n then Classical.choose (h i hi) else default, fun i hi => ?_⟩
  simp only [dif_pos hi]
  exact Classical.choose_spec (h i hi)

def pairQ {W : World} {D : Nat} (q : Q W D) : C × Value := (q.c, .slice q.a q.c.args.length q.cap)

theorem encQ_cell {W : World} {D : Nat} (q : Q W D) (g : Nat → C × Value) (i r : Nat) (hr : r < 3) (h : g i = pairQ q) : cellF g (i * 3 + r) = (encQ q)[r]! := by
  have : r = 0 ∨ r = 1 ∨ r = 2 := by omega
  rcases this with rfl | rfl | rfl
  · rw [Nat.add_zero, cellF_0, h]; rfl
  · rw [cellF_1, h]; rfl
  · rw [cellF_2, h]; rfl

theorem flat_cell {W : World} {D : Nat} (d : Array (Q W D)) (g : Nat → C × Value) (hg : ∀ i, i < d.size → g i = pairQ d[i]!) (j : Nat) (hj : j < d.size * 3) : (flatK encQ 3 d)[j]! = cellF g j := by
  rw [get_flatK _ _ _ _ hj, ← encQ_cell d[j / 3]! g (j / 3) (j % 3) (by omega) (hg (j / 3) (by omega)), show j / 3 * 3 + j % 3 = j by omega]

theorem lst_arr {W : World} {D : Nat} (d : Array (Q W D)) (g : Nat → C × Value) (n : Nat) (hn : d.size = n) (hg : ∀ i, i < n → g i = pairQ d[i]!) : lst g n = d.toList.map Q.c := by
  subst hn
  apply List.ext_getElem?
  intro i
  by_cases hi : i < d.size
  · simp [lst, hi, hg i hi, pairQ]
  · simp [lst, hi]

set_option maxRecDepth 100000 in
theorem sortRow_any (B D N n cap : Nat) (g : Nat → C × Value) (W w : World) (hBW : B ≤ W.heap.size) (hb : Below B W w) (hD : B ≤ D) (hr : RowM w D N n g) (hn : n ≤ 16777216) (hg : ∀ i, i < n → GoodB W B (g i)) :
    Calls Try.prog 36 #[.slice (some ⟨D, 0, none⟩) n cap, .func (.func 37) #[] #[]] w fun e w' => e = .returned (.tuple #[]) ∧
      ∃ g', RowM w' D N n g' ∧ (∀ i, i < n → GoodB W B (g' i)) ∧ (∀ c, c ∈ lst g' n ↔ c ∈ lst g n) ∧ (lst g' n).Pairwise (fun a b => ordC a b ≤ 0) ∧ Below B W w' := by
  have hBw : B ≤ w.heap.size := Nat.le_trans hBW hb.size
  obtain ⟨f, hf⟩ := choose_below (P := fun i (q : Q w D) => g i = pairQ q) (n := n) (fun i hi => by
    have G := hg i hi
    obtain ⟨a, c, e, hs⟩ := G.src
    refine ⟨⟨(g i).1, a, c, G.ok, G.len, ?_⟩, ?_⟩
    · rcases hs with hs | ⟨b, o, h1, h2, h3⟩
      · exact .inl hs
      · exact .inr ⟨b, o, h1, by omega, by omega, fun j hj => by rw [hb.cell (p := ⟨b, o + j, none⟩) h2]; exact h3 j hj⟩
    · exact Prod.ext rfl e)
  obtain ⟨d, hd⟩ : ∃ d : Array (Q w D), d = ((List.range n).map f).toArray := ⟨_, rfl⟩
  have hds : d.size = n := by rw [hd]; simp
  have hdi : ∀ i, i < n → d[i]! = f i := by intro i hi; rw [hd]; simp [hi]
  have hgd : ∀ i, i < n → g i = pairQ d[i]! := fun i hi => by rw [hdi i hi]; exact hf i hi
  have hH : HoldsK encQ 3 w D 0 d := by
    obtain ⟨hnN, f0, hrow, hf0⟩ := hr
    intro j hj
    rw [size_flatK, hds] at hj
    rw [Nat.zero_add, hrow.cell (by omega), hf0 j hj, flat_cell d g (by rw [hds]; exact hgd) j (by rw [hds]; exact hj)]
    exact ⟨rfl, hrow.frozen j⟩
  have hS := sortQ w D 0 cap d hH hr.lt (by omega)
  rw [hds] at hS
  refine hS.mono ?_
  rintro e w' ⟨rfl, d', n', os, hp, hs, rfl⟩
  obtain ⟨p1, p2, p3⟩ := hp
  rw [hds] at p1
  have ex : ∀ (x : Array (Q w D)), x.size = n → x.extract 0 n = x := fun x hx => by rw [← hx]; exact Array.extract_size
  rw [ex d' p1, ex d hds] at p3
  refine ⟨rfl, fun i => pairQ d'[i]!, ?_, fun i hi => ?_, ?_, ?_, sw_below encQ 3 d' os hb hD hBw⟩
  · obtain ⟨hnN, f0, hrow, hf0⟩ := hr
    refine ⟨hnN, _, sw_row encQ 3 d' os hrow, fun j hj => ?_⟩
    rw [if_pos (by rw [p1]; exact hj)]
    exact flat_cell d' _ (fun i hi => rfl) j (by rw [p1]; exact hj)
  · have hm : d'[i]! ∈ d'.toList := by
      rw [getElem!_pos d' i (by omega)]
      exact Array.getElem_mem_toList (by omega)
    have hm2 := p3.mem_iff.1 hm
    rw [hd] at hm2
    simp only [List.mem_map, List.mem_range] at hm2
    obtain ⟨j, hj, e⟩ := hm2
    show GoodB W B (pairQ d'[i]!)
    rw [← e, ← hf j hj]
    exact hg j hj
  · intro c
    rw [lst_arr d' _ n p1 (fun i hi => rfl), lst_arr d g n hds hgd]
    exact (p3.map Q.c).mem_iff
  · rw [List.pairwise_iff_getElem]
    intro i j hi hj hij
    rw [lst_len] at hi hj
    have h1 := hs i j (Nat.zero_le _) hij hj
    have h2 : ¬ ordC d'[j]!.c d'[i]!.c < 0 := of_decide_eq_false h1
    have e := ordC_anti d'[i]!.c d'[j]!.c
    simp only [lst, List.getElem_map, List.getElem_range, pairQ]
    omega

set_option maxRecDepth 100000 in
theorem sortNone_any (w : World) :
    Calls Try.prog 36 #[.slice none 0 0, .func (.func 37) #[] #[]] w fun e w' => e = .returned (.tuple #[]) ∧ w' = w :=
  AnyF.slices_SortFunc_none sortCalls none 0 _ w
end Go.Proofs.Ytpbljegjinjmnaa
