/-
  DfA, DfB
-/
import Derived.Test.YtoamapdfcdefjaaGreatQ10
import Derived.Test.YtoamapdfcdefjaaGreatQ14
import Derived.Test.YtoamapdfcdefjaaGreatQ05
import Derived.Deep.Cut
namespace Go.Proofs.YtoamapdfcdefjaaGreat
open Go.RowKit Go.Deep
set_option linter.unusedVariables false

theorem ownsU_putF {w : World} {B g n cp i : Nat} {l : List Int} (y : Int) (h : ownsU w B (.slice (some ⟨g, 0, none⟩) n cp) l) (hi : i < l.length) : ownsU (w.setCell ⟨g, i, none⟩ (.int .u64 y)) B (.slice (some ⟨g, 0, none⟩) n cp) (l.set i y) := by
  obtain ⟨h0, h | ⟨g', cap, cur, e, hb, hg, hn, hm, hs, hx⟩⟩ := h
  · cases h.1
  · simp only [Value.slice.injEq, Option.some.injEq, Addr.mk.injEq] at e
    obtain ⟨⟨rfl, _, _⟩, rfl, rfl⟩ := e
    refine ⟨by simp, .inr ⟨g, cp, cur.setIfInBounds i (.int .u64 y), by rw [List.length_set], hb, heap_setCell_same w g i cur _ _ hg, by rw [List.length_set]; exact hn, hm, by simpa using hs, ?_⟩⟩
    simp only [List.length_set]
    rw [List.map_set, ← hx, Array.toList_setIfInBounds, List.take_set]

/-- the box of p at w's end, the box of the answer behind it, the call in the box G -/
structure DfS (w W : World) (R : Nat) (ad : Option Addr) (cap : Nat) (l : List Int) (j : Nat) (pv : Value) (G : Nat) (ar nr : Int) (q cq : Nat) (args : List Int) : Prop where
  rd : Rd W R ad cap l j
  gr : w.grownBy W (some R)
  lt : R < w.heap.size
  pc : W.cell? ⟨w.heap.size, 0, none⟩ = some pv
  box : Box3 W G (.int .u32 ar) (.int .u32 nr) (.slice (some ⟨q, 0, none⟩) 6 cq)
  ans : Box3 W (w.heap.size + 1) (.int .u32 0) (.int .u32 0) (.slice none 0 0)
  own : ownsU W (w.heap.size + 2) (.slice (some ⟨q, 0, none⟩) 6 cq) args
  len : args.length = 6
  u64 : ∀ x ∈ args, isU64 x
  hG : w.heap.size + 1 < G
  hq : q ≠ G
  ra : 0 ≤ ar ∧ ar ≤ 4294967295
  rn : 0 ≤ nr ∧ nr ≤ 4294967295
section
variable {w W W1 : World} {R cap j j1 G q cq : Nat} {ad : Option Addr} {l args : List Int} {pv : Value} {ar nr : Int}
theorem DfS.draw (h : DfS w W R ad cap l j pv G ar nr q cq args) (hr : Rd W1 R ad cap l j1) (hg : W.grownBy W1 (some R)) : DfS w W1 R ad cap l j1 pv G ar nr q cq args := by
  have h1 := h.lt
  have h2 := h.hG
  have h3 := h.ans.lt
  obtain ⟨a1, _⟩ := cell_grD (g := w.heap.size) (o := 0) hg (by omega) (by simp; omega)
  exact ⟨hr, rb_trans h.gr hg, h1, a1.trans h.pc, h.box.grownX hg (fun e => by simp at e; omega), h.ans.grownX hg (fun e => by simp at e; omega), ownsU_rdX h.own hg (by omega), h.len, h.u64, h2, h.hq, h.ra, h.rn⟩
theorem DfS.below (h : DfS w W R ad cap l j pv G ar nr q cq args) (hb : Below W.heap.size W W1) : DfS w W1 R ad cap l j pv G ar nr q cq args := h.draw (h.rd.below hb) (rb_below hb)
theorem DfS.arch (h : DfS w W R ad cap l j pv G ar nr q cq args) (x : Int) (hx : 0 ≤ x ∧ x ≤ 4294967295) : DfS w (W.setCell ⟨G, 0, none⟩ (.int .u32 x)) R ad cap l j pv G x nr q cq args := by
  have h1 := h.lt
  have h2 := h.hG
  exact ⟨h.rd.setX G 0 (by omega) _, rb_setX h.gr (by omega) _ _, h1, by rw [cell_otherB (by omega)]; exact h.pc, h.box.set0 _, h.ans.setO (by omega), ownsU_set h.own (fun k hk => by simp [Value.ownBlock] at hk; rw [← hk]; exact h.hq), h.len, h.u64, h2, h.hq, hx, h.rn⟩
theorem DfS.nrS (h : DfS w W R ad cap l j pv G ar nr q cq args) (x : Int) (hx : 0 ≤ x ∧ x ≤ 4294967295) : DfS w (W.setCell ⟨G, 1, none⟩ (.int .u32 x)) R ad cap l j pv G ar x q cq args := by
  have h1 := h.lt
  have h2 := h.hG
  exact ⟨h.rd.setX G 1 (by omega) _, rb_setX h.gr (by omega) _ _, h1, by rw [cell_otherB (by omega)]; exact h.pc, h.box.set1 _, h.ans.setO (by omega), ownsU_set h.own (fun k hk => by simp [Value.ownBlock] at hk; rw [← hk]; exact h.hq), h.len, h.u64, h2, h.hq, h.ra, hx⟩
theorem DfS.put (h : DfS w W R ad cap l j pv G ar nr q cq args) {i : Nat} (hi : i < 6) (x : Int) (hx : isU64 x) : DfS w (W.setCell ⟨q, i, none⟩ (.int .u64 x)) R ad cap l j pv G ar nr q cq (args.set i x) := by
  have h1 := h.lt
  have h2 := h.hG
  have h3 := (h.own.lt q rfl).1
  exact ⟨h.rd.setX q i (by omega) _, rb_setX h.gr (by omega) _ _, h1, by rw [cell_otherB (by omega)]; exact h.pc, h.box.setO (Ne.symm h.hq), h.ans.setO (by omega), ownsU_putF x h.own (by rw [h.len]; exact hi), by rw [List.length_set]; exact h.len, fun y hy => by
    rcases List.mem_or_eq_of_mem_set hy with h4 | h4
    · exact h.u64 y h4
    · rw [h4]; exact hx, h2, h.hq, h.ra, h.rn⟩
theorem DfS.cell (h : DfS w W R ad cap l j pv G ar nr q cq args) {i : Nat} (hi : i < 6) : W.cell? ⟨q, i, none⟩ = some (.int .u64 (args.getD i 0)) ∧ W.frozen? ⟨q, i, none⟩ = false ∧ isU64 (args.getD i 0) := by
  have hlt : i < args.length := by rw [h.len]; exact hi
  have hm : isU64 (args.getD i 0) := by rw [List.getD_eq_getElem?_getD, List.getElem?_eq_getElem hlt]; exact h.u64 _ (List.getElem_mem hlt)
  have hown := h.own
  obtain ⟨h0, h1 | ⟨g', cap, cur, e, hb, hg, hn, hm', hs, hx⟩⟩ := hown
  · cases h1.1
  · simp only [Value.slice.injEq, Option.some.injEq, Addr.mk.injEq] at e
    obtain ⟨⟨rfl, _, _⟩, _, rfl⟩ := e
    have hc := h.own.cells rfl i (.int .u64 (args.getD i 0)) (by rw [List.getElem?_map, List.getElem?_eq_getElem hlt, List.getD_eq_getElem?_getD, List.getElem?_eq_getElem hlt]; rfl)
    rw [add_at, Nat.zero_add] at hc
    exact ⟨hc, by simp [World.frozen?, hg], hm⟩
/-- what l3drawFor answers: the call C, in memory of its own; the reader then stands at J -/
def ForPost (w : World) (R : Nat) (ad : Option Addr) (cap : Nat) (l : List Int) (X : C × Nat) (e : Ending) (w' : World) : Prop := ∃ (q cq : Nat), e = .returned (.agg #[.int .u32 X.1.arch, .int .u32 X.1.nr, .slice (some ⟨q, 0, none⟩) 6 cq]) ∧ ownsU w' w.heap.size (.slice (some ⟨q, 0, none⟩) 6 cq) X.1.args ∧ X.1.args.length = 6 ∧ X.1.ok ∧ Rd w' R ad cap l X.2 ∧ w.grownBy w' (some R)
theorem DfS.fin (h : DfS w W R ad cap l j pv G ar nr q cq args) (x y z : Value) : ForPost w R ad cap l (⟨ar, nr, args⟩, j) (.returned (.agg #[.int .u32 ar, .int .u32 nr, .slice (some ⟨q, 0, none⟩) 6 cq])) (((W.setCell ⟨w.heap.size + 1, 0, none⟩ x).setCell ⟨w.heap.size + 1, 1, none⟩ y).setCell ⟨w.heap.size + 1, 2, none⟩ z) := by
  have h1 := h.lt
  have h3 := (h.own.lt q rfl).1
  have hn : ∀ k, (Value.slice (some ⟨q, 0, none⟩) 6 cq).ownBlock = some k → k ≠ w.heap.size + 1 := fun k hk => by simp [Value.ownBlock] at hk; omega
  refine ⟨q, cq, rfl, ownsU_mono (ownsU_set (ownsU_set (ownsU_set h.own hn) hn) hn) (by omega), h.len, ⟨h.ra.1, h.ra.2, h.rn.1, h.rn.2, h.u64⟩, ((h.rd.setX _ 0 (by omega) _).setX _ 1 (by omega) _).setX _ 2 (by omega) _, rb_setX (rb_setX (rb_setX h.gr (by omega) _ _) (by omega) _ _) (by omega) _ _⟩
end

/-! the function of the bytes -/
/-- an argument that has to do with a condition -/
def forArg (x : K) (v : Int) : Int :=
  if x.kind = 1 then bits .or .u64 (x.b : Int) (bits .andNot .u64 v (x.a : Int))
  else if x.kind = 2 then
    if v % 4 = 1 then (x.b : Int) else if v % 4 = 2 ∧ x.a < x.b then (x.a : Int) + 1 else if v % 4 = 3 then ((x.a : Int) + ((x.b : Int) - (x.a : Int)) % 18446744073709551616 / 2) % 18446744073709551616 else (x.a : Int)
  else v
theorem forArg_isU {x : K} (hx : x.ok) {v : Int} (hv : isU64 v) : isU64 (forArg x v) := by
  obtain ⟨_, h1, h2⟩ := hx
  have hb := isU_bits .or (x.b : Int) (bits .andNot .u64 v (x.a : Int))
  unfold isU64 at *
  unfold forArg
  split
  · exact hb
  split
  · split
    · omega
    split
    · omega
    split
    · omega
    · omega
  · exact hv
/-- the first i arguments are put -/
def forA (l : List Int) (r : List K) (args : List Int) (j : Nat) : Nat → List Int × Nat
  | 0 => (args, j)
  | i + 1 => ((forA l r args j i).1.set i (forArg (r.getD i K.zero) (argV l (forA l r args j i).2)), argJ l (forA l r args j i).2)
def forI (l : List Int) (n : Nat) (j : Nat) : Nat := (l.getD j 0 % (n : Int)).toNat
def forU (x : Int) : Int := (x + 1) % 4294967296
/-- behind the loop: one argument more, near to what it was -/
def forE (l : List Int) (k ar nr : Int) (X : List Int × Nat) : C × Nat :=
  if k < 6 then (⟨ar, nr, X.1.set (forI l 6 X.2) (nearV (X.1.getD (forI l 6 X.2) 0) l (X.2 + 1))⟩, nearJ l (X.2 + 1)) else (⟨ar, nr, X.1⟩, X.2)
/-- with the rules of the entry that was picked -/
def forG (l : List Int) (k ar nr : Int) (rs : List (List K)) (args : List Int) (j : Nat) : C × Nat :=
  if rs = [] then (⟨ar, nr, args⟩, j)
  else forE l k ar nr (forA l (rs.getD (forI l rs.length j) []) args (j + 1) (min 6 (rs.getD (forI l rs.length j) []).length))
def forF (l : List Int) (k : Int) (e : E) (args : List Int) (j : Nat) : C × Nat :=
  forG l k (if k = 2 then forU e.arch else e.arch) (if k = 1 then forU e.nr else e.nr) e.rules args j
def forD (l : List Int) (P : List E) (j : Nat) : C × Nat :=
  if P.length = 0 ∨ l.getD j 0 % 10 = 0 then (callD l (j + 1), callJ l (j + 1))
  else forF l (l.getD j 0 % 10) (P.getD (forI l P.length (callJ l (j + 1))) E.zero) (callD l (j + 1)).args (callJ l (j + 1) + 1)
end Go.Proofs.YtoamapdfcdefjaaGreat
namespace Go.Proofs.YtoamapdfcdefjaaGreat
open Go.RowKit Go.Deep
set_option linter.unusedVariables false

theorem DfS.other {w W : World} {R cap j G q cq : Nat} {ad : Option Addr} {l args : List Int} {pv : Value} {ar nr : Int} (h : DfS w W R ad cap l j pv G ar nr q cq args) {D : Nat} (hD : w.heap.size + 1 < D) (hDG : G ≠ D) (hDq : q ≠ D) (i : Nat) (u : Value) : DfS w (W.setCell ⟨D, i, none⟩ u) R ad cap l j pv G ar nr q cq args := by
  have h1 := h.lt
  have h2 := h.hG
  exact ⟨h.rd.setX D i (by omega) _, rb_setX h.gr (by omega) _ _, h1, by rw [cell_otherB (by omega)]; exact h.pc, h.box.setO hDG, h.ans.setO (by omega), ownsU_set h.own (fun k hk => by simp [Value.ownBlock] at hk; rw [← hk]; exact hDq), h.len, h.u64, h2, h.hq, h.ra, h.rn⟩
theorem Box3.put3 {w : World} {g : Nat} {x y z : Value} (h : Box3 w g x y z) (x' y' z' : Value) : Box3 (((w.setCell ⟨g, 0, none⟩ x').setCell ⟨g, 1, none⟩ y').setCell ⟨g, 2, none⟩ z') g x' y' z' := ((h.set0 x').set1 y').set2 z'
theorem keptB_of {B R : Nat} {w W : World} (hg : w.grownBy W (some R)) (hRB : R < B) : KeptB B w W := ⟨hg.size, fun k hk hlt => hg.block k hlt (by simp; omega)⟩

end Go.Proofs.YtoamapdfcdefjaaGreat
