/-
  Mini, MrkD
-/
import Derived.Test.YtoamapdfcdefjaaGreatQ36
import Derived.Test.YtoamapdfcdefjaaGreatQ37
import Derived.Test.YtoamapdfcdefjaaGreatQ30
namespace Go.Proofs.YtoamapdfcdefjaaGreat
open Go.RowKit
set_option linter.unusedVariables false
open srtR

/-- rules of their own between two blocks -/
def RsIn (w : World) (lo hi : Nat) (v : Value) (l : List Ru) : Prop := ∃ vs cb gb, OwnRs w lo v l vs cb gb ∧ gb < hi ∧ ∀ i, i < l.length → cb i < hi
theorem RsIn.far {w w1 : World} {lo hi : Nat} {v : Value} {l : List Ru} (h : RsIn w lo hi v l) (hb : ∀ k, lo ≤ k → k < hi → w1.heap[k]? = w.heap[k]?) : RsIn w1 lo hi v l := by
  obtain ⟨vs, cb, gb, h1, h2, h3⟩ := h
  refine ⟨vs, cb, gb, ⟨row_blockK h1.row (fun q hq => ?_), h1.ob, fun i hi => ⟨row_blockK (h1.own i hi).1 (fun q hq => ?_), (h1.own i hi).2⟩, h1.ne, h1.inc⟩, h2, h3⟩
  · rw [h1.ob] at hq; cases hq
    exact hb _ (h1.row.lt _ h1.ob).1 h2
  · rw [(h1.own i hi).2] at hq; cases hq
    exact hb _ ((h1.own i hi).1.lt _ (h1.own i hi).2).1 (h3 i hi)

def entC (e : E) (v : Value) : List Value := [.int .u32 e.arch, .int .u32 e.nr, v]
def entCs (l : List E) (rv : Nat → Value) : List Value := (List.range l.length).flatMap fun i => entC (l.getD i E.zero) (rv i)
theorem entCs_snoc (l : List E) (e : E) (rv : Nat → Value) (v : Value) : entCs (l ++ [e]) (fun i => if i = l.length then v else rv i) = entCs l rv ++ entC e v := by
  unfold entCs
  rw [List.length_append, List.length_singleton, List.range_succ, List.flatMap_append]
  congr 1
  · rw [List.flatMap_def, List.flatMap_def]
    congr 1
    apply List.map_congr_left
    intro i hi
    have hi' := List.mem_range.1 hi
    show entC ((l ++ [e]).getD i E.zero) (if i = l.length then v else rv i) = entC (l.getD i E.zero) (rv i)
    rw [if_neg (by omega)]
    simp [List.getD_eq_getElem?_getD, List.getElem?_append_left hi']
  · simp [List.getD_eq_getElem?_getD]
/-- a policy in memory of its own -/
structure OwnPs (w : World) (B C : Nat) (v : Value) (l : List E) (rv : Nat → Value) (lo hi : Nat → Nat) (gb : Nat) : Prop where
  row : w.ownsRow B 37 3 v l.length (entCs l rv)
  ob : v.ownBlock = some gb
  own : ∀ i, i < l.length → RsIn w (lo i) (hi i) (rv i) (l.getD i E.zero).rules
  lt : ∀ i, i < l.length → C ≤ lo i ∧ hi i ≤ w.heap.size
  out : ∀ i, i < l.length → gb < lo i ∨ hi i ≤ gb
  inc : ∀ i j, i < j → j < l.length → hi i ≤ lo j
theorem OwnPs.below {w w1 : World} {B C : Nat} {v : Value} {l : List E} {rv : Nat → Value} {lo hi : Nat → Nat} {gb : Nat} (h : OwnPs w B C v l rv lo hi gb) (hb : Below w.heap.size w w1) : OwnPs w1 B C v l rv lo hi gb :=
  ⟨World.ownsRow.kept (row := none) h.row ⟨hb.os, hb.tape, hb.output, hb.size, fun k hk _ => hb.block k hk⟩ (by cases v.ownBlock <;> simp), h.ob, fun i hi' => (h.own i hi').far (fun k h1 h2 => hb.block k (by have := (h.lt i hi').2; omega)), fun i hi' => ⟨(h.lt i hi').1, Nat.le_trans (h.lt i hi').2 hb.size⟩, h.out, h.inc⟩
theorem OwnPs.next {w w9 w1 : World} {B C : Nat} {v v' : Value} {l : List E} {e : E} {rv : Nat → Value} {lo hi : Nat → Nat} {gb gg cap : Nat} {o : Obj} (h : OwnPs w B C v l rv lo hi gb) (hBw : C ≤ w.heap.size) (hb : Below w.heap.size w w9) (hv : RsIn w9 w.heap.size w9.heap.size v' e.rules)
    (hown : w1.ownsRow B 37 3 (.slice (some ⟨gg, 0, none⟩) (l.length + 1) cap) (l.length + 1) (entCs l rv ++ entC e v')) (hg : (w9.alloc o).grownBy w1 v.ownBlock) (hat : v.ownBlock = some gg ∨ gg = (w9.alloc o).heap.size) :
    ∃ rv' lo' hi', OwnPs w1 B C (.slice (some ⟨gg, 0, none⟩) (l.length + 1) cap) (l ++ [e]) rv' lo' hi' gg := by
  have hgb := (h.row.lt gb h.ob).2
  have hb2 : Below w9.heap.size w9 (w9.alloc o) := (Below.refl _ _).alloc (Nat.le_refl _) o
  have hsz : (w9.alloc o).heap.size = w9.heap.size + 1 := by simp
  have hws := hb.size
  have hg1 := hg.size
  have len1 : (l ++ [e]).length = l.length + 1 := by simp
  have blk : ∀ k, k < w9.heap.size → k ≠ gb → w1.heap[k]? = w9.heap[k]? := fun k hk hne => (hg.block k (by omega) (by rw [h.ob]; intro e; cases e; exact hne rfl)).trans (hb2.block k hk)
  have hgg : gg = gb ∨ gg = w9.heap.size + 1 := by
    rcases hat with e | e
    · rw [h.ob] at e; cases e; exact .inl rfl
    · exact .inr (by omega)
  refine ⟨fun i => if i = l.length then v' else rv i, fun i => if i = l.length then w.heap.size else lo i, fun i => if i = l.length then w9.heap.size else hi i, by rw [len1, entCs_snoc]; exact hown, rfl, fun i hi' => ?_, fun i hi' => ?_, fun i hi' => ?_, fun i j hij hj => ?_⟩
  · rw [len1] at hi'
    by_cases e' : i = l.length
    · subst e'
      simp only [if_true]
      have e2 : (l ++ [e]).getD l.length E.zero = e := by simp [List.getD_eq_getElem?_getD]
      rw [e2]
      exact hv.far (fun k h1 h2 => blk k h2 (by omega))
    · have hi'' : i < l.length := by omega
      simp only [if_neg e']
      have e2 : (l ++ [e]).getD i E.zero = l.getD i E.zero := by simp [List.getD_eq_getElem?_getD, List.getElem?_append_left hi'']
      rw [e2]
      refine (h.own i hi'').far (fun k h1 h2 => ?_)
      have l1 := h.lt i hi''
      have l2 := h.out i hi''
      exact (blk k (by omega) (by omega)).trans (hb.block k (by omega))
  · rw [len1] at hi'
    by_cases e' : i = l.length
    · simp only [if_pos e']; omega
    · simp only [if_neg e']
      have := h.lt i (by omega); omega
  · rw [len1] at hi'
    by_cases e' : i = l.length
    · simp only [if_pos e']; omega
    · simp only [if_neg e']
      have l1 := h.lt i (by omega)
      have l2 := h.out i (by omega)
      omega
  · rw [len1] at hj
    by_cases e' : j = l.length
    · simp only [if_pos e']
      rw [if_neg (by omega)]
      exact (h.lt i (by omega)).2
    · simp only [if_neg e']
      rw [if_neg (by omega)]
      exact h.inc i j hij (by omega)
theorem infoEnt : (Tryz.prog.info? 37).map (fun i => (i.zero, i.size, i.bytes)) = some (some (.agg #[.int .u32 0, .int .u32 0, .slice none 0 0]), 3, 32) := by kernel_rfl

theorem OwnPs.far {w w1 : World} {B C : Nat} {v : Value} {l : List E} {rv : Nat → Value} {lo hi : Nat → Nat} {gb : Nat} (h : OwnPs w B C v l rv lo hi gb) (hs : w.heap.size ≤ w1.heap.size) (h1 : w1.heap[gb]? = w.heap[gb]?) (h2 : ∀ k, C ≤ k → k < w.heap.size → w1.heap[k]? = w.heap[k]?) : OwnPs w1 B C v l rv lo hi gb :=
  ⟨row_blockK h.row (fun q hq => by rw [h.ob] at hq; cases hq; exact h1), h.ob, fun i hi' => (h.own i hi').far (fun k a b => h2 k (by have := (h.lt i hi').1; omega) (by have := (h.lt i hi').2; omega)), fun i hi' => ⟨(h.lt i hi').1, Nat.le_trans (h.lt i hi').2 hs⟩, h.out, h.inc⟩
theorem OwnPs.mono {w : World} {B C B' C' : Nat} {v : Value} {l : List E} {rv : Nat → Value} {lo hi : Nat → Nat} {gb : Nat} (h : OwnPs w B C v l rv lo hi gb) (hB : B' ≤ B) (hC : C' ≤ C) : OwnPs w B' C' v l rv lo hi gb :=
  ⟨World.ownsRow.mono h.row hB, h.ob, h.own, fun i hi' => ⟨Nat.le_trans hC (h.lt i hi').1, (h.lt i hi').2⟩, h.out, h.inc⟩

theorem OwnRs.form {w : World} {B : Nat} {v : Value} {l : List Ru} {vs : Nat → Value} {cb : Nat → Nat} {gb : Nat} (h : OwnRs w B v l vs cb gb) : ∃ cap, v = .slice (some ⟨gb, 0, none⟩) l.length cap := by
  have ho := h.ob
  obtain ⟨_, h | ⟨g, cap, cur, e, _⟩⟩ := h.row
  · rw [h.1] at ho; cases ho
  · have : g = gb := by rw [e] at ho; simpa [Value.ownBlock] using ho
    subst this
    exact ⟨cap, e⟩
/-- the boxes and the row while the entries come in -/
structure EnS (w wr : World) (G : Nat) (v : Value) (l : List E) (rv : Nat → Value) (lo hi : Nat → Nat) (gb : Nat) : Prop where
  b : Below w.heap.size w wr
  hG : w.heap.size + 2 ≤ G
  c : wr.cell? ⟨G + 1, 0, none⟩ = some v
  f : wr.frozen? ⟨G + 1, 0, none⟩ = false
  c0 : wr.cell? ⟨w.heap.size + 1, 0, none⟩ = some (.slice none 0 0)
  f0 : wr.frozen? ⟨w.heap.size + 1, 0, none⟩ = false
  own : OwnPs wr (w.heap.size + 2) (G + 2) v l rv lo hi gb
  ne : gb ≠ G + 1
theorem EnS.keep {w wr w1 : World} {G : Nat} {v : Value} {l : List E} {rv : Nat → Value} {lo hi : Nat → Nat} {gb : Nat} (h : EnS w wr G v l rv lo hi gb) (hb : Below wr.heap.size wr w1) : EnS w w1 G v l rv lo hi gb :=
  ⟨below_step hb h.b, h.hG, cell_step hb h.c, (hb.frozen (p := ⟨G + 1, 0, none⟩) (cell_ltK h.c)).trans h.f, cell_step hb h.c0, (hb.frozen (p := ⟨w.heap.size + 1, 0, none⟩) (cell_ltK h.c0)).trans h.f0, h.own.below hb, h.ne⟩
theorem EnS.next {w wr w9 w1 : World} {G : Nat} {v v' : Value} {l : List E} {e : E} {rv : Nat → Value} {lo hi : Nat → Nat} {gb gg cap : Nat} {o : Obj} (h : EnS w wr G v l rv lo hi gb) (hb : Below wr.heap.size wr w9) (hv : RsIn w9 wr.heap.size w9.heap.size v' e.rules)
    (hown : w1.ownsRow (w.heap.size + 2) 37 3 (.slice (some ⟨gg, 0, none⟩) (l.length + 1) cap) (l.length + 1) (entCs l rv ++ entC e v')) (hg : (w9.alloc o).grownBy w1 v.ownBlock) (hat : v.ownBlock = some gg ∨ gg = (w9.alloc o).heap.size) :
    w1.cell? ⟨G + 1, 0, none⟩ = some v ∧ w1.frozen? ⟨G + 1, 0, none⟩ = false ∧ ∃ rv' lo' hi', EnS w (w1.setCell ⟨G + 1, 0, none⟩ (.slice (some ⟨gg, 0, none⟩) (l.length + 1) cap)) G (.slice (some ⟨gg, 0, none⟩) (l.length + 1) cap) (l ++ [e]) rv' lo' hi' gg := by
  have h1 := cell_ltK h.c
  have h2 := cell_ltK h.c0
  simp only at h1 h2
  have hgb := h.own.row.lt gb h.own.ob
  have hws := hb.size
  have hb2 : Below w9.heap.size w9 (w9.alloc o) := (Below.refl _ _).alloc (Nat.le_refl _) o
  have hsz : (w9.alloc o).heap.size = w9.heap.size + 1 := by simp
  have s9 := (h.keep hb).keep hb2
  have ne1 : some (G + 1) ≠ v.ownBlock := by rw [h.own.ob]; intro e; cases e; exact h.ne rfl
  have ne2 : some (w.heap.size + 1) ≠ v.ownBlock := by rw [h.own.ob]; intro e; injection e with e; omega
  have x1 := (hg.cell_far ⟨G + 1, 0, none⟩ (by show G + 1 < _; omega) ne1).trans s9.c
  have x2 := (hg.frozen_far ⟨G + 1, 0, none⟩ (by show G + 1 < _; omega) ne1).trans s9.f
  have x3 := (hg.cell_far ⟨w.heap.size + 1, 0, none⟩ (by show w.heap.size + 1 < _; omega) ne2).trans s9.c0
  have x4 := (hg.frozen_far ⟨w.heap.size + 1, 0, none⟩ (by show w.heap.size + 1 < _; omega) ne2).trans s9.f0
  obtain ⟨rv', lo', hi', hO⟩ := OwnPs.next h.own (by omega) hb hv hown hg hat
  have hgne : gg ≠ G + 1 := by
    rcases hat with e | e
    · rw [h.own.ob] at e; cases e; exact h.ne
    · omega
  have hhG := h.hG
  have hb1 : Below w.heap.size w w1 := s9.b.grown hg (by omega) (fun z hz => by rw [h.own.ob] at hz; cases hz; omega)
  refine ⟨x1, x2, rv', lo', hi', ⟨hb1.setCell (p := ⟨G + 1, 0, none⟩) (by show w.heap.size ≤ G + 1; omega) _, h.hG, World.cell?_setCell_same _ _ _ x1, by rw [frozen_setCell]; exact x2, ?_, by rw [frozen_setCell]; exact x4, ?_, hgne⟩⟩
  · rw [World.cell?_setCell_other _ _ _ _ (by intro e; injection e with e; omega)]; exact x3
  · refine hO.far (by simp [World.setCell]) ?_ (fun k hk hk2 => ?_)
    · simp only [World.setCell, Array.getElem?_modify]; rw [if_neg (fun e => hgne e.symm)]
    · simp only [World.setCell, Array.getElem?_modify]; rw [if_neg (by omega)]

/-- what Minimise answers for a valid policy -/
def MiniPost (p : List E) (w : World) (e : Ending) (w' : World) : Prop := ∃ v out rv lo hi gb, IsMin p out ∧ e = .returned (.agg #[v]) ∧ OwnPs w' w.heap.size w.heap.size v out rv lo hi gb ∧ Below w.heap.size w w'
/-- the first k entries, made small -/
def MinTo (p out : List E) (k : Nat) : Prop := out.length = k ∧ ∀ i, i < k → (out.getD i E.zero).arch = (p.getD i E.zero).arch ∧ (out.getD i E.zero).nr = (p.getD i E.zero).nr ∧ IsSmall (p.getD i E.zero).rules (out.getD i E.zero).rules
theorem MinTo.next {p out : List E} {k : Nat} {rs : List Ru} (h : MinTo p out k) (hs : IsSmall (p.getD k E.zero).rules rs) : MinTo p (out ++ [⟨(p.getD k E.zero).arch, (p.getD k E.zero).nr, rs⟩]) (k + 1) := by
  refine ⟨by simp [h.1], fun i hi => ?_⟩
  by_cases e : i = k
  · subst e
    have e2 : (out ++ [(⟨(p.getD i E.zero).arch, (p.getD i E.zero).nr, rs⟩ : E)]).getD i E.zero = ⟨(p.getD i E.zero).arch, (p.getD i E.zero).nr, rs⟩ := by
      rw [List.getD_eq_getElem?_getD, List.getElem?_append_right (by rw [h.1]; exact Nat.le_refl _), h.1]; simp
    rw [e2]; exact ⟨rfl, rfl, hs⟩
  · have e2 : (out ++ [(⟨(p.getD k E.zero).arch, (p.getD k E.zero).nr, rs⟩ : E)]).getD i E.zero = out.getD i E.zero := by
      rw [List.getD_eq_getElem?_getD, List.getElem?_append_left (by rw [h.1]; omega), List.getD_eq_getElem?_getD]
    rw [e2]; exact h.2 i (by omega)

set_option maxRecDepth 100000 in
set_option maxHeartbeats 4000000 in
theorem implMin_yes (p : List E) (a : Option Addr) (cap : Nat) (w : World) (hs : LSrc 3 PE w a p) (ho : okP p) (hv : validP p = true) (hn : p.length ≤ 1000) :
    Calls Tryz.prog 6 #[.agg #[.slice a p.length cap]] w fun e w' => MiniPost p w e w' := by
  obtain ⟨i0, hi, hz0, hz1, hz2⟩ := info_parts infoEnt
  have hlen : ∀ e ∈ p, e.rules.length ≤ 200 ∧ ∀ r ∈ e.rules, r.length = 6 := by
    intro e he
    obtain ⟨i, hi, rfl⟩ := List.getElem_of_mem he
    have e1 : p.getD i E.zero = p[i] := by rw [List.getD_eq_getElem?_getD, List.getElem?_eq_getElem hi]; rfl
    have h1 := validE_parts (validP_parts hv hi).1
    rw [e1] at h1
    exact ⟨h1.2.1, fun r hr => (vr_of ((ho _ he).2.2 r hr) (h1.2.2 r hr)).1⟩
  have HV : Hid (∀ wr, Below w.heap.size w wr → Calls Tryz.prog 16 #[.agg #[.slice a p.length cap]] wr fun e w' => e = .returned (.bool true) ∧ Below wr.heap.size wr w') := fun wr hb => by
    have := implValidP_any p a cap wr (hs.below PE.stays hb) ho (by omega) (fun e he => by have := (hlen e he).1; omega) (fun e he r hr => by have := (hlen e he).2 r hr; omega)
    rw [hv] at this; exact this
  have HP : Hid (∀ wr, Below w.heap.size w wr → ∀ i, i < p.length → ∃ b o, a = some ⟨b, o, none⟩ ∧ b < wr.heap.size ∧ PE wr b (o + i * 3) (p.getD i E.zero)) := fun wr hB i hi => (hs.below PE.stays hB).at hi E.zero
  have HSm : Hid (∀ i wr a' cap', i < p.length → LSrc 1 PR wr a' (p.getD i E.zero).rules → Calls Tryz.prog 17 #[.slice a' (p.getD i E.zero).rules.length cap'] wr fun e w' => SmallPost (p.getD i E.zero).rules wr e w') := fun i wr a' cap' hi' h => smallRules_any _ a' cap' wr h (valid_rules hv ho hi') (by have := (validE_parts (validP_parts hv hi').1).1; omega) (by have := (validE_parts (validP_parts hv hi').1).2.1; omega)
  have HSl : Hid (∀ i, i < p.length → (p.getD i E.zero).rules.length ≤ 200) := fun i hi' => (validE_parts (validP_parts hv hi').1).2.1
  clear hs ho hv hlen
  have B2 : Below w.heap.size w ((w.alloc (.cells #[.slice a p.length cap] 25)).alloc (.cells #[.slice none 0 0] 25)) := ((Below.refl _ _).alloc (Nat.le_refl _) _).alloc (by simp) _
  have q0 := box_get (w.alloc (.cells #[.slice a p.length cap] 25)) (.slice none 0 0) 25 (w.heap.size + 1) (by simp)
  have q1 : ((w.alloc (.cells #[.slice a p.length cap] 25)).alloc (.cells #[.slice none 0 0] 25)).cell? ⟨w.heap.size, 0, none⟩ = some (.slice a p.length cap) := (((Below.refl (w.alloc (.cells #[.slice a p.length cap] 25)).heap.size _).alloc (Nat.le_refl _) _).cell (p := ⟨w.heap.size, 0, none⟩) (by simp)).trans (by simp)
  have hz2s : ((w.alloc (.cells #[.slice a p.length cap] 25)).alloc (.cells #[.slice none 0 0] 25)).heap.size = w.heap.size + 2 := by simp
  obtain ⟨n, hpn⟩ : ∃ n, p.length = n := ⟨_, rfl⟩
  have HPn : Hid (p.length = n) := hpn
  rw [hpn] at HV HP HSm HSl B2 q0 q1 hz2s hn ⊢
  clear hpn
  have hmk : ∀ u : World, (Instr.makeSlice 23 (.int .i64 0) (.int .i64 (n : Int))).run Tryz.prog u =
      .ok (.slice (some ⟨u.heap.size, 0, none⟩) 0 n) (u.alloc (.cells (madeCells #[.int .u32 0, .int .u32 0, .slice none 0 0] (n * 3)) 37)) := fun u => by
    have h := run_make (P := Tryz.prog) u 23 37 i0 _ Tryz.underlying23 hi hz0 .i64 .i64 0 (n : Int) (by omega) (by omega) (by rw [hz2]; omega) (by omega)
    simpa [hz1, Value.cells] using h
  go_enter Tryz.func6, Tryz.ntmps6
  go_wp2_with fail
  generalize (w.alloc (.cells #[.slice a n cap] 25)).alloc (.cells #[.slice none 0 0] 25) = W2 at *
  refine (HV.out W2 B2).mono ?_
  rintro _ w1 ⟨rfl, hb1⟩
  have B1 := below_step hb1 B2
  have c1 := cell_step hb1 q1
  have c0 := cell_step hb1 q0.1
  have f0 : w1.frozen? ⟨w.heap.size + 1, 0, none⟩ = false := (hb1.frozen (p := ⟨w.heap.size + 1, 0, none⟩) (cell_ltK q0.1)).trans q0.2
  have hG : w.heap.size + 2 ≤ w1.heap.size := by have := hb1.size; omega
  clear q0 q1 hb1 B2 HV hz2s
  have hb3 : Below w1.heap.size w1 ((w1.alloc (.cells (madeCells #[.int .u32 0, .int .u32 0, .slice none 0 0] (n * 3)) 37)).alloc (.cells #[.slice (some ⟨w1.heap.size, 0, none⟩) 0 n] 25)) := ((Below.refl _ _).alloc (Nat.le_refl _) _).alloc (by simp) _
  have c1a := cell_step hb3 c1
  have S0 : EnS w ((w1.alloc (.cells (madeCells #[.int .u32 0, .int .u32 0, .slice none 0 0] (n * 3)) 37)).alloc (.cells #[.slice (some ⟨w1.heap.size, 0, none⟩) 0 n] 25)) w1.heap.size (.slice (some ⟨w1.heap.size, 0, none⟩) 0 n) [] (fun _ => undef) (fun _ => 0) (fun _ => 0) w1.heap.size := by
    have qb := box_get (w1.alloc (.cells (madeCells #[.int .u32 0, .int .u32 0, .slice none 0 0] (n * 3)) 37)) (.slice (some ⟨w1.heap.size, 0, none⟩) 0 n) 25 (w1.heap.size + 1) (by simp)
    refine ⟨below_step hb3 B1, hG, qb.1, qb.2, cell_step hb3 c0, (hb3.frozen (p := ⟨w.heap.size + 1, 0, none⟩) (cell_ltK c0)).trans f0, ⟨?_, rfl, fun i hi => by simp at hi, fun i hi => by simp at hi, fun i hi => by simp at hi, fun i j _ hj => by simp at hj⟩, by omega⟩
    exact (World.ownsRow_made w1 _ n (by omega) (by unfold maxLen; omega) (by rw [size_madeCells])).alloc _
  clear c0 f0 B1 hb3
  go_wp2_with fail
  generalize ((w1.alloc (.cells (madeCells #[.int .u32 0, .int .u32 0, .slice none 0 0] (n * 3)) 37)).alloc (.cells #[.slice (some ⟨w1.heap.size, 0, none⟩) 0 n] 25)) = W3 at *
  generalize w1.heap.size = G at *
  clear hmk c1a c1
  go_loopw [18] (fun i wr => ∃ (k : Nat) (v : Value) (l : List E) (rv : Nat → Value) (lo hi' : Nat → Nat) (gb : Nat), k ≤ n ∧ i = .int .i64 k ∧ EnS w wr G v l rv lo hi' gb ∧ Hid (MinTo p l k)) (fun i _ => n - (intOf i).toNat)
  case atStart => exact ⟨0, _, [], _, _, _, _, by omega, rfl, S0, ⟨rfl, fun i hi => by omega⟩⟩
  case round =>
    clear S0
    obtain ⟨k, v, l, rv, lo, hi', gb, hk, rfl, hS, HM⟩ := hrel
    rename World => W4
    by_cases hkn : k < n
    · obtain ⟨b, o, rfl, hlt, d0, d1, a', cap', d2, hls⟩ := HP.out W4 hS.b k hkn
      have hkn' : (k : Int) < (n : Int) := by omega
      have hsl := HSl.out k hkn
      have HSk : Hid (∀ wr, LSrc 1 PR wr a' (p.getD k E.zero).rules → Calls Tryz.prog 17 #[.slice a' (p.getD k E.zero).rules.length cap'] wr fun e w' => SmallPost (p.getD k E.zero).rules wr e w') := fun wr h => HSm.out k wr a' cap' hkn h
      have HMn : Hid (∀ rs, IsSmall (p.getD k E.zero).rules rs → MinTo p (l ++ [⟨(p.getD k E.zero).arch, (p.getD k E.zero).nr, rs⟩]) (k + 1)) := fun rs h => HM.out.next h
      have hlk : l.length = k := HM.out.1
      clear HP HSm HSl HM
      generalize p.getD k E.zero = en at *
      obtain ⟨ar, nr, rs0⟩ := en
      simp only at d0 d1 d2 hls HSk HMn hsl
      generalize hrl : rs0.length = rl at *
      have hb5 : Below W4.heap.size W4 (W4.alloc (.cells #[.int .u32 ar, .int .u32 nr, .slice a' rl cap'] 37)) := (Below.refl _ _).alloc (Nat.le_refl _) _
      have X5 := BoxK.new W4 37 (.int .u32 ar) (.int .u32 nr) (.slice a' rl cap')
      have hS5 := hS.keep hb5
      have hls5 := hls.below PR.stays hb5
      clear hS hls hb5
      go_wp2_with fail
      generalize W4.alloc (.cells #[.int .u32 ar, .int .u32 nr, .slice a' rl cap'] 37) = W5 at *
      have hcd : W5.drew.cell? ⟨G + 1, 0, none⟩ = some v := hS5.c
      have xd0 : W5.drew.cell? ⟨W4.heap.size, 0, none⟩ = some (.int .u32 ar) := X5.c0
      have xd1 : W5.drew.cell? ⟨W4.heap.size, 1, none⟩ = some (.int .u32 nr) := X5.c1
      have xd2 : W5.drew.cell? ⟨W4.heap.size, 2, none⟩ = some (.slice a' rl cap') := X5.c2
      have hlsd : LSrc 1 PR W5.drew a' rs0 := hls5.below PR.stays (Below.refl _ _).drew
      have hS5d := hS5.keep (Below.refl _ _).drew
      have HSk2 : Hid (Calls Tryz.prog 17 #[.slice a' rl cap'] W5.drew fun e w' => ∃ g9 m9 c9, e = .returned (.slice (some ⟨g9, 0, none⟩) m9 c9) ∧ (∃ rs, RsIn w' W5.drew.heap.size w'.heap.size (.slice (some ⟨g9, 0, none⟩) m9 c9) rs ∧ MinTo p (l ++ [⟨ar, nr, rs⟩]) (k + 1)) ∧ Below W5.drew.heap.size W5.drew w') := (HSk.out W5.drew hlsd).mono (by
        rintro e w' ⟨v9, rs, vs, cb, gb9, h1, h2, h3, h4⟩
        obtain ⟨c9, rfl⟩ := h3.form
        exact ⟨gb9, _, c9, h2, ⟨rs, ⟨vs, cb, gb9, h3, (h3.row.lt _ h3.ob).2, fun i hi => ((h3.own i hi).1.lt _ (h3.own i hi).2).2⟩, HMn.out rs h1⟩, h4⟩)
      have SKc : Hid (∀ w9, Below W5.drew.heap.size W5.drew w9 → EnS w w9 G v l rv lo hi' gb ∧ w9.cell? ⟨G + 1, 0, none⟩ = some v ∧ G + 1 < w9.heap.size ∧ (∀ ob, (w9.alloc ob).cell? ⟨G + 1, 0, none⟩ = some v) ∧ w9.cell? ⟨W4.heap.size, 0, none⟩ = some (.int .u32 ar) ∧ w9.cell? ⟨W4.heap.size, 1, none⟩ = some (.int .u32 nr)) := fun w9 hb => by
        have := hS5d.keep hb
        exact ⟨this, this.c, cell_ltK this.c, fun ob => cell_step ((Below.refl _ _).alloc (Nat.le_refl _) ob) this.c, cell_step hb xd0, cell_step hb xd1⟩
      have hbm : l.length + 1 ≤ maxLen := by rw [hlk]; unfold maxLen; omega
      have hbd : (l.length + 1) * 32 ≤ 140737488355328 := by rw [hlk]; omega
      have hhG := hS5.hG
      have HLk : Hid (l.length = k) := hlk
      clear hS5 X5 hls5 hlsd HSk HMn hlk d0 d1 d2
      go_region_law (first
        | (go_simp; refine HSk2.out.mono ?_; rintro _ w9 ⟨g9, m9, c9, rfl, hrs9, hb9⟩; obtain ⟨hS9, hc9, hl9, ha9, y0, y1⟩ := SKc.out w9 hb9; dsimp only)
        | (refine step_append_lies _ (by rfl) _ _ _ (by rfl) (w.heap.size + 2) 37 i0 _ 3 32 Tryz.underlying23 hi hz0 hz1 hz2 rfl (by omega) v l.length (entCs l rv) (by rfl) (hS9.own.row.alloc _) ⟨w9.heap.size, 0, none⟩ 1 1 [.int .u32 ar, .int .u32 nr, .slice (some ⟨g9, 0, none⟩) m9 c9] (by rfl) (by rfl) (World.news_of_block (t := 37) (fr := (0, 0)) (heap_alloc_new w9 _)) (by simp [Value.oneCell']) (by omega) hbm hbd (by simp; omega) (w9.heap.size + 1) (by simp) ?_; intro gg cap2 w1' hown1 hgrow hat hlt2; obtain ⟨rs9, hr9, hm9⟩ := hrs9; obtain ⟨x1, x2, rv', lo', hi2, x3⟩ := EnS.next (e := ⟨ar, nr, rs9⟩) hS5d hb9 hr9 hown1 hgrow (by simpa using hat)))
      all_goals
        have HX3 : Hid (∃ rv' lo' hi2, EnS w (w1'.setCell ⟨G + 1, 0, none⟩ (.slice (some ⟨gg, 0, none⟩) (l.length + 1) cap2)) G (.slice (some ⟨gg, 0, none⟩) (l.length + 1) cap2) (l ++ [⟨ar, nr, rs9⟩]) rv' lo' hi2 gg) := ⟨_, _, _, x3⟩
        have HM9 : Hid _ := hm9
        clear x1 x2 x3 hown1 hgrow hat hlt2 hS9 hc9 hl9 ha9 hb9 SKc HSk2 hr9 hm9 y0 y1 hS5d hcd xd0 xd1 xd2
        go_wp2
        go_roundw
        case rel => obtain ⟨rv', lo', hi2, h⟩ := HX3.out; exact ⟨k + 1, _, _, rv', lo', hi2, gg, by omega, by go_num, h, HM9⟩
        case measure => simp [intOf]; omega
    · have hk' : k = n := by omega
      subst hk'
      have hlt' : ¬ (k : Int) < (k : Int) := by omega
      obtain ⟨hb, hhG, hc, hf, hc0, hf0, hown, hne⟩ := hS
      obtain ⟨cv, rfl⟩ : ∃ cv, v = .slice (some ⟨gb, 0, none⟩) l.length cv := by
        have ho := hown.ob
        obtain ⟨_, h | ⟨g, cap, cur, e, _⟩⟩ := hown.row
        · rw [h.1] at ho; cases ho
        · have : g = gb := by rw [e] at ho; simpa [Value.ownBlock] using ho
          subst this
          exact ⟨cap, e⟩
      have hgb := (hown.row.lt gb hown.ob).1
      have hws := cell_ltK hc
      simp only at hws
      have HF : Hid (MiniPost p w (.returned (.agg #[.slice (some ⟨gb, 0, none⟩) l.length cv])) (W4.setCell ⟨w.heap.size + 1, 0, none⟩ (.slice (some ⟨gb, 0, none⟩) l.length cv))) := by
        refine ⟨_, l, rv, lo, hi', gb, ?_, rfl, (hown.far (by simp [World.setCell]) ?_ (fun q hq hq2 => ?_)).mono (by omega) (by omega), hb.setCell (p := ⟨w.heap.size + 1, 0, none⟩) (by show w.heap.size ≤ w.heap.size + 1; omega) _⟩
        · exact ⟨by rw [HM.out.1]; exact HPn.out.symm, fun i hi => HM.out.2 i (by rw [HPn.out] at hi; exact hi)⟩
        · simp only [World.setCell, Array.getElem?_modify]; rw [if_neg (by omega)]
        · simp only [World.setCell, Array.getElem?_modify]; rw [if_neg (by omega)]
      clear hown hb HM HP HSm HSl
      generalize l.length = ll at *
      go_wp2
      exact bodyPost_ret (v := .agg #[.slice (some ⟨gb, 0, none⟩) ll cv]) (by simp [results, Tryz.results6, go_sem, hc0]) rfl HF.out
end Go.Proofs.YtoamapdfcdefjaaGreat
namespace Go.Proofs.YtoamapdfcdefjaaGreat
open Go.RowKit
set_option linter.unusedVariables false

theorem kc_get (l : List K) (i : Nat) (h : i < l.length) : (kCells l)[i * 3]? = some (.int .i64 l[i].kind) ∧ (kCells l)[i * 3 + 1]? = some (.int .u64 (l[i].a : Int)) ∧ (kCells l)[i * 3 + 2]? = some (.int .u64 (l[i].b : Int)) := by
  induction l generalizing i with
  | nil => simp at h
  | cons x p ih =>
    have e : kCells (x :: p) = [.int .i64 x.kind, .int .u64 (x.a : Int), .int .u64 (x.b : Int)] ++ kCells p := by simp [kCells]
    rw [e]
    match i with
    | 0 => simp
    | i + 1 =>
      have hi : i < p.length := by simpa using h
      have := ih i hi
      rw [List.getElem?_append_right (by simp; omega), List.getElem?_append_right (by simp; omega), List.getElem?_append_right (by simp; omega)]
      simp only [List.length_cons, List.length_nil]
      rw [show (i + 1) * 3 - (0 + 1 + 1 + 1) = i * 3 by omega, show (i + 1) * 3 + 1 - (0 + 1 + 1 + 1) = i * 3 + 1 by omega, show (i + 1) * 3 + 2 - (0 + 1 + 1 + 1) = i * 3 + 2 by omega]
      simpa using this
/-- the addresses are apart, all of one block, from offset o on -/
theorem a3_apart {b o : Nat} : ((a3 b o).map Prod.fst).Nodup := by
  simp [a3]
theorem conA_nodup (b o : Nat) : ∀ n, ((conA b o n).map Prod.fst).Nodup
  | 0 => by simp [conA]
  | n + 1 => by
    rw [conA_succ, List.map_append, List.nodup_append]
    refine ⟨conA_nodup b o n, a3_apart, fun x hx y hy => ?_⟩
    obtain ⟨p, hp, rfl⟩ := List.mem_map.1 hx
    have h1 := conA_mem hp
    obtain ⟨q, hq, rfl⟩ := List.mem_map.1 hy
    intro e
    simp only [a3, List.mem_cons, List.not_mem_nil, or_false] at hq
    rw [e] at h1
    rcases hq with rfl | rfl | rfl <;> simp only at h1 <;> omega
/-- a rule's own conditions -/
theorem ownsK_sk {w : World} {B q : Nat} {v : Value} {l : List K} (h : ownsK w B v l) (hq : v.ownBlock = some q) : ∃ cap, v = .slice (some ⟨q, 0, none⟩) l.length cap ∧ SK w (some ⟨q, 0, none⟩) l.length (conA q 0 l.length) ∧ LAt 3 PK w q 0 l ∧ q < w.heap.size := by
  have h0 := h
  have hlt := h.lt q hq
  obtain ⟨_, h | ⟨g, cap, cur, rfl, hb, hg, hr⟩⟩ := h
  · rw [h.1] at hq; cases hq
  · have : g = q := by simpa [Value.ownBlock] using hq
    subst this
    have key := fun j (hj : j < l.length * 3) => World.ownsRow.cellAt h0 j hj
    have frz := fun j => World.ownsRow.frozenAt h0 j
    refine ⟨cap, rfl, .inr ⟨g, 0, rfl, rfl, fun x hx => ?_⟩, fun i hi => ?_, hlt.2⟩
    · obtain ⟨j, hj, hx⟩ := List.mem_flatMap.1 hx
      have hj' := List.mem_range.1 hj
      obtain ⟨c0, c1, c2⟩ := kc_get l j hj'
      simp only [a3, List.mem_cons, List.not_mem_nil, or_false, Nat.zero_add] at hx
      rcases hx with rfl | rfl | rfl
      · exact ⟨⟨_, (key _ (by omega)).trans c0⟩, frz _⟩
      · exact ⟨⟨_, (key _ (by omega)).trans c1⟩, frz _⟩
      · exact ⟨⟨_, (key _ (by omega)).trans c2⟩, frz _⟩
    · obtain ⟨c0, c1, c2⟩ := kc_get l i hi
      rw [Nat.zero_add]
      exact ⟨(key _ (by omega)).trans c0, (key _ (by omega)).trans c1, (key _ (by omega)).trans c2⟩
theorem nodup_flat {F : Nat → List AdK} {n : Nat} (h1 : ∀ i, i < n → ((F i).map Prod.fst).Nodup) (h2 : ∀ i j, i < j → j < n → ∀ x ∈ F i, ∀ y ∈ F j, x.1 ≠ y.1) : (((List.range n).flatMap F).map Prod.fst).Nodup := by
  induction n with
  | zero => simp
  | succ n ih =>
    rw [flat_succ, List.map_append, List.nodup_append]
    refine ⟨ih (fun i hi => h1 i (by omega)) (fun i j hij hj => h2 i j hij (by omega)), h1 n (by omega), fun x hx y hy => ?_⟩
    obtain ⟨p, hp, rfl⟩ := List.mem_map.1 hx
    obtain ⟨q, hq, rfl⟩ := List.mem_map.1 hy
    obtain ⟨i, hi, hp⟩ := List.mem_flatMap.1 hp
    exact h2 i n (List.mem_range.1 hi) (by omega) p hp q hq
/-- own rules: their addresses, apart, in their blocks; and how they are read -/
theorem rsIn_sr {w : World} {lo hi : Nat} {v : Value} {l : List Ru} (h : RsIn w lo hi v l) (hn : l.length ≤ 1048576) (h6 : ∀ r ∈ l, r.length = 6) : ∃ a cap A, v = .slice a l.length cap ∧ SR w a l.length A ∧ (A.map Prod.fst).Nodup ∧ (∀ x ∈ A, lo ≤ x.1.block ∧ x.1.block < hi) ∧ A.length = l.length * 18 ∧ LSrc 1 PR w a l := by
  obtain ⟨vs, cb, gb, hO, hgb, hcb⟩ := h
  obtain ⟨cap, rfl⟩ := hO.form
  have hlt := hO.row.lt gb rfl
  have hc : ∀ i, i < l.length → w.cell? ⟨gb, i, none⟩ = some (vs i) := fun i hi => by
    rw [World.ownsRow.cellAt hO.row i (by omega)]
    simp [hi]
  have h6' : ∀ i, i < l.length → (l.getD i []).length = 6 := fun i hi => h6 _ (by rw [List.getD_eq_getElem?_getD, List.getElem?_eq_getElem hi]; exact List.getElem_mem hi)
  refine ⟨some ⟨gb, 0, none⟩, cap, (List.range l.length).flatMap fun i => conA (cb i) 0 6, rfl, ⟨hn, .inr ⟨gb, 0, rfl, _, rfl, fun i hi => ?_⟩⟩, nodup_flat (fun i hi => conA_nodup _ _ _) (fun i j hij hj x hx y hy e => ?_), fun x hx => ?_, ?_, .inr ⟨gb, 0, rfl, hlt.2, fun i hi => ?_⟩⟩
  · obtain ⟨cp, e, hsk, _⟩ := ownsK_sk (hO.own i hi).1 (hO.own i hi).2
    rw [h6' i hi] at e hsk
    exact ⟨_, 6, cp, by rw [Nat.zero_add, hc i hi, e], hsk⟩
  · have e1 := (conA_mem hx).1
    have e2 := (conA_mem hy).1
    rw [e, e2] at e1
    have := hO.inc i j hij hj
    omega
  · obtain ⟨i, hi, hx⟩ := List.mem_flatMap.1 hx
    have hi' := List.mem_range.1 hi
    rw [(conA_mem hx).1]
    exact ⟨((hO.own i hi').1.lt _ (hO.own i hi').2).1, hcb i hi'⟩
  · have : ∀ n, ((List.range n).flatMap fun i => conA (cb i) 0 6).length = n * 18 := by
      intro n
      induction n with
      | zero => rfl
      | succ n ih => rw [flat_succ, List.length_append, ih, conA_len]; omega
    exact this _
  · obtain ⟨cp, e, hsk, hlat, hq⟩ := ownsK_sk (hO.own i hi).1 (hO.own i hi).2
    have eg : l.getD i [] = l[i] := by rw [List.getD_eq_getElem?_getD, List.getElem?_eq_getElem hi]; rfl
    rw [eg] at e hlat
    exact ⟨_, cp, by rw [Nat.zero_add, Nat.mul_one, hc i hi, e], .inr ⟨_, 0, rfl, hq, hlat⟩⟩
theorem entCs_get (l : List E) (rv : Nat → Value) (i : Nat) (h : i < l.length) : (entCs l rv)[i * 3]? = some (.int .u32 (l.getD i E.zero).arch) ∧ (entCs l rv)[i * 3 + 1]? = some (.int .u32 (l.getD i E.zero).nr) ∧ (entCs l rv)[i * 3 + 2]? = some (rv i) := by
  have key : ∀ n, i < n → ((List.range n).flatMap fun i => entC (l.getD i E.zero) (rv i))[i * 3]? = some (.int .u32 (l.getD i E.zero).arch) ∧ ((List.range n).flatMap fun i => entC (l.getD i E.zero) (rv i))[i * 3 + 1]? = some (.int .u32 (l.getD i E.zero).nr) ∧ ((List.range n).flatMap fun i => entC (l.getD i E.zero) (rv i))[i * 3 + 2]? = some (rv i) := by
    intro n
    have hlen : ∀ n, ((List.range n).flatMap fun i => entC (l.getD i E.zero) (rv i)).length = n * 3 := by
      intro n
      induction n with
      | zero => rfl
      | succ n ih => rw [flat_succ, List.length_append, ih]; simp [entC]; omega
    induction n with
    | zero => intro h; omega
    | succ n ih =>
      intro hn
      rw [flat_succ]
      by_cases e : i = n
      · subst e
        rw [List.getElem?_append_right (by rw [hlen]; omega), List.getElem?_append_right (by rw [hlen]; omega), List.getElem?_append_right (by rw [hlen]; omega), hlen]
        rw [show i * 3 - i * 3 = 0 by omega, show i * 3 + 1 - i * 3 = 1 by omega, show i * 3 + 2 - i * 3 = 2 by omega]
        exact ⟨rfl, rfl, rfl⟩
      · rw [List.getElem?_append_left (by rw [hlen]; omega), List.getElem?_append_left (by rw [hlen]; omega), List.getElem?_append_left (by rw [hlen]; omega)]
        exact ih (by omega)
  exact key _ h
/-- an own policy: its addresses, apart, in its blocks; and how it is read -/
theorem ownPs_se {w : World} {B C : Nat} {v : Value} {l : List E} {rv : Nat → Value} {lo hi : Nat → Nat} {gb : Nat} (h : OwnPs w B C v l rv lo hi gb) (hn : l.length ≤ 1000) (hm : ∀ e ∈ l, e.rules.length ≤ 200 ∧ ∀ r ∈ e.rules, r.length = 6) : ∃ a cap A, v = .slice a l.length cap ∧ SE w a l.length A ∧ (A.map Prod.fst).Nodup ∧ (∀ x ∈ A, x.1.block = gb ∨ ∃ i, i < l.length ∧ lo i ≤ x.1.block ∧ x.1.block < hi i) ∧ A.length ≤ 4000000 ∧ LSrc 3 PE w a l := by
  have hgb := h.row.lt gb h.ob
  obtain ⟨cap, rfl⟩ : ∃ cv, v = .slice (some ⟨gb, 0, none⟩) l.length cv := by
    have ho := h.ob
    obtain ⟨_, h | ⟨g, cap, cur, e, _⟩⟩ := h.row
    · rw [h.1] at ho; cases ho
    · have : g = gb := by rw [e] at ho; simpa [Value.ownBlock] using ho
      subst this
      exact ⟨cap, e⟩
  have key := fun j (hj : j < l.length * 3) => World.ownsRow.cellAt h.row j hj
  have frz := fun j => World.ownsRow.frozenAt h.row j
  have hmi : ∀ i, i < l.length → (l.getD i E.zero).rules.length ≤ 200 ∧ ∀ r ∈ (l.getD i E.zero).rules, r.length = 6 := fun i hi => hm _ (by rw [List.getD_eq_getElem?_getD, List.getElem?_eq_getElem hi]; exact List.getElem_mem hi)
  have hch : ∀ i, ∃ A, i < l.length → ∃ a' c', rv i = .slice a' (l.getD i E.zero).rules.length c' ∧ SR w a' (l.getD i E.zero).rules.length A ∧ (A.map Prod.fst).Nodup ∧ (∀ x ∈ A, lo i ≤ x.1.block ∧ x.1.block < hi i) ∧ A.length = (l.getD i E.zero).rules.length * 18 ∧ LSrc 1 PR w a' (l.getD i E.zero).rules := by
    intro i
    by_cases hi : i < l.length
    · obtain ⟨a', c', A, h1, h2, h3, h4, h5, h6⟩ := rsIn_sr (h.own i hi) (by have := (hmi i hi).1; omega) (hmi i hi).2
      exact ⟨A, fun _ => ⟨a', c', h1, h2, h3, h4, h5, h6⟩⟩
    · exact ⟨[], fun h => absurd h hi⟩
  obtain ⟨F, hF⟩ : ∃ F : Nat → List AdK, ∀ i, i < l.length → ∃ a' c', rv i = .slice a' (l.getD i E.zero).rules.length c' ∧ SR w a' (l.getD i E.zero).rules.length (F i) ∧ ((F i).map Prod.fst).Nodup ∧ (∀ x ∈ F i, lo i ≤ x.1.block ∧ x.1.block < hi i) ∧ (F i).length = (l.getD i E.zero).rules.length * 18 ∧ LSrc 1 PR w a' (l.getD i E.zero).rules := ⟨fun i => Classical.choose (hch i), fun i => Classical.choose_spec (hch i)⟩
  have hab : ∀ i, ∀ x ∈ a2 gb (0 + i * 3), x.1.block = gb ∧ i * 3 ≤ x.1.off ∧ x.1.off < i * 3 + 2 := fun i x hx => by
    simp only [a2, List.mem_cons, List.not_mem_nil, or_false, Nat.zero_add] at hx
    rcases hx with rfl | rfl <;> refine ⟨rfl, ?_, ?_⟩ <;> simp only <;> omega
  refine ⟨some ⟨gb, 0, none⟩, cap, entA gb 0 F l.length, rfl, ⟨by omega, .inr ⟨gb, 0, rfl, F, rfl, fun i hi => ?_⟩⟩, nodup_flat (fun i hi => ?_) (fun i j hij hj x hx y hy e => ?_), fun x hx => ?_, ?_, .inr ⟨gb, 0, rfl, hgb.2, fun i hi => ?_⟩⟩
  · obtain ⟨c0, c1, c2⟩ := entCs_get l rv i hi
    obtain ⟨a', c', e, hsr, _⟩ := hF i hi
    refine ⟨fun x hx => ?_, a', _, c', by rw [Nat.zero_add, key _ (by omega), c2, e], hsr⟩
    simp only [a2, List.mem_cons, List.not_mem_nil, or_false, Nat.zero_add] at hx
    rcases hx with rfl | rfl
    · exact ⟨⟨_, (key _ (by omega)).trans c0⟩, frz _⟩
    · exact ⟨⟨_, (key _ (by omega)).trans c1⟩, frz _⟩
  · obtain ⟨a', c', e, hsr, hnd, hbl, _⟩ := hF i hi
    rw [List.map_append, List.nodup_append]
    refine ⟨by simp [a2], hnd, fun x hx y hy => ?_⟩
    obtain ⟨p, hp, rfl⟩ := List.mem_map.1 hx
    obtain ⟨q, hq, rfl⟩ := List.mem_map.1 hy
    intro e
    have h1 := (hab i p hp).1
    rw [e] at h1
    have h2 := hbl q hq
    rcases h.out i hi with g | g <;> omega
  · have hi : i < l.length := by omega
    obtain ⟨_, _, _, _, _, hbi, _⟩ := hF i hi
    obtain ⟨_, _, _, _, _, hbj, _⟩ := hF j hj
    rw [List.mem_append] at hx hy
    rcases hx with hx | hx <;> rcases hy with hy | hy
    · have h1 := hab i x hx
      have h2 := hab j y hy
      rw [e] at h1
      omega
    · have h1 := hab i x hx
      have h2 := hbj y hy
      rw [e] at h1
      rcases h.out j hj with g | g <;> omega
    · have h1 := hbi x hx
      have h2 := hab j y hy
      rw [e] at h1
      rcases h.out i hi with g | g <;> omega
    · have h1 := hbi x hx
      have h2 := hbj y hy
      rw [e] at h1
      have := h.inc i j hij hj
      omega
  · obtain ⟨i, hi, hx⟩ := List.mem_flatMap.1 hx
    have hi' := List.mem_range.1 hi
    rw [List.mem_append] at hx
    rcases hx with hx | hx
    · exact .inl (hab i x hx).1
    · obtain ⟨_, _, _, _, _, hbi, _⟩ := hF i hi'
      exact .inr ⟨i, hi', hbi x hx⟩
  · have : ∀ n, n ≤ l.length → (entA gb 0 F n).length ≤ n * 3602 := by
      intro n
      induction n with
      | zero => intro _; simp [entA]
      | succ n ih =>
        intro hn
        obtain ⟨_, _, _, _, _, _, hl, _⟩ := hF n (by omega)
        have h1 := ih (by omega)
        have h2 := (hmi n (by omega)).1
        rw [entA_succ, List.length_append, List.length_append, hl]
        simp only [a2, List.length_cons, List.length_nil]
        omega
    have := this l.length (Nat.le_refl _)
    omega
  · obtain ⟨c0, c1, c2⟩ := entCs_get l rv i hi
    obtain ⟨a', c', e, _, _, _, _, hls⟩ := hF i hi
    have eg : l.getD i E.zero = l[i] := by rw [List.getD_eq_getElem?_getD, List.getElem?_eq_getElem hi]; rfl
    rw [eg] at c0 c1 e hls
    rw [Nat.zero_add]
    exact ⟨(key _ (by omega)).trans c0, (key _ (by omega)).trans c1, a', c', by rw [key _ (by omega), c2, e], hls⟩
end Go.Proofs.YtoamapdfcdefjaaGreat
