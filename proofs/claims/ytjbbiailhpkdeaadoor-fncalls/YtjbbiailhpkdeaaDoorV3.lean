/-
  CalC, CalD
-/
import Derived.Test.YtjbbiailhpkdeaaDoorV2
namespace Go.Proofs.YtjbbiailhpkdeaaDoor
open Go.RowKit Go.Deep
set_option linter.unusedVariables false

/-- a region that draws its order: its ways meet again -/
def CutQ (A : Act) (R : World → Prop) : Exit → Act → World → Prop
  | .normal, act, W => act = A ∧ R W
  | _, _, _ => False
theorem CutQ.mk {A act : Act} {R : World → Prop} {W : World} (h1 : act = A) (h2 : R W) : CutQ A R .normal act W := ⟨h1, h2⟩
theorem wp_cut {P : Program} {c : Code} {Q : Exit → Act → World → Prop} {a : Act} {w : World} {A : Act} {R : World → Prop} (h : c.wp P (CutQ A R) a w) (k : ∀ W', R W' → Q Exit.normal A W') : c.wp P Q a w :=
  Code.wp_mono (fun ex act W' h => by
    cases ex with
    | normal => obtain ⟨h2, h3⟩ := h; subst h2; exact k W' h3
    | _ => exact False.elim h) h

/-- c, its argument number i made near -/
def nearA (c : C) (i : Nat) (l : List Int) (j : Nat) : C := ⟨c.arch, c.nr, c.args.set i (nearV (c.args.getD i 0) l j)⟩
/-- the call that is drawn behind the calls cs, and where the reader stands behind it -/
def nxtC (l : List Int) (cs : List C) (j : Nat) : C × Nat :=
  if l.getD j 0 % 8 < 2 ∨ cs.length = 0 then (callD l (j + 1), callJ l (j + 1))
  else if l.getD j 0 % 8 = 7 then (cs.getD (l.getD (j + 1) 0 % (cs.length : Int)).toNat C.zero, j + 2)
  else if l.getD j 0 % 8 < 5 then (nearA (cs.getD (l.getD (j + 1) 0 % (cs.length : Int)).toNat C.zero) (l.getD (j + 2) 0 % 6).toNat l (j + 3), nearJ l (j + 3))
  else (nearA (nearA (cs.getD (l.getD (j + 1) 0 % (cs.length : Int)).toNat C.zero) (l.getD (j + 2) 0 % 6).toNat l (j + 3)) (l.getD (nearJ l (j + 3)) 0 % 3).toNat l (nearJ l (j + 3) + 1), nearJ l (nearJ l (j + 3) + 1))
def goC (l : List Int) : Nat → Nat → List C → Nat → List C × Nat
  | 0, _, cs, j => (cs, j)
  | f + 1, i, cs, j => if i < 2 ∨ j < l.length then goC l f (i + 1) (cs ++ [(nxtC l cs j).1]) (nxtC l cs j).2 else (cs, j)
def callsD (l : List Int) (j : Nat) : List C × Nat := goC l (l.getD j 0 % 40).toNat 0 [] (j + 1)

/-- a call with six arguments, all of its kind -/
def Ok6 (c : C) : Prop := c.ok ∧ c.args.length = 6
theorem nearA_ok {c : C} (h : Ok6 c) (i : Nat) (l : List Int) (hl : isBytes l) (j : Nat) : Ok6 (nearA c i l j) := by
  obtain ⟨⟨h1, h2, h3, h4, h5⟩, h6⟩ := h
  refine ⟨⟨h1, h2, h3, h4, fun v hv => ?_⟩, by show (c.args.set i _).length = 6; rw [List.length_set]; exact h6⟩
  rcases List.mem_or_eq_of_mem_set hv with h | rfl
  · exact h5 v h
  · refine nearV_isU ?_ l hl j
    by_cases hi : i < c.args.length
    · rw [List.getD_eq_getElem?_getD, List.getElem?_eq_getElem hi]
      exact h5 _ (List.getElem_mem hi)
    · rw [List.getD_eq_getElem?_getD, List.getElem?_eq_none (by omega)]
      unfold isU; simp
theorem nxtC_ok {l : List Int} (hl : isBytes l) {cs : List C} (h : ∀ c ∈ cs, Ok6 c) (j : Nat) : Ok6 (nxtC l cs j).1 := by
  unfold nxtC
  split
  · exact callD_ok l hl _
  · rename_i hne
    have hb := isBytes_getD hl (j + 1)
    have hc : Ok6 (cs.getD (l.getD (j + 1) 0 % (cs.length : Int)).toNat C.zero) := by
      have h0 : 0 < cs.length := by omega
      have hlt : (l.getD (j + 1) 0 % (cs.length : Int)).toNat < cs.length := by
        have := Int.emod_nonneg (l.getD (j + 1) 0) (show (cs.length : Int) ≠ 0 by omega)
        have := Int.emod_lt_of_pos (l.getD (j + 1) 0) (show (0 : Int) < cs.length by omega)
        omega
      rw [List.getD_eq_getElem?_getD, List.getElem?_eq_getElem hlt]
      exact h _ (List.getElem_mem hlt)
    split
    · exact hc
    · split
      · exact nearA_ok hc _ l hl _
      · exact nearA_ok (nearA_ok hc _ l hl _) _ l hl _
theorem goC_ok {l : List Int} (hl : isBytes l) (f i : Nat) (cs : List C) (j : Nat) (h : ∀ c ∈ cs, Ok6 c) : (∀ c ∈ (goC l f i cs j).1, Ok6 c) ∧ (goC l f i cs j).1.length ≤ cs.length + f := by
  induction f generalizing i cs j with
  | zero => exact ⟨h, by simp [goC]⟩
  | succ f ih =>
    unfold goC
    split
    · have := ih (i + 1) (cs ++ [(nxtC l cs j).1]) (nxtC l cs j).2 (fun c hc => by
        simp only [List.mem_append, List.mem_singleton] at hc
        rcases hc with hc | rfl
        · exact h c hc
        · exact nxtC_ok hl h j)
      refine ⟨this.1, ?_⟩
      have := this.2
      simp only [List.length_append, List.length_singleton] at this
      omega
    · exact ⟨h, by show cs.length ≤ _; omega⟩
theorem callsD_ok {l : List Int} (hl : isBytes l) (j : Nat) : (∀ c ∈ (callsD l j).1, Ok6 c) ∧ (callsD l j).1.length ≤ 39 := by
  have hb := isBytes_getD hl j
  have := goC_ok hl (l.getD j 0 % 40).toNat 0 [] (j + 1) (fun c hc => by simp at hc)
  refine ⟨this.1, ?_⟩
  have := this.2
  simp only [List.length_nil] at this
  unfold callsD
  omega

/-- one number of an own row is set -/
theorem ownsU_put {w : World} {B g n cp i : Nat} {l : List Int} (y : Int) (h : ownsU w B (.slice (some ⟨g, 0, none⟩) n cp) l) (hi : i < l.length) : ownsU (w.setCell ⟨g, i, none⟩ (.int .u64 y)) B (.slice (some ⟨g, 0, none⟩) n cp) (l.set i y) := by
  obtain ⟨h0, h | ⟨g', cap, cur, e, hb, hg, hn, hm, hs, hx⟩⟩ := h
  · cases h.1
  · simp only [Value.slice.injEq, Option.some.injEq, Addr.mk.injEq] at e
    obtain ⟨⟨rfl, _, _⟩, rfl, rfl⟩ := e
    refine ⟨by simp, .inr ⟨g, cp, cur.setIfInBounds i (.int .u64 y), by rw [List.length_set], hb, heap_setCell_same w g i cur _ _ hg, by rw [List.length_set]; exact hn, hm, by simpa using hs, ?_⟩⟩
    simp only [List.length_set]
    rw [List.map_set, ← hx, Array.toList_setIfInBounds, List.take_set]

theorem ownsP_rdX {w w1 : World} {B R : Nat} {v : Value} {os : List (C × Value)} (h : ownsP w B v os) (hg : w.grownBy w1 (some R)) (hR : R < B) : ownsP w1 B v os :=
  World.ownsRow.kept h hg (by
    cases hv : v.ownBlock with
    | none => exact .inl rfl
    | some q =>
      right
      have := (h.lt q hv).1
      intro e
      simp at e
      omega)
theorem McS.rdX {w w1 : World} {B R : Nat} {v : Value} {os : List (C × Value)} (h : McS w B v os) (hg : w.grownBy w1 (some R)) (hR : R < B) : McS w1 B v os :=
  ⟨ownsP_rdX h.row hg hR, fun p hp => ownsU_rdX (h.own p hp) hg hR⟩
/-- calls that are being drawn -/
structure CsS (w W : World) (R : Nat) (a : Option Addr) (cap : Nat) (l : List Int) (j : Nat) (v : Value) (os : List (C × Value)) : Prop where
  rd : Rd W R a cap l j
  mc : McS W w.heap.size v os
  gr : w.grownBy W (some R)
  lt : R < w.heap.size
theorem CsS.draw {w W W1 : World} {R cap j j1 : Nat} {a : Option Addr} {l : List Int} {v : Value} {os : List (C × Value)} (h : CsS w W R a cap l j v os) (hr : Rd W1 R a cap l j1) (hg : W.grownBy W1 (some R)) : CsS w W1 R a cap l j1 v os :=
  ⟨hr, h.mc.rdX hg h.lt, rb_trans h.gr hg, h.lt⟩
theorem CsS.below {w W W1 : World} {R cap j : Nat} {a : Option Addr} {l : List Int} {v : Value} {os : List (C × Value)} (h : CsS w W R a cap l j v os) (hb : Below W.heap.size W W1) : CsS w W1 R a cap l j v os :=
  ⟨h.rd.below hb, h.mc.below hb, rb_trans h.gr (rb_below hb), h.lt⟩
theorem CsS.alloc {w W : World} {R cap j : Nat} {a : Option Addr} {l : List Int} {v : Value} {os : List (C × Value)} (h : CsS w W R a cap l j v os) (o : Obj) : CsS w (W.alloc o) R a cap l j v os :=
  h.below ((Below.refl _ _).alloc (Nat.le_refl _) o)
theorem CsS.push {w W W1 : World} {R cap j : Nat} {a : Option Addr} {l : List Int} {v v1 : Value} {os : List (C × Value)} {p : C × Value} {o : Obj} (h : CsS w W R a cap l j v os) (hp : ownsU W w.heap.size p.2 p.1.args) (hg : (W.alloc o).grownBy W1 v.ownBlock) (hr : ownsP W1 w.heap.size v1 (os ++ [p])) : CsS w W1 R a cap l j v1 (os ++ [p]) := by
  have hge : ∀ k, v.ownBlock = some k → w.heap.size ≤ k := fun k hk => (h.mc.row.lt k hk).1
  exact ⟨(h.rd.alloc o).grown hg h.lt hge, h.mc.push hp hg hr, rb_own (rb_alloc h.gr o) hg hge, h.lt⟩
/-- a cell of a block that is none of the calls is set: a block of numbers, or a box -/
theorem CsS.set {w W : World} {R cap j D i : Nat} {a : Option Addr} {l : List Int} {v x : Value} {os : List (C × Value)} (h : CsS w W R a cap l j v os) (hD : w.heap.size ≤ D) (h1 : v.ownBlock ≠ some D) (h2 : ∀ p ∈ os, p.2.ownBlock ≠ some D) : CsS w (W.setCell ⟨D, i, none⟩ x) R a cap l j v os := by
  have hlt := h.lt
  refine ⟨h.rd.setX D i (by omega) _, ⟨ownsRow_setCell_other h.mc.row h1 _, fun p hp => ownsRow_setCell_other (h.mc.own p hp) (h2 p hp) _⟩, rb_setX h.gr hD i _, hlt⟩

set_option maxHeartbeats 1000000 in
theorem left_any (R cap : Nat) (a : Option Addr) (l : List Int) (j : Nat) (w : World) (hR : Rd w R a cap l j) :
    Calls Tryd.prog 44 #[.pointer (some ⟨R, 0, none⟩)] w fun e w' => e = .returned (.int .i64 ((l.length : Int) - ((min j l.length : Nat) : Int))) ∧ Rd w' R a cap l j ∧ w.grownBy w' (some R) := by
  have c0 : w.cell? ⟨R, 0, none⟩ = some (.slice a l.length cap) := World.rowIs.cell hR.row (by omega)
  have c1 : w.cell? ⟨R, 1, none⟩ = some (.int .i64 ((min j l.length : Nat) : Int)) := World.rowIs.cell hR.row (by omega)
  have hlen := hR.len
  have hq : min j l.length ≤ l.length := Nat.min_le_right _ _
  have HR : Hid (∀ n, Rd (w.drewN n) R a cap l j) := fun n => hR.drewN n
  clear hR
  generalize min j l.length = q at *
  generalize l.length = n at *
  go_enter Tryd.func44, Tryd.ntmps44
  go_wp2_with fail
  go_quiet (fail)
  go_wp2
  go_ret
  refine ⟨ret_int ?_, HR.out _, rb_drewN (World.grownBy.refl _ _) _⟩
  first | rfl | (rw [IntKind.wrap_i64]; omega)

/-- a copy of a call lies in the box G, its six arguments in the block g, apart from the calls that are being drawn -/
structure CpS (w W : World) (R : Nat) (a : Option Addr) (cap : Nat) (l : List Int) (j : Nat) (v : Value) (os : List (C × Value)) (G : Nat) (x y : Int) (g cp : Nat) (args : List Int) : Prop where
  cs : CsS w W R a cap l j v os
  box : Box3 W G (.int .u32 x) (.int .u32 y) (.slice (some ⟨g, 0, none⟩) 6 cp)
  own : ownsU W w.heap.size (.slice (some ⟨g, 0, none⟩) 6 cp) args
  hG : w.heap.size ≤ G
  hg : w.heap.size ≤ g
  ne : g ≠ G
  len : args.length = 6
  ap1 : v.ownBlock ≠ some g
  ap2 : ∀ p ∈ os, p.2.ownBlock ≠ some g
section
variable {w W W1 : World} {R cap j j1 G g cp : Nat} {a : Option Addr} {l args : List Int} {v : Value} {os : List (C × Value)} {x y : Int}
theorem CpS.draw (h : CpS w W R a cap l j v os G x y g cp args) (hr : Rd W1 R a cap l j1) (hg : W.grownBy W1 (some R)) : CpS w W1 R a cap l j1 v os G x y g cp args :=
  have h1 := h.cs.lt
  have h2 := h.hG
  ⟨h.cs.draw hr hg, h.box.grownX hg (fun e => by simp at e; omega), ownsU_rdX h.own hg h1, h.hG, h.hg, h.ne, h.len, h.ap1, h.ap2⟩
theorem CpS.below (h : CpS w W R a cap l j v os G x y g cp args) (hb : Below W.heap.size W W1) : CpS w W1 R a cap l j v os G x y g cp args :=
  ⟨h.cs.below hb, h.box.keep hb, ownsU_below h.own hb, h.hG, h.hg, h.ne, h.len, h.ap1, h.ap2⟩
theorem CpS.drew (h : CpS w W R a cap l j v os G x y g cp args) : CpS w W.drew R a cap l j v os G x y g cp args := h.below (Below.refl _ _).drew
theorem CpS.put (h : CpS w W R a cap l j v os G x y g cp args) {i : Nat} (hi : i < 6) (u : Int) : CpS w (W.setCell ⟨g, i, none⟩ (.int .u64 u)) R a cap l j v os G x y g cp (args.set i u) :=
  ⟨h.cs.set h.hg h.ap1 h.ap2, h.box.setO (Ne.symm h.ne), ownsU_put u h.own (by rw [h.len]; exact hi), h.hG, h.hg, h.ne, by rw [List.length_set]; exact h.len, h.ap1, h.ap2⟩
theorem CpS.cell (h : CpS w W R a cap l j v os G x y g cp args) {i : Nat} (hi : i < 6) : W.cell? ⟨g, i, none⟩ = some (.int .u64 (args.getD i 0)) ∧ W.frozen? ⟨g, i, none⟩ = false := by
  obtain ⟨h0, h1 | ⟨g', cap, cur, e, hb, hg, hn, hm, hs, hx⟩⟩ := h.own
  · cases h1.1
  · simp only [Value.slice.injEq, Option.some.injEq, Addr.mk.injEq] at e
    obtain ⟨⟨rfl, _, _⟩, _, rfl⟩ := e
    have hl := h.len
    have hlt : i < args.length := by omega
    have hc := h.own.cells rfl i (.int .u64 (args.getD i 0)) (by rw [List.getElem?_map, List.getElem?_eq_getElem hlt, List.getD_eq_getElem?_getD, List.getElem?_eq_getElem hlt]; rfl)
    rw [add_at, Nat.zero_add] at hc
    exact ⟨hc, by simp [World.frozen?, hg]⟩
theorem CpS.new {W0 : World} {ar nr : Int} (h : CsS w W0 R a cap l j v os) (hb : Below W0.heap.size W0 W) (ho : ownsU W W0.heap.size (.slice (some ⟨g, 0, none⟩) 6 cp) args) (hl : args.length = 6) :
    CpS w (W.alloc (.cells #[.int .u32 ar, .int .u32 nr, .slice (some ⟨g, 0, none⟩) 6 cp] 34)) R a cap l j v os W.heap.size ar nr g cp args := by
  obtain ⟨hg1, hg2⟩ := ho.lt g rfl
  have h1 := h.gr.size
  have h2 := hb.size
  exact ⟨(h.below hb).alloc _, Box3.new W _ _ _ _, ownsU_below (ownsU_mono ho h1) ((Below.refl _ _).alloc (Nat.le_refl _) _), by omega, by omega, by omega, hl,
    fun e => by have := (h.mc.row.lt g e).2; omega, fun p hp e => by have := ((h.mc.own p hp).lt g e).2; omega⟩
end
end Go.Proofs.YtjbbiailhpkdeaaDoor
namespace Go.Proofs.YtjbbiailhpkdeaaDoor
open Go.RowKit Go.Deep
set_option linter.unusedVariables false

set_option maxRecDepth 100000 in
set_option maxHeartbeats 4000000 in
theorem drawCalls_any (R cap : Nat) (a : Option Addr) (l : List Int) (j : Nat) (w : World) (hR : Rd w R a cap l j) :
    Calls Tryd.prog 24 #[.pointer (some ⟨R, 0, none⟩)] w fun e w' => ∃ v os, e = .returned v ∧ os.map Prod.fst = (callsD l j).1 ∧ CsS w w' R a cap l (callsD l j).2 v os := by
  obtain ⟨i0, hi0, hz0, hz1, hz2⟩ := info_parts infoCall
  have hby : Hid (∀ t, 0 ≤ l.getD t 0 ∧ l.getD t 0 ≤ 255) := isBytes_getD hR.bys
  have HBy : Hid (isBytes l) := hR.bys
  have HN : Hid (∀ t W, Rd W R a cap l t → Calls Tryd.prog 20 #[.pointer (some ⟨R, 0, none⟩)] W fun e w' => e = .returned (.int .i64 (l.getD t 0)) ∧ Rd w' R a cap l (t + 1) ∧ W.grownBy w' (some R)) := fun t W h => next_any R cap a l t W h
  have HLf : Hid (∀ t W, Rd W R a cap l t → Calls Tryd.prog 44 #[.pointer (some ⟨R, 0, none⟩)] W fun e w' => e = .returned (.int .i64 ((l.length : Int) - ((min t l.length : Nat) : Int))) ∧ Rd w' R a cap l t ∧ W.grownBy w' (some R)) := fun t W h => left_any R cap a l t W h
  have HCd : Hid (∀ t W, Rd W R a cap l t → Calls Tryd.prog 42 #[.pointer (some ⟨R, 0, none⟩)] W fun e w' => ∃ v, e = .returned (callV (callD l t) v) ∧ ownsU w' W.heap.size v (callD l t).args ∧ Rd w' R a cap l (callJ l t) ∧ W.grownBy w' (some R)) := fun t W h => drawCall_any R cap a l t W h
  have HCp : Hid (∀ (c : C) aa cp W, USrc W aa c.args → c.args.length ≤ 16777216 → Calls Tryd.prog 45 #[callV c (.slice aa c.args.length cp)] W fun e w' => ∃ v', e = .returned (callV c v') ∧ ownsU w' W.heap.size v' c.args ∧ Below W.heap.size W w') := fun c aa cp W h1 h2 => l2copy_any c aa cp W h1 h2
  have HNe : Hid (∀ v t W, isU v → Rd W R a cap l t → Calls Tryd.prog 46 #[.int .u64 v, .pointer (some ⟨R, 0, none⟩)] W fun e w' => e = .returned (.int .u64 (nearV v l t)) ∧ Rd w' R a cap l (nearJ l t) ∧ W.grownBy w' (some R)) := fun v t W h1 h2 => near_any v R cap a l t W h1 h2
  have hx0 := hby.out j
  obtain ⟨N, hN⟩ : ∃ N : Nat, (N : Int) = l.getD j 0 % 40 := ⟨(l.getD j 0 % 40).toNat, by omega⟩
  have hN39 : N ≤ 39 := by omega
  obtain ⟨RES, hRES⟩ : ∃ RES, callsD l j = RES := ⟨_, rfl⟩
  have HG0 : Hid (goC l (N - 0) 0 [] (j + 1) = RES) := by unfold Hid; rw [← hRES]; unfold callsD; rw [show (l.getD j 0 % 40).toNat = N by omega]; rfl
  rw [hRES]
  clear hRES
  have HN0 : Hid (∀ W, Rd W R a cap l j → Calls Tryd.prog 20 #[.pointer (some ⟨R, 0, none⟩)] W fun e w' => e = .returned (.int .i64 (l.getD j 0)) ∧ Rd w' R a cap l (j + 1) ∧ W.grownBy w' (some R)) := HN.out j
  have hRw := hR.lt
  generalize l.getD j 0 = x0 at *
  have HNe0 : Hid ((N : Int) = x0 % 40) := hN
  clear hN
  go_enter Tryd.func24, Tryd.ntmps24
  go_wp2_with fail
  refine (HN0.out _ hR).mono ?_
  rintro _ w1 ⟨rfl, hR1, hg1⟩
  have S1 : CsS w w1 R a cap l (j + 1) (.slice none 0 0) [] := ⟨hR1, ⟨World.ownsRow_nil _ _ _ _, fun p hp => by simp at hp⟩, hg1, hRw⟩
  clear hR1 hg1 HN0
  go_wp2_with fail
  rw [← HNe0.out]
  clear HNe0 hx0
  go_loopw [4, 5] (fun s u wr => ∃ (v : Value) (i jj : Nat) (os : List (C × Value)), v = s ∧ u = .int .i64 (i : Int) ∧ i ≤ N ∧ CsS w wr R a cap l jj v os ∧ Hid (∀ c ∈ os.map Prod.fst, Ok6 c) ∧ Hid (os.length ≤ i) ∧ Hid (goC l (N - i) i (os.map Prod.fst) jj = RES)) (fun _ u _ => N - (intOf u).toNat)
  case atStart => exact ⟨_, 0, j + 1, [], rfl, rfl, by omega, S1, fun c hc => by simp at hc, Nat.zero_le _, HG0⟩
  case round =>
    obtain ⟨v, i, jj, os, rfl, rfl, hiN, S, hok, hol, HG⟩ := hrel
    clear S1 HG0
    by_cases hlt : i < N
    · have hlt' : (i : Int) < (N : Int) := by omega
      obtain ⟨f, hf⟩ : ∃ f, N - i = f + 1 := ⟨N - i - 1, by omega⟩
      have hf2 : N - (i + 1) = f := by omega
      rw [hf] at HG
      have HG1 : Hid ((if i < 2 ∨ jj < l.length then goC l f (i + 1) (os.map Prod.fst ++ [(nxtC l (os.map Prod.fst) jj).1]) (nxtC l (os.map Prod.fst) jj).2 else (os.map Prod.fst, jj)) = RES) := HG
      clear HG
      have hmin : (jj < l.length → (0 : Int) < (l.length : Int) - ((min jj l.length : Nat) : Int)) ∧ (¬ jj < l.length → (l.length : Int) - ((min jj l.length : Nat) : Int) = 0) := by omega
      by_cases hin : i < 2 ∨ jj < l.length
      · have HG2 : Hid (goC l f (i + 1) (os.map Prod.fst ++ [(nxtC l (os.map Prod.fst) jj).1]) (nxtC l (os.map Prod.fst) jj).2 = RES) := by have := HG1.out; rw [if_pos hin] at this; exact this
        clear HG1
        obtain ⟨av, cv, ev, hcv, hsrc⟩ := S.mc.src
        subst ev
        have hN2 := HN.out jj
        have hxk := hby.out jj
        generalize hX : l.getD jj 0 = x at *
        have HX : Hid (l.getD jj 0 = x) := hX
        have HN2 : Hid (∀ W, Rd W R a cap l jj → Calls Tryd.prog 20 #[.pointer (some ⟨R, 0, none⟩)] W fun e w' => e = .returned (.int .i64 x) ∧ Rd w' R a cap l (jj + 1) ∧ W.grownBy w' (some R)) := hN2
        clear hN2 hX
        by_cases hi2 : i < 2
        case' pos =>
          have hi2' : (i : Int) < 2 := by omega
          clear hmin
          go_wp2_with fail
          have S2 := S
        case' neg =>
          have hi2' : ¬ (i : Int) < 2 := by omega
          have hle := hmin.1 (by omega)
          clear hmin
          go_wp2_with fail
          refine (HLf.out _ _ S.rd).mono ?_
          rintro _ w2 ⟨rfl, hR2, hg2⟩
          have S2 := S.draw hR2 hg2
          go_wp2_with fail
        all_goals
          refine (HN2.out _ S2.rd).mono ?_
          rintro _ w3 ⟨rfl, hR3, hg3⟩
          have S3 := S2.draw hR3 hg3
          clear hR3 hg3 S2 S HN2 hsrc
          have hsw : w.heap.size ≤ w3.heap.size := S3.gr.size
          by_cases hA : x % 8 < 2 ∨ os.length = 0
          · have HG3 : Hid (goC l f (i + 1) (os.map Prod.fst ++ [callD l (jj + 1)]) (callJ l (jj + 1)) = RES) := by
              have := HG2.out
              have e : nxtC l (os.map Prod.fst) jj = (callD l (jj + 1), callJ l (jj + 1)) := by
                unfold nxtC; rw [HX.out, List.length_map, if_pos hA]
              rw [e] at this; exact this
            have HO : Hid (Ok6 (callD l (jj + 1))) := callD_ok l HBy.out (jj + 1)
            have HCd2 : Hid (∀ W, Rd W R a cap l (jj + 1) → Calls Tryd.prog 42 #[.pointer (some ⟨R, 0, none⟩)] W fun e w' => ∃ v, e = .returned (callV (callD l (jj + 1)) v) ∧ ownsU w' W.heap.size v (callD l (jj + 1)).args ∧ Rd w' R a cap l (callJ l (jj + 1)) ∧ W.grownBy w' (some R)) := fun W h => HCd.out (jj + 1) W h
            clear HG2 HN HLf HCd HCp HNe HX
            generalize callD l (jj + 1) = c at *
            generalize callJ l (jj + 1) = jc at *
            have hA' : x % 8 < 2 ∨ (¬ x % 8 < 2 ∧ (os.length : Int) = 0) := by omega
            clear hA
            rcases hA' with hA1 | ⟨hA1, hA2⟩
            all_goals
              go_wp2_with fail
              refine (HCd2.out _ S3.rd).mono ?_
              rintro _ w4 ⟨va, rfl, ova, hR4, hg4⟩
              have S4 := S3.draw hR4 hg4
              have hou := ownsU_mono ova hsw
              obtain ⟨aw, cw, ew, _⟩ := ownsU_src hou
              obtain ⟨ar, nr, args⟩ := c
              simp only at ew hou
              have hrow := S4.mc.row
              generalize hna : args.length = na at ew
              subst ew
              clear ova hR4 hg4 S3 HCd2
              have HO2 : Hid (∀ c ∈ (os ++ [((⟨ar, nr, args⟩ : C), Value.slice aw na cw)]).map Prod.fst, Ok6 c) := fun c hc => by
                rw [List.map_append] at hc
                simp only [List.mem_append, List.map_cons, List.map_nil, List.mem_singleton] at hc
                rcases hc with hc | rfl
                · exact hok.out c hc
                · exact HO.out
              have HL2 : Hid ((os ++ [((⟨ar, nr, args⟩ : C), Value.slice aw na cw)]).length ≤ i + 1) := by have := hol.out; unfold Hid; simp; omega
              have HG4 : Hid (goC l (N - (i + 1)) (i + 1) ((os ++ [((⟨ar, nr, args⟩ : C), Value.slice aw na cw)]).map Prod.fst) jc = RES) := by
                unfold Hid; rw [hf2, List.map_append]; exact HG3.out
              have hol' : os.length ≤ 39 := by have := hol.out; omega
              clear HO HG3 hok hol
              have hrow2 : World.ownsRow w4 w.heap.size 34 3 (.slice av os.length cv) os.length (cCs os) := hrow
              have hb4 : w.heap.size ≤ w4.heap.size := S4.gr.size
              go_wp2_with (at_builtin; refine wpList_append_own _ rfl (.tmp 36) (.tmp 39) 24 rfl (w.heap.size) 34 i0 _ 3 32 Tryd.underlying24 hi0 hz0 hz1 hz2 rfl (by decide) _ _ _ rfl (hrow2.alloc _) ⟨w4.heap.size, 0, none⟩ 1 1 (cC (⟨ar, nr, args⟩, .slice aw na cw)) rfl rfl ?c1 (cC_one rfl) ?c3 ?c4 ?c5 ?_)
              case c1 =>
                intro t u ht
                rw [add_at, World.cell?_alloc_at _ _ _ _ (by simp)]
                simpa [cC] using ht
              case c3 => unfold maxLen; omega
              case c4 => omega
              case c5 => simp; omega
              intro vz wz ow gr _
              have S5 := S4.push (p := (⟨ar, nr, args⟩, .slice aw na cw)) hou gr (ownsP_snoc rfl ow)
              clear ow gr S4 hrow hrow2 hou
              go_wp2
              go_roundw
              case rel => exact ⟨_, i + 1, jc, _, rfl, by go_num, by omega, S5, HO2, HL2, HG4⟩
              case measure => simp [intOf]; omega
          · have hA1 : ¬ x % 8 < 2 := by omega
            have hA2 : 0 < os.length := by omega
            have HN3 : Hid (∀ W, Rd W R a cap l (jj + 1) → Calls Tryd.prog 20 #[.pointer (some ⟨R, 0, none⟩)] W fun e w' => e = .returned (.int .i64 (l.getD (jj + 1) 0)) ∧ Rd w' R a cap l (jj + 2) ∧ W.grownBy w' (some R)) := fun W h => HN.out (jj + 1) W h
            have hy := hby.out (jj + 1)
            generalize hY : l.getD (jj + 1) 0 = y at *
            have HY : Hid (l.getD (jj + 1) 0 = y) := hY
            clear hY hA
            have hA3 : ¬ (os.length : Int) = 0 := by omega
            obtain ⟨q, hq⟩ : ∃ q : Nat, (q : Int) = y % (os.length : Int) := ⟨(y % (os.length : Int)).toNat, by have := Int.emod_nonneg y (show (os.length : Int) ≠ 0 by omega); omega⟩
            have hql : q < os.length := by have := Int.emod_lt_of_pos y (show (0 : Int) < os.length by omega); omega
            generalize hnn : os.length = nn at *
            have HNN : Hid (os.length = nn) := hnn
            clear hnn
            have Hq : Hid ((q : Int) = y % (nn : Int)) := hq
            clear hq
            have hA4 : (decide (x % 8 < 2) || ((nn : Int) == 0)) = false := by simp; omega
            go_wp2_with fail
            refine (HN3.out _ S3.rd).mono ?_
            rintro _ w4 ⟨rfl, hR4, hg4⟩
            have S4 := S3.draw hR4 hg4
            clear hR4 hg4 S3 HN3
            obtain ⟨b, o, eb, hbl, hat⟩ : ∃ b o, av = some ⟨b, o, none⟩ ∧ b < w4.heap.size ∧ CAt w4 b o (os.map Prod.fst) := by
              obtain ⟨aS, cS, e, _, hs⟩ := S4.mc.src
              simp only [Value.slice.injEq] at e
              obtain ⟨rfl, _, _⟩ := e
              rcases hs with h0 | h0
              · have := congrArg List.length h0
                rw [List.length_map, HNN.out] at this; simp at this; omega
              · exact h0
            subst eb
            obtain ⟨c0, c1, aa, ca, c2, hus⟩ := hat q (by rw [List.length_map, HNN.out]; exact hql)
            have HO : Hid (Ok6 ((os.map Prod.fst).getD q C.zero)) := by
              refine hok.out _ ?_
              rw [List.getD_eq_getElem?_getD, List.getElem?_eq_getElem (by rw [List.length_map, HNN.out]; exact hql)]
              exact List.getElem_mem _
            have hqn : (y % (nn : Int)).toNat = q := by rw [← Hq.out]; simp
            have hqa : (0 : Int) ≤ y % (nn : Int) := by rw [← Hq.out]; omega
            have hqb : y % (nn : Int) < (nn : Int) := by rw [← Hq.out]; omega
            have HG4 : Hid (goC l f (i + 1) (os.map Prod.fst ++ [if x % 8 = 7 then (os.map Prod.fst).getD q C.zero else if x % 8 < 5 then nearA ((os.map Prod.fst).getD q C.zero) (l.getD (jj + 2) 0 % 6).toNat l (jj + 3) else nearA (nearA ((os.map Prod.fst).getD q C.zero) (l.getD (jj + 2) 0 % 6).toNat l (jj + 3)) (l.getD (nearJ l (jj + 3)) 0 % 3).toNat l (nearJ l (jj + 3) + 1)])
                (if x % 8 = 7 then jj + 2 else if x % 8 < 5 then nearJ l (jj + 3) else nearJ l (nearJ l (jj + 3) + 1)) = RES) := by
              have h := HG2.out
              unfold nxtC at h
              rw [HX.out, HY.out, List.length_map, HNN.out, hqn, if_neg (by omega)] at h
              by_cases h7 : x % 8 = 7
              · rw [if_pos h7] at h; rw [if_pos h7, if_pos h7]; exact h
              · rw [if_neg h7] at h; rw [if_neg h7, if_neg h7]
                by_cases h5 : x % 8 < 5
                · rw [if_pos h5] at h; rw [if_pos h5, if_pos h5]; exact h
                · rw [if_neg h5] at h; rw [if_neg h5, if_neg h5]; exact h
            clear HG2 HX HY Hq hat HCd HLf
            generalize (os.map Prod.fst).getD q C.zero = cc at *
            have hol' : nn ≤ 39 := by have := hol.out; omega
            have h6 := HO.out.2
            obtain ⟨ar, nr, args⟩ := cc
            simp only at c0 c1 c2 hus h6
            have HCp2 : Hid (Calls Tryd.prog 45 #[.agg #[.int .u32 ar, .int .u32 nr, .slice aa 6 ca]] w4 fun e w' => ∃ v', e = .returned (callV ⟨ar, nr, args⟩ v') ∧ ownsU w' w4.heap.size v' args ∧ Below w4.heap.size w4 w') := by
              have := HCp.out ⟨ar, nr, args⟩ aa ca w4 hus (by simp only; omega)
              simp only [h6] at this
              exact this
            rw [h6] at c2
            clear HCp hus
            go_wp2_with fail
            refine HCp2.out.mono ?_
            rintro _ w5 ⟨v5, rfl, ov5, hb5⟩
            obtain ⟨g, cp, e5, _, _⟩ := ownsU_at ov5 (by omega)
            rw [h6] at e5
            subst e5
            have P6 := CpS.new (ar := ar) (nr := nr) S4 hb5 ov5 h6
            clear HCp2 ov5 hb5 c0 c1 c2 S4
            have hrowE : ∀ {W2 : World} {jE : Nat} {G2 : Nat} {aE : List Int}, CpS w W2 R a cap l jE (.slice (some ⟨b, o, none⟩) nn cv) os G2 ar nr g cp aE → World.ownsRow W2 w.heap.size 34 3 (.slice (some ⟨b, o, none⟩) nn cv) nn (cCs os) := fun P => by have := P.cs.mc.row; rw [ownsP, HNN.out] at this; exact this
            have HrowE : Hid (∀ {W2 : World} {jE : Nat} {G2 : Nat} {aE : List Int}, CpS w W2 R a cap l jE (.slice (some ⟨b, o, none⟩) nn cv) os G2 ar nr g cp aE → World.ownsRow W2 w.heap.size 34 3 (.slice (some ⟨b, o, none⟩) nn cv) nn (cCs os)) := hrowE
            clear hrowE
            have HLE : Hid (∀ aE : List Int, (os ++ [((⟨ar, nr, aE⟩ : C), Value.slice (some ⟨g, 0, none⟩) 6 cp)]).length ≤ i + 1) := fun aE => by have := hol.out; rw [List.length_append, HNN.out]; simp; omega
            have HOE : Hid (∀ aE : List Int, Ok6 ⟨ar, nr, aE⟩ → ∀ c ∈ (os ++ [((⟨ar, nr, aE⟩ : C), Value.slice (some ⟨g, 0, none⟩) 6 cp)]).map Prod.fst, Ok6 c) := fun aE hE c hc => by
              rw [List.map_append] at hc
              simp only [List.mem_append, List.map_cons, List.map_nil, List.mem_singleton] at hc
              rcases hc with hc | rfl
              · exact hok.out c hc
              · exact hE
            clear hok hol
            by_cases h7 : x % 8 = 7
            · have h7' : ¬ x % 8 < 7 := by omega
              have HGE : Hid (goC l (N - (i + 1)) (i + 1) ((os ++ [((⟨ar, nr, args⟩ : C), Value.slice (some ⟨g, 0, none⟩) 6 cp)]).map Prod.fst) (jj + 2) = RES) := by
                have := HG4.out
                rw [if_pos h7, if_pos h7] at this
                unfold Hid; rw [hf2, List.map_append]; exact this
              have HO2 := HOE.out args HO.out
              have HL2 := HLE.out args
              clear HG4 HO HN HNe
              have hrow2 := HrowE.out P6
              have ez : (w5.alloc (.cells #[.int .u32 ar, .int .u32 nr, .slice (some ⟨g, 0, none⟩) 6 cp] 34)).heap.size = w5.heap.size + 1 := by simp
              have hbz := P6.hG
              go_wp2_with (at_builtin; refine wpList_append_own _ rfl (.tmp 82) (.tmp 84) 24 rfl (w.heap.size) 34 i0 _ 3 32 Tryd.underlying24 hi0 hz0 hz1 hz2 rfl (by decide) _ _ _ rfl (hrow2.alloc _) ⟨w5.heap.size + 1, 0, none⟩ 1 1 (cC (⟨ar, nr, args⟩, .slice (some ⟨g, 0, none⟩) 6 cp)) rfl rfl ?c1 (cC_one rfl) ?c3 ?c4 ?c5 ?_)
              case c1 =>
                intro t u ht
                rw [add_at, ← ez, World.cell?_alloc_at _ _ _ _ (by simp)]
                simpa [cC] using ht
              case c3 => unfold maxLen; omega
              case c4 => omega
              case c5 => simp; omega
              intro vz wz ow gr _
              have S9 := P6.cs.push (p := (⟨ar, nr, args⟩, .slice (some ⟨g, 0, none⟩) 6 cp)) P6.own gr (ownsP_snoc (by rw [HNN.out]) ow)
              clear ow gr P6 hrow2
              go_wp2
              go_roundw
              case rel => exact ⟨_, i + 1, jj + 2, _, rfl, by go_num, by omega, S9, HO2, HL2, HGE⟩
              case measure => simp [intOf]; omega
            · have h7' : x % 8 < 7 := by omega
              have HG5 : Hid (goC l f (i + 1) (os.map Prod.fst ++ [if x % 8 < 5 then nearA ⟨ar, nr, args⟩ (l.getD (jj + 2) 0 % 6).toNat l (jj + 3) else nearA (nearA ⟨ar, nr, args⟩ (l.getD (jj + 2) 0 % 6).toNat l (jj + 3)) (l.getD (nearJ l (jj + 3)) 0 % 3).toNat l (nearJ l (jj + 3) + 1)])
                  (if x % 8 < 5 then nearJ l (jj + 3) else nearJ l (nearJ l (jj + 3) + 1)) = RES) := by
                have := HG4.out
                rw [if_neg h7, if_neg h7] at this; exact this
              have HN4 : Hid (∀ W, Rd W R a cap l (jj + 2) → Calls Tryd.prog 20 #[.pointer (some ⟨R, 0, none⟩)] W fun e w' => e = .returned (.int .i64 (l.getD (jj + 2) 0)) ∧ Rd w' R a cap l (jj + 3) ∧ W.grownBy w' (some R)) := fun W h => HN.out (jj + 2) W h
              have hz := hby.out (jj + 2)
              clear HG4
              generalize l.getD (jj + 2) 0 = z at *
              obtain ⟨q1, hq1⟩ : ∃ q1 : Nat, (z % 6).toNat = q1 := ⟨_, rfl⟩
              have hq16 : q1 < 6 := by omega
              rw [hq1] at HG5
              have HO1 : Hid (Ok6 (nearA ⟨ar, nr, args⟩ q1 l (jj + 3))) := nearA_ok HO.out q1 l HBy.out (jj + 3)
              have hiu : isU (args.getD q1 0) := by
                have hlt : q1 < args.length := by omega
                rw [List.getD_eq_getElem?_getD, List.getElem?_eq_getElem hlt]
                exact HO.out.1.2.2.2.2 _ (List.getElem_mem hlt)
              have HNe2 : Hid (∀ W, Rd W R a cap l (jj + 3) → Calls Tryd.prog 46 #[.int .u64 (args.getD q1 0), .pointer (some ⟨R, 0, none⟩)] W fun e w' => e = .returned (.int .u64 (nearV (args.getD q1 0) l (jj + 3))) ∧ Rd w' R a cap l (nearJ l (jj + 3)) ∧ W.grownBy w' (some R)) := fun W h => HNe.out _ _ W hiu h
              have hz60 : 0 ≤ z % 6 := by omega
              have hz66 : z % 6 < 6 := by omega
              obtain ⟨hza, hzb⟩ := hz
              clear HO hiu
              unfold nearA at HG5 HO1
              simp only at HG5 HO1
              generalize hx1 : args.getD q1 0 = x1 at *
              have HX1 : Hid (args.getD q1 0 = x1) := hx1
              clear hx1
              generalize nearV x1 l (jj + 3) = y1 at *
              generalize nearJ l (jj + 3) = j1 at *
              go_wp2_with fail
              generalize w5.alloc (.cells #[.int .u32 ar, .int .u32 nr, .slice (some ⟨g, 0, none⟩) 6 cp] 34) = W6 at *
              generalize w5.heap.size = G at *
              refine (HN4.out _ P6.cs.rd).mono ?_
              rintro _ w7 ⟨rfl, hR7, hg7⟩
              have P7 := P6.draw hR7 hg7
              clear hR7 hg7 P6 HN4
              go_wp2_with fail
              have P7d := P7.drew
              have c2 := P7d.box.c2
              obtain ⟨d1, d2⟩ := P7d.cell hq16
              have ex1 : args.getD q1 0 = x1 := HX1.out
              rw [ex1] at d1
              apply wp_cut (R := fun W' => CpS w W' R a cap l j1 (.slice (some ⟨b, o, none⟩) nn cv) os G ar nr g cp (args.set q1 y1))
              case h =>
                go_region_law (first
                  | (go_simp; go_at_call 46; refine (HNe2.out _ P7d.cs.rd).mono ?_; rintro _ w8 ⟨rfl, hR8, hg8⟩; have P8 := P7d.draw hR8 hg8; have c8 := P8.box.c2; obtain ⟨d8, f8⟩ := P8.cell hq16; rw [ex1] at d8; have P9 := P8.put hq16 y1; go_wp2_with fail))
                all_goals exact CutQ.mk rfl P9
              intro W8 P8
              clear P7 P7d c2 d1 d2 HNe2
              generalize args.set q1 y1 = args1 at *
              by_cases h5 : x % 8 < 5
              case' pos =>
                have h5' : ¬ (4 : Int) < x % 8 := by omega
                have HGE : Hid (goC l (N - (i + 1)) (i + 1) ((os ++ [((⟨ar, nr, args1⟩ : C), Value.slice (some ⟨g, 0, none⟩) 6 cp)]).map Prod.fst) j1 = RES) := by
                  have := HG5.out
                  rw [if_pos h5, if_pos h5] at this
                  unfold Hid; rw [hf2, List.map_append]; exact this
                have HO2 := HOE.out args1 HO1.out
                have HL2 := HLE.out args1
                have PE := P8
                clear HG5 HO1 HN HNe P8
              case' neg =>
                have h5' : (4 : Int) < x % 8 := by omega
                have HG6 : Hid (goC l f (i + 1) (os.map Prod.fst ++ [nearA ⟨ar, nr, args1⟩ (l.getD j1 0 % 3).toNat l (j1 + 1)]) (nearJ l (j1 + 1)) = RES) := by
                  have := HG5.out
                  rw [if_neg h5, if_neg h5] at this; exact this
                have HN5 : Hid (∀ W, Rd W R a cap l j1 → Calls Tryd.prog 20 #[.pointer (some ⟨R, 0, none⟩)] W fun e w' => e = .returned (.int .i64 (l.getD j1 0)) ∧ Rd w' R a cap l (j1 + 1) ∧ W.grownBy w' (some R)) := fun W h => HN.out j1 W h
                obtain ⟨hya, hyb⟩ := hby.out j1
                clear HG5
                generalize l.getD j1 0 = z2 at *
                obtain ⟨q2, hq2⟩ : ∃ q2 : Nat, (z2 % 3).toNat = q2 := ⟨_, rfl⟩
                have hq26 : q2 < 6 := by omega
                rw [hq2] at HG6
                have HO3 : Hid (Ok6 (nearA ⟨ar, nr, args1⟩ q2 l (j1 + 1))) := nearA_ok HO1.out q2 l HBy.out (j1 + 1)
                have hiu : isU (args1.getD q2 0) := by
                  have hlt : q2 < args1.length := by have := P8.len; omega
                  rw [List.getD_eq_getElem?_getD, List.getElem?_eq_getElem hlt]
                  exact HO1.out.1.2.2.2.2 _ (List.getElem_mem hlt)
                have HNe3 : Hid (∀ W, Rd W R a cap l (j1 + 1) → Calls Tryd.prog 46 #[.int .u64 (args1.getD q2 0), .pointer (some ⟨R, 0, none⟩)] W fun e w' => e = .returned (.int .u64 (nearV (args1.getD q2 0) l (j1 + 1))) ∧ Rd w' R a cap l (nearJ l (j1 + 1)) ∧ W.grownBy w' (some R)) := fun W h => HNe.out _ _ W hiu h
                have hz30 : 0 ≤ z2 % 3 := by omega
                have hz36 : z2 % 3 < 6 := by omega
                clear HO1 hiu
                unfold nearA at HG6 HO3
                simp only at HG6 HO3
                generalize hx2 : args1.getD q2 0 = x2 at *
                have HX2 : Hid (args1.getD q2 0 = x2) := hx2
                clear hx2
                generalize nearV x2 l (j1 + 1) = y2 at *
                generalize nearJ l (j1 + 1) = j2 at *
                go_wp2_with fail
                refine (HN5.out _ P8.cs.rd).mono ?_
                rintro _ w10 ⟨rfl, hR10, hg10⟩
                have P10 := P8.draw hR10 hg10
                clear hR10 hg10 P8 HN5
                go_wp2_with fail
                have P10d := P10.drew
                have c2 := P10d.box.c2
                obtain ⟨d1, d2⟩ := P10d.cell hq26
                have ex2 : args1.getD q2 0 = x2 := HX2.out
                rw [ex2] at d1
                apply wp_cut (R := fun W' => CpS w W' R a cap l j2 (.slice (some ⟨b, o, none⟩) nn cv) os G ar nr g cp (args1.set q2 y2))
                case h =>
                  go_region_law (first
                    | (go_simp; go_at_call 46; refine (HNe3.out _ P10d.cs.rd).mono ?_; rintro _ w8 ⟨rfl, hR8, hg8⟩; have P11 := P10d.draw hR8 hg8; have c8 := P11.box.c2; obtain ⟨d8, f8⟩ := P11.cell hq26; rw [ex2] at d8; have P12 := P11.put hq26 y2; go_wp2_with fail))
                  all_goals exact CutQ.mk rfl P12
                intro W12 PE
                clear P10 P10d c2 d1 d2 HNe3
                generalize args1.set q2 y2 = args2 at *
                have HGE : Hid (goC l (N - (i + 1)) (i + 1) ((os ++ [((⟨ar, nr, args2⟩ : C), Value.slice (some ⟨g, 0, none⟩) 6 cp)]).map Prod.fst) j2 = RES) := by
                  unfold Hid; rw [hf2, List.map_append]; exact HG6.out
                have HO2 := HOE.out args2 HO3.out
                have HL2 := HLE.out args2
                clear HG6 HO3 HN HNe ex2 HX2
                clear HX1 ex1 W8
                generalize args1 = argsO at *
                generalize args2 = args1 at *
                generalize j1 = jO at *
                generalize j2 = j1 at *
                generalize W12 = W8 at *
              all_goals
                have hrow2 := HrowE.out PE
                have hbz := PE.cs.gr.size
                obtain ⟨_, c0, c1, c2, _, _, _⟩ := PE.box
                clear HrowE HOE HLE
                go_wp2_with (at_builtin; refine wpList_append_own _ rfl (.tmp 82) (.tmp 84) 24 rfl (w.heap.size) 34 i0 _ 3 32 Tryd.underlying24 hi0 hz0 hz1 hz2 rfl (by decide) _ _ _ rfl (hrow2.alloc _) ⟨W8.heap.size, 0, none⟩ 1 1 (cC (⟨ar, nr, args1⟩, .slice (some ⟨g, 0, none⟩) 6 cp)) rfl rfl ?c1 (cC_one rfl) ?c3 ?c4 ?c5 ?_)
                case c1 =>
                  intro t u ht
                  first
                    | (rw [add_at, World.cell?_alloc_at _ _ _ _ (by simp)]; simpa [cC] using ht)
                    | (simpa [cC] using ht)
                case c3 => unfold maxLen; omega
                case c4 => omega
                case c5 => first | omega | (simp; omega)
                intro vz wz ow gr _
                have S9 := PE.cs.push (p := (⟨ar, nr, args1⟩, .slice (some ⟨g, 0, none⟩) 6 cp)) PE.own gr (ownsP_snoc (by rw [HNN.out]) ow)
                clear ow gr PE hrow2 c0 c1 c2
                go_wp2
                go_roundw
                case rel => exact ⟨_, i + 1, j1, _, rfl, by go_num, by omega, S9, HO2, HL2, HGE⟩
                case measure => simp [intOf]; omega
      · have hres : (os.map Prod.fst, jj) = RES := by have := HG1.out; rw [if_neg hin] at this; exact this
        have hle := hmin.2 (by omega)
        have hi2' : ¬ (i : Int) < 2 := by omega
        subst hres
        clear HG1 hmin HN HCd HCp HNe
        go_wp2_with fail
        refine (HLf.out _ _ S.rd).mono ?_
        rintro _ w2 ⟨rfl, hR2, hg2⟩
        have S2 := S.draw hR2 hg2
        clear hR2 hg2 S HLf
        rw [hle]
        go_wp2
        go_ret
        exact ⟨_, rfl, os, rfl, S2⟩
    · obtain rfl : i = N := by omega
      have hres : (os.map Prod.fst, jj) = RES := by have := HG.out; rw [Nat.sub_self] at this; exact this
      subst hres
      clear HG HN HCd HCp HNe HLf
      go_wp2
      go_ret
      exact ⟨_, rfl, os, rfl, S⟩
end Go.Proofs.YtjbbiailhpkdeaaDoor
