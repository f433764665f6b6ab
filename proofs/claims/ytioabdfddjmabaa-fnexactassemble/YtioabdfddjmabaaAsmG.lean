/-
  THE PROGRAM's LAYOUT: what it holds; CONTRACTS of its leaves.
-/
import Derived.Test.YtioabdfddjmabaaAsmF
import Derived.RangeFuncWrites
import Derived.RangeFuncCalls
import Derived.Maps.OwnSet
import Derived.Deep.AppendLies
import Derived.Deep.RegionLaw
namespace Go.Proofs.Ytioabdfddjmabaa
open Go.RowKit
set_option linter.unusedVariables false

/-- cells of other kinds stay -/
def FarT (w w' : World) : Prop := ∀ (q : Nat) (c : Array Value) (t : TypeId) (f : Nat × Nat), w.heap[q]? = some (.cells c t f) → t ≠ 38 → t ≠ 59 → w'.heap[q]? = some (.cells c t f)
theorem FarT.of_below {w w' : World} (h : Below w.heap.size w w') : FarT w w' := fun q c t f hq _ _ => (h.block q (Array.getElem?_eq_some_iff.1 hq).1).trans hq
/-- what lay below stays, and all that is no cells, and cells of other kinds -/
structure KB (B : Nat) (w w' : World) : Prop where
  b : Below B w w'
  k : KeepsOthers w w'
  f : FarT w w'
theorem KB.refl (B : Nat) (w : World) : KB B w w := ⟨Below.refl _ _, KeepsOthers.refl _, fun _ _ _ _ h _ _ => h⟩
theorem KB.trans {B : Nat} {a b c : World} (h : KB B a b) (k : KB B b c) : KB B a c := ⟨h.b.trans k.b, h.k.trans k.k, fun q cc t f h0 h1 h2 => k.f q cc t f (h.f q cc t f h0 h1 h2) h1 h2⟩
theorem KB.alloc {B : Nat} {a b : World} (h : KB B a b) (hB : B ≤ b.heap.size) (o : Obj) : KB B a (b.alloc o) := h.trans ⟨(Below.refl _ _).alloc hB o, KeepsOthers.alloc _ _, FarT.of_below ((Below.refl _ _).alloc (Nat.le_refl _) o)⟩
theorem KB.drew {B : Nat} {a b : World} (h : KB B a b) : KB B a b.drew := h.trans ⟨(Below.refl _ _).drew, KeepsOthers.drew _, FarT.of_below (Below.refl _ _).drew⟩
theorem KB.mono {B B' : Nat} {a b : World} (h : KB B a b) (hB : B' ≤ B) : KB B' a b := ⟨h.b.mono hB, h.k, h.f⟩
theorem own_cells {w : World} {B e s n : Nat} {v : Value} {xs : List Value} (h : w.ownsRow B e s v n xs) (j : Nat) (o : Obj) (hj : v.ownBlock = some j) (ho : w.heap[j]? = some o) : o.isCells = true := by
  obtain ⟨_, ⟨rfl, _⟩ | ⟨g, cap, cur, rfl, hb, hgc, _⟩⟩ := h
  · cases hj
  · have : g = j := by simpa [Value.ownBlock] using hj
    subst this
    rw [hgc] at ho; cases ho; rfl

theorem own_type {w : World} {B e s n q : Nat} {v : Value} {xs : List Value} (h : w.ownsRow B e s v n xs) (hj : v.ownBlock = some q) {c : Array Value} {t : TypeId} {f : Nat × Nat} (hq : w.heap[q]? = some (.cells c t f)) : t = e := by
  obtain ⟨_, ⟨rfl, _⟩ | ⟨g, cap, cur, rfl, hb, hgc, _⟩⟩ := h
  · cases hj
  · have : g = q := by simpa [Value.ownBlock] using hj
    subst this
    rw [hgc] at hq; cases hq; rfl
/-- what the map of places holds -/
def MapI (w : World) (Bm n : Nat) (m : Mk) : Prop := ∃ D : DataW Unit, w.ownsMap Try.prog 3 (plainElem Try.prog 3) Bm n D ∧
  (∀ t, (Lit.int .i64 t).wf = true → m t = none → Maps.has D (.int .i64 t) = false) ∧ (∀ t a, m t = some a → Maps.has D (.int .i64 t) = true ∧ ∀ z, D.atKey (.int .i64 t) z = .lit (.int .i64 (a : Int)))

/-- a layout at L, its map at Bm -/
structure LayS (w : World) (L Bm n : Nat) (v : Value) (p : List I) (m : Mk) : Prop where
  bm : Bm < L
  c0 : w.cell? ⟨L, 0, none⟩ = some v
  c1 : w.cell? ⟨L, 1, none⟩ = some (.map (some Bm))
  f0 : w.frozen? ⟨L, 0, none⟩ = false
  ty : ∃ c f, w.heap[L]? = some (.cells c 59 f)
  own : ownsI w (L + 1) v p
  mp : MapI w Bm n m
theorem LayS.lt {w : World} {L Bm n : Nat} {v : Value} {p : List I} {m : Mk} (h : LayS w L Bm n v p m) : L < w.heap.size := cell_ltK h.c0
theorem LayS.keep {w w' : World} {L Bm n : Nat} {v : Value} {p : List I} {m : Mk} (h : LayS w L Bm n v p m) (hb : Below w.heap.size w w') : LayS w' L Bm n v p m := by
  obtain ⟨D, h1, h2, h3⟩ := h.mp
  exact ⟨h.bm, (hb.cell (p := ⟨L, 0, none⟩) h.lt).trans h.c0, (hb.cell (p := ⟨L, 1, none⟩) h.lt).trans h.c1, (hb.frozen (p := ⟨L, 0, none⟩) h.lt).trans h.f0, (by obtain ⟨c, f, e⟩ := h.ty; exact ⟨c, f, (hb.block L h.lt).trans e⟩), ownsI_below h.own hb, D, h1.kept (row := none) ⟨hb.os, hb.tape, hb.output, hb.size, fun k hk _ => hb.block k hk⟩ (by simp), h2, h3⟩
/-- blocks but L and the row's stay -/
def FarL (L : Nat) (v : Value) (w w' : World) : Prop := ∀ q, q < w.heap.size → q ≠ L → some q ≠ v.ownBlock → w'.heap[q]? = w.heap[q]?
theorem LayS.next {w w1 : World} {L Bm n gg cap : Nat} {v : Value} {p : List I} {m : Mk} {x : I} {H : Nat} (h : LayS w L Bm n v p m)
    (hown : w1.ownsRow (L + 1) 38 4 (.slice (some ⟨gg, 0, none⟩) (p.length + 1) cap) (p.length + 1) (insCells p ++ insC x)) (hg : w.grownBy w1 v.ownBlock) :
    w1.cell? ⟨L, 0, none⟩ = some v ∧ w1.frozen? ⟨L, 0, none⟩ = false ∧ LayS (w1.setCell ⟨L, 0, none⟩ (.slice (some ⟨gg, 0, none⟩) (p.length + 1) cap)) L Bm n (.slice (some ⟨gg, 0, none⟩) (p.length + 1) cap) (p ++ [x]) m ∧ KB L w (w1.setCell ⟨L, 0, none⟩ (.slice (some ⟨gg, 0, none⟩) (p.length + 1) cap)) ∧ FarL L v w (w1.setCell ⟨L, 0, none⟩ (.slice (some ⟨gg, 0, none⟩) (p.length + 1) cap)) := by
  have hlt := h.lt
  have ne : some L ≠ v.ownBlock := fun e => by have := (h.own.lt L e.symm).1; omega
  have ne2 : some Bm ≠ v.ownBlock := fun e => by have := (h.own.lt Bm e.symm).1; have := h.bm; omega
  have x1 := (hg.cell_far ⟨L, 0, none⟩ hlt ne).trans h.c0
  have x2 := (hg.frozen_far ⟨L, 0, none⟩ hlt ne).trans h.f0
  have x3 := (hg.cell_far ⟨L, 1, none⟩ hlt ne).trans h.c1
  obtain ⟨D, d1, d2, d3⟩ := h.mp
  obtain ⟨cy, fy, hy⟩ := h.ty
  have x6 := (hg.block L hlt ne).trans hy
  have hB : Below L w w1 := (Below.refl L w).grown hg (Nat.le_of_lt hlt) (fun z hz => by have := (h.own.lt z hz).1; omega)
  refine ⟨x1, x2, ⟨h.bm, World.cell?_setCell_same _ _ _ x1, by rw [World.cell?_setCell_other _ _ _ _ (by intro e; injection e with e1 e2; cases e2)]; exact x3, by rw [World.frozen?_setCell]; exact x2, ⟨_, fy, by simp only [World.setCell, Array.getElem?_modify]; rw [if_pos trivial, x6]; rfl⟩, ?_, D, (d1.kept hg ne2).setCell (by have := h.bm; show Bm ≠ L; omega) _, d2, d3⟩, ⟨hB.setCell (p := ⟨L, 0, none⟩) (Nat.le_refl _) _, (KeepsOthers.of_grownBy hg (own_cells h.own)).trans (KeepsOthers.setCell _ _ _), fun q c t f hq h1 h2 => by
    have hqL : q ≠ L := fun e => by subst e; rw [hy] at hq; cases hq; exact h2 rfl
    have hqv : some q ≠ v.ownBlock := fun e => h1 (own_type h.own e.symm hq)
    rw [show (w1.setCell ⟨L, 0, none⟩ (.slice (some ⟨gg, 0, none⟩) (p.length + 1) cap)).heap[q]? = w1.heap[q]? by
      simp only [World.setCell, Array.getElem?_modify]
      rw [if_neg (fun e => hqL e.symm)]]
    exact (hg.block q (Array.getElem?_eq_some_iff.1 hq).1 hqv).trans hq⟩, fun q hq h1 h2 => by
    rw [show (w1.setCell ⟨L, 0, none⟩ (.slice (some ⟨gg, 0, none⟩) (p.length + 1) cap)).heap[q]? = w1.heap[q]? by
      simp only [World.setCell, Array.getElem?_modify]
      rw [if_neg (fun e => h1 e.symm)]]
    exact hg.block q hq h2⟩
  have o1 : ownsI w1 (L + 1) (.slice (some ⟨gg, 0, none⟩) (p.length + 1) cap) (p ++ [x]) := ownsI_snoc rfl hown
  refine ownsI_kept (row := some L) o1 ?_ (fun q hq e => by have := (o1.lt q hq).1; cases e; omega)
  refine ⟨rfl, rfl, rfl, by simp [World.setCell], fun i hi hne => ?_⟩
  simp only [World.setCell, Array.getElem?_modify]
  rw [if_neg (fun e => hne (by rw [e]))]

set_option maxRecDepth 100000 in
set_option maxHeartbeats 1000000 in
theorem testOf_any (c jt jf k : Int) (b : Bool) (n : Int) (w : World) :
    Calls Try.prog 39 #[insV c jt jf k, .bool b, .int .u8 n] w fun e w' => e = .returned (insV (tstI ⟨c, jt, jf, k⟩ b n).c (tstI ⟨c, jt, jf, k⟩ b n).jt (tstI ⟨c, jt, jf, k⟩ b n).jf (tstI ⟨c, jt, jf, k⟩ b n).k) ∧ KB w.heap.size w w' := by
  have HB : Hid (∀ o1 o2, KB w.heap.size w ((w.alloc o1).alloc o2)) := fun o1 o2 => ((KB.refl _ w).alloc (Nat.le_refl _) o1).alloc (by simp) o2
  cases b with
  | true =>
    simp only [tstI, if_true]
    go_enter Try.func39, Try.ntmps39
    go_wp2
    refine bodyPost_ret (v := insV c n 0 k) (by simp [results, Try.results39, go_sem]) rfl ⟨rfl, ?_⟩
    first | exact HB.out _ _ | skip
  | false =>
    simp only [tstI, Bool.false_eq_true, if_false]
    go_enter Try.func39, Try.ntmps39
    go_wp2
    refine bodyPost_ret (v := insV c 0 n k) (by simp [results, Try.results39, go_sem]) rfl ⟨rfl, ?_⟩
    first | exact HB.out _ _ | skip

set_option maxRecDepth 100000 in
set_option maxHeartbeats 2000000 in
theorem add_any (w : World) (L Bm n : Nat) (v : Value) (p : List I) (m : Mk) (x : I) (hS : LayS w L Bm n v p m) (hn : p.length ≤ 1000000) :
    Calls Try.prog 36 #[.pointer (some ⟨L, 0, none⟩), insV x.c x.jt x.jf x.k] w fun e w' => e = .returned (.tuple #[]) ∧ (∃ v', LayS w' L Bm n v' (p ++ [x]) m) ∧ KB L w w' ∧ FarL L v w w' := by
  obtain ⟨c, jt, jf, k⟩ := x
  simp only
  obtain ⟨i0, hi, hz0, hz1, hz2⟩ := info_parts info36
  have hbm : p.length + 1 ≤ maxLen := by unfold maxLen; omega
  have hbd : (p.length + 1) * 8 ≤ 140737488355328 := by omega
  have K0 : KB L w (w.alloc (.cells #[.int .u16 c, .int .u8 jt, .int .u8 jf, .int .u32 k] 38)).drew := (((KB.refl L w).alloc (Nat.le_of_lt hS.lt) _)).drew
  have HFr : Hid (∀ ob w', FarL L v ((w.alloc (.cells #[.int .u16 c, .int .u8 jt, .int .u8 jf, .int .u32 k] 38)).drew.alloc ob) w' → FarL L v w w') := fun ob w' h q hq h1 h2 => by
    have hb : Below w.heap.size w ((w.alloc (.cells #[.int .u16 c, .int .u8 jt, .int .u8 jf, .int .u32 k] 38)).drew.alloc ob) := (((Below.refl _ _).alloc (Nat.le_refl _) _).drew).alloc (by simp) _
    exact (h q (Nat.lt_of_lt_of_le hq hb.size) h1 h2).trans (hb.block q hq)
  have S0 := hS.keep ((Below.refl _ _).alloc (Nat.le_refl _) (.cells #[.int .u16 c, .int .u8 jt, .int .u8 jf, .int .u32 k] 38))
  have q0 : (w.alloc (.cells #[.int .u16 c, .int .u8 jt, .int .u8 jf, .int .u32 k] 38)).cell? ⟨w.heap.size, 0, none⟩ = some (.int .u16 c) := by simp
  have q1 : (w.alloc (.cells #[.int .u16 c, .int .u8 jt, .int .u8 jf, .int .u32 k] 38)).cell? ⟨w.heap.size, 1, none⟩ = some (.int .u8 jt) := by simp
  have q2 : (w.alloc (.cells #[.int .u16 c, .int .u8 jt, .int .u8 jf, .int .u32 k] 38)).cell? ⟨w.heap.size, 2, none⟩ = some (.int .u8 jf) := by simp
  have q3 : (w.alloc (.cells #[.int .u16 c, .int .u8 jt, .int .u8 jf, .int .u32 k] 38)).cell? ⟨w.heap.size, 3, none⟩ = some (.int .u32 k) := by simp
  have hc0 := S0.c0
  go_enter Try.func36, Try.ntmps36
  go_wp2_with fail
  generalize (w.alloc (.cells #[.int .u16 c, .int .u8 jt, .int .u8 jf, .int .u32 k] 38)) = W at *
  have S1 := S0.keep (Below.refl _ _).drew
  have hcd := S1.c0
  have hlt := S1.lt
  have ha : ∀ ob, (W.alloc ob).cell? ⟨L, 0, none⟩ = some v := fun ob => cell_step ((Below.refl _ _).alloc (Nat.le_refl _) ob) S0.c0
  have d0 : W.drew.cell? ⟨w.heap.size, 0, none⟩ = some (.int .u16 c) := q0
  have d1 : W.drew.cell? ⟨w.heap.size, 1, none⟩ = some (.int .u8 jt) := q1
  have d2 : W.drew.cell? ⟨w.heap.size, 2, none⟩ = some (.int .u8 jf) := q2
  have d3 : W.drew.cell? ⟨w.heap.size, 3, none⟩ = some (.int .u32 k) := q3
  go_region_law (refine step_append_lies _ (by rfl) _ _ _ (by rfl) (L + 1) 38 i0 _ 4 8 Try.underlying24 hi hz0 hz1 hz2 rfl (by omega) v p.length (insCells p) (by rfl) (S1.own.alloc _) ⟨W.heap.size, 0, none⟩ 1 1 [.int .u16 c, .int .u8 jt, .int .u8 jf, .int .u32 k] (by rfl) (by rfl) (World.news_of_block (t := 38) (fr := (0, 0)) (heap_alloc_new W.drew _)) (by simp [Value.oneCell']) (by omega) hbm hbd (by simp at hlt ⊢; omega) (W.heap.size + 1) (by simp) ?_; intro gg cap2 w1 hown1 hgrow hat hlt2; obtain ⟨x1, x2, x3, x4, x5⟩ := LayS.next (x := ⟨c, jt, jf, k⟩) (H := 0) (S1.keep ((Below.refl _ _).alloc (Nat.le_refl _) _)) hown1 hgrow)
  all_goals
    have HF : Hid _ := And.intro x3 (And.intro ((K0.trans ((KB.refl L W.drew).alloc (Nat.le_of_lt hlt) _)).trans x4) (HFr.out _ _ x5))
    clear x3 x4 x5 HFr hown1 hgrow hat hlt2 S0 S1 hS K0 q0 q1 q2 q3 hcd ha d0 d1 d2 d3
    go_wp2
    go_end0
    exact ⟨rfl, ⟨_, HF.out.1⟩, HF.out.2⟩
end Go.Proofs.Ytioabdfddjmabaa
