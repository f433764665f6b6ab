/-
  ITEMS: where they lie; CONTRACTS of the law's copies, comparisons and marks of items.
-/
import Derived.Test.YtioabdfddjmabaaPolT
import Derived.Test.YtioabdfddjmabaaMark
import Derived.Test.YtioabdfddjmabaaLeaf
namespace Go.Proofs.Ytioabdfddjmabaa
open Go.RowKit
set_option linter.unusedVariables false

structure It where
  kind : Int
  ins : I
  target : Int
def It.zero : It := ⟨0, I.zero, 0⟩
def It.ok (x : It) : Prop := x.ins.ok ∧ (-9223372036854775808 ≤ x.kind ∧ x.kind ≤ 9223372036854775807) ∧ (-9223372036854775808 ≤ x.target ∧ x.target ≤ 9223372036854775807)
abbrev itV (x : It) : Value := .agg #[.int .i64 x.kind, .int .u16 x.ins.c, .int .u8 x.ins.jt, .int .u8 x.ins.jf, .int .u32 x.ins.k, .int .i64 x.target]
def itC (x : It) : List Value := [.int .i64 x.kind, .int .u16 x.ins.c, .int .u8 x.ins.jt, .int .u8 x.ins.jf, .int .u32 x.ins.k, .int .i64 x.target]
def itCs (l : List It) : List Value := l.flatMap itC
/-- one item at an address -/
def PI (w : World) (b o : Nat) (x : It) : Prop := w.cell? ⟨b, o, none⟩ = some (.int .i64 x.kind) ∧ w.cell? ⟨b, o + 1, none⟩ = some (.int .u16 x.ins.c) ∧ w.cell? ⟨b, o + 2, none⟩ = some (.int .u8 x.ins.jt) ∧ w.cell? ⟨b, o + 3, none⟩ = some (.int .u8 x.ins.jf) ∧ w.cell? ⟨b, o + 4, none⟩ = some (.int .u32 x.ins.k) ∧ w.cell? ⟨b, o + 5, none⟩ = some (.int .i64 x.target)
theorem PI.stays : Stays PI := fun w w' b o x hlt hb ⟨h0, h1, h2, h3, h4, h5⟩ => ⟨(hb.cell (p := ⟨b, _, none⟩) hlt).trans h0, (hb.cell (p := ⟨b, _, none⟩) hlt).trans h1, (hb.cell (p := ⟨b, _, none⟩) hlt).trans h2, (hb.cell (p := ⟨b, _, none⟩) hlt).trans h3, (hb.cell (p := ⟨b, _, none⟩) hlt).trans h4, (hb.cell (p := ⟨b, _, none⟩) hlt).trans h5⟩
theorem PI.apart (D : Nat) : Apart 6 D PI := fun w o x c v h hc => ⟨cell_near (by omega) h.1, cell_near (by omega) h.2.1, cell_near (by omega) h.2.2.1, cell_near (by omega) h.2.2.2.1, cell_near (by omega) h.2.2.2.2.1, cell_near (by omega) h.2.2.2.2.2⟩
theorem itCs_len (l : List It) : (itCs l).length = l.length * 6 := by
  induction l with
  | nil => rfl
  | cons x l ih => simp only [itCs, List.flatMap_cons, List.length_append, List.length_cons] at *; simp only [itC, List.length_cons, List.length_nil]; omega
theorem itCs_get (l : List It) (i : Nat) (h : i < l.length) (f : Nat) (hf : f < 6) : (itCs l)[i * 6 + f]? = (itC l[i])[f]? := by
  induction l generalizing i with
  | nil => simp at h
  | cons x p ih =>
    have e : itCs (x :: p) = itC x ++ itCs p := by simp [itCs]
    have hl : (itC x).length = 6 := rfl
    rw [e]
    match i with
    | 0 =>
      rw [Nat.zero_mul, Nat.zero_add, List.getElem?_append_left (by rw [hl]; exact hf)]; rfl
    | i + 1 =>
      have hi : i < p.length := by simpa using h
      rw [List.getElem?_append_right (by rw [hl]; omega), hl, show (i + 1) * 6 + f - 6 = i * 6 + f by omega, ih i hi]
      rfl
/-- a row of items of one's own -/
abbrev ownsT (w : World) (B : Nat) (v : Value) (l : List It) : Prop := w.ownsRow B 40 6 v l.length (itCs l)
abbrev TSrc (w : World) (a : Option Addr) (l : List It) : Prop := LSrc 6 PI w a l
theorem ownsT_below {w w1 : World} {B : Nat} {v : Value} {l : List It} (h : ownsT w B v l) (hb : Below w.heap.size w w1) : ownsT w1 B v l :=
  World.ownsRow.kept (row := none) h ⟨hb.os, hb.tape, hb.output, hb.size, fun k hk _ => hb.block k hk⟩ (by cases v.ownBlock <;> simp)
theorem ownsT_src {w : World} {B : Nat} {v : Value} {l : List It} (h : ownsT w B v l) : ∃ a cap, v = .slice a l.length cap ∧ l.length ≤ cap ∧ TSrc w a l := by
  have h0 := h
  obtain ⟨_, ⟨rfl, hl⟩ | ⟨g, cap, cur, rfl, hb, hgc, hn, hm, hs, hx⟩⟩ := h
  · have : l = [] := List.eq_nil_of_length_eq_zero hl
    subst this
    exact ⟨none, 0, rfl, Nat.le_refl _, .inl rfl⟩
  · refine ⟨_, _, rfl, hn, .inr ⟨g, 0, rfl, (Array.getElem?_eq_some_iff.1 hgc).1, fun i hi => ?_⟩⟩
    have key : ∀ f, f < 6 → w.cell? ⟨g, 0 + i * 6 + f, none⟩ = (itC l[i])[f]? := fun f hf => by
      rw [Nat.zero_add, World.ownsRow.cellAt h0 (i * 6 + f) (by omega), itCs_get l i hi f hf]
    exact ⟨key 0 (by omega), key 1 (by omega), key 2 (by omega), key 3 (by omega), key 4 (by omega), key 5 (by omega)⟩
theorem infoItem : (Try.prog.info? 40).map (fun i => (i.zero, i.size, i.bytes)) = some (some (.agg #[.int .i64 0, .int .u16 0, .int .u8 0, .int .u8 0, .int .u32 0, .int .i64 0]), 6, 24) := by kernel_rfl

theorem below_set4' {B : Nat} {W w : World} (h : Below B W w) {D : Nat} (hD : B ≤ D) (o : Nat) (a b c d : Value) : Below B W ((((w.setCell ⟨D, o, none⟩ a).setCell ⟨D, o + 1, none⟩ b).setCell ⟨D, o + 2, none⟩ c).setCell ⟨D, o + 3, none⟩ d) := (((h.setCell (p := ⟨D, _, none⟩) hD _).setCell (p := ⟨D, _, none⟩) hD _).setCell (p := ⟨D, _, none⟩) hD _).setCell (p := ⟨D, _, none⟩) hD _
theorem below_set6i {B : Nat} {W w : World} (h : Below B W w) {D : Nat} (hD : B ≤ D) (o : Nat) (a b c d e f : Value) : Below B W ((((((w.setCell ⟨D, o, none⟩ a).setCell ⟨D, o + 1, none⟩ b).setCell ⟨D, o + 2, none⟩ c).setCell ⟨D, o + 3, none⟩ d).setCell ⟨D, o + 4, none⟩ e).setCell ⟨D, o + 5, none⟩ f) := (((((h.setCell (p := ⟨D, _, none⟩) hD _).setCell (p := ⟨D, _, none⟩) hD _).setCell (p := ⟨D, _, none⟩) hD _).setCell (p := ⟨D, _, none⟩) hD _).setCell (p := ⟨D, _, none⟩) hD _).setCell (p := ⟨D, _, none⟩) hD _
/-- a box of six cells -/
structure Box6 (w : World) (g : Nat) (x0 x1 x2 x3 x4 x5 : Value) : Prop where
  lt : g < w.heap.size
  c0 : w.cell? ⟨g, 0, none⟩ = some x0
  c1 : w.cell? ⟨g, 1, none⟩ = some x1
  c2 : w.cell? ⟨g, 2, none⟩ = some x2
  c3 : w.cell? ⟨g, 3, none⟩ = some x3
  c4 : w.cell? ⟨g, 4, none⟩ = some x4
  c5 : w.cell? ⟨g, 5, none⟩ = some x5
  f : ∀ i, w.frozen? ⟨g, i, none⟩ = false
theorem Box6.new (w : World) (t : TypeId) (x0 x1 x2 x3 x4 x5 : Value) : Box6 (w.alloc (.cells #[x0, x1, x2, x3, x4, x5] t)) w.heap.size x0 x1 x2 x3 x4 x5 := ⟨by simp, by simp, by simp, by simp, by simp, by simp, by simp, by simp⟩
theorem Box6.keep {w w1 : World} {g : Nat} {x0 x1 x2 x3 x4 x5 : Value} (h : Box6 w g x0 x1 x2 x3 x4 x5) (hb : Below w.heap.size w w1) : Box6 w1 g x0 x1 x2 x3 x4 x5 :=
  ⟨Nat.lt_of_lt_of_le h.lt hb.size, (hb.cell (p := ⟨g, _, none⟩) h.lt).trans h.c0, (hb.cell (p := ⟨g, _, none⟩) h.lt).trans h.c1, (hb.cell (p := ⟨g, _, none⟩) h.lt).trans h.c2, (hb.cell (p := ⟨g, _, none⟩) h.lt).trans h.c3, (hb.cell (p := ⟨g, _, none⟩) h.lt).trans h.c4, (hb.cell (p := ⟨g, _, none⟩) h.lt).trans h.c5, fun i => (hb.frozen (p := ⟨g, i, none⟩) h.lt).trans (h.f i)⟩

set_option maxRecDepth 100000 in
set_option maxHeartbeats 1000000 in
theorem toItem_any (x : It) (w : World) :
    Calls Try.prog 15 #[itV x] w fun e w' => e = .returned (itV x) ∧ Below w.heap.size w w' := by
  obtain ⟨kd, ⟨c, jt, jf, k⟩, tg⟩ := x
  have HC : Hid (∀ w1, Calls Try.prog 25 #[insV c jt jf k] w1 fun e w' => e = .returned (insV c jt jf k) ∧ Below w1.heap.size w1 w') := fun w1 => toIns_any c jt jf k w1
  simp only [itV]
  go_enter Try.func15, Try.ntmps15
  go_wp2_with fail
  have O := ((Box6.new w 44 (.int .i64 kd) (.int .u16 c) (.int .u8 jt) (.int .u8 jf) (.int .u32 k) (.int .i64 tg)).keep ((Below.refl _ _).alloc (Nat.le_refl _) (.cells #[.int .i64 0, .int .u16 0, .int .u8 0, .int .u8 0, .int .u32 0, .int .i64 0] 40))).keep ((Below.refl _ _).alloc (Nat.le_refl _) (.cells #[.int .i64 kd, .int .u16 0, .int .u8 0, .int .u8 0, .int .u32 0, .int .i64 0] 40))
  have P := (Box6.new (w.alloc (.cells #[.int .i64 kd, .int .u16 c, .int .u8 jt, .int .u8 jf, .int .u32 k, .int .i64 tg] 44)) 40 (.int .i64 0) (.int .u16 0) (.int .u8 0) (.int .u8 0) (.int .u32 0) (.int .i64 0)).keep ((Below.refl _ _).alloc (Nat.le_refl _) (.cells #[.int .i64 kd, .int .u16 0, .int .u8 0, .int .u8 0, .int .u32 0, .int .i64 0] 40))
  have Q := Box6.new ((w.alloc (.cells #[.int .i64 kd, .int .u16 c, .int .u8 jt, .int .u8 jf, .int .u32 k, .int .i64 tg] 44)).alloc (.cells #[.int .i64 0, .int .u16 0, .int .u8 0, .int .u8 0, .int .u32 0, .int .i64 0] 40)) 40 (.int .i64 kd) (.int .u16 0) (.int .u8 0) (.int .u8 0) (.int .u32 0) (.int .i64 0)
  have hs1 : (w.alloc (.cells #[.int .i64 kd, .int .u16 c, .int .u8 jt, .int .u8 jf, .int .u32 k, .int .i64 tg] 44)).heap.size = w.heap.size + 1 := by simp
  have hs2 : ((w.alloc (.cells #[.int .i64 kd, .int .u16 c, .int .u8 jt, .int .u8 jf, .int .u32 k, .int .i64 tg] 44)).alloc (.cells #[.int .i64 0, .int .u16 0, .int .u8 0, .int .u8 0, .int .u32 0, .int .i64 0] 40)).heap.size = w.heap.size + 1 + 1 := by simp
  rw [hs1] at P
  rw [hs2] at Q
  have B0 : Below w.heap.size w (((w.alloc (.cells #[.int .i64 kd, .int .u16 c, .int .u8 jt, .int .u8 jf, .int .u32 k, .int .i64 tg] 44)).alloc (.cells #[.int .i64 0, .int .u16 0, .int .u8 0, .int .u8 0, .int .u32 0, .int .i64 0] 40)).alloc (.cells #[.int .i64 kd, .int .u16 0, .int .u8 0, .int .u8 0, .int .u32 0, .int .i64 0] 40)) := (((Below.refl _ _).alloc (Nat.le_refl _) _).alloc (by simp) _).alloc (by simp; omega) _
  generalize (((w.alloc (.cells #[.int .i64 kd, .int .u16 c, .int .u8 jt, .int .u8 jf, .int .u32 k, .int .i64 tg] 44)).alloc (.cells #[.int .i64 0, .int .u16 0, .int .u8 0, .int .u8 0, .int .u32 0, .int .i64 0] 40)).alloc (.cells #[.int .i64 kd, .int .u16 0, .int .u8 0, .int .u8 0, .int .u32 0, .int .i64 0] 40)) = W at *
  clear hs1 hs2
  refine (HC.out _).mono ?_
  rintro _ w1 ⟨rfl, hb1⟩
  have B1 := below_step hb1 B0
  obtain ⟨ol, o0, o1, o2, o3, o4, o5, of⟩ := O.keep hb1
  obtain ⟨pl, p0, p1, p2, p3, p4, p5, pf⟩ := P.keep hb1
  obtain ⟨ql, q0, q1, q2, q3, q4, q5, qf⟩ := Q.keep hb1
  have qf0 := qf 0
  have qf1 := qf 1
  have qf2 := qf 2
  have qf3 := qf 3
  have qf4 := qf 4
  have qf5 := qf 5
  have pf0 := pf 0
  have pf1 := pf 1
  have pf2 := pf 2
  have pf3 := pf 3
  have pf4 := pf 4
  have pf5 := pf 5
  clear O P Q hb1 B0 HC of pf qf
  go_wp2
  refine bodyPost_ret (v := .agg #[.int .i64 kd, .int .u16 c, .int .u8 jt, .int .u8 jf, .int .u32 k, .int .i64 tg]) (by simp [results, Try.results15, go_sem, p0, p1, p2, p3, p4, p5]) rfl ⟨rfl, ?_⟩
  exact below_set6i ((below_set4' B1 (show w.heap.size ≤ w.heap.size + 1 + 1 by omega) 1 _ _ _ _).setCell (p := ⟨w.heap.size + 1 + 1, 5, none⟩) (show w.heap.size ≤ w.heap.size + 1 + 1 by omega) _) (show w.heap.size ≤ w.heap.size + 1 by omega) 0 _ _ _ _ _ _
end Go.Proofs.Ytioabdfddjmabaa
