/-
  CONTRACTS of drawing two conditions: what lies where.
-/
import Derived.Test.YtjkmcdgjhfiklaaDrawC
import Derived.Test.YtjkmcdgjhfiklaaDrawE
namespace Go.Proofs.Ytjkmcdgjhfiklaa
open Go.RowKit
set_option linter.unusedVariables false

/-- a box with some condition in it -/
def SomeK (w : World) (G : Nat) : Prop := ∃ k a b : Int, (-9223372036854775808 ≤ k ∧ k ≤ 9223372036854775807) ∧ isU a ∧ isU b ∧ BoxK w G (.int .i64 k) (.int .u64 a) (.int .u64 b)
theorem SomeK.keep {w w1 : World} {G : Nat} (h : SomeK w G) (hb : Below w.heap.size w w1) : SomeK w1 G := by
  obtain ⟨k, a, b, hk, ha, hb', X⟩ := h; exact ⟨k, a, b, hk, ha, hb', X.keep hb⟩
theorem SomeK.grown {w w1 : World} {G : Nat} {row : Option Nat} (h : SomeK w G) (hg : w.grownBy w1 row) (hne : some G ≠ row) : SomeK w1 G := by
  obtain ⟨k, a, b, hk, ha, hb', X⟩ := h; exact ⟨k, a, b, hk, ha, hb', X.grown hg hne⟩
theorem SomeK.set {w : World} {G : Nat} {k a b : Int} (h : SomeK w G) (hk : -9223372036854775808 ≤ k ∧ k ≤ 9223372036854775807) (ha : isU a) (hb : isU b) : SomeK (((w.setCell ⟨G, 0, none⟩ (.int .i64 k)).setCell ⟨G, 1, none⟩ (.int .u64 a)).setCell ⟨G, 2, none⟩ (.int .u64 b)) G := by
  obtain ⟨k', a', b', _, _, _, X⟩ := h; exact ⟨k, a, b, hk, ha, hb, X.set3 _ _ _⟩
theorem SomeK.new (w : World) {k a b : Int} (hk : -9223372036854775808 ≤ k ∧ k ≤ 9223372036854775807) (ha : isU a) (hb : isU b) (t : TypeId) : SomeK (w.alloc (.cells #[.int .i64 k, .int .u64 a, .int .u64 b] t)) w.heap.size := ⟨k, a, b, hk, ha, hb, BoxK.new w t _ _ _⟩

/-- in the midst of drawing two conditions -/
structure DW (w : World) (R A B : Nat) (w' : World) : Prop where
  rd : Rdr w' R
  bl : Below w.heap.size w w'
  g0 : BoxK w' w.heap.size (.int .i64 0) (.int .u64 0) (.int .u64 0)
  g1 : BoxK w' (w.heap.size + 1) (.int .i64 0) (.int .u64 0) (.int .u64 0)
  ab : SomeK w' A
  bb : SomeK w' B
/-- the blocks, one behind another -/
structure Ord4 (n R A B : Nat) : Prop where
  r : n + 2 ≤ R
  a : R < A
  b : A < B

theorem below_grown {n : Nat} {w w1 w2 : World} {q : Nat} (h : Below n w w1) (hg : w1.grownBy w2 (some q)) (hq : n ≤ q) (hn : n ≤ w1.heap.size) : Below n w w2 :=
  ⟨hg.os.trans h.os, hg.tape.trans h.tape, hg.output.trans h.output, Nat.le_trans h.size hg.size, fun k hk => by
    rw [hg.block k (by omega) (by simp; omega)]; exact h.block k hk⟩

theorem DW.step {w w1 w2 : World} {R A B : Nat} (h : DW w R A B w1) (o : Ord4 w.heap.size R A B) (d : Dr w1 R w2) : DW w R A B w2 := by
  obtain ⟨h1, h2, h3⟩ := o
  exact ⟨d.rd, below_grown h.bl d.gr (by omega) h.bl.size, h.g0.grown d.gr (by simp; omega), h.g1.grown d.gr (by simp; omega), h.ab.grown d.gr (by simp; omega), h.bb.grown d.gr (by simp; omega)⟩
theorem DW.below {w w1 w2 : World} {R A B : Nat} (h : DW w R A B w1) (hb : Below w1.heap.size w1 w2) : DW w R A B w2 :=
  ⟨h.rd.below hb, h.bl.trans (hb.mono h.bl.size), h.g0.keep hb, h.g1.keep hb, h.ab.keep hb, h.bb.keep hb⟩
theorem DW.setA {w w1 : World} {R A B : Nat} {k a b : Int} (h : DW w R A B w1) (o : Ord4 w.heap.size R A B) (hk : -9223372036854775808 ≤ k ∧ k ≤ 9223372036854775807) (ha : isU a) (hb : isU b) :
    DW w R A B (((w1.setCell ⟨A, 0, none⟩ (.int .i64 k)).setCell ⟨A, 1, none⟩ (.int .u64 a)).setCell ⟨A, 2, none⟩ (.int .u64 b)) := by
  obtain ⟨h1, h2, h3⟩ := o
  have g := grown_set3 w1 A (.int .i64 k) (.int .u64 a) (.int .u64 b)
  exact ⟨h.rd.own g (by omega : R < A) (fun q hq => by simp at hq; omega), below_grown h.bl g (by omega) h.bl.size, h.g0.grown g (by simp; omega), h.g1.grown g (by simp; omega), h.ab.set hk ha hb, h.bb.grown g (by simp; omega)⟩
theorem DW.setB {w w1 : World} {R A B : Nat} {k a b : Int} (h : DW w R A B w1) (o : Ord4 w.heap.size R A B) (hk : -9223372036854775808 ≤ k ∧ k ≤ 9223372036854775807) (ha : isU a) (hb : isU b) :
    DW w R A B (((w1.setCell ⟨B, 0, none⟩ (.int .i64 k)).setCell ⟨B, 1, none⟩ (.int .u64 a)).setCell ⟨B, 2, none⟩ (.int .u64 b)) := by
  obtain ⟨h1, h2, h3⟩ := o
  have g := grown_set3 w1 B (.int .i64 k) (.int .u64 a) (.int .u64 b)
  exact ⟨h.rd.own g (by omega : R < B) (fun q hq => by simp at hq; omega), below_grown h.bl g (by omega) h.bl.size, h.g0.grown g (by simp; omega), h.g1.grown g (by simp; omega), h.ab.grown g (by simp; omega), h.bb.set hk ha hb⟩

/-- two conditions answered -/
def TwoP (w : World) (e : Ending) (w' : World) : Prop := ∃ k a b k' a' b' : Int, ((-9223372036854775808 ≤ k ∧ k ≤ 9223372036854775807) ∧ isU a ∧ isU b) ∧ ((-9223372036854775808 ≤ k' ∧ k' ≤ 9223372036854775807) ∧ isU a' ∧ isU b') ∧
  e = .returned (.tuple #[.agg #[.int .i64 k, .int .u64 a, .int .u64 b], .agg #[.int .i64 k', .int .u64 a', .int .u64 b']]) ∧ Below w.heap.size w w'
theorem TwoP.mk {w w' : World} {k a b k' a' b' : Int} (h : (-9223372036854775808 ≤ k ∧ k ≤ 9223372036854775807) ∧ isU a ∧ isU b) (h' : (-9223372036854775808 ≤ k' ∧ k' ≤ 9223372036854775807) ∧ isU a' ∧ isU b') (hb : Below w.heap.size w w') :
    TwoP w (.returned (.tuple #[.agg #[.int .i64 k, .int .u64 a, .int .u64 b], .agg #[.int .i64 k', .int .u64 a', .int .u64 b']])) w' := ⟨k, a, b, k', a', b', h, h', rfl, hb⟩

theorem results_box2 {f : Func} {tmps : Array Value} {w : World} {G G' t t' : Nat} {x y z x' y' z' : Value} (hf : f.results = #[.cell t 25, .cell t' 25]) (ht : tmps[t]? = some (.pointer (some ⟨G, 0, none⟩))) (ht' : tmps[t']? = some (.pointer (some ⟨G', 0, none⟩))) (X : BoxK w G x y z) (X' : BoxK w G' x' y' z') :
    (results f tmps).run Try.prog w = .ok (.tuple #[.agg #[x, y, z], .agg #[x', y', z']]) w := by
  obtain ⟨_, c0, c1, c2, _, _, _⟩ := X
  obtain ⟨_, d0, d1, d2, _, _, _⟩ := X'
  simp [results, hf, go_sem, ht, ht', c0, c1, c2, d0, d1, d2]

/-- the two answers stored, in either order -/
theorem DW.end1 {w w1 : World} {R A B : Nat} (h : DW w R A B w1) (x y z x' y' z' : Value) :
    BoxK ((((((w1.setCell ⟨w.heap.size, 0, none⟩ x).setCell ⟨w.heap.size, 1, none⟩ y).setCell ⟨w.heap.size, 2, none⟩ z).setCell ⟨w.heap.size + 1, 0, none⟩ x').setCell ⟨w.heap.size + 1, 1, none⟩ y').setCell ⟨w.heap.size + 1, 2, none⟩ z') w.heap.size x y z ∧
    BoxK ((((((w1.setCell ⟨w.heap.size, 0, none⟩ x).setCell ⟨w.heap.size, 1, none⟩ y).setCell ⟨w.heap.size, 2, none⟩ z).setCell ⟨w.heap.size + 1, 0, none⟩ x').setCell ⟨w.heap.size + 1, 1, none⟩ y').setCell ⟨w.heap.size + 1, 2, none⟩ z') (w.heap.size + 1) x' y' z' ∧
    Below w.heap.size w ((((((w1.setCell ⟨w.heap.size, 0, none⟩ x).setCell ⟨w.heap.size, 1, none⟩ y).setCell ⟨w.heap.size, 2, none⟩ z).setCell ⟨w.heap.size + 1, 0, none⟩ x').setCell ⟨w.heap.size + 1, 1, none⟩ y').setCell ⟨w.heap.size + 1, 2, none⟩ z') :=
  ⟨(h.g0.set3 x y z).grown (grown_set3 _ _ _ _ _) (by simp), (h.g1.grown (grown_set3 _ _ _ _ _) (by simp)).set3 _ _ _, below_set3 (below_set3 h.bl (Nat.le_refl _) _ _ _) (by omega) _ _ _⟩
theorem DW.end2 {w w1 : World} {R A B : Nat} (h : DW w R A B w1) (x y z x' y' z' : Value) :
    BoxK ((((((w1.setCell ⟨w.heap.size + 1, 0, none⟩ x').setCell ⟨w.heap.size + 1, 1, none⟩ y').setCell ⟨w.heap.size + 1, 2, none⟩ z').setCell ⟨w.heap.size, 0, none⟩ x).setCell ⟨w.heap.size, 1, none⟩ y).setCell ⟨w.heap.size, 2, none⟩ z) w.heap.size x y z ∧
    BoxK ((((((w1.setCell ⟨w.heap.size + 1, 0, none⟩ x').setCell ⟨w.heap.size + 1, 1, none⟩ y').setCell ⟨w.heap.size + 1, 2, none⟩ z').setCell ⟨w.heap.size, 0, none⟩ x).setCell ⟨w.heap.size, 1, none⟩ y).setCell ⟨w.heap.size, 2, none⟩ z) (w.heap.size + 1) x' y' z' ∧
    Below w.heap.size w ((((((w1.setCell ⟨w.heap.size + 1, 0, none⟩ x').setCell ⟨w.heap.size + 1, 1, none⟩ y').setCell ⟨w.heap.size + 1, 2, none⟩ z').setCell ⟨w.heap.size, 0, none⟩ x).setCell ⟨w.heap.size, 1, none⟩ y).setCell ⟨w.heap.size, 2, none⟩ z) :=
  ⟨(h.g0.grown (grown_set3 _ _ _ _ _) (by simp)).set3 _ _ _, (h.g1.set3 x' y' z').grown (grown_set3 _ _ _ _ _) (by simp), below_set3 (below_set3 h.bl (by omega) _ _ _) (Nat.le_refl _) _ _ _⟩

/-- valid or not: whatever -/
theorem conOK_gen (k a b : Int) (w : World) (hk : -9223372036854775808 ≤ k ∧ k ≤ 9223372036854775807) (ha : isU a) (hb : isU b) :
    Calls Try.prog 34 #[.agg #[.int .i64 k, .int .u64 a, .int .u64 b]] w fun e w' => ∃ V, e = .returned (.bool V) ∧ Below w.heap.size w w' := by
  have e : (.agg #[.int .i64 k, .int .u64 a, .int .u64 b] : Value) = conV ⟨k, a.toNat, b.toNat⟩ := by
    unfold isU at ha hb
    simp only [conV]
    rw [Int.toNat_of_nonneg ha.1, Int.toNat_of_nonneg hb.1]
  rw [e]
  unfold isU at ha hb
  refine (l3conOK_any ⟨k, a.toNat, b.toNat⟩ w ⟨hk, by simp only; omega, by simp only; omega⟩).mono ?_
  rintro _ w' ⟨rfl, h⟩
  exact ⟨_, rfl, h⟩
end Go.Proofs.Ytjkmcdgjhfiklaa
