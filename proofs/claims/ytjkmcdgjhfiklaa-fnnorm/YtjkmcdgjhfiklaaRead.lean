/-
  THE READER of drawn bytes, and the contracts of its steps.
-/
import Derived.Test.YtjkmcdgjhfiklaaEnc
import Derived.Test.YtjkmcdgjhfiklaaMathR
import Derived.Deep.RegionWith
import Derived.Deep.DrawnRows
import Derived.Deep.RegionHeld3
namespace Go.Proofs.Ytjkmcdgjhfiklaa
open Go.RowKit
set_option linter.unusedVariables false

/-- the reader's two cells -/
def rdF (a : Option Addr) (cap : Nat) (l : List Int) (j : Nat) (i : Nat) : Value := if i = 0 then .slice a l.length cap else .int .i64 ((min j l.length : Nat) : Int)

/-- a reader in block R that has taken j of the bytes l (j goes on behind the last one, where it reads 0) -/
structure Rd (w : World) (R : Nat) (a : Option Addr) (cap : Nat) (l : List Int) (j : Nat) : Prop where
  row : w.rowIs R 112 2 (rdF a cap l j)
  src : l = [] ∨ ∃ b o, a = some ⟨b, o, none⟩ ∧ b < R ∧ BytesAt w b o l
  bys : isBytes l
  len : l.length ≤ 600
  cp : l.length ≤ cap

theorem Rd.lt {w : World} {R cap j : Nat} {a : Option Addr} {l : List Int} (h : Rd w R a cap l j) : R < w.heap.size := World.rowIs.lt h.row
theorem Rd.keep {w w1 : World} {R cap j : Nat} {a : Option Addr} {l : List Int} (h : Rd w R a cap l j) (e : ∀ k, k ≤ R → w1.heap[k]? = w.heap[k]?) : Rd w1 R a cap l j := by
  refine ⟨World.rowIs.of_block h.row (e R (Nat.le_refl _)), ?_, h.bys, h.len, h.cp⟩
  rcases h.src with h1 | ⟨b, o, h1, h2, h3⟩
  · exact .inl h1
  · exact .inr ⟨b, o, h1, h2, fun i hi => (World.cell?_of_block (w := w) (e b (by omega))).trans (h3 i hi)⟩
theorem Rd.below {w w1 : World} {R cap j : Nat} {a : Option Addr} {l : List Int} (h : Rd w R a cap l j) (hb : Below w.heap.size w w1) : Rd w1 R a cap l j :=
  h.keep (fun k hk => hb.block k (Nat.lt_of_le_of_lt hk h.lt))
theorem Rd.alloc {w : World} {R cap j : Nat} {a : Option Addr} {l : List Int} (h : Rd w R a cap l j) (o : Obj) : Rd (w.alloc o) R a cap l j :=
  h.keep (fun k hk => Below.heap_alloc w o k (Nat.lt_of_le_of_lt hk h.lt))
theorem Rd.drewN {w : World} {R cap j : Nat} {a : Option Addr} {l : List Int} (h : Rd w R a cap l j) (n : Nat) : Rd (w.drewN n) R a cap l j :=
  h.keep (fun k hk => rfl)
theorem Rd.grown {w w1 : World} {R cap j B : Nat} {a : Option Addr} {l : List Int} {row : Option Nat} (h : Rd w R a cap l j) (hg : w.grownBy w1 row) (hR : R < B) (hr : ∀ k, row = some k → B ≤ k) : Rd w1 R a cap l j :=
  h.keep (fun k hk => hg.block k (Nat.lt_of_le_of_lt hk h.lt) (fun e => by have := hr k e.symm; omega))
theorem Rd.set {w : World} {R cap j : Nat} {a : Option Addr} {l : List Int} (h : Rd w R a cap l j) (v : Int) (j' : Nat) (hv : v = ((min j' l.length : Nat) : Int)) : Rd (w.setCell ⟨R, 1, none⟩ (.int .i64 v)) R a cap l j' := by
  refine ⟨(World.rowIs.set h.row 1 (.int .i64 v)).congr (fun i hi => ?_), ?_, h.bys, h.len, h.cp⟩
  · unfold rdF
    by_cases e : i = 1
    · subst e; simp [hv]
    · have : i = 0 := by omega
      subst this; simp
  · rcases h.src with h1 | ⟨b, o, h1, h2, h3⟩
    · exact .inl h1
    · refine .inr ⟨b, o, h1, h2, fun i hi => (World.cell?_of_block (w := w) ?_).trans (h3 i hi)⟩
      exact Below.heap_setCell w ⟨R, 1, none⟩ _ b (by show b ≠ R; omega)
theorem Rd.past {w : World} {R cap j : Nat} {a : Option Addr} {l : List Int} (h : Rd w R a cap l j) (hj : l.length ≤ j) : Rd w R a cap l (j + 1) := by
  refine ⟨h.row.congr (fun i hi => ?_), h.src, h.bys, h.len, h.cp⟩
  unfold rdF
  rw [Nat.min_eq_right hj, Nat.min_eq_right (by omega)]

theorem rb_drewN {w w1 : World} {r : Option Nat} (h : w.grownBy w1 r) (n : Nat) : w.grownBy (w1.drewN n) r := ⟨h.os, h.tape, h.output, h.size, h.block⟩
theorem rb_alloc {w w1 : World} {r : Option Nat} (h : w.grownBy w1 r) (o : Obj) : w.grownBy (w1.alloc o) r :=
  ⟨h.os, h.tape, h.output, by have := h.size; simp; omega, fun k hk hne => (Below.heap_alloc w1 o k (by have := h.size; omega)).trans (h.block k hk hne)⟩
theorem rb_set {w wr : World} {D : Nat} (h : w.grownBy wr (some D)) (j : Nat) (v : Value) : w.grownBy (wr.setCell ⟨D, j, none⟩ v) (some D) :=
  ⟨h.os, h.tape, h.output, by have := h.size; simpa [World.setCell] using this, fun k hk hne => (Below.heap_setCell wr ⟨D, j, none⟩ v k (fun e => hne (by rw [e]))).trans (h.block k hk hne)⟩
theorem rb_below {w w1 : World} {r : Option Nat} (h : Below w.heap.size w w1) : w.grownBy w1 r := ⟨h.os, h.tape, h.output, h.size, fun k hk _ => h.block k hk⟩
theorem rb_trans {w w1 w2 : World} {r : Option Nat} (h : w.grownBy w1 r) (k : w1.grownBy w2 r) : w.grownBy w2 r :=
  ⟨k.os.trans h.os, k.tape.trans h.tape, k.output.trans h.output, Nat.le_trans h.size k.size, fun i hi hne => (k.block i (Nat.lt_of_lt_of_le hi h.size) hne).trans (h.block i hi hne)⟩
theorem rb_own {w wr w1 : World} {R : Nat} {row : Option Nat} (h : w.grownBy wr (some R)) (hg : wr.grownBy w1 row) (hr : ∀ k, row = some k → w.heap.size ≤ k) : w.grownBy w1 (some R) :=
  ⟨hg.os.trans h.os, hg.tape.trans h.tape, hg.output.trans h.output, Nat.le_trans h.size hg.size, fun k hk hne => (hg.block k (Nat.lt_of_lt_of_le hk h.size) (fun e => by have := hr k e.symm; omega)).trans (h.block k hk hne)⟩

set_option maxHeartbeats 1000000 in
theorem next_in (R b o cap : Nat) (l : List Int) (j : Nat) (w : World) (hR : Rd w R (some ⟨b, o, none⟩) cap l j) (hs : BytesAt w b o l) (hj : j < l.length) :
    Calls Try.prog 41 #[.pointer (some ⟨R, 0, none⟩)] w fun e w' => e = .returned (.int .i64 (l.getD j 0)) ∧ Rd w' R (some ⟨b, o, none⟩) cap l (j + 1) ∧ w.grownBy w' (some R) := by
  have HR : Hid (Rd w R (some ⟨b, o, none⟩) cap l j) := hR
  have hc := hs j hj
  have hcp := hR.cp
  have hlen := hR.len
  have hb := hR.bys
  have e0 : w.cell? ⟨R, 0, none⟩ = some (.slice (some ⟨b, o, none⟩) l.length cap) := World.rowIs.cell hR.row (by omega)
  have e1 : w.cell? ⟨R, 1, none⟩ = some (.int .i64 (j : Int)) := by rw [World.rowIs.cell hR.row (by omega)]; unfold rdF; rw [if_neg (by omega), Nat.min_eq_left (by omega)]
  have f1 : w.frozen? ⟨R, 1, none⟩ = false := World.rowIs.frozen hR.row 1
  have hx : 0 ≤ l.getD j 0 ∧ l.getD j 0 ≤ 255 := isBytes_getD hb j
  obtain ⟨x, ex⟩ : ∃ x, l.getD j 0 = x := ⟨_, rfl⟩
  rw [ex] at hc hx ⊢
  obtain ⟨n, en⟩ : ∃ n, l.length = n := ⟨_, rfl⟩
  have HN : Hid (l.length = n) := en
  rw [en] at hj hcp hlen e0
  clear ex en hs hR hb
  have hjn : (j : Int) < (n : Int) := by omega
  go_enter Try.func41, Try.ntmps41
  go_wp2_with fail
  go_quiet (fail)
  go_wp2_with fail
  go_quiet (fail)
  go_wp2
  go_ret
  refine ⟨rfl, (HR.out.drewN _).set _ (j + 1) (by rw [HN.out, Nat.min_eq_left (by omega)]; simp), ?_⟩
  exact rb_set (rb_drewN (World.grownBy.refl _ _) _) _ _

set_option maxHeartbeats 1000000 in
theorem next_out (R cap : Nat) (a : Option Addr) (l : List Int) (j : Nat) (w : World) (hR : Rd w R a cap l j) (hj : l.length ≤ j) :
    Calls Try.prog 41 #[.pointer (some ⟨R, 0, none⟩)] w fun e w' => e = .returned (.int .i64 (l.getD j 0)) ∧ Rd w' R a cap l (j + 1) ∧ w.grownBy w' (some R) := by
  have HR : Hid (Rd w R a cap l j) := hR
  have e0 : w.cell? ⟨R, 0, none⟩ = some (.slice a l.length cap) := World.rowIs.cell hR.row (by omega)
  have e1 : w.cell? ⟨R, 1, none⟩ = some (.int .i64 (l.length : Int)) := by rw [World.rowIs.cell hR.row (by omega)]; unfold rdF; rw [if_neg (by omega), Nat.min_eq_right (by omega)]
  have ex : l.getD j 0 = 0 := by rw [List.getD_eq_getElem?_getD, List.getElem?_eq_none hj]; rfl
  have hlen := hR.len
  rw [ex]
  obtain ⟨n, en⟩ : ∃ n, l.length = n := ⟨_, rfl⟩
  have HN : Hid (l.length = n) := en
  rw [en] at hj hlen e0 e1
  clear ex en hR
  go_enter Try.func41, Try.ntmps41
  go_wp2_with fail
  go_quiet (fail)
  go_wp2
  go_ret
  exact ⟨rfl, (HR.out.past (by rw [HN.out]; exact hj)).drewN _, rb_drewN (World.grownBy.refl _ _) _⟩

theorem next_any (R cap : Nat) (a : Option Addr) (l : List Int) (j : Nat) (w : World) (hR : Rd w R a cap l j) :
    Calls Try.prog 41 #[.pointer (some ⟨R, 0, none⟩)] w fun e w' => e = .returned (.int .i64 (l.getD j 0)) ∧ Rd w' R a cap l (j + 1) ∧ w.grownBy w' (some R) := by
  by_cases hj : j < l.length
  · rcases hR.src with rfl | ⟨b, o, rfl, h2, h3⟩
    · simp at hj
    · exact next_in R b o cap l j w hR h3 hj
  · exact next_out R cap a l j w hR (by omega)
end Go.Proofs.Ytjkmcdgjhfiklaa
