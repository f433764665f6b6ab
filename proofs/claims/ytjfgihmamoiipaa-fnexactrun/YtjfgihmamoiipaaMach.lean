/-
  THE MACHINE IN MEMORY, and the contracts of its small methods.
-/
import Derived.Test.YtjfgihmamoiipaaDec
import Derived.Test.YtjfgihmamoiipaaMathV
import Derived.Deep.RegionWith
import Derived.Deep.DrawnRows
namespace Go.Proofs.Ytjfgihmamoiipaa
open Go.RowKit
set_option linter.unusedVariables false
attribute [local go_sem ↓] Go.wp_at_zero Go.wp_at_succ

/-- the cells of a machine -/
def machF (s : S) (rv : Value) (nx st : Int) (en : Bool) (re : Int) (i : Nat) : Value :=
  if i = 0 then .int .u32 s.a else if i = 1 then .int .u32 s.x else if i < 18 then .int .u32 (s.m (i - 2)) else if i = 18 then rv
  else if i = 19 then .int .i64 nx else if i = 20 then .int .i64 st else if i = 21 then .bool en else .int .u32 re
def Mach (w : World) (g : Nat) (s : S) (rv : Value) (nx st : Int) (en : Bool) (re : Int) : Prop := w.rowIs g 81 23 (machF s rv nx st en re)

section
variable {w : World} {g : Nat} {s : S} {rv : Value} {nx st : Int} {en : Bool} {re : Int}
theorem Mach.c0 (h : Mach w g s rv nx st en re) : w.cell? ⟨g, 0, none⟩ = some (.int .u32 s.a) := h.cell (by omega)
theorem Mach.c1 (h : Mach w g s rv nx st en re) : w.cell? ⟨g, 1, none⟩ = some (.int .u32 s.x) := h.cell (by omega)
theorem Mach.cm (h : Mach w g s rv nx st en re) (k : Nat) (hk : k < 16) : w.cell? ⟨g, 2 + k, none⟩ = some (.int .u32 (s.m k)) := by
  rw [h.cell (by omega)]
  unfold machF
  rw [if_neg (by omega), if_neg (by omega), if_pos (by omega), show 2 + k - 2 = k by omega]
theorem Mach.cr (h : Mach w g s rv nx st en re) : w.cell? ⟨g, 18, none⟩ = some rv := h.cell (by omega)
theorem Mach.cn (h : Mach w g s rv nx st en re) : w.cell? ⟨g, 19, none⟩ = some (.int .i64 nx) := h.cell (by omega)
theorem Mach.cs (h : Mach w g s rv nx st en re) : w.cell? ⟨g, 20, none⟩ = some (.int .i64 st) := h.cell (by omega)
theorem Mach.ce (h : Mach w g s rv nx st en re) : w.cell? ⟨g, 21, none⟩ = some (.bool en) := h.cell (by omega)
theorem Mach.cx (h : Mach w g s rv nx st en re) : w.cell? ⟨g, 22, none⟩ = some (.int .u32 re) := h.cell (by omega)
theorem Mach.fz (h : Mach w g s rv nx st en re) (i : Nat) : w.frozen? ⟨g, i, none⟩ = false := h.frozen i

theorem Mach.alloc (h : Mach w g s rv nx st en re) (o : Obj) : Mach (w.alloc o) g s rv nx st en re := World.rowIs.alloc h o
theorem Mach.drew (h : Mach w g s rv nx st en re) : Mach w.drew g s rv nx st en re := h
theorem Mach.below {w' : World} (h : Mach w g s rv nx st en re) (hb : Below w.heap.size w w') : Mach w' g s rv nx st en re := World.rowIs.of_block h (hb.block g (World.rowIs.lt h))
theorem Mach.kept {w' : World} (h : Mach w g s rv nx st en re) (e : w'.heap[g]? = w.heap[g]?) : Mach w' g s rv nx st en re := World.rowIs.of_block h e

theorem Mach.seta (h : Mach w g s rv nx st en re) (v : Int) : Mach (w.setCell ⟨g, 0, none⟩ (.int .u32 v)) g { s with a := v } rv nx st en re :=
  (World.rowIs.set h 0 (.int .u32 v)).congr (fun i hi => by
    unfold machF
    by_cases e : i = 0
    · simp [e]
    · simp [e])
theorem Mach.setx (h : Mach w g s rv nx st en re) (v : Int) : Mach (w.setCell ⟨g, 1, none⟩ (.int .u32 v)) g { s with x := v } rv nx st en re :=
  (World.rowIs.set h 1 (.int .u32 v)).congr (fun i hi => by
    unfold machF
    by_cases e : i = 1
    · simp [e]
    · simp [e])
theorem Mach.setm (h : Mach w g s rv nx st en re) (k : Nat) (hk : k < 16) (v : Int) : Mach (w.setCell ⟨g, 2 + k, none⟩ (.int .u32 v)) g { s with m := fun j => if j = k then v else s.m j } rv nx st en re :=
  (World.rowIs.set h (2 + k) (.int .u32 v)).congr (fun i hi => by
    unfold machF
    by_cases e : i = 2 + k
    · subst e
      rw [if_pos rfl, if_neg (by omega), if_neg (by omega), if_pos (by omega)]
      simp
    · rw [if_neg e]
      by_cases h0 : i = 0
      · rw [if_pos h0, if_pos h0]
      rw [if_neg h0, if_neg h0]
      by_cases h1 : i = 1
      · rw [if_pos h1, if_pos h1]
      rw [if_neg h1, if_neg h1]
      by_cases h2 : i < 18
      · rw [if_pos h2, if_pos h2]
        simp only
        rw [if_neg (by omega)]
      · rw [if_neg h2, if_neg h2])
theorem Mach.setn (h : Mach w g s rv nx st en re) (v : Int) : Mach (w.setCell ⟨g, 19, none⟩ (.int .i64 v)) g s rv v st en re :=
  (World.rowIs.set h 19 (.int .i64 v)).congr (fun i hi => by
    unfold machF
    by_cases e : i = 19
    · simp [e]
    · simp [e])
theorem Mach.sets (h : Mach w g s rv nx st en re) (v : Int) : Mach (w.setCell ⟨g, 20, none⟩ (.int .i64 v)) g s rv nx v en re :=
  (World.rowIs.set h 20 (.int .i64 v)).congr (fun i hi => by
    unfold machF
    by_cases e : i = 20
    · simp [e]
    · simp [e])
theorem Mach.sete (h : Mach w g s rv nx st en re) (v : Bool) : Mach (w.setCell ⟨g, 21, none⟩ (.bool v)) g s rv nx st v re :=
  (World.rowIs.set h 21 (.bool v)).congr (fun i hi => by
    unfold machF
    by_cases e : i = 21
    · simp [e]
    · simp [e])
theorem Mach.setr (h : Mach w g s rv nx st en re) (v : Int) : Mach (w.setCell ⟨g, 22, none⟩ (.int .u32 v)) g s rv nx st en v :=
  (World.rowIs.set h 22 (.int .u32 v)).congr (fun i hi => by
    unfold machF
    by_cases e : i = 22
    · simp [e]
    · rw [if_neg e]
      have : i < 22 := by omega
      repeat' split
      all_goals first | rfl | omega)
end

theorem gb_alloc {w w1 : World} {r : Option Nat} (h : w.grownBy w1 r) (o : Obj) : w.grownBy (w1.alloc o) r :=
  ⟨h.os, h.tape, h.output, by have := h.size; simp; omega, fun k hk hne => (Below.heap_alloc w1 o k (by have := h.size; omega)).trans (h.block k hk hne)⟩
theorem gb_drew {w w1 : World} {r : Option Nat} (h : w.grownBy w1 r) : w.grownBy w1.drew r := ⟨h.os, h.tape, h.output, h.size, h.block⟩
theorem gb_drewN {w w1 : World} {r : Option Nat} (h : w.grownBy w1 r) (n : Nat) : w.grownBy (w1.drewN n) r := ⟨h.os, h.tape, h.output, h.size, h.block⟩
theorem gb_set {w wr : World} {D : Nat} (h : w.grownBy wr (some D)) (j : Nat) (v : Value) : w.grownBy (wr.setCell ⟨D, j, none⟩ v) (some D) :=
  ⟨h.os, h.tape, h.output, by have := h.size; simpa [World.setCell] using this, fun k hk hne => (Below.heap_setCell wr ⟨D, j, none⟩ v k (fun e => hne (by rw [e]))).trans (h.block k hk hne)⟩
theorem gb_below {w w1 : World} {r : Option Nat} (h : Below w.heap.size w w1) : w.grownBy w1 r := ⟨h.os, h.tape, h.output, h.size, fun k hk _ => h.block k hk⟩
theorem gb_trans {w w1 w2 : World} {r : Option Nat} (h : w.grownBy w1 r) (k : w1.grownBy w2 r) : w.grownBy w2 r :=
  ⟨k.os.trans h.os, k.tape.trans h.tape, k.output.trans h.output, Nat.le_trans h.size k.size, fun i hi hne => (k.block i (Nat.lt_of_lt_of_le hi h.size) hne).trans (h.block i hi hne)⟩

set_option maxHeartbeats 1000000 in
theorem end_any (g : Nat) (s : S) (rv : Value) (nx st : Int) (en : Bool) (re v : Int) (w : World) (hM : Mach w g s rv nx st en re) :
    Calls Try.prog 111 #[.pointer (some ⟨g, 0, none⟩), .int .u32 v] w fun e w' => e = .returned (.tuple #[]) ∧ Mach w' g s rv nx st true v ∧ w.grownBy w' (some g) := by
  have HM : Hid _ := (hM.sete true).setr v
  have e1 := hM.ce
  have f1 := hM.fz 21
  have e2 := hM.cx
  have f2 := hM.fz 22
  clear hM
  go_enter Try.func111, Try.ntmps111
  go_wp2
  go_end0
  exact ⟨rfl, HM.out, gb_set (gb_set (World.grownBy.refl _ _) _ _) _ _⟩
end Go.Proofs.Ytjfgihmamoiipaa
