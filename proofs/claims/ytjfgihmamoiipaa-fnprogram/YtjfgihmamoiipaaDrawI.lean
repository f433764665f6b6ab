/-
  CONTRACT: a drawn instruction.
-/
import Derived.Test.YtjfgihmamoiipaaReadR
import Derived.Test.YtjfgihmamoiipaaFaultS
namespace Go.Proofs.Ytjfgihmamoiipaa
open Go.RowKit
set_option linter.unusedVariables false

/-- the drawn code -/
def pickC (l : List Int) (j : Nat) : Int :=
  if codesL.getD (l.getD j 0 % 39).toNat 0 = 6 ∨ codesL.getD (l.getD j 0 % 39).toNat 0 = 22 then (if 0 < l.getD (j + 1) 0 % 4 then 32 else codesL.getD (l.getD j 0 % 39).toNat 0) else codesL.getD (l.getD j 0 % 39).toNat 0
def pickCJ (l : List Int) (j : Nat) : Nat := if codesL.getD (l.getD j 0 % 39).toNat 0 = 6 ∨ codesL.getD (l.getD j 0 % 39).toNat 0 = 22 then j + 2 else j + 1

def insK (c k : Int) (l : List Int) (j : Nat) (m : Int) : I :=
  if c = 32 then ⟨c, 0, 0, k % 16 * 4⟩
  else if memB c then ⟨c, 0, 0, if l.getD j 0 = 7 then 15 else k % 3⟩
  else if c = 5 then ⟨c, 0, 0, k % m % 5⟩
  else if c = 52 then ⟨c, 0, 0, bits .or .u32 k 1⟩
  else if c = 100 ∨ c = 116 then ⟨c, 0, 0, k % 32⟩
  else if tstB c then ⟨c, l.getD j 0 % m % 6, l.getD (j + 1) 0 % m % 6, k⟩
  else if c = 135 ∨ c = 7 then ⟨c, l.getD j 0, 0, k⟩
  else ⟨c, 0, 0, k⟩
def insJ (c : Int) (j : Nat) : Nat := if c = 32 then j else if memB c then j + 1 else if c = 5 then j else if c = 52 then j else if c = 100 ∨ c = 116 then j else if tstB c then j + 2 else if c = 135 ∨ c = 7 then j + 1 else j

def insD (l : List Int) (j : Nat) (m : Int) : I := insK (pickC l j) (wordV l (pickCJ l j)) l (wordJ l (pickCJ l j)) m
def insDJ (l : List Int) (j : Nat) : Nat := insJ (pickC l j) (wordJ l (pickCJ l j))

/-- an instruction's box -/
def boxF (c jt jf k : Int) (i : Nat) : Value := if i = 0 then .int .u16 c else if i = 1 then .int .u8 jt else if i = 2 then .int .u8 jf else .int .u32 k
def Box (w : World) (B : Nat) (c jt jf k : Int) : Prop := w.rowIs B 36 4 (boxF c jt jf k)
section
variable {w : World} {B : Nat} {c jt jf k : Int}
theorem Box.c0 (h : Box w B c jt jf k) : w.cell? ⟨B, 0, none⟩ = some (.int .u16 c) := World.rowIs.cell h (by omega)
theorem Box.c1 (h : Box w B c jt jf k) : w.cell? ⟨B, 1, none⟩ = some (.int .u8 jt) := World.rowIs.cell h (by omega)
theorem Box.c2 (h : Box w B c jt jf k) : w.cell? ⟨B, 2, none⟩ = some (.int .u8 jf) := World.rowIs.cell h (by omega)
theorem Box.c3 (h : Box w B c jt jf k) : w.cell? ⟨B, 3, none⟩ = some (.int .u32 k) := World.rowIs.cell h (by omega)
theorem Box.fz (h : Box w B c jt jf k) (i : Nat) : w.frozen? ⟨B, i, none⟩ = false := World.rowIs.frozen h i
theorem Box.s0 (h : Box w B c jt jf k) (v : Int) : Box (w.setCell ⟨B, 0, none⟩ (.int .u16 v)) B v jt jf k :=
  (World.rowIs.set h 0 _).congr (fun i hi => by
    unfold boxF
    by_cases e : i = 0
    · simp [e]
    · simp [e])
theorem Box.s1 (h : Box w B c jt jf k) (v : Int) : Box (w.setCell ⟨B, 1, none⟩ (.int .u8 v)) B c v jf k :=
  (World.rowIs.set h 1 _).congr (fun i hi => by
    unfold boxF
    by_cases e : i = 1
    · simp [e]
    · simp [e])
theorem Box.s2 (h : Box w B c jt jf k) (v : Int) : Box (w.setCell ⟨B, 2, none⟩ (.int .u8 v)) B c jt v k :=
  (World.rowIs.set h 2 _).congr (fun i hi => by
    unfold boxF
    by_cases e : i = 2
    · simp [e]
    · simp [e])
theorem Box.s3 (h : Box w B c jt jf k) (v : Int) : Box (w.setCell ⟨B, 3, none⟩ (.int .u32 v)) B c jt jf v :=
  (World.rowIs.set h 3 _).congr (fun i hi => by
    unfold boxF
    by_cases e : i = 3
    · simp [e]
    · have : i = 0 ∨ i = 1 ∨ i = 2 := by omega
      rcases this with rfl | rfl | rfl <;> simp)
theorem Box.kept {w1 : World} (h : Box w B c jt jf k) {row : Option Nat} (hg : w.grownBy w1 row) (hne : some B ≠ row) : Box w1 B c jt jf k :=
  World.rowIs.of_block h (hg.block B (World.rowIs.lt h) hne)
theorem Box.new (w : World) (c jt jf k : Int) : Box (w.alloc (.cells #[.int .u16 c, .int .u8 jt, .int .u8 jf, .int .u32 k] 36)) w.heap.size c jt jf k := by
  refine World.rowIs_alloc w #[.int .u16 c, .int .u8 jt, .int .u8 jf, .int .u32 k] _ _ (fun i hi => ?_)
  have h4 : i < 4 := hi
  have : i = 0 ∨ i = 1 ∨ i = 2 ∨ i = 3 := by omega
  rcases this with rfl | rfl | rfl | rfl <;> rfl
theorem Box.alloc (h : Box w B c jt jf k) (o : Obj) : Box (w.alloc o) B c jt jf k := World.rowIs.alloc h o
end
theorem Rd.setO {w : World} {R cap j : Nat} {a : Option Addr} {l : List Int} (h : Rd w R a cap l j) (B i : Nat) (hB : R < B) (v : Value) : Rd (w.setCell ⟨B, i, none⟩ v) R a cap l j :=
  h.keep (fun k hk => Below.heap_setCell w ⟨B, i, none⟩ v k (by show k ≠ B; omega))
theorem rb_setN {w wr : World} {R B : Nat} (h : w.grownBy wr (some R)) (hB : w.heap.size ≤ B) (j : Nat) (v : Value) : w.grownBy (wr.setCell ⟨B, j, none⟩ v) (some R) :=
  ⟨h.os, h.tape, h.output, by have := h.size; simpa [World.setCell] using this, fun k hk hne => (Below.heap_setCell wr ⟨B, j, none⟩ v k (by show k ≠ B; omega)).trans (h.block k hk hne)⟩

-- WALK
theorem memB_no {c : Int} (h : ¬ memB c = true) : (c == 96) = false ∧ (c == 97) = false ∧ (c == 2) = false ∧ (c == 3) = false := by
  simp [memB] at h
  simp; omega

theorem codes_bd {x : Int} (h : 0 ≤ x ∧ x ≤ 255) : 0 ≤ codesL.getD (x % 39).toNat 0 ∧ codesL.getD (x % 39).toNat 0 ≤ 172 := by
  have hcr : ∀ c ∈ codesL, 0 ≤ c ∧ c ≤ 172 := by decide
  have hlt : (x % 39).toNat < codesL.length := by show _ < 39; omega
  rw [List.getD_eq_getElem?_getD, List.getElem?_eq_getElem hlt]
  exact hcr _ (List.getElem_mem hlt)

set_option maxRecDepth 100000 in
set_option maxHeartbeats 2000000 in
theorem drawIns_6a (R cap : Nat) (a : Option Addr) (l : List Int) (j : Nat) (i n : Nat) (w : World) (hR : Rd w R a cap l j) (hi : i + 1 < n) (hn : n ≤ 31) (D : I) (JD : Nat) (HD : Hid (insD l j (n - i - 1) = D)) (HJ : Hid (insDJ l j = JD))
    (c0 : Int) (Hc : Hid (codesL.getD (l.getD j 0 % 39).toNat 0 = c0)) (h6 : c0 = 6 ∨ c0 = 22) (hy4 : 0 < l.getD (j + 1) 0 % 4) :
    Calls Try.prog 101 #[.pointer (some ⟨R, 0, none⟩), .int .i64 i, .int .i64 n] w fun e w' => e = .returned (.agg #[.int .u16 D.c, .int .u8 D.jt, .int .u8 D.jf, .int .u32 D.k]) ∧ Rd w' R a cap l JD ∧ w.grownBy w' (some R) := by
  have hRw := hR.lt
  have hl := hR.bys
  have HNx : Hid (∀ q W, Rd W R a cap l q → Calls Try.prog 50 #[.pointer (some ⟨R, 0, none⟩)] W fun e w' => e = .returned (.int .i64 (l.getD q 0)) ∧ Rd w' R a cap l (q + 1) ∧ W.grownBy w' (some R)) := fun q W h => next_any R cap a l q W h
  have HWd : Hid (∀ q W, Rd W R a cap l q → Calls Try.prog 79 #[.pointer (some ⟨R, 0, none⟩)] W fun e w' => e = .returned (.int .u32 (wordV l q)) ∧ Rd w' R a cap l (wordJ l q) ∧ W.grownBy w' (some R)) := fun q W h => drawWord_any R cap a l q W h
  have hx := isBytes_getD hl j
  have hcb : 0 ≤ c0 ∧ c0 ≤ 172 := by rw [← Hc.out]; exact codes_bd (by omega)
  unfold insD at HD
  unfold insDJ at HJ
  have HP : Hid (pickC l j = if c0 = 6 ∨ c0 = 22 then (if 0 < l.getD (j + 1) 0 % 4 then 32 else c0) else c0) := by unfold Hid pickC; rw [Hc.out]
  have HPJ : Hid (pickCJ l j = if c0 = 6 ∨ c0 = 22 then j + 2 else j + 1) := by unfold Hid pickCJ; rw [Hc.out]
  have hc0 := codes_cell (w.alloc (.cells #[.int .u16 0, .int .u8 0, .int .u8 0, .int .u32 0] 36)) (l.getD j 0 % 39).toNat (by omega)
  have hsz : (w.alloc (.cells #[.int .u16 0, .int .u8 0, .int .u8 0, .int .u32 0] 36)).heap.size = w.heap.size + 1 := by simp
  have hbox := (Box.new w 0 0 0 0).alloc (.cells (codesL.map (Value.int .i64)).toArray 3)
  have hRW := (hR.alloc (.cells #[.int .u16 0, .int .u8 0, .int .u8 0, .int .u32 0] 36)).alloc (.cells (codesL.map (Value.int .i64)).toArray 3)
  have hGW : w.grownBy ((w.alloc (.cells #[.int .u16 0, .int .u8 0, .int .u8 0, .int .u32 0] 36)).alloc (.cells (codesL.map (Value.int .i64)).toArray 3)) (some R) := rb_alloc (rb_alloc (World.grownBy.refl _ _) _) _
  rw [hsz, Hc.out] at hc0
  have hsW : ((w.alloc (.cells #[.int .u16 0, .int .u8 0, .int .u8 0, .int .u32 0] 36)).alloc (.cells (codesL.map (Value.int .i64)).toArray 3)).heap.size = w.heap.size + 2 := by simp
  go_enter Try.func101, Try.ntmps101
  go_wp2_with (go_at_call 102; refine (l1codes_any _).mono ?_; rintro e w' ⟨rfl, rfl⟩)
  generalize (w.alloc (.cells #[.int .u16 0, .int .u8 0, .int .u8 0, .int .u32 0] 36)).alloc (.cells (codesL.map (Value.int .i64)).toArray 3) = W at *
  clear hR hsz Hc
  obtain ⟨B, hB⟩ : ∃ B, w.heap.size = B := ⟨_, rfl⟩
  rw [hB] at hc0 hsW hbox hRw ⊢
  have HBw : Hid (w.heap.size = B) := hB
  clear hB
  go_wp2_with fail
  refine (HNx.out j W hRW).mono ?_
  rintro _ w1 ⟨rfl, hR1, hg1⟩
  have hbox1 := hbox.kept hg1 (by simp; omega)
  have hG1 := rb_trans hGW hg1
  have hc1 : w1.cell? ⟨B + 1, (l.getD j 0 % 39).toNat, none⟩ = some (.int .i64 c0) := (World.cell?_of_block (w := W) (hg1.block (B + 1) (by omega) (by simp; omega))).trans hc0
  clear hc0 hg1 hbox hGW hRW
  have hm0 : 0 ≤ l.getD j 0 % 39 := by omega
  generalize l.getD j 0 = x at *
  have hy := isBytes_getD hl (j + 1)
  rw [HPJ.out, if_pos h6, HP.out, if_pos h6] at HD HJ
  clear HP HPJ
  have HN1 := HNx.out (j + 1)
  generalize l.getD (j + 1) 0 = y at *
  rw [if_pos hy4] at HD HJ
  rcases h6 with rfl | rfl
  all_goals
    go_wp2_with fail
    refine (HN1 w1 hR1).mono ?_
    rintro _ w1' ⟨rfl, hR1', hg1'⟩
    have hbox1' := hbox1.kept hg1' (by simp; omega)
    have hG1' := rb_trans hG1 hg1'
    clear hbox1 hG1 hR1 hg1' HN1
    have hv := wordV_bd l hl (j + 2)
    have HW1 := HWd.out (j + 2)
    generalize wordV l (j + 2) = k at *
    generalize wordJ l (j + 2) = j2 at *
    go_wp2_with fail
    refine (HW1 w1' hR1').mono ?_
    rintro _ w2 ⟨rfl, hR2, hg2⟩
    have hbox2 := hbox1'.kept hg2 (by simp; omega)
    have hBlt : B < w2.heap.size := World.rowIs.lt hbox2
    have hG2 := rb_trans hG1' hg2
    have d0 := hbox2.c0
    have d1 := hbox2.c1
    have d2 := hbox2.c2
    have d3 := hbox2.c3
    have f0 := hbox2.fz 0
    have f1 := hbox2.fz 1
    have f2 := hbox2.fz 2
    have f3 := hbox2.fz 3
    clear hc1 hg2 HW1
    have hRs : R < w2.heap.size := by omega
    have hBs : w.heap.size ≤ w2.heap.size := by rw [HBw.out]; omega
    have hD : D = ⟨32, 0, 0, k % 16 * 4⟩ := by rw [← HD.out]; unfold insK; rw [if_pos rfl]
    have hJ : JD = j2 := by rw [← HJ.out]; unfold insJ; rw [if_pos rfl]
    subst hD hJ
    go_wp2
    refine bodyPost_ret (v := insV 32 0 0 (k % 16 * 4)) (by simp [results, Try.results101, go_sem, d0, d1, d2, d3, hBlt]) rfl ⟨rfl, ?_, ?_⟩
    · repeat first | with_reducible exact hR2 | with_reducible refine Rd.alloc ?_ _ | with_reducible refine Rd.setO ?_ B _ hRw _ | with_reducible refine Rd.setO ?_ w2.heap.size _ hRs _
    · repeat first | with_reducible exact hG2 | with_reducible refine rb_alloc ?_ _ | with_reducible refine rb_setN ?_ (Nat.le_of_eq HBw.out) _ _ | with_reducible refine rb_setN ?_ hBs _ _

set_option maxRecDepth 100000 in
set_option maxHeartbeats 2000000 in
theorem drawIns_6b6 (R cap : Nat) (a : Option Addr) (l : List Int) (j : Nat) (i n : Nat) (w : World) (hR : Rd w R a cap l j) (hi : i + 1 < n) (hn : n ≤ 31) (D : I) (JD : Nat) (HD : Hid (insD l j (n - i - 1) = D)) (HJ : Hid (insDJ l j = JD))
    (c0 : Int) (Hc : Hid (codesL.getD (l.getD j 0 % 39).toNat 0 = c0)) (h6' : c0 = 6) (hy4 : ¬ 0 < l.getD (j + 1) 0 % 4) :
    Calls Try.prog 101 #[.pointer (some ⟨R, 0, none⟩), .int .i64 i, .int .i64 n] w fun e w' => e = .returned (.agg #[.int .u16 D.c, .int .u8 D.jt, .int .u8 D.jf, .int .u32 D.k]) ∧ Rd w' R a cap l JD ∧ w.grownBy w' (some R) := by
  have hRw := hR.lt
  have hl := hR.bys
  have HNx : Hid (∀ q W, Rd W R a cap l q → Calls Try.prog 50 #[.pointer (some ⟨R, 0, none⟩)] W fun e w' => e = .returned (.int .i64 (l.getD q 0)) ∧ Rd w' R a cap l (q + 1) ∧ W.grownBy w' (some R)) := fun q W h => next_any R cap a l q W h
  have HWd : Hid (∀ q W, Rd W R a cap l q → Calls Try.prog 79 #[.pointer (some ⟨R, 0, none⟩)] W fun e w' => e = .returned (.int .u32 (wordV l q)) ∧ Rd w' R a cap l (wordJ l q) ∧ W.grownBy w' (some R)) := fun q W h => drawWord_any R cap a l q W h
  have hx := isBytes_getD hl j
  have hcb : 0 ≤ c0 ∧ c0 ≤ 172 := by rw [← Hc.out]; exact codes_bd (by omega)
  unfold insD at HD
  unfold insDJ at HJ
  have HP : Hid (pickC l j = if c0 = 6 ∨ c0 = 22 then (if 0 < l.getD (j + 1) 0 % 4 then 32 else c0) else c0) := by unfold Hid pickC; rw [Hc.out]
  have HPJ : Hid (pickCJ l j = if c0 = 6 ∨ c0 = 22 then j + 2 else j + 1) := by unfold Hid pickCJ; rw [Hc.out]
  have hc0 := codes_cell (w.alloc (.cells #[.int .u16 0, .int .u8 0, .int .u8 0, .int .u32 0] 36)) (l.getD j 0 % 39).toNat (by omega)
  have hsz : (w.alloc (.cells #[.int .u16 0, .int .u8 0, .int .u8 0, .int .u32 0] 36)).heap.size = w.heap.size + 1 := by simp
  have hbox := (Box.new w 0 0 0 0).alloc (.cells (codesL.map (Value.int .i64)).toArray 3)
  have hRW := (hR.alloc (.cells #[.int .u16 0, .int .u8 0, .int .u8 0, .int .u32 0] 36)).alloc (.cells (codesL.map (Value.int .i64)).toArray 3)
  have hGW : w.grownBy ((w.alloc (.cells #[.int .u16 0, .int .u8 0, .int .u8 0, .int .u32 0] 36)).alloc (.cells (codesL.map (Value.int .i64)).toArray 3)) (some R) := rb_alloc (rb_alloc (World.grownBy.refl _ _) _) _
  rw [hsz, Hc.out] at hc0
  have hsW : ((w.alloc (.cells #[.int .u16 0, .int .u8 0, .int .u8 0, .int .u32 0] 36)).alloc (.cells (codesL.map (Value.int .i64)).toArray 3)).heap.size = w.heap.size + 2 := by simp
  go_enter Try.func101, Try.ntmps101
  go_wp2_with (go_at_call 102; refine (l1codes_any _).mono ?_; rintro e w' ⟨rfl, rfl⟩)
  generalize (w.alloc (.cells #[.int .u16 0, .int .u8 0, .int .u8 0, .int .u32 0] 36)).alloc (.cells (codesL.map (Value.int .i64)).toArray 3) = W at *
  clear hR hsz Hc
  obtain ⟨B, hB⟩ : ∃ B, w.heap.size = B := ⟨_, rfl⟩
  rw [hB] at hc0 hsW hbox hRw ⊢
  have HBw : Hid (w.heap.size = B) := hB
  clear hB
  go_wp2_with fail
  refine (HNx.out j W hRW).mono ?_
  rintro _ w1 ⟨rfl, hR1, hg1⟩
  have hbox1 := hbox.kept hg1 (by simp; omega)
  have hG1 := rb_trans hGW hg1
  have hc1 : w1.cell? ⟨B + 1, (l.getD j 0 % 39).toNat, none⟩ = some (.int .i64 c0) := (World.cell?_of_block (w := W) (hg1.block (B + 1) (by omega) (by simp; omega))).trans hc0
  clear hc0 hg1 hbox hGW hRW
  have hm0 : 0 ≤ l.getD j 0 % 39 := by omega
  generalize l.getD j 0 = x at *
  have h6 : c0 = 6 ∨ c0 = 22 := by omega
  have hy := isBytes_getD hl (j + 1)
  rw [HPJ.out, if_pos h6, HP.out, if_pos h6] at HD HJ
  clear HP HPJ
  have HN1 := HNx.out (j + 1)
  generalize l.getD (j + 1) 0 = y at *
  rw [if_neg (by omega : ¬ 0 < y % 4)] at HD HJ
  subst h6'
  go_wp2_with fail
  refine (HN1 w1 hR1).mono ?_
  rintro _ w1' ⟨rfl, hR1', hg1'⟩
  have hbox1' := hbox1.kept hg1' (by simp; omega)
  have hG1' := rb_trans hG1 hg1'
  clear hbox1 hG1 hR1 hg1' HN1
  have hv := wordV_bd l hl (j + 2)
  have HW1 := HWd.out (j + 2)
  generalize wordV l (j + 2) = k at *
  generalize wordJ l (j + 2) = j2 at *
  go_wp2_with fail
  refine (HW1 w1' hR1').mono ?_
  rintro _ w2 ⟨rfl, hR2, hg2⟩
  have hbox2 := hbox1'.kept hg2 (by simp; omega)
  have hBlt : B < w2.heap.size := World.rowIs.lt hbox2
  have hG2 := rb_trans hG1' hg2
  have d0 := hbox2.c0
  have d1 := hbox2.c1
  have d2 := hbox2.c2
  have d3 := hbox2.c3
  have f0 := hbox2.fz 0
  have f1 := hbox2.fz 1
  have f2 := hbox2.fz 2
  have f3 := hbox2.fz 3
  clear hc1 hg2 HW1
  have hRs : R < w2.heap.size := by omega
  have hBs : w.heap.size ≤ w2.heap.size := by rw [HBw.out]; omega
  have hbI := Box.new w2 6 0 0 k
  have hRI := hR2.alloc (.cells #[.int .u16 6, .int .u8 0, .int .u8 0, .int .u32 k] 36)
  have hGI := rb_alloc hG2 (.cells #[.int .u16 6, .int .u8 0, .int .u8 0, .int .u32 k] 36)
  have hbB := hbox2.alloc (.cells #[.int .u16 6, .int .u8 0, .int .u8 0, .int .u32 k] 36)
  go_wp2_with fail
  refine (l1isTest_any 6 _ (by decide)).mono ?_
  rintro _ w3 ⟨rfl, hb3⟩
  rw [show tstB 6 = false from rfl]
  have hgr3 := rb_below (r := some R) hb3
  have hbI3 := hbI.kept hgr3 (by simp; omega)
  have hbB3 := hbB.kept hgr3 (by simp; omega)
  have hR3 := hRI.below hb3
  have hG3 := rb_trans hGI hgr3
  clear d0 d1 d2 d3 f0 f1 f2 f3 hbI hbB hRI hGI hb3 hgr3
  have hD : D = ⟨6, 0, 0, k⟩ := by rw [← HD.out]; unfold insK; rw [if_neg (by decide), if_neg (by decide), if_neg (by decide), if_neg (by decide), if_neg (by decide), if_neg (by decide), if_neg (by decide)]
  have hJ : JD = j2 := by rw [← HJ.out]; unfold insJ; rw [if_neg (by decide), if_neg (by decide), if_neg (by decide), if_neg (by decide), if_neg (by decide), if_neg (by decide), if_neg (by decide)]
  subst hD hJ
  have h0 := hbB3.c0
  have hf0 := hbB3.fz 0
  have h1 := hbB3.c1
  have hf1 := hbB3.fz 1
  have h2 := hbB3.c2
  have hf2 := hbB3.fz 2
  have h3 := hbB3.c3
  have hf3 := hbB3.fz 3
  have e0 := hbI3.c0
  have ef0 := hbI3.fz 0
  have e1 := hbI3.c1
  have ef1 := hbI3.fz 1
  have e2 := hbI3.c2
  have ef2 := hbI3.fz 2
  have e3 := hbI3.c3
  have ef3 := hbI3.fz 3
  have hne : B ≠ w2.heap.size := by omega
  go_wp2
  refine bodyPost_ret (v := insV 6 0 0 k) (by simp [results, Try.results101, go_sem, h0, h1, h2, h3]) rfl ⟨rfl, ?_, ?_⟩
  · repeat first | with_reducible exact hR3 | with_reducible refine Rd.alloc ?_ _ | with_reducible refine Rd.setO ?_ B _ hRw _ | with_reducible refine Rd.setO ?_ w2.heap.size _ hRs _
  · repeat first | with_reducible exact hG3 | with_reducible refine rb_alloc ?_ _ | with_reducible refine rb_setN ?_ (Nat.le_of_eq HBw.out) _ _ | with_reducible refine rb_setN ?_ hBs _ _

set_option maxRecDepth 100000 in
set_option maxHeartbeats 2000000 in
theorem drawIns_6b22 (R cap : Nat) (a : Option Addr) (l : List Int) (j : Nat) (i n : Nat) (w : World) (hR : Rd w R a cap l j) (hi : i + 1 < n) (hn : n ≤ 31) (D : I) (JD : Nat) (HD : Hid (insD l j (n - i - 1) = D)) (HJ : Hid (insDJ l j = JD))
    (c0 : Int) (Hc : Hid (codesL.getD (l.getD j 0 % 39).toNat 0 = c0)) (h6' : c0 = 22) (hy4 : ¬ 0 < l.getD (j + 1) 0 % 4) :
    Calls Try.prog 101 #[.pointer (some ⟨R, 0, none⟩), .int .i64 i, .int .i64 n] w fun e w' => e = .returned (.agg #[.int .u16 D.c, .int .u8 D.jt, .int .u8 D.jf, .int .u32 D.k]) ∧ Rd w' R a cap l JD ∧ w.grownBy w' (some R) := by
  have hRw := hR.lt
  have hl := hR.bys
  have HNx : Hid (∀ q W, Rd W R a cap l q → Calls Try.prog 50 #[.pointer (some ⟨R, 0, none⟩)] W fun e w' => e = .returned (.int .i64 (l.getD q 0)) ∧ Rd w' R a cap l (q + 1) ∧ W.grownBy w' (some R)) := fun q W h => next_any R cap a l q W h
  have HWd : Hid (∀ q W, Rd W R a cap l q → Calls Try.prog 79 #[.pointer (some ⟨R, 0, none⟩)] W fun e w' => e = .returned (.int .u32 (wordV l q)) ∧ Rd w' R a cap l (wordJ l q) ∧ W.grownBy w' (some R)) := fun q W h => drawWord_any R cap a l q W h
  have hx := isBytes_getD hl j
  have hcb : 0 ≤ c0 ∧ c0 ≤ 172 := by rw [← Hc.out]; exact codes_bd (by omega)
  unfold insD at HD
  unfold insDJ at HJ
  have HP : Hid (pickC l j = if c0 = 6 ∨ c0 = 22 then (if 0 < l.getD (j + 1) 0 % 4 then 32 else c0) else c0) := by unfold Hid pickC; rw [Hc.out]
  have HPJ : Hid (pickCJ l j = if c0 = 6 ∨ c0 = 22 then j + 2 else j + 1) := by unfold Hid pickCJ; rw [Hc.out]
  have hc0 := codes_cell (w.alloc (.cells #[.int .u16 0, .int .u8 0, .int .u8 0, .int .u32 0] 36)) (l.getD j 0 % 39).toNat (by omega)
  have hsz : (w.alloc (.cells #[.int .u16 0, .int .u8 0, .int .u8 0, .int .u32 0] 36)).heap.size = w.heap.size + 1 := by simp
  have hbox := (Box.new w 0 0 0 0).alloc (.cells (codesL.map (Value.int .i64)).toArray 3)
  have hRW := (hR.alloc (.cells #[.int .u16 0, .int .u8 0, .int .u8 0, .int .u32 0] 36)).alloc (.cells (codesL.map (Value.int .i64)).toArray 3)
  have hGW : w.grownBy ((w.alloc (.cells #[.int .u16 0, .int .u8 0, .int .u8 0, .int .u32 0] 36)).alloc (.cells (codesL.map (Value.int .i64)).toArray 3)) (some R) := rb_alloc (rb_alloc (World.grownBy.refl _ _) _) _
  rw [hsz, Hc.out] at hc0
  have hsW : ((w.alloc (.cells #[.int .u16 0, .int .u8 0, .int .u8 0, .int .u32 0] 36)).alloc (.cells (codesL.map (Value.int .i64)).toArray 3)).heap.size = w.heap.size + 2 := by simp
  go_enter Try.func101, Try.ntmps101
  go_wp2_with (go_at_call 102; refine (l1codes_any _).mono ?_; rintro e w' ⟨rfl, rfl⟩)
  generalize (w.alloc (.cells #[.int .u16 0, .int .u8 0, .int .u8 0, .int .u32 0] 36)).alloc (.cells (codesL.map (Value.int .i64)).toArray 3) = W at *
  clear hR hsz Hc
  obtain ⟨B, hB⟩ : ∃ B, w.heap.size = B := ⟨_, rfl⟩
  rw [hB] at hc0 hsW hbox hRw ⊢
  have HBw : Hid (w.heap.size = B) := hB
  clear hB
  go_wp2_with fail
  refine (HNx.out j W hRW).mono ?_
  rintro _ w1 ⟨rfl, hR1, hg1⟩
  have hbox1 := hbox.kept hg1 (by simp; omega)
  have hG1 := rb_trans hGW hg1
  have hc1 : w1.cell? ⟨B + 1, (l.getD j 0 % 39).toNat, none⟩ = some (.int .i64 c0) := (World.cell?_of_block (w := W) (hg1.block (B + 1) (by omega) (by simp; omega))).trans hc0
  clear hc0 hg1 hbox hGW hRW
  have hm0 : 0 ≤ l.getD j 0 % 39 := by omega
  generalize l.getD j 0 = x at *
  have h6 : c0 = 6 ∨ c0 = 22 := by omega
  have hy := isBytes_getD hl (j + 1)
  rw [HPJ.out, if_pos h6, HP.out, if_pos h6] at HD HJ
  clear HP HPJ
  have HN1 := HNx.out (j + 1)
  generalize l.getD (j + 1) 0 = y at *
  rw [if_neg (by omega : ¬ 0 < y % 4)] at HD HJ
  subst h6'
  go_wp2_with fail
  refine (HN1 w1 hR1).mono ?_
  rintro _ w1' ⟨rfl, hR1', hg1'⟩
  have hbox1' := hbox1.kept hg1' (by simp; omega)
  have hG1' := rb_trans hG1 hg1'
  clear hbox1 hG1 hR1 hg1' HN1
  have hv := wordV_bd l hl (j + 2)
  have HW1 := HWd.out (j + 2)
  generalize wordV l (j + 2) = k at *
  generalize wordJ l (j + 2) = j2 at *
  go_wp2_with fail
  refine (HW1 w1' hR1').mono ?_
  rintro _ w2 ⟨rfl, hR2, hg2⟩
  have hbox2 := hbox1'.kept hg2 (by simp; omega)
  have hBlt : B < w2.heap.size := World.rowIs.lt hbox2
  have hG2 := rb_trans hG1' hg2
  have d0 := hbox2.c0
  have d1 := hbox2.c1
  have d2 := hbox2.c2
  have d3 := hbox2.c3
  have f0 := hbox2.fz 0
  have f1 := hbox2.fz 1
  have f2 := hbox2.fz 2
  have f3 := hbox2.fz 3
  clear hc1 hg2 HW1
  have hRs : R < w2.heap.size := by omega
  have hBs : w.heap.size ≤ w2.heap.size := by rw [HBw.out]; omega
  have hbI := Box.new w2 22 0 0 k
  have hRI := hR2.alloc (.cells #[.int .u16 22, .int .u8 0, .int .u8 0, .int .u32 k] 36)
  have hGI := rb_alloc hG2 (.cells #[.int .u16 22, .int .u8 0, .int .u8 0, .int .u32 k] 36)
  have hbB := hbox2.alloc (.cells #[.int .u16 22, .int .u8 0, .int .u8 0, .int .u32 k] 36)
  go_wp2_with fail
  refine (l1isTest_any 22 _ (by decide)).mono ?_
  rintro _ w3 ⟨rfl, hb3⟩
  rw [show tstB 22 = false from rfl]
  have hgr3 := rb_below (r := some R) hb3
  have hbI3 := hbI.kept hgr3 (by simp; omega)
  have hbB3 := hbB.kept hgr3 (by simp; omega)
  have hR3 := hRI.below hb3
  have hG3 := rb_trans hGI hgr3
  clear d0 d1 d2 d3 f0 f1 f2 f3 hbI hbB hRI hGI hb3 hgr3
  have hD : D = ⟨22, 0, 0, k⟩ := by rw [← HD.out]; unfold insK; rw [if_neg (by decide), if_neg (by decide), if_neg (by decide), if_neg (by decide), if_neg (by decide), if_neg (by decide), if_neg (by decide)]
  have hJ : JD = j2 := by rw [← HJ.out]; unfold insJ; rw [if_neg (by decide), if_neg (by decide), if_neg (by decide), if_neg (by decide), if_neg (by decide), if_neg (by decide), if_neg (by decide)]
  subst hD hJ
  have h0 := hbB3.c0
  have hf0 := hbB3.fz 0
  have h1 := hbB3.c1
  have hf1 := hbB3.fz 1
  have h2 := hbB3.c2
  have hf2 := hbB3.fz 2
  have h3 := hbB3.c3
  have hf3 := hbB3.fz 3
  have e0 := hbI3.c0
  have ef0 := hbI3.fz 0
  have e1 := hbI3.c1
  have ef1 := hbI3.fz 1
  have e2 := hbI3.c2
  have ef2 := hbI3.fz 2
  have e3 := hbI3.c3
  have ef3 := hbI3.fz 3
  have hne : B ≠ w2.heap.size := by omega
  go_wp2
  refine bodyPost_ret (v := insV 22 0 0 k) (by simp [results, Try.results101, go_sem, h0, h1, h2, h3]) rfl ⟨rfl, ?_, ?_⟩
  · repeat first | with_reducible exact hR3 | with_reducible refine Rd.alloc ?_ _ | with_reducible refine Rd.setO ?_ B _ hRw _ | with_reducible refine Rd.setO ?_ w2.heap.size _ hRs _
  · repeat first | with_reducible exact hG3 | with_reducible refine rb_alloc ?_ _ | with_reducible refine rb_setN ?_ (Nat.le_of_eq HBw.out) _ _ | with_reducible refine rb_setN ?_ hBs _ _

set_option maxRecDepth 100000 in
set_option maxHeartbeats 2000000 in
theorem drawIns_32 (R cap : Nat) (a : Option Addr) (l : List Int) (j : Nat) (i n : Nat) (w : World) (hR : Rd w R a cap l j) (hi : i + 1 < n) (hn : n ≤ 31) (D : I) (JD : Nat) (HD : Hid (insD l j (n - i - 1) = D)) (HJ : Hid (insDJ l j = JD))
    (c0 : Int) (Hc : Hid (codesL.getD (l.getD j 0 % 39).toNat 0 = c0)) (g1 : c0 = 32) :
    Calls Try.prog 101 #[.pointer (some ⟨R, 0, none⟩), .int .i64 i, .int .i64 n] w fun e w' => e = .returned (.agg #[.int .u16 D.c, .int .u8 D.jt, .int .u8 D.jf, .int .u32 D.k]) ∧ Rd w' R a cap l JD ∧ w.grownBy w' (some R) := by
  have hRw := hR.lt
  have hl := hR.bys
  have HNx : Hid (∀ q W, Rd W R a cap l q → Calls Try.prog 50 #[.pointer (some ⟨R, 0, none⟩)] W fun e w' => e = .returned (.int .i64 (l.getD q 0)) ∧ Rd w' R a cap l (q + 1) ∧ W.grownBy w' (some R)) := fun q W h => next_any R cap a l q W h
  have HWd : Hid (∀ q W, Rd W R a cap l q → Calls Try.prog 79 #[.pointer (some ⟨R, 0, none⟩)] W fun e w' => e = .returned (.int .u32 (wordV l q)) ∧ Rd w' R a cap l (wordJ l q) ∧ W.grownBy w' (some R)) := fun q W h => drawWord_any R cap a l q W h
  have hx := isBytes_getD hl j
  have hcb : 0 ≤ c0 ∧ c0 ≤ 172 := by rw [← Hc.out]; exact codes_bd (by omega)
  unfold insD at HD
  unfold insDJ at HJ
  have HP : Hid (pickC l j = if c0 = 6 ∨ c0 = 22 then (if 0 < l.getD (j + 1) 0 % 4 then 32 else c0) else c0) := by unfold Hid pickC; rw [Hc.out]
  have HPJ : Hid (pickCJ l j = if c0 = 6 ∨ c0 = 22 then j + 2 else j + 1) := by unfold Hid pickCJ; rw [Hc.out]
  have hc0 := codes_cell (w.alloc (.cells #[.int .u16 0, .int .u8 0, .int .u8 0, .int .u32 0] 36)) (l.getD j 0 % 39).toNat (by omega)
  have hsz : (w.alloc (.cells #[.int .u16 0, .int .u8 0, .int .u8 0, .int .u32 0] 36)).heap.size = w.heap.size + 1 := by simp
  have hbox := (Box.new w 0 0 0 0).alloc (.cells (codesL.map (Value.int .i64)).toArray 3)
  have hRW := (hR.alloc (.cells #[.int .u16 0, .int .u8 0, .int .u8 0, .int .u32 0] 36)).alloc (.cells (codesL.map (Value.int .i64)).toArray 3)
  have hGW : w.grownBy ((w.alloc (.cells #[.int .u16 0, .int .u8 0, .int .u8 0, .int .u32 0] 36)).alloc (.cells (codesL.map (Value.int .i64)).toArray 3)) (some R) := rb_alloc (rb_alloc (World.grownBy.refl _ _) _) _
  rw [hsz, Hc.out] at hc0
  have hsW : ((w.alloc (.cells #[.int .u16 0, .int .u8 0, .int .u8 0, .int .u32 0] 36)).alloc (.cells (codesL.map (Value.int .i64)).toArray 3)).heap.size = w.heap.size + 2 := by simp
  go_enter Try.func101, Try.ntmps101
  go_wp2_with (go_at_call 102; refine (l1codes_any _).mono ?_; rintro e w' ⟨rfl, rfl⟩)
  generalize (w.alloc (.cells #[.int .u16 0, .int .u8 0, .int .u8 0, .int .u32 0] 36)).alloc (.cells (codesL.map (Value.int .i64)).toArray 3) = W at *
  clear hR hsz Hc
  obtain ⟨B, hB⟩ : ∃ B, w.heap.size = B := ⟨_, rfl⟩
  rw [hB] at hc0 hsW hbox hRw ⊢
  have HBw : Hid (w.heap.size = B) := hB
  clear hB
  go_wp2_with fail
  refine (HNx.out j W hRW).mono ?_
  rintro _ w1 ⟨rfl, hR1, hg1⟩
  have hbox1 := hbox.kept hg1 (by simp; omega)
  have hG1 := rb_trans hGW hg1
  have hc1 : w1.cell? ⟨B + 1, (l.getD j 0 % 39).toNat, none⟩ = some (.int .i64 c0) := (World.cell?_of_block (w := W) (hg1.block (B + 1) (by omega) (by simp; omega))).trans hc0
  clear hc0 hg1 hbox hGW hRW
  have hm0 : 0 ≤ l.getD j 0 % 39 := by omega
  generalize l.getD j 0 = x at *
  have h6 : ¬ (c0 = 6 ∨ c0 = 22) := by omega
  have e6 : c0 ≠ 6 := fun e => h6 (.inl e)
  have e22 : c0 ≠ 22 := fun e => h6 (.inr e)
  have b6 : (c0 == 6) = false := by simpa using e6
  have b22 : (c0 == 22) = false := by simpa using e22
  rw [HPJ.out, if_neg h6, HP.out, if_neg h6] at HD HJ
  clear HP HPJ
  have hv := wordV_bd l hl (j + 1)
  have HW1 := HWd.out (j + 1)
  generalize wordV l (j + 1) = k at *
  generalize wordJ l (j + 1) = j2 at *
  go_wp2_with fail
  refine (HW1 w1 hR1).mono ?_
  rintro _ w2 ⟨rfl, hR2, hg2⟩
  have hbox2 := hbox1.kept hg2 (by simp; omega)
  have hBlt : B < w2.heap.size := World.rowIs.lt hbox2
  have hG2 := rb_trans hG1 hg2
  have d0 := hbox2.c0
  have d1 := hbox2.c1
  have d2 := hbox2.c2
  have d3 := hbox2.c3
  have f0 := hbox2.fz 0
  have f1 := hbox2.fz 1
  have f2 := hbox2.fz 2
  have f3 := hbox2.fz 3
  clear hc1 hg2 HW1
  have hRs : R < w2.heap.size := by omega
  have hBs : w.heap.size ≤ w2.heap.size := by rw [HBw.out]; omega
  clear hbox1 hG1 hR1
  subst g1
  have hD : D = ⟨32, 0, 0, k % 16 * 4⟩ := by rw [← HD.out]; unfold insK; rw [if_pos rfl]
  have hJ : JD = j2 := by rw [← HJ.out]; unfold insJ; rw [if_pos rfl]
  subst hD hJ
  go_wp2
  refine bodyPost_ret (v := insV 32 0 0 (k % 16 * 4)) (by simp [results, Try.results101, go_sem, d0, d1, d2, d3, hBlt]) rfl ⟨rfl, ?_, ?_⟩
  · repeat first | with_reducible exact hR2 | with_reducible refine Rd.alloc ?_ _ | with_reducible refine Rd.setO ?_ B _ hRw _ | with_reducible refine Rd.setO ?_ w2.heap.size _ hRs _
  · repeat first | with_reducible exact hG2 | with_reducible refine rb_alloc ?_ _ | with_reducible refine rb_setN ?_ (Nat.le_of_eq HBw.out) _ _ | with_reducible refine rb_setN ?_ hBs _ _

set_option maxRecDepth 100000 in
set_option maxHeartbeats 4000000 in
theorem drawIns_mem (R cap : Nat) (a : Option Addr) (l : List Int) (j : Nat) (i n : Nat) (w : World) (hR : Rd w R a cap l j) (hi : i + 1 < n) (hn : n ≤ 31) (D : I) (JD : Nat) (HD : Hid (insD l j (n - i - 1) = D)) (HJ : Hid (insDJ l j = JD))
    (c0 : Int) (Hc : Hid (codesL.getD (l.getD j 0 % 39).toNat 0 = c0)) (h6 : ¬ (c0 = 6 ∨ c0 = 22)) (g1 : c0 ≠ 32) (g2 : memB c0 = true) :
    Calls Try.prog 101 #[.pointer (some ⟨R, 0, none⟩), .int .i64 i, .int .i64 n] w fun e w' => e = .returned (.agg #[.int .u16 D.c, .int .u8 D.jt, .int .u8 D.jf, .int .u32 D.k]) ∧ Rd w' R a cap l JD ∧ w.grownBy w' (some R) := by
  have hRw := hR.lt
  have hl := hR.bys
  have HNx : Hid (∀ q W, Rd W R a cap l q → Calls Try.prog 50 #[.pointer (some ⟨R, 0, none⟩)] W fun e w' => e = .returned (.int .i64 (l.getD q 0)) ∧ Rd w' R a cap l (q + 1) ∧ W.grownBy w' (some R)) := fun q W h => next_any R cap a l q W h
  have HWd : Hid (∀ q W, Rd W R a cap l q → Calls Try.prog 79 #[.pointer (some ⟨R, 0, none⟩)] W fun e w' => e = .returned (.int .u32 (wordV l q)) ∧ Rd w' R a cap l (wordJ l q) ∧ W.grownBy w' (some R)) := fun q W h => drawWord_any R cap a l q W h
  have hx := isBytes_getD hl j
  have hcb : 0 ≤ c0 ∧ c0 ≤ 172 := by rw [← Hc.out]; exact codes_bd (by omega)
  unfold insD at HD
  unfold insDJ at HJ
  have HP : Hid (pickC l j = if c0 = 6 ∨ c0 = 22 then (if 0 < l.getD (j + 1) 0 % 4 then 32 else c0) else c0) := by unfold Hid pickC; rw [Hc.out]
  have HPJ : Hid (pickCJ l j = if c0 = 6 ∨ c0 = 22 then j + 2 else j + 1) := by unfold Hid pickCJ; rw [Hc.out]
  have hc0 := codes_cell (w.alloc (.cells #[.int .u16 0, .int .u8 0, .int .u8 0, .int .u32 0] 36)) (l.getD j 0 % 39).toNat (by omega)
  have hsz : (w.alloc (.cells #[.int .u16 0, .int .u8 0, .int .u8 0, .int .u32 0] 36)).heap.size = w.heap.size + 1 := by simp
  have hbox := (Box.new w 0 0 0 0).alloc (.cells (codesL.map (Value.int .i64)).toArray 3)
  have hRW := (hR.alloc (.cells #[.int .u16 0, .int .u8 0, .int .u8 0, .int .u32 0] 36)).alloc (.cells (codesL.map (Value.int .i64)).toArray 3)
  have hGW : w.grownBy ((w.alloc (.cells #[.int .u16 0, .int .u8 0, .int .u8 0, .int .u32 0] 36)).alloc (.cells (codesL.map (Value.int .i64)).toArray 3)) (some R) := rb_alloc (rb_alloc (World.grownBy.refl _ _) _) _
  rw [hsz, Hc.out] at hc0
  have hsW : ((w.alloc (.cells #[.int .u16 0, .int .u8 0, .int .u8 0, .int .u32 0] 36)).alloc (.cells (codesL.map (Value.int .i64)).toArray 3)).heap.size = w.heap.size + 2 := by simp
  go_enter Try.func101, Try.ntmps101
  go_wp2_with (go_at_call 102; refine (l1codes_any _).mono ?_; rintro e w' ⟨rfl, rfl⟩)
  generalize (w.alloc (.cells #[.int .u16 0, .int .u8 0, .int .u8 0, .int .u32 0] 36)).alloc (.cells (codesL.map (Value.int .i64)).toArray 3) = W at *
  clear hR hsz Hc
  obtain ⟨B, hB⟩ : ∃ B, w.heap.size = B := ⟨_, rfl⟩
  rw [hB] at hc0 hsW hbox hRw ⊢
  have HBw : Hid (w.heap.size = B) := hB
  clear hB
  go_wp2_with fail
  refine (HNx.out j W hRW).mono ?_
  rintro _ w1 ⟨rfl, hR1, hg1⟩
  have hbox1 := hbox.kept hg1 (by simp; omega)
  have hG1 := rb_trans hGW hg1
  have hc1 : w1.cell? ⟨B + 1, (l.getD j 0 % 39).toNat, none⟩ = some (.int .i64 c0) := (World.cell?_of_block (w := W) (hg1.block (B + 1) (by omega) (by simp; omega))).trans hc0
  clear hc0 hg1 hbox hGW hRW
  have hm0 : 0 ≤ l.getD j 0 % 39 := by omega
  generalize l.getD j 0 = x at *
  have e6 : c0 ≠ 6 := fun e => h6 (.inl e)
  have e22 : c0 ≠ 22 := fun e => h6 (.inr e)
  have b6 : (c0 == 6) = false := by simpa using e6
  have b22 : (c0 == 22) = false := by simpa using e22
  rw [HPJ.out, if_neg h6, HP.out, if_neg h6] at HD HJ
  clear HP HPJ
  have hv := wordV_bd l hl (j + 1)
  have HW1 := HWd.out (j + 1)
  generalize wordV l (j + 1) = k at *
  generalize wordJ l (j + 1) = j2 at *
  go_wp2_with fail
  refine (HW1 w1 hR1).mono ?_
  rintro _ w2 ⟨rfl, hR2, hg2⟩
  have hbox2 := hbox1.kept hg2 (by simp; omega)
  have hBlt : B < w2.heap.size := World.rowIs.lt hbox2
  have hG2 := rb_trans hG1 hg2
  have d0 := hbox2.c0
  have d1 := hbox2.c1
  have d2 := hbox2.c2
  have d3 := hbox2.c3
  have f0 := hbox2.fz 0
  have f1 := hbox2.fz 1
  have f2 := hbox2.fz 2
  have f3 := hbox2.fz 3
  clear hc1 hg2 HW1
  have hRs : R < w2.heap.size := by omega
  have hBs : w.heap.size ≤ w2.heap.size := by rw [HBw.out]; omega
  clear hbox1 hG1 hR1
  have hD : D = ⟨c0, 0, 0, if l.getD j2 0 = 7 then 15 else k % 3⟩ := by rw [← HD.out]; unfold insK; rw [if_neg g1, if_pos g2]
  have hJ : JD = j2 + 1 := by rw [← HJ.out]; unfold insJ; rw [if_neg g1, if_pos g2]
  have HN3 := HNx.out j2
  generalize l.getD j2 0 = y at *
  have hm : ((c0 = 96 ∨ c0 = 97) ∨ c0 = 2) ∨ c0 = 3 := by simpa [memB] using g2
  clear g1 b6 b22 e6 e22 h6 g2 HD HJ HNx HWd
  have hbI := Box.new w2 c0 0 0 (k % 3)
  have hRI := hR2.alloc (.cells #[.int .u16 c0, .int .u8 0, .int .u8 0, .int .u32 (k % 3)] 36)
  have hGI := rb_alloc hG2 (.cells #[.int .u16 c0, .int .u8 0, .int .u8 0, .int .u32 (k % 3)] 36)
  have hbB := hbox2.alloc (.cells #[.int .u16 c0, .int .u8 0, .int .u8 0, .int .u32 (k % 3)] 36)
  rcases hm with ((rfl | rfl) | rfl) | rfl
  all_goals
    go_wp2_with fail
    refine (HN3 _ hRI).mono ?_
    rintro _ w3 ⟨rfl, hR3, hgr3⟩
    have hbI3 := hbI.kept hgr3 (by simp; omega)
    have hbB3 := hbB.kept hgr3 (by simp; omega)
    have hG3 := rb_trans hGI hgr3
    clear d0 d1 d2 d3 f0 f1 f2 f3 hbI hbB hRI hGI hgr3 HN3
    have h0 := hbB3.c0
    have hf0 := hbB3.fz 0
    have h1 := hbB3.c1
    have hf1 := hbB3.fz 1
    have h2 := hbB3.c2
    have hf2 := hbB3.fz 2
    have h3 := hbB3.c3
    have hf3 := hbB3.fz 3
    have e0 := hbI3.c0
    have ef0 := hbI3.fz 0
    have e1 := hbI3.c1
    have ef1 := hbI3.fz 1
    have e2 := hbI3.c2
    have ef2 := hbI3.fz 2
    have e3 := hbI3.c3
    have ef3 := hbI3.fz 3
    have hne : B ≠ w2.heap.size := by omega
    by_cases h7 : y = 7
    · subst h7
      rw [if_pos rfl] at hD
      subst hD hJ
      go_wp2
      refine bodyPost_ret (v := insV _ 0 0 15) (by simp [results, Try.results101, go_sem, h0, h1, h2, h3]) rfl ⟨rfl, ?_, ?_⟩
      · repeat first | with_reducible exact hR3 | with_reducible refine Rd.alloc ?_ _ | with_reducible refine Rd.setO ?_ B _ hRw _ | with_reducible refine Rd.setO ?_ w2.heap.size _ hRs _
      · repeat first | with_reducible exact hG3 | with_reducible refine rb_alloc ?_ _ | with_reducible refine rb_setN ?_ (Nat.le_of_eq HBw.out) _ _ | with_reducible refine rb_setN ?_ hBs _ _
    · rw [if_neg h7] at hD
      have h7' : (y == 7) = false := by simpa using h7
      subst hD hJ
      go_wp2
      refine bodyPost_ret (v := insV _ 0 0 (k % 3)) (by simp [results, Try.results101, go_sem, h0, h1, h2, h3]) rfl ⟨rfl, ?_, ?_⟩
      · repeat first | with_reducible exact hR3 | with_reducible refine Rd.alloc ?_ _ | with_reducible refine Rd.setO ?_ B _ hRw _ | with_reducible refine Rd.setO ?_ w2.heap.size _ hRs _
      · repeat first | with_reducible exact hG3 | with_reducible refine rb_alloc ?_ _ | with_reducible refine rb_setN ?_ (Nat.le_of_eq HBw.out) _ _ | with_reducible refine rb_setN ?_ hBs _ _

set_option maxRecDepth 100000 in
set_option maxHeartbeats 2000000 in
theorem drawIns_5 (R cap : Nat) (a : Option Addr) (l : List Int) (j : Nat) (i n : Nat) (w : World) (hR : Rd w R a cap l j) (hi : i + 1 < n) (hn : n ≤ 31) (D : I) (JD : Nat) (HD : Hid (insD l j (n - i - 1) = D)) (HJ : Hid (insDJ l j = JD))
    (c0 : Int) (Hc : Hid (codesL.getD (l.getD j 0 % 39).toNat 0 = c0)) (g3 : c0 = 5) :
    Calls Try.prog 101 #[.pointer (some ⟨R, 0, none⟩), .int .i64 i, .int .i64 n] w fun e w' => e = .returned (.agg #[.int .u16 D.c, .int .u8 D.jt, .int .u8 D.jf, .int .u32 D.k]) ∧ Rd w' R a cap l JD ∧ w.grownBy w' (some R) := by
  have hRw := hR.lt
  have hl := hR.bys
  have HNx : Hid (∀ q W, Rd W R a cap l q → Calls Try.prog 50 #[.pointer (some ⟨R, 0, none⟩)] W fun e w' => e = .returned (.int .i64 (l.getD q 0)) ∧ Rd w' R a cap l (q + 1) ∧ W.grownBy w' (some R)) := fun q W h => next_any R cap a l q W h
  have HWd : Hid (∀ q W, Rd W R a cap l q → Calls Try.prog 79 #[.pointer (some ⟨R, 0, none⟩)] W fun e w' => e = .returned (.int .u32 (wordV l q)) ∧ Rd w' R a cap l (wordJ l q) ∧ W.grownBy w' (some R)) := fun q W h => drawWord_any R cap a l q W h
  have hx := isBytes_getD hl j
  have hcb : 0 ≤ c0 ∧ c0 ≤ 172 := by rw [← Hc.out]; exact codes_bd (by omega)
  unfold insD at HD
  unfold insDJ at HJ
  have HP : Hid (pickC l j = if c0 = 6 ∨ c0 = 22 then (if 0 < l.getD (j + 1) 0 % 4 then 32 else c0) else c0) := by unfold Hid pickC; rw [Hc.out]
  have HPJ : Hid (pickCJ l j = if c0 = 6 ∨ c0 = 22 then j + 2 else j + 1) := by unfold Hid pickCJ; rw [Hc.out]
  have hc0 := codes_cell (w.alloc (.cells #[.int .u16 0, .int .u8 0, .int .u8 0, .int .u32 0] 36)) (l.getD j 0 % 39).toNat (by omega)
  have hsz : (w.alloc (.cells #[.int .u16 0, .int .u8 0, .int .u8 0, .int .u32 0] 36)).heap.size = w.heap.size + 1 := by simp
  have hbox := (Box.new w 0 0 0 0).alloc (.cells (codesL.map (Value.int .i64)).toArray 3)
  have hRW := (hR.alloc (.cells #[.int .u16 0, .int .u8 0, .int .u8 0, .int .u32 0] 36)).alloc (.cells (codesL.map (Value.int .i64)).toArray 3)
  have hGW : w.grownBy ((w.alloc (.cells #[.int .u16 0, .int .u8 0, .int .u8 0, .int .u32 0] 36)).alloc (.cells (codesL.map (Value.int .i64)).toArray 3)) (some R) := rb_alloc (rb_alloc (World.grownBy.refl _ _) _) _
  rw [hsz, Hc.out] at hc0
  have hsW : ((w.alloc (.cells #[.int .u16 0, .int .u8 0, .int .u8 0, .int .u32 0] 36)).alloc (.cells (codesL.map (Value.int .i64)).toArray 3)).heap.size = w.heap.size + 2 := by simp
  go_enter Try.func101, Try.ntmps101
  go_wp2_with (go_at_call 102; refine (l1codes_any _).mono ?_; rintro e w' ⟨rfl, rfl⟩)
  generalize (w.alloc (.cells #[.int .u16 0, .int .u8 0, .int .u8 0, .int .u32 0] 36)).alloc (.cells (codesL.map (Value.int .i64)).toArray 3) = W at *
  clear hR hsz Hc
  obtain ⟨B, hB⟩ : ∃ B, w.heap.size = B := ⟨_, rfl⟩
  rw [hB] at hc0 hsW hbox hRw ⊢
  have HBw : Hid (w.heap.size = B) := hB
  clear hB
  go_wp2_with fail
  refine (HNx.out j W hRW).mono ?_
  rintro _ w1 ⟨rfl, hR1, hg1⟩
  have hbox1 := hbox.kept hg1 (by simp; omega)
  have hG1 := rb_trans hGW hg1
  have hc1 : w1.cell? ⟨B + 1, (l.getD j 0 % 39).toNat, none⟩ = some (.int .i64 c0) := (World.cell?_of_block (w := W) (hg1.block (B + 1) (by omega) (by simp; omega))).trans hc0
  clear hc0 hg1 hbox hGW hRW
  have hm0 : 0 ≤ l.getD j 0 % 39 := by omega
  generalize l.getD j 0 = x at *
  have h6 : ¬ (c0 = 6 ∨ c0 = 22) := by omega
  have e6 : c0 ≠ 6 := fun e => h6 (.inl e)
  have e22 : c0 ≠ 22 := fun e => h6 (.inr e)
  have b6 : (c0 == 6) = false := by simpa using e6
  have b22 : (c0 == 22) = false := by simpa using e22
  rw [HPJ.out, if_neg h6, HP.out, if_neg h6] at HD HJ
  clear HP HPJ
  have hv := wordV_bd l hl (j + 1)
  have HW1 := HWd.out (j + 1)
  generalize wordV l (j + 1) = k at *
  generalize wordJ l (j + 1) = j2 at *
  go_wp2_with fail
  refine (HW1 w1 hR1).mono ?_
  rintro _ w2 ⟨rfl, hR2, hg2⟩
  have hbox2 := hbox1.kept hg2 (by simp; omega)
  have hBlt : B < w2.heap.size := World.rowIs.lt hbox2
  have hG2 := rb_trans hG1 hg2
  have d0 := hbox2.c0
  have d1 := hbox2.c1
  have d2 := hbox2.c2
  have d3 := hbox2.c3
  have f0 := hbox2.fz 0
  have f1 := hbox2.fz 1
  have f2 := hbox2.fz 2
  have f3 := hbox2.fz 3
  clear hc1 hg2 HW1
  have hRs : R < w2.heap.size := by omega
  have hBs : w.heap.size ≤ w2.heap.size := by rw [HBw.out]; omega
  clear hbox1 hG1 hR1
  subst g3
  have hD : D = ⟨5, 0, 0, k % ((n : Int) - i - 1) % 5⟩ := by rw [← HD.out]; unfold insK; rw [if_neg (by decide), if_neg (by decide), if_pos rfl]
  have hJ : JD = j2 := by rw [← HJ.out]; unfold insJ; rw [if_neg (by decide), if_neg (by decide), if_pos rfl]
  subst hD hJ
  have hm1 : (n : Int) - i - 1 ≠ 0 := by omega
  have em : (k % ((n : Int) - i - 2 + 1)).tmod 5 = k % ((n : Int) - i - 1) % 5 := by
    rw [show (n : Int) - i - 2 + 1 = n - i - 1 by omega]
    exact Int.tmod_eq_emod_of_nonneg (Int.emod_nonneg _ hm1)
  go_wp2
  refine bodyPost_ret (v := insV 5 0 0 (k % ((n : Int) - i - 1) % 5)) (by simp [results, Try.results101, go_sem, d0, d1, d2, d3, hBlt]) rfl ⟨rfl, ?_, ?_⟩
  · repeat first | with_reducible exact hR2 | with_reducible refine Rd.alloc ?_ _ | with_reducible refine Rd.setO ?_ B _ hRw _ | with_reducible refine Rd.setO ?_ w2.heap.size _ hRs _
  · repeat first | with_reducible exact hG2 | with_reducible refine rb_alloc ?_ _ | with_reducible refine rb_setN ?_ (Nat.le_of_eq HBw.out) _ _ | with_reducible refine rb_setN ?_ hBs _ _

set_option maxRecDepth 100000 in
set_option maxHeartbeats 2000000 in
theorem drawIns_52 (R cap : Nat) (a : Option Addr) (l : List Int) (j : Nat) (i n : Nat) (w : World) (hR : Rd w R a cap l j) (hi : i + 1 < n) (hn : n ≤ 31) (D : I) (JD : Nat) (HD : Hid (insD l j (n - i - 1) = D)) (HJ : Hid (insDJ l j = JD))
    (c0 : Int) (Hc : Hid (codesL.getD (l.getD j 0 % 39).toNat 0 = c0)) (g4 : c0 = 52) :
    Calls Try.prog 101 #[.pointer (some ⟨R, 0, none⟩), .int .i64 i, .int .i64 n] w fun e w' => e = .returned (.agg #[.int .u16 D.c, .int .u8 D.jt, .int .u8 D.jf, .int .u32 D.k]) ∧ Rd w' R a cap l JD ∧ w.grownBy w' (some R) := by
  have hRw := hR.lt
  have hl := hR.bys
  have HNx : Hid (∀ q W, Rd W R a cap l q → Calls Try.prog 50 #[.pointer (some ⟨R, 0, none⟩)] W fun e w' => e = .returned (.int .i64 (l.getD q 0)) ∧ Rd w' R a cap l (q + 1) ∧ W.grownBy w' (some R)) := fun q W h => next_any R cap a l q W h
  have HWd : Hid (∀ q W, Rd W R a cap l q → Calls Try.prog 79 #[.pointer (some ⟨R, 0, none⟩)] W fun e w' => e = .returned (.int .u32 (wordV l q)) ∧ Rd w' R a cap l (wordJ l q) ∧ W.grownBy w' (some R)) := fun q W h => drawWord_any R cap a l q W h
  have hx := isBytes_getD hl j
  have hcb : 0 ≤ c0 ∧ c0 ≤ 172 := by rw [← Hc.out]; exact codes_bd (by omega)
  unfold insD at HD
  unfold insDJ at HJ
  have HP : Hid (pickC l j = if c0 = 6 ∨ c0 = 22 then (if 0 < l.getD (j + 1) 0 % 4 then 32 else c0) else c0) := by unfold Hid pickC; rw [Hc.out]
  have HPJ : Hid (pickCJ l j = if c0 = 6 ∨ c0 = 22 then j + 2 else j + 1) := by unfold Hid pickCJ; rw [Hc.out]
  have hc0 := codes_cell (w.alloc (.cells #[.int .u16 0, .int .u8 0, .int .u8 0, .int .u32 0] 36)) (l.getD j 0 % 39).toNat (by omega)
  have hsz : (w.alloc (.cells #[.int .u16 0, .int .u8 0, .int .u8 0, .int .u32 0] 36)).heap.size = w.heap.size + 1 := by simp
  have hbox := (Box.new w 0 0 0 0).alloc (.cells (codesL.map (Value.int .i64)).toArray 3)
  have hRW := (hR.alloc (.cells #[.int .u16 0, .int .u8 0, .int .u8 0, .int .u32 0] 36)).alloc (.cells (codesL.map (Value.int .i64)).toArray 3)
  have hGW : w.grownBy ((w.alloc (.cells #[.int .u16 0, .int .u8 0, .int .u8 0, .int .u32 0] 36)).alloc (.cells (codesL.map (Value.int .i64)).toArray 3)) (some R) := rb_alloc (rb_alloc (World.grownBy.refl _ _) _) _
  rw [hsz, Hc.out] at hc0
  have hsW : ((w.alloc (.cells #[.int .u16 0, .int .u8 0, .int .u8 0, .int .u32 0] 36)).alloc (.cells (codesL.map (Value.int .i64)).toArray 3)).heap.size = w.heap.size + 2 := by simp
  go_enter Try.func101, Try.ntmps101
  go_wp2_with (go_at_call 102; refine (l1codes_any _).mono ?_; rintro e w' ⟨rfl, rfl⟩)
  generalize (w.alloc (.cells #[.int .u16 0, .int .u8 0, .int .u8 0, .int .u32 0] 36)).alloc (.cells (codesL.map (Value.int .i64)).toArray 3) = W at *
  clear hR hsz Hc
  obtain ⟨B, hB⟩ : ∃ B, w.heap.size = B := ⟨_, rfl⟩
  rw [hB] at hc0 hsW hbox hRw ⊢
  have HBw : Hid (w.heap.size = B) := hB
  clear hB
  go_wp2_with fail
  refine (HNx.out j W hRW).mono ?_
  rintro _ w1 ⟨rfl, hR1, hg1⟩
  have hbox1 := hbox.kept hg1 (by simp; omega)
  have hG1 := rb_trans hGW hg1
  have hc1 : w1.cell? ⟨B + 1, (l.getD j 0 % 39).toNat, none⟩ = some (.int .i64 c0) := (World.cell?_of_block (w := W) (hg1.block (B + 1) (by omega) (by simp; omega))).trans hc0
  clear hc0 hg1 hbox hGW hRW
  have hm0 : 0 ≤ l.getD j 0 % 39 := by omega
  generalize l.getD j 0 = x at *
  have h6 : ¬ (c0 = 6 ∨ c0 = 22) := by omega
  have e6 : c0 ≠ 6 := fun e => h6 (.inl e)
  have e22 : c0 ≠ 22 := fun e => h6 (.inr e)
  have b6 : (c0 == 6) = false := by simpa using e6
  have b22 : (c0 == 22) = false := by simpa using e22
  rw [HPJ.out, if_neg h6, HP.out, if_neg h6] at HD HJ
  clear HP HPJ
  have hv := wordV_bd l hl (j + 1)
  have HW1 := HWd.out (j + 1)
  generalize wordV l (j + 1) = k at *
  generalize wordJ l (j + 1) = j2 at *
  go_wp2_with fail
  refine (HW1 w1 hR1).mono ?_
  rintro _ w2 ⟨rfl, hR2, hg2⟩
  have hbox2 := hbox1.kept hg2 (by simp; omega)
  have hBlt : B < w2.heap.size := World.rowIs.lt hbox2
  have hG2 := rb_trans hG1 hg2
  have d0 := hbox2.c0
  have d1 := hbox2.c1
  have d2 := hbox2.c2
  have d3 := hbox2.c3
  have f0 := hbox2.fz 0
  have f1 := hbox2.fz 1
  have f2 := hbox2.fz 2
  have f3 := hbox2.fz 3
  clear hc1 hg2 HW1
  have hRs : R < w2.heap.size := by omega
  have hBs : w.heap.size ≤ w2.heap.size := by rw [HBw.out]; omega
  clear hbox1 hG1 hR1
  subst g4
  have hD : D = ⟨52, 0, 0, bits .or .u32 k 1⟩ := by rw [← HD.out]; unfold insK; rw [if_neg (by decide), if_neg (by decide), if_neg (by decide), if_pos rfl]
  have hJ : JD = j2 := by rw [← HJ.out]; unfold insJ; rw [if_neg (by decide), if_neg (by decide), if_neg (by decide), if_pos rfl]
  subst hD hJ
  go_wp2
  refine bodyPost_ret (v := insV 52 0 0 (bits .or .u32 k 1)) (by simp [results, Try.results101, go_sem, d0, d1, d2, d3, hBlt]) rfl ⟨rfl, ?_, ?_⟩
  · repeat first | with_reducible exact hR2 | with_reducible refine Rd.alloc ?_ _ | with_reducible refine Rd.setO ?_ B _ hRw _ | with_reducible refine Rd.setO ?_ w2.heap.size _ hRs _
  · repeat first | with_reducible exact hG2 | with_reducible refine rb_alloc ?_ _ | with_reducible refine rb_setN ?_ (Nat.le_of_eq HBw.out) _ _ | with_reducible refine rb_setN ?_ hBs _ _

set_option maxRecDepth 100000 in
set_option maxHeartbeats 2000000 in
theorem drawIns_100 (R cap : Nat) (a : Option Addr) (l : List Int) (j : Nat) (i n : Nat) (w : World) (hR : Rd w R a cap l j) (hi : i + 1 < n) (hn : n ≤ 31) (D : I) (JD : Nat) (HD : Hid (insD l j (n - i - 1) = D)) (HJ : Hid (insDJ l j = JD))
    (c0 : Int) (Hc : Hid (codesL.getD (l.getD j 0 % 39).toNat 0 = c0)) (g5 : c0 = 100) :
    Calls Try.prog 101 #[.pointer (some ⟨R, 0, none⟩), .int .i64 i, .int .i64 n] w fun e w' => e = .returned (.agg #[.int .u16 D.c, .int .u8 D.jt, .int .u8 D.jf, .int .u32 D.k]) ∧ Rd w' R a cap l JD ∧ w.grownBy w' (some R) := by
  have hRw := hR.lt
  have hl := hR.bys
  have HNx : Hid (∀ q W, Rd W R a cap l q → Calls Try.prog 50 #[.pointer (some ⟨R, 0, none⟩)] W fun e w' => e = .returned (.int .i64 (l.getD q 0)) ∧ Rd w' R a cap l (q + 1) ∧ W.grownBy w' (some R)) := fun q W h => next_any R cap a l q W h
  have HWd : Hid (∀ q W, Rd W R a cap l q → Calls Try.prog 79 #[.pointer (some ⟨R, 0, none⟩)] W fun e w' => e = .returned (.int .u32 (wordV l q)) ∧ Rd w' R a cap l (wordJ l q) ∧ W.grownBy w' (some R)) := fun q W h => drawWord_any R cap a l q W h
  have hx := isBytes_getD hl j
  have hcb : 0 ≤ c0 ∧ c0 ≤ 172 := by rw [← Hc.out]; exact codes_bd (by omega)
  unfold insD at HD
  unfold insDJ at HJ
  have HP : Hid (pickC l j = if c0 = 6 ∨ c0 = 22 then (if 0 < l.getD (j + 1) 0 % 4 then 32 else c0) else c0) := by unfold Hid pickC; rw [Hc.out]
  have HPJ : Hid (pickCJ l j = if c0 = 6 ∨ c0 = 22 then j + 2 else j + 1) := by unfold Hid pickCJ; rw [Hc.out]
  have hc0 := codes_cell (w.alloc (.cells #[.int .u16 0, .int .u8 0, .int .u8 0, .int .u32 0] 36)) (l.getD j 0 % 39).toNat (by omega)
  have hsz : (w.alloc (.cells #[.int .u16 0, .int .u8 0, .int .u8 0, .int .u32 0] 36)).heap.size = w.heap.size + 1 := by simp
  have hbox := (Box.new w 0 0 0 0).alloc (.cells (codesL.map (Value.int .i64)).toArray 3)
  have hRW := (hR.alloc (.cells #[.int .u16 0, .int .u8 0, .int .u8 0, .int .u32 0] 36)).alloc (.cells (codesL.map (Value.int .i64)).toArray 3)
  have hGW : w.grownBy ((w.alloc (.cells #[.int .u16 0, .int .u8 0, .int .u8 0, .int .u32 0] 36)).alloc (.cells (codesL.map (Value.int .i64)).toArray 3)) (some R) := rb_alloc (rb_alloc (World.grownBy.refl _ _) _) _
  rw [hsz, Hc.out] at hc0
  have hsW : ((w.alloc (.cells #[.int .u16 0, .int .u8 0, .int .u8 0, .int .u32 0] 36)).alloc (.cells (codesL.map (Value.int .i64)).toArray 3)).heap.size = w.heap.size + 2 := by simp
  go_enter Try.func101, Try.ntmps101
  go_wp2_with (go_at_call 102; refine (l1codes_any _).mono ?_; rintro e w' ⟨rfl, rfl⟩)
  generalize (w.alloc (.cells #[.int .u16 0, .int .u8 0, .int .u8 0, .int .u32 0] 36)).alloc (.cells (codesL.map (Value.int .i64)).toArray 3) = W at *
  clear hR hsz Hc
  obtain ⟨B, hB⟩ : ∃ B, w.heap.size = B := ⟨_, rfl⟩
  rw [hB] at hc0 hsW hbox hRw ⊢
  have HBw : Hid (w.heap.size = B) := hB
  clear hB
  go_wp2_with fail
  refine (HNx.out j W hRW).mono ?_
  rintro _ w1 ⟨rfl, hR1, hg1⟩
  have hbox1 := hbox.kept hg1 (by simp; omega)
  have hG1 := rb_trans hGW hg1
  have hc1 : w1.cell? ⟨B + 1, (l.getD j 0 % 39).toNat, none⟩ = some (.int .i64 c0) := (World.cell?_of_block (w := W) (hg1.block (B + 1) (by omega) (by simp; omega))).trans hc0
  clear hc0 hg1 hbox hGW hRW
  have hm0 : 0 ≤ l.getD j 0 % 39 := by omega
  generalize l.getD j 0 = x at *
  have h6 : ¬ (c0 = 6 ∨ c0 = 22) := by omega
  have e6 : c0 ≠ 6 := fun e => h6 (.inl e)
  have e22 : c0 ≠ 22 := fun e => h6 (.inr e)
  have b6 : (c0 == 6) = false := by simpa using e6
  have b22 : (c0 == 22) = false := by simpa using e22
  rw [HPJ.out, if_neg h6, HP.out, if_neg h6] at HD HJ
  clear HP HPJ
  have hv := wordV_bd l hl (j + 1)
  have HW1 := HWd.out (j + 1)
  generalize wordV l (j + 1) = k at *
  generalize wordJ l (j + 1) = j2 at *
  go_wp2_with fail
  refine (HW1 w1 hR1).mono ?_
  rintro _ w2 ⟨rfl, hR2, hg2⟩
  have hbox2 := hbox1.kept hg2 (by simp; omega)
  have hBlt : B < w2.heap.size := World.rowIs.lt hbox2
  have hG2 := rb_trans hG1 hg2
  have d0 := hbox2.c0
  have d1 := hbox2.c1
  have d2 := hbox2.c2
  have d3 := hbox2.c3
  have f0 := hbox2.fz 0
  have f1 := hbox2.fz 1
  have f2 := hbox2.fz 2
  have f3 := hbox2.fz 3
  clear hc1 hg2 HW1
  have hRs : R < w2.heap.size := by omega
  have hBs : w.heap.size ≤ w2.heap.size := by rw [HBw.out]; omega
  clear hbox1 hG1 hR1
  subst g5
  have hD : D = ⟨100, 0, 0, k % 32⟩ := by rw [← HD.out]; unfold insK; rw [if_neg (by decide), if_neg (by decide), if_neg (by decide), if_neg (by decide), if_pos (by decide)]
  have hJ : JD = j2 := by rw [← HJ.out]; unfold insJ; rw [if_neg (by decide), if_neg (by decide), if_neg (by decide), if_neg (by decide), if_pos (by decide)]
  subst hD hJ
  go_wp2
  refine bodyPost_ret (v := insV 100 0 0 (k % 32)) (by simp [results, Try.results101, go_sem, d0, d1, d2, d3, hBlt]) rfl ⟨rfl, ?_, ?_⟩
  · repeat first | with_reducible exact hR2 | with_reducible refine Rd.alloc ?_ _ | with_reducible refine Rd.setO ?_ B _ hRw _ | with_reducible refine Rd.setO ?_ w2.heap.size _ hRs _
  · repeat first | with_reducible exact hG2 | with_reducible refine rb_alloc ?_ _ | with_reducible refine rb_setN ?_ (Nat.le_of_eq HBw.out) _ _ | with_reducible refine rb_setN ?_ hBs _ _

set_option maxRecDepth 100000 in
set_option maxHeartbeats 2000000 in
theorem drawIns_116 (R cap : Nat) (a : Option Addr) (l : List Int) (j : Nat) (i n : Nat) (w : World) (hR : Rd w R a cap l j) (hi : i + 1 < n) (hn : n ≤ 31) (D : I) (JD : Nat) (HD : Hid (insD l j (n - i - 1) = D)) (HJ : Hid (insDJ l j = JD))
    (c0 : Int) (Hc : Hid (codesL.getD (l.getD j 0 % 39).toNat 0 = c0)) (g5 : c0 = 116) :
    Calls Try.prog 101 #[.pointer (some ⟨R, 0, none⟩), .int .i64 i, .int .i64 n] w fun e w' => e = .returned (.agg #[.int .u16 D.c, .int .u8 D.jt, .int .u8 D.jf, .int .u32 D.k]) ∧ Rd w' R a cap l JD ∧ w.grownBy w' (some R) := by
  have hRw := hR.lt
  have hl := hR.bys
  have HNx : Hid (∀ q W, Rd W R a cap l q → Calls Try.prog 50 #[.pointer (some ⟨R, 0, none⟩)] W fun e w' => e = .returned (.int .i64 (l.getD q 0)) ∧ Rd w' R a cap l (q + 1) ∧ W.grownBy w' (some R)) := fun q W h => next_any R cap a l q W h
  have HWd : Hid (∀ q W, Rd W R a cap l q → Calls Try.prog 79 #[.pointer (some ⟨R, 0, none⟩)] W fun e w' => e = .returned (.int .u32 (wordV l q)) ∧ Rd w' R a cap l (wordJ l q) ∧ W.grownBy w' (some R)) := fun q W h => drawWord_any R cap a l q W h
  have hx := isBytes_getD hl j
  have hcb : 0 ≤ c0 ∧ c0 ≤ 172 := by rw [← Hc.out]; exact codes_bd (by omega)
  unfold insD at HD
  unfold insDJ at HJ
  have HP : Hid (pickC l j = if c0 = 6 ∨ c0 = 22 then (if 0 < l.getD (j + 1) 0 % 4 then 32 else c0) else c0) := by unfold Hid pickC; rw [Hc.out]
  have HPJ : Hid (pickCJ l j = if c0 = 6 ∨ c0 = 22 then j + 2 else j + 1) := by unfold Hid pickCJ; rw [Hc.out]
  have hc0 := codes_cell (w.alloc (.cells #[.int .u16 0, .int .u8 0, .int .u8 0, .int .u32 0] 36)) (l.getD j 0 % 39).toNat (by omega)
  have hsz : (w.alloc (.cells #[.int .u16 0, .int .u8 0, .int .u8 0, .int .u32 0] 36)).heap.size = w.heap.size + 1 := by simp
  have hbox := (Box.new w 0 0 0 0).alloc (.cells (codesL.map (Value.int .i64)).toArray 3)
  have hRW := (hR.alloc (.cells #[.int .u16 0, .int .u8 0, .int .u8 0, .int .u32 0] 36)).alloc (.cells (codesL.map (Value.int .i64)).toArray 3)
  have hGW : w.grownBy ((w.alloc (.cells #[.int .u16 0, .int .u8 0, .int .u8 0, .int .u32 0] 36)).alloc (.cells (codesL.map (Value.int .i64)).toArray 3)) (some R) := rb_alloc (rb_alloc (World.grownBy.refl _ _) _) _
  rw [hsz, Hc.out] at hc0
  have hsW : ((w.alloc (.cells #[.int .u16 0, .int .u8 0, .int .u8 0, .int .u32 0] 36)).alloc (.cells (codesL.map (Value.int .i64)).toArray 3)).heap.size = w.heap.size + 2 := by simp
  go_enter Try.func101, Try.ntmps101
  go_wp2_with (go_at_call 102; refine (l1codes_any _).mono ?_; rintro e w' ⟨rfl, rfl⟩)
  generalize (w.alloc (.cells #[.int .u16 0, .int .u8 0, .int .u8 0, .int .u32 0] 36)).alloc (.cells (codesL.map (Value.int .i64)).toArray 3) = W at *
  clear hR hsz Hc
  obtain ⟨B, hB⟩ : ∃ B, w.heap.size = B := ⟨_, rfl⟩
  rw [hB] at hc0 hsW hbox hRw ⊢
  have HBw : Hid (w.heap.size = B) := hB
  clear hB
  go_wp2_with fail
  refine (HNx.out j W hRW).mono ?_
  rintro _ w1 ⟨rfl, hR1, hg1⟩
  have hbox1 := hbox.kept hg1 (by simp; omega)
  have hG1 := rb_trans hGW hg1
  have hc1 : w1.cell? ⟨B + 1, (l.getD j 0 % 39).toNat, none⟩ = some (.int .i64 c0) := (World.cell?_of_block (w := W) (hg1.block (B + 1) (by omega) (by simp; omega))).trans hc0
  clear hc0 hg1 hbox hGW hRW
  have hm0 : 0 ≤ l.getD j 0 % 39 := by omega
  generalize l.getD j 0 = x at *
  have h6 : ¬ (c0 = 6 ∨ c0 = 22) := by omega
  have e6 : c0 ≠ 6 := fun e => h6 (.inl e)
  have e22 : c0 ≠ 22 := fun e => h6 (.inr e)
  have b6 : (c0 == 6) = false := by simpa using e6
  have b22 : (c0 == 22) = false := by simpa using e22
  rw [HPJ.out, if_neg h6, HP.out, if_neg h6] at HD HJ
  clear HP HPJ
  have hv := wordV_bd l hl (j + 1)
  have HW1 := HWd.out (j + 1)
  generalize wordV l (j + 1) = k at *
  generalize wordJ l (j + 1) = j2 at *
  go_wp2_with fail
  refine (HW1 w1 hR1).mono ?_
  rintro _ w2 ⟨rfl, hR2, hg2⟩
  have hbox2 := hbox1.kept hg2 (by simp; omega)
  have hBlt : B < w2.heap.size := World.rowIs.lt hbox2
  have hG2 := rb_trans hG1 hg2
  have d0 := hbox2.c0
  have d1 := hbox2.c1
  have d2 := hbox2.c2
  have d3 := hbox2.c3
  have f0 := hbox2.fz 0
  have f1 := hbox2.fz 1
  have f2 := hbox2.fz 2
  have f3 := hbox2.fz 3
  clear hc1 hg2 HW1
  have hRs : R < w2.heap.size := by omega
  have hBs : w.heap.size ≤ w2.heap.size := by rw [HBw.out]; omega
  clear hbox1 hG1 hR1
  subst g5
  have hD : D = ⟨116, 0, 0, k % 32⟩ := by rw [← HD.out]; unfold insK; rw [if_neg (by decide), if_neg (by decide), if_neg (by decide), if_neg (by decide), if_pos (by decide)]
  have hJ : JD = j2 := by rw [← HJ.out]; unfold insJ; rw [if_neg (by decide), if_neg (by decide), if_neg (by decide), if_neg (by decide), if_pos (by decide)]
  subst hD hJ
  go_wp2
  refine bodyPost_ret (v := insV 116 0 0 (k % 32)) (by simp [results, Try.results101, go_sem, d0, d1, d2, d3, hBlt]) rfl ⟨rfl, ?_, ?_⟩
  · repeat first | with_reducible exact hR2 | with_reducible refine Rd.alloc ?_ _ | with_reducible refine Rd.setO ?_ B _ hRw _ | with_reducible refine Rd.setO ?_ w2.heap.size _ hRs _
  · repeat first | with_reducible exact hG2 | with_reducible refine rb_alloc ?_ _ | with_reducible refine rb_setN ?_ (Nat.le_of_eq HBw.out) _ _ | with_reducible refine rb_setN ?_ hBs _ _

set_option maxRecDepth 100000 in
set_option maxHeartbeats 2000000 in
theorem drawIns_135 (R cap : Nat) (a : Option Addr) (l : List Int) (j : Nat) (i n : Nat) (w : World) (hR : Rd w R a cap l j) (hi : i + 1 < n) (hn : n ≤ 31) (D : I) (JD : Nat) (HD : Hid (insD l j (n - i - 1) = D)) (HJ : Hid (insDJ l j = JD))
    (c0 : Int) (Hc : Hid (codesL.getD (l.getD j 0 % 39).toNat 0 = c0)) (g7 : c0 = 135) :
    Calls Try.prog 101 #[.pointer (some ⟨R, 0, none⟩), .int .i64 i, .int .i64 n] w fun e w' => e = .returned (.agg #[.int .u16 D.c, .int .u8 D.jt, .int .u8 D.jf, .int .u32 D.k]) ∧ Rd w' R a cap l JD ∧ w.grownBy w' (some R) := by
  have hRw := hR.lt
  have hl := hR.bys
  have HNx : Hid (∀ q W, Rd W R a cap l q → Calls Try.prog 50 #[.pointer (some ⟨R, 0, none⟩)] W fun e w' => e = .returned (.int .i64 (l.getD q 0)) ∧ Rd w' R a cap l (q + 1) ∧ W.grownBy w' (some R)) := fun q W h => next_any R cap a l q W h
  have HWd : Hid (∀ q W, Rd W R a cap l q → Calls Try.prog 79 #[.pointer (some ⟨R, 0, none⟩)] W fun e w' => e = .returned (.int .u32 (wordV l q)) ∧ Rd w' R a cap l (wordJ l q) ∧ W.grownBy w' (some R)) := fun q W h => drawWord_any R cap a l q W h
  have hx := isBytes_getD hl j
  have hcb : 0 ≤ c0 ∧ c0 ≤ 172 := by rw [← Hc.out]; exact codes_bd (by omega)
  unfold insD at HD
  unfold insDJ at HJ
  have HP : Hid (pickC l j = if c0 = 6 ∨ c0 = 22 then (if 0 < l.getD (j + 1) 0 % 4 then 32 else c0) else c0) := by unfold Hid pickC; rw [Hc.out]
  have HPJ : Hid (pickCJ l j = if c0 = 6 ∨ c0 = 22 then j + 2 else j + 1) := by unfold Hid pickCJ; rw [Hc.out]
  have hc0 := codes_cell (w.alloc (.cells #[.int .u16 0, .int .u8 0, .int .u8 0, .int .u32 0] 36)) (l.getD j 0 % 39).toNat (by omega)
  have hsz : (w.alloc (.cells #[.int .u16 0, .int .u8 0, .int .u8 0, .int .u32 0] 36)).heap.size = w.heap.size + 1 := by simp
  have hbox := (Box.new w 0 0 0 0).alloc (.cells (codesL.map (Value.int .i64)).toArray 3)
  have hRW := (hR.alloc (.cells #[.int .u16 0, .int .u8 0, .int .u8 0, .int .u32 0] 36)).alloc (.cells (codesL.map (Value.int .i64)).toArray 3)
  have hGW : w.grownBy ((w.alloc (.cells #[.int .u16 0, .int .u8 0, .int .u8 0, .int .u32 0] 36)).alloc (.cells (codesL.map (Value.int .i64)).toArray 3)) (some R) := rb_alloc (rb_alloc (World.grownBy.refl _ _) _) _
  rw [hsz, Hc.out] at hc0
  have hsW : ((w.alloc (.cells #[.int .u16 0, .int .u8 0, .int .u8 0, .int .u32 0] 36)).alloc (.cells (codesL.map (Value.int .i64)).toArray 3)).heap.size = w.heap.size + 2 := by simp
  go_enter Try.func101, Try.ntmps101
  go_wp2_with (go_at_call 102; refine (l1codes_any _).mono ?_; rintro e w' ⟨rfl, rfl⟩)
  generalize (w.alloc (.cells #[.int .u16 0, .int .u8 0, .int .u8 0, .int .u32 0] 36)).alloc (.cells (codesL.map (Value.int .i64)).toArray 3) = W at *
  clear hR hsz Hc
  obtain ⟨B, hB⟩ : ∃ B, w.heap.size = B := ⟨_, rfl⟩
  rw [hB] at hc0 hsW hbox hRw ⊢
  have HBw : Hid (w.heap.size = B) := hB
  clear hB
  go_wp2_with fail
  refine (HNx.out j W hRW).mono ?_
  rintro _ w1 ⟨rfl, hR1, hg1⟩
  have hbox1 := hbox.kept hg1 (by simp; omega)
  have hG1 := rb_trans hGW hg1
  have hc1 : w1.cell? ⟨B + 1, (l.getD j 0 % 39).toNat, none⟩ = some (.int .i64 c0) := (World.cell?_of_block (w := W) (hg1.block (B + 1) (by omega) (by simp; omega))).trans hc0
  clear hc0 hg1 hbox hGW hRW
  have hm0 : 0 ≤ l.getD j 0 % 39 := by omega
  generalize l.getD j 0 = x at *
  have h6 : ¬ (c0 = 6 ∨ c0 = 22) := by omega
  have e6 : c0 ≠ 6 := fun e => h6 (.inl e)
  have e22 : c0 ≠ 22 := fun e => h6 (.inr e)
  have b6 : (c0 == 6) = false := by simpa using e6
  have b22 : (c0 == 22) = false := by simpa using e22
  rw [HPJ.out, if_neg h6, HP.out, if_neg h6] at HD HJ
  clear HP HPJ
  have hv := wordV_bd l hl (j + 1)
  have HW1 := HWd.out (j + 1)
  generalize wordV l (j + 1) = k at *
  generalize wordJ l (j + 1) = j2 at *
  go_wp2_with fail
  refine (HW1 w1 hR1).mono ?_
  rintro _ w2 ⟨rfl, hR2, hg2⟩
  have hbox2 := hbox1.kept hg2 (by simp; omega)
  have hBlt : B < w2.heap.size := World.rowIs.lt hbox2
  have hG2 := rb_trans hG1 hg2
  have d0 := hbox2.c0
  have d1 := hbox2.c1
  have d2 := hbox2.c2
  have d3 := hbox2.c3
  have f0 := hbox2.fz 0
  have f1 := hbox2.fz 1
  have f2 := hbox2.fz 2
  have f3 := hbox2.fz 3
  clear hc1 hg2 HW1
  have hRs : R < w2.heap.size := by omega
  have hBs : w.heap.size ≤ w2.heap.size := by rw [HBw.out]; omega
  clear hbox1 hG1 hR1
  subst g7
  have hya := isBytes_getD hl j2
  have HN4 := HNx.out j2
  have hD : D = ⟨135, l.getD j2 0, 0, k⟩ := by rw [← HD.out]; unfold insK; rw [if_neg (by decide), if_neg (by decide), if_neg (by decide), if_neg (by decide), if_neg (by decide), if_neg (by decide), if_pos (by decide)]
  have hJ : JD = j2 + 1 := by rw [← HJ.out]; unfold insJ; rw [if_neg (by decide), if_neg (by decide), if_neg (by decide), if_neg (by decide), if_neg (by decide), if_neg (by decide), if_pos (by decide)]
  clear HD HJ HNx HWd
  generalize l.getD j2 0 = ya at *
  subst hD hJ
  have hbI := Box.new w2 135 0 0 k
  have hRI := hR2.alloc (.cells #[.int .u16 135, .int .u8 0, .int .u8 0, .int .u32 k] 36)
  have hGI := rb_alloc hG2 (.cells #[.int .u16 135, .int .u8 0, .int .u8 0, .int .u32 k] 36)
  have hbB := hbox2.alloc (.cells #[.int .u16 135, .int .u8 0, .int .u8 0, .int .u32 k] 36)
  go_wp2_with fail
  refine (l1isTest_any 135 _ (by decide)).mono ?_
  rintro _ w3 ⟨rfl, hb3⟩
  rw [show tstB 135 = false from rfl]
  have hgr3 := rb_below (r := some R) hb3
  have hbI3 := hbI.kept hgr3 (by simp; omega)
  have hbB3 := hbB.kept hgr3 (by simp; omega)
  have hR3 := hRI.below hb3
  have hG3 := rb_trans hGI hgr3
  clear d0 d1 d2 d3 f0 f1 f2 f3 hbI hbB hRI hGI hb3 hgr3
  go_wp2_with fail
  refine (HN4 _ hR3).mono ?_
  rintro _ w4 ⟨rfl, hR4, hgr4⟩
  have hbI4 := hbI3.kept hgr4 (by simp; omega)
  have hbB4 := hbB3.kept hgr4 (by simp; omega)
  have hG4 := rb_trans hG3 hgr4
  clear hgr4 hbI3 hbB3 hR3 hG3
  have h0 := hbB4.c0
  have hf0 := hbB4.fz 0
  have h1 := hbB4.c1
  have hf1 := hbB4.fz 1
  have h2 := hbB4.c2
  have hf2 := hbB4.fz 2
  have h3 := hbB4.c3
  have hf3 := hbB4.fz 3
  have e0 := hbI4.c0
  have ef0 := hbI4.fz 0
  have e1 := hbI4.c1
  have ef1 := hbI4.fz 1
  have e2 := hbI4.c2
  have ef2 := hbI4.fz 2
  have e3 := hbI4.c3
  have ef3 := hbI4.fz 3
  have hne : B ≠ w2.heap.size := by omega
  go_wp2
  refine bodyPost_ret (v := insV 135 ya 0 k) (by simp [results, Try.results101, go_sem, h0, h1, h2, h3]) rfl ⟨rfl, ?_, ?_⟩
  · repeat first | with_reducible exact hR4 | with_reducible refine Rd.alloc ?_ _ | with_reducible refine Rd.setO ?_ B _ hRw _ | with_reducible refine Rd.setO ?_ w2.heap.size _ hRs _
  · repeat first | with_reducible exact hG4 | with_reducible refine rb_alloc ?_ _ | with_reducible refine rb_setN ?_ (Nat.le_of_eq HBw.out) _ _ | with_reducible refine rb_setN ?_ hBs _ _

set_option maxRecDepth 100000 in
set_option maxHeartbeats 2000000 in
theorem drawIns_7 (R cap : Nat) (a : Option Addr) (l : List Int) (j : Nat) (i n : Nat) (w : World) (hR : Rd w R a cap l j) (hi : i + 1 < n) (hn : n ≤ 31) (D : I) (JD : Nat) (HD : Hid (insD l j (n - i - 1) = D)) (HJ : Hid (insDJ l j = JD))
    (c0 : Int) (Hc : Hid (codesL.getD (l.getD j 0 % 39).toNat 0 = c0)) (g7 : c0 = 7) :
    Calls Try.prog 101 #[.pointer (some ⟨R, 0, none⟩), .int .i64 i, .int .i64 n] w fun e w' => e = .returned (.agg #[.int .u16 D.c, .int .u8 D.jt, .int .u8 D.jf, .int .u32 D.k]) ∧ Rd w' R a cap l JD ∧ w.grownBy w' (some R) := by
  have hRw := hR.lt
  have hl := hR.bys
  have HNx : Hid (∀ q W, Rd W R a cap l q → Calls Try.prog 50 #[.pointer (some ⟨R, 0, none⟩)] W fun e w' => e = .returned (.int .i64 (l.getD q 0)) ∧ Rd w' R a cap l (q + 1) ∧ W.grownBy w' (some R)) := fun q W h => next_any R cap a l q W h
  have HWd : Hid (∀ q W, Rd W R a cap l q → Calls Try.prog 79 #[.pointer (some ⟨R, 0, none⟩)] W fun e w' => e = .returned (.int .u32 (wordV l q)) ∧ Rd w' R a cap l (wordJ l q) ∧ W.grownBy w' (some R)) := fun q W h => drawWord_any R cap a l q W h
  have hx := isBytes_getD hl j
  have hcb : 0 ≤ c0 ∧ c0 ≤ 172 := by rw [← Hc.out]; exact codes_bd (by omega)
  unfold insD at HD
  unfold insDJ at HJ
  have HP : Hid (pickC l j = if c0 = 6 ∨ c0 = 22 then (if 0 < l.getD (j + 1) 0 % 4 then 32 else c0) else c0) := by unfold Hid pickC; rw [Hc.out]
  have HPJ : Hid (pickCJ l j = if c0 = 6 ∨ c0 = 22 then j + 2 else j + 1) := by unfold Hid pickCJ; rw [Hc.out]
  have hc0 := codes_cell (w.alloc (.cells #[.int .u16 0, .int .u8 0, .int .u8 0, .int .u32 0] 36)) (l.getD j 0 % 39).toNat (by omega)
  have hsz : (w.alloc (.cells #[.int .u16 0, .int .u8 0, .int .u8 0, .int .u32 0] 36)).heap.size = w.heap.size + 1 := by simp
  have hbox := (Box.new w 0 0 0 0).alloc (.cells (codesL.map (Value.int .i64)).toArray 3)
  have hRW := (hR.alloc (.cells #[.int .u16 0, .int .u8 0, .int .u8 0, .int .u32 0] 36)).alloc (.cells (codesL.map (Value.int .i64)).toArray 3)
  have hGW : w.grownBy ((w.alloc (.cells #[.int .u16 0, .int .u8 0, .int .u8 0, .int .u32 0] 36)).alloc (.cells (codesL.map (Value.int .i64)).toArray 3)) (some R) := rb_alloc (rb_alloc (World.grownBy.refl _ _) _) _
  rw [hsz, Hc.out] at hc0
  have hsW : ((w.alloc (.cells #[.int .u16 0, .int .u8 0, .int .u8 0, .int .u32 0] 36)).alloc (.cells (codesL.map (Value.int .i64)).toArray 3)).heap.size = w.heap.size + 2 := by simp
  go_enter Try.func101, Try.ntmps101
  go_wp2_with (go_at_call 102; refine (l1codes_any _).mono ?_; rintro e w' ⟨rfl, rfl⟩)
  generalize (w.alloc (.cells #[.int .u16 0, .int .u8 0, .int .u8 0, .int .u32 0] 36)).alloc (.cells (codesL.map (Value.int .i64)).toArray 3) = W at *
  clear hR hsz Hc
  obtain ⟨B, hB⟩ : ∃ B, w.heap.size = B := ⟨_, rfl⟩
  rw [hB] at hc0 hsW hbox hRw ⊢
  have HBw : Hid (w.heap.size = B) := hB
  clear hB
  go_wp2_with fail
  refine (HNx.out j W hRW).mono ?_
  rintro _ w1 ⟨rfl, hR1, hg1⟩
  have hbox1 := hbox.kept hg1 (by simp; omega)
  have hG1 := rb_trans hGW hg1
  have hc1 : w1.cell? ⟨B + 1, (l.getD j 0 % 39).toNat, none⟩ = some (.int .i64 c0) := (World.cell?_of_block (w := W) (hg1.block (B + 1) (by omega) (by simp; omega))).trans hc0
  clear hc0 hg1 hbox hGW hRW
  have hm0 : 0 ≤ l.getD j 0 % 39 := by omega
  generalize l.getD j 0 = x at *
  have h6 : ¬ (c0 = 6 ∨ c0 = 22) := by omega
  have e6 : c0 ≠ 6 := fun e => h6 (.inl e)
  have e22 : c0 ≠ 22 := fun e => h6 (.inr e)
  have b6 : (c0 == 6) = false := by simpa using e6
  have b22 : (c0 == 22) = false := by simpa using e22
  rw [HPJ.out, if_neg h6, HP.out, if_neg h6] at HD HJ
  clear HP HPJ
  have hv := wordV_bd l hl (j + 1)
  have HW1 := HWd.out (j + 1)
  generalize wordV l (j + 1) = k at *
  generalize wordJ l (j + 1) = j2 at *
  go_wp2_with fail
  refine (HW1 w1 hR1).mono ?_
  rintro _ w2 ⟨rfl, hR2, hg2⟩
  have hbox2 := hbox1.kept hg2 (by simp; omega)
  have hBlt : B < w2.heap.size := World.rowIs.lt hbox2
  have hG2 := rb_trans hG1 hg2
  have d0 := hbox2.c0
  have d1 := hbox2.c1
  have d2 := hbox2.c2
  have d3 := hbox2.c3
  have f0 := hbox2.fz 0
  have f1 := hbox2.fz 1
  have f2 := hbox2.fz 2
  have f3 := hbox2.fz 3
  clear hc1 hg2 HW1
  have hRs : R < w2.heap.size := by omega
  have hBs : w.heap.size ≤ w2.heap.size := by rw [HBw.out]; omega
  clear hbox1 hG1 hR1
  subst g7
  have hya := isBytes_getD hl j2
  have HN4 := HNx.out j2
  have hD : D = ⟨7, l.getD j2 0, 0, k⟩ := by rw [← HD.out]; unfold insK; rw [if_neg (by decide), if_neg (by decide), if_neg (by decide), if_neg (by decide), if_neg (by decide), if_neg (by decide), if_pos (by decide)]
  have hJ : JD = j2 + 1 := by rw [← HJ.out]; unfold insJ; rw [if_neg (by decide), if_neg (by decide), if_neg (by decide), if_neg (by decide), if_neg (by decide), if_neg (by decide), if_pos (by decide)]
  clear HD HJ HNx HWd
  generalize l.getD j2 0 = ya at *
  subst hD hJ
  have hbI := Box.new w2 7 0 0 k
  have hRI := hR2.alloc (.cells #[.int .u16 7, .int .u8 0, .int .u8 0, .int .u32 k] 36)
  have hGI := rb_alloc hG2 (.cells #[.int .u16 7, .int .u8 0, .int .u8 0, .int .u32 k] 36)
  have hbB := hbox2.alloc (.cells #[.int .u16 7, .int .u8 0, .int .u8 0, .int .u32 k] 36)
  go_wp2_with fail
  refine (l1isTest_any 7 _ (by decide)).mono ?_
  rintro _ w3 ⟨rfl, hb3⟩
  rw [show tstB 7 = false from rfl]
  have hgr3 := rb_below (r := some R) hb3
  have hbI3 := hbI.kept hgr3 (by simp; omega)
  have hbB3 := hbB.kept hgr3 (by simp; omega)
  have hR3 := hRI.below hb3
  have hG3 := rb_trans hGI hgr3
  clear d0 d1 d2 d3 f0 f1 f2 f3 hbI hbB hRI hGI hb3 hgr3
  go_wp2_with fail
  refine (HN4 _ hR3).mono ?_
  rintro _ w4 ⟨rfl, hR4, hgr4⟩
  have hbI4 := hbI3.kept hgr4 (by simp; omega)
  have hbB4 := hbB3.kept hgr4 (by simp; omega)
  have hG4 := rb_trans hG3 hgr4
  clear hgr4 hbI3 hbB3 hR3 hG3
  have h0 := hbB4.c0
  have hf0 := hbB4.fz 0
  have h1 := hbB4.c1
  have hf1 := hbB4.fz 1
  have h2 := hbB4.c2
  have hf2 := hbB4.fz 2
  have h3 := hbB4.c3
  have hf3 := hbB4.fz 3
  have e0 := hbI4.c0
  have ef0 := hbI4.fz 0
  have e1 := hbI4.c1
  have ef1 := hbI4.fz 1
  have e2 := hbI4.c2
  have ef2 := hbI4.fz 2
  have e3 := hbI4.c3
  have ef3 := hbI4.fz 3
  have hne : B ≠ w2.heap.size := by omega
  go_wp2
  refine bodyPost_ret (v := insV 7 ya 0 k) (by simp [results, Try.results101, go_sem, h0, h1, h2, h3]) rfl ⟨rfl, ?_, ?_⟩
  · repeat first | with_reducible exact hR4 | with_reducible refine Rd.alloc ?_ _ | with_reducible refine Rd.setO ?_ B _ hRw _ | with_reducible refine Rd.setO ?_ w2.heap.size _ hRs _
  · repeat first | with_reducible exact hG4 | with_reducible refine rb_alloc ?_ _ | with_reducible refine rb_setN ?_ (Nat.le_of_eq HBw.out) _ _ | with_reducible refine rb_setN ?_ hBs _ _

set_option maxRecDepth 100000 in
set_option maxHeartbeats 2000000 in
theorem drawIns_tst (R cap : Nat) (a : Option Addr) (l : List Int) (j : Nat) (i n : Nat) (w : World) (hR : Rd w R a cap l j) (hi : i + 1 < n) (hn : n ≤ 31) (D : I) (JD : Nat) (HD : Hid (insD l j (n - i - 1) = D)) (HJ : Hid (insDJ l j = JD))
    (c0 : Int) (Hc : Hid (codesL.getD (l.getD j 0 % 39).toNat 0 = c0)) (h6 : ¬ (c0 = 6 ∨ c0 = 22)) (g1 : c0 ≠ 32) (g2 : ¬ memB c0 = true) (g3 : c0 ≠ 5) (g4 : c0 ≠ 52) (g5 : ¬ (c0 = 100 ∨ c0 = 116)) (g6 : tstB c0 = true) :
    Calls Try.prog 101 #[.pointer (some ⟨R, 0, none⟩), .int .i64 i, .int .i64 n] w fun e w' => e = .returned (.agg #[.int .u16 D.c, .int .u8 D.jt, .int .u8 D.jf, .int .u32 D.k]) ∧ Rd w' R a cap l JD ∧ w.grownBy w' (some R) := by
  have hRw := hR.lt
  have hl := hR.bys
  have HNx : Hid (∀ q W, Rd W R a cap l q → Calls Try.prog 50 #[.pointer (some ⟨R, 0, none⟩)] W fun e w' => e = .returned (.int .i64 (l.getD q 0)) ∧ Rd w' R a cap l (q + 1) ∧ W.grownBy w' (some R)) := fun q W h => next_any R cap a l q W h
  have HWd : Hid (∀ q W, Rd W R a cap l q → Calls Try.prog 79 #[.pointer (some ⟨R, 0, none⟩)] W fun e w' => e = .returned (.int .u32 (wordV l q)) ∧ Rd w' R a cap l (wordJ l q) ∧ W.grownBy w' (some R)) := fun q W h => drawWord_any R cap a l q W h
  have hx := isBytes_getD hl j
  have hcb : 0 ≤ c0 ∧ c0 ≤ 172 := by rw [← Hc.out]; exact codes_bd (by omega)
  unfold insD at HD
  unfold insDJ at HJ
  have HP : Hid (pickC l j = if c0 = 6 ∨ c0 = 22 then (if 0 < l.getD (j + 1) 0 % 4 then 32 else c0) else c0) := by unfold Hid pickC; rw [Hc.out]
  have HPJ : Hid (pickCJ l j = if c0 = 6 ∨ c0 = 22 then j + 2 else j + 1) := by unfold Hid pickCJ; rw [Hc.out]
  have hc0 := codes_cell (w.alloc (.cells #[.int .u16 0, .int .u8 0, .int .u8 0, .int .u32 0] 36)) (l.getD j 0 % 39).toNat (by omega)
  have hsz : (w.alloc (.cells #[.int .u16 0, .int .u8 0, .int .u8 0, .int .u32 0] 36)).heap.size = w.heap.size + 1 := by simp
  have hbox := (Box.new w 0 0 0 0).alloc (.cells (codesL.map (Value.int .i64)).toArray 3)
  have hRW := (hR.alloc (.cells #[.int .u16 0, .int .u8 0, .int .u8 0, .int .u32 0] 36)).alloc (.cells (codesL.map (Value.int .i64)).toArray 3)
  have hGW : w.grownBy ((w.alloc (.cells #[.int .u16 0, .int .u8 0, .int .u8 0, .int .u32 0] 36)).alloc (.cells (codesL.map (Value.int .i64)).toArray 3)) (some R) := rb_alloc (rb_alloc (World.grownBy.refl _ _) _) _
  rw [hsz, Hc.out] at hc0
  have hsW : ((w.alloc (.cells #[.int .u16 0, .int .u8 0, .int .u8 0, .int .u32 0] 36)).alloc (.cells (codesL.map (Value.int .i64)).toArray 3)).heap.size = w.heap.size + 2 := by simp
  go_enter Try.func101, Try.ntmps101
  go_wp2_with (go_at_call 102; refine (l1codes_any _).mono ?_; rintro e w' ⟨rfl, rfl⟩)
  generalize (w.alloc (.cells #[.int .u16 0, .int .u8 0, .int .u8 0, .int .u32 0] 36)).alloc (.cells (codesL.map (Value.int .i64)).toArray 3) = W at *
  clear hR hsz Hc
  obtain ⟨B, hB⟩ : ∃ B, w.heap.size = B := ⟨_, rfl⟩
  rw [hB] at hc0 hsW hbox hRw ⊢
  have HBw : Hid (w.heap.size = B) := hB
  clear hB
  go_wp2_with fail
  refine (HNx.out j W hRW).mono ?_
  rintro _ w1 ⟨rfl, hR1, hg1⟩
  have hbox1 := hbox.kept hg1 (by simp; omega)
  have hG1 := rb_trans hGW hg1
  have hc1 : w1.cell? ⟨B + 1, (l.getD j 0 % 39).toNat, none⟩ = some (.int .i64 c0) := (World.cell?_of_block (w := W) (hg1.block (B + 1) (by omega) (by simp; omega))).trans hc0
  clear hc0 hg1 hbox hGW hRW
  have hm0 : 0 ≤ l.getD j 0 % 39 := by omega
  generalize l.getD j 0 = x at *
  have e6 : c0 ≠ 6 := fun e => h6 (.inl e)
  have e22 : c0 ≠ 22 := fun e => h6 (.inr e)
  have b6 : (c0 == 6) = false := by simpa using e6
  have b22 : (c0 == 22) = false := by simpa using e22
  rw [HPJ.out, if_neg h6, HP.out, if_neg h6] at HD HJ
  clear HP HPJ
  have hv := wordV_bd l hl (j + 1)
  have HW1 := HWd.out (j + 1)
  generalize wordV l (j + 1) = k at *
  generalize wordJ l (j + 1) = j2 at *
  go_wp2_with fail
  refine (HW1 w1 hR1).mono ?_
  rintro _ w2 ⟨rfl, hR2, hg2⟩
  have hbox2 := hbox1.kept hg2 (by simp; omega)
  have hBlt : B < w2.heap.size := World.rowIs.lt hbox2
  have hG2 := rb_trans hG1 hg2
  have d0 := hbox2.c0
  have d1 := hbox2.c1
  have d2 := hbox2.c2
  have d3 := hbox2.c3
  have f0 := hbox2.fz 0
  have f1 := hbox2.fz 1
  have f2 := hbox2.fz 2
  have f3 := hbox2.fz 3
  clear hc1 hg2 HW1
  have hRs : R < w2.heap.size := by omega
  have hBs : w.heap.size ≤ w2.heap.size := by rw [HBw.out]; omega
  clear hbox1 hG1 hR1
  have b1 : (c0 == 32) = false := by simpa using g1
  have b3 : (c0 == 5) = false := by simpa using g3
  have b4 : (c0 == 52) = false := by simpa using g4
  have b5 : (c0 == 100) = false := by simpa using (fun e => g5 (.inl e) : c0 ≠ 100)
  have b5' : (c0 == 116) = false := by simpa using (fun e => g5 (.inr e) : c0 ≠ 116)
  obtain ⟨m1, m2, m3, m4⟩ := memB_no g2
  have hD : D = ⟨c0, l.getD j2 0 % ((n : Int) - i - 1) % 6, l.getD (j2 + 1) 0 % ((n : Int) - i - 1) % 6, k⟩ := by rw [← HD.out]; unfold insK; rw [if_neg g1, if_neg g2, if_neg g3, if_neg g4, if_neg g5, if_pos g6]
  have hJ : JD = j2 + 1 + 1 := by rw [← HJ.out]; unfold insJ; rw [if_neg g1, if_neg g2, if_neg g3, if_neg g4, if_neg g5, if_pos g6]
  have hya := isBytes_getD hl j2
  have hyb := isBytes_getD hl (j2 + 1)
  have HN4 := HNx.out j2
  have HN5 := HNx.out (j2 + 1)
  clear HD HJ HNx HWd
  generalize l.getD j2 0 = ya at *
  generalize l.getD (j2 + 1) 0 = yb at *
  subst hD hJ
  have hbI := Box.new w2 c0 0 0 k
  have hRI := hR2.alloc (.cells #[.int .u16 c0, .int .u8 0, .int .u8 0, .int .u32 k] 36)
  have hGI := rb_alloc hG2 (.cells #[.int .u16 c0, .int .u8 0, .int .u8 0, .int .u32 k] 36)
  have hbB := hbox2.alloc (.cells #[.int .u16 c0, .int .u8 0, .int .u8 0, .int .u32 k] 36)
  go_wp2_with fail
  refine (l1isTest_any c0 _ hcb.1).mono ?_
  rintro _ w3 ⟨rfl, hb3⟩
  rw [g6]
  have hgr3 := rb_below (r := some R) hb3
  have hbI3 := hbI.kept hgr3 (by simp; omega)
  have hbB3 := hbB.kept hgr3 (by simp; omega)
  have hR3 := hRI.below hb3
  have hG3 := rb_trans hGI hgr3
  clear d0 d1 d2 d3 f0 f1 f2 f3 hbI hbB hRI hGI hb3 hgr3
  go_wp2_with fail
  refine (HN4 _ hR3).mono ?_
  rintro _ w4 ⟨rfl, hR4, hgr4⟩
  have hbI4 := hbI3.kept hgr4 (by simp; omega)
  have hbB4 := hbB3.kept hgr4 (by simp; omega)
  have hG4 := rb_trans hG3 hgr4
  clear hgr4 hbI3 hbB3 hR3 hG3
  go_wp2_with fail
  refine (HN5 _ hR4).mono ?_
  rintro _ w5 ⟨rfl, hR5, hgr5⟩
  have hbI5 := hbI4.kept hgr5 (by simp; omega)
  have hbB5 := hbB4.kept hgr5 (by simp; omega)
  have hG5 := rb_trans hG4 hgr5
  clear hgr5 hbI4 hbB4 hR4 hG4
  have h0 := hbB5.c0
  have hf0 := hbB5.fz 0
  have h1 := hbB5.c1
  have hf1 := hbB5.fz 1
  have h2 := hbB5.c2
  have hf2 := hbB5.fz 2
  have h3 := hbB5.c3
  have hf3 := hbB5.fz 3
  have e0 := hbI5.c0
  have ef0 := hbI5.fz 0
  have e1 := hbI5.c1
  have ef1 := hbI5.fz 1
  have e2 := hbI5.c2
  have ef2 := hbI5.fz 2
  have e3 := hbI5.c3
  have ef3 := hbI5.fz 3
  have hne : B ≠ w2.heap.size := by omega
  have hm1 : (n : Int) - i - 1 ≠ 0 := by omega
  have ema : (ya % ((n : Int) - i - 2 + 1)).tmod 6 = ya % ((n : Int) - i - 1) % 6 := by
    rw [show (n : Int) - i - 2 + 1 = n - i - 1 by omega]
    exact Int.tmod_eq_emod_of_nonneg (Int.emod_nonneg _ hm1)
  have emb : (yb % ((n : Int) - i - 2 + 1)).tmod 6 = yb % ((n : Int) - i - 1) % 6 := by
    rw [show (n : Int) - i - 2 + 1 = n - i - 1 by omega]
    exact Int.tmod_eq_emod_of_nonneg (Int.emod_nonneg _ hm1)
  have ra : ya % ((n : Int) - i - 1) % 6 % 256 = ya % ((n : Int) - i - 1) % 6 := by omega
  have rb : yb % ((n : Int) - i - 1) % 6 % 256 = yb % ((n : Int) - i - 1) % 6 := by omega
  go_wp2
  refine bodyPost_ret (v := insV c0 (ya % ((n : Int) - i - 1) % 6) (yb % ((n : Int) - i - 1) % 6) k) (by simp [results, Try.results101, go_sem, h0, h1, h2, h3]) rfl ⟨rfl, ?_, ?_⟩
  · repeat first | with_reducible exact hR5 | with_reducible refine Rd.alloc ?_ _ | with_reducible refine Rd.setO ?_ B _ hRw _ | with_reducible refine Rd.setO ?_ w2.heap.size _ hRs _
  · repeat first | with_reducible exact hG5 | with_reducible refine rb_alloc ?_ _ | with_reducible refine rb_setN ?_ (Nat.le_of_eq HBw.out) _ _ | with_reducible refine rb_setN ?_ hBs _ _

set_option maxRecDepth 100000 in
set_option maxHeartbeats 2000000 in
theorem drawIns_last (R cap : Nat) (a : Option Addr) (l : List Int) (j : Nat) (i n : Nat) (w : World) (hR : Rd w R a cap l j) (hi : i + 1 < n) (hn : n ≤ 31) (D : I) (JD : Nat) (HD : Hid (insD l j (n - i - 1) = D)) (HJ : Hid (insDJ l j = JD))
    (c0 : Int) (Hc : Hid (codesL.getD (l.getD j 0 % 39).toNat 0 = c0)) (h6 : ¬ (c0 = 6 ∨ c0 = 22)) (g1 : c0 ≠ 32) (g2 : ¬ memB c0 = true) (g3 : c0 ≠ 5) (g4 : c0 ≠ 52) (g5 : ¬ (c0 = 100 ∨ c0 = 116)) (g6 : ¬ tstB c0 = true) (g7 : ¬ (c0 = 135 ∨ c0 = 7)) :
    Calls Try.prog 101 #[.pointer (some ⟨R, 0, none⟩), .int .i64 i, .int .i64 n] w fun e w' => e = .returned (.agg #[.int .u16 D.c, .int .u8 D.jt, .int .u8 D.jf, .int .u32 D.k]) ∧ Rd w' R a cap l JD ∧ w.grownBy w' (some R) := by
  have hRw := hR.lt
  have hl := hR.bys
  have HNx : Hid (∀ q W, Rd W R a cap l q → Calls Try.prog 50 #[.pointer (some ⟨R, 0, none⟩)] W fun e w' => e = .returned (.int .i64 (l.getD q 0)) ∧ Rd w' R a cap l (q + 1) ∧ W.grownBy w' (some R)) := fun q W h => next_any R cap a l q W h
  have HWd : Hid (∀ q W, Rd W R a cap l q → Calls Try.prog 79 #[.pointer (some ⟨R, 0, none⟩)] W fun e w' => e = .returned (.int .u32 (wordV l q)) ∧ Rd w' R a cap l (wordJ l q) ∧ W.grownBy w' (some R)) := fun q W h => drawWord_any R cap a l q W h
  have hx := isBytes_getD hl j
  have hcb : 0 ≤ c0 ∧ c0 ≤ 172 := by rw [← Hc.out]; exact codes_bd (by omega)
  unfold insD at HD
  unfold insDJ at HJ
  have HP : Hid (pickC l j = if c0 = 6 ∨ c0 = 22 then (if 0 < l.getD (j + 1) 0 % 4 then 32 else c0) else c0) := by unfold Hid pickC; rw [Hc.out]
  have HPJ : Hid (pickCJ l j = if c0 = 6 ∨ c0 = 22 then j + 2 else j + 1) := by unfold Hid pickCJ; rw [Hc.out]
  have hc0 := codes_cell (w.alloc (.cells #[.int .u16 0, .int .u8 0, .int .u8 0, .int .u32 0] 36)) (l.getD j 0 % 39).toNat (by omega)
  have hsz : (w.alloc (.cells #[.int .u16 0, .int .u8 0, .int .u8 0, .int .u32 0] 36)).heap.size = w.heap.size + 1 := by simp
  have hbox := (Box.new w 0 0 0 0).alloc (.cells (codesL.map (Value.int .i64)).toArray 3)
  have hRW := (hR.alloc (.cells #[.int .u16 0, .int .u8 0, .int .u8 0, .int .u32 0] 36)).alloc (.cells (codesL.map (Value.int .i64)).toArray 3)
  have hGW : w.grownBy ((w.alloc (.cells #[.int .u16 0, .int .u8 0, .int .u8 0, .int .u32 0] 36)).alloc (.cells (codesL.map (Value.int .i64)).toArray 3)) (some R) := rb_alloc (rb_alloc (World.grownBy.refl _ _) _) _
  rw [hsz, Hc.out] at hc0
  have hsW : ((w.alloc (.cells #[.int .u16 0, .int .u8 0, .int .u8 0, .int .u32 0] 36)).alloc (.cells (codesL.map (Value.int .i64)).toArray 3)).heap.size = w.heap.size + 2 := by simp
  go_enter Try.func101, Try.ntmps101
  go_wp2_with (go_at_call 102; refine (l1codes_any _).mono ?_; rintro e w' ⟨rfl, rfl⟩)
  generalize (w.alloc (.cells #[.int .u16 0, .int .u8 0, .int .u8 0, .int .u32 0] 36)).alloc (.cells (codesL.map (Value.int .i64)).toArray 3) = W at *
  clear hR hsz Hc
  obtain ⟨B, hB⟩ : ∃ B, w.heap.size = B := ⟨_, rfl⟩
  rw [hB] at hc0 hsW hbox hRw ⊢
  have HBw : Hid (w.heap.size = B) := hB
  clear hB
  go_wp2_with fail
  refine (HNx.out j W hRW).mono ?_
  rintro _ w1 ⟨rfl, hR1, hg1⟩
  have hbox1 := hbox.kept hg1 (by simp; omega)
  have hG1 := rb_trans hGW hg1
  have hc1 : w1.cell? ⟨B + 1, (l.getD j 0 % 39).toNat, none⟩ = some (.int .i64 c0) := (World.cell?_of_block (w := W) (hg1.block (B + 1) (by omega) (by simp; omega))).trans hc0
  clear hc0 hg1 hbox hGW hRW
  have hm0 : 0 ≤ l.getD j 0 % 39 := by omega
  generalize l.getD j 0 = x at *
  have e6 : c0 ≠ 6 := fun e => h6 (.inl e)
  have e22 : c0 ≠ 22 := fun e => h6 (.inr e)
  have b6 : (c0 == 6) = false := by simpa using e6
  have b22 : (c0 == 22) = false := by simpa using e22
  rw [HPJ.out, if_neg h6, HP.out, if_neg h6] at HD HJ
  clear HP HPJ
  have hv := wordV_bd l hl (j + 1)
  have HW1 := HWd.out (j + 1)
  generalize wordV l (j + 1) = k at *
  generalize wordJ l (j + 1) = j2 at *
  go_wp2_with fail
  refine (HW1 w1 hR1).mono ?_
  rintro _ w2 ⟨rfl, hR2, hg2⟩
  have hbox2 := hbox1.kept hg2 (by simp; omega)
  have hBlt : B < w2.heap.size := World.rowIs.lt hbox2
  have hG2 := rb_trans hG1 hg2
  have d0 := hbox2.c0
  have d1 := hbox2.c1
  have d2 := hbox2.c2
  have d3 := hbox2.c3
  have f0 := hbox2.fz 0
  have f1 := hbox2.fz 1
  have f2 := hbox2.fz 2
  have f3 := hbox2.fz 3
  clear hc1 hg2 HW1
  have hRs : R < w2.heap.size := by omega
  have hBs : w.heap.size ≤ w2.heap.size := by rw [HBw.out]; omega
  clear hbox1 hG1 hR1
  have b1 : (c0 == 32) = false := by simpa using g1
  have b3 : (c0 == 5) = false := by simpa using g3
  have b4 : (c0 == 52) = false := by simpa using g4
  have b5 : (c0 == 100) = false := by simpa using (fun e => g5 (.inl e) : c0 ≠ 100)
  have b5' : (c0 == 116) = false := by simpa using (fun e => g5 (.inr e) : c0 ≠ 116)
  obtain ⟨m1, m2, m3, m4⟩ := memB_no g2
  have g6' : tstB c0 = false := by simpa using g6
  have b7 : (c0 == 135) = false := by simpa using (fun e => g7 (.inl e) : c0 ≠ 135)
  have b7' : (c0 == 7) = false := by simpa using (fun e => g7 (.inr e) : c0 ≠ 7)
  have hbI := Box.new w2 c0 0 0 k
  have hRI := hR2.alloc (.cells #[.int .u16 c0, .int .u8 0, .int .u8 0, .int .u32 k] 36)
  have hGI := rb_alloc hG2 (.cells #[.int .u16 c0, .int .u8 0, .int .u8 0, .int .u32 k] 36)
  have hbB := hbox2.alloc (.cells #[.int .u16 c0, .int .u8 0, .int .u8 0, .int .u32 k] 36)
  go_wp2_with fail
  refine (l1isTest_any c0 _ hcb.1).mono ?_
  rintro _ w3 ⟨rfl, hb3⟩
  rw [g6']
  have hgr3 := rb_below (r := some R) hb3
  have hbI3 := hbI.kept hgr3 (by simp; omega)
  have hbB3 := hbB.kept hgr3 (by simp; omega)
  have hR3 := hRI.below hb3
  have hG3 := rb_trans hGI hgr3
  clear d0 d1 d2 d3 f0 f1 f2 f3 hbI hbB hRI hGI hb3 hgr3
  have hD : D = ⟨c0, 0, 0, k⟩ := by rw [← HD.out]; unfold insK; rw [if_neg g1, if_neg g2, if_neg g3, if_neg g4, if_neg g5, if_neg g6, if_neg g7]
  have hJ : JD = j2 := by rw [← HJ.out]; unfold insJ; rw [if_neg g1, if_neg g2, if_neg g3, if_neg g4, if_neg g5, if_neg g6, if_neg g7]
  subst hD hJ
  have h0 := hbB3.c0
  have hf0 := hbB3.fz 0
  have h1 := hbB3.c1
  have hf1 := hbB3.fz 1
  have h2 := hbB3.c2
  have hf2 := hbB3.fz 2
  have h3 := hbB3.c3
  have hf3 := hbB3.fz 3
  have e0 := hbI3.c0
  have ef0 := hbI3.fz 0
  have e1 := hbI3.c1
  have ef1 := hbI3.fz 1
  have e2 := hbI3.c2
  have ef2 := hbI3.fz 2
  have e3 := hbI3.c3
  have ef3 := hbI3.fz 3
  have hne : B ≠ w2.heap.size := by omega
  go_wp2
  refine bodyPost_ret (v := insV c0 0 0 k) (by simp [results, Try.results101, go_sem, h0, h1, h2, h3]) rfl ⟨rfl, ?_, ?_⟩
  · repeat first | with_reducible exact hR3 | with_reducible refine Rd.alloc ?_ _ | with_reducible refine Rd.setO ?_ B _ hRw _ | with_reducible refine Rd.setO ?_ w2.heap.size _ hRs _
  · repeat first | with_reducible exact hG3 | with_reducible refine rb_alloc ?_ _ | with_reducible refine rb_setN ?_ (Nat.le_of_eq HBw.out) _ _ | with_reducible refine rb_setN ?_ hBs _ _

theorem drawIns_any (R cap : Nat) (a : Option Addr) (l : List Int) (j : Nat) (i n : Nat) (w : World) (hR : Rd w R a cap l j) (hi : i + 1 < n) (hn : n ≤ 31) :
    Calls Try.prog 101 #[.pointer (some ⟨R, 0, none⟩), .int .i64 i, .int .i64 n] w fun e w' => e = .returned (insV (insD l j (n - i - 1)).c (insD l j (n - i - 1)).jt (insD l j (n - i - 1)).jf (insD l j (n - i - 1)).k) ∧ Rd w' R a cap l (insDJ l j) ∧ w.grownBy w' (some R) := by
  obtain ⟨c, hc⟩ : ∃ c, codesL.getD (l.getD j 0 % 39).toNat 0 = c := ⟨_, rfl⟩
  by_cases h6 : c = 6 ∨ c = 22
  · by_cases hy : 0 < l.getD (j + 1) 0 % 4
    · exact drawIns_6a R cap a l j i n w hR hi hn _ _ rfl rfl c hc h6 hy
    · rcases h6 with h | h
      · exact drawIns_6b6 R cap a l j i n w hR hi hn _ _ rfl rfl c hc h hy
      · exact drawIns_6b22 R cap a l j i n w hR hi hn _ _ rfl rfl c hc h hy
  by_cases g1 : c = 32
  · exact drawIns_32 R cap a l j i n w hR hi hn _ _ rfl rfl c hc g1
  by_cases g2 : memB c = true
  · exact drawIns_mem R cap a l j i n w hR hi hn _ _ rfl rfl c hc h6 g1 g2
  by_cases g3 : c = 5
  · exact drawIns_5 R cap a l j i n w hR hi hn _ _ rfl rfl c hc g3
  by_cases g4 : c = 52
  · exact drawIns_52 R cap a l j i n w hR hi hn _ _ rfl rfl c hc g4
  by_cases g5 : c = 100 ∨ c = 116
  · rcases g5 with h | h
    · exact drawIns_100 R cap a l j i n w hR hi hn _ _ rfl rfl c hc h
    · exact drawIns_116 R cap a l j i n w hR hi hn _ _ rfl rfl c hc h
  by_cases g6 : tstB c = true
  · exact drawIns_tst R cap a l j i n w hR hi hn _ _ rfl rfl c hc h6 g1 g2 g3 g4 g5 g6
  by_cases g7 : c = 135 ∨ c = 7
  · rcases g7 with h | h
    · exact drawIns_135 R cap a l j i n w hR hi hn _ _ rfl rfl c hc h
    · exact drawIns_7 R cap a l j i n w hR hi hn _ _ rfl rfl c hc h
  exact drawIns_last R cap a l j i n w hR hi hn _ _ rfl rfl c hc h6 g1 g2 g3 g4 g5 g6 g7

end Go.Proofs.Ytjfgihmamoiipaa
