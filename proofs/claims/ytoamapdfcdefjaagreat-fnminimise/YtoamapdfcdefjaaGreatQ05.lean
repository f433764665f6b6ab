/-
  Read, ReadW, DrawU, DrawV
-/
import Derived.Test.YtoamapdfcdefjaaGreatQ02
import Derived.Test.YtoamapdfcdefjaaGreatQ01
import Derived.Deep.RegionWith
import Derived.Deep.DrawnRows
import Derived.Deep.RegionHeld3
import Derived.Test.YtoamapdfcdefjaaGreatQ03
namespace Go.Proofs.YtoamapdfcdefjaaGreat
open Go.RowKit
set_option linter.unusedVariables false

/-- the reader's two cells -/
def rdF (a : Option Addr) (cap : Nat) (l : List Int) (j : Nat) (i : Nat) : Value := if i = 0 then .slice a l.length cap else .int .i64 ((min j l.length : Nat) : Int)

/-- a reader in block R that has taken j of the bytes l (j goes on behind the last one, where it reads 0) -/
structure Rd (w : World) (R : Nat) (a : Option Addr) (cap : Nat) (l : List Int) (j : Nat) : Prop where
  row : w.rowIs R 58 2 (rdF a cap l j)
  src : l = [] ∨ ∃ b o, a = some ⟨b, o, none⟩ ∧ b < R ∧ BytesAt w b o l
  bys : isBytes l
  len : l.length ≤ 600
  cp : l.length ≤ cap

theorem Rd.lt {w : World} {R cap j : Nat} {a : Option Addr} {l : List Int} (h : Rd w R a cap l j) : R < w.heap.size := World.rowIs.lt h.row
theorem Rd.keep {w w1 : World} {R cap j : Nat} {a : Option Addr} {l : List Int} (h : Rd w R a cap l j) (e : ∀ k, k ≤ R → w1.heap[k]? = w.heap[k]?) : Rd w1 R a cap l j := by
  refine ⟨World.rowIs.of_block h.row (e R (Nat.le_refl _)), ?_, h.bys, h.len, h.cp⟩
  rcases h.src with h1 | ⟨b, o, h1, h2, h3⟩
  · exact .inl h1
  · exact .inr ⟨b, o, h1, h2, fun i hi => (World.cell?_of_block (w := w) (e b (by omega))).trans (h3 i hi)⟩
theorem Rd.below {w w1 : World} {R cap j : Nat} {a : Option Addr} {l : List Int} (h : Rd w R a cap l j) (hb : Below w.heap.size w w1) : Rd w1 R a cap l j :=
  h.keep (fun k hk => hb.block k (Nat.lt_of_le_of_lt hk h.lt))
theorem Rd.alloc {w : World} {R cap j : Nat} {a : Option Addr} {l : List Int} (h : Rd w R a cap l j) (o : Obj) : Rd (w.alloc o) R a cap l j :=
  h.keep (fun k hk => Below.heap_alloc w o k (Nat.lt_of_le_of_lt hk h.lt))
theorem Rd.drewN {w : World} {R cap j : Nat} {a : Option Addr} {l : List Int} (h : Rd w R a cap l j) (n : Nat) : Rd (w.drewN n) R a cap l j :=
  h.keep (fun k hk => rfl)
theorem Rd.grown {w w1 : World} {R cap j B : Nat} {a : Option Addr} {l : List Int} {row : Option Nat} (h : Rd w R a cap l j) (hg : w.grownBy w1 row) (hR : R < B) (hr : ∀ k, row = some k → B ≤ k) : Rd w1 R a cap l j :=
  h.keep (fun k hk => hg.block k (Nat.lt_of_le_of_lt hk h.lt) (fun e => by have := hr k e.symm; omega))
theorem Rd.set {w : World} {R cap j : Nat} {a : Option Addr} {l : List Int} (h : Rd w R a cap l j) (v : Int) (j' : Nat) (hv : v = ((min j' l.length : Nat) : Int)) : Rd (w.setCell ⟨R, 1, none⟩ (.int .i64 v)) R a cap l j' := by
  refine ⟨(World.rowIs.set h.row 1 (.int .i64 v)).congr (fun i hi => ?_), ?_, h.bys, h.len, h.cp⟩
  · unfold rdF
    by_cases e : i = 1
    · subst e; simp [hv]
    · have : i = 0 := by omega
      subst this; simp
  · rcases h.src with h1 | ⟨b, o, h1, h2, h3⟩
    · exact .inl h1
    · refine .inr ⟨b, o, h1, h2, fun i hi => (World.cell?_of_block (w := w) ?_).trans (h3 i hi)⟩
      exact Below.heap_setCell w ⟨R, 1, none⟩ _ b (by show b ≠ R; omega)
theorem Rd.past {w : World} {R cap j : Nat} {a : Option Addr} {l : List Int} (h : Rd w R a cap l j) (hj : l.length ≤ j) : Rd w R a cap l (j + 1) := by
  refine ⟨h.row.congr (fun i hi => ?_), h.src, h.bys, h.len, h.cp⟩
  unfold rdF
  rw [Nat.min_eq_right hj, Nat.min_eq_right (by omega)]

theorem rb_drewN {w w1 : World} {r : Option Nat} (h : w.grownBy w1 r) (n : Nat) : w.grownBy (w1.drewN n) r := ⟨h.os, h.tape, h.output, h.size, h.block⟩
theorem rb_alloc {w w1 : World} {r : Option Nat} (h : w.grownBy w1 r) (o : Obj) : w.grownBy (w1.alloc o) r :=
  ⟨h.os, h.tape, h.output, by have := h.size; simp; omega, fun k hk hne => (Below.heap_alloc w1 o k (by have := h.size; omega)).trans (h.block k hk hne)⟩
theorem rb_set {w wr : World} {D : Nat} (h : w.grownBy wr (some D)) (j : Nat) (v : Value) : w.grownBy (wr.setCell ⟨D, j, none⟩ v) (some D) :=
  ⟨h.os, h.tape, h.output, by have := h.size; simpa [World.setCell] using this, fun k hk hne => (Below.heap_setCell wr ⟨D, j, none⟩ v k (fun e => hne (by rw [e]))).trans (h.block k hk hne)⟩
theorem rb_below {w w1 : World} {r : Option Nat} (h : Below w.heap.size w w1) : w.grownBy w1 r := ⟨h.os, h.tape, h.output, h.size, fun k hk _ => h.block k hk⟩
theorem rb_trans {w w1 w2 : World} {r : Option Nat} (h : w.grownBy w1 r) (k : w1.grownBy w2 r) : w.grownBy w2 r :=
  ⟨k.os.trans h.os, k.tape.trans h.tape, k.output.trans h.output, Nat.le_trans h.size k.size, fun i hi hne => (k.block i (Nat.lt_of_lt_of_le hi h.size) hne).trans (h.block i hi hne)⟩
theorem rb_own {w wr w1 : World} {R : Nat} {row : Option Nat} (h : w.grownBy wr (some R)) (hg : wr.grownBy w1 row) (hr : ∀ k, row = some k → w.heap.size ≤ k) : w.grownBy w1 (some R) :=
  ⟨hg.os.trans h.os, hg.tape.trans h.tape, hg.output.trans h.output, Nat.le_trans h.size hg.size, fun k hk hne => (hg.block k (Nat.lt_of_lt_of_le hk h.size) (fun e => by have := hr k e.symm; omega)).trans (h.block k hk hne)⟩

set_option maxHeartbeats 1000000 in
theorem next_in (R b o cap : Nat) (l : List Int) (j : Nat) (w : World) (hR : Rd w R (some ⟨b, o, none⟩) cap l j) (hs : BytesAt w b o l) (hj : j < l.length) :
    Calls Tryz.prog 13 #[.pointer (some ⟨R, 0, none⟩)] w fun e w' => e = .returned (.int .i64 (l.getD j 0)) ∧ Rd w' R (some ⟨b, o, none⟩) cap l (j + 1) ∧ w.grownBy w' (some R) := by
  have HR : Hid (Rd w R (some ⟨b, o, none⟩) cap l j) := hR
  have hc := hs j hj
  have hcp := hR.cp
  have hlen := hR.len
  have hb := hR.bys
  have e0 : w.cell? ⟨R, 0, none⟩ = some (.slice (some ⟨b, o, none⟩) l.length cap) := World.rowIs.cell hR.row (by omega)
  have e1 : w.cell? ⟨R, 1, none⟩ = some (.int .i64 (j : Int)) := by rw [World.rowIs.cell hR.row (by omega)]; unfold rdF; rw [if_neg (by omega), Nat.min_eq_left (by omega)]
  have f1 : w.frozen? ⟨R, 1, none⟩ = false := World.rowIs.frozen hR.row 1
  have hx : 0 ≤ l.getD j 0 ∧ l.getD j 0 ≤ 255 := isBytes_getD hb j
  obtain ⟨x, ex⟩ : ∃ x, l.getD j 0 = x := ⟨_, rfl⟩
  rw [ex] at hc hx ⊢
  obtain ⟨n, en⟩ : ∃ n, l.length = n := ⟨_, rfl⟩
  have HN : Hid (l.length = n) := en
  rw [en] at hj hcp hlen e0
  clear ex en hs hR hb
  have hjn : (j : Int) < (n : Int) := by omega
  go_enter Tryz.func13, Tryz.ntmps13
  go_wp2_with fail
  go_quiet (fail)
  go_wp2_with fail
  go_quiet (fail)
  go_wp2
  go_ret
  refine ⟨rfl, (HR.out.drewN _).set _ (j + 1) (by rw [HN.out, Nat.min_eq_left (by omega)]; simp), ?_⟩
  exact rb_set (rb_drewN (World.grownBy.refl _ _) _) _ _

set_option maxHeartbeats 1000000 in
theorem next_out (R cap : Nat) (a : Option Addr) (l : List Int) (j : Nat) (w : World) (hR : Rd w R a cap l j) (hj : l.length ≤ j) :
    Calls Tryz.prog 13 #[.pointer (some ⟨R, 0, none⟩)] w fun e w' => e = .returned (.int .i64 (l.getD j 0)) ∧ Rd w' R a cap l (j + 1) ∧ w.grownBy w' (some R) := by
  have HR : Hid (Rd w R a cap l j) := hR
  have e0 : w.cell? ⟨R, 0, none⟩ = some (.slice a l.length cap) := World.rowIs.cell hR.row (by omega)
  have e1 : w.cell? ⟨R, 1, none⟩ = some (.int .i64 (l.length : Int)) := by rw [World.rowIs.cell hR.row (by omega)]; unfold rdF; rw [if_neg (by omega), Nat.min_eq_right (by omega)]
  have ex : l.getD j 0 = 0 := by rw [List.getD_eq_getElem?_getD, List.getElem?_eq_none hj]; rfl
  have hlen := hR.len
  rw [ex]
  obtain ⟨n, en⟩ : ∃ n, l.length = n := ⟨_, rfl⟩
  have HN : Hid (l.length = n) := en
  rw [en] at hj hlen e0 e1
  clear ex en hR
  go_enter Tryz.func13, Tryz.ntmps13
  go_wp2_with fail
  go_quiet (fail)
  go_wp2
  go_ret
  exact ⟨rfl, (HR.out.past (by rw [HN.out]; exact hj)).drewN _, rb_drewN (World.grownBy.refl _ _) _⟩

theorem next_any (R cap : Nat) (a : Option Addr) (l : List Int) (j : Nat) (w : World) (hR : Rd w R a cap l j) :
    Calls Tryz.prog 13 #[.pointer (some ⟨R, 0, none⟩)] w fun e w' => e = .returned (.int .i64 (l.getD j 0)) ∧ Rd w' R a cap l (j + 1) ∧ w.grownBy w' (some R) := by
  by_cases hj : j < l.length
  · rcases hR.src with rfl | ⟨b, o, rfl, h2, h3⟩
    · simp at hj
    · exact next_in R b o cap l j w hR h3 hj
  · exact next_out R cap a l j w hR (by omega)
end Go.Proofs.YtoamapdfcdefjaaGreat
namespace Go.Proofs.YtoamapdfcdefjaaGreat
open Go.RowKit
set_option linter.unusedVariables false

theorem isBytes_take {l : List Int} (h : isBytes l) (n : Nat) : isBytes (l.take n) := fun x hx => h x (List.mem_of_mem_take hx)

theorem rd_new (a : Option Addr) (cap : Nat) (l : List Int) (w : World) (hs : BSrc w a l) (hl : isBytes l) (n : Nat) (hn : (l.take 600).length = n) (hnl : n ≤ l.length) (hcap : n ≤ cap) (c : Array Value)
    (hc : c = #[.slice a (l.take 600).length cap, .int .i64 0]) : Rd (w.alloc (.cells c 58)) w.heap.size a cap (l.take 600) 0 := by
  subst hc
  refine ⟨?_, ?_, isBytes_take hl _, by rw [List.length_take]; omega, by omega⟩
  · refine World.rowIs_alloc w #[.slice a (l.take 600).length cap, .int .i64 0] _ _ (fun i hi => ?_)
    have h2 : i < 2 := hi
    have : i = 0 ∨ i = 1 := by omega
    rcases this with rfl | rfl
    · rfl
    · unfold rdF; simp
  · rcases hs with rfl | ⟨b, o, rfl, h2, h3⟩
    · exact .inl rfl
    · refine .inr ⟨b, o, rfl, h2, fun i hi => ?_⟩
      rw [hn] at hi
      rw [World.cell?_of_block (w := w) (Below.heap_alloc w _ b h2), h3 i (by omega)]
      have e : (l.take 600).getD i 0 = l.getD i 0 := by
        rw [List.getD_eq_getElem?_getD, List.getD_eq_getElem?_getD, List.getElem?_take, if_pos]
        rw [List.length_take] at hn; omega
      rw [e]

set_option maxHeartbeats 1000000 in
theorem open_any (a : Option Addr) (cap : Nat) (l : List Int) (w : World) (hs : BSrc w a l) (hl : isBytes l) (hcap : l.length ≤ cap) (hn : l.length ≤ 1048576) :
    Calls Tryz.prog 10 #[.slice a l.length cap] w fun e w' => ∃ R cap', e = .returned (.pointer (some ⟨R, 0, none⟩)) ∧ w.heap.size ≤ R ∧ Rd w' R a cap' (l.take 600) 0 ∧ Below w.heap.size w w' := by
  obtain ⟨n, en⟩ : ∃ n, l.length = n := ⟨_, rfl⟩
  have HN : Hid (l.length = n) := en
  rw [en] at hcap hn ⊢
  clear en
  by_cases hbig : 600 < n
  · have ht : (l.take 600).length = 600 := by rw [List.length_take, HN.out]; omega
    have HT : Hid ((l.take 600).length = 600) := ht
    clear ht
    go_enter Tryz.func10, Tryz.ntmps10
    go_wp2
    go_ret
    refine ⟨w.heap.size, cap, rfl, Nat.le_refl _, ?_, ?_⟩
    · exact rd_new a cap l w hs hl 600 HT.out (by rw [HN.out]; omega) (by omega) _ (by rw [HT.out])
    · exact (Below.refl _ _).alloc (Nat.le_refl _) _
  · have ht : (l.take 600).length = n := by rw [List.length_take, HN.out]; omega
    have HT : Hid ((l.take 600).length = n) := ht
    clear ht
    go_enter Tryz.func10, Tryz.ntmps10
    go_wp2
    go_ret
    refine ⟨w.heap.size, cap, rfl, Nat.le_refl _, ?_, ?_⟩
    · exact rd_new a cap l w hs hl n HT.out (by rw [HN.out]; omega) (by omega) _ (by rw [HT.out])
    · exact (Below.refl _ _).alloc (Nat.le_refl _) _

/-- a drawn word, and where the reader stands behind it -/
def wordV (l : List Int) (j : Nat) : Int :=
  if l.getD j 0 < 100 then l.getD j 0 % 20 else if l.getD j 0 < 130 then 2 ^ (l.getD j 0 % 32).toNat else if l.getD j 0 < 160 then 4294967295 - l.getD j 0 % 5
  else if l.getD j 0 < 190 then 2147483647 + l.getD j 0 % 3 else (l.getD j 0 * 16777619 + l.getD (j + 1) 0 * 65537 + l.getD (j + 2) 0) % 4294967296
def wordJ (l : List Int) (j : Nat) : Nat := if l.getD j 0 < 190 then j + 1 else j + 3

set_option maxHeartbeats 1000000 in
theorem drawWord_any (R cap : Nat) (a : Option Addr) (l : List Int) (j : Nat) (w : World) (hR : Rd w R a cap l j) :
    Calls Tryz.prog 45 #[.pointer (some ⟨R, 0, none⟩)] w fun e w' => e = .returned (.int .u32 (wordV l j)) ∧ Rd w' R a cap l (wordJ l j) ∧ w.grownBy w' (some R) := by
  have hx := isBytes_getD hR.bys j
  have hy := isBytes_getD hR.bys (j + 1)
  have hz := isBytes_getD hR.bys (j + 2)
  have HN1 : ∀ W, Rd W R a cap l j → Calls Tryz.prog 13 #[.pointer (some ⟨R, 0, none⟩)] W fun e w' => e = .returned (.int .i64 (l.getD j 0)) ∧ Rd w' R a cap l (j + 1) ∧ W.grownBy w' (some R) := fun W h => next_any R cap a l j W h
  have HN2 : ∀ W, Rd W R a cap l (j + 1) → Calls Tryz.prog 13 #[.pointer (some ⟨R, 0, none⟩)] W fun e w' => e = .returned (.int .i64 (l.getD (j + 1) 0)) ∧ Rd w' R a cap l (j + 2) ∧ W.grownBy w' (some R) := fun W h => next_any R cap a l (j + 1) W h
  have HN3 : ∀ W, Rd W R a cap l (j + 2) → Calls Tryz.prog 13 #[.pointer (some ⟨R, 0, none⟩)] W fun e w' => e = .returned (.int .i64 (l.getD (j + 2) 0)) ∧ Rd w' R a cap l (j + 3) ∧ W.grownBy w' (some R) := fun W h => next_any R cap a l (j + 2) W h
  obtain ⟨V, hV⟩ : ∃ V, wordV l j = V := ⟨_, rfl⟩
  obtain ⟨J, hJ⟩ : ∃ J, wordJ l j = J := ⟨_, rfl⟩
  rw [hV, hJ]
  unfold wordV at hV
  unfold wordJ at hJ
  generalize l.getD j 0 = x at *
  generalize l.getD (j + 1) 0 = y at *
  generalize l.getD (j + 2) 0 = z at *
  have HV : Hid _ := hV
  have HJ : Hid _ := hJ
  clear hV hJ
  go_enter Tryz.func45, Tryz.ntmps45
  go_wp2_with fail
  refine (HN1 _ hR).mono ?_
  rintro _ w1 ⟨rfl, hR1, hg1⟩
  by_cases c1 : x < 100
  · have hV : V = x % 20 := by rw [← HV.out, if_pos c1]
    have hJ : J = j + 1 := by rw [← HJ.out, if_pos (by omega)]
    subst hV hJ
    clear HV HJ HN2 HN3
    go_wp2
    go_ret
    exact ⟨rfl, hR1, hg1⟩
  by_cases c2 : x < 130
  · have hV : V = 2 ^ (x % 32).toNat := by rw [← HV.out, if_neg c1, if_pos c2]
    have hJ : J = j + 1 := by rw [← HJ.out, if_pos (by omega)]
    subst hV hJ
    clear HV HJ HN2 HN3
    go_wp2
    go_ret
    refine ⟨ret_int ?_, hR1, hg1⟩
    have hp : ∀ k : Nat, k < 32 → (2 : Int) ^ k % 4294967296 = 2 ^ k := by decide
    exact hp _ (by omega)
  by_cases c3 : x < 160
  · have hV : V = 4294967295 - x % 5 := by rw [← HV.out, if_neg c1, if_neg c2, if_pos c3]
    have hJ : J = j + 1 := by rw [← HJ.out, if_pos (by omega)]
    subst hV hJ
    clear HV HJ HN2 HN3
    go_wp2
    go_ret
    exact ⟨ret_int (by first | rfl | omega), hR1, hg1⟩
  by_cases c4 : x < 190
  · have hV : V = 2147483647 + x % 3 := by rw [← HV.out, if_neg c1, if_neg c2, if_neg c3, if_pos c4]
    have hJ : J = j + 1 := by rw [← HJ.out, if_pos (by omega)]
    subst hV hJ
    clear HV HJ HN2 HN3
    go_wp2
    go_ret
    exact ⟨ret_int (by first | rfl | omega), hR1, hg1⟩
  · have hV : V = (x * 16777619 + y * 65537 + z) % 4294967296 := by rw [← HV.out, if_neg c1, if_neg c2, if_neg c3, if_neg c4]
    have hJ : J = j + 3 := by rw [← HJ.out, if_neg (by omega)]
    subst hV hJ
    clear HV HJ
    go_wp2_with fail
    refine (HN2 _ hR1).mono ?_
    rintro _ w2 ⟨rfl, hR2, hg2⟩
    go_wp2_with fail
    refine (HN3 _ hR2).mono ?_
    rintro _ w3 ⟨rfl, hR3, hg3⟩
    go_wp2
    go_ret
    refine ⟨ret_int ?_, hR3, rb_trans hg1 (rb_trans hg2 hg3)⟩
    omega
end Go.Proofs.YtoamapdfcdefjaaGreat
namespace Go.Proofs.YtoamapdfcdefjaaGreat
open Go.RowKit
set_option linter.unusedVariables false

/-- a reader in block R -/
def Rdr (w : World) (R : Nat) : Prop := ∃ a cap l j, Rd w R a cap l j
def isU (x : Int) : Prop := 0 ≤ x ∧ x ≤ 18446744073709551615
theorem isU_bits (op : BinOp) (a b : Int) : isU (bits op .u64 a b) := ⟨bits_lo_u64 op a b, bits_hi_u64 op a b⟩
theorem isU_wrap (a : Int) : isU (IntKind.u64.wrap a) := by rw [IntKind.wrap_u64]; unfold isU; omega

theorem Rdr.lt {w : World} {R : Nat} (h : Rdr w R) : R < w.heap.size := by obtain ⟨a, cap, l, j, h⟩ := h; exact h.lt
theorem Rdr.below {w w1 : World} {R : Nat} (h : Rdr w R) (hb : Below w.heap.size w w1) : Rdr w1 R := by
  obtain ⟨a, cap, l, j, h⟩ := h; exact ⟨a, cap, l, j, h.below hb⟩
theorem Rdr.own {w w1 : World} {R B : Nat} {row : Option Nat} (h : Rdr w R) (hg : w.grownBy w1 row) (hR : R < B) (hr : ∀ k, row = some k → B ≤ k) : Rdr w1 R := by
  obtain ⟨a, cap, l, j, h⟩ := h; exact ⟨a, cap, l, j, h.grown hg hR hr⟩

/-- what a drawing function leaves: the reader, and nothing else of what was there changed -/
structure Dr (w : World) (R : Nat) (w' : World) : Prop where
  rd : Rdr w' R
  gr : w.grownBy w' (some R)
theorem Dr.refl {w : World} {R : Nat} (h : Rdr w R) : Dr w R w := ⟨h, World.grownBy.refl _ _⟩
theorem Dr.trans {w w1 w2 : World} {R : Nat} (h : Dr w R w1) (h' : Dr w1 R w2) : Dr w R w2 := ⟨h'.rd, rb_trans h.gr h'.gr⟩

def DrU (w : World) (R : Nat) (e : Ending) (w' : World) : Prop := ∃ x : Int, isU x ∧ e = .returned (.int .u64 x) ∧ Dr w R w'
theorem DrU.mk {w : World} {R : Nat} {x : Int} {w' : World} (h : isU x) (hd : Dr w R w') : DrU w R (.returned (.int .u64 x)) w' := ⟨x, h, rfl, hd⟩

theorem next_dr (R : Nat) (w : World) (h : Rdr w R) : Calls Tryz.prog 13 #[.pointer (some ⟨R, 0, none⟩)] w fun e w' => ∃ c : Int, 0 ≤ c ∧ c ≤ 255 ∧ e = .returned (.int .i64 c) ∧ Dr w R w' := by
  obtain ⟨a, cap, l, j, h⟩ := h
  refine (next_any R cap a l j w h).mono ?_
  rintro e w' ⟨rfl, h1, h2⟩
  have := isBytes_getD h.bys j
  exact ⟨_, this.1, this.2, rfl, ⟨⟨_, _, _, _, h1⟩, h2⟩⟩

theorem wordV_range (l : List Int) (hl : isBytes l) (j : Nat) : 0 ≤ wordV l j ∧ wordV l j ≤ 4294967295 := by
  have hx := isBytes_getD hl j
  unfold wordV
  have hp : ∀ k : Nat, k < 32 → (1 : Int) ≤ 2 ^ k ∧ (2 : Int) ^ k ≤ 4294967295 := by decide
  have := hp (l.getD j 0 % 32).toNat (by omega)
  split
  · omega
  · split
    · omega
    · split
      · omega
      · split <;> omega

theorem word_dr (R : Nat) (w : World) (h : Rdr w R) : Calls Tryz.prog 45 #[.pointer (some ⟨R, 0, none⟩)] w fun e w' => ∃ c : Int, 0 ≤ c ∧ c ≤ 4294967295 ∧ e = .returned (.int .u32 c) ∧ Dr w R w' := by
  obtain ⟨a, cap, l, j, h⟩ := h
  refine (drawWord_any R cap a l j w h).mono ?_
  rintro e w' ⟨rfl, h1, h2⟩
  have := wordV_range l h.bys j
  exact ⟨_, this.1, this.2, rfl, ⟨⟨_, _, _, _, h1⟩, h2⟩⟩

set_option maxRecDepth 100000 in
set_option maxHeartbeats 2000000 in
theorem arg_dr (R : Nat) (w : World) (h : Rdr w R) : Calls Tryz.prog 26 #[.pointer (some ⟨R, 0, none⟩)] w (DrU w R) := by
  have HN : Hid (∀ w, Rdr w R → Calls Tryz.prog 13 #[.pointer (some ⟨R, 0, none⟩)] w fun e w' => ∃ c : Int, 0 ≤ c ∧ c ≤ 255 ∧ e = .returned (.int .i64 c) ∧ Dr w R w') := fun w h => next_dr R w h
  have HW : Hid (∀ w, Rdr w R → Calls Tryz.prog 45 #[.pointer (some ⟨R, 0, none⟩)] w fun e w' => ∃ c : Int, 0 ≤ c ∧ c ≤ 4294967295 ∧ e = .returned (.int .u32 c) ∧ Dr w R w') := fun w h => word_dr R w h
  go_enter Tryz.func26, Tryz.ntmps26
  go_wp2_with fail
  refine (HN.out _ h).mono ?_
  rintro _ w1 ⟨c, c0, c1, rfl, D1⟩
  go_wp2_with fail
  all_goals first
    | (go_ret; exact DrU.mk (by first | exact isU_wrap _ | exact isU_bits _ _ _ | (unfold isU; omega)) D1)
    | (refine (HW.out _ D1.rd).mono ?_
       rintro _ w2 ⟨a, a0, a1, rfl, D2⟩
       go_wp2_with fail
       refine (HW.out _ D2.rd).mono ?_
       rintro _ w3 ⟨b, b0, b1, rfl, D3⟩
       go_wp2
       go_ret
       exact DrU.mk (isU_bits _ _ _) (D1.trans (D2.trans D3)))

set_option maxRecDepth 100000 in
set_option maxHeartbeats 2000000 in
theorem near_dr (R : Nat) (v : Int) (w : World) (hv : isU v) (h : Rdr w R) : Calls Tryz.prog 27 #[.int .u64 v, .pointer (some ⟨R, 0, none⟩)] w (DrU w R) := by
  have HN : Hid (∀ w, Rdr w R → Calls Tryz.prog 13 #[.pointer (some ⟨R, 0, none⟩)] w fun e w' => ∃ c : Int, 0 ≤ c ∧ c ≤ 255 ∧ e = .returned (.int .i64 c) ∧ Dr w R w') := fun w h => next_dr R w h
  have HA : Hid (∀ w, Rdr w R → Calls Tryz.prog 26 #[.pointer (some ⟨R, 0, none⟩)] w (DrU w R)) := fun w h => arg_dr R w h
  have HV : Hid (isU v) := hv
  have hv0 := hv.1
  have hv1 := hv.2
  clear hv
  go_enter Tryz.func27, Tryz.ntmps27
  go_wp2_with fail
  refine (HN.out _ h).mono ?_
  rintro _ w1 ⟨c, c0, c1, rfl, D1⟩
  go_wp2_with fail
  all_goals first
    | (go_ret; exact DrU.mk (by first | exact HV.out | exact isU_wrap _ | exact isU_bits _ _ _ | (unfold isU; omega)) D1)
    | (refine (HA.out _ D1.rd).mono ?_
       rintro _ w2 ⟨x, hx, rfl, D2⟩
       go_wp2
       go_ret
       exact DrU.mk hx (D1.trans D2))
end Go.Proofs.YtoamapdfcdefjaaGreat
namespace Go.Proofs.YtoamapdfcdefjaaGreat
open Go.RowKit
set_option linter.unusedVariables false

/-- a drawn argument, and where the reader stands behind it -/
def argV (l : List Int) (j : Nat) : Int :=
  if l.getD j 0 < 120 then l.getD j 0 % 12 else if l.getD j 0 < 150 then l.getD j 0 % 3 * 4294967296 else if l.getD j 0 < 170 then 18446744073709551615 - l.getD j 0 % 3
  else if l.getD j 0 < 190 then 2 ^ (l.getD j 0 * 7 % 64).toNat else if l.getD j 0 < 215 then 140733193392128 + l.getD j 0 % 16 * 4096 else if l.getD j 0 < 225 then 4294967295 + l.getD j 0 % 3
  else bits .xor .u64 (wordV l (j + 1) * 4294967297) (wordV l (wordJ l (j + 1)))
def argJ (l : List Int) (j : Nat) : Nat := if l.getD j 0 < 225 then j + 1 else wordJ l (wordJ l (j + 1))

theorem pow_64 : ∀ k : Nat, k < 64 → (2 : Int) ^ k ≤ 9223372036854775808 ∧ (2 : Int) ^ k % 18446744073709551616 = 2 ^ k ∧ 0 ≤ (2 : Int) ^ k := by decide

theorem argV_isU (l : List Int) (hl : isBytes l) (j : Nat) : isU (argV l j) := by
  have hx := isBytes_getD hl j
  unfold argV
  split
  · unfold isU; omega
  split
  · unfold isU; omega
  split
  · unfold isU; omega
  split
  · have := pow_64 (l.getD j 0 * 7 % 64).toNat (by omega)
    unfold isU; omega
  split
  · unfold isU; omega
  split
  · unfold isU; omega
  · exact isU_bits _ _ _

set_option maxRecDepth 100000 in
set_option maxHeartbeats 2000000 in
theorem arg_any (R cap : Nat) (a : Option Addr) (l : List Int) (j : Nat) (w : World) (hR : Rd w R a cap l j) :
    Calls Tryz.prog 26 #[.pointer (some ⟨R, 0, none⟩)] w fun e w' => e = .returned (.int .u64 (argV l j)) ∧ Rd w' R a cap l (argJ l j) ∧ w.grownBy w' (some R) := by
  have hx := isBytes_getD hR.bys j
  have HN1 : Hid (∀ W, Rd W R a cap l j → Calls Tryz.prog 13 #[.pointer (some ⟨R, 0, none⟩)] W fun e w' => e = .returned (.int .i64 (l.getD j 0)) ∧ Rd w' R a cap l (j + 1) ∧ W.grownBy w' (some R)) := fun W h => next_any R cap a l j W h
  have HW1 : Hid (∀ W, Rd W R a cap l (j + 1) → Calls Tryz.prog 45 #[.pointer (some ⟨R, 0, none⟩)] W fun e w' => e = .returned (.int .u32 (wordV l (j + 1))) ∧ Rd w' R a cap l (wordJ l (j + 1)) ∧ W.grownBy w' (some R)) := fun W h => drawWord_any R cap a l (j + 1) W h
  have HW2 : Hid (∀ W, Rd W R a cap l (wordJ l (j + 1)) → Calls Tryz.prog 45 #[.pointer (some ⟨R, 0, none⟩)] W fun e w' => e = .returned (.int .u32 (wordV l (wordJ l (j + 1)))) ∧ Rd w' R a cap l (wordJ l (wordJ l (j + 1))) ∧ W.grownBy w' (some R)) := fun W h => drawWord_any R cap a l (wordJ l (j + 1)) W h
  obtain ⟨ha0, ha1⟩ := wordV_range l hR.bys (j + 1)
  obtain ⟨hb0, hb1⟩ := wordV_range l hR.bys (wordJ l (j + 1))
  obtain ⟨V, hV⟩ : ∃ V, argV l j = V := ⟨_, rfl⟩
  obtain ⟨J, hJ⟩ : ∃ J, argJ l j = J := ⟨_, rfl⟩
  rw [hV, hJ]
  unfold argV at hV
  unfold argJ at hJ
  generalize l.getD j 0 = x at *
  generalize wordV l (j + 1) = y at *
  generalize wordV l (wordJ l (j + 1)) = z at *
  generalize wordJ l (wordJ l (j + 1)) = J3 at *
  generalize wordJ l (j + 1) = J2 at *
  have HV : Hid _ := hV
  have HJ : Hid _ := hJ
  clear hV hJ
  go_enter Tryz.func26, Tryz.ntmps26
  go_wp2_with fail
  refine (HN1.out _ hR).mono ?_
  rintro _ w1 ⟨rfl, hR1, hg1⟩
  by_cases c1 : x < 120
  · have hV : V = x % 12 := by rw [← HV.out, if_pos c1]
    have hJ : J = j + 1 := by rw [← HJ.out, if_pos (by omega)]
    subst hV hJ
    clear HV HJ HW1 HW2
    go_wp2
    go_ret
    exact ⟨rfl, hR1, hg1⟩
  by_cases c2 : x < 150
  · have hV : V = x % 3 * 4294967296 := by rw [← HV.out, if_neg c1, if_pos c2]
    have hJ : J = j + 1 := by rw [← HJ.out, if_pos (by omega)]
    subst hV hJ
    clear HV HJ HW1 HW2
    go_wp2
    go_ret
    exact ⟨rfl, hR1, hg1⟩
  by_cases c3 : x < 170
  · have hV : V = 18446744073709551615 - x % 3 := by rw [← HV.out, if_neg c1, if_neg c2, if_pos c3]
    have hJ : J = j + 1 := by rw [← HJ.out, if_pos (by omega)]
    subst hV hJ
    clear HV HJ HW1 HW2
    go_wp2
    go_ret
    exact ⟨rfl, hR1, hg1⟩
  by_cases c4 : x < 190
  · have hV : V = 2 ^ (x * 7 % 64).toNat := by rw [← HV.out, if_neg c1, if_neg c2, if_neg c3, if_pos c4]
    have hJ : J = j + 1 := by rw [← HJ.out, if_pos (by omega)]
    subst hV hJ
    clear HV HJ HW1 HW2
    go_wp2
    go_ret
    refine ⟨ret_int ?_, hR1, hg1⟩
    have hp := (pow_64 (x * 7 % 64).toNat (by omega)).2.1
    first | exact hp | (rw [IntKind.wrap_u64]; exact hp)
  by_cases c5 : x < 215
  · have hV : V = 140733193392128 + x % 16 * 4096 := by rw [← HV.out, if_neg c1, if_neg c2, if_neg c3, if_neg c4, if_pos c5]
    have hJ : J = j + 1 := by rw [← HJ.out, if_pos (by omega)]
    subst hV hJ
    clear HV HJ HW1 HW2
    go_wp2
    go_ret
    exact ⟨rfl, hR1, hg1⟩
  by_cases c6 : x < 225
  · have hV : V = 4294967295 + x % 3 := by rw [← HV.out, if_neg c1, if_neg c2, if_neg c3, if_neg c4, if_neg c5, if_pos c6]
    have hJ : J = j + 1 := by rw [← HJ.out, if_pos c6]
    subst hV hJ
    clear HV HJ HW1 HW2
    go_wp2
    go_ret
    exact ⟨rfl, hR1, hg1⟩
  · have hV : V = bits .xor .u64 (y * 4294967297) z := by rw [← HV.out, if_neg c1, if_neg c2, if_neg c3, if_neg c4, if_neg c5, if_neg c6]
    have hJ : J = J3 := by rw [← HJ.out, if_neg c6]
    subst hV hJ
    clear HV HJ
    go_wp2_with fail
    refine (HW1.out _ hR1).mono ?_
    rintro _ w2 ⟨rfl, hR2, hg2⟩
    go_wp2_with fail
    refine (HW2.out _ hR2).mono ?_
    rintro _ w3 ⟨rfl, hR3, hg3⟩
    go_wp2
    go_ret
    exact ⟨rfl, hR3, rb_trans hg1 (rb_trans hg2 hg3)⟩

def nearV (v : Int) (l : List Int) (j : Nat) : Int :=
  if l.getD j 0 % 8 < 3 then v else if l.getD j 0 % 8 = 3 then (v + 1) % 18446744073709551616 else if l.getD j 0 % 8 = 4 then (v - 1) % 18446744073709551616
  else if l.getD j 0 % 8 = 5 then bits .xor .u64 v (2 ^ (l.getD j 0 / 8 % 8).toNat) else if l.getD j 0 % 8 = 6 then bits .xor .u64 v (2 ^ (l.getD j 0 % 64).toNat) else argV l (j + 1)
def nearJ (l : List Int) (j : Nat) : Nat := if l.getD j 0 % 8 < 7 then j + 1 else argJ l (j + 1)

theorem nearV_isU {v : Int} (hv : isU v) (l : List Int) (hl : isBytes l) (j : Nat) : isU (nearV v l j) := by
  unfold nearV
  split
  · exact hv
  split
  · unfold isU; omega
  split
  · unfold isU; omega
  split
  · exact isU_bits _ _ _
  split
  · exact isU_bits _ _ _
  · exact argV_isU l hl _

set_option maxRecDepth 100000 in
set_option maxHeartbeats 2000000 in
theorem near_any (v : Int) (R cap : Nat) (a : Option Addr) (l : List Int) (j : Nat) (w : World) (hv : isU v) (hR : Rd w R a cap l j) :
    Calls Tryz.prog 27 #[.int .u64 v, .pointer (some ⟨R, 0, none⟩)] w fun e w' => e = .returned (.int .u64 (nearV v l j)) ∧ Rd w' R a cap l (nearJ l j) ∧ w.grownBy w' (some R) := by
  have hx := isBytes_getD hR.bys j
  have HN1 : Hid (∀ W, Rd W R a cap l j → Calls Tryz.prog 13 #[.pointer (some ⟨R, 0, none⟩)] W fun e w' => e = .returned (.int .i64 (l.getD j 0)) ∧ Rd w' R a cap l (j + 1) ∧ W.grownBy w' (some R)) := fun W h => next_any R cap a l j W h
  have HA : Hid (∀ W, Rd W R a cap l (j + 1) → Calls Tryz.prog 26 #[.pointer (some ⟨R, 0, none⟩)] W fun e w' => e = .returned (.int .u64 (argV l (j + 1))) ∧ Rd w' R a cap l (argJ l (j + 1)) ∧ W.grownBy w' (some R)) := fun W h => arg_any R cap a l (j + 1) W h
  obtain ⟨hv0, hv1⟩ := hv
  obtain ⟨V, hV⟩ : ∃ V, nearV v l j = V := ⟨_, rfl⟩
  obtain ⟨J, hJ⟩ : ∃ J, nearJ l j = J := ⟨_, rfl⟩
  rw [hV, hJ]
  unfold nearV at hV
  unfold nearJ at hJ
  generalize l.getD j 0 = x at *
  generalize argV l (j + 1) = y at *
  generalize argJ l (j + 1) = J2 at *
  have HV : Hid _ := hV
  have HJ : Hid _ := hJ
  clear hV hJ
  go_enter Tryz.func27, Tryz.ntmps27
  go_wp2_with fail
  refine (HN1.out _ hR).mono ?_
  rintro _ w1 ⟨rfl, hR1, hg1⟩
  by_cases c1 : x % 8 < 3
  · have hV : V = v := by rw [← HV.out, if_pos c1]
    have hJ : J = j + 1 := by rw [← HJ.out, if_pos (by omega)]
    subst hV hJ
    clear HV HJ HA
    go_wp2
    go_ret
    exact ⟨rfl, hR1, hg1⟩
  by_cases c2 : x % 8 = 3
  · have hV : V = (v + 1) % 18446744073709551616 := by rw [← HV.out, if_neg c1, if_pos c2]
    have hJ : J = j + 1 := by rw [← HJ.out, if_pos (by omega)]
    subst hV hJ
    clear HV HJ HA
    go_wp2
    go_ret
    refine ⟨ret_int ?_, hR1, hg1⟩
    first | rfl | (rw [IntKind.wrap_u64])
  by_cases c3 : x % 8 = 4
  · have hV : V = (v - 1) % 18446744073709551616 := by rw [← HV.out, if_neg c1, if_neg c2, if_pos c3]
    have hJ : J = j + 1 := by rw [← HJ.out, if_pos (by omega)]
    subst hV hJ
    clear HV HJ HA
    go_wp2
    go_ret
    refine ⟨ret_int ?_, hR1, hg1⟩
    first | rfl | (rw [IntKind.wrap_u64])
  by_cases c4 : x % 8 = 5
  · have hV : V = bits .xor .u64 v (2 ^ (x / 8 % 8).toNat) := by rw [← HV.out, if_neg c1, if_neg c2, if_neg c3, if_pos c4]
    have hJ : J = j + 1 := by rw [← HJ.out, if_pos (by omega)]
    have hp : IntKind.u64.wrap ((2 : Int) ^ (x / 8 % 8).toNat) = 2 ^ (x / 8 % 8).toNat := by rw [IntKind.wrap_u64]; exact (pow_64 (x / 8 % 8).toNat (by omega)).2.1
    subst hV hJ
    clear HV HJ HA
    go_wp2
    go_ret
    refine ⟨ret_int ?_, hR1, hg1⟩
    first | rfl | (rw [hp])
  by_cases c5 : x % 8 = 6
  · have hV : V = bits .xor .u64 v (2 ^ (x % 64).toNat) := by rw [← HV.out, if_neg c1, if_neg c2, if_neg c3, if_neg c4, if_pos c5]
    have hJ : J = j + 1 := by rw [← HJ.out, if_pos (by omega)]
    have hp : IntKind.u64.wrap ((2 : Int) ^ (x % 64).toNat) = 2 ^ (x % 64).toNat := by rw [IntKind.wrap_u64]; exact (pow_64 (x % 64).toNat (by omega)).2.1
    subst hV hJ
    clear HV HJ HA
    go_wp2
    go_ret
    refine ⟨ret_int ?_, hR1, hg1⟩
    first | rfl | (rw [hp])
  · have hV : V = y := by rw [← HV.out, if_neg c1, if_neg c2, if_neg c3, if_neg c4, if_neg c5]
    have hJ : J = J2 := by rw [← HJ.out, if_neg (by omega)]
    subst hV hJ
    clear HV HJ
    go_wp2_with fail
    refine (HA.out _ hR1).mono ?_
    rintro _ w2 ⟨rfl, hR2, hg2⟩
    go_wp2
    go_ret
    exact ⟨rfl, hR2, rb_trans hg1 hg2⟩
end Go.Proofs.YtoamapdfcdefjaaGreat
