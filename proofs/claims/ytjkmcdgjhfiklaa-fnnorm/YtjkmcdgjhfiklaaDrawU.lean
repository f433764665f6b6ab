/-
  CONTRACTS of drawing numbers, where which one it is does not matter.
-/
import Derived.Test.YtjkmcdgjhfiklaaReadW
import Derived.Test.YtjkmcdgjhfiklaaCondN
namespace Go.Proofs.Ytjkmcdgjhfiklaa
open Go.RowKit
set_option linter.unusedVariables false

/-- a reader in block R -/
def Rdr (w : World) (R : Nat) : Prop := ∃ a cap l j, Rd w R a cap l j
def isU (x : Int) : Prop := 0 ≤ x ∧ x ≤ 18446744073709551615
theorem isU_bits (op : BinOp) (a b : Int) : isU (bits op .u64 a b) := ⟨bits_lo_u64 op a b, bits_hi_u64 op a b⟩
theorem isU_wrap (a : Int) : isU (IntKind.u64.wrap a) := by rw [IntKind.wrap_u64]; unfold isU; omega

theorem Rdr.lt {w : World} {R : Nat} (h : Rdr w R) : R < w.heap.size := by obtain ⟨a, cap, l, j, h⟩ := h; exact h.lt
theorem Rdr.below {w w1 : World} {R : Nat} (h : Rdr w R) (hb : Below w.heap.size w w1) : Rdr w1 R := by
  obtain ⟨a, cap, l, j, h⟩ := h; exact ⟨a, cap, l, j, h.below hb⟩
theorem Rdr.own {w w1 : World} {R B : Nat} {row : Option Nat} (h : Rdr w R) (hg : w.grownBy w1 row) (hR : R < B) (hr : ∀ k, row = some k → B ≤ k) : Rdr w1 R := by
  obtain ⟨a, cap, l, j, h⟩ := h; exact ⟨a, cap, l, j, h.grown hg hR hr⟩

/-- what a drawing function leaves: the reader, and nothing else of what was there changed -/
structure Dr (w : World) (R : Nat) (w' : World) : Prop where
  rd : Rdr w' R
  gr : w.grownBy w' (some R)
theorem Dr.refl {w : World} {R : Nat} (h : Rdr w R) : Dr w R w := ⟨h, World.grownBy.refl _ _⟩
theorem Dr.trans {w w1 w2 : World} {R : Nat} (h : Dr w R w1) (h' : Dr w1 R w2) : Dr w R w2 := ⟨h'.rd, rb_trans h.gr h'.gr⟩

def DrU (w : World) (R : Nat) (e : Ending) (w' : World) : Prop := ∃ x : Int, isU x ∧ e = .returned (.int .u64 x) ∧ Dr w R w'
theorem DrU.mk {w : World} {R : Nat} {x : Int} {w' : World} (h : isU x) (hd : Dr w R w') : DrU w R (.returned (.int .u64 x)) w' := ⟨x, h, rfl, hd⟩

theorem next_dr (R : Nat) (w : World) (h : Rdr w R) : Calls Try.prog 41 #[.pointer (some ⟨R, 0, none⟩)] w fun e w' => ∃ c : Int, 0 ≤ c ∧ c ≤ 255 ∧ e = .returned (.int .i64 c) ∧ Dr w R w' := by
  obtain ⟨a, cap, l, j, h⟩ := h
  refine (next_any R cap a l j w h).mono ?_
  rintro e w' ⟨rfl, h1, h2⟩
  have := isBytes_getD h.bys j
  exact ⟨_, this.1, this.2, rfl, ⟨⟨_, _, _, _, h1⟩, h2⟩⟩

theorem wordV_range (l : List Int) (hl : isBytes l) (j : Nat) : 0 ≤ wordV l j ∧ wordV l j ≤ 4294967295 := by
  have hx := isBytes_getD hl j
  unfold wordV
  have hp : ∀ k : Nat, k < 32 → (1 : Int) ≤ 2 ^ k ∧ (2 : Int) ^ k ≤ 4294967295 := by decide
  have := hp (l.getD j 0 % 32).toNat (by omega)
  split
  · omega
  · split
    · omega
    · split
      · omega
      · split <;> omega

theorem word_dr (R : Nat) (w : World) (h : Rdr w R) : Calls Try.prog 88 #[.pointer (some ⟨R, 0, none⟩)] w fun e w' => ∃ c : Int, 0 ≤ c ∧ c ≤ 4294967295 ∧ e = .returned (.int .u32 c) ∧ Dr w R w' := by
  obtain ⟨a, cap, l, j, h⟩ := h
  refine (drawWord_any R cap a l j w h).mono ?_
  rintro e w' ⟨rfl, h1, h2⟩
  have := wordV_range l h.bys j
  exact ⟨_, this.1, this.2, rfl, ⟨⟨_, _, _, _, h1⟩, h2⟩⟩

set_option maxRecDepth 100000 in
set_option maxHeartbeats 2000000 in
theorem arg_dr (R : Nat) (w : World) (h : Rdr w R) : Calls Try.prog 72 #[.pointer (some ⟨R, 0, none⟩)] w (DrU w R) := by
  have HN : Hid (∀ w, Rdr w R → Calls Try.prog 41 #[.pointer (some ⟨R, 0, none⟩)] w fun e w' => ∃ c : Int, 0 ≤ c ∧ c ≤ 255 ∧ e = .returned (.int .i64 c) ∧ Dr w R w') := fun w h => next_dr R w h
  have HW : Hid (∀ w, Rdr w R → Calls Try.prog 88 #[.pointer (some ⟨R, 0, none⟩)] w fun e w' => ∃ c : Int, 0 ≤ c ∧ c ≤ 4294967295 ∧ e = .returned (.int .u32 c) ∧ Dr w R w') := fun w h => word_dr R w h
  go_enter Try.func72, Try.ntmps72
  go_wp2_with fail
  refine (HN.out _ h).mono ?_
  rintro _ w1 ⟨c, c0, c1, rfl, D1⟩
  go_wp2_with fail
  all_goals first
    | (go_ret; exact DrU.mk (by first | exact isU_wrap _ | exact isU_bits _ _ _ | (unfold isU; omega)) D1)
    | (refine (HW.out _ D1.rd).mono ?_
       rintro _ w2 ⟨a, a0, a1, rfl, D2⟩
       go_wp2_with fail
       refine (HW.out _ D2.rd).mono ?_
       rintro _ w3 ⟨b, b0, b1, rfl, D3⟩
       go_wp2
       go_ret
       exact DrU.mk (isU_bits _ _ _) (D1.trans (D2.trans D3)))

set_option maxRecDepth 100000 in
set_option maxHeartbeats 2000000 in
theorem near_dr (R : Nat) (v : Int) (w : World) (hv : isU v) (h : Rdr w R) : Calls Try.prog 73 #[.int .u64 v, .pointer (some ⟨R, 0, none⟩)] w (DrU w R) := by
  have HN : Hid (∀ w, Rdr w R → Calls Try.prog 41 #[.pointer (some ⟨R, 0, none⟩)] w fun e w' => ∃ c : Int, 0 ≤ c ∧ c ≤ 255 ∧ e = .returned (.int .i64 c) ∧ Dr w R w') := fun w h => next_dr R w h
  have HA : Hid (∀ w, Rdr w R → Calls Try.prog 72 #[.pointer (some ⟨R, 0, none⟩)] w (DrU w R)) := fun w h => arg_dr R w h
  have HV : Hid (isU v) := hv
  have hv0 := hv.1
  have hv1 := hv.2
  clear hv
  go_enter Try.func73, Try.ntmps73
  go_wp2_with fail
  refine (HN.out _ h).mono ?_
  rintro _ w1 ⟨c, c0, c1, rfl, D1⟩
  go_wp2_with fail
  all_goals first
    | (go_ret; exact DrU.mk (by first | exact HV.out | exact isU_wrap _ | exact isU_bits _ _ _ | (unfold isU; omega)) D1)
    | (refine (HA.out _ D1.rd).mono ?_
       rintro _ w2 ⟨x, hx, rfl, D2⟩
       go_wp2
       go_ret
       exact DrU.mk hx (D1.trans D2))
end Go.Proofs.Ytjkmcdgjhfiklaa
