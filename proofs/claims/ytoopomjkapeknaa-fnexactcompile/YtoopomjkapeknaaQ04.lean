/-
  Mark, Open, OpenB, OwnI
-/
import Derived.Test.YtoopomjkapeknaaQ01
import Derived.Test.YtoopomjkapeknaaQ03
import Derived.ProofKit
import Derived.OpenShut
import Derived.ShutString
import Derived.ChangeOld
import Derived.Below
import Derived.Deep.Slices
import Derived.Test.YtoopomjkapeknaaQ02
namespace Go.Proofs.Ytoopomjkapeknaa
open Go.RowKit
set_option linter.unusedVariables false

/-- the cell number m of the marks that begin at k -/
def markV (k : Int) (m : Nat) : Value :=
  if m % 4 = 0 then .int .u16 (IntKind.u16.wrap (k + m)) else if m % 4 = 3 then .int .u32 (k + m) else .int .u8 ((k + m) % 256)

def MarksI (w : World) (D N : Nat) (k : Int) (j : Nat) : Prop := ∃ f, w.rowIs D 51 N f ∧ ∀ i, i < j → f i = markV k i

theorem MarksI.set {w : World} {D N j : Nat} {k : Int} (h : MarksI w D N k j) (v : Value) (hv : v = markV k j) : MarksI (w.setCell ⟨D, j, none⟩ v) D N k (j + 1) := by
  obtain ⟨f, hr, hf⟩ := h
  refine ⟨_, hr.set _ _, fun i hi => ?_⟩
  by_cases e : i = j
  · rw [if_pos e, e, hv]
  · rw [if_neg e]; exact hf i (by omega)
theorem MarksI.own {w : World} {D N j : Nat} {k : Int} (h : MarksI w D N k j) (i : Nat) (hi : i < N) : ∃ v, w.cell? ⟨D, i, none⟩ = some v ∧ w.frozen? ⟨D, i, none⟩ = false := by
  obtain ⟨f, hr, _⟩ := h
  exact ⟨_, hr.cell hi, hr.frozen i⟩
theorem markV_0 (k : Int) (j : Nat) : markV k (j * 4) = .int .u16 (IntKind.u16.wrap (k + 4 * j)) := by
  unfold markV; rw [if_pos (by omega)]; congr 2; omega
theorem markV_1 (k : Int) (j : Nat) : markV k (j * 4 + 1) = .int .u8 ((k + 4 * j + 1) % 256) := by
  unfold markV; rw [if_neg (by omega), if_neg (by omega)]; congr 1; omega
theorem markV_2 (k : Int) (j : Nat) : markV k (j * 4 + 2) = .int .u8 ((k + 4 * j + 1 + 1) % 256) := by
  unfold markV; rw [if_neg (by omega), if_neg (by omega)]; congr 1; omega
theorem markV_3 (k : Int) (j : Nat) : markV k (j * 4 + 3) = .int .u32 (k + 4 * j + 1 + 1 + 1) := by
  unfold markV; rw [if_neg (by omega), if_pos (by omega)]; congr 1; omega

theorem MarksI.step {w : World} {D N j : Nat} {k : Int} (h : MarksI w D N k (j * 4)) :
    MarksI ((((w.setCell ⟨D, j * 4, none⟩ (.int .u16 (IntKind.u16.wrap (k + 4 * j)))).setCell ⟨D, j * 4 + 1, none⟩ (.int .u8 ((k + 4 * j + 1) % 256))).setCell ⟨D, j * 4 + 2, none⟩ (.int .u8 ((k + 4 * j + 1 + 1) % 256))).setCell ⟨D, j * 4 + 3, none⟩ (.int .u32 (k + 4 * j + 1 + 1 + 1))) D N k ((j + 1) * 4) := by
  have h4 := (((h.set _ (markV_0 k j).symm).set _ (markV_1 k j).symm).set _ (markV_2 k j).symm).set _ (markV_3 k j).symm
  rw [show (j + 1) * 4 = j * 4 + 3 + 1 by omega]
  exact h4

set_option maxHeartbeats 2000000 in
theorem markInsS_some (D n cap N : Nat) (k : Int) (w : World) (hM : MarksI w D N k 0) (hN : n * 4 ≤ N) (hn : n ≤ 1048576) (h0 : 0 ≤ k) (h1 : k ≤ 16777216) :
    Calls Try.prog 11 #[.slice (some ⟨D, 0, none⟩) n cap, .int .i64 k] w fun e w' => e = .returned (.int .i64 (k + 4 * n)) ∧ MarksI w' D N k (n * 4) ∧ w.grownBy w' (some D) := by
  go_enter Try.func11, Try.ntmps11
  go_wp2_with fail
  go_loopw [1, 5] (fun q i wr => ∃ j : Nat, j ≤ n ∧ i = .int .i64 j ∧ q = .int .i64 (k + 4 * j) ∧ MarksI wr D N k (j * 4) ∧ w.grownBy wr (some D)) (fun _ i _ => n - (intOf i).toNat)
  case atStart => exact ⟨0, by omega, rfl, by go_num, by simpa using hM, World.grownBy.refl _ _⟩
  case round =>
    obtain ⟨j, hj, rfl, rfl, hM', hG⟩ := hrel
    clear hM
    by_cases hlt : j < n
    · obtain ⟨v0, e0, f0⟩ := hM'.own (j * 4) (by omega)
      obtain ⟨v1, e1, f1⟩ := hM'.own (j * 4 + 1) (by omega)
      obtain ⟨v2, e2, f2⟩ := hM'.own (j * 4 + 2) (by omega)
      obtain ⟨v3, e3, f3⟩ := hM'.own (j * 4 + 3) (by omega)
      go_wp2
      go_roundw
      case rel => exact ⟨j + 1, by omega, by go_num, by go_num, hM'.step, grown_setCell (grown_setCell (grown_setCell (grown_setCell hG _ _) _ _) _ _) _ _⟩
      case measure => simp [intOf]; omega
    · go_wp2
      go_ret
      have hjn : j = n := by omega
      subst hjn
      exact ⟨rfl, hM', hG⟩

set_option maxHeartbeats 2000000 in
theorem heldInsS_some (D n cap N : Nat) (k : Int) (w : World) (hM : MarksI w D N k (n * 4)) (hN : n * 4 ≤ N) (hn : n ≤ 1048576) (h0 : 0 ≤ k) (h1 : k ≤ 16777216) :
    Calls Try.prog 12 #[.slice (some ⟨D, 0, none⟩) n cap, .int .i64 k] w fun e w' => e = .returned (.int .i64 (k + 4 * n)) ∧ w' = w := by
  obtain ⟨f, hr, hf⟩ := hM
  have hc : ∀ i, i < n * 4 → w.cell? ⟨D, i, none⟩ = some (markV k i) := fun i hi => by rw [hr.cell (by omega), hf i hi]
  clear hr hf
  go_enter Try.func12, Try.ntmps12
  go_wp2_with fail
  go_loop [1, 5] (fun q i => ∃ j : Nat, j ≤ n ∧ i = .int .i64 j ∧ q = .int .i64 (k + 4 * j)) (fun _ i => n - (intOf i).toNat)
  case atStart => exact ⟨0, by omega, rfl, by go_num⟩
  case round =>
    obtain ⟨j, hj, rfl, rfl⟩ := hrel
    by_cases hlt : j < n
    · have c0 := hc (j * 4) (by omega)
      have c1 := hc (j * 4 + 1) (by omega)
      have c2 := hc (j * 4 + 2) (by omega)
      have c3 := hc (j * 4 + 3) (by omega)
      rw [markV_0] at c0
      rw [markV_1] at c1
      rw [markV_2] at c2
      rw [markV_3] at c3
      clear hc
      go_wp2
      go_round
      case rel => exact ⟨j + 1, by omega, by go_num, by go_num⟩
      case measure => simp [intOf]; omega
    · go_wp2
      go_ret
      have hjn : j = n := by omega
      subst hjn
      exact ⟨rfl, rfl⟩
end Go.Proofs.Ytoopomjkapeknaa
namespace Go.Proofs.Ytoopomjkapeknaa
open Go.ChangeShapes Go.WideShapes Go.ChangeAt Go.RowKit Go.Deep
set_option linter.unusedVariables false

theorem own : ownKnob Try.prog.godebug = none := by kernel_rfl
theorem laidOut : laidOutB Try.prog = true := by kernel_rfl
theorem cellsU16 : Try.prog.cellsOf 48 = 1 := by kernel_rfl
theorem cellsU8 : Try.prog.cellsOf 5 = 1 := by kernel_rfl
theorem cellsU32 : Try.prog.cellsOf 49 = 1 := by kernel_rfl

theorem cell_lt {w : World} {a : Addr} {v : Value} (h : w.cell? a = some v) : a.block < w.heap.size := by
  by_cases hb : a.block < w.heap.size
  · exact hb
  · exfalso
    simp [World.cell?, Array.getElem?_eq_none (show w.heap.size ≤ a.block by omega)] at h

end Go.Proofs.Ytoopomjkapeknaa
namespace Go.Proofs.Ytoopomjkapeknaa
open Go.RowKit
set_option linter.unusedVariables false

end Go.Proofs.Ytoopomjkapeknaa
namespace Go.Proofs.Ytoopomjkapeknaa
open Go.RowKit
set_option linter.unusedVariables false

theorem insCells_get (p : List I) (i : Nat) (h : i < p.length) : (insCells p)[i * 4]? = some (.int .u16 (p.getD i I.zero).c) ∧ (insCells p)[i * 4 + 1]? = some (.int .u8 (p.getD i I.zero).jt) ∧
    (insCells p)[i * 4 + 2]? = some (.int .u8 (p.getD i I.zero).jf) ∧ (insCells p)[i * 4 + 3]? = some (.int .u32 (p.getD i I.zero).k) := by
  induction p generalizing i with
  | nil => simp at h
  | cons x p ih =>
    have e : insCells (x :: p) = insC x ++ insCells p := by simp [insCells]
    have hl : (insC x).length = 4 := rfl
    rw [e]
    match i with
    | 0 => simp [insC]
    | i + 1 =>
      have hi : i < p.length := by simpa using h
      have := ih i hi
      rw [List.getElem?_append_right (by rw [hl]; omega), List.getElem?_append_right (by rw [hl]; omega), List.getElem?_append_right (by rw [hl]; omega), List.getElem?_append_right (by rw [hl]; omega), hl]
      rw [show (i + 1) * 4 - 4 = i * 4 by omega, show (i + 1) * 4 + 1 - 4 = i * 4 + 1 by omega, show (i + 1) * 4 + 2 - 4 = i * 4 + 2 by omega, show (i + 1) * 4 + 3 - 4 = i * 4 + 3 by omega]
      simpa using this

theorem ownsI_src {w : World} {base : Nat} {v : Value} {p : List I} (h : ownsI w base v p) : ∃ a cap, v = .slice a p.length cap ∧ Src w a p := by
  obtain ⟨_, h | ⟨g, cap, cur, rfl, hb, hg, hn, hm, hs, hx⟩⟩ := h
  · obtain ⟨rfl, h0⟩ := h
    have : p = [] := List.eq_nil_of_length_eq_zero h0
    subst this
    exact ⟨none, 0, rfl, .inl rfl⟩
  · refine ⟨_, _, rfl, .inr ⟨g, 0, rfl, (Array.getElem?_eq_some_iff.1 hg).1, fun i hi => ?_⟩⟩
    have key : ∀ j u, j < p.length * 4 → (insCells p)[j]? = some u → w.cell? ⟨g, 0 + j, none⟩ = some u := by
      intro j u hj hu
      rw [← hx, List.getElem?_take, if_pos hj] at hu
      simp only [World.cell?, hg, Nat.zero_add]
      simpa using hu
    obtain ⟨c0, c1, c2, c3⟩ := insCells_get p i hi
    refine ⟨key _ _ (by omega) c0, ?_, ?_, ?_⟩
    · rw [Nat.add_assoc]; exact key _ _ (by omega) c1
    · rw [Nat.add_assoc]; exact key _ _ (by omega) c2
    · rw [Nat.add_assoc]; exact key _ _ (by omega) c3

theorem eqInsS_own {B B' : Nat} {v v' : Value} {p : List I} {w : World} (h : ownsI w B v p) (h' : ownsI w B' v' p) (hn : p.length ≤ 1048576) :
    Calls Try.prog 8 #[v, v'] w fun e w' => e = .returned (.bool true) ∧ Below w.heap.size w w' := by
  obtain ⟨a, cap, rfl, hs⟩ := ownsI_src h
  obtain ⟨a', cap', rfl, hs'⟩ := ownsI_src h'
  exact eqInsS_any a a' cap cap' p w hs hs' hn

def MarkedI (w : World) (v : Value) (n : Nat) (k : Int) : Prop := (v = .slice none 0 0 ∧ n = 0) ∨ ∃ g cap, v = .slice (some ⟨g, 0, none⟩) n cap ∧ n ≤ cap ∧ MarksI w g (cap * 4) k (n * 4)

set_option maxHeartbeats 1000000 in
theorem markInsS_nil (k : Int) (w : World) : Calls Try.prog 11 #[.slice none 0 0, .int .i64 k] w fun e w' => e = .returned (.int .i64 k) ∧ w' = w := by
  go_enter Try.func11, Try.ntmps11
  go_wp2_with fail
  go_loopw [1, 5] (fun q i wr => q = .int .i64 k ∧ i = .int .i64 0 ∧ wr = w) (fun _ i _ => 0)
  case atStart => exact ⟨rfl, rfl, rfl⟩
  case round =>
    obtain ⟨rfl, rfl, rfl⟩ := hrel
    go_wp2
    go_ret
    exact ⟨rfl, rfl⟩

set_option maxHeartbeats 1000000 in
theorem heldInsS_nil (k : Int) (w : World) : Calls Try.prog 12 #[.slice none 0 0, .int .i64 k] w fun e w' => e = .returned (.int .i64 k) ∧ w' = w := by
  go_enter Try.func12, Try.ntmps12
  go_wp2_with fail
  go_loopw [1, 5] (fun q i wr => q = .int .i64 k ∧ i = .int .i64 0 ∧ wr = w) (fun _ i _ => 0)
  case atStart => exact ⟨rfl, rfl, rfl⟩
  case round =>
    obtain ⟨rfl, rfl, rfl⟩ := hrel
    go_wp2
    go_ret
    exact ⟨rfl, rfl⟩

theorem markInsS_own {B : Nat} {v : Value} {p : List I} {w : World} (k : Int) (h : ownsI w B v p) (hn : p.length ≤ 1048576) (h0 : 0 ≤ k) (h1 : k ≤ 16777216) :
    Calls Try.prog 11 #[v, .int .i64 k] w fun e w' => e = .returned (.int .i64 (k + 4 * p.length)) ∧ MarkedI w' v p.length k ∧ w.grownBy w' v.ownBlock := by
  obtain ⟨_, h2 | ⟨g, cap, cur, rfl, hb, hg, hn', hm, hs, hx⟩⟩ := h
  · obtain ⟨rfl, h3⟩ := h2
    refine (markInsS_nil k w).mono ?_
    rintro e w' ⟨rfl, rfl⟩
    exact ⟨ret_int (by omega), .inl ⟨rfl, h3⟩, World.grownBy.refl _ _⟩
  · have hM : MarksI w g (cap * 4) k 0 := ⟨fun i => cur.getD i undef, ⟨cur, hg, by omega, fun i hi => by simp [show i < cur.size by omega]⟩, fun i hi => by omega⟩
    refine (markInsS_some g p.length cap (cap * 4) k w hM (by omega) hn h0 h1).mono ?_
    rintro e w' ⟨rfl, hM', hG⟩
    exact ⟨rfl, .inr ⟨g, cap, rfl, hn', hM'⟩, hG⟩

theorem heldInsS_own {v : Value} {n : Nat} {w : World} (k : Int) (h : MarkedI w v n k) (hn : n ≤ 1048576) (h0 : 0 ≤ k) (h1 : k ≤ 16777216) :
    Calls Try.prog 12 #[v, .int .i64 k] w fun e w' => e = .returned (.int .i64 (k + 4 * n)) ∧ w' = w := by
  rcases h with ⟨rfl, rfl⟩ | ⟨g, cap, rfl, hc, hM⟩
  · refine (heldInsS_nil k w).mono ?_
    rintro e w' ⟨rfl, rfl⟩
    exact ⟨ret_int (by omega), rfl⟩
  · exact heldInsS_some g n cap (cap * 4) k w hM (by omega) hn h0 h1

end Go.Proofs.Ytoopomjkapeknaa
