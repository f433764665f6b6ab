/-
  CONTRACTS over values that own their bytes.
-/
import Derived.Test.YtmljkhpkinplkabEnc
namespace Go.Proofs.Ytmljkhpkinplkab
open Go.RowKit
set_option linter.unusedVariables false

theorem eqByteS_own {B B' : Nat} {v v' : Value} {l : List Int} {w : World} (h : owns w B v l) (h' : owns w B' v' l) (hn : l.length ≤ 16777216) :
    Calls Try.prog 11 #[v, v'] w fun e w' => e = .returned (.bool true) ∧ Below w.heap.size w w' := by
  obtain ⟨a, cap, rfl, hs⟩ := owns_src h
  obtain ⟨a', cap', rfl, hs'⟩ := owns_src h'
  exact eqByteS_any a a' cap cap' l w hs hs' hn

/-- the marks k, k + 1, .. stand in the n bytes of v -/
def MarkedV (w : World) (v : Value) (n : Nat) (k : Int) : Prop := (v = .slice none 0 0 ∧ n = 0) ∨ ∃ g cap, v = .slice (some ⟨g, 0, none⟩) n cap ∧ n ≤ cap ∧ Marks w g cap k n

set_option maxHeartbeats 1000000 in
theorem markByteS_nil (k : Int) (w : World) : Calls Try.prog 14 #[.slice none 0 0, .int .i64 k] w fun e w' => e = .returned (.int .i64 k) ∧ w' = w := by
  go_enter Try.func14, Try.ntmps14
  go_wp2_with fail
  go_loopw [1, 5] (fun q i wr => q = .int .i64 k ∧ i = .int .i64 0 ∧ wr = w) (fun _ i _ => 0)
  case atStart => exact ⟨rfl, rfl, rfl⟩
  case round =>
    obtain ⟨rfl, rfl, rfl⟩ := hrel
    go_wp2
    go_ret
    exact ⟨rfl, rfl⟩

set_option maxHeartbeats 1000000 in
theorem heldByteS_nil (k : Int) (w : World) : Calls Try.prog 15 #[.slice none 0 0, .int .i64 k] w fun e w' => e = .returned (.int .i64 k) ∧ w' = w := by
  go_enter Try.func15, Try.ntmps15
  go_wp2_with fail
  go_loopw [1, 5] (fun q i wr => q = .int .i64 k ∧ i = .int .i64 0 ∧ wr = w) (fun _ i _ => 0)
  case atStart => exact ⟨rfl, rfl, rfl⟩
  case round =>
    obtain ⟨rfl, rfl, rfl⟩ := hrel
    go_wp2
    go_ret
    exact ⟨rfl, rfl⟩

theorem markByteS_own {B : Nat} {v : Value} {l : List Int} {w : World} (k : Int) (h : owns w B v l) (hn : l.length ≤ 16777216) (h0 : 0 ≤ k) (h1 : k ≤ 16777216) :
    Calls Try.prog 14 #[v, .int .i64 k] w fun e w' => e = .returned (.int .i64 (k + l.length)) ∧ MarkedV w' v l.length k ∧ w.grownBy w' v.ownBlock := by
  have h' := h
  obtain ⟨_, h2 | ⟨g, cap, cur, rfl, hb, hg, hn', hm, hs, hx⟩⟩ := h
  · obtain ⟨rfl, h3⟩ := h2
    refine (markByteS_nil k w).mono ?_
    rintro e w' ⟨rfl, rfl⟩
    exact ⟨ret_int (by omega), .inl ⟨rfl, h3⟩, World.grownBy.refl _ _⟩
  · obtain ⟨_, hc, _, hM⟩ := owns_marks h' k
    refine (markByteS_some g l.length cap cap k w hM hc hn h0 h1).mono ?_
    rintro e w' ⟨rfl, hM', hG⟩
    exact ⟨rfl, .inr ⟨g, cap, rfl, hc, hM'⟩, hG⟩

theorem heldByteS_own {v : Value} {n : Nat} {w : World} (k : Int) (h : MarkedV w v n k) (hn : n ≤ 16777216) (h0 : 0 ≤ k) (h1 : k ≤ 16777216) :
    Calls Try.prog 15 #[v, .int .i64 k] w fun e w' => e = .returned (.int .i64 (k + n)) ∧ w' = w := by
  rcases h with ⟨rfl, rfl⟩ | ⟨g, cap, rfl, hc, hM⟩
  · refine (heldByteS_nil k w).mono ?_
    rintro e w' ⟨rfl, rfl⟩
    exact ⟨ret_int (by omega), rfl⟩
  · exact heldByteS_some g n cap cap k w hM hc hn h0 h1

theorem owns_kept {w w' : World} {B : Nat} {v : Value} {l : List Int} {row : Option Nat} (h : owns w B v l) (hg : w.grownBy w' row) (hne : ∀ q, v.ownBlock = some q → some q ≠ row) : owns w' B v l := by
  refine World.ownsRow.kept h hg ?_
  cases hv : v.ownBlock with
  | none => exact .inl rfl
  | some q => exact .inr (hne q hv)
end Go.Proofs.Ytmljkhpkinplkab
