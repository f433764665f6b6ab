/-
  CONTRACTS over values that own their instructions.
-/
import Derived.Test.YtjfgihmamoiipaaDecS
import Derived.Test.YtjfgihmamoiipaaMark
import Derived.Test.YtjfgihmamoiipaaOpenB
namespace Go.Proofs.Ytjfgihmamoiipaa
open Go.RowKit
set_option linter.unusedVariables false

theorem insCells_get (p : List I) (i : Nat) (h : i < p.length) : (insCells p)[i * 4]? = some (.int .u16 (p.getD i I.zero).c) ∧ (insCells p)[i * 4 + 1]? = some (.int .u8 (p.getD i I.zero).jt) ∧
    (insCells p)[i * 4 + 2]? = some (.int .u8 (p.getD i I.zero).jf) ∧ (insCells p)[i * 4 + 3]? = some (.int .u32 (p.getD i I.zero).k) := by
  induction p generalizing i with
  | nil => simp at h
  | cons x p ih =>
    have e : insCells (x :: p) = insC x ++ insCells p := by simp [insCells]
    have hl : (insC x).length = 4 := rfl
    rw [e]
    match i with
    | 0 => simp [insC]
    | i + 1 =>
      have hi : i < p.length := by simpa using h
      have := ih i hi
      rw [List.getElem?_append_right (by rw [hl]; omega), List.getElem?_append_right (by rw [hl]; omega), List.getElem?_append_right (by rw [hl]; omega), List.getElem?_append_right (by rw [hl]; omega), hl]
      rw [show (i + 1) * 4 - 4 = i * 4 by omega, show (i + 1) * 4 + 1 - 4 = i * 4 + 1 by omega, show (i + 1) * 4 + 2 - 4 = i * 4 + 2 by omega, show (i + 1) * 4 + 3 - 4 = i * 4 + 3 by omega]
      simpa using this

theorem ownsI_src {w : World} {base : Nat} {v : Value} {p : List I} (h : ownsI w base v p) : ∃ a cap, v = .slice a p.length cap ∧ Src w a p := by
  obtain ⟨_, h | ⟨g, cap, cur, rfl, hb, hg, hn, hm, hs, hx⟩⟩ := h
  · obtain ⟨rfl, h0⟩ := h
    have : p = [] := List.eq_nil_of_length_eq_zero h0
    subst this
    exact ⟨none, 0, rfl, .inl rfl⟩
  · refine ⟨_, _, rfl, .inr ⟨g, 0, rfl, (Array.getElem?_eq_some_iff.1 hg).1, fun i hi => ?_⟩⟩
    have key : ∀ j u, j < p.length * 4 → (insCells p)[j]? = some u → w.cell? ⟨g, 0 + j, none⟩ = some u := by
      intro j u hj hu
      rw [← hx, List.getElem?_take, if_pos hj] at hu
      simp only [World.cell?, hg, Nat.zero_add]
      simpa using hu
    obtain ⟨c0, c1, c2, c3⟩ := insCells_get p i hi
    refine ⟨key _ _ (by omega) c0, ?_, ?_, ?_⟩
    · rw [Nat.add_assoc]; exact key _ _ (by omega) c1
    · rw [Nat.add_assoc]; exact key _ _ (by omega) c2
    · rw [Nat.add_assoc]; exact key _ _ (by omega) c3

theorem eqInsS_own {B B' : Nat} {v v' : Value} {p : List I} {w : World} (h : ownsI w B v p) (h' : ownsI w B' v' p) (hn : p.length ≤ 1048576) :
    Calls Try.prog 21 #[v, v'] w fun e w' => e = .returned (.bool true) ∧ Below w.heap.size w w' := by
  obtain ⟨a, cap, rfl, hs⟩ := ownsI_src h
  obtain ⟨a', cap', rfl, hs'⟩ := ownsI_src h'
  exact eqInsS_any a a' cap cap' p w hs hs' hn

def MarkedI (w : World) (v : Value) (n : Nat) (k : Int) : Prop := (v = .slice none 0 0 ∧ n = 0) ∨ ∃ g cap, v = .slice (some ⟨g, 0, none⟩) n cap ∧ n ≤ cap ∧ MarksI w g (cap * 4) k (n * 4)

set_option maxHeartbeats 1000000 in
theorem markInsS_nil (k : Int) (w : World) : Calls Try.prog 25 #[.slice none 0 0, .int .i64 k] w fun e w' => e = .returned (.int .i64 k) ∧ w' = w := by
  go_enter Try.func25, Try.ntmps25
  go_wp2_with fail
  go_loopw [1, 5] (fun q i wr => q = .int .i64 k ∧ i = .int .i64 0 ∧ wr = w) (fun _ i _ => 0)
  case atStart => exact ⟨rfl, rfl, rfl⟩
  case round =>
    obtain ⟨rfl, rfl, rfl⟩ := hrel
    go_wp2
    go_ret
    exact ⟨rfl, rfl⟩

set_option maxHeartbeats 1000000 in
theorem heldInsS_nil (k : Int) (w : World) : Calls Try.prog 29 #[.slice none 0 0, .int .i64 k] w fun e w' => e = .returned (.int .i64 k) ∧ w' = w := by
  go_enter Try.func29, Try.ntmps29
  go_wp2_with fail
  go_loopw [1, 5] (fun q i wr => q = .int .i64 k ∧ i = .int .i64 0 ∧ wr = w) (fun _ i _ => 0)
  case atStart => exact ⟨rfl, rfl, rfl⟩
  case round =>
    obtain ⟨rfl, rfl, rfl⟩ := hrel
    go_wp2
    go_ret
    exact ⟨rfl, rfl⟩

theorem markInsS_own {B : Nat} {v : Value} {p : List I} {w : World} (k : Int) (h : ownsI w B v p) (hn : p.length ≤ 1048576) (h0 : 0 ≤ k) (h1 : k ≤ 16777216) :
    Calls Try.prog 25 #[v, .int .i64 k] w fun e w' => e = .returned (.int .i64 (k + 4 * p.length)) ∧ MarkedI w' v p.length k ∧ w.grownBy w' v.ownBlock := by
  obtain ⟨_, h2 | ⟨g, cap, cur, rfl, hb, hg, hn', hm, hs, hx⟩⟩ := h
  · obtain ⟨rfl, h3⟩ := h2
    refine (markInsS_nil k w).mono ?_
    rintro e w' ⟨rfl, rfl⟩
    exact ⟨ret_int (by omega), .inl ⟨rfl, h3⟩, World.grownBy.refl _ _⟩
  · have hM : MarksI w g (cap * 4) k 0 := ⟨fun i => cur.getD i undef, ⟨cur, hg, by omega, fun i hi => by simp [show i < cur.size by omega]⟩, fun i hi => by omega⟩
    refine (markInsS_some g p.length cap (cap * 4) k w hM (by omega) hn h0 h1).mono ?_
    rintro e w' ⟨rfl, hM', hG⟩
    exact ⟨rfl, .inr ⟨g, cap, rfl, hn', hM'⟩, hG⟩

theorem heldInsS_own {v : Value} {n : Nat} {w : World} (k : Int) (h : MarkedI w v n k) (hn : n ≤ 1048576) (h0 : 0 ≤ k) (h1 : k ≤ 16777216) :
    Calls Try.prog 29 #[v, .int .i64 k] w fun e w' => e = .returned (.int .i64 (k + 4 * n)) ∧ w' = w := by
  rcases h with ⟨rfl, rfl⟩ | ⟨g, cap, rfl, hc, hM⟩
  · refine (heldInsS_nil k w).mono ?_
    rintro e w' ⟨rfl, rfl⟩
    exact ⟨ret_int (by omega), rfl⟩
  · exact heldInsS_some g n cap (cap * 4) k w hM (by omega) hn h0 h1

end Go.Proofs.Ytjfgihmamoiipaa
