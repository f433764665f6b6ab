/-
  CONTRACT of the law's marks of items.
-/
import Derived.Test.YtioabdfddjmabaaAsmB
namespace Go.Proofs.Ytioabdfddjmabaa
open Go.RowKit
set_option linter.unusedVariables false

def RowT (w : World) (D N : Nat) : Prop := ∃ f, w.rowIs D 40 N f
theorem RowT.set {w : World} {D N : Nat} (h : RowT w D N) (j : Nat) (v : Value) : RowT (w.setCell ⟨D, j, none⟩ v) D N := by
  obtain ⟨f, hr⟩ := h
  exact ⟨_, hr.set _ _⟩
theorem RowT.own {w : World} {D N : Nat} (h : RowT w D N) (i : Nat) (hi : i < N) : ∃ v, w.cell? ⟨D, i, none⟩ = some v ∧ w.frozen? ⟨D, i, none⟩ = false := by
  obtain ⟨f, hr⟩ := h
  exact ⟨_, hr.cell hi, hr.frozen i⟩

set_option maxRecDepth 100000 in
set_option maxHeartbeats 4000000 in
theorem markItemS_some (D n cap N : Nat) (w : World) (hM : RowT w D N) (hN : n * 6 ≤ N) (hn : n ≤ 1048576) :
    Calls Try.prog 10 #[.slice (some ⟨D, 0, none⟩) n cap, .int .i64 1] w fun e w' => e = .returned (.int .i64 (1 + 6 * n)) ∧ w.grownBy w' (some D) := by
  go_enter Try.func10, Try.ntmps10
  go_wp2_with fail
  go_loopw [1, 5] (fun q i wr => ∃ j : Nat, j ≤ n ∧ i = .int .i64 j ∧ q = .int .i64 (1 + 6 * j) ∧ Hid (RowT wr D N) ∧ Hid (w.grownBy wr (some D))) (fun _ i _ => n - (intOf i).toNat)
  case atStart => exact ⟨0, by omega, rfl, by go_num, hM, World.grownBy.refl _ _⟩
  case round =>
    obtain ⟨j, hj, rfl, rfl, hM', hG⟩ := hrel
    clear hM
    by_cases hlt : j < n
    · obtain ⟨v0, e0, f0⟩ := hM'.out.own (j * 6) (by omega)
      obtain ⟨v1, e1, f1⟩ := hM'.out.own (j * 6 + 1) (by omega)
      obtain ⟨v2, e2, f2⟩ := hM'.out.own (j * 6 + 2) (by omega)
      obtain ⟨v3, e3, f3⟩ := hM'.out.own (j * 6 + 3) (by omega)
      obtain ⟨v4, e4, f4⟩ := hM'.out.own (j * 6 + 4) (by omega)
      obtain ⟨v5, e5, f5⟩ := hM'.out.own (j * 6 + 5) (by omega)
      have HM2 : Hid (∀ a b c d e f, RowT ((((((wr.setCell ⟨D, j * 6, none⟩ a).setCell ⟨D, j * 6 + 1, none⟩ b).setCell ⟨D, j * 6 + 2, none⟩ c).setCell ⟨D, j * 6 + 3, none⟩ d).setCell ⟨D, j * 6 + 4, none⟩ e).setCell ⟨D, j * 6 + 5, none⟩ f) D N) := fun a b c d e f => (((((hM'.out.set _ _).set _ _).set _ _).set _ _).set _ _).set _ _
      have HG2 : Hid (∀ a b c d e f, w.grownBy ((((((wr.setCell ⟨D, j * 6, none⟩ a).setCell ⟨D, j * 6 + 1, none⟩ b).setCell ⟨D, j * 6 + 2, none⟩ c).setCell ⟨D, j * 6 + 3, none⟩ d).setCell ⟨D, j * 6 + 4, none⟩ e).setCell ⟨D, j * 6 + 5, none⟩ f) (some D)) := fun a b c d e f => grown_setCell (grown_setCell (grown_setCell (grown_setCell (grown_setCell (grown_setCell hG.out _ _) _ _) _ _) _ _) _ _) _ _
      clear hM' hG
      go_wp2
      go_roundw
      case rel => exact ⟨j + 1, by omega, by go_num, by go_num, HM2.out _ _ _ _ _ _, HG2.out _ _ _ _ _ _⟩
      case measure => simp [intOf]; omega
    · have hjn : j = n := by omega
      subst hjn
      go_wp2
      go_ret
      exact ⟨rfl, hG.out⟩

theorem markItemS_nil (w : World) : Calls Try.prog 10 #[.slice none 0 0, .int .i64 1] w fun e w' => e = .returned (.int .i64 1) ∧ w' = w := by
  go_enter Try.func10, Try.ntmps10
  go_wp2_with fail
  go_loopw [1, 5] (fun q i wr => q = .int .i64 1 ∧ i = .int .i64 0 ∧ wr = w) (fun _ i _ => 0)
  case atStart => exact ⟨rfl, rfl, rfl⟩
  case round =>
    obtain ⟨rfl, rfl, rfl⟩ := hrel
    go_wp2
    go_ret
    exact ⟨rfl, rfl⟩

theorem markItemS_own {B : Nat} {v : Value} {p : List It} {w : World} (h : ownsT w B v p) (hn : p.length ≤ 1048576) :
    Calls Try.prog 10 #[v, .int .i64 1] w fun e w' => e = .returned (.int .i64 (1 + 6 * p.length)) ∧ w.grownBy w' v.ownBlock := by
  obtain ⟨_, h2 | ⟨g, cap, cur, rfl, hb, hg, hn', hm, hs, hx⟩⟩ := h
  · obtain ⟨rfl, h3⟩ := h2
    refine (markItemS_nil w).mono ?_
    rintro e w' ⟨rfl, rfl⟩
    exact ⟨ret_int (by omega), World.grownBy.refl _ _⟩
  · have hM : RowT w g (cap * 6) := ⟨fun i => cur.getD i undef, cur, hg, by omega, fun i hi => by simp [show i < cur.size by omega]⟩
    exact markItemS_some g p.length cap (cap * 6) w hM (by omega) hn
end Go.Proofs.Ytioabdfddjmabaa
