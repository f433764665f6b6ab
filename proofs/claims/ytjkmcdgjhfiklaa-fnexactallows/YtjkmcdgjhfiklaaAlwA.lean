/-
  CONTRACTS of the model's Allows.
-/
import Derived.Test.YtjkmcdgjhfiklaaPolA
import Derived.Test.YtjkmcdgjhfiklaaU64
namespace Go.Proofs.Ytjkmcdgjhfiklaa
open Go.RowKit
set_option linter.unusedVariables false

theorem USrc.at {w : World} {a : Option Addr} {l : List Int} (h : USrc w a l) {i : Nat} (hi : i < l.length) : ∃ b o, a = some ⟨b, o, none⟩ ∧ b < w.heap.size ∧ w.cell? ⟨b, o + i, none⟩ = some (.int .u64 (l.getD i 0)) := by
  rcases h with rfl | ⟨b, o, h1, h2, h3⟩
  · simp at hi
  · exact ⟨b, o, h1, h2, h3 i hi⟩
theorem argU {l : List Int} (h : ∀ y ∈ l, isU64 y) {i : Nat} (hi : i < l.length) : isU64 (l.getD i 0) := by
  rw [List.getD_eq_getElem?_getD, List.getElem?_eq_getElem hi]; exact h _ (List.getElem_mem hi)
set_option maxRecDepth 100000 in
set_option maxHeartbeats 4000000 in
theorem l3ruleHolds_any (r : List K) (args : List Int) (a a' : Option Addr) (cap cap' : Nat) (w : World) (hs : LSrc 3 PK w a r) (hu : USrc w a' args) (ho : okR r) (hok : ∀ y ∈ args, isU64 y) (h6 : r.length = 6) (g6 : args.length = 6) :
    Calls Try.prog 81 #[.agg #[.slice a 6 cap], .slice a' 6 cap'] w fun e w' => e = .returned (.bool (ruleHolds r args)) ∧ Below w.heap.size w w' := by
  have HC : Hid (∀ i, i < 6 → ∀ w, Calls Try.prog 87 #[conV (r.getD i K.zero), .int .u64 (args.getD i 0)] w fun e w' => e = .returned (.bool (holdsK (r.getD i K.zero) (args.getD i 0).toNat)) ∧ Below w.heap.size w w') := fun i hi w => by
    have hq := argU hok (i := i) (by omega)
    unfold isU64 at hq
    have := l3holds_any (r.getD i K.zero) (args.getD i 0).toNat w (okR_at ho i) (by omega)
    rw [show (((args.getD i 0).toNat : Nat) : Int) = args.getD i 0 by omega] at this
    exact this
  have HY : Hid ((∀ i, i < 6 → holdsK (r.getD i K.zero) (args.getD i 0).toNat = true) → ruleHolds r args = true) := ruleHolds_yes
  have HF : Hid (∀ i, i < 6 → holdsK (r.getD i K.zero) (args.getD i 0).toNat = false → ruleHolds r args = false) := fun i hi h => ruleHolds_no hi h
  have HP : Hid (∀ wr, Below w.heap.size w wr → ∀ i, i < 6 → ∃ b o, a = some ⟨b, o, none⟩ ∧ b < wr.heap.size ∧ PK wr b (o + i * 3) (r.getD i K.zero)) := fun wr hB i hi => (hs.below PK.stays hB).at (by omega) K.zero
  have HU : Hid (∀ wr, Below w.heap.size w wr → ∀ i, i < 6 → ∃ b o, a' = some ⟨b, o, none⟩ ∧ b < wr.heap.size ∧ wr.cell? ⟨b, o + i, none⟩ = some (.int .u64 (args.getD i 0))) := fun wr hB i hi => (hu.below hB).at (by omega)
  obtain ⟨V, hV⟩ : ∃ V, ruleHolds r args = V := ⟨_, rfl⟩
  rw [hV] at HY HF ⊢
  clear hV hs hu h6 g6 hok ho
  have B : Below w.heap.size w (w.alloc (.cells #[.slice a 6 cap] 85)) := (Below.refl _ _).alloc (Nat.le_refl _) _
  have x0 := box1 w 85 (.slice a 6 cap)
  go_enter Try.func81, Try.ntmps81
  go_wp2_with fail
  go_loopw [5] (fun i wr => ∃ k : Nat, k ≤ 6 ∧ i = .int .i64 k ∧ Hid (∀ j, j < k → holdsK (r.getD j K.zero) (args.getD j 0).toNat = true) ∧ wr.cell? ⟨w.heap.size, 0, none⟩ = some (.slice a 6 cap) ∧ Below w.heap.size w wr) (fun i _ => 6 - (intOf i).toNat)
  case atStart => exact ⟨0, by omega, rfl, fun j hj => by omega, x0, B⟩
  case round =>
    clear B x0
    obtain ⟨k, hk, rfl, HJ, x0, B⟩ := hrel
    by_cases hk6 : k < 6
    · obtain ⟨b, o, rfl, hlt, c0, c1, c2⟩ := HP.out wr B k hk6
      obtain ⟨b', o', rfl, hlt', d0⟩ := HU.out wr B k hk6
      have HC1 := HC.out k hk6
      have HF1 : Hid (holdsK (r.getD k K.zero) (args.getD k 0).toNat = false → V = false) := HF.out k hk6
      have HJ1 : Hid (holdsK (r.getD k K.zero) (args.getD k 0).toNat = true → ∀ j, j < k + 1 → holdsK (r.getD j K.zero) (args.getD j 0).toNat = true) := fun h j hj => by
        by_cases hjk : j = k
        · subst hjk; exact h
        · exact HJ.out j (by omega)
      have hk6' : (k : Int) < 6 := by omega
      generalize hQ : holdsK (r.getD k K.zero) (args.getD k 0).toNat = Q at *
      clear hQ
      generalize args.getD k 0 = v at *
      generalize r.getD k K.zero = c at *
      obtain ⟨ck, ca, cb⟩ := c
      simp only at c0 c1 c2
      simp only [conV] at HC1
      have HC2 : Hid (∀ w, Calls Try.prog 87 #[.agg #[.int .i64 ck, .int .u64 (ca : Int), .int .u64 (cb : Int)], .int .u64 v] w fun e w' => e = .returned (.bool Q) ∧ Below w.heap.size w w') := HC1
      clear HC HF HP HU HJ HC1
      go_wp2_with fail
      go_region_with (go_at_call 87; refine (HC2.out _).mono ?_; rintro _ w1 ⟨rfl, hb1⟩)
      all_goals
        have B1 := below_step hb1 B.drew
        have x1 := cell_step hb1 (cell_step (Below.refl _ _).drew x0)
        clear hb1 x0 c0 c1 c2 d0
        cases Q with
        | false =>
          have hVf : V = false := HF1.out (by first | rfl | trivial)
          subst hVf
          go_wp2
          go_ret
          exact ⟨rfl, B1⟩
        | true =>
          have HJ2 : Hid (∀ j, j < k + 1 → holdsK (r.getD j K.zero) (args.getD j 0).toNat = true) := HJ1.out (by first | rfl | trivial)
          go_wp2
          go_roundw
          case rel => exact ⟨k + 1, by omega, by go_num, HJ2, x1, B1⟩
          case measure => simp [intOf]; omega
    · have hk' : k = 6 := by omega
      subst hk'
      have hVt : V = true := HY.out HJ.out
      subst hVt
      go_wp2
      go_ret
      exact ⟨rfl, B⟩
end Go.Proofs.Ytjkmcdgjhfiklaa
