/-
  CONTRACTS of the model's normal condition.
-/
import Derived.Test.YtjkmcdgjhfiklaaCondT
namespace Go.Proofs.Ytjkmcdgjhfiklaa
open Go.RowKit
set_option linter.unusedVariables false

/-- a store of three cells into a box -/
theorem BoxK.set3 {w : World} {g : Nat} {x y z : Value} (h : BoxK w g x y z) (x' y' z' : Value) : BoxK (((w.setCell ⟨g, 0, none⟩ x').setCell ⟨g, 1, none⟩ y').setCell ⟨g, 2, none⟩ z') g x' y' z' := by
  obtain ⟨l, c0, c1, c2, f0, f1, f2⟩ := h
  refine ⟨by simp [l], ?_, ?_, ?_, by simp [f0], by simp [f1], by simp [f2]⟩
  · simp [go_sem, c0]
  · simp [go_sem, c1]
  · simp [go_sem, c2]
theorem below_set3 {n : Nat} {w w' : World} {g : Nat} (h : Below n w w') (hg : n ≤ g) (x' y' z' : Value) : Below n w (((w'.setCell ⟨g, 0, none⟩ x').setCell ⟨g, 1, none⟩ y').setCell ⟨g, 2, none⟩ z') :=
  ((h.setCell hg _).setCell hg _).setCell hg _

set_option maxRecDepth 100000 in
set_option maxHeartbeats 2000000 in
theorem l3norm_any (c : K) (w : World) (ho : c.ok) (hv : validK c = true) :
    Calls Try.prog 35 #[conV c] w fun e w' => e = .returned (conV (normK c)) ∧ Below w.heap.size w w' := by
  have HC : Hid (∀ w, Calls Try.prog 44 #[conV c] w fun e w' => e = .returned (blkV c) ∧ Below w.heap.size w w') := fun w => l3block_any c w ho hv
  obtain ⟨N, eN⟩ : ∃ N, normK c = N := ⟨_, rfl⟩
  have HN0 : Hid (blockK c = none → N = c) := fun h => by rw [← eN]; exact normK_of_none ho hv h
  have HN1 : Hid (∀ lo hi, blockK c = some (lo, hi) → (lo ≤ hi ∧ hi < 18446744073709551616) ∧ N = newRange lo hi) := fun lo hi h => ⟨block_lt ho hv h, by rw [← eN]; exact normK_of_block ho hv h⟩
  rw [eN]
  clear eN hv
  obtain ⟨kind, a, b⟩ := c
  simp only [conV] at HC ⊢
  go_enter Try.func35, Try.ntmps35
  go_wp2_with fail
  have X := (BoxK.new w 25 (.int .i64 kind) (.int .u64 (a : Int)) (.int .u64 (b : Int))).alloc (.cells #[.int .i64 0, .int .u64 0, .int .u64 0] 25)
  have Y := BoxK.new (w.alloc (.cells #[.int .i64 kind, .int .u64 (a : Int), .int .u64 (b : Int)] 25)) 25 (.int .i64 0) (.int .u64 0) (.int .u64 0)
  have hsz : (w.alloc (.cells #[.int .i64 kind, .int .u64 (a : Int), .int .u64 (b : Int)] 25)).heap.size = w.heap.size + 1 := by simp
  have B0 : Below w.heap.size w ((w.alloc (.cells #[.int .i64 kind, .int .u64 (a : Int), .int .u64 (b : Int)] 25)).alloc (.cells #[.int .i64 0, .int .u64 0, .int .u64 0] 25)) := ((Below.refl _ _).alloc (Nat.le_refl _) _).alloc (by simp) _
  rw [hsz] at Y
  generalize (w.alloc (.cells #[.int .i64 kind, .int .u64 (a : Int), .int .u64 (b : Int)] 25)).alloc (.cells #[.int .i64 0, .int .u64 0, .int .u64 0] 25) = W at *
  clear hsz
  refine (HC.out _).mono ?_
  rintro e w1 ⟨rfl, hb1⟩
  obtain ⟨_, x0, x1, x2, _, _, _⟩ := X.keep hb1
  have Y1 := Y.keep hb1
  obtain ⟨yl, y0, y1, y2, g0, g1, g2⟩ := Y1
  have B1 := B0.trans (hb1.mono B0.size)
  clear X Y hb1 B0 HC
  cases hb : blockK ⟨kind, a, b⟩ with
  | none =>
    have HE : Hid (blkV ⟨kind, a, b⟩ = .tuple #[.int .u64 0, .int .u64 0, .bool false]) := by unfold Hid blkV; rw [hb]
    rw [HE.out]
    have eN : N = ⟨kind, a, b⟩ := HN0.out hb
    subst eN
    clear HN0 HN1 hb HE
    go_wp2
    exact bodyPost_ret (v := conV ⟨kind, a, b⟩) (by simp [results, Try.results35, go_sem, y0, y1, y2]) rfl ⟨rfl, below_set3 B1 (by omega) _ _ _⟩
  | some q =>
    obtain ⟨lo, hi⟩ := q
    have HE : Hid (blkV ⟨kind, a, b⟩ = .tuple #[.int .u64 (lo : Int), .int .u64 (hi : Int), .bool true]) := by unfold Hid blkV; rw [hb]
    rw [HE.out]
    obtain ⟨⟨hle, hh⟩, eN⟩ := HN1.out lo hi hb
    have HN : Hid (N = newRange lo hi) := eN
    clear HN0 HN1 hb HE eN
    have hle' : (lo : Int) ≤ (hi : Int) := by omega
    have hh' : (hi : Int) ≤ 18446744073709551615 := by omega
    go_wp2_with fail
    go_loop [6] (fun i => ∃ k : Nat, k ≤ 65 ∧ i = .int .i64 ((k : Int) - 1) ∧ Hid (∀ j, k ≤ j → j ≤ 64 → ¬ (hi - lo = low j ∧ lo &&& low j = 0))) (fun i => (intOf i + 1).toNat)
    case atStart => exact ⟨65, by omega, rfl, fun j h1 h2 => by omega⟩
    case round =>
      obtain ⟨k, hk, rfl, HJ⟩ := hrel
      cases k with
      | zero =>
        have HN2 : Hid (N = ⟨2, lo, hi⟩) := by
          unfold Hid
          rw [HN.out]; exact newRange_none hle hh fun j hj => HJ.out j (Nat.zero_le _) hj
        go_wp2
        rw [HN2.out]
        exact bodyPost_ret (v := conV ⟨2, lo, hi⟩) (by simp [results, Try.results35, go_sem, y0, y1, y2]) rfl ⟨rfl, below_set3 B1 (by omega) _ _ _⟩
      | succ q =>
        have hq : ((q + 1 : Nat) : Int) - 1 = (q : Int) := by omega
        rw [hq]
        have hq64 : q ≤ 64 := by omega
        have hq0 : (0 : Int) ≤ (q : Int) := by omega
        have hl := low_le hq64
        have HL : Hid (∀ w, Calls Try.prog 45 #[.int .i64 (q : Int)] w fun e w' => e = .returned (.int .u64 (low q : Nat)) ∧ w' = w) := fun w => l3low_any q w hq64
        have HB : Hid (bits .and .u64 (lo : Int) ((low q : Nat) : Int) = ((lo &&& low q : Nat) : Int)) := u64_and lo (low q) (by omega) (by omega)
        by_cases e1 : hi - lo = low q
        · have e1' : (hi : Int) - (lo : Int) = ((low q : Nat) : Int) := by omega
          by_cases e2 : lo &&& low q = 0
          · have e2' : bits .and .u64 (lo : Int) ((low q : Nat) : Int) = 0 := by rw [HB.out, e2]; rfl
            have HN2 : Hid (N = if q = 64 then ⟨0, 0, 0⟩ else ⟨1, inv (low q), lo⟩) := by
              unfold Hid
              rw [HN.out]; exact newRange_block hq64 hle hh e1 e2
            have HI : Hid (18446744073709551615 - ((low q : Nat) : Int) = ((inv (low q) : Nat) : Int)) := by unfold Hid inv; omega
            generalize inv (low q) = I at *
            clear HN HJ HB e1 e2 hq
            generalize low q = L at *
            by_cases e64 : q = 64
            · subst e64
              have HN3 : Hid (N = ⟨0, 0, 0⟩) := HN2.out
              clear HN2
              go_wp2_with fail
              refine (HL.out _).mono ?_
              rintro e w2 ⟨rfl, rfl⟩
              go_wp2
              rw [HN3.out]
              exact bodyPost_ret (v := conV ⟨0, 0, 0⟩) (by simp [results, Try.results35, go_sem, y0, y1, y2]) rfl ⟨rfl, below_set3 B1 (by omega) _ _ _⟩
            · have HN3 : Hid (N = ⟨1, I, lo⟩) := by
                unfold Hid
                rw [HN2.out, if_neg e64]
              have e64' : ¬ (q : Int) = 64 := by omega
              clear HN2
              go_wp2_with fail
              refine (HL.out _).mono ?_
              rintro e w2 ⟨rfl, rfl⟩
              go_wp2
              rw [HN3.out, HI.out]
              exact bodyPost_ret (v := conV ⟨1, I, lo⟩) (by simp [results, Try.results35, go_sem, y0, y1, y2]) rfl ⟨rfl, below_set3 B1 (by omega) _ _ _⟩
          · have e2' : ¬ bits .and .u64 (lo : Int) ((low q : Nat) : Int) = 0 := by rw [HB.out]; omega
            have HJ' : Hid (∀ j, q ≤ j → j ≤ 64 → ¬ (hi - lo = low j ∧ lo &&& low j = 0)) := fun j h1 h2 h3 => by
              by_cases hj : j = q
              · subst hj; exact e2 h3.2
              · exact HJ.out j (by omega) h2 h3
            clear HJ HB e1 e2 hq
            generalize low q = L at *
            go_wp2_with fail
            refine (HL.out _).mono ?_
            rintro e w2 ⟨rfl, rfl⟩
            go_wp2
            go_round
            case rel => exact ⟨q, by omega, by go_num, HJ'⟩
            case measure => simp [intOf]
        · have e1' : ¬ (hi : Int) - (lo : Int) = ((low q : Nat) : Int) := by omega
          have HJ' : Hid (∀ j, q ≤ j → j ≤ 64 → ¬ (hi - lo = low j ∧ lo &&& low j = 0)) := fun j h1 h2 h3 => by
            by_cases hj : j = q
            · subst hj; exact e1 h3.1
            · exact HJ.out j (by omega) h2 h3
          clear HJ HB e1 hq
          generalize low q = L at *
          go_wp2_with fail
          refine (HL.out _).mono ?_
          rintro e w2 ⟨rfl, rfl⟩
          go_wp2
          go_round
          case rel => exact ⟨q, by omega, by go_num, HJ'⟩
          case measure => simp [intOf]
end Go.Proofs.Ytjkmcdgjhfiklaa
