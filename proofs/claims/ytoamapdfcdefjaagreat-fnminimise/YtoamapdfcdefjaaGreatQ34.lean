/-
  RuleI, RuleJ, OncR, RuleD, RuleE
-/
import Derived.Test.YtoamapdfcdefjaaGreatQ33
import Derived.Laws.StructEq
import Derived.Shelf.RegionOpenPlain
import Derived.Deep.RegionLaw
import Derived.Lib.SliceRun
namespace Go.Proofs.YtoamapdfcdefjaaGreat
open Go.RowKit
set_option linter.unusedVariables false
open srtR

/-- a rule's six cells from place o of block D on -/
def RuAt (w : World) (D o : Nat) (r : Ru) : Prop := D < w.heap.size ∧ ∀ i, i < 6 → w.cell? ⟨D, o + i, none⟩ = some (.iface (tyK (r.getD i K.zero)) (plK (r.getD i K.zero)))
theorem RuAt.below {w w1 : World} {D o : Nat} {r : Ru} (h : RuAt w D o r) (hb : Below w.heap.size w w1) : RuAt w1 D o r :=
  ⟨Nat.lt_of_lt_of_le h.1 hb.size, fun i hi => (hb.cell (p := ⟨D, o + i, none⟩) h.1).trans (h.2 i hi)⟩
theorem Row.ruAt {w : World} {D N n i : Nat} {g : Nat → Rn} (h : Row w D N n g) (hi : i < n) : RuAt w D (i * 6) (g i).val := by
  refine ⟨RowF.lt h, fun j hj => ?_⟩
  obtain ⟨c0, c1, c2, c3, c4, c5⟩ := Row.cells h hi
  have : j = 0 ∨ j = 1 ∨ j = 2 ∨ j = 3 ∨ j = 4 ∨ j = 5 := by omega
  rcases this with rfl | rfl | rfl | rfl | rfl | rfl
  · exact c0
  · exact c1
  · exact c2
  · exact c3
  · exact c4
  · exact c5

set_option maxRecDepth 100000 in
set_option maxHeartbeats 2000000 in
theorem withinP_any (a b : Ru) (D o D' o' : Nat) (w : World) (ha : NR a) (hb : NR b) (h1 : RuAt w D o a) (h2 : RuAt w D' o' b) :
    Calls Tryz.prog 55 #[.pointer (some ⟨D, o, none⟩), .pointer (some ⟨D', o', none⟩)] w fun e w' => e = .returned (.bool (withinR a b)) ∧ Below w.heap.size w w' := by
  have HC : Hid (∀ k w, Calls Tryz.prog 71 #[.iface (tyK (a.getD k K.zero)) (plK (a.getD k K.zero)), .iface (tyK (b.getD k K.zero)) (plK (b.getD k K.zero))] w fun e w' => e = .returned (.bool (withinI (a.getD k K.zero) (b.getD k K.zero))) ∧ Below w.heap.size w w') := fun k w => by
    have := isWithin_any (a.getD k K.zero) (b.getD k K.zero) w (ha.2 k) (hb.2 k)
    rw [setV_form, setV_form] at this
    exact this
  have HX : Hid (∀ wr, Below w.heap.size w wr → ∀ k, k < 6 → wr.cell? ⟨D, o + k, none⟩ = some (.iface (tyK (a.getD k K.zero)) (plK (a.getD k K.zero))) ∧ wr.cell? ⟨D', o' + k, none⟩ = some (.iface (tyK (b.getD k K.zero)) (plK (b.getD k K.zero)))) := fun wr h k hk => ⟨(h1.below h).2 k hk, (h2.below h).2 k hk⟩
  have HN : Hid (∀ k, k < 6 → withinI (a.getD k K.zero) (b.getD k K.zero) = false → withinR a b = false) := fun k hk h => withinR_no hk h
  have HY : Hid ((∀ k, k < 6 → withinI (a.getD k K.zero) (b.getD k K.zero) = true) → withinR a b = true) := (withinR_iff a b).2
  clear h1 h2 ha hb
  generalize withinR a b = R at *
  go_enter Tryz.func55, Tryz.ntmps55
  go_wp2_with fail
  go_loopw [6] (fun i wr => ∃ k : Nat, k ≤ 6 ∧ i = .int .i64 k ∧ Hid (∀ j, j < k → withinI (a.getD j K.zero) (b.getD j K.zero) = true) ∧ Below w.heap.size w wr) (fun i _ => 6 - (intOf i).toNat)
  case atStart => exact ⟨0, by omega, rfl, fun j hj => by omega, Below.refl _ _⟩
  case round =>
    obtain ⟨k, hk, rfl, HJ, B⟩ := hrel
    rename World => W0
    by_cases hk6 : k < 6
    · obtain ⟨c0, d0⟩ := HX.out W0 B k hk6
      have HCk : Hid _ := HC.out k
      have HNk : Hid (withinI (a.getD k K.zero) (b.getD k K.zero) = false → R = false) := HN.out k hk6
      have HJ1 : Hid (withinI (a.getD k K.zero) (b.getD k K.zero) = true → ∀ j, j < k + 1 → withinI (a.getD j K.zero) (b.getD j K.zero) = true) := fun h j hj => by
        by_cases hjk : j = k
        · subst hjk; exact h
        · exact HJ.out j (by omega)
      have hk6' : (k : Int) < 6 := by omega
      clear HC HX HN HY HJ
      generalize withinI (a.getD k K.zero) (b.getD k K.zero) = Z at *
      generalize tyK (a.getD k K.zero) = T at *
      generalize plK (a.getD k K.zero) = P at *
      generalize tyK (b.getD k K.zero) = T' at *
      generalize plK (b.getD k K.zero) = P' at *
      have SK : Hid (∀ wa wb, Below wa.heap.size wa wb → (Below w.heap.size w wa ∧ wa.cell? ⟨D, o + k, none⟩ = some (.iface T P) ∧ wa.cell? ⟨D', o' + k, none⟩ = some (.iface T' P')) → (Below w.heap.size w wb ∧ wb.cell? ⟨D, o + k, none⟩ = some (.iface T P) ∧ wb.cell? ⟨D', o' + k, none⟩ = some (.iface T' P'))) := fun wa wb hb ⟨s, x, y⟩ => ⟨below_step hb s, cell_step hb x, cell_step hb y⟩
      have hS0 := SK.out W0 W0.drew ((Below.refl _ _).drew) ⟨B, c0, d0⟩
      clear c0 d0 B
      go_wp2_with fail
      go_region_held3 (fun w' => Below w.heap.size w w' ∧ w'.cell? ⟨D, o + k, none⟩ = some (.iface T P) ∧ w'.cell? ⟨D', o' + k, none⟩ = some (.iface T' P'))
        (assumption)
        (first | (go_at_call 71; refine (HCk.out _).mono ?_; rintro _ w9 ⟨rfl, hb9⟩; have hS9 := SK.out _ _ hb9 (by assumption)))
      all_goals
        have B1 : Below w.heap.size w w9 := hS9.1
        clear hS9 hb9 hS0
        cases Z with
        | false =>
          have hR : R = false := HNk.out rfl
          subst hR
          go_wp2
          go_ret
          exact ⟨rfl, B1⟩
        | true =>
          have HJ2 : Hid (∀ j, j < k + 1 → withinI (a.getD j K.zero) (b.getD j K.zero) = true) := HJ1.out rfl
          go_wp2
          go_roundw
          case rel => exact ⟨k + 1, by omega, by go_num, HJ2, B1⟩
          case measure => simp [intOf]; omega
    · have hk' : k = 6 := by omega
      subst hk'
      have hR : R = true := HY.out HJ.out
      subst hR
      clear HC HX HN HY HJ
      go_wp2
      go_ret
      exact ⟨rfl, B⟩

/-- two values of two 64-bit numbers each, held against each other -/
theorem eqIn_mask (a b a' b' : Int) (w : World) (d : Nat) : (Op.equalIn (d + 2) 122 (.agg #[.int .u64 a, .int .u64 b]) (.agg #[.int .u64 a', .int .u64 b'])).run Tryz.prog w = .ok ((a == a') && (b == b')) w := by
  rw [run_equalIn_struct w (d + 1) 122 _ _ (by kernel_rfl) (by kernel_rfl)]
  simp [Program.fieldsOf, Tryz.underlying122, Op.eqFields, go_sem]
  cases h1 : (a == a') <;> cases h2 : (b == b') <;> simp_all
theorem eqIn_range (a b a' b' : Int) (w : World) (d : Nat) : (Op.equalIn (d + 2) 125 (.agg #[.int .u64 a, .int .u64 b]) (.agg #[.int .u64 a', .int .u64 b'])).run Tryz.prog w = .ok ((a == a') && (b == b')) w := by
  rw [run_equalIn_struct w (d + 1) 125 _ _ (by kernel_rfl) (by kernel_rfl)]
  simp [Program.fieldsOf, Tryz.underlying125, Op.eqFields, go_sem]
  cases h1 : (a == a') <;> cases h2 : (b == b') <;> simp_all
theorem neq_same (T : TypeId) (v v' : Value) (r : Bool) (w : World) (hc : (Tryz.prog.info? T).map (·.comparable) = some true) (h : ∀ d, (Op.equalIn (d + 2) T v v').run Tryz.prog w = .ok r w) : (binOp .neq 69 (.iface T v) (.iface T v')).run Tryz.prog w = .ok (.bool (!r)) w := by
  cases hi : Tryz.prog.info? T with
  | none => simp [hi] at hc
  | some i =>
    have hcc : i.comparable = true := by simpa [hi] using hc
    have h2 : ∀ d : Nat, (Op.equalIn (d + 3) 69 (.iface T v) (.iface T v')).run Tryz.prog w = .ok r w := fun d => by
      rw [Op.equalIn]
      simp [run_underlying Tryz.underlying69, typeInfo, hi, hcc, h d]
    simp only [binOp]
    simp [Op.equal, Op.maxDepth, h2 9997]
theorem neq_other (T T' : TypeId) (v v' : Value) (w : World) (h : T ≠ T') : (binOp .neq 69 (.iface T v) (.iface T' v')).run Tryz.prog w = .ok (.bool true) w := by
  have h2 : ∀ d : Nat, (Op.equalIn (d + 1) 69 (.iface T v) (.iface T' v')).run Tryz.prog w = .ok false w := fun d => by simp [Op.equalIn, run_underlying Tryz.underlying69, h]
  simp only [binOp]
  simp [Op.equal, Op.maxDepth, h2 9999]
/-- two conditions held against each other -/
theorem neq_iface {c d : K} (hc : Normal c) (hd : Normal d) (w : World) : (binOp .neq 69 (.iface (tyK c) (plK c)) (.iface (tyK d) (plK d))).run Tryz.prog w = .ok (.bool (decide (c ≠ d))) w := by
  have kN : ∀ x y : Nat, ((x : Int) == (y : Int)) = decide (x = y) := fun x y => by rw [Bool.eq_iff_iff, beq_iff_eq, decide_eq_true_eq]; omega
  rcases hc with rfl | ⟨a, b, rfl, _⟩ | ⟨a, b, rfl, _⟩ <;> rcases hd with rfl | ⟨a', b', rfl, _⟩ | ⟨a', b', rfl, _⟩
  · exact neq_same 110 (.agg #[]) (.agg #[]) true w (by kernel_rfl) (fun d => by
      rw [run_equalIn_struct w (d + 1) 110 _ _ (by kernel_rfl) (by kernel_rfl)]
      simp [Program.fieldsOf, Tryz.underlying110, Op.eqFields, go_sem])
  · exact (neq_other _ _ _ _ w (by simp [tyK])).trans (by simp)
  · exact (neq_other _ _ _ _ w (by simp [tyK])).trans (by simp)
  · exact (neq_other _ _ _ _ w (by simp [tyK])).trans (by simp)
  · refine (neq_same 122 _ _ _ w (by kernel_rfl) (fun d => eqIn_mask _ _ _ _ w d)).trans ?_
    rw [kN, kN]
    congr 2
    rw [Bool.eq_iff_iff]
    simp
  · exact (neq_other _ _ _ _ w (by simp [tyK])).trans (by simp)
  · exact (neq_other _ _ _ _ w (by simp [tyK])).trans (by simp)
  · exact (neq_other _ _ _ _ w (by simp [tyK])).trans (by simp)
  · refine (neq_same 125 _ _ _ w (by kernel_rfl) (fun d => eqIn_range _ _ _ _ w d)).trans ?_
    rw [kN, kN]
    congr 2
    rw [Bool.eq_iff_iff]
    simp
end Go.Proofs.YtoamapdfcdefjaaGreat
namespace Go.Proofs.YtoamapdfcdefjaaGreat
open Go.RowKit
set_option linter.unusedVariables false
open srtR

/-- how many of the first k conditions differ, and the last of them -/
def cntD (a b : Ru) : Nat → Nat
  | 0 => 0
  | k + 1 => cntD a b k + if a.getD k K.zero ≠ b.getD k K.zero then 1 else 0
def lastD (a b : Ru) : Nat → Nat
  | 0 => 0
  | k + 1 => if a.getD k K.zero ≠ b.getD k K.zero then k else lastD a b k
theorem cntD_le (a b : Ru) : ∀ k, cntD a b k ≤ k
  | 0 => Nat.le_refl _
  | k + 1 => by have := cntD_le a b k; unfold cntD; split <;> omega
theorem lastD_lt (a b : Ru) : ∀ k, lastD a b (k + 1) < k + 1
  | 0 => by unfold lastD; split <;> simp [lastD]
  | k + 1 => by have := lastD_lt a b k; unfold lastD; split <;> omega
theorem lastD_6 (a b : Ru) : ∀ k, k ≤ 6 → lastD a b k < 6
  | 0, _ => by simp [lastD]
  | k + 1, h => by have := lastD_lt a b k; omega
theorem cntD_0 {a b : Ru} : ∀ k, cntD a b k = 0 → ∀ j, j < k → a.getD j K.zero = b.getD j K.zero
  | 0, _, j, hj => by omega
  | k + 1, h, j, hj => by
    unfold cntD at h
    by_cases e : a.getD k K.zero = b.getD k K.zero
    · rw [if_neg (by simpa using e)] at h
      by_cases hjk : j = k
      · subst hjk; exact e
      · exact cntD_0 k (by omega) j (by omega)
    · rw [if_pos e] at h; omega
theorem cntD_1 {a b : Ru} : ∀ k, cntD a b k = 1 → lastD a b k < k ∧ a.getD (lastD a b k) K.zero ≠ b.getD (lastD a b k) K.zero ∧ ∀ j, j < k → j ≠ lastD a b k → a.getD j K.zero = b.getD j K.zero
  | 0, h => by simp [cntD] at h
  | k + 1, h => by
    unfold cntD at h
    unfold lastD
    by_cases e : a.getD k K.zero = b.getD k K.zero
    · rw [if_neg (by simpa using e)] at h
      rw [if_neg (by simpa using e)]
      obtain ⟨h1, h2, h3⟩ := cntD_1 k (by omega)
      refine ⟨by omega, h2, fun j hj hne => ?_⟩
      by_cases hjk : j = k
      · subst hjk; exact e
      · exact h3 j (by omega) hne
    · rw [if_pos e] at h
      rw [if_pos e]
      exact ⟨by omega, e, fun j hj hne => cntD_0 k (by omega) j (by omega)⟩
theorem cntD_one {a b : Ru} {i : Nat} (hi : a.getD i K.zero ≠ b.getD i K.zero) : ∀ k, (∀ j, j < k → j ≠ i → a.getD j K.zero = b.getD j K.zero) → cntD a b k = if i < k then 1 else 0
  | 0, _ => by simp [cntD]
  | k + 1, h => by
    have ih := cntD_one hi k (fun j hj hne => h j (by omega) hne)
    unfold cntD
    rw [ih]
    by_cases e : k = i
    · subst e
      rw [if_neg (by omega), if_pos hi, if_pos (by omega)]
    · have hz : (if a.getD k K.zero ≠ b.getD k K.zero then 1 else 0) = 0 := if_neg (fun hne => hne (h k (by omega) e))
      rw [hz]
      by_cases hik : i < k
      · rw [if_pos hik, if_pos (by omega)]
      · rw [if_neg hik, if_neg (by omega)]
theorem noJoin_cnt {a b : Ru} (h : cntD a b 6 ≠ 1) : NoJoin a b := by
  rintro r ⟨i, c, ⟨h1, h2, h3, h4⟩, _⟩
  apply h
  rw [cntD_one h2 6 h3, if_pos h1]
theorem noJoin_none {a b : Ru} (h : cntD a b 6 = 1) (hn : joinK (a.getD (lastD a b 6) K.zero) (b.getD (lastD a b 6) K.zero) = none) : NoJoin a b := by
  rintro r ⟨i, c, ⟨h1, h2, h3, h4⟩, _⟩
  obtain ⟨k1, k2, k3⟩ := cntD_1 6 h
  have : i = lastD a b 6 := by
    by_cases e : i = lastD a b 6
    · exact e
    · exact absurd (k3 i h1 e) h2
  rw [this, hn] at h4; cases h4
theorem join_some {a b : Ru} {c : K} (h : cntD a b 6 = 1) (hn : joinK (a.getD (lastD a b 6) K.zero) (b.getD (lastD a b 6) K.zero) = some c) : JoinR a b (a.set (lastD a b 6) c) := by
  obtain ⟨k1, k2, k3⟩ := cntD_1 6 h
  exact ⟨_, c, ⟨k1, k2, k3, hn⟩, rfl⟩

/-- what joining answers -/
def JoinPost (a b : Ru) (e : Ending) : Prop := (∃ r, JoinR a b r ∧ e = .returned (.tuple #[.agg (encR r).toArray, .bool true])) ∨ (NoJoin a b ∧ e = .returned (.tuple #[.agg #[.nilIface, .nilIface, .nilIface, .nilIface, .nilIface, .nilIface], .bool false]))

theorem encR_set (a : Ru) (i : Nat) (c : K) (hl : a.length = 6) (hi : i < 6) : (encR (a.set i c)).toArray = (encR a).toArray.set! i (.iface (tyK c) (plK c)) := by
  have : i = 0 ∨ i = 1 ∨ i = 2 ∨ i = 3 ∨ i = 4 ∨ i = 5 := by omega
  rcases this with rfl | rfl | rfl | rfl | rfl | rfl <;> simp [encR, setV_form, hl]

theorem below_set6 {n : Nat} {w w' : World} {g : Nat} (h : Below n w w') (hg : n ≤ g) (x0 x1 x2 x3 x4 x5 : Value) : Below n w ((((((w'.setCell ⟨g, 0, none⟩ x0).setCell ⟨g, 1, none⟩ x1).setCell ⟨g, 2, none⟩ x2).setCell ⟨g, 3, none⟩ x3).setCell ⟨g, 4, none⟩ x4).setCell ⟨g, 5, none⟩ x5) :=
  (((((h.setCell (p := ⟨g, 0, none⟩) hg x0).setCell (p := ⟨g, 1, none⟩) hg x1).setCell (p := ⟨g, 2, none⟩) hg x2).setCell (p := ⟨g, 3, none⟩) hg x3).setCell (p := ⟨g, 4, none⟩) hg x4).setCell (p := ⟨g, 5, none⟩) hg x5

set_option maxRecDepth 100000 in
set_option maxHeartbeats 8000000 in
theorem joinP_any (a b : Ru) (D o D' o' : Nat) (w : World) (ha : NR a) (hb : NR b) (h1 : RuAt w D o a) (h2 : RuAt w D' o' b) :
    Calls Tryz.prog 57 #[.pointer (some ⟨D, o, none⟩), .pointer (some ⟨D', o', none⟩)] w fun e w' => JoinPost a b e ∧ Below w.heap.size w w' := by
  have HC : Hid (∀ k w, Calls Tryz.prog 72 #[.iface (tyK (a.getD k K.zero)) (plK (a.getD k K.zero)), .iface (tyK (b.getD k K.zero)) (plK (b.getD k K.zero))] w fun e w' => e = .returned (joinV (joinK (a.getD k K.zero) (b.getD k K.zero))) ∧ Below w.heap.size w w') := fun k w => by
    have := joinConditions_any (a.getD k K.zero) (b.getD k K.zero) w (ha.2 k) (hb.2 k)
    rw [setV_form, setV_form] at this
    exact this
  have HNq : Hid (∀ k w, (binOp .neq 69 (.iface (tyK (a.getD k K.zero)) (plK (a.getD k K.zero))) (.iface (tyK (b.getD k K.zero)) (plK (b.getD k K.zero)))).run Tryz.prog w = .ok (.bool (decide (a.getD k K.zero ≠ b.getD k K.zero))) w) := fun k w => neq_iface (ha.2 k) (hb.2 k) w
  have HX : Hid (∀ wr, Below w.heap.size w wr → ∀ k, k < 6 → wr.cell? ⟨D, o + k, none⟩ = some (.iface (tyK (a.getD k K.zero)) (plK (a.getD k K.zero))) ∧ wr.cell? ⟨D', o' + k, none⟩ = some (.iface (tyK (b.getD k K.zero)) (plK (b.getD k K.zero)))) := fun wr h k hk => ⟨(h1.below h).2 k hk, (h2.below h).2 k hk⟩
  have HCn : Hid (∀ k, cntD a b (k + 1) = cntD a b k + if a.getD k K.zero ≠ b.getD k K.zero then 1 else 0) := fun k => rfl
  have HLa : Hid (∀ k, lastD a b (k + 1) = if a.getD k K.zero ≠ b.getD k K.zero then k else lastD a b k) := fun k => rfl
  have HCl : Hid (∀ k, cntD a b k ≤ k) := cntD_le a b
  have HL0 : Hid (lastD a b 0 = 0) := rfl
  have HC0 : Hid (cntD a b 0 = 0) := rfl
  have HL6 : Hid (∀ k, k ≤ 6 → lastD a b k < 6) := lastD_6 a b
  have HP0 : Hid (cntD a b 6 ≠ 1 → JoinPost a b (.returned (.tuple #[.agg #[.nilIface, .nilIface, .nilIface, .nilIface, .nilIface, .nilIface], .bool false]))) := fun h => .inr ⟨noJoin_cnt h, rfl⟩
  have HP1 : Hid (cntD a b 6 = 1 → joinK (a.getD (lastD a b 6) K.zero) (b.getD (lastD a b 6) K.zero) = none → JoinPost a b (.returned (.tuple #[.agg #[.nilIface, .nilIface, .nilIface, .nilIface, .nilIface, .nilIface], .bool false]))) := fun h hn => .inr ⟨noJoin_none h hn, rfl⟩
  have HP2 : Hid (cntD a b 6 = 1 → ∀ c, joinK (a.getD (lastD a b 6) K.zero) (b.getD (lastD a b 6) K.zero) = some c → JoinPost a b (.returned (.tuple #[.agg ((encR a).toArray.set! (lastD a b 6) (.iface (tyK c) (plK c))), .bool true]))) := fun h c hn => .inl ⟨_, join_some h hn, by rw [encR_set a _ c ha.1 (lastD_6 a b 6 (by omega))]⟩
  have HEn : Hid ((encR a).toArray = #[.iface (tyK (a.getD 0 K.zero)) (plK (a.getD 0 K.zero)), .iface (tyK (a.getD 1 K.zero)) (plK (a.getD 1 K.zero)), .iface (tyK (a.getD 2 K.zero)) (plK (a.getD 2 K.zero)), .iface (tyK (a.getD 3 K.zero)) (plK (a.getD 3 K.zero)), .iface (tyK (a.getD 4 K.zero)) (plK (a.getD 4 K.zero)), .iface (tyK (a.getD 5 K.zero)) (plK (a.getD 5 K.zero))]) := by unfold Hid; simp only [encR, setV_form]
  have hDl := h1.1
  have hDl' := h2.1
  have B0 : Below w.heap.size w (w.alloc (.cells #[.nilIface, .nilIface, .nilIface, .nilIface, .nilIface, .nilIface] 71)) := (Below.refl _ _).alloc (Nat.le_refl _) _
  have hr0 : (w.alloc (.cells #[.nilIface, .nilIface, .nilIface, .nilIface, .nilIface, .nilIface] 71)).rowIs w.heap.size 71 6 (fun _ => .nilIface) := World.rowIs_alloc w #[.nilIface, .nilIface, .nilIface, .nilIface, .nilIface, .nilIface] 71 (fun _ => .nilIface) (fun i hi => by
    have : i = 0 ∨ i = 1 ∨ i = 2 ∨ i = 3 ∨ i = 4 ∨ i = 5 := by simp at hi; omega
    rcases this with rfl | rfl | rfl | rfl | rfl | rfl <;> rfl)
  clear h1 h2 ha hb
  generalize cntD a b = CN at *
  generalize lastD a b = LA at *
  go_enter Tryz.func57, Tryz.ntmps57
  go_wp2_with fail
  generalize w.alloc (.cells #[.nilIface, .nilIface, .nilIface, .nilIface, .nilIface, .nilIface] 71) = W at *
  go_loopw [6, 7, 12] (fun t c i wr => ∃ k : Nat, k ≤ 6 ∧ i = .int .i64 k ∧ t = .int .i64 (LA k : Nat) ∧ c = .int .i64 (CN k : Nat) ∧ Below w.heap.size w wr ∧ wr.rowIs w.heap.size 71 6 (fun _ => .nilIface)) (fun _ _ i _ => 6 - (intOf i).toNat)
  case atStart => exact ⟨0, by omega, rfl, by rw [HL0.out]; rfl, by rw [HC0.out]; rfl, B0, hr0⟩
  case round =>
    clear B0 hr0
    obtain ⟨k, hk, rfl, rfl, rfl, B, hr⟩ := hrel
    rename World => W0
    by_cases hk6 : k < 6
    · obtain ⟨c0, d0⟩ := HX.out W0 B k hk6
      have hnq := HNq.out k
      have hcn := HCn.out k
      have hla := HLa.out k
      have hcl := HCl.out k
      have hk6' : (k : Int) < 6 := by omega
      have HR : Hid (W0.rowIs w.heap.size 71 6 (fun _ => .nilIface)) := hr
      have HBb : Hid (Below w.heap.size w W0) := B
      clear HC HNq HX HCn HLa HCl HL6 HP0 HP1 HP2 HEn HL0 HC0 hr B
      by_cases hz : a.getD k K.zero = b.getD k K.zero
      · have e1 : decide (a.getD k K.zero ≠ b.getD k K.zero) = false := decide_eq_false (fun h => h hz)
        rw [if_neg (fun h => h hz)] at hcn hla
        rw [e1] at hnq
        have HCk : Hid (CN (k + 1) = CN k) := hcn
        have HLk : Hid (LA (k + 1) = LA k) := hla
        clear hcn hla hz e1
        generalize tyK (a.getD k K.zero) = T at *
        generalize plK (a.getD k K.zero) = P at *
        generalize tyK (b.getD k K.zero) = T' at *
        generalize plK (b.getD k K.zero) = P' at *
        go_wp2_with fail
        go_quiet (fail)
        have B1 := below_drewN HBb.out nq
        have R1 := HR.out.of_block (w' := W0.drewN nq) (by rfl)
        clear HBb HR
        generalize W0.drewN nq = W1 at *
        go_wp2
        go_roundw
        case rel => exact ⟨k + 1, by omega, by go_num, by rw [HLk.out], by rw [HCk.out], B1, R1⟩
        case measure => simp [intOf]; omega
      · have e1 : decide (a.getD k K.zero ≠ b.getD k K.zero) = true := decide_eq_true hz
        rw [if_pos hz] at hcn hla
        rw [e1] at hnq
        have HCk : Hid (CN (k + 1) = CN k + 1) := hcn
        have HLk : Hid (LA (k + 1) = k) := hla
        clear hcn hla hz e1
        generalize tyK (a.getD k K.zero) = T at *
        generalize plK (a.getD k K.zero) = P at *
        generalize tyK (b.getD k K.zero) = T' at *
        generalize plK (b.getD k K.zero) = P' at *
        go_wp2_with fail
        go_quiet (fail)
        have B1 := below_drewN HBb.out nq
        have R1 := HR.out.of_block (w' := W0.drewN nq) (by rfl)
        clear HBb HR
        generalize W0.drewN nq = W1 at *
        go_wp2
        go_roundw
        case rel => exact ⟨k + 1, by omega, by go_num, by rw [HLk.out], by rw [HCk.out]; go_num, B1, R1⟩
        case measure => simp [intOf]; omega
    · have hk' : k = 6 := by omega
      subst hk'
      have hla := HL6.out 6 (by omega)
      have hcl := HCl.out 6
      clear HCn HLa HCl HL6 HNq HL0 HC0
      generalize LA 6 = L at *
      generalize CN 6 = N at *
      have q0 := hr.cell (i := 0) (by omega)
      have q1 := hr.cell (i := 1) (by omega)
      have q2 := hr.cell (i := 2) (by omega)
      have q3 := hr.cell (i := 3) (by omega)
      have q4 := hr.cell (i := 4) (by omega)
      have q5 := hr.cell (i := 5) (by omega)
      have z0 := hr.frozen 0
      have z1 := hr.frozen 1
      have z2 := hr.frozen 2
      have z3 := hr.frozen 3
      have z4 := hr.frozen 4
      have z5 := hr.frozen 5
      by_cases hN : N = 1
      · subst hN
        obtain ⟨c0, d0⟩ := HX.out W0 B L hla
        have HCL : Hid (∀ w, Calls Tryz.prog 72 #[.iface (tyK (a.getD L K.zero)) (plK (a.getD L K.zero)), .iface (tyK (b.getD L K.zero)) (plK (b.getD L K.zero))] w fun e w' => e = .returned (joinV (joinK (a.getD L K.zero) (b.getD L K.zero))) ∧ Below w.heap.size w w') := HC.out L
        have HQ1 : Hid (joinK (a.getD L K.zero) (b.getD L K.zero) = none → JoinPost a b (.returned (.tuple #[.agg #[.nilIface, .nilIface, .nilIface, .nilIface, .nilIface, .nilIface], .bool false]))) := HP1.out rfl
        have HQ2 : Hid (∀ c, joinK (a.getD L K.zero) (b.getD L K.zero) = some c → JoinPost a b (.returned (.tuple #[.agg ((encR a).toArray.set! L (.iface (tyK c) (plK c))), .bool true]))) := HP2.out rfl
        have HXa : Hid (∀ wr, Below w.heap.size w wr → ∀ k, k < 6 → wr.cell? ⟨D, o + k, none⟩ = some (.iface (tyK (a.getD k K.zero)) (plK (a.getD k K.zero)))) := fun wr h k hk => (HX.out wr h k hk).1
        have HRow : Hid (∀ w9, Below W0.heap.size W0 w9 → w9.rowIs w.heap.size 71 6 (fun _ => .nilIface) ∧ Below w.heap.size w w9) := fun w9 h => ⟨hr.of_block (h.block _ hr.lt), B.trans (h.mono B.size)⟩
        have SK : Hid (∀ wa wb, Below wa.heap.size wa wb → (Below W0.heap.size W0 wa ∧ wa.cell? ⟨D, o + L, none⟩ = some (.iface (tyK (a.getD L K.zero)) (plK (a.getD L K.zero))) ∧ wa.cell? ⟨D', o' + L, none⟩ = some (.iface (tyK (b.getD L K.zero)) (plK (b.getD L K.zero)))) → (Below W0.heap.size W0 wb ∧ wb.cell? ⟨D, o + L, none⟩ = some (.iface (tyK (a.getD L K.zero)) (plK (a.getD L K.zero))) ∧ wb.cell? ⟨D', o' + L, none⟩ = some (.iface (tyK (b.getD L K.zero)) (plK (b.getD L K.zero))))) := fun wa wb hb ⟨s, x, y⟩ => ⟨below_step hb s, cell_step hb x, cell_step hb y⟩
        have hS0 := SK.out W0 W0.drew ((Below.refl _ _).drew) ⟨Below.refl _ _, c0, d0⟩
        have hLi : (L : Int) < 6 := by omega
        clear HC HX HP0 HP1 HP2 hr B c0 d0 q0 z0 q1 z1 q2 z2 q3 z3 q4 z4 q5 z5
        generalize joinK (a.getD L K.zero) (b.getD L K.zero) = J at *
        generalize tyK (b.getD L K.zero) = T' at *
        generalize plK (b.getD L K.zero) = P' at *
        generalize tyK (a.getD L K.zero) = T at HCL SK hS0
        generalize plK (a.getD L K.zero) = P at HCL SK hS0
        go_wp2_with fail
        go_region_held3 (fun w' => Below W0.heap.size W0 w' ∧ w'.cell? ⟨D, o + L, none⟩ = some (.iface T P) ∧ w'.cell? ⟨D', o' + L, none⟩ = some (.iface T' P'))
          (assumption)
          (first | (go_at_call 72; refine (HCL.out _).mono ?_; rintro _ w9 ⟨rfl, hb9⟩; have hS9 := SK.out _ _ hb9 (by assumption)))
        all_goals
          obtain ⟨R9, B9⟩ := HRow.out w9 hS9.1
          have hwl : w.heap.size < w9.heap.size := R9.lt
          have q0 := R9.cell (i := 0) (by omega)
          have z0 := R9.frozen 0
          have q1 := R9.cell (i := 1) (by omega)
          have z1 := R9.frozen 1
          have q2 := R9.cell (i := 2) (by omega)
          have z2 := R9.frozen 2
          have q3 := R9.cell (i := 3) (by omega)
          have z3 := R9.frozen 3
          have q4 := R9.cell (i := 4) (by omega)
          have z4 := R9.frozen 4
          have q5 := R9.cell (i := 5) (by omega)
          have z5 := R9.frozen 5
          clear hS9 hb9 hS0 SK HCL HRow
          cases J with
          | none =>
            have HPo := HQ1.out rfl
            clear HQ1 HQ2 HXa R9
            go_wp2
            exact bodyPost_ret (v := .tuple #[.agg #[.nilIface, .nilIface, .nilIface, .nilIface, .nilIface, .nilIface], .bool false]) (by simp [results, Tryz.results57, go_sem, q0, q1, q2, q3, q4, q5]) rfl ⟨HPo, below_set6 B9 (Nat.le_refl _) _ _ _ _ _ _⟩
          | some c =>
            have HPo : Hid _ := HQ2.out c rfl
            have hjv : jVI (some c) = .iface (tyK c) (plK c) := setV_form c
            have x0 := HXa.out w9 B9 0 (by omega)
            have x1 := HXa.out w9 B9 1 (by omega)
            have x2 := HXa.out w9 B9 2 (by omega)
            have x3 := HXa.out w9 B9 3 (by omega)
            have x4 := HXa.out w9 B9 4 (by omega)
            have x5 := HXa.out w9 B9 5 (by omega)
            rw [Nat.add_zero] at x0
            rw [HEn.out] at HPo
            have hL6 : L = 0 ∨ L = 1 ∨ L = 2 ∨ L = 3 ∨ L = 4 ∨ L = 5 := by omega
            clear HQ1 HQ2 HXa HEn R9
            generalize tyK (a.getD 0 K.zero) = t0 at *
            generalize plK (a.getD 0 K.zero) = p0 at *
            generalize tyK (a.getD 1 K.zero) = t1 at *
            generalize plK (a.getD 1 K.zero) = p1 at *
            generalize tyK (a.getD 2 K.zero) = t2 at *
            generalize plK (a.getD 2 K.zero) = p2 at *
            generalize tyK (a.getD 3 K.zero) = t3 at *
            generalize plK (a.getD 3 K.zero) = p3 at *
            generalize tyK (a.getD 4 K.zero) = t4 at *
            generalize plK (a.getD 4 K.zero) = p4 at *
            generalize tyK (a.getD 5 K.zero) = t5 at *
            generalize plK (a.getD 5 K.zero) = p5 at *
            rcases hL6 with rfl | rfl | rfl | rfl | rfl | rfl
            · have HPe : Hid (JoinPost a b (.returned (.tuple #[.agg #[.iface (tyK c) (plK c), .iface t1 p1, .iface t2 p2, .iface t3 p3, .iface t4 p4, .iface t5 p5], .bool true]))) := HPo.out
              clear HPo
              go_wp2
              refine bodyPost_ret (v := .tuple #[.agg #[.iface (tyK c) (plK c), .iface t1 p1, .iface t2 p2, .iface t3 p3, .iface t4 p4, .iface t5 p5], .bool true]) (by simp [results, Tryz.results57, go_sem, q0, q1, q2, q3, q4, q5, hwl]) rfl ⟨HPe.out, ?_⟩
              have Bq := below_set6 B9 (Nat.le_refl _) (.iface (tyK c) (plK c)) (.iface t1 p1) (.iface t2 p2) (.iface t3 p3) (.iface t4 p4) (.iface t5 p5)
              exact Bq.alloc Bq.size _
            · have HPe : Hid (JoinPost a b (.returned (.tuple #[.agg #[.iface t0 p0, .iface (tyK c) (plK c), .iface t2 p2, .iface t3 p3, .iface t4 p4, .iface t5 p5], .bool true]))) := HPo.out
              clear HPo
              go_wp2
              refine bodyPost_ret (v := .tuple #[.agg #[.iface t0 p0, .iface (tyK c) (plK c), .iface t2 p2, .iface t3 p3, .iface t4 p4, .iface t5 p5], .bool true]) (by simp [results, Tryz.results57, go_sem, q0, q1, q2, q3, q4, q5, hwl]) rfl ⟨HPe.out, ?_⟩
              have Bq := below_set6 B9 (Nat.le_refl _) (.iface t0 p0) (.iface (tyK c) (plK c)) (.iface t2 p2) (.iface t3 p3) (.iface t4 p4) (.iface t5 p5)
              exact Bq.alloc Bq.size _
            · have HPe : Hid (JoinPost a b (.returned (.tuple #[.agg #[.iface t0 p0, .iface t1 p1, .iface (tyK c) (plK c), .iface t3 p3, .iface t4 p4, .iface t5 p5], .bool true]))) := HPo.out
              clear HPo
              go_wp2
              refine bodyPost_ret (v := .tuple #[.agg #[.iface t0 p0, .iface t1 p1, .iface (tyK c) (plK c), .iface t3 p3, .iface t4 p4, .iface t5 p5], .bool true]) (by simp [results, Tryz.results57, go_sem, q0, q1, q2, q3, q4, q5, hwl]) rfl ⟨HPe.out, ?_⟩
              have Bq := below_set6 B9 (Nat.le_refl _) (.iface t0 p0) (.iface t1 p1) (.iface (tyK c) (plK c)) (.iface t3 p3) (.iface t4 p4) (.iface t5 p5)
              exact Bq.alloc Bq.size _
            · have HPe : Hid (JoinPost a b (.returned (.tuple #[.agg #[.iface t0 p0, .iface t1 p1, .iface t2 p2, .iface (tyK c) (plK c), .iface t4 p4, .iface t5 p5], .bool true]))) := HPo.out
              clear HPo
              go_wp2
              refine bodyPost_ret (v := .tuple #[.agg #[.iface t0 p0, .iface t1 p1, .iface t2 p2, .iface (tyK c) (plK c), .iface t4 p4, .iface t5 p5], .bool true]) (by simp [results, Tryz.results57, go_sem, q0, q1, q2, q3, q4, q5, hwl]) rfl ⟨HPe.out, ?_⟩
              have Bq := below_set6 B9 (Nat.le_refl _) (.iface t0 p0) (.iface t1 p1) (.iface t2 p2) (.iface (tyK c) (plK c)) (.iface t4 p4) (.iface t5 p5)
              exact Bq.alloc Bq.size _
            · have HPe : Hid (JoinPost a b (.returned (.tuple #[.agg #[.iface t0 p0, .iface t1 p1, .iface t2 p2, .iface t3 p3, .iface (tyK c) (plK c), .iface t5 p5], .bool true]))) := HPo.out
              clear HPo
              go_wp2
              refine bodyPost_ret (v := .tuple #[.agg #[.iface t0 p0, .iface t1 p1, .iface t2 p2, .iface t3 p3, .iface (tyK c) (plK c), .iface t5 p5], .bool true]) (by simp [results, Tryz.results57, go_sem, q0, q1, q2, q3, q4, q5, hwl]) rfl ⟨HPe.out, ?_⟩
              have Bq := below_set6 B9 (Nat.le_refl _) (.iface t0 p0) (.iface t1 p1) (.iface t2 p2) (.iface t3 p3) (.iface (tyK c) (plK c)) (.iface t5 p5)
              exact Bq.alloc Bq.size _
            · have HPe : Hid (JoinPost a b (.returned (.tuple #[.agg #[.iface t0 p0, .iface t1 p1, .iface t2 p2, .iface t3 p3, .iface t4 p4, .iface (tyK c) (plK c)], .bool true]))) := HPo.out
              clear HPo
              go_wp2
              refine bodyPost_ret (v := .tuple #[.agg #[.iface t0 p0, .iface t1 p1, .iface t2 p2, .iface t3 p3, .iface t4 p4, .iface (tyK c) (plK c)], .bool true]) (by simp [results, Tryz.results57, go_sem, q0, q1, q2, q3, q4, q5, hwl]) rfl ⟨HPe.out, ?_⟩
              have Bq := below_set6 B9 (Nat.le_refl _) (.iface t0 p0) (.iface t1 p1) (.iface t2 p2) (.iface t3 p3) (.iface t4 p4) (.iface (tyK c) (plK c))
              exact Bq.alloc Bq.size _
      · have HPo := HP0.out hN
        have hN' : ¬ (N : Int) = 1 := by omega
        clear HC HX HP0 HP1 HP2 HEn hN hr
        go_wp2
        exact bodyPost_ret (v := .tuple #[.agg #[.nilIface, .nilIface, .nilIface, .nilIface, .nilIface, .nilIface], .bool false]) (by simp [results, Tryz.results57, go_sem, q0, q1, q2, q3, q4, q5]) rfl ⟨HPo, below_set6 B (Nat.le_refl _) _ _ _ _ _ _⟩
end Go.Proofs.YtoamapdfcdefjaaGreat
namespace Go.Proofs.YtoamapdfcdefjaaGreat.srtR
open Go.Shelf Go.RowKit Go.Lib Go.Sort
set_option linter.unusedVariables false

theorem infoEl : (Tryz.prog.info? 71).map (fun i => (i.zero, i.size, i.bytes)) = some (some (.agg #[.nilIface, .nilIface, .nilIface, .nilIface, .nilIface, .nilIface]), 6, 96) := by kernel_rfl

set_option maxRecDepth 100000 in
set_option maxHeartbeats 2000000 in
theorem once_any (b o n cap : Nat) (g : Nat → Rn) (w : World) (hs : SrcF encN 6 w b o n g) (h0 : 0 < n) (hn : n ≤ 1048576) :
    Calls Tryz.prog 31 #[.slice (some ⟨b, o, none⟩) n cap, .func (.func 32) #[] #[]] w fun e w' => ∃ v m g', e = .returned v ∧ m ≤ n ∧ OnceF 71 encN 6 w' w.heap.size v m g' ∧ DistG ordN (lstF g n) (lstF g' m) ∧ Below w.heap.size w w' := by
  obtain ⟨i0, hi, hz0, hz1, hz2⟩ := info_parts infoEl
  have hbx : w.heap.size < (w.alloc (.cells #[.func (.func 32) #[] #[]] 74)).heap.size := by simp
  have hxW : (w.alloc (.cells #[.func (.func 32) #[] #[]] 74)).cell? ⟨w.heap.size, 0, none⟩ = some (.func (.func 32) #[] #[]) := by simp
  have B0 : Below w.heap.size w (w.alloc (.cells #[.func (.func 32) #[] #[]] 74)) := (Below.refl _ _).alloc (Nat.le_refl _) _
  have hs1 := hs.below B0
  have HCe : Hid (∀ j u, ((lstF g n).flatMap encN)[j]? = some u → (w.alloc (.cells #[.func (.func 32) #[] #[]] 74)).cell? ((⟨b, o, none⟩ : Addr).add j) = some u) := by
    intro j u hj
    have hjl : j < n * 6 := by
      have := (List.getElem?_eq_some_iff.1 hj).1
      rw [flat_len encN_len] at this; exact this
    rw [flat_get encN_len g n j hjl] at hj
    rw [add_at, hs1.2 j hjl]; exact hj
  have HOne : Hid (∀ u ∈ (lstF g n).flatMap encN, u.oneCell' = true) := by
    intro u hu
    simp only [List.mem_flatMap] at hu
    obtain ⟨p, _, hp⟩ := hu
    exact encN_one p u hp
  have HLen : Hid (((lstF g n).flatMap encN).length = n * 6) := flat_len encN_len g n
  generalize hW : w.alloc (.cells #[.func (.func 32) #[] #[]] 74) = W at *
  have HRow : Hid (∀ w1 v, w1.ownsRow W.heap.size 71 6 v n ((lstF g n).flatMap encN) → ∃ D N, v = .slice (some ⟨D, 0, none⟩) n N ∧ W.heap.size ≤ D ∧ n ≤ N ∧ Row w1 D N n g) := fun w1 v h => own_rowF encN_len h0 h
  have HSort : Hid (∀ w1 D N, Below W.heap.size W w1 → W.heap.size ≤ D → Row w1 D N n g → Calls Tryz.prog 51 #[.slice (some ⟨D, 0, none⟩) n N, .func (.func 32) #[] #[]] w1 fun e w' => e = .returned (.tuple #[]) ∧
      ∃ g', Row w' D N n g' ∧ (∀ c, c ∈ lstF g' n ↔ c ∈ lstF g n) ∧ (lstF g' n).Pairwise (fun a b => ordN a b ≤ 0) ∧ Below W.heap.size W w') :=
    fun w1 D N hB hD hr => sort_any W.heap.size D N n N g W w1 (Nat.le_refl _) hB hD hr (by omega)
  have HComp : Hid (∀ w1 D N g', Below W.heap.size W w1 → W.heap.size ≤ D → n ≤ N → Row w1 D N n g' → Calls Tryz.prog 52 #[.slice (some ⟨D, 0, none⟩) n N, .func (.func 53) #[] #[.pointer (some ⟨w.heap.size, 0, none⟩)]] w1 fun e w' =>
      ∃ m, e = .returned (.slice (some ⟨D, 0, none⟩) m N) ∧ ∃ g3, Row w' D N m g3 ∧ lstF g3 m = compG ordN (lstF g' n) n ∧ Below W.heap.size W w') :=
    fun w1 D N g' hB hD hN hr => compact_any w.heap.size W.heap.size D N n N g' W w1 (Nat.le_refl _) hB hD hbx hxW hr hN (by omega)
  have HDist : Hid (∀ g' g3 m, (∀ c, c ∈ lstF g' n ↔ c ∈ lstF g n) → (lstF g' n).Pairwise (fun a b => ordN a b ≤ 0) → lstF g3 m = compG ordN (lstF g' n) n → DistG ordN (lstF g n) (lstF g3 m) ∧ m ≤ n) := by
    intro g' g3 m h1 h2 h3
    constructor
    · rw [h3]
      have := compG_dist linN h2
      rw [lstF_len] at this
      exact distG_perm this h1
    · have := compG_len (ord := ordN) (lstF g' n) n (by rw [lstF_len]; exact Nat.le_refl _)
      rw [← h3, lstF_len] at this
      exact this
  have HB : Hid (∀ w1, Below W.heap.size W w1 → Below w.heap.size w w1 ∧ (∀ w2, Below W.heap.size W w2 → w1.cell? ⟨w.heap.size, 0, none⟩ = some (.func (.func 32) #[] #[]))) := fun w1 h => ⟨B0.trans (h.mono B0.size), fun _ _ => (h.cell (p := ⟨w.heap.size, 0, none⟩) hbx).trans hxW⟩
  have hwW : w.heap.size ≤ W.heap.size := B0.size
  clear hs hs1 hxW B0 hbx
  generalize (lstF g n).flatMap encN = news at *
  go_enter Tryz.func31, Tryz.ntmps31
  go_wp2_with (at_builtin; refine wpList_append_own _ rfl (.const (.slice none 0 0)) (.tmp 6) 66 rfl W.heap.size 71 i0 _ 6 96 Tryz.underlying66 hi hz0 hz1 hz2 rfl (by decide) (.slice none 0 0) 0 [] rfl (World.ownsRow_nil _ _ _ _) ⟨b, o, none⟩ n cap news rfl ?c0 HCe.out HOne.out ?c3 ?c4 ?c5 ?_)
  case c0 => exact HLen.out
  case c3 => unfold maxLen; omega
  case c4 => omega
  case c5 => exact Nat.le_refl _
  intro v1 w1 ow gr _
  have B1 : Below W.heap.size W w1 := (Below.refl _ _).grown gr (Nat.le_refl _) (fun q hq => by cases hq)
  obtain ⟨D, N, rfl, hD, hnN, hR1⟩ := HRow.out w1 v1 ow
  have hx1 := (HB.out w1 B1).2 W (Below.refl _ _)
  clear ow gr HCe HOne HLen HRow hi hz0 hz1 hz2 hW
  go_wp2_with fail
  refine (HSort.out w1 D N B1 hD hR1).mono ?_
  rintro e w2 ⟨rfl, g2, hR2, hmem, hpw, B2⟩
  clear HSort hR1 B1 hx1
  go_wp2_with fail
  refine (HComp.out w2 D N g2 B2 hD hnN hR2).mono ?_
  rintro e w3 ⟨m, rfl, g3, hR3, hl3, B3⟩
  obtain ⟨hds, hmn⟩ := HDist.out g2 g3 m hmem hpw hl3
  have B4 := (HB.out w3 B3).1
  have hmN := hR3.1
  clear HComp HDist hR2 hmem hpw B2 hl3 B3 HB
  go_wp2
  go_ret
  exact ⟨_, m, g3, rfl, hmn, ⟨D, N, rfl, by omega, hmN, hR3⟩, hds, B4⟩
end Go.Proofs.YtoamapdfcdefjaaGreat.srtR
namespace Go.Proofs.YtoamapdfcdefjaaGreat
open Go.Shelf Go.RowKit Go.Lib Go.Sort
set_option linter.unusedVariables false
open srtR

def without {α : Type} (g : Nat → α) (i : Nat) (j : Nat) : α := if j < i then g j else g (j + 1)
theorem lst_without {α : Type} (g : Nat → α) {n i : Nat} (hi : i < n) : lstF (without g i) (n - 1) = (lstF g n).eraseIdx i := by
  apply List.ext_getElem
  · rw [lstF_len, List.length_eraseIdx, lstF_len, if_pos hi]
  · intro j h1 h2
    rw [lstF_len] at h1
    rw [lstF_get _ h1, List.getElem_eraseIdx]
    unfold without
    split
    · rw [lstF_get _ (by omega)]
    · rw [lstF_get _ (by omega)]

/-- only block D may be another -/
structure Only (D : Nat) (w w' : World) : Prop where
  os : w'.os = w.os
  tape : w'.tape = w.tape
  output : w'.output = w.output
  size : w.heap.size ≤ w'.heap.size
  block : ∀ k, k ≠ D → k < w.heap.size → w'.heap[k]? = w.heap[k]?
theorem Only.refl (D : Nat) (w : World) : Only D w w := ⟨rfl, rfl, rfl, Nat.le_refl _, fun _ _ _ => rfl⟩
theorem Only.trans {D : Nat} {a b c : World} (h : Only D a b) (h' : Only D b c) : Only D a c :=
  ⟨h'.os.trans h.os, h'.tape.trans h.tape, h'.output.trans h.output, Nat.le_trans h.size h'.size, fun k hk hl => (h'.block k hk (Nat.lt_of_lt_of_le hl h.size)).trans (h.block k hk hl)⟩
theorem Only.drew {D : Nat} {a b : World} (h : Only D a b) : Only D a b.drew := h.trans ⟨rfl, rfl, rfl, Nat.le_refl _, fun _ _ _ => rfl⟩
theorem Only.setCell {D o : Nat} {a b : World} (h : Only D a b) (v : Value) : Only D a (b.setCell ⟨D, o, none⟩ v) :=
  h.trans ⟨rfl, rfl, rfl, by simp [World.setCell], fun k hk _ => by simp only [World.setCell, Array.getElem?_modify]; rw [if_neg (fun e => hk e.symm)]⟩
theorem Only.setCells {D : Nat} {a : World} : ∀ (vs : List Value) (o : Nat) (b : World), Only D a b → Only D a (b.setCells D o vs)
  | [], _, _, h => h
  | v :: r, o, b, h => Only.setCells r (o + 1) _ (h.setCell v)
theorem Only.ofBelow {D : Nat} {a b : World} (h : Below a.heap.size a b) : Only D a b := ⟨h.os, h.tape, h.output, h.size, fun k _ hl => h.block k hl⟩
theorem Only.below {B D : Nat} {W w w' : World} (hBW : B ≤ W.heap.size) (hb : Below B W w) (hD : B ≤ D) (h : Only D w w') : Below B W w' :=
  hb.trans ⟨h.os, h.tape, h.output, h.size, fun k hk => h.block k (by omega) (by have := hb.size; omega)⟩
theorem Only.cell {D : Nat} {w w' : World} (h : Only D w w') {p : Addr} (hne : p.block ≠ D) (hl : p.block < w.heap.size) : w'.cell? p = w.cell? p := by
  unfold World.cell?; rw [h.block _ hne hl]
theorem Only.frozen {D : Nat} {w w' : World} (h : Only D w w') {p : Addr} (hne : p.block ≠ D) (hl : p.block < w.heap.size) : w'.frozen? p = w.frozen? p := by
  unfold World.frozen?; rw [h.block _ hne hl]

/-- what is behind place i + 1, moved by one -/
theorem row_without {w : World} {D N n i : Nat} {g : Nat → Rn} (h : Row w D N n g) (hi : i < n) :
    Row (w.setCells D (i * 6) ((lstF (fun j => g (i + 1 + j)) (n - (i + 1))).flatMap encN)) D N (n - 1) (without g i) := by
  obtain ⟨hn, f, hr, hf⟩ := h
  refine ⟨by omega, _, row_setCells' _ (i * 6) w f hr, fun j hj => ?_⟩
  rw [flat_len encN_len]
  obtain ⟨q, r, hr', rfl⟩ : ∃ q r, r < 6 ∧ j = q * 6 + r := ⟨j / 6, j % 6, Nat.mod_lt _ (by omega), by omega⟩
  rw [cellsF_at _ q hr']
  by_cases hq : q < i
  · rw [if_neg (by omega), hf _ (by omega), cellsF_at _ q hr']
    simp [without, hq]
  · rw [if_pos (by omega)]
    have e : q * 6 + r - i * 6 = (q - i) * 6 + r := by omega
    rw [e, List.getD_eq_getElem?_getD, flat_get encN_len _ _ _ (by omega), cellsF_at _ _ hr']
    simp only [Option.getD_some, without]
    rw [if_neg hq, show i + 1 + (q - i) = q + 1 by omega]

set_option maxHeartbeats 4000000 in
set_option maxRecDepth 1000000 in
theorem delete_any (D N m cap i : Nat) (g : Nat → Rn) (w : World) (hr : Row w D N (m + 1) g) (hi : i < m + 1) (hc : m + 1 ≤ cap) (hm : m + 1 ≤ 16777216) (hcN : cap ≤ N) :
    Calls Tryz.prog 56 #[.slice (some ⟨D, 0, none⟩) (m + 1) cap, .int .i64 i, .int .i64 ((i : Int) + 1)] w fun e w' => e = .returned (.slice (some ⟨D, 0, none⟩) m cap) ∧ Row w' D N m (without g i) ∧ Only D w w' := by
  obtain ⟨i0, hi0, hz0, hz1, hz2⟩ := info_parts infoEl
  obtain ⟨news, hnews⟩ : ∃ news, news = (lstF (fun j => g (i + 1 + j)) (m - i)).flatMap encN := ⟨_, rfl⟩
  have hlen : news.length = (m - i) * 6 := by rw [hnews]; exact flat_len encN_len _ _
  have hnN : m + 1 ≤ N := hr.1
  have hget : ∀ t, t < (m - i) * 6 → w.drew.cell? ⟨D, (i + 1) * 6 + t, none⟩ = news[t]? := by
    intro t ht
    rw [hnews, flat_get encN_len _ _ _ ht]
    obtain ⟨q, r, hr', rfl⟩ : ∃ q r, r < 6 ∧ t = q * 6 + r := ⟨t / 6, t % 6, Nat.mod_lt _ (by omega), by omega⟩
    have := RowF.cell hr (i := i + 1 + q) (r := r) (by omega) hr'
    rw [cellsF_at _ _ hr']
    show w.cell? _ = _
    rw [show (i + 1) * 6 + (q * 6 + r) = (i + 1 + q) * 6 + r by omega]
    exact this
  obtain ⟨A, hA, hsrc⟩ : ∃ A : Addr, (if cap = i + 1 then some (⟨D, 0, none⟩ : Addr) else some ⟨D, (i + 1) * 6, none⟩) = some A ∧ Hid (∀ t u, news[t]? = some u → w.drew.cell? (A.add t) = some u) := by
    by_cases h : cap = i + 1
    · refine ⟨⟨D, 0, none⟩, by simp [h], fun t u hu => ?_⟩
      have h0 : news.length = 0 := by rw [hlen]; omega
      rw [List.length_eq_zero_iff.1 h0] at hu
      simp at hu
    · refine ⟨⟨D, (i + 1) * 6, none⟩, by simp [h], fun t u hu => ?_⟩
      have ht : t < (m - i) * 6 := by
        have := (List.getElem?_eq_some_iff.1 hu).1
        rwa [hlen] at this
      rw [Addr.add_lit, hget t ht]; exact hu
  have s1 : Hid (news.length = (m - i) * 6) := hlen
  have s2 : Hid (∀ u ∈ news, u.oneCell' = true) := by
    intro u hu
    rw [hnews] at hu
    simp only [List.mem_flatMap] at hu
    obtain ⟨p, _, hp⟩ := hu
    exact encN_one p u hp
  have s3 : Hid (∀ t, t < news.length → (w.drew.cell? ⟨D, 0 + i * 6 + t, none⟩).isSome = true ∧ w.drew.frozen? ⟨D, 0 + i * 6 + t, none⟩ = false) := by
    intro t ht
    rw [hlen] at ht
    obtain ⟨v, h1, h2⟩ := RowF.open hr (0 + i * 6 + t) (by omega)
    exact ⟨by show (w.cell? _).isSome = true; rw [h1]; rfl, h2⟩
  obtain ⟨W1, hW1⟩ : ∃ W1, W1 = w.drew.setCells D (0 + i * 6) news := ⟨_, rfl⟩
  have hR1 : Row W1 D N m (without g i) := by
    rw [hW1, hnews, Nat.zero_add]
    have := row_without (RowF.keep hr (Below.refl _ _).drew) hi
    rw [show m + 1 - (i + 1) = m - i by omega, show m + 1 - 1 = m by omega] at this
    exact this
  have hB1 : Only D w W1 := by
    rw [hW1]
    exact Only.setCells _ _ _ (Only.refl D w).drew
  have hop : ∀ j, j < N * 6 → ∃ v, W1.cell? ⟨D, j, none⟩ = some v ∧ W1.frozen? ⟨D, j, none⟩ = false := fun j hj => RowF.open hR1 j hj
  have hcl : ∀ ty, (Builtin.clear_ #[67] ty #[.slice (some ⟨D, m * 6, none⟩) 1 (cap - m)]).run Tryz.prog W1 = .ok (.tuple #[]) (W1.setCells D (m * 6) (srtR.zeroK 1)) := fun ty => by
    have h1 := run_clearK W1 D (m * 6) 1 (cap - m) ty (by omega) (fun j hj => hop (m * 6 + j) (by omega))
    have e1 : Tryz.prog.underlying 67 = Tryz.prog.underlying 66 := by kernel_rfl
    have e2 : (Builtin.clear_ #[67] ty #[.slice (some ⟨D, m * 6, none⟩) 1 (cap - m)]).run Tryz.prog W1 = (Builtin.clear_ #[66] ty #[.slice (some ⟨D, m * 6, none⟩) 1 (cap - m)]).run Tryz.prog W1 := by
      simp [Builtin.clear_, run_underlying Tryz.underlying67, run_underlying Tryz.underlying66]
    rw [e2]; exact h1
  have HR2 : Hid (Row (W1.setCells D (m * 6) (srtR.zeroK 1)) D N m (without g i)) := RowF.clear hR1 (Nat.le_refl _) _
  have HB2 : Hid (Only D w (W1.setCells D (m * 6) (srtR.zeroK 1))) := Only.setCells _ _ _ hB1
  have hW : Hid (W1 = w.drew.setCells D (0 + i * 6) news) := hW1
  have hic : i ≤ cap := by omega
  have hl2 : Hid (i + (m - i) = m) := by unfold Hid; omega
  have hcm : m < cap := by omega
  have hcm1 : ¬ cap = m := by omega
  have hcm2 : ¬ m = cap := by omega
  have hcm3 : ((m : Int)) ≤ (cap : Int) := by omega
  have hcm4 : ((m : Int) + 1) ≤ (cap : Int) := by omega
  have hjc : i + 1 ≤ cap := by omega
  have hij : ¬ (i : Int) = (i : Int) + 1 := by omega
  have mixed : Tryz.prog.follows Departure.mixedOrders = true := by kernel_rfl
  have hb0 : (0 : Int) ≤ (i : Int) + 1 := by omega
  have hb1 : (i : Int) + 1 ≤ ((m : Int) + 1) := by omega
  have hb2 : (i : Int) ≤ ((m : Int) + 1) := by omega
  clear hW1 hR1 hB1 hget hnews hlen hop hr
  go_enter Tryz.func56, Tryz.ntmps56
  go_wp2_with fail
  go_region_law_o (refine step_append_room rfl (.tmp 22) (.tmp 25) 67 rfl 71 i0 6 Tryz.underlying67 hi0 hz1 D 0 i cap (by simp [Act.eval, Act.put]) A (m - i) (cap - (i + 1)) news (by simp [Act.eval, Act.put]) s1.out hsrc.out s2.out (by omega) s3.out ?_; rw [← hW.out])
  rw [hl2.out]
  go_wp2_with (simp only [hcl])
  go_ret
  exact ⟨rfl, HR2.out, HB2.out⟩
end Go.Proofs.YtoamapdfcdefjaaGreat
namespace Go.Proofs.YtoamapdfcdefjaaGreat
open Go.RowKit
set_option linter.unusedVariables false
open srtR

/-- the pointer's cell holds the row of rules -/
structure St (w : World) (L D N n : Nat) (g : Nat → Rn) : Prop where
  c : w.cell? ⟨L, 0, none⟩ = some (.slice (some ⟨D, 0, none⟩) n N)
  f : w.frozen? ⟨L, 0, none⟩ = false
  row : Row w D N n g
  ne : L ≠ D
theorem St.keep {w w1 : World} {L D N n : Nat} {g : Nat → Rn} (h : St w L D N n g) (hb : Below w.heap.size w w1) : St w1 L D N n g := by
  have hl := cell_ltK h.c
  exact ⟨(hb.cell (p := ⟨L, 0, none⟩) hl).trans h.c, (hb.frozen (p := ⟨L, 0, none⟩) hl).trans h.f, RowF.keep h.row hb, h.ne⟩
theorem frozen_setCell (w : World) (p q : Addr) (v : Value) : (w.setCell p v).frozen? q = w.frozen? q := by simp
/-- the row is another one, and the cell is told -/
theorem St.put {w : World} {L D N n m : Nat} {g' : Nat → Rn} (hc : w.cell? ⟨L, 0, none⟩ = some (.slice (some ⟨D, 0, none⟩) n N)) (hf : w.frozen? ⟨L, 0, none⟩ = false) (hne : L ≠ D) (hr : Row w D N m g') : St (w.setCell ⟨L, 0, none⟩ (.slice (some ⟨D, 0, none⟩) m N)) L D N m g' := by
  refine ⟨?_, by rw [frozen_setCell]; exact hf, ?_, hne⟩
  · exact World.cell?_setCell_same _ _ _ hc
  · obtain ⟨hn, f, h1, h2⟩ := hr
    exact ⟨hn, f, h1.of_block (by simp only [World.setCell, Array.getElem?_modify]; rw [if_neg hne]), h2⟩

def ls (g : Nat → Rn) (n : Nat) : List Ru := (lstF g n).map Subtype.val
theorem ls_len (g : Nat → Rn) (n : Nat) : (ls g n).length = n := by simp [ls, lstF_len]
theorem ls_at (g : Nat → Rn) {n i : Nat} (h : i < n) : at' (ls g n) i = (g i).val := by
  simp [at', ls, lstF, List.getD_eq_getElem?_getD, h]
theorem map_eraseIdx {α β : Type} (f : α → β) : ∀ (l : List α) (i : Nat), (l.eraseIdx i).map f = (l.map f).eraseIdx i
  | [], _ => by simp
  | a :: l, 0 => by simp
  | a :: l, i + 1 => by simp [map_eraseIdx f l i]
theorem ls_without (g : Nat → Rn) {n i : Nat} (h : i < n) : ls (without g i) (n - 1) = (ls g n).eraseIdx i := by
  rw [ls, lst_without g h, ls, map_eraseIdx]

def DropPost (B : Nat) (W : World) (L D N n : Nat) (g : Nat → Rn) (e : Ending) (w' : World) : Prop :=
  Below B W w' ∧ ((NoW (ls g n) ∧ e = .returned (.bool false) ∧ St w' L D N n g) ∨ (∃ i, FirstW (ls g n) i ∧ e = .returned (.bool true) ∧ St w' L D N (n - 1) (without g i)))

set_option maxRecDepth 100000 in
set_option maxHeartbeats 4000000 in
theorem drop_any (B L D N n : Nat) (g : Nat → Rn) (W w : World) (hBW : B ≤ W.heap.size) (hb : Below B W w) (hD : B ≤ D) (hL : B ≤ L) (hs : St w L D N n g) (hn : n ≤ 16777216) :
    Calls Tryz.prog 33 #[.pointer (some ⟨L, 0, none⟩)] w fun e w' => DropPost B W L D N n g e w' := by
  have HS : Hid (∀ wr, Below w.heap.size w wr → St wr L D N n g ∧ Below B W wr) := fun wr h => ⟨hs.keep h, belowB_step' hBW h hb⟩
  have HW : Hid (∀ wr p q, Below w.heap.size w wr → p < n → q < n → Calls Tryz.prog 55 #[.pointer (some ⟨D, p * 6, none⟩), .pointer (some ⟨D, q * 6, none⟩)] wr fun e w' => e = .returned (.bool (withinR (g p).val (g q).val)) ∧ Below wr.heap.size wr w') :=
    fun wr p q h hp hq => withinP_any _ _ _ _ _ _ wr (g p).property (g q).property (Row.ruAt (hs.keep h).row hp) (Row.ruAt (hs.keep h).row hq)
  have HD : Hid (∀ wr i, Below w.heap.size w wr → i < n → Calls Tryz.prog 56 #[.slice (some ⟨D, 0, none⟩) n N, .int .i64 i, .int .i64 ((i : Int) + 1)] wr fun e w' => e = .returned (.slice (some ⟨D, 0, none⟩) (n - 1) N) ∧ Row w' D N (n - 1) (without g i) ∧ Below B W w' ∧ w'.cell? ⟨L, 0, none⟩ = some (.slice (some ⟨D, 0, none⟩) n N) ∧ w'.frozen? ⟨L, 0, none⟩ = false) := by
    intro wr i h hi
    obtain ⟨m, rfl⟩ : ∃ m, n = m + 1 := ⟨n - 1, by omega⟩
    have s := hs.keep h
    have hl := cell_ltK s.c
    refine (delete_any D N m N i g wr s.row hi s.row.1 hn (Nat.le_refl _)).mono ?_
    rintro e w' ⟨rfl, hr, ho⟩
    exact ⟨rfl, hr, ho.below hBW (belowB_step' hBW h hb) hD, (ho.cell (p := ⟨L, 0, none⟩) s.ne hl).trans s.c, (ho.frozen (p := ⟨L, 0, none⟩) s.ne hl).trans s.f⟩
  have HP0 : Hid (NoWupto (ls g n) n → NoW (ls g n)) := fun h => by unfold NoW; rw [ls_len]; exact h
  have HUp : Hid (∀ k, k < n → NoWupto (ls g n) k → (∀ q, q < n → k ≠ q → withinR (g k).val (g q).val = false) → NoWupto (ls g n) (k + 1)) := by
    intro k hk h h1 p hp q hq hne
    rw [ls_len] at hq
    by_cases e : p = k
    · subst e
      rw [ls_at g hk, ls_at g hq]; exact h1 q hq hne
    · exact h p (by omega) q (by rw [ls_len]; exact hq) hne
  have HF : Hid (∀ k q, k < n → q < n → k ≠ q → NoWupto (ls g n) k → withinR (g k).val (g q).val = true → FirstW (ls g n) k) := by
    intro k q hk hq hne h h1
    exact ⟨by rw [ls_len]; exact hk, h, q, by rw [ls_len]; exact hq, hne, by rw [ls_at g hk, ls_at g hq]; exact h1⟩
  have hc := hs.c
  have hne := hs.ne
  clear hs hb
  go_enter Tryz.func33, Tryz.ntmps33
  go_wp2_with fail
  clear hc
  go_loopw [11] (fun i wr => ∃ k : Nat, k ≤ n ∧ i = .int .i64 k ∧ Hid (NoWupto (ls g n) k) ∧ Below w.heap.size w wr) (fun i _ => n - (intOf i).toNat)
  case atStart => exact ⟨0, by omega, rfl, fun p hp => by omega, Below.refl _ _⟩
  case round =>
    obtain ⟨k, hk, rfl, HJ, B1⟩ := hrel
    rename World => W0
    by_cases hlt : k < n
    · have hlt' : (k : Int) < (n : Int) := by omega
      go_wp2_with fail
      go_loopw [16] (fun i wr => ∃ q : Nat, q ≤ n ∧ i = .int .i64 q ∧ Hid (∀ j, j < q → k ≠ j → withinR (g k).val (g j).val = false) ∧ Below w.heap.size w wr) (fun i _ => n - (intOf i).toNat)
      case atStart => exact ⟨0, by omega, rfl, fun p hp => by omega, B1⟩
      case round =>
        obtain ⟨q, hq, rfl, HQ, B2⟩ := hrel
        rename World => W1
        by_cases hlq : q < n
        · have hlq' : (q : Int) < (n : Int) := by omega
          by_cases hkq : k = q
          · subst hkq
            have HQ2 : Hid (∀ j, j < k + 1 → k ≠ j → withinR (g k).val (g j).val = false) := fun j hj hne => HQ.out j (by omega) hne
            have hg : ((k : Int) != (k : Int)) = false := by simp
            clear HS HW HD HP0 HUp HF HQ HJ
            go_wp2_with fail
            go_quiet (fail)
            have B3 := below_drewN B2 nq
            clear B2 B1
            generalize W1.drewN nq = W2 at *
            go_wp2
            go_roundw
            case rel => exact ⟨k + 1, by omega, by go_num, HQ2, B3⟩
            case measure => simp [intOf]; omega
          · have hg : ((k : Int) != (q : Int)) = true := by simp; omega
            have HWk : Hid (∀ wr, Below w.heap.size w wr → Calls Tryz.prog 55 #[.pointer (some ⟨D, k * 6, none⟩), .pointer (some ⟨D, q * 6, none⟩)] wr fun e w' => e = .returned (.bool (withinR (g k).val (g q).val)) ∧ Below wr.heap.size wr w') := fun wr h => HW.out wr k q h hlt hlq
            have HFk : Hid (withinR (g k).val (g q).val = true → FirstW (ls g n) k) := HF.out k q hlt hlq hkq HJ.out
            have HQ2 : Hid (withinR (g k).val (g q).val = false → ∀ j, j < q + 1 → k ≠ j → withinR (g k).val (g j).val = false) := fun h j hj hne => by
              by_cases e : j = q
              · subst e; exact h
              · exact HQ.out j (by omega) hne
            have SK : Hid (∀ wa wb, Below wa.heap.size wa wb → Below w.heap.size w wa → Below w.heap.size w wb) := fun wa wb hb s => below_step hb s
            have hS0 := SK.out W1 W1.drew ((Below.refl _ _).drew) B2
            have HDk : Hid (∀ wr, Below w.heap.size w wr → Calls Tryz.prog 56 #[.slice (some ⟨D, 0, none⟩) n N, .int .i64 k, .int .i64 ((k : Int) + 1)] wr fun e w' => e = .returned (.slice (some ⟨D, 0, none⟩) (n - 1) N) ∧ Row w' D N (n - 1) (without g k) ∧ Below B W w' ∧ w'.cell? ⟨L, 0, none⟩ = some (.slice (some ⟨D, 0, none⟩) n N) ∧ w'.frozen? ⟨L, 0, none⟩ = false) := fun wr h => HD.out wr k h hlt
            clear HS HW HD HP0 HUp HF HQ HJ B1 B2
            generalize withinR (g k).val (g q).val = Z at *
            go_wp2_with fail
            go_region_held3 (fun w' => Below w.heap.size w w')
              (assumption)
              (first | (go_at_call 55; refine (HWk.out _ (by assumption)).mono ?_; rintro _ w9 ⟨rfl, hb9⟩; have hS9 := SK.out _ _ hb9 (by assumption)))
            all_goals
              have B9 : Below w.heap.size w w9 := hS9
              clear hS9 hb9 hS0 SK HWk
              cases Z with
              | false =>
                have HQ3 : Hid (∀ j, j < q + 1 → k ≠ j → withinR (g k).val (g j).val = false) := HQ2.out rfl
                clear HQ2 HFk HDk
                go_wp2
                go_roundw
                case rel => exact ⟨q + 1, by omega, by go_num, HQ3, B9⟩
                case measure => simp [intOf]; omega
              | true =>
                have hF : Hid (FirstW (ls g n) k) := HFk.out rfl
                clear HQ2 HFk
                go_wp2_with fail
                refine (HDk.out _ B9).mono ?_
                rintro _ w10 ⟨rfl, hr10, hB10, hc10, hf10⟩
                have HP : Hid (DropPost B W L D N n g (.returned (.bool true)) (w10.setCell ⟨L, 0, none⟩ (.slice (some ⟨D, 0, none⟩) (n - 1) N))) := ⟨hB10.setCell (p := ⟨L, 0, none⟩) hL _, .inr ⟨k, hF.out, rfl, St.put hc10 hf10 hne hr10⟩⟩
                clear HDk hr10 hB10 B9
                go_wp2
                go_ret
                exact HP.out
        · have eq : q = n := by omega
          have HU : Hid (NoWupto (ls g n) (k + 1)) := HUp.out k hlt HJ.out (fun j hj hne => HQ.out j (by omega) hne)
          have hlq' : ¬ (q : Int) < (n : Int) := by omega
          clear HS HW HD HP0 HUp HF HQ HJ
          go_wp2
          go_roundw
          case rel => exact ⟨k + 1, by omega, by go_num, HU, B2⟩
          case measure => simp [intOf]; omega
    · have hkn : k = n := by omega
      subst hkn
      obtain ⟨s, hB⟩ := HS.out W0 B1
      have HP : Hid (DropPost B W L D N k g (.returned (.bool false)) W0) := ⟨hB, .inl ⟨HP0.out HJ.out, rfl, s⟩⟩
      clear HS HW HD HP0 HUp HF HJ s hB
      go_wp2
      go_ret
      exact HP.out
end Go.Proofs.YtoamapdfcdefjaaGreat
