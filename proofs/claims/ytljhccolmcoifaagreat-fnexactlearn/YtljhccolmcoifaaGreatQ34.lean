/-
  SrtR, RuleI, RuleJ, OncR, RuleD, RuleE, RuleP, RuleR
-/
import Derived.Test.YtljhccolmcoifaaGreatQ26
import Derived.Test.YtljhccolmcoifaaGreatQ09
import Derived.Test.YtljhccolmcoifaaGreatQ10
import Derived.Test.YtljhccolmcoifaaGreatQ27
import Derived.Shelf.Lay
import Derived.Ground.SlsfProg
import Derived.Laws.AppendOwnNone
import Derived.Laws.StructEq
import Derived.Shelf.RegionOpenPlain
import Derived.Deep.RegionLaw
import Derived.Lib.SliceRun
import Derived.Test.YtljhccolmcoifaaGreatQ14
import Derived.Deep.AppendLies
import Derived.Deep.Onto
namespace Go.Proofs.YtljhccolmcoifaaGreat.srtR
open Go.Shelf Go.RowKit Go.Lib Go.Sort
set_option linter.unusedVariables false

/-- a rule of six normal conditions -/
abbrev Rn := { r : Ru // NR r }
theorem nr_zero : NR [K.zero, K.zero, K.zero, K.zero, K.zero, K.zero] := by
  refine ⟨rfl, fun i => ?_⟩
  by_cases hi : i < 6
  · have : i = 0 ∨ i = 1 ∨ i = 2 ∨ i = 3 ∨ i = 4 ∨ i = 5 := by omega
    rcases this with rfl | rfl | rfl | rfl | rfl | rfl <;> exact normal_zero
  · rw [List.getD_eq_getElem?_getD, List.getElem?_eq_none (by simpa using hi)]; exact normal_zero
instance : Inhabited Rn := ⟨⟨_, nr_zero⟩⟩
def tyK (c : K) : TypeId := if c.kind = 1 then 133 else if c.kind = 2 then 129 else 131
def plK (c : K) : Value := if c.kind = 1 then .agg #[.int .u64 (c.a : Int), .int .u64 (c.b : Int)] else if c.kind = 2 then .agg #[.int .u64 (c.a : Int), .int .u64 (c.b : Int)] else .agg #[]
theorem setV_form (c : K) : setV c = .iface (tyK c) (plK c) := by
  unfold setV tyK plK
  by_cases h1 : c.kind = 1
  · simp [h1]
  · by_cases h2 : c.kind = 2
    · simp [h2]
    · simp [h1, h2]
def encN (p : Rn) : List Value := encR p.val
def ordN (p q : Rn) : Int := ordR p.val q.val
theorem linN : Lin ordN := ⟨fun a => linR.self _, fun a b h => Subtype.ext (linR.zero _ _ h), fun a b => linR.anti _ _, fun a b c h h' => linR.trans _ _ _ h h'⟩
theorem encN_form (p : Rn) : encN p = [Value.iface (tyK ((p).val.getD 0 K.zero)) (plK ((p).val.getD 0 K.zero)), Value.iface (tyK ((p).val.getD 1 K.zero)) (plK ((p).val.getD 1 K.zero)), Value.iface (tyK ((p).val.getD 2 K.zero)) (plK ((p).val.getD 2 K.zero)), Value.iface (tyK ((p).val.getD 3 K.zero)) (plK ((p).val.getD 3 K.zero)), Value.iface (tyK ((p).val.getD 4 K.zero)) (plK ((p).val.getD 4 K.zero)), Value.iface (tyK ((p).val.getD 5 K.zero)) (plK ((p).val.getD 5 K.zero))] := by
  simp only [encN, encR, setV_form]
theorem encN_len (p : Rn) : (encN p).length = 6 := rfl
theorem encN_one (p : Rn) : ∀ v ∈ encN p, v.oneCell' = true := by
  intro v hv
  rw [encN_form] at hv
  simp only [List.mem_cons, List.not_mem_nil, or_false] at hv
  rcases hv with rfl | rfl | rfl | rfl | rfl | rfl <;> rfl
def zeroK (n : Nat) : List Value := (Builtin.zeroCells #[.nilIface, .nilIface, .nilIface, .nilIface, .nilIface, .nilIface] n).toList
theorem zeroK_len (n : Nat) : (zeroK n).length = n * 6 := by simp [zeroK, Builtin.zeroCells]
theorem zeroK_one (n : Nat) : ∀ v ∈ zeroK n, v.oneCell' = true := by
  intro v hv
  simp only [zeroK, Builtin.zeroCells, Array.toList_map, List.mem_map] at hv
  obtain ⟨i, _, rfl⟩ := hv
  have : i % 6 = 0 ∨ i % 6 = 1 ∨ i % 6 = 2 ∨ i % 6 = 3 ∨ i % 6 = 4 ∨ i % 6 = 5 := by omega
  rcases this with e | e | e | e | e | e <;> simp [e] <;> rfl
end Go.Proofs.YtljhccolmcoifaaGreat.srtR
namespace Go.Proofs.YtljhccolmcoifaaGreat
open Go.RowKit
set_option linter.unusedVariables false
open srtR

/-- a rule's six cells from place o of block D on -/
def RuAt (w : World) (D o : Nat) (r : Ru) : Prop := D < w.heap.size ∧ ∀ i, i < 6 → w.cell? ⟨D, o + i, none⟩ = some (.iface (tyK (r.getD i K.zero)) (plK (r.getD i K.zero)))
theorem RuAt.below {w w1 : World} {D o : Nat} {r : Ru} (h : RuAt w D o r) (hb : Below w.heap.size w w1) : RuAt w1 D o r :=
  ⟨Nat.lt_of_lt_of_le h.1 hb.size, fun i hi => (hb.cell (p := ⟨D, o + i, none⟩) h.1).trans (h.2 i hi)⟩
/-- two values of two 64-bit numbers each, held against each other -/
theorem eqIn_mask (a b a' b' : Int) (w : World) (d : Nat) : (Op.equalIn (d + 2) 133 (.agg #[.int .u64 a, .int .u64 b]) (.agg #[.int .u64 a', .int .u64 b'])).run Tryz.prog w = .ok ((a == a') && (b == b')) w := by
  rw [run_equalIn_struct w (d + 1) 133 _ _ (by kernel_rfl) (by kernel_rfl)]
  simp [Program.fieldsOf, Tryz.underlying133, Op.eqFields, go_sem]
  cases h1 : (a == a') <;> cases h2 : (b == b') <;> simp_all
theorem eqIn_range (a b a' b' : Int) (w : World) (d : Nat) : (Op.equalIn (d + 2) 129 (.agg #[.int .u64 a, .int .u64 b]) (.agg #[.int .u64 a', .int .u64 b'])).run Tryz.prog w = .ok ((a == a') && (b == b')) w := by
  rw [run_equalIn_struct w (d + 1) 129 _ _ (by kernel_rfl) (by kernel_rfl)]
  simp [Program.fieldsOf, Tryz.underlying129, Op.eqFields, go_sem]
  cases h1 : (a == a') <;> cases h2 : (b == b') <;> simp_all
theorem neq_same (T : TypeId) (v v' : Value) (r : Bool) (w : World) (hc : (Tryz.prog.info? T).map (·.comparable) = some true) (h : ∀ d, (Op.equalIn (d + 2) T v v').run Tryz.prog w = .ok r w) : (binOp .neq 92 (.iface T v) (.iface T v')).run Tryz.prog w = .ok (.bool (!r)) w := by
  cases hi : Tryz.prog.info? T with
  | none => simp [hi] at hc
  | some i =>
    have hcc : i.comparable = true := by simpa [hi] using hc
    have h2 : ∀ d : Nat, (Op.equalIn (d + 3) 92 (.iface T v) (.iface T v')).run Tryz.prog w = .ok r w := fun d => by
      rw [Op.equalIn]
      simp [run_underlying Tryz.underlying92, typeInfo, hi, hcc, h d]
    simp only [binOp]
    simp [Op.equal, Op.maxDepth, h2 9997]
theorem neq_other (T T' : TypeId) (v v' : Value) (w : World) (h : T ≠ T') : (binOp .neq 92 (.iface T v) (.iface T' v')).run Tryz.prog w = .ok (.bool true) w := by
  have h2 : ∀ d : Nat, (Op.equalIn (d + 1) 92 (.iface T v) (.iface T' v')).run Tryz.prog w = .ok false w := fun d => by simp [Op.equalIn, run_underlying Tryz.underlying92, h]
  simp only [binOp]
  simp [Op.equal, Op.maxDepth, h2 9999]
/-- two conditions held against each other -/
theorem neq_iface {c d : K} (hc : Normal c) (hd : Normal d) (w : World) : (binOp .neq 92 (.iface (tyK c) (plK c)) (.iface (tyK d) (plK d))).run Tryz.prog w = .ok (.bool (decide (c ≠ d))) w := by
  have kN : ∀ x y : Nat, ((x : Int) == (y : Int)) = decide (x = y) := fun x y => by rw [Bool.eq_iff_iff, beq_iff_eq, decide_eq_true_eq]; omega
  rcases hc with rfl | ⟨a, b, rfl, _⟩ | ⟨a, b, rfl, _⟩ <;> rcases hd with rfl | ⟨a', b', rfl, _⟩ | ⟨a', b', rfl, _⟩
  · exact neq_same 131 (.agg #[]) (.agg #[]) true w (by kernel_rfl) (fun d => by
      rw [run_equalIn_struct w (d + 1) 131 _ _ (by kernel_rfl) (by kernel_rfl)]
      simp [Program.fieldsOf, Tryz.underlying131, Op.eqFields, go_sem])
  · exact (neq_other _ _ _ _ w (by simp [tyK])).trans (by simp)
  · exact (neq_other _ _ _ _ w (by simp [tyK])).trans (by simp)
  · exact (neq_other _ _ _ _ w (by simp [tyK])).trans (by simp)
  · refine (neq_same 133 _ _ _ w (by kernel_rfl) (fun d => eqIn_mask _ _ _ _ w d)).trans ?_
    rw [kN, kN]
    congr 2
    rw [Bool.eq_iff_iff]
    simp
  · exact (neq_other _ _ _ _ w (by simp [tyK])).trans (by simp)
  · exact (neq_other _ _ _ _ w (by simp [tyK])).trans (by simp)
  · exact (neq_other _ _ _ _ w (by simp [tyK])).trans (by simp)
  · refine (neq_same 129 _ _ _ w (by kernel_rfl) (fun d => eqIn_range _ _ _ _ w d)).trans ?_
    rw [kN, kN]
    congr 2
    rw [Bool.eq_iff_iff]
    simp
end Go.Proofs.YtljhccolmcoifaaGreat
namespace Go.Proofs.YtljhccolmcoifaaGreat
open Go.RowKit
set_option linter.unusedVariables false
open srtR

/-- how many of the first k conditions differ, and the last of them -/
def cntD (a b : Ru) : Nat → Nat
  | 0 => 0
  | k + 1 => cntD a b k + if a.getD k K.zero ≠ b.getD k K.zero then 1 else 0
def lastD (a b : Ru) : Nat → Nat
  | 0 => 0
  | k + 1 => if a.getD k K.zero ≠ b.getD k K.zero then k else lastD a b k
theorem cntD_le (a b : Ru) : ∀ k, cntD a b k ≤ k
  | 0 => Nat.le_refl _
  | k + 1 => by have := cntD_le a b k; unfold cntD; split <;> omega
theorem lastD_lt (a b : Ru) : ∀ k, lastD a b (k + 1) < k + 1
  | 0 => by unfold lastD; split <;> simp [lastD]
  | k + 1 => by have := lastD_lt a b k; unfold lastD; split <;> omega
theorem lastD_6 (a b : Ru) : ∀ k, k ≤ 6 → lastD a b k < 6
  | 0, _ => by simp [lastD]
  | k + 1, h => by have := lastD_lt a b k; omega
theorem cntD_0 {a b : Ru} : ∀ k, cntD a b k = 0 → ∀ j, j < k → a.getD j K.zero = b.getD j K.zero
  | 0, _, j, hj => by omega
  | k + 1, h, j, hj => by
    unfold cntD at h
    by_cases e : a.getD k K.zero = b.getD k K.zero
    · rw [if_neg (by simpa using e)] at h
      by_cases hjk : j = k
      · subst hjk; exact e
      · exact cntD_0 k (by omega) j (by omega)
    · rw [if_pos e] at h; omega
theorem cntD_1 {a b : Ru} : ∀ k, cntD a b k = 1 → lastD a b k < k ∧ a.getD (lastD a b k) K.zero ≠ b.getD (lastD a b k) K.zero ∧ ∀ j, j < k → j ≠ lastD a b k → a.getD j K.zero = b.getD j K.zero
  | 0, h => by simp [cntD] at h
  | k + 1, h => by
    unfold cntD at h
    unfold lastD
    by_cases e : a.getD k K.zero = b.getD k K.zero
    · rw [if_neg (by simpa using e)] at h
      rw [if_neg (by simpa using e)]
      obtain ⟨h1, h2, h3⟩ := cntD_1 k (by omega)
      refine ⟨by omega, h2, fun j hj hne => ?_⟩
      by_cases hjk : j = k
      · subst hjk; exact e
      · exact h3 j (by omega) hne
    · rw [if_pos e] at h
      rw [if_pos e]
      exact ⟨by omega, e, fun j hj hne => cntD_0 k (by omega) j (by omega)⟩
theorem cntD_one {a b : Ru} {i : Nat} (hi : a.getD i K.zero ≠ b.getD i K.zero) : ∀ k, (∀ j, j < k → j ≠ i → a.getD j K.zero = b.getD j K.zero) → cntD a b k = if i < k then 1 else 0
  | 0, _ => by simp [cntD]
  | k + 1, h => by
    have ih := cntD_one hi k (fun j hj hne => h j (by omega) hne)
    unfold cntD
    rw [ih]
    by_cases e : k = i
    · subst e
      rw [if_neg (by omega), if_pos hi, if_pos (by omega)]
    · have hz : (if a.getD k K.zero ≠ b.getD k K.zero then 1 else 0) = 0 := if_neg (fun hne => hne (h k (by omega) e))
      rw [hz]
      by_cases hik : i < k
      · rw [if_pos hik, if_pos (by omega)]
      · rw [if_neg hik, if_neg (by omega)]
theorem noJoin_cnt {a b : Ru} (h : cntD a b 6 ≠ 1) : NoJoin a b := by
  rintro r ⟨i, c, ⟨h1, h2, h3, h4⟩, _⟩
  apply h
  rw [cntD_one h2 6 h3, if_pos h1]
theorem noJoin_none {a b : Ru} (h : cntD a b 6 = 1) (hn : joinK (a.getD (lastD a b 6) K.zero) (b.getD (lastD a b 6) K.zero) = none) : NoJoin a b := by
  rintro r ⟨i, c, ⟨h1, h2, h3, h4⟩, _⟩
  obtain ⟨k1, k2, k3⟩ := cntD_1 6 h
  have : i = lastD a b 6 := by
    by_cases e : i = lastD a b 6
    · exact e
    · exact absurd (k3 i h1 e) h2
  rw [this, hn] at h4; cases h4
theorem join_some {a b : Ru} {c : K} (h : cntD a b 6 = 1) (hn : joinK (a.getD (lastD a b 6) K.zero) (b.getD (lastD a b 6) K.zero) = some c) : JoinR a b (a.set (lastD a b 6) c) := by
  obtain ⟨k1, k2, k3⟩ := cntD_1 6 h
  exact ⟨_, c, ⟨k1, k2, k3, hn⟩, rfl⟩

/-- what joining answers -/
def JoinPost (a b : Ru) (e : Ending) : Prop := (∃ r, JoinR a b r ∧ e = .returned (.tuple #[.agg (encR r).toArray, .bool true])) ∨ (NoJoin a b ∧ e = .returned (.tuple #[.agg #[.nilIface, .nilIface, .nilIface, .nilIface, .nilIface, .nilIface], .bool false]))

theorem encR_set (a : Ru) (i : Nat) (c : K) (hl : a.length = 6) (hi : i < 6) : (encR (a.set i c)).toArray = (encR a).toArray.set! i (.iface (tyK c) (plK c)) := by
  have : i = 0 ∨ i = 1 ∨ i = 2 ∨ i = 3 ∨ i = 4 ∨ i = 5 := by omega
  rcases this with rfl | rfl | rfl | rfl | rfl | rfl <;> simp [encR, setV_form, hl]

theorem below_set6 {n : Nat} {w w' : World} {g : Nat} (h : Below n w w') (hg : n ≤ g) (x0 x1 x2 x3 x4 x5 : Value) : Below n w ((((((w'.setCell ⟨g, 0, none⟩ x0).setCell ⟨g, 1, none⟩ x1).setCell ⟨g, 2, none⟩ x2).setCell ⟨g, 3, none⟩ x3).setCell ⟨g, 4, none⟩ x4).setCell ⟨g, 5, none⟩ x5) :=
  (((((h.setCell (p := ⟨g, 0, none⟩) hg x0).setCell (p := ⟨g, 1, none⟩) hg x1).setCell (p := ⟨g, 2, none⟩) hg x2).setCell (p := ⟨g, 3, none⟩) hg x3).setCell (p := ⟨g, 4, none⟩) hg x4).setCell (p := ⟨g, 5, none⟩) hg x5

end Go.Proofs.YtljhccolmcoifaaGreat
namespace Go.Proofs.YtljhccolmcoifaaGreat.srtR
open Go.Shelf Go.RowKit Go.Lib Go.Sort
set_option linter.unusedVariables false

end Go.Proofs.YtljhccolmcoifaaGreat.srtR
namespace Go.Proofs.YtljhccolmcoifaaGreat
open Go.Shelf Go.RowKit Go.Lib Go.Sort
set_option linter.unusedVariables false
open srtR

def without {α : Type} (g : Nat → α) (i : Nat) (j : Nat) : α := if j < i then g j else g (j + 1)
theorem lst_without {α : Type} (g : Nat → α) {n i : Nat} (hi : i < n) : lstF (without g i) (n - 1) = (lstF g n).eraseIdx i := by
  apply List.ext_getElem
  · rw [lstF_len, List.length_eraseIdx, lstF_len, if_pos hi]
  · intro j h1 h2
    rw [lstF_len] at h1
    rw [lstF_get _ h1, List.getElem_eraseIdx]
    unfold without
    split
    · rw [lstF_get _ (by omega)]
    · rw [lstF_get _ (by omega)]

/-- only block D may be another -/
structure Only (D : Nat) (w w' : World) : Prop where
  os : w'.os = w.os
  tape : w'.tape = w.tape
  output : w'.output = w.output
  size : w.heap.size ≤ w'.heap.size
  block : ∀ k, k ≠ D → k < w.heap.size → w'.heap[k]? = w.heap[k]?
theorem Only.refl (D : Nat) (w : World) : Only D w w := ⟨rfl, rfl, rfl, Nat.le_refl _, fun _ _ _ => rfl⟩
theorem Only.trans {D : Nat} {a b c : World} (h : Only D a b) (h' : Only D b c) : Only D a c :=
  ⟨h'.os.trans h.os, h'.tape.trans h.tape, h'.output.trans h.output, Nat.le_trans h.size h'.size, fun k hk hl => (h'.block k hk (Nat.lt_of_lt_of_le hl h.size)).trans (h.block k hk hl)⟩
theorem Only.drew {D : Nat} {a b : World} (h : Only D a b) : Only D a b.drew := h.trans ⟨rfl, rfl, rfl, Nat.le_refl _, fun _ _ _ => rfl⟩
theorem Only.setCell {D o : Nat} {a b : World} (h : Only D a b) (v : Value) : Only D a (b.setCell ⟨D, o, none⟩ v) :=
  h.trans ⟨rfl, rfl, rfl, by simp [World.setCell], fun k hk _ => by simp only [World.setCell, Array.getElem?_modify]; rw [if_neg (fun e => hk e.symm)]⟩
theorem Only.setCells {D : Nat} {a : World} : ∀ (vs : List Value) (o : Nat) (b : World), Only D a b → Only D a (b.setCells D o vs)
  | [], _, _, h => h
  | v :: r, o, b, h => Only.setCells r (o + 1) _ (h.setCell v)
theorem Only.ofBelow {D : Nat} {a b : World} (h : Below a.heap.size a b) : Only D a b := ⟨h.os, h.tape, h.output, h.size, fun k _ hl => h.block k hl⟩
theorem Only.below {B D : Nat} {W w w' : World} (hBW : B ≤ W.heap.size) (hb : Below B W w) (hD : B ≤ D) (h : Only D w w') : Below B W w' :=
  hb.trans ⟨h.os, h.tape, h.output, h.size, fun k hk => h.block k (by omega) (by have := hb.size; omega)⟩
theorem Only.cell {D : Nat} {w w' : World} (h : Only D w w') {p : Addr} (hne : p.block ≠ D) (hl : p.block < w.heap.size) : w'.cell? p = w.cell? p := by
  unfold World.cell?; rw [h.block _ hne hl]
theorem Only.frozen {D : Nat} {w w' : World} (h : Only D w w') {p : Addr} (hne : p.block ≠ D) (hl : p.block < w.heap.size) : w'.frozen? p = w.frozen? p := by
  unfold World.frozen?; rw [h.block _ hne hl]

end Go.Proofs.YtljhccolmcoifaaGreat
namespace Go.Proofs.YtljhccolmcoifaaGreat
open Go.RowKit
set_option linter.unusedVariables false
open srtR

theorem frozen_setCell (w : World) (p q : Addr) (v : Value) : (w.setCell p v).frozen? q = w.frozen? q := by simp
def ls (g : Nat → Rn) (n : Nat) : List Ru := (lstF g n).map Subtype.val
theorem ls_len (g : Nat → Rn) (n : Nat) : (ls g n).length = n := by simp [ls, lstF_len]
theorem ls_at (g : Nat → Rn) {n i : Nat} (h : i < n) : at' (ls g n) i = (g i).val := by
  simp [at', ls, lstF, List.getD_eq_getElem?_getD, h]
theorem map_eraseIdx {α β : Type} (f : α → β) : ∀ (l : List α) (i : Nat), (l.eraseIdx i).map f = (l.map f).eraseIdx i
  | [], _ => by simp
  | a :: l, 0 => by simp
  | a :: l, i + 1 => by simp [map_eraseIdx f l i]
theorem ls_without (g : Nat → Rn) {n i : Nat} (h : i < n) : ls (without g i) (n - 1) = (ls g n).eraseIdx i := by
  rw [ls, lst_without g h, ls, map_eraseIdx]

end Go.Proofs.YtljhccolmcoifaaGreat
namespace Go.Proofs.YtljhccolmcoifaaGreat
open Go.RowKit
set_option linter.unusedVariables false
open srtR

def setAt (g : Nat → Rn) (i : Nat) (r : Rn) (j : Nat) : Rn := if j = i then r else g j
theorem ls_set (g : Nat → Rn) {n i : Nat} (r : Rn) (h : i < n) : ls (setAt g i r) n = (ls g n).set i r.val := by
  apply List.ext_getElem
  · rw [ls_len, List.length_set, ls_len]
  · intro j h1 h2
    rw [ls_len] at h1
    rw [List.getElem_set]
    simp only [ls, lstF, List.getElem_map, List.getElem_range, setAt]
    by_cases e : i = j
    · subst e; simp
    · rw [if_neg (fun h => e h.symm), if_neg e]
theorem ls_join (g : Nat → Rn) {n i j : Nat} (r : Rn) (hi : i < n) (hj : j < n) : ls (without (setAt g i r) j) (n - 1) = ((ls g n).set i r.val).eraseIdx j := by
  rw [ls_without _ hj, ls_set g r hi]

end Go.Proofs.YtljhccolmcoifaaGreat
namespace Go.Proofs.YtljhccolmcoifaaGreat
open Go.RowKit
set_option linter.unusedVariables false
open srtR

theorem encR_norm (r : Ru) : (encR (normR r)).toArray = #[.iface (tyK (normK (r.getD 0 K.zero))) (plK (normK (r.getD 0 K.zero))), .iface (tyK (normK (r.getD 1 K.zero))) (plK (normK (r.getD 1 K.zero))), .iface (tyK (normK (r.getD 2 K.zero))) (plK (normK (r.getD 2 K.zero))), .iface (tyK (normK (r.getD 3 K.zero))) (plK (normK (r.getD 3 K.zero))), .iface (tyK (normK (r.getD 4 K.zero))) (plK (normK (r.getD 4 K.zero))), .iface (tyK (normK (r.getD 5 K.zero))) (plK (normK (r.getD 5 K.zero)))] := by
  simp only [encR, setV_form]
  rw [normR_getD r (by decide), normR_getD r (by decide), normR_getD r (by decide), normR_getD r (by decide), normR_getD r (by decide), normR_getD r (by decide)]

theorem row_below {w w1 : World} {D t n : Nat} {f : Nat → Value} (h : w.rowIs D t n f) (hb : Below w.heap.size w w1) : w1.rowIs D t n f := h.of_block (hb.block D h.lt)

def kCells (l : List K) : List Value := l.flatMap fun c => [.int .i64 c.kind, .int .u64 (c.a : Int), .int .u64 (c.b : Int)]
theorem kCells_snoc (l : List K) (c : K) : kCells (l ++ [c]) = kCells l ++ [.int .i64 c.kind, .int .u64 (c.a : Int), .int .u64 (c.b : Int)] := by simp [kCells]
abbrev ownsK (w : World) (B : Nat) (v : Value) (l : List K) : Prop := w.ownsRow B 86 3 v l.length (kCells l)
theorem infoConR : (Tryz.prog.info? 86).map (fun i => (i.zero, i.size, i.bytes)) = some (some (.agg #[.int .i64 0, .int .u64 0, .int .u64 0]), 3, 24) := by kernel_rfl
theorem take_snocK {r : Ru} {k : Nat} (h : k < r.length) : r.take (k + 1) = r.take k ++ [r.getD k K.zero] := by
  rw [List.take_add_one, List.getElem?_eq_getElem h, List.getD_eq_getElem?_getD, List.getElem?_eq_getElem h]; rfl
theorem ownsK_below {w w1 : World} {B : Nat} {v : Value} {l : List K} (h : ownsK w B v l) (hb : Below w.heap.size w w1) : ownsK w1 B v l := World.ownsRow.kept (row := none) h ⟨hb.os, hb.tape, hb.output, hb.size, fun k hk _ => hb.block k hk⟩ (by cases v.ownBlock <;> simp)

theorem row_blockK {w w1 : World} {base t s n : Nat} {v : Value} {xs : List Value} (h : w.ownsRow base t s v n xs) (e : ∀ q, v.ownBlock = some q → w1.heap[q]? = w.heap[q]?) : w1.ownsRow base t s v n xs := by
  obtain ⟨h0, h | ⟨g, cap, cur, rfl, hb, hg, hr⟩⟩ := h
  · exact ⟨h0, .inl h⟩
  · exact ⟨h0, .inr ⟨g, cap, cur, rfl, hb, (e g (by simp [Value.ownBlock])).trans hg, hr⟩⟩
theorem box_get (u : World) (x : Value) (t A : Nat) (h : A = u.heap.size) : (u.alloc (.cells #[x] t)).cell? ⟨A, 0, none⟩ = some x ∧ (u.alloc (.cells #[x] t)).frozen? ⟨A, 0, none⟩ = false := by subst h; constructor <;> simp
/-- the boxes and the row while a rule is written out -/
structure RuS (w wr : World) (v : Value) (g : Nat) (l : List K) : Prop where
  b : Below w.heap.size w wr
  c : wr.cell? ⟨w.heap.size + 1 + 1, 0, none⟩ = some v
  f : wr.frozen? ⟨w.heap.size + 1 + 1, 0, none⟩ = false
  c0 : wr.cell? ⟨w.heap.size, 0, none⟩ = some (.slice none 0 0)
  f0 : wr.frozen? ⟨w.heap.size, 0, none⟩ = false
  own : ownsK wr (w.heap.size + 1) v l
  ob : v.ownBlock = some g
  ne : g ≠ w.heap.size + 1 + 1
theorem RuS.keep {w wr w1 : World} {v : Value} {g : Nat} {l : List K} (h : RuS w wr v g l) (hb : Below wr.heap.size wr w1) : RuS w w1 v g l :=
  have h1 := cell_ltK h.c
  have h2 := cell_ltK h.c0
  ⟨below_step hb h.b, cell_step hb h.c, (hb.frozen (p := ⟨w.heap.size + 1 + 1, 0, none⟩) h1).trans h.f, cell_step hb h.c0, (hb.frozen (p := ⟨w.heap.size, 0, none⟩) h2).trans h.f0, ownsK_below h.own hb, h.ob, h.ne⟩
/-- one more is appended, and the box is told -/
theorem RuS.next {w wr w1 : World} {v : Value} {g gg cap : Nat} {l : List K} {c : K} (h : RuS w wr v g l) (hown : w1.ownsRow (w.heap.size + 1) 86 3 (.slice (some ⟨gg, 0, none⟩) (l.length + 1) cap) (l.length + 1) (kCells l ++ [.int .i64 c.kind, .int .u64 (c.a : Int), .int .u64 (c.b : Int)])) (hg : wr.grownBy w1 v.ownBlock) (hat : v.ownBlock = some gg ∨ gg = wr.heap.size) :
    w1.cell? ⟨w.heap.size + 1 + 1, 0, none⟩ = some v ∧ w1.frozen? ⟨w.heap.size + 1 + 1, 0, none⟩ = false ∧ RuS w (w1.setCell ⟨w.heap.size + 1 + 1, 0, none⟩ (.slice (some ⟨gg, 0, none⟩) (l.length + 1) cap)) (.slice (some ⟨gg, 0, none⟩) (l.length + 1) cap) gg (l ++ [c]) := by
  have h1 := cell_ltK h.c
  have h2 := cell_ltK h.c0
  simp only at h1 h2
  have hgb := (h.own.lt g h.ob).1
  have ne1 : some (w.heap.size + 1 + 1) ≠ v.ownBlock := by rw [h.ob]; intro e; cases e; exact h.ne rfl
  have ne2 : some w.heap.size ≠ v.ownBlock := by rw [h.ob]; intro e; injection e with e; omega
  have x1 := (hg.cell_far ⟨w.heap.size + 1 + 1, 0, none⟩ h1 ne1).trans h.c
  have x2 := (hg.frozen_far ⟨w.heap.size + 1 + 1, 0, none⟩ h1 ne1).trans h.f
  have x3 := (hg.cell_far ⟨w.heap.size, 0, none⟩ h2 ne2).trans h.c0
  have x4 := (hg.frozen_far ⟨w.heap.size, 0, none⟩ h2 ne2).trans h.f0
  have hgne : gg ≠ w.heap.size + 1 + 1 := by
    rcases hat with e | e
    · rw [h.ob] at e; cases e; exact h.ne
    · omega
  have hb1 : Below w.heap.size w w1 := h.b.grown hg (by omega) (fun z hz => by rw [h.ob] at hz; cases hz; omega)
  refine ⟨x1, x2, ⟨hb1.setCell (p := ⟨w.heap.size + 1 + 1, 0, none⟩) (by show w.heap.size ≤ w.heap.size + 1 + 1; omega) _, World.cell?_setCell_same _ _ _ x1, by rw [frozen_setCell]; exact x2, ?_, by rw [frozen_setCell]; exact x4, ?_, rfl, hgne⟩⟩
  · rw [World.cell?_setCell_other _ _ _ _ (by intro e; injection e with e; omega)]; exact x3
  · have e : (l ++ [c]).length = l.length + 1 := by simp
    show World.ownsRow _ _ _ _ _ (l ++ [c]).length (kCells (l ++ [c]))
    rw [e, kCells_snoc]
    exact row_blockK hown (fun q hq => by
      have : q = gg := by simpa [Value.ownBlock] using hq.symm
      subst this
      simp only [World.setCell, Array.getElem?_modify]; rw [if_neg (fun e => hgne e.symm)])

end Go.Proofs.YtljhccolmcoifaaGreat
