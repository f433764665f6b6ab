/-
  CallM, CallS, CallL, Ord, OrdC, MathK, RuleC, RowF
-/
import Derived.Test.YtioabdfddjmabaaGreatQ04
import Derived.Deep.RegionWith
import Derived.Test.YtioabdfddjmabaaGreatQ05
import Derived.Deep.QuietTactic
import Derived.BigQuiet
import Derived.Deep.RegionHeld3
import Derived.Test.YtioabdfddjmabaaGreatQ06
import Derived.Test.YtioabdfddjmabaaGreatQ02
import Derived.Shelf.SlSortCmp.InsertionK
import Derived.Laws.IdiomCopy
import Derived.Shelf.SlSortCmp.WholeK
import Derived.Shelf.SlSortCmp.NoneTotal
namespace Go.Proofs.YtioabdfddjmabaaGreat
open Go.RowKit
set_option linter.unusedVariables false

/-- the value of one call, its arguments in v -/
abbrev callV (c : C) (v : Value) : Value := .agg #[.int .u32 c.arch, .int .u32 c.nr, v]

theorem ownsU_set {w : World} {B D j : Nat} {v x : Value} {l : List Int} (h : ownsU w B v l) (hne : ∀ q, v.ownBlock = some q → q ≠ D) : ownsU (w.setCell ⟨D, j, none⟩ x) B v l :=
  ownsU_kept h (grown_setCell (World.grownBy.refl _ _) j x) (fun q hq e => hne q hq (by simpa using e))
theorem ownsU_mono {w : World} {B B' : Nat} {v : Value} {l : List Int} (h : ownsU w B v l) (hb : B' ≤ B) : ownsU w B' v l := by
  obtain ⟨h0, h | ⟨g, cap, cur, rfl, hb', hr⟩⟩ := h
  · exact ⟨h0, .inl h⟩
  · exact ⟨h0, .inr ⟨g, cap, cur, rfl, by omega, hr⟩⟩
/-- the three cells of a box -/
structure Box3 (w : World) (g : Nat) (x y z : Value) : Prop where
  lt : g < w.heap.size
  c0 : w.cell? ⟨g, 0, none⟩ = some x
  c1 : w.cell? ⟨g, 1, none⟩ = some y
  c2 : w.cell? ⟨g, 2, none⟩ = some z
  f0 : w.frozen? ⟨g, 0, none⟩ = false
  f1 : w.frozen? ⟨g, 1, none⟩ = false
  f2 : w.frozen? ⟨g, 2, none⟩ = false
theorem Box3.keep {w w1 : World} {g : Nat} {x y z : Value} (h : Box3 w g x y z) (hb : Below w.heap.size w w1) : Box3 w1 g x y z :=
  ⟨Nat.lt_of_lt_of_le h.lt hb.size, (hb.cell (p := ⟨g, _, none⟩) h.lt).trans h.c0, (hb.cell (p := ⟨g, _, none⟩) h.lt).trans h.c1, (hb.cell (p := ⟨g, _, none⟩) h.lt).trans h.c2,
    (hb.frozen (p := ⟨g, _, none⟩) h.lt).trans h.f0, (hb.frozen (p := ⟨g, _, none⟩) h.lt).trans h.f1, (hb.frozen (p := ⟨g, _, none⟩) h.lt).trans h.f2⟩
theorem Box3.new (w : World) (t : TypeId) (x y z : Value) : Box3 (w.alloc (.cells #[x, y, z] t)) w.heap.size x y z :=
  ⟨by simp, by simp, by simp, by simp, by simp, by simp, by simp⟩
theorem Box3.alloc {w : World} {g : Nat} {x y z : Value} (h : Box3 w g x y z) (o : Obj) : Box3 (w.alloc o) g x y z := h.keep ((Below.refl _ _).alloc (Nat.le_refl _) o)

end Go.Proofs.YtioabdfddjmabaaGreat
namespace Go.Proofs.YtioabdfddjmabaaGreat
open Go.RowKit
set_option linter.unusedVariables false

/-- calls at an address, each with its arguments where its third cell says -/
def CAt (w : World) (b o : Nat) (cs : List C) : Prop :=
  ∀ i, i < cs.length → w.cell? ⟨b, o + i * 3, none⟩ = some (.int .u32 (cs.getD i C.zero).arch) ∧ w.cell? ⟨b, o + i * 3 + 1, none⟩ = some (.int .u32 (cs.getD i C.zero).nr) ∧
    ∃ a cap, w.cell? ⟨b, o + i * 3 + 2, none⟩ = some (.slice a (cs.getD i C.zero).args.length cap) ∧ USrc w a (cs.getD i C.zero).args
/-- calls that came in, or were made: nil or empty, or at an address -/
def CSrc (w : World) (a : Option Addr) (cs : List C) : Prop := cs = [] ∨ ∃ b o, a = some ⟨b, o, none⟩ ∧ b < w.heap.size ∧ CAt w b o cs

theorem CAt.below {w w' : World} {b o : Nat} {cs : List C} (h : CAt w b o cs) (hlt : b < w.heap.size) (hb : Below w.heap.size w w') : CAt w' b o cs := by
  intro i hi
  obtain ⟨c0, c1, a, cap, c2, hs⟩ := h i hi
  exact ⟨(hb.cell (p := ⟨b, _, none⟩) hlt).trans c0, (hb.cell (p := ⟨b, _, none⟩) hlt).trans c1, a, cap, (hb.cell (p := ⟨b, _, none⟩) hlt).trans c2, hs.below hb⟩
theorem CSrc.below {w w' : World} {a : Option Addr} {cs : List C} (h : CSrc w a cs) (hb : Below w.heap.size w w') : CSrc w' a cs := by
  rcases h with h | ⟨b, o, ha, hlt, hc⟩
  · exact .inl h
  · exact .inr ⟨b, o, ha, Nat.lt_of_lt_of_le hlt hb.size, hc.below hlt hb⟩
end Go.Proofs.YtioabdfddjmabaaGreat
namespace Go.Proofs.YtioabdfddjmabaaGreat
open Go.RowKit
set_option linter.unusedVariables false

def tot : List C → Nat
  | [] => 0
  | c :: r => c.args.length + tot r
theorem tot_take_succ {cs : List C} {k : Nat} (h : k < cs.length) : tot (cs.take (k + 1)) = tot (cs.take k) + (cs.getD k C.zero).args.length := by
  induction cs generalizing k with
  | nil => simp at h
  | cons c r ih =>
    cases k with
    | zero => simp [tot]
    | succ k =>
      have := ih (k := k) (by simpa using h)
      simp only [List.take_succ_cons, tot, List.getD_cons_succ] at *
      omega
theorem tot_take_le (cs : List C) (k : Nat) : tot (cs.take k) ≤ tot cs := by
  induction cs generalizing k with
  | nil => simp
  | cons c r ih =>
    cases k with
    | zero => simp [tot]
    | succ k => have := ih k; simp only [List.take_succ_cons, tot]; omega
theorem tot_mem {cs : List C} {c : C} (h : c ∈ cs) : c.args.length ≤ tot cs := by
  induction cs with
  | nil => simp at h
  | cons d r ih =>
    simp only [List.mem_cons] at h
    rcases h with rfl | h
    · simp [tot]
    · have := ih h; simp [tot]; omega
theorem callL_mem {cs : List C} {i : Nat} (hi : i < cs.length) : cs.getD i C.zero ∈ cs := by
  rw [List.getD_eq_getElem?_getD, List.getElem?_eq_getElem hi]; exact List.getElem_mem hi
theorem getD_take {cs : List C} {i k : Nat} (h : i < k) : (cs.take k).getD i C.zero = cs.getD i C.zero := by
  simp [List.getD_eq_getElem?_getD, h]

/-- the cells of call i -/
theorem CSrc.at {w : World} {a : Option Addr} {cs : List C} (hs : CSrc w a cs) (i : Nat) (hi : i < cs.length) : ∃ b o, a = some ⟨b, o, none⟩ ∧ b < w.heap.size ∧ w.cell? ⟨b, o + i * 3, none⟩ = some (.int .u32 (cs.getD i C.zero).arch) ∧ w.cell? ⟨b, o + i * 3 + 1, none⟩ = some (.int .u32 (cs.getD i C.zero).nr) ∧
      ∃ a' cap', w.cell? ⟨b, o + i * 3 + 2, none⟩ = some (.slice a' (cs.getD i C.zero).args.length cap') ∧ USrc w a' (cs.getD i C.zero).args := by
  rcases hs with rfl | ⟨b, o, h1, h2, h3⟩
  · simp at hi
  · obtain ⟨c0, c1, a', cap', c2, hu⟩ := h3 i hi
    exact ⟨b, o, h1, h2, c0, c1, a', cap', c2, hu⟩

end Go.Proofs.YtioabdfddjmabaaGreat
namespace Go.Proofs.YtioabdfddjmabaaGreat
open Go.RowKit
set_option linter.unusedVariables false

set_option maxHeartbeats 1000000 in
theorem isNaN32_any (x : Int) (w : World) : Calls Tryz.prog 92 #[.int .u32 x] w fun e w' => e = .returned (.bool false) ∧ w' = w := by
  go_enter Tryz.func92, Tryz.ntmps92
  go_wp2
  go_ret
  exact ⟨rfl, rfl⟩
set_option maxHeartbeats 1000000 in
theorem isNaN64_any (x : Int) (w : World) : Calls Tryz.prog 122 #[.int .u64 x] w fun e w' => e = .returned (.bool false) ∧ w' = w := by
  go_enter Tryz.func122, Tryz.ntmps122
  go_wp2
  go_ret
  exact ⟨rfl, rfl⟩
theorem ordI_neg {x y : Int} (h : x < y) : ordI x y = -1 := by unfold ordI; rw [if_pos h]
theorem ordI_pos {x y : Int} (h : y < x) : ordI x y = 1 := by unfold ordI; rw [if_neg (by omega), if_pos h]
theorem ordI_same {x y : Int} (h : x = y) : ordI x y = 0 := by unfold ordI; rw [if_neg (by omega), if_neg (by omega)]
set_option maxRecDepth 100000 in
set_option maxHeartbeats 1000000 in
theorem cmp32_any (x y : Int) (w : World) (hx : 0 ≤ x ∧ x ≤ 4294967295) (hy : 0 ≤ y ∧ y ≤ 4294967295) : Calls Tryz.prog 68 #[.int .u32 x, .int .u32 y] w fun e w' => e = .returned (.int .i64 (ordI x y)) ∧ w' = w := by
  rcases Int.lt_trichotomy x y with h | h | h
  · rw [ordI_neg h]
    go_enter Tryz.func68, Tryz.ntmps68
    go_wp2_with (go_at_call 92; refine (isNaN32_any _ _).mono ?_; rintro e w' ⟨rfl, rfl⟩)
    go_ret
    exact ⟨rfl, rfl⟩
  · rw [ordI_same h]
    subst h
    go_enter Tryz.func68, Tryz.ntmps68
    go_wp2_with (go_at_call 92; refine (isNaN32_any _ _).mono ?_; rintro e w' ⟨rfl, rfl⟩)
    go_ret
    exact ⟨rfl, rfl⟩
  · rw [ordI_pos h]
    go_enter Tryz.func68, Tryz.ntmps68
    go_wp2_with (go_at_call 92; refine (isNaN32_any _ _).mono ?_; rintro e w' ⟨rfl, rfl⟩)
    go_ret
    exact ⟨rfl, rfl⟩
set_option maxRecDepth 100000 in
set_option maxHeartbeats 1000000 in
theorem cmp64_any (x y : Int) (w : World) (hx : isU64 x) (hy : isU64 y) : Calls Tryz.prog 100 #[.int .u64 x, .int .u64 y] w fun e w' => e = .returned (.int .i64 (ordI x y)) ∧ w' = w := by
  obtain ⟨x0, x1⟩ := hx
  obtain ⟨y0, y1⟩ := hy
  rcases Int.lt_trichotomy x y with h | h | h
  · rw [ordI_neg h]
    go_enter Tryz.func100, Tryz.ntmps100
    go_wp2_with (go_at_call 122; refine (isNaN64_any _ _).mono ?_; rintro e w' ⟨rfl, rfl⟩)
    go_ret
    exact ⟨rfl, rfl⟩
  · rw [ordI_same h]
    subst h
    go_enter Tryz.func100, Tryz.ntmps100
    go_wp2_with (go_at_call 122; refine (isNaN64_any _ _).mono ?_; rintro e w' ⟨rfl, rfl⟩)
    go_ret
    exact ⟨rfl, rfl⟩
  · rw [ordI_pos h]
    go_enter Tryz.func100, Tryz.ntmps100
    go_wp2_with (go_at_call 122; refine (isNaN64_any _ _).mono ?_; rintro e w' ⟨rfl, rfl⟩)
    go_ret
    exact ⟨rfl, rfl⟩

/-- lists from number i on -/
theorem ordL_step {l m : List Int} {i : Nat} (hl : i < l.length) (hm : i < m.length) : ordL (l.drop i) (m.drop i) = if ordI (l.getD i 0) (m.getD i 0) = 0 then ordL (l.drop (i + 1)) (m.drop (i + 1)) else ordI (l.getD i 0) (m.getD i 0) := by
  rw [List.drop_eq_getElem_cons hl, List.drop_eq_getElem_cons hm, ordL]
  simp [List.getD_eq_getElem?_getD, hl, hm]
theorem ordL_out1 {l m : List Int} {i : Nat} (hl : l.length ≤ i) (hm : i < m.length) : ordL (l.drop i) (m.drop i) = -1 := by
  rw [List.drop_eq_nil_of_le hl, List.drop_eq_getElem_cons hm]; rfl
theorem ordL_out2 {l m : List Int} {i : Nat} (hl : i < l.length) (hm : m.length ≤ i) : ordL (l.drop i) (m.drop i) = 1 := by
  rw [List.drop_eq_nil_of_le hm, List.drop_eq_getElem_cons hl]; rfl
theorem ordL_out {l m : List Int} {i : Nat} (hl : l.length ≤ i) (hm : m.length ≤ i) : ordL (l.drop i) (m.drop i) = 0 := by
  rw [List.drop_eq_nil_of_le hm, List.drop_eq_nil_of_le hl]; rfl
theorem USrc.at {w : World} {a : Option Addr} {l : List Int} (h : USrc w a l) (i : Nat) (hi : i < l.length) : ∃ b o, a = some ⟨b, o, none⟩ ∧ b < w.heap.size ∧ w.cell? ⟨b, o + i, none⟩ = some (.int .u64 (l.getD i 0)) := by
  rcases h with rfl | ⟨b, o, ha, hb, hp⟩
  · simp at hi
  · exact ⟨b, o, ha, hb, hp i hi⟩
theorem isU64_getD {l : List Int} (h : ∀ v ∈ l, isU64 v) (i : Nat) : isU64 (l.getD i 0) := by
  by_cases hi : i < l.length
  · exact h _ (by rw [List.getD_eq_getElem?_getD, List.getElem?_eq_getElem hi]; exact List.getElem_mem hi)
  · rw [List.getD_eq_getElem?_getD, List.getElem?_eq_none (by omega)]; exact ⟨by decide, by decide⟩

end Go.Proofs.YtioabdfddjmabaaGreat
namespace Go.Proofs.YtioabdfddjmabaaGreat
open Go.RowKit
set_option linter.unusedVariables false

def or3 (x y z : Int) : Int := if x ≠ 0 then x else if y ≠ 0 then y else z
theorem ordC_or3 (a b : C) : ordC a b = or3 (ordI a.arch b.arch) (ordI a.nr b.nr) (ordL a.args b.args) := rfl
def get3 (x y z : Int) (j : Nat) : Int := if j = 0 then x else if j = 1 then y else z

set_option maxRecDepth 100000 in
set_option maxHeartbeats 1000000 in
theorem cmpOr_any (g : Nat) (x y z : Int) (w : World) (c : ∀ j, j < 3 → w.cell? ⟨g, j, none⟩ = some (.int .i64 (get3 x y z j))) :
    Calls Tryz.prog 67 #[.slice (some ⟨g, 0, none⟩) 3 3] w fun e w' => e = .returned (.int .i64 (or3 x y z)) ∧ w' = w := by
  have HC : Hid (∀ j, j < 3 → w.cell? ⟨g, j, none⟩ = some (.int .i64 (get3 x y z j))) := c
  have H1 : Hid (∀ j, j < 3 → (∀ i, i < j → get3 x y z i = 0) → get3 x y z j ≠ 0 → or3 x y z = get3 x y z j) := by
    intro j hj h0 h1
    have : j = 0 ∨ j = 1 ∨ j = 2 := by omega
    rcases this with rfl | rfl | rfl
    · simp only [get3, if_true] at h1 ⊢; unfold or3; rw [if_pos h1]
    · have a0 := h0 0 (by omega)
      simp [get3] at h1 a0 ⊢; unfold or3; rw [if_neg (by omega), if_pos h1]
    · have a0 := h0 0 (by omega)
      have a1 := h0 1 (by omega)
      simp [get3] at h1 a0 a1 ⊢; unfold or3; rw [if_neg (by omega), if_neg (by omega)]
  have H2 : Hid ((∀ i, i < 3 → get3 x y z i = 0) → or3 x y z = 0) := by
    intro h0
    have a0 := h0 0 (by omega)
    have a1 := h0 1 (by omega)
    have a2 := h0 2 (by omega)
    simp [get3] at a0 a1 a2; unfold or3; rw [if_neg (by omega), if_neg (by omega), a2]
  generalize or3 x y z = R at *
  generalize get3 x y z = G at *
  clear c
  go_enter Tryz.func67, Tryz.ntmps67
  go_wp2_with fail
  go_loopw [8] (fun i wr => ∃ j : Nat, j ≤ 3 ∧ i = .int .i64 j ∧ wr = w ∧ Hid (∀ i, i < j → G i = 0)) (fun i _ => 3 - (intOf i).toNat)
  case atStart => exact ⟨0, by omega, rfl, rfl, fun i hi => by omega⟩
  case round =>
    obtain ⟨j, hj, rfl, rfl, HJ⟩ := hrel
    by_cases hlt : j < 3
    · have c0 := HC.out j hlt
      by_cases hq : G j = 0
      · have HJ2 : Hid (∀ i, i < j + 1 → G i = 0) := by
          intro i hi
          by_cases e : i = j
          · rw [e]; exact hq
          · exact HJ.out i (by omega)
        rw [hq] at c0
        clear HC H1 H2 HJ hq
        go_wp2
        go_roundw
        case rel => exact ⟨j + 1, by omega, by go_num, trivial, HJ2⟩
        case measure => simp [intOf]; omega
      · have E : Hid (R = G j) := H1.out j hlt HJ.out hq
        have hq' : (G j != 0) = true := by simpa using hq
        clear HC H1 H2 HJ
        generalize G j = q at *
        go_wp2
        go_ret
        exact ⟨ret_int E.out.symm, rfl⟩
    · have E : Hid (R = 0) := H2.out (fun i hi => HJ.out i (by omega))
      clear HC H1 H2 HJ
      go_wp2
      go_ret
      exact ⟨ret_int E.out.symm, rfl⟩

theorem cell_alloc_some {W : World} {a : Addr} {v : Value} (o : Obj) (h : W.cell? a = some v) : (W.alloc o).cell? a = some v := by
  have hlt : a.block < W.heap.size := by
    rcases Nat.lt_or_ge a.block W.heap.size with h' | h'
    · exact h'
    · simp [World.cell?, Array.getElem?_eq_none h'] at h
  rw [World.cell?_alloc_lt _ _ _ hlt]; exact h

end Go.Proofs.YtioabdfddjmabaaGreat
namespace Go.Proofs.YtioabdfddjmabaaGreat
set_option linter.unusedVariables false

abbrev Ru := List K
/-- a rule of six normal conditions -/
def NR (r : Ru) : Prop := r.length = 6 ∧ ∀ i, Normal (r.getD i K.zero)
theorem normal_zero : Normal K.zero := .inl rfl
theorem getD_set {α : Type} (l : List α) (i j : Nat) (c d : α) : (l.set i c).getD j d = if i = j ∧ i < l.length then c else l.getD j d := by
  simp only [List.getD_eq_getElem?_getD, List.getElem?_set]
  by_cases h : i = j
  · subst h
    by_cases h2 : i < l.length
    · simp [h2]
    · simp [h2]
  · simp [h]
theorem NR.set {r : Ru} (h : NR r) (i : Nat) {c : K} (hc : Normal c) : NR (r.set i c) := by
  refine ⟨by rw [List.length_set]; exact h.1, fun j => ?_⟩
  rw [getD_set]
  split
  · exact hc
  · exact h.2 j

def withinR (a b : Ru) : Bool := (List.range 6).all fun i => withinI (a.getD i K.zero) (b.getD i K.zero)
theorem withinR_iff (a b : Ru) : withinR a b = true ↔ ∀ i, i < 6 → withinI (a.getD i K.zero) (b.getD i K.zero) = true := by
  simp [withinR, List.all_eq_true]
theorem withinR_no {a b : Ru} {i : Nat} (hi : i < 6) (h : withinI (a.getD i K.zero) (b.getD i K.zero) = false) : withinR a b = false := by
  cases e : withinR a b with
  | false => rfl
  | true => rw [(withinR_iff a b).1 e i hi] at h; exact absurd h (by decide)
theorem withinR_self {a : Ru} (h : NR a) : withinR a a = true := (withinR_iff a a).2 fun i _ => (withinI_iff (h.2 i) (h.2 i)).2 fun v _ h => h

/-- for the arguments A -/
def holdsR (r : Ru) (A : Nat → Nat) : Prop := ∀ i, i < 6 → holdsK (r.getD i K.zero) (A i) = true
def A64 (A : Nat → Nat) : Prop := ∀ i, A i < 18446744073709551616
theorem withinR_holds {a b : Ru} (ha : NR a) (hb : NR b) (h : withinR a b = true) {A : Nat → Nat} (hA : A64 A) (h1 : holdsR a A) : holdsR b A := fun i hi =>
  (withinI_iff (ha.2 i) (hb.2 i)).1 ((withinR_iff a b).1 h i hi) (A i) (hA i) (h1 i hi)

/-- they differ at just i, and there they join to c -/
def JoinAt (a b : Ru) (i : Nat) (c : K) : Prop := i < 6 ∧ a.getD i K.zero ≠ b.getD i K.zero ∧ (∀ j, j < 6 → j ≠ i → a.getD j K.zero = b.getD j K.zero) ∧ joinK (a.getD i K.zero) (b.getD i K.zero) = some c
def JoinR (a b r : Ru) : Prop := ∃ i c, JoinAt a b i c ∧ r = a.set i c
def NoJoin (a b : Ru) : Prop := ∀ r, ¬ JoinR a b r
theorem JoinR.uniq {a b r s : Ru} (h : JoinR a b r) (h' : JoinR a b s) : r = s := by
  obtain ⟨i, c, ⟨h1, h2, h3, h4⟩, rfl⟩ := h
  obtain ⟨j, d, ⟨k1, k2, k3, k4⟩, rfl⟩ := h'
  have : i = j := by
    by_cases e : i = j
    · exact e
    · exact absurd (k3 i h1 e) h2
  subst this
  rw [h4] at k4
  cases k4
  rfl
theorem NoJoin.symm {a b : Ru} (h : NoJoin a b) : NoJoin b a := by
  rintro r ⟨i, c, ⟨h1, h2, h3, h4⟩, rfl⟩
  cases e : joinK (a.getD i K.zero) (b.getD i K.zero) with
  | some d => exact h _ ⟨i, d, ⟨h1, fun e => h2 e.symm, fun j hj hne => (h3 j hj hne).symm, e⟩, rfl⟩
  | none => rw [joinK_none e] at h4; cases h4
theorem JoinR.normal {a b r : Ru} (ha : NR a) (hb : NR b) (h : JoinR a b r) : NR r := by
  obtain ⟨i, c, ⟨h1, h2, h3, h4⟩, rfl⟩ := h
  exact ha.set i (joinK_some (ha.2 i) (hb.2 i) h4).1
theorem JoinR.holds {a b r : Ru} (ha : NR a) (hb : NR b) (h : JoinR a b r) {A : Nat → Nat} (hA : A64 A) : holdsR r A ↔ (holdsR a A ∨ holdsR b A) := by
  obtain ⟨i, c, ⟨h1, h2, h3, h4⟩, rfl⟩ := h
  have hc := (joinK_some (ha.2 i) (hb.2 i) h4).2 (A i) (hA i)
  have hl := ha.1
  constructor
  · intro h
    have hi := h i h1
    rw [getD_set, if_pos ⟨rfl, by omega⟩] at hi
    rcases hc.1 hi with g | g
    · left
      intro j hj
      by_cases e : i = j
      · subst e; exact g
      · have := h j hj
        rw [getD_set, if_neg (by rintro ⟨q, _⟩; exact e q)] at this
        exact this
    · right
      intro j hj
      by_cases e : i = j
      · subst e; exact g
      · have := h j hj
        rw [getD_set, if_neg (by rintro ⟨q, _⟩; exact e q)] at this
        rw [← h3 j hj (fun q => e q.symm)]; exact this
  · intro h j hj
    rw [getD_set]
    by_cases e : i = j
    · subst e
      rw [if_pos ⟨rfl, by omega⟩]
      apply hc.2
      rcases h with h | h
      · exact .inl (h i hj)
      · exact .inr (h i hj)
    · rw [if_neg (by rintro ⟨q, _⟩; exact e q)]
      rcases h with h | h
      · exact h j hj
      · rw [h3 j hj (fun q => e q.symm)]; exact h j hj

/-! steps -/
def at' (l : List Ru) (i : Nat) : Ru := l.getD i []
/-- none of the first i is within another -/
def NoWupto (l : List Ru) (i : Nat) : Prop := ∀ p, p < i → ∀ q, q < l.length → p ≠ q → withinR (at' l p) (at' l q) = false
def NoW (l : List Ru) : Prop := NoWupto l l.length
def FirstW (l : List Ru) (i : Nat) : Prop := i < l.length ∧ NoWupto l i ∧ ∃ j, j < l.length ∧ i ≠ j ∧ withinR (at' l i) (at' l j) = true
/-- no pair ahead of (i, j) joins -/
def NoJupto (l : List Ru) (i : Nat) : Prop := ∀ p, p < i → ∀ q, p < q → q < l.length → NoJoin (at' l p) (at' l q)
def NoJ (l : List Ru) : Prop := NoJupto l l.length
def FirstJ (l : List Ru) (i j : Nat) (r : Ru) : Prop := i < j ∧ j < l.length ∧ NoJupto l i ∧ (∀ q, i < q → q < j → NoJoin (at' l i) (at' l q)) ∧ JoinR (at' l i) (at' l j) r
inductive Step (l : List Ru) : List Ru → Prop
  | drop {i : Nat} (h : FirstW l i) : Step l (l.eraseIdx i)
  | join {i j : Nat} {r : Ru} (h0 : NoW l) (h : FirstJ l i j r) : Step l ((l.set i r).eraseIdx j)
def Stuck (l : List Ru) : Prop := NoW l ∧ NoJ l
inductive Steps : List Ru → List Ru → Prop
  | done {l : List Ru} (h : Stuck l) : Steps l l
  | more {l m n : List Ru} (h : Step l m) (h' : Steps m n) : Steps l n

theorem FirstW.uniq {l : List Ru} {i i' : Nat} (h : FirstW l i) (h' : FirstW l i') : i = i' := by
  obtain ⟨h1, h2, j, h3, h4, h5⟩ := h
  obtain ⟨k1, k2, j', k3, k4, k5⟩ := h'
  rcases Nat.lt_trichotomy i i' with g | g | g
  · rw [k2 i g j h3 h4] at h5; exact absurd h5 (by decide)
  · exact g
  · rw [h2 i' g j' k3 k4] at k5; exact absurd k5 (by decide)
theorem FirstW.notNoW {l : List Ru} {i : Nat} (h : FirstW l i) (h' : NoW l) : False := by
  obtain ⟨h1, h2, j, h3, h4, h5⟩ := h
  rw [h' i h1 j h3 h4] at h5; exact absurd h5 (by decide)
theorem FirstJ.uniq {l : List Ru} {i j i' j' : Nat} {r r' : Ru} (h : FirstJ l i j r) (h' : FirstJ l i' j' r') : i = i' ∧ j = j' ∧ r = r' := by
  obtain ⟨h1, h2, h3, h4, h5⟩ := h
  obtain ⟨k1, k2, k3, k4, k5⟩ := h'
  have e : i = i' := by
    rcases Nat.lt_trichotomy i i' with g | g | g
    · exact absurd h5 (k3 i g j h1 h2 r)
    · exact g
    · exact absurd k5 (h3 i' g j' k1 k2 r')
  subst e
  have e : j = j' := by
    rcases Nat.lt_trichotomy j j' with g | g | g
    · exact absurd h5 (k4 j h1 g r)
    · exact g
    · exact absurd k5 (h4 j' k1 g r')
  subst e
  exact ⟨rfl, rfl, h5.uniq k5⟩
theorem FirstJ.notNoJ {l : List Ru} {i j : Nat} {r : Ru} (h : FirstJ l i j r) (h' : NoJ l) : False := by
  obtain ⟨h1, h2, h3, h4, h5⟩ := h
  exact h' i (by omega) j h1 h2 r h5
theorem Step.uniq {l m n : List Ru} (h : Step l m) (h' : Step l n) : m = n := by
  cases h with
  | drop h => cases h' with
    | drop k => rw [h.uniq k]
    | join k0 k => exact (h.notNoW k0).elim
  | join h0 h => cases h' with
    | drop k => exact (k.notNoW h0).elim
    | join k0 k => obtain ⟨rfl, rfl, rfl⟩ := h.uniq k; rfl
theorem Step.notStuck {l m : List Ru} (h : Step l m) (h' : Stuck l) : False := by
  cases h with
  | drop h => exact h.notNoW h'.1
  | join h0 h => exact h.notNoJ h'.2
theorem Steps.uniq {l m n : List Ru} (h : Steps l m) (h' : Steps l n) : m = n := by
  induction h with
  | done h => cases h' with
    | done k => rfl
    | more k k' => exact (k.notStuck h).elim
  | more h hh ih => cases h' with
    | done k => exact (h.notStuck k).elim
    | more k k' => obtain rfl := h.uniq k; exact ih k'
theorem Steps.stuck {l m : List Ru} (h : Steps l m) : Stuck m := by
  induction h with
  | done h => exact h
  | more h hh ih => exact ih

def NRs (l : List Ru) : Prop := ∀ r ∈ l, NR r
theorem at_mem {l : List Ru} {i : Nat} (h : i < l.length) : at' l i ∈ l := by
  rw [at', List.getD_eq_getElem?_getD, List.getElem?_eq_getElem h]; exact List.getElem_mem h
theorem mem_at {l : List Ru} {r : Ru} (h : r ∈ l) : ∃ i, i < l.length ∧ at' l i = r := by
  obtain ⟨i, hi, rfl⟩ := List.getElem_of_mem h
  exact ⟨i, hi, by rw [at', List.getD_eq_getElem?_getD, List.getElem?_eq_getElem hi]; rfl⟩
theorem mem_erase {α : Type} {l : List α} {i : Nat} {x : α} : x ∈ l.eraseIdx i ↔ ∃ j, j ≠ i ∧ l[j]? = some x := by
  rw [List.mem_eraseIdx_iff_getElem?]
theorem at_get {l : List Ru} {i : Nat} (h : i < l.length) : l[i]? = some (at' l i) := by
  rw [at', List.getD_eq_getElem?_getD, List.getElem?_eq_getElem h]; rfl

def allowsR (l : List Ru) (A : Nat → Nat) : Prop := ∃ r ∈ l, holdsR r A
theorem Step.keeps {l m : List Ru} (h : Step l m) (hl : NRs l) : NRs m ∧ m.length + 1 = l.length ∧ (l ≠ [] → m ≠ []) ∧ ∀ A, A64 A → (allowsR m A ↔ allowsR l A) := by
  cases h with
  | @drop i h =>
    obtain ⟨h1, h2, j, h3, h4, h5⟩ := h
    have hlen : (l.eraseIdx i).length + 1 = l.length := by rw [List.length_eraseIdx, if_pos h1]; omega
    refine ⟨fun r hr => hl r (List.mem_of_mem_eraseIdx hr), hlen, fun _ e => by rw [e] at hlen; simp at hlen; omega, fun A hA => ⟨?_, ?_⟩⟩
    · rintro ⟨r, hr, h⟩; exact ⟨r, List.mem_of_mem_eraseIdx hr, h⟩
    · rintro ⟨r, hr, h⟩
      obtain ⟨k, hk, rfl⟩ := mem_at hr
      by_cases e : k = i
      · subst e
        exact ⟨at' l j, mem_erase.2 ⟨j, fun q => h4 q.symm, at_get h3⟩, withinR_holds (hl _ (at_mem hk)) (hl _ (at_mem h3)) h5 hA h⟩
      · exact ⟨at' l k, mem_erase.2 ⟨k, e, at_get hk⟩, h⟩
  | @join i j r h0 h =>
    obtain ⟨h1, h2, h3, h4, h5⟩ := h
    have hi : i < l.length := by omega
    have nr := h5.normal (hl _ (at_mem hi)) (hl _ (at_mem h2))
    have hh : ∀ A, A64 A → (holdsR r A ↔ (holdsR (at' l i) A ∨ holdsR (at' l j) A)) := fun A hA => h5.holds (hl _ (at_mem hi)) (hl _ (at_mem h2)) hA
    have hlen : ((l.set i r).eraseIdx j).length + 1 = l.length := by rw [List.length_eraseIdx, List.length_set, if_pos h2]; omega
    have gi : (l.set i r)[i]? = some r := by rw [List.getElem?_set_self hi]
    have gk : ∀ k, k ≠ i → (l.set i r)[k]? = l[k]? := fun k hk => List.getElem?_set_ne (fun e => hk e.symm)
    refine ⟨fun s hs => ?_, hlen, fun _ e => by rw [e] at hlen; simp at hlen; omega, fun A hA => ⟨?_, ?_⟩⟩
    · obtain ⟨k, hk, hs⟩ := mem_erase.1 hs
      by_cases e : k = i
      · subst e; rw [gi] at hs; cases hs; exact nr
      · rw [gk k e] at hs; exact hl s (List.mem_of_getElem? hs)
    · rintro ⟨s, hs, h⟩
      obtain ⟨k, hk, hs⟩ := mem_erase.1 hs
      by_cases e : k = i
      · subst e; rw [gi] at hs; cases hs
        rcases (hh A hA).1 h with h | h
        · exact ⟨_, at_mem hi, h⟩
        · exact ⟨_, at_mem h2, h⟩
      · rw [gk k e] at hs; exact ⟨s, List.mem_of_getElem? hs, h⟩
    · rintro ⟨s, hs, h⟩
      obtain ⟨k, hk, rfl⟩ := mem_at hs
      by_cases e : k = i
      · subst e
        exact ⟨r, mem_erase.2 ⟨k, by omega, gi⟩, (hh A hA).2 (.inl h)⟩
      · by_cases e2 : k = j
        · subst e2
          exact ⟨r, mem_erase.2 ⟨i, by omega, gi⟩, (hh A hA).2 (.inr h)⟩
        · exact ⟨at' l k, mem_erase.2 ⟨k, e2, by rw [gk k e]; exact at_get hk⟩, h⟩
theorem Steps.keeps {l m : List Ru} (h : Steps l m) (hl : NRs l) : NRs m ∧ m.length ≤ l.length ∧ (l ≠ [] → m ≠ []) ∧ ∀ A, A64 A → (allowsR m A ↔ allowsR l A) := by
  induction h with
  | done h => exact ⟨hl, Nat.le_refl _, fun h => h, fun A _ => Iff.rfl⟩
  | more h hh ih =>
    obtain ⟨a, b, c, d⟩ := h.keeps hl
    obtain ⟨a', b', c', d'⟩ := ih a
    exact ⟨a', by omega, fun q => c' (c q), fun A hA => (d' A hA).trans (d A hA)⟩

/-- the rules, made normal -/
def normR (r : Ru) : Ru := (List.range 6).map fun i => normK (r.getD i K.zero)
/-- what the rules are made into -/
def IsSmall (rules out : List Ru) : Prop := ∃ l m, DistG ordR (rules.map normR) l ∧ Steps l m ∧ DistG ordR m out
theorem IsSmall.uniq {rules out out' : List Ru} (h : IsSmall rules out) (h' : IsSmall rules out') : out = out' := by
  obtain ⟨l, m, h1, h2, h3⟩ := h
  obtain ⟨l', m', k1, k2, k3⟩ := h'
  obtain rfl := distG_uniq linR h1 k1
  obtain rfl := h2.uniq k2
  exact distG_uniq linR h3 k3
theorem IsSmall.perm {rules rules' out : List Ru} (h : IsSmall rules out) (hp : ∀ r, r ∈ rules ↔ r ∈ rules') : IsSmall rules' out := by
  obtain ⟨l, m, h1, h2, h3⟩ := h
  refine ⟨l, m, ⟨h1.1, fun c => ?_⟩, h2, h3⟩
  rw [h1.2 c]
  simp only [List.mem_map]
  constructor
  · rintro ⟨a, ha, rfl⟩; exact ⟨a, (hp a).1 ha, rfl⟩
  · rintro ⟨a, ha, rfl⟩; exact ⟨a, (hp a).2 ha, rfl⟩

theorem normR_getD (r : Ru) {i : Nat} (h : i < 6) : (normR r).getD i K.zero = normK (r.getD i K.zero) := by
  simp [normR, List.getD_eq_getElem?_getD, h]
theorem normR_len (r : Ru) : (normR r).length = 6 := by simp [normR]
theorem normR_getD_hi (r : Ru) {i : Nat} (h : 6 ≤ i) : (normR r).getD i K.zero = K.zero := by
  rw [List.getD_eq_getElem?_getD, List.getElem?_eq_none (by rw [normR_len]; exact h)]; rfl
/-- six valid conditions of 64 bits -/
def VR (r : Ru) : Prop := r.length = 6 ∧ ∀ i, (r.getD i K.zero).ok ∧ validK (r.getD i K.zero) = true
theorem NR.vr {r : Ru} (h : NR r) : VR r := ⟨h.1, fun i => ⟨(h.2 i).ok, (h.2 i).valid⟩⟩
theorem normR_NR {r : Ru} (h : VR r) : NR (normR r) := by
  refine ⟨normR_len r, fun i => ?_⟩
  by_cases hi : i < 6
  · rw [normR_getD r hi]; exact normK_normal (h.2 i).1 (h.2 i).2
  · rw [normR_getD_hi r (by omega)]; exact normal_zero
theorem normR_holds {r : Ru} (h : VR r) {A : Nat → Nat} (hA : A64 A) : holdsR (normR r) A ↔ holdsR r A := by
  constructor
  · intro h1 i hi
    have := h1 i hi
    rw [normR_getD r hi, normK_holds (h.2 i).1 (h.2 i).2 (hA i)] at this; exact this
  · intro h1 i hi
    rw [normR_getD r hi, normK_holds (h.2 i).1 (h.2 i).2 (hA i)]; exact h1 i hi
theorem normR_same {r : Ru} (h : NR r) : normR r = r := by
  apply List.ext_getElem
  · rw [normR_len, h.1]
  · intro i h1 h2
    have h6 : i < 6 := by rw [normR_len] at h1; exact h1
    have e := normR_getD r h6
    rw [(h.2 i).norm, List.getD_eq_getElem?_getD, List.getElem?_eq_getElem h1, List.getD_eq_getElem?_getD, List.getElem?_eq_getElem h2] at e
    exact e

theorem NoW.nodup {m : List Ru} (h : NoW m) (hm : NRs m) : m.Nodup := by
  rw [List.nodup_iff_pairwise_ne, List.pairwise_iff_getElem]
  intro i j hi hj hij e
  have h1 := h i hi j hj (by omega)
  have ei : at' m i = m[i] := by rw [at', List.getD_eq_getElem?_getD, List.getElem?_eq_getElem hi]; rfl
  have ej : at' m j = m[j] := by rw [at', List.getD_eq_getElem?_getD, List.getElem?_eq_getElem hj]; rfl
  rw [ei, ej, ← e] at h1
  rw [withinR_self (hm _ (List.getElem_mem hi))] at h1
  exact absurd h1 (by decide)
/-- by members: no two different ones within each other or joining -/
theorem stuck_mem {m : List Ru} (hm : NRs m) : Stuck m ↔ (m.Nodup ∧ (∀ a ∈ m, ∀ b ∈ m, a ≠ b → withinR a b = false) ∧ (∀ a ∈ m, ∀ b ∈ m, a ≠ b → NoJoin a b)) := by
  constructor
  · intro h
    refine ⟨h.1.nodup hm, fun a ha b hb hne => ?_, fun a ha b hb hne => ?_⟩
    · obtain ⟨i, hi, rfl⟩ := mem_at ha
      obtain ⟨j, hj, rfl⟩ := mem_at hb
      exact h.1 i hi j hj (fun e => hne (by rw [e]))
    · obtain ⟨i, hi, rfl⟩ := mem_at ha
      obtain ⟨j, hj, rfl⟩ := mem_at hb
      rcases Nat.lt_trichotomy i j with g | g | g
      · exact h.2 i hi j g hj
      · subst g; exact absurd rfl hne
      · exact (h.2 j hj i g hi).symm
  · rintro ⟨h1, h2, h3⟩
    have hd : ∀ p q, p < m.length → q < m.length → p ≠ q → at' m p ≠ at' m q := by
      intro p q hp hq hne e
      have ep : at' m p = m[p] := by rw [at', List.getD_eq_getElem?_getD, List.getElem?_eq_getElem hp]; rfl
      have eq : at' m q = m[q] := by rw [at', List.getD_eq_getElem?_getD, List.getElem?_eq_getElem hq]; rfl
      rw [ep, eq] at e
      rw [List.nodup_iff_pairwise_ne, List.pairwise_iff_getElem] at h1
      rcases Nat.lt_or_gt_of_ne hne with g | g
      · exact h1 p q hp hq g e
      · exact h1 q p hq hp g e.symm
    refine ⟨fun p hp q hq hne => h2 _ (at_mem hp) _ (at_mem hq) (hd p q hp hq hne), fun p hp q hpq hq => h3 _ (at_mem hp) _ (at_mem hq) (hd p q hp hq (by omega))⟩

structure SmallFacts (rules out : List Ru) : Prop where
  nr : NRs out
  len : out.length ≤ rules.length
  ne : rules ≠ [] → out ≠ []
  allows : ∀ A, A64 A → (allowsR out A ↔ allowsR rules A)
  asc : AscG ordR out
  stuck : Stuck out

theorem IsSmall.facts {rules out : List Ru} (hr : ∀ r ∈ rules, VR r) (h : IsSmall rules out) : SmallFacts rules out := by
  obtain ⟨l, m, h1, h2, h3⟩ := h
  have hl : NRs l := fun r hr' => by
    have := (h1.2 r).1 hr'
    simp only [List.mem_map] at this
    obtain ⟨a, ha, rfl⟩ := this
    exact normR_NR (hr a ha)
  obtain ⟨k1, k2, k3, k4⟩ := h2.keeps hl
  have ho : NRs out := fun r hr' => k1 r ((h3.2 r).1 hr')
  have st := (stuck_mem k1).1 h2.stuck
  have lo : out.length ≤ m.length := nodup_len (ascG_nodup linR h3.1) fun c hc => (h3.2 c).1 hc
  have ll : l.length ≤ rules.length := by
    have := nodup_len (ascG_nodup linR h1.1) fun c hc => (h1.2 c).1 hc
    simpa using this
  refine ⟨ho, by omega, fun hne e => ?_, fun A hA => ?_, h3.1, (stuck_mem ho).2 ⟨ascG_nodup linR h3.1, fun a ha b hb => st.2.1 a ((h3.2 a).1 ha) b ((h3.2 b).1 hb), fun a ha b hb => st.2.2 a ((h3.2 a).1 ha) b ((h3.2 b).1 hb)⟩⟩
  · cases rules with
    | nil => exact hne rfl
    | cons a t =>
      have hl0 : l ≠ [] := fun e => by
        have := (h1.2 (normR a)).2 (by simp)
        rw [e] at this; simp at this
      have hm0 := k3 hl0
      cases m with
      | nil => exact hm0 rfl
      | cons b s =>
        have := (h3.2 b).2 (by simp)
        rw [e] at this; simp at this
  · have e1 : allowsR out A ↔ allowsR m A := by
      constructor
      · rintro ⟨r, hr', h⟩; exact ⟨r, (h3.2 r).1 hr', h⟩
      · rintro ⟨r, hr', h⟩; exact ⟨r, (h3.2 r).2 hr', h⟩
    have e2 : allowsR l A ↔ allowsR rules A := by
      constructor
      · rintro ⟨r, hr', h⟩
        have := (h1.2 r).1 hr'
        simp only [List.mem_map] at this
        obtain ⟨a, ha, rfl⟩ := this
        exact ⟨a, ha, (normR_holds (hr a ha) hA).1 h⟩
      · rintro ⟨r, hr', h⟩
        exact ⟨normR r, (h1.2 _).2 (List.mem_map.2 ⟨r, hr', rfl⟩), (normR_holds (hr r hr') hA).2 h⟩
    exact e1.trans ((k4 A hA).trans e2)
/-- once more: the same -/
theorem SmallFacts.again {rules out : List Ru} (h : SmallFacts rules out) : IsSmall out out := by
  refine ⟨out, out, ⟨h.asc, fun c => ?_⟩, .done h.stuck, distG_self h.asc⟩
  simp only [List.mem_map]
  constructor
  · intro hc; exact ⟨c, hc, normR_same (h.nr c hc)⟩
  · rintro ⟨a, ha, rfl⟩; rw [normR_same (h.nr a ha)]; exact ha
end Go.Proofs.YtioabdfddjmabaaGreat
namespace Go.Proofs.YtioabdfddjmabaaGreat
open Go.Shelf Go.RowKit Go.Lib Go.Sort
set_option linter.unusedVariables false

/-- memory is made and order drawn: nothing else -/
def LB (w w' : World) : Prop := Below w.heap.size w w' ∧ w.drawn ≤ w'.drawn
theorem LB.refl (w : World) : LB w w := ⟨Below.refl _ _, Nat.le_refl _⟩
theorem LB.trans {a b c : World} (h : LB a b) (h' : LB b c) : LB a c := ⟨h.1.trans (h'.1.mono h.1.size), Nat.le_trans h.2 h'.2⟩
theorem LB.alloc {a b : World} (h : LB a b) (o : Obj) : LB a (b.alloc o) := ⟨h.1.alloc h.1.size o, h.2⟩
theorem LB.drew {a b : World} (h : LB a b) : LB a b.drew := ⟨h.1.drew, Nat.le_succ_of_le h.2⟩
theorem LB.drewN {a b : World} (h : LB a b) (n : Nat) : LB a (b.drewN n) := ⟨below_drewN h.1 n, Nat.le_add_right_of_le h.2⟩
theorem drawn_setCell (w : World) (p : Addr) (v : Value) : (w.setCell p v).drawn = w.drawn := by
  unfold World.setCell; (first | rfl | (split <;> rfl) | (split <;> (try split) <;> rfl))
theorem LB.setCell {a b : World} (h : LB a b) {p : Addr} (hp : a.heap.size ≤ p.block) (v : Value) : LB a (b.setCell p v) := ⟨h.1.setCell hp v, by rw [drawn_setCell]; exact h.2⟩
theorem LB.lays {w w' : World} (h : LB w w') : ∃ q os, w' = grow (w.drewN q) os := by
  obtain ⟨⟨h1, h2, h3, h4, h5⟩, h6⟩ := h
  refine ⟨w'.drawn - w.drawn, w'.heap.extract w.heap.size w'.heap.size, ?_⟩
  obtain ⟨heap, tape, drawn, os, output⟩ := w
  obtain ⟨heap', tape', drawn', os', output'⟩ := w'
  simp only at h1 h2 h3 h4 h5 h6
  subst h1; subst h2; subst h3
  simp only [grow, World.drewN, World.mk.injEq, true_and, and_true]
  refine ⟨?_, by omega⟩
  apply Array.ext_getElem?
  intro i
  by_cases hi : i < heap.size
  · rw [Array.getElem?_append_left hi]; exact h5 i hi
  · rw [Array.getElem?_append_right (by omega)]
    by_cases h2 : i < heap'.size
    · rw [Array.getElem?_extract]
      simp only [Nat.min_self]
      rw [if_pos (by omega)]
      congr 1; omega
    · rw [Array.getElem?_eq_none (by omega), Array.getElem?_eq_none (by simp; omega)]
theorem lays_LB {w w' : World} {q : Nat} {os : Array Obj} (h : w' = grow (w.drewN q) os) : LB w w' := by
  subst h
  refine ⟨⟨rfl, rfl, rfl, by simp [grow, World.drewN], fun k hk => ?_⟩, by simp [grow, World.drewN]⟩
  simp only [grow, World.drewN]
  rw [Array.getElem?_append_left hk]

set_option maxRecDepth 100000 in
set_option maxHeartbeats 1000000 in
theorem conMask_lb (a b : Nat) (w : World) :
    Calls Tryz.prog 160 #[.agg #[.int .u64 (a : Int), .int .u64 (b : Int)]] w fun e w' => e = .returned (conV ⟨1, a, b⟩) ∧ LB w w' := by
  go_enter Tryz.func160, Tryz.ntmps160
  go_wp2
  refine bodyPost_ret (v := conV ⟨1, a, b⟩) (by simp [results, Tryz.results160, go_sem]) rfl ⟨rfl, ?_⟩
  exact ((LB.refl _).alloc _).alloc _
set_option maxRecDepth 100000 in
set_option maxHeartbeats 1000000 in
theorem conRange_lb (a b : Nat) (w : World) :
    Calls Tryz.prog 165 #[.agg #[.int .u64 (a : Int), .int .u64 (b : Int)]] w fun e w' => e = .returned (conV ⟨2, a, b⟩) ∧ LB w w' := by
  go_enter Tryz.func165, Tryz.ntmps165
  go_wp2
  refine bodyPost_ret (v := conV ⟨2, a, b⟩) (by simp [results, Tryz.results165, go_sem]) rfl ⟨rfl, ?_⟩
  exact ((LB.refl _).alloc _).alloc _
set_option maxRecDepth 100000 in
set_option maxHeartbeats 1000000 in
theorem conAny_lb (w : World) :
    Calls Tryz.prog 155 #[.agg #[]] w fun e w' => e = .returned (conV ⟨0, 0, 0⟩) ∧ LB w w' := by
  go_enter Tryz.func155, Tryz.ntmps155
  go_wp2
  refine bodyPost_ret (v := conV ⟨0, 0, 0⟩) (by simp [results, Tryz.results155, go_sem]) rfl ⟨rfl, ?_⟩
  exact ((LB.refl _).alloc _).alloc _

/-- the method 'con' through the interface, in whatever region -/
def MethC (c : K) : Prop := ∃ T P F, setV c = .iface T P ∧ (∀ w, (method 307 T P "loop.example/s0039/impl.con").run Tryz.prog w = .ok (F, P) w) ∧ (∀ (xs : Array Value) (w : World), (callFunc F xs).run Tryz.prog w = .ok (.enter F xs) w) ∧ (∀ w, (nilAhead 307 T P "loop.example/s0039/impl.con").run Tryz.prog w = .ok (some false) w) ∧
  ∀ w, Calls Tryz.prog F #[P] w fun e w' => e = .returned (conV c) ∧ LB w w'
theorem methC {c : K} (h : Normal c) : MethC c := by
  rcases h with rfl | ⟨a, b, rfl, _⟩ | ⟨a, b, rfl, _⟩
  · exact ⟨_, _, 155, rfl, fun _ => by kernel_rfl, fun _ _ => by kernel_rfl, fun _ => by kernel_rfl, conAny_lb⟩
  · exact ⟨_, _, 160, rfl, fun _ => by kernel_rfl, fun _ _ => by kernel_rfl, fun _ => by kernel_rfl, conMask_lb a b⟩
  · exact ⟨_, _, 165, rfl, fun _ => by kernel_rfl, fun _ _ => by kernel_rfl, fun _ => by kernel_rfl, conRange_lb a b⟩

theorem isNaNi_any (x : Int) (w : World) : Calls Tryz.prog 121 #[.int .i64 x] w fun e w' => e = .returned (.bool false) ∧ w' = w := by
  go_enter Tryz.func121, Tryz.ntmps121
  go_wp2
  go_ret
  exact ⟨rfl, rfl⟩
set_option maxRecDepth 100000 in
set_option maxHeartbeats 1000000 in
theorem cmpI_any (x y : Int) (w : World) : Calls Tryz.prog 99 #[.int .i64 x, .int .i64 y] w fun e w' => e = .returned (.int .i64 (ordI x y)) ∧ w' = w := by
  rcases Int.lt_trichotomy x y with h | h | h
  · rw [ordI_neg h]
    go_enter Tryz.func99, Tryz.ntmps99
    go_wp2_with (go_at_call 121; refine (isNaNi_any _ _).mono ?_; rintro e w' ⟨rfl, rfl⟩)
    go_ret
    exact ⟨rfl, rfl⟩
  · rw [ordI_same h]
    subst h
    go_enter Tryz.func99, Tryz.ntmps99
    go_wp2_with (go_at_call 121; refine (isNaNi_any _ _).mono ?_; rintro e w' ⟨rfl, rfl⟩)
    go_ret
    exact ⟨rfl, rfl⟩
  · rw [ordI_pos h]
    go_enter Tryz.func99, Tryz.ntmps99
    go_wp2_with (go_at_call 121; refine (isNaNi_any _ _).mono ?_; rintro e w' ⟨rfl, rfl⟩)
    go_ret
    exact ⟨rfl, rfl⟩

theorem or3_then (x y z : Int) : or3 x y z = thenO x (thenO y z) := by
  unfold or3 thenO
  by_cases h : x = 0
  · rw [if_neg (by simpa using h), if_pos h]
    by_cases h2 : y = 0
    · rw [if_neg (by simpa using h2), if_pos h2]
    · rw [if_pos h2, if_neg h2]
  · rw [if_pos h, if_neg h]
theorem natU {a : Nat} (h : a < 18446744073709551616) : isU64 (a : Int) := by unfold isU64; omega

set_option maxRecDepth 100000 in
set_option maxHeartbeats 1000000 in
theorem compareCons_any (c d : K) (w : World) (hc : c.ok) (hd : d.ok) :
    Calls Tryz.prog 75 #[conV c, conV d] w fun e w' => e = .returned (.int .i64 (ordK c d)) ∧ LB w w' := by
  have e : ordK c d = or3 (ordI c.kind d.kind) (ordI c.a d.a) (ordI c.b d.b) := (or3_then _ _ _).symm
  rw [e]
  clear e
  have HI : Hid (∀ w1 p q, Calls Tryz.prog 99 #[.int .i64 p, .int .i64 q] w1 fun e w' => e = .returned (.int .i64 (ordI p q)) ∧ w' = w1) := fun w1 p q => cmpI_any p q w1
  have HA : Hid (∀ w1 p q, isU64 p → isU64 q → Calls Tryz.prog 100 #[.int .u64 p, .int .u64 q] w1 fun e w' => e = .returned (.int .i64 (ordI p q)) ∧ w' = w1) := fun w1 p q h1 h2 => cmp64_any p q w1 h1 h2
  have u1 := natU hc.2.1
  have u2 := natU hc.2.2
  have u3 := natU hd.2.1
  have u4 := natU hd.2.2
  clear hc hd
  obtain ⟨ck, ca, cb⟩ := c
  obtain ⟨dk, da, db⟩ := d
  simp only [conV] at *
  obtain ⟨x, hx⟩ : ∃ x, ordI ck dk = x := ⟨_, rfl⟩
  obtain ⟨y, hy⟩ : ∃ y, ordI (ca : Int) (da : Int) = y := ⟨_, rfl⟩
  obtain ⟨z, hz⟩ : ∃ z, ordI (cb : Int) (db : Int) = z := ⟨_, rfl⟩
  have HX : Hid (ordI ck dk = x) := hx
  have HY : Hid (ordI (ca : Int) (da : Int) = y) := hy
  have HZ : Hid (ordI (cb : Int) (db : Int) = z) := hz
  clear hx hy hz
  rw [HX.out, HY.out, HZ.out]
  generalize (ca : Int) = a at *
  generalize (cb : Int) = b at *
  generalize (da : Int) = a' at *
  generalize (db : Int) = b' at *
  go_enter Tryz.func75, Tryz.ntmps75
  go_wp2_with fail
  have X := (BoxK.new w 41 (.int .i64 ck) (.int .u64 a) (.int .u64 b)).alloc (.cells #[.int .i64 dk, .int .u64 a', .int .u64 b'] 41)
  have Y := BoxK.new (w.alloc (.cells #[.int .i64 ck, .int .u64 a, .int .u64 b] 41)) 41 (.int .i64 dk) (.int .u64 a') (.int .u64 b')
  have hsz : (w.alloc (.cells #[.int .i64 ck, .int .u64 a, .int .u64 b] 41)).heap.size = w.heap.size + 1 := by simp
  rw [hsz] at Y
  have HG : Hid (∀ o, LB w (((w.alloc (.cells #[.int .i64 ck, .int .u64 a, .int .u64 b] 41)).alloc (.cells #[.int .i64 dk, .int .u64 a', .int .u64 b'] 41)).alloc o).drew) := fun o => ((((LB.refl w).alloc _).alloc _).alloc o).drew
  generalize (w.alloc (.cells #[.int .i64 ck, .int .u64 a, .int .u64 b] 41)).alloc (.cells #[.int .i64 dk, .int .u64 a', .int .u64 b'] 41) = W at *
  clear hsz
  obtain ⟨_, x0, x1, x2, _, _, _⟩ := X
  obtain ⟨_, y0, y1, y2, _, _, _⟩ := Y
  have HOr : Hid (∀ w1 : World, Calls Tryz.prog 67 #[.slice (some ⟨w1.heap.size, 0, none⟩) 3 3] (w1.alloc (.cells #[.int .i64 (ordI ck dk), .int .i64 (ordI a a'), .int .i64 (ordI b b')] 3)).drew fun e w' => e = .returned (.int .i64 (or3 x y z)) ∧ w' = (w1.alloc (.cells #[.int .i64 (ordI ck dk), .int .i64 (ordI a a'), .int .i64 (ordI b b')] 3)).drew) := by
    intro w1
    rw [← HX.out, ← HY.out, ← HZ.out]
    refine cmpOr_any w1.heap.size _ _ _ _ (fun j hj => ?_)
    have : j = 0 ∨ j = 1 ∨ j = 2 := by omega
    rcases this with rfl | rfl | rfl <;> simp [get3]
  go_region_held3 (fun w' => w'.cell? ⟨w.heap.size, 0, none⟩ = some (.int .i64 ck) ∧ w'.cell? ⟨w.heap.size, 1, none⟩ = some (.int .u64 a) ∧ w'.cell? ⟨w.heap.size, 2, none⟩ = some (.int .u64 b) ∧ w'.cell? ⟨w.heap.size + 1, 0, none⟩ = some (.int .i64 dk) ∧ w'.cell? ⟨w.heap.size + 1, 1, none⟩ = some (.int .u64 a') ∧ w'.cell? ⟨w.heap.size + 1, 2, none⟩ = some (.int .u64 b'))
    (refine ⟨?_, ?_, ?_, ?_, ?_, ?_⟩ <;> first | assumption | exact cell_alloc_some _ (by assumption) | (simp [*]; done))
    (first
      | (go_at_call 99; refine (HI.out _ _ _).mono ?_; rintro e w' ⟨rfl, rfl⟩)
      | (go_at_call 100; refine (HA.out _ _ _ (by assumption) (by assumption)).mono ?_; rintro e w' ⟨rfl, rfl⟩)
      | (go_at_call 67; refine (HOr.out _).mono ?_; rintro e w' ⟨rfl, rfl⟩))
  have B1 := HG.out (.cells #[.int .i64 (ordI ck dk), .int .i64 (ordI a a'), .int .i64 (ordI b b')] 3)
  clear HG
  go_wp2
  go_ret
  exact ⟨rfl, B1⟩

/-! rules -/
def encR (r : Ru) : List Value := [setV (r.getD 0 K.zero), setV (r.getD 1 K.zero), setV (r.getD 2 K.zero), setV (r.getD 3 K.zero), setV (r.getD 4 K.zero), setV (r.getD 5 K.zero)]
theorem encR_at (r : Ru) {i : Nat} (h : i < 6) : (encR r)[i]? = some (setV (r.getD i K.zero)) := by
  have : i = 0 ∨ i = 1 ∨ i = 2 ∨ i = 3 ∨ i = 4 ∨ i = 5 := by omega
  rcases this with rfl | rfl | rfl | rfl | rfl | rfl <;> rfl
theorem lexO_at {α : Type} (d : α) {ord : α → α → Int} : ∀ (a b : List α) (k : Nat), a.length = b.length → k < a.length → (∀ j, j < k → ord (a.getD j d) (b.getD j d) = 0) → ord (a.getD k d) (b.getD k d) ≠ 0 → lexO ord a b = ord (a.getD k d) (b.getD k d)
  | [], _, k, _, h, _, _ => by simp at h
  | a :: r, [], k, h, _, _, _ => by simp at h
  | a :: r, b :: s, 0, h, _, _, h1 => by
    simp at h1 ⊢
    rw [lexO, if_neg h1]
  | a :: r, b :: s, k + 1, h, hk, h0, h1 => by
    have z := h0 0 (by omega)
    simp at z
    rw [lexO, if_pos z]
    have := lexO_at d r s k (by simpa using h) (by simpa using hk) (fun j hj => by have := h0 (j + 1) (by omega); simpa using this) (by simpa using h1)
    simpa using this
theorem lexO_all {α : Type} (d : α) {ord : α → α → Int} : ∀ (a b : List α), a.length = b.length → (∀ j, j < a.length → ord (a.getD j d) (b.getD j d) = 0) → lexO ord a b = 0
  | [], [], _, _ => rfl
  | [], _ :: _, h, _ => by simp at h
  | a :: r, [], h, _ => by simp at h
  | a :: r, b :: s, h, h0 => by
    have z := h0 0 (by simp)
    simp at z
    rw [lexO, if_pos z]
    exact lexO_all d r s (by simpa using h) (fun j hj => by have := h0 (j + 1) (by simpa using hj); simpa using this)

set_option maxRecDepth 100000 in
set_option maxHeartbeats 2000000 in
theorem compareRules_any (a b : Ru) (w : World) (ha : NR a) (hb : NR b) :
    Calls Tryz.prog 45 #[.agg (encR a).toArray, .agg (encR b).toArray] w fun e w' => e = .returned (.int .i64 (ordR a b)) ∧ LB w w' := by
  have HL : Hid (∀ k, k < 6 → (∀ j, j < k → ordK (a.getD j K.zero) (b.getD j K.zero) = 0) → ordK (a.getD k K.zero) (b.getD k K.zero) ≠ 0 → ordR a b = ordK (a.getD k K.zero) (b.getD k K.zero)) := fun k hk h0 h1 => lexO_at K.zero a b k (by rw [ha.1, hb.1]) (by rw [ha.1]; exact hk) h0 h1
  have HZ : Hid ((∀ j, j < 6 → ordK (a.getD j K.zero) (b.getD j K.zero) = 0) → ordR a b = 0) := fun h => lexO_all K.zero a b (by rw [ha.1, hb.1]) (by rw [ha.1]; exact h)
  have HM : Hid (∀ k, MethC (a.getD k K.zero) ∧ MethC (b.getD k K.zero)) := fun k => ⟨methC (ha.2 k), methC (hb.2 k)⟩
  have HC : Hid (∀ k w, Calls Tryz.prog 75 #[conV (a.getD k K.zero), conV (b.getD k K.zero)] w fun e w' => e = .returned (.int .i64 (ordK (a.getD k K.zero) (b.getD k K.zero))) ∧ LB w w') := fun k w => compareCons_any _ _ w (ha.2 k).ok (hb.2 k).ok
  clear ha hb
  have B0 : LB w ((w.alloc (.cells (encR a).toArray 82)).alloc (.cells (encR b).toArray 82)) := ((LB.refl w).alloc _).alloc _
  have HX : Hid (∀ wr, LB ((w.alloc (.cells (encR a).toArray 82)).alloc (.cells (encR b).toArray 82)) wr → ∀ k, k < 6 → wr.cell? ⟨w.heap.size, k, none⟩ = some (setV (a.getD k K.zero)) ∧ wr.cell? ⟨w.heap.size + 1, k, none⟩ = some (setV (b.getD k K.zero))) := by
    intro wr h k hk
    have e1 := encR_at a hk
    have e2 := encR_at b hk
    refine ⟨(h.1.cell (p := ⟨w.heap.size, k, none⟩) (by simp; omega)).trans ?_, (h.1.cell (p := ⟨w.heap.size + 1, k, none⟩) (by simp)).trans ?_⟩
    · refine (((Below.refl (w.alloc (.cells (encR a).toArray 82)).heap.size _).alloc (Nat.le_refl _) _).cell (p := ⟨w.heap.size, k, none⟩) (by simp)).trans ?_
      simp [e1]
    · have e : w.heap.size + 1 = (w.alloc (.cells (encR a).toArray 82)).heap.size := by simp
      rw [e]; simp [e2]
  generalize ordR a b = R at *
  have ea : (encR a).toArray = #[setV (a.getD 0 K.zero), setV (a.getD 1 K.zero), setV (a.getD 2 K.zero), setV (a.getD 3 K.zero), setV (a.getD 4 K.zero), setV (a.getD 5 K.zero)] := rfl
  have eb : (encR b).toArray = #[setV (b.getD 0 K.zero), setV (b.getD 1 K.zero), setV (b.getD 2 K.zero), setV (b.getD 3 K.zero), setV (b.getD 4 K.zero), setV (b.getD 5 K.zero)] := rfl
  rw [ea, eb] at HX B0 ⊢
  clear ea eb
  generalize setV (a.getD 0 K.zero) = v0 at B0 HX ⊢
  generalize setV (a.getD 1 K.zero) = v1 at B0 HX ⊢
  generalize setV (a.getD 2 K.zero) = v2 at B0 HX ⊢
  generalize setV (a.getD 3 K.zero) = v3 at B0 HX ⊢
  generalize setV (a.getD 4 K.zero) = v4 at B0 HX ⊢
  generalize setV (a.getD 5 K.zero) = v5 at B0 HX ⊢
  generalize setV (b.getD 0 K.zero) = u0 at B0 HX ⊢
  generalize setV (b.getD 1 K.zero) = u1 at B0 HX ⊢
  generalize setV (b.getD 2 K.zero) = u2 at B0 HX ⊢
  generalize setV (b.getD 3 K.zero) = u3 at B0 HX ⊢
  generalize setV (b.getD 4 K.zero) = u4 at B0 HX ⊢
  generalize setV (b.getD 5 K.zero) = u5 at B0 HX ⊢
  go_enter Tryz.func45, Tryz.ntmps45
  go_wp2_with fail
  generalize (w.alloc (.cells #[v0, v1, v2, v3, v4, v5] 82)).alloc (.cells #[u0, u1, u2, u3, u4, u5] 82) = W at *
  go_loopw [7] (fun i wr => ∃ k : Nat, k ≤ 6 ∧ i = .int .i64 k ∧ Hid (∀ j, j < k → ordK (a.getD j K.zero) (b.getD j K.zero) = 0) ∧ LB W wr) (fun i _ => 6 - (intOf i).toNat)
  case atStart => exact ⟨0, by omega, rfl, fun j hj => by omega, LB.refl W⟩
  case round =>
    obtain ⟨k, hk, rfl, HJ, hLB⟩ := hrel
    rename World => W0
    by_cases hk6 : k < 6
    · obtain ⟨c0, d0⟩ := HX.out W0 hLB k hk6
      obtain ⟨⟨T, P, F, e1, e2, e4, e5, HF⟩, ⟨T', P', F', e1', e2', e4', e5', HF'⟩⟩ := HM.out k
      have HFk : Hid (∀ w, Calls Tryz.prog F #[P] w fun e w' => e = .returned (conV (a.getD k K.zero)) ∧ LB w w') := HF
      have HFk' : Hid (∀ w, Calls Tryz.prog F' #[P'] w fun e w' => e = .returned (conV (b.getD k K.zero)) ∧ LB w w') := HF'
      have HCk : Hid (∀ w, Calls Tryz.prog 75 #[conV (a.getD k K.zero), conV (b.getD k K.zero)] w fun e w' => e = .returned (.int .i64 (ordK (a.getD k K.zero) (b.getD k K.zero))) ∧ LB w w') := HC.out k
      rw [e1] at c0
      rw [e1'] at d0
      have hk6' : (k : Int) < 6 := by omega
      have HL1 : Hid (ordK (a.getD k K.zero) (b.getD k K.zero) ≠ 0 → R = ordK (a.getD k K.zero) (b.getD k K.zero)) := fun h => HL.out k hk6 HJ.out h
      have HJ1 : Hid (ordK (a.getD k K.zero) (b.getD k K.zero) = 0 → ∀ j, j < k + 1 → ordK (a.getD j K.zero) (b.getD j K.zero) = 0) := fun h j hj => by
        by_cases hjk : j = k
        · subst hjk; exact h
        · exact HJ.out j (by omega)
      have SK : Hid (∀ wa wb, LB wa wb → (LB W wa ∧ wa.cell? ⟨w.heap.size, k, none⟩ = some (.iface T P) ∧ wa.cell? ⟨w.heap.size + 1, k, none⟩ = some (.iface T' P')) → (LB W wb ∧ wb.cell? ⟨w.heap.size, k, none⟩ = some (.iface T P) ∧ wb.cell? ⟨w.heap.size + 1, k, none⟩ = some (.iface T' P'))) := fun wa wb hb ⟨s, x, y⟩ => ⟨s.trans hb, cell_step hb.1 x, cell_step hb.1 y⟩
      have hS0 := SK.out W0 W0.drew (LB.refl _).drew ⟨hLB, c0, d0⟩
      clear HF HF' HC HM HX HL HZ HJ e1 e1' c0 d0 hLB
      generalize ordK (a.getD k K.zero) (b.getD k K.zero) = Z at *
      generalize a.getD k K.zero = ca at *
      generalize b.getD k K.zero = cb at *
      obtain ⟨ck, cx, cy⟩ := ca
      obtain ⟨dk, dx, dy⟩ := cb
      simp only [conV] at HFk HFk' HCk
      go_wp2_with fail
      go_region_held3 (fun w' => LB W w' ∧ w'.cell? ⟨w.heap.size, k, none⟩ = some (.iface T P) ∧ w'.cell? ⟨w.heap.size + 1, k, none⟩ = some (.iface T' P'))
        (assumption)
        (first
          | (go_at_call 75; refine (HCk.out _).mono ?_; rintro _ w9 ⟨rfl, hb9⟩; have hS9 := SK.out _ _ hb9 (by assumption))
          | (refine (HFk.out _).mono ?_; rintro _ w8 ⟨rfl, hb8⟩; have hS8 := SK.out _ _ hb8 (by assumption))
          | (refine (HFk'.out _).mono ?_; rintro _ w7 ⟨rfl, hb7⟩; have hS7 := SK.out _ _ hb7 (by assumption)))
      all_goals
        have B1 : LB W w9 := hS9.1
        clear hS9 hb9
        by_cases hZ : Z = 0
        · subst hZ
          have HJ2 : Hid (∀ j, j < k + 1 → ordK (a.getD j K.zero) (b.getD j K.zero) = 0) := HJ1.out rfl
          go_wp2
          go_roundw
          case rel => exact ⟨k + 1, by omega, by go_num, HJ2, B1⟩
          case measure => simp [intOf]; omega
        · have hR : R = Z := HL1.out hZ
          subst hR
          have hZ' : (R != 0) = true := by simpa using hZ
          have hZ2 : (R == 0) = false := by simpa using hZ
          clear hZ HL1 HJ1
          go_wp2
          go_ret
          exact ⟨rfl, B0.trans B1⟩
    · have hk' : k = 6 := by omega
      subst hk'
      have hR : R = 0 := HZ.out HJ.out
      subst hR
      clear HZ HL HM HC HX HJ
      go_wp2
      go_ret
      exact ⟨rfl, B0.trans hLB⟩
end Go.Proofs.YtioabdfddjmabaaGreat
namespace Go.Proofs.YtioabdfddjmabaaGreat
open Go.Shelf Go.RowKit Go.Lib Go.Sort
set_option linter.unusedVariables false

section
variable {α : Type}
def cellsF (enc : α → List Value) (k : Nat) (g : Nat → α) (j : Nat) : Value := (enc (g (j / k))).getD (j % k) undef
theorem cellsF_at {enc : α → List Value} {k : Nat} (g : Nat → α) (i : Nat) {r : Nat} (hr : r < k) : cellsF enc k g (i * k + r) = (enc (g i)).getD r undef := by
  have h1 : (i * k + r) / k = i := by
    rw [Nat.mul_comm, Nat.mul_add_div (by omega), Nat.div_eq_of_lt hr, Nat.add_zero]
  have h2 : (i * k + r) % k = r := by
    rw [Nat.mul_comm, Nat.mul_add_mod, Nat.mod_eq_of_lt hr]
  rw [cellsF, h1, h2]
theorem in_row {i n k r : Nat} (hi : i < n) (hr : r < k) : i * k + r < n * k := by
  have : (i + 1) * k ≤ n * k := Nat.mul_le_mul_right k hi
  rw [Nat.succ_mul] at this; omega

/-- block D is a row of N elements of type t, the first n of which are g's -/
def RowF (t : Nat) (enc : α → List Value) (k : Nat) (w : World) (D N n : Nat) (g : Nat → α) : Prop := n ≤ N ∧ ∃ f, w.rowIs D t (N * k) f ∧ ∀ j, j < n * k → f j = cellsF enc k g j
variable {t k : Nat} {enc : α → List Value}
theorem RowF.lt {w : World} {D N n : Nat} {g : Nat → α} (h : RowF t enc k w D N n g) : D < w.heap.size := by
  obtain ⟨_, f, hr, _⟩ := h; exact hr.lt
theorem RowF.keep {w w1 : World} {D N n : Nat} {g : Nat → α} (h : RowF t enc k w D N n g) (hb : Below w.heap.size w w1) : RowF t enc k w1 D N n g := by
  obtain ⟨hn, f, hr, hf⟩ := h
  exact ⟨hn, f, hr.of_block (hb.block D hr.lt), hf⟩
theorem RowF.cell {w : World} {D N n i r : Nat} {g : Nat → α} (h : RowF t enc k w D N n g) (hi : i < n) (hr : r < k) : w.cell? ⟨D, i * k + r, none⟩ = some ((enc (g i)).getD r undef) := by
  obtain ⟨hn, f, hrow, hf⟩ := h
  rw [hrow.cell (in_row (by omega) hr), hf _ (in_row hi hr), cellsF_at g i hr]
theorem RowF.open {w : World} {D N n : Nat} {g : Nat → α} (h : RowF t enc k w D N n g) (j : Nat) (hj : j < N * k) : ∃ v, w.cell? ⟨D, j, none⟩ = some v ∧ w.frozen? ⟨D, j, none⟩ = false := by
  obtain ⟨hn, f, hr, hf⟩ := h
  exact ⟨_, hr.cell hj, hr.frozen j⟩
theorem row_setCells' {D t n : Nat} : ∀ (vs : List Value) (o : Nat) (w : World) (f : Nat → Value), w.rowIs D t n f → (w.setCells D o vs).rowIs D t n (fun j => if o ≤ j ∧ j < o + vs.length then vs.getD (j - o) undef else f j)
  | [], o, w, f, h => by
    have e : (fun j => if o ≤ j ∧ j < o + ([] : List Value).length then ([] : List Value).getD (j - o) undef else f j) = f := funext fun j => if_neg (by simp)
    rw [e]; exact h
  | v :: r, o, w, f, h => by
    have := row_setCells' r (o + 1) _ _ (h.set o v)
    have e : (fun j => if o ≤ j ∧ j < o + (v :: r).length then (v :: r).getD (j - o) undef else f j) = (fun j => if o + 1 ≤ j ∧ j < o + 1 + r.length then r.getD (j - (o + 1)) undef else if j = o then v else f j) := by
      funext j
      simp only [List.length_cons]
      by_cases h0 : j = o
      · subst h0
        rw [if_pos (by omega), if_neg (by omega), if_pos rfl]
        simp
      · by_cases h1 : o + 1 ≤ j ∧ j < o + 1 + r.length
        · rw [if_pos (by omega), if_pos h1, show j - o = (j - (o + 1)) + 1 by omega]
          simp
        · rw [if_neg (by omega), if_neg h1, if_neg h0]
    rw [e]; exact this
theorem below_setCells' {B D : Nat} {W : World} (hD : B ≤ D) : ∀ (vs : List Value) (o : Nat) (w : World), Below B W w → Below B W (w.setCells D o vs)
  | [], _, _, h => h
  | v :: r, o, w, h => below_setCells' hD r (o + 1) _ (h.setCell (p := ⟨D, o, none⟩) hD v)
theorem RowF.set {w : World} {D N n : Nat} {g : Nat → α} (h : RowF t enc k w D N n g) (i : Nat) (p : α) (hk : (enc p).length = k) (h0 : 0 < k) : RowF t enc k (w.setCells D (i * k) (enc p)) D N n (fun j => if j = i then p else g j) := by
  obtain ⟨hn, f, hr, hf⟩ := h
  refine ⟨hn, _, row_setCells' (enc p) (i * k) w f hr, fun j hj => ?_⟩
  have hj' := hf j hj
  obtain ⟨q, r, hr', rfl⟩ : ∃ q r, r < k ∧ j = q * k + r := ⟨j / k, j % k, Nat.mod_lt _ h0, by rw [Nat.mul_comm]; exact (Nat.div_add_mod j k).symm⟩
  rw [cellsF_at _ q hr']
  rw [cellsF_at _ q hr'] at hj'
  rw [hk]
  by_cases e : q = i
  · subst e
    rw [if_pos (by omega), if_pos rfl]
    congr 1; omega
  · rw [if_neg, if_neg e]
    · exact hj'
    · rintro ⟨h1, h2⟩
      rcases Nat.lt_or_gt_of_ne e with g1 | g1
      · have : (q + 1) * k ≤ i * k := Nat.mul_le_mul_right k g1
        rw [Nat.succ_mul] at this; omega
      · have : (i + 1) * k ≤ q * k := Nat.mul_le_mul_right k g1
        rw [Nat.succ_mul] at this; omega
theorem RowF.less {w : World} {D N n m : Nat} {g : Nat → α} (h : RowF t enc k w D N n g) (hm : m ≤ n) : RowF t enc k w D N m g := by
  obtain ⟨hn, f, hr, hf⟩ := h
  exact ⟨by omega, f, hr, fun j hj => hf j (Nat.lt_of_lt_of_le hj (Nat.mul_le_mul_right k hm))⟩
theorem RowF.clear {w : World} {D N n m : Nat} {g : Nat → α} (h : RowF t enc k w D N n g) (hm : m ≤ n) (vs : List Value) : RowF t enc k (w.setCells D (m * k) vs) D N m g := by
  obtain ⟨hn, f, hr, hf⟩ := h
  refine ⟨by omega, _, row_setCells' vs (m * k) w f hr, fun j hj => ?_⟩
  rw [if_neg (by omega)]
  exact hf j (Nat.lt_of_lt_of_le hj (Nat.mul_le_mul_right k hm))
theorem RowF.congr {w : World} {D N n : Nat} {g g' : Nat → α} (h : RowF t enc k w D N n g) (e : ∀ i, i < n → g i = g' i) : RowF t enc k w D N n g' := by
  obtain ⟨hn, f, hr, hf⟩ := h
  refine ⟨hn, f, hr, fun j hj => ?_⟩
  rw [hf j hj, cellsF, cellsF, e]
  exact Nat.div_lt_of_lt_mul (by rw [Nat.mul_comm]; exact hj)

def lstF (g : Nat → α) (n : Nat) : List α := (List.range n).map g
theorem lstF_len (g : Nat → α) (n : Nat) : (lstF g n).length = n := by simp [lstF]
theorem lstF_get (g : Nat → α) {n i : Nat} (h : i < n) : (lstF g n)[i]'(by rw [lstF_len]; exact h) = g i := by simp [lstF]
theorem lstF_take (g : Nat → α) {n k : Nat} (h : k ≤ n) : (lstF g n).take k = lstF g k := by
  unfold lstF
  rw [← List.map_take, List.take_range, Nat.min_eq_left h]
theorem lstF_succ (g : Nat → α) (n : Nat) : lstF g (n + 1) = lstF g n ++ [g n] := by simp [lstF, List.range_succ]
theorem lstF_congr {g g' : Nat → α} {n : Nat} (h : ∀ i, i < n → g i = g' i) : lstF g n = lstF g' n := by
  unfold lstF
  apply List.map_congr_left
  intro i hi
  rw [h i (by simpa using hi)]
theorem lstF_of (l : List α) (d : α) : lstF (fun i => l.getD i d) l.length = l := by
  apply List.ext_getElem
  · simp [lstF]
  · intro i h1 h2
    simp [lstF, List.getD_eq_getElem?_getD, h2]
variable {ord : α → α → Int}
theorem compF_same (L : Lin ord) (g : Nat → α) {n q : Nat} (h : q + 1 < n) (he : ord (g (q + 1)) (g q) = 0) : compG ord (lstF g n) (q + 2) = compG ord (lstF g n) (q + 1) :=
  compG_same L (by rw [lstF_len]; exact h) (by rw [lstF_get g h, lstF_get g (by omega)]; exact he)
theorem compF_diff (L : Lin ord) (g : Nat → α) {n q : Nat} (h : q + 1 < n) (he : ord (g (q + 1)) (g q) ≠ 0) : compG ord (lstF g n) (q + 2) = compG ord (lstF g n) (q + 1) ++ [g (q + 1)] := by
  rw [compG_diff L (by rw [lstF_len]; exact h) (by rw [lstF_get g h, lstF_get g (by omega)]; exact he), lstF_get g h]
theorem compF_all (L : Lin ord) (g : Nat → α) {n q : Nat} (h : q ≤ n) (hd : ∀ j, 0 < j → j < q → ord (g j) (g (j - 1)) ≠ 0) : compG ord (lstF g n) q = lstF g q := by
  rw [compG_all L (by rw [lstF_len]; exact h) (fun j hj => ?_), lstF_take g h]
  rw [lstF_get g (by omega), lstF_get g (by omega)]
  exact hd (j + 1) (by omega) hj

/-! the sort -/
theorem belowB_step' {B : Nat} {W wa wb : World} (hBW : B ≤ W.heap.size) (hb : Below wa.heap.size wa wb) (h : Below B W wa) : Below B W wb := h.trans (hb.mono (Nat.le_trans hBW h.size))
theorem sw_block' [Inhabited α] (enc : α → List Value) (k : Nat) (w : World) (D off m : Nat) (dk : Array α) (os : Array Obj) {j : Nat} (hj : j < w.heap.size) (hne : j ≠ D) : (sortWorldK enc k w D off m dk os).heap[j]? = w.heap[j]? := by
  unfold sortWorldK putRowK putRow
  rw [heap_grow_old _ _ (by simpa [mapBlock, Sort.ahead] using hj)]
  simp only [mapBlock, Sort.ahead, Array.getElem?_modify]
  rw [if_neg (fun e => hne e.symm)]
theorem sw_row' [Inhabited α] (enc : α → List Value) (k : Nat) {w : World} {D m t n : Nat} {f : Nat → Value} (dk : Array α) (os : Array Obj) (h : w.rowIs D t n f) : (sortWorldK enc k w D 0 m dk os).rowIs D t n (fun j => if j < dk.size * k then (flatK enc k dk)[j]! else f j) := by
  have hlt := h.lt
  obtain ⟨c, hc, hs, hv⟩ := h
  refine ⟨putCells id 0 (flatK enc k dk) c, ?_, by simpa [putCells] using hs, fun i hi => ?_⟩
  · unfold sortWorldK putRowK putRow
    rw [heap_grow_old _ _ (by simpa [mapBlock, Sort.ahead] using hlt)]
    simp only [mapBlock, Sort.ahead, Array.getElem?_modify, if_true, hc, Option.map_some, onCells]
  · simp only [putCells, Array.getElem?_mapIdx, hv i hi, Option.map_some, Nat.zero_le, true_and, Nat.zero_add, size_flatK, Nat.sub_zero, id]
theorem sw_below' [Inhabited α] (enc : α → List Value) (k : Nat) {B : Nat} {W w : World} {D m : Nat} (dk : Array α) (os : Array Obj) (hb : Below B W w) (hD : B ≤ D) (hBw : B ≤ w.heap.size) : Below B W (sortWorldK enc k w D 0 m dk os) :=
  hb.trans ⟨rfl, rfl, rfl, by simp only [sortWorldK, putRowK, size_grow, size_putRow]; exact Nat.le_add_right _ _, fun j hj => sw_block' enc k w D 0 m dk os (by omega) (by omega)⟩
theorem swo_of (L : Lin ord) : SWO (ltOf ord) where
  irrefl := fun x => by simp [ltOf, L.self]
  trans := fun x y z h h' => decide_eq_true (L.trans _ _ _ (of_decide_eq_true h) (of_decide_eq_true h'))
  ntrans := fun x y z h h' => by
    have h1 : ¬ ord x y < 0 := of_decide_eq_false h
    have h2 : ¬ ord y z < 0 := of_decide_eq_false h'
    refine decide_eq_false (show ¬ ord x z < 0 from ?_)
    have e1 := L.anti x y
    have e2 := L.anti y z
    have e3 := L.anti x z
    have := L.le_trans (a := z) (b := y) (c := x) (by omega) (by omega)
    omega

/-- what the library's sort leaves of a row -/
theorem sort_of [Inhabited α] {P : Program} {F : Nat} {fv : Value} (L : Lin ord) (hlen : ∀ x, (enc x).length = k) (h0 : 0 < k) (B D N n cap : Nat) (g : Nat → α) (W w : World) (hBW : B ≤ W.heap.size) (hb : Below B W w) (hD : B ≤ D) (hr : RowF t enc k w D N n g)
    (HS : ∀ d : Array α, d.size = n → HoldsK enc k w D 0 d → D < w.heap.size → Calls P F #[.slice (some ⟨D, 0, none⟩) d.size cap, fv] w fun e w' => e = .returned (.tuple #[]) ∧ ∃ d' m os, PermIn 0 d.size d d' ∧ SortedIn (ltOf ord) 0 d.size d' ∧ w' = sortWorldK enc k w D 0 m d' os) :
    Calls P F #[.slice (some ⟨D, 0, none⟩) n cap, fv] w fun e w' => e = .returned (.tuple #[]) ∧
      ∃ g', RowF t enc k w' D N n g' ∧ (∀ c, c ∈ lstF g' n ↔ c ∈ lstF g n) ∧ (lstF g' n).Pairwise (fun a b => ord a b ≤ 0) ∧ Below B W w' := by
  have hBw : B ≤ w.heap.size := Nat.le_trans hBW hb.size
  obtain ⟨d, hd⟩ : ∃ d : Array α, d = (lstF g n).toArray := ⟨_, rfl⟩
  have hds : d.size = n := by rw [hd]; simp [lstF]
  have hdi : ∀ i, i < n → d[i]! = g i := by intro i hi; rw [hd]; simp [lstF, hi]
  have flat : ∀ (x : Array α) (q : Nat → α), x.size = n → (∀ i, i < n → x[i]! = q i) → ∀ j, j < n * k → (flatK enc k x)[j]! = cellsF enc k q j := by
    intro x q hx hq j hj
    have hjk : j / k < n := Nat.div_lt_of_lt_mul (by rw [Nat.mul_comm]; exact hj)
    rw [get_flatK _ _ _ _ (by rw [hx]; exact hj), cellsF, hq _ hjk]
    have hm : j % k < (enc (q (j / k))).length := by rw [hlen]; exact Nat.mod_lt _ h0
    simp [List.getD_eq_getElem?_getD, hm]
  have hH : HoldsK enc k w D 0 d := by
    obtain ⟨hnN, f0, hrow, hf0⟩ := hr
    intro j hj
    rw [size_flatK, hds] at hj
    rw [Nat.zero_add, hrow.cell (Nat.lt_of_lt_of_le hj (Nat.mul_le_mul_right k hnN)), hf0 j hj, flat d g hds hdi j hj]
    exact ⟨rfl, hrow.frozen j⟩
  have hS := HS d hds hH hr.lt
  rw [hds] at hS
  refine hS.mono ?_
  rintro e w' ⟨rfl, d', n', os, hp, hs, rfl⟩
  obtain ⟨p1, p2, p3⟩ := hp
  rw [hds] at p1
  have ex : ∀ (x : Array α), x.size = n → x.extract 0 n = x := fun x hx => by rw [← hx]; exact Array.extract_size
  rw [ex d' p1, ex d hds] at p3
  have el : ∀ (x : Array α), x.size = n → lstF (fun i => x[i]!) n = x.toList := by
    intro x hx
    apply List.ext_getElem
    · simp [lstF, hx]
    · intro i h1 h2
      rw [lstF_len] at h1
      simp [lstF, show i < x.size by omega]
  refine ⟨rfl, fun i => d'[i]!, ?_, ?_, ?_, sw_below' enc k d' os hb hD hBw⟩
  · obtain ⟨hnN, f0, hrow, hf0⟩ := hr
    refine ⟨hnN, _, sw_row' enc k d' os hrow, fun j hj => ?_⟩
    rw [if_pos (by rw [p1]; exact hj)]
    exact flat d' _ p1 (fun i hi => rfl) j hj
  · intro c
    rw [el d' p1, p3.mem_iff, hd]
  · rw [List.pairwise_iff_getElem]
    intro i j hi hj hij
    rw [lstF_len] at hi hj
    have h1 := hs i j (Nat.zero_le _) hij hj
    have h2 : ¬ ord d'[j]! d'[i]! < 0 := of_decide_eq_false h1
    have e := L.anti d'[i]! d'[j]!
    rw [lstF_get _ hi, lstF_get _ hj]
    omega
/-! rows that came of an append -/
theorem flat_len (hlen : ∀ x, (enc x).length = k) (g : Nat → α) : ∀ n, ((lstF g n).flatMap enc).length = n * k
  | 0 => by simp [lstF]
  | n + 1 => by rw [lstF_succ, List.flatMap_append, List.length_append, flat_len hlen g n]; simp [hlen, Nat.succ_mul]
theorem flat_get (hlen : ∀ x, (enc x).length = k) (g : Nat → α) : ∀ n j, j < n * k → ((lstF g n).flatMap enc)[j]? = some (cellsF enc k g j)
  | 0, j, h => by simp at h
  | n + 1, j, h => by
    rw [lstF_succ, List.flatMap_append]
    by_cases hj : j < n * k
    · rw [List.getElem?_append_left (by rw [flat_len hlen]; exact hj)]
      exact flat_get hlen g n j hj
    · rw [List.getElem?_append_right (by rw [flat_len hlen]; omega), flat_len hlen]
      obtain ⟨r, rfl⟩ : ∃ r, j = n * k + r := ⟨j - n * k, by omega⟩
      have hr : r < k := by rw [Nat.succ_mul] at h; omega
      rw [cellsF_at g n hr, show n * k + r - n * k = r by omega]
      have : r < (enc (g n)).length := by rw [hlen]; exact hr
      simp [List.getD_eq_getElem?_getD, this]
theorem own_rowF (hlen : ∀ x, (enc x).length = k) {w : World} {base n : Nat} {v : Value} {g : Nat → α} (h0 : 0 < n) (h : w.ownsRow base t k v n ((lstF g n).flatMap enc)) : ∃ D N, v = .slice (some ⟨D, 0, none⟩) n N ∧ base ≤ D ∧ n ≤ N ∧ RowF t enc k w D N n g := by
  obtain ⟨_, h | ⟨D, cap, cur, rfl, hb, hgc, hn, hm, hs, hx⟩⟩ := h
  · omega
  · refine ⟨D, cap, rfl, hb, hn, hn, fun j => cur.getD j undef, ⟨cur, hgc, hs, fun i hi => by simp [hs, hi]⟩, fun j hj => ?_⟩
    have hu := flat_get hlen g n j hj
    rw [← hx, List.getElem?_take, if_pos hj, Array.getElem?_toList] at hu
    simp [Array.getD_eq_getD_getElem?, hu]
/-- n elements of g's from place o of block b on -/
def SrcF (enc : α → List Value) (k : Nat) (w : World) (b o : Nat) (n : Nat) (g : Nat → α) : Prop := b < w.heap.size ∧ ∀ j, j < n * k → w.cell? ⟨b, o + j, none⟩ = some (cellsF enc k g j)
theorem SrcF.below {w w1 : World} {b o : Nat} {n : Nat} {g : Nat → α} (h : SrcF enc k w b o n g) (hb : Below w.heap.size w w1) : SrcF enc k w1 b o n g :=
  ⟨Nat.lt_of_lt_of_le h.1 hb.size, fun j hj => (hb.cell (p := ⟨b, o + j, none⟩) h.1).trans (h.2 j hj)⟩
theorem RowF.src {w : World} {D N n : Nat} {g : Nat → α} (h : RowF t enc k w D N n g) : SrcF enc k w D 0 n g := by
  refine ⟨h.lt, fun j hj => ?_⟩
  obtain ⟨hn, f, hr, hf⟩ := h
  rw [Nat.zero_add, hr.cell (Nat.lt_of_lt_of_le hj (Nat.mul_le_mul_right k hn)), hf j hj]
theorem compG_sub {ord : α → α → Int} (l : List α) : ∀ q, q ≤ l.length → ∀ c ∈ compG ord l q, c ∈ l
  | 0, _, c, h => by simp [compG_zero] at h
  | q + 1, hq, c, h => by
    rw [compG_succ (by omega), pushG] at h
    split at h
    · exact compG_sub l q (by omega) c h
    · simp only [List.mem_append, List.mem_singleton] at h
      rcases h with h | rfl
      · exact compG_sub l q (by omega) c h
      · exact List.getElem_mem _
/-- a value that holds m elements of g's, in a row behind B -/
def OnceF (t : Nat) (enc : α → List Value) (k : Nat) (w : World) (B : Nat) (v : Value) (m : Nat) (g : Nat → α) : Prop := ∃ D N, v = .slice (some ⟨D, 0, none⟩) m N ∧ B ≤ D ∧ m ≤ N ∧ RowF t enc k w D N m g
end
end Go.Proofs.YtioabdfddjmabaaGreat
