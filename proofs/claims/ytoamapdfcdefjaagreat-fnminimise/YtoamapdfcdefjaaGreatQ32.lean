/-
  CallL, Ord, OrdC, RuleC, RowF
-/
import Derived.Test.YtoamapdfcdefjaaGreatQ10
import Derived.Deep.RegionWith
import Derived.Test.YtoamapdfcdefjaaGreatQ22
import Derived.Deep.QuietTactic
import Derived.BigQuiet
import Derived.Deep.RegionHeld3
import Derived.Test.YtoamapdfcdefjaaGreatQ31
import Derived.Test.YtoamapdfcdefjaaGreatQ04
import Derived.Shelf.SlSortCmp.InsertionK
import Derived.Laws.IdiomCopy
import Derived.Shelf.SlSortCmp.WholeK
import Derived.Shelf.SlSortCmp.NoneTotal
namespace Go.Proofs.YtoamapdfcdefjaaGreat
open Go.RowKit
set_option linter.unusedVariables false

def tot : List C → Nat
  | [] => 0
  | c :: r => c.args.length + tot r
theorem tot_take_succ {cs : List C} {k : Nat} (h : k < cs.length) : tot (cs.take (k + 1)) = tot (cs.take k) + (cs.getD k C.zero).args.length := by
  induction cs generalizing k with
  | nil => simp at h
  | cons c r ih =>
    cases k with
    | zero => simp [tot]
    | succ k =>
      have := ih (k := k) (by simpa using h)
      simp only [List.take_succ_cons, tot, List.getD_cons_succ] at *
      omega
theorem tot_take_le (cs : List C) (k : Nat) : tot (cs.take k) ≤ tot cs := by
  induction cs generalizing k with
  | nil => simp
  | cons c r ih =>
    cases k with
    | zero => simp [tot]
    | succ k => have := ih k; simp only [List.take_succ_cons, tot]; omega
theorem tot_mem {cs : List C} {c : C} (h : c ∈ cs) : c.args.length ≤ tot cs := by
  induction cs with
  | nil => simp at h
  | cons d r ih =>
    simp only [List.mem_cons] at h
    rcases h with rfl | h
    · simp [tot]
    · have := ih h; simp [tot]; omega
theorem callL_mem {cs : List C} {i : Nat} (hi : i < cs.length) : cs.getD i C.zero ∈ cs := by
  rw [List.getD_eq_getElem?_getD, List.getElem?_eq_getElem hi]; exact List.getElem_mem hi
theorem getD_take {cs : List C} {i k : Nat} (h : i < k) : (cs.take k).getD i C.zero = cs.getD i C.zero := by
  simp [List.getD_eq_getElem?_getD, h]

/-- the cells of call i -/
theorem CSrc.at {w : World} {a : Option Addr} {cs : List C} (hs : CSrc w a cs) (i : Nat) (hi : i < cs.length) : ∃ b o, a = some ⟨b, o, none⟩ ∧ b < w.heap.size ∧ w.cell? ⟨b, o + i * 3, none⟩ = some (.int .u32 (cs.getD i C.zero).arch) ∧ w.cell? ⟨b, o + i * 3 + 1, none⟩ = some (.int .u32 (cs.getD i C.zero).nr) ∧
      ∃ a' cap', w.cell? ⟨b, o + i * 3 + 2, none⟩ = some (.slice a' (cs.getD i C.zero).args.length cap') ∧ USrc w a' (cs.getD i C.zero).args := by
  rcases hs with rfl | ⟨b, o, h1, h2, h3⟩
  · simp at hi
  · obtain ⟨c0, c1, a', cap', c2, hu⟩ := h3 i hi
    exact ⟨b, o, h1, h2, c0, c1, a', cap', c2, hu⟩

end Go.Proofs.YtoamapdfcdefjaaGreat
namespace Go.Proofs.YtoamapdfcdefjaaGreat
open Go.RowKit
set_option linter.unusedVariables false

set_option maxHeartbeats 1000000 in
theorem isNaN32_any (x : Int) (w : World) : Calls Tryz.prog 62 #[.int .u32 x] w fun e w' => e = .returned (.bool false) ∧ w' = w := by
  go_enter Tryz.func62, Tryz.ntmps62
  go_wp2
  go_ret
  exact ⟨rfl, rfl⟩
set_option maxHeartbeats 1000000 in
theorem isNaN64_any (x : Int) (w : World) : Calls Tryz.prog 87 #[.int .u64 x] w fun e w' => e = .returned (.bool false) ∧ w' = w := by
  go_enter Tryz.func87, Tryz.ntmps87
  go_wp2
  go_ret
  exact ⟨rfl, rfl⟩
theorem ordI_neg {x y : Int} (h : x < y) : ordI x y = -1 := by unfold ordI; rw [if_pos h]
theorem ordI_pos {x y : Int} (h : y < x) : ordI x y = 1 := by unfold ordI; rw [if_neg (by omega), if_pos h]
theorem ordI_same {x y : Int} (h : x = y) : ordI x y = 0 := by unfold ordI; rw [if_neg (by omega), if_neg (by omega)]
set_option maxRecDepth 100000 in
set_option maxHeartbeats 1000000 in
theorem cmp32_any (x y : Int) (w : World) (hx : 0 ≤ x ∧ x ≤ 4294967295) (hy : 0 ≤ y ∧ y ≤ 4294967295) : Calls Tryz.prog 47 #[.int .u32 x, .int .u32 y] w fun e w' => e = .returned (.int .i64 (ordI x y)) ∧ w' = w := by
  rcases Int.lt_trichotomy x y with h | h | h
  · rw [ordI_neg h]
    go_enter Tryz.func47, Tryz.ntmps47
    go_wp2_with (go_at_call 62; refine (isNaN32_any _ _).mono ?_; rintro e w' ⟨rfl, rfl⟩)
    go_ret
    exact ⟨rfl, rfl⟩
  · rw [ordI_same h]
    subst h
    go_enter Tryz.func47, Tryz.ntmps47
    go_wp2_with (go_at_call 62; refine (isNaN32_any _ _).mono ?_; rintro e w' ⟨rfl, rfl⟩)
    go_ret
    exact ⟨rfl, rfl⟩
  · rw [ordI_pos h]
    go_enter Tryz.func47, Tryz.ntmps47
    go_wp2_with (go_at_call 62; refine (isNaN32_any _ _).mono ?_; rintro e w' ⟨rfl, rfl⟩)
    go_ret
    exact ⟨rfl, rfl⟩
set_option maxRecDepth 100000 in
set_option maxHeartbeats 1000000 in
theorem cmp64_any (x y : Int) (w : World) (hx : isU64 x) (hy : isU64 y) : Calls Tryz.prog 70 #[.int .u64 x, .int .u64 y] w fun e w' => e = .returned (.int .i64 (ordI x y)) ∧ w' = w := by
  obtain ⟨x0, x1⟩ := hx
  obtain ⟨y0, y1⟩ := hy
  rcases Int.lt_trichotomy x y with h | h | h
  · rw [ordI_neg h]
    go_enter Tryz.func70, Tryz.ntmps70
    go_wp2_with (go_at_call 87; refine (isNaN64_any _ _).mono ?_; rintro e w' ⟨rfl, rfl⟩)
    go_ret
    exact ⟨rfl, rfl⟩
  · rw [ordI_same h]
    subst h
    go_enter Tryz.func70, Tryz.ntmps70
    go_wp2_with (go_at_call 87; refine (isNaN64_any _ _).mono ?_; rintro e w' ⟨rfl, rfl⟩)
    go_ret
    exact ⟨rfl, rfl⟩
  · rw [ordI_pos h]
    go_enter Tryz.func70, Tryz.ntmps70
    go_wp2_with (go_at_call 87; refine (isNaN64_any _ _).mono ?_; rintro e w' ⟨rfl, rfl⟩)
    go_ret
    exact ⟨rfl, rfl⟩

/-- lists from number i on -/
theorem ordL_step {l m : List Int} {i : Nat} (hl : i < l.length) (hm : i < m.length) : ordL (l.drop i) (m.drop i) = if ordI (l.getD i 0) (m.getD i 0) = 0 then ordL (l.drop (i + 1)) (m.drop (i + 1)) else ordI (l.getD i 0) (m.getD i 0) := by
  rw [List.drop_eq_getElem_cons hl, List.drop_eq_getElem_cons hm, ordL]
  simp [List.getD_eq_getElem?_getD, hl, hm]
theorem ordL_out1 {l m : List Int} {i : Nat} (hl : l.length ≤ i) (hm : i < m.length) : ordL (l.drop i) (m.drop i) = -1 := by
  rw [List.drop_eq_nil_of_le hl, List.drop_eq_getElem_cons hm]; rfl
theorem ordL_out2 {l m : List Int} {i : Nat} (hl : i < l.length) (hm : m.length ≤ i) : ordL (l.drop i) (m.drop i) = 1 := by
  rw [List.drop_eq_nil_of_le hm, List.drop_eq_getElem_cons hl]; rfl
theorem ordL_out {l m : List Int} {i : Nat} (hl : l.length ≤ i) (hm : m.length ≤ i) : ordL (l.drop i) (m.drop i) = 0 := by
  rw [List.drop_eq_nil_of_le hm, List.drop_eq_nil_of_le hl]; rfl
theorem USrc.at {w : World} {a : Option Addr} {l : List Int} (h : USrc w a l) (i : Nat) (hi : i < l.length) : ∃ b o, a = some ⟨b, o, none⟩ ∧ b < w.heap.size ∧ w.cell? ⟨b, o + i, none⟩ = some (.int .u64 (l.getD i 0)) := by
  rcases h with rfl | ⟨b, o, ha, hb, hp⟩
  · simp at hi
  · exact ⟨b, o, ha, hb, hp i hi⟩
theorem isU64_getD {l : List Int} (h : ∀ v ∈ l, isU64 v) (i : Nat) : isU64 (l.getD i 0) := by
  by_cases hi : i < l.length
  · exact h _ (by rw [List.getD_eq_getElem?_getD, List.getElem?_eq_getElem hi]; exact List.getElem_mem hi)
  · rw [List.getD_eq_getElem?_getD, List.getElem?_eq_none (by omega)]; exact ⟨by decide, by decide⟩

end Go.Proofs.YtoamapdfcdefjaaGreat
namespace Go.Proofs.YtoamapdfcdefjaaGreat
open Go.RowKit
set_option linter.unusedVariables false

def or3 (x y z : Int) : Int := if x ≠ 0 then x else if y ≠ 0 then y else z
theorem ordC_or3 (a b : C) : ordC a b = or3 (ordI a.arch b.arch) (ordI a.nr b.nr) (ordL a.args b.args) := rfl
def get3 (x y z : Int) (j : Nat) : Int := if j = 0 then x else if j = 1 then y else z

set_option maxRecDepth 100000 in
set_option maxHeartbeats 1000000 in
theorem cmpOr_any (g : Nat) (x y z : Int) (w : World) (c : ∀ j, j < 3 → w.cell? ⟨g, j, none⟩ = some (.int .i64 (get3 x y z j))) :
    Calls Tryz.prog 46 #[.slice (some ⟨g, 0, none⟩) 3 3] w fun e w' => e = .returned (.int .i64 (or3 x y z)) ∧ w' = w := by
  have HC : Hid (∀ j, j < 3 → w.cell? ⟨g, j, none⟩ = some (.int .i64 (get3 x y z j))) := c
  have H1 : Hid (∀ j, j < 3 → (∀ i, i < j → get3 x y z i = 0) → get3 x y z j ≠ 0 → or3 x y z = get3 x y z j) := by
    intro j hj h0 h1
    have : j = 0 ∨ j = 1 ∨ j = 2 := by omega
    rcases this with rfl | rfl | rfl
    · simp only [get3, if_true] at h1 ⊢; unfold or3; rw [if_pos h1]
    · have a0 := h0 0 (by omega)
      simp [get3] at h1 a0 ⊢; unfold or3; rw [if_neg (by omega), if_pos h1]
    · have a0 := h0 0 (by omega)
      have a1 := h0 1 (by omega)
      simp [get3] at h1 a0 a1 ⊢; unfold or3; rw [if_neg (by omega), if_neg (by omega)]
  have H2 : Hid ((∀ i, i < 3 → get3 x y z i = 0) → or3 x y z = 0) := by
    intro h0
    have a0 := h0 0 (by omega)
    have a1 := h0 1 (by omega)
    have a2 := h0 2 (by omega)
    simp [get3] at a0 a1 a2; unfold or3; rw [if_neg (by omega), if_neg (by omega), a2]
  generalize or3 x y z = R at *
  generalize get3 x y z = G at *
  clear c
  go_enter Tryz.func46, Tryz.ntmps46
  go_wp2_with fail
  go_loopw [8] (fun i wr => ∃ j : Nat, j ≤ 3 ∧ i = .int .i64 j ∧ wr = w ∧ Hid (∀ i, i < j → G i = 0)) (fun i _ => 3 - (intOf i).toNat)
  case atStart => exact ⟨0, by omega, rfl, rfl, fun i hi => by omega⟩
  case round =>
    obtain ⟨j, hj, rfl, rfl, HJ⟩ := hrel
    by_cases hlt : j < 3
    · have c0 := HC.out j hlt
      by_cases hq : G j = 0
      · have HJ2 : Hid (∀ i, i < j + 1 → G i = 0) := by
          intro i hi
          by_cases e : i = j
          · rw [e]; exact hq
          · exact HJ.out i (by omega)
        rw [hq] at c0
        clear HC H1 H2 HJ hq
        go_wp2
        go_roundw
        case rel => exact ⟨j + 1, by omega, by go_num, trivial, HJ2⟩
        case measure => simp [intOf]; omega
      · have E : Hid (R = G j) := H1.out j hlt HJ.out hq
        have hq' : (G j != 0) = true := by simpa using hq
        clear HC H1 H2 HJ
        generalize G j = q at *
        go_wp2
        go_ret
        exact ⟨ret_int E.out.symm, rfl⟩
    · have E : Hid (R = 0) := H2.out (fun i hi => HJ.out i (by omega))
      clear HC H1 H2 HJ
      go_wp2
      go_ret
      exact ⟨ret_int E.out.symm, rfl⟩

theorem cell_alloc_some {W : World} {a : Addr} {v : Value} (o : Obj) (h : W.cell? a = some v) : (W.alloc o).cell? a = some v := by
  have hlt : a.block < W.heap.size := by
    rcases Nat.lt_or_ge a.block W.heap.size with h' | h'
    · exact h'
    · simp [World.cell?, Array.getElem?_eq_none h'] at h
  rw [World.cell?_alloc_lt _ _ _ hlt]; exact h

end Go.Proofs.YtoamapdfcdefjaaGreat
namespace Go.Proofs.YtoamapdfcdefjaaGreat
open Go.Shelf Go.RowKit Go.Lib Go.Sort
set_option linter.unusedVariables false

/-- memory is made and order drawn: nothing else -/
def LB (w w' : World) : Prop := Below w.heap.size w w' ∧ w.drawn ≤ w'.drawn
theorem LB.refl (w : World) : LB w w := ⟨Below.refl _ _, Nat.le_refl _⟩
theorem LB.trans {a b c : World} (h : LB a b) (h' : LB b c) : LB a c := ⟨h.1.trans (h'.1.mono h.1.size), Nat.le_trans h.2 h'.2⟩
theorem LB.alloc {a b : World} (h : LB a b) (o : Obj) : LB a (b.alloc o) := ⟨h.1.alloc h.1.size o, h.2⟩
theorem LB.drew {a b : World} (h : LB a b) : LB a b.drew := ⟨h.1.drew, Nat.le_succ_of_le h.2⟩
theorem LB.drewN {a b : World} (h : LB a b) (n : Nat) : LB a (b.drewN n) := ⟨below_drewN h.1 n, Nat.le_add_right_of_le h.2⟩
theorem drawn_setCell (w : World) (p : Addr) (v : Value) : (w.setCell p v).drawn = w.drawn := by
  unfold World.setCell; (first | rfl | (split <;> rfl) | (split <;> (try split) <;> rfl))
theorem LB.setCell {a b : World} (h : LB a b) {p : Addr} (hp : a.heap.size ≤ p.block) (v : Value) : LB a (b.setCell p v) := ⟨h.1.setCell hp v, by rw [drawn_setCell]; exact h.2⟩
theorem LB.lays {w w' : World} (h : LB w w') : ∃ q os, w' = grow (w.drewN q) os := by
  obtain ⟨⟨h1, h2, h3, h4, h5⟩, h6⟩ := h
  refine ⟨w'.drawn - w.drawn, w'.heap.extract w.heap.size w'.heap.size, ?_⟩
  obtain ⟨heap, tape, drawn, os, output⟩ := w
  obtain ⟨heap', tape', drawn', os', output'⟩ := w'
  simp only at h1 h2 h3 h4 h5 h6
  subst h1; subst h2; subst h3
  simp only [grow, World.drewN, World.mk.injEq, true_and, and_true]
  refine ⟨?_, by omega⟩
  apply Array.ext_getElem?
  intro i
  by_cases hi : i < heap.size
  · rw [Array.getElem?_append_left hi]; exact h5 i hi
  · rw [Array.getElem?_append_right (by omega)]
    by_cases h2 : i < heap'.size
    · rw [Array.getElem?_extract]
      simp only [Nat.min_self]
      rw [if_pos (by omega)]
      congr 1; omega
    · rw [Array.getElem?_eq_none (by omega), Array.getElem?_eq_none (by simp; omega)]
theorem lays_LB {w w' : World} {q : Nat} {os : Array Obj} (h : w' = grow (w.drewN q) os) : LB w w' := by
  subst h
  refine ⟨⟨rfl, rfl, rfl, by simp [grow, World.drewN], fun k hk => ?_⟩, by simp [grow, World.drewN]⟩
  simp only [grow, World.drewN]
  rw [Array.getElem?_append_left hk]

set_option maxRecDepth 100000 in
set_option maxHeartbeats 1000000 in
theorem conMask_lb (a b : Nat) (w : World) :
    Calls Tryz.prog 120 #[.agg #[.int .u64 (a : Int), .int .u64 (b : Int)]] w fun e w' => e = .returned (conV ⟨1, a, b⟩) ∧ LB w w' := by
  go_enter Tryz.func120, Tryz.ntmps120
  go_wp2
  refine bodyPost_ret (v := conV ⟨1, a, b⟩) (by simp [results, Tryz.results120, go_sem]) rfl ⟨rfl, ?_⟩
  exact ((LB.refl _).alloc _).alloc _
set_option maxRecDepth 100000 in
set_option maxHeartbeats 1000000 in
theorem conRange_lb (a b : Nat) (w : World) :
    Calls Tryz.prog 125 #[.agg #[.int .u64 (a : Int), .int .u64 (b : Int)]] w fun e w' => e = .returned (conV ⟨2, a, b⟩) ∧ LB w w' := by
  go_enter Tryz.func125, Tryz.ntmps125
  go_wp2
  refine bodyPost_ret (v := conV ⟨2, a, b⟩) (by simp [results, Tryz.results125, go_sem]) rfl ⟨rfl, ?_⟩
  exact ((LB.refl _).alloc _).alloc _
set_option maxRecDepth 100000 in
set_option maxHeartbeats 1000000 in
theorem conAny_lb (w : World) :
    Calls Tryz.prog 115 #[.agg #[]] w fun e w' => e = .returned (conV ⟨0, 0, 0⟩) ∧ LB w w' := by
  go_enter Tryz.func115, Tryz.ntmps115
  go_wp2
  refine bodyPost_ret (v := conV ⟨0, 0, 0⟩) (by simp [results, Tryz.results115, go_sem]) rfl ⟨rfl, ?_⟩
  exact ((LB.refl _).alloc _).alloc _

/-- the method 'con' through the interface, in whatever region -/
def MethC (c : K) : Prop := ∃ T P F, setV c = .iface T P ∧ (∀ w, (method 267 T P "loop.example/s0039/impl.con").run Tryz.prog w = .ok (F, P) w) ∧ (∀ (xs : Array Value) (w : World), (callFunc F xs).run Tryz.prog w = .ok (.enter F xs) w) ∧ (∀ w, (nilAhead 267 T P "loop.example/s0039/impl.con").run Tryz.prog w = .ok (some false) w) ∧
  ∀ w, Calls Tryz.prog F #[P] w fun e w' => e = .returned (conV c) ∧ LB w w'
theorem methC {c : K} (h : Normal c) : MethC c := by
  rcases h with rfl | ⟨a, b, rfl, _⟩ | ⟨a, b, rfl, _⟩
  · exact ⟨_, _, 115, rfl, fun _ => by kernel_rfl, fun _ _ => by kernel_rfl, fun _ => by kernel_rfl, conAny_lb⟩
  · exact ⟨_, _, 120, rfl, fun _ => by kernel_rfl, fun _ _ => by kernel_rfl, fun _ => by kernel_rfl, conMask_lb a b⟩
  · exact ⟨_, _, 125, rfl, fun _ => by kernel_rfl, fun _ _ => by kernel_rfl, fun _ => by kernel_rfl, conRange_lb a b⟩

theorem isNaNi_any (x : Int) (w : World) : Calls Tryz.prog 86 #[.int .i64 x] w fun e w' => e = .returned (.bool false) ∧ w' = w := by
  go_enter Tryz.func86, Tryz.ntmps86
  go_wp2
  go_ret
  exact ⟨rfl, rfl⟩
set_option maxRecDepth 100000 in
set_option maxHeartbeats 1000000 in
theorem cmpI_any (x y : Int) (w : World) : Calls Tryz.prog 69 #[.int .i64 x, .int .i64 y] w fun e w' => e = .returned (.int .i64 (ordI x y)) ∧ w' = w := by
  rcases Int.lt_trichotomy x y with h | h | h
  · rw [ordI_neg h]
    go_enter Tryz.func69, Tryz.ntmps69
    go_wp2_with (go_at_call 86; refine (isNaNi_any _ _).mono ?_; rintro e w' ⟨rfl, rfl⟩)
    go_ret
    exact ⟨rfl, rfl⟩
  · rw [ordI_same h]
    subst h
    go_enter Tryz.func69, Tryz.ntmps69
    go_wp2_with (go_at_call 86; refine (isNaNi_any _ _).mono ?_; rintro e w' ⟨rfl, rfl⟩)
    go_ret
    exact ⟨rfl, rfl⟩
  · rw [ordI_pos h]
    go_enter Tryz.func69, Tryz.ntmps69
    go_wp2_with (go_at_call 86; refine (isNaNi_any _ _).mono ?_; rintro e w' ⟨rfl, rfl⟩)
    go_ret
    exact ⟨rfl, rfl⟩

theorem or3_then (x y z : Int) : or3 x y z = thenO x (thenO y z) := by
  unfold or3 thenO
  by_cases h : x = 0
  · rw [if_neg (by simpa using h), if_pos h]
    by_cases h2 : y = 0
    · rw [if_neg (by simpa using h2), if_pos h2]
    · rw [if_pos h2, if_neg h2]
  · rw [if_pos h, if_neg h]
theorem natU {a : Nat} (h : a < 18446744073709551616) : isU64 (a : Int) := by unfold isU64; omega

set_option maxRecDepth 100000 in
set_option maxHeartbeats 1000000 in
theorem compareCons_any (c d : K) (w : World) (hc : c.ok) (hd : d.ok) :
    Calls Tryz.prog 54 #[conV c, conV d] w fun e w' => e = .returned (.int .i64 (ordK c d)) ∧ LB w w' := by
  have e : ordK c d = or3 (ordI c.kind d.kind) (ordI c.a d.a) (ordI c.b d.b) := (or3_then _ _ _).symm
  rw [e]
  clear e
  have HI : Hid (∀ w1 p q, Calls Tryz.prog 69 #[.int .i64 p, .int .i64 q] w1 fun e w' => e = .returned (.int .i64 (ordI p q)) ∧ w' = w1) := fun w1 p q => cmpI_any p q w1
  have HA : Hid (∀ w1 p q, isU64 p → isU64 q → Calls Tryz.prog 70 #[.int .u64 p, .int .u64 q] w1 fun e w' => e = .returned (.int .i64 (ordI p q)) ∧ w' = w1) := fun w1 p q h1 h2 => cmp64_any p q w1 h1 h2
  have u1 := natU hc.2.1
  have u2 := natU hc.2.2
  have u3 := natU hd.2.1
  have u4 := natU hd.2.2
  clear hc hd
  obtain ⟨ck, ca, cb⟩ := c
  obtain ⟨dk, da, db⟩ := d
  simp only [conV] at *
  obtain ⟨x, hx⟩ : ∃ x, ordI ck dk = x := ⟨_, rfl⟩
  obtain ⟨y, hy⟩ : ∃ y, ordI (ca : Int) (da : Int) = y := ⟨_, rfl⟩
  obtain ⟨z, hz⟩ : ∃ z, ordI (cb : Int) (db : Int) = z := ⟨_, rfl⟩
  have HX : Hid (ordI ck dk = x) := hx
  have HY : Hid (ordI (ca : Int) (da : Int) = y) := hy
  have HZ : Hid (ordI (cb : Int) (db : Int) = z) := hz
  clear hx hy hz
  rw [HX.out, HY.out, HZ.out]
  generalize (ca : Int) = a at *
  generalize (cb : Int) = b at *
  generalize (da : Int) = a' at *
  generalize (db : Int) = b' at *
  go_enter Tryz.func54, Tryz.ntmps54
  go_wp2_with fail
  have X := (BoxK.new w 41 (.int .i64 ck) (.int .u64 a) (.int .u64 b)).alloc (.cells #[.int .i64 dk, .int .u64 a', .int .u64 b'] 41)
  have Y := BoxK.new (w.alloc (.cells #[.int .i64 ck, .int .u64 a, .int .u64 b] 41)) 41 (.int .i64 dk) (.int .u64 a') (.int .u64 b')
  have hsz : (w.alloc (.cells #[.int .i64 ck, .int .u64 a, .int .u64 b] 41)).heap.size = w.heap.size + 1 := by simp
  rw [hsz] at Y
  have HG : Hid (∀ o, LB w (((w.alloc (.cells #[.int .i64 ck, .int .u64 a, .int .u64 b] 41)).alloc (.cells #[.int .i64 dk, .int .u64 a', .int .u64 b'] 41)).alloc o).drew) := fun o => ((((LB.refl w).alloc _).alloc _).alloc o).drew
  generalize (w.alloc (.cells #[.int .i64 ck, .int .u64 a, .int .u64 b] 41)).alloc (.cells #[.int .i64 dk, .int .u64 a', .int .u64 b'] 41) = W at *
  clear hsz
  obtain ⟨_, x0, x1, x2, _, _, _⟩ := X
  obtain ⟨_, y0, y1, y2, _, _, _⟩ := Y
  have HOr : Hid (∀ w1 : World, Calls Tryz.prog 46 #[.slice (some ⟨w1.heap.size, 0, none⟩) 3 3] (w1.alloc (.cells #[.int .i64 (ordI ck dk), .int .i64 (ordI a a'), .int .i64 (ordI b b')] 3)).drew fun e w' => e = .returned (.int .i64 (or3 x y z)) ∧ w' = (w1.alloc (.cells #[.int .i64 (ordI ck dk), .int .i64 (ordI a a'), .int .i64 (ordI b b')] 3)).drew) := by
    intro w1
    rw [← HX.out, ← HY.out, ← HZ.out]
    refine cmpOr_any w1.heap.size _ _ _ _ (fun j hj => ?_)
    have : j = 0 ∨ j = 1 ∨ j = 2 := by omega
    rcases this with rfl | rfl | rfl <;> simp [get3]
  go_region_held3 (fun w' => w'.cell? ⟨w.heap.size, 0, none⟩ = some (.int .i64 ck) ∧ w'.cell? ⟨w.heap.size, 1, none⟩ = some (.int .u64 a) ∧ w'.cell? ⟨w.heap.size, 2, none⟩ = some (.int .u64 b) ∧ w'.cell? ⟨w.heap.size + 1, 0, none⟩ = some (.int .i64 dk) ∧ w'.cell? ⟨w.heap.size + 1, 1, none⟩ = some (.int .u64 a') ∧ w'.cell? ⟨w.heap.size + 1, 2, none⟩ = some (.int .u64 b'))
    (refine ⟨?_, ?_, ?_, ?_, ?_, ?_⟩ <;> first | assumption | exact cell_alloc_some _ (by assumption) | (simp [*]; done))
    (first
      | (go_at_call 69; refine (HI.out _ _ _).mono ?_; rintro e w' ⟨rfl, rfl⟩)
      | (go_at_call 70; refine (HA.out _ _ _ (by assumption) (by assumption)).mono ?_; rintro e w' ⟨rfl, rfl⟩)
      | (go_at_call 46; refine (HOr.out _).mono ?_; rintro e w' ⟨rfl, rfl⟩))
  have B1 := HG.out (.cells #[.int .i64 (ordI ck dk), .int .i64 (ordI a a'), .int .i64 (ordI b b')] 3)
  clear HG
  go_wp2
  go_ret
  exact ⟨rfl, B1⟩

/-! rules -/
def encR (r : Ru) : List Value := [setV (r.getD 0 K.zero), setV (r.getD 1 K.zero), setV (r.getD 2 K.zero), setV (r.getD 3 K.zero), setV (r.getD 4 K.zero), setV (r.getD 5 K.zero)]
theorem encR_at (r : Ru) {i : Nat} (h : i < 6) : (encR r)[i]? = some (setV (r.getD i K.zero)) := by
  have : i = 0 ∨ i = 1 ∨ i = 2 ∨ i = 3 ∨ i = 4 ∨ i = 5 := by omega
  rcases this with rfl | rfl | rfl | rfl | rfl | rfl <;> rfl
theorem lexO_at {α : Type} (d : α) {ord : α → α → Int} : ∀ (a b : List α) (k : Nat), a.length = b.length → k < a.length → (∀ j, j < k → ord (a.getD j d) (b.getD j d) = 0) → ord (a.getD k d) (b.getD k d) ≠ 0 → lexO ord a b = ord (a.getD k d) (b.getD k d)
  | [], _, k, _, h, _, _ => by simp at h
  | a :: r, [], k, h, _, _, _ => by simp at h
  | a :: r, b :: s, 0, h, _, _, h1 => by
    simp at h1 ⊢
    rw [lexO, if_neg h1]
  | a :: r, b :: s, k + 1, h, hk, h0, h1 => by
    have z := h0 0 (by omega)
    simp at z
    rw [lexO, if_pos z]
    have := lexO_at d r s k (by simpa using h) (by simpa using hk) (fun j hj => by have := h0 (j + 1) (by omega); simpa using this) (by simpa using h1)
    simpa using this
theorem lexO_all {α : Type} (d : α) {ord : α → α → Int} : ∀ (a b : List α), a.length = b.length → (∀ j, j < a.length → ord (a.getD j d) (b.getD j d) = 0) → lexO ord a b = 0
  | [], [], _, _ => rfl
  | [], _ :: _, h, _ => by simp at h
  | a :: r, [], h, _ => by simp at h
  | a :: r, b :: s, h, h0 => by
    have z := h0 0 (by simp)
    simp at z
    rw [lexO, if_pos z]
    exact lexO_all d r s (by simpa using h) (fun j hj => by have := h0 (j + 1) (by simpa using hj); simpa using this)

set_option maxRecDepth 100000 in
set_option maxHeartbeats 2000000 in
theorem compareRules_any (a b : Ru) (w : World) (ha : NR a) (hb : NR b) :
    Calls Tryz.prog 32 #[.agg (encR a).toArray, .agg (encR b).toArray] w fun e w' => e = .returned (.int .i64 (ordR a b)) ∧ LB w w' := by
  have HL : Hid (∀ k, k < 6 → (∀ j, j < k → ordK (a.getD j K.zero) (b.getD j K.zero) = 0) → ordK (a.getD k K.zero) (b.getD k K.zero) ≠ 0 → ordR a b = ordK (a.getD k K.zero) (b.getD k K.zero)) := fun k hk h0 h1 => lexO_at K.zero a b k (by rw [ha.1, hb.1]) (by rw [ha.1]; exact hk) h0 h1
  have HZ : Hid ((∀ j, j < 6 → ordK (a.getD j K.zero) (b.getD j K.zero) = 0) → ordR a b = 0) := fun h => lexO_all K.zero a b (by rw [ha.1, hb.1]) (by rw [ha.1]; exact h)
  have HM : Hid (∀ k, MethC (a.getD k K.zero) ∧ MethC (b.getD k K.zero)) := fun k => ⟨methC (ha.2 k), methC (hb.2 k)⟩
  have HC : Hid (∀ k w, Calls Tryz.prog 54 #[conV (a.getD k K.zero), conV (b.getD k K.zero)] w fun e w' => e = .returned (.int .i64 (ordK (a.getD k K.zero) (b.getD k K.zero))) ∧ LB w w') := fun k w => compareCons_any _ _ w (ha.2 k).ok (hb.2 k).ok
  clear ha hb
  have B0 : LB w ((w.alloc (.cells (encR a).toArray 71)).alloc (.cells (encR b).toArray 71)) := ((LB.refl w).alloc _).alloc _
  have HX : Hid (∀ wr, LB ((w.alloc (.cells (encR a).toArray 71)).alloc (.cells (encR b).toArray 71)) wr → ∀ k, k < 6 → wr.cell? ⟨w.heap.size, k, none⟩ = some (setV (a.getD k K.zero)) ∧ wr.cell? ⟨w.heap.size + 1, k, none⟩ = some (setV (b.getD k K.zero))) := by
    intro wr h k hk
    have e1 := encR_at a hk
    have e2 := encR_at b hk
    refine ⟨(h.1.cell (p := ⟨w.heap.size, k, none⟩) (by simp; omega)).trans ?_, (h.1.cell (p := ⟨w.heap.size + 1, k, none⟩) (by simp)).trans ?_⟩
    · refine (((Below.refl (w.alloc (.cells (encR a).toArray 71)).heap.size _).alloc (Nat.le_refl _) _).cell (p := ⟨w.heap.size, k, none⟩) (by simp)).trans ?_
      simp [e1]
    · have e : w.heap.size + 1 = (w.alloc (.cells (encR a).toArray 71)).heap.size := by simp
      rw [e]; simp [e2]
  generalize ordR a b = R at *
  have ea : (encR a).toArray = #[setV (a.getD 0 K.zero), setV (a.getD 1 K.zero), setV (a.getD 2 K.zero), setV (a.getD 3 K.zero), setV (a.getD 4 K.zero), setV (a.getD 5 K.zero)] := rfl
  have eb : (encR b).toArray = #[setV (b.getD 0 K.zero), setV (b.getD 1 K.zero), setV (b.getD 2 K.zero), setV (b.getD 3 K.zero), setV (b.getD 4 K.zero), setV (b.getD 5 K.zero)] := rfl
  rw [ea, eb] at HX B0 ⊢
  clear ea eb
  generalize setV (a.getD 0 K.zero) = v0 at B0 HX ⊢
  generalize setV (a.getD 1 K.zero) = v1 at B0 HX ⊢
  generalize setV (a.getD 2 K.zero) = v2 at B0 HX ⊢
  generalize setV (a.getD 3 K.zero) = v3 at B0 HX ⊢
  generalize setV (a.getD 4 K.zero) = v4 at B0 HX ⊢
  generalize setV (a.getD 5 K.zero) = v5 at B0 HX ⊢
  generalize setV (b.getD 0 K.zero) = u0 at B0 HX ⊢
  generalize setV (b.getD 1 K.zero) = u1 at B0 HX ⊢
  generalize setV (b.getD 2 K.zero) = u2 at B0 HX ⊢
  generalize setV (b.getD 3 K.zero) = u3 at B0 HX ⊢
  generalize setV (b.getD 4 K.zero) = u4 at B0 HX ⊢
  generalize setV (b.getD 5 K.zero) = u5 at B0 HX ⊢
  go_enter Tryz.func32, Tryz.ntmps32
  go_wp2_with fail
  generalize (w.alloc (.cells #[v0, v1, v2, v3, v4, v5] 71)).alloc (.cells #[u0, u1, u2, u3, u4, u5] 71) = W at *
  go_loopw [7] (fun i wr => ∃ k : Nat, k ≤ 6 ∧ i = .int .i64 k ∧ Hid (∀ j, j < k → ordK (a.getD j K.zero) (b.getD j K.zero) = 0) ∧ LB W wr) (fun i _ => 6 - (intOf i).toNat)
  case atStart => exact ⟨0, by omega, rfl, fun j hj => by omega, LB.refl W⟩
  case round =>
    obtain ⟨k, hk, rfl, HJ, hLB⟩ := hrel
    rename World => W0
    by_cases hk6 : k < 6
    · obtain ⟨c0, d0⟩ := HX.out W0 hLB k hk6
      obtain ⟨⟨T, P, F, e1, e2, e4, e5, HF⟩, ⟨T', P', F', e1', e2', e4', e5', HF'⟩⟩ := HM.out k
      have HFk : Hid (∀ w, Calls Tryz.prog F #[P] w fun e w' => e = .returned (conV (a.getD k K.zero)) ∧ LB w w') := HF
      have HFk' : Hid (∀ w, Calls Tryz.prog F' #[P'] w fun e w' => e = .returned (conV (b.getD k K.zero)) ∧ LB w w') := HF'
      have HCk : Hid (∀ w, Calls Tryz.prog 54 #[conV (a.getD k K.zero), conV (b.getD k K.zero)] w fun e w' => e = .returned (.int .i64 (ordK (a.getD k K.zero) (b.getD k K.zero))) ∧ LB w w') := HC.out k
      rw [e1] at c0
      rw [e1'] at d0
      have hk6' : (k : Int) < 6 := by omega
      have HL1 : Hid (ordK (a.getD k K.zero) (b.getD k K.zero) ≠ 0 → R = ordK (a.getD k K.zero) (b.getD k K.zero)) := fun h => HL.out k hk6 HJ.out h
      have HJ1 : Hid (ordK (a.getD k K.zero) (b.getD k K.zero) = 0 → ∀ j, j < k + 1 → ordK (a.getD j K.zero) (b.getD j K.zero) = 0) := fun h j hj => by
        by_cases hjk : j = k
        · subst hjk; exact h
        · exact HJ.out j (by omega)
      have SK : Hid (∀ wa wb, LB wa wb → (LB W wa ∧ wa.cell? ⟨w.heap.size, k, none⟩ = some (.iface T P) ∧ wa.cell? ⟨w.heap.size + 1, k, none⟩ = some (.iface T' P')) → (LB W wb ∧ wb.cell? ⟨w.heap.size, k, none⟩ = some (.iface T P) ∧ wb.cell? ⟨w.heap.size + 1, k, none⟩ = some (.iface T' P'))) := fun wa wb hb ⟨s, x, y⟩ => ⟨s.trans hb, cell_step hb.1 x, cell_step hb.1 y⟩
      have hS0 := SK.out W0 W0.drew (LB.refl _).drew ⟨hLB, c0, d0⟩
      clear HF HF' HC HM HX HL HZ HJ e1 e1' c0 d0 hLB
      generalize ordK (a.getD k K.zero) (b.getD k K.zero) = Z at *
      generalize a.getD k K.zero = ca at *
      generalize b.getD k K.zero = cb at *
      obtain ⟨ck, cx, cy⟩ := ca
      obtain ⟨dk, dx, dy⟩ := cb
      simp only [conV] at HFk HFk' HCk
      go_wp2_with fail
      go_region_held3 (fun w' => LB W w' ∧ w'.cell? ⟨w.heap.size, k, none⟩ = some (.iface T P) ∧ w'.cell? ⟨w.heap.size + 1, k, none⟩ = some (.iface T' P'))
        (assumption)
        (first
          | (go_at_call 54; refine (HCk.out _).mono ?_; rintro _ w9 ⟨rfl, hb9⟩; have hS9 := SK.out _ _ hb9 (by assumption))
          | (refine (HFk.out _).mono ?_; rintro _ w8 ⟨rfl, hb8⟩; have hS8 := SK.out _ _ hb8 (by assumption))
          | (refine (HFk'.out _).mono ?_; rintro _ w7 ⟨rfl, hb7⟩; have hS7 := SK.out _ _ hb7 (by assumption)))
      all_goals
        have B1 : LB W w9 := hS9.1
        clear hS9 hb9
        by_cases hZ : Z = 0
        · subst hZ
          have HJ2 : Hid (∀ j, j < k + 1 → ordK (a.getD j K.zero) (b.getD j K.zero) = 0) := HJ1.out rfl
          go_wp2
          go_roundw
          case rel => exact ⟨k + 1, by omega, by go_num, HJ2, B1⟩
          case measure => simp [intOf]; omega
        · have hR : R = Z := HL1.out hZ
          subst hR
          have hZ' : (R != 0) = true := by simpa using hZ
          have hZ2 : (R == 0) = false := by simpa using hZ
          clear hZ HL1 HJ1
          go_wp2
          go_ret
          exact ⟨rfl, B0.trans B1⟩
    · have hk' : k = 6 := by omega
      subst hk'
      have hR : R = 0 := HZ.out HJ.out
      subst hR
      clear HZ HL HM HC HX HJ
      go_wp2
      go_ret
      exact ⟨rfl, B0.trans hLB⟩
end Go.Proofs.YtoamapdfcdefjaaGreat
namespace Go.Proofs.YtoamapdfcdefjaaGreat
open Go.Shelf Go.RowKit Go.Lib Go.Sort
set_option linter.unusedVariables false

section
variable {α : Type}
def cellsF (enc : α → List Value) (k : Nat) (g : Nat → α) (j : Nat) : Value := (enc (g (j / k))).getD (j % k) undef
theorem cellsF_at {enc : α → List Value} {k : Nat} (g : Nat → α) (i : Nat) {r : Nat} (hr : r < k) : cellsF enc k g (i * k + r) = (enc (g i)).getD r undef := by
  have h1 : (i * k + r) / k = i := by
    rw [Nat.mul_comm, Nat.mul_add_div (by omega), Nat.div_eq_of_lt hr, Nat.add_zero]
  have h2 : (i * k + r) % k = r := by
    rw [Nat.mul_comm, Nat.mul_add_mod, Nat.mod_eq_of_lt hr]
  rw [cellsF, h1, h2]
theorem in_row {i n k r : Nat} (hi : i < n) (hr : r < k) : i * k + r < n * k := by
  have : (i + 1) * k ≤ n * k := Nat.mul_le_mul_right k hi
  rw [Nat.succ_mul] at this; omega

/-- block D is a row of N elements of type t, the first n of which are g's -/
def RowF (t : Nat) (enc : α → List Value) (k : Nat) (w : World) (D N n : Nat) (g : Nat → α) : Prop := n ≤ N ∧ ∃ f, w.rowIs D t (N * k) f ∧ ∀ j, j < n * k → f j = cellsF enc k g j
variable {t k : Nat} {enc : α → List Value}
theorem RowF.lt {w : World} {D N n : Nat} {g : Nat → α} (h : RowF t enc k w D N n g) : D < w.heap.size := by
  obtain ⟨_, f, hr, _⟩ := h; exact hr.lt
theorem RowF.keep {w w1 : World} {D N n : Nat} {g : Nat → α} (h : RowF t enc k w D N n g) (hb : Below w.heap.size w w1) : RowF t enc k w1 D N n g := by
  obtain ⟨hn, f, hr, hf⟩ := h
  exact ⟨hn, f, hr.of_block (hb.block D hr.lt), hf⟩
theorem RowF.cell {w : World} {D N n i r : Nat} {g : Nat → α} (h : RowF t enc k w D N n g) (hi : i < n) (hr : r < k) : w.cell? ⟨D, i * k + r, none⟩ = some ((enc (g i)).getD r undef) := by
  obtain ⟨hn, f, hrow, hf⟩ := h
  rw [hrow.cell (in_row (by omega) hr), hf _ (in_row hi hr), cellsF_at g i hr]
theorem RowF.open {w : World} {D N n : Nat} {g : Nat → α} (h : RowF t enc k w D N n g) (j : Nat) (hj : j < N * k) : ∃ v, w.cell? ⟨D, j, none⟩ = some v ∧ w.frozen? ⟨D, j, none⟩ = false := by
  obtain ⟨hn, f, hr, hf⟩ := h
  exact ⟨_, hr.cell hj, hr.frozen j⟩
theorem row_setCells' {D t n : Nat} : ∀ (vs : List Value) (o : Nat) (w : World) (f : Nat → Value), w.rowIs D t n f → (w.setCells D o vs).rowIs D t n (fun j => if o ≤ j ∧ j < o + vs.length then vs.getD (j - o) undef else f j)
  | [], o, w, f, h => by
    have e : (fun j => if o ≤ j ∧ j < o + ([] : List Value).length then ([] : List Value).getD (j - o) undef else f j) = f := funext fun j => if_neg (by simp)
    rw [e]; exact h
  | v :: r, o, w, f, h => by
    have := row_setCells' r (o + 1) _ _ (h.set o v)
    have e : (fun j => if o ≤ j ∧ j < o + (v :: r).length then (v :: r).getD (j - o) undef else f j) = (fun j => if o + 1 ≤ j ∧ j < o + 1 + r.length then r.getD (j - (o + 1)) undef else if j = o then v else f j) := by
      funext j
      simp only [List.length_cons]
      by_cases h0 : j = o
      · subst h0
        rw [if_pos (by omega), if_neg (by omega), if_pos rfl]
        simp
      · by_cases h1 : o + 1 ≤ j ∧ j < o + 1 + r.length
        · rw [if_pos (by omega), if_pos h1, show j - o = (j - (o + 1)) + 1 by omega]
          simp
        · rw [if_neg (by omega), if_neg h1, if_neg h0]
    rw [e]; exact this
theorem below_setCells' {B D : Nat} {W : World} (hD : B ≤ D) : ∀ (vs : List Value) (o : Nat) (w : World), Below B W w → Below B W (w.setCells D o vs)
  | [], _, _, h => h
  | v :: r, o, w, h => below_setCells' hD r (o + 1) _ (h.setCell (p := ⟨D, o, none⟩) hD v)
theorem RowF.set {w : World} {D N n : Nat} {g : Nat → α} (h : RowF t enc k w D N n g) (i : Nat) (p : α) (hk : (enc p).length = k) (h0 : 0 < k) : RowF t enc k (w.setCells D (i * k) (enc p)) D N n (fun j => if j = i then p else g j) := by
  obtain ⟨hn, f, hr, hf⟩ := h
  refine ⟨hn, _, row_setCells' (enc p) (i * k) w f hr, fun j hj => ?_⟩
  have hj' := hf j hj
  obtain ⟨q, r, hr', rfl⟩ : ∃ q r, r < k ∧ j = q * k + r := ⟨j / k, j % k, Nat.mod_lt _ h0, by rw [Nat.mul_comm]; exact (Nat.div_add_mod j k).symm⟩
  rw [cellsF_at _ q hr']
  rw [cellsF_at _ q hr'] at hj'
  rw [hk]
  by_cases e : q = i
  · subst e
    rw [if_pos (by omega), if_pos rfl]
    congr 1; omega
  · rw [if_neg, if_neg e]
    · exact hj'
    · rintro ⟨h1, h2⟩
      rcases Nat.lt_or_gt_of_ne e with g1 | g1
      · have : (q + 1) * k ≤ i * k := Nat.mul_le_mul_right k g1
        rw [Nat.succ_mul] at this; omega
      · have : (i + 1) * k ≤ q * k := Nat.mul_le_mul_right k g1
        rw [Nat.succ_mul] at this; omega
theorem RowF.less {w : World} {D N n m : Nat} {g : Nat → α} (h : RowF t enc k w D N n g) (hm : m ≤ n) : RowF t enc k w D N m g := by
  obtain ⟨hn, f, hr, hf⟩ := h
  exact ⟨by omega, f, hr, fun j hj => hf j (Nat.lt_of_lt_of_le hj (Nat.mul_le_mul_right k hm))⟩
theorem RowF.clear {w : World} {D N n m : Nat} {g : Nat → α} (h : RowF t enc k w D N n g) (hm : m ≤ n) (vs : List Value) : RowF t enc k (w.setCells D (m * k) vs) D N m g := by
  obtain ⟨hn, f, hr, hf⟩ := h
  refine ⟨by omega, _, row_setCells' vs (m * k) w f hr, fun j hj => ?_⟩
  rw [if_neg (by omega)]
  exact hf j (Nat.lt_of_lt_of_le hj (Nat.mul_le_mul_right k hm))
theorem RowF.congr {w : World} {D N n : Nat} {g g' : Nat → α} (h : RowF t enc k w D N n g) (e : ∀ i, i < n → g i = g' i) : RowF t enc k w D N n g' := by
  obtain ⟨hn, f, hr, hf⟩ := h
  refine ⟨hn, f, hr, fun j hj => ?_⟩
  rw [hf j hj, cellsF, cellsF, e]
  exact Nat.div_lt_of_lt_mul (by rw [Nat.mul_comm]; exact hj)

def lstF (g : Nat → α) (n : Nat) : List α := (List.range n).map g
theorem lstF_len (g : Nat → α) (n : Nat) : (lstF g n).length = n := by simp [lstF]
theorem lstF_get (g : Nat → α) {n i : Nat} (h : i < n) : (lstF g n)[i]'(by rw [lstF_len]; exact h) = g i := by simp [lstF]
theorem lstF_take (g : Nat → α) {n k : Nat} (h : k ≤ n) : (lstF g n).take k = lstF g k := by
  unfold lstF
  rw [← List.map_take, List.take_range, Nat.min_eq_left h]
theorem lstF_succ (g : Nat → α) (n : Nat) : lstF g (n + 1) = lstF g n ++ [g n] := by simp [lstF, List.range_succ]
theorem lstF_congr {g g' : Nat → α} {n : Nat} (h : ∀ i, i < n → g i = g' i) : lstF g n = lstF g' n := by
  unfold lstF
  apply List.map_congr_left
  intro i hi
  rw [h i (by simpa using hi)]
theorem lstF_of (l : List α) (d : α) : lstF (fun i => l.getD i d) l.length = l := by
  apply List.ext_getElem
  · simp [lstF]
  · intro i h1 h2
    simp [lstF, List.getD_eq_getElem?_getD, h2]
variable {ord : α → α → Int}
theorem compF_same (L : Lin ord) (g : Nat → α) {n q : Nat} (h : q + 1 < n) (he : ord (g (q + 1)) (g q) = 0) : compG ord (lstF g n) (q + 2) = compG ord (lstF g n) (q + 1) :=
  compG_same L (by rw [lstF_len]; exact h) (by rw [lstF_get g h, lstF_get g (by omega)]; exact he)
theorem compF_diff (L : Lin ord) (g : Nat → α) {n q : Nat} (h : q + 1 < n) (he : ord (g (q + 1)) (g q) ≠ 0) : compG ord (lstF g n) (q + 2) = compG ord (lstF g n) (q + 1) ++ [g (q + 1)] := by
  rw [compG_diff L (by rw [lstF_len]; exact h) (by rw [lstF_get g h, lstF_get g (by omega)]; exact he), lstF_get g h]
theorem compF_all (L : Lin ord) (g : Nat → α) {n q : Nat} (h : q ≤ n) (hd : ∀ j, 0 < j → j < q → ord (g j) (g (j - 1)) ≠ 0) : compG ord (lstF g n) q = lstF g q := by
  rw [compG_all L (by rw [lstF_len]; exact h) (fun j hj => ?_), lstF_take g h]
  rw [lstF_get g (by omega), lstF_get g (by omega)]
  exact hd (j + 1) (by omega) hj

/-! the sort -/
theorem belowB_step' {B : Nat} {W wa wb : World} (hBW : B ≤ W.heap.size) (hb : Below wa.heap.size wa wb) (h : Below B W wa) : Below B W wb := h.trans (hb.mono (Nat.le_trans hBW h.size))
theorem sw_block' [Inhabited α] (enc : α → List Value) (k : Nat) (w : World) (D off m : Nat) (dk : Array α) (os : Array Obj) {j : Nat} (hj : j < w.heap.size) (hne : j ≠ D) : (sortWorldK enc k w D off m dk os).heap[j]? = w.heap[j]? := by
  unfold sortWorldK putRowK putRow
  rw [heap_grow_old _ _ (by simpa [mapBlock, Sort.ahead] using hj)]
  simp only [mapBlock, Sort.ahead, Array.getElem?_modify]
  rw [if_neg (fun e => hne e.symm)]
theorem sw_row' [Inhabited α] (enc : α → List Value) (k : Nat) {w : World} {D m t n : Nat} {f : Nat → Value} (dk : Array α) (os : Array Obj) (h : w.rowIs D t n f) : (sortWorldK enc k w D 0 m dk os).rowIs D t n (fun j => if j < dk.size * k then (flatK enc k dk)[j]! else f j) := by
  have hlt := h.lt
  obtain ⟨c, hc, hs, hv⟩ := h
  refine ⟨putCells id 0 (flatK enc k dk) c, ?_, by simpa [putCells] using hs, fun i hi => ?_⟩
  · unfold sortWorldK putRowK putRow
    rw [heap_grow_old _ _ (by simpa [mapBlock, Sort.ahead] using hlt)]
    simp only [mapBlock, Sort.ahead, Array.getElem?_modify, if_true, hc, Option.map_some, onCells]
  · simp only [putCells, Array.getElem?_mapIdx, hv i hi, Option.map_some, Nat.zero_le, true_and, Nat.zero_add, size_flatK, Nat.sub_zero, id]
theorem sw_below' [Inhabited α] (enc : α → List Value) (k : Nat) {B : Nat} {W w : World} {D m : Nat} (dk : Array α) (os : Array Obj) (hb : Below B W w) (hD : B ≤ D) (hBw : B ≤ w.heap.size) : Below B W (sortWorldK enc k w D 0 m dk os) :=
  hb.trans ⟨rfl, rfl, rfl, by simp only [sortWorldK, putRowK, size_grow, size_putRow]; exact Nat.le_add_right _ _, fun j hj => sw_block' enc k w D 0 m dk os (by omega) (by omega)⟩
theorem swo_of (L : Lin ord) : SWO (ltOf ord) where
  irrefl := fun x => by simp [ltOf, L.self]
  trans := fun x y z h h' => decide_eq_true (L.trans _ _ _ (of_decide_eq_true h) (of_decide_eq_true h'))
  ntrans := fun x y z h h' => by
    have h1 : ¬ ord x y < 0 := of_decide_eq_false h
    have h2 : ¬ ord y z < 0 := of_decide_eq_false h'
    refine decide_eq_false (show ¬ ord x z < 0 from ?_)
    have e1 := L.anti x y
    have e2 := L.anti y z
    have e3 := L.anti x z
    have := L.le_trans (a := z) (b := y) (c := x) (by omega) (by omega)
    omega

/-- what the library's sort leaves of a row -/
theorem sort_of [Inhabited α] {P : Program} {F : Nat} {fv : Value} (L : Lin ord) (hlen : ∀ x, (enc x).length = k) (h0 : 0 < k) (B D N n cap : Nat) (g : Nat → α) (W w : World) (hBW : B ≤ W.heap.size) (hb : Below B W w) (hD : B ≤ D) (hr : RowF t enc k w D N n g)
    (HS : ∀ d : Array α, d.size = n → HoldsK enc k w D 0 d → D < w.heap.size → Calls P F #[.slice (some ⟨D, 0, none⟩) d.size cap, fv] w fun e w' => e = .returned (.tuple #[]) ∧ ∃ d' m os, PermIn 0 d.size d d' ∧ SortedIn (ltOf ord) 0 d.size d' ∧ w' = sortWorldK enc k w D 0 m d' os) :
    Calls P F #[.slice (some ⟨D, 0, none⟩) n cap, fv] w fun e w' => e = .returned (.tuple #[]) ∧
      ∃ g', RowF t enc k w' D N n g' ∧ (∀ c, c ∈ lstF g' n ↔ c ∈ lstF g n) ∧ (lstF g' n).Pairwise (fun a b => ord a b ≤ 0) ∧ Below B W w' := by
  have hBw : B ≤ w.heap.size := Nat.le_trans hBW hb.size
  obtain ⟨d, hd⟩ : ∃ d : Array α, d = (lstF g n).toArray := ⟨_, rfl⟩
  have hds : d.size = n := by rw [hd]; simp [lstF]
  have hdi : ∀ i, i < n → d[i]! = g i := by intro i hi; rw [hd]; simp [lstF, hi]
  have flat : ∀ (x : Array α) (q : Nat → α), x.size = n → (∀ i, i < n → x[i]! = q i) → ∀ j, j < n * k → (flatK enc k x)[j]! = cellsF enc k q j := by
    intro x q hx hq j hj
    have hjk : j / k < n := Nat.div_lt_of_lt_mul (by rw [Nat.mul_comm]; exact hj)
    rw [get_flatK _ _ _ _ (by rw [hx]; exact hj), cellsF, hq _ hjk]
    have hm : j % k < (enc (q (j / k))).length := by rw [hlen]; exact Nat.mod_lt _ h0
    simp [List.getD_eq_getElem?_getD, hm]
  have hH : HoldsK enc k w D 0 d := by
    obtain ⟨hnN, f0, hrow, hf0⟩ := hr
    intro j hj
    rw [size_flatK, hds] at hj
    rw [Nat.zero_add, hrow.cell (Nat.lt_of_lt_of_le hj (Nat.mul_le_mul_right k hnN)), hf0 j hj, flat d g hds hdi j hj]
    exact ⟨rfl, hrow.frozen j⟩
  have hS := HS d hds hH hr.lt
  rw [hds] at hS
  refine hS.mono ?_
  rintro e w' ⟨rfl, d', n', os, hp, hs, rfl⟩
  obtain ⟨p1, p2, p3⟩ := hp
  rw [hds] at p1
  have ex : ∀ (x : Array α), x.size = n → x.extract 0 n = x := fun x hx => by rw [← hx]; exact Array.extract_size
  rw [ex d' p1, ex d hds] at p3
  have el : ∀ (x : Array α), x.size = n → lstF (fun i => x[i]!) n = x.toList := by
    intro x hx
    apply List.ext_getElem
    · simp [lstF, hx]
    · intro i h1 h2
      rw [lstF_len] at h1
      simp [lstF, show i < x.size by omega]
  refine ⟨rfl, fun i => d'[i]!, ?_, ?_, ?_, sw_below' enc k d' os hb hD hBw⟩
  · obtain ⟨hnN, f0, hrow, hf0⟩ := hr
    refine ⟨hnN, _, sw_row' enc k d' os hrow, fun j hj => ?_⟩
    rw [if_pos (by rw [p1]; exact hj)]
    exact flat d' _ p1 (fun i hi => rfl) j hj
  · intro c
    rw [el d' p1, p3.mem_iff, hd]
  · rw [List.pairwise_iff_getElem]
    intro i j hi hj hij
    rw [lstF_len] at hi hj
    have h1 := hs i j (Nat.zero_le _) hij hj
    have h2 : ¬ ord d'[j]! d'[i]! < 0 := of_decide_eq_false h1
    have e := L.anti d'[i]! d'[j]!
    rw [lstF_get _ hi, lstF_get _ hj]
    omega
/-! rows that came of an append -/
theorem flat_len (hlen : ∀ x, (enc x).length = k) (g : Nat → α) : ∀ n, ((lstF g n).flatMap enc).length = n * k
  | 0 => by simp [lstF]
  | n + 1 => by rw [lstF_succ, List.flatMap_append, List.length_append, flat_len hlen g n]; simp [hlen, Nat.succ_mul]
theorem flat_get (hlen : ∀ x, (enc x).length = k) (g : Nat → α) : ∀ n j, j < n * k → ((lstF g n).flatMap enc)[j]? = some (cellsF enc k g j)
  | 0, j, h => by simp at h
  | n + 1, j, h => by
    rw [lstF_succ, List.flatMap_append]
    by_cases hj : j < n * k
    · rw [List.getElem?_append_left (by rw [flat_len hlen]; exact hj)]
      exact flat_get hlen g n j hj
    · rw [List.getElem?_append_right (by rw [flat_len hlen]; omega), flat_len hlen]
      obtain ⟨r, rfl⟩ : ∃ r, j = n * k + r := ⟨j - n * k, by omega⟩
      have hr : r < k := by rw [Nat.succ_mul] at h; omega
      rw [cellsF_at g n hr, show n * k + r - n * k = r by omega]
      have : r < (enc (g n)).length := by rw [hlen]; exact hr
      simp [List.getD_eq_getElem?_getD, this]
theorem own_rowF (hlen : ∀ x, (enc x).length = k) {w : World} {base n : Nat} {v : Value} {g : Nat → α} (h0 : 0 < n) (h : w.ownsRow base t k v n ((lstF g n).flatMap enc)) : ∃ D N, v = .slice (some ⟨D, 0, none⟩) n N ∧ base ≤ D ∧ n ≤ N ∧ RowF t enc k w D N n g := by
  obtain ⟨_, h | ⟨D, cap, cur, rfl, hb, hgc, hn, hm, hs, hx⟩⟩ := h
  · omega
  · refine ⟨D, cap, rfl, hb, hn, hn, fun j => cur.getD j undef, ⟨cur, hgc, hs, fun i hi => by simp [hs, hi]⟩, fun j hj => ?_⟩
    have hu := flat_get hlen g n j hj
    rw [← hx, List.getElem?_take, if_pos hj, Array.getElem?_toList] at hu
    simp [Array.getD_eq_getD_getElem?, hu]
/-- n elements of g's from place o of block b on -/
def SrcF (enc : α → List Value) (k : Nat) (w : World) (b o : Nat) (n : Nat) (g : Nat → α) : Prop := b < w.heap.size ∧ ∀ j, j < n * k → w.cell? ⟨b, o + j, none⟩ = some (cellsF enc k g j)
theorem SrcF.below {w w1 : World} {b o : Nat} {n : Nat} {g : Nat → α} (h : SrcF enc k w b o n g) (hb : Below w.heap.size w w1) : SrcF enc k w1 b o n g :=
  ⟨Nat.lt_of_lt_of_le h.1 hb.size, fun j hj => (hb.cell (p := ⟨b, o + j, none⟩) h.1).trans (h.2 j hj)⟩
theorem RowF.src {w : World} {D N n : Nat} {g : Nat → α} (h : RowF t enc k w D N n g) : SrcF enc k w D 0 n g := by
  refine ⟨h.lt, fun j hj => ?_⟩
  obtain ⟨hn, f, hr, hf⟩ := h
  rw [Nat.zero_add, hr.cell (Nat.lt_of_lt_of_le hj (Nat.mul_le_mul_right k hn)), hf j hj]
theorem compG_sub {ord : α → α → Int} (l : List α) : ∀ q, q ≤ l.length → ∀ c ∈ compG ord l q, c ∈ l
  | 0, _, c, h => by simp [compG_zero] at h
  | q + 1, hq, c, h => by
    rw [compG_succ (by omega), pushG] at h
    split at h
    · exact compG_sub l q (by omega) c h
    · simp only [List.mem_append, List.mem_singleton] at h
      rcases h with h | rfl
      · exact compG_sub l q (by omega) c h
      · exact List.getElem_mem _
/-- a value that holds m elements of g's, in a row behind B -/
def OnceF (t : Nat) (enc : α → List Value) (k : Nat) (w : World) (B : Nat) (v : Value) (m : Nat) (g : Nat → α) : Prop := ∃ D N, v = .slice (some ⟨D, 0, none⟩) m N ∧ B ≤ D ∧ m ≤ N ∧ RowF t enc k w D N m g
end
end Go.Proofs.YtoamapdfcdefjaaGreat
