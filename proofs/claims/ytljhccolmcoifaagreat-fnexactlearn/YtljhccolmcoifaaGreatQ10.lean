/-
  U64, CallM, CallS
-/
import Derived.Test.YtljhccolmcoifaaGreatQ09
import Derived.Test.YtljhccolmcoifaaGreatQ01
namespace Go.Proofs.YtljhccolmcoifaaGreat
open Go.RowKit
set_option linter.unusedVariables false

/-- numbers that came in, or were made: nil or empty, or at an address -/
def UAt (w : World) (b o : Nat) (l : List Int) : Prop := ∀ i, i < l.length → w.cell? ⟨b, o + i, none⟩ = some (.int .u64 (l.getD i 0))

def USrc (w : World) (a : Option Addr) (l : List Int) : Prop := l = [] ∨ ∃ b o, a = some ⟨b, o, none⟩ ∧ b < w.heap.size ∧ UAt w b o l

theorem USrc.below {w w' : World} {a : Option Addr} {l : List Int} (h : USrc w a l) (hb : Below w.heap.size w w') : USrc w' a l := by
  rcases h with h | ⟨b, o, ha, hlt, hc⟩
  · exact .inl h
  · exact .inr ⟨b, o, ha, Nat.lt_of_lt_of_le hlt hb.size, fun i hi => (hb.cell (p := ⟨b, _, none⟩) hlt).trans (hc i hi)⟩

set_option maxHeartbeats 1000000 in
theorem eqUint64S_none (a a' : Option Addr) (cap cap' : Nat) (w : World) :
    Calls Tryz.prog 67 #[.slice a 0 cap, .slice a' 0 cap'] w fun e w' => e = .returned (.bool true) ∧ Below w.heap.size w w' := by
  go_enter Tryz.func67, Tryz.ntmps67
  go_wp2_with fail
  go_loopw [5] (fun i wr => i = .int .i64 0 ∧ wr = w) (fun i _ => 0)
  case atStart => exact ⟨rfl, rfl⟩
  case round =>
    obtain ⟨rfl, rfl⟩ := hrel
    go_wp2
    go_ret
    exact ⟨rfl, Below.refl _ _⟩

set_option maxHeartbeats 1000000 in
theorem eqUint64S_some (b o cap b' o' cap' : Nat) (l : List Int) (w : World) (hp : UAt w b o l) (hp' : UAt w b' o' l) (hn : l.length ≤ 16777216) :
    Calls Tryz.prog 67 #[.slice (some ⟨b, o, none⟩) l.length cap, .slice (some ⟨b', o', none⟩) l.length cap'] w fun e w' => e = .returned (.bool true) ∧ Below w.heap.size w w' := by
  obtain ⟨n, hn'⟩ : ∃ n, l.length = n := ⟨_, rfl⟩
  have HN : Hid (l.length = n) := hn'
  rw [hn'] at hn ⊢
  clear hn'
  go_enter Tryz.func67, Tryz.ntmps67
  go_wp2_with fail
  go_loopw [5] (fun i wr => ∃ k m : Nat, k ≤ n ∧ i = .int .i64 k ∧ wr = w.drewN m) (fun i _ => n - (intOf i).toNat)
  case atStart => exact ⟨0, 0, by omega, rfl, rfl⟩
  case round =>
    obtain ⟨k, m, hk, rfl, rfl⟩ := hrel
    by_cases hlt : k < n
    · have c0 := hp k (by rw [HN.out]; exact hlt)
      have c1 := hp' k (by rw [HN.out]; exact hlt)
      clear hp hp'
      have hlt' : (k : Int) < (n : Int) := by omega
      go_wp2_with fail
      go_quiet (fail)
      go_wp2
      go_roundw
      case rel => exact ⟨k + 1, _, by omega, by go_num, rfl⟩
      case measure => simp [intOf]; omega
    · go_wp2
      go_ret
      exact ⟨rfl, below_drewN (Below.refl _ _) _⟩

theorem eqUint64S_any (a a' : Option Addr) (cap cap' : Nat) (l : List Int) (w : World) (hs : USrc w a l) (hs' : USrc w a' l) (hn : l.length ≤ 16777216) :
    Calls Tryz.prog 67 #[.slice a l.length cap, .slice a' l.length cap'] w fun e w' => e = .returned (.bool true) ∧ Below w.heap.size w w' := by
  rcases hs with rfl | ⟨b, o, rfl, hb, hp⟩
  · exact eqUint64S_none a a' cap cap' w
  · rcases hs' with rfl | ⟨b', o', rfl, hb', hp'⟩
    · exact eqUint64S_none _ a' cap cap' w
    · exact eqUint64S_some b o cap b' o' cap' l w hp hp' hn

theorem info61 : (Tryz.prog.info? 67).map (fun i => (i.zero, i.size, i.bytes)) = some (some (.int .u64 0), 1, 8) := by kernel_rfl

/-- an own row of numbers -/
abbrev ownsU (w : World) (base : Nat) (v : Value) (l : List Int) : Prop := w.ownsRow base 67 1 v l.length (l.map (Value.int .u64))

theorem ownsU_src {w : World} {base : Nat} {v : Value} {l : List Int} (h : ownsU w base v l) : ∃ a cap, v = .slice a l.length cap ∧ USrc w a l := by
  obtain ⟨_, h | ⟨g, cap, cur, rfl, hb, hg, hn, hm, hs, hx⟩⟩ := h
  · obtain ⟨rfl, h0⟩ := h
    have : l = [] := List.eq_nil_of_length_eq_zero h0
    subst this
    exact ⟨none, 0, rfl, .inl rfl⟩
  · refine ⟨_, _, rfl, .inr ⟨g, 0, rfl, (Array.getElem?_eq_some_iff.1 hg).1, fun i hi => ?_⟩⟩
    have e : (cur.toList.take (l.length * 1))[i]? = some (Value.int .u64 (l.getD i 0)) := by
      rw [hx, List.getElem?_map, List.getElem?_eq_getElem hi, List.getD_eq_getElem?_getD, List.getElem?_eq_getElem hi]; rfl
    rw [List.getElem?_take, if_pos (by omega)] at e
    simp only [World.cell?, hg, Nat.zero_add]
    simpa using e

theorem eqUint64S_own {B B' : Nat} {v v' : Value} {l : List Int} {w : World} (h : ownsU w B v l) (h' : ownsU w B' v' l) (hn : l.length ≤ 16777216) :
    Calls Tryz.prog 67 #[v, v'] w fun e w' => e = .returned (.bool true) ∧ Below w.heap.size w w' := by
  obtain ⟨a, cap, rfl, hs⟩ := ownsU_src h
  obtain ⟨a', cap', rfl, hs'⟩ := ownsU_src h'
  exact eqUint64S_any a a' cap cap' l w hs hs' hn

theorem ownsU_kept {w w' : World} {B : Nat} {v : Value} {l : List Int} {row : Option Nat} (h : ownsU w B v l) (hg : w.grownBy w' row) (hne : ∀ q, v.ownBlock = some q → some q ≠ row) : ownsU w' B v l := by
  refine World.ownsRow.kept h hg ?_
  cases hv : v.ownBlock with
  | none => exact .inl rfl
  | some q => exact .inr (hne q hv)

/-- the cells of the row D from number 0 to j hold the marks k, k + 1, .. -/
def MarksU (w : World) (D N : Nat) (k : Int) (j : Nat) : Prop := ∃ f, w.rowIs D 67 N f ∧ ∀ i, i < j → f i = .int .u64 (k + i)

theorem MarksU.step {w : World} {D N j : Nat} {k : Int} (h : MarksU w D N k j) : MarksU (w.setCell ⟨D, j, none⟩ (.int .u64 (k + j))) D N k (j + 1) := by
  obtain ⟨f, hr, hf⟩ := h
  refine ⟨_, hr.set _ _, fun i hi => ?_⟩
  by_cases e : i = j
  · rw [if_pos e, e]
  · rw [if_neg e]; exact hf i (by omega)

theorem MarksU.own {w : World} {D N j : Nat} {k : Int} (h : MarksU w D N k j) (i : Nat) (hi : i < N) : ∃ v, w.cell? ⟨D, i, none⟩ = some v ∧ w.frozen? ⟨D, i, none⟩ = false := by
  obtain ⟨f, hr, _⟩ := h
  exact ⟨_, hr.cell hi, hr.frozen i⟩

set_option maxHeartbeats 1000000 in
theorem markUint64S_some (D n cap N : Nat) (k : Int) (w : World) (hM : MarksU w D N k 0) (hN : n ≤ N) (hn : n ≤ 16777216) (h0 : 0 ≤ k) (h1 : k ≤ 16777216) :
    Calls Tryz.prog 34 #[.slice (some ⟨D, 0, none⟩) n cap, .int .i64 k] w fun e w' => e = .returned (.int .i64 (k + n)) ∧ MarksU w' D N k n ∧ w.grownBy w' (some D) := by
  go_enter Tryz.func34, Tryz.ntmps34
  go_wp2_with fail
  go_loopw [1, 5] (fun q i wr => ∃ j : Nat, j ≤ n ∧ i = .int .i64 j ∧ q = .int .i64 (k + j) ∧ MarksU wr D N k j ∧ w.grownBy wr (some D)) (fun _ i _ => n - (intOf i).toNat)
  case atStart => exact ⟨0, by omega, rfl, by go_num, hM, World.grownBy.refl _ _⟩
  case round =>
    obtain ⟨j, hj, rfl, rfl, hM', hG⟩ := hrel
    by_cases hlt : j < n
    · obtain ⟨v, e0, f0⟩ := hM'.own j (by omega)
      go_wp2
      go_roundw
      case rel => exact ⟨j + 1, by omega, by go_num, by go_num, hM'.step, grown_setCell hG _ _⟩
      case measure => simp [intOf]; omega
    · go_wp2
      go_ret
      have hjn : j = n := by omega
      subst hjn
      exact ⟨rfl, hM', hG⟩

theorem ownsU_marks {w : World} {base g n cap : Nat} {l : List Int} (h : ownsU w base (.slice (some ⟨g, 0, none⟩) n cap) l) (k : Int) : n = l.length ∧ n ≤ cap ∧ base ≤ g ∧ MarksU w g cap k 0 := by
  obtain ⟨_, h | ⟨g', cap', cur, hv, hb, hg, hn, hm, hs, hx⟩⟩ := h
  · simp at h
  · simp only [Value.slice.injEq, Option.some.injEq, Addr.mk.injEq] at hv
    obtain ⟨⟨rfl, _⟩, rfl, rfl⟩ := hv
    refine ⟨rfl, hn, hb, fun i => cur.getD i undef, ⟨cur, hg, by omega, fun i hi => ?_⟩, fun i hi => by omega⟩
    simp [show i < cur.size by omega]

/-- the marks k, k + 1, .. stand in the n bytes of v -/
def MarkedU (w : World) (v : Value) (n : Nat) (k : Int) : Prop := (v = .slice none 0 0 ∧ n = 0) ∨ ∃ g cap, v = .slice (some ⟨g, 0, none⟩) n cap ∧ n ≤ cap ∧ MarksU w g cap k n

set_option maxHeartbeats 1000000 in
theorem markUint64S_nil (k : Int) (w : World) : Calls Tryz.prog 34 #[.slice none 0 0, .int .i64 k] w fun e w' => e = .returned (.int .i64 k) ∧ w' = w := by
  go_enter Tryz.func34, Tryz.ntmps34
  go_wp2_with fail
  go_loopw [1, 5] (fun q i wr => q = .int .i64 k ∧ i = .int .i64 0 ∧ wr = w) (fun _ i _ => 0)
  case atStart => exact ⟨rfl, rfl, rfl⟩
  case round =>
    obtain ⟨rfl, rfl, rfl⟩ := hrel
    go_wp2
    go_ret
    exact ⟨rfl, rfl⟩

theorem markUint64S_own {B : Nat} {v : Value} {l : List Int} {w : World} (k : Int) (h : ownsU w B v l) (hn : l.length ≤ 16777216) (h0 : 0 ≤ k) (h1 : k ≤ 16777216) :
    Calls Tryz.prog 34 #[v, .int .i64 k] w fun e w' => e = .returned (.int .i64 (k + l.length)) ∧ MarkedU w' v l.length k ∧ w.grownBy w' v.ownBlock := by
  have h' := h
  obtain ⟨_, h2 | ⟨g, cap, cur, rfl, hb, hg, hn', hm, hs, hx⟩⟩ := h
  · obtain ⟨rfl, h3⟩ := h2
    refine (markUint64S_nil k w).mono ?_
    rintro e w' ⟨rfl, rfl⟩
    exact ⟨ret_int (by omega), .inl ⟨rfl, h3⟩, World.grownBy.refl _ _⟩
  · obtain ⟨_, hc, _, hM⟩ := ownsU_marks h' k
    refine (markUint64S_some g l.length cap cap k w hM hc hn h0 h1).mono ?_
    rintro e w' ⟨rfl, hM', hG⟩
    exact ⟨rfl, .inr ⟨g, cap, rfl, hc, hM'⟩, hG⟩

/-- an own row of numbers, laid by make and written cell by cell -/
def UptoU (w : World) (D n : Nat) (l : List Int) (k : Nat) : Prop := ∃ f, w.rowIs D 67 n f ∧ ∀ j, j < k → f j = .int .u64 (l.getD j 0)

theorem UptoU.step {w : World} {D n k : Nat} {l : List Int} (h : UptoU w D n l k) : UptoU (w.setCell ⟨D, k, none⟩ (.int .u64 (l.getD k 0))) D n l (k + 1) := by
  obtain ⟨f, hr, hf⟩ := h
  refine ⟨_, hr.set _ _, fun j hj => ?_⟩
  by_cases e : j = k
  · rw [if_pos e, e]
  · rw [if_neg e]; exact hf j (by omega)

theorem UptoU.own {w : World} {D n k : Nat} {l : List Int} (h : UptoU w D n l k) (j : Nat) (hj : j < n) : ∃ v, w.cell? ⟨D, j, none⟩ = some v ∧ w.frozen? ⟨D, j, none⟩ = false := by
  obtain ⟨f, hr, _⟩ := h
  exact ⟨_, hr.cell hj, hr.frozen j⟩

theorem UptoU.ownsU {w : World} {D : Nat} {l : List Int} (h : UptoU w D l.length l l.length) (hm : l.length ≤ maxLen) : ownsU w D (.slice (some ⟨D, 0, none⟩) l.length l.length) l := by
  obtain ⟨f, ⟨c, hc, hs, hcf⟩, hf⟩ := h
  refine ⟨by simp, .inr ⟨D, l.length, c, rfl, Nat.le_refl _, hc, Nat.le_refl _, hm, by omega, ?_⟩⟩
  apply List.ext_getElem?
  intro i
  by_cases hi : i < l.length
  · rw [List.getElem?_take, if_pos (by omega), Array.getElem?_toList, hcf i hi, hf i hi, List.getElem?_map, List.getElem?_eq_getElem hi, List.getD_eq_getElem?_getD, List.getElem?_eq_getElem hi]; rfl
  · rw [List.getElem?_take, if_neg (by omega), List.getElem?_map, List.getElem?_eq_none (by omega)]; rfl

set_option maxHeartbeats 1000000 in
theorem toUint64S_any (a : Option Addr) (cap : Nat) (l : List Int) (w : World) (hs : USrc w a l) (hn : l.length ≤ 1048576) :
    Calls Tryz.prog 40 #[.slice a l.length cap] w fun e w' => e = .returned (.slice (some ⟨w.heap.size, 0, none⟩) l.length l.length) ∧ ownsU w' w.heap.size (.slice (some ⟨w.heap.size, 0, none⟩) l.length l.length) l ∧ Below w.heap.size w w' := by
  obtain ⟨i0, hi, hz0, hz1, hz2⟩ := info_parts info61
  have HO : Hid (∀ wx, UptoU wx w.heap.size l.length l l.length → ownsU wx w.heap.size (.slice (some ⟨w.heap.size, 0, none⟩) l.length l.length) l) := fun wx h => h.ownsU (by unfold maxLen; omega)
  have HS : Hid (∀ k, k < l.length → ∃ b o, a = some ⟨b, o, none⟩ ∧ b < w.heap.size ∧ w.cell? ⟨b, o + k, none⟩ = some (.int .u64 (l.getD k 0))) := by
    intro k hk
    rcases hs with rfl | ⟨b, o, ha, hb, hp⟩
    · simp at hk
    · exact ⟨b, o, ha, hb, hp k hk⟩
  clear hs
  generalize l.length = n at *
  have hmk : ∀ u : World, (Instr.makeSlice 42 (.int .i64 (n : Int)) (.int .i64 (n : Int))).run Tryz.prog u =
      .ok (.slice (some ⟨u.heap.size, 0, none⟩) n n) (u.alloc (.cells (madeCells #[.int .u64 0] n) 67)) := fun u => by
    have h := run_make (P := Tryz.prog) u 42 67 i0 _ Tryz.underlying42 hi hz0 .i64 .i64 (n : Int) (n : Int) (by omega) (Int.le_refl _) (by rw [hz2]; omega) (by omega)
    simpa [hz1, Value.cells] using h
  go_enter Tryz.func40, Tryz.ntmps40
  go_wp2_with fail
  clear hmk hi hz0 hz1 hz2
  have hU : UptoU (w.alloc (.cells (madeCells #[.int .u64 0] n) 67)) w.heap.size n l 0 := ⟨_, World.rowIs_made w (.int .u64 0) n 67, fun j hj => by omega⟩
  have hB : Below w.heap.size w (w.alloc (.cells (madeCells #[.int .u64 0] n) 67)) := (Below.refl _ _).alloc (Nat.le_refl _) _
  generalize w.alloc (.cells (madeCells #[.int .u64 0] n) 67) = W at *
  go_loopw [4] (fun i wr => ∃ k : Nat, k ≤ n ∧ i = .int .i64 k ∧ UptoU wr w.heap.size n l k ∧ Below w.heap.size w wr) (fun i _ => n - (intOf i).toNat)
  case atStart => exact ⟨0, by omega, rfl, hU, hB⟩
  case round =>
    obtain ⟨k, hk, rfl, hU', hB'⟩ := hrel
    clear hU hB
    by_cases hlt : k < n
    · obtain ⟨b, o, ha, hb, c0⟩ := HS.out k hlt
      have d0 := (hB'.cell (p := ⟨b, _, none⟩) hb).trans c0
      obtain ⟨v0, e0, f0⟩ := hU'.own k hlt
      have HU := hU'.step
      have HB := hB'.setCell (p := ⟨w.heap.size, k, none⟩) (Nat.le_refl _) (.int .u64 (l.getD k 0))
      clear c0 hU' hB' HS HO
      subst ha
      generalize l.getD k 0 = x at *
      go_wp2
      go_roundw
      case rel => exact ⟨k + 1, by omega, by go_num, HU, HB⟩
      case measure => simp [intOf]; omega
    · have hkn : k = n := by omega
      subst hkn
      go_wp2
      go_ret
      exact ⟨rfl, HO.out _ hU', hB'⟩

theorem ownsU_below {w w1 : World} {base : Nat} {v : Value} {l : List Int} (h : ownsU w base v l) (hb : Below w.heap.size w w1) : ownsU w1 base v l :=
  World.ownsRow.kept (row := none) h ⟨hb.os, hb.tape, hb.output, hb.size, fun k hk _ => hb.block k hk⟩ (by cases v.ownBlock <;> simp)

/-- an own row that is not empty lies at an address -/
theorem ownsU_at {w : World} {base : Nat} {v : Value} {l : List Int} (h : ownsU w base v l) (h0 : 0 < l.length) :
    ∃ g cap, v = .slice (some ⟨g, 0, none⟩) l.length cap ∧ base ≤ g ∧ ∀ j u, (l.map (Value.int .u64))[j]? = some u → w.cell? ((⟨g, 0, none⟩ : Addr).add j) = some u := by
  have h' := h
  obtain ⟨_, h | ⟨g, cap, cur, rfl, hb, hg, hn, hm, hs, hx⟩⟩ := h
  · omega
  · exact ⟨g, cap, rfl, hb, h'.cells rfl⟩

theorem longs_oneCell (l : List Int) : ∀ u ∈ l.map (Value.int .u64), u.oneCell' = true := ints_oneCell .u64 l
end Go.Proofs.YtljhccolmcoifaaGreat
namespace Go.Proofs.YtljhccolmcoifaaGreat
open Go.RowKit
set_option linter.unusedVariables false

/-- the value of one call, its arguments in v -/
abbrev callV (c : C) (v : Value) : Value := .agg #[.int .u32 c.arch, .int .u32 c.nr, v]

set_option maxHeartbeats 1000000 in
theorem szUint64S_any (a : Option Addr) (n cap : Nat) (left : Int) (w : World) (hn : n ≤ 9223372036854775807) (h0 : 0 ≤ left) (h1 : left ≤ 1048576) :
    Calls Tryz.prog 37 #[.slice a n cap, .int .i64 left] w fun e w' => e = .returned (.int .i64 (if left - n < 0 then -1 else left - n)) ∧ w' = w := by
  go_enter Tryz.func37, Tryz.ntmps37
  go_wp2
  all_goals (go_ret)
  all_goals exact ⟨rfl, rfl⟩

set_option maxHeartbeats 1000000 in
theorem szCall_any (c : C) (a : Option Addr) (cap : Nat) (left : Int) (w : World) (hn : c.args.length ≤ 9223372036854775807) (h0 : 0 ≤ left) (h1 : left ≤ 1048576) :
    Calls Tryz.prog 14 #[callV c (.slice a c.args.length cap), .int .i64 left] w fun e w' => e = .returned (.int .i64 (if left - c.args.length < 0 then -1 else left - c.args.length)) ∧ Below w.heap.size w w' := by
  obtain ⟨ar, nr, args⟩ := c
  simp only at hn ⊢
  generalize args.length = n at *
  by_cases hlt : left - n < 0
  · rw [if_pos hlt]
    go_enter Tryz.func14, Tryz.ntmps14
    go_wp2_with fail
    refine (szUint64S_any a n cap left _ hn h0 h1).mono ?_
    rintro e w1 ⟨rfl, rfl⟩
    rw [if_pos hlt]
    go_wp2
    go_ret
    exact ⟨rfl, (Below.refl _ _).alloc (Nat.le_refl _) _⟩
  · rw [if_neg hlt]
    go_enter Tryz.func14, Tryz.ntmps14
    go_wp2_with fail
    refine (szUint64S_any a n cap left _ hn h0 h1).mono ?_
    rintro e w1 ⟨rfl, rfl⟩
    rw [if_neg (by omega)]
    go_wp2
    go_ret
    exact ⟨rfl, (Below.refl _ _).alloc (Nat.le_refl _) _⟩

theorem ownsU_set {w : World} {B D j : Nat} {v x : Value} {l : List Int} (h : ownsU w B v l) (hne : ∀ q, v.ownBlock = some q → q ≠ D) : ownsU (w.setCell ⟨D, j, none⟩ x) B v l :=
  ownsU_kept h (grown_setCell (World.grownBy.refl _ _) j x) (fun q hq e => hne q hq (by simpa using e))
theorem ownsU_mono {w : World} {B B' : Nat} {v : Value} {l : List Int} (h : ownsU w B v l) (hb : B' ≤ B) : ownsU w B' v l := by
  obtain ⟨h0, h | ⟨g, cap, cur, rfl, hb', hr⟩⟩ := h
  · exact ⟨h0, .inl h⟩
  · exact ⟨h0, .inr ⟨g, cap, cur, rfl, by omega, hr⟩⟩
/-- the three cells of a box -/
structure Box3 (w : World) (g : Nat) (x y z : Value) : Prop where
  lt : g < w.heap.size
  c0 : w.cell? ⟨g, 0, none⟩ = some x
  c1 : w.cell? ⟨g, 1, none⟩ = some y
  c2 : w.cell? ⟨g, 2, none⟩ = some z
  f0 : w.frozen? ⟨g, 0, none⟩ = false
  f1 : w.frozen? ⟨g, 1, none⟩ = false
  f2 : w.frozen? ⟨g, 2, none⟩ = false
theorem Box3.keep {w w1 : World} {g : Nat} {x y z : Value} (h : Box3 w g x y z) (hb : Below w.heap.size w w1) : Box3 w1 g x y z :=
  ⟨Nat.lt_of_lt_of_le h.lt hb.size, (hb.cell (p := ⟨g, _, none⟩) h.lt).trans h.c0, (hb.cell (p := ⟨g, _, none⟩) h.lt).trans h.c1, (hb.cell (p := ⟨g, _, none⟩) h.lt).trans h.c2,
    (hb.frozen (p := ⟨g, _, none⟩) h.lt).trans h.f0, (hb.frozen (p := ⟨g, _, none⟩) h.lt).trans h.f1, (hb.frozen (p := ⟨g, _, none⟩) h.lt).trans h.f2⟩
theorem Box3.new (w : World) (t : TypeId) (x y z : Value) : Box3 (w.alloc (.cells #[x, y, z] t)) w.heap.size x y z :=
  ⟨by simp, by simp, by simp, by simp, by simp, by simp, by simp⟩
theorem Box3.alloc {w : World} {g : Nat} {x y z : Value} (h : Box3 w g x y z) (o : Obj) : Box3 (w.alloc o) g x y z := h.keep ((Below.refl _ _).alloc (Nat.le_refl _) o)

set_option maxHeartbeats 1000000 in
theorem toCall_any (c : C) (a : Option Addr) (cap : Nat) (w : World) (hs : USrc w a c.args) (hn : c.args.length ≤ 1048576) :
    Calls Tryz.prog 18 #[callV c (.slice a c.args.length cap)] w fun e w' => ∃ v', e = .returned (callV c v') ∧ ownsU w' w.heap.size v' c.args ∧ Below w.heap.size w w' := by
  obtain ⟨ar, nr, args⟩ := c
  simp only at hs hn ⊢
  have HC : Hid (∀ w1, Below w.heap.size w w1 → Calls Tryz.prog 40 #[.slice a args.length cap] w1 fun e w' => e = .returned (.slice (some ⟨w1.heap.size, 0, none⟩) args.length args.length) ∧ ownsU w' w1.heap.size (.slice (some ⟨w1.heap.size, 0, none⟩) args.length args.length) args ∧ Below w1.heap.size w1 w') :=
    fun w1 hB => toUint64S_any a cap args w1 (hs.below hB) hn
  clear hs
  generalize args.length = n at *
  go_enter Tryz.func18, Tryz.ntmps18
  go_wp2_with fail
  refine (HC.out _ ((((Below.refl _ _).alloc (Nat.le_refl _) _).alloc (by simp) _).alloc (by simp; omega) _)).mono ?_
  rintro e w1 ⟨rfl, o1, hb1⟩
  have b2 := (Box3.new _ _ _ _ _ : Box3 ((((w.alloc (.cells #[.int .u32 ar, .int .u32 nr, .slice a n cap] 44)).alloc (.cells #[.int .u32 0, .int .u32 0, .slice none 0 0] 48)).alloc (.cells #[.int .u32 ar, .int .u32 nr, .slice none 0 0] 48))) _ _ _ _).keep hb1
  have b1 := ((Box3.new _ _ _ _ _ : Box3 ((w.alloc (.cells #[.int .u32 ar, .int .u32 nr, .slice a n cap] 44)).alloc (.cells #[.int .u32 0, .int .u32 0, .slice none 0 0] 48)) _ _ _ _).alloc _).keep hb1
  have hB1 : Below w.heap.size w w1 := ((((Below.refl w.heap.size w).alloc (Nat.le_refl _) _).alloc (by simp) _).alloc (by simp; omega) _).trans (hb1.mono (by simp; omega))
  have hsz : ∀ (u : World) (o : Obj), (u.alloc o).heap.size = u.heap.size + 1 := fun u o => by simp
  simp only [hsz] at b1 b2 o1 ⊢
  have o2 : ownsU w1 w.heap.size (.slice (some ⟨w.heap.size + 1 + 1 + 1, 0, none⟩) n n) args := ownsU_mono o1 (by omega)
  obtain ⟨l1, p0, p1, p2, q0, q1, q2⟩ := b1
  obtain ⟨l2, r0, r1, r2, s0, s1, s2⟩ := b2
  clear hb1 o1 HC hsz
  go_wp2
  refine bodyPost_ret (v := callV ⟨ar, nr, args⟩ (.slice (some ⟨w.heap.size + 1 + 1 + 1, 0, none⟩) n n)) (by simp [results, Tryz.results18, go_sem, p0, p1, p2]) rfl ⟨_, rfl, ?_, ?_⟩
  · refine ownsU_set (ownsU_set (ownsU_set (ownsU_set o2 ?_) ?_) ?_) ?_
    all_goals (intro q hq; simp [Value.ownBlock] at hq; omega)
  · refine (((hB1.setCell ?_ _).setCell ?_ _).setCell ?_ _).setCell ?_ _
    all_goals (simp only; omega)

set_option maxHeartbeats 1000000 in
theorem eqCall_own {B B' : Nat} {c : C} {v v' : Value} {w : World} (h : ownsU w B v c.args) (h' : ownsU w B' v' c.args) (hn : c.args.length ≤ 16777216) :
    Calls Tryz.prog 33 #[callV c v, callV c v'] w fun e w' => e = .returned (.bool true) ∧ Below w.heap.size w w' := by
  obtain ⟨ar, nr, args⟩ := c
  simp only at h h' hn ⊢
  have HC : Hid (∀ w1, Below w.heap.size w w1 → Calls Tryz.prog 67 #[v, v'] w1 fun e w' => e = .returned (.bool true) ∧ Below w1.heap.size w1 w') :=
    fun w1 hB => eqUint64S_own (ownsU_below h hB) (ownsU_below h' hB) hn
  clear h h'
  go_enter Tryz.func33, Tryz.ntmps33
  go_wp2_with fail
  have hB0 : Below w.heap.size w ((w.alloc (.cells #[.int .u32 ar, .int .u32 nr, v] 48)).alloc (.cells #[.int .u32 ar, .int .u32 nr, v'] 48)) := ((Below.refl _ _).alloc (Nat.le_refl _) _).alloc (by simp) _
  refine (HC.out _ hB0).mono ?_
  rintro e w1 ⟨rfl, hb1⟩
  have hB1 := hB0.trans (hb1.mono hB0.size)
  go_wp2
  go_ret
  exact ⟨rfl, hB1⟩

end Go.Proofs.YtljhccolmcoifaaGreat
namespace Go.Proofs.YtljhccolmcoifaaGreat
open Go.RowKit
set_option linter.unusedVariables false

/-- calls at an address, each with its arguments where its third cell says -/
def CAt (w : World) (b o : Nat) (cs : List C) : Prop :=
  ∀ i, i < cs.length → w.cell? ⟨b, o + i * 3, none⟩ = some (.int .u32 (cs.getD i C.zero).arch) ∧ w.cell? ⟨b, o + i * 3 + 1, none⟩ = some (.int .u32 (cs.getD i C.zero).nr) ∧
    ∃ a cap, w.cell? ⟨b, o + i * 3 + 2, none⟩ = some (.slice a (cs.getD i C.zero).args.length cap) ∧ USrc w a (cs.getD i C.zero).args
/-- calls that came in, or were made: nil or empty, or at an address -/
def CSrc (w : World) (a : Option Addr) (cs : List C) : Prop := cs = [] ∨ ∃ b o, a = some ⟨b, o, none⟩ ∧ b < w.heap.size ∧ CAt w b o cs

theorem CAt.below {w w' : World} {b o : Nat} {cs : List C} (h : CAt w b o cs) (hlt : b < w.heap.size) (hb : Below w.heap.size w w') : CAt w' b o cs := by
  intro i hi
  obtain ⟨c0, c1, a, cap, c2, hs⟩ := h i hi
  exact ⟨(hb.cell (p := ⟨b, _, none⟩) hlt).trans c0, (hb.cell (p := ⟨b, _, none⟩) hlt).trans c1, a, cap, (hb.cell (p := ⟨b, _, none⟩) hlt).trans c2, hs.below hb⟩
theorem CSrc.below {w w' : World} {a : Option Addr} {cs : List C} (h : CSrc w a cs) (hb : Below w.heap.size w w') : CSrc w' a cs := by
  rcases h with h | ⟨b, o, ha, hlt, hc⟩
  · exact .inl h
  · exact .inr ⟨b, o, ha, Nat.lt_of_lt_of_le hlt hb.size, hc.below hlt hb⟩
end Go.Proofs.YtljhccolmcoifaaGreat
