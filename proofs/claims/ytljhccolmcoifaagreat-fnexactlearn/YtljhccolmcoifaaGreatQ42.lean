/-
  CallW, DistA, DistB
-/
import Derived.Test.YtljhccolmcoifaaGreatQ11
import Derived.Test.YtljhccolmcoifaaGreatQ41
import Derived.Laws.OwnMore
namespace Go.Proofs.YtljhccolmcoifaaGreat
open Go.RowKit
set_option linter.unusedVariables false

/-- the calls cs in block D (of N places), their arguments in values of their own, each behind the one before -/
structure OwnC (w : World) (D N : Nat) (vs : Nat → Value) (cs : List C) : Prop where
  row : ∃ f, w.rowIs D 48 (N * 3) f ∧ ∀ i, i < cs.length → f (i * 3) = .int .u32 (cs.getD i C.zero).arch ∧ f (i * 3 + 1) = .int .u32 (cs.getD i C.zero).nr ∧ f (i * 3 + 2) = vs i
  le : cs.length ≤ N
  own : ∀ i, i < cs.length → ownsU w (D + 1) (vs i) (cs.getD i C.zero).args
  inc : ∀ i j p q, i < j → j < cs.length → (vs i).ownBlock = some p → (vs j).ownBlock = some q → p < q

theorem OwnC.lt {w : World} {D N : Nat} {vs : Nat → Value} {cs : List C} (h : OwnC w D N vs cs) : D < w.heap.size := by
  obtain ⟨f, hr, _⟩ := h.row; exact hr.lt
theorem OwnC.src {w : World} {D N : Nat} {vs : Nat → Value} {cs : List C} (h : OwnC w D N vs cs) : CSrc w (some ⟨D, 0, none⟩) cs := by
  obtain ⟨f, hr, hf⟩ := h.row
  have hle := h.le
  refine .inr ⟨D, 0, rfl, hr.lt, fun i hi => ?_⟩
  obtain ⟨f0, f1, f2⟩ := hf i hi
  obtain ⟨a, cap, e, hs⟩ := ownsU_src (h.own i hi)
  refine ⟨?_, ?_, a, cap, ?_, hs⟩
  · rw [Nat.zero_add, hr.cell (by omega), f0]
  · rw [Nat.zero_add, hr.cell (by omega), f1]
  · rw [Nat.zero_add, hr.cell (by omega), f2, e]
theorem OwnC.below {w w1 : World} {D N : Nat} {vs : Nat → Value} {cs : List C} (h : OwnC w D N vs cs) (hb : Below w.heap.size w w1) : OwnC w1 D N vs cs := by
  obtain ⟨f, hr, hf⟩ := h.row
  exact ⟨⟨f, hr.of_block (hb.block D hr.lt), hf⟩, h.le, fun i hi => ownsU_below (h.own i hi) hb, h.inc⟩
/-- the next call is written into the row -/
theorem OwnC.snoc {w w1 : World} {D N k : Nat} {vs : Nat → Value} {cs : List C} {v' : Value} (h : OwnC w D N vs (cs.take k)) (hk : k < cs.length) (hN : cs.length ≤ N) (hb : Below w.heap.size w w1) (hv : ownsU w1 w.heap.size v' (cs.getD k C.zero).args) :
    OwnC (((w1.setCell ⟨D, k * 3, none⟩ (.int .u32 (cs.getD k C.zero).arch)).setCell ⟨D, k * 3 + 1, none⟩ (.int .u32 (cs.getD k C.zero).nr)).setCell ⟨D, k * 3 + 2, none⟩ v') D N (fun i => if i = k then v' else vs i) (cs.take (k + 1)) := by
  have hl : (cs.take k).length = k := by simp; omega
  have hl1 : (cs.take (k + 1)).length = k + 1 := by simp; omega
  have hD := h.lt
  have h1 := h.below hb
  obtain ⟨f, hr, hf⟩ := h1.row
  have hvD : ∀ q, v'.ownBlock = some q → q ≠ D := fun q hq => by have := (hv.lt q hq).1; omega
  have hwD : ∀ i, i < k → ∀ q, (vs i).ownBlock = some q → q ≠ D := fun i hi q hq => by have := ((h.own i (by omega)).lt q hq).1; omega
  refine ⟨⟨_, ((hr.set _ _).set _ _).set _ _, fun i hi => ?_⟩, by omega, fun i hi => ?_, fun i j p q hij hj hp hq => ?_⟩
  · rw [hl1] at hi
    rw [getD_take (by omega)]
    by_cases e : i = k
    · subst e
      refine ⟨?_, ?_, ?_⟩
      · rw [if_neg (by omega), if_neg (by omega), if_pos rfl]
      · rw [if_neg (by omega), if_pos rfl]
      · rw [if_pos rfl, if_pos rfl]
    · obtain ⟨f0, f1, f2⟩ := hf i (by omega)
      rw [getD_take (by omega)] at f0 f1
      refine ⟨?_, ?_, ?_⟩
      · rw [if_neg (by omega), if_neg (by omega), if_neg (by omega), f0]
      · rw [if_neg (by omega), if_neg (by omega), if_neg (by omega), f1]
      · rw [if_neg (by omega), if_neg (by omega), if_neg (by omega), f2, if_neg e]
  · rw [hl1] at hi
    rw [getD_take (by omega)]
    by_cases e : i = k
    · subst e
      simp only [if_true]
      exact ownsU_set (ownsU_set (ownsU_set (ownsU_mono hv (by omega)) hvD) hvD) hvD
    · simp only [if_neg e]
      have h2 := h1.own i (by omega)
      rw [getD_take (by omega)] at h2
      exact ownsU_set (ownsU_set (ownsU_set h2 (hwD i (by omega))) (hwD i (by omega))) (hwD i (by omega))
  · rw [hl1] at hj
    by_cases e : j = k
    · subst e
      simp only [if_true] at hq
      rw [if_neg (by omega)] at hp
      have h2 := ((h.own i (by omega)).lt p hp).2
      have h3 := (hv.lt q hq).1
      omega
    · rw [if_neg (by omega)] at hp hq
      exact h.inc i j p q hij (by omega) hp hq
theorem OwnC.cellOk {w : World} {D N : Nat} {vs : Nat → Value} {cs : List C} (h : OwnC w D N vs cs) (j : Nat) (hj : j < N * 3) : ∃ v, w.cell? ⟨D, j, none⟩ = some v ∧ w.frozen? ⟨D, j, none⟩ = false := by
  obtain ⟨f, hr, _⟩ := h.row
  exact ⟨_, hr.cell hj, hr.frozen j⟩

theorem infoCall : (Tryz.prog.info? 48).map (fun i => (i.zero, i.size, i.bytes)) = some (some (.agg #[.int .u32 0, .int .u32 0, .slice none 0 0]), 3, 32) := by kernel_rfl

set_option maxRecDepth 100000 in
set_option maxHeartbeats 2000000 in
theorem toCallS_any (a : Option Addr) (cap : Nat) (cs : List C) (w : World) (hs : CSrc w a cs) (hn : cs.length ≤ 1048576) (hm : ∀ c ∈ cs, c.args.length ≤ 1048576) :
    Calls Tryz.prog 6 #[.slice a cs.length cap] w fun e w' => ∃ vs, e = .returned (.slice (some ⟨w.heap.size, 0, none⟩) cs.length cs.length) ∧ OwnC w' w.heap.size cs.length vs cs ∧ Below w.heap.size w w' := by
  obtain ⟨i0, hi, hz0, hz1, hz2⟩ := info_parts infoCall
  have HP : Hid (∀ w1, Below w.heap.size w w1 → CSrc w1 a cs) := fun w1 hB => hs.below hB
  have HM : Hid (∀ i, i < cs.length → (cs.getD i C.zero).args.length ≤ 1048576) := fun i hi => hm _ (callL_mem hi)
  have HA : Hid (cs.take cs.length = cs) := List.take_length
  obtain ⟨n, hn'⟩ : ∃ n, cs.length = n := ⟨_, rfl⟩
  have HN : Hid (cs.length = n) := hn'
  rw [hn'] at HM HA hn ⊢
  clear hs hm hn'
  have hmk : ∀ u : World, (Instr.makeSlice 31 (.int .i64 (n : Int)) (.int .i64 (n : Int))).run Tryz.prog u =
      .ok (.slice (some ⟨u.heap.size, 0, none⟩) n n) (u.alloc (.cells (madeCells #[.int .u32 0, .int .u32 0, .slice none 0 0] (n * 3)) 48)) := fun u => by
    have h := run_make (P := Tryz.prog) u 31 48 i0 _ Tryz.underlying31 hi hz0 .i64 .i64 (n : Int) (n : Int) (by omega) (Int.le_refl _) (by rw [hz2]; omega) (by omega)
    simpa [hz1, Value.cells] using h
  go_enter Tryz.func6, Tryz.ntmps6
  go_wp2_with fail
  clear hmk hi hz0 hz1 hz2
  have hU : OwnC (w.alloc (.cells (madeCells #[.int .u32 0, .int .u32 0, .slice none 0 0] (n * 3)) 48)) w.heap.size n (fun _ => .slice none 0 0) (cs.take 0) := by
    have hr := World.rowIs_alloc w (madeCells #[.int .u32 0, .int .u32 0, .slice none 0 0] (n * 3)) 48 (fun i => (madeCells #[.int .u32 0, .int .u32 0, .slice none 0 0] (n * 3)).getD i undef) (fun i h => by simp [h])
    rw [size_madeCells] at hr
    exact ⟨⟨_, hr, fun i hi => by simp at hi⟩, by simp, fun i hi => by simp at hi, fun i j p q h1 h2 => by simp at h2⟩
  have hB : Below w.heap.size w (w.alloc (.cells (madeCells #[.int .u32 0, .int .u32 0, .slice none 0 0] (n * 3)) 48)) := (Below.refl _ _).alloc (Nat.le_refl _) _
  generalize w.alloc (.cells (madeCells #[.int .u32 0, .int .u32 0, .slice none 0 0] (n * 3)) 48) = W at *
  go_loopw [4] (fun i wr => ∃ (k : Nat) (vs : Nat → Value), k ≤ n ∧ i = .int .i64 k ∧ OwnC wr w.heap.size n vs (cs.take k) ∧ Below w.heap.size w wr) (fun i _ => n - (intOf i).toNat)
  case atStart => exact ⟨0, _, by omega, rfl, hU, hB⟩
  case round =>
    obtain ⟨k, vs, hk, rfl, hU', hB'⟩ := hrel
    clear hU hB
    by_cases hlt : k < n
    · obtain ⟨b, o, ha, hbl, d0, d1, a', cap', d2, hu⟩ := (HP.out _ hB').at k (by rw [HN.out]; exact hlt)
      have hm := HM.out k hlt
      have HC : Hid (Calls Tryz.prog 18 #[callV (cs.getD k C.zero) (.slice a' (cs.getD k C.zero).args.length cap')] wr fun e w' => ∃ v', e = .returned (callV (cs.getD k C.zero) v') ∧ ownsU w' wr.heap.size v' (cs.getD k C.zero).args ∧ Below wr.heap.size wr w') := toCall_any _ a' cap' wr hu hm
      have HS : Hid (∀ w1 v', Below wr.heap.size wr w1 → ownsU w1 wr.heap.size v' (cs.getD k C.zero).args → OwnC (((w1.setCell ⟨w.heap.size, k * 3, none⟩ (.int .u32 (cs.getD k C.zero).arch)).setCell ⟨w.heap.size, k * 3 + 1, none⟩ (.int .u32 (cs.getD k C.zero).nr)).setCell ⟨w.heap.size, k * 3 + 2, none⟩ v') w.heap.size n (fun i => if i = k then v' else vs i) (cs.take (k + 1))) :=
        fun w1 v' hb hv => hU'.snoc (by rw [HN.out]; exact hlt) (by rw [HN.out]; exact Nat.le_refl _) hb hv
      have HCk : Hid (∀ w1, Below wr.heap.size wr w1 → ∀ j, j < n * 3 → ∃ v, w1.cell? ⟨w.heap.size, j, none⟩ = some v ∧ w1.frozen? ⟨w.heap.size, j, none⟩ = false) := fun w1 hb j hj => (hU'.below hb).cellOk j hj
      subst ha
      clear HP HM HA hu
      generalize cs.getD k C.zero = c at *
      obtain ⟨ar, nr, args⟩ := c
      simp only at *
      generalize args.length = m at *
      go_wp2_with fail
      refine HC.out.mono ?_
      rintro e w1 ⟨v', rfl, ov, hb1⟩
      have HS1 := HS.out w1 v' hb1 ov
      have HS2 : Hid _ := HS1
      have B1 : Below w.heap.size w w1 := hB'.trans (hb1.mono hB'.size)
      obtain ⟨v0, e0, f0⟩ := HCk.out w1 hb1 (k * 3) (by omega)
      obtain ⟨v1, e1, f1⟩ := HCk.out w1 hb1 (k * 3 + 1) (by omega)
      obtain ⟨v2, e2, f2⟩ := HCk.out w1 hb1 (k * 3 + 2) (by omega)
      obtain ⟨ax, cx, hvx, _⟩ := ownsU_src ov
      subst hvx
      have B2 := ((B1.setCell (p := ⟨w.heap.size, k * 3, none⟩) (Nat.le_refl _) (.int .u32 ar)).setCell (p := ⟨w.heap.size, k * 3 + 1, none⟩) (Nat.le_refl _) (.int .u32 nr)).setCell (p := ⟨w.heap.size, k * 3 + 2, none⟩) (Nat.le_refl _) (.slice ax args.length cx)
      clear HC HS HCk HS1 d0 d1 d2 hU' hB' ov hb1 B1
      go_wp2
      go_roundw
      case rel => exact ⟨k + 1, _, by omega, by go_num, HS2.out, B2⟩
      case measure => simp [intOf]; omega
    · have hkn : k = n := by omega
      subst hkn
      rw [HA.out] at hU'
      go_wp2
      go_ret
      exact ⟨vs, rfl, hU', hB'⟩
end Go.Proofs.YtljhccolmcoifaaGreat
namespace Go.Proofs.YtljhccolmcoifaaGreat
open Go.RowKit
set_option linter.unusedVariables false

theorem longs_one (l : List Int) : ∀ u ∈ l.map (Value.int .u64), u.oneCell' = true := ints_oneCell .u64 l

set_option maxRecDepth 100000 in
set_option maxHeartbeats 1000000 in
theorem l2copy_any (c : C) (a : Option Addr) (cap : Nat) (w : World) (h : USrc w a c.args) (hn : c.args.length ≤ 16777216) :
    Calls Tryz.prog 70 #[callV c (.slice a c.args.length cap)] w fun e w' => ∃ v', e = .returned (callV c v') ∧ ownsU w' w.heap.size v' c.args ∧ Below w.heap.size w w' := by
  obtain ⟨i0, hi, hz0, hz1, hz2⟩ := info_parts info61
  obtain ⟨ar, nr, l⟩ := c
  simp only at h hn ⊢
  have X := (Box3.new w 48 (.int .u32 ar) (.int .u32 nr) (.slice a l.length cap)).alloc (.cells #[.int .u32 0, .int .u32 0, .slice none 0 0] 48)
  have Y := Box3.new (w.alloc (.cells #[.int .u32 ar, .int .u32 nr, .slice a l.length cap] 48)) 48 (.int .u32 0) (.int .u32 0) (.slice none 0 0)
  have hsz : (w.alloc (.cells #[.int .u32 ar, .int .u32 nr, .slice a l.length cap] 48)).heap.size = w.heap.size + 1 := by simp
  have B0 : Below w.heap.size w ((w.alloc (.cells #[.int .u32 ar, .int .u32 nr, .slice a l.length cap] 48)).alloc (.cells #[.int .u32 0, .int .u32 0, .slice none 0 0] 48)) := ((Below.refl _ _).alloc (Nat.le_refl _) _).alloc (by simp) _
  rw [hsz] at Y
  clear hsz
  have HU : Hid (∀ w1, Below w.heap.size w w1 → USrc w1 a l) := fun w1 hB => h.below hB
  cases a with
  | none =>
    have hl : l = [] := by
      rcases h with h | ⟨b, o, h, _⟩
      · exact h
      · cases h
    subst hl
    have hap : ∀ u : World, (Builtin.append_ #[42, 42] 42 #[.slice none 0 0, .slice none 0 cap]).run Tryz.prog u = .ok (.slice none 0 0) u := fun u => by
      simp [Builtin.append_, run_underlying Tryz.underlying42, sizeOf, typeInfo, hi, Builtin.lenOf, Builtin.firstCells]
    obtain ⟨_, p0, p1, p2, _, _, _⟩ := X
    obtain ⟨_, r0, r1, r2, s0, s1, s2⟩ := Y
    simp only [List.length_nil] at *
    clear HU h
    go_enter Tryz.func70, Tryz.ntmps70
    go_wp2
    refine bodyPost_ret (v := callV ⟨ar, nr, []⟩ (.slice none 0 0)) (by simp [results, Tryz.results70, go_sem]) rfl ⟨_, rfl, ?_, ?_⟩
    · exact World.ownsRow_nil _ _ _ _
    · exact ((Below.refl _ _).alloc (Nat.le_refl _) _).alloc (by simp) _
  | some ad =>
    have hcell : ∀ w1, Below w.heap.size w w1 → ∀ j u, (l.map (Value.int .u64))[j]? = some u → w1.cell? (ad.add j) = some u := by
      intro w1 hB j u hj
      rcases HU.out w1 hB with hl | ⟨b, o, ha, hb, hp⟩
      · subst hl; simp at hj
      · obtain rfl : ad = ⟨b, o, none⟩ := by simpa using ha
        have hjl : j < l.length := by
          have := (List.getElem?_eq_some_iff.1 hj).1
          simpa using this
        rw [add_at, hp j hjl]
        rw [List.getElem?_map, List.getElem?_eq_getElem hjl] at hj
        rw [List.getD_eq_getElem?_getD, List.getElem?_eq_getElem hjl]
        simpa using hj
    have HCe : Hid _ := hcell _ B0
    clear hcell h HU
    go_enter Tryz.func70, Tryz.ntmps70
    go_wp2_with (at_builtin; refine wpList_append_own _ rfl (.tmp 4) (.tmp 6) 42 rfl (w.heap.size + 1 + 1) 67 i0 (.int .u64 0) 1 8 Tryz.underlying42 hi hz0 hz1 hz2 rfl (by decide) (.slice none 0 0) 0 [] rfl (World.ownsRow_nil _ _ _ _) ad l.length cap (l.map (Value.int .u64)) rfl ?c0 HCe.out (longs_one l) ?c3 ?c4 ?c5 ?_)
    case c0 => simp
    case c3 => unfold maxLen; omega
    case c4 => omega
    case c5 => simp
    intro v1 w1 ow gr _
    have o1 : ownsU w1 (w.heap.size + 1 + 1) v1 l := ow
    have b1 : Below ((w.alloc (.cells #[.int .u32 ar, .int .u32 nr, .slice (some ad) l.length cap] 48)).alloc (.cells #[.int .u32 0, .int .u32 0, .slice none 0 0] 48)).heap.size ((w.alloc (.cells #[.int .u32 ar, .int .u32 nr, .slice (some ad) l.length cap] 48)).alloc (.cells #[.int .u32 0, .int .u32 0, .slice none 0 0] 48)) w1 := (Below.refl _ _).grown gr (Nat.le_refl _) (fun q hq => by cases hq)
    have X1 := X.keep b1
    have Y1 := Y.keep b1
    have B1 := B0.trans (b1.mono B0.size)
    obtain ⟨ax, cx, hv, _⟩ := ownsU_src o1
    subst hv
    have hq : ∀ q, (Value.slice ax l.length cx).ownBlock = some q → w.heap.size + 1 + 1 ≤ q := fun q hq => (o1.lt q hq).1
    clear ow gr b1 X Y HCe B0
    obtain ⟨_, p0, p1, p2, _, _, _⟩ := X1
    obtain ⟨_, r0, r1, r2, s0, s1, s2⟩ := Y1
    go_wp2
    refine bodyPost_ret (v := callV ⟨ar, nr, l⟩ (.slice ax l.length cx)) (by simp [results, Tryz.results70, go_sem, r0, r1, r2]) rfl ⟨_, rfl, ?_, ?_⟩
    · refine ownsU_set (ownsU_set (ownsU_set (ownsU_mono o1 (by omega)) ?_) ?_) ?_
      all_goals (intro q h2; have := hq q h2; omega)
    · refine ((B1.setCell ?_ _).setCell ?_ _).setCell ?_ _
      all_goals (simp only; omega)
end Go.Proofs.YtljhccolmcoifaaGreat
namespace Go.Proofs.YtljhccolmcoifaaGreat
open Go.RowKit
set_option linter.unusedVariables false

/-- the cells of one call; of calls with the values of their arguments -/
def cC (p : C × Value) : List Value := [.int .u32 p.1.arch, .int .u32 p.1.nr, p.2]
def cCs (os : List (C × Value)) : List Value := os.flatMap cC
abbrev ownsP (w : World) (base : Nat) (v : Value) (os : List (C × Value)) : Prop := w.ownsRow base 48 3 v os.length (cCs os)
/-- the arguments of a call lie where its value says -/
def good (w : World) (p : C × Value) : Prop := ∃ a cap, p.2 = .slice a p.1.args.length cap ∧ USrc w a p.1.args
theorem good.below {w w1 : World} {p : C × Value} (h : good w p) (hb : Below w.heap.size w w1) : good w1 p := by
  obtain ⟨a, cap, e, hs⟩ := h
  exact ⟨a, cap, e, hs.below hb⟩
theorem cCs_len (os : List (C × Value)) : (cCs os).length = os.length * 3 := by
  induction os with
  | nil => rfl
  | cons p os ih => simp only [cCs, List.flatMap_cons, List.length_append, List.length_cons] at *; simp only [cC, List.length_cons, List.length_nil]; omega
theorem cCs_get (os : List (C × Value)) (i : Nat) (h : i < os.length) : (cCs os)[i * 3]? = some (.int .u32 (os.getD i (C.zero, undef)).1.arch) ∧ (cCs os)[i * 3 + 1]? = some (.int .u32 (os.getD i (C.zero, undef)).1.nr) ∧ (cCs os)[i * 3 + 2]? = some (os.getD i (C.zero, undef)).2 := by
  induction os generalizing i with
  | nil => simp at h
  | cons x p ih =>
    have e : cCs (x :: p) = cC x ++ cCs p := by simp [cCs]
    have hl : (cC x).length = 3 := rfl
    rw [e]
    match i with
    | 0 => simp [cC]
    | i + 1 =>
      have hi : i < p.length := by simpa using h
      have := ih i hi
      rw [List.getElem?_append_right (by rw [hl]; omega), List.getElem?_append_right (by rw [hl]; omega), List.getElem?_append_right (by rw [hl]; omega), hl]
      rw [show (i + 1) * 3 - 3 = i * 3 by omega, show (i + 1) * 3 + 1 - 3 = i * 3 + 1 by omega, show (i + 1) * 3 + 2 - 3 = i * 3 + 2 by omega]
      simpa using this
theorem ownsP_snoc {w : World} {base : Nat} {v : Value} {os : List (C × Value)} {p : C × Value} {n : Nat} (hn : n = os.length + 1) (h : w.ownsRow base 48 3 v n (cCs os ++ cC p)) : ownsP w base v (os ++ [p]) := by
  subst hn
  simpa [ownsP, cCs] using h
theorem ownsP_below {w w1 : World} {base : Nat} {v : Value} {os : List (C × Value)} (h : ownsP w base v os) (hb : Below w.heap.size w w1) : ownsP w1 base v os :=
  World.ownsRow.kept (row := none) h ⟨hb.os, hb.tape, hb.output, hb.size, fun k hk _ => hb.block k hk⟩ (by cases v.ownBlock <;> simp)
/-- such a row is a list of calls in memory -/
theorem ownsP_src {w : World} {base : Nat} {v : Value} {os : List (C × Value)} (h : ownsP w base v os) (hg : ∀ p ∈ os, good w p) : ∃ a cap, v = .slice a os.length cap ∧ os.length ≤ cap ∧ CSrc w a (os.map Prod.fst) := by
  obtain ⟨h0, h | ⟨g, cap, cur, rfl, hb, hgc, hn, hm, hs, hx⟩⟩ := h
  · obtain ⟨rfl, hl⟩ := h
    have : os = [] := List.eq_nil_of_length_eq_zero hl
    subst this
    exact ⟨none, 0, rfl, Nat.le_refl _, .inl rfl⟩
  · refine ⟨_, _, rfl, hn, .inr ⟨g, 0, rfl, (Array.getElem?_eq_some_iff.1 hgc).1, fun i hi => ?_⟩⟩
    have hi' : i < os.length := by simpa using hi
    have key : ∀ j u, j < os.length * 3 → (cCs os)[j]? = some u → w.cell? ⟨g, 0 + j, none⟩ = some u := by
      intro j u hj hu
      rw [← hx, List.getElem?_take, if_pos hj] at hu
      simp only [World.cell?, hgc, Nat.zero_add]
      simpa using hu
    obtain ⟨c0, c1, c2⟩ := cCs_get os i hi'
    have em : (os.map Prod.fst).getD i C.zero = (os.getD i (C.zero, undef)).1 := by
      simp [List.getD_eq_getElem?_getD, hi']
    have hmem : os.getD i (C.zero, undef) ∈ os := by rw [List.getD_eq_getElem?_getD, List.getElem?_eq_getElem hi']; exact List.getElem_mem hi'
    obtain ⟨a, c, e, hu⟩ := hg _ hmem
    rw [em]
    rw [e] at c2
    refine ⟨?_, ?_, a, c, ?_, hu⟩
    · exact key _ _ (by omega) c0
    · rw [Nat.add_assoc]; exact key _ _ (by omega) c1
    · rw [Nat.add_assoc]; exact key _ _ (by omega) c2
theorem cC_one {p : C × Value} {a : Option Addr} {n cap : Nat} (h : p.2 = .slice a n cap) : ∀ u ∈ cC p, u.oneCell' = true := by
  intro u hu
  simp only [cC, List.mem_cons, List.not_mem_nil, or_false] at hu
  rcases hu with rfl | rfl | rfl
  · rfl
  · rfl
  · rw [h]; rfl
theorem isDist_nil : IsDist [] [] := ⟨List.Pairwise.nil, fun c => Iff.rfl⟩
theorem isDist_one (c : C) : IsDist [c] [c] := ⟨List.pairwise_singleton _ _, fun c => Iff.rfl⟩

set_option maxRecDepth 100000 in
set_option maxHeartbeats 1000000 in
theorem specDist_none (a : Option Addr) (cap : Nat) (w : World) :
    Calls Tryz.prog 38 #[.slice a 0 cap] w fun e w' => e = .returned (.slice none 0 0) ∧ w' = w := by
  go_enter Tryz.func38, Tryz.ntmps38
  go_wp2_with fail
  go_loopw [3, 4] (fun s i wr => s = .slice none 0 0 ∧ i = .int .i64 0 ∧ wr = w) (fun _ i _ => 0)
  case atStart => exact ⟨rfl, rfl, rfl⟩
  case round =>
    obtain ⟨rfl, rfl, rfl⟩ := hrel
    go_wp2
    go_ret
    exact ⟨rfl, rfl⟩

set_option maxRecDepth 100000 in
set_option maxHeartbeats 1000000 in
theorem specDist_one (c : C) (a : Option Addr) (cap : Nat) (w : World) (hs : CSrc w a [c]) (hn : c.args.length ≤ 1048576) :
    Calls Tryz.prog 38 #[.slice a 1 cap] w fun e w' => ∃ a' cap', e = .returned (.slice a' 1 cap') ∧ CSrc w' a' [c] ∧ Below w.heap.size w w' := by
  obtain ⟨i0, hi, hz0, hz1, hz2⟩ := info_parts infoCall
  obtain ⟨b, o, ha, hbl, d0, d1, a1, cap1, d2, hu⟩ := hs.at 0 (by simp)
  simp only [List.getD_cons_zero, Nat.zero_mul, Nat.add_zero] at d0 d1 d2 hu
  subst ha
  have HC : Hid (Calls Tryz.prog 70 #[callV c (.slice a1 c.args.length cap1)] w fun e w' => ∃ v', e = .returned (callV c v') ∧ ownsU w' w.heap.size v' c.args ∧ Below w.heap.size w w') := l2copy_any c a1 cap1 w hu (by omega)
  have HF : Hid (∀ w1 B v v', ownsP w1 B v [(c, v')] → good w1 (c, v') → ∃ a' cap', v = .slice a' 1 cap' ∧ CSrc w1 a' [c]) := by
    intro w1 B v v' h hg
    obtain ⟨a', cap', e, _, h2⟩ := ownsP_src h (fun p hp => by simp at hp; subst hp; exact hg)
    exact ⟨a', cap', e, h2⟩
  have HG : Hid (∀ w1 v', ownsU w1 w.heap.size v' c.args → ∃ ax cx, v' = .slice ax c.args.length cx ∧ good w1 (c, v')) := by
    intro w1 v' h
    obtain ⟨ax, cx, e, h2⟩ := ownsU_src h
    exact ⟨ax, cx, e, ax, cx, e, h2⟩
  clear hs hu
  obtain ⟨ar, nr, args⟩ := c
  simp only at *
  go_enter Tryz.func38, Tryz.ntmps38
  go_wp2_with fail
  go_loopw [3, 4] (fun s i wr => (s = .slice none 0 0 ∧ i = .int .i64 0 ∧ wr = w) ∨ (i = .int .i64 1 ∧ ∃ a' cap', s = .slice a' 1 cap' ∧ CSrc wr a' [⟨ar, nr, args⟩] ∧ Below w.heap.size w wr)) (fun _ i _ => 1 - (intOf i).toNat)
  case atStart => exact .inl ⟨rfl, rfl, rfl⟩
  case round =>
    rcases hrel with ⟨rfl, rfl, rfl⟩ | ⟨rfl, a', cap', rfl, hcs, hB⟩
    · go_wp2_with fail
      refine HC.out.mono ?_
      rintro e w1 ⟨v', rfl, ov, b1⟩
      obtain ⟨ax, cx, hv, hgd⟩ := HG.out w1 v' ov
      subst hv
      have hs1 := b1.size
      clear HC HG d0 d1 d2
      go_wp2_with (at_builtin; refine wpList_append_own _ rfl (.tmp 19) (.tmp 25) 31 rfl (w1.heap.size) 48 i0 _ 3 32 Tryz.underlying31 hi hz0 hz1 hz2 rfl (by decide) (.slice none 0 0) 0 [] rfl (World.ownsRow_nil _ _ _ _) ⟨w1.heap.size, 0, none⟩ 1 1 (cC (⟨ar, nr, args⟩, .slice ax args.length cx)) rfl rfl ?c1 (cC_one rfl) ?c3 ?c4 ?c5 ?_)
      case c1 =>
        intro j u hj
        rw [add_at]
        rw [World.cell?_alloc_at _ _ _ _ (by simp)]
        simpa [cC] using hj
      case c3 => simp [maxLen]
      case c4 => simp
      case c5 => simp
      intro v2 w2 ow gr _
      have o2 : ownsP w2 w1.heap.size v2 [(⟨ar, nr, args⟩, .slice ax args.length cx)] := ownsP_snoc (os := []) rfl ow
      have b2 : Below w1.heap.size w1 w2 := ((Below.refl _ _).alloc (Nat.le_refl _) _).grown gr (by simp) (fun q hq => by cases hq)
      obtain ⟨a', cap', hv2, hcs⟩ := HF.out w2 _ v2 _ o2 (hgd.below b2)
      subst hv2
      have B2 := b1.trans (b2.mono hs1)
      clear ow gr o2 b1 b2 hgd ov HF
      go_wp2
      go_roundw
      case rel => exact .inr ⟨by go_num, a', cap', rfl, hcs, B2⟩
      case measure => simp [intOf]
    · go_wp2
      go_ret
      exact ⟨_, _, rfl, hcs, hB⟩
end Go.Proofs.YtljhccolmcoifaaGreat
