/-
  CONTRACTS over lists of calls that a value owns: copies, marks.
-/
import Derived.Test.YtjfgihmamoiipaaCallL
namespace Go.Proofs.Ytjfgihmamoiipaa
open Go.RowKit
set_option linter.unusedVariables false

/-- the calls cs in block D (of N places), their arguments in values of their own, each behind the one before -/
structure OwnC (w : World) (D N : Nat) (vs : Nat → Value) (cs : List C) : Prop where
  row : ∃ f, w.rowIs D 64 (N * 3) f ∧ ∀ i, i < cs.length → f (i * 3) = .int .u32 (cs.getD i C.zero).arch ∧ f (i * 3 + 1) = .int .u32 (cs.getD i C.zero).nr ∧ f (i * 3 + 2) = vs i
  le : cs.length ≤ N
  own : ∀ i, i < cs.length → ownsU w (D + 1) (vs i) (cs.getD i C.zero).args
  inc : ∀ i j p q, i < j → j < cs.length → (vs i).ownBlock = some p → (vs j).ownBlock = some q → p < q

theorem OwnC.lt {w : World} {D N : Nat} {vs : Nat → Value} {cs : List C} (h : OwnC w D N vs cs) : D < w.heap.size := by
  obtain ⟨f, hr, _⟩ := h.row; exact hr.lt
theorem OwnC.src {w : World} {D N : Nat} {vs : Nat → Value} {cs : List C} (h : OwnC w D N vs cs) : CSrc w (some ⟨D, 0, none⟩) cs := by
  obtain ⟨f, hr, hf⟩ := h.row
  have hle := h.le
  refine .inr ⟨D, 0, rfl, hr.lt, fun i hi => ?_⟩
  obtain ⟨f0, f1, f2⟩ := hf i hi
  obtain ⟨a, cap, e, hs⟩ := ownsU_src (h.own i hi)
  refine ⟨?_, ?_, a, cap, ?_, hs⟩
  · rw [Nat.zero_add, hr.cell (by omega), f0]
  · rw [Nat.zero_add, hr.cell (by omega), f1]
  · rw [Nat.zero_add, hr.cell (by omega), f2, e]
theorem OwnC.below {w w1 : World} {D N : Nat} {vs : Nat → Value} {cs : List C} (h : OwnC w D N vs cs) (hb : Below w.heap.size w w1) : OwnC w1 D N vs cs := by
  obtain ⟨f, hr, hf⟩ := h.row
  exact ⟨⟨f, hr.of_block (hb.block D hr.lt), hf⟩, h.le, fun i hi => ownsU_below (h.own i hi) hb, h.inc⟩
/-- the next call is written into the row -/
theorem OwnC.snoc {w w1 : World} {D N k : Nat} {vs : Nat → Value} {cs : List C} {v' : Value} (h : OwnC w D N vs (cs.take k)) (hk : k < cs.length) (hN : cs.length ≤ N) (hb : Below w.heap.size w w1) (hv : ownsU w1 w.heap.size v' (cs.getD k C.zero).args) :
    OwnC (((w1.setCell ⟨D, k * 3, none⟩ (.int .u32 (cs.getD k C.zero).arch)).setCell ⟨D, k * 3 + 1, none⟩ (.int .u32 (cs.getD k C.zero).nr)).setCell ⟨D, k * 3 + 2, none⟩ v') D N (fun i => if i = k then v' else vs i) (cs.take (k + 1)) := by
  have hl : (cs.take k).length = k := by simp; omega
  have hl1 : (cs.take (k + 1)).length = k + 1 := by simp; omega
  have hD := h.lt
  have h1 := h.below hb
  obtain ⟨f, hr, hf⟩ := h1.row
  have hvD : ∀ q, v'.ownBlock = some q → q ≠ D := fun q hq => by have := (hv.lt q hq).1; omega
  have hwD : ∀ i, i < k → ∀ q, (vs i).ownBlock = some q → q ≠ D := fun i hi q hq => by have := ((h.own i (by omega)).lt q hq).1; omega
  refine ⟨⟨_, ((hr.set _ _).set _ _).set _ _, fun i hi => ?_⟩, by omega, fun i hi => ?_, fun i j p q hij hj hp hq => ?_⟩
  · rw [hl1] at hi
    rw [getD_take (by omega)]
    by_cases e : i = k
    · subst e
      refine ⟨?_, ?_, ?_⟩
      · rw [if_neg (by omega), if_neg (by omega), if_pos rfl]
      · rw [if_neg (by omega), if_pos rfl]
      · rw [if_pos rfl, if_pos rfl]
    · obtain ⟨f0, f1, f2⟩ := hf i (by omega)
      rw [getD_take (by omega)] at f0 f1
      refine ⟨?_, ?_, ?_⟩
      · rw [if_neg (by omega), if_neg (by omega), if_neg (by omega), f0]
      · rw [if_neg (by omega), if_neg (by omega), if_neg (by omega), f1]
      · rw [if_neg (by omega), if_neg (by omega), if_neg (by omega), f2, if_neg e]
  · rw [hl1] at hi
    rw [getD_take (by omega)]
    by_cases e : i = k
    · subst e
      simp only [if_true]
      exact ownsU_set (ownsU_set (ownsU_set (ownsU_mono hv (by omega)) hvD) hvD) hvD
    · simp only [if_neg e]
      have h2 := h1.own i (by omega)
      rw [getD_take (by omega)] at h2
      exact ownsU_set (ownsU_set (ownsU_set h2 (hwD i (by omega))) (hwD i (by omega))) (hwD i (by omega))
  · rw [hl1] at hj
    by_cases e : j = k
    · subst e
      simp only [if_true] at hq
      rw [if_neg (by omega)] at hp
      have h2 := ((h.own i (by omega)).lt p hp).2
      have h3 := (hv.lt q hq).1
      omega
    · rw [if_neg (by omega)] at hp hq
      exact h.inc i j p q hij (by omega) hp hq
theorem OwnC.cellOk {w : World} {D N : Nat} {vs : Nat → Value} {cs : List C} (h : OwnC w D N vs cs) (j : Nat) (hj : j < N * 3) : ∃ v, w.cell? ⟨D, j, none⟩ = some v ∧ w.frozen? ⟨D, j, none⟩ = false := by
  obtain ⟨f, hr, _⟩ := h.row
  exact ⟨_, hr.cell hj, hr.frozen j⟩

theorem infoCall : (Try.prog.info? 64).map (fun i => (i.zero, i.size, i.bytes)) = some (some (.agg #[.int .u32 0, .int .u32 0, .slice none 0 0]), 3, 32) := by kernel_rfl

set_option maxRecDepth 100000 in
set_option maxHeartbeats 2000000 in
theorem toCallS_any (a : Option Addr) (cap : Nat) (cs : List C) (w : World) (hs : CSrc w a cs) (hn : cs.length ≤ 1048576) (hm : ∀ c ∈ cs, c.args.length ≤ 1048576) :
    Calls Try.prog 34 #[.slice a cs.length cap] w fun e w' => ∃ vs, e = .returned (.slice (some ⟨w.heap.size, 0, none⟩) cs.length cs.length) ∧ OwnC w' w.heap.size cs.length vs cs ∧ Below w.heap.size w w' := by
  obtain ⟨i0, hi, hz0, hz1, hz2⟩ := info_parts infoCall
  have HP : Hid (∀ w1, Below w.heap.size w w1 → CSrc w1 a cs) := fun w1 hB => hs.below hB
  have HM : Hid (∀ i, i < cs.length → (cs.getD i C.zero).args.length ≤ 1048576) := fun i hi => hm _ (callL_mem hi)
  have HA : Hid (cs.take cs.length = cs) := List.take_length
  obtain ⟨n, hn'⟩ : ∃ n, cs.length = n := ⟨_, rfl⟩
  have HN : Hid (cs.length = n) := hn'
  rw [hn'] at HM HA hn ⊢
  clear hs hm hn'
  have hmk : ∀ u : World, (Instr.makeSlice 52 (.int .i64 (n : Int)) (.int .i64 (n : Int))).run Try.prog u =
      .ok (.slice (some ⟨u.heap.size, 0, none⟩) n n) (u.alloc (.cells (madeCells #[.int .u32 0, .int .u32 0, .slice none 0 0] (n * 3)) 64)) := fun u => by
    have h := run_make (P := Try.prog) u 52 64 i0 _ Try.underlying52 hi hz0 .i64 .i64 (n : Int) (n : Int) (by omega) (Int.le_refl _) (by rw [hz2]; omega) (by omega)
    simpa [hz1, Value.cells] using h
  go_enter Try.func34, Try.ntmps34
  go_wp2_with fail
  clear hmk hi hz0 hz1 hz2
  have hU : OwnC (w.alloc (.cells (madeCells #[.int .u32 0, .int .u32 0, .slice none 0 0] (n * 3)) 64)) w.heap.size n (fun _ => .slice none 0 0) (cs.take 0) := by
    have hr := World.rowIs_alloc w (madeCells #[.int .u32 0, .int .u32 0, .slice none 0 0] (n * 3)) 64 (fun i => (madeCells #[.int .u32 0, .int .u32 0, .slice none 0 0] (n * 3)).getD i undef) (fun i h => by simp [h])
    rw [size_madeCells] at hr
    exact ⟨⟨_, hr, fun i hi => by simp at hi⟩, by simp, fun i hi => by simp at hi, fun i j p q h1 h2 => by simp at h2⟩
  have hB : Below w.heap.size w (w.alloc (.cells (madeCells #[.int .u32 0, .int .u32 0, .slice none 0 0] (n * 3)) 64)) := (Below.refl _ _).alloc (Nat.le_refl _) _
  generalize w.alloc (.cells (madeCells #[.int .u32 0, .int .u32 0, .slice none 0 0] (n * 3)) 64) = W at *
  go_loopw [4] (fun i wr => ∃ (k : Nat) (vs : Nat → Value), k ≤ n ∧ i = .int .i64 k ∧ OwnC wr w.heap.size n vs (cs.take k) ∧ Below w.heap.size w wr) (fun i _ => n - (intOf i).toNat)
  case atStart => exact ⟨0, _, by omega, rfl, hU, hB⟩
  case round =>
    obtain ⟨k, vs, hk, rfl, hU', hB'⟩ := hrel
    clear hU hB
    by_cases hlt : k < n
    · obtain ⟨b, o, ha, hbl, d0, d1, a', cap', d2, hu⟩ := (HP.out _ hB').at k (by rw [HN.out]; exact hlt)
      have hm := HM.out k hlt
      have HC : Hid (Calls Try.prog 43 #[callV (cs.getD k C.zero) (.slice a' (cs.getD k C.zero).args.length cap')] wr fun e w' => ∃ v', e = .returned (callV (cs.getD k C.zero) v') ∧ ownsU w' wr.heap.size v' (cs.getD k C.zero).args ∧ Below wr.heap.size wr w') := toCall_any _ a' cap' wr hu hm
      have HS : Hid (∀ w1 v', Below wr.heap.size wr w1 → ownsU w1 wr.heap.size v' (cs.getD k C.zero).args → OwnC (((w1.setCell ⟨w.heap.size, k * 3, none⟩ (.int .u32 (cs.getD k C.zero).arch)).setCell ⟨w.heap.size, k * 3 + 1, none⟩ (.int .u32 (cs.getD k C.zero).nr)).setCell ⟨w.heap.size, k * 3 + 2, none⟩ v') w.heap.size n (fun i => if i = k then v' else vs i) (cs.take (k + 1))) :=
        fun w1 v' hb hv => hU'.snoc (by rw [HN.out]; exact hlt) (by rw [HN.out]; exact Nat.le_refl _) hb hv
      have HCk : Hid (∀ w1, Below wr.heap.size wr w1 → ∀ j, j < n * 3 → ∃ v, w1.cell? ⟨w.heap.size, j, none⟩ = some v ∧ w1.frozen? ⟨w.heap.size, j, none⟩ = false) := fun w1 hb j hj => (hU'.below hb).cellOk j hj
      subst ha
      clear HP HM HA hu
      generalize cs.getD k C.zero = c at *
      obtain ⟨ar, nr, args⟩ := c
      simp only at *
      generalize args.length = m at *
      go_wp2_with fail
      refine HC.out.mono ?_
      rintro e w1 ⟨v', rfl, ov, hb1⟩
      have HS1 := HS.out w1 v' hb1 ov
      have HS2 : Hid _ := HS1
      have B1 : Below w.heap.size w w1 := hB'.trans (hb1.mono hB'.size)
      obtain ⟨v0, e0, f0⟩ := HCk.out w1 hb1 (k * 3) (by omega)
      obtain ⟨v1, e1, f1⟩ := HCk.out w1 hb1 (k * 3 + 1) (by omega)
      obtain ⟨v2, e2, f2⟩ := HCk.out w1 hb1 (k * 3 + 2) (by omega)
      obtain ⟨ax, cx, hvx, _⟩ := ownsU_src ov
      subst hvx
      have B2 := ((B1.setCell (p := ⟨w.heap.size, k * 3, none⟩) (Nat.le_refl _) (.int .u32 ar)).setCell (p := ⟨w.heap.size, k * 3 + 1, none⟩) (Nat.le_refl _) (.int .u32 nr)).setCell (p := ⟨w.heap.size, k * 3 + 2, none⟩) (Nat.le_refl _) (.slice ax args.length cx)
      clear HC HS HCk HS1 d0 d1 d2 hU' hB' ov hb1 B1
      go_wp2
      go_roundw
      case rel => exact ⟨k + 1, _, by omega, by go_num, HS2.out, B2⟩
      case measure => simp [intOf]; omega
    · have hkn : k = n := by omega
      subst hkn
      rw [HA.out] at hU'
      go_wp2
      go_ret
      exact ⟨vs, rfl, hU', hB'⟩
end Go.Proofs.Ytjfgihmamoiipaa
