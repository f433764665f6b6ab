/-
  CONTRACTS of the copies and comparisons of whole programs.
-/
import Derived.Test.YtjfgihmamoiipaaLeaf
import Derived.Deep.OwnRows
import Derived.Deep.QuietTactic
import Derived.BigQuiet
import Derived.Deep.RegionWith
namespace Go.Proofs.Ytjfgihmamoiipaa
open Go.RowKit
set_option linter.unusedVariables false

theorem info36 : (Try.prog.info? 36).map (fun i => (i.zero, i.size, i.bytes)) = some (some (.agg #[.int .u16 0, .int .u8 0, .int .u8 0, .int .u32 0]), 4, 8) := by kernel_rfl

/-- the cells of a program in a row, one behind another -/
def insF (p : List I) (j : Nat) : Value :=
  if j % 4 = 0 then .int .u16 (p.getD (j / 4) I.zero).c
  else if j % 4 = 1 then .int .u8 (p.getD (j / 4) I.zero).jt
  else if j % 4 = 2 then .int .u8 (p.getD (j / 4) I.zero).jf
  else .int .u32 (p.getD (j / 4) I.zero).k

theorem insF_0 (p : List I) (i : Nat) : insF p (i * 4) = .int .u16 (p.getD i I.zero).c := by
  unfold insF; rw [if_pos (by omega), show i * 4 / 4 = i by omega]
theorem insF_1 (p : List I) (i : Nat) : insF p (i * 4 + 1) = .int .u8 (p.getD i I.zero).jt := by
  unfold insF; rw [if_neg (by omega), if_pos (by omega), show (i * 4 + 1) / 4 = i by omega]
theorem insF_2 (p : List I) (i : Nat) : insF p (i * 4 + 2) = .int .u8 (p.getD i I.zero).jf := by
  unfold insF; rw [if_neg (by omega), if_neg (by omega), if_pos (by omega), show (i * 4 + 2) / 4 = i by omega]
theorem insF_3 (p : List I) (i : Nat) : insF p (i * 4 + 3) = .int .u32 (p.getD i I.zero).k := by
  unfold insF; rw [if_neg (by omega), if_neg (by omega), if_neg (by omega), show (i * 4 + 3) / 4 = i by omega]

/-- a program that came in, or was made: nil or empty, or at an address -/
def Src (w : World) (a : Option Addr) (p : List I) : Prop := p = [] ∨ ∃ b o, a = some ⟨b, o, none⟩ ∧ b < w.heap.size ∧ InsAt w b o p

theorem Src.below {w w' : World} {a : Option Addr} {p : List I} (h : Src w a p) (hb : Below w.heap.size w w') : Src w' a p := by
  rcases h with h | ⟨b, o, ha, hlt, hc⟩
  · exact .inl h
  · refine .inr ⟨b, o, ha, Nat.lt_of_lt_of_le hlt hb.size, fun i hi => ?_⟩
    obtain ⟨c0, c1, c2, c3⟩ := hc i hi
    exact ⟨(hb.cell (p := ⟨b, _, none⟩) hlt).trans c0, (hb.cell (p := ⟨b, _, none⟩) hlt).trans c1, (hb.cell (p := ⟨b, _, none⟩) hlt).trans c2, (hb.cell (p := ⟨b, _, none⟩) hlt).trans c3⟩

theorem Src.of_row {w : World} {D t : Nat} {p : List I} (h : w.rowIs D t (p.length * 4) (insF p)) : Src w (some ⟨D, 0, none⟩) p := by
  refine .inr ⟨D, 0, rfl, h.lt, fun i hi => ?_⟩
  refine ⟨?_, ?_, ?_, ?_⟩
  · rw [Nat.zero_add, h.cell (by omega), insF_0]
  · rw [Nat.zero_add, h.cell (by omega), insF_1]
  · rw [Nat.zero_add, h.cell (by omega), insF_2]
  · rw [Nat.zero_add, h.cell (by omega), insF_3]

/-- the cells up to number 4 k are the program's -/
def Upto (w : World) (D t n : Nat) (p : List I) (k : Nat) : Prop := ∃ f, w.rowIs D t (n * 4) f ∧ ∀ j, j < k * 4 → f j = insF p j

theorem Upto.step {w : World} {D t n k : Nat} {p : List I} (h : Upto w D t n p k) :
    Upto ((((w.setCell ⟨D, k * 4, none⟩ (.int .u16 (p.getD k I.zero).c)).setCell ⟨D, k * 4 + 1, none⟩ (.int .u8 (p.getD k I.zero).jt)).setCell ⟨D, k * 4 + 2, none⟩ (.int .u8 (p.getD k I.zero).jf)).setCell ⟨D, k * 4 + 3, none⟩ (.int .u32 (p.getD k I.zero).k)) D t n p (k + 1) := by
  obtain ⟨f, hr, hf⟩ := h
  refine ⟨_, (((hr.set _ _).set _ _).set _ _).set _ _, fun j hj => ?_⟩
  by_cases e3 : j = k * 4 + 3
  · rw [if_pos e3, e3, insF_3]
  · rw [if_neg e3]
    by_cases e2 : j = k * 4 + 2
    · rw [if_pos e2, e2, insF_2]
    · rw [if_neg e2]
      by_cases e1 : j = k * 4 + 1
      · rw [if_pos e1, e1, insF_1]
      · rw [if_neg e1]
        by_cases e0 : j = k * 4
        · rw [if_pos e0, e0, insF_0]
        · rw [if_neg e0]; exact hf j (by omega)

theorem Upto.own {w : World} {D t n k : Nat} {p : List I} (h : Upto w D t n p k) (j : Nat) (hj : j < n * 4) : ∃ v, w.cell? ⟨D, j, none⟩ = some v ∧ w.frozen? ⟨D, j, none⟩ = false := by
  obtain ⟨f, hr, _⟩ := h
  exact ⟨_, hr.cell hj, hr.frozen j⟩

theorem Upto.done {w : World} {D t n : Nat} {p : List I} (h : Upto w D t n p n) : w.rowIs D t (n * 4) (insF p) := by
  obtain ⟨f, hr, hf⟩ := h
  exact hr.congr hf

theorem Upto.keep {w w' : World} {D t n k : Nat} {p : List I} (h : Upto w D t n p k) (hb : Below w.heap.size w w') : Upto w' D t n p k := by
  obtain ⟨f, hr, hf⟩ := h
  exact ⟨f, hr.of_block (hb.block D hr.lt), hf⟩

set_option maxHeartbeats 1000000 in
theorem toInsS_none (a : Option Addr) (cap : Nat) (w : World) :
    Calls Try.prog 20 #[.slice a 0 cap] w fun e w' => e = .returned (.slice (some ⟨w.heap.size, 0, none⟩) 0 0) ∧ w'.rowIs w.heap.size 36 0 (insF []) ∧ Below w.heap.size w w' := by
  obtain ⟨i0, hi, hz0, hz1, hz2⟩ := info_parts info36
  have hmk : ∀ u : World, (Instr.makeSlice 23 (.int .i64 0) (.int .i64 0)).run Try.prog u =
      .ok (.slice (some ⟨u.heap.size, 0, none⟩) 0 0) (u.alloc (.cells #[] 36)) := fun u => by
    have h := run_make (P := Try.prog) u 23 36 i0 _ Try.underlying23 hi hz0 .i64 .i64 0 0 (by omega) (Int.le_refl _) (by rw [hz2]; omega) (by omega)
    simpa [hz1, Value.cells, madeCells, Array.range_zero'] using h
  go_enter Try.func20, Try.ntmps20
  go_wp2_with fail
  go_loopw [4] (fun i wr => i = .int .i64 0 ∧ wr = w.alloc (.cells #[] 36)) (fun i _ => 0)
  case atStart => exact ⟨rfl, rfl⟩
  case round =>
    obtain ⟨rfl, rfl⟩ := hrel
    go_wp2
    go_ret
    exact ⟨rfl, World.rowIs_alloc w #[] 36 _ (fun i h => absurd h (by simp)), (Below.refl _ _).alloc (Nat.le_refl _) _⟩

set_option maxHeartbeats 1000000 in
theorem toInsS_some (b o cap : Nat) (p : List I) (w : World) (hb : b < w.heap.size) (hp : InsAt w b o p) (hn : p.length ≤ 1048576) :
    Calls Try.prog 20 #[.slice (some ⟨b, o, none⟩) p.length cap] w fun e w' => e = .returned (.slice (some ⟨w.heap.size, 0, none⟩) p.length p.length) ∧ w'.rowIs w.heap.size 36 (p.length * 4) (insF p) ∧ Below w.heap.size w w' := by
  obtain ⟨i0, hi, hz0, hz1, hz2⟩ := info_parts info36
  obtain ⟨n, hn'⟩ : ∃ n, p.length = n := ⟨_, rfl⟩
  have HN : Hid (p.length = n) := hn'
  rw [hn'] at hn ⊢
  clear hn'
  have hmk : ∀ u : World, (Instr.makeSlice 23 (.int .i64 (n : Int)) (.int .i64 (n : Int))).run Try.prog u =
      .ok (.slice (some ⟨u.heap.size, 0, none⟩) n n) (u.alloc (.cells (madeCells #[.int .u16 0, .int .u8 0, .int .u8 0, .int .u32 0] (n * 4)) 36)) := fun u => by
    have h := run_make (P := Try.prog) u 23 36 i0 _ Try.underlying23 hi hz0 .i64 .i64 (n : Int) (n : Int) (by omega) (Int.le_refl _) (by rw [hz2]; omega) (by omega)
    simpa [hz1, Value.cells] using h
  go_enter Try.func20, Try.ntmps20
  go_wp2_with fail
  clear hmk hi hz0 hz1 hz2
  have hU : Upto (w.alloc (.cells (madeCells #[.int .u16 0, .int .u8 0, .int .u8 0, .int .u32 0] (n * 4)) 36)) w.heap.size 36 n p 0 := by
    have hr := World.rowIs_alloc w (madeCells #[.int .u16 0, .int .u8 0, .int .u8 0, .int .u32 0] (n * 4)) 36 (fun i => (madeCells #[.int .u16 0, .int .u8 0, .int .u8 0, .int .u32 0] (n * 4)).getD i undef) (fun i h => by simp [h])
    rw [size_madeCells] at hr
    exact ⟨_, hr, fun j hj => by omega⟩
  have hB : Below w.heap.size w (w.alloc (.cells (madeCells #[.int .u16 0, .int .u8 0, .int .u8 0, .int .u32 0] (n * 4)) 36)) := (Below.refl _ _).alloc (Nat.le_refl _) _
  have hS : w.heap.size < (w.alloc (.cells (madeCells #[.int .u16 0, .int .u8 0, .int .u8 0, .int .u32 0] (n * 4)) 36)).heap.size := by simp
  generalize w.alloc (.cells (madeCells #[.int .u16 0, .int .u8 0, .int .u8 0, .int .u32 0] (n * 4)) 36) = W at *
  go_loopw [4] (fun i wr => ∃ k : Nat, k ≤ n ∧ i = .int .i64 k ∧ Upto wr w.heap.size 36 n p k ∧ Below w.heap.size w wr) (fun i _ => n - (intOf i).toNat)
  case atStart => exact ⟨0, by omega, rfl, hU, hB⟩
  case round =>
    obtain ⟨k, hk, rfl, hU', hB'⟩ := hrel
    clear hU hB hS
    by_cases hlt : k < n
    · obtain ⟨c0, c1, c2, c3⟩ := hp k (by rw [HN.out]; exact hlt)
      have d0 := (hB'.cell (p := ⟨b, _, none⟩) hb).trans c0
      have d1 := (hB'.cell (p := ⟨b, _, none⟩) hb).trans c1
      have d2 := (hB'.cell (p := ⟨b, _, none⟩) hb).trans c2
      have d3 := (hB'.cell (p := ⟨b, _, none⟩) hb).trans c3
      clear c0 c1 c2 c3
      go_wp2_with fail
      refine (toIns_any _ _ _ _ _).mono ?_
      rintro e w1 ⟨rfl, hb1⟩
      have hU1 := hU'.keep hb1
      have hB1 : Below w.heap.size w w1 := hB'.trans (hb1.mono hB'.size)
      obtain ⟨v0, e0, f0⟩ := hU1.own (k * 4) (by omega)
      obtain ⟨v1, e1, f1⟩ := hU1.own (k * 4 + 1) (by omega)
      obtain ⟨v2, e2, f2⟩ := hU1.own (k * 4 + 2) (by omega)
      obtain ⟨v3, e3, f3⟩ := hU1.own (k * 4 + 3) (by omega)
      clear d0 d1 d2 d3 hU' hB'
      go_wp2
      go_roundw
      case rel => exact ⟨k + 1, by omega, by go_num, hU1.step, (((hB1.setCell (Nat.le_refl _) _).setCell (Nat.le_refl _) _).setCell (Nat.le_refl _) _).setCell (Nat.le_refl _) _⟩
      case measure => simp [intOf]; omega
    · have hkn : k = n := by omega
      subst hkn
      go_wp2
      go_ret
      exact ⟨rfl, hU'.done, hB'⟩

theorem toInsS_any (a : Option Addr) (cap : Nat) (p : List I) (w : World) (hs : Src w a p) (hn : p.length ≤ 1048576) :
    Calls Try.prog 20 #[.slice a p.length cap] w fun e w' => e = .returned (.slice (some ⟨w.heap.size, 0, none⟩) p.length p.length) ∧ w'.rowIs w.heap.size 36 (p.length * 4) (insF p) ∧ Below w.heap.size w w' := by
  rcases hs with rfl | ⟨b, o, rfl, hb, hp⟩
  · exact toInsS_none a cap w
  · exact toInsS_some b o cap p w hb hp hn

set_option maxHeartbeats 4000000 in
theorem eqInsS_some (b o cap b' o' cap' : Nat) (p : List I) (w : World) (hb : b < w.heap.size) (hb' : b' < w.heap.size) (hp : InsAt w b o p) (hp' : InsAt w b' o' p) (hn : p.length ≤ 1048576) :
    Calls Try.prog 21 #[.slice (some ⟨b, o, none⟩) p.length cap, .slice (some ⟨b', o', none⟩) p.length cap'] w fun e w' => e = .returned (.bool true) ∧ Below w.heap.size w w' := by
  obtain ⟨n, hn'⟩ : ∃ n, p.length = n := ⟨_, rfl⟩
  have HN : Hid (p.length = n) := hn'
  rw [hn'] at hn ⊢
  clear hn'
  go_enter Try.func21, Try.ntmps21
  go_wp2_with fail
  go_loopw [5] (fun i wr => ∃ k : Nat, k ≤ n ∧ i = .int .i64 k ∧ Below w.heap.size w wr) (fun i _ => n - (intOf i).toNat)
  case atStart => exact ⟨0, by omega, rfl, Below.refl _ _⟩
  case round =>
    obtain ⟨k, hk, rfl, hB⟩ := hrel
    by_cases hlt : k < n
    · obtain ⟨c0, c1, c2, c3⟩ := hp k (by rw [HN.out]; exact hlt)
      obtain ⟨c0', c1', c2', c3'⟩ := hp' k (by rw [HN.out]; exact hlt)
      have d0 := (hB.cell (p := ⟨b, _, none⟩) hb).trans c0
      have d1 := (hB.cell (p := ⟨b, _, none⟩) hb).trans c1
      have d2 := (hB.cell (p := ⟨b, _, none⟩) hb).trans c2
      have d3 := (hB.cell (p := ⟨b, _, none⟩) hb).trans c3
      have d0' := (hB.cell (p := ⟨b', _, none⟩) hb').trans c0'
      have d1' := (hB.cell (p := ⟨b', _, none⟩) hb').trans c1'
      have d2' := (hB.cell (p := ⟨b', _, none⟩) hb').trans c2'
      have d3' := (hB.cell (p := ⟨b', _, none⟩) hb').trans c3'
      clear c0 c1 c2 c3 c0' c1' c2' c3' hp hp'
      have hlt' : (k : Int) < (n : Int) := by omega
      go_wp2_with fail
      go_region_with (go_at_call 58; refine (eqIns_same _ _ _ _ _).mono ?_; rintro e w1 ⟨rfl, hb1⟩)
      all_goals
        go_wp2
        go_roundw
        case rel => exact ⟨k + 1, by omega, by go_num, hB.drew.trans (Below.mono (by assumption) hB.size)⟩
        case measure => simp [intOf]; omega
    · go_wp2
      go_ret
      exact ⟨rfl, hB⟩

set_option maxHeartbeats 1000000 in
theorem eqInsS_none (a a' : Option Addr) (cap cap' : Nat) (w : World) :
    Calls Try.prog 21 #[.slice a 0 cap, .slice a' 0 cap'] w fun e w' => e = .returned (.bool true) ∧ Below w.heap.size w w' := by
  go_enter Try.func21, Try.ntmps21
  go_wp2_with fail
  go_loopw [5] (fun i wr => i = .int .i64 0 ∧ wr = w) (fun i _ => 0)
  case atStart => exact ⟨rfl, rfl⟩
  case round =>
    obtain ⟨rfl, rfl⟩ := hrel
    go_wp2
    go_ret
    exact ⟨rfl, Below.refl _ _⟩

theorem eqInsS_any (a a' : Option Addr) (cap cap' : Nat) (p : List I) (w : World) (hs : Src w a p) (hs' : Src w a' p) (hn : p.length ≤ 1048576) :
    Calls Try.prog 21 #[.slice a p.length cap, .slice a' p.length cap'] w fun e w' => e = .returned (.bool true) ∧ Below w.heap.size w w' := by
  rcases hs with rfl | ⟨b, o, rfl, hb, hp⟩
  · exact eqInsS_none a a' cap cap' w
  · rcases hs' with rfl | ⟨b', o', rfl, hb', hp'⟩
    · exact eqInsS_none _ a' cap cap' w
    · exact eqInsS_some b o cap b' o' cap' p w hb hb' hp hp' hn
end Go.Proofs.Ytjfgihmamoiipaa
