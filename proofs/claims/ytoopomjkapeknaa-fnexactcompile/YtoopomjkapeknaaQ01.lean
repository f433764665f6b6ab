/-
  Math, Leaf, Copy, Bytes
-/
import Derived.Below
import Derived.Test.YtoopomjkapeknaaChecked
import Derived.WalkKit
import Derived.WalkSpells
import Derived.WalkLawsBesides
import Derived.Deep.OwnRows
import Derived.Deep.QuietTactic
import Derived.BigQuiet
import Derived.Deep.RegionWith
namespace Go.Proofs.Ytoopomjkapeknaa

/-- one instruction: its four numbers -/
structure I where
  c : Int
  jt : Int
  jf : Int
  k : Int

def I.ok (x : I) : Prop := 0 ≤ x.c ∧ x.c ≤ 65535 ∧ 0 ≤ x.jt ∧ x.jt ≤ 255 ∧ 0 ≤ x.jf ∧ x.jf ≤ 255 ∧ 0 ≤ x.k ∧ x.k ≤ 4294967295
def I.zero : I := ⟨0, 0, 0, 0⟩
theorem I.zero_ok : I.zero.ok := by unfold I.ok I.zero; decide

def codesL : List Int := [0, 1, 32, 96, 97, 2, 3, 4, 12, 20, 28, 36, 44, 52, 60, 68, 76, 84, 92, 164, 172, 100, 108, 116, 124, 132, 7, 135, 5, 21, 29, 37, 45, 53, 61, 69, 77, 6, 22]
def knownB (c : Int) : Bool := codesL.contains c
def memB (c : Int) : Bool := c == 96 || c == 97 || c == 2 || c == 3
def ariB (c : Int) : Bool := c == 4 || c == 20 || c == 36 || c == 52 || c == 68 || c == 84 || c == 164 || c == 100 || c == 116 || c == 12 || c == 28 || c == 44 || c == 60 || c == 76 || c == 92 || c == 172 || c == 108 || c == 124 || c == 132
def tstB (c : Int) : Bool := c == 21 || c == 37 || c == 53 || c == 69 || c == 29 || c == 45 || c == 61 || c == 77
def isKnownB (c : Int) : Bool := c == 0 || c == 1 || c == 32 || c == 7 || c == 135 || c == 5 || c == 6 || c == 22 || memB c || ariB c || tstB c

theorem isKnownB_eq (c : Int) : isKnownB c = knownB c := by
  simp only [isKnownB, memB, ariB, tstB, knownB, codesL, List.contains_cons, List.contains_nil, Bool.or_false]
  ac_rfl

theorem tst_known (c : Int) (h : tstB c = true) : knownB c = true := by
  rw [← isKnownB_eq]; simp [isKnownB, h]

theorem tst_of_known : ∀ c ∈ codesL, tstB c = (c % 8 == 5 && c != 5) := by decide

theorem tstB_eq (c : Int) : (knownB c && c % 8 == 5 && c != 5) = tstB c := by
  cases h : knownB c with
  | false =>
    cases h2 : tstB c with
    | false => simp
    | true => rw [tst_known c h2] at h; cases h
  | true =>
    have hm : c ∈ codesL := by simpa [knownB] using h
    rw [tst_of_known c hm]; simp

/-- the fault of the instruction (c, jt, jf, k) at index i of n, as the document's model has it -/
def faultS (n i c jt jf k : Int) : Int :=
  if knownB c = false then 2
  else if c = 32 ∧ (k % 4 ≠ 0 ∨ 60 < k) then 3
  else if memB c = true ∧ 16 ≤ k then 4
  else if c = 5 ∧ n ≤ i + 1 + k then 5
  else if tstB c = true ∧ (n ≤ i + 1 + jt ∨ n ≤ i + 1 + jf) then 5
  else if c = 52 ∧ k = 0 then 6
  else if (c = 100 ∨ c = 116) ∧ 32 ≤ k then 6
  else if i = n - 1 ∧ c ≠ 6 ∧ c ≠ 22 then 7
  else 0

def jumpB (c jt jf k after : Int) : Bool := if tstB c then (decide (after ≤ jt) || decide (after ≤ jf)) else (c == 5 && decide (after ≤ k))
def badB (c k : Int) : Bool := if c = 52 then k == 0 else if c = 100 ∨ c = 116 then decide (32 ≤ k) else false

/-- the fault as the program reckons it, from the number of instructions that follow -/
def faultI (c jt jf k after : Int) : Int :=
  if isKnownB c = false then 2
  else if c = 32 ∧ (k % 4 ≠ 0 ∨ 60 < k) then 3
  else if memB c = true ∧ 16 ≤ k then 4
  else if jumpB c jt jf k after = true then 5
  else if badB c k = true then 6
  else if after = 0 ∧ c ≠ 6 ∧ c ≠ 22 then 7
  else 0

theorem faultI_eq (n i c jt jf k : Int) : faultI c jt jf k (n - 1 - i) = faultS n i c jt jf k := by
  unfold faultI faultS
  rw [isKnownB_eq]
  have h5 : tstB 5 = false := by decide
  have hj : jumpB c jt jf k (n - 1 - i) = true ↔ ((c = 5 ∧ n ≤ i + 1 + k) ∨ (tstB c = true ∧ (n ≤ i + 1 + jt ∨ n ≤ i + 1 + jf))) := by
    unfold jumpB
    by_cases ht : tstB c = true
    · have hc : c ≠ 5 := by intro e; rw [e, h5] at ht; cases ht
      simp [ht, hc]; omega
    · simp [ht]; omega
  have hb : badB c k = true ↔ ((c = 52 ∧ k = 0) ∨ ((c = 100 ∨ c = 116) ∧ 32 ≤ k)) := by
    unfold badB
    by_cases h1 : c = 52
    · subst h1; simp
    · by_cases h2 : c = 100 ∨ c = 116
      · simp [h1, h2]
      · simp [h1, h2]
  have he : (n - 1 - i = 0 ∧ c ≠ 6 ∧ c ≠ 22) ↔ (i = n - 1 ∧ c ≠ 6 ∧ c ≠ 22) := by omega
  by_cases g1 : knownB c = false
  · simp only [if_pos g1]
  simp only [if_neg g1]
  by_cases g2 : c = 32 ∧ (k % 4 ≠ 0 ∨ 60 < k)
  · simp only [if_pos g2]
  simp only [if_neg g2]
  by_cases g3 : memB c = true ∧ 16 ≤ k
  · simp only [if_pos g3]
  simp only [if_neg g3]
  by_cases g4 : c = 5 ∧ n ≤ i + 1 + k
  · rw [if_pos (hj.2 (.inl g4)), if_pos g4]
  · by_cases g5 : tstB c = true ∧ (n ≤ i + 1 + jt ∨ n ≤ i + 1 + jf)
    · rw [if_pos (hj.2 (.inr g5)), if_neg g4, if_pos g5]
    · have hn : ¬ jumpB c jt jf k (n - 1 - i) = true := fun e => (hj.1 e).elim g4 g5
      rw [if_neg hn, if_neg g4, if_neg g5]
      by_cases g6 : c = 52 ∧ k = 0
      · rw [if_pos (hb.2 (.inl g6)), if_pos g6]
      · by_cases g7 : (c = 100 ∨ c = 116) ∧ 32 ≤ k
        · rw [if_pos (hb.2 (.inr g7)), if_neg g6, if_pos g7]
        · have hn2 : ¬ badB c k = true := fun e => (hb.1 e).elim g6 g7
          rw [if_neg hn2, if_neg g6, if_neg g7]
          by_cases g8 : i = n - 1 ∧ c ≠ 6 ∧ c ≠ 22
          · rw [if_pos (he.2 g8), if_pos g8]
          · rw [if_neg (fun e => g8 (he.1 e)), if_neg g8]

theorem faultS_bd (n i c jt jf k : Int) : 0 ≤ faultS n i c jt jf k ∧ faultS n i c jt jf k ≤ 7 := by
  unfold faultS
  repeat' split
  all_goals omega

/-- the first index from i on, among the next m, whose fault is not 0 -/
def ffrom (F : Nat → Int) : Nat → Nat → Int × Int
  | 0, _ => (0, 0)
  | m + 1, i => if F i = 0 then ffrom F m (i + 1) else (F i, (i : Int))

/-- the fault at index i of the program p -/
def faultAt (p : List I) (i : Nat) : Int := faultS p.length i (p.getD i I.zero).c (p.getD i I.zero).jt (p.getD i I.zero).jf (p.getD i I.zero).k

/-- what Validate answers -/
def validL (p : List I) : Int × Int := if p.length < 1 ∨ 4096 < p.length then (1, 0) else ffrom (faultAt p) p.length 0

theorem ffrom_step0 {F : Nat → Int} {n k : Nat} (h : k < n) (h0 : F k = 0) : ffrom F (n - (k + 1)) (k + 1) = ffrom F (n - k) k := by
  have e : n - k = (n - (k + 1)) + 1 := by omega
  rw [e, ffrom, if_pos h0]
theorem ffrom_hit {F : Nat → Int} {n k : Nat} (h : k < n) (h0 : F k ≠ 0) : ffrom F (n - k) k = (F k, (k : Int)) := by
  have e : n - k = (n - (k + 1)) + 1 := by omega
  rw [e, ffrom, if_neg h0]
theorem ffrom_end {F : Nat → Int} {n : Nat} : ffrom F (n - n) n = (0, 0) := by rw [Nat.sub_self]; rfl
theorem validL_big {p : List I} (h : p.length < 1 ∨ 4096 < p.length) : validL p = (1, 0) := by unfold validL; rw [if_pos h]
theorem validL_in {p : List I} (h1 : 1 ≤ p.length) (h2 : p.length ≤ 4096) : validL p = ffrom (faultAt p) (p.length - 0) 0 := by
  unfold validL; rw [if_neg (by omega), Nat.sub_zero]
end Go.Proofs.Ytoopomjkapeknaa
namespace Go.Proofs.Ytoopomjkapeknaa
open Go.RowKit
set_option linter.unusedVariables false

theorem ret_int {k : IntKind} {a b : Int} (h : a = b) : Ending.returned (.int k a) = .returned (.int k b) := by rw [h]
theorem ret_bool {a b : Bool} (h : a = b) : Ending.returned (.bool a) = .returned (.bool b) := by rw [h]

/-- the value of one instruction -/
abbrev insV (c jt jf k : Int) : Value := .agg #[.int .u16 c, .int .u8 jt, .int .u8 jf, .int .u32 k]

set_option maxHeartbeats 400000 in
theorem eqIns_same (c jt jf k : Int) (w : World) :
    Calls Try.prog 21 #[insV c jt jf k, insV c jt jf k] w fun e w' => e = .returned (.bool true) ∧ Below w.heap.size w w' := by
  go_enter Try.func21, Try.ntmps21
  go_wp2
  go_ret
  exact ⟨rfl, ((Below.refl _ _).alloc (Nat.le_refl _) _).alloc (by simp) _⟩

/-- all old cells read as before behind a call that leaves old memory alone -/
theorem bcell {W w1 : World} (hb : Below W.heap.size W w1) : (∀ b o, b < W.heap.size → w1.cell? ⟨b, o, none⟩ = W.cell? ⟨b, o, none⟩) ∧ (∀ b o, b < W.heap.size → w1.frozen? ⟨b, o, none⟩ = W.frozen? ⟨b, o, none⟩) :=
  ⟨fun b o h => hb.cell (p := ⟨b, o, none⟩) h, fun b o h => hb.frozen (p := ⟨b, o, none⟩) h⟩

/-- WHERE A PROGRAM LIES: the instructions p behind the address a -/
def InsAt (w : World) (b o : Nat) (p : List I) : Prop :=
  ∀ i, i < p.length → w.cell? ⟨b, o + i * 4, none⟩ = some (.int .u16 (p.getD i I.zero).c) ∧ w.cell? ⟨b, o + i * 4 + 1, none⟩ = some (.int .u8 (p.getD i I.zero).jt) ∧
    w.cell? ⟨b, o + i * 4 + 2, none⟩ = some (.int .u8 (p.getD i I.zero).jf) ∧ w.cell? ⟨b, o + i * 4 + 3, none⟩ = some (.int .u32 (p.getD i I.zero).k)

end Go.Proofs.Ytoopomjkapeknaa
namespace Go.Proofs.Ytoopomjkapeknaa
open Go.RowKit
set_option linter.unusedVariables false

theorem info36 : (Try.prog.info? 51).map (fun i => (i.zero, i.size, i.bytes)) = some (some (.agg #[.int .u16 0, .int .u8 0, .int .u8 0, .int .u32 0]), 4, 8) := by kernel_rfl

/-- the cells of a program in a row, one behind another -/
def insF (p : List I) (j : Nat) : Value :=
  if j % 4 = 0 then .int .u16 (p.getD (j / 4) I.zero).c
  else if j % 4 = 1 then .int .u8 (p.getD (j / 4) I.zero).jt
  else if j % 4 = 2 then .int .u8 (p.getD (j / 4) I.zero).jf
  else .int .u32 (p.getD (j / 4) I.zero).k

theorem insF_0 (p : List I) (i : Nat) : insF p (i * 4) = .int .u16 (p.getD i I.zero).c := by
  unfold insF; rw [if_pos (by omega), show i * 4 / 4 = i by omega]
theorem insF_1 (p : List I) (i : Nat) : insF p (i * 4 + 1) = .int .u8 (p.getD i I.zero).jt := by
  unfold insF; rw [if_neg (by omega), if_pos (by omega), show (i * 4 + 1) / 4 = i by omega]
theorem insF_2 (p : List I) (i : Nat) : insF p (i * 4 + 2) = .int .u8 (p.getD i I.zero).jf := by
  unfold insF; rw [if_neg (by omega), if_neg (by omega), if_pos (by omega), show (i * 4 + 2) / 4 = i by omega]
theorem insF_3 (p : List I) (i : Nat) : insF p (i * 4 + 3) = .int .u32 (p.getD i I.zero).k := by
  unfold insF; rw [if_neg (by omega), if_neg (by omega), if_neg (by omega), show (i * 4 + 3) / 4 = i by omega]

/-- a program that came in, or was made: nil or empty, or at an address -/
def Src (w : World) (a : Option Addr) (p : List I) : Prop := p = [] ∨ ∃ b o, a = some ⟨b, o, none⟩ ∧ b < w.heap.size ∧ InsAt w b o p

theorem Src.below {w w' : World} {a : Option Addr} {p : List I} (h : Src w a p) (hb : Below w.heap.size w w') : Src w' a p := by
  rcases h with h | ⟨b, o, ha, hlt, hc⟩
  · exact .inl h
  · refine .inr ⟨b, o, ha, Nat.lt_of_lt_of_le hlt hb.size, fun i hi => ?_⟩
    obtain ⟨c0, c1, c2, c3⟩ := hc i hi
    exact ⟨(hb.cell (p := ⟨b, _, none⟩) hlt).trans c0, (hb.cell (p := ⟨b, _, none⟩) hlt).trans c1, (hb.cell (p := ⟨b, _, none⟩) hlt).trans c2, (hb.cell (p := ⟨b, _, none⟩) hlt).trans c3⟩

theorem Src.of_row {w : World} {D t : Nat} {p : List I} (h : w.rowIs D t (p.length * 4) (insF p)) : Src w (some ⟨D, 0, none⟩) p := by
  refine .inr ⟨D, 0, rfl, h.lt, fun i hi => ?_⟩
  refine ⟨?_, ?_, ?_, ?_⟩
  · rw [Nat.zero_add, h.cell (by omega), insF_0]
  · rw [Nat.zero_add, h.cell (by omega), insF_1]
  · rw [Nat.zero_add, h.cell (by omega), insF_2]
  · rw [Nat.zero_add, h.cell (by omega), insF_3]

/-- the cells up to number 4 k are the program's -/
def Upto (w : World) (D t n : Nat) (p : List I) (k : Nat) : Prop := ∃ f, w.rowIs D t (n * 4) f ∧ ∀ j, j < k * 4 → f j = insF p j

theorem Upto.step {w : World} {D t n k : Nat} {p : List I} (h : Upto w D t n p k) :
    Upto ((((w.setCell ⟨D, k * 4, none⟩ (.int .u16 (p.getD k I.zero).c)).setCell ⟨D, k * 4 + 1, none⟩ (.int .u8 (p.getD k I.zero).jt)).setCell ⟨D, k * 4 + 2, none⟩ (.int .u8 (p.getD k I.zero).jf)).setCell ⟨D, k * 4 + 3, none⟩ (.int .u32 (p.getD k I.zero).k)) D t n p (k + 1) := by
  obtain ⟨f, hr, hf⟩ := h
  refine ⟨_, (((hr.set _ _).set _ _).set _ _).set _ _, fun j hj => ?_⟩
  by_cases e3 : j = k * 4 + 3
  · rw [if_pos e3, e3, insF_3]
  · rw [if_neg e3]
    by_cases e2 : j = k * 4 + 2
    · rw [if_pos e2, e2, insF_2]
    · rw [if_neg e2]
      by_cases e1 : j = k * 4 + 1
      · rw [if_pos e1, e1, insF_1]
      · rw [if_neg e1]
        by_cases e0 : j = k * 4
        · rw [if_pos e0, e0, insF_0]
        · rw [if_neg e0]; exact hf j (by omega)

theorem Upto.own {w : World} {D t n k : Nat} {p : List I} (h : Upto w D t n p k) (j : Nat) (hj : j < n * 4) : ∃ v, w.cell? ⟨D, j, none⟩ = some v ∧ w.frozen? ⟨D, j, none⟩ = false := by
  obtain ⟨f, hr, _⟩ := h
  exact ⟨_, hr.cell hj, hr.frozen j⟩

theorem Upto.done {w : World} {D t n : Nat} {p : List I} (h : Upto w D t n p n) : w.rowIs D t (n * 4) (insF p) := by
  obtain ⟨f, hr, hf⟩ := h
  exact hr.congr hf

theorem Upto.keep {w w' : World} {D t n k : Nat} {p : List I} (h : Upto w D t n p k) (hb : Below w.heap.size w w') : Upto w' D t n p k := by
  obtain ⟨f, hr, hf⟩ := h
  exact ⟨f, hr.of_block (hb.block D hr.lt), hf⟩

set_option maxHeartbeats 4000000 in
theorem eqInsS_some (b o cap b' o' cap' : Nat) (p : List I) (w : World) (hb : b < w.heap.size) (hb' : b' < w.heap.size) (hp : InsAt w b o p) (hp' : InsAt w b' o' p) (hn : p.length ≤ 1048576) :
    Calls Try.prog 8 #[.slice (some ⟨b, o, none⟩) p.length cap, .slice (some ⟨b', o', none⟩) p.length cap'] w fun e w' => e = .returned (.bool true) ∧ Below w.heap.size w w' := by
  obtain ⟨n, hn'⟩ : ∃ n, p.length = n := ⟨_, rfl⟩
  have HN : Hid (p.length = n) := hn'
  rw [hn'] at hn ⊢
  clear hn'
  go_enter Try.func8, Try.ntmps8
  go_wp2_with fail
  go_loopw [5] (fun i wr => ∃ k : Nat, k ≤ n ∧ i = .int .i64 k ∧ Below w.heap.size w wr) (fun i _ => n - (intOf i).toNat)
  case atStart => exact ⟨0, by omega, rfl, Below.refl _ _⟩
  case round =>
    obtain ⟨k, hk, rfl, hB⟩ := hrel
    by_cases hlt : k < n
    · obtain ⟨c0, c1, c2, c3⟩ := hp k (by rw [HN.out]; exact hlt)
      obtain ⟨c0', c1', c2', c3'⟩ := hp' k (by rw [HN.out]; exact hlt)
      have d0 := (hB.cell (p := ⟨b, _, none⟩) hb).trans c0
      have d1 := (hB.cell (p := ⟨b, _, none⟩) hb).trans c1
      have d2 := (hB.cell (p := ⟨b, _, none⟩) hb).trans c2
      have d3 := (hB.cell (p := ⟨b, _, none⟩) hb).trans c3
      have d0' := (hB.cell (p := ⟨b', _, none⟩) hb').trans c0'
      have d1' := (hB.cell (p := ⟨b', _, none⟩) hb').trans c1'
      have d2' := (hB.cell (p := ⟨b', _, none⟩) hb').trans c2'
      have d3' := (hB.cell (p := ⟨b', _, none⟩) hb').trans c3'
      clear c0 c1 c2 c3 c0' c1' c2' c3' hp hp'
      have hlt' : (k : Int) < (n : Int) := by omega
      go_wp2_with fail
      go_region_with (go_at_call 21; refine (eqIns_same _ _ _ _ _).mono ?_; rintro e w1 ⟨rfl, hb1⟩)
      all_goals
        go_wp2
        go_roundw
        case rel => exact ⟨k + 1, by omega, by go_num, hB.drew.trans (Below.mono (by assumption) hB.size)⟩
        case measure => simp [intOf]; omega
    · go_wp2
      go_ret
      exact ⟨rfl, hB⟩

set_option maxHeartbeats 1000000 in
theorem eqInsS_none (a a' : Option Addr) (cap cap' : Nat) (w : World) :
    Calls Try.prog 8 #[.slice a 0 cap, .slice a' 0 cap'] w fun e w' => e = .returned (.bool true) ∧ Below w.heap.size w w' := by
  go_enter Try.func8, Try.ntmps8
  go_wp2_with fail
  go_loopw [5] (fun i wr => i = .int .i64 0 ∧ wr = w) (fun i _ => 0)
  case atStart => exact ⟨rfl, rfl⟩
  case round =>
    obtain ⟨rfl, rfl⟩ := hrel
    go_wp2
    go_ret
    exact ⟨rfl, Below.refl _ _⟩

theorem eqInsS_any (a a' : Option Addr) (cap cap' : Nat) (p : List I) (w : World) (hs : Src w a p) (hs' : Src w a' p) (hn : p.length ≤ 1048576) :
    Calls Try.prog 8 #[.slice a p.length cap, .slice a' p.length cap'] w fun e w' => e = .returned (.bool true) ∧ Below w.heap.size w w' := by
  rcases hs with rfl | ⟨b, o, rfl, hb, hp⟩
  · exact eqInsS_none a a' cap cap' w
  · rcases hs' with rfl | ⟨b', o', rfl, hb', hp'⟩
    · exact eqInsS_none _ a' cap cap' w
    · exact eqInsS_some b o cap b' o' cap' p w hb hb' hp hp' hn
end Go.Proofs.Ytoopomjkapeknaa
namespace Go.Proofs.Ytoopomjkapeknaa
open Go.RowKit
set_option linter.unusedVariables false

theorem add_at (b o m : Nat) : (⟨b, o, none⟩ : Addr).add m = ⟨b, o + m, none⟩ := by
  unfold Addr.add
  by_cases hm0 : m = 0
  · subst hm0; simp
  · simp [hm0]

/-- bytes that came in, or were made: nil or empty, or at an address -/
def BytesAt (w : World) (b o : Nat) (l : List Int) : Prop := ∀ i, i < l.length → w.cell? ⟨b, o + i, none⟩ = some (.int .u8 (l.getD i 0))

def BSrc (w : World) (a : Option Addr) (l : List Int) : Prop := l = [] ∨ ∃ b o, a = some ⟨b, o, none⟩ ∧ b < w.heap.size ∧ BytesAt w b o l

theorem BSrc.below {w w' : World} {a : Option Addr} {l : List Int} (h : BSrc w a l) (hb : Below w.heap.size w w') : BSrc w' a l := by
  rcases h with h | ⟨b, o, ha, hlt, hc⟩
  · exact .inl h
  · exact .inr ⟨b, o, ha, Nat.lt_of_lt_of_le hlt hb.size, fun i hi => (hb.cell (p := ⟨b, _, none⟩) hlt).trans (hc i hi)⟩

theorem info5 : (Try.prog.info? 5).map (fun i => (i.zero, i.size, i.bytes)) = some (some (.int .u8 0), 1, 1) := by kernel_rfl

/-- an own row of bytes -/
abbrev owns (w : World) (base : Nat) (v : Value) (l : List Int) : Prop := w.ownsRow base 5 1 v l.length (l.map (Value.int .u8))

theorem owns_src {w : World} {base : Nat} {v : Value} {l : List Int} (h : owns w base v l) : ∃ a cap, v = .slice a l.length cap ∧ BSrc w a l := by
  obtain ⟨_, h | ⟨g, cap, cur, rfl, hb, hg, hn, hm, hs, hx⟩⟩ := h
  · obtain ⟨rfl, h0⟩ := h
    have : l = [] := List.eq_nil_of_length_eq_zero h0
    subst this
    exact ⟨none, 0, rfl, .inl rfl⟩
  · refine ⟨_, _, rfl, .inr ⟨g, 0, rfl, (Array.getElem?_eq_some_iff.1 hg).1, fun i hi => ?_⟩⟩
    have e : (cur.toList.take (l.length * 1))[i]? = some (Value.int .u8 (l.getD i 0)) := by
      rw [hx, List.getElem?_map, List.getElem?_eq_getElem hi, List.getD_eq_getElem?_getD, List.getElem?_eq_getElem hi]; rfl
    rw [List.getElem?_take, if_pos (by omega)] at e
    simp only [World.cell?, hg, Nat.zero_add]
    simpa using e

theorem owns_kept {w w' : World} {B : Nat} {v : Value} {l : List Int} {row : Option Nat} (h : owns w B v l) (hg : w.grownBy w' row) (hne : ∀ q, v.ownBlock = some q → some q ≠ row) : owns w' B v l := by
  refine World.ownsRow.kept h hg ?_
  cases hv : v.ownBlock with
  | none => exact .inl rfl
  | some q => exact .inr (hne q hv)
end Go.Proofs.Ytoopomjkapeknaa
