/-
  MrkB, MrkC, CovM, Bytes, BytesM, Enc, Dec, U64, CovI
-/
import Derived.Test.YtioabdfddjmabaaGreatQ03
import Derived.Test.YtioabdfddjmabaaGreatQ01
import Derived.Lib.BitFns
import Derived.Deep.OwnRows
import Derived.Deep.QuietTactic
import Derived.BigQuiet
import Derived.Deep.RegionWith
import Derived.WalkLawsBesides
import Derived.Deep.RegionHeld3
import Derived.Deep.AppendLies
import Derived.Test.YtioabdfddjmabaaGreatQ02
namespace Go.Proofs.YtioabdfddjmabaaGreat
open Go.RowKit
set_option linter.unusedVariables false

theorem Wrote.three {w wr : World} {A : List AdK} {b o : Nat} {k q : Int} {n0 n1 n2 : Int} (h : Wrote w wr A k) (hq : q = k + A.length) (c0 : wr.cell? ⟨b, o, none⟩ = some (.int .i64 n0)) (c1 : wr.cell? ⟨b, o + 1, none⟩ = some (.int .u64 n1)) (c2 : wr.cell? ⟨b, o + 2, none⟩ = some (.int .u64 n2)) :
    Wrote w (((wr.setCell ⟨b, o, none⟩ (.int .i64 q)).setCell ⟨b, o + 1, none⟩ (.int .u64 (q + 1))).setCell ⟨b, o + 2, none⟩ (.int .u64 (q + 1 + 1))) (A ++ a3 b o) k := by
  have h1 := Wrote.one (k := q) c0
  have h2 := Wrote.one (k := q + 1) (cell_near (D := b) (i := o) (v := .int .i64 q) (by omega) c1)
  have h3 := Wrote.one (k := q + 1 + 1) (cell_near (D := b) (i := o + 1) (v := .int .u64 (q + 1)) (by omega) (cell_near (D := b) (i := o) (v := .int .i64 q) (by omega) c2))
  have h4 := (h1.trans h2 (by simp)).trans h3 (by simp; omega)
  exact h.trans h4 hq
theorem Wrote.two {w wr : World} {A : List AdK} {b o : Nat} {k q : Int} {n0 n1 : Int} (h : Wrote w wr A k) (hq : q = k + A.length) (c0 : wr.cell? ⟨b, o, none⟩ = some (.int .u32 n0)) (c1 : wr.cell? ⟨b, o + 1, none⟩ = some (.int .u32 n1)) :
    Wrote w ((wr.setCell ⟨b, o, none⟩ (.int .u32 q)).setCell ⟨b, o + 1, none⟩ (.int .u32 (q + 1))) (A ++ a2 b o) k := by
  have h1 := Wrote.one (k := q) c0
  have h2 := Wrote.one (k := q + 1) (cell_near (D := b) (i := o) (v := .int .u32 q) (by omega) c1)
  exact h.trans (h1.trans h2 (by simp)) hq
theorem ret_i {x y : Int} (h : x = y) : Ending.returned (.int .i64 x) = .returned (.int .i64 y) := by rw [h]
theorem a3_mem {b o n j : Nat} (h : j < n) : ∀ x ∈ a3 b (o + j * 3), x ∈ conA b o n := fun x hx => List.mem_flatMap.2 ⟨j, List.mem_range.2 h, hx⟩
theorem mem_flat {α : Type} {F : Nat → List α} {n i : Nat} (h : i < n) {x : α} (hx : x ∈ F i) : x ∈ (List.range n).flatMap F := List.mem_flatMap.2 ⟨i, List.mem_range.2 h, hx⟩
theorem flat_len_le {α : Type} {F : Nat → List α} {n m : Nat} (h : m ≤ n) : ((List.range m).flatMap F).length ≤ ((List.range n).flatMap F).length := by
  obtain ⟨d, rfl⟩ := Nat.le.dest h
  induction d with
  | zero => exact Nat.le_refl _
  | succ d ih =>
    rw [show m + (d + 1) = (m + d) + 1 by omega, flat_succ, List.length_append]
    have := ih (by omega)
    omega

set_option maxRecDepth 100000 in
set_option maxHeartbeats 2000000 in
theorem markConS_any (a : Option Addr) (n cap : Nat) (A : List AdK) (k : Int) (w : World) (hS : SK w a n A) (hn : A.length ≤ 8388608) (h0 : 0 ≤ k) (h1 : k ≤ 8388608) :
    Calls Tryz.prog 87 #[.slice a n cap, .int .i64 k] w fun e w' => e = .returned (.int .i64 (k + A.length)) ∧ Wrote w w' A k := by
  rcases hS with ⟨rfl, rfl⟩ | ⟨b, o, rfl, rfl, hI⟩
  · have W0 := Wrote.refl w k
    go_enter Tryz.func87, Tryz.ntmps87
    go_wp2_with fail
    go_loopw [1, 5] (fun q i wr => i = .int .i64 0 ∧ q = .int .i64 k ∧ wr = w) (fun _ i _ => 0)
    case atStart => exact ⟨rfl, rfl, rfl⟩
    case round =>
      obtain ⟨rfl, rfl, rfl⟩ := hrel
      go_wp2
      go_ret
      exact ⟨by simp, W0⟩
  · rw [conA_len] at hn ⊢
    go_enter Tryz.func87, Tryz.ntmps87
    go_wp2_with fail
    go_loopw [1, 5] (fun q i wr => ∃ j : Nat, j ≤ n ∧ i = .int .i64 j ∧ q = .int .i64 (k + 3 * j) ∧ Wrote w wr (conA b o j) k) (fun _ i _ => n - (intOf i).toNat)
    case atStart => exact ⟨0, by omega, rfl, by go_num, Wrote.refl w k⟩
    case round =>
      obtain ⟨j, hj, rfl, rfl, hW⟩ := hrel
      by_cases hlt : j < n
      · have hI' := hI.sim hW.sim
        obtain ⟨⟨n0, c0⟩, f0⟩ := hI' (⟨b, o + j * 3, none⟩, .i64) (a3_mem hlt _ (by simp [a3]))
        obtain ⟨⟨n1, c1⟩, f1⟩ := hI' (⟨b, o + j * 3 + 1, none⟩, .u64) (a3_mem hlt _ (by simp [a3]))
        obtain ⟨⟨n2, c2⟩, f2⟩ := hI' (⟨b, o + j * 3 + 2, none⟩, .u64) (a3_mem hlt _ (by simp [a3]))
        simp only at c0 f0 c1 f1 c2 f2
        have W2 := hW.three (q := k + 3 * j) (by rw [conA_len]; push_cast; omega) c0 c1 c2
        rw [← conA_succ] at W2
        have HW2 : Hid _ := W2
        clear W2
        have hlt' : (j : Int) < (n : Int) := by omega
        clear hI' hI hW
        go_wp2
        go_roundw
        case rel => exact ⟨j + 1, by omega, by go_num, by go_num, HW2.out⟩
        case measure => simp [intOf]; omega
      · have hjn : j = n := by omega
        subst hjn
        go_wp2
        go_ret
        exact ⟨ret_i (by push_cast; omega), hW⟩

set_option maxRecDepth 100000 in
set_option maxHeartbeats 2000000 in
theorem markRuleS_any (a : Option Addr) (n cap : Nat) (A : List AdK) (k : Int) (w : World) (hS : SR w a n A) (h0 : 0 ≤ k) (h1 : k + A.length ≤ 8388608) :
    Calls Tryz.prog 60 #[.slice a n cap, .int .i64 k] w fun e w' => e = .returned (.int .i64 (k + A.length)) ∧ Wrote w w' A k := by
  obtain ⟨hm, hS⟩ := hS
  rcases hS with ⟨rfl, rfl⟩ | ⟨b, o, rfl, F, rfl, hI⟩
  · have W0 := Wrote.refl w k
    go_enter Tryz.func60, Tryz.ntmps60
    go_wp2_with fail
    go_loopw [1, 5] (fun q i wr => i = .int .i64 0 ∧ q = .int .i64 k ∧ wr = w) (fun _ i _ => 0)
    case atStart => exact ⟨rfl, rfl, rfl⟩
    case round =>
      obtain ⟨rfl, rfl, rfl⟩ := hrel
      go_wp2
      go_ret
      exact ⟨by simp, W0⟩
  · have HL : Hid (∀ j, j ≤ n → ((List.range j).flatMap F).length ≤ ((List.range n).flatMap F).length) := fun j hj => flat_len_le hj
    have HI : Hid (∀ wr, Sim w wr → ∀ i, i < n → ∃ a' n' c', wr.cell? ⟨b, o + i, none⟩ = some (.slice a' n' c') ∧ SK wr a' n' (F i)) := fun wr s i hi => by
      obtain ⟨a', n', c', h4, h5⟩ := hI i hi
      exact ⟨a', n', c', s.rows _ _ _ _ h4, h5.sim s⟩
    clear hI
    go_enter Tryz.func60, Tryz.ntmps60
    go_wp2_with fail
    go_loopw [1, 5] (fun q i wr => ∃ j : Nat, j ≤ n ∧ i = .int .i64 j ∧ q = .int .i64 (k + ((List.range j).flatMap F).length) ∧ Wrote w wr ((List.range j).flatMap F) k) (fun _ i _ => n - (intOf i).toNat)
    case atStart => exact ⟨0, by omega, rfl, by simp, Wrote.refl w k⟩
    case round =>
      obtain ⟨j, hj, rfl, rfl, hW⟩ := hrel
      by_cases hlt : j < n
      · obtain ⟨a', n', c', c0, hk⟩ := HI.out wr hW.sim j hlt
        have l1 := HL.out (j + 1) (by omega)
        have es := flat_succ F j
        have HC : Hid (Calls Tryz.prog 87 #[.slice a' n' c', .int .i64 (k + ((List.range j).flatMap F).length)] wr fun e w' => e = .returned (.int .i64 (k + ((List.range (j + 1)).flatMap F).length)) ∧ Wrote w w' ((List.range (j + 1)).flatMap F) k) := by
          refine (markConS_any a' n' c' (F j) _ wr hk (by rw [es, List.length_append] at l1; omega) (by omega) (by rw [es, List.length_append] at l1; omega)).mono ?_
          rintro _ w' ⟨rfl, h2⟩
          rw [es]
          exact ⟨ret_i (by rw [List.length_append]; push_cast; omega), hW.trans h2 rfl⟩
        have hlt' : (j : Int) < (n : Int) := by omega
        clear hk es HL HI l1
        generalize (k + ((List.range j).flatMap F).length) = q at *
        generalize hAA : (List.range (j + 1)).flatMap F = A' at *
        generalize hqq : (k + (A'.length : Int)) = q' at *
        go_wp2_with fail
        refine (HC.out).mono ?_
        rintro _ w1 ⟨rfl, hW1⟩
        go_wp2
        go_roundw
        case rel => exact ⟨j + 1, by omega, by go_num, by rw [hAA, hqq], by rw [hAA]; exact hW1⟩
        case measure => simp [intOf]; omega
      · have hjn : j = n := by omega
        subst hjn
        go_wp2
        go_ret
        exact ⟨rfl, hW⟩
end Go.Proofs.YtioabdfddjmabaaGreat
namespace Go.Proofs.YtioabdfddjmabaaGreat
open Go.RowKit
set_option linter.unusedVariables false

def entA (b o : Nat) (F : Nat → List AdK) (j : Nat) : List AdK := (List.range j).flatMap fun i => a2 b (o + i * 3) ++ F i
theorem entA_succ (b o : Nat) (F : Nat → List AdK) (j : Nat) : entA b o F (j + 1) = entA b o F j ++ a2 b (o + j * 3) ++ F j := by
  rw [entA, flat_succ, ← List.append_assoc]; rfl
theorem entA_le (b o : Nat) (F : Nat → List AdK) {j n : Nat} (h : j ≤ n) : (entA b o F j).length ≤ (entA b o F n).length := flat_len_le h

set_option maxRecDepth 100000 in
set_option maxHeartbeats 4000000 in
theorem markEntryS_any (a : Option Addr) (n cap : Nat) (A : List AdK) (k : Int) (w : World) (hS : SE w a n A) (h0 : 0 ≤ k) (h1 : k + A.length ≤ 8388608) :
    Calls Tryz.prog 33 #[.slice a n cap, .int .i64 k] w fun e w' => e = .returned (.int .i64 (k + A.length)) ∧ Wrote w w' A k := by
  obtain ⟨hm, hS⟩ := hS
  rcases hS with ⟨rfl, rfl⟩ | ⟨b, o, rfl, F, hA, hI⟩
  · have W0 := Wrote.refl w k
    go_enter Tryz.func33, Tryz.ntmps33
    go_wp2_with fail
    go_loopw [1, 5] (fun q i wr => i = .int .i64 0 ∧ q = .int .i64 k ∧ wr = w) (fun _ i _ => 0)
    case atStart => exact ⟨rfl, rfl, rfl⟩
    case round =>
      obtain ⟨rfl, rfl, rfl⟩ := hrel
      go_wp2
      go_ret
      exact ⟨by simp, W0⟩
  · have hA' : A = entA b o F n := hA
    subst hA'
    clear hA
    have HL : Hid (∀ j, j ≤ n → (entA b o F j).length ≤ (entA b o F n).length) := fun j hj => entA_le b o F hj
    have HI : Hid (∀ wr, Sim w wr → ∀ i, i < n → IntsAt wr (a2 b (o + i * 3)) ∧ ∃ a' n' c', wr.cell? ⟨b, o + i * 3 + 2, none⟩ = some (.slice a' n' c') ∧ SR wr a' n' (F i)) := fun wr s i hi => by
      obtain ⟨h6, a', n', c', h4, h5⟩ := hI i hi
      exact ⟨h6.sim s, a', n', c', s.rows _ _ _ _ h4, h5.sim s⟩
    clear hI
    go_enter Tryz.func33, Tryz.ntmps33
    go_wp2_with fail
    go_loopw [1, 5] (fun q i wr => ∃ j : Nat, j ≤ n ∧ i = .int .i64 j ∧ q = .int .i64 (k + (entA b o F j).length) ∧ Wrote w wr (entA b o F j) k) (fun _ i _ => n - (intOf i).toNat)
    case atStart => exact ⟨0, by omega, rfl, by simp [entA], Wrote.refl w k⟩
    case round =>
      obtain ⟨j, hj, rfl, rfl, hW⟩ := hrel
      by_cases hlt : j < n
      · obtain ⟨hI, a', n', c', c2, hk⟩ := HI.out wr hW.sim j hlt
        obtain ⟨⟨n0, c0⟩, f0⟩ := hI (⟨b, o + j * 3, none⟩, .u32) (by simp [a2])
        obtain ⟨⟨n1, c1⟩, f1⟩ := hI (⟨b, o + j * 3 + 1, none⟩, .u32) (by simp [a2])
        simp only at c0 f0 c1 f1
        have l1 := HL.out (j + 1) (by omega)
        have es := entA_succ b o F j
        have l2 : (entA b o F (j + 1)).length = (entA b o F j).length + 2 + (F j).length := by rw [es]; simp [a2]; omega
        have hq : 0 ≤ k + ((entA b o F j).length : Int) := by omega
        have hq2 : k + ((entA b o F j).length : Int) + 2 ≤ 8388608 := by omega
        have W2 := hW.two (q := k + (entA b o F j).length) rfl c0 c1
        have s2 : Sim wr ((wr.setCell ⟨b, o + j * 3, none⟩ (.int .u32 (k + (entA b o F j).length))).setCell ⟨b, o + j * 3 + 1, none⟩ (.int .u32 (k + (entA b o F j).length + 1))) := (Sim.set c0).trans (Sim.set (cell_near (by omega) c1))
        have c2' := s2.rows _ _ _ _ c2
        have HC : Hid (Calls Tryz.prog 60 #[.slice a' n' c', .int .i64 (k + (entA b o F j).length + 1 + 1)] ((wr.setCell ⟨b, o + j * 3, none⟩ (.int .u32 (k + (entA b o F j).length))).setCell ⟨b, o + j * 3 + 1, none⟩ (.int .u32 (k + (entA b o F j).length + 1))) fun e w' => e = .returned (.int .i64 (k + (entA b o F (j + 1)).length)) ∧ Wrote w w' (entA b o F (j + 1)) k) := by
          refine (markRuleS_any a' n' c' (F j) _ _ (hk.sim s2) (by omega) (by omega)).mono ?_
          rintro _ w' ⟨rfl, h2⟩
          rw [l2]
          refine ⟨ret_i (by push_cast; omega), ?_⟩
          rw [es]
          exact W2.trans h2 (by rw [List.length_append]; simp [a2]; omega)
        have hlt' : (j : Int) < (n : Int) := by omega
        clear hk es HL HI l1 l2 W2 s2 hI hW c2
        generalize (k + ((entA b o F j).length : Int)) = q at *
        generalize hAA : entA b o F (j + 1) = A' at *
        generalize hqq : (k + (A'.length : Int)) = q' at *
        go_wp2_with fail
        refine (HC.out).mono ?_
        rintro _ w1 ⟨rfl, hW1⟩
        go_wp2
        go_roundw
        case rel => exact ⟨j + 1, by omega, by go_num, by rw [hAA, hqq], by rw [hAA]; exact hW1⟩
        case measure => simp [intOf]; omega
      · have hjn : j = n := by omega
        subst hjn
        go_wp2
        go_ret
        exact ⟨rfl, hW⟩

set_option maxRecDepth 100000 in
set_option maxHeartbeats 2000000 in
theorem markPolicy_any (a : Option Addr) (n cap : Nat) (A : List AdK) (k : Int) (w : World) (h0 : 0 ≤ k) (h1 : k + A.length ≤ 8388608) (hS' : SE (w.alloc (.cells #[.slice a n cap] 25)) a n A) :
    Calls Tryz.prog 15 #[.agg #[.slice a n cap], .int .i64 k] w fun e w' => e = .returned (.int .i64 (k + A.length)) ∧ Wrote (w.alloc (.cells #[.slice a n cap] 25)) w' A k := by
  have HC : Hid (Calls Tryz.prog 33 #[.slice a n cap, .int .i64 k] (w.alloc (.cells #[.slice a n cap] 25)) fun e w' => e = .returned (.int .i64 (k + A.length)) ∧ Wrote (w.alloc (.cells #[.slice a n cap] 25)) w' A k) := markEntryS_any a n cap A k _ hS' h0 h1
  have x0 := box1 w 25 (.slice a n cap)
  clear hS'
  generalize (k + (A.length : Int)) = q at *
  go_enter Tryz.func15, Tryz.ntmps15
  go_wp2_with fail
  refine (HC.out).mono ?_
  rintro _ w1 ⟨rfl, hW1⟩
  go_wp2
  go_ret
  exact ⟨rfl, hW1⟩

theorem conA_get {b o n j : Nat} (h : j < n) (f : Nat) (hf : f < 3) (h' : j * 3 + f < (conA b o n).length) : (conA b o n)[j * 3 + f] = (a3 b (o + j * 3))[f] := by
  have key : ∀ n, j < n → (conA b o n)[j * 3 + f]? = (a3 b (o + j * 3))[f]? := by
    intro n
    induction n with
    | zero => intro h; omega
    | succ n ih =>
      intro h
      rw [conA_succ]
      by_cases e : j = n
      · subst e
        rw [List.getElem?_append_right (by rw [conA_len]; omega), conA_len]
        congr 1; omega
      · rw [List.getElem?_append_left (by rw [conA_len]; omega)]
        exact ih (by omega)
  have := key n h
  rw [List.getElem?_eq_getElem h', List.getElem?_eq_getElem (by simp [a3]; omega)] at this
  exact Option.some.inj this

set_option maxRecDepth 100000 in
set_option maxHeartbeats 2000000 in
theorem heldConS_any (a : Option Addr) (n cap : Nat) (A : List AdK) (k : Int) (w : World) (hS : SK w a n A) (hH : HeldA w A k) (h0 : 0 ≤ k) (h1 : k + A.length ≤ 8388608) :
    Calls Tryz.prog 88 #[.slice a n cap, .int .i64 k] w fun e w' => e = .returned (.int .i64 (k + A.length)) ∧ w' = w := by
  rcases hS with ⟨rfl, rfl⟩ | ⟨b, o, rfl, rfl, hI⟩
  · go_enter Tryz.func88, Tryz.ntmps88
    go_wp2_with fail
    go_loop [1, 5] (fun q i => i = .int .i64 0 ∧ q = .int .i64 k) (fun _ i => 0)
    case atStart => exact ⟨rfl, rfl⟩
    case round =>
      obtain ⟨rfl, rfl⟩ := hrel
      go_wp2
      go_ret
      exact ⟨by simp, rfl⟩
  · have hc : ∀ j f, j < n → (hf : f < 3) → w.cell? (a3 b (o + j * 3))[f].1 = some (.int (a3 b (o + j * 3))[f].2 (k + (j * 3 + f : Nat))) := fun j f hj hf => by
      have hl : j * 3 + f < (conA b o n).length := by rw [conA_len]; omega
      have := hH (j * 3 + f) hl
      rw [conA_get hj f hf hl] at this
      exact this
    rw [conA_len] at h1 ⊢
    clear hI hH
    have Hc : Hid _ := hc
    clear hc
    go_enter Tryz.func88, Tryz.ntmps88
    go_wp2_with fail
    go_loop [1, 5] (fun q i => ∃ j : Nat, j ≤ n ∧ i = .int .i64 j ∧ q = .int .i64 (k + 3 * j)) (fun _ i => n - (intOf i).toNat)
    case atStart => exact ⟨0, by omega, rfl, by go_num⟩
    case round =>
      obtain ⟨j, hj, rfl, rfl⟩ := hrel
      by_cases hlt : j < n
      · have c0 : w.cell? ⟨b, o + j * 3, none⟩ = some (.int .i64 (k + 3 * j)) := (Hc.out j 0 hlt (by decide)).trans (congrArg some (by congr 1; push_cast; omega))
        have c1 : w.cell? ⟨b, o + j * 3 + 1, none⟩ = some (.int .u64 (k + 3 * j + 1)) := (Hc.out j 1 hlt (by decide)).trans (congrArg some (by congr 1; push_cast; omega))
        have c2 : w.cell? ⟨b, o + j * 3 + 2, none⟩ = some (.int .u64 (k + 3 * j + 1 + 1)) := (Hc.out j 2 hlt (by decide)).trans (congrArg some (by congr 1; push_cast; omega))
        have hlt' : (j : Int) < (n : Int) := by omega
        clear Hc
        go_wp2
        go_round
        case rel => exact ⟨j + 1, by omega, by go_num, by go_num⟩
        case measure => simp [intOf]; omega
      · have hjn : j = n := by omega
        subst hjn
        go_wp2
        go_ret
        exact ⟨ret_i (by push_cast; omega), rfl⟩

set_option maxRecDepth 100000 in
set_option maxHeartbeats 2000000 in
theorem heldRuleS_any (a : Option Addr) (n cap : Nat) (A : List AdK) (k : Int) (w : World) (hS : SR w a n A) (hH : HeldA w A k) (h0 : 0 ≤ k) (h1 : k + A.length ≤ 8388608) :
    Calls Tryz.prog 61 #[.slice a n cap, .int .i64 k] w fun e w' => e = .returned (.int .i64 (k + A.length)) ∧ w' = w := by
  obtain ⟨hm, hS⟩ := hS
  rcases hS with ⟨rfl, rfl⟩ | ⟨b, o, rfl, F, rfl, hI⟩
  · go_enter Tryz.func61, Tryz.ntmps61
    go_wp2_with fail
    go_loop [1, 5] (fun q i => i = .int .i64 0 ∧ q = .int .i64 k) (fun _ i => 0)
    case atStart => exact ⟨rfl, rfl⟩
    case round =>
      obtain ⟨rfl, rfl⟩ := hrel
      go_wp2
      go_ret
      exact ⟨by simp, rfl⟩
  · have HL : Hid (∀ j, j ≤ n → ((List.range j).flatMap F).length ≤ ((List.range n).flatMap F).length) := fun j hj => flat_len_le hj
    have HH : Hid (∀ j, j ≤ n → HeldA w ((List.range j).flatMap F) k) := fun j hj => by
      obtain ⟨d, hd⟩ := Nat.le.dest hj
      rw [← hd, List.range_add, List.flatMap_append] at hH
      exact hH.left
    have HI : Hid (∀ i, i < n → ∃ a' n' c', w.cell? ⟨b, o + i, none⟩ = some (.slice a' n' c') ∧ SK w a' n' (F i)) := hI
    clear hI hH
    go_enter Tryz.func61, Tryz.ntmps61
    go_wp2_with fail
    go_loop [1, 5] (fun q i => ∃ j : Nat, j ≤ n ∧ i = .int .i64 j ∧ q = .int .i64 (k + ((List.range j).flatMap F).length)) (fun _ i => n - (intOf i).toNat)
    case atStart => exact ⟨0, by omega, rfl, by simp⟩
    case round =>
      obtain ⟨j, hj, rfl, rfl⟩ := hrel
      by_cases hlt : j < n
      · obtain ⟨a', n', c', c0, hk⟩ := HI.out j hlt
        have l1 := HL.out (j + 1) (by omega)
        have es := flat_succ F j
        have hh := HH.out (j + 1) (by omega)
        have HC : Hid (Calls Tryz.prog 88 #[.slice a' n' c', .int .i64 (k + ((List.range j).flatMap F).length)] w fun e w' => e = .returned (.int .i64 (k + ((List.range (j + 1)).flatMap F).length)) ∧ w' = w) := by
          rw [es] at hh
          refine (heldConS_any a' n' c' (F j) _ w hk (hh.right rfl) (by omega) (by rw [es, List.length_append] at l1; omega)).mono ?_
          rintro _ w' ⟨rfl, h2⟩
          rw [es]
          exact ⟨ret_i (by rw [List.length_append]; push_cast; omega), h2⟩
        have hlt' : (j : Int) < (n : Int) := by omega
        have hq' : ¬ k + (((List.range (j + 1)).flatMap F).length : Int) < 0 := by omega
        clear hk es HL HI l1 hh HH
        generalize (k + (((List.range j).flatMap F).length : Int)) = q at *
        generalize hqq : (k + (((List.range (j + 1)).flatMap F).length : Int)) = q' at *
        go_wp2_with fail
        refine (HC.out).mono ?_
        rintro _ w1 ⟨rfl, rfl⟩
        go_wp2
        go_round
        case rel => exact ⟨j + 1, by omega, by go_num, by rw [hqq]⟩
        case measure => simp [intOf]; omega
      · have hjn : j = n := by omega
        subst hjn
        go_wp2
        go_ret
        exact ⟨rfl, rfl⟩

set_option maxRecDepth 100000 in
set_option maxHeartbeats 4000000 in
theorem heldEntryS_any (a : Option Addr) (n cap : Nat) (A : List AdK) (k : Int) (w : World) (hS : SE w a n A) (hH : HeldA w A k) (h0 : 0 ≤ k) (h1 : k + A.length ≤ 8388608) :
    Calls Tryz.prog 34 #[.slice a n cap, .int .i64 k] w fun e w' => e = .returned (.int .i64 (k + A.length)) ∧ w' = w := by
  obtain ⟨hm, hS⟩ := hS
  rcases hS with ⟨rfl, rfl⟩ | ⟨b, o, rfl, F, hA, hI⟩
  · go_enter Tryz.func34, Tryz.ntmps34
    go_wp2_with fail
    go_loop [1, 5] (fun q i => i = .int .i64 0 ∧ q = .int .i64 k) (fun _ i => 0)
    case atStart => exact ⟨rfl, rfl⟩
    case round =>
      obtain ⟨rfl, rfl⟩ := hrel
      go_wp2
      go_ret
      exact ⟨by simp, rfl⟩
  · have hA' : A = entA b o F n := hA
    subst hA'
    clear hA
    have HL : Hid (∀ j, j ≤ n → (entA b o F j).length ≤ (entA b o F n).length) := fun j hj => entA_le b o F hj
    have HH : Hid (∀ j, j ≤ n → HeldA w (entA b o F j) k) := fun j hj => by
      obtain ⟨d, hd⟩ := Nat.le.dest hj
      rw [entA, ← hd, List.range_add, List.flatMap_append] at hH
      exact hH.left
    have HI : Hid (∀ i, i < n → ∃ a' n' c', w.cell? ⟨b, o + i * 3 + 2, none⟩ = some (.slice a' n' c') ∧ SR w a' n' (F i)) := fun i hi => (hI i hi).2
    clear hI hH
    go_enter Tryz.func34, Tryz.ntmps34
    go_wp2_with fail
    go_loop [1, 5] (fun q i => ∃ j : Nat, j ≤ n ∧ i = .int .i64 j ∧ q = .int .i64 (k + (entA b o F j).length)) (fun _ i => n - (intOf i).toNat)
    case atStart => exact ⟨0, by omega, rfl, by simp [entA]⟩
    case round =>
      obtain ⟨j, hj, rfl, rfl⟩ := hrel
      by_cases hlt : j < n
      · obtain ⟨a', n', c', c2, hk⟩ := HI.out j hlt
        have l1 := HL.out (j + 1) (by omega)
        have es := entA_succ b o F j
        have hh := HH.out (j + 1) (by omega)
        have l2 : (entA b o F (j + 1)).length = (entA b o F j).length + 2 + (F j).length := by rw [es]; simp [a2]; omega
        rw [es] at hh
        have h2 := (hh.left).right (k' := k + (entA b o F j).length) rfl
        have c0 : w.cell? ⟨b, o + j * 3, none⟩ = some (.int .u32 (k + (entA b o F j).length)) := (h2 0 (by simp [a2])).trans (by simp [a2])
        have c1 : w.cell? ⟨b, o + j * 3 + 1, none⟩ = some (.int .u32 (k + (entA b o F j).length + 1)) := (h2 1 (by simp [a2])).trans (by simp [a2])
        have hq : 0 ≤ k + ((entA b o F j).length : Int) := by omega
        have hq2 : k + ((entA b o F j).length : Int) + 2 ≤ 8388608 := by omega
        have HC : Hid (Calls Tryz.prog 61 #[.slice a' n' c', .int .i64 (k + (entA b o F j).length + 1 + 1)] w fun e w' => e = .returned (.int .i64 (k + (entA b o F (j + 1)).length)) ∧ w' = w) := by
          refine (heldRuleS_any a' n' c' (F j) _ w hk (hh.right (by rw [List.length_append]; simp [a2]; omega)) (by omega) (by omega)).mono ?_
          rintro _ w' ⟨rfl, h3⟩
          rw [l2]
          exact ⟨ret_i (by push_cast; omega), h3⟩
        have hlt' : (j : Int) < (n : Int) := by omega
        have hq' : ¬ k + ((entA b o F (j + 1)).length : Int) < 0 := by omega
        clear hk es HL HI l1 hh HH h2 l2
        generalize (k + ((entA b o F j).length : Int)) = q at *
        generalize hqq : (k + ((entA b o F (j + 1)).length : Int)) = q' at *
        go_wp2_with fail
        refine (HC.out).mono ?_
        rintro _ w1 ⟨rfl, rfl⟩
        go_wp2
        go_round
        case rel => exact ⟨j + 1, by omega, by go_num, by rw [hqq]⟩
        case measure => simp [intOf]; omega
      · have hjn : j = n := by omega
        subst hjn
        go_wp2
        go_ret
        exact ⟨rfl, rfl⟩

set_option maxRecDepth 100000 in
set_option maxHeartbeats 2000000 in
theorem heldPolicy_any (a : Option Addr) (n cap : Nat) (A : List AdK) (k : Int) (w : World) (h0 : 0 ≤ k) (h1 : k + A.length ≤ 8388608) (hS' : SE (w.alloc (.cells #[.slice a n cap] 25)) a n A) (hH : HeldA (w.alloc (.cells #[.slice a n cap] 25)) A k) :
    Calls Tryz.prog 16 #[.agg #[.slice a n cap], .int .i64 k] w fun e w' => e = .returned (.int .i64 (k + A.length)) ∧ Below w.heap.size w w' := by
  have HC : Hid (Calls Tryz.prog 34 #[.slice a n cap, .int .i64 k] (w.alloc (.cells #[.slice a n cap] 25)) fun e w' => e = .returned (.int .i64 (k + A.length)) ∧ w' = (w.alloc (.cells #[.slice a n cap] 25))) := heldEntryS_any a n cap A k _ hS' hH h0 h1
  have x0 := box1 w 25 (.slice a n cap)
  have B : Below w.heap.size w (w.alloc (.cells #[.slice a n cap] 25)) := (Below.refl _ _).alloc (Nat.le_refl _) _
  have hq : ¬ k + (A.length : Int) < 0 := by omega
  clear hS' hH
  generalize (k + (A.length : Int)) = q at *
  go_enter Tryz.func16, Tryz.ntmps16
  go_wp2_with fail
  refine (HC.out).mono ?_
  rintro _ w1 ⟨rfl, rfl⟩
  go_wp2
  go_ret
  exact ⟨rfl, B⟩
end Go.Proofs.YtioabdfddjmabaaGreat
namespace Go.Proofs.YtioabdfddjmabaaGreat
set_option linter.unusedVariables false

/-- the bits in which one of the first n differs from the first one -/
def difN (vs : List Nat) : Nat → Nat
  | 0 => 0
  | n + 1 => difN vs n ||| (vs.getD n 0 ^^^ vs.getD 0 0)
/-- how many of the first n have bit k -/
def onesN (vs : List Nat) (k : Nat) : Nat → Nat
  | 0 => 0
  | n + 1 => onesN vs k n + (if (vs.getD n 0).testBit k = true then 1 else 0)
def minN (vs : List Nat) : Nat → Nat
  | 0 => vs.getD 0 0
  | n + 1 => if vs.getD n 0 < minN vs n then vs.getD n 0 else minN vs n
def maxN (vs : List Nat) : Nat → Nat
  | 0 => vs.getD 0 0
  | n + 1 => if maxN vs n < vs.getD n 0 then vs.getD n 0 else maxN vs n

def All64 (vs : List Nat) : Prop := ∀ i, vs.getD i 0 < 18446744073709551616

def covA (vs : List Nat) : Nat := inv (difN vs vs.length)
def covB (vs : List Nat) : Nat := vs.getD 0 0 &&& inv (difN vs vs.length)

theorem difN_lt {vs : List Nat} (h : All64 vs) : ∀ n, difN vs n < 18446744073709551616
  | 0 => (by decide : 0 < 18446744073709551616)
  | n + 1 => or_lt (difN_lt h n) (xor_lt (h n) (h 0))
theorem difN_bit (vs : List Nat) (k : Nat) : ∀ n, (difN vs n).testBit k = true ↔ ∃ j, j < n ∧ (vs.getD j 0).testBit k ≠ (vs.getD 0 0).testBit k
  | 0 => by simp [difN]
  | n + 1 => by
    simp only [difN, Nat.testBit_or, Nat.testBit_xor, Bool.or_eq_true, difN_bit vs k n]
    constructor
    · rintro (⟨j, h1, h2⟩ | h)
      · exact ⟨j, by omega, h2⟩
      · exact ⟨n, by omega, by revert h; cases (vs.getD n 0).testBit k <;> cases (vs.getD 0 0).testBit k <;> simp⟩
    · rintro ⟨j, h1, h2⟩
      by_cases e : j = n
      · subst e; right; revert h2; cases (vs.getD j 0).testBit k <;> cases (vs.getD 0 0).testBit k <;> simp
      · exact .inl ⟨j, by omega, h2⟩

theorem onesN_le (vs : List Nat) (k : Nat) : ∀ n, onesN vs k n ≤ n
  | 0 => Nat.le_refl _
  | n + 1 => by have := onesN_le vs k n; unfold onesN; split <;> omega
theorem onesN_zero (vs : List Nat) (k : Nat) : ∀ n, onesN vs k n = 0 ↔ ∀ j, j < n → (vs.getD j 0).testBit k = false
  | 0 => by simp [onesN]
  | n + 1 => by
    have := onesN_zero vs k n
    unfold onesN
    constructor
    · intro h j hj
      by_cases e : j = n
      · subst e
        by_cases q : (vs.getD j 0).testBit k = true
        · rw [if_pos q] at h; omega
        · exact Bool.eq_false_iff.2 q
      · exact this.1 (by omega) j (by omega)
    · intro h
      rw [this.2 (fun j hj => h j (by omega)), if_neg (by rw [h n (by omega)]; decide)]
theorem onesN_all (vs : List Nat) (k : Nat) : ∀ n, onesN vs k n = n ↔ ∀ j, j < n → (vs.getD j 0).testBit k = true
  | 0 => by simp [onesN]
  | n + 1 => by
    have := onesN_all vs k n
    have hl := onesN_le vs k n
    unfold onesN
    constructor
    · intro h j hj
      by_cases q : (vs.getD n 0).testBit k = true
      · rw [if_pos q] at h
        by_cases e : j = n
        · subst e; exact q
        · exact this.1 (by omega) j (by omega)
      · rw [if_neg q] at h; omega
    · intro h
      rw [this.2 (fun j hj => h j (by omega)), if_pos (h n (by omega))]

theorem covA_bit {vs : List Nat} (h : All64 vs) (hne : 0 < vs.length) {k : Nat} (hk : k < 64) : (covA vs).testBit k = true ↔ (onesN vs k vs.length = 0 ∨ onesN vs k vs.length = vs.length) := by
  unfold covA
  rw [bit_inv (difN_lt h _), decide_eq_true hk, Bool.true_and, Bool.not_eq_true', ← Bool.not_eq_true, difN_bit, onesN_zero, onesN_all]
  constructor
  · intro q
    cases e : (vs.getD 0 0).testBit k with
    | false => exact .inl fun j hj => Decidable.byContradiction fun r => q ⟨j, hj, by rw [e]; exact r⟩
    | true => exact .inr fun j hj => Decidable.byContradiction fun r => q ⟨j, hj, by rw [e]; exact r⟩
  · rintro (q | q) ⟨j, hj, r⟩
    · exact r (by rw [q j hj, q 0 hne])
    · exact r (by rw [q j hj, q 0 hne])
theorem covB_bit {vs : List Nat} (h : All64 vs) (hne : 0 < vs.length) {k : Nat} (hk : k < 64) : (covB vs).testBit k = true ↔ onesN vs k vs.length = vs.length := by
  have hA := covA_bit h hne hk
  unfold covB
  unfold covA at hA
  rw [Nat.testBit_and, Bool.and_eq_true, hA, onesN_zero, onesN_all]
  constructor
  · rintro ⟨h1, h2 | h2⟩
    · rw [h2 0 hne] at h1; exact absurd h1 (by decide)
    · exact h2
  · intro q
    exact ⟨q 0 hne, .inr q⟩
theorem covA_lt (vs : List Nat) : covA vs < 18446744073709551616 := inv_lt _
theorem covB_lt {vs : List Nat} (h : All64 vs) : covB vs < 18446744073709551616 := and_lt (h 0)
theorem cov_valid (vs : List Nat) : covA vs ||| covB vs = covA vs := by
  unfold covA covB
  apply Nat.eq_of_testBit_eq
  intro i
  rw [Nat.testBit_or, Nat.testBit_and]
  cases (vs.getD 0 0).testBit i <;> cases (inv (difN vs vs.length)).testBit i <;> rfl
/-- every value has the agreed bits -/
theorem cov_mask {vs : List Nat} (h : All64 vs) {j : Nat} (hj : j < vs.length) : vs.getD j 0 &&& covA vs = covB vs := by
  unfold covA covB
  apply Nat.eq_of_testBit_eq
  intro i
  rw [Nat.testBit_and, Nat.testBit_and]
  cases e : (inv (difN vs vs.length)).testBit i with
  | false => simp
  | true =>
    rw [bit_inv (difN_lt h _), Bool.and_eq_true, Bool.not_eq_true', ← Bool.not_eq_true, difN_bit] at e
    have : (vs.getD j 0).testBit i = (vs.getD 0 0).testBit i := Decidable.byContradiction fun r => e.2 ⟨j, hj, r⟩
    rw [this]

/-- the bits from k up -/
def topN (x k : Nat) : Nat := x / 2 ^ k * 2 ^ k
theorem topN_0 (x : Nat) : topN x 0 = x := by simp [topN]
theorem topN_64 {x : Nat} (h : x < 18446744073709551616) : topN x 64 = 0 := by
  unfold topN; rw [Nat.div_eq_of_lt (by exact h), Nat.zero_mul]
theorem topN_le (x k : Nat) : topN x k ≤ x := Nat.div_mul_le_self x _
theorem topN_yes {x k : Nat} (h : x.testBit k = true) : topN x (k + 1) ||| 2 ^ k = topN x k := by
  apply Nat.eq_of_testBit_eq
  intro i
  unfold topN
  rw [Nat.testBit_or, bit_shift, bit_shift, Nat.testBit_two_pow]
  by_cases e : i = k
  · subst e; simp [h]
  · by_cases q : k ≤ i
    · simp [q, show k + 1 ≤ i by omega, show ¬ k = i by omega]
    · simp [q, show ¬ k + 1 ≤ i by omega, show ¬ k = i by omega]
theorem topN_no {x k : Nat} (h : x.testBit k = false) : topN x (k + 1) = topN x k := by
  apply Nat.eq_of_testBit_eq
  intro i
  unfold topN
  rw [bit_shift, bit_shift]
  by_cases e : i = k
  · subst e; simp [h]
  · by_cases q : k ≤ i
    · simp [q, show k + 1 ≤ i by omega]
    · simp [q, show ¬ k + 1 ≤ i by omega]

theorem minN_lt {vs : List Nat} (h : All64 vs) : ∀ n, minN vs n < 18446744073709551616
  | 0 => h 0
  | n + 1 => by have := minN_lt h n; have := h n; unfold minN; split <;> omega
theorem maxN_lt {vs : List Nat} (h : All64 vs) : ∀ n, maxN vs n < 18446744073709551616
  | 0 => h 0
  | n + 1 => by have := maxN_lt h n; have := h n; unfold maxN; split <;> omega
theorem minN_1 (vs : List Nat) : minN vs 1 = vs.getD 0 0 := by simp [minN]
theorem maxN_1 (vs : List Nat) : maxN vs 1 = vs.getD 0 0 := by simp [maxN]
theorem minN_le (vs : List Nat) : ∀ n j, j < n → minN vs n ≤ vs.getD j 0
  | n + 1, j, hj => by
    unfold minN
    by_cases e : j = n
    · subst e; split <;> omega
    · have := minN_le vs n j (by omega); split <;> omega
theorem maxN_ge (vs : List Nat) : ∀ n j, j < n → vs.getD j 0 ≤ maxN vs n
  | n + 1, j, hj => by
    unfold maxN
    by_cases e : j = n
    · subst e; split <;> omega
    · have := maxN_ge vs n j (by omega); split <;> omega
theorem min_max (vs : List Nat) : ∀ n, minN vs n ≤ maxN vs n
  | 0 => Nat.le_refl _
  | n + 1 => by
    have := min_max vs n
    unfold minN maxN
    split <;> split <;> omega

/-- how many of the lowest n bits are set -/
def popN (x : Nat) : Nat → Nat
  | 0 => 0
  | n + 1 => popN x n + (if x.testBit n = true then 1 else 0)
theorem popN_le (x : Nat) : ∀ n, popN x n ≤ n
  | 0 => Nat.le_refl _
  | n + 1 => by have := popN_le x n; unfold popN; split <;> omega
theorem popN_half (x : Nat) : ∀ n, popN x (n + 1) = x % 2 + popN (x / 2) n
  | 0 => by
    simp only [popN, Nat.testBit_zero, decide_eq_true_eq]
    split <;> omega
  | n + 1 => by
    have h := popN_half x n
    unfold popN
    rw [h, Nat.testBit_succ]
    omega
theorem popAux_eq : ∀ n x, Lib.popAux n x = popN x n
  | 0, x => rfl
  | n + 1, x => by rw [popN_half, Lib.popAux, popAux_eq n (x / 2)]
theorem low_next (z : Nat) : low (z + 1) = low z * 2 + 1 := by
  have h1 := low_succ z
  have h2 := low_succ (z + 1)
  rw [Nat.pow_succ] at h2
  omega

/-- one less than the number of elements of a mask's set -/
def moreK (a : Nat) : Nat := low (popN (inv a) 64)

/-- what covers the values in the form -/
def coverK (vs : List Nat) (form : Int) : K :=
  if vs.length = 0 ∨ ¬ (0 ≤ form ∧ form ≤ 2) then ⟨0, 0, 0⟩
  else if form = 1 ∨ (form = 0 ∧ moreK (covA vs) ≤ maxN vs vs.length - minN vs vs.length) then newMask (covA vs) (covB vs)
  else newRange (minN vs vs.length) (maxN vs vs.length)

theorem coverK_normal {vs : List Nat} (h : All64 vs) (form : Int) : Normal (coverK vs form) := by
  unfold coverK
  split
  · exact .inl rfl
  · split
    · exact newMask_normal (covA_lt _) (cov_valid _)
    · exact newRange_normal (min_max _ _) (maxN_lt h _)
theorem coverK_holds {vs : List Nat} (h : All64 vs) (form : Int) {j : Nat} (hj : j < vs.length) : holdsK (coverK vs form) (vs.getD j 0) = true := by
  unfold coverK
  split
  · rfl
  · split
    · rw [newMask_holds (cov_valid _), holds_mask, cov_mask h hj]; exact beq_self_eq_true _
    · rw [newRange_holds (min_max _ _) (maxN_lt h _) (h j), holds_range]
      rw [decide_eq_true (minN_le vs _ j hj), decide_eq_true (maxN_ge vs _ j hj)]; rfl

/-! counting bits byte by byte -/
def rep (m : Nat) : Nat → Nat
  | 0 => 0
  | n + 1 => m + 256 * rep m n
def g1 (b : Nat) : Nat := (b / 2 &&& 85) + (b &&& 85)
def g2 (b : Nat) : Nat := (b / 4 &&& 51) + (b &&& 51)
def g3 (b : Nat) : Nat := (b / 16 + b) &&& 15
def S1 (n x : Nat) : Nat := (x / 2 &&& rep 85 n) + (x &&& rep 85 n)
def S2 (n x : Nat) : Nat := (x / 4 &&& rep 51 n) + (x &&& rep 51 n)
def S3 (n x : Nat) : Nat := (x / 16 + x) &&& rep 15 n
def dig : Nat → Nat → Nat
  | 0, _ => 0
  | n + 1, x => Lib.popAux 8 (x % 256) + 256 * dig n (x / 256)

theorem rep_succ (m n : Nat) : rep m (n + 1) = m + 256 * rep m n := rfl
theorem and_split (x m q : Nat) (hm : m < 256) : x &&& (m + 256 * q) = (x % 256 &&& m) + 256 * (x / 256 &&& q) := by
  have h1 : (x &&& (m + 256 * q)) % 2 ^ 8 = (x % 2 ^ 8 &&& (m + 256 * q) % 2 ^ 8) := Nat.and_mod_two_pow
  have h2 : (x &&& (m + 256 * q)) / 2 ^ 8 = (x / 2 ^ 8 &&& (m + 256 * q) / 2 ^ 8) := Nat.and_div_two_pow
  have e1 : (m + 256 * q) % 2 ^ 8 = m := by omega
  have e2 : (m + 256 * q) / 2 ^ 8 = q := by omega
  rw [e1] at h1
  rw [e2] at h2
  have e3 : (2 : Nat) ^ 8 = 256 := by decide
  rw [e3] at h1 h2
  rw [← h1, ← h2]
  omega
theorem and_small (x k m : Nat) (hm : m < 2 ^ k) : x &&& m = x % 2 ^ k &&& m := by
  have h1 : (x &&& m) % 2 ^ k = (x % 2 ^ k &&& m % 2 ^ k) := Nat.and_mod_two_pow
  rw [Nat.mod_eq_of_lt hm, Nat.mod_eq_of_lt (Nat.lt_of_le_of_lt Nat.and_le_right hm)] at h1
  exact h1

theorem S1_step {b y : Nat} (n : Nat) (hb : b < 256) : S1 (n + 1) (b + 256 * y) = g1 b + 256 * S1 n y := by
  unfold S1 g1
  rw [rep_succ]
  rw [and_split _ 85 _ (by decide), and_split _ 85 _ (by decide)]
  have e1 : (b + 256 * y) / 2 / 256 = y / 2 := by omega
  have e2 : (b + 256 * y) / 256 = y := by omega
  have e3 : (b + 256 * y) % 256 = b := by omega
  have e4 : (b + 256 * y) / 2 % 256 &&& 85 = b / 2 &&& 85 := by
    rw [and_small _ 7 85 (by decide), and_small (b / 2) 7 85 (by decide)]
    congr 1; omega
  rw [e1, e2, e3, e4]
  omega
theorem S2_step {b y : Nat} (n : Nat) (hb : b < 256) : S2 (n + 1) (b + 256 * y) = g2 b + 256 * S2 n y := by
  unfold S2 g2
  rw [rep_succ]
  rw [and_split _ 51 _ (by decide), and_split _ 51 _ (by decide)]
  have e1 : (b + 256 * y) / 4 / 256 = y / 4 := by omega
  have e2 : (b + 256 * y) / 256 = y := by omega
  have e3 : (b + 256 * y) % 256 = b := by omega
  have e4 : (b + 256 * y) / 4 % 256 &&& 51 = b / 4 &&& 51 := by
    rw [and_small _ 6 51 (by decide), and_small (b / 4) 6 51 (by decide)]
    congr 1; omega
  rw [e1, e2, e3, e4]
  omega
theorem S3_step {b y : Nat} (n : Nat) (hb : b ≤ 68) (hy : y % 16 ≤ 4) : S3 (n + 1) (b + 256 * y) = g3 b + 256 * S3 n y := by
  unfold S3 g3
  rw [rep_succ]
  rw [and_split _ 15 _ (by decide)]
  have e1 : ((b + 256 * y) / 16 + (b + 256 * y)) / 256 = y / 16 + y := by omega
  have e4 : ((b + 256 * y) / 16 + (b + 256 * y)) % 256 &&& 15 = (b / 16 + b) &&& 15 := by
    rw [and_small _ 4 15 (by decide), and_small (b / 16 + b) 4 15 (by decide)]
    congr 1; omega
  rw [e1, e4]
theorem g_all : ∀ b : Fin 256, g1 b.val < 256 ∧ g2 (g1 b.val) ≤ 68 ∧ g2 (g1 b.val) % 16 ≤ 4 ∧ g3 (g2 (g1 b.val)) = Lib.popAux 8 b.val := by decide +kernel
theorem swar : ∀ n x, x < 256 ^ n → S3 n (S2 n (S1 n x)) = dig n x ∧ S2 n (S1 n x) % 16 ≤ 4
  | 0, x, h => by simp [S1, S2, S3, dig, rep]
  | n + 1, x, h => by
    obtain ⟨i1, i2⟩ := swar n (x / 256) (by rw [Nat.pow_succ] at h; omega)
    obtain ⟨h1, h2, h3, h4⟩ := g_all ⟨x % 256, by omega⟩
    simp only at h1 h2 h3 h4
    have e : x = x % 256 + 256 * (x / 256) := by omega
    have e1 : S1 (n + 1) x = g1 (x % 256) + 256 * S1 n (x / 256) := by
      rw [← S1_step n (by omega), ← e]
    rw [e1, S2_step n h1, S3_step n h2 i2, i1, h4]
    exact ⟨rfl, by omega⟩
theorem pop_byte (n x : Nat) : Lib.popAux (n + 8) x = Lib.popAux 8 (x % 256) + Lib.popAux n (x / 256) := by
  show x % 2 + (x / 2 % 2 + (x / 2 / 2 % 2 + (x / 2 / 2 / 2 % 2 + (x / 2 / 2 / 2 / 2 % 2 + (x / 2 / 2 / 2 / 2 / 2 % 2 + (x / 2 / 2 / 2 / 2 / 2 / 2 % 2 + (x / 2 / 2 / 2 / 2 / 2 / 2 / 2 % 2 + Lib.popAux n (x / 2 / 2 / 2 / 2 / 2 / 2 / 2 / 2)))))))) = _
  have e : x / 2 / 2 / 2 / 2 / 2 / 2 / 2 / 2 = x / 256 := by omega
  rw [e]
  simp only [Lib.popAux]
  omega
theorem pop8_le (x : Nat) : Lib.popAux 8 x ≤ 8 := by rw [popAux_eq]; exact popN_le _ _
/-- the last three steps add the bytes up -/
theorem swar_sum {x y : Nat} (hx : x < 18446744073709551616) (hy : y = dig 8 x) :
    y + y / 256 < 18446744073709551616 ∧ (y + y / 256) + (y + y / 256) / 65536 < 18446744073709551616 ∧
    ((y + y / 256) + (y + y / 256) / 65536) + ((y + y / 256) + (y + y / 256) / 65536) / 4294967296 < 9223372036854775808 ∧
    (((y + y / 256) + (y + y / 256) / 65536) + ((y + y / 256) + (y + y / 256) / 65536) / 4294967296) % 128 = popN x 64 := by
  have e : popN x 64 = Lib.popAux 64 x := (popAux_eq 64 x).symm
  rw [e, pop_byte 56, pop_byte 48, pop_byte 40, pop_byte 32, pop_byte 24, pop_byte 16, pop_byte 8]
  have e8 : x / 256 / 256 / 256 / 256 / 256 / 256 / 256 = x / 256 / 256 / 256 / 256 / 256 / 256 / 256 % 256 := by omega
  rw [e8]
  clear e8
  simp only [dig] at hy
  have p0 := pop8_le (x % 256)
  have p1 := pop8_le (x / 256 % 256)
  have p2 := pop8_le (x / 256 / 256 % 256)
  have p3 := pop8_le (x / 256 / 256 / 256 % 256)
  have p4 := pop8_le (x / 256 / 256 / 256 / 256 % 256)
  have p5 := pop8_le (x / 256 / 256 / 256 / 256 / 256 % 256)
  have p6 := pop8_le (x / 256 / 256 / 256 / 256 / 256 / 256 % 256)
  have p7 := pop8_le (x / 256 / 256 / 256 / 256 / 256 / 256 / 256 % 256)
  generalize Lib.popAux 8 (x % 256) = c0 at *
  generalize Lib.popAux 8 (x / 256 % 256) = c1 at *
  generalize Lib.popAux 8 (x / 256 / 256 % 256) = c2 at *
  generalize Lib.popAux 8 (x / 256 / 256 / 256 % 256) = c3 at *
  generalize Lib.popAux 8 (x / 256 / 256 / 256 / 256 % 256) = c4 at *
  generalize Lib.popAux 8 (x / 256 / 256 / 256 / 256 / 256 % 256) = c5 at *
  generalize Lib.popAux 8 (x / 256 / 256 / 256 / 256 / 256 / 256 % 256) = c6 at *
  generalize Lib.popAux 8 (x / 256 / 256 / 256 / 256 / 256 / 256 / 256 % 256) = c7 at *
  clear hx e
  have a1 : y / 256 = c1 + 256 * (c2 + 256 * (c3 + 256 * (c4 + 256 * (c5 + 256 * (c6 + 256 * c7))))) := by omega
  obtain ⟨y1, hy1⟩ : ∃ y1, y1 = y + y / 256 := ⟨_, rfl⟩
  rw [← hy1]
  have b1 : y1 = (c0 + c1) + 256 * ((c1 + c2) + 256 * ((c2 + c3) + 256 * ((c3 + c4) + 256 * ((c4 + c5) + 256 * ((c5 + c6) + 256 * ((c6 + c7) + 256 * c7)))))) := by omega
  clear hy1 a1 hy
  have a2 : y1 / 65536 = (c2 + c3) + 256 * ((c3 + c4) + 256 * ((c4 + c5) + 256 * ((c5 + c6) + 256 * ((c6 + c7) + 256 * c7)))) := by omega
  obtain ⟨y2, hy2⟩ : ∃ y2, y2 = y1 + y1 / 65536 := ⟨_, rfl⟩
  rw [← hy2]
  have b2 : y2 = (c0 + c1 + c2 + c3) + 256 * ((c1 + c2 + c3 + c4) + 256 * ((c2 + c3 + c4 + c5) + 256 * ((c3 + c4 + c5 + c6) + 256 * ((c4 + c5 + c6 + c7) + 256 * ((c5 + c6 + c7) + 256 * ((c6 + c7) + 256 * c7)))))) := by omega
  have l1 : y1 < 18446744073709551616 := by omega
  clear hy2 a2 b1
  have a3 : y2 / 4294967296 = (c4 + c5 + c6 + c7) + 256 * ((c5 + c6 + c7) + 256 * ((c6 + c7) + 256 * c7)) := by omega
  refine ⟨l1, by omega, by omega, by omega⟩
end Go.Proofs.YtioabdfddjmabaaGreat
namespace Go.Proofs.YtioabdfddjmabaaGreat
open Go.RowKit
set_option linter.unusedVariables false

theorem add_at (b o m : Nat) : (⟨b, o, none⟩ : Addr).add m = ⟨b, o + m, none⟩ := by
  unfold Addr.add
  by_cases hm0 : m = 0
  · subst hm0; simp
  · simp [hm0]

/-- bytes that came in, or were made: nil or empty, or at an address -/
def BytesAt (w : World) (b o : Nat) (l : List Int) : Prop := ∀ i, i < l.length → w.cell? ⟨b, o + i, none⟩ = some (.int .u8 (l.getD i 0))

def BSrc (w : World) (a : Option Addr) (l : List Int) : Prop := l = [] ∨ ∃ b o, a = some ⟨b, o, none⟩ ∧ b < w.heap.size ∧ BytesAt w b o l

theorem BSrc.below {w w' : World} {a : Option Addr} {l : List Int} (h : BSrc w a l) (hb : Below w.heap.size w w') : BSrc w' a l := by
  rcases h with h | ⟨b, o, ha, hlt, hc⟩
  · exact .inl h
  · exact .inr ⟨b, o, ha, Nat.lt_of_lt_of_le hlt hb.size, fun i hi => (hb.cell (p := ⟨b, _, none⟩) hlt).trans (hc i hi)⟩

theorem info5 : (Tryz.prog.info? 5).map (fun i => (i.zero, i.size, i.bytes)) = some (some (.int .u8 0), 1, 1) := by kernel_rfl

/-- an own row of bytes -/
abbrev owns (w : World) (base : Nat) (v : Value) (l : List Int) : Prop := w.ownsRow base 5 1 v l.length (l.map (Value.int .u8))

theorem owns_src {w : World} {base : Nat} {v : Value} {l : List Int} (h : owns w base v l) : ∃ a cap, v = .slice a l.length cap ∧ BSrc w a l := by
  obtain ⟨_, h | ⟨g, cap, cur, rfl, hb, hg, hn, hm, hs, hx⟩⟩ := h
  · obtain ⟨rfl, h0⟩ := h
    have : l = [] := List.eq_nil_of_length_eq_zero h0
    subst this
    exact ⟨none, 0, rfl, .inl rfl⟩
  · refine ⟨_, _, rfl, .inr ⟨g, 0, rfl, (Array.getElem?_eq_some_iff.1 hg).1, fun i hi => ?_⟩⟩
    have e : (cur.toList.take (l.length * 1))[i]? = some (Value.int .u8 (l.getD i 0)) := by
      rw [hx, List.getElem?_map, List.getElem?_eq_getElem hi, List.getD_eq_getElem?_getD, List.getElem?_eq_getElem hi]; rfl
    rw [List.getElem?_take, if_pos (by omega)] at e
    simp only [World.cell?, hg, Nat.zero_add]
    simpa using e

theorem owns_kept {w w' : World} {B : Nat} {v : Value} {l : List Int} {row : Option Nat} (h : owns w B v l) (hg : w.grownBy w' row) (hne : ∀ q, v.ownBlock = some q → some q ≠ row) : owns w' B v l := by
  refine World.ownsRow.kept h hg ?_
  cases hv : v.ownBlock with
  | none => exact .inl rfl
  | some q => exact .inr (hne q hv)
end Go.Proofs.YtioabdfddjmabaaGreat
namespace Go.Proofs.YtioabdfddjmabaaGreat
open Go.RowKit
set_option linter.unusedVariables false

theorem grown_setCell {w wr : World} {D : Nat} (h : w.grownBy wr (some D)) (j : Nat) (v : Value) : w.grownBy (wr.setCell ⟨D, j, none⟩ v) (some D) :=
  ⟨h.os, h.tape, h.output, by have := h.size; simpa [World.setCell] using this, fun k hk hne => (Below.heap_setCell wr ⟨D, j, none⟩ v k (fun e => hne (by rw [e]))).trans (h.block k hk hne)⟩

/-- the cells of the row D from number 0 to j hold the marks k, k + 1, .. -/
def Marks (w : World) (D N : Nat) (k : Int) (j : Nat) : Prop := ∃ f, w.rowIs D 5 N f ∧ ∀ i, i < j → f i = .int .u8 (IntKind.u8.wrap (k + i))

theorem Marks.step {w : World} {D N j : Nat} {k : Int} (h : Marks w D N k j) : Marks (w.setCell ⟨D, j, none⟩ (.int .u8 (IntKind.u8.wrap (k + j)))) D N k (j + 1) := by
  obtain ⟨f, hr, hf⟩ := h
  refine ⟨_, hr.set _ _, fun i hi => ?_⟩
  by_cases e : i = j
  · rw [if_pos e, e]
  · rw [if_neg e]; exact hf i (by omega)

theorem Marks.own {w : World} {D N j : Nat} {k : Int} (h : Marks w D N k j) (i : Nat) (hi : i < N) : ∃ v, w.cell? ⟨D, i, none⟩ = some v ∧ w.frozen? ⟨D, i, none⟩ = false := by
  obtain ⟨f, hr, _⟩ := h
  exact ⟨_, hr.cell hi, hr.frozen i⟩

theorem owns_marks {w : World} {base g n cap : Nat} {l : List Int} (h : owns w base (.slice (some ⟨g, 0, none⟩) n cap) l) (k : Int) : n = l.length ∧ n ≤ cap ∧ base ≤ g ∧ Marks w g cap k 0 := by
  obtain ⟨_, h | ⟨g', cap', cur, hv, hb, hg, hn, hm, hs, hx⟩⟩ := h
  · simp at h
  · simp only [Value.slice.injEq, Option.some.injEq, Addr.mk.injEq] at hv
    obtain ⟨⟨rfl, _⟩, rfl, rfl⟩ := hv
    refine ⟨rfl, hn, hb, fun i => cur.getD i undef, ⟨cur, hg, by omega, fun i hi => ?_⟩, fun i hi => by omega⟩
    simp [show i < cur.size by omega]

/-- the marks k, k + 1, .. stand in the n bytes of v -/
def MarkedV (w : World) (v : Value) (n : Nat) (k : Int) : Prop := (v = .slice none 0 0 ∧ n = 0) ∨ ∃ g cap, v = .slice (some ⟨g, 0, none⟩) n cap ∧ n ≤ cap ∧ Marks w g cap k n

end Go.Proofs.YtioabdfddjmabaaGreat
namespace Go.Proofs.YtioabdfddjmabaaGreat
open Go.RowKit
set_option linter.unusedVariables false

theorem owns_app {w : World} {base : Nat} {v : Value} {l m : List Int} {n : Nat} (hn : n = l.length + m.length) (h : w.ownsRow base 5 1 v n (l.map (Value.int .u8) ++ m.map (Value.int .u8))) : owns w base v (l ++ m) := by
  subst hn
  simpa [owns] using h

theorem grown_below {w wr w1 : World} {B : Nat} {v : Value} {l : List Int} {o : Obj} (hB : Below B w wr) (hBs : B ≤ wr.heap.size) (hown : owns wr B v l) (hg : (wr.alloc o).grownBy w1 v.ownBlock) : Below B w w1 :=
  (hB.alloc hBs o).grown hg (by simp; omega) (fun k hk => (hown.lt k hk).1)

theorem grown_below0 {w wr w1 : World} {B : Nat} {v : Value} {l : List Int} (hB : Below B w wr) (hBs : B ≤ wr.heap.size) (hown : owns wr B v l) (hg : wr.grownBy w1 v.ownBlock) : Below B w w1 :=
  hB.grown hg hBs (fun k hk => (hown.lt k hk).1)

theorem owns_below {w w1 : World} {base : Nat} {v : Value} {l : List Int} (h : owns w base v l) (hb : Below w.heap.size w w1) : owns w1 base v l :=
  World.ownsRow.kept (row := none) h ⟨hb.os, hb.tape, hb.output, hb.size, fun k hk _ => hb.block k hk⟩ (by cases v.ownBlock <;> simp)

/-- an own row that is not empty lies at an address -/
theorem owns_at {w : World} {base : Nat} {v : Value} {l : List Int} (h : owns w base v l) (h0 : 0 < l.length) :
    ∃ g cap, v = .slice (some ⟨g, 0, none⟩) l.length cap ∧ base ≤ g ∧ ∀ j u, (l.map (Value.int .u8))[j]? = some u → w.cell? ((⟨g, 0, none⟩ : Addr).add j) = some u := by
  have h' := h
  obtain ⟨_, h | ⟨g, cap, cur, rfl, hb, hg, hn, hm, hs, hx⟩⟩ := h
  · omega
  · exact ⟨g, cap, rfl, hb, h'.cells rfl⟩

theorem bytes_oneCell (l : List Int) : ∀ u ∈ l.map (Value.int .u8), u.oneCell' = true := ints_oneCell .u8 l
end Go.Proofs.YtioabdfddjmabaaGreat
namespace Go.Proofs.YtioabdfddjmabaaGreat
open Go.RowKit
set_option linter.unusedVariables false

/-- an own row of bytes, laid by make and written cell by cell -/
def UptoB (w : World) (D n : Nat) (l : List Int) (k : Nat) : Prop := ∃ f, w.rowIs D 5 n f ∧ ∀ j, j < k → f j = .int .u8 (l.getD j 0)

theorem UptoB.step {w : World} {D n k : Nat} {l : List Int} (h : UptoB w D n l k) : UptoB (w.setCell ⟨D, k, none⟩ (.int .u8 (l.getD k 0))) D n l (k + 1) := by
  obtain ⟨f, hr, hf⟩ := h
  refine ⟨_, hr.set _ _, fun j hj => ?_⟩
  by_cases e : j = k
  · rw [if_pos e, e]
  · rw [if_neg e]; exact hf j (by omega)

theorem UptoB.own {w : World} {D n k : Nat} {l : List Int} (h : UptoB w D n l k) (j : Nat) (hj : j < n) : ∃ v, w.cell? ⟨D, j, none⟩ = some v ∧ w.frozen? ⟨D, j, none⟩ = false := by
  obtain ⟨f, hr, _⟩ := h
  exact ⟨_, hr.cell hj, hr.frozen j⟩

theorem UptoB.owns {w : World} {D : Nat} {l : List Int} (h : UptoB w D l.length l l.length) (hm : l.length ≤ maxLen) : owns w D (.slice (some ⟨D, 0, none⟩) l.length l.length) l := by
  obtain ⟨f, ⟨c, hc, hs, hcf⟩, hf⟩ := h
  refine ⟨by simp, .inr ⟨D, l.length, c, rfl, Nat.le_refl _, hc, Nat.le_refl _, hm, by omega, ?_⟩⟩
  apply List.ext_getElem?
  intro i
  by_cases hi : i < l.length
  · rw [List.getElem?_take, if_pos (by omega), Array.getElem?_toList, hcf i hi, hf i hi, List.getElem?_map, List.getElem?_eq_getElem hi, List.getD_eq_getElem?_getD, List.getElem?_eq_getElem hi]; rfl
  · rw [List.getElem?_take, if_neg (by omega), List.getElem?_map, List.getElem?_eq_none (by omega)]; rfl

end Go.Proofs.YtioabdfddjmabaaGreat
namespace Go.Proofs.YtioabdfddjmabaaGreat
open Go.RowKit
set_option linter.unusedVariables false

/-- numbers that came in, or were made: nil or empty, or at an address -/
def UAt (w : World) (b o : Nat) (l : List Int) : Prop := ∀ i, i < l.length → w.cell? ⟨b, o + i, none⟩ = some (.int .u64 (l.getD i 0))

def USrc (w : World) (a : Option Addr) (l : List Int) : Prop := l = [] ∨ ∃ b o, a = some ⟨b, o, none⟩ ∧ b < w.heap.size ∧ UAt w b o l

theorem USrc.below {w w' : World} {a : Option Addr} {l : List Int} (h : USrc w a l) (hb : Below w.heap.size w w') : USrc w' a l := by
  rcases h with h | ⟨b, o, ha, hlt, hc⟩
  · exact .inl h
  · exact .inr ⟨b, o, ha, Nat.lt_of_lt_of_le hlt hb.size, fun i hi => (hb.cell (p := ⟨b, _, none⟩) hlt).trans (hc i hi)⟩

theorem info61 : (Tryz.prog.info? 39).map (fun i => (i.zero, i.size, i.bytes)) = some (some (.int .u64 0), 1, 8) := by kernel_rfl

/-- an own row of numbers -/
abbrev ownsU (w : World) (base : Nat) (v : Value) (l : List Int) : Prop := w.ownsRow base 39 1 v l.length (l.map (Value.int .u64))

theorem ownsU_src {w : World} {base : Nat} {v : Value} {l : List Int} (h : ownsU w base v l) : ∃ a cap, v = .slice a l.length cap ∧ USrc w a l := by
  obtain ⟨_, h | ⟨g, cap, cur, rfl, hb, hg, hn, hm, hs, hx⟩⟩ := h
  · obtain ⟨rfl, h0⟩ := h
    have : l = [] := List.eq_nil_of_length_eq_zero h0
    subst this
    exact ⟨none, 0, rfl, .inl rfl⟩
  · refine ⟨_, _, rfl, .inr ⟨g, 0, rfl, (Array.getElem?_eq_some_iff.1 hg).1, fun i hi => ?_⟩⟩
    have e : (cur.toList.take (l.length * 1))[i]? = some (Value.int .u64 (l.getD i 0)) := by
      rw [hx, List.getElem?_map, List.getElem?_eq_getElem hi, List.getD_eq_getElem?_getD, List.getElem?_eq_getElem hi]; rfl
    rw [List.getElem?_take, if_pos (by omega)] at e
    simp only [World.cell?, hg, Nat.zero_add]
    simpa using e

theorem ownsU_kept {w w' : World} {B : Nat} {v : Value} {l : List Int} {row : Option Nat} (h : ownsU w B v l) (hg : w.grownBy w' row) (hne : ∀ q, v.ownBlock = some q → some q ≠ row) : ownsU w' B v l := by
  refine World.ownsRow.kept h hg ?_
  cases hv : v.ownBlock with
  | none => exact .inl rfl
  | some q => exact .inr (hne q hv)

/-- the cells of the row D from number 0 to j hold the marks k, k + 1, .. -/
def MarksU (w : World) (D N : Nat) (k : Int) (j : Nat) : Prop := ∃ f, w.rowIs D 39 N f ∧ ∀ i, i < j → f i = .int .u64 (k + i)

theorem MarksU.step {w : World} {D N j : Nat} {k : Int} (h : MarksU w D N k j) : MarksU (w.setCell ⟨D, j, none⟩ (.int .u64 (k + j))) D N k (j + 1) := by
  obtain ⟨f, hr, hf⟩ := h
  refine ⟨_, hr.set _ _, fun i hi => ?_⟩
  by_cases e : i = j
  · rw [if_pos e, e]
  · rw [if_neg e]; exact hf i (by omega)

theorem MarksU.own {w : World} {D N j : Nat} {k : Int} (h : MarksU w D N k j) (i : Nat) (hi : i < N) : ∃ v, w.cell? ⟨D, i, none⟩ = some v ∧ w.frozen? ⟨D, i, none⟩ = false := by
  obtain ⟨f, hr, _⟩ := h
  exact ⟨_, hr.cell hi, hr.frozen i⟩

theorem ownsU_marks {w : World} {base g n cap : Nat} {l : List Int} (h : ownsU w base (.slice (some ⟨g, 0, none⟩) n cap) l) (k : Int) : n = l.length ∧ n ≤ cap ∧ base ≤ g ∧ MarksU w g cap k 0 := by
  obtain ⟨_, h | ⟨g', cap', cur, hv, hb, hg, hn, hm, hs, hx⟩⟩ := h
  · simp at h
  · simp only [Value.slice.injEq, Option.some.injEq, Addr.mk.injEq] at hv
    obtain ⟨⟨rfl, _⟩, rfl, rfl⟩ := hv
    refine ⟨rfl, hn, hb, fun i => cur.getD i undef, ⟨cur, hg, by omega, fun i hi => ?_⟩, fun i hi => by omega⟩
    simp [show i < cur.size by omega]

/-- the marks k, k + 1, .. stand in the n bytes of v -/
def MarkedU (w : World) (v : Value) (n : Nat) (k : Int) : Prop := (v = .slice none 0 0 ∧ n = 0) ∨ ∃ g cap, v = .slice (some ⟨g, 0, none⟩) n cap ∧ n ≤ cap ∧ MarksU w g cap k n

/-- an own row of numbers, laid by make and written cell by cell -/
def UptoU (w : World) (D n : Nat) (l : List Int) (k : Nat) : Prop := ∃ f, w.rowIs D 39 n f ∧ ∀ j, j < k → f j = .int .u64 (l.getD j 0)

theorem UptoU.step {w : World} {D n k : Nat} {l : List Int} (h : UptoU w D n l k) : UptoU (w.setCell ⟨D, k, none⟩ (.int .u64 (l.getD k 0))) D n l (k + 1) := by
  obtain ⟨f, hr, hf⟩ := h
  refine ⟨_, hr.set _ _, fun j hj => ?_⟩
  by_cases e : j = k
  · rw [if_pos e, e]
  · rw [if_neg e]; exact hf j (by omega)

theorem UptoU.own {w : World} {D n k : Nat} {l : List Int} (h : UptoU w D n l k) (j : Nat) (hj : j < n) : ∃ v, w.cell? ⟨D, j, none⟩ = some v ∧ w.frozen? ⟨D, j, none⟩ = false := by
  obtain ⟨f, hr, _⟩ := h
  exact ⟨_, hr.cell hj, hr.frozen j⟩

theorem UptoU.ownsU {w : World} {D : Nat} {l : List Int} (h : UptoU w D l.length l l.length) (hm : l.length ≤ maxLen) : ownsU w D (.slice (some ⟨D, 0, none⟩) l.length l.length) l := by
  obtain ⟨f, ⟨c, hc, hs, hcf⟩, hf⟩ := h
  refine ⟨by simp, .inr ⟨D, l.length, c, rfl, Nat.le_refl _, hc, Nat.le_refl _, hm, by omega, ?_⟩⟩
  apply List.ext_getElem?
  intro i
  by_cases hi : i < l.length
  · rw [List.getElem?_take, if_pos (by omega), Array.getElem?_toList, hcf i hi, hf i hi, List.getElem?_map, List.getElem?_eq_getElem hi, List.getD_eq_getElem?_getD, List.getElem?_eq_getElem hi]; rfl
  · rw [List.getElem?_take, if_neg (by omega), List.getElem?_map, List.getElem?_eq_none (by omega)]; rfl

theorem ownsU_below {w w1 : World} {base : Nat} {v : Value} {l : List Int} (h : ownsU w base v l) (hb : Below w.heap.size w w1) : ownsU w1 base v l :=
  World.ownsRow.kept (row := none) h ⟨hb.os, hb.tape, hb.output, hb.size, fun k hk _ => hb.block k hk⟩ (by cases v.ownBlock <;> simp)

/-- an own row that is not empty lies at an address -/
theorem ownsU_at {w : World} {base : Nat} {v : Value} {l : List Int} (h : ownsU w base v l) (h0 : 0 < l.length) :
    ∃ g cap, v = .slice (some ⟨g, 0, none⟩) l.length cap ∧ base ≤ g ∧ ∀ j u, (l.map (Value.int .u64))[j]? = some u → w.cell? ((⟨g, 0, none⟩ : Addr).add j) = some u := by
  have h' := h
  obtain ⟨_, h | ⟨g, cap, cur, rfl, hb, hg, hn, hm, hs, hx⟩⟩ := h
  · omega
  · exact ⟨g, cap, rfl, hb, h'.cells rfl⟩

theorem longs_oneCell (l : List Int) : ∀ u ∈ l.map (Value.int .u64), u.oneCell' = true := ints_oneCell .u64 l
end Go.Proofs.YtioabdfddjmabaaGreat
namespace Go.Proofs.YtioabdfddjmabaaGreat
open Go.RowKit
set_option linter.unusedVariables false

abbrev natV (vs : List Nat) : List Int := vs.map fun n : Nat => (n : Int)
theorem natV_get (vs : List Nat) (i : Nat) : (natV vs).getD i 0 = ((vs.getD i 0 : Nat) : Int) := by
  rw [List.getD_eq_getElem?_getD, List.getElem?_map, List.getD_eq_getElem?_getD]
  cases vs[i]? <;> simp
theorem USrc.natAt {w : World} {a : Option Addr} {vs : List Nat} (h : USrc w a (natV vs)) (h0 : 0 < vs.length) : ∃ b o, a = some ⟨b, o, none⟩ ∧ b < w.heap.size ∧ ∀ j, j < vs.length → w.cell? ⟨b, o + j, none⟩ = some (.int .u64 ((vs.getD j 0 : Nat) : Int)) := by
  rcases h with h | ⟨b, o, h1, h2, h3⟩
  · have : vs = [] := by simpa using h
    subst this; simp at h0
  · refine ⟨b, o, h1, h2, fun j hj => ?_⟩
    rw [h3 j (by simpa using hj), natV_get]

theorem i64_and (a b : Nat) (ha : a < 9223372036854775808) (hb : b < 9223372036854775808) : bits .and .i64 (a : Int) (b : Int) = ((a &&& b : Nat) : Int) := by
  have hx : a &&& b < 2 ^ 63 := Nat.and_lt_two_pow _ (by omega)
  have h1 : (BitVec.ofInt 64 (a : Int)).toNat = a := by
    rw [BitVec.ofInt_natCast, BitVec.toNat_ofNat]; exact Nat.mod_eq_of_lt (by omega)
  have h2 : (BitVec.ofInt 64 (b : Int)).toNat = b := by
    rw [BitVec.ofInt_natCast, BitVec.toNat_ofNat]; exact Nat.mod_eq_of_lt (by omega)
  show IntKind.i64.wrap ((BitVec.ofInt 64 (a : Int) &&& BitVec.ofInt 64 (b : Int)).toNat : Int) = _
  rw [BitVec.toNat_and, h1, h2, IntKind.wrap_i64]
  omega

theorem and_le_right' (a b : Nat) : a &&& b ≤ b := Nat.and_le_right

set_option maxRecDepth 100000 in
set_option maxHeartbeats 1000000 in
theorem onesCount_any (x : Nat) (w : World) (hx : x < 18446744073709551616) :
    Calls Tryz.prog 134 #[.int .u64 (x : Int)] w fun e w' => e = .returned (.int .i64 ((popN x 64 : Nat) : Int)) ∧ w' = w := by
  obtain ⟨p1, hp1⟩ : ∃ p1 : Nat, p1 = x / 2 &&& 6148914691236517205 := ⟨_, rfl⟩
  obtain ⟨p2, hp2⟩ : ∃ p2 : Nat, p2 = x &&& 6148914691236517205 := ⟨_, rfl⟩
  have l1 : p1 ≤ 6148914691236517205 := hp1 ▸ Nat.and_le_right
  have l2 : p2 ≤ 6148914691236517205 := hp2 ▸ Nat.and_le_right
  have a1 : bits .and .u64 ((x : Int) / 2) 6148914691236517205 = (p1 : Int) := by
    rw [hp1, show (x : Int) / 2 = ((x / 2 : Nat) : Int) by omega]; exact u64_and _ 6148914691236517205 (by omega) (by decide)
  have a2 : bits .and .u64 (x : Int) 6148914691236517205 = (p2 : Int) := by
    rw [hp2]; exact u64_and _ 6148914691236517205 (by omega) (by decide)
  obtain ⟨q1, hq1⟩ : ∃ q1 : Nat, q1 = (p1 + p2) / 4 &&& 3689348814741910323 := ⟨_, rfl⟩
  obtain ⟨q2, hq2⟩ : ∃ q2 : Nat, q2 = (p1 + p2) &&& 3689348814741910323 := ⟨_, rfl⟩
  have l3 : q1 ≤ 3689348814741910323 := hq1 ▸ Nat.and_le_right
  have l4 : q2 ≤ 3689348814741910323 := hq2 ▸ Nat.and_le_right
  have a3 : bits .and .u64 (((p1 : Int) + p2) / 4) 3689348814741910323 = (q1 : Int) := by
    rw [hq1, show ((p1 : Int) + p2) / 4 = (((p1 + p2) / 4 : Nat) : Int) by omega]; exact u64_and _ 3689348814741910323 (by omega) (by decide)
  have a4 : bits .and .u64 ((p1 : Int) + p2) 3689348814741910323 = (q2 : Int) := by
    rw [hq2, show ((p1 : Int) + p2) = ((p1 + p2 : Nat) : Int) by omega]; exact u64_and _ 3689348814741910323 (by omega) (by decide)
  obtain ⟨y, hy⟩ : ∃ y : Nat, y = ((q1 + q2) / 16 + (q1 + q2)) &&& 1085102592571150095 := ⟨_, rfl⟩
  have a5 : bits .and .u64 (((q1 : Int) + q2) / 16 + ((q1 : Int) + q2)) 1085102592571150095 = (y : Int) := by
    rw [hy, show ((q1 : Int) + q2) / 16 + ((q1 : Int) + q2) = (((q1 + q2) / 16 + (q1 + q2) : Nat) : Int) by omega]; exact u64_and _ 1085102592571150095 (by omega) (by decide)
  have HD : y = dig 8 x := by
    have := (swar 8 x (by simpa using hx)).1
    rw [← this, hy, hq1, hq2, hp1, hp2]
    rfl
  obtain ⟨z1, z2, z3, z4⟩ := swar_sum hx HD
  have HZ : Hid ((((y + y / 256) + (y + y / 256) / 65536) + ((y + y / 256) + (y + y / 256) / 65536) / 4294967296) % 128 = popN x 64) := z4
  clear hp1 hp2 hq1 hq2 hy HD z4
  have a6 : bits .and .i64 ((y : Int) + (y : Int) / 256 + ((y : Int) + (y : Int) / 256) / 65536 + ((y : Int) + (y : Int) / 256 + ((y : Int) + (y : Int) / 256) / 65536) / 4294967296) 127 = ((popN x 64 : Nat) : Int) := by
    rw [← HZ.out, show ((y : Int) + (y : Int) / 256 + ((y : Int) + (y : Int) / 256) / 65536 + ((y : Int) + (y : Int) / 256 + ((y : Int) + (y : Int) / 256) / 65536) / 4294967296) = (((((y + y / 256) + (y + y / 256) / 65536) + ((y + y / 256) + (y + y / 256) / 65536) / 4294967296) : Nat) : Int) by omega]
    rw [show (127 : Int) = ((127 : Nat) : Int) from rfl, i64_and _ 127 z3 (by decide), nat_mask7]
  generalize popN x 64 = R at *
  clear HZ
  go_enter Tryz.func134, Tryz.ntmps134
  go_wp2
  go_ret
  exact ⟨rfl, rfl⟩
end Go.Proofs.YtioabdfddjmabaaGreat
