/-
  MrkB, MrkC, CondO, PolU, PolV, PolX
-/
import Derived.Test.YtljhccolmcoifaaGreatQ37
import Derived.Test.YtljhccolmcoifaaGreatQ14
namespace Go.Proofs.YtljhccolmcoifaaGreat
open Go.RowKit
set_option linter.unusedVariables false

theorem Wrote.three {w wr : World} {A : List AdK} {b o : Nat} {k q : Int} {n0 n1 n2 : Int} (h : Wrote w wr A k) (hq : q = k + A.length) (c0 : wr.cell? ⟨b, o, none⟩ = some (.int .i64 n0)) (c1 : wr.cell? ⟨b, o + 1, none⟩ = some (.int .u64 n1)) (c2 : wr.cell? ⟨b, o + 2, none⟩ = some (.int .u64 n2)) :
    Wrote w (((wr.setCell ⟨b, o, none⟩ (.int .i64 q)).setCell ⟨b, o + 1, none⟩ (.int .u64 (q + 1))).setCell ⟨b, o + 2, none⟩ (.int .u64 (q + 1 + 1))) (A ++ a3 b o) k := by
  have h1 := Wrote.one (k := q) c0
  have h2 := Wrote.one (k := q + 1) (cell_near (D := b) (i := o) (v := .int .i64 q) (by omega) c1)
  have h3 := Wrote.one (k := q + 1 + 1) (cell_near (D := b) (i := o + 1) (v := .int .u64 (q + 1)) (by omega) (cell_near (D := b) (i := o) (v := .int .i64 q) (by omega) c2))
  have h4 := (h1.trans h2 (by simp)).trans h3 (by simp; omega)
  exact h.trans h4 hq
theorem Wrote.two {w wr : World} {A : List AdK} {b o : Nat} {k q : Int} {n0 n1 : Int} (h : Wrote w wr A k) (hq : q = k + A.length) (c0 : wr.cell? ⟨b, o, none⟩ = some (.int .u32 n0)) (c1 : wr.cell? ⟨b, o + 1, none⟩ = some (.int .u32 n1)) :
    Wrote w ((wr.setCell ⟨b, o, none⟩ (.int .u32 q)).setCell ⟨b, o + 1, none⟩ (.int .u32 (q + 1))) (A ++ a2 b o) k := by
  have h1 := Wrote.one (k := q) c0
  have h2 := Wrote.one (k := q + 1) (cell_near (D := b) (i := o) (v := .int .u32 q) (by omega) c1)
  exact h.trans (h1.trans h2 (by simp)) hq
theorem ret_i {x y : Int} (h : x = y) : Ending.returned (.int .i64 x) = .returned (.int .i64 y) := by rw [h]
theorem a3_mem {b o n j : Nat} (h : j < n) : ∀ x ∈ a3 b (o + j * 3), x ∈ conA b o n := fun x hx => List.mem_flatMap.2 ⟨j, List.mem_range.2 h, hx⟩
theorem mem_flat {α : Type} {F : Nat → List α} {n i : Nat} (h : i < n) {x : α} (hx : x ∈ F i) : x ∈ (List.range n).flatMap F := List.mem_flatMap.2 ⟨i, List.mem_range.2 h, hx⟩
theorem flat_len_le {α : Type} {F : Nat → List α} {n m : Nat} (h : m ≤ n) : ((List.range m).flatMap F).length ≤ ((List.range n).flatMap F).length := by
  obtain ⟨d, rfl⟩ := Nat.le.dest h
  induction d with
  | zero => exact Nat.le_refl _
  | succ d ih =>
    rw [show m + (d + 1) = (m + d) + 1 by omega, flat_succ, List.length_append]
    have := ih (by omega)
    omega

set_option maxRecDepth 100000 in
set_option maxHeartbeats 2000000 in
theorem markConS_any (a : Option Addr) (n cap : Nat) (A : List AdK) (k : Int) (w : World) (hS : SK w a n A) (hn : A.length ≤ 8388608) (h0 : 0 ≤ k) (h1 : k ≤ 8388608) :
    Calls Tryz.prog 90 #[.slice a n cap, .int .i64 k] w fun e w' => e = .returned (.int .i64 (k + A.length)) ∧ Wrote w w' A k := by
  rcases hS with ⟨rfl, rfl⟩ | ⟨b, o, rfl, rfl, hI⟩
  · have W0 := Wrote.refl w k
    go_enter Tryz.func90, Tryz.ntmps90
    go_wp2_with fail
    go_loopw [1, 5] (fun q i wr => i = .int .i64 0 ∧ q = .int .i64 k ∧ wr = w) (fun _ i _ => 0)
    case atStart => exact ⟨rfl, rfl, rfl⟩
    case round =>
      obtain ⟨rfl, rfl, rfl⟩ := hrel
      go_wp2
      go_ret
      exact ⟨by simp, W0⟩
  · rw [conA_len] at hn ⊢
    go_enter Tryz.func90, Tryz.ntmps90
    go_wp2_with fail
    go_loopw [1, 5] (fun q i wr => ∃ j : Nat, j ≤ n ∧ i = .int .i64 j ∧ q = .int .i64 (k + 3 * j) ∧ Wrote w wr (conA b o j) k) (fun _ i _ => n - (intOf i).toNat)
    case atStart => exact ⟨0, by omega, rfl, by go_num, Wrote.refl w k⟩
    case round =>
      obtain ⟨j, hj, rfl, rfl, hW⟩ := hrel
      by_cases hlt : j < n
      · have hI' := hI.sim hW.sim
        obtain ⟨⟨n0, c0⟩, f0⟩ := hI' (⟨b, o + j * 3, none⟩, .i64) (a3_mem hlt _ (by simp [a3]))
        obtain ⟨⟨n1, c1⟩, f1⟩ := hI' (⟨b, o + j * 3 + 1, none⟩, .u64) (a3_mem hlt _ (by simp [a3]))
        obtain ⟨⟨n2, c2⟩, f2⟩ := hI' (⟨b, o + j * 3 + 2, none⟩, .u64) (a3_mem hlt _ (by simp [a3]))
        simp only at c0 f0 c1 f1 c2 f2
        have W2 := hW.three (q := k + 3 * j) (by rw [conA_len]; push_cast; omega) c0 c1 c2
        rw [← conA_succ] at W2
        have HW2 : Hid _ := W2
        clear W2
        have hlt' : (j : Int) < (n : Int) := by omega
        clear hI' hI hW
        go_wp2
        go_roundw
        case rel => exact ⟨j + 1, by omega, by go_num, by go_num, HW2.out⟩
        case measure => simp [intOf]; omega
      · have hjn : j = n := by omega
        subst hjn
        go_wp2
        go_ret
        exact ⟨ret_i (by push_cast; omega), hW⟩

set_option maxRecDepth 100000 in
set_option maxHeartbeats 2000000 in
theorem markRuleS_any (a : Option Addr) (n cap : Nat) (A : List AdK) (k : Int) (w : World) (hS : SR w a n A) (h0 : 0 ≤ k) (h1 : k + A.length ≤ 8388608) :
    Calls Tryz.prog 68 #[.slice a n cap, .int .i64 k] w fun e w' => e = .returned (.int .i64 (k + A.length)) ∧ Wrote w w' A k := by
  obtain ⟨hm, hS⟩ := hS
  rcases hS with ⟨rfl, rfl⟩ | ⟨b, o, rfl, F, rfl, hI⟩
  · have W0 := Wrote.refl w k
    go_enter Tryz.func68, Tryz.ntmps68
    go_wp2_with fail
    go_loopw [1, 5] (fun q i wr => i = .int .i64 0 ∧ q = .int .i64 k ∧ wr = w) (fun _ i _ => 0)
    case atStart => exact ⟨rfl, rfl, rfl⟩
    case round =>
      obtain ⟨rfl, rfl, rfl⟩ := hrel
      go_wp2
      go_ret
      exact ⟨by simp, W0⟩
  · have HL : Hid (∀ j, j ≤ n → ((List.range j).flatMap F).length ≤ ((List.range n).flatMap F).length) := fun j hj => flat_len_le hj
    have HI : Hid (∀ wr, Sim w wr → ∀ i, i < n → ∃ a' n' c', wr.cell? ⟨b, o + i, none⟩ = some (.slice a' n' c') ∧ SK wr a' n' (F i)) := fun wr s i hi => by
      obtain ⟨a', n', c', h4, h5⟩ := hI i hi
      exact ⟨a', n', c', s.rows _ _ _ _ h4, h5.sim s⟩
    clear hI
    go_enter Tryz.func68, Tryz.ntmps68
    go_wp2_with fail
    go_loopw [1, 5] (fun q i wr => ∃ j : Nat, j ≤ n ∧ i = .int .i64 j ∧ q = .int .i64 (k + ((List.range j).flatMap F).length) ∧ Wrote w wr ((List.range j).flatMap F) k) (fun _ i _ => n - (intOf i).toNat)
    case atStart => exact ⟨0, by omega, rfl, by simp, Wrote.refl w k⟩
    case round =>
      obtain ⟨j, hj, rfl, rfl, hW⟩ := hrel
      by_cases hlt : j < n
      · obtain ⟨a', n', c', c0, hk⟩ := HI.out wr hW.sim j hlt
        have l1 := HL.out (j + 1) (by omega)
        have es := flat_succ F j
        have HC : Hid (Calls Tryz.prog 90 #[.slice a' n' c', .int .i64 (k + ((List.range j).flatMap F).length)] wr fun e w' => e = .returned (.int .i64 (k + ((List.range (j + 1)).flatMap F).length)) ∧ Wrote w w' ((List.range (j + 1)).flatMap F) k) := by
          refine (markConS_any a' n' c' (F j) _ wr hk (by rw [es, List.length_append] at l1; omega) (by omega) (by rw [es, List.length_append] at l1; omega)).mono ?_
          rintro _ w' ⟨rfl, h2⟩
          rw [es]
          exact ⟨ret_i (by rw [List.length_append]; push_cast; omega), hW.trans h2 rfl⟩
        have hlt' : (j : Int) < (n : Int) := by omega
        clear hk es HL HI l1
        generalize (k + ((List.range j).flatMap F).length) = q at *
        generalize hAA : (List.range (j + 1)).flatMap F = A' at *
        generalize hqq : (k + (A'.length : Int)) = q' at *
        go_wp2_with fail
        refine (HC.out).mono ?_
        rintro _ w1 ⟨rfl, hW1⟩
        go_wp2
        go_roundw
        case rel => exact ⟨j + 1, by omega, by go_num, by rw [hAA, hqq], by rw [hAA]; exact hW1⟩
        case measure => simp [intOf]; omega
      · have hjn : j = n := by omega
        subst hjn
        go_wp2
        go_ret
        exact ⟨rfl, hW⟩
end Go.Proofs.YtljhccolmcoifaaGreat
namespace Go.Proofs.YtljhccolmcoifaaGreat
open Go.RowKit
set_option linter.unusedVariables false

def entA (b o : Nat) (F : Nat → List AdK) (j : Nat) : List AdK := (List.range j).flatMap fun i => a2 b (o + i * 3) ++ F i
theorem entA_succ (b o : Nat) (F : Nat → List AdK) (j : Nat) : entA b o F (j + 1) = entA b o F j ++ a2 b (o + j * 3) ++ F j := by
  rw [entA, flat_succ, ← List.append_assoc]; rfl
theorem entA_le (b o : Nat) (F : Nat → List AdK) {j n : Nat} (h : j ≤ n) : (entA b o F j).length ≤ (entA b o F n).length := flat_len_le h

set_option maxRecDepth 100000 in
set_option maxHeartbeats 4000000 in
theorem markEntryS_any (a : Option Addr) (n cap : Nat) (A : List AdK) (k : Int) (w : World) (hS : SE w a n A) (h0 : 0 ≤ k) (h1 : k + A.length ≤ 8388608) :
    Calls Tryz.prog 35 #[.slice a n cap, .int .i64 k] w fun e w' => e = .returned (.int .i64 (k + A.length)) ∧ Wrote w w' A k := by
  obtain ⟨hm, hS⟩ := hS
  rcases hS with ⟨rfl, rfl⟩ | ⟨b, o, rfl, F, hA, hI⟩
  · have W0 := Wrote.refl w k
    go_enter Tryz.func35, Tryz.ntmps35
    go_wp2_with fail
    go_loopw [1, 5] (fun q i wr => i = .int .i64 0 ∧ q = .int .i64 k ∧ wr = w) (fun _ i _ => 0)
    case atStart => exact ⟨rfl, rfl, rfl⟩
    case round =>
      obtain ⟨rfl, rfl, rfl⟩ := hrel
      go_wp2
      go_ret
      exact ⟨by simp, W0⟩
  · have hA' : A = entA b o F n := hA
    subst hA'
    clear hA
    have HL : Hid (∀ j, j ≤ n → (entA b o F j).length ≤ (entA b o F n).length) := fun j hj => entA_le b o F hj
    have HI : Hid (∀ wr, Sim w wr → ∀ i, i < n → IntsAt wr (a2 b (o + i * 3)) ∧ ∃ a' n' c', wr.cell? ⟨b, o + i * 3 + 2, none⟩ = some (.slice a' n' c') ∧ SR wr a' n' (F i)) := fun wr s i hi => by
      obtain ⟨h6, a', n', c', h4, h5⟩ := hI i hi
      exact ⟨h6.sim s, a', n', c', s.rows _ _ _ _ h4, h5.sim s⟩
    clear hI
    go_enter Tryz.func35, Tryz.ntmps35
    go_wp2_with fail
    go_loopw [1, 5] (fun q i wr => ∃ j : Nat, j ≤ n ∧ i = .int .i64 j ∧ q = .int .i64 (k + (entA b o F j).length) ∧ Wrote w wr (entA b o F j) k) (fun _ i _ => n - (intOf i).toNat)
    case atStart => exact ⟨0, by omega, rfl, by simp [entA], Wrote.refl w k⟩
    case round =>
      obtain ⟨j, hj, rfl, rfl, hW⟩ := hrel
      by_cases hlt : j < n
      · obtain ⟨hI, a', n', c', c2, hk⟩ := HI.out wr hW.sim j hlt
        obtain ⟨⟨n0, c0⟩, f0⟩ := hI (⟨b, o + j * 3, none⟩, .u32) (by simp [a2])
        obtain ⟨⟨n1, c1⟩, f1⟩ := hI (⟨b, o + j * 3 + 1, none⟩, .u32) (by simp [a2])
        simp only at c0 f0 c1 f1
        have l1 := HL.out (j + 1) (by omega)
        have es := entA_succ b o F j
        have l2 : (entA b o F (j + 1)).length = (entA b o F j).length + 2 + (F j).length := by rw [es]; simp [a2]; omega
        have hq : 0 ≤ k + ((entA b o F j).length : Int) := by omega
        have hq2 : k + ((entA b o F j).length : Int) + 2 ≤ 8388608 := by omega
        have W2 := hW.two (q := k + (entA b o F j).length) rfl c0 c1
        have s2 : Sim wr ((wr.setCell ⟨b, o + j * 3, none⟩ (.int .u32 (k + (entA b o F j).length))).setCell ⟨b, o + j * 3 + 1, none⟩ (.int .u32 (k + (entA b o F j).length + 1))) := (Sim.set c0).trans (Sim.set (cell_near (by omega) c1))
        have c2' := s2.rows _ _ _ _ c2
        have HC : Hid (Calls Tryz.prog 68 #[.slice a' n' c', .int .i64 (k + (entA b o F j).length + 1 + 1)] ((wr.setCell ⟨b, o + j * 3, none⟩ (.int .u32 (k + (entA b o F j).length))).setCell ⟨b, o + j * 3 + 1, none⟩ (.int .u32 (k + (entA b o F j).length + 1))) fun e w' => e = .returned (.int .i64 (k + (entA b o F (j + 1)).length)) ∧ Wrote w w' (entA b o F (j + 1)) k) := by
          refine (markRuleS_any a' n' c' (F j) _ _ (hk.sim s2) (by omega) (by omega)).mono ?_
          rintro _ w' ⟨rfl, h2⟩
          rw [l2]
          refine ⟨ret_i (by push_cast; omega), ?_⟩
          rw [es]
          exact W2.trans h2 (by rw [List.length_append]; simp [a2]; omega)
        have hlt' : (j : Int) < (n : Int) := by omega
        clear hk es HL HI l1 l2 W2 s2 hI hW c2
        generalize (k + ((entA b o F j).length : Int)) = q at *
        generalize hAA : entA b o F (j + 1) = A' at *
        generalize hqq : (k + (A'.length : Int)) = q' at *
        go_wp2_with fail
        refine (HC.out).mono ?_
        rintro _ w1 ⟨rfl, hW1⟩
        go_wp2
        go_roundw
        case rel => exact ⟨j + 1, by omega, by go_num, by rw [hAA, hqq], by rw [hAA]; exact hW1⟩
        case measure => simp [intOf]; omega
      · have hjn : j = n := by omega
        subst hjn
        go_wp2
        go_ret
        exact ⟨rfl, hW⟩

set_option maxRecDepth 100000 in
set_option maxHeartbeats 2000000 in
theorem markPolicy_any (a : Option Addr) (n cap : Nat) (A : List AdK) (k : Int) (w : World) (h0 : 0 ≤ k) (h1 : k + A.length ≤ 8388608) (hS' : SE (w.alloc (.cells #[.slice a n cap] 28)) a n A) :
    Calls Tryz.prog 12 #[.agg #[.slice a n cap], .int .i64 k] w fun e w' => e = .returned (.int .i64 (k + A.length)) ∧ Wrote (w.alloc (.cells #[.slice a n cap] 28)) w' A k := by
  have HC : Hid (Calls Tryz.prog 35 #[.slice a n cap, .int .i64 k] (w.alloc (.cells #[.slice a n cap] 28)) fun e w' => e = .returned (.int .i64 (k + A.length)) ∧ Wrote (w.alloc (.cells #[.slice a n cap] 28)) w' A k) := markEntryS_any a n cap A k _ hS' h0 h1
  have x0 := box1 w 28 (.slice a n cap)
  clear hS'
  generalize (k + (A.length : Int)) = q at *
  go_enter Tryz.func12, Tryz.ntmps12
  go_wp2_with fail
  refine (HC.out).mono ?_
  rintro _ w1 ⟨rfl, hW1⟩
  go_wp2
  go_ret
  exact ⟨rfl, hW1⟩

theorem conA_get {b o n j : Nat} (h : j < n) (f : Nat) (hf : f < 3) (h' : j * 3 + f < (conA b o n).length) : (conA b o n)[j * 3 + f] = (a3 b (o + j * 3))[f] := by
  have key : ∀ n, j < n → (conA b o n)[j * 3 + f]? = (a3 b (o + j * 3))[f]? := by
    intro n
    induction n with
    | zero => intro h; omega
    | succ n ih =>
      intro h
      rw [conA_succ]
      by_cases e : j = n
      · subst e
        rw [List.getElem?_append_right (by rw [conA_len]; omega), conA_len]
        congr 1; omega
      · rw [List.getElem?_append_left (by rw [conA_len]; omega)]
        exact ih (by omega)
  have := key n h
  rw [List.getElem?_eq_getElem h', List.getElem?_eq_getElem (by simp [a3]; omega)] at this
  exact Option.some.inj this

set_option maxRecDepth 100000 in
set_option maxHeartbeats 2000000 in
theorem heldConS_any (a : Option Addr) (n cap : Nat) (A : List AdK) (k : Int) (w : World) (hS : SK w a n A) (hH : HeldA w A k) (h0 : 0 ≤ k) (h1 : k + A.length ≤ 8388608) :
    Calls Tryz.prog 91 #[.slice a n cap, .int .i64 k] w fun e w' => e = .returned (.int .i64 (k + A.length)) ∧ w' = w := by
  rcases hS with ⟨rfl, rfl⟩ | ⟨b, o, rfl, rfl, hI⟩
  · go_enter Tryz.func91, Tryz.ntmps91
    go_wp2_with fail
    go_loop [1, 5] (fun q i => i = .int .i64 0 ∧ q = .int .i64 k) (fun _ i => 0)
    case atStart => exact ⟨rfl, rfl⟩
    case round =>
      obtain ⟨rfl, rfl⟩ := hrel
      go_wp2
      go_ret
      exact ⟨by simp, rfl⟩
  · have hc : ∀ j f, j < n → (hf : f < 3) → w.cell? (a3 b (o + j * 3))[f].1 = some (.int (a3 b (o + j * 3))[f].2 (k + (j * 3 + f : Nat))) := fun j f hj hf => by
      have hl : j * 3 + f < (conA b o n).length := by rw [conA_len]; omega
      have := hH (j * 3 + f) hl
      rw [conA_get hj f hf hl] at this
      exact this
    rw [conA_len] at h1 ⊢
    clear hI hH
    have Hc : Hid _ := hc
    clear hc
    go_enter Tryz.func91, Tryz.ntmps91
    go_wp2_with fail
    go_loop [1, 5] (fun q i => ∃ j : Nat, j ≤ n ∧ i = .int .i64 j ∧ q = .int .i64 (k + 3 * j)) (fun _ i => n - (intOf i).toNat)
    case atStart => exact ⟨0, by omega, rfl, by go_num⟩
    case round =>
      obtain ⟨j, hj, rfl, rfl⟩ := hrel
      by_cases hlt : j < n
      · have c0 : w.cell? ⟨b, o + j * 3, none⟩ = some (.int .i64 (k + 3 * j)) := (Hc.out j 0 hlt (by decide)).trans (congrArg some (by congr 1; push_cast; omega))
        have c1 : w.cell? ⟨b, o + j * 3 + 1, none⟩ = some (.int .u64 (k + 3 * j + 1)) := (Hc.out j 1 hlt (by decide)).trans (congrArg some (by congr 1; push_cast; omega))
        have c2 : w.cell? ⟨b, o + j * 3 + 2, none⟩ = some (.int .u64 (k + 3 * j + 1 + 1)) := (Hc.out j 2 hlt (by decide)).trans (congrArg some (by congr 1; push_cast; omega))
        have hlt' : (j : Int) < (n : Int) := by omega
        clear Hc
        go_wp2
        go_round
        case rel => exact ⟨j + 1, by omega, by go_num, by go_num⟩
        case measure => simp [intOf]; omega
      · have hjn : j = n := by omega
        subst hjn
        go_wp2
        go_ret
        exact ⟨ret_i (by push_cast; omega), rfl⟩

set_option maxRecDepth 100000 in
set_option maxHeartbeats 2000000 in
theorem heldRuleS_any (a : Option Addr) (n cap : Nat) (A : List AdK) (k : Int) (w : World) (hS : SR w a n A) (hH : HeldA w A k) (h0 : 0 ≤ k) (h1 : k + A.length ≤ 8388608) :
    Calls Tryz.prog 69 #[.slice a n cap, .int .i64 k] w fun e w' => e = .returned (.int .i64 (k + A.length)) ∧ w' = w := by
  obtain ⟨hm, hS⟩ := hS
  rcases hS with ⟨rfl, rfl⟩ | ⟨b, o, rfl, F, rfl, hI⟩
  · go_enter Tryz.func69, Tryz.ntmps69
    go_wp2_with fail
    go_loop [1, 5] (fun q i => i = .int .i64 0 ∧ q = .int .i64 k) (fun _ i => 0)
    case atStart => exact ⟨rfl, rfl⟩
    case round =>
      obtain ⟨rfl, rfl⟩ := hrel
      go_wp2
      go_ret
      exact ⟨by simp, rfl⟩
  · have HL : Hid (∀ j, j ≤ n → ((List.range j).flatMap F).length ≤ ((List.range n).flatMap F).length) := fun j hj => flat_len_le hj
    have HH : Hid (∀ j, j ≤ n → HeldA w ((List.range j).flatMap F) k) := fun j hj => by
      obtain ⟨d, hd⟩ := Nat.le.dest hj
      rw [← hd, List.range_add, List.flatMap_append] at hH
      exact hH.left
    have HI : Hid (∀ i, i < n → ∃ a' n' c', w.cell? ⟨b, o + i, none⟩ = some (.slice a' n' c') ∧ SK w a' n' (F i)) := hI
    clear hI hH
    go_enter Tryz.func69, Tryz.ntmps69
    go_wp2_with fail
    go_loop [1, 5] (fun q i => ∃ j : Nat, j ≤ n ∧ i = .int .i64 j ∧ q = .int .i64 (k + ((List.range j).flatMap F).length)) (fun _ i => n - (intOf i).toNat)
    case atStart => exact ⟨0, by omega, rfl, by simp⟩
    case round =>
      obtain ⟨j, hj, rfl, rfl⟩ := hrel
      by_cases hlt : j < n
      · obtain ⟨a', n', c', c0, hk⟩ := HI.out j hlt
        have l1 := HL.out (j + 1) (by omega)
        have es := flat_succ F j
        have hh := HH.out (j + 1) (by omega)
        have HC : Hid (Calls Tryz.prog 91 #[.slice a' n' c', .int .i64 (k + ((List.range j).flatMap F).length)] w fun e w' => e = .returned (.int .i64 (k + ((List.range (j + 1)).flatMap F).length)) ∧ w' = w) := by
          rw [es] at hh
          refine (heldConS_any a' n' c' (F j) _ w hk (hh.right rfl) (by omega) (by rw [es, List.length_append] at l1; omega)).mono ?_
          rintro _ w' ⟨rfl, h2⟩
          rw [es]
          exact ⟨ret_i (by rw [List.length_append]; push_cast; omega), h2⟩
        have hlt' : (j : Int) < (n : Int) := by omega
        have hq' : ¬ k + (((List.range (j + 1)).flatMap F).length : Int) < 0 := by omega
        clear hk es HL HI l1 hh HH
        generalize (k + (((List.range j).flatMap F).length : Int)) = q at *
        generalize hqq : (k + (((List.range (j + 1)).flatMap F).length : Int)) = q' at *
        go_wp2_with fail
        refine (HC.out).mono ?_
        rintro _ w1 ⟨rfl, rfl⟩
        go_wp2
        go_round
        case rel => exact ⟨j + 1, by omega, by go_num, by rw [hqq]⟩
        case measure => simp [intOf]; omega
      · have hjn : j = n := by omega
        subst hjn
        go_wp2
        go_ret
        exact ⟨rfl, rfl⟩

set_option maxRecDepth 100000 in
set_option maxHeartbeats 4000000 in
theorem heldEntryS_any (a : Option Addr) (n cap : Nat) (A : List AdK) (k : Int) (w : World) (hS : SE w a n A) (hH : HeldA w A k) (h0 : 0 ≤ k) (h1 : k + A.length ≤ 8388608) :
    Calls Tryz.prog 36 #[.slice a n cap, .int .i64 k] w fun e w' => e = .returned (.int .i64 (k + A.length)) ∧ w' = w := by
  obtain ⟨hm, hS⟩ := hS
  rcases hS with ⟨rfl, rfl⟩ | ⟨b, o, rfl, F, hA, hI⟩
  · go_enter Tryz.func36, Tryz.ntmps36
    go_wp2_with fail
    go_loop [1, 5] (fun q i => i = .int .i64 0 ∧ q = .int .i64 k) (fun _ i => 0)
    case atStart => exact ⟨rfl, rfl⟩
    case round =>
      obtain ⟨rfl, rfl⟩ := hrel
      go_wp2
      go_ret
      exact ⟨by simp, rfl⟩
  · have hA' : A = entA b o F n := hA
    subst hA'
    clear hA
    have HL : Hid (∀ j, j ≤ n → (entA b o F j).length ≤ (entA b o F n).length) := fun j hj => entA_le b o F hj
    have HH : Hid (∀ j, j ≤ n → HeldA w (entA b o F j) k) := fun j hj => by
      obtain ⟨d, hd⟩ := Nat.le.dest hj
      rw [entA, ← hd, List.range_add, List.flatMap_append] at hH
      exact hH.left
    have HI : Hid (∀ i, i < n → ∃ a' n' c', w.cell? ⟨b, o + i * 3 + 2, none⟩ = some (.slice a' n' c') ∧ SR w a' n' (F i)) := fun i hi => (hI i hi).2
    clear hI hH
    go_enter Tryz.func36, Tryz.ntmps36
    go_wp2_with fail
    go_loop [1, 5] (fun q i => ∃ j : Nat, j ≤ n ∧ i = .int .i64 j ∧ q = .int .i64 (k + (entA b o F j).length)) (fun _ i => n - (intOf i).toNat)
    case atStart => exact ⟨0, by omega, rfl, by simp [entA]⟩
    case round =>
      obtain ⟨j, hj, rfl, rfl⟩ := hrel
      by_cases hlt : j < n
      · obtain ⟨a', n', c', c2, hk⟩ := HI.out j hlt
        have l1 := HL.out (j + 1) (by omega)
        have es := entA_succ b o F j
        have hh := HH.out (j + 1) (by omega)
        have l2 : (entA b o F (j + 1)).length = (entA b o F j).length + 2 + (F j).length := by rw [es]; simp [a2]; omega
        rw [es] at hh
        have h2 := (hh.left).right (k' := k + (entA b o F j).length) rfl
        have c0 : w.cell? ⟨b, o + j * 3, none⟩ = some (.int .u32 (k + (entA b o F j).length)) := (h2 0 (by simp [a2])).trans (by simp [a2])
        have c1 : w.cell? ⟨b, o + j * 3 + 1, none⟩ = some (.int .u32 (k + (entA b o F j).length + 1)) := (h2 1 (by simp [a2])).trans (by simp [a2])
        have hq : 0 ≤ k + ((entA b o F j).length : Int) := by omega
        have hq2 : k + ((entA b o F j).length : Int) + 2 ≤ 8388608 := by omega
        have HC : Hid (Calls Tryz.prog 69 #[.slice a' n' c', .int .i64 (k + (entA b o F j).length + 1 + 1)] w fun e w' => e = .returned (.int .i64 (k + (entA b o F (j + 1)).length)) ∧ w' = w) := by
          refine (heldRuleS_any a' n' c' (F j) _ w hk (hh.right (by rw [List.length_append]; simp [a2]; omega)) (by omega) (by omega)).mono ?_
          rintro _ w' ⟨rfl, h3⟩
          rw [l2]
          exact ⟨ret_i (by push_cast; omega), h3⟩
        have hlt' : (j : Int) < (n : Int) := by omega
        have hq' : ¬ k + ((entA b o F (j + 1)).length : Int) < 0 := by omega
        clear hk es HL HI l1 hh HH h2 l2
        generalize (k + ((entA b o F j).length : Int)) = q at *
        generalize hqq : (k + ((entA b o F (j + 1)).length : Int)) = q' at *
        go_wp2_with fail
        refine (HC.out).mono ?_
        rintro _ w1 ⟨rfl, rfl⟩
        go_wp2
        go_round
        case rel => exact ⟨j + 1, by omega, by go_num, by rw [hqq]⟩
        case measure => simp [intOf]; omega
      · have hjn : j = n := by omega
        subst hjn
        go_wp2
        go_ret
        exact ⟨rfl, rfl⟩

set_option maxRecDepth 100000 in
set_option maxHeartbeats 2000000 in
theorem heldPolicy_any (a : Option Addr) (n cap : Nat) (A : List AdK) (k : Int) (w : World) (h0 : 0 ≤ k) (h1 : k + A.length ≤ 8388608) (hS' : SE (w.alloc (.cells #[.slice a n cap] 28)) a n A) (hH : HeldA (w.alloc (.cells #[.slice a n cap] 28)) A k) :
    Calls Tryz.prog 13 #[.agg #[.slice a n cap], .int .i64 k] w fun e w' => e = .returned (.int .i64 (k + A.length)) ∧ Below w.heap.size w w' := by
  have HC : Hid (Calls Tryz.prog 36 #[.slice a n cap, .int .i64 k] (w.alloc (.cells #[.slice a n cap] 28)) fun e w' => e = .returned (.int .i64 (k + A.length)) ∧ w' = (w.alloc (.cells #[.slice a n cap] 28))) := heldEntryS_any a n cap A k _ hS' hH h0 h1
  have x0 := box1 w 28 (.slice a n cap)
  have B : Below w.heap.size w (w.alloc (.cells #[.slice a n cap] 28)) := (Below.refl _ _).alloc (Nat.le_refl _) _
  have hq : ¬ k + (A.length : Int) < 0 := by omega
  clear hS' hH
  generalize (k + (A.length : Int)) = q at *
  go_enter Tryz.func13, Tryz.ntmps13
  go_wp2_with fail
  refine (HC.out).mono ?_
  rintro _ w1 ⟨rfl, rfl⟩
  go_wp2
  go_ret
  exact ⟨rfl, B⟩
end Go.Proofs.YtljhccolmcoifaaGreat
namespace Go.Proofs.YtljhccolmcoifaaGreat
open Go.RowKit
set_option linter.unusedVariables false

end Go.Proofs.YtljhccolmcoifaaGreat
namespace Go.Proofs.YtljhccolmcoifaaGreat
open Go.RowKit
set_option linter.unusedVariables false

theorem infoCon : (Tryz.prog.info? 86).map (fun i => (i.zero, i.size, i.bytes)) = some (some (.agg #[.int .i64 0, .int .u64 0, .int .u64 0]), 3, 24) := by kernel_rfl
theorem infoRule : (Tryz.prog.info? 108).map (fun i => (i.zero, i.size, i.bytes)) = some (some (.agg #[.slice none 0 0]), 1, 24) := by kernel_rfl
theorem infoEntry : (Tryz.prog.info? 76).map (fun i => (i.zero, i.size, i.bytes)) = some (some (.agg #[.int .u32 0, .int .u32 0, .slice none 0 0]), 3, 32) := by kernel_rfl

end Go.Proofs.YtljhccolmcoifaaGreat
namespace Go.Proofs.YtljhccolmcoifaaGreat
open Go.RowKit
set_option linter.unusedVariables false

/-- a copied slice in new memory -/
def NewP {α : Type} (k : Nat) (P : Nat → World → Nat → Nat → α → Prop) (l : List α) (w : World) (wrap : Value → Value) (e : Ending) (w' : World) : Prop :=
  ∃ a cap, e = .returned (wrap (.slice a l.length cap)) ∧ (LSrcG w.heap.size k (P w.heap.size) w' a l ∧ l.length ≤ cap) ∧ Below w.heap.size w w'
theorem NewP.mk {α : Type} {k : Nat} {P : Nat → World → Nat → Nat → α → Prop} {l : List α} {w : World} {wrap : Value → Value} {w' : World} {a : Option Addr} {cap : Nat} {e : Ending} (he : e = .returned (wrap (.slice a l.length cap))) (h : LSrcG w.heap.size k (P w.heap.size) w' a l) (hc : l.length ≤ cap) (hb : Below w.heap.size w w') : NewP k P l w wrap e w' := ⟨a, cap, he, ⟨h, hc⟩, hb⟩

/-- a box of one cell -/
structure Box1 (w : World) (g : Nat) (x : Value) : Prop where
  lt : g < w.heap.size
  c0 : w.cell? ⟨g, 0, none⟩ = some x
  f0 : w.frozen? ⟨g, 0, none⟩ = false
theorem Box1.keep {w w1 : World} {g : Nat} {x : Value} (h : Box1 w g x) (hb : Below w.heap.size w w1) : Box1 w1 g x :=
  ⟨Nat.lt_of_lt_of_le h.lt hb.size, (hb.cell (p := ⟨g, 0, none⟩) h.lt).trans h.c0, (hb.frozen (p := ⟨g, 0, none⟩) h.lt).trans h.f0⟩
theorem Box1.new (w : World) (t : TypeId) (x : Value) : Box1 (w.alloc (.cells #[x] t)) w.heap.size x := ⟨by simp, by simp, by simp⟩

end Go.Proofs.YtljhccolmcoifaaGreat
namespace Go.Proofs.YtljhccolmcoifaaGreat
open Go.RowKit
set_option linter.unusedVariables false

end Go.Proofs.YtljhccolmcoifaaGreat
