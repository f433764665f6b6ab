/-
  CONTRACTS of the law's sizes of policies.
-/
import Derived.Test.YtjkmcdgjhfiklaaPolS
namespace Go.Proofs.Ytjkmcdgjhfiklaa
open Go.RowKit
set_option linter.unusedVariables false

def sumBy {α : Type} (f : α → Nat) : List α → Nat
  | [] => 0
  | x :: l => f x + sumBy f l
theorem sumBy_take {α : Type} (f : α → Nat) {l : List α} {k : Nat} (h : k < l.length) (d : α) : sumBy f (l.take (k + 1)) = sumBy f (l.take k) + f (l.getD k d) := by
  induction l generalizing k with
  | nil => simp at h
  | cons x l ih =>
    cases k with
    | zero => simp [sumBy]
    | succ k =>
      have := ih (k := k) (by simpa using h)
      simp only [List.take_succ_cons, sumBy, List.getD_cons_succ] at *
      omega
theorem sumBy_take_le {α : Type} (f : α → Nat) (l : List α) (k : Nat) : sumBy f (l.take k) ≤ sumBy f l := by
  induction l generalizing k with
  | nil => simp
  | cons x l ih =>
    cases k with
    | zero => simp [sumBy]
    | succ k => have := ih k; simp only [List.take_succ_cons, sumBy]; omega
theorem sumBy_mem {α : Type} (f : α → Nat) {l : List α} {x : α} (h : x ∈ l) : f x ≤ sumBy f l := by
  induction l with
  | nil => simp at h
  | cons y l ih =>
    simp only [List.mem_cons] at h
    rcases h with rfl | h
    · simp [sumBy]
    · have := ih h; simp [sumBy]; omega
def sizeRs (l : List (List K)) : Nat := l.length + sumBy List.length l
def sizeE (e : E) : Nat := sizeRs e.rules
def sizeP (p : List E) : Nat := p.length + sumBy sizeE p
/-- what is left, or -1 -/
def szF (left : Int) (s : Nat) : Int := if left < s then -1 else left - s
theorem szF_no {left : Int} {s : Nat} (h : left < s) : szF left s = -1 := if_pos h
theorem szF_yes {left : Int} {s : Nat} (h : ¬ left < s) : szF left s = left - s := if_neg h

set_option maxHeartbeats 1000000 in
theorem szConS_any (a : Option Addr) (n cap : Nat) (left : Int) (w : World) (hn : n ≤ 9223372036854775807) (h0 : 0 ≤ left) (h1 : left ≤ 1048576) :
    Calls Try.prog 114 #[.slice a n cap, .int .i64 left] w fun e w' => e = .returned (.int .i64 (szF left n)) ∧ Below w.heap.size w w' := by
  by_cases h : left < n
  · rw [szF_no h]
    have h' : left - (n : Int) < 0 := by omega
    go_enter Try.func114, Try.ntmps114
    go_wp2
    go_ret
    exact ⟨rfl, Below.refl _ _⟩
  · rw [szF_yes h]
    have h' : ¬ left - (n : Int) < 0 := by omega
    go_enter Try.func114, Try.ntmps114
    go_wp2
    go_ret
    exact ⟨rfl, Below.refl _ _⟩

set_option maxRecDepth 100000 in
set_option maxHeartbeats 1000000 in
theorem szRule_any (r : List K) (a : Option Addr) (cap : Nat) (left : Int) (w : World) (hn : r.length ≤ 9223372036854775807) (h0 : 0 ≤ left) (h1 : left ≤ 1048576) :
    Calls Try.prog 105 #[.agg #[.slice a r.length cap], .int .i64 left] w fun e w' => e = .returned (.int .i64 (szF left r.length)) ∧ Below w.heap.size w w' := by
  have HC : Hid (∀ w1, Below w.heap.size w w1 → Calls Try.prog 114 #[.slice a r.length cap, .int .i64 left] w1 fun e w' => e = .returned (.int .i64 (szF left r.length)) ∧ Below w1.heap.size w1 w') := fun w1 hb => szConS_any a r.length cap left w1 hn h0 h1
  have B : Below w.heap.size w (w.alloc (.cells #[.slice a r.length cap] 152)) := (Below.refl _ _).alloc (Nat.le_refl _) _
  clear hn
  generalize r.length = s at *
  by_cases h : left < s
  · rw [szF_no h] at HC ⊢
    clear h
    go_enter Try.func105, Try.ntmps105
    go_wp2_with fail
    refine (HC.out _ B).mono ?_
    rintro _ w1 ⟨rfl, hb1⟩
    have B1 := below_step hb1 B
    go_wp2
    go_ret
    exact ⟨rfl, B1⟩
  · rw [szF_yes h] at HC ⊢
    have hp : ¬ left - (s : Int) < 0 := by omega
    have hq : 0 ≤ left - (s : Int) := by omega
    clear h
    generalize left - (s : Int) = z at *
    go_enter Try.func105, Try.ntmps105
    go_wp2_with fail
    refine (HC.out _ B).mono ?_
    rintro _ w1 ⟨rfl, hb1⟩
    have B1 := below_step hb1 B
    go_wp2
    go_ret
    exact ⟨rfl, B1⟩

set_option maxRecDepth 100000 in
set_option maxHeartbeats 2000000 in
theorem szRuleS_any (l : List (List K)) (a : Option Addr) (cap : Nat) (left : Int) (w : World) (hs : LSrc 1 PR w a l) (hn : l.length ≤ 9223372036854775807) (hm : ∀ r ∈ l, r.length ≤ 9223372036854775807) (h0 : 0 ≤ left) (h1 : left ≤ 1048576) :
    Calls Try.prog 89 #[.slice a l.length cap, .int .i64 left] w fun e w' => e = .returned (.int .i64 (szF left (l.length + sumBy List.length l))) ∧ Below w.heap.size w w' := by
  have HP : Hid (∀ wr, Below w.heap.size w wr → ∀ i, i < l.length → ∃ b o, a = some ⟨b, o, none⟩ ∧ b < wr.heap.size ∧ PR wr b (o + i * 1) (l.getD i [])) := fun wr hB i hi => (hs.below PR.stays hB).at hi []
  have HT : Hid (∀ i, i < l.length → sumBy List.length (l.take (i + 1)) = sumBy List.length (l.take i) + List.length (l.getD i [])) := fun i hi => sumBy_take List.length hi []
  have HTl : Hid (∀ i, sumBy List.length (l.take i) ≤ sumBy List.length l) := fun i => sumBy_take_le List.length l i
  have HA : Hid (sumBy List.length (l.take l.length) = sumBy List.length l) := by show _ = _; rw [List.take_length]
  have HI : Hid (∀ i, i < l.length → ∀ (w1 : World) (x : Int) (a2 : Option Addr) (cap2 : Nat), LSrc 3 PK w1 a2 (l.getD i []) → 0 ≤ x → x ≤ 1048576 → Calls Try.prog 105 #[.agg #[.slice a2 (l.getD i []).length cap2], .int .i64 x] w1 fun e w' => e = .returned (.int .i64 (szF x (List.length (l.getD i [])))) ∧ Below w1.heap.size w1 w') := fun i hi w1 x a2 cap2 hsrc hx0 hx1 => szRule_any _ a2 cap2 x w1 (hm _ (by rw [List.getD_eq_getElem?_getD, List.getElem?_eq_getElem hi]; exact List.getElem_mem hi)) hx0 hx1
  clear hs hm
  obtain ⟨T, hT⟩ : ∃ T : Nat → Nat, ∀ i, sumBy List.length (l.take i) = T i := ⟨_, fun _ => rfl⟩
  have H00 : Hid (T 0 = 0) := by unfold Hid; rw [← hT]; rfl
  simp only [hT] at HT HTl HA
  generalize sumBy List.length l = tt at *
  generalize l.length = n at *
  clear hT
  by_cases hb : left < n
  · rw [szF_no (by omega)]
    have h' : left - (n : Int) < 0 := by omega
    go_enter Try.func89, Try.ntmps89
    go_wp2
    go_ret
    exact ⟨rfl, Below.refl _ _⟩
  · have h' : ¬ left - (n : Int) < 0 := by omega
    have hb' : (n : Int) ≤ left := by omega
    obtain ⟨R, hR⟩ : ∃ R, szF left (n + tt) = R := ⟨_, rfl⟩
    have HR : Hid (szF left (n + tt) = R) := hR
    rw [hR]
    clear hR hb
    go_enter Try.func89, Try.ntmps89
    go_wp2_with fail
    go_loopw [1, 5] (fun q i wr => ∃ k : Nat, k ≤ n ∧ i = .int .i64 k ∧ q = .int .i64 (left - n - T k) ∧ 0 ≤ left - n - T k ∧ Below w.heap.size w wr) (fun _ i _ => n - (intOf i).toNat)
    case atStart => exact ⟨0, by omega, rfl, by rw [H00.out]; simp, by rw [H00.out]; omega, Below.refl _ _⟩
    case round =>
      obtain ⟨k, hk, rfl, rfl, hq, B⟩ := hrel
      by_cases hkn : k < n
      · obtain ⟨b, o, rfl, hlt, a2, cap2, c0, hsr⟩ := HP.out wr B k hkn
        have hkn' : (k : Int) < (n : Int) := by omega
        have HI1 := HI.out k hkn wr (left - n - T k) a2 cap2 hsr hq (by omega)
        have HT1 : Hid (T (k + 1) = T k + List.length (l.getD k [])) := HT.out k hkn
        have HT2 : Hid (T (k + 1) ≤ tt) := HTl.out (k + 1)
        rw [Nat.mul_one] at c0
        clear hsr HP HI HT HTl HA
        generalize l.getD k [] = e at *
        generalize List.length e = s at *
        by_cases hneg : left - (n : Int) - T k < s
        · rw [szF_no hneg] at HI1
          have hRn : R = -1 := by
            rw [← HR.out]
            have e1 := HT1.out
            have e2 := HT2.out
            exact szF_no (by omega)
          subst hRn
          clear hneg
          generalize T k = tk at *
          go_wp2_with fail
          refine Calls.mono HI1 ?_
          rintro _ w1 ⟨rfl, hb1⟩
          have B1 := below_step hb1 B
          go_wp2
          go_ret
          exact ⟨rfl, B1⟩
        · rw [szF_yes hneg] at HI1
          have hz : 0 ≤ left - (n : Int) - T (k + 1) := by rw [HT1.out]; omega
          have HZ : Hid (left - (n : Int) - T k - s = left - (n : Int) - T (k + 1)) := by unfold Hid; rw [HT1.out]; omega
          rw [HZ.out] at HI1
          clear hneg HZ HT1 HT2
          have HK : Hid (T (k + 1) = T (k + 1)) := rfl
          generalize hz1 : left - (n : Int) - T (k + 1) = z at *
          generalize T k = tk at *
          go_wp2_with fail
          refine Calls.mono HI1 ?_
          rintro _ w1 ⟨rfl, hb1⟩
          have B1 := below_step hb1 B
          go_wp2
          go_roundw
          case rel => exact ⟨k + 1, by omega, by go_num, by rw [hz1], by rw [hz1]; exact hz, B1⟩
          case measure => simp [intOf]; omega
      · have hkn' : k = n := by omega
        subst hkn'
        have e1 := HA.out
        have hRy : left - (k : Int) - T k = R := by
          rw [← HR.out, szF_yes (by omega)]; push_cast; omega
        rw [hRy]
        clear hRy HR HA HTl HT HP HI hq
        go_wp2
        go_ret
        exact ⟨rfl, B⟩
end Go.Proofs.Ytjkmcdgjhfiklaa
