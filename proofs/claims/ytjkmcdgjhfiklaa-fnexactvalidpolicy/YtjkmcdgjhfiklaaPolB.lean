/-
  CONTRACTS of the program's look at rules and entries.
-/
import Derived.Test.YtjkmcdgjhfiklaaPolA
import Derived.Test.YtjkmcdgjhfiklaaCondI
import Derived.Test.YtjkmcdgjhfiklaaOrd
namespace Go.Proofs.Ytjkmcdgjhfiklaa
open Go.RowKit
set_option linter.unusedVariables false

set_option maxRecDepth 100000 in
set_option maxHeartbeats 2000000 in
theorem everyCon_any (r : List K) (a : Option Addr) (cap : Nat) (w : World) (hs : LSrc 3 PK w a r) (ho : okR r) (hn : r.length ≤ 16777216) :
    Calls Try.prog 92 #[.slice a r.length cap, .func (.func 36) #[] #[]] w fun e w' => e = .returned (.bool (r.all validK)) ∧ Below w.heap.size w w' := by
  have HC : Hid (∀ i w, Calls Try.prog 36 #[conV (r.getD i K.zero)] w fun e w' => e = .returned (.bool (validK (r.getD i K.zero))) ∧ Below w.heap.size w w') := fun i w => isValidCon_any _ w (okR_at ho i)
  have HY : Hid ((∀ i, i < r.length → validK (r.getD i K.zero) = true) → r.all validK = true) := fun h => (all_getD K.zero validK r).2 h
  have HF : Hid (∀ i, i < r.length → validK (r.getD i K.zero) = false → r.all validK = false) := fun i hi h => all_no hi h
  have HP : Hid (∀ wr, Below w.heap.size w wr → ∀ i, i < r.length → ∃ b o, a = some ⟨b, o, none⟩ ∧ b < wr.heap.size ∧ PK wr b (o + i * 3) (r.getD i K.zero)) := fun wr hB i hi => (hs.below PK.stays hB).at hi K.zero
  obtain ⟨V, hV⟩ : ∃ V, r.all validK = V := ⟨_, rfl⟩
  rw [hV] at HY HF ⊢
  clear hV hs ho
  generalize r.length = n at *
  go_enter Try.func92, Try.ntmps92
  go_wp2_with fail
  go_loopw [9] (fun i wr => ∃ k : Nat, k ≤ n ∧ i = .int .i64 k ∧ Hid (∀ j, j < k → validK (r.getD j K.zero) = true) ∧ Below w.heap.size w wr) (fun i _ => n - (intOf i).toNat)
  case atStart => exact ⟨0, by omega, rfl, fun j hj => by omega, Below.refl _ _⟩
  case round =>
    obtain ⟨k, hk, rfl, HJ, B⟩ := hrel
    by_cases hkn : k < n
    · obtain ⟨b, o, rfl, hlt, c0, c1, c2⟩ := HP.out wr B k hkn
      have HC1 : Hid (∀ w, Calls Try.prog 36 #[conV (r.getD k K.zero)] w fun e w' => e = .returned (.bool (validK (r.getD k K.zero))) ∧ Below w.heap.size w w') := HC.out k
      have HF1 : Hid (validK (r.getD k K.zero) = false → V = false) := HF.out k hkn
      have HJ1 : Hid (validK (r.getD k K.zero) = true → ∀ j, j < k + 1 → validK (r.getD j K.zero) = true) := fun h j hj => by
        by_cases hjk : j = k
        · subst hjk; exact h
        · exact HJ.out j (by omega)
      have hkn' : (k : Int) < (n : Int) := by omega
      generalize r.getD k K.zero = c at *
      obtain ⟨ck, ca, cb⟩ := c
      simp only at c0 c1 c2
      simp only [conV] at HC1
      generalize validK ⟨ck, ca, cb⟩ = Q at *
      have B0 : Below w.heap.size w (wr.alloc (.cells #[.int .i64 ck, .int .u64 (ca : Int), .int .u64 (cb : Int)] 25)) := B.alloc B.size _
      clear HC HF HP HJ
      go_wp2_with fail
      refine (HC1.out _).mono ?_
      rintro _ w1 ⟨rfl, hb1⟩
      have B1 := below_step hb1 B0
      clear hb1 c0 c1 c2 B0
      cases Q with
      | false =>
        have hVf : V = false := HF1.out (by first | rfl | trivial)
        subst hVf
        go_wp2
        go_ret
        exact ⟨rfl, B1⟩
      | true =>
        have HJ2 : Hid (∀ j, j < k + 1 → validK (r.getD j K.zero) = true) := HJ1.out (by first | rfl | trivial)
        go_wp2
        go_roundw
        case rel => exact ⟨k + 1, by omega, by go_num, HJ2, B1⟩
        case measure => simp [intOf]; omega
    · have hk' : k = n := by omega
      subst hk'
      have hVt : V = true := HY.out HJ.out
      subst hVt
      go_wp2
      go_ret
      exact ⟨rfl, B⟩

set_option maxRecDepth 100000 in
set_option maxHeartbeats 2000000 in
theorem isValidRule_any (r : List K) (a : Option Addr) (cap : Nat) (w : World) (hs : LSrc 3 PK w a r) (ho : okR r) (hn : r.length ≤ 16777216) :
    Calls Try.prog 79 #[.agg #[.slice a r.length cap]] w fun e w' => e = .returned (.bool (validR r)) ∧ Below w.heap.size w w' := by
  have HE : Hid (∀ w1, Below w.heap.size w w1 → Calls Try.prog 92 #[.slice a r.length cap, .func (.func 36) #[] #[]] w1 fun e w' => e = .returned (.bool (r.all validK)) ∧ Below w1.heap.size w1 w') := fun w1 hb => everyCon_any r a cap w1 (hs.below PK.stays hb) ho hn
  have B : Below w.heap.size w (w.alloc (.cells #[.slice a r.length cap] 85)) := (Below.refl _ _).alloc (Nat.le_refl _) _
  have HV : Hid (validR r = (r.length == 6 && r.all validK)) := rfl
  rw [HV.out]
  clear hs ho HV
  generalize r.all validK = Q at *
  generalize r.length = n at *
  by_cases h6 : n = 6
  · subst h6
    go_enter Try.func79, Try.ntmps79
    go_wp2_with fail
    refine (HE.out _ B).mono ?_
    rintro _ w1 ⟨rfl, hb1⟩
    have B1 := below_step hb1 B
    go_wp2
    go_ret
    exact ⟨by simp, B1⟩
  · have e6 : ((n : Int) == 6) = false := by rw [beq_eq_false_iff_ne]; omega
    have e6' : (n == 6) = false := by rw [beq_eq_false_iff_ne]; exact h6
    rw [e6', Bool.false_and]
    clear HE h6 e6'
    go_enter Try.func79, Try.ntmps79
    go_wp2
    go_ret
    exact ⟨by simp, B⟩

set_option maxRecDepth 100000 in
set_option maxHeartbeats 2000000 in
theorem everyRule_any (l : List (List K)) (a : Option Addr) (cap : Nat) (w : World) (hs : LSrc 1 PR w a l) (ho : okRs l) (hn : l.length ≤ 16777216) (hm : ∀ r ∈ l, r.length ≤ 16777216) :
    Calls Try.prog 78 #[.slice a l.length cap, .func (.func 79) #[] #[]] w fun e w' => e = .returned (.bool (l.all validR)) ∧ Below w.heap.size w w' := by
  have HSm : Hid (∀ i, (l.getD i []).length ≤ 16777216) := fun i => by
    by_cases hi : i < l.length
    · exact hm _ (rule_mem hi)
    · rw [List.getD_eq_getElem?_getD, List.getElem?_eq_none (by omega)]; simp
  have HC : Hid (∀ i a cap w, LSrc 3 PK w a (l.getD i []) → Calls Try.prog 79 #[.agg #[.slice a (l.getD i []).length cap]] w fun e w' => e = .returned (.bool (validR (l.getD i []))) ∧ Below w.heap.size w w') := fun i a cap w h => isValidRule_any _ a cap w h (okRs_at ho i) (HSm.out i)
  have HY : Hid ((∀ i, i < l.length → validR (l.getD i []) = true) → l.all validR = true) := fun h => (all_getD [] validR l).2 h
  have HF : Hid (∀ i, i < l.length → validR (l.getD i []) = false → l.all validR = false) := fun i hi h => all_no hi h
  have HP : Hid (∀ wr, Below w.heap.size w wr → ∀ i, i < l.length → ∃ b o, a = some ⟨b, o, none⟩ ∧ b < wr.heap.size ∧ PR wr b (o + i * 1) (l.getD i [])) := fun wr hB i hi => (hs.below PR.stays hB).at hi []
  obtain ⟨V, hV⟩ : ∃ V, l.all validR = V := ⟨_, rfl⟩
  rw [hV] at HY HF ⊢
  clear hV hs ho hm
  generalize l.length = n at *
  go_enter Try.func78, Try.ntmps78
  go_wp2_with fail
  go_loopw [9] (fun i wr => ∃ k : Nat, k ≤ n ∧ i = .int .i64 k ∧ Hid (∀ j, j < k → validR (l.getD j []) = true) ∧ Below w.heap.size w wr) (fun i _ => n - (intOf i).toNat)
  case atStart => exact ⟨0, by omega, rfl, fun j hj => by omega, Below.refl _ _⟩
  case round =>
    obtain ⟨k, hk, rfl, HJ, B⟩ := hrel
    by_cases hkn : k < n
    · obtain ⟨b, o, rfl, hlt, a2, cap2, r0, hsr⟩ := HP.out wr B k hkn
      have B0 : Below wr.heap.size wr (wr.alloc (.cells #[.slice a2 (l.getD k []).length cap2] 85)) := (Below.refl _ _).alloc (Nat.le_refl _) _
      have HC1 : Hid (Calls Try.prog 79 #[.agg #[.slice a2 (l.getD k []).length cap2]] (wr.alloc (.cells #[.slice a2 (l.getD k []).length cap2] 85)) fun e w' => e = .returned (.bool (validR (l.getD k []))) ∧ Below (wr.alloc (.cells #[.slice a2 (l.getD k []).length cap2] 85)).heap.size (wr.alloc (.cells #[.slice a2 (l.getD k []).length cap2] 85)) w') := HC.out k a2 cap2 _ (hsr.below PK.stays B0)
      have HF1 : Hid (validR (l.getD k []) = false → V = false) := HF.out k hkn
      have HJ1 : Hid (validR (l.getD k []) = true → ∀ j, j < k + 1 → validR (l.getD j []) = true) := fun h j hj => by
        by_cases hjk : j = k
        · subst hjk; exact h
        · exact HJ.out j (by omega)
      have hkn' : (k : Int) < (n : Int) := by omega
      rw [Nat.mul_one] at r0
      have hsm := HSm.out k
      generalize validR (l.getD k []) = Q at *
      generalize (l.getD k []).length = len2 at *
      have B2 := below_step B0 B
      clear HC HF HP HJ hsr B0
      go_wp2_with fail
      refine (HC1.out).mono ?_
      rintro _ w1 ⟨rfl, hb1⟩
      have B1 := below_step hb1 B2
      clear hb1 r0 B2
      cases Q with
      | false =>
        have hVf : V = false := HF1.out (by first | rfl | trivial)
        subst hVf
        go_wp2
        go_ret
        exact ⟨rfl, B1⟩
      | true =>
        have HJ2 : Hid (∀ j, j < k + 1 → validR (l.getD j []) = true) := HJ1.out (by first | rfl | trivial)
        go_wp2
        go_roundw
        case rel => exact ⟨k + 1, by omega, by go_num, HJ2, B1⟩
        case measure => simp [intOf]; omega
    · have hk' : k = n := by omega
      subst hk'
      have hVt : V = true := HY.out HJ.out
      subst hVt
      go_wp2
      go_ret
      exact ⟨rfl, B⟩

set_option maxRecDepth 100000 in
set_option maxHeartbeats 2000000 in
theorem isValidEntry_any (e : E) (a : Option Addr) (cap : Nat) (w : World) (hs : LSrc 1 PR w a e.rules) (ho : okRs e.rules) (hn : e.rules.length ≤ 16777216) (hm : ∀ r ∈ e.rules, r.length ≤ 16777216) :
    Calls Try.prog 52 #[.agg #[.int .u32 e.arch, .int .u32 e.nr, .slice a e.rules.length cap]] w fun x w' => x = .returned (.bool (validE e)) ∧ Below w.heap.size w w' := by
  have HE : Hid (∀ w1, Below w.heap.size w w1 → Calls Try.prog 78 #[.slice a e.rules.length cap, .func (.func 79) #[] #[]] w1 fun x w' => x = .returned (.bool (e.rules.all validR)) ∧ Below w1.heap.size w1 w') := fun w1 hb => everyRule_any e.rules a cap w1 (hs.below PR.stays hb) ho hn hm
  have HV : Hid (validE e = (decide (1 ≤ e.rules.length) && decide (e.rules.length ≤ 200) && e.rules.all validR)) := rfl
  rw [HV.out]
  obtain ⟨arch, nr, rules⟩ := e
  simp only at *
  have B : Below w.heap.size w (w.alloc (.cells #[.int .u32 arch, .int .u32 nr, .slice a rules.length cap] 81)) := (Below.refl _ _).alloc (Nat.le_refl _) _
  clear hs ho hm HV
  generalize rules.all validR = Q at *
  generalize rules.length = n at *
  by_cases h1 : 1 ≤ n
  · have h1' : (1 : Int) ≤ (n : Int) := by omega
    by_cases h2 : n ≤ 200
    · have h2' : (n : Int) ≤ 200 := by omega
      have e1 : (decide (1 ≤ n) && decide (n ≤ 200) && Q) = Q := by simp [h1, h2]
      rw [e1]
      clear e1 h1 h2
      go_enter Try.func52, Try.ntmps52
      go_wp2_with fail
      refine (HE.out _ B).mono ?_
      rintro _ w1 ⟨rfl, hb1⟩
      have B1 := below_step hb1 B
      go_wp2
      go_ret
      exact ⟨rfl, B1⟩
    · have h2' : ¬ (n : Int) ≤ 200 := by omega
      have e1 : (decide (1 ≤ n) && decide (n ≤ 200) && Q) = false := by simp [h2]
      rw [e1]
      clear e1 h1 h2 HE
      go_enter Try.func52, Try.ntmps52
      go_wp2
      go_ret
      exact ⟨rfl, B⟩
  · have h1' : ¬ (1 : Int) ≤ (n : Int) := by omega
    have e1 : (decide (1 ≤ n) && decide (n ≤ 200) && Q) = false := by simp [h1]
    rw [e1]
    clear e1 h1 HE
    go_enter Try.func52, Try.ntmps52
    go_wp2
    go_ret
    exact ⟨rfl, B⟩
end Go.Proofs.Ytjkmcdgjhfiklaa
