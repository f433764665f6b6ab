/-
  CONTRACTS of the law's comparisons of policies.
-/
import Derived.Test.YtjkmcdgjhfiklaaPolS
namespace Go.Proofs.Ytjkmcdgjhfiklaa
open Go.RowKit
set_option linter.unusedVariables false

set_option maxRecDepth 100000 in
set_option maxHeartbeats 4000000 in
theorem eqConS_any (l : List K) (a a' : Option Addr) (cap cap' : Nat) (w : World) (hs : LSrc 3 PK w a l) (hs' : LSrc 3 PK w a' l) (hn : l.length ≤ 16777216) :
    Calls Try.prog 116 #[.slice a l.length cap, .slice a' l.length cap'] w fun e w' => e = .returned (.bool true) ∧ Below w.heap.size w w' := by
  have HP : Hid (∀ wr, Below w.heap.size w wr → ∀ i, i < l.length → ∃ b o, a = some ⟨b, o, none⟩ ∧ b < wr.heap.size ∧ PK wr b (o + i * 3) (l.getD i K.zero)) := fun wr hB i hi => (hs.below PK.stays hB).at hi K.zero
  have HP' : Hid (∀ wr, Below w.heap.size w wr → ∀ i, i < l.length → ∃ b o, a' = some ⟨b, o, none⟩ ∧ b < wr.heap.size ∧ PK wr b (o + i * 3) (l.getD i K.zero)) := fun wr hB i hi => (hs'.below PK.stays hB).at hi K.zero
  clear hs hs'
  generalize l.length = n at *
  go_enter Try.func116, Try.ntmps116
  go_wp2_with fail
  go_loopw [5] (fun i wr => ∃ k : Nat, k ≤ n ∧ i = .int .i64 k ∧ Below w.heap.size w wr) (fun i _ => n - (intOf i).toNat)
  case atStart => exact ⟨0, by omega, rfl, Below.refl _ _⟩
  case round =>
    obtain ⟨k, hk, rfl, B⟩ := hrel
    by_cases hkn : k < n
    · obtain ⟨b, o, rfl, hlt, c0, c1, c2⟩ := HP.out wr B k hkn
      obtain ⟨b', o', rfl, hlt', d0, d1, d2⟩ := HP'.out wr B k hkn
      have hkn' : (k : Int) < (n : Int) := by omega
      have HC : Hid (∀ w1, Calls Try.prog 12 #[conV (l.getD k K.zero), conV (l.getD k K.zero)] w1 fun e w' => e = .returned (.bool true) ∧ Below w1.heap.size w1 w') := fun w1 => eqCon_same _ w1
      generalize l.getD k K.zero = c at *
      obtain ⟨ck, ca, cb⟩ := c
      simp only [conV] at c0 c1 c2 d0 d1 d2 HC
      clear HP HP'
      go_wp2_with fail
      go_region_with (go_at_call 12; refine (HC.out _).mono ?_; rintro e w1 ⟨rfl, hb1⟩)
      all_goals
        have B1 := below_step hb1 B.drew
        go_wp2
        go_roundw
        case rel => exact ⟨k + 1, by omega, by go_num, B1⟩
        case measure => simp [intOf]; omega
    · go_wp2
      go_ret
      exact ⟨rfl, B⟩

set_option maxRecDepth 100000 in
set_option maxHeartbeats 2000000 in
theorem eqRule_any (r : List K) (a a' : Option Addr) (cap cap' : Nat) (w : World) (hs : LSrc 3 PK w a r) (hs' : LSrc 3 PK w a' r) (hn : r.length ≤ 16777216) :
    Calls Try.prog 107 #[.agg #[.slice a r.length cap], .agg #[.slice a' r.length cap']] w fun e w' => e = .returned (.bool true) ∧ Below w.heap.size w w' := by
  have HC : Hid (∀ w1, Below w.heap.size w w1 → Calls Try.prog 116 #[.slice a r.length cap, .slice a' r.length cap'] w1 fun e w' => e = .returned (.bool true) ∧ Below w1.heap.size w1 w') := fun w1 hb => eqConS_any r a a' cap cap' w1 (hs.below PK.stays hb) (hs'.below PK.stays hb) hn
  have B : Below w.heap.size w ((w.alloc (.cells #[.slice a r.length cap] 85)).alloc (.cells #[.slice a' r.length cap'] 85)) := ((Below.refl _ _).alloc (Nat.le_refl _) _).alloc (by simp) _
  clear hs hs'
  generalize r.length = n at *
  go_enter Try.func107, Try.ntmps107
  go_wp2_with fail
  refine (HC.out _ B).mono ?_
  rintro _ w1 ⟨rfl, hb1⟩
  have B1 := below_step hb1 B
  go_wp2
  go_ret
  exact ⟨rfl, B1⟩

set_option maxRecDepth 100000 in
set_option maxHeartbeats 4000000 in
theorem eqRuleS_any (l : List (List K)) (a a' : Option Addr) (cap cap' : Nat) (w : World) (hs : LSrc 1 PR w a l) (hs' : LSrc 1 PR w a' l) (hn : l.length ≤ 16777216) (hm : ∀ r ∈ l, r.length ≤ 16777216) :
    Calls Try.prog 93 #[.slice a l.length cap, .slice a' l.length cap'] w fun e w' => e = .returned (.bool true) ∧ Below w.heap.size w w' := by
  have HP : Hid (∀ wr, Below w.heap.size w wr → ∀ i, i < l.length → ∃ b o, a = some ⟨b, o, none⟩ ∧ b < wr.heap.size ∧ PR wr b (o + i * 1) (l.getD i [])) := fun wr hB i hi => (hs.below PR.stays hB).at hi []
  have HP' : Hid (∀ wr, Below w.heap.size w wr → ∀ i, i < l.length → ∃ b o, a' = some ⟨b, o, none⟩ ∧ b < wr.heap.size ∧ PR wr b (o + i * 1) (l.getD i [])) := fun wr hB i hi => (hs'.below PR.stays hB).at hi []
  have HI : Hid (∀ i, i < l.length → (l.getD i []).length ≤ 16777216) := fun i hi => hm _ (by rw [List.getD_eq_getElem?_getD, List.getElem?_eq_getElem hi]; exact List.getElem_mem hi)
  clear hs hs' hm
  generalize l.length = n at *
  go_enter Try.func93, Try.ntmps93
  go_wp2_with fail
  go_loopw [5] (fun i wr => ∃ k : Nat, k ≤ n ∧ i = .int .i64 k ∧ Below w.heap.size w wr) (fun i _ => n - (intOf i).toNat)
  case atStart => exact ⟨0, by omega, rfl, Below.refl _ _⟩
  case round =>
    obtain ⟨k, hk, rfl, B⟩ := hrel
    by_cases hkn : k < n
    · obtain ⟨b, o, rfl, hlt, a2, cap2, c0, hsr⟩ := HP.out wr B k hkn
      obtain ⟨b', o', rfl, hlt', a3, cap3, d0, hsr'⟩ := HP'.out wr B k hkn
      have hkn' : (k : Int) < (n : Int) := by omega
      have hml := HI.out k hkn
      have HC : Hid (∀ w1, Below wr.heap.size wr w1 → Calls Try.prog 107 #[.agg #[.slice a2 (l.getD k []).length cap2], .agg #[.slice a3 (l.getD k []).length cap3]] w1 fun e w' => e = .returned (.bool true) ∧ Below w1.heap.size w1 w') := fun w1 hb => eqRule_any _ a2 a3 cap2 cap3 w1 (hsr.below PK.stays hb) (hsr'.below PK.stays hb) hml
      have HC1 : Hid (Calls Try.prog 107 #[.agg #[.slice a2 (l.getD k []).length cap2], .agg #[.slice a3 (l.getD k []).length cap3]] wr.drew fun e w' => e = .returned (.bool true) ∧ Below wr.drew.heap.size wr.drew w') := HC.out wr.drew (Below.refl _ _).drew
      rw [Nat.mul_one] at c0 d0
      generalize (l.getD k []).length = m at *
      clear HP HP' HI hsr hsr' HC
      go_wp2_with fail
      go_region_with (go_at_call 107; refine (HC1.out).mono ?_; rintro e w1 ⟨rfl, hb1⟩)
      all_goals
        have B1 := below_step hb1 B.drew
        go_wp2
        go_roundw
        case rel => exact ⟨k + 1, by omega, by go_num, B1⟩
        case measure => simp [intOf]; omega
    · go_wp2
      go_ret
      exact ⟨rfl, B⟩
end Go.Proofs.Ytjkmcdgjhfiklaa
