/-
  CONTRACTS of the law's comparisons of policies, second part.
-/
import Derived.Test.YtjkmcdgjhfiklaaPolEq
namespace Go.Proofs.Ytjkmcdgjhfiklaa
open Go.RowKit
set_option linter.unusedVariables false

set_option maxRecDepth 100000 in
set_option maxHeartbeats 2000000 in
theorem eqEntry_any (e : E) (a a' : Option Addr) (cap cap' : Nat) (w : World) (hs : LSrc 1 PR w a e.rules) (hs' : LSrc 1 PR w a' e.rules) (hn : e.rules.length ≤ 16777216) (hm : ∀ r ∈ e.rules, r.length ≤ 16777216) :
    Calls Try.prog 80 #[.agg #[.int .u32 e.arch, .int .u32 e.nr, .slice a e.rules.length cap], .agg #[.int .u32 e.arch, .int .u32 e.nr, .slice a' e.rules.length cap']] w fun e w' => e = .returned (.bool true) ∧ Below w.heap.size w w' := by
  have HC : Hid (∀ w1, Below w.heap.size w w1 → Calls Try.prog 93 #[.slice a e.rules.length cap, .slice a' e.rules.length cap'] w1 fun e w' => e = .returned (.bool true) ∧ Below w1.heap.size w1 w') := fun w1 hb => eqRuleS_any e.rules a a' cap cap' w1 (hs.below PR.stays hb) (hs'.below PR.stays hb) hn hm
  have B : Below w.heap.size w ((w.alloc (.cells #[.int .u32 e.arch, .int .u32 e.nr, .slice a e.rules.length cap] 81)).alloc (.cells #[.int .u32 e.arch, .int .u32 e.nr, .slice a' e.rules.length cap'] 81)) := ((Below.refl _ _).alloc (Nat.le_refl _) _).alloc (by simp) _
  clear hs hs' hn hm
  generalize e.rules.length = n at *
  go_enter Try.func80, Try.ntmps80
  go_wp2_with fail
  refine (HC.out _ B).mono ?_
  rintro _ w1 ⟨rfl, hb1⟩
  have B1 := below_step hb1 B
  go_wp2
  go_ret
  exact ⟨rfl, B1⟩

set_option maxRecDepth 100000 in
set_option maxHeartbeats 4000000 in
theorem eqEntryS_any (l : List E) (a a' : Option Addr) (cap cap' : Nat) (w : World) (hs : LSrc 3 PE w a l) (hs' : LSrc 3 PE w a' l) (hn : l.length ≤ 16777216) (hm : ∀ e ∈ l, e.rules.length ≤ 16777216 ∧ ∀ r ∈ e.rules, r.length ≤ 16777216) :
    Calls Try.prog 53 #[.slice a l.length cap, .slice a' l.length cap'] w fun e w' => e = .returned (.bool true) ∧ Below w.heap.size w w' := by
  have HP : Hid (∀ wr, Below w.heap.size w wr → ∀ i, i < l.length → ∃ b o, a = some ⟨b, o, none⟩ ∧ b < wr.heap.size ∧ PE wr b (o + i * 3) (l.getD i E.zero)) := fun wr hB i hi => (hs.below PE.stays hB).at hi E.zero
  have HP' : Hid (∀ wr, Below w.heap.size w wr → ∀ i, i < l.length → ∃ b o, a' = some ⟨b, o, none⟩ ∧ b < wr.heap.size ∧ PE wr b (o + i * 3) (l.getD i E.zero)) := fun wr hB i hi => (hs'.below PE.stays hB).at hi E.zero
  have HI : Hid (∀ i, i < l.length → (l.getD i E.zero).rules.length ≤ 16777216 ∧ ∀ r ∈ (l.getD i E.zero).rules, r.length ≤ 16777216) := fun i hi => hm _ (by rw [List.getD_eq_getElem?_getD, List.getElem?_eq_getElem hi]; exact List.getElem_mem hi)
  clear hs hs' hm
  generalize l.length = n at *
  go_enter Try.func53, Try.ntmps53
  go_wp2_with fail
  go_loopw [5] (fun i wr => ∃ k : Nat, k ≤ n ∧ i = .int .i64 k ∧ Below w.heap.size w wr) (fun i _ => n - (intOf i).toNat)
  case atStart => exact ⟨0, by omega, rfl, Below.refl _ _⟩
  case round =>
    obtain ⟨k, hk, rfl, B⟩ := hrel
    by_cases hkn : k < n
    · obtain ⟨b, o, rfl, hlt, c0, c1, a2, cap2, c2, hsr⟩ := HP.out wr B k hkn
      obtain ⟨b', o', rfl, hlt', d0, d1, a3, cap3, d2, hsr'⟩ := HP'.out wr B k hkn
      have hkn' : (k : Int) < (n : Int) := by omega
      obtain ⟨hml, hmr⟩ := HI.out k hkn
      have HC1 : Hid (Calls Try.prog 80 #[.agg #[.int .u32 (l.getD k E.zero).arch, .int .u32 (l.getD k E.zero).nr, .slice a2 (l.getD k E.zero).rules.length cap2], .agg #[.int .u32 (l.getD k E.zero).arch, .int .u32 (l.getD k E.zero).nr, .slice a3 (l.getD k E.zero).rules.length cap3]] wr.drew fun e w' => e = .returned (.bool true) ∧ Below wr.drew.heap.size wr.drew w') := eqEntry_any _ a2 a3 cap2 cap3 wr.drew (hsr.below PR.stays (Below.refl _ _).drew) (hsr'.below PR.stays (Below.refl _ _).drew) hml hmr
      clear HP HP' HI hsr hsr' hml hmr
      generalize (l.getD k E.zero).rules.length = m at *
      generalize (l.getD k E.zero).arch = ea at *
      generalize (l.getD k E.zero).nr = en at *
      go_wp2_with fail
      go_region_with (go_at_call 80; refine (HC1.out).mono ?_; rintro e w1 ⟨rfl, hb1⟩)
      all_goals
        have B1 := below_step hb1 B.drew
        go_wp2
        go_roundw
        case rel => exact ⟨k + 1, by omega, by go_num, B1⟩
        case measure => simp [intOf]; omega
    · go_wp2
      go_ret
      exact ⟨rfl, B⟩

set_option maxRecDepth 100000 in
set_option maxHeartbeats 2000000 in
theorem eqPolicy_any (r : List E) (a a' : Option Addr) (cap cap' : Nat) (w : World) (hs : LSrc 3 PE w a r) (hs' : LSrc 3 PE w a' r) (hn : r.length ≤ 16777216) (hm : ∀ e ∈ r, e.rules.length ≤ 16777216 ∧ ∀ c ∈ e.rules, c.length ≤ 16777216) :
    Calls Try.prog 21 #[.agg #[.slice a r.length cap], .agg #[.slice a' r.length cap']] w fun e w' => e = .returned (.bool true) ∧ Below w.heap.size w w' := by
  have HC : Hid (∀ w1, Below w.heap.size w w1 → Calls Try.prog 53 #[.slice a r.length cap, .slice a' r.length cap'] w1 fun e w' => e = .returned (.bool true) ∧ Below w1.heap.size w1 w') := fun w1 hb => eqEntryS_any r a a' cap cap' w1 (hs.below PE.stays hb) (hs'.below PE.stays hb) hn hm
  have B : Below w.heap.size w ((w.alloc (.cells #[.slice a r.length cap] 42)).alloc (.cells #[.slice a' r.length cap'] 42)) := ((Below.refl _ _).alloc (Nat.le_refl _) _).alloc (by simp) _
  clear hs hs' hn hm
  generalize r.length = n at *
  go_enter Try.func21, Try.ntmps21
  go_wp2_with fail
  refine (HC.out _ B).mono ?_
  rintro _ w1 ⟨rfl, hb1⟩
  have B1 := below_step hb1 B
  go_wp2
  go_ret
  exact ⟨rfl, B1⟩
end Go.Proofs.Ytjkmcdgjhfiklaa
