/-
  CONTRACTS of the law's sizes of policies, second part.
-/
import Derived.Test.YtjkmcdgjhfiklaaPolZ
namespace Go.Proofs.Ytjkmcdgjhfiklaa
open Go.RowKit
set_option linter.unusedVariables false

set_option maxRecDepth 100000 in
set_option maxHeartbeats 1000000 in
theorem szEntry_any (e : E) (a : Option Addr) (cap : Nat) (left : Int) (w : World) (hs : LSrc 1 PR w a e.rules) (hn : e.rules.length ≤ 9223372036854775807) (hm : ∀ r ∈ e.rules, r.length ≤ 9223372036854775807) (h0 : 0 ≤ left) (h1 : left ≤ 1048576) :
    Calls Try.prog 74 #[.agg #[.int .u32 e.arch, .int .u32 e.nr, .slice a e.rules.length cap], .int .i64 left] w fun x w' => x = .returned (.int .i64 (szF left (sizeE e))) ∧ Below w.heap.size w w' := by
  have HC : Hid (∀ w1, Below w.heap.size w w1 → Calls Try.prog 89 #[.slice a e.rules.length cap, .int .i64 left] w1 fun x w' => x = .returned (.int .i64 (szF left (sizeE e))) ∧ Below w1.heap.size w1 w') := fun w1 hb => szRuleS_any e.rules a cap left w1 (hs.below PR.stays hb) hn hm h0 h1
  have B : Below w.heap.size w (w.alloc (.cells #[.int .u32 e.arch, .int .u32 e.nr, .slice a e.rules.length cap] 119)) := (Below.refl _ _).alloc (Nat.le_refl _) _
  clear hn hs hm
  generalize sizeE e = s at *
  generalize e.rules.length = n at *
  by_cases h : left < s
  · rw [szF_no h] at HC ⊢
    clear h
    go_enter Try.func74, Try.ntmps74
    go_wp2_with fail
    refine (HC.out _ B).mono ?_
    rintro _ w1 ⟨rfl, hb1⟩
    have B1 := below_step hb1 B
    go_wp2
    go_ret
    exact ⟨rfl, B1⟩
  · rw [szF_yes h] at HC ⊢
    have hp : ¬ left - (s : Int) < 0 := by omega
    have hq : 0 ≤ left - (s : Int) := by omega
    clear h
    generalize left - (s : Int) = z at *
    go_enter Try.func74, Try.ntmps74
    go_wp2_with fail
    refine (HC.out _ B).mono ?_
    rintro _ w1 ⟨rfl, hb1⟩
    have B1 := below_step hb1 B
    go_wp2
    go_ret
    exact ⟨rfl, B1⟩

set_option maxRecDepth 100000 in
set_option maxHeartbeats 2000000 in
theorem szEntryS_any (l : List E) (a : Option Addr) (cap : Nat) (left : Int) (w : World) (hs : LSrc 3 PE w a l) (hn : l.length ≤ 9223372036854775807) (hm : ∀ e ∈ l, e.rules.length ≤ 9223372036854775807 ∧ ∀ r ∈ e.rules, r.length ≤ 9223372036854775807) (h0 : 0 ≤ left) (h1 : left ≤ 1048576) :
    Calls Try.prog 47 #[.slice a l.length cap, .int .i64 left] w fun e w' => e = .returned (.int .i64 (szF left (l.length + sumBy sizeE l))) ∧ Below w.heap.size w w' := by
  have HP : Hid (∀ wr, Below w.heap.size w wr → ∀ i, i < l.length → ∃ b o, a = some ⟨b, o, none⟩ ∧ b < wr.heap.size ∧ PE wr b (o + i * 3) (l.getD i E.zero)) := fun wr hB i hi => (hs.below PE.stays hB).at hi E.zero
  have HT : Hid (∀ i, i < l.length → sumBy sizeE (l.take (i + 1)) = sumBy sizeE (l.take i) + sizeE (l.getD i E.zero)) := fun i hi => sumBy_take sizeE hi E.zero
  have HTl : Hid (∀ i, sumBy sizeE (l.take i) ≤ sumBy sizeE l) := fun i => sumBy_take_le sizeE l i
  have HA : Hid (sumBy sizeE (l.take l.length) = sumBy sizeE l) := by show _ = _; rw [List.take_length]
  have HI : Hid (∀ i, i < l.length → ∀ (w1 : World) (x : Int) (a2 : Option Addr) (cap2 : Nat), LSrc 1 PR w1 a2 (l.getD i E.zero).rules → 0 ≤ x → x ≤ 1048576 → Calls Try.prog 74 #[.agg #[.int .u32 (l.getD i E.zero).arch, .int .u32 (l.getD i E.zero).nr, .slice a2 (l.getD i E.zero).rules.length cap2], .int .i64 x] w1 fun e w' => e = .returned (.int .i64 (szF x (sizeE (l.getD i E.zero)))) ∧ Below w1.heap.size w1 w') := fun i hi w1 x a2 cap2 hsrc hx0 hx1 => by
    have he : l.getD i E.zero ∈ l := by rw [List.getD_eq_getElem?_getD, List.getElem?_eq_getElem hi]; exact List.getElem_mem hi
    exact szEntry_any _ a2 cap2 x w1 hsrc (hm _ he).1 (hm _ he).2 hx0 hx1
  clear hs hm
  obtain ⟨T, hT⟩ : ∃ T : Nat → Nat, ∀ i, sumBy sizeE (l.take i) = T i := ⟨_, fun _ => rfl⟩
  have H00 : Hid (T 0 = 0) := by unfold Hid; rw [← hT]; rfl
  simp only [hT] at HT HTl HA
  generalize sumBy sizeE l = tt at *
  generalize l.length = n at *
  clear hT
  by_cases hb : left < n
  · rw [szF_no (by omega)]
    have h' : left - (n : Int) < 0 := by omega
    go_enter Try.func47, Try.ntmps47
    go_wp2
    go_ret
    exact ⟨rfl, Below.refl _ _⟩
  · have h' : ¬ left - (n : Int) < 0 := by omega
    have hb' : (n : Int) ≤ left := by omega
    obtain ⟨R, hR⟩ : ∃ R, szF left (n + tt) = R := ⟨_, rfl⟩
    have HR : Hid (szF left (n + tt) = R) := hR
    rw [hR]
    clear hR hb
    go_enter Try.func47, Try.ntmps47
    go_wp2_with fail
    go_loopw [1, 5] (fun q i wr => ∃ k : Nat, k ≤ n ∧ i = .int .i64 k ∧ q = .int .i64 (left - n - T k) ∧ 0 ≤ left - n - T k ∧ Below w.heap.size w wr) (fun _ i _ => n - (intOf i).toNat)
    case atStart => exact ⟨0, by omega, rfl, by rw [H00.out]; simp, by rw [H00.out]; omega, Below.refl _ _⟩
    case round =>
      obtain ⟨k, hk, rfl, rfl, hq, B⟩ := hrel
      by_cases hkn : k < n
      · obtain ⟨b, o, rfl, hlt, c0, c1, a2, cap2, c2, hsr⟩ := HP.out wr B k hkn
        have hkn' : (k : Int) < (n : Int) := by omega
        have HI1 := HI.out k hkn wr (left - n - T k) a2 cap2 hsr hq (by omega)
        have HT1 : Hid (T (k + 1) = T k + sizeE (l.getD k E.zero)) := HT.out k hkn
        have HT2 : Hid (T (k + 1) ≤ tt) := HTl.out (k + 1)
        clear hsr HP HI HT HTl HA
        generalize l.getD k E.zero = e at *
        generalize sizeE e = s at *
        generalize e.rules.length = mm at *
        by_cases hneg : left - (n : Int) - T k < s
        · rw [szF_no hneg] at HI1
          have hRn : R = -1 := by
            rw [← HR.out]
            have e1 := HT1.out
            have e2 := HT2.out
            exact szF_no (by omega)
          subst hRn
          clear hneg
          generalize T k = tk at *
          go_wp2_with fail
          refine Calls.mono HI1 ?_
          rintro _ w1 ⟨rfl, hb1⟩
          have B1 := below_step hb1 B
          go_wp2
          go_ret
          exact ⟨rfl, B1⟩
        · rw [szF_yes hneg] at HI1
          have hz : 0 ≤ left - (n : Int) - T (k + 1) := by rw [HT1.out]; omega
          have HZ : Hid (left - (n : Int) - T k - s = left - (n : Int) - T (k + 1)) := by unfold Hid; rw [HT1.out]; omega
          rw [HZ.out] at HI1
          clear hneg HZ HT1 HT2
          have HK : Hid (T (k + 1) = T (k + 1)) := rfl
          generalize hz1 : left - (n : Int) - T (k + 1) = z at *
          generalize T k = tk at *
          go_wp2_with fail
          refine Calls.mono HI1 ?_
          rintro _ w1 ⟨rfl, hb1⟩
          have B1 := below_step hb1 B
          go_wp2
          go_roundw
          case rel => exact ⟨k + 1, by omega, by go_num, by rw [hz1], by rw [hz1]; exact hz, B1⟩
          case measure => simp [intOf]; omega
      · have hkn' : k = n := by omega
        subst hkn'
        have e1 := HA.out
        have hRy : left - (k : Int) - T k = R := by
          rw [← HR.out, szF_yes (by omega)]; push_cast; omega
        rw [hRy]
        clear hRy HR HA HTl HT HP HI hq
        go_wp2
        go_ret
        exact ⟨rfl, B⟩

set_option maxRecDepth 100000 in
set_option maxHeartbeats 1000000 in
theorem szPolicy_any (r : List E) (a : Option Addr) (cap : Nat) (left : Int) (w : World) (hs : LSrc 3 PE w a r) (hn : r.length ≤ 9223372036854775807) (hm : ∀ e ∈ r, e.rules.length ≤ 9223372036854775807 ∧ ∀ r ∈ e.rules, r.length ≤ 9223372036854775807) (h0 : 0 ≤ left) (h1 : left ≤ 1048576) :
    Calls Try.prog 17 #[.agg #[.slice a r.length cap], .int .i64 left] w fun e w' => e = .returned (.int .i64 (szF left (sizeP r))) ∧ Below w.heap.size w w' := by
  have HC : Hid (∀ w1, Below w.heap.size w w1 → Calls Try.prog 47 #[.slice a r.length cap, .int .i64 left] w1 fun e w' => e = .returned (.int .i64 (szF left (sizeP r))) ∧ Below w1.heap.size w1 w') := fun w1 hb => szEntryS_any r a cap left w1 (hs.below PE.stays hb) hn hm h0 h1
  have B : Below w.heap.size w (w.alloc (.cells #[.slice a r.length cap] 37)) := (Below.refl _ _).alloc (Nat.le_refl _) _
  clear hn hs hm
  generalize sizeP r = s at *
  generalize r.length = n at *
  by_cases h : left < s
  · rw [szF_no h] at HC ⊢
    clear h
    go_enter Try.func17, Try.ntmps17
    go_wp2_with fail
    refine (HC.out _ B).mono ?_
    rintro _ w1 ⟨rfl, hb1⟩
    have B1 := below_step hb1 B
    go_wp2
    go_ret
    exact ⟨rfl, B1⟩
  · rw [szF_yes h] at HC ⊢
    have hp : ¬ left - (s : Int) < 0 := by omega
    have hq : 0 ≤ left - (s : Int) := by omega
    clear h
    generalize left - (s : Int) = z at *
    go_enter Try.func17, Try.ntmps17
    go_wp2_with fail
    refine (HC.out _ B).mono ?_
    rintro _ w1 ⟨rfl, hb1⟩
    have B1 := below_step hb1 B
    go_wp2
    go_ret
    exact ⟨rfl, B1⟩
end Go.Proofs.Ytjkmcdgjhfiklaa
