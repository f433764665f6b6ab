/-
  MrkF, PolW, PolEq, PolEr
-/
import Derived.Test.YtoopomjkapeknaaQ23
import Derived.Test.YtoopomjkapeknaaQ24
import Derived.Test.YtoopomjkapeknaaQ08
namespace Go.Proofs.Ytoopomjkapeknaa
open Go.RowKit
set_option linter.unusedVariables false

theorem conA_mem {b o n : Nat} {x : AdK} (h : x ∈ conA b o n) : x.1.block = b ∧ o ≤ x.1.off ∧ x.1.off < o + n * 3 := by
  obtain ⟨j, hj, hx⟩ := List.mem_flatMap.1 h
  have hj' := List.mem_range.1 hj
  simp only [a3, List.mem_cons, List.not_mem_nil, or_false] at hx
  rcases hx with rfl | rfl | rfl <;> refine ⟨rfl, ?_, ?_⟩ <;> simp only <;> omega
theorem IntsAt.below {w w' : World} {A : List AdK} (h : IntsAt w A) (hb : Below w.heap.size w w') : IntsAt w' A := fun x hx => by
  obtain ⟨⟨n, h1⟩, h2⟩ := h x hx
  have hl := cell_ltK h1
  exact ⟨⟨n, (hb.cell hl).trans h1⟩, (hb.frozen hl).trans h2⟩
theorem SK.below {w w' : World} {a : Option Addr} {n : Nat} {A : List AdK} (h : SK w a n A) (s : Below w.heap.size w w') : SK w' a n A := by
  rcases h with h | ⟨b, o, h1, h2, h3⟩
  · exact .inl h
  · exact .inr ⟨b, o, h1, h2, h3.below s⟩
theorem SR.below {w w' : World} {a : Option Addr} {n : Nat} {A : List AdK} (h : SR w a n A) (s : Below w.heap.size w w') : SR w' a n A := by
  obtain ⟨hm, h⟩ := h
  rcases h with h | ⟨b, o, h1, F, h2, h3⟩
  · exact ⟨hm, .inl h⟩
  · refine ⟨hm, .inr ⟨b, o, h1, F, h2, fun i hi => ?_⟩⟩
    obtain ⟨a', n', c', h4, h5⟩ := h3 i hi
    exact ⟨a', n', c', cell_step s h4, h5.below s⟩
theorem SE.below {w w' : World} {a : Option Addr} {n : Nat} {A : List AdK} (h : SE w a n A) (s : Below w.heap.size w w') : SE w' a n A := by
  obtain ⟨hm, h⟩ := h
  rcases h with h | ⟨b, o, h1, F, h2, h3⟩
  · exact ⟨hm, .inl h⟩
  · refine ⟨hm, .inr ⟨b, o, h1, F, h2, fun i hi => ?_⟩⟩
    obtain ⟨h6, a', n', c', h4, h5⟩ := h3 i hi
    exact ⟨h6.below s, a', n', c', cell_step s h4, h5.below s⟩

/-! the copy -/
theorem copy_sk {L : Nat} {w : World} {a : Option Addr} {r : List K} (h : LSrcG L 3 PKF w a r) : ∃ A, SK w a r.length A ∧ (∀ x ∈ A, L ≤ x.1.block ∧ x.1.block < w.heap.size) ∧ A.length = r.length * 3 := by
  rcases h with rfl | ⟨b, o, rfl, hL, hlt, hc⟩
  · exact ⟨[], .inl ⟨rfl, rfl⟩, by simp, rfl⟩
  · refine ⟨conA b o r.length, .inr ⟨b, o, rfl, rfl, fun x hx => ?_⟩, fun x hx => by rw [(conA_mem hx).1]; exact ⟨hL, hlt⟩, conA_len _ _ _⟩
    obtain ⟨j, hj, hx⟩ := List.mem_flatMap.1 hx
    obtain ⟨⟨c0, c1, c2⟩, f0, f1, f2⟩ := hc j (List.mem_range.1 hj)
    simp only [a3, List.mem_cons, List.not_mem_nil, or_false] at hx
    rcases hx with rfl | rfl | rfl
    · exact ⟨⟨_, c0⟩, f0⟩
    · exact ⟨⟨_, c1⟩, f1⟩
    · exact ⟨⟨_, c2⟩, f2⟩
theorem copy_sr {L : Nat} {w : World} {a : Option Addr} {l : List (List K)} (h : LSrcG L 1 (PRG L) w a l) (hn : l.length ≤ 1048576) : ∃ A, SR w a l.length A ∧ (∀ x ∈ A, L ≤ x.1.block ∧ x.1.block < w.heap.size) ∧ A.length = sumBy List.length l * 3 := by
  rcases h with rfl | ⟨b, o, rfl, hL, hlt, hc⟩
  · exact ⟨[], ⟨by simp, .inl ⟨rfl, rfl⟩⟩, by simp, rfl⟩
  · have hch : ∀ i, ∃ A, i < l.length → ∃ a' c', w.cell? ⟨b, o + i, none⟩ = some (.slice a' (l.getD i []).length c') ∧ SK w a' (l.getD i []).length A ∧ (∀ x ∈ A, L ≤ x.1.block ∧ x.1.block < w.heap.size) ∧ A.length = (l.getD i []).length * 3 := by
      intro i
      by_cases hi : i < l.length
      · obtain ⟨a', c', h1, h2⟩ := hc i hi
        obtain ⟨A, g1, g2, g3⟩ := copy_sk h2
        have e : l.getD i [] = l[i] := by rw [List.getD_eq_getElem?_getD, List.getElem?_eq_getElem hi]; rfl
        rw [Nat.mul_one] at h1
        exact ⟨A, fun _ => by rw [e]; exact ⟨a', c', h1, g1, g2, g3⟩⟩
      · exact ⟨[], fun h => absurd h hi⟩
    obtain ⟨F, hF⟩ : ∃ F : Nat → List AdK, ∀ i, i < l.length → ∃ a' c', w.cell? ⟨b, o + i, none⟩ = some (.slice a' (l.getD i []).length c') ∧ SK w a' (l.getD i []).length (F i) ∧ (∀ x ∈ F i, L ≤ x.1.block ∧ x.1.block < w.heap.size) ∧ (F i).length = (l.getD i []).length * 3 := ⟨fun i => Classical.choose (hch i), fun i => Classical.choose_spec (hch i)⟩
    refine ⟨(List.range l.length).flatMap F, ⟨hn, .inr ⟨b, o, rfl, F, rfl, fun i hi => ?_⟩⟩, fun x hx => ?_, ?_⟩
    · obtain ⟨a', c', h1, h2, _⟩ := hF i hi
      exact ⟨a', _, c', h1, h2⟩
    · obtain ⟨i, hi, hx⟩ := List.mem_flatMap.1 hx
      obtain ⟨_, _, _, _, h3, _⟩ := hF i (List.mem_range.1 hi)
      exact h3 x hx
    · have key : ∀ n, n ≤ l.length → ((List.range n).flatMap F).length = sumBy List.length (l.take n) * 3 := by
        intro n
        induction n with
        | zero => intro _; simp [sumBy]
        | succ n ih =>
          intro hn
          obtain ⟨_, _, _, _, _, h4⟩ := hF n (by omega)
          rw [flat_succ, List.length_append, ih (by omega), h4, sumBy_take List.length (by omega) []]
          omega
      have := key l.length (Nat.le_refl _)
      rw [List.take_length] at this; exact this
theorem copy_se {L : Nat} {w : World} {a : Option Addr} {l : List E} (h : LSrcG L 3 (PEG L) w a l) (hn : sizeP l ≤ 1048576) : ∃ A, SE w a l.length A ∧ (∀ x ∈ A, L ≤ x.1.block ∧ x.1.block < w.heap.size) ∧ A.length ≤ 3145728 := by
  have hl : l.length ≤ 1048576 := by unfold sizeP at hn; omega
  rcases h with rfl | ⟨b, o, rfl, hL, hlt, hc⟩
  · exact ⟨[], ⟨by simp, .inl ⟨rfl, rfl⟩⟩, by simp, by simp⟩
  · have hsm : ∀ e ∈ l, e.rules.length ≤ 1048576 := fun e he => by
      have h1 : sizeE e ≤ sumBy sizeE l := sumBy_mem sizeE he
      have h2 : e.rules.length ≤ sizeE e := by unfold sizeE sizeRs; omega
      unfold sizeP at hn
      omega
    have hch : ∀ i, ∃ A, i < l.length → ∃ a' c', w.cell? ⟨b, o + i * 3 + 2, none⟩ = some (.slice a' (l.getD i E.zero).rules.length c') ∧ SR w a' (l.getD i E.zero).rules.length A ∧ (∀ x ∈ A, L ≤ x.1.block ∧ x.1.block < w.heap.size) ∧ A.length = sumBy List.length (l.getD i E.zero).rules * 3 := by
      intro i
      by_cases hi : i < l.length
      · obtain ⟨_, _, _, a', c', h1, h2, _⟩ := hc i hi
        obtain ⟨A, g1, g2, g3⟩ := copy_sr h2 (hsm _ (List.getElem_mem hi))
        have e : l.getD i E.zero = l[i] := by rw [List.getD_eq_getElem?_getD, List.getElem?_eq_getElem hi]; rfl
        exact ⟨A, fun _ => by rw [e]; exact ⟨a', c', h1, g1, g2, g3⟩⟩
      · exact ⟨[], fun h => absurd h hi⟩
    obtain ⟨F, hF⟩ : ∃ F : Nat → List AdK, ∀ i, i < l.length → ∃ a' c', w.cell? ⟨b, o + i * 3 + 2, none⟩ = some (.slice a' (l.getD i E.zero).rules.length c') ∧ SR w a' (l.getD i E.zero).rules.length (F i) ∧ (∀ x ∈ F i, L ≤ x.1.block ∧ x.1.block < w.heap.size) ∧ (F i).length = sumBy List.length (l.getD i E.zero).rules * 3 := ⟨fun i => Classical.choose (hch i), fun i => Classical.choose_spec (hch i)⟩
    refine ⟨entA b o F l.length, ⟨hl, .inr ⟨b, o, rfl, F, rfl, fun i hi => ?_⟩⟩, fun x hx => ?_, ?_⟩
    · obtain ⟨a', c', h1, h2, _⟩ := hF i hi
      obtain ⟨c0, c1, ⟨f0, f1⟩, _⟩ := hc i hi
      refine ⟨fun x hx => ?_, a', _, c', h1, h2⟩
      simp only [a2, List.mem_cons, List.not_mem_nil, or_false] at hx
      rcases hx with rfl | rfl
      · exact ⟨⟨_, c0⟩, f0⟩
      · exact ⟨⟨_, c1⟩, f1⟩
    · obtain ⟨i, hi, hx⟩ := List.mem_flatMap.1 hx
      obtain ⟨_, _, _, _, h3, _⟩ := hF i (List.mem_range.1 hi)
      rw [List.mem_append] at hx
      rcases hx with hx | hx
      · simp only [a2, List.mem_cons, List.not_mem_nil, or_false] at hx
        rcases hx with rfl | rfl <;> exact ⟨hL, hlt⟩
      · exact h3 x hx
    · have key : ∀ n, n ≤ l.length → (entA b o F n).length ≤ n * 2 + sumBy sizeE (l.take n) * 3 := by
        intro n
        induction n with
        | zero => intro _; simp [entA]
        | succ n ih =>
          intro hn
          obtain ⟨_, _, _, _, _, h4⟩ := hF n (by omega)
          have h5 := ih (by omega)
          rw [entA_succ, List.length_append, List.length_append, h4, sumBy_take sizeE (by omega) E.zero]
          simp only [a2, List.length_cons, List.length_nil, sizeE, sizeRs]
          omega
      have := key l.length (Nat.le_refl _)
      rw [List.take_length] at this
      unfold sizeP at hn
      omega

end Go.Proofs.Ytoopomjkapeknaa
namespace Go.Proofs.Ytoopomjkapeknaa
open Go.RowKit
set_option linter.unusedVariables false

set_option maxRecDepth 100000 in
set_option maxHeartbeats 1000000 in
theorem szEntry_any (e : E) (a : Option Addr) (cap : Nat) (left : Int) (w : World) (hs : LSrc 1 PR w a e.rules) (hn : e.rules.length ≤ 9223372036854775807) (hm : ∀ r ∈ e.rules, r.length ≤ 9223372036854775807) (h0 : 0 ≤ left) (h1 : left ≤ 1048576) :
    Calls Try.prog 24 #[.agg #[.int .u32 e.arch, .int .u32 e.nr, .slice a e.rules.length cap], .int .i64 left] w fun x w' => x = .returned (.int .i64 (szF left (sizeE e))) ∧ Below w.heap.size w w' := by
  have HC : Hid (∀ w1, Below w.heap.size w w1 → Calls Try.prog 47 #[.slice a e.rules.length cap, .int .i64 left] w1 fun x w' => x = .returned (.int .i64 (szF left (sizeE e))) ∧ Below w1.heap.size w1 w') := fun w1 hb => szRuleS_any e.rules a cap left w1 (hs.below PR.stays hb) hn hm h0 h1
  have B : Below w.heap.size w (w.alloc (.cells #[.int .u32 e.arch, .int .u32 e.nr, .slice a e.rules.length cap] 57)) := (Below.refl _ _).alloc (Nat.le_refl _) _
  clear hn hs hm
  generalize sizeE e = s at *
  generalize e.rules.length = n at *
  by_cases h : left < s
  · rw [szF_no h] at HC ⊢
    clear h
    go_enter Try.func24, Try.ntmps24
    go_wp2_with fail
    refine (HC.out _ B).mono ?_
    rintro _ w1 ⟨rfl, hb1⟩
    have B1 := below_step hb1 B
    go_wp2
    go_ret
    exact ⟨rfl, B1⟩
  · rw [szF_yes h] at HC ⊢
    have hp : ¬ left - (s : Int) < 0 := by omega
    have hq : 0 ≤ left - (s : Int) := by omega
    clear h
    generalize left - (s : Int) = z at *
    go_enter Try.func24, Try.ntmps24
    go_wp2_with fail
    refine (HC.out _ B).mono ?_
    rintro _ w1 ⟨rfl, hb1⟩
    have B1 := below_step hb1 B
    go_wp2
    go_ret
    exact ⟨rfl, B1⟩

set_option maxRecDepth 100000 in
set_option maxHeartbeats 2000000 in
theorem szEntryS_any (l : List E) (a : Option Addr) (cap : Nat) (left : Int) (w : World) (hs : LSrc 3 PE w a l) (hn : l.length ≤ 9223372036854775807) (hm : ∀ e ∈ l, e.rules.length ≤ 9223372036854775807 ∧ ∀ r ∈ e.rules, r.length ≤ 9223372036854775807) (h0 : 0 ≤ left) (h1 : left ≤ 1048576) :
    Calls Try.prog 13 #[.slice a l.length cap, .int .i64 left] w fun e w' => e = .returned (.int .i64 (szF left (l.length + sumBy sizeE l))) ∧ Below w.heap.size w w' := by
  have HP : Hid (∀ wr, Below w.heap.size w wr → ∀ i, i < l.length → ∃ b o, a = some ⟨b, o, none⟩ ∧ b < wr.heap.size ∧ PE wr b (o + i * 3) (l.getD i E.zero)) := fun wr hB i hi => (hs.below PE.stays hB).at hi E.zero
  have HT : Hid (∀ i, i < l.length → sumBy sizeE (l.take (i + 1)) = sumBy sizeE (l.take i) + sizeE (l.getD i E.zero)) := fun i hi => sumBy_take sizeE hi E.zero
  have HTl : Hid (∀ i, sumBy sizeE (l.take i) ≤ sumBy sizeE l) := fun i => sumBy_take_le sizeE l i
  have HA : Hid (sumBy sizeE (l.take l.length) = sumBy sizeE l) := by show _ = _; rw [List.take_length]
  have HI : Hid (∀ i, i < l.length → ∀ (w1 : World) (x : Int) (a2 : Option Addr) (cap2 : Nat), LSrc 1 PR w1 a2 (l.getD i E.zero).rules → 0 ≤ x → x ≤ 1048576 → Calls Try.prog 24 #[.agg #[.int .u32 (l.getD i E.zero).arch, .int .u32 (l.getD i E.zero).nr, .slice a2 (l.getD i E.zero).rules.length cap2], .int .i64 x] w1 fun e w' => e = .returned (.int .i64 (szF x (sizeE (l.getD i E.zero)))) ∧ Below w1.heap.size w1 w') := fun i hi w1 x a2 cap2 hsrc hx0 hx1 => by
    have he : l.getD i E.zero ∈ l := by rw [List.getD_eq_getElem?_getD, List.getElem?_eq_getElem hi]; exact List.getElem_mem hi
    exact szEntry_any _ a2 cap2 x w1 hsrc (hm _ he).1 (hm _ he).2 hx0 hx1
  clear hs hm
  obtain ⟨T, hT⟩ : ∃ T : Nat → Nat, ∀ i, sumBy sizeE (l.take i) = T i := ⟨_, fun _ => rfl⟩
  have H00 : Hid (T 0 = 0) := by unfold Hid; rw [← hT]; rfl
  simp only [hT] at HT HTl HA
  generalize sumBy sizeE l = tt at *
  generalize l.length = n at *
  clear hT
  by_cases hb : left < n
  · rw [szF_no (by omega)]
    have h' : left - (n : Int) < 0 := by omega
    go_enter Try.func13, Try.ntmps13
    go_wp2
    go_ret
    exact ⟨rfl, Below.refl _ _⟩
  · have h' : ¬ left - (n : Int) < 0 := by omega
    have hb' : (n : Int) ≤ left := by omega
    obtain ⟨R, hR⟩ : ∃ R, szF left (n + tt) = R := ⟨_, rfl⟩
    have HR : Hid (szF left (n + tt) = R) := hR
    rw [hR]
    clear hR hb
    go_enter Try.func13, Try.ntmps13
    go_wp2_with fail
    go_loopw [1, 5] (fun q i wr => ∃ k : Nat, k ≤ n ∧ i = .int .i64 k ∧ q = .int .i64 (left - n - T k) ∧ 0 ≤ left - n - T k ∧ Below w.heap.size w wr) (fun _ i _ => n - (intOf i).toNat)
    case atStart => exact ⟨0, by omega, rfl, by rw [H00.out]; simp, by rw [H00.out]; omega, Below.refl _ _⟩
    case round =>
      obtain ⟨k, hk, rfl, rfl, hq, B⟩ := hrel
      by_cases hkn : k < n
      · obtain ⟨b, o, rfl, hlt, c0, c1, a2, cap2, c2, hsr⟩ := HP.out wr B k hkn
        have hkn' : (k : Int) < (n : Int) := by omega
        have HI1 := HI.out k hkn wr (left - n - T k) a2 cap2 hsr hq (by omega)
        have HT1 : Hid (T (k + 1) = T k + sizeE (l.getD k E.zero)) := HT.out k hkn
        have HT2 : Hid (T (k + 1) ≤ tt) := HTl.out (k + 1)
        clear hsr HP HI HT HTl HA
        generalize l.getD k E.zero = e at *
        generalize sizeE e = s at *
        generalize e.rules.length = mm at *
        by_cases hneg : left - (n : Int) - T k < s
        · rw [szF_no hneg] at HI1
          have hRn : R = -1 := by
            rw [← HR.out]
            have e1 := HT1.out
            have e2 := HT2.out
            exact szF_no (by omega)
          subst hRn
          clear hneg
          generalize T k = tk at *
          go_wp2_with fail
          refine Calls.mono HI1 ?_
          rintro _ w1 ⟨rfl, hb1⟩
          have B1 := below_step hb1 B
          go_wp2
          go_ret
          exact ⟨rfl, B1⟩
        · rw [szF_yes hneg] at HI1
          have hz : 0 ≤ left - (n : Int) - T (k + 1) := by rw [HT1.out]; omega
          have HZ : Hid (left - (n : Int) - T k - s = left - (n : Int) - T (k + 1)) := by unfold Hid; rw [HT1.out]; omega
          rw [HZ.out] at HI1
          clear hneg HZ HT1 HT2
          have HK : Hid (T (k + 1) = T (k + 1)) := rfl
          generalize hz1 : left - (n : Int) - T (k + 1) = z at *
          generalize T k = tk at *
          go_wp2_with fail
          refine Calls.mono HI1 ?_
          rintro _ w1 ⟨rfl, hb1⟩
          have B1 := below_step hb1 B
          go_wp2
          go_roundw
          case rel => exact ⟨k + 1, by omega, by go_num, by rw [hz1], by rw [hz1]; exact hz, B1⟩
          case measure => simp [intOf]; omega
      · have hkn' : k = n := by omega
        subst hkn'
        have e1 := HA.out
        have hRy : left - (k : Int) - T k = R := by
          rw [← HR.out, szF_yes (by omega)]; push_cast; omega
        rw [hRy]
        clear hRy HR HA HTl HT HP HI hq
        go_wp2
        go_ret
        exact ⟨rfl, B⟩

set_option maxRecDepth 100000 in
set_option maxHeartbeats 1000000 in
theorem szPolicy_any (r : List E) (a : Option Addr) (cap : Nat) (left : Int) (w : World) (hs : LSrc 3 PE w a r) (hn : r.length ≤ 9223372036854775807) (hm : ∀ e ∈ r, e.rules.length ≤ 9223372036854775807 ∧ ∀ r ∈ e.rules, r.length ≤ 9223372036854775807) (h0 : 0 ≤ left) (h1 : left ≤ 1048576) :
    Calls Try.prog 4 #[.agg #[.slice a r.length cap], .int .i64 left] w fun e w' => e = .returned (.int .i64 (szF left (sizeP r))) ∧ Below w.heap.size w w' := by
  have HC : Hid (∀ w1, Below w.heap.size w w1 → Calls Try.prog 13 #[.slice a r.length cap, .int .i64 left] w1 fun e w' => e = .returned (.int .i64 (szF left (sizeP r))) ∧ Below w1.heap.size w1 w') := fun w1 hb => szEntryS_any r a cap left w1 (hs.below PE.stays hb) hn hm h0 h1
  have B : Below w.heap.size w (w.alloc (.cells #[.slice a r.length cap] 24)) := (Below.refl _ _).alloc (Nat.le_refl _) _
  clear hn hs hm
  generalize sizeP r = s at *
  generalize r.length = n at *
  by_cases h : left < s
  · rw [szF_no h] at HC ⊢
    clear h
    go_enter Try.func4, Try.ntmps4
    go_wp2_with fail
    refine (HC.out _ B).mono ?_
    rintro _ w1 ⟨rfl, hb1⟩
    have B1 := below_step hb1 B
    go_wp2
    go_ret
    exact ⟨rfl, B1⟩
  · rw [szF_yes h] at HC ⊢
    have hp : ¬ left - (s : Int) < 0 := by omega
    have hq : 0 ≤ left - (s : Int) := by omega
    clear h
    generalize left - (s : Int) = z at *
    go_enter Try.func4, Try.ntmps4
    go_wp2_with fail
    refine (HC.out _ B).mono ?_
    rintro _ w1 ⟨rfl, hb1⟩
    have B1 := below_step hb1 B
    go_wp2
    go_ret
    exact ⟨rfl, B1⟩
end Go.Proofs.Ytoopomjkapeknaa
namespace Go.Proofs.Ytoopomjkapeknaa
open Go.RowKit
set_option linter.unusedVariables false

set_option maxRecDepth 100000 in
set_option maxHeartbeats 4000000 in
theorem eqConS_any (l : List K) (a a' : Option Addr) (cap cap' : Nat) (w : World) (hs : LSrc 3 PK w a l) (hs' : LSrc 3 PK w a' l) (hn : l.length ≤ 16777216) :
    Calls Try.prog 80 #[.slice a l.length cap, .slice a' l.length cap'] w fun e w' => e = .returned (.bool true) ∧ Below w.heap.size w w' := by
  have HP : Hid (∀ wr, Below w.heap.size w wr → ∀ i, i < l.length → ∃ b o, a = some ⟨b, o, none⟩ ∧ b < wr.heap.size ∧ PK wr b (o + i * 3) (l.getD i K.zero)) := fun wr hB i hi => (hs.below PK.stays hB).at hi K.zero
  have HP' : Hid (∀ wr, Below w.heap.size w wr → ∀ i, i < l.length → ∃ b o, a' = some ⟨b, o, none⟩ ∧ b < wr.heap.size ∧ PK wr b (o + i * 3) (l.getD i K.zero)) := fun wr hB i hi => (hs'.below PK.stays hB).at hi K.zero
  clear hs hs'
  generalize l.length = n at *
  go_enter Try.func80, Try.ntmps80
  go_wp2_with fail
  go_loopw [5] (fun i wr => ∃ k : Nat, k ≤ n ∧ i = .int .i64 k ∧ Below w.heap.size w wr) (fun i _ => n - (intOf i).toNat)
  case atStart => exact ⟨0, by omega, rfl, Below.refl _ _⟩
  case round =>
    obtain ⟨k, hk, rfl, B⟩ := hrel
    by_cases hkn : k < n
    · obtain ⟨b, o, rfl, hlt, c0, c1, c2⟩ := HP.out wr B k hkn
      obtain ⟨b', o', rfl, hlt', d0, d1, d2⟩ := HP'.out wr B k hkn
      have hkn' : (k : Int) < (n : Int) := by omega
      have HC : Hid (∀ w1, Calls Try.prog 83 #[conV (l.getD k K.zero), conV (l.getD k K.zero)] w1 fun e w' => e = .returned (.bool true) ∧ Below w1.heap.size w1 w') := fun w1 => eqCon_same _ w1
      generalize l.getD k K.zero = c at *
      obtain ⟨ck, ca, cb⟩ := c
      simp only [conV] at c0 c1 c2 d0 d1 d2 HC
      clear HP HP'
      go_wp2_with fail
      go_region_with (go_at_call 83; refine (HC.out _).mono ?_; rintro e w1 ⟨rfl, hb1⟩)
      all_goals
        have B1 := below_step hb1 B.drew
        go_wp2
        go_roundw
        case rel => exact ⟨k + 1, by omega, by go_num, B1⟩
        case measure => simp [intOf]; omega
    · go_wp2
      go_ret
      exact ⟨rfl, B⟩

set_option maxRecDepth 100000 in
set_option maxHeartbeats 2000000 in
theorem eqRule_any (r : List K) (a a' : Option Addr) (cap cap' : Nat) (w : World) (hs : LSrc 3 PK w a r) (hs' : LSrc 3 PK w a' r) (hn : r.length ≤ 16777216) :
    Calls Try.prog 75 #[.agg #[.slice a r.length cap], .agg #[.slice a' r.length cap']] w fun e w' => e = .returned (.bool true) ∧ Below w.heap.size w w' := by
  have HC : Hid (∀ w1, Below w.heap.size w w1 → Calls Try.prog 80 #[.slice a r.length cap, .slice a' r.length cap'] w1 fun e w' => e = .returned (.bool true) ∧ Below w1.heap.size w1 w') := fun w1 hb => eqConS_any r a a' cap cap' w1 (hs.below PK.stays hb) (hs'.below PK.stays hb) hn
  have B : Below w.heap.size w ((w.alloc (.cells #[.slice a r.length cap] 64)).alloc (.cells #[.slice a' r.length cap'] 64)) := ((Below.refl _ _).alloc (Nat.le_refl _) _).alloc (by simp) _
  clear hs hs'
  generalize r.length = n at *
  go_enter Try.func75, Try.ntmps75
  go_wp2_with fail
  refine (HC.out _ B).mono ?_
  rintro _ w1 ⟨rfl, hb1⟩
  have B1 := below_step hb1 B
  go_wp2
  go_ret
  exact ⟨rfl, B1⟩

set_option maxRecDepth 100000 in
set_option maxHeartbeats 4000000 in
theorem eqRuleS_any (l : List (List K)) (a a' : Option Addr) (cap cap' : Nat) (w : World) (hs : LSrc 1 PR w a l) (hs' : LSrc 1 PR w a' l) (hn : l.length ≤ 16777216) (hm : ∀ r ∈ l, r.length ≤ 16777216) :
    Calls Try.prog 64 #[.slice a l.length cap, .slice a' l.length cap'] w fun e w' => e = .returned (.bool true) ∧ Below w.heap.size w w' := by
  have HP : Hid (∀ wr, Below w.heap.size w wr → ∀ i, i < l.length → ∃ b o, a = some ⟨b, o, none⟩ ∧ b < wr.heap.size ∧ PR wr b (o + i * 1) (l.getD i [])) := fun wr hB i hi => (hs.below PR.stays hB).at hi []
  have HP' : Hid (∀ wr, Below w.heap.size w wr → ∀ i, i < l.length → ∃ b o, a' = some ⟨b, o, none⟩ ∧ b < wr.heap.size ∧ PR wr b (o + i * 1) (l.getD i [])) := fun wr hB i hi => (hs'.below PR.stays hB).at hi []
  have HI : Hid (∀ i, i < l.length → (l.getD i []).length ≤ 16777216) := fun i hi => hm _ (by rw [List.getD_eq_getElem?_getD, List.getElem?_eq_getElem hi]; exact List.getElem_mem hi)
  clear hs hs' hm
  generalize l.length = n at *
  go_enter Try.func64, Try.ntmps64
  go_wp2_with fail
  go_loopw [5] (fun i wr => ∃ k : Nat, k ≤ n ∧ i = .int .i64 k ∧ Below w.heap.size w wr) (fun i _ => n - (intOf i).toNat)
  case atStart => exact ⟨0, by omega, rfl, Below.refl _ _⟩
  case round =>
    obtain ⟨k, hk, rfl, B⟩ := hrel
    by_cases hkn : k < n
    · obtain ⟨b, o, rfl, hlt, a2, cap2, c0, hsr⟩ := HP.out wr B k hkn
      obtain ⟨b', o', rfl, hlt', a3, cap3, d0, hsr'⟩ := HP'.out wr B k hkn
      have hkn' : (k : Int) < (n : Int) := by omega
      have hml := HI.out k hkn
      have HC : Hid (∀ w1, Below wr.heap.size wr w1 → Calls Try.prog 75 #[.agg #[.slice a2 (l.getD k []).length cap2], .agg #[.slice a3 (l.getD k []).length cap3]] w1 fun e w' => e = .returned (.bool true) ∧ Below w1.heap.size w1 w') := fun w1 hb => eqRule_any _ a2 a3 cap2 cap3 w1 (hsr.below PK.stays hb) (hsr'.below PK.stays hb) hml
      have HC1 : Hid (Calls Try.prog 75 #[.agg #[.slice a2 (l.getD k []).length cap2], .agg #[.slice a3 (l.getD k []).length cap3]] wr.drew fun e w' => e = .returned (.bool true) ∧ Below wr.drew.heap.size wr.drew w') := HC.out wr.drew (Below.refl _ _).drew
      rw [Nat.mul_one] at c0 d0
      generalize (l.getD k []).length = m at *
      clear HP HP' HI hsr hsr' HC
      go_wp2_with fail
      go_region_with (go_at_call 75; refine (HC1.out).mono ?_; rintro e w1 ⟨rfl, hb1⟩)
      all_goals
        have B1 := below_step hb1 B.drew
        go_wp2
        go_roundw
        case rel => exact ⟨k + 1, by omega, by go_num, B1⟩
        case measure => simp [intOf]; omega
    · go_wp2
      go_ret
      exact ⟨rfl, B⟩
end Go.Proofs.Ytoopomjkapeknaa
namespace Go.Proofs.Ytoopomjkapeknaa
open Go.RowKit
set_option linter.unusedVariables false

set_option maxRecDepth 100000 in
set_option maxHeartbeats 2000000 in
theorem eqEntry_any (e : E) (a a' : Option Addr) (cap cap' : Nat) (w : World) (hs : LSrc 1 PR w a e.rules) (hs' : LSrc 1 PR w a' e.rules) (hn : e.rules.length ≤ 16777216) (hm : ∀ r ∈ e.rules, r.length ≤ 16777216) :
    Calls Try.prog 45 #[.agg #[.int .u32 e.arch, .int .u32 e.nr, .slice a e.rules.length cap], .agg #[.int .u32 e.arch, .int .u32 e.nr, .slice a' e.rules.length cap']] w fun e w' => e = .returned (.bool true) ∧ Below w.heap.size w w' := by
  have HC : Hid (∀ w1, Below w.heap.size w w1 → Calls Try.prog 64 #[.slice a e.rules.length cap, .slice a' e.rules.length cap'] w1 fun e w' => e = .returned (.bool true) ∧ Below w1.heap.size w1 w') := fun w1 hb => eqRuleS_any e.rules a a' cap cap' w1 (hs.below PR.stays hb) (hs'.below PR.stays hb) hn hm
  have B : Below w.heap.size w ((w.alloc (.cells #[.int .u32 e.arch, .int .u32 e.nr, .slice a e.rules.length cap] 60)).alloc (.cells #[.int .u32 e.arch, .int .u32 e.nr, .slice a' e.rules.length cap'] 60)) := ((Below.refl _ _).alloc (Nat.le_refl _) _).alloc (by simp) _
  clear hs hs' hn hm
  generalize e.rules.length = n at *
  go_enter Try.func45, Try.ntmps45
  go_wp2_with fail
  refine (HC.out _ B).mono ?_
  rintro _ w1 ⟨rfl, hb1⟩
  have B1 := below_step hb1 B
  go_wp2
  go_ret
  exact ⟨rfl, B1⟩

set_option maxRecDepth 100000 in
set_option maxHeartbeats 4000000 in
theorem eqEntryS_any (l : List E) (a a' : Option Addr) (cap cap' : Nat) (w : World) (hs : LSrc 3 PE w a l) (hs' : LSrc 3 PE w a' l) (hn : l.length ≤ 16777216) (hm : ∀ e ∈ l, e.rules.length ≤ 16777216 ∧ ∀ r ∈ e.rules, r.length ≤ 16777216) :
    Calls Try.prog 22 #[.slice a l.length cap, .slice a' l.length cap'] w fun e w' => e = .returned (.bool true) ∧ Below w.heap.size w w' := by
  have HP : Hid (∀ wr, Below w.heap.size w wr → ∀ i, i < l.length → ∃ b o, a = some ⟨b, o, none⟩ ∧ b < wr.heap.size ∧ PE wr b (o + i * 3) (l.getD i E.zero)) := fun wr hB i hi => (hs.below PE.stays hB).at hi E.zero
  have HP' : Hid (∀ wr, Below w.heap.size w wr → ∀ i, i < l.length → ∃ b o, a' = some ⟨b, o, none⟩ ∧ b < wr.heap.size ∧ PE wr b (o + i * 3) (l.getD i E.zero)) := fun wr hB i hi => (hs'.below PE.stays hB).at hi E.zero
  have HI : Hid (∀ i, i < l.length → (l.getD i E.zero).rules.length ≤ 16777216 ∧ ∀ r ∈ (l.getD i E.zero).rules, r.length ≤ 16777216) := fun i hi => hm _ (by rw [List.getD_eq_getElem?_getD, List.getElem?_eq_getElem hi]; exact List.getElem_mem hi)
  clear hs hs' hm
  generalize l.length = n at *
  go_enter Try.func22, Try.ntmps22
  go_wp2_with fail
  go_loopw [5] (fun i wr => ∃ k : Nat, k ≤ n ∧ i = .int .i64 k ∧ Below w.heap.size w wr) (fun i _ => n - (intOf i).toNat)
  case atStart => exact ⟨0, by omega, rfl, Below.refl _ _⟩
  case round =>
    obtain ⟨k, hk, rfl, B⟩ := hrel
    by_cases hkn : k < n
    · obtain ⟨b, o, rfl, hlt, c0, c1, a2, cap2, c2, hsr⟩ := HP.out wr B k hkn
      obtain ⟨b', o', rfl, hlt', d0, d1, a3, cap3, d2, hsr'⟩ := HP'.out wr B k hkn
      have hkn' : (k : Int) < (n : Int) := by omega
      obtain ⟨hml, hmr⟩ := HI.out k hkn
      have HC1 : Hid (Calls Try.prog 45 #[.agg #[.int .u32 (l.getD k E.zero).arch, .int .u32 (l.getD k E.zero).nr, .slice a2 (l.getD k E.zero).rules.length cap2], .agg #[.int .u32 (l.getD k E.zero).arch, .int .u32 (l.getD k E.zero).nr, .slice a3 (l.getD k E.zero).rules.length cap3]] wr.drew fun e w' => e = .returned (.bool true) ∧ Below wr.drew.heap.size wr.drew w') := eqEntry_any _ a2 a3 cap2 cap3 wr.drew (hsr.below PR.stays (Below.refl _ _).drew) (hsr'.below PR.stays (Below.refl _ _).drew) hml hmr
      clear HP HP' HI hsr hsr' hml hmr
      generalize (l.getD k E.zero).rules.length = m at *
      generalize (l.getD k E.zero).arch = ea at *
      generalize (l.getD k E.zero).nr = en at *
      go_wp2_with fail
      go_region_with (go_at_call 45; refine (HC1.out).mono ?_; rintro e w1 ⟨rfl, hb1⟩)
      all_goals
        have B1 := below_step hb1 B.drew
        go_wp2
        go_roundw
        case rel => exact ⟨k + 1, by omega, by go_num, B1⟩
        case measure => simp [intOf]; omega
    · go_wp2
      go_ret
      exact ⟨rfl, B⟩

set_option maxRecDepth 100000 in
set_option maxHeartbeats 2000000 in
theorem eqPolicy_any (r : List E) (a a' : Option Addr) (cap cap' : Nat) (w : World) (hs : LSrc 3 PE w a r) (hs' : LSrc 3 PE w a' r) (hn : r.length ≤ 16777216) (hm : ∀ e ∈ r, e.rules.length ≤ 16777216 ∧ ∀ c ∈ e.rules, c.length ≤ 16777216) :
    Calls Try.prog 9 #[.agg #[.slice a r.length cap], .agg #[.slice a' r.length cap']] w fun e w' => e = .returned (.bool true) ∧ Below w.heap.size w w' := by
  have HC : Hid (∀ w1, Below w.heap.size w w1 → Calls Try.prog 22 #[.slice a r.length cap, .slice a' r.length cap'] w1 fun e w' => e = .returned (.bool true) ∧ Below w1.heap.size w1 w') := fun w1 hb => eqEntryS_any r a a' cap cap' w1 (hs.below PE.stays hb) (hs'.below PE.stays hb) hn hm
  have B : Below w.heap.size w ((w.alloc (.cells #[.slice a r.length cap] 31)).alloc (.cells #[.slice a' r.length cap'] 31)) := ((Below.refl _ _).alloc (Nat.le_refl _) _).alloc (by simp) _
  clear hs hs' hn hm
  generalize r.length = n at *
  go_enter Try.func9, Try.ntmps9
  go_wp2_with fail
  refine (HC.out _ B).mono ?_
  rintro _ w1 ⟨rfl, hb1⟩
  have B1 := below_step hb1 B
  go_wp2
  go_ret
  exact ⟨rfl, B1⟩
end Go.Proofs.Ytoopomjkapeknaa
