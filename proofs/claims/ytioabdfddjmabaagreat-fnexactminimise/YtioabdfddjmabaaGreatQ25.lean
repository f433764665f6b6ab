/-
  PolZ, MrkE
-/
import Derived.Test.YtioabdfddjmabaaGreatQ03
import Derived.Test.YtioabdfddjmabaaGreatQ14
import Derived.Test.YtioabdfddjmabaaGreatQ23
import Derived.Test.YtioabdfddjmabaaGreatQ24
namespace Go.Proofs.YtioabdfddjmabaaGreat
open Go.RowKit
set_option linter.unusedVariables false

def sumBy {α : Type} (f : α → Nat) : List α → Nat
  | [] => 0
  | x :: l => f x + sumBy f l
theorem sumBy_take {α : Type} (f : α → Nat) {l : List α} {k : Nat} (h : k < l.length) (d : α) : sumBy f (l.take (k + 1)) = sumBy f (l.take k) + f (l.getD k d) := by
  induction l generalizing k with
  | nil => simp at h
  | cons x l ih =>
    cases k with
    | zero => simp [sumBy]
    | succ k =>
      have := ih (k := k) (by simpa using h)
      simp only [List.take_succ_cons, sumBy, List.getD_cons_succ] at *
      omega
theorem sumBy_take_le {α : Type} (f : α → Nat) (l : List α) (k : Nat) : sumBy f (l.take k) ≤ sumBy f l := by
  induction l generalizing k with
  | nil => simp
  | cons x l ih =>
    cases k with
    | zero => simp [sumBy]
    | succ k => have := ih k; simp only [List.take_succ_cons, sumBy]; omega
theorem sumBy_mem {α : Type} (f : α → Nat) {l : List α} {x : α} (h : x ∈ l) : f x ≤ sumBy f l := by
  induction l with
  | nil => simp at h
  | cons y l ih =>
    simp only [List.mem_cons] at h
    rcases h with rfl | h
    · simp [sumBy]
    · have := ih h; simp [sumBy]; omega
def sizeRs (l : List (List K)) : Nat := l.length + sumBy List.length l
def sizeE (e : E) : Nat := sizeRs e.rules
def sizeP (p : List E) : Nat := p.length + sumBy sizeE p
/-- what is left, or -1 -/
def szF (left : Int) (s : Nat) : Int := if left < s then -1 else left - s
theorem szF_no {left : Int} {s : Nat} (h : left < s) : szF left s = -1 := if_pos h
theorem szF_yes {left : Int} {s : Nat} (h : ¬ left < s) : szF left s = left - s := if_neg h

set_option maxHeartbeats 1000000 in
theorem szConS_any (a : Option Addr) (n cap : Nat) (left : Int) (w : World) (hn : n ≤ 9223372036854775807) (h0 : 0 ≤ left) (h1 : left ≤ 1048576) :
    Calls Tryz.prog 126 #[.slice a n cap, .int .i64 left] w fun e w' => e = .returned (.int .i64 (szF left n)) ∧ Below w.heap.size w w' := by
  by_cases h : left < n
  · rw [szF_no h]
    have h' : left - (n : Int) < 0 := by omega
    go_enter Tryz.func126, Tryz.ntmps126
    go_wp2
    go_ret
    exact ⟨rfl, Below.refl _ _⟩
  · rw [szF_yes h]
    have h' : ¬ left - (n : Int) < 0 := by omega
    go_enter Tryz.func126, Tryz.ntmps126
    go_wp2
    go_ret
    exact ⟨rfl, Below.refl _ _⟩

set_option maxRecDepth 100000 in
set_option maxHeartbeats 1000000 in
theorem szRule_any (r : List K) (a : Option Addr) (cap : Nat) (left : Int) (w : World) (hn : r.length ≤ 9223372036854775807) (h0 : 0 ≤ left) (h1 : left ≤ 1048576) :
    Calls Tryz.prog 103 #[.agg #[.slice a r.length cap], .int .i64 left] w fun e w' => e = .returned (.int .i64 (szF left r.length)) ∧ Below w.heap.size w w' := by
  have HC : Hid (∀ w1, Below w.heap.size w w1 → Calls Tryz.prog 126 #[.slice a r.length cap, .int .i64 left] w1 fun e w' => e = .returned (.int .i64 (szF left r.length)) ∧ Below w1.heap.size w1 w') := fun w1 hb => szConS_any a r.length cap left w1 hn h0 h1
  have B : Below w.heap.size w (w.alloc (.cells #[.slice a r.length cap] 150)) := (Below.refl _ _).alloc (Nat.le_refl _) _
  clear hn
  generalize r.length = s at *
  by_cases h : left < s
  · rw [szF_no h] at HC ⊢
    clear h
    go_enter Tryz.func103, Tryz.ntmps103
    go_wp2_with fail
    refine (HC.out _ B).mono ?_
    rintro _ w1 ⟨rfl, hb1⟩
    have B1 := below_step hb1 B
    go_wp2
    go_ret
    exact ⟨rfl, B1⟩
  · rw [szF_yes h] at HC ⊢
    have hp : ¬ left - (s : Int) < 0 := by omega
    have hq : 0 ≤ left - (s : Int) := by omega
    clear h
    generalize left - (s : Int) = z at *
    go_enter Tryz.func103, Tryz.ntmps103
    go_wp2_with fail
    refine (HC.out _ B).mono ?_
    rintro _ w1 ⟨rfl, hb1⟩
    have B1 := below_step hb1 B
    go_wp2
    go_ret
    exact ⟨rfl, B1⟩

set_option maxRecDepth 100000 in
set_option maxHeartbeats 2000000 in
theorem szRuleS_any (l : List (List K)) (a : Option Addr) (cap : Nat) (left : Int) (w : World) (hs : LSrc 1 PR w a l) (hn : l.length ≤ 9223372036854775807) (hm : ∀ r ∈ l, r.length ≤ 9223372036854775807) (h0 : 0 ≤ left) (h1 : left ≤ 1048576) :
    Calls Tryz.prog 80 #[.slice a l.length cap, .int .i64 left] w fun e w' => e = .returned (.int .i64 (szF left (l.length + sumBy List.length l))) ∧ Below w.heap.size w w' := by
  have HP : Hid (∀ wr, Below w.heap.size w wr → ∀ i, i < l.length → ∃ b o, a = some ⟨b, o, none⟩ ∧ b < wr.heap.size ∧ PR wr b (o + i * 1) (l.getD i [])) := fun wr hB i hi => (hs.below PR.stays hB).at hi []
  have HT : Hid (∀ i, i < l.length → sumBy List.length (l.take (i + 1)) = sumBy List.length (l.take i) + List.length (l.getD i [])) := fun i hi => sumBy_take List.length hi []
  have HTl : Hid (∀ i, sumBy List.length (l.take i) ≤ sumBy List.length l) := fun i => sumBy_take_le List.length l i
  have HA : Hid (sumBy List.length (l.take l.length) = sumBy List.length l) := by show _ = _; rw [List.take_length]
  have HI : Hid (∀ i, i < l.length → ∀ (w1 : World) (x : Int) (a2 : Option Addr) (cap2 : Nat), LSrc 3 PK w1 a2 (l.getD i []) → 0 ≤ x → x ≤ 1048576 → Calls Tryz.prog 103 #[.agg #[.slice a2 (l.getD i []).length cap2], .int .i64 x] w1 fun e w' => e = .returned (.int .i64 (szF x (List.length (l.getD i [])))) ∧ Below w1.heap.size w1 w') := fun i hi w1 x a2 cap2 hsrc hx0 hx1 => szRule_any _ a2 cap2 x w1 (hm _ (by rw [List.getD_eq_getElem?_getD, List.getElem?_eq_getElem hi]; exact List.getElem_mem hi)) hx0 hx1
  clear hs hm
  obtain ⟨T, hT⟩ : ∃ T : Nat → Nat, ∀ i, sumBy List.length (l.take i) = T i := ⟨_, fun _ => rfl⟩
  have H00 : Hid (T 0 = 0) := by unfold Hid; rw [← hT]; rfl
  simp only [hT] at HT HTl HA
  generalize sumBy List.length l = tt at *
  generalize l.length = n at *
  clear hT
  by_cases hb : left < n
  · rw [szF_no (by omega)]
    have h' : left - (n : Int) < 0 := by omega
    go_enter Tryz.func80, Tryz.ntmps80
    go_wp2
    go_ret
    exact ⟨rfl, Below.refl _ _⟩
  · have h' : ¬ left - (n : Int) < 0 := by omega
    have hb' : (n : Int) ≤ left := by omega
    obtain ⟨R, hR⟩ : ∃ R, szF left (n + tt) = R := ⟨_, rfl⟩
    have HR : Hid (szF left (n + tt) = R) := hR
    rw [hR]
    clear hR hb
    go_enter Tryz.func80, Tryz.ntmps80
    go_wp2_with fail
    go_loopw [1, 5] (fun q i wr => ∃ k : Nat, k ≤ n ∧ i = .int .i64 k ∧ q = .int .i64 (left - n - T k) ∧ 0 ≤ left - n - T k ∧ Below w.heap.size w wr) (fun _ i _ => n - (intOf i).toNat)
    case atStart => exact ⟨0, by omega, rfl, by rw [H00.out]; simp, by rw [H00.out]; omega, Below.refl _ _⟩
    case round =>
      obtain ⟨k, hk, rfl, rfl, hq, B⟩ := hrel
      by_cases hkn : k < n
      · obtain ⟨b, o, rfl, hlt, a2, cap2, c0, hsr⟩ := HP.out wr B k hkn
        have hkn' : (k : Int) < (n : Int) := by omega
        have HI1 := HI.out k hkn wr (left - n - T k) a2 cap2 hsr hq (by omega)
        have HT1 : Hid (T (k + 1) = T k + List.length (l.getD k [])) := HT.out k hkn
        have HT2 : Hid (T (k + 1) ≤ tt) := HTl.out (k + 1)
        rw [Nat.mul_one] at c0
        clear hsr HP HI HT HTl HA
        generalize l.getD k [] = e at *
        generalize List.length e = s at *
        by_cases hneg : left - (n : Int) - T k < s
        · rw [szF_no hneg] at HI1
          have hRn : R = -1 := by
            rw [← HR.out]
            have e1 := HT1.out
            have e2 := HT2.out
            exact szF_no (by omega)
          subst hRn
          clear hneg
          generalize T k = tk at *
          go_wp2_with fail
          refine Calls.mono HI1 ?_
          rintro _ w1 ⟨rfl, hb1⟩
          have B1 := below_step hb1 B
          go_wp2
          go_ret
          exact ⟨rfl, B1⟩
        · rw [szF_yes hneg] at HI1
          have hz : 0 ≤ left - (n : Int) - T (k + 1) := by rw [HT1.out]; omega
          have HZ : Hid (left - (n : Int) - T k - s = left - (n : Int) - T (k + 1)) := by unfold Hid; rw [HT1.out]; omega
          rw [HZ.out] at HI1
          clear hneg HZ HT1 HT2
          have HK : Hid (T (k + 1) = T (k + 1)) := rfl
          generalize hz1 : left - (n : Int) - T (k + 1) = z at *
          generalize T k = tk at *
          go_wp2_with fail
          refine Calls.mono HI1 ?_
          rintro _ w1 ⟨rfl, hb1⟩
          have B1 := below_step hb1 B
          go_wp2
          go_roundw
          case rel => exact ⟨k + 1, by omega, by go_num, by rw [hz1], by rw [hz1]; exact hz, B1⟩
          case measure => simp [intOf]; omega
      · have hkn' : k = n := by omega
        subst hkn'
        have e1 := HA.out
        have hRy : left - (k : Int) - T k = R := by
          rw [← HR.out, szF_yes (by omega)]; push_cast; omega
        rw [hRy]
        clear hRy HR HA HTl HT HP HI hq
        go_wp2
        go_ret
        exact ⟨rfl, B⟩
end Go.Proofs.YtioabdfddjmabaaGreat
namespace Go.Proofs.YtioabdfddjmabaaGreat
open Go.RowKit
set_option linter.unusedVariables false

theorem IntsAt.below {w w' : World} {A : List AdK} (h : IntsAt w A) (hb : Below w.heap.size w w') : IntsAt w' A := fun x hx => by
  obtain ⟨⟨n, h1⟩, h2⟩ := h x hx
  have hl := cell_ltM h1
  exact ⟨⟨n, (hb.cell hl).trans h1⟩, (hb.frozen hl).trans h2⟩
theorem SK.below {w w' : World} {a : Option Addr} {n : Nat} {A : List AdK} (h : SK w a n A) (s : Below w.heap.size w w') : SK w' a n A := by
  rcases h with h | ⟨b, o, h1, h2, h3⟩
  · exact .inl h
  · exact .inr ⟨b, o, h1, h2, h3.below s⟩
theorem SR.below {w w' : World} {a : Option Addr} {n : Nat} {A : List AdK} (h : SR w a n A) (s : Below w.heap.size w w') : SR w' a n A := by
  obtain ⟨hm, h⟩ := h
  rcases h with h | ⟨b, o, h1, F, h2, h3⟩
  · exact ⟨hm, .inl h⟩
  · refine ⟨hm, .inr ⟨b, o, h1, F, h2, fun i hi => ?_⟩⟩
    obtain ⟨a', n', c', h4, h5⟩ := h3 i hi
    exact ⟨a', n', c', cell_step s h4, h5.below s⟩
theorem SE.below {w w' : World} {a : Option Addr} {n : Nat} {A : List AdK} (h : SE w a n A) (s : Below w.heap.size w w') : SE w' a n A := by
  obtain ⟨hm, h⟩ := h
  rcases h with h | ⟨b, o, h1, F, h2, h3⟩
  · exact ⟨hm, .inl h⟩
  · refine ⟨hm, .inr ⟨b, o, h1, F, h2, fun i hi => ?_⟩⟩
    obtain ⟨h6, a', n', c', h4, h5⟩ := h3 i hi
    exact ⟨h6.below s, a', n', c', cell_step s h4, h5.below s⟩

/-! the copy -/
theorem copy_sk {L : Nat} {w : World} {a : Option Addr} {r : List K} (h : LSrcG L 3 PKF w a r) : ∃ A, SK w a r.length A ∧ (∀ x ∈ A, L ≤ x.1.block ∧ x.1.block < w.heap.size) ∧ A.length = r.length * 3 := by
  rcases h with rfl | ⟨b, o, rfl, hL, hlt, hc⟩
  · exact ⟨[], .inl ⟨rfl, rfl⟩, by simp, rfl⟩
  · refine ⟨conA b o r.length, .inr ⟨b, o, rfl, rfl, fun x hx => ?_⟩, fun x hx => by rw [(conA_mem hx).1]; exact ⟨hL, hlt⟩, conA_len _ _ _⟩
    obtain ⟨j, hj, hx⟩ := List.mem_flatMap.1 hx
    obtain ⟨⟨c0, c1, c2⟩, f0, f1, f2⟩ := hc j (List.mem_range.1 hj)
    simp only [a3, List.mem_cons, List.not_mem_nil, or_false] at hx
    rcases hx with rfl | rfl | rfl
    · exact ⟨⟨_, c0⟩, f0⟩
    · exact ⟨⟨_, c1⟩, f1⟩
    · exact ⟨⟨_, c2⟩, f2⟩
theorem copy_sr {L : Nat} {w : World} {a : Option Addr} {l : List (List K)} (h : LSrcG L 1 (PRG L) w a l) (hn : l.length ≤ 1048576) : ∃ A, SR w a l.length A ∧ (∀ x ∈ A, L ≤ x.1.block ∧ x.1.block < w.heap.size) ∧ A.length = sumBy List.length l * 3 := by
  rcases h with rfl | ⟨b, o, rfl, hL, hlt, hc⟩
  · exact ⟨[], ⟨by simp, .inl ⟨rfl, rfl⟩⟩, by simp, rfl⟩
  · have hch : ∀ i, ∃ A, i < l.length → ∃ a' c', w.cell? ⟨b, o + i, none⟩ = some (.slice a' (l.getD i []).length c') ∧ SK w a' (l.getD i []).length A ∧ (∀ x ∈ A, L ≤ x.1.block ∧ x.1.block < w.heap.size) ∧ A.length = (l.getD i []).length * 3 := by
      intro i
      by_cases hi : i < l.length
      · obtain ⟨a', c', h1, h2⟩ := hc i hi
        obtain ⟨A, g1, g2, g3⟩ := copy_sk h2
        have e : l.getD i [] = l[i] := by rw [List.getD_eq_getElem?_getD, List.getElem?_eq_getElem hi]; rfl
        rw [Nat.mul_one] at h1
        exact ⟨A, fun _ => by rw [e]; exact ⟨a', c', h1, g1, g2, g3⟩⟩
      · exact ⟨[], fun h => absurd h hi⟩
    obtain ⟨F, hF⟩ : ∃ F : Nat → List AdK, ∀ i, i < l.length → ∃ a' c', w.cell? ⟨b, o + i, none⟩ = some (.slice a' (l.getD i []).length c') ∧ SK w a' (l.getD i []).length (F i) ∧ (∀ x ∈ F i, L ≤ x.1.block ∧ x.1.block < w.heap.size) ∧ (F i).length = (l.getD i []).length * 3 := ⟨fun i => Classical.choose (hch i), fun i => Classical.choose_spec (hch i)⟩
    refine ⟨(List.range l.length).flatMap F, ⟨hn, .inr ⟨b, o, rfl, F, rfl, fun i hi => ?_⟩⟩, fun x hx => ?_, ?_⟩
    · obtain ⟨a', c', h1, h2, _⟩ := hF i hi
      exact ⟨a', _, c', h1, h2⟩
    · obtain ⟨i, hi, hx⟩ := List.mem_flatMap.1 hx
      obtain ⟨_, _, _, _, h3, _⟩ := hF i (List.mem_range.1 hi)
      exact h3 x hx
    · have key : ∀ n, n ≤ l.length → ((List.range n).flatMap F).length = sumBy List.length (l.take n) * 3 := by
        intro n
        induction n with
        | zero => intro _; simp [sumBy]
        | succ n ih =>
          intro hn
          obtain ⟨_, _, _, _, _, h4⟩ := hF n (by omega)
          rw [flat_succ, List.length_append, ih (by omega), h4, sumBy_take List.length (by omega) []]
          omega
      have := key l.length (Nat.le_refl _)
      rw [List.take_length] at this; exact this
theorem copy_se {L : Nat} {w : World} {a : Option Addr} {l : List E} (h : LSrcG L 3 (PEG L) w a l) (hn : sizeP l ≤ 1048576) : ∃ A, SE w a l.length A ∧ (∀ x ∈ A, L ≤ x.1.block ∧ x.1.block < w.heap.size) ∧ A.length ≤ 3145728 := by
  have hl : l.length ≤ 1048576 := by unfold sizeP at hn; omega
  rcases h with rfl | ⟨b, o, rfl, hL, hlt, hc⟩
  · exact ⟨[], ⟨by simp, .inl ⟨rfl, rfl⟩⟩, by simp, by simp⟩
  · have hsm : ∀ e ∈ l, e.rules.length ≤ 1048576 := fun e he => by
      have h1 : sizeE e ≤ sumBy sizeE l := sumBy_mem sizeE he
      have h2 : e.rules.length ≤ sizeE e := by unfold sizeE sizeRs; omega
      unfold sizeP at hn
      omega
    have hch : ∀ i, ∃ A, i < l.length → ∃ a' c', w.cell? ⟨b, o + i * 3 + 2, none⟩ = some (.slice a' (l.getD i E.zero).rules.length c') ∧ SR w a' (l.getD i E.zero).rules.length A ∧ (∀ x ∈ A, L ≤ x.1.block ∧ x.1.block < w.heap.size) ∧ A.length = sumBy List.length (l.getD i E.zero).rules * 3 := by
      intro i
      by_cases hi : i < l.length
      · obtain ⟨_, _, _, a', c', h1, h2⟩ := hc i hi
        obtain ⟨A, g1, g2, g3⟩ := copy_sr h2 (hsm _ (List.getElem_mem hi))
        have e : l.getD i E.zero = l[i] := by rw [List.getD_eq_getElem?_getD, List.getElem?_eq_getElem hi]; rfl
        exact ⟨A, fun _ => by rw [e]; exact ⟨a', c', h1, g1, g2, g3⟩⟩
      · exact ⟨[], fun h => absurd h hi⟩
    obtain ⟨F, hF⟩ : ∃ F : Nat → List AdK, ∀ i, i < l.length → ∃ a' c', w.cell? ⟨b, o + i * 3 + 2, none⟩ = some (.slice a' (l.getD i E.zero).rules.length c') ∧ SR w a' (l.getD i E.zero).rules.length (F i) ∧ (∀ x ∈ F i, L ≤ x.1.block ∧ x.1.block < w.heap.size) ∧ (F i).length = sumBy List.length (l.getD i E.zero).rules * 3 := ⟨fun i => Classical.choose (hch i), fun i => Classical.choose_spec (hch i)⟩
    refine ⟨entA b o F l.length, ⟨hl, .inr ⟨b, o, rfl, F, rfl, fun i hi => ?_⟩⟩, fun x hx => ?_, ?_⟩
    · obtain ⟨a', c', h1, h2, _⟩ := hF i hi
      obtain ⟨c0, c1, ⟨f0, f1⟩, _⟩ := hc i hi
      refine ⟨fun x hx => ?_, a', _, c', h1, h2⟩
      simp only [a2, List.mem_cons, List.not_mem_nil, or_false] at hx
      rcases hx with rfl | rfl
      · exact ⟨⟨_, c0⟩, f0⟩
      · exact ⟨⟨_, c1⟩, f1⟩
    · obtain ⟨i, hi, hx⟩ := List.mem_flatMap.1 hx
      obtain ⟨_, _, _, _, h3, _⟩ := hF i (List.mem_range.1 hi)
      rw [List.mem_append] at hx
      rcases hx with hx | hx
      · simp only [a2, List.mem_cons, List.not_mem_nil, or_false] at hx
        rcases hx with rfl | rfl <;> exact ⟨hL, hlt⟩
      · exact h3 x hx
    · have key : ∀ n, n ≤ l.length → (entA b o F n).length ≤ n * 2 + sumBy sizeE (l.take n) * 3 := by
        intro n
        induction n with
        | zero => intro _; simp [entA]
        | succ n ih =>
          intro hn
          obtain ⟨_, _, _, _, _, h4⟩ := hF n (by omega)
          have h5 := ih (by omega)
          rw [entA_succ, List.length_append, List.length_append, h4, sumBy_take sizeE (by omega) E.zero]
          simp only [a2, List.length_cons, List.length_nil, sizeE, sizeRs]
          omega
      have := key l.length (Nat.le_refl _)
      rw [List.take_length] at this
      unfold sizeP at hn
      omega

/-! what Minimise answers -/
def RelMin (p out : List E) : Prop := (validP p = true ∧ IsMin p out) ∨ (validP p = false ∧ out = [])
theorem RelMin.uniq {p out out' : List E} (h : RelMin p out) (h' : RelMin p out') : out = out' := by
  rcases h with ⟨h1, h2⟩ | ⟨h1, h2⟩ <;> rcases h' with ⟨k1, k2⟩ | ⟨k1, k2⟩
  · exact h2.uniq k2
  · rw [h1] at k1; cases k1
  · rw [h1] at k1; cases k1
  · rw [h2, k2]
theorem len_total {p : List E} (h : ∀ i, i < p.length → 1 ≤ (p.getD i E.zero).rules.length) : p.length ≤ totalR p := by
  induction p with
  | nil => simp [totalR]
  | cons e p ih =>
    have h0 := h 0 (by simp)
    have := ih (fun i hi => by have := h (i + 1) (by simpa using hi); simpa using this)
    simp only [List.length_cons, totalR]
    simp at h0
    omega
theorem valid_len {p : List E} (h : validP p = true) : p.length ≤ 1000 := by
  have h1 := len_total (p := p) fun i hi => (validE_parts (validP_parts h hi).1).1
  unfold validP at h
  simp only [Bool.and_eq_true, decide_eq_true_eq] at h
  omega
theorem RelMin.bounds {p out : List E} (ho : okP p) (h : RelMin p out) : out.length ≤ 1000 ∧ ∀ e ∈ out, e.rules.length ≤ 200 ∧ ∀ r ∈ e.rules, r.length = 6 := by
  rcases h with ⟨h1, h2⟩ | ⟨h1, rfl⟩
  · have f := h2.facts h1 ho
    refine ⟨valid_len f.valid, fun e he => ?_⟩
    obtain ⟨i, hi, rfl⟩ := List.getElem_of_mem he
    have e1 : out.getD i E.zero = out[i] := by rw [List.getD_eq_getElem?_getD, List.getElem?_eq_getElem hi]; rfl
    have h1 := validE_parts (validP_parts f.valid hi).1
    rw [e1] at h1
    exact ⟨h1.2.1, fun r hr => (vr_of ((f.ok _ he).2.2 r hr) (h1.2.2 r hr)).1⟩
  · exact ⟨by simp, by simp⟩
/-- the answer's own memory: from block lo to block hi -/
def GOwn (D D' : Nat) (w : World) (a : Option Addr) (c : Nat) (out : List E) : Prop := out = [] ∨ ∃ rv lo hi gb, OwnPs w D D (.slice a out.length c) out rv lo hi gb ∧ gb < D' ∧ ∀ i, i < out.length → hi i ≤ D'
theorem GOwn.far {D D' : Nat} {w w1 : World} {a : Option Addr} {c : Nat} {out : List E} (h : GOwn D D' w a c out) (hs : w.heap.size ≤ w1.heap.size) (hb : ∀ q, D ≤ q → q < D' → w1.heap[q]? = w.heap[q]?) : GOwn D D' w1 a c out := by
  rcases h with h | ⟨rv, lo, hi, gb, h1, h2, h3⟩
  · exact .inl h
  · have hg := h1.row.lt gb h1.ob
    refine .inr ⟨rv, lo, hi, gb, ⟨row_blockK h1.row (fun q hq => by rw [h1.ob] at hq; cases hq; exact hb _ hg.1 h2), h1.ob, fun i hi' => (h1.own i hi').far (fun k a b => hb k (by have := (h1.lt i hi').1; omega) (by have := h3 i hi'; omega)), fun i hi' => ⟨(h1.lt i hi').1, Nat.le_trans (h1.lt i hi').2 hs⟩, h1.out, h1.inc⟩, h2, h3⟩
theorem GOwn.keep {D D' : Nat} {w w1 : World} {a : Option Addr} {c : Nat} {out : List E} (h : GOwn D D' w a c out) (hD : D' ≤ w.heap.size) (hb : Below w.heap.size w w1) : GOwn D D' w1 a c out := h.far hb.size fun q _ hq => hb.block q (by omega)
theorem GOwn.read {D D' : Nat} {w : World} {a : Option Addr} {c : Nat} {out : List E} (h : GOwn D D' w a c out) (hn : out.length ≤ 1000) (hm : ∀ e ∈ out, e.rules.length ≤ 200 ∧ ∀ r ∈ e.rules, r.length = 6) : LSrc 3 PE w a out ∧ ∃ A, SE w a out.length A ∧ (A.map Prod.fst).Nodup ∧ (∀ x ∈ A, D ≤ x.1.block ∧ x.1.block < D') ∧ A.length ≤ 4000000 := by
  rcases h with rfl | ⟨rv, lo, hi, gb, h1, h2, h3⟩
  · exact ⟨.inl rfl, [], ⟨by simp, .inl ⟨rfl, rfl⟩⟩, by simp, by simp, by simp⟩
  · obtain ⟨a', cap, A, e, g1, g2, g3, g4, g5⟩ := ownPs_se h1 hn hm
    cases e
    refine ⟨g5, A, g1, g2, fun x hx => ?_, g4⟩
    rcases g3 x hx with q | ⟨i, q1, q2, q3⟩
    · rw [q]; exact ⟨(h1.row.lt gb h1.ob).1, h2⟩
    · have := (h1.lt i q1).1
      have := h3 i q1
      exact ⟨by omega, by omega⟩
def SpecM (p : List E) (w : World) (e : Ending) (w' : World) : Prop := ∃ a cap out, RelMin p out ∧ e = .returned (.agg #[.slice a out.length cap]) ∧ LSrc 3 PE w' a out ∧ Below w.heap.size w w'
def ImplM (p : List E) (w : World) (e : Ending) (w' : World) : Prop := ∃ a cap out, RelMin p out ∧ e = .returned (.agg #[.slice a out.length cap]) ∧ GOwn w.heap.size w'.heap.size w' a cap out ∧ Below w.heap.size w w'
theorem specMin_any (p : List E) (a : Option Addr) (cap : Nat) (w : World) (hs : LSrc 3 PE w a p) (ho : okP p) (hn : p.length ≤ 16777216) (hm : ∀ e ∈ p, e.rules.length ≤ 16777216) (hm2 : ∀ e ∈ p, ∀ r ∈ e.rules, r.length ≤ 16777216) :
    Calls Tryz.prog 12 #[.agg #[.slice a p.length cap]] w fun e w' => SpecM p w e w' := by
  cases hv : validP p with
  | true => exact (specMin_yes p a cap w hs ho hv (valid_len hv)).mono fun e w' ⟨a2, c2, out, h1, h2, h3, h4⟩ => ⟨a2, c2, out, .inl ⟨hv, h1⟩, h2, h3, h4⟩
  | false => exact (specMin_no p a cap w hs ho hv hn hm hm2).mono fun e w' ⟨h1, h2⟩ => ⟨none, 0, [], .inr ⟨hv, rfl⟩, h1, .inl rfl, h2⟩

set_option maxRecDepth 100000 in
set_option maxHeartbeats 2000000 in
theorem implMin_no (p : List E) (a : Option Addr) (cap : Nat) (w : World) (hs : LSrc 3 PE w a p) (ho : okP p) (hv : validP p = false) (hn : p.length ≤ 16777216) (hm : ∀ e ∈ p, e.rules.length ≤ 16777216) (hm2 : ∀ e ∈ p, ∀ r ∈ e.rules, r.length ≤ 16777216) :
    Calls Tryz.prog 7 #[.agg #[.slice a p.length cap]] w fun e w' => e = .returned (.agg #[.slice none 0 0]) ∧ Below w.heap.size w w' := by
  have HV : Hid (∀ w1, Below w.heap.size w w1 → Calls Tryz.prog 23 #[.agg #[.slice a p.length cap]] w1 fun e w' => e = .returned (.bool false) ∧ Below w1.heap.size w1 w') := fun w1 hb => by
    have := implValidP_any p a cap w1 (hs.below PE.stays hb) ho hn hm hm2
    rw [hv] at this; exact this
  have B2 : Below w.heap.size w ((w.alloc (.cells #[.slice a p.length cap] 25)).alloc (.cells #[.slice none 0 0] 25)) := ((Below.refl _ _).alloc (Nat.le_refl _) _).alloc (by simp) _
  have q0 := box1 (w.alloc (.cells #[.slice a p.length cap] 25)) 25 (.slice none 0 0)
  have q2 : ((w.alloc (.cells #[.slice a p.length cap] 25)).alloc (.cells #[.slice none 0 0] 25)).frozen? ⟨(w.alloc (.cells #[.slice a p.length cap] 25)).heap.size, 0, none⟩ = false := by simp
  rw [show (w.alloc (.cells #[.slice a p.length cap] 25)).heap.size = w.heap.size + 1 by simp] at q0 q2
  have q1 : ((w.alloc (.cells #[.slice a p.length cap] 25)).alloc (.cells #[.slice none 0 0] 25)).cell? ⟨w.heap.size, 0, none⟩ = some (.slice a p.length cap) := cell_step ((Below.refl _ _).alloc (Nat.le_refl _) _) (box1 w 25 (.slice a p.length cap))
  clear hs ho hv hm hm2
  generalize p.length = n at *
  go_enter Tryz.func7, Tryz.ntmps7
  go_wp2_with fail
  generalize (w.alloc (.cells #[.slice a n cap] 25)).alloc (.cells #[.slice none 0 0] 25) = W2 at *
  refine (HV.out W2 B2).mono ?_
  rintro _ w1 ⟨rfl, hb1⟩
  have B1 := below_step hb1 B2
  have c0 := cell_step hb1 q0
  have f0 : w1.frozen? ⟨w.heap.size + 1, 0, none⟩ = false := (hb1.frozen (p := ⟨w.heap.size + 1, 0, none⟩) (cell_ltM q0)).trans q2
  clear q0 q1 q2 hb1 B2 HV
  go_wp2
  exact bodyPost_ret (v := .agg #[.slice none 0 0]) (by simp [results, Tryz.results7, go_sem, c0]) rfl ⟨rfl, B1.setCell (p := ⟨w.heap.size + 1, 0, none⟩) (show w.heap.size ≤ w.heap.size + 1 by omega) _⟩
theorem implMin_any (p : List E) (a : Option Addr) (cap : Nat) (w : World) (hs : LSrc 3 PE w a p) (ho : okP p) (hn : p.length ≤ 16777216) (hm : ∀ e ∈ p, e.rules.length ≤ 16777216) (hm2 : ∀ e ∈ p, ∀ r ∈ e.rules, r.length ≤ 16777216) :
    Calls Tryz.prog 7 #[.agg #[.slice a p.length cap]] w fun e w' => ImplM p w e w' := by
  cases hv : validP p with
  | true =>
    refine (implMin_yes p a cap w hs ho hv (valid_len hv)).mono ?_
    rintro e w' ⟨v, out, rv, lo, hi, gb, h1, h2, h3, h4⟩
    obtain ⟨cv, rfl⟩ : ∃ cv, v = .slice (some ⟨gb, 0, none⟩) out.length cv := by
      have ho := h3.ob
      obtain ⟨_, h | ⟨g, cap, cur, e, _⟩⟩ := h3.row
      · rw [h.1] at ho; cases ho
      · have : g = gb := by rw [e] at ho; simpa [Value.ownBlock] using ho
        subst this
        exact ⟨cap, e⟩
    exact ⟨_, cv, out, .inl ⟨hv, h1⟩, h2, .inr ⟨rv, lo, hi, gb, h3, (h3.row.lt gb h3.ob).2, fun i hi' => (h3.lt i hi').2⟩, h4⟩
  | false => exact (implMin_no p a cap w hs ho hv hn hm hm2).mono fun e w' ⟨h1, h2⟩ => ⟨none, 0, [], .inr ⟨hv, rfl⟩, h1, .inl rfl, h2⟩
end Go.Proofs.YtioabdfddjmabaaGreat
