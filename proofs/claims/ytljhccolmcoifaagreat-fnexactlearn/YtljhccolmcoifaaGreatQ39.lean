/-
  PolY, PolZ, MrkF, MrkD, MinY
-/
import Derived.Test.YtljhccolmcoifaaGreatQ38
import Derived.Test.YtljhccolmcoifaaGreatQ14
import Derived.Test.YtljhccolmcoifaaGreatQ35
import Derived.Test.YtljhccolmcoifaaGreatQ16
import Derived.Test.YtljhccolmcoifaaGreatQ15
namespace Go.Proofs.YtljhccolmcoifaaGreat
open Go.RowKit
set_option linter.unusedVariables false

end Go.Proofs.YtljhccolmcoifaaGreat
namespace Go.Proofs.YtljhccolmcoifaaGreat
open Go.RowKit
set_option linter.unusedVariables false

def sumBy {α : Type} (f : α → Nat) : List α → Nat
  | [] => 0
  | x :: l => f x + sumBy f l
theorem sumBy_take {α : Type} (f : α → Nat) {l : List α} {k : Nat} (h : k < l.length) (d : α) : sumBy f (l.take (k + 1)) = sumBy f (l.take k) + f (l.getD k d) := by
  induction l generalizing k with
  | nil => simp at h
  | cons x l ih =>
    cases k with
    | zero => simp [sumBy]
    | succ k =>
      have := ih (k := k) (by simpa using h)
      simp only [List.take_succ_cons, sumBy, List.getD_cons_succ] at *
      omega
theorem sumBy_take_le {α : Type} (f : α → Nat) (l : List α) (k : Nat) : sumBy f (l.take k) ≤ sumBy f l := by
  induction l generalizing k with
  | nil => simp
  | cons x l ih =>
    cases k with
    | zero => simp [sumBy]
    | succ k => have := ih k; simp only [List.take_succ_cons, sumBy]; omega
theorem sumBy_mem {α : Type} (f : α → Nat) {l : List α} {x : α} (h : x ∈ l) : f x ≤ sumBy f l := by
  induction l with
  | nil => simp at h
  | cons y l ih =>
    simp only [List.mem_cons] at h
    rcases h with rfl | h
    · simp [sumBy]
    · have := ih h; simp [sumBy]; omega
def sizeRs (l : List (List K)) : Nat := l.length + sumBy List.length l
def sizeE (e : E) : Nat := sizeRs e.rules
def sizeP (p : List E) : Nat := p.length + sumBy sizeE p
/-- what is left, or -1 -/
def szF (left : Int) (s : Nat) : Int := if left < s then -1 else left - s
theorem szF_no {left : Int} {s : Nat} (h : left < s) : szF left s = -1 := if_pos h
theorem szF_yes {left : Int} {s : Nat} (h : ¬ left < s) : szF left s = left - s := if_neg h

end Go.Proofs.YtljhccolmcoifaaGreat
namespace Go.Proofs.YtljhccolmcoifaaGreat
open Go.RowKit
set_option linter.unusedVariables false

theorem conA_mem {b o n : Nat} {x : AdK} (h : x ∈ conA b o n) : x.1.block = b ∧ o ≤ x.1.off ∧ x.1.off < o + n * 3 := by
  obtain ⟨j, hj, hx⟩ := List.mem_flatMap.1 h
  have hj' := List.mem_range.1 hj
  simp only [a3, List.mem_cons, List.not_mem_nil, or_false] at hx
  rcases hx with rfl | rfl | rfl <;> refine ⟨rfl, ?_, ?_⟩ <;> simp only <;> omega
theorem IntsAt.below {w w' : World} {A : List AdK} (h : IntsAt w A) (hb : Below w.heap.size w w') : IntsAt w' A := fun x hx => by
  obtain ⟨⟨n, h1⟩, h2⟩ := h x hx
  have hl := cell_ltK h1
  exact ⟨⟨n, (hb.cell hl).trans h1⟩, (hb.frozen hl).trans h2⟩
theorem SK.below {w w' : World} {a : Option Addr} {n : Nat} {A : List AdK} (h : SK w a n A) (s : Below w.heap.size w w') : SK w' a n A := by
  rcases h with h | ⟨b, o, h1, h2, h3⟩
  · exact .inl h
  · exact .inr ⟨b, o, h1, h2, h3.below s⟩
theorem SR.below {w w' : World} {a : Option Addr} {n : Nat} {A : List AdK} (h : SR w a n A) (s : Below w.heap.size w w') : SR w' a n A := by
  obtain ⟨hm, h⟩ := h
  rcases h with h | ⟨b, o, h1, F, h2, h3⟩
  · exact ⟨hm, .inl h⟩
  · refine ⟨hm, .inr ⟨b, o, h1, F, h2, fun i hi => ?_⟩⟩
    obtain ⟨a', n', c', h4, h5⟩ := h3 i hi
    exact ⟨a', n', c', cell_step s h4, h5.below s⟩
theorem SE.below {w w' : World} {a : Option Addr} {n : Nat} {A : List AdK} (h : SE w a n A) (s : Below w.heap.size w w') : SE w' a n A := by
  obtain ⟨hm, h⟩ := h
  rcases h with h | ⟨b, o, h1, F, h2, h3⟩
  · exact ⟨hm, .inl h⟩
  · refine ⟨hm, .inr ⟨b, o, h1, F, h2, fun i hi => ?_⟩⟩
    obtain ⟨h6, a', n', c', h4, h5⟩ := h3 i hi
    exact ⟨h6.below s, a', n', c', cell_step s h4, h5.below s⟩

/-! the copy -/
theorem copy_sk {L : Nat} {w : World} {a : Option Addr} {r : List K} (h : LSrcG L 3 PKF w a r) : ∃ A, SK w a r.length A ∧ (∀ x ∈ A, L ≤ x.1.block ∧ x.1.block < w.heap.size) ∧ A.length = r.length * 3 := by
  rcases h with rfl | ⟨b, o, rfl, hL, hlt, hc⟩
  · exact ⟨[], .inl ⟨rfl, rfl⟩, by simp, rfl⟩
  · refine ⟨conA b o r.length, .inr ⟨b, o, rfl, rfl, fun x hx => ?_⟩, fun x hx => by rw [(conA_mem hx).1]; exact ⟨hL, hlt⟩, conA_len _ _ _⟩
    obtain ⟨j, hj, hx⟩ := List.mem_flatMap.1 hx
    obtain ⟨⟨c0, c1, c2⟩, f0, f1, f2⟩ := hc j (List.mem_range.1 hj)
    simp only [a3, List.mem_cons, List.not_mem_nil, or_false] at hx
    rcases hx with rfl | rfl | rfl
    · exact ⟨⟨_, c0⟩, f0⟩
    · exact ⟨⟨_, c1⟩, f1⟩
    · exact ⟨⟨_, c2⟩, f2⟩
theorem copy_sr {L : Nat} {w : World} {a : Option Addr} {l : List (List K)} (h : LSrcG L 1 (PRG L) w a l) (hn : l.length ≤ 1048576) : ∃ A, SR w a l.length A ∧ (∀ x ∈ A, L ≤ x.1.block ∧ x.1.block < w.heap.size) ∧ A.length = sumBy List.length l * 3 := by
  rcases h with rfl | ⟨b, o, rfl, hL, hlt, hc⟩
  · exact ⟨[], ⟨by simp, .inl ⟨rfl, rfl⟩⟩, by simp, rfl⟩
  · have hch : ∀ i, ∃ A, i < l.length → ∃ a' c', w.cell? ⟨b, o + i, none⟩ = some (.slice a' (l.getD i []).length c') ∧ SK w a' (l.getD i []).length A ∧ (∀ x ∈ A, L ≤ x.1.block ∧ x.1.block < w.heap.size) ∧ A.length = (l.getD i []).length * 3 := by
      intro i
      by_cases hi : i < l.length
      · obtain ⟨a', c', h1, h2⟩ := hc i hi
        obtain ⟨A, g1, g2, g3⟩ := copy_sk h2
        have e : l.getD i [] = l[i] := by rw [List.getD_eq_getElem?_getD, List.getElem?_eq_getElem hi]; rfl
        rw [Nat.mul_one] at h1
        exact ⟨A, fun _ => by rw [e]; exact ⟨a', c', h1, g1, g2, g3⟩⟩
      · exact ⟨[], fun h => absurd h hi⟩
    obtain ⟨F, hF⟩ : ∃ F : Nat → List AdK, ∀ i, i < l.length → ∃ a' c', w.cell? ⟨b, o + i, none⟩ = some (.slice a' (l.getD i []).length c') ∧ SK w a' (l.getD i []).length (F i) ∧ (∀ x ∈ F i, L ≤ x.1.block ∧ x.1.block < w.heap.size) ∧ (F i).length = (l.getD i []).length * 3 := ⟨fun i => Classical.choose (hch i), fun i => Classical.choose_spec (hch i)⟩
    refine ⟨(List.range l.length).flatMap F, ⟨hn, .inr ⟨b, o, rfl, F, rfl, fun i hi => ?_⟩⟩, fun x hx => ?_, ?_⟩
    · obtain ⟨a', c', h1, h2, _⟩ := hF i hi
      exact ⟨a', _, c', h1, h2⟩
    · obtain ⟨i, hi, hx⟩ := List.mem_flatMap.1 hx
      obtain ⟨_, _, _, _, h3, _⟩ := hF i (List.mem_range.1 hi)
      exact h3 x hx
    · have key : ∀ n, n ≤ l.length → ((List.range n).flatMap F).length = sumBy List.length (l.take n) * 3 := by
        intro n
        induction n with
        | zero => intro _; simp [sumBy]
        | succ n ih =>
          intro hn
          obtain ⟨_, _, _, _, _, h4⟩ := hF n (by omega)
          rw [flat_succ, List.length_append, ih (by omega), h4, sumBy_take List.length (by omega) []]
          omega
      have := key l.length (Nat.le_refl _)
      rw [List.take_length] at this; exact this
theorem copy_se {L : Nat} {w : World} {a : Option Addr} {l : List E} (h : LSrcG L 3 (PEG L) w a l) (hn : sizeP l ≤ 1048576) : ∃ A, SE w a l.length A ∧ (∀ x ∈ A, L ≤ x.1.block ∧ x.1.block < w.heap.size) ∧ A.length ≤ 3145728 := by
  have hl : l.length ≤ 1048576 := by unfold sizeP at hn; omega
  rcases h with rfl | ⟨b, o, rfl, hL, hlt, hc⟩
  · exact ⟨[], ⟨by simp, .inl ⟨rfl, rfl⟩⟩, by simp, by simp⟩
  · have hsm : ∀ e ∈ l, e.rules.length ≤ 1048576 := fun e he => by
      have h1 : sizeE e ≤ sumBy sizeE l := sumBy_mem sizeE he
      have h2 : e.rules.length ≤ sizeE e := by unfold sizeE sizeRs; omega
      unfold sizeP at hn
      omega
    have hch : ∀ i, ∃ A, i < l.length → ∃ a' c', w.cell? ⟨b, o + i * 3 + 2, none⟩ = some (.slice a' (l.getD i E.zero).rules.length c') ∧ SR w a' (l.getD i E.zero).rules.length A ∧ (∀ x ∈ A, L ≤ x.1.block ∧ x.1.block < w.heap.size) ∧ A.length = sumBy List.length (l.getD i E.zero).rules * 3 := by
      intro i
      by_cases hi : i < l.length
      · obtain ⟨_, _, _, a', c', h1, h2, _⟩ := hc i hi
        obtain ⟨A, g1, g2, g3⟩ := copy_sr h2 (hsm _ (List.getElem_mem hi))
        have e : l.getD i E.zero = l[i] := by rw [List.getD_eq_getElem?_getD, List.getElem?_eq_getElem hi]; rfl
        exact ⟨A, fun _ => by rw [e]; exact ⟨a', c', h1, g1, g2, g3⟩⟩
      · exact ⟨[], fun h => absurd h hi⟩
    obtain ⟨F, hF⟩ : ∃ F : Nat → List AdK, ∀ i, i < l.length → ∃ a' c', w.cell? ⟨b, o + i * 3 + 2, none⟩ = some (.slice a' (l.getD i E.zero).rules.length c') ∧ SR w a' (l.getD i E.zero).rules.length (F i) ∧ (∀ x ∈ F i, L ≤ x.1.block ∧ x.1.block < w.heap.size) ∧ (F i).length = sumBy List.length (l.getD i E.zero).rules * 3 := ⟨fun i => Classical.choose (hch i), fun i => Classical.choose_spec (hch i)⟩
    refine ⟨entA b o F l.length, ⟨hl, .inr ⟨b, o, rfl, F, rfl, fun i hi => ?_⟩⟩, fun x hx => ?_, ?_⟩
    · obtain ⟨a', c', h1, h2, _⟩ := hF i hi
      obtain ⟨c0, c1, ⟨f0, f1⟩, _⟩ := hc i hi
      refine ⟨fun x hx => ?_, a', _, c', h1, h2⟩
      simp only [a2, List.mem_cons, List.not_mem_nil, or_false] at hx
      rcases hx with rfl | rfl
      · exact ⟨⟨_, c0⟩, f0⟩
      · exact ⟨⟨_, c1⟩, f1⟩
    · obtain ⟨i, hi, hx⟩ := List.mem_flatMap.1 hx
      obtain ⟨_, _, _, _, h3, _⟩ := hF i (List.mem_range.1 hi)
      rw [List.mem_append] at hx
      rcases hx with hx | hx
      · simp only [a2, List.mem_cons, List.not_mem_nil, or_false] at hx
        rcases hx with rfl | rfl <;> exact ⟨hL, hlt⟩
      · exact h3 x hx
    · have key : ∀ n, n ≤ l.length → (entA b o F n).length ≤ n * 2 + sumBy sizeE (l.take n) * 3 := by
        intro n
        induction n with
        | zero => intro _; simp [entA]
        | succ n ih =>
          intro hn
          obtain ⟨_, _, _, _, _, h4⟩ := hF n (by omega)
          have h5 := ih (by omega)
          rw [entA_succ, List.length_append, List.length_append, h4, sumBy_take sizeE (by omega) E.zero]
          simp only [a2, List.length_cons, List.length_nil, sizeE, sizeRs]
          omega
      have := key l.length (Nat.le_refl _)
      rw [List.take_length] at this
      unfold sizeP at hn
      omega

end Go.Proofs.YtljhccolmcoifaaGreat
namespace Go.Proofs.YtljhccolmcoifaaGreat
open Go.RowKit
set_option linter.unusedVariables false

theorem kc_get (l : List K) (i : Nat) (h : i < l.length) : (kCells l)[i * 3]? = some (.int .i64 l[i].kind) ∧ (kCells l)[i * 3 + 1]? = some (.int .u64 (l[i].a : Int)) ∧ (kCells l)[i * 3 + 2]? = some (.int .u64 (l[i].b : Int)) := by
  induction l generalizing i with
  | nil => simp at h
  | cons x p ih =>
    have e : kCells (x :: p) = [.int .i64 x.kind, .int .u64 (x.a : Int), .int .u64 (x.b : Int)] ++ kCells p := by simp [kCells]
    rw [e]
    match i with
    | 0 => simp
    | i + 1 =>
      have hi : i < p.length := by simpa using h
      have := ih i hi
      rw [List.getElem?_append_right (by simp; omega), List.getElem?_append_right (by simp; omega), List.getElem?_append_right (by simp; omega)]
      simp only [List.length_cons, List.length_nil]
      rw [show (i + 1) * 3 - (0 + 1 + 1 + 1) = i * 3 by omega, show (i + 1) * 3 + 1 - (0 + 1 + 1 + 1) = i * 3 + 1 by omega, show (i + 1) * 3 + 2 - (0 + 1 + 1 + 1) = i * 3 + 2 by omega]
      simpa using this
/-- the addresses are apart, all of one block, from offset o on -/
theorem a3_apart {b o : Nat} : ((a3 b o).map Prod.fst).Nodup := by
  simp [a3]
theorem conA_nodup (b o : Nat) : ∀ n, ((conA b o n).map Prod.fst).Nodup
  | 0 => by simp [conA]
  | n + 1 => by
    rw [conA_succ, List.map_append, List.nodup_append]
    refine ⟨conA_nodup b o n, a3_apart, fun x hx y hy => ?_⟩
    obtain ⟨p, hp, rfl⟩ := List.mem_map.1 hx
    have h1 := conA_mem hp
    obtain ⟨q, hq, rfl⟩ := List.mem_map.1 hy
    intro e
    simp only [a3, List.mem_cons, List.not_mem_nil, or_false] at hq
    rw [e] at h1
    rcases hq with rfl | rfl | rfl <;> simp only at h1 <;> omega
/-- a rule's own conditions -/
theorem ownsK_sk {w : World} {B q : Nat} {v : Value} {l : List K} (h : ownsK w B v l) (hq : v.ownBlock = some q) : ∃ cap, v = .slice (some ⟨q, 0, none⟩) l.length cap ∧ SK w (some ⟨q, 0, none⟩) l.length (conA q 0 l.length) ∧ LAt 3 PK w q 0 l ∧ q < w.heap.size := by
  have h0 := h
  have hlt := h.lt q hq
  obtain ⟨_, h | ⟨g, cap, cur, rfl, hb, hg, hr⟩⟩ := h
  · rw [h.1] at hq; cases hq
  · have : g = q := by simpa [Value.ownBlock] using hq
    subst this
    have key := fun j (hj : j < l.length * 3) => World.ownsRow.cellAt h0 j hj
    have frz := fun j => World.ownsRow.frozenAt h0 j
    refine ⟨cap, rfl, .inr ⟨g, 0, rfl, rfl, fun x hx => ?_⟩, fun i hi => ?_, hlt.2⟩
    · obtain ⟨j, hj, hx⟩ := List.mem_flatMap.1 hx
      have hj' := List.mem_range.1 hj
      obtain ⟨c0, c1, c2⟩ := kc_get l j hj'
      simp only [a3, List.mem_cons, List.not_mem_nil, or_false, Nat.zero_add] at hx
      rcases hx with rfl | rfl | rfl
      · exact ⟨⟨_, (key _ (by omega)).trans c0⟩, frz _⟩
      · exact ⟨⟨_, (key _ (by omega)).trans c1⟩, frz _⟩
      · exact ⟨⟨_, (key _ (by omega)).trans c2⟩, frz _⟩
    · obtain ⟨c0, c1, c2⟩ := kc_get l i hi
      rw [Nat.zero_add]
      exact ⟨(key _ (by omega)).trans c0, (key _ (by omega)).trans c1, (key _ (by omega)).trans c2⟩
theorem nodup_flat {F : Nat → List AdK} {n : Nat} (h1 : ∀ i, i < n → ((F i).map Prod.fst).Nodup) (h2 : ∀ i j, i < j → j < n → ∀ x ∈ F i, ∀ y ∈ F j, x.1 ≠ y.1) : (((List.range n).flatMap F).map Prod.fst).Nodup := by
  induction n with
  | zero => simp
  | succ n ih =>
    rw [flat_succ, List.map_append, List.nodup_append]
    refine ⟨ih (fun i hi => h1 i (by omega)) (fun i j hij hj => h2 i j hij (by omega)), h1 n (by omega), fun x hx y hy => ?_⟩
    obtain ⟨p, hp, rfl⟩ := List.mem_map.1 hx
    obtain ⟨q, hq, rfl⟩ := List.mem_map.1 hy
    obtain ⟨i, hi, hp⟩ := List.mem_flatMap.1 hp
    exact h2 i n (List.mem_range.1 hi) (by omega) p hp q hq
/-- own rules: their addresses, apart, in their blocks; and how they are read -/
theorem rsIn_sr {w : World} {lo hi : Nat} {v : Value} {l : List Ru} (h : RsIn w lo hi v l) (hn : l.length ≤ 1048576) (h6 : ∀ r ∈ l, r.length = 6) : ∃ a cap A, v = .slice a l.length cap ∧ SR w a l.length A ∧ (A.map Prod.fst).Nodup ∧ (∀ x ∈ A, lo ≤ x.1.block ∧ x.1.block < hi) ∧ A.length = l.length * 18 ∧ LSrc 1 PR w a l := by
  obtain ⟨vs, cb, gb, hO, hgb, hcb⟩ := h
  obtain ⟨cap, rfl⟩ := hO.form
  have hlt := hO.row.lt gb rfl
  have hc : ∀ i, i < l.length → w.cell? ⟨gb, i, none⟩ = some (vs i) := fun i hi => by
    rw [World.ownsRow.cellAt hO.row i (by omega)]
    simp [hi]
  have h6' : ∀ i, i < l.length → (l.getD i []).length = 6 := fun i hi => h6 _ (by rw [List.getD_eq_getElem?_getD, List.getElem?_eq_getElem hi]; exact List.getElem_mem hi)
  refine ⟨some ⟨gb, 0, none⟩, cap, (List.range l.length).flatMap fun i => conA (cb i) 0 6, rfl, ⟨hn, .inr ⟨gb, 0, rfl, _, rfl, fun i hi => ?_⟩⟩, nodup_flat (fun i hi => conA_nodup _ _ _) (fun i j hij hj x hx y hy e => ?_), fun x hx => ?_, ?_, .inr ⟨gb, 0, rfl, hlt.2, fun i hi => ?_⟩⟩
  · obtain ⟨cp, e, hsk, _⟩ := ownsK_sk (hO.own i hi).1 (hO.own i hi).2
    rw [h6' i hi] at e hsk
    exact ⟨_, 6, cp, by rw [Nat.zero_add, hc i hi, e], hsk⟩
  · have e1 := (conA_mem hx).1
    have e2 := (conA_mem hy).1
    rw [e, e2] at e1
    have := hO.inc i j hij hj
    omega
  · obtain ⟨i, hi, hx⟩ := List.mem_flatMap.1 hx
    have hi' := List.mem_range.1 hi
    rw [(conA_mem hx).1]
    exact ⟨((hO.own i hi').1.lt _ (hO.own i hi').2).1, hcb i hi'⟩
  · have : ∀ n, ((List.range n).flatMap fun i => conA (cb i) 0 6).length = n * 18 := by
      intro n
      induction n with
      | zero => rfl
      | succ n ih => rw [flat_succ, List.length_append, ih, conA_len]; omega
    exact this _
  · obtain ⟨cp, e, hsk, hlat, hq⟩ := ownsK_sk (hO.own i hi).1 (hO.own i hi).2
    have eg : l.getD i [] = l[i] := by rw [List.getD_eq_getElem?_getD, List.getElem?_eq_getElem hi]; rfl
    rw [eg] at e hlat
    exact ⟨_, cp, by rw [Nat.zero_add, Nat.mul_one, hc i hi, e], .inr ⟨_, 0, rfl, hq, hlat⟩⟩
theorem entCs_get (l : List E) (rv : Nat → Value) (i : Nat) (h : i < l.length) : (entCs l rv)[i * 3]? = some (.int .u32 (l.getD i E.zero).arch) ∧ (entCs l rv)[i * 3 + 1]? = some (.int .u32 (l.getD i E.zero).nr) ∧ (entCs l rv)[i * 3 + 2]? = some (rv i) := by
  have key : ∀ n, i < n → ((List.range n).flatMap fun i => entC (l.getD i E.zero) (rv i))[i * 3]? = some (.int .u32 (l.getD i E.zero).arch) ∧ ((List.range n).flatMap fun i => entC (l.getD i E.zero) (rv i))[i * 3 + 1]? = some (.int .u32 (l.getD i E.zero).nr) ∧ ((List.range n).flatMap fun i => entC (l.getD i E.zero) (rv i))[i * 3 + 2]? = some (rv i) := by
    intro n
    have hlen : ∀ n, ((List.range n).flatMap fun i => entC (l.getD i E.zero) (rv i)).length = n * 3 := by
      intro n
      induction n with
      | zero => rfl
      | succ n ih => rw [flat_succ, List.length_append, ih]; simp [entC]; omega
    induction n with
    | zero => intro h; omega
    | succ n ih =>
      intro hn
      rw [flat_succ]
      by_cases e : i = n
      · subst e
        rw [List.getElem?_append_right (by rw [hlen]; omega), List.getElem?_append_right (by rw [hlen]; omega), List.getElem?_append_right (by rw [hlen]; omega), hlen]
        rw [show i * 3 - i * 3 = 0 by omega, show i * 3 + 1 - i * 3 = 1 by omega, show i * 3 + 2 - i * 3 = 2 by omega]
        exact ⟨rfl, rfl, rfl⟩
      · rw [List.getElem?_append_left (by rw [hlen]; omega), List.getElem?_append_left (by rw [hlen]; omega), List.getElem?_append_left (by rw [hlen]; omega)]
        exact ih (by omega)
  exact key _ h
/-- an own policy: its addresses, apart, in its blocks; and how it is read -/
theorem ownPs_se {w : World} {B C : Nat} {v : Value} {l : List E} {rv : Nat → Value} {lo hi : Nat → Nat} {gb : Nat} (h : OwnPs w B C v l rv lo hi gb) (hn : l.length ≤ 1000) (hm : ∀ e ∈ l, e.rules.length ≤ 200 ∧ ∀ r ∈ e.rules, r.length = 6) : ∃ a cap A, v = .slice a l.length cap ∧ SE w a l.length A ∧ (A.map Prod.fst).Nodup ∧ (∀ x ∈ A, x.1.block = gb ∨ ∃ i, i < l.length ∧ lo i ≤ x.1.block ∧ x.1.block < hi i) ∧ A.length ≤ 4000000 ∧ LSrc 3 PE w a l := by
  have hgb := h.row.lt gb h.ob
  obtain ⟨cap, rfl⟩ : ∃ cv, v = .slice (some ⟨gb, 0, none⟩) l.length cv := by
    have ho := h.ob
    obtain ⟨_, h | ⟨g, cap, cur, e, _⟩⟩ := h.row
    · rw [h.1] at ho; cases ho
    · have : g = gb := by rw [e] at ho; simpa [Value.ownBlock] using ho
      subst this
      exact ⟨cap, e⟩
  have key := fun j (hj : j < l.length * 3) => World.ownsRow.cellAt h.row j hj
  have frz := fun j => World.ownsRow.frozenAt h.row j
  have hmi : ∀ i, i < l.length → (l.getD i E.zero).rules.length ≤ 200 ∧ ∀ r ∈ (l.getD i E.zero).rules, r.length = 6 := fun i hi => hm _ (by rw [List.getD_eq_getElem?_getD, List.getElem?_eq_getElem hi]; exact List.getElem_mem hi)
  have hch : ∀ i, ∃ A, i < l.length → ∃ a' c', rv i = .slice a' (l.getD i E.zero).rules.length c' ∧ SR w a' (l.getD i E.zero).rules.length A ∧ (A.map Prod.fst).Nodup ∧ (∀ x ∈ A, lo i ≤ x.1.block ∧ x.1.block < hi i) ∧ A.length = (l.getD i E.zero).rules.length * 18 ∧ LSrc 1 PR w a' (l.getD i E.zero).rules := by
    intro i
    by_cases hi : i < l.length
    · obtain ⟨a', c', A, h1, h2, h3, h4, h5, h6⟩ := rsIn_sr (h.own i hi) (by have := (hmi i hi).1; omega) (hmi i hi).2
      exact ⟨A, fun _ => ⟨a', c', h1, h2, h3, h4, h5, h6⟩⟩
    · exact ⟨[], fun h => absurd h hi⟩
  obtain ⟨F, hF⟩ : ∃ F : Nat → List AdK, ∀ i, i < l.length → ∃ a' c', rv i = .slice a' (l.getD i E.zero).rules.length c' ∧ SR w a' (l.getD i E.zero).rules.length (F i) ∧ ((F i).map Prod.fst).Nodup ∧ (∀ x ∈ F i, lo i ≤ x.1.block ∧ x.1.block < hi i) ∧ (F i).length = (l.getD i E.zero).rules.length * 18 ∧ LSrc 1 PR w a' (l.getD i E.zero).rules := ⟨fun i => Classical.choose (hch i), fun i => Classical.choose_spec (hch i)⟩
  have hab : ∀ i, ∀ x ∈ a2 gb (0 + i * 3), x.1.block = gb ∧ i * 3 ≤ x.1.off ∧ x.1.off < i * 3 + 2 := fun i x hx => by
    simp only [a2, List.mem_cons, List.not_mem_nil, or_false, Nat.zero_add] at hx
    rcases hx with rfl | rfl <;> refine ⟨rfl, ?_, ?_⟩ <;> simp only <;> omega
  refine ⟨some ⟨gb, 0, none⟩, cap, entA gb 0 F l.length, rfl, ⟨by omega, .inr ⟨gb, 0, rfl, F, rfl, fun i hi => ?_⟩⟩, nodup_flat (fun i hi => ?_) (fun i j hij hj x hx y hy e => ?_), fun x hx => ?_, ?_, .inr ⟨gb, 0, rfl, hgb.2, fun i hi => ?_⟩⟩
  · obtain ⟨c0, c1, c2⟩ := entCs_get l rv i hi
    obtain ⟨a', c', e, hsr, _⟩ := hF i hi
    refine ⟨fun x hx => ?_, a', _, c', by rw [Nat.zero_add, key _ (by omega), c2, e], hsr⟩
    simp only [a2, List.mem_cons, List.not_mem_nil, or_false, Nat.zero_add] at hx
    rcases hx with rfl | rfl
    · exact ⟨⟨_, (key _ (by omega)).trans c0⟩, frz _⟩
    · exact ⟨⟨_, (key _ (by omega)).trans c1⟩, frz _⟩
  · obtain ⟨a', c', e, hsr, hnd, hbl, _⟩ := hF i hi
    rw [List.map_append, List.nodup_append]
    refine ⟨by simp [a2], hnd, fun x hx y hy => ?_⟩
    obtain ⟨p, hp, rfl⟩ := List.mem_map.1 hx
    obtain ⟨q, hq, rfl⟩ := List.mem_map.1 hy
    intro e
    have h1 := (hab i p hp).1
    rw [e] at h1
    have h2 := hbl q hq
    rcases h.out i hi with g | g <;> omega
  · have hi : i < l.length := by omega
    obtain ⟨_, _, _, _, _, hbi, _⟩ := hF i hi
    obtain ⟨_, _, _, _, _, hbj, _⟩ := hF j hj
    rw [List.mem_append] at hx hy
    rcases hx with hx | hx <;> rcases hy with hy | hy
    · have h1 := hab i x hx
      have h2 := hab j y hy
      rw [e] at h1
      omega
    · have h1 := hab i x hx
      have h2 := hbj y hy
      rw [e] at h1
      rcases h.out j hj with g | g <;> omega
    · have h1 := hbi x hx
      have h2 := hab j y hy
      rw [e] at h1
      rcases h.out i hi with g | g <;> omega
    · have h1 := hbi x hx
      have h2 := hbj y hy
      rw [e] at h1
      have := h.inc i j hij hj
      omega
  · obtain ⟨i, hi, hx⟩ := List.mem_flatMap.1 hx
    have hi' := List.mem_range.1 hi
    rw [List.mem_append] at hx
    rcases hx with hx | hx
    · exact .inl (hab i x hx).1
    · obtain ⟨_, _, _, _, _, hbi, _⟩ := hF i hi'
      exact .inr ⟨i, hi', hbi x hx⟩
  · have : ∀ n, n ≤ l.length → (entA gb 0 F n).length ≤ n * 3602 := by
      intro n
      induction n with
      | zero => intro _; simp [entA]
      | succ n ih =>
        intro hn
        obtain ⟨_, _, _, _, _, _, hl, _⟩ := hF n (by omega)
        have h1 := ih (by omega)
        have h2 := (hmi n (by omega)).1
        rw [entA_succ, List.length_append, List.length_append, hl]
        simp only [a2, List.length_cons, List.length_nil]
        omega
    have := this l.length (Nat.le_refl _)
    omega
  · obtain ⟨c0, c1, c2⟩ := entCs_get l rv i hi
    obtain ⟨a', c', e, _, _, _, _, hls⟩ := hF i hi
    have eg : l.getD i E.zero = l[i] := by rw [List.getD_eq_getElem?_getD, List.getElem?_eq_getElem hi]; rfl
    rw [eg] at c0 c1 e hls
    rw [Nat.zero_add]
    exact ⟨(key _ (by omega)).trans c0, (key _ (by omega)).trans c1, a', c', by rw [key _ (by omega), c2, e], hls⟩
end Go.Proofs.YtljhccolmcoifaaGreat
namespace Go.Proofs.YtljhccolmcoifaaGreat
open Go.RowKit
set_option linter.unusedVariables false
variable {L : Nat}

theorem erase_set {α : Type} {l : List α} {i j : Nat} {x : α} (h : i < j) : (l.eraseIdx j).set i x = (l.set i x).eraseIdx j := by
  apply List.ext_getElem?
  intro q
  simp only [List.getElem?_set, List.getElem?_eraseIdx, List.length_eraseIdx]
  by_cases h1 : q < j
  · simp only [h1, if_true]
    by_cases h2 : i = q
    · subst h2
      simp only [if_true]
      by_cases h3 : j < l.length
      · simp only [h3, if_true]
        rw [if_pos (by omega), if_pos (by omega)]
      · simp only [h3, if_false]
    · simp only [h2, if_false]
  · simp only [h1, if_false]
    rw [if_neg (by omega), if_neg (by omega)]
theorem OwnM.mono {w : World} {B B' : Nat} {v : Value} {os : List (Ru × Value)} (h : OwnM L w B v os) (hB : B' ≤ B) : OwnM L w B' v os := ⟨World.ownsRow.mono h.row hB, h.el⟩
def StepPost (L : Nat) (l : List Ru) (a : Option Addr) (cap : Nat) (w : World) (e : Ending) (w' : World) : Prop := ((∃ v os, Step l (os.map Prod.fst) ∧ e = .returned (.tuple #[v, .bool true]) ∧ OwnM L w' w.heap.size v os) ∨ (Stuck l ∧ e = .returned (.tuple #[.slice a l.length cap, .bool false]))) ∧ Below w.heap.size w w'
/-- one is joined into the list's row -/
theorem step_put {l : List Ru} {i j : Nat} {x : Ru} {w w10 : World} {B g n c b9 c9 : Nat} {os : List (Ru × Value)} (hO : OwnM L w10 B (.slice (some ⟨g, 0, none⟩) n c) os) (hn : n = os.length) (hm : os.map Prod.fst = l.eraseIdx j) (hij : i < j) (hx : x.length = 6) (hb : b9 < B) (hL9 : L ≤ b9) (hl : LAt 3 PK w10 b9 0 x) (hw : w.heap.size ≤ B) (hBw : Below w.heap.size w w10) :
    ∃ os', OwnM L (w10.setCell ⟨g, i, none⟩ (.slice (some ⟨b9, 0, none⟩) 6 c9)) w.heap.size (.slice (some ⟨g, 0, none⟩) n c) os' ∧ os'.map Prod.fst = (l.set i x).eraseIdx j ∧ Below w.heap.size w (w10.setCell ⟨g, i, none⟩ (.slice (some ⟨b9, 0, none⟩) 6 c9)) := by
  have hg := hO.row.lt g rfl
  refine ⟨os.set i (x, .slice (some ⟨b9, 0, none⟩) 6 c9), (OwnM.put (i := i) (p := (x, .slice (some ⟨b9, 0, none⟩) 6 c9)) hO hn ⟨b9, 0, c9, rfl, hx, ?_, by omega, hl, hL9⟩).mono hw, ?_, hBw.setCell (p := ⟨g, i, none⟩) (Nat.le_trans hw hg.1) _⟩
  · intro e
    have : g = b9 := by simpa [Value.ownBlock] using e
    omega
  · rw [List.map_set, hm]; exact erase_set hij

end Go.Proofs.YtljhccolmcoifaaGreat
