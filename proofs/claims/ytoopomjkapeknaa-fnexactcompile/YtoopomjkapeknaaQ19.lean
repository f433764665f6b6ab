/-
  AsmV, AsmL, CmpK
-/
import Derived.Test.YtoopomjkapeknaaQ17
import Derived.Test.YtoopomjkapeknaaQ18
import Derived.Test.YtoopomjkapeknaaQ14
namespace Go.Proofs.Ytoopomjkapeknaa
open Go.RowKit
set_option linter.unusedVariables false

theorem getD_set_any (p : List I) (i j : Nat) (y z : I) : (p.set i y).getD j z = if i = j ∧ i < p.length then y else p.getD j z := by
  simp only [List.getD_eq_getElem?_getD, List.getElem?_set]
  by_cases h : i = j
  · subst h
    by_cases hl : i < p.length
    · simp [hl]
    · simp [hl]
  · simp [h]
/-- the first k and the last k have changed places -/
def Swp (p q : List I) (k : Nat) : Prop := q.length = p.length ∧ ∀ i, i < p.length → q.getD i I.zero = if i < k ∨ p.length - k ≤ i then p.getD (p.length - 1 - i) I.zero else p.getD i I.zero
theorem Swp.start (p : List I) : Swp p p 0 := ⟨rfl, fun i hi => by rw [if_neg (by omega)]⟩
theorem Swp.step {p q : List I} {k : Nat} (h : Swp p q k) (hk : k + k + 1 < p.length) : Swp p ((q.set k (q.getD (p.length - 1 - k) I.zero)).set (p.length - 1 - k) (q.getD k I.zero)) (k + 1) := by
  obtain ⟨h1, h2⟩ := h
  refine ⟨by simpa using h1, fun i hi => ?_⟩
  rw [getD_set_any, getD_set_any]
  simp only [List.length_set]
  have e1 := h2 k (by omega)
  have e2 := h2 (p.length - 1 - k) (by omega)
  rw [if_neg (by omega)] at e1 e2
  by_cases c1 : p.length - 1 - k = i
  · rw [if_pos ⟨c1, by omega⟩, if_pos (by omega), e1]
    congr 1; omega
  · rw [if_neg (fun h => c1 h.1)]
    by_cases c2 : k = i
    · rw [if_pos ⟨c2, by omega⟩, if_pos (by omega), e2, c2]
    · rw [if_neg (fun h => c2 h.1), h2 i hi]
      by_cases c3 : i < k ∨ p.length - k ≤ i
      · rw [if_pos c3, if_pos (by omega)]
      · rw [if_neg c3, if_neg (by omega)]
theorem Swp.done {p q : List I} {k : Nat} (h : Swp p q k) (hk : ¬ k + k + 1 < p.length) : q = p.reverse := by
  obtain ⟨h1, h2⟩ := h
  apply List.ext_getElem
  · simpa using h1
  · intro i hi hj
    have hp : i < p.length := by omega
    have e := h2 i hp
    rw [List.getD_eq_getElem?_getD, List.getElem?_eq_getElem hi] at e
    rw [List.getElem_reverse]
    have e3 : p.getD (p.length - 1 - i) I.zero = p[p.length - 1 - i] := by rw [List.getD_eq_getElem?_getD, List.getElem?_eq_getElem (by omega)]; rfl
    by_cases c : i < k ∨ p.length - k ≤ i
    · rw [if_pos c] at e
      exact Eq.trans e e3
    · rw [if_neg c] at e
      have : p.length - 1 - i = i := by omega
      exact Eq.trans e ((show p.getD i I.zero = p.getD (p.length - 1 - i) I.zero by rw [this]).trans e3)

/-- what lay below stays, and all that is no cells -/
def BO (B : Nat) (w w' : World) : Prop := Below B w w' ∧ KeepsOthers w w'
theorem BO.set {B : Nat} {a b : World} (h : BO B a b) {p : Addr} (hp : B ≤ p.block) (v : Value) : BO B a (b.setCell p v) := ⟨h.1.setCell hp v, h.2.trans (KeepsOthers.setCell _ _ _)⟩
theorem BO.set4 {B : Nat} {W w : World} (h : BO B W w) {D : Nat} (hD : B ≤ D) (o : Nat) (a b c d : Value) : BO B W ((((w.setCell ⟨D, o, none⟩ a).setCell ⟨D, o + 1, none⟩ b).setCell ⟨D, o + 2, none⟩ c).setCell ⟨D, o + 3, none⟩ d) := (((h.set (p := ⟨D, _, none⟩) hD _).set (p := ⟨D, _, none⟩) hD _).set (p := ⟨D, _, none⟩) hD _).set (p := ⟨D, _, none⟩) hD _
theorem BO.drew {B : Nat} {a b : World} (h : BO B a b) : BO B a b.drew := ⟨h.1.drew, h.2.trans (KeepsOthers.drew _)⟩
theorem own_frozen {w : World} {B e s n cap g : Nat} {xs : List Value} (h : w.ownsRow B e s (.slice (some ⟨g, 0, none⟩) n cap) n xs) (j : Nat) : w.frozen? ⟨g, j, none⟩ = false := by
  obtain ⟨_, ⟨h, _⟩ | ⟨g', cap, cur, e, hb, hgc, _⟩⟩ := h
  · cases h
  · cases e
    simp [World.frozen?, hgc]

set_option maxRecDepth 100000 in
set_option maxHeartbeats 4000000 in
theorem reverse_any (w : World) (B : Nat) (v : Value) (p : List I) (ho : ownsI w B v p) (hn : p.length ≤ 1000000) :
    Calls Try.prog 44 #[v] w fun e w' => e = .returned (.tuple #[]) ∧ ownsI w' B v p.reverse ∧ BO B w w' := by
  obtain ⟨a, cap, rfl, hsr⟩ := ownsI_src ho
  by_cases h0 : p.length = 0
  · have hp : p = [] := List.eq_nil_of_length_eq_zero h0
    subst hp
    simp only [List.length_nil]
    go_enter Try.func44, Try.ntmps44
    go_wp2_with fail
    go_loopw [2, 3] (fun i j wr => i = .int .i64 0 ∧ j = .int .i64 (-1) ∧ wr = w) (fun _ _ _ => 0)
    case atStart => exact ⟨rfl, rfl, rfl⟩
    case round =>
      obtain ⟨rfl, rfl, rfl⟩ := hrel
      go_wp2
      go_end0
      exact ⟨rfl, ho, Below.refl _ _, KeepsOthers.refl _⟩
  · obtain ⟨g, rfl, hBg⟩ : ∃ g, a = some ⟨g, 0, none⟩ ∧ B ≤ g := by
      obtain ⟨_, ⟨h, _⟩ | ⟨g, cap', cur, e, hb, _⟩⟩ := ho
      · injection h with h1 h2; omega
      · injection e with e1 e2 e3; exact ⟨g, e1, hb⟩
    have HS : Hid (∀ q k, Swp p q k → k + k + 1 < p.length → Swp p ((q.set k (q.getD (p.length - 1 - k) I.zero)).set (p.length - 1 - k) (q.getD k I.zero)) (k + 1)) := fun q k h hk => h.step hk
    have HD : Hid (∀ q k, Swp p q k → ¬ k + k + 1 < p.length → q = p.reverse) := fun q k h hk => h.done hk
    have HA : Hid (∀ (wr : World) (q : List I) (i : Nat) (y : I), q.length = p.length → wr.ownsRow B 51 4 (.slice (some ⟨g, 0, none⟩) p.length cap) p.length (insCells q) → i < p.length → ((((wr.setCell ⟨g, i * 4, none⟩ (.int .u16 y.c)).setCell ⟨g, i * 4 + 1, none⟩ (.int .u8 y.jt)).setCell ⟨g, i * 4 + 2, none⟩ (.int .u8 y.jf)).setCell ⟨g, i * 4 + 3, none⟩ (.int .u32 y.k)).ownsRow B 51 4 (.slice (some ⟨g, 0, none⟩) p.length cap) p.length (insCells (q.set i y))) := fun wr q i y hq h hi => ownsI_all hq h (by omega) y
    have HP : Hid (∀ (wr : World) (q : List I), q.length = p.length → wr.ownsRow B 51 4 (.slice (some ⟨g, 0, none⟩) p.length cap) p.length (insCells q) → ∀ i, i < p.length → wr.cell? ⟨g, i * 4, none⟩ = some (.int .u16 (q.getD i I.zero).c) ∧ wr.cell? ⟨g, i * 4 + 1, none⟩ = some (.int .u8 (q.getD i I.zero).jt) ∧ wr.cell? ⟨g, i * 4 + 2, none⟩ = some (.int .u8 (q.getD i I.zero).jf) ∧ wr.cell? ⟨g, i * 4 + 3, none⟩ = some (.int .u32 (q.getD i I.zero).k)) := fun wr q hq h i hi => by
      have h' : ownsI wr B (.slice (some ⟨g, 0, none⟩) q.length cap) q := by rw [← hq] at h; exact h
      obtain ⟨a', c', e, hs⟩ := ownsI_src h'
      cases e
      obtain ⟨b, o, e, _, h0, h1, h2, h3⟩ := hs.at (i := i) (by omega)
      cases e
      simp only [Nat.zero_add] at h0 h1 h2 h3
      exact ⟨h0, h1, h2, h3⟩
    have HPr : Hid (p.reverse = p.reverse) := rfl
    have hSt := Swp.start p
    generalize p.reverse = pr at *
    generalize hpl : p.length = n at *
    have hw : IntKind.i64.wrap ((n : Int) - 1) = (n : Int) - 1 := by rw [IntKind.wrap_i64]; omega
    go_enter Try.func44, Try.ntmps44
    go_wp2_with fail
    have ho' : w.ownsRow B 51 4 (.slice (some ⟨g, 0, none⟩) n cap) n (insCells p) := by have := ho; rw [ownsI, hpl] at this; exact this
    go_loopw [2, 3] (fun i j wr => ∃ (k : Nat) (q : List I), i = .int .i64 k ∧ j = .int .i64 ((n : Int) - 1 - k) ∧ k + k ≤ n ∧ q.length = n ∧ Hid (Swp p q k) ∧ Hid (wr.ownsRow B 51 4 (.slice (some ⟨g, 0, none⟩) n cap) n (insCells q)) ∧ Hid (BO B w wr)) (fun i _ _ => n - (intOf i).toNat)
    case atStart => exact ⟨0, p, rfl, by first | rfl | simp, by omega, hpl, hSt, ho', Below.refl _ _, KeepsOthers.refl _⟩
    case round =>
      obtain ⟨k, q, rfl, rfl, hk, hq, hSw, hO, hB⟩ := hrel
      have hi1 : (n : Int) - 1 - k = ((n - 1 - k : Nat) : Int) := by omega
      rw [hi1]
      by_cases hlt : k + k + 1 < n
      · have hc : (k : Int) < ((n - 1 - k : Nat) : Int) := by omega
        have hkn : (k : Int) < (n : Int) := by omega
        have hjn : ((n - 1 - k : Nat) : Int) < (n : Int) := by omega
        obtain ⟨a0, a1, a2, a3⟩ := HP.out wr q hq hO.out k (by omega)
        obtain ⟨b0, b1, b2, b3⟩ := HP.out wr q hq hO.out (n - 1 - k) (by omega)
        have hSw' : Hid (Swp p ((q.set k (q.getD (n - 1 - k) I.zero)).set (n - 1 - k) (q.getD k I.zero)) (k + 1)) := HS.out q k hSw.out hlt
        have hO1 := HA.out wr q k (q.getD (n - 1 - k) I.zero) hq hO.out (by omega)
        have hO2 := HA.out _ _ (n - 1 - k) (q.getD k I.zero) (by simpa using hq) hO1 (by omega)
        have hF := own_frozen hO.out
        have hw1 : IntKind.i64.wrap ((k : Int) + 1) = ((k + 1 : Nat) : Int) := by rw [IntKind.wrap_i64]; omega
        have hw2 : IntKind.i64.wrap (((n - 1 - k : Nat) : Int) - 1) = (n : Int) - 1 - ((k + 1 : Nat) : Int) := by rw [IntKind.wrap_i64]; omega
        have hq' : ∀ x y, ((q.set k x).set (n - 1 - k) y).length = n := fun x y => by simpa using hq
        have hne : k ≠ n - 1 - k := by omega
        generalize q.getD (n - 1 - k) I.zero = y at *
        generalize q.getD k I.zero = x at *
        have hk2 : k + 1 + (k + 1) ≤ n := by omega
        generalize n - 1 - k = j at *
        obtain ⟨xc, xjt, xjf, xk⟩ := x
        obtain ⟨yc, yjt, yjf, yk⟩ := y
        simp only at a0 a1 a2 a3 b0 b1 b2 b3 hO2 hSw'
        have HO3 : Hid (((((((((wr.setCell ⟨g, k * 4, none⟩ (.int .u16 yc)).setCell ⟨g, k * 4 + 1, none⟩ (.int .u8 yjt)).setCell ⟨g, k * 4 + 2, none⟩ (.int .u8 yjf)).setCell ⟨g, k * 4 + 3, none⟩ (.int .u32 yk)).setCell ⟨g, j * 4, none⟩ (.int .u16 xc)).setCell ⟨g, j * 4 + 1, none⟩ (.int .u8 xjt)).setCell ⟨g, j * 4 + 2, none⟩ (.int .u8 xjf)).setCell ⟨g, j * 4 + 3, none⟩ (.int .u32 xk)).ownsRow B 51 4 (.slice (some ⟨g, 0, none⟩) n cap) n (insCells ((q.set k ⟨yc, yjt, yjf, yk⟩).set j ⟨xc, xjt, xjf, xk⟩))) := hO2
        clear hO2
        have hBn := BO.set4 (BO.set4 hB.out hBg (k * 4) (.int .u16 yc) (.int .u8 yjt) (.int .u8 yjf) (.int .u32 yk)) hBg (j * 4) (.int .u16 xc) (.int .u8 xjt) (.int .u8 xjf) (.int .u32 xk)
        have HBn : Hid (BO B w ((((((((wr.setCell ⟨g, k * 4, none⟩ (.int .u16 yc)).setCell ⟨g, k * 4 + 1, none⟩ (.int .u8 yjt)).setCell ⟨g, k * 4 + 2, none⟩ (.int .u8 yjf)).setCell ⟨g, k * 4 + 3, none⟩ (.int .u32 yk)).setCell ⟨g, j * 4, none⟩ (.int .u16 xc)).setCell ⟨g, j * 4 + 1, none⟩ (.int .u8 xjt)).setCell ⟨g, j * 4 + 2, none⟩ (.int .u8 xjf)).setCell ⟨g, j * 4 + 3, none⟩ (.int .u32 xk))) := hBn
        have hZ1 : ((k + 1 : Nat) : Int) = (k : Int) + 1 := by omega
        have hZ2 : (n : Int) - 1 - ((k + 1 : Nat) : Int) = (j : Int) - 1 := by omega
        clear HS hBn HD HA HP hSw hO hO1 ho ho' hsr hSt
        go_wp2_with fail
        go_region
        all_goals
          go_wp2
          go_roundw
          case rel =>
            refine ⟨k + 1, (q.set k ⟨yc, yjt, yjf, yk⟩).set j ⟨xc, xjt, xjf, xk⟩, congrArg (Value.int .i64) (by omega), congrArg (Value.int .i64) (by omega), hk2, hq' _ _, hSw', ?_, ?_⟩
            · exact World.ownsRow.drew HO3.out
            · exact BO.drew HBn.out
          case measure => simp [intOf]; omega
      · have hc : ¬ (k : Int) < ((n - 1 - k : Nat) : Int) := by omega
        have hE := HD.out q k hSw.out hlt
        subst hE
        have HO2 : Hid _ := hO.out
        clear HS HD HA HP hSw hO ho ho' hsr hSt
        go_wp2
        go_end0
        refine ⟨rfl, ?_, hB.out⟩
        have := HO2.out
        rw [ownsI, hq]
        exact this
end Go.Proofs.Ytoopomjkapeknaa
namespace Go.Proofs.Ytoopomjkapeknaa
open Go.RowKit Go.Shelf
set_option linter.unusedVariables false

attribute [local go_sem] Oper.semAt_some

/-- what has been laid when these have come -/
def foldB (pre : List BI) : Option (List I × Mk) := pre.foldl (fun o x => o.bind (stI x.1.2)) (some ([], fun _ => none))
theorem foldB_snoc (pre : List BI) (x : BI) : foldB (pre ++ [x]) = (foldB pre).bind (stI x.1.2) := by unfold foldB; rw [List.foldl_append]; rfl
theorem foldB_upto (it : List It) (ho : ∀ x ∈ it, x.ok) (k : Nat) (hk : k ≤ it.length) : foldB (uptoB (bkF it ho) k) = layI (it.drop (it.length - k)) := by
  induction k with
  | zero => rw [Nat.sub_zero, List.drop_length]; rfl
  | succ k ih =>
    rw [uptoB_succ, foldB_snoc, ih (by omega)]
    have e : it.length - (k + 1) = it.length - 1 - k := by omega
    rw [e, layI_drop (i := it.length - 1 - k) (by omega), show it.length - 1 - k + 1 = it.length - k by omega]
    cases layI (it.drop (it.length - k)) <;> rfl
theorem foldB_facts {n : Nat} : ∀ (pre : List BI) {s : List I × Mk}, pre.length = n → foldB pre = some s → (∀ k a, s.2 k = some a → a ≤ s.1.length) ∧ s.1.length ≤ n * 2 := by
  induction n with
  | zero =>
    intro pre s hp h
    have : pre = [] := List.eq_nil_of_length_eq_zero hp
    subst this
    cases h
    exact ⟨fun k a h => (by cases h), by simp⟩
  | succ n ih =>
    intro pre s hp h
    have hne : pre ≠ [] := by intro e; rw [e] at hp; simp at hp
    rw [← List.dropLast_concat_getLast hne, foldB_snoc] at h
    cases e : foldB pre.dropLast with
    | none => rw [e] at h; cases h
    | some t =>
      rw [e] at h
      obtain ⟨h1, h2⟩ := ih pre.dropLast (by simp; omega) e
      obtain ⟨⟨x, h3, h4⟩, h5⟩ := stI_facts (show stI _ t = some s from h) h1
      exact ⟨h5, by rw [h3]; simp; omega⟩
theorem LayS.turn {w w' : World} {L Bm n B : Nat} {v : Value} {p : List I} {m : Mk} {row : Option Nat} (h : LayS w L Bm n v p m) (hg : w.grownBy w' row) (hL : L < B) (hr : ∀ r, row = some r → B ≤ r ∧ ∃ o : Obj, w.heap[r]? = some o ∧ o.isCells = false) : LayS w' L Bm n v p m := by
  have hlt := h.lt
  have hbm := h.bm
  have ne : some L ≠ row := fun e => by have := (hr L e.symm).1; omega
  have ne2 : some Bm ≠ row := fun e => by have := (hr Bm e.symm).1; omega
  obtain ⟨D, d1, d2, d3⟩ := h.mp
  refine ⟨h.bm, (hg.cell_far ⟨L, 0, none⟩ hlt ne).trans h.c0, (hg.cell_far ⟨L, 1, none⟩ hlt ne).trans h.c1, (hg.frozen_far ⟨L, 0, none⟩ hlt ne).trans h.f0, (by obtain ⟨c, f, e⟩ := h.ty; exact ⟨c, f, (hg.block L hlt ne).trans e⟩), ownsI_kept h.own hg (fun q hq e => ?_), D, d1.kept hg ne2, d2, d3⟩
  obtain ⟨_, o, h1, h2⟩ := hr q e.symm
  rw [own_cells h.own q o hq h1] at h2; cases h2
/-- the boxes of the two results -/
structure ResB (w : World) (R : Nat) (a b : Value) : Prop where
  c0 : w.cell? ⟨R, 0, none⟩ = some a
  f0 : w.frozen? ⟨R, 0, none⟩ = false
  c1 : w.cell? ⟨R + 1, 0, none⟩ = some b
  f1 : w.frozen? ⟨R + 1, 0, none⟩ = false
theorem ResB.turn {w w' : World} {R B : Nat} {a b : Value} {row : Option Nat} (h : ResB w R a b) (hg : w.grownBy w' row) (hR : R + 1 < B) (hr : ∀ r, row = some r → B ≤ r ∧ ∃ o : Obj, w.heap[r]? = some o ∧ o.isCells = false) : ResB w' R a b := by
  have n0 : some R ≠ row := fun e => by have := (hr R e.symm).1; omega
  have n1 : some (R + 1) ≠ row := fun e => by have := (hr (R + 1) e.symm).1; omega
  exact ⟨(hg.cell_far ⟨R, 0, none⟩ (cell_ltK h.c0) n0).trans h.c0, (hg.frozen_far ⟨R, 0, none⟩ (cell_ltK h.c0) n0).trans h.f0, (hg.cell_far ⟨R + 1, 0, none⟩ (cell_ltK h.c1) n1).trans h.c1, (hg.frozen_far ⟨R + 1, 0, none⟩ (cell_ltK h.c1) n1).trans h.f1⟩
theorem ResB.keep {w w' : World} {R B : Nat} {a b : Value} (h : ResB w R a b) (hb : Below B w w') (hB : R + 1 < B) : ResB w' R a b :=
  ⟨(hb.cell (p := ⟨R, 0, none⟩) (show R < B by omega)).trans h.c0, (hb.frozen (p := ⟨R, 0, none⟩) (show R < B by omega)).trans h.f0, (hb.cell (p := ⟨R + 1, 0, none⟩) hB).trans h.c1, (hb.frozen (p := ⟨R + 1, 0, none⟩) hB).trans h.f1⟩
theorem ResB.set {w : World} {R : Nat} {a b : Value} (h : ResB w R a b) (a' b' : Value) : ResB ((w.setCell ⟨R, 0, none⟩ a').setCell ⟨R + 1, 0, none⟩ b') R a' b' := by
  have x1 : (w.setCell ⟨R, 0, none⟩ a').cell? ⟨R + 1, 0, none⟩ = some b := by rw [World.cell?_setCell_other _ _ _ _ (by intro e; injection e with e; omega)]; exact h.c1
  refine ⟨?_, by rw [World.frozen?_setCell, World.frozen?_setCell]; exact h.f0, World.cell?_setCell_same _ _ _ x1, by rw [World.frozen?_setCell, World.frozen?_setCell]; exact h.f1⟩
  rw [World.cell?_setCell_other _ _ _ _ (by intro e; injection e with e; omega)]
  exact World.cell?_setCell_same _ _ _ h.c0
theorem keepsFrom_up {B B' : Nat} {w w' : World} (h : KeepsFrom B w w') (hB : B ≤ B') : KeepsFrom B' w w' := ⟨h.size, fun k o hk ho hc => h.same k o (Nat.le_trans hB hk) ho hc⟩

theorem ownsI_set2 {w : World} {B R n : Nat} {v : Value} {xs : List Value} (h : w.ownsRow B 51 4 v n xs) (hR : R + 1 < B) (a b : Value) : ((w.setCell ⟨R, 0, none⟩ a).setCell ⟨R + 1, 0, none⟩ b).ownsRow B 51 4 v n xs := by
  have key : ∀ (w : World) (q : Nat) (a : Value), q < B → w.ownsRow B 51 4 v n xs → (w.setCell ⟨q, 0, none⟩ a).ownsRow B 51 4 v n xs := fun w q a hq h => by
    refine h.kept (row := some q) ⟨rfl, rfl, rfl, by simp [World.setCell], fun i hi hne => ?_⟩ ?_
    · simp only [World.setCell, Array.getElem?_modify]
      rw [if_neg (fun e => hne (by rw [e]))]
    · refine .inr fun e => ?_
      have := (h.lt q e).1
      omega
  exact key _ _ _ hR (key _ _ _ (by omega) h)
theorem ResB.fin {W : World} {R D : Nat} {a b : Value} (h : ResB W R a b) (hK : W.heap[D]? = some (.deferred (some []))) : (W.putObj D (.deferred none)).cell? ⟨R, 0, none⟩ = some a ∧ (W.putObj D (.deferred none)).cell? ⟨R + 1, 0, none⟩ = some b :=
  ⟨cell_kept h.c0 (grownBy_putObj' _ D _) (fun r e => by cases e; exact ⟨_, hK, rfl⟩), cell_kept h.c1 (grownBy_putObj' _ D _) (fun r e => by cases e; exact ⟨_, hK, rfl⟩)⟩
theorem lay_start (w : World) (x : Value) (W0 : World) (h0 : (((((w.alloc (.cells #[.slice none 0 0] 26)).alloc (.cells #[.int .i64 0] 3)).alloc (.map #[] 0)).alloc (.cells #[.slice none 0 0, .map (some (w.heap.size + 1 + 1))] 82)).alloc (.cells #[x] 41)) = W0) :
    ResB W0 w.heap.size (.slice none 0 0) (.int .i64 0) ∧ LayS W0 (w.heap.size + 1 + 1 + 1) (w.heap.size + 1 + 1) 0 (.slice none 0 0) [] (fun _ => none) ∧ (∃ fr, W0.heap[w.heap.size + 1 + 1 + 1 + 1]? = some (.cells #[x] 41 fr)) ∧ Below w.heap.size w W0 ∧ W0.heap.size = w.heap.size + 5 := by
  have g1 : (w.alloc (.cells #[.slice none 0 0] 26)).cell? ⟨w.heap.size, 0, none⟩ = some (.slice none 0 0) ∧ (w.alloc (.cells #[.slice none 0 0] 26)).frozen? ⟨w.heap.size, 0, none⟩ = false := ⟨by simp, by simp⟩
  have s1 : (w.alloc (.cells #[.slice none 0 0] 26)).heap.size = w.heap.size + 1 := by simp
  have b1 : Below w.heap.size w (w.alloc (.cells #[.slice none 0 0] 26)) := (Below.refl _ _).alloc (Nat.le_refl _) _
  generalize w.alloc (.cells #[.slice none 0 0] 26) = A1 at *
  have g2 : (A1.alloc (.cells #[.int .i64 0] 3)).cell? ⟨A1.heap.size, 0, none⟩ = some (.int .i64 0) ∧ (A1.alloc (.cells #[.int .i64 0] 3)).frozen? ⟨A1.heap.size, 0, none⟩ = false := ⟨by simp, by simp⟩
  have s2 : (A1.alloc (.cells #[.int .i64 0] 3)).heap.size = A1.heap.size + 1 := by simp
  have b2 : Below A1.heap.size A1 (A1.alloc (.cells #[.int .i64 0] 3)) := (Below.refl _ _).alloc (Nat.le_refl _) _
  generalize A1.alloc (.cells #[.int .i64 0] 3) = A2 at *
  have s3 : (A2.alloc (.map #[] 0)).heap.size = A2.heap.size + 1 := by simp
  have b3 : Below A2.heap.size A2 (A2.alloc (.map #[] 0)) := (Below.refl _ _).alloc (Nat.le_refl _) _
  have hM := World.ownsMap_made (H := Unit) A2 Try.prog 3 (plainElem Try.prog 3)
  generalize A2.alloc (.map #[] 0) = A3 at *
  have s4 : (A3.alloc (.cells #[.slice none 0 0, .map (some (w.heap.size + 1 + 1))] 82)).heap.size = A3.heap.size + 1 := by simp
  have b4 : Below A3.heap.size A3 (A3.alloc (.cells #[.slice none 0 0, .map (some (w.heap.size + 1 + 1))] 82)) := (Below.refl _ _).alloc (Nat.le_refl _) _
  have g4 : (A3.alloc (.cells #[.slice none 0 0, .map (some (w.heap.size + 1 + 1))] 82)).cell? ⟨A3.heap.size, 0, none⟩ = some (.slice none 0 0) ∧ (A3.alloc (.cells #[.slice none 0 0, .map (some (w.heap.size + 1 + 1))] 82)).cell? ⟨A3.heap.size, 1, none⟩ = some (.map (some (w.heap.size + 1 + 1))) ∧ (A3.alloc (.cells #[.slice none 0 0, .map (some (w.heap.size + 1 + 1))] 82)).frozen? ⟨A3.heap.size, 0, none⟩ = false := ⟨by simp, by simp, by simp⟩
  have hN := World.alloc_heap_new A3 (.cells #[.slice none 0 0, .map (some (w.heap.size + 1 + 1))] 82)
  have hM4 := hM.kept (World.grownBy_alloc A3 (.cells #[.slice none 0 0, .map (some (w.heap.size + 1 + 1))] 82) none) (by simp)
  generalize A3.alloc (.cells #[.slice none 0 0, .map (some (w.heap.size + 1 + 1))] 82) = A4 at *
  have hX := World.alloc_heap_new A4 (.cells #[x] 41)
  have s5 : (A4.alloc (.cells #[x] 41)).heap.size = A4.heap.size + 1 := by simp
  have b5 : Below A4.heap.size A4 (A4.alloc (.cells #[x] 41)) := (Below.refl _ _).alloc (Nat.le_refl _) _
  have hM5 := hM4.kept (World.grownBy_alloc A4 (.cells #[x] 41) none) (by simp)
  rw [h0] at s5 b5 hX hM5
  have c4 := b4.trans (b5.mono b4.size)
  have c3 := b3.trans (c4.mono b3.size)
  have c2 := b2.trans (c3.mono b2.size)
  have c1 := b1.trans (c2.mono b1.size)
  have e1 : A1.heap.size = w.heap.size + 1 := s1
  have e2 : A2.heap.size = w.heap.size + 1 + 1 := by omega
  have e3 : A3.heap.size = w.heap.size + 1 + 1 + 1 := by omega
  have e4 : A4.heap.size = w.heap.size + 1 + 1 + 1 + 1 := by omega
  rw [e1] at g2
  rw [e3] at g4 hN
  rw [e2] at hM5
  rw [e4] at hX
  refine ⟨⟨(c2.cell (p := ⟨_, 0, none⟩) (by show w.heap.size < _; omega)).trans g1.1, (c2.frozen (p := ⟨_, 0, none⟩) (by show w.heap.size < _; omega)).trans g1.2, (c3.cell (p := ⟨_, 0, none⟩) (by show w.heap.size + 1 < _; omega)).trans g2.1, (c3.frozen (p := ⟨_, 0, none⟩) (by show w.heap.size + 1 < _; omega)).trans g2.2⟩,
    ⟨by omega, (b5.cell (p := ⟨_, 0, none⟩) (by show w.heap.size + 1 + 1 + 1 < _; omega)).trans g4.1, (b5.cell (p := ⟨_, 1, none⟩) (by show w.heap.size + 1 + 1 + 1 < _; omega)).trans g4.2.1, (b5.frozen (p := ⟨_, 0, none⟩) (by show w.heap.size + 1 + 1 + 1 < _; omega)).trans g4.2.2, ⟨_, _, (b5.block _ (by omega)).trans hN⟩, World.ownsRow_nil _ _ _ _, .map [], hM5, fun t _ _ => rfl, fun t a h => by cases h⟩, ⟨_, hX⟩, c1, by omega⟩

set_option maxRecDepth 100000 in
set_option maxHeartbeats 4000000 in
theorem layOut_any (it : List It) (a : Option Addr) (cap : Nat) (w : World) (hs : TSrc w a it) (ho : ∀ x ∈ it, x.ok) (hn : it.length ≤ 400000) :
    Calls Try.prog 20 #[.slice a it.length cap] w fun e w' => LayPost it w e w' := by
  refine (callsIn_wide (n := 3)).1 ?_
  refine callsIn_of_wp_marks Try.func20 rfl trivial ?_ rfl
  simp only [Try.ntmps20, List.size_toArray, List.length_cons, List.length_nil, Nat.reduceAdd, Nat.reduceSub, Array.replicate_succ, Array.replicate_zero, List.push_toArray, List.append_toArray, List.nil_append, List.cons_append]
  have hmm := @run_makeMap Try.prog
  gi_wp2_with (refine ⟨trivial, ?_⟩; gi_at_call 42; refine (callsIn_wide.2 (back_any _ _ _ _)).mono ?_; rintro e w' ⟨rfl, rfl⟩)
  obtain ⟨hR0, hS0, ⟨fr, hX0⟩, hB0, hsz⟩ := lay_start w (.slice a it.length cap) _ rfl
  generalize (((((w.alloc (.cells #[.slice none 0 0] 26)).alloc (.cells #[.int .i64 0] 3)).alloc (.map #[] 0)).alloc (.cells #[.slice none 0 0, .map (some (w.heap.size + 1 + 1))] 82)).alloc (.cells #[.slice a it.length cap] 41)) = W0 at *
  refine wpIn_rangeFunc_ownH rfl (by omega) (gf := 61) (lb := #[.pointer (some ⟨w.heap.size + 1 + 1 + 1 + 1, 0, none⟩)]) rfl trivial (enters_of Try.func61 (by kernel_rfl) rfl)
    (back_stops Fence.wide (3 - 1) trivial rfl (by omega) (w.heap.size + 1 + 1 + 1 + 1) w.heap.size cap a it ho (by omega) w W0 (Nat.le_refl _) (by omega) hB0 fr hX0 hs) KpB.trans (fun W l o o' hl h1 h2 h3 => ?kb) (Below.refl _ _) (fun _ => rfl)
    (fun pre W => ∃ s v, foldB pre = some s ∧ LayS W (w.heap.size + 1 + 1 + 1) (w.heap.size + 1 + 1) pre.length v s.1 s.2 ∧ ResB W w.heap.size (.slice none 0 0) (.int .i64 0) ∧ Below w.heap.size w W)
    (fun c pre W => c = .ret ∧ foldB pre = none ∧ ResB W w.heap.size (.slice none 0 0) (.int .i64 1) ∧ Below w.heap.size w W)
    (fun pre A B row hs hg hr => ?hI)
    (fun c pre A B row hs hg hr => ?hIx)
    ⟨([], fun _ => none), _, rfl, hS0, hR0, hB0⟩
    (fun x a' W => ∃ Bx, PI W Bx 0 x.1.2 ∧ a' = { tmps := #[.slice a it.length cap, undef, .pointer (some ⟨w.heap.size, 0, none⟩), .pointer (some ⟨w.heap.size + 1, 0, none⟩), .pointer (some ⟨w.heap.size + 1 + 1 + 1, 0, none⟩), undef, .pointer (some ⟨Bx, 0, none⟩), .map (some (w.heap.size + 1 + 1)), .agg #[.slice none 0 0, .map (some (w.heap.size + 1 + 1))], .slice a it.length cap, .func (.func 61) #[] #[.pointer (some ⟨w.heap.size + 1 + 1 + 1 + 1, 0, none⟩)], .int .i64 (x.1.1 : Int), itV x.1.2, undef, undef, undef, undef, undef, undef, undef, undef, undef, undef, undef, undef], defers := [] })
    (fun x a' _ X Y row hs hg hr => ?hAx)
    ?assign ?body ?done ?stop
  case kb =>
    refine ⟨belowK_b (w := W0) (by omega) W l o o' hl h1 h2 h3, fun q c t f hq _ _ => ?_⟩
    have hne : some q ≠ some l := fun e => by
      injection e with e
      subst e
      rw [h1] at hq; cases hq; cases h2
    exact ((grownBy_putObj' W l o').block q (Array.getElem?_eq_some_iff.1 hq).1 hne).trans hq
  case hI =>
    obtain ⟨s, v, h1, h2, h3, h4⟩ := hs
    exact ⟨s, v, h1, h2.turn hg (by omega) hr, h3.turn hg (by omega) hr, ownFrom_below (β := Unit) (Nat.le_refl _) (show w.heap.size ≤ W0.heap.size by omega) () A B row h4 hg hr⟩
  case hIx =>
    obtain ⟨h0, h1, h3, h4⟩ := hs
    exact ⟨h0, h1, h3.turn hg (by omega) hr, ownFrom_below (β := Unit) (Nat.le_refl _) (show w.heap.size ≤ W0.heap.size by omega) () A B row h4 hg hr⟩
  case hAx =>
    obtain ⟨Bx, ⟨c0, c1, c2, c3, c4, c5⟩, h3⟩ := hs
    have hr2 := fun r e => (hr r e).2
    exact ⟨Bx, ⟨cell_kept c0 hg hr2, cell_kept c1 hg hr2, cell_kept c2 hg hr2, cell_kept c3 hg hr2, cell_kept c4 hg hr2, cell_kept c5 hg hr2⟩, h3⟩
  case assign =>
    rintro l pre ⟨⟨ix, ⟨kd, ⟨c, jt, jf, k⟩, tg⟩⟩, hok⟩ W K ⟨s, v, h1, h2, h3, h4⟩ hK
    have hba : ∀ ob, Below W.heap.size W (W.alloc ob) := fun ob => (Below.refl _ _).alloc (Nat.le_refl _) ob
    have hsW := h4.size
    gi_wp2
    refine hK _ _ ((KeepsOthers.alloc _ _).from _) ⟨(Below.refl _ W).alloc hsW _, FarT.of_below (hba _)⟩ ⟨s, v, h1, h2.keep (hba _), h3.keep (hba _) (by have := h2.lt; omega), h4.alloc hsW _⟩ ⟨W.heap.size, ⟨by simp, by simp, by simp, by simp, by simp, by simp⟩, rfl⟩
  case body =>
    rintro l pre ⟨⟨ix, x⟩, hok⟩ a' W hl hr ⟨s, v, h1, h2, h3, h4⟩ ⟨Bx, hP, rfl⟩ hlt
    obtain ⟨f1, f2⟩ := foldB_facts pre rfl h1
    have hpl : pre.length * 2 ≤ 800000 := by omega
    have HPut : Hid (Calls Try.prog 43 #[.pointer (some ⟨w.heap.size + 1 + 1 + 1, 0, none⟩), itV x] W fun e w' => PutPost (w.heap.size + 1 + 1 + 1) (w.heap.size + 1 + 1) pre.length (stI x s) W e w') := put_any W _ _ _ v s.1 s.2 x h2 hok f1 (by omega) (by omega)
    have HG : Hid (∀ w' t, stI x s = some t → PutPost (w.heap.size + 1 + 1 + 1) (w.heap.size + 1 + 1) pre.length (stI x s) W (.returned (.bool true)) w' → KeepsFrom W0.heap.size W w' ∧ KpB w.heap.size W w' ∧ ∃ s' v', foldB (pre ++ [⟨(ix, x), hok⟩]) = some s' ∧ LayS w' (w.heap.size + 1 + 1 + 1) (w.heap.size + 1 + 1) (pre ++ [(⟨(ix, x), hok⟩ : BI)]).length v' s'.1 s'.2 ∧ ResB w' w.heap.size (.slice none 0 0) (.int .i64 0) ∧ Below w.heap.size w w') := fun w' t ht hp => by
      obtain ⟨_, p1, p2⟩ := hp
      obtain ⟨v', p3⟩ := p1 t ht
      refine ⟨keepsFrom_up p2.k (by omega), ⟨p2.b.mono (by omega), p2.f⟩, t, v', ?_, ?_, h3.keep p2.b (by omega), h4.trans (p2.b.mono (by omega))⟩
      · rw [foldB_snoc, h1]; exact ht
      · rw [List.length_append]; exact p3
    have HS : Hid (∀ w' , stI x s = none → PutPost (w.heap.size + 1 + 1 + 1) (w.heap.size + 1 + 1) pre.length (stI x s) W (.returned (.bool false)) w' → ResB w' w.heap.size (.slice none 0 0) (.int .i64 0) ∧ (KeepsFrom W0.heap.size W ((w'.setCell ⟨w.heap.size, 0, none⟩ (.slice none 0 0)).setCell ⟨w.heap.size + 1, 0, none⟩ (.int .i64 1)) ∧ foldB (pre ++ [⟨(ix, x), hok⟩]) = none ∧ ResB ((w'.setCell ⟨w.heap.size, 0, none⟩ (.slice none 0 0)).setCell ⟨w.heap.size + 1, 0, none⟩ (.int .i64 1)) w.heap.size (.slice none 0 0) (.int .i64 1) ∧ Below w.heap.size w ((w'.setCell ⟨w.heap.size, 0, none⟩ (.slice none 0 0)).setCell ⟨w.heap.size + 1, 0, none⟩ (.int .i64 1)))) := fun w' ht hp => by
      obtain ⟨_, p1, p2⟩ := hp
      have hR := h3.keep p2.b (by omega)
      refine ⟨hR, (keepsFrom_up p2.k (by omega)).trans (((KeepsOthers.setCell _ _ _).trans (KeepsOthers.setCell _ _ _)).from _), ?_, hR.set _ _, ((h4.trans (p2.b.mono (by omega))).setCell (p := ⟨w.heap.size, 0, none⟩) (Nat.le_refl _) _).setCell (p := ⟨w.heap.size + 1, 0, none⟩) (by show w.heap.size ≤ w.heap.size + 1; omega) _⟩
      rw [foldB_snoc, h1]; exact ht
    have hR1 : (1 : Nat) ≤ 3 - 1 - 1 := by omega
    clear h1 h2 h3 h4 f1 f2
    obtain ⟨kd, ⟨c, jt, jf, k⟩, tg⟩ := x
    obtain ⟨c0, c1, c2, c3, c4, c5⟩ := hP
    simp only [itV, Nat.zero_add] at c0 c1 c2 c3 c4 c5 HPut
    cases hst : stI ⟨kd, ⟨c, jt, jf, k⟩, tg⟩ s with
    | none =>
      rw [hst] at HPut HS
      have HS2 := HS
      gi_wp2_with (refine ⟨trivial, ?_⟩; gi_at_call 43; refine (CallsIn.inRound l (callsIn_wide.2 HPut.out)).mono ?_; rintro e w1 ⟨rfl, hpp⟩; obtain ⟨⟨r0, r1, r2, r3⟩, hfin⟩ := HS2.out w1 (by first | rfl | trivial) ⟨rfl, hpp⟩)
      exact ⟨hfin.1, rfl, hfin.2⟩
    | some t =>
      rw [hst] at HPut HG
      have HG2 := HG
      gi_wp2_with (refine ⟨trivial, ?_⟩; gi_at_call 43; refine (CallsIn.inRound l (callsIn_wide.2 HPut.out)).mono ?_; rintro e w1 ⟨rfl, hpp⟩; have hfin := HG2.out w1 t (by first | rfl | trivial) ⟨rfl, hpp⟩)
      exact hfin
  case done =>
    rintro D ys W hD rfl ⟨s, v, h1, h2, h3, h4⟩ hK
    rw [foldB_upto it ho _ (Nat.le_refl _), Nat.sub_self, List.drop_zero] at h1
    by_cases h4096 : 4096 < s.1.length
    · obtain ⟨e1, e2⟩ := lay_big h1 h4096
      obtain ⟨av, cv, rfl, _⟩ := ownsI_src h2.own
      have q0 := h2.c0
      obtain ⟨r0, r1, r2, r3⟩ := h3
      have hlt' : (4096 : Int) < (s.1.length : Int) := by omega
      have hRf := (ResB.mk r0 r1 r2 r3).set (.slice none 0 0) (.int .i64 10)
      have hKf : ((W.setCell ⟨w.heap.size, 0, none⟩ (.slice none 0 0)).setCell ⟨w.heap.size + 1, 0, none⟩ (.int .i64 10)).heap[D]? = some (.deferred (some [])) := ((KeepsOthers.setCell _ _ _).trans (KeepsOthers.setCell _ _ _)).same D _ hK rfl
      have hBf : Below w.heap.size w ((W.setCell ⟨w.heap.size, 0, none⟩ (.slice none 0 0)).setCell ⟨w.heap.size + 1, 0, none⟩ (.int .i64 10)) := (h4.setCell (p := ⟨w.heap.size, 0, none⟩) (Nat.le_refl _) _).setCell (p := ⟨w.heap.size + 1, 0, none⟩) (by show w.heap.size ≤ w.heap.size + 1; omega) _
      have hF2 := hRf.fin hKf
      have HF : Hid (LayPost it w (.returned (.tuple #[.slice none 0 0, .int .i64 10])) (((W.setCell ⟨w.heap.size, 0, none⟩ (.slice none 0 0)).setCell ⟨w.heap.size + 1, 0, none⟩ (.int .i64 10)).putObj D (.deferred none))) := ⟨_, by rw [e1], by rw [e2]; exact World.ownsRow_nil _ _ _ _, hBf.trans (belowK_b (w := w) (Nat.le_refl _) _ D _ _ (by omega) hKf rfl rfl)⟩
      clear hRf h2
      gi_wp2
      refine ⟨by simp, .inl ⟨_, _, rfl, run_takeDeferred hKf, ?_⟩⟩
      exact ⟨.tuple #[.slice none 0 0, .int .i64 10], by simp [results, Try.results20, go_sem, hF2.1, hF2.2], HF.out⟩
    · obtain ⟨e1, e2⟩ := lay_ok h1 (by omega)
      obtain ⟨av, cv, hve, _⟩ := ownsI_src h2.own
      subst hve
      have q0 := h2.c0
      have qlt := h2.lt
      have hO := h2.own
      have hlt' : ¬ (4096 : Int) < (s.1.length : Int) := by omega
      have HRv : Hid (Calls Try.prog 44 #[.slice av s.1.length cv] W fun e w' => e = .returned (.tuple #[]) ∧ (ownsI w' (w.heap.size + 1 + 1 + 1 + 1) (.slice av s.1.length cv) s.1.reverse ∧ BO (w.heap.size + 1 + 1 + 1 + 1) W w') ∧ w'.cell? ⟨w.heap.size + 1 + 1 + 1, 0, none⟩ = some (.slice av s.1.length cv) ∧ ResB w' w.heap.size (.slice none 0 0) (.int .i64 0)) := (reverse_any W _ _ s.1 hO (by omega)).mono (by
        rintro e w' ⟨g1, g2, g3⟩
        exact ⟨g1, ⟨g2, g3⟩, (g3.1.cell (p := ⟨w.heap.size + 1 + 1 + 1, 0, none⟩) (by show w.heap.size + 1 + 1 + 1 < _; omega)).trans q0, h3.keep g3.1 (by omega)⟩)
      have HG : Hid (∀ w1, ownsI w1 (w.heap.size + 1 + 1 + 1 + 1) (.slice av s.1.length cv) s.1.reverse ∧ BO (w.heap.size + 1 + 1 + 1 + 1) W w1 → ResB w1 w.heap.size (.slice none 0 0) (.int .i64 0) → ∃ hKf : ((w1.setCell ⟨w.heap.size, 0, none⟩ (.slice av s.1.length cv)).setCell ⟨w.heap.size + 1, 0, none⟩ (.int .i64 0)).heap[D]? = some (.deferred (some [])), ((((w1.setCell ⟨w.heap.size, 0, none⟩ (.slice av s.1.length cv)).setCell ⟨w.heap.size + 1, 0, none⟩ (.int .i64 0)).putObj D (.deferred none)).cell? ⟨w.heap.size, 0, none⟩ = some (.slice av s.1.length cv) ∧ (((w1.setCell ⟨w.heap.size, 0, none⟩ (.slice av s.1.length cv)).setCell ⟨w.heap.size + 1, 0, none⟩ (.int .i64 0)).putObj D (.deferred none)).cell? ⟨w.heap.size + 1, 0, none⟩ = some (.int .i64 0)) ∧ LayPost it w (.returned (.tuple #[.slice av s.1.length cv, .int .i64 0])) (((w1.setCell ⟨w.heap.size, 0, none⟩ (.slice av s.1.length cv)).setCell ⟨w.heap.size + 1, 0, none⟩ (.int .i64 0)).putObj D (.deferred none))) := fun w1 hA hR => by
        obtain ⟨g2, g3⟩ := hA
        have hKf : ((w1.setCell ⟨w.heap.size, 0, none⟩ (.slice av s.1.length cv)).setCell ⟨w.heap.size + 1, 0, none⟩ (.int .i64 0)).heap[D]? = some (.deferred (some [])) := ((g3.2.trans (KeepsOthers.setCell _ _ _)).trans (KeepsOthers.setCell _ _ _)).same D _ hK rfl
        have hBf : Below w.heap.size w ((w1.setCell ⟨w.heap.size, 0, none⟩ (.slice av s.1.length cv)).setCell ⟨w.heap.size + 1, 0, none⟩ (.int .i64 0)) := ((h4.trans (g3.1.mono (by omega))).setCell (p := ⟨w.heap.size, 0, none⟩) (Nat.le_refl _) _).setCell (p := ⟨w.heap.size + 1, 0, none⟩) (by show w.heap.size ≤ w.heap.size + 1; omega) _
        refine ⟨hKf, (hR.set _ _).fin hKf, _, by rw [e1], ?_, hBf.trans (belowK_b (w := w) (Nat.le_refl _) _ D _ _ (by omega) hKf rfl rfl)⟩
        rw [e2]
        have e3 : s.1.length = s.1.reverse.length := by simp
        have o1 : w1.ownsRow (w.heap.size + 1 + 1 + 1 + 1) 51 4 (.slice av s.1.length cv) s.1.reverse.length (insCells s.1.reverse) := g2
        have o2 := ownsRow_putObj (ownsI_set2 o1 (R := w.heap.size) (by omega) (.slice av s.1.length cv) (.int .i64 0)) (.deferred none) hKf rfl
        exact World.ownsRow.mono o2 (by omega)
      clear h1 h2 h3 h4 hO h4096
      generalize s.1.reverse = rv at *
      generalize s.1.length = ln at *
      gi_wp2_with (refine ⟨trivial, ?_⟩; gi_at_call 44; refine (callsIn_wide.2 HRv.out).mono ?_; rintro e w1 ⟨rfl, hA, q1, hR1⟩; obtain ⟨hKf, hF2, hF⟩ := HG.out w1 hA hR1; obtain ⟨r0, r1, r2, r3⟩ := hR1)
      refine ⟨by simp, .inl ⟨_, _, rfl, run_takeDeferred hKf, ?_⟩⟩
      exact ⟨.tuple #[.slice av ln cv, .int .i64 0], by simp [results, Try.results20, go_sem, hF2.1, hF2.2], hF⟩
  case stop =>
    rintro D c pre W hD ⟨kk, hkk, rfl⟩ ⟨rfl, hf, hRR, hB⟩ hK
    rw [foldB_upto it ho _ hkk] at hf
    obtain ⟨e1, e2⟩ := lay_none (layI_part_none hf)
    have hF2 := hRR.fin hK
    have HF : Hid (LayPost it w (.returned (.tuple #[.slice none 0 0, .int .i64 1])) (W.putObj D (.deferred none))) := ⟨_, by rw [e1], by rw [e2]; exact World.ownsRow_nil _ _ _ _, hB.trans (belowK_b (w := w) (Nat.le_refl _) _ D _ _ (by omega) hK rfl rfl)⟩
    gi_wp2
    refine ⟨by simp, .inl ⟨_, _, rfl, run_takeDeferred hK, ?_⟩⟩
    exact ⟨.tuple #[.slice none 0 0, .int .i64 1], by simp [results, Try.results20, go_sem, hF2.1, hF2.2], HF.out⟩
end Go.Proofs.Ytoopomjkapeknaa
namespace Go.Proofs.Ytoopomjkapeknaa
open Go.RowKit
set_option linter.unusedVariables false

theorem PEC.stays : Stays PEC := fun w w' b o x hlt hb ⟨h0, h1, a, cap, h2, h3, h4⟩ => ⟨(hb.cell (p := ⟨b, _, none⟩) hlt).trans h0, (hb.cell (p := ⟨b, _, none⟩) hlt).trans h1, a, cap, (hb.cell (p := ⟨b, _, none⟩) hlt).trans h2, h3, h4.below PR.stays hb⟩
theorem PEC.plain {w : World} {b o : Nat} {e : E} (h : PEC w b o e) : PE w b o e := by
  obtain ⟨h0, h1, a, cap, h2, _, h3⟩ := h
  exact ⟨h0, h1, a, cap, h2, h3⟩
theorem PEC.plains {w : World} {a : Option Addr} {p : List E} (h : LSrc 3 PEC w a p) : LSrc 3 PE w a p := by
  rcases h with h | ⟨b, o, h1, h2, h3⟩
  · exact .inl h
  · exact .inr ⟨b, o, h1, h2, fun i hi => (h3 i hi).plain⟩
theorem PEG.capped {L : Nat} {w : World} {b o : Nat} {e : E} (h : PEG L w b o e) : PEC w b o e := by
  obtain ⟨h0, h1, _, a, cap, h2, h3, h4⟩ := h
  exact ⟨h0, h1, a, cap, h2, h4, h3.plain fun _ _ _ h => h.plain⟩
def cmpC (p : List E) : Int := if validP p = true then layC (itemsP p) else 1
def cmpL (p : List E) : List I := if validP p = true then layL (itemsP p) else []
theorem cmpL_len (p : List E) : (cmpL p).length ≤ 4096 := by
  unfold cmpL
  split
  · exact layL_len _
  · simp
def CmpPost (p : List E) (w : World) (e : Ending) (w' : World) : Prop := ∃ v, e = .returned (.tuple #[v, .int .i64 (cmpC p)]) ∧ ownsI w' w.heap.size v (cmpL p) ∧ Below w.heap.size w w'
theorem WrS.new (w : World) : WrS (w.alloc (.cells #[.slice none 0 0, .int .i64 0] 45)) w.heap.size (.slice none 0 0) [] 0 :=
  ⟨by simp, by simp, by simp, by simp, ⟨_, _, heap_alloc_new _ _⟩, World.ownsRow_nil _ _ _ _⟩

set_option maxRecDepth 100000 in
set_option maxHeartbeats 4000000 in
theorem implCmp_any (p : List E) (a : Option Addr) (cap : Nat) (w : World) (hs : LSrc 3 PEC w a p) (hcap : p.length ≤ cap) (ho : okP p) (hn : p.length ≤ 16777216) (hm : ∀ e ∈ p, e.rules.length ≤ 16777216) (hr : ∀ e ∈ p, ∀ r ∈ e.rules, r.length ≤ 16777216) :
    Calls Try.prog 7 #[.agg #[.slice a p.length cap]] w fun e w' => CmpPost p w e w' := by
  have HV : Hid (∀ w1, Below w.heap.size w w1 → Calls Try.prog 18 #[.agg #[.slice a p.length cap]] w1 fun e w' => e = .returned (.bool (validP p)) ∧ Below w1.heap.size w1 w') := fun w1 hb => implValidP_any p a cap w1 ((PEC.plains hs).below PE.stays hb) ho hn hm hr
  have HNo : Hid (validP p = false → ∀ w1, Below w.heap.size w w1 → CmpPost p w (.returned (.tuple #[.slice none 0 0, .int .i64 1])) w1) := fun h w1 hb => by
    refine ⟨.slice none 0 0, ?_, ?_, hb⟩
    · unfold cmpC; rw [if_neg (by rw [h]; decide)]
    · unfold cmpL; rw [if_neg (by rw [h]; decide)]; exact World.ownsRow_nil _ _ _ _
  have HP : Hid (validP p = true → ∀ w2 F, w.heap.size ≤ F → Below w.heap.size w w2 → WrS w2 F (.slice none 0 0) [] 0 → Calls Try.prog 19 #[.pointer (some ⟨F, 0, none⟩), .slice a p.length cap] w2 fun e w' => e = .returned (.tuple #[]) ∧ ∃ a3 n3 c3, w'.cell? ⟨F, 0, none⟩ = some (.slice a3 n3 c3) ∧ Below w.heap.size w w' ∧ Calls Try.prog 20 #[.slice a3 n3 c3] w' fun e w'' => ∃ v c, e = .returned (.tuple #[v, c]) ∧ CmpPost p w (.returned (.tuple #[v, c])) w'') := fun hv w2 F hF hb hS => by
    obtain ⟨h1, h2, h3, h4⟩ := valid_WrE hv ho
    refine (policy_any w w2 F hF _ p a cap hS hs hb h1 hcap (by omega) (by omega)).mono ?_
    rintro e w' ⟨rfl, ⟨v', hS'⟩, hK⟩
    obtain ⟨a3, c3, rfl, _, ht⟩ := ownsT_src hS'.own
    have hb' : Below w.heap.size w w' := hb.trans (hK.b.mono hF)
    have hl := itemsP_len p h1
    refine ⟨rfl, a3, _, c3, hS'.c0, hb', (layOut_any (itemsP p) a3 c3 w' ht (itemsP_ok p h1 h2 (by omega)) (by omega)).mono ?_⟩
    rintro e w'' ⟨v, rfl, ho', hb''⟩
    refine ⟨v, _, rfl, v, ?_, ?_, below_step hb'' hb'⟩
    · unfold cmpC; rw [if_pos hv]
    · unfold cmpL; rw [if_pos hv]; exact World.ownsRow.mono ho' hb'.size
  clear hs ho hn hm hr
  generalize validP p = V at *
  generalize p.length = n at *
  have B0 : Below w.heap.size w (w.alloc (.cells #[.slice a n cap] 31)) := (Below.refl _ _).alloc (Nat.le_refl _) _
  have x0 : (w.alloc (.cells #[.slice a n cap] 31)).cell? ⟨w.heap.size, 0, none⟩ = some (.slice a n cap) := by simp
  go_enter Try.func7, Try.ntmps7
  go_wp2_with fail
  refine (HV.out _ B0).mono ?_
  rintro _ w1 ⟨rfl, hb1⟩
  have B1 := below_step hb1 B0
  have x1 := cell_step hb1 x0
  clear hb1 B0 x0 HV
  cases V with
  | false =>
    have HF : Hid (CmpPost p w (.returned (.tuple #[.slice none 0 0, .int .i64 1])) w1) := HNo.out (by first | rfl | trivial) w1 B1
    clear HNo HP B1 x1
    go_wp2
    exact bodyPost_ret (v := .tuple #[.slice none 0 0, .int .i64 1]) (by simp [results, Try.results7, go_sem]) rfl HF.out
  | true =>
    have hb2 : Below w1.heap.size w1 (w1.alloc (.cells #[.slice none 0 0, .int .i64 0] 45)) := (Below.refl _ _).alloc (Nat.le_refl _) _
    have HQ : Hid (Calls Try.prog 19 #[.pointer (some ⟨w1.heap.size, 0, none⟩), .slice a n cap] (w1.alloc (.cells #[.slice none 0 0, .int .i64 0] 45)) fun e w' => e = .returned (.tuple #[]) ∧ ∃ a3 n3 c3, w'.cell? ⟨w1.heap.size, 0, none⟩ = some (.slice a3 n3 c3) ∧ Below w.heap.size w w' ∧ Calls Try.prog 20 #[.slice a3 n3 c3] w' fun e w'' => ∃ v c, e = .returned (.tuple #[v, c]) ∧ CmpPost p w (.returned (.tuple #[v, c])) w'') := HP.out (by first | rfl | trivial) _ _ B1.size (below_step hb2 B1) (WrS.new w1)
    have x2 := cell_step hb2 x1
    clear HNo HP B1 hb2
    go_wp2_with fail
    refine (HQ.out).mono ?_
    generalize w1.heap.size = F at *
    rintro _ w3 ⟨rfl, a3, n3, c3, hc3, _, hL⟩
    have HL : Hid (Calls Try.prog 20 #[.slice a3 n3 c3] w3 fun e w'' => ∃ v c, e = .returned (.tuple #[v, c]) ∧ CmpPost p w (.returned (.tuple #[v, c])) w'') := hL
    clear hL HQ x2 x1
    go_wp2_with fail
    refine (HL.out).mono ?_
    rintro _ w4 ⟨v, c, rfl, hF⟩
    have HF : Hid (CmpPost p w (.returned (.tuple #[v, c])) w4) := hF
    clear hF HL hc3
    go_wp2
    exact bodyPost_ret (v := .tuple #[v, c]) (by simp [results, Try.results7, go_sem]) rfl HF.out
end Go.Proofs.Ytoopomjkapeknaa
