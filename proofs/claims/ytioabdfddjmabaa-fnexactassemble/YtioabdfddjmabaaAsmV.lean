/-
  CONTRACT of slices.Reverse over instructions.
-/
import Derived.Test.YtioabdfddjmabaaAsmG
import Derived.Test.YtioabdfddjmabaaOwnS
namespace Go.Proofs.Ytioabdfddjmabaa
open Go.RowKit
set_option linter.unusedVariables false

theorem getD_set_any (p : List I) (i j : Nat) (y z : I) : (p.set i y).getD j z = if i = j ∧ i < p.length then y else p.getD j z := by
  simp only [List.getD_eq_getElem?_getD, List.getElem?_set]
  by_cases h : i = j
  · subst h
    by_cases hl : i < p.length
    · simp [hl]
    · simp [hl]
  · simp [h]
/-- the first k and the last k have changed places -/
def Swp (p q : List I) (k : Nat) : Prop := q.length = p.length ∧ ∀ i, i < p.length → q.getD i I.zero = if i < k ∨ p.length - k ≤ i then p.getD (p.length - 1 - i) I.zero else p.getD i I.zero
theorem Swp.start (p : List I) : Swp p p 0 := ⟨rfl, fun i hi => by rw [if_neg (by omega)]⟩
theorem Swp.step {p q : List I} {k : Nat} (h : Swp p q k) (hk : k + k + 1 < p.length) : Swp p ((q.set k (q.getD (p.length - 1 - k) I.zero)).set (p.length - 1 - k) (q.getD k I.zero)) (k + 1) := by
  obtain ⟨h1, h2⟩ := h
  refine ⟨by simpa using h1, fun i hi => ?_⟩
  rw [getD_set_any, getD_set_any]
  simp only [List.length_set]
  have e1 := h2 k (by omega)
  have e2 := h2 (p.length - 1 - k) (by omega)
  rw [if_neg (by omega)] at e1 e2
  by_cases c1 : p.length - 1 - k = i
  · rw [if_pos ⟨c1, by omega⟩, if_pos (by omega), e1]
    congr 1; omega
  · rw [if_neg (fun h => c1 h.1)]
    by_cases c2 : k = i
    · rw [if_pos ⟨c2, by omega⟩, if_pos (by omega), e2, c2]
    · rw [if_neg (fun h => c2 h.1), h2 i hi]
      by_cases c3 : i < k ∨ p.length - k ≤ i
      · rw [if_pos c3, if_pos (by omega)]
      · rw [if_neg c3, if_neg (by omega)]
theorem Swp.done {p q : List I} {k : Nat} (h : Swp p q k) (hk : ¬ k + k + 1 < p.length) : q = p.reverse := by
  obtain ⟨h1, h2⟩ := h
  apply List.ext_getElem
  · simpa using h1
  · intro i hi hj
    have hp : i < p.length := by omega
    have e := h2 i hp
    rw [List.getD_eq_getElem?_getD, List.getElem?_eq_getElem hi] at e
    rw [List.getElem_reverse]
    have e3 : p.getD (p.length - 1 - i) I.zero = p[p.length - 1 - i] := by rw [List.getD_eq_getElem?_getD, List.getElem?_eq_getElem (by omega)]; rfl
    by_cases c : i < k ∨ p.length - k ≤ i
    · rw [if_pos c] at e
      exact Eq.trans e e3
    · rw [if_neg c] at e
      have : p.length - 1 - i = i := by omega
      exact Eq.trans e ((show p.getD i I.zero = p.getD (p.length - 1 - i) I.zero by rw [this]).trans e3)

/-- what lay below stays, and all that is no cells -/
def BO (B : Nat) (w w' : World) : Prop := Below B w w' ∧ KeepsOthers w w'
theorem BO.set {B : Nat} {a b : World} (h : BO B a b) {p : Addr} (hp : B ≤ p.block) (v : Value) : BO B a (b.setCell p v) := ⟨h.1.setCell hp v, h.2.trans (KeepsOthers.setCell _ _ _)⟩
theorem BO.set4 {B : Nat} {W w : World} (h : BO B W w) {D : Nat} (hD : B ≤ D) (o : Nat) (a b c d : Value) : BO B W ((((w.setCell ⟨D, o, none⟩ a).setCell ⟨D, o + 1, none⟩ b).setCell ⟨D, o + 2, none⟩ c).setCell ⟨D, o + 3, none⟩ d) := (((h.set (p := ⟨D, _, none⟩) hD _).set (p := ⟨D, _, none⟩) hD _).set (p := ⟨D, _, none⟩) hD _).set (p := ⟨D, _, none⟩) hD _
theorem BO.drew {B : Nat} {a b : World} (h : BO B a b) : BO B a b.drew := ⟨h.1.drew, h.2.trans (KeepsOthers.drew _)⟩
theorem own_frozen {w : World} {B e s n cap g : Nat} {xs : List Value} (h : w.ownsRow B e s (.slice (some ⟨g, 0, none⟩) n cap) n xs) (j : Nat) : w.frozen? ⟨g, j, none⟩ = false := by
  obtain ⟨_, ⟨h, _⟩ | ⟨g', cap, cur, e, hb, hgc, _⟩⟩ := h
  · cases h
  · cases e
    simp [World.frozen?, hgc]

set_option maxRecDepth 100000 in
set_option maxHeartbeats 4000000 in
theorem reverse_any (w : World) (B : Nat) (v : Value) (p : List I) (ho : ownsI w B v p) (hn : p.length ≤ 1000000) :
    Calls Try.prog 30 #[v] w fun e w' => e = .returned (.tuple #[]) ∧ ownsI w' B v p.reverse ∧ BO B w w' := by
  obtain ⟨a, cap, rfl, hsr⟩ := ownsI_src ho
  by_cases h0 : p.length = 0
  · have hp : p = [] := List.eq_nil_of_length_eq_zero h0
    subst hp
    simp only [List.length_nil]
    go_enter Try.func30, Try.ntmps30
    go_wp2_with fail
    go_loopw [2, 3] (fun i j wr => i = .int .i64 0 ∧ j = .int .i64 (-1) ∧ wr = w) (fun _ _ _ => 0)
    case atStart => exact ⟨rfl, rfl, rfl⟩
    case round =>
      obtain ⟨rfl, rfl, rfl⟩ := hrel
      go_wp2
      go_end0
      exact ⟨rfl, ho, Below.refl _ _, KeepsOthers.refl _⟩
  · obtain ⟨g, rfl, hBg⟩ : ∃ g, a = some ⟨g, 0, none⟩ ∧ B ≤ g := by
      obtain ⟨_, ⟨h, _⟩ | ⟨g, cap', cur, e, hb, _⟩⟩ := ho
      · injection h with h1 h2; omega
      · injection e with e1 e2 e3; exact ⟨g, e1, hb⟩
    have HS : Hid (∀ q k, Swp p q k → k + k + 1 < p.length → Swp p ((q.set k (q.getD (p.length - 1 - k) I.zero)).set (p.length - 1 - k) (q.getD k I.zero)) (k + 1)) := fun q k h hk => h.step hk
    have HD : Hid (∀ q k, Swp p q k → ¬ k + k + 1 < p.length → q = p.reverse) := fun q k h hk => h.done hk
    have HA : Hid (∀ (wr : World) (q : List I) (i : Nat) (y : I), q.length = p.length → wr.ownsRow B 38 4 (.slice (some ⟨g, 0, none⟩) p.length cap) p.length (insCells q) → i < p.length → ((((wr.setCell ⟨g, i * 4, none⟩ (.int .u16 y.c)).setCell ⟨g, i * 4 + 1, none⟩ (.int .u8 y.jt)).setCell ⟨g, i * 4 + 2, none⟩ (.int .u8 y.jf)).setCell ⟨g, i * 4 + 3, none⟩ (.int .u32 y.k)).ownsRow B 38 4 (.slice (some ⟨g, 0, none⟩) p.length cap) p.length (insCells (q.set i y))) := fun wr q i y hq h hi => ownsI_all hq h (by omega) y
    have HP : Hid (∀ (wr : World) (q : List I), q.length = p.length → wr.ownsRow B 38 4 (.slice (some ⟨g, 0, none⟩) p.length cap) p.length (insCells q) → ∀ i, i < p.length → wr.cell? ⟨g, i * 4, none⟩ = some (.int .u16 (q.getD i I.zero).c) ∧ wr.cell? ⟨g, i * 4 + 1, none⟩ = some (.int .u8 (q.getD i I.zero).jt) ∧ wr.cell? ⟨g, i * 4 + 2, none⟩ = some (.int .u8 (q.getD i I.zero).jf) ∧ wr.cell? ⟨g, i * 4 + 3, none⟩ = some (.int .u32 (q.getD i I.zero).k)) := fun wr q hq h i hi => by
      have h' : ownsI wr B (.slice (some ⟨g, 0, none⟩) q.length cap) q := by rw [← hq] at h; exact h
      obtain ⟨a', c', e, hs⟩ := ownsI_src h'
      cases e
      obtain ⟨b, o, e, _, h0, h1, h2, h3⟩ := hs.at (i := i) (by omega)
      cases e
      simp only [Nat.zero_add] at h0 h1 h2 h3
      exact ⟨h0, h1, h2, h3⟩
    have HPr : Hid (p.reverse = p.reverse) := rfl
    have hSt := Swp.start p
    generalize p.reverse = pr at *
    generalize hpl : p.length = n at *
    have hw : IntKind.i64.wrap ((n : Int) - 1) = (n : Int) - 1 := by rw [IntKind.wrap_i64]; omega
    go_enter Try.func30, Try.ntmps30
    go_wp2_with fail
    have ho' : w.ownsRow B 38 4 (.slice (some ⟨g, 0, none⟩) n cap) n (insCells p) := by have := ho; rw [ownsI, hpl] at this; exact this
    go_loopw [2, 3] (fun i j wr => ∃ (k : Nat) (q : List I), i = .int .i64 k ∧ j = .int .i64 ((n : Int) - 1 - k) ∧ k + k ≤ n ∧ q.length = n ∧ Hid (Swp p q k) ∧ Hid (wr.ownsRow B 38 4 (.slice (some ⟨g, 0, none⟩) n cap) n (insCells q)) ∧ Hid (BO B w wr)) (fun i _ _ => n - (intOf i).toNat)
    case atStart => exact ⟨0, p, rfl, by first | rfl | simp, by omega, hpl, hSt, ho', Below.refl _ _, KeepsOthers.refl _⟩
    case round =>
      obtain ⟨k, q, rfl, rfl, hk, hq, hSw, hO, hB⟩ := hrel
      have hi1 : (n : Int) - 1 - k = ((n - 1 - k : Nat) : Int) := by omega
      rw [hi1]
      by_cases hlt : k + k + 1 < n
      · have hc : (k : Int) < ((n - 1 - k : Nat) : Int) := by omega
        have hkn : (k : Int) < (n : Int) := by omega
        have hjn : ((n - 1 - k : Nat) : Int) < (n : Int) := by omega
        obtain ⟨a0, a1, a2, a3⟩ := HP.out wr q hq hO.out k (by omega)
        obtain ⟨b0, b1, b2, b3⟩ := HP.out wr q hq hO.out (n - 1 - k) (by omega)
        have hSw' : Hid (Swp p ((q.set k (q.getD (n - 1 - k) I.zero)).set (n - 1 - k) (q.getD k I.zero)) (k + 1)) := HS.out q k hSw.out hlt
        have hO1 := HA.out wr q k (q.getD (n - 1 - k) I.zero) hq hO.out (by omega)
        have hO2 := HA.out _ _ (n - 1 - k) (q.getD k I.zero) (by simpa using hq) hO1 (by omega)
        have hF := own_frozen hO.out
        have hw1 : IntKind.i64.wrap ((k : Int) + 1) = ((k + 1 : Nat) : Int) := by rw [IntKind.wrap_i64]; omega
        have hw2 : IntKind.i64.wrap (((n - 1 - k : Nat) : Int) - 1) = (n : Int) - 1 - ((k + 1 : Nat) : Int) := by rw [IntKind.wrap_i64]; omega
        have hq' : ∀ x y, ((q.set k x).set (n - 1 - k) y).length = n := fun x y => by simpa using hq
        have hne : k ≠ n - 1 - k := by omega
        generalize q.getD (n - 1 - k) I.zero = y at *
        generalize q.getD k I.zero = x at *
        have hk2 : k + 1 + (k + 1) ≤ n := by omega
        generalize n - 1 - k = j at *
        obtain ⟨xc, xjt, xjf, xk⟩ := x
        obtain ⟨yc, yjt, yjf, yk⟩ := y
        simp only at a0 a1 a2 a3 b0 b1 b2 b3 hO2 hSw'
        have HO3 : Hid (((((((((wr.setCell ⟨g, k * 4, none⟩ (.int .u16 yc)).setCell ⟨g, k * 4 + 1, none⟩ (.int .u8 yjt)).setCell ⟨g, k * 4 + 2, none⟩ (.int .u8 yjf)).setCell ⟨g, k * 4 + 3, none⟩ (.int .u32 yk)).setCell ⟨g, j * 4, none⟩ (.int .u16 xc)).setCell ⟨g, j * 4 + 1, none⟩ (.int .u8 xjt)).setCell ⟨g, j * 4 + 2, none⟩ (.int .u8 xjf)).setCell ⟨g, j * 4 + 3, none⟩ (.int .u32 xk)).ownsRow B 38 4 (.slice (some ⟨g, 0, none⟩) n cap) n (insCells ((q.set k ⟨yc, yjt, yjf, yk⟩).set j ⟨xc, xjt, xjf, xk⟩))) := hO2
        clear hO2
        have hBn := BO.set4 (BO.set4 hB.out hBg (k * 4) (.int .u16 yc) (.int .u8 yjt) (.int .u8 yjf) (.int .u32 yk)) hBg (j * 4) (.int .u16 xc) (.int .u8 xjt) (.int .u8 xjf) (.int .u32 xk)
        have HBn : Hid (BO B w ((((((((wr.setCell ⟨g, k * 4, none⟩ (.int .u16 yc)).setCell ⟨g, k * 4 + 1, none⟩ (.int .u8 yjt)).setCell ⟨g, k * 4 + 2, none⟩ (.int .u8 yjf)).setCell ⟨g, k * 4 + 3, none⟩ (.int .u32 yk)).setCell ⟨g, j * 4, none⟩ (.int .u16 xc)).setCell ⟨g, j * 4 + 1, none⟩ (.int .u8 xjt)).setCell ⟨g, j * 4 + 2, none⟩ (.int .u8 xjf)).setCell ⟨g, j * 4 + 3, none⟩ (.int .u32 xk))) := hBn
        have hZ1 : ((k + 1 : Nat) : Int) = (k : Int) + 1 := by omega
        have hZ2 : (n : Int) - 1 - ((k + 1 : Nat) : Int) = (j : Int) - 1 := by omega
        clear HS hBn HD HA HP hSw hO hO1 ho ho' hsr hSt
        go_wp2_with fail
        go_region
        all_goals
          go_wp2
          go_roundw
          case rel =>
            refine ⟨k + 1, (q.set k ⟨yc, yjt, yjf, yk⟩).set j ⟨xc, xjt, xjf, xk⟩, congrArg (Value.int .i64) (by omega), congrArg (Value.int .i64) (by omega), hk2, hq' _ _, hSw', ?_, ?_⟩
            · exact World.ownsRow.drew HO3.out
            · exact BO.drew HBn.out
          case measure => simp [intOf]; omega
      · have hc : ¬ (k : Int) < ((n - 1 - k : Nat) : Int) := by omega
        have hE := HD.out q k hSw.out hlt
        subst hE
        have HO2 : Hid _ := hO.out
        clear HS HD HA HP hSw hO ho ho' hsr hSt
        go_wp2
        go_end0
        refine ⟨rfl, ?_, hB.out⟩
        have := HO2.out
        rw [ownsI, hq]
        exact this
end Go.Proofs.Ytioabdfddjmabaa
