/-
  RevP, MnA, MnB
-/
import Derived.Test.YtoamapdfcdefjaaGreatQ14
import Derived.Test.YtoamapdfcdefjaaGreatQ22
import Derived.Test.YtoamapdfcdefjaaGreatQ21
import Derived.Test.YtoamapdfcdefjaaGreatQ10
import Derived.Test.YtoamapdfcdefjaaGreatQ04
import Derived.Deep.Cut
import Derived.Deep.RegionHeld3
namespace Go.Proofs.YtoamapdfcdefjaaGreat
open Go.RowKit Go.Deep
set_option linter.unusedVariables false

def swapL {α : Type} (l : List α) (d : α) (s t : Nat) : List α := (l.set s (l.getD t d)).set t (l.getD s d)
theorem swapL_len {α : Type} (l : List α) (d : α) (s t : Nat) : (swapL l d s t).length = l.length := by simp [swapL]
theorem swapL_get {α : Type} (l : List α) (d : α) {s t : Nat} (hs : s < l.length) (ht : t < l.length) (u : Nat) : (swapL l d s t).getD u d = if u = t then l.getD s d else if u = s then l.getD t d else l.getD u d := by
  unfold swapL
  rw [getD_putD _ t u _ _ (by simpa using ht)]
  by_cases e : u = t
  · rw [if_pos e, if_pos e]
  · rw [if_neg e, if_neg e, getD_putD _ s u _ _ hs]
theorem swapL_mem {α : Type} (l : List α) (d : α) {s t : Nat} (hs : s < l.length) (ht : t < l.length) (x : α) : x ∈ swapL l d s t ↔ x ∈ l := by
  have e1 : l.getD s d = l[s] := by rw [List.getD_eq_getElem?_getD, List.getElem?_eq_getElem hs]; rfl
  have e2 : l.getD t d = l[t] := by rw [List.getD_eq_getElem?_getD, List.getElem?_eq_getElem ht]; rfl
  unfold swapL
  rw [e1, e2]
  exact (List.set_set_perm hs ht).mem_iff
def swapP (P : List E) (i s t : Nat) : List E := P.set i ⟨(P.getD i E.zero).arch, (P.getD i E.zero).nr, swapL (rulesAt P i) [] s t⟩

/-- the same entries, their rules in another order -/
def PermP (P Q : List E) : Prop := Q.length = P.length ∧ ∀ i, i < P.length → (Q.getD i E.zero).arch = (P.getD i E.zero).arch ∧ (Q.getD i E.zero).nr = (P.getD i E.zero).nr ∧ (rulesAt Q i).length = (rulesAt P i).length ∧ ∀ r, r ∈ rulesAt P i ↔ r ∈ rulesAt Q i
theorem PermP.refl (P : List E) : PermP P P := ⟨rfl, fun i hi => ⟨rfl, rfl, rfl, fun r => Iff.rfl⟩⟩
theorem PermP.trans {P Q R : List E} (h : PermP P Q) (k : PermP Q R) : PermP P R := ⟨k.1.trans h.1, fun i hi => by
  obtain ⟨a1, a2, a3, a4⟩ := h.2 i hi
  obtain ⟨b1, b2, b3, b4⟩ := k.2 i (by have := h.1; omega)
  exact ⟨b1.trans a1, b2.trans a2, b3.trans a3, fun r => (a4 r).trans (b4 r)⟩⟩
theorem PermP.swap (P : List E) {i s t : Nat} (hi : i < P.length) (hs : s < (rulesAt P i).length) (ht : t < (rulesAt P i).length) : PermP P (swapP P i s t) := by
  refine ⟨by simp [swapP], fun u hu => ?_⟩
  have e : (swapP P i s t).getD u E.zero = if u = i then ⟨(P.getD i E.zero).arch, (P.getD i E.zero).nr, swapL (rulesAt P i) [] s t⟩ else P.getD u E.zero := getD_putD P i u _ _ hi
  show ((swapP P i s t).getD u E.zero).arch = _ ∧ ((swapP P i s t).getD u E.zero).nr = _ ∧ ((swapP P i s t).getD u E.zero).rules.length = _ ∧ ∀ r, r ∈ rulesAt P u ↔ r ∈ ((swapP P i s t).getD u E.zero).rules
  rw [e]
  by_cases h : u = i
  · subst h
    rw [if_pos rfl]
    exact ⟨rfl, rfl, swapL_len _ _ _ _, fun r => (swapL_mem _ _ hs ht r).symm⟩
  · rw [if_neg h]
    exact ⟨rfl, rfl, rfl, fun r => Iff.rfl⟩
theorem PermP.min {P Q out : List E} (h : PermP P Q) (hm : IsMin P out) : IsMin Q out := by
  refine ⟨hm.1.trans h.1.symm, fun i hi => ?_⟩
  have hi' : i < P.length := by have := h.1; omega
  obtain ⟨a1, a2, _, a4⟩ := h.2 i hi'
  obtain ⟨b1, b2, b3⟩ := hm.2 i hi'
  exact ⟨b1.trans a1.symm, b2.trans a2.symm, b3.perm a4⟩
theorem PermP.ok {P Q : List E} (h : PermP P Q) (ho : okP P) : okP Q := fun e he => by
  obtain ⟨i, hi, rfl⟩ := List.getElem_of_mem he
  have hi' : i < P.length := by have := h.1; omega
  have e1 : Q[i] = Q.getD i E.zero := by rw [List.getD_eq_getElem?_getD, List.getElem?_eq_getElem hi]; rfl
  obtain ⟨a1, a2, _, a4⟩ := h.2 i hi'
  obtain ⟨o1, o2, o3⟩ := okP_at ho i
  rw [e1]
  exact ⟨by rw [a1]; exact o1, by rw [a2]; exact o2, fun r hr => o3 r ((a4 r).2 hr)⟩
theorem totalR_perm {P Q : List E} (h : PermP P Q) : totalR Q ≤ totalR P := totalR_mono h.1 (fun i hi => by
  have := (h.2 i (by have := h.1; omega)).2.2.1
  exact Nat.le_of_eq this)
theorem PermP.valid {P Q : List E} (h : PermP P Q) (hv : validP P = true) : validP Q = true := by
  have hst : ∀ i, i < Q.length → stepOk Q i = true := fun i hi => by
    have hi' : i < P.length := by have := h.1; omega
    obtain ⟨v1, v2⟩ := validP_parts hv hi'
    obtain ⟨p1, p2, p3⟩ := validE_parts v1
    obtain ⟨a1, a2, a3, a4⟩ := h.2 i hi'
    have hE : validE (Q.getD i E.zero) = true := validE_mk (by show 1 ≤ (rulesAt Q i).length; rw [a3]; exact p1) (by show (rulesAt Q i).length ≤ 200; rw [a3]; exact p2) (fun r hr => p3 r ((a4 r).2 hr))
    unfold stepOk
    rw [hE, Bool.and_true]
    by_cases h0 : i = 0
    · rw [h0]; rfl
    · have hb := v2 (by omega)
      obtain ⟨c1, c2, _⟩ := h.2 (i - 1) (by omega)
      have : befE (Q.getD (i - 1) E.zero) (Q.getD i E.zero) = true := by
        unfold befE at hb ⊢
        rw [a1, a2, c1, c2]; exact hb
      rw [this, Bool.or_true]
  rw [validP_yes hst]
  have h1 : totalR P ≤ 1000 := by
    unfold validP at hv
    simp at hv
    exact hv.2
  have := totalR_perm h
  simp; omega

theorem PsC.swap {w : World} {v : Value} {P : List E} {g : Nat} {gb : Nat → Nat} {cb : Nat → Nat → Nat} (h : PsC w v P g gb cb) {i s t : Nat} (hi : i < P.length) (hs : s < (rulesAt P i).length) (ht : t < (rulesAt P i).length) (hst : s ≠ t) {x y : Value} (hx : w.cell? ⟨gb i, s, none⟩ = some x) (hy : w.cell? ⟨gb i, t, none⟩ = some y) :
    PsC ((w.setCell ⟨gb i, s, none⟩ y).setCell ⟨gb i, t, none⟩ x) v (swapP P i s t) g gb (fun u q => if u = i then (if q = t then cb i s else if q = s then cb i t else cb i q) else cb u q) := by
  obtain ⟨W, hW⟩ : ∃ W, ((w.setCell ⟨gb i, s, none⟩ y).setCell ⟨gb i, t, none⟩ x) = W := ⟨_, rfl⟩
  have hsz : W.heap.size = w.heap.size := by rw [← hW]; simp
  have hfz : ∀ b o, W.frozen? ⟨b, o, none⟩ = w.frozen? ⟨b, o, none⟩ := fun b o => by rw [← hW]; simp
  have hcl : ∀ b o, ¬ (b = gb i ∧ (o = s ∨ o = t)) → W.cell? ⟨b, o, none⟩ = w.cell? ⟨b, o, none⟩ := fun b o hn => by
    rw [← hW, cell_otherA (fun e => hn ⟨e.1, .inr e.2⟩), cell_otherA (fun e => hn ⟨e.1, .inl e.2⟩)]
  have hct : W.cell? ⟨gb i, t, none⟩ = some x := by rw [← hW]; exact World.cell?_setCell_same _ _ _ ((cell_otherA (fun e => hst e.2.symm)).trans hy)
  have hcs : W.cell? ⟨gb i, s, none⟩ = some y := by rw [← hW, cell_otherA (fun e => hst e.2)]; exact World.cell?_setCell_same _ _ _ hx
  rw [hW]
  clear hW
  have eE : ∀ u, (swapP P i s t).getD u E.zero = if u = i then ⟨(P.getD i E.zero).arch, (P.getD i E.zero).nr, swapL (rulesAt P i) [] s t⟩ else P.getD u E.zero := fun u => getD_putD P i u _ _ hi
  have hl : (swapP P i s t).length = P.length := by simp [swapP]
  generalize swapP P i s t = P' at *
  have hn : P' ≠ [] → P ≠ [] := fun h1 h2 => h1 (by rw [← List.length_eq_zero_iff, hl, h2]; rfl)
  have eR : ∀ u, (rulesAt P' u).length = (rulesAt P u).length := fun u => by
    show (P'.getD u E.zero).rules.length = _
    rw [eE]; by_cases e : u = i
    · subst e; rw [if_pos rfl]; exact swapL_len _ _ _ _
    · rw [if_neg e]
  have eA : ∀ u, (P'.getD u E.zero).arch = (P.getD u E.zero).arch ∧ (P'.getD u E.zero).nr = (P.getD u E.zero).nr := fun u => by
    rw [eE]; by_cases e : u = i
    · subst e; rw [if_pos rfl]; exact ⟨rfl, rfl⟩
    · rw [if_neg e]; exact ⟨rfl, rfl⟩
  -- where the rule number q of entry u came from
  have eS : ∀ u q, u < P.length → q < (rulesAt P u).length → ∃ q', q' < (rulesAt P u).length ∧ ruleAt P' u q = ruleAt P u q' ∧ (if u = i then (if q = t then cb i s else if q = s then cb i t else cb i q) else cb u q) = cb u q' ∧ W.cell? ⟨gb u, q, none⟩ = w.cell? ⟨gb u, q', none⟩ ∧ (∀ p p', p < (rulesAt P u).length → (if u = i then (if p = t then cb i s else if p = s then cb i t else cb i p) else cb u p) = cb u p' → p' < (rulesAt P u).length → p ≠ q → p' ≠ q') := fun u q hu hq => by
    by_cases e : u = i
    · subst e
      have er : ruleAt P' u q = (swapL (rulesAt P u) [] s t).getD q [] := by show (P'.getD u E.zero).rules.getD q [] = _; rw [eE, if_pos rfl]
      rw [er, swapL_get _ _ hs ht]
      have inj : ∀ p p', p < (rulesAt P u).length → p' < (rulesAt P u).length → cb u p = cb u p' → p = p' := fun p p' h1 h2 h3 => by
        by_cases hp : p = p'
        · exact hp
        · exact absurd h3 (h.dcc u p u p' hu h1 hu h2 (fun e => hp e.2))
      have key : ∀ q0, q0 < (rulesAt P u).length → (if q = t then s else if q = s then t else q) = q0 → (∀ p p', p < (rulesAt P u).length → (if p = t then cb u s else if p = s then cb u t else cb u p) = cb u p' → p' < (rulesAt P u).length → p ≠ q → p' ≠ q0) := fun q0 h0 e0 p p' h1 h2 h3 h4 h5 => by
        subst h5
        have : (if p = t then s else if p = s then t else p) = p' := by
          by_cases hp : p = t
          · rw [if_pos hp] at h2 ⊢; exact inj _ _ hs h3 h2
          · rw [if_neg hp] at h2 ⊢
            by_cases hp2 : p = s
            · rw [if_pos hp2] at h2 ⊢; exact inj _ _ ht h3 h2
            · rw [if_neg hp2] at h2 ⊢; exact inj _ _ h1 h3 h2
        rw [← this] at e0
        by_cases hp : p = t <;> by_cases hp2 : p = s <;> by_cases hq1 : q = t <;> by_cases hq2 : q = s <;> simp_all
      simp only [if_true]
      by_cases h1 : q = t
      · refine ⟨s, hs, by rw [if_pos h1], by rw [if_pos h1], by rw [h1, hct, hx], key s hs (by rw [if_pos h1])⟩
      · by_cases h2 : q = s
        · refine ⟨t, ht, by rw [if_neg h1, if_pos h2], by rw [if_neg h1, if_pos h2], by rw [h2, hcs, hy], key t ht (by rw [if_neg h1, if_pos h2])⟩
        · refine ⟨q, hq, by rw [if_neg h1, if_neg h2], by rw [if_neg h1, if_neg h2], hcl _ _ (fun e => e.2.elim h2 h1), key q hq (by rw [if_neg h1, if_neg h2])⟩
    · have er : ruleAt P' u q = ruleAt P u q := by show (P'.getD u E.zero).rules.getD q [] = _; rw [eE, if_neg e]
      refine ⟨q, hq, er, by rw [if_neg e], hcl _ _ (fun e' => h.drr u i hu hi e e'.1), fun p p' h1 h2 h3 h4 h5 => ?_⟩
      rw [if_neg e] at h2
      subst h5
      exact h.dcc u p u p' hu h1 hu h3 (fun e => h4 e.2) h2
  have cg := (h.frr i hi).2.1
  refine ⟨?_, fun u hu => ?_, fun u q hu hq => ?_, fun u q m hu hq hm => ?_, fun h1 => ?_, fun u hu => ?_, fun u q hu hq => ?_, fun u u' hu hu' => ?_, fun u q u' q' hu hq hu' hq' hne => ?_⟩
  · obtain ⟨a, cap, e, hc, ha⟩ := h.val
    exact ⟨a, cap, by rw [hl]; exact e, by omega, fun h1 => ha (hn h1)⟩
  · rw [hl] at hu
    obtain ⟨e0, e1, c, hc, e2⟩ := h.ent u hu
    rw [(eA u).1, (eA u).2, eR u, hcl _ _ (fun e => cg e.1.symm), hcl _ _ (fun e => cg e.1.symm), hcl _ _ (fun e => cg e.1.symm)]
    exact ⟨e0, e1, c, hc, e2⟩
  · rw [hl] at hu; rw [eR] at hq
    obtain ⟨q', hq', er, ec, ew, _⟩ := eS u q hu hq
    obtain ⟨c, hc, e⟩ := h.rul u q' hu hq'
    refine ⟨c, by rw [er]; exact hc, ?_⟩
    show W.cell? _ = some (.slice (some ⟨(if u = i then (if q = t then cb i s else if q = s then cb i t else cb i q) else cb u q), 0, none⟩) (ruleAt P' u q).length c)
    rw [ew, er, ec]
    exact e
  · rw [hl] at hu; rw [eR] at hq
    obtain ⟨q', hq', er, ec, ew, _⟩ := eS u q hu hq
    rw [er] at hm
    show PK W (if u = i then (if q = t then cb i s else if q = s then cb i t else cb i q) else cb u q) (m * 3) ((ruleAt P' u q).getD m K.zero)
    rw [ec, er]
    obtain ⟨p0, p1, p2⟩ := h.con u q' m hu hq' hm
    have hd := (h.frc u q' hu hq').2.2.1 i hi
    exact ⟨(hcl _ _ (fun e => hd e.1)).trans p0, (hcl _ _ (fun e => hd e.1)).trans p1, (hcl _ _ (fun e => hd e.1)).trans p2⟩
  · rw [hsz]; exact ⟨(h.frg (hn h1)).1, fun o => (hfz _ _).trans ((h.frg (hn h1)).2 o)⟩
  · rw [hl] at hu; rw [hsz]; exact ⟨(h.frr u hu).1, (h.frr u hu).2.1, fun o => (hfz _ _).trans ((h.frr u hu).2.2 o)⟩
  · rw [hl] at hu; rw [eR] at hq
    obtain ⟨q', hq', er, ec, ew, _⟩ := eS u q hu hq
    have hf := h.frc u q' hu hq'
    show (if u = i then (if q = t then cb i s else if q = s then cb i t else cb i q) else cb u q) < W.heap.size ∧ (if u = i then (if q = t then cb i s else if q = s then cb i t else cb i q) else cb u q) ≠ g ∧ (∀ t', t' < P'.length → (if u = i then (if q = t then cb i s else if q = s then cb i t else cb i q) else cb u q) ≠ gb t') ∧ ∀ o, W.frozen? ⟨(if u = i then (if q = t then cb i s else if q = s then cb i t else cb i q) else cb u q), o, none⟩ = false
    rw [ec, hsz, hl]
    exact ⟨hf.1, hf.2.1, hf.2.2.1, fun o => (hfz _ _).trans (hf.2.2.2 o)⟩
  · rw [hl] at hu hu'; exact h.drr u u' hu hu'
  · rw [hl] at hu hu'; rw [eR] at hq hq'
    obtain ⟨p, hp, _, ec, _, ki⟩ := eS u q hu hq
    obtain ⟨p', hp', _, ec', _, _⟩ := eS u' q' hu' hq'
    show (if u = i then (if q = t then cb i s else if q = s then cb i t else cb i q) else cb u q) ≠ (if u' = i then (if q' = t then cb i s else if q' = s then cb i t else cb i q') else cb u' q')
    rw [ec, ec']
    by_cases e : u = u'
    · subst e
      have hqq : q' ≠ q := fun e => hne ⟨rfl, e.symm⟩
      exact h.dcc u p u p' hu hp hu hp' (fun e => (ki q' p' hq' ec' hp' hqq) e.2.symm)
    · exact h.dcc u p u' p' hu hp hu' hp' (fun e' => e e'.1)
end Go.Proofs.YtoamapdfcdefjaaGreat
namespace Go.Proofs.YtoamapdfcdefjaaGreat
open Go.RowKit Go.Deep
set_option linter.unusedVariables false

/-- p in the box G, the call in the box behind it -/
structure MnP (w W : World) (G n : Nat) (a1 b1 : Option Addr) (c1 cb1 : Nat) (D : List E) (X : C) : Prop where
  b : Below w.heap.size w W
  lt : G + 1 < W.heap.size
  p : W.cell? ⟨G, 0, none⟩ = some (.slice a1 n c1)
  x : Box3 W (G + 1) (.int .u32 X.arch) (.int .u32 X.nr) (.slice b1 6 cb1)
  sp : LSrc 3 PE W a1 D
  su : USrc W b1 X.args
theorem MnP.keep {w W W1 : World} {G n c1 cb1 : Nat} {a1 b1 : Option Addr} {D : List E} {X : C} (h : MnP w W G n a1 b1 c1 cb1 D X) (hb : Below W.heap.size W W1) : MnP w W1 G n a1 b1 c1 cb1 D X :=
  have hl := h.lt
  ⟨h.b.trans (hb.mono h.b.size), Nat.lt_of_lt_of_le hl hb.size, (hb.cell (p := ⟨G, 0, none⟩) (by show G < _; omega)).trans h.p, h.x.keep hb, h.sp.below PE.stays hb, h.su.below hb⟩
theorem MnP.new {w w1 : World} {n c1 cb1 : Nat} {a1 b1 : Option Addr} {D : List E} {X : C} (hb : Below w.heap.size w w1) (hp : LSrc 3 PE w1 a1 D) (hu : USrc w1 b1 X.args) :
    MnP w ((w1.alloc (.cells #[.slice a1 n c1] 25)).alloc (.cells #[.int .u32 X.arch, .int .u32 X.nr, .slice b1 6 cb1] 29)) w1.heap.size n a1 b1 c1 cb1 D X := by
  have b1' : Below w1.heap.size w1 (w1.alloc (.cells #[.slice a1 n c1] 25)) := (Below.refl _ _).alloc (Nat.le_refl _) _
  have b2 := b1'.alloc (by simp) (.cells #[.int .u32 X.arch, .int .u32 X.nr, .slice b1 6 cb1] 29)
  have e1 : (w1.alloc (.cells #[.slice a1 n c1] 25)).heap.size = w1.heap.size + 1 := by simp
  have q1 := box_getD w1 (.slice a1 n c1) 25 _ rfl
  obtain ⟨c3, _⟩ := cell_grD (g := w1.heap.size) (o := 0) (rb_alloc (World.grownBy.refl (w1.alloc (.cells #[.slice a1 n c1] 25)) none) (.cells #[.int .u32 X.arch, .int .u32 X.nr, .slice b1 6 cb1] 29)) (by simp) (by simp)
  have x := Box3.new (w1.alloc (.cells #[.slice a1 n c1] 25)) 29 (.int .u32 X.arch) (.int .u32 X.nr) (.slice b1 6 cb1)
  rw [e1] at x
  exact ⟨hb.trans (b2.mono hb.size), by simp, c3.trans q1.1, x, hp.below PE.stays b2, hu.below b2⟩
/-- and the minimised policy in the box M -/
structure MnM (w W : World) (G M n : Nat) (a1 b1 am : Option Addr) (c1 cb1 cm : Nat) (D out : List E) (X : C) : Prop where
  s : MnP w W G n a1 b1 c1 cb1 D X
  lt : M < W.heap.size
  m : W.cell? ⟨M, 0, none⟩ = some (.slice am n cm)
  sm : LSrc 3 PE W am out
theorem MnM.keep {w W W1 : World} {G M n c1 cb1 cm : Nat} {a1 b1 am : Option Addr} {D out : List E} {X : C} (h : MnM w W G M n a1 b1 am c1 cb1 cm D out X) (hb : Below W.heap.size W W1) : MnM w W1 G M n a1 b1 am c1 cb1 cm D out X :=
  ⟨h.s.keep hb, Nat.lt_of_lt_of_le h.lt hb.size, (hb.cell (p := ⟨M, 0, none⟩) h.lt).trans h.m, h.sm.below PE.stays hb⟩
/-- an entry of it in the box Z -/
structure MnE (w W : World) (G M Z n rl : Nat) (a1 b1 am ar : Option Addr) (c1 cb1 cm cr : Nat) (D out : List E) (X : C) (rs : List (List K)) : Prop where
  s : MnM w W G M n a1 b1 am c1 cb1 cm D out X
  lt : Z < W.heap.size
  e : W.cell? ⟨Z, 2, none⟩ = some (.slice ar rl cr)
  sr : LSrc 1 PR W ar rs
theorem MnE.keep {w W W1 : World} {G M Z n rl c1 cb1 cm cr : Nat} {a1 b1 am ar : Option Addr} {D out : List E} {X : C} {rs : List (List K)} (h : MnE w W G M Z n rl a1 b1 am ar c1 cb1 cm cr D out X rs) (hb : Below W.heap.size W W1) : MnE w W1 G M Z n rl a1 b1 am ar c1 cb1 cm cr D out X rs :=
  ⟨h.s.keep hb, Nat.lt_of_lt_of_le h.lt hb.size, (hb.cell (p := ⟨Z, 2, none⟩) h.lt).trans h.e, h.sr.below PR.stays hb⟩

/-- the program's rules within one another, argument by argument -/
def wiV (wi : Nat → Bool) (s t : Nat) : Nat → Bool
  | 0 => decide (s ≠ t)
  | k + 1 => wiV wi s t k && wi k
theorem wiV_no {wi : Nat → Bool} {s t : Nat} (h : s ≠ t → ∃ k, k < 6 ∧ wi k = false) : wiV wi s t 6 = false := by
  by_cases e : s = t
  · simp [wiV, e]
  · obtain ⟨k, hk, hw⟩ := h e
    rcases (by omega : k = 0 ∨ k = 1 ∨ k = 2 ∨ k = 3 ∨ k = 4 ∨ k = 5) with rfl | rfl | rfl | rfl | rfl | rfl <;> simp [wiV, hw]

end Go.Proofs.YtoamapdfcdefjaaGreat
namespace Go.Proofs.YtoamapdfcdefjaaGreat
open Go.RowKit Go.Deep
set_option linter.unusedVariables false

/-- the third policy, in the box GX, its rules in another order -/
structure MnX (w8 W : World) (GX n c9 : Nat) (a9 : Option Addr) (D : List E) (g : Nat) (gb : Nat → Nat) : Prop where
  b : Below w8.heap.size w8 W
  lt : GX < W.heap.size
  c : W.cell? ⟨GX, 0, none⟩ = some (.slice a9 n c9)
  q : ∃ Q cb, PermP D Q ∧ PsC W (.slice a9 n c9) Q g gb cb ∧ GeB w8.heap.size Q g gb cb
section
variable {w8 W W1 : World} {GX n c9 g : Nat} {a9 : Option Addr} {D : List E} {gb : Nat → Nat}
theorem MnX.below (h : MnX w8 W GX n c9 a9 D g gb) (hb : Below W.heap.size W W1) : MnX w8 W1 GX n c9 a9 D g gb := by
  obtain ⟨Q, cb, h1, h2, h3⟩ := h.q
  refine ⟨h.b.trans (hb.mono h.b.size), Nat.lt_of_lt_of_le h.lt hb.size, (hb.cell (p := ⟨GX, 0, none⟩) h.lt).trans h.c, Q, cb, h1, h2.far hb.size (fun hn => hb.block _ (h2.frg hn).1) (fun t ht => hb.block _ (h2.frr t ht).1) (fun t s ht hs => hb.block _ (h2.frc t s ht hs).1), h3⟩
/-- what is read of it -/
theorem MnX.read (h : MnX w8 W GX n c9 a9 D g gb) (hnD : D.length = n) {k : Nat} (hk : k < n) : a9 = some ⟨g, 0, none⟩ ∧ (∃ c, (rulesAt D k).length ≤ c ∧ W.cell? ⟨g, k * 3 + 2, none⟩ = some (.slice (some ⟨gb k, 0, none⟩) (rulesAt D k).length c)) ∧ ∀ s, s < (rulesAt D k).length → ∃ u l d, W.cell? ⟨gb k, s, none⟩ = some (.slice (some ⟨u, 0, none⟩) l d) := by
  obtain ⟨Q, cb, h1, h2, h3⟩ := h.q
  have hl := h1.1
  have hkQ : k < Q.length := by omega
  have hQn : Q ≠ [] := fun e => by rw [e] at hkQ; simp at hkQ
  obtain ⟨_, _, e3, _⟩ := h1.2 k (by omega)
  obtain ⟨a', cap, e, _, ha⟩ := h2.val
  simp only [Value.slice.injEq] at e
  obtain ⟨_, _, c, hc, e2⟩ := h2.ent k hkQ
  rw [e3] at hc e2
  refine ⟨e.1.trans (ha hQn), ⟨c, hc, e2⟩, fun s hs => ?_⟩
  obtain ⟨c', _, hv⟩ := h2.rul k s hkQ (by rw [e3]; exact hs)
  exact ⟨_, _, _, hv⟩
theorem MnX.frz (h : MnX w8 W GX n c9 a9 D g gb) (hnD : D.length = n) {k : Nat} (hk : k < n) (o : Nat) : W.frozen? ⟨gb k, o, none⟩ = false ∧ gb k < W.heap.size ∧ w8.heap.size ≤ gb k ∧ gb k ≠ g := by
  obtain ⟨Q, cb, h1, h2, h3⟩ := h.q
  have hl := h1.1
  have := h2.frr k (by omega)
  exact ⟨this.2.2 o, this.1, h3.2.1 k (by omega), this.2.1⟩
theorem MnX.swap (h : MnX w8 W GX n c9 a9 D g gb) (hnD : D.length = n) {k s t : Nat} (hk : k < n) (hs : s < (rulesAt D k).length) (ht : t < (rulesAt D k).length) (hst : s ≠ t) (hGX : gb k ≠ GX) {x y : Value} (hx : W.cell? ⟨gb k, s, none⟩ = some x) (hy : W.cell? ⟨gb k, t, none⟩ = some y) :
    MnX w8 ((W.setCell ⟨gb k, s, none⟩ y).setCell ⟨gb k, t, none⟩ x) GX n c9 a9 D g gb := by
  obtain ⟨Q, cb, h1, h2, h3⟩ := h.q
  have hl := h1.1
  have hkQ : k < Q.length := by omega
  obtain ⟨_, _, e3, _⟩ := h1.2 k (by omega)
  have hgB := h3.2.1 k hkQ
  have hP := PermP.swap Q hkQ (by rw [e3]; exact hs) (by rw [e3]; exact ht)
  refine ⟨(h.b.setCell (p := ⟨gb k, s, none⟩) hgB _).setCell (p := ⟨gb k, t, none⟩) hgB _, by have := h.lt; simpa using this, by rw [cell_otherB (Ne.symm hGX), cell_otherB (Ne.symm hGX)]; exact h.c, _, _, h1.trans hP, h2.swap hkQ (by rw [e3]; exact hs) (by rw [e3]; exact ht) hst hx hy, fun hn => h3.1 (fun e => hn (by rw [← List.length_eq_zero_iff, hP.1, e]; rfl)), fun u hu => h3.2.1 u (by have := hP.1; omega), fun u q hu hq => ?_⟩
  have hu' : u < Q.length := by have := hP.1; omega
  have hq' : q < (rulesAt Q u).length := by have := (hP.2 u hu').2.2.1; omega
  show w8.heap.size ≤ (if u = k then (if q = t then cb k s else if q = s then cb k t else cb k q) else cb u q)
  by_cases e : u = k
  · subst e
    rw [if_pos rfl]
    split
    · exact h3.2.2 u s hkQ (by rw [e3]; exact hs)
    split
    · exact h3.2.2 u t hkQ (by rw [e3]; exact ht)
    · exact h3.2.2 u q hkQ hq'
  · rw [if_neg e]
    exact h3.2.2 u q hu' hq'
theorem MnX.src (h : MnX w8 W GX n c9 a9 D g gb) (hnD : D.length = n) : ∃ Q, PermP D Q ∧ LSrc 3 PE W a9 Q := by
  obtain ⟨Q, cb, h1, h2, h3⟩ := h.q
  obtain ⟨a', cap, e, _, hs⟩ := h2.srcB h3
  simp only [Value.slice.injEq] at e
  exact ⟨Q, h1, by rw [e.1]; exact polB_src hs⟩
end
end Go.Proofs.YtoamapdfcdefjaaGreat
