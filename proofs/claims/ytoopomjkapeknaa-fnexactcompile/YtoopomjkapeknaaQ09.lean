/-
  MathA, MathC, MathW, AsmB
-/
import Derived.Test.YtoopomjkapeknaaQ08
namespace Go.Proofs.Ytoopomjkapeknaa
set_option linter.unusedVariables false

/-- what an item may be -/
def isTst (c : Int) : Bool := c == 21 || c == 37 || c == 53 || c == 69
def okIt (x : It) : Bool :=
  if x.kind = 0 then knownB x.ins.c && (x.ins.c != 5) && !tstB x.ins.c
  else if x.kind = 1 ∨ x.kind = 2 then isTst x.ins.c
  else x.kind == 3 || x.kind == 4
/-- a far or near branch over d instructions -/
def tstI (x : I) (b : Bool) (n : Int) : I := if b then ⟨x.c, n, 0, x.k⟩ else ⟨x.c, 0, n, x.k⟩
def brI (x : It) (d : Int) : List I :=
  if x.kind = 3 then [⟨5, 0, 0, d⟩]
  else if d ≤ 255 then [tstI x.ins (x.kind == 1) d]
  else [⟨5, 0, 0, d⟩, tstI x.ins (!(x.kind == 1)) 1]
abbrev Mk := Int → Option Nat
def stI (x : It) (s : List I × Mk) : Option (List I × Mk) :=
  if x.kind = 0 then some (s.1 ++ [x.ins], s.2)
  else match s.2 x.target with
    | none => if x.kind = 4 then some (s.1, fun t => if t = x.target then some s.1.length else s.2 t) else none
    | some a => if x.kind = 4 then none else some (s.1 ++ brI x ((s.1.length : Int) - a), s.2)
/-- the items from the last one on -/
def layI : List It → Option (List I × Mk)
  | [] => some ([], fun _ => none)
  | x :: l => match layI l with
    | none => none
    | some s => stI x s
theorem layI_drop {l : List It} {i : Nat} (h : i < l.length) : layI (l.drop i) = match layI (l.drop (i + 1)) with | none => none | some s => stI (l.getD i It.zero) s := by
  have e : l.drop i = l.getD i It.zero :: l.drop (i + 1) := by
    rw [List.drop_eq_getElem_cons h, List.getD_eq_getElem?_getD, List.getElem?_eq_getElem h]; rfl
  rw [e]; rfl
theorem brI_len (x : It) (d : Int) : 1 ≤ (brI x d).length ∧ (brI x d).length ≤ 2 := by
  unfold brI
  split
  · simp
  · split <;> simp
/-- what is laid grows; marks lie within it -/
theorem stI_facts {x : It} {s t : List I × Mk} (h : stI x s = some t) (hm : ∀ k a, s.2 k = some a → a ≤ s.1.length) : (∃ e, t.1 = s.1 ++ e ∧ e.length ≤ 2) ∧ ∀ k a, t.2 k = some a → a ≤ t.1.length := by
  unfold stI at h
  split at h
  · cases h
    exact ⟨⟨[x.ins], rfl, by simp⟩, fun k a hk => by have := hm k a hk; simp; omega⟩
  · split at h
    · split at h
      · cases h
        refine ⟨⟨[], by simp, by simp⟩, fun k a hk => ?_⟩
        simp only at hk
        split at hk
        · cases hk; exact Nat.le_refl _
        · exact hm k a hk
      · cases h
    · split at h
      · cases h
      · cases h
        exact ⟨⟨_, rfl, (brI_len _ _).2⟩, fun k a hk => by have := hm k a hk; simp; omega⟩
theorem layI_facts {l : List It} {s : List I × Mk} (h : layI l = some s) : (∀ k a, s.2 k = some a → a ≤ s.1.length) ∧ s.1.length ≤ l.length * 2 := by
  induction l generalizing s with
  | nil => cases h; exact ⟨(fun k a hk => by cases hk), by simp⟩
  | cons x l ih =>
    simp only [layI] at h
    split at h
    · cases h
    · rename_i s0 h0
      obtain ⟨h1, h2⟩ := ih h0
      obtain ⟨⟨e, h3, h4⟩, h5⟩ := stI_facts h h1
      exact ⟨h5, by rw [h3]; simp; omega⟩
/-- each part of the end is laid, and is no longer -/
theorem layI_part {l : List It} {s : List I × Mk} (h : layI l = some s) (i : Nat) : ∃ t, layI (l.drop i) = some t ∧ t.1.length ≤ s.1.length := by
  induction l generalizing s i with
  | nil => exact ⟨s, by simpa using h, Nat.le_refl _⟩
  | cons x l ih =>
    cases i with
    | zero => exact ⟨s, h, Nat.le_refl _⟩
    | succ i =>
      simp only [layI] at h
      split at h
      · cases h
      · rename_i s0 h0
        obtain ⟨t, h1, h2⟩ := ih h0 i
        obtain ⟨⟨e, h3, _⟩, _⟩ := stI_facts h (layI_facts h0).1
        exact ⟨t, h1, by rw [h3]; simp; omega⟩
theorem layI_part_none {l : List It} {i : Nat} (h : layI (l.drop i) = none) : layI l = none := by
  cases e : layI l with
  | none => rfl
  | some s =>
    obtain ⟨t, h1, _⟩ := layI_part e i
    rw [h] at h1; cases h1
/-- what Assemble answers: its code, its instructions -/
def asmOK (l : List It) : Bool := decide (l.length ≤ 20000) && l.all okIt
def asmC (l : List It) : Int := if asmOK l = true then (match layI l with | none => 1 | some s => if s.1.length ≤ 4096 then 0 else 10) else 1
def asmL (l : List It) : List I := if asmOK l = true then (match layI l with | none => [] | some s => if s.1.length ≤ 4096 then s.1.reverse else []) else []
/-- the answer of the layout alone -/
def layC (l : List It) : Int := match layI l with | none => 1 | some s => if s.1.length ≤ 4096 then 0 else 10
def layL (l : List It) : List I := match layI l with | none => [] | some s => if s.1.length ≤ 4096 then s.1.reverse else []
theorem asm_yes {l : List It} (h : asmOK l = true) : asmC l = layC l ∧ asmL l = layL l := by
  unfold asmC asmL layC layL
  rw [if_pos h, if_pos h]; exact ⟨rfl, rfl⟩
theorem asm_no {l : List It} (h : asmOK l = false) : asmC l = 1 ∧ asmL l = [] := by
  unfold asmC asmL
  rw [if_neg (by rw [h]; decide), if_neg (by rw [h]; decide)]; exact ⟨rfl, rfl⟩
theorem lay_none {l : List It} (h : layI l = none) : layC l = 1 ∧ layL l = [] := by unfold layC layL; rw [h]; exact ⟨rfl, rfl⟩
theorem lay_ok {l : List It} {s : List I × Mk} (h : layI l = some s) (hn : s.1.length ≤ 4096) : layC l = 0 ∧ layL l = s.1.reverse := by unfold layC layL; rw [h]; simp only; rw [if_pos hn, if_pos hn]; exact ⟨rfl, rfl⟩
theorem lay_big {l : List It} {s : List I × Mk} (h : layI l = some s) (hn : 4096 < s.1.length) : layC l = 10 ∧ layL l = [] := by unfold layC layL; rw [h]; simp only; rw [if_neg (by omega), if_neg (by omega)]; exact ⟨rfl, rfl⟩
theorem layL_len (l : List It) : (layL l).length ≤ 4096 := by
  unfold layL
  split
  · simp
  · split
    · simp; assumption
    · simp
theorem asmL_len (l : List It) : (asmL l).length ≤ 4096 := by
  cases h : asmOK l with
  | true => rw [(asm_yes h).2]; exact layL_len l
  | false => rw [(asm_no h).2]; simp
end Go.Proofs.Ytoopomjkapeknaa
namespace Go.Proofs.Ytoopomjkapeknaa
set_option linter.unusedVariables false

/-- a step that lets a later label of the same number be hidden -/
def stJ (x : It) (s : List I × Mk) : Option (List I × Mk) :=
  if x.kind = 0 then some (s.1 ++ [x.ins], s.2)
  else if x.kind = 4 then some (s.1, fun t => if t = x.target then some s.1.length else s.2 t)
  else match s.2 x.target with
    | none => none
    | some a => some (s.1 ++ brI x ((s.1.length : Int) - a), s.2)
theorem stI_J {x : It} {s t : List I × Mk} (h : stI x s = some t) : stJ x s = some t := by
  unfold stI at h
  unfold stJ
  by_cases h0 : x.kind = 0
  · rw [if_pos h0] at h ⊢; exact h
  · rw [if_neg h0] at h ⊢
    by_cases h4 : x.kind = 4
    · rw [if_pos h4]
      cases e : s.2 x.target with
      | none => rw [e] at h; simp only at h; rw [if_pos h4] at h; exact h
      | some a => rw [e] at h; simp only at h; rw [if_pos h4] at h; cases h
    · rw [if_neg h4]
      cases e : s.2 x.target with
      | none => rw [e] at h; simp only at h; rw [if_neg h4] at h; cases h
      | some a => rw [e] at h; simp only at h; rw [if_neg h4] at h; exact h
/-- a list is laid from its end on -/
def foI : List It → List I × Mk → Option (List I × Mk)
  | [], s => some s
  | x :: l, s => (foI l s).bind (stI x)
def foJ : List It → List I × Mk → Option (List I × Mk)
  | [], s => some s
  | x :: l, s => (foJ l s).bind (stJ x)
theorem foI_append (l1 l2 : List It) (s : List I × Mk) : foI (l1 ++ l2) s = (foI l2 s).bind (foI l1) := by
  induction l1 with
  | nil => simp only [List.nil_append]; cases foI l2 s <;> rfl
  | cons x l ih =>
    simp only [List.cons_append, foI, ih]
    cases foI l2 s <;> rfl
theorem foJ_append (l1 l2 : List It) (s : List I × Mk) : foJ (l1 ++ l2) s = (foJ l2 s).bind (foJ l1) := by
  induction l1 with
  | nil => simp only [List.nil_append]; cases foJ l2 s <;> rfl
  | cons x l ih =>
    simp only [List.cons_append, foJ, ih]
    cases foJ l2 s <;> rfl
theorem foI_lay (l : List It) : foI l ([], fun _ => none) = layI l := by
  induction l with
  | nil => rfl
  | cons x l ih =>
    simp only [foI, layI, ih]
    cases layI l <;> rfl

/-- TWO PARTS THAT LAY OUT THE SAME, whatever comes behind them, where the labels of O (with their places) stand behind; the second's own labels are those from a on below b -/
def SimJ (O : Int → Int → Prop) (a b : Int) (l l' : List It) : Prop :=
  ∀ (out : List I) (m m' : Mk), (∀ t t', O t t' → m t = m' t' ∧ m' t' ≠ none) → (∀ t', a ≤ t' → t' < b → m' t' = none) →
    ∃ (out2 : List I) (m2 m2' : Mk), foJ l (out, m) = some (out2, m2) ∧ foI l' (out, m') = some (out2, m2') ∧ (∀ t t', O t t' → m2 t = m2' t') ∧ ∀ t', ¬ (a ≤ t' ∧ t' < b) → m2' t' = m' t'
theorem SimJ.nil (O : Int → Int → Prop) (a : Int) : SimJ O a a [] [] := fun out m m' h _ => ⟨out, m, m', rfl, rfl, fun t t' ht => (h t t' ht).1, fun _ _ => rfl⟩
/-- the labels of O bear numbers outside of the part's own -/
def Off (O : Int → Int → Prop) (a b : Int) : Prop := ∀ t t', O t t' → ¬ (a ≤ t' ∧ t' < b)
theorem SimJ.app {O : Int → Int → Prop} {a b c : Int} {l1 l1' l2 l2' : List It} (h1 : SimJ O a b l1 l1') (h2 : SimJ O b c l2 l2') (hab : a ≤ b) (hbc : b ≤ c) (hO : Off O a c) : SimJ O a c (l1 ++ l2) (l1' ++ l2') := by
  intro out m m' hm hn
  obtain ⟨o2, m2, m2', e1, e2, e3, e4⟩ := h2 out m m' hm (fun t' g1 g2 => hn t' (by omega) g2)
  obtain ⟨o3, m3, m3', f1, f2, f3, f4⟩ := h1 o2 m2 m2' (fun t t' ht => ⟨e3 t t' ht, by rw [e4 t' (by have := hO t t' ht; omega)]; exact (hm t t' ht).2⟩) (fun t' g1 g2 => by rw [e4 t' (by omega)]; exact hn t' g1 (by omega))
  refine ⟨o3, m3, m3', ?_, ?_, f3, fun t' ht => ?_⟩
  · rw [foJ_append, e1]; exact f1
  · rw [foI_append, e2]; exact f2
  · rw [f4 t' (by omega), e4 t' (by omega)]
theorem SimJ.one {O : Int → Int → Prop} {a : Int} {x x' : It} (hk : x.kind = x'.kind) (hi : x.ins = x'.ins) (h4 : x.kind ≠ 4) (ht : x.kind ≠ 0 → O x.target x'.target) : SimJ O a a [x] [x'] := by
  intro out m m' hm _
  have hb : ∀ d, brI x d = brI x' d := fun d => by unfold brI; rw [hk, hi]
  by_cases h0 : x.kind = 0
  · refine ⟨out ++ [x.ins], m, m', ?_, ?_, fun t t' h => (hm t t' h).1, fun _ _ => rfl⟩
    · simp only [foJ, Option.bind_some]; unfold stJ; rw [if_pos h0]
    · simp only [foI, Option.bind_some]; unfold stI; rw [if_pos (by rw [← hk]; exact h0), hi]
  · obtain ⟨e1, e2⟩ := hm _ _ (ht h0)
    cases e : m' x'.target with
    | none => exact absurd e e2
    | some p =>
      rw [e] at e1
      refine ⟨out ++ brI x ((out.length : Int) - p), m, m', ?_, ?_, fun t t' h => (hm t t' h).1, fun _ _ => rfl⟩
      · simp only [foJ, Option.bind_some]; unfold stJ; rw [if_neg h0, if_neg h4]; simp only; rw [e1]
      · simp only [foI, Option.bind_some]; unfold stI; rw [if_neg (by rw [← hk]; exact h0)]; simp only; rw [e]; simp only; rw [if_neg (by rw [← hk]; exact h4), hb]
/-- a part, and behind it a label that the part alone uses -/
theorem SimJ.lab {O : Int → Int → Prop} {c : Int} {l l' : List It} {x x' : It} (hx : x.kind = 4) (hx' : x'.kind = 4) (h : SimJ (fun t t' => O t t' ∨ (t = x.target ∧ t' = x'.target)) (x'.target + 1) c l l') (hO : ∀ t t', O t t' → t ≠ x.target ∧ t' ≠ x'.target) (hc : x'.target < c) :
    SimJ O x'.target c (l ++ [x]) (l' ++ [x']) := by
  intro out m m' hm hn
  have g1 : foJ [x] (out, m) = some (out, fun t => if t = x.target then some out.length else m t) := by
    simp only [foJ, Option.bind_some]; unfold stJ; rw [if_neg (by omega), if_pos hx]
  have g2 : foI [x'] (out, m') = some (out, fun t => if t = x'.target then some out.length else m' t) := by
    simp only [foI, Option.bind_some]; unfold stI; rw [if_neg (by omega)]; simp only; rw [hn x'.target (Int.le_refl _) hc]; simp only; rw [if_pos hx']
  obtain ⟨o3, m3, m3', f1, f2, f3, f4⟩ := h out (fun t => if t = x.target then some out.length else m t) (fun t => if t = x'.target then some out.length else m' t) (fun t t' ht => by
    rcases ht with ht | ⟨rfl, rfl⟩
    · obtain ⟨n1, n2⟩ := hO t t' ht
      rw [if_neg n1, if_neg n2]
      exact hm t t' ht
    · simp) (fun t' e1 e2 => by
      rw [if_neg (by omega)]
      exact hn t' (by omega) e2)
  refine ⟨o3, m3, m3', ?_, ?_, fun t t' ht => f3 t t' (.inl ht), fun t' ht => ?_⟩
  · rw [foJ_append, g1]; exact f1
  · rw [foI_append, g2]; exact f2
  · rw [f4 t' (by omega)]
    rw [if_neg (by omega)]
theorem SimJ.wide {O : Int → Int → Prop} {a b c d : Int} {l l' : List It} (h : SimJ O a b l l') (h1 : c ≤ a) (h2 : b ≤ d) : SimJ O c d l l' := by
  intro out m m' hm hn
  obtain ⟨o3, m3, m3', f1, f2, f3, f4⟩ := h out m m' hm (fun t' e1 e2 => hn t' (by omega) (by omega))
  exact ⟨o3, m3, m3', f1, f2, f3, fun t' ht => f4 t' (by omega)⟩
theorem SimJ.whole {l l' : List It} {a b : Int} (h : SimJ (fun _ _ => False) a b l l') : ∃ out m m', foJ l ([], fun _ => none) = some (out, m) ∧ layI l' = some (out, m') := by
  obtain ⟨o, m, m', h1, h2, _⟩ := h [] (fun _ => none) (fun _ => none) (fun _ _ h => h.elim) (fun _ _ _ => rfl)
  exact ⟨o, m, m', h1, by rw [← foI_lay]; exact h2⟩
end Go.Proofs.Ytoopomjkapeknaa
namespace Go.Proofs.Ytoopomjkapeknaa
set_option linter.unusedVariables false

def itIn (c k : Int) : It := ⟨0, ⟨c, 0, 0, k⟩, 0⟩
def itLd (a : Int) : It := itIn 32 a
def itIf (c k t : Int) : It := ⟨1, ⟨c, 0, 0, k⟩, t⟩
def itUn (c k t : Int) : It := ⟨2, ⟨c, 0, 0, k⟩, t⟩
def itLb (t : Int) : It := ⟨4, ⟨0, 0, 0, 0⟩, t⟩
def mskI (a m b fail : Int) : List It := if m = 0 then [] else itLd a :: ((if m = 4294967295 then [] else [itIn 84 m]) ++ [itUn 21 b fail])
def upH (v : Nat) : Int := ((v / 4294967296 : Nat) : Int)
def loH (v : Nat) : Int := ((v % 4294967296 : Nat) : Int)
def lowI (v : Nat) (a fail t : Int) : List It := [itLd (a + 4), itIf 37 (upH v) t, itUn 21 (upH v) fail, itLd a, itUn 53 (loH v) fail] ++ [itLb t]
def highI (v : Nat) (a fail t : Int) : List It := [itLd (a + 4), itIf 37 (upH v) fail, itUn 21 (upH v) t, itLd a, itIf 37 (loH v) fail] ++ [itLb t]
def lowP (v : Nat) (a fail t : Int) : List It := if v = 0 then [] else lowI v a fail t
def highP (v : Nat) (a fail t : Int) : List It := if v = 18446744073709551615 then [] else highI v a fail t
def conI (c : K) (a fail p1 p2 : Int) : List It :=
  if c.kind = 1 then mskI (a + 4) (upH c.a) (upH c.b) fail ++ mskI a (loH c.a) (loH c.b) fail
  else if c.kind = 2 then lowP c.a a fail p1 ++ highP c.b a fail p2
  else []
/-- how many labels the program has made behind a condition's low bound; behind the condition -/
def lowN (c : K) (n : Int) : Int := if c.a = 0 then n else n + 1
def conN (c : K) (n : Int) : Int := if c.kind = 2 then (if c.b = 18446744073709551615 then lowN c n else lowN c n + 1) else n
/-- the labels of O lie below the model's next one, and are made by the program -/
def Und (O : Int → Int → Prop) (f n : Int) : Prop := ∀ t t', O t t' → t < f ∧ t' ≤ n
theorem Und.up {O : Int → Int → Prop} {f n f' n' : Int} (h : Und O f n) (h1 : f ≤ f') (h2 : n ≤ n') : Und O f' n' := fun t t' ht => by have := h t t' ht; omega
theorem Und.off {O : Int → Int → Prop} {f n b : Int} (h : Und O f n) : Off O (n + 1) b := fun t t' ht => by have := (h t t' ht).2; omega
theorem Und.more {O : Int → Int → Prop} {f n : Int} (h : Und O f n) : Und (fun t t' => O t t' ∨ (t = f ∧ t' = n + 1)) (f + 1) (n + 1) := fun t t' ht => by
  rcases ht with ht | ⟨rfl, rfl⟩
  · have := h t t' ht; omega
  · omega
theorem SimJ.cons {O : Int → Int → Prop} {a b : Int} {x x' : It} {l l' : List It} (h : SimJ O a b l l') (hk : x.kind = x'.kind) (hi : x.ins = x'.ins) (h4 : x.kind ≠ 4) (ht : x.kind ≠ 0 → O x.target x'.target) (hab : a ≤ b) (hO : Off O a b) : SimJ O a b (x :: l) (x' :: l') :=
  SimJ.app (l1 := [x]) (l1' := [x']) (SimJ.one hk hi h4 ht) h (Int.le_refl _) hab hO
theorem SimJ.ld {O : Int → Int → Prop} {a b : Int} {c k : Int} {l l' : List It} (h : SimJ O a b l l') (hab : a ≤ b) (hO : Off O a b) : SimJ O a b (itIn c k :: l) (itIn c k :: l') := h.cons rfl rfl (by simp [itIn]) (by simp [itIn]) hab hO
theorem SimJ.iff {O : Int → Int → Prop} {a b : Int} {c k t t' : Int} {l l' : List It} (h : SimJ O a b l l') (ht : O t t') (hab : a ≤ b) (hO : Off O a b) : SimJ O a b (itIf c k t :: l) (itIf c k t' :: l') := h.cons rfl rfl (by simp [itIf]) (fun _ => ht) hab hO
theorem SimJ.unl {O : Int → Int → Prop} {a b : Int} {c k t t' : Int} {l l' : List It} (h : SimJ O a b l l') (ht : O t t') (hab : a ≤ b) (hO : Off O a b) : SimJ O a b (itUn c k t :: l) (itUn c k t' :: l') := h.cons rfl rfl (by simp [itUn]) (fun _ => ht) hab hO
theorem sim_half {O : Int → Int → Prop} {f n a m b fail fail' : Int} (hu : Und O f n) (hf : O fail fail') : SimJ O (n + 1) (n + 1) (mskI a m b fail) (mskI a m b fail') := by
  unfold mskI
  by_cases h0 : m = 0
  · rw [if_pos h0, if_pos h0]; exact SimJ.nil _ _
  · rw [if_neg h0, if_neg h0]
    refine SimJ.ld ?_ (Int.le_refl _) hu.off
    by_cases h1 : m = 4294967295
    · rw [if_pos h1]; exact SimJ.unl (SimJ.nil _ _) hf (Int.le_refl _) hu.off
    · rw [if_neg h1]; exact SimJ.ld (SimJ.unl (SimJ.nil _ _) hf (Int.le_refl _) hu.off) (Int.le_refl _) hu.off
theorem sim_lab {O : Int → Int → Prop} {f n c : Int} {l l' : List It} (hu : Und O f n) (h : SimJ (fun t t' => O t t' ∨ (t = f ∧ t' = n + 1)) (n + 1 + 1) c l l') (hc : n + 1 < c) : SimJ O (n + 1) c (l ++ [itLb f]) (l' ++ [itLb (n + 1)]) :=
  SimJ.lab (x := itLb f) (x' := itLb (n + 1)) rfl rfl h (fun t t' ht => by have := hu t t' ht; simp only [itLb]; omega) hc
theorem sim_low {O : Int → Int → Prop} {f n a fail fail' : Int} {v : Nat} (hu : Und O f n) (hf : O fail fail') : SimJ O (n + 1) (n + 1 + 1) (lowI v a fail f) (lowI v a fail' (n + 1)) := by
  refine sim_lab hu ?_ (by omega)
  have hm : Off (fun t t' => O t t' ∨ (t = f ∧ t' = n + 1)) (n + 1 + 1) (n + 1 + 1) := hu.more.off
  exact SimJ.ld (SimJ.iff (SimJ.unl (SimJ.ld (SimJ.unl (SimJ.nil _ _) (.inl hf) (Int.le_refl _) hm) (Int.le_refl _) hm) (.inl hf) (Int.le_refl _) hm) (.inr ⟨rfl, rfl⟩) (Int.le_refl _) hm) (Int.le_refl _) hm
theorem sim_high {O : Int → Int → Prop} {f n a fail fail' : Int} {v : Nat} (hu : Und O f n) (hf : O fail fail') : SimJ O (n + 1) (n + 1 + 1) (highI v a fail f) (highI v a fail' (n + 1)) := by
  refine sim_lab hu ?_ (by omega)
  have hm : Off (fun t t' => O t t' ∨ (t = f ∧ t' = n + 1)) (n + 1 + 1) (n + 1 + 1) := hu.more.off
  exact SimJ.ld (SimJ.iff (SimJ.unl (SimJ.ld (SimJ.iff (SimJ.nil _ _) (.inl hf) (Int.le_refl _) hm) (Int.le_refl _) hm) (.inr ⟨rfl, rfl⟩) (Int.le_refl _) hm) (.inl hf) (Int.le_refl _) hm) (Int.le_refl _) hm
theorem lowN_le (c : K) (n : Int) : n ≤ lowN c n := by unfold lowN; split <;> omega
theorem conN_le (c : K) (n : Int) : n ≤ conN c n := by
  have := lowN_le c n
  unfold conN; split
  · split <;> omega
  · omega
theorem sim_con {O : Int → Int → Prop} {f n a fail fail' : Int} (c : K) (hu : Und O f n) (hf : O fail fail') : SimJ O (n + 1) (conN c n + 1) (conI c a fail f (f + 1)) (conI c a fail' (n + 1) (lowN c n + 1)) := by
  unfold conI
  by_cases h1 : c.kind = 1
  · have e : conN c n = n := by unfold conN; rw [if_neg (by omega)]
    rw [if_pos h1, if_pos h1, e]
    exact SimJ.app (sim_half hu hf) (sim_half hu hf) (Int.le_refl _) (Int.le_refl _) hu.off
  · rw [if_neg h1, if_neg h1]
    by_cases h2 : c.kind = 2
    · rw [if_pos h2, if_pos h2]
      have hl := lowN_le c n
      have s1 : SimJ O (n + 1) (lowN c n + 1) (lowP c.a a fail f) (lowP c.a a fail' (n + 1)) := by
        unfold lowP lowN
        by_cases h : c.a = 0
        · rw [if_pos h, if_pos h, if_pos h]; exact SimJ.nil _ _
        · rw [if_neg h, if_neg h, if_neg h]; exact sim_low hu hf
      have hu2 : Und O (f + 1) (lowN c n) := hu.up (by omega) hl
      have s2 : SimJ O (lowN c n + 1) (conN c n + 1) (highP c.b a fail (f + 1)) (highP c.b a fail' (lowN c n + 1)) := by
        unfold highP conN
        rw [if_pos h2]
        by_cases h : c.b = 18446744073709551615
        · rw [if_pos h, if_pos h, if_pos h]; exact SimJ.nil _ _
        · rw [if_neg h, if_neg h, if_neg h]; exact sim_high hu2 hf
      have hc : lowN c n ≤ conN c n := by unfold conN; rw [if_pos h2]; split <;> omega
      exact SimJ.app s1 s2 (by omega) (by omega) hu.off
    · have e : conN c n = n := by unfold conN; rw [if_neg h2]
      rw [if_neg h2, if_neg h2, e]
      exact SimJ.nil _ _

/-- a rule's conditions from number i on -/
def consM : List K → Int → Int → Int → List It
  | [], _, _, _ => []
  | c :: r, i, fail, base => conI c (16 + 8 * i) fail (base + 1 + 2 * i) (base + 1 + 2 * i + 1) ++ consM r (i + 1) fail base
def consN : List K → Int → Int
  | [], n => n
  | c :: r, n => consN r (conN c n)
def consP : List K → Int → Int → Int → List It
  | [], _, _, _ => []
  | c :: r, i, fail, n => conI c (16 + 8 * i) fail (n + 1) (lowN c n + 1) ++ consP r (i + 1) fail (conN c n)
theorem consN_le (r : List K) : ∀ n, n ≤ consN r n := by
  induction r with
  | nil => intro n; exact Int.le_refl _
  | cons c r ih => intro n; exact Int.le_trans (conN_le c n) (ih _)
theorem sim_cons {O : Int → Int → Prop} {base fail fail' : Int} (hf : O fail fail') (r : List K) : ∀ {i n : Int}, Und O (base + 1 + 2 * i) n → SimJ O (n + 1) (consN r n + 1) (consM r i fail base) (consP r i fail' n) := by
  induction r with
  | nil => intro i n hu; exact SimJ.nil _ _
  | cons c r ih =>
    intro i n hu
    have h1 := conN_le c n
    have h2 := consN_le r (conN c n)
    refine SimJ.app (sim_con c hu hf) (ih (hu.up (by omega) h1)) (by omega) (by simp only [consN]; omega) hu.off
def retI (k : Int) : It := itIn 6 k
def ruleM (r : List K) (fail base : Int) : List It := consM r 0 fail base ++ [retI 2147418112]
def ruleP (r : List K) (fail n : Int) : List It := consP r 0 fail n ++ [retI 2147418112]
theorem sim_rule {O : Int → Int → Prop} {base fail fail' n : Int} (hf : O fail fail') (r : List K) (hu : Und O (base + 1) n) : SimJ O (n + 1) (consN r n + 1) (ruleM r fail base) (ruleP r fail' n) := by
  have h := consN_le r n
  exact SimJ.app (sim_cons hf r (i := 0) (hu.up (by omega) (Int.le_refl _))) (SimJ.ld (SimJ.nil _ _) (Int.le_refl _) (hu.up (Int.le_refl _) h).off) (by omega) (Int.le_refl _) hu.off
/-- the rules of an entry -/
def bodyM : List (List K) → Int → List It
  | [], _ => []
  | [r], f => ruleM r 0 f
  | r :: q :: rs, f => (ruleM r f f ++ [itLb f]) ++ bodyM (q :: rs) (f + 13)
def bodyN : List (List K) → Int → Int
  | [], n => n
  | [r], n => consN r n
  | r :: q :: rs, n => bodyN (q :: rs) (consN r (n + 1))
def bodyP : List (List K) → Int → List It
  | [], _ => []
  | [r], n => ruleP r 0 n
  | r :: q :: rs, n => (ruleP r (n + 1) (n + 1) ++ [itLb (n + 1)]) ++ bodyP (q :: rs) (consN r (n + 1))
theorem bodyN_le (rs : List (List K)) : ∀ n, n ≤ bodyN rs n := by
  induction rs with
  | nil => intro n; exact Int.le_refl _
  | cons r rs ih =>
    intro n
    cases rs with
    | nil => exact consN_le r n
    | cons q rs => have := ih (consN r (n + 1)); have := consN_le r (n + 1); simp only [bodyN]; omega
theorem sim_body {O : Int → Int → Prop} (h0 : O 0 0) (rs : List (List K)) : ∀ {f n : Int}, Und O f n → SimJ O (n + 1) (bodyN rs n + 1) (bodyM rs f) (bodyP rs n) := by
  induction rs with
  | nil => intro f n hu; exact SimJ.nil _ _
  | cons r rs ih =>
    intro f n hu
    cases rs with
    | nil => exact sim_rule h0 r (hu.up (by omega) (Int.le_refl _))
    | cons q rs =>
      have h1 := consN_le r (n + 1)
      have h2 := bodyN_le (q :: rs) (consN r (n + 1))
      refine SimJ.app (b := consN r (n + 1) + 1) (sim_lab hu (sim_rule (.inr ⟨rfl, rfl⟩) r hu.more) (by omega)) (ih (hu.up (by omega) (by omega))) (by omega) (by simp only [bodyN]; omega) hu.off
/-- the tree of entries of one architecture; fuel: as many as there are entries -/
def needE (es : List E) : Int := (es.length : Int) + 13 * ((es.map (fun e => e.rules.length)).sum : Nat)
def treeM : Nat → List E → Int → List It
  | 0, _, _ => []
  | k + 1, es, f =>
    if es.length ≤ 1 then itUn 21 (es.getD 0 E.zero).nr 0 :: bodyM (es.getD 0 E.zero).rules f
    else (itIf 53 (es.getD (es.length / 2) E.zero).nr f :: treeM k (es.take (es.length / 2)) (f + 1) ++ [itLb f]) ++ treeM k (es.drop (es.length / 2)) (f + 1 + needE (es.take (es.length / 2)))
def treeN : Nat → List E → Int → Int
  | 0, _, n => n
  | k + 1, es, n =>
    if es.length ≤ 1 then bodyN (es.getD 0 E.zero).rules n
    else treeN k (es.drop (es.length / 2)) (treeN k (es.take (es.length / 2)) (n + 1))
def treeP : Nat → List E → Int → List It
  | 0, _, _ => []
  | k + 1, es, n =>
    if es.length ≤ 1 then itUn 21 (es.getD 0 E.zero).nr 0 :: bodyP (es.getD 0 E.zero).rules n
    else (itIf 53 (es.getD (es.length / 2) E.zero).nr (n + 1) :: treeP k (es.take (es.length / 2)) (n + 1) ++ [itLb (n + 1)]) ++ treeP k (es.drop (es.length / 2)) (treeN k (es.take (es.length / 2)) (n + 1))
theorem treeN_le (k : Nat) : ∀ es n, n ≤ treeN k es n := by
  induction k with
  | zero => intro es n; exact Int.le_refl _
  | succ k ih =>
    intro es n
    simp only [treeN]
    split
    · exact bodyN_le _ _
    · have := ih (es.take (es.length / 2)) (n + 1)
      have := ih (es.drop (es.length / 2)) (treeN k (es.take (es.length / 2)) (n + 1))
      omega
theorem needE_pos (es : List E) : 0 ≤ needE es := by unfold needE; omega
theorem sim_tree (k : Nat) : ∀ {O : Int → Int → Prop} (es : List E) {f n : Int}, O 0 0 → Und O f n → SimJ O (n + 1) (treeN k es n + 1) (treeM k es f) (treeP k es n) := by
  induction k with
  | zero => intro O es f n h0 hu; exact SimJ.nil _ _
  | succ k ih =>
    intro O es f n h0 hu
    simp only [treeN, treeM, treeP]
    by_cases h1 : es.length ≤ 1
    · rw [if_pos h1, if_pos h1, if_pos h1]
      have := bodyN_le (es.getD 0 E.zero).rules n
      exact SimJ.unl (sim_body h0 _ hu) h0 (by omega) hu.off
    · rw [if_neg h1, if_neg h1, if_neg h1]
      have g1 := treeN_le k (es.take (es.length / 2)) (n + 1)
      have g2 := treeN_le k (es.drop (es.length / 2)) (treeN k (es.take (es.length / 2)) (n + 1))
      have g3 := needE_pos (es.take (es.length / 2))
      refine SimJ.app (b := treeN k (es.take (es.length / 2)) (n + 1) + 1) (sim_lab hu ?_ (by omega)) (ih _ h0 (hu.up (by omega) (by omega))) (by omega) (by omega) hu.off
      exact SimJ.iff (ih _ (.inl h0) hu.more) (.inr ⟨rfl, rfl⟩) (by omega) hu.more.off
/-- how many of the entries, from the first on, have its architecture -/
def sameA : List E → Nat
  | [] => 0
  | e :: es => 1 + (es.takeWhile (fun x => x.arch == e.arch)).length
theorem sameA_le (es : List E) : sameA es ≤ es.length := by
  cases es with
  | nil => exact Nat.le_refl _
  | cons e es => have := (List.takeWhile_prefix (fun x : E => x.arch == e.arch) (l := es)).length_le; simp only [sameA, List.length_cons]; omega
/-- the parts of all architectures; fuel: as many as there are entries -/
def archM : Nat → List E → Int → List It
  | 0, _, _ => []
  | k + 1, es, f =>
    if es.length = 0 then []
    else (itUn 21 (es.getD 0 E.zero).arch f :: itLd 0 :: treeM (sameA es) (es.take (sameA es)) (f + 1) ++ [itLb f]) ++ archM k (es.drop (sameA es)) (f + (1 + needE (es.take (sameA es))))
def archN : Nat → List E → Int → Int
  | 0, _, n => n
  | k + 1, es, n => if es.length = 0 then n else archN k (es.drop (sameA es)) (treeN (sameA es) (es.take (sameA es)) (n + 1))
def archP : Nat → List E → Int → List It
  | 0, _, _ => []
  | k + 1, es, n =>
    if es.length = 0 then []
    else (itUn 21 (es.getD 0 E.zero).arch (n + 1) :: itLd 0 :: treeP (sameA es) (es.take (sameA es)) (n + 1) ++ [itLb (n + 1)]) ++ archP k (es.drop (sameA es)) (treeN (sameA es) (es.take (sameA es)) (n + 1))
theorem archN_le (k : Nat) : ∀ es n, n ≤ archN k es n := by
  induction k with
  | zero => intro es n; exact Int.le_refl _
  | succ k ih =>
    intro es n
    simp only [archN]
    split
    · exact Int.le_refl _
    · have := treeN_le (sameA es) (es.take (sameA es)) (n + 1)
      have := ih (es.drop (sameA es)) (treeN (sameA es) (es.take (sameA es)) (n + 1))
      omega
theorem sim_arch (k : Nat) : ∀ {O : Int → Int → Prop} (es : List E) {f n : Int}, O 0 0 → Und O f n → SimJ O (n + 1) (archN k es n + 1) (archM k es f) (archP k es n) := by
  induction k with
  | zero => intro O es f n h0 hu; exact SimJ.nil _ _
  | succ k ih =>
    intro O es f n h0 hu
    simp only [archN, archM, archP]
    by_cases h1 : es.length = 0
    · rw [if_pos h1, if_pos h1, if_pos h1]; exact SimJ.nil _ _
    · rw [if_neg h1, if_neg h1, if_neg h1]
      have g1 := treeN_le (sameA es) (es.take (sameA es)) (n + 1)
      have g2 := archN_le k (es.drop (sameA es)) (treeN (sameA es) (es.take (sameA es)) (n + 1))
      have g3 := needE_pos (es.take (sameA es))
      refine SimJ.app (b := treeN (sameA es) (es.take (sameA es)) (n + 1) + 1) (sim_lab hu ?_ (by omega)) (ih _ h0 (hu.up (by omega) (by omega))) (by omega) (by omega) hu.off
      exact SimJ.unl (SimJ.ld (sim_tree (sameA es) _ (.inl h0) hu.more) (by omega) hu.more.off) (.inr ⟨rfl, rfl⟩) (by omega) hu.more.off
/-- all items of a policy: the model's, the program's -/
def itemsM (p : List E) : List It := if p.length = 0 then [retI 2147483648] else (itLd 4 :: archM p.length p 1 ++ [itLb 0]) ++ [retI 2147483648]
def itemsP (p : List E) : List It := (if p.length = 0 then [] else [itLd 4]) ++ archP p.length p 0 ++ [itLb 0] ++ [retI 2147483648]
theorem items_sim (p : List E) : ∃ out m m', foJ (itemsM p) ([], fun _ => none) = some (out, m) ∧ layI (itemsP p) = some (out, m') := by
  by_cases h0 : p.length = 0
  · have : p = [] := List.eq_nil_of_length_eq_zero h0
    subst this
    exact ⟨[⟨6, 0, 0, 2147483648⟩], _, _, rfl, rfl⟩
  · refine SimJ.whole (a := 0) (b := archN p.length p 0 + 1) ?_
    unfold itemsM itemsP
    rw [if_neg h0, if_neg h0]
    have g := archN_le p.length p 0
    refine SimJ.app (b := archN p.length p 0 + 1) ?_ (SimJ.ld (SimJ.nil _ _) (Int.le_refl _) (fun _ _ h => h.elim)) (by omega) (Int.le_refl _) (fun _ _ h => h.elim)
    have hu : Und (fun t t' => False ∨ (t = 0 ∧ t' = 0)) 1 0 := fun t t' h => by
      rcases h with h | ⟨rfl, rfl⟩
      · exact h.elim
      · omega
    refine SimJ.lab (x := itLb 0) (x' := itLb 0) rfl rfl ?_ (fun _ _ h => h.elim) (by show (0 : Int) < _; omega)
    exact SimJ.ld (sim_arch p.length p (.inr ⟨rfl, rfl⟩) hu) (by show (0 : Int) + 1 ≤ _; omega) hu.off
end Go.Proofs.Ytoopomjkapeknaa
namespace Go.Proofs.Ytoopomjkapeknaa
open Go.RowKit
set_option linter.unusedVariables false

/-- the cells of items in a row -/
def itF (l : List It) (j : Nat) : Value := (itC (l.getD (j / 6) It.zero)).getD (j % 6) undef
theorem itF_at (l : List It) (i f : Nat) (hf : f < 6) : itF l (i * 6 + f) = (itC (l.getD i It.zero)).getD f undef := by
  unfold itF
  rw [show (i * 6 + f) / 6 = i by omega, show (i * 6 + f) % 6 = f by omega]
theorem itCs_F (l : List It) (j : Nat) (h : j < l.length * 6) : (itCs l)[j]? = some (itF l j) := by
  have h1 : j / 6 < l.length := by omega
  have := itCs_get l (j / 6) h1 (j % 6) (by omega)
  rw [show j / 6 * 6 + j % 6 = j by omega] at this
  rw [this]
  unfold itF
  have e : l.getD (j / 6) It.zero = l[j / 6] := by rw [List.getD_eq_getElem?_getD, List.getElem?_eq_getElem h1]; rfl
  rw [e]
  have h2 : j % 6 < (itC l[j / 6]).length := by simp [itC]; omega
  rw [List.getElem?_eq_getElem h2, List.getD_eq_getElem?_getD, List.getElem?_eq_getElem h2]; rfl
/-- the cells up to number 6 k are the items' -/
def UptoT (w : World) (D n : Nat) (l : List It) (k : Nat) : Prop := ∃ f, w.rowIs D 68 (n * 6) f ∧ ∀ j, j < k * 6 → f j = itF l j
theorem UptoT.keep {w w' : World} {D n k : Nat} {l : List It} (h : UptoT w D n l k) (hb : Below w.heap.size w w') : UptoT w' D n l k := by
  obtain ⟨f, hr, hf⟩ := h
  exact ⟨f, hr.of_block (hb.block D hr.lt), hf⟩
theorem UptoT.own {w : World} {D n k : Nat} {l : List It} (h : UptoT w D n l k) (j : Nat) (hj : j < n * 6) : ∃ v, w.cell? ⟨D, j, none⟩ = some v ∧ w.frozen? ⟨D, j, none⟩ = false := by
  obtain ⟨f, hr, _⟩ := h
  exact ⟨_, hr.cell hj, hr.frozen j⟩
theorem UptoT.step {w : World} {D n k : Nat} {l : List It} (h : UptoT w D n l k) :
    UptoT ((((((w.setCell ⟨D, k * 6, none⟩ (.int .i64 (l.getD k It.zero).kind)).setCell ⟨D, k * 6 + 1, none⟩ (.int .u16 (l.getD k It.zero).ins.c)).setCell ⟨D, k * 6 + 2, none⟩ (.int .u8 (l.getD k It.zero).ins.jt)).setCell ⟨D, k * 6 + 3, none⟩ (.int .u8 (l.getD k It.zero).ins.jf)).setCell ⟨D, k * 6 + 4, none⟩ (.int .u32 (l.getD k It.zero).ins.k)).setCell ⟨D, k * 6 + 5, none⟩ (.int .i64 (l.getD k It.zero).target)) D n l (k + 1) := by
  obtain ⟨f, hr, hf⟩ := h
  refine ⟨_, (((((hr.set _ _).set _ _).set _ _).set _ _).set _ _).set _ _, fun j hj => ?_⟩
  by_cases e5 : j = k * 6 + 5
  · rw [if_pos e5, e5, itF_at l k 5 (by omega)]; rfl
  · rw [if_neg e5]
    by_cases e4 : j = k * 6 + 4
    · rw [if_pos e4, e4, itF_at l k 4 (by omega)]; rfl
    · rw [if_neg e4]
      by_cases e3 : j = k * 6 + 3
      · rw [if_pos e3, e3, itF_at l k 3 (by omega)]; rfl
      · rw [if_neg e3]
        by_cases e2 : j = k * 6 + 2
        · rw [if_pos e2, e2, itF_at l k 2 (by omega)]; rfl
        · rw [if_neg e2]
          by_cases e1 : j = k * 6 + 1
          · rw [if_pos e1, e1, itF_at l k 1 (by omega)]; rfl
          · rw [if_neg e1]
            by_cases e0 : j = k * 6
            · rw [if_pos e0, e0, show k * 6 = k * 6 + 0 by omega, itF_at l k 0 (by omega)]; rfl
            · rw [if_neg e0]; exact hf j (by omega)
theorem UptoT.done {w : World} {B D : Nat} {l : List It} (h : UptoT w D l.length l l.length) (hB : B ≤ D) (hm : l.length ≤ maxLen) : ownsT w B (.slice (some ⟨D, 0, none⟩) l.length l.length) l := by
  obtain ⟨f, ⟨c, hc, hs, hg⟩, hf⟩ := h
  refine ⟨itCs_len l, .inr ⟨D, l.length, c, rfl, hB, hc, Nat.le_refl _, hm, hs, ?_⟩⟩
  apply List.ext_getElem?
  intro j
  rw [List.getElem?_take]
  by_cases hj : j < l.length * 6
  · rw [if_pos hj, itCs_F l j hj, ← hf j hj]
    have := hg j hj
    simpa using this
  · rw [if_neg hj, List.getElem?_eq_none (by rw [itCs_len]; omega)]

end Go.Proofs.Ytoopomjkapeknaa
