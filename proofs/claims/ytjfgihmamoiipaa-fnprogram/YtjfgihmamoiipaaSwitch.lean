/-
  A SWITCH OF MANY ARMS, walked without its nest of blocks: the tests are walked by themselves, then the one arm.
-/
import Derived.Test.YtjfgihmamoiipaaMach2
namespace Go.Proofs.Ytjfgihmamoiipaa
open Go.RowKit

/-- the blocks and what stands behind each, from the outermost in; the code in their midst -/
def spine : Code → List (Nat ⊕ Code)
  | .block n c => .inl n :: spine c
  | .seq (.block n c) y => .inr y :: .inl n :: spine c
  | _ => []
def base : Code → Code
  | .block _ c => base c
  | .seq (.block _ c) _ => base c
  | c => c

def frameQ (P : Program) : Nat ⊕ Code → (Exit → Act → World → Prop) → Exit → Act → World → Prop
  | .inl n, Q => Exit.inBlock n Q
  | .inr y, Q => Exit.then (y.wp P Q) Q
/-- from the innermost out -/
def foldI (P : Program) : List (Nat ⊕ Code) → (Exit → Act → World → Prop) → Exit → Act → World → Prop
  | [], Q => Q
  | f :: r, Q => frameQ P f (foldI P r Q)

theorem foldI_snoc (P : Program) (l : List (Nat ⊕ Code)) (f : Nat ⊕ Code) (Q : Exit → Act → World → Prop) : foldI P (l ++ [f]) Q = foldI P l (frameQ P f Q) := by
  induction l with
  | nil => rfl
  | cons g l ih => simp only [List.cons_append, foldI, ih]

theorem wp_spine (P : Program) : ∀ (c : Code) (Q : Exit → Act → World → Prop) (a : Act) (w : World), (base c).wp P (foldI P (spine c).reverse Q) a w → c.wp P Q a w := by
  intro c
  induction c using spine.induct with
  | case1 n c ih =>
    intro Q a w h
    refine wp_block (ih _ a w ?_)
    simp only [base, spine, List.reverse_cons, foldI_snoc, frameQ] at h
    exact h
  | case2 n c y ih =>
    intro Q a w h
    refine wp_seq (wp_block (ih _ a w ?_))
    simp only [base, spine, List.reverse_cons, foldI_snoc, frameQ] at h
    exact h
  | case3 c h1 h2 =>
    intro Q a w h
    have e1 : spine c = [] := by
      unfold spine
      split
      · exact absurd rfl (h1 _ _)
      · exact absurd rfl (h2 _ _ _)
      · rfl
    have e2 : base c = c := by
      unfold base
      split
      · exact absurd rfl (h1 _ _)
      · exact absurd rfl (h2 _ _ _)
      · rfl
    rw [e1, e2] at h
    exact h

/-- where 'leave block k' comes out: the code that stands there, and what lies around it -/
def landI : List (Nat ⊕ Code) → Option Nat → Option (Code × List (Nat ⊕ Code))
  | [], _ => none
  | .inl n :: r, some k => landI r (if k = n then none else some k)
  | .inl _ :: r, none => landI r none
  | .inr _ :: r, some k => landI r (some k)
  | .inr y :: r, none => some (y, r)
def endI : List (Nat ⊕ Code) → Option Nat → Bool
  | [], none => true
  | [], some _ => false
  | .inl n :: r, some k => endI r (if k = n then none else some k)
  | .inl _ :: r, none => endI r none
  | .inr _ :: r, some k => endI r (some k)
  | .inr _ :: _, none => false
def exitOf : Option Nat → Exit
  | none => .normal
  | some k => .exit k

theorem landI_ok (P : Program) (Q : Exit → Act → World → Prop) (a : Act) (w : World) (y : Code) (r : List (Nat ⊕ Code)) : ∀ (l : List (Nat ⊕ Code)) (e : Option Nat), landI l e = some (y, r) → y.wp P (foldI P r Q) a w → foldI P l Q (exitOf e) a w := by
  intro l
  induction l with
  | nil => intro e h; simp [landI] at h
  | cons f l ih =>
    intro e h hy
    match f, e with
    | .inl n, some k =>
      simp only [landI] at h
      have := ih _ h hy
      simp only [foldI, frameQ, exitOf, Exit.inBlock]
      split
      · rename_i hk; rw [if_pos hk] at this; exact this
      · rename_i hk; rw [if_neg hk] at this; exact this
    | .inl n, none => simp only [landI] at h; exact ih none h hy
    | .inr z, some k => simp only [landI] at h; exact ih (some k) h hy
    | .inr z, none =>
      simp only [landI, Option.some.injEq, Prod.mk.injEq] at h
      obtain ⟨rfl, rfl⟩ := h
      exact hy
theorem endI_ok (P : Program) (Q : Exit → Act → World → Prop) (a : Act) (w : World) : ∀ (l : List (Nat ⊕ Code)) (e : Option Nat), endI l e = true → Q .normal a w → foldI P l Q (exitOf e) a w := by
  intro l
  induction l with
  | nil =>
    intro e h hq
    match e with
    | none => exact hq
    | some k => simp [endI] at h
  | cons f l ih =>
    intro e h hq
    match f, e with
    | .inl n, some k =>
      simp only [endI] at h
      have := ih _ h hq
      simp only [foldI, frameQ, exitOf, Exit.inBlock]
      split
      · rename_i hk; rw [if_pos hk] at this; exact this
      · rename_i hk; rw [if_neg hk] at this; exact this
    | .inl n, none => simp only [endI] at h; exact ih none h hq
    | .inr z, some k => simp only [endI] at h; exact ih (some k) h hq
    | .inr z, none => simp [endI] at h

/-- the test that k looks for, as one closed fact -/
def lands (c : Code) (k z : Nat) (y : Code) : Prop := ∃ r, landI (spine c).reverse (some k) = some (.seq y (.exit z), r) ∧ endI r (some z) = true

/-- a way out, and what follows, kept from the walk behind a name -/
def Next (x y : Exit) (p : Prop) : Prop := x = y ∧ p

theorem wp_switch {P : Program} {c : Code} {Q : Exit → Act → World → Prop} {a : Act} {w : World} (k z : Nat) (y : Code) (hl : lands c k z y)
    (hD : (base c).wp P (fun x a' w' => Next x (.exit k) (y.wp P (fun x a'' w'' => Next x .normal (Q .normal a'' w'')) a' w')) a w) : c.wp P Q a w := by
  obtain ⟨r, h1, h2⟩ := hl
  refine wp_spine P c Q a w (wp_mono hD ?_)
  rintro e a' w' ⟨rfl, hy⟩
  refine landI_ok P Q a' w' _ r _ (some k) h1 ?_
  refine wp_seq (wp_mono hy ?_)
  rintro e a'' w'' ⟨rfl, hq⟩
  exact wp_exit (endI_ok P Q a'' w'' r (some z) h2 hq)

theorem wp_switch_k {P : Program} {c : Code} {Q : Exit → Act → World → Prop} {a : Act} {w : World} (k z : Nat) (y : Code) (hl : lands c k z y)
    (hD : ∀ Q' : Exit → Act → World → Prop, Hid (∀ a w, Q .normal a w → Q' .normal a w) → (base c).wp P (fun x a' w' => Next x (.exit k) (y.wp P Q' a' w')) a w) : c.wp P Q a w :=
  wp_switch k z y hl (hD _ (fun _ _ h => ⟨rfl, h⟩))

theorem wp_two {P : Program} {x y c : Code} {Q : Exit → Act → World → Prop} {a : Act} {w : World}
    (h : x.wp P (fun e a1 w1 => Next e .normal (y.wp P (fun e a2 w2 => Next e .normal (c.wp P Q a2 w2)) a1 w1)) a w) : (Code.seq x (Code.seq y c)).wp P Q a w := by
  refine wp_seq (wp_mono h ?_)
  rintro e a1 w1 ⟨rfl, h1⟩
  refine wp_seq (wp_mono h1 ?_)
  rintro e a2 w2 ⟨rfl, h2⟩
  exact h2
end Go.Proofs.Ytjfgihmamoiipaa
