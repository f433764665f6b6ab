/-
  PLAIN MATHEMATICS of making rules few: the order of rules, what joins, the steps, what they keep. No Go in sight.
-/
import Derived.Test.YtpbljegjinjmnaaMathG
import Derived.Test.YtpbljegjinjmnaaMathO
import Derived.Test.YtpbljegjinjmnaaMathE
import Derived.Test.YtpbljegjinjmnaaCovM
namespace Go.Proofs.Ytpbljegjinjmnaa
set_option linter.unusedVariables false

/-! orders -/
theorem linI : Lin ordI := ⟨ordI_self, fun a b h => ordI_zero h, ordI_anti, fun a b c h h' => ordI_lt.2 (by have := ordI_lt.1 h; have := ordI_lt.1 h'; omega)⟩

/-- lists, by the first place where they differ -/
def lexO {α : Type} (ord : α → α → Int) : List α → List α → Int
  | [], [] => 0
  | [], _ :: _ => -1
  | _ :: _, [] => 1
  | a :: r, b :: s => if ord a b = 0 then lexO ord r s else ord a b
theorem lexO_lin {α : Type} {ord : α → α → Int} (L : Lin ord) : Lin (lexO ord) := by
  refine ⟨?_, ?_, ?_, ?_⟩
  · intro l
    induction l with
    | nil => rfl
    | cons a l ih => rw [lexO, if_pos (L.self a)]; exact ih
  · intro l
    induction l with
    | nil => intro m h; cases m with
      | nil => rfl
      | cons b m => simp [lexO] at h
    | cons a l ih => intro m h; cases m with
      | nil => simp [lexO] at h
      | cons b m =>
        rw [lexO] at h
        by_cases e : ord a b = 0
        · rw [if_pos e] at h; rw [L.zero _ _ e, ih m h]
        · rw [if_neg e] at h; exact absurd h e
  · intro l
    induction l with
    | nil => intro m; cases m <;> rfl
    | cons a l ih => intro m; cases m with
      | nil => rfl
      | cons b m =>
        rw [lexO, lexO]
        have h1 := L.anti a b
        by_cases e : ord a b = 0
        · rw [if_pos e, if_pos (by omega)]; exact ih m
        · rw [if_neg e, if_neg (by omega)]; exact h1
  · intro l
    induction l with
    | nil => intro m n h1 h2; cases m with
      | nil => simp [lexO] at h1
      | cons b m => cases n with
        | nil => simp [lexO] at h2
        | cons c n => simp [lexO]
    | cons a l ih => intro m n h1 h2; cases m with
      | nil => simp [lexO] at h1
      | cons b m => cases n with
        | nil => simp [lexO] at h2
        | cons c n =>
          rw [lexO] at h1 h2 ⊢
          by_cases e1 : ord a b = 0
          · rw [if_pos e1] at h1
            have := L.zero _ _ e1
            subst this
            by_cases e2 : ord a c = 0
            · rw [if_pos e2] at h2 ⊢; exact ih m n h1 h2
            · rw [if_neg e2] at h2 ⊢; exact h2
          · rw [if_neg e1] at h1
            by_cases e2 : ord b c = 0
            · have := L.zero _ _ e2
              subst this
              rw [if_neg e1]; exact h1
            · rw [if_neg e2] at h2
              have h3 := L.trans _ _ _ h1 h2
              rw [if_neg (by omega)]; exact h3

/-- one behind the other -/
def thenO (x y : Int) : Int := if x = 0 then y else x
def ordK (c d : K) : Int := thenO (ordI c.kind d.kind) (thenO (ordI c.a d.a) (ordI c.b d.b))
theorem ordK_lex (c d : K) : ordK c d = lexO ordI [c.kind, c.a, c.b] [d.kind, d.a, d.b] := by
  simp only [ordK, thenO, lexO]
  split
  · split
    · split
      · assumption
      · rfl
    · rfl
  · rfl
theorem linK : Lin ordK := by
  have L := lexO_lin linI
  refine ⟨fun a => by rw [ordK_lex]; exact L.self _, fun a b h => ?_, fun a b => by rw [ordK_lex, ordK_lex]; exact L.anti _ _, fun a b c h h' => by rw [ordK_lex] at *; exact L.trans _ _ _ h h'⟩
  rw [ordK_lex] at h
  have := L.zero _ _ h
  obtain ⟨k, x, y⟩ := a
  obtain ⟨k', x', y'⟩ := b
  simp at this
  obtain ⟨rfl, h1, h2⟩ := this
  have e1 : x = x' := by omega
  have e2 : y = y' := by omega
  subst e1; subst e2; rfl
abbrev ordR : List K → List K → Int := lexO ordK
theorem linR : Lin ordR := lexO_lin linK

/-! what joins -/
theorem popN_one {x : Nat} : ∀ n, popN x n = 1 → ∃ k, k < n ∧ x.testBit k = true ∧ ∀ j, j < n → x.testBit j = true → j = k
  | 0, h => by simp [popN] at h
  | n + 1, h => by
    rw [popN] at h
    by_cases e : x.testBit n = true
    · rw [if_pos e] at h
      have h0 : ∀ m, popN x m = 0 → ∀ j, j < m → x.testBit j = false := by
        intro m
        induction m with
        | zero => intro _ j hj; omega
        | succ m ih =>
          intro h j hj
          rw [popN] at h
          by_cases e : x.testBit m = true
          · rw [if_pos e] at h; omega
          · rw [if_neg e] at h
            by_cases hjm : j = m
            · subst hjm; simpa using e
            · exact ih (by omega) j (by omega)
      refine ⟨n, by omega, e, fun j hj hb => ?_⟩
      by_cases hjn : j = n
      · exact hjn
      · rw [h0 n (by omega) j (by omega)] at hb; exact absurd hb (by decide)
    · rw [if_neg e] at h
      obtain ⟨k, hk, h1, h2⟩ := popN_one n (by omega)
      refine ⟨k, by omega, h1, fun j hj hb => ?_⟩
      by_cases hjn : j = n
      · subst hjn; exact absurd hb e
      · exact h2 j (by omega) hb
theorem popN_pow {k n : Nat} (h : k < n) : popN (2 ^ k) n = 1 := by
  have z : ∀ m, m ≤ k → popN (2 ^ k) m = 0 := by
    intro m
    induction m with
    | zero => intro _; rfl
    | succ m ih => intro hm; rw [popN, ih (by omega), Nat.testBit_two_pow, if_neg (by simp; omega)]
  induction n with
  | zero => omega
  | succ n ih =>
    rw [popN, Nat.testBit_two_pow]
    by_cases e : k = n
    · subst e; rw [z k (Nat.le_refl _)]; simp
    · rw [ih (by omega), if_neg (by simpa using e)]
theorem pop_one_iff {x : Nat} (hx : x < 18446744073709551616) : popN x 64 = 1 ↔ ∃ k, k < 64 ∧ x = 2 ^ k := by
  constructor
  · intro h
    obtain ⟨k, hk, h1, h2⟩ := popN_one 64 h
    refine ⟨k, hk, Nat.eq_of_testBit_eq fun i => ?_⟩
    rw [Nat.testBit_two_pow]
    by_cases hi : i < 64
    · cases hb : x.testBit i with
      | true => have := h2 i hi hb; simp [this]
      | false =>
        have : k ≠ i := fun e => by subst e; rw [h1] at hb; exact absurd hb (by decide)
        simp [this]
    · rw [bit_hi hx (by omega)]
      have : k ≠ i := by omega
      simp [this]
  · rintro ⟨k, hk, rfl⟩; exact popN_pow hk

def joinK (a b : K) : Option K :=
  if a.kind = 1 ∧ b.kind = 1 ∧ a.a = b.a ∧ popN (a.b ^^^ b.b) 64 = 1 then some (newMask (a.a &&& inv (a.b ^^^ b.b)) (a.b &&& inv (a.b ^^^ b.b)))
  else match blockK a, blockK b with
  | some (l1, h1), some (l2, h2) => if l2 ≤ h1 + 1 ∧ l1 ≤ h2 + 1 then some (newRange (min l1 l2) (max h1 h2)) else none
  | _, _ => none

theorem flip_and {m x y k : Nat} (hm : m < 18446744073709551616) (hx : m ||| x = m) (hy : m ||| y = m) (hk : k < 64) (e : x ^^^ y = 2 ^ k) :
    (m &&& inv (2 ^ k)) ||| (x &&& inv (2 ^ k)) = m &&& inv (2 ^ k) ∧ ∀ v, v < 18446744073709551616 → ((v &&& (m &&& inv (2 ^ k)) = x &&& inv (2 ^ k)) ↔ (v &&& m = x ∨ v &&& m = y)) := by
  have hp : 2 ^ k < 18446744073709551616 := Nat.pow_lt_pow_right (a := 2) (by omega) hk
  have bi : ∀ i, (inv (2 ^ k)).testBit i = (decide (i < 64) && !decide (k = i)) := fun i => by rw [bit_inv hp, Nat.testBit_two_pow]
  have vx := valid_mask hx
  have vy := valid_mask hy
  have be : ∀ i, (x.testBit i ^^ y.testBit i) = decide (k = i) := fun i => by rw [← Nat.testBit_xor, e, Nat.testBit_two_pow]
  have hbk : m.testBit k = true := by
    have h1 := be k
    simp only [decide_true] at h1
    cases hxk : x.testBit k with
    | true => exact vx k hxk
    | false => rw [hxk, Bool.false_xor] at h1; exact vy k h1
  constructor
  · apply Nat.eq_of_testBit_eq
    intro i
    simp only [Nat.testBit_or, Nat.testBit_and, bi]
    have := vx i
    cases h1 : x.testBit i <;> cases h2 : m.testBit i <;> simp_all
  · intro v hv
    rw [mask_bits, mask_bits, mask_bits]
    simp only [Nat.testBit_and, bi]
    constructor
    · intro h
      by_cases hvk : v.testBit k = x.testBit k
      · left
        intro i
        by_cases hi : k = i
        · subst hi; rw [hbk, Bool.and_true, hvk]
        · have h1 := h i
          by_cases h64 : i < 64
          · simp [hi, h64] at h1; exact h1
          · have b1 := bit_hi hv (i := i) (by omega)
            have b2 : m.testBit i = false := bit_hi hm (by omega)
            have b3 : x.testBit i = false := by
              cases h3 : x.testBit i with
              | false => rfl
              | true => rw [vx i h3] at b2; exact absurd b2 (by decide)
            simp [b1, b2, b3]
      · right
        intro i
        by_cases hi : k = i
        · subst hi
          have h1 := be k
          simp only [decide_true] at h1
          rw [hbk, Bool.and_true]
          cases h2 : v.testBit k <;> cases h3 : x.testBit k <;> cases h4 : y.testBit k <;> simp_all
        · have h1 := h i
          have h5 := be i
          rw [decide_eq_false hi] at h5
          have h6 : x.testBit i = y.testBit i := by cases h3 : x.testBit i <;> cases h4 : y.testBit i <;> simp_all
          by_cases h64 : i < 64
          · simp [hi, h64] at h1; rw [← h6]; exact h1
          · have b1 := bit_hi hv (i := i) (by omega)
            have b2 : m.testBit i = false := bit_hi hm (by omega)
            have b3 : y.testBit i = false := by
              cases h3 : y.testBit i with
              | false => rfl
              | true => rw [vy i h3] at b2; exact absurd b2 (by decide)
            simp [b1, b2, b3]
    · rintro (h | h) <;> intro i
      · have h1 := h i
        by_cases hi : k = i
        · simp [hi]
        · by_cases h64 : i < 64
          · simp [hi, h64]; exact h1
          · simp [h64]
      · have h1 := h i
        have h5 := be i
        by_cases hi : k = i
        · simp [hi]
        · rw [decide_eq_false hi] at h5
          have h6 : x.testBit i = y.testBit i := by cases h3 : x.testBit i <;> cases h4 : y.testBit i <;> simp_all
          by_cases h64 : i < 64
          · simp [hi, h64]; rw [h6]; exact h1
          · simp [h64]

theorem joinK_some {a b c : K} (ha : Normal a) (hb : Normal b) (h : joinK a b = some c) : Normal c ∧ ∀ v, v < 18446744073709551616 → (holdsK c v = true ↔ (holdsK a v = true ∨ holdsK b v = true)) := by
  unfold joinK at h
  by_cases h0 : a.kind = 1 ∧ b.kind = 1 ∧ a.a = b.a ∧ popN (a.b ^^^ b.b) 64 = 1
  · rw [if_pos h0] at h
    obtain ⟨ak, am, ax⟩ := a
    obtain ⟨bk, bm, bx⟩ := b
    obtain ⟨k1, k2, rfl, hp⟩ := h0
    simp only at k1 k2 hp h
    subst k1; subst k2
    have oa := ha.ok
    have ob := hb.ok
    have va := K.valid_cases ha.valid
    have vb := K.valid_cases hb.valid
    have ma : am ||| ax = am := by
      rcases va with h | ⟨x, y, h, h'⟩ | ⟨x, y, h, h'⟩
      · simp at h
      · simp at h; obtain ⟨rfl, rfl⟩ := h; exact h'
      · simp at h
    have mb : am ||| bx = am := by
      rcases vb with h | ⟨x, y, h, h'⟩ | ⟨x, y, h, h'⟩
      · simp at h
      · simp at h; obtain ⟨rfl, rfl⟩ := h; exact h'
      · simp at h
    obtain ⟨k, hk, e⟩ := (pop_one_iff (xor_lt oa.2.2 ob.2.2)).1 hp
    simp only at e
    obtain ⟨f1, f2⟩ := flip_and oa.2.1 ma mb hk e
    rw [e] at h
    injection h with h
    subst h
    refine ⟨newMask_normal (and_lt oa.2.1) f1, fun v hv => ?_⟩
    rw [newMask_holds f1, holds_mask, holds_mask, holds_mask]
    simp only [beq_iff_eq]
    exact f2 v hv
  · rw [if_neg h0] at h
    cases e1 : blockK a with
    | none => rw [e1] at h; simp at h
    | some p =>
      cases e2 : blockK b with
      | none => rw [e1, e2] at h; simp at h
      | some q =>
        obtain ⟨l1, h1⟩ := p
        obtain ⟨l2, h2⟩ := q
        rw [e1, e2] at h
        simp only at h
        by_cases hr : l2 ≤ h1 + 1 ∧ l1 ≤ h2 + 1
        · rw [if_pos hr] at h
          injection h with h
          subst h
          have b1 := block_lt ha.ok ha.valid e1
          have b2 := block_lt hb.ok hb.valid e2
          have hlh : min l1 l2 ≤ max h1 h2 := by omega
          have hhi : max h1 h2 < 18446744073709551616 := by omega
          refine ⟨newRange_normal hlh hhi, fun v hv => ?_⟩
          rw [newRange_holds hlh hhi hv, holds_range, block_holds ha.ok ha.valid e1 hv, block_holds hb.ok hb.valid e2 hv]
          simp only [Bool.and_eq_true, decide_eq_true_eq]
          omega
        · rw [if_neg hr] at h; simp at h

theorem joinK_none {a b : K} (h : joinK a b = none) : joinK b a = none := by
  unfold joinK at h ⊢
  by_cases h0 : a.kind = 1 ∧ b.kind = 1 ∧ a.a = b.a ∧ popN (a.b ^^^ b.b) 64 = 1
  · rw [if_pos h0] at h; simp at h
  · rw [if_neg h0] at h
    rw [if_neg (by rintro ⟨h1, h2, h3, h4⟩; exact h0 ⟨h2, h1, h3.symm, by rw [Nat.xor_comm]; exact h4⟩)]
    cases e1 : blockK a with
    | none => cases e2 : blockK b <;> simp
    | some p =>
      cases e2 : blockK b with
      | none => simp
      | some q =>
        obtain ⟨l1, h1⟩ := p
        obtain ⟨l2, h2⟩ := q
        rw [e1, e2] at h
        simp only at h ⊢
        by_cases hr : l2 ≤ h1 + 1 ∧ l1 ≤ h2 + 1
        · rw [if_pos hr] at h; simp at h
        · rw [if_neg (by rintro ⟨x, y⟩; exact hr ⟨y, x⟩)]
end Go.Proofs.Ytpbljegjinjmnaa
