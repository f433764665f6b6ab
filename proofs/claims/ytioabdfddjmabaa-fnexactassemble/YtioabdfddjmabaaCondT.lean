/-
  CONTRACTS of the model's conditions: what holds, block, normal.
-/
import Derived.Test.YtioabdfddjmabaaCondS
import Derived.Deep.OwnRows
import Derived.Deep.QuietTactic
import Derived.BigQuiet
import Derived.Deep.RegionWith
import Derived.Deep.RegionHeld3
namespace Go.Proofs.Ytioabdfddjmabaa
open Go.RowKit
set_option linter.unusedVariables false

/-- what the model's block says -/
def blkV (c : K) : Value := match blockK c with | some (lo, hi) => .tuple #[.int .u64 (lo : Int), .int .u64 (hi : Int), .bool true] | none => .tuple #[.int .u64 0, .int .u64 0, .bool false]

/-- a condition's own box -/
structure BoxK (w : World) (g : Nat) (x y z : Value) : Prop where
  lt : g < w.heap.size
  c0 : w.cell? ⟨g, 0, none⟩ = some x
  c1 : w.cell? ⟨g, 1, none⟩ = some y
  c2 : w.cell? ⟨g, 2, none⟩ = some z
  f0 : w.frozen? ⟨g, 0, none⟩ = false
  f1 : w.frozen? ⟨g, 1, none⟩ = false
  f2 : w.frozen? ⟨g, 2, none⟩ = false

theorem BoxK.keep {w w1 : World} {g : Nat} {x y z : Value} (h : BoxK w g x y z) (hb : Below w.heap.size w w1) : BoxK w1 g x y z :=
  ⟨Nat.lt_of_lt_of_le h.lt hb.size, (hb.cell (p := ⟨g, 0, none⟩) h.lt).trans h.c0, (hb.cell (p := ⟨g, 1, none⟩) h.lt).trans h.c1, (hb.cell (p := ⟨g, 2, none⟩) h.lt).trans h.c2,
    (hb.frozen (p := ⟨g, 0, none⟩) h.lt).trans h.f0, (hb.frozen (p := ⟨g, 1, none⟩) h.lt).trans h.f1, (hb.frozen (p := ⟨g, 2, none⟩) h.lt).trans h.f2⟩
theorem BoxK.new (w : World) (t : TypeId) (x y z : Value) : BoxK (w.alloc (.cells #[x, y, z] t)) w.heap.size x y z :=
  ⟨by simp, by simp, by simp, by simp, by simp, by simp, by simp⟩
theorem BoxK.drew {w : World} {g : Nat} {x y z : Value} (h : BoxK w g x y z) : BoxK w.drew g x y z := h.keep (Below.refl _ _).drew
theorem BoxK.alloc {w : World} {g : Nat} {x y z : Value} (h : BoxK w g x y z) (o : Obj) : BoxK (w.alloc o) g x y z := h.keep ((Below.refl _ _).alloc (Nat.le_refl _) o)

theorem wrap_sub_ones {L : Nat} (h : L ≤ 18446744073709551615) : IntKind.u64.wrap (18446744073709551615 - (L : Int)) = 18446744073709551615 - (L : Int) := by
  rw [IntKind.wrap_u64]; omega
theorem wrap_add_nat {a b : Nat} (h : a + b < 18446744073709551616) : IntKind.u64.wrap ((a : Int) + (b : Int)) = ((a + b : Nat) : Int) := by
  rw [IntKind.wrap_u64]; omega

theorem normK_of_block {c : K} {lo hi : Nat} (ho : c.ok) (hv : validK c = true) (h : blockK c = some (lo, hi)) : normK c = newRange lo hi := by
  rcases K.valid_cases hv with rfl | ⟨a, b, rfl, h1⟩ | ⟨a, b, rfl, h1⟩
  · simp [blockK] at h; obtain ⟨rfl, rfl⟩ := h
    rw [newRange_block (k := 64) (by omega) (by omega) (by omega) (by rw [low_64]) (by rw [Nat.zero_and])]; rfl
  · have h2 : (if isLow (inv a) then some (b, b + inv a) else none) = some (lo, hi) := h
    by_cases h3 : isLow (inv a) = true
    · rw [if_pos h3] at h2
      simp at h2; obtain ⟨rfl, rfl⟩ := h2
      rw [(mask_block ho.2.1 h1 h3).2.2]; rfl
    · rw [if_neg h3] at h2; exact absurd h2 (by simp)
  · simp [blockK] at h; obtain ⟨rfl, rfl⟩ := h
    rfl
theorem normK_of_none {c : K} (ho : c.ok) (hv : validK c = true) (h : blockK c = none) : normK c = c := by
  rcases K.valid_cases hv with rfl | ⟨a, b, rfl, h1⟩ | ⟨a, b, rfl, h1⟩
  · simp [blockK] at h
  · have h2 : (if isLow (inv a) then some (b, b + inv a) else none) = none := h
    by_cases h3 : isLow (inv a) = true
    · rw [if_pos h3] at h2; exact absurd h2 (by simp)
    · have : a ≠ 0 := fun e => h3 (by rw [e]; decide)
      simp [normK, newMask, this]
  · simp [blockK] at h
end Go.Proofs.Ytioabdfddjmabaa
