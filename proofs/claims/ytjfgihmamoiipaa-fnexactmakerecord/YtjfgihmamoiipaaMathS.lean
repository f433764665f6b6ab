/-
  PLAIN MATHEMATICS of the checksum. No Go in sight.
-/
import Derived.Test.YtjfgihmamoiipaaMathD
import Derived.Laws.Closers25b
namespace Go.Proofs.Ytjfgihmamoiipaa

/-- one bit falls out of h and decides -/
def halfI (h : Int) : Int := if h % 2 = 1 then bits .xor .u32 (h / 2) 3988292384 else h / 2
def halfN : Nat → Int → Int
  | 0, h => h
  | n + 1, h => halfN n (halfI h)
/-- the checksum on its way, h so far -/
def sumF : Int → List Int → Int
  | h, [] => h
  | h, b :: r => sumF (halfN 8 (bits .xor .u32 h b)) r
def sumL (l : List Int) : Int := bits .xor .u32 (sumF 4294967295 l) 4294967295

theorem halfI_ok {h : Int} (h0 : 0 ≤ h) (h1 : h ≤ 4294967295) : 0 ≤ halfI h ∧ halfI h ≤ 4294967295 := by
  unfold halfI
  split
  · exact ⟨bits_lo_u32 _ _ _, bits_hi_u32 _ _ _⟩
  · omega
theorem halfN_ok (n : Nat) {h : Int} (h0 : 0 ≤ h) (h1 : h ≤ 4294967295) : 0 ≤ halfN n h ∧ halfN n h ≤ 4294967295 := by
  induction n generalizing h with
  | zero => exact ⟨h0, h1⟩
  | succ n ih => exact ih (halfI_ok h0 h1).1 (halfI_ok h0 h1).2
theorem sumL_ok (l : List Int) : 0 ≤ sumL l ∧ sumL l ≤ 4294967295 := ⟨bits_lo_u32 _ _ _, bits_hi_u32 _ _ _⟩

theorem halfN_step {X h : Int} {n : Nat} (e : X = halfN (n + 1) h) : X = halfN n (halfI h) := e
theorem sumF_step {X h : Int} {l : List Int} {k : Nat} (e : X = sumF h (l.drop k)) (hk : k < l.length) : X = sumF (halfN 8 (bits .xor .u32 h (l.getD k 0))) (l.drop (k + 1)) := by
  rw [List.drop_eq_getElem_cons hk] at e
  rw [e, List.getD_eq_getElem?_getD, List.getElem?_eq_getElem hk]
  rfl

/-- the lowest bit -/
theorem and1_u32 {h : Int} (h0 : 0 ≤ h) (h1 : h ≤ 4294967295) : bits .and .u32 h 1 = h % 2 := by
  rw [u32_and h 1 h0 (by omega) (by omega) (by omega)]
  have e : h.toNat &&& (1 : Int).toNat = h.toNat % 2 := Nat.and_two_pow_sub_one_eq_mod h.toNat 1
  rw [e]; omega
/-- the other bits -/
theorem not_u32 {h : Int} (h0 : 0 ≤ h) (h1 : h ≤ 4294967295) : bits .xor .u32 h 4294967295 = 4294967295 - h := by
  rw [u32_xor h 4294967295 h0 (by omega) (by omega) (by omega)]
  have h2 : h.toNat < 2 ^ 32 := by omega
  have e : h.toNat ^^^ (4294967295 : Int).toNat = 4294967295 - h.toNat := by
    have e1 : (BitVec.ofNat 32 h.toNat ^^^ BitVec.allOnes 32).toNat = (~~~ (BitVec.ofNat 32 h.toNat)).toNat := by rw [BitVec.xor_allOnes]
    rw [BitVec.toNat_xor, BitVec.toNat_not, BitVec.toNat_ofNat, Nat.mod_eq_of_lt h2, BitVec.toNat_allOnes] at e1
    simpa using e1
  rw [e]; omega
theorem not2_u32 {h : Int} (h0 : 0 ≤ h) (h1 : h ≤ 4294967295) : bits .xor .u32 IntKind.u32.max h = 4294967295 - h := by
  have e : IntKind.u32.max = 4294967295 := by decide
  rw [e, ← not_u32 h0 h1, u32_xor h 4294967295 h0 (by omega) (by omega) (by omega), u32_xor 4294967295 h (by omega) (by omega) h0 (by omega), Nat.xor_comm]
end Go.Proofs.Ytjfgihmamoiipaa
