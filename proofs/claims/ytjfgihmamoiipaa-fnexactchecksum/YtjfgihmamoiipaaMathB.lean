/-
  PLAIN MATHEMATICS of the bytes of a program.
-/
import Derived.Test.YtjfgihmamoiipaaMath
namespace Go.Proofs.Ytjfgihmamoiipaa

/-- the n lowest bytes of v, the lowest first -/
def littleL : Int → Nat → List Int
  | _, 0 => []
  | v, n + 1 => v % 256 :: littleL (v / 256) n

theorem littleL_len (v : Int) (n : Nat) : (littleL v n).length = n := by
  induction n generalizing v with
  | zero => rfl
  | succ n ih => simp [littleL, ih]

theorem littleL_step {L l : List Int} {r : Int} {n k : Nat} (h : L = l ++ littleL r (n - k)) (hk : k < n) : L = (l ++ [r % 256]) ++ littleL (r / 256) (n - (k + 1)) := by
  have e : n - k = (n - (k + 1)) + 1 := by omega
  rw [h, e, littleL]; simp

/-- the bytes of one instruction -/
def encI (x : I) : List Int := littleL x.c 2 ++ [x.jt] ++ [x.jf] ++ littleL x.k 4
def encL (p : List I) : List Int := p.flatMap encI

theorem encI_len (x : I) : (encI x).length = 8 := by simp [encI, littleL_len]
theorem encL_len (p : List I) : (encL p).length = 8 * p.length := by
  induction p with
  | nil => rfl
  | cons x p ih => simp only [encL, List.flatMap_cons, List.length_append, encI_len, List.length_cons] at *; omega

theorem encL_take {p : List I} {k : Nat} (h : k < p.length) : encL (p.take (k + 1)) = encL (p.take k) ++ encI (p.getD k I.zero) := by
  unfold encL
  rw [List.take_succ_eq_append_getElem h, List.flatMap_append]
  simp [List.getElem?_eq_getElem h]
theorem encI_eq {x : I} (h : x.ok) : encI x = [x.c % 256, x.c / 256, x.jt, x.jf, x.k % 256, x.k / 256 % 256, x.k / 65536 % 256, x.k / 16777216] := by
  obtain ⟨h1, h2, h3, h4, h5, h6, h7, h8⟩ := h
  simp only [encI, littleL, List.cons_append, List.nil_append]
  rw [show x.c / 256 % 256 = x.c / 256 by omega, show x.k / 256 / 256 % 256 = x.k / 65536 % 256 by omega, show x.k / 256 / 256 / 256 % 256 = x.k / 16777216 by omega]
end Go.Proofs.Ytjfgihmamoiipaa
