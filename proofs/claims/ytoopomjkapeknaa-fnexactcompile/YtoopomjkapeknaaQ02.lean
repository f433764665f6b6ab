/-
  MathB, Enc, MathD, Dec
-/
import Derived.Test.YtoopomjkapeknaaQ01
import Derived.Laws.BitsAllLaws
import Derived.WalkLawsBesides
import Derived.Deep.RegionHeld3
import Derived.Deep.AppendLies
namespace Go.Proofs.Ytoopomjkapeknaa

/-- the n lowest bytes of v, the lowest first -/
def littleL : Int → Nat → List Int
  | _, 0 => []
  | v, n + 1 => v % 256 :: littleL (v / 256) n

theorem littleL_len (v : Int) (n : Nat) : (littleL v n).length = n := by
  induction n generalizing v with
  | zero => rfl
  | succ n ih => simp [littleL, ih]

theorem littleL_step {L l : List Int} {r : Int} {n k : Nat} (h : L = l ++ littleL r (n - k)) (hk : k < n) : L = (l ++ [r % 256]) ++ littleL (r / 256) (n - (k + 1)) := by
  have e : n - k = (n - (k + 1)) + 1 := by omega
  rw [h, e, littleL]; simp

/-- the bytes of one instruction -/
def encI (x : I) : List Int := littleL x.c 2 ++ [x.jt] ++ [x.jf] ++ littleL x.k 4
def encL (p : List I) : List Int := p.flatMap encI

theorem encI_len (x : I) : (encI x).length = 8 := by simp [encI, littleL_len]
theorem encL_len (p : List I) : (encL p).length = 8 * p.length := by
  induction p with
  | nil => rfl
  | cons x p ih => simp only [encL, List.flatMap_cons, List.length_append, encI_len, List.length_cons] at *; omega

theorem encL_take {p : List I} {k : Nat} (h : k < p.length) : encL (p.take (k + 1)) = encL (p.take k) ++ encI (p.getD k I.zero) := by
  unfold encL
  rw [List.take_succ_eq_append_getElem h, List.flatMap_append]
  simp [List.getElem?_eq_getElem h]
theorem encI_eq {x : I} (h : x.ok) : encI x = [x.c % 256, x.c / 256, x.jt, x.jf, x.k % 256, x.k / 256 % 256, x.k / 65536 % 256, x.k / 16777216] := by
  obtain ⟨h1, h2, h3, h4, h5, h6, h7, h8⟩ := h
  simp only [encI, littleL, List.cons_append, List.nil_append]
  rw [show x.c / 256 % 256 = x.c / 256 by omega, show x.k / 256 / 256 % 256 = x.k / 65536 % 256 by omega, show x.k / 256 / 256 / 256 % 256 = x.k / 16777216 by omega]
end Go.Proofs.Ytoopomjkapeknaa
namespace Go.Proofs.Ytoopomjkapeknaa
open Go.RowKit
set_option linter.unusedVariables false

theorem owns_app {w : World} {base : Nat} {v : Value} {l m : List Int} {n : Nat} (hn : n = l.length + m.length) (h : w.ownsRow base 5 1 v n (l.map (Value.int .u8) ++ m.map (Value.int .u8))) : owns w base v (l ++ m) := by
  subst hn
  simpa [owns] using h

theorem grown_below {w wr w1 : World} {B : Nat} {v : Value} {l : List Int} {o : Obj} (hB : Below B w wr) (hBs : B ≤ wr.heap.size) (hown : owns wr B v l) (hg : (wr.alloc o).grownBy w1 v.ownBlock) : Below B w w1 :=
  (hB.alloc hBs o).grown hg (by simp; omega) (fun k hk => (hown.lt k hk).1)

theorem grown_below0 {w wr w1 : World} {B : Nat} {v : Value} {l : List Int} (hB : Below B w wr) (hBs : B ≤ wr.heap.size) (hown : owns wr B v l) (hg : wr.grownBy w1 v.ownBlock) : Below B w w1 :=
  hB.grown hg hBs (fun k hk => (hown.lt k hk).1)

theorem owns_below {w w1 : World} {base : Nat} {v : Value} {l : List Int} (h : owns w base v l) (hb : Below w.heap.size w w1) : owns w1 base v l :=
  World.ownsRow.kept (row := none) h ⟨hb.os, hb.tape, hb.output, hb.size, fun k hk _ => hb.block k hk⟩ (by cases v.ownBlock <;> simp)

/-- an own row that is not empty lies at an address -/
theorem owns_at {w : World} {base : Nat} {v : Value} {l : List Int} (h : owns w base v l) (h0 : 0 < l.length) :
    ∃ g cap, v = .slice (some ⟨g, 0, none⟩) l.length cap ∧ base ≤ g ∧ ∀ j u, (l.map (Value.int .u8))[j]? = some u → w.cell? ((⟨g, 0, none⟩ : Addr).add j) = some u := by
  have h' := h
  obtain ⟨_, h | ⟨g, cap, cur, rfl, hb, hg, hn, hm, hs, hx⟩⟩ := h
  · omega
  · exact ⟨g, cap, rfl, hb, h'.cells rfl⟩

theorem bytes_oneCell (l : List Int) : ∀ u ∈ l.map (Value.int .u8), u.oneCell' = true := ints_oneCell .u8 l
end Go.Proofs.Ytoopomjkapeknaa
namespace Go.Proofs.Ytoopomjkapeknaa

/-- the number whose bytes are given, the lowest first -/
def numL : List Int → Int
  | [] => 0
  | x :: t => x + 256 * numL t

def isBytes (l : List Int) : Prop := ∀ x ∈ l, 0 ≤ x ∧ x ≤ 255

theorem numL_bd {l : List Int} (h : isBytes l) : 0 ≤ numL l ∧ numL l < ((256 ^ l.length : Nat) : Int) := by
  induction l with
  | nil => simp [numL]
  | cons x t ih =>
    have hx := h x (by simp)
    have ht := ih (fun y hy => h y (by simp [hy]))
    simp only [numL, List.length_cons, Nat.pow_succ]
    omega

theorem numL_bd8 {l : List Int} (h : isBytes l) (hl : l.length ≤ 8) : 0 ≤ numL l ∧ numL l ≤ 18446744073709551615 := by
  have h1 := numL_bd h
  have h2 : 256 ^ l.length ≤ 256 ^ 8 := Nat.pow_le_pow_right (by omega) hl
  have h3 : 256 ^ 8 = 18446744073709551616 := by decide
  omega

theorem numL_drop {l : List Int} {k : Nat} (h : k < l.length) : numL (l.drop k) = l.getD k 0 + 256 * numL (l.drop (k + 1)) := by
  rw [List.drop_eq_getElem_cons h, numL, List.getD_eq_getElem?_getD, List.getElem?_eq_getElem h]; rfl

theorem isBytes_drop {l : List Int} (h : isBytes l) (k : Nat) : isBytes (l.drop k) := fun x hx => h x (List.mem_of_mem_drop hx)
theorem isBytes_getD {l : List Int} (h : isBytes l) (i : Nat) : 0 ≤ l.getD i 0 ∧ l.getD i 0 ≤ 255 := by
  by_cases hi : i < l.length
  · rw [List.getD_eq_getElem?_getD, List.getElem?_eq_getElem hi]; exact h _ (List.getElem_mem hi)
  · rw [List.getD_eq_getElem?_getD, List.getElem?_eq_none (by omega)]; simp

theorem join32 (i : Nat) (a b : Int) (h1 : 0 ≤ a) (h2 : a < 2 ^ i) (h3 : 0 ≤ b) (h4 : b % 2 ^ i = 0) (h5 : a < 4294967296) (h6 : b < 4294967296) : bits .or .u32 a b = a + b := by
  rw [u32_or a b h1 h5 h3 h6, Nat.or_comm]
  have e : (b.toNat ||| a.toNat) = b.toNat + a.toNat := by
    refine nat_join i _ _ ?_ ?_
    · have : ((b.toNat % 2 ^ i : Nat) : Int) = 0 := by rw [Int.natCast_emod, Int.toNat_of_nonneg h3, Int.natCast_pow]; exact h4
      omega
    · have : ((a.toNat : Nat) : Int) < ((2 ^ i : Nat) : Int) := by rw [Int.toNat_of_nonneg h1, Int.natCast_pow]; exact h2
      omega
  rw [e]; omega
theorem join16 (i : Nat) (a b : Int) (h1 : 0 ≤ a) (h2 : a < 2 ^ i) (h3 : 0 ≤ b) (h4 : b % 2 ^ i = 0) (h5 : a < 65536) (h6 : b < 65536) : bits .or .u16 a b = a + b := by
  rw [u16_or a b h1 h5 h3 h6, Nat.or_comm]
  have e : (b.toNat ||| a.toNat) = b.toNat + a.toNat := by
    refine nat_join i _ _ ?_ ?_
    · have : ((b.toNat % 2 ^ i : Nat) : Int) = 0 := by rw [Int.natCast_emod, Int.toNat_of_nonneg h3, Int.natCast_pow]; exact h4
      omega
    · have : ((a.toNat : Nat) : Int) < ((2 ^ i : Nat) : Int) := by rw [Int.toNat_of_nonneg h1, Int.natCast_pow]; exact h2
      omega
  rw [e]; omega

theorem word_bits (x0 x1 x2 x3 : Int) (h0 : 0 ≤ x0 ∧ x0 ≤ 255) (h1 : 0 ≤ x1 ∧ x1 ≤ 255) (h2 : 0 ≤ x2 ∧ x2 ≤ 255) (h3 : 0 ≤ x3 ∧ x3 ≤ 255) :
    bits .or .u32 (bits .or .u32 (bits .or .u32 x0 (x1 * 256)) (x2 * 65536)) (x3 * 16777216) = x0 + 256 * x1 + 65536 * x2 + 16777216 * x3 := by
  rw [join32 8 x0 (x1 * 256) h0.1 (by omega) (by omega) (by omega) (by omega) (by omega)]
  rw [join32 16 _ (x2 * 65536) (by omega) (by omega) (by omega) (by omega) (by omega) (by omega)]
  rw [join32 24 _ (x3 * 16777216) (by omega) (by omega) (by omega) (by omega) (by omega) (by omega)]
  omega
theorem half_bits (x0 x1 : Int) (h0 : 0 ≤ x0 ∧ x0 ≤ 255) (h1 : 0 ≤ x1 ∧ x1 ≤ 255) : bits .or .u16 x0 (x1 * 256) = x0 + 256 * x1 := by
  rw [join16 8 x0 (x1 * 256) h0.1 (by omega) (by omega) (by omega) (by omega) (by omega)]
  omega

/-- the instruction that begins at byte 8 i -/
def decI (l : List Int) (i : Nat) : I :=
  ⟨l.getD (i * 8) 0 + 256 * l.getD (i * 8 + 1) 0, l.getD (i * 8 + 2) 0, l.getD (i * 8 + 3) 0, l.getD (i * 8 + 4) 0 + 256 * l.getD (i * 8 + 5) 0 + 65536 * l.getD (i * 8 + 6) 0 + 16777216 * l.getD (i * 8 + 7) 0⟩
def decN (l : List Int) (k : Nat) : List I := (List.range k).map (decI l)
def decBad (l : List Int) : Bool := l.length % 8 != 0 || decide (32768 < l.length)
def decL (l : List Int) : List I := if decBad l then [] else decN l (l.length / 8)
def decC (l : List Int) : Int := if decBad l then 1 else 0

theorem decN_succ (l : List Int) (k : Nat) : decN l (k + 1) = decN l k ++ [decI l k] := by simp [decN, List.range_succ]
theorem decN_len (l : List Int) (k : Nat) : (decN l k).length = k := by simp [decN]
theorem decI_ok {l : List Int} (h : isBytes l) (i : Nat) : (decI l i).ok := by
  have b := fun j => isBytes_getD h j
  have b0 := b (i * 8); have b1 := b (i * 8 + 1); have b2 := b (i * 8 + 2); have b3 := b (i * 8 + 3)
  have b4 := b (i * 8 + 4); have b5 := b (i * 8 + 5); have b6 := b (i * 8 + 6); have b7 := b (i * 8 + 7)
  unfold decI I.ok
  simp only
  omega
theorem decL_ok {l : List Int} (h : isBytes l) : ∀ x ∈ decL l, x.ok := by
  intro x hx
  unfold decL at hx
  split at hx
  · simp at hx
  · simp only [decN, List.mem_map, List.mem_range] at hx
    obtain ⟨i, _, rfl⟩ := hx
    exact decI_ok h i
end Go.Proofs.Ytoopomjkapeknaa
namespace Go.Proofs.Ytoopomjkapeknaa
open Go.RowKit
set_option linter.unusedVariables false

/-- an own row of bytes, laid by make and written cell by cell -/
def UptoB (w : World) (D n : Nat) (l : List Int) (k : Nat) : Prop := ∃ f, w.rowIs D 5 n f ∧ ∀ j, j < k → f j = .int .u8 (l.getD j 0)

theorem UptoB.step {w : World} {D n k : Nat} {l : List Int} (h : UptoB w D n l k) : UptoB (w.setCell ⟨D, k, none⟩ (.int .u8 (l.getD k 0))) D n l (k + 1) := by
  obtain ⟨f, hr, hf⟩ := h
  refine ⟨_, hr.set _ _, fun j hj => ?_⟩
  by_cases e : j = k
  · rw [if_pos e, e]
  · rw [if_neg e]; exact hf j (by omega)

theorem UptoB.own {w : World} {D n k : Nat} {l : List Int} (h : UptoB w D n l k) (j : Nat) (hj : j < n) : ∃ v, w.cell? ⟨D, j, none⟩ = some v ∧ w.frozen? ⟨D, j, none⟩ = false := by
  obtain ⟨f, hr, _⟩ := h
  exact ⟨_, hr.cell hj, hr.frozen j⟩

theorem UptoB.owns {w : World} {D : Nat} {l : List Int} (h : UptoB w D l.length l l.length) (hm : l.length ≤ maxLen) : owns w D (.slice (some ⟨D, 0, none⟩) l.length l.length) l := by
  obtain ⟨f, ⟨c, hc, hs, hcf⟩, hf⟩ := h
  refine ⟨by simp, .inr ⟨D, l.length, c, rfl, Nat.le_refl _, hc, Nat.le_refl _, hm, by omega, ?_⟩⟩
  apply List.ext_getElem?
  intro i
  by_cases hi : i < l.length
  · rw [List.getElem?_take, if_pos (by omega), Array.getElem?_toList, hcf i hi, hf i hi, List.getElem?_map, List.getElem?_eq_getElem hi, List.getD_eq_getElem?_getD, List.getElem?_eq_getElem hi]; rfl
  · rw [List.getElem?_take, if_neg (by omega), List.getElem?_map, List.getElem?_eq_none (by omega)]; rfl

end Go.Proofs.Ytoopomjkapeknaa
