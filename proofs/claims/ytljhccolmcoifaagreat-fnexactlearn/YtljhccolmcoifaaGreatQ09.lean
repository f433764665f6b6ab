/-
  MathZ, Leaf, Bytes, BytesM, Copy, Enc, Dec
-/
import Derived.Test.YtljhccolmcoifaaGreatQ08
import Derived.Test.YtljhccolmcoifaaGreatChecked
import Derived.Test.YtljhccolmcoifaaGreatQ01
import Derived.WalkKit
import Derived.WalkSpells
import Derived.WalkLawsBesides
import Derived.Deep.OwnRows
import Derived.Deep.QuietTactic
import Derived.BigQuiet
import Derived.Deep.RegionWith
import Derived.Deep.RegionHeld3
import Derived.Deep.AppendLies
namespace Go.Proofs.YtljhccolmcoifaaGreat
set_option linter.unusedVariables false

/-- it stands behind all that is out -/
def CandI (out : List Int) (c : Int) : Prop := ∀ o ∈ out, ordI o c < 0
/-- the best of the first k -/
def BestI (l out : List Int) (k : Nat) (best : Int) : Prop :=
  (best = -1 ∧ ∀ i, i < k → ¬ CandI out (l.getD i 0)) ∨ ∃ b : Nat, b < k ∧ best = b ∧ CandI out (l.getD b 0) ∧ ∀ i, i < k → CandI out (l.getD i 0) → l.getD b 0 ≤ l.getD i 0
theorem BestI.zero (l out : List Int) : BestI l out 0 (-1) := .inl ⟨rfl, fun i hi => by omega⟩
theorem BestI.skip {l out : List Int} {k : Nat} {best : Int} (h : BestI l out k best) (hc : ¬ CandI out (l.getD k 0)) : BestI l out (k + 1) best := by
  rcases h with ⟨h1, h2⟩ | ⟨b, h1, h2, h3, h4⟩
  · refine .inl ⟨h1, fun i hi => ?_⟩
    by_cases e : i = k
    · rw [e]; exact hc
    · exact h2 i (by omega)
  · refine .inr ⟨b, by omega, h2, h3, fun i hi hi2 => ?_⟩
    by_cases e : i = k
    · rw [e] at hi2; exact absurd hi2 hc
    · exact h4 i (by omega) hi2
theorem BestI.first {l out : List Int} {k : Nat} (h : BestI l out k (-1)) (hc : CandI out (l.getD k 0)) : BestI l out (k + 1) k := by
  rcases h with ⟨h1, h2⟩ | ⟨b, h1, h2, h3, h4⟩
  · refine .inr ⟨k, by omega, rfl, hc, fun i hi hi2 => ?_⟩
    by_cases e : i = k
    · rw [e]; exact Int.le_refl _
    · exact absurd hi2 (h2 i (by omega))
  · omega
theorem BestI.less {l out : List Int} {k b : Nat} (h : BestI l out k b) (hc : CandI out (l.getD k 0)) (ho : l.getD k 0 < l.getD b 0) : BestI l out (k + 1) k := by
  rcases h with ⟨h1, h2⟩ | ⟨b', h1, h2, h3, h4⟩
  · omega
  · have : b = b' := by omega
    subst this
    refine .inr ⟨k, by omega, rfl, hc, fun i hi hi2 => ?_⟩
    by_cases e : i = k
    · rw [e]; exact Int.le_refl _
    · have := h4 i (by omega) hi2; omega
theorem BestI.same {l out : List Int} {k b : Nat} (h : BestI l out k b) (ho : ¬ l.getD k 0 < l.getD b 0) : BestI l out (k + 1) b := by
  rcases h with ⟨h1, h2⟩ | ⟨b', h1, h2, h3, h4⟩
  · omega
  · have : b = b' := by omega
    subst this
    refine .inr ⟨b, by omega, rfl, h3, fun i hi hi2 => ?_⟩
    by_cases e : i = k
    · rw [e]; omega
    · exact h4 i (by omega) hi2
theorem BestI.cases {l out : List Int} {k : Nat} {best : Int} (h : BestI l out k best) : best = -1 ∨ ∃ b : Nat, best = b ∧ b < k := by
  rcases h with ⟨h1, h2⟩ | ⟨b', h1, h2, h3, h4⟩
  · exact .inl h1
  · exact .inr ⟨b', h2, h1⟩
theorem getD_memI {l : List Int} {i : Nat} (h : i < l.length) : l.getD i 0 ∈ l := by
  rw [List.getD_eq_getElem?_getD, List.getElem?_eq_getElem h]; exact List.getElem_mem h
theorem mem_getDI {l : List Int} {c : Int} (h : c ∈ l) : ∃ i, i < l.length ∧ l.getD i 0 = c := by
  obtain ⟨i, hi, rfl⟩ := List.getElem_of_mem h
  exact ⟨i, hi, by rw [List.getD_eq_getElem?_getD, List.getElem?_eq_getElem hi]; rfl⟩
theorem BestI.done {l out : List Int} (h : BestI l out l.length (-1)) (hs : SelG ordI l out) : DistG ordI l out := by
  rcases h with ⟨h1, h2⟩ | ⟨b', h1, h2, h3, h4⟩
  · refine hs.done fun c hc => ?_
    obtain ⟨i, hi, rfl⟩ := mem_getDI hc
    exact h2 i hi
  · omega
theorem BestI.next {l out : List Int} {b : Nat} (h : BestI l out l.length b) (hs : SelG ordI l out) : SelG ordI l (out ++ [l.getD b 0]) := by
  rcases h with ⟨h1, h2⟩ | ⟨b', h1, h2, h3, h4⟩
  · omega
  · have : b = b' := by omega
    subst this
    refine hs.next linI (getD_memI h1) h3 fun c hc hc2 => ?_
    obtain ⟨i, hi, rfl⟩ := mem_getDI hc
    have := h4 i hi hc2
    have := ordI_bd (l.getD b 0) (l.getD i 0)
    have := @ordI_lt (l.getD i 0) (l.getD b 0)
    have := ordI_anti (l.getD b 0) (l.getD i 0)
    omega
theorem candI_nil (c : Int) : CandI [] c := by intro o ho; simp at ho
theorem candI_snoc {t : List Int} {z c : Int} (h : AscG ordI (t ++ [z])) : CandI (t ++ [z]) c ↔ z < c := by
  unfold CandI
  rw [asc_last (z := z) linI h (by simp)]
  exact ordI_lt
/-- the values at index j of the calls that have v at index x (or of all) -/
def pickL (t : List La) (j : Nat) (x : Int) (v : Int) : List Int := (t.filter fun a => decide (x < 0) || a.getD x.toNat 0 == v).map fun a => a.getD j 0
theorem pickL_nil (j : Nat) (x v : Int) : pickL [] j x v = [] := rfl
theorem pickL_yes {t : List La} {a : La} (j : Nat) {x v : Int} (h : x < 0 ∨ a.getD x.toNat 0 = v) : pickL (t ++ [a]) j x v = pickL t j x v ++ [a.getD j 0] := by
  unfold pickL
  rw [List.filter_append, List.map_append]
  have : (decide (x < 0) || a.getD x.toNat 0 == v) = true := by
    rcases h with h | h
    · rw [decide_eq_true h]; rfl
    · rw [h, beq_self_eq_true, Bool.or_true]
  rw [List.filter_cons_of_pos (p := fun a : La => decide (x < 0) || a.getD x.toNat 0 == v) this]; rfl
theorem pickL_no {t : List La} {a : La} (j : Nat) {x v : Int} (h : ¬ x < 0) (h' : a.getD x.toNat 0 ≠ v) : pickL (t ++ [a]) j x v = pickL t j x v := by
  unfold pickL
  rw [List.filter_append, List.map_append]
  have : ¬ (decide (x < 0) || a.getD x.toNat 0 == v) = true := by
    rw [decide_eq_false h, Bool.false_or, beq_iff_eq]; exact h'
  rw [List.filter_cons_of_neg (p := fun a : La => decide (x < 0) || a.getD x.toNat 0 == v) this, List.filter_nil, List.map_nil, List.append_nil]
theorem pickL_all (t : List La) (j : Nat) {x v : Int} (h : x < 0) : pickL t j x v = t.map fun a => a.getD j 0 := by
  unfold pickL
  rw [List.filter_eq_self.2 (fun a _ => by simp [h])]
theorem pickL_with (t : List La) (j k : Nat) (v : Int) : pickL t j (k : Int) v = (withV t k v).map fun a => a.getD j 0 := by
  unfold pickL withV
  have : (fun a : La => decide ((k : Int) < 0) || a.getD (k : Int).toNat 0 == v) = fun a => a.getD k 0 == v := funext fun a => by
    rw [decide_eq_false (by omega), Bool.false_or, Int.toNat_natCast]
  rw [this]
theorem pickL_len (t : List La) (j : Nat) (x v : Int) : (pickL t j x v).length ≤ t.length := by
  unfold pickL; rw [List.length_map]; exact List.length_filter_le _ _
end Go.Proofs.YtljhccolmcoifaaGreat
namespace Go.Proofs.YtljhccolmcoifaaGreat
open Go.RowKit
set_option linter.unusedVariables false

theorem ret_int {k : IntKind} {a b : Int} (h : a = b) : Ending.returned (.int k a) = .returned (.int k b) := by rw [h]
theorem ret_bool {a b : Bool} (h : a = b) : Ending.returned (.bool a) = .returned (.bool b) := by rw [h]

/-- the value of one instruction -/
abbrev insV (c jt jf k : Int) : Value := .agg #[.int .u16 c, .int .u8 jt, .int .u8 jf, .int .u32 k]

/-- all old cells read as before behind a call that leaves old memory alone -/
theorem bcell {W w1 : World} (hb : Below W.heap.size W w1) : (∀ b o, b < W.heap.size → w1.cell? ⟨b, o, none⟩ = W.cell? ⟨b, o, none⟩) ∧ (∀ b o, b < W.heap.size → w1.frozen? ⟨b, o, none⟩ = W.frozen? ⟨b, o, none⟩) :=
  ⟨fun b o h => hb.cell (p := ⟨b, o, none⟩) h, fun b o h => hb.frozen (p := ⟨b, o, none⟩) h⟩

/-- WHERE A PROGRAM LIES: the instructions p behind the address a -/
def InsAt (w : World) (b o : Nat) (p : List I) : Prop :=
  ∀ i, i < p.length → w.cell? ⟨b, o + i * 4, none⟩ = some (.int .u16 (p.getD i I.zero).c) ∧ w.cell? ⟨b, o + i * 4 + 1, none⟩ = some (.int .u8 (p.getD i I.zero).jt) ∧
    w.cell? ⟨b, o + i * 4 + 2, none⟩ = some (.int .u8 (p.getD i I.zero).jf) ∧ w.cell? ⟨b, o + i * 4 + 3, none⟩ = some (.int .u32 (p.getD i I.zero).k)

end Go.Proofs.YtljhccolmcoifaaGreat
namespace Go.Proofs.YtljhccolmcoifaaGreat
open Go.RowKit
set_option linter.unusedVariables false

theorem add_at (b o m : Nat) : (⟨b, o, none⟩ : Addr).add m = ⟨b, o + m, none⟩ := by
  unfold Addr.add
  by_cases hm0 : m = 0
  · subst hm0; simp
  · simp [hm0]

/-- bytes that came in, or were made: nil or empty, or at an address -/
def BytesAt (w : World) (b o : Nat) (l : List Int) : Prop := ∀ i, i < l.length → w.cell? ⟨b, o + i, none⟩ = some (.int .u8 (l.getD i 0))

def BSrc (w : World) (a : Option Addr) (l : List Int) : Prop := l = [] ∨ ∃ b o, a = some ⟨b, o, none⟩ ∧ b < w.heap.size ∧ BytesAt w b o l

theorem BSrc.below {w w' : World} {a : Option Addr} {l : List Int} (h : BSrc w a l) (hb : Below w.heap.size w w') : BSrc w' a l := by
  rcases h with h | ⟨b, o, ha, hlt, hc⟩
  · exact .inl h
  · exact .inr ⟨b, o, ha, Nat.lt_of_lt_of_le hlt hb.size, fun i hi => (hb.cell (p := ⟨b, _, none⟩) hlt).trans (hc i hi)⟩

theorem info5 : (Tryz.prog.info? 5).map (fun i => (i.zero, i.size, i.bytes)) = some (some (.int .u8 0), 1, 1) := by kernel_rfl

/-- an own row of bytes -/
abbrev owns (w : World) (base : Nat) (v : Value) (l : List Int) : Prop := w.ownsRow base 5 1 v l.length (l.map (Value.int .u8))

theorem owns_src {w : World} {base : Nat} {v : Value} {l : List Int} (h : owns w base v l) : ∃ a cap, v = .slice a l.length cap ∧ BSrc w a l := by
  obtain ⟨_, h | ⟨g, cap, cur, rfl, hb, hg, hn, hm, hs, hx⟩⟩ := h
  · obtain ⟨rfl, h0⟩ := h
    have : l = [] := List.eq_nil_of_length_eq_zero h0
    subst this
    exact ⟨none, 0, rfl, .inl rfl⟩
  · refine ⟨_, _, rfl, .inr ⟨g, 0, rfl, (Array.getElem?_eq_some_iff.1 hg).1, fun i hi => ?_⟩⟩
    have e : (cur.toList.take (l.length * 1))[i]? = some (Value.int .u8 (l.getD i 0)) := by
      rw [hx, List.getElem?_map, List.getElem?_eq_getElem hi, List.getD_eq_getElem?_getD, List.getElem?_eq_getElem hi]; rfl
    rw [List.getElem?_take, if_pos (by omega)] at e
    simp only [World.cell?, hg, Nat.zero_add]
    simpa using e

theorem owns_kept {w w' : World} {B : Nat} {v : Value} {l : List Int} {row : Option Nat} (h : owns w B v l) (hg : w.grownBy w' row) (hne : ∀ q, v.ownBlock = some q → some q ≠ row) : owns w' B v l := by
  refine World.ownsRow.kept h hg ?_
  cases hv : v.ownBlock with
  | none => exact .inl rfl
  | some q => exact .inr (hne q hv)
end Go.Proofs.YtljhccolmcoifaaGreat
namespace Go.Proofs.YtljhccolmcoifaaGreat
open Go.RowKit
set_option linter.unusedVariables false

theorem grown_setCell {w wr : World} {D : Nat} (h : w.grownBy wr (some D)) (j : Nat) (v : Value) : w.grownBy (wr.setCell ⟨D, j, none⟩ v) (some D) :=
  ⟨h.os, h.tape, h.output, by have := h.size; simpa [World.setCell] using this, fun k hk hne => (Below.heap_setCell wr ⟨D, j, none⟩ v k (fun e => hne (by rw [e]))).trans (h.block k hk hne)⟩

/-- the cells of the row D from number 0 to j hold the marks k, k + 1, .. -/
def Marks (w : World) (D N : Nat) (k : Int) (j : Nat) : Prop := ∃ f, w.rowIs D 5 N f ∧ ∀ i, i < j → f i = .int .u8 (IntKind.u8.wrap (k + i))

theorem Marks.step {w : World} {D N j : Nat} {k : Int} (h : Marks w D N k j) : Marks (w.setCell ⟨D, j, none⟩ (.int .u8 (IntKind.u8.wrap (k + j)))) D N k (j + 1) := by
  obtain ⟨f, hr, hf⟩ := h
  refine ⟨_, hr.set _ _, fun i hi => ?_⟩
  by_cases e : i = j
  · rw [if_pos e, e]
  · rw [if_neg e]; exact hf i (by omega)

theorem Marks.own {w : World} {D N j : Nat} {k : Int} (h : Marks w D N k j) (i : Nat) (hi : i < N) : ∃ v, w.cell? ⟨D, i, none⟩ = some v ∧ w.frozen? ⟨D, i, none⟩ = false := by
  obtain ⟨f, hr, _⟩ := h
  exact ⟨_, hr.cell hi, hr.frozen i⟩

theorem owns_marks {w : World} {base g n cap : Nat} {l : List Int} (h : owns w base (.slice (some ⟨g, 0, none⟩) n cap) l) (k : Int) : n = l.length ∧ n ≤ cap ∧ base ≤ g ∧ Marks w g cap k 0 := by
  obtain ⟨_, h | ⟨g', cap', cur, hv, hb, hg, hn, hm, hs, hx⟩⟩ := h
  · simp at h
  · simp only [Value.slice.injEq, Option.some.injEq, Addr.mk.injEq] at hv
    obtain ⟨⟨rfl, _⟩, rfl, rfl⟩ := hv
    refine ⟨rfl, hn, hb, fun i => cur.getD i undef, ⟨cur, hg, by omega, fun i hi => ?_⟩, fun i hi => by omega⟩
    simp [show i < cur.size by omega]

/-- the marks k, k + 1, .. stand in the n bytes of v -/
def MarkedV (w : World) (v : Value) (n : Nat) (k : Int) : Prop := (v = .slice none 0 0 ∧ n = 0) ∨ ∃ g cap, v = .slice (some ⟨g, 0, none⟩) n cap ∧ n ≤ cap ∧ Marks w g cap k n

end Go.Proofs.YtljhccolmcoifaaGreat
namespace Go.Proofs.YtljhccolmcoifaaGreat
open Go.RowKit
set_option linter.unusedVariables false

/-- the cells of a program in a row, one behind another -/
def insF (p : List I) (j : Nat) : Value :=
  if j % 4 = 0 then .int .u16 (p.getD (j / 4) I.zero).c
  else if j % 4 = 1 then .int .u8 (p.getD (j / 4) I.zero).jt
  else if j % 4 = 2 then .int .u8 (p.getD (j / 4) I.zero).jf
  else .int .u32 (p.getD (j / 4) I.zero).k

theorem insF_0 (p : List I) (i : Nat) : insF p (i * 4) = .int .u16 (p.getD i I.zero).c := by
  unfold insF; rw [if_pos (by omega), show i * 4 / 4 = i by omega]
theorem insF_1 (p : List I) (i : Nat) : insF p (i * 4 + 1) = .int .u8 (p.getD i I.zero).jt := by
  unfold insF; rw [if_neg (by omega), if_pos (by omega), show (i * 4 + 1) / 4 = i by omega]
theorem insF_2 (p : List I) (i : Nat) : insF p (i * 4 + 2) = .int .u8 (p.getD i I.zero).jf := by
  unfold insF; rw [if_neg (by omega), if_neg (by omega), if_pos (by omega), show (i * 4 + 2) / 4 = i by omega]
theorem insF_3 (p : List I) (i : Nat) : insF p (i * 4 + 3) = .int .u32 (p.getD i I.zero).k := by
  unfold insF; rw [if_neg (by omega), if_neg (by omega), if_neg (by omega), show (i * 4 + 3) / 4 = i by omega]

/-- a program that came in, or was made: nil or empty, or at an address -/
def Src (w : World) (a : Option Addr) (p : List I) : Prop := p = [] ∨ ∃ b o, a = some ⟨b, o, none⟩ ∧ b < w.heap.size ∧ InsAt w b o p

theorem Src.below {w w' : World} {a : Option Addr} {p : List I} (h : Src w a p) (hb : Below w.heap.size w w') : Src w' a p := by
  rcases h with h | ⟨b, o, ha, hlt, hc⟩
  · exact .inl h
  · refine .inr ⟨b, o, ha, Nat.lt_of_lt_of_le hlt hb.size, fun i hi => ?_⟩
    obtain ⟨c0, c1, c2, c3⟩ := hc i hi
    exact ⟨(hb.cell (p := ⟨b, _, none⟩) hlt).trans c0, (hb.cell (p := ⟨b, _, none⟩) hlt).trans c1, (hb.cell (p := ⟨b, _, none⟩) hlt).trans c2, (hb.cell (p := ⟨b, _, none⟩) hlt).trans c3⟩

theorem Src.of_row {w : World} {D t : Nat} {p : List I} (h : w.rowIs D t (p.length * 4) (insF p)) : Src w (some ⟨D, 0, none⟩) p := by
  refine .inr ⟨D, 0, rfl, h.lt, fun i hi => ?_⟩
  refine ⟨?_, ?_, ?_, ?_⟩
  · rw [Nat.zero_add, h.cell (by omega), insF_0]
  · rw [Nat.zero_add, h.cell (by omega), insF_1]
  · rw [Nat.zero_add, h.cell (by omega), insF_2]
  · rw [Nat.zero_add, h.cell (by omega), insF_3]

/-- the cells up to number 4 k are the program's -/
def Upto (w : World) (D t n : Nat) (p : List I) (k : Nat) : Prop := ∃ f, w.rowIs D t (n * 4) f ∧ ∀ j, j < k * 4 → f j = insF p j

theorem Upto.step {w : World} {D t n k : Nat} {p : List I} (h : Upto w D t n p k) :
    Upto ((((w.setCell ⟨D, k * 4, none⟩ (.int .u16 (p.getD k I.zero).c)).setCell ⟨D, k * 4 + 1, none⟩ (.int .u8 (p.getD k I.zero).jt)).setCell ⟨D, k * 4 + 2, none⟩ (.int .u8 (p.getD k I.zero).jf)).setCell ⟨D, k * 4 + 3, none⟩ (.int .u32 (p.getD k I.zero).k)) D t n p (k + 1) := by
  obtain ⟨f, hr, hf⟩ := h
  refine ⟨_, (((hr.set _ _).set _ _).set _ _).set _ _, fun j hj => ?_⟩
  by_cases e3 : j = k * 4 + 3
  · rw [if_pos e3, e3, insF_3]
  · rw [if_neg e3]
    by_cases e2 : j = k * 4 + 2
    · rw [if_pos e2, e2, insF_2]
    · rw [if_neg e2]
      by_cases e1 : j = k * 4 + 1
      · rw [if_pos e1, e1, insF_1]
      · rw [if_neg e1]
        by_cases e0 : j = k * 4
        · rw [if_pos e0, e0, insF_0]
        · rw [if_neg e0]; exact hf j (by omega)

theorem Upto.own {w : World} {D t n k : Nat} {p : List I} (h : Upto w D t n p k) (j : Nat) (hj : j < n * 4) : ∃ v, w.cell? ⟨D, j, none⟩ = some v ∧ w.frozen? ⟨D, j, none⟩ = false := by
  obtain ⟨f, hr, _⟩ := h
  exact ⟨_, hr.cell hj, hr.frozen j⟩

theorem Upto.done {w : World} {D t n : Nat} {p : List I} (h : Upto w D t n p n) : w.rowIs D t (n * 4) (insF p) := by
  obtain ⟨f, hr, hf⟩ := h
  exact hr.congr hf

theorem Upto.keep {w w' : World} {D t n k : Nat} {p : List I} (h : Upto w D t n p k) (hb : Below w.heap.size w w') : Upto w' D t n p k := by
  obtain ⟨f, hr, hf⟩ := h
  exact ⟨f, hr.of_block (hb.block D hr.lt), hf⟩

end Go.Proofs.YtljhccolmcoifaaGreat
namespace Go.Proofs.YtljhccolmcoifaaGreat
open Go.RowKit
set_option linter.unusedVariables false

theorem owns_app {w : World} {base : Nat} {v : Value} {l m : List Int} {n : Nat} (hn : n = l.length + m.length) (h : w.ownsRow base 5 1 v n (l.map (Value.int .u8) ++ m.map (Value.int .u8))) : owns w base v (l ++ m) := by
  subst hn
  simpa [owns] using h

theorem grown_below {w wr w1 : World} {B : Nat} {v : Value} {l : List Int} {o : Obj} (hB : Below B w wr) (hBs : B ≤ wr.heap.size) (hown : owns wr B v l) (hg : (wr.alloc o).grownBy w1 v.ownBlock) : Below B w w1 :=
  (hB.alloc hBs o).grown hg (by simp; omega) (fun k hk => (hown.lt k hk).1)

theorem grown_below0 {w wr w1 : World} {B : Nat} {v : Value} {l : List Int} (hB : Below B w wr) (hBs : B ≤ wr.heap.size) (hown : owns wr B v l) (hg : wr.grownBy w1 v.ownBlock) : Below B w w1 :=
  hB.grown hg hBs (fun k hk => (hown.lt k hk).1)

theorem owns_below {w w1 : World} {base : Nat} {v : Value} {l : List Int} (h : owns w base v l) (hb : Below w.heap.size w w1) : owns w1 base v l :=
  World.ownsRow.kept (row := none) h ⟨hb.os, hb.tape, hb.output, hb.size, fun k hk _ => hb.block k hk⟩ (by cases v.ownBlock <;> simp)

/-- an own row that is not empty lies at an address -/
theorem owns_at {w : World} {base : Nat} {v : Value} {l : List Int} (h : owns w base v l) (h0 : 0 < l.length) :
    ∃ g cap, v = .slice (some ⟨g, 0, none⟩) l.length cap ∧ base ≤ g ∧ ∀ j u, (l.map (Value.int .u8))[j]? = some u → w.cell? ((⟨g, 0, none⟩ : Addr).add j) = some u := by
  have h' := h
  obtain ⟨_, h | ⟨g, cap, cur, rfl, hb, hg, hn, hm, hs, hx⟩⟩ := h
  · omega
  · exact ⟨g, cap, rfl, hb, h'.cells rfl⟩

theorem bytes_oneCell (l : List Int) : ∀ u ∈ l.map (Value.int .u8), u.oneCell' = true := ints_oneCell .u8 l
end Go.Proofs.YtljhccolmcoifaaGreat
namespace Go.Proofs.YtljhccolmcoifaaGreat
open Go.RowKit
set_option linter.unusedVariables false

/-- an own row of bytes, laid by make and written cell by cell -/
def UptoB (w : World) (D n : Nat) (l : List Int) (k : Nat) : Prop := ∃ f, w.rowIs D 5 n f ∧ ∀ j, j < k → f j = .int .u8 (l.getD j 0)

theorem UptoB.step {w : World} {D n k : Nat} {l : List Int} (h : UptoB w D n l k) : UptoB (w.setCell ⟨D, k, none⟩ (.int .u8 (l.getD k 0))) D n l (k + 1) := by
  obtain ⟨f, hr, hf⟩ := h
  refine ⟨_, hr.set _ _, fun j hj => ?_⟩
  by_cases e : j = k
  · rw [if_pos e, e]
  · rw [if_neg e]; exact hf j (by omega)

theorem UptoB.own {w : World} {D n k : Nat} {l : List Int} (h : UptoB w D n l k) (j : Nat) (hj : j < n) : ∃ v, w.cell? ⟨D, j, none⟩ = some v ∧ w.frozen? ⟨D, j, none⟩ = false := by
  obtain ⟨f, hr, _⟩ := h
  exact ⟨_, hr.cell hj, hr.frozen j⟩

theorem UptoB.owns {w : World} {D : Nat} {l : List Int} (h : UptoB w D l.length l l.length) (hm : l.length ≤ maxLen) : owns w D (.slice (some ⟨D, 0, none⟩) l.length l.length) l := by
  obtain ⟨f, ⟨c, hc, hs, hcf⟩, hf⟩ := h
  refine ⟨by simp, .inr ⟨D, l.length, c, rfl, Nat.le_refl _, hc, Nat.le_refl _, hm, by omega, ?_⟩⟩
  apply List.ext_getElem?
  intro i
  by_cases hi : i < l.length
  · rw [List.getElem?_take, if_pos (by omega), Array.getElem?_toList, hcf i hi, hf i hi, List.getElem?_map, List.getElem?_eq_getElem hi, List.getD_eq_getElem?_getD, List.getElem?_eq_getElem hi]; rfl
  · rw [List.getElem?_take, if_neg (by omega), List.getElem?_map, List.getElem?_eq_none (by omega)]; rfl

end Go.Proofs.YtljhccolmcoifaaGreat
