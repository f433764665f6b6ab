/-
  Leaf, Copy, Bytes, BytesM, Enc, Dec, U64, Open, OpenB
-/
import Derived.Test.YtoamapdfcdefjaaGreatChecked
import Derived.Test.YtoamapdfcdefjaaGreatQ01
import Derived.WalkKit
import Derived.WalkSpells
import Derived.WalkLawsBesides
import Derived.Deep.OwnRows
import Derived.Deep.QuietTactic
import Derived.BigQuiet
import Derived.Deep.RegionWith
import Derived.Deep.RegionHeld3
import Derived.Deep.AppendLies
import Derived.ProofKit
import Derived.OpenShut
import Derived.ShutString
import Derived.ChangeOld
import Derived.Below
import Derived.Deep.Slices
namespace Go.Proofs.YtoamapdfcdefjaaGreat
open Go.RowKit
set_option linter.unusedVariables false

theorem ret_int {k : IntKind} {a b : Int} (h : a = b) : Ending.returned (.int k a) = .returned (.int k b) := by rw [h]
theorem ret_bool {a b : Bool} (h : a = b) : Ending.returned (.bool a) = .returned (.bool b) := by rw [h]

/-- the value of one instruction -/
abbrev insV (c jt jf k : Int) : Value := .agg #[.int .u16 c, .int .u8 jt, .int .u8 jf, .int .u32 k]

/-- all old cells read as before behind a call that leaves old memory alone -/
theorem bcell {W w1 : World} (hb : Below W.heap.size W w1) : (∀ b o, b < W.heap.size → w1.cell? ⟨b, o, none⟩ = W.cell? ⟨b, o, none⟩) ∧ (∀ b o, b < W.heap.size → w1.frozen? ⟨b, o, none⟩ = W.frozen? ⟨b, o, none⟩) :=
  ⟨fun b o h => hb.cell (p := ⟨b, o, none⟩) h, fun b o h => hb.frozen (p := ⟨b, o, none⟩) h⟩

/-- WHERE A PROGRAM LIES: the instructions p behind the address a -/
def InsAt (w : World) (b o : Nat) (p : List I) : Prop :=
  ∀ i, i < p.length → w.cell? ⟨b, o + i * 4, none⟩ = some (.int .u16 (p.getD i I.zero).c) ∧ w.cell? ⟨b, o + i * 4 + 1, none⟩ = some (.int .u8 (p.getD i I.zero).jt) ∧
    w.cell? ⟨b, o + i * 4 + 2, none⟩ = some (.int .u8 (p.getD i I.zero).jf) ∧ w.cell? ⟨b, o + i * 4 + 3, none⟩ = some (.int .u32 (p.getD i I.zero).k)

end Go.Proofs.YtoamapdfcdefjaaGreat
namespace Go.Proofs.YtoamapdfcdefjaaGreat
open Go.RowKit
set_option linter.unusedVariables false

/-- the cells of a program in a row, one behind another -/
def insF (p : List I) (j : Nat) : Value :=
  if j % 4 = 0 then .int .u16 (p.getD (j / 4) I.zero).c
  else if j % 4 = 1 then .int .u8 (p.getD (j / 4) I.zero).jt
  else if j % 4 = 2 then .int .u8 (p.getD (j / 4) I.zero).jf
  else .int .u32 (p.getD (j / 4) I.zero).k

theorem insF_0 (p : List I) (i : Nat) : insF p (i * 4) = .int .u16 (p.getD i I.zero).c := by
  unfold insF; rw [if_pos (by omega), show i * 4 / 4 = i by omega]
theorem insF_1 (p : List I) (i : Nat) : insF p (i * 4 + 1) = .int .u8 (p.getD i I.zero).jt := by
  unfold insF; rw [if_neg (by omega), if_pos (by omega), show (i * 4 + 1) / 4 = i by omega]
theorem insF_2 (p : List I) (i : Nat) : insF p (i * 4 + 2) = .int .u8 (p.getD i I.zero).jf := by
  unfold insF; rw [if_neg (by omega), if_neg (by omega), if_pos (by omega), show (i * 4 + 2) / 4 = i by omega]
theorem insF_3 (p : List I) (i : Nat) : insF p (i * 4 + 3) = .int .u32 (p.getD i I.zero).k := by
  unfold insF; rw [if_neg (by omega), if_neg (by omega), if_neg (by omega), show (i * 4 + 3) / 4 = i by omega]

/-- a program that came in, or was made: nil or empty, or at an address -/
def Src (w : World) (a : Option Addr) (p : List I) : Prop := p = [] ∨ ∃ b o, a = some ⟨b, o, none⟩ ∧ b < w.heap.size ∧ InsAt w b o p

theorem Src.below {w w' : World} {a : Option Addr} {p : List I} (h : Src w a p) (hb : Below w.heap.size w w') : Src w' a p := by
  rcases h with h | ⟨b, o, ha, hlt, hc⟩
  · exact .inl h
  · refine .inr ⟨b, o, ha, Nat.lt_of_lt_of_le hlt hb.size, fun i hi => ?_⟩
    obtain ⟨c0, c1, c2, c3⟩ := hc i hi
    exact ⟨(hb.cell (p := ⟨b, _, none⟩) hlt).trans c0, (hb.cell (p := ⟨b, _, none⟩) hlt).trans c1, (hb.cell (p := ⟨b, _, none⟩) hlt).trans c2, (hb.cell (p := ⟨b, _, none⟩) hlt).trans c3⟩

theorem Src.of_row {w : World} {D t : Nat} {p : List I} (h : w.rowIs D t (p.length * 4) (insF p)) : Src w (some ⟨D, 0, none⟩) p := by
  refine .inr ⟨D, 0, rfl, h.lt, fun i hi => ?_⟩
  refine ⟨?_, ?_, ?_, ?_⟩
  · rw [Nat.zero_add, h.cell (by omega), insF_0]
  · rw [Nat.zero_add, h.cell (by omega), insF_1]
  · rw [Nat.zero_add, h.cell (by omega), insF_2]
  · rw [Nat.zero_add, h.cell (by omega), insF_3]

/-- the cells up to number 4 k are the program's -/
def Upto (w : World) (D t n : Nat) (p : List I) (k : Nat) : Prop := ∃ f, w.rowIs D t (n * 4) f ∧ ∀ j, j < k * 4 → f j = insF p j

theorem Upto.step {w : World} {D t n k : Nat} {p : List I} (h : Upto w D t n p k) :
    Upto ((((w.setCell ⟨D, k * 4, none⟩ (.int .u16 (p.getD k I.zero).c)).setCell ⟨D, k * 4 + 1, none⟩ (.int .u8 (p.getD k I.zero).jt)).setCell ⟨D, k * 4 + 2, none⟩ (.int .u8 (p.getD k I.zero).jf)).setCell ⟨D, k * 4 + 3, none⟩ (.int .u32 (p.getD k I.zero).k)) D t n p (k + 1) := by
  obtain ⟨f, hr, hf⟩ := h
  refine ⟨_, (((hr.set _ _).set _ _).set _ _).set _ _, fun j hj => ?_⟩
  by_cases e3 : j = k * 4 + 3
  · rw [if_pos e3, e3, insF_3]
  · rw [if_neg e3]
    by_cases e2 : j = k * 4 + 2
    · rw [if_pos e2, e2, insF_2]
    · rw [if_neg e2]
      by_cases e1 : j = k * 4 + 1
      · rw [if_pos e1, e1, insF_1]
      · rw [if_neg e1]
        by_cases e0 : j = k * 4
        · rw [if_pos e0, e0, insF_0]
        · rw [if_neg e0]; exact hf j (by omega)

theorem Upto.own {w : World} {D t n k : Nat} {p : List I} (h : Upto w D t n p k) (j : Nat) (hj : j < n * 4) : ∃ v, w.cell? ⟨D, j, none⟩ = some v ∧ w.frozen? ⟨D, j, none⟩ = false := by
  obtain ⟨f, hr, _⟩ := h
  exact ⟨_, hr.cell hj, hr.frozen j⟩

theorem Upto.done {w : World} {D t n : Nat} {p : List I} (h : Upto w D t n p n) : w.rowIs D t (n * 4) (insF p) := by
  obtain ⟨f, hr, hf⟩ := h
  exact hr.congr hf

theorem Upto.keep {w w' : World} {D t n k : Nat} {p : List I} (h : Upto w D t n p k) (hb : Below w.heap.size w w') : Upto w' D t n p k := by
  obtain ⟨f, hr, hf⟩ := h
  exact ⟨f, hr.of_block (hb.block D hr.lt), hf⟩

end Go.Proofs.YtoamapdfcdefjaaGreat
namespace Go.Proofs.YtoamapdfcdefjaaGreat
open Go.RowKit
set_option linter.unusedVariables false

theorem add_at (b o m : Nat) : (⟨b, o, none⟩ : Addr).add m = ⟨b, o + m, none⟩ := by
  unfold Addr.add
  by_cases hm0 : m = 0
  · subst hm0; simp
  · simp [hm0]

/-- bytes that came in, or were made: nil or empty, or at an address -/
def BytesAt (w : World) (b o : Nat) (l : List Int) : Prop := ∀ i, i < l.length → w.cell? ⟨b, o + i, none⟩ = some (.int .u8 (l.getD i 0))

def BSrc (w : World) (a : Option Addr) (l : List Int) : Prop := l = [] ∨ ∃ b o, a = some ⟨b, o, none⟩ ∧ b < w.heap.size ∧ BytesAt w b o l

theorem BSrc.below {w w' : World} {a : Option Addr} {l : List Int} (h : BSrc w a l) (hb : Below w.heap.size w w') : BSrc w' a l := by
  rcases h with h | ⟨b, o, ha, hlt, hc⟩
  · exact .inl h
  · exact .inr ⟨b, o, ha, Nat.lt_of_lt_of_le hlt hb.size, fun i hi => (hb.cell (p := ⟨b, _, none⟩) hlt).trans (hc i hi)⟩

theorem info5 : (Tryz.prog.info? 5).map (fun i => (i.zero, i.size, i.bytes)) = some (some (.int .u8 0), 1, 1) := by kernel_rfl

/-- an own row of bytes -/
abbrev owns (w : World) (base : Nat) (v : Value) (l : List Int) : Prop := w.ownsRow base 5 1 v l.length (l.map (Value.int .u8))

theorem owns_src {w : World} {base : Nat} {v : Value} {l : List Int} (h : owns w base v l) : ∃ a cap, v = .slice a l.length cap ∧ BSrc w a l := by
  obtain ⟨_, h | ⟨g, cap, cur, rfl, hb, hg, hn, hm, hs, hx⟩⟩ := h
  · obtain ⟨rfl, h0⟩ := h
    have : l = [] := List.eq_nil_of_length_eq_zero h0
    subst this
    exact ⟨none, 0, rfl, .inl rfl⟩
  · refine ⟨_, _, rfl, .inr ⟨g, 0, rfl, (Array.getElem?_eq_some_iff.1 hg).1, fun i hi => ?_⟩⟩
    have e : (cur.toList.take (l.length * 1))[i]? = some (Value.int .u8 (l.getD i 0)) := by
      rw [hx, List.getElem?_map, List.getElem?_eq_getElem hi, List.getD_eq_getElem?_getD, List.getElem?_eq_getElem hi]; rfl
    rw [List.getElem?_take, if_pos (by omega)] at e
    simp only [World.cell?, hg, Nat.zero_add]
    simpa using e

theorem owns_kept {w w' : World} {B : Nat} {v : Value} {l : List Int} {row : Option Nat} (h : owns w B v l) (hg : w.grownBy w' row) (hne : ∀ q, v.ownBlock = some q → some q ≠ row) : owns w' B v l := by
  refine World.ownsRow.kept h hg ?_
  cases hv : v.ownBlock with
  | none => exact .inl rfl
  | some q => exact .inr (hne q hv)
end Go.Proofs.YtoamapdfcdefjaaGreat
namespace Go.Proofs.YtoamapdfcdefjaaGreat
open Go.RowKit
set_option linter.unusedVariables false

theorem grown_setCell {w wr : World} {D : Nat} (h : w.grownBy wr (some D)) (j : Nat) (v : Value) : w.grownBy (wr.setCell ⟨D, j, none⟩ v) (some D) :=
  ⟨h.os, h.tape, h.output, by have := h.size; simpa [World.setCell] using this, fun k hk hne => (Below.heap_setCell wr ⟨D, j, none⟩ v k (fun e => hne (by rw [e]))).trans (h.block k hk hne)⟩

/-- the cells of the row D from number 0 to j hold the marks k, k + 1, .. -/
def Marks (w : World) (D N : Nat) (k : Int) (j : Nat) : Prop := ∃ f, w.rowIs D 5 N f ∧ ∀ i, i < j → f i = .int .u8 (IntKind.u8.wrap (k + i))

theorem Marks.step {w : World} {D N j : Nat} {k : Int} (h : Marks w D N k j) : Marks (w.setCell ⟨D, j, none⟩ (.int .u8 (IntKind.u8.wrap (k + j)))) D N k (j + 1) := by
  obtain ⟨f, hr, hf⟩ := h
  refine ⟨_, hr.set _ _, fun i hi => ?_⟩
  by_cases e : i = j
  · rw [if_pos e, e]
  · rw [if_neg e]; exact hf i (by omega)

theorem Marks.own {w : World} {D N j : Nat} {k : Int} (h : Marks w D N k j) (i : Nat) (hi : i < N) : ∃ v, w.cell? ⟨D, i, none⟩ = some v ∧ w.frozen? ⟨D, i, none⟩ = false := by
  obtain ⟨f, hr, _⟩ := h
  exact ⟨_, hr.cell hi, hr.frozen i⟩

theorem owns_marks {w : World} {base g n cap : Nat} {l : List Int} (h : owns w base (.slice (some ⟨g, 0, none⟩) n cap) l) (k : Int) : n = l.length ∧ n ≤ cap ∧ base ≤ g ∧ Marks w g cap k 0 := by
  obtain ⟨_, h | ⟨g', cap', cur, hv, hb, hg, hn, hm, hs, hx⟩⟩ := h
  · simp at h
  · simp only [Value.slice.injEq, Option.some.injEq, Addr.mk.injEq] at hv
    obtain ⟨⟨rfl, _⟩, rfl, rfl⟩ := hv
    refine ⟨rfl, hn, hb, fun i => cur.getD i undef, ⟨cur, hg, by omega, fun i hi => ?_⟩, fun i hi => by omega⟩
    simp [show i < cur.size by omega]

/-- the marks k, k + 1, .. stand in the n bytes of v -/
def MarkedV (w : World) (v : Value) (n : Nat) (k : Int) : Prop := (v = .slice none 0 0 ∧ n = 0) ∨ ∃ g cap, v = .slice (some ⟨g, 0, none⟩) n cap ∧ n ≤ cap ∧ Marks w g cap k n

end Go.Proofs.YtoamapdfcdefjaaGreat
namespace Go.Proofs.YtoamapdfcdefjaaGreat
open Go.RowKit
set_option linter.unusedVariables false

theorem owns_app {w : World} {base : Nat} {v : Value} {l m : List Int} {n : Nat} (hn : n = l.length + m.length) (h : w.ownsRow base 5 1 v n (l.map (Value.int .u8) ++ m.map (Value.int .u8))) : owns w base v (l ++ m) := by
  subst hn
  simpa [owns] using h

theorem grown_below {w wr w1 : World} {B : Nat} {v : Value} {l : List Int} {o : Obj} (hB : Below B w wr) (hBs : B ≤ wr.heap.size) (hown : owns wr B v l) (hg : (wr.alloc o).grownBy w1 v.ownBlock) : Below B w w1 :=
  (hB.alloc hBs o).grown hg (by simp; omega) (fun k hk => (hown.lt k hk).1)

theorem grown_below0 {w wr w1 : World} {B : Nat} {v : Value} {l : List Int} (hB : Below B w wr) (hBs : B ≤ wr.heap.size) (hown : owns wr B v l) (hg : wr.grownBy w1 v.ownBlock) : Below B w w1 :=
  hB.grown hg hBs (fun k hk => (hown.lt k hk).1)

theorem owns_below {w w1 : World} {base : Nat} {v : Value} {l : List Int} (h : owns w base v l) (hb : Below w.heap.size w w1) : owns w1 base v l :=
  World.ownsRow.kept (row := none) h ⟨hb.os, hb.tape, hb.output, hb.size, fun k hk _ => hb.block k hk⟩ (by cases v.ownBlock <;> simp)

/-- an own row that is not empty lies at an address -/
theorem owns_at {w : World} {base : Nat} {v : Value} {l : List Int} (h : owns w base v l) (h0 : 0 < l.length) :
    ∃ g cap, v = .slice (some ⟨g, 0, none⟩) l.length cap ∧ base ≤ g ∧ ∀ j u, (l.map (Value.int .u8))[j]? = some u → w.cell? ((⟨g, 0, none⟩ : Addr).add j) = some u := by
  have h' := h
  obtain ⟨_, h | ⟨g, cap, cur, rfl, hb, hg, hn, hm, hs, hx⟩⟩ := h
  · omega
  · exact ⟨g, cap, rfl, hb, h'.cells rfl⟩

theorem bytes_oneCell (l : List Int) : ∀ u ∈ l.map (Value.int .u8), u.oneCell' = true := ints_oneCell .u8 l
end Go.Proofs.YtoamapdfcdefjaaGreat
namespace Go.Proofs.YtoamapdfcdefjaaGreat
open Go.RowKit
set_option linter.unusedVariables false

/-- an own row of bytes, laid by make and written cell by cell -/
def UptoB (w : World) (D n : Nat) (l : List Int) (k : Nat) : Prop := ∃ f, w.rowIs D 5 n f ∧ ∀ j, j < k → f j = .int .u8 (l.getD j 0)

theorem UptoB.step {w : World} {D n k : Nat} {l : List Int} (h : UptoB w D n l k) : UptoB (w.setCell ⟨D, k, none⟩ (.int .u8 (l.getD k 0))) D n l (k + 1) := by
  obtain ⟨f, hr, hf⟩ := h
  refine ⟨_, hr.set _ _, fun j hj => ?_⟩
  by_cases e : j = k
  · rw [if_pos e, e]
  · rw [if_neg e]; exact hf j (by omega)

theorem UptoB.own {w : World} {D n k : Nat} {l : List Int} (h : UptoB w D n l k) (j : Nat) (hj : j < n) : ∃ v, w.cell? ⟨D, j, none⟩ = some v ∧ w.frozen? ⟨D, j, none⟩ = false := by
  obtain ⟨f, hr, _⟩ := h
  exact ⟨_, hr.cell hj, hr.frozen j⟩

theorem UptoB.owns {w : World} {D : Nat} {l : List Int} (h : UptoB w D l.length l l.length) (hm : l.length ≤ maxLen) : owns w D (.slice (some ⟨D, 0, none⟩) l.length l.length) l := by
  obtain ⟨f, ⟨c, hc, hs, hcf⟩, hf⟩ := h
  refine ⟨by simp, .inr ⟨D, l.length, c, rfl, Nat.le_refl _, hc, Nat.le_refl _, hm, by omega, ?_⟩⟩
  apply List.ext_getElem?
  intro i
  by_cases hi : i < l.length
  · rw [List.getElem?_take, if_pos (by omega), Array.getElem?_toList, hcf i hi, hf i hi, List.getElem?_map, List.getElem?_eq_getElem hi, List.getD_eq_getElem?_getD, List.getElem?_eq_getElem hi]; rfl
  · rw [List.getElem?_take, if_neg (by omega), List.getElem?_map, List.getElem?_eq_none (by omega)]; rfl

end Go.Proofs.YtoamapdfcdefjaaGreat
namespace Go.Proofs.YtoamapdfcdefjaaGreat
open Go.RowKit
set_option linter.unusedVariables false

/-- numbers that came in, or were made: nil or empty, or at an address -/
def UAt (w : World) (b o : Nat) (l : List Int) : Prop := ∀ i, i < l.length → w.cell? ⟨b, o + i, none⟩ = some (.int .u64 (l.getD i 0))

def USrc (w : World) (a : Option Addr) (l : List Int) : Prop := l = [] ∨ ∃ b o, a = some ⟨b, o, none⟩ ∧ b < w.heap.size ∧ UAt w b o l

theorem USrc.below {w w' : World} {a : Option Addr} {l : List Int} (h : USrc w a l) (hb : Below w.heap.size w w') : USrc w' a l := by
  rcases h with h | ⟨b, o, ha, hlt, hc⟩
  · exact .inl h
  · exact .inr ⟨b, o, ha, Nat.lt_of_lt_of_le hlt hb.size, fun i hi => (hb.cell (p := ⟨b, _, none⟩) hlt).trans (hc i hi)⟩

theorem info61 : (Tryz.prog.info? 39).map (fun i => (i.zero, i.size, i.bytes)) = some (some (.int .u64 0), 1, 8) := by kernel_rfl

/-- an own row of numbers -/
abbrev ownsU (w : World) (base : Nat) (v : Value) (l : List Int) : Prop := w.ownsRow base 39 1 v l.length (l.map (Value.int .u64))

theorem ownsU_src {w : World} {base : Nat} {v : Value} {l : List Int} (h : ownsU w base v l) : ∃ a cap, v = .slice a l.length cap ∧ USrc w a l := by
  obtain ⟨_, h | ⟨g, cap, cur, rfl, hb, hg, hn, hm, hs, hx⟩⟩ := h
  · obtain ⟨rfl, h0⟩ := h
    have : l = [] := List.eq_nil_of_length_eq_zero h0
    subst this
    exact ⟨none, 0, rfl, .inl rfl⟩
  · refine ⟨_, _, rfl, .inr ⟨g, 0, rfl, (Array.getElem?_eq_some_iff.1 hg).1, fun i hi => ?_⟩⟩
    have e : (cur.toList.take (l.length * 1))[i]? = some (Value.int .u64 (l.getD i 0)) := by
      rw [hx, List.getElem?_map, List.getElem?_eq_getElem hi, List.getD_eq_getElem?_getD, List.getElem?_eq_getElem hi]; rfl
    rw [List.getElem?_take, if_pos (by omega)] at e
    simp only [World.cell?, hg, Nat.zero_add]
    simpa using e

theorem ownsU_kept {w w' : World} {B : Nat} {v : Value} {l : List Int} {row : Option Nat} (h : ownsU w B v l) (hg : w.grownBy w' row) (hne : ∀ q, v.ownBlock = some q → some q ≠ row) : ownsU w' B v l := by
  refine World.ownsRow.kept h hg ?_
  cases hv : v.ownBlock with
  | none => exact .inl rfl
  | some q => exact .inr (hne q hv)

/-- the cells of the row D from number 0 to j hold the marks k, k + 1, .. -/
def MarksU (w : World) (D N : Nat) (k : Int) (j : Nat) : Prop := ∃ f, w.rowIs D 39 N f ∧ ∀ i, i < j → f i = .int .u64 (k + i)

theorem MarksU.step {w : World} {D N j : Nat} {k : Int} (h : MarksU w D N k j) : MarksU (w.setCell ⟨D, j, none⟩ (.int .u64 (k + j))) D N k (j + 1) := by
  obtain ⟨f, hr, hf⟩ := h
  refine ⟨_, hr.set _ _, fun i hi => ?_⟩
  by_cases e : i = j
  · rw [if_pos e, e]
  · rw [if_neg e]; exact hf i (by omega)

theorem MarksU.own {w : World} {D N j : Nat} {k : Int} (h : MarksU w D N k j) (i : Nat) (hi : i < N) : ∃ v, w.cell? ⟨D, i, none⟩ = some v ∧ w.frozen? ⟨D, i, none⟩ = false := by
  obtain ⟨f, hr, _⟩ := h
  exact ⟨_, hr.cell hi, hr.frozen i⟩

theorem ownsU_marks {w : World} {base g n cap : Nat} {l : List Int} (h : ownsU w base (.slice (some ⟨g, 0, none⟩) n cap) l) (k : Int) : n = l.length ∧ n ≤ cap ∧ base ≤ g ∧ MarksU w g cap k 0 := by
  obtain ⟨_, h | ⟨g', cap', cur, hv, hb, hg, hn, hm, hs, hx⟩⟩ := h
  · simp at h
  · simp only [Value.slice.injEq, Option.some.injEq, Addr.mk.injEq] at hv
    obtain ⟨⟨rfl, _⟩, rfl, rfl⟩ := hv
    refine ⟨rfl, hn, hb, fun i => cur.getD i undef, ⟨cur, hg, by omega, fun i hi => ?_⟩, fun i hi => by omega⟩
    simp [show i < cur.size by omega]

/-- the marks k, k + 1, .. stand in the n bytes of v -/
def MarkedU (w : World) (v : Value) (n : Nat) (k : Int) : Prop := (v = .slice none 0 0 ∧ n = 0) ∨ ∃ g cap, v = .slice (some ⟨g, 0, none⟩) n cap ∧ n ≤ cap ∧ MarksU w g cap k n

/-- an own row of numbers, laid by make and written cell by cell -/
def UptoU (w : World) (D n : Nat) (l : List Int) (k : Nat) : Prop := ∃ f, w.rowIs D 39 n f ∧ ∀ j, j < k → f j = .int .u64 (l.getD j 0)

theorem UptoU.step {w : World} {D n k : Nat} {l : List Int} (h : UptoU w D n l k) : UptoU (w.setCell ⟨D, k, none⟩ (.int .u64 (l.getD k 0))) D n l (k + 1) := by
  obtain ⟨f, hr, hf⟩ := h
  refine ⟨_, hr.set _ _, fun j hj => ?_⟩
  by_cases e : j = k
  · rw [if_pos e, e]
  · rw [if_neg e]; exact hf j (by omega)

theorem UptoU.own {w : World} {D n k : Nat} {l : List Int} (h : UptoU w D n l k) (j : Nat) (hj : j < n) : ∃ v, w.cell? ⟨D, j, none⟩ = some v ∧ w.frozen? ⟨D, j, none⟩ = false := by
  obtain ⟨f, hr, _⟩ := h
  exact ⟨_, hr.cell hj, hr.frozen j⟩

theorem UptoU.ownsU {w : World} {D : Nat} {l : List Int} (h : UptoU w D l.length l l.length) (hm : l.length ≤ maxLen) : ownsU w D (.slice (some ⟨D, 0, none⟩) l.length l.length) l := by
  obtain ⟨f, ⟨c, hc, hs, hcf⟩, hf⟩ := h
  refine ⟨by simp, .inr ⟨D, l.length, c, rfl, Nat.le_refl _, hc, Nat.le_refl _, hm, by omega, ?_⟩⟩
  apply List.ext_getElem?
  intro i
  by_cases hi : i < l.length
  · rw [List.getElem?_take, if_pos (by omega), Array.getElem?_toList, hcf i hi, hf i hi, List.getElem?_map, List.getElem?_eq_getElem hi, List.getD_eq_getElem?_getD, List.getElem?_eq_getElem hi]; rfl
  · rw [List.getElem?_take, if_neg (by omega), List.getElem?_map, List.getElem?_eq_none (by omega)]; rfl

theorem ownsU_below {w w1 : World} {base : Nat} {v : Value} {l : List Int} (h : ownsU w base v l) (hb : Below w.heap.size w w1) : ownsU w1 base v l :=
  World.ownsRow.kept (row := none) h ⟨hb.os, hb.tape, hb.output, hb.size, fun k hk _ => hb.block k hk⟩ (by cases v.ownBlock <;> simp)

/-- an own row that is not empty lies at an address -/
theorem ownsU_at {w : World} {base : Nat} {v : Value} {l : List Int} (h : ownsU w base v l) (h0 : 0 < l.length) :
    ∃ g cap, v = .slice (some ⟨g, 0, none⟩) l.length cap ∧ base ≤ g ∧ ∀ j u, (l.map (Value.int .u64))[j]? = some u → w.cell? ((⟨g, 0, none⟩ : Addr).add j) = some u := by
  have h' := h
  obtain ⟨_, h | ⟨g, cap, cur, rfl, hb, hg, hn, hm, hs, hx⟩⟩ := h
  · omega
  · exact ⟨g, cap, rfl, hb, h'.cells rfl⟩

theorem longs_oneCell (l : List Int) : ∀ u ∈ l.map (Value.int .u64), u.oneCell' = true := ints_oneCell .u64 l
end Go.Proofs.YtoamapdfcdefjaaGreat
namespace Go.Proofs.YtoamapdfcdefjaaGreat
open Go.ChangeShapes Go.WideShapes Go.ChangeAt Go.RowKit Go.Deep
set_option linter.unusedVariables false

theorem own : ownKnob Tryz.prog.godebug = none := by kernel_rfl
theorem laidOut : laidOutB Tryz.prog = true := by kernel_rfl
theorem cellsU8 : Tryz.prog.cellsOf 5 = 1 := by kernel_rfl
theorem cellsU32 : Tryz.prog.cellsOf 26 = 1 := by kernel_rfl

theorem cell_lt {w : World} {a : Addr} {v : Value} (h : w.cell? a = some v) : a.block < w.heap.size := by
  by_cases hb : a.block < w.heap.size
  · exact hb
  · exfalso
    simp [World.cell?, Array.getElem?_eq_none (show w.heap.size ≤ a.block by omega)] at h

end Go.Proofs.YtoamapdfcdefjaaGreat
namespace Go.Proofs.YtoamapdfcdefjaaGreat
open Go.RowKit
set_option linter.unusedVariables false

open Go.ChangeShapes Go.WideShapes Go.ChangeAt Go.Deep in
set_option maxRecDepth 100000 in
/-- bytes that came in -/
theorem open_bytes {H : Type} {enc : TypeId × Value → H} {W : World} {a : Option Addr} {len cap : Nat} {d : DataW H} {ps : List MemPlace}
    (h : DataW.Trod enc Tryz.prog W 0 (fun _ => true) true 22 (.slice a len cap) d ps) :
    ∃ l : List Int, l.length = len ∧ len ≤ maxLen ∧ len ≤ cap ∧ BSrc W a l ∧ isBytes l := by
  obtain ⟨fuel, hf⟩ := h
  rcases open_ints Tryz.underlying22 Tryz.underlying5 (by kernel_rfl) hf with ⟨hcs, _⟩ | ⟨x, l, c, zs, hcs, _, hl, hm, hz, _, hcell, hwz⟩
  · simp [Value.cells] at hcs
    obtain ⟨rfl, rfl, rfl⟩ := hcs
    exact ⟨[], rfl, by simp, by simp, .inl rfl, fun x hx => by simp at hx⟩
  · simp [Value.cells] at hcs
    obtain ⟨rfl, rfl, rfl⟩ := hcs
    have hzl : zs.length = cap := by simpa using hz
    have hlen : (zs.take len).length = len := by simp; omega
    refine ⟨zs.take len, hlen, by omega, hl, ?_, fun y hy => ?_⟩
    · by_cases h0 : len = 0
      · subst h0; exact .inl (by simp)
      · have hc0 := hcell 0 (by omega)
        have hspot : x.spot = none := by simpa [Addr.add] using World.cell?_spot hc0
        have hlt : x.block < W.heap.size := by simpa [Addr.add] using cell_lt hc0
        obtain ⟨b, o, sp⟩ := x
        simp only at hspot
        subst hspot
        refine .inr ⟨b, o, rfl, hlt, fun i hi => ?_⟩
        have hi' : i < len := by omega
        have hc := hcell i (by omega)
        rw [add_at] at hc
        rw [hc]
        simp [List.getD_eq_getElem?_getD, hi']
    · have := bounds_u8 (hwz y (List.mem_of_mem_take hy))
      omega
end Go.Proofs.YtoamapdfcdefjaaGreat
