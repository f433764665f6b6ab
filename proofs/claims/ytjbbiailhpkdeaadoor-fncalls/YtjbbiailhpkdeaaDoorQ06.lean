/-
  DlgB, DlgC, DlgD, Sum
-/
import Derived.Test.YtjbbiailhpkdeaaDoorQ04
import Derived.Test.YtjbbiailhpkdeaaDoorQ02
import Derived.Test.YtjbbiailhpkdeaaDoorQ01
namespace Go.Proofs.YtjbbiailhpkdeaaDoor
open Go.RowKit
set_option linter.unusedVariables false

def wordR (l : List Int) : Option (Int × List Int) := (readF 0 0 l).bind fun q => if q.1 ≤ 4294967295 then some q else none
theorem readF_rest {l r : List Int} {v : Int} (hb : isBytes l) (h : readF 0 0 l = some (v, r)) : isBytes r ∧ r.length < l.length ∧ 0 ≤ v ∧ v ≤ 18446744073709551615 := by
  obtain ⟨h1, h2⟩ := read_inv hb h
  have hp : 1 ≤ (varL v).length := by unfold varL; exact varF_pos 9 v
  refine ⟨fun x hx => hb x (by rw [h1]; exact List.mem_append_right _ hx), ?_, h2.1, h2.2⟩
  rw [h1, List.length_append]; omega
theorem numsR_snoc (i : Nat) : ∀ l, numsR (i + 1) l = (numsR i l).bind fun t => (readF 0 0 t.2).map fun q => (t.1 ++ [q.1], q.2) := by
  induction i with
  | zero =>
    intro l
    simp only [numsR, Option.bind_some]
    cases readF 0 0 l with
    | none => rfl
    | some q => rfl
  | succ i ih =>
    intro l
    rw [numsR]
    cases h : readF 0 0 l with
    | none => simp only [numsR, h, Option.bind_none]
    | some q =>
      simp only [Option.bind_some, numsR, h]
      have e := ih q.2
      rw [numsR] at e
      rw [e]
      cases numsR i q.2 with
      | none => rfl
      | some t =>
        simp only [Option.bind_some, Option.map_some]
        cases readF 0 0 t.2 with
        | none => rfl
        | some u => rfl
theorem numsR_none {i n : Nat} (hi : i ≤ n) {l : List Int} (h : numsR i l = none) : numsR n l = none := by
  induction n with
  | zero => have : i = 0 := by omega
            subst this; exact h
  | succ n ih =>
    by_cases e : i = n + 1
    · subst e; exact h
    · rw [numsR_snoc, ih (by omega)]; rfl
theorem numsR_cons (n : Nat) (l : List Int) : numsR (n + 1) l = (readF 0 0 l).bind fun q => (numsR n q.2).map fun t => (q.1 :: t.1, t.2) := rfl
theorem callB_steps (l : List Int) : callB l = (wordR l).bind fun q1 => (wordR q1.2).bind fun q2 => (numsL 6 q2.2).map fun vs => (⟨q1.1, q2.1, vs⟩ : C) := by
  unfold callB wordR numsL
  rw [show (8 : Nat) = 6 + 1 + 1 from rfl, numsR_cons]
  cases h1 : readF 0 0 l with
  | none => rfl
  | some q1 =>
    simp only [Option.bind_some]
    rw [numsR_cons]
    cases h2 : readF 0 0 q1.2 with
    | none =>
      simp only [Option.bind_none, Option.map_none]
      by_cases g1 : q1.1 ≤ 4294967295
      · rw [if_pos g1]; simp only [Option.bind_some, h2, Option.bind_none]
      · rw [if_neg g1]; rfl
    | some q2 =>
      simp only [Option.bind_some]
      cases h3 : numsR 6 q2.2 with
      | none =>
        simp only [Option.map_none, Option.bind_none]
        by_cases g1 : q1.1 ≤ 4294967295
        · rw [if_pos g1]
          simp only [Option.bind_some, h2]
          by_cases g2 : q2.1 ≤ 4294967295
          · rw [if_pos g2]; simp only [Option.bind_some, h3, Option.bind_none, Option.map_none]
          · rw [if_neg g2]; rfl
        · rw [if_neg g1]; rfl
      | some t =>
        simp only [Option.map_some, Option.bind_some]
        by_cases e : t.2 = []
        · rw [if_pos e]
          simp only [Option.bind_some, callOf, List.getD_cons_zero, List.getD_cons_succ, List.drop_succ_cons, List.drop_zero]
          by_cases g1 : q1.1 ≤ 4294967295
          · rw [if_pos g1]
            simp only [Option.bind_some, h2]
            by_cases g2 : q2.1 ≤ 4294967295
            · rw [if_pos g2, if_pos ⟨g1, g2⟩]
              simp only [Option.bind_some, h3, if_pos e, Option.map_some]
            · rw [if_neg g2, if_neg (fun h => g2 h.2)]; rfl
          · rw [if_neg g1, if_neg (fun h => g1 h.1)]; rfl
        · rw [if_neg e]
          simp only [Option.bind_none]
          by_cases g1 : q1.1 ≤ 4294967295
          · rw [if_pos g1]
            simp only [Option.bind_some, h2]
            by_cases g2 : q2.1 ≤ 4294967295
            · rw [if_pos g2]
              simp only [Option.bind_some, h3, if_neg e, Option.map_none]
            · rw [if_neg g2]; rfl
          · rw [if_neg g1]; rfl

/-- what reading one word leaves -/
def WordPost (R b : Nat) (l : List Int) (st : Int) (w : World) (e : Ending) (w' : World) : Prop :=
  Far w w' (fun q => q = R) ∧ ((wordR l = none ∧ e = Bad 8 st) ∨ ∃ v r o cap, wordR l = some (v, r) ∧ e = .returned (.int .u32 v) ∧ RdB w' R b r st o cap)

set_option maxRecDepth 100000 in
set_option maxHeartbeats 2000000 in
theorem word_any (R b : Nat) (l : List Int) (st : Int) (o cap : Nat) (w : World) (h : RdB w R b l st o cap) (hne : R ≠ b) (hb : isBytes l) (hl : l.length ≤ 1000) :
    Calls Tryd.prog 68 #[.pointer (some ⟨R, 0, none⟩)] w fun e w' => WordPost R b l st w e w' := by
  have HN : Hid (Calls Tryd.prog 69 #[.pointer (some ⟨R, 0, none⟩)] w fun e w' => Far w w' (fun q => q = R) ∧ ((readF 0 0 l = none ∧ e = Bad 8 st) ∨ ∃ v r o cap, readF 0 0 l = some (v, r) ∧ e = .returned (.int .u64 v) ∧ RdB w' R b r st o cap)) := number_any R b l st o cap w h hne hb hl
  have HNo : Hid (readF 0 0 l = none → wordR l = none) := fun h => by unfold wordR; rw [h]; rfl
  have HBig : Hid (∀ v r, readF 0 0 l = some (v, r) → 4294967295 < v → wordR l = none) := fun v r h h2 => by unfold wordR; rw [h, Option.bind_some, if_neg (by simp only; omega)]
  have HOk : Hid (∀ v r, readF 0 0 l = some (v, r) → v ≤ 4294967295 → wordR l = some (v, r)) := fun v r h h2 => by unfold wordR; rw [h, Option.bind_some, if_pos h2]
  have HV : Hid (∀ v r, readF 0 0 l = some (v, r) → 0 ≤ v ∧ v ≤ 18446744073709551615) := fun v r h => (readF_rest hb h).2.2
  have HBad : Hid (wordR l = none → ∀ w', Far w w' (fun q => q = R) → WordPost R b l st w (Bad 8 st) w') := fun e w' hF => ⟨hF, .inl ⟨e, rfl⟩⟩
  have HGood : Hid (∀ v r, wordR l = some (v, r) → ∀ w' o cap, Far w w' (fun q => q = R) → RdB w' R b r st o cap → WordPost R b l st w (.returned (.int .u32 v)) w') := fun v r e w' o cap hF hR => ⟨hF, .inr ⟨v, r, o, cap, e, rfl, hR⟩⟩
  have HY : Hid (∀ w1, Calls Tryd.prog 53 #[.bool true, .int .i64 8, .int .i64 st] w1 fun e w' => e = Bad 8 st ∧ w' = w1) := fun w1 => refuse_yes 8 st w1
  have HNn : Hid (∀ w1, Calls Tryd.prog 53 #[.bool false, .int .i64 8, .int .i64 st] w1 fun e w' => e = .returned (.tuple #[]) ∧ w' = w1) := fun w1 => refuse_no 8 st w1
  generalize WordPost R b l st w = Post at *
  generalize wordR l = W0 at *
  generalize readF 0 0 l = R0 at *
  clear h hb
  go_enter Tryd.func68, Tryd.ntmps68
  go_wp2_with fail
  refine (HN.out).mono ?_
  rintro e w1 ⟨hF, ⟨h1, rfl⟩ | ⟨v, r, o1, cap1, h1, rfl, hR⟩⟩
  · exact ⟨rfl, HBad.out (HNo.out h1) _ hF⟩
  · have c1 := hR.c1
    obtain ⟨hv0, hv1⟩ := HV.out v r h1
    by_cases hv : v ≤ 4294967295
    · have HP : Hid (Post (.returned (.int .u32 v)) w1) := HGood.out v r (HOk.out v r h1 hv) w1 _ _ hF hR
      have hv' : decide ((4294967295 : Int) < v) = false := by simp; omega
      clear HBad HGood HNo HBig HOk HV HN hF hR h1
      go_wp2_with fail
      refine (HNn.out _).mono ?_
      rintro _ w2 ⟨rfl, hw2⟩
      rw [hw2]
      clear hw2 w2
      go_wp2
      first | exact HP.out | (go_ret; exact HP.out)
    · have HP : Hid (Post (Bad 8 st) w1) := HBad.out (HBig.out v r h1 (by omega)) w1 hF
      have hv' : (4294967295 : Int) < v := by omega
      clear HBad HGood HNo HBig HOk HV HN hF hR h1
      go_wp2_with fail
      refine (HY.out _).mono ?_
      rintro _ w2 ⟨rfl, hw2⟩
      rw [hw2]
      exact ⟨rfl, HP.out⟩
end Go.Proofs.YtjbbiailhpkdeaaDoor
namespace Go.Proofs.YtjbbiailhpkdeaaDoor
open Go.RowKit
set_option linter.unusedVariables false

theorem cell_ltD {w : World} {a : Addr} {v : Value} (h : w.cell? a = some v) : a.block < w.heap.size := by
  rcases Nat.lt_or_ge a.block w.heap.size with h1 | h1
  · exact h1
  · simp [World.cell?, Array.getElem?_eq_none h1] at h
theorem cell_blkD {w w1 : World} {b o : Nat} {v : Value} (h : w.cell? ⟨b, o, none⟩ = some v) (e : w1.heap[b]? = w.heap[b]?) : w1.cell? ⟨b, o, none⟩ = some v := by
  simp only [World.cell?, e] at h ⊢; exact h
theorem frz_blkD {w w1 : World} {b o : Nat} (h : w.frozen? ⟨b, o, none⟩ = false) (e : w1.heap[b]? = w.heap[b]?) : w1.frozen? ⟨b, o, none⟩ = false := by
  simp only [World.frozen?, e] at h ⊢; exact h
theorem UptoU.blk {w w1 : World} {D n k : Nat} {l : List Int} (h : UptoU w D n l k) (e : w1.heap[D]? = w.heap[D]?) : UptoU w1 D n l k := by
  obtain ⟨f, ⟨c, h1, h2⟩, hf⟩ := h
  exact ⟨f, ⟨c, e.trans h1, h2⟩, hf⟩
theorem UptoU.more {w : World} {D n : Nat} {l : List Int} (v : Int) (h : UptoU w D n l l.length) : UptoU w D n (l ++ [v]) l.length := by
  obtain ⟨f, h1, hf⟩ := h
  refine ⟨f, h1, fun j hj => ?_⟩
  rw [hf j hj, List.getD_eq_getElem?_getD, List.getD_eq_getElem?_getD, List.getElem?_append_left hj]
theorem set_blkD {w : World} {F i : Nat} {x : Value} {q : Nat} (h : q ≠ F) : (w.setCell ⟨F, i, none⟩ x).heap[q]? = w.heap[q]? := by
  simp only [World.setCell, Array.getElem?_modify]
  rw [if_neg (fun e => h e.symm)]
theorem Far.setNew {w w1 : World} {S : Nat → Prop} (h : Far w w1 S) {D j : Nat} {v : Value} (hD : w.heap.size ≤ D) : Far w (w1.setCell ⟨D, j, none⟩ v) S :=
  ⟨h.os, h.tape, h.output, by simp [World.setCell]; exact h.size, fun q hq hS => (set_blkD (by omega)).trans (h.block q hq hS)⟩
theorem Far.below {w w1 w2 : World} {S : Nat → Prop} (h : Far w w1 S) (hb : Below w1.heap.size w1 w2) : Far w w2 S :=
  ⟨hb.os.trans h.os, hb.tape.trans h.tape, hb.output.trans h.output, Nat.le_trans h.size hb.size, fun q hq hS => (hb.block q (Nat.lt_of_lt_of_le hq h.size)).trans (h.block q hq hS)⟩
theorem Far.alloc {w w1 : World} {S : Nat → Prop} (h : Far w w1 S) (x : Obj) : Far w (w1.alloc x) S := h.below ((Below.refl _ _).alloc (Nat.le_refl _) x)
theorem BytesAt.blk {w w1 : World} {b o : Nat} {l : List Int} (h : BytesAt w b o l) (e : w1.heap[b]? = w.heap[b]?) : BytesAt w1 b o l := fun i hi => cell_blkD (h i hi) e

/-- where the reader of a body stands: the numbers read so far -/
structure BcS (w W : World) (R b : Nat) (st : Int) (l : List Int) (o cp : Nat) (ar nr : Int) (vs : List Int) : Prop where
  rd : RdB W R b l st o cp
  fr : Far w W (fun q => q = R)
  c0 : W.cell? ⟨w.heap.size + 2, 0, none⟩ = some (.int .u32 ar)
  c1 : W.cell? ⟨w.heap.size + 2, 1, none⟩ = some (.int .u32 nr)
  c2 : W.cell? ⟨w.heap.size + 2, 2, none⟩ = some (.slice (some ⟨w.heap.size + 1, 0, none⟩) 6 6)
  f : ∀ i, W.frozen? ⟨w.heap.size + 2, i, none⟩ = false
  z : ∀ i, i < 3 → ∃ x, W.cell? ⟨w.heap.size, i, none⟩ = some x
  zf : ∀ i, W.frozen? ⟨w.heap.size, i, none⟩ = false
  up : UptoU W (w.heap.size + 1) 6 vs vs.length
theorem BcS.drew {w W : World} {R b : Nat} {st : Int} {l : List Int} {o cp : Nat} {ar nr : Int} {vs : List Int} (h : BcS w W R b st l o cp ar nr vs) : BcS w W.drew R b st l o cp ar nr vs :=
  ⟨h.rd.drew, h.fr.drew, h.c0, h.c1, h.c2, h.f, h.z, h.zf, h.up⟩
theorem BcS.far {w W W1 : World} {R b : Nat} {st : Int} {l l1 : List Int} {o cp o1 cp1 : Nat} {ar nr : Int} {vs : List Int} (h : BcS w W R b st l o cp ar nr vs) (hF : Far W W1 (fun q => q = R)) (hR : RdB W1 R b l1 st o1 cp1) (hRw : R < w.heap.size) : BcS w W1 R b st l1 o1 cp1 ar nr vs := by
  have hlt : w.heap.size + 2 < W.heap.size := cell_ltD h.c0
  have k2 := hF.block (w.heap.size + 2) hlt (fun e => by omega)
  have k1 := hF.block (w.heap.size + 1) (by omega) (fun e => by omega)
  have k0 := hF.block w.heap.size (by omega) (fun e => by omega)
  exact ⟨hR, h.fr.trans hF, cell_blkD h.c0 k2, cell_blkD h.c1 k2, cell_blkD h.c2 k2, fun i => frz_blkD (h.f i) k2, fun i hi => by obtain ⟨x, hx⟩ := h.z i hi; exact ⟨x, cell_blkD hx k0⟩, fun i => frz_blkD (h.zf i) k0, h.up.blk k1⟩
theorem cell_farD {w : World} {D i b o : Nat} {v x : Value} (hne : b ≠ D) (h : w.cell? ⟨b, o, none⟩ = some x) : (w.setCell ⟨D, i, none⟩ v).cell? ⟨b, o, none⟩ = some x := cell_blkD h (set_blkD hne)
theorem cell_nearD {w : World} {D i o : Nat} {v x : Value} (hne : i ≠ o) (h : w.cell? ⟨D, o, none⟩ = some x) : (w.setCell ⟨D, i, none⟩ v).cell? ⟨D, o, none⟩ = some x := by
  have e : (w.setCell ⟨D, i, none⟩ v).cell? ⟨D, o, none⟩ = w.cell? ⟨D, o, none⟩ := by
    apply World.cell?_setCell_other
    intro e; apply hne; injection e
  rw [e]; exact h
theorem RdB.setNew {w : World} {R b : Nat} {l : List Int} {st : Int} {o cap : Nat} (h : RdB w R b l st o cap) {D i : Nat} {v : Value} (h1 : R ≠ D) (h2 : b ≠ D) : RdB (w.setCell ⟨D, i, none⟩ v) R b l st o cap :=
  ⟨cell_farD h1 h.c0, cell_farD h1 h.c1, by rw [World.frozen?_setCell]; exact h.f0, h.src.blk (set_blkD h2), h.cap⟩
theorem BcS.setA {w W : World} {R b : Nat} {st : Int} {l : List Int} {o cp : Nat} {ar nr : Int} {vs : List Int} (h : BcS w W R b st l o cp ar nr vs) (hR : R < w.heap.size) (hb : b < w.heap.size) (v : Int) : BcS w (W.setCell ⟨w.heap.size + 2, 0, none⟩ (.int .u32 v)) R b st l o cp v nr vs :=
  ⟨h.rd.setNew (by omega) (by omega), h.fr.setNew (by omega), World.cell?_setCell_same _ _ _ h.c0, cell_nearD (by omega) h.c1, cell_nearD (by omega) h.c2, fun i => by rw [World.frozen?_setCell]; exact h.f i, fun i hi => by obtain ⟨x, hx⟩ := h.z i hi; exact ⟨x, cell_farD (by omega) hx⟩, fun i => by rw [World.frozen?_setCell]; exact h.zf i, h.up.blk (set_blkD (by omega))⟩
theorem BcS.setN {w W : World} {R b : Nat} {st : Int} {l : List Int} {o cp : Nat} {ar nr : Int} {vs : List Int} (h : BcS w W R b st l o cp ar nr vs) (hR : R < w.heap.size) (hb : b < w.heap.size) (v : Int) : BcS w (W.setCell ⟨w.heap.size + 2, 1, none⟩ (.int .u32 v)) R b st l o cp ar v vs :=
  ⟨h.rd.setNew (by omega) (by omega), h.fr.setNew (by omega), cell_nearD (by omega) h.c0, World.cell?_setCell_same _ _ _ h.c1, cell_nearD (by omega) h.c2, fun i => by rw [World.frozen?_setCell]; exact h.f i, fun i hi => by obtain ⟨x, hx⟩ := h.z i hi; exact ⟨x, cell_farD (by omega) hx⟩, fun i => by rw [World.frozen?_setCell]; exact h.zf i, h.up.blk (set_blkD (by omega))⟩
theorem BcS.setV {w W : World} {R b : Nat} {st : Int} {l : List Int} {o cp : Nat} {ar nr : Int} {vs : List Int} (h : BcS w W R b st l o cp ar nr vs) (hR : R < w.heap.size) (hb : b < w.heap.size) (v : Int) : BcS w (W.setCell ⟨w.heap.size + 1, vs.length, none⟩ (.int .u64 v)) R b st l o cp ar nr (vs ++ [v]) := by
  have hu := (h.up.more v).step
  have e : (vs ++ [v]).getD vs.length 0 = v := by simp [List.getD_eq_getElem?_getD]
  rw [e] at hu
  have e2 : (vs ++ [v]).length = vs.length + 1 := by simp
  exact ⟨h.rd.setNew (by omega) (by omega), h.fr.setNew (by omega), cell_farD (by omega) h.c0, cell_farD (by omega) h.c1, cell_farD (by omega) h.c2, fun i => by rw [World.frozen?_setCell]; exact h.f i, fun i hi => by obtain ⟨x, hx⟩ := h.z i hi; exact ⟨x, cell_farD (by omega) hx⟩, fun i => by rw [World.frozen?_setCell]; exact h.zf i, by rw [e2]; exact hu⟩
/-- what reading a body leaves -/
def BodyPost (R : Nat) (l : List Int) (st : Int) (w : World) (e : Ending) (w' : World) : Prop :=
  Far w w' (fun q => q = R) ∧ ((callB l = none ∧ e = Bad 8 st) ∨ ∃ c, callB l = some c ∧ c.args.length = 6 ∧ e = .returned (.agg #[.int .u32 c.arch, .int .u32 c.nr, .slice (some ⟨w.heap.size + 1, 0, none⟩) 6 6]) ∧ ownsU w' (w.heap.size + 1) (.slice (some ⟨w.heap.size + 1, 0, none⟩) 6 6) c.args)
end Go.Proofs.YtjbbiailhpkdeaaDoor
namespace Go.Proofs.YtjbbiailhpkdeaaDoor
open Go.RowKit
set_option linter.unusedVariables false

theorem BcS.start {w : World} {R b : Nat} {l : List Int} {st : Int} {o cap : Nat} (h : RdB w R b l st o cap) (hb : b < w.heap.size) (hR : R < w.heap.size) :
    BcS w (((w.alloc (.cells #[.int .u32 0, .int .u32 0, .slice none 0 0] 34)).alloc (.cells (madeCells #[.int .u64 0] 6) 44)).alloc (.cells #[.int .u32 0, .int .u32 0, .slice (some ⟨w.heap.size + 1, 0, none⟩) 6 6] 34)) R b st l o cap 0 0 [] := by
  have e1 : (w.alloc (.cells #[.int .u32 0, .int .u32 0, .slice none 0 0] 34)).heap.size = w.heap.size + 1 := by simp
  have e2 : ((w.alloc (.cells #[.int .u32 0, .int .u32 0, .slice none 0 0] 34)).alloc (.cells (madeCells #[.int .u64 0] 6) 44)).heap.size = w.heap.size + 2 := by simp
  have b1 : Below w.heap.size w (w.alloc (.cells #[.int .u32 0, .int .u32 0, .slice none 0 0] 34)) := (Below.refl _ _).alloc (Nat.le_refl _) _
  have b2 := (Below.refl (w.alloc (.cells #[.int .u32 0, .int .u32 0, .slice none 0 0] 34)).heap.size (w.alloc (.cells #[.int .u32 0, .int .u32 0, .slice none 0 0] 34))).alloc (Nat.le_refl _) (.cells (madeCells #[.int .u64 0] 6) 44)
  have b3 := (Below.refl ((w.alloc (.cells #[.int .u32 0, .int .u32 0, .slice none 0 0] 34)).alloc (.cells (madeCells #[.int .u64 0] 6) 44)).heap.size ((w.alloc (.cells #[.int .u32 0, .int .u32 0, .slice none 0 0] 34)).alloc (.cells (madeCells #[.int .u64 0] 6) 44))).alloc (Nat.le_refl _) (.cells #[.int .u32 0, .int .u32 0, .slice (some ⟨w.heap.size + 1, 0, none⟩) 6 6] 34)
  have F : Far w (((w.alloc (.cells #[.int .u32 0, .int .u32 0, .slice none 0 0] 34)).alloc (.cells (madeCells #[.int .u64 0] 6) 44)).alloc (.cells #[.int .u32 0, .int .u32 0, .slice (some ⟨w.heap.size + 1, 0, none⟩) 6 6] 34)) (fun q => False) := (((Far.refl w _).below b1).below b2).below b3
  have kR := F.block R hR (fun h => h)
  have kb := F.block b hb (fun h => h)
  have U := World.rowIs_made (w.alloc (.cells #[.int .u32 0, .int .u32 0, .slice none 0 0] 34)) (.int .u64 0) 6 44
  rw [e1] at U
  have U1 : UptoU ((w.alloc (.cells #[.int .u32 0, .int .u32 0, .slice none 0 0] 34)).alloc (.cells (madeCells #[.int .u64 0] 6) 44)) (w.heap.size + 1) 6 [] 0 := ⟨_, U, fun j hj => by omega⟩
  have HH : (((w.alloc (.cells #[.int .u32 0, .int .u32 0, .slice none 0 0] 34)).alloc (.cells (madeCells #[.int .u64 0] 6) 44)).alloc (.cells #[.int .u32 0, .int .u32 0, .slice (some ⟨w.heap.size + 1, 0, none⟩) 6 6] 34)).heap[w.heap.size + 2]? = some (.cells #[.int .u32 0, .int .u32 0, .slice (some ⟨w.heap.size + 1, 0, none⟩) 6 6] 34) := by
    have h := heap_alloc_new ((w.alloc (.cells #[.int .u32 0, .int .u32 0, .slice none 0 0] 34)).alloc (.cells (madeCells #[.int .u64 0] 6) 44)) (.cells #[.int .u32 0, .int .u32 0, .slice (some ⟨w.heap.size + 1, 0, none⟩) 6 6] 34)
    rw [e2] at h
    exact h
  refine ⟨⟨cell_blkD h.c0 kR, cell_blkD h.c1 kR, frz_blkD h.f0 kR, h.src.blk kb, h.cap⟩, ⟨F.os, F.tape, F.output, F.size, fun q hq _ => F.block q hq (fun h => h)⟩, ?_, ?_, ?_, ?_, ?_, ?_, ?_⟩
  · unfold World.cell?; simp only [HH]; rfl
  · unfold World.cell?; simp only [HH]; rfl
  · unfold World.cell?; simp only [HH]; rfl
  · intro i; unfold World.frozen?; simp only [HH]; simp
  · intro i hi
    have hz : ∃ x, (w.alloc (.cells #[.int .u32 0, .int .u32 0, .slice none 0 0] 34)).cell? ⟨w.heap.size, i, none⟩ = some x := by
      rcases i with _ | _ | _ | i
      · exact ⟨_, by simp; rfl⟩
      · exact ⟨_, by simp; rfl⟩
      · exact ⟨_, by simp; rfl⟩
      · omega
    obtain ⟨x, hx⟩ := hz
    have h1 := cell_blkD hx (b2.block w.heap.size (by rw [e1]; omega))
    exact ⟨x, cell_blkD h1 (b3.block w.heap.size (by rw [e2]; omega))⟩
  · intro i
    have h1 : (w.alloc (.cells #[.int .u32 0, .int .u32 0, .slice none 0 0] 34)).frozen? ⟨w.heap.size, i, none⟩ = false := by simp
    exact frz_blkD (frz_blkD h1 (b2.block w.heap.size (by rw [e1]; omega))) (b3.block w.heap.size (by rw [e2]; omega))
  · exact U1.blk (b3.block (w.heap.size + 1) (by rw [e2]; omega))
theorem BcS.own {w W : World} {R b : Nat} {st : Int} {l : List Int} {o cp : Nat} {ar nr : Int} {vs : List Int} (h : BcS w W R b st l o cp ar nr vs) (h6 : vs.length = 6) : ownsU W (w.heap.size + 1) (.slice (some ⟨w.heap.size + 1, 0, none⟩) 6 6) vs := by
  have hu := h.up
  have : UptoU W (w.heap.size + 1) vs.length vs vs.length := by rw [h6] at hu ⊢; exact hu
  have := this.ownsU (by unfold maxLen; omega)
  rw [h6] at this
  exact this

set_option maxRecDepth 100000 in
set_option maxHeartbeats 4000000 in
theorem bodyCall_any (R b : Nat) (l : List Int) (st : Int) (o cap : Nat) (w : World) (h : RdB w R b l st o cap) (hRw : R < w.heap.size) (hbw : b < w.heap.size) (hne : R ≠ b) (hb : isBytes l) (hl : l.length ≤ 1000) :
    Calls Tryd.prog 64 #[.pointer (some ⟨R, 0, none⟩)] w fun e w' => BodyPost R l st w e w' := by
  obtain ⟨i0, hi, hz0, hz1, hz2⟩ := info_parts info61
  have HW : Hid (∀ W l o cp ar nr vs, BcS w W R b st l o cp ar nr vs → isBytes l → l.length ≤ 1000 → Calls Tryd.prog 68 #[.pointer (some ⟨R, 0, none⟩)] W fun e W' => (wordR l = none ∧ e = Bad 8 st ∧ Far w W' (fun q => q = R)) ∨ ∃ v r, wordR l = some (v, r) ∧ e = .returned (.int .u32 v) ∧ (∃ o' cp', BcS w W' R b st r o' cp' ar nr vs) ∧ isBytes r ∧ r.length ≤ 1000) := fun W l o cp ar nr vs hB h1 h2 => by
    refine (word_any R b l st o cp W hB.rd hne h1 h2).mono ?_
    rintro e W' ⟨hF, ⟨g1, rfl⟩ | ⟨v, r, o1, cp1, g1, rfl, hR⟩⟩
    · exact .inl ⟨g1, rfl, hB.fr.trans hF⟩
    · refine .inr ⟨v, r, g1, rfl, ⟨o1, cp1, hB.far hF hR hRw⟩, ?_⟩
      unfold wordR at g1
      cases hr : readF 0 0 l with
      | none => rw [hr] at g1; cases g1
      | some q =>
        rw [hr, Option.bind_some] at g1
        split at g1
        · cases g1
          have := readF_rest h1 hr
          exact ⟨this.1, by omega⟩
        · cases g1
  have HNm : Hid (∀ W l o cp ar nr vs, BcS w W R b st l o cp ar nr vs → isBytes l → l.length ≤ 1000 → Calls Tryd.prog 69 #[.pointer (some ⟨R, 0, none⟩)] W fun e W' => (readF 0 0 l = none ∧ e = Bad 8 st ∧ Far w W' (fun q => q = R)) ∨ ∃ v r, readF 0 0 l = some (v, r) ∧ e = .returned (.int .u64 v) ∧ (∃ o' cp', BcS w W' R b st r o' cp' ar nr vs)) := fun W l o cp ar nr vs hB h1 h2 => by
    refine (number_any R b l st o cp W hB.rd hne h1 h2).mono ?_
    rintro e W' ⟨hF, ⟨g1, rfl⟩ | ⟨v, r, o1, cp1, g1, rfl, hR⟩⟩
    · exact .inl ⟨g1, rfl, hB.fr.trans hF⟩
    · exact .inr ⟨v, r, g1, rfl, ⟨o1, cp1, hB.far hF hR hRw⟩⟩
  have HRest : Hid (∀ (l r : List Int) (v : Int), isBytes l → l.length ≤ 1000 → readF 0 0 l = some (v, r) → isBytes r ∧ r.length ≤ 1000) := fun l r v h1 h2 h3 => by
    have := readF_rest h1 h3
    exact ⟨this.1, by omega⟩
  have HBad : Hid (callB l = none → ∀ w', Far w w' (fun q => q = R) → BodyPost R l st w (Bad 8 st) w') := fun e w' hF => ⟨hF, .inl ⟨e, rfl⟩⟩
  have HGood : Hid (∀ W l' o' cp' ar nr vs, BcS w W R b st l' o' cp' ar nr vs → vs.length = 6 → callB l = some ⟨ar, nr, vs⟩ → BodyPost R l st w (.returned (.agg #[.int .u32 ar, .int .u32 nr, .slice (some ⟨w.heap.size + 1, 0, none⟩) 6 6])) (((W.setCell ⟨w.heap.size, 0, none⟩ (.int .u32 ar)).setCell ⟨w.heap.size, 1, none⟩ (.int .u32 nr)).setCell ⟨w.heap.size, 2, none⟩ (.slice (some ⟨w.heap.size + 1, 0, none⟩) 6 6))) := fun W l' o' cp' ar nr vs hB h6 hc =>
    ⟨((hB.fr.setNew (Nat.le_refl _)).setNew (Nat.le_refl _)).setNew (Nat.le_refl _), .inr ⟨_, hc, h6, rfl, row_block (hB.own h6) fun q hq => by
      have : w.heap.size + 1 = q := by simpa [Value.ownBlock] using hq
      rw [set_blkD (by omega), set_blkD (by omega), set_blkD (by omega)]⟩⟩
  have HC1 : Hid (wordR l = none → callB l = none) := fun h => by rw [callB_steps, h]; rfl
  have HC2 : Hid (∀ v1 r1, wordR l = some (v1, r1) → wordR r1 = none → callB l = none) := fun v1 r1 h h2 => by rw [callB_steps, h, Option.bind_some, h2]; rfl
  have HC3 : Hid (∀ v1 r1 v2 r2, wordR l = some (v1, r1) → wordR r1 = some (v2, r2) → ∀ k vs l', k ≤ 5 → numsR k r2 = some (vs, l') → readF 0 0 l' = none → callB l = none) := fun v1 r1 v2 r2 h h2 k vs l' hk h3 h4 => by
    have : numsR 6 r2 = none := numsR_none (i := k + 1) (by omega) (by rw [numsR_snoc, h3, Option.bind_some, h4]; rfl)
    rw [callB_steps, h, Option.bind_some, h2, Option.bind_some]
    simp only [numsL, this]
    rfl
  have HC4 : Hid (∀ v1 r1 v2 r2, wordR l = some (v1, r1) → wordR r1 = some (v2, r2) → ∀ vs l', numsR 6 r2 = some (vs, l') → callB l = if l' = [] then some ⟨v1, v2, vs⟩ else none) := fun v1 r1 v2 r2 h h2 vs l' h3 => by
    rw [callB_steps, h, Option.bind_some, h2, Option.bind_some]
    simp only [numsL, h3, Option.bind_some]
    split <;> rfl
  have HNx : Hid (∀ (r2 : List Int) (k : Nat) (vs l' : List Int) (v : Int) (r : List Int), numsR k r2 = some (vs, l') → readF 0 0 l' = some (v, r) → numsR (k + 1) r2 = some (vs ++ [v], r)) := fun r2 k vs l' v r h1 h2 => by rw [numsR_snoc, h1, Option.bind_some, h2]; rfl
  have HY : Hid (∀ w1, Calls Tryd.prog 53 #[.bool true, .int .i64 8, .int .i64 st] w1 fun e w' => e = Bad 8 st ∧ w' = w1) := fun w1 => refuse_yes 8 st w1
  have HNo : Hid (∀ w1, Calls Tryd.prog 53 #[.bool false, .int .i64 8, .int .i64 st] w1 fun e w' => e = .returned (.tuple #[]) ∧ w' = w1) := fun w1 => refuse_no 8 st w1
  have HB0 : Hid (BcS w (((w.alloc (.cells #[.int .u32 0, .int .u32 0, .slice none 0 0] 34)).alloc (.cells (madeCells #[.int .u64 0] 6) 44)).alloc (.cells #[.int .u32 0, .int .u32 0, .slice (some ⟨w.heap.size + 1, 0, none⟩) 6 6] 34)) R b st l o cap 0 0 []) := BcS.start h hbw hRw
  have hmk : ∀ u : World, (Instr.makeSlice 32 (.int .i64 6) (.int .i64 6)).run Tryd.prog u =
      .ok (.slice (some ⟨u.heap.size, 0, none⟩) 6 6) (u.alloc (.cells (madeCells #[.int .u64 0] 6) 44)) := fun u => by
    have h := run_make (P := Tryd.prog) u 32 44 i0 _ Tryd.underlying32 hi hz0 .i64 .i64 6 6 (by omega) (Int.le_refl _) (by rw [hz2]; omega) (by omega)
    simpa [hz1, Value.cells] using h
  have HBy : Hid (isBytes l) := hb
  generalize BodyPost R l st w = Post at *
  generalize callB l = CB at *
  clear h hb
  go_enter Tryd.func64, Tryd.ntmps64
  go_wp2_with fail
  clear hmk hi hz0 hz1 hz2
  generalize ((w.alloc (.cells #[.int .u32 0, .int .u32 0, .slice none 0 0] 34)).alloc (.cells (madeCells #[.int .u64 0] 6) 44)).alloc (.cells #[.int .u32 0, .int .u32 0, .slice (some ⟨w.heap.size + 1, 0, none⟩) 6 6] 34) = W0 at *
  refine (HW.out _ _ _ _ _ _ _ HB0.out HBy.out hl).mono ?_
  rintro e W1 (⟨g1, rfl, hF1⟩ | ⟨v1, r1, g1, rfl, ⟨o1, cp1, hB1⟩, hy1, hl1⟩)
  · exact ⟨rfl, HBad.out (HC1.out g1) _ hF1⟩
  have x0 := hB1.c0
  have xf := hB1.f 0
  have HB1 : Hid (BcS w (W1.setCell ⟨w.heap.size + 2, 0, none⟩ (.int .u32 v1)) R b st r1 o1 cp1 v1 0 []) := hB1.setA hRw hbw v1
  clear HB0 hB1 HC1
  go_wp2_with fail
  refine (HW.out _ _ _ _ _ _ _ HB1.out hy1 hl1).mono ?_
  clear x0 xf
  rintro e W2 (⟨g2, rfl, hF2⟩ | ⟨v2, r2, g2, rfl, ⟨o2, cp2, hB2⟩, hy2, hl2⟩)
  · exact ⟨rfl, HBad.out (HC2.out _ _ g1 g2) _ hF2⟩
  have x1 := hB2.c1
  have xf := hB2.f 1
  have hB3 := hB2.setN hRw hbw v2
  have x2 := hB3.c2
  have HB3 : Hid (BcS w (W2.setCell ⟨w.heap.size + 2, 1, none⟩ (.int .u32 v2)) R b st r2 o2 cp2 v1 v2 []) := hB3
  have HS3 : Hid (∀ k vs l', k ≤ 5 → numsR k r2 = some (vs, l') → readF 0 0 l' = none → CB = none) := HC3.out v1 r1 v2 r2 g1 g2
  have HS4 : Hid (∀ vs l', numsR 6 r2 = some (vs, l') → CB = if l' = [] then some ⟨v1, v2, vs⟩ else none) := HC4.out v1 r1 v2 r2 g1 g2
  have HS5 : Hid (∀ (k : Nat) (vs l' : List Int) (v : Int) (r : List Int), numsR k r2 = some (vs, l') → readF 0 0 l' = some (v, r) → numsR (k + 1) r2 = some (vs ++ [v], r)) := HNx.out r2
  have HS0 : Hid (numsR ([] : List Int).length r2 = some ([], r2)) := rfl
  have HY2 : Hid (isBytes r2) := hy2
  clear HB1 hB2 hB3 HW HC2 HC3 HC4 HNx g1 g2 hy1 hy2 hl1
  go_wp2_with fail
  clear x1 xf
  generalize W2.setCell ⟨w.heap.size + 2, 1, none⟩ (.int .u32 v2) = W3 at *
  clear x2
  go_loopw [16] (fun i wr => ∃ (vs l' : List Int) (o' cp' : Nat), i = .int .i64 (vs.length : Int) ∧ vs.length ≤ 6 ∧ l'.length ≤ 1000 ∧ Hid (BcS w wr R b st l' o' cp' v1 v2 vs) ∧ Hid (isBytes l') ∧ Hid (numsR vs.length r2 = some (vs, l'))) (fun i _ => 6 - (intOf i).toNat)
  case atStart => exact ⟨[], r2, o2, cp2, by first | rfl | go_num, by simp, hl2, HB3, HY2, HS0⟩
  case round =>
    clear HB3 HY2 HS0
    obtain ⟨vs, l', o', cp', rfl, hv6, hl', HB, HBy2, HNu⟩ := hrel
    rename World => W4
    by_cases hk : vs.length < 6
    · have hk' : (vs.length : Int) < 6 := by omega
      have x2 := HB.out.c2
      cases hrd : readF 0 0 l' with
      | none =>
        have HNk : Hid (Calls Tryd.prog 69 #[.pointer (some ⟨R, 0, none⟩)] W4.drew fun e W' => e = Bad 8 st ∧ Post (Bad 8 st) W') := (HNm.out _ _ _ _ _ _ _ HB.out.drew HBy2.out hl').mono (by
          rintro e W' (⟨g, rfl, hF⟩ | ⟨v, r, g, _⟩)
          · exact ⟨rfl, HBad.out (HS3.out _ _ _ (by omega) HNu.out hrd) _ hF⟩
          · rw [hrd] at g; cases g)
        clear HNm HRest HBad HGood HS3 HS4 HS5 HY HNo HB HBy2 HNu hrd
        generalize vs.length = k at *
        go_wp2_with fail
        go_region_dies
        all_goals (refine (HNk.out).mono ?_; rintro _ w1 ⟨rfl, hP⟩; exact ⟨rfl, hP⟩)
      | some q =>
        obtain ⟨v, r⟩ := q
        obtain ⟨hry, hrl⟩ := HRest.out _ _ _ HBy2.out hl' hrd
        have HNk : Hid (Calls Tryd.prog 69 #[.pointer (some ⟨R, 0, none⟩)] W4.drew fun e W' => e = .returned (.int .u64 v) ∧ ∃ o1 cp1, BcS w W' R b st r o1 cp1 v1 v2 vs) := (HNm.out _ _ _ _ _ _ _ HB.out.drew HBy2.out hl').mono (by
          rintro e W' (⟨g, _⟩ | ⟨v', r', g, rfl, h⟩)
          · rw [hrd] at g; cases g
          · rw [hrd] at g; cases g; exact ⟨rfl, h⟩)
        have HNu2 : Hid (numsR (vs ++ [v]).length r2 = some (vs ++ [v], r)) := by
          show _ = _
          have := HS5.out _ _ _ _ _ HNu.out hrd
          rw [List.length_append]; exact this
        have HRy : Hid (isBytes r) := hry
        have hS : W4.drew.cell? ⟨w.heap.size + 2, 2, none⟩ = some (.slice (some ⟨w.heap.size + 1, 0, none⟩) 6 6) := x2
        have HSet : Hid (∀ W' o1 cp1, BcS w W' R b st r o1 cp1 v1 v2 vs → W'.cell? ⟨w.heap.size + 2, 2, none⟩ = some (.slice (some ⟨w.heap.size + 1, 0, none⟩) 6 6) ∧ (∃ y, W'.cell? ⟨w.heap.size + 1, vs.length, none⟩ = some y) ∧ W'.frozen? ⟨w.heap.size + 1, vs.length, none⟩ = false ∧ BcS w (W'.setCell ⟨w.heap.size + 1, vs.length, none⟩ (.int .u64 v)) R b st r o1 cp1 v1 v2 (vs ++ [v])) := fun W' o1 cp1 hB => by
          obtain ⟨y, e1, e2⟩ := hB.up.own vs.length hk
          exact ⟨hB.c2, ⟨y, e1⟩, e2, hB.setV hRw hbw v⟩
        clear HNm HRest HBad HGood HS3 HS4 HS5 HY HNo HB HBy2 HNu hrd hry
        obtain ⟨k, hke⟩ : ∃ k, vs.length = k := ⟨_, rfl⟩
        have Hke : Hid (vs.length = k) := hke
        rw [hke] at hk hk' hv6 HSet
        rw [hke]
        clear hke
        go_wp2_with fail
        go_region_held3 (fun w' => w'.cell? ⟨w.heap.size + 2, 2, none⟩ = some (.slice (some ⟨w.heap.size + 1, 0, none⟩) 6 6))
          (assumption)
          (first | (go_at_call 69; refine (HNk.out).mono ?_; rintro _ W5 ⟨rfl, o1, cp1, hB5⟩; obtain ⟨s5, ⟨y5, e5⟩, f5, hB6⟩ := HSet.out W5 o1 cp1 hB5; have s6 := hB6.c2; clear hB5))
        all_goals
          have HB6 : Hid (BcS w (W5.setCell ⟨w.heap.size + 1, k, none⟩ (.int .u64 v)) R b st r o1 cp1 v1 v2 (vs ++ [v])) := hB6
          clear HNk HSet hB6 s5 s6 e5 f5 hS x2
          go_wp2
          go_roundw
          case rel => exact ⟨vs ++ [v], r, o1, cp1, congrArg (Value.int .i64) (by rw [List.length_append, Hke.out]; rfl), (by rw [List.length_append, Hke.out]; exact hk), hrl, HB6, HRy, HNu2⟩
          case measure => simp [intOf]; omega
    · have hk6 : vs.length = 6 := by omega
      have hCB := HS4.out vs l' (by rw [← hk6]; exact HNu.out)
      have d0 := HB.out.rd.c0
      have d1 := HB.out.rd.c1
      cases l' with
      | nil =>
        rw [if_pos rfl] at hCB
        have HP : Hid (Post (.returned (.agg #[.int .u32 v1, .int .u32 v2, .slice (some ⟨w.heap.size + 1, 0, none⟩) 6 6])) (((W4.drew.setCell ⟨w.heap.size, 0, none⟩ (.int .u32 v1)).setCell ⟨w.heap.size, 1, none⟩ (.int .u32 v2)).setCell ⟨w.heap.size, 2, none⟩ (.slice (some ⟨w.heap.size + 1, 0, none⟩) 6 6))) := HGood.out _ _ _ _ _ _ _ HB.out.drew hk6 hCB
        have c0 := HB.out.c0
        have c1 := HB.out.c1
        have c2 := HB.out.c2
        obtain ⟨y0, z0⟩ := HB.out.z 0 (by omega)
        obtain ⟨y1, z1⟩ := HB.out.z 1 (by omega)
        obtain ⟨y2, z2⟩ := HB.out.z 2 (by omega)
        have zf0 := HB.out.zf 0
        have zf1 := HB.out.zf 1
        have zf2 := HB.out.zf 2
        simp only [List.length_nil] at d0
        rw [hk6]
        have hS : W4.drew.cell? ⟨R, 0, none⟩ = some (.slice (some ⟨b, o', none⟩) 0 cp') ∧ W4.drew.cell? ⟨R, 1, none⟩ = some (.int .i64 st) := ⟨d0, d1⟩
        clear HNm HRest HBad HGood HS3 HS4 HS5 HY HB HBy2 HNu hCB hv6 hk hk6
        go_wp2_with fail
        go_region_held3 (fun w' => w'.cell? ⟨R, 0, none⟩ = some (.slice (some ⟨b, o', none⟩) 0 cp') ∧ w'.cell? ⟨R, 1, none⟩ = some (.int .i64 st))
          (assumption)
          (first | (go_at_call 53; refine (HNo.out _).mono ?_; rintro _ w1 ⟨rfl, hw1⟩; rw [hw1]; clear hw1 w1))
        clear hS
        go_wp2
        exact bodyPost_ret (v := .agg #[.int .u32 v1, .int .u32 v2, .slice (some ⟨w.heap.size + 1, 0, none⟩) 6 6]) (by simp [results, Tryd.results64, go_sem, z0, z1, z2]) rfl HP.out
      | cons y r =>
        rw [if_neg (by simp)] at hCB
        have HP : Hid (Post (Bad 8 st) W4.drew) := HBad.out hCB _ HB.out.fr.drew
        simp only [List.length_cons] at d0
        rw [hk6]
        clear HNm HRest HBad HGood HS3 HS4 HS5 HNo HB HBy2 HNu hCB hv6 hk hk6
        generalize r.length = n at *
        have hn : (0 : Int) < (n : Int) + 1 := by omega
        go_wp2_with fail
        go_region_dies
        all_goals (refine (HY.out _).mono ?_; rintro _ w1 ⟨rfl, hw1⟩; rw [hw1]; exact ⟨rfl, HP.out⟩)
end Go.Proofs.YtjbbiailhpkdeaaDoor
namespace Go.Proofs.YtjbbiailhpkdeaaDoor
open Go.RowKit
set_option linter.unusedVariables false

set_option maxHeartbeats 1000000 in
theorem l2half_any (h : Int) (w : World) (h0 : 0 ≤ h) (h1 : h ≤ 4294967295) :
    Calls Tryd.prog 47 #[.int .u32 h] w fun e w' => e = .returned (.int .u32 (halfI h)) ∧ w' = w := by
  by_cases h2 : h % 2 = 1
  · have hb : (h % 2 == 1) = true := by simp [h2]
    go_enter Tryd.func47, Tryd.ntmps47
    go_wp2
    go_ret
    exact ⟨ret_int (by simp [halfI, h2]), rfl⟩
  · have hb : (h % 2 == 1) = false := by simp [h2]
    go_enter Tryd.func47, Tryd.ntmps47
    go_wp2
    go_ret
    exact ⟨ret_int (by simp [halfI, h2]), rfl⟩

theorem cell_lt0 {w : World} {a : Addr} {v : Value} (h : w.cell? a = some v) : a.block < w.heap.size := by
  by_cases hb : a.block < w.heap.size
  · exact hb
  · exfalso
    simp [World.cell?, Array.getElem?_eq_none (show w.heap.size ≤ a.block by omega)] at h

theorem hid_step {X h : Int} {j : Nat} (hj : j < 8) (e : Hid (X = halfN (8 - j) h)) : Hid (X = halfN (8 - (j + 1)) (halfI h)) := by
  obtain ⟨m, hm⟩ : ∃ m, 8 - (j + 1) = m := ⟨_, rfl⟩
  have e1 : 8 - j = m + 1 := by omega
  have e2 := e.out
  rw [e1] at e2
  rw [hm]
  exact e2

set_option maxHeartbeats 2000000 in
theorem specSum_some (b o cap : Nat) (l : List Int) (w : World) (hp : BytesAt w b o l) (hl : isBytes l) (hn : l.length ≤ 16777216) :
    Calls Tryd.prog 27 #[.slice (some ⟨b, o, none⟩) l.length cap] w fun e w' => e = .returned (.int .u32 (sumL l)) ∧ Below w.heap.size w w' := by
  have HS : Hid (∀ (k : Nat) (h : Int), k < l.length → sumF h (l.drop k) = sumF (halfN 8 (bits .xor .u32 h (l.getD k 0))) (l.drop (k + 1))) := fun k h hk => sumF_step rfl hk
  have HZ : Hid (∀ h, sumF h (l.drop l.length) = h) := fun h => by rw [List.drop_length]; rfl
  have HB : Hid (∀ k, 0 ≤ l.getD k 0 ∧ l.getD k 0 ≤ 255) := fun k => isBytes_getD hl k
  have HP : Hid (BytesAt w b o l) := hp
  obtain ⟨F, hF⟩ : ∃ F : Int → Nat → Int, ∀ h k, sumF h (l.drop k) = F h k := ⟨fun h k => sumF h (l.drop k), fun _ _ => rfl⟩
  have HX : Hid (sumL l = bits .xor .u32 (F 4294967295 0) 4294967295) := by
    unfold Hid sumL; rw [← hF, List.drop_zero]
  simp only [hF] at HS HZ
  obtain ⟨n, hn'⟩ : ∃ n, l.length = n := ⟨_, rfl⟩
  have HN : Hid (l.length = n) := hn'
  rw [hn'] at HS HZ hn ⊢
  generalize sumL l = X at *
  clear hp hl hn' hF
  go_enter Tryd.func27, Tryd.ntmps27
  go_wp2_with fail
  go_loopw [3, 4] (fun q i wr => ∃ (k : Nat) (h : Int), k ≤ n ∧ i = .int .i64 k ∧ q = .int .u32 h ∧ 0 ≤ h ∧ h ≤ 4294967295 ∧ Hid (F 4294967295 0 = F h k) ∧ Below w.heap.size w wr) (fun _ i _ => n - (intOf i).toNat)
  case atStart => exact ⟨0, 4294967295, by omega, rfl, rfl, by omega, by omega, rfl, Below.refl _ _⟩
  case round =>
    obtain ⟨k, h, hk, rfl, rfl, h0, h1, HF, hB⟩ := hrel
    by_cases hlt : k < n
    · have c0 := HP.out k (by rw [HN.out]; exact hlt)
      have hbl : b < w.heap.size := cell_lt0 c0
      have d0 := (hB.cell (p := ⟨b, _, none⟩) hbl).trans c0
      obtain ⟨x0, x1⟩ := HB.out k
      have HS1 := HS.out k h hlt
      have HS2 : Hid _ := HS1
      clear HS1 c0 HP HS HZ
      generalize l.getD k 0 = x at *
      have HY : Hid (F h k = F (halfN 8 (bits .xor .u32 h x)) (k + 1)) := HS2
      clear HS2
      go_wp2_with fail
      have y0 := bits_lo_u32 .xor h x
      have y1 := bits_hi_u32 .xor h x
      generalize bits .xor .u32 h x = y at *
      obtain ⟨Z, hZ⟩ : ∃ Z, halfN 8 y = Z := ⟨_, rfl⟩
      rw [hZ] at HY
      have HZ0 : Hid (Z = halfN (8 - 0) y) := hZ.symm
      clear hZ
      go_loopw [3, 5] (fun q i wx => ∃ (j : Nat) (z : Int), j ≤ 8 ∧ i = .int .i64 j ∧ q = .int .u32 z ∧ 0 ≤ z ∧ z ≤ 4294967295 ∧ Hid (Z = halfN (8 - j) z) ∧ wx = wr) (fun _ i _ => 8 - (intOf i).toNat)
      case atStart => exact ⟨0, y, by omega, rfl, rfl, y0, y1, HZ0, rfl⟩
      case round =>
        obtain ⟨j, z, hj, rfl, rfl, z0, z1, HZ1, rfl⟩ := hrel
        by_cases hj8 : j < 8
        · go_wp2_with fail
          refine (l2half_any z _ z0 z1).mono ?_
          rintro e w1 ⟨rfl, rfl⟩
          have g0 := halfI_ok z0 z1
          have HG := hid_step hj8 HZ1
          clear HZ0 HZ1
          generalize halfI z = z' at *
          go_wp2
          go_roundw
          case rel => exact ⟨j + 1, z', by omega, by go_num, rfl, g0.1, g0.2, HG, trivial⟩
          case measure => simp [intOf]; omega
        · have hj' : j = 8 := by omega
          subst hj'
          have eZ : Z = z := HZ1.out
          go_wp2
          go_roundw
          case rel => exact ⟨k + 1, z, by omega, by go_num, rfl, z0, z1, (by rw [HF.out, HY.out, eZ] : F 4294967295 0 = F z (k + 1)), hB⟩
          case measure => simp [intOf]; omega
    · have hkn : k = n := by omega
      subst hkn
      have e1 : F 4294967295 0 = h := by rw [HF.out, HZ.out]
      go_wp2
      go_ret
      exact ⟨ret_int (by rw [HX.out, e1]), hB⟩

set_option maxHeartbeats 1000000 in
theorem specSum_none (a : Option Addr) (cap : Nat) (w : World) :
    Calls Tryd.prog 27 #[.slice a 0 cap] w fun e w' => e = .returned (.int .u32 (sumL [])) ∧ Below w.heap.size w w' := by
  have HX : Hid (sumL [] = bits .xor .u32 4294967295 4294967295) := rfl
  generalize sumL [] = X at *
  go_enter Tryd.func27, Tryd.ntmps27
  go_wp2_with fail
  go_loopw [3, 4] (fun q i wr => q = .int .u32 4294967295 ∧ i = .int .i64 0 ∧ wr = w) (fun _ i _ => 0)
  case atStart => exact ⟨rfl, rfl, rfl⟩
  case round =>
    obtain ⟨rfl, rfl, rfl⟩ := hrel
    go_wp2
    go_ret
    exact ⟨ret_int HX.out.symm, Below.refl _ _⟩

theorem specSum_any (a : Option Addr) (cap : Nat) (l : List Int) (w : World) (hs : BSrc w a l) (hl : isBytes l) (hn : l.length ≤ 16777216) :
    Calls Tryd.prog 27 #[.slice a l.length cap] w fun e w' => e = .returned (.int .u32 (sumL l)) ∧ Below w.heap.size w w' := by
  rcases hs with rfl | ⟨b, o, rfl, hb, hp⟩
  · exact specSum_none a cap w
  · exact specSum_some b o cap l w hp hl hn

set_option maxHeartbeats 2000000 in
theorem implSum_some (b o cap : Nat) (l : List Int) (w : World) (hp : BytesAt w b o l) (hl : isBytes l) (hn : l.length ≤ 16777216) :
    Calls Tryd.prog 35 #[.slice (some ⟨b, o, none⟩) l.length cap] w fun e w' => e = .returned (.int .u32 (sumL l)) ∧ Below w.heap.size w w' := by
  have HS : Hid (∀ (k : Nat) (h : Int), k < l.length → sumF h (l.drop k) = sumF (halfN 8 (bits .xor .u32 h (l.getD k 0))) (l.drop (k + 1))) := fun k h hk => sumF_step rfl hk
  have HZ : Hid (∀ h, sumF h (l.drop l.length) = h) := fun h => by rw [List.drop_length]; rfl
  have HB : Hid (∀ k, 0 ≤ l.getD k 0 ∧ l.getD k 0 ≤ 255) := fun k => isBytes_getD hl k
  have HP : Hid (BytesAt w b o l) := hp
  obtain ⟨F, hF⟩ : ∃ F : Int → Nat → Int, ∀ h k, sumF h (l.drop k) = F h k := ⟨fun h k => sumF h (l.drop k), fun _ _ => rfl⟩
  have HX : Hid (sumL l = bits .xor .u32 (F 4294967295 0) 4294967295) := by
    unfold Hid sumL; rw [← hF, List.drop_zero]
  simp only [hF] at HS HZ
  obtain ⟨n, hn'⟩ : ∃ n, l.length = n := ⟨_, rfl⟩
  have HN : Hid (l.length = n) := hn'
  rw [hn'] at HS HZ hn ⊢
  generalize sumL l = X at *
  clear hp hl hn' hF
  go_enter Tryd.func35, Tryd.ntmps35
  go_wp2_with fail
  go_loopw [3, 9] (fun q i wr => ∃ (k : Nat) (h : Int), k ≤ n ∧ i = .int .i64 k ∧ q = .int .u32 h ∧ 0 ≤ h ∧ h ≤ 4294967295 ∧ Hid (F 4294967295 0 = F h k) ∧ wr = w) (fun _ i _ => n - (intOf i).toNat)
  case atStart => exact ⟨0, 4294967295, by omega, rfl, rfl, by omega, by omega, rfl, rfl⟩
  case round =>
    obtain ⟨k, h, hk, rfl, rfl, h0, h1, HF, rfl⟩ := hrel
    by_cases hlt : k < n
    · have d0 := HP.out k (by rw [HN.out]; exact hlt)
      obtain ⟨x0, x1⟩ := HB.out k
      have HS1 := HS.out k h hlt
      have HS2 : Hid _ := HS1
      clear HS1 HP HS HZ
      generalize l.getD k 0 = x at *
      have HY : Hid (F h k = F (halfN 8 (bits .xor .u32 h x)) (k + 1)) := HS2
      clear HS2
      go_wp2_with fail
      have y0 := bits_lo_u32 .xor h x
      have y1 := bits_hi_u32 .xor h x
      generalize bits .xor .u32 h x = y at *
      obtain ⟨Z, hZ⟩ : ∃ Z, halfN 8 y = Z := ⟨_, rfl⟩
      rw [hZ] at HY
      have HZ0 : Hid (Z = halfN (8 - 0) y) := hZ.symm
      clear hZ
      go_loopw [3, 17] (fun q i wx => ∃ (j : Nat) (z : Int), j ≤ 8 ∧ i = .int .i64 j ∧ q = .int .u32 z ∧ 0 ≤ z ∧ z ≤ 4294967295 ∧ Hid (Z = halfN (8 - j) z) ∧ wx = wr) (fun _ i _ => 8 - (intOf i).toNat)
      case atStart => exact ⟨0, y, by omega, rfl, rfl, y0, y1, HZ0, rfl⟩
      case round =>
        obtain ⟨j, z, hj, rfl, rfl, z0, z1, HZ1, rfl⟩ := hrel
        by_cases hj8 : j < 8
        · have g0 := halfI_ok z0 z1
          have HG := hid_step hj8 HZ1
          clear HZ0 HZ1
          by_cases ho : z % 2 = 1
          · have hb : (bits .and .u32 z 1 == 1) = true := by rw [and1_u32 z0 z1]; simp [ho]
            have HE : Hid (halfI z = bits .xor .u32 (z / 2) 3988292384) := by unfold Hid halfI; rw [if_pos ho]
            generalize halfI z = z' at *
            go_wp2
            go_roundw
            case rel => exact ⟨j + 1, z', by omega, by go_num, by rw [HE.out], g0.1, g0.2, HG, trivial⟩
            case measure => simp [intOf]; omega
          · have hb : (bits .and .u32 z 1 == 1) = false := by rw [and1_u32 z0 z1]; simp [ho]
            have HE : Hid (halfI z = z / 2) := by unfold Hid halfI; rw [if_neg ho]
            generalize halfI z = z' at *
            go_wp2
            go_roundw
            case rel => exact ⟨j + 1, z', by omega, by go_num, by rw [HE.out], g0.1, g0.2, HG, trivial⟩
            case measure => simp [intOf]; omega
        · have hj' : j = 8 := by omega
          subst hj'
          have eZ : Z = z := HZ1.out
          go_wp2
          go_roundw
          case rel => exact ⟨k + 1, z, by omega, by go_num, rfl, z0, z1, (by rw [HF.out, HY.out, eZ] : F 4294967295 0 = F z (k + 1)), trivial⟩
          case measure => simp [intOf]; omega
    · have hkn : k = n := by omega
      subst hkn
      have e1 : F 4294967295 0 = h := by rw [HF.out, HZ.out]
      have hnot := not_u32 h0 h1
      go_wp2
      go_ret
      exact ⟨ret_int (by rw [HX.out, e1, hnot, not2_u32 h0 h1]), Below.refl _ _⟩

set_option maxHeartbeats 1000000 in
theorem implSum_none (a : Option Addr) (cap : Nat) (w : World) :
    Calls Tryd.prog 35 #[.slice a 0 cap] w fun e w' => e = .returned (.int .u32 (sumL [])) ∧ Below w.heap.size w w' := by
  have HX : Hid (sumL [] = 0) := by unfold Hid sumL sumF; rw [not_u32 (by omega) (by omega)]; rfl
  generalize sumL [] = X at *
  go_enter Tryd.func35, Tryd.ntmps35
  go_wp2_with fail
  go_loopw [3, 9] (fun q i wr => q = .int .u32 4294967295 ∧ i = .int .i64 0 ∧ wr = w) (fun _ i _ => 0)
  case atStart => exact ⟨rfl, rfl, rfl⟩
  case round =>
    obtain ⟨rfl, rfl, rfl⟩ := hrel
    go_wp2
    go_ret
    exact ⟨ret_int (by rw [HX.out]; rfl), Below.refl _ _⟩

theorem implSum_any (a : Option Addr) (cap : Nat) (l : List Int) (w : World) (hs : BSrc w a l) (hl : isBytes l) (hn : l.length ≤ 16777216) :
    Calls Tryd.prog 35 #[.slice a l.length cap] w fun e w' => e = .returned (.int .u32 (sumL l)) ∧ Below w.heap.size w w' := by
  rcases hs with rfl | ⟨b, o, rfl, hb, hp⟩
  · exact implSum_none a cap w
  · exact implSum_some b o cap l w hp hl hn
end Go.Proofs.YtjbbiailhpkdeaaDoor
