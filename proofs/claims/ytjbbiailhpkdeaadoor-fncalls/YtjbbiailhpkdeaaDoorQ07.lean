/-
  DlgE
-/
import Derived.Test.YtjbbiailhpkdeaaDoorQ06
import Derived.Deep.RegionLaw
namespace Go.Proofs.YtjbbiailhpkdeaaDoor
open Go.RowKit
set_option linter.unusedVariables false

/-- a way out by a panic, in a region that draws its order -/
theorem panic_out (G : Prop) (w : World) (h : wpAny Tryd.prog .any #[] (fun _ _ _ => G) 0 #[] { tmps := #[], defers := [] } w) : G := h.2
/-- a reader of a log at block L: the log's bytes B, how far it has come -/
structure LgS (w : World) (L b o : Nat) (B : List Int) (cap : Nat) (k : Nat) : Prop where
  c0 : w.cell? ⟨L, 0, none⟩ = some (.slice (some ⟨b, o, none⟩) B.length cap)
  c1 : w.cell? ⟨L, 1, none⟩ = some (.int .i64 (k : Int))
  f1 : w.frozen? ⟨L, 1, none⟩ = false
  src : BytesAt w b o B
  cap : B.length ≤ cap
theorem LgS.blk {w w1 : World} {L b o : Nat} {B : List Int} {cap k : Nat} (h : LgS w L b o B cap k) (e : w1.heap[L]? = w.heap[L]?) (e2 : w1.heap[b]? = w.heap[b]?) : LgS w1 L b o B cap k :=
  ⟨cell_blkD h.c0 e, cell_blkD h.c1 e, frz_blkD h.f1 e, h.src.blk e2, h.cap⟩
theorem LgS.to {w : World} {L b o : Nat} {B : List Int} {cap k : Nat} (h : LgS w L b o B cap k) (hne : L ≠ b) (j : Nat) : LgS (w.setCell ⟨L, 1, none⟩ (.int .i64 (j : Int))) L b o B cap j :=
  ⟨cell_nearD (by omega) h.c0, World.cell?_setCell_same _ _ _ h.c1, by rw [World.frozen?_setCell]; exact h.f1, h.src.blk (set_blkD (fun e => hne e.symm)), h.cap⟩
theorem BytesAt.part {w : World} {b o : Nat} {B : List Int} (h : BytesAt w b o B) (i m : Nat) : BytesAt w b (o + i) ((B.drop i).take m) := fun j hj => by
  simp only [List.length_take, List.length_drop] at hj
  have := h (i + j) (by omega)
  rw [show o + i + j = o + (i + j) by omega, this]
  congr 2
  rw [List.getD_eq_getElem?_getD, List.getD_eq_getElem?_getD, List.getElem?_take, if_pos (by omega), List.getElem?_drop]
theorem word_little {s x0 x1 x2 x3 : Int} (h0 : 0 ≤ s) (h1 : s ≤ 4294967295) (b0 : 0 ≤ x0 ∧ x0 ≤ 255) (b1 : 0 ≤ x1 ∧ x1 ≤ 255) (b2 : 0 ≤ x2 ∧ x2 ≤ 255) (b3 : 0 ≤ x3 ∧ x3 ≤ 255) : s = x0 + 256 * x1 + 65536 * x2 + 16777216 * x3 ↔ littleL s 4 = [x0, x1, x2, x3] := by
  simp only [littleL, List.cons.injEq, and_true]
  omega
theorem take4 {B : List Int} {k : Nat} (h : k + 4 ≤ B.length) : (B.drop k).take 4 = [B.getD k 0, B.getD (k + 1) 0, B.getD (k + 2) 0, B.getD (k + 3) 0] := by
  apply List.ext_getElem?
  intro i
  rw [List.getElem?_take]
  by_cases hi : i < 4
  · rw [if_pos hi, List.getElem?_drop]
    have hB : ∀ j, j < B.length → B[j]? = some (B.getD j 0) := fun j hj => by rw [List.getD_eq_getElem?_getD, List.getElem?_eq_getElem hj]; rfl
    rcases i with _ | _ | _ | _ | i
    · rw [hB _ (by omega)]; rfl
    · rw [hB _ (by omega)]; rfl
    · rw [hB _ (by omega)]; rfl
    · rw [hB _ (by omega)]; rfl
    · omega
  · rw [if_neg hi]
    simp; omega
/-- one frame of the log B at k -/
theorem frame_end {B : List Int} {k : Nat} (h : B.length ≤ k) : frameR B.length (B.drop k) = .inl (5, B.length) := by
  have : B.drop k = [] := List.drop_eq_nil_of_le h
  rw [this]; rfl
theorem drop_getD {B : List Int} {k i : Nat} : (B.drop k).getD i 0 = B.getD (k + i) 0 := by
  rw [List.getD_eq_getElem?_getD, List.getD_eq_getElem?_getD, List.getElem?_drop]
theorem frame_at {B : List Int} {k m : Nat} (hk : k < B.length) (hm : B.getD k 0 = (m : Int)) : frameR B.length (B.drop k) =
    if m < 8 ∨ 70 < m then .inl (6, k)
    else if B.length < k + 1 + m + 4 then .inl (5, B.length)
    else if littleL (sumL ((B.drop (k + 1)).take m)) 4 ≠ (B.drop (k + 1 + m)).take 4 then .inl (7, k + 1 + m)
    else match callB ((B.drop (k + 1)).take m) with
      | none => .inl (8, k + 1)
      | some c => .inr (c, B.drop (k + 1 + m + 4)) := by
  have hne : B.drop k ≠ [] := fun e => by have := congrArg List.length e; simp at this; omega
  have hl : (B.drop k).length = B.length - k := by simp
  have hg : (B.drop k).getD 0 0 = (m : Int) := by rw [drop_getD]; exact hm
  unfold frameR
  rw [if_neg hne, hg, hl]
  simp only [Int.toNat_natCast, List.drop_drop]
  have e1 : k + (1 + m) = k + 1 + m := by omega
  have e2 : k + (1 + m + 4) = k + 1 + m + 4 := by omega
  have e3 : B.length - (B.length - k) = k := by omega
  rw [e1, e2, e3]
  by_cases g1 : m < 8 ∨ 70 < m
  · rw [if_pos g1, if_pos (by omega)]
  · rw [if_neg g1, if_neg (by omega)]
    by_cases g2 : B.length < k + 1 + m + 4
    · rw [if_pos g2, if_pos (by omega)]
    · rw [if_neg g2, if_neg (by omega)]
      rfl
/-- what reading one frame leaves -/
def FramePost (L b o : Nat) (B : List Int) (cap k : Nat) (w : World) (e : Ending) (w' : World) : Prop :=
  Far w w' (fun q => q = L) ∧ ((∃ c a, frameR B.length (B.drop k) = .inl (c, a) ∧ e = Bad c (a : Int)) ∨ ∃ c j D, frameR B.length (B.drop k) = .inr (c, B.drop j) ∧ j ≤ B.length ∧ e = .returned (.agg #[.int .u32 c.arch, .int .u32 c.nr, .slice (some ⟨D, 0, none⟩) 6 6]) ∧ c.args.length = 6 ∧ w.heap.size ≤ D ∧ ownsU w' D (.slice (some ⟨D, 0, none⟩) 6 6) c.args ∧ LgS w' L b o B cap j)
/-- where the reader of a frame stands: nothing but new blocks has been written -/
structure FcS (w W : World) : Prop where
  fr : Far w W (fun _ => False)
  z : ∀ i, i < 3 → ∃ x, W.cell? ⟨w.heap.size, i, none⟩ = some x
  zf : ∀ i, W.frozen? ⟨w.heap.size, i, none⟩ = false
theorem FcS.below {w W W1 : World} (h : FcS w W) (hb : Below W.heap.size W W1) : FcS w W1 := by
  obtain ⟨x, hx⟩ := h.z 0 (by omega)
  have hlt : w.heap.size < W.heap.size := cell_ltD hx
  have e := hb.block _ hlt
  exact ⟨h.fr.below hb, fun i hi => by obtain ⟨y, hy⟩ := h.z i hi; exact ⟨y, cell_blkD hy e⟩, fun i => frz_blkD (h.zf i) e⟩
theorem FcS.drew {w W : World} (h : FcS w W) : FcS w W.drew := ⟨h.fr.drew, h.z, h.zf⟩
theorem FcS.drewN {w W : World} (h : FcS w W) (n : Nat) : FcS w (W.drewN n) := ⟨⟨h.fr.os, h.fr.tape, h.fr.output, h.fr.size, h.fr.block⟩, h.z, h.zf⟩
theorem FcS.start (w : World) : FcS w (w.alloc (.cells #[.int .u32 0, .int .u32 0, .slice none 0 0] 34)) := by
  refine ⟨(Far.refl w _).below ((Below.refl _ _).alloc (Nat.le_refl _) _), fun i hi => ?_, fun i => by simp⟩
  rcases i with _ | _ | _ | i
  · exact ⟨_, by simp; rfl⟩
  · exact ⟨_, by simp; rfl⟩
  · exact ⟨_, by simp; rfl⟩
  · omega
theorem Far.up {w W : World} {S : Nat → Prop} (h : Far w W (fun _ => False)) : Far w W S := ⟨h.os, h.tape, h.output, h.size, fun q hq _ => h.block q hq (fun h => h)⟩
theorem LgS.fc {w W : World} {L b o : Nat} {B : List Int} {cap k : Nat} (h : LgS w L b o B cap k) (hF : FcS w W) (hL : L < w.heap.size) (hb : b < w.heap.size) : LgS W L b o B cap k := h.blk (hF.fr.block L hL (fun h => h)) (hF.fr.block b hb (fun h => h))
theorem RdB.blks {w w1 : World} {R b : Nat} {l : List Int} {st : Int} {o cap : Nat} (h : RdB w R b l st o cap) (e : w1.heap[R]? = w.heap[R]?) (e2 : w1.heap[b]? = w.heap[b]?) : RdB w1 R b l st o cap :=
  ⟨cell_blkD h.c0 e, cell_blkD h.c1 e, frz_blkD h.f0 e, h.src.blk e2, h.cap⟩
theorem RdB.below {w w1 : World} {R b : Nat} {l : List Int} {st : Int} {o cap : Nat} (h : RdB w R b l st o cap) (hb : Below w.heap.size w w1) (hbw : b < w.heap.size) : RdB w1 R b l st o cap := h.blks (hb.block R (cell_ltD h.c0)) (hb.block b hbw)
theorem Far.skip {w W W1 : World} {S : Nat → Prop} {R : Nat} (h : Far w W S) (h' : Far W W1 (fun q => q = R)) (hR : w.heap.size ≤ R) : Far w W1 S :=
  ⟨h'.os.trans h.os, h'.tape.trans h.tape, h'.output.trans h.output, Nat.le_trans h.size h'.size, fun q hq hS => (h'.block q (Nat.lt_of_lt_of_le hq h.size) (fun e => by omega)).trans (h.block q hq hS)⟩
/-- a new reader of a body -/
theorem RdB.new {V : World} {b o k m cap n : Nat} {B : List Int} (hs : BytesAt V b o B) (hbV : b < V.heap.size) (hn : B.length = n) (hfit : k + 1 + m + 4 ≤ n) (hc : n ≤ cap) : RdB (V.alloc (.cells #[.slice (some ⟨b, o + (k + 1), none⟩) m (cap - (k + 1)), .int .i64 ((k : Int) + 1)] 101)) V.heap.size b ((B.drop (k + 1)).take m) ((k : Int) + 1) (o + (k + 1)) (cap - (k + 1)) := by
  have hl : ((B.drop (k + 1)).take m).length = m := by simp; omega
  have hb : Below V.heap.size V (V.alloc (.cells #[.slice (some ⟨b, o + (k + 1), none⟩) m (cap - (k + 1)), .int .i64 ((k : Int) + 1)] 101)) := (Below.refl _ _).alloc (Nat.le_refl _) _
  refine ⟨by rw [hl]; simp, by simp, by simp, (hs.part (k + 1) m).blk (hb.block b hbV), by rw [hl]; omega⟩
end Go.Proofs.YtjbbiailhpkdeaaDoor
