/-
  DlgI, DlgO
-/
import Derived.Test.YtjbbiailhpkdeaaDoorQ08
import Derived.Test.YtjbbiailhpkdeaaDoorQ09
import Derived.Test.YtjbbiailhpkdeaaDoorQ03
import Derived.ArgAppend
namespace Go.Proofs.YtjbbiailhpkdeaaDoor
open Go.RowKit
set_option linter.unusedVariables false

theorem OwnC.farD {w w1 : World} {D N : Nat} {vs : Nat → Value} {cs : List C} {S : Nat → Prop} (h : OwnC w D N vs cs) (hf : Far w w1 S) (hS : ∀ q, S q → q < D) : OwnC w1 D N vs cs := by
  obtain ⟨f, hr, hv⟩ := h.row
  refine ⟨⟨f, hr.of_block (hf.block D hr.lt (fun hs => by have := hS D hs; omega)), hv⟩, h.le, fun i hi => ?_, h.inc⟩
  have ho := h.own i hi
  exact row_block ho (fun q hq => hf.block q (ho.lt q hq).2 (fun hs => by have := hS q hs; have := (ho.lt q hq).1; omega))
theorem getD_snoc (cs : List C) (c : C) (i : Nat) (hi : i < cs.length) : (cs ++ [c]).getD i C.zero = cs.getD i C.zero := by
  rw [List.getD_eq_getElem?_getD, List.getD_eq_getElem?_getD, List.getElem?_append_left hi]
theorem getD_last (cs : List C) (c : C) : (cs ++ [c]).getD cs.length C.zero = c := by simp [List.getD_eq_getElem?_getD]
/-- the next call is written into the row -/
theorem OwnC.push {w1 : World} {D N H : Nat} {vs : Nat → Value} {cs : List C} {c : C} {v' : Value} (h : OwnC w1 D N vs cs) (hN : cs.length < N) (hH : ∀ i, i < cs.length → ∀ q, (vs i).ownBlock = some q → q < H) (hDH : D < H) (hv : ownsU w1 H v' c.args) :
    OwnC (((w1.setCell ⟨D, cs.length * 3, none⟩ (.int .u32 c.arch)).setCell ⟨D, cs.length * 3 + 1, none⟩ (.int .u32 c.nr)).setCell ⟨D, cs.length * 3 + 2, none⟩ v') D N (fun i => if i = cs.length then v' else vs i) (cs ++ [c]) := by
  have hl1 : (cs ++ [c]).length = cs.length + 1 := by simp
  obtain ⟨f, hr, hf⟩ := h.row
  have hvD : ∀ q, v'.ownBlock = some q → q ≠ D := fun q hq => by have := (hv.lt q hq).1; omega
  have hwD : ∀ i, i < cs.length → ∀ q, (vs i).ownBlock = some q → q ≠ D := fun i hi q hq => by have := ((h.own i hi).lt q hq).1; omega
  refine ⟨⟨_, ((hr.set _ _).set _ _).set _ _, fun i hi => ?_⟩, by omega, fun i hi => ?_, fun i j p q hij hj hp hq => ?_⟩
  · rw [hl1] at hi
    by_cases e : i = cs.length
    · subst e
      rw [getD_last]
      refine ⟨?_, ?_, ?_⟩
      · rw [if_neg (by omega), if_neg (by omega), if_pos rfl]
      · rw [if_neg (by omega), if_pos rfl]
      · rw [if_pos rfl, if_pos rfl]
    · rw [getD_snoc cs c i (by omega)]
      obtain ⟨f0, f1, f2⟩ := hf i (by omega)
      refine ⟨?_, ?_, ?_⟩
      · rw [if_neg (by omega), if_neg (by omega), if_neg (by omega), f0]
      · rw [if_neg (by omega), if_neg (by omega), if_neg (by omega), f1]
      · rw [if_neg (by omega), if_neg (by omega), if_neg (by omega), f2, if_neg e]
  · rw [hl1] at hi
    by_cases e : i = cs.length
    · subst e
      rw [getD_last]
      simp only [if_true]
      exact ownsU_set (ownsU_set (ownsU_set (ownsU_mono hv (by omega)) hvD) hvD) hvD
    · rw [getD_snoc cs c i (by omega)]
      simp only [if_neg e]
      exact ownsU_set (ownsU_set (ownsU_set (h.own i (by omega)) (hwD i (by omega))) (hwD i (by omega))) (hwD i (by omega))
  · rw [hl1] at hj
    by_cases e : j = cs.length
    · subst e
      simp only [if_true] at hq
      rw [if_neg (by omega)] at hp
      have h2 := hH i (by omega) p hp
      have h3 := (hv.lt q hq).1
      omega
    · rw [if_neg (by omega)] at hp hq
      exact h.inc i j p q hij (by omega) hp hq
theorem wpList_app_room {P : Program} {w : World} {ops : Array Oper} {rest : List Oper} {o : Oper} {a : Act} {Q : Exit → Act → World → Prop} (hgd : o.guard = none) (s x : Operand) (t : TypeId)
    (ho : o.op = .call { callee := .builtin .append, args := #[s, x], argTypes := #[t, t] })
    (e : TypeId) (i : TypeInfo) (size : Nat) (h1 : P.underlying t = some (.slice e)) (h2 : P.info? e = some i) (h4 : i.size = size)
    (b off n cap : Nat) (hs : a.eval s = .slice (some ⟨b, off, none⟩) n cap)
    (ad : Addr) (m c : Nat) (news : List Value) (hx : a.eval x = .slice (some ad) m c) (hn : news.length = m * size) (hc : ∀ j u, news[j]? = some u → w.cell? (ad.add j) = some u) (h1c : ∀ u ∈ news, u.oneCell' = true)
    (hroom : n + m ≤ cap) (hspare : ∀ j, j < news.length → (w.cell? ⟨b, off + n * size + j, none⟩).isSome = true ∧ w.frozen? ⟨b, off + n * size + j, none⟩ = false)
    (h : wpList P ops Q rest (a.put o.dst (.slice (some ⟨b, off, none⟩) (n + m) cap)) (w.setCells b (off + n * size) news)) : wpList P ops Q (o :: rest) a w := by
  refine wpList_plain hgd fun K hK => ?_
  subst h4
  have hrun := run_append_room_cells (P := P) w t o.type e i h1 h2 b off n cap ad m c news hn hc h1c hroom (fun j hj => (hspare j hj).1) (fun j hj => (hspare j hj).2)
  unfold Oper.wp
  simp [execOp, ho, resolve, invoke, builtin, hs, hx, hrun, Result.andThen]
  exact hK _ _ h
theorem infoCallD : (Tryd.prog.info? 34).map (fun i => (i.zero, i.size, i.bytes)) = some (some (.agg #[.int .u32 0, .int .u32 0, .slice none 0 0]), 3, 32) := by kernel_rfl
end Go.Proofs.YtjbbiailhpkdeaaDoor
namespace Go.Proofs.YtjbbiailhpkdeaaDoor
open Go.RowKit
set_option linter.unusedVariables false

theorem logCall_any (L b o : Nat) (B : List Int) (cap k : Nat) (w : World) (h : LgS w L b o B cap k) (hL : L < w.heap.size) (hbw : b < w.heap.size) (hne : L ≠ b) (hB : isBytes B) (hn : B.length ≤ 1048576) (hk : k ≤ B.length) :
    Calls Tryd.prog 52 #[.pointer (some ⟨L, 0, none⟩)] w fun e w' => FramePost L b o B cap k w e w' := by
  by_cases hkn : k < B.length
  · exact logCall_in L b o B cap k w h hL hbw hne hB hn hkn
  · exact logCall_end L b o B cap k w h hL hbw hne hB hn hk hkn
theorem head_none {B : List Int} (hB : isBytes B) (h : headR B = none) : 7 ≤ B.length ∧ countR B ≤ 1000 := by
  unfold headR at h
  split at h
  · cases h
  split at h
  · cases h
  split at h
  · cases h
  split at h
  · cases h
  split at h
  · cases h
  split at h
  · cases h
  split at h
  · cases h
  unfold countR
  omega
theorem dec_head {B : List Int} {c : Int} {a : Nat} (h : headR B = some (c, a)) : decLog B = ([], c, a) := by unfold decLog; rw [h]
theorem dec_none0 {B : List Int} (h : headR B = none) : decLog B = finR B.length [] (framesR B.length (countR B) (B.drop 7)) := by unfold decLog; rw [h]
theorem fin_end (n : Nat) (cs : List C) (l : List Int) : finR n cs (framesR n 0 l) = if l = [] then (cs, 0, 0) else ([], 9, n - l.length) := by
  simp only [framesR, finR, List.append_nil]
/-- what reading a log's calls leaves -/
def CallsPost (L : Nat) (B : List Int) (w : World) (e : Ending) (w' : World) : Prop :=
  Far w w' (fun q => q = L) ∧ ((∃ (c : Int) (a : Nat), decLog B = ([], c, a) ∧ e = Bad c (a : Int)) ∨ ∃ cs D N vs, decLog B = (cs, 0, 0) ∧ e = .returned (.slice (some ⟨D, 0, none⟩) cs.length N) ∧ w.heap.size ≤ D ∧ OwnC w' D N vs cs)
/-- where the loop over the frames stands -/
structure ClS (w W : World) (L b o : Nat) (B : List Int) (cap D N : Nat) (cs : List C) (j : Nat) : Prop where
  fr : Far w W (fun q => q = L)
  lg : LgS W L b o B cap j
  jn : j ≤ B.length
  own : ∃ vs, OwnC W D N vs cs
  dw : w.heap.size ≤ D
  fin : finR B.length cs (framesR B.length (N - cs.length) (B.drop j)) = decLog B
theorem ClS.lt {w W : World} {L b o : Nat} {B : List Int} {cap D N : Nat} {cs : List C} {j : Nat} (h : ClS w W L b o B cap D N cs j) : D < W.heap.size := by obtain ⟨vs, hv⟩ := h.own; exact hv.lt
/-- one call more: it is read, laid in a row of its own, and written where there is room -/
theorem ClS.next {w W W1 : World} {L b o : Nat} {B : List Int} {cap D N : Nat} {cs : List C} {j j' Dc : Nat} {c : C} (h : ClS w W L b o B cap D N cs j) (hLw : L < w.heap.size) (hbw : b < w.heap.size) (hi : cs.length < N) (hF : Far W W1 (fun q => q = L)) (hfr : frameR B.length (B.drop j) = .inr (c, B.drop j')) (hj : j' ≤ B.length) (hDc : W.heap.size ≤ Dc) (ho : ownsU W1 Dc (.slice (some ⟨Dc, 0, none⟩) 6 6) c.args) (hl : LgS W1 L b o B cap j') (x : Obj) :
    (∀ t, t < 3 → ((W1.alloc x).cell? ⟨D, cs.length * 3 + t, none⟩).isSome = true ∧ (W1.alloc x).frozen? ⟨D, cs.length * 3 + t, none⟩ = false) ∧
    ClS w (((((W1.alloc x).setCell ⟨D, cs.length * 3, none⟩ (.int .u32 c.arch)).setCell ⟨D, cs.length * 3 + 1, none⟩ (.int .u32 c.nr)).setCell ⟨D, cs.length * 3 + 2, none⟩ (.slice (some ⟨Dc, 0, none⟩) 6 6))) L b o B cap D N (cs ++ [c]) j' := by
  obtain ⟨vs, hv⟩ := h.own
  have hD := h.lt
  have hdw := h.dw
  have hv1 := hv.farD hF (fun q hq => by omega)
  have hb : Below W1.heap.size W1 (W1.alloc x) := (Below.refl _ _).alloc (Nat.le_refl _) x
  have hv2 := hv1.below hb
  have hle := hv.le
  refine ⟨fun t ht => ?_, ?_⟩
  · obtain ⟨y, e1, e2⟩ := hv2.cellOk (cs.length * 3 + t) (by omega)
    exact ⟨by rw [e1]; rfl, e2⟩
  · have ho2 : ownsU (W1.alloc x) Dc (.slice (some ⟨Dc, 0, none⟩) 6 6) c.args := ownsU_below ho hb
    have hp := hv2.push (c := c) (v' := .slice (some ⟨Dc, 0, none⟩) 6 6) (H := Dc) hi (fun i hi' q hq => by have := ((hv.own i hi').lt q hq).2; omega) (by omega) ho2
    have hbL : L < W1.heap.size := Nat.lt_of_lt_of_le hLw (Nat.le_trans h.fr.size hF.size)
    have hbb : b < W1.heap.size := Nat.lt_of_lt_of_le hbw (Nat.le_trans h.fr.size hF.size)
    refine ⟨((((h.fr.trans hF).below hb).setNew hdw).setNew hdw).setNew hdw, (hl.blk (hb.block L hbL) (hb.block b hbb)).blk ?_ ?_, hj, ⟨_, hp⟩, hdw, ?_⟩
    · rw [set_blkD (by omega), set_blkD (by omega), set_blkD (by omega)]
    · rw [set_blkD (by omega), set_blkD (by omega), set_blkD (by omega)]
    · have e : N - cs.length = (N - (cs ++ [c]).length) + 1 := by simp; omega
      have hf := h.fin
      rw [e, framesR_good hfr] at hf
      exact hf
theorem ClS.start {w W : World} {L b o : Nat} {B : List Int} {cap N : Nat} (hF : Far w W (fun q => q = L)) (hl : LgS W L b o B cap 7) (h7 : 7 ≤ B.length) (hLw : L < w.heap.size) (hbw : b < w.heap.size) (hd : finR B.length [] (framesR B.length N (B.drop 7)) = decLog B) :
    ClS w (W.alloc (.cells (madeCells #[.int .u32 0, .int .u32 0, .slice none 0 0] (N * 3)) 34)) L b o B cap W.heap.size N [] 7 := by
  have hb : Below W.heap.size W (W.alloc (.cells (madeCells #[.int .u32 0, .int .u32 0, .slice none 0 0] (N * 3)) 34)) := (Below.refl _ _).alloc (Nat.le_refl _) _
  have hr := World.rowIs_alloc W (madeCells #[.int .u32 0, .int .u32 0, .slice none 0 0] (N * 3)) 34 (fun i => (madeCells #[.int .u32 0, .int .u32 0, .slice none 0 0] (N * 3)).getD i undef) (fun i h => by simp [h])
  rw [size_madeCells] at hr
  exact ⟨hF.below hb, hl.blk (hb.block L (Nat.lt_of_lt_of_le hLw hF.size)) (hb.block b (Nat.lt_of_lt_of_le hbw hF.size)), h7, ⟨fun _ => .slice none 0 0, ⟨⟨_, hr, fun i hi => by simp at hi⟩, by simp, fun i hi => by simp at hi, fun i j p q _ hj => by simp at hj⟩⟩, hF.size, hd⟩
end Go.Proofs.YtjbbiailhpkdeaaDoor
