/-
  Small, PolB, PolC, PolD, Mini
-/
import Derived.Test.YtljhccolmcoifaaGreatQ34
import Derived.Test.YtljhccolmcoifaaGreatQ07
import Derived.Test.YtljhccolmcoifaaGreatQ14
import Derived.Test.YtljhccolmcoifaaGreatQ13
import Derived.Test.YtljhccolmcoifaaGreatQ24
import Derived.Deep.RegionHeld3
namespace Go.Proofs.YtljhccolmcoifaaGreat
open Go.RowKit
set_option linter.unusedVariables false
open srtR

theorem distN_map {a b : List Rn} (h : DistG ordN a b) : DistG ordR (a.map Subtype.val) (b.map Subtype.val) := by
  refine ⟨List.pairwise_map.2 h.1, fun c => ?_⟩
  simp only [List.mem_map]
  constructor
  · rintro ⟨x, hx, rfl⟩; exact ⟨x, (h.2 x).1 hx, rfl⟩
  · rintro ⟨x, hx, rfl⟩; exact ⟨x, (h.2 x).2 hx, rfl⟩

/-- the rules as the program holds them -/
def gOf (rules : List Ru) (hv : ∀ r ∈ rules, VR r) (i : Nat) : Rn := if h : i < rules.length then ⟨normR rules[i], normR_NR (hv _ (List.getElem_mem h))⟩ else default
theorem gOf_val {rules : List Ru} (hv : ∀ r ∈ rules, VR r) {i : Nat} (h : i < rules.length) : (gOf rules hv i).val = normR (rules.getD i []) := by
  unfold gOf
  rw [dif_pos h, List.getD_eq_getElem?_getD, List.getElem?_eq_getElem h]; rfl
theorem ls_gOf (rules : List Ru) (hv : ∀ r ∈ rules, VR r) : ls (gOf rules hv) rules.length = rules.map normR := by
  apply List.ext_getElem
  · rw [ls_len, List.length_map]
  · intro i h1 h2
    rw [ls_len] at h1
    simp only [ls, lstF, List.getElem_map, List.getElem_range]
    unfold gOf
    rw [dif_pos h1]
theorem enc_snoc (g : Nat → Rn) (k : Nat) : (lstF g (k + 1)).flatMap encN = (lstF g k).flatMap encN ++ encN (g k) := by
  rw [lstF_succ, List.flatMap_append]; simp

/-- rules in memory of their own: a row of them, and behind each a row of conditions -/
structure OwnRs (w : World) (B : Nat) (v : Value) (l : List Ru) (vs : Nat → Value) (cb : Nat → Nat) (gb : Nat) : Prop where
  row : w.ownsRow B 108 1 v l.length ((List.range l.length).map vs)
  ob : v.ownBlock = some gb
  own : ∀ i, i < l.length → ownsK w B (vs i) (l.getD i []) ∧ (vs i).ownBlock = some (cb i)
  ne : ∀ i, i < l.length → cb i ≠ gb
  inc : ∀ i j, i < j → j < l.length → cb i < cb j
theorem ownsK_block {w : World} {B : Nat} {v : Value} {l : List K} (h : ownsK w B v l) (hl : 0 < l.length) : ∃ q cap, v = .slice (some ⟨q, 0, none⟩) l.length cap ∧ B ≤ q ∧ q < w.heap.size := by
  have h' := h
  obtain ⟨_, h | ⟨g, cap, cur, e, hb, _⟩⟩ := h
  · omega
  · exact ⟨g, cap, e, hb, (h'.lt g (by rw [e]; rfl)).2⟩
theorem OwnRs.below {w w1 : World} {B : Nat} {v : Value} {l : List Ru} {vs : Nat → Value} {cb : Nat → Nat} {gb : Nat} (h : OwnRs w B v l vs cb gb) (hb : Below w.heap.size w w1) : OwnRs w1 B v l vs cb gb :=
  ⟨World.ownsRow.kept (row := none) h.row ⟨hb.os, hb.tape, hb.output, hb.size, fun k hk _ => hb.block k hk⟩ (by cases v.ownBlock <;> simp), h.ob, fun i hi => ⟨ownsK_below (h.own i hi).1 hb, (h.own i hi).2⟩, h.ne, h.inc⟩
theorem OwnRs.next {w w9 w1 : World} {B : Nat} {v v' : Value} {l : List Ru} {r : Ru} {vs : Nat → Value} {cb : Nat → Nat} {gb gg cap q : Nat} {o : Obj} (h : OwnRs w B v l vs cb gb) (hBw : B ≤ w.heap.size) (hb : Below w.heap.size w w9) (hv : ownsK w9 w.heap.size v' r) (hq : v'.ownBlock = some q)
    (hown : w1.ownsRow B 108 1 (.slice (some ⟨gg, 0, none⟩) (l.length + 1) cap) (l.length + 1) ((List.range l.length).map vs ++ [v'])) (hg : (w9.alloc o).grownBy w1 v.ownBlock) (hat : v.ownBlock = some gg ∨ gg = (w9.alloc o).heap.size) :
    OwnRs w1 B (.slice (some ⟨gg, 0, none⟩) (l.length + 1) cap) (l ++ [r]) (fun i => if i = l.length then v' else vs i) (fun i => if i = l.length then q else cb i) gg := by
  have hgb := (h.row.lt gb h.ob).2
  have hq1 := hv.lt q hq
  have hb2 : Below w9.heap.size w9 (w9.alloc o) := (Below.refl _ _).alloc (Nat.le_refl _) o
  have hsz : (w9.alloc o).heap.size = w9.heap.size + 1 := by simp
  have hws := hb.size
  have cl : ∀ i, i < l.length → cb i < w.heap.size := fun i hi => ((h.own i hi).1.lt _ (h.own i hi).2).2
  have len1 : (l ++ [r]).length = l.length + 1 := by simp
  have gne : ∀ i, i < l.length → cb i ≠ gg := fun i hi => by
    rcases hat with e | e
    · rw [h.ob] at e; cases e; exact h.ne i hi
    · have := cl i hi; omega
  have qne : q ≠ gg := by
    rcases hat with e | e
    · rw [h.ob] at e; cases e; omega
    · omega
  have e0 : (List.range (l.length + 1)).map (fun i => if i = l.length then v' else vs i) = (List.range l.length).map vs ++ [v'] := by
    rw [List.range_succ, List.map_append]
    congr 1
    · apply List.map_congr_left
      intro i hi
      rw [if_neg (by have := List.mem_range.1 hi; omega)]
    · simp
  refine ⟨by rw [len1, e0]; exact hown, rfl, fun i hi => ?_, fun i hi => ?_, fun i j hij hj => ?_⟩
  · rw [len1] at hi
    by_cases e : i = l.length
    · subst e
      simp only [if_true]
      have e2 : (l ++ [r]).getD l.length [] = r := by simp [List.getD_eq_getElem?_getD]
      rw [e2]
      exact ⟨World.ownsRow.mono (World.ownsRow.kept (ownsK_below hv hb2) hg (.inr (by rw [hq, h.ob]; intro e; cases e; omega))) hBw, hq⟩
    · have hi' : i < l.length := by omega
      simp only [if_neg e]
      have e2 : (l ++ [r]).getD i [] = l.getD i [] := by simp [List.getD_eq_getElem?_getD, List.getElem?_append_left hi']
      rw [e2]
      refine ⟨World.ownsRow.kept (ownsK_below (ownsK_below (h.own i hi').1 hb) hb2) hg (.inr ?_), (h.own i hi').2⟩
      rw [(h.own i hi').2, h.ob]; intro e; cases e; exact h.ne i hi' rfl
  · rw [len1] at hi
    by_cases e : i = l.length
    · simp only [if_pos e]; exact qne
    · simp only [if_neg e]; exact gne i (by omega)
  · rw [len1] at hj
    by_cases e : j = l.length
    · simp only [if_pos e]
      rw [if_neg (by omega)]
      have := cl i (by omega); omega
    · simp only [if_neg e]
      rw [if_neg (by omega)]
      exact h.inc i j hij (by omega)
theorem ls_succ (g : Nat → Rn) (k : Nat) : ls g (k + 1) = ls g k ++ [(g k).val] := by rw [ls, lstF_succ, List.map_append]; rfl
theorem infoRuleS : (Tryz.prog.info? 108).map (fun i => (i.zero, i.size, i.bytes)) = some (some (.agg #[.slice none 0 0]), 1, 24) := by kernel_rfl

/-- how many the list says that it has -/
def lenAt (L : Nat) (w : World) : Nat := match w.cell? ⟨L, 0, none⟩ with | some (.slice _ n _) => n | _ => 0
theorem lenAt_of {L : Nat} {w : World} {a : Option Addr} {n c : Nat} (h : w.cell? ⟨L, 0, none⟩ = some (.slice a n c)) : lenAt L w = n := by unfold lenAt; rw [h]

/-- what smallRules answers -/
def SmallPost (rules : List Ru) (w : World) (e : Ending) (w' : World) : Prop := ∃ v out vs cb gb, IsSmall rules out ∧ e = .returned v ∧ OwnRs w' w.heap.size v out vs cb gb ∧ Below w.heap.size w w'

end Go.Proofs.YtljhccolmcoifaaGreat
namespace Go.Proofs.YtljhccolmcoifaaGreat
open Go.RowKit
set_option linter.unusedVariables false

end Go.Proofs.YtljhccolmcoifaaGreat
namespace Go.Proofs.YtljhccolmcoifaaGreat
open Go.RowKit
set_option linter.unusedVariables false

def or2 (x y : Int) : Int := if x ≠ 0 then x else y
def get2 (x y : Int) (j : Nat) : Int := if j = 0 then x else y

set_option maxRecDepth 100000 in
set_option maxHeartbeats 1000000 in
theorem cmpOr2_any (g : Nat) (x y : Int) (w : World) (c : ∀ j, j < 2 → w.cell? ⟨g, j, none⟩ = some (.int .i64 (get2 x y j))) :
    Calls Tryz.prog 54 #[.slice (some ⟨g, 0, none⟩) 2 2] w fun e w' => e = .returned (.int .i64 (or2 x y)) ∧ w' = w := by
  have HC : Hid (∀ j, j < 2 → w.cell? ⟨g, j, none⟩ = some (.int .i64 (get2 x y j))) := c
  have H1 : Hid (∀ j, j < 2 → (∀ i, i < j → get2 x y i = 0) → get2 x y j ≠ 0 → or2 x y = get2 x y j) := by
    intro j hj h0 h1
    have : j = 0 ∨ j = 1 := by omega
    rcases this with rfl | rfl
    · simp only [get2, if_true] at h1 ⊢; unfold or2; rw [if_pos h1]
    · have a0 := h0 0 (by omega)
      simp [get2] at h1 a0 ⊢; unfold or2; rw [if_neg (by omega)]
  have H2 : Hid ((∀ i, i < 2 → get2 x y i = 0) → or2 x y = 0) := by
    intro h0
    have a0 := h0 0 (by omega)
    have a1 := h0 1 (by omega)
    simp [get2] at a0 a1; unfold or2; rw [if_neg (by omega), a1]
  generalize or2 x y = R at *
  generalize get2 x y = G at *
  clear c
  go_enter Tryz.func54, Tryz.ntmps54
  go_wp2_with fail
  go_loopw [8] (fun i wr => ∃ j : Nat, j ≤ 2 ∧ i = .int .i64 j ∧ wr = w ∧ Hid (∀ i, i < j → G i = 0)) (fun i _ => 2 - (intOf i).toNat)
  case atStart => exact ⟨0, by omega, rfl, rfl, fun i hi => by omega⟩
  case round =>
    obtain ⟨j, hj, rfl, rfl, HJ⟩ := hrel
    by_cases hlt : j < 2
    · have c0 := HC.out j hlt
      by_cases hq : G j = 0
      · have HJ2 : Hid (∀ i, i < j + 1 → G i = 0) := by
          intro i hi
          by_cases e : i = j
          · rw [e]; exact hq
          · exact HJ.out i (by omega)
        rw [hq] at c0
        clear HC H1 H2 HJ hq
        go_wp2
        go_roundw
        case rel => exact ⟨j + 1, by omega, by go_num, trivial, HJ2⟩
        case measure => simp [intOf]; omega
      · have E : Hid (R = G j) := H1.out j hlt HJ.out hq
        have hq' : (G j != 0) = true := by simpa using hq
        clear HC H1 H2 HJ
        generalize G j = q at *
        go_wp2
        go_ret
        exact ⟨ret_int E.out.symm, rfl⟩
    · have E : Hid (R = 0) := H2.out (fun i hi => HJ.out i (by omega))
      clear HC H1 H2 HJ
      go_wp2
      go_ret
      exact ⟨ret_int E.out.symm, rfl⟩

theorem cell_alloc_keep {W : World} {a : Addr} {v : Value} (o : Obj) (h : W.cell? a = some v) : (W.alloc o).cell? a = some v := by
  rw [World.cell?_alloc_lt _ _ _ (cell_ltK h)]; exact h
theorem bef_or2 (a b : E) : befE a b = decide (or2 (ordI a.arch b.arch) (ordI a.nr b.nr) < 0) := by
  unfold befE or2
  rcases Int.lt_trichotomy a.arch b.arch with h | h | h
  · rw [ordI_neg h]; simp [h]
  · rw [ordI_same h]
    rcases Int.lt_trichotomy a.nr b.nr with h2 | h2 | h2
    · rw [ordI_neg h2]; simp [h, h2]
    · rw [ordI_same h2]; simp [h, h2]
    · rw [ordI_pos h2]; simp [h]; omega
  · rw [ordI_pos h]; simp; omega

end Go.Proofs.YtljhccolmcoifaaGreat
namespace Go.Proofs.YtljhccolmcoifaaGreat
open Go.RowKit
set_option linter.unusedVariables false

end Go.Proofs.YtljhccolmcoifaaGreat
namespace Go.Proofs.YtljhccolmcoifaaGreat
open Go.RowKit
set_option linter.unusedVariables false
open srtR

/-- rules of their own between two blocks -/
def RsIn (w : World) (lo hi : Nat) (v : Value) (l : List Ru) : Prop := ∃ vs cb gb, OwnRs w lo v l vs cb gb ∧ gb < hi ∧ ∀ i, i < l.length → cb i < hi
theorem RsIn.far {w w1 : World} {lo hi : Nat} {v : Value} {l : List Ru} (h : RsIn w lo hi v l) (hb : ∀ k, lo ≤ k → k < hi → w1.heap[k]? = w.heap[k]?) : RsIn w1 lo hi v l := by
  obtain ⟨vs, cb, gb, h1, h2, h3⟩ := h
  refine ⟨vs, cb, gb, ⟨row_blockK h1.row (fun q hq => ?_), h1.ob, fun i hi => ⟨row_blockK (h1.own i hi).1 (fun q hq => ?_), (h1.own i hi).2⟩, h1.ne, h1.inc⟩, h2, h3⟩
  · rw [h1.ob] at hq; cases hq
    exact hb _ (h1.row.lt _ h1.ob).1 h2
  · rw [(h1.own i hi).2] at hq; cases hq
    exact hb _ ((h1.own i hi).1.lt _ (h1.own i hi).2).1 (h3 i hi)

def entC (e : E) (v : Value) : List Value := [.int .u32 e.arch, .int .u32 e.nr, v]
def entCs (l : List E) (rv : Nat → Value) : List Value := (List.range l.length).flatMap fun i => entC (l.getD i E.zero) (rv i)
theorem entCs_snoc (l : List E) (e : E) (rv : Nat → Value) (v : Value) : entCs (l ++ [e]) (fun i => if i = l.length then v else rv i) = entCs l rv ++ entC e v := by
  unfold entCs
  rw [List.length_append, List.length_singleton, List.range_succ, List.flatMap_append]
  congr 1
  · rw [List.flatMap_def, List.flatMap_def]
    congr 1
    apply List.map_congr_left
    intro i hi
    have hi' := List.mem_range.1 hi
    show entC ((l ++ [e]).getD i E.zero) (if i = l.length then v else rv i) = entC (l.getD i E.zero) (rv i)
    rw [if_neg (by omega)]
    simp [List.getD_eq_getElem?_getD, List.getElem?_append_left hi']
  · simp [List.getD_eq_getElem?_getD]
/-- a policy in memory of its own -/
structure OwnPs (w : World) (B C : Nat) (v : Value) (l : List E) (rv : Nat → Value) (lo hi : Nat → Nat) (gb : Nat) : Prop where
  row : w.ownsRow B 76 3 v l.length (entCs l rv)
  ob : v.ownBlock = some gb
  own : ∀ i, i < l.length → RsIn w (lo i) (hi i) (rv i) (l.getD i E.zero).rules
  lt : ∀ i, i < l.length → C ≤ lo i ∧ hi i ≤ w.heap.size
  out : ∀ i, i < l.length → gb < lo i ∨ hi i ≤ gb
  inc : ∀ i j, i < j → j < l.length → hi i ≤ lo j
theorem OwnPs.below {w w1 : World} {B C : Nat} {v : Value} {l : List E} {rv : Nat → Value} {lo hi : Nat → Nat} {gb : Nat} (h : OwnPs w B C v l rv lo hi gb) (hb : Below w.heap.size w w1) : OwnPs w1 B C v l rv lo hi gb :=
  ⟨World.ownsRow.kept (row := none) h.row ⟨hb.os, hb.tape, hb.output, hb.size, fun k hk _ => hb.block k hk⟩ (by cases v.ownBlock <;> simp), h.ob, fun i hi' => (h.own i hi').far (fun k h1 h2 => hb.block k (by have := (h.lt i hi').2; omega)), fun i hi' => ⟨(h.lt i hi').1, Nat.le_trans (h.lt i hi').2 hb.size⟩, h.out, h.inc⟩
theorem OwnPs.next {w w9 w1 : World} {B C : Nat} {v v' : Value} {l : List E} {e : E} {rv : Nat → Value} {lo hi : Nat → Nat} {gb gg cap : Nat} {o : Obj} (h : OwnPs w B C v l rv lo hi gb) (hBw : C ≤ w.heap.size) (hb : Below w.heap.size w w9) (hv : RsIn w9 w.heap.size w9.heap.size v' e.rules)
    (hown : w1.ownsRow B 76 3 (.slice (some ⟨gg, 0, none⟩) (l.length + 1) cap) (l.length + 1) (entCs l rv ++ entC e v')) (hg : (w9.alloc o).grownBy w1 v.ownBlock) (hat : v.ownBlock = some gg ∨ gg = (w9.alloc o).heap.size) :
    ∃ rv' lo' hi', OwnPs w1 B C (.slice (some ⟨gg, 0, none⟩) (l.length + 1) cap) (l ++ [e]) rv' lo' hi' gg := by
  have hgb := (h.row.lt gb h.ob).2
  have hb2 : Below w9.heap.size w9 (w9.alloc o) := (Below.refl _ _).alloc (Nat.le_refl _) o
  have hsz : (w9.alloc o).heap.size = w9.heap.size + 1 := by simp
  have hws := hb.size
  have hg1 := hg.size
  have len1 : (l ++ [e]).length = l.length + 1 := by simp
  have blk : ∀ k, k < w9.heap.size → k ≠ gb → w1.heap[k]? = w9.heap[k]? := fun k hk hne => (hg.block k (by omega) (by rw [h.ob]; intro e; cases e; exact hne rfl)).trans (hb2.block k hk)
  have hgg : gg = gb ∨ gg = w9.heap.size + 1 := by
    rcases hat with e | e
    · rw [h.ob] at e; cases e; exact .inl rfl
    · exact .inr (by omega)
  refine ⟨fun i => if i = l.length then v' else rv i, fun i => if i = l.length then w.heap.size else lo i, fun i => if i = l.length then w9.heap.size else hi i, by rw [len1, entCs_snoc]; exact hown, rfl, fun i hi' => ?_, fun i hi' => ?_, fun i hi' => ?_, fun i j hij hj => ?_⟩
  · rw [len1] at hi'
    by_cases e' : i = l.length
    · subst e'
      simp only [if_true]
      have e2 : (l ++ [e]).getD l.length E.zero = e := by simp [List.getD_eq_getElem?_getD]
      rw [e2]
      exact hv.far (fun k h1 h2 => blk k h2 (by omega))
    · have hi'' : i < l.length := by omega
      simp only [if_neg e']
      have e2 : (l ++ [e]).getD i E.zero = l.getD i E.zero := by simp [List.getD_eq_getElem?_getD, List.getElem?_append_left hi'']
      rw [e2]
      refine (h.own i hi'').far (fun k h1 h2 => ?_)
      have l1 := h.lt i hi''
      have l2 := h.out i hi''
      exact (blk k (by omega) (by omega)).trans (hb.block k (by omega))
  · rw [len1] at hi'
    by_cases e' : i = l.length
    · simp only [if_pos e']; omega
    · simp only [if_neg e']
      have := h.lt i (by omega); omega
  · rw [len1] at hi'
    by_cases e' : i = l.length
    · simp only [if_pos e']; omega
    · simp only [if_neg e']
      have l1 := h.lt i (by omega)
      have l2 := h.out i (by omega)
      omega
  · rw [len1] at hj
    by_cases e' : j = l.length
    · simp only [if_pos e']
      rw [if_neg (by omega)]
      exact (h.lt i (by omega)).2
    · simp only [if_neg e']
      rw [if_neg (by omega)]
      exact h.inc i j hij (by omega)
theorem infoEnt : (Tryz.prog.info? 76).map (fun i => (i.zero, i.size, i.bytes)) = some (some (.agg #[.int .u32 0, .int .u32 0, .slice none 0 0]), 3, 32) := by kernel_rfl

theorem OwnPs.far {w w1 : World} {B C : Nat} {v : Value} {l : List E} {rv : Nat → Value} {lo hi : Nat → Nat} {gb : Nat} (h : OwnPs w B C v l rv lo hi gb) (hs : w.heap.size ≤ w1.heap.size) (h1 : w1.heap[gb]? = w.heap[gb]?) (h2 : ∀ k, C ≤ k → k < w.heap.size → w1.heap[k]? = w.heap[k]?) : OwnPs w1 B C v l rv lo hi gb :=
  ⟨row_blockK h.row (fun q hq => by rw [h.ob] at hq; cases hq; exact h1), h.ob, fun i hi' => (h.own i hi').far (fun k a b => h2 k (by have := (h.lt i hi').1; omega) (by have := (h.lt i hi').2; omega)), fun i hi' => ⟨(h.lt i hi').1, Nat.le_trans (h.lt i hi').2 hs⟩, h.out, h.inc⟩
theorem OwnPs.mono {w : World} {B C B' C' : Nat} {v : Value} {l : List E} {rv : Nat → Value} {lo hi : Nat → Nat} {gb : Nat} (h : OwnPs w B C v l rv lo hi gb) (hB : B' ≤ B) (hC : C' ≤ C) : OwnPs w B' C' v l rv lo hi gb :=
  ⟨World.ownsRow.mono h.row hB, h.ob, h.own, fun i hi' => ⟨Nat.le_trans hC (h.lt i hi').1, (h.lt i hi').2⟩, h.out, h.inc⟩

theorem OwnRs.form {w : World} {B : Nat} {v : Value} {l : List Ru} {vs : Nat → Value} {cb : Nat → Nat} {gb : Nat} (h : OwnRs w B v l vs cb gb) : ∃ cap, v = .slice (some ⟨gb, 0, none⟩) l.length cap := by
  have ho := h.ob
  obtain ⟨_, h | ⟨g, cap, cur, e, _⟩⟩ := h.row
  · rw [h.1] at ho; cases ho
  · have : g = gb := by rw [e] at ho; simpa [Value.ownBlock] using ho
    subst this
    exact ⟨cap, e⟩
/-- the boxes and the row while the entries come in -/
structure EnS (w wr : World) (G : Nat) (v : Value) (l : List E) (rv : Nat → Value) (lo hi : Nat → Nat) (gb : Nat) : Prop where
  b : Below w.heap.size w wr
  hG : w.heap.size + 2 ≤ G
  c : wr.cell? ⟨G + 1, 0, none⟩ = some v
  f : wr.frozen? ⟨G + 1, 0, none⟩ = false
  c0 : wr.cell? ⟨w.heap.size + 1, 0, none⟩ = some (.slice none 0 0)
  f0 : wr.frozen? ⟨w.heap.size + 1, 0, none⟩ = false
  own : OwnPs wr (w.heap.size + 2) (G + 2) v l rv lo hi gb
  ne : gb ≠ G + 1
theorem EnS.keep {w wr w1 : World} {G : Nat} {v : Value} {l : List E} {rv : Nat → Value} {lo hi : Nat → Nat} {gb : Nat} (h : EnS w wr G v l rv lo hi gb) (hb : Below wr.heap.size wr w1) : EnS w w1 G v l rv lo hi gb :=
  ⟨below_step hb h.b, h.hG, cell_step hb h.c, (hb.frozen (p := ⟨G + 1, 0, none⟩) (cell_ltK h.c)).trans h.f, cell_step hb h.c0, (hb.frozen (p := ⟨w.heap.size + 1, 0, none⟩) (cell_ltK h.c0)).trans h.f0, h.own.below hb, h.ne⟩
theorem EnS.next {w wr w9 w1 : World} {G : Nat} {v v' : Value} {l : List E} {e : E} {rv : Nat → Value} {lo hi : Nat → Nat} {gb gg cap : Nat} {o : Obj} (h : EnS w wr G v l rv lo hi gb) (hb : Below wr.heap.size wr w9) (hv : RsIn w9 wr.heap.size w9.heap.size v' e.rules)
    (hown : w1.ownsRow (w.heap.size + 2) 76 3 (.slice (some ⟨gg, 0, none⟩) (l.length + 1) cap) (l.length + 1) (entCs l rv ++ entC e v')) (hg : (w9.alloc o).grownBy w1 v.ownBlock) (hat : v.ownBlock = some gg ∨ gg = (w9.alloc o).heap.size) :
    w1.cell? ⟨G + 1, 0, none⟩ = some v ∧ w1.frozen? ⟨G + 1, 0, none⟩ = false ∧ ∃ rv' lo' hi', EnS w (w1.setCell ⟨G + 1, 0, none⟩ (.slice (some ⟨gg, 0, none⟩) (l.length + 1) cap)) G (.slice (some ⟨gg, 0, none⟩) (l.length + 1) cap) (l ++ [e]) rv' lo' hi' gg := by
  have h1 := cell_ltK h.c
  have h2 := cell_ltK h.c0
  simp only at h1 h2
  have hgb := h.own.row.lt gb h.own.ob
  have hws := hb.size
  have hb2 : Below w9.heap.size w9 (w9.alloc o) := (Below.refl _ _).alloc (Nat.le_refl _) o
  have hsz : (w9.alloc o).heap.size = w9.heap.size + 1 := by simp
  have s9 := (h.keep hb).keep hb2
  have ne1 : some (G + 1) ≠ v.ownBlock := by rw [h.own.ob]; intro e; cases e; exact h.ne rfl
  have ne2 : some (w.heap.size + 1) ≠ v.ownBlock := by rw [h.own.ob]; intro e; injection e with e; omega
  have x1 := (hg.cell_far ⟨G + 1, 0, none⟩ (by show G + 1 < _; omega) ne1).trans s9.c
  have x2 := (hg.frozen_far ⟨G + 1, 0, none⟩ (by show G + 1 < _; omega) ne1).trans s9.f
  have x3 := (hg.cell_far ⟨w.heap.size + 1, 0, none⟩ (by show w.heap.size + 1 < _; omega) ne2).trans s9.c0
  have x4 := (hg.frozen_far ⟨w.heap.size + 1, 0, none⟩ (by show w.heap.size + 1 < _; omega) ne2).trans s9.f0
  obtain ⟨rv', lo', hi', hO⟩ := OwnPs.next h.own (by omega) hb hv hown hg hat
  have hgne : gg ≠ G + 1 := by
    rcases hat with e | e
    · rw [h.own.ob] at e; cases e; exact h.ne
    · omega
  have hhG := h.hG
  have hb1 : Below w.heap.size w w1 := s9.b.grown hg (by omega) (fun z hz => by rw [h.own.ob] at hz; cases hz; omega)
  refine ⟨x1, x2, rv', lo', hi', ⟨hb1.setCell (p := ⟨G + 1, 0, none⟩) (by show w.heap.size ≤ G + 1; omega) _, h.hG, World.cell?_setCell_same _ _ _ x1, by rw [frozen_setCell]; exact x2, ?_, by rw [frozen_setCell]; exact x4, ?_, hgne⟩⟩
  · rw [World.cell?_setCell_other _ _ _ _ (by intro e; injection e with e; omega)]; exact x3
  · refine hO.far (by simp [World.setCell]) ?_ (fun k hk hk2 => ?_)
    · simp only [World.setCell, Array.getElem?_modify]; rw [if_neg (fun e => hgne e.symm)]
    · simp only [World.setCell, Array.getElem?_modify]; rw [if_neg (by omega)]

/-- what Minimise answers for a valid policy -/
def MiniPost (p : List E) (w : World) (e : Ending) (w' : World) : Prop := ∃ v out rv lo hi gb, IsMin p out ∧ e = .returned (.agg #[v]) ∧ OwnPs w' w.heap.size w.heap.size v out rv lo hi gb ∧ Below w.heap.size w w'
/-- the first k entries, made small -/
def MinTo (p out : List E) (k : Nat) : Prop := out.length = k ∧ ∀ i, i < k → (out.getD i E.zero).arch = (p.getD i E.zero).arch ∧ (out.getD i E.zero).nr = (p.getD i E.zero).nr ∧ IsSmall (p.getD i E.zero).rules (out.getD i E.zero).rules
theorem MinTo.next {p out : List E} {k : Nat} {rs : List Ru} (h : MinTo p out k) (hs : IsSmall (p.getD k E.zero).rules rs) : MinTo p (out ++ [⟨(p.getD k E.zero).arch, (p.getD k E.zero).nr, rs⟩]) (k + 1) := by
  refine ⟨by simp [h.1], fun i hi => ?_⟩
  by_cases e : i = k
  · subst e
    have e2 : (out ++ [(⟨(p.getD i E.zero).arch, (p.getD i E.zero).nr, rs⟩ : E)]).getD i E.zero = ⟨(p.getD i E.zero).arch, (p.getD i E.zero).nr, rs⟩ := by
      rw [List.getD_eq_getElem?_getD, List.getElem?_append_right (by rw [h.1]; exact Nat.le_refl _), h.1]; simp
    rw [e2]; exact ⟨rfl, rfl, hs⟩
  · have e2 : (out ++ [(⟨(p.getD k E.zero).arch, (p.getD k E.zero).nr, rs⟩ : E)]).getD i E.zero = out.getD i E.zero := by
      rw [List.getD_eq_getElem?_getD, List.getElem?_append_left (by rw [h.1]; omega), List.getD_eq_getElem?_getD]
    rw [e2]; exact h.2 i (by omega)

end Go.Proofs.YtljhccolmcoifaaGreat
