/-
  MathO, Ord, OrdS, DistA, DistB, DecIns, DecP, DecS, DlgX
-/
import Derived.Test.YtjbbiailhpkdeaaDoorQ01
import Derived.Test.YtjbbiailhpkdeaaDoorQ03
import Derived.Deep.QuietTactic
import Derived.BigQuiet
import Derived.Laws.OwnMore
import Derived.Test.YtjbbiailhpkdeaaDoorQ02
import Derived.Test.YtjbbiailhpkdeaaDoorQ14
import Derived.Test.YtjbbiailhpkdeaaDoorQ06
import Derived.Test.YtjbbiailhpkdeaaDoorQ10
namespace Go.Proofs.YtjbbiailhpkdeaaDoor
set_option linter.unusedVariables false

def ordI (a b : Int) : Int := if a < b then -1 else if b < a then 1 else 0
def ordL : List Int → List Int → Int
  | [], [] => 0
  | [], _ :: _ => -1
  | _ :: _, [] => 1
  | a :: r, b :: s => if ordI a b = 0 then ordL r s else ordI a b
def ordC (a b : C) : Int := if ordI a.arch b.arch ≠ 0 then ordI a.arch b.arch else if ordI a.nr b.nr ≠ 0 then ordI a.nr b.nr else ordL a.args b.args

theorem ordI_anti (a b : Int) : ordI a b = - ordI b a := by unfold ordI; split <;> split <;> (try split) <;> omega
theorem ordI_zero {a b : Int} (h : ordI a b = 0) : a = b := by unfold ordI at h; split at h <;> (try split at h) <;> omega
theorem ordI_self (a : Int) : ordI a a = 0 := by unfold ordI; simp
theorem ordI_lt {a b : Int} : ordI a b < 0 ↔ a < b := by unfold ordI; split <;> (try split) <;> omega
theorem ordI_bd (a b : Int) : ordI a b = -1 ∨ ordI a b = 0 ∨ ordI a b = 1 := by unfold ordI; split <;> (try split) <;> omega
theorem ordL_self (l : List Int) : ordL l l = 0 := by
  induction l with
  | nil => rfl
  | cons a r ih => simp [ordL, ordI_self, ih]
theorem ordL_zero {l m : List Int} (h : ordL l m = 0) : l = m := by
  induction l generalizing m with
  | nil => cases m with
    | nil => rfl
    | cons => simp [ordL] at h
  | cons a r ih => cases m with
    | nil => simp [ordL] at h
    | cons b s =>
      unfold ordL at h
      split at h
      · rename_i h0; rw [ordI_zero h0, ih h]
      · exact absurd h (by assumption)
theorem ordL_anti (l m : List Int) : ordL l m = - ordL m l := by
  induction l generalizing m with
  | nil => cases m <;> simp [ordL]
  | cons a r ih => cases m with
    | nil => simp [ordL]
    | cons b s =>
      unfold ordL
      have := ordI_anti a b
      by_cases h : ordI a b = 0
      · rw [if_pos h, if_pos (by omega), ih s]
      · rw [if_neg h, if_neg (by omega)]; exact this
theorem ordL_trans {l m n : List Int} (h : ordL l m < 0) (h' : ordL m n < 0) : ordL l n < 0 := by
  induction l generalizing m n with
  | nil => cases m with
    | nil => simp [ordL] at h
    | cons b s => cases n with
      | nil => simp [ordL] at h'
      | cons => simp [ordL]
  | cons a r ih => cases m with
    | nil => simp [ordL] at h
    | cons b s => cases n with
      | nil => simp [ordL] at h'
      | cons c t =>
        unfold ordL at h h' ⊢
        by_cases e1 : ordI a b = 0
        · rw [if_pos e1] at h
          obtain rfl := ordI_zero e1
          by_cases e2 : ordI a c = 0
          · rw [if_pos e2] at h' ⊢; exact ih h h'
          · rw [if_neg e2] at h' ⊢; exact h'
        · rw [if_neg e1] at h
          by_cases e2 : ordI b c = 0
          · obtain rfl := ordI_zero e2
            rw [if_neg e1]; exact h
          · rw [if_neg e2] at h'
            have h1 := ordI_lt.1 h
            have h2 := ordI_lt.1 h'
            have h3 : ordI a c < 0 := ordI_lt.2 (by omega)
            rw [if_neg (by omega)]; exact h3
theorem ordL_bd (l m : List Int) : ordL l m = -1 ∨ ordL l m = 0 ∨ ordL l m = 1 := by
  induction l generalizing m with
  | nil => cases m <;> simp [ordL]
  | cons a r ih => cases m with
    | nil => simp [ordL]
    | cons b s =>
      unfold ordL
      split
      · exact ih s
      · exact ordI_bd a b

theorem ordC_self (a : C) : ordC a a = 0 := by simp [ordC, ordI_self, ordL_self]
theorem ordC_zero {a b : C} (h : ordC a b = 0) : a = b := by
  unfold ordC at h
  split at h
  · contradiction
  · rename_i h1
    split at h
    · contradiction
    · rename_i h2
      have e1 := ordI_zero (by omega : ordI a.arch b.arch = 0)
      have e2 := ordI_zero (by omega : ordI a.nr b.nr = 0)
      have e3 := ordL_zero h
      cases a; cases b; simp_all
theorem ordC_anti (a b : C) : ordC a b = - ordC b a := by
  unfold ordC
  have h1 := ordI_anti a.arch b.arch
  have h2 := ordI_anti a.nr b.nr
  have h3 := ordL_anti a.args b.args
  repeat' split
  all_goals omega
theorem ordC_trans {a b c : C} (h : ordC a b < 0) (h' : ordC b c < 0) : ordC a c < 0 := by
  unfold ordC at h h' ⊢
  have i1 := @ordI_lt a.arch b.arch
  have i2 := @ordI_lt b.arch c.arch
  have i3 := @ordI_lt a.arch c.arch
  have j1 := @ordI_lt a.nr b.nr
  have j2 := @ordI_lt b.nr c.nr
  have j3 := @ordI_lt a.nr c.nr
  have z1 := @ordI_zero a.arch b.arch
  have z2 := @ordI_zero b.arch c.arch
  have z3 := @ordI_zero a.arch c.arch
  have y1 := @ordI_zero a.nr b.nr
  have y2 := @ordI_zero b.nr c.nr
  have y3 := @ordI_zero a.nr c.nr
  have t := @ordL_trans a.args b.args c.args
  have s1 := ordI_self a.arch
  by_cases hA : ordI a.arch b.arch = 0
  · have eA := z1 hA
    rw [eA] at *
    by_cases hB : ordI b.arch c.arch = 0
    · rw [if_neg (by omega)] at h h' ⊢
      by_cases hC : ordI a.nr b.nr = 0
      · have eC := y1 hC
        rw [eC] at *
        by_cases hD : ordI b.nr c.nr = 0
        · rw [if_neg (by omega)] at h h' ⊢
          exact t h h'
        · rw [if_pos hD] at h' ⊢; exact h'
      · rw [if_pos hC] at h
        have k1 := j1.1 h
        by_cases hD : ordI b.nr c.nr = 0
        · have eD := y2 hD
          rw [← eD, if_pos hC]; exact h
        · rw [if_pos hD] at h'
          have k2 := j2.1 h'
          have k3 := j3.2 (by omega)
          rw [if_pos (by omega)]; exact k3
    · rw [if_pos hB] at h' ⊢; exact h'
  · rw [if_pos hA] at h
    have k1 := i1.1 h
    by_cases hB : ordI b.arch c.arch = 0
    · have eB := z2 hB
      rw [← eB, if_pos hA]; exact h
    · rw [if_pos hB] at h'
      have k2 := i2.1 h'
      have k3 := i3.2 (by omega)
      rw [if_pos (by omega)]; exact k3
theorem ordC_bd (a b : C) : ordC a b = -1 ∨ ordC a b = 0 ∨ ordC a b = 1 := by
  unfold ordC
  split
  · exact ordI_bd _ _
  · split
    · exact ordI_bd _ _
    · exact ordL_bd _ _
theorem ordC_le_lt {a b c : C} (h : ordC a b ≤ 0) (h' : ordC b c < 0) : ordC a c < 0 := by
  by_cases e : ordC a b = 0
  · rw [ordC_zero e]; exact h'
  · exact ordC_trans (by omega) h'
theorem ordC_lt_le {a b c : C} (h : ordC a b < 0) (h' : ordC b c ≤ 0) : ordC a c < 0 := by
  by_cases e : ordC b c = 0
  · rw [← ordC_zero e]; exact h
  · exact ordC_trans h (by omega)
theorem ordC_le_trans {a b c : C} (h : ordC a b ≤ 0) (h' : ordC b c ≤ 0) : ordC a c ≤ 0 := by
  by_cases e : ordC a b = 0
  · rw [ordC_zero e]; exact h'
  · have := ordC_lt_le (a := a) (by omega) h'; omega

/-- each once, ascending -/
def Asc (r : List C) : Prop := r.Pairwise fun a b => ordC a b < 0
/-- the different ones of cs, ascending -/
def IsDist (cs r : List C) : Prop := Asc r ∧ ∀ c, c ∈ r ↔ c ∈ cs

theorem asc_uniq {r s : List C} (h : Asc r) (h' : Asc s) (e : ∀ c, c ∈ r ↔ c ∈ s) : r = s := by
  induction r generalizing s with
  | nil => cases s with
    | nil => rfl
    | cons b s => exact absurd ((e b).2 (by simp)) (by simp)
  | cons a r ih => cases s with
    | nil => exact absurd ((e a).1 (by simp)) (by simp)
    | cons b s =>
      have ha := List.pairwise_cons.1 h
      have hb := List.pairwise_cons.1 h'
      have eab : a = b := by
        have m1 := (e a).1 (by simp)
        have m2 := (e b).2 (by simp)
        simp only [List.mem_cons] at m1 m2
        rcases m1 with m1 | m1
        · exact m1
        · rcases m2 with m2 | m2
          · exact m2.symm
          · have g1 := hb.1 a m1
            have g2 := ha.1 b m2
            have := ordC_anti a b
            omega
      subst eab
      congr 1
      refine ih ha.2 hb.2 fun c => ?_
      constructor
      · intro hc
        have := (e c).1 (by simp [hc])
        simp only [List.mem_cons] at this
        rcases this with rfl | this
        · have := ha.1 c hc; rw [ordC_self] at this; omega
        · exact this
      · intro hc
        have := (e c).2 (by simp [hc])
        simp only [List.mem_cons] at this
        rcases this with rfl | this
        · have := hb.1 c hc; rw [ordC_self] at this; omega
        · exact this
theorem dist_uniq {cs r s : List C} (h : IsDist cs r) (h' : IsDist cs s) : r = s := asc_uniq h.1 h'.1 fun c => (h.2 c).trans (h'.2 c).symm

/-- c behind out, unless it stands there already -/
def pushD (out : List C) (c : C) : List C := if out = [] ∨ ordC (out.getLastD C.zero) c ≠ 0 then out ++ [c] else out
theorem pushD_asc {out : List C} {c : C} (h : Asc out) (hc : ∀ o ∈ out, ordC o c ≤ 0) : Asc (pushD out c) ∧ (∀ d, d ∈ pushD out c ↔ d ∈ out ∨ d = c) := by
  rcases List.eq_nil_or_concat out with rfl | ⟨t, z, rfl⟩
  · simp [pushD, Asc]
  · have hz : (t.concat z).getLastD C.zero = z := by simp
    unfold pushD
    rw [hz]
    by_cases e : ordC z c = 0
    · obtain rfl := ordC_zero e
      rw [if_neg (by simp [e])]
      refine ⟨h, fun d => ⟨fun hd => .inl hd, fun hd => ?_⟩⟩
      rcases hd with hd | rfl
      · exact hd
      · simp
    · rw [if_pos (.inr e)]
      refine ⟨?_, fun d => by simp [or_assoc]⟩
      refine List.pairwise_append.2 ⟨h, by simp, fun a ha b hb => ?_⟩
      simp only [List.mem_singleton] at hb
      subst hb
      have hzc : ordC z b < 0 := by have := hc z (by simp); omega
      simp only [List.concat_eq_append, List.mem_append, List.mem_singleton] at ha
      rcases ha with ha | rfl
      · have h2 : ordC a z < 0 := by
          have := h
          unfold Asc at this
          rw [List.concat_eq_append] at this
          exact (List.pairwise_append.1 this).2.2 a ha z (by simp)
        exact ordC_trans h2 hzc
      · exact hzc

/-- out so far, what is left of x and y: all of it is no less -/
structure Mid (cs out x y : List C) : Prop where
  ao : Asc out
  ax : Asc x
  ay : Asc y
  ox : ∀ a ∈ out, ∀ b ∈ x, ordC a b ≤ 0
  oy : ∀ a ∈ out, ∀ b ∈ y, ordC a b ≤ 0
  mem : ∀ c, c ∈ cs ↔ c ∈ out ∨ c ∈ x ∨ c ∈ y
theorem Mid.left {cs out x y : List C} {a : C} (h : Mid cs out (a :: x) y) (ha : ∀ b ∈ y, ordC a b ≤ 0) : Mid cs (pushD out a) x y := by
  obtain ⟨p1, p2⟩ := pushD_asc h.ao (fun o ho => h.ox o ho a (by simp))
  have hx := List.pairwise_cons.1 h.ax
  refine ⟨p1, hx.2, h.ay, ?_, ?_, ?_⟩
  · intro c hc b hb
    rcases (p2 c).1 hc with hc | rfl
    · exact h.ox c hc b (by simp [hb])
    · have := hx.1 b hb; omega
  · intro c hc b hb
    rcases (p2 c).1 hc with hc | rfl
    · exact h.oy c hc b hb
    · exact ha b hb
  · intro c
    rw [h.mem c, p2 c]
    simp only [List.mem_cons]
    constructor
    · rintro (g | (g | g) | g)
      · exact .inl (.inl g)
      · exact .inl (.inr g)
      · exact .inr (.inl g)
      · exact .inr (.inr g)
    · rintro ((g | g) | g | g)
      · exact .inl g
      · exact .inr (.inl (.inl g))
      · exact .inr (.inl (.inr g))
      · exact .inr (.inr g)
theorem Mid.swap {cs out x y : List C} (h : Mid cs out x y) : Mid cs out y x :=
  ⟨h.ao, h.ay, h.ax, h.oy, h.ox, fun c => by rw [h.mem c]; constructor <;> (rintro (g | g | g) <;> simp [g])⟩
theorem Mid.done {cs out : List C} (h : Mid cs out [] []) : IsDist cs out := ⟨h.ao, fun c => by rw [h.mem c]; simp⟩
/-- two heads: the smaller one goes on -/
theorem asc_head {y : List C} {a b : C} (hy : Asc (b :: y)) (h : ordC a b ≤ 0) : ∀ c ∈ b :: y, ordC a c ≤ 0 := by
  intro c hc
  simp only [List.mem_cons] at hc
  rcases hc with rfl | hc
  · exact h
  · have := (List.pairwise_cons.1 hy).1 c hc
    have := ordC_le_lt h this; omega
theorem Mid.start {u v x y : List C} (hx : IsDist u x) (hy : IsDist v y) : Mid (u ++ v) [] x y :=
  ⟨List.Pairwise.nil, hx.1, hy.1, by simp, by simp, fun c => by simp [hx.2 c, hy.2 c]⟩

/-- of a list in order, each once -/
theorem fold_push {l : List C} (hl : l.Pairwise fun a b => ordC a b ≤ 0) : IsDist l (l.foldl pushD []) := by
  have key : ∀ (l out cs : List C), (l.Pairwise fun a b => ordC a b ≤ 0) → Asc out → (∀ a ∈ out, ∀ b ∈ l, ordC a b ≤ 0) → (∀ c, c ∈ cs ↔ c ∈ out ∨ c ∈ l) → IsDist cs (l.foldl pushD out) := by
    intro l
    induction l with
    | nil => intro out cs _ h2 _ h4; exact ⟨h2, fun c => by rw [h4 c]; simp⟩
    | cons a l ih =>
      intro out cs h1 h2 h3 h4
      have g := List.pairwise_cons.1 h1
      obtain ⟨p1, p2⟩ := pushD_asc h2 (fun o ho => h3 o ho a (by simp))
      refine ih (pushD out a) cs g.2 p1 ?_ ?_
      · intro c hc b hb
        rcases (p2 c).1 hc with hc | rfl
        · exact h3 c hc b (by simp [hb])
        · exact g.1 b hb
      · intro c
        rw [h4 c, p2 c]
        simp only [List.mem_cons]
        constructor
        · rintro (q | q | q)
          · exact .inl (.inl q)
          · exact .inl (.inr q)
          · exact .inr q
        · rintro ((q | q) | q)
          · exact .inl q
          · exact .inr (.inl q)
          · exact .inr (.inr q)
  exact key l [] l hl List.Pairwise.nil (by simp) (by simp)
theorem dist_perm {cs l r : List C} (h : IsDist l r) (hp : ∀ c, c ∈ l ↔ c ∈ cs) : IsDist cs r := ⟨h.1, fun c => (h.2 c).trans (hp c)⟩
end Go.Proofs.YtjbbiailhpkdeaaDoor
namespace Go.Proofs.YtjbbiailhpkdeaaDoor
open Go.RowKit
set_option linter.unusedVariables false

theorem ordI_neg {x y : Int} (h : x < y) : ordI x y = -1 := by unfold ordI; rw [if_pos h]
theorem ordI_pos {x y : Int} (h : y < x) : ordI x y = 1 := by unfold ordI; rw [if_neg (by omega), if_pos h]
theorem ordI_same {x y : Int} (h : x = y) : ordI x y = 0 := by unfold ordI; rw [if_neg (by omega), if_neg (by omega)]
/-- lists from number i on -/
theorem ordL_step {l m : List Int} {i : Nat} (hl : i < l.length) (hm : i < m.length) : ordL (l.drop i) (m.drop i) = if ordI (l.getD i 0) (m.getD i 0) = 0 then ordL (l.drop (i + 1)) (m.drop (i + 1)) else ordI (l.getD i 0) (m.getD i 0) := by
  rw [List.drop_eq_getElem_cons hl, List.drop_eq_getElem_cons hm, ordL]
  simp [List.getD_eq_getElem?_getD, hl, hm]
theorem ordL_out1 {l m : List Int} {i : Nat} (hl : l.length ≤ i) (hm : i < m.length) : ordL (l.drop i) (m.drop i) = -1 := by
  rw [List.drop_eq_nil_of_le hl, List.drop_eq_getElem_cons hm]; rfl
theorem ordL_out2 {l m : List Int} {i : Nat} (hl : i < l.length) (hm : m.length ≤ i) : ordL (l.drop i) (m.drop i) = 1 := by
  rw [List.drop_eq_nil_of_le hm, List.drop_eq_getElem_cons hl]; rfl
theorem ordL_out {l m : List Int} {i : Nat} (hl : l.length ≤ i) (hm : m.length ≤ i) : ordL (l.drop i) (m.drop i) = 0 := by
  rw [List.drop_eq_nil_of_le hm, List.drop_eq_nil_of_le hl]; rfl
theorem USrc.at {w : World} {a : Option Addr} {l : List Int} (h : USrc w a l) (i : Nat) (hi : i < l.length) : ∃ b o, a = some ⟨b, o, none⟩ ∧ b < w.heap.size ∧ w.cell? ⟨b, o + i, none⟩ = some (.int .u64 (l.getD i 0)) := by
  rcases h with rfl | ⟨b, o, ha, hb, hp⟩
  · simp at hi
  · exact ⟨b, o, ha, hb, hp i hi⟩
theorem isU64_getD {l : List Int} (h : ∀ v ∈ l, isU64 v) (i : Nat) : isU64 (l.getD i 0) := by
  by_cases hi : i < l.length
  · exact h _ (by rw [List.getD_eq_getElem?_getD, List.getElem?_eq_getElem hi]; exact List.getElem_mem hi)
  · rw [List.getD_eq_getElem?_getD, List.getElem?_eq_none (by omega)]; exact ⟨by decide, by decide⟩

end Go.Proofs.YtjbbiailhpkdeaaDoor
namespace Go.Proofs.YtjbbiailhpkdeaaDoor
open Go.RowKit
set_option linter.unusedVariables false

theorem ordC_arch {a b : C} (h : a.arch ≠ b.arch) : ordC a b = ordI a.arch b.arch := by
  unfold ordC; rw [if_pos (fun e => h (ordI_zero e))]
theorem ordC_nr {a b : C} (h : a.arch = b.arch) (h2 : a.nr ≠ b.nr) : ordC a b = ordI a.nr b.nr := by
  unfold ordC; rw [if_neg (by rw [h, ordI_self]; simp), if_pos (fun e => h2 (ordI_zero e))]
theorem ordC_args {a b : C} (h : a.arch = b.arch) (h2 : a.nr = b.nr) : ordC a b = ordL a.args b.args := by
  unfold ordC; rw [if_neg (by rw [h, ordI_self]; simp), if_neg (by rw [h2, ordI_self]; simp)]

end Go.Proofs.YtjbbiailhpkdeaaDoor
namespace Go.Proofs.YtjbbiailhpkdeaaDoor
open Go.RowKit
set_option linter.unusedVariables false

theorem longs_one (l : List Int) : ∀ u ∈ l.map (Value.int .u64), u.oneCell' = true := ints_oneCell .u64 l

set_option maxRecDepth 100000 in
set_option maxHeartbeats 1000000 in
theorem l2copy_any (c : C) (a : Option Addr) (cap : Nat) (w : World) (h : USrc w a c.args) (hn : c.args.length ≤ 16777216) :
    Calls Tryd.prog 45 #[callV c (.slice a c.args.length cap)] w fun e w' => ∃ v', e = .returned (callV c v') ∧ ownsU w' w.heap.size v' c.args ∧ Below w.heap.size w w' := by
  obtain ⟨i0, hi, hz0, hz1, hz2⟩ := info_parts info61
  obtain ⟨ar, nr, l⟩ := c
  simp only at h hn ⊢
  have X := (Box3.new w 34 (.int .u32 ar) (.int .u32 nr) (.slice a l.length cap)).alloc (.cells #[.int .u32 0, .int .u32 0, .slice none 0 0] 34)
  have Y := Box3.new (w.alloc (.cells #[.int .u32 ar, .int .u32 nr, .slice a l.length cap] 34)) 34 (.int .u32 0) (.int .u32 0) (.slice none 0 0)
  have hsz : (w.alloc (.cells #[.int .u32 ar, .int .u32 nr, .slice a l.length cap] 34)).heap.size = w.heap.size + 1 := by simp
  have B0 : Below w.heap.size w ((w.alloc (.cells #[.int .u32 ar, .int .u32 nr, .slice a l.length cap] 34)).alloc (.cells #[.int .u32 0, .int .u32 0, .slice none 0 0] 34)) := ((Below.refl _ _).alloc (Nat.le_refl _) _).alloc (by simp) _
  rw [hsz] at Y
  clear hsz
  have HU : Hid (∀ w1, Below w.heap.size w w1 → USrc w1 a l) := fun w1 hB => h.below hB
  cases a with
  | none =>
    have hl : l = [] := by
      rcases h with h | ⟨b, o, h, _⟩
      · exact h
      · cases h
    subst hl
    have hap : ∀ u : World, (Builtin.append_ #[32, 32] 32 #[.slice none 0 0, .slice none 0 cap]).run Tryd.prog u = .ok (.slice none 0 0) u := fun u => by
      simp [Builtin.append_, run_underlying Tryd.underlying32, sizeOf, typeInfo, hi, Builtin.lenOf, Builtin.firstCells]
    obtain ⟨_, p0, p1, p2, _, _, _⟩ := X
    obtain ⟨_, r0, r1, r2, s0, s1, s2⟩ := Y
    simp only [List.length_nil] at *
    clear HU h
    go_enter Tryd.func45, Tryd.ntmps45
    go_wp2
    refine bodyPost_ret (v := callV ⟨ar, nr, []⟩ (.slice none 0 0)) (by simp [results, Tryd.results45, go_sem]) rfl ⟨_, rfl, ?_, ?_⟩
    · exact World.ownsRow_nil _ _ _ _
    · exact ((Below.refl _ _).alloc (Nat.le_refl _) _).alloc (by simp) _
  | some ad =>
    have hcell : ∀ w1, Below w.heap.size w w1 → ∀ j u, (l.map (Value.int .u64))[j]? = some u → w1.cell? (ad.add j) = some u := by
      intro w1 hB j u hj
      rcases HU.out w1 hB with hl | ⟨b, o, ha, hb, hp⟩
      · subst hl; simp at hj
      · obtain rfl : ad = ⟨b, o, none⟩ := by simpa using ha
        have hjl : j < l.length := by
          have := (List.getElem?_eq_some_iff.1 hj).1
          simpa using this
        rw [add_at, hp j hjl]
        rw [List.getElem?_map, List.getElem?_eq_getElem hjl] at hj
        rw [List.getD_eq_getElem?_getD, List.getElem?_eq_getElem hjl]
        simpa using hj
    have HCe : Hid _ := hcell _ B0
    clear hcell h HU
    go_enter Tryd.func45, Tryd.ntmps45
    go_wp2_with (at_builtin; refine wpList_append_own _ rfl (.tmp 4) (.tmp 6) 32 rfl (w.heap.size + 1 + 1) 44 i0 (.int .u64 0) 1 8 Tryd.underlying32 hi hz0 hz1 hz2 rfl (by decide) (.slice none 0 0) 0 [] rfl (World.ownsRow_nil _ _ _ _) ad l.length cap (l.map (Value.int .u64)) rfl ?c0 HCe.out (longs_one l) ?c3 ?c4 ?c5 ?_)
    case c0 => simp
    case c3 => unfold maxLen; omega
    case c4 => omega
    case c5 => simp
    intro v1 w1 ow gr _
    have o1 : ownsU w1 (w.heap.size + 1 + 1) v1 l := ow
    have b1 : Below ((w.alloc (.cells #[.int .u32 ar, .int .u32 nr, .slice (some ad) l.length cap] 34)).alloc (.cells #[.int .u32 0, .int .u32 0, .slice none 0 0] 34)).heap.size ((w.alloc (.cells #[.int .u32 ar, .int .u32 nr, .slice (some ad) l.length cap] 34)).alloc (.cells #[.int .u32 0, .int .u32 0, .slice none 0 0] 34)) w1 := (Below.refl _ _).grown gr (Nat.le_refl _) (fun q hq => by cases hq)
    have X1 := X.keep b1
    have Y1 := Y.keep b1
    have B1 := B0.trans (b1.mono B0.size)
    obtain ⟨ax, cx, hv, _⟩ := ownsU_src o1
    subst hv
    have hq : ∀ q, (Value.slice ax l.length cx).ownBlock = some q → w.heap.size + 1 + 1 ≤ q := fun q hq => (o1.lt q hq).1
    clear ow gr b1 X Y HCe B0
    obtain ⟨_, p0, p1, p2, _, _, _⟩ := X1
    obtain ⟨_, r0, r1, r2, s0, s1, s2⟩ := Y1
    go_wp2
    refine bodyPost_ret (v := callV ⟨ar, nr, l⟩ (.slice ax l.length cx)) (by simp [results, Tryd.results45, go_sem, r0, r1, r2]) rfl ⟨_, rfl, ?_, ?_⟩
    · refine ownsU_set (ownsU_set (ownsU_set (ownsU_mono o1 (by omega)) ?_) ?_) ?_
      all_goals (intro q h2; have := hq q h2; omega)
    · refine ((B1.setCell ?_ _).setCell ?_ _).setCell ?_ _
      all_goals (simp only; omega)
end Go.Proofs.YtjbbiailhpkdeaaDoor
namespace Go.Proofs.YtjbbiailhpkdeaaDoor
open Go.RowKit
set_option linter.unusedVariables false

/-- the cells of one call; of calls with the values of their arguments -/
def cC (p : C × Value) : List Value := [.int .u32 p.1.arch, .int .u32 p.1.nr, p.2]
def cCs (os : List (C × Value)) : List Value := os.flatMap cC
abbrev ownsP (w : World) (base : Nat) (v : Value) (os : List (C × Value)) : Prop := w.ownsRow base 34 3 v os.length (cCs os)
/-- the arguments of a call lie where its value says -/
def good (w : World) (p : C × Value) : Prop := ∃ a cap, p.2 = .slice a p.1.args.length cap ∧ USrc w a p.1.args
theorem good.below {w w1 : World} {p : C × Value} (h : good w p) (hb : Below w.heap.size w w1) : good w1 p := by
  obtain ⟨a, cap, e, hs⟩ := h
  exact ⟨a, cap, e, hs.below hb⟩
theorem cCs_len (os : List (C × Value)) : (cCs os).length = os.length * 3 := by
  induction os with
  | nil => rfl
  | cons p os ih => simp only [cCs, List.flatMap_cons, List.length_append, List.length_cons] at *; simp only [cC, List.length_cons, List.length_nil]; omega
theorem cCs_get (os : List (C × Value)) (i : Nat) (h : i < os.length) : (cCs os)[i * 3]? = some (.int .u32 (os.getD i (C.zero, undef)).1.arch) ∧ (cCs os)[i * 3 + 1]? = some (.int .u32 (os.getD i (C.zero, undef)).1.nr) ∧ (cCs os)[i * 3 + 2]? = some (os.getD i (C.zero, undef)).2 := by
  induction os generalizing i with
  | nil => simp at h
  | cons x p ih =>
    have e : cCs (x :: p) = cC x ++ cCs p := by simp [cCs]
    have hl : (cC x).length = 3 := rfl
    rw [e]
    match i with
    | 0 => simp [cC]
    | i + 1 =>
      have hi : i < p.length := by simpa using h
      have := ih i hi
      rw [List.getElem?_append_right (by rw [hl]; omega), List.getElem?_append_right (by rw [hl]; omega), List.getElem?_append_right (by rw [hl]; omega), hl]
      rw [show (i + 1) * 3 - 3 = i * 3 by omega, show (i + 1) * 3 + 1 - 3 = i * 3 + 1 by omega, show (i + 1) * 3 + 2 - 3 = i * 3 + 2 by omega]
      simpa using this
theorem ownsP_snoc {w : World} {base : Nat} {v : Value} {os : List (C × Value)} {p : C × Value} {n : Nat} (hn : n = os.length + 1) (h : w.ownsRow base 34 3 v n (cCs os ++ cC p)) : ownsP w base v (os ++ [p]) := by
  subst hn
  simpa [ownsP, cCs] using h
theorem ownsP_below {w w1 : World} {base : Nat} {v : Value} {os : List (C × Value)} (h : ownsP w base v os) (hb : Below w.heap.size w w1) : ownsP w1 base v os :=
  World.ownsRow.kept (row := none) h ⟨hb.os, hb.tape, hb.output, hb.size, fun k hk _ => hb.block k hk⟩ (by cases v.ownBlock <;> simp)
/-- such a row is a list of calls in memory -/
theorem ownsP_src {w : World} {base : Nat} {v : Value} {os : List (C × Value)} (h : ownsP w base v os) (hg : ∀ p ∈ os, good w p) : ∃ a cap, v = .slice a os.length cap ∧ os.length ≤ cap ∧ CSrc w a (os.map Prod.fst) := by
  obtain ⟨h0, h | ⟨g, cap, cur, rfl, hb, hgc, hn, hm, hs, hx⟩⟩ := h
  · obtain ⟨rfl, hl⟩ := h
    have : os = [] := List.eq_nil_of_length_eq_zero hl
    subst this
    exact ⟨none, 0, rfl, Nat.le_refl _, .inl rfl⟩
  · refine ⟨_, _, rfl, hn, .inr ⟨g, 0, rfl, (Array.getElem?_eq_some_iff.1 hgc).1, fun i hi => ?_⟩⟩
    have hi' : i < os.length := by simpa using hi
    have key : ∀ j u, j < os.length * 3 → (cCs os)[j]? = some u → w.cell? ⟨g, 0 + j, none⟩ = some u := by
      intro j u hj hu
      rw [← hx, List.getElem?_take, if_pos hj] at hu
      simp only [World.cell?, hgc, Nat.zero_add]
      simpa using hu
    obtain ⟨c0, c1, c2⟩ := cCs_get os i hi'
    have em : (os.map Prod.fst).getD i C.zero = (os.getD i (C.zero, undef)).1 := by
      simp [List.getD_eq_getElem?_getD, hi']
    have hmem : os.getD i (C.zero, undef) ∈ os := by rw [List.getD_eq_getElem?_getD, List.getElem?_eq_getElem hi']; exact List.getElem_mem hi'
    obtain ⟨a, c, e, hu⟩ := hg _ hmem
    rw [em]
    rw [e] at c2
    refine ⟨?_, ?_, a, c, ?_, hu⟩
    · exact key _ _ (by omega) c0
    · rw [Nat.add_assoc]; exact key _ _ (by omega) c1
    · rw [Nat.add_assoc]; exact key _ _ (by omega) c2
theorem cC_one {p : C × Value} {a : Option Addr} {n cap : Nat} (h : p.2 = .slice a n cap) : ∀ u ∈ cC p, u.oneCell' = true := by
  intro u hu
  simp only [cC, List.mem_cons, List.not_mem_nil, or_false] at hu
  rcases hu with rfl | rfl | rfl
  · rfl
  · rfl
  · rw [h]; rfl
theorem isDist_nil : IsDist [] [] := ⟨List.Pairwise.nil, fun c => Iff.rfl⟩
theorem isDist_one (c : C) : IsDist [c] [c] := ⟨List.pairwise_singleton _ _, fun c => Iff.rfl⟩

end Go.Proofs.YtjbbiailhpkdeaaDoor
namespace Go.Proofs.YtjbbiailhpkdeaaDoor
open Go.RowKit
set_option linter.unusedVariables false

end Go.Proofs.YtjbbiailhpkdeaaDoor
namespace Go.Proofs.YtjbbiailhpkdeaaDoor
open Go.RowKit
set_option linter.unusedVariables false

/-- the cells of instructions -/
def insC (x : I) : List Value := [.int .u16 x.c, .int .u8 x.jt, .int .u8 x.jf, .int .u32 x.k]
def insCells (p : List I) : List Value := p.flatMap insC
theorem insCells_len (p : List I) : (insCells p).length = p.length * 4 := by
  induction p with
  | nil => rfl
  | cons x p ih => simp only [insCells, List.flatMap_cons, List.length_append, List.length_cons] at *; simp only [insC, List.length_cons, List.length_nil]; omega

theorem dec_bytes {w : World} {b o k n : Nat} {l : List Int} (h : BytesAt w b o l) (hl : isBytes l) (hk : k * 8 + 8 ≤ l.length) :
    (∀ j, j < 8 → w.cell? ⟨b, o + k * 8 + j, none⟩ = some (.int .u8 (l.getD (k * 8 + j) 0))) ∧ ∀ j, 0 ≤ l.getD j 0 ∧ l.getD j 0 ≤ 255 :=
  ⟨fun j hj => by rw [Nat.add_assoc]; exact h (k * 8 + j) (by omega), fun j => isBytes_getD hl j⟩

theorem decBad_true {l : List Int} (h : decBad l = true) : l.length % 8 ≠ 0 ∨ 32768 < l.length := by
  simpa [decBad] using h

theorem decBad_false {l : List Int} (h : ¬ decBad l = true) : l.length % 8 = 0 ∧ l.length ≤ 32768 := by
  simpa [decBad] using h

end Go.Proofs.YtjbbiailhpkdeaaDoor
namespace Go.Proofs.YtjbbiailhpkdeaaDoor
open Go.RowKit
set_option linter.unusedVariables false

set_option maxHeartbeats 2000000 in
theorem l1number_at (b o cap : Nat) (l : List Int) (w : World) (hp : BytesAt w b o l) (hl : isBytes l) (hn : l.length ≤ 8) :
    Calls Tryd.prog 25 #[.slice (some ⟨b, o, none⟩) l.length cap] w fun e w' => e = .returned (.int .u64 (numL l)) ∧ w' = w := by
  have HB : Hid (∀ k, 0 ≤ numL (l.drop k) ∧ numL (l.drop k) ≤ 18446744073709551615) := fun k => numL_bd8 (isBytes_drop hl k) (by rw [List.length_drop]; omega)
  have HS : Hid (∀ k, k < l.length → numL (l.drop k) = l.getD k 0 + 256 * numL (l.drop (k + 1))) := fun k h => numL_drop h
  have HG : Hid (∀ k, 0 ≤ l.getD k 0 ∧ l.getD k 0 ≤ 255) := fun k => isBytes_getD hl k
  have HE : Hid (numL (l.drop l.length) = 0) := by unfold Hid; rw [List.drop_length]; rfl
  have H0 : Hid (numL (l.drop 0) = numL l) := rfl
  have HP : Hid (BytesAt w b o l) := hp
  obtain ⟨V, hV⟩ : ∃ V : Nat → Int, ∀ k, numL (l.drop k) = V k := ⟨fun k => numL (l.drop k), fun _ => rfl⟩
  obtain ⟨n, hn'⟩ : ∃ n, l.length = n := ⟨_, rfl⟩
  have HN : Hid (l.length = n) := hn'
  simp only [hV, hn'] at HB HS HE H0 hn ⊢
  generalize numL l = R at *
  clear hp hl hV hn'
  go_enter Tryd.func25, Tryd.ntmps25
  go_wp2_with fail
  go_loop [3, 4] (fun q i => ∃ k : Nat, k ≤ n ∧ i = .int .i64 (k - 1) ∧ ∃ v, q = .int .u64 v ∧ Hid (v = V k)) (fun _ i => (intOf i + 1).toNat)
  case atStart => exact ⟨n, Nat.le_refl _, rfl, 0, rfl, HE.out.symm⟩
  case round =>
    obtain ⟨k, hk, rfl, v, rfl, hv⟩ := hrel
    by_cases hlt : 1 ≤ k
    · obtain ⟨j, rfl⟩ : ∃ j, k = j + 1 := ⟨k - 1, by omega⟩
      have c := HP.out j (by rw [HN.out]; omega)
      have s := HS.out j (by omega)
      have bj := HB.out j
      have bk := HB.out (j + 1)
      have g := HG.out j
      rw [← hv.out] at s bk
      have S : Hid (V j = l.getD j 0 + 256 * v) := s
      rw [s] at bj
      clear HP HB HG HS s hv
      generalize l.getD j 0 = x at *
      go_wp2
      go_round
      case rel => exact ⟨j, by omega, rfl, _, rfl, (by rw [S.out]; omega : v * 256 + x = V j)⟩
      case measure => simp [intOf]
    · go_wp2
      go_ret
      have : k = 0 := by omega
      subst this
      exact ⟨ret_int (hv.out.trans H0.out), rfl⟩

/-- the eight bytes of one instruction -/
def Eight (b o K : Nat) (x0 x1 x2 x3 x4 x5 x6 x7 : Int) (w : World) : Prop :=
  w.cell? ⟨b, o + K, none⟩ = some (.int .u8 x0) ∧ w.cell? ⟨b, o + K + 1, none⟩ = some (.int .u8 x1) ∧ w.cell? ⟨b, o + (K + 2), none⟩ = some (.int .u8 x2) ∧ w.cell? ⟨b, o + (K + 3), none⟩ = some (.int .u8 x3) ∧
  w.cell? ⟨b, o + (K + 4), none⟩ = some (.int .u8 x4) ∧ w.cell? ⟨b, o + (K + 4) + 1, none⟩ = some (.int .u8 x5) ∧ w.cell? ⟨b, o + (K + 4) + 2, none⟩ = some (.int .u8 x6) ∧ w.cell? ⟨b, o + (K + 4) + 3, none⟩ = some (.int .u8 x7)

theorem two_four (b o K : Nat) (x0 x1 x2 x3 x4 x5 x6 x7 : Int) (h0 : 0 ≤ x0 ∧ x0 ≤ 255) (h1 : 0 ≤ x1 ∧ x1 ≤ 255) (h4 : 0 ≤ x4 ∧ x4 ≤ 255) (h5 : 0 ≤ x5 ∧ x5 ≤ 255) (h6 : 0 ≤ x6 ∧ x6 ≤ 255) (h7 : 0 ≤ x7 ∧ x7 ≤ 255)
    (wx : World) (n q cp : Nat) (ho : (n = 2 ∧ q = o + K) ∨ (n = 4 ∧ q = o + (K + 4))) (hw : Eight b o K x0 x1 x2 x3 x4 x5 x6 x7 wx) :
    Calls Tryd.prog 25 #[.slice (some ⟨b, q, none⟩) n cp] wx fun e w' => e = .returned (.int .u64 (if n = 2 then x0 + 256 * x1 else x4 + 256 * x5 + 65536 * x6 + 16777216 * x7)) ∧ w' = wx := by
  obtain ⟨c0, c1, c2, c3, c4, c5, c6, c7⟩ := hw
  rcases ho with ⟨rfl, rfl⟩ | ⟨rfl, rfl⟩
  · refine (l1number_at b (o + K) cp [x0, x1] wx (fun i hi => ?_) (fun x hx => ?_) (by simp)).mono ?_
    · match i, hi with
      | 0, _ => exact c0
      | 1, _ => exact c1
    · simp at hx; rcases hx with rfl | rfl <;> assumption
    · rintro e w' ⟨rfl, rfl⟩
      exact ⟨ret_int (by simp [numL]), rfl⟩
  · refine (l1number_at b (o + (K + 4)) cp [x4, x5, x6, x7] wx (fun i hi => ?_) (fun x hx => ?_) (by simp)).mono ?_
    · match i, hi with
      | 0, _ => exact c4
      | 1, _ => exact c5
      | 2, _ => exact c6
      | 3, _ => exact c7
    · simp at hx; rcases hx with rfl | rfl | rfl | rfl <;> assumption
    · rintro e w' ⟨rfl, rfl⟩
      exact ⟨ret_int (by simp [numL]; omega), rfl⟩

end Go.Proofs.YtjbbiailhpkdeaaDoor
namespace Go.Proofs.YtjbbiailhpkdeaaDoor
open Go.RowKit
set_option linter.unusedVariables false

/-- calls in a row that grows, each with arguments of its own -/
structure McS (w : World) (B : Nat) (v : Value) (os : List (C × Value)) : Prop where
  row : ownsP w B v os
  own : ∀ p ∈ os, ownsU w B p.2 p.1.args
theorem McS.below {w w1 : World} {B : Nat} {v : Value} {os : List (C × Value)} (h : McS w B v os) (hb : Below w.heap.size w w1) : McS w1 B v os :=
  ⟨ownsP_below h.row hb, fun p hp => ownsU_below (h.own p hp) hb⟩
theorem McS.push {w w1 : World} {B : Nat} {v v' : Value} {os : List (C × Value)} {p : C × Value} {o : Obj} (h : McS w B v os) (hp : ownsU w B p.2 p.1.args) (hg : (w.alloc o).grownBy w1 v.ownBlock) (hr : ownsP w1 B v' (os ++ [p])) : McS w1 B v' (os ++ [p]) := by
  refine ⟨hr, fun q hq => ?_⟩
  have key : ownsU w B q.2 q.1.args → ownsU w1 B q.2 q.1.args := fun hu => World.ownsRow.kept (World.ownsRow.alloc hu o) hg (rows_apart hu h.row (by decide))
  rcases List.mem_append.1 hq with h1 | h1
  · exact key (h.own q h1)
  · simp at h1
    subst h1
    exact key hp
theorem McS.src {w : World} {B : Nat} {v : Value} {os : List (C × Value)} (h : McS w B v os) : ∃ a cap, v = .slice a os.length cap ∧ os.length ≤ cap ∧ CSrc w a (os.map Prod.fst) :=
  ownsP_src h.row (fun p hp => ownsU_src (h.own p hp))

/-- what the model's DecodeLog leaves -/
def SDecPost (B : List Int) (w : World) (e : Ending) (w' : World) : Prop :=
  ∃ cs code a ad cap, decLog B = (cs, code, a) ∧ e = .returned (.tuple #[.slice ad cs.length cap, .int .i64 code, .int .i64 (a : Int)]) ∧ CSrc w' ad cs ∧ Below w.heap.size w w'
theorem SDecPost.bad {B : List Int} {w w' : World} {c : Int} {a : Nat} (h : decLog B = ([], c, a)) (hb : Below w.heap.size w w') : SDecPost B w (.returned (.tuple #[.slice none 0 0, .int .i64 c, .int .i64 (a : Int)])) w' :=
  ⟨[], c, a, none, 0, h, rfl, .inl rfl, hb⟩
theorem SDecPost.good {B : List Int} {w w' : World} {V : Nat} {v : Value} {os : List (C × Value)} (h : decLog B = (os.map Prod.fst, 0, 0)) (hm : McS w' V v os) (hb : Below w.heap.size w w') : SDecPost B w (.returned (.tuple #[v, .int .i64 0, .int .i64 0])) w' := by
  obtain ⟨a, cap, e, _, hs⟩ := hm.src
  exact ⟨_, 0, 0, a, cap, h, by rw [e]; simp, hs, hb⟩
end Go.Proofs.YtjbbiailhpkdeaaDoor
