/-
  CallL, MathO, Ord, PolB
-/
import Derived.Test.YtoopomjkapeknaaQ15
import Derived.Deep.RegionWith
import Derived.Test.YtoopomjkapeknaaQ07
import Derived.Deep.QuietTactic
import Derived.BigQuiet
import Derived.Test.YtoopomjkapeknaaQ06
namespace Go.Proofs.Ytoopomjkapeknaa
open Go.RowKit
set_option linter.unusedVariables false

def tot : List C → Nat
  | [] => 0
  | c :: r => c.args.length + tot r
theorem tot_take_succ {cs : List C} {k : Nat} (h : k < cs.length) : tot (cs.take (k + 1)) = tot (cs.take k) + (cs.getD k C.zero).args.length := by
  induction cs generalizing k with
  | nil => simp at h
  | cons c r ih =>
    cases k with
    | zero => simp [tot]
    | succ k =>
      have := ih (k := k) (by simpa using h)
      simp only [List.take_succ_cons, tot, List.getD_cons_succ] at *
      omega
theorem tot_take_le (cs : List C) (k : Nat) : tot (cs.take k) ≤ tot cs := by
  induction cs generalizing k with
  | nil => simp
  | cons c r ih =>
    cases k with
    | zero => simp [tot]
    | succ k => have := ih k; simp only [List.take_succ_cons, tot]; omega
theorem tot_mem {cs : List C} {c : C} (h : c ∈ cs) : c.args.length ≤ tot cs := by
  induction cs with
  | nil => simp at h
  | cons d r ih =>
    simp only [List.mem_cons] at h
    rcases h with rfl | h
    · simp [tot]
    · have := ih h; simp [tot]; omega
theorem callL_mem {cs : List C} {i : Nat} (hi : i < cs.length) : cs.getD i C.zero ∈ cs := by
  rw [List.getD_eq_getElem?_getD, List.getElem?_eq_getElem hi]; exact List.getElem_mem hi
theorem getD_take {cs : List C} {i k : Nat} (h : i < k) : (cs.take k).getD i C.zero = cs.getD i C.zero := by
  simp [List.getD_eq_getElem?_getD, h]

/-- the cells of call i -/
theorem CSrc.at {w : World} {a : Option Addr} {cs : List C} (hs : CSrc w a cs) (i : Nat) (hi : i < cs.length) : ∃ b o, a = some ⟨b, o, none⟩ ∧ b < w.heap.size ∧ w.cell? ⟨b, o + i * 3, none⟩ = some (.int .u32 (cs.getD i C.zero).arch) ∧ w.cell? ⟨b, o + i * 3 + 1, none⟩ = some (.int .u32 (cs.getD i C.zero).nr) ∧
      ∃ a' cap', w.cell? ⟨b, o + i * 3 + 2, none⟩ = some (.slice a' (cs.getD i C.zero).args.length cap') ∧ USrc w a' (cs.getD i C.zero).args := by
  rcases hs with rfl | ⟨b, o, h1, h2, h3⟩
  · simp at hi
  · obtain ⟨c0, c1, a', cap', c2, hu⟩ := h3 i hi
    exact ⟨b, o, h1, h2, c0, c1, a', cap', c2, hu⟩

end Go.Proofs.Ytoopomjkapeknaa
namespace Go.Proofs.Ytoopomjkapeknaa
set_option linter.unusedVariables false

def ordI (a b : Int) : Int := if a < b then -1 else if b < a then 1 else 0
def ordL : List Int → List Int → Int
  | [], [] => 0
  | [], _ :: _ => -1
  | _ :: _, [] => 1
  | a :: r, b :: s => if ordI a b = 0 then ordL r s else ordI a b
def ordC (a b : C) : Int := if ordI a.arch b.arch ≠ 0 then ordI a.arch b.arch else if ordI a.nr b.nr ≠ 0 then ordI a.nr b.nr else ordL a.args b.args

theorem ordI_anti (a b : Int) : ordI a b = - ordI b a := by unfold ordI; split <;> split <;> (try split) <;> omega
theorem ordI_zero {a b : Int} (h : ordI a b = 0) : a = b := by unfold ordI at h; split at h <;> (try split at h) <;> omega
theorem ordI_self (a : Int) : ordI a a = 0 := by unfold ordI; simp
theorem ordI_lt {a b : Int} : ordI a b < 0 ↔ a < b := by unfold ordI; split <;> (try split) <;> omega
theorem ordI_bd (a b : Int) : ordI a b = -1 ∨ ordI a b = 0 ∨ ordI a b = 1 := by unfold ordI; split <;> (try split) <;> omega
theorem ordL_self (l : List Int) : ordL l l = 0 := by
  induction l with
  | nil => rfl
  | cons a r ih => simp [ordL, ordI_self, ih]
theorem ordL_zero {l m : List Int} (h : ordL l m = 0) : l = m := by
  induction l generalizing m with
  | nil => cases m with
    | nil => rfl
    | cons => simp [ordL] at h
  | cons a r ih => cases m with
    | nil => simp [ordL] at h
    | cons b s =>
      unfold ordL at h
      split at h
      · rename_i h0; rw [ordI_zero h0, ih h]
      · exact absurd h (by assumption)
theorem ordL_anti (l m : List Int) : ordL l m = - ordL m l := by
  induction l generalizing m with
  | nil => cases m <;> simp [ordL]
  | cons a r ih => cases m with
    | nil => simp [ordL]
    | cons b s =>
      unfold ordL
      have := ordI_anti a b
      by_cases h : ordI a b = 0
      · rw [if_pos h, if_pos (by omega), ih s]
      · rw [if_neg h, if_neg (by omega)]; exact this
theorem ordL_trans {l m n : List Int} (h : ordL l m < 0) (h' : ordL m n < 0) : ordL l n < 0 := by
  induction l generalizing m n with
  | nil => cases m with
    | nil => simp [ordL] at h
    | cons b s => cases n with
      | nil => simp [ordL] at h'
      | cons => simp [ordL]
  | cons a r ih => cases m with
    | nil => simp [ordL] at h
    | cons b s => cases n with
      | nil => simp [ordL] at h'
      | cons c t =>
        unfold ordL at h h' ⊢
        by_cases e1 : ordI a b = 0
        · rw [if_pos e1] at h
          obtain rfl := ordI_zero e1
          by_cases e2 : ordI a c = 0
          · rw [if_pos e2] at h' ⊢; exact ih h h'
          · rw [if_neg e2] at h' ⊢; exact h'
        · rw [if_neg e1] at h
          by_cases e2 : ordI b c = 0
          · obtain rfl := ordI_zero e2
            rw [if_neg e1]; exact h
          · rw [if_neg e2] at h'
            have h1 := ordI_lt.1 h
            have h2 := ordI_lt.1 h'
            have h3 : ordI a c < 0 := ordI_lt.2 (by omega)
            rw [if_neg (by omega)]; exact h3
theorem ordL_bd (l m : List Int) : ordL l m = -1 ∨ ordL l m = 0 ∨ ordL l m = 1 := by
  induction l generalizing m with
  | nil => cases m <;> simp [ordL]
  | cons a r ih => cases m with
    | nil => simp [ordL]
    | cons b s =>
      unfold ordL
      split
      · exact ih s
      · exact ordI_bd a b

theorem ordC_self (a : C) : ordC a a = 0 := by simp [ordC, ordI_self, ordL_self]
theorem ordC_zero {a b : C} (h : ordC a b = 0) : a = b := by
  unfold ordC at h
  split at h
  · contradiction
  · rename_i h1
    split at h
    · contradiction
    · rename_i h2
      have e1 := ordI_zero (by omega : ordI a.arch b.arch = 0)
      have e2 := ordI_zero (by omega : ordI a.nr b.nr = 0)
      have e3 := ordL_zero h
      cases a; cases b; simp_all
theorem ordC_anti (a b : C) : ordC a b = - ordC b a := by
  unfold ordC
  have h1 := ordI_anti a.arch b.arch
  have h2 := ordI_anti a.nr b.nr
  have h3 := ordL_anti a.args b.args
  repeat' split
  all_goals omega
theorem ordC_trans {a b c : C} (h : ordC a b < 0) (h' : ordC b c < 0) : ordC a c < 0 := by
  unfold ordC at h h' ⊢
  have i1 := @ordI_lt a.arch b.arch
  have i2 := @ordI_lt b.arch c.arch
  have i3 := @ordI_lt a.arch c.arch
  have j1 := @ordI_lt a.nr b.nr
  have j2 := @ordI_lt b.nr c.nr
  have j3 := @ordI_lt a.nr c.nr
  have z1 := @ordI_zero a.arch b.arch
  have z2 := @ordI_zero b.arch c.arch
  have z3 := @ordI_zero a.arch c.arch
  have y1 := @ordI_zero a.nr b.nr
  have y2 := @ordI_zero b.nr c.nr
  have y3 := @ordI_zero a.nr c.nr
  have t := @ordL_trans a.args b.args c.args
  have s1 := ordI_self a.arch
  by_cases hA : ordI a.arch b.arch = 0
  · have eA := z1 hA
    rw [eA] at *
    by_cases hB : ordI b.arch c.arch = 0
    · rw [if_neg (by omega)] at h h' ⊢
      by_cases hC : ordI a.nr b.nr = 0
      · have eC := y1 hC
        rw [eC] at *
        by_cases hD : ordI b.nr c.nr = 0
        · rw [if_neg (by omega)] at h h' ⊢
          exact t h h'
        · rw [if_pos hD] at h' ⊢; exact h'
      · rw [if_pos hC] at h
        have k1 := j1.1 h
        by_cases hD : ordI b.nr c.nr = 0
        · have eD := y2 hD
          rw [← eD, if_pos hC]; exact h
        · rw [if_pos hD] at h'
          have k2 := j2.1 h'
          have k3 := j3.2 (by omega)
          rw [if_pos (by omega)]; exact k3
    · rw [if_pos hB] at h' ⊢; exact h'
  · rw [if_pos hA] at h
    have k1 := i1.1 h
    by_cases hB : ordI b.arch c.arch = 0
    · have eB := z2 hB
      rw [← eB, if_pos hA]; exact h
    · rw [if_pos hB] at h'
      have k2 := i2.1 h'
      have k3 := i3.2 (by omega)
      rw [if_pos (by omega)]; exact k3
theorem ordC_bd (a b : C) : ordC a b = -1 ∨ ordC a b = 0 ∨ ordC a b = 1 := by
  unfold ordC
  split
  · exact ordI_bd _ _
  · split
    · exact ordI_bd _ _
    · exact ordL_bd _ _
theorem ordC_le_lt {a b c : C} (h : ordC a b ≤ 0) (h' : ordC b c < 0) : ordC a c < 0 := by
  by_cases e : ordC a b = 0
  · rw [ordC_zero e]; exact h'
  · exact ordC_trans (by omega) h'
theorem ordC_lt_le {a b c : C} (h : ordC a b < 0) (h' : ordC b c ≤ 0) : ordC a c < 0 := by
  by_cases e : ordC b c = 0
  · rw [← ordC_zero e]; exact h
  · exact ordC_trans h (by omega)
theorem ordC_le_trans {a b c : C} (h : ordC a b ≤ 0) (h' : ordC b c ≤ 0) : ordC a c ≤ 0 := by
  by_cases e : ordC a b = 0
  · rw [ordC_zero e]; exact h'
  · have := ordC_lt_le (a := a) (by omega) h'; omega

/-- each once, ascending -/
def Asc (r : List C) : Prop := r.Pairwise fun a b => ordC a b < 0
/-- the different ones of cs, ascending -/
def IsDist (cs r : List C) : Prop := Asc r ∧ ∀ c, c ∈ r ↔ c ∈ cs

theorem asc_uniq {r s : List C} (h : Asc r) (h' : Asc s) (e : ∀ c, c ∈ r ↔ c ∈ s) : r = s := by
  induction r generalizing s with
  | nil => cases s with
    | nil => rfl
    | cons b s => exact absurd ((e b).2 (by simp)) (by simp)
  | cons a r ih => cases s with
    | nil => exact absurd ((e a).1 (by simp)) (by simp)
    | cons b s =>
      have ha := List.pairwise_cons.1 h
      have hb := List.pairwise_cons.1 h'
      have eab : a = b := by
        have m1 := (e a).1 (by simp)
        have m2 := (e b).2 (by simp)
        simp only [List.mem_cons] at m1 m2
        rcases m1 with m1 | m1
        · exact m1
        · rcases m2 with m2 | m2
          · exact m2.symm
          · have g1 := hb.1 a m1
            have g2 := ha.1 b m2
            have := ordC_anti a b
            omega
      subst eab
      congr 1
      refine ih ha.2 hb.2 fun c => ?_
      constructor
      · intro hc
        have := (e c).1 (by simp [hc])
        simp only [List.mem_cons] at this
        rcases this with rfl | this
        · have := ha.1 c hc; rw [ordC_self] at this; omega
        · exact this
      · intro hc
        have := (e c).2 (by simp [hc])
        simp only [List.mem_cons] at this
        rcases this with rfl | this
        · have := hb.1 c hc; rw [ordC_self] at this; omega
        · exact this
theorem dist_uniq {cs r s : List C} (h : IsDist cs r) (h' : IsDist cs s) : r = s := asc_uniq h.1 h'.1 fun c => (h.2 c).trans (h'.2 c).symm

/-- c behind out, unless it stands there already -/
def pushD (out : List C) (c : C) : List C := if out = [] ∨ ordC (out.getLastD C.zero) c ≠ 0 then out ++ [c] else out
theorem pushD_asc {out : List C} {c : C} (h : Asc out) (hc : ∀ o ∈ out, ordC o c ≤ 0) : Asc (pushD out c) ∧ (∀ d, d ∈ pushD out c ↔ d ∈ out ∨ d = c) := by
  rcases List.eq_nil_or_concat out with rfl | ⟨t, z, rfl⟩
  · simp [pushD, Asc]
  · have hz : (t.concat z).getLastD C.zero = z := by simp
    unfold pushD
    rw [hz]
    by_cases e : ordC z c = 0
    · obtain rfl := ordC_zero e
      rw [if_neg (by simp [e])]
      refine ⟨h, fun d => ⟨fun hd => .inl hd, fun hd => ?_⟩⟩
      rcases hd with hd | rfl
      · exact hd
      · simp
    · rw [if_pos (.inr e)]
      refine ⟨?_, fun d => by simp [or_assoc]⟩
      refine List.pairwise_append.2 ⟨h, by simp, fun a ha b hb => ?_⟩
      simp only [List.mem_singleton] at hb
      subst hb
      have hzc : ordC z b < 0 := by have := hc z (by simp); omega
      simp only [List.concat_eq_append, List.mem_append, List.mem_singleton] at ha
      rcases ha with ha | rfl
      · have h2 : ordC a z < 0 := by
          have := h
          unfold Asc at this
          rw [List.concat_eq_append] at this
          exact (List.pairwise_append.1 this).2.2 a ha z (by simp)
        exact ordC_trans h2 hzc
      · exact hzc

/-- out so far, what is left of x and y: all of it is no less -/
structure Mid (cs out x y : List C) : Prop where
  ao : Asc out
  ax : Asc x
  ay : Asc y
  ox : ∀ a ∈ out, ∀ b ∈ x, ordC a b ≤ 0
  oy : ∀ a ∈ out, ∀ b ∈ y, ordC a b ≤ 0
  mem : ∀ c, c ∈ cs ↔ c ∈ out ∨ c ∈ x ∨ c ∈ y
theorem Mid.left {cs out x y : List C} {a : C} (h : Mid cs out (a :: x) y) (ha : ∀ b ∈ y, ordC a b ≤ 0) : Mid cs (pushD out a) x y := by
  obtain ⟨p1, p2⟩ := pushD_asc h.ao (fun o ho => h.ox o ho a (by simp))
  have hx := List.pairwise_cons.1 h.ax
  refine ⟨p1, hx.2, h.ay, ?_, ?_, ?_⟩
  · intro c hc b hb
    rcases (p2 c).1 hc with hc | rfl
    · exact h.ox c hc b (by simp [hb])
    · have := hx.1 b hb; omega
  · intro c hc b hb
    rcases (p2 c).1 hc with hc | rfl
    · exact h.oy c hc b hb
    · exact ha b hb
  · intro c
    rw [h.mem c, p2 c]
    simp only [List.mem_cons]
    constructor
    · rintro (g | (g | g) | g)
      · exact .inl (.inl g)
      · exact .inl (.inr g)
      · exact .inr (.inl g)
      · exact .inr (.inr g)
    · rintro ((g | g) | g | g)
      · exact .inl g
      · exact .inr (.inl (.inl g))
      · exact .inr (.inl (.inr g))
      · exact .inr (.inr g)
theorem Mid.swap {cs out x y : List C} (h : Mid cs out x y) : Mid cs out y x :=
  ⟨h.ao, h.ay, h.ax, h.oy, h.ox, fun c => by rw [h.mem c]; constructor <;> (rintro (g | g | g) <;> simp [g])⟩
theorem Mid.done {cs out : List C} (h : Mid cs out [] []) : IsDist cs out := ⟨h.ao, fun c => by rw [h.mem c]; simp⟩
/-- two heads: the smaller one goes on -/
theorem asc_head {y : List C} {a b : C} (hy : Asc (b :: y)) (h : ordC a b ≤ 0) : ∀ c ∈ b :: y, ordC a c ≤ 0 := by
  intro c hc
  simp only [List.mem_cons] at hc
  rcases hc with rfl | hc
  · exact h
  · have := (List.pairwise_cons.1 hy).1 c hc
    have := ordC_le_lt h this; omega
theorem Mid.start {u v x y : List C} (hx : IsDist u x) (hy : IsDist v y) : Mid (u ++ v) [] x y :=
  ⟨List.Pairwise.nil, hx.1, hy.1, by simp, by simp, fun c => by simp [hx.2 c, hy.2 c]⟩

/-- of a list in order, each once -/
theorem fold_push {l : List C} (hl : l.Pairwise fun a b => ordC a b ≤ 0) : IsDist l (l.foldl pushD []) := by
  have key : ∀ (l out cs : List C), (l.Pairwise fun a b => ordC a b ≤ 0) → Asc out → (∀ a ∈ out, ∀ b ∈ l, ordC a b ≤ 0) → (∀ c, c ∈ cs ↔ c ∈ out ∨ c ∈ l) → IsDist cs (l.foldl pushD out) := by
    intro l
    induction l with
    | nil => intro out cs _ h2 _ h4; exact ⟨h2, fun c => by rw [h4 c]; simp⟩
    | cons a l ih =>
      intro out cs h1 h2 h3 h4
      have g := List.pairwise_cons.1 h1
      obtain ⟨p1, p2⟩ := pushD_asc h2 (fun o ho => h3 o ho a (by simp))
      refine ih (pushD out a) cs g.2 p1 ?_ ?_
      · intro c hc b hb
        rcases (p2 c).1 hc with hc | rfl
        · exact h3 c hc b (by simp [hb])
        · exact g.1 b hb
      · intro c
        rw [h4 c, p2 c]
        simp only [List.mem_cons]
        constructor
        · rintro (q | q | q)
          · exact .inl (.inl q)
          · exact .inl (.inr q)
          · exact .inr q
        · rintro ((q | q) | q)
          · exact .inl q
          · exact .inr (.inl q)
          · exact .inr (.inr q)
  exact key l [] l hl List.Pairwise.nil (by simp) (by simp)
theorem dist_perm {cs l r : List C} (h : IsDist l r) (hp : ∀ c, c ∈ l ↔ c ∈ cs) : IsDist cs r := ⟨h.1, fun c => (h.2 c).trans (hp c)⟩
end Go.Proofs.Ytoopomjkapeknaa
namespace Go.Proofs.Ytoopomjkapeknaa
open Go.RowKit
set_option linter.unusedVariables false

set_option maxHeartbeats 1000000 in
theorem isNaN32_any (x : Int) (w : World) : Calls Try.prog 69 #[.int .u32 x] w fun e w' => e = .returned (.bool false) ∧ w' = w := by
  go_enter Try.func69, Try.ntmps69
  go_wp2
  go_ret
  exact ⟨rfl, rfl⟩
theorem ordI_neg {x y : Int} (h : x < y) : ordI x y = -1 := by unfold ordI; rw [if_pos h]
theorem ordI_pos {x y : Int} (h : y < x) : ordI x y = 1 := by unfold ordI; rw [if_neg (by omega), if_pos h]
theorem ordI_same {x y : Int} (h : x = y) : ordI x y = 0 := by unfold ordI; rw [if_neg (by omega), if_neg (by omega)]
set_option maxRecDepth 100000 in
set_option maxHeartbeats 1000000 in
theorem cmp32_any (x y : Int) (w : World) (hx : 0 ≤ x ∧ x ≤ 4294967295) (hy : 0 ≤ y ∧ y ≤ 4294967295) : Calls Try.prog 53 #[.int .u32 x, .int .u32 y] w fun e w' => e = .returned (.int .i64 (ordI x y)) ∧ w' = w := by
  rcases Int.lt_trichotomy x y with h | h | h
  · rw [ordI_neg h]
    go_enter Try.func53, Try.ntmps53
    go_wp2_with (go_at_call 69; refine (isNaN32_any _ _).mono ?_; rintro e w' ⟨rfl, rfl⟩)
    go_ret
    exact ⟨rfl, rfl⟩
  · rw [ordI_same h]
    subst h
    go_enter Try.func53, Try.ntmps53
    go_wp2_with (go_at_call 69; refine (isNaN32_any _ _).mono ?_; rintro e w' ⟨rfl, rfl⟩)
    go_ret
    exact ⟨rfl, rfl⟩
  · rw [ordI_pos h]
    go_enter Try.func53, Try.ntmps53
    go_wp2_with (go_at_call 69; refine (isNaN32_any _ _).mono ?_; rintro e w' ⟨rfl, rfl⟩)
    go_ret
    exact ⟨rfl, rfl⟩
/-- lists from number i on -/
theorem ordL_step {l m : List Int} {i : Nat} (hl : i < l.length) (hm : i < m.length) : ordL (l.drop i) (m.drop i) = if ordI (l.getD i 0) (m.getD i 0) = 0 then ordL (l.drop (i + 1)) (m.drop (i + 1)) else ordI (l.getD i 0) (m.getD i 0) := by
  rw [List.drop_eq_getElem_cons hl, List.drop_eq_getElem_cons hm, ordL]
  simp [List.getD_eq_getElem?_getD, hl, hm]
theorem ordL_out1 {l m : List Int} {i : Nat} (hl : l.length ≤ i) (hm : i < m.length) : ordL (l.drop i) (m.drop i) = -1 := by
  rw [List.drop_eq_nil_of_le hl, List.drop_eq_getElem_cons hm]; rfl
theorem ordL_out2 {l m : List Int} {i : Nat} (hl : i < l.length) (hm : m.length ≤ i) : ordL (l.drop i) (m.drop i) = 1 := by
  rw [List.drop_eq_nil_of_le hm, List.drop_eq_getElem_cons hl]; rfl
theorem ordL_out {l m : List Int} {i : Nat} (hl : l.length ≤ i) (hm : m.length ≤ i) : ordL (l.drop i) (m.drop i) = 0 := by
  rw [List.drop_eq_nil_of_le hm, List.drop_eq_nil_of_le hl]; rfl
theorem USrc.at {w : World} {a : Option Addr} {l : List Int} (h : USrc w a l) (i : Nat) (hi : i < l.length) : ∃ b o, a = some ⟨b, o, none⟩ ∧ b < w.heap.size ∧ w.cell? ⟨b, o + i, none⟩ = some (.int .u64 (l.getD i 0)) := by
  rcases h with rfl | ⟨b, o, ha, hb, hp⟩
  · simp at hi
  · exact ⟨b, o, ha, hb, hp i hi⟩
theorem isU64_getD {l : List Int} (h : ∀ v ∈ l, isU64 v) (i : Nat) : isU64 (l.getD i 0) := by
  by_cases hi : i < l.length
  · exact h _ (by rw [List.getD_eq_getElem?_getD, List.getElem?_eq_getElem hi]; exact List.getElem_mem hi)
  · rw [List.getD_eq_getElem?_getD, List.getElem?_eq_none (by omega)]; exact ⟨by decide, by decide⟩

end Go.Proofs.Ytoopomjkapeknaa
namespace Go.Proofs.Ytoopomjkapeknaa
open Go.RowKit
set_option linter.unusedVariables false

set_option maxRecDepth 100000 in
set_option maxHeartbeats 2000000 in
theorem everyCon_any (r : List K) (a : Option Addr) (cap : Nat) (w : World) (hs : LSrc 3 PK w a r) (ho : okR r) (hn : r.length ≤ 16777216) :
    Calls Try.prog 70 #[.slice a r.length cap, .func (.func 71) #[] #[]] w fun e w' => e = .returned (.bool (r.all validK)) ∧ Below w.heap.size w w' := by
  have HC : Hid (∀ i w, Calls Try.prog 71 #[conV (r.getD i K.zero)] w fun e w' => e = .returned (.bool (validK (r.getD i K.zero))) ∧ Below w.heap.size w w') := fun i w => isValidCon_any _ w (okR_at ho i)
  have HY : Hid ((∀ i, i < r.length → validK (r.getD i K.zero) = true) → r.all validK = true) := fun h => (all_getD K.zero validK r).2 h
  have HF : Hid (∀ i, i < r.length → validK (r.getD i K.zero) = false → r.all validK = false) := fun i hi h => all_no hi h
  have HP : Hid (∀ wr, Below w.heap.size w wr → ∀ i, i < r.length → ∃ b o, a = some ⟨b, o, none⟩ ∧ b < wr.heap.size ∧ PK wr b (o + i * 3) (r.getD i K.zero)) := fun wr hB i hi => (hs.below PK.stays hB).at hi K.zero
  obtain ⟨V, hV⟩ : ∃ V, r.all validK = V := ⟨_, rfl⟩
  rw [hV] at HY HF ⊢
  clear hV hs ho
  generalize r.length = n at *
  go_enter Try.func70, Try.ntmps70
  go_wp2_with fail
  go_loopw [9] (fun i wr => ∃ k : Nat, k ≤ n ∧ i = .int .i64 k ∧ Hid (∀ j, j < k → validK (r.getD j K.zero) = true) ∧ Below w.heap.size w wr) (fun i _ => n - (intOf i).toNat)
  case atStart => exact ⟨0, by omega, rfl, fun j hj => by omega, Below.refl _ _⟩
  case round =>
    obtain ⟨k, hk, rfl, HJ, B⟩ := hrel
    by_cases hkn : k < n
    · obtain ⟨b, o, rfl, hlt, c0, c1, c2⟩ := HP.out wr B k hkn
      have HC1 : Hid (∀ w, Calls Try.prog 71 #[conV (r.getD k K.zero)] w fun e w' => e = .returned (.bool (validK (r.getD k K.zero))) ∧ Below w.heap.size w w') := HC.out k
      have HF1 : Hid (validK (r.getD k K.zero) = false → V = false) := HF.out k hkn
      have HJ1 : Hid (validK (r.getD k K.zero) = true → ∀ j, j < k + 1 → validK (r.getD j K.zero) = true) := fun h j hj => by
        by_cases hjk : j = k
        · subst hjk; exact h
        · exact HJ.out j (by omega)
      have hkn' : (k : Int) < (n : Int) := by omega
      generalize r.getD k K.zero = c at *
      obtain ⟨ck, ca, cb⟩ := c
      simp only at c0 c1 c2
      simp only [conV] at HC1
      generalize validK ⟨ck, ca, cb⟩ = Q at *
      have B0 : Below w.heap.size w (wr.alloc (.cells #[.int .i64 ck, .int .u64 (ca : Int), .int .u64 (cb : Int)] 93)) := B.alloc B.size _
      clear HC HF HP HJ
      go_wp2_with fail
      refine (HC1.out _).mono ?_
      rintro _ w1 ⟨rfl, hb1⟩
      have B1 := below_step hb1 B0
      clear hb1 c0 c1 c2 B0
      cases Q with
      | false =>
        have hVf : V = false := HF1.out (by first | rfl | trivial)
        subst hVf
        go_wp2
        go_ret
        exact ⟨rfl, B1⟩
      | true =>
        have HJ2 : Hid (∀ j, j < k + 1 → validK (r.getD j K.zero) = true) := HJ1.out (by first | rfl | trivial)
        go_wp2
        go_roundw
        case rel => exact ⟨k + 1, by omega, by go_num, HJ2, B1⟩
        case measure => simp [intOf]; omega
    · have hk' : k = n := by omega
      subst hk'
      have hVt : V = true := HY.out HJ.out
      subst hVt
      go_wp2
      go_ret
      exact ⟨rfl, B⟩

set_option maxRecDepth 100000 in
set_option maxHeartbeats 2000000 in
theorem isValidRule_any (r : List K) (a : Option Addr) (cap : Nat) (w : World) (hs : LSrc 3 PK w a r) (ho : okR r) (hn : r.length ≤ 16777216) :
    Calls Try.prog 55 #[.agg #[.slice a r.length cap]] w fun e w' => e = .returned (.bool (validR r)) ∧ Below w.heap.size w w' := by
  have HE : Hid (∀ w1, Below w.heap.size w w1 → Calls Try.prog 70 #[.slice a r.length cap, .func (.func 71) #[] #[]] w1 fun e w' => e = .returned (.bool (r.all validK)) ∧ Below w1.heap.size w1 w') := fun w1 hb => everyCon_any r a cap w1 (hs.below PK.stays hb) ho hn
  have B : Below w.heap.size w (w.alloc (.cells #[.slice a r.length cap] 64)) := (Below.refl _ _).alloc (Nat.le_refl _) _
  have HV : Hid (validR r = (r.length == 6 && r.all validK)) := rfl
  rw [HV.out]
  clear hs ho HV
  generalize r.all validK = Q at *
  generalize r.length = n at *
  by_cases h6 : n = 6
  · subst h6
    go_enter Try.func55, Try.ntmps55
    go_wp2_with fail
    refine (HE.out _ B).mono ?_
    rintro _ w1 ⟨rfl, hb1⟩
    have B1 := below_step hb1 B
    go_wp2
    go_ret
    exact ⟨by simp, B1⟩
  · have e6 : ((n : Int) == 6) = false := by rw [beq_eq_false_iff_ne]; omega
    have e6' : (n == 6) = false := by rw [beq_eq_false_iff_ne]; exact h6
    rw [e6', Bool.false_and]
    clear HE h6 e6'
    go_enter Try.func55, Try.ntmps55
    go_wp2
    go_ret
    exact ⟨by simp, B⟩

set_option maxRecDepth 100000 in
set_option maxHeartbeats 2000000 in
theorem everyRule_any (l : List (List K)) (a : Option Addr) (cap : Nat) (w : World) (hs : LSrc 1 PR w a l) (ho : okRs l) (hn : l.length ≤ 16777216) (hm : ∀ r ∈ l, r.length ≤ 16777216) :
    Calls Try.prog 54 #[.slice a l.length cap, .func (.func 55) #[] #[]] w fun e w' => e = .returned (.bool (l.all validR)) ∧ Below w.heap.size w w' := by
  have HSm : Hid (∀ i, (l.getD i []).length ≤ 16777216) := fun i => by
    by_cases hi : i < l.length
    · exact hm _ (rule_mem hi)
    · rw [List.getD_eq_getElem?_getD, List.getElem?_eq_none (by omega)]; simp
  have HC : Hid (∀ i a cap w, LSrc 3 PK w a (l.getD i []) → Calls Try.prog 55 #[.agg #[.slice a (l.getD i []).length cap]] w fun e w' => e = .returned (.bool (validR (l.getD i []))) ∧ Below w.heap.size w w') := fun i a cap w h => isValidRule_any _ a cap w h (okRs_at ho i) (HSm.out i)
  have HY : Hid ((∀ i, i < l.length → validR (l.getD i []) = true) → l.all validR = true) := fun h => (all_getD [] validR l).2 h
  have HF : Hid (∀ i, i < l.length → validR (l.getD i []) = false → l.all validR = false) := fun i hi h => all_no hi h
  have HP : Hid (∀ wr, Below w.heap.size w wr → ∀ i, i < l.length → ∃ b o, a = some ⟨b, o, none⟩ ∧ b < wr.heap.size ∧ PR wr b (o + i * 1) (l.getD i [])) := fun wr hB i hi => (hs.below PR.stays hB).at hi []
  obtain ⟨V, hV⟩ : ∃ V, l.all validR = V := ⟨_, rfl⟩
  rw [hV] at HY HF ⊢
  clear hV hs ho hm
  generalize l.length = n at *
  go_enter Try.func54, Try.ntmps54
  go_wp2_with fail
  go_loopw [9] (fun i wr => ∃ k : Nat, k ≤ n ∧ i = .int .i64 k ∧ Hid (∀ j, j < k → validR (l.getD j []) = true) ∧ Below w.heap.size w wr) (fun i _ => n - (intOf i).toNat)
  case atStart => exact ⟨0, by omega, rfl, fun j hj => by omega, Below.refl _ _⟩
  case round =>
    obtain ⟨k, hk, rfl, HJ, B⟩ := hrel
    by_cases hkn : k < n
    · obtain ⟨b, o, rfl, hlt, a2, cap2, r0, hsr⟩ := HP.out wr B k hkn
      have B0 : Below wr.heap.size wr (wr.alloc (.cells #[.slice a2 (l.getD k []).length cap2] 64)) := (Below.refl _ _).alloc (Nat.le_refl _) _
      have HC1 : Hid (Calls Try.prog 55 #[.agg #[.slice a2 (l.getD k []).length cap2]] (wr.alloc (.cells #[.slice a2 (l.getD k []).length cap2] 64)) fun e w' => e = .returned (.bool (validR (l.getD k []))) ∧ Below (wr.alloc (.cells #[.slice a2 (l.getD k []).length cap2] 64)).heap.size (wr.alloc (.cells #[.slice a2 (l.getD k []).length cap2] 64)) w') := HC.out k a2 cap2 _ (hsr.below PK.stays B0)
      have HF1 : Hid (validR (l.getD k []) = false → V = false) := HF.out k hkn
      have HJ1 : Hid (validR (l.getD k []) = true → ∀ j, j < k + 1 → validR (l.getD j []) = true) := fun h j hj => by
        by_cases hjk : j = k
        · subst hjk; exact h
        · exact HJ.out j (by omega)
      have hkn' : (k : Int) < (n : Int) := by omega
      rw [Nat.mul_one] at r0
      have hsm := HSm.out k
      generalize validR (l.getD k []) = Q at *
      generalize (l.getD k []).length = len2 at *
      have B2 := below_step B0 B
      clear HC HF HP HJ hsr B0
      go_wp2_with fail
      refine (HC1.out).mono ?_
      rintro _ w1 ⟨rfl, hb1⟩
      have B1 := below_step hb1 B2
      clear hb1 r0 B2
      cases Q with
      | false =>
        have hVf : V = false := HF1.out (by first | rfl | trivial)
        subst hVf
        go_wp2
        go_ret
        exact ⟨rfl, B1⟩
      | true =>
        have HJ2 : Hid (∀ j, j < k + 1 → validR (l.getD j []) = true) := HJ1.out (by first | rfl | trivial)
        go_wp2
        go_roundw
        case rel => exact ⟨k + 1, by omega, by go_num, HJ2, B1⟩
        case measure => simp [intOf]; omega
    · have hk' : k = n := by omega
      subst hk'
      have hVt : V = true := HY.out HJ.out
      subst hVt
      go_wp2
      go_ret
      exact ⟨rfl, B⟩

set_option maxRecDepth 100000 in
set_option maxHeartbeats 2000000 in
theorem isValidEntry_any (e : E) (a : Option Addr) (cap : Nat) (w : World) (hs : LSrc 1 PR w a e.rules) (ho : okRs e.rules) (hn : e.rules.length ≤ 16777216) (hm : ∀ r ∈ e.rules, r.length ≤ 16777216) :
    Calls Try.prog 36 #[.agg #[.int .u32 e.arch, .int .u32 e.nr, .slice a e.rules.length cap]] w fun x w' => x = .returned (.bool (validE e)) ∧ Below w.heap.size w w' := by
  have HE : Hid (∀ w1, Below w.heap.size w w1 → Calls Try.prog 54 #[.slice a e.rules.length cap, .func (.func 55) #[] #[]] w1 fun x w' => x = .returned (.bool (e.rules.all validR)) ∧ Below w1.heap.size w1 w') := fun w1 hb => everyRule_any e.rules a cap w1 (hs.below PR.stays hb) ho hn hm
  have HV : Hid (validE e = (decide (1 ≤ e.rules.length) && decide (e.rules.length ≤ 200) && e.rules.all validR)) := rfl
  rw [HV.out]
  obtain ⟨arch, nr, rules⟩ := e
  simp only at *
  have B : Below w.heap.size w (w.alloc (.cells #[.int .u32 arch, .int .u32 nr, .slice a rules.length cap] 60)) := (Below.refl _ _).alloc (Nat.le_refl _) _
  clear hs ho hm HV
  generalize rules.all validR = Q at *
  generalize rules.length = n at *
  by_cases h1 : 1 ≤ n
  · have h1' : (1 : Int) ≤ (n : Int) := by omega
    by_cases h2 : n ≤ 200
    · have h2' : (n : Int) ≤ 200 := by omega
      have e1 : (decide (1 ≤ n) && decide (n ≤ 200) && Q) = Q := by simp [h1, h2]
      rw [e1]
      clear e1 h1 h2
      go_enter Try.func36, Try.ntmps36
      go_wp2_with fail
      refine (HE.out _ B).mono ?_
      rintro _ w1 ⟨rfl, hb1⟩
      have B1 := below_step hb1 B
      go_wp2
      go_ret
      exact ⟨rfl, B1⟩
    · have h2' : ¬ (n : Int) ≤ 200 := by omega
      have e1 : (decide (1 ≤ n) && decide (n ≤ 200) && Q) = false := by simp [h2]
      rw [e1]
      clear e1 h1 h2 HE
      go_enter Try.func36, Try.ntmps36
      go_wp2
      go_ret
      exact ⟨rfl, B⟩
  · have h1' : ¬ (1 : Int) ≤ (n : Int) := by omega
    have e1 : (decide (1 ≤ n) && decide (n ≤ 200) && Q) = false := by simp [h1]
    rw [e1]
    clear e1 h1 HE
    go_enter Try.func36, Try.ntmps36
    go_wp2
    go_ret
    exact ⟨rfl, B⟩
end Go.Proofs.Ytoopomjkapeknaa
