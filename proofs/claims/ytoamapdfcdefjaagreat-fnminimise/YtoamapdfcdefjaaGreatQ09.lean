/-
  DrwH, DrwI, DrwJ
-/
import Derived.Test.YtoamapdfcdefjaaGreatQ08
import Derived.Test.YtoamapdfcdefjaaGreatQ01
namespace Go.Proofs.YtoamapdfcdefjaaGreat
open Go.RowKit Go.Deep
set_option linter.unusedVariables false

theorem infoRuleD : (Tryz.prog.info? 44).map (fun i => (i.zero, i.size, i.bytes)) = some (some (.agg #[.slice none 0 0]), 1, 24) := by kernel_rfl

/-- rules in memory of their own: a row of them, and behind each a row of conditions -/
structure RsD (w : World) (B : Nat) (v : Value) (l : List (List K)) (vs : Nat → Value) (cb : Nat → Nat) (gb : Nat) : Prop where
  row : w.ownsRow B 44 1 v l.length ((List.range l.length).map vs)
  ob : v.ownBlock = some gb
  own : ∀ i, i < l.length → ownsKd w B (vs i) (l.getD i []) ∧ (vs i).ownBlock = some (cb i)
  ne : ∀ i, i < l.length → cb i ≠ gb
  inc : ∀ i j, i < j → j < l.length → cb i < cb j
theorem row_blockD {w w1 : World} {B t s n : Nat} {v : Value} {xs : List Value} (h : w.ownsRow B t s v n xs) (hb : ∀ q, v.ownBlock = some q → w1.heap[q]? = w.heap[q]?) : w1.ownsRow B t s v n xs := by
  obtain ⟨h0, h | ⟨g, cap, cur, e, hB, hg, r⟩⟩ := h
  · exact ⟨h0, .inl h⟩
  · exact ⟨h0, .inr ⟨g, cap, cur, e, hB, (hb g (by rw [e]; rfl)).trans hg, r⟩⟩
theorem RsD.far {w w1 : World} {B hi : Nat} {v : Value} {l : List (List K)} {vs : Nat → Value} {cb : Nat → Nat} {gb : Nat} (h : RsD w B v l vs cb gb) (h2 : gb < hi) (h3 : ∀ i, i < l.length → cb i < hi) (hb : ∀ k, B ≤ k → k < hi → w1.heap[k]? = w.heap[k]?) : RsD w1 B v l vs cb gb := by
  refine ⟨row_blockD h.row (fun q hq => ?_), h.ob, fun i hi => ⟨row_blockD (h.own i hi).1 (fun q hq => ?_), (h.own i hi).2⟩, h.ne, h.inc⟩
  · rw [h.ob] at hq; cases hq
    exact hb _ (h.row.lt _ h.ob).1 h2
  · rw [(h.own i hi).2] at hq; cases hq
    exact hb _ ((h.own i hi).1.lt _ (h.own i hi).2).1 (h3 i hi)
theorem RsD.lts {w : World} {B : Nat} {v : Value} {l : List (List K)} {vs : Nat → Value} {cb : Nat → Nat} {gb : Nat} (h : RsD w B v l vs cb gb) : gb < w.heap.size ∧ ∀ i, i < l.length → cb i < w.heap.size := ⟨(h.row.lt _ h.ob).2, fun i hi => ((h.own i hi).1.lt _ (h.own i hi).2).2⟩
theorem RsD.kept {w w1 : World} {B R : Nat} {v : Value} {l : List (List K)} {vs : Nat → Value} {cb : Nat → Nat} {gb : Nat} (h : RsD w B v l vs cb gb) (hg : w.grownBy w1 (some R)) (hR : R < B) : RsD w1 B v l vs cb gb :=
  h.far h.lts.1 h.lts.2 fun k hk hs => hg.block k hs (by simp; omega)
theorem RsD.next {w w9 w1 : World} {B R : Nat} {v v' : Value} {l : List (List K)} {r : List K} {vs : Nat → Value} {cb : Nat → Nat} {gb gg cap q : Nat} {o : Obj} (h : RsD w B v l vs cb gb) (hBw : B ≤ w.heap.size) (h9 : w.grownBy w9 (some R)) (hR : R < B) (hv : ownsKd w9 w.heap.size v' r) (hq : v'.ownBlock = some q)
    (hown : w1.ownsRow B 44 1 (.slice (some ⟨gg, 0, none⟩) (l.length + 1) cap) (l.length + 1) ((List.range l.length).map vs ++ [v'])) (hg : (w9.alloc o).grownBy w1 v.ownBlock) (hat : v.ownBlock = some gg ∨ gg = (w9.alloc o).heap.size) :
    RsD w1 B (.slice (some ⟨gg, 0, none⟩) (l.length + 1) cap) (l ++ [r]) (fun i => if i = l.length then v' else vs i) (fun i => if i = l.length then q else cb i) gg := by
  have hgb := (h.row.lt gb h.ob).2
  have hq1 := hv.lt q hq
  have hsz : (w9.alloc o).heap.size = w9.heap.size + 1 := by simp
  have hws := h9.size
  have hb2 : w9.grownBy (w9.alloc o) none := rb_alloc (World.grownBy.refl _ _) _
  have cl : ∀ i, i < l.length → cb i < w.heap.size := fun i hi => ((h.own i hi).1.lt _ (h.own i hi).2).2
  have cl2 : ∀ i, i < l.length → B ≤ cb i := fun i hi => ((h.own i hi).1.lt _ (h.own i hi).2).1
  have len1 : (l ++ [r]).length = l.length + 1 := by simp
  have gne : ∀ i, i < l.length → cb i ≠ gg := fun i hi => by
    rcases hat with e | e
    · rw [h.ob] at e; cases e; exact h.ne i hi
    · have := cl i hi; omega
  have qne : q ≠ gg := by
    rcases hat with e | e
    · rw [h.ob] at e; cases e; omega
    · omega
  have e0 : (List.range (l.length + 1)).map (fun i => if i = l.length then v' else vs i) = (List.range l.length).map vs ++ [v'] := by
    rw [List.range_succ, List.map_append]
    congr 1
    · apply List.map_congr_left
      intro i hi
      rw [if_neg (by have := List.mem_range.1 hi; omega)]
    · simp
  refine ⟨by rw [len1, e0]; exact hown, rfl, fun i hi => ?_, fun i hi => ?_, fun i j hij hj => ?_⟩
  · rw [len1] at hi
    by_cases e : i = l.length
    · subst e
      simp only [if_true]
      have e2 : (l ++ [r]).getD l.length [] = r := by simp [List.getD_eq_getElem?_getD]
      rw [e2]
      exact ⟨row_monoD (World.ownsRow.kept (World.ownsRow.kept hv hb2 (.inr (by rw [hq]; simp))) hg (.inr (by rw [hq, h.ob]; intro e; cases e; omega))) hBw, hq⟩
    · have hi' : i < l.length := by omega
      simp only [if_neg e]
      have e2 : (l ++ [r]).getD i [] = l.getD i [] := by simp [List.getD_eq_getElem?_getD, List.getElem?_append_left hi']
      rw [e2]
      refine ⟨World.ownsRow.kept (World.ownsRow.kept (World.ownsRow.kept (h.own i hi').1 h9 (.inr ?_)) hb2 (.inr ?_)) hg (.inr ?_), (h.own i hi').2⟩
      · rw [(h.own i hi').2]; have := cl2 i hi'; simp; omega
      · rw [(h.own i hi').2]; simp
      · rw [(h.own i hi').2, h.ob]; intro e; cases e; exact h.ne i hi' rfl
  · rw [len1] at hi
    by_cases e : i = l.length
    · simp only [if_pos e]; exact qne
    · simp only [if_neg e]; exact gne i (by omega)
  · rw [len1] at hj
    by_cases e : j = l.length
    · simp only [if_pos e]
      rw [if_neg (by omega)]
      have := cl i (by omega); omega
    · simp only [if_neg e]
      rw [if_neg (by omega)]
      exact h.inc i j hij (by omega)
/-- one rule of the list: where it lies -/
theorem RsD.at {w : World} {B : Nat} {v : Value} {l : List (List K)} {vs : Nat → Value} {cb : Nat → Nat} {gb : Nat} (h : RsD w B v l vs cb gb) {i : Nat} (hi : i < l.length) (h6 : (l.getD i []).length = 6) : ∃ cp, vs i = .slice (some ⟨cb i, 0, none⟩) 6 cp ∧ 6 ≤ cp ∧ w.cell? ⟨gb, i, none⟩ = some (.slice (some ⟨cb i, 0, none⟩) 6 cp) ∧ KsD w (cb i) (l.getD i []) ∧ cb i < w.heap.size ∧ w.frozen? ⟨gb, i, none⟩ = false := by
  obtain ⟨h1, h2⟩ := h.own i hi
  obtain ⟨cp, e, hcp⟩ : ∃ cp, vs i = .slice (some ⟨cb i, 0, none⟩) 6 cp ∧ 6 ≤ cp := by
    rcases h1.2 with ⟨k1, k2⟩ | ⟨g, cap', cur, k1, _, _, k3, _⟩
    · rw [h6] at k2; omega
    · rw [k1] at h2; simp [Value.ownBlock] at h2
      rw [h6] at k1 k3
      exact ⟨cap', by rw [k1, h2], k3⟩
  obtain ⟨cpv, ev⟩ : ∃ cpv, v = .slice (some ⟨gb, 0, none⟩) l.length cpv := by
    have ho := h.ob
    rcases h.row.2 with ⟨k1, k2⟩ | ⟨g, cap', cur, k1, _⟩
    · omega
    · rw [k1] at ho; simp [Value.ownBlock] at ho
      exact ⟨cap', by rw [k1, ho]⟩
  have hr := h.row
  rw [ev] at hr
  have hc := hr.cells rfl i (vs i) (by simp [hi])
  rw [add_at, Nat.zero_add, e] at hc
  rw [e] at h1
  refine ⟨cp, e, hcp, hc, ownsKd_ksd h1, (h1.lt _ rfl).2, ?_⟩
  obtain ⟨_, k | ⟨g', cap', cur, e', _, hg', _⟩⟩ := hr
  · cases k.1
  · simp only [Value.slice.injEq, Option.some.injEq, Addr.mk.injEq] at e'
    rw [← e'.1.1] at hg'
    simp [World.frozen?, hg']
theorem RsD.form {w : World} {B : Nat} {v : Value} {l : List (List K)} {vs : Nat → Value} {cb : Nat → Nat} {gb : Nat} (h : RsD w B v l vs cb gb) : ∃ cap, v = .slice (some ⟨gb, 0, none⟩) l.length cap ∧ l.length ≤ cap := by
  have ho := h.ob
  rcases h.row.2 with ⟨k1, k2⟩ | ⟨g, cap', cur, k1, _, _, k3, _⟩
  · rw [k1] at ho; cases ho
  · rw [k1] at ho; simp [Value.ownBlock] at ho
    exact ⟨cap', by rw [k1, ho], k3⟩

/-! the function -/
def OkR6 (r : List K) : Prop := (∀ c ∈ r, OkK c) ∧ r.length = 6
def nextR (l : List Int) (F : Nat → K × Nat) (rs : List (List K)) (j : Nat) : List K × Nat :=
  if l.getD j 0 % 8 = 0 then (ruleD l F (j + 1), ruleJ l F (j + 1))
  else (nearR l F (rs.getD (l.getD (j + 1) 0 % (rs.length : Int)).toNat []) (j + 2), nearRJ l F (rs.getD (l.getD (j + 1) 0 % (rs.length : Int)).toNat []) (j + 2))
def goR (l : List Int) (F : Nat → K × Nat) : Nat → List (List K) → Nat → List (List K) × Nat
  | 0, rs, j => (rs, j)
  | f + 1, rs, j => if j < l.length then goR l F f (rs ++ [(nextR l F rs j).1]) (nextR l F rs j).2 else (rs, j)
def rulesD (l : List Int) (F : Nat → K × Nat) (j : Nat) : List (List K) × Nat := goR l F (l.getD j 0 % 9).toNat [ruleD l F (j + 1)] (ruleJ l F (j + 1))
theorem nextR_ok {l : List Int} (hl : isBytes l) {F : Nat → K × Nat} (hF : KdF l F) {rs : List (List K)} (h : ∀ r ∈ rs, OkR6 r) (h0 : 0 < rs.length) (j : Nat) : OkR6 (nextR l F rs j).1 := by
  unfold nextR
  split
  · exact ruleD_ok hF _
  · have hlt : (l.getD (j + 1) 0 % (rs.length : Int)).toNat < rs.length := by
      have := Int.emod_nonneg (l.getD (j + 1) 0) (show (rs.length : Int) ≠ 0 by omega)
      have := Int.emod_lt_of_pos (l.getD (j + 1) 0) (show (0 : Int) < rs.length by omega)
      omega
    have hr : OkR6 (rs.getD (l.getD (j + 1) 0 % (rs.length : Int)).toNat []) := by
      rw [List.getD_eq_getElem?_getD, List.getElem?_eq_getElem hlt]
      exact h _ (List.getElem_mem hlt)
    exact nearR_ok hl hF hr.1 hr.2 (j + 2)
theorem goR_ok {l : List Int} (hl : isBytes l) {F : Nat → K × Nat} (hF : KdF l F) (f : Nat) (rs : List (List K)) (j : Nat) (h : ∀ r ∈ rs, OkR6 r) (h0 : 0 < rs.length) : (∀ r ∈ (goR l F f rs j).1, OkR6 r) ∧ 0 < (goR l F f rs j).1.length ∧ (goR l F f rs j).1.length ≤ rs.length + f := by
  induction f generalizing rs j with
  | zero => exact ⟨h, h0, by simp [goR]⟩
  | succ f ih =>
    unfold goR
    split
    · have := ih (rs ++ [(nextR l F rs j).1]) (nextR l F rs j).2 (fun r hr => by
        simp only [List.mem_append, List.mem_singleton] at hr
        rcases hr with hr | rfl
        · exact h r hr
        · exact nextR_ok hl hF h h0 j) (by simp)
      refine ⟨this.1, this.2.1, ?_⟩
      have := this.2.2
      simp only [List.length_append, List.length_singleton] at this
      omega
    · exact ⟨h, h0, by show rs.length ≤ _; omega⟩
theorem rulesD_ok {l : List Int} (hl : isBytes l) {F : Nat → K × Nat} (hF : KdF l F) (j : Nat) : (∀ r ∈ (rulesD l F j).1, OkR6 r) ∧ 0 < (rulesD l F j).1.length ∧ (rulesD l F j).1.length ≤ 9 := by
  have hb := isBytes_getD hl j
  have := goR_ok hl hF (l.getD j 0 % 9).toNat [ruleD l F (j + 1)] (ruleJ l F (j + 1)) (fun r hr => by
    simp only [List.mem_singleton] at hr; subst hr; exact ruleD_ok hF _) (by simp)
  refine ⟨this.1, this.2.1, ?_⟩
  have := this.2.2
  simp only [List.length_singleton] at this
  unfold rulesD
  omega

/-- the state of l3drawRules -/
structure LrS (w W : World) (R : Nat) (ad : Option Addr) (cap : Nat) (l : List Int) (j : Nat) (v : Value) (rs : List (List K)) : Prop where
  rd : Rd W R ad cap l j
  gr : w.grownBy W (some R)
  lt : R < w.heap.size
  own : ∃ vs cb gb, RsD W w.heap.size v rs vs cb gb
section
variable {w W W1 : World} {R cap j j1 : Nat} {ad : Option Addr} {l : List Int} {v : Value} {rs : List (List K)}
theorem LrS.draw (h : LrS w W R ad cap l j v rs) (hr : Rd W1 R ad cap l j1) (hg : W.grownBy W1 (some R)) : LrS w W1 R ad cap l j1 v rs := by
  obtain ⟨vs, cb, gb, ho⟩ := h.own
  exact ⟨hr, rb_trans h.gr hg, h.lt, vs, cb, gb, ho.kept hg h.lt⟩
theorem LrS.alloc (h : LrS w W R ad cap l j v rs) (o : Obj) : LrS w (W.alloc o) R ad cap l j v rs := h.draw (h.rd.alloc o) (rb_alloc (World.grownBy.refl _ _) _)
/-- a rule more -/
theorem LrS.push {W9 : World} {v' : Value} {r : List K} {gg cp : Nat} {o : Obj} (h : LrS w W R ad cap l j v rs) (hr : Rd W9 R ad cap l j1) (hg : W.grownBy W9 (some R)) (hv : ownsKd W9 W.heap.size v' r) (h6 : r.length = 6)
    (hown : ∀ vs cb gb, RsD W w.heap.size v rs vs cb gb → W1.ownsRow w.heap.size 44 1 (.slice (some ⟨gg, 0, none⟩) (rs.length + 1) cp) (rs.length + 1) ((List.range rs.length).map vs ++ [v'])) (hgr : (W9.alloc o).grownBy W1 v.ownBlock) (hat : v.ownBlock = some gg ∨ gg = (W9.alloc o).heap.size) :
    LrS w W1 R ad cap l j1 (.slice (some ⟨gg, 0, none⟩) (rs.length + 1) cp) (rs ++ [r]) := by
  obtain ⟨vs, cb, gb, ho⟩ := h.own
  obtain ⟨q, hq⟩ : ∃ q, v'.ownBlock = some q := by
    rcases hv.2 with ⟨k1, k2⟩ | ⟨g, cap', cur, k1, _⟩
    · omega
    · exact ⟨g, by rw [k1]; rfl⟩
  have hge : ∀ k, v.ownBlock = some k → w.heap.size ≤ k := fun k hk => (ho.row.lt k hk).1
  have hb2 : W9.grownBy (W9.alloc o) (some R) := rb_alloc (World.grownBy.refl _ _) _
  exact ⟨(hr.alloc o).grown hgr h.lt hge, rb_own (rb_trans (rb_trans h.gr hg) hb2) hgr hge, h.lt, _, _, _, ho.next h.gr.size hg h.lt hv hq (hown _ _ _ ho) hgr hat⟩
end
end Go.Proofs.YtoamapdfcdefjaaGreat
namespace Go.Proofs.YtoamapdfcdefjaaGreat
open Go.RowKit Go.Deep
set_option linter.unusedVariables false

set_option maxHeartbeats 1000000 in
theorem left_anyD (R cap : Nat) (a : Option Addr) (l : List Int) (j : Nat) (w : World) (hR : Rd w R a cap l j) :
    Calls Tryz.prog 60 #[.pointer (some ⟨R, 0, none⟩)] w fun e w' => e = .returned (.int .i64 ((l.length : Int) - ((min j l.length : Nat) : Int))) ∧ Rd w' R a cap l j ∧ w.grownBy w' (some R) := by
  have c0 : w.cell? ⟨R, 0, none⟩ = some (.slice a l.length cap) := World.rowIs.cell hR.row (by omega)
  have c1 : w.cell? ⟨R, 1, none⟩ = some (.int .i64 ((min j l.length : Nat) : Int)) := World.rowIs.cell hR.row (by omega)
  have hlen := hR.len
  have hq : min j l.length ≤ l.length := Nat.min_le_right _ _
  have HR : Hid (∀ n, Rd (w.drewN n) R a cap l j) := fun n => hR.drewN n
  clear hR
  generalize min j l.length = q at *
  generalize l.length = n at *
  go_enter Tryz.func60, Tryz.ntmps60
  go_wp2_with fail
  go_quiet (fail)
  go_wp2
  go_ret
  refine ⟨ret_int ?_, HR.out _, rb_drewN (World.grownBy.refl _ _) _⟩
  first | rfl | (rw [IntKind.wrap_i64]; omega)

theorem RsD.same {w : World} {B B' : Nat} {v : Value} {l : List (List K)} {vs vs' : Nat → Value} {cb cb' : Nat → Nat} {gb gb' : Nat} (h : RsD w B v l vs cb gb) (h' : RsD w B' v l vs' cb' gb') : (List.range l.length).map vs = (List.range l.length).map vs' := by
  have ho := h.ob
  obtain ⟨_, q1 | ⟨g1, c1, cur1, e1, _, hh1, _, _, _, hx1⟩⟩ := h.row
  · rw [q1.1] at ho; cases ho
  · obtain ⟨_, q2 | ⟨g2, c2, cur2, e2, _, hh2, _, _, _, hx2⟩⟩ := h'.row
    · rw [q2.1] at ho; cases ho
    · rw [e1] at e2
      simp only [Value.slice.injEq, Option.some.injEq, Addr.mk.injEq] at e2
      have : g1 = g2 := e2.1.1
      subst this
      rw [hh1] at hh2
      simp only [Option.some.injEq, Obj.cells.injEq] at hh2
      rw [← hx1, ← hx2, hh2.1]

set_option maxRecDepth 100000 in
set_option maxHeartbeats 4000000 in
theorem drawRules_any (l : List Int) (F : Nat → K × Nat) (hF : KdF l F) (R cap : Nat) (ad : Option Addr) (j : Nat) (w : World) (hR : Rd w R ad cap l j) :
    Calls Tryz.prog 42 #[.pointer (some ⟨R, 0, none⟩), .int .i64 9] w fun e w' => ∃ v, e = .returned v ∧ LrS w w' R ad cap l (rulesD l F j).2 v (rulesD l F j).1 := by
  obtain ⟨i1, hi1, hy0, hy1, hy2⟩ := info_parts infoRuleD
  have HBy : Hid (isBytes l) := hR.bys
  have HN : Hid (∀ t W, Rd W R ad cap l t → Calls Tryz.prog 13 #[.pointer (some ⟨R, 0, none⟩)] W fun e w' => e = .returned (.int .i64 (l.getD t 0)) ∧ Rd w' R ad cap l (t + 1) ∧ W.grownBy w' (some R)) := fun t W h => next_any R cap ad l t W h
  have HLf : Hid (∀ t W, Rd W R ad cap l t → Calls Tryz.prog 60 #[.pointer (some ⟨R, 0, none⟩)] W fun e w' => e = .returned (.int .i64 ((l.length : Int) - ((min t l.length : Nat) : Int))) ∧ Rd w' R ad cap l t ∧ W.grownBy w' (some R)) := fun t W h => left_anyD R cap ad l t W h
  have HB : Hid (∀ t, 0 ≤ l.getD t 0 ∧ l.getD t 0 ≤ 255) := isBytes_getD hR.bys
  have HDr : Hid (∀ t W, Rd W R ad cap l t → Calls Tryz.prog 59 #[.pointer (some ⟨R, 0, none⟩)] W fun e w' => ∃ g cp, e = .returned (.agg #[.slice (some ⟨g, 0, none⟩) 6 cp]) ∧ ownsKd w' W.heap.size (.slice (some ⟨g, 0, none⟩) 6 cp) (ruleD l F t) ∧ Rd w' R ad cap l (ruleJ l F t) ∧ W.grownBy w' (some R)) := fun t W h => (drawRule_any l F hF R cap ad t W h).mono fun e w' ⟨v, h1, h2, h3, h4⟩ => by
    rcases h2.2 with ⟨k1, k2⟩ | ⟨g, cap', cur, k1, _⟩
    · rw [(ruleD_ok hF t).2] at k2; omega
    · rw [(ruleD_ok hF t).2] at k1; subst k1; exact ⟨g, cap', h1, h2, h3, h4⟩
  have HNr : Hid (∀ b ca (ks : List K) t W, OkR6 ks → Rd W R ad cap l t → KsD W b ks → b < W.heap.size → Calls Tryz.prog 61 #[.agg #[.slice (some ⟨b, 0, none⟩) 6 ca], .pointer (some ⟨R, 0, none⟩)] W fun e w' => ∃ g cp, e = .returned (.agg #[.slice (some ⟨g, 0, none⟩) 6 cp]) ∧ ownsKd w' W.heap.size (.slice (some ⟨g, 0, none⟩) 6 cp) (nearR l F ks t) ∧ Rd w' R ad cap l (nearRJ l F ks t) ∧ W.grownBy w' (some R)) := fun b ca ks t W ho h1 h2 h3 => (nearRule_any l F hF b ca ks ho.2 ho.1 R cap ad t W h1 h2 h3).mono fun e w' ⟨v, q1, q2, q3, q4⟩ => by
    have h6 := (nearR_ok h1.bys hF ho.1 ho.2 t).2
    rcases q2.2 with ⟨k1, k2⟩ | ⟨g, cap', cur, k1, _⟩
    · rw [h6] at k2; omega
    · rw [h6] at k1; subst k1; exact ⟨g, cap', q1, q2, q3, q4⟩
  have HO1 : Hid (∀ t, OkR6 (ruleD l F t)) := fun t => ruleD_ok hF t
  have HO2 : Hid (∀ rs t, (∀ r ∈ rs, OkR6 r) → 0 < rs.length → OkR6 (nextR l F rs t).1) := fun rs t h h0 => nextR_ok HBy.out hF h h0 t
  have hRw := hR.lt
  have hx0 := HB.out j
  obtain ⟨N, hN⟩ : ∃ N : Nat, (N : Int) = l.getD j 0 % 9 := ⟨(l.getD j 0 % 9).toNat, by omega⟩
  have hN8 : N ≤ 8 := by omega
  obtain ⟨RES, hRES⟩ : ∃ RES, rulesD l F j = RES := ⟨_, rfl⟩
  have HG0 : Hid (goR l F (N + 1 - 1) [ruleD l F (j + 1)] (ruleJ l F (j + 1)) = RES) := by unfold Hid; rw [← hRES]; unfold rulesD; rw [show (l.getD j 0 % 9).toNat = N by omega]; rfl
  rw [hRES]
  clear hRES
  have HN0 : Hid (∀ W, Rd W R ad cap l j → Calls Tryz.prog 13 #[.pointer (some ⟨R, 0, none⟩)] W fun e w' => e = .returned (.int .i64 (l.getD j 0)) ∧ Rd w' R ad cap l (j + 1) ∧ W.grownBy w' (some R)) := HN.out j
  have HD0 : Hid (∀ W, Rd W R ad cap l (j + 1) → Calls Tryz.prog 59 #[.pointer (some ⟨R, 0, none⟩)] W fun e w' => ∃ g cp, e = .returned (.agg #[.slice (some ⟨g, 0, none⟩) 6 cp]) ∧ ownsKd w' W.heap.size (.slice (some ⟨g, 0, none⟩) 6 cp) (ruleD l F (j + 1)) ∧ Rd w' R ad cap l (ruleJ l F (j + 1)) ∧ W.grownBy w' (some R)) := fun W h => HDr.out (j + 1) W h
  have HO0 := HO1.out (j + 1)
  have HO0' : Hid _ := HO0
  generalize l.getD j 0 = x0 at *
  generalize ruleD l F (j + 1) = r0 at *
  generalize ruleJ l F (j + 1) = j0 at *
  have HNe0 : Hid ((N : Int) = x0 % 9) := hN
  clear hN hF HO0
  go_enter Tryz.func42, Tryz.ntmps42
  go_wp2_with fail
  refine (HN0.out _ hR).mono ?_
  rintro _ w1 ⟨rfl, hR1, hg1⟩
  go_wp2_with fail
  rw [← HNe0.out]
  refine (HD0.out _ hR1).mono ?_
  rintro _ w2 ⟨g0, cp0, rfl, o0, hR2, hg2⟩
  clear HN0 HD0 HNe0 hx0
  have S0 : LrS w (w2.alloc (.cells #[.slice (some ⟨g0, 0, none⟩) 6 cp0] 44)) R ad cap l j0 (.slice (some ⟨w2.heap.size, 0, none⟩) 1 1) [r0] := by
    have hg0 := o0.lt g0 rfl
    have hs1 := hg1.size
    have a1 := rb_alloc (World.grownBy.refl w2 (some R)) (.cells #[.slice (some ⟨g0, 0, none⟩) 6 cp0] 44)
    have hs2 : (w2.alloc (.cells #[.slice (some ⟨g0, 0, none⟩) 6 cp0] 44)).heap.size = w2.heap.size + 1 := by simp
    refine ⟨hR2.alloc _, rb_trans (rb_trans hg1 hg2) a1, hRw, fun _ => .slice (some ⟨g0, 0, none⟩) 6 cp0, fun _ => g0, w2.heap.size, ⟨⟨by simp, .inr ⟨w2.heap.size, 1, #[.slice (some ⟨g0, 0, none⟩) 6 cp0], rfl, by have := hg2.size; omega, heap_alloc_new _ _, by first | (simp; done) | (unfold maxLen; omega), by first | (simp; done) | (unfold maxLen; omega), by first | (simp; done) | (unfold maxLen; omega), by first | (simp; done) | (unfold maxLen; omega)⟩⟩, rfl, fun i hi => ?_, fun i hi => by omega, fun i j h1 h2 => by simp at h2; omega⟩⟩
    have : i = 0 := by simpa using hi
    subst this
    exact ⟨row_monoD (World.ownsRow.kept o0 a1 (.inr (by simp [Value.ownBlock]; omega))) (by omega), rfl⟩
  clear o0 hR2 hg2 hR1 hg1
  go_wp2_with fail
  generalize w2.alloc (.cells #[.slice (some ⟨g0, 0, none⟩) 6 cp0] 44) = W0 at *
  generalize w2.heap.size = D0 at *
  go_loopw [6, 7] (fun s u wr => ∃ (v : Value) (i jj : Nat) (rs : List (List K)), v = s ∧ u = .int .i64 (i : Int) ∧ (1 ≤ i ∧ i ≤ N + 1) ∧ LrS w wr R ad cap l jj v rs ∧ Hid (∀ r ∈ rs, OkR6 r) ∧ Hid (0 < rs.length ∧ rs.length ≤ i) ∧ Hid (goR l F (N + 1 - i) rs jj = RES)) (fun _ u _ => N + 1 - (intOf u).toNat)
  case atStart => exact ⟨_, 1, j0, [r0], rfl, rfl, by omega, S0, fun r hr => by simp only [List.mem_singleton] at hr; subst hr; exact HO0'.out, ⟨by simp, by simp⟩, HG0⟩
  case round =>
    obtain ⟨v, i, jj, rs, rfl, rfl, ⟨hi1', hiN⟩, S, hok, hol, HG⟩ := hrel
    clear S0 HG0 HO0'
    by_cases hlt : i < N + 1
    · have hlt' : (i : Int) < 1 + (N : Int) := by omega
      obtain ⟨f, hf⟩ : ∃ f, N + 1 - i = f + 1 := ⟨N - i, by omega⟩
      have hf2 : N + 1 - (i + 1) = f := by omega
      rw [hf] at HG
      have HG1 : Hid ((if jj < l.length then goR l F f (rs ++ [(nextR l F rs jj).1]) (nextR l F rs jj).2 else (rs, jj)) = RES) := HG
      clear HG
      have hmin : (jj < l.length → (0 : Int) < (l.length : Int) - ((min jj l.length : Nat) : Int)) ∧ (¬ jj < l.length → (l.length : Int) - ((min jj l.length : Nat) : Int) = 0) := by omega
      have HLf2 : Hid (∀ W, Rd W R ad cap l jj → Calls Tryz.prog 60 #[.pointer (some ⟨R, 0, none⟩)] W fun e w' => e = .returned (.int .i64 ((l.length : Int) - ((min jj l.length : Nat) : Int))) ∧ Rd w' R ad cap l jj ∧ W.grownBy w' (some R)) := HLf.out jj
      generalize ((l.length : Int) - ((min jj l.length : Nat) : Int)) = lf at *
      by_cases hin : jj < l.length
      · have HG2 : Hid (goR l F f (rs ++ [(nextR l F rs jj).1]) (nextR l F rs jj).2 = RES) := by have := HG1.out; rw [if_pos hin] at this; exact this
        have hle := hmin.1 hin
        clear HG1 hmin hin
        have HO3 := HO2.out rs jj hok.out hol.out.1
        have HO3' : Hid _ := HO3
        have hx := HB.out jj
        have HN2 : Hid (∀ W, Rd W R ad cap l jj → Calls Tryz.prog 13 #[.pointer (some ⟨R, 0, none⟩)] W fun e w' => e = .returned (.int .i64 (l.getD jj 0)) ∧ Rd w' R ad cap l (jj + 1) ∧ W.grownBy w' (some R)) := HN.out jj
        clear HO3
        generalize hX : l.getD jj 0 = x at *
        have HX : Hid (l.getD jj 0 = x) := hX
        clear hX
        go_wp2_with fail
        refine (HLf2.out _ S.rd).mono ?_
        rintro _ w3 ⟨rfl, hR3, hg3⟩
        have S3 := S.draw hR3 hg3
        clear hR3 hg3 S HLf2
        go_wp2_with fail
        refine (HN2.out _ S3.rd).mono ?_
        rintro _ w4 ⟨rfl, hR4, hg4⟩
        have S4 := S3.draw hR4 hg4
        clear hR4 hg4 S3 HN2 hle
        by_cases hA : x % 8 = 0
        · have eN : nextR l F rs jj = (ruleD l F (jj + 1), ruleJ l F (jj + 1)) := by unfold nextR; rw [HX.out, if_pos hA]
          have HG3 := HG2.out
          have HO4 := HO3'.out
          rw [eN] at HG3 HO4
          simp only at HG3 HO4
          have HD0 : Hid (∀ W, Rd W R ad cap l (jj + 1) → Calls Tryz.prog 59 #[.pointer (some ⟨R, 0, none⟩)] W fun e w' => ∃ g cp, e = .returned (.agg #[.slice (some ⟨g, 0, none⟩) 6 cp]) ∧ ownsKd w' W.heap.size (.slice (some ⟨g, 0, none⟩) 6 cp) (ruleD l F (jj + 1)) ∧ Rd w' R ad cap l (ruleJ l F (jj + 1)) ∧ W.grownBy w' (some R)) := fun W h => HDr.out (jj + 1) W h
          generalize ruleD l F (jj + 1) = r1 at *
          generalize ruleJ l F (jj + 1) = j1 at *
          have HG4 : Hid _ := HG3
          have HO5 : Hid _ := HO4
          clear HG3 HO4 eN HG2 HO3' HX HN HLf HDr HNr HO1 HO2
          go_wp2_with fail
          refine (HD0.out _ S4.rd).mono ?_
          rintro _ w5 ⟨g5, cp5, rfl, o5, hR5, hg5⟩
          have S5 := S4.draw hR5 hg5
          obtain ⟨vs, cb, gb, ho4⟩ := S4.own
          have ho5 := (ho4.kept hg5 S4.lt).row
          obtain ⟨cpv, ev, hcv⟩ := ho4.form
          subst ev
          have hb5 : w.heap.size ≤ w5.heap.size := S5.gr.size
          have hol' : rs.length ≤ 9 := by have := hol.out; omega
          have hoA : World.ownsRow (w5.alloc (.cells #[.slice (some ⟨g5, 0, none⟩) 6 cp5] 44)) w.heap.size 44 1 (.slice (some ⟨gb, 0, none⟩) rs.length cpv) rs.length ((List.range rs.length).map vs) := ho5.alloc _
          clear HD0
          go_wp2_with (at_builtin; refine wpList_append_lies _ rfl (.tmp 33) (.tmp 36) 35 rfl w.heap.size 44 i1 _ 1 24 Tryz.underlying35 hi1 hy0 hy1 hy2 rfl (by decide) _ rs.length _ rfl hoA ⟨w5.heap.size, 0, none⟩ 1 1 [.slice (some ⟨g5, 0, none⟩) 6 cp5] rfl rfl (World.news_of_block (t := 44) (fr := (0, 0)) (heap_alloc_new w5 _)) (by simp [Value.oneCell']) (by omega) (by unfold maxLen; omega) (by omega) (by simp; omega) (w5.heap.size + 1) (by simp) ?_)
          intro g' cp' w9 ow gr hat _
          have S9 : LrS w w9 R ad cap l j1 (.slice (some ⟨g', 0, none⟩) (rs.length + 1) cp') (rs ++ [r1]) := S4.push hR5 hg5 o5 HO5.out.2 (fun vs' cb' gb' h' => by rw [RsD.same h' ho4]; exact ow) gr (by simpa using hat)
          have HO6 : Hid (∀ r ∈ rs ++ [r1], OkR6 r) := fun r hr => by
            simp only [List.mem_append, List.mem_singleton] at hr
            rcases hr with hr | rfl
            · exact hok.out r hr
            · exact HO5.out
          have HL6 : Hid (0 < (rs ++ [r1]).length ∧ (rs ++ [r1]).length ≤ i + 1) := by have := hol.out; unfold Hid; simp; omega
          clear ow gr S4 S5 ho4 ho5 hoA o5 hR5 hg5 hat hok hol HO5
          go_wp2
          go_roundw
          case rel => exact ⟨_, i + 1, j1, _, rfl, by go_num, by omega, S9, HO6, HL6, by unfold Hid; rw [hf2]; exact HG4.out⟩
          case measure => simp [intOf]; omega
        · have hyb := HB.out (jj + 1)
          have HN3 : Hid (∀ W, Rd W R ad cap l (jj + 1) → Calls Tryz.prog 13 #[.pointer (some ⟨R, 0, none⟩)] W fun e w' => e = .returned (.int .i64 (l.getD (jj + 1) 0)) ∧ Rd w' R ad cap l (jj + 2) ∧ W.grownBy w' (some R)) := fun W h => HN.out (jj + 1) W h
          have eN : nextR l F rs jj = (nearR l F (rs.getD (l.getD (jj + 1) 0 % (rs.length : Int)).toNat []) (jj + 2), nearRJ l F (rs.getD (l.getD (jj + 1) 0 % (rs.length : Int)).toNat []) (jj + 2)) := by unfold nextR; rw [HX.out, if_neg hA]
          generalize l.getD (jj + 1) 0 = y at *
          have hp0 := hol.out.1
          have hp1 : ¬ (rs.length : Int) = 0 := by omega
          obtain ⟨q, hq⟩ : ∃ q : Nat, (q : Int) = y % (rs.length : Int) := ⟨(y % (rs.length : Int)).toNat, by have := Int.emod_nonneg y hp1; omega⟩
          have hql : q < rs.length := by have := Int.emod_lt_of_pos y (show (0 : Int) < rs.length by omega); omega
          have hqn : (y % (rs.length : Int)).toNat = q := by rw [← hq]; simp
          have hqa : (0 : Int) ≤ y % (rs.length : Int) := by rw [← hq]; omega
          have hqb : y % (rs.length : Int) < (rs.length : Int) := by rw [← hq]; omega
          rw [hqn] at eN
          have hRq : OkR6 (rs.getD q []) := by
            rw [List.getD_eq_getElem?_getD, List.getElem?_eq_getElem hql]
            exact hok.out _ (List.getElem_mem hql)
          have HRq : Hid _ := hRq
          have HG3 := HG2.out
          have HO4 := HO3'.out
          rw [eN] at HG3 HO4
          simp only at HG3 HO4
          obtain ⟨vs, cb, gb, ho4⟩ := S4.own
          obtain ⟨cpv, ev, hcv⟩ := ho4.form
          subst ev
          have HD0 : Hid (∀ b ca W, Rd W R ad cap l (jj + 2) → KsD W b (rs.getD q []) → b < W.heap.size → Calls Tryz.prog 61 #[.agg #[.slice (some ⟨b, 0, none⟩) 6 ca], .pointer (some ⟨R, 0, none⟩)] W fun e w' => ∃ g cp, e = .returned (.agg #[.slice (some ⟨g, 0, none⟩) 6 cp]) ∧ ownsKd w' W.heap.size (.slice (some ⟨g, 0, none⟩) 6 cp) (nearR l F (rs.getD q []) (jj + 2)) ∧ Rd w' R ad cap l (nearRJ l F (rs.getD q []) (jj + 2)) ∧ W.grownBy w' (some R)) := fun b ca W h1 h2 h3 => HNr.out b ca _ (jj + 2) W HRq.out h1 h2 h3
          have HAt : Hid (∀ W, RsD W w.heap.size (.slice (some ⟨gb, 0, none⟩) rs.length cpv) rs vs cb gb → ∃ cp, vs q = .slice (some ⟨cb q, 0, none⟩) 6 cp ∧ 6 ≤ cp ∧ W.cell? ⟨gb, q, none⟩ = some (.slice (some ⟨cb q, 0, none⟩) 6 cp) ∧ KsD W (cb q) (rs.getD q []) ∧ cb q < W.heap.size ∧ W.frozen? ⟨gb, q, none⟩ = false) := fun W h => h.at hql HRq.out.2
          generalize nearR l F (rs.getD q []) (jj + 2) = r1 at *
          generalize nearRJ l F (rs.getD q []) (jj + 2) = j1 at *
          have HG4 : Hid _ := HG3
          have HO5 : Hid _ := HO4
          clear HG3 HO4 eN HG2 HO3' HX HN HLf HDr HNr HO1 HO2 hRq
          go_wp2_with fail
          refine (HN3.out _ S4.rd).mono ?_
          rintro _ w5 ⟨rfl, hR5, hg5⟩
          have S5 := S4.draw hR5 hg5
          have ho5 := ho4.kept hg5 S4.lt
          obtain ⟨cpq, evq, hcpq, cq, kq, lq, _⟩ := HAt.out _ ho5
          clear ho4 S4 hR5 hg5 HN3
          have S6 := S5.alloc (.cells #[.slice (some ⟨cb q, 0, none⟩) 6 cpq] 44)
          have a6 : w5.grownBy (w5.alloc (.cells #[.slice (some ⟨cb q, 0, none⟩) 6 cpq] 44)) (some R) := rb_alloc (World.grownBy.refl _ _) _
          have ho6 := ho5.kept a6 S5.lt
          obtain ⟨_, _, _, _, kq6, lq6, _⟩ := HAt.out _ ho6
          clear a6 kq lq
          go_wp2_with fail
          refine (HD0.out _ _ _ S6.rd kq6 lq6).mono ?_
          clear cq ho5 S5 HAt kq6 lq6 HD0
          generalize w5.alloc (.cells #[.slice (some ⟨cb q, 0, none⟩) 6 cpq] 44) = W6 at *
          rintro _ w7 ⟨g5, cp5, rfl, o5, hR7, hg7⟩
          have S7 := S6.draw hR7 hg7
          have ho7 := (ho6.kept hg7 S6.lt).row
          have hb5 : w.heap.size ≤ w7.heap.size := S7.gr.size
          have hol' : rs.length ≤ 9 := by have := hol.out; omega
          have hoA : World.ownsRow (w7.alloc (.cells #[.slice (some ⟨g5, 0, none⟩) 6 cp5] 44)) w.heap.size 44 1 (.slice (some ⟨gb, 0, none⟩) rs.length cpv) rs.length ((List.range rs.length).map vs) := ho7.alloc _
          go_wp2_with (at_builtin; refine wpList_append_lies _ rfl (.tmp 46) (.tmp 50) 35 rfl w.heap.size 44 i1 _ 1 24 Tryz.underlying35 hi1 hy0 hy1 hy2 rfl (by decide) _ rs.length _ rfl hoA ⟨w7.heap.size, 0, none⟩ 1 1 [.slice (some ⟨g5, 0, none⟩) 6 cp5] rfl rfl (World.news_of_block (t := 44) (fr := (0, 0)) (heap_alloc_new w7 _)) (by simp [Value.oneCell']) (by omega) (by unfold maxLen; omega) (by omega) (by simp; omega) (w7.heap.size + 1) (by simp) ?_)
          intro g' cp' w9 ow gr hat _
          have S9 : LrS w w9 R ad cap l j1 (.slice (some ⟨g', 0, none⟩) (rs.length + 1) cp') (rs ++ [r1]) := S6.push hR7 hg7 o5 HO5.out.2 (fun vs' cb' gb' h' => by rw [RsD.same h' ho6]; exact ow) gr (by simpa using hat)
          have HO6 : Hid (∀ r ∈ rs ++ [r1], OkR6 r) := fun r hr => by
            simp only [List.mem_append, List.mem_singleton] at hr
            rcases hr with hr | rfl
            · exact hok.out r hr
            · exact HO5.out
          have HL6 : Hid (0 < (rs ++ [r1]).length ∧ (rs ++ [r1]).length ≤ i + 1) := by have := hol.out; unfold Hid; simp; omega
          clear ow gr S6 S7 ho6 ho7 hoA o5 hR7 hg7 hat hok hol HO5 hqn hqa hqb
          go_wp2
          go_roundw
          case rel => exact ⟨_, i + 1, j1, _, rfl, by go_num, by omega, S9, HO6, HL6, by unfold Hid; rw [hf2]; exact HG4.out⟩
          case measure => simp [intOf]; omega
      · have HG2 : Hid ((rs, jj) = RES) := by have := HG1.out; rw [if_neg hin] at this; exact this
        have hle := hmin.2 hin
        clear HG1 hmin hin HN HDr HNr HO1 HO2 HLf
        subst hle
        go_wp2_with fail
        refine (HLf2.out _ S.rd).mono ?_
        rintro _ w3 ⟨rfl, hR3, hg3⟩
        have S3 := S.draw hR3 hg3
        clear hR3 hg3 S HLf2
        go_wp2
        go_ret
        rw [← HG2.out]
        exact ⟨_, rfl, S3⟩
    · have hin : i = N + 1 := by omega
      have HG2 : Hid ((rs, jj) = RES) := by have := HG.out; rw [show N + 1 - i = 0 by omega] at this; exact this
      have hlt' : ¬ (i : Int) < 1 + (N : Int) := by omega
      clear HG HN HDr HNr HO1 HO2 HLf
      go_wp2
      go_ret
      rw [← HG2.out]
      exact ⟨_, rfl, S⟩
end Go.Proofs.YtoamapdfcdefjaaGreat
namespace Go.Proofs.YtoamapdfcdefjaaGreat
open Go.RowKit Go.Deep
set_option linter.unusedVariables false

theorem infoEntD : (Tryz.prog.info? 37).map (fun i => (i.zero, i.size, i.bytes)) = some (some (.agg #[.int .u32 0, .int .u32 0, .slice none 0 0]), 3, 32) := by kernel_rfl
def entCd (e : E) (v : Value) : List Value := [.int .u32 e.arch, .int .u32 e.nr, v]
def entCsd (l : List E) (rv : Nat → Value) : List Value := (List.range l.length).flatMap fun i => entCd (l.getD i E.zero) (rv i)
theorem entCsd_len (l : List E) (rv : Nat → Value) : (entCsd l rv).length = l.length * 3 := by
  unfold entCsd
  generalize l.length = n
  induction n with
  | zero => rfl
  | succ n ih => rw [List.range_succ, List.flatMap_append, List.length_append, ih]; simp [entCd]; omega
theorem entCsd_snoc (l : List E) (e : E) (rv : Nat → Value) (v : Value) : entCsd (l ++ [e]) (fun i => if i = l.length then v else rv i) = entCsd l rv ++ entCd e v := by
  unfold entCsd
  rw [List.length_append, List.length_singleton, List.range_succ, List.flatMap_append]
  congr 1
  · rw [List.flatMap_def, List.flatMap_def]
    congr 1
    apply List.map_congr_left
    intro i hi
    have hi' := List.mem_range.1 hi
    show entCd ((l ++ [e]).getD i E.zero) (if i = l.length then v else rv i) = entCd (l.getD i E.zero) (rv i)
    rw [if_neg (by omega)]
    simp [List.getD_eq_getElem?_getD, List.getElem?_append_left hi']
  · simp [List.getD_eq_getElem?_getD]

/-- the block k is no row of entries -/
def NotE (w : World) (k : Nat) : Prop := ∀ cur, w.heap[k]? ≠ some (.cells cur 37 (0, 0))
/-- rules of their own between two blocks -/
def RsJ (w : World) (lo hi : Nat) (v : Value) (l : List (List K)) : Prop := ∃ vs cb gb, RsD w lo v l vs cb gb ∧ gb < hi ∧ ∀ i, i < l.length → cb i < hi
theorem ownsRow_notE {w : World} {B t s n q : Nat} {v : Value} {xs : List Value} (h : w.ownsRow B t s v n xs) (hq : v.ownBlock = some q) (ht : t ≠ 37) : NotE w q := fun cur hc => by
  obtain ⟨_, h | ⟨g, cap, cu, e, _, hg, _⟩⟩ := h
  · rw [h.1] at hq; cases hq
  · rw [e] at hq; simp [Value.ownBlock] at hq; subst hq
    rw [hg] at hc
    simp only [Option.some.injEq, Obj.cells.injEq] at hc
    exact ht hc.2.1
theorem RsJ.far {w w1 : World} {lo hi : Nat} {v : Value} {l : List (List K)} (h : RsJ w lo hi v l) (hb : ∀ k, lo ≤ k → k < hi → NotE w k → w1.heap[k]? = w.heap[k]?) : RsJ w1 lo hi v l := by
  obtain ⟨vs, cb, gb, h1, h2, h3⟩ := h
  refine ⟨vs, cb, gb, ⟨row_blockD h1.row (fun q hq => ?_), h1.ob, fun i hi => ⟨row_blockD (h1.own i hi).1 (fun q hq => ?_), (h1.own i hi).2⟩, h1.ne, h1.inc⟩, h2, h3⟩
  · have hn := ownsRow_notE h1.row hq (by decide)
    rw [h1.ob] at hq; cases hq
    exact hb _ (h1.row.lt _ h1.ob).1 h2 hn
  · have hn := ownsRow_notE (h1.own i hi).1 hq (by decide)
    rw [(h1.own i hi).2] at hq; cases hq
    exact hb _ ((h1.own i hi).1.lt _ (h1.own i hi).2).1 (h3 i hi) hn

/-- a policy in memory of its own -/
structure PsD (w : World) (B : Nat) (v : Value) (l : List E) (rv : Nat → Value) (lo hi : Nat → Nat) : Prop where
  row : w.ownsRow B 37 3 v l.length (entCsd l rv)
  own : ∀ i, i < l.length → RsJ w (lo i) (hi i) (rv i) (l.getD i E.zero).rules
  lt : ∀ i, i < l.length → B ≤ lo i ∧ hi i ≤ w.heap.size
  inc : ∀ i j, i < j → j < l.length → hi i ≤ lo j
theorem PsD.far {w w1 : World} {B : Nat} {v : Value} {l : List E} {rv : Nat → Value} {lo hi : Nat → Nat} (h : PsD w B v l rv lo hi) (hs : w.heap.size ≤ w1.heap.size) (hb : ∀ k, B ≤ k → k < w.heap.size → w1.heap[k]? = w.heap[k]?) : PsD w1 B v l rv lo hi :=
  ⟨row_blockD h.row (fun q hq => hb q (h.row.lt q hq).1 (h.row.lt q hq).2), fun i hi' => (h.own i hi').far (fun k h1 h2 _ => hb k (by have := (h.lt i hi').1; omega) (by have := (h.lt i hi').2; omega)), fun i hi' => ⟨(h.lt i hi').1, Nat.le_trans (h.lt i hi').2 hs⟩, h.inc⟩
theorem PsD.kept {w w1 : World} {B R : Nat} {v : Value} {l : List E} {rv : Nat → Value} {lo hi : Nat → Nat} (h : PsD w B v l rv lo hi) (hg : w.grownBy w1 (some R)) (hR : R < B) : PsD w1 B v l rv lo hi :=
  h.far hg.size fun k hk hs => hg.block k hs (by simp; omega)
theorem PsD.nil (w : World) (B : Nat) : PsD w B (.slice none 0 0) [] (fun _ => undef) (fun _ => 0) (fun _ => 0) := ⟨World.ownsRow_nil _ _ _ _, fun i hi => by simp at hi, fun i hi => by simp at hi, fun i j _ hj => by simp at hj⟩
theorem PsD.next {w w9 w1 : World} {B R : Nat} {v v' : Value} {l : List E} {e : E} {rv : Nat → Value} {lo hi : Nat → Nat} {gg cap : Nat} {o : Obj} (h : PsD w B v l rv lo hi) (hBw : B ≤ w.heap.size) (h9 : w.grownBy w9 (some R)) (hR : R < B) (hv : RsJ w9 w.heap.size w9.heap.size v' e.rules)
    (hown : w1.ownsRow B 37 3 (.slice (some ⟨gg, 0, none⟩) (l.length + 1) cap) (l.length + 1) (entCsd l rv ++ entCd e v')) (hg : (w9.alloc o).grownBy w1 v.ownBlock) :
    PsD w1 B (.slice (some ⟨gg, 0, none⟩) (l.length + 1) cap) (l ++ [e]) (fun i => if i = l.length then v' else rv i) (fun i => if i = l.length then w.heap.size else lo i) (fun i => if i = l.length then w9.heap.size else hi i) := by
  have hsz : (w9.alloc o).heap.size = w9.heap.size + 1 := by simp
  have hb2 : w9.grownBy (w9.alloc o) none := rb_alloc (World.grownBy.refl _ _) _
  have hws := h9.size
  have hg1 := hg.size
  have len1 : (l ++ [e]).length = l.length + 1 := by simp
  have hv9 : w9.ownsRow B 37 3 v l.length (entCsd l rv) := World.ownsRow.kept h.row h9 (by
    cases hv : v.ownBlock with
    | none => exact .inl rfl
    | some q => exact .inr (by have := (h.row.lt q hv).1; simp; omega))
  have blk : ∀ k, k < w9.heap.size → NotE w9 k → w1.heap[k]? = w9.heap[k]? := fun k hk hne => (hg.block k (by omega) (fun e => by
    obtain ⟨_, q | ⟨g, cap, cu, e', _, hg', _⟩⟩ := hv9
    · rw [q.1] at e; cases e
    · rw [e'] at e; simp [Value.ownBlock] at e; subst e
      exact hne _ hg')).trans (hb2.block k hk (by simp))
  refine ⟨by rw [len1, entCsd_snoc]; exact hown, fun i hi' => ?_, fun i hi' => ?_, fun i j hij hj => ?_⟩
  · rw [len1] at hi'
    by_cases e' : i = l.length
    · subst e'
      simp only [if_true]
      have e2 : (l ++ [e]).getD l.length E.zero = e := by simp [List.getD_eq_getElem?_getD]
      rw [e2]
      exact hv.far (fun k h1 h2 h3 => blk k h2 h3)
    · have hi'' : i < l.length := by omega
      simp only [if_neg e']
      have e2 : (l ++ [e]).getD i E.zero = l.getD i E.zero := by simp [List.getD_eq_getElem?_getD, List.getElem?_append_left hi'']
      rw [e2]
      have l1 := h.lt i hi''
      have f9 : RsJ w9 (lo i) (hi i) (rv i) (l.getD i E.zero).rules := (h.own i hi'').far (fun k h1 h2 _ => h9.block k (by omega) (by simp; omega))
      exact f9.far (fun k h1 h2 h3 => blk k (by omega) h3)
  · rw [len1] at hi'
    by_cases e' : i = l.length
    · simp only [if_pos e']; omega
    · simp only [if_neg e']
      have := h.lt i (by omega); omega
  · rw [len1] at hj
    by_cases e' : j = l.length
    · simp only [if_pos e']
      rw [if_neg (by omega)]
      exact (h.lt i (by omega)).2
    · simp only [if_neg e']
      rw [if_neg (by omega)]
      exact h.inc i j hij (by omega)
theorem PsD.form {w : World} {B : Nat} {v : Value} {l : List E} {rv : Nat → Value} {lo hi : Nat → Nat} (h : PsD w B v l rv lo hi) : ∃ a cap, v = .slice a l.length cap ∧ l.length ≤ cap ∧ (l ≠ [] → ∃ g, a = some ⟨g, 0, none⟩ ∧ B ≤ g ∧ g < w.heap.size) := by
  have hr := h.row
  rcases h.row.2 with ⟨k1, k2⟩ | ⟨g, cap', cur, k1, k5, _, k3, _⟩
  · exact ⟨none, 0, by rw [k1, k2], by omega, fun hne => absurd (List.eq_nil_of_length_eq_zero k2) hne⟩
  · exact ⟨_, cap', k1, k3, fun _ => ⟨g, rfl, k5, (hr.lt g (by rw [k1]; rfl)).2⟩⟩

/-! the function -/
def archP (i : Nat) (arch k : Int) : Int := if k % 5 = 0 ∨ i = 0 then arch + (k % 3 + 1) else arch
def nrP (i : Nat) (nr k : Int) : Int := if k > 250 then 4294967295 else if k % 5 = 0 ∨ i = 0 then k / 3 % 3 else nr + (1 + k / 5 % 4)
def goP (l : List Int) (F : Nat → K × Nat) : Nat → Nat → Int → Int → List E → Nat → List E × Nat
  | 0, _, _, _, P, j => (P, j)
  | f + 1, i, arch, nr, P, j =>
    if l.getD j 0 > 250 then (P ++ [⟨archP i arch (l.getD j 0), nrP i nr (l.getD j 0), (rulesD l F (j + 1)).1⟩], (rulesD l F (j + 1)).2)
    else goP l F f (i + 1) (archP i arch (l.getD j 0)) (nrP i nr (l.getD j 0)) (P ++ [⟨archP i arch (l.getD j 0), nrP i nr (l.getD j 0), (rulesD l F (j + 1)).1⟩]) (rulesD l F (j + 1)).2
def polD (l : List Int) (F : Nat → K × Nat) (j : Nat) : List E × Nat := goP l F (l.getD j 0 % 5).toNat 0 0 0 [] (j + 1)
/-- an entry as it is drawn -/
def OkE (e : E) : Prop := ((0 ≤ e.arch ∧ e.arch ≤ 4294967295) ∧ (0 ≤ e.nr ∧ e.nr ≤ 4294967295)) ∧ (∀ r ∈ e.rules, OkR6 r) ∧ 0 < e.rules.length ∧ e.rules.length ≤ 9
theorem archP_ok {i : Nat} {arch k : Int} (hk : 0 ≤ k ∧ k ≤ 255) (h : 0 ≤ arch ∧ arch ≤ 3 * i) : 0 ≤ archP i arch k ∧ archP i arch k ≤ 3 * (i + 1 : Nat) := by
  unfold archP
  split <;> omega
theorem nrP_ok {i : Nat} {nr k : Int} (hk : 0 ≤ k ∧ k ≤ 250) (h : 0 ≤ nr ∧ nr ≤ 2 + 4 * i) : 0 ≤ nrP i nr k ∧ nrP i nr k ≤ 2 + 4 * (i + 1 : Nat) := by
  unfold nrP
  rw [if_neg (by omega)]
  split <;> omega
theorem goP_ok {l : List Int} (hl : isBytes l) {F : Nat → K × Nat} (hF : KdF l F) (f i : Nat) (arch nr : Int) (P : List E) (j : Nat) (hi : i + f ≤ 4) (ha : 0 ≤ arch ∧ arch ≤ 3 * i) (hn : 0 ≤ nr ∧ nr ≤ 2 + 4 * i) (h : ∀ e ∈ P, OkE e) (hlen : P.length ≤ i) : (∀ e ∈ (goP l F f i arch nr P j).1, OkE e) ∧ (goP l F f i arch nr P j).1.length ≤ i + f := by
  induction f generalizing i arch nr P j with
  | zero => exact ⟨h, hlen⟩
  | succ f ih =>
    have hb := isBytes_getD hl j
    have h1 := archP_ok (i := i) hb ha
    have hr := rulesD_ok hl hF (j + 1)
    have hsn : ∀ n' : Int, 0 ≤ n' ∧ n' ≤ 4294967295 → ∀ e ∈ P ++ [(⟨archP i arch (l.getD j 0), n', (rulesD l F (j + 1)).1⟩ : E)], OkE e := fun n' hn' e he => by
      simp only [List.mem_append, List.mem_singleton] at he
      rcases he with he | rfl
      · exact h e he
      · exact ⟨⟨by show 0 ≤ archP i arch _ ∧ archP i arch _ ≤ _; omega, hn'⟩, hr⟩
    unfold goP
    split
    · rename_i h250
      have e : nrP i nr (l.getD j 0) = 4294967295 := by unfold nrP; rw [if_pos h250]
      rw [e]
      refine ⟨hsn _ (by omega), ?_⟩
      show (P ++ _).length ≤ _
      rw [List.length_append, List.length_singleton]; omega
    · have h2 := nrP_ok (i := i) (k := l.getD j 0) ⟨hb.1, by omega⟩ hn
      have := ih (i + 1) _ _ _ (rulesD l F (j + 1)).2 (by omega) h1 h2 (hsn _ ⟨h2.1, by omega⟩) (by rw [List.length_append, List.length_singleton]; omega)
      exact ⟨this.1, by have := this.2; omega⟩
theorem polD_ok {l : List Int} (hl : isBytes l) {F : Nat → K × Nat} (hF : KdF l F) (j : Nat) : (∀ e ∈ (polD l F j).1, OkE e) ∧ (polD l F j).1.length ≤ 4 := by
  have hb := isBytes_getD hl j
  have := goP_ok hl hF (l.getD j 0 % 5).toNat 0 0 0 [] (j + 1) (by omega) (by omega) (by omega) (by simp) (by simp)
  exact ⟨this.1, by have := this.2; unfold polD; omega⟩
end Go.Proofs.YtoamapdfcdefjaaGreat
