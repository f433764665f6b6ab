/-
  FilA, FilD, FilE, FilG
-/
import Derived.Test.YtoopomjkapeknaaQ09
import Derived.Test.YtoopomjkapeknaaQ11
import Derived.Laws.AppendOwnNone
import Derived.Deep.Onto
import Derived.Deep.AppendLies
import Derived.Test.YtoopomjkapeknaaQ13
namespace Go.Proofs.Ytoopomjkapeknaa
set_option linter.unusedVariables false

def layJ (l : List It) : Option (List I × Mk) := foJ l ([], fun _ => none)
theorem layJ_cons (x : It) (l : List It) : layJ (x :: l) = match layJ l with | none => none | some s => stJ x s := by
  unfold layJ
  simp only [foJ]
  cases foJ l ([], fun _ => none) <;> rfl
theorem layJ_drop {l : List It} {i : Nat} (h : i < l.length) : layJ (l.drop i) = match layJ (l.drop (i + 1)) with | none => none | some s => stJ (l.getD i It.zero) s := by
  have e : l.drop i = l.getD i It.zero :: l.drop (i + 1) := by
    rw [List.drop_eq_getElem_cons h, List.getD_eq_getElem?_getD, List.getElem?_eq_getElem h]; rfl
  rw [e]; exact layJ_cons _ _
theorem stJ_facts {x : It} {s t : List I × Mk} (h : stJ x s = some t) (hm : ∀ k a, s.2 k = some a → a ≤ s.1.length) : (∃ e, t.1 = s.1 ++ e ∧ e.length ≤ 2) ∧ ∀ k a, t.2 k = some a → a ≤ t.1.length := by
  unfold stJ at h
  split at h
  · cases h
    exact ⟨⟨[x.ins], rfl, by simp⟩, fun k a hk => by have := hm k a hk; simp; omega⟩
  · split at h
    · cases h
      refine ⟨⟨[], by simp, by simp⟩, fun k a hk => ?_⟩
      simp only at hk
      split at hk
      · cases hk; exact Nat.le_refl _
      · exact hm k a hk
    · split at h
      · cases h
      · cases h
        exact ⟨⟨_, rfl, (brI_len _ _).2⟩, fun k a hk => by have := hm k a hk; simp; omega⟩
theorem layJ_facts {l : List It} {s : List I × Mk} (h : layJ l = some s) : (∀ k a, s.2 k = some a → a ≤ s.1.length) ∧ s.1.length ≤ l.length * 2 := by
  induction l generalizing s with
  | nil => cases h; exact ⟨(fun k a hk => by cases hk), by simp⟩
  | cons x l ih =>
    rw [layJ_cons] at h
    cases h0 : layJ l with
    | none => rw [h0] at h; cases h
    | some t =>
      rw [h0] at h
      obtain ⟨h1, h2⟩ := ih h0
      obtain ⟨⟨e, h3, h4⟩, h5⟩ := stJ_facts h h1
      exact ⟨h5, by rw [h3, List.length_append, List.length_cons]; omega⟩
theorem layJ_part {l : List It} {s : List I × Mk} (h : layJ l = some s) (i : Nat) : ∃ t, layJ (l.drop i) = some t ∧ t.1.length ≤ s.1.length := by
  induction l generalizing s i with
  | nil => exact ⟨s, by simpa using h, Nat.le_refl _⟩
  | cons x l ih =>
    cases i with
    | zero => exact ⟨s, h, Nat.le_refl _⟩
    | succ i =>
      rw [layJ_cons] at h
      cases h0 : layJ l with
      | none => rw [h0] at h; cases h
      | some t =>
        rw [h0] at h
        obtain ⟨⟨e, h3, _⟩, _⟩ := stJ_facts h (layJ_facts h0).1
        obtain ⟨u, h5, h6⟩ := ih h0 i
        exact ⟨u, h5, by rw [h3, List.length_append]; omega⟩
def layJC (l : List It) : Int := match layJ l with | none => 1 | some s => if s.1.length ≤ 4096 then 0 else 10
def layJL (l : List It) : List I := match layJ l with | none => [] | some s => if s.1.length ≤ 4096 then s.1.reverse else []
theorem layj_ok {l : List It} {s : List I × Mk} (h : layJ l = some s) (hn : s.1.length ≤ 4096) : layJC l = 0 ∧ layJL l = s.1.reverse := by unfold layJC layJL; rw [h]; simp only; rw [if_pos hn, if_pos hn]; exact ⟨rfl, rfl⟩
theorem layj_big {l : List It} {s : List I × Mk} (h : layJ l = some s) (hn : 4096 < s.1.length) : layJC l = 10 ∧ layJL l = [] := by unfold layJC layJL; rw [h]; simp only; rw [if_neg (by omega), if_neg (by omega)]; exact ⟨rfl, rfl⟩
theorem items_same (p : List E) : (∃ s, layJ (itemsM p) = some s) ∧ layJC (itemsM p) = layC (itemsP p) ∧ layJL (itemsM p) = layL (itemsP p) := by
  obtain ⟨out, m, m', h1, h2⟩ := items_sim p
  have h1' : layJ (itemsM p) = some (out, m) := h1
  refine ⟨⟨_, h1'⟩, ?_⟩
  unfold layJC layJL layC layL
  rw [h1', h2]
  exact ⟨rfl, rfl⟩
end Go.Proofs.Ytoopomjkapeknaa
namespace Go.Proofs.Ytoopomjkapeknaa
open Go.RowKit
set_option linter.unusedVariables false

theorem itC_one (y : It) : ∀ u ∈ itC y, u.oneCell' = true := by
  intro u hu
  simp only [itC, List.mem_cons, List.not_mem_nil, or_false] at hu
  rcases hu with rfl | rfl | rfl | rfl | rfl | rfl <;> rfl
theorem itCs_one (l : List It) : ∀ u ∈ itCs l, u.oneCell' = true := by
  intro u hu
  obtain ⟨y, _, h⟩ := List.mem_flatMap.1 hu
  exact itC_one y u h
theorem itCs_app (p q : List It) : itCs (p ++ q) = itCs p ++ itCs q := by simp [itCs]
/-- one item is appended -/
theorem wpList_app1 {ops : Array Oper} {rest : List Oper} {o : Oper} {a : Act} {Q : Exit → Act → World → Prop} (w : World) (hgd : o.guard = none) (s x : Operand)
    (ho : o.op = .call { callee := .builtin .append, args := #[s, x], argTypes := #[41, 41] })
    (B : Nat) (v : Value) (l : List It) (hs : a.eval s = v) (hown : ownsT w B v l) (A : Nat) (y : It) (hx : a.eval x = .slice (some ⟨A, 0, none⟩) 1 1)
    (hc : ∀ j u, (itC y)[j]? = some u → w.cell? ((⟨A, 0, none⟩ : Addr).add j) = some u) (hn : l.length ≤ 1000000) (hB : B ≤ w.heap.size)
    (h : ∀ v' w', ownsT w' B v' (l ++ [y]) → Below B w w' → wpList Try.prog ops Q rest (a.put o.dst v') w') : wpList Try.prog ops Q (o :: rest) a w := by
  obtain ⟨i0, hi, hz0, hz1, hz2⟩ := info_parts infoItem
  have hbm : l.length + 1 ≤ maxLen := by unfold maxLen; omega
  have hbd : (l.length + 1) * 24 ≤ 140737488355328 := by omega
  refine wpList_append_own w hgd s x 41 ho B 68 i0 _ 6 24 Try.underlying41 hi hz0 hz1 hz2 rfl (by decide) v l.length (itCs l) hs hown ⟨A, 0, none⟩ 1 1 (itC y) hx rfl hc (itC_one y) hbm hbd hB ?_
  intro v' w' ow gr _
  refine h v' w' ?_ ((Below.refl B w).grown gr hB (fun t ht => (World.ownsRow.lt hown t ht).1))
  unfold ownsT
  rw [itCs_app, List.length_append]
  have e : itCs [y] = itC y := by simp [itCs]
  rw [e]; exact ow
/-- a list of one's own is appended -/
theorem wpList_appN {ops : Array Oper} {rest : List Oper} {o : Oper} {a : Act} {Q : Exit → Act → World → Prop} (w : World) (hgd : o.guard = none) (s x : Operand)
    (ho : o.op = .call { callee := .builtin .append, args := #[s, x], argTypes := #[41, 41] })
    (B : Nat) (v : Value) (l : List It) (hs : a.eval s = v) (hown : ownsT w B v l) (u : Value) (m : List It) (B2 : Nat) (hx : a.eval x = u)
    (hsrc : ownsT w B2 u m) (hn : l.length + m.length ≤ 1000000) (hB : B ≤ w.heap.size)
    (h : ∀ v' w', ownsT w' B v' (l ++ m) → Below B w w' → wpList Try.prog ops Q rest (a.put o.dst v') w') : wpList Try.prog ops Q (o :: rest) a w := by
  obtain ⟨i0, hi, hz0, hz1, hz2⟩ := info_parts infoItem
  have h0 := hsrc
  obtain ⟨hl, ⟨rfl, hm⟩ | ⟨g, cap, cur, rfl, hb, hgc, hcap, hm2, hs2, hx2⟩⟩ := hsrc
  · have : m = [] := List.eq_nil_of_length_eq_zero hm
    subst this
    refine wpList_append_own_none hgd s x 41 ho B 68 i0 6 Try.underlying41 hi v l.length (itCs l) hs hown hx (h v w ?_ (Below.refl _ _))
    rw [List.append_nil]; exact hown
  · have hbm : l.length + m.length ≤ maxLen := by unfold maxLen; omega
    have hbd : (l.length + m.length) * 24 ≤ 140737488355328 := by omega
    refine wpList_append_own w hgd s x 41 ho B 68 i0 _ 6 24 Try.underlying41 hi hz0 hz1 hz2 rfl (by decide) v l.length (itCs l) hs hown ⟨g, 0, none⟩ m.length cap (itCs m) hx (itCs_len m) (fun j u hj => ?_) (itCs_one m) hbm hbd hB ?_
    · have hjl : j < (itCs m).length := (List.getElem?_eq_some_iff.1 hj).1
      have := World.ownsRow.cellAt h0 j (by rw [← itCs_len]; exact hjl)
      rw [← hj, ← this]
      simp only [Addr.add, Nat.zero_add]
      split
      · rename_i hz; rw [hz]
      · rfl
    · intro v' w' ow gr _
      refine h v' w' ?_ ((Below.refl B w).grown gr hB (fun t ht => (World.ownsRow.lt hown t ht).1))
      unfold ownsT
      rw [itCs_app, List.length_append]
      exact ow
/-- a row of one item -/
theorem ownsT_one (w : World) (B : Nat) (y : It) (hB : B ≤ w.heap.size) : ownsT (w.alloc (.cells #[.int .i64 y.kind, .int .u16 y.ins.c, .int .u8 y.ins.jt, .int .u8 y.ins.jf, .int .u32 y.ins.k, .int .i64 y.target] 68)) B (.slice (some ⟨w.heap.size, 0, none⟩) 1 1) [y] :=
  ⟨rfl, .inr ⟨w.heap.size, 1, _, rfl, hB, heap_alloc_new _ _, Nat.le_refl _, by unfold maxLen; omega, rfl, rfl⟩⟩
/-- a list that is being written: since W0, from block B on -/
structure AccS (W0 : World) (B : Nat) (W : World) (v : Value) (q : List It) : Prop where
  b : Below B W0 W
  o : ownsT W B v q
  h : B ≤ W.heap.size
theorem AccS.call {W0 W W1 : World} {B : Nat} {v : Value} {q : List It} (a : AccS W0 B W v q) (hb : Below W.heap.size W W1) : AccS W0 B W1 v q := ⟨a.b.trans (hb.mono a.h), ownsT_below a.o hb, Nat.le_trans a.h hb.size⟩
theorem AccS.alloc {W0 W : World} {B : Nat} {v : Value} {q : List It} (a : AccS W0 B W v q) (x : Obj) : AccS W0 B (W.alloc x) v q := a.call ((Below.refl _ _).alloc (Nat.le_refl _) x)
theorem AccS.nil {W0 : World} {B : Nat} (h : B ≤ W0.heap.size) : AccS W0 B W0 (.slice none 0 0) [] := ⟨Below.refl _ _, World.ownsRow_nil _ _ _ _, h⟩
theorem wpList_acc1 {ops : Array Oper} {rest : List Oper} {o : Oper} {a : Act} {Q : Exit → Act → World → Prop} {W0 w : World} (hgd : o.guard = none) (s x : Operand)
    (ho : o.op = .call { callee := .builtin .append, args := #[s, x], argTypes := #[41, 41] })
    {B : Nat} {v : Value} {l : List It} (hA : AccS W0 B w v l) (hs : a.eval s = v) (A : Nat) (y : It) (hx : a.eval x = .slice (some ⟨A, 0, none⟩) 1 1)
    (hc : ∀ j u, (itC y)[j]? = some u → w.cell? ((⟨A, 0, none⟩ : Addr).add j) = some u) (hn : l.length ≤ 1000000)
    (h : ∀ v' w', AccS W0 B w' v' (l ++ [y]) → wpList Try.prog ops Q rest (a.put o.dst v') w') : wpList Try.prog ops Q (o :: rest) a w :=
  wpList_app1 w hgd s x ho B v l hs hA.o A y hx hc hn hA.h fun v' w' h1 h2 => h v' w' ⟨hA.b.trans h2, h1, Nat.le_trans hA.h h2.size⟩
theorem wpList_accN {ops : Array Oper} {rest : List Oper} {o : Oper} {a : Act} {Q : Exit → Act → World → Prop} {W0 w : World} (hgd : o.guard = none) (s x : Operand)
    (ho : o.op = .call { callee := .builtin .append, args := #[s, x], argTypes := #[41, 41] })
    {B : Nat} {v : Value} {l : List It} (hA : AccS W0 B w v l) (hs : a.eval s = v) (u : Value) (m : List It) (B2 : Nat) (hx : a.eval x = u) (hsrc : ownsT w B2 u m) (hn : l.length + m.length ≤ 1000000)
    (h : ∀ v' w', AccS W0 B w' v' (l ++ m) → wpList Try.prog ops Q rest (a.put o.dst v') w') : wpList Try.prog ops Q (o :: rest) a w :=
  wpList_appN w hgd s x ho B v l hs hA.o u m B2 hx hsrc hn hA.h fun v' w' h1 h2 => h v' w' ⟨hA.b.trans h2, h1, Nat.le_trans hA.h h2.size⟩
theorem step_accN {ops : Array Oper} {o : Oper} {a : Act} {Kk : Act → World → Prop} {Q : Exit → Act → World → Prop} {Ee : Prop} {W0 w : World} (hgd : o.guard = none) (s x : Operand)
    (ho : o.op = .call { callee := .builtin .append, args := #[s, x], argTypes := #[41, 41] })
    {B : Nat} {v : Value} {l : List It} (hA : AccS W0 B w v l) (hs : a.eval s = v) (u : Value) (m : List It) (B2 : Nat) (hx : a.eval x = u) (hsrc : ownsT w B2 u m) (hm : 0 < m.length) (hn : l.length + m.length ≤ 1000000)
    (h : ∀ v' w', AccS W0 B w' v' (l ++ m) → Kk (a.put o.dst v') w') : if Region.wanted o (yielded ops a.tmps) = true then Oper.wp Try.prog o a w Kk Q else Ee := by
  obtain ⟨i0, hi, hz0, hz1, hz2⟩ := info_parts infoItem
  have h0 := hsrc
  obtain ⟨g, cap, rfl, _, _⟩ := World.ownsRow.form hsrc hm
  have hbm : l.length + m.length ≤ maxLen := by unfold maxLen; omega
  have hbd : (l.length + m.length) * 24 ≤ 140737488355328 := by omega
  refine step_append_lies w hgd s x 41 ho B 68 i0 _ 6 24 Try.underlying41 hi hz0 hz1 hz2 rfl (by decide) v l.length (itCs l) hs hA.o ⟨g, 0, none⟩ m.length cap (itCs m) hx (itCs_len m) (fun j u hj => ?_) (itCs_one m) hm hbm hbd hA.h _ rfl ?_
  · have hjl : j < (itCs m).length := (List.getElem?_eq_some_iff.1 hj).1
    have := World.ownsRow.cellAt h0 j (by rw [← itCs_len]; exact hjl)
    rw [← hj, ← this]
    simp only [Addr.add, Nat.zero_add]
    split
    · rename_i hz; rw [hz]
    · rfl
  · intro g' cap' w' ow gr _ _
    have hb := (Below.refl B w).grown gr hA.h (fun t ht => (World.ownsRow.lt hA.o t ht).1)
    refine h _ w' ⟨hA.b.trans hb, ?_, Nat.le_trans hA.h hb.size⟩
    unfold ownsT
    rw [itCs_app, List.length_append]
    exact ow
/-- what a part of the model answers: a list of its own -/
def ItPost (l : List It) (w : World) (e : Ending) (w' : World) : Prop := ∃ v, e = .returned v ∧ ownsT w' w.heap.size v l ∧ Below w.heap.size w w'
theorem AccS.post {W0 w w' : World} {B : Nat} {v : Value} {q l : List It} (a : AccS W0 B w' v q) (h : Below w.heap.size w W0) (hB : w.heap.size ≤ B) (e : q = l) : ItPost l w (.returned v) w' := ⟨v, rfl, e ▸ World.ownsRow.mono a.o hB, h.trans (a.b.mono hB)⟩
end Go.Proofs.Ytoopomjkapeknaa
namespace Go.Proofs.Ytoopomjkapeknaa
open Go.RowKit
set_option linter.unusedVariables false

/-- the kinds of a good condition -/
def K3 (c : K) : Prop := c.kind = 0 ∨ c.kind = 1 ∨ c.kind = 2
theorem itC_at {W : World} {y : It} {A : Nat} (h : A = W.heap.size) : ∀ j u, (itC y)[j]? = some u → (W.alloc (.cells #[.int .i64 y.kind, .int .u16 y.ins.c, .int .u8 y.ins.jt, .int .u8 y.ins.jf, .int .u32 y.ins.k, .int .i64 y.target] 68)).cell? ((⟨A, 0, none⟩ : Addr).add j) = some u :=
  news_at (cs := itC y) h

set_option maxRecDepth 100000 in
set_option maxHeartbeats 1000000 in
theorem l5ins_any (c k : Int) (w : World) : Calls Try.prog 28 #[.int .u16 c, .int .u32 k] w fun e w' => e = .returned (itV (itIn c k)) ∧ Below w.heap.size w w' := by
  go_enter Try.func28, Try.ntmps28
  go_wp2
  refine bodyPost_ret (v := itV (itIn c k)) (by simp [results, Try.results28, go_sem, itIn]) rfl ⟨rfl, ?_⟩
  exact (Below.refl _ _).alloc (Nat.le_refl _) _
set_option maxRecDepth 100000 in
set_option maxHeartbeats 1000000 in
theorem l5load_any (a : Int) (w : World) (h0 : 0 ≤ a) (h1 : a ≤ 1000) : Calls Try.prog 29 #[.int .i64 a] w fun e w' => e = .returned (itV (itLd a)) ∧ Below w.heap.size w w' := by
  have hw : IntKind.u32.wrap a = a := by rw [IntKind.wrap_u32']; omega
  have HB : Hid (Below w.heap.size w ((w.alloc (.cells #[.int .i64 0, .int .u16 0, .int .u8 0, .int .u8 0, .int .u32 0, .int .i64 0] 68)))) := (Below.refl _ _).alloc (Nat.le_refl _) _
  have X := Box6.new w 68 (.int .i64 0) (.int .u16 0) (.int .u8 0) (.int .u8 0) (.int .u32 0) (.int .i64 0)
  have HI : Hid (∀ w1, Calls Try.prog 28 #[.int .u16 32, .int .u32 a] w1 fun e w' => e = .returned (itV (itLd a)) ∧ Below w1.heap.size w1 w') := fun w1 => l5ins_any 32 a w1
  go_enter Try.func29, Try.ntmps29
  go_wp2_with fail
  refine (HI.out _).mono ?_
  generalize w.alloc (.cells #[.int .i64 0, .int .u16 0, .int .u8 0, .int .u8 0, .int .u32 0, .int .i64 0] 68) = W at *
  rintro _ w1 ⟨rfl, hb1⟩
  obtain ⟨ol, o0, o1, o2, o3, o4, o5, of⟩ := X.keep hb1
  have of0 := of 0
  have of1 := of 1
  have of2 := of 2
  have of3 := of 3
  have of4 := of 4
  have of5 := of 5
  have HB1 : Hid (Below w.heap.size w w1) := below_step hb1 HB.out
  clear X of hb1 HB HI
  simp only [itV, itLd, itIn]
  go_wp2
  refine bodyPost_ret (v := itV (itLd a)) (by simp [results, Try.results29, go_sem, itLd, itIn, o0, o1, o2, o3, o4, o5]) rfl ⟨rfl, ?_⟩
  exact below_set6i HB1.out (Nat.le_refl _) 0 _ _ _ _ _ _
set_option maxRecDepth 100000 in
set_option maxHeartbeats 1000000 in
theorem l5test_any (kd c k t : Int) (w : World) : Calls Try.prog 30 #[.int .i64 kd, .int .u16 c, .int .u32 k, .int .i64 t] w fun e w' => e = .returned (itV ⟨kd, ⟨c, 0, 0, k⟩, t⟩) ∧ Below w.heap.size w w' := by
  go_enter Try.func30, Try.ntmps30
  go_wp2
  refine bodyPost_ret (v := itV ⟨kd, ⟨c, 0, 0, k⟩, t⟩) (by simp [results, Try.results30, go_sem]) rfl ⟨rfl, ?_⟩
  exact (Below.refl _ _).alloc (Nat.le_refl _) _
set_option maxRecDepth 100000 in
set_option maxHeartbeats 1000000 in
theorem l5label_any (t : Int) (w : World) : Calls Try.prog 32 #[.int .i64 t] w fun e w' => e = .returned (itV (itLb t)) ∧ Below w.heap.size w w' := by
  go_enter Try.func32, Try.ntmps32
  go_wp2
  refine bodyPost_ret (v := itV (itLb t)) (by simp [results, Try.results32, go_sem, itLb]) rfl ⟨rfl, ?_⟩
  exact (Below.refl _ _).alloc (Nat.le_refl _) _

set_option maxRecDepth 100000 in
set_option maxHeartbeats 2000000 in
theorem l5half_any (a m b fail : Int) (w : World) (h0 : 0 ≤ a) (h1 : a ≤ 1000) : Calls Try.prog 77 #[.int .i64 a, .int .u32 m, .int .u32 b, .int .i64 fail] w fun e w' => ItPost (mskI a m b fail) w e w' := by
  have HL : Hid (∀ w1, Calls Try.prog 29 #[.int .i64 a] w1 fun e w' => e = .returned (.agg #[.int .i64 0, .int .u16 32, .int .u8 0, .int .u8 0, .int .u32 a, .int .i64 0]) ∧ Below w1.heap.size w1 w') := fun w1 => l5load_any a w1 h0 h1
  have HI : Hid (∀ w1, Calls Try.prog 28 #[.int .u16 84, .int .u32 m] w1 fun e w' => e = .returned (.agg #[.int .i64 0, .int .u16 84, .int .u8 0, .int .u8 0, .int .u32 m, .int .i64 0]) ∧ Below w1.heap.size w1 w') := fun w1 => l5ins_any 84 m w1
  have HT : Hid (∀ w1, Calls Try.prog 30 #[.int .i64 2, .int .u16 21, .int .u32 b, .int .i64 fail] w1 fun e w' => e = .returned (.agg #[.int .i64 2, .int .u16 21, .int .u8 0, .int .u8 0, .int .u32 b, .int .i64 fail]) ∧ Below w1.heap.size w1 w') := fun w1 => l5test_any 2 21 b fail w1
  have HP : Hid (∀ w1 v q, AccS w w.heap.size w1 v q → q = mskI a m b fail → ItPost (mskI a m b fail) w (.returned v) w1) := fun w1 v q h e => h.post (Below.refl _ _) (Nat.le_refl _) e
  have HE0 : Hid (m = 0 → [] = mskI a m b fail) := fun h => by unfold mskI; rw [if_pos h]
  have HE1 : Hid (m ≠ 0 → m = 4294967295 → [itLd a] ++ [itUn 21 b fail] = mskI a m b fail) := fun h h' => by unfold mskI; rw [if_neg h, if_pos h']; simp
  have HE2 : Hid (m ≠ 0 → m ≠ 4294967295 → [itLd a] ++ [itIn 84 m] ++ [itUn 21 b fail] = mskI a m b fail) := fun h h' => by unfold mskI; rw [if_neg h, if_neg h']; simp
  generalize mskI a m b fail = ml at *
  go_enter Try.func77, Try.ntmps77
  by_cases hm : m = 0
  · have HF : Hid (ItPost ml w (.returned (.slice none 0 0)) w) := HP.out w _ _ (AccS.nil (Nat.le_refl _)) (HE0.out hm)
    subst hm
    clear HL HI HT HP HE0 HE1 HE2
    go_wp2
    go_ret
    exact HF.out
  · have hm' : (m == 0) = false := by simpa using hm
    by_cases hx : m = 4294967295
    · have HE : Hid ([itLd a] ++ [itUn 21 b fail] = ml) := HE1.out hm hx
      clear HE0 HE1 HE2 HI hm hm'
      subst hx
      go_wp2_with fail
      refine (HL.out _).mono ?_
      rintro _ w1 ⟨rfl, hb1⟩
      have A1 : AccS w w.heap.size (w1.alloc (.cells #[.int .i64 0, .int .u16 32, .int .u8 0, .int .u8 0, .int .u32 a, .int .i64 0] 68)) (.slice (some ⟨w1.heap.size, 0, none⟩) 1 1) [itLd a] := ⟨hb1.alloc hb1.size _, ownsT_one w1 _ (itLd a) hb1.size, by simp; exact Nat.le_succ_of_le hb1.size⟩
      clear hb1 HL
      go_wp2_with fail
      generalize w1.alloc (.cells #[.int .i64 0, .int .u16 32, .int .u8 0, .int .u8 0, .int .u32 a, .int .i64 0] 68) = V1 at *
      generalize w1.heap.size = D1 at *
      refine (HT.out _).mono ?_
      rintro _ w2 ⟨rfl, hb2⟩
      have A2 := A1.call hb2
      clear A1 hb2 HT
      go_wp2_with (at_builtin; refine wpList_acc1 rfl (.tmp 22) (.tmp 26) rfl (A2.alloc _) rfl _ (itUn 21 b fail) rfl (itC_at (by simp)) (by simp) ?_)
      intro v3 w3 A3
      have HF : Hid (ItPost ml w (.returned v3) w3) := HP.out w3 v3 _ A3 HE.out
      clear A2 A3 HP HE
      go_wp2
      go_ret
      exact HF.out
    · have hx' : (m == 4294967295) = false := by simpa using hx
      have HE : Hid ([itLd a] ++ [itIn 84 m] ++ [itUn 21 b fail] = ml) := HE2.out hm hx
      clear HE0 HE1 HE2
      go_wp2_with fail
      refine (HL.out _).mono ?_
      rintro _ w1 ⟨rfl, hb1⟩
      have A1 : AccS w w.heap.size (w1.alloc (.cells #[.int .i64 0, .int .u16 32, .int .u8 0, .int .u8 0, .int .u32 a, .int .i64 0] 68)) (.slice (some ⟨w1.heap.size, 0, none⟩) 1 1) [itLd a] := ⟨hb1.alloc hb1.size _, ownsT_one w1 _ (itLd a) hb1.size, by simp; exact Nat.le_succ_of_le hb1.size⟩
      clear hb1 HL
      go_wp2_with fail
      generalize w1.alloc (.cells #[.int .i64 0, .int .u16 32, .int .u8 0, .int .u8 0, .int .u32 a, .int .i64 0] 68) = V1 at *
      generalize w1.heap.size = D1 at *
      refine (HI.out _).mono ?_
      rintro _ w2 ⟨rfl, hb2⟩
      have A2 := A1.call hb2
      clear A1 hb2 HI
      go_wp2_with (at_builtin; refine wpList_acc1 rfl (.tmp 17) (.tmp 20) rfl (A2.alloc _) rfl _ (itIn 84 m) rfl (itC_at (by simp)) (by simp) ?_)
      intro v3 w3 A3
      clear A2
      go_wp2_with fail
      refine (HT.out _).mono ?_
      rintro _ w4 ⟨rfl, hb4⟩
      have A4 := A3.call hb4
      clear A3 hb4 HT
      go_wp2_with (at_builtin; refine wpList_acc1 rfl (.tmp 22) (.tmp 26) rfl (A4.alloc _) rfl _ (itUn 21 b fail) rfl (itC_at (by simp)) (by simp) ?_)
      intro v5 w5 A5
      have HF : Hid (ItPost ml w (.returned v5) w5) := HP.out w5 v5 _ A5 HE.out
      clear A4 A5 HP HE
      go_wp2
      go_ret
      exact HF.out
end Go.Proofs.Ytoopomjkapeknaa
namespace Go.Proofs.Ytoopomjkapeknaa
set_option linter.unusedVariables false

def okL (l : List It) : Prop := ∀ x ∈ l, x.ok
theorem okL.nil : okL [] := fun x h => by cases h
theorem okL.cons {x : It} {l : List It} (h : x.ok) (hl : okL l) : okL (x :: l) := fun y hy => by
  rcases List.mem_cons.1 hy with rfl | hy
  · exact h
  · exact hl y hy
theorem okL.app {l m : List It} (h : okL l) (hm : okL m) : okL (l ++ m) := fun y hy => (List.mem_append.1 hy).elim (h y) (hm y)
theorem okL.one {x : It} (h : x.ok) : okL [x] := okL.nil.cons h
/-- a label's number -/
def LB (t : Int) : Prop := 0 ≤ t ∧ t ≤ 1000000000
theorem itIn_ok {c k : Int} (h1 : 0 ≤ c) (h2 : c ≤ 65535) (h3 : 0 ≤ k) (h4 : k ≤ 4294967295) : (itIn c k).ok := ⟨⟨h1, h2, by simp [itIn], by simp [itIn], by simp [itIn], by simp [itIn], h3, h4⟩, ⟨by simp [itIn], by simp [itIn]⟩, ⟨by simp [itIn], by simp [itIn]⟩⟩
theorem itIf_ok {c k t : Int} (h1 : 0 ≤ c) (h2 : c ≤ 65535) (h3 : 0 ≤ k) (h4 : k ≤ 4294967295) (h5 : LB t) : (itIf c k t).ok := by
  unfold LB at h5
  exact ⟨⟨h1, h2, by simp [itIf], by simp [itIf], by simp [itIf], by simp [itIf], h3, h4⟩, ⟨by simp [itIf], by simp [itIf]⟩, ⟨by show _ ≤ t; omega, by show t ≤ _; omega⟩⟩
theorem itUn_ok {c k t : Int} (h1 : 0 ≤ c) (h2 : c ≤ 65535) (h3 : 0 ≤ k) (h4 : k ≤ 4294967295) (h5 : LB t) : (itUn c k t).ok := by
  unfold LB at h5
  exact ⟨⟨h1, h2, by simp [itUn], by simp [itUn], by simp [itUn], by simp [itUn], h3, h4⟩, ⟨by simp [itUn], by simp [itUn]⟩, ⟨by show _ ≤ t; omega, by show t ≤ _; omega⟩⟩
theorem itLb_ok {t : Int} (h5 : LB t) : (itLb t).ok := by
  unfold LB at h5
  exact ⟨⟨by simp [itLb], by simp [itLb], by simp [itLb], by simp [itLb], by simp [itLb], by simp [itLb], by simp [itLb], by simp [itLb]⟩, ⟨by simp [itLb], by simp [itLb]⟩, ⟨by show _ ≤ t; omega, by show t ≤ _; omega⟩⟩
theorem upH_ok {v : Nat} (h : v < 18446744073709551616) : 0 ≤ upH v ∧ upH v ≤ 4294967295 := by unfold upH; omega
theorem loH_ok (v : Nat) : 0 ≤ loH v ∧ loH v ≤ 4294967295 := by unfold loH; omega
theorem itLd_ok {a : Int} (h : 0 ≤ a ∧ a ≤ 1000) : (itLd a).ok := itIn_ok (by omega) (by omega) (by omega) (by omega)
theorem mskI_ok {a m b fail : Int} (ha : 0 ≤ a ∧ a ≤ 1000) (hm : 0 ≤ m ∧ m ≤ 4294967295) (hb : 0 ≤ b ∧ b ≤ 4294967295) (hf : LB fail) : okL (mskI a m b fail) := by
  unfold mskI
  split
  · exact okL.nil
  · refine okL.cons (itLd_ok ha) (okL.app ?_ (okL.one (itUn_ok (by omega) (by omega) hb.1 hb.2 hf)))
    split
    · exact okL.nil
    · exact okL.one (itIn_ok (by omega) (by omega) hm.1 hm.2)
theorem conI_ok {c : K} {a fail p1 p2 : Int} (hc : c.ok) (ha : 0 ≤ a ∧ a ≤ 900) (hf : LB fail) (h1 : LB p1) (h2 : LB p2) : okL (conI c a fail p1 p2) := by
  have u1 := upH_ok hc.2.1
  have u2 := upH_ok hc.2.2
  have l1 := loH_ok c.a
  have l2 := loH_ok c.b
  unfold conI
  split
  · exact okL.app (mskI_ok (by omega) u1 u2 hf) (mskI_ok (by omega) l1 l2 hf)
  · split
    · refine okL.app ?_ ?_
      · unfold lowP lowI
        split
        · exact okL.nil
        · exact okL.app (okL.cons (itLd_ok (by omega)) (okL.cons (itIf_ok (by omega) (by omega) u1.1 u1.2 h1) (okL.cons (itUn_ok (by omega) (by omega) u1.1 u1.2 hf) (okL.cons (itLd_ok (by omega)) (okL.one (itUn_ok (by omega) (by omega) l1.1 l1.2 hf)))))) (okL.one (itLb_ok h1))
      · unfold highP highI
        split
        · exact okL.nil
        · exact okL.app (okL.cons (itLd_ok (by omega)) (okL.cons (itIf_ok (by omega) (by omega) u2.1 u2.2 hf) (okL.cons (itUn_ok (by omega) (by omega) u2.1 u2.2 h2) (okL.cons (itLd_ok (by omega)) (okL.one (itIf_ok (by omega) (by omega) l2.1 l2.2 hf)))))) (okL.one (itLb_ok h2))
    · exact okL.nil
theorem conN_hi1 (c : K) (n : Int) : conN c n ≤ n + 2 ∧ lowN c n ≤ n + 1 ∧ n ≤ lowN c n := by
  have : lowN c n ≤ n + 1 ∧ n ≤ lowN c n := by unfold lowN; split <;> omega
  unfold conN
  refine ⟨?_, this⟩
  split
  · split <;> omega
  · omega
theorem consM_ok (r : List K) (h : okR r) {fail base : Int} (hf : LB fail) (hb : 0 ≤ base ∧ base ≤ 900000000) : ∀ i : Int, 0 ≤ i → i + (r.length : Int) ≤ 6 → okL (consM r i fail base) := by
  induction r with
  | nil => intro i _ _; exact okL.nil
  | cons c r ih =>
    intro i h0 h1
    simp only [List.length_cons] at h1
    refine okL.app (conI_ok (h c (List.mem_cons_self ..)) (by omega) hf (by unfold LB; omega) (by unfold LB; omega)) (ih (fun x hx => h x (List.mem_cons_of_mem _ hx)) (i + 1) (by omega) (by omega))
theorem consP_ok (r : List K) (h : okR r) {fail : Int} (hf : LB fail) : ∀ i n : Int, 0 ≤ i → i + (r.length : Int) ≤ 6 → 0 ≤ n → n + 2 * (r.length : Int) ≤ 900000000 → okL (consP r i fail n) := by
  induction r with
  | nil => intro i n _ _ _ _; exact okL.nil
  | cons c r ih =>
    intro i n h0 h1 h2 h3
    simp only [List.length_cons] at h1 h3
    have g := conN_hi1 c n
    have g2 := conN_le c n
    refine okL.app (conI_ok (h c (List.mem_cons_self ..)) (by omega) hf (by unfold LB; omega) (by unfold LB; omega)) (ih (fun x hx => h x (List.mem_cons_of_mem _ hx)) (i + 1) _ (by omega) (by omega) (by omega) (by omega))
theorem ret_ok {k : Int} (h : 0 ≤ k ∧ k ≤ 4294967295) : (retI k).ok := itIn_ok (by omega) (by omega) h.1 h.2
theorem bodyM_ok (rs : List (List K)) (h : okRs rs) (h6 : ∀ r ∈ rs, r.length ≤ 6) : ∀ f : Int, 0 ≤ f → f + 13 * (rs.length : Int) ≤ 800000000 → okL (bodyM rs f) := by
  induction rs with
  | nil => intro f _ _; exact okL.nil
  | cons r rs ih =>
    intro f h0 h1
    have g1 := h r (List.mem_cons_self ..)
    have g2 := h6 r (List.mem_cons_self ..)
    simp only [List.length_cons] at h1
    cases rs with
    | nil => exact okL.app (consM_ok r g1 (by unfold LB; omega) (by omega) 0 (by omega) (by omega)) (okL.one (ret_ok (by omega)))
    | cons q rs =>
      refine okL.app (okL.app (okL.app (consM_ok r g1 (by unfold LB; omega) (by omega) 0 (by omega) (by omega)) (okL.one (ret_ok (by omega)))) (okL.one (itLb_ok (by unfold LB; omega)))) (ih (fun x hx => h x (List.mem_cons_of_mem _ hx)) (fun x hx => h6 x (List.mem_cons_of_mem _ hx)) (f + 13) (by omega) (by simp only [List.length_cons] at h1 ⊢; omega))
theorem bodyP_ok (rs : List (List K)) (h : okRs rs) (h6 : ∀ r ∈ rs, r.length ≤ 6) : ∀ n : Int, 0 ≤ n → n + 13 * (rs.length : Int) ≤ 800000000 → okL (bodyP rs n) := by
  induction rs with
  | nil => intro f _ _; exact okL.nil
  | cons r rs ih =>
    intro n h0 h1
    have g1 := h r (List.mem_cons_self ..)
    have g2 := h6 r (List.mem_cons_self ..)
    simp only [List.length_cons] at h1
    cases rs with
    | nil => exact okL.app (consP_ok r g1 (by unfold LB; omega) 0 n (by omega) (by omega) (by omega) (by omega)) (okL.one (ret_ok (by omega)))
    | cons q rs =>
      have h2 := consN_hi r (n + 1)
      have h3 := consN_le r (n + 1)
      refine okL.app (okL.app (okL.app (consP_ok r g1 (by unfold LB; omega) 0 (n + 1) (by omega) (by omega) (by omega) (by omega)) (okL.one (ret_ok (by omega)))) (okL.one (itLb_ok (by unfold LB; omega)))) (ih (fun x hx => h x (List.mem_cons_of_mem _ hx)) (fun x hx => h6 x (List.mem_cons_of_mem _ hx)) _ (by omega) (by simp only [List.length_cons] at h1 ⊢; omega))
theorem needE_sum (es : List E) : needE es = (es.length : Int) + 13 * (sumR es : Int) := rfl
/-- an entry's own numbers -/
def ok2 (e : E) : Prop := (0 ≤ e.arch ∧ e.arch ≤ 4294967295) ∧ (0 ≤ e.nr ∧ e.nr ≤ 4294967295)
theorem ok2_at {es : List E} (h : ∀ e ∈ es, ok2 e) (i : Nat) : ok2 (es.getD i E.zero) := by
  by_cases hi : i < es.length
  · rw [List.getD_eq_getElem?_getD, List.getElem?_eq_getElem hi]; exact h _ (List.getElem_mem hi)
  · rw [List.getD_eq_getElem?_getD, List.getElem?_eq_none (by omega)]; exact ⟨⟨by decide, by decide⟩, ⟨by decide, by decide⟩⟩
theorem treeM_ok (k : Nat) : ∀ (es : List E) (f : Int), (∀ e ∈ es, WrE e) → (∀ e ∈ es, ok2 e) → 1 ≤ es.length → es.length ≤ k → 0 ≤ f → f + (2 * (es.length : Int) + 13 * (sumR es : Int)) ≤ 700000000 → okL (treeM k es f) := by
  induction k with
  | zero => intro es f _ _ h1 h2; omega
  | succ k ih =>
    intro es f h ho h1 h2 h3 h4
    simp only [treeM]
    by_cases hl : es.length ≤ 1
    · rw [if_pos hl]
      have hw := WrE_get h (i := 0) (by omega)
      have g3 := sumR_get es 0
      have o := (ok2_at ho 0).2
      exact okL.cons (itUn_ok (by omega) (by omega) o.1 o.2 (by unfold LB; omega)) (bodyM_ok _ hw.1 hw.2.1 f h3 (by omega))
    · rw [if_neg hl]
      have ht : (es.take (es.length / 2)).length = es.length / 2 := by simp; omega
      have hd : (es.drop (es.length / 2)).length = es.length - es.length / 2 := by simp
      have hs := sumR_split es (es.length / 2)
      have o := (ok2_at ho (es.length / 2)).2
      refine okL.app (okL.app (okL.cons (itIf_ok (by omega) (by omega) o.1 o.2 (by unfold LB; omega)) (ih _ _ (fun e he => h e (List.mem_of_mem_take he)) (fun e he => ho e (List.mem_of_mem_take he)) (by omega) (by omega) (by omega) ?_)) (okL.one (itLb_ok (by unfold LB; omega)))) (ih _ _ (fun e he => h e (List.mem_of_mem_drop he)) (fun e he => ho e (List.mem_of_mem_drop he)) (by omega) (by omega) ?_ ?_)
      · rw [ht]; omega
      · rw [needE_sum, ht]; omega
      · rw [needE_sum, ht, hd]; omega
theorem treeP_ok (k : Nat) : ∀ (es : List E) (n : Int), (∀ e ∈ es, WrE e) → (∀ e ∈ es, ok2 e) → 1 ≤ es.length → es.length ≤ k → 0 ≤ n → n + needE es ≤ 700000000 → okL (treeP k es n) := by
  induction k with
  | zero => intro es f _ _ h1 h2; omega
  | succ k ih =>
    intro es n h ho h1 h2 h3 h4
    rw [needE_sum] at h4
    simp only [treeP]
    by_cases hl : es.length ≤ 1
    · rw [if_pos hl]
      have hw := WrE_get h (i := 0) (by omega)
      have g3 := sumR_get es 0
      have o := (ok2_at ho 0).2
      exact okL.cons (itUn_ok (by omega) (by omega) o.1 o.2 (by unfold LB; omega)) (bodyP_ok _ hw.1 hw.2.1 n h3 (by omega))
    · rw [if_neg hl]
      have ht : (es.take (es.length / 2)).length = es.length / 2 := by simp; omega
      have hd : (es.drop (es.length / 2)).length = es.length - es.length / 2 := by simp
      have hs := sumR_split es (es.length / 2)
      have o := (ok2_at ho (es.length / 2)).2
      obtain ⟨a1, a2⟩ := tree_facts k (es.take (es.length / 2)) (n + 1) (fun e he => h e (List.mem_of_mem_take he)) (by omega) (by omega)
      have a3 := treeN_le k (es.take (es.length / 2)) (n + 1)
      rw [ht] at a2
      refine okL.app (okL.app (okL.cons (itIf_ok (by omega) (by omega) o.1 o.2 (by unfold LB; omega)) (ih _ _ (fun e he => h e (List.mem_of_mem_take he)) (fun e he => ho e (List.mem_of_mem_take he)) (by omega) (by omega) (by omega) ?_)) (okL.one (itLb_ok (by unfold LB; omega)))) (ih _ _ (fun e he => h e (List.mem_of_mem_drop he)) (fun e he => ho e (List.mem_of_mem_drop he)) (by omega) (by omega) (by omega) ?_)
      · rw [needE_sum, ht]; omega
      · rw [needE_sum, hd]; omega
theorem archM_ok (k : Nat) : ∀ (es : List E) (f : Int), (∀ e ∈ es, WrE e) → (∀ e ∈ es, ok2 e) → 0 ≤ f → f + 3 * (es.length : Int) + 13 * (sumR es : Int) ≤ 600000000 → okL (archM k es f) := by
  induction k with
  | zero => intro es f _ _ _ _; exact okL.nil
  | succ k ih =>
    intro es f h ho h3 h4
    simp only [archM]
    by_cases hl : es.length = 0
    · rw [if_pos hl]; exact okL.nil
    · rw [if_neg hl]
      have hp := sameA_pos (es := es) (by omega)
      have hle := sameA_le es
      have ht : (es.take (sameA es)).length = sameA es := by simp; omega
      have hd : (es.drop (sameA es)).length = es.length - sameA es := by simp
      have hs := sumR_split es (sameA es)
      have o := (ok2_at ho 0).1
      refine okL.app (okL.app (okL.cons (itUn_ok (by omega) (by omega) o.1 o.2 (by unfold LB; omega)) (okL.cons (itLd_ok (by omega)) (treeM_ok _ _ _ (fun e he => h e (List.mem_of_mem_take he)) (fun e he => ho e (List.mem_of_mem_take he)) (by omega) (by omega) (by omega) ?_))) (okL.one (itLb_ok (by unfold LB; omega)))) (ih _ _ (fun e he => h e (List.mem_of_mem_drop he)) (fun e he => ho e (List.mem_of_mem_drop he)) ?_ ?_)
      · rw [ht]; omega
      · rw [needE_sum, ht]; omega
      · rw [needE_sum, ht, hd]; omega
theorem archP_ok (k : Nat) : ∀ (es : List E) (n : Int), (∀ e ∈ es, WrE e) → (∀ e ∈ es, ok2 e) → 0 ≤ n → n + 2 * (es.length : Int) + 13 * (sumR es : Int) ≤ 600000000 → okL (archP k es n) := by
  induction k with
  | zero => intro es f _ _ _ _; exact okL.nil
  | succ k ih =>
    intro es n h ho h3 h4
    simp only [archP]
    by_cases hl : es.length = 0
    · rw [if_pos hl]; exact okL.nil
    · rw [if_neg hl]
      have hp := sameA_pos (es := es) (by omega)
      have hle := sameA_le es
      have ht : (es.take (sameA es)).length = sameA es := by simp; omega
      have hd : (es.drop (sameA es)).length = es.length - sameA es := by simp
      have hs := sumR_split es (sameA es)
      have o := (ok2_at ho 0).1
      obtain ⟨a1, a2⟩ := tree_facts (sameA es) (es.take (sameA es)) (n + 1) (fun e he => h e (List.mem_of_mem_take he)) (by omega) (by omega)
      have a3 := treeN_le (sameA es) (es.take (sameA es)) (n + 1)
      rw [ht] at a2
      refine okL.app (okL.app (okL.cons (itUn_ok (by omega) (by omega) o.1 o.2 (by unfold LB; omega)) (okL.cons (itLd_ok (by omega)) (treeP_ok _ _ _ (fun e he => h e (List.mem_of_mem_take he)) (fun e he => ho e (List.mem_of_mem_take he)) (by omega) (by omega) (by omega) ?_))) (okL.one (itLb_ok (by unfold LB; omega)))) (ih _ _ (fun e he => h e (List.mem_of_mem_drop he)) (fun e he => ho e (List.mem_of_mem_drop he)) (by omega) ?_)
      · rw [needE_sum, ht]; omega
      · rw [hd]; omega
theorem itemsM_ok (p : List E) (h : ∀ e ∈ p, WrE e) (ho : ∀ e ∈ p, ok2 e) (hb : 3 * p.length + 13 * sumR p ≤ 500000000) : okL (itemsM p) := by
  unfold itemsM
  split
  · exact okL.one (ret_ok (by omega))
  · exact okL.app (okL.app (okL.cons (itLd_ok (by omega)) (archM_ok _ _ _ h ho (by omega) (by omega))) (okL.one (itLb_ok (by unfold LB; omega)))) (okL.one (ret_ok (by omega)))
theorem itemsP_ok (p : List E) (h : ∀ e ∈ p, WrE e) (ho : ∀ e ∈ p, ok2 e) (hb : 3 * p.length + 13 * sumR p ≤ 500000000) : okL (itemsP p) := by
  unfold itemsP
  refine okL.app (okL.app (okL.app ?_ (archP_ok _ _ _ h ho (by omega) (by omega))) (okL.one (itLb_ok (by unfold LB; omega)))) (okL.one (ret_ok (by omega)))
  split
  · exact okL.nil
  · exact okL.one (itLd_ok (by omega))

theorem consM_len (l : List K) (fail base : Int) : ∀ i, (consM l i fail base).length ≤ 12 * l.length := by
  induction l with
  | nil => intro i; simp [consM]
  | cons c l ih =>
    intro i
    have h1 := conI_len c (16 + 8 * i) fail (base + 1 + 2 * i) (base + 1 + 2 * i + 1)
    have h2 := ih (i + 1)
    simp only [consM, List.length_append, List.length_cons]; omega
theorem bodyM_len (l : List (List K)) (h : ∀ r ∈ l, r.length ≤ 6) : ∀ f, (bodyM l f).length ≤ 74 * l.length := by
  induction l with
  | nil => intro n; simp [bodyM]
  | cons r l ih =>
    intro f
    have h3 := h r (List.mem_cons_self ..)
    cases l with
    | nil => have := consM_len r 0 f 0; simp only [bodyM, ruleM, List.length_append, List.length_cons, List.length_nil]; omega
    | cons q l =>
      have h1 := ih (fun x hx => h x (List.mem_cons_of_mem _ hx)) (f + 13)
      have h2 := consM_len r f f 0
      simp only [bodyM, ruleM, List.length_append, List.length_cons, List.length_nil] at h1 ⊢; omega
theorem treeM_len (k : Nat) : ∀ (es : List E) (f : Int), (∀ e ∈ es, WrE e) → 1 ≤ es.length → es.length ≤ k → (treeM k es f).length + 2 ≤ 74 * sumR es + 3 * es.length := by
  induction k with
  | zero => intro es n h h1 h2; omega
  | succ k ih =>
    intro es f h h1 h2
    simp only [treeM]
    by_cases hl : es.length ≤ 1
    · rw [if_pos hl]
      have hw := WrE_get h (i := 0) (by omega)
      have g1 := bodyM_len _ hw.2.1 f
      have g3 := sumR_get es 0
      simp only [List.length_cons]
      omega
    · rw [if_neg hl]
      have ht : (es.take (es.length / 2)).length = es.length / 2 := by simp; omega
      have hd : (es.drop (es.length / 2)).length = es.length - es.length / 2 := by simp
      have a1 := ih (es.take (es.length / 2)) (f + 1) (fun e he => h e (List.mem_of_mem_take he)) (by omega) (by omega)
      have b1 := ih (es.drop (es.length / 2)) (f + 1 + needE (es.take (es.length / 2))) (fun e he => h e (List.mem_of_mem_drop he)) (by omega) (by omega)
      have hs := sumR_split es (es.length / 2)
      rw [ht] at a1
      rw [hd] at b1
      simp only [List.length_append, List.length_cons, List.length_nil]
      omega
theorem archM_len (k : Nat) : ∀ (es : List E) (f : Int), (∀ e ∈ es, WrE e) → (archM k es f).length ≤ 74 * sumR es + 4 * es.length := by
  induction k with
  | zero => intro es f _; simp [archM]
  | succ k ih =>
    intro es f h
    simp only [archM]
    by_cases hl : es.length = 0
    · rw [if_pos hl]; simp
    · rw [if_neg hl]
      have hp := sameA_pos (es := es) (by omega)
      have hle := sameA_le es
      have ht : (es.take (sameA es)).length = sameA es := by simp; omega
      have hd : (es.drop (sameA es)).length = es.length - sameA es := by simp
      have hs := sumR_split es (sameA es)
      have a1 := treeM_len (sameA es) (es.take (sameA es)) (f + 1) (fun e he => h e (List.mem_of_mem_take he)) (by omega) (by omega)
      have b1 := ih (es.drop (sameA es)) (f + (1 + needE (es.take (sameA es)))) (fun e he => h e (List.mem_of_mem_drop he))
      rw [ht] at a1
      rw [hd] at b1
      simp only [List.length_append, List.length_cons, List.length_nil]
      omega
theorem archP_len (k : Nat) : ∀ (es : List E) (n : Int), (∀ e ∈ es, WrE e) → (archP k es n).length ≤ 74 * sumR es + 4 * es.length := by
  induction k with
  | zero => intro es f _; simp [archP]
  | succ k ih =>
    intro es n h
    simp only [archP]
    by_cases hl : es.length = 0
    · rw [if_pos hl]; simp
    · rw [if_neg hl]
      have hp := sameA_pos (es := es) (by omega)
      have hle := sameA_le es
      have ht : (es.take (sameA es)).length = sameA es := by simp; omega
      have hd : (es.drop (sameA es)).length = es.length - sameA es := by simp
      have hs := sumR_split es (sameA es)
      have a1 := (tree_facts (sameA es) (es.take (sameA es)) (n + 1) (fun e he => h e (List.mem_of_mem_take he)) (by omega) (by omega)).1
      have b1 := ih (es.drop (sameA es)) (treeN (sameA es) (es.take (sameA es)) (n + 1)) (fun e he => h e (List.mem_of_mem_drop he))
      rw [ht] at a1
      rw [hd] at b1
      simp only [List.length_append, List.length_cons, List.length_nil]
      omega
theorem itemsM_len (p : List E) (h : ∀ e ∈ p, WrE e) : (itemsM p).length ≤ 74 * sumR p + 4 * p.length + 3 := by
  have := archM_len p.length p 1 h
  unfold itemsM
  split
  · simp
  · simp only [List.length_append, List.length_cons, List.length_nil]; omega
theorem itemsP_len (p : List E) (h : ∀ e ∈ p, WrE e) : (itemsP p).length ≤ 74 * sumR p + 4 * p.length + 3 := by
  have := archP_len p.length p 0 h
  unfold itemsP
  split
  · simp only [List.length_append, List.length_cons, List.length_nil]; omega
  · simp only [List.length_append, List.length_cons, List.length_nil]; omega
/-- what a good policy gives the writers -/
theorem sumR_total (p : List E) : sumR p = totalR p := by
  induction p with
  | nil => rfl
  | cons e p ih => simp only [sumR, totalR, List.map_cons, List.sum_cons] at ih ⊢; omega
theorem valid_WrE {p : List E} (hv : validP p = true) (ho : okP p) : (∀ e ∈ p, WrE e) ∧ (∀ e ∈ p, ok2 e) ∧ sumR p ≤ 1000 ∧ p.length ≤ 1000 := by
  unfold validP at hv
  simp only [Bool.and_eq_true, decide_eq_true_eq] at hv
  obtain ⟨h1, h2⟩ := hv
  have hE : ∀ e ∈ p, validE e = true := fun e he => by
    obtain ⟨i, hi, rfl⟩ := List.getElem_of_mem he
    have := List.all_eq_true.1 h1 i (List.mem_range.2 hi)
    unfold stepOk at this
    simp only [Bool.and_eq_true] at this
    have h := this.2
    rw [List.getD_eq_getElem?_getD, List.getElem?_eq_getElem hi] at h
    exact h
  have hW : ∀ e ∈ p, WrE e := fun e he => by
    have := hE e he
    unfold validE at this
    simp only [Bool.and_eq_true, decide_eq_true_eq, List.all_eq_true] at this
    obtain ⟨⟨g1, g2⟩, g3⟩ := this
    refine ⟨(ho e he).2.2, fun r hr => ?_, g1, by omega⟩
    have := g3 r hr
    unfold validR at this
    simp only [Bool.and_eq_true, beq_iff_eq] at this
    omega
  have hL : ∀ q : List E, (∀ e ∈ q, WrE e) → q.length ≤ totalR q := fun q => by
    induction q with
    | nil => intro _; simp
    | cons e q ih =>
      intro h
      have g1 := (h e (List.mem_cons_self ..)).2.2.1
      have g2 := ih (fun x hx => h x (List.mem_cons_of_mem _ hx))
      simp only [totalR, List.length_cons]; omega
  have := hL p hW
  refine ⟨hW, fun e he => ⟨(ho e he).1, (ho e he).2.1⟩, by rw [sumR_total]; exact h2, by omega⟩

/-! the model's steps -/
theorem getD_at {α : Type} (d : α) {l : List α} {k : Nat} (h : k < l.length) : l.drop k = l.getD k d :: l.drop (k + 1) := by
  rw [List.drop_eq_getElem_cons h, List.getD_eq_getElem?_getD, List.getElem?_eq_getElem h]; rfl
theorem consM_step {r : List K} {k : Nat} (h : k < r.length) (fail base : Int) : consM (r.drop k) (k : Int) fail base = conI (r.getD k K.zero) (16 + 8 * (k : Int)) fail (base + 1 + 2 * (k : Int)) (base + 1 + 2 * (k : Int) + 1) ++ consM (r.drop (k + 1)) ((k + 1 : Nat) : Int) fail base := by
  rw [getD_at K.zero h]; rfl
def failM (m i : Nat) (f : Int) : Int := if i + 1 = m then 0 else f
theorem bodyM_step {rs : List (List K)} {i : Nat} (h : i < rs.length) (f : Int) : bodyM (rs.drop i) f = (consM (rs.getD i []) 0 (failM rs.length i f) f ++ [retI 2147418112]) ++ ((if i + 1 = rs.length then [] else [itLb f]) ++ bodyM (rs.drop (i + 1)) (f + 13)) := by
  rw [getD_at [] h]
  unfold failM
  by_cases hl : i + 1 = rs.length
  · rw [if_pos hl, if_pos hl]
    have : rs.drop (i + 1) = [] := List.drop_eq_nil_of_le (by omega)
    rw [this]
    simp only [bodyM, ruleM, List.append_nil]
  · rw [if_neg hl, if_neg hl, getD_at [] (l := rs) (k := i + 1) (by omega)]
    simp only [bodyM, ruleM, List.append_assoc]
theorem sumR_take {es : List E} {i : Nat} (h : i < es.length) : sumR (es.take (i + 1)) = sumR (es.take i) + (es.getD i E.zero).rules.length := by
  induction es generalizing i with
  | nil => simp at h
  | cons e es ih =>
    cases i with
    | zero => simp [sumR]
    | succ i =>
      have := ih (i := i) (by simpa using h)
      simp only [sumR, List.take_succ_cons, List.map_cons, List.sum_cons, List.getD_cons_succ] at this ⊢
      omega
theorem sumR_all (es : List E) : sumR (es.take es.length) = sumR es := by rw [List.take_length]
/-- what the model asks of an entry -/
def WrM (e : E) : Prop := ∀ r ∈ e.rules, r.length = 6 ∧ ∀ c ∈ r, K3 c
theorem valid_WrM {p : List E} (hv : validP p = true) : ∀ e ∈ p, WrM e := by
  unfold validP at hv
  simp only [Bool.and_eq_true, decide_eq_true_eq] at hv
  intro e he r hr
  obtain ⟨i, hi, rfl⟩ := List.getElem_of_mem he
  have := List.all_eq_true.1 hv.1 i (List.mem_range.2 hi)
  unfold stepOk at this
  simp only [Bool.and_eq_true] at this
  have h := this.2
  rw [List.getD_eq_getElem?_getD, List.getElem?_eq_getElem hi] at h
  simp only [Option.getD_some] at h
  unfold validE at h
  simp only [Bool.and_eq_true, decide_eq_true_eq, List.all_eq_true] at h
  have h2 := h.2 r hr
  unfold validR at h2
  simp only [Bool.and_eq_true, beq_iff_eq, List.all_eq_true] at h2
  refine ⟨h2.1, fun c hc => ?_⟩
  have h3 := h2.2 c hc
  unfold validK at h3
  unfold K3
  by_cases g0 : c.kind = 0
  · exact .inl g0
  · by_cases g1 : c.kind = 1
    · exact .inr (.inl g1)
    · by_cases g2 : c.kind = 2
      · exact .inr (.inr g2)
      · simp [g0, g1, g2] at h3
end Go.Proofs.Ytoopomjkapeknaa
