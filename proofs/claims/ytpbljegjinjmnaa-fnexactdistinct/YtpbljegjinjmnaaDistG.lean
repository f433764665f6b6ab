/-
  CONTRACT: the program's Distinct.
-/
import Derived.Test.YtpbljegjinjmnaaDistF
import Derived.Test.YtpbljegjinjmnaaDistB
import Derived.Laws.AppendOwnNone
namespace Go.Proofs.Ytpbljegjinjmnaa
open Go.RowKit
set_option linter.unusedVariables false

/-- the last cell of a call is written -/
theorem RowM.set2 {w : World} {D N n : Nat} {g : Nat → C × Value} (h : RowM w D N n g) (i : Nat) (v : Value) :
    RowM (w.setCell ⟨D, i * 3 + 2, none⟩ v) D N n (fun j => if j = i then ((g j).1, v) else g j) := by
  obtain ⟨hn, f, hr, hf⟩ := h
  refine ⟨hn, _, hr.set _ _, fun j hj => ?_⟩
  have hj' := hf j hj
  by_cases e2 : j = i * 3 + 2
  · subst e2
    rw [if_pos rfl, cellF_2, if_pos rfl]
  · rw [if_neg e2, hj']
    unfold cellF
    by_cases e : j / 3 = i
    · have h0 : j % 3 = 0 ∨ j % 3 = 1 := by omega
      rcases h0 with h0 | h0
      · rw [if_pos h0, if_pos h0]; simp [e]
      · rw [if_neg (by omega), if_pos h0, if_neg (by omega), if_pos h0]; simp [e]
    · simp only [e, if_false]

/-- a row of calls: the first k have values of their own behind them -/
structure PartC (w : World) (D N m : Nat) (g : Nat → C × Value) (vs : Nat → Value) (k : Nat) : Prop where
  row : RowM w D N m (fun i => if i < k then ((g i).1, vs i) else g i)
  own : ∀ i, i < k → ownsU w (D + 1) (vs i) (g i).1.args
  inc : ∀ i j p q, i < j → j < k → (vs i).ownBlock = some p → (vs j).ownBlock = some q → p < q

theorem PartC.start {w : World} {D N m : Nat} {g : Nat → C × Value} (h : RowM w D N m g) : PartC w D N m g (fun _ => undef) 0 :=
  ⟨by simpa using h, fun i hi => by omega, fun i j p q _ h => by omega⟩
theorem PartC.step {w w1 : World} {D N m k : Nat} {g : Nat → C × Value} {vs : Nat → Value} {v : Value} (h : PartC w D N m g vs k) (hk : k < m) (hb : Below w.heap.size w w1) (hv : ownsU w1 w.heap.size v (g k).1.args) :
    PartC (w1.setCell ⟨D, k * 3 + 2, none⟩ v) D N m g (fun i => if i = k then v else vs i) (k + 1) := by
  have hD := h.row.lt
  have hvD : ∀ q, v.ownBlock = some q → q ≠ D := fun q hq => by have := (hv.lt q hq).1; omega
  have hwD : ∀ i, i < k → ∀ q, (vs i).ownBlock = some q → q ≠ D := fun i hi q hq => by have := ((h.own i hi).lt q hq).1; omega
  refine ⟨?_, fun i hi => ?_, fun i j p q hij hj hp hq => ?_⟩
  · have := (h.row.keep hb).set2 k v
    obtain ⟨hn, f, hr, hf⟩ := this
    refine ⟨hn, f, hr, fun j hj => ?_⟩
    rw [hf j hj]
    congr 1
    funext i
    by_cases e : i = k
    · subst e; simp
    · by_cases e2 : i < k
      · simp [e, e2, show i < k + 1 by omega]
      · simp [e, e2, show ¬ i < k + 1 by omega]
  · by_cases e : i = k
    · subst e
      simp only [if_true]
      exact ownsU_set (ownsU_mono hv (by omega)) hvD
    · simp only [if_neg e]
      exact ownsU_set (ownsU_below (h.own i (by omega)) hb) (hwD i (by omega))
  · by_cases e : j = k
    · subst e
      simp only [if_true] at hq
      rw [if_neg (by omega)] at hp
      have h2 := ((h.own i (by omega)).lt p hp).2
      have h3 := (hv.lt q hq).1
      omega
    · rw [if_neg (by omega)] at hp hq
      exact h.inc i j p q hij (by omega) hp hq
theorem PartC.done {w : World} {D N m : Nat} {g : Nat → C × Value} {vs : Nat → Value} (h : PartC w D N m g vs m) : OwnC w D N vs (lst g m) := by
  obtain ⟨hn, f, hr, hf⟩ := h.row
  refine ⟨⟨f, hr, fun i hi => ?_⟩, by rw [lst_len]; exact hn, fun i hi => ?_, fun i j p q hij hj => ?_⟩
  · rw [lst_len] at hi
    rw [lst_get g hi, hf _ (by omega), hf _ (by omega), hf _ (by omega), cellF_0, cellF_1, cellF_2, if_pos hi]
    exact ⟨rfl, rfl, rfl⟩
  · rw [lst_len] at hi
    rw [lst_get g hi]; exact h.own i hi
  · rw [lst_len] at hj
    exact h.inc i j p q hij hj

/-- an append whose run is known -/
theorem wpList_append_known {P : Program} {w w' : World} {ops : Array Oper} {rest : List Oper} {o : Oper} {a : Act} {Q : Exit → Act → World → Prop} (hgd : o.guard = none) (s x : Operand) (t : TypeId)
    (ho : o.op = .call { callee := .builtin .append, args := #[s, x], argTypes := #[t, t] }) (v u r : Value) (hs : a.eval s = v) (hx : a.eval x = u) (hrun : (Builtin.append_ #[t, t] o.type #[v, u]).run P w = .ok r w')
    (h : wpList P ops Q rest (a.put o.dst r) w') : wpList P ops Q (o :: rest) a w := by
  refine wpList_plain hgd fun K hK => ?_
  unfold Oper.wp
  simp [execOp, ho, resolve, invoke, builtin, hs, hx, hrun, Result.andThen]
  exact hK _ _ h

set_option maxRecDepth 100000 in
set_option maxHeartbeats 1000000 in
theorem compactNone_any (w : World) :
    Calls Try.prog 38 #[.slice none 0 0, .func (.func 39) #[] #[]] w fun e w' => e = .returned (.slice none 0 0) ∧ w' = w := by
  go_enter Try.func38, Try.ntmps38
  go_wp2
  go_ret
  exact ⟨rfl, rfl⟩

set_option maxRecDepth 100000 in
set_option maxHeartbeats 1000000 in
theorem implDist_none (a : Option Addr) (cap : Nat) (w : World) :
    Calls Try.prog 14 #[.slice a 0 cap] w fun e w' => e = .returned (.slice none 0 0) ∧ w' = w := by
  obtain ⟨i0, hi, hz0, hz1, hz2⟩ := info_parts infoCall
  have hap : ∀ u : World, (Builtin.append_ #[35, 35] 35 #[.slice none 0 0, .slice a 0 cap]).run Try.prog u = .ok (.slice none 0 0) u := fun u => by
    cases a <;> simp [Builtin.append_, run_underlying Try.underlying35, sizeOf, typeInfo, hi, Builtin.lenOf, Builtin.firstCells, loadCells, loadCellsFrom]
  have HS : Hid (∀ w1, Calls Try.prog 36 #[.slice none 0 0, .func (.func 37) #[] #[]] w1 fun e w' => e = .returned (.tuple #[]) ∧ w' = w1) := sortNone_any
  have HC : Hid (∀ w1, Calls Try.prog 38 #[.slice none 0 0, .func (.func 39) #[] #[]] w1 fun e w' => e = .returned (.slice none 0 0) ∧ w' = w1) := compactNone_any
  have Hap : Hid _ := hap
  clear hap
  go_enter Try.func14, Try.ntmps14
  go_wp2_with (at_builtin; refine wpList_append_known rfl (.const (.slice none 0 0)) (.tmp 5) 35 rfl (.slice none 0 0) (.slice a 0 cap) (.slice none 0 0) rfl rfl (Hap.out _) ?_)
  go_wp2_with fail
  refine (HS.out _).mono ?_
  rintro e w1 ⟨rfl, rfl⟩
  go_wp2_with fail
  refine (HC.out _).mono ?_
  rintro e w1 ⟨rfl, rfl⟩
  clear HS HC Hap
  go_wp2_with fail
  go_loopw [13] (fun i wr => i = .int .i64 0 ∧ wr = w1) (fun i _ => 0)
  case atStart => exact ⟨rfl, rfl⟩
  case round =>
    obtain ⟨rfl, rfl⟩ := hrel
    go_wp2
    go_ret
    exact ⟨rfl, rfl⟩
end Go.Proofs.Ytpbljegjinjmnaa
