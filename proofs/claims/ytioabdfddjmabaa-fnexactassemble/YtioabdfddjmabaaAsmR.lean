/-
  CONTRACT of slices.Backward over items.
-/
import Derived.Test.YtioabdfddjmabaaAsmP
import Derived.RangeFuncNested
import Derived.RangeFuncBound
import Derived.RangeFuncLeaves
import Derived.RangeFuncBox
import Derived.Shelf.Abstract
import Derived.WalkKit
import Derived.OwnWalkIn
import Derived.TacticsInMore
import Derived.LoopNIn
import Derived.LoopIn
namespace Go.Proofs.Ytioabdfddjmabaa
open Go.RowKit Go.Shelf
set_option linter.unusedVariables false

attribute [local go_sem] Oper.semAt_some

theorem It.zero_ok : It.zero.ok := by unfold It.zero It.ok I.zero I.ok; simp
theorem okT_at {l : List It} (h : ∀ x ∈ l, x.ok) (i : Nat) : (l.getD i It.zero).ok := by
  rw [List.getD_eq_getElem?_getD]
  cases e : l[i]? with
  | none => exact It.zero_ok
  | some x => exact h x (List.mem_of_getElem? e)
/-- what a round is handed -/
abbrev BI := { x : Nat × It // x.2.ok }
abbrev encB (x : BI) : Array Value := #[.int .i64 (x.1.1 : Int), itV x.1.2]
def bkF (l : List It) (h : ∀ x ∈ l, x.ok) (k : Nat) : BI := ⟨(l.length - 1 - k, l.getD (l.length - 1 - k) It.zero), okT_at h _⟩
def uptoB (f : Nat → BI) (k : Nat) : List BI := (List.range k).map f
theorem uptoB_succ (f : Nat → BI) (k : Nat) : uptoB f (k + 1) = uptoB f k ++ [f k] := by simp [uptoB, List.range_succ]
theorem uptoB_length (f : Nat → BI) (k : Nat) : (uptoB f k).length = k := by simp [uptoB]

/-- what a round that goes on keeps -/
def KpB (n₀ : Nat) (W W' : World) : Prop := Below n₀ W W' ∧ FarT W W'
theorem KpB.trans {n₀ : Nat} {a b c : World} (h : KpB n₀ a b) (k : KpB n₀ b c) : KpB n₀ a c := ⟨h.1.trans k.1, fun q cc t f h0 h1 h2 => k.2 q cc t f (h.2 q cc t f h0 h1 h2) h1 h2⟩
theorem KpB.refl (n₀ : Nat) (a : World) : KpB n₀ a a := ⟨Below.refl _ _, fun _ _ _ _ h _ _ => h⟩
theorem cell_obj {w : World} {b : Nat} {v : Value} {t : TypeId} {f : Nat × Nat} (h : w.heap[b]? = some (.cells #[v] t f)) : w.cell? ⟨b, 0, none⟩ = some v := by
  unfold World.cell?
  simp only [h]
  rfl

set_option maxRecDepth 100000 in
set_option maxHeartbeats 4000000 in
theorem back1_in (F : Fence) (n : Nat) (hf : F.fn 35) (hro : F.round = none) (hn : 1 ≤ n) (l Bs n₀ b off len cap : Nat) (f : Nat → BI) (hreach : len ≤ 1000000) (hb : b < n₀) (hfi : ∀ k, k < len → (f k).1.1 = len - 1 - k) (J Jx : List BI → World → Prop)
    (hY : ∀ pre x W, J pre W → pre.length < len → YieldAt F (n - 1) Try.prog l (encB x) W fun e W' =>
      (e = .returned (.bool true) ∧ J (pre ++ [x]) W' ∧ KpB n₀ W W') ∨ (e = .returned (.bool false) ∧ Jx (pre ++ [x]) W'))
    (W : World) (fr : Nat × Nat) (hBs : W.heap[Bs]? = some (.cells #[.slice (some ⟨b, off, none⟩) len cap] 27 fr)) (hc : ∀ k, k < len → PI W b (off + (len - 1 - k) * 6) (f k).1.2) (h0 : J [] W) :
    CallsIn F n Try.prog 35 #[.func (.yield l) #[] #[], .pointer (some ⟨Bs, 0, none⟩)] W fun e W' => (∃ v, e = .returned v) ∧
      ((∃ ys, ys = uptoB f len ∧ J ys W') ∨ (∃ pre, (∃ k, k ≤ len ∧ pre = uptoB f k) ∧ Jx pre W')) := by
  have hBc := cell_obj hBs
  have hw0 : IntKind.i64.wrap ((len : Int) - 1) = (len : Int) - 1 := by rw [IntKind.wrap_i64]; omega
  have HC : Hid (∀ wr, KpB n₀ W wr → wr.cell? ⟨Bs, 0, none⟩ = some (.slice (some ⟨b, off, none⟩) len cap) ∧ ∀ k, k < len → PI wr b (off + (len - 1 - k) * 6) (f k).1.2) := fun wr h => ⟨cell_obj (h.2 _ _ _ _ hBs (by decide) (by decide)), fun k hk => by
    obtain ⟨c0, c1, c2, c3, c4, c5⟩ := hc k hk
    exact ⟨(h.1.cell (p := ⟨b, _, none⟩) hb).trans c0, (h.1.cell (p := ⟨b, _, none⟩) hb).trans c1, (h.1.cell (p := ⟨b, _, none⟩) hb).trans c2, (h.1.cell (p := ⟨b, _, none⟩) hb).trans c3, (h.1.cell (p := ⟨b, _, none⟩) hb).trans c4, (h.1.cell (p := ⟨b, _, none⟩) hb).trans c5⟩⟩
  clear hc hBs
  refine callsIn_of_wp Try.func35 rfl hf ?_ hro
  simp only [Try.ntmps35, List.size_toArray, List.length_cons, List.length_nil, Nat.reduceAdd, Nat.reduceSub, Array.replicate_succ, Array.replicate_zero, List.push_toArray, List.append_toArray, List.nil_append, List.cons_append]
  gi_wp2
  gi_loopw [3] (fun i wr => ∃ k : Nat, k ≤ len ∧ i = .int .i64 ((len : Int) - 1 - k) ∧ J (uptoB f k) wr ∧ KpB n₀ W wr)
    (fun i _ => (intOf i + 1).toNat)
  case atStart => exact ⟨0, Nat.zero_le _, by first | rfl | simp, h0, KpB.refl _ _⟩
  case round =>
    obtain ⟨k, hk, rfl, hJs, hnx⟩ := hrel
    by_cases hlt : k < len
    · obtain ⟨hBc2, hcs⟩ := HC.out wr hnx
      have hcx := hcs k hlt
      obtain ⟨fn, tmps, assign, body, hy, hR⟩ := hY _ (f k) wr hJs (by rw [uptoB_length]; exact hlt)
      have hfk := hfi k hlt
      have hi1 : (len : Int) - 1 - k = ((len - 1 - k : Nat) : Int) := by omega
      rw [hi1]
      have hi2 : len - 1 - k < len := by omega
      have hi3 : ((len - 1 - k : Nat) : Int) < (len : Int) := by omega
      have hw1 : IntKind.i64.wrap (((len - 1 - k : Nat) : Int) - 1) = ((len - 1 - k : Nat) : Int) - 1 := by rw [IntKind.wrap_i64]; omega
      have HRel : Hid (((len - 1 - k : Nat) : Int) - 1 = (len : Int) - 1 - ((k + 1 : Nat) : Int)) := by show _ = _; omega
      have HU : Hid (uptoB f (k + 1) = uptoB f k ++ [f k]) := uptoB_succ f k
      dsimp only [encB] at hy
      rw [hfk] at hy
      clear HC hcs
      generalize len - 1 - k = j at *
      generalize f k = fk at *
      obtain ⟨⟨i0, ⟨kd, ⟨c, jt, jf, ik⟩, tg⟩⟩, hok⟩ := fk
      simp only [itV] at hy hcx hfk
      obtain ⟨c0, c1, c2, c3, c4, c5⟩ := hcx
      simp only at c0 c1 c2 c3 c4 c5
      gi_wp2
      refine hR.mono ?_
      rintro e W3 (⟨rfl, hJ3, hk3⟩ | ⟨rfl, hJx3⟩)
      · gi_wp2
        go_roundw
        case rel => exact ⟨k + 1, by omega, by rw [HRel.out], by rw [HU.out]; exact hJ3, hnx.trans hk3⟩
        case measure => simp [intOf]
      · gi_wp2
        refine bodyPost_ret (results_none rfl _ _ _) rfl ?_
        exact ⟨⟨_, rfl⟩, .inr ⟨_, ⟨k + 1, by omega, HU.out.symm⟩, hJx3⟩⟩
    · obtain rfl : k = len := by omega
      have hi1 : (k : Int) - 1 - k = -1 := by omega
      rw [hi1]
      clear HC
      gi_wp2
      go_end0
      exact ⟨⟨_, rfl⟩, .inl ⟨_, rfl, hJs⟩⟩

set_option maxRecDepth 100000 in
set_option maxHeartbeats 1000000 in
theorem back1_nil_in (F : Fence) (n : Nat) (hf : F.fn 35) (hro : F.round = none) (l Bs cap : Nat) (a : Option Addr) (J : List BI → World → Prop) (W : World) (hBs : W.cell? ⟨Bs, 0, none⟩ = some (.slice a 0 cap)) (h0 : J [] W) :
    CallsIn F n Try.prog 35 #[.func (.yield l) #[] #[], .pointer (some ⟨Bs, 0, none⟩)] W fun e W' => (∃ v, e = .returned v) ∧ J [] W' := by
  refine callsIn_of_wp Try.func35 rfl hf ?_ hro
  simp only [Try.ntmps35, List.size_toArray, List.length_cons, List.length_nil, Nat.reduceAdd, Nat.reduceSub, Array.replicate_succ, Array.replicate_zero, List.push_toArray, List.append_toArray, List.nil_append, List.cons_append]
  gi_wp2
  gi_loopw [3] (fun i wr => i = .int .i64 (-1) ∧ J [] wr) (fun _ _ => 0)
  case atStart => exact ⟨rfl, h0⟩
  case round =>
    obtain ⟨rfl, hJs⟩ := hrel
    gi_wp2
    go_end0
    exact ⟨⟨_, rfl⟩, hJs⟩

set_option maxHeartbeats 1000000 in
/-- slices.Backward(s): the slice value is boxed; the function value captures the box. -/
theorem back_any (a : Option Addr) (len cap : Nat) (w : World) :
    Calls Try.prog 28 #[.slice a len cap] w fun e w' => e = .returned (.func (.func 35) #[] #[.pointer (some ⟨w.heap.size, 0, none⟩)]) ∧ w' = w.alloc (.cells #[.slice a len cap] 27) := by
  go_enter Try.func28, Try.ntmps28
  go_wp2
  go_ret
  exact ⟨rfl, rfl⟩

theorem back_stops (F : Fence) (n : Nat) (hf : F.fn 35) (hro : F.round = none) (hn : 1 ≤ n) (Bs n₀ cap : Nat) (a : Option Addr) (it : List It) (ho : ∀ x ∈ it, x.ok) (hreach : it.length ≤ 1000000) (w0 w : World) (hn₀ : w0.heap.size ≤ n₀) (hn₁ : n₀ ≤ w.heap.size) (hb0 : Below w0.heap.size w0 w)
    (fr : Nat × Nat) (hc : w.heap[Bs]? = some (.cells #[.slice a it.length cap] 27 fr)) (hI : TSrc w0 a it) :
    SeqStopsK F n Try.prog 35 #[.pointer (some ⟨Bs, 0, none⟩)] encB (KpB n₀) (fun ys => ys = uptoB (bkF it ho) it.length)
      (fun pre => ∃ k, k ≤ it.length ∧ pre = uptoB (bkF it ho) k) it.length w := fun l J Jx W hW _ _ hY h0 => by
  have hc' := (hW.block Bs (Array.getElem?_eq_some_iff.1 hc).1).trans hc
  have hI' : TSrc W a it := hI.below PI.stays (hb0.trans (hW.mono (Nat.le_trans hn₀ hn₁)))
  rcases hI with rfl | ⟨b, o, rfl, hlt, _⟩
  · exact (back1_nil_in F n hf hro l Bs cap a J W (cell_obj hc') h0).mono fun e W' ⟨he, hj⟩ => ⟨he, .inl ⟨_, rfl, hj⟩⟩
  · refine back1_in F n hf hro hn l Bs n₀ b o it.length cap (bkF it ho) hreach (by omega) (fun k hk => rfl) J Jx hY W fr hc' (fun k hk => ?_) h0
    obtain ⟨b', o', e, _, hp⟩ := hI'.at (i := it.length - 1 - k) (by omega) It.zero
    cases e
    exact hp
end Go.Proofs.Ytioabdfddjmabaa
