/-
  CONTRACTS of the helpers over slices of bytes: copy, compare, mark, look whether the marks are held.
-/
import Derived.Test.YtmljkhpkinplkabLeaf
import Derived.Deep.OwnRows
import Derived.Deep.QuietTactic
import Derived.BigQuiet
import Derived.Deep.RegionWith
namespace Go.Proofs.Ytmljkhpkinplkab
open Go.RowKit
set_option linter.unusedVariables false

theorem add_at (b o m : Nat) : (⟨b, o, none⟩ : Addr).add m = ⟨b, o + m, none⟩ := by
  unfold Addr.add
  by_cases hm0 : m = 0
  · subst hm0; simp
  · simp [hm0]

/-- bytes that came in, or were made: nil or empty, or at an address -/
def BytesAt (w : World) (b o : Nat) (l : List Int) : Prop := ∀ i, i < l.length → w.cell? ⟨b, o + i, none⟩ = some (.int .u8 (l.getD i 0))
def BSrc (w : World) (a : Option Addr) (l : List Int) : Prop := l = [] ∨ ∃ b o, a = some ⟨b, o, none⟩ ∧ b < w.heap.size ∧ BytesAt w b o l

theorem BSrc.below {w w' : World} {a : Option Addr} {l : List Int} (h : BSrc w a l) (hb : Below w.heap.size w w') : BSrc w' a l := by
  rcases h with h | ⟨b, o, ha, hlt, hc⟩
  · exact .inl h
  · exact .inr ⟨b, o, ha, Nat.lt_of_lt_of_le hlt hb.size, fun i hi => (hb.cell (p := ⟨b, _, none⟩) hlt).trans (hc i hi)⟩

set_option maxHeartbeats 1000000 in
theorem eqByteS_none (a a' : Option Addr) (cap cap' : Nat) (w : World) :
    Calls Try.prog 11 #[.slice a 0 cap, .slice a' 0 cap'] w fun e w' => e = .returned (.bool true) ∧ Below w.heap.size w w' := by
  go_enter Try.func11, Try.ntmps11
  go_wp2_with fail
  go_loopw [5] (fun i wr => i = .int .i64 0 ∧ wr = w) (fun i _ => 0)
  case atStart => exact ⟨rfl, rfl⟩
  case round =>
    obtain ⟨rfl, rfl⟩ := hrel
    go_wp2
    go_ret
    exact ⟨rfl, Below.refl _ _⟩

set_option maxHeartbeats 1000000 in
theorem eqByteS_some (b o cap b' o' cap' : Nat) (l : List Int) (w : World) (hp : BytesAt w b o l) (hp' : BytesAt w b' o' l) (hn : l.length ≤ 16777216) :
    Calls Try.prog 11 #[.slice (some ⟨b, o, none⟩) l.length cap, .slice (some ⟨b', o', none⟩) l.length cap'] w fun e w' => e = .returned (.bool true) ∧ Below w.heap.size w w' := by
  obtain ⟨n, hn'⟩ : ∃ n, l.length = n := ⟨_, rfl⟩
  have HN : Hid (l.length = n) := hn'
  rw [hn'] at hn ⊢
  clear hn'
  go_enter Try.func11, Try.ntmps11
  go_wp2_with fail
  go_loopw [5] (fun i wr => ∃ k m : Nat, k ≤ n ∧ i = .int .i64 k ∧ wr = w.drewN m) (fun i _ => n - (intOf i).toNat)
  case atStart => exact ⟨0, 0, by omega, rfl, rfl⟩
  case round =>
    obtain ⟨k, m, hk, rfl, rfl⟩ := hrel
    by_cases hlt : k < n
    · have c0 := hp k (by rw [HN.out]; exact hlt)
      have c1 := hp' k (by rw [HN.out]; exact hlt)
      clear hp hp'
      have hlt' : (k : Int) < (n : Int) := by omega
      go_wp2_with fail
      go_quiet (fail)
      go_wp2
      go_roundw
      case rel => exact ⟨k + 1, _, by omega, by go_num, rfl⟩
      case measure => simp [intOf]; omega
    · go_wp2
      go_ret
      exact ⟨rfl, below_drewN (Below.refl _ _) _⟩

theorem eqByteS_any (a a' : Option Addr) (cap cap' : Nat) (l : List Int) (w : World) (hs : BSrc w a l) (hs' : BSrc w a' l) (hn : l.length ≤ 16777216) :
    Calls Try.prog 11 #[.slice a l.length cap, .slice a' l.length cap'] w fun e w' => e = .returned (.bool true) ∧ Below w.heap.size w w' := by
  rcases hs with rfl | ⟨b, o, rfl, hb, hp⟩
  · exact eqByteS_none a a' cap cap' w
  · rcases hs' with rfl | ⟨b', o', rfl, hb', hp'⟩
    · exact eqByteS_none _ a' cap cap' w
    · exact eqByteS_some b o cap b' o' cap' l w hp hp' hn

theorem grown_setCell {w wr : World} {D : Nat} (h : w.grownBy wr (some D)) (j : Nat) (v : Value) : w.grownBy (wr.setCell ⟨D, j, none⟩ v) (some D) :=
  ⟨h.os, h.tape, h.output, by have := h.size; simpa [World.setCell] using this, fun k hk hne => (Below.heap_setCell wr ⟨D, j, none⟩ v k (fun e => hne (by rw [e]))).trans (h.block k hk hne)⟩

/-- the cells of the row D from number 0 to j hold the marks k, k + 1, .. -/
def Marks (w : World) (D N : Nat) (k : Int) (j : Nat) : Prop := ∃ f, w.rowIs D 5 N f ∧ ∀ i, i < j → f i = .int .u8 (IntKind.u8.wrap (k + i))

theorem Marks.step {w : World} {D N j : Nat} {k : Int} (h : Marks w D N k j) : Marks (w.setCell ⟨D, j, none⟩ (.int .u8 (IntKind.u8.wrap (k + j)))) D N k (j + 1) := by
  obtain ⟨f, hr, hf⟩ := h
  refine ⟨_, hr.set _ _, fun i hi => ?_⟩
  by_cases e : i = j
  · rw [if_pos e, e]
  · rw [if_neg e]; exact hf i (by omega)
theorem Marks.own {w : World} {D N j : Nat} {k : Int} (h : Marks w D N k j) (i : Nat) (hi : i < N) : ∃ v, w.cell? ⟨D, i, none⟩ = some v ∧ w.frozen? ⟨D, i, none⟩ = false := by
  obtain ⟨f, hr, _⟩ := h
  exact ⟨_, hr.cell hi, hr.frozen i⟩

set_option maxHeartbeats 1000000 in
theorem markByteS_some (D n cap N : Nat) (k : Int) (w : World) (hM : Marks w D N k 0) (hN : n ≤ N) (hn : n ≤ 16777216) (h0 : 0 ≤ k) (h1 : k ≤ 16777216) :
    Calls Try.prog 14 #[.slice (some ⟨D, 0, none⟩) n cap, .int .i64 k] w fun e w' => e = .returned (.int .i64 (k + n)) ∧ Marks w' D N k n ∧ w.grownBy w' (some D) := by
  go_enter Try.func14, Try.ntmps14
  go_wp2_with fail
  go_loopw [1, 5] (fun q i wr => ∃ j : Nat, j ≤ n ∧ i = .int .i64 j ∧ q = .int .i64 (k + j) ∧ Marks wr D N k j ∧ w.grownBy wr (some D)) (fun _ i _ => n - (intOf i).toNat)
  case atStart => exact ⟨0, by omega, rfl, by go_num, hM, World.grownBy.refl _ _⟩
  case round =>
    obtain ⟨j, hj, rfl, rfl, hM', hG⟩ := hrel
    by_cases hlt : j < n
    · obtain ⟨v, e0, f0⟩ := hM'.own j (by omega)
      go_wp2
      go_roundw
      case rel => exact ⟨j + 1, by omega, by go_num, by go_num, hM'.step, grown_setCell hG _ _⟩
      case measure => simp [intOf]; omega
    · go_wp2
      go_ret
      have hjn : j = n := by omega
      subst hjn
      exact ⟨rfl, hM', hG⟩

set_option maxHeartbeats 1000000 in
theorem heldByteS_some (D n cap N : Nat) (k : Int) (w : World) (hM : Marks w D N k n) (hN : n ≤ N) (hn : n ≤ 16777216) (h0 : 0 ≤ k) (h1 : k ≤ 16777216) :
    Calls Try.prog 15 #[.slice (some ⟨D, 0, none⟩) n cap, .int .i64 k] w fun e w' => e = .returned (.int .i64 (k + n)) ∧ w' = w := by
  obtain ⟨f, hr, hf⟩ := hM
  have hc : ∀ i, i < n → w.cell? ⟨D, i, none⟩ = some (.int .u8 (IntKind.u8.wrap (k + i))) := fun i hi => by rw [hr.cell (by omega), hf i hi]
  clear hr hf
  go_enter Try.func15, Try.ntmps15
  go_wp2_with fail
  go_loop [1, 5] (fun q i => ∃ j : Nat, j ≤ n ∧ i = .int .i64 j ∧ q = .int .i64 (k + j)) (fun _ i => n - (intOf i).toNat)
  case atStart => exact ⟨0, by omega, rfl, by go_num⟩
  case round =>
    obtain ⟨j, hj, rfl, rfl⟩ := hrel
    by_cases hlt : j < n
    · have c0 := hc j hlt
      clear hc
      go_wp2
      go_round
      case rel => exact ⟨j + 1, by omega, by go_num, by go_num⟩
      case measure => simp [intOf]; omega
    · go_wp2
      go_ret
      have hjn : j = n := by omega
      subst hjn
      exact ⟨rfl, rfl⟩

theorem info5 : (Try.prog.info? 5).map (fun i => (i.zero, i.size, i.bytes)) = some (some (.int .u8 0), 1, 1) := by kernel_rfl

/-- an own row of bytes -/
abbrev owns (w : World) (base : Nat) (v : Value) (l : List Int) : Prop := w.ownsRow base 5 1 v l.length (l.map (Value.int .u8))

theorem owns_src {w : World} {base : Nat} {v : Value} {l : List Int} (h : owns w base v l) : ∃ a cap, v = .slice a l.length cap ∧ BSrc w a l := by
  obtain ⟨_, h | ⟨g, cap, cur, rfl, hb, hg, hn, hm, hs, hx⟩⟩ := h
  · obtain ⟨rfl, h0⟩ := h
    have : l = [] := List.eq_nil_of_length_eq_zero h0
    subst this
    exact ⟨none, 0, rfl, .inl rfl⟩
  · refine ⟨_, _, rfl, .inr ⟨g, 0, rfl, (Array.getElem?_eq_some_iff.1 hg).1, fun i hi => ?_⟩⟩
    have e : (cur.toList.take (l.length * 1))[i]? = some (Value.int .u8 (l.getD i 0)) := by
      rw [hx, List.getElem?_map, List.getElem?_eq_getElem hi, List.getD_eq_getElem?_getD, List.getElem?_eq_getElem hi]; rfl
    rw [List.getElem?_take, if_pos (by omega)] at e
    simp only [World.cell?, hg, Nat.zero_add]
    simpa using e

theorem owns_marks {w : World} {base g n cap : Nat} {l : List Int} (h : owns w base (.slice (some ⟨g, 0, none⟩) n cap) l) (k : Int) : n = l.length ∧ n ≤ cap ∧ base ≤ g ∧ Marks w g cap k 0 := by
  obtain ⟨_, h | ⟨g', cap', cur, hv, hb, hg, hn, hm, hs, hx⟩⟩ := h
  · simp at h
  · simp only [Value.slice.injEq, Option.some.injEq, Addr.mk.injEq] at hv
    obtain ⟨⟨rfl, _⟩, rfl, rfl⟩ := hv
    refine ⟨rfl, hn, hb, fun i => cur.getD i undef, ⟨cur, hg, by omega, fun i hi => ?_⟩, fun i hi => by omega⟩
    simp [show i < cur.size by omega]
end Go.Proofs.Ytmljkhpkinplkab
