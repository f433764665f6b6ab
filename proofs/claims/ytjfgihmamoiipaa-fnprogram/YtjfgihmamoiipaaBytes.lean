/-
  CONTRACTS of the helpers over slices of bytes: compare; bytes that a value owns.
-/
import Derived.Test.YtjfgihmamoiipaaLeaf
import Derived.Deep.OwnRows
import Derived.Deep.QuietTactic
import Derived.BigQuiet
import Derived.Deep.RegionWith
namespace Go.Proofs.Ytjfgihmamoiipaa
open Go.RowKit
set_option linter.unusedVariables false

theorem add_at (b o m : Nat) : (⟨b, o, none⟩ : Addr).add m = ⟨b, o + m, none⟩ := by
  unfold Addr.add
  by_cases hm0 : m = 0
  · subst hm0; simp
  · simp [hm0]

/-- bytes that came in, or were made: nil or empty, or at an address -/
def BytesAt (w : World) (b o : Nat) (l : List Int) : Prop := ∀ i, i < l.length → w.cell? ⟨b, o + i, none⟩ = some (.int .u8 (l.getD i 0))

def BSrc (w : World) (a : Option Addr) (l : List Int) : Prop := l = [] ∨ ∃ b o, a = some ⟨b, o, none⟩ ∧ b < w.heap.size ∧ BytesAt w b o l

theorem BSrc.below {w w' : World} {a : Option Addr} {l : List Int} (h : BSrc w a l) (hb : Below w.heap.size w w') : BSrc w' a l := by
  rcases h with h | ⟨b, o, ha, hlt, hc⟩
  · exact .inl h
  · exact .inr ⟨b, o, ha, Nat.lt_of_lt_of_le hlt hb.size, fun i hi => (hb.cell (p := ⟨b, _, none⟩) hlt).trans (hc i hi)⟩

set_option maxHeartbeats 1000000 in
theorem eqByteS_none (a a' : Option Addr) (cap cap' : Nat) (w : World) :
    Calls Try.prog 23 #[.slice a 0 cap, .slice a' 0 cap'] w fun e w' => e = .returned (.bool true) ∧ Below w.heap.size w w' := by
  go_enter Try.func23, Try.ntmps23
  go_wp2_with fail
  go_loopw [5] (fun i wr => i = .int .i64 0 ∧ wr = w) (fun i _ => 0)
  case atStart => exact ⟨rfl, rfl⟩
  case round =>
    obtain ⟨rfl, rfl⟩ := hrel
    go_wp2
    go_ret
    exact ⟨rfl, Below.refl _ _⟩

set_option maxHeartbeats 1000000 in
theorem eqByteS_some (b o cap b' o' cap' : Nat) (l : List Int) (w : World) (hp : BytesAt w b o l) (hp' : BytesAt w b' o' l) (hn : l.length ≤ 16777216) :
    Calls Try.prog 23 #[.slice (some ⟨b, o, none⟩) l.length cap, .slice (some ⟨b', o', none⟩) l.length cap'] w fun e w' => e = .returned (.bool true) ∧ Below w.heap.size w w' := by
  obtain ⟨n, hn'⟩ : ∃ n, l.length = n := ⟨_, rfl⟩
  have HN : Hid (l.length = n) := hn'
  rw [hn'] at hn ⊢
  clear hn'
  go_enter Try.func23, Try.ntmps23
  go_wp2_with fail
  go_loopw [5] (fun i wr => ∃ k m : Nat, k ≤ n ∧ i = .int .i64 k ∧ wr = w.drewN m) (fun i _ => n - (intOf i).toNat)
  case atStart => exact ⟨0, 0, by omega, rfl, rfl⟩
  case round =>
    obtain ⟨k, m, hk, rfl, rfl⟩ := hrel
    by_cases hlt : k < n
    · have c0 := hp k (by rw [HN.out]; exact hlt)
      have c1 := hp' k (by rw [HN.out]; exact hlt)
      clear hp hp'
      have hlt' : (k : Int) < (n : Int) := by omega
      go_wp2_with fail
      go_quiet (fail)
      go_wp2
      go_roundw
      case rel => exact ⟨k + 1, _, by omega, by go_num, rfl⟩
      case measure => simp [intOf]; omega
    · go_wp2
      go_ret
      exact ⟨rfl, below_drewN (Below.refl _ _) _⟩

theorem eqByteS_any (a a' : Option Addr) (cap cap' : Nat) (l : List Int) (w : World) (hs : BSrc w a l) (hs' : BSrc w a' l) (hn : l.length ≤ 16777216) :
    Calls Try.prog 23 #[.slice a l.length cap, .slice a' l.length cap'] w fun e w' => e = .returned (.bool true) ∧ Below w.heap.size w w' := by
  rcases hs with rfl | ⟨b, o, rfl, hb, hp⟩
  · exact eqByteS_none a a' cap cap' w
  · rcases hs' with rfl | ⟨b', o', rfl, hb', hp'⟩
    · exact eqByteS_none _ a' cap cap' w
    · exact eqByteS_some b o cap b' o' cap' l w hp hp' hn

theorem info5 : (Try.prog.info? 5).map (fun i => (i.zero, i.size, i.bytes)) = some (some (.int .u8 0), 1, 1) := by kernel_rfl

/-- an own row of bytes -/
abbrev owns (w : World) (base : Nat) (v : Value) (l : List Int) : Prop := w.ownsRow base 5 1 v l.length (l.map (Value.int .u8))

theorem owns_src {w : World} {base : Nat} {v : Value} {l : List Int} (h : owns w base v l) : ∃ a cap, v = .slice a l.length cap ∧ BSrc w a l := by
  obtain ⟨_, h | ⟨g, cap, cur, rfl, hb, hg, hn, hm, hs, hx⟩⟩ := h
  · obtain ⟨rfl, h0⟩ := h
    have : l = [] := List.eq_nil_of_length_eq_zero h0
    subst this
    exact ⟨none, 0, rfl, .inl rfl⟩
  · refine ⟨_, _, rfl, .inr ⟨g, 0, rfl, (Array.getElem?_eq_some_iff.1 hg).1, fun i hi => ?_⟩⟩
    have e : (cur.toList.take (l.length * 1))[i]? = some (Value.int .u8 (l.getD i 0)) := by
      rw [hx, List.getElem?_map, List.getElem?_eq_getElem hi, List.getD_eq_getElem?_getD, List.getElem?_eq_getElem hi]; rfl
    rw [List.getElem?_take, if_pos (by omega)] at e
    simp only [World.cell?, hg, Nat.zero_add]
    simpa using e

theorem eqByteS_own {B B' : Nat} {v v' : Value} {l : List Int} {w : World} (h : owns w B v l) (h' : owns w B' v' l) (hn : l.length ≤ 16777216) :
    Calls Try.prog 23 #[v, v'] w fun e w' => e = .returned (.bool true) ∧ Below w.heap.size w w' := by
  obtain ⟨a, cap, rfl, hs⟩ := owns_src h
  obtain ⟨a', cap', rfl, hs'⟩ := owns_src h'
  exact eqByteS_any a a' cap cap' l w hs hs' hn

theorem owns_kept {w w' : World} {B : Nat} {v : Value} {l : List Int} {row : Option Nat} (h : owns w B v l) (hg : w.grownBy w' row) (hne : ∀ q, v.ownBlock = some q → some q ≠ row) : owns w' B v l := by
  refine World.ownsRow.kept h hg ?_
  cases hv : v.ownBlock with
  | none => exact .inl rfl
  | some q => exact .inr (hne q hv)
end Go.Proofs.Ytjfgihmamoiipaa
