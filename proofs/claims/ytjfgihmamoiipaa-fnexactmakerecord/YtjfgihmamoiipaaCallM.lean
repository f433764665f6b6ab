/-
  CONTRACTS of the helpers over one call.
-/
import Derived.Test.YtjfgihmamoiipaaU64
namespace Go.Proofs.Ytjfgihmamoiipaa
open Go.RowKit
set_option linter.unusedVariables false

/-- the value of one call, its arguments in v -/
abbrev callV (c : C) (v : Value) : Value := .agg #[.int .u32 c.arch, .int .u32 c.nr, v]

set_option maxHeartbeats 1000000 in
theorem szUint64S_any (a : Option Addr) (n cap : Nat) (left : Int) (w : World) (hn : n ≤ 9223372036854775807) (h0 : 0 ≤ left) (h1 : left ≤ 1048576) :
    Calls Try.prog 75 #[.slice a n cap, .int .i64 left] w fun e w' => e = .returned (.int .i64 (if left - n < 0 then -1 else left - n)) ∧ w' = w := by
  go_enter Try.func75, Try.ntmps75
  go_wp2
  all_goals (go_ret)
  all_goals exact ⟨rfl, rfl⟩

set_option maxHeartbeats 1000000 in
theorem szCall_any (c : C) (a : Option Addr) (cap : Nat) (left : Int) (w : World) (hn : c.args.length ≤ 9223372036854775807) (h0 : 0 ≤ left) (h1 : left ≤ 1048576) :
    Calls Try.prog 41 #[callV c (.slice a c.args.length cap), .int .i64 left] w fun e w' => e = .returned (.int .i64 (if left - c.args.length < 0 then -1 else left - c.args.length)) ∧ Below w.heap.size w w' := by
  obtain ⟨ar, nr, args⟩ := c
  simp only at hn ⊢
  generalize args.length = n at *
  by_cases hlt : left - n < 0
  · rw [if_pos hlt]
    go_enter Try.func41, Try.ntmps41
    go_wp2_with fail
    refine (szUint64S_any a n cap left _ hn h0 h1).mono ?_
    rintro e w1 ⟨rfl, rfl⟩
    rw [if_pos hlt]
    go_wp2
    go_ret
    exact ⟨rfl, (Below.refl _ _).alloc (Nat.le_refl _) _⟩
  · rw [if_neg hlt]
    go_enter Try.func41, Try.ntmps41
    go_wp2_with fail
    refine (szUint64S_any a n cap left _ hn h0 h1).mono ?_
    rintro e w1 ⟨rfl, rfl⟩
    rw [if_neg (by omega)]
    go_wp2
    go_ret
    exact ⟨rfl, (Below.refl _ _).alloc (Nat.le_refl _) _⟩

theorem ownsU_set {w : World} {B D j : Nat} {v x : Value} {l : List Int} (h : ownsU w B v l) (hne : ∀ q, v.ownBlock = some q → q ≠ D) : ownsU (w.setCell ⟨D, j, none⟩ x) B v l :=
  ownsU_kept h (grown_setCell (World.grownBy.refl _ _) j x) (fun q hq e => hne q hq (by simpa using e))
theorem ownsU_mono {w : World} {B B' : Nat} {v : Value} {l : List Int} (h : ownsU w B v l) (hb : B' ≤ B) : ownsU w B' v l := by
  obtain ⟨h0, h | ⟨g, cap, cur, rfl, hb', hr⟩⟩ := h
  · exact ⟨h0, .inl h⟩
  · exact ⟨h0, .inr ⟨g, cap, cur, rfl, by omega, hr⟩⟩
/-- the three cells of a box -/
structure Box3 (w : World) (g : Nat) (x y z : Value) : Prop where
  lt : g < w.heap.size
  c0 : w.cell? ⟨g, 0, none⟩ = some x
  c1 : w.cell? ⟨g, 1, none⟩ = some y
  c2 : w.cell? ⟨g, 2, none⟩ = some z
  f0 : w.frozen? ⟨g, 0, none⟩ = false
  f1 : w.frozen? ⟨g, 1, none⟩ = false
  f2 : w.frozen? ⟨g, 2, none⟩ = false
theorem Box3.keep {w w1 : World} {g : Nat} {x y z : Value} (h : Box3 w g x y z) (hb : Below w.heap.size w w1) : Box3 w1 g x y z :=
  ⟨Nat.lt_of_lt_of_le h.lt hb.size, (hb.cell (p := ⟨g, _, none⟩) h.lt).trans h.c0, (hb.cell (p := ⟨g, _, none⟩) h.lt).trans h.c1, (hb.cell (p := ⟨g, _, none⟩) h.lt).trans h.c2,
    (hb.frozen (p := ⟨g, _, none⟩) h.lt).trans h.f0, (hb.frozen (p := ⟨g, _, none⟩) h.lt).trans h.f1, (hb.frozen (p := ⟨g, _, none⟩) h.lt).trans h.f2⟩
theorem Box3.new (w : World) (t : TypeId) (x y z : Value) : Box3 (w.alloc (.cells #[x, y, z] t)) w.heap.size x y z :=
  ⟨by simp, by simp, by simp, by simp, by simp, by simp, by simp⟩
theorem Box3.alloc {w : World} {g : Nat} {x y z : Value} (h : Box3 w g x y z) (o : Obj) : Box3 (w.alloc o) g x y z := h.keep ((Below.refl _ _).alloc (Nat.le_refl _) o)

set_option maxHeartbeats 1000000 in
theorem toCall_any (c : C) (a : Option Addr) (cap : Nat) (w : World) (hs : USrc w a c.args) (hn : c.args.length ≤ 1048576) :
    Calls Try.prog 43 #[callV c (.slice a c.args.length cap)] w fun e w' => ∃ v', e = .returned (callV c v') ∧ ownsU w' w.heap.size v' c.args ∧ Below w.heap.size w w' := by
  obtain ⟨ar, nr, args⟩ := c
  simp only at hs hn ⊢
  have HC : Hid (∀ w1, Below w.heap.size w w1 → Calls Try.prog 76 #[.slice a args.length cap] w1 fun e w' => e = .returned (.slice (some ⟨w1.heap.size, 0, none⟩) args.length args.length) ∧ ownsU w' w1.heap.size (.slice (some ⟨w1.heap.size, 0, none⟩) args.length args.length) args ∧ Below w1.heap.size w1 w') :=
    fun w1 hB => toUint64S_any a cap args w1 (hs.below hB) hn
  clear hs
  generalize args.length = n at *
  go_enter Try.func43, Try.ntmps43
  go_wp2_with fail
  refine (HC.out _ ((((Below.refl _ _).alloc (Nat.le_refl _) _).alloc (by simp) _).alloc (by simp; omega) _)).mono ?_
  rintro e w1 ⟨rfl, o1, hb1⟩
  have b2 := (Box3.new _ _ _ _ _ : Box3 ((((w.alloc (.cells #[.int .u32 ar, .int .u32 nr, .slice a n cap] 60)).alloc (.cells #[.int .u32 0, .int .u32 0, .slice none 0 0] 64)).alloc (.cells #[.int .u32 ar, .int .u32 nr, .slice none 0 0] 64))) _ _ _ _).keep hb1
  have b1 := ((Box3.new _ _ _ _ _ : Box3 ((w.alloc (.cells #[.int .u32 ar, .int .u32 nr, .slice a n cap] 60)).alloc (.cells #[.int .u32 0, .int .u32 0, .slice none 0 0] 64)) _ _ _ _).alloc _).keep hb1
  have hB1 : Below w.heap.size w w1 := ((((Below.refl w.heap.size w).alloc (Nat.le_refl _) _).alloc (by simp) _).alloc (by simp; omega) _).trans (hb1.mono (by simp; omega))
  have hsz : ∀ (u : World) (o : Obj), (u.alloc o).heap.size = u.heap.size + 1 := fun u o => by simp
  simp only [hsz] at b1 b2 o1 ⊢
  have o2 : ownsU w1 w.heap.size (.slice (some ⟨w.heap.size + 1 + 1 + 1, 0, none⟩) n n) args := ownsU_mono o1 (by omega)
  obtain ⟨l1, p0, p1, p2, q0, q1, q2⟩ := b1
  obtain ⟨l2, r0, r1, r2, s0, s1, s2⟩ := b2
  clear hb1 o1 HC hsz
  go_wp2
  refine bodyPost_ret (v := callV ⟨ar, nr, args⟩ (.slice (some ⟨w.heap.size + 1 + 1 + 1, 0, none⟩) n n)) (by simp [results, Try.results43, go_sem, p0, p1, p2]) rfl ⟨_, rfl, ?_, ?_⟩
  · refine ownsU_set (ownsU_set (ownsU_set (ownsU_set o2 ?_) ?_) ?_) ?_
    all_goals (intro q hq; simp [Value.ownBlock] at hq; omega)
  · refine (((hB1.setCell ?_ _).setCell ?_ _).setCell ?_ _).setCell ?_ _
    all_goals (simp only; omega)

set_option maxHeartbeats 1000000 in
theorem eqCall_own {B B' : Nat} {c : C} {v v' : Value} {w : World} (h : ownsU w B v c.args) (h' : ownsU w B' v' c.args) (hn : c.args.length ≤ 16777216) :
    Calls Try.prog 45 #[callV c v, callV c v'] w fun e w' => e = .returned (.bool true) ∧ Below w.heap.size w w' := by
  obtain ⟨ar, nr, args⟩ := c
  simp only at h h' hn ⊢
  have HC : Hid (∀ w1, Below w.heap.size w w1 → Calls Try.prog 78 #[v, v'] w1 fun e w' => e = .returned (.bool true) ∧ Below w1.heap.size w1 w') :=
    fun w1 hB => eqUint64S_own (ownsU_below h hB) (ownsU_below h' hB) hn
  clear h h'
  go_enter Try.func45, Try.ntmps45
  go_wp2_with fail
  have hB0 : Below w.heap.size w ((w.alloc (.cells #[.int .u32 ar, .int .u32 nr, v] 64)).alloc (.cells #[.int .u32 ar, .int .u32 nr, v'] 64)) := ((Below.refl _ _).alloc (Nat.le_refl _) _).alloc (by simp) _
  refine (HC.out _ hB0).mono ?_
  rintro e w1 ⟨rfl, hb1⟩
  have hB1 := hB0.trans (hb1.mono hB0.size)
  go_wp2
  go_ret
  exact ⟨rfl, hB1⟩

set_option maxHeartbeats 1000000 in
theorem markCall_own {B : Nat} {c : C} {v : Value} {w : World} (k : Int) (h : ownsU w B v c.args) (hn : c.args.length ≤ 16777216) (h0 : 0 ≤ k) (h1 : k ≤ 16777216) :
    Calls Try.prog 46 #[callV c v, .int .i64 k] w fun e w' => e = .returned (.int .i64 (k + c.args.length)) ∧ w.grownBy w' v.ownBlock := by
  obtain ⟨ar, nr, args⟩ := c
  simp only at h hn ⊢
  have HC : Hid (∀ w1, Below w.heap.size w w1 → Calls Try.prog 67 #[v, .int .i64 k] w1 fun e w' => e = .returned (.int .i64 (k + args.length)) ∧ MarkedU w' v args.length k ∧ w1.grownBy w' v.ownBlock) :=
    fun w1 hB => markUint64S_own k (ownsU_below h hB) hn h0 h1
  clear h
  go_enter Try.func46, Try.ntmps46
  go_wp2_with fail
  have hB0 : Below w.heap.size w (w.alloc (.cells #[.int .u32 ar, .int .u32 nr, v] 64)) := (Below.refl _ _).alloc (Nat.le_refl _) _
  refine (HC.out _ hB0).mono ?_
  rintro e w1 ⟨rfl, _, hg⟩
  have hG : w.grownBy w1 v.ownBlock := ⟨hg.os.trans hB0.os, hg.tape.trans hB0.tape, hg.output.trans hB0.output, by have := hg.size; have := hB0.size; omega, fun q hq hne => (hg.block q (Nat.lt_of_lt_of_le hq hB0.size) hne).trans (hB0.block q hq)⟩
  go_wp2
  go_ret
  exact ⟨rfl, hG⟩
end Go.Proofs.Ytjfgihmamoiipaa
