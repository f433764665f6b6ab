/-
  CONTRACTS: the program's order of two calls.
-/
import Derived.Test.YtpbljegjinjmnaaOrd
import Derived.Deep.RegionHeld3
namespace Go.Proofs.Ytpbljegjinjmnaa
open Go.RowKit
set_option linter.unusedVariables false

def or3 (x y z : Int) : Int := if x ≠ 0 then x else if y ≠ 0 then y else z
theorem ordC_or3 (a b : C) : ordC a b = or3 (ordI a.arch b.arch) (ordI a.nr b.nr) (ordL a.args b.args) := rfl
def get3 (x y z : Int) (j : Nat) : Int := if j = 0 then x else if j = 1 then y else z

set_option maxRecDepth 100000 in
set_option maxHeartbeats 1000000 in
theorem cmpOr_any (g : Nat) (x y z : Int) (w : World) (c : ∀ j, j < 3 → w.cell? ⟨g, j, none⟩ = some (.int .i64 (get3 x y z j))) :
    Calls Try.prog 58 #[.slice (some ⟨g, 0, none⟩) 3 3] w fun e w' => e = .returned (.int .i64 (or3 x y z)) ∧ w' = w := by
  have HC : Hid (∀ j, j < 3 → w.cell? ⟨g, j, none⟩ = some (.int .i64 (get3 x y z j))) := c
  have H1 : Hid (∀ j, j < 3 → (∀ i, i < j → get3 x y z i = 0) → get3 x y z j ≠ 0 → or3 x y z = get3 x y z j) := by
    intro j hj h0 h1
    have : j = 0 ∨ j = 1 ∨ j = 2 := by omega
    rcases this with rfl | rfl | rfl
    · simp only [get3, if_true] at h1 ⊢; unfold or3; rw [if_pos h1]
    · have a0 := h0 0 (by omega)
      simp [get3] at h1 a0 ⊢; unfold or3; rw [if_neg (by omega), if_pos h1]
    · have a0 := h0 0 (by omega)
      have a1 := h0 1 (by omega)
      simp [get3] at h1 a0 a1 ⊢; unfold or3; rw [if_neg (by omega), if_neg (by omega)]
  have H2 : Hid ((∀ i, i < 3 → get3 x y z i = 0) → or3 x y z = 0) := by
    intro h0
    have a0 := h0 0 (by omega)
    have a1 := h0 1 (by omega)
    have a2 := h0 2 (by omega)
    simp [get3] at a0 a1 a2; unfold or3; rw [if_neg (by omega), if_neg (by omega), a2]
  generalize or3 x y z = R at *
  generalize get3 x y z = G at *
  clear c
  go_enter Try.func58, Try.ntmps58
  go_wp2_with fail
  go_loopw [8] (fun i wr => ∃ j : Nat, j ≤ 3 ∧ i = .int .i64 j ∧ wr = w ∧ Hid (∀ i, i < j → G i = 0)) (fun i _ => 3 - (intOf i).toNat)
  case atStart => exact ⟨0, by omega, rfl, rfl, fun i hi => by omega⟩
  case round =>
    obtain ⟨j, hj, rfl, rfl, HJ⟩ := hrel
    by_cases hlt : j < 3
    · have c0 := HC.out j hlt
      by_cases hq : G j = 0
      · have HJ2 : Hid (∀ i, i < j + 1 → G i = 0) := by
          intro i hi
          by_cases e : i = j
          · rw [e]; exact hq
          · exact HJ.out i (by omega)
        rw [hq] at c0
        clear HC H1 H2 HJ hq
        go_wp2
        go_roundw
        case rel => exact ⟨j + 1, by omega, by go_num, trivial, HJ2⟩
        case measure => simp [intOf]; omega
      · have E : Hid (R = G j) := H1.out j hlt HJ.out hq
        have hq' : (G j != 0) = true := by simpa using hq
        clear HC H1 H2 HJ
        generalize G j = q at *
        go_wp2
        go_ret
        exact ⟨ret_int E.out.symm, rfl⟩
    · have E : Hid (R = 0) := H2.out (fun i hi => HJ.out i (by omega))
      clear HC H1 H2 HJ
      go_wp2
      go_ret
      exact ⟨ret_int E.out.symm, rfl⟩

theorem cell_alloc_some {W : World} {a : Addr} {v : Value} (o : Obj) (h : W.cell? a = some v) : (W.alloc o).cell? a = some v := by
  have hlt : a.block < W.heap.size := by
    rcases Nat.lt_or_ge a.block W.heap.size with h' | h'
    · exact h'
    · simp [World.cell?, Array.getElem?_eq_none h'] at h
  rw [World.cell?_alloc_lt _ _ _ hlt]; exact h

set_option maxRecDepth 100000 in
set_option maxHeartbeats 400000 in
theorem compareCalls_any (c d : C) (a a' : Option Addr) (cap cap' : Nat) (w : World) (h : USrc w a c.args) (h' : USrc w a' d.args) (hc : c.ok) (hd : d.ok) (hn : c.args.length ≤ 16777216) (hn' : d.args.length ≤ 16777216) :
    Calls Try.prog 37 #[callV c (.slice a c.args.length cap), callV d (.slice a' d.args.length cap')] w fun e w' => e = .returned (.int .i64 (ordC c d)) ∧ Below w.heap.size w w' := by
  rw [ordC_or3]
  have HL : Hid (∀ w1, Below w.heap.size w w1 → Calls Try.prog 60 #[.slice a c.args.length cap, .slice a' d.args.length cap'] w1 fun e w' => e = .returned (.int .i64 (ordL c.args d.args)) ∧ w' = w1) :=
    fun w1 hB => slicesCompare_any a a' cap cap' _ _ w1 (h.below hB) (h'.below hB) hc.2.2.2.2 hd.2.2.2.2 hn hn'
  have HA : Hid (∀ w1 p q, 0 ≤ p → p ≤ 4294967295 → 0 ≤ q → q ≤ 4294967295 → Calls Try.prog 59 #[.int .u32 p, .int .u32 q] w1 fun e w' => e = .returned (.int .i64 (ordI p q)) ∧ w' = w1) := fun w1 p q h1 h2 h3 h4 => cmp32_any _ _ w1 ⟨h1, h2⟩ ⟨h3, h4⟩
  obtain ⟨ca0, ca1, cn0, cn1, _⟩ := hc
  obtain ⟨da0, da1, dn0, dn1, _⟩ := hd
  clear h h'
  generalize ordL c.args d.args = z at *
  obtain ⟨ar, nr, args⟩ := c
  obtain ⟨ar', nr', args'⟩ := d
  simp only at *
  obtain ⟨x, hx⟩ : ∃ x, ordI ar ar' = x := ⟨_, rfl⟩
  obtain ⟨y, hy⟩ : ∃ y, ordI nr nr' = y := ⟨_, rfl⟩
  have HX : Hid (ordI ar ar' = x) := hx
  have HY : Hid (ordI nr nr' = y) := hy
  clear hx hy
  rw [HX.out, HY.out]
  generalize args.length = n at *
  generalize args'.length = n' at *
  go_enter Try.func37, Try.ntmps37
  go_wp2_with fail
  have X := (Box3.new w 64 (.int .u32 ar) (.int .u32 nr) (.slice a n cap)).alloc (.cells #[.int .u32 ar', .int .u32 nr', .slice a' n' cap'] 64)
  have Y := Box3.new (w.alloc (.cells #[.int .u32 ar, .int .u32 nr, .slice a n cap] 64)) 64 (.int .u32 ar') (.int .u32 nr') (.slice a' n' cap')
  have hsz : (w.alloc (.cells #[.int .u32 ar, .int .u32 nr, .slice a n cap] 64)).heap.size = w.heap.size + 1 := by simp
  have B0 : Below w.heap.size w ((w.alloc (.cells #[.int .u32 ar, .int .u32 nr, .slice a n cap] 64)).alloc (.cells #[.int .u32 ar', .int .u32 nr', .slice a' n' cap'] 64)) := ((Below.refl _ _).alloc (Nat.le_refl _) _).alloc (by simp) _
  rw [hsz] at Y
  generalize (w.alloc (.cells #[.int .u32 ar, .int .u32 nr, .slice a n cap] 64)).alloc (.cells #[.int .u32 ar', .int .u32 nr', .slice a' n' cap'] 64) = W at *
  clear hsz
  obtain ⟨_, x0, x1, x2, _, _, _⟩ := X
  obtain ⟨_, y0, y1, y2, _, _, _⟩ := Y
  have HS0 : Below W.heap.size W W.drew := (Below.refl _ _).drew
  have HLW : Hid (∀ w1, Below W.heap.size W w1 → Calls Try.prog 60 #[.slice a n cap, .slice a' n' cap'] w1 fun e w' => e = .returned (.int .i64 z) ∧ w' = w1) := fun w1 hB => HL.out w1 (B0.trans (hB.mono B0.size))
  have HOr : Hid (∀ w1 : World, Calls Try.prog 58 #[.slice (some ⟨w1.heap.size, 0, none⟩) 3 3] (w1.alloc (.cells #[.int .i64 (ordI ar ar'), .int .i64 (ordI nr nr'), .int .i64 z] 3)).drew fun e w' => e = .returned (.int .i64 (or3 x y z)) ∧ w' = (w1.alloc (.cells #[.int .i64 (ordI ar ar'), .int .i64 (ordI nr nr'), .int .i64 z] 3)).drew) := by
    intro w1
    rw [← HX.out, ← HY.out]
    refine cmpOr_any w1.heap.size _ _ z _ (fun j hj => ?_)
    have : j = 0 ∨ j = 1 ∨ j = 2 := by omega
    rcases this with rfl | rfl | rfl <;> simp [get3]
  clear HL
  go_region_held3 (fun w' => Below W.heap.size W w' ∧ w'.cell? ⟨w.heap.size, 0, none⟩ = some (.int .u32 ar) ∧ w'.cell? ⟨w.heap.size, 1, none⟩ = some (.int .u32 nr) ∧ w'.cell? ⟨w.heap.size, 2, none⟩ = some (.slice a n cap) ∧ w'.cell? ⟨w.heap.size + 1, 0, none⟩ = some (.int .u32 ar') ∧ w'.cell? ⟨w.heap.size + 1, 1, none⟩ = some (.int .u32 nr') ∧ w'.cell? ⟨w.heap.size + 1, 2, none⟩ = some (.slice a' n' cap'))
    (refine ⟨?_, ?_, ?_, ?_, ?_, ?_, ?_⟩ <;> first | assumption | exact Below.alloc (by assumption) (Below.size (by assumption)) _ | exact cell_alloc_some _ (by assumption) | (simp [*]; done))
    (first
      | (go_at_call 60; refine (HLW.out _ (by assumption)).mono ?_; rintro e w' ⟨rfl, rfl⟩)
      | (go_at_call 59; refine (HA.out _ _ _ (by assumption) (by assumption) (by assumption) (by assumption)).mono ?_; rintro e w' ⟨rfl, rfl⟩)
      | (go_at_call 58; refine (HOr.out _).mono ?_; rintro e w' ⟨rfl, rfl⟩))
  have B1 : Below w.heap.size w ((W.alloc (.cells #[.int .i64 (ordI ar ar'), .int .i64 (ordI nr nr'), .int .i64 z] 3)).drew) := (B0.alloc B0.size _).drew
  go_wp2
  go_ret
  exact ⟨rfl, B1⟩

set_option maxRecDepth 100000 in
set_option maxHeartbeats 400000 in
theorem sameCall_any (c d : C) (a a' : Option Addr) (cap cap' : Nat) (w : World) (h : USrc w a c.args) (h' : USrc w a' d.args) (hc : c.ok) (hd : d.ok) (hn : c.args.length ≤ 16777216) (hn' : d.args.length ≤ 16777216) :
    Calls Try.prog 39 #[callV c (.slice a c.args.length cap), callV d (.slice a' d.args.length cap')] w fun e w' => e = .returned (.bool (ordC c d == 0)) ∧ Below w.heap.size w w' := by
  have HC : Hid (∀ w1, Below w.heap.size w w1 → Calls Try.prog 37 #[callV c (.slice a c.args.length cap), callV d (.slice a' d.args.length cap')] w1 fun e w' => e = .returned (.int .i64 (ordC c d)) ∧ Below w1.heap.size w1 w') :=
    fun w1 hB => compareCalls_any c d a a' cap cap' w1 (h.below hB) (h'.below hB) hc hd hn hn'
  clear h h' hc hd
  generalize ordC c d = q at *
  obtain ⟨ar, nr, args⟩ := c
  obtain ⟨ar', nr', args'⟩ := d
  simp only at *
  generalize args.length = n at *
  generalize args'.length = n' at *
  go_enter Try.func39, Try.ntmps39
  go_wp2_with fail
  have B0 : Below w.heap.size w ((w.alloc (.cells #[.int .u32 ar, .int .u32 nr, .slice a n cap] 64)).alloc (.cells #[.int .u32 ar', .int .u32 nr', .slice a' n' cap'] 64)) := ((Below.refl _ _).alloc (Nat.le_refl _) _).alloc (by simp) _
  refine (HC.out _ B0).mono ?_
  rintro e w1 ⟨rfl, b1⟩
  have B1 := B0.trans (b1.mono B0.size)
  go_wp2
  go_ret
  exact ⟨rfl, B1⟩
end Go.Proofs.Ytpbljegjinjmnaa
