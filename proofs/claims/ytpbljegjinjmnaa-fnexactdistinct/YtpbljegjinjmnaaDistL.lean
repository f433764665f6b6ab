/-
  CONTRACTS: the program's order of two calls, with the world that it leaves.
-/
import Derived.Test.YtpbljegjinjmnaaOrdC
import Derived.Shelf.SlSortCmp.InsertionK
namespace Go.Proofs.Ytpbljegjinjmnaa
open Go.Shelf Go.RowKit Go.Lib Go.Sort
set_option linter.unusedVariables false

theorem grow_three (w : World) (a b o : Obj) : (((w.alloc a).alloc b).alloc o).drew = grow (w.drewN 1) #[a, b, o] := by
  rw [alloc_eq_grow, alloc_eq_grow, alloc_eq_grow, grow_grow, grow_grow]; rfl

set_option maxRecDepth 100000 in
set_option maxHeartbeats 400000 in
theorem compareCalls_lays (c d : C) (a a' : Option Addr) (cap cap' : Nat) (w : World) (h : USrc w a c.args) (h' : USrc w a' d.args) (hc : c.ok) (hd : d.ok) (hn : c.args.length ≤ 16777216) (hn' : d.args.length ≤ 16777216) :
    Calls Try.prog 37 #[callV c (.slice a c.args.length cap), callV d (.slice a' d.args.length cap')] w fun e w' => e = .returned (.int .i64 (ordC c d)) ∧ ∃ q os, w' = grow (w.drewN q) os := by
  rw [ordC_or3]
  have HL : Hid (∀ w1, Below w.heap.size w w1 → Calls Try.prog 60 #[.slice a c.args.length cap, .slice a' d.args.length cap'] w1 fun e w' => e = .returned (.int .i64 (ordL c.args d.args)) ∧ w' = w1) :=
    fun w1 hB => slicesCompare_any a a' cap cap' _ _ w1 (h.below hB) (h'.below hB) hc.2.2.2.2 hd.2.2.2.2 hn hn'
  have HA : Hid (∀ w1 p q, 0 ≤ p → p ≤ 4294967295 → 0 ≤ q → q ≤ 4294967295 → Calls Try.prog 59 #[.int .u32 p, .int .u32 q] w1 fun e w' => e = .returned (.int .i64 (ordI p q)) ∧ w' = w1) := fun w1 p q h1 h2 h3 h4 => cmp32_any _ _ w1 ⟨h1, h2⟩ ⟨h3, h4⟩
  obtain ⟨ca0, ca1, cn0, cn1, _⟩ := hc
  obtain ⟨da0, da1, dn0, dn1, _⟩ := hd
  clear h h'
  generalize ordL c.args d.args = z at *
  obtain ⟨ar, nr, args⟩ := c
  obtain ⟨ar', nr', args'⟩ := d
  simp only at *
  obtain ⟨x, hx⟩ : ∃ x, ordI ar ar' = x := ⟨_, rfl⟩
  obtain ⟨y, hy⟩ : ∃ y, ordI nr nr' = y := ⟨_, rfl⟩
  have HX : Hid (ordI ar ar' = x) := hx
  have HY : Hid (ordI nr nr' = y) := hy
  clear hx hy
  rw [HX.out, HY.out]
  generalize args.length = n at *
  generalize args'.length = n' at *
  go_enter Try.func37, Try.ntmps37
  go_wp2_with fail
  have X := (Box3.new w 64 (.int .u32 ar) (.int .u32 nr) (.slice a n cap)).alloc (.cells #[.int .u32 ar', .int .u32 nr', .slice a' n' cap'] 64)
  have Y := Box3.new (w.alloc (.cells #[.int .u32 ar, .int .u32 nr, .slice a n cap] 64)) 64 (.int .u32 ar') (.int .u32 nr') (.slice a' n' cap')
  have hsz : (w.alloc (.cells #[.int .u32 ar, .int .u32 nr, .slice a n cap] 64)).heap.size = w.heap.size + 1 := by simp
  have B0 : Below w.heap.size w ((w.alloc (.cells #[.int .u32 ar, .int .u32 nr, .slice a n cap] 64)).alloc (.cells #[.int .u32 ar', .int .u32 nr', .slice a' n' cap'] 64)) := ((Below.refl _ _).alloc (Nat.le_refl _) _).alloc (by simp) _
  rw [hsz] at Y
  have HG : Hid (∀ o, ∃ q os, (((w.alloc (.cells #[.int .u32 ar, .int .u32 nr, .slice a n cap] 64)).alloc (.cells #[.int .u32 ar', .int .u32 nr', .slice a' n' cap'] 64)).alloc o).drew = grow (w.drewN q) os) := fun o => ⟨1, _, grow_three w _ _ o⟩
  generalize (w.alloc (.cells #[.int .u32 ar, .int .u32 nr, .slice a n cap] 64)).alloc (.cells #[.int .u32 ar', .int .u32 nr', .slice a' n' cap'] 64) = W at *
  clear hsz
  obtain ⟨_, x0, x1, x2, _, _, _⟩ := X
  obtain ⟨_, y0, y1, y2, _, _, _⟩ := Y
  have HS0 : Below W.heap.size W W.drew := (Below.refl _ _).drew
  have HLW : Hid (∀ w1, Below W.heap.size W w1 → Calls Try.prog 60 #[.slice a n cap, .slice a' n' cap'] w1 fun e w' => e = .returned (.int .i64 z) ∧ w' = w1) := fun w1 hB => HL.out w1 (B0.trans (hB.mono B0.size))
  have HOr : Hid (∀ w1 : World, Calls Try.prog 58 #[.slice (some ⟨w1.heap.size, 0, none⟩) 3 3] (w1.alloc (.cells #[.int .i64 (ordI ar ar'), .int .i64 (ordI nr nr'), .int .i64 z] 3)).drew fun e w' => e = .returned (.int .i64 (or3 x y z)) ∧ w' = (w1.alloc (.cells #[.int .i64 (ordI ar ar'), .int .i64 (ordI nr nr'), .int .i64 z] 3)).drew) := by
    intro w1
    rw [← HX.out, ← HY.out]
    refine cmpOr_any w1.heap.size _ _ z _ (fun j hj => ?_)
    have : j = 0 ∨ j = 1 ∨ j = 2 := by omega
    rcases this with rfl | rfl | rfl <;> simp [get3]
  clear HL
  go_region_held3 (fun w' => Below W.heap.size W w' ∧ w'.cell? ⟨w.heap.size, 0, none⟩ = some (.int .u32 ar) ∧ w'.cell? ⟨w.heap.size, 1, none⟩ = some (.int .u32 nr) ∧ w'.cell? ⟨w.heap.size, 2, none⟩ = some (.slice a n cap) ∧ w'.cell? ⟨w.heap.size + 1, 0, none⟩ = some (.int .u32 ar') ∧ w'.cell? ⟨w.heap.size + 1, 1, none⟩ = some (.int .u32 nr') ∧ w'.cell? ⟨w.heap.size + 1, 2, none⟩ = some (.slice a' n' cap'))
    (refine ⟨?_, ?_, ?_, ?_, ?_, ?_, ?_⟩ <;> first | assumption | exact Below.alloc (by assumption) (Below.size (by assumption)) _ | exact cell_alloc_some _ (by assumption) | (simp [*]; done))
    (first
      | (go_at_call 60; refine (HLW.out _ (by assumption)).mono ?_; rintro e w' ⟨rfl, rfl⟩)
      | (go_at_call 59; refine (HA.out _ _ _ (by assumption) (by assumption) (by assumption) (by assumption)).mono ?_; rintro e w' ⟨rfl, rfl⟩)
      | (go_at_call 58; refine (HOr.out _).mono ?_; rintro e w' ⟨rfl, rfl⟩))
  have B1 := HG.out (.cells #[.int .i64 (ordI ar ar'), .int .i64 (ordI nr nr'), .int .i64 z] 3)
  clear HG
  go_wp2
  go_ret
  exact ⟨rfl, B1⟩

end Go.Proofs.Ytpbljegjinjmnaa
