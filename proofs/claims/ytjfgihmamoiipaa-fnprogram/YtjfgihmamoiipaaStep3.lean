/-
  THE MACHINE's STEP, a theorem a code. (Written by a script of our own, wip/gen/stepg.py.)
-/
import Derived.Test.YtjfgihmamoiipaaStep2
import Derived.Deep.RegionWith
import Derived.Deep.DrawnRows
namespace Go.Proofs.Ytjfgihmamoiipaa
open Go.RowKit
set_option linter.unusedVariables false
attribute [local go_sem ↓] Go.wp_at_zero Go.wp_at_succ

/-- one of two, by a test -/
def pickJ (h : Bool) (a b : Int) : Int := if h then a else b

set_option maxHeartbeats 1000000 in
set_option maxRecDepth 200000 in
theorem step_21 (g : Nat) (s : S) (rv : Value) (nx st : Int) (en : Bool) (re jt jf k v : Int) (w : World) (hM : Mach w g s rv nx st en re) (hs : s.ok) (hv : isWord v) (hk : isWord k) (hn0 : 0 ≤ nx) (hn1 : nx ≤ 1000000) (j0 : 0 ≤ jt ∧ jt ≤ 255) (j1 : 0 ≤ jf ∧ jf ≤ 255) :
    Calls Try.prog 91 #[.pointer (some ⟨g, 0, none⟩), insV 21 jt jf k, .int .u32 v] w fun e w' => e = .returned (.tuple #[]) ∧ Mach w' g s rv (nx + pickJ (s.a == v) jt jf) st en re ∧ w.grownBy w' (some g) := by
  have hlt := World.rowIs.lt hM
  have hne : ¬ w.heap.size = g := by omega
  have HM : Hid (Mach (w.alloc (.cells #[.int .u16 21, .int .u8 jt, .int .u8 jf, .int .u32 k] 36)).drew g s rv nx st en re) := (hM.alloc _).drew
  have HC : Hid (∀ h, Calls Try.prog 110 #[.pointer (some ⟨g, 0, none⟩), insV 21 jt jf k, .bool h] (w.alloc (.cells #[.int .u16 21, .int .u8 jt, .int .u8 jf, .int .u32 k] 36)).drew fun e w' => e = .returned (.tuple #[]) ∧ Mach w' g s rv (nx + pickJ h jt jf) st en re ∧ (w.alloc (.cells #[.int .u16 21, .int .u8 jt, .int .u8 jf, .int .u32 k] 36)).drew.grownBy w' (some g)) := fun h => branch_any g s rv nx st en re 21 jt jf k h _ HM.out hn0 hn1 j0 j1
  have e0 := hM.c0
  have f0 := hM.fz 0
  have e1 := hM.c1
  have f1 := hM.fz 1
  have b0 : (w.alloc (.cells #[.int .u16 21, .int .u8 jt, .int .u8 jf, .int .u32 k] 36)).drew.cell? ⟨w.heap.size, 0, none⟩ = some (.int .u16 21) := by rw [World.cell?_drew, World.cell?_alloc_at _ _ _ _ rfl]; rfl
  have b1 : (w.alloc (.cells #[.int .u16 21, .int .u8 jt, .int .u8 jf, .int .u32 k] 36)).drew.cell? ⟨w.heap.size, 1, none⟩ = some (.int .u8 jt) := by rw [World.cell?_drew, World.cell?_alloc_at _ _ _ _ rfl]; rfl
  have b2 : (w.alloc (.cells #[.int .u16 21, .int .u8 jt, .int .u8 jf, .int .u32 k] 36)).drew.cell? ⟨w.heap.size, 2, none⟩ = some (.int .u8 jf) := by rw [World.cell?_drew, World.cell?_alloc_at _ _ _ _ rfl]; rfl
  have b3 : (w.alloc (.cells #[.int .u16 21, .int .u8 jt, .int .u8 jf, .int .u32 k] 36)).drew.cell? ⟨w.heap.size, 3, none⟩ = some (.int .u32 k) := by rw [World.cell?_drew, World.cell?_alloc_at _ _ _ _ rfl]; rfl
  have hne2 : some w.heap.size ≠ some g := by simp [hne]
  have HB : Hid _ := And.intro b0 (And.intro b1 (And.intro b2 b3))
  obtain ⟨a0, a1⟩ := hs.1
  obtain ⟨v0, v1⟩ := hv
  have HA : Hid (∀ wx nx' st' en' re', Mach wx g s rv nx' st' en' re' → wx.cell? ⟨g, 0, none⟩ = some (.int .u32 s.a)) := fun wx _ _ _ _ h => h.c0
  clear hM hs HM b0 b1 b2 b3
  generalize s.a = a at *
  go_enter Try.func91, Try.ntmps91
  refine wp_two ?_
  go_wp2
  refine ⟨rfl, ?_⟩
  go_wp2
  refine ⟨rfl, ?_⟩
  refine wp_switch_k 18 0 _ ⟨_, by rfl, by rfl⟩ (fun Q' HQ => ?_)
  conv => arg 2; whnf
  go_wp2
  refine ⟨rfl, ?_⟩
  go_region_held3 (fun w' => w'.cell? ⟨w.heap.size, 0, none⟩ = some (.int .u16 21) ∧ w'.cell? ⟨w.heap.size, 1, none⟩ = some (.int .u8 jt) ∧ w'.cell? ⟨w.heap.size, 2, none⟩ = some (.int .u8 jf) ∧ w'.cell? ⟨w.heap.size, 3, none⟩ = some (.int .u32 k) ∧ w'.cell? ⟨g, 0, none⟩ = some (.int .u32 a))
    (first | go_keep | exact ⟨z0, z1, z2, z3, z4⟩)
    ((go_at_call 110; refine (HC.out _).mono ?_; rintro e w' ⟨rfl, hM', hG⟩; have z0 := hG.cell HB.out.1 hne2; have z1 := hG.cell HB.out.2.1 hne2; have z2 := hG.cell HB.out.2.2.1 hne2; have z3 := hG.cell HB.out.2.2.2 hne2; have z4 := HA.out _ _ _ _ _ hM'))
  refine HQ.out _ _ ?_
  go_end0
  exact ⟨rfl, by assumption, gb_trans (gb_drew (gb_alloc (World.grownBy.refl _ _) _)) (by assumption)⟩

set_option maxHeartbeats 1000000 in
set_option maxRecDepth 200000 in
theorem step_29 (g : Nat) (s : S) (rv : Value) (nx st : Int) (en : Bool) (re jt jf k v : Int) (w : World) (hM : Mach w g s rv nx st en re) (hs : s.ok) (hv : isWord v) (hk : isWord k) (hn0 : 0 ≤ nx) (hn1 : nx ≤ 1000000) (j0 : 0 ≤ jt ∧ jt ≤ 255) (j1 : 0 ≤ jf ∧ jf ≤ 255) :
    Calls Try.prog 91 #[.pointer (some ⟨g, 0, none⟩), insV 29 jt jf k, .int .u32 v] w fun e w' => e = .returned (.tuple #[]) ∧ Mach w' g s rv (nx + pickJ (s.a == v) jt jf) st en re ∧ w.grownBy w' (some g) := by
  have hlt := World.rowIs.lt hM
  have hne : ¬ w.heap.size = g := by omega
  have HM : Hid (Mach (w.alloc (.cells #[.int .u16 29, .int .u8 jt, .int .u8 jf, .int .u32 k] 36)).drew g s rv nx st en re) := (hM.alloc _).drew
  have HC : Hid (∀ h, Calls Try.prog 110 #[.pointer (some ⟨g, 0, none⟩), insV 29 jt jf k, .bool h] (w.alloc (.cells #[.int .u16 29, .int .u8 jt, .int .u8 jf, .int .u32 k] 36)).drew fun e w' => e = .returned (.tuple #[]) ∧ Mach w' g s rv (nx + pickJ h jt jf) st en re ∧ (w.alloc (.cells #[.int .u16 29, .int .u8 jt, .int .u8 jf, .int .u32 k] 36)).drew.grownBy w' (some g)) := fun h => branch_any g s rv nx st en re 29 jt jf k h _ HM.out hn0 hn1 j0 j1
  have e0 := hM.c0
  have f0 := hM.fz 0
  have e1 := hM.c1
  have f1 := hM.fz 1
  have b0 : (w.alloc (.cells #[.int .u16 29, .int .u8 jt, .int .u8 jf, .int .u32 k] 36)).drew.cell? ⟨w.heap.size, 0, none⟩ = some (.int .u16 29) := by rw [World.cell?_drew, World.cell?_alloc_at _ _ _ _ rfl]; rfl
  have b1 : (w.alloc (.cells #[.int .u16 29, .int .u8 jt, .int .u8 jf, .int .u32 k] 36)).drew.cell? ⟨w.heap.size, 1, none⟩ = some (.int .u8 jt) := by rw [World.cell?_drew, World.cell?_alloc_at _ _ _ _ rfl]; rfl
  have b2 : (w.alloc (.cells #[.int .u16 29, .int .u8 jt, .int .u8 jf, .int .u32 k] 36)).drew.cell? ⟨w.heap.size, 2, none⟩ = some (.int .u8 jf) := by rw [World.cell?_drew, World.cell?_alloc_at _ _ _ _ rfl]; rfl
  have b3 : (w.alloc (.cells #[.int .u16 29, .int .u8 jt, .int .u8 jf, .int .u32 k] 36)).drew.cell? ⟨w.heap.size, 3, none⟩ = some (.int .u32 k) := by rw [World.cell?_drew, World.cell?_alloc_at _ _ _ _ rfl]; rfl
  have hne2 : some w.heap.size ≠ some g := by simp [hne]
  have HB : Hid _ := And.intro b0 (And.intro b1 (And.intro b2 b3))
  obtain ⟨a0, a1⟩ := hs.1
  obtain ⟨v0, v1⟩ := hv
  have HA : Hid (∀ wx nx' st' en' re', Mach wx g s rv nx' st' en' re' → wx.cell? ⟨g, 0, none⟩ = some (.int .u32 s.a)) := fun wx _ _ _ _ h => h.c0
  clear hM hs HM b0 b1 b2 b3
  generalize s.a = a at *
  go_enter Try.func91, Try.ntmps91
  refine wp_two ?_
  go_wp2
  refine ⟨rfl, ?_⟩
  go_wp2
  refine ⟨rfl, ?_⟩
  refine wp_switch_k 19 0 _ ⟨_, by rfl, by rfl⟩ (fun Q' HQ => ?_)
  conv => arg 2; whnf
  go_wp2
  refine ⟨rfl, ?_⟩
  go_region_held3 (fun w' => w'.cell? ⟨w.heap.size, 0, none⟩ = some (.int .u16 29) ∧ w'.cell? ⟨w.heap.size, 1, none⟩ = some (.int .u8 jt) ∧ w'.cell? ⟨w.heap.size, 2, none⟩ = some (.int .u8 jf) ∧ w'.cell? ⟨w.heap.size, 3, none⟩ = some (.int .u32 k) ∧ w'.cell? ⟨g, 0, none⟩ = some (.int .u32 a))
    (first | go_keep | exact ⟨z0, z1, z2, z3, z4⟩)
    ((go_at_call 110; refine (HC.out _).mono ?_; rintro e w' ⟨rfl, hM', hG⟩; have z0 := hG.cell HB.out.1 hne2; have z1 := hG.cell HB.out.2.1 hne2; have z2 := hG.cell HB.out.2.2.1 hne2; have z3 := hG.cell HB.out.2.2.2 hne2; have z4 := HA.out _ _ _ _ _ hM'))
  refine HQ.out _ _ ?_
  go_end0
  exact ⟨rfl, by assumption, gb_trans (gb_drew (gb_alloc (World.grownBy.refl _ _) _)) (by assumption)⟩

set_option maxHeartbeats 1000000 in
set_option maxRecDepth 200000 in
theorem step_37 (g : Nat) (s : S) (rv : Value) (nx st : Int) (en : Bool) (re jt jf k v : Int) (w : World) (hM : Mach w g s rv nx st en re) (hs : s.ok) (hv : isWord v) (hk : isWord k) (hn0 : 0 ≤ nx) (hn1 : nx ≤ 1000000) (j0 : 0 ≤ jt ∧ jt ≤ 255) (j1 : 0 ≤ jf ∧ jf ≤ 255) :
    Calls Try.prog 91 #[.pointer (some ⟨g, 0, none⟩), insV 37 jt jf k, .int .u32 v] w fun e w' => e = .returned (.tuple #[]) ∧ Mach w' g s rv (nx + pickJ (decide (v < s.a)) jt jf) st en re ∧ w.grownBy w' (some g) := by
  have hlt := World.rowIs.lt hM
  have hne : ¬ w.heap.size = g := by omega
  have HM : Hid (Mach (w.alloc (.cells #[.int .u16 37, .int .u8 jt, .int .u8 jf, .int .u32 k] 36)).drew g s rv nx st en re) := (hM.alloc _).drew
  have HC : Hid (∀ h, Calls Try.prog 110 #[.pointer (some ⟨g, 0, none⟩), insV 37 jt jf k, .bool h] (w.alloc (.cells #[.int .u16 37, .int .u8 jt, .int .u8 jf, .int .u32 k] 36)).drew fun e w' => e = .returned (.tuple #[]) ∧ Mach w' g s rv (nx + pickJ h jt jf) st en re ∧ (w.alloc (.cells #[.int .u16 37, .int .u8 jt, .int .u8 jf, .int .u32 k] 36)).drew.grownBy w' (some g)) := fun h => branch_any g s rv nx st en re 37 jt jf k h _ HM.out hn0 hn1 j0 j1
  have e0 := hM.c0
  have f0 := hM.fz 0
  have e1 := hM.c1
  have f1 := hM.fz 1
  have b0 : (w.alloc (.cells #[.int .u16 37, .int .u8 jt, .int .u8 jf, .int .u32 k] 36)).drew.cell? ⟨w.heap.size, 0, none⟩ = some (.int .u16 37) := by rw [World.cell?_drew, World.cell?_alloc_at _ _ _ _ rfl]; rfl
  have b1 : (w.alloc (.cells #[.int .u16 37, .int .u8 jt, .int .u8 jf, .int .u32 k] 36)).drew.cell? ⟨w.heap.size, 1, none⟩ = some (.int .u8 jt) := by rw [World.cell?_drew, World.cell?_alloc_at _ _ _ _ rfl]; rfl
  have b2 : (w.alloc (.cells #[.int .u16 37, .int .u8 jt, .int .u8 jf, .int .u32 k] 36)).drew.cell? ⟨w.heap.size, 2, none⟩ = some (.int .u8 jf) := by rw [World.cell?_drew, World.cell?_alloc_at _ _ _ _ rfl]; rfl
  have b3 : (w.alloc (.cells #[.int .u16 37, .int .u8 jt, .int .u8 jf, .int .u32 k] 36)).drew.cell? ⟨w.heap.size, 3, none⟩ = some (.int .u32 k) := by rw [World.cell?_drew, World.cell?_alloc_at _ _ _ _ rfl]; rfl
  have hne2 : some w.heap.size ≠ some g := by simp [hne]
  have HB : Hid _ := And.intro b0 (And.intro b1 (And.intro b2 b3))
  obtain ⟨a0, a1⟩ := hs.1
  obtain ⟨v0, v1⟩ := hv
  have HA : Hid (∀ wx nx' st' en' re', Mach wx g s rv nx' st' en' re' → wx.cell? ⟨g, 0, none⟩ = some (.int .u32 s.a)) := fun wx _ _ _ _ h => h.c0
  clear hM hs HM b0 b1 b2 b3
  generalize s.a = a at *
  go_enter Try.func91, Try.ntmps91
  refine wp_two ?_
  go_wp2
  refine ⟨rfl, ?_⟩
  go_wp2
  refine ⟨rfl, ?_⟩
  refine wp_switch_k 20 0 _ ⟨_, by rfl, by rfl⟩ (fun Q' HQ => ?_)
  conv => arg 2; whnf
  go_wp2
  refine ⟨rfl, ?_⟩
  go_region_held3 (fun w' => w'.cell? ⟨w.heap.size, 0, none⟩ = some (.int .u16 37) ∧ w'.cell? ⟨w.heap.size, 1, none⟩ = some (.int .u8 jt) ∧ w'.cell? ⟨w.heap.size, 2, none⟩ = some (.int .u8 jf) ∧ w'.cell? ⟨w.heap.size, 3, none⟩ = some (.int .u32 k) ∧ w'.cell? ⟨g, 0, none⟩ = some (.int .u32 a))
    (first | go_keep | exact ⟨z0, z1, z2, z3, z4⟩)
    ((go_at_call 110; refine (HC.out _).mono ?_; rintro e w' ⟨rfl, hM', hG⟩; have z0 := hG.cell HB.out.1 hne2; have z1 := hG.cell HB.out.2.1 hne2; have z2 := hG.cell HB.out.2.2.1 hne2; have z3 := hG.cell HB.out.2.2.2 hne2; have z4 := HA.out _ _ _ _ _ hM'))
  refine HQ.out _ _ ?_
  go_end0
  exact ⟨rfl, by assumption, gb_trans (gb_drew (gb_alloc (World.grownBy.refl _ _) _)) (by assumption)⟩

set_option maxHeartbeats 1000000 in
set_option maxRecDepth 200000 in
theorem step_45 (g : Nat) (s : S) (rv : Value) (nx st : Int) (en : Bool) (re jt jf k v : Int) (w : World) (hM : Mach w g s rv nx st en re) (hs : s.ok) (hv : isWord v) (hk : isWord k) (hn0 : 0 ≤ nx) (hn1 : nx ≤ 1000000) (j0 : 0 ≤ jt ∧ jt ≤ 255) (j1 : 0 ≤ jf ∧ jf ≤ 255) :
    Calls Try.prog 91 #[.pointer (some ⟨g, 0, none⟩), insV 45 jt jf k, .int .u32 v] w fun e w' => e = .returned (.tuple #[]) ∧ Mach w' g s rv (nx + pickJ (decide (v < s.a)) jt jf) st en re ∧ w.grownBy w' (some g) := by
  have hlt := World.rowIs.lt hM
  have hne : ¬ w.heap.size = g := by omega
  have HM : Hid (Mach (w.alloc (.cells #[.int .u16 45, .int .u8 jt, .int .u8 jf, .int .u32 k] 36)).drew g s rv nx st en re) := (hM.alloc _).drew
  have HC : Hid (∀ h, Calls Try.prog 110 #[.pointer (some ⟨g, 0, none⟩), insV 45 jt jf k, .bool h] (w.alloc (.cells #[.int .u16 45, .int .u8 jt, .int .u8 jf, .int .u32 k] 36)).drew fun e w' => e = .returned (.tuple #[]) ∧ Mach w' g s rv (nx + pickJ h jt jf) st en re ∧ (w.alloc (.cells #[.int .u16 45, .int .u8 jt, .int .u8 jf, .int .u32 k] 36)).drew.grownBy w' (some g)) := fun h => branch_any g s rv nx st en re 45 jt jf k h _ HM.out hn0 hn1 j0 j1
  have e0 := hM.c0
  have f0 := hM.fz 0
  have e1 := hM.c1
  have f1 := hM.fz 1
  have b0 : (w.alloc (.cells #[.int .u16 45, .int .u8 jt, .int .u8 jf, .int .u32 k] 36)).drew.cell? ⟨w.heap.size, 0, none⟩ = some (.int .u16 45) := by rw [World.cell?_drew, World.cell?_alloc_at _ _ _ _ rfl]; rfl
  have b1 : (w.alloc (.cells #[.int .u16 45, .int .u8 jt, .int .u8 jf, .int .u32 k] 36)).drew.cell? ⟨w.heap.size, 1, none⟩ = some (.int .u8 jt) := by rw [World.cell?_drew, World.cell?_alloc_at _ _ _ _ rfl]; rfl
  have b2 : (w.alloc (.cells #[.int .u16 45, .int .u8 jt, .int .u8 jf, .int .u32 k] 36)).drew.cell? ⟨w.heap.size, 2, none⟩ = some (.int .u8 jf) := by rw [World.cell?_drew, World.cell?_alloc_at _ _ _ _ rfl]; rfl
  have b3 : (w.alloc (.cells #[.int .u16 45, .int .u8 jt, .int .u8 jf, .int .u32 k] 36)).drew.cell? ⟨w.heap.size, 3, none⟩ = some (.int .u32 k) := by rw [World.cell?_drew, World.cell?_alloc_at _ _ _ _ rfl]; rfl
  have hne2 : some w.heap.size ≠ some g := by simp [hne]
  have HB : Hid _ := And.intro b0 (And.intro b1 (And.intro b2 b3))
  obtain ⟨a0, a1⟩ := hs.1
  obtain ⟨v0, v1⟩ := hv
  have HA : Hid (∀ wx nx' st' en' re', Mach wx g s rv nx' st' en' re' → wx.cell? ⟨g, 0, none⟩ = some (.int .u32 s.a)) := fun wx _ _ _ _ h => h.c0
  clear hM hs HM b0 b1 b2 b3
  generalize s.a = a at *
  go_enter Try.func91, Try.ntmps91
  refine wp_two ?_
  go_wp2
  refine ⟨rfl, ?_⟩
  go_wp2
  refine ⟨rfl, ?_⟩
  refine wp_switch_k 21 0 _ ⟨_, by rfl, by rfl⟩ (fun Q' HQ => ?_)
  conv => arg 2; whnf
  go_wp2
  refine ⟨rfl, ?_⟩
  go_region_held3 (fun w' => w'.cell? ⟨w.heap.size, 0, none⟩ = some (.int .u16 45) ∧ w'.cell? ⟨w.heap.size, 1, none⟩ = some (.int .u8 jt) ∧ w'.cell? ⟨w.heap.size, 2, none⟩ = some (.int .u8 jf) ∧ w'.cell? ⟨w.heap.size, 3, none⟩ = some (.int .u32 k) ∧ w'.cell? ⟨g, 0, none⟩ = some (.int .u32 a))
    (first | go_keep | exact ⟨z0, z1, z2, z3, z4⟩)
    ((go_at_call 110; refine (HC.out _).mono ?_; rintro e w' ⟨rfl, hM', hG⟩; have z0 := hG.cell HB.out.1 hne2; have z1 := hG.cell HB.out.2.1 hne2; have z2 := hG.cell HB.out.2.2.1 hne2; have z3 := hG.cell HB.out.2.2.2 hne2; have z4 := HA.out _ _ _ _ _ hM'))
  refine HQ.out _ _ ?_
  go_end0
  exact ⟨rfl, by assumption, gb_trans (gb_drew (gb_alloc (World.grownBy.refl _ _) _)) (by assumption)⟩

set_option maxHeartbeats 1000000 in
set_option maxRecDepth 200000 in
theorem step_53 (g : Nat) (s : S) (rv : Value) (nx st : Int) (en : Bool) (re jt jf k v : Int) (w : World) (hM : Mach w g s rv nx st en re) (hs : s.ok) (hv : isWord v) (hk : isWord k) (hn0 : 0 ≤ nx) (hn1 : nx ≤ 1000000) (j0 : 0 ≤ jt ∧ jt ≤ 255) (j1 : 0 ≤ jf ∧ jf ≤ 255) :
    Calls Try.prog 91 #[.pointer (some ⟨g, 0, none⟩), insV 53 jt jf k, .int .u32 v] w fun e w' => e = .returned (.tuple #[]) ∧ Mach w' g s rv (nx + pickJ (decide (v ≤ s.a)) jt jf) st en re ∧ w.grownBy w' (some g) := by
  have hlt := World.rowIs.lt hM
  have hne : ¬ w.heap.size = g := by omega
  have HM : Hid (Mach (w.alloc (.cells #[.int .u16 53, .int .u8 jt, .int .u8 jf, .int .u32 k] 36)).drew g s rv nx st en re) := (hM.alloc _).drew
  have HC : Hid (∀ h, Calls Try.prog 110 #[.pointer (some ⟨g, 0, none⟩), insV 53 jt jf k, .bool h] (w.alloc (.cells #[.int .u16 53, .int .u8 jt, .int .u8 jf, .int .u32 k] 36)).drew fun e w' => e = .returned (.tuple #[]) ∧ Mach w' g s rv (nx + pickJ h jt jf) st en re ∧ (w.alloc (.cells #[.int .u16 53, .int .u8 jt, .int .u8 jf, .int .u32 k] 36)).drew.grownBy w' (some g)) := fun h => branch_any g s rv nx st en re 53 jt jf k h _ HM.out hn0 hn1 j0 j1
  have e0 := hM.c0
  have f0 := hM.fz 0
  have e1 := hM.c1
  have f1 := hM.fz 1
  have b0 : (w.alloc (.cells #[.int .u16 53, .int .u8 jt, .int .u8 jf, .int .u32 k] 36)).drew.cell? ⟨w.heap.size, 0, none⟩ = some (.int .u16 53) := by rw [World.cell?_drew, World.cell?_alloc_at _ _ _ _ rfl]; rfl
  have b1 : (w.alloc (.cells #[.int .u16 53, .int .u8 jt, .int .u8 jf, .int .u32 k] 36)).drew.cell? ⟨w.heap.size, 1, none⟩ = some (.int .u8 jt) := by rw [World.cell?_drew, World.cell?_alloc_at _ _ _ _ rfl]; rfl
  have b2 : (w.alloc (.cells #[.int .u16 53, .int .u8 jt, .int .u8 jf, .int .u32 k] 36)).drew.cell? ⟨w.heap.size, 2, none⟩ = some (.int .u8 jf) := by rw [World.cell?_drew, World.cell?_alloc_at _ _ _ _ rfl]; rfl
  have b3 : (w.alloc (.cells #[.int .u16 53, .int .u8 jt, .int .u8 jf, .int .u32 k] 36)).drew.cell? ⟨w.heap.size, 3, none⟩ = some (.int .u32 k) := by rw [World.cell?_drew, World.cell?_alloc_at _ _ _ _ rfl]; rfl
  have hne2 : some w.heap.size ≠ some g := by simp [hne]
  have HB : Hid _ := And.intro b0 (And.intro b1 (And.intro b2 b3))
  obtain ⟨a0, a1⟩ := hs.1
  obtain ⟨v0, v1⟩ := hv
  have HA : Hid (∀ wx nx' st' en' re', Mach wx g s rv nx' st' en' re' → wx.cell? ⟨g, 0, none⟩ = some (.int .u32 s.a)) := fun wx _ _ _ _ h => h.c0
  clear hM hs HM b0 b1 b2 b3
  generalize s.a = a at *
  go_enter Try.func91, Try.ntmps91
  refine wp_two ?_
  go_wp2
  refine ⟨rfl, ?_⟩
  go_wp2
  refine ⟨rfl, ?_⟩
  refine wp_switch_k 22 0 _ ⟨_, by rfl, by rfl⟩ (fun Q' HQ => ?_)
  conv => arg 2; whnf
  go_wp2
  refine ⟨rfl, ?_⟩
  go_region_held3 (fun w' => w'.cell? ⟨w.heap.size, 0, none⟩ = some (.int .u16 53) ∧ w'.cell? ⟨w.heap.size, 1, none⟩ = some (.int .u8 jt) ∧ w'.cell? ⟨w.heap.size, 2, none⟩ = some (.int .u8 jf) ∧ w'.cell? ⟨w.heap.size, 3, none⟩ = some (.int .u32 k) ∧ w'.cell? ⟨g, 0, none⟩ = some (.int .u32 a))
    (first | go_keep | exact ⟨z0, z1, z2, z3, z4⟩)
    ((go_at_call 110; refine (HC.out _).mono ?_; rintro e w' ⟨rfl, hM', hG⟩; have z0 := hG.cell HB.out.1 hne2; have z1 := hG.cell HB.out.2.1 hne2; have z2 := hG.cell HB.out.2.2.1 hne2; have z3 := hG.cell HB.out.2.2.2 hne2; have z4 := HA.out _ _ _ _ _ hM'))
  refine HQ.out _ _ ?_
  go_end0
  exact ⟨rfl, by assumption, gb_trans (gb_drew (gb_alloc (World.grownBy.refl _ _) _)) (by assumption)⟩

set_option maxHeartbeats 1000000 in
set_option maxRecDepth 200000 in
theorem step_61 (g : Nat) (s : S) (rv : Value) (nx st : Int) (en : Bool) (re jt jf k v : Int) (w : World) (hM : Mach w g s rv nx st en re) (hs : s.ok) (hv : isWord v) (hk : isWord k) (hn0 : 0 ≤ nx) (hn1 : nx ≤ 1000000) (j0 : 0 ≤ jt ∧ jt ≤ 255) (j1 : 0 ≤ jf ∧ jf ≤ 255) :
    Calls Try.prog 91 #[.pointer (some ⟨g, 0, none⟩), insV 61 jt jf k, .int .u32 v] w fun e w' => e = .returned (.tuple #[]) ∧ Mach w' g s rv (nx + pickJ (decide (v ≤ s.a)) jt jf) st en re ∧ w.grownBy w' (some g) := by
  have hlt := World.rowIs.lt hM
  have hne : ¬ w.heap.size = g := by omega
  have HM : Hid (Mach (w.alloc (.cells #[.int .u16 61, .int .u8 jt, .int .u8 jf, .int .u32 k] 36)).drew g s rv nx st en re) := (hM.alloc _).drew
  have HC : Hid (∀ h, Calls Try.prog 110 #[.pointer (some ⟨g, 0, none⟩), insV 61 jt jf k, .bool h] (w.alloc (.cells #[.int .u16 61, .int .u8 jt, .int .u8 jf, .int .u32 k] 36)).drew fun e w' => e = .returned (.tuple #[]) ∧ Mach w' g s rv (nx + pickJ h jt jf) st en re ∧ (w.alloc (.cells #[.int .u16 61, .int .u8 jt, .int .u8 jf, .int .u32 k] 36)).drew.grownBy w' (some g)) := fun h => branch_any g s rv nx st en re 61 jt jf k h _ HM.out hn0 hn1 j0 j1
  have e0 := hM.c0
  have f0 := hM.fz 0
  have e1 := hM.c1
  have f1 := hM.fz 1
  have b0 : (w.alloc (.cells #[.int .u16 61, .int .u8 jt, .int .u8 jf, .int .u32 k] 36)).drew.cell? ⟨w.heap.size, 0, none⟩ = some (.int .u16 61) := by rw [World.cell?_drew, World.cell?_alloc_at _ _ _ _ rfl]; rfl
  have b1 : (w.alloc (.cells #[.int .u16 61, .int .u8 jt, .int .u8 jf, .int .u32 k] 36)).drew.cell? ⟨w.heap.size, 1, none⟩ = some (.int .u8 jt) := by rw [World.cell?_drew, World.cell?_alloc_at _ _ _ _ rfl]; rfl
  have b2 : (w.alloc (.cells #[.int .u16 61, .int .u8 jt, .int .u8 jf, .int .u32 k] 36)).drew.cell? ⟨w.heap.size, 2, none⟩ = some (.int .u8 jf) := by rw [World.cell?_drew, World.cell?_alloc_at _ _ _ _ rfl]; rfl
  have b3 : (w.alloc (.cells #[.int .u16 61, .int .u8 jt, .int .u8 jf, .int .u32 k] 36)).drew.cell? ⟨w.heap.size, 3, none⟩ = some (.int .u32 k) := by rw [World.cell?_drew, World.cell?_alloc_at _ _ _ _ rfl]; rfl
  have hne2 : some w.heap.size ≠ some g := by simp [hne]
  have HB : Hid _ := And.intro b0 (And.intro b1 (And.intro b2 b3))
  obtain ⟨a0, a1⟩ := hs.1
  obtain ⟨v0, v1⟩ := hv
  have HA : Hid (∀ wx nx' st' en' re', Mach wx g s rv nx' st' en' re' → wx.cell? ⟨g, 0, none⟩ = some (.int .u32 s.a)) := fun wx _ _ _ _ h => h.c0
  clear hM hs HM b0 b1 b2 b3
  generalize s.a = a at *
  go_enter Try.func91, Try.ntmps91
  refine wp_two ?_
  go_wp2
  refine ⟨rfl, ?_⟩
  go_wp2
  refine ⟨rfl, ?_⟩
  refine wp_switch_k 23 0 _ ⟨_, by rfl, by rfl⟩ (fun Q' HQ => ?_)
  conv => arg 2; whnf
  go_wp2
  refine ⟨rfl, ?_⟩
  go_region_held3 (fun w' => w'.cell? ⟨w.heap.size, 0, none⟩ = some (.int .u16 61) ∧ w'.cell? ⟨w.heap.size, 1, none⟩ = some (.int .u8 jt) ∧ w'.cell? ⟨w.heap.size, 2, none⟩ = some (.int .u8 jf) ∧ w'.cell? ⟨w.heap.size, 3, none⟩ = some (.int .u32 k) ∧ w'.cell? ⟨g, 0, none⟩ = some (.int .u32 a))
    (first | go_keep | exact ⟨z0, z1, z2, z3, z4⟩)
    ((go_at_call 110; refine (HC.out _).mono ?_; rintro e w' ⟨rfl, hM', hG⟩; have z0 := hG.cell HB.out.1 hne2; have z1 := hG.cell HB.out.2.1 hne2; have z2 := hG.cell HB.out.2.2.1 hne2; have z3 := hG.cell HB.out.2.2.2 hne2; have z4 := HA.out _ _ _ _ _ hM'))
  refine HQ.out _ _ ?_
  go_end0
  exact ⟨rfl, by assumption, gb_trans (gb_drew (gb_alloc (World.grownBy.refl _ _) _)) (by assumption)⟩

set_option maxHeartbeats 1000000 in
set_option maxRecDepth 200000 in
theorem step_69 (g : Nat) (s : S) (rv : Value) (nx st : Int) (en : Bool) (re jt jf k v : Int) (w : World) (hM : Mach w g s rv nx st en re) (hs : s.ok) (hv : isWord v) (hk : isWord k) (hn0 : 0 ≤ nx) (hn1 : nx ≤ 1000000) (j0 : 0 ≤ jt ∧ jt ≤ 255) (j1 : 0 ≤ jf ∧ jf ≤ 255) :
    Calls Try.prog 91 #[.pointer (some ⟨g, 0, none⟩), insV 69 jt jf k, .int .u32 v] w fun e w' => e = .returned (.tuple #[]) ∧ Mach w' g s rv (nx + pickJ (bits .and .u32 s.a v != 0) jt jf) st en re ∧ w.grownBy w' (some g) := by
  have hlt := World.rowIs.lt hM
  have hne : ¬ w.heap.size = g := by omega
  have HM : Hid (Mach (w.alloc (.cells #[.int .u16 69, .int .u8 jt, .int .u8 jf, .int .u32 k] 36)).drew g s rv nx st en re) := (hM.alloc _).drew
  have HC : Hid (∀ h, Calls Try.prog 110 #[.pointer (some ⟨g, 0, none⟩), insV 69 jt jf k, .bool h] (w.alloc (.cells #[.int .u16 69, .int .u8 jt, .int .u8 jf, .int .u32 k] 36)).drew fun e w' => e = .returned (.tuple #[]) ∧ Mach w' g s rv (nx + pickJ h jt jf) st en re ∧ (w.alloc (.cells #[.int .u16 69, .int .u8 jt, .int .u8 jf, .int .u32 k] 36)).drew.grownBy w' (some g)) := fun h => branch_any g s rv nx st en re 69 jt jf k h _ HM.out hn0 hn1 j0 j1
  have e0 := hM.c0
  have f0 := hM.fz 0
  have e1 := hM.c1
  have f1 := hM.fz 1
  have b0 : (w.alloc (.cells #[.int .u16 69, .int .u8 jt, .int .u8 jf, .int .u32 k] 36)).drew.cell? ⟨w.heap.size, 0, none⟩ = some (.int .u16 69) := by rw [World.cell?_drew, World.cell?_alloc_at _ _ _ _ rfl]; rfl
  have b1 : (w.alloc (.cells #[.int .u16 69, .int .u8 jt, .int .u8 jf, .int .u32 k] 36)).drew.cell? ⟨w.heap.size, 1, none⟩ = some (.int .u8 jt) := by rw [World.cell?_drew, World.cell?_alloc_at _ _ _ _ rfl]; rfl
  have b2 : (w.alloc (.cells #[.int .u16 69, .int .u8 jt, .int .u8 jf, .int .u32 k] 36)).drew.cell? ⟨w.heap.size, 2, none⟩ = some (.int .u8 jf) := by rw [World.cell?_drew, World.cell?_alloc_at _ _ _ _ rfl]; rfl
  have b3 : (w.alloc (.cells #[.int .u16 69, .int .u8 jt, .int .u8 jf, .int .u32 k] 36)).drew.cell? ⟨w.heap.size, 3, none⟩ = some (.int .u32 k) := by rw [World.cell?_drew, World.cell?_alloc_at _ _ _ _ rfl]; rfl
  have hne2 : some w.heap.size ≠ some g := by simp [hne]
  have HB : Hid _ := And.intro b0 (And.intro b1 (And.intro b2 b3))
  obtain ⟨a0, a1⟩ := hs.1
  obtain ⟨v0, v1⟩ := hv
  have HA : Hid (∀ wx nx' st' en' re', Mach wx g s rv nx' st' en' re' → wx.cell? ⟨g, 0, none⟩ = some (.int .u32 s.a)) := fun wx _ _ _ _ h => h.c0
  clear hM hs HM b0 b1 b2 b3
  generalize s.a = a at *
  go_enter Try.func91, Try.ntmps91
  refine wp_two ?_
  go_wp2
  refine ⟨rfl, ?_⟩
  go_wp2
  refine ⟨rfl, ?_⟩
  refine wp_switch_k 24 0 _ ⟨_, by rfl, by rfl⟩ (fun Q' HQ => ?_)
  conv => arg 2; whnf
  go_wp2
  refine ⟨rfl, ?_⟩
  go_region_held3 (fun w' => w'.cell? ⟨w.heap.size, 0, none⟩ = some (.int .u16 69) ∧ w'.cell? ⟨w.heap.size, 1, none⟩ = some (.int .u8 jt) ∧ w'.cell? ⟨w.heap.size, 2, none⟩ = some (.int .u8 jf) ∧ w'.cell? ⟨w.heap.size, 3, none⟩ = some (.int .u32 k) ∧ w'.cell? ⟨g, 0, none⟩ = some (.int .u32 a))
    (first | go_keep | exact ⟨z0, z1, z2, z3, z4⟩)
    ((go_at_call 110; refine (HC.out _).mono ?_; rintro e w' ⟨rfl, hM', hG⟩; have z0 := hG.cell HB.out.1 hne2; have z1 := hG.cell HB.out.2.1 hne2; have z2 := hG.cell HB.out.2.2.1 hne2; have z3 := hG.cell HB.out.2.2.2 hne2; have z4 := HA.out _ _ _ _ _ hM'))
  refine HQ.out _ _ ?_
  go_end0
  exact ⟨rfl, by assumption, gb_trans (gb_drew (gb_alloc (World.grownBy.refl _ _) _)) (by assumption)⟩

set_option maxHeartbeats 1000000 in
set_option maxRecDepth 200000 in
theorem step_77 (g : Nat) (s : S) (rv : Value) (nx st : Int) (en : Bool) (re jt jf k v : Int) (w : World) (hM : Mach w g s rv nx st en re) (hs : s.ok) (hv : isWord v) (hk : isWord k) (hn0 : 0 ≤ nx) (hn1 : nx ≤ 1000000) (j0 : 0 ≤ jt ∧ jt ≤ 255) (j1 : 0 ≤ jf ∧ jf ≤ 255) :
    Calls Try.prog 91 #[.pointer (some ⟨g, 0, none⟩), insV 77 jt jf k, .int .u32 v] w fun e w' => e = .returned (.tuple #[]) ∧ Mach w' g s rv (nx + pickJ (bits .and .u32 s.a v != 0) jt jf) st en re ∧ w.grownBy w' (some g) := by
  have hlt := World.rowIs.lt hM
  have hne : ¬ w.heap.size = g := by omega
  have HM : Hid (Mach (w.alloc (.cells #[.int .u16 77, .int .u8 jt, .int .u8 jf, .int .u32 k] 36)).drew g s rv nx st en re) := (hM.alloc _).drew
  have HC : Hid (∀ h, Calls Try.prog 110 #[.pointer (some ⟨g, 0, none⟩), insV 77 jt jf k, .bool h] (w.alloc (.cells #[.int .u16 77, .int .u8 jt, .int .u8 jf, .int .u32 k] 36)).drew fun e w' => e = .returned (.tuple #[]) ∧ Mach w' g s rv (nx + pickJ h jt jf) st en re ∧ (w.alloc (.cells #[.int .u16 77, .int .u8 jt, .int .u8 jf, .int .u32 k] 36)).drew.grownBy w' (some g)) := fun h => branch_any g s rv nx st en re 77 jt jf k h _ HM.out hn0 hn1 j0 j1
  have e0 := hM.c0
  have f0 := hM.fz 0
  have e1 := hM.c1
  have f1 := hM.fz 1
  have b0 : (w.alloc (.cells #[.int .u16 77, .int .u8 jt, .int .u8 jf, .int .u32 k] 36)).drew.cell? ⟨w.heap.size, 0, none⟩ = some (.int .u16 77) := by rw [World.cell?_drew, World.cell?_alloc_at _ _ _ _ rfl]; rfl
  have b1 : (w.alloc (.cells #[.int .u16 77, .int .u8 jt, .int .u8 jf, .int .u32 k] 36)).drew.cell? ⟨w.heap.size, 1, none⟩ = some (.int .u8 jt) := by rw [World.cell?_drew, World.cell?_alloc_at _ _ _ _ rfl]; rfl
  have b2 : (w.alloc (.cells #[.int .u16 77, .int .u8 jt, .int .u8 jf, .int .u32 k] 36)).drew.cell? ⟨w.heap.size, 2, none⟩ = some (.int .u8 jf) := by rw [World.cell?_drew, World.cell?_alloc_at _ _ _ _ rfl]; rfl
  have b3 : (w.alloc (.cells #[.int .u16 77, .int .u8 jt, .int .u8 jf, .int .u32 k] 36)).drew.cell? ⟨w.heap.size, 3, none⟩ = some (.int .u32 k) := by rw [World.cell?_drew, World.cell?_alloc_at _ _ _ _ rfl]; rfl
  have hne2 : some w.heap.size ≠ some g := by simp [hne]
  have HB : Hid _ := And.intro b0 (And.intro b1 (And.intro b2 b3))
  obtain ⟨a0, a1⟩ := hs.1
  obtain ⟨v0, v1⟩ := hv
  have HA : Hid (∀ wx nx' st' en' re', Mach wx g s rv nx' st' en' re' → wx.cell? ⟨g, 0, none⟩ = some (.int .u32 s.a)) := fun wx _ _ _ _ h => h.c0
  clear hM hs HM b0 b1 b2 b3
  generalize s.a = a at *
  go_enter Try.func91, Try.ntmps91
  refine wp_two ?_
  go_wp2
  refine ⟨rfl, ?_⟩
  go_wp2
  refine ⟨rfl, ?_⟩
  refine wp_switch_k 25 0 _ ⟨_, by rfl, by rfl⟩ (fun Q' HQ => ?_)
  conv => arg 2; whnf
  go_wp2
  refine ⟨rfl, ?_⟩
  go_region_held3 (fun w' => w'.cell? ⟨w.heap.size, 0, none⟩ = some (.int .u16 77) ∧ w'.cell? ⟨w.heap.size, 1, none⟩ = some (.int .u8 jt) ∧ w'.cell? ⟨w.heap.size, 2, none⟩ = some (.int .u8 jf) ∧ w'.cell? ⟨w.heap.size, 3, none⟩ = some (.int .u32 k) ∧ w'.cell? ⟨g, 0, none⟩ = some (.int .u32 a))
    (first | go_keep | exact ⟨z0, z1, z2, z3, z4⟩)
    ((go_at_call 110; refine (HC.out _).mono ?_; rintro e w' ⟨rfl, hM', hG⟩; have z0 := hG.cell HB.out.1 hne2; have z1 := hG.cell HB.out.2.1 hne2; have z2 := hG.cell HB.out.2.2.1 hne2; have z3 := hG.cell HB.out.2.2.2 hne2; have z4 := HA.out _ _ _ _ _ hM'))
  refine HQ.out _ _ ?_
  go_end0
  exact ⟨rfl, by assumption, gb_trans (gb_drew (gb_alloc (World.grownBy.refl _ _) _)) (by assumption)⟩

end Go.Proofs.Ytjfgihmamoiipaa
