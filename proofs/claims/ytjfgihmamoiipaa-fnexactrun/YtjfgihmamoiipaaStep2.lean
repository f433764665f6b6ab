/-
  THE MACHINE's STEP, a theorem a code. (Written by a script of our own, wip/gen/stepg.py.)
-/
import Derived.Test.YtjfgihmamoiipaaStep1
import Derived.Deep.RegionWith
import Derived.Deep.DrawnRows
namespace Go.Proofs.Ytjfgihmamoiipaa
open Go.RowKit
set_option linter.unusedVariables false
attribute [local go_sem ↓] Go.wp_at_zero Go.wp_at_succ

set_option maxHeartbeats 1000000 in
set_option maxRecDepth 200000 in
theorem step_100s (g : Nat) (s : S) (rv : Value) (nx st : Int) (en : Bool) (re jt jf k v : Int) (w : World) (hM : Mach w g s rv nx st en re) (hs : s.ok) (hv : isWord v) (hk : isWord k) (hv32 : v < 32) :
    Calls Try.prog 91 #[.pointer (some ⟨g, 0, none⟩), insV 100 jt jf k, .int .u32 v] w fun e w' => e = .returned (.tuple #[]) ∧ Mach w' g { s with a := s.a * 2 ^ v.toNat % 4294967296 } rv nx st en re ∧ w.grownBy w' (some g) := by
  have hlt := World.rowIs.lt hM
  have hne : ¬ w.heap.size = g := by omega
  have HM : Hid _ := (hM.seta (s.a * 2 ^ v.toNat % 4294967296)).alloc (.cells #[.int .u16 100, .int .u8 jt, .int .u8 jf, .int .u32 k] 36)
  have e0 := hM.c0
  have f0 := hM.fz 0
  have e1 := hM.c1
  have f1 := hM.fz 1
  obtain ⟨a, x, m⟩ := s
  obtain ⟨a0, a1⟩ := hs.1
  obtain ⟨x0, x1⟩ := hs.2.1
  obtain ⟨v0, v1⟩ := hv
  obtain ⟨k0, k1⟩ := hk
  simp only at e0 e1 a0 a1 x0 x1
  clear hM hs
  go_enter Try.func91, Try.ntmps91
  refine wp_two ?_
  go_wp2
  refine ⟨rfl, ?_⟩
  go_wp2
  refine ⟨rfl, ?_⟩
  refine wp_switch 12 0 _ ⟨_, by rfl, by rfl⟩ ?_
  conv => arg 2; whnf
  go_wp2
  refine ⟨rfl, ?_⟩
  go_wp2
  refine ⟨rfl, ?_⟩
  go_end0
  exact ⟨rfl, HM.out, gb_alloc (gb_set (World.grownBy.refl _ _) _ _) _⟩

set_option maxHeartbeats 1000000 in
set_option maxRecDepth 200000 in
theorem step_100b (g : Nat) (s : S) (rv : Value) (nx st : Int) (en : Bool) (re jt jf k v : Int) (w : World) (hM : Mach w g s rv nx st en re) (hs : s.ok) (hv : isWord v) (hk : isWord k) (hv32 : 32 ≤ v) :
    Calls Try.prog 91 #[.pointer (some ⟨g, 0, none⟩), insV 100 jt jf k, .int .u32 v] w fun e w' => e = .returned (.tuple #[]) ∧ Mach w' g { s with a := 0 } rv nx st en re ∧ w.grownBy w' (some g) := by
  have hlt := World.rowIs.lt hM
  have hne : ¬ w.heap.size = g := by omega
  have HM : Hid _ := (hM.seta (0)).alloc (.cells #[.int .u16 100, .int .u8 jt, .int .u8 jf, .int .u32 k] 36)
  have e0 := hM.c0
  have f0 := hM.fz 0
  have e1 := hM.c1
  have f1 := hM.fz 1
  obtain ⟨a, x, m⟩ := s
  obtain ⟨a0, a1⟩ := hs.1
  obtain ⟨x0, x1⟩ := hs.2.1
  obtain ⟨v0, v1⟩ := hv
  obtain ⟨k0, k1⟩ := hk
  simp only at e0 e1 a0 a1 x0 x1
  clear hM hs
  go_enter Try.func91, Try.ntmps91
  refine wp_two ?_
  go_wp2
  refine ⟨rfl, ?_⟩
  go_wp2
  refine ⟨rfl, ?_⟩
  refine wp_switch 12 0 _ ⟨_, by rfl, by rfl⟩ ?_
  conv => arg 2; whnf
  go_wp2
  refine ⟨rfl, ?_⟩
  go_wp2
  refine ⟨rfl, ?_⟩
  go_end0
  exact ⟨rfl, HM.out, gb_alloc (gb_set (World.grownBy.refl _ _) _ _) _⟩

set_option maxHeartbeats 1000000 in
set_option maxRecDepth 200000 in
theorem step_108s (g : Nat) (s : S) (rv : Value) (nx st : Int) (en : Bool) (re jt jf k v : Int) (w : World) (hM : Mach w g s rv nx st en re) (hs : s.ok) (hv : isWord v) (hk : isWord k) (hv32 : v < 32) :
    Calls Try.prog 91 #[.pointer (some ⟨g, 0, none⟩), insV 108 jt jf k, .int .u32 v] w fun e w' => e = .returned (.tuple #[]) ∧ Mach w' g { s with a := s.a * 2 ^ v.toNat % 4294967296 } rv nx st en re ∧ w.grownBy w' (some g) := by
  have hlt := World.rowIs.lt hM
  have hne : ¬ w.heap.size = g := by omega
  have HM : Hid _ := (hM.seta (s.a * 2 ^ v.toNat % 4294967296)).alloc (.cells #[.int .u16 108, .int .u8 jt, .int .u8 jf, .int .u32 k] 36)
  have e0 := hM.c0
  have f0 := hM.fz 0
  have e1 := hM.c1
  have f1 := hM.fz 1
  obtain ⟨a, x, m⟩ := s
  obtain ⟨a0, a1⟩ := hs.1
  obtain ⟨x0, x1⟩ := hs.2.1
  obtain ⟨v0, v1⟩ := hv
  obtain ⟨k0, k1⟩ := hk
  simp only at e0 e1 a0 a1 x0 x1
  clear hM hs
  go_enter Try.func91, Try.ntmps91
  refine wp_two ?_
  go_wp2
  refine ⟨rfl, ?_⟩
  go_wp2
  refine ⟨rfl, ?_⟩
  refine wp_switch 12 0 _ ⟨_, by rfl, by rfl⟩ ?_
  conv => arg 2; whnf
  go_wp2
  refine ⟨rfl, ?_⟩
  go_wp2
  refine ⟨rfl, ?_⟩
  go_end0
  exact ⟨rfl, HM.out, gb_alloc (gb_set (World.grownBy.refl _ _) _ _) _⟩

set_option maxHeartbeats 1000000 in
set_option maxRecDepth 200000 in
theorem step_108b (g : Nat) (s : S) (rv : Value) (nx st : Int) (en : Bool) (re jt jf k v : Int) (w : World) (hM : Mach w g s rv nx st en re) (hs : s.ok) (hv : isWord v) (hk : isWord k) (hv32 : 32 ≤ v) :
    Calls Try.prog 91 #[.pointer (some ⟨g, 0, none⟩), insV 108 jt jf k, .int .u32 v] w fun e w' => e = .returned (.tuple #[]) ∧ Mach w' g { s with a := 0 } rv nx st en re ∧ w.grownBy w' (some g) := by
  have hlt := World.rowIs.lt hM
  have hne : ¬ w.heap.size = g := by omega
  have HM : Hid _ := (hM.seta (0)).alloc (.cells #[.int .u16 108, .int .u8 jt, .int .u8 jf, .int .u32 k] 36)
  have e0 := hM.c0
  have f0 := hM.fz 0
  have e1 := hM.c1
  have f1 := hM.fz 1
  obtain ⟨a, x, m⟩ := s
  obtain ⟨a0, a1⟩ := hs.1
  obtain ⟨x0, x1⟩ := hs.2.1
  obtain ⟨v0, v1⟩ := hv
  obtain ⟨k0, k1⟩ := hk
  simp only at e0 e1 a0 a1 x0 x1
  clear hM hs
  go_enter Try.func91, Try.ntmps91
  refine wp_two ?_
  go_wp2
  refine ⟨rfl, ?_⟩
  go_wp2
  refine ⟨rfl, ?_⟩
  refine wp_switch 12 0 _ ⟨_, by rfl, by rfl⟩ ?_
  conv => arg 2; whnf
  go_wp2
  refine ⟨rfl, ?_⟩
  go_wp2
  refine ⟨rfl, ?_⟩
  go_end0
  exact ⟨rfl, HM.out, gb_alloc (gb_set (World.grownBy.refl _ _) _ _) _⟩

set_option maxHeartbeats 1000000 in
set_option maxRecDepth 200000 in
theorem step_116s (g : Nat) (s : S) (rv : Value) (nx st : Int) (en : Bool) (re jt jf k v : Int) (w : World) (hM : Mach w g s rv nx st en re) (hs : s.ok) (hv : isWord v) (hk : isWord k) (hv32 : v < 32) :
    Calls Try.prog 91 #[.pointer (some ⟨g, 0, none⟩), insV 116 jt jf k, .int .u32 v] w fun e w' => e = .returned (.tuple #[]) ∧ Mach w' g { s with a := s.a / 2 ^ v.toNat } rv nx st en re ∧ w.grownBy w' (some g) := by
  have hlt := World.rowIs.lt hM
  have hne : ¬ w.heap.size = g := by omega
  have HM : Hid _ := (hM.seta (s.a / 2 ^ v.toNat)).alloc (.cells #[.int .u16 116, .int .u8 jt, .int .u8 jf, .int .u32 k] 36)
  have e0 := hM.c0
  have f0 := hM.fz 0
  have e1 := hM.c1
  have f1 := hM.fz 1
  obtain ⟨a, x, m⟩ := s
  obtain ⟨a0, a1⟩ := hs.1
  obtain ⟨x0, x1⟩ := hs.2.1
  obtain ⟨v0, v1⟩ := hv
  obtain ⟨k0, k1⟩ := hk
  simp only at e0 e1 a0 a1 x0 x1
  clear hM hs
  go_enter Try.func91, Try.ntmps91
  refine wp_two ?_
  go_wp2
  refine ⟨rfl, ?_⟩
  go_wp2
  refine ⟨rfl, ?_⟩
  refine wp_switch 13 0 _ ⟨_, by rfl, by rfl⟩ ?_
  conv => arg 2; whnf
  go_wp2
  refine ⟨rfl, ?_⟩
  go_wp2
  refine ⟨rfl, ?_⟩
  go_end0
  exact ⟨rfl, HM.out, gb_alloc (gb_set (World.grownBy.refl _ _) _ _) _⟩

set_option maxHeartbeats 1000000 in
set_option maxRecDepth 200000 in
theorem step_116b (g : Nat) (s : S) (rv : Value) (nx st : Int) (en : Bool) (re jt jf k v : Int) (w : World) (hM : Mach w g s rv nx st en re) (hs : s.ok) (hv : isWord v) (hk : isWord k) (hv32 : 32 ≤ v) :
    Calls Try.prog 91 #[.pointer (some ⟨g, 0, none⟩), insV 116 jt jf k, .int .u32 v] w fun e w' => e = .returned (.tuple #[]) ∧ Mach w' g { s with a := s.a / 4294967296 } rv nx st en re ∧ w.grownBy w' (some g) := by
  have hlt := World.rowIs.lt hM
  have hne : ¬ w.heap.size = g := by omega
  have HM : Hid _ := (hM.seta (s.a / 4294967296)).alloc (.cells #[.int .u16 116, .int .u8 jt, .int .u8 jf, .int .u32 k] 36)
  have e0 := hM.c0
  have f0 := hM.fz 0
  have e1 := hM.c1
  have f1 := hM.fz 1
  obtain ⟨a, x, m⟩ := s
  obtain ⟨a0, a1⟩ := hs.1
  obtain ⟨x0, x1⟩ := hs.2.1
  obtain ⟨v0, v1⟩ := hv
  obtain ⟨k0, k1⟩ := hk
  simp only at e0 e1 a0 a1 x0 x1
  clear hM hs
  go_enter Try.func91, Try.ntmps91
  refine wp_two ?_
  go_wp2
  refine ⟨rfl, ?_⟩
  go_wp2
  refine ⟨rfl, ?_⟩
  refine wp_switch 13 0 _ ⟨_, by rfl, by rfl⟩ ?_
  conv => arg 2; whnf
  go_wp2
  refine ⟨rfl, ?_⟩
  go_wp2
  refine ⟨rfl, ?_⟩
  go_end0
  exact ⟨rfl, HM.out, gb_alloc (gb_set (World.grownBy.refl _ _) _ _) _⟩

set_option maxHeartbeats 1000000 in
set_option maxRecDepth 200000 in
theorem step_124s (g : Nat) (s : S) (rv : Value) (nx st : Int) (en : Bool) (re jt jf k v : Int) (w : World) (hM : Mach w g s rv nx st en re) (hs : s.ok) (hv : isWord v) (hk : isWord k) (hv32 : v < 32) :
    Calls Try.prog 91 #[.pointer (some ⟨g, 0, none⟩), insV 124 jt jf k, .int .u32 v] w fun e w' => e = .returned (.tuple #[]) ∧ Mach w' g { s with a := s.a / 2 ^ v.toNat } rv nx st en re ∧ w.grownBy w' (some g) := by
  have hlt := World.rowIs.lt hM
  have hne : ¬ w.heap.size = g := by omega
  have HM : Hid _ := (hM.seta (s.a / 2 ^ v.toNat)).alloc (.cells #[.int .u16 124, .int .u8 jt, .int .u8 jf, .int .u32 k] 36)
  have e0 := hM.c0
  have f0 := hM.fz 0
  have e1 := hM.c1
  have f1 := hM.fz 1
  obtain ⟨a, x, m⟩ := s
  obtain ⟨a0, a1⟩ := hs.1
  obtain ⟨x0, x1⟩ := hs.2.1
  obtain ⟨v0, v1⟩ := hv
  obtain ⟨k0, k1⟩ := hk
  simp only at e0 e1 a0 a1 x0 x1
  clear hM hs
  go_enter Try.func91, Try.ntmps91
  refine wp_two ?_
  go_wp2
  refine ⟨rfl, ?_⟩
  go_wp2
  refine ⟨rfl, ?_⟩
  refine wp_switch 13 0 _ ⟨_, by rfl, by rfl⟩ ?_
  conv => arg 2; whnf
  go_wp2
  refine ⟨rfl, ?_⟩
  go_wp2
  refine ⟨rfl, ?_⟩
  go_end0
  exact ⟨rfl, HM.out, gb_alloc (gb_set (World.grownBy.refl _ _) _ _) _⟩

set_option maxHeartbeats 1000000 in
set_option maxRecDepth 200000 in
theorem step_124b (g : Nat) (s : S) (rv : Value) (nx st : Int) (en : Bool) (re jt jf k v : Int) (w : World) (hM : Mach w g s rv nx st en re) (hs : s.ok) (hv : isWord v) (hk : isWord k) (hv32 : 32 ≤ v) :
    Calls Try.prog 91 #[.pointer (some ⟨g, 0, none⟩), insV 124 jt jf k, .int .u32 v] w fun e w' => e = .returned (.tuple #[]) ∧ Mach w' g { s with a := s.a / 4294967296 } rv nx st en re ∧ w.grownBy w' (some g) := by
  have hlt := World.rowIs.lt hM
  have hne : ¬ w.heap.size = g := by omega
  have HM : Hid _ := (hM.seta (s.a / 4294967296)).alloc (.cells #[.int .u16 124, .int .u8 jt, .int .u8 jf, .int .u32 k] 36)
  have e0 := hM.c0
  have f0 := hM.fz 0
  have e1 := hM.c1
  have f1 := hM.fz 1
  obtain ⟨a, x, m⟩ := s
  obtain ⟨a0, a1⟩ := hs.1
  obtain ⟨x0, x1⟩ := hs.2.1
  obtain ⟨v0, v1⟩ := hv
  obtain ⟨k0, k1⟩ := hk
  simp only at e0 e1 a0 a1 x0 x1
  clear hM hs
  go_enter Try.func91, Try.ntmps91
  refine wp_two ?_
  go_wp2
  refine ⟨rfl, ?_⟩
  go_wp2
  refine ⟨rfl, ?_⟩
  refine wp_switch 13 0 _ ⟨_, by rfl, by rfl⟩ ?_
  conv => arg 2; whnf
  go_wp2
  refine ⟨rfl, ?_⟩
  go_wp2
  refine ⟨rfl, ?_⟩
  go_end0
  exact ⟨rfl, HM.out, gb_alloc (gb_set (World.grownBy.refl _ _) _ _) _⟩

set_option maxHeartbeats 1000000 in
set_option maxRecDepth 200000 in
theorem step_132 (g : Nat) (s : S) (rv : Value) (nx st : Int) (en : Bool) (re jt jf k v : Int) (w : World) (hM : Mach w g s rv nx st en re) (hs : s.ok) (hv : isWord v) (hk : isWord k)  :
    Calls Try.prog 91 #[.pointer (some ⟨g, 0, none⟩), insV 132 jt jf k, .int .u32 v] w fun e w' => e = .returned (.tuple #[]) ∧ Mach w' g { s with a := -s.a % 4294967296 } rv nx st en re ∧ w.grownBy w' (some g) := by
  have hlt := World.rowIs.lt hM
  have hne : ¬ w.heap.size = g := by omega
  have HM : Hid _ := (hM.seta (-s.a % 4294967296)).alloc (.cells #[.int .u16 132, .int .u8 jt, .int .u8 jf, .int .u32 k] 36)
  have e0 := hM.c0
  have f0 := hM.fz 0
  have e1 := hM.c1
  have f1 := hM.fz 1
  obtain ⟨a, x, m⟩ := s
  obtain ⟨a0, a1⟩ := hs.1
  obtain ⟨x0, x1⟩ := hs.2.1
  obtain ⟨v0, v1⟩ := hv
  obtain ⟨k0, k1⟩ := hk
  simp only at e0 e1 a0 a1 x0 x1
  clear hM hs
  go_enter Try.func91, Try.ntmps91
  refine wp_two ?_
  go_wp2
  refine ⟨rfl, ?_⟩
  go_wp2
  refine ⟨rfl, ?_⟩
  refine wp_switch 14 0 _ ⟨_, by rfl, by rfl⟩ ?_
  conv => arg 2; whnf
  go_wp2
  refine ⟨rfl, ?_⟩
  go_wp2
  refine ⟨rfl, ?_⟩
  go_end0
  exact ⟨rfl, HM.out, gb_alloc (gb_set (World.grownBy.refl _ _) _ _) _⟩

set_option maxHeartbeats 1000000 in
set_option maxRecDepth 200000 in
theorem step_2 (g : Nat) (s : S) (rv : Value) (nx st : Int) (en : Bool) (re jt jf k v : Int) (w : World) (hM : Mach w g s rv nx st en re) (hs : s.ok) (hv : isWord v) (hk : isWord k) (hk16 : k < 16) :
    Calls Try.prog 91 #[.pointer (some ⟨g, 0, none⟩), insV 2 jt jf k, .int .u32 v] w fun e w' => e = .returned (.tuple #[]) ∧ Mach w' g { s with m := fun j => if j = k.toNat then s.a else s.m j } rv nx st en re ∧ w.grownBy w' (some g) := by
  have hlt := World.rowIs.lt hM
  have hne : ¬ w.heap.size = g := by omega
  have HM : Hid _ := ((hM.setm k.toNat (by have := hk.1; omega) s.a).alloc (.cells #[.int .u16 2, .int .u8 jt, .int .u8 jf, .int .u32 k] 36)).drew
  have em := hM.cm k.toNat (by have := hk.1; omega)
  have fm := hM.fz (2 + k.toNat)
  have e0 := hM.c0
  have f0 := hM.fz 0
  have e1 := hM.c1
  have f1 := hM.fz 1
  obtain ⟨a, x, m⟩ := s
  obtain ⟨a0, a1⟩ := hs.1
  obtain ⟨x0, x1⟩ := hs.2.1
  obtain ⟨v0, v1⟩ := hv
  obtain ⟨k0, k1⟩ := hk
  simp only at e0 e1 a0 a1 x0 x1
  clear hM hs
  go_enter Try.func91, Try.ntmps91
  refine wp_two ?_
  go_wp2
  refine ⟨rfl, ?_⟩
  go_wp2
  refine ⟨rfl, ?_⟩
  refine wp_switch 3 0 _ ⟨_, by rfl, by rfl⟩ ?_
  conv => arg 2; whnf
  go_wp2
  refine ⟨rfl, ?_⟩
  go_region
  all_goals
    refine ⟨rfl, ?_⟩
    go_end0
    exact ⟨rfl, HM.out, gb_drew (gb_alloc (gb_set (World.grownBy.refl _ _) _ _) _)⟩

set_option maxHeartbeats 1000000 in
set_option maxRecDepth 200000 in
theorem step_3 (g : Nat) (s : S) (rv : Value) (nx st : Int) (en : Bool) (re jt jf k v : Int) (w : World) (hM : Mach w g s rv nx st en re) (hs : s.ok) (hv : isWord v) (hk : isWord k) (hk16 : k < 16) :
    Calls Try.prog 91 #[.pointer (some ⟨g, 0, none⟩), insV 3 jt jf k, .int .u32 v] w fun e w' => e = .returned (.tuple #[]) ∧ Mach w' g { s with m := fun j => if j = k.toNat then s.x else s.m j } rv nx st en re ∧ w.grownBy w' (some g) := by
  have hlt := World.rowIs.lt hM
  have hne : ¬ w.heap.size = g := by omega
  have HM : Hid _ := ((hM.setm k.toNat (by have := hk.1; omega) s.x).alloc (.cells #[.int .u16 3, .int .u8 jt, .int .u8 jf, .int .u32 k] 36)).drew
  have em := hM.cm k.toNat (by have := hk.1; omega)
  have fm := hM.fz (2 + k.toNat)
  have e0 := hM.c0
  have f0 := hM.fz 0
  have e1 := hM.c1
  have f1 := hM.fz 1
  obtain ⟨a, x, m⟩ := s
  obtain ⟨a0, a1⟩ := hs.1
  obtain ⟨x0, x1⟩ := hs.2.1
  obtain ⟨v0, v1⟩ := hv
  obtain ⟨k0, k1⟩ := hk
  simp only at e0 e1 a0 a1 x0 x1
  clear hM hs
  go_enter Try.func91, Try.ntmps91
  refine wp_two ?_
  go_wp2
  refine ⟨rfl, ?_⟩
  go_wp2
  refine ⟨rfl, ?_⟩
  refine wp_switch 4 0 _ ⟨_, by rfl, by rfl⟩ ?_
  conv => arg 2; whnf
  go_wp2
  refine ⟨rfl, ?_⟩
  go_region
  all_goals
    refine ⟨rfl, ?_⟩
    go_end0
    exact ⟨rfl, HM.out, gb_drew (gb_alloc (gb_set (World.grownBy.refl _ _) _ _) _)⟩

set_option maxHeartbeats 1000000 in
set_option maxRecDepth 200000 in
theorem step_5 (g : Nat) (s : S) (rv : Value) (nx st : Int) (en : Bool) (re jt jf k v : Int) (w : World) (hM : Mach w g s rv nx st en re) (hs : s.ok) (hv : isWord v) (hk : isWord k) (hn0 : 0 ≤ nx) (hn1 : nx ≤ 1000000) :
    Calls Try.prog 91 #[.pointer (some ⟨g, 0, none⟩), insV 5 jt jf k, .int .u32 v] w fun e w' => e = .returned (.tuple #[]) ∧ Mach w' g s rv (nx + k) st en re ∧ w.grownBy w' (some g) := by
  have hlt := World.rowIs.lt hM
  have hne : ¬ w.heap.size = g := by omega
  have HM : Hid _ := ((hM.setn (nx + k)).alloc (.cells #[.int .u16 5, .int .u8 jt, .int .u8 jf, .int .u32 k] 36)).drew
  have en' := hM.cn
  have fn' := hM.fz 19
  have e0 := hM.c0
  have f0 := hM.fz 0
  have e1 := hM.c1
  have f1 := hM.fz 1
  obtain ⟨a, x, m⟩ := s
  obtain ⟨a0, a1⟩ := hs.1
  obtain ⟨x0, x1⟩ := hs.2.1
  obtain ⟨v0, v1⟩ := hv
  obtain ⟨k0, k1⟩ := hk
  simp only at e0 e1 a0 a1 x0 x1
  clear hM hs
  go_enter Try.func91, Try.ntmps91
  refine wp_two ?_
  go_wp2
  refine ⟨rfl, ?_⟩
  go_wp2
  refine ⟨rfl, ?_⟩
  refine wp_switch 17 0 _ ⟨_, by rfl, by rfl⟩ ?_
  conv => arg 2; whnf
  go_wp2
  refine ⟨rfl, ?_⟩
  go_region
  all_goals
    refine ⟨rfl, ?_⟩
    go_end0
    exact ⟨rfl, HM.out, gb_drew (gb_alloc (gb_set (World.grownBy.refl _ _) _ _) _)⟩

set_option maxHeartbeats 1000000 in
set_option maxRecDepth 200000 in
theorem step_52 (g : Nat) (s : S) (rv : Value) (nx st : Int) (en : Bool) (re jt jf k v : Int) (w : World) (hM : Mach w g s rv nx st en re) (hs : s.ok) (hv : isWord v) (hk : isWord k) (hv0 : v ≠ 0) :
    Calls Try.prog 91 #[.pointer (some ⟨g, 0, none⟩), insV 52 jt jf k, .int .u32 v] w fun e w' => e = .returned (.tuple #[]) ∧ Mach w' g { s with a := s.a / v } rv nx st en re ∧ w.grownBy w' (some g) := by
  have hlt := World.rowIs.lt hM
  have hne : ¬ w.heap.size = g := by omega
  have HM : Hid (Mach (w.alloc (.cells #[.int .u16 52, .int .u8 jt, .int .u8 jf, .int .u32 k] 36)) g s rv nx st en re) := hM.alloc _
  have e0 := hM.c0
  have f0 := hM.fz 0
  have e1 := hM.c1
  have f1 := hM.fz 1
  obtain ⟨a0, a1⟩ := hs.1
  obtain ⟨x0, x1⟩ := hs.2.1
  obtain ⟨v0, v1⟩ := hv
  obtain ⟨k0, k1⟩ := hk
  skip
  clear hM hs
  go_enter Try.func91, Try.ntmps91
  refine wp_two ?_
  go_wp2
  refine ⟨rfl, ?_⟩
  go_wp2
  refine ⟨rfl, ?_⟩
  refine wp_switch 8 0 _ ⟨_, by rfl, by rfl⟩ ?_
  conv => arg 2; whnf
  go_wp2
  refine ⟨rfl, ?_⟩
  go_wp2_with fail
  refine (divide_some g s rv nx st en re v _ HM.out ⟨a0, a1⟩ ⟨v0, v1⟩ hv0).mono ?_
  rintro e w' ⟨rfl, hM', hG⟩
  go_wp2
  refine ⟨rfl, ?_⟩
  go_end0
  exact ⟨rfl, hM', gb_trans (gb_alloc (World.grownBy.refl _ _) _) hG⟩

set_option maxHeartbeats 1000000 in
set_option maxRecDepth 200000 in
theorem step_60 (g : Nat) (s : S) (rv : Value) (nx st : Int) (en : Bool) (re jt jf k v : Int) (w : World) (hM : Mach w g s rv nx st en re) (hs : s.ok) (hv : isWord v) (hk : isWord k) (hv0 : v ≠ 0) :
    Calls Try.prog 91 #[.pointer (some ⟨g, 0, none⟩), insV 60 jt jf k, .int .u32 v] w fun e w' => e = .returned (.tuple #[]) ∧ Mach w' g { s with a := s.a / v } rv nx st en re ∧ w.grownBy w' (some g) := by
  have hlt := World.rowIs.lt hM
  have hne : ¬ w.heap.size = g := by omega
  have HM : Hid (Mach (w.alloc (.cells #[.int .u16 60, .int .u8 jt, .int .u8 jf, .int .u32 k] 36)) g s rv nx st en re) := hM.alloc _
  have e0 := hM.c0
  have f0 := hM.fz 0
  have e1 := hM.c1
  have f1 := hM.fz 1
  obtain ⟨a0, a1⟩ := hs.1
  obtain ⟨x0, x1⟩ := hs.2.1
  obtain ⟨v0, v1⟩ := hv
  obtain ⟨k0, k1⟩ := hk
  skip
  clear hM hs
  go_enter Try.func91, Try.ntmps91
  refine wp_two ?_
  go_wp2
  refine ⟨rfl, ?_⟩
  go_wp2
  refine ⟨rfl, ?_⟩
  refine wp_switch 8 0 _ ⟨_, by rfl, by rfl⟩ ?_
  conv => arg 2; whnf
  go_wp2
  refine ⟨rfl, ?_⟩
  go_wp2_with fail
  refine (divide_some g s rv nx st en re v _ HM.out ⟨a0, a1⟩ ⟨v0, v1⟩ hv0).mono ?_
  rintro e w' ⟨rfl, hM', hG⟩
  go_wp2
  refine ⟨rfl, ?_⟩
  go_end0
  exact ⟨rfl, hM', gb_trans (gb_alloc (World.grownBy.refl _ _) _) hG⟩

set_option maxHeartbeats 1000000 in
set_option maxRecDepth 200000 in
theorem step_60z (g : Nat) (s : S) (rv : Value) (nx st : Int) (en : Bool) (re jt jf k v : Int) (w : World) (hM : Mach w g s rv nx st en re) (hs : s.ok) (hv : isWord v) (hk : isWord k) (hv0 : v = 0) :
    Calls Try.prog 91 #[.pointer (some ⟨g, 0, none⟩), insV 60 jt jf k, .int .u32 v] w fun e w' => e = .returned (.tuple #[]) ∧ Mach w' g s rv nx st true 2147483648 ∧ w.grownBy w' (some g) := by
  have hlt := World.rowIs.lt hM
  have hne : ¬ w.heap.size = g := by omega
  subst hv0
  have HM : Hid (Mach (w.alloc (.cells #[.int .u16 60, .int .u8 jt, .int .u8 jf, .int .u32 k] 36)) g s rv nx st en re) := hM.alloc _
  have e0 := hM.c0
  have f0 := hM.fz 0
  have e1 := hM.c1
  have f1 := hM.fz 1
  clear hM hs hv hk
  go_enter Try.func91, Try.ntmps91
  refine wp_two ?_
  go_wp2
  refine ⟨rfl, ?_⟩
  go_wp2
  refine ⟨rfl, ?_⟩
  refine wp_switch 8 0 _ ⟨_, by rfl, by rfl⟩ ?_
  conv => arg 2; whnf
  go_wp2
  refine ⟨rfl, ?_⟩
  go_wp2_with fail
  refine (divide_zero g s rv nx st en re _ HM.out).mono ?_
  rintro e w' ⟨rfl, hM', hG⟩
  go_wp2
  refine ⟨rfl, ?_⟩
  go_end0
  exact ⟨rfl, hM', gb_trans (gb_alloc (World.grownBy.refl _ _) _) hG⟩

set_option maxHeartbeats 1000000 in
set_option maxRecDepth 200000 in
theorem step_6 (g : Nat) (s : S) (rv : Value) (nx st : Int) (en : Bool) (re jt jf k v : Int) (w : World) (hM : Mach w g s rv nx st en re) (hs : s.ok) (hv : isWord v) (hk : isWord k)  :
    Calls Try.prog 91 #[.pointer (some ⟨g, 0, none⟩), insV 6 jt jf k, .int .u32 v] w fun e w' => e = .returned (.tuple #[]) ∧ Mach w' g s rv nx st true k ∧ w.grownBy w' (some g) := by
  have hlt := World.rowIs.lt hM
  have hne : ¬ w.heap.size = g := by omega
  have HM : Hid (Mach (w.alloc (.cells #[.int .u16 6, .int .u8 jt, .int .u8 jf, .int .u32 k] 36)) g s rv nx st en re) := hM.alloc _
  have e0 := hM.c0
  have f0 := hM.fz 0
  have e1 := hM.c1
  have f1 := hM.fz 1
  obtain ⟨a0, a1⟩ := hs.1
  obtain ⟨x0, x1⟩ := hs.2.1
  obtain ⟨v0, v1⟩ := hv
  obtain ⟨k0, k1⟩ := hk
  skip
  clear hM hs
  go_enter Try.func91, Try.ntmps91
  refine wp_two ?_
  go_wp2
  refine ⟨rfl, ?_⟩
  go_wp2
  refine ⟨rfl, ?_⟩
  refine wp_switch 26 0 _ ⟨_, by rfl, by rfl⟩ ?_
  conv => arg 2; whnf
  go_wp2
  refine ⟨rfl, ?_⟩
  go_wp2_with fail
  refine (end_any g s rv nx st en re k _ HM.out).mono ?_
  rintro e w' ⟨rfl, hM', hG⟩
  go_wp2
  refine ⟨rfl, ?_⟩
  go_end0
  exact ⟨rfl, hM', gb_trans (gb_alloc (World.grownBy.refl _ _) _) hG⟩

set_option maxHeartbeats 1000000 in
set_option maxRecDepth 200000 in
theorem step_22 (g : Nat) (s : S) (rv : Value) (nx st : Int) (en : Bool) (re jt jf k v : Int) (w : World) (hM : Mach w g s rv nx st en re) (hs : s.ok) (hv : isWord v) (hk : isWord k)  :
    Calls Try.prog 91 #[.pointer (some ⟨g, 0, none⟩), insV 22 jt jf k, .int .u32 v] w fun e w' => e = .returned (.tuple #[]) ∧ Mach w' g s rv nx st true s.a ∧ w.grownBy w' (some g) := by
  have hlt := World.rowIs.lt hM
  have hne : ¬ w.heap.size = g := by omega
  have HM : Hid (Mach (w.alloc (.cells #[.int .u16 22, .int .u8 jt, .int .u8 jf, .int .u32 k] 36)) g s rv nx st en re) := hM.alloc _
  have e0 := hM.c0
  have f0 := hM.fz 0
  have e1 := hM.c1
  have f1 := hM.fz 1
  obtain ⟨a0, a1⟩ := hs.1
  obtain ⟨x0, x1⟩ := hs.2.1
  obtain ⟨v0, v1⟩ := hv
  obtain ⟨k0, k1⟩ := hk
  skip
  clear hM hs
  go_enter Try.func91, Try.ntmps91
  refine wp_two ?_
  go_wp2
  refine ⟨rfl, ?_⟩
  go_wp2
  refine ⟨rfl, ?_⟩
  refine wp_switch 27 0 _ ⟨_, by rfl, by rfl⟩ ?_
  conv => arg 2; whnf
  go_wp2
  refine ⟨rfl, ?_⟩
  go_wp2_with fail
  refine (end_any g s rv nx st en re s.a _ HM.out).mono ?_
  rintro e w' ⟨rfl, hM', hG⟩
  go_wp2
  refine ⟨rfl, ?_⟩
  go_end0
  exact ⟨rfl, hM', gb_trans (gb_alloc (World.grownBy.refl _ _) _) hG⟩

end Go.Proofs.Ytjfgihmamoiipaa
