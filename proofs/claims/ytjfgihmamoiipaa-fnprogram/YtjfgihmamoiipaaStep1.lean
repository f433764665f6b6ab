/-
  THE MACHINE's STEP, a theorem a code. (Written by a script of our own, wip/gen/stepg.py.)
-/
import Derived.Test.YtjfgihmamoiipaaSwitch
import Derived.Deep.RegionWith
import Derived.Deep.DrawnRows
namespace Go.Proofs.Ytjfgihmamoiipaa
open Go.RowKit
set_option linter.unusedVariables false
attribute [local go_sem ↓] Go.wp_at_zero Go.wp_at_succ

set_option maxHeartbeats 1000000 in
set_option maxRecDepth 200000 in
theorem step_0 (g : Nat) (s : S) (rv : Value) (nx st : Int) (en : Bool) (re jt jf k v : Int) (w : World) (hM : Mach w g s rv nx st en re) (hs : s.ok) (hv : isWord v) (hk : isWord k)  :
    Calls Try.prog 91 #[.pointer (some ⟨g, 0, none⟩), insV 0 jt jf k, .int .u32 v] w fun e w' => e = .returned (.tuple #[]) ∧ Mach w' g { s with a := v } rv nx st en re ∧ w.grownBy w' (some g) := by
  have hlt := World.rowIs.lt hM
  have hne : ¬ w.heap.size = g := by omega
  have HM : Hid _ := (hM.seta v).alloc (.cells #[.int .u16 0, .int .u8 jt, .int .u8 jf, .int .u32 k] 36)
  have e0 := hM.c0
  have f0 := hM.fz 0
  have e1 := hM.c1
  have f1 := hM.fz 1
  obtain ⟨a, x, m⟩ := s
  obtain ⟨a0, a1⟩ := hs.1
  obtain ⟨x0, x1⟩ := hs.2.1
  obtain ⟨v0, v1⟩ := hv
  obtain ⟨k0, k1⟩ := hk
  simp only at e0 e1 a0 a1 x0 x1
  clear hM hs
  go_enter Try.func91, Try.ntmps91
  refine wp_two ?_
  go_wp2
  refine ⟨rfl, ?_⟩
  go_wp2
  refine ⟨rfl, ?_⟩
  refine wp_switch 1 0 _ ⟨_, by rfl, by rfl⟩ ?_
  conv => arg 2; whnf
  go_wp2
  refine ⟨rfl, ?_⟩
  go_wp2
  refine ⟨rfl, ?_⟩
  go_end0
  exact ⟨rfl, HM.out, gb_alloc (gb_set (World.grownBy.refl _ _) _ _) _⟩

set_option maxHeartbeats 1000000 in
set_option maxRecDepth 200000 in
theorem step_32 (g : Nat) (s : S) (rv : Value) (nx st : Int) (en : Bool) (re jt jf k v : Int) (w : World) (hM : Mach w g s rv nx st en re) (hs : s.ok) (hv : isWord v) (hk : isWord k)  :
    Calls Try.prog 91 #[.pointer (some ⟨g, 0, none⟩), insV 32 jt jf k, .int .u32 v] w fun e w' => e = .returned (.tuple #[]) ∧ Mach w' g { s with a := v } rv nx st en re ∧ w.grownBy w' (some g) := by
  have hlt := World.rowIs.lt hM
  have hne : ¬ w.heap.size = g := by omega
  have HM : Hid _ := (hM.seta v).alloc (.cells #[.int .u16 32, .int .u8 jt, .int .u8 jf, .int .u32 k] 36)
  have e0 := hM.c0
  have f0 := hM.fz 0
  have e1 := hM.c1
  have f1 := hM.fz 1
  obtain ⟨a, x, m⟩ := s
  obtain ⟨a0, a1⟩ := hs.1
  obtain ⟨x0, x1⟩ := hs.2.1
  obtain ⟨v0, v1⟩ := hv
  obtain ⟨k0, k1⟩ := hk
  simp only at e0 e1 a0 a1 x0 x1
  clear hM hs
  go_enter Try.func91, Try.ntmps91
  refine wp_two ?_
  go_wp2
  refine ⟨rfl, ?_⟩
  go_wp2
  refine ⟨rfl, ?_⟩
  refine wp_switch 1 0 _ ⟨_, by rfl, by rfl⟩ ?_
  conv => arg 2; whnf
  go_wp2
  refine ⟨rfl, ?_⟩
  go_wp2
  refine ⟨rfl, ?_⟩
  go_end0
  exact ⟨rfl, HM.out, gb_alloc (gb_set (World.grownBy.refl _ _) _ _) _⟩

set_option maxHeartbeats 1000000 in
set_option maxRecDepth 200000 in
theorem step_96 (g : Nat) (s : S) (rv : Value) (nx st : Int) (en : Bool) (re jt jf k v : Int) (w : World) (hM : Mach w g s rv nx st en re) (hs : s.ok) (hv : isWord v) (hk : isWord k)  :
    Calls Try.prog 91 #[.pointer (some ⟨g, 0, none⟩), insV 96 jt jf k, .int .u32 v] w fun e w' => e = .returned (.tuple #[]) ∧ Mach w' g { s with a := v } rv nx st en re ∧ w.grownBy w' (some g) := by
  have hlt := World.rowIs.lt hM
  have hne : ¬ w.heap.size = g := by omega
  have HM : Hid _ := (hM.seta v).alloc (.cells #[.int .u16 96, .int .u8 jt, .int .u8 jf, .int .u32 k] 36)
  have e0 := hM.c0
  have f0 := hM.fz 0
  have e1 := hM.c1
  have f1 := hM.fz 1
  obtain ⟨a, x, m⟩ := s
  obtain ⟨a0, a1⟩ := hs.1
  obtain ⟨x0, x1⟩ := hs.2.1
  obtain ⟨v0, v1⟩ := hv
  obtain ⟨k0, k1⟩ := hk
  simp only at e0 e1 a0 a1 x0 x1
  clear hM hs
  go_enter Try.func91, Try.ntmps91
  refine wp_two ?_
  go_wp2
  refine ⟨rfl, ?_⟩
  go_wp2
  refine ⟨rfl, ?_⟩
  refine wp_switch 1 0 _ ⟨_, by rfl, by rfl⟩ ?_
  conv => arg 2; whnf
  go_wp2
  refine ⟨rfl, ?_⟩
  go_wp2
  refine ⟨rfl, ?_⟩
  go_end0
  exact ⟨rfl, HM.out, gb_alloc (gb_set (World.grownBy.refl _ _) _ _) _⟩

set_option maxHeartbeats 1000000 in
set_option maxRecDepth 200000 in
theorem step_1 (g : Nat) (s : S) (rv : Value) (nx st : Int) (en : Bool) (re jt jf k v : Int) (w : World) (hM : Mach w g s rv nx st en re) (hs : s.ok) (hv : isWord v) (hk : isWord k)  :
    Calls Try.prog 91 #[.pointer (some ⟨g, 0, none⟩), insV 1 jt jf k, .int .u32 v] w fun e w' => e = .returned (.tuple #[]) ∧ Mach w' g { s with x := v } rv nx st en re ∧ w.grownBy w' (some g) := by
  have hlt := World.rowIs.lt hM
  have hne : ¬ w.heap.size = g := by omega
  have HM : Hid _ := (hM.setx v).alloc (.cells #[.int .u16 1, .int .u8 jt, .int .u8 jf, .int .u32 k] 36)
  have e0 := hM.c0
  have f0 := hM.fz 0
  have e1 := hM.c1
  have f1 := hM.fz 1
  obtain ⟨a, x, m⟩ := s
  obtain ⟨a0, a1⟩ := hs.1
  obtain ⟨x0, x1⟩ := hs.2.1
  obtain ⟨v0, v1⟩ := hv
  obtain ⟨k0, k1⟩ := hk
  simp only at e0 e1 a0 a1 x0 x1
  clear hM hs
  go_enter Try.func91, Try.ntmps91
  refine wp_two ?_
  go_wp2
  refine ⟨rfl, ?_⟩
  go_wp2
  refine ⟨rfl, ?_⟩
  refine wp_switch 2 0 _ ⟨_, by rfl, by rfl⟩ ?_
  conv => arg 2; whnf
  go_wp2
  refine ⟨rfl, ?_⟩
  go_wp2
  refine ⟨rfl, ?_⟩
  go_end0
  exact ⟨rfl, HM.out, gb_alloc (gb_set (World.grownBy.refl _ _) _ _) _⟩

set_option maxHeartbeats 1000000 in
set_option maxRecDepth 200000 in
theorem step_97 (g : Nat) (s : S) (rv : Value) (nx st : Int) (en : Bool) (re jt jf k v : Int) (w : World) (hM : Mach w g s rv nx st en re) (hs : s.ok) (hv : isWord v) (hk : isWord k)  :
    Calls Try.prog 91 #[.pointer (some ⟨g, 0, none⟩), insV 97 jt jf k, .int .u32 v] w fun e w' => e = .returned (.tuple #[]) ∧ Mach w' g { s with x := v } rv nx st en re ∧ w.grownBy w' (some g) := by
  have hlt := World.rowIs.lt hM
  have hne : ¬ w.heap.size = g := by omega
  have HM : Hid _ := (hM.setx v).alloc (.cells #[.int .u16 97, .int .u8 jt, .int .u8 jf, .int .u32 k] 36)
  have e0 := hM.c0
  have f0 := hM.fz 0
  have e1 := hM.c1
  have f1 := hM.fz 1
  obtain ⟨a, x, m⟩ := s
  obtain ⟨a0, a1⟩ := hs.1
  obtain ⟨x0, x1⟩ := hs.2.1
  obtain ⟨v0, v1⟩ := hv
  obtain ⟨k0, k1⟩ := hk
  simp only at e0 e1 a0 a1 x0 x1
  clear hM hs
  go_enter Try.func91, Try.ntmps91
  refine wp_two ?_
  go_wp2
  refine ⟨rfl, ?_⟩
  go_wp2
  refine ⟨rfl, ?_⟩
  refine wp_switch 2 0 _ ⟨_, by rfl, by rfl⟩ ?_
  conv => arg 2; whnf
  go_wp2
  refine ⟨rfl, ?_⟩
  go_wp2
  refine ⟨rfl, ?_⟩
  go_end0
  exact ⟨rfl, HM.out, gb_alloc (gb_set (World.grownBy.refl _ _) _ _) _⟩

set_option maxHeartbeats 1000000 in
set_option maxRecDepth 200000 in
theorem step_7 (g : Nat) (s : S) (rv : Value) (nx st : Int) (en : Bool) (re jt jf k v : Int) (w : World) (hM : Mach w g s rv nx st en re) (hs : s.ok) (hv : isWord v) (hk : isWord k)  :
    Calls Try.prog 91 #[.pointer (some ⟨g, 0, none⟩), insV 7 jt jf k, .int .u32 v] w fun e w' => e = .returned (.tuple #[]) ∧ Mach w' g { s with x := s.a } rv nx st en re ∧ w.grownBy w' (some g) := by
  have hlt := World.rowIs.lt hM
  have hne : ¬ w.heap.size = g := by omega
  have HM : Hid _ := (hM.setx s.a).alloc (.cells #[.int .u16 7, .int .u8 jt, .int .u8 jf, .int .u32 k] 36)
  have e0 := hM.c0
  have f0 := hM.fz 0
  have e1 := hM.c1
  have f1 := hM.fz 1
  obtain ⟨a, x, m⟩ := s
  obtain ⟨a0, a1⟩ := hs.1
  obtain ⟨x0, x1⟩ := hs.2.1
  obtain ⟨v0, v1⟩ := hv
  obtain ⟨k0, k1⟩ := hk
  simp only at e0 e1 a0 a1 x0 x1
  clear hM hs
  go_enter Try.func91, Try.ntmps91
  refine wp_two ?_
  go_wp2
  refine ⟨rfl, ?_⟩
  go_wp2
  refine ⟨rfl, ?_⟩
  refine wp_switch 15 0 _ ⟨_, by rfl, by rfl⟩ ?_
  conv => arg 2; whnf
  go_wp2
  refine ⟨rfl, ?_⟩
  go_wp2
  refine ⟨rfl, ?_⟩
  go_end0
  exact ⟨rfl, HM.out, gb_alloc (gb_set (World.grownBy.refl _ _) _ _) _⟩

set_option maxHeartbeats 1000000 in
set_option maxRecDepth 200000 in
theorem step_135 (g : Nat) (s : S) (rv : Value) (nx st : Int) (en : Bool) (re jt jf k v : Int) (w : World) (hM : Mach w g s rv nx st en re) (hs : s.ok) (hv : isWord v) (hk : isWord k)  :
    Calls Try.prog 91 #[.pointer (some ⟨g, 0, none⟩), insV 135 jt jf k, .int .u32 v] w fun e w' => e = .returned (.tuple #[]) ∧ Mach w' g { s with a := s.x } rv nx st en re ∧ w.grownBy w' (some g) := by
  have hlt := World.rowIs.lt hM
  have hne : ¬ w.heap.size = g := by omega
  have HM : Hid _ := (hM.seta s.x).alloc (.cells #[.int .u16 135, .int .u8 jt, .int .u8 jf, .int .u32 k] 36)
  have e0 := hM.c0
  have f0 := hM.fz 0
  have e1 := hM.c1
  have f1 := hM.fz 1
  obtain ⟨a, x, m⟩ := s
  obtain ⟨a0, a1⟩ := hs.1
  obtain ⟨x0, x1⟩ := hs.2.1
  obtain ⟨v0, v1⟩ := hv
  obtain ⟨k0, k1⟩ := hk
  simp only at e0 e1 a0 a1 x0 x1
  clear hM hs
  go_enter Try.func91, Try.ntmps91
  refine wp_two ?_
  go_wp2
  refine ⟨rfl, ?_⟩
  go_wp2
  refine ⟨rfl, ?_⟩
  refine wp_switch 16 0 _ ⟨_, by rfl, by rfl⟩ ?_
  conv => arg 2; whnf
  go_wp2
  refine ⟨rfl, ?_⟩
  go_wp2
  refine ⟨rfl, ?_⟩
  go_end0
  exact ⟨rfl, HM.out, gb_alloc (gb_set (World.grownBy.refl _ _) _ _) _⟩

set_option maxHeartbeats 1000000 in
set_option maxRecDepth 200000 in
theorem step_4 (g : Nat) (s : S) (rv : Value) (nx st : Int) (en : Bool) (re jt jf k v : Int) (w : World) (hM : Mach w g s rv nx st en re) (hs : s.ok) (hv : isWord v) (hk : isWord k)  :
    Calls Try.prog 91 #[.pointer (some ⟨g, 0, none⟩), insV 4 jt jf k, .int .u32 v] w fun e w' => e = .returned (.tuple #[]) ∧ Mach w' g { s with a := (s.a + v) % 4294967296 } rv nx st en re ∧ w.grownBy w' (some g) := by
  have hlt := World.rowIs.lt hM
  have hne : ¬ w.heap.size = g := by omega
  have HM : Hid _ := (hM.seta ((s.a + v) % 4294967296)).alloc (.cells #[.int .u16 4, .int .u8 jt, .int .u8 jf, .int .u32 k] 36)
  have e0 := hM.c0
  have f0 := hM.fz 0
  have e1 := hM.c1
  have f1 := hM.fz 1
  obtain ⟨a, x, m⟩ := s
  obtain ⟨a0, a1⟩ := hs.1
  obtain ⟨x0, x1⟩ := hs.2.1
  obtain ⟨v0, v1⟩ := hv
  obtain ⟨k0, k1⟩ := hk
  simp only at e0 e1 a0 a1 x0 x1
  clear hM hs
  go_enter Try.func91, Try.ntmps91
  refine wp_two ?_
  go_wp2
  refine ⟨rfl, ?_⟩
  go_wp2
  refine ⟨rfl, ?_⟩
  refine wp_switch 5 0 _ ⟨_, by rfl, by rfl⟩ ?_
  conv => arg 2; whnf
  go_wp2
  refine ⟨rfl, ?_⟩
  go_wp2
  refine ⟨rfl, ?_⟩
  go_end0
  exact ⟨rfl, HM.out, gb_alloc (gb_set (World.grownBy.refl _ _) _ _) _⟩

set_option maxHeartbeats 1000000 in
set_option maxRecDepth 200000 in
theorem step_12 (g : Nat) (s : S) (rv : Value) (nx st : Int) (en : Bool) (re jt jf k v : Int) (w : World) (hM : Mach w g s rv nx st en re) (hs : s.ok) (hv : isWord v) (hk : isWord k)  :
    Calls Try.prog 91 #[.pointer (some ⟨g, 0, none⟩), insV 12 jt jf k, .int .u32 v] w fun e w' => e = .returned (.tuple #[]) ∧ Mach w' g { s with a := (s.a + v) % 4294967296 } rv nx st en re ∧ w.grownBy w' (some g) := by
  have hlt := World.rowIs.lt hM
  have hne : ¬ w.heap.size = g := by omega
  have HM : Hid _ := (hM.seta ((s.a + v) % 4294967296)).alloc (.cells #[.int .u16 12, .int .u8 jt, .int .u8 jf, .int .u32 k] 36)
  have e0 := hM.c0
  have f0 := hM.fz 0
  have e1 := hM.c1
  have f1 := hM.fz 1
  obtain ⟨a, x, m⟩ := s
  obtain ⟨a0, a1⟩ := hs.1
  obtain ⟨x0, x1⟩ := hs.2.1
  obtain ⟨v0, v1⟩ := hv
  obtain ⟨k0, k1⟩ := hk
  simp only at e0 e1 a0 a1 x0 x1
  clear hM hs
  go_enter Try.func91, Try.ntmps91
  refine wp_two ?_
  go_wp2
  refine ⟨rfl, ?_⟩
  go_wp2
  refine ⟨rfl, ?_⟩
  refine wp_switch 5 0 _ ⟨_, by rfl, by rfl⟩ ?_
  conv => arg 2; whnf
  go_wp2
  refine ⟨rfl, ?_⟩
  go_wp2
  refine ⟨rfl, ?_⟩
  go_end0
  exact ⟨rfl, HM.out, gb_alloc (gb_set (World.grownBy.refl _ _) _ _) _⟩

set_option maxHeartbeats 1000000 in
set_option maxRecDepth 200000 in
theorem step_20 (g : Nat) (s : S) (rv : Value) (nx st : Int) (en : Bool) (re jt jf k v : Int) (w : World) (hM : Mach w g s rv nx st en re) (hs : s.ok) (hv : isWord v) (hk : isWord k)  :
    Calls Try.prog 91 #[.pointer (some ⟨g, 0, none⟩), insV 20 jt jf k, .int .u32 v] w fun e w' => e = .returned (.tuple #[]) ∧ Mach w' g { s with a := (s.a - v) % 4294967296 } rv nx st en re ∧ w.grownBy w' (some g) := by
  have hlt := World.rowIs.lt hM
  have hne : ¬ w.heap.size = g := by omega
  have HM : Hid _ := (hM.seta ((s.a - v) % 4294967296)).alloc (.cells #[.int .u16 20, .int .u8 jt, .int .u8 jf, .int .u32 k] 36)
  have e0 := hM.c0
  have f0 := hM.fz 0
  have e1 := hM.c1
  have f1 := hM.fz 1
  obtain ⟨a, x, m⟩ := s
  obtain ⟨a0, a1⟩ := hs.1
  obtain ⟨x0, x1⟩ := hs.2.1
  obtain ⟨v0, v1⟩ := hv
  obtain ⟨k0, k1⟩ := hk
  simp only at e0 e1 a0 a1 x0 x1
  clear hM hs
  go_enter Try.func91, Try.ntmps91
  refine wp_two ?_
  go_wp2
  refine ⟨rfl, ?_⟩
  go_wp2
  refine ⟨rfl, ?_⟩
  refine wp_switch 6 0 _ ⟨_, by rfl, by rfl⟩ ?_
  conv => arg 2; whnf
  go_wp2
  refine ⟨rfl, ?_⟩
  go_wp2
  refine ⟨rfl, ?_⟩
  go_end0
  exact ⟨rfl, HM.out, gb_alloc (gb_set (World.grownBy.refl _ _) _ _) _⟩

set_option maxHeartbeats 1000000 in
set_option maxRecDepth 200000 in
theorem step_28 (g : Nat) (s : S) (rv : Value) (nx st : Int) (en : Bool) (re jt jf k v : Int) (w : World) (hM : Mach w g s rv nx st en re) (hs : s.ok) (hv : isWord v) (hk : isWord k)  :
    Calls Try.prog 91 #[.pointer (some ⟨g, 0, none⟩), insV 28 jt jf k, .int .u32 v] w fun e w' => e = .returned (.tuple #[]) ∧ Mach w' g { s with a := (s.a - v) % 4294967296 } rv nx st en re ∧ w.grownBy w' (some g) := by
  have hlt := World.rowIs.lt hM
  have hne : ¬ w.heap.size = g := by omega
  have HM : Hid _ := (hM.seta ((s.a - v) % 4294967296)).alloc (.cells #[.int .u16 28, .int .u8 jt, .int .u8 jf, .int .u32 k] 36)
  have e0 := hM.c0
  have f0 := hM.fz 0
  have e1 := hM.c1
  have f1 := hM.fz 1
  obtain ⟨a, x, m⟩ := s
  obtain ⟨a0, a1⟩ := hs.1
  obtain ⟨x0, x1⟩ := hs.2.1
  obtain ⟨v0, v1⟩ := hv
  obtain ⟨k0, k1⟩ := hk
  simp only at e0 e1 a0 a1 x0 x1
  clear hM hs
  go_enter Try.func91, Try.ntmps91
  refine wp_two ?_
  go_wp2
  refine ⟨rfl, ?_⟩
  go_wp2
  refine ⟨rfl, ?_⟩
  refine wp_switch 6 0 _ ⟨_, by rfl, by rfl⟩ ?_
  conv => arg 2; whnf
  go_wp2
  refine ⟨rfl, ?_⟩
  go_wp2
  refine ⟨rfl, ?_⟩
  go_end0
  exact ⟨rfl, HM.out, gb_alloc (gb_set (World.grownBy.refl _ _) _ _) _⟩

set_option maxHeartbeats 1000000 in
set_option maxRecDepth 200000 in
theorem step_36 (g : Nat) (s : S) (rv : Value) (nx st : Int) (en : Bool) (re jt jf k v : Int) (w : World) (hM : Mach w g s rv nx st en re) (hs : s.ok) (hv : isWord v) (hk : isWord k)  :
    Calls Try.prog 91 #[.pointer (some ⟨g, 0, none⟩), insV 36 jt jf k, .int .u32 v] w fun e w' => e = .returned (.tuple #[]) ∧ Mach w' g { s with a := s.a * v % 4294967296 } rv nx st en re ∧ w.grownBy w' (some g) := by
  have hlt := World.rowIs.lt hM
  have hne : ¬ w.heap.size = g := by omega
  have HM : Hid _ := (hM.seta (s.a * v % 4294967296)).alloc (.cells #[.int .u16 36, .int .u8 jt, .int .u8 jf, .int .u32 k] 36)
  have e0 := hM.c0
  have f0 := hM.fz 0
  have e1 := hM.c1
  have f1 := hM.fz 1
  obtain ⟨a, x, m⟩ := s
  obtain ⟨a0, a1⟩ := hs.1
  obtain ⟨x0, x1⟩ := hs.2.1
  obtain ⟨v0, v1⟩ := hv
  obtain ⟨k0, k1⟩ := hk
  simp only at e0 e1 a0 a1 x0 x1
  clear hM hs
  go_enter Try.func91, Try.ntmps91
  refine wp_two ?_
  go_wp2
  refine ⟨rfl, ?_⟩
  go_wp2
  refine ⟨rfl, ?_⟩
  refine wp_switch 7 0 _ ⟨_, by rfl, by rfl⟩ ?_
  conv => arg 2; whnf
  go_wp2
  refine ⟨rfl, ?_⟩
  go_wp2
  refine ⟨rfl, ?_⟩
  go_end0
  exact ⟨rfl, HM.out, gb_alloc (gb_set (World.grownBy.refl _ _) _ _) _⟩

set_option maxHeartbeats 1000000 in
set_option maxRecDepth 200000 in
theorem step_44 (g : Nat) (s : S) (rv : Value) (nx st : Int) (en : Bool) (re jt jf k v : Int) (w : World) (hM : Mach w g s rv nx st en re) (hs : s.ok) (hv : isWord v) (hk : isWord k)  :
    Calls Try.prog 91 #[.pointer (some ⟨g, 0, none⟩), insV 44 jt jf k, .int .u32 v] w fun e w' => e = .returned (.tuple #[]) ∧ Mach w' g { s with a := s.a * v % 4294967296 } rv nx st en re ∧ w.grownBy w' (some g) := by
  have hlt := World.rowIs.lt hM
  have hne : ¬ w.heap.size = g := by omega
  have HM : Hid _ := (hM.seta (s.a * v % 4294967296)).alloc (.cells #[.int .u16 44, .int .u8 jt, .int .u8 jf, .int .u32 k] 36)
  have e0 := hM.c0
  have f0 := hM.fz 0
  have e1 := hM.c1
  have f1 := hM.fz 1
  obtain ⟨a, x, m⟩ := s
  obtain ⟨a0, a1⟩ := hs.1
  obtain ⟨x0, x1⟩ := hs.2.1
  obtain ⟨v0, v1⟩ := hv
  obtain ⟨k0, k1⟩ := hk
  simp only at e0 e1 a0 a1 x0 x1
  clear hM hs
  go_enter Try.func91, Try.ntmps91
  refine wp_two ?_
  go_wp2
  refine ⟨rfl, ?_⟩
  go_wp2
  refine ⟨rfl, ?_⟩
  refine wp_switch 7 0 _ ⟨_, by rfl, by rfl⟩ ?_
  conv => arg 2; whnf
  go_wp2
  refine ⟨rfl, ?_⟩
  go_wp2
  refine ⟨rfl, ?_⟩
  go_end0
  exact ⟨rfl, HM.out, gb_alloc (gb_set (World.grownBy.refl _ _) _ _) _⟩

set_option maxHeartbeats 1000000 in
set_option maxRecDepth 200000 in
theorem step_68 (g : Nat) (s : S) (rv : Value) (nx st : Int) (en : Bool) (re jt jf k v : Int) (w : World) (hM : Mach w g s rv nx st en re) (hs : s.ok) (hv : isWord v) (hk : isWord k)  :
    Calls Try.prog 91 #[.pointer (some ⟨g, 0, none⟩), insV 68 jt jf k, .int .u32 v] w fun e w' => e = .returned (.tuple #[]) ∧ Mach w' g { s with a := bits .or .u32 s.a v } rv nx st en re ∧ w.grownBy w' (some g) := by
  have hlt := World.rowIs.lt hM
  have hne : ¬ w.heap.size = g := by omega
  have HM : Hid _ := (hM.seta (bits .or .u32 s.a v)).alloc (.cells #[.int .u16 68, .int .u8 jt, .int .u8 jf, .int .u32 k] 36)
  have e0 := hM.c0
  have f0 := hM.fz 0
  have e1 := hM.c1
  have f1 := hM.fz 1
  obtain ⟨a, x, m⟩ := s
  obtain ⟨a0, a1⟩ := hs.1
  obtain ⟨x0, x1⟩ := hs.2.1
  obtain ⟨v0, v1⟩ := hv
  obtain ⟨k0, k1⟩ := hk
  simp only at e0 e1 a0 a1 x0 x1
  clear hM hs
  go_enter Try.func91, Try.ntmps91
  refine wp_two ?_
  go_wp2
  refine ⟨rfl, ?_⟩
  go_wp2
  refine ⟨rfl, ?_⟩
  refine wp_switch 9 0 _ ⟨_, by rfl, by rfl⟩ ?_
  conv => arg 2; whnf
  go_wp2
  refine ⟨rfl, ?_⟩
  go_wp2
  refine ⟨rfl, ?_⟩
  go_end0
  exact ⟨rfl, HM.out, gb_alloc (gb_set (World.grownBy.refl _ _) _ _) _⟩

set_option maxHeartbeats 1000000 in
set_option maxRecDepth 200000 in
theorem step_76 (g : Nat) (s : S) (rv : Value) (nx st : Int) (en : Bool) (re jt jf k v : Int) (w : World) (hM : Mach w g s rv nx st en re) (hs : s.ok) (hv : isWord v) (hk : isWord k)  :
    Calls Try.prog 91 #[.pointer (some ⟨g, 0, none⟩), insV 76 jt jf k, .int .u32 v] w fun e w' => e = .returned (.tuple #[]) ∧ Mach w' g { s with a := bits .or .u32 s.a v } rv nx st en re ∧ w.grownBy w' (some g) := by
  have hlt := World.rowIs.lt hM
  have hne : ¬ w.heap.size = g := by omega
  have HM : Hid _ := (hM.seta (bits .or .u32 s.a v)).alloc (.cells #[.int .u16 76, .int .u8 jt, .int .u8 jf, .int .u32 k] 36)
  have e0 := hM.c0
  have f0 := hM.fz 0
  have e1 := hM.c1
  have f1 := hM.fz 1
  obtain ⟨a, x, m⟩ := s
  obtain ⟨a0, a1⟩ := hs.1
  obtain ⟨x0, x1⟩ := hs.2.1
  obtain ⟨v0, v1⟩ := hv
  obtain ⟨k0, k1⟩ := hk
  simp only at e0 e1 a0 a1 x0 x1
  clear hM hs
  go_enter Try.func91, Try.ntmps91
  refine wp_two ?_
  go_wp2
  refine ⟨rfl, ?_⟩
  go_wp2
  refine ⟨rfl, ?_⟩
  refine wp_switch 9 0 _ ⟨_, by rfl, by rfl⟩ ?_
  conv => arg 2; whnf
  go_wp2
  refine ⟨rfl, ?_⟩
  go_wp2
  refine ⟨rfl, ?_⟩
  go_end0
  exact ⟨rfl, HM.out, gb_alloc (gb_set (World.grownBy.refl _ _) _ _) _⟩

set_option maxHeartbeats 1000000 in
set_option maxRecDepth 200000 in
theorem step_84 (g : Nat) (s : S) (rv : Value) (nx st : Int) (en : Bool) (re jt jf k v : Int) (w : World) (hM : Mach w g s rv nx st en re) (hs : s.ok) (hv : isWord v) (hk : isWord k)  :
    Calls Try.prog 91 #[.pointer (some ⟨g, 0, none⟩), insV 84 jt jf k, .int .u32 v] w fun e w' => e = .returned (.tuple #[]) ∧ Mach w' g { s with a := bits .and .u32 s.a v } rv nx st en re ∧ w.grownBy w' (some g) := by
  have hlt := World.rowIs.lt hM
  have hne : ¬ w.heap.size = g := by omega
  have HM : Hid _ := (hM.seta (bits .and .u32 s.a v)).alloc (.cells #[.int .u16 84, .int .u8 jt, .int .u8 jf, .int .u32 k] 36)
  have e0 := hM.c0
  have f0 := hM.fz 0
  have e1 := hM.c1
  have f1 := hM.fz 1
  obtain ⟨a, x, m⟩ := s
  obtain ⟨a0, a1⟩ := hs.1
  obtain ⟨x0, x1⟩ := hs.2.1
  obtain ⟨v0, v1⟩ := hv
  obtain ⟨k0, k1⟩ := hk
  simp only at e0 e1 a0 a1 x0 x1
  clear hM hs
  go_enter Try.func91, Try.ntmps91
  refine wp_two ?_
  go_wp2
  refine ⟨rfl, ?_⟩
  go_wp2
  refine ⟨rfl, ?_⟩
  refine wp_switch 10 0 _ ⟨_, by rfl, by rfl⟩ ?_
  conv => arg 2; whnf
  go_wp2
  refine ⟨rfl, ?_⟩
  go_wp2
  refine ⟨rfl, ?_⟩
  go_end0
  exact ⟨rfl, HM.out, gb_alloc (gb_set (World.grownBy.refl _ _) _ _) _⟩

set_option maxHeartbeats 1000000 in
set_option maxRecDepth 200000 in
theorem step_92 (g : Nat) (s : S) (rv : Value) (nx st : Int) (en : Bool) (re jt jf k v : Int) (w : World) (hM : Mach w g s rv nx st en re) (hs : s.ok) (hv : isWord v) (hk : isWord k)  :
    Calls Try.prog 91 #[.pointer (some ⟨g, 0, none⟩), insV 92 jt jf k, .int .u32 v] w fun e w' => e = .returned (.tuple #[]) ∧ Mach w' g { s with a := bits .and .u32 s.a v } rv nx st en re ∧ w.grownBy w' (some g) := by
  have hlt := World.rowIs.lt hM
  have hne : ¬ w.heap.size = g := by omega
  have HM : Hid _ := (hM.seta (bits .and .u32 s.a v)).alloc (.cells #[.int .u16 92, .int .u8 jt, .int .u8 jf, .int .u32 k] 36)
  have e0 := hM.c0
  have f0 := hM.fz 0
  have e1 := hM.c1
  have f1 := hM.fz 1
  obtain ⟨a, x, m⟩ := s
  obtain ⟨a0, a1⟩ := hs.1
  obtain ⟨x0, x1⟩ := hs.2.1
  obtain ⟨v0, v1⟩ := hv
  obtain ⟨k0, k1⟩ := hk
  simp only at e0 e1 a0 a1 x0 x1
  clear hM hs
  go_enter Try.func91, Try.ntmps91
  refine wp_two ?_
  go_wp2
  refine ⟨rfl, ?_⟩
  go_wp2
  refine ⟨rfl, ?_⟩
  refine wp_switch 10 0 _ ⟨_, by rfl, by rfl⟩ ?_
  conv => arg 2; whnf
  go_wp2
  refine ⟨rfl, ?_⟩
  go_wp2
  refine ⟨rfl, ?_⟩
  go_end0
  exact ⟨rfl, HM.out, gb_alloc (gb_set (World.grownBy.refl _ _) _ _) _⟩

set_option maxHeartbeats 1000000 in
set_option maxRecDepth 200000 in
theorem step_164 (g : Nat) (s : S) (rv : Value) (nx st : Int) (en : Bool) (re jt jf k v : Int) (w : World) (hM : Mach w g s rv nx st en re) (hs : s.ok) (hv : isWord v) (hk : isWord k)  :
    Calls Try.prog 91 #[.pointer (some ⟨g, 0, none⟩), insV 164 jt jf k, .int .u32 v] w fun e w' => e = .returned (.tuple #[]) ∧ Mach w' g { s with a := bits .xor .u32 s.a v } rv nx st en re ∧ w.grownBy w' (some g) := by
  have hlt := World.rowIs.lt hM
  have hne : ¬ w.heap.size = g := by omega
  have HM : Hid _ := (hM.seta (bits .xor .u32 s.a v)).alloc (.cells #[.int .u16 164, .int .u8 jt, .int .u8 jf, .int .u32 k] 36)
  have e0 := hM.c0
  have f0 := hM.fz 0
  have e1 := hM.c1
  have f1 := hM.fz 1
  obtain ⟨a, x, m⟩ := s
  obtain ⟨a0, a1⟩ := hs.1
  obtain ⟨x0, x1⟩ := hs.2.1
  obtain ⟨v0, v1⟩ := hv
  obtain ⟨k0, k1⟩ := hk
  simp only at e0 e1 a0 a1 x0 x1
  clear hM hs
  go_enter Try.func91, Try.ntmps91
  refine wp_two ?_
  go_wp2
  refine ⟨rfl, ?_⟩
  go_wp2
  refine ⟨rfl, ?_⟩
  refine wp_switch 11 0 _ ⟨_, by rfl, by rfl⟩ ?_
  conv => arg 2; whnf
  go_wp2
  refine ⟨rfl, ?_⟩
  go_wp2
  refine ⟨rfl, ?_⟩
  go_end0
  exact ⟨rfl, HM.out, gb_alloc (gb_set (World.grownBy.refl _ _) _ _) _⟩

set_option maxHeartbeats 1000000 in
set_option maxRecDepth 200000 in
theorem step_172 (g : Nat) (s : S) (rv : Value) (nx st : Int) (en : Bool) (re jt jf k v : Int) (w : World) (hM : Mach w g s rv nx st en re) (hs : s.ok) (hv : isWord v) (hk : isWord k)  :
    Calls Try.prog 91 #[.pointer (some ⟨g, 0, none⟩), insV 172 jt jf k, .int .u32 v] w fun e w' => e = .returned (.tuple #[]) ∧ Mach w' g { s with a := bits .xor .u32 s.a v } rv nx st en re ∧ w.grownBy w' (some g) := by
  have hlt := World.rowIs.lt hM
  have hne : ¬ w.heap.size = g := by omega
  have HM : Hid _ := (hM.seta (bits .xor .u32 s.a v)).alloc (.cells #[.int .u16 172, .int .u8 jt, .int .u8 jf, .int .u32 k] 36)
  have e0 := hM.c0
  have f0 := hM.fz 0
  have e1 := hM.c1
  have f1 := hM.fz 1
  obtain ⟨a, x, m⟩ := s
  obtain ⟨a0, a1⟩ := hs.1
  obtain ⟨x0, x1⟩ := hs.2.1
  obtain ⟨v0, v1⟩ := hv
  obtain ⟨k0, k1⟩ := hk
  simp only at e0 e1 a0 a1 x0 x1
  clear hM hs
  go_enter Try.func91, Try.ntmps91
  refine wp_two ?_
  go_wp2
  refine ⟨rfl, ?_⟩
  go_wp2
  refine ⟨rfl, ?_⟩
  refine wp_switch 11 0 _ ⟨_, by rfl, by rfl⟩ ?_
  conv => arg 2; whnf
  go_wp2
  refine ⟨rfl, ?_⟩
  go_wp2
  refine ⟨rfl, ?_⟩
  go_end0
  exact ⟨rfl, HM.out, gb_alloc (gb_set (World.grownBy.refl _ _) _ _) _⟩

end Go.Proofs.Ytjfgihmamoiipaa
