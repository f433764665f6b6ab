/-
  CONTRACTS of the machine's methods: divide, branch, recordWord, operand.
-/
import Derived.Test.YtjfgihmamoiipaaMach
import Derived.Test.YtjfgihmamoiipaaDecIns
namespace Go.Proofs.Ytjfgihmamoiipaa
open Go.RowKit
set_option linter.unusedVariables false
attribute [local go_sem ↓] Go.wp_at_zero Go.wp_at_succ

set_option maxHeartbeats 1000000 in
theorem divide_zero (g : Nat) (s : S) (rv : Value) (nx st : Int) (en : Bool) (re : Int) (w : World) (hM : Mach w g s rv nx st en re) :
    Calls Try.prog 109 #[.pointer (some ⟨g, 0, none⟩), .int .u32 0] w fun e w' => e = .returned (.tuple #[]) ∧ Mach w' g s rv nx st true 2147483648 ∧ w.grownBy w' (some g) := by
  have HM : Hid (Mach w g s rv nx st en re) := hM
  clear hM
  go_enter Try.func109, Try.ntmps109
  go_wp2_with fail
  refine (end_any g s rv nx st en re 2147483648 w HM.out).mono ?_
  rintro e w' ⟨rfl, hM', hG⟩
  go_wp2
  exact bodyPost_ret (v := .tuple #[]) (by simp [results, Try.results109, go_sem]) rfl ⟨rfl, hM', hG⟩

set_option maxHeartbeats 1000000 in
theorem divide_some (g : Nat) (s : S) (rv : Value) (nx st : Int) (en : Bool) (re v : Int) (w : World) (hM : Mach w g s rv nx st en re) (hs : isWord s.a) (hv : isWord v) (h0 : v ≠ 0) :
    Calls Try.prog 109 #[.pointer (some ⟨g, 0, none⟩), .int .u32 v] w fun e w' => e = .returned (.tuple #[]) ∧ Mach w' g { s with a := s.a / v } rv nx st en re ∧ w.grownBy w' (some g) := by
  have HM : Hid _ := hM.seta (s.a / v)
  have e1 := hM.c0
  have f1 := hM.fz 0
  obtain ⟨a0, a1⟩ := hs
  obtain ⟨v0, v1⟩ := hv
  have hv1 : 1 ≤ v := by omega
  have hvb : (v == 0) = false := by simp [h0]
  clear hM
  obtain ⟨a, x, m⟩ := s
  simp only at e1 a0 a1
  go_enter Try.func109, Try.ntmps109
  go_wp2
  go_end0
  exact ⟨rfl, HM.out, gb_set (World.grownBy.refl _ _) _ _⟩

set_option maxHeartbeats 2000000 in
theorem branch_any (g : Nat) (s : S) (rv : Value) (nx st : Int) (en : Bool) (re c jt jf k : Int) (h : Bool) (w : World) (hM : Mach w g s rv nx st en re) (n0 : 0 ≤ nx) (n1 : nx ≤ 1000000) (j0 : 0 ≤ jt ∧ jt ≤ 255) (j1 : 0 ≤ jf ∧ jf ≤ 255) :
    Calls Try.prog 110 #[.pointer (some ⟨g, 0, none⟩), insV c jt jf k, .bool h] w fun e w' => e = .returned (.tuple #[]) ∧ Mach w' g s rv (nx + if h then jt else jf) st en re ∧ w.grownBy w' (some g) := by
  have hne : g ≠ w.heap.size := by have := World.rowIs.lt hM; omega
  have hlt := World.rowIs.lt hM
  cases h
  · have HM : Hid _ := ((hM.setn (nx + jf)).alloc (.cells #[.int .u16 c, .int .u8 jt, .int .u8 jf, .int .u32 k] 36)).drew
    have e1 := hM.cn
    have f1 := hM.fz 19
    clear hM
    go_enter Try.func110, Try.ntmps110
    go_wp2
    go_region
    all_goals go_wp2
    all_goals go_end0
    all_goals exact ⟨rfl, HM.out, gb_drew (gb_alloc (gb_set (World.grownBy.refl _ _) _ _) _)⟩
  · have HM : Hid _ := ((hM.setn (nx + jt)).alloc (.cells #[.int .u16 c, .int .u8 jt, .int .u8 jf, .int .u32 k] 36)).drew
    have e1 := hM.cn
    have f1 := hM.fz 19
    clear hM
    go_enter Try.func110, Try.ntmps110
    go_wp2
    go_region
    all_goals go_wp2
    all_goals exact bodyPost_ret (v := .tuple #[]) (by simp [results, Try.results110, go_sem]) rfl ⟨rfl, HM.out, gb_drew (gb_alloc (gb_set (World.grownBy.refl _ _) _ _) _)⟩

set_option maxHeartbeats 2000000 in
theorem recordWord_any (g rb ro rc : Nat) (s : S) (nx st : Int) (en : Bool) (re k : Int) (r : List Int) (w : World) (hM : Mach w g s (.slice (some ⟨rb, ro, none⟩) 64 rc) nx st en re) (hr : BytesAt w rb ro r) (hrl : r.length = 64) (hrr : isBytes r) (hrc : 64 ≤ rc) (k0 : 0 ≤ k) (k1 : k ≤ 60) :
    Calls Try.prog 112 #[.pointer (some ⟨g, 0, none⟩), .int .i64 k] w fun e w' => e = .returned (.int .u32 (wordL r k.toNat)) ∧ Below w.heap.size w w' := by
  have e1 := hM.cr
  obtain ⟨q, rfl⟩ := Int.eq_ofNat_of_zero_le k0
  rw [Int.toNat_natCast]
  have g := fun j => isBytes_getD hrr j
  have HW : Hid (∀ wx, (∀ j, wx.cell? ⟨rb, j, none⟩ = w.cell? ⟨rb, j, none⟩) → Calls Try.prog 86 #[.slice (some ⟨rb, ro + q, none⟩) 4 (rc - q)] wx fun e w' => e = .returned (.int .u32 (wordL r q)) ∧ ∃ m, w' = wx.drewN m) := fun wx hx =>
    wordOf_at rb (ro + q) (rc - q) _ _ _ _ wx ((hx _).trans (hr q (by omega))) ((hx _).trans (by rw [Nat.add_assoc]; exact hr (q + 1) (by omega))) ((hx _).trans (by rw [Nat.add_assoc]; exact hr (q + 2) (by omega))) ((hx _).trans (by rw [Nat.add_assoc]; exact hr (q + 3) (by omega))) (g _) (g _) (g _) (g _)
  clear hM hr
  have i5 : ¬ rc = q := by omega
  go_enter Try.func112, Try.ntmps112
  go_wp2_with fail
  refine (HW.out _ (fun _ => rfl)).mono ?_
  rintro e w' ⟨rfl, m, rfl⟩
  go_wp2
  go_ret
  exact ⟨rfl, below_drewN (Below.refl _ _) _⟩

/-- the operand that an instruction works with -/
def opI (r : List Int) (i : I) (s : S) : Int := if i.c = 32 then wordL r i.k.toNat else if i.c = 96 ∨ i.c = 97 then s.m i.k.toNat else opV i s

theorem and8 (c : Int) (h0 : 0 ≤ c) (h1 : c ≤ 65535) : (bits .and .u16 c 8 != 0) = (c / 8 % 2 == 1) := by
  rw [u16_and c 8 h0 (by omega) (by omega) (by omega)]
  have e : (c.toNat &&& (8 : Int).toNat) = c.toNat / 8 % 2 * 8 := nat_bit 3 c.toNat
  rw [e]
  have h2 : ((c.toNat / 8 % 2 : Nat) : Int) = c / 8 % 2 := by omega
  rcases Nat.mod_two_eq_zero_or_one (c.toNat / 8) with h | h <;> rw [h] at h2 ⊢ <;> rw [← h2] <;> simp

set_option maxHeartbeats 4000000 in
theorem operand_any (g rb ro rc : Nat) (s : S) (nx st : Int) (en : Bool) (re : Int) (i : I) (r : List Int) (w : World) (hM : Mach w g s (.slice (some ⟨rb, ro, none⟩) 64 rc) nx st en re) (hrb : rb < w.heap.size) (hr : BytesAt w rb ro r) (hrl : r.length = 64) (hrr : isBytes r) (hrc : 64 ≤ rc) (hi : i.ok)
    (hk1 : i.c = 32 → i.k ≤ 60) (hk2 : memB i.c = true → i.k < 16) :
    Calls Try.prog 92 #[.pointer (some ⟨g, 0, none⟩), insV i.c i.jt i.jf i.k] w fun e w' => e = .returned (.int .u32 (opI r i s)) ∧ Below w.heap.size w w' := by
  obtain ⟨c, jt, jf, k⟩ := i
  obtain ⟨h1, h2, h3, h4, h5, h6, h7, h8⟩ := hi
  simp only at h1 h2 h3 h4 h5 h6 h7 h8 hk1 hk2 ⊢
  have hlt := World.rowIs.lt hM
  have hne : ¬ w.heap.size = g := by omega
  by_cases e32 : c = 32
  · subst e32
    have HW : Hid (∀ wx, Below w.heap.size w wx → Calls Try.prog 112 #[.pointer (some ⟨g, 0, none⟩), .int .i64 k] wx fun e w' => e = .returned (.int .u32 (opI r ⟨32, jt, jf, k⟩ s)) ∧ Below wx.heap.size wx w') := fun wx hB => by
      have h := recordWord_any g rb ro rc s nx st en re k r wx (hM.below hB) (fun j hj => (hB.cell (p := ⟨rb, _, none⟩) hrb).trans (hr j hj)) hrl hrr hrc h7 (hk1 rfl)
      simpa [opI] using h
    generalize opI r ⟨32, jt, jf, k⟩ s = y at *
    have hB0 : Below w.heap.size w (w.alloc (.cells #[.int .u16 32, .int .u8 jt, .int .u8 jf, .int .u32 k] 36)) := (Below.refl _ _).alloc (Nat.le_refl _) _
    have HB : Hid _ := hB0
    clear hM hr hB0
    go_enter Try.func92, Try.ntmps92
    go_wp2_with fail
    refine (HW.out _ HB.out).mono ?_
    rintro e w' ⟨rfl, hb1⟩
    go_wp2
    go_ret
    exact ⟨rfl, HB.out.trans (hb1.mono (by simp))⟩
  · by_cases e96 : c = 96 ∨ c = 97
    · have hk := hk2 (by rcases e96 with e | e <;> subst e <;> rfl)
      have cm := hM.cm k.toNat (by omega)
      have HO : Hid (opI r ⟨c, jt, jf, k⟩ s = s.m k.toNat) := by unfold Hid opI; simp [e32, e96]
      have ki : (0 : Int) ≤ k := h7
      have ki2 : k < 16 := hk
      rcases e96 with e | e
      · subst e
        rw [HO.out]
        clear hM hr HO hk1 hk2
        generalize s.m k.toNat = y at *
        go_enter Try.func92, Try.ntmps92
        go_wp2_with fail
        go_quiet (fail)
        go_wp2
        go_ret
        exact ⟨rfl, below_drewN ((Below.refl _ _).alloc (Nat.le_refl _) _) _⟩
      · subst e
        rw [HO.out]
        clear hM hr HO hk1 hk2
        generalize s.m k.toNat = y at *
        go_enter Try.func92, Try.ntmps92
        go_wp2_with fail
        go_quiet (fail)
        go_wp2
        go_ret
        exact ⟨rfl, below_drewN ((Below.refl _ _).alloc (Nat.le_refl _) _) _⟩
    · have b1 : (c == 32) = false := by simp [e32]
      have b2 : (c == 96) = false := by simp; omega
      have b3 : (c == 97) = false := by simp; omega
      have HO : Hid (opI r ⟨c, jt, jf, k⟩ s = if c / 8 % 2 = 1 then s.x else k) := by unfold Hid opI; simp [e32, e96, opV]
      have hx := hM.c1
      have h8' := and8 c h1 h2
      rw [HO.out]
      clear hM hr HO hk1 hk2 e96
      by_cases e8 : c / 8 % 2 = 1
      · rw [if_pos e8]
        rw [show (c / 8 % 2 == 1) = true from by simp [e8]] at h8'
        clear e8
        go_enter Try.func92, Try.ntmps92
        go_wp2
        go_ret
        exact ⟨rfl, (Below.refl _ _).alloc (Nat.le_refl _) _⟩
      · rw [if_neg e8]
        rw [show (c / 8 % 2 == 1) = false from by simp [e8]] at h8'
        clear e8
        go_enter Try.func92, Try.ntmps92
        go_wp2
        go_ret
        exact ⟨rfl, (Below.refl _ _).alloc (Nat.le_refl _) _⟩
end Go.Proofs.Ytjfgihmamoiipaa
