/-
  CONTRACTS of the model's conditions: what holds, block, normal.
-/
import Derived.Test.YtjkmcdgjhfiklaaCondS
import Derived.Deep.OwnRows
import Derived.Deep.QuietTactic
import Derived.BigQuiet
import Derived.Deep.RegionWith
import Derived.Deep.RegionHeld3
namespace Go.Proofs.Ytjkmcdgjhfiklaa
open Go.RowKit
set_option linter.unusedVariables false

set_option maxRecDepth 100000 in
set_option maxHeartbeats 1000000 in
theorem l3holds_any (c : K) (v : Nat) (w : World) (ho : c.ok) (hv : v < 18446744073709551616) :
    Calls Try.prog 87 #[conV c, .int .u64 (v : Int)] w fun e w' => e = .returned (.bool (holdsK c v)) ∧ Below w.heap.size w w' := by
  obtain ⟨kind, a, b⟩ := c
  obtain ⟨⟨k0, k1⟩, ha, hb⟩ := ho
  simp only at k0 k1 ha hb
  simp only [conV]
  have B : Below w.heap.size w (w.alloc (.cells #[.int .i64 kind, .int .u64 (a : Int), .int .u64 (b : Int)] 25)) := (Below.refl _ _).alloc (Nat.le_refl _) _
  obtain ⟨V, hV⟩ : ∃ V, holdsK ⟨kind, a, b⟩ v = V := ⟨_, rfl⟩
  have HV : Hid (holdsK ⟨kind, a, b⟩ v = V) := hV
  rw [hV]
  clear hV
  by_cases h1 : kind = 1
  · subst h1
    have HB : Hid (bits .and .u64 (v : Int) (a : Int) = ((v &&& a : Nat) : Int)) := u64_and v a hv ha
    go_enter Try.func87, Try.ntmps87
    go_wp2
    go_ret
    refine ⟨?_, B⟩
    rw [← HV.out, HB.out, beq_cast]
    simp [holdsK]
  · by_cases h2 : kind = 2
    · subst h2
      by_cases hab : a ≤ v
      · have hab' : (a : Int) ≤ (v : Int) := by omega
        by_cases hvb : v ≤ b
        · have hvb' : (v : Int) ≤ (b : Int) := by omega
          go_enter Try.func87, Try.ntmps87
          go_wp2
          go_ret
          exact ⟨by rw [← HV.out]; simp [holdsK, hab, hvb], B⟩
        · have hvb' : ¬ (v : Int) ≤ (b : Int) := by omega
          go_enter Try.func87, Try.ntmps87
          go_wp2
          go_ret
          exact ⟨by rw [← HV.out]; simp [holdsK, hab, hvb], B⟩
      · have hab' : ¬ (a : Int) ≤ (v : Int) := by omega
        go_enter Try.func87, Try.ntmps87
        go_wp2
        go_ret
        exact ⟨by rw [← HV.out]; simp [holdsK, hab], B⟩
    · go_enter Try.func87, Try.ntmps87
      go_wp2
      go_ret
      exact ⟨by rw [← HV.out]; simp [holdsK, h1, h2], B⟩

/-- what the model's block says -/
def blkV (c : K) : Value := match blockK c with | some (lo, hi) => .tuple #[.int .u64 (lo : Int), .int .u64 (hi : Int), .bool true] | none => .tuple #[.int .u64 0, .int .u64 0, .bool false]

/-- a condition's own box -/
structure BoxK (w : World) (g : Nat) (x y z : Value) : Prop where
  lt : g < w.heap.size
  c0 : w.cell? ⟨g, 0, none⟩ = some x
  c1 : w.cell? ⟨g, 1, none⟩ = some y
  c2 : w.cell? ⟨g, 2, none⟩ = some z
  f0 : w.frozen? ⟨g, 0, none⟩ = false
  f1 : w.frozen? ⟨g, 1, none⟩ = false
  f2 : w.frozen? ⟨g, 2, none⟩ = false

theorem BoxK.keep {w w1 : World} {g : Nat} {x y z : Value} (h : BoxK w g x y z) (hb : Below w.heap.size w w1) : BoxK w1 g x y z :=
  ⟨Nat.lt_of_lt_of_le h.lt hb.size, (hb.cell (p := ⟨g, 0, none⟩) h.lt).trans h.c0, (hb.cell (p := ⟨g, 1, none⟩) h.lt).trans h.c1, (hb.cell (p := ⟨g, 2, none⟩) h.lt).trans h.c2,
    (hb.frozen (p := ⟨g, 0, none⟩) h.lt).trans h.f0, (hb.frozen (p := ⟨g, 1, none⟩) h.lt).trans h.f1, (hb.frozen (p := ⟨g, 2, none⟩) h.lt).trans h.f2⟩
theorem BoxK.new (w : World) (t : TypeId) (x y z : Value) : BoxK (w.alloc (.cells #[x, y, z] t)) w.heap.size x y z :=
  ⟨by simp, by simp, by simp, by simp, by simp, by simp, by simp⟩
theorem BoxK.drew {w : World} {g : Nat} {x y z : Value} (h : BoxK w g x y z) : BoxK w.drew g x y z := h.keep (Below.refl _ _).drew
theorem BoxK.alloc {w : World} {g : Nat} {x y z : Value} (h : BoxK w g x y z) (o : Obj) : BoxK (w.alloc o) g x y z := h.keep ((Below.refl _ _).alloc (Nat.le_refl _) o)

theorem wrap_sub_ones {L : Nat} (h : L ≤ 18446744073709551615) : IntKind.u64.wrap (18446744073709551615 - (L : Int)) = 18446744073709551615 - (L : Int) := by
  rw [IntKind.wrap_u64]; omega
theorem wrap_add_nat {a b : Nat} (h : a + b < 18446744073709551616) : IntKind.u64.wrap ((a : Int) + (b : Int)) = ((a + b : Nat) : Int) := by
  rw [IntKind.wrap_u64]; omega

set_option maxRecDepth 100000 in
set_option maxHeartbeats 2000000 in
theorem l3block_mask (a b : Nat) (w : World) (ha : a < 18446744073709551616) (hb : b < 18446744073709551616) (hv : a ||| b = a) :
    Calls Try.prog 44 #[conV ⟨1, a, b⟩] w fun e w' => e = .returned (blkV ⟨1, a, b⟩) ∧ Below w.heap.size w w' := by
  simp only [conV]
  have HY : Hid (isLow (inv a) = true → b + inv a < 18446744073709551616 ∧ blkV ⟨1, a, b⟩ = .tuple #[.int .u64 (b : Int), .int .u64 ((b + inv a : Nat) : Int), .bool true]) := fun h => ⟨(mask_block ha hv h).2.1, by simp [blkV, blockK, h]⟩
  have HN : Hid (isLow (inv a) = false → blkV ⟨1, a, b⟩ = .tuple #[.int .u64 0, .int .u64 0, .bool false]) := fun h => by simp [blkV, blockK, h]
  have HI : Hid (isLow (inv a) = true ↔ ∃ k, k ≤ 64 ∧ inv a = low k) := isLow_iff (inv_lt a)
  generalize blkV ⟨1, a, b⟩ = V at *
  clear hv
  go_enter Try.func44, Try.ntmps44
  go_wp2_with fail
  have X := BoxK.new w 25 (.int .i64 1) (.int .u64 (a : Int)) (.int .u64 (b : Int))
  have B0 : Below w.heap.size w (w.alloc (.cells #[.int .i64 1, .int .u64 (a : Int), .int .u64 (b : Int)] 25)) := (Below.refl _ _).alloc (Nat.le_refl _) _
  go_loopw [5] (fun i wr => ∃ k : Nat, k ≤ 65 ∧ i = .int .i64 k ∧ Hid (∀ j, j < k → inv a ≠ low j) ∧ BoxK wr w.heap.size (.int .i64 1) (.int .u64 (a : Int)) (.int .u64 (b : Int)) ∧ Below w.heap.size w wr) (fun i _ => 65 - (intOf i).toNat)
  case atStart => exact ⟨0, by omega, rfl, fun j hj => by omega, X, B0⟩
  case round =>
    clear X B0
    obtain ⟨k, hk, rfl, HJ, X, B⟩ := hrel
    by_cases hlt : k ≤ 64
    · have hl := low_le hlt
      have HL : Hid (∀ w, Calls Try.prog 45 #[.int .i64 (k : Int)] w fun e w' => e = .returned (.int .u64 (low k : Nat)) ∧ w' = w) := fun w => l3low_any k w hlt
      obtain ⟨_, x0, x1, x2, _, _, _⟩ := X.drew
      obtain ⟨_, z0, z1, z2, _, _, _⟩ := X.drew.drew
      by_cases e : inv a = low k
      · have e1 : ((a : Int) == 18446744073709551615 - ((low k : Nat) : Int)) = true := by unfold inv at e; rw [beq_iff_eq]; omega
        obtain ⟨y1, y2⟩ := HY.out (HI.out.2 ⟨k, hlt, e⟩)
        rw [e] at y1 y2
        have HV : Hid _ := y2
        clear y2 HY HN HI HJ e
        have hw := wrap_sub_ones hl
        have hw2 := wrap_add_nat y1
        generalize low k = L at *
        go_wp2_with fail
        go_region_held3 (fun w' => w'.cell? ⟨w.heap.size, 1, none⟩ = some (.int .u64 (a : Int)))
          (first | assumption | (simp [*]; done))
          ((go_at_call 45; refine (HL.out _).mono ?_; rintro e w1 ⟨rfl, rfl⟩))
        go_wp2_with fail
        go_region_held3 (fun w' => w'.cell? ⟨w.heap.size, 2, none⟩ = some (.int .u64 (b : Int)))
          (first | assumption | (simp [*]; done))
          ((go_at_call 45; refine (HL.out _).mono ?_; rintro e w1 ⟨rfl, rfl⟩))
        go_wp2
        rw [HV.out]
        exact bodyPost_ret (v := .tuple #[.int .u64 (b : Int), .int .u64 ((b + L : Nat) : Int), .bool true]) (by simp [results, Try.results44, go_sem]) rfl ⟨rfl, B.drew.drew⟩
      · have e1 : ((a : Int) == 18446744073709551615 - ((low k : Nat) : Int)) = false := by unfold inv at e; rw [beq_eq_false_iff_ne]; omega
        have HJ' : Hid (∀ j, j < k + 1 → inv a ≠ low j) := fun j hj => by
          by_cases hjk : j = k
          · subst hjk; exact e
          · exact HJ.out j (by omega)
        clear HY HN HI HJ e
        have hw := wrap_sub_ones hl
        generalize low k = L at *
        go_wp2_with fail
        go_region_held3 (fun w' => w'.cell? ⟨w.heap.size, 1, none⟩ = some (.int .u64 (a : Int)))
          (first | assumption | (simp [*]; done))
          ((go_at_call 45; refine (HL.out _).mono ?_; rintro e w1 ⟨rfl, rfl⟩))
        go_wp2
        go_roundw
        case rel => exact ⟨k + 1, by omega, by go_num, HJ', X.drew, B.drew⟩
        case measure => simp [intOf]; omega
    · have hk' : k = 65 := by omega
      subst hk'
      have HV : Hid (V = .tuple #[.int .u64 0, .int .u64 0, .bool false]) := HN.out (by
        cases hc : isLow (inv a) with
        | false => rfl
        | true =>
          obtain ⟨k, h1, h2⟩ := HI.out.1 hc
          exact absurd h2 (HJ.out k (by omega)))
      go_wp2
      rw [HV.out]
      exact bodyPost_ret (v := .tuple #[.int .u64 0, .int .u64 0, .bool false]) (by simp [results, Try.results44, go_sem]) rfl ⟨rfl, B⟩

set_option maxRecDepth 100000 in
set_option maxHeartbeats 2000000 in
theorem l3block_any (c : K) (w : World) (ho : c.ok) (hv : validK c = true) :
    Calls Try.prog 44 #[conV c] w fun e w' => e = .returned (blkV c) ∧ Below w.heap.size w w' := by
  rcases K.valid_cases hv with rfl | ⟨a, b, rfl, h⟩ | ⟨a, b, rfl, h⟩
  · have B : Below w.heap.size w (w.alloc (.cells #[.int .i64 0, .int .u64 0, .int .u64 0] 25)) := (Below.refl _ _).alloc (Nat.le_refl _) _
    clear ho hv
    go_enter Try.func44, Try.ntmps44
    go_wp2
    exact bodyPost_ret (v := .tuple #[.int .u64 0, .int .u64 18446744073709551615, .bool true]) (by simp [results, Try.results44, go_sem]) rfl ⟨rfl, B⟩
  · exact l3block_mask a b w ho.2.1 ho.2.2 h
  · have B : Below w.heap.size w (w.alloc (.cells #[.int .i64 2, .int .u64 (a : Int), .int .u64 (b : Int)] 25)) := (Below.refl _ _).alloc (Nat.le_refl _) _
    obtain ⟨_, ha, hb⟩ := ho
    simp only at ha hb
    simp only [conV]
    clear hv
    go_enter Try.func44, Try.ntmps44
    go_wp2_with fail
    go_quiet (fail)
    go_wp2
    exact bodyPost_ret (v := .tuple #[.int .u64 (a : Int), .int .u64 (b : Int), .bool true]) (by simp [results, Try.results44, go_sem]) rfl ⟨rfl, by first | exact B.drew | exact below_drewN B _⟩

theorem normK_of_block {c : K} {lo hi : Nat} (ho : c.ok) (hv : validK c = true) (h : blockK c = some (lo, hi)) : normK c = newRange lo hi := by
  rcases K.valid_cases hv with rfl | ⟨a, b, rfl, h1⟩ | ⟨a, b, rfl, h1⟩
  · simp [blockK] at h; obtain ⟨rfl, rfl⟩ := h
    rw [newRange_block (k := 64) (by omega) (by omega) (by omega) (by rw [low_64]) (by rw [Nat.zero_and])]; rfl
  · have h2 : (if isLow (inv a) then some (b, b + inv a) else none) = some (lo, hi) := h
    by_cases h3 : isLow (inv a) = true
    · rw [if_pos h3] at h2
      simp at h2; obtain ⟨rfl, rfl⟩ := h2
      rw [(mask_block ho.2.1 h1 h3).2.2]; rfl
    · rw [if_neg h3] at h2; exact absurd h2 (by simp)
  · simp [blockK] at h; obtain ⟨rfl, rfl⟩ := h
    rfl
theorem normK_of_none {c : K} (ho : c.ok) (hv : validK c = true) (h : blockK c = none) : normK c = c := by
  rcases K.valid_cases hv with rfl | ⟨a, b, rfl, h1⟩ | ⟨a, b, rfl, h1⟩
  · simp [blockK] at h
  · have h2 : (if isLow (inv a) then some (b, b + inv a) else none) = none := h
    by_cases h3 : isLow (inv a) = true
    · rw [if_pos h3] at h2; exact absurd h2 (by simp)
    · have : a ≠ 0 := fun e => h3 (by rw [e]; decide)
      simp [normK, newMask, this]
  · simp [blockK] at h
end Go.Proofs.Ytjkmcdgjhfiklaa
