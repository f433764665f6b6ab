/-
  CONTRACTS of the two checksums.
-/
import Derived.Test.YtjfgihmamoiipaaEnc
import Derived.Test.YtjfgihmamoiipaaMathN
namespace Go.Proofs.Ytjfgihmamoiipaa
open Go.RowKit
set_option linter.unusedVariables false

set_option maxHeartbeats 1000000 in
theorem l2half_any (h : Int) (w : World) (h0 : 0 ≤ h) (h1 : h ≤ 4294967295) :
    Calls Try.prog 61 #[.int .u32 h] w fun e w' => e = .returned (.int .u32 (halfI h)) ∧ w' = w := by
  by_cases h2 : h % 2 = 1
  · have hb : (h % 2 == 1) = true := by simp [h2]
    go_enter Try.func61, Try.ntmps61
    go_wp2
    go_ret
    exact ⟨ret_int (by simp [halfI, h2]), rfl⟩
  · have hb : (h % 2 == 1) = false := by simp [h2]
    go_enter Try.func61, Try.ntmps61
    go_wp2
    go_ret
    exact ⟨ret_int (by simp [halfI, h2]), rfl⟩

theorem cell_lt0 {w : World} {a : Addr} {v : Value} (h : w.cell? a = some v) : a.block < w.heap.size := by
  by_cases hb : a.block < w.heap.size
  · exact hb
  · exfalso
    simp [World.cell?, Array.getElem?_eq_none (show w.heap.size ≤ a.block by omega)] at h

theorem hid_step {X h : Int} {j : Nat} (hj : j < 8) (e : Hid (X = halfN (8 - j) h)) : Hid (X = halfN (8 - (j + 1)) (halfI h)) := by
  obtain ⟨m, hm⟩ : ∃ m, 8 - (j + 1) = m := ⟨_, rfl⟩
  have e1 : 8 - j = m + 1 := by omega
  have e2 := e.out
  rw [e1] at e2
  rw [hm]
  exact e2

set_option maxHeartbeats 2000000 in
theorem specSum_some (b o cap : Nat) (l : List Int) (w : World) (hp : BytesAt w b o l) (hl : isBytes l) (hn : l.length ≤ 16777216) :
    Calls Try.prog 30 #[.slice (some ⟨b, o, none⟩) l.length cap] w fun e w' => e = .returned (.int .u32 (sumL l)) ∧ Below w.heap.size w w' := by
  have HS : Hid (∀ (k : Nat) (h : Int), k < l.length → sumF h (l.drop k) = sumF (halfN 8 (bits .xor .u32 h (l.getD k 0))) (l.drop (k + 1))) := fun k h hk => sumF_step rfl hk
  have HZ : Hid (∀ h, sumF h (l.drop l.length) = h) := fun h => by rw [List.drop_length]; rfl
  have HB : Hid (∀ k, 0 ≤ l.getD k 0 ∧ l.getD k 0 ≤ 255) := fun k => isBytes_getD hl k
  have HP : Hid (BytesAt w b o l) := hp
  obtain ⟨F, hF⟩ : ∃ F : Int → Nat → Int, ∀ h k, sumF h (l.drop k) = F h k := ⟨fun h k => sumF h (l.drop k), fun _ _ => rfl⟩
  have HX : Hid (sumL l = bits .xor .u32 (F 4294967295 0) 4294967295) := by
    unfold Hid sumL; rw [← hF, List.drop_zero]
  simp only [hF] at HS HZ
  obtain ⟨n, hn'⟩ : ∃ n, l.length = n := ⟨_, rfl⟩
  have HN : Hid (l.length = n) := hn'
  rw [hn'] at HS HZ hn ⊢
  generalize sumL l = X at *
  clear hp hl hn' hF
  go_enter Try.func30, Try.ntmps30
  go_wp2_with fail
  go_loopw [3, 4] (fun q i wr => ∃ (k : Nat) (h : Int), k ≤ n ∧ i = .int .i64 k ∧ q = .int .u32 h ∧ 0 ≤ h ∧ h ≤ 4294967295 ∧ Hid (F 4294967295 0 = F h k) ∧ Below w.heap.size w wr) (fun _ i _ => n - (intOf i).toNat)
  case atStart => exact ⟨0, 4294967295, by omega, rfl, rfl, by omega, by omega, rfl, Below.refl _ _⟩
  case round =>
    obtain ⟨k, h, hk, rfl, rfl, h0, h1, HF, hB⟩ := hrel
    by_cases hlt : k < n
    · have c0 := HP.out k (by rw [HN.out]; exact hlt)
      have hbl : b < w.heap.size := cell_lt0 c0
      have d0 := (hB.cell (p := ⟨b, _, none⟩) hbl).trans c0
      obtain ⟨x0, x1⟩ := HB.out k
      have HS1 := HS.out k h hlt
      have HS2 : Hid _ := HS1
      clear HS1 c0 HP HS HZ
      generalize l.getD k 0 = x at *
      have HY : Hid (F h k = F (halfN 8 (bits .xor .u32 h x)) (k + 1)) := HS2
      clear HS2
      go_wp2_with fail
      have y0 := bits_lo_u32 .xor h x
      have y1 := bits_hi_u32 .xor h x
      generalize bits .xor .u32 h x = y at *
      obtain ⟨Z, hZ⟩ : ∃ Z, halfN 8 y = Z := ⟨_, rfl⟩
      rw [hZ] at HY
      have HZ0 : Hid (Z = halfN (8 - 0) y) := hZ.symm
      clear hZ
      go_loopw [3, 5] (fun q i wx => ∃ (j : Nat) (z : Int), j ≤ 8 ∧ i = .int .i64 j ∧ q = .int .u32 z ∧ 0 ≤ z ∧ z ≤ 4294967295 ∧ Hid (Z = halfN (8 - j) z) ∧ wx = wr) (fun _ i _ => 8 - (intOf i).toNat)
      case atStart => exact ⟨0, y, by omega, rfl, rfl, y0, y1, HZ0, rfl⟩
      case round =>
        obtain ⟨j, z, hj, rfl, rfl, z0, z1, HZ1, rfl⟩ := hrel
        by_cases hj8 : j < 8
        · go_wp2_with fail
          refine (l2half_any z _ z0 z1).mono ?_
          rintro e w1 ⟨rfl, rfl⟩
          have g0 := halfI_ok z0 z1
          have HG := hid_step hj8 HZ1
          clear HZ0 HZ1
          generalize halfI z = z' at *
          go_wp2
          go_roundw
          case rel => exact ⟨j + 1, z', by omega, by go_num, rfl, g0.1, g0.2, HG, trivial⟩
          case measure => simp [intOf]; omega
        · have hj' : j = 8 := by omega
          subst hj'
          have eZ : Z = z := HZ1.out
          go_wp2
          go_roundw
          case rel => exact ⟨k + 1, z, by omega, by go_num, rfl, z0, z1, (by rw [HF.out, HY.out, eZ] : F 4294967295 0 = F z (k + 1)), hB⟩
          case measure => simp [intOf]; omega
    · have hkn : k = n := by omega
      subst hkn
      have e1 : F 4294967295 0 = h := by rw [HF.out, HZ.out]
      go_wp2
      go_ret
      exact ⟨ret_int (by rw [HX.out, e1]), hB⟩

set_option maxHeartbeats 1000000 in
theorem specSum_none (a : Option Addr) (cap : Nat) (w : World) :
    Calls Try.prog 30 #[.slice a 0 cap] w fun e w' => e = .returned (.int .u32 (sumL [])) ∧ Below w.heap.size w w' := by
  have HX : Hid (sumL [] = bits .xor .u32 4294967295 4294967295) := rfl
  generalize sumL [] = X at *
  go_enter Try.func30, Try.ntmps30
  go_wp2_with fail
  go_loopw [3, 4] (fun q i wr => q = .int .u32 4294967295 ∧ i = .int .i64 0 ∧ wr = w) (fun _ i _ => 0)
  case atStart => exact ⟨rfl, rfl, rfl⟩
  case round =>
    obtain ⟨rfl, rfl, rfl⟩ := hrel
    go_wp2
    go_ret
    exact ⟨ret_int HX.out.symm, Below.refl _ _⟩

theorem specSum_any (a : Option Addr) (cap : Nat) (l : List Int) (w : World) (hs : BSrc w a l) (hl : isBytes l) (hn : l.length ≤ 16777216) :
    Calls Try.prog 30 #[.slice a l.length cap] w fun e w' => e = .returned (.int .u32 (sumL l)) ∧ Below w.heap.size w w' := by
  rcases hs with rfl | ⟨b, o, rfl, hb, hp⟩
  · exact specSum_none a cap w
  · exact specSum_some b o cap l w hp hl hn

set_option maxHeartbeats 2000000 in
theorem implSum_some (b o cap : Nat) (l : List Int) (w : World) (hp : BytesAt w b o l) (hl : isBytes l) (hn : l.length ≤ 16777216) :
    Calls Try.prog 31 #[.slice (some ⟨b, o, none⟩) l.length cap] w fun e w' => e = .returned (.int .u32 (sumL l)) ∧ Below w.heap.size w w' := by
  have HS : Hid (∀ (k : Nat) (h : Int), k < l.length → sumF h (l.drop k) = sumF (halfN 8 (bits .xor .u32 h (l.getD k 0))) (l.drop (k + 1))) := fun k h hk => sumF_step rfl hk
  have HZ : Hid (∀ h, sumF h (l.drop l.length) = h) := fun h => by rw [List.drop_length]; rfl
  have HB : Hid (∀ k, 0 ≤ l.getD k 0 ∧ l.getD k 0 ≤ 255) := fun k => isBytes_getD hl k
  have HP : Hid (BytesAt w b o l) := hp
  obtain ⟨F, hF⟩ : ∃ F : Int → Nat → Int, ∀ h k, sumF h (l.drop k) = F h k := ⟨fun h k => sumF h (l.drop k), fun _ _ => rfl⟩
  have HX : Hid (sumL l = bits .xor .u32 (F 4294967295 0) 4294967295) := by
    unfold Hid sumL; rw [← hF, List.drop_zero]
  simp only [hF] at HS HZ
  obtain ⟨n, hn'⟩ : ∃ n, l.length = n := ⟨_, rfl⟩
  have HN : Hid (l.length = n) := hn'
  rw [hn'] at HS HZ hn ⊢
  generalize sumL l = X at *
  clear hp hl hn' hF
  go_enter Try.func31, Try.ntmps31
  go_wp2_with fail
  go_loopw [3, 9] (fun q i wr => ∃ (k : Nat) (h : Int), k ≤ n ∧ i = .int .i64 k ∧ q = .int .u32 h ∧ 0 ≤ h ∧ h ≤ 4294967295 ∧ Hid (F 4294967295 0 = F h k) ∧ wr = w) (fun _ i _ => n - (intOf i).toNat)
  case atStart => exact ⟨0, 4294967295, by omega, rfl, rfl, by omega, by omega, rfl, rfl⟩
  case round =>
    obtain ⟨k, h, hk, rfl, rfl, h0, h1, HF, rfl⟩ := hrel
    by_cases hlt : k < n
    · have d0 := HP.out k (by rw [HN.out]; exact hlt)
      obtain ⟨x0, x1⟩ := HB.out k
      have HS1 := HS.out k h hlt
      have HS2 : Hid _ := HS1
      clear HS1 HP HS HZ
      generalize l.getD k 0 = x at *
      have HY : Hid (F h k = F (halfN 8 (bits .xor .u32 h x)) (k + 1)) := HS2
      clear HS2
      go_wp2_with fail
      have y0 := bits_lo_u32 .xor h x
      have y1 := bits_hi_u32 .xor h x
      generalize bits .xor .u32 h x = y at *
      obtain ⟨Z, hZ⟩ : ∃ Z, halfN 8 y = Z := ⟨_, rfl⟩
      rw [hZ] at HY
      have HZ0 : Hid (Z = halfN (8 - 0) y) := hZ.symm
      clear hZ
      go_loopw [3, 17] (fun q i wx => ∃ (j : Nat) (z : Int), j ≤ 8 ∧ i = .int .i64 j ∧ q = .int .u32 z ∧ 0 ≤ z ∧ z ≤ 4294967295 ∧ Hid (Z = halfN (8 - j) z) ∧ wx = wr) (fun _ i _ => 8 - (intOf i).toNat)
      case atStart => exact ⟨0, y, by omega, rfl, rfl, y0, y1, HZ0, rfl⟩
      case round =>
        obtain ⟨j, z, hj, rfl, rfl, z0, z1, HZ1, rfl⟩ := hrel
        by_cases hj8 : j < 8
        · have g0 := halfI_ok z0 z1
          have HG := hid_step hj8 HZ1
          clear HZ0 HZ1
          by_cases ho : z % 2 = 1
          · have hb : (bits .and .u32 z 1 == 1) = true := by rw [and1_u32 z0 z1]; simp [ho]
            have HE : Hid (halfI z = bits .xor .u32 (z / 2) 3988292384) := by unfold Hid halfI; rw [if_pos ho]
            generalize halfI z = z' at *
            go_wp2
            go_roundw
            case rel => exact ⟨j + 1, z', by omega, by go_num, by rw [HE.out], g0.1, g0.2, HG, trivial⟩
            case measure => simp [intOf]; omega
          · have hb : (bits .and .u32 z 1 == 1) = false := by rw [and1_u32 z0 z1]; simp [ho]
            have HE : Hid (halfI z = z / 2) := by unfold Hid halfI; rw [if_neg ho]
            generalize halfI z = z' at *
            go_wp2
            go_roundw
            case rel => exact ⟨j + 1, z', by omega, by go_num, by rw [HE.out], g0.1, g0.2, HG, trivial⟩
            case measure => simp [intOf]; omega
        · have hj' : j = 8 := by omega
          subst hj'
          have eZ : Z = z := HZ1.out
          go_wp2
          go_roundw
          case rel => exact ⟨k + 1, z, by omega, by go_num, rfl, z0, z1, (by rw [HF.out, HY.out, eZ] : F 4294967295 0 = F z (k + 1)), trivial⟩
          case measure => simp [intOf]; omega
    · have hkn : k = n := by omega
      subst hkn
      have e1 : F 4294967295 0 = h := by rw [HF.out, HZ.out]
      have hnot := not_u32 h0 h1
      go_wp2
      go_ret
      exact ⟨ret_int (by rw [HX.out, e1, hnot, not2_u32 h0 h1]), Below.refl _ _⟩

set_option maxHeartbeats 1000000 in
theorem implSum_none (a : Option Addr) (cap : Nat) (w : World) :
    Calls Try.prog 31 #[.slice a 0 cap] w fun e w' => e = .returned (.int .u32 (sumL [])) ∧ Below w.heap.size w w' := by
  have HX : Hid (sumL [] = 0) := by unfold Hid sumL sumF; rw [not_u32 (by omega) (by omega)]; rfl
  generalize sumL [] = X at *
  go_enter Try.func31, Try.ntmps31
  go_wp2_with fail
  go_loopw [3, 9] (fun q i wr => q = .int .u32 4294967295 ∧ i = .int .i64 0 ∧ wr = w) (fun _ i _ => 0)
  case atStart => exact ⟨rfl, rfl, rfl⟩
  case round =>
    obtain ⟨rfl, rfl, rfl⟩ := hrel
    go_wp2
    go_ret
    exact ⟨ret_int (by rw [HX.out]; rfl), Below.refl _ _⟩

theorem implSum_any (a : Option Addr) (cap : Nat) (l : List Int) (w : World) (hs : BSrc w a l) (hl : isBytes l) (hn : l.length ≤ 16777216) :
    Calls Try.prog 31 #[.slice a l.length cap] w fun e w' => e = .returned (.int .u32 (sumL l)) ∧ Below w.heap.size w w' := by
  rcases hs with rfl | ⟨b, o, rfl, hb, hp⟩
  · exact implSum_none a cap w
  · exact implSum_some b o cap l w hp hl hn
end Go.Proofs.Ytjfgihmamoiipaa
