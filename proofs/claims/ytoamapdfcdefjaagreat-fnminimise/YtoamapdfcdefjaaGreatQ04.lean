/-
  CondW, CondI, CondJ, CondL, CondM, CondO
-/
import Derived.Test.YtoamapdfcdefjaaGreatQ03
import Derived.Lib.Strings
import Derived.Lib.Slices
import Derived.Lib.Small
import Derived.Lib.Walk
import Derived.Lib.BitFns
namespace Go.Proofs.YtoamapdfcdefjaaGreat
open Go.RowKit
set_option linter.unusedVariables false

theorem bit_and {a k : Nat} (ha : a < 18446744073709551616) (hk : k < 64) : bits .and .u64 (a : Int) (((low k : Nat) : Int) + 1) = ((a &&& 2 ^ k : Nat) : Int) := by
  have e : ((low k : Nat) : Int) + 1 = ((2 ^ k : Nat) : Int) := by have := low_succ k; omega
  rw [e]
  exact u64_and a _ ha (Nat.pow_lt_pow_right (a := 2) (by omega) hk)
theorem bit_yes {a k : Nat} (ha : a < 18446744073709551616) (hk : k < 64) (h : a.testBit k = true) : ¬ bits .and .u64 (a : Int) (((low k : Nat) : Int) + 1) = 0 := by
  rw [bit_and ha hk]
  intro e
  have := (and_bit a k).1 (by omega)
  rw [h] at this; exact absurd this (by decide)
theorem bit_no {a k : Nat} (ha : a < 18446744073709551616) (hk : k < 64) (h : a.testBit k = false) : bits .and .u64 (a : Int) (((low k : Nat) : Int) + 1) = 0 := by
  rw [bit_and ha hk, (and_bit a k).2 h]; rfl
theorem low_lt64 {k : Nat} (hk : k < 64) : low k + 1 ≤ 9223372036854775808 := by
  rw [low_succ]
  exact Nat.pow_le_pow_right (n := 2) (by omega) (show k ≤ 63 by omega)

set_option maxRecDepth 100000 in
set_option maxHeartbeats 2000000 in
theorem l3outside_any (c : K) (f : Nat) (w : World) (ho : c.ok) (hv : validK c = true) (hf : f < 18446744073709551616) :
    Calls Tryz.prog 38 #[conV c, .int .u64 (f : Int)] w fun e w' => ∃ (v : Nat) (s : Bool), e = .returned (.tuple #[.int .u64 (v : Int), .bool s]) ∧ OutK c f v s ∧ v < 18446744073709551616 ∧ Below w.heap.size w w' := by
  have HC : Hid (∀ w, Calls Tryz.prog 58 #[conV c, .int .u64 (f : Int)] w fun e w' => e = .returned (.bool (holdsK c f)) ∧ Below w.heap.size w w') := fun w => l3holds_any c f w ho hf
  have HV : Hid (validK c = true) := hv
  obtain ⟨kind, a, b⟩ := c
  obtain ⟨⟨k0, k1⟩, ha, hb⟩ := ho
  simp only at k0 k1 ha hb
  obtain ⟨H, eH⟩ : ∃ H, holdsK ⟨kind, a, b⟩ f = H := ⟨_, rfl⟩
  have HH : Hid (holdsK ⟨kind, a, b⟩ f = H) := eH
  rw [eH] at HC
  clear eH hv
  simp only [conV] at HC ⊢
  have hf' : (f : Int) ≤ 18446744073709551615 := by omega
  go_enter Tryz.func38, Tryz.ntmps38
  go_wp2_with fail
  have X := BoxK.new w 41 (.int .i64 kind) (.int .u64 (a : Int)) (.int .u64 (b : Int))
  have B0 : Below w.heap.size w (w.alloc (.cells #[.int .i64 kind, .int .u64 (a : Int), .int .u64 (b : Int)] 41)) := (Below.refl _ _).alloc (Nat.le_refl _) _
  generalize w.alloc (.cells #[.int .i64 kind, .int .u64 (a : Int), .int .u64 (b : Int)] 41) = W at *
  refine (HC.out _).mono ?_
  rintro e w1 ⟨rfl, hb1⟩
  obtain ⟨_, x0, x1, x2, _, _, _⟩ := X.keep hb1
  have B1 := B0.trans (hb1.mono B0.size)
  clear X hb1 B0 HC
  cases H with
  | false =>
    go_wp2
    go_ret2
    exact ⟨f, true, rfl, out_first hf HH.out, hf, B1⟩
  | true =>
    by_cases h0 : kind = 0
    · subst h0
      have h00 : a = 0 ∧ b = 0 := by have := HV.out; simp [validK] at this; exact this
      obtain ⟨rfl, rfl⟩ := h00
      go_wp2
      go_ret2
      exact ⟨0, false, rfl, out_any, by omega, B1⟩
    · by_cases h2 : kind = 2
      · subst h2
        have HO : Hid _ := out_range hf hb HH.out
        by_cases hmax : b = 18446744073709551615
        · have hmax' : (b : Int) = 18446744073709551615 := by omega
          go_wp2
          go_ret2
          refine ⟨0, false, rfl, ?_, by omega, B1⟩
          have := HO.out
          simpa [hmax, OutK] using this
        · have hmax' : ((b : Int) == 18446744073709551615) = false := by rw [beq_eq_false_iff_ne]; omega
          have HM : Hid (¬ b = 18446744073709551615) := hmax
          have hb' : (b : Int) < 18446744073709551615 := by omega
          clear hmax
          go_wp2_with fail
          go_wp2
          go_ret2
          refine ⟨b + 1, true, ?_, ?_, by omega, B1⟩
          · simp
          · have := HO.out
            simpa [HM.out, OutK] using this
      · have h1 : kind = 1 := by
          have := HV.out
          simp [validK, h0, h2] at this
          exact this.1
        subst h1
        go_wp2_with fail
        go_loop [6] (fun i => ∃ k : Nat, k ≤ 64 ∧ i = .int .i64 k ∧ Hid (∀ j, j < k → a.testBit j = false)) (fun i => 64 - (intOf i).toNat)
        case atStart => exact ⟨0, by omega, rfl, fun j hj => by omega⟩
        case round =>
          obtain ⟨k, hk, rfl, HJ⟩ := hrel
          by_cases hlt : k < 64
          · have hl := low_lt64 hlt
            have hl' : ((low k : Nat) : Int) + 1 ≤ 9223372036854775808 := by omega
            have HL : Hid (∀ w, Calls Tryz.prog 39 #[.int .i64 (k : Int)] w fun e w' => e = .returned (.int .u64 (low k : Nat)) ∧ w' = w) := fun w => l3low_any k w (by omega)
            have hlt' : (k : Int) < 64 := by omega
            cases hbit : a.testBit k with
            | false =>
              have e1 := bit_no ha hlt hbit
              have HJ' : Hid (∀ j, j < k + 1 → a.testBit j = false) := fun j hj => by
                by_cases hjk : j = k
                · subst hjk; exact hbit
                · exact HJ.out j (by omega)
              clear HJ hbit
              generalize low k = L at *
              go_wp2_with fail
              refine (HL.out _).mono ?_
              rintro e w2 ⟨rfl, rfl⟩
              go_wp2
              go_round
              case rel => exact ⟨k + 1, by omega, by go_num, HJ'⟩
              case measure => simp [intOf]; omega
            | true =>
              have e1 : (bits .and .u64 (a : Int) (((low k : Nat) : Int) + 1) != 0) = true := by rw [bne_iff_ne]; exact bit_yes ha hlt hbit
              have HO : Hid _ := out_mask hf ha hlt HH.out hbit HJ.out
              have HB : Hid (bits .or .u64 (f : Int) ((low k : Nat) : Int) = ((f ||| low k : Nat) : Int)) := u64_or f (low k) hf (by omega)
              have hor := or_lt hf (show low k < 18446744073709551616 by omega)
              clear HJ hbit
              by_cases hmax : f ||| low k = 18446744073709551615
              · have e2 : bits .or .u64 (f : Int) ((low k : Nat) : Int) = 18446744073709551615 := by rw [HB.out, hmax]; rfl
                have HO' : Hid (OutK ⟨1, a, b⟩ f 0 false) := by
                  have := HO.out
                  unfold Hid
                  simpa [hmax, OutK] using this
                clear HO HB hor hmax
                generalize low k = L at *
                go_wp2_with fail
                refine (HL.out _).mono ?_
                rintro e w2 ⟨rfl, rfl⟩
                go_wp2_with fail
                refine (HL.out _).mono ?_
                rintro e w2 ⟨rfl, rfl⟩
                go_wp2
                go_ret2
                exact ⟨0, false, rfl, HO'.out, by omega, B1⟩
              · have HO' : Hid (OutK ⟨1, a, b⟩ f ((f ||| low k) + 1) true) := by
                  have := HO.out
                  unfold Hid
                  simpa [hmax, OutK] using this
                have e2 : bits .or .u64 (f : Int) ((low k : Nat) : Int) = ((f ||| low k : Nat) : Int) := HB.out
                have hm' : (((f ||| low k : Nat) : Int) == 18446744073709551615) = false := by rw [beq_eq_false_iff_ne]; omega
                have hm2 : ((f ||| low k : Nat) : Int) + 1 ≤ 18446744073709551615 := by omega
                clear HO HB hmax
                generalize f ||| low k = F at *
                generalize low k = L at *
                go_wp2_with fail
                refine (HL.out _).mono ?_
                rintro e w2 ⟨rfl, rfl⟩
                go_wp2_with fail
                refine (HL.out _).mono ?_
                rintro e w2 ⟨rfl, rfl⟩
                go_wp2
                go_ret2
                refine ⟨F + 1, true, ?_, HO'.out, by omega, B1⟩
                simp
          · have hk' : k = 64 := by omega
            subst hk'
            have h0 : a = 0 := zero_of_bits ha HJ.out
            have HO : Hid (OutK ⟨1, a, b⟩ f 0 false) := by
              have h1 := HH.out
              subst h0
              exact out_free h1
            clear h0
            go_wp2
            exact bodyPost_ret (v := .tuple #[.int .u64 0, .bool false]) (by simp [results, Tryz.results38, go_sem]) rfl ⟨0, .inl ⟨rfl, HO.out, by omega, B1⟩⟩

theorem ex_dec (P : Prop) : ∃ r : Bool, Hid (r = true ↔ P) := by
  by_cases h : P
  · exact ⟨true, by simp [Hid, h]⟩
  · exact ⟨false, by simp [Hid, h]⟩
theorem dec_yes {P : Prop} {r : Bool} (H : Hid (r = true ↔ P)) (h : P) : r = true := H.out.2 h
theorem dec_no {P : Prop} {r : Bool} (H : Hid (r = true ↔ P)) (h : ¬ P) : r = false := by
  cases r with
  | false => rfl
  | true => exact absurd (H.out.1 rfl) h
theorem dec_eq {P : Prop} {r : Bool} (H : Hid (r = true ↔ P)) {s : Bool} (h : s = true ↔ P) : r = s := by
  rw [Bool.eq_iff_iff, H.out, h]
theorem ret_boolr {r s : Bool} (h : r = s) : Ending.returned (.bool s) = Ending.returned (.bool r) := by rw [h]

set_option maxRecDepth 100000 in
set_option maxHeartbeats 2000000 in
theorem l3within_any (c d : K) (r : Bool) (w : World) (ho : c.ok) (hv : validK c = true) (ho' : d.ok) (hv' : validK d = true) (H : Hid (r = true ↔ Within c d)) :
    Calls Tryz.prog 20 #[conV c, conV d] w fun e w' => e = .returned (.bool r) ∧ Below w.heap.size w w' := by
  have HC : Hid (∀ w, Calls Tryz.prog 37 #[conV c] w fun e w' => e = .returned (blkV c) ∧ Below w.heap.size w w') := fun w => l3block_any c w ho hv
  have HD : Hid (∀ f : Nat, f < 18446744073709551616 → ∀ w, Calls Tryz.prog 38 #[conV d, .int .u64 (f : Int)] w fun e w' => ∃ (v : Nat) (s : Bool), e = .returned (.tuple #[.int .u64 (v : Int), .bool s]) ∧ OutK d f v s ∧ v < 18446744073709551616 ∧ Below w.heap.size w w') := fun f hf w => l3outside_any d f w ho' hv' hf
  have HW : Hid (∀ lo hi v s, blockK c = some (lo, hi) → OutK d lo v s → ((!s || decide (hi < v)) = true ↔ Within c d)) := fun lo hi v s h h1 => out_within ho hv h h1
  have HB : Hid (∀ lo hi, blockK c = some (lo, hi) → lo ≤ hi ∧ hi < 18446744073709551616) := fun lo hi h => block_lt ho hv h
  have HV : Hid (validK c = true) := hv
  have HV' : Hid (validK d = true) := hv'
  obtain ⟨ck, ca, cb⟩ := c
  obtain ⟨dk, da, db⟩ := d
  obtain ⟨_, hca, hcb⟩ := ho
  obtain ⟨_, hda, hdb⟩ := ho'
  simp only at hca hcb hda hdb
  clear hv hv'
  obtain ⟨P, hP⟩ : ∃ P, Within ⟨ck, ca, cb⟩ ⟨dk, da, db⟩ = P := ⟨_, rfl⟩
  have HP : Hid (Within ⟨ck, ca, cb⟩ ⟨dk, da, db⟩ = P) := hP
  rw [hP] at HW H
  clear hP
  simp only [conV] at HC HD ⊢
  go_enter Tryz.func20, Tryz.ntmps20
  go_wp2_with fail
  have X := (BoxK.new w 41 (.int .i64 ck) (.int .u64 (ca : Int)) (.int .u64 (cb : Int))).alloc (.cells #[.int .i64 dk, .int .u64 (da : Int), .int .u64 (db : Int)] 41)
  have Y := BoxK.new (w.alloc (.cells #[.int .i64 ck, .int .u64 (ca : Int), .int .u64 (cb : Int)] 41)) 41 (.int .i64 dk) (.int .u64 (da : Int)) (.int .u64 (db : Int))
  have hsz : (w.alloc (.cells #[.int .i64 ck, .int .u64 (ca : Int), .int .u64 (cb : Int)] 41)).heap.size = w.heap.size + 1 := by simp
  have B0 : Below w.heap.size w ((w.alloc (.cells #[.int .i64 ck, .int .u64 (ca : Int), .int .u64 (cb : Int)] 41)).alloc (.cells #[.int .i64 dk, .int .u64 (da : Int), .int .u64 (db : Int)] 41)) := ((Below.refl _ _).alloc (Nat.le_refl _) _).alloc (by simp) _
  rw [hsz] at Y
  generalize (w.alloc (.cells #[.int .i64 ck, .int .u64 (ca : Int), .int .u64 (cb : Int)] 41)).alloc (.cells #[.int .i64 dk, .int .u64 (da : Int), .int .u64 (db : Int)] 41) = W at *
  clear hsz
  refine (HC.out _).mono ?_
  rintro e w1 ⟨rfl, hb1⟩
  have X1 := X.keep hb1
  have Y1 := Y.keep hb1
  have B1 := B0.trans (hb1.mono B0.size)
  clear X Y hb1 B0 HC
  obtain ⟨_, x0, x1, x2, _, _, _⟩ := X1
  obtain ⟨_, y0, y1, y2, _, _, _⟩ := Y1
  cases hb : blockK ⟨ck, ca, cb⟩ with
  | some q =>
    obtain ⟨lo, hi⟩ := q
    have HE : Hid (blkV ⟨ck, ca, cb⟩ = .tuple #[.int .u64 (lo : Int), .int .u64 (hi : Int), .bool true]) := by unfold Hid blkV; rw [hb]
    rw [HE.out]
    obtain ⟨hle, hh⟩ := HB.out lo hi hb
    have HW' : Hid (∀ v s, OutK ⟨dk, da, db⟩ lo v s → ((!s || decide (hi < v)) = true ↔ P)) := fun v s => HW.out lo hi v s hb
    clear hb HE HB HW HV HV' HP
    go_wp2_with fail
    refine (HD.out lo (by omega) _).mono ?_
    rintro e w2 ⟨v, s, rfl, hO, hvl, hb2⟩
    have HR : Hid _ := HW'.out v s hO
    have B2 := B1.trans (hb2.mono B1.size)
    clear hO HW' HD
    cases s with
    | false =>
      go_wp2
      go_ret
      exact ⟨ret_boolr (dec_eq H HR.out), B2⟩
    | true =>
      by_cases hlt : hi < v
      · have hlt' : (hi : Int) < (v : Int) := by omega
        go_wp2
        go_ret
        refine ⟨ret_boolr (dec_yes H ?_), B2⟩
        have := HR.out
        simpa [hlt] using this
      · have hlt' : ¬ (hi : Int) < (v : Int) := by omega
        go_wp2
        go_ret
        refine ⟨ret_boolr (dec_no H ?_), B2⟩
        have := HR.out
        simpa [hlt] using this
  | none =>
    have HE : Hid (blkV ⟨ck, ca, cb⟩ = .tuple #[.int .u64 0, .int .u64 0, .bool false]) := by unfold Hid blkV; rw [hb]
    rw [HE.out]
    have h1 : ck = 1 ∧ ca ||| cb = ca := by
      rcases K.valid_cases HV.out with h | ⟨a, b, h, h1⟩ | ⟨a, b, h, h1⟩
      · rw [h] at hb; simp [blockK] at hb
      · cases h; exact ⟨rfl, h1⟩
      · rw [h] at hb; simp [blockK] at hb
    obtain ⟨rfl, hcv⟩ := h1
    clear hb HE HB HW HD HV
    by_cases h2 : dk = 2
    · subst h2
      have HR : Hid (P ↔ (da ≤ cb ∧ cb ||| inv ca ≤ db)) := by unfold Hid; rw [← HP.out]; exact mask_in_range hca hcv
      have HB : Hid (bits .or .u64 (cb : Int) (18446744073709551615 - (ca : Int)) = ((cb ||| inv ca : Nat) : Int)) := by
        have e : 18446744073709551615 - (ca : Int) = ((inv ca : Nat) : Int) := by unfold inv; omega
        unfold Hid
        rw [e]; exact u64_or cb _ hcb (inv_lt _)
      have hca' : (ca : Int) ≤ 18446744073709551615 := by omega
      clear HP HV' hcv
      by_cases g1 : da ≤ cb
      · have g1' : (da : Int) ≤ (cb : Int) := by omega
        by_cases g2 : cb ||| inv ca ≤ db
        · have g2' : bits .or .u64 (cb : Int) (18446744073709551615 - (ca : Int)) ≤ (db : Int) := by rw [HB.out]; omega
          have HR' : Hid P := HR.out.2 ⟨g1, g2⟩
          clear HR HB g2 g1
          go_wp2
          go_ret
          exact ⟨by rw [dec_yes H HR'.out]; simp, B1⟩
        · have g2' : ¬ bits .or .u64 (cb : Int) (18446744073709551615 - (ca : Int)) ≤ (db : Int) := by rw [HB.out]; omega
          have HR' : Hid (¬ P) := fun h => g2 (HR.out.1 h).2
          have HG : Hid (decide (bits .or .u64 (cb : Int) (18446744073709551615 - (ca : Int)) ≤ (db : Int)) = false) := decide_eq_false g2'
          clear HR HB g2 g1 g2'
          go_wp2
          go_ret
          refine ⟨?_, B1⟩
          rw [dec_no H HR'.out]
          simp [HG.out]
      · have g1' : ¬ (da : Int) ≤ (cb : Int) := by omega
        have HR' : Hid (¬ P) := fun h => g1 (HR.out.1 h).1
        clear HR HB g1
        go_wp2
        go_ret
        exact ⟨by rw [dec_no H HR'.out]; simp, B1⟩
    · have HR : Hid (P ↔ ∀ k, k < 64 → da.testBit k = true → ca.testBit k = true ∧ cb.testBit k = db.testBit k) := by
        unfold Hid
        rw [← HP.out]
        rcases K.valid_cases HV'.out with h | ⟨a, b, h, h1⟩ | ⟨a, b, h, h1⟩
        · cases h
          constructor
          · intro _ k _ h; simp at h
          · intro _; exact mask_any
        · cases h; exact mask_mask_bits hca hda hcv h1
        · cases h; exact absurd rfl h2
      have hca' : (ca : Int) ≤ 18446744073709551615 := by omega
      have hd2 : (dk == 2) = false := by simp [h2]
      clear HP HV' hcv h2
      go_wp2_with fail
      go_loopw [12] (fun i wr => ∃ k : Nat, k ≤ 64 ∧ i = .int .i64 k ∧ Hid (∀ j, j < k → da.testBit j = true → ca.testBit j = true ∧ cb.testBit j = db.testBit j) ∧ wr = w1) (fun i _ => 64 - (intOf i).toNat)
      case atStart => exact ⟨0, by omega, rfl, fun j hj => by omega, rfl⟩
      case round =>
        obtain ⟨k, hk, rfl, HJ, rfl⟩ := hrel
        by_cases hlt : k < 64
        · have hl := low_lt64 hlt
          have hl' : ((low k : Nat) : Int) + 1 ≤ 9223372036854775808 := by omega
          have HL : Hid (∀ w, Calls Tryz.prog 39 #[.int .i64 (k : Int)] w fun e w' => e = .returned (.int .u64 (low k : Nat)) ∧ w' = w) := fun w => l3low_any k w (by omega)
          have hlt' : (k : Int) < 64 := by omega
          have HJ1 : Hid ((da.testBit k = true → ca.testBit k = true ∧ cb.testBit k = db.testBit k) → ∀ j, j < k + 1 → da.testBit j = true → ca.testBit j = true ∧ cb.testBit j = db.testBit j) := fun h j hj => by
            by_cases hjk : j = k
            · subst hjk; exact h
            · exact HJ.out j (by omega)
          cases hbit : da.testBit k with
          | false =>
            have e1 : (bits .and .u64 (da : Int) (((low k : Nat) : Int) + 1) != 0) = false := by rw [bit_no hda hlt hbit]; rfl
            have HJ' : Hid (∀ j, j < k + 1 → da.testBit j = true → ca.testBit j = true ∧ cb.testBit j = db.testBit j) := HJ1.out fun h => by rw [hbit] at h; exact absurd h (by decide)
            clear HJ HJ1 hbit HR
            generalize low k = L at *
            go_wp2_with fail
            refine (HL.out _).mono ?_
            rintro e w2 ⟨rfl, rfl⟩
            go_wp2
            go_roundw
            case rel => exact ⟨k + 1, by omega, by go_num, HJ', trivial⟩
            case measure => simp [intOf]; omega
          | true =>
            have e1 : (bits .and .u64 (da : Int) (((low k : Nat) : Int) + 1) != 0) = true := by rw [bne_iff_ne]; exact bit_yes hda hlt hbit
            cases hbc : ca.testBit k with
            | false =>
              have e2 : (bits .and .u64 (ca : Int) (((low k : Nat) : Int) + 1) == 0) = true := by rw [bit_no hca hlt hbc]; rfl
              have HR' : Hid (¬ P) := fun h => by
                have := (HR.out.1 h k hlt hbit).1
                rw [hbc] at this; exact absurd this (by decide)
              clear HJ HJ1 hbit HR hbc
              generalize low k = L at *
              go_wp2_with fail
              refine (HL.out _).mono ?_
              rintro e w2 ⟨rfl, rfl⟩
              go_wp2
              go_ret
              exact ⟨by rw [dec_no H HR'.out]; simp, B1⟩
            | true =>
              have e2 : (bits .and .u64 (ca : Int) (((low k : Nat) : Int) + 1) == 0) = false := by rw [beq_eq_false_iff_ne]; exact bit_yes hca hlt hbc
              by_cases hbb : cb.testBit k = db.testBit k
              · have e3 : (bits .and .u64 (cb : Int) (((low k : Nat) : Int) + 1) != bits .and .u64 (db : Int) (((low k : Nat) : Int) + 1)) = false := by
                  rw [bit_and hcb hlt, bit_and hdb hlt, (and_bit_eq cb db k).2 hbb]; simp
                have HJ' : Hid (∀ j, j < k + 1 → da.testBit j = true → ca.testBit j = true ∧ cb.testBit j = db.testBit j) := HJ1.out fun h => ⟨hbc, hbb⟩
                clear HJ HJ1 hbit HR hbb hbc
                generalize low k = L at *
                go_wp2_with fail
                refine (HL.out _).mono ?_
                rintro e w2 ⟨rfl, rfl⟩
                go_wp2
                go_roundw
                case rel => exact ⟨k + 1, by omega, by go_num, HJ', trivial⟩
                case measure => simp [intOf]; omega
              · have e3 : (bits .and .u64 (cb : Int) (((low k : Nat) : Int) + 1) != bits .and .u64 (db : Int) (((low k : Nat) : Int) + 1)) = true := by
                  rw [bit_and hcb hlt, bit_and hdb hlt, bne_iff_ne]
                  intro e
                  exact hbb ((and_bit_eq cb db k).1 (by omega))
                have HR' : Hid (¬ P) := fun h => hbb (HR.out.1 h k hlt hbit).2
                clear HJ HJ1 hbit HR hbb hbc
                generalize low k = L at *
                go_wp2_with fail
                refine (HL.out _).mono ?_
                rintro e w2 ⟨rfl, rfl⟩
                go_wp2
                go_ret
                exact ⟨by rw [dec_no H HR'.out]; simp, B1⟩
        · have hk' : k = 64 := by omega
          subst hk'
          have HR' : Hid P := HR.out.2 HJ.out
          clear HR HJ
          go_wp2
          go_ret
          exact ⟨by rw [dec_yes H HR'.out]; simp, B1⟩

theorem specWithin_any (c d : K) (r : Bool) (w : World) (ho : c.ok) (ho' : d.ok) (H : Hid (r = true ↔ (validK c = true ∧ validK d = true ∧ Within c d))) :
    Calls Tryz.prog 8 #[conV c, conV d] w fun e w' => e = .returned (.bool r) ∧ Below w.heap.size w w' := by
  have HC : Hid (∀ w, Calls Tryz.prog 19 #[conV c] w fun e w' => e = .returned (.bool (validK c)) ∧ Below w.heap.size w w') := fun w => l3conOK_any c w ho
  have HD : Hid (∀ w, Calls Tryz.prog 19 #[conV d] w fun e w' => e = .returned (.bool (validK d)) ∧ Below w.heap.size w w') := fun w => l3conOK_any d w ho'
  have HN : Hid (validK c = true → validK d = true → ∀ w, Calls Tryz.prog 20 #[conV c, conV d] w fun e w' => e = .returned (.bool r) ∧ Below w.heap.size w w') := fun h h' w => l3within_any c d r w ho h ho' h' (by
    have := H.out
    unfold Hid
    simpa [h, h'] using this)
  have HF : Hid (validK c = false ∨ validK d = false → r = false) := by
    rintro (h | h) <;> refine dec_no H ?_ <;> simp [h]
  clear H
  obtain ⟨V, hV⟩ : ∃ V, validK c = V := ⟨_, rfl⟩
  obtain ⟨V', hV'⟩ : ∃ V', validK d = V' := ⟨_, rfl⟩
  rw [hV] at HC HN HF
  rw [hV'] at HD HN HF
  clear hV hV'
  obtain ⟨ck, ca, cb⟩ := c
  obtain ⟨dk, da, db⟩ := d
  simp only [conV] at HC HD HN ⊢
  go_enter Tryz.func8, Tryz.ntmps8
  go_wp2_with fail
  have X := (BoxK.new w 41 (.int .i64 ck) (.int .u64 (ca : Int)) (.int .u64 (cb : Int))).alloc (.cells #[.int .i64 dk, .int .u64 (da : Int), .int .u64 (db : Int)] 41)
  have Y := BoxK.new (w.alloc (.cells #[.int .i64 ck, .int .u64 (ca : Int), .int .u64 (cb : Int)] 41)) 41 (.int .i64 dk) (.int .u64 (da : Int)) (.int .u64 (db : Int))
  have hsz : (w.alloc (.cells #[.int .i64 ck, .int .u64 (ca : Int), .int .u64 (cb : Int)] 41)).heap.size = w.heap.size + 1 := by simp
  have B0 : Below w.heap.size w ((w.alloc (.cells #[.int .i64 ck, .int .u64 (ca : Int), .int .u64 (cb : Int)] 41)).alloc (.cells #[.int .i64 dk, .int .u64 (da : Int), .int .u64 (db : Int)] 41)) := ((Below.refl _ _).alloc (Nat.le_refl _) _).alloc (by simp) _
  rw [hsz] at Y
  generalize (w.alloc (.cells #[.int .i64 ck, .int .u64 (ca : Int), .int .u64 (cb : Int)] 41)).alloc (.cells #[.int .i64 dk, .int .u64 (da : Int), .int .u64 (db : Int)] 41) = W at *
  clear hsz
  refine (HC.out _).mono ?_
  rintro e w1 ⟨rfl, hb1⟩
  have X1 := X.keep hb1
  have Y1 := Y.keep hb1
  have B1 := B0.trans (hb1.mono B0.size)
  clear X Y hb1 B0 HC
  cases V with
  | false =>
    go_wp2
    go_ret
    exact ⟨ret_boolr (HF.out (.inl (by first | rfl | trivial))), B1⟩
  | true =>
    obtain ⟨_, y0, y1, y2, _, _, _⟩ := Y1
    go_wp2_with fail
    refine (HD.out _).mono ?_
    rintro e w2 ⟨rfl, hb2⟩
    have B2 := B1.trans (hb2.mono B1.size)
    have Y2 : BoxK w1 (w.heap.size + 1) (.int .i64 dk) (.int .u64 (da : Int)) (.int .u64 (db : Int)) := by constructor <;> assumption
    have Y3 := Y2.keep hb2
    have X3 := X1.keep hb2
    clear X1 Y2 hb2 y0 y1 y2
    cases V' with
    | false =>
      go_wp2
      go_ret
      exact ⟨ret_boolr (HF.out (.inr (by first | rfl | trivial))), B2⟩
    | true =>
      obtain ⟨_, x0, x1, x2, _, _, _⟩ := X3
      obtain ⟨_, y0, y1, y2, _, _, _⟩ := Y3
      have HN' : Hid (∀ w, Calls Tryz.prog 20 #[.agg #[.int .i64 ck, .int .u64 (ca : Int), .int .u64 (cb : Int)], .agg #[.int .i64 dk, .int .u64 (da : Int), .int .u64 (db : Int)]] w fun e w' => e = .returned (.bool r) ∧ Below w.heap.size w w') := HN.out (by first | rfl | trivial) (by first | rfl | trivial)
      clear HN HD HF
      go_wp2_with fail
      refine (HN'.out _).mono ?_
      rintro e w3 ⟨rfl, hb3⟩
      have B3 := B2.trans (hb3.mono B2.size)
      go_wp2
      go_ret
      exact ⟨rfl, B3⟩
end Go.Proofs.YtoamapdfcdefjaaGreat
namespace Go.Proofs.YtoamapdfcdefjaaGreat
open Go.RowKit
set_option linter.unusedVariables false

/-- a condition inside the program -/
def setV (c : K) : Value :=
  if c.kind = 1 then .iface 122 (.agg #[.int .u64 (c.a : Int), .int .u64 (c.b : Int)])
  else if c.kind = 2 then .iface 125 (.agg #[.int .u64 (c.a : Int), .int .u64 (c.b : Int)])
  else .iface 110 (.agg #[])

theorem u64_xor (a b : Nat) (ha : a < 18446744073709551616) (hb : b < 18446744073709551616) : bits .xor .u64 (a : Int) (b : Int) = ((a ^^^ b : Nat) : Int) := bits_xor_u64_nat a b ha hb
theorem u64_andNot (a b : Nat) (ha : a < 18446744073709551616) (hb : b < 18446744073709551616) : bits .andNot .u64 (a : Int) (b : Int) = ((a &&& inv b : Nat) : Int) := by
  have hx : a &&& inv b < 2 ^ 64 := Nat.and_lt_two_pow _ (inv_lt b)
  have h1 : (BitVec.ofInt 64 (a : Int)).toNat = a := by
    rw [BitVec.ofInt_natCast, BitVec.toNat_ofNat]; exact Nat.mod_eq_of_lt (by omega)
  have h2 : (BitVec.ofInt 64 (b : Int)).toNat = b := by
    rw [BitVec.ofInt_natCast, BitVec.toNat_ofNat]; exact Nat.mod_eq_of_lt (by omega)
  show IntKind.u64.wrap ((BitVec.ofInt 64 (a : Int) &&& ~~~ BitVec.ofInt 64 (b : Int)).toNat : Int) = _
  rw [BitVec.toNat_and, BitVec.toNat_not, h1, h2, IntKind.wrap_u64]
  have e : 2 ^ 64 - 1 - b = inv b := by unfold inv; omega
  rw [e]
  omega
theorem u64_not (a : Nat) (ha : a < 18446744073709551616) : bits .xor .u64 IntKind.u64.max (a : Int) = ((inv a : Nat) : Int) := by
  have e : IntKind.u64.max = ((18446744073709551615 : Nat) : Int) := by decide
  rw [e, u64_xor _ _ (by omega) ha]
  congr 1
  apply Nat.eq_of_testBit_eq
  intro i
  rw [Nat.testBit_xor, bit_inv ha, ← low_64, bit_low]
  by_cases h : i < 64
  · simp [h]
  · simp [h, bit_hi ha (show 64 ≤ i by omega)]
theorem andNot_zero {a b : Nat} (ha : a < 18446744073709551616) (hb : b < 18446744073709551616) : (b &&& inv a == 0) = (a ||| b == a) := by
  rw [Bool.eq_iff_iff, beq_iff_eq, beq_iff_eq]
  constructor
  · intro h
    rw [and_zero_iff] at h
    apply Nat.eq_of_testBit_eq
    intro i
    rw [Nat.testBit_or]
    have := h i
    rw [bit_inv ha] at this
    rcases Nat.lt_or_ge i 64 with h1 | h1
    · revert this
      cases a.testBit i <;> cases b.testBit i <;> simp [h1]
    · rw [bit_hi hb h1, Bool.or_false]
  · exact mask_free ha

set_option maxRecDepth 100000 in
set_option maxHeartbeats 1000000 in
theorem isValidCon_any (c : K) (w : World) (ho : c.ok) :
    Calls Tryz.prog 64 #[conV c] w fun e w' => e = .returned (.bool (validK c)) ∧ Below w.heap.size w w' := by
  obtain ⟨kind, a, b⟩ := c
  obtain ⟨⟨k0, k1⟩, ha, hb⟩ := ho
  simp only at k0 k1 ha hb
  simp only [conV]
  have B : Below w.heap.size w (w.alloc (.cells #[.int .i64 kind, .int .u64 (a : Int), .int .u64 (b : Int)] 41)) := (Below.refl _ _).alloc (Nat.le_refl _) _
  obtain ⟨V, hV⟩ : ∃ V, validK ⟨kind, a, b⟩ = V := ⟨_, rfl⟩
  have HV : Hid (validK ⟨kind, a, b⟩ = V) := hV
  rw [hV]
  clear hV
  by_cases h0 : kind = 0
  · subst h0
    by_cases ha0 : a = 0
    · subst ha0
      go_enter Tryz.func64, Tryz.ntmps64
      go_wp2
      go_ret
      exact ⟨by rw [← HV.out, beq_cast0]; simp [validK], B⟩
    · have ha1 : ¬ (a : Int) = 0 := by omega
      go_enter Tryz.func64, Tryz.ntmps64
      go_wp2
      go_ret
      exact ⟨by rw [← HV.out]; simp [validK, ha0], B⟩
  · by_cases h1 : kind = 1
    · subst h1
      have HB : Hid (bits .andNot .u64 (b : Int) (a : Int) = ((b &&& inv a : Nat) : Int)) := u64_andNot b a hb ha
      go_enter Tryz.func64, Tryz.ntmps64
      go_wp2
      go_ret
      refine ⟨?_, B⟩
      rw [← HV.out, HB.out, beq_cast0, andNot_zero ha hb]
      simp [validK]
    · by_cases h2 : kind = 2
      · subst h2
        by_cases hab : a ≤ b
        · have hab' : (a : Int) ≤ (b : Int) := by omega
          go_enter Tryz.func64, Tryz.ntmps64
          go_wp2
          go_ret
          exact ⟨by rw [← HV.out]; simp [validK, hab], B⟩
        · have hab' : ¬ (a : Int) ≤ (b : Int) := by omega
          go_enter Tryz.func64, Tryz.ntmps64
          go_wp2
          go_ret
          exact ⟨by rw [← HV.out]; simp [validK, hab], B⟩
      · go_enter Tryz.func64, Tryz.ntmps64
        go_wp2
        go_ret
        exact ⟨by rw [← HV.out]; simp [validK, h0, h1, h2], B⟩

set_option maxRecDepth 100000 in
set_option maxHeartbeats 1000000 in
theorem isLowOnes_any (v : Nat) (w : World) (hv : v < 18446744073709551616) :
    Calls Tryz.prog 75 #[.int .u64 (v : Int)] w fun e w' => e = .returned (.bool (isLow v)) ∧ w' = w := by
  have HB : Hid (bits .and .u64 (v : Int) (IntKind.u64.wrap ((v : Int) + 1)) = ((v &&& ((v + 1) % 18446744073709551616) : Nat) : Int)) := by
    have e : IntKind.u64.wrap ((v : Int) + 1) = (((v + 1) % 18446744073709551616 : Nat) : Int) := by rw [IntKind.wrap_u64]; omega
    unfold Hid
    rw [e]; exact u64_and v _ hv (by omega)
  go_enter Tryz.func75, Tryz.ntmps75
  go_wp2
  go_ret
  refine ⟨?_, rfl⟩
  rw [HB.out, beq_cast0]; rfl

set_option maxRecDepth 100000 in
set_option maxHeartbeats 1000000 in
theorem newMask_any (m v : Nat) (w : World) (hm : m < 18446744073709551616) (hv : v < 18446744073709551616) :
    Calls Tryz.prog 65 #[.int .u64 (m : Int), .int .u64 (v : Int)] w fun e w' => e = .returned (setV (newMask m v)) ∧ w' = w := by
  by_cases h0 : m = 0
  · subst h0
    go_enter Tryz.func65, Tryz.ntmps65
    go_wp2
    go_ret
    exact ⟨rfl, rfl⟩
  · have h1 : ¬ (m : Int) = 0 := by omega
    have HE : Hid (setV (newMask m v) = .iface 122 (.agg #[.int .u64 (m : Int), .int .u64 (v : Int)])) := by unfold Hid newMask; rw [if_neg h0]; rfl
    rw [HE.out]
    go_enter Tryz.func65, Tryz.ntmps65
    go_wp2
    go_ret
    exact ⟨rfl, rfl⟩

set_option maxRecDepth 100000 in
set_option maxHeartbeats 1000000 in
theorem newRange_any (l h : Nat) (w : World) (hl : l < 18446744073709551616) (hh : h < 18446744073709551616) :
    Calls Tryz.prog 66 #[.int .u64 (l : Int), .int .u64 (h : Int)] w fun e w' => e = .returned (setV (newRange l h)) ∧ w' = w := by
  have hx := xor_lt hl hh
  have HX : bits .xor .u64 (l : Int) (h : Int) = ((l ^^^ h : Nat) : Int) := u64_xor l h hl hh
  have HL : Hid (∀ w, Calls Tryz.prog 75 #[.int .u64 ((l ^^^ h : Nat) : Int)] w fun e w' => e = .returned (.bool (isLow (l ^^^ h))) ∧ w' = w) := fun w => isLowOnes_any _ w hx
  have HM : Hid (∀ w, Calls Tryz.prog 65 #[.int .u64 ((inv (l ^^^ h) : Nat) : Int), .int .u64 (l : Int)] w fun e w' => e = .returned (setV (newMask (inv (l ^^^ h)) l)) ∧ w' = w) := fun w => newMask_any _ l w (inv_lt _) hl
  have HA : Hid (bits .and .u64 (l : Int) ((l ^^^ h : Nat) : Int) = ((l &&& (l ^^^ h) : Nat) : Int)) := u64_and l _ hl hx
  have HI : Hid (bits .xor .u64 IntKind.u64.max ((l ^^^ h : Nat) : Int) = ((inv (l ^^^ h) : Nat) : Int)) := u64_not _ hx
  by_cases e1 : isLow (l ^^^ h) = true
  · by_cases e2 : l &&& (l ^^^ h) = 0
    · have HE : Hid (newRange l h = newMask (inv (l ^^^ h)) l) := by unfold Hid newRange; rw [if_pos ⟨e1, e2⟩]
      have e2' : bits .and .u64 (l : Int) ((l ^^^ h : Nat) : Int) = 0 := by rw [HA.out, e2]; rfl
      rw [HE.out]
      rw [e1] at HL
      clear HE HA e1 e2
      have e3 := HI.out
      clear HI
      generalize newMask (inv (l ^^^ h)) l = N at *
      generalize inv (l ^^^ h) = I at *
      generalize l ^^^ h = x at *
      go_enter Tryz.func66, Tryz.ntmps66
      go_wp2_with fail
      refine (HL.out _).mono ?_
      rintro e w1 ⟨rfl, rfl⟩
      go_wp2_with fail
      refine (HM.out _).mono ?_
      rintro e w1 ⟨rfl, rfl⟩
      go_wp2
      go_ret
      exact ⟨rfl, rfl⟩
    · have HE : Hid (setV (newRange l h) = .iface 125 (.agg #[.int .u64 (l : Int), .int .u64 (h : Int)])) := by unfold Hid newRange; rw [if_neg (fun q => e2 q.2)]; rfl
      have e2' : ¬ bits .and .u64 (l : Int) ((l ^^^ h : Nat) : Int) = 0 := by rw [HA.out]; omega
      rw [HE.out]
      rw [e1] at HL
      clear HE HA e1 e2 HM HI
      generalize l ^^^ h = x at *
      go_enter Tryz.func66, Tryz.ntmps66
      go_wp2_with fail
      refine (HL.out _).mono ?_
      rintro e w1 ⟨rfl, rfl⟩
      go_wp2
      go_ret
      exact ⟨rfl, rfl⟩
  · have HE : Hid (setV (newRange l h) = .iface 125 (.agg #[.int .u64 (l : Int), .int .u64 (h : Int)])) := by unfold Hid newRange; rw [if_neg (fun q => e1 q.1)]; rfl
    rw [HE.out]
    rw [Bool.not_eq_true] at e1
    rw [e1] at HL
    clear HE HA e1 HM HI
    generalize l ^^^ h = x at *
    go_enter Tryz.func66, Tryz.ntmps66
    go_wp2_with fail
    refine (HL.out _).mono ?_
    rintro e w1 ⟨rfl, rfl⟩
    go_wp2
    go_ret
    exact ⟨rfl, rfl⟩

set_option maxRecDepth 100000 in
set_option maxHeartbeats 1000000 in
theorem conditionOf_any (c : K) (w : World) (ho : c.ok) :
    Calls Tryz.prog 50 #[conV c] w fun e w' => e = .returned (setV (normK c)) ∧ Below w.heap.size w w' := by
  obtain ⟨kind, a, b⟩ := c
  obtain ⟨⟨k0, k1⟩, ha, hb⟩ := ho
  simp only at k0 k1 ha hb
  simp only [conV]
  have B : Below w.heap.size w (w.alloc (.cells #[.int .i64 kind, .int .u64 (a : Int), .int .u64 (b : Int)] 41)) := (Below.refl _ _).alloc (Nat.le_refl _) _
  by_cases h1 : kind = 1
  · subst h1
    have HE : Hid (normK ⟨1, a, b⟩ = newMask a b) := rfl
    have HM : Hid (∀ w, Calls Tryz.prog 65 #[.int .u64 (a : Int), .int .u64 (b : Int)] w fun e w' => e = .returned (setV (newMask a b)) ∧ w' = w) := fun w => newMask_any a b w ha hb
    rw [HE.out]
    clear HE
    generalize newMask a b = N at *
    go_enter Tryz.func50, Tryz.ntmps50
    go_wp2_with fail
    refine (HM.out _).mono ?_
    rintro e w1 ⟨rfl, rfl⟩
    go_wp2
    go_ret
    exact ⟨rfl, B⟩
  · by_cases h2 : kind = 2
    · subst h2
      have HE : Hid (normK ⟨2, a, b⟩ = newRange a b) := rfl
      have HM : Hid (∀ w, Calls Tryz.prog 66 #[.int .u64 (a : Int), .int .u64 (b : Int)] w fun e w' => e = .returned (setV (newRange a b)) ∧ w' = w) := fun w => newRange_any a b w ha hb
      rw [HE.out]
      clear HE
      generalize newRange a b = N at *
      go_enter Tryz.func50, Tryz.ntmps50
      go_wp2_with fail
      refine (HM.out _).mono ?_
      rintro e w1 ⟨rfl, rfl⟩
      go_wp2
      go_ret
      exact ⟨rfl, B⟩
    · have HE : Hid (setV (normK ⟨kind, a, b⟩) = .iface 110 (.agg #[])) := by simp [Hid, normK, h1, h2, setV]
      rw [HE.out]
      go_enter Tryz.func50, Tryz.ntmps50
      go_wp2
      go_ret
      exact ⟨rfl, B⟩
end Go.Proofs.YtoamapdfcdefjaaGreat
namespace Go.Proofs.YtoamapdfcdefjaaGreat
open Go.RowKit
set_option linter.unusedVariables false

theorem lib_len : ∀ n x : Nat, x ≤ n → x < 18446744073709551616 → Lib.bitLen x = lenN x
  | 0, x, h, _ => by
    have : x = 0 := by omega
    subst this; decide
  | n + 1, x, h, hx => by
    by_cases h0 : x = 0
    · subst h0; decide
    · rw [Lib.bitLen_half x h0 hx, lib_len n (x / 2) (by omega) (by omega)]
      unfold lenN
      by_cases h1 : x = 1
      · subst h1; decide
      · rw [if_neg h0, if_neg (by omega), Nat.log2_def x, if_pos (by omega)]; omega

/-- the table's byte, and what was shifted away -/
theorem len_case {x y : Int} (s : Nat) (h0 : 0 ≤ x) (h1 : x ≤ 18446744073709551615) (hy0 : 0 ≤ y) (hy : y ≤ 255) (e : x.toNat / 2 ^ s = y.toNat) (hs : 2 ^ s ≤ x.toNat) : Lib.len8 y = (Lib.bitLen x.toNat : Int) - s ∧ Lib.bitLen y.toNat ≤ 8 := by
  rw [Lib.len8_of y hy0 hy, Lib.bitLen_shift s x.toNat hs (by omega), e]
  exact ⟨by omega, Lib.bitLen_le8' y hy0 hy⟩
theorem len8_bd {y : Int} (hy0 : 0 ≤ y) (hy : y ≤ 255) : 0 ≤ Lib.len8 y ∧ Lib.len8 y ≤ 8 := by
  have := Lib.bitLen_le8' y hy0 hy
  rw [Lib.len8_of y hy0 hy]; omega

set_option maxRecDepth 100000 in
set_option maxHeartbeats 4000000 in
theorem len64_any (x : Nat) (w : World) (hx : x < 18446744073709551616) :
    Calls Tryz.prog 85 #[.int .u64 (x : Int)] w fun e w' => e = .returned (.int .i64 ((lenN x : Nat) : Int)) ∧ w' = w := by
  have HE : Hid (lenN x = Lib.bitLen (x : Int).toNat) := by unfold Hid; rw [Int.toNat_natCast]; exact (lib_len x x (Nat.le_refl _) hx).symm
  have h0 : 0 ≤ (x : Int) := by omega
  have h1 : (x : Int) ≤ 18446744073709551615 := by omega
  rw [HE.out]
  clear HE hx
  generalize (x : Int) = y at *
  by_cases c3 : (4294967296 : Int) ≤ y
  · by_cases c2 : (65536 : Int) ≤ y / 4294967296
    · by_cases c1 : (256 : Int) ≤ y / 4294967296 / 65536
      · have q0 : 0 ≤ y / 4294967296 / 65536 / 256 := by omega
        have q1 : y / 4294967296 / 65536 / 256 ≤ 255 := by omega
        have HQ : Hid (Lib.len8 (y / 4294967296 / 65536 / 256) = (Lib.bitLen y.toNat : Int) - 56) := (len_case 56 h0 h1 q0 q1 (by omega) (by omega)).1
        obtain ⟨b0, b1⟩ := len8_bd q0 q1
        go_enter Tryz.func85, Tryz.ntmps85
        go_wp2
        go_ret
        refine ⟨ret_int ?_, rfl⟩
        have := HQ.out
        omega
      · have q0 : 0 ≤ y / 4294967296 / 65536 := by omega
        have q1 : y / 4294967296 / 65536 ≤ 255 := by omega
        have HQ : Hid (Lib.len8 (y / 4294967296 / 65536) = (Lib.bitLen y.toNat : Int) - 48) := (len_case 48 h0 h1 q0 q1 (by omega) (by omega)).1
        obtain ⟨b0, b1⟩ := len8_bd q0 q1
        go_enter Tryz.func85, Tryz.ntmps85
        go_wp2
        go_ret
        refine ⟨ret_int ?_, rfl⟩
        have := HQ.out
        omega
    · by_cases c1 : (256 : Int) ≤ y / 4294967296
      · have q0 : 0 ≤ y / 4294967296 / 256 := by omega
        have q1 : y / 4294967296 / 256 ≤ 255 := by omega
        have HQ : Hid (Lib.len8 (y / 4294967296 / 256) = (Lib.bitLen y.toNat : Int) - 40) := (len_case 40 h0 h1 q0 q1 (by omega) (by omega)).1
        obtain ⟨b0, b1⟩ := len8_bd q0 q1
        go_enter Tryz.func85, Tryz.ntmps85
        go_wp2
        go_ret
        refine ⟨ret_int ?_, rfl⟩
        have := HQ.out
        omega
      · have q0 : 0 ≤ y / 4294967296 := by omega
        have q1 : y / 4294967296 ≤ 255 := by omega
        have HQ : Hid (Lib.len8 (y / 4294967296) = (Lib.bitLen y.toNat : Int) - 32) := (len_case 32 h0 h1 q0 q1 (by omega) (by omega)).1
        obtain ⟨b0, b1⟩ := len8_bd q0 q1
        go_enter Tryz.func85, Tryz.ntmps85
        go_wp2
        go_ret
        refine ⟨ret_int ?_, rfl⟩
        have := HQ.out
        omega
  · by_cases c2 : (65536 : Int) ≤ y
    · by_cases c1 : (256 : Int) ≤ y / 65536
      · have q0 : 0 ≤ y / 65536 / 256 := by omega
        have q1 : y / 65536 / 256 ≤ 255 := by omega
        have HQ : Hid (Lib.len8 (y / 65536 / 256) = (Lib.bitLen y.toNat : Int) - 24) := (len_case 24 h0 h1 q0 q1 (by omega) (by omega)).1
        obtain ⟨b0, b1⟩ := len8_bd q0 q1
        go_enter Tryz.func85, Tryz.ntmps85
        go_wp2
        go_ret
        refine ⟨ret_int ?_, rfl⟩
        have := HQ.out
        omega
      · have q0 : 0 ≤ y / 65536 := by omega
        have q1 : y / 65536 ≤ 255 := by omega
        have HQ : Hid (Lib.len8 (y / 65536) = (Lib.bitLen y.toNat : Int) - 16) := (len_case 16 h0 h1 q0 q1 (by omega) (by omega)).1
        obtain ⟨b0, b1⟩ := len8_bd q0 q1
        go_enter Tryz.func85, Tryz.ntmps85
        go_wp2
        go_ret
        refine ⟨ret_int ?_, rfl⟩
        have := HQ.out
        omega
    · by_cases c1 : (256 : Int) ≤ y
      · have q0 : 0 ≤ y / 256 := by omega
        have q1 : y / 256 ≤ 255 := by omega
        have HQ : Hid (Lib.len8 (y / 256) = (Lib.bitLen y.toNat : Int) - 8) := (len_case 8 h0 h1 q0 q1 (by omega) (by omega)).1
        obtain ⟨b0, b1⟩ := len8_bd q0 q1
        go_enter Tryz.func85, Tryz.ntmps85
        go_wp2
        go_ret
        refine ⟨ret_int ?_, rfl⟩
        have := HQ.out
        omega
      · have q0 : 0 ≤ y := by omega
        have q1 : y ≤ 255 := by omega
        have HQ : Hid (Lib.len8 (y) = (Lib.bitLen y.toNat : Int)) := Lib.len8_of y q0 q1
        obtain ⟨b0, b1⟩ := len8_bd q0 q1
        go_enter Tryz.func85, Tryz.ntmps85
        go_wp2
        go_ret
        refine ⟨ret_int ?_, rfl⟩
        have := HQ.out
        omega

set_option maxRecDepth 100000 in
set_option maxHeartbeats 1000000 in
theorem conMask_any (a b : Nat) (w : World) :
    Calls Tryz.prog 120 #[.agg #[.int .u64 (a : Int), .int .u64 (b : Int)]] w fun e w' => e = .returned (conV ⟨1, a, b⟩) ∧ Below w.heap.size w w' := by
  go_enter Tryz.func120, Tryz.ntmps120
  go_wp2
  refine bodyPost_ret (v := conV ⟨1, a, b⟩) (by simp [results, Tryz.results120, go_sem]) rfl ⟨rfl, ?_⟩
  exact ((Below.refl _ _).alloc (Nat.le_refl _) _).alloc (by simp) _
set_option maxRecDepth 100000 in
set_option maxHeartbeats 1000000 in
theorem conRange_any (a b : Nat) (w : World) :
    Calls Tryz.prog 125 #[.agg #[.int .u64 (a : Int), .int .u64 (b : Int)]] w fun e w' => e = .returned (conV ⟨2, a, b⟩) ∧ Below w.heap.size w w' := by
  go_enter Tryz.func125, Tryz.ntmps125
  go_wp2
  refine bodyPost_ret (v := conV ⟨2, a, b⟩) (by simp [results, Tryz.results125, go_sem]) rfl ⟨rfl, ?_⟩
  exact ((Below.refl _ _).alloc (Nat.le_refl _) _).alloc (by simp) _
set_option maxRecDepth 100000 in
set_option maxHeartbeats 1000000 in
theorem conAny_any (w : World) :
    Calls Tryz.prog 115 #[.agg #[]] w fun e w' => e = .returned (conV ⟨0, 0, 0⟩) ∧ Below w.heap.size w w' := by
  go_enter Tryz.func115, Tryz.ntmps115
  go_wp2
  refine bodyPost_ret (v := conV ⟨0, 0, 0⟩) (by simp [results, Tryz.results115, go_sem]) rfl ⟨rfl, ?_⟩
  exact ((Below.refl _ _).alloc (Nat.le_refl _) _).alloc (by simp) _

/-- a method called through the interface -/
def Meth (c : K) (name : String) (args : Array Value) (r : Value) : Prop := ∃ T P F, setV c = .iface T P ∧ (∀ w, (method 267 T P name).run Tryz.prog w = .ok (F, P) w) ∧ (∀ (xs : Array Value) (w : World), (callFunc F xs).run Tryz.prog w = .ok (.enter F xs) w) ∧
  ∀ w, Calls Tryz.prog F (#[P] ++ args) w fun e w' => e = .returned r ∧ Below w.heap.size w w'

theorem meth_con {c : K} (h : Normal c) : Meth c "loop.example/s0039/impl.con" #[] (conV c) := by
  rcases h with rfl | ⟨a, b, rfl, _⟩ | ⟨a, b, rfl, _⟩
  · exact ⟨_, _, 115, rfl, fun _ => by kernel_rfl, fun _ _ => by kernel_rfl, conAny_any⟩
  · exact ⟨_, _, 120, rfl, fun _ => by kernel_rfl, fun _ _ => by kernel_rfl, conMask_any a b⟩
  · exact ⟨_, _, 125, rfl, fun _ => by kernel_rfl, fun _ _ => by kernel_rfl, conRange_any a b⟩

end Go.Proofs.YtoamapdfcdefjaaGreat
namespace Go.Proofs.YtoamapdfcdefjaaGreat
open Go.RowKit
set_option linter.unusedVariables false

theorem shl_ones {n : Nat} (h : n ≤ 64) : IntKind.u64.wrap (18446744073709551615 * 2 ^ n) = ((inv (low n) : Nat) : Int) := by
  have h1 := low_succ n
  have h2 := low_le h
  have e : ((2 : Int) ^ n) = ((2 ^ n : Nat) : Int) := by simp
  rw [IntKind.wrap_u64, e]
  unfold inv
  omega

abbrev two (a b : Nat) : Value := .tuple #[.int .u64 (a : Int), .int .u64 (b : Int)]

set_option maxRecDepth 100000 in
set_option maxHeartbeats 1000000 in
theorem agreedAny (w : World) : Calls Tryz.prog 113 #[.agg #[]] w fun e w' => e = .returned (two 0 0) ∧ Below w.heap.size w w' := by
  have B : Below w.heap.size w (w.alloc (.cells #[] 110)) := (Below.refl _ _).alloc (Nat.le_refl _) _
  go_enter Tryz.func113, Tryz.ntmps113
  go_wp2
  go_ret2
  exact ⟨rfl, B⟩
set_option maxRecDepth 100000 in
set_option maxHeartbeats 1000000 in
theorem agreedMask (a b : Nat) (w : World) : Calls Tryz.prog 118 #[.agg #[.int .u64 (a : Int), .int .u64 (b : Int)]] w fun e w' => e = .returned (two a b) ∧ Below w.heap.size w w' := by
  have B : Below w.heap.size w (w.alloc (.cells #[.int .u64 (a : Int), .int .u64 (b : Int)] 122)) := (Below.refl _ _).alloc (Nat.le_refl _) _
  go_enter Tryz.func118, Tryz.ntmps118
  go_wp2_with fail
  go_quiet (fail)
  go_wp2
  go_ret2
  exact ⟨rfl, by first | exact B.drew | exact below_drewN B _⟩
set_option maxRecDepth 100000 in
set_option maxHeartbeats 1000000 in
theorem agreedRange (a b : Nat) (w : World) (ha : a < 18446744073709551616) (hb : b < 18446744073709551616) :
    Calls Tryz.prog 123 #[.agg #[.int .u64 (a : Int), .int .u64 (b : Int)]] w fun e w' => e = .returned (two (inv (low (lenN (a ^^^ b)))) (a &&& inv (low (lenN (a ^^^ b))))) ∧ Below w.heap.size w w' := by
  have B : Below w.heap.size w (w.alloc (.cells #[.int .u64 (a : Int), .int .u64 (b : Int)] 125)) := (Below.refl _ _).alloc (Nat.le_refl _) _
  have hx := xor_lt ha hb
  have e1 := u64_xor a b ha hb
  have HL : Hid (∀ w, Calls Tryz.prog 85 #[.int .u64 ((a ^^^ b : Nat) : Int)] w fun e w' => e = .returned (.int .i64 ((lenN (a ^^^ b) : Nat) : Int)) ∧ w' = w) := fun w => len64_any _ w hx
  have hn := lenN_le hx
  have HS : Hid (IntKind.u64.wrap (18446744073709551615 * 2 ^ lenN (a ^^^ b)) = ((inv (low (lenN (a ^^^ b))) : Nat) : Int)) := shl_ones hn
  have HA : Hid (bits .and .u64 (a : Int) ((inv (low (lenN (a ^^^ b))) : Nat) : Int) = ((a &&& inv (low (lenN (a ^^^ b))) : Nat) : Int)) := u64_and a _ ha (inv_lt _)
  have hi := inv_lt (low (lenN (a ^^^ b)))
  generalize inv (low (lenN (a ^^^ b))) = I at *
  generalize a &&& I = J at *
  generalize lenN (a ^^^ b) = n at *
  generalize a ^^^ b = x at *
  go_enter Tryz.func123, Tryz.ntmps123
  go_wp2_with fail
  refine (HL.out _).mono ?_
  rintro e w1 ⟨rfl, rfl⟩
  go_wp2_with fail
  rw [HS.out]
  go_quiet (fail)
  go_wp2
  rw [HA.out]
  go_ret2
  exact ⟨rfl, by first | exact B.drew | exact below_drewN B _⟩

set_option maxRecDepth 100000 in
set_option maxHeartbeats 1000000 in
theorem boundsAny (w : World) : Calls Tryz.prog 114 #[.agg #[]] w fun e w' => e = .returned (two 0 18446744073709551615) ∧ Below w.heap.size w w' := by
  have B : Below w.heap.size w (w.alloc (.cells #[] 110)) := (Below.refl _ _).alloc (Nat.le_refl _) _
  go_enter Tryz.func114, Tryz.ntmps114
  go_wp2
  go_ret2
  exact ⟨rfl, B⟩
set_option maxRecDepth 100000 in
set_option maxHeartbeats 1000000 in
theorem boundsMask (a b : Nat) (w : World) (ha : a < 18446744073709551616) (hb : b < 18446744073709551616) :
    Calls Tryz.prog 119 #[.agg #[.int .u64 (a : Int), .int .u64 (b : Int)]] w fun e w' => e = .returned (two b (b ||| inv a)) ∧ Below w.heap.size w w' := by
  have B : Below w.heap.size w (w.alloc (.cells #[.int .u64 (a : Int), .int .u64 (b : Int)] 122)) := (Below.refl _ _).alloc (Nat.le_refl _) _
  have HB : Hid (bits .or .u64 (b : Int) (bits .xor .u64 IntKind.u64.max (a : Int)) = ((b ||| inv a : Nat) : Int)) := by
    unfold Hid
    rw [u64_not a ha]; exact u64_or b _ hb (inv_lt _)
  generalize b ||| inv a = J at *
  go_enter Tryz.func119, Tryz.ntmps119
  go_wp2_with fail
  go_quiet (fail)
  go_wp2
  rw [HB.out]
  go_ret2
  exact ⟨rfl, by first | exact B.drew | exact below_drewN B _⟩
set_option maxRecDepth 100000 in
set_option maxHeartbeats 1000000 in
theorem boundsRange (a b : Nat) (w : World) : Calls Tryz.prog 124 #[.agg #[.int .u64 (a : Int), .int .u64 (b : Int)]] w fun e w' => e = .returned (two a b) ∧ Below w.heap.size w w' := by
  have B : Below w.heap.size w (w.alloc (.cells #[.int .u64 (a : Int), .int .u64 (b : Int)] 125)) := (Below.refl _ _).alloc (Nat.le_refl _) _
  go_enter Tryz.func124, Tryz.ntmps124
  go_wp2_with fail
  go_quiet (fail)
  go_wp2
  go_ret2
  exact ⟨rfl, by first | exact B.drew | exact below_drewN B _⟩

theorem meth_agreed {c : K} (h : Normal c) : Meth c "loop.example/s0039/impl.agreed" #[] (two (agreeM c) (agreeV c)) := by
  have ho := h.ok
  rcases h with rfl | ⟨a, b, rfl, _⟩ | ⟨a, b, rfl, _⟩
  · exact ⟨_, _, 113, rfl, fun _ => by kernel_rfl, fun _ _ => by kernel_rfl, agreedAny⟩
  · exact ⟨_, _, 118, rfl, fun _ => by kernel_rfl, fun _ _ => by kernel_rfl, agreedMask a b⟩
  · exact ⟨_, _, 123, rfl, fun _ => by kernel_rfl, fun _ _ => by kernel_rfl, fun w => agreedRange a b w ho.2.1 ho.2.2⟩
theorem meth_bounds {c : K} (h : Normal c) : Meth c "loop.example/s0039/impl.bounds" #[] (two (lowK c) (highK c)) := by
  have ho := h.ok
  rcases h with rfl | ⟨a, b, rfl, _⟩ | ⟨a, b, rfl, _⟩
  · exact ⟨_, _, 114, rfl, fun _ => by kernel_rfl, fun _ _ => by kernel_rfl, boundsAny⟩
  · exact ⟨_, _, 119, rfl, fun _ => by kernel_rfl, fun _ _ => by kernel_rfl, fun w => boundsMask a b w ho.2.1 ho.2.2⟩
  · exact ⟨_, _, 124, rfl, fun _ => by kernel_rfl, fun _ _ => by kernel_rfl, boundsRange a b⟩
theorem agree_lt {c : K} (h : c.ok) : agreeM c < 18446744073709551616 ∧ agreeV c < 18446744073709551616 := by
  unfold agreeM agreeV
  constructor
  · split
    · exact h.2.1
    · split
      · exact inv_lt _
      · omega
  · split
    · exact h.2.2
    · split
      · exact and_lt h.2.1
      · omega

/-- asking a condition for its type -/
theorem ta_mask (a b : Int) (w : World) : (Instr.typeAssert (.iface 122 (.agg #[.int .u64 a, .int .u64 b])) 69 122 true).run Tryz.prog w = .ok (.tuple #[.agg #[.int .u64 a, .int .u64 b], .bool true]) w := by kernel_rfl
theorem ta_range (a b : Int) (w : World) : (Instr.typeAssert (.iface 125 (.agg #[.int .u64 a, .int .u64 b])) 69 125 true).run Tryz.prog w = .ok (.tuple #[.agg #[.int .u64 a, .int .u64 b], .bool true]) w := by kernel_rfl
theorem ta_range_mask (a b : Int) (w : World) : (Instr.typeAssert (.iface 125 (.agg #[.int .u64 a, .int .u64 b])) 69 122 true).run Tryz.prog w = .ok (.tuple #[.agg #[.int .u64 0, .int .u64 0], .bool false]) w := by kernel_rfl
theorem ta_any_mask (w : World) : (Instr.typeAssert (.iface 110 (.agg #[])) 69 122 true).run Tryz.prog w = .ok (.tuple #[.agg #[.int .u64 0, .int .u64 0], .bool false]) w := by kernel_rfl
theorem ta_any_range (w : World) : (Instr.typeAssert (.iface 110 (.agg #[])) 69 125 true).run Tryz.prog w = .ok (.tuple #[.agg #[.int .u64 0, .int .u64 0], .bool false]) w := by kernel_rfl

/-- two cells -/
theorem cells2 {w w1 : World} {g : Nat} {x y : Value} (hb : Below w.heap.size w w1) (hg : g < w.heap.size) (h0 : w.cell? ⟨g, 0, none⟩ = some x) (h1 : w.cell? ⟨g, 1, none⟩ = some y) : w1.cell? ⟨g, 0, none⟩ = some x ∧ w1.cell? ⟨g, 1, none⟩ = some y :=
  ⟨(hb.cell (p := ⟨g, 0, none⟩) hg).trans h0, (hb.cell (p := ⟨g, 1, none⟩) hg).trans h1⟩

set_option maxRecDepth 100000 in
set_option maxHeartbeats 2000000 in
theorem isWithin_any (c d : K) (w : World) (hc : Normal c) (hd : Normal d) :
    Calls Tryz.prog 71 #[setV c, setV d] w fun e w' => e = .returned (.bool (withinI c d)) ∧ Below w.heap.size w w' := by
  rcases hd with rfl | ⟨m, v, rfl, h0, hm, h⟩ | ⟨l, h, rfl, hlh, hh, h2⟩
  · have HE : Hid (setV ⟨0, 0, 0⟩ = .iface 110 (.agg #[])) := rfl
    have HW : Hid (withinI c ⟨0, 0, 0⟩ = true) := rfl
    rw [HE.out, HW.out]
    clear HE HW
    generalize setV c = S
    have t1 := ta_any_mask
    have t2 := ta_any_range
    go_enter Tryz.func71, Tryz.ntmps71
    go_wp2
    go_ret
    exact ⟨rfl, Below.refl _ _⟩
  · have HE : Hid (setV ⟨1, m, v⟩ = .iface 122 (.agg #[.int .u64 (m : Int), .int .u64 (v : Int)])) := rfl
    have HW : Hid (withinI c ⟨1, m, v⟩ = ((agreeM c &&& m == m) && (agreeV c &&& m == v))) := rfl
    rw [HE.out, HW.out]
    obtain ⟨T, P, F, e1, e2, e4, e3⟩ := meth_agreed hc
    have HF : Hid (∀ w, Calls Tryz.prog F #[P] w fun e w' => e = .returned (two (agreeM c) (agreeV c)) ∧ Below w.heap.size w w') := e3
    have hag := agree_lt hc.ok
    rw [e1]
    clear HE HW e1 e3 hc h
    generalize agreeM c = A at *
    generalize agreeV c = D at *
    have HB : Hid (bits .and .u64 (D : Int) (m : Int) = ((D &&& m : Nat) : Int)) := u64_and D m hag.2 hm
    have HA : Hid (bits .and .u64 (A : Int) (m : Int) = ((A &&& m : Nat) : Int)) := u64_and A m hag.1 hm
    have t1 := ta_mask (m : Int) (v : Int)
    have hsz : w.heap.size < (w.alloc (.cells #[.int .u64 (m : Int), .int .u64 (v : Int)] 122)).heap.size := by simp
    have x0 : (w.alloc (.cells #[.int .u64 (m : Int), .int .u64 (v : Int)] 122)).cell? ⟨w.heap.size, 0, none⟩ = some (.int .u64 (m : Int)) := by simp
    have x1 : (w.alloc (.cells #[.int .u64 (m : Int), .int .u64 (v : Int)] 122)).cell? ⟨w.heap.size, 1, none⟩ = some (.int .u64 (v : Int)) := by simp
    have B0 : Below w.heap.size w (w.alloc (.cells #[.int .u64 (m : Int), .int .u64 (v : Int)] 122)) := (Below.refl _ _).alloc (Nat.le_refl _) _
    have HX : Hid (∀ w1, Below (w.alloc (.cells #[.int .u64 (m : Int), .int .u64 (v : Int)] 122)).heap.size (w.alloc (.cells #[.int .u64 (m : Int), .int .u64 (v : Int)] 122)) w1 → (w1.cell? ⟨w.heap.size, 0, none⟩ = some (.int .u64 (m : Int)) ∧ w1.cell? ⟨w.heap.size, 1, none⟩ = some (.int .u64 (v : Int))) ∧ Below w.heap.size w w1) :=
      fun w1 hb => ⟨cells2 hb hsz x0 x1, B0.trans (hb.mono B0.size)⟩
    clear hsz x0 x1 B0
    by_cases g1 : A &&& m = m
    · have g1' : (bits .and .u64 (A : Int) (m : Int) == (m : Int)) = true := by rw [HA.out, beq_cast, g1]; simp
      have HR : Hid (((A &&& m == m) && (D &&& m == v)) = (D &&& m == v)) := by simp [Hid, g1]
      rw [HR.out]
      clear HA g1 HR
      go_enter Tryz.func71, Tryz.ntmps71
      go_wp2_with fail
      refine (HF.out _).mono ?_
      rintro e w1 ⟨rfl, hb1⟩
      obtain ⟨⟨y0, y1⟩, B1⟩ := HX.out w1 hb1
      clear hb1 HX
      go_wp2
      go_ret
      refine ⟨?_, B1⟩
      rw [HB.out, beq_cast]; rfl
    · have g1' : (bits .and .u64 (A : Int) (m : Int) == (m : Int)) = false := by rw [HA.out, beq_cast, beq_eq_false_iff_ne]; exact g1
      have HR : Hid (((A &&& m == m) && (D &&& m == v)) = false) := by simp [Hid, g1]
      rw [HR.out]
      clear HA g1 HR
      go_enter Tryz.func71, Tryz.ntmps71
      go_wp2_with fail
      refine (HF.out _).mono ?_
      rintro e w1 ⟨rfl, hb1⟩
      obtain ⟨⟨y0, y1⟩, B1⟩ := HX.out w1 hb1
      clear hb1 HX
      go_wp2
      go_ret
      exact ⟨rfl, B1⟩
  · have HE : Hid (setV ⟨2, l, h⟩ = .iface 125 (.agg #[.int .u64 (l : Int), .int .u64 (h : Int)])) := rfl
    have HW : Hid (withinI c ⟨2, l, h⟩ = (decide (l ≤ lowK c) && decide (highK c ≤ h))) := rfl
    rw [HE.out, HW.out]
    obtain ⟨T, P, F, e1, e2, e4, e3⟩ := meth_bounds hc
    have HF : Hid (∀ w, Calls Tryz.prog F #[P] w fun e w' => e = .returned (two (lowK c) (highK c)) ∧ Below w.heap.size w w') := e3
    rw [e1]
    clear HE HW e1 e3 hc h2
    generalize lowK c = A at *
    generalize highK c = D at *
    have t1 := ta_range_mask (l : Int) (h : Int)
    have t2 := ta_range (l : Int) (h : Int)
    have hsz : w.heap.size < (w.alloc (.cells #[.int .u64 (l : Int), .int .u64 (h : Int)] 125)).heap.size := by simp
    have x0 : (w.alloc (.cells #[.int .u64 (l : Int), .int .u64 (h : Int)] 125)).cell? ⟨w.heap.size, 0, none⟩ = some (.int .u64 (l : Int)) := by simp
    have x1 : (w.alloc (.cells #[.int .u64 (l : Int), .int .u64 (h : Int)] 125)).cell? ⟨w.heap.size, 1, none⟩ = some (.int .u64 (h : Int)) := by simp
    have B0 : Below w.heap.size w (w.alloc (.cells #[.int .u64 (l : Int), .int .u64 (h : Int)] 125)) := (Below.refl _ _).alloc (Nat.le_refl _) _
    have HX : Hid (∀ w1, Below (w.alloc (.cells #[.int .u64 (l : Int), .int .u64 (h : Int)] 125)).heap.size (w.alloc (.cells #[.int .u64 (l : Int), .int .u64 (h : Int)] 125)) w1 → (w1.cell? ⟨w.heap.size, 0, none⟩ = some (.int .u64 (l : Int)) ∧ w1.cell? ⟨w.heap.size, 1, none⟩ = some (.int .u64 (h : Int))) ∧ Below w.heap.size w w1) :=
      fun w1 hb => ⟨cells2 hb hsz x0 x1, B0.trans (hb.mono B0.size)⟩
    clear hsz x0 x1 B0
    by_cases g1 : l ≤ A
    · have g1' : (l : Int) ≤ (A : Int) := by omega
      have HR : Hid ((decide (l ≤ A) && decide (D ≤ h)) = decide (D ≤ h)) := by simp [Hid, g1]
      rw [HR.out]
      clear g1 HR
      go_enter Tryz.func71, Tryz.ntmps71
      go_wp2_with fail
      refine (HF.out _).mono ?_
      rintro e w1 ⟨rfl, hb1⟩
      obtain ⟨⟨y0, y1⟩, B1⟩ := HX.out w1 hb1
      clear hb1 HX
      go_wp2
      go_ret
      exact ⟨by simp, B1⟩
    · have g1' : ¬ (l : Int) ≤ (A : Int) := by omega
      have HR : Hid ((decide (l ≤ A) && decide (D ≤ h)) = false) := by simp [Hid, g1]
      rw [HR.out]
      clear g1 HR
      go_enter Tryz.func71, Tryz.ntmps71
      go_wp2_with fail
      refine (HF.out _).mono ?_
      rintro e w1 ⟨rfl, hb1⟩
      obtain ⟨⟨y0, y1⟩, B1⟩ := HX.out w1 hb1
      clear hb1 HX
      go_wp2
      go_ret
      exact ⟨by simp, B1⟩
end Go.Proofs.YtoamapdfcdefjaaGreat
namespace Go.Proofs.YtoamapdfcdefjaaGreat
open Go.RowKit
set_option linter.unusedVariables false

theorem below_step {w wa wb : World} (hb : Below wa.heap.size wa wb) (h : Below w.heap.size w wa) : Below w.heap.size w wb := h.trans (hb.mono h.size)

theorem cell_ltK {w : World} {a : Addr} {v : Value} (h : w.cell? a = some v) : a.block < w.heap.size := by
  by_cases hb : a.block < w.heap.size
  · exact hb
  · exfalso
    simp [World.cell?, Array.getElem?_eq_none (show w.heap.size ≤ a.block by omega)] at h
theorem cell_step {wa wb : World} (hb : Below wa.heap.size wa wb) {p : Addr} {v : Value} (h : wa.cell? p = some v) : wb.cell? p = some v := (hb.cell (cell_ltK h)).trans h


/-- the three numbers of one of two conditions -/
def OneOf (ck ca cb dk da db k a b : Int) : Prop := (k = ck ∧ a = ca ∧ b = cb) ∨ (k = dk ∧ a = da ∧ b = db)

end Go.Proofs.YtoamapdfcdefjaaGreat
namespace Go.Proofs.YtoamapdfcdefjaaGreat
open Go.RowKit
set_option linter.unusedVariables false

end Go.Proofs.YtoamapdfcdefjaaGreat
