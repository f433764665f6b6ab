/-
  CONTRACTS of the model's conditions: one within another.
-/
import Derived.Test.YtjkmcdgjhfiklaaCondN
namespace Go.Proofs.Ytjkmcdgjhfiklaa
open Go.RowKit
set_option linter.unusedVariables false

set_option maxRecDepth 100000 in
set_option maxHeartbeats 2000000 in
theorem specNorm_any (c : K) (w : World) (ho : c.ok) :
    Calls Try.prog 9 #[conV c] w fun e w' => e = .returned (conV (if validK c then normK c else c)) ∧ Below w.heap.size w w' := by
  have HC : Hid (∀ w, Calls Try.prog 34 #[conV c] w fun e w' => e = .returned (.bool (validK c)) ∧ Below w.heap.size w w') := fun w => l3conOK_any c w ho
  have HN : Hid (validK c = true → ∀ w, Calls Try.prog 35 #[conV c] w fun e w' => e = .returned (conV (normK c)) ∧ Below w.heap.size w w') := fun h w => l3norm_any c w ho h
  generalize normK c = N at *
  generalize validK c = V at *
  obtain ⟨kind, a, b⟩ := c
  simp only [conV] at HC HN ⊢
  go_enter Try.func9, Try.ntmps9
  go_wp2_with fail
  have X := (BoxK.new w 25 (.int .i64 kind) (.int .u64 (a : Int)) (.int .u64 (b : Int))).alloc (.cells #[.int .i64 0, .int .u64 0, .int .u64 0] 25)
  have Y := BoxK.new (w.alloc (.cells #[.int .i64 kind, .int .u64 (a : Int), .int .u64 (b : Int)] 25)) 25 (.int .i64 0) (.int .u64 0) (.int .u64 0)
  have hsz : (w.alloc (.cells #[.int .i64 kind, .int .u64 (a : Int), .int .u64 (b : Int)] 25)).heap.size = w.heap.size + 1 := by simp
  have B0 : Below w.heap.size w ((w.alloc (.cells #[.int .i64 kind, .int .u64 (a : Int), .int .u64 (b : Int)] 25)).alloc (.cells #[.int .i64 0, .int .u64 0, .int .u64 0] 25)) := ((Below.refl _ _).alloc (Nat.le_refl _) _).alloc (by simp) _
  rw [hsz] at Y
  generalize (w.alloc (.cells #[.int .i64 kind, .int .u64 (a : Int), .int .u64 (b : Int)] 25)).alloc (.cells #[.int .i64 0, .int .u64 0, .int .u64 0] 25) = W at *
  clear hsz
  refine (HC.out _).mono ?_
  rintro e w1 ⟨rfl, hb1⟩
  have X1 := X.keep hb1
  have Y1 := Y.keep hb1
  have B1 := B0.trans (hb1.mono B0.size)
  clear X Y hb1 B0 HC
  obtain ⟨_, x0, x1, x2, _, _, _⟩ := X1
  cases V with
  | false =>
    obtain ⟨yl, y0, y1, y2, g0, g1, g2⟩ := Y1
    clear HN
    go_wp2
    exact bodyPost_ret (v := conV ⟨kind, a, b⟩) (by simp [results, Try.results9, go_sem, y0, y1, y2]) rfl ⟨rfl, below_set3 B1 (by omega) _ _ _⟩
  | true =>
    have HN' : Hid (∀ w, Calls Try.prog 35 #[.agg #[.int .i64 kind, .int .u64 (a : Int), .int .u64 (b : Int)]] w fun e w' => e = .returned (conV N) ∧ Below w.heap.size w w') := HN.out rfl
    clear HN
    go_wp2_with fail
    refine (HN'.out _).mono ?_
    rintro e w2 ⟨rfl, hb2⟩
    obtain ⟨yl, y0, y1, y2, g0, g1, g2⟩ := Y1.keep hb2
    have B2 := B1.trans (hb2.mono B1.size)
    obtain ⟨nk, na, nb⟩ := N
    simp only [conV]
    go_wp2
    exact bodyPost_ret (v := conV ⟨nk, na, nb⟩) (by simp [results, Try.results9, go_sem, y0, y1, y2]) rfl ⟨rfl, below_set3 B2 (by omega) _ _ _⟩

theorem bit_and {a k : Nat} (ha : a < 18446744073709551616) (hk : k < 64) : bits .and .u64 (a : Int) (((low k : Nat) : Int) + 1) = ((a &&& 2 ^ k : Nat) : Int) := by
  have e : ((low k : Nat) : Int) + 1 = ((2 ^ k : Nat) : Int) := by have := low_succ k; omega
  rw [e]
  exact u64_and a _ ha (Nat.pow_lt_pow_right (a := 2) (by omega) hk)
theorem bit_yes {a k : Nat} (ha : a < 18446744073709551616) (hk : k < 64) (h : a.testBit k = true) : ¬ bits .and .u64 (a : Int) (((low k : Nat) : Int) + 1) = 0 := by
  rw [bit_and ha hk]
  intro e
  have := (and_bit a k).1 (by omega)
  rw [h] at this; exact absurd this (by decide)
theorem bit_no {a k : Nat} (ha : a < 18446744073709551616) (hk : k < 64) (h : a.testBit k = false) : bits .and .u64 (a : Int) (((low k : Nat) : Int) + 1) = 0 := by
  rw [bit_and ha hk, (and_bit a k).2 h]; rfl
theorem low_lt64 {k : Nat} (hk : k < 64) : low k + 1 ≤ 9223372036854775808 := by
  rw [low_succ]
  exact Nat.pow_le_pow_right (n := 2) (by omega) (show k ≤ 63 by omega)

set_option maxRecDepth 100000 in
set_option maxHeartbeats 2000000 in
theorem l3outside_any (c : K) (f : Nat) (w : World) (ho : c.ok) (hv : validK c = true) (hf : f < 18446744073709551616) :
    Calls Try.prog 70 #[conV c, .int .u64 (f : Int)] w fun e w' => ∃ (v : Nat) (s : Bool), e = .returned (.tuple #[.int .u64 (v : Int), .bool s]) ∧ OutK c f v s ∧ v < 18446744073709551616 ∧ Below w.heap.size w w' := by
  have HC : Hid (∀ w, Calls Try.prog 87 #[conV c, .int .u64 (f : Int)] w fun e w' => e = .returned (.bool (holdsK c f)) ∧ Below w.heap.size w w') := fun w => l3holds_any c f w ho hf
  have HV : Hid (validK c = true) := hv
  obtain ⟨kind, a, b⟩ := c
  obtain ⟨⟨k0, k1⟩, ha, hb⟩ := ho
  simp only at k0 k1 ha hb
  obtain ⟨H, eH⟩ : ∃ H, holdsK ⟨kind, a, b⟩ f = H := ⟨_, rfl⟩
  have HH : Hid (holdsK ⟨kind, a, b⟩ f = H) := eH
  rw [eH] at HC
  clear eH hv
  simp only [conV] at HC ⊢
  have hf' : (f : Int) ≤ 18446744073709551615 := by omega
  go_enter Try.func70, Try.ntmps70
  go_wp2_with fail
  have X := BoxK.new w 25 (.int .i64 kind) (.int .u64 (a : Int)) (.int .u64 (b : Int))
  have B0 : Below w.heap.size w (w.alloc (.cells #[.int .i64 kind, .int .u64 (a : Int), .int .u64 (b : Int)] 25)) := (Below.refl _ _).alloc (Nat.le_refl _) _
  generalize w.alloc (.cells #[.int .i64 kind, .int .u64 (a : Int), .int .u64 (b : Int)] 25) = W at *
  refine (HC.out _).mono ?_
  rintro e w1 ⟨rfl, hb1⟩
  obtain ⟨_, x0, x1, x2, _, _, _⟩ := X.keep hb1
  have B1 := B0.trans (hb1.mono B0.size)
  clear X hb1 B0 HC
  cases H with
  | false =>
    go_wp2
    go_ret2
    exact ⟨f, true, rfl, out_first hf HH.out, hf, B1⟩
  | true =>
    by_cases h0 : kind = 0
    · subst h0
      have h00 : a = 0 ∧ b = 0 := by have := HV.out; simp [validK] at this; exact this
      obtain ⟨rfl, rfl⟩ := h00
      go_wp2
      go_ret2
      exact ⟨0, false, rfl, out_any, by omega, B1⟩
    · by_cases h2 : kind = 2
      · subst h2
        have HO : Hid _ := out_range hf hb HH.out
        by_cases hmax : b = 18446744073709551615
        · have hmax' : (b : Int) = 18446744073709551615 := by omega
          go_wp2
          go_ret2
          refine ⟨0, false, rfl, ?_, by omega, B1⟩
          have := HO.out
          simpa [hmax, OutK] using this
        · have hmax' : ((b : Int) == 18446744073709551615) = false := by rw [beq_eq_false_iff_ne]; omega
          have HM : Hid (¬ b = 18446744073709551615) := hmax
          have hb' : (b : Int) < 18446744073709551615 := by omega
          clear hmax
          go_wp2_with fail
          go_wp2
          go_ret2
          refine ⟨b + 1, true, ?_, ?_, by omega, B1⟩
          · simp
          · have := HO.out
            simpa [HM.out, OutK] using this
      · have h1 : kind = 1 := by
          have := HV.out
          simp [validK, h0, h2] at this
          exact this.1
        subst h1
        go_wp2_with fail
        go_loop [6] (fun i => ∃ k : Nat, k ≤ 64 ∧ i = .int .i64 k ∧ Hid (∀ j, j < k → a.testBit j = false)) (fun i => 64 - (intOf i).toNat)
        case atStart => exact ⟨0, by omega, rfl, fun j hj => by omega⟩
        case round =>
          obtain ⟨k, hk, rfl, HJ⟩ := hrel
          by_cases hlt : k < 64
          · have hl := low_lt64 hlt
            have hl' : ((low k : Nat) : Int) + 1 ≤ 9223372036854775808 := by omega
            have HL : Hid (∀ w, Calls Try.prog 45 #[.int .i64 (k : Int)] w fun e w' => e = .returned (.int .u64 (low k : Nat)) ∧ w' = w) := fun w => l3low_any k w (by omega)
            have hlt' : (k : Int) < 64 := by omega
            cases hbit : a.testBit k with
            | false =>
              have e1 := bit_no ha hlt hbit
              have HJ' : Hid (∀ j, j < k + 1 → a.testBit j = false) := fun j hj => by
                by_cases hjk : j = k
                · subst hjk; exact hbit
                · exact HJ.out j (by omega)
              clear HJ hbit
              generalize low k = L at *
              go_wp2_with fail
              refine (HL.out _).mono ?_
              rintro e w2 ⟨rfl, rfl⟩
              go_wp2
              go_round
              case rel => exact ⟨k + 1, by omega, by go_num, HJ'⟩
              case measure => simp [intOf]; omega
            | true =>
              have e1 : (bits .and .u64 (a : Int) (((low k : Nat) : Int) + 1) != 0) = true := by rw [bne_iff_ne]; exact bit_yes ha hlt hbit
              have HO : Hid _ := out_mask hf ha hlt HH.out hbit HJ.out
              have HB : Hid (bits .or .u64 (f : Int) ((low k : Nat) : Int) = ((f ||| low k : Nat) : Int)) := u64_or f (low k) hf (by omega)
              have hor := or_lt hf (show low k < 18446744073709551616 by omega)
              clear HJ hbit
              by_cases hmax : f ||| low k = 18446744073709551615
              · have e2 : bits .or .u64 (f : Int) ((low k : Nat) : Int) = 18446744073709551615 := by rw [HB.out, hmax]; rfl
                have HO' : Hid (OutK ⟨1, a, b⟩ f 0 false) := by
                  have := HO.out
                  unfold Hid
                  simpa [hmax, OutK] using this
                clear HO HB hor hmax
                generalize low k = L at *
                go_wp2_with fail
                refine (HL.out _).mono ?_
                rintro e w2 ⟨rfl, rfl⟩
                go_wp2_with fail
                refine (HL.out _).mono ?_
                rintro e w2 ⟨rfl, rfl⟩
                go_wp2
                go_ret2
                exact ⟨0, false, rfl, HO'.out, by omega, B1⟩
              · have HO' : Hid (OutK ⟨1, a, b⟩ f ((f ||| low k) + 1) true) := by
                  have := HO.out
                  unfold Hid
                  simpa [hmax, OutK] using this
                have e2 : bits .or .u64 (f : Int) ((low k : Nat) : Int) = ((f ||| low k : Nat) : Int) := HB.out
                have hm' : (((f ||| low k : Nat) : Int) == 18446744073709551615) = false := by rw [beq_eq_false_iff_ne]; omega
                have hm2 : ((f ||| low k : Nat) : Int) + 1 ≤ 18446744073709551615 := by omega
                clear HO HB hmax
                generalize f ||| low k = F at *
                generalize low k = L at *
                go_wp2_with fail
                refine (HL.out _).mono ?_
                rintro e w2 ⟨rfl, rfl⟩
                go_wp2_with fail
                refine (HL.out _).mono ?_
                rintro e w2 ⟨rfl, rfl⟩
                go_wp2
                go_ret2
                refine ⟨F + 1, true, ?_, HO'.out, by omega, B1⟩
                simp
          · have hk' : k = 64 := by omega
            subst hk'
            have h0 : a = 0 := zero_of_bits ha HJ.out
            have HO : Hid (OutK ⟨1, a, b⟩ f 0 false) := by
              have h1 := HH.out
              subst h0
              exact out_free h1
            clear h0
            go_wp2
            exact bodyPost_ret (v := .tuple #[.int .u64 0, .bool false]) (by simp [results, Try.results70, go_sem]) rfl ⟨0, .inl ⟨rfl, HO.out, by omega, B1⟩⟩

theorem ex_dec (P : Prop) : ∃ r : Bool, Hid (r = true ↔ P) := by
  by_cases h : P
  · exact ⟨true, by simp [Hid, h]⟩
  · exact ⟨false, by simp [Hid, h]⟩
theorem dec_yes {P : Prop} {r : Bool} (H : Hid (r = true ↔ P)) (h : P) : r = true := H.out.2 h
theorem dec_no {P : Prop} {r : Bool} (H : Hid (r = true ↔ P)) (h : ¬ P) : r = false := by
  cases r with
  | false => rfl
  | true => exact absurd (H.out.1 rfl) h
theorem dec_eq {P : Prop} {r : Bool} (H : Hid (r = true ↔ P)) {s : Bool} (h : s = true ↔ P) : r = s := by
  rw [Bool.eq_iff_iff, H.out, h]
theorem ret_boolr {r s : Bool} (h : r = s) : Ending.returned (.bool s) = Ending.returned (.bool r) := by rw [h]

set_option maxRecDepth 100000 in
set_option maxHeartbeats 2000000 in
theorem l3within_any (c d : K) (r : Bool) (w : World) (ho : c.ok) (hv : validK c = true) (ho' : d.ok) (hv' : validK d = true) (H : Hid (r = true ↔ Within c d)) :
    Calls Try.prog 38 #[conV c, conV d] w fun e w' => e = .returned (.bool r) ∧ Below w.heap.size w w' := by
  have HC : Hid (∀ w, Calls Try.prog 44 #[conV c] w fun e w' => e = .returned (blkV c) ∧ Below w.heap.size w w') := fun w => l3block_any c w ho hv
  have HD : Hid (∀ f : Nat, f < 18446744073709551616 → ∀ w, Calls Try.prog 70 #[conV d, .int .u64 (f : Int)] w fun e w' => ∃ (v : Nat) (s : Bool), e = .returned (.tuple #[.int .u64 (v : Int), .bool s]) ∧ OutK d f v s ∧ v < 18446744073709551616 ∧ Below w.heap.size w w') := fun f hf w => l3outside_any d f w ho' hv' hf
  have HW : Hid (∀ lo hi v s, blockK c = some (lo, hi) → OutK d lo v s → ((!s || decide (hi < v)) = true ↔ Within c d)) := fun lo hi v s h h1 => out_within ho hv h h1
  have HB : Hid (∀ lo hi, blockK c = some (lo, hi) → lo ≤ hi ∧ hi < 18446744073709551616) := fun lo hi h => block_lt ho hv h
  have HV : Hid (validK c = true) := hv
  have HV' : Hid (validK d = true) := hv'
  obtain ⟨ck, ca, cb⟩ := c
  obtain ⟨dk, da, db⟩ := d
  obtain ⟨_, hca, hcb⟩ := ho
  obtain ⟨_, hda, hdb⟩ := ho'
  simp only at hca hcb hda hdb
  clear hv hv'
  obtain ⟨P, hP⟩ : ∃ P, Within ⟨ck, ca, cb⟩ ⟨dk, da, db⟩ = P := ⟨_, rfl⟩
  have HP : Hid (Within ⟨ck, ca, cb⟩ ⟨dk, da, db⟩ = P) := hP
  rw [hP] at HW H
  clear hP
  simp only [conV] at HC HD ⊢
  go_enter Try.func38, Try.ntmps38
  go_wp2_with fail
  have X := (BoxK.new w 25 (.int .i64 ck) (.int .u64 (ca : Int)) (.int .u64 (cb : Int))).alloc (.cells #[.int .i64 dk, .int .u64 (da : Int), .int .u64 (db : Int)] 25)
  have Y := BoxK.new (w.alloc (.cells #[.int .i64 ck, .int .u64 (ca : Int), .int .u64 (cb : Int)] 25)) 25 (.int .i64 dk) (.int .u64 (da : Int)) (.int .u64 (db : Int))
  have hsz : (w.alloc (.cells #[.int .i64 ck, .int .u64 (ca : Int), .int .u64 (cb : Int)] 25)).heap.size = w.heap.size + 1 := by simp
  have B0 : Below w.heap.size w ((w.alloc (.cells #[.int .i64 ck, .int .u64 (ca : Int), .int .u64 (cb : Int)] 25)).alloc (.cells #[.int .i64 dk, .int .u64 (da : Int), .int .u64 (db : Int)] 25)) := ((Below.refl _ _).alloc (Nat.le_refl _) _).alloc (by simp) _
  rw [hsz] at Y
  generalize (w.alloc (.cells #[.int .i64 ck, .int .u64 (ca : Int), .int .u64 (cb : Int)] 25)).alloc (.cells #[.int .i64 dk, .int .u64 (da : Int), .int .u64 (db : Int)] 25) = W at *
  clear hsz
  refine (HC.out _).mono ?_
  rintro e w1 ⟨rfl, hb1⟩
  have X1 := X.keep hb1
  have Y1 := Y.keep hb1
  have B1 := B0.trans (hb1.mono B0.size)
  clear X Y hb1 B0 HC
  obtain ⟨_, x0, x1, x2, _, _, _⟩ := X1
  obtain ⟨_, y0, y1, y2, _, _, _⟩ := Y1
  cases hb : blockK ⟨ck, ca, cb⟩ with
  | some q =>
    obtain ⟨lo, hi⟩ := q
    have HE : Hid (blkV ⟨ck, ca, cb⟩ = .tuple #[.int .u64 (lo : Int), .int .u64 (hi : Int), .bool true]) := by unfold Hid blkV; rw [hb]
    rw [HE.out]
    obtain ⟨hle, hh⟩ := HB.out lo hi hb
    have HW' : Hid (∀ v s, OutK ⟨dk, da, db⟩ lo v s → ((!s || decide (hi < v)) = true ↔ P)) := fun v s => HW.out lo hi v s hb
    clear hb HE HB HW HV HV' HP
    go_wp2_with fail
    refine (HD.out lo (by omega) _).mono ?_
    rintro e w2 ⟨v, s, rfl, hO, hvl, hb2⟩
    have HR : Hid _ := HW'.out v s hO
    have B2 := B1.trans (hb2.mono B1.size)
    clear hO HW' HD
    cases s with
    | false =>
      go_wp2
      go_ret
      exact ⟨ret_boolr (dec_eq H HR.out), B2⟩
    | true =>
      by_cases hlt : hi < v
      · have hlt' : (hi : Int) < (v : Int) := by omega
        go_wp2
        go_ret
        refine ⟨ret_boolr (dec_yes H ?_), B2⟩
        have := HR.out
        simpa [hlt] using this
      · have hlt' : ¬ (hi : Int) < (v : Int) := by omega
        go_wp2
        go_ret
        refine ⟨ret_boolr (dec_no H ?_), B2⟩
        have := HR.out
        simpa [hlt] using this
  | none =>
    have HE : Hid (blkV ⟨ck, ca, cb⟩ = .tuple #[.int .u64 0, .int .u64 0, .bool false]) := by unfold Hid blkV; rw [hb]
    rw [HE.out]
    have h1 : ck = 1 ∧ ca ||| cb = ca := by
      rcases K.valid_cases HV.out with h | ⟨a, b, h, h1⟩ | ⟨a, b, h, h1⟩
      · rw [h] at hb; simp [blockK] at hb
      · cases h; exact ⟨rfl, h1⟩
      · rw [h] at hb; simp [blockK] at hb
    obtain ⟨rfl, hcv⟩ := h1
    clear hb HE HB HW HD HV
    by_cases h2 : dk = 2
    · subst h2
      have HR : Hid (P ↔ (da ≤ cb ∧ cb ||| inv ca ≤ db)) := by unfold Hid; rw [← HP.out]; exact mask_in_range hca hcv
      have HB : Hid (bits .or .u64 (cb : Int) (18446744073709551615 - (ca : Int)) = ((cb ||| inv ca : Nat) : Int)) := by
        have e : 18446744073709551615 - (ca : Int) = ((inv ca : Nat) : Int) := by unfold inv; omega
        unfold Hid
        rw [e]; exact u64_or cb _ hcb (inv_lt _)
      have hca' : (ca : Int) ≤ 18446744073709551615 := by omega
      clear HP HV' hcv
      by_cases g1 : da ≤ cb
      · have g1' : (da : Int) ≤ (cb : Int) := by omega
        by_cases g2 : cb ||| inv ca ≤ db
        · have g2' : bits .or .u64 (cb : Int) (18446744073709551615 - (ca : Int)) ≤ (db : Int) := by rw [HB.out]; omega
          have HR' : Hid P := HR.out.2 ⟨g1, g2⟩
          clear HR HB g2 g1
          go_wp2
          go_ret
          exact ⟨by rw [dec_yes H HR'.out]; simp, B1⟩
        · have g2' : ¬ bits .or .u64 (cb : Int) (18446744073709551615 - (ca : Int)) ≤ (db : Int) := by rw [HB.out]; omega
          have HR' : Hid (¬ P) := fun h => g2 (HR.out.1 h).2
          have HG : Hid (decide (bits .or .u64 (cb : Int) (18446744073709551615 - (ca : Int)) ≤ (db : Int)) = false) := decide_eq_false g2'
          clear HR HB g2 g1 g2'
          go_wp2
          go_ret
          refine ⟨?_, B1⟩
          rw [dec_no H HR'.out]
          simp [HG.out]
      · have g1' : ¬ (da : Int) ≤ (cb : Int) := by omega
        have HR' : Hid (¬ P) := fun h => g1 (HR.out.1 h).1
        clear HR HB g1
        go_wp2
        go_ret
        exact ⟨by rw [dec_no H HR'.out]; simp, B1⟩
    · have HR : Hid (P ↔ ∀ k, k < 64 → da.testBit k = true → ca.testBit k = true ∧ cb.testBit k = db.testBit k) := by
        unfold Hid
        rw [← HP.out]
        rcases K.valid_cases HV'.out with h | ⟨a, b, h, h1⟩ | ⟨a, b, h, h1⟩
        · cases h
          constructor
          · intro _ k _ h; simp at h
          · intro _; exact mask_any
        · cases h; exact mask_mask_bits hca hda hcv h1
        · cases h; exact absurd rfl h2
      have hca' : (ca : Int) ≤ 18446744073709551615 := by omega
      have hd2 : (dk == 2) = false := by simp [h2]
      clear HP HV' hcv h2
      go_wp2_with fail
      go_loopw [12] (fun i wr => ∃ k : Nat, k ≤ 64 ∧ i = .int .i64 k ∧ Hid (∀ j, j < k → da.testBit j = true → ca.testBit j = true ∧ cb.testBit j = db.testBit j) ∧ wr = w1) (fun i _ => 64 - (intOf i).toNat)
      case atStart => exact ⟨0, by omega, rfl, fun j hj => by omega, rfl⟩
      case round =>
        obtain ⟨k, hk, rfl, HJ, rfl⟩ := hrel
        by_cases hlt : k < 64
        · have hl := low_lt64 hlt
          have hl' : ((low k : Nat) : Int) + 1 ≤ 9223372036854775808 := by omega
          have HL : Hid (∀ w, Calls Try.prog 45 #[.int .i64 (k : Int)] w fun e w' => e = .returned (.int .u64 (low k : Nat)) ∧ w' = w) := fun w => l3low_any k w (by omega)
          have hlt' : (k : Int) < 64 := by omega
          have HJ1 : Hid ((da.testBit k = true → ca.testBit k = true ∧ cb.testBit k = db.testBit k) → ∀ j, j < k + 1 → da.testBit j = true → ca.testBit j = true ∧ cb.testBit j = db.testBit j) := fun h j hj => by
            by_cases hjk : j = k
            · subst hjk; exact h
            · exact HJ.out j (by omega)
          cases hbit : da.testBit k with
          | false =>
            have e1 : (bits .and .u64 (da : Int) (((low k : Nat) : Int) + 1) != 0) = false := by rw [bit_no hda hlt hbit]; rfl
            have HJ' : Hid (∀ j, j < k + 1 → da.testBit j = true → ca.testBit j = true ∧ cb.testBit j = db.testBit j) := HJ1.out fun h => by rw [hbit] at h; exact absurd h (by decide)
            clear HJ HJ1 hbit HR
            generalize low k = L at *
            go_wp2_with fail
            refine (HL.out _).mono ?_
            rintro e w2 ⟨rfl, rfl⟩
            go_wp2
            go_roundw
            case rel => exact ⟨k + 1, by omega, by go_num, HJ', trivial⟩
            case measure => simp [intOf]; omega
          | true =>
            have e1 : (bits .and .u64 (da : Int) (((low k : Nat) : Int) + 1) != 0) = true := by rw [bne_iff_ne]; exact bit_yes hda hlt hbit
            cases hbc : ca.testBit k with
            | false =>
              have e2 : (bits .and .u64 (ca : Int) (((low k : Nat) : Int) + 1) == 0) = true := by rw [bit_no hca hlt hbc]; rfl
              have HR' : Hid (¬ P) := fun h => by
                have := (HR.out.1 h k hlt hbit).1
                rw [hbc] at this; exact absurd this (by decide)
              clear HJ HJ1 hbit HR hbc
              generalize low k = L at *
              go_wp2_with fail
              refine (HL.out _).mono ?_
              rintro e w2 ⟨rfl, rfl⟩
              go_wp2
              go_ret
              exact ⟨by rw [dec_no H HR'.out]; simp, B1⟩
            | true =>
              have e2 : (bits .and .u64 (ca : Int) (((low k : Nat) : Int) + 1) == 0) = false := by rw [beq_eq_false_iff_ne]; exact bit_yes hca hlt hbc
              by_cases hbb : cb.testBit k = db.testBit k
              · have e3 : (bits .and .u64 (cb : Int) (((low k : Nat) : Int) + 1) != bits .and .u64 (db : Int) (((low k : Nat) : Int) + 1)) = false := by
                  rw [bit_and hcb hlt, bit_and hdb hlt, (and_bit_eq cb db k).2 hbb]; simp
                have HJ' : Hid (∀ j, j < k + 1 → da.testBit j = true → ca.testBit j = true ∧ cb.testBit j = db.testBit j) := HJ1.out fun h => ⟨hbc, hbb⟩
                clear HJ HJ1 hbit HR hbb hbc
                generalize low k = L at *
                go_wp2_with fail
                refine (HL.out _).mono ?_
                rintro e w2 ⟨rfl, rfl⟩
                go_wp2
                go_roundw
                case rel => exact ⟨k + 1, by omega, by go_num, HJ', trivial⟩
                case measure => simp [intOf]; omega
              · have e3 : (bits .and .u64 (cb : Int) (((low k : Nat) : Int) + 1) != bits .and .u64 (db : Int) (((low k : Nat) : Int) + 1)) = true := by
                  rw [bit_and hcb hlt, bit_and hdb hlt, bne_iff_ne]
                  intro e
                  exact hbb ((and_bit_eq cb db k).1 (by omega))
                have HR' : Hid (¬ P) := fun h => hbb (HR.out.1 h k hlt hbit).2
                clear HJ HJ1 hbit HR hbb hbc
                generalize low k = L at *
                go_wp2_with fail
                refine (HL.out _).mono ?_
                rintro e w2 ⟨rfl, rfl⟩
                go_wp2
                go_ret
                exact ⟨by rw [dec_no H HR'.out]; simp, B1⟩
        · have hk' : k = 64 := by omega
          subst hk'
          have HR' : Hid P := HR.out.2 HJ.out
          clear HR HJ
          go_wp2
          go_ret
          exact ⟨by rw [dec_yes H HR'.out]; simp, B1⟩

theorem specWithin_any (c d : K) (r : Bool) (w : World) (ho : c.ok) (ho' : d.ok) (H : Hid (r = true ↔ (validK c = true ∧ validK d = true ∧ Within c d))) :
    Calls Try.prog 13 #[conV c, conV d] w fun e w' => e = .returned (.bool r) ∧ Below w.heap.size w w' := by
  have HC : Hid (∀ w, Calls Try.prog 34 #[conV c] w fun e w' => e = .returned (.bool (validK c)) ∧ Below w.heap.size w w') := fun w => l3conOK_any c w ho
  have HD : Hid (∀ w, Calls Try.prog 34 #[conV d] w fun e w' => e = .returned (.bool (validK d)) ∧ Below w.heap.size w w') := fun w => l3conOK_any d w ho'
  have HN : Hid (validK c = true → validK d = true → ∀ w, Calls Try.prog 38 #[conV c, conV d] w fun e w' => e = .returned (.bool r) ∧ Below w.heap.size w w') := fun h h' w => l3within_any c d r w ho h ho' h' (by
    have := H.out
    unfold Hid
    simpa [h, h'] using this)
  have HF : Hid (validK c = false ∨ validK d = false → r = false) := by
    rintro (h | h) <;> refine dec_no H ?_ <;> simp [h]
  clear H
  obtain ⟨V, hV⟩ : ∃ V, validK c = V := ⟨_, rfl⟩
  obtain ⟨V', hV'⟩ : ∃ V', validK d = V' := ⟨_, rfl⟩
  rw [hV] at HC HN HF
  rw [hV'] at HD HN HF
  clear hV hV'
  obtain ⟨ck, ca, cb⟩ := c
  obtain ⟨dk, da, db⟩ := d
  simp only [conV] at HC HD HN ⊢
  go_enter Try.func13, Try.ntmps13
  go_wp2_with fail
  have X := (BoxK.new w 25 (.int .i64 ck) (.int .u64 (ca : Int)) (.int .u64 (cb : Int))).alloc (.cells #[.int .i64 dk, .int .u64 (da : Int), .int .u64 (db : Int)] 25)
  have Y := BoxK.new (w.alloc (.cells #[.int .i64 ck, .int .u64 (ca : Int), .int .u64 (cb : Int)] 25)) 25 (.int .i64 dk) (.int .u64 (da : Int)) (.int .u64 (db : Int))
  have hsz : (w.alloc (.cells #[.int .i64 ck, .int .u64 (ca : Int), .int .u64 (cb : Int)] 25)).heap.size = w.heap.size + 1 := by simp
  have B0 : Below w.heap.size w ((w.alloc (.cells #[.int .i64 ck, .int .u64 (ca : Int), .int .u64 (cb : Int)] 25)).alloc (.cells #[.int .i64 dk, .int .u64 (da : Int), .int .u64 (db : Int)] 25)) := ((Below.refl _ _).alloc (Nat.le_refl _) _).alloc (by simp) _
  rw [hsz] at Y
  generalize (w.alloc (.cells #[.int .i64 ck, .int .u64 (ca : Int), .int .u64 (cb : Int)] 25)).alloc (.cells #[.int .i64 dk, .int .u64 (da : Int), .int .u64 (db : Int)] 25) = W at *
  clear hsz
  refine (HC.out _).mono ?_
  rintro e w1 ⟨rfl, hb1⟩
  have X1 := X.keep hb1
  have Y1 := Y.keep hb1
  have B1 := B0.trans (hb1.mono B0.size)
  clear X Y hb1 B0 HC
  cases V with
  | false =>
    go_wp2
    go_ret
    exact ⟨ret_boolr (HF.out (.inl (by first | rfl | trivial))), B1⟩
  | true =>
    obtain ⟨_, y0, y1, y2, _, _, _⟩ := Y1
    go_wp2_with fail
    refine (HD.out _).mono ?_
    rintro e w2 ⟨rfl, hb2⟩
    have B2 := B1.trans (hb2.mono B1.size)
    have Y2 : BoxK w1 (w.heap.size + 1) (.int .i64 dk) (.int .u64 (da : Int)) (.int .u64 (db : Int)) := by constructor <;> assumption
    have Y3 := Y2.keep hb2
    have X3 := X1.keep hb2
    clear X1 Y2 hb2 y0 y1 y2
    cases V' with
    | false =>
      go_wp2
      go_ret
      exact ⟨ret_boolr (HF.out (.inr (by first | rfl | trivial))), B2⟩
    | true =>
      obtain ⟨_, x0, x1, x2, _, _, _⟩ := X3
      obtain ⟨_, y0, y1, y2, _, _, _⟩ := Y3
      have HN' : Hid (∀ w, Calls Try.prog 38 #[.agg #[.int .i64 ck, .int .u64 (ca : Int), .int .u64 (cb : Int)], .agg #[.int .i64 dk, .int .u64 (da : Int), .int .u64 (db : Int)]] w fun e w' => e = .returned (.bool r) ∧ Below w.heap.size w w') := HN.out (by first | rfl | trivial) (by first | rfl | trivial)
      clear HN HD HF
      go_wp2_with fail
      refine (HN'.out _).mono ?_
      rintro e w3 ⟨rfl, hb3⟩
      have B3 := B2.trans (hb3.mono B2.size)
      go_wp2
      go_ret
      exact ⟨rfl, B3⟩
end Go.Proofs.Ytjkmcdgjhfiklaa
