/-
  CONTRACTS: the model's mask of values.
-/
import Derived.Test.YtpbljegjinjmnaaCovR
namespace Go.Proofs.Ytpbljegjinjmnaa
open Go.RowKit
set_option linter.unusedVariables false

/-- what one bit does -/
theorem mask_bit {vs : List Nat} (hv : All64 vs) (h0 : 0 < vs.length) {q : Nat} (hq : q < 64) : ∃ p : Nat, p < 18446744073709551616 ∧ IntKind.u64.wrap (2 ^ q) = (p : Int) ∧
    (∀ j, bits .and .u64 ((vs.getD j 0 : Nat) : Int) (p : Int) = 0 ↔ (vs.getD j 0).testBit q = false) ∧
    ((onesN vs q vs.length = 0 ∨ onesN vs q vs.length = vs.length) → bits .or .u64 ((topN (covA vs) (q + 1) : Nat) : Int) (p : Int) = ((topN (covA vs) q : Nat) : Int)) ∧
    (¬ (onesN vs q vs.length = 0 ∨ onesN vs q vs.length = vs.length) → topN (covA vs) (q + 1) = topN (covA vs) q) ∧
    (onesN vs q vs.length = vs.length → bits .or .u64 ((topN (covB vs) (q + 1) : Nat) : Int) (p : Int) = ((topN (covB vs) q : Nat) : Int)) ∧
    (¬ onesN vs q vs.length = vs.length → topN (covB vs) (q + 1) = topN (covB vs) q) := by
  have h1 : 2 ^ q < 18446744073709551616 := Nat.pow_lt_pow_right (a := 2) (by omega) hq
  have lA := covA_lt vs
  have lB := covB_lt hv
  have tA := topN_le (covA vs) (q + 1)
  have tB := topN_le (covB vs) (q + 1)
  refine ⟨2 ^ q, h1, shl_bit hq, fun j => ?_, fun h => ?_, fun h => ?_, fun h => ?_, fun h => ?_⟩
  · rw [u64_and _ _ (hv j) h1, ← and_bit]; omega
  · rw [u64_or _ _ (by omega) h1, topN_yes ((covA_bit hv h0 hq).2 h)]
  · exact topN_no (by rw [← Bool.not_eq_true]; exact fun e => h ((covA_bit hv h0 hq).1 e))
  · rw [u64_or _ _ (by omega) h1, topN_yes ((covB_bit hv h0 hq).2 h)]
  · exact topN_no (by rw [← Bool.not_eq_true]; exact fun e => h ((covB_bit hv h0 hq).1 e))

set_option maxRecDepth 100000 in
set_option maxHeartbeats 1000000 in
theorem l4mask_any (a : Option Addr) (cap : Nat) (vs : List Nat) (w : World) (hs : USrc w a (natV vs)) (h0 : 0 < vs.length) (hn : vs.length ≤ 16777216) (hv : All64 vs) :
    Calls Try.prog 43 #[.slice a vs.length cap] w fun e w' => e = .returned (conV ⟨1, covA vs, covB vs⟩) ∧ Below w.heap.size w w' := by
  obtain ⟨b, o, rfl, hb, hc⟩ := hs.natAt h0
  have HC : Hid (∀ wr, Below w.heap.size w wr → ∀ j, j < vs.length → wr.cell? ⟨b, o + j, none⟩ = some (.int .u64 ((vs.getD j 0 : Nat) : Int))) := fun wr hB j hj => (hB.cell (p := ⟨b, o + j, none⟩) hb).trans (hc j hj)
  have HV : Hid (∀ j, vs.getD j 0 < 18446744073709551616) := hv
  have HO : Hid (∀ k j, onesN vs k (j + 1) = onesN vs k j + (if (vs.getD j 0).testBit k = true then 1 else 0)) := fun k j => rfl
  have HOl : Hid (∀ k j, onesN vs k j ≤ j) := onesN_le vs
  have HO0 : Hid (∀ k, onesN vs k 0 = 0) := fun k => rfl
  have HB : Hid (∀ q, q < 64 → ∃ p : Nat, p < 18446744073709551616 ∧ IntKind.u64.wrap (2 ^ q) = (p : Int) ∧
    (∀ j, bits .and .u64 ((vs.getD j 0 : Nat) : Int) (p : Int) = 0 ↔ (vs.getD j 0).testBit q = false) ∧
    ((onesN vs q vs.length = 0 ∨ onesN vs q vs.length = vs.length) → bits .or .u64 ((topN (covA vs) (q + 1) : Nat) : Int) (p : Int) = ((topN (covA vs) q : Nat) : Int)) ∧
    (¬ (onesN vs q vs.length = 0 ∨ onesN vs q vs.length = vs.length) → topN (covA vs) (q + 1) = topN (covA vs) q) ∧
    (onesN vs q vs.length = vs.length → bits .or .u64 ((topN (covB vs) (q + 1) : Nat) : Int) (p : Int) = ((topN (covB vs) q : Nat) : Int)) ∧
    (¬ onesN vs q vs.length = vs.length → topN (covB vs) (q + 1) = topN (covB vs) q)) := fun q hq => mask_bit hv h0 hq
  have HA0 : Hid (topN (covA vs) 0 = covA vs) := topN_0 _
  have HB0 : Hid (topN (covB vs) 0 = covB vs) := topN_0 _
  have HA64 : Hid (topN (covA vs) 64 = 0) := topN_64 (covA_lt vs)
  have HB64 : Hid (topN (covB vs) 64 = 0) := topN_64 (covB_lt hv)
  clear hs hc hv
  generalize topN (covA vs) = TA at *
  generalize topN (covB vs) = TB at *
  generalize covA vs = A at *
  generalize covB vs = B at *
  generalize vs.length = n at *
  generalize onesN vs = O at *
  go_enter Try.func43, Try.ntmps43
  go_wp2_with fail
  have T : Two w ((w.alloc (.cells #[.int .i64 0, .int .u64 0, .int .u64 0] 28)).alloc (.cells #[.int .i64 1, .int .u64 0, .int .u64 0] 28)) 1 0 0 := Two.start rfl
  generalize (w.alloc (.cells #[.int .i64 0, .int .u64 0, .int .u64 0] 28)).alloc (.cells #[.int .i64 1, .int .u64 0, .int .u64 0] 28) = W at *
  go_loopw [4] (fun i wr => ∃ k : Nat, k ≤ 64 ∧ i = .int .i64 ((k : Int) - 1) ∧ Two w wr 1 (TA k : Nat) (TB k : Nat)) (fun i _ => (intOf i + 1).toNat)
  case atStart => exact ⟨64, by omega, rfl, by rw [HA64.out, HB64.out]; exact T⟩
  case round =>
    obtain ⟨k, hk, rfl, Tr⟩ := hrel
    clear T HA64 HB64
    have HT : Hid (Two w wr 1 (TA k : Nat) (TB k : Nat)) := Tr
    obtain ⟨R, Y, Bw⟩ := Tr
    cases k with
    | zero =>
      rw [HA0.out, HB0.out] at Y
      clear HC HV HO HOl HO0 HB HA0 HB0 HT
      obtain ⟨_, x0, x1, x2, f0, f1, f2⟩ := R
      obtain ⟨_, y0, y1, y2, g0, g1, g2⟩ := Y
      go_wp2
      exact bodyPost_ret (v := conV ⟨1, A, B⟩) (by simp [results, Try.results43, go_sem, x0, x1, x2]) rfl ⟨rfl, below_set3 Bw (Nat.le_refl _) _ _ _⟩
    | succ q =>
      have hq : ((q + 1 : Nat) : Int) - 1 = (q : Int) := by omega
      rw [hq]
      clear hq HA0 HB0
      obtain ⟨p, hp, e1, HBit, hAy, hAn, hBy, hBn⟩ := HB.out q (by omega)
      have HBit : Hid (∀ j, bits .and .u64 ((vs.getD j 0 : Nat) : Int) (p : Int) = 0 ↔ (vs.getD j 0).testBit q = false) := HBit
      have HAy : Hid ((O q n = 0 ∨ O q n = n) → bits .or .u64 ((TA (q + 1) : Nat) : Int) (p : Int) = ((TA q : Nat) : Int)) := hAy
      have HAn : Hid (¬ (O q n = 0 ∨ O q n = n) → TA (q + 1) = TA q) := hAn
      have HBy : Hid (O q n = n → bits .or .u64 ((TB (q + 1) : Nat) : Int) (p : Int) = ((TB q : Nat) : Int)) := hBy
      have HBn : Hid (¬ O q n = n → TB (q + 1) = TB q) := hBn
      have HCr : Hid (∀ j, j < n → wr.cell? ⟨b, o + j, none⟩ = some (.int .u64 ((vs.getD j 0 : Nat) : Int))) := fun j hj => HC.out wr Bw j hj
      clear HC HB hAy hAn hBy hBn R Bw
      obtain ⟨_, y0, y1, y2, g0, g1, g2⟩ := Y
      have HY : Hid (wr.cell? ⟨w.heap.size + 1, 1, none⟩ = some (.int .u64 ((TA (q + 1) : Nat) : Int)) ∧ wr.cell? ⟨w.heap.size + 1, 2, none⟩ = some (.int .u64 ((TB (q + 1) : Nat) : Int)) ∧ wr.frozen? ⟨w.heap.size + 1, 1, none⟩ = false ∧ wr.frozen? ⟨w.heap.size + 1, 2, none⟩ = false) := ⟨y1, y2, g1, g2⟩
      clear y0 y1 y2 g0 g1 g2
      have hO0 : Hid (O q 0 = 0) := HO0.out q
      have HOq : Hid (∀ j, O q (j + 1) = O q j + (if (vs.getD j 0).testBit q = true then 1 else 0)) := HO.out q
      have HOlq : Hid (∀ j, O q j ≤ j) := HOl.out q
      clear HO HOl HO0
      generalize O q = P at *
      go_wp2_with fail
      go_loopw [6, 7] (fun s i wx => ∃ j : Nat, j ≤ n ∧ i = .int .i64 j ∧ s = .int .i64 (P j : Nat) ∧ wx = wr) (fun _ i _ => n - (intOf i).toNat)
      case atStart => exact ⟨0, by omega, rfl, by rw [hO0.out]; rfl, rfl⟩
      case round =>
        obtain ⟨j, hj, rfl, rfl, rfl⟩ := hrel
        by_cases hlt : j < n
        · have c1 := HCr.out j hlt
          have E := HOq.out j
          have hPl := HOlq.out j
          have r := HV.out j
          have e2 := HBit.out j
          clear HT HCr HOq HOlq HV HBit HAy HAn HBy HBn HY hO0
          generalize vs.getD j 0 = x at *
          cases ht : x.testBit q with
          | true =>
            have e3 : ¬ bits .and .u64 (x : Int) (p : Int) = 0 := fun h => by rw [e2.1 h] at ht; exact absurd ht (by decide)
            rw [ht, if_pos rfl] at E
            have E : Hid (P (j + 1) = P j + 1) := E
            clear e2 ht
            go_wp2
            go_roundw
            case rel => exact ⟨j + 1, by omega, by go_num, by rw [E.out]; go_num, trivial⟩
            case measure => simp [intOf]; omega
          | false =>
            have e3 : bits .and .u64 (x : Int) (p : Int) = 0 := e2.2 ht
            rw [ht, if_neg (by decide)] at E
            have E : Hid (P (j + 1) = P j) := E
            clear e2 ht
            go_wp2
            go_roundw
            case rel => exact ⟨j + 1, by omega, by go_num, by rw [E.out], trivial⟩
            case measure => simp [intOf]; omega
        · have e : j = n := by omega
          subst e
          have hPl := HOlq.out j
          obtain ⟨y1, y2, g1, g2⟩ := HY.out
          clear HCr HOq HOlq HV HBit HY hO0
          by_cases z1 : P j = j
          · have oA := HAy.out (.inr z1)
            have oB := HBy.out z1
            have z2 : ¬ (P j : Int) = 0 := by omega
            have z3 : (P j : Int) = (j : Int) := by omega
            clear HAy HAn HBy HBn
            go_wp2
            go_roundw
            case rel => exact ⟨q, by omega, by go_num, (HT.out.setA _).setB _⟩
            case measure => simp [intOf]
          · by_cases z2 : P j = 0
            · have oA := HAy.out (.inl z2)
              have EB : Hid (TB (q + 1) = TB q) := HBn.out z1
              have z3 : ¬ (P j : Int) = (j : Int) := by omega
              have z4 : (P j : Int) = 0 := by omega
              clear HAy HAn HBy HBn
              go_wp2
              go_roundw
              case rel => 
                refine ⟨q, by omega, by go_num, ?_⟩
                have := HT.out.setA ((TA q : Nat) : Int)
                rw [EB.out] at this
                exact this
              case measure => simp [intOf]
            · have EA : Hid (TA (q + 1) = TA q) := HAn.out (fun h => h.elim z2 z1)
              have EB : Hid (TB (q + 1) = TB q) := HBn.out z1
              have z3 : ¬ (P j : Int) = (j : Int) := by omega
              have z4 : ¬ (P j : Int) = 0 := by omega
              have z5 : ((P j : Int) == 0) = false := by simpa using z4
              have z6 : ((P j : Int) == (j : Int)) = false := by simpa using z3
              clear HAy HAn HBy HBn
              go_wp2
              go_roundw
              case rel => 
                refine ⟨q, by omega, by go_num, ?_⟩
                have := HT.out
                rw [EA.out, EB.out] at this
                exact this
              case measure => simp [intOf]
end Go.Proofs.Ytpbljegjinjmnaa
