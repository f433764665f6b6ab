/-
  THE LAW 'FnCover': its walk.
-/
import Derived.Test.YtpbljegjinjmnaaCondM
namespace Go.Proofs.Ytpbljegjinjmnaa
open Go.RowKit
set_option linter.unusedVariables false

set_option maxRecDepth 100000 in
set_option maxHeartbeats 4000000 in
theorem cover_walk (a : Option Addr) (n cap m : Nat) (f : Int) (x : Nat → Int) (ck ca cb pk pa pb rk ra rb : Int) (b1 b2 : Bool) (w : World) (hn : n ≤ 1048576) (hm : m ≤ 1000) (h0 : 0 < m) (hf : 0 ≤ f ∧ f ≤ 2)
    (S : World → Option Addr → Prop)
    (HS : Hid (∀ w1 w2 ax, Below w1.heap.size w1 w2 → S w1 ax → S w2 ax))
    (HX : Hid (∀ w1 ax i, S w1 ax → i < m → ∃ b o, ax = some ⟨b, o, none⟩ ∧ w1.cell? ⟨b, o + i, none⟩ = some (.int .u64 (x i))))
    (HD : Hid (∀ w1, Below w.heap.size w w1 → Calls Try.prog 6 #[.slice a n cap] w1 fun e w' => ∃ ax cx, e = .returned (.tuple #[.slice ax m cx, .int .i64 f]) ∧ S w' ax ∧ Below w1.heap.size w1 w'))
    (HC : Hid (∀ ax cx w1, S w1 ax → Calls Try.prog 7 #[.slice ax m cx, .int .i64 f] w1 fun e w' => e = .returned (.agg #[.int .i64 ck, .int .u64 ca, .int .u64 cb]) ∧ Below w1.heap.size w1 w'))
    (HC1 : Hid (∀ ax cx w1, S w1 ax → Calls Try.prog 7 #[.slice ax m cx, .int .i64 1] w1 fun e w' => e = .returned (.agg #[.int .i64 pk, .int .u64 pa, .int .u64 pb]) ∧ Below w1.heap.size w1 w'))
    (HC2 : Hid (∀ ax cx w1, S w1 ax → Calls Try.prog 7 #[.slice ax m cx, .int .i64 2] w1 fun e w' => e = .returned (.agg #[.int .i64 rk, .int .u64 ra, .int .u64 rb]) ∧ Below w1.heap.size w1 w'))
    (HN : Hid (∀ w1, Calls Try.prog 9 #[.agg #[.int .i64 ck, .int .u64 ca, .int .u64 cb]] w1 fun e w' => e = .returned (.agg #[.int .i64 ck, .int .u64 ca, .int .u64 cb]) ∧ Below w1.heap.size w1 w'))
    (HE : Hid (∀ w1, Calls Try.prog 8 #[.agg #[.int .i64 ck, .int .u64 ca, .int .u64 cb], .agg #[.int .i64 ck, .int .u64 ca, .int .u64 cb]] w1 fun e w' => e = .returned (.bool true) ∧ Below w1.heap.size w1 w'))
    (HP : Hid (∀ i w1, i < m → Calls Try.prog 10 #[.agg #[.int .i64 1, .int .u64 18446744073709551615, .int .u64 (x i)], .agg #[.int .i64 ck, .int .u64 ca, .int .u64 cb]] w1 fun e w' => e = .returned (.bool true) ∧ Below w1.heap.size w1 w'))
    (HW1 : Hid (∀ w1, Calls Try.prog 10 #[.agg #[.int .i64 ck, .int .u64 ca, .int .u64 cb], .agg #[.int .i64 pk, .int .u64 pa, .int .u64 pb]] w1 fun e w' => e = .returned (.bool b1) ∧ Below w1.heap.size w1 w'))
    (HW2 : Hid (∀ w1, Calls Try.prog 10 #[.agg #[.int .i64 ck, .int .u64 ca, .int .u64 cb], .agg #[.int .i64 rk, .int .u64 ra, .int .u64 rb]] w1 fun e w' => e = .returned (.bool b2) ∧ Below w1.heap.size w1 w'))
    (hb1 : Hid (f = 1 → b1 = true)) (hb2 : Hid (f = 2 → b2 = true)) (hb0 : Hid (f = 0 → (b1 || b2) = true)) :
    Calls Try.prog 3 #[.slice a n cap] w fun e w' => e = .returned (.bool true) ∧ Below w.heap.size w w' := by
  have hlt : ¬ (1048576 : Int) < n := by omega
  have hm0 : ((m : Int) == 0) = false := by rw [beq_eq_false_iff_ne]; omega
  have hf0 : decide (f < 0) = false := by rw [decide_eq_false_iff_not]; omega
  have hf2 : decide (2 < f) = false := by rw [decide_eq_false_iff_not]; omega
  go_enter Try.func3, Try.ntmps3
  go_wp2_with fail
  refine (HD.out _ (Below.refl _ _)).mono ?_
  rintro e w1 ⟨a1, c1, rfl, s1, B1⟩
  go_wp2_with fail
  refine (HD.out _ B1).mono ?_
  rintro e w2 ⟨a2, c2, rfl, s2, hb⟩
  have s1' := HS.out _ _ _ hb s1
  have B2 : Below w.heap.size w w2 := B1.trans (hb.mono B1.size)
  clear s1 B1 hb
  go_wp2_with fail
  refine (HC.out _ _ _ s2).mono ?_
  rintro e w3 ⟨rfl, hb⟩
  have s3 := HS.out _ _ _ hb s1'
  have B3 : Below w.heap.size w w3 := B2.trans (hb.mono B2.size)
  clear s1' s2 B2 hb
  have hd4 : Below w3.heap.size w3 (w3.alloc (.cells #[.int .i64 ck, .int .u64 ca, .int .u64 cb] 28)) := (Below.refl _ _).alloc (Nat.le_refl _) _
  have X4 := BoxK.new w3 28 (.int .i64 ck) (.int .u64 ca) (.int .u64 cb)
  have s4 := HS.out _ _ _ hd4 s3
  have B4 := B3.trans (hd4.mono B3.size)
  clear s3 B3 hd4 HC
  go_wp2_with fail
  generalize w3.alloc (.cells #[.int .i64 ck, .int .u64 ca, .int .u64 cb] 28) = W at *
  generalize w3.heap.size = G at *
  have SK : Hid (∀ wa wb, Below wa.heap.size wa wb → (Below w.heap.size w wa ∧ wa.cell? ⟨G, 0, none⟩ = some (.int .i64 ck) ∧ wa.cell? ⟨G, 1, none⟩ = some (.int .u64 ca) ∧ wa.cell? ⟨G, 2, none⟩ = some (.int .u64 cb) ∧ S wa a1) → (Below w.heap.size w wb ∧ wb.cell? ⟨G, 0, none⟩ = some (.int .i64 ck) ∧ wb.cell? ⟨G, 1, none⟩ = some (.int .u64 ca) ∧ wb.cell? ⟨G, 2, none⟩ = some (.int .u64 cb) ∧ S wb a1)) := fun wa wb hb ⟨s, c0, c1, c2, s1⟩ =>
    ⟨below_step hb s, cell_step hb c0, cell_step hb c1, cell_step hb c2, HS.out _ _ _ hb s1⟩
  have hS0 : Below w.heap.size w W ∧ W.cell? ⟨G, 0, none⟩ = some (.int .i64 ck) ∧ W.cell? ⟨G, 1, none⟩ = some (.int .u64 ca) ∧ W.cell? ⟨G, 2, none⟩ = some (.int .u64 cb) ∧ S W a1 := by
    obtain ⟨_, x0, x1, x2, _, _, _⟩ := X4
    exact ⟨B4, x0, x1, x2, s4⟩
  have hS1 := SK.out W W.drew ((Below.refl _ _).drew) hS0
  clear X4 s4 B4 hS0
  go_region_held3 (fun w' => Below w.heap.size w w' ∧ w'.cell? ⟨G, 0, none⟩ = some (.int .i64 ck) ∧ w'.cell? ⟨G, 1, none⟩ = some (.int .u64 ca) ∧ w'.cell? ⟨G, 2, none⟩ = some (.int .u64 cb) ∧ S w' a1)
    (assumption)
    (first
      | (go_at_call 9; refine (HN.out _).mono ?_; rintro e w4 ⟨rfl, hb4⟩; have hS4 := SK.out _ _ hb4 (by assumption))
      | (go_at_call 8; refine (HE.out _).mono ?_; rintro e w4 ⟨rfl, hb4⟩; have hS4 := SK.out _ _ hb4 (by assumption)))
  all_goals go_wp2_with fail
  clear hS1 HN HE
  go_loopw [8] (fun i wr => ∃ k : Nat, k ≤ m ∧ i = .int .i64 k ∧ (Below w.heap.size w wr ∧ wr.cell? ⟨G, 0, none⟩ = some (.int .i64 ck) ∧ wr.cell? ⟨G, 1, none⟩ = some (.int .u64 ca) ∧ wr.cell? ⟨G, 2, none⟩ = some (.int .u64 cb) ∧ S wr a1)) (fun i _ => m - (intOf i).toNat)
  case atStart => exact ⟨0, by omega, rfl, hS4⟩
  case round =>
    clear hS4
    obtain ⟨k, hk, rfl, hS⟩ := hrel
    by_cases hlt2 : k < m
    · obtain ⟨bb, oo, rfl, hcx⟩ := HX.out wr a1 k hS.2.2.2.2 hlt2
      have HPk : Hid (∀ w1, Calls Try.prog 10 #[.agg #[.int .i64 1, .int .u64 18446744073709551615, .int .u64 (x k)], .agg #[.int .i64 ck, .int .u64 ca, .int .u64 cb]] w1 fun e w' => e = .returned (.bool true) ∧ Below w1.heap.size w1 w') := fun w1 => HP.out k w1 hlt2
      have hd : Below wr.heap.size wr (wr.alloc (.cells #[.int .i64 1, .int .u64 18446744073709551615, .int .u64 (x k)] 28)) := (Below.refl _ _).alloc (Nat.le_refl _) _
      have hS' := SK.out _ _ hd hS
      have hSc := hS'
      obtain ⟨_, x0, x1, x2, _⟩ := hSc
      have hS'' : Hid _ := hS'
      clear hS hS' HD HC1 HC2 HW1 HW2 HP HX HS hd
      go_wp2_with fail
      refine (HPk.out _).mono ?_
      rintro e w5 ⟨rfl, hb5⟩
      have hS5 : Hid _ := SK.out _ _ hb5 hS''.out
      clear hb5 hS'' HPk hcx x0 x1 x2
      go_wp2
      go_roundw
      case rel => exact ⟨k + 1, by omega, by go_num, hS5.out⟩
      case measure => simp [intOf]; omega
    · have hk' : k = m := by omega
      subst hk'
      clear HP HX hlt2
      go_wp2_with fail
      refine (HD.out _ hS.1).mono ?_
      rintro e w5 ⟨a5, c5, rfl, s5, hb⟩
      have hS5 := SK.out _ _ hb hS
      clear hS hb
      go_wp2_with fail
      refine (HD.out _ hS5.1).mono ?_
      rintro e w6 ⟨a6, c6, rfl, s6, hb⟩
      have hS6 := SK.out _ _ hb hS5
      have s5' := HS.out _ _ _ hb s5
      clear hS5 hb s5 HD
      go_wp2_with fail
      have SK2 : Hid (∀ wa wb, Below wa.heap.size wa wb → (Below w.heap.size w wa ∧ wa.cell? ⟨G, 0, none⟩ = some (.int .i64 ck) ∧ wa.cell? ⟨G, 1, none⟩ = some (.int .u64 ca) ∧ wa.cell? ⟨G, 2, none⟩ = some (.int .u64 cb) ∧ S wa a5 ∧ S wa a6) → (Below w.heap.size w wb ∧ wb.cell? ⟨G, 0, none⟩ = some (.int .i64 ck) ∧ wb.cell? ⟨G, 1, none⟩ = some (.int .u64 ca) ∧ wb.cell? ⟨G, 2, none⟩ = some (.int .u64 cb) ∧ S wb a5 ∧ S wb a6)) := fun wa wb hb ⟨s, c0, c1, c2, s1, s2⟩ =>
        ⟨below_step hb s, cell_step hb c0, cell_step hb c1, cell_step hb c2, HS.out _ _ _ hb s1, HS.out _ _ _ hb s2⟩
      have hS7 := SK2.out w6 w6.drew ((Below.refl _ _).drew) ⟨hS6.1, hS6.2.1, hS6.2.2.1, hS6.2.2.2.1, s5', s6⟩
      have HC1' : Hid (∀ w1, (Below w.heap.size w w1 ∧ w1.cell? ⟨G, 0, none⟩ = some (.int .i64 ck) ∧ w1.cell? ⟨G, 1, none⟩ = some (.int .u64 ca) ∧ w1.cell? ⟨G, 2, none⟩ = some (.int .u64 cb) ∧ S w1 a5 ∧ S w1 a6) → Calls Try.prog 7 #[.slice a5 k c5, .int .i64 1] w1 fun e w' => e = .returned (.agg #[.int .i64 pk, .int .u64 pa, .int .u64 pb]) ∧ Below w1.heap.size w1 w') := fun w1 h => HC1.out _ _ _ h.2.2.2.2.1
      have HC2' : Hid (∀ w1, (Below w.heap.size w w1 ∧ w1.cell? ⟨G, 0, none⟩ = some (.int .i64 ck) ∧ w1.cell? ⟨G, 1, none⟩ = some (.int .u64 ca) ∧ w1.cell? ⟨G, 2, none⟩ = some (.int .u64 cb) ∧ S w1 a5 ∧ S w1 a6) → Calls Try.prog 7 #[.slice a6 k c6, .int .i64 2] w1 fun e w' => e = .returned (.agg #[.int .i64 rk, .int .u64 ra, .int .u64 rb]) ∧ Below w1.heap.size w1 w') := fun w1 h => HC2.out _ _ _ h.2.2.2.2.2
      clear hS6 s5' s6 SK HS HC1 HC2
      go_region_held3 (fun w' => Below w.heap.size w w' ∧ w'.cell? ⟨G, 0, none⟩ = some (.int .i64 ck) ∧ w'.cell? ⟨G, 1, none⟩ = some (.int .u64 ca) ∧ w'.cell? ⟨G, 2, none⟩ = some (.int .u64 cb) ∧ S w' a5 ∧ S w' a6)
        (assumption)
        (first
          | (go_at_call 7; refine (HC1'.out _ (by assumption)).mono ?_; rintro e w8 ⟨rfl, hb8⟩; have hS8 := SK2.out _ _ hb8 (by assumption))
          | (go_at_call 10; refine (HW1.out _).mono ?_; rintro e w8 ⟨rfl, hb8⟩; have hS8 := SK2.out _ _ hb8 (by assumption)))
      all_goals go_wp2_with fail
      clear hS7 HC1' HW1
      have hS9 := SK2.out _ w8.drew ((Below.refl _ _).drew) hS8
      clear hS8
      go_region_held3 (fun w' => Below w.heap.size w w' ∧ w'.cell? ⟨G, 0, none⟩ = some (.int .i64 ck) ∧ w'.cell? ⟨G, 1, none⟩ = some (.int .u64 ca) ∧ w'.cell? ⟨G, 2, none⟩ = some (.int .u64 cb) ∧ S w' a5 ∧ S w' a6)
        (assumption)
        (first
          | (go_at_call 7; refine (HC2'.out _ (by assumption)).mono ?_; rintro e w10 ⟨rfl, hb10⟩; have hS10 := SK2.out _ _ hb10 (by assumption))
          | (go_at_call 10; refine (HW2.out _).mono ?_; rintro e w10 ⟨rfl, hb10⟩; have hS10 := SK2.out _ _ hb10 (by assumption)))
      have B10 : Below w.heap.size w w10 := hS10.1
      clear hS9 HC2' HW2 hS10 SK2
      by_cases f1 : f = 1
      · have e1 := hb1.out f1
        subst f1
        subst e1
        clear hb1 hb2 hb0
        go_wp2
        go_ret
        exact ⟨rfl, B10⟩
      · by_cases f2 : f = 2
        · have e1 := hb2.out f2
          subst f2
          subst e1
          clear hb1 hb2 hb0
          go_wp2
          go_ret
          exact ⟨rfl, B10⟩
        · have e1 := hb0.out (by omega)
          clear hb1 hb2 hb0
          cases b1 with
          | true =>
            clear e1
            go_wp2
            go_ret
            exact ⟨rfl, B10⟩
          | false =>
            have e2 : b2 = true := e1
            subst e2
            clear e1
            go_wp2
            go_ret
            exact ⟨rfl, B10⟩
end Go.Proofs.Ytpbljegjinjmnaa
