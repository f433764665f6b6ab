/-
  DlgY
-/
import Derived.Test.YtjbbiailhpkdeaaDoorQ15
import Derived.OwnWalk
namespace Go.Proofs.YtjbbiailhpkdeaaDoor
open Go.RowKit
set_option linter.unusedVariables false

theorem num_two {B : List Int} (h : 7 ≤ B.length) : numL ((B.drop 5).take 2) = B.getD 5 0 + 256 * B.getD 6 0 ∧ ((B.drop 5).take 2).length = 2 := by
  rw [List.drop_eq_getElem_cons (by omega), List.drop_eq_getElem_cons (by omega)]
  simp only [List.take_succ_cons, List.take_zero, numL, List.length_cons, List.length_nil, List.getD_eq_getElem?_getD, List.getElem?_eq_getElem (show 5 < B.length by omega), List.getElem?_eq_getElem (show 6 < B.length by omega), Option.getD_some]
  exact ⟨by simp, trivial⟩

theorem littleL_okY (v : Int) (n : Nat) : isBytes (littleL v n) := by
  induction n generalizing v with
  | zero => intro x hx; simp [littleL] at hx
  | succ n ih =>
    intro x hx
    simp only [littleL, List.mem_cons] at hx
    rcases hx with rfl | hx
    · omega
    · exact ih _ x hx

set_option maxRecDepth 100000 in
set_option maxHeartbeats 4000000 in
theorem specDecodeLog_at (b o cap : Nat) (B : List Int) (w : World) (hp : BytesAt w b o B) (hb : b < w.heap.size) (hcap : B.length ≤ cap) (hB : isBytes B) (hn : B.length ≤ 1048576) :
    Calls Tryd.prog 7 #[.slice (some ⟨b, o, none⟩) B.length cap] w fun e w' => SDecPost B w e w' := by
  have HBad : Hid (∀ (c : Int) (a : Nat) W, decLog B = ([], c, a) → Below w.heap.size w W → SDecPost B w (.returned (.tuple #[.slice none 0 0, .int .i64 c, .int .i64 (a : Int)])) W) := fun c a W h hb => SDecPost.bad h hb
  have HGood : Hid (∀ v os W, decLog B = (os.map Prod.fst, 0, 0) → McS W w.heap.size v os → Below w.heap.size w W → SDecPost B w (.returned (.tuple #[v, .int .i64 0, .int .i64 0])) W) := fun v os W h hm hb => SDecPost.good h hm hb
  have HHd : Hid (∀ c a, headR B = some (c, a) → decLog B = ([], c, a)) := fun c a h => dec_head h
  by_cases h7 : B.length < 7
  · have HP : Hid (SDecPost B w (.returned (.tuple #[.slice none 0 0, .int .i64 5, .int .i64 (B.length : Int)])) w) := HBad.out 5 B.length w (HHd.out _ _ (head_short h7)) (Below.refl _ _)
    have h7' : (B.length : Int) < 7 := by omega
    generalize SDecPost B w = Post at *
    clear HBad HGood HHd h7
    generalize B.length = n at *
    go_enter Tryd.func7, Tryd.ntmps7
    go_wp2
    go_ret3
    exact HP.out
  have HBy : Hid (∀ W, Below w.heap.size w W → ∀ i, i < B.length → W.cell? ⟨b, o + i, none⟩ = some (.int .u8 (B.getD i 0)) ∧ 0 ≤ B.getD i 0 ∧ B.getD i 0 ≤ 255) := fun W h i hi => ⟨(h.cell (p := ⟨b, _, none⟩) hb).trans (hp i hi), isBytes_getD hB i⟩
  have HMk : Hid (∀ i, i < 4 → (∀ j, j < i → B.getD j 0 = markL.getD j 0) → B.getD i 0 ≠ markL.getD i 0 → headR B = some (2, i)) := fun i hi hj hne => head_mark h7 hi hj hne
  have HRs : Hid ((∀ j, j < 4 → B.getD j 0 = markL.getD j 0) → headR B = if B.getD 4 0 ≠ 1 then some (3, 4) else if 1000 < B.getD 5 0 + 256 * B.getD 6 0 then some (4, 5) else none) := fun hj => head_rest h7 hj
  have HNm : Hid (∀ W cp, Below w.heap.size w W → Calls Tryd.prog 25 #[.slice (some ⟨b, o + 5, none⟩) 2 cp] W fun e w' => e = .returned (.int .u64 (B.getD 5 0 + 256 * B.getD 6 0)) ∧ w' = W) := fun W cp h => by
    obtain ⟨n1, n2⟩ := num_two (B := B) (by omega)
    have := l1number_at b (o + 5) cp ((B.drop 5).take 2) W (fun i hi => ?_) (fun x hx => hB x (List.mem_of_mem_drop (List.mem_of_mem_take hx))) (by omega)
    · rw [n1, n2] at this; exact this
    · rw [n2] at hi
      rw [(h.cell (p := ⟨b, _, none⟩) hb), Nat.add_assoc, hp (5 + i) (by omega)]
      simp only [List.getD_eq_getElem?_getD, List.getElem?_take, List.getElem?_drop, if_pos hi]
  have HDn : Hid (headR B = none → decLog B = finR B.length [] (framesR B.length (countR B) (B.drop 7))) := dec_none0
  have HCt : Hid (countR B = (B.getD 5 0 + 256 * B.getD 6 0).toNat) := rfl
  have h7' : decide ((B.length : Int) < 7) = false := by simp; omega
  have h7i : (7 : Int) ≤ (B.length : Int) := by omega
  have HLen : Hid (7 ≤ B.length) := by show _ ≤ _; omega
  obtain ⟨n, hnn⟩ : ∃ n, B.length = n := ⟨_, rfl⟩
  have HN : Hid (B.length = n) := hnn
  rw [hnn] at h7' h7i HLen HBy hcap hn ⊢
  clear hnn h7
  go_enter Tryd.func7, Tryd.ntmps7
  go_wp2_with fail
  go_loopw [7] (fun i wr => ∃ j mm : Nat, j ≤ 4 ∧ i = .int .i64 j ∧ wr = w.drewN mm ∧ Hid (∀ t, t < j → B.getD t 0 = markL.getD t 0)) (fun i _ => 4 - (intOf i).toNat)
  case atStart => exact ⟨0, 0, by omega, by first | rfl | go_num, rfl, fun t ht => by omega⟩
  case round =>
    obtain ⟨j, mm, hj, rfl, rfl, HJ⟩ := hrel
    have hmm : Below w.heap.size w (w.drewN mm) := ⟨rfl, rfl, rfl, Nat.le_refl _, fun _ _ => rfl⟩
    by_cases hj4 : j < 4
    · have hmd : Below w.heap.size w (w.drewN mm).drew := ⟨rfl, rfl, rfl, Nat.le_refl _, fun _ _ => rfl⟩
      have hm0 : 0 < n := by omega
      have hm1 : 1 < n := by omega
      have hm2 : 2 < n := by omega
      have hm3 : 3 < n := by omega
      have hi0 : (0 : Int) < (n : Int) := by omega
      have hi1 : (1 : Int) < (n : Int) := by omega
      have hi2 : (2 : Int) < (n : Int) := by omega
      have hi3 : (3 : Int) < (n : Int) := by omega
      rcases (by omega : j = 0 ∨ j = 1 ∨ j = 2 ∨ j = 3) with rfl | rfl | rfl | rfl
      · obtain ⟨c0, cb0, cb1⟩ := HBy.out w (Below.refl _ _) 0 (by have := HLen.out; omega)
        rw [Nat.add_zero] at c0
        by_cases he : B.getD 0 0 = 67
        · have HJ2 : Hid (∀ t, t < 0 + 1 → B.getD t 0 = markL.getD t 0) := fun t ht => by
            by_cases e : t = 0
            · rw [e, he]; rfl
            · exact HJ.out t (by omega)
          rw [he] at c0
          have hq : ((67 : Int) != (((({ data := #[67, 76, 79, 71] } : ByteArray)[0]'(by decide)).toNat : Nat) : Int)) = false := by decide
          clear HBad HGood HHd HBy HMk HRs HNm HDn HCt HJ he cb0 cb1 hmm hmd
          go_wp2_with fail
          go_quiet (fail)
          go_wp2
          go_roundw
          case rel => exact ⟨0 + 1, _, by omega, by first | rfl | go_num, rfl, HJ2⟩
          case measure => simp [intOf]
        · have HP : Hid (∀ m2, SDecPost B w (.returned (.tuple #[.slice none 0 0, .int .i64 2, .int .i64 0])) ((w.drewN mm).drewN m2)) := fun m2 => HBad.out 2 0 _ (HHd.out _ _ (HMk.out 0 (by omega) HJ.out he)) ⟨rfl, rfl, rfl, Nat.le_refl _, fun _ _ => rfl⟩
          generalize B.getD 0 0 = y at *
          have hq : (y != (((({ data := #[67, 76, 79, 71] } : ByteArray)[0]'(by decide)).toNat : Nat) : Int)) = true := by show (y != (67 : Int)) = true; simp; exact he
          clear HBad HGood HHd HBy HMk HRs HNm HDn HCt HJ hmm hmd
          go_wp2_with fail
          go_quiet (fail)
          go_wp2
          go_ret3
          exact HP.out _
      · obtain ⟨c0, cb0, cb1⟩ := HBy.out w (Below.refl _ _) 1 (by have := HLen.out; omega)
        by_cases he : B.getD 1 0 = 76
        · have HJ2 : Hid (∀ t, t < 1 + 1 → B.getD t 0 = markL.getD t 0) := fun t ht => by
            by_cases e : t = 1
            · rw [e, he]; rfl
            · exact HJ.out t (by omega)
          rw [he] at c0
          have hq : ((76 : Int) != (((({ data := #[67, 76, 79, 71] } : ByteArray)[1]'(by decide)).toNat : Nat) : Int)) = false := by decide
          clear HBad HGood HHd HBy HMk HRs HNm HDn HCt HJ he cb0 cb1 hmm hmd
          go_wp2_with fail
          go_quiet (fail)
          go_wp2
          go_roundw
          case rel => exact ⟨1 + 1, _, by omega, by first | rfl | go_num, rfl, HJ2⟩
          case measure => simp [intOf]
        · have HP : Hid (∀ m2, SDecPost B w (.returned (.tuple #[.slice none 0 0, .int .i64 2, .int .i64 1])) ((w.drewN mm).drewN m2)) := fun m2 => HBad.out 2 1 _ (HHd.out _ _ (HMk.out 1 (by omega) HJ.out he)) ⟨rfl, rfl, rfl, Nat.le_refl _, fun _ _ => rfl⟩
          generalize B.getD 1 0 = y at *
          have hq : (y != (((({ data := #[67, 76, 79, 71] } : ByteArray)[1]'(by decide)).toNat : Nat) : Int)) = true := by show (y != (76 : Int)) = true; simp; exact he
          clear HBad HGood HHd HBy HMk HRs HNm HDn HCt HJ hmm hmd
          go_wp2_with fail
          go_quiet (fail)
          go_wp2
          go_ret3
          exact HP.out _
      · obtain ⟨c0, cb0, cb1⟩ := HBy.out w (Below.refl _ _) 2 (by have := HLen.out; omega)
        by_cases he : B.getD 2 0 = 79
        · have HJ2 : Hid (∀ t, t < 2 + 1 → B.getD t 0 = markL.getD t 0) := fun t ht => by
            by_cases e : t = 2
            · rw [e, he]; rfl
            · exact HJ.out t (by omega)
          rw [he] at c0
          have hq : ((79 : Int) != (((({ data := #[67, 76, 79, 71] } : ByteArray)[2]'(by decide)).toNat : Nat) : Int)) = false := by decide
          clear HBad HGood HHd HBy HMk HRs HNm HDn HCt HJ he cb0 cb1 hmm hmd
          go_wp2_with fail
          go_quiet (fail)
          go_wp2
          go_roundw
          case rel => exact ⟨2 + 1, _, by omega, by first | rfl | go_num, rfl, HJ2⟩
          case measure => simp [intOf]
        · have HP : Hid (∀ m2, SDecPost B w (.returned (.tuple #[.slice none 0 0, .int .i64 2, .int .i64 2])) ((w.drewN mm).drewN m2)) := fun m2 => HBad.out 2 2 _ (HHd.out _ _ (HMk.out 2 (by omega) HJ.out he)) ⟨rfl, rfl, rfl, Nat.le_refl _, fun _ _ => rfl⟩
          generalize B.getD 2 0 = y at *
          have hq : (y != (((({ data := #[67, 76, 79, 71] } : ByteArray)[2]'(by decide)).toNat : Nat) : Int)) = true := by show (y != (79 : Int)) = true; simp; exact he
          clear HBad HGood HHd HBy HMk HRs HNm HDn HCt HJ hmm hmd
          go_wp2_with fail
          go_quiet (fail)
          go_wp2
          go_ret3
          exact HP.out _
      · obtain ⟨c0, cb0, cb1⟩ := HBy.out w (Below.refl _ _) 3 (by have := HLen.out; omega)
        by_cases he : B.getD 3 0 = 71
        · have HJ2 : Hid (∀ t, t < 3 + 1 → B.getD t 0 = markL.getD t 0) := fun t ht => by
            by_cases e : t = 3
            · rw [e, he]; rfl
            · exact HJ.out t (by omega)
          rw [he] at c0
          have hq : ((71 : Int) != (((({ data := #[67, 76, 79, 71] } : ByteArray)[3]'(by decide)).toNat : Nat) : Int)) = false := by decide
          clear HBad HGood HHd HBy HMk HRs HNm HDn HCt HJ he cb0 cb1 hmm hmd
          go_wp2_with fail
          go_quiet (fail)
          go_wp2
          go_roundw
          case rel => exact ⟨3 + 1, _, by omega, by first | rfl | go_num, rfl, HJ2⟩
          case measure => simp [intOf]
        · have HP : Hid (∀ m2, SDecPost B w (.returned (.tuple #[.slice none 0 0, .int .i64 2, .int .i64 3])) ((w.drewN mm).drewN m2)) := fun m2 => HBad.out 2 3 _ (HHd.out _ _ (HMk.out 3 (by omega) HJ.out he)) ⟨rfl, rfl, rfl, Nat.le_refl _, fun _ _ => rfl⟩
          generalize B.getD 3 0 = y at *
          have hq : (y != (((({ data := #[67, 76, 79, 71] } : ByteArray)[3]'(by decide)).toNat : Nat) : Int)) = true := by show (y != (71 : Int)) = true; simp; exact he
          clear HBad HGood HHd HBy HMk HRs HNm HDn HCt HJ hmm hmd
          go_wp2_with fail
          go_quiet (fail)
          go_wp2
          go_ret3
          exact HP.out _
    · obtain rfl : j = 4 := by omega
      have hHd := HRs.out HJ.out
      obtain ⟨c4, cb40, cb41⟩ := HBy.out w (Below.refl _ _) 4 (by have := HLen.out; omega)
      obtain ⟨_, cb50, cb51⟩ := HBy.out w (Below.refl _ _) 5 (by have := HLen.out; omega)
      obtain ⟨_, cb60, cb61⟩ := HBy.out w (Below.refl _ _) 6 (by have := HLen.out; omega)
      have hm4 : 4 < n := by have := HLen.out; omega
      have hi4 : (4 : Int) < (n : Int) := by omega
      clear HMk HRs HJ
      by_cases hv : B.getD 4 0 = 1
      case neg =>
        rw [if_pos hv] at hHd
        have HP : Hid (SDecPost B w (.returned (.tuple #[.slice none 0 0, .int .i64 3, .int .i64 4])) (w.drewN mm)) := HBad.out 3 4 _ (HHd.out _ _ hHd) hmm
        clear HBad HGood HHd HBy HNm HDn HCt hHd
        generalize B.getD 4 0 = y at *
        have hy : (y != 1) = true := by simp; exact hv
        go_wp2
        go_ret3
        exact HP.out
      rw [if_neg (fun h => h hv)] at hHd
      rw [hv] at c4
      have hc7 : (7 : Int) ≤ (cap : Int) := by omega
      generalize hct : B.getD 5 0 + 256 * B.getD 6 0 = ct at *
      have ct0 : 0 ≤ ct := by omega
      have ct1 : ct ≤ 65535 := by omega
      clear hct cb50 cb51 cb60 cb61 cb40 cb41
      go_wp2_with fail
      refine (HNm.out _ _ hmm).mono ?_
      rintro _ W ⟨rfl, rfl⟩
      by_cases hbig : 1000 < ct
      · rw [if_pos hbig] at hHd
        have HP : Hid (SDecPost B w (.returned (.tuple #[.slice none 0 0, .int .i64 4, .int .i64 5])) (w.drewN mm)) := HBad.out 4 5 _ (HHd.out _ _ hHd) hmm
        clear HBad HGood HHd HBy HNm HDn HCt hHd
        go_wp2
        go_ret3
        exact HP.out
      rw [if_neg hbig] at hHd
      have HD0 := HDn.out hHd
      rw [HCt.out, HN.out] at HD0
      obtain ⟨q, rfl⟩ : ∃ q : Nat, ct = (q : Int) := ⟨ct.toNat, by omega⟩
      rw [Int.toNat_natCast] at HD0
      have HDq : Hid (decLog B = finR n [] (framesR n (q - 0) (B.drop 7))) := by rw [Nat.sub_zero]; exact HD0
      have HFr : Hid (∀ k p cs, k < q → decLog B = finR n cs (framesR n (q - k) (B.drop p)) → (∀ f : Int × Nat, frameR n (B.drop p) = .inl f → decLog B = ([], f.1, f.2)) ∧ (∀ c r, frameR n (B.drop p) = .inr (c, r) → decLog B = finR n (cs ++ [c]) (framesR n (q - (k + 1)) r))) := fun k p cs hk h => by
        obtain ⟨t, ht⟩ : ∃ t, q - k = t + 1 := ⟨q - k - 1, by omega⟩
        rw [ht] at h
        refine ⟨fun f hf => by rw [h, framesR_bad hf], fun c r hf => by rw [h, framesR_good hf, show q - (k + 1) = t by omega]⟩
      have HF0 : Hid (frameR n (B.drop n) = .inl (5, n)) := by
        unfold Hid
        rw [List.drop_eq_nil_of_le (by rw [HN.out]; exact Nat.le_refl _)]
        rfl
      have HFa : Hid (∀ p m : Nat, p < n → B.getD p 0 = (m : Int) → frameR n (B.drop p) =
          if m < 8 ∨ 70 < m then .inl (6, p)
          else if n < p + 1 + m + 4 then .inl (5, n)
          else if littleL (sumL ((B.drop (p + 1)).take m)) 4 ≠ (B.drop (p + 1 + m)).take 4 then .inl (7, p + 1 + m)
          else match callB ((B.drop (p + 1)).take m) with
            | none => .inl (8, p + 1)
            | some c => .inr (c, B.drop (p + 1 + m + 4))) := fun p m h1 h2 => by
        have := frame_at (B := B) (by rw [HN.out]; exact h1) h2
        rw [HN.out] at this
        exact this
      have HEnd : Hid (∀ cs p, p ≤ n → decLog B = finR n cs (framesR n (q - q) (B.drop p)) → (p = n → decLog B = (cs, 0, 0)) ∧ (p < n → decLog B = ([], 9, p))) := fun cs p hpn h => by
        rw [Nat.sub_self, fin_end] at h
        have hl : (B.drop p).length = n - p := by rw [List.length_drop, HN.out]
        refine ⟨fun e => ?_, fun e => ?_⟩
        · rw [h, if_pos (List.eq_nil_of_length_eq_zero (by omega))]
        · rw [h, if_neg (fun e2 => by rw [e2] at hl; simp at hl; omega), hl, show n - (n - p) = p by omega]
      have M0 : McS (w.drewN mm) w.heap.size (.slice none 0 0) [] := ⟨⟨rfl, .inl ⟨rfl, rfl⟩⟩, fun p hp => by simp at hp⟩
      clear HD0 HDn HCt HHd hHd HNm c4 hv
      go_wp2_with fail
      go_loopw [9, 10, 11] (fun s t u wr => ∃ (v : Value) (p k : Nat) (os : List (C × Value)), v = s ∧ t = .int .i64 (p : Int) ∧ u = .int .i64 (k : Int) ∧ p ≤ n ∧ k ≤ q ∧ McS wr w.heap.size v os ∧ Below w.heap.size w wr ∧ Hid (os.length = k) ∧ Hid (decLog B = finR n (os.map Prod.fst) (framesR n (q - k) (B.drop p)))) (fun _ _ u _ => q - (intOf u).toNat)
      case atStart => exact ⟨_, 7, 0, [], rfl, rfl, rfl, HLen.out, Nat.zero_le _, M0, hmm, rfl, HDq⟩
      case round =>
        obtain ⟨v, p, k, os, rfl, rfl, rfl, hpn, hk, hM, hBe, hol, HDk⟩ := hrel
        clear HDq M0 hmm
        by_cases hlt : k < q
        · obtain ⟨HI, HG⟩ := HFr.out k p _ hlt HDk.out
          clear HFr HEnd HGood
          by_cases hpe : p = n
          · subst hpe
            have HP : Hid (SDecPost B w (.returned (.tuple #[.slice none 0 0, .int .i64 5, .int .i64 (p : Int)])) wr) := HBad.out 5 p _ (HI _ HF0.out) hBe
            clear HI HG HF0 HFa HBad HBy HDk hM
            go_wp2
            go_ret3
            exact HP.out
          · have hpl : p < n := by omega
            have hpi : (p : Int) < (n : Int) := by omega
            have hpe' : ¬ (p : Int) = (n : Int) := by omega
            obtain ⟨cm, cm0, cm1⟩ := HBy.out wr hBe p hpl
            obtain ⟨m, hm⟩ : ∃ m : Nat, B.getD p 0 = (m : Int) := ⟨(B.getD p 0).toNat, by omega⟩
            have hfa := HFa.out p m hpl hm
            rw [hm] at cm cm0 cm1
            clear HF0 HFa
            by_cases hr : m < 8 ∨ 70 < m
            · rw [if_pos hr] at hfa
              have HP : Hid (SDecPost B w (.returned (.tuple #[.slice none 0 0, .int .i64 6, .int .i64 (p : Int)])) wr) := HBad.out 6 p _ (HI _ hfa) hBe
              clear HI HG HBad HBy HDk hM hfa hm
              by_cases hr8 : m < 8
              · have hr8' : (m : Int) < 8 := by omega
                clear hr
                go_wp2
                go_ret3
                exact HP.out
              · have hr70 : (70 : Int) < (m : Int) := by omega
                have hr8' : ¬ (m : Int) < 8 := by omega
                clear hr
                go_wp2
                go_ret3
                exact HP.out
            rw [if_neg hr] at hfa
            have hm8 : ¬ (m : Int) < 8 := by omega
            have hm70 : ¬ (70 : Int) < (m : Int) := by omega
            have hwp : IntKind.i64.wrap ((p : Int) + 1 + (m : Int) + 4) = (p : Int) + 1 + (m : Int) + 4 := by rw [IntKind.wrap_i64]; omega
            by_cases hs : n < p + 1 + m + 4
            · rw [if_pos hs] at hfa
              have HP : Hid (SDecPost B w (.returned (.tuple #[.slice none 0 0, .int .i64 5, .int .i64 (n : Int)])) wr) := HBad.out 5 n _ (HI _ hfa) hBe
              have hs' : (n : Int) < (p : Int) + 1 + (m : Int) + 4 := by omega
              clear HI HG HBad HBy HDk hM hfa hm hr
              go_wp2
              go_ret3
              exact HP.out
            rw [if_neg hs] at hfa
            have hs' : ¬ (n : Int) < (p : Int) + 1 + (m : Int) + 4 := by omega
            have hwq : IntKind.i64.wrap ((p : Int) + 1 + (m : Int)) = (p : Int) + 1 + (m : Int) := by rw [IntKind.wrap_i64]; omega
            have hsa : (p : Int) + 1 ≤ (p : Int) + 1 + (m : Int) := by omega
            have hsb : (p : Int) + 1 + (m : Int) ≤ (cap : Int) := by omega
            have hsc : (p : Int) + 1 + (m : Int) + 4 ≤ (cap : Int) := by omega
            have hse : (0 : Int) ≤ (p : Int) + 1 + (m : Int) := by omega
            have hsf : (0 : Int) ≤ (p : Int) + 1 + (m : Int) + 4 := by omega
            have hsd : (p : Int) + 1 + (m : Int) ≤ (p : Int) + 1 + (m : Int) + 4 := by omega
            clear hr
            have hb1 : ((B.drop (p + 1)).take m).length = m := by rw [List.length_take, List.length_drop, HN.out]; omega
            have hb2 : ((B.drop (p + 1 + m)).take 4).length = 4 := by rw [List.length_take, List.length_drop, HN.out]; omega
            have hB1 : isBytes ((B.drop (p + 1)).take m) := fun x hx => hB x (List.mem_of_mem_drop (List.mem_of_mem_take hx))
            have hB2 : isBytes ((B.drop (p + 1 + m)).take 4) := fun x hx => hB x (List.mem_of_mem_drop (List.mem_of_mem_take hx))
            have HAt1 : Hid (∀ W, Below w.heap.size w W → BytesAt W b (o + (p + 1)) ((B.drop (p + 1)).take m)) := fun W h i hi => by
              rw [hb1] at hi
              rw [Nat.add_assoc, (HBy.out W h (p + 1 + i) (by omega)).1]
              simp only [List.getD_eq_getElem?_getD, List.getElem?_take, List.getElem?_drop, if_pos hi]
            have HAt2 : Hid (∀ W, Below w.heap.size w W → BytesAt W b (o + (p + 1 + m)) ((B.drop (p + 1 + m)).take 4)) := fun W h i hi => by
              rw [hb2] at hi
              rw [Nat.add_assoc, (HBy.out W h (p + 1 + m + i) (by omega)).1]
              simp only [List.getD_eq_getElem?_getD, List.getElem?_take, List.getElem?_drop, if_pos hi]
            generalize (B.drop (p + 1)).take m = bd at *
            generalize (B.drop (p + 1 + m)).take 4 = sm at *
            have hsu := sumL_ok bd
            have HSum : Hid (∀ W cp, Below wr.heap.size wr W → Calls Tryd.prog 27 #[.slice (some ⟨b, o + (p + 1), none⟩) m cp] W fun e w' => e = .returned (.int .u32 (sumL bd)) ∧ Below W.heap.size W w') := fun W cp h => by
              have := specSum_some b (o + (p + 1)) cp bd W (HAt1.out W (hBe.trans (h.mono hBe.size))) hB1 (by omega)
              rw [hb1] at this
              exact this
            have HLit : Hid (∀ W, Calls Tryd.prog 26 #[.int .u64 (sumL bd), .int .i64 4] W fun e w' => ∃ v', e = .returned v' ∧ owns w' W.heap.size v' (littleL (sumL bd) 4) ∧ Below W.heap.size W w') := fun W => l1little_any (sumL bd) 4 W (by omega) (by omega) (by omega)
            have hl4 : isBytes (littleL (sumL bd) 4) ∧ (littleL (sumL bd) 4).length = 4 := ⟨littleL_okY _ _, littleL_len _ _⟩
            obtain ⟨hsu0, hsu1⟩ := hsu
            generalize sumL bd = sb at *
            have hwu : IntKind.u64.wrap sb = sb := by rw [IntKind.wrap_u64]; omega
            have hw1 : IntKind.i64.wrap ((p : Int) + 1) = (p : Int) + 1 := by rw [IntKind.wrap_i64]; omega
            have hsl : ∀ wx, (Instr.slice 22 (.slice (some ⟨b, o, none⟩) n cap) (some (.int .i64 ((p : Int) + 1 + (m : Int)))) (some (.int .i64 ((p : Int) + 1 + (m : Int) + 4))) none).run Tryd.prog wx = .ok (.slice (some ⟨b, o + (p + 1 + m), none⟩) 4 (cap - (p + 1 + m))) wx := fun wx => by
              have e1 : ((p : Int) + 1 + (m : Int)).toNat = p + 1 + m := by omega
              have e2 : ((p : Int) + 1 + (m : Int) + 4).toNat = p + 1 + m + 4 := by omega
              have e3 : ¬ cap = p + 1 + m := by omega
              rw [run_slice_lh (w := wx) 22 _ n cap (by kernel_rfl) .i64 .i64 _ _ hse hsd hsc, e1, e2]
              simp [go_sem, sliced, e3]
            generalize littleL sb 4 = ll at *
            have HCv : Hid (∀ W B v, owns W B v ll → (convert 22 9 v).run Tryd.prog W = .ok (.string (strOfNums ll)) W) := fun W B v h => by
              obtain ⟨a, cp, rfl, hs⟩ := owns_src h
              rcases hs with h0 | ⟨b', o', rfl, _, hB'⟩
              · rw [h0] at hl4; exact absurd hl4.2 (by simp)
              · exact conv_str W hB' rfl
            have SK : Hid (∀ wa wb, Below wa.heap.size wa wb → (Below wr.heap.size wr wa ∧ (convert 22 9 (.slice (some ⟨b, o + (p + 1 + m), none⟩) 4 (cap - (p + 1 + m)))).run Tryd.prog wa = .ok (.string (strOfNums sm)) wa) → (Below wr.heap.size wr wb ∧ (convert 22 9 (.slice (some ⟨b, o + (p + 1 + m), none⟩) 4 (cap - (p + 1 + m)))).run Tryd.prog wb = .ok (.string (strOfNums sm)) wb)) := fun wa wb hb ⟨x, y⟩ => by
              have x2 := x.trans (hb.mono x.size)
              exact ⟨x2, conv_str wb (HAt2.out wb (hBe.trans (x2.mono hBe.size))) hb2⟩
            have hS1 : Below wr.heap.size wr wr.drew ∧ (convert 22 9 (.slice (some ⟨b, o + (p + 1 + m), none⟩) 4 (cap - (p + 1 + m)))).run Tryd.prog wr.drew = .ok (.string (strOfNums sm)) wr.drew := ⟨(Below.refl _ _).drew, conv_str wr.drew (HAt2.out wr.drew hBe.drew) hb2⟩
            have HQ : Hid (((strOfNums ll).toList == (strOfNums sm).toList) = decide (ll = sm)) := beq_str hl4.1 hB2
            generalize strOfNums sm = SM at *
            generalize strOfNums ll = SL at *
            obtain ⟨i0, hi, hz0, hz1, hz2⟩ := info_parts infoCall
            have HCall : Hid (∀ W cp, Below wr.heap.size wr W → Calls Tryd.prog 28 #[.slice (some ⟨b, o + (p + 1), none⟩) m cp] W fun e w' => CallM bd W e w') := fun W cp h => by
              have hW := hBe.trans (h.mono hBe.size)
              have := l2call_any b (o + (p + 1)) cp bd W (HAt1.out W hW) (Nat.lt_of_lt_of_le hb hW.size) hB1 (by omega)
              rw [hb1] at this
              exact this
            have HI' : Hid (∀ f : Int × Nat, frameR n (B.drop p) = .inl f → decLog B = ([], f.1, f.2)) := HI
            have HG' : Hid (∀ c r, frameR n (B.drop p) = .inr (c, r) → decLog B = finR n (os.map Prod.fst ++ [c]) (framesR n (q - (k + 1)) r)) := HG
            have HFa' : Hid (frameR n (B.drop p) = if ll ≠ sm then .inl (7, p + 1 + m) else match callB bd with
              | none => .inl (8, p + 1)
              | some c => .inr (c, B.drop (p + 1 + m + 4))) := hfa
            have hbw : w.heap.size ≤ wr.heap.size := hBe.size
            have HM' : Hid (McS wr w.heap.size v os) := hM
            have hpn4 : Hid (p + 1 + m + 4 ≤ n) := by show _ ≤ _; omega
            clear HI HG HBy HDk hM hfa hm HAt1 HAt2 hB1 hB2 hb1 hb2 hl4
            go_wp2_with fail
            go_region_with (first
                | (go_at_call 27; refine (HSum.out _ _ (And.left (by assumption))).mono ?_; rintro _ w8 ⟨rfl, hb8⟩; have hS8 := SK.out _ _ hb8 (by assumption))
                | (go_at_call 26; refine (HLit.out _).mono ?_; rintro _ w9 ⟨v9, rfl, ho9, hb9⟩; have hc9 := HCv.out _ _ _ ho9; have hS9 := SK.out _ _ hb9 (by assumption)))
            all_goals
              obtain ⟨hb9', _⟩ := id hS9
              have hbe9 : Below w.heap.size w w9 := hBe.trans (hb9'.mono hbw)
              clear hS8 hS9 hc9 ho9 hb8 hb9 SK HCv HLit HSum hS1 hsl
              by_cases hq : ll = sm
              · have hqb : (SL.toList == SM.toList) = true := by rw [HQ.out]; exact decide_eq_true hq
                have hfa := HFa'.out
                rw [if_neg (fun h => h hq)] at hfa
                simp only [hqb, Bool.not_true]
                clear hqb hq
                go_wp2_with fail
                refine (HCall.out w9 _ hb9').mono ?_
                rintro e w10 ⟨hb10, hcs⟩
                have hbe10 : Below w.heap.size w w10 := hbe9.trans (hb10.mono hbe9.size)
                have hB0 : Below w.heap.size w (w10.alloc (.cells #[.int .u32 0, .int .u32 0, .slice none 0 0] 34)) := hbe10.alloc hbe10.size _
                have hX0 := Box3.new w10 34 (.int .u32 0) (.int .u32 0) (.slice none 0 0)
                rcases hcs with ⟨hcn, rfl⟩ | ⟨c, va, hcn, rfl, hou⟩
                · rw [hcn] at hfa
                  have HP : Hid (∀ W, Below w.heap.size w W → SDecPost B w (.returned (.tuple #[.slice none 0 0, .int .i64 8, .int .i64 ((p : Int) + 1)])) W) := fun W h => HBad.out 8 (p + 1) W (HI'.out _ hfa) h
                  clear HI' HG' HFa' HBad HM' hfa hcn HCall HQ
                  go_wp2_with fail
                  go_ret3
                  exact HP.out _ hB0
                · rw [hcn] at hfa
                  have hdec := HG'.out c _ hfa
                  obtain ⟨av, cv, hva, _⟩ := ownsU_src hou
                  obtain ⟨ar, nr, args⟩ := c
                  simp only at hva hou
                  have hM9 := (HM'.out.below hb9').below hb10
                  obtain ⟨a2, cp2, e2⟩ : ∃ a c, v = .slice a os.length c := by
                    rcases hM9.row.2 with ⟨h1, h2⟩ | ⟨g, cap, cur, h1, _⟩
                    · exact ⟨none, 0, by rw [h1, h2]⟩
                    · exact ⟨_, _, h1⟩
                  generalize hna : args.length = na at hva
                  subst hva
                  have hM10 := hM9.below ((Below.refl w10.heap.size w10).alloc (Nat.le_refl _) (.cells #[.int .u32 ar, .int .u32 nr, .slice av na cv] 34))
                  have hou' : ownsU (w10.alloc (.cells #[.int .u32 ar, .int .u32 nr, .slice av na cv] 34)) w.heap.size (.slice av na cv) args := ownsU_below (ownsU_mono hou hbe9.size) ((Below.refl w10.heap.size w10).alloc (Nat.le_refl _) _)
                  have hbx : Below w.heap.size w (w10.alloc (.cells #[.int .u32 ar, .int .u32 nr, .slice av na cv] 34)) := hbe10.alloc hbe10.size _
                  have hosk : os.length ≤ 1000 := by have := hol.out; omega
                  have hbs := hbe10.size
                  have HD2 : Hid (decLog B = finR n ((os ++ [((⟨ar, nr, args⟩ : C), Value.slice av na cv)]).map Prod.fst) (framesR n (q - (k + 1)) (B.drop (p + 1 + m + 4)))) := by
                    unfold Hid
                    rw [List.map_append]; exact hdec
                  have hol2 : Hid ((os ++ [((⟨ar, nr, args⟩ : C), Value.slice av na cv)]).length = k + 1) := by have := hol.out; unfold Hid; simp; omega
                  have hx1 : IntKind.i64.wrap (1 + (m : Int)) = 1 + (m : Int) := by rw [IntKind.wrap_i64]; omega
                  have hx2 : IntKind.i64.wrap (1 + (m : Int) + 4) = 1 + (m : Int) + 4 := by rw [IntKind.wrap_i64]; omega
                  have hx3 : IntKind.i64.wrap ((p : Int) + (1 + (m : Int) + 4)) = (p : Int) + (1 + (m : Int) + 4) := by rw [IntKind.wrap_i64]; omega
                  clear HI' HG' HFa' HM' hfa hcn HCall HQ hdec hM9 hou hX0 hB0
                  have hrow : World.ownsRow (w10.alloc (.cells #[.int .u32 ar, .int .u32 nr, .slice av na cv] 34)) w.heap.size 34 3 (.slice a2 os.length cp2) os.length (cCs os) := e2 ▸ hM10.row
                  have hM11 : Hid (McS (w10.alloc (.cells #[.int .u32 ar, .int .u32 nr, .slice av na cv] 34)) w.heap.size (.slice a2 os.length cp2) os) := e2 ▸ hM10
                  have hX1 := Box3.new w10 34 (.int .u32 ar) (.int .u32 nr) (.slice av na cv)
                  clear hM10
                  subst e2
                  generalize hosl : os.length = ol at *
                  have ez : (w10.alloc (.cells #[.int .u32 ar, .int .u32 nr, .slice av na cv] 34)).heap.size = w10.heap.size + 1 := by simp
                  go_wp2_with (at_builtin; refine wpList_append_own _ rfl (.tmp 112) (.tmp 114) 24 rfl (w.heap.size) 34 i0 _ 3 32 Tryd.underlying24 hi hz0 hz1 hz2 rfl (by decide) _ _ _ rfl (hrow.alloc _) ⟨w10.heap.size + 1, 0, none⟩ 1 1 (cC (⟨ar, nr, args⟩, .slice av na cv)) rfl rfl ?c1 (cC_one rfl) ?c3 ?c4 ?c5 ?_)
                  case c1 =>
                    intro t u ht
                    rw [add_at, ← ez, World.cell?_alloc_at _ _ _ _ (by simp)]
                    simpa [cC] using ht
                  case c3 => unfold maxLen; first | omega | (simp; omega) | simp
                  case c4 => first | omega | (simp; omega) | simp
                  case c5 => first | omega | (simp; omega)
                  intro vz wz ow gr _
                  have o9 : ownsP wz w.heap.size vz (os ++ [((⟨ar, nr, args⟩ : C), Value.slice av na cv)]) := ownsP_snoc (by rw [hosl]) ow
                  have hMz : McS wz w.heap.size vz (os ++ [((⟨ar, nr, args⟩ : C), Value.slice av na cv)]) := hM11.out.push hou' gr o9
                  have Bz : Below w.heap.size w wz := (hbx.alloc (by rw [ez]; omega) _).grown gr (by simp; omega) (fun t ht => (hrow.lt t ht).1)
                  clear ow gr o9 hM11 hou' hrow hbx
                  go_wp2
                  go_roundw
                  case rel => exact ⟨_, p + 1 + m + 4, k + 1, _, rfl, by congr 1; omega, by go_num, hpn4.out, by omega, hMz, Bz, hol2, HD2⟩
                  case measure => simp [intOf]; omega
              · have hqb : (SL.toList == SM.toList) = false := by rw [HQ.out]; exact decide_eq_false hq
                have hfa := HFa'.out
                rw [if_pos hq] at hfa
                have HP : Hid (SDecPost B w (.returned (.tuple #[.slice none 0 0, .int .i64 7, .int .i64 ((p : Int) + 1 + (m : Int))])) w9) := HBad.out 7 (p + 1 + m) _ (HI'.out _ hfa) hbe9
                clear HI' HG' HFa' HBad HM' hfa HCall HQ
                simp only [hqb, Bool.not_false]
                clear hqb hq
                go_wp2
                go_ret3
                exact HP.out
        · obtain rfl : k = q := by omega
          obtain ⟨h1, h2⟩ := HEnd.out _ p hpn HDk.out
          by_cases hpe : p = n
          · have HP : Hid (SDecPost B w (.returned (.tuple #[v, .int .i64 0, .int .i64 0])) wr) := HGood.out v os wr (h1 hpe) hM hBe
            subst hpe
            clear h1 h2 HEnd HGood HBad HFr HF0 HFa HBy HDk hM
            go_wp2
            go_ret3
            exact HP.out
          · have HP : Hid (SDecPost B w (.returned (.tuple #[.slice none 0 0, .int .i64 9, .int .i64 (p : Int)])) wr) := HBad.out 9 p _ (h2 (by omega)) hBe
            have hpl : p < n := by omega
            clear h1 h2 HEnd HGood HBad HFr HF0 HFa HBy HDk hM
            go_wp2
            go_ret3
            exact HP.out
end Go.Proofs.YtjbbiailhpkdeaaDoor
