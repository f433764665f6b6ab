/-
  CONTRACTS of drawing two conditions.
-/
import Derived.Test.YtjkmcdgjhfiklaaDrawF
namespace Go.Proofs.Ytjkmcdgjhfiklaa
open Go.RowKit
set_option linter.unusedVariables false

set_option maxRecDepth 100000 in
set_option maxHeartbeats 8000000 in
theorem drawTwo (a : Option Addr) (cap : Nat) (l : List Int) (w : World) (hs : BSrc w a l) (hl : isBytes l) (hcap : l.length ≤ cap) (hn : l.length ≤ 1048576) :
    Calls Try.prog 15 #[.slice a l.length cap] w (TwoP w) := by
  have HO : Hid (∀ w1, Below w.heap.size w w1 → Calls Try.prog 40 #[.slice a l.length cap] w1 fun e w' => ∃ R cap', e = .returned (.pointer (some ⟨R, 0, none⟩)) ∧ w1.heap.size ≤ R ∧ Rd w' R a cap' (l.take 600) 0 ∧ Below w1.heap.size w1 w') :=
    fun w1 hb => open_any a cap l w1 (BSrc.below hs hb) hl hcap hn
  have HN : Hid (∀ R w, Rdr w R → Calls Try.prog 41 #[.pointer (some ⟨R, 0, none⟩)] w fun e w' => ∃ c : Int, 0 ≤ c ∧ c ≤ 255 ∧ e = .returned (.int .i64 c) ∧ Dr w R w') := fun R w h => next_dr R w h
  have HD : Hid (∀ R w, Rdr w R → Calls Try.prog 42 #[.pointer (some ⟨R, 0, none⟩)] w (DrK w R)) := fun R w h => drawCon_dr R w h
  have HB : Hid (∀ R w, Rdr w R → Calls Try.prog 43 #[.pointer (some ⟨R, 0, none⟩)] w (DrK w R)) := fun R w h => blockCon_dr R w h
  have HS : Hid (∀ R k a b w, (-9223372036854775808 ≤ k ∧ k ≤ 9223372036854775807) → isU a → isU b → Rdr w R → Calls Try.prog 46 #[.agg #[.int .i64 k, .int .u64 a, .int .u64 b], .pointer (some ⟨R, 0, none⟩)] w (DrK w R)) := fun R k a b w hk ha hb h => spoil_dr R k a b w hk ha hb h
  have HL : Hid (∀ x w, 0 ≤ x → x ≤ 64 → Calls Try.prog 45 #[.int .i64 x] w fun e w' => ∃ y : Int, isU y ∧ e = .returned (.int .u64 y) ∧ w' = w) := fun x w h0 h1 => low_dr x w h0 h1
  have HM : Hid (∀ k a b w, (-9223372036854775808 ≤ k ∧ k ≤ 9223372036854775807) → isU a → isU b → Calls Try.prog 35 #[.agg #[.int .i64 k, .int .u64 a, .int .u64 b]] w (NrmP w)) := fun k a b w hk ha hb => norm_gen k a b w hk ha hb
  have HK : Hid (∀ k a b w, isU a → isU b → Calls Try.prog 44 #[.agg #[.int .i64 k, .int .u64 a, .int .u64 b]] w (BlkP w)) := fun k a b w ha hb => block_gen k a b w ha hb
  have HV : Hid (∀ k a b w, (-9223372036854775808 ≤ k ∧ k ≤ 9223372036854775807) → isU a → isU b → Calls Try.prog 34 #[.agg #[.int .i64 k, .int .u64 a, .int .u64 b]] w fun e w' => ∃ V, e = .returned (.bool V) ∧ Below w.heap.size w w') := fun k a b w hk ha hb => conOK_gen k a b w hk ha hb
  generalize l.length = n at *
  clear hs hl hcap hn
  go_enter Try.func15, Try.ntmps15
  go_wp2_with fail
  have X := (BoxK.new w 25 (.int .i64 0) (.int .u64 0) (.int .u64 0)).alloc (.cells #[.int .i64 0, .int .u64 0, .int .u64 0] 25)
  have Y := BoxK.new (w.alloc (.cells #[.int .i64 0, .int .u64 0, .int .u64 0] 25)) 25 (.int .i64 0) (.int .u64 0) (.int .u64 0)
  have hsz : (w.alloc (.cells #[.int .i64 0, .int .u64 0, .int .u64 0] 25)).heap.size = w.heap.size + 1 := by simp
  have hsz2 : ((w.alloc (.cells #[.int .i64 0, .int .u64 0, .int .u64 0] 25)).alloc (.cells #[.int .i64 0, .int .u64 0, .int .u64 0] 25)).heap.size = w.heap.size + 2 := by simp
  have B0 : Below w.heap.size w ((w.alloc (.cells #[.int .i64 0, .int .u64 0, .int .u64 0] 25)).alloc (.cells #[.int .i64 0, .int .u64 0, .int .u64 0] 25)) := ((Below.refl _ _).alloc (Nat.le_refl _) _).alloc (by simp) _
  rw [hsz] at Y
  generalize (w.alloc (.cells #[.int .i64 0, .int .u64 0, .int .u64 0] 25)).alloc (.cells #[.int .i64 0, .int .u64 0, .int .u64 0] 25) = W at *
  clear hsz
  refine (HO.out _ B0).mono ?_
  rintro _ w1 ⟨R, cap', rfl, hR, hRd, b1⟩
  have rd1 : Rdr w1 R := ⟨_, _, _, _, hRd⟩
  have X1 := X.keep b1
  have Y1 := Y.keep b1
  have B1 := B0.trans (b1.mono B0.size)
  rw [hsz2] at hR
  have hs1 : w.heap.size ≤ w1.heap.size := B1.size
  clear X Y B0 b1 hRd HO hsz2
  go_wp2_with fail
  refine (HN.out _ _ rd1).mono ?_
  rintro _ w2 ⟨c, c0, c1, rfl, d⟩
  have X2 := X1.grown d.gr (by simp; omega)
  have Y2 := Y1.grown d.gr (by simp; omega)
  have B2 := below_grown B1 d.gr (by omega) hs1
  have rd2 := d.rd
  clear X1 Y1 B1 d rd1 hs1
  have hs2 : w.heap.size ≤ w2.heap.size := B2.size
  go_wp2_with fail
  refine (HD.out _ _ rd2).mono ?_
  rintro _ w3 ⟨ak, aa, ab, hak, haa, hab, rfl, d⟩
  have X3 := X2.grown d.gr (by simp; omega)
  have Y3 := Y2.grown d.gr (by simp; omega)
  have B3 := below_grown B2 d.gr (by omega) hs2
  have rd3 := d.rd
  clear X2 Y2 B2 d rd2 hs2
  have b4 : Below w3.heap.size w3 (w3.alloc (.cells #[.int .i64 ak, .int .u64 aa, .int .u64 ab] 25)) := (Below.refl _ _).alloc (Nat.le_refl _) _
  have A4 := SomeK.new w3 hak haa hab 25
  have X4 := X3.keep b4
  have Y4 := Y3.keep b4
  have B4 := B3.trans (b4.mono B3.size)
  have rd4 := rd3.below b4
  have hRA : R < w3.heap.size := rd3.lt
  have hs4 : w3.heap.size + 1 ≤ (w3.alloc (.cells #[.int .i64 ak, .int .u64 aa, .int .u64 ab] 25)).heap.size := by simp
  clear X3 Y3 B3 b4 rd3
  go_wp2_with fail
  generalize w3.alloc (.cells #[.int .i64 ak, .int .u64 aa, .int .u64 ab] 25) = w4 at *
  generalize w3.heap.size = A at *
  have hs5 : w.heap.size ≤ w4.heap.size := B4.size
  refine (HD.out _ _ rd4).mono ?_
  rintro _ w5 ⟨bk, ba, bb, hbk, hba, hbb, rfl, d⟩
  have X5 := X4.grown d.gr (by simp; omega)
  have Y5 := Y4.grown d.gr (by simp; omega)
  have B5 := below_grown B4 d.gr (by omega) hs5
  have A5 := A4.grown d.gr (by simp; omega)
  have rd5 := d.rd
  have hs6 : A + 1 ≤ w5.heap.size := Nat.le_trans hs4 d.gr.size
  clear X4 Y4 B4 A4 d rd4 hs4 hs5
  have b6 : Below w5.heap.size w5 (w5.alloc (.cells #[.int .i64 bk, .int .u64 ba, .int .u64 bb] 25)) := (Below.refl _ _).alloc (Nat.le_refl _) _
  have D : DW w R A w5.heap.size (w5.alloc (.cells #[.int .i64 bk, .int .u64 ba, .int .u64 bb] 25)) :=
    ⟨rd5.below b6, B5.trans (b6.mono B5.size), X5.keep b6, Y5.keep b6, A5.keep b6, SomeK.new w5 hbk hba hbb 25⟩
  have O : Ord4 w.heap.size R A w5.heap.size := ⟨by omega, hRA, by omega⟩
  have HDW : Hid (∀ k a b : Int, (-9223372036854775808 ≤ k ∧ k ≤ 9223372036854775807) → isU a → isU b → DW w R A w5.heap.size (w5.alloc (.cells #[.int .i64 k, .int .u64 a, .int .u64 b] 25))) := fun k a b hk ha hb => by
    have b6 : Below w5.heap.size w5 (w5.alloc (.cells #[.int .i64 k, .int .u64 a, .int .u64 b] 25)) := (Below.refl _ _).alloc (Nat.le_refl _) _
    exact ⟨rd5.below b6, B5.trans (b6.mono B5.size), X5.keep b6, Y5.keep b6, A5.keep b6, SomeK.new w5 hk ha hb 25⟩
  clear X5 Y5 B5 A5 rd5 b6 hs6 hRA hR hak haa hab
  have q0 : 0 ≤ c % 12 := by omega
  have q1 : c % 12 ≤ 11 := by omega
  have hba0 := hba.1
  have hba1 := hba.2
  have hbb0 := hbb.1
  have hbb1 := hbb.2
  obtain ⟨k1, a1, b1, hk1, ha1, hb1, xl, x0, x1, x2, xf0, xf1, xf2⟩ := D.ab
  by_cases h01 : c % 12 < 2
  · have e2 : c % 12 < 2 := by omega
    go_wp2_with fail
    refine (HB.out _ _ D.rd).mono ?_
    rintro _ w7 ⟨sk, sa, sb, hsk, hsa, hsb, rfl, d⟩
    replace D := D.step O d
    clear d x0 x1 x2 xf0 xf1 xf2 xl hk1 ha1 hb1
    generalize w5.heap.size = B at *
    obtain ⟨k1, a1, b1, hk1, ha1, hb1, xl, x0, x1, x2, xf0, xf1, xf2⟩ := D.ab
    obtain ⟨k2, a2, b2, hk2, ha2, hb2, yl, y0, y1, y2, yf0, yf1, yf2⟩ := D.bb
    obtain ⟨ul, u0, u1, u2, uf0, uf1, uf2⟩ := D.g0
    obtain ⟨vl, v0, v1, v2, vf0, vf1, vf2⟩ := D.g1
    have hr := O.r
    have hra := O.a
    have hab := O.b
    have n0 : ¬ w.heap.size = B := by omega
    have m0 : ¬ B = w.heap.size := by omega
    have n1 : ¬ w.heap.size + 1 = B := by omega
    have m1 : ¬ B = w.heap.size + 1 := by omega
    have n2 : ¬ w.heap.size = A := by omega
    have m2 : ¬ A = w.heap.size := by omega
    have n3 : ¬ w.heap.size + 1 = A := by omega
    have m3 : ¬ A = w.heap.size + 1 := by omega
    have n4 : ¬ A = B := by omega
    have m4 : ¬ B = A := by omega
    go_wp2_with fail
    have D2 := D.setA O hsk hsa hsb
    refine (HB.out _ _ D2.rd).mono ?_
    rintro _ w8 ⟨tk, ta, tb, htk, hta, htb, rfl, d⟩
    replace D := D2.step O d
    clear d D2 x0 x1 x2 xf0 xf1 xf2 xl hk1 ha1 hb1 y0 y1 y2 yf0 yf1 yf2 yl hk2 ha2 hb2 u0 u1 u2 uf0 uf1 uf2 ul v0 v1 v2 vf0 vf1 vf2 vl hr hra hab n0 n1 n2 n3 n4 m0 m1 m2 m3 m4
    go_wp2_with fail
    refine (HM.out _ _ _ _ htk hta htb).mono ?_
    rintro _ w9 ⟨rk, ra, rb, hrk, hra', hrb, rfl, hb⟩
    replace D := D.below hb
    clear hb
    obtain ⟨k1, a1, b1, hk1, ha1, hb1, xl, x0, x1, x2, xf0, xf1, xf2⟩ := D.ab
    obtain ⟨k2, a2, b2, hk2, ha2, hb2, yl, y0, y1, y2, yf0, yf1, yf2⟩ := D.bb
    obtain ⟨ul, u0, u1, u2, uf0, uf1, uf2⟩ := D.g0
    obtain ⟨vl, v0, v1, v2, vf0, vf1, vf2⟩ := D.g1
    have hr := O.r
    have hra := O.a
    have hab := O.b
    have n0 : ¬ w.heap.size = B := by omega
    have m0 : ¬ B = w.heap.size := by omega
    have n1 : ¬ w.heap.size + 1 = B := by omega
    have m1 : ¬ B = w.heap.size + 1 := by omega
    have n2 : ¬ w.heap.size = A := by omega
    have m2 : ¬ A = w.heap.size := by omega
    have n3 : ¬ w.heap.size + 1 = A := by omega
    have m3 : ¬ A = w.heap.size + 1 := by omega
    have n4 : ¬ A = B := by omega
    have m4 : ¬ B = A := by omega
    go_wp2_with fail
    refine (HV.out _ _ _ _ (by first | assumption | omega) (by first | assumption | exact isU_wrap _ | exact isU_bits _ _ _ | (unfold isU at *; omega)) (by first | assumption | exact isU_wrap _ | exact isU_bits _ _ _ | (unfold isU at *; omega))).mono ?_
    rintro _ w6 ⟨V, rfl, hb⟩
    replace D := DW.below (DW.setB D O hrk hra' hrb) hb
    clear hb hbk hba hbb hba0 hba1 hbb0 hbb1 x0 x1 x2 xf0 xf1 xf2 xl hk1 ha1 hb1 HDW y0 y1 y2 yf0 yf1 yf2 yl hk2 ha2 hb2 u0 u1 u2 uf0 uf1 uf2 ul v0 v1 v2 vf0 vf1 vf2 vl hr hra hab n0 n1 n2 n3 n4 m0 m1 m2 m3 m4
    obtain ⟨k1, a1, b1, hk1, ha1, hb1, xl, x0, x1, x2, xf0, xf1, xf2⟩ := D.ab
    obtain ⟨k2, a2, b2, hk2, ha2, hb2, yl, y0, y1, y2, yf0, yf1, yf2⟩ := D.bb
    obtain ⟨ul, u0, u1, u2, uf0, uf1, uf2⟩ := D.g0
    obtain ⟨vl, v0, v1, v2, vf0, vf1, vf2⟩ := D.g1
    have hr := O.r
    have hra := O.a
    have hab := O.b
    have n0 : ¬ w.heap.size = B := by omega
    have m0 : ¬ B = w.heap.size := by omega
    have n1 : ¬ w.heap.size + 1 = B := by omega
    have m1 : ¬ B = w.heap.size + 1 := by omega
    have n2 : ¬ w.heap.size = A := by omega
    have m2 : ¬ A = w.heap.size := by omega
    have n3 : ¬ w.heap.size + 1 = A := by omega
    have m3 : ¬ A = w.heap.size + 1 := by omega
    have n4 : ¬ A = B := by omega
    have m4 : ¬ B = A := by omega
    have g1 : ¬ 1 < c % 12 := by omega
    cases V with
    | true =>
      go_wp2_with fail
      go_region_with (fail)
      all_goals
        go_wp2
        refine bodyPost_ret (v := .tuple #[.agg #[.int .i64 k1, .int .u64 a1, .int .u64 b1], .agg #[.int .i64 k2, .int .u64 a2, .int .u64 b2]]) (by simp [results, Try.results15, go_sem, u0, u1, u2, v0, v1, v2]) rfl (TwoP.mk ⟨hk1, ha1, hb1⟩ ⟨hk2, ha2, hb2⟩ ?_)
        exact (below_set3 (below_set3 D.bl (by omega) _ _ _) (by omega) _ _ _).drew
    | false =>
      go_wp2_with fail
      go_region_with (fail)
      all_goals
        go_wp2
        refine bodyPost_ret (v := .tuple #[.agg #[.int .i64 k1, .int .u64 a1, .int .u64 b1], .agg #[.int .i64 k2, .int .u64 a2, .int .u64 b2]]) (by simp [results, Try.results15, go_sem, u0, u1, u2, v0, v1, v2]) rfl (TwoP.mk ⟨hk1, ha1, hb1⟩ ⟨hk2, ha2, hb2⟩ ?_)
        exact (below_set3 (below_set3 D.bl (by omega) _ _ _) (by omega) _ _ _).drew
  by_cases h23 : c % 12 < 4
  · have e2 : ¬ c % 12 < 2 := by omega
    have e4 : c % 12 < 4 := by omega
    go_wp2_with fail
    refine (HV.out _ _ _ _ (by first | assumption | omega) (by first | assumption | exact isU_wrap _ | exact isU_bits _ _ _ | (unfold isU at *; omega)) (by first | assumption | exact isU_wrap _ | exact isU_bits _ _ _ | (unfold isU at *; omega))).mono ?_
    rintro _ w6 ⟨V, rfl, hb⟩
    replace D := DW.below (HDW.out _ _ _ (by first | assumption | omega) (by first | assumption | exact isU_wrap _ | exact isU_bits _ _ _ | (unfold isU at *; omega)) (by first | assumption | exact isU_wrap _ | exact isU_bits _ _ _ | (unfold isU at *; omega))) hb
    clear hb hbk hba hbb hba0 hba1 hbb0 hbb1 x0 x1 x2 xf0 xf1 xf2 xl hk1 ha1 hb1 HDW
    generalize w5.heap.size = B at *
    obtain ⟨k1, a1, b1, hk1, ha1, hb1, xl, x0, x1, x2, xf0, xf1, xf2⟩ := D.ab
    obtain ⟨k2, a2, b2, hk2, ha2, hb2, yl, y0, y1, y2, yf0, yf1, yf2⟩ := D.bb
    obtain ⟨ul, u0, u1, u2, uf0, uf1, uf2⟩ := D.g0
    obtain ⟨vl, v0, v1, v2, vf0, vf1, vf2⟩ := D.g1
    have hr := O.r
    have hra := O.a
    have hab := O.b
    have n0 : ¬ w.heap.size = B := by omega
    have m0 : ¬ B = w.heap.size := by omega
    have n1 : ¬ w.heap.size + 1 = B := by omega
    have m1 : ¬ B = w.heap.size + 1 := by omega
    have n2 : ¬ w.heap.size = A := by omega
    have m2 : ¬ A = w.heap.size := by omega
    have n3 : ¬ w.heap.size + 1 = A := by omega
    have m3 : ¬ A = w.heap.size + 1 := by omega
    have n4 : ¬ A = B := by omega
    have m4 : ¬ B = A := by omega
    have g1 : 1 < c % 12 := by omega
    have g6 : c % 12 < 6 := by omega
    cases V with
    | true =>
      go_wp2_with fail
      go_region_with (fail)
      all_goals
        go_wp2
        refine bodyPost_ret (v := .tuple #[.agg #[.int .i64 k1, .int .u64 a1, .int .u64 b1], .agg #[.int .i64 k2, .int .u64 a2, .int .u64 b2]]) (by simp [results, Try.results15, go_sem, u0, u1, u2, v0, v1, v2]) rfl (TwoP.mk ⟨hk1, ha1, hb1⟩ ⟨hk2, ha2, hb2⟩ ?_)
        exact (below_set3 (below_set3 D.bl (by omega) _ _ _) (by omega) _ _ _).drew
    | false =>
      go_wp2_with fail
      go_region_with (fail)
      all_goals
        go_wp2
        refine bodyPost_ret (v := .tuple #[.agg #[.int .i64 k1, .int .u64 a1, .int .u64 b1], .agg #[.int .i64 k1, .int .u64 a1, .int .u64 b1]]) (by simp [results, Try.results15, go_sem, u0, u1, u2, v0, v1, v2]) rfl (TwoP.mk ⟨hk1, ha1, hb1⟩ ⟨hk1, ha1, hb1⟩ ?_)
        exact (below_set3 (below_set3 (below_set3 D.bl (show w.heap.size ≤ B by omega) _ _ _) (by omega) _ _ _) (by omega) _ _ _).drew
  by_cases h4 : c % 12 = 4
  · have e2 : ¬ c % 12 < 2 := by omega
    have e4 : ¬ c % 12 < 4 := by omega
    have e6 : c % 12 < 6 := by omega
    have f5 : (c % 12 == 5) = false := by rw [beq_eq_false_iff_ne]; omega
    go_wp2_with fail
    refine (HK.out _ _ _ _ ha1 hb1).mono ?_
    rintro _ w7 ⟨lo, hi, s, hlo, hhi, rfl, hb⟩
    replace D := D.below hb
    clear hb x0 x1 x2 xf0 xf1 xf2 xl hk1 ha1 hb1
    have hlo0 := hlo.1
    have hlo1 := hlo.2
    have hhi0 := hhi.1
    have hhi1 := hhi.2
    generalize w5.heap.size = B at *
    obtain ⟨k1, a1, b1, hk1, ha1, hb1, xl, x0, x1, x2, xf0, xf1, xf2⟩ := D.ab
    obtain ⟨k2, a2, b2, hk2, ha2, hb2, yl, y0, y1, y2, yf0, yf1, yf2⟩ := D.bb
    obtain ⟨ul, u0, u1, u2, uf0, uf1, uf2⟩ := D.g0
    obtain ⟨vl, v0, v1, v2, vf0, vf1, vf2⟩ := D.g1
    have hr := O.r
    have hra := O.a
    have hab := O.b
    have n0 : ¬ w.heap.size = B := by omega
    have m0 : ¬ B = w.heap.size := by omega
    have n1 : ¬ w.heap.size + 1 = B := by omega
    have m1 : ¬ B = w.heap.size + 1 := by omega
    have n2 : ¬ w.heap.size = A := by omega
    have m2 : ¬ A = w.heap.size := by omega
    have n3 : ¬ w.heap.size + 1 = A := by omega
    have m3 : ¬ A = w.heap.size + 1 := by omega
    have n4 : ¬ A = B := by omega
    have m4 : ¬ B = A := by omega
    cases s with
    | false =>
      go_wp2_with fail
      refine (HV.out _ _ _ _ (by first | assumption | omega) (by first | assumption | exact isU_wrap _ | exact isU_bits _ _ _ | (unfold isU at *; omega)) (by first | assumption | exact isU_wrap _ | exact isU_bits _ _ _ | (unfold isU at *; omega))).mono ?_
      rintro _ w6 ⟨V, rfl, hb⟩
      replace D := DW.below D hb
      clear hb hbk hba hbb hba0 hba1 hbb0 hbb1 x0 x1 x2 xf0 xf1 xf2 xl hk1 ha1 hb1 HDW y0 y1 y2 yf0 yf1 yf2 yl hk2 ha2 hb2 u0 u1 u2 uf0 uf1 uf2 ul v0 v1 v2 vf0 vf1 vf2 vl hr hra hab n0 n1 n2 n3 n4 m0 m1 m2 m3 m4
      obtain ⟨k1, a1, b1, hk1, ha1, hb1, xl, x0, x1, x2, xf0, xf1, xf2⟩ := D.ab
      obtain ⟨k2, a2, b2, hk2, ha2, hb2, yl, y0, y1, y2, yf0, yf1, yf2⟩ := D.bb
      obtain ⟨ul, u0, u1, u2, uf0, uf1, uf2⟩ := D.g0
      obtain ⟨vl, v0, v1, v2, vf0, vf1, vf2⟩ := D.g1
      have hr := O.r
      have hra := O.a
      have hab := O.b
      have n0 : ¬ w.heap.size = B := by omega
      have m0 : ¬ B = w.heap.size := by omega
      have n1 : ¬ w.heap.size + 1 = B := by omega
      have m1 : ¬ B = w.heap.size + 1 := by omega
      have n2 : ¬ w.heap.size = A := by omega
      have m2 : ¬ A = w.heap.size := by omega
      have n3 : ¬ w.heap.size + 1 = A := by omega
      have m3 : ¬ A = w.heap.size + 1 := by omega
      have n4 : ¬ A = B := by omega
      have m4 : ¬ B = A := by omega
      have g1 : 1 < c % 12 := by omega
      cases V with
      | true =>
        go_wp2_with fail
        go_region_with (fail)
        all_goals
          go_wp2
          refine bodyPost_ret (v := .tuple #[.agg #[.int .i64 k1, .int .u64 a1, .int .u64 b1], .agg #[.int .i64 k2, .int .u64 a2, .int .u64 b2]]) (by simp [results, Try.results15, go_sem, u0, u1, u2, v0, v1, v2]) rfl (TwoP.mk ⟨hk1, ha1, hb1⟩ ⟨hk2, ha2, hb2⟩ ?_)
          exact (below_set3 (below_set3 D.bl (by omega) _ _ _) (by omega) _ _ _).drew
      | false =>
        go_wp2_with fail
        go_region_with (fail)
        all_goals
          go_wp2
          refine bodyPost_ret (v := .tuple #[.agg #[.int .i64 k1, .int .u64 a1, .int .u64 b1], .agg #[.int .i64 k1, .int .u64 a1, .int .u64 b1]]) (by simp [results, Try.results15, go_sem, u0, u1, u2, v0, v1, v2]) rfl (TwoP.mk ⟨hk1, ha1, hb1⟩ ⟨hk1, ha1, hb1⟩ ?_)
          exact (below_set3 (below_set3 (below_set3 D.bl (show w.heap.size ≤ B by omega) _ _ _) (by omega) _ _ _) (by omega) _ _ _).drew
    | true =>
      go_wp2_with fail
      refine (HN.out _ _ D.rd).mono ?_
      rintro _ w8 ⟨z, z0, z1, rfl, d⟩
      replace D := D.step O d
      clear d x0 x1 x2 xf0 xf1 xf2 xl hk1 ha1 hb1 y0 y1 y2 yf0 yf1 yf2 yl hk2 ha2 hb2 u0 u1 u2 uf0 uf1 uf2 ul v0 v1 v2 vf0 vf1 vf2 vl hr hra hab n0 n1 n2 n3 n4 m0 m1 m2 m3 m4
      go_wp2_with fail
      refine (HL.out _ _ (by omega) (by omega)).mono ?_
      rintro _ w9 ⟨y, hy, rfl, rfl⟩
      have hy0 := hy.1
      have hy1 := hy.2
      obtain ⟨k1, a1, b1, hk1, ha1, hb1, xl, x0, x1, x2, xf0, xf1, xf2⟩ := D.ab
      obtain ⟨k2, a2, b2, hk2, ha2, hb2, yl, y0, y1, y2, yf0, yf1, yf2⟩ := D.bb
      obtain ⟨ul, u0, u1, u2, uf0, uf1, uf2⟩ := D.g0
      obtain ⟨vl, v0, v1, v2, vf0, vf1, vf2⟩ := D.g1
      have hr := O.r
      have hra := O.a
      have hab := O.b
      have n0 : ¬ w.heap.size = B := by omega
      have m0 : ¬ B = w.heap.size := by omega
      have n1 : ¬ w.heap.size + 1 = B := by omega
      have m1 : ¬ B = w.heap.size + 1 := by omega
      have n2 : ¬ w.heap.size = A := by omega
      have m2 : ¬ A = w.heap.size := by omega
      have n3 : ¬ w.heap.size + 1 = A := by omega
      have m3 : ¬ A = w.heap.size + 1 := by omega
      have n4 : ¬ A = B := by omega
      have m4 : ¬ B = A := by omega
      go_wp2_with fail
      refine (HV.out _ _ _ _ (by first | assumption | omega) (by first | assumption | exact isU_wrap _ | exact isU_bits _ _ _ | (unfold isU at *; omega)) (by first | assumption | exact isU_wrap _ | exact isU_bits _ _ _ | (unfold isU at *; omega))).mono ?_
      rintro _ w6 ⟨V, rfl, hb⟩
      replace D := DW.below (DW.setB D O (by first | assumption | omega) (by first | assumption | exact isU_wrap _ | exact isU_bits _ _ _ | (unfold isU at *; omega)) (by first | assumption | exact isU_wrap _ | exact isU_bits _ _ _ | (unfold isU at *; omega))) hb
      clear hb hbk hba hbb hba0 hba1 hbb0 hbb1 x0 x1 x2 xf0 xf1 xf2 xl hk1 ha1 hb1 HDW y0 y1 y2 yf0 yf1 yf2 yl hk2 ha2 hb2 u0 u1 u2 uf0 uf1 uf2 ul v0 v1 v2 vf0 vf1 vf2 vl hr hra hab n0 n1 n2 n3 n4 m0 m1 m2 m3 m4
      obtain ⟨k1, a1, b1, hk1, ha1, hb1, xl, x0, x1, x2, xf0, xf1, xf2⟩ := D.ab
      obtain ⟨k2, a2, b2, hk2, ha2, hb2, yl, y0, y1, y2, yf0, yf1, yf2⟩ := D.bb
      obtain ⟨ul, u0, u1, u2, uf0, uf1, uf2⟩ := D.g0
      obtain ⟨vl, v0, v1, v2, vf0, vf1, vf2⟩ := D.g1
      have hr := O.r
      have hra := O.a
      have hab := O.b
      have n0 : ¬ w.heap.size = B := by omega
      have m0 : ¬ B = w.heap.size := by omega
      have n1 : ¬ w.heap.size + 1 = B := by omega
      have m1 : ¬ B = w.heap.size + 1 := by omega
      have n2 : ¬ w.heap.size = A := by omega
      have m2 : ¬ A = w.heap.size := by omega
      have n3 : ¬ w.heap.size + 1 = A := by omega
      have m3 : ¬ A = w.heap.size + 1 := by omega
      have n4 : ¬ A = B := by omega
      have m4 : ¬ B = A := by omega
      have g1 : 1 < c % 12 := by omega
      cases V with
      | true =>
        go_wp2_with fail
        go_region_with (fail)
        all_goals
          go_wp2
          refine bodyPost_ret (v := .tuple #[.agg #[.int .i64 k1, .int .u64 a1, .int .u64 b1], .agg #[.int .i64 k2, .int .u64 a2, .int .u64 b2]]) (by simp [results, Try.results15, go_sem, u0, u1, u2, v0, v1, v2]) rfl (TwoP.mk ⟨hk1, ha1, hb1⟩ ⟨hk2, ha2, hb2⟩ ?_)
          exact (below_set3 (below_set3 D.bl (by omega) _ _ _) (by omega) _ _ _).drew
      | false =>
        go_wp2_with fail
        go_region_with (fail)
        all_goals
          go_wp2
          refine bodyPost_ret (v := .tuple #[.agg #[.int .i64 k1, .int .u64 a1, .int .u64 b1], .agg #[.int .i64 k1, .int .u64 a1, .int .u64 b1]]) (by simp [results, Try.results15, go_sem, u0, u1, u2, v0, v1, v2]) rfl (TwoP.mk ⟨hk1, ha1, hb1⟩ ⟨hk1, ha1, hb1⟩ ?_)
          exact (below_set3 (below_set3 (below_set3 D.bl (show w.heap.size ≤ B by omega) _ _ _) (by omega) _ _ _) (by omega) _ _ _).drew
  by_cases h5 : c % 12 = 5
  · have e2 : ¬ c % 12 < 2 := by omega
    have e4 : ¬ c % 12 < 4 := by omega
    have e6 : c % 12 < 6 := by omega
    have f5 : (c % 12 == 5) = true := by rw [beq_iff_eq]; omega
    go_wp2_with fail
    refine (HK.out _ _ _ _ ha1 hb1).mono ?_
    rintro _ w7 ⟨lo, hi, s, hlo, hhi, rfl, hb⟩
    replace D := D.below hb
    clear hb x0 x1 x2 xf0 xf1 xf2 xl hk1 ha1 hb1
    have hlo0 := hlo.1
    have hlo1 := hlo.2
    have hhi0 := hhi.1
    have hhi1 := hhi.2
    generalize w5.heap.size = B at *
    obtain ⟨k1, a1, b1, hk1, ha1, hb1, xl, x0, x1, x2, xf0, xf1, xf2⟩ := D.ab
    obtain ⟨k2, a2, b2, hk2, ha2, hb2, yl, y0, y1, y2, yf0, yf1, yf2⟩ := D.bb
    obtain ⟨ul, u0, u1, u2, uf0, uf1, uf2⟩ := D.g0
    obtain ⟨vl, v0, v1, v2, vf0, vf1, vf2⟩ := D.g1
    have hr := O.r
    have hra := O.a
    have hab := O.b
    have n0 : ¬ w.heap.size = B := by omega
    have m0 : ¬ B = w.heap.size := by omega
    have n1 : ¬ w.heap.size + 1 = B := by omega
    have m1 : ¬ B = w.heap.size + 1 := by omega
    have n2 : ¬ w.heap.size = A := by omega
    have m2 : ¬ A = w.heap.size := by omega
    have n3 : ¬ w.heap.size + 1 = A := by omega
    have m3 : ¬ A = w.heap.size + 1 := by omega
    have n4 : ¬ A = B := by omega
    have m4 : ¬ B = A := by omega
    cases s with
    | false =>
      go_wp2_with fail
      refine (HV.out _ _ _ _ (by first | assumption | omega) (by first | assumption | exact isU_wrap _ | exact isU_bits _ _ _ | (unfold isU at *; omega)) (by first | assumption | exact isU_wrap _ | exact isU_bits _ _ _ | (unfold isU at *; omega))).mono ?_
      rintro _ w6 ⟨V, rfl, hb⟩
      replace D := DW.below D hb
      clear hb hbk hba hbb hba0 hba1 hbb0 hbb1 x0 x1 x2 xf0 xf1 xf2 xl hk1 ha1 hb1 HDW y0 y1 y2 yf0 yf1 yf2 yl hk2 ha2 hb2 u0 u1 u2 uf0 uf1 uf2 ul v0 v1 v2 vf0 vf1 vf2 vl hr hra hab n0 n1 n2 n3 n4 m0 m1 m2 m3 m4
      obtain ⟨k1, a1, b1, hk1, ha1, hb1, xl, x0, x1, x2, xf0, xf1, xf2⟩ := D.ab
      obtain ⟨k2, a2, b2, hk2, ha2, hb2, yl, y0, y1, y2, yf0, yf1, yf2⟩ := D.bb
      obtain ⟨ul, u0, u1, u2, uf0, uf1, uf2⟩ := D.g0
      obtain ⟨vl, v0, v1, v2, vf0, vf1, vf2⟩ := D.g1
      have hr := O.r
      have hra := O.a
      have hab := O.b
      have n0 : ¬ w.heap.size = B := by omega
      have m0 : ¬ B = w.heap.size := by omega
      have n1 : ¬ w.heap.size + 1 = B := by omega
      have m1 : ¬ B = w.heap.size + 1 := by omega
      have n2 : ¬ w.heap.size = A := by omega
      have m2 : ¬ A = w.heap.size := by omega
      have n3 : ¬ w.heap.size + 1 = A := by omega
      have m3 : ¬ A = w.heap.size + 1 := by omega
      have n4 : ¬ A = B := by omega
      have m4 : ¬ B = A := by omega
      have g1 : 1 < c % 12 := by omega
      cases V with
      | true =>
        go_wp2_with fail
        go_region_with (fail)
        all_goals
          go_wp2
          refine bodyPost_ret (v := .tuple #[.agg #[.int .i64 k1, .int .u64 a1, .int .u64 b1], .agg #[.int .i64 k2, .int .u64 a2, .int .u64 b2]]) (by simp [results, Try.results15, go_sem, u0, u1, u2, v0, v1, v2]) rfl (TwoP.mk ⟨hk1, ha1, hb1⟩ ⟨hk2, ha2, hb2⟩ ?_)
          exact (below_set3 (below_set3 D.bl (by omega) _ _ _) (by omega) _ _ _).drew
      | false =>
        go_wp2_with fail
        go_region_with (fail)
        all_goals
          go_wp2
          refine bodyPost_ret (v := .tuple #[.agg #[.int .i64 k1, .int .u64 a1, .int .u64 b1], .agg #[.int .i64 k1, .int .u64 a1, .int .u64 b1]]) (by simp [results, Try.results15, go_sem, u0, u1, u2, v0, v1, v2]) rfl (TwoP.mk ⟨hk1, ha1, hb1⟩ ⟨hk1, ha1, hb1⟩ ?_)
          exact (below_set3 (below_set3 (below_set3 D.bl (show w.heap.size ≤ B by omega) _ _ _) (by omega) _ _ _) (by omega) _ _ _).drew
    | true =>
      go_wp2_with fail
      refine (HN.out _ _ D.rd).mono ?_
      rintro _ w8 ⟨z, z0, z1, rfl, d⟩
      replace D := D.step O d
      clear d x0 x1 x2 xf0 xf1 xf2 xl hk1 ha1 hb1 y0 y1 y2 yf0 yf1 yf2 yl hk2 ha2 hb2 u0 u1 u2 uf0 uf1 uf2 ul v0 v1 v2 vf0 vf1 vf2 vl hr hra hab n0 n1 n2 n3 n4 m0 m1 m2 m3 m4
      go_wp2_with fail
      refine (HL.out _ _ (by omega) (by omega)).mono ?_
      rintro _ w9 ⟨y, hy, rfl, rfl⟩
      have hy0 := hy.1
      have hy1 := hy.2
      obtain ⟨k1, a1, b1, hk1, ha1, hb1, xl, x0, x1, x2, xf0, xf1, xf2⟩ := D.ab
      obtain ⟨k2, a2, b2, hk2, ha2, hb2, yl, y0, y1, y2, yf0, yf1, yf2⟩ := D.bb
      obtain ⟨ul, u0, u1, u2, uf0, uf1, uf2⟩ := D.g0
      obtain ⟨vl, v0, v1, v2, vf0, vf1, vf2⟩ := D.g1
      have hr := O.r
      have hra := O.a
      have hab := O.b
      have n0 : ¬ w.heap.size = B := by omega
      have m0 : ¬ B = w.heap.size := by omega
      have n1 : ¬ w.heap.size + 1 = B := by omega
      have m1 : ¬ B = w.heap.size + 1 := by omega
      have n2 : ¬ w.heap.size = A := by omega
      have m2 : ¬ A = w.heap.size := by omega
      have n3 : ¬ w.heap.size + 1 = A := by omega
      have m3 : ¬ A = w.heap.size + 1 := by omega
      have n4 : ¬ A = B := by omega
      have m4 : ¬ B = A := by omega
      by_cases gg : hi < 18446744073709551612
      · go_wp2_with fail
        have D2 := D.setB (k := 1) (a := 18446744073709551615 - y) (b := bits .and .u64 lo (18446744073709551615 - y)) O (by first | assumption | omega) (by first | assumption | exact isU_wrap _ | exact isU_bits _ _ _ | (unfold isU at *; omega)) (by first | assumption | exact isU_wrap _ | exact isU_bits _ _ _ | (unfold isU at *; omega))
        refine (HN.out _ _ D2.rd).mono ?_
        rintro _ wa ⟨zz, zz0, zz1, rfl, d⟩
        replace D := D2.step O d
        clear d D2 x0 x1 x2 xf0 xf1 xf2 xl hk1 ha1 hb1 y0 y1 y2 yf0 yf1 yf2 yl hk2 ha2 hb2 u0 u1 u2 uf0 uf1 uf2 ul v0 v1 v2 vf0 vf1 vf2 vl hr hra hab n0 n1 n2 n3 n4 m0 m1 m2 m3 m4
        obtain ⟨k1, a1, b1, hk1, ha1, hb1, xl, x0, x1, x2, xf0, xf1, xf2⟩ := D.ab
        obtain ⟨k2, a2, b2, hk2, ha2, hb2, yl, y0, y1, y2, yf0, yf1, yf2⟩ := D.bb
        obtain ⟨ul, u0, u1, u2, uf0, uf1, uf2⟩ := D.g0
        obtain ⟨vl, v0, v1, v2, vf0, vf1, vf2⟩ := D.g1
        have hr := O.r
        have hra := O.a
        have hab := O.b
        have n0 : ¬ w.heap.size = B := by omega
        have m0 : ¬ B = w.heap.size := by omega
        have n1 : ¬ w.heap.size + 1 = B := by omega
        have m1 : ¬ B = w.heap.size + 1 := by omega
        have n2 : ¬ w.heap.size = A := by omega
        have m2 : ¬ A = w.heap.size := by omega
        have n3 : ¬ w.heap.size + 1 = A := by omega
        have m3 : ¬ A = w.heap.size + 1 := by omega
        have n4 : ¬ A = B := by omega
        have m4 : ¬ B = A := by omega
        go_wp2_with fail
        refine (HV.out _ _ _ _ (by first | assumption | omega) (by first | assumption | exact isU_wrap _ | exact isU_bits _ _ _ | (unfold isU at *; omega)) (by first | assumption | exact isU_wrap _ | exact isU_bits _ _ _ | (unfold isU at *; omega))).mono ?_
        rintro _ w6 ⟨V, rfl, hb⟩
        replace D := DW.below (DW.setB D O (by first | assumption | omega) (by first | assumption | exact isU_wrap _ | exact isU_bits _ _ _ | (unfold isU at *; omega)) (by first | assumption | exact isU_wrap _ | exact isU_bits _ _ _ | (unfold isU at *; omega))) hb
        clear hb hbk hba hbb hba0 hba1 hbb0 hbb1 x0 x1 x2 xf0 xf1 xf2 xl hk1 ha1 hb1 HDW y0 y1 y2 yf0 yf1 yf2 yl hk2 ha2 hb2 u0 u1 u2 uf0 uf1 uf2 ul v0 v1 v2 vf0 vf1 vf2 vl hr hra hab n0 n1 n2 n3 n4 m0 m1 m2 m3 m4
        obtain ⟨k1, a1, b1, hk1, ha1, hb1, xl, x0, x1, x2, xf0, xf1, xf2⟩ := D.ab
        obtain ⟨k2, a2, b2, hk2, ha2, hb2, yl, y0, y1, y2, yf0, yf1, yf2⟩ := D.bb
        obtain ⟨ul, u0, u1, u2, uf0, uf1, uf2⟩ := D.g0
        obtain ⟨vl, v0, v1, v2, vf0, vf1, vf2⟩ := D.g1
        have hr := O.r
        have hra := O.a
        have hab := O.b
        have n0 : ¬ w.heap.size = B := by omega
        have m0 : ¬ B = w.heap.size := by omega
        have n1 : ¬ w.heap.size + 1 = B := by omega
        have m1 : ¬ B = w.heap.size + 1 := by omega
        have n2 : ¬ w.heap.size = A := by omega
        have m2 : ¬ A = w.heap.size := by omega
        have n3 : ¬ w.heap.size + 1 = A := by omega
        have m3 : ¬ A = w.heap.size + 1 := by omega
        have n4 : ¬ A = B := by omega
        have m4 : ¬ B = A := by omega
        have g1 : 1 < c % 12 := by omega
        cases V with
        | true =>
          go_wp2_with fail
          go_region_with (fail)
          all_goals
            go_wp2
            refine bodyPost_ret (v := .tuple #[.agg #[.int .i64 k1, .int .u64 a1, .int .u64 b1], .agg #[.int .i64 k2, .int .u64 a2, .int .u64 b2]]) (by simp [results, Try.results15, go_sem, u0, u1, u2, v0, v1, v2]) rfl (TwoP.mk ⟨hk1, ha1, hb1⟩ ⟨hk2, ha2, hb2⟩ ?_)
            exact (below_set3 (below_set3 D.bl (by omega) _ _ _) (by omega) _ _ _).drew
        | false =>
          go_wp2_with fail
          go_region_with (fail)
          all_goals
            go_wp2
            refine bodyPost_ret (v := .tuple #[.agg #[.int .i64 k1, .int .u64 a1, .int .u64 b1], .agg #[.int .i64 k1, .int .u64 a1, .int .u64 b1]]) (by simp [results, Try.results15, go_sem, u0, u1, u2, v0, v1, v2]) rfl (TwoP.mk ⟨hk1, ha1, hb1⟩ ⟨hk1, ha1, hb1⟩ ?_)
            exact (below_set3 (below_set3 (below_set3 D.bl (show w.heap.size ≤ B by omega) _ _ _) (by omega) _ _ _) (by omega) _ _ _).drew
      · go_wp2_with fail
        refine (HV.out _ _ _ _ (by first | assumption | omega) (by first | assumption | exact isU_wrap _ | exact isU_bits _ _ _ | (unfold isU at *; omega)) (by first | assumption | exact isU_wrap _ | exact isU_bits _ _ _ | (unfold isU at *; omega))).mono ?_
        rintro _ w6 ⟨V, rfl, hb⟩
        replace D := DW.below (DW.setB D O (by first | assumption | omega) (by first | assumption | exact isU_wrap _ | exact isU_bits _ _ _ | (unfold isU at *; omega)) (by first | assumption | exact isU_wrap _ | exact isU_bits _ _ _ | (unfold isU at *; omega))) hb
        clear hb hbk hba hbb hba0 hba1 hbb0 hbb1 x0 x1 x2 xf0 xf1 xf2 xl hk1 ha1 hb1 HDW y0 y1 y2 yf0 yf1 yf2 yl hk2 ha2 hb2 u0 u1 u2 uf0 uf1 uf2 ul v0 v1 v2 vf0 vf1 vf2 vl hr hra hab n0 n1 n2 n3 n4 m0 m1 m2 m3 m4
        obtain ⟨k1, a1, b1, hk1, ha1, hb1, xl, x0, x1, x2, xf0, xf1, xf2⟩ := D.ab
        obtain ⟨k2, a2, b2, hk2, ha2, hb2, yl, y0, y1, y2, yf0, yf1, yf2⟩ := D.bb
        obtain ⟨ul, u0, u1, u2, uf0, uf1, uf2⟩ := D.g0
        obtain ⟨vl, v0, v1, v2, vf0, vf1, vf2⟩ := D.g1
        have hr := O.r
        have hra := O.a
        have hab := O.b
        have n0 : ¬ w.heap.size = B := by omega
        have m0 : ¬ B = w.heap.size := by omega
        have n1 : ¬ w.heap.size + 1 = B := by omega
        have m1 : ¬ B = w.heap.size + 1 := by omega
        have n2 : ¬ w.heap.size = A := by omega
        have m2 : ¬ A = w.heap.size := by omega
        have n3 : ¬ w.heap.size + 1 = A := by omega
        have m3 : ¬ A = w.heap.size + 1 := by omega
        have n4 : ¬ A = B := by omega
        have m4 : ¬ B = A := by omega
        have g1 : 1 < c % 12 := by omega
        cases V with
        | true =>
          go_wp2_with fail
          go_region_with (fail)
          all_goals
            go_wp2
            refine bodyPost_ret (v := .tuple #[.agg #[.int .i64 k1, .int .u64 a1, .int .u64 b1], .agg #[.int .i64 k2, .int .u64 a2, .int .u64 b2]]) (by simp [results, Try.results15, go_sem, u0, u1, u2, v0, v1, v2]) rfl (TwoP.mk ⟨hk1, ha1, hb1⟩ ⟨hk2, ha2, hb2⟩ ?_)
            exact (below_set3 (below_set3 D.bl (by omega) _ _ _) (by omega) _ _ _).drew
        | false =>
          go_wp2_with fail
          go_region_with (fail)
          all_goals
            go_wp2
            refine bodyPost_ret (v := .tuple #[.agg #[.int .i64 k1, .int .u64 a1, .int .u64 b1], .agg #[.int .i64 k1, .int .u64 a1, .int .u64 b1]]) (by simp [results, Try.results15, go_sem, u0, u1, u2, v0, v1, v2]) rfl (TwoP.mk ⟨hk1, ha1, hb1⟩ ⟨hk1, ha1, hb1⟩ ?_)
            exact (below_set3 (below_set3 (below_set3 D.bl (show w.heap.size ≤ B by omega) _ _ _) (by omega) _ _ _) (by omega) _ _ _).drew
  by_cases h6 : c % 12 = 6
  · have e2 : ¬ c % 12 < 2 := by omega
    have e4 : ¬ c % 12 < 4 := by omega
    have e6 : ¬ c % 12 < 6 := by omega
    have f6 : (c % 12 == 6) = true := by rw [beq_iff_eq]; omega
    go_wp2_with fail
    refine (HV.out _ _ _ _ (by first | assumption | omega) (by first | assumption | exact isU_wrap _ | exact isU_bits _ _ _ | (unfold isU at *; omega)) (by first | assumption | exact isU_wrap _ | exact isU_bits _ _ _ | (unfold isU at *; omega))).mono ?_
    rintro _ w6 ⟨V, rfl, hb⟩
    replace D := DW.below (HDW.out _ _ _ (by first | assumption | omega) (by first | assumption | exact isU_wrap _ | exact isU_bits _ _ _ | (unfold isU at *; omega)) (by first | assumption | exact isU_wrap _ | exact isU_bits _ _ _ | (unfold isU at *; omega))) hb
    clear hb hbk hba hbb hba0 hba1 hbb0 hbb1 x0 x1 x2 xf0 xf1 xf2 xl hk1 ha1 hb1 HDW
    generalize w5.heap.size = B at *
    obtain ⟨k1, a1, b1, hk1, ha1, hb1, xl, x0, x1, x2, xf0, xf1, xf2⟩ := D.ab
    obtain ⟨k2, a2, b2, hk2, ha2, hb2, yl, y0, y1, y2, yf0, yf1, yf2⟩ := D.bb
    obtain ⟨ul, u0, u1, u2, uf0, uf1, uf2⟩ := D.g0
    obtain ⟨vl, v0, v1, v2, vf0, vf1, vf2⟩ := D.g1
    have hr := O.r
    have hra := O.a
    have hab := O.b
    have n0 : ¬ w.heap.size = B := by omega
    have m0 : ¬ B = w.heap.size := by omega
    have n1 : ¬ w.heap.size + 1 = B := by omega
    have m1 : ¬ B = w.heap.size + 1 := by omega
    have n2 : ¬ w.heap.size = A := by omega
    have m2 : ¬ A = w.heap.size := by omega
    have n3 : ¬ w.heap.size + 1 = A := by omega
    have m3 : ¬ A = w.heap.size + 1 := by omega
    have n4 : ¬ A = B := by omega
    have m4 : ¬ B = A := by omega
    have g1 : 1 < c % 12 := by omega
    cases V with
    | true =>
      go_wp2_with fail
      go_region_with (fail)
      all_goals
        go_wp2
        refine bodyPost_ret (v := .tuple #[.agg #[.int .i64 k1, .int .u64 a1, .int .u64 b1], .agg #[.int .i64 k2, .int .u64 a2, .int .u64 b2]]) (by simp [results, Try.results15, go_sem, u0, u1, u2, v0, v1, v2]) rfl (TwoP.mk ⟨hk1, ha1, hb1⟩ ⟨hk2, ha2, hb2⟩ ?_)
        exact (below_set3 (below_set3 D.bl (by omega) _ _ _) (by omega) _ _ _).drew
    | false =>
      go_wp2_with fail
      go_region_with (fail)
      all_goals
        go_wp2
        refine bodyPost_ret (v := .tuple #[.agg #[.int .i64 k1, .int .u64 a1, .int .u64 b1], .agg #[.int .i64 k2, .int .u64 a2, .int .u64 b2]]) (by simp [results, Try.results15, go_sem, u0, u1, u2, v0, v1, v2]) rfl (TwoP.mk ⟨hk1, ha1, hb1⟩ ⟨hk2, ha2, hb2⟩ ?_)
        exact (below_set3 (below_set3 D.bl (by omega) _ _ _) (by omega) _ _ _).drew
  by_cases h7 : c % 12 = 7
  · have e2 : ¬ c % 12 < 2 := by omega
    have e4 : ¬ c % 12 < 4 := by omega
    have e6 : ¬ c % 12 < 6 := by omega
    have f6 : (c % 12 == 6) = false := by rw [beq_eq_false_iff_ne]; omega
    have f7 : (c % 12 == 7) = true := by rw [beq_iff_eq]; omega
    go_wp2_with fail
    refine (HS.out _ _ _ _ _ (by first | assumption | omega) (by first | assumption | exact isU_wrap _ | exact isU_bits _ _ _ | (unfold isU at *; omega)) (by first | assumption | exact isU_wrap _ | exact isU_bits _ _ _ | (unfold isU at *; omega)) D.rd).mono ?_
    rintro _ w7 ⟨sk, sa, sb, hsk, hsa, hsb, rfl, d⟩
    replace D := D.step O d
    clear d x0 x1 x2 xf0 xf1 xf2 xl hk1 ha1 hb1
    generalize w5.heap.size = B at *
    obtain ⟨k1, a1, b1, hk1, ha1, hb1, xl, x0, x1, x2, xf0, xf1, xf2⟩ := D.ab
    obtain ⟨k2, a2, b2, hk2, ha2, hb2, yl, y0, y1, y2, yf0, yf1, yf2⟩ := D.bb
    obtain ⟨ul, u0, u1, u2, uf0, uf1, uf2⟩ := D.g0
    obtain ⟨vl, v0, v1, v2, vf0, vf1, vf2⟩ := D.g1
    have hr := O.r
    have hra := O.a
    have hab := O.b
    have n0 : ¬ w.heap.size = B := by omega
    have m0 : ¬ B = w.heap.size := by omega
    have n1 : ¬ w.heap.size + 1 = B := by omega
    have m1 : ¬ B = w.heap.size + 1 := by omega
    have n2 : ¬ w.heap.size = A := by omega
    have m2 : ¬ A = w.heap.size := by omega
    have n3 : ¬ w.heap.size + 1 = A := by omega
    have m3 : ¬ A = w.heap.size + 1 := by omega
    have n4 : ¬ A = B := by omega
    have m4 : ¬ B = A := by omega
    go_wp2_with fail
    refine (HV.out _ _ _ _ (by first | assumption | omega) (by first | assumption | exact isU_wrap _ | exact isU_bits _ _ _ | (unfold isU at *; omega)) (by first | assumption | exact isU_wrap _ | exact isU_bits _ _ _ | (unfold isU at *; omega))).mono ?_
    rintro _ w6 ⟨V, rfl, hb⟩
    replace D := DW.below (DW.setA D O hsk hsa hsb) hb
    clear hb hbk hba hbb hba0 hba1 hbb0 hbb1 x0 x1 x2 xf0 xf1 xf2 xl hk1 ha1 hb1 HDW y0 y1 y2 yf0 yf1 yf2 yl hk2 ha2 hb2 u0 u1 u2 uf0 uf1 uf2 ul v0 v1 v2 vf0 vf1 vf2 vl hr hra hab n0 n1 n2 n3 n4 m0 m1 m2 m3 m4
    obtain ⟨k1, a1, b1, hk1, ha1, hb1, xl, x0, x1, x2, xf0, xf1, xf2⟩ := D.ab
    obtain ⟨k2, a2, b2, hk2, ha2, hb2, yl, y0, y1, y2, yf0, yf1, yf2⟩ := D.bb
    obtain ⟨ul, u0, u1, u2, uf0, uf1, uf2⟩ := D.g0
    obtain ⟨vl, v0, v1, v2, vf0, vf1, vf2⟩ := D.g1
    have hr := O.r
    have hra := O.a
    have hab := O.b
    have n0 : ¬ w.heap.size = B := by omega
    have m0 : ¬ B = w.heap.size := by omega
    have n1 : ¬ w.heap.size + 1 = B := by omega
    have m1 : ¬ B = w.heap.size + 1 := by omega
    have n2 : ¬ w.heap.size = A := by omega
    have m2 : ¬ A = w.heap.size := by omega
    have n3 : ¬ w.heap.size + 1 = A := by omega
    have m3 : ¬ A = w.heap.size + 1 := by omega
    have n4 : ¬ A = B := by omega
    have m4 : ¬ B = A := by omega
    have g1 : 1 < c % 12 := by omega
    cases V with
    | true =>
      go_wp2_with fail
      go_region_with (fail)
      all_goals
        go_wp2
        refine bodyPost_ret (v := .tuple #[.agg #[.int .i64 k1, .int .u64 a1, .int .u64 b1], .agg #[.int .i64 k2, .int .u64 a2, .int .u64 b2]]) (by simp [results, Try.results15, go_sem, u0, u1, u2, v0, v1, v2]) rfl (TwoP.mk ⟨hk1, ha1, hb1⟩ ⟨hk2, ha2, hb2⟩ ?_)
        exact (below_set3 (below_set3 D.bl (by omega) _ _ _) (by omega) _ _ _).drew
    | false =>
      go_wp2_with fail
      go_region_with (fail)
      all_goals
        go_wp2
        refine bodyPost_ret (v := .tuple #[.agg #[.int .i64 k1, .int .u64 a1, .int .u64 b1], .agg #[.int .i64 k2, .int .u64 a2, .int .u64 b2]]) (by simp [results, Try.results15, go_sem, u0, u1, u2, v0, v1, v2]) rfl (TwoP.mk ⟨hk1, ha1, hb1⟩ ⟨hk2, ha2, hb2⟩ ?_)
        exact (below_set3 (below_set3 D.bl (by omega) _ _ _) (by omega) _ _ _).drew
  by_cases h8 : c % 12 = 8
  · have e2 : ¬ c % 12 < 2 := by omega
    have e4 : ¬ c % 12 < 4 := by omega
    have e6 : ¬ c % 12 < 6 := by omega
    have f6 : (c % 12 == 6) = false := by rw [beq_eq_false_iff_ne]; omega
    have f7 : (c % 12 == 7) = false := by rw [beq_eq_false_iff_ne]; omega
    have f8 : (c % 12 == 8) = true := by rw [beq_iff_eq]; omega
    go_wp2_with fail
    refine (HS.out _ _ _ _ _ (by first | assumption | omega) (by first | assumption | exact isU_wrap _ | exact isU_bits _ _ _ | (unfold isU at *; omega)) (by first | assumption | exact isU_wrap _ | exact isU_bits _ _ _ | (unfold isU at *; omega)) D.rd).mono ?_
    rintro _ w7 ⟨sk, sa, sb, hsk, hsa, hsb, rfl, d⟩
    replace D := D.step O d
    clear d x0 x1 x2 xf0 xf1 xf2 xl hk1 ha1 hb1
    generalize w5.heap.size = B at *
    obtain ⟨k1, a1, b1, hk1, ha1, hb1, xl, x0, x1, x2, xf0, xf1, xf2⟩ := D.ab
    obtain ⟨k2, a2, b2, hk2, ha2, hb2, yl, y0, y1, y2, yf0, yf1, yf2⟩ := D.bb
    obtain ⟨ul, u0, u1, u2, uf0, uf1, uf2⟩ := D.g0
    obtain ⟨vl, v0, v1, v2, vf0, vf1, vf2⟩ := D.g1
    have hr := O.r
    have hra := O.a
    have hab := O.b
    have n0 : ¬ w.heap.size = B := by omega
    have m0 : ¬ B = w.heap.size := by omega
    have n1 : ¬ w.heap.size + 1 = B := by omega
    have m1 : ¬ B = w.heap.size + 1 := by omega
    have n2 : ¬ w.heap.size = A := by omega
    have m2 : ¬ A = w.heap.size := by omega
    have n3 : ¬ w.heap.size + 1 = A := by omega
    have m3 : ¬ A = w.heap.size + 1 := by omega
    have n4 : ¬ A = B := by omega
    have m4 : ¬ B = A := by omega
    go_wp2_with fail
    refine (HV.out _ _ _ _ (by first | assumption | omega) (by first | assumption | exact isU_wrap _ | exact isU_bits _ _ _ | (unfold isU at *; omega)) (by first | assumption | exact isU_wrap _ | exact isU_bits _ _ _ | (unfold isU at *; omega))).mono ?_
    rintro _ w6 ⟨V, rfl, hb⟩
    replace D := DW.below (DW.setB D O hsk hsa hsb) hb
    clear hb hbk hba hbb hba0 hba1 hbb0 hbb1 x0 x1 x2 xf0 xf1 xf2 xl hk1 ha1 hb1 HDW y0 y1 y2 yf0 yf1 yf2 yl hk2 ha2 hb2 u0 u1 u2 uf0 uf1 uf2 ul v0 v1 v2 vf0 vf1 vf2 vl hr hra hab n0 n1 n2 n3 n4 m0 m1 m2 m3 m4
    obtain ⟨k1, a1, b1, hk1, ha1, hb1, xl, x0, x1, x2, xf0, xf1, xf2⟩ := D.ab
    obtain ⟨k2, a2, b2, hk2, ha2, hb2, yl, y0, y1, y2, yf0, yf1, yf2⟩ := D.bb
    obtain ⟨ul, u0, u1, u2, uf0, uf1, uf2⟩ := D.g0
    obtain ⟨vl, v0, v1, v2, vf0, vf1, vf2⟩ := D.g1
    have hr := O.r
    have hra := O.a
    have hab := O.b
    have n0 : ¬ w.heap.size = B := by omega
    have m0 : ¬ B = w.heap.size := by omega
    have n1 : ¬ w.heap.size + 1 = B := by omega
    have m1 : ¬ B = w.heap.size + 1 := by omega
    have n2 : ¬ w.heap.size = A := by omega
    have m2 : ¬ A = w.heap.size := by omega
    have n3 : ¬ w.heap.size + 1 = A := by omega
    have m3 : ¬ A = w.heap.size + 1 := by omega
    have n4 : ¬ A = B := by omega
    have m4 : ¬ B = A := by omega
    have g1 : 1 < c % 12 := by omega
    cases V with
    | true =>
      go_wp2_with fail
      go_region_with (fail)
      all_goals
        go_wp2
        refine bodyPost_ret (v := .tuple #[.agg #[.int .i64 k1, .int .u64 a1, .int .u64 b1], .agg #[.int .i64 k2, .int .u64 a2, .int .u64 b2]]) (by simp [results, Try.results15, go_sem, u0, u1, u2, v0, v1, v2]) rfl (TwoP.mk ⟨hk1, ha1, hb1⟩ ⟨hk2, ha2, hb2⟩ ?_)
        exact (below_set3 (below_set3 D.bl (by omega) _ _ _) (by omega) _ _ _).drew
    | false =>
      go_wp2_with fail
      go_region_with (fail)
      all_goals
        go_wp2
        refine bodyPost_ret (v := .tuple #[.agg #[.int .i64 k1, .int .u64 a1, .int .u64 b1], .agg #[.int .i64 k2, .int .u64 a2, .int .u64 b2]]) (by simp [results, Try.results15, go_sem, u0, u1, u2, v0, v1, v2]) rfl (TwoP.mk ⟨hk1, ha1, hb1⟩ ⟨hk2, ha2, hb2⟩ ?_)
        exact (below_set3 (below_set3 D.bl (by omega) _ _ _) (by omega) _ _ _).drew
  have h9 : 9 ≤ c % 12 := by omega
  have e2 : ¬ c % 12 < 2 := by omega
  have e4 : ¬ c % 12 < 4 := by omega
  have e6 : ¬ c % 12 < 6 := by omega
  have f6 : (c % 12 == 6) = false := by rw [beq_eq_false_iff_ne]; omega
  have f7 : (c % 12 == 7) = false := by rw [beq_eq_false_iff_ne]; omega
  have f8 : (c % 12 == 8) = false := by rw [beq_eq_false_iff_ne]; omega
  go_wp2_with fail
  refine (HV.out _ _ _ _ (by first | assumption | omega) (by first | assumption | exact isU_wrap _ | exact isU_bits _ _ _ | (unfold isU at *; omega)) (by first | assumption | exact isU_wrap _ | exact isU_bits _ _ _ | (unfold isU at *; omega))).mono ?_
  rintro _ w6 ⟨V, rfl, hb⟩
  replace D := DW.below D hb
  clear hb hbk hba hbb hba0 hba1 hbb0 hbb1 x0 x1 x2 xf0 xf1 xf2 xl hk1 ha1 hb1 HDW
  generalize w5.heap.size = B at *
  obtain ⟨k1, a1, b1, hk1, ha1, hb1, xl, x0, x1, x2, xf0, xf1, xf2⟩ := D.ab
  obtain ⟨k2, a2, b2, hk2, ha2, hb2, yl, y0, y1, y2, yf0, yf1, yf2⟩ := D.bb
  obtain ⟨ul, u0, u1, u2, uf0, uf1, uf2⟩ := D.g0
  obtain ⟨vl, v0, v1, v2, vf0, vf1, vf2⟩ := D.g1
  have hr := O.r
  have hra := O.a
  have hab := O.b
  have n0 : ¬ w.heap.size = B := by omega
  have m0 : ¬ B = w.heap.size := by omega
  have n1 : ¬ w.heap.size + 1 = B := by omega
  have m1 : ¬ B = w.heap.size + 1 := by omega
  have n2 : ¬ w.heap.size = A := by omega
  have m2 : ¬ A = w.heap.size := by omega
  have n3 : ¬ w.heap.size + 1 = A := by omega
  have m3 : ¬ A = w.heap.size + 1 := by omega
  have n4 : ¬ A = B := by omega
  have m4 : ¬ B = A := by omega
  have g1 : 1 < c % 12 := by omega
  cases V with
  | true =>
    go_wp2_with fail
    go_region_with (fail)
    all_goals
      go_wp2
      refine bodyPost_ret (v := .tuple #[.agg #[.int .i64 k1, .int .u64 a1, .int .u64 b1], .agg #[.int .i64 k2, .int .u64 a2, .int .u64 b2]]) (by simp [results, Try.results15, go_sem, u0, u1, u2, v0, v1, v2]) rfl (TwoP.mk ⟨hk1, ha1, hb1⟩ ⟨hk2, ha2, hb2⟩ ?_)
      exact (below_set3 (below_set3 D.bl (by omega) _ _ _) (by omega) _ _ _).drew
  | false =>
    go_wp2_with fail
    go_region_with (fail)
    all_goals
      go_wp2
      refine bodyPost_ret (v := .tuple #[.agg #[.int .i64 k1, .int .u64 a1, .int .u64 b1], .agg #[.int .i64 k2, .int .u64 a2, .int .u64 b2]]) (by simp [results, Try.results15, go_sem, u0, u1, u2, v0, v1, v2]) rfl (TwoP.mk ⟨hk1, ha1, hb1⟩ ⟨hk2, ha2, hb2⟩ ?_)
      exact (below_set3 (below_set3 D.bl (by omega) _ _ _) (by omega) _ _ _).drew
end Go.Proofs.Ytjkmcdgjhfiklaa
