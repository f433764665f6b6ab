/-
  THE LAW 'FnNorm': its walk.
-/
import Derived.Test.YtjkmcdgjhfiklaaDrawF
import Derived.Test.YtjkmcdgjhfiklaaCondO
namespace Go.Proofs.Ytjkmcdgjhfiklaa
open Go.RowKit
set_option linter.unusedVariables false

/-- what the law asks of two valid conditions -/
structure NormFacts (ck ca cb dk da db xk xa xb yk ya yb : Int) (ab ba s : Bool) : Prop where
  S4 : Hid (∀ w, Calls Try.prog 13 #[.agg #[.int .i64 ck, .int .u64 ca, .int .u64 cb], .agg #[.int .i64 dk, .int .u64 da, .int .u64 db]] w fun e w' => e = .returned (.bool ab) ∧ Below w.heap.size w w')
  S5 : Hid (∀ w, Calls Try.prog 13 #[.agg #[.int .i64 dk, .int .u64 da, .int .u64 db], .agg #[.int .i64 ck, .int .u64 ca, .int .u64 cb]] w fun e w' => e = .returned (.bool ba) ∧ Below w.heap.size w w')
  I1 : Hid (∀ w, Calls Try.prog 14 #[.agg #[.int .i64 ck, .int .u64 ca, .int .u64 cb], .agg #[.int .i64 dk, .int .u64 da, .int .u64 db]] w fun e w' => e = .returned (.bool ab) ∧ Below w.heap.size w w')
  I2 : Hid (∀ w, Calls Try.prog 14 #[.agg #[.int .i64 dk, .int .u64 da, .int .u64 db], .agg #[.int .i64 ck, .int .u64 ca, .int .u64 cb]] w fun e w' => e = .returned (.bool ba) ∧ Below w.heap.size w w')
  I3 : Hid (∀ w, Calls Try.prog 14 #[.agg #[.int .i64 xk, .int .u64 xa, .int .u64 xb], .agg #[.int .i64 yk, .int .u64 ya, .int .u64 yb]] w fun e w' => e = .returned (.bool ab) ∧ Below w.heap.size w w')
  I4 : Hid (∀ w, Calls Try.prog 14 #[.agg #[.int .i64 yk, .int .u64 ya, .int .u64 yb], .agg #[.int .i64 xk, .int .u64 xa, .int .u64 xb]] w fun e w' => e = .returned (.bool ba) ∧ Below w.heap.size w w')
  I5 : Hid (∀ w, Calls Try.prog 14 #[.agg #[.int .i64 ck, .int .u64 ca, .int .u64 cb], .agg #[.int .i64 xk, .int .u64 xa, .int .u64 xb]] w fun e w' => e = .returned (.bool true) ∧ Below w.heap.size w w')
  I6 : Hid (∀ w, Calls Try.prog 14 #[.agg #[.int .i64 xk, .int .u64 xa, .int .u64 xb], .agg #[.int .i64 ck, .int .u64 ca, .int .u64 cb]] w fun e w' => e = .returned (.bool true) ∧ Below w.heap.size w w')
  I7 : Hid (∀ w, Calls Try.prog 14 #[.agg #[.int .i64 dk, .int .u64 da, .int .u64 db], .agg #[.int .i64 yk, .int .u64 ya, .int .u64 yb]] w fun e w' => e = .returned (.bool true) ∧ Below w.heap.size w w')
  I8 : Hid (∀ w, Calls Try.prog 14 #[.agg #[.int .i64 yk, .int .u64 ya, .int .u64 yb], .agg #[.int .i64 dk, .int .u64 da, .int .u64 db]] w fun e w' => e = .returned (.bool true) ∧ Below w.heap.size w w')
  N1 : Hid (∀ w, Calls Try.prog 11 #[.agg #[.int .i64 ck, .int .u64 ca, .int .u64 cb]] w fun e w' => e = .returned (.agg #[.int .i64 xk, .int .u64 xa, .int .u64 xb]) ∧ Below w.heap.size w w')
  N2 : Hid (∀ w, Calls Try.prog 11 #[.agg #[.int .i64 dk, .int .u64 da, .int .u64 db]] w fun e w' => e = .returned (.agg #[.int .i64 yk, .int .u64 ya, .int .u64 yb]) ∧ Below w.heap.size w w')
  E1 : Hid (∀ w, Calls Try.prog 16 #[.agg #[.int .i64 xk, .int .u64 xa, .int .u64 xb], .agg #[.int .i64 yk, .int .u64 ya, .int .u64 yb]] w fun e w' => e = .returned (.bool s) ∧ Below w.heap.size w w')
  eq : (s == (ab && ba)) = true

set_option maxRecDepth 100000 in
set_option maxHeartbeats 4000000 in
theorem norm_walk (a : Option Addr) (n cap : Nat) (w : World) (hn : n ≤ 1048576)
    (HD : Hid (Calls Try.prog 15 #[.slice a n cap] w (TwoP w)))
    (HF : Hid (∀ ck ca cb dk da db : Int, ((-9223372036854775808 ≤ ck ∧ ck ≤ 9223372036854775807) ∧ isU ca ∧ isU cb) → ((-9223372036854775808 ≤ dk ∧ dk ≤ 9223372036854775807) ∧ isU da ∧ isU db) → ∃ va vb : Bool,
      (∀ w, Calls Try.prog 13 #[.agg #[.int .i64 ck, .int .u64 ca, .int .u64 cb], .agg #[.int .i64 ck, .int .u64 ca, .int .u64 cb]] w fun e w' => e = .returned (.bool va) ∧ Below w.heap.size w w') ∧ (∀ w, Calls Try.prog 13 #[.agg #[.int .i64 dk, .int .u64 da, .int .u64 db], .agg #[.int .i64 dk, .int .u64 da, .int .u64 db]] w fun e w' => e = .returned (.bool vb) ∧ Below w.heap.size w w') ∧
      (va = true → vb = true → ∃ (xk xa xb yk ya yb : Int) (ab ba s : Bool), NormFacts ck ca cb dk da db xk xa xb yk ya yb ab ba s))) :
    Calls Try.prog 5 #[.slice a n cap] w fun e w' => e = .returned (.bool true) ∧ Below w.heap.size w w' := by
  go_enter Try.func5, Try.ntmps5
  go_wp2_with fail
  refine (HD.out).mono ?_
  rintro _ w1 ⟨ck, ca, cb, dk, da, db, hc, hd, rfl, B1⟩
  obtain ⟨va, vb, S1', S3', HN⟩ := HF.out ck ca cb dk da db hc hd
  have S1 : Hid (∀ w, Calls Try.prog 13 #[.agg #[.int .i64 ck, .int .u64 ca, .int .u64 cb], .agg #[.int .i64 ck, .int .u64 ca, .int .u64 cb]] w fun e w' => e = .returned (.bool va) ∧ Below w.heap.size w w') := S1'
  have S3 : Hid (∀ w, Calls Try.prog 13 #[.agg #[.int .i64 dk, .int .u64 da, .int .u64 db], .agg #[.int .i64 dk, .int .u64 da, .int .u64 db]] w fun e w' => e = .returned (.bool vb) ∧ Below w.heap.size w w') := S3'
  have HN' : Hid (va = true → vb = true → ∃ (xk xa xb yk ya yb : Int) (ab ba s : Bool), NormFacts ck ca cb dk da db xk xa xb yk ya yb ab ba s) := HN
  clear S1' S3' HN HF HD hc hd
  have Qc := (BoxK.new w1 25 (.int .i64 ck) (.int .u64 ca) (.int .u64 cb)).alloc (.cells #[.int .i64 dk, .int .u64 da, .int .u64 db] 25)
  have Qd := BoxK.new (w1.alloc (.cells #[.int .i64 ck, .int .u64 ca, .int .u64 cb] 25)) 25 (.int .i64 dk) (.int .u64 da) (.int .u64 db)
  have hsz : (w1.alloc (.cells #[.int .i64 ck, .int .u64 ca, .int .u64 cb] 25)).heap.size = w1.heap.size + 1 := by simp
  rw [hsz] at Qd
  have Bl := (B1.alloc B1.size (.cells #[.int .i64 ck, .int .u64 ca, .int .u64 cb] 25)).alloc (by simp; have := B1.size; omega) (.cells #[.int .i64 dk, .int .u64 da, .int .u64 db] 25)
  clear B1 hsz
  go_wp2_with fail
  generalize (w1.alloc (.cells #[.int .i64 ck, .int .u64 ca, .int .u64 cb] 25)).alloc (.cells #[.int .i64 dk, .int .u64 da, .int .u64 db] 25) = W at *
  generalize w1.heap.size = A at *
  refine (S1.out _).mono ?_
  rintro _ w2 ⟨rfl, hb⟩
  replace Qc := Qc.keep hb
  replace Qd := Qd.keep hb
  replace Bl := Bl.trans (hb.mono Bl.size)
  clear hb
  cases va with
  | false =>
    go_wp2
    go_ret
    exact ⟨rfl, Bl⟩
  | true =>
    have Tc := Qc
    obtain ⟨_, c0, c1, c2, _, _, _⟩ := Tc
    have Td := Qd
    obtain ⟨_, d0, d1, d2, _, _, _⟩ := Td
    go_wp2_with fail
    clear c0 c1 c2
    clear d0 d1 d2
    refine (S3.out _).mono ?_
    rintro _ w3 ⟨rfl, hb⟩
    replace Qc := Qc.keep hb
    replace Qd := Qd.keep hb
    replace Bl := Bl.trans (hb.mono Bl.size)
    clear hb
    cases vb with
    | false =>
      go_wp2
      go_ret
      exact ⟨rfl, Bl⟩
    | true =>
      obtain ⟨xk, xa, xb, yk, ya, yb, ab, ba, s, F⟩ := HN'.out (by first | rfl | trivial) (by first | rfl | trivial)
      obtain ⟨S4, S5, I1, I2, I3, I4, I5, I6, I7, I8, N1, N2, E1, eq⟩ := F
      clear HN'
      have ab0 : (ab != ab) = false := by simp
      have ba0 : (ba != ba) = false := by simp
      have Tc := Qc
      obtain ⟨_, c0, c1, c2, _, _, _⟩ := Tc
      have Td := Qd
      obtain ⟨_, d0, d1, d2, _, _, _⟩ := Td
      go_wp2_with fail
      clear c0 c1 c2
      clear d0 d1 d2
      refine (S4.out _).mono ?_
      rintro _ w4 ⟨rfl, hb⟩
      replace Qc := Qc.keep hb
      replace Qd := Qd.keep hb
      replace Bl := Bl.trans (hb.mono Bl.size)
      clear hb
      have Tc := Qc
      obtain ⟨_, c0, c1, c2, _, _, _⟩ := Tc
      have Td := Qd
      obtain ⟨_, d0, d1, d2, _, _, _⟩ := Td
      go_wp2_with fail
      clear c0 c1 c2
      clear d0 d1 d2
      refine (S5.out _).mono ?_
      rintro _ w5 ⟨rfl, hb⟩
      replace Qc := Qc.keep hb
      replace Qd := Qd.keep hb
      replace Bl := Bl.trans (hb.mono Bl.size)
      clear hb
      have Tc := Qc
      obtain ⟨_, c0, c1, c2, _, _, _⟩ := Tc
      have Td := Qd
      obtain ⟨_, d0, d1, d2, _, _, _⟩ := Td
      go_wp2_with fail
      clear c0 c1 c2
      clear d0 d1 d2
      refine (I1.out _).mono ?_
      rintro _ w6 ⟨rfl, hb⟩
      replace Qc := Qc.keep hb
      replace Qd := Qd.keep hb
      replace Bl := Bl.trans (hb.mono Bl.size)
      clear hb
      have Tc := Qc
      obtain ⟨_, c0, c1, c2, _, _, _⟩ := Tc
      have Td := Qd
      obtain ⟨_, d0, d1, d2, _, _, _⟩ := Td
      go_wp2_with fail
      clear c0 c1 c2
      clear d0 d1 d2
      refine (I2.out _).mono ?_
      rintro _ w7 ⟨rfl, hb⟩
      replace Qc := Qc.keep hb
      replace Qd := Qd.keep hb
      replace Bl := Bl.trans (hb.mono Bl.size)
      clear hb
      have Tc := Qc
      obtain ⟨_, c0, c1, c2, _, _, _⟩ := Tc
      have Td := Qd
      obtain ⟨_, d0, d1, d2, _, _, _⟩ := Td
      go_wp2_with fail
      clear c0 c1 c2
      clear d0 d1 d2
      refine (N1.out _).mono ?_
      rintro _ w8 ⟨rfl, hb⟩
      replace Qc := Qc.keep hb
      replace Qd := Qd.keep hb
      replace Bl := Bl.trans (hb.mono Bl.size)
      clear hb
      have Qx := BoxK.new w8 25 (.int .i64 xk) (.int .u64 xa) (.int .u64 xb)
      replace Qc := Qc.alloc (.cells #[.int .i64 xk, .int .u64 xa, .int .u64 xb] 25)
      replace Qd := Qd.alloc (.cells #[.int .i64 xk, .int .u64 xa, .int .u64 xb] 25)
      replace Bl := Bl.alloc Bl.size (.cells #[.int .i64 xk, .int .u64 xa, .int .u64 xb] 25)
      have Tc := Qc
      obtain ⟨_, c0, c1, c2, _, _, _⟩ := Tc
      have Td := Qd
      obtain ⟨_, d0, d1, d2, _, _, _⟩ := Td
      go_wp2_with fail
      clear c0 c1 c2
      clear d0 d1 d2
      generalize w8.alloc (.cells #[.int .i64 xk, .int .u64 xa, .int .u64 xb] 25) = W8 at *
      generalize w8.heap.size = G at *
      refine (N2.out _).mono ?_
      rintro _ w9 ⟨rfl, hb⟩
      replace Qc := Qc.keep hb
      replace Qd := Qd.keep hb
      replace Qx := Qx.keep hb
      replace Bl := Bl.trans (hb.mono Bl.size)
      clear hb
      have Qy := BoxK.new w9 25 (.int .i64 yk) (.int .u64 ya) (.int .u64 yb)
      replace Qc := Qc.alloc (.cells #[.int .i64 yk, .int .u64 ya, .int .u64 yb] 25)
      replace Qd := Qd.alloc (.cells #[.int .i64 yk, .int .u64 ya, .int .u64 yb] 25)
      replace Qx := Qx.alloc (.cells #[.int .i64 yk, .int .u64 ya, .int .u64 yb] 25)
      replace Bl := Bl.alloc Bl.size (.cells #[.int .i64 yk, .int .u64 ya, .int .u64 yb] 25)
      have Tc := Qc
      obtain ⟨_, c0, c1, c2, _, _, _⟩ := Tc
      have Td := Qd
      obtain ⟨_, d0, d1, d2, _, _, _⟩ := Td
      have Tx := Qx
      obtain ⟨_, x0, x1, x2, _, _, _⟩ := Tx
      go_wp2_with fail
      clear c0 c1 c2
      clear d0 d1 d2
      clear x0 x1 x2
      generalize w9.alloc (.cells #[.int .i64 yk, .int .u64 ya, .int .u64 yb] 25) = W9 at *
      generalize w9.heap.size = J at *
      refine (I3.out _).mono ?_
      rintro _ w10 ⟨rfl, hb⟩
      replace Qc := Qc.keep hb
      replace Qd := Qd.keep hb
      replace Qx := Qx.keep hb
      replace Qy := Qy.keep hb
      replace Bl := Bl.trans (hb.mono Bl.size)
      clear hb
      have Tc := Qc
      obtain ⟨_, c0, c1, c2, _, _, _⟩ := Tc
      have Td := Qd
      obtain ⟨_, d0, d1, d2, _, _, _⟩ := Td
      have Tx := Qx
      obtain ⟨_, x0, x1, x2, _, _, _⟩ := Tx
      have Ty := Qy
      obtain ⟨_, y0, y1, y2, _, _, _⟩ := Ty
      go_wp2_with fail
      clear c0 c1 c2
      clear d0 d1 d2
      clear x0 x1 x2
      clear y0 y1 y2
      refine (I4.out _).mono ?_
      rintro _ w11 ⟨rfl, hb⟩
      replace Qc := Qc.keep hb
      replace Qd := Qd.keep hb
      replace Qx := Qx.keep hb
      replace Qy := Qy.keep hb
      replace Bl := Bl.trans (hb.mono Bl.size)
      clear hb
      have Tc := Qc
      obtain ⟨_, c0, c1, c2, _, _, _⟩ := Tc
      have Td := Qd
      obtain ⟨_, d0, d1, d2, _, _, _⟩ := Td
      have Tx := Qx
      obtain ⟨_, x0, x1, x2, _, _, _⟩ := Tx
      have Ty := Qy
      obtain ⟨_, y0, y1, y2, _, _, _⟩ := Ty
      go_wp2_with fail
      clear c0 c1 c2
      clear d0 d1 d2
      clear x0 x1 x2
      clear y0 y1 y2
      refine (I5.out _).mono ?_
      rintro _ w12 ⟨rfl, hb⟩
      replace Qc := Qc.keep hb
      replace Qd := Qd.keep hb
      replace Qx := Qx.keep hb
      replace Qy := Qy.keep hb
      replace Bl := Bl.trans (hb.mono Bl.size)
      clear hb
      have Tc := Qc
      obtain ⟨_, c0, c1, c2, _, _, _⟩ := Tc
      have Td := Qd
      obtain ⟨_, d0, d1, d2, _, _, _⟩ := Td
      have Tx := Qx
      obtain ⟨_, x0, x1, x2, _, _, _⟩ := Tx
      have Ty := Qy
      obtain ⟨_, y0, y1, y2, _, _, _⟩ := Ty
      go_wp2_with fail
      clear c0 c1 c2
      clear d0 d1 d2
      clear x0 x1 x2
      clear y0 y1 y2
      refine (I6.out _).mono ?_
      rintro _ w13 ⟨rfl, hb⟩
      replace Qc := Qc.keep hb
      replace Qd := Qd.keep hb
      replace Qx := Qx.keep hb
      replace Qy := Qy.keep hb
      replace Bl := Bl.trans (hb.mono Bl.size)
      clear hb
      have Tc := Qc
      obtain ⟨_, c0, c1, c2, _, _, _⟩ := Tc
      have Td := Qd
      obtain ⟨_, d0, d1, d2, _, _, _⟩ := Td
      have Tx := Qx
      obtain ⟨_, x0, x1, x2, _, _, _⟩ := Tx
      have Ty := Qy
      obtain ⟨_, y0, y1, y2, _, _, _⟩ := Ty
      go_wp2_with fail
      clear c0 c1 c2
      clear d0 d1 d2
      clear x0 x1 x2
      clear y0 y1 y2
      refine (I7.out _).mono ?_
      rintro _ w14 ⟨rfl, hb⟩
      replace Qc := Qc.keep hb
      replace Qd := Qd.keep hb
      replace Qx := Qx.keep hb
      replace Qy := Qy.keep hb
      replace Bl := Bl.trans (hb.mono Bl.size)
      clear hb
      have Tc := Qc
      obtain ⟨_, c0, c1, c2, _, _, _⟩ := Tc
      have Td := Qd
      obtain ⟨_, d0, d1, d2, _, _, _⟩ := Td
      have Tx := Qx
      obtain ⟨_, x0, x1, x2, _, _, _⟩ := Tx
      have Ty := Qy
      obtain ⟨_, y0, y1, y2, _, _, _⟩ := Ty
      go_wp2_with fail
      clear c0 c1 c2
      clear d0 d1 d2
      clear x0 x1 x2
      clear y0 y1 y2
      refine (I8.out _).mono ?_
      rintro _ w15 ⟨rfl, hb⟩
      replace Qc := Qc.keep hb
      replace Qd := Qd.keep hb
      replace Qx := Qx.keep hb
      replace Qy := Qy.keep hb
      replace Bl := Bl.trans (hb.mono Bl.size)
      clear hb
      have Tc := Qc
      obtain ⟨_, c0, c1, c2, _, _, _⟩ := Tc
      have Td := Qd
      obtain ⟨_, d0, d1, d2, _, _, _⟩ := Td
      have Tx := Qx
      obtain ⟨_, x0, x1, x2, _, _, _⟩ := Tx
      have Ty := Qy
      obtain ⟨_, y0, y1, y2, _, _, _⟩ := Ty
      go_wp2_with fail
      clear c0 c1 c2
      clear d0 d1 d2
      clear x0 x1 x2
      clear y0 y1 y2
      refine (E1.out _).mono ?_
      rintro _ w16 ⟨rfl, hb⟩
      replace Qc := Qc.keep hb
      replace Qd := Qd.keep hb
      replace Qx := Qx.keep hb
      replace Qy := Qy.keep hb
      replace Bl := Bl.trans (hb.mono Bl.size)
      clear hb
      have HE : Hid ((s == (ab && ba)) = true) := eq
      clear eq
      cases ab with
      | false =>
        have hs : s = false := by have := HE.out; simpa using this
        subst hs
        clear HE
        go_wp2
        go_ret
        exact ⟨rfl, Bl⟩
      | true =>
        go_wp2
        go_ret
        refine ⟨?_, Bl⟩
        have := HE.out
        rw [Bool.true_and] at this
        rw [← this]; rfl
end Go.Proofs.Ytjkmcdgjhfiklaa
