/-
  CONTRACTS: a frame and a whole log, by the model.
-/
import Derived.Test.YtjfgihmamoiipaaBody
import Derived.Test.YtjfgihmamoiipaaSum
import Derived.Test.YtjfgihmamoiipaaCallS
namespace Go.Proofs.Ytjfgihmamoiipaa
open Go.RowKit
set_option linter.unusedVariables false

theorem frame_eq {M : List Int} (h : M.length ≤ 255) : frameL M = [(M.length : Int)] ++ M ++ littleL (sumL M) 4 := by
  unfold frameL; rw [show M.length % 256 = M.length by omega]

set_option maxRecDepth 100000 in
set_option maxHeartbeats 4000000 in
theorem l2frame_any (Bb : Nat) (vb : Value) (M : List Int) (w : World) (hown : owns w Bb vb M) (hM : isBytes M) (h1 : 1 ≤ M.length) (h2 : M.length ≤ 70) :
    Calls Try.prog 93 #[vb] w fun e w' => ∃ v', e = .returned v' ∧ owns w' w.heap.size v' (frameL M) ∧ Below w.heap.size w w' := by
  obtain ⟨i0, hi, hz0, hz1, hz2⟩ := info_parts info5
  have HF : Hid (frameL M = [(M.length : Int)] ++ M ++ littleL (sumL M) 4) := frame_eq (by omega)
  have HC : Hid (∀ w1, Below w.heap.size w w1 → Calls Try.prog 30 #[vb] w1 fun e w' => e = .returned (.int .u32 (sumL M)) ∧ Below w1.heap.size w1 w') := by
    intro w1 hB
    obtain ⟨a, cap, rfl, hs⟩ := owns_src (owns_below hown hB)
    exact specSum_any a cap M w1 hs hM (by omega)
  obtain ⟨s0, s1⟩ := sumL_ok M
  obtain ⟨g, gc, rfl, hg, hgc⟩ := owns_at hown h1
  have hgl : g < w.heap.size := (hown.lt g (by simp [Value.ownBlock])).2
  have O0 := owns_new w [(M.length : Int)] 1 #[.int .u8 (M.length : Int)] rfl rfl (by simp [maxLen])
  have B0 : Below w.heap.size w (w.alloc (.cells #[.int .u8 (M.length : Int)] 5)) := (Below.refl _ _).alloc (Nat.le_refl _) _
  have hs0 := B0.size
  have hl0 : ([(M.length : Int)] : List Int).length ≤ 1 := Nat.le_refl _
  have hcl : Hid (∀ j u, (M.map (Value.int .u8))[j]? = some u → (w.alloc (.cells #[.int .u8 (M.length : Int)] 5)).cell? ((⟨g, 0, none⟩ : Addr).add j) = some u) := by
    intro j u hj
    rw [add_at, World.cell?_alloc_lt _ _ _ (by simpa using hgl), ← add_at]
    exact hgc j u hj
  generalize sumL M = S at *
  generalize frameL M = F at *
  clear hown hgc hM
  go_enter Try.func93, Try.ntmps93
  go_wp2_with (at_builtin; refine wpList_append_own _ rfl (.tmp 8) (.tmp 9) 22 rfl (w.heap.size) 5 i0 (.int .u8 0) 1 1 Try.underlying22 hi hz0 hz1 hz2 rfl (by decide) _ _ _ rfl O0 ⟨g, 0, none⟩ M.length gc (M.map (Value.int .u8)) rfl ?c0 hcl.out (bytes_oneCell _) ?c3 ?c4 ?c5 ?_)
  case c0 => simp
  case c3 => unfold maxLen; omega
  case c4 => omega
  case c5 => omega
  intro v1 w1 ow gr _
  have B1 : Below w.heap.size w w1 := grown_below0 B0 hs0 O0 gr
  have O1 : owns w1 (w.heap.size) v1 ([(M.length : Int)] ++ M) := owns_app rfl ow
  clear ow gr O0 B0 hcl
  have hs1 := B1.size
  go_wp2_with fail
  refine (HC.out _ B1).mono ?_
  rintro e w2 ⟨rfl, b2⟩
  have B2 := B1.trans (b2.mono hs1)
  have O2 := owns_below O1 b2
  clear b2 O1 B1 hs1
  have hs2 := B2.size
  go_wp2_with fail
  refine (l1little_any S 4 _ s0 (by omega) (by omega)).mono ?_
  rintro e w3 ⟨vl, rfl, ol, b3⟩
  have B3 := B2.trans (b3.mono hs2)
  have O3 := owns_below O2 b3
  have hl4 : 1 ≤ (littleL S 4).length ∧ (littleL S 4).length ≤ 4 := by rw [littleL_len]; omega
  have HF' : Hid (F = [(M.length : Int)] ++ M ++ littleL S 4) := HF
  generalize littleL S 4 = L4 at *
  have hlm : ([(M.length : Int)] ++ M).length ≤ 1 + M.length := by simp; omega
  generalize [(M.length : Int)] ++ M = P at *
  clear b3 O2 B2 hs2 HF
  obtain ⟨g, gc, rfl, hg, hgc⟩ := owns_at ol (by omega)
  have hgc' : Hid _ := hgc
  clear hgc ol
  have hs3 := B3.size
  go_wp2_with (at_builtin; refine wpList_append_own _ rfl (.tmp 11) (.tmp 15) 22 rfl (w.heap.size) 5 i0 (.int .u8 0) 1 1 Try.underlying22 hi hz0 hz1 hz2 rfl (by decide) _ _ _ rfl O3 ⟨g, 0, none⟩ L4.length gc (L4.map (Value.int .u8)) rfl ?c0 hgc'.out (bytes_oneCell _) ?c3 ?c4 ?c5 ?_)
  case c0 => simp
  case c3 => unfold maxLen; omega
  case c4 => omega
  case c5 => omega
  intro v4 w4 ow gr _
  have B4 : Below w.heap.size w w4 := grown_below0 B3 hs3 O3 gr
  have O4 : owns w4 (w.heap.size) v4 (P ++ L4) := owns_app rfl ow
  rw [← HF'.out] at O4
  clear ow gr O3 B3 hgc'
  go_wp2
  go_ret
  exact ⟨_, rfl, O4, B4⟩

def logE (cs : List C) (i : Nat) : List Int := [67, 76, 79, 71, 1] ++ littleL cs.length 2 ++ framesL (cs.take i)
theorem logE_zero (cs : List C) : logE cs 0 = [67, 76, 79, 71, 1] ++ littleL cs.length 2 := by simp [logE, framesL]
theorem logE_succ {cs : List C} {i : Nat} (h : i < cs.length) : logE cs (i + 1) = logE cs i ++ frameL (bodyL (cs.getD i C.zero)) := by
  unfold logE; rw [framesL_take h]; simp
theorem logE_all (cs : List C) : logE cs cs.length = logL cs := by unfold logE logL; rw [List.take_length]
theorem logE_len {cs : List C} (h : ∀ c ∈ cs, c.ok) (h6 : ∀ c ∈ cs, c.args.length = 6) (i : Nat) : (logE cs i).length ≤ 7 + 75 * i := by
  have h1 := framesL_len (cs := cs.take i) (fun c hc => h c (List.mem_of_mem_take hc)) (fun c hc => h6 c (List.mem_of_mem_take hc))
  have h2 : (cs.take i).length ≤ i := by simp; omega
  simp [logE, littleL_len]; omega

set_option maxRecDepth 100000 in
set_option maxHeartbeats 4000000 in
theorem l2log_any (a : Option Addr) (cap : Nat) (cs : List C) (w : World) (hs : CSrc w a cs) (hok : ∀ c ∈ cs, c.ok) (h6 : ∀ c ∈ cs, c.args.length = 6) (hn : cs.length ≤ 1000) :
    Calls Try.prog 63 #[.slice a cs.length cap] w fun e w' => ∃ v', e = .returned v' ∧ owns w' w.heap.size v' (logL cs) ∧ Below w.heap.size w w' := by
  obtain ⟨i0, hi, hz0, hz1, hz2⟩ := info_parts info5
  have HP : Hid (∀ i, i < cs.length → ∃ b o, a = some ⟨b, o, none⟩ ∧ b < w.heap.size ∧ w.cell? ⟨b, o + i * 3, none⟩ = some (.int .u32 (cs.getD i C.zero).arch) ∧ w.cell? ⟨b, o + i * 3 + 1, none⟩ = some (.int .u32 (cs.getD i C.zero).nr) ∧
      ∃ a' cap', w.cell? ⟨b, o + i * 3 + 2, none⟩ = some (.slice a' 6 cap') ∧ USrc w a' (cs.getD i C.zero).args) := by
    intro i hi
    rcases hs with rfl | ⟨b, o, h1, h2, h3⟩
    · simp at hi
    · obtain ⟨c0, c1, a', cap', c2, hu⟩ := h3 i hi
      have hm : cs.getD i C.zero ∈ cs := by rw [List.getD_eq_getElem?_getD, List.getElem?_eq_getElem hi]; exact List.getElem_mem hi
      rw [h6 _ hm] at c2
      exact ⟨b, o, h1, h2, c0, c1, a', cap', c2, hu⟩
  have HQ : Hid (∀ i, i < cs.length → (cs.getD i C.zero).ok ∧ (cs.getD i C.zero).args.length = 6) := by
    intro i hi
    have hm : cs.getD i C.zero ∈ cs := by rw [List.getD_eq_getElem?_getD, List.getElem?_eq_getElem hi]; exact List.getElem_mem hi
    exact ⟨hok _ hm, h6 _ hm⟩
  have HT : Hid (∀ i, i < cs.length → logE cs (i + 1) = logE cs i ++ frameL (bodyL (cs.getD i C.zero))) := fun i hi => logE_succ hi
  have HR : Hid (logL cs = logE cs cs.length) := (logE_all cs).symm
  have HL : Hid (∀ i, (logE cs i).length ≤ 7 + 75 * i) := fun i => logE_len hok h6 i
  have H0 : Hid (logE cs 0 = [67, 76, 79, 71, 1] ++ littleL cs.length 2) := logE_zero cs
  clear hs hok h6
  generalize logL cs = R at *
  generalize logE cs = E at *
  generalize cs.length = n at *
  have O0 := owns_new w [67, 76, 79, 71, 1] 5 #[.int .u8 67, .int .u8 76, .int .u8 79, .int .u8 71, .int .u8 1] rfl rfl (by simp [maxLen])
  have B0 : Below w.heap.size w (w.alloc (.cells #[.int .u8 67, .int .u8 76, .int .u8 79, .int .u8 71, .int .u8 1] 5)) := (Below.refl _ _).alloc (Nat.le_refl _) _
  go_enter Try.func63, Try.ntmps63
  go_wp2_with fail
  generalize w.alloc (.cells #[.int .u8 67, .int .u8 76, .int .u8 79, .int .u8 71, .int .u8 1] 5) = W at *
  refine (l1little_any (n : Int) 2 _ (by omega) (by omega) (by omega)).mono ?_
  rintro e w3 ⟨vl, rfl, ol, b3⟩
  have B3 := B0.trans (b3.mono B0.size)
  have O3 := owns_below O0 b3
  have hl2 : 1 ≤ (littleL (n : Int) 2).length ∧ (littleL (n : Int) 2).length ≤ 2 := by rw [littleL_len]; omega
  generalize littleL (n : Int) 2 = L2 at *
  clear b3 O0 B0
  obtain ⟨g, gc, rfl, hg, hgc⟩ := owns_at ol (by omega)
  have hgc' : Hid _ := hgc
  clear hgc ol
  have hs3 := B3.size
  have h5 : ([67, 76, 79, 71, 1] : List Int).length ≤ 5 := Nat.le_refl _
  go_wp2_with (at_builtin; refine wpList_append_own _ rfl (.tmp 6) (.tmp 10) 22 rfl (w.heap.size) 5 i0 (.int .u8 0) 1 1 Try.underlying22 hi hz0 hz1 hz2 rfl (by decide) _ _ _ rfl O3 ⟨g, 0, none⟩ L2.length gc (L2.map (Value.int .u8)) rfl ?c0 hgc'.out (bytes_oneCell _) ?c3 ?c4 ?c5 ?_)
  case c0 => simp
  case c3 => unfold maxLen; omega
  case c4 => omega
  case c5 => omega
  intro v4 w4 ow gr _
  have B4 : Below w.heap.size w w4 := grown_below0 B3 hs3 O3 gr
  have O4 : owns w4 (w.heap.size) v4 ([67, 76, 79, 71, 1] ++ L2) := owns_app rfl ow
  rw [← H0.out] at O4
  clear ow gr O3 B3 hgc' hs3 H0
  go_wp2_with fail
  go_loopw [3, 4] (fun s i wr => ∃ k : Nat, k ≤ n ∧ i = .int .i64 k ∧ owns wr w.heap.size s (E k) ∧ Below w.heap.size w wr) (fun _ i _ => n - (intOf i).toNat)
  case atStart => exact ⟨0, by omega, rfl, O4, B4⟩
  case round =>
    obtain ⟨k, hk, rfl, O5, B5⟩ := hrel
    clear O4 B4
    by_cases hlt : k < n
    · obtain ⟨b, o, ha, hb, c0, c1, a', cap', c2, hu⟩ := HP.out k hlt
      obtain ⟨q1, q2⟩ := HQ.out k hlt
      have d0 := (B5.cell (p := ⟨b, _, none⟩) hb).trans c0
      have d1 := (B5.cell (p := ⟨b, _, none⟩) hb).trans c1
      have d2 := (B5.cell (p := ⟨b, _, none⟩) hb).trans c2
      have HE := HT.out k hlt
      have HE' : Hid _ := HE
      have hlen := HL.out k
      have hbl := bodyL_len q1
      have hbo := bodyL_ok q1
      have HBd : Hid (∀ w1, Below w.heap.size w w1 → Calls Try.prog 94 #[callV (cs.getD k C.zero) (.slice a' 6 cap')] w1 fun e w' => ∃ v', e = .returned v' ∧ owns w' w1.heap.size v' (bodyL (cs.getD k C.zero)) ∧ Below w1.heap.size w1 w') :=
        fun w1 hB => l2body_six _ a' cap' w1 (hu.below hB) q1 q2
      rw [q2] at hbl
      clear HP HT HL HQ c0 c1 c2 HE q1 q2 hu
      subst ha
      generalize cs.getD k C.zero = c at *
      generalize bodyL c = M at *
      obtain ⟨ar, nr, args⟩ := c
      simp only at *
      have hs5 := B5.size
      go_wp2_with fail
      refine (HBd.out _ B5).mono ?_
      rintro e w6 ⟨vb, rfl, ob, b6⟩
      have B6 := B5.trans (b6.mono hs5)
      have O6 := owns_below O5 b6
      clear b6 O5 B5 hs5 d0 d1 d2 HBd
      have hs6 := B6.size
      go_wp2_with fail
      refine (l2frame_any _ _ M _ ob hbo (by omega) (by omega)).mono ?_
      rintro e w7 ⟨vl, rfl, ol, b7⟩
      have B7 := B6.trans (b7.mono hs6)
      have O7 := owns_below O6 b7
      have hfl : 1 ≤ (frameL M).length ∧ (frameL M).length ≤ 75 := by rw [frameL_len]; omega
      generalize frameL M = F at *
      clear b7 O6 B6 hs6 ob
      obtain ⟨g, gc, rfl, hg, hgc⟩ := owns_at ol (by omega)
      have hgc' : Hid _ := hgc
      clear hgc ol
      have hs7 := B7.size
      go_wp2_with (at_builtin; refine wpList_append_own _ rfl (.tmp 18) (.tmp 24) 22 rfl (w.heap.size) 5 i0 (.int .u8 0) 1 1 Try.underlying22 hi hz0 hz1 hz2 rfl (by decide) _ _ _ rfl O7 ⟨g, 0, none⟩ F.length gc (F.map (Value.int .u8)) rfl ?c0 hgc'.out (bytes_oneCell _) ?c3 ?c4 ?c5 ?_)
      case c0 => simp
      case c3 => unfold maxLen; omega
      case c4 => omega
      case c5 => omega
      intro v8 w8 ow gr _
      have B8 : Below w.heap.size w w8 := grown_below0 B7 hs7 O7 gr
      have O8 : owns w8 (w.heap.size) v8 (E k ++ F) := owns_app rfl ow
      rw [← HE'.out] at O8
      clear ow gr O7 B7 hgc' hs7 HE'
      go_wp2
      go_roundw
      case rel => exact ⟨k + 1, by omega, by go_num, O8, B8⟩
      case measure => simp [intOf]; omega
    · have hkn : k = n := by omega
      subst hkn
      go_wp2
      go_ret
      exact ⟨_, rfl, by rw [HR.out]; exact O5, B5⟩
end Go.Proofs.Ytjfgihmamoiipaa
