/-
  THE LAW 'FnProgram': its walk and its row.
-/
import Derived.Test.YtjfgihmamoiipaaRows
import Derived.Test.YtjfgihmamoiipaaRunP
import Derived.Test.YtjfgihmamoiipaaOwnI
import Derived.Test.YtjfgihmamoiipaaEnc2
import Derived.Test.YtjfgihmamoiipaaDrawR
namespace Go.Proofs.Ytjfgihmamoiipaa.fnProgram
open Go.ChangeShapes Go.WideShapes Go.ChangeAt Go.RowKit Go.Deep
set_option linter.unusedVariables false

theorem encL_getD (p : List I) (i j : Nat) (hi : i < p.length) (hj : j < 8) : (encL p).getD (i * 8 + j) 0 = (encI (p.getD i I.zero)).getD j 0 := by
  induction p generalizing i with
  | nil => simp at hi
  | cons x p ih =>
    have e : encL (x :: p) = encI x ++ encL p := by simp [encL]
    have hl : (encI x).length = 8 := encI_len x
    rw [e]
    cases i with
    | zero => simp only [List.getD_eq_getElem?_getD, Nat.zero_mul, Nat.zero_add]; rw [List.getElem?_append_left (by omega)]; simp
    | succ i =>
      have := ih i (by simpa using hi)
      rw [List.getD_eq_getElem?_getD, List.getElem?_append_right (by rw [hl]; omega), hl, show (i + 1) * 8 + j - 8 = i * 8 + j by omega, ← List.getD_eq_getElem?_getD, this]
      simp
theorem dec_encI {p : List I} (hok : ∀ x ∈ p, x.ok) (i : Nat) (hi : i < p.length) : decI (encL p) i = p.getD i I.zero := by
  have hx := hok (p.getD i I.zero) (by rw [List.getD_eq_getElem?_getD, List.getElem?_eq_getElem hi]; exact List.getElem_mem hi)
  have g := fun j hj => encL_getD p i j hi hj
  have g0 := g 0 (by omega); have g1 := g 1 (by omega); have g2 := g 2 (by omega); have g3 := g 3 (by omega)
  have g4 := g 4 (by omega); have g5 := g 5 (by omega); have g6 := g 6 (by omega); have g7 := g 7 (by omega)
  rw [Nat.add_zero] at g0
  unfold decI
  rw [g0, g1, g2, g3, g4, g5, g6, g7, encI_eq hx]
  generalize p.getD i I.zero = x at *
  obtain ⟨c, jt, jf, k⟩ := x
  obtain ⟨h1, h2, h3, h4, h5, h6, h7, h8⟩ := hx
  simp only at *
  simp only [List.getD_cons_zero, List.getD_cons_succ]
  congr 1 <;> omega
theorem dec_enc_prog {p : List I} (hok : ∀ x ∈ p, x.ok) (hn : p.length ≤ 4096) : decL (encL p) = p ∧ decC (encL p) = 0 := by
  have hl := encL_len p
  have hb : decBad (encL p) = false := by unfold decBad; simp; omega
  refine ⟨?_, by unfold decC; rw [hb]; rfl⟩
  unfold decL
  rw [hb]
  simp only [Bool.false_eq_true, if_false]
  rw [show (encL p).length / 8 = p.length by omega]
  apply List.ext_getElem?
  intro i
  by_cases hi : i < p.length
  · simp only [decN, List.getElem?_map, List.getElem?_range hi, Option.map_some]
    rw [dec_encI hok i hi, List.getD_eq_getElem?_getD, List.getElem?_eq_getElem hi]
    rfl
  · rw [List.getElem?_eq_none (by rw [decN_len]; omega), List.getElem?_eq_none (by omega)]
theorem encL_ok {p : List I} (hok : ∀ x ∈ p, x.ok) : isBytes (encL p) := by
  intro y hy
  simp only [encL, List.mem_flatMap] at hy
  obtain ⟨x, hx, hy⟩ := hy
  have h := hok x hx
  rw [encI_eq h] at hy
  obtain ⟨h1, h2, h3, h4, h5, h6, h7, h8⟩ := h
  simp only [List.mem_cons, List.not_mem_nil, or_false] at hy
  omega
theorem runT_bd (p : List I) (r : List Int) (h : runC p r = 0) : 1 ≤ runT p r ∧ runT p r ≤ p.length := by
  unfold runC at h
  split at h
  · rename_i hv
    unfold runT
    rw [if_pos hv]
    have hs := run_steps r p.length p startS
    refine ⟨?_, hs.2⟩
    rw [Bool.and_eq_true] at hv
    cases p with
    | nil => exact absurd hv.1 (by decide)
    | cons i t =>
      simp only [List.length_cons, runL]
      split
      · simp
      · have := run_steps r t.length (t.drop (skipN i startS)) (nextS r i startS)
        simp only; omega
  · omega
theorem ownsI_cap {w : World} {B n cap : Nat} {a : Option Addr} {p : List I} (h : ownsI w B (.slice a n cap) p) : n ≤ cap := by
  obtain ⟨_, h | ⟨g', cap', cur, hv, _, _, hn, _⟩⟩ := h
  · simp only [Value.slice.injEq] at h; omega
  · simp only [Value.slice.injEq] at hv; omega
theorem Src.at {w : World} {a : Option Addr} {p : List I} (h : Src w a p) (i : Nat) (hi : i < p.length) : ∃ b o, a = some ⟨b, o, none⟩ ∧ b < w.heap.size ∧ w.cell? ⟨b, o + i * 4, none⟩ = some (.int .u16 (p.getD i I.zero).c) ∧ w.cell? ⟨b, o + i * 4 + 1, none⟩ = some (.int .u8 (p.getD i I.zero).jt) ∧
    w.cell? ⟨b, o + i * 4 + 2, none⟩ = some (.int .u8 (p.getD i I.zero).jf) ∧ w.cell? ⟨b, o + i * 4 + 3, none⟩ = some (.int .u32 (p.getD i I.zero).k) := by
  rcases h with rfl | ⟨b, o, ha, hb, hp⟩
  · simp at hi
  · obtain ⟨c0, c1, c2, c3⟩ := hp i hi
    exact ⟨b, o, ha, hb, c0, c1, c2, c3⟩

set_option maxRecDepth 100000 in
set_option maxHeartbeats 4000000 in
theorem walk_fit (a : Option Addr) (cap : Nat) (l : List Int) (w : World) (hs : BSrc w a l) (hl : isBytes l) (hcap : l.length ≤ cap) (hn : l.length ≤ 1048576) (hp : (runP l).length ≤ 4096) :
    Calls Try.prog 3 #[.slice a l.length cap] w fun e w' => e = .returned (.bool true) ∧ Below w.heap.size w w' := by
  obtain ⟨hok, _⟩ := runP_ok hl
  obtain ⟨hro, hrl⟩ := runRc_ok l
  obtain ⟨hde, hdc⟩ := dec_enc_prog hok hp
  have hel := encL_len (runP l)
  have heo := encL_ok hok
  have HD : Hid (∀ w1, Below w.heap.size w w1 → Calls Try.prog 12 #[.slice a l.length cap] w1 fun e w' => ∃ vp ar cr, e = .returned (.tuple #[vp, .slice ar (runRc l).length cr]) ∧ ownsI w' w1.heap.size vp (runP l) ∧ BSrc w' ar (runRc l) ∧ (runRc l).length ≤ cr ∧ Below w1.heap.size w1 w') :=
    fun w1 hB => drawRun_any a cap l w1 (hs.below hB) hl hcap hn
  have HSV : Hid (∀ a1 c1 w1, Src w1 a1 (runP l) → Calls Try.prog 13 #[.slice a1 (runP l).length c1] w1 fun e w' => e = .returned (pairV (validL (runP l))) ∧ Below w1.heap.size w1 w') := fun a1 c1 w1 h => specValidate_any a1 c1 _ w1 h hok (by omega)
  have HSR : Hid (∀ a1 c1 a2 c2 w1, Src w1 a1 (runP l) → (runP l).length ≤ c1 → BSrc w1 a2 (runRc l) → Calls Try.prog 14 #[.slice a1 (runP l).length c1, .slice a2 (runRc l).length c2] w1 fun e w' => e = .returned (tripV (runR (runP l) (runRc l)) (runT (runP l) (runRc l)) (runC (runP l) (runRc l))) ∧ Below w1.heap.size w1 w') :=
    fun a1 c1 a2 c2 w1 h h1 h2 => specRun_any a1 a2 c1 c2 _ _ w1 h hok (by omega) h1 h2 hro (by omega)
  have HIE : Hid (∀ a1 c1 w1, Src w1 a1 (runP l) → Calls Try.prog 16 #[.slice a1 (runP l).length c1] w1 fun e w' => ∃ v', e = .returned v' ∧ owns w' w1.heap.size v' (encL (runP l)) ∧ Below w1.heap.size w1 w') := fun a1 c1 w1 h => implEncode_any a1 c1 _ w1 h hok (by omega)
  have HID : Hid (∀ B v w1, owns w1 B v (encL (runP l)) → Calls Try.prog 15 #[v] w1 fun e w' => ∃ v', e = .returned (.tuple #[v', .int .i64 0]) ∧ ownsI w' w1.heap.size v' (runP l) ∧ Below w1.heap.size w1 w') := by
    intro B v w1 h
    obtain ⟨a1, c1, rfl, h1⟩ := owns_src h
    refine (implDecode_any a1 c1 _ w1 h1 heo (owns_cap h) (by omega)).mono ?_
    rintro e w' ⟨v', rfl, h2, h3⟩
    rw [hde] at h2
    exact ⟨v', by rw [hdc], h2, h3⟩
  have HIV : Hid (∀ a1 c1 w1, Src w1 a1 (runP l) → Calls Try.prog 17 #[.slice a1 (runP l).length c1] w1 fun e w' => e = .returned (pairV (validL (runP l))) ∧ Below w1.heap.size w1 w') := fun a1 c1 w1 h => implValidate_any a1 c1 _ w1 h hok (by omega)
  have HIR : Hid (∀ a1 c1 a2 c2 w1, Src w1 a1 (runP l) → BSrc w1 a2 (runRc l) → (runRc l).length ≤ c2 → Calls Try.prog 18 #[.slice a1 (runP l).length c1, .slice a2 (runRc l).length c2] w1 fun e w' => e = .returned (tripV (runR (runP l) (runRc l)) (runT (runP l) (runRc l)) (runC (runP l) (runRc l))) ∧ Below w1.heap.size w1 w') :=
    fun a1 c1 a2 c2 w1 h h1 h2 => implRun_any a1 a2 c1 c2 _ _ w1 h hok (by omega) h1 hro (by omega) h2
  have HT : Hid (runC (runP l) (runRc l) = 0 → 1 ≤ runT (runP l) (runRc l) ∧ runT (runP l) (runRc l) ≤ (runP l).length) := fun h => runT_bd _ _ h
  have HC : Hid (runC (runP l) (runRc l) = 0 ∨ runC (runP l) (runRc l) = 1) := by show _ ∨ _; unfold runC; split <;> simp
  clear hs hl hok hro hde hdc hel heo hcap
  generalize runR (runP l) (runRc l) = RR at *
  generalize runT (runP l) (runRc l) = RT at *
  generalize runC (runP l) (runRc l) = RC at *
  generalize encL (runP l) = EL at *
  generalize validL (runP l) = VL at *
  obtain ⟨f1, f2⟩ := VL
  generalize runP l = P at *
  generalize runRc l = Rc at *
  obtain ⟨m, hm⟩ : ∃ m, P.length = m := ⟨_, rfl⟩
  have HM : Hid (P.length = m) := hm
  have HFm : Hid (∀ w1 B v, ownsI w1 B v P → ∃ a1 c1, v = .slice a1 m c1 ∧ m ≤ c1 ∧ Src w1 a1 P) := by
    intro w1 B v h
    obtain ⟨a1, c1, rfl, h1⟩ := ownsI_src h
    have := ownsI_cap h
    rw [hm] at this ⊢
    exact ⟨a1, c1, rfl, this, h1⟩
  rw [hm] at hp HSV HSR HIE HIV HIR HT
  clear hm
  generalize Rc.length = rn at *
  generalize l.length = n at *
  go_enter Try.func3, Try.ntmps3
  go_wp2_with fail
  refine (HD.out _ (Below.refl _ _)).mono ?_
  rintro e w1 ⟨vp, ar, cr, rfl, op, hb1, hcr, B1⟩
  obtain ⟨a1, c1, hv1, hc1, s1⟩ := HFm.out _ _ _ op
  subst hv1
  clear op
  have hp' : (m : Int) ≤ 4096 := by omega
  go_wp2_with fail
  refine (HSV.out a1 c1 w1 s1).mono ?_
  rintro e w2 ⟨rfl, b2⟩
  have B2 := B1.trans (b2.mono B1.size)
  have s2 := s1.below b2
  have hb2 := hb1.below b2
  clear B1 b2 s1 hb1
  go_wp2_with fail
  refine (HSR.out a1 c1 ar cr w2 s2 hc1 hb2).mono ?_
  rintro e w3 ⟨rfl, b3⟩
  have B3 := B2.trans (b3.mono B2.size)
  have s3 := s2.below b3
  clear B2 b3 s2 hb2
  go_wp2_with fail
  refine (HD.out _ B3).mono ?_
  rintro e w4 ⟨vp2, ar2, cr2, rfl, op2, hb4, hcr2, b4⟩
  obtain ⟨a2, c2, hv2, hc2, s4⟩ := HFm.out _ _ _ op2
  subst hv2
  have B4 := B3.trans (b4.mono B3.size)
  have t4 := s3.below b4
  clear B3 b4 s3 op2
  go_wp2_with fail
  refine (HIE.out a2 c2 w4 s4).mono ?_
  rintro e w5 ⟨v5, rfl, o5, b5⟩
  have B5 := B4.trans (b5.mono B4.size)
  have t5 := t4.below b5
  have hb5 := hb4.below b5
  clear B4 b5 s4 t4 hb4
  go_wp2_with fail
  refine (HID.out _ _ w5 o5).mono ?_
  rintro e w6 ⟨v6, rfl, o6, b6⟩
  have B6 := B5.trans (b6.mono B5.size)
  have t6 := t5.below b6
  have hb6 := hb5.below b6
  obtain ⟨a3, c3, hv3, hc3, u6⟩ := HFm.out _ _ _ o6
  subst hv3
  clear B5 b6 t5 hb5 o5 o6 HD HSV HSR HIE HID HFm
  have HX : Hid (∀ w1, Below w6.heap.size w6 w1 → Src w1 a1 P ∧ Src w1 a3 P) := fun w1 hB => ⟨t6.below hB, u6.below hB⟩
  have hs6 := B6.size
  go_wp2_with fail
  go_loopw [14] (fun i wr => ∃ k : Nat, k ≤ m ∧ i = .int .i64 k ∧ Below w6.heap.size w6 wr) (fun i _ => m - (intOf i).toNat)
  case atStart => exact ⟨0, by omega, rfl, Below.refl _ _⟩
  case round =>
    obtain ⟨k, hk, rfl, hB⟩ := hrel
    by_cases hlt : k < m
    · obtain ⟨x1, x2⟩ := HX.out _ hB
      obtain ⟨b1, o1, e1, q1, d0, d1, d2, d3⟩ := Src.at x1 k (by rw [HM.out]; exact hlt)
      obtain ⟨b2, o2, e2, q2, d0', d1', d2', d3'⟩ := Src.at x2 k (by rw [HM.out]; exact hlt)
      subst e1 e2
      clear x1 x2 HX HIV HIR t6 u6 hb6
      generalize P.getD k I.zero = x at *
      obtain ⟨c, jt, jf, kk⟩ := x
      simp only at d0 d1 d2 d3 d0' d1' d2' d3'
      have B7 : ∀ (o1 o2 : Obj), Below w6.heap.size w6 ((wr.alloc o1).alloc o2) := fun o1 o2 => (hB.alloc hB.size o1).alloc (by have := hB.size; simp; omega) o2
      go_wp2
      go_roundw
      case rel => exact ⟨k + 1, by omega, by go_num, B7 _ _⟩
      case measure => simp [intOf]; omega
    · obtain ⟨_, x2⟩ := HX.out _ hB
      have hb7 := hb6.below hB
      have B7 := B6.trans (hB.mono hs6)
      have hB' : Hid (Below w6.heap.size w6 wr) := hB
      clear HX t6 u6 hb6 hB
      go_wp2_with fail
      refine (HIV.out a3 c3 wr x2).mono ?_
      rintro e w8 ⟨rfl, b8⟩
      have B8 := B7.trans (b8.mono B7.size)
      have x3 := x2.below b8
      have hb8 := hb7.below b8
      clear B7 b8 x2 hb7
      go_wp2_with fail
      refine (HIR.out a3 c3 ar2 cr2 w8 x3 hb8 hcr2).mono ?_
      rintro e w9 ⟨rfl, b9⟩
      have B9 := B8.trans (b9.mono B8.size)
      clear B8 b9 x3 hb8 HIV HIR
      rcases HC.out with h0 | h0
      · obtain ⟨t1, t2⟩ := HT.out h0
        subst h0
        clear HT HC
        go_wp2
        go_ret
        exact ⟨rfl, B9⟩
      · subst h0
        clear HT HC
        go_wp2
        go_ret
        exact ⟨rfl, B9⟩

set_option maxRecDepth 100000 in
set_option maxHeartbeats 1000000 in
theorem walk (a : Option Addr) (cap : Nat) (l : List Int) (w : World) (hs : BSrc w a l) (hl : isBytes l) (hcap : l.length ≤ cap) (hm : l.length ≤ maxLen) :
    Calls Try.prog 3 #[.slice a l.length cap] w fun e w' => e = .returned (.bool true) ∧ Below w.heap.size w w' := by
  unfold maxLen at hm
  by_cases hn : l.length ≤ 1048576
  · by_cases hp : (runP l).length ≤ 4096
    · exact walk_fit a cap l w hs hl hcap hn hp
    · have HD : Hid (Calls Try.prog 12 #[.slice a l.length cap] w fun e w' => ∃ vp ar cr, e = .returned (.tuple #[vp, .slice ar (runRc l).length cr]) ∧ ownsI w' w.heap.size vp (runP l) ∧ BSrc w' ar (runRc l) ∧ (runRc l).length ≤ cr ∧ Below w.heap.size w w') := drawRun_any a cap l w hs hl hcap hn
      have hp4 := (runP_ok hl).2
      clear hs hl hcap
      generalize runRc l = Rc at *
      generalize runP l = P at *
      generalize l.length = n at *
      go_enter Try.func3, Try.ntmps3
      go_wp2_with fail
      refine HD.out.mono ?_
      rintro e w1 ⟨vp, ar, cr, rfl, op, _, _, B1⟩
      obtain ⟨a1, c1, rfl, _⟩ := ownsI_src op
      have hlt : (4096 : Int) < (P.length : Int) := by omega
      clear op
      go_wp2
      go_ret
      exact ⟨rfl, B1⟩
  · have hlt : (1048576 : Int) < l.length := by omega
    go_enter Try.func3, Try.ntmps3
    go_wp2
    go_ret
    exact ⟨rfl, Below.refl _ _⟩

set_option maxRecDepth 100000 in
theorem lifted (os : Os) (started : os.Started) (H : Type) (enc : TypeId × Value → H) :
    ReturnsInHanded {} Try.checked os 3 .any (Rows.fnProgramSpec.pre6 enc Try.prog Try.f3 Rows.fnProgramRow.domain false) (Rows.fnProgramSpec.post enc Try.prog Try.f3 false true false false) := by
  refine returnsInHanded_of_change (C := Try.checked) own started (by kernel_rfl) Try.func3
    (ChangeSpec.witness6 (enc := enc) (C := Try.checked) false ⟨#[], #[.slice none 0 0], []⟩ 8 (by kernel_rfl) (by kernel_rfl) (by kernel_rfl) (by kernel_rfl)) ?_
  intro W base args ds gs before hval0 hW hcnd _
  have hval : ∀ (j : Nat) t v, Try.f3.params[j]? = some t → args[j]? = some v → Value.okWide Try.prog W .any base t v := hval0
  have hW' := hW
  obtain ⟨p, q, hA0, hV, rfl, hfz, hnd⟩ := hW
  have hA : DataW.TrodAll enc Try.prog W 0 (fun _ => true) true Try.f3.params.toList args.toList ds p := hA0
  rw [Try.params3] at hA hval
  obtain ⟨v0, vs0, d0, ds0, p0, q0, hargs, rfl, rfl, h0, r0⟩ := trodAll_cons hA
  obtain ⟨rfl, rfl, rfl⟩ := trodAll_nil r0
  obtain rfl : args = #[v0] := by cases args; simp_all
  obtain ⟨rfl, rfl⟩ := trodVars_none hV
  obtain ⟨a0, len0, cap0, rfl⟩ := okWide_slice Try.underlying22 (hval 0 22 v0 rfl rfl)
  have k0 := h0
  have lt0 : ∀ x ∈ p0, x.block < W.heap.size := by obtain ⟨m, hm⟩ := k0; exact DataW.trod_lt m _ _ _ hm
  obtain ⟨pp, hpl, hml, hcp, hsrc, hok⟩ := open_bytes h0
  subst hpl
  clear hA0 hval0
  refine (walk a0 cap0 pp W hsrc hok hcp hml).mono fun e W' ⟨he, bel⟩ => ?_
  subst he
  exact ⟨_, rfl, _, _, _, [], _, [], hW', trodAll_mk1 (shut_bool Try.underlying4 _), (trodAll_cons_mk (Below.trod laidOut (by kernel_rfl) (of_decide_eq_true (by kernel_rfl)) k0 bel lt0) trodAll_mk0), rfl, bel.frame _, fun h => by cases h⟩

theorem proved : Rows.FnProgramSaid :=
  OpenClaim.holds_of_wide 3 Try.f3 rfl rfl rfl rfl rfl rfl rfl ⟨rfl, rfl, rfl, rfl, rfl⟩ rfl rfl rfl rfl rfl (by kernel_rfl) Try.func3 (by kernel_rfl)
    (of_decide_eq_true (by kernel_rfl)) (by unfold Func.isWrapper; first | (rw [if_pos (by decide +kernel)]; kernel_rfl) | (rw [if_neg (by decide +kernel)]; exact ⟨rfl, rfl⟩))
    (fun os started H enc _ => lifted os started H enc)
#print axioms proved
end Go.Proofs.Ytjfgihmamoiipaa.fnProgram
