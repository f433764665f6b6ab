/-
  DlgP, DlgN, DlgQ
-/
import Derived.Test.YtjbbiailhpkdeaaDoorQ10
import Derived.Test.YtjbbiailhpkdeaaDoorQ04
import Derived.Defers
import Derived.Recover
import Derived.Laws.Pointers
namespace Go.Proofs.YtjbbiailhpkdeaaDoor
open Go.RowKit
set_option linter.unusedVariables false

set_option maxRecDepth 100000 in
set_option maxHeartbeats 3000000 in
theorem calls_any (L b o : Nat) (B : List Int) (cap k : Nat) (w : World) (h : LgS w L b o B cap k) (hL : L < w.heap.size) (hbw : b < w.heap.size) (hne : L ≠ b) (hB : isBytes B) (hn : B.length ≤ 1048576) :
    Calls Tryd.prog 31 #[.pointer (some ⟨L, 0, none⟩)] w fun e w' => CallsPost L B w e w' := by
  obtain ⟨i0, hi, hz0, hz1, hz2⟩ := info_parts infoCallD
  have HH : Hid (Calls Tryd.prog 51 #[.pointer (some ⟨L, 0, none⟩)] w fun e w' => Far w w' (fun q => q = L) ∧ ((∃ c a, headR B = some (c, a) ∧ e = Bad c (a : Int)) ∨ (headR B = none ∧ e = .returned (.int .i64 (countR B : Int)) ∧ LgS w' L b o B cap 7))) := head_any L b o B cap k w h hL hbw hne hB hn
  have HBad : Hid (∀ (c : Int) (a : Nat), decLog B = ([], c, a) → ∀ W, Far w W (fun q => q = L) → CallsPost L B w (Bad c (a : Int)) W) := fun c a e W hF => ⟨hF, .inl ⟨c, a, e, rfl⟩⟩
  have HSt : Hid (headR B = none → ∀ W, Far w W (fun q => q = L) → LgS W L b o B cap 7 → ClS w (W.alloc (.cells (madeCells #[.int .u32 0, .int .u32 0, .slice none 0 0] (countR B * 3)) 34)) L b o B cap W.heap.size (countR B) [] 7) := fun e W hF hl => ClS.start hF hl (head_none hB e).1 hL hbw (dec_none0 e).symm
  have HN1 : Hid (headR B = none → countR B ≤ 1000) := fun e => (head_none hB e).2
  have HFr : Hid (∀ W D N cs j, ClS w W L b o B cap D N cs j → cs.length < N → Calls Tryd.prog 52 #[.pointer (some ⟨L, 0, none⟩)] W fun e W1 => (e = e ∧ ∃ (c : Int) (a : Nat), e = Bad c (a : Int) ∧ CallsPost L B w (Bad c (a : Int)) W1) ∨ ∃ ar nr Dc j' c, e = .returned (.agg #[.int .u32 ar, .int .u32 nr, .slice (some ⟨Dc, 0, none⟩) 6 6]) ∧ ∀ x, (∀ t, t < 3 → ((W1.alloc x).cell? ⟨D, cs.length * 3 + t, none⟩).isSome = true ∧ (W1.alloc x).frozen? ⟨D, cs.length * 3 + t, none⟩ = false) ∧ ClS w (((((W1.alloc x).setCell ⟨D, cs.length * 3, none⟩ (.int .u32 ar)).setCell ⟨D, cs.length * 3 + 1, none⟩ (.int .u32 nr)).setCell ⟨D, cs.length * 3 + 2, none⟩ (.slice (some ⟨Dc, 0, none⟩) 6 6))) L b o B cap D N (cs ++ [c]) j') := fun W D N cs j hC hi => by
    have hs := hC.fr.size
    refine (logCall_any L b o B cap j W hC.lg (by omega) (by omega) hne hB hn hC.jn).mono ?_
    rintro e W1 ⟨hF, ⟨c, a, hf, rfl⟩ | ⟨c, j', Dc, hf, hj, rfl, h6, hD, ho, hl⟩⟩
    · refine .inl ⟨rfl, c, a, rfl, HBad.out c a ?_ W1 (hC.fr.trans hF)⟩
      have e : N - cs.length = (N - cs.length - 1) + 1 := by omega
      have := hC.fin
      rw [e, framesR_bad hf] at this
      exact this.symm
    · exact .inr ⟨c.arch, c.nr, Dc, j', c, rfl, fun x => hC.next hL hbw hi hF hf hj hD ho hl x⟩
  have HEnd : Hid (∀ W D N cs j, ClS w W L b o B cap D N cs j → cs.length = N → (j < B.length → CallsPost L B w (Bad 9 (j : Int)) W.drew) ∧ (j = B.length → CallsPost L B w (.returned (.slice (some ⟨D, 0, none⟩) cs.length N)) W.drew) ∧ W.cell? ⟨L, 0, none⟩ = some (.slice (some ⟨b, o, none⟩) B.length cap) ∧ W.cell? ⟨L, 1, none⟩ = some (.int .i64 (j : Int)) ∧ j ≤ B.length) := fun W D N cs j hC hcN => by
    have hf := hC.fin
    rw [hcN, Nat.sub_self, fin_end] at hf
    have hl : (B.drop j).length = B.length - j := by simp
    refine ⟨fun hj => ?_, fun hj => ?_, hC.lg.c0, hC.lg.c1, hC.jn⟩
    · rw [if_neg (fun e => by have := congrArg List.length e; simp at this; omega), hl, show B.length - (B.length - j) = j by omega] at hf
      exact HBad.out 9 j hf.symm _ hC.fr.drew
    · rw [if_pos (by rw [hj]; simp)] at hf
      obtain ⟨vs, hv⟩ := hC.own
      refine ⟨hC.fr.drew, .inr ⟨cs, D, N, vs, hf.symm, rfl, hC.dw, ?_⟩⟩
      exact ⟨hv.row, hv.le, hv.own, hv.inc⟩
  have HDh : Hid (∀ c a, headR B = some (c, a) → decLog B = ([], c, a)) := fun c a e => dec_head e
  have HY : Hid (∀ (c a : Int) w1, Calls Tryd.prog 53 #[.bool true, .int .i64 c, .int .i64 a] w1 fun e w' => e = Bad c a ∧ w' = w1) := fun c a w1 => refuse_yes c a w1
  have HN : Hid (∀ (c a : Int) w1, Calls Tryd.prog 53 #[.bool false, .int .i64 c, .int .i64 a] w1 fun e w' => e = .returned (.tuple #[]) ∧ w' = w1) := fun c a w1 => refuse_no c a w1
  generalize CallsPost L B w = Post at *
  generalize hdl : decLog B = DL at *
  clear hdl
  generalize headR B = HR at *
  generalize countR B = N at *
  clear h hB
  go_enter Tryd.func31, Tryd.ntmps31
  go_wp2_with fail
  refine (HH.out).mono ?_
  rintro e W1 ⟨hF1, ⟨c, a, g, rfl⟩ | ⟨g, rfl, hl1⟩⟩
  · exact ⟨rfl, HBad.out c a (HDh.out c a g) _ hF1⟩
  have hN := HN1.out g
  have hNI : (N : Int) ≤ 1000 := by omega
  have HC0 : Hid (ClS w (W1.alloc (.cells (madeCells #[.int .u32 0, .int .u32 0, .slice none 0 0] (N * 3)) 34)) L b o B cap W1.heap.size N [] 7) := HSt.out g W1 hF1 hl1
  have hmk : ∀ u : World, (Instr.makeSlice 24 (.int .i64 0) (.int .i64 (N : Int))).run Tryd.prog u =
      .ok (.slice (some ⟨u.heap.size, 0, none⟩) 0 N) (u.alloc (.cells (madeCells #[.int .u32 0, .int .u32 0, .slice none 0 0] (N * 3)) 34)) := fun u => by
    have h := run_make (P := Tryd.prog) u 24 34 i0 _ Tryd.underlying24 hi hz0 .i64 .i64 0 (N : Int) (by omega) (by omega) (by rw [hz2]; omega) (by omega)
    simpa [hz1, Value.cells] using h
  clear HH HSt HN1 HDh hF1 hl1
  go_wp2_with fail
  clear hmk
  generalize W1.alloc (.cells (madeCells #[.int .u32 0, .int .u32 0, .slice none 0 0] (N * 3)) 34) = W2 at *
  generalize W1.heap.size = D at *
  go_loopw [4, 10] (fun v i wr => ∃ (cs : List C) (j : Nat), v = .slice (some ⟨D, 0, none⟩) cs.length N ∧ i = .int .i64 (cs.length : Int) ∧ cs.length ≤ N ∧ Hid (ClS w wr L b o B cap D N cs j)) (fun _ i _ => N - (intOf i).toNat)
  case atStart => exact ⟨[], 7, by first | rfl | go_num, by first | rfl | go_num, by simp, HC0⟩
  case round =>
    clear HC0
    obtain ⟨cs, j, rfl, rfl, hcN, HC⟩ := hrel
    rename World => W4
    by_cases hk : cs.length < N
    · have hk' : (cs.length : Int) < (N : Int) := by omega
      have HK : Hid (cs.length < N) := hk
      clear HEnd HBad HY HN
      obtain ⟨ln, hln⟩ : ∃ ln, cs.length = ln := ⟨_, rfl⟩
      have Hln : Hid (cs.length = ln) := hln
      rw [hln] at hk hk' hcN
      rw [hln]
      clear hln
      go_wp2_with fail
      refine (HFr.out W4 D N cs j HC.out HK.out).mono ?_
      clear HFr HC HK
      rintro e W5 (⟨_, c, a, rfl, hP⟩ | ⟨ar, nr, Dc, j', c, rfl, hx⟩)
      · exact ⟨rfl, hP⟩
      rw [Hln.out] at hx
      obtain ⟨hsp, hC2⟩ := hx (.cells #[.int .u32 ar, .int .u32 nr, .slice (some ⟨Dc, 0, none⟩) 6 6] 34)
      have HC3 : Hid (ClS w ((W5.alloc (.cells #[.int .u32 ar, .int .u32 nr, .slice (some ⟨Dc, 0, none⟩) 6 6] 34)).setCells D (ln * 3) [.int .u32 ar, .int .u32 nr, .slice (some ⟨Dc, 0, none⟩) 6 6]) L b o B cap D N (cs ++ [c]) j') := hC2
      have hsp2 : ∀ t, t < 3 → ((W5.alloc (.cells #[.int .u32 ar, .int .u32 nr, .slice (some ⟨Dc, 0, none⟩) 6 6] 34)).cell? ⟨D, 0 + ln * 3 + t, none⟩).isSome = true ∧ (W5.alloc (.cells #[.int .u32 ar, .int .u32 nr, .slice (some ⟨Dc, 0, none⟩) 6 6] 34)).frozen? ⟨D, 0 + ln * 3 + t, none⟩ = false := by
        rw [Nat.zero_add]; exact hsp
      clear hx hC2 hsp
      go_wp2_with (at_builtin; refine wpList_app_room rfl (.tmp 12) (.tmp 15) 24 rfl 34 i0 3 Tryd.underlying24 hi hz1 D 0 ln N rfl ⟨W5.heap.size, 0, none⟩ 1 1 [.int .u32 ar, .int .u32 nr, .slice (some ⟨Dc, 0, none⟩) 6 6] rfl rfl (World.news_of_block (t := 34) (fr := (0, 0)) (heap_alloc_new W5 _)) (by simp [Value.oneCell']) (by omega) hsp2 ?_)
      generalize (W5.alloc (.cells #[.int .u32 ar, .int .u32 nr, .slice (some ⟨Dc, 0, none⟩) 6 6] 34)).setCells D (ln * 3) [.int .u32 ar, .int .u32 nr, .slice (some ⟨Dc, 0, none⟩) 6 6] = W6 at *
      clear hsp2
      go_wp2
      go_roundw
      case rel => exact ⟨cs ++ [c], j', (by rw [List.length_append, Hln.out]; rfl), congrArg (Value.int .i64) (by rw [List.length_append, Hln.out]; rfl), (by rw [List.length_append, Hln.out]; exact hk), HC3⟩
      case measure => simp [intOf]; omega
    · have hkN : cs.length = N := by omega
      obtain ⟨hBadE, hGoodE, c0, c1, hj⟩ := HEnd.out W4 D N cs j HC.out hkN
      rw [hkN] at hGoodE
      rw [hkN]
      clear HFr HEnd HBad HC
      by_cases hjn : j < B.length
      · have HP : Hid (Post (Bad 9 (j : Int)) W4.drew) := hBadE hjn
        have hj' : (j : Int) < (B.length : Int) := by omega
        clear hBadE hGoodE HN
        generalize B.length = n at *
        go_wp2_with fail
        go_region_law (first | (go_simp; go_at_call 53; refine (HY.out _ _ _).mono ?_; rintro _ wf ⟨rfl, hwf⟩; rw [hwf]; dsimp only; refine panic_out _ wf ?_))
        all_goals exact ⟨rfl, HP.out⟩
      · have HP : Hid (Post (.returned (.slice (some ⟨D, 0, none⟩) N N)) W4.drew) := hGoodE (by omega)
        have hj' : decide ((j : Int) < (B.length : Int)) = false := by simp; omega
        clear hBadE hGoodE HY
        generalize B.length = n at *
        have hS : W4.drew.cell? ⟨L, 0, none⟩ = some (.slice (some ⟨b, o, none⟩) n cap) ∧ W4.drew.cell? ⟨L, 1, none⟩ = some (.int .i64 (j : Int)) := ⟨c0, c1⟩
        go_wp2_with fail
        go_region_held3 (fun w' => w'.cell? ⟨L, 0, none⟩ = some (.slice (some ⟨b, o, none⟩) n cap) ∧ w'.cell? ⟨L, 1, none⟩ = some (.int .i64 (j : Int)))
          (assumption)
          (first | (go_at_call 53; refine (HN.out _ _ _).mono ?_; rintro _ w1 ⟨rfl, hw1⟩; rw [hw1]; clear hw1 w1))
        clear hS
        go_wp2
        first | exact HP.out | (go_ret; exact HP.out)
end Go.Proofs.YtjbbiailhpkdeaaDoor
namespace Go.Proofs.YtjbbiailhpkdeaaDoor
open Go.RowKit
set_option linter.unusedVariables false

theorem cell_ltE {w : World} {a : Addr} {v : Value} (h : w.cell? a = some v) : a.block < w.heap.size := by
  rcases Nat.lt_or_ge a.block w.heap.size with h1 | h1
  · exact h1
  · simp [World.cell?, Array.getElem?_eq_none h1] at h
theorem assertF (c a : Int) (w : World) : (Instr.typeAssert (.iface 78 (.agg #[.int .i64 c, .int .i64 a])) 20 51 true).run Tryd.prog w = .ok (.tuple #[.iface 78 (.agg #[.int .i64 c, .int .i64 a]), .bool true]) w := by kernel_rfl
theorem assertN (w : World) : (Instr.typeAssert .nilIface 20 51 true).run Tryd.prog w = .ok (.tuple #[.nilIface, .bool false]) w := by kernel_rfl

set_option maxRecDepth 100000 in
set_option maxHeartbeats 1000000 in
theorem catch_idle (p q : Addr) (w : World) :
    CallsD Tryd.prog 29 #[.pointer (some p), .pointer (some q)] .returning w fun e u' w' => e = .returned (.tuple #[]) ∧ u' = .returning ∧ w' = w := by
  refine callsD_of_wpS Tryd.func29 rfl fun c₀ cs hu => ?_
  apply wpS_seq
  apply wpS_region
  simp [wpOpsS, go_sem, recoverD, hu, Tryd.ntmps29, Exit.thenS, assertN]
  apply wpS_seq
  apply wpS_region
  simp [wpOpsS, go_sem, Exit.thenS]
  refine wpS_cond (t := false) (by simp [Act.eval, Array.replicate]) ?_
  simp only [Bool.false_eq_true, if_false]
  refine wpS_of_wp (wp_skip ?_)
  cases c₀
  simp_all [bodyPostS, results, Tryd.results29]

set_option maxRecDepth 100000 in
set_option maxHeartbeats 1000000 in
theorem catch_fault (p q : Nat) (x y : Value) (c a : Int) (older : List PanicEntry) (w : World) (hg : ErrT w) (hpq : p ≠ q) (hp : w.cell? ⟨p, 0, none⟩ = some x) (hq : w.cell? ⟨q, 0, none⟩ = some y) (fp : w.frozen? ⟨p, 0, none⟩ = false) (fq : w.frozen? ⟨q, 0, none⟩ = false) :
    CallsD Tryd.prog 29 #[.pointer (some ⟨p, 0, none⟩), .pointer (some ⟨q, 0, none⟩)] (.panicking ({ v := .iface 78 (.agg #[.int .i64 c, .int .i64 a]), recovered := false } :: older)) w fun e u' w' =>
      e = .returned (.tuple #[]) ∧ u' = .panicking ({ v := .iface 78 (.agg #[.int .i64 c, .int .i64 a]), recovered := true } :: older) ∧ ∃ W, Below w.heap.size w W ∧ w' = (W.setCell ⟨p, 0, none⟩ (.int .i64 c)).setCell ⟨q, 0, none⟩ (.int .i64 a) := by
  have HR : Hid (Calls Tryd.prog 30 #[.iface 78 (.agg #[.int .i64 c, .int .i64 a])] w fun e w' => e = .returned (.tuple #[.int .i64 c, .int .i64 a]) ∧ Below w.heap.size w w') := reasonOf_any c a w hg
  have hpl : p < w.heap.size := cell_ltE hp
  have hql : q < w.heap.size := cell_ltE hq
  refine callsD_of_wpS Tryd.func29 rfl fun c₀ cs hu => ?_
  apply wpS_seq
  apply wpS_region
  simp [wpOpsS, go_sem, recoverD, hu, Tryd.ntmps29, Exit.thenS, assertF]
  apply wpS_seq
  apply wpS_region
  simp [wpOpsS, go_sem, Exit.thenS]
  refine wpS_cond (t := true) (by simp [Act.eval, Array.replicate]) ?_
  simp only [if_true]
  refine wpS_of_wp ?_
  simp only [Array.replicate_succ, Array.replicate_zero, List.push_toArray, List.nil_append, List.cons_append, List.setIfInBounds_toArray, List.set_cons_succ, List.set_cons_zero, List.append_toArray]
  go_wp2_with fail
  refine (HR.out).mono ?_
  rintro _ w1 ⟨rfl, hb1⟩
  have p1 := (hb1.cell (p := ⟨p, 0, none⟩) hpl).trans hp
  have q1 := (hb1.cell (p := ⟨q, 0, none⟩) hql).trans hq
  have fp1 := (hb1.frozen (p := ⟨p, 0, none⟩) hpl).trans fp
  have fq1 := (hb1.frozen (p := ⟨q, 0, none⟩) hql).trans fq
  have q2 : (w1.setCell ⟨p, 0, none⟩ (.int .i64 c)).cell? ⟨q, 0, none⟩ = some y := by
    have e : (w1.setCell ⟨p, 0, none⟩ (.int .i64 c)).cell? ⟨q, 0, none⟩ = w1.cell? ⟨q, 0, none⟩ := by
      apply World.cell?_setCell_other
      intro e; injection e with e1; exact hpq e1
    rw [e]; exact q1
  have HB1 : Hid (Below w.heap.size w w1) := hb1
  clear HR hb1 hp hq fp fq hg
  go_wp2
  simp [bodyPostS, results, Tryd.results29]
  exact ⟨w1, HB1.out, rfl⟩
end Go.Proofs.YtjbbiailhpkdeaaDoor
namespace Go.Proofs.YtjbbiailhpkdeaaDoor
open Go.RowKit
set_option linter.unusedVariables false

/-- what DecodeLog answers -/
def DecPost (B : List Int) (w : World) (e : Ending) (w' : World) : Prop :=
  ∃ cs code a v, decLog B = (cs, code, a) ∧ e = .returned (.tuple #[v, .int .i64 code, .int .i64 (a : Int)]) ∧ Below w.heap.size w w' ∧ ((cs = [] ∧ v = .slice none 0 0) ∨ ∃ D N vs, v = .slice (some ⟨D, 0, none⟩) cs.length N ∧ w.heap.size ≤ D ∧ OwnC w' D N vs cs)

set_option maxRecDepth 100000 in
set_option maxHeartbeats 2000000 in
theorem implDecodeLog_any (b o : Nat) (B : List Int) (cap : Nat) (w : World) (hs : BytesAt w b o B) (hbw : b < w.heap.size) (hcap : B.length ≤ cap) (hg : ErrT w) (hB : isBytes B) (hn : B.length ≤ 1048576) :
    Calls Tryd.prog 8 #[.slice (some ⟨b, o, none⟩) B.length cap] w fun e w' => DecPost B w e w' := by
  have hmf : ∀ (fn : Fn) (first cap : Array Value) (w : World), (Instr.makeFunc fn first cap).run Tryd.prog w = .ok (.func fn first cap) w := fun _ _ _ _ => rfl
  have HC : Hid (∀ W L, LgS W L b o B cap 0 → L < W.heap.size → b < W.heap.size → L ≠ b → Calls Tryd.prog 31 #[.pointer (some ⟨L, 0, none⟩)] W fun e w' => Far W w' (fun q => q = L) ∧ ((∃ (c : Int) (a : Nat), decLog B = ([], c, a) ∧ e = Bad c (a : Int)) ∨ ∃ cs D N vs, decLog B = (cs, 0, 0) ∧ e = .returned (.slice (some ⟨D, 0, none⟩) cs.length N) ∧ W.heap.size ≤ D ∧ OwnC w' D N vs cs)) := fun W L h1 h2 h3 h4 => calls_any L b o B cap 0 W h1 h2 h3 h4 hB hn
  have e1 : (w.alloc (.cells #[.int .i64 0] 3)).heap.size = w.heap.size + 1 := by simp
  have e2 : ((w.alloc (.cells #[.int .i64 0] 3)).alloc (.cells #[.int .i64 0] 3)).heap.size = w.heap.size + 2 := by simp
  have e3 : (((w.alloc (.cells #[.int .i64 0] 3)).alloc (.cells #[.int .i64 0] 3)).alloc (.cells #[.slice (some ⟨b, o, none⟩) B.length cap, .int .i64 0] 56)).heap.size = w.heap.size + 3 := by simp
  have b1 : Below w.heap.size w (w.alloc (.cells #[.int .i64 0] 3)) := (Below.refl _ _).alloc (Nat.le_refl _) _
  have b2 := (Below.refl (w.alloc (.cells #[.int .i64 0] 3)).heap.size (w.alloc (.cells #[.int .i64 0] 3))).alloc (Nat.le_refl _) (.cells #[.int .i64 0] 3)
  have b3 := (Below.refl ((w.alloc (.cells #[.int .i64 0] 3)).alloc (.cells #[.int .i64 0] 3)).heap.size ((w.alloc (.cells #[.int .i64 0] 3)).alloc (.cells #[.int .i64 0] 3))).alloc (Nat.le_refl _) (.cells #[.slice (some ⟨b, o, none⟩) B.length cap, .int .i64 0] 56)
  have hb03 : Below w.heap.size w (((w.alloc (.cells #[.int .i64 0] 3)).alloc (.cells #[.int .i64 0] 3)).alloc (.cells #[.slice (some ⟨b, o, none⟩) B.length cap, .int .i64 0] 56)) := (b1.trans (b2.mono (by rw [e1]; omega))).trans (b3.mono (by rw [e2]; omega))
  have hp0 : (((w.alloc (.cells #[.int .i64 0] 3)).alloc (.cells #[.int .i64 0] 3)).alloc (.cells #[.slice (some ⟨b, o, none⟩) B.length cap, .int .i64 0] 56)).cell? ⟨w.heap.size, 0, none⟩ = some (.int .i64 0) := cell_blkD (cell_blkD (by simp) (b2.block w.heap.size (by rw [e1]; omega))) (b3.block w.heap.size (by rw [e2]; omega))
  have fp0 : (((w.alloc (.cells #[.int .i64 0] 3)).alloc (.cells #[.int .i64 0] 3)).alloc (.cells #[.slice (some ⟨b, o, none⟩) B.length cap, .int .i64 0] 56)).frozen? ⟨w.heap.size, 0, none⟩ = false := frz_blkD (frz_blkD (by simp) (b2.block w.heap.size (by rw [e1]; omega))) (b3.block w.heap.size (by rw [e2]; omega))
  have hq0' : ((w.alloc (.cells #[.int .i64 0] 3)).alloc (.cells #[.int .i64 0] 3)).cell? ⟨w.heap.size + 1, 0, none⟩ = some (.int .i64 0) := by rw [← e1]; simp
  have fq0' : ((w.alloc (.cells #[.int .i64 0] 3)).alloc (.cells #[.int .i64 0] 3)).frozen? ⟨w.heap.size + 1, 0, none⟩ = false := by rw [← e1]; simp
  have hq0 := cell_blkD hq0' (b3.block (w.heap.size + 1) (by rw [e2]; omega))
  have fq0 := frz_blkD fq0' (b3.block (w.heap.size + 1) (by rw [e2]; omega))
  have HH : (((w.alloc (.cells #[.int .i64 0] 3)).alloc (.cells #[.int .i64 0] 3)).alloc (.cells #[.slice (some ⟨b, o, none⟩) B.length cap, .int .i64 0] 56)).heap[w.heap.size + 2]? = some (.cells #[.slice (some ⟨b, o, none⟩) B.length cap, .int .i64 0] 56) := by
    have h := heap_alloc_new ((w.alloc (.cells #[.int .i64 0] 3)).alloc (.cells #[.int .i64 0] 3)) (.cells #[.slice (some ⟨b, o, none⟩) B.length cap, .int .i64 0] 56)
    rw [e2] at h
    exact h
  have hlg : LgS (((w.alloc (.cells #[.int .i64 0] 3)).alloc (.cells #[.int .i64 0] 3)).alloc (.cells #[.slice (some ⟨b, o, none⟩) B.length cap, .int .i64 0] 56)) (w.heap.size + 2) b o B cap 0 := ⟨by unfold World.cell?; simp only [HH]; rfl, by unfold World.cell?; simp only [HH]; rfl, by unfold World.frozen?; simp only [HH]; simp, hs.blk (hb03.block b hbw), hcap⟩
  have hlt : 0 < w.heap.size := by omega
  have hg0 : ErrT (((w.alloc (.cells #[.int .i64 0] 3)).alloc (.cells #[.int .i64 0] 3)).alloc (.cells #[.slice (some ⟨b, o, none⟩) B.length cap, .int .i64 0] 56)) := (hb03.cell (p := ⟨0, 0, none⟩) hlt).trans hg
  have HC1 : Hid (Calls Tryd.prog 31 #[.pointer (some ⟨w.heap.size + 1 + 1, 0, none⟩)] (((w.alloc (.cells #[.int .i64 0] 3)).alloc (.cells #[.int .i64 0] 3)).alloc (.cells #[.slice (some ⟨b, o, none⟩) B.length cap, .int .i64 0] 56)) fun e w' => Far (((w.alloc (.cells #[.int .i64 0] 3)).alloc (.cells #[.int .i64 0] 3)).alloc (.cells #[.slice (some ⟨b, o, none⟩) B.length cap, .int .i64 0] 56)) w' (fun q => q = w.heap.size + 2) ∧ ((∃ (c : Int) (a : Nat), decLog B = ([], c, a) ∧ e = Bad c (a : Int)) ∨ ∃ cs D N vs, decLog B = (cs, 0, 0) ∧ e = .returned (.slice (some ⟨D, 0, none⟩) cs.length N) ∧ w.heap.size + 3 ≤ D ∧ OwnC w' D N vs cs)) := by
    have := HC.out _ (w.heap.size + 2) hlg (by rw [e3]; omega) (by rw [e3]; omega) (by omega)
    rw [e3] at this
    exact this
  have HK : Hid (∀ W1, Far (((w.alloc (.cells #[.int .i64 0] 3)).alloc (.cells #[.int .i64 0] 3)).alloc (.cells #[.slice (some ⟨b, o, none⟩) B.length cap, .int .i64 0] 56)) W1 (fun q => q = w.heap.size + 2) → W1.cell? ⟨w.heap.size, 0, none⟩ = some (.int .i64 0) ∧ W1.cell? ⟨w.heap.size + 1, 0, none⟩ = some (.int .i64 0) ∧ W1.frozen? ⟨w.heap.size, 0, none⟩ = false ∧ W1.frozen? ⟨w.heap.size + 1, 0, none⟩ = false ∧ ErrT W1 ∧ Below w.heap.size w W1) := fun W1 hF => by
    have k0 := hF.block w.heap.size (by rw [e3]; omega) (fun e => by omega)
    have k1 := hF.block (w.heap.size + 1) (by rw [e3]; omega) (fun e => by omega)
    have kz := hF.block 0 (by rw [e3]; omega) (fun e => by omega)
    exact ⟨cell_blkD hp0 k0, cell_blkD hq0 k1, frz_blkD fp0 k0, frz_blkD fq0 k1, cell_blkD hg0 kz, Far.toBelow hb03 hF (by rw [e3]; omega) (fun q hq => by omega)⟩
  clear HC e1 e2 e3 b1 b2 b3 hb03 hp0 fp0 hq0' fq0' hq0 fq0 HH hlg hg0 hg hs
  go_enter_defers Tryd.func8, Tryd.ntmps8
  go_wp2_with fail
  refine (HC1.out).mono ?_
  rintro e W1 ⟨hF, ⟨c, a, hd, rfl⟩ | ⟨cs, D, N, vs, hd, rfl, hD, hO⟩⟩
  · obtain ⟨p1, q1, fp1, fq1, hg1, hb1⟩ := HK.out W1 hF
    refine leaves_cons (f := 29) (args := #[.pointer (some ⟨w.heap.size, 0, none⟩), .pointer (some ⟨w.heap.size + 1, 0, none⟩)]) (by simp) (by simp [go_sem]) ?_
    refine (catch_fault w.heap.size (w.heap.size + 1) _ _ c (a : Int) [] W1 hg1 (by omega) p1 q1 fp1 fq1).mono ?_
    rintro e u' w'' ⟨rfl, rfl, W, hbW, rfl⟩
    have p2 : W.cell? ⟨w.heap.size, 0, none⟩ = some (.int .i64 0) := (hbW.cell (p := ⟨w.heap.size, 0, none⟩) (cell_ltD p1)).trans p1
    have q2 : W.cell? ⟨w.heap.size + 1, 0, none⟩ = some (.int .i64 0) := (hbW.cell (p := ⟨w.heap.size + 1, 0, none⟩) (cell_ltD q1)).trans q1
    have p3 : ((W.setCell ⟨w.heap.size, 0, none⟩ (.int .i64 c)).setCell ⟨w.heap.size + 1, 0, none⟩ (.int .i64 (a : Int))).cell? ⟨w.heap.size, 0, none⟩ = some (.int .i64 c) := cell_farD (by omega) (World.cell?_setCell_same _ _ _ p2)
    have q3 : ((W.setCell ⟨w.heap.size, 0, none⟩ (.int .i64 c)).setCell ⟨w.heap.size + 1, 0, none⟩ (.int .i64 (a : Int))).cell? ⟨w.heap.size + 1, 0, none⟩ = some (.int .i64 (a : Int)) := World.cell?_setCell_same _ _ _ (cell_farD (by omega) q2)
    have hbl : Below w.heap.size w ((W.setCell ⟨w.heap.size, 0, none⟩ (.int .i64 c)).setCell ⟨w.heap.size + 1, 0, none⟩ (.int .i64 (a : Int))) := ((hb1.trans (hbW.mono hb1.size)).setCell (p := ⟨w.heap.size, 0, none⟩) (Nat.le_refl _) _).setCell (p := ⟨w.heap.size + 1, 0, none⟩) (Nat.le_succ _) _
    have HD : DecPost B w (.returned (.tuple #[.slice none 0 0, .int .i64 c, .int .i64 (a : Int)])) ((W.setCell ⟨w.heap.size, 0, none⟩ (.int .i64 c)).setCell ⟨w.heap.size + 1, 0, none⟩ (.int .i64 (a : Int))) := ⟨[], c, a, .slice none 0 0, hd, rfl, hbl, .inl ⟨rfl, rfl⟩⟩
    generalize (W.setCell ⟨w.heap.size, 0, none⟩ (.int .i64 c)).setCell ⟨w.heap.size + 1, 0, none⟩ (.int .i64 (a : Int)) = WF at *
    simp [Leaves, settle, results, Tryd.results8, go_sem, p3, q3]
    exact HD
  · obtain ⟨p1, q1, fp1, fq1, hg1, hb1⟩ := HK.out W1 hF
    have q2 : (W1.setCell ⟨w.heap.size, 0, none⟩ (.int .i64 0)).cell? ⟨w.heap.size + 1, 0, none⟩ = some (.int .i64 0) := cell_farD (by omega) q1
    have p3 : ((W1.setCell ⟨w.heap.size, 0, none⟩ (.int .i64 0)).setCell ⟨w.heap.size + 1, 0, none⟩ (.int .i64 0)).cell? ⟨w.heap.size, 0, none⟩ = some (.int .i64 0) := cell_farD (by omega) (World.cell?_setCell_same _ _ _ p1)
    have q3 : ((W1.setCell ⟨w.heap.size, 0, none⟩ (.int .i64 0)).setCell ⟨w.heap.size + 1, 0, none⟩ (.int .i64 0)).cell? ⟨w.heap.size + 1, 0, none⟩ = some (.int .i64 0) := World.cell?_setCell_same _ _ _ q2
    have HD : DecPost B w (.returned (.tuple #[.slice (some ⟨D, 0, none⟩) cs.length N, .int .i64 0, .int .i64 0])) ((W1.setCell ⟨w.heap.size, 0, none⟩ (.int .i64 0)).setCell ⟨w.heap.size + 1, 0, none⟩ (.int .i64 0)) := by
      refine ⟨cs, 0, 0, .slice (some ⟨D, 0, none⟩) cs.length N, hd, rfl, (hb1.setCell (p := ⟨w.heap.size, 0, none⟩) (Nat.le_refl _) _).setCell (p := ⟨w.heap.size + 1, 0, none⟩) (Nat.le_succ _) _, .inr ⟨D, N, vs, rfl, by omega, ?_⟩⟩
      refine hO.farD (S := fun q => q = w.heap.size ∨ q = w.heap.size + 1) ⟨rfl, rfl, rfl, by simp [World.setCell], fun q hq hS => ?_⟩ (fun q hq => by omega)
      rw [set_blkD (fun e => hS (.inr e)), set_blkD (fun e => hS (.inl e))]
    have HDh : Hid (DecPost B w (.returned (.tuple #[.slice (some ⟨D, 0, none⟩) cs.length N, .int .i64 0, .int .i64 0])) ((W1.setCell ⟨w.heap.size, 0, none⟩ (.int .i64 0)).setCell ⟨w.heap.size + 1, 0, none⟩ (.int .i64 0))) := HD
    clear HD HC1 HK hF hO
    generalize cs.length = cl at *
    go_wp2
    refine leaves_cons (f := 29) (args := #[.pointer (some ⟨w.heap.size, 0, none⟩), .pointer (some ⟨w.heap.size + 1, 0, none⟩)]) (by simp) (by simp [go_sem]) ?_
    refine (catch_idle ⟨w.heap.size, 0, none⟩ ⟨w.heap.size + 1, 0, none⟩ _).mono ?_
    rintro e u' w'' ⟨rfl, rfl, rfl⟩
    generalize (W1.setCell ⟨w.heap.size, 0, none⟩ (.int .i64 0)).setCell ⟨w.heap.size + 1, 0, none⟩ (.int .i64 0) = WF at *
    simp [Leaves, settle, results, Tryd.results8, go_sem, p3, q3]
    exact HDh.out
end Go.Proofs.YtjbbiailhpkdeaaDoor
