/-
  DrwK
-/
import Derived.Test.YtoamapdfcdefjaaGreatQ09
namespace Go.Proofs.YtoamapdfcdefjaaGreat
open Go.RowKit Go.Deep
set_option linter.unusedVariables false

/-- a policy that is being drawn lies in the box G; the box of the answer lies ahead of it -/
structure DpS (w W : World) (R : Nat) (ad : Option Addr) (cap : Nat) (l : List Int) (j G : Nat) (v : Value) (P : List E) : Prop where
  rd : Rd W R ad cap l j
  gr : w.grownBy W (some R)
  lt : R < w.heap.size
  hb : w.heap.size < G
  hG : G < W.heap.size
  c : W.cell? ⟨G, 0, none⟩ = some v
  f : W.frozen? ⟨G, 0, none⟩ = false
  c0 : W.cell? ⟨w.heap.size, 0, none⟩ = some (.slice none 0 0)
  f0 : W.frozen? ⟨w.heap.size, 0, none⟩ = false
  own : ∃ rv lo hi, PsD W (G + 1) v P rv lo hi
section
variable {w W W1 : World} {R cap j j1 G : Nat} {ad : Option Addr} {l : List Int} {v v1 : Value} {P P1 : List E}
theorem DpS.grow {row : Option Nat} (h : DpS w W R ad cap l j G v P) (hr : Rd W1 R ad cap l j1) (hg : W.grownBy W1 row) (hgr : w.grownBy W1 (some R)) (h1 : some G ≠ row) (h2 : some w.heap.size ≠ row) (ho : ∃ rv lo hi, PsD W1 (G + 1) v P1 rv lo hi) : DpS w W1 R ad cap l j1 G v P1 := by
  have hw : w.heap.size < W.heap.size := Nat.lt_trans h.hb h.hG
  obtain ⟨e1, e2⟩ := cell_grD (o := 0) hg h.hG h1
  obtain ⟨e3, e4⟩ := cell_grD (o := 0) hg hw h2
  exact ⟨hr, hgr, h.lt, h.hb, Nat.lt_of_lt_of_le h.hG hg.size, e1.trans h.c, e2.trans h.f, e3.trans h.c0, e4.trans h.f0, ho⟩
theorem DpS.draw (h : DpS w W R ad cap l j G v P) (hr : Rd W1 R ad cap l j1) (hg : W.grownBy W1 (some R)) : DpS w W1 R ad cap l j1 G v P := by
  have h1 := h.lt
  have h2 := h.hb
  obtain ⟨rv, lo, hi, ho⟩ := h.own
  exact h.grow hr hg (rb_trans h.gr hg) (by simp; omega) (by simp; omega) ⟨rv, lo, hi, ho.kept hg (by omega)⟩
theorem DpS.alloc (h : DpS w W R ad cap l j G v P) (o : Obj) : DpS w (W.alloc o) R ad cap l j G v P := h.draw (h.rd.alloc o) (rb_alloc (World.grownBy.refl _ _) _)
theorem DpS.below (h : DpS w W R ad cap l j G v P) (hb : Below W.heap.size W W1) : DpS w W1 R ad cap l j G v P := h.draw (h.rd.below hb) (rb_below hb)
theorem DpS.push {W9 : World} {v' : Value} {e : E} {gg cp : Nat} {o : Obj} (h : DpS w W R ad cap l j G v P) (hr : Rd W9 R ad cap l j1) (h9 : W.grownBy W9 (some R)) (hv : RsJ W9 W.heap.size W9.heap.size v' e.rules) {rv : Nat → Value} {lo hi : Nat → Nat} (ho : PsD W (G + 1) v P rv lo hi)
    (hown : W1.ownsRow (G + 1) 37 3 (.slice (some ⟨gg, 0, none⟩) (P.length + 1) cp) (P.length + 1) (entCsd P rv ++ entCd e v')) (hg : (W9.alloc o).grownBy W1 v.ownBlock) :
    DpS w (W1.setCell ⟨G, 0, none⟩ (.slice (some ⟨gg, 0, none⟩) (P.length + 1) cp)) R ad cap l j1 G (.slice (some ⟨gg, 0, none⟩) (P.length + 1) cp) (P ++ [e]) := by
  have hge : ∀ k, v.ownBlock = some k → G + 1 ≤ k := fun k hk => (ho.row.lt k hk).1
  have D9 := (h.draw hr h9).alloc o
  have h1 := h.lt
  have h2 := h.hb
  have hw : w.heap.size < (W9.alloc o).heap.size := Nat.lt_trans D9.hb D9.hG
  obtain ⟨e1, e2⟩ := cell_grD (o := 0) hg D9.hG (fun e => by have := hge G e.symm; omega)
  obtain ⟨e3, e4⟩ := cell_grD (o := 0) hg hw (fun e => by have := hge _ e.symm; omega)
  have hs : w.grownBy W1 (some R) := rb_own D9.gr hg (fun k hk => by have := hge k hk; omega)
  have hset := rb_set (World.grownBy.refl W1 (some G)) 0 (.slice (some ⟨gg, 0, none⟩) (P.length + 1) cp)
  have hG1 : G < W1.heap.size := Nat.lt_of_lt_of_le D9.hG hg.size
  obtain ⟨e5, e6⟩ := cell_grD (o := 0) hset (Nat.lt_of_lt_of_le hw hg.size) (by simp; omega : some w.heap.size ≠ some G)
  have hn := ho.next (by have := h.hG; omega) h9 (by omega) hv hown hg
  refine ⟨(D9.rd.grown hg (by omega : R < G + 1) hge).keep (fun k hk => Below.heap_setCell W1 ⟨G, 0, none⟩ _ k (fun e => by simp at e; omega)), rb_own hs hset (fun k hk => by simp at hk; omega), h1, h2, by simpa [World.setCell] using hG1, World.cell?_setCell_same _ _ _ (e1.trans D9.c), ?_, e5.trans (e3.trans D9.c0), e6.trans (e4.trans D9.f0), _, _, _, hn.far (by simp) (fun k hk hs => Below.heap_setCell W1 ⟨G, 0, none⟩ _ k (fun e => by simp at e; omega))⟩
  have hf := e2.trans D9.f
  simpa using hf
theorem PsD.low {w : World} {B B' : Nat} {v : Value} {l : List E} {rv : Nat → Value} {lo hi : Nat → Nat} (h : PsD w B v l rv lo hi) (hB : B' ≤ B) : PsD w B' v l rv lo hi :=
  ⟨row_monoD h.row hB, h.own, fun i hi' => ⟨Nat.le_trans hB (h.lt i hi').1, (h.lt i hi').2⟩, h.inc⟩
theorem DpS.fin (h : DpS w W R ad cap l j G v P) (u : Value) : ∃ rv lo hi, PsD (W.setCell ⟨w.heap.size, 0, none⟩ u) w.heap.size v P rv lo hi ∧ Rd (W.setCell ⟨w.heap.size, 0, none⟩ u) R ad cap l j ∧ w.grownBy (W.setCell ⟨w.heap.size, 0, none⟩ u) (some R) := by
  obtain ⟨rv, lo, hi, ho⟩ := h.own
  have h1 := h.lt
  have h2 := h.hb
  exact ⟨rv, lo, hi, (ho.far (w1 := W.setCell ⟨w.heap.size, 0, none⟩ u) (by simp) (fun k hk hs => Below.heap_setCell W ⟨w.heap.size, 0, none⟩ _ k (fun e => by simp at e; omega))).low (by omega), h.rd.keep (fun k hk => Below.heap_setCell W ⟨w.heap.size, 0, none⟩ _ k (fun e => by simp at e; omega)), rb_own h.gr (rb_set (World.grownBy.refl _ (some w.heap.size)) 0 _) (fun k hk => by simp at hk; omega)⟩
end

set_option maxRecDepth 100000 in
set_option maxHeartbeats 4000000 in
theorem drawPolicy_any (l : List Int) (F : Nat → K × Nat) (hF : KdF l F) (R cap : Nat) (ad : Option Addr) (j : Nat) (w : World) (hR : Rd w R ad cap l j) :
    Calls Tryz.prog 23 #[.pointer (some ⟨R, 0, none⟩)] w fun e w' => ∃ v rv lo hi, e = .returned (.agg #[v]) ∧ PsD w' w.heap.size v (polD l F j).1 rv lo hi ∧ Rd w' R ad cap l (polD l F j).2 ∧ w.grownBy w' (some R) := by
  obtain ⟨i1, hi1, hy0, hy1, hy2⟩ := info_parts infoEntD
  have HN : Hid (∀ t W, Rd W R ad cap l t → Calls Tryz.prog 13 #[.pointer (some ⟨R, 0, none⟩)] W fun e w' => e = .returned (.int .i64 (l.getD t 0)) ∧ Rd w' R ad cap l (t + 1) ∧ W.grownBy w' (some R)) := fun t W h => next_any R cap ad l t W h
  have HB : Hid (∀ t, 0 ≤ l.getD t 0 ∧ l.getD t 0 ≤ 255) := isBytes_getD hR.bys
  have HDr : Hid (∀ t W, Rd W R ad cap l t → Calls Tryz.prog 42 #[.pointer (some ⟨R, 0, none⟩), .int .i64 9] W fun e w' => ∃ g c, e = .returned (.slice (some ⟨g, 0, none⟩) (rulesD l F t).1.length c) ∧ RsJ w' W.heap.size w'.heap.size (.slice (some ⟨g, 0, none⟩) (rulesD l F t).1.length c) (rulesD l F t).1 ∧ Rd w' R ad cap l (rulesD l F t).2 ∧ W.grownBy w' (some R)) := fun t W h => (drawRules_any l F hF R cap ad t W h).mono fun e w' ⟨v, h1, h2⟩ => by
    obtain ⟨vs, cb, gb, ho⟩ := h2.own
    obtain ⟨c, ev, _⟩ := ho.form
    subst ev
    exact ⟨gb, c, h1, ⟨vs, cb, gb, ho, ho.lts.1, ho.lts.2⟩, h2.rd, h2.gr⟩
  have hRw := hR.lt
  have hx0 := HB.out j
  obtain ⟨N, hN⟩ : ∃ N : Nat, (N : Int) = l.getD j 0 % 5 := ⟨(l.getD j 0 % 5).toNat, by omega⟩
  have hN8 : N ≤ 4 := by omega
  obtain ⟨RES, hRES⟩ : ∃ RES, polD l F j = RES := ⟨_, rfl⟩
  have HG0 : Hid (goP l F (N - 0) 0 0 0 [] (j + 1) = RES) := by unfold Hid; rw [← hRES]; unfold polD; rw [show (l.getD j 0 % 5).toNat = N by omega]; rfl
  rw [hRES]
  clear hRES
  have HN0 : Hid (∀ W, Rd W R ad cap l j → Calls Tryz.prog 13 #[.pointer (some ⟨R, 0, none⟩)] W fun e w' => e = .returned (.int .i64 (l.getD j 0)) ∧ Rd w' R ad cap l (j + 1) ∧ W.grownBy w' (some R)) := HN.out j
  generalize l.getD j 0 = x0 at *
  have HNe0 : Hid ((N : Int) = x0 % 5) := hN
  clear hN hF
  have q1 := box_getD w (.slice none 0 0) 25 _ rfl
  have hR0 := hR.alloc (.cells #[.slice none 0 0] 25)
  have e1 : (w.alloc (.cells #[.slice none 0 0] 25)).heap.size = w.heap.size + 1 := by simp
  have g0 : w.grownBy (w.alloc (.cells #[.slice none 0 0] 25)) (some R) := rb_alloc (World.grownBy.refl _ _) _
  go_enter Tryz.func23, Tryz.ntmps23
  go_wp2_with fail
  refine (HN0.out _ hR0).mono ?_
  generalize w.alloc (.cells #[.slice none 0 0] 25) = W0 at *
  rintro _ w1 ⟨rfl, hR1, hg1⟩
  have D0 : DpS w (w1.alloc (.cells #[.slice none 0 0] 25)) R ad cap l (j + 1) w1.heap.size (.slice none 0 0) [] := by
    have hs1 := hg1.size
    rw [e1] at hs1
    have a1 := rb_alloc (World.grownBy.refl w1 (some R)) (.cells #[.slice none 0 0] 25)
    obtain ⟨c1, c2⟩ := cell_grD (g := w.heap.size) (o := 0) hg1 (by omega) (by simp; omega)
    obtain ⟨c3, c4⟩ := cell_grD (g := w.heap.size) (o := 0) a1 (by omega) (by simp; omega)
    exact ⟨hR1.alloc _, rb_trans (rb_trans g0 hg1) a1, hRw, by omega, by simp, by simp, by simp, c3.trans (c1.trans q1.1), c4.trans (c2.trans q1.2), _, _, _, PsD.nil _ _⟩
  clear hR0 hR1 hg1 q1 g0 e1 HN0
  go_upto_region 5 with fail
  rw [← HNe0.out]
  clear HNe0 hx0
  generalize w1.alloc (.cells #[.slice none 0 0] 25) = W1 at *
  generalize w1.heap.size = G at *
  go_wp2_with fail
  go_loopw [5, 6, 7] (fun a n u wr => ∃ (ar nr : Int) (i jj : Nat) (v : Value) (P : List E), a = .int .u32 ar ∧ n = .int .u32 nr ∧ u = .int .i64 (i : Int) ∧ i ≤ N ∧ (0 ≤ ar ∧ ar ≤ 3 * (i : Int)) ∧ (0 ≤ nr ∧ nr ≤ 2 + 4 * (i : Int)) ∧ DpS w wr R ad cap l jj G v P ∧ Hid (P.length ≤ i) ∧ Hid (goP l F (N - i) i ar nr P jj = RES)) (fun _ _ u _ => N - (intOf u).toNat)
  case atStart => exact ⟨0, 0, 0, j + 1, _, [], rfl, rfl, rfl, by omega, by omega, by omega, D0, by unfold Hid; simp, HG0⟩
  case round =>
    obtain ⟨ar, nr, i, jj, v, P, rfl, rfl, rfl, hiN, har, hnr, D, hpl, HG⟩ := hrel
    clear D0 HG0
    by_cases hlt : i < N
    · have hlt' : (i : Int) < (N : Int) := by omega
      obtain ⟨f, hf⟩ : ∃ f, N - i = f + 1 := ⟨N - i - 1, by omega⟩
      have hf2 : N - (i + 1) = f := by omega
      rw [hf] at HG
      have HG1 : Hid ((if l.getD jj 0 > 250 then (P ++ [(⟨archP i ar (l.getD jj 0), nrP i nr (l.getD jj 0), (rulesD l F (jj + 1)).1⟩ : E)], (rulesD l F (jj + 1)).2)
        else goP l F f (i + 1) (archP i ar (l.getD jj 0)) (nrP i nr (l.getD jj 0)) (P ++ [⟨archP i ar (l.getD jj 0), nrP i nr (l.getD jj 0), (rulesD l F (jj + 1)).1⟩]) (rulesD l F (jj + 1)).2) = RES) := HG
      clear HG
      have hx := HB.out jj
      have HN2 : Hid (∀ W, Rd W R ad cap l jj → Calls Tryz.prog 13 #[.pointer (some ⟨R, 0, none⟩)] W fun e w' => e = .returned (.int .i64 (l.getD jj 0)) ∧ Rd w' R ad cap l (jj + 1) ∧ W.grownBy w' (some R)) := HN.out jj
      have HD2 : Hid (∀ W, Rd W R ad cap l (jj + 1) → Calls Tryz.prog 42 #[.pointer (some ⟨R, 0, none⟩), .int .i64 9] W fun e w' => ∃ g c, e = .returned (.slice (some ⟨g, 0, none⟩) (rulesD l F (jj + 1)).1.length c) ∧ RsJ w' W.heap.size w'.heap.size (.slice (some ⟨g, 0, none⟩) (rulesD l F (jj + 1)).1.length c) (rulesD l F (jj + 1)).1 ∧ Rd w' R ad cap l (rulesD l F (jj + 1)).2 ∧ W.grownBy w' (some R)) := HDr.out (jj + 1)
      clear HN HDr
      generalize rulesD l F (jj + 1) = RJ at *
      obtain ⟨rs1, j1⟩ := RJ
      simp only at HG1 HD2
      generalize l.getD jj 0 = x at *
      go_wp2_with fail
      refine (HN2.out _ D.rd).mono ?_
      rintro _ w2 ⟨rfl, hR2, hg2⟩
      have D2 := D.draw hR2 hg2
      clear hR2 hg2 D HN2
      obtain ⟨rv, lo, hi, ho2⟩ := D2.own
      obtain ⟨av, cv, ev, hcv, _⟩ := ho2.form
      subst ev
      have hcs : x % 5 = 0 ∨ (¬ x % 5 = 0 ∧ i = 0) ∨ (¬ x % 5 = 0 ∧ ¬ (i : Int) = 0) := by omega
      have hA3 := archP_ok (i := i) hx har
      have hN3 : ¬ x > 250 → 0 ≤ nrP i nr x ∧ nrP i nr x ≤ 2 + 4 * (i + 1 : Nat) := fun h => nrP_ok (i := i) ⟨hx.1, by omega⟩ hnr
      rcases hcs with hc | ⟨hc, hc2⟩ | ⟨hc, hc2⟩
      case' inl =>
        have ea : archP i ar x = ar + (x % 3 + 1) := by unfold archP; rw [if_pos (.inl hc)]
        have en : ¬ x > 250 → nrP i nr x = x / 3 % 3 := fun h => by unfold nrP; rw [if_neg h, if_pos (.inl hc)]
        have hA3' : Hid _ := hA3
        have hN3' : Hid _ := hN3
        have ea' : Hid _ := ea
        have en' : Hid _ := en
        clear hA3 hN3 ea en
        go_upto_region 13 with fail
        have hA3 := hA3'.out
        have hN3 := hN3'.out
        have en := en'.out
        have ea := ea'.out
        clear ea' en' hA3' hN3'
        rw [← ea]
        generalize x / 3 % 3 = n2 at en ⊢
        generalize archP i ar x = A at hA3 HG1 ⊢
        clear ea
      case' inr.inl =>
        have Hc2 : Hid _ := hc2
        have hcd : ((x % 5 == 0) || ((i : Int) == 0)) = true := by simp; omega
        have ea : archP i ar x = ar + (x % 3 + 1) := by unfold archP; rw [if_pos (.inr hc2)]
        have en : ¬ x > 250 → nrP i nr x = x / 3 % 3 := fun h => by unfold nrP; rw [if_neg h, if_pos (.inr hc2)]
        have hA3' : Hid _ := hA3
        have hN3' : Hid _ := hN3
        have ea' : Hid _ := ea
        have en' : Hid _ := en
        clear hA3 hN3 ea en
        clear hc2
        go_upto_region 13 with fail
        have hA3 := hA3'.out
        have hN3 := hN3'.out
        have en := en'.out
        have ea := ea'.out
        clear ea' en' hA3' hN3'
        rw [← ea]
        generalize x / 3 % 3 = n2 at en ⊢
        generalize archP i ar x = A at hA3 HG1 ⊢
        clear ea
      case' inr.inr =>
        have ea : archP i ar x = ar := by unfold archP; rw [if_neg (by omega)]
        have en : ¬ x > 250 → nrP i nr x = nr + (1 + x / 5 % 4) := fun h => by unfold nrP; rw [if_neg h, if_neg (by omega)]
        have hA3' : Hid _ := hA3
        have hN3' : Hid _ := hN3
        have ea' : Hid _ := ea
        have en' : Hid _ := en
        clear hA3 hN3 ea en
        have hcd : ((x % 5 == 0) || ((i : Int) == 0)) = false := by simp; omega
        go_upto_region 13 with fail
        have hA3 := hA3'.out
        have hN3 := hN3'.out
        have en := en'.out
        have ea := ea'.out
        clear ea' en' hA3' hN3'
        rw [← ea]
        generalize nr + (1 + x / 5 % 4) = n2 at en ⊢
        generalize archP i ar x = A at hA3 HG1 ⊢
        clear ea
      all_goals
        clear hc
        try clear hc2
        try clear hcd
        try clear Hc2
        have hen : x > 250 → nrP i nr x = 4294967295 := fun h => by unfold nrP; rw [if_pos h]
        generalize nrP i nr x = NR at *
        clear har hnr
        rcases Classical.em (x > 250) with h250 | h250
        case' inl =>
          have eN := hen h250
          clear en hen hN3
          subst eN
          have HG2 : Hid ((P ++ [(⟨A, 4294967295, rs1⟩ : E)], j1) = RES) := by have := HG1.out; rw [if_pos h250] at this; exact this
          have h250' : (250 : Int) < x := h250
          clear HG1 h250
          go_upto_region 15 with fail
          generalize hNN : (4294967295 : Int) = NN at HG2 ⊢
          clear hNN
        case' inr =>
          have eN := en (by omega)
          have hN4 := hN3 (by omega)
          clear en hen hN3
          subst eN
          have HG2 : Hid (goP l F f (i + 1) A NR (P ++ [(⟨A, NR, rs1⟩ : E)]) j1 = RES) := by have := HG1.out; rw [if_neg h250] at this; exact this
          have h250' : ¬ (250 : Int) < x := h250
          clear HG1 h250
          go_upto_region 15 with fail
          have Hn4 : Hid _ := hN4
          clear hN4
          generalize hNN : NR = NN at HG2 Hn4 ⊢
          clear hNN
        all_goals
          have hpl' : P.length ≤ 4 := by have := hpl.out; omega
          have Dd := D2.below (Below.refl _ _).drew
          have hod : PsD w2.drew (G + 1) (.slice av P.length cv) P rv lo hi := ho2.far (by simp) (fun k _ _ => rfl)
          have c0 := Dd.c
          have f0 := Dd.f
          have hbm : P.length + 1 ≤ maxLen := by unfold maxLen; omega
          have hbd : (P.length + 1) * 32 ≤ 140737488355328 := by omega
          have hGd := Dd.hG
          go_region_law (first
            | (refine step_append_lies _ (by rfl) _ _ _ (by rfl) (G + 1) 37 i1 _ 3 32 Tryz.underlying23 hi1 hy0 hy1 hy2 rfl (by decide) _ P.length (entCsd P rv) (by rfl) ho8.row ⟨w7.heap.size, 0, none⟩ 1 1 [.int .u32 A, .int .u32 NN, .slice (some ⟨gv, 0, none⟩) rs1.length c7] (by rfl) (by rfl) (World.news_of_block (t := 37) (fr := (0, 0)) (heap_alloc_new w7 _)) (by simp [Value.oneCell']) (by omega) hbm hbd (by have := D8.hG; omega) (w7.heap.size + 1) (by simp) ?_; intro g' cp' w9 ow gr _ _; obtain ⟨b1, b2⟩ := cell_grD (o := 0) gr D8.hG (fun e => by have := (ho8.row.lt G e.symm).1; omega); have b3 := b1.trans D8.c; have b4 := b2.trans D8.f; clear b1 b2)
            | (go_simp; go_at_call 42; refine (HD2.out _ Dd.rd).mono ?_; rintro _ w7 ⟨gv, c7, rfl, hI7, hR7, hg7⟩; have D7 := Dd.draw hR7 hg7; have D8 := D7.below ((Below.refl w7.heap.size w7).alloc (Nat.le_refl _) (.cells #[.int .u32 A, .int .u32 NN, .slice (some ⟨gv, 0, none⟩) rs1.length c7] 37)); have ho8 : PsD (w7.alloc (.cells #[.int .u32 A, .int .u32 NN, .slice (some ⟨gv, 0, none⟩) rs1.length c7] 37)) (G + 1) (.slice av P.length cv) P rv lo hi := (hod.kept hg7 (by have := D2.lt; have := D2.hb; omega)).far (by simp) (fun k _ hk => (rb_alloc (World.grownBy.refl w7 none) _).block k hk (by simp)); have c8 := D8.c; have c9 := D7.c; go_wp2_with fail))
          all_goals
            have D9 := DpS.push (e := ⟨A, NN, rs1⟩) Dd hR7 hg7 hI7 hod ow gr
            clear ow gr D8 D7 D2 Dd hod ho8 ho2 c0 f0 b3 b4 c8 c9 hR7 hg7 hI7 HD2 hbm hbd hGd
            first
              | (have HGf := HG2.out
                 have hend : (250 : Int) < x := h250'
                 clear HG2
                 have c0 := D9.c
                 have z0 := D9.c0
                 have zf := D9.f0
                 have hlt2 := D9.lt
                 have hb2 := D9.hb
                 have HF := D9.fin (.slice (some ⟨g', 0, none⟩) (P.length + 1) cp')
                 have HRs : Hid (RES.1 = P ++ [(⟨A, NN, rs1⟩ : E)] ∧ RES.2 = j1) := by unfold Hid; constructor <;> (rw [← HGf])
                 clear HGf
                 have HF' : Hid _ := HF
                 clear D9 HF
                 go_wp2
                 refine bodyPost_ret (v := .agg #[.slice (some ⟨g', 0, none⟩) (P.length + 1) cp']) (by simp [results, Tryz.results23, go_sem, z0]) rfl ?_
                 obtain ⟨rv', lo', hi', f1, f2, f3⟩ := HF'.out
                 rw [HRs.out.1, HRs.out.2]
                 exact ⟨_, _, _, _, rfl, f1, f2, f3⟩)
              | (have hend : ¬ (250 : Int) < x := by omega
                 have Hl : Hid ((P ++ [(⟨A, NN, rs1⟩ : E)]).length ≤ i + 1) := by have := hpl.out; unfold Hid; simp; omega
                 have HA3 : Hid (0 ≤ A ∧ A ≤ 3 * ((i + 1 : Nat) : Int)) := hA3
                 clear hA3 hpl'
                 go_wp2
                 go_roundw
                 case rel => exact ⟨A, NN, i + 1, j1, _, _, rfl, rfl, by go_num, by omega, HA3.out, Hn4.out, D9, Hl, by unfold Hid; rw [hf2]; exact HG2.out⟩
                 case measure => simp [intOf]; omega)
    · have hin : i = N := by omega
      have HG2 : Hid ((P, jj) = RES) := by have := HG.out; rw [show N - i = 0 by omega] at this; exact this
      have hlt' : ¬ (i : Int) < (N : Int) := by omega
      obtain ⟨rv, lo, hi, ho2⟩ := D.own
      obtain ⟨av, cv, ev, hcv, _⟩ := ho2.form
      subst ev
      clear HG HN HDr ho2
      have HRs : Hid (RES.1 = P ∧ RES.2 = jj) := by unfold Hid; rw [← HG2.out]; exact ⟨rfl, rfl⟩
      have c0 := D.c
      have z0 := D.c0
      have zf := D.f0
      have hlt2 := D.lt
      have hb2 := D.hb
      have HF' : Hid _ := D.fin (.slice av P.length cv)
      clear D HG2 har hnr
      go_wp2
      refine bodyPost_ret (v := .agg #[.slice av P.length cv]) (by simp [results, Tryz.results23, go_sem, z0]) rfl ?_
      obtain ⟨rv', lo', hi', f1, f2, f3⟩ := HF'.out
      rw [HRs.out.1, HRs.out.2]
      first
        | exact ⟨_, _, _, _, rfl, f1, f2, f3⟩
        | exact ⟨_, rfl, ⟨_, _, _, f1⟩, f2, f3⟩
end Go.Proofs.YtoamapdfcdefjaaGreat
