/-
  DrwT, DrwV, DrwW, DrwZ
-/
import Derived.Test.YtoamapdfcdefjaaGreatQ15
import Derived.Test.YtoamapdfcdefjaaGreatQ16
import Derived.Test.YtoamapdfcdefjaaGreatQ17
import Derived.Test.YtoamapdfcdefjaaGreatQ18
import Derived.Test.YtoamapdfcdefjaaGreatQ19
import Derived.Test.YtoamapdfcdefjaaGreatQ14
import Derived.Deep.Cut
namespace Go.Proofs.YtoamapdfcdefjaaGreat
open Go.RowKit Go.Deep
set_option linter.unusedVariables false

theorem spoil_any (P : List E) (hP : ∀ e ∈ P, OkE e) (hl4 : P.length ≤ 4) (hasc : 2 ≤ P.length → befE (P.getD 0 E.zero) (P.getD 1 E.zero) = true) (B R cap : Nat) (ad : Option Addr) (l : List Int) (j : Nat) (v : Value) (rv : Nat → Value) (lo hi : Nat → Nat) (w : World) (hR : Rd w R ad cap l j) (hp : PsD w B v P rv lo hi) (hRB : R < B) (hB : B ≤ w.heap.size) :
    Calls Tryz.prog 24 #[.agg #[v], .pointer (some ⟨R, 0, none⟩)] w fun e w' => ∃ v', e = .returned (.agg #[v']) ∧ PolPost B R ad cap l ((spP l P j, spN P j), spB l P j) w w' v' := by
  have hx := isBytes_getD hR.bys j
  rcases (by omega : l.getD j 0 % 9 = 0 ∨ l.getD j 0 % 9 = 1 ∨ (l.getD j 0 % 9 = 2 ∧ 1 < P.length) ∨ (l.getD j 0 % 9 = 2 ∧ P.length ≤ 1) ∨ l.getD j 0 % 9 = 3 ∨ l.getD j 0 % 9 = 4 ∨ l.getD j 0 % 9 = 5 ∨ 5 < l.getD j 0 % 9) with h | h | h | h | h | h | h | h
  · exact spoil_0 P hP hl4 hasc B R cap ad l j v rv lo hi w hR hp hRB hB h
  · exact spoil_1 P hP hl4 hasc B R cap ad l j v rv lo hi w hR hp hRB hB h
  · exact spoil_2 P hP hl4 hasc B R cap ad l j v rv lo hi w hR hp hRB hB h
  · exact spoil_6 P hP hl4 hasc B R cap ad l j v rv lo hi w hR hp hRB hB h
  · exact spoil_3 P hP hl4 hasc B R cap ad l j v rv lo hi w hR hp hRB hB h
  · exact spoil_4 P hP hl4 hasc B R cap ad l j v rv lo hi w hR hp hRB hB h
  · exact spoil_5 P hP hl4 hasc B R cap ad l j v rv lo hi w hR hp hRB hB h
  · exact spoil_7 P hP hl4 hasc B R cap ad l j v rv lo hi w hR hp hRB hB h
end Go.Proofs.YtoamapdfcdefjaaGreat
namespace Go.Proofs.YtoamapdfcdefjaaGreat
open Go.RowKit Go.Deep
set_option linter.unusedVariables false

/-- what is asked of l3spoil -/
def SpoilC (l : List Int) : Prop := ∀ (P : List E) (hP : ∀ e ∈ P, OkE e) (hl4 : P.length ≤ 4) (hasc : 2 ≤ P.length → befE (P.getD 0 E.zero) (P.getD 1 E.zero) = true) (B R cap : Nat) (ad : Option Addr) (j : Nat) (v : Value) (rv : Nat → Value) (lo hi : Nat → Nat) (w : World) (hR : Rd w R ad cap l j) (hp : PsD w B v P rv lo hi) (hRB : R < B) (hB : B ≤ w.heap.size),
    Calls Tryz.prog 24 #[.agg #[v], .pointer (some ⟨R, 0, none⟩)] w fun e w' => ∃ v', e = .returned (.agg #[v']) ∧ PolPost B R ad cap l ((spP l P j, spN P j), spB l P j) w w' v'

set_option maxRecDepth 100000 in
set_option maxHeartbeats 4000000 in
theorem drawAny_of (l : List Int) (F : Nat → K × Nat) (hF : KdF l F) (hSp : SpoilC l) (R cap : Nat) (ad : Option Addr) (j : Nat) (w : World) (hR : Rd w R ad cap l j) :
    Calls Tryz.prog 11 #[.pointer (some ⟨R, 0, none⟩)] w fun e w' => ∃ v, e = .returned (.agg #[v]) ∧ PolPost w.heap.size R ad cap l ((anyD l F j, anyJ l F j), anyB l F j) w w' v := by
  have HB : Hid (∀ t, 0 ≤ l.getD t 0 ∧ l.getD t 0 ≤ 255) := isBytes_getD hR.bys
  have HN : Hid (∀ t W, Rd W R ad cap l t → Calls Tryz.prog 13 #[.pointer (some ⟨R, 0, none⟩)] W fun e w' => e = .returned (.int .i64 (l.getD t 0)) ∧ Rd w' R ad cap l (t + 1) ∧ W.grownBy w' (some R)) := fun t W h => next_any R cap ad l t W h
  have HPo : Hid (∀ W, Rd W R ad cap l (j + 1) → Calls Tryz.prog 23 #[.pointer (some ⟨R, 0, none⟩)] W fun e w' => ∃ v rv lo hi, e = .returned (.agg #[v]) ∧ PsD w' W.heap.size v (polD l F (j + 1)).1 rv lo hi ∧ Rd w' R ad cap l (polD l F (j + 1)).2 ∧ W.grownBy w' (some R)) := fun W h => drawPolicy_any l F hF R cap ad (j + 1) W h
  have hRw := hR.lt
  have hx := HB.out j
  have hy := HB.out (j + 1)
  obtain ⟨RES, hRES⟩ : ∃ RES, anyD l F j = RES := ⟨_, rfl⟩
  obtain ⟨RJ, hRJ⟩ : ∃ RJ, anyJ l F j = RJ := ⟨_, rfl⟩
  obtain ⟨RB, hRB⟩ : ∃ RB, anyB l F j = RB := ⟨_, rfl⟩
  have HJ0 : Hid (l.getD j 0 % 60 < 2 → RJ = j + 2 ∧ RB = false) := fun h => by rw [← hRJ, ← hRB, anyJ, anyB, if_pos h, if_pos h]; exact ⟨rfl, rfl⟩
  have HJ2 : Hid (1 < l.getD j 0 % 60 → l.getD j 0 % 60 < 10 → RJ = spN (polD l F (j + 1)).1 (polD l F (j + 1)).2 ∧ RB = spB l (polD l F (j + 1)).1 (polD l F (j + 1)).2) := fun h h' => by rw [← hRJ, ← hRB, anyJ, anyB, if_neg (by omega), if_pos h', if_neg (by omega), if_pos h']; exact ⟨rfl, rfl⟩
  have HJ3 : Hid (¬ l.getD j 0 % 60 < 10 → RJ = (polD l F (j + 1)).2 ∧ RB = false) := fun h' => by rw [← hRJ, ← hRB, anyJ, anyB, if_neg (by omega), if_neg h', if_neg (by omega), if_neg h']; exact ⟨rfl, rfl⟩
  have HR0 : Hid (l.getD j 0 % 60 = 0 → RES = wideP 5 (200 + (l.getD (j + 1) 0 % 2).toNat)) := fun h => by rw [← hRES, anyD, if_pos h]
  have HR1 : Hid (l.getD j 0 % 60 = 1 → RES = wideP (249 + (l.getD (j + 1) 0 % 3).toNat) 4) := fun h => by rw [← hRES, anyD, if_neg (by omega), if_pos h]
  have HR2 : Hid (1 < l.getD j 0 % 60 → l.getD j 0 % 60 < 10 → RES = spP l (polD l F (j + 1)).1 (polD l F (j + 1)).2) := fun h h' => by rw [← hRES, anyD, if_neg (by omega), if_neg (by omega), if_pos h']
  have HR3 : Hid (¬ l.getD j 0 % 60 < 10 → RES = (polD l F (j + 1)).1) := fun h' => by rw [← hRES, anyD, if_neg (by omega), if_neg (by omega), if_neg h']
  have hok := polD_ok hR.bys hF (j + 1)
  have hasc := polD_asc hR.bys F (j + 1)
  rw [hRES, hRJ, hRB]
  clear hRES hRJ hRB
  have HSp : Hid (∀ B v rv lo hi W, Rd W R ad cap l (polD l F (j + 1)).2 → PsD W B v (polD l F (j + 1)).1 rv lo hi → R < B → B ≤ W.heap.size → Calls Tryz.prog 24 #[.agg #[v], .pointer (some ⟨R, 0, none⟩)] W fun e w' => ∃ v', e = .returned (.agg #[v']) ∧ PolPost B R ad cap l ((spP l (polD l F (j + 1)).1 (polD l F (j + 1)).2, spN (polD l F (j + 1)).1 (polD l F (j + 1)).2), spB l (polD l F (j + 1)).1 (polD l F (j + 1)).2) W w' v') := fun B v rv lo hi W h1 h2 h3 h4 => hSp _ hok.1 hok.2 hasc B R cap ad _ v rv lo hi W h1 h2 h3 h4
  clear hok hasc hSp hF
  have HN0 : Hid (∀ W, Rd W R ad cap l j → Calls Tryz.prog 13 #[.pointer (some ⟨R, 0, none⟩)] W fun e w' => e = .returned (.int .i64 (l.getD j 0)) ∧ Rd w' R ad cap l (j + 1) ∧ W.grownBy w' (some R)) := HN.out j
  have HN1 : Hid (∀ W, Rd W R ad cap l (j + 1) → Calls Tryz.prog 13 #[.pointer (some ⟨R, 0, none⟩)] W fun e w' => e = .returned (.int .i64 (l.getD (j + 1) 0)) ∧ Rd w' R ad cap l (j + 2) ∧ W.grownBy w' (some R)) := HN.out (j + 1)
  clear HN HB
  generalize polD l F (j + 1) = PP at *
  generalize l.getD j 0 = x at *
  generalize l.getD (j + 1) 0 = y at *
  have hR0 := hR.alloc (.cells #[.slice none 0 0] 25)
  have g0 : w.grownBy (w.alloc (.cells #[.slice none 0 0] 25)) (some R) := rb_alloc (World.grownBy.refl _ _) _
  have q0 := box_getD w (.slice none 0 0) 25 _ rfl
  have e0 : w.heap.size < (w.alloc (.cells #[.slice none 0 0] 25)).heap.size := by simp
  go_enter Tryz.func11, Tryz.ntmps11
  go_wp2_with fail
  refine (HN0.out _ hR0).mono ?_
  generalize w.alloc (.cells #[.slice none 0 0] 25) = W0 at *
  rintro _ w1 ⟨rfl, hR1, hg1⟩
  have g1 := rb_trans g0 hg1
  have e1 := Nat.lt_of_lt_of_le e0 hg1.size
  obtain ⟨a1, a2⟩ := cell_grD (g := w.heap.size) (o := 0) hg1 e0 (by simp; omega)
  have q1 := a1.trans q0.1
  have f1 := a2.trans q0.2
  clear hR0 hg1 g0 q0 e0 a1 a2 HN0 hR
  go_upto_region 2 with fail
  have hk : x % 60 = 0 ∨ x % 60 = 1 ∨ (1 < x % 60 ∧ x % 60 < 10) ∨ 10 ≤ x % 60 := by omega
  generalize x % 60 = kk at *
  rcases hk with rfl | rfl | hk | hk
  · have eR := HR0.out rfl
    have eJ := HJ0.out (by omega)
    obtain ⟨d, hd⟩ : ∃ d : Nat, (d : Int) = y % 2 := ⟨(y % 2).toNat, by omega⟩
    have hdn : (y % 2).toNat = d := by omega
    rw [hdn] at eR
    have hd2 : d < 2 := by omega
    have HW : Hid (∀ W, Calls Tryz.prog 22 #[.int .i64 5, .int .i64 (200 + (d : Int))] W fun e w' => ∃ v rv lo hi, e = .returned (.agg #[v]) ∧ PsD w' W.heap.size v RES rv lo hi ∧ Below W.heap.size W w') := fun W => by
      have := wide_any 5 (200 + d) (by omega) (by omega) (by omega) W
      rw [eR]
      simpa using this
    have Hd : Hid _ := hd
    have HeJ : Hid _ := eJ
    clear HR0 HR1 HR2 HR3 HSp HPo hd hdn eR eJ HJ0 HJ2 HJ3
    go_wp2_with fail
    refine (HN1.out _ hR1).mono ?_
    rintro _ w2 ⟨rfl, hR2, hg2⟩
    obtain ⟨a1, a2⟩ := cell_grD (g := w.heap.size) (o := 0) hg2 e1 (by simp; omega)
    have q2 := a1.trans q1
    have f2 := a2.trans f1
    have g2 := rb_trans g1 hg2
    have e2 := Nat.lt_of_lt_of_le e1 hg2.size
    clear hg2 q1 f1 g1 e1 hR1 HN1 a1 a2
    go_upto_region 4 with fail
    rw [← Hd.out]
    go_wp2_with fail
    refine (HW.out _).mono ?_
    rintro _ w3 ⟨v, rv, lo, hi, rfl, hp3, b3⟩
    obtain ⟨av, cv, ev, _⟩ := hp3.form
    subst ev
    have q3 := (b3.cell (p := ⟨w.heap.size, 0, none⟩) e2).trans q2
    have f3 := (b3.frozen (p := ⟨w.heap.size, 0, none⟩) e2).trans f2
    have HF : Hid (PolPost w.heap.size R ad cap l ((RES, RJ), RB) w (w3.setCell ⟨w.heap.size, 0, none⟩ (.slice av RES.length cv)) (.slice av RES.length cv)) := by
      unfold Hid
      rw [HeJ.out.1, HeJ.out.2]
      exact pol_of_psd hp3 e2 (hR2.below b3) (rb_trans g2 (rb_below b3)) hRw
    clear hp3 b3 q2 f2 hR2 g2
    go_wp2
    exact bodyPost_ret (v := .agg #[.slice av RES.length cv]) (by simp [results, Tryz.results11, go_sem, q3]) rfl ⟨_, rfl, HF.out⟩
  · have eR := HR1.out rfl
    have eJ := HJ0.out (by omega)
    obtain ⟨d, hd⟩ : ∃ d : Nat, (d : Int) = y % 3 := ⟨(y % 3).toNat, by omega⟩
    have hdn : (y % 3).toNat = d := by omega
    rw [hdn] at eR
    have hd2 : d < 3 := by omega
    have HW : Hid (∀ W, Calls Tryz.prog 22 #[.int .i64 (249 + (d : Int)), .int .i64 4] W fun e w' => ∃ v rv lo hi, e = .returned (.agg #[v]) ∧ PsD w' W.heap.size v RES rv lo hi ∧ Below W.heap.size W w') := fun W => by
      have := wide_any (249 + d) 4 (by omega) (by omega) (by omega) W
      rw [eR]
      simpa using this
    have Hd : Hid _ := hd
    have HeJ : Hid _ := eJ
    clear HR0 HR1 HR2 HR3 HSp HPo hd hdn eR eJ HJ0 HJ2 HJ3
    go_wp2_with fail
    refine (HN1.out _ hR1).mono ?_
    rintro _ w2 ⟨rfl, hR2, hg2⟩
    obtain ⟨a1, a2⟩ := cell_grD (g := w.heap.size) (o := 0) hg2 e1 (by simp; omega)
    have q2 := a1.trans q1
    have f2 := a2.trans f1
    have g2 := rb_trans g1 hg2
    have e2 := Nat.lt_of_lt_of_le e1 hg2.size
    clear hg2 q1 f1 g1 e1 hR1 HN1 a1 a2
    go_upto_region 7 with fail
    rw [← Hd.out]
    go_wp2_with fail
    refine (HW.out _).mono ?_
    rintro _ w3 ⟨v, rv, lo, hi, rfl, hp3, b3⟩
    obtain ⟨av, cv, ev, _⟩ := hp3.form
    subst ev
    have q3 := (b3.cell (p := ⟨w.heap.size, 0, none⟩) e2).trans q2
    have f3 := (b3.frozen (p := ⟨w.heap.size, 0, none⟩) e2).trans f2
    have HF : Hid (PolPost w.heap.size R ad cap l ((RES, RJ), RB) w (w3.setCell ⟨w.heap.size, 0, none⟩ (.slice av RES.length cv)) (.slice av RES.length cv)) := by
      unfold Hid
      rw [HeJ.out.1, HeJ.out.2]
      exact pol_of_psd hp3 e2 (hR2.below b3) (rb_trans g2 (rb_below b3)) hRw
    clear hp3 b3 q2 f2 hR2 g2
    go_wp2
    exact bodyPost_ret (v := .agg #[.slice av RES.length cv]) (by simp [results, Tryz.results11, go_sem, q3]) rfl ⟨_, rfl, HF.out⟩
  all_goals
    have hk0 : ¬ kk = 0 := by omega
    have hk1 : ¬ kk = 1 := by omega
    go_wp2_with fail
    refine (HPo.out _ hR1).mono ?_
    rintro _ w2 ⟨v, rv, lo, hi, rfl, hp2, hR2, hg2⟩
    obtain ⟨av, cv, ev, _⟩ := hp2.form
    subst ev
    obtain ⟨a1, a2⟩ := cell_grD (g := w.heap.size) (o := 0) hg2 e1 (by simp; omega)
    have q2 := a1.trans q1
    have f2 := a2.trans f1
    have g2 := rb_trans g1 hg2
    have e2 := Nat.lt_of_lt_of_le e1 hg2.size
    have b3 : Below w2.heap.size w2 (w2.alloc (.cells #[.slice av PP.1.length cv] 25)) := (Below.refl _ _).alloc (Nat.le_refl _) _
    have hp3 := hp2.far b3.size (fun k _ hk => b3.block k hk)
    have q3 := (b3.cell (p := ⟨w.heap.size, 0, none⟩) e2).trans q2
    have f3 := (b3.frozen (p := ⟨w.heap.size, 0, none⟩) e2).trans f2
    have x3 := box1 w2 25 (.slice av PP.1.length cv)
    have g3 := rb_trans g2 (rb_below b3)
    have hR3 := hR2.below b3
    have hs3 : w1.heap.size ≤ (w2.alloc (.cells #[.slice av PP.1.length cv] 25)).heap.size := Nat.le_trans hg2.size b3.size
    have e3 := Nat.lt_of_lt_of_le e2 b3.size
    clear hg2 q1 f1 g1 hR1 HN1 a1 a2 hp2 b3 q2 f2 g2 hR2
  · have eR := HR2.out hk.1 hk.2
    have eJ := HJ2.out hk.1 hk.2
    have hk10 := hk.2
    clear HR0 HR1 HR2 HR3 HPo HJ0 HJ2 HJ3
    go_upto_region 10 with fail
    generalize (w2.alloc (.cells #[.slice av PP.1.length cv] 25)) = W3 at *
    go_wp2_with fail
    refine (HSp.out _ _ _ _ _ _ hR3 hp3 (by omega) hs3).mono ?_
    rintro _ w4 ⟨v', rfl, h4⟩
    obtain ⟨a4, n4, c4, e4⟩ := h4.form
    subst e4
    have hf := h4.fr
    have q4 := (World.cell?_of_block (a := ⟨w.heap.size, 0, none⟩) (hf.block w.heap.size e1 (by omega))).trans q3
    have f4 := (World.frozen?_of_block (a := ⟨w.heap.size, 0, none⟩) (hf.block w.heap.size e1 (by omega))).trans f3
    have HF : Hid (PolPost w.heap.size R ad cap l ((RES, RJ), RB) w (w4.setCell ⟨w.heap.size, 0, none⟩ (.slice a4 n4 c4)) (.slice a4 n4 c4)) := by
      unfold Hid
      rw [eR, eJ.1, eJ.2]
      exact pol_of_pol h4 e1 hs3 g3 hRw
    clear h4 hf q3 f3 HSp hp3 hR3 g3 x3 eR eJ
    go_wp2
    exact bodyPost_ret (v := .agg #[.slice a4 n4 c4]) (by simp [results, Tryz.results11, go_sem, q4]) rfl ⟨_, rfl, HF.out⟩
  · have hk10 : ¬ kk < 10 := by omega
    have eR := HR3.out (by omega)
    have eJ := HJ3.out (by omega)
    clear HR0 HR1 HR2 HR3 HPo HSp HJ0 HJ2 HJ3
    have HF : Hid (PolPost w.heap.size R ad cap l ((RES, RJ), RB) w ((w2.alloc (.cells #[.slice av PP.1.length cv] 25)).setCell ⟨w.heap.size, 0, none⟩ (.slice av PP.1.length cv)) (.slice av PP.1.length cv)) := by
      unfold Hid
      rw [eR, eJ.1, eJ.2]
      exact pol_of_psd hp3 e1 hR3 g3 hRw
    clear hp3 hR3 g3 eR eJ
    go_upto_region 11 with fail
    generalize (w2.alloc (.cells #[.slice av PP.1.length cv] 25)) = W3 at *
    go_wp2
    exact bodyPost_ret (v := .agg #[.slice av PP.1.length cv]) (by simp [results, Tryz.results11, go_sem, q3]) rfl ⟨_, rfl, HF.out⟩
end Go.Proofs.YtoamapdfcdefjaaGreat
namespace Go.Proofs.YtoamapdfcdefjaaGreat
open Go.RowKit Go.Deep
set_option linter.unusedVariables false

theorem spoilC (l : List Int) : SpoilC l := fun P hP hl4 hasc B R cap ad j v rv lo hi w hR hp hRB hB => spoil_any P hP hl4 hasc B R cap ad l j v rv lo hi w hR hp hRB hB
theorem drawAny_any (l : List Int) (F : Nat → K × Nat) (hF : KdF l F) (R cap : Nat) (ad : Option Addr) (j : Nat) (w : World) (hR : Rd w R ad cap l j) :
    Calls Tryz.prog 11 #[.pointer (some ⟨R, 0, none⟩)] w fun e w' => ∃ v, e = .returned (.agg #[v]) ∧ PolPost w.heap.size R ad cap l ((anyD l F j, anyJ l F j), anyB l F j) w w' v := drawAny_of l F hF (spoilC l) R cap ad j w hR
/-- what can be read of a drawn policy, valid or not -/
theorem PolPost.read {B R cap : Nat} {ad : Option Addr} {l : List Int} {D : (List E × Nat) × Bool} {w w' : World} {v : Value} (h : PolPost B R ad cap l D w w' v) : ∃ P a c, v = .slice a P.length c ∧ P.length ≤ c ∧ LSrcG B 3 (PEB B) w' a P ∧ ((D.2 = true ∧ okP P ∧ validP P = false ∧ BdP P) ∨ (D.2 = false ∧ P = D.1.1 ∧ Rd w' R ad cap l D.1.2 ∧ ∃ g gb cb, PsC w' v D.1.1 g gb cb ∧ GeB B D.1.1 g gb cb)) := by
  rcases h.or with ⟨hD, P, a, c, h1, h2, h3, h4, h5, h6⟩ | ⟨hD, hr2, g, gb, cb, pc, ge⟩
  · exact ⟨P, a, c, h1, h2, h6, .inl ⟨hD, h3, h4, h5⟩⟩
  · obtain ⟨a, c, h1, h2, h3⟩ := pc.srcB ge
    exact ⟨D.1.1, a, c, h1, h2, h3, .inr ⟨hD, rfl, hr2, g, gb, cb, pc, ge⟩⟩
end Go.Proofs.YtoamapdfcdefjaaGreat
namespace Go.Proofs.YtoamapdfcdefjaaGreat
open Go.RowKit Go.Deep
set_option linter.unusedVariables false

theorem wideE_go {m i : Nat} (hm : m ≤ 201) (hi : i ≤ 251) : GoE (wideE m i) := by
  have hlen : (wideE m i).rules.length = m := by simp [wideE]
  refine ⟨⟨⟨by show (0 : Int) ≤ 5; decide, by show (5 : Int) ≤ 4294967295; decide⟩, ⟨by show (0 : Int) ≤ (i : Int) * 2; omega, by show (i : Int) * 2 ≤ 4294967295; omega⟩, fun r hr c hc => ?_⟩, by omega, fun r hr => ?_⟩
  · obtain ⟨t, ht, rfl⟩ := List.mem_map.1 hr
    have ht' := List.mem_range.1 ht
    simp only [wideR, List.mem_cons, List.not_mem_nil, or_false] at hc
    rcases hc with rfl | rfl | rfl | rfl | rfl | rfl
    all_goals exact ⟨⟨by simp [ptK, zeroK], by simp [ptK, zeroK]⟩, by simp [ptK, zeroK] <;> omega, by simp [ptK, zeroK] <;> omega⟩
  · obtain ⟨t, ht, rfl⟩ := List.mem_map.1 hr
    simp [wideR]
theorem wideP_go {n m : Nat} (hm : m ≤ 201) (hn : n ≤ 251) : (∀ e ∈ wideP n m, GoE e) ∧ (wideP n m).length ≤ 300 := by
  refine ⟨fun e he => ?_, by simp [wideP]; omega⟩
  obtain ⟨i, hi, rfl⟩ := List.mem_map.1 he
  exact wideE_go hm (by have := List.mem_range.1 hi; omega)
theorem anyD_go {l : List Int} (hl : isBytes l) {F : Nat → K × Nat} (hF : KdF l F) (j : Nat) : (∀ e ∈ anyD l F j, GoE e) ∧ (anyD l F j).length ≤ 300 := by
  have hb := isBytes_getD hl j
  have hb1 := isBytes_getD hl (j + 1)
  have hp := polD_ok hl hF (j + 1)
  have hg : ∀ e ∈ (polD l F (j + 1)).1, GoE e := fun e he => goE_of (hp.1 e he)
  unfold anyD
  split
  · exact wideP_go (by omega) (by omega)
  · split
    · exact wideP_go (by omega) (by omega)
    · split
      · unfold spP
        split
        · exact ⟨hg, by have := hp.2; omega⟩
        · rename_i hne
          generalize (polD l F (j + 1)).1 = P at *
          generalize (polD l F (j + 1)).2 = j2 at *
          have hpos : 0 < P.length := List.length_pos_iff.2 hne
          have hi : spI l P j2 < P.length := by
            unfold spI
            have := Int.emod_lt_of_pos (l.getD (j2 + 1) 0) (show (0 : Int) < (P.length : Int) by omega)
            have := Int.emod_nonneg (l.getD (j2 + 1) 0) (show (P.length : Int) ≠ 0 by omega)
            omega
          have hE := hg _ (getD_mem (d := E.zero) hi)
          have hOk := hp.1 _ (getD_mem (d := E.zero) hi)
          have hs : spJ l P j2 < (rulesAt P (spI l P j2)).length := by
            have h0 : 0 < (rulesAt P (spI l P j2)).length := hOk.2.2.1
            unfold spJ
            have := Int.emod_lt_of_pos (l.getD (j2 + 2) 0) (show (0 : Int) < ((rulesAt P (spI l P j2)).length : Int) by omega)
            have := Int.emod_nonneg (l.getD (j2 + 2) 0) (show ((rulesAt P (spI l P j2)).length : Int) ≠ 0 by omega)
            omega
          have hR : ruleAt P (spI l P j2) (spJ l P j2) ∈ rulesAt P (spI l P j2) := getD_mem hs
          refine ⟨set_all hg (goE_put hE (set_all hE.1.2.2 (set_all (hE.1.2.2 _ hR) (spK_ok (okR_at (hE.1.2.2 _ hR) _) _))) (by rw [List.length_set]; exact hE.2.1) (set_all hE.2.2 (by rw [List.length_set]; exact hE.2.2 _ hR))), by show (List.set _ _ _).length ≤ 300; rw [List.length_set]; have := hp.2; omega⟩
      · exact ⟨hg, by have := hp.2; omega⟩
end Go.Proofs.YtoamapdfcdefjaaGreat
