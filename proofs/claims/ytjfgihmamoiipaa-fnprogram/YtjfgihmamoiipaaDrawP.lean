/-
  CONTRACT: a drawn valid program.
-/
import Derived.Test.YtjfgihmamoiipaaDrawL
namespace Go.Proofs.Ytjfgihmamoiipaa
open Go.RowKit
set_option linter.unusedVariables false

/-- one of the first four -/
def headI (i : Nat) (k : Int) : I := if i = 1 then ⟨7, 0, 0, k % 16 * 4⟩ else if i = 3 then ⟨2, 0, 0, k % 3⟩ else ⟨32, 0, 0, k % 16 * 4⟩
def progN (l : List Int) (j : Nat) : Nat := 2 + (l.getD j 0 % 30).toNat
/-- where the reader stands ahead of instruction i, and the instruction -/
def pjN (l : List Int) (j n : Nat) : Nat → Nat
  | 0 => j
  | i + 1 => if i < 4 then pjN l j n i + 1 else insDJ l (pjN l j n i)
def piN (l : List Int) (j n i : Nat) : I := if i < 4 then headI i (l.getD (pjN l j n i) 0) else insD l (pjN l j n i) ((n : Int) - i - 1)
def ppN (l : List Int) (j n : Nat) : Nat → List I
  | 0 => []
  | i + 1 => ppN l j n i ++ [piN l j n i]
theorem ppN_len (l : List Int) (j n k : Nat) : (ppN l j n k).length = k := by
  induction k with
  | zero => rfl
  | succ k ih => simp [ppN, ih]
def lastI (k : Int) : I := if k % 4 = 3 then ⟨6, 0, 0, 2147418112⟩ else ⟨22, 0, 0, 0⟩

def progP (l : List Int) (j : Nat) : List I := ppN l (j + 1) (progN l j) (progN l j - 1) ++ [lastI (l.getD (pjN l (j + 1) (progN l j) (progN l j - 1)) 0)]
def progPJ (l : List Int) (j : Nat) : Nat := pjN l (j + 1) (progN l j) (progN l j - 1) + 1

theorem ownI_rd {w w1 : World} {B R : Nat} {v : Value} {p : List I} (h : ownsI w B v p) (hg : w.grownBy w1 (some R)) (hR : R < B) : ownsI w1 B v p :=
  ownsI_kept h hg (fun q hq e => by
    have h1 := ownI_ge h q hq
    have h2 : q = R := by simpa using e
    omega)

set_option maxRecDepth 100000 in
set_option maxHeartbeats 2000000 in
theorem drawProg_any (R cap : Nat) (a : Option Addr) (l : List Int) (j : Nat) (w : World) (hR : Rd w R a cap l j) :
    Calls Try.prog 81 #[.pointer (some ⟨R, 0, none⟩)] w fun e w' => ∃ v', e = .returned v' ∧ ownsI w' w.heap.size v' (progP l j) ∧ Rd w' R a cap l (progPJ l j) ∧ w.grownBy w' (some R) := by
  obtain ⟨i0, hi, hz0, hz1, hz2⟩ := info_parts info36
  have hRw := hR.lt
  have hl := hR.bys
  have hx := isBytes_getD hl j
  have HNx : Hid (∀ q W, Rd W R a cap l q → Calls Try.prog 50 #[.pointer (some ⟨R, 0, none⟩)] W fun e w' => e = .returned (.int .i64 (l.getD q 0)) ∧ Rd w' R a cap l (q + 1) ∧ W.grownBy w' (some R)) := fun q W h => next_any R cap a l q W h
  have HIn : Hid (∀ q i n W, Rd W R a cap l q → i + 1 < n → n ≤ 31 → Calls Try.prog 101 #[.pointer (some ⟨R, 0, none⟩), .int .i64 (i : Nat), .int .i64 (n : Nat)] W fun e w' => e = .returned (insV (insD l q (n - i - 1)).c (insD l q (n - i - 1)).jt (insD l q (n - i - 1)).jf (insD l q (n - i - 1)).k) ∧ Rd w' R a cap l (insDJ l q) ∧ W.grownBy w' (some R)) := fun q i n W h h1 h2 => drawIns_any R cap a l q i n W h h1 h2
  have HP : Hid (progP l j = ppN l (j + 1) (progN l j) (progN l j - 1) ++ [lastI (l.getD (pjN l (j + 1) (progN l j) (progN l j - 1)) 0)]) := rfl
  have HPJ : Hid (progPJ l j = pjN l (j + 1) (progN l j) (progN l j - 1) + 1) := rfl
  have hN : (l.getD j 0 % 30 + 2 = (progN l j : Int)) := by unfold progN; omega
  have hN2 : 2 ≤ progN l j ∧ progN l j ≤ 31 := by unfold progN; omega
  have HL : Hid (∀ n k, (ppN l (j + 1) n k).length = k) := fun n k => ppN_len _ _ _ _
  have H0 : Hid (∀ n, ppN l (j + 1) n 0 = [] ∧ pjN l (j + 1) n 0 = j + 1) := fun n => ⟨rfl, rfl⟩
  have HS : Hid (∀ n k, ppN l (j + 1) n (k + 1) = ppN l (j + 1) n k ++ [piN l (j + 1) n k]) := fun n k => rfl
  have HSJ : Hid (∀ n k, pjN l (j + 1) n (k + 1) = if k < 4 then pjN l (j + 1) n k + 1 else insDJ l (pjN l (j + 1) n k)) := fun n k => rfl
  have HSI : Hid (∀ n k, piN l (j + 1) n k = if k < 4 then headI k (l.getD (pjN l (j + 1) n k) 0) else insD l (pjN l (j + 1) n k) ((n : Int) - k - 1)) := fun n k => rfl
  generalize progP l j = PP at *
  generalize progPJ l j = PJ at *
  generalize progN l j = n at *
  have HN1 := HNx.out j
  generalize l.getD j 0 = x at *
  go_enter Try.func81, Try.ntmps81
  go_wp2_with fail
  refine (HN1 _ hR).mono ?_
  rintro _ w1 ⟨rfl, hR1, hg1⟩
  clear HN1
  have hN' : 2 + x % 30 = (n : Int) := by omega
  go_wp2_with fail
  go_loopw [4, 5] (fun s i wr => ∃ (k : Nat), k ≤ n - 1 ∧ i = .int .i64 k ∧ ownsI wr w.heap.size s (ppN l (j + 1) n k) ∧ Rd wr R a cap l (pjN l (j + 1) n k) ∧ w.grownBy wr (some R)) (fun _ i _ => n - 1 - (intOf i).toNat)
  case atStart => exact ⟨0, by omega, rfl, by rw [(H0.out n).1]; exact World.ownsRow_nil _ _ _ _, by rw [(H0.out n).2]; exact hR1, hg1⟩
  case round =>
    obtain ⟨k, hk, rfl, hown, hRk, hG⟩ := hrel
    clear hR hR1 hg1 hN hN'
    by_cases hlt : k < n - 1
    · have hlen := HL.out n k
      have HS' : Hid (ppN l (j + 1) n (k + 1) = ppN l (j + 1) n k ++ [piN l (j + 1) n k]) := HS.out n k
      have HSJ' : Hid (pjN l (j + 1) n (k + 1) = if k < 4 then pjN l (j + 1) n k + 1 else insDJ l (pjN l (j + 1) n k)) := HSJ.out n k
      have HSI' : Hid (piN l (j + 1) n k = if k < 4 then headI k (l.getD (pjN l (j + 1) n k) 0) else insD l (pjN l (j + 1) n k) ((n : Int) - k - 1)) := HSI.out n k
      clear HS HSJ HSI HL H0 HP HPJ
      have hlt' : (k : Int) < (n : Int) - 1 := by omega
      generalize ppN l (j + 1) n k = q at *
      generalize hq1 : ppN l (j + 1) n (k + 1) = q1 at *
      generalize hj1 : pjN l (j + 1) n (k + 1) = j1 at *
      have Hq1 : Hid _ := hq1
      have Hj1 : Hid _ := hj1
      clear hq1 hj1
      generalize pjN l (j + 1) n k = jk at *
      generalize piN l (j + 1) n k = y at *
      have hwr := hG.size
      by_cases h4 : k < 4
      · have h4' : (k : Int) < 4 := by omega
        have hJ := HSJ'.out
        have hY := HSI'.out
        rw [if_pos h4] at hJ hY
        have hv := isBytes_getD hl jk
        have HNk := HNx.out jk
        generalize l.getD jk 0 = v at *
        have HY : Hid (y = headI k v) := hY
        subst hJ
        clear HSJ' HSI' hY HNx HIn
        go_wp2_with fail
        refine (HNk _ hRk).mono ?_
        rintro _ w2 ⟨rfl, hR2, hg2⟩
        have ho2 := ownI_rd hown hg2 hRw
        have hG2 := rb_trans hG hg2
        have hs2 := hG2.size
        clear HNk hown hRk hG hg2
        by_cases e1 : k = 1
        · have e1' : ((k : Int) == 1) = true := by simp [e1]
          have e3' : ((k : Int) == 3) = false := by simp [e1]
          have hY : y = ⟨7, 0, 0, v % 16 * 4⟩ := by rw [HY.out]; unfold headI; rw [if_pos e1]
          subst hY
          clear HY
          go_wp2_with (at_builtin; refine wpList_append_own _ rfl (.tmp 39) (.tmp 41) 23 rfl w.heap.size 36 i0 _ 4 8 Try.underlying23 hi hz0 hz1 hz2 rfl (by decide) _ _ _ rfl ((ho2.alloc _).alloc _) ⟨w2.heap.size + 1, 0, none⟩ 1 1 (insC ⟨7, 0, 0, v % 16 * 4⟩) rfl rfl ?c1 ?c2 ?c3 ?c4 ?c5 ?_)
          case c1 =>
            intro j u hj
            rw [add_at]
            rw [World.cell?_alloc_at _ _ _ _ (by simp)]
            simpa [insC] using hj
          case c2 => intro u hu; simp [insC] at hu; rcases hu with rfl | rfl | rfl | rfl <;> rfl
          case c3 => unfold maxLen; omega
          case c4 => omega
          case c5 => first | omega | (simp; omega)
          intro v3 w3 hown3 hgrow3 _
          have hG3 := rb_own (rb_alloc (rb_alloc hG2 _) _) hgrow3 (ownI_ge ho2)
          have hR3 := ((hR2.alloc _).alloc _).grown hgrow3 hRw (ownI_ge ho2)
          have ho3 : ownsI w3 w.heap.size v3 q1 := by rw [HS'.out]; exact ownsI_snoc (by omega) hown3
          clear hown3 hgrow3
          go_wp2
          go_roundw
          case rel => exact ⟨k + 1, by omega, by go_num, by rw [Hq1.out]; exact ho3, by rw [Hj1.out]; exact hR3, hG3⟩
          case measure => simp [intOf]; omega
        by_cases e3 : k = 3
        · have e1' : ((k : Int) == 1) = false := by simp [e3]
          have e3' : ((k : Int) == 3) = true := by simp [e3]
          have hY : y = ⟨2, 0, 0, v % 3⟩ := by rw [HY.out]; unfold headI; rw [if_neg e1, if_pos e3]
          subst hY
          clear HY
          go_wp2_with (at_builtin; refine wpList_append_own _ rfl (.tmp 39) (.tmp 41) 23 rfl w.heap.size 36 i0 _ 4 8 Try.underlying23 hi hz0 hz1 hz2 rfl (by decide) _ _ _ rfl ((ho2.alloc _).alloc _) ⟨w2.heap.size + 1, 0, none⟩ 1 1 (insC ⟨2, 0, 0, v % 3⟩) rfl rfl ?c1 ?c2 ?c3 ?c4 ?c5 ?_)
          case c1 =>
            intro j u hj
            rw [add_at]
            rw [World.cell?_alloc_at _ _ _ _ (by simp)]
            simpa [insC] using hj
          case c2 => intro u hu; simp [insC] at hu; rcases hu with rfl | rfl | rfl | rfl <;> rfl
          case c3 => unfold maxLen; omega
          case c4 => omega
          case c5 => first | omega | (simp; omega)
          intro v3 w3 hown3 hgrow3 _
          have hG3 := rb_own (rb_alloc (rb_alloc hG2 _) _) hgrow3 (ownI_ge ho2)
          have hR3 := ((hR2.alloc _).alloc _).grown hgrow3 hRw (ownI_ge ho2)
          have ho3 : ownsI w3 w.heap.size v3 q1 := by rw [HS'.out]; exact ownsI_snoc (by omega) hown3
          clear hown3 hgrow3
          go_wp2
          go_roundw
          case rel => exact ⟨k + 1, by omega, by go_num, by rw [Hq1.out]; exact ho3, by rw [Hj1.out]; exact hR3, hG3⟩
          case measure => simp [intOf]; omega
        · have e1' : ((k : Int) == 1) = false := by simp; omega
          have e3' : ((k : Int) == 3) = false := by simp; omega
          have hY : y = ⟨32, 0, 0, v % 16 * 4⟩ := by rw [HY.out]; unfold headI; rw [if_neg e1, if_neg e3]
          subst hY
          clear HY
          go_wp2_with (at_builtin; refine wpList_append_own _ rfl (.tmp 39) (.tmp 41) 23 rfl w.heap.size 36 i0 _ 4 8 Try.underlying23 hi hz0 hz1 hz2 rfl (by decide) _ _ _ rfl ((ho2.alloc _).alloc _) ⟨w2.heap.size + 1, 0, none⟩ 1 1 (insC ⟨32, 0, 0, v % 16 * 4⟩) rfl rfl ?c1 ?c2 ?c3 ?c4 ?c5 ?_)
          case c1 =>
            intro j u hj
            rw [add_at]
            rw [World.cell?_alloc_at _ _ _ _ (by simp)]
            simpa [insC] using hj
          case c2 => intro u hu; simp [insC] at hu; rcases hu with rfl | rfl | rfl | rfl <;> rfl
          case c3 => unfold maxLen; omega
          case c4 => omega
          case c5 => first | omega | (simp; omega)
          intro v3 w3 hown3 hgrow3 _
          have hG3 := rb_own (rb_alloc (rb_alloc hG2 _) _) hgrow3 (ownI_ge ho2)
          have hR3 := ((hR2.alloc _).alloc _).grown hgrow3 hRw (ownI_ge ho2)
          have ho3 : ownsI w3 w.heap.size v3 q1 := by rw [HS'.out]; exact ownsI_snoc (by omega) hown3
          clear hown3 hgrow3
          go_wp2
          go_roundw
          case rel => exact ⟨k + 1, by omega, by go_num, by rw [Hq1.out]; exact ho3, by rw [Hj1.out]; exact hR3, hG3⟩
          case measure => simp [intOf]; omega
      · have h4' : ¬ (k : Int) < 4 := by omega
        have hJ := HSJ'.out
        have hY := HSI'.out
        rw [if_neg h4] at hJ hY
        have HIk := HIn.out jk k n
        subst hJ
        clear HSJ' HSI' HNx HIn
        rw [← hY] at HIk
        clear hY
        go_wp2_with fail
        refine (HIk _ hRk (by omega) (by omega)).mono ?_
        rintro _ w2 ⟨rfl, hR2, hg2⟩
        have ho2 := ownI_rd hown hg2 hRw
        have hG2 := rb_trans hG hg2
        have hs2 := hG2.size
        clear HIk hown hRk hG hg2
        obtain ⟨yc, yt, yf, yk⟩ := y
        go_wp2_with (at_builtin; refine wpList_append_own _ rfl (.tmp 43) (.tmp 48) 23 rfl w.heap.size 36 i0 _ 4 8 Try.underlying23 hi hz0 hz1 hz2 rfl (by decide) _ _ _ rfl (ho2.alloc _) ⟨w2.heap.size, 0, none⟩ 1 1 (insC ⟨yc, yt, yf, yk⟩) rfl rfl ?c1 ?c2 ?c3 ?c4 ?c5 ?_)
        case c1 =>
          intro j u hj
          rw [add_at]
          rw [World.cell?_alloc_at _ _ _ _ (by simp)]
          simpa [insC] using hj
        case c2 => intro u hu; simp [insC] at hu; rcases hu with rfl | rfl | rfl | rfl <;> rfl
        case c3 => unfold maxLen; omega
        case c4 => omega
        case c5 => first | omega | (simp; omega)
        intro v3 w3 hown3 hgrow3 _
        have hG3 := rb_own (rb_alloc hG2 _) hgrow3 (ownI_ge ho2)
        have hR3 := (hR2.alloc _).grown hgrow3 hRw (ownI_ge ho2)
        have ho3 : ownsI w3 w.heap.size v3 q1 := by rw [HS'.out]; exact ownsI_snoc (by omega) hown3
        clear hown3 hgrow3
        go_wp2
        go_roundw
        case rel => exact ⟨k + 1, by omega, by go_num, by rw [Hq1.out]; exact ho3, by rw [Hj1.out]; exact hR3, hG3⟩
        case measure => simp [intOf]; omega
    · have hkn : k = n - 1 := by omega
      subst hkn
      have hlen := HL.out n (n - 1)
      have HP' := HP.out
      have HPJ' := HPJ.out
      clear HS HSJ HSI HL H0 HP HPJ HIn
      generalize ppN l (j + 1) n (n - 1) = q at *
      generalize pjN l (j + 1) n (n - 1) = jk at *
      have hv := isBytes_getD hl jk
      have HNk := HNx.out jk
      generalize l.getD jk 0 = v at *
      have HPP : Hid (PP = q ++ [lastI v]) := HP'
      subst HPJ'
      clear HP' HNx
      have hRb := hRk.alloc (.cells #[.int .u16 22, .int .u8 0, .int .u8 0, .int .u32 0] 36)
      have hbx := Box.new wr 22 0 0 0
      have hob := hown.alloc (.cells #[.int .u16 22, .int .u8 0, .int .u8 0, .int .u32 0] 36)
      have hGb := rb_alloc hG (.cells #[.int .u16 22, .int .u8 0, .int .u8 0, .int .u32 0] 36)
      have hwr := hG.size
      have hnk : ¬ ((n - 1 : Nat) : Int) < (n : Int) - 1 := by omega
      go_wp2_with fail
      refine (HNk _ hRb).mono ?_
      rintro _ w2 ⟨rfl, hR2, hg2⟩
      have hb2 := hbx.kept hg2 (by simp; omega)
      have ho2 := ownI_rd hob hg2 hRw
      have hG2 := rb_trans hGb hg2
      have hs2 := hG2.size
      have hset : ∀ (W : World) (i : Nat) (u : Value), ownsI W w.heap.size _ q → ownsI (W.setCell ⟨wr.heap.size, i, none⟩ u) w.heap.size _ q := fun W i u h => ownsRow_setCell_other h (fun e => by have := (hown.lt _ e).2; simp at this) u
      have hRr : R < wr.heap.size := hRk.lt
      clear HNk hown hRk hG hg2 hRb hbx hob hGb
      have d0 := hb2.c0
      have d1 := hb2.c1
      have d2 := hb2.c2
      have d3 := hb2.c3
      have f0 := hb2.fz 0
      have f1 := hb2.fz 1
      have f2 := hb2.fz 2
      have f3 := hb2.fz 3
      by_cases e3 : v % 4 = 3
      · have e3' : (v % 4 == 3) = true := by simp [e3]
        have hY : lastI v = ⟨6, 0, 0, 2147418112⟩ := by unfold lastI; rw [if_pos e3]
        go_wp2_with (at_builtin; refine wpList_append_own _ rfl (.tmp 57) (.tmp 59) 23 rfl w.heap.size 36 i0 _ 4 8 Try.underlying23 hi hz0 hz1 hz2 rfl (by decide) _ _ _ rfl ((hset _ _ _ (hset _ _ _ (hset _ _ _ (hset _ _ _ ho2)))).alloc _) ⟨w2.heap.size, 0, none⟩ 1 1 (insC ⟨6, 0, 0, 2147418112⟩) rfl rfl ?c1 ?c2 ?c3 ?c4 ?c5 ?_)
        case c1 =>
          intro j u hj
          rw [add_at]
          rw [World.cell?_alloc_at _ _ _ _ (by simp)]
          simpa [insC] using hj
        case c2 => intro u hu; simp [insC] at hu; rcases hu with rfl | rfl | rfl | rfl <;> rfl
        case c3 => unfold maxLen; omega
        case c4 => omega
        case c5 => first | omega | (simp; omega)
        intro v3 w3 hown3 hgrow3 _
        have hG3 := rb_own (rb_alloc (rb_setN (rb_setN (rb_setN (rb_setN hG2 hwr _ _) hwr _ _) hwr _ _) hwr _ _) _) hgrow3 (ownI_ge ho2)
        have hR3 := (((((hR2.setO _ _ hRr _).setO _ _ hRr _).setO _ _ hRr _).setO _ _ hRr _).alloc _).grown hgrow3 hRw (ownI_ge ho2)
        have ho3 : ownsI w3 w.heap.size v3 PP := by rw [HPP.out, hY]; exact ownsI_snoc (by omega) hown3
        clear hown3 hgrow3
        go_wp2
        go_ret
        exact ⟨_, rfl, ho3, hR3, hG3⟩
      · have e3' : (v % 4 == 3) = false := by simp [e3]
        have hY : lastI v = ⟨22, 0, 0, 0⟩ := by unfold lastI; rw [if_neg e3]
        go_wp2_with (at_builtin; refine wpList_append_own _ rfl (.tmp 57) (.tmp 59) 23 rfl w.heap.size 36 i0 _ 4 8 Try.underlying23 hi hz0 hz1 hz2 rfl (by decide) _ _ _ rfl (ho2.alloc _) ⟨w2.heap.size, 0, none⟩ 1 1 (insC ⟨22, 0, 0, 0⟩) rfl rfl ?c1 ?c2 ?c3 ?c4 ?c5 ?_)
        case c1 =>
          intro j u hj
          rw [add_at]
          rw [World.cell?_alloc_at _ _ _ _ (by simp)]
          simpa [insC] using hj
        case c2 => intro u hu; simp [insC] at hu; rcases hu with rfl | rfl | rfl | rfl <;> rfl
        case c3 => unfold maxLen; omega
        case c4 => omega
        case c5 => first | omega | (simp; omega)
        intro v3 w3 hown3 hgrow3 _
        have hG3 := rb_own (rb_alloc hG2 _) hgrow3 (ownI_ge ho2)
        have hR3 := (hR2.alloc _).grown hgrow3 hRw (ownI_ge ho2)
        have ho3 : ownsI w3 w.heap.size v3 PP := by rw [HPP.out, hY]; exact ownsI_snoc (by omega) hown3
        clear hown3 hgrow3
        go_wp2
        go_ret
        exact ⟨_, rfl, ho3, hR3, hG3⟩
end Go.Proofs.Ytjfgihmamoiipaa
