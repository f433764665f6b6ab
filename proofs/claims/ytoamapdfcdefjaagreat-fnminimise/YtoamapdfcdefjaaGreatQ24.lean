/-
  MnW
-/
import Derived.Test.YtoamapdfcdefjaaGreatQ23
namespace Go.Proofs.YtoamapdfcdefjaaGreat.fnMinimise
open Go.RowKit Go.Deep
set_option linter.unusedVariables false

set_option maxRecDepth 100000 in
set_option maxHeartbeats 16000000 in
theorem walk0 (a0 : Option Addr) (ll cap n : Nat) (D out : List E) (X : C) (V : Bool) (wi : Nat → Nat → Nat → Nat → Bool) (w : World) (hll : ll ≤ 1048576) (hnD : D.length = n) (hnO : out.length = n) (hn : n ≤ 1000)
    (HDr : Hid (∀ w1, Below w.heap.size w w1 → Calls Tryz.prog 4 #[.slice a0 ll cap] w1 fun e w' => ∃ a2 c2 b2 cb2, e = .returned (.tuple #[.agg #[.slice a2 n c2], .agg #[.int .u32 X.arch, .int .u32 X.nr, .slice b2 6 cb2]]) ∧ PolOr w1.heap.size D w' (.slice a2 n c2) ∧ LSrc 3 PE w' a2 D ∧ USrc w' b2 X.args ∧ Below w1.heap.size w1 w'))
    (HV : Hid (∀ a2 c2 w1, LSrc 3 PE w1 a2 D ∨ LSrc 3 PE w1 a2 out → Calls Tryz.prog 5 #[.agg #[.slice a2 n c2]] w1 fun e w' => e = .returned (.bool true) ∧ Below w1.heap.size w1 w'))
    (HA : Hid (∀ a2 c2 b2 cb2 w1, LSrc 3 PE w1 a2 D ∨ LSrc 3 PE w1 a2 out → USrc w1 b2 X.args → Calls Tryz.prog 7 #[.agg #[.slice a2 n c2], .agg #[.int .u32 X.arch, .int .u32 X.nr, .slice b2 6 cb2]] w1 fun e w' => e = .returned (.bool V) ∧ Below w1.heap.size w1 w'))
    (HM : Hid (∀ a2 c2 w1, (∃ Q, (PermP D Q ∨ Q = out) ∧ LSrc 3 PE w1 a2 Q) → Calls Tryz.prog 6 #[.agg #[.slice a2 n c2]] w1 fun e w' => ∃ a3 c3, e = .returned (.agg #[.slice a3 n c3]) ∧ LSrc 3 PE w' a3 out ∧ Below w1.heap.size w1 w'))
    (HS : Hid (∀ a2 c2 a3 c3 w1, LSrc 3 PE w1 a2 out → LSrc 3 PE w1 a3 out → Calls Tryz.prog 9 #[.agg #[.slice a2 n c2], .agg #[.slice a3 n c3]] w1 fun e w' => e = .returned (.bool true) ∧ Below w1.heap.size w1 w'))
    (HW : Hid (∀ i s t k w1, i < n → s < (rulesAt out i).length → t < (rulesAt out i).length → k < 6 → Calls Tryz.prog 8 #[conV ((ruleAt out i s).getD k K.zero), conV ((ruleAt out i t).getD k K.zero)] w1 fun e w' => e = .returned (.bool (wi i s t k)) ∧ Below w1.heap.size w1 w'))
    (HN : Hid (∀ i s t, i < n → s < (rulesAt out i).length → t < (rulesAt out i).length → s ≠ t → ∃ k, k < 6 ∧ wi i s t k = false))
    (HB : Hid (∀ i rl, i < n → (rulesAt D i).length = rl → rl ≤ 1000000))
    (HE : Hid (∀ i, i < n → (out.getD i E.zero).arch = (D.getD i E.zero).arch ∧ (out.getD i E.zero).nr = (D.getD i E.zero).nr ∧ (rulesAt out i).length ≤ (rulesAt D i).length ∧ (rulesAt D i).length ≤ 200 ∧ ∀ s, s < (rulesAt out i).length → (ruleAt out i s).length = 6)) :
    Calls Tryz.prog 3 #[.slice a0 ll cap] w fun e w' => e = .returned (.bool true) ∧ Below w.heap.size w w' := by
  have hll' : ¬ (1048576 : Int) < (ll : Int) := by omega
  go_enter Tryz.func3, Tryz.ntmps3
  go_wp2_with fail
  refine (HDr.out w (Below.refl _ _)).mono ?_
  rintro _ w1 ⟨a1, c1, b1, cb1, rfl, _, hp1, hu1, B1⟩
  have S2 := MnP.new (n := n) (c1 := c1) (cb1 := cb1) B1 hp1 hu1
  clear hp1 hu1 B1
  go_upto_region 4 with fail
  generalize ((w1.alloc (.cells #[.slice a1 n c1] 25)).alloc (.cells #[.int .u32 X.arch, .int .u32 X.nr, .slice b1 6 cb1] 29)) = W2 at *
  generalize w1.heap.size = G at *
  have p2 := S2.p
  go_wp2_with fail
  refine (HV.out _ _ _ (.inl S2.sp)).mono ?_
  rintro _ w3 ⟨rfl, hb3⟩
  have S3 := S2.keep hb3
  clear S2 hb3 p2
  have x3 := S3.x.c2
  go_wp2_with fail
  refine (HDr.out _ S3.b).mono ?_
  rintro _ w4 ⟨a4, c4, b4, cb4, rfl, _, hp4, hu4, B4⟩
  have S4 := S3.keep B4
  have T5 := MnP.new (n := n) (c1 := c4) (cb1 := cb4) S4.b hp4 hu4
  have S5 := S4.keep (((Below.refl _ _).alloc (Nat.le_refl _) (.cells #[.slice a4 n c4] 25)).alloc (by simp) (.cells #[.int .u32 X.arch, .int .u32 X.nr, .slice b4 6 cb4] 29))
  clear S3 S4 hp4 hu4 B4 x3
  go_upto_region 7 with fail
  generalize ((w4.alloc (.cells #[.slice a4 n c4] 25)).alloc (.cells #[.int .u32 X.arch, .int .u32 X.nr, .slice b4 6 cb4] 29)) = W5 at *
  generalize w4.heap.size = G4 at *
  have p5 := T5.p
  go_wp2_with fail
  refine (HM.out _ _ _ ⟨D, .inl (PermP.refl D), T5.sp⟩).mono ?_
  rintro _ w6 ⟨am, cm, rfl, hm6, B6⟩
  have S6 := S5.keep B6
  clear T5 S5 p5 B6
  have b7 : Below w6.heap.size w6 (w6.alloc (.cells #[.slice am n cm] 25)) := (Below.refl _ _).alloc (Nat.le_refl _) _
  have S7 : MnM w (w6.alloc (.cells #[.slice am n cm] 25)) G w6.heap.size n a1 b1 am c1 cb1 cm D out X := ⟨S6.keep b7, by simp, (box_getD w6 (.slice am n cm) 25 _ rfl).1, hm6.below PE.stays b7⟩
  clear S6 hm6 b7
  go_upto_region 8 with fail
  generalize w6.alloc (.cells #[.slice am n cm] 25) = W7 at *
  generalize w6.heap.size = M at *
  have SK : Hid (∀ W, MnM w W G M n a1 b1 am c1 cb1 cm D out X → W.cell? ⟨M, 0, none⟩ = some (.slice am n cm) ∧ W.cell? ⟨G, 0, none⟩ = some (.slice a1 n c1) ∧ W.cell? ⟨G + 1, 0, none⟩ = some (.int .u32 X.arch) ∧ W.cell? ⟨G + 1, 1, none⟩ = some (.int .u32 X.nr) ∧ W.cell? ⟨G + 1, 2, none⟩ = some (.slice b1 6 cb1) ∧ MnM w W G M n a1 b1 am c1 cb1 cm D out X) := fun W h => ⟨h.m, h.s.p, h.s.x.c0, h.s.x.c1, h.s.x.c2, h⟩
  have HA2 : Hid (∀ a2 c2 W, (a2 = am ∨ a2 = a1) → MnM w W G M n a1 b1 am c1 cb1 cm D out X → Calls Tryz.prog 7 #[.agg #[.slice a2 n c2], .agg #[.int .u32 X.arch, .int .u32 X.nr, .slice b1 6 cb1]] W fun e w' => e = .returned (.bool V) ∧ Below W.heap.size W w') := fun a2 c2 W h1 h2 => HA.out a2 c2 b1 cb1 W (by rcases h1 with rfl | rfl; exact .inr h2.sm; exact .inl h2.s.sp) h2.s.su
  have hS1 := SK.out W7.drew (S7.keep (Below.refl _ _).drew)
  clear S7
  go_region_held3 (fun W => W.cell? ⟨M, 0, none⟩ = some (.slice am n cm) ∧ W.cell? ⟨G, 0, none⟩ = some (.slice a1 n c1) ∧ W.cell? ⟨G + 1, 0, none⟩ = some (.int .u32 X.arch) ∧ W.cell? ⟨G + 1, 1, none⟩ = some (.int .u32 X.nr) ∧ W.cell? ⟨G + 1, 2, none⟩ = some (.slice b1 6 cb1) ∧ MnM w W G M n a1 b1 am c1 cb1 cm D out X)
    (assumption)
    (first
      | (go_at_call 5; refine (HV.out _ _ _ (.inr hS1.2.2.2.2.2.sm)).mono ?_; rintro _ w8 ⟨rfl, hb8⟩; have hS1 := SK.out _ (hS1.2.2.2.2.2.keep hb8))
      | (go_at_call 7; refine (HA2.out _ _ _ (by first | exact .inl rfl | exact .inr rfl) hS1.2.2.2.2.2).mono ?_; rintro _ w9 ⟨rfl, hb9⟩; have hS1 := SK.out _ (hS1.2.2.2.2.2.keep hb9)))
  have S8 := hS1.2.2.2.2.2
  have m8 := S8.m
  have p8 := S8.s.p
  clear SK HA2 HA HV
  go_upto_region 10 with fail
  clear m8 p8
  go_wp2_with fail
  go_loopw [8] (fun i wr => ∃ k : Nat, k ≤ n ∧ i = .int .i64 k ∧ MnM w wr G M n a1 b1 am c1 cb1 cm D out X) (fun i _ => n - (intOf i).toNat)
  case atStart => exact ⟨0, by omega, rfl, S8⟩
  case round =>
    obtain ⟨k, hk, rfl, S⟩ := hrel
    clear S8 hS1
    have m0 := S.m
    have p0 := S.s.p
    by_cases hkn : k < n
    · have hkn' : (k : Int) < (n : Int) := by omega
      obtain ⟨eA, eN, eL, eB, e6⟩ := HE.out k hkn
      obtain ⟨gm, om, eam, hgm, q0, q1, ar, cr, q2, hrs⟩ := S.sm.at (i := k) (by omega) E.zero
      obtain ⟨gp, op, ea1, hgp, t0, t1, ap, cp, t2, _⟩ := S.s.sp.at (i := k) (by omega) E.zero
      subst eam ea1
      rw [eA] at q0
      rw [eN] at q1
      have HN' : Hid (∀ s t, s < (rulesAt out k).length → t < (rulesAt out k).length → wiV (wi k s t) s t 6 = false) := fun s t h1 h2 => wiV_no (fun h => HN.out k s t hkn h1 h2 h)
      have HW' : Hid (∀ s t q w1, s < (rulesAt out k).length → t < (rulesAt out k).length → q < 6 → Calls Tryz.prog 8 #[conV ((ruleAt out k s).getD q K.zero), conV ((ruleAt out k t).getD q K.zero)] w1 fun e w' => e = .returned (.bool (wi k s t q)) ∧ Below w1.heap.size w1 w') := fun s t q w1 h1 h2 h3 => HW.out k s t q w1 hkn h1 h2 h3
      have He6 : Hid (∀ s, s < (rulesAt out k).length → (ruleAt out k s).length = 6) := e6
      generalize (D.getD k E.zero).arch = arc at *
      generalize (D.getD k E.zero).nr = nrc at *
      obtain ⟨rl, hrl⟩ : ∃ rl, (rulesAt out k).length = rl := ⟨_, rfl⟩
      obtain ⟨pl, hpl⟩ : ∃ pl, (rulesAt D k).length = pl := ⟨_, rfl⟩
      have q2' : wr.cell? ⟨gm, om + k * 3 + 2, none⟩ = some (.slice ar (rulesAt out k).length cr) := q2
      have t2' : wr.cell? ⟨gp, op + k * 3 + 2, none⟩ = some (.slice ap (rulesAt D k).length cp) := t2
      have hrs' : LSrc 1 PR wr ar (rulesAt out k) := hrs
      rw [hrl] at eL HN' HW' He6 q2'
      rw [hpl] at eL eB t2'
      have Hrl : Hid _ := hrl
      clear q2 t2 eA eN e6 hrl hpl hrs
      have hLe : decide (pl < rl) = false := by simp; omega
      have bZ : Below wr.heap.size wr (wr.alloc (.cells #[.int .u32 arc, .int .u32 nrc, .slice ar rl cr] 37)) := (Below.refl _ _).alloc (Nat.le_refl _) _
      have XZ := Box3.new wr 37 (.int .u32 arc) (.int .u32 nrc) (.slice ar rl cr)
      have EZ : MnE w (wr.alloc (.cells #[.int .u32 arc, .int .u32 nrc, .slice ar rl cr] 37)) G M wr.heap.size n rl (some ⟨gp, op, none⟩) b1 (some ⟨gm, om, none⟩) ar c1 cb1 cm cr D out X (rulesAt out k) := ⟨S.keep bZ, XZ.lt, XZ.c2, hrs'.below PR.stays bZ⟩
      have v0 := (bZ.cell (p := ⟨gp, op + k * 3, none⟩) hgp).trans t0
      have v1 := (bZ.cell (p := ⟨gp, op + k * 3 + 1, none⟩) hgp).trans t1
      have v2 := (bZ.cell (p := ⟨gp, op + k * 3 + 2, none⟩) hgp).trans t2'
      go_upto_region 14 with fail
      clear S m0 p0 q0 q1 q2' t0 t1 t2' hrs' bZ
      generalize (wr.alloc (.cells #[.int .u32 arc, .int .u32 nrc, .slice ar rl cr] 37)) = WZ at *
      generalize wr.heap.size = Z at *
      have HEq : Hid (∀ q, MnE w (WZ.drewN q) G M Z n rl (some ⟨gp, op, none⟩) b1 (some ⟨gm, om, none⟩) ar c1 cb1 cm cr D out X (rulesAt out k)) := fun q => EZ.keep (below_drewN (Below.refl _ _) q)
      have p0 := EZ.s.s.p
      obtain ⟨_, z0, z1, z2, _⟩ := XZ
      clear EZ
      go_quiet (fail)
      have E1 := HEq.out nq
      clear HEq v0 v1 v2 p0 z0 z1 z2 hLe hgm hgp
      generalize WZ.drewN nq = W1 at *
      have z2 := E1.e
      go_wp2_with fail
      clear z2
      go_loopw [10] (fun x wr => ∃ s : Nat, s ≤ rl ∧ x = .int .i64 s ∧ MnE w wr G M Z n rl (some ⟨gp, op, none⟩) b1 (some ⟨gm, om, none⟩) ar c1 cb1 cm cr D out X (rulesAt out k)) (fun x _ => rl - (intOf x).toNat)
      case atStart => exact ⟨0, by omega, rfl, E1⟩
      case round =>
        obtain ⟨s, hs, rfl, E2⟩ := hrel
        clear E1
        have z2 := E2.e
        by_cases hsr : s < rl
        · have hsr' : (s : Int) < (rl : Int) := by omega
          rename World => W2
          go_wp2_with fail
          clear z2
          go_loopw [11] (fun x wr => ∃ t : Nat, t ≤ rl ∧ x = .int .i64 t ∧ MnE w wr G M Z n rl (some ⟨gp, op, none⟩) b1 (some ⟨gm, om, none⟩) ar c1 cb1 cm cr D out X (rulesAt out k)) (fun x _ => rl - (intOf x).toNat)
          case atStart => exact ⟨0, by omega, rfl, E2⟩
          case round =>
            obtain ⟨t, ht, rfl, E3⟩ := hrel
            clear E2
            have z2 := E3.e
            by_cases htr : t < rl
            · have htr' : (t : Int) < (rl : Int) := by omega
              rename World => W3
              have hne : ((s : Int) != (t : Int)) = wiV (wi k s t) s t 0 := by
                unfold wiV
                by_cases e : s = t
                · simp [e]
                · have e' : ¬ (s : Int) = (t : Int) := by omega
                  simp [e, e']
              have hV6 := HN'.out s t hsr htr
              obtain ⟨Wi, hWi⟩ : ∃ Wi : Nat → Bool, ∀ q, wiV (wi k s t) s t q = Wi q := ⟨_, fun _ => rfl⟩
              have HWs : Hid (∀ q, Wi q = true → Wi (q + 1) = wi k s t q) := fun q h => by rw [← hWi (q + 1), wiV, hWi q, h, Bool.true_and]
              rw [hWi] at hne hV6
              have HWc : Hid (∀ q w1, q < 6 → Calls Tryz.prog 8 #[conV ((ruleAt out k s).getD q K.zero), conV ((ruleAt out k t).getD q K.zero)] w1 fun e w' => e = .returned (.bool (wi k s t q)) ∧ Below w1.heap.size w1 w') := fun q w1 h => HW'.out s t q w1 hsr htr h
              have HRd : Hid (∀ W, MnE w W G M Z n rl (some ⟨gp, op, none⟩) b1 (some ⟨gm, om, none⟩) ar c1 cb1 cm cr D out X (rulesAt out k) → ∃ g o a2 x2 a3 x3, ar = some ⟨g, o, none⟩ ∧ W.cell? ⟨g, o + s, none⟩ = some (.slice a2 6 x2) ∧ W.cell? ⟨g, o + t, none⟩ = some (.slice a3 6 x3) ∧ LSrc 3 PK W a2 (ruleAt out k s) ∧ LSrc 3 PK W a3 (ruleAt out k t)) := fun W h => by
                obtain ⟨g, o, e1, _, a2, x2, v2, r2⟩ := h.sr.at (i := s) (by rw [Hrl.out]; exact hsr) []
                obtain ⟨g', o', e1', _, a3, x3, v3, r3⟩ := h.sr.at (i := t) (by rw [Hrl.out]; exact htr) []
                rw [e1] at e1'
                simp only [Option.some.injEq, Addr.mk.injEq, and_true] at e1'
                obtain ⟨rfl, rfl⟩ := e1'
                have l2 : ((rulesAt out k).getD s []).length = 6 := He6.out s hsr
                have l3 : ((rulesAt out k).getD t []).length = 6 := He6.out t htr
                rw [l2, Nat.mul_one] at v2
                rw [l3, Nat.mul_one] at v3
                exact ⟨g, o, a2, x2, a3, x3, e1, v2, v3, r2, r3⟩
              have HWi : Hid _ := hWi
              clear hWi
              go_upto_region 23 with fail
              go_wp2_with fail
              clear z2 hne
              go_loopw [12, 13] (fun x y wr => ∃ (q : Nat) (bq : Bool), q ≤ 6 ∧ y = .int .i64 q ∧ x = .bool bq ∧ Hid (Wi q = bq) ∧ MnE w wr G M Z n rl (some ⟨gp, op, none⟩) b1 (some ⟨gm, om, none⟩) ar c1 cb1 cm cr D out X (rulesAt out k)) (fun _ y _ => 6 - (intOf y).toNat)
              case atStart => exact ⟨0, Wi 0, by omega, rfl, rfl, rfl, E3⟩
              case round =>
                obtain ⟨q, bq, hq, rfl, rfl, Hbq, E4⟩ := hrel
                clear E3
                by_cases hq6 : q < 6
                · have hq6' : (q : Int) < 6 := by omega
                  cases bq with
                  | true =>
                    have hWn : Hid (Wi (q + 1) = wi k s t q) := HWs.out q Hbq.out
                    obtain ⟨g, o, a2, x2, a3, x3, ear, v2, v3, r2, r3⟩ := HRd.out _ E4
                    obtain ⟨g2, o2, ea2, hg2, _⟩ := r2.at (i := q) (by rw [He6.out s hsr]; exact hq6) K.zero
                    obtain ⟨g3, o3, ea3, hg3, _⟩ := r3.at (i := q) (by rw [He6.out t htr]; exact hq6) K.zero
                    subst ear ea2 ea3
                    have HC : Hid (∀ w1, Calls Tryz.prog 8 #[conV ((ruleAt out k s).getD q K.zero), conV ((ruleAt out k t).getD q K.zero)] w1 fun e w' => e = .returned (.bool (wi k s t q)) ∧ Below w1.heap.size w1 w') := fun w1 => HWc.out q w1 hq6
                    have HCk : Hid (∀ W, Below wr.heap.size wr W → PK W g2 (o2 + q * 3) ((ruleAt out k s).getD q K.zero) ∧ PK W g3 (o3 + q * 3) ((ruleAt out k t).getD q K.zero)) := fun W hb => by
                      obtain ⟨_, _, e1, _, h1⟩ := (r2.below PK.stays hb).at (i := q) (by rw [He6.out s hsr]; exact hq6) K.zero
                      obtain ⟨_, _, e2, _, h2⟩ := (r3.below PK.stays hb).at (i := q) (by rw [He6.out t htr]; exact hq6) K.zero
                      simp only [Option.some.injEq, Addr.mk.injEq, and_true] at e1 e2
                      obtain ⟨rfl, rfl⟩ := e1
                      obtain ⟨rfl, rfl⟩ := e2
                      exact ⟨h1, h2⟩
                    generalize (ruleAt out k s).getD q K.zero = C1 at *
                    generalize (ruleAt out k t).getD q K.zero = C2 at *
                    obtain ⟨ck, ca, cb⟩ := C1
                    obtain ⟨dk, da, db⟩ := C2
                    have hg : g < wr.heap.size := cell_ltK v2
                    have SK : Hid (∀ W, Below wr.heap.size wr W → W.cell? ⟨Z, 2, none⟩ = some (.slice (some ⟨g, o, none⟩) rl cr) ∧ W.cell? ⟨g, o + s, none⟩ = some (.slice (some ⟨g2, o2, none⟩) 6 x2) ∧ W.cell? ⟨g, o + t, none⟩ = some (.slice (some ⟨g3, o3, none⟩) 6 x3) ∧ W.cell? ⟨g2, o2 + q * 3, none⟩ = some (.int .i64 ck) ∧ W.cell? ⟨g2, o2 + q * 3 + 1, none⟩ = some (.int .u64 (ca : Int)) ∧ W.cell? ⟨g2, o2 + q * 3 + 2, none⟩ = some (.int .u64 (cb : Int)) ∧ W.cell? ⟨g3, o3 + q * 3, none⟩ = some (.int .i64 dk) ∧ W.cell? ⟨g3, o3 + q * 3 + 1, none⟩ = some (.int .u64 (da : Int)) ∧ W.cell? ⟨g3, o3 + q * 3 + 2, none⟩ = some (.int .u64 (db : Int)) ∧ Below wr.heap.size wr W) := fun W hb => by
                      obtain ⟨⟨p0, p1, p2⟩, q0, q1, q2⟩ := HCk.out W hb
                      exact ⟨(E4.keep hb).e, (hb.cell (p := ⟨g, o + s, none⟩) hg).trans v2, (hb.cell (p := ⟨g, o + t, none⟩) hg).trans v3, p0, p1, p2, q0, q1, q2, hb⟩
                    have hS1 := SK.out wr.drew (Below.refl _ _).drew
                    have HE4 : Hid (∀ W, Below wr.heap.size wr W → MnE w W G M Z n rl (some ⟨gp, op, none⟩) b1 (some ⟨gm, om, none⟩) (some ⟨g, o, none⟩) c1 cb1 cm cr D out X (rulesAt out k)) := fun W hb => E4.keep hb
                    clear HCk r2 r3 v2 v3 hg E4 HRd HWc HWs Hbq hV6
                    go_upto_region 26 with fail
                    go_region_held3 (fun W => W.cell? ⟨Z, 2, none⟩ = some (.slice (some ⟨g, o, none⟩) rl cr) ∧ W.cell? ⟨g, o + s, none⟩ = some (.slice (some ⟨g2, o2, none⟩) 6 x2) ∧ W.cell? ⟨g, o + t, none⟩ = some (.slice (some ⟨g3, o3, none⟩) 6 x3) ∧ W.cell? ⟨g2, o2 + q * 3, none⟩ = some (.int .i64 ck) ∧ W.cell? ⟨g2, o2 + q * 3 + 1, none⟩ = some (.int .u64 (ca : Int)) ∧ W.cell? ⟨g2, o2 + q * 3 + 2, none⟩ = some (.int .u64 (cb : Int)) ∧ W.cell? ⟨g3, o3 + q * 3, none⟩ = some (.int .i64 dk) ∧ W.cell? ⟨g3, o3 + q * 3 + 1, none⟩ = some (.int .u64 (da : Int)) ∧ W.cell? ⟨g3, o3 + q * 3 + 2, none⟩ = some (.int .u64 (db : Int)) ∧ Below wr.heap.size wr W)
                      (assumption)
                      (first
                        | (go_at_call 8; refine (HC.out _).mono ?_; rintro _ w8 ⟨rfl, hb8⟩; have hB8 := hS1.2.2.2.2.2.2.2.2.2.trans (hb8.mono hS1.2.2.2.2.2.2.2.2.2.size); have hS8 := SK.out _ hB8))
                    have E5 := HE4.out _ hB8
                    clear hS1 hS8 SK HC HE4 hB8 hb8
                    go_wp2
                    go_roundw
                    case rel =>
                      exact ⟨q + 1, _, by omega, by go_num, rfl, hWn, E5⟩
                    case measure => simp [intOf]; omega
                  | false =>
                    clear HRd HWc HWs hV6
                    go_wp2
                    go_roundw
                    case rel => exact ⟨t + 1, by omega, by go_num, E4⟩
                    case measure => simp [intOf]; omega
                · obtain rfl : q = 6 := by omega
                  have hb0 : bq = false := by rw [← Hbq.out, hV6]
                  subst hb0
                  clear HRd HWc HWs Hbq hV6
                  go_wp2
                  go_roundw
                  case rel => exact ⟨t + 1, by omega, by go_num, E4⟩
                  case measure => simp [intOf]; omega
            · go_wp2
              go_roundw
              case rel => exact ⟨s + 1, by omega, by go_num, E3⟩
              case measure => simp [intOf]; omega
        · go_wp2
          go_roundw
          case rel => exact ⟨k + 1, by omega, by go_num, E2.s⟩
          case measure => simp [intOf]; omega
    · clear HW HN HE
      go_upto_region 29 with fail
      have SK : Hid (∀ W, MnM w W G M n a1 b1 am c1 cb1 cm D out X → W.cell? ⟨M, 0, none⟩ = some (.slice am n cm) ∧ MnM w W G M n a1 b1 am c1 cb1 cm D out X) := fun W h => ⟨h.m, h⟩
      have hS1 := SK.out wr.drew (S.keep (Below.refl _ _).drew)
      clear S m0 p0
      go_region_held3 (fun W => W.cell? ⟨M, 0, none⟩ = some (.slice am n cm) ∧ MnM w W G M n a1 b1 am c1 cb1 cm D out X)
        (assumption)
        (first
          | (go_at_call 6; refine (HM.out _ _ _ ⟨out, .inr rfl, hS1.2.sm⟩).mono ?_; rintro _ w9 ⟨a9, c9, rfl, hm9, hb9⟩; have hS1 := SK.out _ (hS1.2.keep hb9))
          | (go_at_call 9; refine (HS.out _ _ _ _ _ hm9 hS1.2.sm).mono ?_; rintro _ w10 ⟨rfl, hb10⟩; have hS1 := SK.out _ (hS1.2.keep hb10)))
      have S9 := hS1.2
      clear hS1 SK hm9
      clear hb9 hb10
      go_upto_region 31 with fail
      go_wp2_with fail
      refine (HDr.out _ S9.s.b).mono ?_
      rintro _ w11 ⟨a11, c11, b11, cb11, rfl, hp11, _, _, B11⟩
      have b12 : Below w11.heap.size w11 ((w11.alloc (.cells #[.slice a11 n c11] 25)).alloc (.cells #[.int .u32 X.arch, .int .u32 X.nr, .slice b11 6 cb11] 29)) := ((Below.refl _ _).alloc (Nat.le_refl _) _).alloc (by simp) _
      obtain ⟨g, gb, cb, pc, ge⟩ := hp11
      have hgb : ∀ t, t < n → gb t ≠ w11.heap.size := fun t ht => Nat.ne_of_lt (pc.frr t (by omega)).1
      have X12 : MnX w10 ((w11.alloc (.cells #[.slice a11 n c11] 25)).alloc (.cells #[.int .u32 X.arch, .int .u32 X.nr, .slice b11 6 cb11] 29)) w11.heap.size n c11 a11 D g gb := by
        have q1 := box_getD w11 (.slice a11 n c11) 25 _ rfl
        obtain ⟨c3, _⟩ := cell_grD (g := w11.heap.size) (o := 0) (rb_alloc (World.grownBy.refl (w11.alloc (.cells #[.slice a11 n c11] 25)) none) (.cells #[.int .u32 X.arch, .int .u32 X.nr, .slice b11 6 cb11] 29)) (by simp) (by simp)
        exact ⟨B11.trans (b12.mono B11.size), by simp; omega, c3.trans q1.1, D, cb, PermP.refl D, pc.far b12.size (fun hn => b12.block _ (pc.frg hn).1) (fun t ht => b12.block _ (pc.frr t ht).1) (fun t s ht hs => b12.block _ (pc.frc t s ht hs).1), ge⟩
      clear b12 pc ge B11 HDr
      go_upto_region 32 with fail
      generalize ((w11.alloc (.cells #[.slice a11 n c11] 25)).alloc (.cells #[.int .u32 X.arch, .int .u32 X.nr, .slice b11 6 cb11] 29)) = W12 at *
      generalize w11.heap.size = GX at *
      go_wp2_with fail
      go_loopw [16] (fun i wr => ∃ k : Nat, k ≤ n ∧ i = .int .i64 k ∧ MnX w10 wr GX n c11 a11 D g gb) (fun i _ => n - (intOf i).toNat)
      case atStart => exact ⟨0, by omega, rfl, X12⟩
      case round =>
        obtain ⟨k', hk', rfl, Xk⟩ := hrel
        clear X12
        have xc := Xk.c
        by_cases hkn' : k' < n
        · have hkn2 : (k' : Int) < (n : Int) := by omega
          obtain ⟨ea, ⟨cr, hcr, er⟩, _⟩ := Xk.read hnD hkn'
          subst ea
          obtain ⟨rl, hrl⟩ : ∃ rl, (rulesAt D k').length = rl := ⟨_, rfl⟩
          rw [hrl] at er hcr
          have Hrl : Hid _ := hrl
          clear hrl
          have hgX := hgb k' hkn'
          have hrl2 : rl ≤ 1000000 := HB.out k' rl hkn' Hrl.out
          rename World => Wo
          go_upto_region 36 with fail
          clear er xc
          go_wp2_with fail
          go_loopw [18] (fun i wr => ∃ s : Nat, s + s ≤ rl ∧ i = .int .i64 s ∧ MnX w10 wr GX n c11 (some ⟨g, 0, none⟩) D g gb) (fun i _ => rl - (intOf i).toNat)
          case atStart => exact ⟨0, by omega, rfl, Xk⟩
          case round =>
            obtain ⟨s, hs, rfl, Xs⟩ := hrel
            clear Xk
            have hdiv : (rl : Int).tdiv 2 = ((rl / 2 : Nat) : Int) := by rw [Int.tdiv_eq_ediv_of_nonneg (by omega)]; omega
            by_cases hs2 : s < rl / 2
            · have hs2' : (s : Int) < ((rl / 2 : Nat) : Int) := by omega
              have htr : rl - 1 - s < rl := by omega
              have hst : s ≠ rl - 1 - s := by omega
              obtain ⟨_, _, hcell⟩ := Xs.read hnD hkn'
              rw [Hrl.out] at hcell
              obtain ⟨u1, l1, d1, hx⟩ := hcell s (by omega)
              obtain ⟨u2, l2, d2, hy⟩ := hcell (rl - 1 - s) htr
              obtain ⟨fs, hgl, hg8, _⟩ := Xs.frz hnD hkn' s
              obtain ⟨ft, _⟩ := Xs.frz hnD hkn' (rl - 1 - s)
              have b1 : Below wr.heap.size wr (wr.alloc (.cells #[.slice (some ⟨u1, 0, none⟩) l1 d1] 44)) := (Below.refl _ _).alloc (Nat.le_refl _) _
              have b2 := b1.alloc (by simp) (.cells #[.slice (some ⟨u2, 0, none⟩) l2 d2] 44)
              have e1 : (wr.alloc (.cells #[.slice (some ⟨u1, 0, none⟩) l1 d1] 44)).heap.size = wr.heap.size + 1 := by simp
              have z1 : ((wr.alloc (.cells #[.slice (some ⟨u1, 0, none⟩) l1 d1] 44)).alloc (.cells #[.slice (some ⟨u2, 0, none⟩) l2 d2] 44)).cell? ⟨wr.heap.size, 0, none⟩ = some (.slice (some ⟨u1, 0, none⟩) l1 d1) := by
                obtain ⟨c3, _⟩ := cell_grD (g := wr.heap.size) (o := 0) (rb_alloc (World.grownBy.refl (wr.alloc (.cells #[.slice (some ⟨u1, 0, none⟩) l1 d1] 44)) none) (.cells #[.slice (some ⟨u2, 0, none⟩) l2 d2] 44)) (by simp) (by simp)
                exact c3.trans (box_getD wr _ 44 _ rfl).1
              have z2 : ((wr.alloc (.cells #[.slice (some ⟨u1, 0, none⟩) l1 d1] 44)).alloc (.cells #[.slice (some ⟨u2, 0, none⟩) l2 d2] 44)).cell? ⟨wr.heap.size + 1, 0, none⟩ = some (.slice (some ⟨u2, 0, none⟩) l2 d2) := by
                have := (box_getD (wr.alloc (.cells #[.slice (some ⟨u1, 0, none⟩) l1 d1] 44)) (.slice (some ⟨u2, 0, none⟩) l2 d2) 44 _ rfl).1
                rw [e1] at this
                exact this
              have hx2 := (b2.cell (p := ⟨gb k', s, none⟩) hgl).trans hx
              have hy2 := (b2.cell (p := ⟨gb k', rl - 1 - s, none⟩) hgl).trans hy
              have hy1 := (b1.cell (p := ⟨gb k', rl - 1 - s, none⟩) hgl).trans hy
              have X2 := Xs.below b2
              have X3 := X2.swap hnD hkn' (by rw [Hrl.out]; omega) (by rw [Hrl.out]; exact htr) hst hgX hx2 hy2
              have fs2 := (X2.frz hnD hkn' s).1
              have ft2 := (X2.frz hnD hkn' (rl - 1 - s)).1
              have hgZ : gb k' ≠ wr.heap.size := Nat.ne_of_lt hgl
              have hsl : (s : Int) < (rl : Int) := by omega
              clear hcell Xs b1 b2 e1 hgl hg8 hs
              go_upto_region 41 with fail
              clear hx hy hy1 fs ft
              generalize ((wr.alloc (.cells #[.slice (some ⟨u1, 0, none⟩) l1 d1] 44)).alloc (.cells #[.slice (some ⟨u2, 0, none⟩) l2 d2] 44)) = W2 at *
              generalize wr.heap.size = Z1 at *
              have z1' : (W2.setCell ⟨gb k', s, none⟩ (.slice (some ⟨u2, 0, none⟩) l2 d2)).cell? ⟨Z1, 0, none⟩ = some (.slice (some ⟨u1, 0, none⟩) l1 d1) := by rw [cell_otherB (Ne.symm hgZ)]; exact z1
              have hy3 : (W2.setCell ⟨gb k', s, none⟩ (.slice (some ⟨u2, 0, none⟩) l2 d2)).cell? ⟨gb k', rl - 1 - s, none⟩ = some (.slice (some ⟨u2, 0, none⟩) l2 d2) := by rw [cell_otherA (fun e => hst e.2.symm)]; exact hy2
              have ft3 : (W2.setCell ⟨gb k', s, none⟩ (.slice (some ⟨u2, 0, none⟩) l2 d2)).frozen? ⟨gb k', rl - 1 - s, none⟩ = false := by simpa using ft2
              clear X2
              go_upto_region 42 with fail
              generalize W2.setCell ⟨gb k', s, none⟩ (.slice (some ⟨u2, 0, none⟩) l2 d2) = W3 at *
              clear z1 z2 hx2 hy2 fs2 ft2
              go_wp2
              go_roundw
              case rel => exact ⟨s + 1, by omega, by go_num, X3⟩
              case measure => simp [intOf]; omega
            · have hs2' : ¬ (s : Int) < ((rl / 2 : Nat) : Int) := by omega
              clear hs2
              go_wp2
              go_roundw
              case rel => exact ⟨k' + 1, by omega, by go_num, Xs⟩
              case measure => simp [intOf]; omega
        · go_upto_region 43 with fail
          have SK : Hid (∀ W, MnX w10 W GX n c11 a11 D g gb → W.cell? ⟨GX, 0, none⟩ = some (.slice a11 n c11) ∧ W.cell? ⟨M, 0, none⟩ = some (.slice am n cm) ∧ MnX w10 W GX n c11 a11 D g gb) := fun W h => ⟨h.c, (S9.keep h.b).m, h⟩
          have HS9 : Hid (∀ W, MnX w10 W GX n c11 a11 D g gb → MnM w W G M n a1 b1 am c1 cb1 cm D out X) := fun W h => S9.keep h.b
          have hS1 := SK.out wr.drew (Xk.below (Below.refl _ _).drew)
          clear Xk xc S9
          go_region_held3 (fun W => W.cell? ⟨GX, 0, none⟩ = some (.slice a11 n c11) ∧ W.cell? ⟨M, 0, none⟩ = some (.slice am n cm) ∧ MnX w10 W GX n c11 a11 D g gb)
            (assumption)
            (first
              | (go_at_call 6; refine (HM.out _ _ _ (by obtain ⟨Q, h1, h2⟩ := hS1.2.2.src hnD; exact ⟨Q, .inl h1, h2⟩)).mono ?_; rintro _ w12 ⟨a12, c12, rfl, hm12, hb12⟩; have hS1 := SK.out _ (hS1.2.2.below hb12))
              | (go_at_call 9; refine (HS.out _ _ _ _ _ hm12 (HS9.out _ hS1.2.2).sm).mono ?_; rintro _ w13 ⟨rfl, hb13⟩; have hS1 := SK.out _ (hS1.2.2.below hb13)))
          have hB := (HS9.out _ hS1.2.2).s.b
          clear hS1 SK HS9 hm12 HM HS
          go_wp2
          go_ret
          exact ⟨rfl, hB⟩
end Go.Proofs.YtoamapdfcdefjaaGreat.fnMinimise
