/-
  CONTRACT: the model's Distinct.
-/
import Derived.Test.YtpbljegjinjmnaaDistB
import Derived.Deep.RegionHeld3
namespace Go.Proofs.Ytpbljegjinjmnaa
open Go.RowKit
set_option linter.unusedVariables false

theorem CSrc.take {w : World} {a : Option Addr} {cs : List C} (h : CSrc w a cs) (m : Nat) : CSrc w a (cs.take m) := by
  rcases h with rfl | ⟨b, o, ha, hb, hp⟩
  · exact .inl (by simp)
  · refine .inr ⟨b, o, ha, hb, fun i hi => ?_⟩
    have hi' : i < cs.length ∧ i < m := by simp at hi; omega
    have := hp i hi'.1
    rw [getD_take hi'.2]
    exact this
theorem CSrc.drop {w : World} {b o : Nat} {cs : List C} (h : CSrc w (some ⟨b, o, none⟩) cs) (m : Nat) : CSrc w (some ⟨b, o + m * 3, none⟩) (cs.drop m) := by
  rcases h with rfl | ⟨b', o', ha, hb, hp⟩
  · exact .inl (by simp)
  · simp only [Option.some.injEq, Addr.mk.injEq, and_true] at ha
    obtain ⟨rfl, rfl⟩ := ha
    refine .inr ⟨b, o + m * 3, rfl, hb, fun i hi => ?_⟩
    have hi' : m + i < cs.length := by simp at hi; omega
    have e : (cs.drop m).getD i C.zero = cs.getD (m + i) C.zero := by simp [List.getD_eq_getElem?_getD]
    obtain ⟨c0, c1, a', cap', c2, hu⟩ := hp (m + i) hi'
    rw [e]
    refine ⟨?_, ?_, a', cap', ?_, hu⟩
    · rw [show o + m * 3 + i * 3 = o + (m + i) * 3 by omega]; exact c0
    · rw [show o + m * 3 + i * 3 + 1 = o + (m + i) * 3 + 1 by omega]; exact c1
    · rw [show o + m * 3 + i * 3 + 2 = o + (m + i) * 3 + 2 by omega]; exact c2

/-- what is asked of the calls -/
def okC (cs : List C) : Prop := ∀ c ∈ cs, c.ok ∧ c.args.length ≤ 1048576
def DistAt (cs : List C) : Prop := ∀ (a : Option Addr) (cap : Nat) (w : World), CSrc w a cs → cs.length ≤ cap → okC cs → cs.length ≤ 1048576 →
    Calls Try.prog 12 #[.slice a cs.length cap] w fun e w' => ∃ r a' cap', e = .returned (.slice a' r.length cap') ∧ IsDist cs r ∧ r.length ≤ cs.length ∧ CSrc w' a' r ∧ Below w.heap.size w w'

theorem asc_nodup {r : List C} (h : Asc r) : r.Nodup := List.Pairwise.imp (fun hlt e => by rw [e, ordC_self] at hlt; omega) h

theorem mid_x {cs o xs ys : List C} {i j : Nat} (h : Mid cs o (xs.drop i) (ys.drop j)) (hi : i < xs.length) (hj : ys.length ≤ j ∨ (j < ys.length ∧ ordC (xs.getD i C.zero) (ys.getD j C.zero) ≤ 0)) : Mid cs (pushD o (xs.getD i C.zero)) (xs.drop (i + 1)) (ys.drop j) := by
  have ex : xs.drop i = xs.getD i C.zero :: xs.drop (i + 1) := by rw [List.drop_eq_getElem_cons hi, List.getD_eq_getElem?_getD, List.getElem?_eq_getElem hi]; rfl
  rw [ex] at h
  refine h.left ?_
  rcases hj with hj | ⟨hj, hle⟩
  · rw [List.drop_eq_nil_of_le hj]; simp
  · have ey : ys.drop j = ys.getD j C.zero :: ys.drop (j + 1) := by rw [List.drop_eq_getElem_cons hj, List.getD_eq_getElem?_getD, List.getElem?_eq_getElem hj]; rfl
    have hy := h.ay
    rw [ey] at hy ⊢
    exact asc_head hy hle
theorem mid_y {cs o xs ys : List C} {i j : Nat} (h : Mid cs o (xs.drop i) (ys.drop j)) (hj : j < ys.length) (hi : xs.length ≤ i ∨ (i < xs.length ∧ 0 < ordC (xs.getD i C.zero) (ys.getD j C.zero))) : Mid cs (pushD o (ys.getD j C.zero)) (xs.drop i) (ys.drop (j + 1)) := by
  refine (mid_x h.swap hj ?_).swap
  rcases hi with hi | ⟨hi, hlt⟩
  · exact .inl hi
  · refine .inr ⟨hi, ?_⟩
    have := ordC_anti (ys.getD j C.zero) (xs.getD i C.zero)
    omega
theorem push_nil (c : C) : pushD [] c = [c] := by simp [pushD]
theorem push_last (ot : List C) (z c : C) : pushD (ot ++ [z]) c = if ordC z c = 0 then ot ++ [z] else ot ++ [z] ++ [c] := by
  unfold pushD
  by_cases h : ordC z c = 0
  · rw [if_pos h, if_neg (by simp [h])]
  · rw [if_neg h, if_pos (.inr (by simpa using h))]
theorem Box3.store {w : World} {g : Nat} {x y z : Value} (h : Box3 w g x y z) (x' y' z' : Value) : Box3 (((w.setCell ⟨g, 0, none⟩ x').setCell ⟨g, 1, none⟩ y').setCell ⟨g, 2, none⟩ z') g x' y' z' := by
  obtain ⟨hl, c0, c1, c2, f0, f1, f2⟩ := h
  refine ⟨by simpa [World.setCell] using hl, ?_, ?_, ?_, ?_, ?_, ?_⟩
  all_goals simp [go_sem, c0, c1, c2, f0, f1, f2]
theorem ownsP_set {w : World} {B D j : Nat} {v x : Value} {os : List (C × Value)} (h : ownsP w B v os) (hne : ∀ q, v.ownBlock = some q → q ≠ D) : ownsP (w.setCell ⟨D, j, none⟩ x) B v os := by
  refine World.ownsRow.kept h (grown_setCell (World.grownBy.refl _ _) j x) ?_
  cases hv : v.ownBlock with
  | none => exact .inl rfl
  | some q => exact .inr (fun e => hne q hv (by simpa using e))
theorem ownsP_cells {w : World} {B : Nat} {v : Value} {ot : List (C × Value)} {lp : C × Value} (h : ownsP w B v (ot ++ [lp])) : ∃ g pc, v = .slice (some ⟨g, 0, none⟩) (ot.length + 1) pc ∧ B ≤ g ∧ g < w.heap.size ∧ w.cell? ⟨g, ot.length * 3, none⟩ = some (.int .u32 lp.1.arch) ∧ w.cell? ⟨g, ot.length * 3 + 1, none⟩ = some (.int .u32 lp.1.nr) ∧ w.cell? ⟨g, ot.length * 3 + 2, none⟩ = some lp.2 := by
  have h0 := h
  obtain ⟨hx, h | ⟨g, cap, cur, rfl, hb, hgc, hn, hm, hs, hx2⟩⟩ := h
  · simp at h
  · have hl : (ot ++ [lp]).length = ot.length + 1 := by simp
    have key := fun j (hj : j < (ot ++ [lp]).length * 3) => World.ownsRow.cellAt h0 j hj
    obtain ⟨c0, c1, c2⟩ := cCs_get (ot ++ [lp]) ot.length (by simp)
    have e : (ot ++ [lp]).getD ot.length (C.zero, undef) = lp := by simp
    rw [e] at c0 c1 c2
    refine ⟨g, cap, by rw [hl], hb, (Array.getElem?_eq_some_iff.1 hgc).1, ?_, ?_, ?_⟩
    · rw [key _ (by rw [hl]; omega), c0]
    · rw [key _ (by rw [hl]; omega), c1]
    · rw [key _ (by rw [hl]; omega), c2]

set_option maxRecDepth 100000 in
set_option maxHeartbeats 8000000 in
theorem specDist_merge (cs : List C) (hlen : 2 ≤ cs.length) (HI : ∀ ds, ds.length < cs.length → DistAt ds) : DistAt cs := by
  intro a cap w hs hcap hok hn
  obtain ⟨i0, hi, hz0, hz1, hz2⟩ := info_parts infoCall
  obtain ⟨b, o, rfl⟩ : ∃ b o, a = some ⟨b, o, none⟩ := by
    rcases hs with rfl | ⟨b, o, ha, _⟩
    · simp at hlen
    · exact ⟨b, o, ha⟩
  have hm1 : (cs.take (cs.length / 2)).length = cs.length / 2 := by simp; omega
  have hm2 : (cs.drop (cs.length / 2)).length = cs.length - cs.length / 2 := by simp
  have H1 : Hid (Calls Try.prog 12 #[.slice (some ⟨b, o, none⟩) (cs.length / 2) cap] w fun e w' => ∃ r a' cap', e = .returned (.slice a' r.length cap') ∧ IsDist (cs.take (cs.length / 2)) r ∧ r.length ≤ cs.length / 2 ∧ CSrc w' a' r ∧ Below w.heap.size w w') := by
    have h := HI (cs.take (cs.length / 2)) (by rw [hm1]; omega) (some ⟨b, o, none⟩) cap w (hs.take _) (by rw [hm1]; omega) (fun c hc => hok c (List.mem_of_mem_take hc)) (by rw [hm1]; omega)
    rw [hm1] at h
    exact h
  have H2 : Hid (∀ w1, Below w.heap.size w w1 → Calls Try.prog 12 #[.slice (some ⟨b, o + cs.length / 2 * 3, none⟩) (cs.length - cs.length / 2) (cap - cs.length / 2)] w1 fun e w' => ∃ r a' cap', e = .returned (.slice a' r.length cap') ∧ IsDist (cs.drop (cs.length / 2)) r ∧ r.length ≤ cs.length - cs.length / 2 ∧ CSrc w' a' r ∧ Below w1.heap.size w1 w') := by
    intro w1 hB
    have h := HI (cs.drop (cs.length / 2)) (by rw [hm2]; omega) (some ⟨b, o + cs.length / 2 * 3, none⟩) (cap - cs.length / 2) w1 ((hs.below hB).drop _) (by rw [hm2]; omega) (fun c hc => hok c (List.mem_of_mem_drop hc)) (by rw [hm2]; omega)
    rw [hm2] at h
    exact h
  have HMs : Hid (∀ xs ys, IsDist (cs.take (cs.length / 2)) xs → IsDist (cs.drop (cs.length / 2)) ys → Mid cs [] xs ys ∧ okC xs ∧ okC ys) := by
    intro xs ys hx hy
    have h := Mid.start hx hy
    rw [List.take_append_drop] at h
    exact ⟨h, fun c hc => hok c (List.mem_of_mem_take ((hx.2 c).1 hc)), fun c hc => hok c (List.mem_of_mem_drop ((hy.2 c).1 hc))⟩
  clear HI hs hok
  obtain ⟨n, hn'⟩ : ∃ n, cs.length = n := ⟨_, rfl⟩
  have HN : Hid (cs.length = n) := hn'
  rw [hn'] at H1 H2 HMs hlen hcap hn ⊢
  clear hm1 hm2 hn'
  have hd : ((n : Int) / 2) = ((n / 2 : Nat) : Int) := by omega
  have hdt : (n : Int).tdiv 2 = ((n / 2 : Nat) : Int) := by rw [Int.tdiv_eq_ediv_of_nonneg (by omega)]; exact hd
  obtain ⟨m, hm⟩ : ∃ m, n / 2 = m := ⟨_, rfl⟩
  rw [hm] at H1 H2 HMs hd hdt
  have hmn : m < n := by omega
  have hm1 : 1 ≤ m := by omega
  have hcm : ¬ cap = m := by omega
  have hmc : (m : Int) ≤ (cap : Int) := by omega
  have hmn' : (m : Int) ≤ (n : Int) := by omega
  clear hm
  go_enter Try.func12, Try.ntmps12
  go_wp2_with fail
  refine H1.out.mono ?_
  rintro e w1 ⟨xs, ax, cx, rfl, dx, lx, sx, b1⟩
  go_wp2_with fail
  refine (H2.out w1 b1).mono ?_
  rintro e W ⟨ys, ay, cy, rfl, dy, ly, sy, b2⟩
  have B0 := b1.trans (b2.mono b1.size)
  obtain ⟨hMid, okx, oky⟩ := HMs.out xs ys dx dy
  have HX : Hid (∀ wr, Below W.heap.size W wr → CSrc wr ax xs ∧ CSrc wr ay ys) := fun wr hB => ⟨(sx.below b2).below hB, sy.below hB⟩
  have HMid : Hid (Mid cs [] (xs.drop 0) (ys.drop 0)) := hMid
  have HKx : Hid (∀ i, i < xs.length → (xs.getD i C.zero).ok ∧ (xs.getD i C.zero).args.length ≤ 1048576) := fun i hi => okx _ (callL_mem hi)
  have HKy : Hid (∀ i, i < ys.length → (ys.getD i C.zero).ok ∧ (ys.getD i C.zero).args.length ≤ 1048576) := fun i hi => oky _ (callL_mem hi)
  clear H1 H2 HMs sx sy dx dy hMid okx oky b1 b2
  obtain ⟨p, hp⟩ : ∃ p, xs.length = p := ⟨_, rfl⟩
  obtain ⟨q, hq⟩ : ∃ q, ys.length = q := ⟨_, rfl⟩
  have HPn : Hid (xs.length = p) := hp
  have HQn : Hid (ys.length = q) := hq
  rw [hp] at lx HKx ⊢
  rw [hq] at ly HKy ⊢
  clear hp hq
  go_wp2_with fail
  go_loopw [3, 7, 8] (fun s u v wr => ∃ (i j : Nat) (os : List (C × Value)), i ≤ p ∧ j ≤ q ∧ u = .int .i64 i ∧ v = .int .i64 j ∧ os.length ≤ i + j ∧ ownsP wr W.heap.size s os ∧ Hid (∀ x ∈ os, good W x ∧ x.1.ok ∧ x.1.args.length ≤ 1048576) ∧ Hid (Mid cs (os.map Prod.fst) (xs.drop i) (ys.drop j)) ∧ Below W.heap.size W wr) (fun _ u v _ => p - (intOf u).toNat + (q - (intOf v).toNat))
  case atStart => exact ⟨0, 0, [], by omega, by omega, rfl, rfl, by simp, World.ownsRow_nil _ _ _ _, (fun x hx => by simp at hx), HMid, Below.refl _ _⟩
  case round =>
    obtain ⟨i, j, os, hip, hjq, rfl, rfl, hol, hown, HG, HM, hB⟩ := hrel
    clear HMid
    -- ROUNDS
    obtain ⟨s1, s2⟩ := HX.out _ (Below.refl _ _)
    have hs1 := hB.size
    have hub : ∀ t, u3.ownBlock = some t → t < wr.heap.size := fun t ht => (hown.lt t ht).2
    have bA1 := (Below.refl wr.heap.size wr).alloc (Nat.le_refl _) (.cells #[.int .u32 0, .int .u32 0, .slice none 0 0] 64)
    have X := Box3.new wr 64 (.int .u32 0) (.int .u32 0) (.slice none 0 0)
    by_cases hX : i < p
    · by_cases hY : j < q
      · have hX' : (i : Int) < (p : Int) := by omega
        have hY' : (j : Int) < (q : Int) := by omega
        obtain ⟨b3, o3, ha, hbl, c0, c1, a3, cap3, c2, hu3⟩ := s1.at i (by rw [HPn.out]; exact hX)
        obtain ⟨b4, o4, ha2, hbl2, c0', c1', a4, cap4, c2', hu4⟩ := s2.at j (by rw [HQn.out]; exact hY)
        subst ha ha2
        obtain ⟨kx1, kx2⟩ := HKx.out i hX
        obtain ⟨ky1, ky2⟩ := HKy.out j hY
        have HMx : Hid (ordC (xs.getD i C.zero) (ys.getD j C.zero) ≤ 0 → Mid cs (pushD (os.map Prod.fst) (xs.getD i C.zero)) (xs.drop (i + 1)) (ys.drop j)) := fun h => mid_x HM.out (by rw [HPn.out]; exact hX) (.inr ⟨by rw [HQn.out]; exact hY, h⟩)
        have HMy : Hid (0 < ordC (xs.getD i C.zero) (ys.getD j C.zero) → Mid cs (pushD (os.map Prod.fst) (ys.getD j C.zero)) (xs.drop i) (ys.drop (j + 1))) := fun h => mid_y HM.out (by rw [HQn.out]; exact hY) (.inr ⟨by rw [HPn.out]; exact hX, h⟩)
        have d0 := (hB.cell (p := ⟨b3, _, none⟩) hbl).trans c0
        have d1 := (hB.cell (p := ⟨b3, _, none⟩) hbl).trans c1
        have d2 := (hB.cell (p := ⟨b3, _, none⟩) hbl).trans c2
        have d0' := (hB.cell (p := ⟨b4, _, none⟩) hbl2).trans c0'
        have d1' := (hB.cell (p := ⟨b4, _, none⟩) hbl2).trans c1'
        have d2' := (hB.cell (p := ⟨b4, _, none⟩) hbl2).trans c2'
        generalize xs.getD i C.zero = c3 at *
        generalize ys.getD j C.zero = c4 at *
        obtain ⟨ar3, nr3, args3⟩ := c3
        obtain ⟨ar4, nr4, args4⟩ := c4
        simp only at d0 d1 d2 hu3 kx2 d0' d1' d2' hu4 ky2
        clear c0 c1 c2 c0' c1' c2' HX HKx HKy s1 s2 HM
        go_wp2_with fail
        have e0 := (bA1.cell (p := ⟨b3, _, none⟩) (Nat.lt_of_lt_of_le hbl hs1)).trans d0
        have e1 := (bA1.cell (p := ⟨b3, _, none⟩) (Nat.lt_of_lt_of_le hbl hs1)).trans d1
        have e2 := (bA1.cell (p := ⟨b3, _, none⟩) (Nat.lt_of_lt_of_le hbl hs1)).trans d2
        have f0 := (bA1.cell (p := ⟨b4, _, none⟩) (Nat.lt_of_lt_of_le hbl2 hs1)).trans d0'
        have f1 := (bA1.cell (p := ⟨b4, _, none⟩) (Nat.lt_of_lt_of_le hbl2 hs1)).trans d1'
        have f2 := (bA1.cell (p := ⟨b4, _, none⟩) (Nat.lt_of_lt_of_le hbl2 hs1)).trans d2'
        have hbl1' := Nat.lt_of_lt_of_le (Nat.lt_of_lt_of_le hbl hs1) bA1.size
        have hbl2' := Nat.lt_of_lt_of_le (Nat.lt_of_lt_of_le hbl2 hs1) bA1.size
        have O1 := ownsP_below hown bA1
        have B1 := hB.trans (bA1.mono hs1)
        clear d0 d1 d2 d0' d1' d2' hown hB
        generalize hG : wr.heap.size = G at *
        generalize wr.alloc (.cells #[.int .u32 0, .int .u32 0, .slice none 0 0] 64) = wa at *
        have hdr0 : Below wa.heap.size wa wa.drew := (Below.refl _ _).drew
        have HL : Hid (∀ w1, Below wa.heap.size wa w1 → Calls Try.prog 34 #[callV ⟨ar3, nr3, args3⟩ (.slice a3 args3.length cap3), callV ⟨ar4, nr4, args4⟩ (.slice a4 args4.length cap4)] w1 fun e w' => e = .returned (.int .i64 (ordC ⟨ar3, nr3, args3⟩ ⟨ar4, nr4, args4⟩)) ∧ (Below wa.heap.size wa w' ∧ w'.cell? ⟨b3, o3 + i * 3, none⟩ = some (.int .u32 ar3) ∧ w'.cell? ⟨b3, o3 + i * 3 + 1, none⟩ = some (.int .u32 nr3) ∧ w'.cell? ⟨b3, o3 + i * 3 + 2, none⟩ = some (.slice a3 args3.length cap3) ∧ w'.cell? ⟨b4, o4 + j * 3, none⟩ = some (.int .u32 ar4) ∧ w'.cell? ⟨b4, o4 + j * 3 + 1, none⟩ = some (.int .u32 nr4) ∧ w'.cell? ⟨b4, o4 + j * 3 + 2, none⟩ = some (.slice a4 args4.length cap4))) := by
          intro w1 hb1
          have hW1 := B1.trans (hb1.mono B1.size)
          refine (l2order_any _ _ a3 a4 cap3 cap4 _ (hu3.below hW1) (hu4.below hW1) kx1 ky1 (by simp only; omega) (by simp only; omega)).mono ?_
          rintro e w' ⟨rfl, hbz⟩
          have hB' := hb1.trans (hbz.mono hb1.size)
          exact ⟨rfl, hB', (hB'.cell (p := ⟨b3, _, none⟩) hbl1').trans e0, (hB'.cell (p := ⟨b3, _, none⟩) hbl1').trans e1, (hB'.cell (p := ⟨b3, _, none⟩) hbl1').trans e2, (hB'.cell (p := ⟨b4, _, none⟩) hbl2').trans f0, (hB'.cell (p := ⟨b4, _, none⟩) hbl2').trans f1, (hB'.cell (p := ⟨b4, _, none⟩) hbl2').trans f2⟩
        have g1 : decide ((q : Int) ≤ (j : Int)) = false := by simp; omega
        have g2 : decide ((i : Int) < (p : Int)) = true := by simp; omega
        have g3 : ¬ (q : Int) ≤ (j : Int) := by omega
        generalize hqq : ordC ⟨ar3, nr3, args3⟩ ⟨ar4, nr4, args4⟩ = qv at HL HMx HMy
        clear hqq
        go_region_held3 (fun w' => Below wa.heap.size wa w' ∧ w'.cell? ⟨b3, o3 + i * 3, none⟩ = some (.int .u32 ar3) ∧ w'.cell? ⟨b3, o3 + i * 3 + 1, none⟩ = some (.int .u32 nr3) ∧ w'.cell? ⟨b3, o3 + i * 3 + 2, none⟩ = some (.slice a3 args3.length cap3) ∧ w'.cell? ⟨b4, o4 + j * 3, none⟩ = some (.int .u32 ar4) ∧ w'.cell? ⟨b4, o4 + j * 3 + 1, none⟩ = some (.int .u32 nr4) ∧ w'.cell? ⟨b4, o4 + j * 3 + 2, none⟩ = some (.slice a4 args4.length cap4))
          (refine ⟨?_, ?_, ?_, ?_, ?_, ?_, ?_⟩ <;> first | assumption | (simp [*]; done))
          (first
            | (go_at_call 34; refine (HL.out _ (by assumption)).mono ?_; rintro e wv ⟨rfl, KB, k1, k2, k3, k4, k5, k6⟩))
        have X2 := X.keep KB
        obtain ⟨_, t0, t1, t2, z0, z1, z2⟩ := X2
        clear HL e0 e1 e2 f0 f1 f2 hdr0
        by_cases hle : qv ≤ 0
        · have HM2 : Hid (Mid cs (pushD (os.map Prod.fst) ⟨ar3, nr3, args3⟩) (xs.drop (i + 1)) (ys.drop j)) := HMx.out hle
          go_wp2_with fail
          have Xz := (X.keep KB).store (.int .u32 ar3) (.int .u32 nr3) (.slice a3 args3.length cap3)
          have Oz := ownsP_set (D := G) (j := 2) (x := .slice a3 args3.length cap3) (ownsP_set (D := G) (j := 1) (x := .int .u32 nr3) (ownsP_set (D := G) (j := 0) (x := .int .u32 ar3) (ownsP_below O1 KB) (fun t ht => by have := hub t ht; omega)) (fun t ht => by have := hub t ht; omega)) (fun t ht => by have := hub t ht; omega)
          have Bz := (((B1.trans (KB.mono B1.size)).setCell (p := ⟨G, 0, none⟩) hs1 (.int .u32 ar3)).setCell (p := ⟨G, 1, none⟩) hs1 (.int .u32 nr3)).setCell (p := ⟨G, 2, none⟩) hs1 (.slice a3 args3.length cap3)
          generalize (((wv).setCell ⟨G, 0, none⟩ (.int .u32 ar3)).setCell ⟨G, 1, none⟩ (.int .u32 nr3)).setCell ⟨G, 2, none⟩ (.slice a3 args3.length cap3) = wz at *
          clear X O1 B1 KB bA1
          rcases List.eq_nil_or_concat os with hos | ⟨ot, lp, hos⟩
          · subst hos
            have HM3 : Hid (Mid cs (([] ++ [((⟨ar3, nr3, args3⟩ : C), Value.slice a3 args3.length cap3)]).map Prod.fst) (xs.drop (i + 1)) (ys.drop (j))) := by
              have h := HM2.out
              rw [List.map_nil, push_nil] at h
              exact h
            have HG3 : Hid (∀ x ∈ ([] ++ [(⟨ar3, nr3, args3⟩, .slice a3 args3.length cap3)] : List (C × Value)), good W x ∧ x.1.ok ∧ x.1.args.length ≤ 1048576) := by
              intro x hx
              simp only [List.nil_append, List.mem_singleton] at hx
              subst hx
              exact ⟨⟨a3, cap3, rfl, hu3⟩, kx1, kx2⟩
            obtain ⟨_, p0, p1, p2, _, _, _⟩ := Xz
            have Hnil : ∃ au cu, u3 = .slice au 0 cu := by
              obtain ⟨_, h | ⟨g, pc, cur, hv, _⟩⟩ := Oz
              · exact ⟨none, 0, h.1⟩
              · exact ⟨_, pc, hv⟩
            obtain ⟨au, cu, hv⟩ := Hnil
            subst hv
            clear HM2 HG hub
            go_wp2_with fail
            go_quiet (fail)
            have Oq := ownsP_below Oz (below_drewN (Below.refl _ _) nq)
            have Bq := below_drewN Bz nq
            generalize hwq : wz.drewN nq = wq at *
            have p0q : wq.cell? ⟨G, 0, none⟩ = some (.int .u32 ar3) := by rw [← hwq]; exact p0
            have p1q : wq.cell? ⟨G, 1, none⟩ = some (.int .u32 nr3) := by rw [← hwq]; exact p1
            have p2q : wq.cell? ⟨G, 2, none⟩ = some (.slice a3 args3.length cap3) := by rw [← hwq]; exact p2
            clear hwq p0 p1 p2 Oz Bz
            have hsq := Bq.size
            go_wp2_with (at_builtin; refine wpList_append_own _ rfl (.tmp 98) (.tmp 100) 35 rfl (W.heap.size) 64 i0 _ 3 32 Try.underlying35 hi hz0 hz1 hz2 rfl (by decide) _ _ _ rfl (Oq.alloc _) ⟨wq.heap.size, 0, none⟩ 1 1 (cC (⟨ar3, nr3, args3⟩, .slice a3 args3.length cap3)) rfl rfl ?c1 (cC_one rfl) ?c3 ?c4 ?c5 ?_)
            case c1 =>
              intro t u ht
              rw [add_at]
              rw [World.cell?_alloc_at _ _ _ _ (by simp)]
              simpa [cC] using ht
            case c3 => unfold maxLen; first | omega | (simp; omega) | simp
            case c4 => first | omega | (simp; omega) | simp
            case c5 => first | omega | (simp; omega)
            intro v9 w9 ow gr _
            have o9 : ownsP w9 W.heap.size v9 (([] : List (C × Value)) ++ [(⟨ar3, nr3, args3⟩, .slice a3 args3.length cap3)]) := ownsP_snoc (by simp) ow
            have B9 : Below W.heap.size W w9 := (Bq.alloc hsq _).grown gr (by simp; omega) (fun t ht => (Oq.lt t ht).1)
            clear ow gr Oq Bq p0q p1q p2q
            go_wp2
            go_roundw
            case rel => exact ⟨i + 1, j, _, by omega, by omega, by go_num, by go_num, by first | omega | (simp; omega) | (simp at *; omega), o9, HG3, HM3, B9⟩
            case measure => simp [intOf]; omega
          · have hos' : os = ot ++ [lp] := by rw [hos]; simp
            subst hos'
            clear hos
            obtain ⟨g5, pc5, hv, hg5b, hg5l, l0, l1, l2⟩ := ownsP_cells Oz
            subst hv
            obtain ⟨lgood, lok, lle⟩ := HG.out lp (by simp)
            obtain ⟨lc, lv⟩ := lp
            obtain ⟨al, capl, hlv, lus⟩ := lgood
            obtain ⟨lar, lnr, largs⟩ := lc
            simp only at l0 l1 l2 hlv lus lle
            subst hlv
            obtain ⟨N, hN⟩ : ∃ N, ot.length + 1 = N := ⟨_, rfl⟩
            have hN1 : ot.length = N - 1 := by omega
            have hol2 : N ≤ i + j := by simp at hol; omega
            rw [hN1] at l0 l1 l2
            rw [hN] at Oz ⊢
            have HNl : Hid ((ot ++ [((⟨lar, lnr, largs⟩ : C), Value.slice al largs.length capl)]).length = N) := by show _ = _; simp; omega
            have hNp : 1 ≤ N := by omega
            have hNp' : (1 : Int) ≤ (N : Int) := by omega
            have hNw : IntKind.i64.wrap ((N : Int) - 1) = (N : Int) - 1 := by rw [IntKind.wrap_i64]; omega
            have hNt : ((N : Int) - 1).toNat = N - 1 := by omega
            have hNa : (0 : Int) ≤ (N : Int) - 1 := by omega
            have hNb : (N : Int) - 1 < (N : Int) := by omega
            have hGlt := Xz.lt
            obtain ⟨_, p0, p1, p2, _, _, _⟩ := Xz
            have HL2 : Hid (∀ w1, Below wz.heap.size wz w1 → Calls Try.prog 34 #[callV ⟨lar, lnr, largs⟩ (.slice al largs.length capl), callV ⟨ar3, nr3, args3⟩ (.slice a3 args3.length cap3)] w1 fun e w' => e = .returned (.int .i64 (ordC ⟨lar, lnr, largs⟩ ⟨ar3, nr3, args3⟩)) ∧ (Below wz.heap.size wz w' ∧ w'.cell? ⟨g5, (N - 1) * 3, none⟩ = some (.int .u32 lar) ∧ w'.cell? ⟨g5, (N - 1) * 3 + 1, none⟩ = some (.int .u32 lnr) ∧ w'.cell? ⟨g5, (N - 1) * 3 + 2, none⟩ = some (.slice al largs.length capl) ∧ w'.cell? ⟨G, 0, none⟩ = some (.int .u32 ar3) ∧ w'.cell? ⟨G, 1, none⟩ = some (.int .u32 nr3) ∧ w'.cell? ⟨G, 2, none⟩ = some (.slice a3 args3.length cap3))) := by
              intro w1 hb1
              have hW1 : Below W.heap.size W w1 := Bz.trans (hb1.mono Bz.size)
              refine (l2order_any _ _ al a3 capl cap3 _ (lus.below hW1) (hu3.below hW1) lok kx1 (by simp only; omega) (by simp only; omega)).mono ?_
              rintro e w' ⟨rfl, hbz⟩
              have hB' := hb1.trans (hbz.mono hb1.size)
              exact ⟨rfl, hB', (hB'.cell (p := ⟨g5, _, none⟩) hg5l).trans l0, (hB'.cell (p := ⟨g5, _, none⟩) hg5l).trans l1, (hB'.cell (p := ⟨g5, _, none⟩) hg5l).trans l2, (hB'.cell (p := ⟨G, _, none⟩) hGlt).trans p0, (hB'.cell (p := ⟨G, _, none⟩) hGlt).trans p1, (hB'.cell (p := ⟨G, _, none⟩) hGlt).trans p2⟩
            have HP2 : Hid (pushD ((ot ++ [((⟨lar, lnr, largs⟩ : C), Value.slice al largs.length capl)]).map Prod.fst) ⟨ar3, nr3, args3⟩ = if ordC ⟨lar, lnr, largs⟩ ⟨ar3, nr3, args3⟩ = 0 then (ot ++ [((⟨lar, lnr, largs⟩ : C), Value.slice al largs.length capl)]).map Prod.fst else (ot ++ [((⟨lar, lnr, largs⟩ : C), Value.slice al largs.length capl)] ++ [((⟨ar3, nr3, args3⟩ : C), Value.slice a3 args3.length cap3)]).map Prod.fst) := by
              show _ = _
              rw [List.map_append, List.map_append, List.map_append]
              exact push_last _ _ _
            have HG3 : Hid (∀ x ∈ (ot ++ [((⟨lar, lnr, largs⟩ : C), Value.slice al largs.length capl)] ++ [((⟨ar3, nr3, args3⟩ : C), Value.slice a3 args3.length cap3)] : List (C × Value)), good W x ∧ x.1.ok ∧ x.1.args.length ≤ 1048576) := by
              intro x hx
              rw [List.mem_append, List.mem_singleton] at hx
              rcases hx with hx | hx
              · exact HG.out x hx
              · subst hx; exact ⟨⟨a3, cap3, rfl, hu3⟩, kx1, kx2⟩
            have hdr : Below wz.heap.size wz wz.drew := (Below.refl _ _).drew
            generalize hqq : ordC ⟨lar, lnr, largs⟩ ⟨ar3, nr3, args3⟩ = qq at HL2 HP2
            clear hqq lus hub
            have g0 : ((N : Int) == 0) = false := by simp; omega
            clear hN hN1
            go_wp2_with fail
            go_region_held3 (fun w' => Below wz.heap.size wz w' ∧ w'.cell? ⟨g5, (N - 1) * 3, none⟩ = some (.int .u32 lar) ∧ w'.cell? ⟨g5, (N - 1) * 3 + 1, none⟩ = some (.int .u32 lnr) ∧ w'.cell? ⟨g5, (N - 1) * 3 + 2, none⟩ = some (.slice al largs.length capl) ∧ w'.cell? ⟨G, 0, none⟩ = some (.int .u32 ar3) ∧ w'.cell? ⟨G, 1, none⟩ = some (.int .u32 nr3) ∧ w'.cell? ⟨G, 2, none⟩ = some (.slice a3 args3.length cap3))
              (refine ⟨?_, ?_, ?_, ?_, ?_, ?_, ?_⟩ <;> first | assumption | (simp [*]; done))
              (first
                | (go_at_call 34; refine (HL2.out _ (by assumption)).mono ?_; rintro e wq ⟨rfl, k0, k1, k2, k3, k4, k5, k6⟩))
            have Oq := ownsP_below Oz k0
            have Bq := Bz.trans (k0.mono Bz.size)
            clear Oz Bz l0 l1 l2 p0 p1 p2 hdr HL2 k1 k2 k3
            by_cases hq0 : qq = 0
            · have HM3 : Hid (Mid cs ((ot ++ [((⟨lar, lnr, largs⟩ : C), Value.slice al largs.length capl)]).map Prod.fst) (xs.drop (i + 1)) (ys.drop (j))) := by
                have h := HM2.out
                rw [HP2.out, if_pos hq0] at h
                exact h
              subst hq0
              clear HM2 HP2 HG3
              go_wp2
              go_roundw
              case rel => exact ⟨i + 1, j, _, by omega, by omega, by go_num, by go_num, by rw [HNl.out]; omega, Oq, HG, HM3, Bq⟩
              case measure => simp [intOf]; omega
            · have HM3 : Hid (Mid cs ((ot ++ [((⟨lar, lnr, largs⟩ : C), Value.slice al largs.length capl)] ++ [((⟨ar3, nr3, args3⟩ : C), Value.slice a3 args3.length cap3)]).map Prod.fst) (xs.drop (i + 1)) (ys.drop (j))) := by
                have h := HM2.out
                rw [HP2.out, if_neg hq0] at h
                exact h
              have hq1 : (qq != 0) = true := by simpa using hq0
              have hNl2 := HNl.out
              clear HM2 HP2 HG
              have hsq := Bq.size
              go_wp2_with (at_builtin; refine wpList_append_own _ rfl (.tmp 98) (.tmp 100) 35 rfl (W.heap.size) 64 i0 _ 3 32 Try.underlying35 hi hz0 hz1 hz2 rfl (by decide) _ _ _ rfl (Oq.alloc _) ⟨wq.heap.size, 0, none⟩ 1 1 (cC (⟨ar3, nr3, args3⟩, .slice a3 args3.length cap3)) rfl rfl ?c1 (cC_one rfl) ?c3 ?c4 ?c5 ?_)
              case c1 =>
                intro t u ht
                rw [add_at]
                rw [World.cell?_alloc_at _ _ _ _ (by simp)]
                simpa [cC] using ht
              case c3 => unfold maxLen; first | omega | (simp; omega) | simp
              case c4 => first | omega | (simp; omega) | simp
              case c5 => first | omega | (simp; omega)
              intro v9 w9 ow gr _
              have o9 : ownsP w9 W.heap.size v9 ((ot ++ [((⟨lar, lnr, largs⟩ : C), Value.slice al largs.length capl)]) ++ [(⟨ar3, nr3, args3⟩, .slice a3 args3.length cap3)]) := ownsP_snoc (by rw [HNl.out]) ow
              have B9 : Below W.heap.size W w9 := (Bq.alloc hsq _).grown gr (by simp; omega) (fun t ht => (Oq.lt t ht).1)
              clear ow gr Oq Bq k4 k5 k6
              go_wp2
              go_roundw
              case rel => exact ⟨i + 1, j, _, by omega, by omega, by go_num, by go_num, by rw [List.length_append, HNl.out]; simp; omega, o9, HG3, HM3, B9⟩
              case measure => simp [intOf]; omega
        · have HM2 : Hid (Mid cs (pushD (os.map Prod.fst) ⟨ar4, nr4, args4⟩) (xs.drop i) (ys.drop (j + 1))) := HMy.out (by omega)
          go_wp2_with fail
          have Xz := (X.keep KB).store (.int .u32 ar4) (.int .u32 nr4) (.slice a4 args4.length cap4)
          have Oz := ownsP_set (D := G) (j := 2) (x := .slice a4 args4.length cap4) (ownsP_set (D := G) (j := 1) (x := .int .u32 nr4) (ownsP_set (D := G) (j := 0) (x := .int .u32 ar4) (ownsP_below O1 KB) (fun t ht => by have := hub t ht; omega)) (fun t ht => by have := hub t ht; omega)) (fun t ht => by have := hub t ht; omega)
          have Bz := (((B1.trans (KB.mono B1.size)).setCell (p := ⟨G, 0, none⟩) hs1 (.int .u32 ar4)).setCell (p := ⟨G, 1, none⟩) hs1 (.int .u32 nr4)).setCell (p := ⟨G, 2, none⟩) hs1 (.slice a4 args4.length cap4)
          generalize (((wv).setCell ⟨G, 0, none⟩ (.int .u32 ar4)).setCell ⟨G, 1, none⟩ (.int .u32 nr4)).setCell ⟨G, 2, none⟩ (.slice a4 args4.length cap4) = wz at *
          clear X O1 B1 KB bA1
          rcases List.eq_nil_or_concat os with hos | ⟨ot, lp, hos⟩
          · subst hos
            have HM3 : Hid (Mid cs (([] ++ [((⟨ar4, nr4, args4⟩ : C), Value.slice a4 args4.length cap4)]).map Prod.fst) (xs.drop (i)) (ys.drop (j + 1))) := by
              have h := HM2.out
              rw [List.map_nil, push_nil] at h
              exact h
            have HG3 : Hid (∀ x ∈ ([] ++ [(⟨ar4, nr4, args4⟩, .slice a4 args4.length cap4)] : List (C × Value)), good W x ∧ x.1.ok ∧ x.1.args.length ≤ 1048576) := by
              intro x hx
              simp only [List.nil_append, List.mem_singleton] at hx
              subst hx
              exact ⟨⟨a4, cap4, rfl, hu4⟩, ky1, ky2⟩
            obtain ⟨_, p0, p1, p2, _, _, _⟩ := Xz
            have Hnil : ∃ au cu, u3 = .slice au 0 cu := by
              obtain ⟨_, h | ⟨g, pc, cur, hv, _⟩⟩ := Oz
              · exact ⟨none, 0, h.1⟩
              · exact ⟨_, pc, hv⟩
            obtain ⟨au, cu, hv⟩ := Hnil
            subst hv
            clear HM2 HG hub
            go_wp2_with fail
            go_quiet (fail)
            have Oq := ownsP_below Oz (below_drewN (Below.refl _ _) nq)
            have Bq := below_drewN Bz nq
            generalize hwq : wz.drewN nq = wq at *
            have p0q : wq.cell? ⟨G, 0, none⟩ = some (.int .u32 ar4) := by rw [← hwq]; exact p0
            have p1q : wq.cell? ⟨G, 1, none⟩ = some (.int .u32 nr4) := by rw [← hwq]; exact p1
            have p2q : wq.cell? ⟨G, 2, none⟩ = some (.slice a4 args4.length cap4) := by rw [← hwq]; exact p2
            clear hwq p0 p1 p2 Oz Bz
            have hsq := Bq.size
            go_wp2_with (at_builtin; refine wpList_append_own _ rfl (.tmp 98) (.tmp 100) 35 rfl (W.heap.size) 64 i0 _ 3 32 Try.underlying35 hi hz0 hz1 hz2 rfl (by decide) _ _ _ rfl (Oq.alloc _) ⟨wq.heap.size, 0, none⟩ 1 1 (cC (⟨ar4, nr4, args4⟩, .slice a4 args4.length cap4)) rfl rfl ?c1 (cC_one rfl) ?c3 ?c4 ?c5 ?_)
            case c1 =>
              intro t u ht
              rw [add_at]
              rw [World.cell?_alloc_at _ _ _ _ (by simp)]
              simpa [cC] using ht
            case c3 => unfold maxLen; first | omega | (simp; omega) | simp
            case c4 => first | omega | (simp; omega) | simp
            case c5 => first | omega | (simp; omega)
            intro v9 w9 ow gr _
            have o9 : ownsP w9 W.heap.size v9 (([] : List (C × Value)) ++ [(⟨ar4, nr4, args4⟩, .slice a4 args4.length cap4)]) := ownsP_snoc (by simp) ow
            have B9 : Below W.heap.size W w9 := (Bq.alloc hsq _).grown gr (by simp; omega) (fun t ht => (Oq.lt t ht).1)
            clear ow gr Oq Bq p0q p1q p2q
            go_wp2
            go_roundw
            case rel => exact ⟨i, j + 1, _, by omega, by omega, by go_num, by go_num, by first | omega | (simp; omega) | (simp at *; omega), o9, HG3, HM3, B9⟩
            case measure => simp [intOf]; omega
          · have hos' : os = ot ++ [lp] := by rw [hos]; simp
            subst hos'
            clear hos
            obtain ⟨g5, pc5, hv, hg5b, hg5l, l0, l1, l2⟩ := ownsP_cells Oz
            subst hv
            obtain ⟨lgood, lok, lle⟩ := HG.out lp (by simp)
            obtain ⟨lc, lv⟩ := lp
            obtain ⟨al, capl, hlv, lus⟩ := lgood
            obtain ⟨lar, lnr, largs⟩ := lc
            simp only at l0 l1 l2 hlv lus lle
            subst hlv
            obtain ⟨N, hN⟩ : ∃ N, ot.length + 1 = N := ⟨_, rfl⟩
            have hN1 : ot.length = N - 1 := by omega
            have hol2 : N ≤ i + j := by simp at hol; omega
            rw [hN1] at l0 l1 l2
            rw [hN] at Oz ⊢
            have HNl : Hid ((ot ++ [((⟨lar, lnr, largs⟩ : C), Value.slice al largs.length capl)]).length = N) := by show _ = _; simp; omega
            have hNp : 1 ≤ N := by omega
            have hNp' : (1 : Int) ≤ (N : Int) := by omega
            have hNw : IntKind.i64.wrap ((N : Int) - 1) = (N : Int) - 1 := by rw [IntKind.wrap_i64]; omega
            have hNt : ((N : Int) - 1).toNat = N - 1 := by omega
            have hNa : (0 : Int) ≤ (N : Int) - 1 := by omega
            have hNb : (N : Int) - 1 < (N : Int) := by omega
            have hGlt := Xz.lt
            obtain ⟨_, p0, p1, p2, _, _, _⟩ := Xz
            have HL2 : Hid (∀ w1, Below wz.heap.size wz w1 → Calls Try.prog 34 #[callV ⟨lar, lnr, largs⟩ (.slice al largs.length capl), callV ⟨ar4, nr4, args4⟩ (.slice a4 args4.length cap4)] w1 fun e w' => e = .returned (.int .i64 (ordC ⟨lar, lnr, largs⟩ ⟨ar4, nr4, args4⟩)) ∧ (Below wz.heap.size wz w' ∧ w'.cell? ⟨g5, (N - 1) * 3, none⟩ = some (.int .u32 lar) ∧ w'.cell? ⟨g5, (N - 1) * 3 + 1, none⟩ = some (.int .u32 lnr) ∧ w'.cell? ⟨g5, (N - 1) * 3 + 2, none⟩ = some (.slice al largs.length capl) ∧ w'.cell? ⟨G, 0, none⟩ = some (.int .u32 ar4) ∧ w'.cell? ⟨G, 1, none⟩ = some (.int .u32 nr4) ∧ w'.cell? ⟨G, 2, none⟩ = some (.slice a4 args4.length cap4))) := by
              intro w1 hb1
              have hW1 : Below W.heap.size W w1 := Bz.trans (hb1.mono Bz.size)
              refine (l2order_any _ _ al a4 capl cap4 _ (lus.below hW1) (hu4.below hW1) lok ky1 (by simp only; omega) (by simp only; omega)).mono ?_
              rintro e w' ⟨rfl, hbz⟩
              have hB' := hb1.trans (hbz.mono hb1.size)
              exact ⟨rfl, hB', (hB'.cell (p := ⟨g5, _, none⟩) hg5l).trans l0, (hB'.cell (p := ⟨g5, _, none⟩) hg5l).trans l1, (hB'.cell (p := ⟨g5, _, none⟩) hg5l).trans l2, (hB'.cell (p := ⟨G, _, none⟩) hGlt).trans p0, (hB'.cell (p := ⟨G, _, none⟩) hGlt).trans p1, (hB'.cell (p := ⟨G, _, none⟩) hGlt).trans p2⟩
            have HP2 : Hid (pushD ((ot ++ [((⟨lar, lnr, largs⟩ : C), Value.slice al largs.length capl)]).map Prod.fst) ⟨ar4, nr4, args4⟩ = if ordC ⟨lar, lnr, largs⟩ ⟨ar4, nr4, args4⟩ = 0 then (ot ++ [((⟨lar, lnr, largs⟩ : C), Value.slice al largs.length capl)]).map Prod.fst else (ot ++ [((⟨lar, lnr, largs⟩ : C), Value.slice al largs.length capl)] ++ [((⟨ar4, nr4, args4⟩ : C), Value.slice a4 args4.length cap4)]).map Prod.fst) := by
              show _ = _
              rw [List.map_append, List.map_append, List.map_append]
              exact push_last _ _ _
            have HG3 : Hid (∀ x ∈ (ot ++ [((⟨lar, lnr, largs⟩ : C), Value.slice al largs.length capl)] ++ [((⟨ar4, nr4, args4⟩ : C), Value.slice a4 args4.length cap4)] : List (C × Value)), good W x ∧ x.1.ok ∧ x.1.args.length ≤ 1048576) := by
              intro x hx
              rw [List.mem_append, List.mem_singleton] at hx
              rcases hx with hx | hx
              · exact HG.out x hx
              · subst hx; exact ⟨⟨a4, cap4, rfl, hu4⟩, ky1, ky2⟩
            have hdr : Below wz.heap.size wz wz.drew := (Below.refl _ _).drew
            generalize hqq : ordC ⟨lar, lnr, largs⟩ ⟨ar4, nr4, args4⟩ = qq at HL2 HP2
            clear hqq lus hub
            have g0 : ((N : Int) == 0) = false := by simp; omega
            clear hN hN1
            go_wp2_with fail
            go_region_held3 (fun w' => Below wz.heap.size wz w' ∧ w'.cell? ⟨g5, (N - 1) * 3, none⟩ = some (.int .u32 lar) ∧ w'.cell? ⟨g5, (N - 1) * 3 + 1, none⟩ = some (.int .u32 lnr) ∧ w'.cell? ⟨g5, (N - 1) * 3 + 2, none⟩ = some (.slice al largs.length capl) ∧ w'.cell? ⟨G, 0, none⟩ = some (.int .u32 ar4) ∧ w'.cell? ⟨G, 1, none⟩ = some (.int .u32 nr4) ∧ w'.cell? ⟨G, 2, none⟩ = some (.slice a4 args4.length cap4))
              (refine ⟨?_, ?_, ?_, ?_, ?_, ?_, ?_⟩ <;> first | assumption | (simp [*]; done))
              (first
                | (go_at_call 34; refine (HL2.out _ (by assumption)).mono ?_; rintro e wq ⟨rfl, k0, k1, k2, k3, k4, k5, k6⟩))
            have Oq := ownsP_below Oz k0
            have Bq := Bz.trans (k0.mono Bz.size)
            clear Oz Bz l0 l1 l2 p0 p1 p2 hdr HL2 k1 k2 k3
            by_cases hq0 : qq = 0
            · have HM3 : Hid (Mid cs ((ot ++ [((⟨lar, lnr, largs⟩ : C), Value.slice al largs.length capl)]).map Prod.fst) (xs.drop (i)) (ys.drop (j + 1))) := by
                have h := HM2.out
                rw [HP2.out, if_pos hq0] at h
                exact h
              subst hq0
              clear HM2 HP2 HG3
              go_wp2
              go_roundw
              case rel => exact ⟨i, j + 1, _, by omega, by omega, by go_num, by go_num, by rw [HNl.out]; omega, Oq, HG, HM3, Bq⟩
              case measure => simp [intOf]; omega
            · have HM3 : Hid (Mid cs ((ot ++ [((⟨lar, lnr, largs⟩ : C), Value.slice al largs.length capl)] ++ [((⟨ar4, nr4, args4⟩ : C), Value.slice a4 args4.length cap4)]).map Prod.fst) (xs.drop (i)) (ys.drop (j + 1))) := by
                have h := HM2.out
                rw [HP2.out, if_neg hq0] at h
                exact h
              have hq1 : (qq != 0) = true := by simpa using hq0
              have hNl2 := HNl.out
              clear HM2 HP2 HG
              have hsq := Bq.size
              go_wp2_with (at_builtin; refine wpList_append_own _ rfl (.tmp 98) (.tmp 100) 35 rfl (W.heap.size) 64 i0 _ 3 32 Try.underlying35 hi hz0 hz1 hz2 rfl (by decide) _ _ _ rfl (Oq.alloc _) ⟨wq.heap.size, 0, none⟩ 1 1 (cC (⟨ar4, nr4, args4⟩, .slice a4 args4.length cap4)) rfl rfl ?c1 (cC_one rfl) ?c3 ?c4 ?c5 ?_)
              case c1 =>
                intro t u ht
                rw [add_at]
                rw [World.cell?_alloc_at _ _ _ _ (by simp)]
                simpa [cC] using ht
              case c3 => unfold maxLen; first | omega | (simp; omega) | simp
              case c4 => first | omega | (simp; omega) | simp
              case c5 => first | omega | (simp; omega)
              intro v9 w9 ow gr _
              have o9 : ownsP w9 W.heap.size v9 ((ot ++ [((⟨lar, lnr, largs⟩ : C), Value.slice al largs.length capl)]) ++ [(⟨ar4, nr4, args4⟩, .slice a4 args4.length cap4)]) := ownsP_snoc (by rw [HNl.out]) ow
              have B9 : Below W.heap.size W w9 := (Bq.alloc hsq _).grown gr (by simp; omega) (fun t ht => (Oq.lt t ht).1)
              clear ow gr Oq Bq k4 k5 k6
              go_wp2
              go_roundw
              case rel => exact ⟨i, j + 1, _, by omega, by omega, by go_num, by go_num, by rw [List.length_append, HNl.out]; simp; omega, o9, HG3, HM3, B9⟩
              case measure => simp [intOf]; omega
      · have hY' : ¬ (j : Int) < (q : Int) := by omega
        have hX' : (i : Int) < (p : Int) := by omega
        obtain ⟨b1, o1, ha, hbl, c0, c1, a1, cap1, c2, hu⟩ := s1.at i (by rw [HPn.out]; exact hX)
        obtain ⟨kok, kle⟩ := HKx.out i hX
        have HM2 : Hid (Mid cs (pushD (os.map Prod.fst) (xs.getD i C.zero)) (xs.drop (i + 1)) (ys.drop (j))) := mid_x HM.out (by rw [HPn.out]; exact hX) (.inl (by rw [HQn.out]; omega))
        subst ha
        have d0 := (hB.cell (p := ⟨b1, _, none⟩) hbl).trans c0
        have d1 := (hB.cell (p := ⟨b1, _, none⟩) hbl).trans c1
        have d2 := (hB.cell (p := ⟨b1, _, none⟩) hbl).trans c2
        generalize xs.getD i C.zero = c at *
        obtain ⟨ar, nr, args⟩ := c
        simp only at d0 d1 d2 hu kle
        clear c0 c1 c2 HX HKx HKy s1 s2 HM
        go_wp2_with fail
        go_quiet (fail)
        have e0 := (bA1.cell (p := ⟨b1, _, none⟩) (Nat.lt_of_lt_of_le hbl hs1)).trans d0
        have e1 := (bA1.cell (p := ⟨b1, _, none⟩) (Nat.lt_of_lt_of_le hbl hs1)).trans d1
        have e2 := (bA1.cell (p := ⟨b1, _, none⟩) (Nat.lt_of_lt_of_le hbl hs1)).trans d2
        have O1 := ownsP_below hown bA1
        have B1 := hB.trans (bA1.mono hs1)
        clear d0 d1 d2 hown hB
        generalize hG : wr.heap.size = G at *
        generalize wr.alloc (.cells #[.int .u32 0, .int .u32 0, .slice none 0 0] 64) = wa at *
        have KB : Below wa.heap.size wa (wa.drewN nq) := below_drewN (Below.refl _ _) nq
        have X2 := X
        obtain ⟨_, t0, t1, t2, z0, z1, z2⟩ := X2
        go_wp2_with fail
        have Xz := (X.keep KB).store (.int .u32 ar) (.int .u32 nr) (.slice a1 args.length cap1)
        have Oz := ownsP_set (D := G) (j := 2) (x := .slice a1 args.length cap1) (ownsP_set (D := G) (j := 1) (x := .int .u32 nr) (ownsP_set (D := G) (j := 0) (x := .int .u32 ar) (ownsP_below O1 KB) (fun t ht => by have := hub t ht; omega)) (fun t ht => by have := hub t ht; omega)) (fun t ht => by have := hub t ht; omega)
        have Bz := (((B1.trans (KB.mono B1.size)).setCell (p := ⟨G, 0, none⟩) hs1 (.int .u32 ar)).setCell (p := ⟨G, 1, none⟩) hs1 (.int .u32 nr)).setCell (p := ⟨G, 2, none⟩) hs1 (.slice a1 args.length cap1)
        generalize (((wa.drewN nq).setCell ⟨G, 0, none⟩ (.int .u32 ar)).setCell ⟨G, 1, none⟩ (.int .u32 nr)).setCell ⟨G, 2, none⟩ (.slice a1 args.length cap1) = wz at *
        clear X O1 B1 KB bA1
        rcases List.eq_nil_or_concat os with hos | ⟨ot, lp, hos⟩
        · subst hos
          have HM3 : Hid (Mid cs (([] ++ [((⟨ar, nr, args⟩ : C), Value.slice a1 args.length cap1)]).map Prod.fst) (xs.drop (i + 1)) (ys.drop (j))) := by
            have h := HM2.out
            rw [List.map_nil, push_nil] at h
            exact h
          have HG3 : Hid (∀ x ∈ ([] ++ [(⟨ar, nr, args⟩, .slice a1 args.length cap1)] : List (C × Value)), good W x ∧ x.1.ok ∧ x.1.args.length ≤ 1048576) := by
            intro x hx
            simp only [List.nil_append, List.mem_singleton] at hx
            subst hx
            exact ⟨⟨a1, cap1, rfl, hu⟩, kok, kle⟩
          obtain ⟨_, p0, p1, p2, _, _, _⟩ := Xz
          have Hnil : ∃ au cu, u3 = .slice au 0 cu := by
            obtain ⟨_, h | ⟨g, pc, cur, hv, _⟩⟩ := Oz
            · exact ⟨none, 0, h.1⟩
            · exact ⟨_, pc, hv⟩
          obtain ⟨au, cu, hv⟩ := Hnil
          subst hv
          clear HM2 HG hub
          go_wp2_with fail
          go_quiet (fail)
          have Oq := ownsP_below Oz (below_drewN (Below.refl _ _) nq)
          have Bq := below_drewN Bz nq
          generalize hwq : wz.drewN nq = wq at *
          have p0q : wq.cell? ⟨G, 0, none⟩ = some (.int .u32 ar) := by rw [← hwq]; exact p0
          have p1q : wq.cell? ⟨G, 1, none⟩ = some (.int .u32 nr) := by rw [← hwq]; exact p1
          have p2q : wq.cell? ⟨G, 2, none⟩ = some (.slice a1 args.length cap1) := by rw [← hwq]; exact p2
          clear hwq p0 p1 p2 Oz Bz
          have hsq := Bq.size
          go_wp2_with (at_builtin; refine wpList_append_own _ rfl (.tmp 98) (.tmp 100) 35 rfl (W.heap.size) 64 i0 _ 3 32 Try.underlying35 hi hz0 hz1 hz2 rfl (by decide) _ _ _ rfl (Oq.alloc _) ⟨wq.heap.size, 0, none⟩ 1 1 (cC (⟨ar, nr, args⟩, .slice a1 args.length cap1)) rfl rfl ?c1 (cC_one rfl) ?c3 ?c4 ?c5 ?_)
          case c1 =>
            intro t u ht
            rw [add_at]
            rw [World.cell?_alloc_at _ _ _ _ (by simp)]
            simpa [cC] using ht
          case c3 => unfold maxLen; first | omega | (simp; omega) | simp
          case c4 => first | omega | (simp; omega) | simp
          case c5 => first | omega | (simp; omega)
          intro v9 w9 ow gr _
          have o9 : ownsP w9 W.heap.size v9 (([] : List (C × Value)) ++ [(⟨ar, nr, args⟩, .slice a1 args.length cap1)]) := ownsP_snoc (by simp) ow
          have B9 : Below W.heap.size W w9 := (Bq.alloc hsq _).grown gr (by simp; omega) (fun t ht => (Oq.lt t ht).1)
          clear ow gr Oq Bq p0q p1q p2q
          go_wp2
          go_roundw
          case rel => exact ⟨i + 1, j, _, by omega, by omega, by go_num, by go_num, by first | omega | (simp; omega) | (simp at *; omega), o9, HG3, HM3, B9⟩
          case measure => simp [intOf]; omega
        · have hos' : os = ot ++ [lp] := by rw [hos]; simp
          subst hos'
          clear hos
          obtain ⟨g5, pc5, hv, hg5b, hg5l, l0, l1, l2⟩ := ownsP_cells Oz
          subst hv
          obtain ⟨lgood, lok, lle⟩ := HG.out lp (by simp)
          obtain ⟨lc, lv⟩ := lp
          obtain ⟨al, capl, hlv, lus⟩ := lgood
          obtain ⟨lar, lnr, largs⟩ := lc
          simp only at l0 l1 l2 hlv lus lle
          subst hlv
          obtain ⟨N, hN⟩ : ∃ N, ot.length + 1 = N := ⟨_, rfl⟩
          have hN1 : ot.length = N - 1 := by omega
          have hol2 : N ≤ i + j := by simp at hol; omega
          rw [hN1] at l0 l1 l2
          rw [hN] at Oz ⊢
          have HNl : Hid ((ot ++ [((⟨lar, lnr, largs⟩ : C), Value.slice al largs.length capl)]).length = N) := by show _ = _; simp; omega
          have hNp : 1 ≤ N := by omega
          have hNp' : (1 : Int) ≤ (N : Int) := by omega
          have hNw : IntKind.i64.wrap ((N : Int) - 1) = (N : Int) - 1 := by rw [IntKind.wrap_i64]; omega
          have hNt : ((N : Int) - 1).toNat = N - 1 := by omega
          have hNa : (0 : Int) ≤ (N : Int) - 1 := by omega
          have hNb : (N : Int) - 1 < (N : Int) := by omega
          have hGlt := Xz.lt
          obtain ⟨_, p0, p1, p2, _, _, _⟩ := Xz
          have HL2 : Hid (∀ w1, Below wz.heap.size wz w1 → Calls Try.prog 34 #[callV ⟨lar, lnr, largs⟩ (.slice al largs.length capl), callV ⟨ar, nr, args⟩ (.slice a1 args.length cap1)] w1 fun e w' => e = .returned (.int .i64 (ordC ⟨lar, lnr, largs⟩ ⟨ar, nr, args⟩)) ∧ (Below wz.heap.size wz w' ∧ w'.cell? ⟨g5, (N - 1) * 3, none⟩ = some (.int .u32 lar) ∧ w'.cell? ⟨g5, (N - 1) * 3 + 1, none⟩ = some (.int .u32 lnr) ∧ w'.cell? ⟨g5, (N - 1) * 3 + 2, none⟩ = some (.slice al largs.length capl) ∧ w'.cell? ⟨G, 0, none⟩ = some (.int .u32 ar) ∧ w'.cell? ⟨G, 1, none⟩ = some (.int .u32 nr) ∧ w'.cell? ⟨G, 2, none⟩ = some (.slice a1 args.length cap1))) := by
            intro w1 hb1
            have hW1 : Below W.heap.size W w1 := Bz.trans (hb1.mono Bz.size)
            refine (l2order_any _ _ al a1 capl cap1 _ (lus.below hW1) (hu.below hW1) lok kok (by simp only; omega) (by simp only; omega)).mono ?_
            rintro e w' ⟨rfl, hbz⟩
            have hB' := hb1.trans (hbz.mono hb1.size)
            exact ⟨rfl, hB', (hB'.cell (p := ⟨g5, _, none⟩) hg5l).trans l0, (hB'.cell (p := ⟨g5, _, none⟩) hg5l).trans l1, (hB'.cell (p := ⟨g5, _, none⟩) hg5l).trans l2, (hB'.cell (p := ⟨G, _, none⟩) hGlt).trans p0, (hB'.cell (p := ⟨G, _, none⟩) hGlt).trans p1, (hB'.cell (p := ⟨G, _, none⟩) hGlt).trans p2⟩
          have HP2 : Hid (pushD ((ot ++ [((⟨lar, lnr, largs⟩ : C), Value.slice al largs.length capl)]).map Prod.fst) ⟨ar, nr, args⟩ = if ordC ⟨lar, lnr, largs⟩ ⟨ar, nr, args⟩ = 0 then (ot ++ [((⟨lar, lnr, largs⟩ : C), Value.slice al largs.length capl)]).map Prod.fst else (ot ++ [((⟨lar, lnr, largs⟩ : C), Value.slice al largs.length capl)] ++ [((⟨ar, nr, args⟩ : C), Value.slice a1 args.length cap1)]).map Prod.fst) := by
            show _ = _
            rw [List.map_append, List.map_append, List.map_append]
            exact push_last _ _ _
          have HG3 : Hid (∀ x ∈ (ot ++ [((⟨lar, lnr, largs⟩ : C), Value.slice al largs.length capl)] ++ [((⟨ar, nr, args⟩ : C), Value.slice a1 args.length cap1)] : List (C × Value)), good W x ∧ x.1.ok ∧ x.1.args.length ≤ 1048576) := by
            intro x hx
            rw [List.mem_append, List.mem_singleton] at hx
            rcases hx with hx | hx
            · exact HG.out x hx
            · subst hx; exact ⟨⟨a1, cap1, rfl, hu⟩, kok, kle⟩
          have hdr : Below wz.heap.size wz wz.drew := (Below.refl _ _).drew
          generalize hqq : ordC ⟨lar, lnr, largs⟩ ⟨ar, nr, args⟩ = qq at HL2 HP2
          clear hqq lus hub
          have g0 : ((N : Int) == 0) = false := by simp; omega
          clear hN hN1
          go_wp2_with fail
          go_region_held3 (fun w' => Below wz.heap.size wz w' ∧ w'.cell? ⟨g5, (N - 1) * 3, none⟩ = some (.int .u32 lar) ∧ w'.cell? ⟨g5, (N - 1) * 3 + 1, none⟩ = some (.int .u32 lnr) ∧ w'.cell? ⟨g5, (N - 1) * 3 + 2, none⟩ = some (.slice al largs.length capl) ∧ w'.cell? ⟨G, 0, none⟩ = some (.int .u32 ar) ∧ w'.cell? ⟨G, 1, none⟩ = some (.int .u32 nr) ∧ w'.cell? ⟨G, 2, none⟩ = some (.slice a1 args.length cap1))
            (refine ⟨?_, ?_, ?_, ?_, ?_, ?_, ?_⟩ <;> first | assumption | (simp [*]; done))
            (first
              | (go_at_call 34; refine (HL2.out _ (by assumption)).mono ?_; rintro e wq ⟨rfl, k0, k1, k2, k3, k4, k5, k6⟩))
          have Oq := ownsP_below Oz k0
          have Bq := Bz.trans (k0.mono Bz.size)
          clear Oz Bz l0 l1 l2 p0 p1 p2 hdr HL2 k1 k2 k3
          by_cases hq0 : qq = 0
          · have HM3 : Hid (Mid cs ((ot ++ [((⟨lar, lnr, largs⟩ : C), Value.slice al largs.length capl)]).map Prod.fst) (xs.drop (i + 1)) (ys.drop (j))) := by
              have h := HM2.out
              rw [HP2.out, if_pos hq0] at h
              exact h
            subst hq0
            clear HM2 HP2 HG3
            go_wp2
            go_roundw
            case rel => exact ⟨i + 1, j, _, by omega, by omega, by go_num, by go_num, by rw [HNl.out]; omega, Oq, HG, HM3, Bq⟩
            case measure => simp [intOf]; omega
          · have HM3 : Hid (Mid cs ((ot ++ [((⟨lar, lnr, largs⟩ : C), Value.slice al largs.length capl)] ++ [((⟨ar, nr, args⟩ : C), Value.slice a1 args.length cap1)]).map Prod.fst) (xs.drop (i + 1)) (ys.drop (j))) := by
              have h := HM2.out
              rw [HP2.out, if_neg hq0] at h
              exact h
            have hq1 : (qq != 0) = true := by simpa using hq0
            have hNl2 := HNl.out
            clear HM2 HP2 HG
            have hsq := Bq.size
            go_wp2_with (at_builtin; refine wpList_append_own _ rfl (.tmp 98) (.tmp 100) 35 rfl (W.heap.size) 64 i0 _ 3 32 Try.underlying35 hi hz0 hz1 hz2 rfl (by decide) _ _ _ rfl (Oq.alloc _) ⟨wq.heap.size, 0, none⟩ 1 1 (cC (⟨ar, nr, args⟩, .slice a1 args.length cap1)) rfl rfl ?c1 (cC_one rfl) ?c3 ?c4 ?c5 ?_)
            case c1 =>
              intro t u ht
              rw [add_at]
              rw [World.cell?_alloc_at _ _ _ _ (by simp)]
              simpa [cC] using ht
            case c3 => unfold maxLen; first | omega | (simp; omega) | simp
            case c4 => first | omega | (simp; omega) | simp
            case c5 => first | omega | (simp; omega)
            intro v9 w9 ow gr _
            have o9 : ownsP w9 W.heap.size v9 ((ot ++ [((⟨lar, lnr, largs⟩ : C), Value.slice al largs.length capl)]) ++ [(⟨ar, nr, args⟩, .slice a1 args.length cap1)]) := ownsP_snoc (by rw [HNl.out]) ow
            have B9 : Below W.heap.size W w9 := (Bq.alloc hsq _).grown gr (by simp; omega) (fun t ht => (Oq.lt t ht).1)
            clear ow gr Oq Bq k4 k5 k6
            go_wp2
            go_roundw
            case rel => exact ⟨i + 1, j, _, by omega, by omega, by go_num, by go_num, by rw [List.length_append, HNl.out]; simp; omega, o9, HG3, HM3, B9⟩
            case measure => simp [intOf]; omega
    · by_cases hY : j < q
      · have hY' : (j : Int) < (q : Int) := by omega
        have hX' : ¬ (i : Int) < (p : Int) := by omega
        have hY2 : ¬ (q : Int) ≤ (j : Int) := by omega
        obtain ⟨b1, o1, ha, hbl, c0, c1, a1, cap1, c2, hu⟩ := s2.at j (by rw [HQn.out]; exact hY)
        obtain ⟨kok, kle⟩ := HKy.out j hY
        have HM2 : Hid (Mid cs (pushD (os.map Prod.fst) (ys.getD j C.zero)) (xs.drop (i)) (ys.drop (j + 1))) := mid_y HM.out (by rw [HQn.out]; exact hY) (.inl (by rw [HPn.out]; omega))
        subst ha
        have d0 := (hB.cell (p := ⟨b1, _, none⟩) hbl).trans c0
        have d1 := (hB.cell (p := ⟨b1, _, none⟩) hbl).trans c1
        have d2 := (hB.cell (p := ⟨b1, _, none⟩) hbl).trans c2
        generalize ys.getD j C.zero = c at *
        obtain ⟨ar, nr, args⟩ := c
        simp only at d0 d1 d2 hu kle
        clear c0 c1 c2 HX HKx HKy s1 s2 HM
        go_wp2_with fail
        have e0 := (bA1.cell (p := ⟨b1, _, none⟩) (Nat.lt_of_lt_of_le hbl hs1)).trans d0
        have e1 := (bA1.cell (p := ⟨b1, _, none⟩) (Nat.lt_of_lt_of_le hbl hs1)).trans d1
        have e2 := (bA1.cell (p := ⟨b1, _, none⟩) (Nat.lt_of_lt_of_le hbl hs1)).trans d2
        have O1 := ownsP_below hown bA1
        have B1 := hB.trans (bA1.mono hs1)
        clear d0 d1 d2 hown hB
        generalize hG : wr.heap.size = G at *
        generalize wr.alloc (.cells #[.int .u32 0, .int .u32 0, .slice none 0 0] 64) = wa at *
        have g1 : decide ((q : Int) ≤ (j : Int)) = false := by simp; omega
        have g2 : decide ((i : Int) < (p : Int)) = false := by simp; omega
        have g3 : ¬ (q : Int) ≤ (j : Int) := by omega
        have g4 : (p : Int) ≤ (i : Int) := by omega
        go_quiet (fail)
        have KB : Below wa.heap.size wa (wa.drewN nq) := below_drewN (Below.refl _ _) nq
        have X2 := X.keep KB
        obtain ⟨_, t0, t1, t2, z0, z1, z2⟩ := X2
        go_wp2_with fail
        have Xz := (X.keep KB).store (.int .u32 ar) (.int .u32 nr) (.slice a1 args.length cap1)
        have Oz := ownsP_set (D := G) (j := 2) (x := .slice a1 args.length cap1) (ownsP_set (D := G) (j := 1) (x := .int .u32 nr) (ownsP_set (D := G) (j := 0) (x := .int .u32 ar) (ownsP_below O1 KB) (fun t ht => by have := hub t ht; omega)) (fun t ht => by have := hub t ht; omega)) (fun t ht => by have := hub t ht; omega)
        have Bz := (((B1.trans (KB.mono B1.size)).setCell (p := ⟨G, 0, none⟩) hs1 (.int .u32 ar)).setCell (p := ⟨G, 1, none⟩) hs1 (.int .u32 nr)).setCell (p := ⟨G, 2, none⟩) hs1 (.slice a1 args.length cap1)
        generalize (((wa.drewN nq).setCell ⟨G, 0, none⟩ (.int .u32 ar)).setCell ⟨G, 1, none⟩ (.int .u32 nr)).setCell ⟨G, 2, none⟩ (.slice a1 args.length cap1) = wz at *
        clear X O1 B1 KB bA1
        rcases List.eq_nil_or_concat os with hos | ⟨ot, lp, hos⟩
        · subst hos
          have HM3 : Hid (Mid cs (([] ++ [((⟨ar, nr, args⟩ : C), Value.slice a1 args.length cap1)]).map Prod.fst) (xs.drop (i)) (ys.drop (j + 1))) := by
            have h := HM2.out
            rw [List.map_nil, push_nil] at h
            exact h
          have HG3 : Hid (∀ x ∈ ([] ++ [(⟨ar, nr, args⟩, .slice a1 args.length cap1)] : List (C × Value)), good W x ∧ x.1.ok ∧ x.1.args.length ≤ 1048576) := by
            intro x hx
            simp only [List.nil_append, List.mem_singleton] at hx
            subst hx
            exact ⟨⟨a1, cap1, rfl, hu⟩, kok, kle⟩
          obtain ⟨_, p0, p1, p2, _, _, _⟩ := Xz
          have Hnil : ∃ au cu, u3 = .slice au 0 cu := by
            obtain ⟨_, h | ⟨g, pc, cur, hv, _⟩⟩ := Oz
            · exact ⟨none, 0, h.1⟩
            · exact ⟨_, pc, hv⟩
          obtain ⟨au, cu, hv⟩ := Hnil
          subst hv
          clear HM2 HG hub
          go_wp2_with fail
          go_quiet (fail)
          have Oq := ownsP_below Oz (below_drewN (Below.refl _ _) nq)
          have Bq := below_drewN Bz nq
          generalize hwq : wz.drewN nq = wq at *
          have p0q : wq.cell? ⟨G, 0, none⟩ = some (.int .u32 ar) := by rw [← hwq]; exact p0
          have p1q : wq.cell? ⟨G, 1, none⟩ = some (.int .u32 nr) := by rw [← hwq]; exact p1
          have p2q : wq.cell? ⟨G, 2, none⟩ = some (.slice a1 args.length cap1) := by rw [← hwq]; exact p2
          clear hwq p0 p1 p2 Oz Bz
          have hsq := Bq.size
          go_wp2_with (at_builtin; refine wpList_append_own _ rfl (.tmp 98) (.tmp 100) 35 rfl (W.heap.size) 64 i0 _ 3 32 Try.underlying35 hi hz0 hz1 hz2 rfl (by decide) _ _ _ rfl (Oq.alloc _) ⟨wq.heap.size, 0, none⟩ 1 1 (cC (⟨ar, nr, args⟩, .slice a1 args.length cap1)) rfl rfl ?c1 (cC_one rfl) ?c3 ?c4 ?c5 ?_)
          case c1 =>
            intro t u ht
            rw [add_at]
            rw [World.cell?_alloc_at _ _ _ _ (by simp)]
            simpa [cC] using ht
          case c3 => unfold maxLen; first | omega | (simp; omega) | simp
          case c4 => first | omega | (simp; omega) | simp
          case c5 => first | omega | (simp; omega)
          intro v9 w9 ow gr _
          have o9 : ownsP w9 W.heap.size v9 (([] : List (C × Value)) ++ [(⟨ar, nr, args⟩, .slice a1 args.length cap1)]) := ownsP_snoc (by simp) ow
          have B9 : Below W.heap.size W w9 := (Bq.alloc hsq _).grown gr (by simp; omega) (fun t ht => (Oq.lt t ht).1)
          clear ow gr Oq Bq p0q p1q p2q
          go_wp2
          go_roundw
          case rel => exact ⟨i, j + 1, _, by omega, by omega, by go_num, by go_num, by first | omega | (simp; omega) | (simp at *; omega), o9, HG3, HM3, B9⟩
          case measure => simp [intOf]; omega
        · have hos' : os = ot ++ [lp] := by rw [hos]; simp
          subst hos'
          clear hos
          obtain ⟨g5, pc5, hv, hg5b, hg5l, l0, l1, l2⟩ := ownsP_cells Oz
          subst hv
          obtain ⟨lgood, lok, lle⟩ := HG.out lp (by simp)
          obtain ⟨lc, lv⟩ := lp
          obtain ⟨al, capl, hlv, lus⟩ := lgood
          obtain ⟨lar, lnr, largs⟩ := lc
          simp only at l0 l1 l2 hlv lus lle
          subst hlv
          obtain ⟨N, hN⟩ : ∃ N, ot.length + 1 = N := ⟨_, rfl⟩
          have hN1 : ot.length = N - 1 := by omega
          have hol2 : N ≤ i + j := by simp at hol; omega
          rw [hN1] at l0 l1 l2
          rw [hN] at Oz ⊢
          have HNl : Hid ((ot ++ [((⟨lar, lnr, largs⟩ : C), Value.slice al largs.length capl)]).length = N) := by show _ = _; simp; omega
          have hNp : 1 ≤ N := by omega
          have hNp' : (1 : Int) ≤ (N : Int) := by omega
          have hNw : IntKind.i64.wrap ((N : Int) - 1) = (N : Int) - 1 := by rw [IntKind.wrap_i64]; omega
          have hNt : ((N : Int) - 1).toNat = N - 1 := by omega
          have hNa : (0 : Int) ≤ (N : Int) - 1 := by omega
          have hNb : (N : Int) - 1 < (N : Int) := by omega
          have hGlt := Xz.lt
          obtain ⟨_, p0, p1, p2, _, _, _⟩ := Xz
          have HL2 : Hid (∀ w1, Below wz.heap.size wz w1 → Calls Try.prog 34 #[callV ⟨lar, lnr, largs⟩ (.slice al largs.length capl), callV ⟨ar, nr, args⟩ (.slice a1 args.length cap1)] w1 fun e w' => e = .returned (.int .i64 (ordC ⟨lar, lnr, largs⟩ ⟨ar, nr, args⟩)) ∧ (Below wz.heap.size wz w' ∧ w'.cell? ⟨g5, (N - 1) * 3, none⟩ = some (.int .u32 lar) ∧ w'.cell? ⟨g5, (N - 1) * 3 + 1, none⟩ = some (.int .u32 lnr) ∧ w'.cell? ⟨g5, (N - 1) * 3 + 2, none⟩ = some (.slice al largs.length capl) ∧ w'.cell? ⟨G, 0, none⟩ = some (.int .u32 ar) ∧ w'.cell? ⟨G, 1, none⟩ = some (.int .u32 nr) ∧ w'.cell? ⟨G, 2, none⟩ = some (.slice a1 args.length cap1))) := by
            intro w1 hb1
            have hW1 : Below W.heap.size W w1 := Bz.trans (hb1.mono Bz.size)
            refine (l2order_any _ _ al a1 capl cap1 _ (lus.below hW1) (hu.below hW1) lok kok (by simp only; omega) (by simp only; omega)).mono ?_
            rintro e w' ⟨rfl, hbz⟩
            have hB' := hb1.trans (hbz.mono hb1.size)
            exact ⟨rfl, hB', (hB'.cell (p := ⟨g5, _, none⟩) hg5l).trans l0, (hB'.cell (p := ⟨g5, _, none⟩) hg5l).trans l1, (hB'.cell (p := ⟨g5, _, none⟩) hg5l).trans l2, (hB'.cell (p := ⟨G, _, none⟩) hGlt).trans p0, (hB'.cell (p := ⟨G, _, none⟩) hGlt).trans p1, (hB'.cell (p := ⟨G, _, none⟩) hGlt).trans p2⟩
          have HP2 : Hid (pushD ((ot ++ [((⟨lar, lnr, largs⟩ : C), Value.slice al largs.length capl)]).map Prod.fst) ⟨ar, nr, args⟩ = if ordC ⟨lar, lnr, largs⟩ ⟨ar, nr, args⟩ = 0 then (ot ++ [((⟨lar, lnr, largs⟩ : C), Value.slice al largs.length capl)]).map Prod.fst else (ot ++ [((⟨lar, lnr, largs⟩ : C), Value.slice al largs.length capl)] ++ [((⟨ar, nr, args⟩ : C), Value.slice a1 args.length cap1)]).map Prod.fst) := by
            show _ = _
            rw [List.map_append, List.map_append, List.map_append]
            exact push_last _ _ _
          have HG3 : Hid (∀ x ∈ (ot ++ [((⟨lar, lnr, largs⟩ : C), Value.slice al largs.length capl)] ++ [((⟨ar, nr, args⟩ : C), Value.slice a1 args.length cap1)] : List (C × Value)), good W x ∧ x.1.ok ∧ x.1.args.length ≤ 1048576) := by
            intro x hx
            rw [List.mem_append, List.mem_singleton] at hx
            rcases hx with hx | hx
            · exact HG.out x hx
            · subst hx; exact ⟨⟨a1, cap1, rfl, hu⟩, kok, kle⟩
          have hdr : Below wz.heap.size wz wz.drew := (Below.refl _ _).drew
          generalize hqq : ordC ⟨lar, lnr, largs⟩ ⟨ar, nr, args⟩ = qq at HL2 HP2
          clear hqq lus hub
          have g0 : ((N : Int) == 0) = false := by simp; omega
          clear hN hN1
          go_wp2_with fail
          go_region_held3 (fun w' => Below wz.heap.size wz w' ∧ w'.cell? ⟨g5, (N - 1) * 3, none⟩ = some (.int .u32 lar) ∧ w'.cell? ⟨g5, (N - 1) * 3 + 1, none⟩ = some (.int .u32 lnr) ∧ w'.cell? ⟨g5, (N - 1) * 3 + 2, none⟩ = some (.slice al largs.length capl) ∧ w'.cell? ⟨G, 0, none⟩ = some (.int .u32 ar) ∧ w'.cell? ⟨G, 1, none⟩ = some (.int .u32 nr) ∧ w'.cell? ⟨G, 2, none⟩ = some (.slice a1 args.length cap1))
            (refine ⟨?_, ?_, ?_, ?_, ?_, ?_, ?_⟩ <;> first | assumption | (simp [*]; done))
            (first
              | (go_at_call 34; refine (HL2.out _ (by assumption)).mono ?_; rintro e wq ⟨rfl, k0, k1, k2, k3, k4, k5, k6⟩))
          have Oq := ownsP_below Oz k0
          have Bq := Bz.trans (k0.mono Bz.size)
          clear Oz Bz l0 l1 l2 p0 p1 p2 hdr HL2 k1 k2 k3
          by_cases hq0 : qq = 0
          · have HM3 : Hid (Mid cs ((ot ++ [((⟨lar, lnr, largs⟩ : C), Value.slice al largs.length capl)]).map Prod.fst) (xs.drop (i)) (ys.drop (j + 1))) := by
              have h := HM2.out
              rw [HP2.out, if_pos hq0] at h
              exact h
            subst hq0
            clear HM2 HP2 HG3
            go_wp2
            go_roundw
            case rel => exact ⟨i, j + 1, _, by omega, by omega, by go_num, by go_num, by rw [HNl.out]; omega, Oq, HG, HM3, Bq⟩
            case measure => simp [intOf]; omega
          · have HM3 : Hid (Mid cs ((ot ++ [((⟨lar, lnr, largs⟩ : C), Value.slice al largs.length capl)] ++ [((⟨ar, nr, args⟩ : C), Value.slice a1 args.length cap1)]).map Prod.fst) (xs.drop (i)) (ys.drop (j + 1))) := by
              have h := HM2.out
              rw [HP2.out, if_neg hq0] at h
              exact h
            have hq1 : (qq != 0) = true := by simpa using hq0
            have hNl2 := HNl.out
            clear HM2 HP2 HG
            have hsq := Bq.size
            go_wp2_with (at_builtin; refine wpList_append_own _ rfl (.tmp 98) (.tmp 100) 35 rfl (W.heap.size) 64 i0 _ 3 32 Try.underlying35 hi hz0 hz1 hz2 rfl (by decide) _ _ _ rfl (Oq.alloc _) ⟨wq.heap.size, 0, none⟩ 1 1 (cC (⟨ar, nr, args⟩, .slice a1 args.length cap1)) rfl rfl ?c1 (cC_one rfl) ?c3 ?c4 ?c5 ?_)
            case c1 =>
              intro t u ht
              rw [add_at]
              rw [World.cell?_alloc_at _ _ _ _ (by simp)]
              simpa [cC] using ht
            case c3 => unfold maxLen; first | omega | (simp; omega) | simp
            case c4 => first | omega | (simp; omega) | simp
            case c5 => first | omega | (simp; omega)
            intro v9 w9 ow gr _
            have o9 : ownsP w9 W.heap.size v9 ((ot ++ [((⟨lar, lnr, largs⟩ : C), Value.slice al largs.length capl)]) ++ [(⟨ar, nr, args⟩, .slice a1 args.length cap1)]) := ownsP_snoc (by rw [HNl.out]) ow
            have B9 : Below W.heap.size W w9 := (Bq.alloc hsq _).grown gr (by simp; omega) (fun t ht => (Oq.lt t ht).1)
            clear ow gr Oq Bq k4 k5 k6
            go_wp2
            go_roundw
            case rel => exact ⟨i, j + 1, _, by omega, by omega, by go_num, by go_num, by rw [List.length_append, HNl.out]; simp; omega, o9, HG3, HM3, B9⟩
            case measure => simp [intOf]; omega
      · have hX' : ¬ (i : Int) < (p : Int) := by omega
        have hY' : ¬ (j : Int) < (q : Int) := by omega
        have HD : Hid (IsDist cs (os.map Prod.fst)) := by
          have h := HM.out
          rw [List.drop_eq_nil_of_le (by rw [HPn.out]; omega), List.drop_eq_nil_of_le (by rw [HQn.out]; omega)] at h
          exact h.done
        obtain ⟨af, cf, hv, _, hcs⟩ := ownsP_src hown (fun x hx => ((HG.out x hx).1).below hB)
        subst hv
        have BF := B0.trans (hB.mono B0.size)
        have hlm : (os.map Prod.fst).length = os.length := by simp
        clear HX HKx HKy s1 s2 HM hown HG X bA1
        go_wp2
        go_ret
        exact ⟨os.map Prod.fst, af, ⟨cf, by rw [hlm]; rfl⟩, HD.out, by rw [hlm]; omega, hcs, BF⟩

theorem specDist_any (cs : List C) : DistAt cs := by
  have key : ∀ (N : Nat) (ds : List C), ds.length ≤ N → DistAt ds := by
    intro N
    induction N with
    | zero =>
      intro ds hds a cap w hs hcap hok hn
      obtain rfl : ds = [] := List.eq_nil_of_length_eq_zero (by omega)
      refine (specDist_none a cap w).mono ?_
      rintro e w' ⟨rfl, rfl⟩
      exact ⟨[], none, 0, rfl, isDist_nil, Nat.le_refl _, .inl rfl, Below.refl _ _⟩
    | succ N ih =>
      intro ds hds
      by_cases h2 : 2 ≤ ds.length
      · exact specDist_merge ds h2 (fun es hes => ih es (by omega))
      · intro a cap w hs hcap hok hn
        match ds, h2 with
        | [], _ =>
          refine (specDist_none a cap w).mono ?_
          rintro e w' ⟨rfl, rfl⟩
          exact ⟨[], none, 0, rfl, isDist_nil, Nat.le_refl _, .inl rfl, Below.refl _ _⟩
        | [c], _ =>
          refine (specDist_one c a cap w hs (hok c (by simp)).2).mono ?_
          rintro e w' ⟨a', cap', rfl, h3, h4⟩
          exact ⟨[c], a', cap', rfl, isDist_one c, Nat.le_refl _, h3, h4⟩
        | _ :: _ :: _, h => exact absurd (by simp) h
  exact key cs.length cs (Nat.le_refl _)
end Go.Proofs.Ytpbljegjinjmnaa
