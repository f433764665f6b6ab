/-
  SamP, SamQ
-/
import Derived.Test.YtoamapdfcdefjaaGreatQ11
import Derived.Deep.RegionHeld3
import Derived.Test.YtoamapdfcdefjaaGreatQ10
import Derived.Deep.Cut
namespace Go.Proofs.YtoamapdfcdefjaaGreat
open Go.RowKit Go.Deep
set_option linter.unusedVariables false

set_option maxRecDepth 100000 in
set_option maxHeartbeats 1000000 in
theorem sameCon_same (c : K) (w : World) :
    Calls Tryz.prog 40 #[conV c, conV c] w fun e w' => e = .returned (.bool true) ∧ Below w.heap.size w w' := by
  go_enter Tryz.func40, Tryz.ntmps40
  go_wp2
  go_ret
  exact ⟨rfl, ((Below.refl _ _).alloc (Nat.le_refl _) _).alloc (by simp) _⟩

set_option maxRecDepth 100000 in
set_option maxHeartbeats 4000000 in
theorem sameRule_same (r : List K) (a a' : Option Addr) (cap cap' : Nat) (w : World) (hs : LSrc 3 PK w a r) (hs' : LSrc 3 PK w a' r) (hn : r.length ≤ 16777216) :
    Calls Tryz.prog 21 #[.agg #[.slice a r.length cap], .agg #[.slice a' r.length cap']] w fun e w' => e = .returned (.bool true) ∧ Below w.heap.size w w' := by
  have HP : Hid (∀ wr, Below w.heap.size w wr → ∀ i, i < r.length → ∃ b o, a = some ⟨b, o, none⟩ ∧ b < w.heap.size ∧ PK wr b (o + i * 3) (r.getD i K.zero)) := fun wr hB i hi => by
    obtain ⟨b, o, e, hlt, hp⟩ := hs.at hi K.zero
    exact ⟨b, o, e, hlt, PK.stays _ _ _ _ _ hlt hB hp⟩
  have HP' : Hid (∀ wr, Below w.heap.size w wr → ∀ i, i < r.length → ∃ b o, a' = some ⟨b, o, none⟩ ∧ b < w.heap.size ∧ PK wr b (o + i * 3) (r.getD i K.zero)) := fun wr hB i hi => by
    obtain ⟨b, o, e, hlt, hp⟩ := hs'.at hi K.zero
    exact ⟨b, o, e, hlt, PK.stays _ _ _ _ _ hlt hB hp⟩
  clear hs hs'
  obtain ⟨n, hn'⟩ : ∃ n, r.length = n := ⟨_, rfl⟩
  rw [hn'] at HP HP' hn ⊢
  clear hn'
  have x0 := box1 w 44 (.slice a n cap)
  have b0 : Below w.heap.size w (w.alloc (.cells #[.slice a n cap] 44)) := (Below.refl _ _).alloc (Nat.le_refl _) _
  have e0 : (w.alloc (.cells #[.slice a n cap] 44)).heap.size = w.heap.size + 1 := by simp
  have x1 := box1 (w.alloc (.cells #[.slice a n cap] 44)) 44 (.slice a' n cap')
  rw [e0] at x1
  have b1 : Below (w.heap.size + 1) (w.alloc (.cells #[.slice a n cap] 44)) ((w.alloc (.cells #[.slice a n cap] 44)).alloc (.cells #[.slice a' n cap'] 44)) := (Below.refl _ _).alloc (by simp) _
  have y0 := (b1.cell (p := ⟨w.heap.size, 0, none⟩) (by show w.heap.size < w.heap.size + 1; omega)).trans x0
  have B2 := b0.trans (b1.mono (by omega))
  have e2 : w.heap.size + 2 ≤ ((w.alloc (.cells #[.slice a n cap] 44)).alloc (.cells #[.slice a' n cap'] 44)).heap.size := by simp
  clear x0 b0 e0 b1
  go_enter Tryz.func21, Tryz.ntmps21
  go_wp2_with fail
  generalize ((w.alloc (.cells #[.slice a n cap] 44)).alloc (.cells #[.slice a' n cap'] 44)) = W at *
  have HX : Hid (∀ wr, Below W.heap.size W wr → wr.cell? ⟨w.heap.size, 0, none⟩ = some (.slice a n cap) ∧ wr.cell? ⟨w.heap.size + 1, 0, none⟩ = some (.slice a' n cap') ∧ Below w.heap.size w wr) := fun wr hb => ⟨(hb.cell (p := ⟨w.heap.size, 0, none⟩) (by show w.heap.size < _; omega)).trans y0, (hb.cell (p := ⟨w.heap.size + 1, 0, none⟩) (by show w.heap.size + 1 < _; omega)).trans x1, B2.trans (hb.mono (by omega))⟩
  go_loopw [5] (fun i wr => ∃ k : Nat, k ≤ n ∧ i = .int .i64 k ∧ Below W.heap.size W wr) (fun i _ => n - (intOf i).toNat)
  case atStart => exact ⟨0, by omega, rfl, Below.refl _ _⟩
  case round =>
    obtain ⟨k, hk, rfl, B⟩ := hrel
    clear y0 x1
    obtain ⟨c0, c1, Bw⟩ := HX.out _ B
    by_cases hkn : k < n
    · obtain ⟨b, o, rfl, hlt, _⟩ := HP.out wr Bw k hkn
      obtain ⟨b', o', rfl, hlt', _⟩ := HP'.out wr Bw k hkn
      have hkn' : (k : Int) < (n : Int) := by omega
      have HC : Hid (∀ w1, Calls Tryz.prog 40 #[conV (r.getD k K.zero), conV (r.getD k K.zero)] w1 fun e w' => e = .returned (.bool true) ∧ Below w1.heap.size w1 w') := fun w1 => sameCon_same _ w1
      have HK : Hid (∀ wr, Below w.heap.size w wr → PK wr b (o + k * 3) (r.getD k K.zero) ∧ PK wr b' (o' + k * 3) (r.getD k K.zero)) := fun wr hB => by
        obtain ⟨b2, o2, e2, _, p2⟩ := HP.out wr hB k hkn
        obtain ⟨b3, o3, e3, _, p3⟩ := HP'.out wr hB k hkn
        simp only [Option.some.injEq, Addr.mk.injEq, and_true] at e2 e3
        obtain ⟨rfl, rfl⟩ := e2
        obtain ⟨rfl, rfl⟩ := e3
        exact ⟨p2, p3⟩
      generalize r.getD k K.zero = C at *
      obtain ⟨ck, ca, cb⟩ := C
      have SK : Hid (∀ wr, Below W.heap.size W wr → wr.cell? ⟨w.heap.size, 0, none⟩ = some (.slice (some ⟨b, o, none⟩) n cap) ∧ wr.cell? ⟨w.heap.size + 1, 0, none⟩ = some (.slice (some ⟨b', o', none⟩) n cap') ∧ wr.cell? ⟨b, o + k * 3, none⟩ = some (.int .i64 ck) ∧ wr.cell? ⟨b, o + k * 3 + 1, none⟩ = some (.int .u64 (ca : Int)) ∧ wr.cell? ⟨b, o + k * 3 + 2, none⟩ = some (.int .u64 (cb : Int)) ∧ wr.cell? ⟨b', o' + k * 3, none⟩ = some (.int .i64 ck) ∧ wr.cell? ⟨b', o' + k * 3 + 1, none⟩ = some (.int .u64 (ca : Int)) ∧ wr.cell? ⟨b', o' + k * 3 + 2, none⟩ = some (.int .u64 (cb : Int)) ∧ Below W.heap.size W wr) := fun wr hB => by
        obtain ⟨h1, h2, h3⟩ := HX.out wr hB
        obtain ⟨⟨p0, p1, p2⟩, q0, q1, q2⟩ := HK.out wr h3
        exact ⟨h1, h2, p0, p1, p2, q0, q1, q2, hB⟩
      have hS1 := SK.out wr.drew B.drew
      clear HP HP' HX HK
      go_wp2_with fail
      clear c0 c1
      go_region_held3 (fun wr => wr.cell? ⟨w.heap.size, 0, none⟩ = some (.slice (some ⟨b, o, none⟩) n cap) ∧ wr.cell? ⟨w.heap.size + 1, 0, none⟩ = some (.slice (some ⟨b', o', none⟩) n cap') ∧ wr.cell? ⟨b, o + k * 3, none⟩ = some (.int .i64 ck) ∧ wr.cell? ⟨b, o + k * 3 + 1, none⟩ = some (.int .u64 (ca : Int)) ∧ wr.cell? ⟨b, o + k * 3 + 2, none⟩ = some (.int .u64 (cb : Int)) ∧ wr.cell? ⟨b', o' + k * 3, none⟩ = some (.int .i64 ck) ∧ wr.cell? ⟨b', o' + k * 3 + 1, none⟩ = some (.int .u64 (ca : Int)) ∧ wr.cell? ⟨b', o' + k * 3 + 2, none⟩ = some (.int .u64 (cb : Int)) ∧ Below W.heap.size W wr)
        (assumption)
        (first
          | (go_at_call 40; refine (HC.out _).mono ?_; rintro _ w8 ⟨rfl, hb8⟩; have hB8 := hS1.2.2.2.2.2.2.2.2.trans (hb8.mono hS1.2.2.2.2.2.2.2.2.size); have hS8 := SK.out _ hB8))
      clear hS1 hS8 SK HC
      go_wp2
      go_roundw
      case rel => exact ⟨k + 1, by omega, by go_num, hB8⟩
      case measure => simp [intOf]; omega
    · go_wp2
      go_ret
      exact ⟨rfl, Bw⟩
end Go.Proofs.YtoamapdfcdefjaaGreat
namespace Go.Proofs.YtoamapdfcdefjaaGreat
open Go.RowKit Go.Deep
set_option linter.unusedVariables false

theorem stay1 {w wr : World} {b o : Nat} {v : Value} (h : Below w.heap.size w wr) (hb : b < w.heap.size) (hc : w.cell? ⟨b, o, none⟩ = some v) : wr.cell? ⟨b, o, none⟩ = some v := (h.cell (p := ⟨b, o, none⟩) hb).trans hc

set_option maxRecDepth 100000 in
set_option maxHeartbeats 4000000 in
theorem samePolicy_same (P : List E) (a a' : Option Addr) (cap cap' : Nat) (w : World) (hs : LSrc 3 PE w a P) (hs' : LSrc 3 PE w a' P) (hn : P.length ≤ 16777216) (hm : ∀ e ∈ P, e.rules.length ≤ 16777216) (hm2 : ∀ e ∈ P, ∀ r ∈ e.rules, r.length ≤ 16777216) :
    Calls Tryz.prog 9 #[.agg #[.slice a P.length cap], .agg #[.slice a' P.length cap']] w fun e w' => e = .returned (.bool true) ∧ Below w.heap.size w w' := by
  have HP : Hid (∀ wr, Below w.heap.size w wr → ∀ i, i < P.length → ∃ b o, a = some ⟨b, o, none⟩ ∧ b < w.heap.size ∧ PE wr b (o + i * 3) (P.getD i E.zero)) := fun wr hB i hi => by
    obtain ⟨b, o, e, hlt, hp⟩ := hs.at hi E.zero
    exact ⟨b, o, e, hlt, PE.stays _ _ _ _ _ hlt hB hp⟩
  have HP' : Hid (∀ wr, Below w.heap.size w wr → ∀ i, i < P.length → ∃ b o, a' = some ⟨b, o, none⟩ ∧ b < w.heap.size ∧ PE wr b (o + i * 3) (P.getD i E.zero)) := fun wr hB i hi => by
    obtain ⟨b, o, e, hlt, hp⟩ := hs'.at hi E.zero
    exact ⟨b, o, e, hlt, PE.stays _ _ _ _ _ hlt hB hp⟩
  have HM : Hid (∀ i, i < P.length → (P.getD i E.zero).rules.length ≤ 16777216 ∧ ∀ t, t < (P.getD i E.zero).rules.length → ((P.getD i E.zero).rules.getD t []).length ≤ 16777216) := fun i hi => by
    have hmem : P.getD i E.zero ∈ P := by rw [List.getD_eq_getElem?_getD, List.getElem?_eq_getElem hi]; exact List.getElem_mem hi
    have hg : ∀ (l : List (List K)) t, t < l.length → l.getD t [] ∈ l := fun l t ht => by rw [List.getD_eq_getElem?_getD, List.getElem?_eq_getElem ht]; exact List.getElem_mem ht
    exact ⟨hm _ hmem, fun t ht => hm2 _ hmem _ (hg _ t ht)⟩
  clear hs hs' hm hm2
  obtain ⟨n, hn'⟩ : ∃ n, P.length = n := ⟨_, rfl⟩
  rw [hn'] at HP HP' HM hn ⊢
  clear hn'
  have x0 := box1 w 25 (.slice a n cap)
  have b0 : Below w.heap.size w (w.alloc (.cells #[.slice a n cap] 25)) := (Below.refl _ _).alloc (Nat.le_refl _) _
  have e0 : (w.alloc (.cells #[.slice a n cap] 25)).heap.size = w.heap.size + 1 := by simp
  have x1 := box1 (w.alloc (.cells #[.slice a n cap] 25)) 25 (.slice a' n cap')
  rw [e0] at x1
  have b1 : Below (w.heap.size + 1) (w.alloc (.cells #[.slice a n cap] 25)) ((w.alloc (.cells #[.slice a n cap] 25)).alloc (.cells #[.slice a' n cap'] 25)) := (Below.refl _ _).alloc (by simp) _
  have y0 := (b1.cell (p := ⟨w.heap.size, 0, none⟩) (by show w.heap.size < w.heap.size + 1; omega)).trans x0
  have B2 := b0.trans (b1.mono (by omega))
  have e2 : w.heap.size + 2 ≤ ((w.alloc (.cells #[.slice a n cap] 25)).alloc (.cells #[.slice a' n cap'] 25)).heap.size := by simp
  clear x0 b0 e0 b1
  go_enter Tryz.func9, Tryz.ntmps9
  go_wp2_with fail
  generalize ((w.alloc (.cells #[.slice a n cap] 25)).alloc (.cells #[.slice a' n cap'] 25)) = W at *
  have HX : Hid (∀ wr, Below W.heap.size W wr → wr.cell? ⟨w.heap.size, 0, none⟩ = some (.slice a n cap) ∧ wr.cell? ⟨w.heap.size + 1, 0, none⟩ = some (.slice a' n cap') ∧ Below w.heap.size w wr) := fun wr hb => ⟨(hb.cell (p := ⟨w.heap.size, 0, none⟩) (by show w.heap.size < _; omega)).trans y0, (hb.cell (p := ⟨w.heap.size + 1, 0, none⟩) (by show w.heap.size + 1 < _; omega)).trans x1, B2.trans (hb.mono (by omega))⟩
  go_loopw [5] (fun i wr => ∃ k : Nat, k ≤ n ∧ i = .int .i64 k ∧ Below W.heap.size W wr) (fun i _ => n - (intOf i).toNat)
  case atStart => exact ⟨0, by omega, rfl, Below.refl _ _⟩
  case round =>
    obtain ⟨k, hk, rfl, B⟩ := hrel
    clear y0 x1
    obtain ⟨wo, hwo⟩ : ∃ wo, wo = wr := ⟨_, rfl⟩
    subst hwo
    obtain ⟨c0, c1, Bw⟩ := HX.out _ B
    by_cases hkn : k < n
    · obtain ⟨b, o, rfl, hlt, p0, p1, a2, cap2, p2, hsr⟩ := HP.out wo Bw k hkn
      obtain ⟨b', o', rfl, hlt', q0, q1, a3, cap3, q2, hsr'⟩ := HP'.out wo Bw k hkn
      have hkn' : (k : Int) < (n : Int) := by omega
      obtain ⟨hm1, hm2⟩ := HM.out k hkn
      have HC : Hid (∀ t cp1 cp2 b1 b2 w1, t < (P.getD k E.zero).rules.length → LSrc 3 PK w1 b1 ((P.getD k E.zero).rules.getD t []) → LSrc 3 PK w1 b2 ((P.getD k E.zero).rules.getD t []) → Calls Tryz.prog 21 #[.agg #[.slice b1 ((P.getD k E.zero).rules.getD t []).length cp1], .agg #[.slice b2 ((P.getD k E.zero).rules.getD t []).length cp2]] w1 fun e w' => e = .returned (.bool true) ∧ Below w1.heap.size w1 w') := fun t cp1 cp2 b1 b2 w1 ht h1 h2 => sameRule_same _ b1 b2 cp1 cp2 w1 h1 h2 (hm2 t ht)
      clear HP HP' HM
      generalize P.getD k E.zero = e at *
      obtain ⟨ar, nr, rs⟩ := e
      simp only at HC hsr hsr' p0 p1 p2 q0 q1 q2 hm1 hm2
      have HRs : Hid (∀ wr, Below wo.heap.size wo wr → ∀ t, t < rs.length → (∃ g1 o1, a2 = some ⟨g1, o1, none⟩ ∧ g1 < wo.heap.size ∧ PR wr g1 (o1 + t) (rs.getD t [])) ∧ ∃ g2 o2, a3 = some ⟨g2, o2, none⟩ ∧ g2 < wo.heap.size ∧ PR wr g2 (o2 + t) (rs.getD t [])) := fun wr hB t ht => by
        obtain ⟨g1, o1, e1, l1, r1⟩ := hsr.at ht []
        obtain ⟨g2, o2, e2, l2, r2⟩ := hsr'.at ht []
        rw [Nat.mul_one] at r1 r2
        exact ⟨⟨g1, o1, e1, l1, PR.stays _ _ _ _ _ l1 hB r1⟩, g2, o2, e2, l2, PR.stays _ _ _ _ _ l2 hB r2⟩
      obtain ⟨m, hm'⟩ : ∃ m, rs.length = m := ⟨_, rfl⟩
      rw [hm'] at p2 q2 HC HRs hm1
      clear hsr hsr' hm' hm2
      have X0 := Box3.new wo 37 (.int .u32 ar) (.int .u32 nr) (.slice a2 m cap2)
      have b2 : Below wo.heap.size wo (wo.alloc (.cells #[.int .u32 ar, .int .u32 nr, .slice a2 m cap2] 37)) := (Below.refl _ _).alloc (Nat.le_refl _) _
      have hlw : w.heap.size + 2 ≤ wo.heap.size := Nat.le_trans e2 B.size
      have c1' := (b2.cell (p := ⟨w.heap.size + 1, 0, none⟩) (by show w.heap.size + 1 < _; omega)).trans c1
      have q0' := (b2.cell (p := ⟨b', _, none⟩) (by show b' < _; omega)).trans q0
      have q1' := (b2.cell (p := ⟨b', _, none⟩) (by show b' < _; omega)).trans q1
      have q2' := (b2.cell (p := ⟨b', _, none⟩) (by show b' < _; omega)).trans q2
      go_upto_region 7 with fail
      have es : (wo.alloc (.cells #[.int .u32 ar, .int .u32 nr, .slice a2 m cap2] 37)).heap.size = wo.heap.size + 1 := by simp
      generalize (wo.alloc (.cells #[.int .u32 ar, .int .u32 nr, .slice a2 m cap2] 37)) = W2 at *
      have Y0 := Box3.new W2 37 (.int .u32 ar) (.int .u32 nr) (.slice a3 m cap3)
      have b3 : Below W2.heap.size W2 (W2.alloc (.cells #[.int .u32 ar, .int .u32 nr, .slice a3 m cap3] 37)) := (Below.refl _ _).alloc (Nat.le_refl _) _
      have X1 := X0.keep b3
      have B3 := b2.trans (b3.mono b2.size)
      clear c0 c1 p0 p1 p2 q0 q1 q2 X0
      go_upto_region 8 with fail
      clear c1' q0' q1' q2'
      generalize (W2.alloc (.cells #[.int .u32 ar, .int .u32 nr, .slice a3 m cap3] 37)) = W3 at *
      rw [es] at Y0
      obtain ⟨GX, hGX⟩ : ∃ GX, wo.heap.size = GX := ⟨_, rfl⟩
      rw [hGX] at X1 Y0
      simp only [hGX]
      obtain ⟨hlX, x0, x1, x2, _⟩ := X1
      obtain ⟨hlY, y0, y1, y2, _⟩ := Y0
      have HGX : Hid _ := hGX
      clear hGX b2 b3
      go_wp2_with fail
      have HY : Hid (∀ wr, Below W3.heap.size W3 wr → wr.cell? ⟨GX, 2, none⟩ = some (.slice a2 m cap2) ∧ wr.cell? ⟨GX + 1, 2, none⟩ = some (.slice a3 m cap3) ∧ Below wo.heap.size wo wr) := fun wr hb => ⟨stay1 hb hlX x2, stay1 hb hlY y2, B3.trans (hb.mono B3.size)⟩
      go_loopw [8] (fun i wr => ∃ t : Nat, t ≤ m ∧ i = .int .i64 t ∧ Below W3.heap.size W3 wr) (fun i _ => m - (intOf i).toNat)
      case atStart => exact ⟨0, by omega, rfl, Below.refl _ _⟩
      case round =>
        obtain ⟨t, ht, rfl, BB⟩ := hrel
        clear x0 x1 x2 y0 y1 y2
        obtain ⟨z0, z1, Bz⟩ := HY.out _ BB
        by_cases htm : t < m
        · have htm' : (t : Int) < (m : Int) := by omega
          obtain ⟨⟨g1, o1, rfl, l1, _⟩, g2, o2, rfl, l2, _⟩ := HRs.out _ Bz t htm
          have HK : Hid (∀ wr, Below wo.heap.size wo wr → PR wr g1 (o1 + t) (rs.getD t []) ∧ PR wr g2 (o2 + t) (rs.getD t [])) := fun wr hB => by
            obtain ⟨⟨_, _, e1, _, r1⟩, _, _, e3, _, r3⟩ := HRs.out _ hB t htm
            simp only [Option.some.injEq, Addr.mk.injEq, and_true] at e1 e3
            obtain ⟨rfl, rfl⟩ := e1
            obtain ⟨rfl, rfl⟩ := e3
            exact ⟨r1, r3⟩
          obtain ⟨⟨b4, cp4, v4, s4⟩, b5, cp5, v5, s5⟩ := HK.out _ Bz
          have HC2 : Hid (∀ w1, Below wr.heap.size wr w1 → Calls Tryz.prog 21 #[.agg #[.slice b4 (rs.getD t []).length cp4], .agg #[.slice b5 (rs.getD t []).length cp5]] w1 fun e w' => e = .returned (.bool true) ∧ Below w1.heap.size w1 w') := fun w1 hb => HC.out t cp4 cp5 b4 b5 w1 htm (s4.below PK.stays hb) (s5.below PK.stays hb)
          have hg1 : g1 < wr.heap.size := Nat.lt_of_lt_of_le l1 Bz.size
          have hg2 : g2 < wr.heap.size := Nat.lt_of_lt_of_le l2 Bz.size
          have hX1 : GX < wr.heap.size := Nat.lt_of_lt_of_le hlX BB.size
          have hX2 : GX + 1 < wr.heap.size := Nat.lt_of_lt_of_le hlY BB.size
          generalize (rs.getD t []).length = ln at *
          have SK : Hid (∀ W', Below wr.heap.size wr W' → W'.cell? ⟨GX, 2, none⟩ = some (.slice (some ⟨g1, o1, none⟩) m cap2) ∧ W'.cell? ⟨GX + 1, 2, none⟩ = some (.slice (some ⟨g2, o2, none⟩) m cap3) ∧ W'.cell? ⟨g1, o1 + t, none⟩ = some (.slice b4 ln cp4) ∧ W'.cell? ⟨g2, o2 + t, none⟩ = some (.slice b5 ln cp5) ∧ Below wr.heap.size wr W') := fun W' hb => ⟨stay1 hb hX1 z0, stay1 hb hX2 z1, stay1 hb hg1 v4, stay1 hb hg2 v5, hb⟩
          have hS1 := SK.out wr.drew (Below.refl _ _).drew
          clear HRs HC HK s4 s5
          go_upto_region 13 with fail
          clear z0 z1 v4 v5
          go_region_held3 (fun W' => W'.cell? ⟨GX, 2, none⟩ = some (.slice (some ⟨g1, o1, none⟩) m cap2) ∧ W'.cell? ⟨GX + 1, 2, none⟩ = some (.slice (some ⟨g2, o2, none⟩) m cap3) ∧ W'.cell? ⟨g1, o1 + t, none⟩ = some (.slice b4 ln cp4) ∧ W'.cell? ⟨g2, o2 + t, none⟩ = some (.slice b5 ln cp5) ∧ Below wr.heap.size wr W')
            (assumption)
            (first
              | (go_at_call 21; refine (HC2.out _ hS1.2.2.2.2).mono ?_; rintro _ w8 ⟨rfl, hb8⟩; have hB8 := hS1.2.2.2.2.trans (hb8.mono hS1.2.2.2.2.size); have hS8 := SK.out _ hB8))
          have hBB := BB.trans (hB8.mono BB.size)
          clear hS1 hS8 SK HC2 hB8
          go_wp2
          go_roundw
          case rel => exact ⟨t + 1, by omega, by go_num, hBB⟩
          case measure => simp [intOf]; omega
        · have hBo := B.trans (Bz.mono B.size)
          clear HRs HC
          go_wp2
          go_roundw
          case rel => exact ⟨k + 1, by omega, by go_num, hBo⟩
          case measure => simp [intOf]; omega
    · go_wp2
      go_ret
      exact ⟨rfl, Bw⟩
end Go.Proofs.YtoamapdfcdefjaaGreat
