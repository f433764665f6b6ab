/-
  CmpG, CmpH, CmpI, CmpJ
-/
import Derived.Test.YtoopomjkapeknaaQ12
namespace Go.Proofs.Ytoopomjkapeknaa
open Go.RowKit
set_option linter.unusedVariables false

set_option maxRecDepth 100000 in
set_option maxHeartbeats 4000000 in
theorem arch_any (w0 w : World) (F : Nat) (hF : w0.heap.size ≤ F) (k : Nat) (v : Value) (p : List It) (n : Int) (es : List E) (b o cap : Nat) (hS : WrS w F v p n) (hs : LSrc 3 PEC w0 (some ⟨b, o, none⟩) es) (hb0 : Below w0.heap.size w0 w) (hE : ∀ e ∈ es, WrE e) (hl1 : 1 ≤ es.length) (hlk : es.length ≤ k) (hcap : es.length ≤ cap) (hpb : p.length + (74 * sumR es + 3 * es.length) ≤ 300000) (hn0 : 0 ≤ n) (hnb : n + 13 * (sumR es : Int) + (es.length : Int) ≤ 300000) :
    Calls Try.prog 39 #[.pointer (some ⟨F, 0, none⟩), .slice (some ⟨b, o, none⟩) es.length cap] w fun e w' => WrPost F (p ++ (itUn 21 (es.getD 0 E.zero).arch (n + 1) :: itLd 0 :: treeP k es (n + 1) ++ [itLb (n + 1)])) (treeN k es (n + 1)) w e w' := by
  obtain ⟨f1, f2⟩ := tree_facts k es (n + 1) hE hl1 hlk
  have f3 := treeN_le k es (n + 1)
  obtain ⟨b', o', e, hb, c0, _, _⟩ := hs.at (i := 0) (by omega) E.zero
  cases e
  simp only [Nat.zero_mul, Nat.add_zero] at c0
  have HX : Hid (∀ w1, KW F w w1 → Below w0.heap.size w0 w1 ∧ w1.cell? ⟨b, o, none⟩ = some (.int .u32 (es.getD 0 E.zero).arch)) := fun w1 g => by
    have hx := hb0.trans (g.b.mono hF)
    exact ⟨hx, (hx.cell (p := ⟨b, _, none⟩) hb).trans c0⟩
  have hE1 : p ++ (itUn 21 (es.getD 0 E.zero).arch (n + 1) :: itLd 0 :: treeP k es (n + 1) ++ [itLb (n + 1)]) = p ++ [itUn 21 (es.getD 0 E.zero).arch (n + 1)] ++ [itLd 0] ++ treeP k es (n + 1) ++ [itLb (n + 1)] := by simp
  rw [hE1]
  have HN : Hid (Calls Try.prog 58 #[.pointer (some ⟨F, 0, none⟩)] w fun e w' => e = .returned (.int .i64 (n + 1)) ∧ WrS w' F v p (n + 1) ∧ KW F w w') := newLabel_any w F v p n hS hn0 (by omega)
  have HU : Hid (∀ w1 v1, WrS w1 F v1 p (n + 1) → Calls Try.prog 59 #[.pointer (some ⟨F, 0, none⟩), .int .u16 21, .int .u32 (es.getD 0 E.zero).arch, .int .i64 (n + 1)] w1 fun e w' => e = .returned (.tuple #[]) ∧ (∃ v', WrS w' F v' (p ++ [itUn 21 (es.getD 0 E.zero).arch (n + 1)]) (n + 1)) ∧ KW F w1 w') := fun w1 v1 g => goUnless_any w1 F v1 p (n + 1) 21 _ (n + 1) g (by omega)
  have HL : Hid (∀ w1 v1, WrS w1 F v1 (p ++ [itUn 21 (es.getD 0 E.zero).arch (n + 1)]) (n + 1) → Calls Try.prog 37 #[.pointer (some ⟨F, 0, none⟩), .int .i64 0] w1 fun e w' => e = .returned (.tuple #[]) ∧ (∃ v', WrS w' F v' (p ++ [itUn 21 (es.getD 0 E.zero).arch (n + 1)] ++ [itLd 0]) (n + 1)) ∧ KW F w1 w') := fun w1 v1 g => load_any w1 F v1 _ (n + 1) 0 g (by simp; omega) (by omega) (by omega)
  have HT : Hid (∀ w1 v1, Below w0.heap.size w0 w1 → WrS w1 F v1 (p ++ [itUn 21 (es.getD 0 E.zero).arch (n + 1)] ++ [itLd 0]) (n + 1) → Calls Try.prog 60 #[.pointer (some ⟨F, 0, none⟩), .slice (some ⟨b, o, none⟩) es.length cap] w1 fun e w' => e = .returned (.tuple #[]) ∧ (∃ v', WrS w' F v' (p ++ [itUn 21 (es.getD 0 E.zero).arch (n + 1)] ++ [itLd 0] ++ treeP k es (n + 1)) (treeN k es (n + 1))) ∧ KW F w1 w') := fun w1 v1 hb1 g => tree_any w0 F hF k w1 v1 _ (n + 1) es b o cap g hs hb1 hE hl1 hlk hcap (by simp; omega) (by omega) (by omega)
  have HB : Hid (∀ w1 v1, WrS w1 F v1 (p ++ [itUn 21 (es.getD 0 E.zero).arch (n + 1)] ++ [itLd 0] ++ treeP k es (n + 1)) (treeN k es (n + 1)) → Calls Try.prog 40 #[.pointer (some ⟨F, 0, none⟩), .int .i64 (n + 1)] w1 fun e w' => e = .returned (.tuple #[]) ∧ (∃ v', WrS w' F v' (p ++ [itUn 21 (es.getD 0 E.zero).arch (n + 1)] ++ [itLd 0] ++ treeP k es (n + 1) ++ [itLb (n + 1)]) (treeN k es (n + 1))) ∧ KW F w1 w') := fun w1 v1 g => label_any w1 F v1 _ _ _ g (by simp; omega)
  have HPo : Hid (∀ w' v', WrS w' F v' (p ++ [itUn 21 (es.getD 0 E.zero).arch (n + 1)] ++ [itLd 0] ++ treeP k es (n + 1) ++ [itLb (n + 1)]) (treeN k es (n + 1)) → KW F w w' → WrPost F (p ++ [itUn 21 (es.getD 0 E.zero).arch (n + 1)] ++ [itLd 0] ++ treeP k es (n + 1) ++ [itLb (n + 1)]) (treeN k es (n + 1)) w (.returned (.tuple #[])) w') := fun w' v' h2 h3 => ⟨rfl, ⟨v', h2⟩, h3⟩
  generalize p ++ [itUn 21 (es.getD 0 E.zero).arch (n + 1)] ++ [itLd 0] ++ treeP k es (n + 1) ++ [itLb (n + 1)] = q4 at *
  generalize p ++ [itUn 21 (es.getD 0 E.zero).arch (n + 1)] ++ [itLd 0] ++ treeP k es (n + 1) = q3 at *
  generalize p ++ [itUn 21 (es.getD 0 E.zero).arch (n + 1)] ++ [itLd 0] = q2 at *
  generalize p ++ [itUn 21 (es.getD 0 E.zero).arch (n + 1)] = q1 at *
  generalize treeN k es (n + 1) = n2 at *
  generalize (es.getD 0 E.zero).arch = ar at *
  have hl0 : (0 : Int) < (es.length : Int) := by omega
  clear hS hs hb0 hE hpb hnb hE1 c0 f1 f2 f3
  generalize es.length = m at *
  go_enter Try.func39, Try.ntmps39
  go_wp2_with fail
  refine (HN.out).mono ?_
  rintro _ w1 ⟨rfl, hS1, hK1⟩
  obtain ⟨hb1, d1⟩ := HX.out w1 hK1
  have HK1 : Hid (KW F w w1) := hK1
  have HS1 : Hid (WrS w1 F v p (n + 1)) := hS1
  clear HN hK1 hS1
  go_wp2_with fail
  refine (HU.out _ v HS1.out).mono ?_
  rintro _ w2 ⟨rfl, ⟨v2, hS2⟩, hK2⟩
  have HK2 : Hid (KW F w w2) := HK1.out.trans hK2
  have HS2 : Hid (WrS w2 F v2 q1 (n + 1)) := hS2
  clear HU hS2 hK2 HK1 HS1 d1 hb1
  go_wp2_with fail
  refine (HL.out _ v2 HS2.out).mono ?_
  rintro _ w3 ⟨rfl, ⟨v3, hS3⟩, hK3⟩
  have HK3 : Hid (KW F w w3) := HK2.out.trans hK3
  have HS3 : Hid (WrS w3 F v3 q2 (n + 1)) := hS3
  have HB3 : Hid (Below w0.heap.size w0 w3) := (HX.out w3 HK3.out).1
  clear HL hS3 hK3 HK2 HS2
  go_wp2_with fail
  refine (HT.out _ v3 HB3.out HS3.out).mono ?_
  rintro _ w4 ⟨rfl, ⟨v4, hS4⟩, hK4⟩
  have HK4 : Hid (KW F w w4) := HK3.out.trans hK4
  have HS4 : Hid (WrS w4 F v4 q3 n2) := hS4
  clear HT hS4 hK4 HK3 HS3 HB3
  go_wp2_with fail
  refine (HB.out _ v4 HS4.out).mono ?_
  rintro _ w5 ⟨rfl, ⟨v5, hS5⟩, hK5⟩
  have HF : Hid (WrPost F q4 n2 w (.returned (.tuple #[])) w5) := HPo.out w5 v5 hS5 (HK4.out.trans hK5)
  clear HB hS5 hK5 HK4 HS4 HPo HX
  go_wp2
  go_end0
  exact HF.out
end Go.Proofs.Ytoopomjkapeknaa
namespace Go.Proofs.Ytoopomjkapeknaa
open Go.RowKit
set_option linter.unusedVariables false

theorem tw_len (p : E → Bool) : ∀ (l : List E) (k : Nat), (∀ j, j < k → p (l.getD j E.zero) = true) → k ≤ l.length → (k < l.length → p (l.getD k E.zero) = false) → (l.takeWhile p).length = k := by
  intro l
  induction l with
  | nil => intro k _ h2 _; simp at h2; subst h2; rfl
  | cons x l ih =>
    intro k h1 h2 h3
    cases k with
    | zero =>
      have := h3 (by simp)
      simp only [List.getD_cons_zero] at this
      rw [List.takeWhile_cons, this]; rfl
    | succ k =>
      have h0 := h1 0 (by omega)
      simp only [List.getD_cons_zero] at h0
      rw [List.takeWhile_cons, h0]
      simp only [if_true, List.length_cons]
      rw [ih k (fun j hj => by have := h1 (j + 1) (by omega); simpa using this) (by simpa using h2) (fun hk => by have := h3 (by simpa using hk); simpa using this)]
theorem sameA_is {es : List E} {k : Nat} (h1 : ∀ j, j < k → (es.getD j E.zero).arch = (es.getD 0 E.zero).arch) (hk : k ≤ es.length) (hk1 : 1 ≤ es.length) (h3 : k < es.length → (es.getD k E.zero).arch ≠ (es.getD 0 E.zero).arch) : sameA es = k := by
  cases es with
  | nil => simp at hk1
  | cons e es =>
    cases k with
    | zero => exact absurd rfl (h3 (by simp))
    | succ k =>
      simp only [sameA]
      rw [tw_len (fun x => x.arch == e.arch) es k (fun j hj => by have := h1 (j + 1) (by omega); simpa using this) (by simpa using hk) (fun hl => by have := h3 (by simpa using hl); simpa using this)]
      omega

set_option maxRecDepth 100000 in
set_option maxHeartbeats 1000000 in
theorem sameArch1_any (x y : Int) (s : Value) (Bx b o m cap : Nat) (ar : Int) (w : World) (hm : 1 ≤ m) (hs1 : ∃ a n c, s = .slice a n c) (hB : w.cell? ⟨Bx, 0, none⟩ = some (.slice (some ⟨b, o, none⟩) m cap)) (hc : w.cell? ⟨b, o, none⟩ = some (.int .u32 ar)) :
    Calls Try.prog 57 #[.agg #[.int .u32 x, .int .u32 y, s], .pointer (some ⟨Bx, 0, none⟩)] w fun e w' => e = .returned (.bool (x != ar)) ∧ Below w.heap.size w w' := by
  obtain ⟨sa, sn, sc, rfl⟩ := hs1
  have hb : Below w.heap.size w (w.alloc (.cells #[.int .u32 x, .int .u32 y, .slice sa sn sc] 60)) := (Below.refl _ _).alloc (Nat.le_refl _) _
  have h1 := cell_step hb hB
  have h2 := cell_step hb hc
  have hm' : (0 : Int) < (m : Int) := by omega
  have HB : Hid (Below w.heap.size w (w.alloc (.cells #[.int .u32 x, .int .u32 y, .slice sa sn sc] 60)).drew) := hb.drew
  clear hb hB hc
  go_enter Try.func57, Try.ntmps57
  go_wp2_with fail
  go_region
  all_goals go_wp2
  all_goals go_ret
  all_goals exact ⟨rfl, HB.out⟩

set_option maxRecDepth 100000 in
set_option maxHeartbeats 2000000 in
theorem indexArch_any (w0 w : World) (es : List E) (Bx b o cap : Nat) (hs : LSrc 3 PEC w0 (some ⟨b, o, none⟩) es) (hb0 : Below w0.heap.size w0 w) (hl1 : 1 ≤ es.length) (hl2 : es.length ≤ 1000000) (hB : w.cell? ⟨Bx, 0, none⟩ = some (.slice (some ⟨b, o, none⟩) es.length cap)) :
    Calls Try.prog 56 #[.slice (some ⟨b, o, none⟩) es.length cap, .func (.func 57) #[] #[.pointer (some ⟨Bx, 0, none⟩)]] w fun e w' => e = .returned (.int .i64 (if sameA es < es.length then (sameA es : Int) else -1)) ∧ Below w.heap.size w w' := by
  have HP : Hid (∀ wr, Below w.heap.size w wr → ∀ i, i < es.length → ∃ a' cap', wr.cell? ⟨b, o + i * 3, none⟩ = some (.int .u32 (es.getD i E.zero).arch) ∧ wr.cell? ⟨b, o + i * 3 + 1, none⟩ = some (.int .u32 (es.getD i E.zero).nr) ∧ wr.cell? ⟨b, o + i * 3 + 2, none⟩ = some (.slice a' (es.getD i E.zero).rules.length cap')) := fun wr hBw i hi => by
    obtain ⟨b', o', e, hb, c0, c1, a', cap', c2, _⟩ := hs.at (i := i) hi E.zero
    cases e
    have hx := hb0.trans (hBw.mono hb0.size)
    exact ⟨a', cap', (hx.cell (p := ⟨b, _, none⟩) hb).trans c0, (hx.cell (p := ⟨b, _, none⟩) hb).trans c1, (hx.cell (p := ⟨b, _, none⟩) hb).trans c2⟩
  have HC : Hid (∀ wr x y a' n' c', Below w.heap.size w wr → Calls Try.prog 57 #[.agg #[.int .u32 x, .int .u32 y, .slice a' n' c'], .pointer (some ⟨Bx, 0, none⟩)] wr fun e w' => e = .returned (.bool (x != (es.getD 0 E.zero).arch)) ∧ Below wr.heap.size wr w') := fun wr x y a' n' c' hBw => by
    obtain ⟨_, _, d0, _, _⟩ := HP.out wr hBw 0 (by omega)
    simp only [Nat.zero_mul, Nat.add_zero] at d0
    exact sameArch1_any x y _ Bx b o es.length cap _ wr hl1 ⟨_, _, _, rfl⟩ (cell_step hBw hB) d0
  have HY : Hid (∀ k, k < es.length → (∀ j, j < k → (es.getD j E.zero).arch = (es.getD 0 E.zero).arch) → (es.getD k E.zero).arch ≠ (es.getD 0 E.zero).arch → (if sameA es < es.length then (sameA es : Int) else -1) = (k : Int)) := fun k hk h1 h2 => by
    rw [sameA_is h1 (by omega) hl1 (fun _ => h2), if_pos hk]
  have HZ : Hid ((∀ j, j < es.length → (es.getD j E.zero).arch = (es.getD 0 E.zero).arch) → (if sameA es < es.length then (sameA es : Int) else -1) = -1) := fun h1 => by
    rw [sameA_is h1 (Nat.le_refl _) hl1 (fun h => by omega), if_neg (by omega)]
  generalize (if sameA es < es.length then (sameA es : Int) else -1) = V at *
  clear hs hb0 hB
  generalize (es.getD 0 E.zero).arch = ar at *
  generalize es.length = n at *
  go_enter Try.func56, Try.ntmps56
  go_wp2_with fail
  go_loopw [8] (fun i wr => ∃ k : Nat, k ≤ n ∧ i = .int .i64 k ∧ Hid (∀ j, j < k → (es.getD j E.zero).arch = ar) ∧ Below w.heap.size w wr) (fun i _ => n - (intOf i).toNat)
  case atStart => exact ⟨0, by omega, rfl, fun j hj => by omega, Below.refl _ _⟩
  case round =>
    obtain ⟨k, hk, rfl, HJ, B⟩ := hrel
    by_cases hkn : k < n
    · obtain ⟨a', cap', c0, c1, c2⟩ := HP.out wr B k hkn
      have HY1 : Hid ((es.getD k E.zero).arch ≠ ar → V = (k : Int)) := fun h => HY.out k hkn HJ.out h
      have HJ1 : Hid ((es.getD k E.zero).arch = ar → ∀ j, j < k + 1 → (es.getD j E.zero).arch = ar) := fun h j hj => by
        by_cases hjk : j = k
        · subst hjk; exact h
        · exact HJ.out j (by omega)
      have hkn' : (k : Int) < (n : Int) := by omega
      generalize (es.getD k E.zero).rules.length = rl at *
      generalize (es.getD k E.zero).nr = nr at *
      generalize (es.getD k E.zero).arch = x at *
      have HC1 := HC.out wr x nr a' rl cap' B
      have HC2 : Hid (Calls Try.prog 57 #[.agg #[.int .u32 x, .int .u32 nr, .slice a' rl cap'], .pointer (some ⟨Bx, 0, none⟩)] wr fun e w' => e = .returned (.bool (x != ar)) ∧ Below wr.heap.size wr w') := HC1
      clear HC HP HJ HY HC1
      go_wp2_with fail
      refine (HC2.out).mono ?_
      rintro _ w1 ⟨rfl, hb1⟩
      have B1 := below_step hb1 B
      clear hb1 c0 c1 c2 B
      by_cases hx : x = ar
      · have hx2 : (x != ar) = false := by simpa using hx
        rw [hx2]
        have HJ2 : Hid (∀ j, j < k + 1 → (es.getD j E.zero).arch = ar) := HJ1.out hx
        clear hx hx2 HJ1 HY1
        go_wp2
        go_roundw
        case rel => exact ⟨k + 1, by omega, by go_num, HJ2, B1⟩
        case measure => simp [intOf]; omega
      · have hx2 : (x != ar) = true := by simpa using hx
        rw [hx2]
        have hV := HY1.out hx
        subst hV
        clear hx hx2 HJ1 HY1
        go_wp2
        go_ret
        exact ⟨rfl, B1⟩
    · have hk' : k = n := by omega
      subst hk'
      have hV := HZ.out HJ.out
      subst hV
      clear HC HP HY
      go_wp2
      go_ret
      exact ⟨rfl, B⟩
end Go.Proofs.Ytoopomjkapeknaa
namespace Go.Proofs.Ytoopomjkapeknaa
open Go.RowKit
set_option linter.unusedVariables false

set_option maxRecDepth 100000 in
set_option maxHeartbeats 2000000 in
theorem sameArch_any (w0 w : World) (es : List E) (b o cap : Nat) (hs : LSrc 3 PEC w0 (some ⟨b, o, none⟩) es) (hb0 : Below w0.heap.size w0 w) (hl1 : 1 ≤ es.length) (hl2 : es.length ≤ 1000000) :
    Calls Try.prog 38 #[.slice (some ⟨b, o, none⟩) es.length cap] w fun e w' => e = .returned (.int .i64 (sameA es : Int)) ∧ Below w.heap.size w w' := by
  have hb : Below w.heap.size w (w.alloc (.cells #[.slice (some ⟨b, o, none⟩) es.length cap] 29)) := (Below.refl _ _).alloc (Nat.le_refl _) _
  have hbx : (w.alloc (.cells #[.slice (some ⟨b, o, none⟩) es.length cap] 29)).cell? ⟨w.heap.size, 0, none⟩ = some (.slice (some ⟨b, o, none⟩) es.length cap) := by simp
  have HI : Hid (Calls Try.prog 56 #[.slice (some ⟨b, o, none⟩) es.length cap, .func (.func 57) #[] #[.pointer (some ⟨w.heap.size, 0, none⟩)]] (w.alloc (.cells #[.slice (some ⟨b, o, none⟩) es.length cap] 29)) fun e w' => e = .returned (.int .i64 (if sameA es < es.length then (sameA es : Int) else -1)) ∧ Below w.heap.size w w' ∧ w'.cell? ⟨w.heap.size, 0, none⟩ = some (.slice (some ⟨b, o, none⟩) es.length cap)) := (indexArch_any w0 _ es w.heap.size b o cap hs (hb0.trans (hb.mono hb0.size)) hl1 hl2 hbx).mono (by
    rintro e w' ⟨h1, h2⟩
    exact ⟨h1, below_step h2 hb, cell_step h2 hbx⟩)
  have hle := sameA_le es
  by_cases hlt : sameA es < es.length
  · rw [if_pos hlt] at HI
    generalize sameA es = k at *
    clear hs hb0 hb hbx
    generalize es.length = n at *
    have hk0 : ¬ (k : Int) < 0 := by omega
    go_enter Try.func38, Try.ntmps38
    go_wp2_with fail
    refine (HI.out).mono ?_
    rintro _ w1 ⟨rfl, hb1, c1⟩
    go_wp2
    go_ret
    exact ⟨rfl, hb1⟩
  · rw [if_neg hlt] at HI
    have he : sameA es = es.length := by omega
    rw [he]
    clear hs hb0 hb hbx he hlt hle
    generalize es.length = n at *
    go_enter Try.func38, Try.ntmps38
    go_wp2_with fail
    refine (HI.out).mono ?_
    rintro _ w1 ⟨rfl, hb1, c1⟩
    go_wp2
    go_ret
    exact ⟨rfl, hb1⟩
end Go.Proofs.Ytoopomjkapeknaa
namespace Go.Proofs.Ytoopomjkapeknaa
open Go.RowKit
set_option linter.unusedVariables false

theorem sameA_pos {es : List E} (h : 1 ≤ es.length) : 1 ≤ sameA es := by
  cases es with
  | nil => simp at h
  | cons e es => simp only [sameA]; omega
theorem archP_step {k : Nat} {es : List E} (h : 1 ≤ es.length) (n : Int) : archP (k + 1) es n = (itUn 21 (es.getD 0 E.zero).arch (n + 1) :: itLd 0 :: treeP (sameA es) (es.take (sameA es)) (n + 1) ++ [itLb (n + 1)]) ++ archP k (es.drop (sameA es)) (treeN (sameA es) (es.take (sameA es)) (n + 1)) ∧ archN (k + 1) es n = archN k (es.drop (sameA es)) (treeN (sameA es) (es.take (sameA es)) (n + 1)) := by
  simp only [archP, archN]
  rw [if_neg (by omega), if_neg (by omega)]
  exact ⟨rfl, rfl⟩
theorem archP_end {k : Nat} {es : List E} (h : es.length = 0) (n : Int) : archP k es n = [] ∧ archN k es n = n := by
  cases k with
  | zero => exact ⟨rfl, rfl⟩
  | succ k => simp only [archP, archN]; rw [if_pos h, if_pos h]; exact ⟨rfl, rfl⟩
/-- where the writer stands before the entries es -/
structure PoS (w0 w wr : World) (F : Nat) (QT : List It) (NT : Int) (av : Option Addr) (c : Nat) (k : Nat) (es : List E) (v : Value) (q : List It) (n : Int) : Prop where
  hw : WrS wr F v q n
  kw : KW F w wr
  hq : q ++ archP k es n = QT
  hn : archN k es n = NT
  fuel : es.length ≤ k
  cap : es.length ≤ c
  src : 1 ≤ es.length → ∃ b o, av = some ⟨b, o, none⟩ ∧ LSrc 3 PEC w0 (some ⟨b, o, none⟩) es
  ok : ∀ e ∈ es, WrE e
  bq : q.length + (74 * sumR es + 4 * es.length) ≤ 290000
  bn : 0 ≤ n ∧ n + 13 * (sumR es : Int) + 2 * (es.length : Int) ≤ 290000
theorem PoS.next {w0 w wr w1 : World} {F : Nat} {QT : List It} {NT : Int} {b o c k : Nat} {es : List E} {v v1 : Value} {q : List It} {n : Int} (h : PoS w0 w wr F QT NT (some ⟨b, o, none⟩) c (k + 1) es v q n) (hl : 1 ≤ es.length)
    (hW : WrS w1 F v1 (q ++ (itUn 21 (es.getD 0 E.zero).arch (n + 1) :: itLd 0 :: treeP (sameA es) (es.take (sameA es)) (n + 1) ++ [itLb (n + 1)])) (treeN (sameA es) (es.take (sameA es)) (n + 1))) (hK : KW F wr w1) :
    PoS w0 w w1 F QT NT (if c = sameA es then some ⟨b, o, none⟩ else some ⟨b, o + sameA es * 3, none⟩) (c - sameA es) k (es.drop (sameA es)) v1 (q ++ (itUn 21 (es.getD 0 E.zero).arch (n + 1) :: itLd 0 :: treeP (sameA es) (es.take (sameA es)) (n + 1) ++ [itLb (n + 1)])) (treeN (sameA es) (es.take (sameA es)) (n + 1)) := by
  obtain ⟨e1, e2⟩ := archP_step (k := k) hl n
  have hp := sameA_pos hl
  have hle := sameA_le es
  have ht : (es.take (sameA es)).length = sameA es := by simp; omega
  have hd : (es.drop (sameA es)).length = es.length - sameA es := by simp
  obtain ⟨f1, f2⟩ := tree_facts (sameA es) (es.take (sameA es)) (n + 1) (fun e he => h.ok e (List.mem_of_mem_take he)) (by omega) (by omega)
  have f3 := treeN_le (sameA es) (es.take (sameA es)) (n + 1)
  have hs := sumR_split es (sameA es)
  rw [ht] at f1 f2
  have hfu := h.fuel
  have hca := h.cap
  have hbq := h.bq
  have hbn := h.bn
  refine ⟨hW, h.kw.trans hK, by rw [← h.hq, e1, List.append_assoc], by rw [← h.hn, e2], by omega, by omega, fun h1 => ?_, fun e he => h.ok e (List.mem_of_mem_drop he), ?_, ?_⟩
  · obtain ⟨b', o', e, hsr⟩ := h.src hl
    cases e
    rw [if_neg (by omega)]
    exact ⟨b, _, rfl, hsr.back (sameA es)⟩
  · rw [hd]
    simp only [List.length_append, List.length_cons, List.length_nil]
    omega
  · rw [hd]
    omega
theorem PoS.done {w0 w wr : World} {F : Nat} {QT : List It} {NT : Int} {av : Option Addr} {c k : Nat} {es : List E} {v : Value} {q : List It} {n : Int} (h : PoS w0 w wr F QT NT av c k es v q n) (hl : es.length = 0) : q = QT ∧ n = NT := by
  obtain ⟨e1, e2⟩ := archP_end (k := k) hl n
  have h1 := h.hq
  have h2 := h.hn
  rw [e1, List.append_nil] at h1
  rw [e2] at h2
  exact ⟨h1, h2⟩
def lenV : Value → Nat
  | .slice _ n _ => n
  | _ => 0
def PoP (w0 w wr : World) (F : Nat) (QT : List It) (NT : Int) (av : Option Addr) (m c : Nat) : Prop := ∃ k es v q n, m = es.length ∧ PoS w0 w wr F QT NT av c k es v q n

set_option maxRecDepth 100000 in
set_option maxHeartbeats 4000000 in
/-- the loop and what follows -/
theorem policy_any (w0 w : World) (F : Nat) (hF : w0.heap.size ≤ F) (v : Value) (es : List E) (a : Option Addr) (cap : Nat) (hS : WrS w F v [] 0) (hs : LSrc 3 PEC w0 a es) (hb0 : Below w0.heap.size w0 w) (hE : ∀ e ∈ es, WrE e) (hcap : es.length ≤ cap) (hbq : 74 * sumR es + 4 * es.length ≤ 280000) (hbn : 13 * sumR es + 2 * es.length ≤ 280000) :
    Calls Try.prog 19 #[.pointer (some ⟨F, 0, none⟩), .slice a es.length cap] w fun e w' => WrPost F (itemsP es) (archN es.length es 0) w e w' := by
  obtain ⟨QT, hQT⟩ : ∃ QT, (if es.length = 0 then [] else [itLd 4]) ++ archP es.length es 0 = QT := ⟨_, rfl⟩
  obtain ⟨NT, hNT⟩ : ∃ NT, archN es.length es 0 = NT := ⟨_, rfl⟩
  have hit : itemsP es = QT ++ [itLb 0] ++ [retI 2147483648] := by unfold itemsP; rw [hQT]
  rw [hit, hNT]
  have HL4 : Hid (Calls Try.prog 37 #[.pointer (some ⟨F, 0, none⟩), .int .i64 4] w fun e w' => e = .returned (.tuple #[]) ∧ (∃ v', WrS w' F v' ([] ++ [itLd 4]) 0) ∧ KW F w w') := load_any w F v [] 0 4 hS (by simp) (by omega) (by omega)
  have HSt : Hid (∀ wr v1, 0 < es.length → WrS wr F v1 ([] ++ [itLd 4]) 0 → KW F w wr → PoP w0 w wr F QT NT a es.length cap) := fun wr v1 hl h1 h2 => ⟨es.length, es, v1, [itLd 4], 0, rfl, by
    refine ⟨h1, h2, ?_, hNT, Nat.le_refl _, hcap, fun _ => ?_, hE, by simp; omega, by omega⟩
    · rw [← hQT, if_neg (by omega)]
    · obtain ⟨b, o, rfl, _⟩ := hs.at (i := 0) (by omega) E.zero
      exact ⟨b, o, rfl, hs⟩⟩
  have HS0 : Hid (es.length = 0 → PoP w0 w w F QT NT a es.length cap) := fun hl => ⟨es.length, es, v, [], 0, rfl, by
    refine ⟨hS, KW.refl _ _, ?_, hNT, Nat.le_refl _, hcap, fun h => by omega, hE, by simp; omega, by omega⟩
    rw [← hQT, if_pos hl]⟩
  have HBw : Hid (∀ wr, KW F w wr → Below w0.heap.size w0 wr) := fun wr h => hb0.trans (h.b.mono hF)
  have HEnd1 : Hid (∀ wr v1, WrS wr F v1 QT NT → QT.length ≤ 900000 → Calls Try.prog 40 #[.pointer (some ⟨F, 0, none⟩), .int .i64 0] wr fun e w' => e = .returned (.tuple #[]) ∧ (∃ v', WrS w' F v' (QT ++ [itLb 0]) NT) ∧ KW F wr w') := fun wr v1 h hq => label_any wr F v1 QT NT 0 h (by omega)
  have HEnd2 : Hid (∀ wr v1, WrS wr F v1 (QT ++ [itLb 0]) NT → QT.length ≤ 900000 → Calls Try.prog 41 #[.pointer (some ⟨F, 0, none⟩), .int .u16 6, .int .u32 2147483648] wr fun e w' => e = .returned (.tuple #[]) ∧ (∃ v', WrS w' F v' (QT ++ [itLb 0] ++ [retI 2147483648]) NT) ∧ KW F wr w') := fun wr v1 h hq => ins_any wr F v1 (QT ++ [itLb 0]) NT 6 2147483648 h (by simp; omega)
  have HPo : Hid (∀ w' v', WrS w' F v' (QT ++ [itLb 0] ++ [retI 2147483648]) NT → KW F w w' → WrPost F (QT ++ [itLb 0] ++ [retI 2147483648]) NT w (.returned (.tuple #[])) w') := fun w' v' h2 h3 => ⟨rfl, ⟨v', h2⟩, h3⟩
  clear hit hQT hNT hS hs hb0 hE hbq hbn
  have hm0 : es.length ≤ cap := hcap
  generalize es.length = m at *
  go_enter Try.func19, Try.ntmps19
  by_cases hm : m = 0
  · have HST : Hid (PoP w0 w w F QT NT a m cap) := HS0.out hm
    subst hm
    clear HL4 HSt HS0
    go_wp2_with fail
    go_loopw [1, 4] (fun t c wr => ∃ (av : Option Addr) (m' c' : Nat), t = .slice av m' c' ∧ Hid (PoP w0 w wr F QT NT av m' c')) (fun t _ _ => lenV t)
    case atStart => exact ⟨_, _, _, rfl, HST⟩
    case round =>
      obtain ⟨av, m', c', rfl, hPP⟩ := hrel
      obtain ⟨k, es', v1, q, n, rfl, hP⟩ := hPP.out
      by_cases hl : 0 < es'.length
      · obtain ⟨b, o, rfl, hsr⟩ := hP.src hl
        obtain ⟨k', rfl⟩ : ∃ k', k = k' + 1 := ⟨k - 1, by have := hP.fuel; omega⟩
        have hsp := sameA_pos hl
        have hsl := sameA_le es'
        have hcc := hP.cap
        have hbb := hP.bq
        have hbm := hP.bn
        have hss := sumR_split es' (sameA es')
        have ht : (es'.take (sameA es')).length = sameA es' := by simp; omega
        have hg0 : (es'.take (sameA es')).getD 0 E.zero = es'.getD 0 E.zero := by
          rw [List.getD_eq_getElem?_getD, List.getElem?_take, if_pos (by omega), ← List.getD_eq_getElem?_getD]
        have HSA : Hid (Calls Try.prog 38 #[.slice (some ⟨b, o, none⟩) es'.length c'] wr fun e w' => e = .returned (.int .i64 (sameA es' : Int)) ∧ Below wr.heap.size wr w') := sameArch_any w0 wr es' b o c' hsr (HBw.out wr hP.kw) hl (by omega)
        have HAr : Hid (∀ w1, Below wr.heap.size wr w1 → Calls Try.prog 39 #[.pointer (some ⟨F, 0, none⟩), .slice (some ⟨b, o, none⟩) (sameA es') c'] w1 fun e w' => e = .returned (.tuple #[]) ∧ Hid (∃ v2 q2 n2, PoS w0 w w' F QT NT (if c' = sameA es' then some ⟨b, o, none⟩ else some ⟨b, o + sameA es' * 3, none⟩) (c' - sameA es') k' (es'.drop (sameA es')) v2 q2 n2)) := fun w1 hb1 => by
          have hK1 : KW F wr w1 := KW.of_below hb1 (Nat.le_of_lt hP.hw.lt)
          have := arch_any w0 w1 F hF (sameA es') v1 q n (es'.take (sameA es')) b o c' (hP.hw.keep hb1) (hsr.front _) (HBw.out w1 (hP.kw.trans hK1)) (fun e he => hP.ok e (List.mem_of_mem_take he)) (by omega) (by omega) (by omega) (by rw [ht]; omega) hbm.1 (by rw [ht]; omega)
          rw [ht, hg0] at this
          refine this.mono ?_
          rintro e w' ⟨r1, ⟨v2, r2⟩, r3⟩
          exact ⟨r1, v2, _, _, hP.next hl r2 (hK1.trans r3)⟩
        have hlen : (es'.drop (sameA es')).length = es'.length - sameA es' := by simp
        have HLn : Hid ((es'.drop (sameA es')).length = es'.length - sameA es') := hlen
        have hc1 : ((sameA es' : Nat) : Int) ≤ (c' : Int) := by omega
        have hc2 : ((sameA es' : Nat) : Int) ≤ (es'.length : Int) := by omega
        have hc3 : (0 : Int) < (es'.length : Int) := by omega
        clear hP hPP hsr hbb hbm hss ht hg0 hlen HST HPo HEnd1 HEnd2
        generalize sameA es' = s at *
        by_cases hcs : c' = s
        · rw [if_pos hcs] at HAr
          subst hcs
          generalize es'.drop c' = ds at *
          generalize es'.length = L at *
          go_wp2_with fail
          refine (HSA.out).mono ?_
          rintro _ w1 ⟨rfl, hb1⟩
          go_wp2_with fail
          refine (HAr.out w1 hb1).mono ?_
          rintro _ w2 ⟨rfl, hP2⟩
          clear HSA HAr hb1
          go_wp2
          go_roundw
          case rel => obtain ⟨v2, q2, n2, h⟩ := hP2.out; rw [Nat.sub_self] at h; exact ⟨_, _, _, rfl, ⟨k', ds, v2, q2, n2, (by have := HLn.out; omega), h⟩⟩
          case measure => first | (simp [lenV]; omega) | simp [lenV]
        · rw [if_neg hcs] at HAr
          generalize es'.drop s = ds at *
          generalize es'.length = L at *
          go_wp2_with fail
          refine (HSA.out).mono ?_
          rintro _ w1 ⟨rfl, hb1⟩
          go_wp2_with fail
          refine (HAr.out w1 hb1).mono ?_
          rintro _ w2 ⟨rfl, hP2⟩
          clear HSA HAr hb1
          go_wp2
          go_roundw
          case rel => obtain ⟨v2, q2, n2, h⟩ := hP2.out; exact ⟨_, _, _, rfl, ⟨k', ds, v2, q2, n2, (by have := HLn.out; omega), h⟩⟩
          case measure => first | (simp [lenV]; omega) | simp [lenV]
      · have hl0 : es'.length = 0 := by omega
        obtain ⟨rfl, rfl⟩ := hP.done hl0
        have hbb := hP.bq
        have HWr : Hid (WrS wr F v1 q n) := hP.hw
        have HKr : Hid (KW F w wr) := hP.kw
        rw [hl0]
        clear hP hPP HST hl hl0
        go_wp2_with fail
        refine (HEnd1.out _ v1 HWr.out (by omega)).mono ?_
        rintro _ w1 ⟨rfl, ⟨v2, hS2⟩, hK2⟩
        go_wp2_with fail
        refine (HEnd2.out _ v2 hS2 (by omega)).mono ?_
        rintro _ w2 ⟨rfl, ⟨v3, hS3⟩, hK3⟩
        have HF : Hid (WrPost F (q ++ [itLb 0] ++ [retI 2147483648]) n w (.returned (.tuple #[])) w2) := HPo.out w2 v3 hS3 ((HKr.out.trans hK2).trans hK3)
        clear hS2 hS3 hK2 hK3 HEnd1 HEnd2 HPo HWr HKr
        go_wp2
        go_end0
        exact HF.out
  · have hm1 : (0 : Int) < (m : Int) := by omega
    have hm2 : 0 < m := by omega
    go_wp2_with fail
    refine (HL4.out).mono ?_
    rintro _ wa ⟨rfl, ⟨va, hSa⟩, hKa⟩
    have HST : Hid (PoP w0 w wa F QT NT a m cap) := HSt.out wa va hm2 hSa hKa
    clear HL4 HSt HS0 hSa hKa hm
    go_wp2_with fail
    go_loopw [1, 4] (fun t c wr => ∃ (av : Option Addr) (m' c' : Nat), t = .slice av m' c' ∧ Hid (PoP w0 w wr F QT NT av m' c')) (fun t _ _ => lenV t)
    case atStart => exact ⟨_, _, _, rfl, HST⟩
    case round =>
      obtain ⟨av, m', c', rfl, hPP⟩ := hrel
      obtain ⟨k, es', v1, q, n, rfl, hP⟩ := hPP.out
      by_cases hl : 0 < es'.length
      · obtain ⟨b, o, rfl, hsr⟩ := hP.src hl
        obtain ⟨k', rfl⟩ : ∃ k', k = k' + 1 := ⟨k - 1, by have := hP.fuel; omega⟩
        have hsp := sameA_pos hl
        have hsl := sameA_le es'
        have hcc := hP.cap
        have hbb := hP.bq
        have hbm := hP.bn
        have hss := sumR_split es' (sameA es')
        have ht : (es'.take (sameA es')).length = sameA es' := by simp; omega
        have hg0 : (es'.take (sameA es')).getD 0 E.zero = es'.getD 0 E.zero := by
          rw [List.getD_eq_getElem?_getD, List.getElem?_take, if_pos (by omega), ← List.getD_eq_getElem?_getD]
        have HSA : Hid (Calls Try.prog 38 #[.slice (some ⟨b, o, none⟩) es'.length c'] wr fun e w' => e = .returned (.int .i64 (sameA es' : Int)) ∧ Below wr.heap.size wr w') := sameArch_any w0 wr es' b o c' hsr (HBw.out wr hP.kw) hl (by omega)
        have HAr : Hid (∀ w1, Below wr.heap.size wr w1 → Calls Try.prog 39 #[.pointer (some ⟨F, 0, none⟩), .slice (some ⟨b, o, none⟩) (sameA es') c'] w1 fun e w' => e = .returned (.tuple #[]) ∧ Hid (∃ v2 q2 n2, PoS w0 w w' F QT NT (if c' = sameA es' then some ⟨b, o, none⟩ else some ⟨b, o + sameA es' * 3, none⟩) (c' - sameA es') k' (es'.drop (sameA es')) v2 q2 n2)) := fun w1 hb1 => by
          have hK1 : KW F wr w1 := KW.of_below hb1 (Nat.le_of_lt hP.hw.lt)
          have := arch_any w0 w1 F hF (sameA es') v1 q n (es'.take (sameA es')) b o c' (hP.hw.keep hb1) (hsr.front _) (HBw.out w1 (hP.kw.trans hK1)) (fun e he => hP.ok e (List.mem_of_mem_take he)) (by omega) (by omega) (by omega) (by rw [ht]; omega) hbm.1 (by rw [ht]; omega)
          rw [ht, hg0] at this
          refine this.mono ?_
          rintro e w' ⟨r1, ⟨v2, r2⟩, r3⟩
          exact ⟨r1, v2, _, _, hP.next hl r2 (hK1.trans r3)⟩
        have hlen : (es'.drop (sameA es')).length = es'.length - sameA es' := by simp
        have HLn : Hid ((es'.drop (sameA es')).length = es'.length - sameA es') := hlen
        have hc1 : ((sameA es' : Nat) : Int) ≤ (c' : Int) := by omega
        have hc2 : ((sameA es' : Nat) : Int) ≤ (es'.length : Int) := by omega
        have hc3 : (0 : Int) < (es'.length : Int) := by omega
        clear hP hPP hsr hbb hbm hss ht hg0 hlen HST HPo HEnd1 HEnd2
        generalize sameA es' = s at *
        by_cases hcs : c' = s
        · rw [if_pos hcs] at HAr
          subst hcs
          generalize es'.drop c' = ds at *
          generalize es'.length = L at *
          go_wp2_with fail
          refine (HSA.out).mono ?_
          rintro _ w1 ⟨rfl, hb1⟩
          go_wp2_with fail
          refine (HAr.out w1 hb1).mono ?_
          rintro _ w2 ⟨rfl, hP2⟩
          clear HSA HAr hb1
          go_wp2
          go_roundw
          case rel => obtain ⟨v2, q2, n2, h⟩ := hP2.out; rw [Nat.sub_self] at h; exact ⟨_, _, _, rfl, ⟨k', ds, v2, q2, n2, (by have := HLn.out; omega), h⟩⟩
          case measure => first | (simp [lenV]; omega) | simp [lenV]
        · rw [if_neg hcs] at HAr
          generalize es'.drop s = ds at *
          generalize es'.length = L at *
          go_wp2_with fail
          refine (HSA.out).mono ?_
          rintro _ w1 ⟨rfl, hb1⟩
          go_wp2_with fail
          refine (HAr.out w1 hb1).mono ?_
          rintro _ w2 ⟨rfl, hP2⟩
          clear HSA HAr hb1
          go_wp2
          go_roundw
          case rel => obtain ⟨v2, q2, n2, h⟩ := hP2.out; exact ⟨_, _, _, rfl, ⟨k', ds, v2, q2, n2, (by have := HLn.out; omega), h⟩⟩
          case measure => first | (simp [lenV]; omega) | simp [lenV]
      · have hl0 : es'.length = 0 := by omega
        obtain ⟨rfl, rfl⟩ := hP.done hl0
        have hbb := hP.bq
        have HWr : Hid (WrS wr F v1 q n) := hP.hw
        have HKr : Hid (KW F w wr) := hP.kw
        rw [hl0]
        clear hP hPP HST hl hl0
        go_wp2_with fail
        refine (HEnd1.out _ v1 HWr.out (by omega)).mono ?_
        rintro _ w1 ⟨rfl, ⟨v2, hS2⟩, hK2⟩
        go_wp2_with fail
        refine (HEnd2.out _ v2 hS2 (by omega)).mono ?_
        rintro _ w2 ⟨rfl, ⟨v3, hS3⟩, hK3⟩
        have HF : Hid (WrPost F (q ++ [itLb 0] ++ [retI 2147483648]) n w (.returned (.tuple #[])) w2) := HPo.out w2 v3 hS3 ((HKr.out.trans hK2).trans hK3)
        clear hS2 hS3 hK2 hK3 HEnd1 HEnd2 HPo HWr HKr
        go_wp2
        go_end0
        exact HF.out
end Go.Proofs.Ytoopomjkapeknaa
