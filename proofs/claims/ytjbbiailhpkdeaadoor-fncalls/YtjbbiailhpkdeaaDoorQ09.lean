/-
  DlgG, DlgH
-/
import Derived.Test.YtjbbiailhpkdeaaDoorQ08
import Derived.Test.YtjbbiailhpkdeaaDoorQ07
namespace Go.Proofs.YtjbbiailhpkdeaaDoor
open Go.RowKit
set_option linter.unusedVariables false

set_option maxRecDepth 100000 in
set_option maxHeartbeats 4000000 in
theorem logCall_in (L b o : Nat) (B : List Int) (cap k : Nat) (w : World) (h : LgS w L b o B cap k) (hL : L < w.heap.size) (hbw : b < w.heap.size) (hne : L ≠ b) (hB : isBytes B) (hn : B.length ≤ 1048576) (hkn : k < B.length) :
    Calls Tryd.prog 52 #[.pointer (some ⟨L, 0, none⟩)] w fun e w' => FramePost L b o B cap k w e w' := by
  have HBad : Hid (∀ (c : Int) (a : Nat), frameR B.length (B.drop k) = .inl (c, a) → ∀ W, Far w W (fun q => q = L) → FramePost L b o B cap k w (Bad c (a : Int)) W) := fun c a e W hF => ⟨hF, .inl ⟨c, a, e, rfl⟩⟩
  have HX : Hid (∀ W, FcS w W → W.cell? ⟨L, 0, none⟩ = some (.slice (some ⟨b, o, none⟩) B.length cap) ∧ W.cell? ⟨L, 1, none⟩ = some (.int .i64 (k : Int))) := fun W hF => by
    have := h.fc hF hL hbw
    exact ⟨this.c0, this.c1⟩
  have HY : Hid (∀ (c a : Int) w1, Calls Tryd.prog 53 #[.bool true, .int .i64 c, .int .i64 a] w1 fun e w' => e = Bad c a ∧ w' = w1) := fun c a w1 => refuse_yes c a w1
  have HN : Hid (∀ (c a : Int) w1, Calls Tryd.prog 53 #[.bool false, .int .i64 c, .int .i64 a] w1 fun e w' => e = .returned (.tuple #[]) ∧ w' = w1) := fun c a w1 => refuse_no c a w1
  have hF0 := FcS.start w
  obtain ⟨m, hm, hm2⟩ : ∃ m : Nat, B.getD k 0 = (m : Int) ∧ m < 256 := by
    have h1 := hB (B.getD k 0) (by rw [List.getD_eq_getElem?_getD, List.getElem?_eq_getElem hkn]; exact List.getElem_mem hkn)
    exact ⟨(B.getD k 0).toNat, by omega, by omega⟩
  have hfr := frame_at hkn hm
  have HYb : Hid (∀ W, FcS w W → W.cell? ⟨b, o + k, none⟩ = some (.int .u8 (m : Int))) := fun W hF => by
    have := (h.fc hF hL hbw).src k hkn
    rw [hm] at this; exact this
  have hca := h.cap
  have HF0 : Hid (FcS w (w.alloc (.cells #[.int .u32 0, .int .u32 0, .slice none 0 0] 34))) := hF0
  obtain ⟨x0, x1⟩ := HX.out _ hF0
  have xb := HYb.out _ hF0
  have HLg : Hid (LgS w L b o B cap k) := h
  have HByt : Hid (isBytes B) := hB
  have HFr : Hid (frameR B.length (B.drop k) = if m < 8 ∨ 70 < m then .inl (6, k) else if B.length < k + 1 + m + 4 then .inl (5, B.length) else if littleL (sumL ((B.drop (k + 1)).take m)) 4 ≠ (B.drop (k + 1 + m)).take 4 then .inl (7, k + 1 + m) else match callB ((B.drop (k + 1)).take m) with | none => .inl (8, k + 1) | some c => .inr (c, B.drop (k + 1 + m + 4))) := hfr
  have hkn' : (k : Int) < (B.length : Int) := by omega
  have hne1 : ((k : Int) == (B.length : Int)) = false := by simp; omega
  have hnI : (B.length : Int) ≤ 1048576 := by omega
  clear h hB hfr hm hF0
  generalize hFP : FramePost L b o B cap k w = Post at *
  have HFP : Hid (FramePost L b o B cap k w = Post) := hFP
  clear hFP
  generalize hV0 : w.alloc (.cells #[.int .u32 0, .int .u32 0, .slice none 0 0] 34) = V0 at *
  obtain ⟨n, hnn⟩ : ∃ n, B.length = n := ⟨_, rfl⟩
  have Hnn : Hid (B.length = n) := hnn
  rw [hnn] at hkn hkn' hne1 hnI x0 hca HX HBad HFr hn
  clear hnn
  have hS : V0.drew.cell? ⟨L, 0, none⟩ = some (.slice (some ⟨b, o, none⟩) n cap) ∧ V0.drew.cell? ⟨L, 1, none⟩ = some (.int .i64 (k : Int)) := ⟨x0, x1⟩
  go_enter Tryd.func52, Tryd.ntmps52
  go_wp2_with fail
  go_region_held3 (fun w' => w'.cell? ⟨L, 0, none⟩ = some (.slice (some ⟨b, o, none⟩) n cap) ∧ w'.cell? ⟨L, 1, none⟩ = some (.int .i64 (k : Int)))
    (assumption)
    (first | (go_at_call 53; refine (HN.out _ _ _).mono ?_; rintro _ w1 ⟨rfl, hw1⟩; rw [hw1]; clear hw1 w1))
  clear hS
  go_wp2_with fail
  go_quiet (fail)
  have HFq : Hid (FcS w (V0.drewN (1 + nq))) := HF0.out.drewN _
  by_cases hm8 : m < 8 ∨ 70 < m
  · have HP : Hid (∀ W, Far w W (fun q => q = L) → Post (Bad 6 (k : Int)) W) := fun W hF => by
      have := HBad.out 6 k (by rw [HFr.out, if_pos hm8]) W hF
      exact this
    have HP2 : Hid (Post (Bad 6 (k : Int)) (V0.drewN (1 + nq))) := HP.out _ HFq.out.fr.up
    clear HBad HX HN HFr HLg HByt HYb HF0 HFq HP HFP Hnn
    rcases hm8 with h8 | h8
    · have h8' : (m : Int) < 8 := by omega
      go_wp2_with fail
      refine (HY.out _ _ _).mono ?_
      rintro _ w1 ⟨rfl, hw1⟩
      rw [hw1]
      exact ⟨rfl, HP2.out⟩
    · have h8' : ¬ (m : Int) < 8 := by omega
      have h70 : (70 : Int) < (m : Int) := by omega
      go_wp2_with fail
      refine (HY.out _ _ _).mono ?_
      rintro _ w1 ⟨rfl, hw1⟩
      rw [hw1]
      exact ⟨rfl, HP2.out⟩
  have h8' : decide ((m : Int) < 8) = false := by simp; omega
  have h70 : decide ((70 : Int) < (m : Int)) = false := by simp; omega
  have h8n : ¬ (m : Int) < 8 := by omega
  have h70n : ¬ (70 : Int) < (m : Int) := by omega
  have hmI : (m : Int) ≤ 70 := by omega
  have HFr2 : Hid (frameR n (B.drop k) = if n < k + 1 + m + 4 then .inl (5, n) else if littleL (sumL ((B.drop (k + 1)).take m)) 4 ≠ (B.drop (k + 1 + m)).take 4 then .inl (7, k + 1 + m) else match callB ((B.drop (k + 1)).take m) with | none => .inl (8, k + 1) | some c => .inr (c, B.drop (k + 1 + m + 4))) := by
    show _ = _
    rw [HFr.out, if_neg hm8]
  clear HFr hm8 HF0 xb
  go_wp2_with fail
  refine (HN.out _ _ _).mono ?_
  rintro _ w1 ⟨rfl, hw1⟩
  rw [hw1]
  clear hw1 w1
  generalize V0.drewN (1 + nq) = V1 at *
  clear x0 x1
  obtain ⟨x0, x1⟩ := HX.out _ HFq.out
  by_cases hfit : n < k + 1 + m + 4
  · have HP : Hid (Post (Bad 5 (n : Int)) V1.drew) := HBad.out 5 n (by rw [HFr2.out, if_pos hfit]) _ HFq.out.fr.up.drew
    have hwp : IntKind.i64.wrap ((k : Int) + 1 + (m : Int) + 4) = (k : Int) + 1 + (m : Int) + 4 := by rw [IntKind.wrap_i64]; omega
    have hf' : decide ((n : Int) < (k : Int) + 1 + (m : Int) + 4) = true := by simp; omega
    clear HBad HX HN HFr2 HLg HByt HYb HFq HFP Hnn
    go_wp2_with fail
    go_region_dies
    all_goals (refine (HY.out _ _ _).mono ?_; rintro _ w1 ⟨rfl, hw1⟩; rw [hw1]; exact ⟨rfl, HP.out⟩)
  have hwp : IntKind.i64.wrap ((k : Int) + 1 + (m : Int) + 4) = (k : Int) + 1 + (m : Int) + 4 := by rw [IntKind.wrap_i64]; omega
  have hf' : decide ((n : Int) < (k : Int) + 1 + (m : Int) + 4) = false := by simp; omega
  have hS : V1.drew.cell? ⟨L, 0, none⟩ = some (.slice (some ⟨b, o, none⟩) n cap) := x0
  go_wp2_with fail
  go_region_held3 (fun w' => w'.cell? ⟨L, 0, none⟩ = some (.slice (some ⟨b, o, none⟩) n cap))
    (assumption)
    (first | (go_at_call 53; refine (HN.out _ _ _).mono ?_; rintro _ w1 ⟨rfl, hw1⟩; rw [hw1]; clear hw1 w1))
  clear hS
  have hc1 : ¬ cap = k + 1 := by omega
  have hk1 : (k : Int) + 1 ≤ (k : Int) + 1 + (m : Int) := by omega
  have hk2 : (k : Int) + 1 + (m : Int) ≤ (n : Int) := by omega
  have hk3 : (k : Int) + 1 + (m : Int) ≤ (cap : Int) := by omega
  have hc2 : ¬ cap = k + 1 + m := by omega
  have hk4 : (k : Int) + 1 + (m : Int) ≤ (k : Int) + 1 + (m : Int) + 4 := by omega
  have hk5 : (k : Int) + 1 + (m : Int) + 4 ≤ (n : Int) := by omega
  have hk6 : (k : Int) + 1 + (m : Int) + 4 ≤ (cap : Int) := by omega
  have hlg1 := HLg.out.fc HFq.out hL hbw
  have hbV : b < V1.heap.size := Nat.lt_of_lt_of_le hbw HFq.out.fr.size
  have hZV : w.heap.size < V1.heap.size := by obtain ⟨x, hx⟩ := HFq.out.z 0 (by omega); exact cell_ltD hx
  have hRd := RdB.new (m := m) (k := k) hlg1.src hbV Hnn.out (by omega) hca
  have hbl : Below V1.heap.size V1 (V1.alloc (.cells #[.slice (some ⟨b, o + (k + 1), none⟩) m (cap - (k + 1)), .int .i64 ((k : Int) + 1)] 101)) := (Below.refl _ _).alloc (Nat.le_refl _) _
  have hF2 := HFq.out.below hbl
  have hlen : ((B.drop (k + 1)).take m).length = m := by have := Hnn.out; simp; omega
  have hR0 := hRd.c0
  rw [hlen] at hR0
  have hL0 := (HX.out _ hF2).1
  have hbody : isBytes ((B.drop (k + 1)).take m) := fun x hx => HByt.out x (List.mem_of_mem_drop (List.mem_of_mem_take hx))
  have HCk : Hid (∀ W, (FcS w W ∧ RdB W V1.heap.size b ((B.drop (k + 1)).take m) ((k : Int) + 1) (o + (k + 1)) (cap - (k + 1)) ∧ W.cell? ⟨V1.heap.size, 0, none⟩ = some (.slice (some ⟨b, o + (k + 1), none⟩) m (cap - (k + 1))) ∧ W.cell? ⟨L, 0, none⟩ = some (.slice (some ⟨b, o, none⟩) n cap)) → Calls Tryd.prog 35 #[.slice (some ⟨b, o + (k + 1), none⟩) m (cap - (k + 1))] W fun e W' => e = .returned (.int .u32 (sumL ((B.drop (k + 1)).take m))) ∧ Below W.heap.size W W') := fun W hW => by
    have := implSum_any (some ⟨b, o + (k + 1), none⟩) (cap - (k + 1)) ((B.drop (k + 1)).take m) W (.inr ⟨b, _, rfl, Nat.lt_of_lt_of_le hbw hW.1.fr.size, hW.2.1.src⟩) hbody (by omega)
    rw [hlen] at this
    exact this
  have hby : ∀ i, 0 ≤ B.getD i 0 ∧ B.getD i 0 ≤ 255 := fun i => by
    by_cases hi : i < B.length
    · exact HByt.out _ (by rw [List.getD_eq_getElem?_getD, List.getElem?_eq_getElem hi]; exact List.getElem_mem hi)
    · rw [List.getD_eq_getElem?_getD, List.getElem?_eq_none (by omega)]; simp
  have HWd : Hid (∀ W, (FcS w W ∧ RdB W V1.heap.size b ((B.drop (k + 1)).take m) ((k : Int) + 1) (o + (k + 1)) (cap - (k + 1)) ∧ W.cell? ⟨V1.heap.size, 0, none⟩ = some (.slice (some ⟨b, o + (k + 1), none⟩) m (cap - (k + 1))) ∧ W.cell? ⟨L, 0, none⟩ = some (.slice (some ⟨b, o, none⟩) n cap)) → Calls Tryd.prog 63 #[.slice (some ⟨b, o + (k + 1 + m), none⟩) 4 (cap - (k + 1 + m))] W fun e W' => e = .returned (.int .u32 (B.getD (k + 1 + m) 0 + 256 * B.getD (k + 1 + m + 1) 0 + 65536 * B.getD (k + 1 + m + 2) 0 + 16777216 * B.getD (k + 1 + m + 3) 0)) ∧ Below W.heap.size W W') := fun W hW => by
    have hsr := (HLg.out.fc hW.1 hL hbw).src
    have hnn := Hnn.out
    have g : ∀ i, i < 4 → W.cell? ⟨b, o + (k + 1 + m) + i, none⟩ = some (.int .u8 (B.getD (k + 1 + m + i) 0)) := fun i hi => by
      rw [Nat.add_assoc]; exact hsr (k + 1 + m + i) (by omega)
    refine (wordOf_at b (o + (k + 1 + m)) (cap - (k + 1 + m)) _ _ _ _ W (g 0 (by omega)) (g 1 (by omega)) (g 2 (by omega)) (g 3 (by omega)) (hby _) (hby _) (hby _) (hby _)).mono ?_
    rintro e W' ⟨rfl, mm, rfl⟩
    exact ⟨rfl, below_drewN (Below.refl _ _) mm⟩
  have SK : Hid (∀ W W', Below W.heap.size W W' → (FcS w W ∧ RdB W V1.heap.size b ((B.drop (k + 1)).take m) ((k : Int) + 1) (o + (k + 1)) (cap - (k + 1)) ∧ W.cell? ⟨V1.heap.size, 0, none⟩ = some (.slice (some ⟨b, o + (k + 1), none⟩) m (cap - (k + 1))) ∧ W.cell? ⟨L, 0, none⟩ = some (.slice (some ⟨b, o, none⟩) n cap)) → (FcS w W' ∧ RdB W' V1.heap.size b ((B.drop (k + 1)).take m) ((k : Int) + 1) (o + (k + 1)) (cap - (k + 1)) ∧ W'.cell? ⟨V1.heap.size, 0, none⟩ = some (.slice (some ⟨b, o + (k + 1), none⟩) m (cap - (k + 1))) ∧ W'.cell? ⟨L, 0, none⟩ = some (.slice (some ⟨b, o, none⟩) n cap))) := fun W W' hb ⟨h1, h2, h3, h4⟩ => ⟨h1.below hb, h2.below hb (Nat.lt_of_lt_of_le hbw h1.fr.size), cell_blkD h3 (hb.block _ (cell_ltD h3)), cell_blkD h4 (hb.block _ (cell_ltD h4))⟩
  have hsum := sumL_ok ((B.drop (k + 1)).take m)
  have hlit := word_little hsum.1 hsum.2 (hby (k + 1 + m)) (hby (k + 1 + m + 1)) (hby (k + 1 + m + 2)) (hby (k + 1 + m + 3))
  rw [← take4 (B := B) (k := k + 1 + m) (by have := Hnn.out; omega)] at hlit
  have HF3 : Hid (frameR n (B.drop k) = if sumL ((B.drop (k + 1)).take m) = B.getD (k + 1 + m) 0 + 256 * B.getD (k + 1 + m + 1) 0 + 65536 * B.getD (k + 1 + m + 2) 0 + 16777216 * B.getD (k + 1 + m + 3) 0 then (match callB ((B.drop (k + 1)).take m) with | none => .inl (8, k + 1) | some c => .inr (c, B.drop (k + 1 + m + 4))) else .inl (7, k + 1 + m)) := by
    show _ = _
    rw [HFr2.out, if_neg hfit]
    by_cases g : sumL ((B.drop (k + 1)).take m) = B.getD (k + 1 + m) 0 + 256 * B.getD (k + 1 + m + 1) 0 + 65536 * B.getD (k + 1 + m + 2) 0 + 16777216 * B.getD (k + 1 + m + 3) 0
    · rw [if_pos g, if_neg (fun hne2 => hne2 (hlit.1 g))]
    · rw [if_neg g, if_pos (fun e => g (hlit.2 e))]
  have HB8 : Hid (∀ W3, RdB W3 V1.heap.size b ((B.drop (k + 1)).take m) ((k : Int) + 1) (o + (k + 1)) (cap - (k + 1)) → V1.heap.size < W3.heap.size → Calls Tryd.prog 64 #[.pointer (some ⟨V1.heap.size, 0, none⟩)] W3 fun e w' => BodyPost V1.heap.size ((B.drop (k + 1)).take m) ((k : Int) + 1) W3 e w') := fun W3 h3 h4 => bodyCall_any _ b _ _ _ _ W3 h3 h4 (by omega) (by omega) hbody (by omega)
  have hST : FcS w (V1.alloc (.cells #[.slice (some ⟨b, o + (k + 1), none⟩) m (cap - (k + 1)), .int .i64 ((k : Int) + 1)] 101)).drew ∧ RdB (V1.alloc (.cells #[.slice (some ⟨b, o + (k + 1), none⟩) m (cap - (k + 1)), .int .i64 ((k : Int) + 1)] 101)).drew V1.heap.size b ((B.drop (k + 1)).take m) ((k : Int) + 1) (o + (k + 1)) (cap - (k + 1)) ∧ (V1.alloc (.cells #[.slice (some ⟨b, o + (k + 1), none⟩) m (cap - (k + 1)), .int .i64 ((k : Int) + 1)] 101)).drew.cell? ⟨V1.heap.size, 0, none⟩ = some (.slice (some ⟨b, o + (k + 1), none⟩) m (cap - (k + 1))) ∧ (V1.alloc (.cells #[.slice (some ⟨b, o + (k + 1), none⟩) m (cap - (k + 1)), .int .i64 ((k : Int) + 1)] 101)).drew.cell? ⟨L, 0, none⟩ = some (.slice (some ⟨b, o, none⟩) n cap) := ⟨hF2.drew, hRd.drew, hR0, hL0⟩
  clear HX hlg1 hRd hF2 hlen hbody hby hsum hlit HFr2 HByt HYb HFq x0 x1
  generalize hBd : (B.drop (k + 1)).take m = body at *
  generalize B.getD (k + 1 + m) 0 + 256 * B.getD (k + 1 + m + 1) 0 + 65536 * B.getD (k + 1 + m + 2) 0 + 16777216 * B.getD (k + 1 + m + 3) 0 = X at *
  clear hBd
  generalize hSm : sumL body = SM at *
  clear hSm
  go_wp2_with fail
  generalize V1.alloc (.cells #[.slice (some ⟨b, o + (k + 1), none⟩) m (cap - (k + 1)), .int .i64 ((k : Int) + 1)] 101) = W2 at *
  have hST2 := SK.out _ _ ((Below.refl _ _).drew) hST
  clear hST
  obtain ⟨ed, he⟩ : ∃ ed, k + 1 + m = ed := ⟨_, rfl⟩
  have heI : (k : Int) + 1 + (m : Int) = (ed : Int) := by omega
  rw [heI]
  rw [he] at HWd hc2 HF3
  have he4 : Hid (ed + 4 ≤ n) := by show _ ≤ _; omega
  have hwp2 : IntKind.i64.wrap ((ed : Int) + 4) = (ed : Int) + 4 := by rw [IntKind.wrap_i64]; omega
  have hq4 : (ed : Int) ≤ (ed : Int) + 4 := by omega
  have hq5 : (ed : Int) + 4 ≤ (n : Int) := by omega
  have hq6 : (ed : Int) + 4 ≤ (cap : Int) := by omega
  have HWd2 : Hid (∀ W, (FcS w W ∧ RdB W V1.heap.size b body ((k : Int) + 1) (o + (k + 1)) (cap - (k + 1)) ∧ W.cell? ⟨V1.heap.size, 0, none⟩ = some (.slice (some ⟨b, o + (k + 1), none⟩) m (cap - (k + 1))) ∧ W.cell? ⟨L, 0, none⟩ = some (.slice (some ⟨b, o, none⟩) n cap)) → Calls Tryd.prog 63 #[.slice (some ⟨b, o + ed, none⟩) (((ed : Int) + 4).toNat - ed) (cap - ed)] W fun e W' => e = .returned (.int .u32 X) ∧ Below W.heap.size W W') := fun W hW => by
    rw [show ((ed : Int) + 4).toNat - ed = 4 by omega]
    exact HWd.out W hW
  clear he heI hk1 hk2 hk3 hk4 hk5 hk6 hwp hf' HWd
  by_cases hsm : SM = X
  · have HFr4 : Hid (frameR n (B.drop k) = match callB body with | none => .inl (8, k + 1) | some c => .inr (c, B.drop (ed + 4))) := by show _ = _; rw [HF3.out, if_pos hsm]
    subst hsm
    have HN7 : Hid (∀ W, (FcS w W ∧ RdB W V1.heap.size b body ((k : Int) + 1) (o + (k + 1)) (cap - (k + 1)) ∧ W.cell? ⟨V1.heap.size, 0, none⟩ = some (.slice (some ⟨b, o + (k + 1), none⟩) m (cap - (k + 1))) ∧ W.cell? ⟨L, 0, none⟩ = some (.slice (some ⟨b, o, none⟩) n cap)) → Calls Tryd.prog 53 #[.bool false, .int .i64 7, .int .i64 (ed : Int)] W fun e W' => e = .returned (.tuple #[]) ∧ (FcS w W' ∧ RdB W' V1.heap.size b body ((k : Int) + 1) (o + (k + 1)) (cap - (k + 1)) ∧ W'.cell? ⟨V1.heap.size, 0, none⟩ = some (.slice (some ⟨b, o + (k + 1), none⟩) m (cap - (k + 1))) ∧ W'.cell? ⟨L, 0, none⟩ = some (.slice (some ⟨b, o, none⟩) n cap))) := fun W hW => (HN.out 7 _ W).mono (by
      rintro e W' ⟨h1, h2⟩
      rw [h2]
      exact ⟨h1, hW⟩)
    clear HF3 HY HN
    go_region_held3 (fun W => FcS w W ∧ RdB W V1.heap.size b body ((k : Int) + 1) (o + (k + 1)) (cap - (k + 1)) ∧ W.cell? ⟨V1.heap.size, 0, none⟩ = some (.slice (some ⟨b, o + (k + 1), none⟩) m (cap - (k + 1))) ∧ W.cell? ⟨L, 0, none⟩ = some (.slice (some ⟨b, o, none⟩) n cap))
      (assumption)
      (first
        | (go_at_call 35; refine (HCk.out _ (by assumption)).mono ?_; rintro _ w9 ⟨rfl, hb9⟩; have hs9 := SK.out _ _ hb9 (by assumption))
        | (go_at_call 63; refine (HWd2.out _ (by assumption)).mono ?_; rintro _ w10 ⟨rfl, hb10⟩; have hs10 := SK.out _ _ hb10 (by assumption))
        | (go_at_call 53; refine (HN7.out _ (by assumption)).mono ?_; rintro _ wf ⟨rfl, hsF⟩))
    all_goals
      obtain ⟨hFf, hRf, _, _⟩ := hsF
      have hlf := HLg.out.fc hFf hL hbw
      have y1 := hlf.c1
      have yf := hlf.f1
      have hRs : V1.heap.size < wf.heap.size := cell_ltD hRf.c0
      have HRf : Hid (RdB (wf.setCell ⟨L, 1, none⟩ (.int .i64 ((ed : Int) + 4))) V1.heap.size b body ((k : Int) + 1) (o + (k + 1)) (cap - (k + 1))) := hRf.setNew (by omega) (fun e => hne e.symm)
      have HlW : Hid (LgS (wf.setCell ⟨L, 1, none⟩ (.int .i64 ((ed : Int) + 4))) L b o B cap (ed + 4)) := by
        have := hlf.to hne (ed + 4)
        push_cast at this
        exact this
      have HFw : Hid (Far w (wf.setCell ⟨L, 1, none⟩ (.int .i64 ((ed : Int) + 4))) (fun q => q = L)) := (Far.up hFf.fr).set L 1 _ rfl
      have Hz : Hid (∀ W4, Far (wf.setCell ⟨L, 1, none⟩ (.int .i64 ((ed : Int) + 4))) W4 (fun q => q = V1.heap.size) → (∀ i, i < 3 → ∃ x, W4.cell? ⟨w.heap.size, i, none⟩ = some x) ∧ (∀ i, W4.frozen? ⟨w.heap.size, i, none⟩ = false) ∧ Far w W4 (fun q => q = L) ∧ LgS W4 L b o B cap (ed + 4)) := fun W4 hF4 => by
        have hsz : (wf.setCell ⟨L, 1, none⟩ (.int .i64 ((ed : Int) + 4))).heap.size = wf.heap.size := by simp [World.setCell]
        have eZ := hF4.block w.heap.size (by rw [hsz]; omega) (fun e => by omega)
        have eL := hF4.block L (by rw [hsz]; omega) (fun e => by omega)
        have eb := hF4.block b (by rw [hsz]; omega) (fun e => by omega)
        refine ⟨fun i hi => ?_, fun i => ?_, HFw.out.skip hF4 (by omega), HlW.out.blk eL eb⟩
        · obtain ⟨x, hx⟩ := hFf.z i hi
          exact ⟨x, cell_blkD (cell_farD (by omega) hx) eZ⟩
        · exact frz_blkD (by rw [World.frozen?_setCell]; exact hFf.zf i) eZ
      have hRs2 : V1.heap.size < (wf.setCell ⟨L, 1, none⟩ (.int .i64 ((ed : Int) + 4))).heap.size := by simp [World.setCell]; exact hRs
      have HBc : Hid (Calls Tryd.prog 64 #[.pointer (some ⟨V1.heap.size, 0, none⟩)] (wf.setCell ⟨L, 1, none⟩ (.int .i64 ((ed : Int) + 4))) fun e w' => BodyPost V1.heap.size body ((k : Int) + 1) (wf.setCell ⟨L, 1, none⟩ (.int .i64 ((ed : Int) + 4))) e w') := HB8.out _ HRf.out hRs2
      clear HRf HlW hFf hRf hlf HB8 HCk HWd2 SK HN7
      go_wp2_with fail
      refine (HBc.out).mono ?_
      rintro e' W4 ⟨hF4, ⟨g, rfl⟩ | ⟨c, g, h6, rfl, hO⟩⟩
      · obtain ⟨_, _, hFw4, _⟩ := Hz.out W4 hF4
        have := HBad.out 8 (k + 1) (by rw [HFr4.out, g]) W4 hFw4
        push_cast at this
        exact ⟨rfl, this⟩
      · obtain ⟨hz, hzf, hFw4, hlg4⟩ := Hz.out W4 hF4
        obtain ⟨y0, z0⟩ := hz 0 (by omega)
        obtain ⟨y1', z1⟩ := hz 1 (by omega)
        obtain ⟨y2, z2⟩ := hz 2 (by omega)
        have zf0 := hzf 0
        have zf1 := hzf 1
        have zf2 := hzf 2
        have hszE : (wf.setCell ⟨L, 1, none⟩ (.int .i64 ((ed : Int) + 4))).heap.size = wf.heap.size := by simp [World.setCell]
        rw [hszE] at hO ⊢
        have hDw : w.heap.size < wf.heap.size + 1 := by omega
        have HP : Hid (Post (.returned (.agg #[.int .u32 c.arch, .int .u32 c.nr, .slice (some ⟨wf.heap.size + 1, 0, none⟩) 6 6])) (((W4.setCell ⟨w.heap.size, 0, none⟩ (.int .u32 c.arch)).setCell ⟨w.heap.size, 1, none⟩ (.int .u32 c.nr)).setCell ⟨w.heap.size, 2, none⟩ (.slice (some ⟨wf.heap.size + 1, 0, none⟩) 6 6))) := by
          show Post _ _
          rw [← HFP.out]
          refine ⟨((hFw4.setNew (Nat.le_refl _)).setNew (Nat.le_refl _)).setNew (Nat.le_refl _), .inr ⟨c, ed + 4, wf.heap.size + 1, ?_, ?_, rfl, h6, by omega, ?_, ?_⟩⟩
          · rw [Hnn.out, HFr4.out, g]
          · have := Hnn.out; have := he4.out; omega
          · exact row_block hO fun q hq => by
              have : wf.heap.size + 1 = q := by simpa [Value.ownBlock] using hq
              rw [set_blkD (by omega), set_blkD (by omega), set_blkD (by omega)]
          · exact hlg4.blk (by rw [set_blkD (by omega), set_blkD (by omega), set_blkD (by omega)]) (by rw [set_blkD (by omega), set_blkD (by omega), set_blkD (by omega)])
        clear HBc Hz HFw HFr4 HFP HBad hO hlg4 hFw4 hF4 hz hzf g
        go_wp2
        exact bodyPost_ret (v := .agg #[.int .u32 c.arch, .int .u32 c.nr, .slice (some ⟨wf.heap.size + 1, 0, none⟩) 6 6]) (by simp [results, Tryd.results52, go_sem, z0, z1, z2]) rfl HP.out
  · have HY7 : Hid (∀ W, (FcS w W ∧ RdB W V1.heap.size b body ((k : Int) + 1) (o + (k + 1)) (cap - (k + 1)) ∧ W.cell? ⟨V1.heap.size, 0, none⟩ = some (.slice (some ⟨b, o + (k + 1), none⟩) m (cap - (k + 1))) ∧ W.cell? ⟨L, 0, none⟩ = some (.slice (some ⟨b, o, none⟩) n cap)) → Calls Tryd.prog 53 #[.bool true, .int .i64 7, .int .i64 (ed : Int)] W fun e W' => e = Bad 7 (ed : Int) ∧ Post (Bad 7 (ed : Int)) W') := fun W hW => (HY.out 7 _ W).mono (by
      rintro e W' ⟨h1, h2⟩
      rw [h2]
      have := HBad.out 7 ed (by rw [HF3.out, if_neg hsm]) W (Far.up hW.1.fr)
      push_cast at this
      exact ⟨h1, this⟩)
    have hsm2 : (SM != X) = true := by simp; exact hsm
    obtain ⟨_, _, u0, u1⟩ := id hST2
    clear HBad HLg HB8 HF3 HN HY HFP Hnn
    go_region_law (first
      | (go_simp; go_at_call 35; refine (HCk.out _ (by assumption)).mono ?_; rintro _ w9 ⟨rfl, hb9⟩; have hs9 := SK.out _ _ hb9 (by assumption); obtain ⟨_, _, u2, u3⟩ := id hs9; dsimp only)
      | (go_simp; go_at_call 63; refine (HWd2.out _ (by assumption)).mono ?_; rintro _ w10 ⟨rfl, hb10⟩; have hs10 := SK.out _ _ hb10 (by assumption); obtain ⟨_, _, u4, u5⟩ := id hs10; dsimp only)
      | (go_simp; go_at_call 53; refine (HY7.out _ (by assumption)).mono ?_; rintro _ wf ⟨rfl, hPf⟩; dsimp only; refine panic_out _ wf ?_))
    all_goals exact ⟨rfl, hPf⟩
end Go.Proofs.YtjbbiailhpkdeaaDoor
namespace Go.Proofs.YtjbbiailhpkdeaaDoor
open Go.RowKit
set_option linter.unusedVariables false

/-- what reading the head leaves -/
def HeadPost (L b o : Nat) (B : List Int) (cap : Nat) (w : World) (e : Ending) (w' : World) : Prop :=
  Far w w' (fun q => q = L) ∧ ((∃ c a, headR B = some (c, a) ∧ e = Bad c (a : Int)) ∨ (headR B = none ∧ e = .returned (.int .i64 (countR B : Int)) ∧ LgS w' L b o B cap 7))
theorem or_count {x y : Nat} (hx : x < 256) (hy : y < 256) : bits .or .i64 (x : Int) ((y : Int) * 256) = ((x + 256 * y : Nat) : Int) := by
  have e : (y : Int) * 256 = ((y * 256 : Nat) : Int) := by omega
  have h8 : x < 2 ^ 8 := hx
  rw [e, (bits_nat .i64 32 (by decide) (fun n h0 h1 => by rw [IntKind.wrap_i64]; omega) x (y * 256) (by omega) (by omega)).2]
  rw [Nat.or_comm, Nat.mul_comm y 256, show (256 : Nat) = 2 ^ 8 from rfl, ← Nat.two_pow_add_eq_or_of_lt h8, Nat.add_comm]
theorem head_short {B : List Int} (h : B.length < 7) : headR B = some (5, B.length) := by unfold headR; rw [if_pos h]
/-- the mark CLOG -/
def markL : List Int := [67, 76, 79, 71]
theorem head_mark {B : List Int} {i : Nat} (h : ¬ B.length < 7) (hi : i < 4) (hj : ∀ j, j < i → B.getD j 0 = markL.getD j 0) (hne : B.getD i 0 ≠ markL.getD i 0) : headR B = some (2, i) := by
  unfold headR
  rw [if_neg h]
  have g0 := hj 0
  have g1 := hj 1
  have g2 := hj 2
  simp only [markL, List.getD_cons_zero, List.getD_cons_succ] at g0 g1 g2
  rcases i with _ | _ | _ | _ | i
  · simp only [markL, List.getD_cons_zero] at hne
    rw [if_pos hne]
  · simp only [markL, List.getD_cons_zero, List.getD_cons_succ] at hne
    rw [if_neg (fun e => e (g0 (by omega))), if_pos hne]
  · simp only [markL, List.getD_cons_zero, List.getD_cons_succ] at hne
    rw [if_neg (fun e => e (g0 (by omega))), if_neg (fun e => e (g1 (by omega))), if_pos hne]
  · simp only [markL, List.getD_cons_zero, List.getD_cons_succ] at hne
    rw [if_neg (fun e => e (g0 (by omega))), if_neg (fun e => e (g1 (by omega))), if_neg (fun e => e (g2 (by omega))), if_pos hne]
  · omega
theorem head_rest {B : List Int} (h : ¬ B.length < 7) (hj : ∀ j, j < 4 → B.getD j 0 = markL.getD j 0) : headR B = if B.getD 4 0 ≠ 1 then some (3, 4) else if 1000 < B.getD 5 0 + 256 * B.getD 6 0 then some (4, 5) else none := by
  have g0 := hj 0 (by omega)
  have g1 := hj 1 (by omega)
  have g2 := hj 2 (by omega)
  have g3 := hj 3 (by omega)
  simp only [markL, List.getD_cons_zero, List.getD_cons_succ] at g0 g1 g2 g3
  unfold headR
  rw [if_neg h, if_neg (fun e => e g0), if_neg (fun e => e g1), if_neg (fun e => e g2), if_neg (fun e => e g3)]

set_option maxRecDepth 100000 in
set_option maxHeartbeats 4000000 in
theorem head_any (L b o : Nat) (B : List Int) (cap k : Nat) (w : World) (h : LgS w L b o B cap k) (hL : L < w.heap.size) (hbw : b < w.heap.size) (hne : L ≠ b) (hB : isBytes B) (hn : B.length ≤ 1048576) :
    Calls Tryd.prog 51 #[.pointer (some ⟨L, 0, none⟩)] w fun e w' => HeadPost L b o B cap w e w' := by
  have HBad : Hid (∀ (c : Int) (a : Nat), headR B = some (c, a) → ∀ W, Far w W (fun q => q = L) → HeadPost L b o B cap w (Bad c (a : Int)) W) := fun c a e W hF => ⟨hF, .inl ⟨c, a, e, rfl⟩⟩
  have HY : Hid (∀ (c a : Int) w1, Calls Tryd.prog 53 #[.bool true, .int .i64 c, .int .i64 a] w1 fun e w' => e = Bad c a ∧ w' = w1) := fun c a w1 => refuse_yes c a w1
  have HN : Hid (∀ (c a : Int) w1, Calls Tryd.prog 53 #[.bool false, .int .i64 c, .int .i64 a] w1 fun e w' => e = .returned (.tuple #[]) ∧ w' = w1) := fun c a w1 => refuse_no c a w1
  have x0 := h.c0
  have x1 := h.c1
  have xf := h.f1
  by_cases h7 : B.length < 7
  · have HP : Hid (HeadPost L b o B cap w (Bad 5 (B.length : Int)) w.drew) := HBad.out 5 B.length (head_short h7) _ (Far.refl _ _).drew
    generalize HeadPost L b o B cap w = Post at *
    have h7' : (B.length : Int) < 7 := by omega
    clear HBad HN h
    generalize B.length = n at *
    go_enter Tryd.func51, Tryd.ntmps51
    go_wp2_with fail
    go_region_dies
    all_goals (refine (HY.out _ _ _).mono ?_; rintro _ w1 ⟨rfl, hw1⟩; rw [hw1]; exact ⟨rfl, HP.out⟩)
  have HBy : Hid (∀ i, i < B.length → w.cell? ⟨b, o + i, none⟩ = some (.int .u8 (B.getD i 0)) ∧ 0 ≤ B.getD i 0 ∧ B.getD i 0 ≤ 255) := fun i hi => ⟨h.src i hi, hB _ (by rw [List.getD_eq_getElem?_getD, List.getElem?_eq_getElem hi]; exact List.getElem_mem hi)⟩
  have HMk : Hid (∀ i, i < 4 → (∀ j, j < i → B.getD j 0 = markL.getD j 0) → B.getD i 0 ≠ markL.getD i 0 → headR B = some (2, i)) := fun i hi hj hne => head_mark h7 hi hj hne
  have HRs : Hid ((∀ j, j < 4 → B.getD j 0 = markL.getD j 0) → headR B = if B.getD 4 0 ≠ 1 then some (3, 4) else if 1000 < B.getD 5 0 + 256 * B.getD 6 0 then some (4, 5) else none) := fun hj => head_rest h7 hj
  have HGo : Hid (headR B = none → ∀ mm, HeadPost L b o B cap w (.returned (.int .i64 (countR B : Int))) ((w.drewN mm).setCell ⟨L, 1, none⟩ (.int .i64 7))) := fun e mm => by
    have h2 : LgS (w.drewN mm) L b o B cap k := ⟨h.c0, h.c1, h.f1, h.src, h.cap⟩
    exact ⟨(Far.set (S := fun q => q = L) (⟨rfl, rfl, rfl, Nat.le_refl _, fun _ _ _ => rfl⟩ : Far w (w.drewN mm) (fun q => q = L)) L 1 _ rfl), .inr ⟨e, rfl, h2.to hne 7⟩⟩
  have h7' : decide ((B.length : Int) < 7) = false := by simp; omega
  have h7i : (7 : Int) ≤ (B.length : Int) := by omega
  have HLen : Hid (7 ≤ B.length) := by show _ ≤ _; omega
  generalize HeadPost L b o B cap w = Post at *
  clear h hB h7
  obtain ⟨n, hnn⟩ : ∃ n, B.length = n := ⟨_, rfl⟩
  rw [hnn] at x0 h7' h7i HLen HBy
  clear hnn
  have hS : w.drew.cell? ⟨L, 0, none⟩ = some (.slice (some ⟨b, o, none⟩) n cap) := x0
  go_enter Tryd.func51, Tryd.ntmps51
  go_wp2_with fail
  go_region_held3 (fun w' => w'.cell? ⟨L, 0, none⟩ = some (.slice (some ⟨b, o, none⟩) n cap))
    (assumption)
    (first | (go_at_call 53; refine (HN.out _ _ _).mono ?_; rintro _ w1 ⟨rfl, hw1⟩; rw [hw1]; clear hw1 w1))
  clear hS
  go_wp2_with fail
  go_loopw [17] (fun i wr => ∃ j mm : Nat, j ≤ 4 ∧ i = .int .i64 j ∧ wr = w.drewN mm ∧ Hid (∀ t, t < j → B.getD t 0 = markL.getD t 0)) (fun i _ => 4 - (intOf i).toNat)
  case atStart => exact ⟨0, 1, by omega, by first | rfl | go_num, rfl, fun t ht => by omega⟩
  case round =>
    obtain ⟨j, mm, hj, rfl, rfl, HJ⟩ := hrel
    by_cases hj4 : j < 4
    · have hn7 : (7 : Int) ≤ (n : Int) := h7i
      have hm0 : 0 < n := by omega
      have hm1 : 1 < n := by omega
      have hm2 : 2 < n := by omega
      have hm3 : 3 < n := by omega
      have hi0 : (0 : Int) < (n : Int) := by omega
      have hi1 : (1 : Int) < (n : Int) := by omega
      have hi2 : (2 : Int) < (n : Int) := by omega
      have hi3 : (3 : Int) < (n : Int) := by omega
      rcases (by omega : j = 0 ∨ j = 1 ∨ j = 2 ∨ j = 3) with rfl | rfl | rfl | rfl
      · obtain ⟨c0, cb0, cb1⟩ := HBy.out 0 (by have := HLen.out; omega)
        rw [Nat.add_zero] at c0
        by_cases he : B.getD 0 0 = 67
        · have HJ2 : Hid (∀ t, t < 0 + 1 → B.getD t 0 = markL.getD t 0) := fun t ht => by
            by_cases e : t = 0
            · rw [e, he]; rfl
            · exact HJ.out t (by omega)
          rw [he] at c0
          clear HBad HY HBy HMk HRs HGo HJ he cb0 cb1
          have hS : (w.drewN mm).drew.cell? ⟨L, 0, none⟩ = some (.slice (some ⟨b, o, none⟩) n cap) ∧ (w.drewN mm).drew.cell? ⟨b, o, none⟩ = some (.int .u8 67) := ⟨x0, c0⟩
          go_wp2_with fail
          go_region_held3 (fun w' => w'.cell? ⟨L, 0, none⟩ = some (.slice (some ⟨b, o, none⟩) n cap) ∧ w'.cell? ⟨b, o, none⟩ = some (.int .u8 67))
            (assumption)
            (first | (go_at_call 53; change Calls _ _ #[Value.bool false, _, _] _ _; refine (HN.out _ _ _).mono ?_; rintro _ w1 ⟨rfl, hw1⟩; rw [hw1]; clear hw1 w1))
          clear hS
          go_wp2
          go_roundw
          case rel => exact ⟨0 + 1, mm + 1, by omega, by first | rfl | go_num, rfl, HJ2⟩
          case measure => simp [intOf]
        · have HP : Hid (Post (Bad 2 0) (w.drewN mm).drew) := HBad.out 2 0 (HMk.out 0 (by omega) HJ.out he) _ ⟨rfl, rfl, rfl, Nat.le_refl _, fun _ _ _ => rfl⟩
          generalize B.getD 0 0 = y at *
          have hy : (y != 67) = true := by simp; exact he
          clear HBad HN HBy HMk HRs HGo HJ
          go_wp2_with fail
          go_region_law (first | (go_simp; go_at_call 53; change Calls _ _ #[Value.bool (y != 67), _, _] _ _; rw [hy]; refine (HY.out _ _ _).mono ?_; rintro _ wf ⟨rfl, hwf⟩; rw [hwf]; dsimp only; refine panic_out _ wf ?_))
          all_goals exact ⟨rfl, HP.out⟩
      · obtain ⟨c0, cb0, cb1⟩ := HBy.out 1 (by have := HLen.out; omega)
        by_cases he : B.getD 1 0 = 76
        · have HJ2 : Hid (∀ t, t < 1 + 1 → B.getD t 0 = markL.getD t 0) := fun t ht => by
            by_cases e : t = 1
            · rw [e, he]; rfl
            · exact HJ.out t (by omega)
          rw [he] at c0
          clear HBad HY HBy HMk HRs HGo HJ he cb0 cb1
          have hS : (w.drewN mm).drew.cell? ⟨L, 0, none⟩ = some (.slice (some ⟨b, o, none⟩) n cap) ∧ (w.drewN mm).drew.cell? ⟨b, o + 1, none⟩ = some (.int .u8 76) := ⟨x0, c0⟩
          go_wp2_with fail
          go_region_held3 (fun w' => w'.cell? ⟨L, 0, none⟩ = some (.slice (some ⟨b, o, none⟩) n cap) ∧ w'.cell? ⟨b, o + 1, none⟩ = some (.int .u8 76))
            (assumption)
            (first | (go_at_call 53; change Calls _ _ #[Value.bool false, _, _] _ _; refine (HN.out _ _ _).mono ?_; rintro _ w1 ⟨rfl, hw1⟩; rw [hw1]; clear hw1 w1))
          clear hS
          go_wp2
          go_roundw
          case rel => exact ⟨1 + 1, mm + 1, by omega, by first | rfl | go_num, rfl, HJ2⟩
          case measure => simp [intOf]
        · have HP : Hid (Post (Bad 2 1) (w.drewN mm).drew) := HBad.out 2 1 (HMk.out 1 (by omega) HJ.out he) _ ⟨rfl, rfl, rfl, Nat.le_refl _, fun _ _ _ => rfl⟩
          generalize B.getD 1 0 = y at *
          have hy : (y != 76) = true := by simp; exact he
          clear HBad HN HBy HMk HRs HGo HJ
          go_wp2_with fail
          go_region_law (first | (go_simp; go_at_call 53; change Calls _ _ #[Value.bool (y != 76), _, _] _ _; rw [hy]; refine (HY.out _ _ _).mono ?_; rintro _ wf ⟨rfl, hwf⟩; rw [hwf]; dsimp only; refine panic_out _ wf ?_))
          all_goals exact ⟨rfl, HP.out⟩
      · obtain ⟨c0, cb0, cb1⟩ := HBy.out 2 (by have := HLen.out; omega)
        by_cases he : B.getD 2 0 = 79
        · have HJ2 : Hid (∀ t, t < 2 + 1 → B.getD t 0 = markL.getD t 0) := fun t ht => by
            by_cases e : t = 2
            · rw [e, he]; rfl
            · exact HJ.out t (by omega)
          rw [he] at c0
          clear HBad HY HBy HMk HRs HGo HJ he cb0 cb1
          have hS : (w.drewN mm).drew.cell? ⟨L, 0, none⟩ = some (.slice (some ⟨b, o, none⟩) n cap) ∧ (w.drewN mm).drew.cell? ⟨b, o + 2, none⟩ = some (.int .u8 79) := ⟨x0, c0⟩
          go_wp2_with fail
          go_region_held3 (fun w' => w'.cell? ⟨L, 0, none⟩ = some (.slice (some ⟨b, o, none⟩) n cap) ∧ w'.cell? ⟨b, o + 2, none⟩ = some (.int .u8 79))
            (assumption)
            (first | (go_at_call 53; change Calls _ _ #[Value.bool false, _, _] _ _; refine (HN.out _ _ _).mono ?_; rintro _ w1 ⟨rfl, hw1⟩; rw [hw1]; clear hw1 w1))
          clear hS
          go_wp2
          go_roundw
          case rel => exact ⟨2 + 1, mm + 1, by omega, by first | rfl | go_num, rfl, HJ2⟩
          case measure => simp [intOf]
        · have HP : Hid (Post (Bad 2 2) (w.drewN mm).drew) := HBad.out 2 2 (HMk.out 2 (by omega) HJ.out he) _ ⟨rfl, rfl, rfl, Nat.le_refl _, fun _ _ _ => rfl⟩
          generalize B.getD 2 0 = y at *
          have hy : (y != 79) = true := by simp; exact he
          clear HBad HN HBy HMk HRs HGo HJ
          go_wp2_with fail
          go_region_law (first | (go_simp; go_at_call 53; change Calls _ _ #[Value.bool (y != 79), _, _] _ _; rw [hy]; refine (HY.out _ _ _).mono ?_; rintro _ wf ⟨rfl, hwf⟩; rw [hwf]; dsimp only; refine panic_out _ wf ?_))
          all_goals exact ⟨rfl, HP.out⟩
      · obtain ⟨c0, cb0, cb1⟩ := HBy.out 3 (by have := HLen.out; omega)
        by_cases he : B.getD 3 0 = 71
        · have HJ2 : Hid (∀ t, t < 3 + 1 → B.getD t 0 = markL.getD t 0) := fun t ht => by
            by_cases e : t = 3
            · rw [e, he]; rfl
            · exact HJ.out t (by omega)
          rw [he] at c0
          clear HBad HY HBy HMk HRs HGo HJ he cb0 cb1
          have hS : (w.drewN mm).drew.cell? ⟨L, 0, none⟩ = some (.slice (some ⟨b, o, none⟩) n cap) ∧ (w.drewN mm).drew.cell? ⟨b, o + 3, none⟩ = some (.int .u8 71) := ⟨x0, c0⟩
          go_wp2_with fail
          go_region_held3 (fun w' => w'.cell? ⟨L, 0, none⟩ = some (.slice (some ⟨b, o, none⟩) n cap) ∧ w'.cell? ⟨b, o + 3, none⟩ = some (.int .u8 71))
            (assumption)
            (first | (go_at_call 53; change Calls _ _ #[Value.bool false, _, _] _ _; refine (HN.out _ _ _).mono ?_; rintro _ w1 ⟨rfl, hw1⟩; rw [hw1]; clear hw1 w1))
          clear hS
          go_wp2
          go_roundw
          case rel => exact ⟨3 + 1, mm + 1, by omega, by first | rfl | go_num, rfl, HJ2⟩
          case measure => simp [intOf]
        · have HP : Hid (Post (Bad 2 3) (w.drewN mm).drew) := HBad.out 2 3 (HMk.out 3 (by omega) HJ.out he) _ ⟨rfl, rfl, rfl, Nat.le_refl _, fun _ _ _ => rfl⟩
          generalize B.getD 3 0 = y at *
          have hy : (y != 71) = true := by simp; exact he
          clear HBad HN HBy HMk HRs HGo HJ
          go_wp2_with fail
          go_region_law (first | (go_simp; go_at_call 53; change Calls _ _ #[Value.bool (y != 71), _, _] _ _; rw [hy]; refine (HY.out _ _ _).mono ?_; rintro _ wf ⟨rfl, hwf⟩; rw [hwf]; dsimp only; refine panic_out _ wf ?_))
          all_goals exact ⟨rfl, HP.out⟩
    · have hj4' : j = 4 := by omega
      subst hj4'
      have hRs := HRs.out HJ.out
      obtain ⟨c4, _, _⟩ := HBy.out 4 (by have := HLen.out; omega)
      obtain ⟨c5, b5, b5'⟩ := HBy.out 5 (by have := HLen.out; omega)
      obtain ⟨c6, b6, b6'⟩ := HBy.out 6 (by have := HLen.out; omega)
      have hi4 : (4 : Int) < (n : Int) := by omega
      have hi5 : (5 : Int) < (n : Int) := by omega
      have hi6 : (6 : Int) < (n : Int) := by omega
      by_cases h4 : B.getD 4 0 = 1
      · rw [if_neg (fun e => e h4)] at hRs
        rw [h4] at c4
        have HC : Hid (countR B = (B.getD 5 0 + 256 * B.getD 6 0).toNat) := rfl
        clear HBy HMk HRs HJ h4
        obtain ⟨y5, e5⟩ : ∃ y5 : Nat, B.getD 5 0 = (y5 : Int) := ⟨(B.getD 5 0).toNat, by omega⟩
        obtain ⟨y6, e6⟩ : ∃ y6 : Nat, B.getD 6 0 = (y6 : Int) := ⟨(B.getD 6 0).toNat, by omega⟩
        rw [e5, e6] at hRs HC
        rw [e5] at c5 b5'
        rw [e6] at c6 b6'
        clear e5 e6 b5 b6
        go_wp2_with fail
        refine (HN.out _ _ _).mono ?_
        rintro _ w1 ⟨rfl, hw1⟩
        rw [hw1]
        clear hw1 w1 c4
        go_wp2_with fail
        go_quiet (fail)
        have hor : bits .or .i64 (y5 : Int) ((y6 : Int) * 256) = ((y5 + 256 * y6 : Nat) : Int) := or_count (by omega) (by omega)
        clear c5 c6
        by_cases hc : 1000 < y5 + 256 * y6
        · have HP : Hid (Post (Bad 4 5) (w.drewN (mm + nq))) := HBad.out 4 5 (by rw [hRs, if_pos (by omega)]) _ ⟨rfl, rfl, rfl, Nat.le_refl _, fun _ _ _ => rfl⟩
          have hc' : (1000 : Int) < ((y5 + 256 * y6 : Nat) : Int) := by omega
          generalize y5 + 256 * y6 = C at *
          clear HBad HN HGo hRs HC
          go_wp2_with fail
          refine (HY.out _ _ _).mono ?_
          rintro _ w1 ⟨rfl, hw1⟩
          rw [hw1]
          exact ⟨rfl, HP.out⟩
        · have HP : Hid (Post (.returned (.int .i64 ((y5 + 256 * y6 : Nat) : Int))) ((w.drewN (mm + nq)).setCell ⟨L, 1, none⟩ (.int .i64 7))) := by
            have h1 := HGo.out (by rw [hRs, if_neg (by omega)]) (mm + nq)
            rw [HC.out] at h1
            have e : ((((y5 : Int) + 256 * (y6 : Int)).toNat : Nat) : Int) = ((y5 + 256 * y6 : Nat) : Int) := by omega
            rw [e] at h1
            exact h1
          have hc' : decide ((1000 : Int) < ((y5 + 256 * y6 : Nat) : Int)) = false := by simp; omega
          generalize y5 + 256 * y6 = C at *
          clear HBad HY HGo hRs HC
          go_wp2_with fail
          refine (HN.out _ _ _).mono ?_
          rintro _ w1 ⟨rfl, hw1⟩
          rw [hw1]
          clear hw1 w1
          go_wp2
          first | exact HP.out | (go_ret; exact HP.out)
      · rw [if_pos h4] at hRs
        have HP : Hid (Post (Bad 3 4) (w.drewN mm)) := HBad.out 3 4 hRs _ ⟨rfl, rfl, rfl, Nat.le_refl _, fun _ _ _ => rfl⟩
        generalize B.getD 4 0 = y at *
        have hy : (y != 1) = true := by simp; exact h4
        clear HBad HN HBy HMk HRs HGo HJ hRs c5 c6 b5 b5' b6 b6'
        go_wp2_with fail
        refine (HY.out _ _ _).mono ?_
        rintro _ w1 ⟨rfl, hw1⟩
        rw [hw1]
        exact ⟨rfl, HP.out⟩
end Go.Proofs.YtjbbiailhpkdeaaDoor
