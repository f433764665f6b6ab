/-
  CONTRACTS: calls are marked, and hold their marks.
-/
import Derived.Test.YtjfgihmamoiipaaCallX
namespace Go.Proofs.Ytjfgihmamoiipaa
open Go.RowKit
set_option linter.unusedVariables false

theorem kN_succ {cs : List C} {k : Int} {i : Nat} (h : i < cs.length) : kN cs k (i + 1) = kN cs k i + 2 + (cs.getD i C.zero).args.length := by
  unfold kN; rw [tot_take_succ h]; push_cast; omega
theorem kN_bd {cs : List C} {k : Int} (i : Nat) (h0 : 0 ≤ k) (h1 : k ≤ 16) (hi : i ≤ cs.length) (ht : cs.length + tot cs ≤ 1048576) : 0 ≤ kN cs k i ∧ kN cs k i ≤ 4194304 := by
  have := tot_take_le cs i
  unfold kN; omega

set_option maxRecDepth 100000 in
set_option maxHeartbeats 800000 in
theorem markCallS_own (D N cap : Nat) (vs : Nat → Value) (cs : List C) (k : Int) (w : World) (h : OwnC w D N vs cs) (ht : cs.length + tot cs ≤ 1048576) (h0 : 0 ≤ k) (h1 : k ≤ 16) :
    Calls Try.prog 37 #[.slice (some ⟨D, 0, none⟩) cs.length cap, .int .i64 k] w fun e w' => e = .returned (.int .i64 (kN cs k cs.length)) ∧ MidC w' D N vs cs k cs.length ∧ Far w w' (setC cs D vs) := by
  have HM0 := MidC.start h k
  have hN := h.le
  have HK : Hid (∀ i, i < cs.length → kN cs k (i + 1) = kN cs k i + 2 + (cs.getD i C.zero).args.length) := fun i hi => kN_succ hi
  have HB : Hid (∀ i, i ≤ cs.length → 0 ≤ kN cs k i ∧ kN cs k i ≤ 4194304) := fun i hi => kN_bd i h0 h1 hi ht
  have HL : Hid (∀ i, i < cs.length → (cs.getD i C.zero).args.length ≤ 1048576) := fun i hi => by have := tot_mem (callL_mem hi); omega
  have HSt : Hid (∀ i w1 w2, i < cs.length → MidC w1 D N vs cs k i → ((w1.setCell ⟨D, i * 3, none⟩ (.int .u32 (kN cs k i))).setCell ⟨D, i * 3 + 1, none⟩ (.int .u32 (kN cs k i + 1))).grownBy w2 (vs i).ownBlock → MarkedU w2 (vs i) (cs.getD i C.zero).args.length (kN cs k i + 2) → MidC w2 D N vs cs k (i + 1)) :=
    fun i w1 w2 hi hm hg hM => hm.step hi hg hM
  have HC : Hid (∀ i w1, i < cs.length → MidC w1 D N vs cs k i → (∃ v0, w1.cell? ⟨D, i * 3, none⟩ = some v0 ∧ w1.frozen? ⟨D, i * 3, none⟩ = false) ∧ (∃ v1, w1.cell? ⟨D, i * 3 + 1, none⟩ = some v1 ∧ w1.frozen? ⟨D, i * 3 + 1, none⟩ = false) ∧ w1.cell? ⟨D, i * 3 + 2, none⟩ = some (vs i) ∧ D < w1.heap.size) := by
    intro i w1 hi hm
    obtain ⟨f, hr, _, hv⟩ := hm.row
    exact ⟨⟨_, hr.cell (by omega), hr.frozen _⟩, ⟨_, hr.cell (by omega), hr.frozen _⟩, by rw [hr.cell (by omega), hv i hi], hr.lt⟩
  have HU : Hid (∀ i w1, i < cs.length → MidC w1 D N vs cs k i → ∀ x y, (∃ ax cx, vs i = .slice ax (cs.getD i C.zero).args.length cx) ∧ Calls Try.prog 67 #[vs i, .int .i64 (kN cs k i + 1 + 1)] ((w1.setCell ⟨D, i * 3, none⟩ x).setCell ⟨D, i * 3 + 1, none⟩ y) fun e w' => e = .returned (.int .i64 (kN cs k i + 2 + (cs.getD i C.zero).args.length)) ∧ MarkedU w' (vs i) (cs.getD i C.zero).args.length (kN cs k i + 2) ∧ ((w1.setCell ⟨D, i * 3, none⟩ x).setCell ⟨D, i * 3 + 1, none⟩ y).grownBy w' (vs i).ownBlock) := by
    intro i w1 hi hm x y
    have ho := hm.left i (Nat.le_refl _) hi
    have hne : ∀ q, (vs i).ownBlock = some q → q ≠ D := fun q hq => by have := hm.gt i q hi hq; omega
    have hb := HB.out i (by omega)
    obtain ⟨ax, cx, e1, _⟩ := ownsU_src ho
    refine ⟨⟨ax, cx, e1⟩, ?_⟩
    rw [show kN cs k i + 1 + 1 = kN cs k i + 2 by omega]
    exact markUint64S_own _ (ownsU_set (ownsU_set ho hne) hne) (by have := HL.out i hi; omega) (by omega) (by omega)
  have HF : Hid (∀ i w1 w2 x y, i < cs.length → Far w w1 (setC cs D vs) → ((w1.setCell ⟨D, i * 3, none⟩ x).setCell ⟨D, i * 3 + 1, none⟩ y).grownBy w2 (vs i).ownBlock → Far w w2 (setC cs D vs)) :=
    fun i w1 w2 x y hi hf hg => ((hf.set D _ x (.inl rfl)).set D _ y (.inl rfl)).trans (Far.grown hg (fun q hq => .inr ⟨i, hi, hq⟩))
  have HE : Hid (kN cs k 0 = k) := by show _ = _; unfold kN; simp [tot]
  obtain ⟨n, hn'⟩ : ∃ n, cs.length = n := ⟨_, rfl⟩
  have hn : n ≤ 1048576 := by omega
  rw [hn'] at HK HB HL HSt HC HU HF hN ⊢
  clear h ht hn'
  obtain ⟨MC, hMC⟩ : ∃ MC : World → Nat → Prop, ∀ w i, MidC w D N vs cs k i = MC w i := ⟨_, fun _ _ => rfl⟩
  simp only [hMC] at HM0 HSt HC HU ⊢
  clear hMC
  obtain ⟨K, hK⟩ : ∃ K : Nat → Int, ∀ i, kN cs k i = K i := ⟨_, fun _ => rfl⟩
  simp only [hK] at HK HB HSt HU HE ⊢
  clear hK
  obtain ⟨AL, hAL⟩ : ∃ AL : Nat → Nat, ∀ i, (cs.getD i C.zero).args.length = AL i := ⟨_, fun _ => rfl⟩
  simp only [hAL] at HK HL HSt HU
  clear hAL
  generalize setC cs D vs = S at *
  go_enter Try.func37, Try.ntmps37
  go_wp2_with fail
  go_loopw [1, 5] (fun q i wr => ∃ j : Nat, j ≤ n ∧ i = .int .i64 j ∧ q = .int .i64 (K j) ∧ MC wr j ∧ Far w wr S) (fun _ i _ => n - (intOf i).toNat)
  case atStart => exact ⟨0, by omega, rfl, by rw [HE.out], HM0, Far.refl _ _⟩
  case round =>
    obtain ⟨j, hj, rfl, rfl, hM, hFr⟩ := hrel
    clear HM0 HE
    by_cases hlt : j < n
    · obtain ⟨⟨v0, c0, f0⟩, ⟨v1, c1, f1⟩, c2, hD⟩ := HC.out j wr hlt hM
      obtain ⟨⟨ax, cx, hvx⟩, hcall⟩ := HU.out j wr hlt hM (.int .u32 (K j)) (.int .u32 (K j + 1))
      have HCl : Hid (Calls Try.prog 67 #[vs j, .int .i64 (K j + 1 + 1)] ((wr.setCell ⟨D, j * 3, none⟩ (.int .u32 (K j))).setCell ⟨D, j * 3 + 1, none⟩ (.int .u32 (K j + 1))) fun e w' => e = .returned (.int .i64 (K j + 2 + AL j)) ∧ MarkedU w' (vs j) (AL j) (K j + 2) ∧ ((wr.setCell ⟨D, j * 3, none⟩ (.int .u32 (K j))).setCell ⟨D, j * 3 + 1, none⟩ (.int .u32 (K j + 1))).grownBy w' (vs j).ownBlock) := hcall
      have HS1 : Hid (∀ w2, ((wr.setCell ⟨D, j * 3, none⟩ (.int .u32 (K j))).setCell ⟨D, j * 3 + 1, none⟩ (.int .u32 (K j + 1))).grownBy w2 (vs j).ownBlock → MarkedU w2 (vs j) (AL j) (K j + 2) → MC w2 (j + 1)) := fun w2 => HSt.out j wr w2 hlt hM
      have HF1 : Hid (∀ w2, ((wr.setCell ⟨D, j * 3, none⟩ (.int .u32 (K j))).setCell ⟨D, j * 3 + 1, none⟩ (.int .u32 (K j + 1))).grownBy w2 (vs j).ownBlock → Far w w2 S) := fun w2 => HF.out j wr w2 _ _ hlt hFr
      have HK1 : Hid (K (j + 1) = K j + 2 + AL j) := HK.out j hlt
      obtain ⟨k0, k1⟩ := HB.out j (by omega)
      have hal := HL.out j hlt
      clear HC HU HSt HF HK HB HL hcall hM hFr
      generalize vs j = vj at *
      subst hvx
      generalize AL j = m at *
      generalize hKj : K j = kj at *
      clear hKj
      go_wp2_with fail
      refine HCl.out.mono ?_
      rintro e w2 ⟨rfl, hMk, hg⟩
      have hM2 := HS1.out w2 hg hMk
      have hF2 := HF1.out w2 hg
      clear HCl HS1 HF1 hMk hg c0 c1 c2 f0 f1
      go_wp2
      go_roundw
      case rel => exact ⟨j + 1, by omega, by go_num, by rw [HK1.out], hM2, hF2⟩
      case measure => simp [intOf]; omega
    · have hjn : j = n := by omega
      subst hjn
      go_wp2
      go_ret
      exact ⟨rfl, hM, hFr⟩

set_option maxRecDepth 100000 in
set_option maxHeartbeats 800000 in
theorem heldCallS_own (D N cap : Nat) (vs : Nat → Value) (cs : List C) (k : Int) (w : World) (h : MidC w D N vs cs k cs.length) (ht : cs.length + tot cs ≤ 1048576) (h0 : 0 ≤ k) (h1 : k ≤ 16) :
    Calls Try.prog 40 #[.slice (some ⟨D, 0, none⟩) cs.length cap, .int .i64 k] w fun e w' => e = .returned (.int .i64 (kN cs k cs.length)) ∧ w' = w := by
  have hN := h.le
  have HK : Hid (∀ i, i < cs.length → kN cs k (i + 1) = kN cs k i + 2 + (cs.getD i C.zero).args.length) := fun i hi => kN_succ hi
  have HB : Hid (∀ i, i ≤ cs.length → 0 ≤ kN cs k i ∧ kN cs k i ≤ 4194304) := fun i hi => kN_bd i h0 h1 hi ht
  have HL : Hid (∀ i, i < cs.length → (cs.getD i C.zero).args.length ≤ 1048576) := fun i hi => by have := tot_mem (callL_mem hi); omega
  have HC : Hid (∀ i, i < cs.length → w.cell? ⟨D, i * 3, none⟩ = some (.int .u32 (kN cs k i)) ∧ w.cell? ⟨D, i * 3 + 1, none⟩ = some (.int .u32 (kN cs k i + 1)) ∧ w.cell? ⟨D, i * 3 + 2, none⟩ = some (vs i)) := by
    intro i hi
    obtain ⟨f, hr, hf, hv⟩ := h.row
    obtain ⟨f0, f1⟩ := hf i hi
    exact ⟨by rw [hr.cell (by omega), f0], by rw [hr.cell (by omega), f1], by rw [hr.cell (by omega), hv i hi]⟩
  have HU : Hid (∀ i, i < cs.length → (∃ ax cx, vs i = .slice ax (cs.getD i C.zero).args.length cx) ∧ Calls Try.prog 74 #[vs i, .int .i64 (kN cs k i + 1 + 1)] w fun e w' => e = .returned (.int .i64 (kN cs k i + 2 + (cs.getD i C.zero).args.length)) ∧ w' = w) := by
    intro i hi
    have ho := h.done i hi
    have hb := HB.out i (by omega)
    rw [show kN cs k i + 1 + 1 = kN cs k i + 2 by omega]
    refine ⟨?_, heldUint64S_own _ ho (by have := HL.out i hi; omega) (by omega) (by omega)⟩
    rcases ho with ⟨e1, e2⟩ | ⟨g, c, e1, _⟩
    · exact ⟨none, 0, by rw [e1, e2]⟩
    · exact ⟨_, c, e1⟩
  have HE : Hid (kN cs k 0 = k) := by show _ = _; unfold kN; simp [tot]
  obtain ⟨n, hn'⟩ : ∃ n, cs.length = n := ⟨_, rfl⟩
  have hn : n ≤ 1048576 := by omega
  rw [hn'] at HK HB HL HC HU hN ⊢
  clear h ht hn'
  obtain ⟨K, hK⟩ : ∃ K : Nat → Int, ∀ i, kN cs k i = K i := ⟨_, fun _ => rfl⟩
  simp only [hK] at HK HB HC HU HE ⊢
  clear hK
  obtain ⟨AL, hAL⟩ : ∃ AL : Nat → Nat, ∀ i, (cs.getD i C.zero).args.length = AL i := ⟨_, fun _ => rfl⟩
  simp only [hAL] at HK HL HU
  clear hAL
  go_enter Try.func40, Try.ntmps40
  go_wp2_with fail
  go_loopw [1, 5] (fun q i wr => ∃ j : Nat, j ≤ n ∧ i = .int .i64 j ∧ q = .int .i64 (K j) ∧ wr = w) (fun _ i _ => n - (intOf i).toNat)
  case atStart => exact ⟨0, by omega, rfl, by rw [HE.out], rfl⟩
  case round =>
    obtain ⟨j, hj, rfl, rfl, rfl⟩ := hrel
    clear HE
    by_cases hlt : j < n
    · obtain ⟨c0, c1, c2⟩ := HC.out j hlt
      obtain ⟨⟨ax, cx, hvx⟩, hcall⟩ := HU.out j hlt
      have HCl : Hid (Calls Try.prog 74 #[vs j, .int .i64 (K j + 1 + 1)] wr fun e w' => e = .returned (.int .i64 (K j + 2 + AL j)) ∧ w' = wr) := hcall
      have HK1 : Hid (K (j + 1) = K j + 2 + AL j) := HK.out j hlt
      obtain ⟨k0, k1⟩ := HB.out j (by omega)
      have hal := HL.out j hlt
      clear HC HU HK HB HL hcall
      generalize vs j = vj at *
      subst hvx
      generalize AL j = m at *
      generalize hKj : K j = kj at *
      clear hKj
      go_wp2_with fail
      refine HCl.out.mono ?_
      rintro e w2 ⟨rfl, rfl⟩
      clear HCl c0 c1 c2
      go_wp2
      go_roundw
      case rel => exact ⟨j + 1, by omega, by go_num, by rw [HK1.out], trivial⟩
      case measure => simp [intOf]; omega
    · have hjn : j = n := by omega
      subst hjn
      go_wp2
      go_ret
      exact ⟨rfl, rfl⟩
end Go.Proofs.Ytjfgihmamoiipaa
