/-
  CONTRACT of the model's DecodeProgram.
-/
import Derived.Test.YtjfgihmamoiipaaDecP
namespace Go.Proofs.Ytjfgihmamoiipaa
open Go.RowKit
set_option linter.unusedVariables false

set_option maxHeartbeats 2000000 in
theorem l1number_at (b o cap : Nat) (l : List Int) (w : World) (hp : BytesAt w b o l) (hl : isBytes l) (hn : l.length ≤ 8) :
    Calls Try.prog 60 #[.slice (some ⟨b, o, none⟩) l.length cap] w fun e w' => e = .returned (.int .u64 (numL l)) ∧ w' = w := by
  have HB : Hid (∀ k, 0 ≤ numL (l.drop k) ∧ numL (l.drop k) ≤ 18446744073709551615) := fun k => numL_bd8 (isBytes_drop hl k) (by rw [List.length_drop]; omega)
  have HS : Hid (∀ k, k < l.length → numL (l.drop k) = l.getD k 0 + 256 * numL (l.drop (k + 1))) := fun k h => numL_drop h
  have HG : Hid (∀ k, 0 ≤ l.getD k 0 ∧ l.getD k 0 ≤ 255) := fun k => isBytes_getD hl k
  have HE : Hid (numL (l.drop l.length) = 0) := by unfold Hid; rw [List.drop_length]; rfl
  have H0 : Hid (numL (l.drop 0) = numL l) := rfl
  have HP : Hid (BytesAt w b o l) := hp
  obtain ⟨V, hV⟩ : ∃ V : Nat → Int, ∀ k, numL (l.drop k) = V k := ⟨fun k => numL (l.drop k), fun _ => rfl⟩
  obtain ⟨n, hn'⟩ : ∃ n, l.length = n := ⟨_, rfl⟩
  have HN : Hid (l.length = n) := hn'
  simp only [hV, hn'] at HB HS HE H0 hn ⊢
  generalize numL l = R at *
  clear hp hl hV hn'
  go_enter Try.func60, Try.ntmps60
  go_wp2_with fail
  go_loop [3, 4] (fun q i => ∃ k : Nat, k ≤ n ∧ i = .int .i64 (k - 1) ∧ ∃ v, q = .int .u64 v ∧ Hid (v = V k)) (fun _ i => (intOf i + 1).toNat)
  case atStart => exact ⟨n, Nat.le_refl _, rfl, 0, rfl, HE.out.symm⟩
  case round =>
    obtain ⟨k, hk, rfl, v, rfl, hv⟩ := hrel
    by_cases hlt : 1 ≤ k
    · obtain ⟨j, rfl⟩ : ∃ j, k = j + 1 := ⟨k - 1, by omega⟩
      have c := HP.out j (by rw [HN.out]; omega)
      have s := HS.out j (by omega)
      have bj := HB.out j
      have bk := HB.out (j + 1)
      have g := HG.out j
      rw [← hv.out] at s bk
      have S : Hid (V j = l.getD j 0 + 256 * v) := s
      rw [s] at bj
      clear HP HB HG HS s hv
      generalize l.getD j 0 = x at *
      go_wp2
      go_round
      case rel => exact ⟨j, by omega, rfl, _, rfl, (by rw [S.out]; omega : v * 256 + x = V j)⟩
      case measure => simp [intOf]
    · go_wp2
      go_ret
      have : k = 0 := by omega
      subst this
      exact ⟨ret_int (hv.out.trans H0.out), rfl⟩

set_option maxHeartbeats 2000000 in
theorem specDecode_bad (a : Option Addr) (n cap : Nat) (w : World) (hn : n ≤ 1048576) (h : n % 8 ≠ 0 ∨ 32768 < n) :
    Calls Try.prog 28 #[.slice a n cap] w fun e w' => e = .returned (.tuple #[.slice none 0 0, .int .i64 1]) ∧ w' = w := by
  by_cases h8 : n % 8 = 0
  · have hb : (((n : Int) % 8) != 0) = false := by simp; omega
    have hg : (4096 : Int) < (n : Int) / 8 := by omega
    go_enter Try.func28, Try.ntmps28
    go_wp2
    go_ret2
    exact ⟨rfl, rfl⟩
  · have hb : (((n : Int) % 8) != 0) = true := by rw [bne_iff_ne]; omega
    go_enter Try.func28, Try.ntmps28
    go_wp2
    go_ret2
    exact ⟨rfl, rfl⟩

set_option maxHeartbeats 2000000 in
theorem specDecode_none (a : Option Addr) (cap : Nat) (w : World) :
    Calls Try.prog 28 #[.slice a 0 cap] w fun e w' => ∃ v', e = .returned (.tuple #[v', .int .i64 0]) ∧ ownsI w' w.heap.size v' [] ∧ Below w.heap.size w w' := by
  go_enter Try.func28, Try.ntmps28
  go_wp2_with fail
  go_loopw [4, 5] (fun s i wr => s = .slice none 0 0 ∧ i = .int .i64 0 ∧ wr = w) (fun _ i _ => 0)
  case atStart => exact ⟨rfl, rfl, rfl⟩
  case round =>
    obtain ⟨rfl, rfl, rfl⟩ := hrel
    go_wp2
    go_ret2
    exact ⟨_, rfl, World.ownsRow_nil _ _ _ _, Below.refl _ _⟩

/-- the eight bytes of one instruction -/
def Eight (b o K : Nat) (x0 x1 x2 x3 x4 x5 x6 x7 : Int) (w : World) : Prop :=
  w.cell? ⟨b, o + K, none⟩ = some (.int .u8 x0) ∧ w.cell? ⟨b, o + K + 1, none⟩ = some (.int .u8 x1) ∧ w.cell? ⟨b, o + (K + 2), none⟩ = some (.int .u8 x2) ∧ w.cell? ⟨b, o + (K + 3), none⟩ = some (.int .u8 x3) ∧
  w.cell? ⟨b, o + (K + 4), none⟩ = some (.int .u8 x4) ∧ w.cell? ⟨b, o + (K + 4) + 1, none⟩ = some (.int .u8 x5) ∧ w.cell? ⟨b, o + (K + 4) + 2, none⟩ = some (.int .u8 x6) ∧ w.cell? ⟨b, o + (K + 4) + 3, none⟩ = some (.int .u8 x7)

theorem two_four (b o K : Nat) (x0 x1 x2 x3 x4 x5 x6 x7 : Int) (h0 : 0 ≤ x0 ∧ x0 ≤ 255) (h1 : 0 ≤ x1 ∧ x1 ≤ 255) (h4 : 0 ≤ x4 ∧ x4 ≤ 255) (h5 : 0 ≤ x5 ∧ x5 ≤ 255) (h6 : 0 ≤ x6 ∧ x6 ≤ 255) (h7 : 0 ≤ x7 ∧ x7 ≤ 255)
    (wx : World) (n q cp : Nat) (ho : (n = 2 ∧ q = o + K) ∨ (n = 4 ∧ q = o + (K + 4))) (hw : Eight b o K x0 x1 x2 x3 x4 x5 x6 x7 wx) :
    Calls Try.prog 60 #[.slice (some ⟨b, q, none⟩) n cp] wx fun e w' => e = .returned (.int .u64 (if n = 2 then x0 + 256 * x1 else x4 + 256 * x5 + 65536 * x6 + 16777216 * x7)) ∧ w' = wx := by
  obtain ⟨c0, c1, c2, c3, c4, c5, c6, c7⟩ := hw
  rcases ho with ⟨rfl, rfl⟩ | ⟨rfl, rfl⟩
  · refine (l1number_at b (o + K) cp [x0, x1] wx (fun i hi => ?_) (fun x hx => ?_) (by simp)).mono ?_
    · match i, hi with
      | 0, _ => exact c0
      | 1, _ => exact c1
    · simp at hx; rcases hx with rfl | rfl <;> assumption
    · rintro e w' ⟨rfl, rfl⟩
      exact ⟨ret_int (by simp [numL]), rfl⟩
  · refine (l1number_at b (o + (K + 4)) cp [x4, x5, x6, x7] wx (fun i hi => ?_) (fun x hx => ?_) (by simp)).mono ?_
    · match i, hi with
      | 0, _ => exact c4
      | 1, _ => exact c5
      | 2, _ => exact c6
      | 3, _ => exact c7
    · simp at hx; rcases hx with rfl | rfl | rfl | rfl <;> assumption
    · rintro e w' ⟨rfl, rfl⟩
      exact ⟨ret_int (by simp [numL]; omega), rfl⟩

set_option maxHeartbeats 1000000 in
set_option maxRecDepth 200000 in
theorem specDecode_in (b o cap : Nat) (l : List Int) (w : World) (hb : b < w.heap.size) (hp : BytesAt w b o l) (hl : isBytes l) (hcap : l.length ≤ cap) (h8 : l.length % 8 = 0) (hn : l.length ≤ 32768) :
    Calls Try.prog 28 #[.slice (some ⟨b, o, none⟩) l.length cap] w fun e w' => ∃ v', e = .returned (.tuple #[v', .int .i64 0]) ∧ ownsI w' w.heap.size v' (decN l (l.length / 8)) ∧ Below w.heap.size w w' := by
  obtain ⟨i0, hi, hz0, hz1, hz2⟩ := info_parts info36
  obtain ⟨m, hm⟩ : ∃ m, l.length = m * 8 := ⟨l.length / 8, by omega⟩
  have hdiv : l.length / 8 = m := by omega
  have HC : Hid (∀ k wx, k < m → Below w.heap.size w wx → Eight b o (k * 8) (l.getD (k * 8) 0) (l.getD (k * 8 + 1) 0) (l.getD (k * 8 + 2) 0) (l.getD (k * 8 + 3) 0) (l.getD (k * 8 + 4) 0) (l.getD (k * 8 + 5) 0) (l.getD (k * 8 + 6) 0) (l.getD (k * 8 + 7) 0) wx) := by
    intro k wx hk hB
    have hbw : BytesAt wx b o l := fun i hi => (hB.cell (p := ⟨b, _, none⟩) hb).trans (hp i hi)
    obtain ⟨c, g⟩ := dec_bytes (n := 0) hbw hl (show k * 8 + 8 ≤ l.length by omega)
    refine ⟨c 0 (by omega), c 1 (by omega), ?_, ?_, ?_, ?_, ?_, ?_⟩
    · rw [← Nat.add_assoc]; exact c 2 (by omega)
    · rw [← Nat.add_assoc]; exact c 3 (by omega)
    · rw [← Nat.add_assoc]; exact c 4 (by omega)
    · rw [show o + (k * 8 + 4) + 1 = o + k * 8 + 5 by omega]; exact c 5 (by omega)
    · rw [show o + (k * 8 + 4) + 2 = o + k * 8 + 6 by omega]; exact c 6 (by omega)
    · rw [show o + (k * 8 + 4) + 3 = o + k * 8 + 7 by omega]; exact c 7 (by omega)
  have HG : Hid (∀ j, 0 ≤ l.getD j 0 ∧ l.getD j 0 ≤ 255) := fun j => isBytes_getD hl j
  have HS : Hid (∀ k, decN l (k + 1) = decN l k ++ [⟨l.getD (k * 8) 0 + 256 * l.getD (k * 8 + 1) 0, l.getD (k * 8 + 2) 0, l.getD (k * 8 + 3) 0, l.getD (k * 8 + 4) 0 + 256 * l.getD (k * 8 + 5) 0 + 65536 * l.getD (k * 8 + 6) 0 + 16777216 * l.getD (k * 8 + 7) 0⟩]) := fun k => decN_succ l k
  have HL : Hid (∀ k, (decN l k).length = k) := fun k => decN_len l k
  have H0 : Hid (decN l 0 = []) := rfl
  rw [hdiv]
  clear hdiv hp hl
  have hmod : (((l.length : Nat) : Int) % 8 != 0) = false := by simp; omega
  have hbig : ((l.length : Nat) : Int) / 8 ≤ 4096 := by omega
  generalize decN l = DN at *
  generalize l.length = N at *
  have HM : Hid (N = m * 8) := hm
  clear hm h8
  go_enter Try.func28, Try.ntmps28
  go_wp2_with fail
  go_loopw [4, 5] (fun s i wr => ∃ (k : Nat), k ≤ m ∧ i = .int .i64 ((k * 8 : Nat) : Int) ∧ ownsI wr w.heap.size s (DN k) ∧ Below w.heap.size w wr) (fun _ i _ => m * 8 - (intOf i).toNat)
  case atStart => exact ⟨0, by omega, rfl, by rw [H0.out]; exact World.ownsRow_nil _ _ _ _, Below.refl _ _⟩
  case round =>
    obtain ⟨k, hk, rfl, hown, hB⟩ := hrel
    by_cases hlt : k < m
    · have hlen := HL.out k
      have HE' : Hid _ := HS.out k
      have c := HC.out k wr hlt hB
      have g0 := HG.out (k * 8); have g1 := HG.out (k * 8 + 1); have g2 := HG.out (k * 8 + 2); have g3 := HG.out (k * 8 + 3)
      have g4 := HG.out (k * 8 + 4); have g5 := HG.out (k * 8 + 5); have g6 := HG.out (k * 8 + 6); have g7 := HG.out (k * 8 + 7)
      clear HL HS H0 HC HG
      generalize l.getD (k * 8) 0 = x0 at *
      generalize l.getD (k * 8 + 1) 0 = x1 at *
      generalize l.getD (k * 8 + 2) 0 = x2 at *
      generalize l.getD (k * 8 + 3) 0 = x3 at *
      generalize l.getD (k * 8 + 4) 0 = x4 at *
      generalize l.getD (k * 8 + 5) 0 = x5 at *
      generalize l.getD (k * 8 + 6) 0 = x6 at *
      generalize l.getD (k * 8 + 7) 0 = x7 at *
      have hK8 : k * 8 + 8 ≤ N := by have := HM.out; omega
      have HKm : Hid (N = m * 8) := HM.out
      generalize hK : k * 8 = K at *
      have HK : Hid (k * 8 = K) := hK
      have HC : Hid _ := two_four b o K x0 x1 x2 x3 x4 x5 x6 x7 g0 g1 g4 g5 g6 g7
      clear hK
      have f2 : ¬ cap = K := by omega
      have f3 : ¬ cap = K + 4 := by omega
      have hwr := hB.size
      have f4 : (K : Int) + 8 ≤ (N : Int) := by omega
      have f5 : (N : Int) ≤ (cap : Int) := by omega
      have f6 : (K : Int) < (N : Int) := by omega
      have hbr : b < wr.heap.size := by omega
      have ag : u4.ownBlock ≠ some b := fun e => by have := (hown.lt b e).1; omega
      have hbd : ((DN k).length + 1) * 8 ≤ 140737488355328 := by have := HKm.out; rw [hlen]; omega
      have hbm : (DN k).length + 1 ≤ maxLen := by have := HKm.out; rw [hlen]; unfold maxLen; omega
      have w2 : IntKind.i64.wrap ((K : Int) + 2) = (K : Int) + 2 := by rw [IntKind.wrap_i64]; omega
      have w3 : IntKind.i64.wrap ((K : Int) + 3) = (K : Int) + 3 := by rw [IntKind.wrap_i64]; omega
      have w4 : IntKind.i64.wrap ((K : Int) + 4) = (K : Int) + 4 := by rw [IntKind.wrap_i64]; omega
      have w8 : IntKind.i64.wrap ((K : Int) + 8) = (K : Int) + 8 := by rw [IntKind.wrap_i64]; omega
      have f7 : (0 : Int) ≤ (K : Int) := by omega
      have p2 : (0 : Int) ≤ (K : Int) + 2 := by omega
      have p3 : (0 : Int) ≤ (K : Int) + 3 := by omega
      have p4 : (0 : Int) ≤ (K : Int) + 4 := by omega
      have p8 : (0 : Int) ≤ (K : Int) + 8 := by omega
      have q2 : (K : Int) + 2 < (N : Int) := by omega
      have q3 : (K : Int) + 3 < (N : Int) := by omega
      have r2 : (K : Int) + 2 ≤ (cap : Int) := by omega
      have r8 : (K : Int) + 8 ≤ (cap : Int) := by omega
      have s2 : (K : Int) ≤ (K : Int) + 2 := by omega
      have s4 : (K : Int) + 4 ≤ (K : Int) + 8 := by omega
      have t2 : ((K : Int) + 2).toNat = K + 2 := by omega
      have t3 : ((K : Int) + 3).toNat = K + 3 := by omega
      have t4 : ((K : Int) + 4).toNat = K + 4 := by omega
      have t8 : ((K : Int) + 8).toNat = K + 8 := by omega
      obtain ⟨q, hq⟩ : ∃ q, (DN k).length = q := ⟨_, rfl⟩
      have HQ : Hid ((DN k).length = q) := hq
      have c' := c
      obtain ⟨c0, c1, c2, c3, c4, c5, c6, c7⟩ := c'
      clear HM hlen hq c
      go_wp2_with fail
      go_region_held3 (fun w' => w'.cell? ⟨b, o + K, none⟩ = some (.int .u8 x0) ∧ w'.cell? ⟨b, o + K + 1, none⟩ = some (.int .u8 x1) ∧ w'.cell? ⟨b, o + (K + 2), none⟩ = some (.int .u8 x2) ∧ w'.cell? ⟨b, o + (K + 3), none⟩ = some (.int .u8 x3) ∧
          w'.cell? ⟨b, o + (K + 4), none⟩ = some (.int .u8 x4) ∧ w'.cell? ⟨b, o + (K + 4) + 1, none⟩ = some (.int .u8 x5) ∧ w'.cell? ⟨b, o + (K + 4) + 2, none⟩ = some (.int .u8 x6) ∧ w'.cell? ⟨b, o + (K + 4) + 3, none⟩ = some (.int .u8 x7))
        (first
          | go_keep
          | (go_split_ands
             refine ⟨?_, ?_, ?_, ?_, ?_, ?_, ?_, ?_⟩
             all_goals (rw [hgrow.cell_far _ (by simp; omega) (Ne.symm ag)]; assumption)))
        ((first
          | (go_at_call 60; refine (HC.out _ _ _ _ ?_ ?_).mono ?_; (simp); (unfold Eight; simp [*]); rintro e w' ⟨rfl, rfl⟩)
          | (refine step_append_lies _ (by rfl) _ _ _ (by rfl) w.heap.size 36 i0 _ 4 8 Try.underlying23 hi hz0 hz1 hz2 rfl (by omega) u4 _ _ (by rfl) ((hown.alloc _).drew) ⟨wr.heap.size, 0, none⟩ 1 1 _ (by rfl) (by rfl) (World.news_of_block (t := 36) (fr := (0, 0)) (heap_alloc_new wr _)) (by simp [Value.oneCell']) (by omega) hbm hbd (by simp; omega) (wr.heap.size + 1) (by simp) ?_; intro gg cap2 w1 hown1 hgrow hat hlt2)))
      go_wp2
      have hB2 : Below w.heap.size w w1 := (((hB.alloc hwr _).drew)).grown hgrow (by simp; omega) (fun z hz => (hown.lt z hz).1)
      have ho2 : ownsI w1 w.heap.size (Value.slice (some ⟨gg, 0, none⟩) ((DN k).length + 1) cap2) (DN (k + 1)) := by
        rw [HE'.out]
        rw [IntKind.wrap_u16, IntKind.wrap_u32', show (x0 + 256 * x1) % 65536 = x0 + 256 * x1 by omega, show (x4 + 256 * x5 + 65536 * x6 + 16777216 * x7) % 4294967296 = x4 + 256 * x5 + 65536 * x6 + 16777216 * x7 by omega] at hown1
        exact ownsI_snoc rfl hown1
      have h1 := HK.out
      have h2 := HKm.out
      clear hown1 hgrow hown hB HE'
      go_roundw
      case rel => exact ⟨k + 1, by omega, by rw [show ((K : Int) + 8) = (((k + 1) * 8 : Nat) : Int) by omega], ho2, hB2⟩
      case measure => simp [intOf]; omega
    · have : k = m := by omega
      subst this
      have := HM.out
      go_wp2
      go_ret2
      exact ⟨_, rfl, hown, hB⟩

/-- DecodeProgram answers instructions in memory of its own, and a code: the model's -/
theorem specDecode_any (a : Option Addr) (cap : Nat) (l : List Int) (w : World) (hs : BSrc w a l) (hl : isBytes l) (hcap : l.length ≤ cap) (hn : l.length ≤ 1048576) :
    Calls Try.prog 28 #[.slice a l.length cap] w fun e w' => ∃ v', e = .returned (.tuple #[v', .int .i64 (decC l)]) ∧ ownsI w' w.heap.size v' (decL l) ∧ Below w.heap.size w w' := by
  by_cases hb : decBad l = true
  · refine (specDecode_bad a l.length cap w hn (decBad_true hb)).mono ?_
    rintro e w' ⟨rfl, rfl⟩
    exact ⟨_, by rw [decC, if_pos hb], by rw [decL, if_pos hb]; exact World.ownsRow_nil _ _ _ _, Below.refl _ _⟩
  · obtain ⟨h1, h2⟩ := decBad_false hb
    rw [decC, if_neg hb, decL, if_neg hb]
    rcases hs with rfl | ⟨b, o, rfl, hlt, hp⟩
    · exact specDecode_none a cap w
    · exact specDecode_in b o cap l w hlt hp hl hcap h1 h2
end Go.Proofs.Ytjfgihmamoiipaa
