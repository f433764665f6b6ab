/-
  CONTRACT of the program's EncodeProgram.
-/
import Derived.Test.YtjfgihmamoiipaaEnc
namespace Go.Proofs.Ytjfgihmamoiipaa
open Go.RowKit
set_option linter.unusedVariables false

set_option maxRecDepth 100000 in
set_option maxHeartbeats 2000000 in
theorem implEncode_some (b o cap : Nat) (p : List I) (w : World) (hb : b < w.heap.size) (hp : InsAt w b o p) (hok : ∀ x ∈ p, x.ok) (hn : p.length ≤ 1048576) :
    Calls Try.prog 16 #[.slice (some ⟨b, o, none⟩) p.length cap] w fun e w' => ∃ v', e = .returned v' ∧ owns w' w.heap.size v' (encL p) ∧ Below w.heap.size w w' := by
  obtain ⟨i0, hi, hz0, hz1, hz2⟩ := info_parts info5
  have HT : Hid (∀ k, k < p.length → encL (p.take (k + 1)) = encL (p.take k) ++ encI (p.getD k I.zero)) := fun k h => encL_take h
  have HD : Hid (encL (p.take p.length) = encL p) := by unfold Hid; rw [List.take_length]
  have HL : Hid (∀ k, k ≤ p.length → (encL (p.take k)).length = 8 * k) := fun k h => by rw [encL_len, List.length_take]; omega
  have HO : Hid (∀ i, i < p.length → (p.getD i I.zero).ok) := fun i hi => hok _ (by rw [List.getD_eq_getElem?_getD, List.getElem?_eq_getElem hi]; exact List.getElem_mem hi)
  have HP : Hid (InsAt w b o p) := hp
  obtain ⟨E, hE⟩ : ∃ E : Nat → List Int, ∀ k, encL (p.take k) = E k := ⟨fun k => encL (p.take k), fun _ => rfl⟩
  obtain ⟨n, hn'⟩ : ∃ n, p.length = n := ⟨_, rfl⟩
  have HN : Hid (p.length = n) := hn'
  simp only [hE, hn'] at HT HD HL HO hn ⊢
  have H0 : Hid (E 0 = []) := by unfold Hid; rw [← hE]; simp [encL]
  generalize encL p = R at *
  clear hp hok hn' hE
  have hmk : ∀ u : World, (Instr.makeSlice 22 (.int .i64 0) (.int .i64 (8 * (n : Int)))).run Try.prog u =
      .ok (.slice (some ⟨u.heap.size, 0, none⟩) 0 (8 * n)) (u.alloc (.cells (madeCells #[.int .u8 0] (8 * n)) 5)) := fun u => by
    have h := run_make (P := Try.prog) u 22 5 i0 (.int .u8 0) Try.underlying22 hi hz0 .i64 .i64 0 (8 * (n : Int)) (by omega) (by omega) (by rw [hz2]; omega) (by omega)
    have e : (8 * (n : Int)).toNat = 8 * n := by omega
    rw [e] at h
    simpa [hz1, Value.cells] using h
  go_enter Try.func16, Try.ntmps16
  go_wp2_with fail
  have hO0 : owns (w.alloc (.cells (madeCells #[.int .u8 0] (8 * n)) 5)) w.heap.size (.slice (some ⟨w.heap.size, 0, none⟩) 0 (8 * n)) (E 0) := by
    rw [H0.out]; exact World.ownsRow_made w _ (8 * n) (Nat.le_refl _) (by unfold maxLen; omega) (by rw [size_madeCells]; omega)
  have hB0 : Below w.heap.size w (w.alloc (.cells (madeCells #[.int .u8 0] (8 * n)) 5)) := (Below.refl _ _).alloc (Nat.le_refl _) _
  generalize w.alloc (.cells (madeCells #[.int .u8 0] (8 * n)) 5) = W at *
  clear hmk
  go_loopw [3, 12] (fun s i wr => ∃ (k : Nat), k ≤ n ∧ i = .int .i64 k ∧ owns wr w.heap.size s (E k) ∧ Below w.heap.size w wr) (fun _ i _ => n - (intOf i).toNat)
  case atStart => exact ⟨0, by omega, rfl, hO0, hB0⟩
  case round =>
    obtain ⟨k, hk, rfl, hown, hB⟩ := hrel
    clear hO0 hB0
    by_cases hlt : k < n
    · obtain ⟨c0, c1, c2, c3⟩ := HP.out k (by rw [HN.out]; exact hlt)
      have HE : Hid (E (k + 1) = E k ++ encI (p.getD k I.zero)) := HT.out k hlt
      have hlen := HL.out k hk
      have HK : Hid (p.getD k I.zero).ok := HO.out k hlt
      clear HP HN HT HO HL HD H0
      generalize p.getD k I.zero = x at *
      obtain ⟨c, jt, jf, kk⟩ := x
      obtain ⟨b0, b0', b1, b2, b3, b4, b5, b6⟩ := HK.out
      simp only at c0 c1 c2 c3 b0 b0' b1 b2 b3 b4 b5 b6
      generalize E k = l at *
      have d0 := (hB.cell (p := ⟨b, _, none⟩) hb).trans c0
      have d1 := (hB.cell (p := ⟨b, _, none⟩) hb).trans c1
      have d2 := (hB.cell (p := ⟨b, _, none⟩) hb).trans c2
      have d3 := (hB.cell (p := ⟨b, _, none⟩) hb).trans c3
      have hwr := hB.size
      clear c0 c1 c2 c3
      go_wp2_with (at_builtin; refine wpList_append_own _ rfl (.tmp 16) (.tmp 28) 22 rfl w.heap.size 5 i0 (.int .u8 0) 1 1 Try.underlying22 hi hz0 hz1 hz2 rfl (by decide) _ _ _ rfl ((hown.alloc _).alloc _) ⟨wr.heap.size + 1, 0, none⟩ 4 4 ([c % 256, c / 256, jt, jf].map (Value.int .u8)) rfl rfl ?c1 (bytes_oneCell _) ?c3 ?c4 ?c5 ?_)
      case c1 =>
        intro j u hj
        rw [add_at]
        rw [World.cell?_alloc_at _ _ _ _ (by simp)]
        simpa using hj
      case c3 => unfold maxLen; omega
      case c4 => omega
      case c5 => simp; omega
      intro v1 w1 hown1 hgrow1 _
      have hB1 : Below w.heap.size w w1 := ((hB.alloc hwr _).alloc (by simp; omega) _).grown hgrow1 (by simp; omega) (fun q hq => (hown.lt q hq).1)
      have ho1 : owns w1 w.heap.size v1 (l ++ [c % 256, c / 256, jt, jf]) := owns_app (by simp [hlen]) hown1
      have hl1 : (l ++ [c % 256, c / 256, jt, jf]).length = 8 * k + 4 := by simp [hlen]
      have hne : ∀ q, u3.ownBlock = some q → q < wr.heap.size := fun q hq => (hown.lt q hq).2
      have e3 : w1.cell? ⟨wr.heap.size, 3, none⟩ = some (.int .u32 kk) := by
        refine hgrow1.cell ?_ (fun e => ?_)
        · rw [World.cell?_alloc_past _ _ _ (by simp), World.cell?_alloc_at _ _ _ _ rfl]; rfl
        · have := hne _ e.symm; simp at this
      have hs1 := hB1.size
      have hz : wr.heap.size < w1.heap.size := by have := hgrow1.size; simp at this; omega
      clear hown1 hgrow1 hown hB hne d0 d1 d2 d3
      generalize hm1 : l ++ [c % 256, c / 256, jt, jf] = l1 at ho1 hl1
      have HM1 : Hid (l ++ [c % 256, c / 256, jt, jf] = l1) := hm1
      clear hm1
      go_wp2_with (at_builtin; refine wpList_append_own _ rfl (.tmp 30) (.tmp 46) 22 rfl w.heap.size 5 i0 (.int .u8 0) 1 1 Try.underlying22 hi hz0 hz1 hz2 rfl (by decide) _ _ _ rfl (ho1.alloc _) ⟨w1.heap.size, 0, none⟩ 4 4 ([kk % 256, kk / 256 % 256, kk / 65536 % 256, kk / 16777216].map (Value.int .u8)) rfl rfl ?c1 (bytes_oneCell _) ?c3 ?c4 ?c5 ?_)
      case c1 =>
        intro j u hj
        rw [add_at]
        rw [World.cell?_alloc_at _ _ _ _ rfl]
        simpa using hj
      case c3 => unfold maxLen; omega
      case c4 => omega
      case c5 => first | omega | (simp; omega)
      intro v2 w2 hown2 hgrow2 _
      have hB2 := grown_below hB1 hs1 ho1 hgrow2
      have ho2 : owns w2 w.heap.size v2 (l1 ++ [kk % 256, kk / 256 % 256, kk / 65536 % 256, kk / 16777216]) := owns_app (by simp [hl1]) hown2
      have ho3 : owns w2 w.heap.size v2 (E (k + 1)) := by
        have e : E (k + 1) = l1 ++ [kk % 256, kk / 256 % 256, kk / 65536 % 256, kk / 16777216] := by rw [HE.out, ← HM1.out, encI_eq HK.out]; simp
        rw [e]; exact ho2
      clear hown2 hgrow2 ho1 hB1 hs1 ho2 e3
      go_wp2
      go_roundw
      case rel => exact ⟨k + 1, by omega, by go_num, ho3, hB2⟩
      case measure => simp [intOf]; omega
    · go_wp2
      go_ret
      have hkn : k = n := by omega
      subst hkn
      exact ⟨_, rfl, by rw [← HD.out]; exact hown, hB⟩

set_option maxRecDepth 100000 in
set_option maxHeartbeats 1000000 in
theorem implEncode_none (a : Option Addr) (cap : Nat) (w : World) :
    Calls Try.prog 16 #[.slice a 0 cap] w fun e w' => ∃ v', e = .returned v' ∧ owns w' w.heap.size v' [] ∧ Below w.heap.size w w' := by
  obtain ⟨i0, hi, hz0, hz1, hz2⟩ := info_parts info5
  have hmk : ∀ u : World, (Instr.makeSlice 22 (.int .i64 0) (.int .i64 0)).run Try.prog u =
      .ok (.slice (some ⟨u.heap.size, 0, none⟩) 0 0) (u.alloc (.cells #[] 5)) := fun u => by
    have h := run_make (P := Try.prog) u 22 5 i0 (.int .u8 0) Try.underlying22 hi hz0 .i64 .i64 0 0 (by omega) (by omega) (by rw [hz2]; omega) (by omega)
    simpa [hz1, Value.cells, madeCells, Array.range_zero'] using h
  go_enter Try.func16, Try.ntmps16
  go_wp2_with fail
  go_loopw [3, 12] (fun s i wr => s = .slice (some ⟨w.heap.size, 0, none⟩) 0 0 ∧ i = .int .i64 0 ∧ wr = w.alloc (.cells #[] 5)) (fun _ i _ => 0)
  case atStart => exact ⟨rfl, rfl, rfl⟩
  case round =>
    obtain ⟨rfl, rfl, rfl⟩ := hrel
    go_wp2
    go_ret
    exact ⟨_, rfl, World.ownsRow_made w #[] 0 (Nat.le_refl _) (by unfold maxLen; omega) rfl, (Below.refl _ _).alloc (Nat.le_refl _) _⟩

theorem implEncode_any (a : Option Addr) (cap : Nat) (p : List I) (w : World) (hs : Src w a p) (hok : ∀ x ∈ p, x.ok) (hn : p.length ≤ 1048576) :
    Calls Try.prog 16 #[.slice a p.length cap] w fun e w' => ∃ v', e = .returned v' ∧ owns w' w.heap.size v' (encL p) ∧ Below w.heap.size w w' := by
  rcases hs with rfl | ⟨b, o, rfl, hb, hp⟩
  · exact implEncode_none a cap w
  · exact implEncode_some b o cap p w hb hp hok hn
end Go.Proofs.Ytjfgihmamoiipaa
