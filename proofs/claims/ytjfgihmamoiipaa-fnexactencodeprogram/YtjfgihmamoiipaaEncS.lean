/-
  CONTRACT of the model's EncodeProgram.
-/
import Derived.Test.YtjfgihmamoiipaaEnc
namespace Go.Proofs.Ytjfgihmamoiipaa
open Go.RowKit
set_option linter.unusedVariables false

set_option maxHeartbeats 2000000 in
theorem specEncode_some (b o cap : Nat) (p : List I) (w : World) (hb : b < w.heap.size) (hp : InsAt w b o p) (hok : ∀ x ∈ p, x.ok) (hn : p.length ≤ 1048576) :
    Calls Try.prog 24 #[.slice (some ⟨b, o, none⟩) p.length cap] w fun e w' => ∃ v', e = .returned v' ∧ owns w' w.heap.size v' (encL p) ∧ Below w.heap.size w w' := by
  obtain ⟨i0, hi, hz0, hz1, hz2⟩ := info_parts info5
  have HT : Hid (∀ k, k < p.length → encL (p.take (k + 1)) = encL (p.take k) ++ encI (p.getD k I.zero)) := fun k h => encL_take h
  have HD : Hid (encL (p.take p.length) = encL p) := by unfold Hid; rw [List.take_length]
  have HL : Hid (∀ k, k ≤ p.length → (encL (p.take k)).length = 8 * k) := fun k h => by rw [encL_len, List.length_take]; omega
  have HO : Hid (∀ i, i < p.length → (p.getD i I.zero).ok) := fun i hi => hok _ (by rw [List.getD_eq_getElem?_getD, List.getElem?_eq_getElem hi]; exact List.getElem_mem hi)
  have HP : Hid (InsAt w b o p) := hp
  obtain ⟨E, hE⟩ : ∃ E : Nat → List Int, ∀ k, encL (p.take k) = E k := ⟨fun k => encL (p.take k), fun _ => rfl⟩
  obtain ⟨n, hn'⟩ : ∃ n, p.length = n := ⟨_, rfl⟩
  have HN : Hid (p.length = n) := hn'
  simp only [hE, hn'] at HT HD HL HO hn ⊢
  have H0 : Hid (E 0 = []) := by unfold Hid; rw [← hE]; simp [encL]
  generalize encL p = R at *
  clear hp hok hn' hE
  go_enter Try.func24, Try.ntmps24
  go_wp2_with fail
  go_loopw [3, 4] (fun s i wr => ∃ (k : Nat), k ≤ n ∧ i = .int .i64 k ∧ owns wr w.heap.size s (E k) ∧ Below w.heap.size w wr) (fun _ i _ => n - (intOf i).toNat)
  case atStart => exact ⟨0, by omega, rfl, by rw [H0.out]; exact World.ownsRow_nil _ _ _ _, Below.refl _ _⟩
  case round =>
    obtain ⟨k, hk, rfl, hown, hB⟩ := hrel
    by_cases hlt : k < n
    · obtain ⟨c0, c1, c2, c3⟩ := HP.out k (by rw [HN.out]; exact hlt)
      have HE : Hid (E (k + 1) = E k ++ encI (p.getD k I.zero)) := HT.out k hlt
      have hlen := HL.out k hk
      have HK : Hid (p.getD k I.zero).ok := HO.out k hlt
      clear HP HN HT HO HL HD H0
      have hcells : ∀ wx, Below w.heap.size w wx → ∀ q, wx.cell? ⟨b, q, none⟩ = w.cell? ⟨b, q, none⟩ := fun wx h q => h.cell (p := ⟨b, q, none⟩) hb
      have HC : Hid (∀ wx, Below w.heap.size w wx → ∀ q, wx.cell? ⟨b, q, none⟩ = w.cell? ⟨b, q, none⟩) := hcells
      clear hcells
      generalize p.getD k I.zero = x at *
      obtain ⟨c, jt, jf, kk⟩ := x
      obtain ⟨b0, b0', b1, b2, b3, b4, b5, b6⟩ := HK.out
      clear HK
      simp only at c0 c1 c2 c3 b0 b0' b1 b2 b3 b4 b5 b6
      generalize E k = l at *
      have d0 := (HC.out wr hB _).trans c0
      have hwr := hB.size
      go_wp2_with fail
      refine (l1little_any c 2 _ b0 (by omega) (by omega)).mono ?_
      rintro e w1 ⟨vl, rfl, hol, hb1⟩
      have hB1 : Below w.heap.size w w1 := hB.trans (hb1.mono hwr)
      have hown1 := owns_below hown hb1
      obtain ⟨g, gc, rfl, hg, hgc⟩ := owns_at hol (by rw [littleL_len]; omega)
      rw [littleL_len]
      have hgc' : Hid _ := hgc
      have hs1 := hB1.size
      clear d0 hgc hol hb1 hown hB
      go_wp2_with (at_builtin; refine wpList_append_own _ rfl (.tmp 11) (.tmp 18) 22 rfl w.heap.size 5 i0 (.int .u8 0) 1 1 Try.underlying22 hi hz0 hz1 hz2 rfl (by decide) _ _ _ rfl hown1 ⟨g, 0, none⟩ 2 gc ((littleL c 2).map (Value.int .u8)) rfl ?c0 hgc'.out (bytes_oneCell _) ?c3 ?c4 ?c5 ?_)
      case c0 => simp [littleL_len]
      case c3 => unfold maxLen; omega
      case c4 => omega
      case c5 => omega
      intro v2 w2 hown2 hgrow2 _
      have hB2 := grown_below0 hB1 hs1 hown1 hgrow2
      have ho2 : owns w2 w.heap.size v2 (l ++ littleL c 2) := owns_app (by rw [littleL_len]; omega) hown2
      have hl2 : (l ++ littleL c 2).length = 8 * k + 2 := by rw [List.length_append, hlen, littleL_len]
      have HL2 : Hid (l ++ littleL c 2 = l ++ littleL c 2) := rfl
      clear hown2 hgrow2 hown1 hgc' hB1 hs1
      have d1 := (HC.out w2 hB2 _).trans c1
      have hs2 := hB2.size
      generalize hm2 : l ++ littleL c 2 = l2 at ho2 hl2
      have HM2 : Hid (l ++ littleL c 2 = l2) := hm2
      clear hm2
      go_wp2_with (at_builtin; refine wpList_append_own _ rfl (.tmp 20) (.tmp 26) 22 rfl w.heap.size 5 i0 (.int .u8 0) 1 1 Try.underlying22 hi hz0 hz1 hz2 rfl (by decide) _ _ _ rfl (ho2.alloc _) ⟨w2.heap.size, 0, none⟩ 1 1 [.int .u8 jt] rfl rfl (cell_one_new _ _ _) (bytes_oneCell [jt]) ?c3 ?c4 ?c5 ?_)
      case c3 => unfold maxLen; omega
      case c4 => omega
      case c5 => first | omega | (simp; omega)
      intro v3 w3 hown3 hgrow3 _
      have hB3 := grown_below hB2 hs2 ho2 hgrow3
      have ho3 : owns w3 w.heap.size v3 (l2 ++ [jt]) := owns_app (m := [jt]) (by rw [hl2]; rfl) hown3
      have hl3 : (l2 ++ [jt]).length = 8 * k + 3 := by rw [List.length_append, hl2]; rfl
      clear hown3 hgrow3 ho2 hB2 hs2 d1
      have d2 := (HC.out w3 hB3 _).trans c2
      have hs3 := hB3.size
      generalize hm3 : l2 ++ [jt] = l3 at ho3 hl3
      have HM3 : Hid (l2 ++ [jt] = l3) := hm3
      clear hm3
      go_wp2_with (at_builtin; refine wpList_append_own _ rfl (.tmp 28) (.tmp 34) 22 rfl w.heap.size 5 i0 (.int .u8 0) 1 1 Try.underlying22 hi hz0 hz1 hz2 rfl (by decide) _ _ _ rfl (ho3.alloc _) ⟨w3.heap.size, 0, none⟩ 1 1 [.int .u8 jf] rfl rfl (cell_one_new _ _ _) (bytes_oneCell [jf]) ?c3 ?c4 ?c5 ?_)
      case c3 => unfold maxLen; omega
      case c4 => omega
      case c5 => first | omega | (simp; omega)
      intro v4 w4 hown4 hgrow4 _
      have hB4 := grown_below hB3 hs3 ho3 hgrow4
      have ho4 : owns w4 w.heap.size v4 (l3 ++ [jf]) := owns_app (m := [jf]) (by rw [hl3]; rfl) hown4
      have hl4 : (l3 ++ [jf]).length = 8 * k + 4 := by rw [List.length_append, hl3]; rfl
      clear hown4 hgrow4 ho3 hB3 hs3 d2
      have d3 := (HC.out w4 hB4 _).trans c3
      have hs4 := hB4.size
      generalize hm4 : l3 ++ [jf] = l4 at ho4 hl4
      have HM4 : Hid (l3 ++ [jf] = l4) := hm4
      clear hm4
      go_wp2_with fail
      refine (l1little_any kk 4 _ b5 (by omega) (by omega)).mono ?_
      rintro e w5 ⟨vl, rfl, hol, hb5⟩
      have hB5 : Below w.heap.size w w5 := hB4.trans (hb5.mono hs4)
      have ho5 := owns_below ho4 hb5
      obtain ⟨g', gc', rfl, hg', hgc'⟩ := owns_at hol (by rw [littleL_len]; omega)
      rw [littleL_len]
      have hgd : Hid _ := hgc'
      have hs5 := hB5.size
      clear d3 hgc' hol hb5 ho4 hB4 hs4
      go_wp2_with (at_builtin; refine wpList_append_own _ rfl (.tmp 36) (.tmp 43) 22 rfl w.heap.size 5 i0 (.int .u8 0) 1 1 Try.underlying22 hi hz0 hz1 hz2 rfl (by decide) _ _ _ rfl ho5 ⟨g', 0, none⟩ 4 gc' ((littleL kk 4).map (Value.int .u8)) rfl ?c0 hgd.out (bytes_oneCell _) ?c3 ?c4 ?c5 ?_)
      case c0 => simp [littleL_len]
      case c3 => unfold maxLen; omega
      case c4 => omega
      case c5 => omega
      intro v6 w6 hown6 hgrow6 _
      have hB6 := grown_below0 hB5 hs5 ho5 hgrow6
      have ho6 : owns w6 w.heap.size v6 (l4 ++ littleL kk 4) := owns_app (by rw [littleL_len]; omega) hown6
      clear hown6 hgrow6 ho5 hB5 hs5 hgd
      have ho7 : owns w6 w.heap.size v6 (E (k + 1)) := by
        have e : E (k + 1) = l4 ++ littleL kk 4 := by rw [HE.out, ← HM4.out, ← HM3.out, ← HM2.out]; simp [encI]
        rw [e]; exact ho6
      clear ho6 c0 c1 c2 c3 HE
      go_wp2
      go_roundw
      case rel => exact ⟨k + 1, by omega, by go_num, ho7, hB6⟩
      case measure => simp [intOf]; omega
    · go_wp2
      go_ret
      have hkn : k = n := by omega
      subst hkn
      exact ⟨_, rfl, by rw [← HD.out]; exact hown, hB⟩

set_option maxHeartbeats 1000000 in
theorem specEncode_none (a : Option Addr) (cap : Nat) (w : World) :
    Calls Try.prog 24 #[.slice a 0 cap] w fun e w' => ∃ v', e = .returned v' ∧ owns w' w.heap.size v' [] ∧ Below w.heap.size w w' := by
  go_enter Try.func24, Try.ntmps24
  go_wp2_with fail
  go_loopw [3, 4] (fun s i wr => s = .slice none 0 0 ∧ i = .int .i64 0 ∧ wr = w) (fun _ i _ => 0)
  case atStart => exact ⟨rfl, rfl, rfl⟩
  case round =>
    obtain ⟨rfl, rfl, rfl⟩ := hrel
    go_wp2
    go_ret
    exact ⟨_, rfl, World.ownsRow_nil _ _ _ _, Below.refl _ _⟩

theorem specEncode_any (a : Option Addr) (cap : Nat) (p : List I) (w : World) (hs : Src w a p) (hok : ∀ x ∈ p, x.ok) (hn : p.length ≤ 1048576) :
    Calls Try.prog 24 #[.slice a p.length cap] w fun e w' => ∃ v', e = .returned v' ∧ owns w' w.heap.size v' (encL p) ∧ Below w.heap.size w w' := by
  rcases hs with rfl | ⟨b, o, rfl, hb, hp⟩
  · exact specEncode_none a cap w
  · exact specEncode_some b o cap p w hb hp hok hn
end Go.Proofs.Ytjfgihmamoiipaa
