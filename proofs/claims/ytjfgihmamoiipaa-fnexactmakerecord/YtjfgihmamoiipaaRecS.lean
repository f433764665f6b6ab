/-
  CONTRACT of the model's MakeRecord.
-/
import Derived.Test.YtjfgihmamoiipaaRec
namespace Go.Proofs.Ytjfgihmamoiipaa
open Go.RowKit
set_option linter.unusedVariables false

set_option maxRecDepth 100000 in
set_option maxHeartbeats 4000000 in
theorem specRecord_six (c : C) (a : Option Addr) (cap : Nat) (ip : Int) (w : World) (hs : USrc w a c.args) (hok : c.ok) (h6 : c.args.length = 6) (hip : isU64 ip) :
    Calls Try.prog 42 #[callV c (.slice a c.args.length cap), .int .u64 ip] w fun e w' => ∃ v', e = .returned v' ∧ owns w' w.heap.size v' (recB c ip) ∧ Below w.heap.size w w' := by
  obtain ⟨i0, hi, hz0, hz1, hz2⟩ := info_parts info5
  obtain ⟨ar, nr, args⟩ := c
  obtain ⟨a0, a1, n0, n1, hall⟩ := hok
  obtain ⟨p0, p1⟩ := hip
  simp only at hs h6 a0 a1 n0 n1 hall ⊢
  obtain ⟨b, o, rfl, hb, hp⟩ : ∃ b o, a = some ⟨b, o, none⟩ ∧ b < w.heap.size ∧ UAt w b o args := by
    rcases hs with rfl | h
    · simp at h6
    · exact h
  have HP : Hid (∀ i, i < 6 → w.cell? ⟨b, o + i, none⟩ = some (.int .u64 (args.getD i 0)) ∧ isU64 (args.getD i 0)) := fun i hi => ⟨hp i (by omega), hall _ (by rw [List.getD_eq_getElem?_getD, List.getElem?_eq_getElem (by omega)]; exact List.getElem_mem (by omega))⟩
  have HT : Hid (∀ i, i < 6 → longsB (args.take (i + 1)) = longsB (args.take i) ++ littleL (args.getD i 0) 8) := fun i hi => longsB_take (by omega)
  have HR : Hid (recB ⟨ar, nr, args⟩ ip = littleL nr 4 ++ littleL ar 4 ++ littleL ip 8 ++ longsB (args.take 6)) := by
    unfold Hid recB; rw [if_pos h6, ← h6, List.take_length]
  have HL : Hid (∀ i, i ≤ 6 → (littleL nr 4 ++ littleL ar 4 ++ littleL ip 8 ++ longsB (args.take i)).length = 16 + 8 * i) := fun i hi => by simp [littleL_len, longsB_len, h6, Nat.min_eq_left hi]; omega
  have H0 : Hid (littleL nr 4 ++ littleL ar 4 ++ littleL ip 8 ++ longsB (args.take 0) = littleL nr 4 ++ littleL ar 4 ++ littleL ip 8) := by unfold Hid; simp [longsB]
  rw [h6]
  generalize recB ⟨ar, nr, args⟩ ip = R at *
  clear hs hp hall
  obtain ⟨E, hE⟩ : ∃ E : Nat → List Int, ∀ i, littleL nr 4 ++ littleL ar 4 ++ littleL ip 8 ++ longsB (args.take i) = E i := ⟨_, fun _ => rfl⟩
  have HT2 : Hid (∀ i, i < 6 → E (i + 1) = E i ++ littleL (args.getD i 0) 8) := fun i hi => by rw [← hE, ← hE, HT.out i hi]; simp
  simp only [hE] at HR HL H0
  clear hE HT
  go_enter Try.func42, Try.ntmps42
  go_wp2_with fail
  have x0 := Box3.new w 64 (.int .u32 ar) (.int .u32 nr) (.slice (some ⟨b, o, none⟩) 6 cap)
  have B0 : Below w.heap.size w (w.alloc (.cells #[.int .u32 ar, .int .u32 nr, .slice (some ⟨b, o, none⟩) 6 cap] 64)) := (Below.refl _ _).alloc (Nat.le_refl _) _
  have hlt0 := x0.lt
  generalize w.alloc (.cells #[.int .u32 ar, .int .u32 nr, .slice (some ⟨b, o, none⟩) 6 cap] 64) = W at *
  refine (l1little_any nr 4 _ n0 (by omega) (by omega)).mono ?_
  rintro e w1 ⟨v1, rfl, O1, B1⟩
  have hl1 : (littleL nr 4).length = 4 := littleL_len _ _
  generalize hm1 : littleL nr 4 = l1 at O1 hl1
  have HM1 : Hid (littleL nr 4 = l1) := hm1
  clear hm1
  have x1 := x0.keepB B1 hlt0
  obtain ⟨_, q0, q1, q2, _, _, _⟩ := x1
  go_wp2_with fail
  refine (l1little_any ar 4 _ a0 (by omega) (by omega)).mono ?_
  rintro e u1 ⟨vl, rfl, ol, bl⟩
  have O1' := owns_below O1 bl
  have B1' : Below W.heap.size W u1 := B1.trans (bl.mono B1.size)
  obtain ⟨g, gc, rfl, hg, hgc⟩ := owns_at ol (by rw [littleL_len]; omega)
  rw [littleL_len]
  have hgc' : Hid _ := hgc
  have hs1 := B1'.size
  clear hgc ol bl O1 B1 q0 q1 q2
  go_wp2_with (at_builtin; refine wpList_append_own _ rfl (.tmp 15) (.tmp 19) 22 rfl W.heap.size 5 i0 (.int .u8 0) 1 1 Try.underlying22 hi hz0 hz1 hz2 rfl (by decide) _ _ _ rfl O1' ⟨g, 0, none⟩ 4 gc ((littleL ar 4).map (Value.int .u8)) rfl ?c0 hgc'.out (bytes_oneCell _) ?c3 ?c4 ?c5 ?_)
  case c0 => simp [littleL_len]
  case c3 => unfold maxLen; omega
  case c4 => omega
  case c5 => omega
  intro v2 w2 ow gr _
  have B2 : Below W.heap.size W w2 := grown_below0 B1' hs1 O1' gr
  have O2 : owns w2 W.heap.size v2 (l1 ++ littleL ar 4) := owns_app (by rw [littleL_len]; omega) ow
  clear ow gr O1' B1' hgc' hs1
  have hl2 : (l1 ++ littleL ar 4).length = 8 := by rw [List.length_append, hl1, littleL_len]
  generalize hm2 : l1 ++ littleL ar 4 = l2 at O2 hl2
  have HM2 : Hid (l1 ++ littleL ar 4 = l2) := hm2
  clear hm2 hl1
  have x2 := x0.keepB B2 hlt0
  obtain ⟨_, q0, q1, q2, _, _, _⟩ := x2
  go_wp2_with fail
  refine (l1little_any ip 8 _ p0 p1 (by omega)).mono ?_
  rintro e u2 ⟨vl, rfl, ol, bl⟩
  have O2' := owns_below O2 bl
  have B2' : Below W.heap.size W u2 := B2.trans (bl.mono B2.size)
  obtain ⟨g, gc, rfl, hg, hgc⟩ := owns_at ol (by rw [littleL_len]; omega)
  rw [littleL_len]
  have hgc' : Hid _ := hgc
  have hs2 := B2'.size
  clear hgc ol bl O2 B2 q0 q1 q2
  go_wp2_with (at_builtin; refine wpList_append_own _ rfl (.tmp 21) (.tmp 23) 22 rfl W.heap.size 5 i0 (.int .u8 0) 1 1 Try.underlying22 hi hz0 hz1 hz2 rfl (by decide) _ _ _ rfl O2' ⟨g, 0, none⟩ 8 gc ((littleL ip 8).map (Value.int .u8)) rfl ?c0 hgc'.out (bytes_oneCell _) ?c3 ?c4 ?c5 ?_)
  case c0 => simp [littleL_len]
  case c3 => unfold maxLen; omega
  case c4 => omega
  case c5 => omega
  intro v3 w3 ow gr _
  have B3 : Below W.heap.size W w3 := grown_below0 B2' hs2 O2' gr
  have O3 : owns w3 W.heap.size v3 (l2 ++ littleL ip 8) := owns_app (by rw [littleL_len]; omega) ow
  clear ow gr O2' B2' hgc' hs2
  have O3' : owns w3 W.heap.size v3 (E 0) := by rw [H0.out, HM1.out, HM2.out]; exact O3
  clear O3 hl2
  go_wp2_with fail
  go_loopw [5, 6] (fun s i wr => ∃ k : Nat, k ≤ 6 ∧ i = .int .i64 k ∧ owns wr W.heap.size s (E k) ∧ Below W.heap.size W wr) (fun _ i _ => 6 - (intOf i).toNat)
  case atStart => exact ⟨0, by omega, rfl, O3', B3⟩
  case round =>
    obtain ⟨k, hk, rfl, O4, B4⟩ := hrel
    clear O3' B3
    by_cases hlt : k < 6
    · obtain ⟨c0, y0, y1⟩ := HP.out k hlt
      have d0 := (B4.cell (p := ⟨b, _, none⟩) (Nat.lt_of_lt_of_le hb B0.size)).trans ((B0.cell (p := ⟨b, _, none⟩) hb).trans c0)
      have HE := HT2.out k hlt
      have HE' : Hid _ := HE
      have hlen := HL.out k hk
      clear HP HT2 HL c0 HE
      generalize args.getD k 0 = y at *
      generalize E k = l4 at *
      have x4 := x0.keepB B4 hlt0
      obtain ⟨_, q0, q1, q2, _, _, _⟩ := x4
      go_wp2_with fail
      refine (l1little_any y 8 _ y0 y1 (by omega)).mono ?_
      rintro e u4 ⟨vl, rfl, ol, bl⟩
      have O4' := owns_below O4 bl
      have B4' : Below W.heap.size W u4 := B4.trans (bl.mono B4.size)
      obtain ⟨g, gc, rfl, hg, hgc⟩ := owns_at ol (by rw [littleL_len]; omega)
      rw [littleL_len]
      have hgc' : Hid _ := hgc
      have hs4 := B4'.size
      clear hgc ol bl O4 B4 q0 q1 q2
      go_wp2_with (at_builtin; refine wpList_append_own _ rfl (.tmp 29) (.tmp 35) 22 rfl W.heap.size 5 i0 (.int .u8 0) 1 1 Try.underlying22 hi hz0 hz1 hz2 rfl (by decide) _ _ _ rfl O4' ⟨g, 0, none⟩ 8 gc ((littleL y 8).map (Value.int .u8)) rfl ?c0 hgc'.out (bytes_oneCell _) ?c3 ?c4 ?c5 ?_)
      case c0 => simp [littleL_len]
      case c3 => unfold maxLen; omega
      case c4 => omega
      case c5 => omega
      intro v5 w5 ow gr _
      have B5 : Below W.heap.size W w5 := grown_below0 B4' hs4 O4' gr
      have O5 : owns w5 W.heap.size v5 (l4 ++ littleL y 8) := owns_app (by rw [littleL_len]; omega) ow
      clear ow gr O4' B4' hgc' hs4
      have O6 : owns w5 W.heap.size v5 (E (k + 1)) := by rw [HE'.out]; exact O5
      clear O5
      go_wp2
      go_roundw
      case rel => exact ⟨k + 1, by omega, by go_num, O6, B5⟩
      case measure => simp [intOf]; omega
    · have hk6 : k = 6 := by omega
      subst hk6
      go_wp2
      go_ret
      exact ⟨_, rfl, by rw [HR.out]; exact owns_mono O4 B0.size, B0.trans (B4.mono B0.size)⟩

set_option maxHeartbeats 1000000 in
theorem specRecord_not (c : C) (a : Option Addr) (n cap : Nat) (ip : Int) (w : World) (h : n ≠ 6) :
    Calls Try.prog 42 #[callV c (.slice a n cap), .int .u64 ip] w fun e w' => ∃ v', e = .returned v' ∧ owns w' w.heap.size v' [] ∧ Below w.heap.size w w' := by
  obtain ⟨ar, nr, args⟩ := c
  have hb : ((n : Int) != 6) = true := by simp; omega
  go_enter Try.func42, Try.ntmps42
  go_wp2
  go_ret
  exact ⟨_, rfl, World.ownsRow_nil _ _ _ _, (Below.refl _ _).alloc (Nat.le_refl _) _⟩

theorem specRecord_any (c : C) (a : Option Addr) (cap : Nat) (ip : Int) (w : World) (hs : USrc w a c.args) (hok : c.ok) (hip : isU64 ip) :
    Calls Try.prog 42 #[callV c (.slice a c.args.length cap), .int .u64 ip] w fun e w' => ∃ v', e = .returned v' ∧ owns w' w.heap.size v' (recB c ip) ∧ Below w.heap.size w w' := by
  by_cases h6 : c.args.length = 6
  · exact specRecord_six c a cap ip w hs hok h6 hip
  · have e : recB c ip = [] := by unfold recB; rw [if_neg h6]
    rw [e]
    exact specRecord_not c a _ cap ip w h6
end Go.Proofs.Ytjfgihmamoiipaa
