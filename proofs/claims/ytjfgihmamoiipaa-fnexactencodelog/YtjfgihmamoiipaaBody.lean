/-
  CONTRACTS: the body of a call, by the program and by the model.
-/
import Derived.Test.YtjfgihmamoiipaaVar
namespace Go.Proofs.Ytjfgihmamoiipaa
open Go.RowKit
set_option linter.unusedVariables false

def bodyE (c : C) (i : Nat) : List Int := varL c.arch ++ varL c.nr ++ argsB (c.args.take i)
theorem bodyE_zero (c : C) : bodyE c 0 = varL c.arch ++ varL c.nr := by simp [bodyE, argsB]
theorem bodyE_succ {c : C} {i : Nat} (h : i < c.args.length) : bodyE c (i + 1) = bodyE c i ++ varL (c.args.getD i 0) := by
  unfold bodyE; rw [argsB_take h]; simp
theorem bodyE_all (c : C) : bodyE c c.args.length = bodyL c := by unfold bodyE bodyL; rw [List.take_length]
theorem bodyE_len (c : C) (i : Nat) : (bodyE c i).length ≤ 20 + 10 * i := by
  have h1 := varL_len c.arch
  have h2 := varL_len c.nr
  have h3 := (argsB_len (c.args.take i)).2
  have h4 : (c.args.take i).length ≤ i := by simp; omega
  simp only [bodyE, List.length_append]; omega
/-- six arguments in memory -/
theorem six_at {w : World} {a : Option Addr} {c : C} (hs : USrc w a c.args) (hok : c.ok) (h6 : c.args.length = 6) :
    ∃ b o, a = some ⟨b, o, none⟩ ∧ b < w.heap.size ∧ ∀ i, i < 6 → w.cell? ⟨b, o + i, none⟩ = some (.int .u64 (c.args.getD i 0)) ∧ isU64 (c.args.getD i 0) := by
  rcases hs with h | ⟨b, o, h1, h2, h3⟩
  · rw [h] at h6; simp at h6
  · exact ⟨b, o, h1, h2, fun i hi => ⟨h3 i (by omega), hok.2.2.2.2 _ (by rw [List.getD_eq_getElem?_getD, List.getElem?_eq_getElem (by omega)]; exact List.getElem_mem (by omega))⟩⟩

set_option maxRecDepth 100000 in
set_option maxHeartbeats 2000000 in
theorem bodyOf_six (c : C) (a : Option Addr) (cap : Nat) (w : World) (hs : USrc w a c.args) (hok : c.ok) (h6 : c.args.length = 6) :
    Calls Try.prog 65 #[callV c (.slice a 6 cap)] w fun e w' => ∃ v', e = .returned v' ∧ owns w' w.heap.size v' (bodyL c) ∧ Below w.heap.size w w' := by
  obtain ⟨b, o, rfl, hb, hP⟩ := six_at hs hok h6
  have HP : Hid (∀ i, i < 6 → w.cell? ⟨b, o + i, none⟩ = some (.int .u64 (c.args.getD i 0)) ∧ isU64 (c.args.getD i 0)) := hP
  have HT : Hid (∀ i, i < 6 → bodyE c (i + 1) = bodyE c i ++ varL (c.args.getD i 0)) := fun i hi => bodyE_succ (by omega)
  have HR : Hid (bodyL c = bodyE c 6) := by show _ = _; rw [← bodyE_all, h6]
  have HL : Hid (∀ i, (bodyE c i).length ≤ 20 + 10 * i) := fun i => bodyE_len c i
  have H0 : Hid (bodyE c 0 = [] ++ varL c.arch ++ varL c.nr) := by show _ = _; rw [bodyE_zero]; simp
  have hA : ([] ++ varL c.arch).length ≤ 16777000 := by have := varL_len c.arch; simp; omega
  obtain ⟨a0, a1, n0, n1, _⟩ := hok
  generalize bodyL c = R at *
  generalize bodyE c = E at *
  clear hs hP h6
  obtain ⟨ar, nr, args⟩ := c
  simp only at *
  go_enter Try.func65, Try.ntmps65
  go_wp2_with fail
  have x0 := Box3.new w 64 (.int .u32 ar) (.int .u32 nr) (.slice (some ⟨b, o, none⟩) 6 cap)
  have B0 : Below w.heap.size w (w.alloc (.cells #[.int .u32 ar, .int .u32 nr, .slice (some ⟨b, o, none⟩) 6 cap] 64)) := (Below.refl _ _).alloc (Nat.le_refl _) _
  have hlt0 := x0.lt
  generalize w.alloc (.cells #[.int .u32 ar, .int .u32 nr, .slice (some ⟨b, o, none⟩) 6 cap] 64) = W at *
  refine (appendNumber_B W.heap.size _ [] ar _ (World.ownsRow_nil _ _ _ _) (by simp) (Nat.le_refl _) ⟨a0, by omega⟩).mono ?_
  rintro e w1 ⟨v1, rfl, O1, B1⟩
  obtain ⟨_, q0, q1, q2, _, _, _⟩ := x0.keepB B1 hlt0
  go_wp2_with fail
  refine (appendNumber_B W.heap.size _ _ nr _ O1 hA B1.size ⟨n0, by omega⟩).mono ?_
  rintro e w2 ⟨v2, rfl, O2, b2⟩
  have B2 := B1.trans b2
  rw [← H0.out] at O2
  clear b2 O1 q0 q1 q2 B1 hA H0
  obtain ⟨_, q0, q1, q2, _, _, _⟩ := x0.keepB B2 hlt0
  go_wp2_with fail
  go_loopw [3, 18] (fun s i wr => ∃ k : Nat, k ≤ 6 ∧ i = .int .i64 k ∧ owns wr W.heap.size s (E k) ∧ Below W.heap.size W wr) (fun _ i _ => 6 - (intOf i).toNat)
  case atStart => exact ⟨0, by omega, rfl, O2, B2⟩
  case round =>
    obtain ⟨k, hk, rfl, hown, hB⟩ := hrel
    clear O2 B2 q0 q1 q2
    by_cases hlt : k < 6
    · obtain ⟨c0, y0, y1⟩ := HP.out k hlt
      have d0 := (hB.cell (p := ⟨b, _, none⟩) (Nat.lt_of_lt_of_le hb B0.size)).trans ((B0.cell (p := ⟨b, _, none⟩) hb).trans c0)
      have HE := HT.out k hlt
      have HE' : Hid _ := HE
      have hlen := HL.out k
      clear HP HT HL c0 HE
      generalize args.getD k 0 = y at *
      go_wp2_with fail
      refine (appendNumber_B W.heap.size _ _ y _ hown (by omega) hB.size ⟨y0, y1⟩).mono ?_
      rintro e w6 ⟨v6, rfl, o6, b6⟩
      have o7 : owns w6 W.heap.size v6 (E (k + 1)) := by rw [HE'.out]; exact o6
      have hB6 := hB.trans b6
      clear o6 b6 hown hB
      go_wp2
      go_roundw
      case rel => exact ⟨k + 1, by omega, by go_num, o7, hB6⟩
      case measure => simp [intOf]; omega
    · have hk6 : k = 6 := by omega
      subst hk6
      go_wp2
      go_ret
      exact ⟨_, rfl, by rw [HR.out]; exact owns_mono hown B0.size, B0.trans (hB.mono B0.size)⟩

set_option maxRecDepth 100000 in
set_option maxHeartbeats 4000000 in
theorem l2body_six (c : C) (a : Option Addr) (cap : Nat) (w : World) (hs : USrc w a c.args) (hok : c.ok) (h6 : c.args.length = 6) :
    Calls Try.prog 94 #[callV c (.slice a 6 cap)] w fun e w' => ∃ v', e = .returned v' ∧ owns w' w.heap.size v' (bodyL c) ∧ Below w.heap.size w w' := by
  obtain ⟨i0, hi, hz0, hz1, hz2⟩ := info_parts info5
  obtain ⟨b, o, rfl, hb, hP⟩ := six_at hs hok h6
  have HP : Hid (∀ i, i < 6 → w.cell? ⟨b, o + i, none⟩ = some (.int .u64 (c.args.getD i 0)) ∧ isU64 (c.args.getD i 0)) := hP
  have HT : Hid (∀ i, i < 6 → bodyE c (i + 1) = bodyE c i ++ varL (c.args.getD i 0)) := fun i hi => bodyE_succ (by omega)
  have HR : Hid (bodyL c = bodyE c 6) := by show _ = _; rw [← bodyE_all, h6]
  have HL : Hid (∀ i, (bodyE c i).length ≤ 20 + 10 * i) := fun i => bodyE_len c i
  have H0 : Hid (bodyE c 0 = varL c.arch ++ varL c.nr) := bodyE_zero c
  obtain ⟨a0, a1, n0, n1, _⟩ := hok
  generalize bodyL c = R at *
  generalize bodyE c = E at *
  clear hs hP h6
  obtain ⟨ar, nr, args⟩ := c
  simp only at *
  go_enter Try.func94, Try.ntmps94
  go_wp2_with fail
  have x0 := Box3.new w 64 (.int .u32 ar) (.int .u32 nr) (.slice (some ⟨b, o, none⟩) 6 cap)
  have B0 : Below w.heap.size w (w.alloc (.cells #[.int .u32 ar, .int .u32 nr, .slice (some ⟨b, o, none⟩) 6 cap] 64)) := (Below.refl _ _).alloc (Nat.le_refl _) _
  have hlt0 := x0.lt
  generalize w.alloc (.cells #[.int .u32 ar, .int .u32 nr, .slice (some ⟨b, o, none⟩) 6 cap] 64) = W at *
  refine (l2var_any ar _ ⟨a0, by omega⟩).mono ?_
  rintro e w1 ⟨v1, rfl, O1, B1⟩
  have hA := varL_len ar
  have x1 := x0.keepB B1 hlt0
  obtain ⟨_, q0, q1, q2, _, _, _⟩ := x1
  go_wp2_with fail
  refine (l2var_any nr _ ⟨n0, by omega⟩).mono ?_
  rintro e u1 ⟨vl, rfl, ol, bl⟩
  have O1' := owns_below O1 bl
  have B1' : Below W.heap.size W u1 := B1.trans (bl.mono B1.size)
  have hp1 := varL_pos nr
  obtain ⟨g, gc, rfl, hg, hgc⟩ := owns_at ol hp1
  have hM1 := varL_len nr
  generalize hm1 : varL nr = M1 at *
  have HM1 : Hid (varL nr = M1) := hm1
  have hgc' : Hid _ := hgc
  have hs1 := B1'.size
  clear hgc ol bl O1 B1 hm1 q0 q1 q2
  go_wp2_with (at_builtin; refine wpList_append_own _ rfl (.tmp 9) (.tmp 13) 22 rfl (W.heap.size) 5 i0 (.int .u8 0) 1 1 Try.underlying22 hi hz0 hz1 hz2 rfl (by decide) _ _ _ rfl O1' ⟨g, 0, none⟩ M1.length gc (M1.map (Value.int .u8)) rfl ?c0 hgc'.out (bytes_oneCell _) ?c3 ?c4 ?c5 ?_)
  case c0 => simp
  case c3 => unfold maxLen; omega
  case c4 => omega
  case c5 => omega
  intro v2 w2 ow gr _
  have B2 : Below W.heap.size W w2 := grown_below0 B1' hs1 O1' gr
  have O2 : owns w2 (W.heap.size) v2 (varL ar ++ M1) := owns_app rfl ow
  clear ow gr O1' B1' hgc' hs1
  rw [← H0.out] at O2
  clear hA H0 HM1 hM1 hp1
  obtain ⟨_, q0, q1, q2, _, _, _⟩ := x0.keepB B2 hlt0
  go_wp2_with fail
  go_loopw [3, 4] (fun s i wr => ∃ k : Nat, k ≤ 6 ∧ i = .int .i64 k ∧ owns wr W.heap.size s (E k) ∧ Below W.heap.size W wr) (fun _ i _ => 6 - (intOf i).toNat)
  case atStart => exact ⟨0, by omega, rfl, O2, B2⟩
  case round =>
    obtain ⟨k, hk, rfl, O4, B4⟩ := hrel
    clear O2 B2 q0 q1 q2
    by_cases hlt : k < 6
    · obtain ⟨c0, y0, y1⟩ := HP.out k hlt
      have d0 := (B4.cell (p := ⟨b, _, none⟩) (Nat.lt_of_lt_of_le hb B0.size)).trans ((B0.cell (p := ⟨b, _, none⟩) hb).trans c0)
      have HE := HT.out k hlt
      have HE' : Hid _ := HE
      have hlen := HL.out k
      clear HP HT HL c0 HE
      generalize args.getD k 0 = y at *
      have x4 := x0.keepB B4 hlt0
      obtain ⟨_, q0, q1, q2, _, _, _⟩ := x4
      go_wp2_with fail
      refine (l2var_any y _ ⟨y0, y1⟩).mono ?_
      rintro e u4 ⟨vl, rfl, ol, bl⟩
      have O4' := owns_below O4 bl
      have B4' : Below W.heap.size W u4 := B4.trans (bl.mono B4.size)
      have hp4 := varL_pos y
      obtain ⟨g, gc, rfl, hg, hgc⟩ := owns_at ol hp4
      have hM4 := varL_len y
      generalize hm4 : varL y = M4 at *
      have HM4 : Hid (varL y = M4) := hm4
      have hgc' : Hid _ := hgc
      have hs4 := B4'.size
      clear hgc ol bl O4 B4 hm4 q0 q1 q2
      go_wp2_with (at_builtin; refine wpList_append_own _ rfl (.tmp 22) (.tmp 28) 22 rfl (W.heap.size) 5 i0 (.int .u8 0) 1 1 Try.underlying22 hi hz0 hz1 hz2 rfl (by decide) _ _ _ rfl O4' ⟨g, 0, none⟩ M4.length gc (M4.map (Value.int .u8)) rfl ?c0 hgc'.out (bytes_oneCell _) ?c3 ?c4 ?c5 ?_)
      case c0 => simp
      case c3 => unfold maxLen; omega
      case c4 => omega
      case c5 => omega
      intro v5 w5 ow gr _
      have B5 : Below W.heap.size W w5 := grown_below0 B4' hs4 O4' gr
      have O5 : owns w5 (W.heap.size) v5 (E k ++ M4) := owns_app rfl ow
      clear ow gr O4' B4' hgc' hs4
      have O6 : owns w5 W.heap.size v5 (E (k + 1)) := by rw [HE'.out]; exact O5
      clear O5
      go_wp2
      go_roundw
      case rel => exact ⟨k + 1, by omega, by go_num, O6, B5⟩
      case measure => simp [intOf]; omega
    · have hk6 : k = 6 := by omega
      subst hk6
      obtain ⟨_, q0, q1, q2, _, _, _⟩ := x0.keepB B4 hlt0
      go_wp2
      go_ret
      exact ⟨_, rfl, by rw [HR.out]; exact owns_mono O4 B0.size, B0.trans (B4.mono B0.size)⟩
end Go.Proofs.Ytjfgihmamoiipaa
