/-
  CalG, Body, Frame, EncI
-/
import Derived.Test.YtjbbiailhpkdeaaDoorQ03
import Derived.Deep.RegionHeld3
import Derived.Test.YtjbbiailhpkdeaaDoorQ12
import Derived.Test.YtjbbiailhpkdeaaDoorQ06
import Derived.Deep.AppendLies
import Derived.ArgAppend
import Derived.Lib.SlBytesConst
namespace Go.Proofs.YtjbbiailhpkdeaaDoor
open Go.RowKit
set_option linter.unusedVariables false

set_option maxHeartbeats 1000000 in
theorem sameArgs_none (a a' : Option Addr) (cap cap' : Nat) (w : World) :
    Calls Tryd.prog 36 #[.slice a 0 cap, .slice a' 0 cap'] w fun e w' => e = .returned (.bool true) ∧ Below w.heap.size w w' := by
  go_enter Tryd.func36, Tryd.ntmps36
  go_wp2_with fail
  go_loopw [5] (fun i wr => i = .int .i64 0 ∧ wr = w) (fun i _ => 0)
  case atStart => exact ⟨rfl, rfl⟩
  case round =>
    obtain ⟨rfl, rfl⟩ := hrel
    go_wp2
    go_ret
    exact ⟨rfl, Below.refl _ _⟩

set_option maxHeartbeats 1000000 in
theorem sameArgs_some (b o cap b' o' cap' : Nat) (l : List Int) (w : World) (hp : UAt w b o l) (hp' : UAt w b' o' l) (hn : l.length ≤ 16777216) :
    Calls Tryd.prog 36 #[.slice (some ⟨b, o, none⟩) l.length cap, .slice (some ⟨b', o', none⟩) l.length cap'] w fun e w' => e = .returned (.bool true) ∧ Below w.heap.size w w' := by
  obtain ⟨n, hn'⟩ : ∃ n, l.length = n := ⟨_, rfl⟩
  have HN : Hid (l.length = n) := hn'
  rw [hn'] at hn ⊢
  clear hn'
  go_enter Tryd.func36, Tryd.ntmps36
  go_wp2_with fail
  go_loopw [5] (fun i wr => ∃ k m : Nat, k ≤ n ∧ i = .int .i64 k ∧ wr = w.drewN m) (fun i _ => n - (intOf i).toNat)
  case atStart => exact ⟨0, 0, by omega, rfl, rfl⟩
  case round =>
    obtain ⟨k, m, hk, rfl, rfl⟩ := hrel
    by_cases hlt : k < n
    · have c0 := hp k (by rw [HN.out]; exact hlt)
      have c1 := hp' k (by rw [HN.out]; exact hlt)
      clear hp hp'
      have hlt' : (k : Int) < (n : Int) := by omega
      go_wp2_with fail
      go_quiet (fail)
      go_wp2
      go_roundw
      case rel => exact ⟨k + 1, _, by omega, by go_num, rfl⟩
      case measure => simp [intOf]; omega
    · go_wp2
      go_ret
      exact ⟨rfl, below_drewN (Below.refl _ _) _⟩

theorem sameArgs_any (a a' : Option Addr) (cap cap' : Nat) (l : List Int) (w : World) (hs : USrc w a l) (hs' : USrc w a' l) (hn : l.length ≤ 16777216) :
    Calls Tryd.prog 36 #[.slice a l.length cap, .slice a' l.length cap'] w fun e w' => e = .returned (.bool true) ∧ Below w.heap.size w w' := by
  rcases hs with rfl | ⟨b, o, rfl, hb, hp⟩
  · exact sameArgs_none a a' cap cap' w
  · rcases hs' with rfl | ⟨b', o', rfl, hb', hp'⟩
    · exact sameArgs_none _ a' cap cap' w
    · exact sameArgs_some b o cap b' o' cap' l w hp hp' hn

set_option maxHeartbeats 1000000 in
theorem sameBytes_none (a a' : Option Addr) (cap cap' : Nat) (w : World) :
    Calls Tryd.prog 9 #[.slice a 0 cap, .slice a' 0 cap'] w fun e w' => e = .returned (.bool true) ∧ Below w.heap.size w w' := by
  go_enter Tryd.func9, Tryd.ntmps9
  go_wp2_with fail
  go_loopw [5] (fun i wr => i = .int .i64 0 ∧ wr = w) (fun i _ => 0)
  case atStart => exact ⟨rfl, rfl⟩
  case round =>
    obtain ⟨rfl, rfl⟩ := hrel
    go_wp2
    go_ret
    exact ⟨rfl, Below.refl _ _⟩

set_option maxHeartbeats 1000000 in
theorem sameBytes_some (b o cap b' o' cap' : Nat) (l : List Int) (w : World) (hp : BytesAt w b o l) (hp' : BytesAt w b' o' l) (hn : l.length ≤ 16777216) :
    Calls Tryd.prog 9 #[.slice (some ⟨b, o, none⟩) l.length cap, .slice (some ⟨b', o', none⟩) l.length cap'] w fun e w' => e = .returned (.bool true) ∧ Below w.heap.size w w' := by
  obtain ⟨n, hn'⟩ : ∃ n, l.length = n := ⟨_, rfl⟩
  have HN : Hid (l.length = n) := hn'
  rw [hn'] at hn ⊢
  clear hn'
  go_enter Tryd.func9, Tryd.ntmps9
  go_wp2_with fail
  go_loopw [5] (fun i wr => ∃ k m : Nat, k ≤ n ∧ i = .int .i64 k ∧ wr = w.drewN m) (fun i _ => n - (intOf i).toNat)
  case atStart => exact ⟨0, 0, by omega, rfl, rfl⟩
  case round =>
    obtain ⟨k, m, hk, rfl, rfl⟩ := hrel
    by_cases hlt : k < n
    · have c0 := hp k (by rw [HN.out]; exact hlt)
      have c1 := hp' k (by rw [HN.out]; exact hlt)
      clear hp hp'
      have hlt' : (k : Int) < (n : Int) := by omega
      go_wp2_with fail
      go_quiet (fail)
      go_wp2
      go_roundw
      case rel => exact ⟨k + 1, _, by omega, by go_num, rfl⟩
      case measure => simp [intOf]; omega
    · go_wp2
      go_ret
      exact ⟨rfl, below_drewN (Below.refl _ _) _⟩

theorem sameBytes_any (a a' : Option Addr) (cap cap' : Nat) (l : List Int) (w : World) (hs : BSrc w a l) (hs' : BSrc w a' l) (hn : l.length ≤ 16777216) :
    Calls Tryd.prog 9 #[.slice a l.length cap, .slice a' l.length cap'] w fun e w' => e = .returned (.bool true) ∧ Below w.heap.size w w' := by
  rcases hs with rfl | ⟨b, o, rfl, hb, hp⟩
  · exact sameBytes_none a a' cap cap' w
  · rcases hs' with rfl | ⟨b', o', rfl, hb', hp'⟩
    · exact sameBytes_none _ a' cap cap' w
    · exact sameBytes_some b o cap b' o' cap' l w hp hp' hn

set_option maxRecDepth 100000 in
set_option maxHeartbeats 2000000 in
theorem sameCalls_any (a a' : Option Addr) (cap cap' : Nat) (cs : List C) (w : World) (hs : CSrc w a cs) (hs' : CSrc w a' cs) (hn : cs.length ≤ 1048576) (hm : ∀ c ∈ cs, c.args.length ≤ 16777216) :
    Calls Tryd.prog 12 #[.slice a cs.length cap, .slice a' cs.length cap'] w fun e w' => e = .returned (.bool true) ∧ Below w.heap.size w w' := by
  have HP : Hid (∀ w1, Below w.heap.size w w1 → CSrc w1 a cs) := fun w1 hB => hs.below hB
  have HP' : Hid (∀ w1, Below w.heap.size w w1 → CSrc w1 a' cs) := fun w1 hB => hs'.below hB
  have HM : Hid (∀ i, i < cs.length → (cs.getD i C.zero).args.length ≤ 16777216) := fun i hi => hm _ (callL_mem hi)
  obtain ⟨n, hn'⟩ : ∃ n, cs.length = n := ⟨_, rfl⟩
  have HN : Hid (cs.length = n) := hn'
  rw [hn'] at HM hn ⊢
  clear hn' hs hs' hm
  go_enter Tryd.func12, Tryd.ntmps12
  go_wp2_with fail
  go_loopw [5] (fun i wr => ∃ k : Nat, k ≤ n ∧ i = .int .i64 k ∧ Below w.heap.size w wr) (fun i _ => n - (intOf i).toNat)
  case atStart => exact ⟨0, by omega, rfl, Below.refl _ _⟩
  case round =>
    obtain ⟨k, hk, rfl, hB⟩ := hrel
    by_cases hlt : k < n
    · have hlt' : (k : Int) < (n : Int) := by omega
      have h0 : ∃ b o, a = some ⟨b, o, none⟩ ∧ b < w.heap.size ∧ ∀ w1, Below w.heap.size w w1 → CAt w1 b o cs := by
        rcases HP.out w (Below.refl _ _) with h | ⟨b, o, h1, h2, h3⟩
        · rw [h] at HN; exact absurd HN.out (by simp; omega)
        · exact ⟨b, o, h1, h2, fun w1 hb => h3.below h2 hb⟩
      have h0' : ∃ b o, a' = some ⟨b, o, none⟩ ∧ b < w.heap.size ∧ ∀ w1, Below w.heap.size w w1 → CAt w1 b o cs := by
        rcases HP'.out w (Below.refl _ _) with h | ⟨b, o, h1, h2, h3⟩
        · rw [h] at HN; exact absurd HN.out (by simp; omega)
        · exact ⟨b, o, h1, h2, fun w1 hb => h3.below h2 hb⟩
      obtain ⟨b, o, rfl, hb, hA⟩ := h0
      obtain ⟨b', o', rfl, hb', hA'⟩ := h0'
      obtain ⟨c0, c1, aa, ca, c2, hu⟩ := hA w (Below.refl _ _) k (by rw [HN.out]; exact hlt)
      obtain ⟨d0, d1, aa', ca', d2, hu'⟩ := hA' w (Below.refl _ _) k (by rw [HN.out]; exact hlt)
      have hm6 := HM.out k hlt
      have HC : Hid (∀ W, Below w.heap.size w W → Calls Tryd.prog 36 #[.slice aa (cs.getD k C.zero).args.length ca, .slice aa' (cs.getD k C.zero).args.length ca'] W fun e w' => e = .returned (.bool true) ∧ Below W.heap.size W w') := fun W h => sameArgs_any aa aa' ca ca' _ W (hu.below h) (hu'.below h) hm6
      clear HP HP' HM hA hA' hu hu'
      generalize cs.getD k C.zero = cc at *
      obtain ⟨ar, nr, args⟩ := cc
      simp only at c0 c1 c2 d0 d1 d2 HC hm6
      generalize args.length = m at *
      have SK : Hid (∀ W, Below w.heap.size w W → W.cell? ⟨b, o + k * 3, none⟩ = some (.int .u32 ar) ∧ W.cell? ⟨b, o + k * 3 + 1, none⟩ = some (.int .u32 nr) ∧ W.cell? ⟨b, o + k * 3 + 2, none⟩ = some (.slice aa m ca) ∧ W.cell? ⟨b', o' + k * 3, none⟩ = some (.int .u32 ar) ∧ W.cell? ⟨b', o' + k * 3 + 1, none⟩ = some (.int .u32 nr) ∧ W.cell? ⟨b', o' + k * 3 + 2, none⟩ = some (.slice aa' m ca') ∧ Below w.heap.size w W) := fun W h =>
        ⟨(h.cell (p := ⟨b, _, none⟩) hb).trans c0, (h.cell (p := ⟨b, _, none⟩) hb).trans c1, (h.cell (p := ⟨b, _, none⟩) hb).trans c2, (h.cell (p := ⟨b', _, none⟩) hb').trans d0, (h.cell (p := ⟨b', _, none⟩) hb').trans d1, (h.cell (p := ⟨b', _, none⟩) hb').trans d2, h⟩
      have hS1 := SK.out wr.drew hB.drew
      clear c0 c1 c2 d0 d1 d2
      go_wp2_with fail
      go_region_held3 (fun W => W.cell? ⟨b, o + k * 3, none⟩ = some (.int .u32 ar) ∧ W.cell? ⟨b, o + k * 3 + 1, none⟩ = some (.int .u32 nr) ∧ W.cell? ⟨b, o + k * 3 + 2, none⟩ = some (.slice aa m ca) ∧ W.cell? ⟨b', o' + k * 3, none⟩ = some (.int .u32 ar) ∧ W.cell? ⟨b', o' + k * 3 + 1, none⟩ = some (.int .u32 nr) ∧ W.cell? ⟨b', o' + k * 3 + 2, none⟩ = some (.slice aa' m ca') ∧ Below w.heap.size w W)
        (assumption)
        (first
          | (go_at_call 36; refine (HC.out _ hS1.2.2.2.2.2.2).mono ?_; rintro _ w8 ⟨rfl, hb8⟩; have hS8 := SK.out _ (hS1.2.2.2.2.2.2.trans (hb8.mono hS1.2.2.2.2.2.2.size))))
      have hB8 : Below w.heap.size w w8 := hS8.2.2.2.2.2.2
      clear hS1 hS8 SK HC
      go_wp2
      go_roundw
      case rel => exact ⟨k + 1, by omega, by go_num, hB8⟩
      case measure => simp [intOf]; omega
    · go_wp2
      go_ret
      exact ⟨rfl, hB⟩
end Go.Proofs.YtjbbiailhpkdeaaDoor
namespace Go.Proofs.YtjbbiailhpkdeaaDoor
open Go.RowKit
set_option linter.unusedVariables false

def bodyE (c : C) (i : Nat) : List Int := varL c.arch ++ varL c.nr ++ argsB (c.args.take i)
theorem bodyE_zero (c : C) : bodyE c 0 = varL c.arch ++ varL c.nr := by simp [bodyE, argsB]
theorem bodyE_succ {c : C} {i : Nat} (h : i < c.args.length) : bodyE c (i + 1) = bodyE c i ++ varL (c.args.getD i 0) := by
  unfold bodyE; rw [argsB_take h]; simp
theorem bodyE_all (c : C) : bodyE c c.args.length = bodyL c := by unfold bodyE bodyL; rw [List.take_length]
theorem bodyE_len (c : C) (i : Nat) : (bodyE c i).length ≤ 20 + 10 * i := by
  have h1 := varL_len c.arch
  have h2 := varL_len c.nr
  have h3 := (argsB_len (c.args.take i)).2
  have h4 : (c.args.take i).length ≤ i := by simp; omega
  simp only [bodyE, List.length_append]; omega
/-- six arguments in memory -/
theorem six_at {w : World} {a : Option Addr} {c : C} (hs : USrc w a c.args) (hok : c.ok) (h6 : c.args.length = 6) :
    ∃ b o, a = some ⟨b, o, none⟩ ∧ b < w.heap.size ∧ ∀ i, i < 6 → w.cell? ⟨b, o + i, none⟩ = some (.int .u64 (c.args.getD i 0)) ∧ isU64 (c.args.getD i 0) := by
  rcases hs with h | ⟨b, o, h1, h2, h3⟩
  · rw [h] at h6; simp at h6
  · exact ⟨b, o, h1, h2, fun i hi => ⟨h3 i (by omega), hok.2.2.2.2 _ (by rw [List.getD_eq_getElem?_getD, List.getElem?_eq_getElem (by omega)]; exact List.getElem_mem (by omega))⟩⟩

set_option maxRecDepth 100000 in
set_option maxHeartbeats 2000000 in
theorem bodyOf_six (c : C) (a : Option Addr) (cap : Nat) (w : World) (hs : USrc w a c.args) (hok : c.ok) (h6 : c.args.length = 6) :
    Calls Tryd.prog 33 #[callV c (.slice a 6 cap)] w fun e w' => ∃ v', e = .returned v' ∧ owns w' w.heap.size v' (bodyL c) ∧ Below w.heap.size w w' := by
  obtain ⟨b, o, rfl, hb, hP⟩ := six_at hs hok h6
  have HP : Hid (∀ i, i < 6 → w.cell? ⟨b, o + i, none⟩ = some (.int .u64 (c.args.getD i 0)) ∧ isU64 (c.args.getD i 0)) := hP
  have HT : Hid (∀ i, i < 6 → bodyE c (i + 1) = bodyE c i ++ varL (c.args.getD i 0)) := fun i hi => bodyE_succ (by omega)
  have HR : Hid (bodyL c = bodyE c 6) := by show _ = _; rw [← bodyE_all, h6]
  have HL : Hid (∀ i, (bodyE c i).length ≤ 20 + 10 * i) := fun i => bodyE_len c i
  have H0 : Hid (bodyE c 0 = [] ++ varL c.arch ++ varL c.nr) := by show _ = _; rw [bodyE_zero]; simp
  have hA : ([] ++ varL c.arch).length ≤ 16777000 := by have := varL_len c.arch; simp; omega
  obtain ⟨a0, a1, n0, n1, _⟩ := hok
  generalize bodyL c = R at *
  generalize bodyE c = E at *
  clear hs hP h6
  obtain ⟨ar, nr, args⟩ := c
  simp only at *
  go_enter Tryd.func33, Tryd.ntmps33
  go_wp2_with fail
  have x0 := Box3.new w 34 (.int .u32 ar) (.int .u32 nr) (.slice (some ⟨b, o, none⟩) 6 cap)
  have B0 : Below w.heap.size w (w.alloc (.cells #[.int .u32 ar, .int .u32 nr, .slice (some ⟨b, o, none⟩) 6 cap] 34)) := (Below.refl _ _).alloc (Nat.le_refl _) _
  have hlt0 := x0.lt
  generalize w.alloc (.cells #[.int .u32 ar, .int .u32 nr, .slice (some ⟨b, o, none⟩) 6 cap] 34) = W at *
  refine (appendNumber_B W.heap.size _ [] ar _ (World.ownsRow_nil _ _ _ _) (by simp) (Nat.le_refl _) ⟨a0, by omega⟩).mono ?_
  rintro e w1 ⟨v1, rfl, O1, B1⟩
  obtain ⟨_, q0, q1, q2, _, _, _⟩ := x0.keepB B1 hlt0
  go_wp2_with fail
  refine (appendNumber_B W.heap.size _ _ nr _ O1 hA B1.size ⟨n0, by omega⟩).mono ?_
  rintro e w2 ⟨v2, rfl, O2, b2⟩
  have B2 := B1.trans b2
  rw [← H0.out] at O2
  clear b2 O1 q0 q1 q2 B1 hA H0
  obtain ⟨_, q0, q1, q2, _, _, _⟩ := x0.keepB B2 hlt0
  go_wp2_with fail
  go_loopw [3, 18] (fun s i wr => ∃ k : Nat, k ≤ 6 ∧ i = .int .i64 k ∧ owns wr W.heap.size s (E k) ∧ Below W.heap.size W wr) (fun _ i _ => 6 - (intOf i).toNat)
  case atStart => exact ⟨0, by omega, rfl, O2, B2⟩
  case round =>
    obtain ⟨k, hk, rfl, hown, hB⟩ := hrel
    clear O2 B2 q0 q1 q2
    by_cases hlt : k < 6
    · obtain ⟨c0, y0, y1⟩ := HP.out k hlt
      have d0 := (hB.cell (p := ⟨b, _, none⟩) (Nat.lt_of_lt_of_le hb B0.size)).trans ((B0.cell (p := ⟨b, _, none⟩) hb).trans c0)
      have HE := HT.out k hlt
      have HE' : Hid _ := HE
      have hlen := HL.out k
      clear HP HT HL c0 HE
      generalize args.getD k 0 = y at *
      go_wp2_with fail
      refine (appendNumber_B W.heap.size _ _ y _ hown (by omega) hB.size ⟨y0, y1⟩).mono ?_
      rintro e w6 ⟨v6, rfl, o6, b6⟩
      have o7 : owns w6 W.heap.size v6 (E (k + 1)) := by rw [HE'.out]; exact o6
      have hB6 := hB.trans b6
      clear o6 b6 hown hB
      go_wp2
      go_roundw
      case rel => exact ⟨k + 1, by omega, by go_num, o7, hB6⟩
      case measure => simp [intOf]; omega
    · have hk6 : k = 6 := by omega
      subst hk6
      go_wp2
      go_ret
      exact ⟨_, rfl, by rw [HR.out]; exact owns_mono hown B0.size, B0.trans (hB.mono B0.size)⟩

set_option maxRecDepth 100000 in
set_option maxHeartbeats 4000000 in
theorem l2body_six (c : C) (a : Option Addr) (cap : Nat) (w : World) (hs : USrc w a c.args) (hok : c.ok) (h6 : c.args.length = 6) :
    Calls Tryd.prog 41 #[callV c (.slice a 6 cap)] w fun e w' => ∃ v', e = .returned v' ∧ owns w' w.heap.size v' (bodyL c) ∧ Below w.heap.size w w' := by
  obtain ⟨i0, hi, hz0, hz1, hz2⟩ := info_parts info5
  obtain ⟨b, o, rfl, hb, hP⟩ := six_at hs hok h6
  have HP : Hid (∀ i, i < 6 → w.cell? ⟨b, o + i, none⟩ = some (.int .u64 (c.args.getD i 0)) ∧ isU64 (c.args.getD i 0)) := hP
  have HT : Hid (∀ i, i < 6 → bodyE c (i + 1) = bodyE c i ++ varL (c.args.getD i 0)) := fun i hi => bodyE_succ (by omega)
  have HR : Hid (bodyL c = bodyE c 6) := by show _ = _; rw [← bodyE_all, h6]
  have HL : Hid (∀ i, (bodyE c i).length ≤ 20 + 10 * i) := fun i => bodyE_len c i
  have H0 : Hid (bodyE c 0 = varL c.arch ++ varL c.nr) := bodyE_zero c
  obtain ⟨a0, a1, n0, n1, _⟩ := hok
  generalize bodyL c = R at *
  generalize bodyE c = E at *
  clear hs hP h6
  obtain ⟨ar, nr, args⟩ := c
  simp only at *
  go_enter Tryd.func41, Tryd.ntmps41
  go_wp2_with fail
  have x0 := Box3.new w 34 (.int .u32 ar) (.int .u32 nr) (.slice (some ⟨b, o, none⟩) 6 cap)
  have B0 : Below w.heap.size w (w.alloc (.cells #[.int .u32 ar, .int .u32 nr, .slice (some ⟨b, o, none⟩) 6 cap] 34)) := (Below.refl _ _).alloc (Nat.le_refl _) _
  have hlt0 := x0.lt
  generalize w.alloc (.cells #[.int .u32 ar, .int .u32 nr, .slice (some ⟨b, o, none⟩) 6 cap] 34) = W at *
  refine (l2var_any ar _ ⟨a0, by omega⟩).mono ?_
  rintro e w1 ⟨v1, rfl, O1, B1⟩
  have hA := varL_len ar
  have x1 := x0.keepB B1 hlt0
  obtain ⟨_, q0, q1, q2, _, _, _⟩ := x1
  go_wp2_with fail
  refine (l2var_any nr _ ⟨n0, by omega⟩).mono ?_
  rintro e u1 ⟨vl, rfl, ol, bl⟩
  have O1' := owns_below O1 bl
  have B1' : Below W.heap.size W u1 := B1.trans (bl.mono B1.size)
  have hp1 := varL_pos nr
  obtain ⟨g, gc, rfl, hg, hgc⟩ := owns_at ol hp1
  have hM1 := varL_len nr
  generalize hm1 : varL nr = M1 at *
  have HM1 : Hid (varL nr = M1) := hm1
  have hgc' : Hid _ := hgc
  have hs1 := B1'.size
  clear hgc ol bl O1 B1 hm1 q0 q1 q2
  go_wp2_with (at_builtin; refine wpList_append_own _ rfl (.tmp 9) (.tmp 13) 22 rfl (W.heap.size) 5 i0 (.int .u8 0) 1 1 Tryd.underlying22 hi hz0 hz1 hz2 rfl (by decide) _ _ _ rfl O1' ⟨g, 0, none⟩ M1.length gc (M1.map (Value.int .u8)) rfl ?c0 hgc'.out (bytes_oneCell _) ?c3 ?c4 ?c5 ?_)
  case c0 => simp
  case c3 => unfold maxLen; omega
  case c4 => omega
  case c5 => omega
  intro v2 w2 ow gr _
  have B2 : Below W.heap.size W w2 := grown_below0 B1' hs1 O1' gr
  have O2 : owns w2 (W.heap.size) v2 (varL ar ++ M1) := owns_app rfl ow
  clear ow gr O1' B1' hgc' hs1
  rw [← H0.out] at O2
  clear hA H0 HM1 hM1 hp1
  obtain ⟨_, q0, q1, q2, _, _, _⟩ := x0.keepB B2 hlt0
  go_wp2_with fail
  go_loopw [3, 4] (fun s i wr => ∃ k : Nat, k ≤ 6 ∧ i = .int .i64 k ∧ owns wr W.heap.size s (E k) ∧ Below W.heap.size W wr) (fun _ i _ => 6 - (intOf i).toNat)
  case atStart => exact ⟨0, by omega, rfl, O2, B2⟩
  case round =>
    obtain ⟨k, hk, rfl, O4, B4⟩ := hrel
    clear O2 B2 q0 q1 q2
    by_cases hlt : k < 6
    · obtain ⟨c0, y0, y1⟩ := HP.out k hlt
      have d0 := (B4.cell (p := ⟨b, _, none⟩) (Nat.lt_of_lt_of_le hb B0.size)).trans ((B0.cell (p := ⟨b, _, none⟩) hb).trans c0)
      have HE := HT.out k hlt
      have HE' : Hid _ := HE
      have hlen := HL.out k
      clear HP HT HL c0 HE
      generalize args.getD k 0 = y at *
      have x4 := x0.keepB B4 hlt0
      obtain ⟨_, q0, q1, q2, _, _, _⟩ := x4
      go_wp2_with fail
      refine (l2var_any y _ ⟨y0, y1⟩).mono ?_
      rintro e u4 ⟨vl, rfl, ol, bl⟩
      have O4' := owns_below O4 bl
      have B4' : Below W.heap.size W u4 := B4.trans (bl.mono B4.size)
      have hp4 := varL_pos y
      obtain ⟨g, gc, rfl, hg, hgc⟩ := owns_at ol hp4
      have hM4 := varL_len y
      generalize hm4 : varL y = M4 at *
      have HM4 : Hid (varL y = M4) := hm4
      have hgc' : Hid _ := hgc
      have hs4 := B4'.size
      clear hgc ol bl O4 B4 hm4 q0 q1 q2
      go_wp2_with (at_builtin; refine wpList_append_own _ rfl (.tmp 22) (.tmp 28) 22 rfl (W.heap.size) 5 i0 (.int .u8 0) 1 1 Tryd.underlying22 hi hz0 hz1 hz2 rfl (by decide) _ _ _ rfl O4' ⟨g, 0, none⟩ M4.length gc (M4.map (Value.int .u8)) rfl ?c0 hgc'.out (bytes_oneCell _) ?c3 ?c4 ?c5 ?_)
      case c0 => simp
      case c3 => unfold maxLen; omega
      case c4 => omega
      case c5 => omega
      intro v5 w5 ow gr _
      have B5 : Below W.heap.size W w5 := grown_below0 B4' hs4 O4' gr
      have O5 : owns w5 (W.heap.size) v5 (E k ++ M4) := owns_app rfl ow
      clear ow gr O4' B4' hgc' hs4
      have O6 : owns w5 W.heap.size v5 (E (k + 1)) := by rw [HE'.out]; exact O5
      clear O5
      go_wp2
      go_roundw
      case rel => exact ⟨k + 1, by omega, by go_num, O6, B5⟩
      case measure => simp [intOf]; omega
    · have hk6 : k = 6 := by omega
      subst hk6
      obtain ⟨_, q0, q1, q2, _, _, _⟩ := x0.keepB B4 hlt0
      go_wp2
      go_ret
      exact ⟨_, rfl, by rw [HR.out]; exact owns_mono O4 B0.size, B0.trans (B4.mono B0.size)⟩
end Go.Proofs.YtjbbiailhpkdeaaDoor
namespace Go.Proofs.YtjbbiailhpkdeaaDoor
open Go.RowKit
set_option linter.unusedVariables false

theorem frame_eq {M : List Int} (h : M.length ≤ 255) : frameL M = [(M.length : Int)] ++ M ++ littleL (sumL M) 4 := by
  unfold frameL; rw [show M.length % 256 = M.length by omega]

set_option maxRecDepth 100000 in
set_option maxHeartbeats 4000000 in
theorem l2frame_any (Bb : Nat) (vb : Value) (M : List Int) (w : World) (hown : owns w Bb vb M) (hM : isBytes M) (h1 : 1 ≤ M.length) (h2 : M.length ≤ 70) :
    Calls Tryd.prog 40 #[vb] w fun e w' => ∃ v', e = .returned v' ∧ owns w' w.heap.size v' (frameL M) ∧ Below w.heap.size w w' := by
  obtain ⟨i0, hi, hz0, hz1, hz2⟩ := info_parts info5
  have HF : Hid (frameL M = [(M.length : Int)] ++ M ++ littleL (sumL M) 4) := frame_eq (by omega)
  have HC : Hid (∀ w1, Below w.heap.size w w1 → Calls Tryd.prog 27 #[vb] w1 fun e w' => e = .returned (.int .u32 (sumL M)) ∧ Below w1.heap.size w1 w') := by
    intro w1 hB
    obtain ⟨a, cap, rfl, hs⟩ := owns_src (owns_below hown hB)
    exact specSum_any a cap M w1 hs hM (by omega)
  obtain ⟨s0, s1⟩ := sumL_ok M
  obtain ⟨g, gc, rfl, hg, hgc⟩ := owns_at hown h1
  have hgl : g < w.heap.size := (hown.lt g (by simp [Value.ownBlock])).2
  have O0 := owns_new w [(M.length : Int)] 1 #[.int .u8 (M.length : Int)] rfl rfl (by simp [maxLen])
  have B0 : Below w.heap.size w (w.alloc (.cells #[.int .u8 (M.length : Int)] 5)) := (Below.refl _ _).alloc (Nat.le_refl _) _
  have hs0 := B0.size
  have hl0 : ([(M.length : Int)] : List Int).length ≤ 1 := Nat.le_refl _
  have hcl : Hid (∀ j u, (M.map (Value.int .u8))[j]? = some u → (w.alloc (.cells #[.int .u8 (M.length : Int)] 5)).cell? ((⟨g, 0, none⟩ : Addr).add j) = some u) := by
    intro j u hj
    rw [add_at, World.cell?_alloc_lt _ _ _ (by simpa using hgl), ← add_at]
    exact hgc j u hj
  generalize sumL M = S at *
  generalize frameL M = F at *
  clear hown hgc hM
  go_enter Tryd.func40, Tryd.ntmps40
  go_wp2_with (at_builtin; refine wpList_append_own _ rfl (.tmp 8) (.tmp 9) 22 rfl (w.heap.size) 5 i0 (.int .u8 0) 1 1 Tryd.underlying22 hi hz0 hz1 hz2 rfl (by decide) _ _ _ rfl O0 ⟨g, 0, none⟩ M.length gc (M.map (Value.int .u8)) rfl ?c0 hcl.out (bytes_oneCell _) ?c3 ?c4 ?c5 ?_)
  case c0 => simp
  case c3 => unfold maxLen; omega
  case c4 => omega
  case c5 => omega
  intro v1 w1 ow gr _
  have B1 : Below w.heap.size w w1 := grown_below0 B0 hs0 O0 gr
  have O1 : owns w1 (w.heap.size) v1 ([(M.length : Int)] ++ M) := owns_app rfl ow
  clear ow gr O0 B0 hcl
  have hs1 := B1.size
  go_wp2_with fail
  refine (HC.out _ B1).mono ?_
  rintro e w2 ⟨rfl, b2⟩
  have B2 := B1.trans (b2.mono hs1)
  have O2 := owns_below O1 b2
  clear b2 O1 B1 hs1
  have hs2 := B2.size
  go_wp2_with fail
  refine (l1little_any S 4 _ s0 (by omega) (by omega)).mono ?_
  rintro e w3 ⟨vl, rfl, ol, b3⟩
  have B3 := B2.trans (b3.mono hs2)
  have O3 := owns_below O2 b3
  have hl4 : 1 ≤ (littleL S 4).length ∧ (littleL S 4).length ≤ 4 := by rw [littleL_len]; omega
  have HF' : Hid (F = [(M.length : Int)] ++ M ++ littleL S 4) := HF
  generalize littleL S 4 = L4 at *
  have hlm : ([(M.length : Int)] ++ M).length ≤ 1 + M.length := by simp; omega
  generalize [(M.length : Int)] ++ M = P at *
  clear b3 O2 B2 hs2 HF
  obtain ⟨g, gc, rfl, hg, hgc⟩ := owns_at ol (by omega)
  have hgc' : Hid _ := hgc
  clear hgc ol
  have hs3 := B3.size
  go_wp2_with (at_builtin; refine wpList_append_own _ rfl (.tmp 11) (.tmp 15) 22 rfl (w.heap.size) 5 i0 (.int .u8 0) 1 1 Tryd.underlying22 hi hz0 hz1 hz2 rfl (by decide) _ _ _ rfl O3 ⟨g, 0, none⟩ L4.length gc (L4.map (Value.int .u8)) rfl ?c0 hgc'.out (bytes_oneCell _) ?c3 ?c4 ?c5 ?_)
  case c0 => simp
  case c3 => unfold maxLen; omega
  case c4 => omega
  case c5 => omega
  intro v4 w4 ow gr _
  have B4 : Below w.heap.size w w4 := grown_below0 B3 hs3 O3 gr
  have O4 : owns w4 (w.heap.size) v4 (P ++ L4) := owns_app rfl ow
  rw [← HF'.out] at O4
  clear ow gr O3 B3 hgc'
  go_wp2
  go_ret
  exact ⟨_, rfl, O4, B4⟩

def logE (cs : List C) (i : Nat) : List Int := [67, 76, 79, 71, 1] ++ littleL cs.length 2 ++ framesL (cs.take i)
theorem logE_zero (cs : List C) : logE cs 0 = [67, 76, 79, 71, 1] ++ littleL cs.length 2 := by simp [logE, framesL]
theorem logE_succ {cs : List C} {i : Nat} (h : i < cs.length) : logE cs (i + 1) = logE cs i ++ frameL (bodyL (cs.getD i C.zero)) := by
  unfold logE; rw [framesL_take h]; simp
theorem logE_all (cs : List C) : logE cs cs.length = logL cs := by unfold logE logL; rw [List.take_length]
theorem logE_len {cs : List C} (h : ∀ c ∈ cs, c.ok) (h6 : ∀ c ∈ cs, c.args.length = 6) (i : Nat) : (logE cs i).length ≤ 7 + 75 * i := by
  have h1 := framesL_len (cs := cs.take i) (fun c hc => h c (List.mem_of_mem_take hc)) (fun c hc => h6 c (List.mem_of_mem_take hc))
  have h2 : (cs.take i).length ≤ i := by simp; omega
  simp [logE, littleL_len]; omega

set_option maxRecDepth 100000 in
set_option maxHeartbeats 4000000 in
theorem l2log_any (a : Option Addr) (cap : Nat) (cs : List C) (w : World) (hs : CSrc w a cs) (hok : ∀ c ∈ cs, c.ok) (h6 : ∀ c ∈ cs, c.args.length = 6) (hn : cs.length ≤ 1000) :
    Calls Tryd.prog 21 #[.slice a cs.length cap] w fun e w' => ∃ v', e = .returned v' ∧ owns w' w.heap.size v' (logL cs) ∧ Below w.heap.size w w' := by
  obtain ⟨i0, hi, hz0, hz1, hz2⟩ := info_parts info5
  have HP : Hid (∀ i, i < cs.length → ∃ b o, a = some ⟨b, o, none⟩ ∧ b < w.heap.size ∧ w.cell? ⟨b, o + i * 3, none⟩ = some (.int .u32 (cs.getD i C.zero).arch) ∧ w.cell? ⟨b, o + i * 3 + 1, none⟩ = some (.int .u32 (cs.getD i C.zero).nr) ∧
      ∃ a' cap', w.cell? ⟨b, o + i * 3 + 2, none⟩ = some (.slice a' 6 cap') ∧ USrc w a' (cs.getD i C.zero).args) := by
    intro i hi
    rcases hs with rfl | ⟨b, o, h1, h2, h3⟩
    · simp at hi
    · obtain ⟨c0, c1, a', cap', c2, hu⟩ := h3 i hi
      have hm : cs.getD i C.zero ∈ cs := by rw [List.getD_eq_getElem?_getD, List.getElem?_eq_getElem hi]; exact List.getElem_mem hi
      rw [h6 _ hm] at c2
      exact ⟨b, o, h1, h2, c0, c1, a', cap', c2, hu⟩
  have HQ : Hid (∀ i, i < cs.length → (cs.getD i C.zero).ok ∧ (cs.getD i C.zero).args.length = 6) := by
    intro i hi
    have hm : cs.getD i C.zero ∈ cs := by rw [List.getD_eq_getElem?_getD, List.getElem?_eq_getElem hi]; exact List.getElem_mem hi
    exact ⟨hok _ hm, h6 _ hm⟩
  have HT : Hid (∀ i, i < cs.length → logE cs (i + 1) = logE cs i ++ frameL (bodyL (cs.getD i C.zero))) := fun i hi => logE_succ hi
  have HR : Hid (logL cs = logE cs cs.length) := (logE_all cs).symm
  have HL : Hid (∀ i, (logE cs i).length ≤ 7 + 75 * i) := fun i => logE_len hok h6 i
  have H0 : Hid (logE cs 0 = [67, 76, 79, 71, 1] ++ littleL cs.length 2) := logE_zero cs
  clear hs hok h6
  generalize logL cs = R at *
  generalize logE cs = E at *
  generalize cs.length = n at *
  have O0 := owns_new w [67, 76, 79, 71, 1] 5 #[.int .u8 67, .int .u8 76, .int .u8 79, .int .u8 71, .int .u8 1] rfl rfl (by simp [maxLen])
  have B0 : Below w.heap.size w (w.alloc (.cells #[.int .u8 67, .int .u8 76, .int .u8 79, .int .u8 71, .int .u8 1] 5)) := (Below.refl _ _).alloc (Nat.le_refl _) _
  go_enter Tryd.func21, Tryd.ntmps21
  go_wp2_with fail
  generalize w.alloc (.cells #[.int .u8 67, .int .u8 76, .int .u8 79, .int .u8 71, .int .u8 1] 5) = W at *
  refine (l1little_any (n : Int) 2 _ (by omega) (by omega) (by omega)).mono ?_
  rintro e w3 ⟨vl, rfl, ol, b3⟩
  have B3 := B0.trans (b3.mono B0.size)
  have O3 := owns_below O0 b3
  have hl2 : 1 ≤ (littleL (n : Int) 2).length ∧ (littleL (n : Int) 2).length ≤ 2 := by rw [littleL_len]; omega
  generalize littleL (n : Int) 2 = L2 at *
  clear b3 O0 B0
  obtain ⟨g, gc, rfl, hg, hgc⟩ := owns_at ol (by omega)
  have hgc' : Hid _ := hgc
  clear hgc ol
  have hs3 := B3.size
  have h5 : ([67, 76, 79, 71, 1] : List Int).length ≤ 5 := Nat.le_refl _
  go_wp2_with (at_builtin; refine wpList_append_own _ rfl (.tmp 6) (.tmp 10) 22 rfl (w.heap.size) 5 i0 (.int .u8 0) 1 1 Tryd.underlying22 hi hz0 hz1 hz2 rfl (by decide) _ _ _ rfl O3 ⟨g, 0, none⟩ L2.length gc (L2.map (Value.int .u8)) rfl ?c0 hgc'.out (bytes_oneCell _) ?c3 ?c4 ?c5 ?_)
  case c0 => simp
  case c3 => unfold maxLen; omega
  case c4 => omega
  case c5 => omega
  intro v4 w4 ow gr _
  have B4 : Below w.heap.size w w4 := grown_below0 B3 hs3 O3 gr
  have O4 : owns w4 (w.heap.size) v4 ([67, 76, 79, 71, 1] ++ L2) := owns_app rfl ow
  rw [← H0.out] at O4
  clear ow gr O3 B3 hgc' hs3 H0
  go_wp2_with fail
  go_loopw [3, 4] (fun s i wr => ∃ k : Nat, k ≤ n ∧ i = .int .i64 k ∧ owns wr w.heap.size s (E k) ∧ Below w.heap.size w wr) (fun _ i _ => n - (intOf i).toNat)
  case atStart => exact ⟨0, by omega, rfl, O4, B4⟩
  case round =>
    obtain ⟨k, hk, rfl, O5, B5⟩ := hrel
    clear O4 B4
    by_cases hlt : k < n
    · obtain ⟨b, o, ha, hb, c0, c1, a', cap', c2, hu⟩ := HP.out k hlt
      obtain ⟨q1, q2⟩ := HQ.out k hlt
      have d0 := (B5.cell (p := ⟨b, _, none⟩) hb).trans c0
      have d1 := (B5.cell (p := ⟨b, _, none⟩) hb).trans c1
      have d2 := (B5.cell (p := ⟨b, _, none⟩) hb).trans c2
      have HE := HT.out k hlt
      have HE' : Hid _ := HE
      have hlen := HL.out k
      have hbl := bodyL_len q1
      have hbo := bodyL_ok q1
      have HBd : Hid (∀ w1, Below w.heap.size w w1 → Calls Tryd.prog 41 #[callV (cs.getD k C.zero) (.slice a' 6 cap')] w1 fun e w' => ∃ v', e = .returned v' ∧ owns w' w1.heap.size v' (bodyL (cs.getD k C.zero)) ∧ Below w1.heap.size w1 w') :=
        fun w1 hB => l2body_six _ a' cap' w1 (hu.below hB) q1 q2
      rw [q2] at hbl
      clear HP HT HL HQ c0 c1 c2 HE q1 q2 hu
      subst ha
      generalize cs.getD k C.zero = c at *
      generalize bodyL c = M at *
      obtain ⟨ar, nr, args⟩ := c
      simp only at *
      have hs5 := B5.size
      go_wp2_with fail
      refine (HBd.out _ B5).mono ?_
      rintro e w6 ⟨vb, rfl, ob, b6⟩
      have B6 := B5.trans (b6.mono hs5)
      have O6 := owns_below O5 b6
      clear b6 O5 B5 hs5 d0 d1 d2 HBd
      have hs6 := B6.size
      go_wp2_with fail
      refine (l2frame_any _ _ M _ ob hbo (by omega) (by omega)).mono ?_
      rintro e w7 ⟨vl, rfl, ol, b7⟩
      have B7 := B6.trans (b7.mono hs6)
      have O7 := owns_below O6 b7
      have hfl : 1 ≤ (frameL M).length ∧ (frameL M).length ≤ 75 := by rw [frameL_len]; omega
      generalize frameL M = F at *
      clear b7 O6 B6 hs6 ob
      obtain ⟨g, gc, rfl, hg, hgc⟩ := owns_at ol (by omega)
      have hgc' : Hid _ := hgc
      clear hgc ol
      have hs7 := B7.size
      go_wp2_with (at_builtin; refine wpList_append_own _ rfl (.tmp 18) (.tmp 24) 22 rfl (w.heap.size) 5 i0 (.int .u8 0) 1 1 Tryd.underlying22 hi hz0 hz1 hz2 rfl (by decide) _ _ _ rfl O7 ⟨g, 0, none⟩ F.length gc (F.map (Value.int .u8)) rfl ?c0 hgc'.out (bytes_oneCell _) ?c3 ?c4 ?c5 ?_)
      case c0 => simp
      case c3 => unfold maxLen; omega
      case c4 => omega
      case c5 => omega
      intro v8 w8 ow gr _
      have B8 : Below w.heap.size w w8 := grown_below0 B7 hs7 O7 gr
      have O8 : owns w8 (w.heap.size) v8 (E k ++ F) := owns_app rfl ow
      rw [← HE'.out] at O8
      clear ow gr O7 B7 hgc' hs7 HE'
      go_wp2
      go_roundw
      case rel => exact ⟨k + 1, by omega, by go_num, O8, B8⟩
      case measure => simp [intOf]; omega
    · have hkn : k = n := by omega
      subst hkn
      go_wp2
      go_ret
      exact ⟨_, rfl, by rw [HR.out]; exact O5, B5⟩
end Go.Proofs.YtjbbiailhpkdeaaDoor
namespace Go.Proofs.YtjbbiailhpkdeaaDoor
open Go.RowKit
set_option linter.unusedVariables false

theorem call_mem {cs : List C} {i : Nat} (hi : i < cs.length) : cs.getD i C.zero ∈ cs := by
  rw [List.getD_eq_getElem?_getD, List.getElem?_eq_getElem hi]; exact List.getElem_mem hi
theorem callsOk_false {cs : List C} {i : Nat} (hi : i < cs.length) (h : (cs.getD i C.zero).args.length ≠ 6) : callsOk cs = false := by
  unfold callsOk
  rw [Bool.and_eq_false_iff]
  right
  rw [List.all_eq_false]
  exact ⟨_, call_mem hi, by unfold six; simpa using h⟩
theorem callsOk_true {cs : List C} (hn : cs.length ≤ 1000) (h : ∀ i, i < cs.length → (cs.getD i C.zero).args.length = 6) : callsOk cs = true := by
  unfold callsOk
  rw [Bool.and_eq_true, List.all_eq_true]
  refine ⟨by simpa using hn, fun c hc => ?_⟩
  obtain ⟨i, hi, rfl⟩ := List.getElem_of_mem hc
  have := h i hi
  rw [List.getD_eq_getElem?_getD, List.getElem?_eq_getElem hi] at this
  simpa [six] using this
theorem callsOk_inv {cs : List C} (h : callsOk cs = true) : cs.length ≤ 1000 ∧ ∀ c ∈ cs, c.args.length = 6 := by
  unfold callsOk at h
  rw [Bool.and_eq_true, List.all_eq_true] at h
  exact ⟨by simpa using h.1, fun c hc => by simpa [six] using h.2 c hc⟩
theorem encLog_ok {cs : List C} (h : callsOk cs = true) : encLog cs = logL cs := by unfold encLog; rw [if_pos h]
theorem encLog_not {cs : List C} (h : callsOk cs = false) : encLog cs = [] := by unfold encLog; rw [if_neg (by simp [h])]
theorem encLog_big {cs : List C} (h : 1000 < cs.length) : encLog cs = [] := encLog_not (by unfold callsOk; simp; omega)

/-- the calls in memory, one by one -/
def CCells (w : World) (a : Option Addr) (cs : List C) : Prop := ∀ i, i < cs.length → ∃ b o, a = some ⟨b, o, none⟩ ∧ b < w.heap.size ∧ w.cell? ⟨b, o + i * 3, none⟩ = some (.int .u32 (cs.getD i C.zero).arch) ∧ w.cell? ⟨b, o + i * 3 + 1, none⟩ = some (.int .u32 (cs.getD i C.zero).nr) ∧
      ∃ a' cap', w.cell? ⟨b, o + i * 3 + 2, none⟩ = some (.slice a' (cs.getD i C.zero).args.length cap') ∧ USrc w a' (cs.getD i C.zero).args
theorem CSrc.cells {w : World} {a : Option Addr} {cs : List C} (hs : CSrc w a cs) : CCells w a cs := by
  intro i hi
  rcases hs with rfl | ⟨b, o, h1, h2, h3⟩
  · simp at hi
  · obtain ⟨c0, c1, a', cap', c2, hu⟩ := h3 i hi
    exact ⟨b, o, h1, h2, c0, c1, a', cap', c2, hu⟩

set_option maxRecDepth 100000 in
set_option maxHeartbeats 1000000 in
theorem implEncLog_big (a : Option Addr) (n cap : Nat) (w : World) (h : 1000 < n) :
    Calls Tryd.prog 10 #[.slice a n cap] w fun e w' => ∃ v', e = .returned v' ∧ owns w' w.heap.size v' [] ∧ Below w.heap.size w w' := by
  have hb : (1000 : Int) < (n : Int) := by omega
  go_enter Tryd.func10, Tryd.ntmps10
  go_wp2
  go_ret
  exact ⟨_, rfl, World.ownsRow_nil _ _ _ _, Below.refl _ _⟩

theorem cell_marked (w : World) (C : Array Value) (t : TypeId) (fz : Nat × Nat) (j : Nat) : (w.alloc (.cells C t fz)).cell? ⟨w.heap.size, j, none⟩ = C[j]? := by
  have h : (w.alloc (.cells C t fz)).heap[w.heap.size]? = some (.cells C t fz) := by
    show (w.heap.push _)[w.heap.size]? = _
    simp
  unfold World.cell?
  rw [h]
  simp
theorem byte_hi {n : Nat} (h : n ≤ 1000) : littleL (n : Int) 2 = [(n : Int) % 256, (n : Int) / 256] := by
  simp only [littleL, List.cons.injEq, and_true, true_and]; omega

set_option maxRecDepth 100000 in
set_option maxHeartbeats 4000000 in
theorem implEncLog_fit (a : Option Addr) (cap : Nat) (cs : List C) (w : World) (hs : CSrc w a cs) (hok : ∀ c ∈ cs, c.ok) (hn : cs.length ≤ 1000) (hm : ∀ c ∈ cs, c.args.length ≤ 1048576) :
    Calls Tryd.prog 10 #[.slice a cs.length cap] w fun e w' => ∃ v', e = .returned v' ∧ owns w' w.heap.size v' (encLog cs) ∧ Below w.heap.size w w' := by
  obtain ⟨i0, hi, hz0, hz1, hz2⟩ := info_parts info5
  have HP : Hid (CCells w a cs) := hs.cells
  have HQ : Hid (∀ i, i < cs.length → (cs.getD i C.zero).ok) := fun i hi => hok _ (call_mem hi)
  have HF : Hid (∀ i, i < cs.length → (cs.getD i C.zero).args.length ≠ 6 → encLog cs = []) := fun i hi h => encLog_not (callsOk_false hi h)
  have HR : Hid ((∀ i, i < cs.length → (cs.getD i C.zero).args.length = 6) → encLog cs = logE cs cs.length) := fun h => by rw [encLog_ok (callsOk_true hn h), logE_all]
  have HT : Hid (∀ i, i < cs.length → logE cs (i + 1) = logE cs i ++ frameL (bodyL (cs.getD i C.zero))) := fun i hi => logE_succ hi
  have HM : Hid (∀ i, i < cs.length → (cs.getD i C.zero).args.length ≤ 1048576) := fun i hi => hm _ (call_mem hi)
  have H0 : Hid (logE cs 0 = [67, 76, 79, 71] ++ [1, (cs.length : Int) % 256, (cs.length : Int) / 256]) := by show _ = _; rw [logE_zero, byte_hi hn]; rfl
  have HE0 : Hid ((logE cs 0).length = 7) := by show _ = _; rw [logE_zero, byte_hi hn]; rfl
  clear hs hok hm
  obtain ⟨n, hn'⟩ : ∃ n, cs.length = n := ⟨_, rfl⟩
  have HN : Hid (cs.length = n) := hn'
  unfold CCells at HP
  rw [hn'] at HP HF HT HM HQ HR H0 hn ⊢
  clear hn'
  generalize encLog cs = R at *
  generalize logE cs = E at *
  have hdiv : (n : Int) / 256 % 256 = (n : Int) / 256 := by omega
  have hcv := fun (u : World) (K : Array Value) (m c : Nat) => Lib.run_convert_bytes_const (P := Tryd.prog) u 22 5 K m c Tryd.underlying22 Tryd.underlying5
  go_enter Tryd.func10, Tryd.ntmps10
  go_wp2_with (at_builtin; refine wpList_append_grows _ rfl (.tmp 11) (.tmp 19) 22 rfl 5 i0 (.int .u8 0) 1 1 Tryd.underlying22 hi hz0 hz1 hz2 rfl (by decide) (some ⟨w.heap.size, 0, none⟩) 4 4 ([67, 76, 79, 71].map (Value.int .u8)) rfl (fun h => by cases h) rfl ?c0 ⟨w.heap.size + 1, 0, none⟩ 3 3 ([1, (n : Int) % 256, (n : Int) / 256].map (Value.int .u8)) rfl rfl ?c1 (bytes_oneCell _) (by omega) ?c3 ?c4 ?_)
  case c0 =>
    intro b hb j u hj
    obtain rfl : b = ⟨w.heap.size, 0, none⟩ := by simpa using hb.symm
    rw [add_at, Nat.zero_add, World.cell?_alloc_lt _ _ _ (by simp), cell_marked]
    simpa using hj
  case c1 =>
    intro j u hj
    rw [add_at]
    rw [World.cell?_alloc_at _ _ _ _ (by simp)]
    simpa using hj
  case c3 => simp [maxLen]
  case c4 => simp
  intro v1 w1 ow gr
  have B1 : Below w.heap.size w w1 := (((Below.refl _ _).alloc (Nat.le_refl _) _).alloc (by simp) _).grown gr (by simp; omega) (fun q hq => by cases hq)
  have O1 : owns w1 w.heap.size v1 (E 0) := by
    have h := owns_app (l := [67, 76, 79, 71]) (m := [1, (n : Int) % 256, (n : Int) / 256]) rfl ow
    rw [H0.out]; exact owns_mono h (by first | omega | (simp; omega) | simp)
  clear ow gr hcv hdiv H0
  have HE : Hid (∀ k, k ≤ n → (∀ j, j < k → (cs.getD j C.zero).args.length = 6) → (E k).length ≤ 7 + 75 * k) := by
    intro k
    induction k with
    | zero => intro _ _; rw [HE0.out]; omega
    | succ k ih =>
      intro h1 h2
      have h3 := ih (by omega) (fun j hj => h2 j (by omega))
      have h4 := bodyL_len (HQ.out k (by omega))
      rw [HT.out k (by omega), List.length_append, frameL_len]
      rw [h2 k (by omega)] at h4
      omega
  clear HE0
  go_wp2_with fail
  go_loopw [3, 23] (fun s i wr => ∃ k : Nat, k ≤ n ∧ i = .int .i64 k ∧ owns wr w.heap.size s (E k) ∧ Below w.heap.size w wr ∧ Hid (∀ j, j < k → (cs.getD j C.zero).args.length = 6)) (fun _ i _ => n - (intOf i).toNat)
  case atStart => exact ⟨0, by omega, rfl, O1, B1, fun j hj => by omega⟩
  case round =>
    obtain ⟨k, hk, rfl, O2, B2, HJ⟩ := hrel
    clear O1 B1
    by_cases hlt : k < n
    · obtain ⟨b, o, ha, hbl, c0, c1, a', cap', c2, hu⟩ := HP.out k hlt
      have hok := HQ.out k hlt
      have hm6 := HM.out k hlt
      have d0 := (B2.cell (p := ⟨b, _, none⟩) hbl).trans c0
      have d1 := (B2.cell (p := ⟨b, _, none⟩) hbl).trans c1
      have d2 := (B2.cell (p := ⟨b, _, none⟩) hbl).trans c2
      have HJ' : Hid ((cs.getD k C.zero).args.length = 6 → ∀ j, j < k + 1 → (cs.getD j C.zero).args.length = 6) := by
        intro h j hj
        by_cases e : j = k
        · rw [e]; exact h
        · exact HJ.out j (by omega)
      have hlen := HE.out k hk HJ.out
      have HT' : Hid _ := HT.out k hlt
      have HF' : Hid ((cs.getD k C.zero).args.length ≠ 6 → R = []) := HF.out k hlt
      have hBl := bodyL_len hok
      have hBo := bodyL_ok hok
      have HBd : Hid ((cs.getD k C.zero).args.length = 6 → ∀ w1, Below w.heap.size w w1 → Calls Tryd.prog 33 #[callV (cs.getD k C.zero) (.slice a' 6 cap')] w1 fun e w' => ∃ v', e = .returned v' ∧ owns w' w1.heap.size v' (bodyL (cs.getD k C.zero)) ∧ Below w1.heap.size w1 w') :=
        fun h6 w1 hB => bodyOf_six _ a' cap' w1 (hu.below hB) hok h6
      have HV6 : Hid (∀ w1, Calls Tryd.prog 32 #[callV (cs.getD k C.zero) (.slice a' 6 cap')] w1 fun e w' => e = .returned (.bool true) ∧ Below w1.heap.size w1 w') := fun w1 => isValid_six _ a' cap' w1
      have HVn : Hid (∀ w1 m, m ≠ 6 → Calls Tryd.prog 32 #[callV (cs.getD k C.zero) (.slice a' m cap')] w1 fun e w' => e = .returned (.bool false) ∧ Below w1.heap.size w1 w') := fun w1 m h => isValid_not _ a' m cap' w1 h
      subst ha
      clear HP HQ HM HF HT HE c0 c1 c2 hu hok HJ HR
      generalize cs.getD k C.zero = c at *
      generalize bodyL c = M at *
      obtain ⟨ar, nr, args⟩ := c
      simp only at *
      generalize args.length = m at *
      have hs2 := B2.size
      by_cases h6 : m = 6
      · have HG := HJ'.out h6
        have HG' : Hid _ := HG
        have HB2 := HBd.out h6
        have HB3 : Hid (∀ w1, Below w.heap.size w w1 → Calls Tryd.prog 33 #[callV ⟨ar, nr, args⟩ (.slice a' 6 cap')] w1 fun e w' => ∃ v', e = .returned v' ∧ owns w' w1.heap.size v' M ∧ Below w1.heap.size w1 w') := HB2
        clear HG HJ' HF' HB2 HBd HVn
        subst h6
        go_wp2_with fail
        have bW : Below wr.heap.size wr (wr.alloc (.cells #[.int .u32 ar, .int .u32 nr, .slice a' 6 cap'] 34)) := (Below.refl _ _).alloc (Nat.le_refl _) _
        have X := Box3.new wr 34 (.int .u32 ar) (.int .u32 nr) (.slice a' 6 cap')
        have O3 := owns_below O2 bW
        have B3 := B2.trans (bW.mono hs2)
        clear O2 B2 bW d0 d1 d2
        generalize wr.alloc (.cells #[.int .u32 ar, .int .u32 nr, .slice a' 6 cap'] 34) = w3 at *
        have hs3 := B3.size
        refine (HV6.out _).mono ?_
        rintro e w4 ⟨rfl, b4⟩
        have X4 := X.keep b4
        have O4 := owns_below O3 b4
        have B4 := B3.trans (b4.mono hs3)
        have hs4 := B4.size
        clear X b4 O3 B3 hs3
        obtain ⟨_, y0, y1, y2, _, _, _⟩ := X4
        go_wp2_with fail
        refine (HB3.out _ B4).mono ?_
        rintro e w5 ⟨vb, rfl, ob5, b5⟩
        have O5 := owns_below O4 b5
        have B5 := B4.trans (b5.mono hs4)
        have hs5 := B5.size
        have hq5 : ∀ q, u3.ownBlock = some q → q < w4.heap.size := fun q hq => (O4.lt q hq).2
        clear O4 B4 b5 HB3 HV6 y0 y1 y2
        obtain ⟨g, gc, hvb, hg, _⟩ := owns_at ob5 (by omega)
        subst hvb
        have hgl : g < w5.heap.size := (ob5.lt g (by simp [Value.ownBlock])).2
        go_wp2_with (at_builtin; refine wpList_append_lies _ rfl (.tmp 32) (.tmp 36) 22 rfl (w.heap.size) 5 i0 (.int .u8 0) 1 1 Tryd.underlying22 hi hz0 hz1 hz2 rfl (by decide) _ _ _ rfl (O5.alloc _) ⟨w5.heap.size, 0, none⟩ 1 1 [.int .u8 (M.length : Int)] rfl rfl (cell_one_new _ _ _) (bytes_oneCell [(M.length : Int)]) (by omega) ?c3 ?c4 ?c5 _ rfl ?_)
        case c3 => unfold maxLen; omega
        case c4 => omega
        case c5 => first | omega | (simp; omega)
        intro g6 cap6 w6 ow gr hat hlt6
        have O6 : owns w6 w.heap.size (.slice (some ⟨g6, 0, none⟩) ((E k).length + 1) cap6) (E k ++ [(M.length : Int)]) := owns_app (m := [(M.length : Int)]) rfl ow
        have B6 : Below w.heap.size w w6 := grown_below B5 hs5 O5 gr
        have hne : g6 ≠ g := by
          rcases hat with h | h
          · have := hq5 _ h; omega
          · rw [h]; simp; omega
        have ob6 : owns w6 w4.heap.size (.slice (some ⟨g, 0, none⟩) M.length gc) M := by
          refine owns_kept (owns_below ob5 ((Below.refl _ _).alloc (Nat.le_refl _) _)) gr (fun q hq e => ?_)
          have e1 : g = q := by simpa [Value.ownBlock] using hq
          have := hq5 q e.symm
          omega
        have hs6 := B6.size
        have hl6 : (E k ++ [(M.length : Int)]).length ≤ 8 + 75 * k := by simp; omega
        clear ow gr hat O5 B5 hs5 hq5 ob5
        obtain ⟨_, _, h1, _, hgc⟩ := owns_at ob6 (by omega)
        have hgc' : Hid (∀ j u, (M.map (Value.int .u8))[j]? = some u → w6.cell? ((⟨g, 0, none⟩ : Addr).add j) = some u) := by
          simp only [Value.slice.injEq, Option.some.injEq, Addr.mk.injEq] at h1
          obtain ⟨⟨e1, _, _⟩, _, _⟩ := h1
          rw [e1]; exact hgc
        clear h1 hgc
        have HT2 : Hid (E (k + 1) = E k ++ [(M.length : Int)] ++ M ++ littleL (sumL M) 4) := by
          show _ = _
          rw [HT'.out, frame_eq (by omega)]; simp
        clear HT'
        generalize E k ++ [(M.length : Int)] = P at *
        go_wp2_with (at_builtin; refine wpList_append_own _ rfl (.tmp 38) (.tmp 39) 22 rfl (w.heap.size) 5 i0 (.int .u8 0) 1 1 Tryd.underlying22 hi hz0 hz1 hz2 rfl (by decide) _ _ _ rfl O6 ⟨g, 0, none⟩ M.length gc (M.map (Value.int .u8)) rfl ?c0 hgc'.out (bytes_oneCell _) ?c3 ?c4 ?c5 ?_)
        case c0 => simp
        case c3 => unfold maxLen; omega
        case c4 => omega
        case c5 => omega
        intro v7 w7 ow gr _
        have B7 : Below w.heap.size w w7 := grown_below0 B6 hs6 O6 gr
        have O7 : owns w7 w.heap.size v7 (P ++ M) := owns_app rfl ow
        have ob7 : owns w7 w4.heap.size (.slice (some ⟨g, 0, none⟩) M.length gc) M := by
          refine owns_kept ob6 gr (fun q hq e => ?_)
          have e1 : g = q := by simpa [Value.ownBlock] using hq
          have e2 : q = g6 := by simpa [Value.ownBlock] using e
          omega
        have hs7 := B7.size
        have hl7 : (P ++ M).length ≤ 78 + 75 * k := by rw [List.length_append]; omega
        clear ow gr O6 B6 ob6 hgc' hs6
        generalize P ++ M = P2 at *
        have HSm : Hid (Calls Tryd.prog 35 #[.slice (some ⟨g, 0, none⟩) M.length gc] w7 fun e w' => e = .returned (.int .u32 (sumL M)) ∧ Below w7.heap.size w7 w') := by
          obtain ⟨a2, cap2, h1, h2⟩ := owns_src ob7
          rw [h1]
          exact implSum_any a2 cap2 M w7 h2 hBo (by omega)
        obtain ⟨s0, s1⟩ := sumL_ok M
        generalize sumL M = S at *
        clear ob7
        go_wp2_with fail
        refine HSm.out.mono ?_
        rintro e w8 ⟨rfl, b8⟩
        have O8 := owns_below O7 b8
        have B8 := B7.trans (b8.mono hs7)
        clear O7 B7 b8 HSm
        go_wp2_with fail
        refine (appendWord_B w.heap.size _ P2 S _ O8 (by omega) B8.size s0 s1).mono ?_
        rintro e w9 ⟨v9, rfl, O9, b9⟩
        have B9 := B8.trans b9
        rw [← HT2.out] at O9
        clear O8 B8 b9 HT2
        go_wp2
        go_roundw
        case rel => exact ⟨k + 1, by omega, by go_num, O9, B9, HG'⟩
        case measure => simp [intOf]; omega
      · have hR := HF'.out h6
        subst hR
        clear HJ' HF' HBd HV6
        go_wp2_with fail
        have bW : Below wr.heap.size wr (wr.alloc (.cells #[.int .u32 ar, .int .u32 nr, .slice a' m cap'] 34)) := (Below.refl _ _).alloc (Nat.le_refl _) _
        have B3 := B2.trans (bW.mono hs2)
        refine (HVn.out _ m h6).mono ?_
        rintro e w4 ⟨rfl, b4⟩
        have B4 := B3.trans (b4.mono B3.size)
        clear O2 B2 bW d0 d1 d2 B3 b4 HVn
        go_wp2
        go_ret
        exact ⟨_, rfl, World.ownsRow_nil _ _ _ _, B4⟩
    · have hR := HR.out (fun i hi => HJ.out i (by omega))
      have hkn : k = n := by omega
      subst hkn
      clear HJ
      go_wp2
      go_ret
      exact ⟨_, rfl, by rw [hR]; exact O2, B2⟩

theorem implEncLog_any (a : Option Addr) (cap : Nat) (cs : List C) (w : World) (hs : CSrc w a cs) (hok : ∀ c ∈ cs, c.ok) (hm : ∀ c ∈ cs, c.args.length ≤ 1048576) :
    Calls Tryd.prog 10 #[.slice a cs.length cap] w fun e w' => ∃ v', e = .returned v' ∧ owns w' w.heap.size v' (encLog cs) ∧ Below w.heap.size w w' := by
  by_cases h : 1000 < cs.length
  · rw [encLog_big h]; exact implEncLog_big a _ cap w h
  · exact implEncLog_fit a cap cs w hs hok (by omega) hm
end Go.Proofs.YtjbbiailhpkdeaaDoor
