/-
  ROWS OF CALLS that a value owns; the model's Distinct of fewer than two calls.
-/
import Derived.Test.YtpbljegjinjmnaaDistA
namespace Go.Proofs.Ytpbljegjinjmnaa
open Go.RowKit
set_option linter.unusedVariables false

/-- the cells of one call; of calls with the values of their arguments -/
def cC (p : C × Value) : List Value := [.int .u32 p.1.arch, .int .u32 p.1.nr, p.2]
def cCs (os : List (C × Value)) : List Value := os.flatMap cC
abbrev ownsP (w : World) (base : Nat) (v : Value) (os : List (C × Value)) : Prop := w.ownsRow base 64 3 v os.length (cCs os)
/-- the arguments of a call lie where its value says -/
def good (w : World) (p : C × Value) : Prop := ∃ a cap, p.2 = .slice a p.1.args.length cap ∧ USrc w a p.1.args
theorem good.below {w w1 : World} {p : C × Value} (h : good w p) (hb : Below w.heap.size w w1) : good w1 p := by
  obtain ⟨a, cap, e, hs⟩ := h
  exact ⟨a, cap, e, hs.below hb⟩
theorem cCs_len (os : List (C × Value)) : (cCs os).length = os.length * 3 := by
  induction os with
  | nil => rfl
  | cons p os ih => simp only [cCs, List.flatMap_cons, List.length_append, List.length_cons] at *; simp only [cC, List.length_cons, List.length_nil]; omega
theorem cCs_get (os : List (C × Value)) (i : Nat) (h : i < os.length) : (cCs os)[i * 3]? = some (.int .u32 (os.getD i (C.zero, undef)).1.arch) ∧ (cCs os)[i * 3 + 1]? = some (.int .u32 (os.getD i (C.zero, undef)).1.nr) ∧ (cCs os)[i * 3 + 2]? = some (os.getD i (C.zero, undef)).2 := by
  induction os generalizing i with
  | nil => simp at h
  | cons x p ih =>
    have e : cCs (x :: p) = cC x ++ cCs p := by simp [cCs]
    have hl : (cC x).length = 3 := rfl
    rw [e]
    match i with
    | 0 => simp [cC]
    | i + 1 =>
      have hi : i < p.length := by simpa using h
      have := ih i hi
      rw [List.getElem?_append_right (by rw [hl]; omega), List.getElem?_append_right (by rw [hl]; omega), List.getElem?_append_right (by rw [hl]; omega), hl]
      rw [show (i + 1) * 3 - 3 = i * 3 by omega, show (i + 1) * 3 + 1 - 3 = i * 3 + 1 by omega, show (i + 1) * 3 + 2 - 3 = i * 3 + 2 by omega]
      simpa using this
theorem ownsP_snoc {w : World} {base : Nat} {v : Value} {os : List (C × Value)} {p : C × Value} {n : Nat} (hn : n = os.length + 1) (h : w.ownsRow base 64 3 v n (cCs os ++ cC p)) : ownsP w base v (os ++ [p]) := by
  subst hn
  simpa [ownsP, cCs] using h
theorem ownsP_below {w w1 : World} {base : Nat} {v : Value} {os : List (C × Value)} (h : ownsP w base v os) (hb : Below w.heap.size w w1) : ownsP w1 base v os :=
  World.ownsRow.kept (row := none) h ⟨hb.os, hb.tape, hb.output, hb.size, fun k hk _ => hb.block k hk⟩ (by cases v.ownBlock <;> simp)
/-- such a row is a list of calls in memory -/
theorem ownsP_src {w : World} {base : Nat} {v : Value} {os : List (C × Value)} (h : ownsP w base v os) (hg : ∀ p ∈ os, good w p) : ∃ a cap, v = .slice a os.length cap ∧ os.length ≤ cap ∧ CSrc w a (os.map Prod.fst) := by
  obtain ⟨h0, h | ⟨g, cap, cur, rfl, hb, hgc, hn, hm, hs, hx⟩⟩ := h
  · obtain ⟨rfl, hl⟩ := h
    have : os = [] := List.eq_nil_of_length_eq_zero hl
    subst this
    exact ⟨none, 0, rfl, Nat.le_refl _, .inl rfl⟩
  · refine ⟨_, _, rfl, hn, .inr ⟨g, 0, rfl, (Array.getElem?_eq_some_iff.1 hgc).1, fun i hi => ?_⟩⟩
    have hi' : i < os.length := by simpa using hi
    have key : ∀ j u, j < os.length * 3 → (cCs os)[j]? = some u → w.cell? ⟨g, 0 + j, none⟩ = some u := by
      intro j u hj hu
      rw [← hx, List.getElem?_take, if_pos hj] at hu
      simp only [World.cell?, hgc, Nat.zero_add]
      simpa using hu
    obtain ⟨c0, c1, c2⟩ := cCs_get os i hi'
    have em : (os.map Prod.fst).getD i C.zero = (os.getD i (C.zero, undef)).1 := by
      simp [List.getD_eq_getElem?_getD, hi']
    have hmem : os.getD i (C.zero, undef) ∈ os := by rw [List.getD_eq_getElem?_getD, List.getElem?_eq_getElem hi']; exact List.getElem_mem hi'
    obtain ⟨a, c, e, hu⟩ := hg _ hmem
    rw [em]
    rw [e] at c2
    refine ⟨?_, ?_, a, c, ?_, hu⟩
    · exact key _ _ (by omega) c0
    · rw [Nat.add_assoc]; exact key _ _ (by omega) c1
    · rw [Nat.add_assoc]; exact key _ _ (by omega) c2
theorem cC_one {p : C × Value} {a : Option Addr} {n cap : Nat} (h : p.2 = .slice a n cap) : ∀ u ∈ cC p, u.oneCell' = true := by
  intro u hu
  simp only [cC, List.mem_cons, List.not_mem_nil, or_false] at hu
  rcases hu with rfl | rfl | rfl
  · rfl
  · rfl
  · rw [h]; rfl
theorem isDist_nil : IsDist [] [] := ⟨List.Pairwise.nil, fun c => Iff.rfl⟩
theorem isDist_one (c : C) : IsDist [c] [c] := ⟨List.pairwise_singleton _ _, fun c => Iff.rfl⟩

set_option maxRecDepth 100000 in
set_option maxHeartbeats 1000000 in
theorem specDist_none (a : Option Addr) (cap : Nat) (w : World) :
    Calls Try.prog 12 #[.slice a 0 cap] w fun e w' => e = .returned (.slice none 0 0) ∧ w' = w := by
  go_enter Try.func12, Try.ntmps12
  go_wp2_with fail
  go_loopw [3, 4] (fun s i wr => s = .slice none 0 0 ∧ i = .int .i64 0 ∧ wr = w) (fun _ i _ => 0)
  case atStart => exact ⟨rfl, rfl, rfl⟩
  case round =>
    obtain ⟨rfl, rfl, rfl⟩ := hrel
    go_wp2
    go_ret
    exact ⟨rfl, rfl⟩

set_option maxRecDepth 100000 in
set_option maxHeartbeats 1000000 in
theorem specDist_one (c : C) (a : Option Addr) (cap : Nat) (w : World) (hs : CSrc w a [c]) (hn : c.args.length ≤ 1048576) :
    Calls Try.prog 12 #[.slice a 1 cap] w fun e w' => ∃ a' cap', e = .returned (.slice a' 1 cap') ∧ CSrc w' a' [c] ∧ Below w.heap.size w w' := by
  obtain ⟨i0, hi, hz0, hz1, hz2⟩ := info_parts infoCall
  obtain ⟨b, o, ha, hbl, d0, d1, a1, cap1, d2, hu⟩ := hs.at 0 (by simp)
  simp only [List.getD_cons_zero, Nat.zero_mul, Nat.add_zero] at d0 d1 d2 hu
  subst ha
  have HC : Hid (Calls Try.prog 33 #[callV c (.slice a1 c.args.length cap1)] w fun e w' => ∃ v', e = .returned (callV c v') ∧ ownsU w' w.heap.size v' c.args ∧ Below w.heap.size w w') := l2copy_any c a1 cap1 w hu (by omega)
  have HF : Hid (∀ w1 B v v', ownsP w1 B v [(c, v')] → good w1 (c, v') → ∃ a' cap', v = .slice a' 1 cap' ∧ CSrc w1 a' [c]) := by
    intro w1 B v v' h hg
    obtain ⟨a', cap', e, _, h2⟩ := ownsP_src h (fun p hp => by simp at hp; subst hp; exact hg)
    exact ⟨a', cap', e, h2⟩
  have HG : Hid (∀ w1 v', ownsU w1 w.heap.size v' c.args → ∃ ax cx, v' = .slice ax c.args.length cx ∧ good w1 (c, v')) := by
    intro w1 v' h
    obtain ⟨ax, cx, e, h2⟩ := ownsU_src h
    exact ⟨ax, cx, e, ax, cx, e, h2⟩
  clear hs hu
  obtain ⟨ar, nr, args⟩ := c
  simp only at *
  go_enter Try.func12, Try.ntmps12
  go_wp2_with fail
  go_loopw [3, 4] (fun s i wr => (s = .slice none 0 0 ∧ i = .int .i64 0 ∧ wr = w) ∨ (i = .int .i64 1 ∧ ∃ a' cap', s = .slice a' 1 cap' ∧ CSrc wr a' [⟨ar, nr, args⟩] ∧ Below w.heap.size w wr)) (fun _ i _ => 1 - (intOf i).toNat)
  case atStart => exact .inl ⟨rfl, rfl, rfl⟩
  case round =>
    rcases hrel with ⟨rfl, rfl, rfl⟩ | ⟨rfl, a', cap', rfl, hcs, hB⟩
    · go_wp2_with fail
      refine HC.out.mono ?_
      rintro e w1 ⟨v', rfl, ov, b1⟩
      obtain ⟨ax, cx, hv, hgd⟩ := HG.out w1 v' ov
      subst hv
      have hs1 := b1.size
      clear HC HG d0 d1 d2
      go_wp2_with (at_builtin; refine wpList_append_own _ rfl (.tmp 19) (.tmp 25) 35 rfl (w1.heap.size) 64 i0 _ 3 32 Try.underlying35 hi hz0 hz1 hz2 rfl (by decide) (.slice none 0 0) 0 [] rfl (World.ownsRow_nil _ _ _ _) ⟨w1.heap.size, 0, none⟩ 1 1 (cC (⟨ar, nr, args⟩, .slice ax args.length cx)) rfl rfl ?c1 (cC_one rfl) ?c3 ?c4 ?c5 ?_)
      case c1 =>
        intro j u hj
        rw [add_at]
        rw [World.cell?_alloc_at _ _ _ _ (by simp)]
        simpa [cC] using hj
      case c3 => simp [maxLen]
      case c4 => simp
      case c5 => simp
      intro v2 w2 ow gr _
      have o2 : ownsP w2 w1.heap.size v2 [(⟨ar, nr, args⟩, .slice ax args.length cx)] := ownsP_snoc (os := []) rfl ow
      have b2 : Below w1.heap.size w1 w2 := ((Below.refl _ _).alloc (Nat.le_refl _) _).grown gr (by simp) (fun q hq => by cases hq)
      obtain ⟨a', cap', hv2, hcs⟩ := HF.out w2 _ v2 _ o2 (hgd.below b2)
      subst hv2
      have B2 := b1.trans (b2.mono hs1)
      clear ow gr o2 b1 b2 hgd ov HF
      go_wp2
      go_roundw
      case rel => exact .inr ⟨by go_num, a', cap', rfl, hcs, B2⟩
      case measure => simp [intOf]
    · go_wp2
      go_ret
      exact ⟨_, _, rfl, hcs, hB⟩
end Go.Proofs.Ytpbljegjinjmnaa
