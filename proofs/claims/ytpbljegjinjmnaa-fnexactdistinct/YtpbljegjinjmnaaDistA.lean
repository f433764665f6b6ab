/-
  CONTRACT: the model's copy of a call.
-/
import Derived.Test.YtpbljegjinjmnaaOrdS
import Derived.Test.YtpbljegjinjmnaaCallW
import Derived.Laws.OwnMore
namespace Go.Proofs.Ytpbljegjinjmnaa
open Go.RowKit
set_option linter.unusedVariables false

theorem longs_one (l : List Int) : ∀ u ∈ l.map (Value.int .u64), u.oneCell' = true := ints_oneCell .u64 l

set_option maxRecDepth 100000 in
set_option maxHeartbeats 1000000 in
theorem l2copy_any (c : C) (a : Option Addr) (cap : Nat) (w : World) (h : USrc w a c.args) (hn : c.args.length ≤ 16777216) :
    Calls Try.prog 33 #[callV c (.slice a c.args.length cap)] w fun e w' => ∃ v', e = .returned (callV c v') ∧ ownsU w' w.heap.size v' c.args ∧ Below w.heap.size w w' := by
  obtain ⟨i0, hi, hz0, hz1, hz2⟩ := info_parts info61
  obtain ⟨ar, nr, l⟩ := c
  simp only at h hn ⊢
  have X := (Box3.new w 64 (.int .u32 ar) (.int .u32 nr) (.slice a l.length cap)).alloc (.cells #[.int .u32 0, .int .u32 0, .slice none 0 0] 64)
  have Y := Box3.new (w.alloc (.cells #[.int .u32 ar, .int .u32 nr, .slice a l.length cap] 64)) 64 (.int .u32 0) (.int .u32 0) (.slice none 0 0)
  have hsz : (w.alloc (.cells #[.int .u32 ar, .int .u32 nr, .slice a l.length cap] 64)).heap.size = w.heap.size + 1 := by simp
  have B0 : Below w.heap.size w ((w.alloc (.cells #[.int .u32 ar, .int .u32 nr, .slice a l.length cap] 64)).alloc (.cells #[.int .u32 0, .int .u32 0, .slice none 0 0] 64)) := ((Below.refl _ _).alloc (Nat.le_refl _) _).alloc (by simp) _
  rw [hsz] at Y
  clear hsz
  have HU : Hid (∀ w1, Below w.heap.size w w1 → USrc w1 a l) := fun w1 hB => h.below hB
  cases a with
  | none =>
    have hl : l = [] := by
      rcases h with h | ⟨b, o, h, _⟩
      · exact h
      · cases h
    subst hl
    have hap : ∀ u : World, (Builtin.append_ #[23, 23] 23 #[.slice none 0 0, .slice none 0 cap]).run Try.prog u = .ok (.slice none 0 0) u := fun u => by
      simp [Builtin.append_, run_underlying Try.underlying23, sizeOf, typeInfo, hi, Builtin.lenOf, Builtin.firstCells]
    obtain ⟨_, p0, p1, p2, _, _, _⟩ := X
    obtain ⟨_, r0, r1, r2, s0, s1, s2⟩ := Y
    simp only [List.length_nil] at *
    clear HU h
    go_enter Try.func33, Try.ntmps33
    go_wp2
    refine bodyPost_ret (v := callV ⟨ar, nr, []⟩ (.slice none 0 0)) (by simp [results, Try.results33, go_sem]) rfl ⟨_, rfl, ?_, ?_⟩
    · exact World.ownsRow_nil _ _ _ _
    · exact ((Below.refl _ _).alloc (Nat.le_refl _) _).alloc (by simp) _
  | some ad =>
    have hcell : ∀ w1, Below w.heap.size w w1 → ∀ j u, (l.map (Value.int .u64))[j]? = some u → w1.cell? (ad.add j) = some u := by
      intro w1 hB j u hj
      rcases HU.out w1 hB with hl | ⟨b, o, ha, hb, hp⟩
      · subst hl; simp at hj
      · obtain rfl : ad = ⟨b, o, none⟩ := by simpa using ha
        have hjl : j < l.length := by
          have := (List.getElem?_eq_some_iff.1 hj).1
          simpa using this
        rw [add_at, hp j hjl]
        rw [List.getElem?_map, List.getElem?_eq_getElem hjl] at hj
        rw [List.getD_eq_getElem?_getD, List.getElem?_eq_getElem hjl]
        simpa using hj
    have HCe : Hid _ := hcell _ B0
    clear hcell h HU
    go_enter Try.func33, Try.ntmps33
    go_wp2_with (at_builtin; refine wpList_append_own _ rfl (.tmp 4) (.tmp 6) 23 rfl (w.heap.size + 1 + 1) 26 i0 (.int .u64 0) 1 8 Try.underlying23 hi hz0 hz1 hz2 rfl (by decide) (.slice none 0 0) 0 [] rfl (World.ownsRow_nil _ _ _ _) ad l.length cap (l.map (Value.int .u64)) rfl ?c0 HCe.out (longs_one l) ?c3 ?c4 ?c5 ?_)
    case c0 => simp
    case c3 => unfold maxLen; omega
    case c4 => omega
    case c5 => simp
    intro v1 w1 ow gr _
    have o1 : ownsU w1 (w.heap.size + 1 + 1) v1 l := ow
    have b1 : Below ((w.alloc (.cells #[.int .u32 ar, .int .u32 nr, .slice (some ad) l.length cap] 64)).alloc (.cells #[.int .u32 0, .int .u32 0, .slice none 0 0] 64)).heap.size ((w.alloc (.cells #[.int .u32 ar, .int .u32 nr, .slice (some ad) l.length cap] 64)).alloc (.cells #[.int .u32 0, .int .u32 0, .slice none 0 0] 64)) w1 := (Below.refl _ _).grown gr (Nat.le_refl _) (fun q hq => by cases hq)
    have X1 := X.keep b1
    have Y1 := Y.keep b1
    have B1 := B0.trans (b1.mono B0.size)
    obtain ⟨ax, cx, hv, _⟩ := ownsU_src o1
    subst hv
    have hq : ∀ q, (Value.slice ax l.length cx).ownBlock = some q → w.heap.size + 1 + 1 ≤ q := fun q hq => (o1.lt q hq).1
    clear ow gr b1 X Y HCe B0
    obtain ⟨_, p0, p1, p2, _, _, _⟩ := X1
    obtain ⟨_, r0, r1, r2, s0, s1, s2⟩ := Y1
    go_wp2
    refine bodyPost_ret (v := callV ⟨ar, nr, l⟩ (.slice ax l.length cx)) (by simp [results, Try.results33, go_sem, r0, r1, r2]) rfl ⟨_, rfl, ?_, ?_⟩
    · refine ownsU_set (ownsU_set (ownsU_set (ownsU_mono o1 (by omega)) ?_) ?_) ?_
      all_goals (intro q h2; have := hq q h2; omega)
    · refine ((B1.setCell ?_ _).setCell ?_ _).setCell ?_ _
      all_goals (simp only; omega)
end Go.Proofs.Ytpbljegjinjmnaa
