/-
  CONTRACTS of the helpers over lists of calls: sizes, copies, comparisons.
-/
import Derived.Test.YtjfgihmamoiipaaCallS
import Derived.Deep.RegionWith
namespace Go.Proofs.Ytjfgihmamoiipaa
open Go.RowKit
set_option linter.unusedVariables false

def tot : List C → Nat
  | [] => 0
  | c :: r => c.args.length + tot r
theorem tot_take_succ {cs : List C} {k : Nat} (h : k < cs.length) : tot (cs.take (k + 1)) = tot (cs.take k) + (cs.getD k C.zero).args.length := by
  induction cs generalizing k with
  | nil => simp at h
  | cons c r ih =>
    cases k with
    | zero => simp [tot]
    | succ k =>
      have := ih (k := k) (by simpa using h)
      simp only [List.take_succ_cons, tot, List.getD_cons_succ] at *
      omega
theorem tot_take_le (cs : List C) (k : Nat) : tot (cs.take k) ≤ tot cs := by
  induction cs generalizing k with
  | nil => simp
  | cons c r ih =>
    cases k with
    | zero => simp [tot]
    | succ k => have := ih k; simp only [List.take_succ_cons, tot]; omega
theorem tot_mem {cs : List C} {c : C} (h : c ∈ cs) : c.args.length ≤ tot cs := by
  induction cs with
  | nil => simp at h
  | cons d r ih =>
    simp only [List.mem_cons] at h
    rcases h with rfl | h
    · simp [tot]
    · have := ih h; simp [tot]; omega
theorem callL_mem {cs : List C} {i : Nat} (hi : i < cs.length) : cs.getD i C.zero ∈ cs := by
  rw [List.getD_eq_getElem?_getD, List.getElem?_eq_getElem hi]; exact List.getElem_mem hi
theorem getD_take {cs : List C} {i k : Nat} (h : i < k) : (cs.take k).getD i C.zero = cs.getD i C.zero := by
  simp [List.getD_eq_getElem?_getD, h]

/-- the cells of call i -/
theorem CSrc.at {w : World} {a : Option Addr} {cs : List C} (hs : CSrc w a cs) (i : Nat) (hi : i < cs.length) : ∃ b o, a = some ⟨b, o, none⟩ ∧ b < w.heap.size ∧ w.cell? ⟨b, o + i * 3, none⟩ = some (.int .u32 (cs.getD i C.zero).arch) ∧ w.cell? ⟨b, o + i * 3 + 1, none⟩ = some (.int .u32 (cs.getD i C.zero).nr) ∧
      ∃ a' cap', w.cell? ⟨b, o + i * 3 + 2, none⟩ = some (.slice a' (cs.getD i C.zero).args.length cap') ∧ USrc w a' (cs.getD i C.zero).args := by
  rcases hs with rfl | ⟨b, o, h1, h2, h3⟩
  · simp at hi
  · obtain ⟨c0, c1, a', cap', c2, hu⟩ := h3 i hi
    exact ⟨b, o, h1, h2, c0, c1, a', cap', c2, hu⟩

set_option maxRecDepth 100000 in
set_option maxHeartbeats 2000000 in
theorem szCallS_any (a : Option Addr) (cap : Nat) (cs : List C) (w : World) (hs : CSrc w a cs) (hn : cs.length ≤ 9223372036854775807) (hm : ∀ c ∈ cs, c.args.length ≤ 9223372036854775807) :
    Calls Try.prog 32 #[.slice a cs.length cap, .int .i64 1048576] w fun e w' => ∃ r, e = .returned (.int .i64 r) ∧ ((r = -1) ∨ (0 ≤ r ∧ r ≤ 1048576 ∧ cs.length + tot cs ≤ 1048576)) ∧ Below w.heap.size w w' := by
  by_cases hb : 1048576 < cs.length
  · have hb' : (1048576 : Int) - (cs.length : Int) < 0 := by omega
    generalize tot cs = t at *
    clear hs hm
    generalize cs.length = n at *
    go_enter Try.func32, Try.ntmps32
    go_wp2
    go_ret
    exact ⟨-1, rfl, .inl rfl, Below.refl _ _⟩
  · have HP : Hid (∀ w1, Below w.heap.size w w1 → CSrc w1 a cs) := fun w1 hB => hs.below hB
    have HM : Hid (∀ i, i < cs.length → (cs.getD i C.zero).args.length ≤ 9223372036854775807) := fun i hi => hm _ (callL_mem hi)
    have HT : Hid (∀ i, i < cs.length → tot (cs.take (i + 1)) = tot (cs.take i) + (cs.getD i C.zero).args.length) := fun i hi => tot_take_succ hi
    have HA : Hid (tot (cs.take cs.length) = tot cs) := by show _ = _; rw [List.take_length]
    have H0 : Hid (tot (cs.take 0) = 0) := rfl
    obtain ⟨n, hn'⟩ : ∃ n, cs.length = n := ⟨_, rfl⟩
    have HN : Hid (cs.length = n) := hn'
    rw [hn'] at HM HT HA hn hb ⊢
    generalize tot cs = t at *
    obtain ⟨T, hT⟩ : ∃ T : Nat → Nat, ∀ i, tot (cs.take i) = T i := ⟨_, fun _ => rfl⟩
    simp only [hT] at HT HA H0
    clear hs hm hn' hT
    go_enter Try.func32, Try.ntmps32
    go_wp2_with fail
    go_loopw [1, 5] (fun q i wr => ∃ k : Nat, k ≤ n ∧ i = .int .i64 k ∧ q = .int .i64 (1048576 - n - T k) ∧ (0 : Int) ≤ 1048576 - n - T k ∧ Below w.heap.size w wr) (fun _ i _ => n - (intOf i).toNat)
    case atStart => exact ⟨0, by omega, rfl, by rw [H0.out]; simp, by rw [H0.out]; simp; omega, Below.refl _ _⟩
    case round =>
      obtain ⟨k, hk, rfl, rfl, hq, hB⟩ := hrel
      by_cases hlt : k < n
      · obtain ⟨b, o, ha, hbl, d0, d1, a', cap', d2, hu⟩ := (HP.out _ hB).at k (by rw [HN.out]; exact hlt)
        have hm := HM.out k hlt
        have HT' : Hid (T (k + 1) = T k + (cs.getD k C.zero).args.length) := HT.out k hlt
        have hs := hB.size
        have HC : Hid (∀ w1, Calls Try.prog 41 #[callV (cs.getD k C.zero) (.slice a' (cs.getD k C.zero).args.length cap'), .int .i64 (1048576 - n - T k)] w1 fun e w' => e = .returned (.int .i64 (if 1048576 - (n : Int) - T k - (cs.getD k C.zero).args.length < 0 then -1 else 1048576 - (n : Int) - T k - (cs.getD k C.zero).args.length)) ∧ Below w1.heap.size w1 w') :=
          fun w1 => szCall_any _ a' cap' _ w1 hm hq (by omega)
        subst ha
        clear HP HM HT HA hu
        generalize cs.getD k C.zero = c at *
        obtain ⟨ar, nr, args⟩ := c
        simp only at *
        generalize args.length = m at *
        generalize T k = tk at *
        by_cases hneg : 1048576 - (n : Int) - tk - m < 0
        · simp only [if_pos hneg] at HC
          go_wp2_with fail
          refine (HC.out _).mono ?_
          rintro e w1 ⟨rfl, b1⟩
          have B1 := hB.trans (b1.mono hs)
          clear HC d0 d1 d2 hB b1
          go_wp2
          go_ret
          exact ⟨-1, rfl, .inl rfl, B1⟩
        · simp only [if_neg hneg] at HC
          go_wp2_with fail
          refine (HC.out _).mono ?_
          rintro e w1 ⟨rfl, b1⟩
          have B1 := hB.trans (b1.mono hs)
          clear HC d0 d1 d2 hB b1
          go_wp2
          go_roundw
          case rel => exact ⟨k + 1, by omega, by go_num, by rw [HT'.out]; congr 1; push_cast; omega, by rw [HT'.out]; push_cast; omega, B1⟩
          case measure => simp [intOf]; omega
      · have hkn : k = n := by omega
        subst hkn
        have e1 := HA.out
        go_wp2
        go_ret
        exact ⟨_, rfl, .inr ⟨hq, by omega, by omega⟩, hB⟩

set_option maxHeartbeats 1000000 in
theorem eqCall_any (c : C) (a a' : Option Addr) (cap cap' : Nat) (w : World) (h : USrc w a c.args) (h' : USrc w a' c.args) (hn : c.args.length ≤ 16777216) :
    Calls Try.prog 45 #[callV c (.slice a c.args.length cap), callV c (.slice a' c.args.length cap')] w fun e w' => e = .returned (.bool true) ∧ Below w.heap.size w w' := by
  obtain ⟨ar, nr, args⟩ := c
  simp only at h h' hn ⊢
  have HC : Hid (∀ w1, Below w.heap.size w w1 → Calls Try.prog 78 #[.slice a args.length cap, .slice a' args.length cap'] w1 fun e w' => e = .returned (.bool true) ∧ Below w1.heap.size w1 w') :=
    fun w1 hB => eqUint64S_any a a' cap cap' args w1 (h.below hB) (h'.below hB) hn
  clear h h'
  generalize args.length = n at *
  go_enter Try.func45, Try.ntmps45
  go_wp2_with fail
  have hB0 : Below w.heap.size w ((w.alloc (.cells #[.int .u32 ar, .int .u32 nr, .slice a n cap] 64)).alloc (.cells #[.int .u32 ar, .int .u32 nr, .slice a' n cap'] 64)) := ((Below.refl _ _).alloc (Nat.le_refl _) _).alloc (by simp) _
  refine (HC.out _ hB0).mono ?_
  rintro e w1 ⟨rfl, hb1⟩
  have hB1 := hB0.trans (hb1.mono hB0.size)
  go_wp2
  go_ret
  exact ⟨rfl, hB1⟩

set_option maxRecDepth 100000 in
set_option maxHeartbeats 4000000 in
theorem eqCallS_any (a a' : Option Addr) (cap cap' : Nat) (cs : List C) (w : World) (hs : CSrc w a cs) (hs' : CSrc w a' cs) (hn : cs.length ≤ 1048576) (hm : ∀ c ∈ cs, c.args.length ≤ 16777216) :
    Calls Try.prog 36 #[.slice a cs.length cap, .slice a' cs.length cap'] w fun e w' => e = .returned (.bool true) ∧ Below w.heap.size w w' := by
  have HP : Hid (∀ w1, Below w.heap.size w w1 → CSrc w1 a cs) := fun w1 hB => hs.below hB
  have HP' : Hid (∀ w1, Below w.heap.size w w1 → CSrc w1 a' cs) := fun w1 hB => hs'.below hB
  have HM : Hid (∀ i, i < cs.length → (cs.getD i C.zero).args.length ≤ 16777216) := fun i hi => hm _ (callL_mem hi)
  obtain ⟨n, hn'⟩ : ∃ n, cs.length = n := ⟨_, rfl⟩
  have HN : Hid (cs.length = n) := hn'
  rw [hn'] at HM hn ⊢
  clear hs hs' hm hn'
  go_enter Try.func36, Try.ntmps36
  go_wp2_with fail
  go_loopw [5] (fun i wr => ∃ k : Nat, k ≤ n ∧ i = .int .i64 k ∧ Below w.heap.size w wr) (fun i _ => n - (intOf i).toNat)
  case atStart => exact ⟨0, by omega, rfl, Below.refl _ _⟩
  case round =>
    obtain ⟨k, hk, rfl, hB⟩ := hrel
    by_cases hlt : k < n
    · obtain ⟨b, o, ha, hbl, d0, d1, a1, cap1, d2, hu⟩ := (HP.out _ hB).at k (by rw [HN.out]; exact hlt)
      obtain ⟨b', o', ha', hbl', d0', d1', a2, cap2, d2', hu'⟩ := (HP'.out _ hB).at k (by rw [HN.out]; exact hlt)
      have hm := HM.out k hlt
      have hs := hB.size
      have HC : Hid (Calls Try.prog 45 #[callV (cs.getD k C.zero) (.slice a1 (cs.getD k C.zero).args.length cap1), callV (cs.getD k C.zero) (.slice a2 (cs.getD k C.zero).args.length cap2)] wr.drew fun e w' => e = .returned (.bool true) ∧ Below wr.drew.heap.size wr.drew w') :=
        eqCall_any _ a1 a2 cap1 cap2 wr.drew (hu.below (Below.refl _ _).drew) (hu'.below (Below.refl _ _).drew) hm
      subst ha ha'
      clear HP HP' HM hu hu'
      generalize cs.getD k C.zero = c at *
      obtain ⟨ar, nr, args⟩ := c
      simp only at *
      generalize args.length = m at *
      have hlt' : (k : Int) < (n : Int) := by omega
      go_wp2_with fail
      go_region_with (go_at_call 45; refine HC.out.mono ?_; rintro e w1 ⟨rfl, hb1⟩)
      all_goals
        have B1 : Below w.heap.size w w1 := hB.drew.trans (hb1.mono hs)
        clear d0 d1 d2 d0' d1' d2' HC hb1
        go_wp2
        go_roundw
        case rel => exact ⟨k + 1, by omega, by go_num, B1⟩
        case measure => simp [intOf]; omega
    · go_wp2
      go_ret
      exact ⟨rfl, hB⟩
end Go.Proofs.Ytjfgihmamoiipaa
