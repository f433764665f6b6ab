/-
  CallL, LrnA
-/
import Derived.Test.YtljhccolmcoifaaGreatQ10
import Derived.Deep.RegionWith
import Derived.Test.YtljhccolmcoifaaGreatQ09
import Derived.Test.YtljhccolmcoifaaGreatQ08
namespace Go.Proofs.YtljhccolmcoifaaGreat
open Go.RowKit
set_option linter.unusedVariables false

def tot : List C → Nat
  | [] => 0
  | c :: r => c.args.length + tot r
theorem tot_take_succ {cs : List C} {k : Nat} (h : k < cs.length) : tot (cs.take (k + 1)) = tot (cs.take k) + (cs.getD k C.zero).args.length := by
  induction cs generalizing k with
  | nil => simp at h
  | cons c r ih =>
    cases k with
    | zero => simp [tot]
    | succ k =>
      have := ih (k := k) (by simpa using h)
      simp only [List.take_succ_cons, tot, List.getD_cons_succ] at *
      omega
theorem tot_take_le (cs : List C) (k : Nat) : tot (cs.take k) ≤ tot cs := by
  induction cs generalizing k with
  | nil => simp
  | cons c r ih =>
    cases k with
    | zero => simp [tot]
    | succ k => have := ih k; simp only [List.take_succ_cons, tot]; omega
theorem tot_mem {cs : List C} {c : C} (h : c ∈ cs) : c.args.length ≤ tot cs := by
  induction cs with
  | nil => simp at h
  | cons d r ih =>
    simp only [List.mem_cons] at h
    rcases h with rfl | h
    · simp [tot]
    · have := ih h; simp [tot]; omega
theorem callL_mem {cs : List C} {i : Nat} (hi : i < cs.length) : cs.getD i C.zero ∈ cs := by
  rw [List.getD_eq_getElem?_getD, List.getElem?_eq_getElem hi]; exact List.getElem_mem hi
theorem getD_take {cs : List C} {i k : Nat} (h : i < k) : (cs.take k).getD i C.zero = cs.getD i C.zero := by
  simp [List.getD_eq_getElem?_getD, h]

/-- the cells of call i -/
theorem CSrc.at {w : World} {a : Option Addr} {cs : List C} (hs : CSrc w a cs) (i : Nat) (hi : i < cs.length) : ∃ b o, a = some ⟨b, o, none⟩ ∧ b < w.heap.size ∧ w.cell? ⟨b, o + i * 3, none⟩ = some (.int .u32 (cs.getD i C.zero).arch) ∧ w.cell? ⟨b, o + i * 3 + 1, none⟩ = some (.int .u32 (cs.getD i C.zero).nr) ∧
      ∃ a' cap', w.cell? ⟨b, o + i * 3 + 2, none⟩ = some (.slice a' (cs.getD i C.zero).args.length cap') ∧ USrc w a' (cs.getD i C.zero).args := by
  rcases hs with rfl | ⟨b, o, h1, h2, h3⟩
  · simp at hi
  · obtain ⟨c0, c1, a', cap', c2, hu⟩ := h3 i hi
    exact ⟨b, o, h1, h2, c0, c1, a', cap', c2, hu⟩

set_option maxRecDepth 100000 in
set_option maxHeartbeats 2000000 in
theorem szCallS_any (a : Option Addr) (cap : Nat) (cs : List C) (w : World) (hs : CSrc w a cs) (hn : cs.length ≤ 9223372036854775807) (hm : ∀ c ∈ cs, c.args.length ≤ 9223372036854775807) :
    Calls Tryz.prog 4 #[.slice a cs.length cap, .int .i64 1048576] w fun e w' => ∃ r, e = .returned (.int .i64 r) ∧ ((r = -1) ∨ (0 ≤ r ∧ r ≤ 1048576 ∧ cs.length + tot cs ≤ 1048576)) ∧ Below w.heap.size w w' := by
  by_cases hb : 1048576 < cs.length
  · have hb' : (1048576 : Int) - (cs.length : Int) < 0 := by omega
    generalize tot cs = t at *
    clear hs hm
    generalize cs.length = n at *
    go_enter Tryz.func4, Tryz.ntmps4
    go_wp2
    go_ret
    exact ⟨-1, rfl, .inl rfl, Below.refl _ _⟩
  · have HP : Hid (∀ w1, Below w.heap.size w w1 → CSrc w1 a cs) := fun w1 hB => hs.below hB
    have HM : Hid (∀ i, i < cs.length → (cs.getD i C.zero).args.length ≤ 9223372036854775807) := fun i hi => hm _ (callL_mem hi)
    have HT : Hid (∀ i, i < cs.length → tot (cs.take (i + 1)) = tot (cs.take i) + (cs.getD i C.zero).args.length) := fun i hi => tot_take_succ hi
    have HA : Hid (tot (cs.take cs.length) = tot cs) := by show _ = _; rw [List.take_length]
    have H0 : Hid (tot (cs.take 0) = 0) := rfl
    obtain ⟨n, hn'⟩ : ∃ n, cs.length = n := ⟨_, rfl⟩
    have HN : Hid (cs.length = n) := hn'
    rw [hn'] at HM HT HA hn hb ⊢
    generalize tot cs = t at *
    obtain ⟨T, hT⟩ : ∃ T : Nat → Nat, ∀ i, tot (cs.take i) = T i := ⟨_, fun _ => rfl⟩
    simp only [hT] at HT HA H0
    clear hs hm hn' hT
    go_enter Tryz.func4, Tryz.ntmps4
    go_wp2_with fail
    go_loopw [1, 5] (fun q i wr => ∃ k : Nat, k ≤ n ∧ i = .int .i64 k ∧ q = .int .i64 (1048576 - n - T k) ∧ (0 : Int) ≤ 1048576 - n - T k ∧ Below w.heap.size w wr) (fun _ i _ => n - (intOf i).toNat)
    case atStart => exact ⟨0, by omega, rfl, by rw [H0.out]; simp, by rw [H0.out]; simp; omega, Below.refl _ _⟩
    case round =>
      obtain ⟨k, hk, rfl, rfl, hq, hB⟩ := hrel
      by_cases hlt : k < n
      · obtain ⟨b, o, ha, hbl, d0, d1, a', cap', d2, hu⟩ := (HP.out _ hB).at k (by rw [HN.out]; exact hlt)
        have hm := HM.out k hlt
        have HT' : Hid (T (k + 1) = T k + (cs.getD k C.zero).args.length) := HT.out k hlt
        have hs := hB.size
        have HC : Hid (∀ w1, Calls Tryz.prog 14 #[callV (cs.getD k C.zero) (.slice a' (cs.getD k C.zero).args.length cap'), .int .i64 (1048576 - n - T k)] w1 fun e w' => e = .returned (.int .i64 (if 1048576 - (n : Int) - T k - (cs.getD k C.zero).args.length < 0 then -1 else 1048576 - (n : Int) - T k - (cs.getD k C.zero).args.length)) ∧ Below w1.heap.size w1 w') :=
          fun w1 => szCall_any _ a' cap' _ w1 hm hq (by omega)
        subst ha
        clear HP HM HT HA hu
        generalize cs.getD k C.zero = c at *
        obtain ⟨ar, nr, args⟩ := c
        simp only at *
        generalize args.length = m at *
        generalize T k = tk at *
        by_cases hneg : 1048576 - (n : Int) - tk - m < 0
        · simp only [if_pos hneg] at HC
          go_wp2_with fail
          refine (HC.out _).mono ?_
          rintro e w1 ⟨rfl, b1⟩
          have B1 := hB.trans (b1.mono hs)
          clear HC d0 d1 d2 hB b1
          go_wp2
          go_ret
          exact ⟨-1, rfl, .inl rfl, B1⟩
        · simp only [if_neg hneg] at HC
          go_wp2_with fail
          refine (HC.out _).mono ?_
          rintro e w1 ⟨rfl, b1⟩
          have B1 := hB.trans (b1.mono hs)
          clear HC d0 d1 d2 hB b1
          go_wp2
          go_roundw
          case rel => exact ⟨k + 1, by omega, by go_num, by rw [HT'.out]; congr 1; push_cast; omega, by rw [HT'.out]; push_cast; omega, B1⟩
          case measure => simp [intOf]; omega
      · have hkn : k = n := by omega
        subst hkn
        have e1 := HA.out
        go_wp2
        go_ret
        exact ⟨_, rfl, .inr ⟨hq, by omega, by omega⟩, hB⟩

set_option maxHeartbeats 1000000 in
theorem eqCall_any (c : C) (a a' : Option Addr) (cap cap' : Nat) (w : World) (h : USrc w a c.args) (h' : USrc w a' c.args) (hn : c.args.length ≤ 16777216) :
    Calls Tryz.prog 33 #[callV c (.slice a c.args.length cap), callV c (.slice a' c.args.length cap')] w fun e w' => e = .returned (.bool true) ∧ Below w.heap.size w w' := by
  obtain ⟨ar, nr, args⟩ := c
  simp only at h h' hn ⊢
  have HC : Hid (∀ w1, Below w.heap.size w w1 → Calls Tryz.prog 67 #[.slice a args.length cap, .slice a' args.length cap'] w1 fun e w' => e = .returned (.bool true) ∧ Below w1.heap.size w1 w') :=
    fun w1 hB => eqUint64S_any a a' cap cap' args w1 (h.below hB) (h'.below hB) hn
  clear h h'
  generalize args.length = n at *
  go_enter Tryz.func33, Tryz.ntmps33
  go_wp2_with fail
  have hB0 : Below w.heap.size w ((w.alloc (.cells #[.int .u32 ar, .int .u32 nr, .slice a n cap] 48)).alloc (.cells #[.int .u32 ar, .int .u32 nr, .slice a' n cap'] 48)) := ((Below.refl _ _).alloc (Nat.le_refl _) _).alloc (by simp) _
  refine (HC.out _ hB0).mono ?_
  rintro e w1 ⟨rfl, hb1⟩
  have hB1 := hB0.trans (hb1.mono hB0.size)
  go_wp2
  go_ret
  exact ⟨rfl, hB1⟩

set_option maxRecDepth 100000 in
set_option maxHeartbeats 4000000 in
theorem eqCallS_any (a a' : Option Addr) (cap cap' : Nat) (cs : List C) (w : World) (hs : CSrc w a cs) (hs' : CSrc w a' cs) (hn : cs.length ≤ 1048576) (hm : ∀ c ∈ cs, c.args.length ≤ 16777216) :
    Calls Tryz.prog 10 #[.slice a cs.length cap, .slice a' cs.length cap'] w fun e w' => e = .returned (.bool true) ∧ Below w.heap.size w w' := by
  have HP : Hid (∀ w1, Below w.heap.size w w1 → CSrc w1 a cs) := fun w1 hB => hs.below hB
  have HP' : Hid (∀ w1, Below w.heap.size w w1 → CSrc w1 a' cs) := fun w1 hB => hs'.below hB
  have HM : Hid (∀ i, i < cs.length → (cs.getD i C.zero).args.length ≤ 16777216) := fun i hi => hm _ (callL_mem hi)
  obtain ⟨n, hn'⟩ : ∃ n, cs.length = n := ⟨_, rfl⟩
  have HN : Hid (cs.length = n) := hn'
  rw [hn'] at HM hn ⊢
  clear hs hs' hm hn'
  go_enter Tryz.func10, Tryz.ntmps10
  go_wp2_with fail
  go_loopw [5] (fun i wr => ∃ k : Nat, k ≤ n ∧ i = .int .i64 k ∧ Below w.heap.size w wr) (fun i _ => n - (intOf i).toNat)
  case atStart => exact ⟨0, by omega, rfl, Below.refl _ _⟩
  case round =>
    obtain ⟨k, hk, rfl, hB⟩ := hrel
    by_cases hlt : k < n
    · obtain ⟨b, o, ha, hbl, d0, d1, a1, cap1, d2, hu⟩ := (HP.out _ hB).at k (by rw [HN.out]; exact hlt)
      obtain ⟨b', o', ha', hbl', d0', d1', a2, cap2, d2', hu'⟩ := (HP'.out _ hB).at k (by rw [HN.out]; exact hlt)
      have hm := HM.out k hlt
      have hs := hB.size
      have HC : Hid (Calls Tryz.prog 33 #[callV (cs.getD k C.zero) (.slice a1 (cs.getD k C.zero).args.length cap1), callV (cs.getD k C.zero) (.slice a2 (cs.getD k C.zero).args.length cap2)] wr.drew fun e w' => e = .returned (.bool true) ∧ Below wr.drew.heap.size wr.drew w') :=
        eqCall_any _ a1 a2 cap1 cap2 wr.drew (hu.below (Below.refl _ _).drew) (hu'.below (Below.refl _ _).drew) hm
      subst ha ha'
      clear HP HP' HM hu hu'
      generalize cs.getD k C.zero = c at *
      obtain ⟨ar, nr, args⟩ := c
      simp only at *
      generalize args.length = m at *
      have hlt' : (k : Int) < (n : Int) := by omega
      go_wp2_with fail
      go_region_with (go_at_call 33; refine HC.out.mono ?_; rintro e w1 ⟨rfl, hb1⟩)
      all_goals
        have B1 : Below w.heap.size w w1 := hB.drew.trans (hb1.mono hs)
        clear d0 d1 d2 d0' d1' d2' HC hb1
        go_wp2
        go_roundw
        case rel => exact ⟨k + 1, by omega, by go_num, B1⟩
        case measure => simp [intOf]; omega
    · go_wp2
      go_ret
      exact ⟨rfl, hB⟩
end Go.Proofs.YtljhccolmcoifaaGreat
namespace Go.Proofs.YtljhccolmcoifaaGreat
open Go.RowKit
set_option linter.unusedVariables false

theorem usrc_at {w : World} {a : Option Addr} {l : List Int} (h : USrc w a l) (h0 : 0 < l.length) : ∃ b o, a = some ⟨b, o, none⟩ ∧ ∀ q, q < l.length → w.cell? ⟨b, o + q, none⟩ = some (.int .u64 (l.getD q 0)) := by
  rcases h with rfl | ⟨b, o, h1, h2, h3⟩
  · simp at h0
  · exact ⟨b, o, h1, fun q hq => h3 q hq⟩
/-- the six arguments of a call in a list -/
theorem csrc_six {w : World} {a : Option Addr} {t : List C} (hs : CSrc w a t) (hc : ∀ c ∈ t, okLa c.args) {i : Nat} (hi : i < t.length) : ∃ b o b' o' cap', a = some ⟨b, o, none⟩ ∧ b < w.heap.size ∧ w.cell? ⟨b, o + i * 3, none⟩ = some (.int .u32 (t.getD i C.zero).arch) ∧ w.cell? ⟨b, o + i * 3 + 1, none⟩ = some (.int .u32 (t.getD i C.zero).nr) ∧ w.cell? ⟨b, o + i * 3 + 2, none⟩ = some (.slice (some ⟨b', o', none⟩) 6 cap') ∧ USrc w (some ⟨b', o', none⟩) (t.getD i C.zero).args ∧ ∀ q, q < 6 → w.cell? ⟨b', o' + q, none⟩ = some (.int .u64 ((t.getD i C.zero).args.getD q 0)) := by
  have h6 := (hc _ (callL_mem hi)).1
  obtain ⟨b, o, e, hb, c0, c1, a', cap', c2, hu⟩ := hs.at i hi
  obtain ⟨b', o', rfl, h3⟩ := usrc_at hu (by omega)
  rw [h6] at c2 h3
  exact ⟨b, o, b', o', cap', e, hb, c0, c1, c2, hu, h3⟩
def pickA (t : List C) (j : Nat) (x v : Int) (k : Nat) : List Int := pickL ((t.take k).map C.args) j x v
theorem pickA_zero (t : List C) (j : Nat) (x v : Int) : pickA t j x v 0 = [] := rfl
theorem take_mapC {t : List C} {k : Nat} (h : k < t.length) : (t.take (k + 1)).map C.args = (t.take k).map C.args ++ [(t.getD k C.zero).args] := by
  rw [List.take_add_one, List.map_append, List.getElem?_eq_getElem h, List.getD_eq_getElem?_getD, List.getElem?_eq_getElem h]; rfl
theorem pickA_yes {t : List C} (j : Nat) {x v : Int} {k : Nat} (h : k < t.length) (hx : x < 0 ∨ (t.getD k C.zero).args.getD x.toNat 0 = v) : pickA t j x v (k + 1) = pickA t j x v k ++ [(t.getD k C.zero).args.getD j 0] := by
  unfold pickA; rw [take_mapC h]; exact pickL_yes j hx
theorem pickA_no {t : List C} (j : Nat) {x v : Int} {k : Nat} (h : k < t.length) (hx : ¬ x < 0) (hv : (t.getD k C.zero).args.getD x.toNat 0 ≠ v) : pickA t j x v (k + 1) = pickA t j x v k := by
  unfold pickA; rw [take_mapC h]; exact pickL_no j hx hv
theorem pickA_len (t : List C) (j : Nat) (x v : Int) (k : Nat) : (pickA t j x v k).length ≤ t.length :=
  Nat.le_trans (pickL_len _ _ _ _) (by rw [List.length_map, List.length_take]; omega)

set_option maxRecDepth 100000 in
set_option maxHeartbeats 4000000 in
theorem l4values_any (t : List C) (a : Option Addr) (cap j : Nat) (x v : Int) (w : World) (hs : CSrc w a t) (hc : ∀ c ∈ t, okLa c.args) (hj : j < 6) (hx0 : -1 ≤ x) (hx1 : x < 6) (hn : t.length ≤ 1000) :
    Calls Tryz.prog 75 #[.slice a t.length cap, .int .i64 (j : Int), .int .i64 x, .int .u64 v] w fun e w' => ∃ v', e = .returned v' ∧ ownsU w' w.heap.size v' (pickL (t.map C.args) j x v) ∧ Below w.heap.size w w' := by
  obtain ⟨i0, hi, hz0, hz1, hz2⟩ := info_parts info61
  have HC : Hid (∀ wr, Below w.heap.size w wr → ∀ i, i < t.length → ∃ b o b' o' cap', a = some ⟨b, o, none⟩ ∧ wr.cell? ⟨b, o + i * 3 + 2, none⟩ = some (.slice (some ⟨b', o', none⟩) 6 cap') ∧ ∀ q, q < 6 → wr.cell? ⟨b', o' + q, none⟩ = some (.int .u64 ((t.getD i C.zero).args.getD q 0))) := fun wr hb i hi => by
    obtain ⟨b, o, b', o', cap', h1, _, _, _, h2, _, h3⟩ := csrc_six (hs.below hb) hc hi
    exact ⟨b, o, b', o', cap', h1, h2, h3⟩
  have HY : Hid (∀ k, k < t.length → (x < 0 ∨ (t.getD k C.zero).args.getD x.toNat 0 = v) → pickA t j x v (k + 1) = pickA t j x v k ++ [(t.getD k C.zero).args.getD j 0]) := fun k h h' => pickA_yes j h h'
  have HNo : Hid (∀ k, k < t.length → ¬ x < 0 → (t.getD k C.zero).args.getD x.toNat 0 ≠ v → pickA t j x v (k + 1) = pickA t j x v k) := fun k h h' h'' => pickA_no j h h' h''
  have HL : Hid (∀ k, (pickA t j x v k).length ≤ 1000) := fun k => Nat.le_trans (pickA_len t j x v k) hn
  have HE : Hid (pickA t j x v t.length = pickL (t.map C.args) j x v) := by unfold Hid pickA; rw [List.take_length]
  have H0 : pickA t j x v 0 = [] := rfl
  generalize pickL (t.map C.args) j x v = RES at *
  generalize pickA t j x v = A at *
  clear hs hc
  generalize t.length = n at *
  go_enter Tryz.func75, Tryz.ntmps75
  go_wp2_with fail
  go_loopw [9, 10] (fun s' i wr => ∃ (k : Nat) (s : Value), s = s' ∧ k ≤ n ∧ i = .int .i64 k ∧ ownsU wr w.heap.size s (A k) ∧ Below w.heap.size w wr) (fun _ i _ => n - (intOf i).toNat)
  case atStart => exact ⟨0, _, rfl, by omega, rfl, by rw [H0]; exact World.ownsRow_nil _ _ _ _, Below.refl _ _⟩
  case round =>
    clear H0
    obtain ⟨k, s, hss, hk, rfl, O, B⟩ := hrel
    subst hss
    rename World => wr
    obtain ⟨au, cu, rfl, _⟩ := ownsU_src O
    by_cases hkn : k < n
    · obtain ⟨b, o, b', o', cap', rfl, c2, cq⟩ := HC.out wr B k hkn
      have hkn' : (k : Int) < (n : Int) := by omega
      have cj := cq j hj
      have HYk := HY.out k hkn
      have HNk := HNo.out k hkn
      have hl := HL.out k
      have hj6 : (j : Int) < 6 := by omega
      have hbm : (A k).length + 1 ≤ maxLen := by unfold maxLen; omega
      have hbd : ((A k).length + 1) * 8 ≤ 140737488355328 := by omega
      have hbs : w.heap.size ≤ (wr.alloc (.cells #[.int .u64 ((t.getD k C.zero).args.getD j 0)] 67)).heap.size := by have := B.size; simp; omega
      by_cases hx : x < 0
      · have hA := HYk (.inl hx)
        clear HY HNo HC HYk HNk cq
        generalize (t.getD k C.zero).args.getD j 0 = y at *
        go_wp2_with (at_builtin; refine wpList_append_own _ rfl (.tmp 31) (.tmp 40) 42 rfl w.heap.size 67 i0 (.int .u64 0) 1 8 Tryz.underlying42 hi hz0 hz1 hz2 rfl (by decide) (.slice au (A k).length cu) (A k).length ((A k).map (Value.int .u64)) rfl (World.ownsRow.alloc O _) ⟨wr.heap.size, 0, none⟩ 1 1 [.int .u64 y] rfl rfl (World.news_of_block (t := 67) (fr := (0, 0)) (heap_alloc_new wr _)) (by simp [Value.oneCell']) hbm hbd hbs ?_)
        intro v9 w9 ow gr _
        have o9 : ownsU w9 w.heap.size v9 (A (k + 1)) := by rw [hA, ownsU, List.length_append, List.map_append]; exact ow
        have B9 : Below w.heap.size w w9 := (B.alloc B.size _).grown gr hbs (fun q hq => (World.ownsRow.lt O q hq).1)
        clear ow gr O B c2 cj
        go_wp2
        go_roundw
        case rel => exact ⟨k + 1, _, rfl, by omega, by go_num, o9, B9⟩
        case measure => simp [intOf]; omega
      · obtain ⟨X, rfl⟩ : ∃ X : Nat, x = X := ⟨x.toNat, by omega⟩
        have cX := cq X (by omega)
        have hX6 : (X : Int) < 6 := by omega
        rw [Int.toNat_natCast] at HYk HNk
        clear HY HNo HC cq
        by_cases he : (t.getD k C.zero).args.getD X 0 = v
        · have hA := HYk (.inr he)
          rw [he] at cX
          clear HYk HNk
          generalize (t.getD k C.zero).args.getD j 0 = y at *
          go_wp2_with (at_builtin; refine wpList_append_own _ rfl (.tmp 31) (.tmp 40) 42 rfl w.heap.size 67 i0 (.int .u64 0) 1 8 Tryz.underlying42 hi hz0 hz1 hz2 rfl (by decide) (.slice au (A k).length cu) (A k).length ((A k).map (Value.int .u64)) rfl (World.ownsRow.alloc O _) ⟨wr.heap.size, 0, none⟩ 1 1 [.int .u64 y] rfl rfl (World.news_of_block (t := 67) (fr := (0, 0)) (heap_alloc_new wr _)) (by simp [Value.oneCell']) hbm hbd hbs ?_)
          intro v9 w9 ow gr _
          have o9 : ownsU w9 w.heap.size v9 (A (k + 1)) := by rw [hA, ownsU, List.length_append, List.map_append]; exact ow
          have B9 : Below w.heap.size w w9 := (B.alloc B.size _).grown gr hbs (fun q hq => (World.ownsRow.lt O q hq).1)
          clear ow gr O B c2 cj cX
          go_wp2
          go_roundw
          case rel => exact ⟨k + 1, _, rfl, by omega, by go_num, o9, B9⟩
          case measure => simp [intOf]; omega
        · have hA := HNk (by omega) he
          have o9 : ownsU wr w.heap.size (.slice au (A k).length cu) (A (k + 1)) := by rw [hA]; exact O
          have hev : ((t.getD k C.zero).args.getD X 0 == v) = false := by simpa using he
          clear HYk HNk hA O
          generalize (t.getD k C.zero).args.getD X 0 = y at *
          go_wp2
          go_roundw
          case rel => exact ⟨k + 1, _, rfl, by omega, by go_num, o9, B⟩
          case measure => simp [intOf]; omega
    · have hk' : k = n := by omega
      subst hk'
      have O9 : ownsU wr w.heap.size (.slice au (A k).length cu) RES := by rw [← HE.out]; exact O
      clear HY HNo HC HL HE
      go_wp2
      go_ret
      exact ⟨_, rfl, O9, B⟩
end Go.Proofs.YtljhccolmcoifaaGreat
