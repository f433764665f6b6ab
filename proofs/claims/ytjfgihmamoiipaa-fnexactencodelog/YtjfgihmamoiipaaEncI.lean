/-
  CONTRACTS of the two EncodeLogs.
-/
import Derived.Test.YtjfgihmamoiipaaFrame
import Derived.Deep.AppendLies
import Derived.ArgAppend
import Derived.Lib.SlBytesConst
namespace Go.Proofs.Ytjfgihmamoiipaa
open Go.RowKit
set_option linter.unusedVariables false

theorem call_mem {cs : List C} {i : Nat} (hi : i < cs.length) : cs.getD i C.zero ∈ cs := by
  rw [List.getD_eq_getElem?_getD, List.getElem?_eq_getElem hi]; exact List.getElem_mem hi
theorem callsOk_false {cs : List C} {i : Nat} (hi : i < cs.length) (h : (cs.getD i C.zero).args.length ≠ 6) : callsOk cs = false := by
  unfold callsOk
  rw [Bool.and_eq_false_iff]
  right
  rw [List.all_eq_false]
  exact ⟨_, call_mem hi, by unfold six; simpa using h⟩
theorem callsOk_true {cs : List C} (hn : cs.length ≤ 1000) (h : ∀ i, i < cs.length → (cs.getD i C.zero).args.length = 6) : callsOk cs = true := by
  unfold callsOk
  rw [Bool.and_eq_true, List.all_eq_true]
  refine ⟨by simpa using hn, fun c hc => ?_⟩
  obtain ⟨i, hi, rfl⟩ := List.getElem_of_mem hc
  have := h i hi
  rw [List.getD_eq_getElem?_getD, List.getElem?_eq_getElem hi] at this
  simpa [six] using this
theorem callsOk_inv {cs : List C} (h : callsOk cs = true) : cs.length ≤ 1000 ∧ ∀ c ∈ cs, c.args.length = 6 := by
  unfold callsOk at h
  rw [Bool.and_eq_true, List.all_eq_true] at h
  exact ⟨by simpa using h.1, fun c hc => by simpa [six] using h.2 c hc⟩
theorem encLog_ok {cs : List C} (h : callsOk cs = true) : encLog cs = logL cs := by unfold encLog; rw [if_pos h]
theorem encLog_not {cs : List C} (h : callsOk cs = false) : encLog cs = [] := by unfold encLog; rw [if_neg (by simp [h])]
theorem encLog_big {cs : List C} (h : 1000 < cs.length) : encLog cs = [] := encLog_not (by unfold callsOk; simp; omega)

/-- the calls in memory, one by one -/
def CCells (w : World) (a : Option Addr) (cs : List C) : Prop := ∀ i, i < cs.length → ∃ b o, a = some ⟨b, o, none⟩ ∧ b < w.heap.size ∧ w.cell? ⟨b, o + i * 3, none⟩ = some (.int .u32 (cs.getD i C.zero).arch) ∧ w.cell? ⟨b, o + i * 3 + 1, none⟩ = some (.int .u32 (cs.getD i C.zero).nr) ∧
      ∃ a' cap', w.cell? ⟨b, o + i * 3 + 2, none⟩ = some (.slice a' (cs.getD i C.zero).args.length cap') ∧ USrc w a' (cs.getD i C.zero).args
theorem CSrc.cells {w : World} {a : Option Addr} {cs : List C} (hs : CSrc w a cs) : CCells w a cs := by
  intro i hi
  rcases hs with rfl | ⟨b, o, h1, h2, h3⟩
  · simp at hi
  · obtain ⟨c0, c1, a', cap', c2, hu⟩ := h3 i hi
    exact ⟨b, o, h1, h2, c0, c1, a', cap', c2, hu⟩

set_option maxRecDepth 100000 in
set_option maxHeartbeats 2000000 in
theorem callsOK_any (a : Option Addr) (cap : Nat) (cs : List C) (w : World) (hs : CSrc w a cs) (hn : cs.length ≤ 1048576) (hm : ∀ c ∈ cs, c.args.length ≤ 1048576) :
    Calls Try.prog 62 #[.slice a cs.length cap] w fun e w' => e = .returned (.bool (callsOk cs)) ∧ w' = w := by
  by_cases hb : 1000 < cs.length
  · have e : callsOk cs = false := by unfold callsOk; simp; omega
    rw [e]
    have hb' : (1000 : Int) < (cs.length : Int) := by omega
    generalize cs.length = n at *
    go_enter Try.func62, Try.ntmps62
    go_wp2
    go_ret
    exact ⟨rfl, rfl⟩
  · have HP : Hid (CCells w a cs) := hs.cells
    have HF : Hid (∀ i, i < cs.length → (cs.getD i C.zero).args.length ≠ 6 → callsOk cs = false) := fun i hi h => callsOk_false hi h
    have HT : Hid ((∀ i, i < cs.length → (cs.getD i C.zero).args.length = 6) → callsOk cs = true) := fun h => callsOk_true (by omega) h
    have HM : Hid (∀ i, i < cs.length → (cs.getD i C.zero).args.length ≤ 1048576) := fun i hi => hm _ (call_mem hi)
    generalize callsOk cs = R at *
    obtain ⟨n, hn'⟩ : ∃ n, cs.length = n := ⟨_, rfl⟩
    have HN : Hid (cs.length = n) := hn'
    unfold CCells at HP
    rw [hn'] at HP HF HT HM hn hb ⊢
    clear hs hn' hm
    go_enter Try.func62, Try.ntmps62
    go_wp2_with fail
    go_loopw [3] (fun i wr => ∃ k : Nat, k ≤ n ∧ i = .int .i64 k ∧ wr = w ∧ Hid (∀ j, j < k → (cs.getD j C.zero).args.length = 6)) (fun i _ => n - (intOf i).toNat)
    case atStart => exact ⟨0, by omega, rfl, rfl, fun j hj => by omega⟩
    case round =>
      obtain ⟨k, hk, rfl, rfl, HJ⟩ := hrel
      by_cases hlt : k < n
      · obtain ⟨b, o, ha, hbl, c0, c1, a', cap', c2, hu⟩ := HP.out k hlt
        have hm := HM.out k hlt
        have HF' : Hid ((cs.getD k C.zero).args.length ≠ 6 → R = false) := HF.out k hlt
        have HJ' : Hid ((cs.getD k C.zero).args.length = 6 → ∀ j, j < k + 1 → (cs.getD j C.zero).args.length = 6) := by
          intro h j hj
          by_cases e : j = k
          · rw [e]; exact h
          · exact HJ.out j (by omega)
        subst ha
        clear HP HF HT HM c0 c1 hu HJ
        generalize (cs.getD k C.zero).args.length = m at *
        by_cases h6 : m = 6
        · have HG := HJ'.out h6
          have HG' : Hid _ := HG
          clear HG HJ' HF'
          subst h6
          go_wp2
          go_roundw
          case rel => exact ⟨k + 1, by omega, by go_num, trivial, HG'⟩
          case measure => simp [intOf]; omega
        · have hR := HF'.out h6
          have hne : ((m : Int) != 6) = true := by simp; omega
          clear HF' HJ'
          subst hR
          go_wp2
          go_ret
          exact ⟨rfl, rfl⟩
      · have hR := HT.out (fun i hi => HJ.out i (by omega))
        subst hR
        go_wp2
        go_ret
        exact ⟨rfl, rfl⟩

set_option maxRecDepth 100000 in
set_option maxHeartbeats 2000000 in
theorem specEncLog_any (a : Option Addr) (cap : Nat) (cs : List C) (w : World) (hs : CSrc w a cs) (hok : ∀ c ∈ cs, c.ok) (hn : cs.length ≤ 1048576) (hm : ∀ c ∈ cs, c.args.length ≤ 1048576) :
    Calls Try.prog 33 #[.slice a cs.length cap] w fun e w' => ∃ v', e = .returned v' ∧ owns w' w.heap.size v' (encLog cs) ∧ Below w.heap.size w w' := by
  have H1 : Hid (Calls Try.prog 62 #[.slice a cs.length cap] w fun e w' => e = .returned (.bool (callsOk cs)) ∧ w' = w) := callsOK_any a cap cs w hs hn hm
  by_cases hc : callsOk cs = true
  · obtain ⟨h1, h2⟩ := callsOk_inv hc
    have H2 : Hid (Calls Try.prog 63 #[.slice a cs.length cap] w fun e w' => ∃ v', e = .returned v' ∧ owns w' w.heap.size v' (logL cs) ∧ Below w.heap.size w w') := l2log_any a cap cs w hs hok h2 h1
    rw [encLog_ok hc]
    rw [hc] at H1
    generalize logL cs = R at *
    generalize cs.length = n at *
    go_enter Try.func33, Try.ntmps33
    go_wp2_with fail
    refine H1.out.mono ?_
    rintro e w1 ⟨rfl, rfl⟩
    go_wp2_with fail
    refine H2.out.mono ?_
    rintro e w2 ⟨v2, rfl, o2, b2⟩
    go_wp2
    go_ret
    exact ⟨_, rfl, o2, b2⟩
  · rw [Bool.not_eq_true] at hc
    rw [encLog_not hc]
    rw [hc] at H1
    generalize cs.length = n at *
    go_enter Try.func33, Try.ntmps33
    go_wp2_with fail
    refine H1.out.mono ?_
    rintro e w1 ⟨rfl, rfl⟩
    go_wp2
    go_ret
    exact ⟨_, rfl, World.ownsRow_nil _ _ _ _, Below.refl _ _⟩

set_option maxRecDepth 100000 in
set_option maxHeartbeats 1000000 in
theorem implEncLog_big (a : Option Addr) (n cap : Nat) (w : World) (h : 1000 < n) :
    Calls Try.prog 35 #[.slice a n cap] w fun e w' => ∃ v', e = .returned v' ∧ owns w' w.heap.size v' [] ∧ Below w.heap.size w w' := by
  have hb : (1000 : Int) < (n : Int) := by omega
  go_enter Try.func35, Try.ntmps35
  go_wp2
  go_ret
  exact ⟨_, rfl, World.ownsRow_nil _ _ _ _, Below.refl _ _⟩

theorem cell_marked (w : World) (C : Array Value) (t : TypeId) (fz : Nat × Nat) (j : Nat) : (w.alloc (.cells C t fz)).cell? ⟨w.heap.size, j, none⟩ = C[j]? := by
  have h : (w.alloc (.cells C t fz)).heap[w.heap.size]? = some (.cells C t fz) := by
    show (w.heap.push _)[w.heap.size]? = _
    simp
  unfold World.cell?
  rw [h]
  simp
theorem byte_hi {n : Nat} (h : n ≤ 1000) : littleL (n : Int) 2 = [(n : Int) % 256, (n : Int) / 256] := by
  simp only [littleL, List.cons.injEq, and_true, true_and]; omega

set_option maxRecDepth 100000 in
set_option maxHeartbeats 4000000 in
theorem implEncLog_fit (a : Option Addr) (cap : Nat) (cs : List C) (w : World) (hs : CSrc w a cs) (hok : ∀ c ∈ cs, c.ok) (hn : cs.length ≤ 1000) (hm : ∀ c ∈ cs, c.args.length ≤ 1048576) :
    Calls Try.prog 35 #[.slice a cs.length cap] w fun e w' => ∃ v', e = .returned v' ∧ owns w' w.heap.size v' (encLog cs) ∧ Below w.heap.size w w' := by
  obtain ⟨i0, hi, hz0, hz1, hz2⟩ := info_parts info5
  have HP : Hid (CCells w a cs) := hs.cells
  have HQ : Hid (∀ i, i < cs.length → (cs.getD i C.zero).ok) := fun i hi => hok _ (call_mem hi)
  have HF : Hid (∀ i, i < cs.length → (cs.getD i C.zero).args.length ≠ 6 → encLog cs = []) := fun i hi h => encLog_not (callsOk_false hi h)
  have HR : Hid ((∀ i, i < cs.length → (cs.getD i C.zero).args.length = 6) → encLog cs = logE cs cs.length) := fun h => by rw [encLog_ok (callsOk_true hn h), logE_all]
  have HT : Hid (∀ i, i < cs.length → logE cs (i + 1) = logE cs i ++ frameL (bodyL (cs.getD i C.zero))) := fun i hi => logE_succ hi
  have HM : Hid (∀ i, i < cs.length → (cs.getD i C.zero).args.length ≤ 1048576) := fun i hi => hm _ (call_mem hi)
  have H0 : Hid (logE cs 0 = [67, 76, 79, 71] ++ [1, (cs.length : Int) % 256, (cs.length : Int) / 256]) := by show _ = _; rw [logE_zero, byte_hi hn]; rfl
  have HE0 : Hid ((logE cs 0).length = 7) := by show _ = _; rw [logE_zero, byte_hi hn]; rfl
  clear hs hok hm
  obtain ⟨n, hn'⟩ : ∃ n, cs.length = n := ⟨_, rfl⟩
  have HN : Hid (cs.length = n) := hn'
  unfold CCells at HP
  rw [hn'] at HP HF HT HM HQ HR H0 hn ⊢
  clear hn'
  generalize encLog cs = R at *
  generalize logE cs = E at *
  have hdiv : (n : Int) / 256 % 256 = (n : Int) / 256 := by omega
  have hcv := fun (u : World) (K : Array Value) (m c : Nat) => Lib.run_convert_bytes_const (P := Try.prog) u 22 5 K m c Try.underlying22 Try.underlying5
  go_enter Try.func35, Try.ntmps35
  go_wp2_with (at_builtin; refine wpList_append_grows _ rfl (.tmp 11) (.tmp 19) 22 rfl 5 i0 (.int .u8 0) 1 1 Try.underlying22 hi hz0 hz1 hz2 rfl (by decide) (some ⟨w.heap.size, 0, none⟩) 4 4 ([67, 76, 79, 71].map (Value.int .u8)) rfl (fun h => by cases h) rfl ?c0 ⟨w.heap.size + 1, 0, none⟩ 3 3 ([1, (n : Int) % 256, (n : Int) / 256].map (Value.int .u8)) rfl rfl ?c1 (bytes_oneCell _) (by omega) ?c3 ?c4 ?_)
  case c0 =>
    intro b hb j u hj
    obtain rfl : b = ⟨w.heap.size, 0, none⟩ := by simpa using hb.symm
    rw [add_at, Nat.zero_add, World.cell?_alloc_lt _ _ _ (by simp), cell_marked]
    simpa using hj
  case c1 =>
    intro j u hj
    rw [add_at]
    rw [World.cell?_alloc_at _ _ _ _ (by simp)]
    simpa using hj
  case c3 => simp [maxLen]
  case c4 => simp
  intro v1 w1 ow gr
  have B1 : Below w.heap.size w w1 := (((Below.refl _ _).alloc (Nat.le_refl _) _).alloc (by simp) _).grown gr (by simp; omega) (fun q hq => by cases hq)
  have O1 : owns w1 w.heap.size v1 (E 0) := by
    have h := owns_app (l := [67, 76, 79, 71]) (m := [1, (n : Int) % 256, (n : Int) / 256]) rfl ow
    rw [H0.out]; exact owns_mono h (by first | omega | (simp; omega) | simp)
  clear ow gr hcv hdiv H0
  have HE : Hid (∀ k, k ≤ n → (∀ j, j < k → (cs.getD j C.zero).args.length = 6) → (E k).length ≤ 7 + 75 * k) := by
    intro k
    induction k with
    | zero => intro _ _; rw [HE0.out]; omega
    | succ k ih =>
      intro h1 h2
      have h3 := ih (by omega) (fun j hj => h2 j (by omega))
      have h4 := bodyL_len (HQ.out k (by omega))
      rw [HT.out k (by omega), List.length_append, frameL_len]
      rw [h2 k (by omega)] at h4
      omega
  clear HE0
  go_wp2_with fail
  go_loopw [3, 23] (fun s i wr => ∃ k : Nat, k ≤ n ∧ i = .int .i64 k ∧ owns wr w.heap.size s (E k) ∧ Below w.heap.size w wr ∧ Hid (∀ j, j < k → (cs.getD j C.zero).args.length = 6)) (fun _ i _ => n - (intOf i).toNat)
  case atStart => exact ⟨0, by omega, rfl, O1, B1, fun j hj => by omega⟩
  case round =>
    obtain ⟨k, hk, rfl, O2, B2, HJ⟩ := hrel
    clear O1 B1
    by_cases hlt : k < n
    · obtain ⟨b, o, ha, hbl, c0, c1, a', cap', c2, hu⟩ := HP.out k hlt
      have hok := HQ.out k hlt
      have hm6 := HM.out k hlt
      have d0 := (B2.cell (p := ⟨b, _, none⟩) hbl).trans c0
      have d1 := (B2.cell (p := ⟨b, _, none⟩) hbl).trans c1
      have d2 := (B2.cell (p := ⟨b, _, none⟩) hbl).trans c2
      have HJ' : Hid ((cs.getD k C.zero).args.length = 6 → ∀ j, j < k + 1 → (cs.getD j C.zero).args.length = 6) := by
        intro h j hj
        by_cases e : j = k
        · rw [e]; exact h
        · exact HJ.out j (by omega)
      have hlen := HE.out k hk HJ.out
      have HT' : Hid _ := HT.out k hlt
      have HF' : Hid ((cs.getD k C.zero).args.length ≠ 6 → R = []) := HF.out k hlt
      have hBl := bodyL_len hok
      have hBo := bodyL_ok hok
      have HBd : Hid ((cs.getD k C.zero).args.length = 6 → ∀ w1, Below w.heap.size w w1 → Calls Try.prog 65 #[callV (cs.getD k C.zero) (.slice a' 6 cap')] w1 fun e w' => ∃ v', e = .returned v' ∧ owns w' w1.heap.size v' (bodyL (cs.getD k C.zero)) ∧ Below w1.heap.size w1 w') :=
        fun h6 w1 hB => bodyOf_six _ a' cap' w1 (hu.below hB) hok h6
      have HV6 : Hid (∀ w1, Calls Try.prog 64 #[callV (cs.getD k C.zero) (.slice a' 6 cap')] w1 fun e w' => e = .returned (.bool true) ∧ Below w1.heap.size w1 w') := fun w1 => isValid_six _ a' cap' w1
      have HVn : Hid (∀ w1 m, m ≠ 6 → Calls Try.prog 64 #[callV (cs.getD k C.zero) (.slice a' m cap')] w1 fun e w' => e = .returned (.bool false) ∧ Below w1.heap.size w1 w') := fun w1 m h => isValid_not _ a' m cap' w1 h
      subst ha
      clear HP HQ HM HF HT HE c0 c1 c2 hu hok HJ HR
      generalize cs.getD k C.zero = c at *
      generalize bodyL c = M at *
      obtain ⟨ar, nr, args⟩ := c
      simp only at *
      generalize args.length = m at *
      have hs2 := B2.size
      by_cases h6 : m = 6
      · have HG := HJ'.out h6
        have HG' : Hid _ := HG
        have HB2 := HBd.out h6
        have HB3 : Hid (∀ w1, Below w.heap.size w w1 → Calls Try.prog 65 #[callV ⟨ar, nr, args⟩ (.slice a' 6 cap')] w1 fun e w' => ∃ v', e = .returned v' ∧ owns w' w1.heap.size v' M ∧ Below w1.heap.size w1 w') := HB2
        clear HG HJ' HF' HB2 HBd HVn
        subst h6
        go_wp2_with fail
        have bW : Below wr.heap.size wr (wr.alloc (.cells #[.int .u32 ar, .int .u32 nr, .slice a' 6 cap'] 64)) := (Below.refl _ _).alloc (Nat.le_refl _) _
        have X := Box3.new wr 64 (.int .u32 ar) (.int .u32 nr) (.slice a' 6 cap')
        have O3 := owns_below O2 bW
        have B3 := B2.trans (bW.mono hs2)
        clear O2 B2 bW d0 d1 d2
        generalize wr.alloc (.cells #[.int .u32 ar, .int .u32 nr, .slice a' 6 cap'] 64) = w3 at *
        have hs3 := B3.size
        refine (HV6.out _).mono ?_
        rintro e w4 ⟨rfl, b4⟩
        have X4 := X.keep b4
        have O4 := owns_below O3 b4
        have B4 := B3.trans (b4.mono hs3)
        have hs4 := B4.size
        clear X b4 O3 B3 hs3
        obtain ⟨_, y0, y1, y2, _, _, _⟩ := X4
        go_wp2_with fail
        refine (HB3.out _ B4).mono ?_
        rintro e w5 ⟨vb, rfl, ob5, b5⟩
        have O5 := owns_below O4 b5
        have B5 := B4.trans (b5.mono hs4)
        have hs5 := B5.size
        have hq5 : ∀ q, u3.ownBlock = some q → q < w4.heap.size := fun q hq => (O4.lt q hq).2
        clear O4 B4 b5 HB3 HV6 y0 y1 y2
        obtain ⟨g, gc, hvb, hg, _⟩ := owns_at ob5 (by omega)
        subst hvb
        have hgl : g < w5.heap.size := (ob5.lt g (by simp [Value.ownBlock])).2
        go_wp2_with (at_builtin; refine wpList_append_lies _ rfl (.tmp 32) (.tmp 36) 22 rfl (w.heap.size) 5 i0 (.int .u8 0) 1 1 Try.underlying22 hi hz0 hz1 hz2 rfl (by decide) _ _ _ rfl (O5.alloc _) ⟨w5.heap.size, 0, none⟩ 1 1 [.int .u8 (M.length : Int)] rfl rfl (cell_one_new _ _ _) (bytes_oneCell [(M.length : Int)]) (by omega) ?c3 ?c4 ?c5 _ rfl ?_)
        case c3 => unfold maxLen; omega
        case c4 => omega
        case c5 => first | omega | (simp; omega)
        intro g6 cap6 w6 ow gr hat hlt6
        have O6 : owns w6 w.heap.size (.slice (some ⟨g6, 0, none⟩) ((E k).length + 1) cap6) (E k ++ [(M.length : Int)]) := owns_app (m := [(M.length : Int)]) rfl ow
        have B6 : Below w.heap.size w w6 := grown_below B5 hs5 O5 gr
        have hne : g6 ≠ g := by
          rcases hat with h | h
          · have := hq5 _ h; omega
          · rw [h]; simp; omega
        have ob6 : owns w6 w4.heap.size (.slice (some ⟨g, 0, none⟩) M.length gc) M := by
          refine owns_kept (owns_below ob5 ((Below.refl _ _).alloc (Nat.le_refl _) _)) gr (fun q hq e => ?_)
          have e1 : g = q := by simpa [Value.ownBlock] using hq
          have := hq5 q e.symm
          omega
        have hs6 := B6.size
        have hl6 : (E k ++ [(M.length : Int)]).length ≤ 8 + 75 * k := by simp; omega
        clear ow gr hat O5 B5 hs5 hq5 ob5
        obtain ⟨_, _, h1, _, hgc⟩ := owns_at ob6 (by omega)
        have hgc' : Hid (∀ j u, (M.map (Value.int .u8))[j]? = some u → w6.cell? ((⟨g, 0, none⟩ : Addr).add j) = some u) := by
          simp only [Value.slice.injEq, Option.some.injEq, Addr.mk.injEq] at h1
          obtain ⟨⟨e1, _, _⟩, _, _⟩ := h1
          rw [e1]; exact hgc
        clear h1 hgc
        have HT2 : Hid (E (k + 1) = E k ++ [(M.length : Int)] ++ M ++ littleL (sumL M) 4) := by
          show _ = _
          rw [HT'.out, frame_eq (by omega)]; simp
        clear HT'
        generalize E k ++ [(M.length : Int)] = P at *
        go_wp2_with (at_builtin; refine wpList_append_own _ rfl (.tmp 38) (.tmp 39) 22 rfl (w.heap.size) 5 i0 (.int .u8 0) 1 1 Try.underlying22 hi hz0 hz1 hz2 rfl (by decide) _ _ _ rfl O6 ⟨g, 0, none⟩ M.length gc (M.map (Value.int .u8)) rfl ?c0 hgc'.out (bytes_oneCell _) ?c3 ?c4 ?c5 ?_)
        case c0 => simp
        case c3 => unfold maxLen; omega
        case c4 => omega
        case c5 => omega
        intro v7 w7 ow gr _
        have B7 : Below w.heap.size w w7 := grown_below0 B6 hs6 O6 gr
        have O7 : owns w7 w.heap.size v7 (P ++ M) := owns_app rfl ow
        have ob7 : owns w7 w4.heap.size (.slice (some ⟨g, 0, none⟩) M.length gc) M := by
          refine owns_kept ob6 gr (fun q hq e => ?_)
          have e1 : g = q := by simpa [Value.ownBlock] using hq
          have e2 : q = g6 := by simpa [Value.ownBlock] using e
          omega
        have hs7 := B7.size
        have hl7 : (P ++ M).length ≤ 78 + 75 * k := by rw [List.length_append]; omega
        clear ow gr O6 B6 ob6 hgc' hs6
        generalize P ++ M = P2 at *
        have HSm : Hid (Calls Try.prog 31 #[.slice (some ⟨g, 0, none⟩) M.length gc] w7 fun e w' => e = .returned (.int .u32 (sumL M)) ∧ Below w7.heap.size w7 w') := by
          obtain ⟨a2, cap2, h1, h2⟩ := owns_src ob7
          rw [h1]
          exact implSum_any a2 cap2 M w7 h2 hBo (by omega)
        obtain ⟨s0, s1⟩ := sumL_ok M
        generalize sumL M = S at *
        clear ob7
        go_wp2_with fail
        refine HSm.out.mono ?_
        rintro e w8 ⟨rfl, b8⟩
        have O8 := owns_below O7 b8
        have B8 := B7.trans (b8.mono hs7)
        clear O7 B7 b8 HSm
        go_wp2_with fail
        refine (appendWord_B w.heap.size _ P2 S _ O8 (by omega) B8.size s0 s1).mono ?_
        rintro e w9 ⟨v9, rfl, O9, b9⟩
        have B9 := B8.trans b9
        rw [← HT2.out] at O9
        clear O8 B8 b9 HT2
        go_wp2
        go_roundw
        case rel => exact ⟨k + 1, by omega, by go_num, O9, B9, HG'⟩
        case measure => simp [intOf]; omega
      · have hR := HF'.out h6
        subst hR
        clear HJ' HF' HBd HV6
        go_wp2_with fail
        have bW : Below wr.heap.size wr (wr.alloc (.cells #[.int .u32 ar, .int .u32 nr, .slice a' m cap'] 64)) := (Below.refl _ _).alloc (Nat.le_refl _) _
        have B3 := B2.trans (bW.mono hs2)
        refine (HVn.out _ m h6).mono ?_
        rintro e w4 ⟨rfl, b4⟩
        have B4 := B3.trans (b4.mono B3.size)
        clear O2 B2 bW d0 d1 d2 B3 b4 HVn
        go_wp2
        go_ret
        exact ⟨_, rfl, World.ownsRow_nil _ _ _ _, B4⟩
    · have hR := HR.out (fun i hi => HJ.out i (by omega))
      have hkn : k = n := by omega
      subst hkn
      clear HJ
      go_wp2
      go_ret
      exact ⟨_, rfl, by rw [hR]; exact O2, B2⟩

theorem implEncLog_any (a : Option Addr) (cap : Nat) (cs : List C) (w : World) (hs : CSrc w a cs) (hok : ∀ c ∈ cs, c.ok) (hm : ∀ c ∈ cs, c.args.length ≤ 1048576) :
    Calls Try.prog 35 #[.slice a cs.length cap] w fun e w' => ∃ v', e = .returned v' ∧ owns w' w.heap.size v' (encLog cs) ∧ Below w.heap.size w w' := by
  by_cases h : 1000 < cs.length
  · rw [encLog_big h]; exact implEncLog_big a _ cap w h
  · exact implEncLog_fit a cap cs w hs hok (by omega) hm
end Go.Proofs.Ytjfgihmamoiipaa
