/-
  CONTRACT: the model's order of two calls; its copy of a call.
-/
import Derived.Test.YtpbljegjinjmnaaOrd
namespace Go.Proofs.Ytpbljegjinjmnaa
open Go.RowKit
set_option linter.unusedVariables false

theorem ordC_arch {a b : C} (h : a.arch ≠ b.arch) : ordC a b = ordI a.arch b.arch := by
  unfold ordC; rw [if_pos (fun e => h (ordI_zero e))]
theorem ordC_nr {a b : C} (h : a.arch = b.arch) (h2 : a.nr ≠ b.nr) : ordC a b = ordI a.nr b.nr := by
  unfold ordC; rw [if_neg (by rw [h, ordI_self]; simp), if_pos (fun e => h2 (ordI_zero e))]
theorem ordC_args {a b : C} (h : a.arch = b.arch) (h2 : a.nr = b.nr) : ordC a b = ordL a.args b.args := by
  unfold ordC; rw [if_neg (by rw [h, ordI_self]; simp), if_neg (by rw [h2, ordI_self]; simp)]

set_option maxRecDepth 100000 in
set_option maxHeartbeats 1000000 in
theorem l2order_far (c d : C) (v v' : Value) (w : World) (hc : c.ok) (hd : d.ok) (h : c.arch ≠ d.arch ∨ c.nr ≠ d.nr) :
    Calls Try.prog 34 #[callV c v, callV d v'] w fun e w' => e = .returned (.int .i64 (ordC c d)) ∧ Below w.heap.size w w' := by
  obtain ⟨ca0, ca1, cn0, cn1, _⟩ := hc
  obtain ⟨da0, da1, dn0, dn1, _⟩ := hd
  by_cases h1 : c.arch = d.arch
  · have h2 : c.nr ≠ d.nr := by
      rcases h with h | h
      · exact absurd h1 h
      · exact h
    rw [ordC_nr h1 h2]
    obtain ⟨ar, nr, args⟩ := c
    obtain ⟨ar', nr', args'⟩ := d
    simp only at *
    subst h1
    have hb : (nr != nr') = true := by simpa using h2
    by_cases h3 : nr < nr'
    · rw [ordI_neg h3]
      go_enter Try.func34, Try.ntmps34
      go_wp2
      go_ret
      exact ⟨rfl, ((Below.refl _ _).alloc (Nat.le_refl _) _).alloc (by simp) _⟩
    · rw [ordI_pos (by omega)]
      go_enter Try.func34, Try.ntmps34
      go_wp2
      go_ret
      exact ⟨rfl, ((Below.refl _ _).alloc (Nat.le_refl _) _).alloc (by simp) _⟩
  · rw [ordC_arch h1]
    obtain ⟨ar, nr, args⟩ := c
    obtain ⟨ar', nr', args'⟩ := d
    simp only at *
    have hb : (ar != ar') = true := by simpa using h1
    by_cases h3 : ar < ar'
    · rw [ordI_neg h3]
      go_enter Try.func34, Try.ntmps34
      go_wp2
      go_ret
      exact ⟨rfl, ((Below.refl _ _).alloc (Nat.le_refl _) _).alloc (by simp) _⟩
    · rw [ordI_pos (by omega)]
      go_enter Try.func34, Try.ntmps34
      go_wp2
      go_ret
      exact ⟨rfl, ((Below.refl _ _).alloc (Nat.le_refl _) _).alloc (by simp) _⟩

set_option maxRecDepth 100000 in
set_option maxHeartbeats 1000000 in
theorem l2order_near (ar nr : Int) (l m : List Int) (a a' : Option Addr) (cap cap' : Nat) (w : World) (h : USrc w a l) (h' : USrc w a' m) (hl : ∀ v ∈ l, isU64 v) (hm : ∀ v ∈ m, isU64 v) (hn : l.length ≤ 16777216) (hn' : m.length ≤ 16777216) :
    Calls Try.prog 34 #[callV ⟨ar, nr, l⟩ (.slice a l.length cap), callV ⟨ar, nr, m⟩ (.slice a' m.length cap')] w fun e w' => e = .returned (.int .i64 (ordL l m)) ∧ Below w.heap.size w w' := by
  have H1 : Hid (∀ i, i < l.length → ∃ b o, a = some ⟨b, o, none⟩ ∧ b < w.heap.size ∧ w.cell? ⟨b, o + i, none⟩ = some (.int .u64 (l.getD i 0))) := fun i hi => h.at i hi
  have H2 : Hid (∀ i, i < m.length → ∃ b o, a' = some ⟨b, o, none⟩ ∧ b < w.heap.size ∧ w.cell? ⟨b, o + i, none⟩ = some (.int .u64 (m.getD i 0))) := fun i hi => h'.at i hi
  have H3 : Hid (∀ i, isU64 (l.getD i 0) ∧ isU64 (m.getD i 0)) := fun i => ⟨isU64_getD hl i, isU64_getD hm i⟩
  have HS : Hid (∀ i, i < l.length → i < m.length → ordL (l.drop i) (m.drop i) = if ordI (l.getD i 0) (m.getD i 0) = 0 then ordL (l.drop (i + 1)) (m.drop (i + 1)) else ordI (l.getD i 0) (m.getD i 0)) := fun i h1 h2 => ordL_step h1 h2
  have HO1 : Hid (∀ i, l.length ≤ i → i < m.length → ordL (l.drop i) (m.drop i) = -1) := fun i h1 h2 => ordL_out1 h1 h2
  have HO2 : Hid (∀ i, i < l.length → m.length ≤ i → ordL (l.drop i) (m.drop i) = 1) := fun i h1 h2 => ordL_out2 h1 h2
  have HO : Hid (∀ i, l.length ≤ i → m.length ≤ i → ordL (l.drop i) (m.drop i) = 0) := fun i h1 h2 => ordL_out h1 h2
  have H0 : Hid (ordL l m = ordL (l.drop 0) (m.drop 0)) := rfl
  obtain ⟨O, hO⟩ : ∃ O : Nat → Int, ∀ i, ordL (l.drop i) (m.drop i) = O i := ⟨_, fun _ => rfl⟩
  simp only [hO] at HS HO1 HO2 HO H0
  generalize ordL l m = R at *
  clear h h' hl hm hO
  obtain ⟨L, hL⟩ : ∃ L : Nat → Int, ∀ i, l.getD i 0 = L i := ⟨_, fun _ => rfl⟩
  obtain ⟨M, hM⟩ : ∃ M : Nat → Int, ∀ i, m.getD i 0 = M i := ⟨_, fun _ => rfl⟩
  simp only [hL, hM] at H1 H2 H3 HS
  clear hL hM
  generalize l.length = n at *
  generalize m.length = k at *
  go_enter Try.func34, Try.ntmps34
  go_wp2_with fail
  have X := (Box3.new w 64 (.int .u32 ar) (.int .u32 nr) (.slice a n cap)).alloc (.cells #[.int .u32 ar, .int .u32 nr, .slice a' k cap'] 64)
  have Y := Box3.new (w.alloc (.cells #[.int .u32 ar, .int .u32 nr, .slice a n cap] 64)) 64 (.int .u32 ar) (.int .u32 nr) (.slice a' k cap')
  have hsz : (w.alloc (.cells #[.int .u32 ar, .int .u32 nr, .slice a n cap] 64)).heap.size = w.heap.size + 1 := by simp
  have B0 : Below w.heap.size w ((w.alloc (.cells #[.int .u32 ar, .int .u32 nr, .slice a n cap] 64)).alloc (.cells #[.int .u32 ar, .int .u32 nr, .slice a' k cap'] 64)) := ((Below.refl _ _).alloc (Nat.le_refl _) _).alloc (by simp) _
  rw [hsz] at Y
  generalize (w.alloc (.cells #[.int .u32 ar, .int .u32 nr, .slice a n cap] 64)).alloc (.cells #[.int .u32 ar, .int .u32 nr, .slice a' k cap'] 64) = W at *
  clear hsz
  obtain ⟨_, x0, x1, x2, _, _, _⟩ := X
  obtain ⟨_, y0, y1, y2, _, _, _⟩ := Y
  go_loopw [5] (fun i wr => ∃ j q : Nat, j ≤ n ∧ j ≤ k ∧ i = .int .i64 j ∧ wr = W.drewN q ∧ Hid (R = O j)) (fun i _ => n - (intOf i).toNat)
  case atStart => exact ⟨0, 0, by omega, by omega, rfl, rfl, H0⟩
  case round =>
    obtain ⟨j, q, hj, hjk, rfl, rfl, HR⟩ := hrel
    have Bq : Below w.heap.size w (W.drewN q) := below_drewN B0 q
    by_cases h1 : j < n
    · obtain ⟨b, o, ha, hb, c1⟩ := H1.out j h1
      subst ha
      by_cases h2 : j < k
      · obtain ⟨b', o', ha', hb', c2⟩ := H2.out j h2
        subst ha'
        have d1 := (B0.cell (p := ⟨b, _, none⟩) hb).trans c1
        have d2 := (B0.cell (p := ⟨b', _, none⟩) hb').trans c2
        obtain ⟨⟨u0, u1⟩, ⟨t0, t1⟩⟩ := H3.out j
        have HS1 : Hid _ := HS.out j h1 h2
        have h1' : (j : Int) < n := by omega
        have h2' : (j : Int) < k := by omega
        clear H1 H2 H3 HS HO1 HO2 HO H0 c1 c2
        have HBw : Hid (∀ p : Nat, Below w.heap.size w ((W.drewN q).drewN p)) := fun p => below_drewN Bq p
        rcases Int.lt_trichotomy (L j) (M j) with h3 | h3 | h3
        · have e1 : Hid (R = -1) := by show _ = _; rw [HR.out, HS1.out, ordI_neg h3]; rfl
          clear HS1 HR
          generalize L j = xx at *
          generalize M j = yy at *
          go_wp2_with fail
          go_quiet (fail)
          go_wp2
          go_ret
          exact ⟨ret_int e1.out.symm, HBw.out _⟩
        · have e1 : Hid (R = O (j + 1)) := by show _ = _; rw [HR.out, HS1.out, if_pos (ordI_same h3)]
          clear HS1 HR
          rw [h3] at d1
          generalize L j = xx at *
          generalize M j = yy at *
          go_wp2_with fail
          go_quiet (fail)
          go_wp2_with fail
          go_quiet (fail)
          go_wp2
          go_roundw
          case rel => exact ⟨j + 1, _, by omega, by omega, by go_num, rfl, e1⟩
          case measure => simp [intOf]; omega
        · have e1 : Hid (R = 1) := by show _ = _; rw [HR.out, HS1.out, ordI_pos h3]; rfl
          have h3' : ¬ L j < M j := by omega
          clear HS1 HR
          generalize L j = xx at *
          generalize M j = yy at *
          go_wp2_with fail
          go_quiet (fail)
          go_wp2_with fail
          go_quiet (fail)
          go_wp2
          go_ret
          exact ⟨ret_int e1.out.symm, below_drewN (HBw.out _) _⟩
      · have E1 : Hid (R = 1) := HR.out.trans (HO2.out j h1 (by omega))
        have h1' : (j : Int) < n := by omega
        have h2' : ¬ (j : Int) < k := by omega
        have h3 : ¬ (n : Int) < k := by omega
        have h4 : (k : Int) < n := by omega
        clear H1 H2 H3 HS HO1 HO2 HO H0 HR c1
        go_wp2
        go_ret
        exact ⟨ret_int E1.out.symm, Bq⟩
    · have h1' : ¬ (j : Int) < n := by omega
      by_cases h2 : j < k
      · have E1 : Hid (R = -1) := HR.out.trans (HO1.out j (by omega) h2)
        have h3 : (n : Int) < k := by omega
        clear H1 H2 H3 HS HO1 HO2 HO H0 HR
        go_wp2
        go_ret
        exact ⟨ret_int E1.out.symm, Bq⟩
      · have E1 : Hid (R = 0) := HR.out.trans (HO.out j (by omega) (by omega))
        have h3 : ¬ (n : Int) < k := by omega
        have h4 : ¬ (k : Int) < n := by omega
        clear H1 H2 H3 HS HO1 HO2 HO H0 HR
        go_wp2
        go_ret
        exact ⟨ret_int E1.out.symm, Bq⟩

theorem l2order_any (c d : C) (a a' : Option Addr) (cap cap' : Nat) (w : World) (h : USrc w a c.args) (h' : USrc w a' d.args) (hc : c.ok) (hd : d.ok) (hn : c.args.length ≤ 16777216) (hn' : d.args.length ≤ 16777216) :
    Calls Try.prog 34 #[callV c (.slice a c.args.length cap), callV d (.slice a' d.args.length cap')] w fun e w' => e = .returned (.int .i64 (ordC c d)) ∧ Below w.heap.size w w' := by
  by_cases h1 : c.arch = d.arch
  · by_cases h2 : c.nr = d.nr
    · rw [ordC_args h1 h2]
      obtain ⟨ar, nr, args⟩ := c
      obtain ⟨ar', nr', args'⟩ := d
      simp only at *
      subst h1 h2
      exact l2order_near ar nr args args' a a' cap cap' w h h' hc.2.2.2.2 hd.2.2.2.2 hn hn'
    · exact l2order_far c d _ _ w hc hd (.inr h2)
  · exact l2order_far c d _ _ w hc hd (.inl h1)
end Go.Proofs.Ytpbljegjinjmnaa
