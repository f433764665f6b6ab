/-
  CONTRACTS of the order of calls: the library's comparisons, the model's order.
-/
import Derived.Test.YtjkmcdgjhfiklaaCallL
import Derived.Test.YtjkmcdgjhfiklaaMathO
import Derived.Deep.QuietTactic
import Derived.BigQuiet
namespace Go.Proofs.Ytjkmcdgjhfiklaa
open Go.RowKit
set_option linter.unusedVariables false

set_option maxHeartbeats 1000000 in
theorem isNaN32_any (x : Int) (w : World) : Calls Try.prog 91 #[.int .u32 x] w fun e w' => e = .returned (.bool false) ∧ w' = w := by
  go_enter Try.func91, Try.ntmps91
  go_wp2
  go_ret
  exact ⟨rfl, rfl⟩
set_option maxHeartbeats 1000000 in
theorem isNaN64_any (x : Int) (w : World) : Calls Try.prog 113 #[.int .u64 x] w fun e w' => e = .returned (.bool false) ∧ w' = w := by
  go_enter Try.func113, Try.ntmps113
  go_wp2
  go_ret
  exact ⟨rfl, rfl⟩
theorem ordI_neg {x y : Int} (h : x < y) : ordI x y = -1 := by unfold ordI; rw [if_pos h]
theorem ordI_pos {x y : Int} (h : y < x) : ordI x y = 1 := by unfold ordI; rw [if_neg (by omega), if_pos h]
theorem ordI_same {x y : Int} (h : x = y) : ordI x y = 0 := by unfold ordI; rw [if_neg (by omega), if_neg (by omega)]
set_option maxRecDepth 100000 in
set_option maxHeartbeats 1000000 in
theorem cmp32_any (x y : Int) (w : World) (hx : 0 ≤ x ∧ x ≤ 4294967295) (hy : 0 ≤ y ∧ y ≤ 4294967295) : Calls Try.prog 77 #[.int .u32 x, .int .u32 y] w fun e w' => e = .returned (.int .i64 (ordI x y)) ∧ w' = w := by
  rcases Int.lt_trichotomy x y with h | h | h
  · rw [ordI_neg h]
    go_enter Try.func77, Try.ntmps77
    go_wp2_with (go_at_call 91; refine (isNaN32_any _ _).mono ?_; rintro e w' ⟨rfl, rfl⟩)
    go_ret
    exact ⟨rfl, rfl⟩
  · rw [ordI_same h]
    subst h
    go_enter Try.func77, Try.ntmps77
    go_wp2_with (go_at_call 91; refine (isNaN32_any _ _).mono ?_; rintro e w' ⟨rfl, rfl⟩)
    go_ret
    exact ⟨rfl, rfl⟩
  · rw [ordI_pos h]
    go_enter Try.func77, Try.ntmps77
    go_wp2_with (go_at_call 91; refine (isNaN32_any _ _).mono ?_; rintro e w' ⟨rfl, rfl⟩)
    go_ret
    exact ⟨rfl, rfl⟩
set_option maxRecDepth 100000 in
set_option maxHeartbeats 1000000 in
theorem cmp64_any (x y : Int) (w : World) (hx : isU64 x) (hy : isU64 y) : Calls Try.prog 104 #[.int .u64 x, .int .u64 y] w fun e w' => e = .returned (.int .i64 (ordI x y)) ∧ w' = w := by
  obtain ⟨x0, x1⟩ := hx
  obtain ⟨y0, y1⟩ := hy
  rcases Int.lt_trichotomy x y with h | h | h
  · rw [ordI_neg h]
    go_enter Try.func104, Try.ntmps104
    go_wp2_with (go_at_call 113; refine (isNaN64_any _ _).mono ?_; rintro e w' ⟨rfl, rfl⟩)
    go_ret
    exact ⟨rfl, rfl⟩
  · rw [ordI_same h]
    subst h
    go_enter Try.func104, Try.ntmps104
    go_wp2_with (go_at_call 113; refine (isNaN64_any _ _).mono ?_; rintro e w' ⟨rfl, rfl⟩)
    go_ret
    exact ⟨rfl, rfl⟩
  · rw [ordI_pos h]
    go_enter Try.func104, Try.ntmps104
    go_wp2_with (go_at_call 113; refine (isNaN64_any _ _).mono ?_; rintro e w' ⟨rfl, rfl⟩)
    go_ret
    exact ⟨rfl, rfl⟩

/-- lists from number i on -/
theorem ordL_step {l m : List Int} {i : Nat} (hl : i < l.length) (hm : i < m.length) : ordL (l.drop i) (m.drop i) = if ordI (l.getD i 0) (m.getD i 0) = 0 then ordL (l.drop (i + 1)) (m.drop (i + 1)) else ordI (l.getD i 0) (m.getD i 0) := by
  rw [List.drop_eq_getElem_cons hl, List.drop_eq_getElem_cons hm, ordL]
  simp [List.getD_eq_getElem?_getD, hl, hm]
theorem ordL_out1 {l m : List Int} {i : Nat} (hl : l.length ≤ i) (hm : i < m.length) : ordL (l.drop i) (m.drop i) = -1 := by
  rw [List.drop_eq_nil_of_le hl, List.drop_eq_getElem_cons hm]; rfl
theorem ordL_out2 {l m : List Int} {i : Nat} (hl : i < l.length) (hm : m.length ≤ i) : ordL (l.drop i) (m.drop i) = 1 := by
  rw [List.drop_eq_nil_of_le hm, List.drop_eq_getElem_cons hl]; rfl
theorem ordL_out {l m : List Int} {i : Nat} (hl : l.length ≤ i) (hm : m.length ≤ i) : ordL (l.drop i) (m.drop i) = 0 := by
  rw [List.drop_eq_nil_of_le hm, List.drop_eq_nil_of_le hl]; rfl
theorem USrc.at {w : World} {a : Option Addr} {l : List Int} (h : USrc w a l) (i : Nat) (hi : i < l.length) : ∃ b o, a = some ⟨b, o, none⟩ ∧ b < w.heap.size ∧ w.cell? ⟨b, o + i, none⟩ = some (.int .u64 (l.getD i 0)) := by
  rcases h with rfl | ⟨b, o, ha, hb, hp⟩
  · simp at hi
  · exact ⟨b, o, ha, hb, hp i hi⟩
theorem isU64_getD {l : List Int} (h : ∀ v ∈ l, isU64 v) (i : Nat) : isU64 (l.getD i 0) := by
  by_cases hi : i < l.length
  · exact h _ (by rw [List.getD_eq_getElem?_getD, List.getElem?_eq_getElem hi]; exact List.getElem_mem hi)
  · rw [List.getD_eq_getElem?_getD, List.getElem?_eq_none (by omega)]; exact ⟨by decide, by decide⟩

set_option maxRecDepth 100000 in
set_option maxHeartbeats 1000000 in
theorem slicesCompare_any (a a' : Option Addr) (cap cap' : Nat) (l m : List Int) (w : World) (h : USrc w a l) (h' : USrc w a' m) (hl : ∀ v ∈ l, isU64 v) (hm : ∀ v ∈ m, isU64 v) (hn : l.length ≤ 16777216) (hn' : m.length ≤ 16777216) :
    Calls Try.prog 85 #[.slice a l.length cap, .slice a' m.length cap'] w fun e w' => e = .returned (.int .i64 (ordL l m)) ∧ w' = w := by
  have H1 : Hid (∀ i, i < l.length → ∃ b o, a = some ⟨b, o, none⟩ ∧ b < w.heap.size ∧ w.cell? ⟨b, o + i, none⟩ = some (.int .u64 (l.getD i 0))) := fun i hi => h.at i hi
  have H2 : Hid (∀ i, i < m.length → ∃ b o, a' = some ⟨b, o, none⟩ ∧ b < w.heap.size ∧ w.cell? ⟨b, o + i, none⟩ = some (.int .u64 (m.getD i 0))) := fun i hi => h'.at i hi
  have H3 : Hid (∀ i, isU64 (l.getD i 0) ∧ isU64 (m.getD i 0)) := fun i => ⟨isU64_getD hl i, isU64_getD hm i⟩
  have HS : Hid (∀ i, i < l.length → i < m.length → ordL (l.drop i) (m.drop i) = if ordI (l.getD i 0) (m.getD i 0) = 0 then ordL (l.drop (i + 1)) (m.drop (i + 1)) else ordI (l.getD i 0) (m.getD i 0)) := fun i h1 h2 => ordL_step h1 h2
  have HO1 : Hid (∀ i, l.length ≤ i → i < m.length → ordL (l.drop i) (m.drop i) = -1) := fun i h1 h2 => ordL_out1 h1 h2
  have HO2 : Hid (∀ i, i < l.length → m.length ≤ i → ordL (l.drop i) (m.drop i) = 1) := fun i h1 h2 => ordL_out2 h1 h2
  have HO : Hid (∀ i, l.length ≤ i → m.length ≤ i → ordL (l.drop i) (m.drop i) = 0) := fun i h1 h2 => ordL_out h1 h2
  have H0 : Hid (ordL l m = ordL (l.drop 0) (m.drop 0)) := rfl
  obtain ⟨O, hO⟩ : ∃ O : Nat → Int, ∀ i, ordL (l.drop i) (m.drop i) = O i := ⟨_, fun _ => rfl⟩
  simp only [hO] at HS HO1 HO2 HO H0
  generalize ordL l m = R at *
  clear h h' hl hm hO
  generalize l.length = n at *
  generalize m.length = k at *
  go_enter Try.func85, Try.ntmps85
  go_wp2_with fail
  go_loopw [11] (fun i wr => ∃ j : Nat, j ≤ n ∧ j ≤ k ∧ i = .int .i64 j ∧ wr = w ∧ Hid (R = O j)) (fun i _ => n - (intOf i).toNat)
  case atStart => exact ⟨0, by omega, by omega, rfl, rfl, H0⟩
  case round =>
    obtain ⟨j, hj, hjk, rfl, rfl, HR⟩ := hrel
    by_cases h1 : j < n
    · obtain ⟨b, o, ha, hb, c1⟩ := H1.out j h1
      subst ha
      by_cases h2 : j < k
      · obtain ⟨b', o', ha', hb', c2⟩ := H2.out j h2
        subst ha'
        have HC : Hid (∀ w, Calls Try.prog 104 #[.int .u64 (l.getD j 0), .int .u64 (m.getD j 0)] w fun e w' => e = .returned (.int .i64 (ordI (l.getD j 0) (m.getD j 0))) ∧ w' = w) := fun w => cmp64_any _ _ w (H3.out j).1 (H3.out j).2
        have HS1 : Hid _ := HS.out j h1 h2
        clear H1 H2 H3 HS HO1 HO2 HO H0
        generalize ordI (l.getD j 0) (m.getD j 0) = q at *
        generalize l.getD j 0 = x at *
        generalize m.getD j 0 = y at *
        by_cases hq : q = 0
        · have e1 := HS1.out
          rw [if_pos hq] at e1
          have HR2 : Hid (R = O (j + 1)) := HR.out.trans e1
          clear HS1 e1 HR
          subst hq
          go_wp2_with fail
          refine (HC.out _).mono ?_
          rintro e w1 ⟨rfl, rfl⟩
          go_wp2
          go_roundw
          case rel => exact ⟨j + 1, by omega, by omega, by go_num, trivial, HR2⟩
          case measure => simp [intOf]; omega
        · have e1 := HS1.out
          rw [if_neg hq] at e1
          have HR2 : Hid (R = q) := HR.out.trans e1
          have hq' : (q != 0) = true := by simpa using hq
          clear HS1 e1 HR
          go_wp2_with fail
          refine (HC.out _).mono ?_
          rintro e w1 ⟨rfl, rfl⟩
          go_wp2
          go_ret
          exact ⟨ret_int HR2.out.symm, rfl⟩
      · have e1 := HR.out.trans (HO2.out j h1 (by omega))
        clear H1 H2 H3 HS HO1 HO2 HO H0 HR
        generalize l.getD j 0 = x at *
        go_wp2
        go_ret
        exact ⟨ret_int e1.symm, rfl⟩
    · by_cases h2 : j < k
      · have e1 := HR.out.trans (HO1.out j (by omega) h2)
        clear H1 H2 H3 HS HO1 HO2 HO H0 HR
        have h3 : (n : Int) < k := by omega
        go_wp2
        go_ret
        exact ⟨ret_int e1.symm, rfl⟩
      · have e1 := HR.out.trans (HO.out j (by omega) (by omega))
        clear H1 H2 H3 HS HO1 HO2 HO H0 HR
        have h3 : ¬ (n : Int) < k := by omega
        have E1 : Hid (R = 0) := e1
        clear e1
        go_wp2
        go_ret
        exact ⟨ret_int E1.out.symm, rfl⟩
end Go.Proofs.Ytjkmcdgjhfiklaa
