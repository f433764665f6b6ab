/-
  LpgK, Ord, LpgL
-/
import Derived.Test.YtljhccolmcoifaaGreatQ17
import Derived.Sort.QuietIn
import Derived.Test.YtljhccolmcoifaaGreatQ23
import Derived.Test.YtljhccolmcoifaaGreatQ11
import Derived.Test.YtljhccolmcoifaaGreatQ02
import Derived.Deep.QuietTactic
import Derived.BigQuiet
namespace Go.Proofs.YtljhccolmcoifaaGreat
open Go.RowKit Go.Shelf
set_option linter.unusedVariables false
set_option linter.unusedSimpArgs false

attribute [local go_sem] Oper.semAt_some

set_option maxRecDepth 100000 in
set_option maxHeartbeats 4000000 in
theorem chunk1_in (n : Nat) (hn : 1 ≤ n) (l Bs Bn n₀ b o len cap : Nat) (h1 : len ≤ 1000) (hcap : len ≤ cap) (hBs : Bs < n₀) (hBn : Bn < n₀) (J Jx : List Nat → World → Prop)
    (hY : ∀ pre x W, J pre W → pre.length < len → YieldAt Fence.wide (n - 1) Tryz.prog l #[chV b o x] W fun e W' =>
      (e = .returned (.bool true) ∧ J (pre ++ [x]) W' ∧ KpS n₀ W W') ∨ (e = .returned (.bool false) ∧ Jx (pre ++ [x]) W'))
    (W : World) (hJ : AbidesFrom W.heap.size J) (c0 : W.cell? ⟨Bs, 0, none⟩ = some (.slice (some ⟨b, o, none⟩) len cap)) (c1 : W.cell? ⟨Bn, 0, none⟩ = some (.int .i64 1)) (h0 : J [] W) :
    CallsIn Fence.wide n Tryz.prog 83 #[.func (.yield l) #[] #[], .pointer (some ⟨Bs, 0, none⟩), .pointer (some ⟨Bn, 0, none⟩)] W fun e W' => (∃ v, e = .returned v) ∧
      ((∃ ys, ys = List.range len ∧ J ys W') ∨ (∃ pre, True ∧ Jx pre W')) := by
  have HC : Hid (∀ wr, Below n₀ W wr → wr.cell? ⟨Bs, 0, none⟩ = some (.slice (some ⟨b, o, none⟩) len cap) ∧ wr.cell? ⟨Bn, 0, none⟩ = some (.int .i64 1)) := fun wr h => ⟨(h.cell (p := ⟨Bs, 0, none⟩) hBs).trans c0, (h.cell (p := ⟨Bn, 0, none⟩) hBn).trans c1⟩
  clear c0 c1
  have HD : Hid (∀ s A nq, J s A → J s (A.drewN nq)) := fun s A nq h => hJ s A _ none h ⟨rfl, rfl, rfl, Nat.le_refl _, fun _ _ _ => rfl⟩ (fun r e => by cases e)
  refine callsIn_of_wp Tryz.func83 rfl trivial ?_ rfl
  simp only [Tryz.ntmps83, List.size_toArray, List.length_cons, List.length_nil, Nat.reduceAdd, Nat.reduceSub, Array.replicate_succ, Array.replicate_zero, List.push_toArray, List.append_toArray, List.nil_append, List.cons_append]
  gi_wp2
  gi_loopw [4] (fun i wr => ∃ k : Nat, k ≤ len ∧ i = .int .i64 k ∧ J (List.range k) wr ∧ Below n₀ W wr) (fun i _ => len - (intOf i).toNat)
  case atStart => exact ⟨0, Nat.zero_le _, rfl, h0, Below.refl _ _⟩
  case round =>
    obtain ⟨k, hk, rfl, hJs, hB⟩ := hrel
    obtain ⟨c0, c1⟩ := HC.out wr hB
    by_cases hlt : k < len
    · have hlt' : (k : Int) < (len : Int) := by omega
      have hk1 : k ≤ len := by omega
      have hk2 : (k : Int) ≤ (len : Int) := by omega
      have hk3 : k ≤ cap := by omega
      have hk4 : (k : Int) ≤ (cap : Int) := by omega
      gi_wp2
      gi_quiet (fail)
      have hmin : min (1 : Int) ((len - k : Nat) : Int) = 1 := by omega
      simp only [hmin]
      have hJ2 := HD.out _ _ nq hJs
      have hB2 : Below n₀ W (wr.drewN nq) := ⟨hB.os, hB.tape, hB.output, hB.size, hB.block⟩
      clear hB hJs c0 c1
      generalize wr.drewN nq = W2 at *
      obtain ⟨c0, c1⟩ := HC.out W2 hB2
      obtain ⟨fn, tmps, assign, body, hy, hR⟩ := hY _ k W2 hJ2 (by simp; exact hlt)
      dsimp only [chV] at hy
      have hs1 : k + 1 ≤ len := by omega
      have hs2 : k + 1 ≤ cap := by omega
      have hs3 : ((k : Int) + 1) ≤ (cap : Int) := by omega
      have hs4 : k + 1 - k = 1 := by omega
      clear hY
      gi_wp2
      refine hR.mono ?_
      rintro e W3 (⟨rfl, hJ4, hk4⟩ | ⟨rfl, hJx4⟩)
      · have hB3 := hB2.trans hk4.1
        obtain ⟨c0', c1'⟩ := HC.out W3 hB3
        gi_wp2
        go_roundw
        case rel => exact ⟨k + 1, by omega, by go_num, by rw [List.range_succ]; exact hJ4, hB3⟩
        case measure => simp [intOf]; omega
      · gi_wp2
        refine bodyPost_ret (results_none rfl _ _ _) rfl ?_
        exact ⟨⟨_, rfl⟩, .inr ⟨_, trivial, hJx4⟩⟩
    · obtain rfl : k = len := by omega
      have hlt' : ¬ (k : Int) < (k : Int) := by omega
      clear HC HD
      gi_wp2
      go_end0
      exact ⟨⟨_, rfl⟩, .inl hJs⟩

theorem chunk_stops (n : Nat) (hn : 1 ≤ n) (Bs Bn n₀ b o len cap : Nat) (h1 : len ≤ 1000) (hcap : len ≤ cap) (hBs : Bs < n₀) (hBn : Bn < n₀) (w : World) (hBs' : Bs < w.heap.size) (hBn' : Bn < w.heap.size) (c0 : w.cell? ⟨Bs, 0, none⟩ = some (.slice (some ⟨b, o, none⟩) len cap)) (c1 : w.cell? ⟨Bn, 0, none⟩ = some (.int .i64 1)) :
    SeqStopsK Fence.wide n Tryz.prog 83 #[.pointer (some ⟨Bs, 0, none⟩), .pointer (some ⟨Bn, 0, none⟩)] (fun x : Nat => #[chV b o x]) (KpS n₀) (fun ys => ys = List.range len) (fun _ => True) len w := fun l J Jx W hW hJ _ hY h0 =>
  chunk1_in n hn l Bs Bn n₀ b o len cap h1 hcap hBs hBn J Jx hY W hJ ((hW.cell (p := ⟨Bs, 0, none⟩) hBs').trans c0) ((hW.cell (p := ⟨Bn, 0, none⟩) hBn').trans c1) h0

set_option maxHeartbeats 1000000 in
theorem chunk_any (a : Option Addr) (len cap : Nat) (w : World) :
    Calls Tryz.prog 62 #[.slice a len cap, .int .i64 1] w fun e w' => e = .returned (.func (.func 83) #[] #[.pointer (some ⟨w.heap.size, 0, none⟩), .pointer (some ⟨w.heap.size + 1, 0, none⟩)]) ∧ w' = (w.alloc (.cells #[.slice a len cap] 64)).alloc (.cells #[.int .i64 1] 3) := by
  go_enter Tryz.func62, Tryz.ntmps62
  go_wp2
  go_ret
  exact ⟨rfl, rfl⟩

/-- a list of lists: the slices of an array -/
def PG (w : World) (b o : Nat) (g : List La) : Prop := ∃ a cap, w.cell? ⟨b, o, none⟩ = some (.slice a g.length cap) ∧ LSrc 6 PA w a g
theorem PG.stays : Stays PG := fun w w' b o g hlt hb ⟨a, cap, h1, h2⟩ => ⟨a, cap, (hb.cell (p := ⟨b, o, none⟩) hlt).trans h1, h2.below PA.stays hb⟩
def GrpP (gs : List (List La)) (w : World) (e : Ending) (w' : World) : Prop := ∃ a cap, e = .returned (.slice a gs.length cap) ∧ LSrc 1 PG w' a gs ∧ Below w.heap.size w w'
theorem chunk_map (b o : Nat) : ∀ l : List Nat, l.flatMap (cLq b o) = l.map (chV b o)
  | [] => rfl
  | a :: r => by rw [List.flatMap_cons, chunk_map b o r]; rfl
theorem chunks_src {t : List La} {b o : Nat} {w w' : World} {v : Value} (hs : LSrc 6 PA w (some ⟨b, o, none⟩) t) (hB : Below w.heap.size w w') {B : Nat} (hv : w'.ownsRow B 64 1 v (List.range t.length).length ((List.range t.length).flatMap (cLq b o))) : ∃ a cap, v = .slice a (t.map fun x => [x]).length cap ∧ LSrc 1 PG w' a (t.map fun x => [x]) := by
  have hl : (List.range t.length).length = t.length := List.length_range
  rw [hl] at hv
  obtain ⟨av, cv, rfl⟩ := form_nil hv
  refine ⟨av, cv, by rw [List.length_map], ?_⟩
  rcases hs with rfl | ⟨b', o', e, hlt, hA⟩
  · exact .inl rfl
  cases e
  obtain ⟨_, ⟨h1, h2⟩ | ⟨g, cap, cur, h1, h2, h3, h4, h5, h6, h7⟩⟩ := hv
  · left; simpa using h2
  · cases h1
    refine .inr ⟨g, 0, rfl, (Array.getElem?_eq_some_iff.1 h3).1, fun i hi => ?_⟩
    rw [List.length_map] at hi
    have hc : w'.cell? ⟨g, 0 + i * 1, none⟩ = some (chV b o i) := by
      rw [cell_of_row w' g _ cur _ _ h3, Nat.zero_add, Nat.mul_one, ← Array.getElem?_toList, ← List.getElem?_take_of_lt (show i < t.length * 1 by omega), h7]
      rw [chunk_map, List.getElem?_map, List.getElem?_range hi]; rfl
    rw [List.getElem_map]
    refine ⟨_, _, hc, .inr ⟨b, o + i * 6, rfl, by have := hB.size; omega, fun j hj => ?_⟩⟩
    obtain rfl : j = 0 := by simp at hj; omega
    rw [Nat.zero_mul, Nat.add_zero]
    exact PA.stays w w' b _ _ hlt hB (hA i hi)
end Go.Proofs.YtljhccolmcoifaaGreat
namespace Go.Proofs.YtljhccolmcoifaaGreat
open Go.RowKit
set_option linter.unusedVariables false

set_option maxHeartbeats 1000000 in
theorem isNaN32_any (x : Int) (w : World) : Calls Tryz.prog 80 #[.int .u32 x] w fun e w' => e = .returned (.bool false) ∧ w' = w := by
  go_enter Tryz.func80, Tryz.ntmps80
  go_wp2
  go_ret
  exact ⟨rfl, rfl⟩
set_option maxHeartbeats 1000000 in
theorem isNaN64_any (x : Int) (w : World) : Calls Tryz.prog 87 #[.int .u64 x] w fun e w' => e = .returned (.bool false) ∧ w' = w := by
  go_enter Tryz.func87, Tryz.ntmps87
  go_wp2
  go_ret
  exact ⟨rfl, rfl⟩
theorem ordI_neg {x y : Int} (h : x < y) : ordI x y = -1 := by unfold ordI; rw [if_pos h]
theorem ordI_pos {x y : Int} (h : y < x) : ordI x y = 1 := by unfold ordI; rw [if_neg (by omega), if_pos h]
theorem ordI_same {x y : Int} (h : x = y) : ordI x y = 0 := by unfold ordI; rw [if_neg (by omega), if_neg (by omega)]
set_option maxRecDepth 100000 in
set_option maxHeartbeats 1000000 in
theorem cmp32_any (x y : Int) (w : World) (hx : 0 ≤ x ∧ x ≤ 4294967295) (hy : 0 ≤ y ∧ y ≤ 4294967295) : Calls Tryz.prog 55 #[.int .u32 x, .int .u32 y] w fun e w' => e = .returned (.int .i64 (ordI x y)) ∧ w' = w := by
  rcases Int.lt_trichotomy x y with h | h | h
  · rw [ordI_neg h]
    go_enter Tryz.func55, Tryz.ntmps55
    go_wp2_with (go_at_call 80; refine (isNaN32_any _ _).mono ?_; rintro e w' ⟨rfl, rfl⟩)
    go_ret
    exact ⟨rfl, rfl⟩
  · rw [ordI_same h]
    subst h
    go_enter Tryz.func55, Tryz.ntmps55
    go_wp2_with (go_at_call 80; refine (isNaN32_any _ _).mono ?_; rintro e w' ⟨rfl, rfl⟩)
    go_ret
    exact ⟨rfl, rfl⟩
  · rw [ordI_pos h]
    go_enter Tryz.func55, Tryz.ntmps55
    go_wp2_with (go_at_call 80; refine (isNaN32_any _ _).mono ?_; rintro e w' ⟨rfl, rfl⟩)
    go_ret
    exact ⟨rfl, rfl⟩
set_option maxRecDepth 100000 in
set_option maxHeartbeats 1000000 in
theorem cmp64_any (x y : Int) (w : World) (hx : isU64 x) (hy : isU64 y) : Calls Tryz.prog 64 #[.int .u64 x, .int .u64 y] w fun e w' => e = .returned (.int .i64 (ordI x y)) ∧ w' = w := by
  obtain ⟨x0, x1⟩ := hx
  obtain ⟨y0, y1⟩ := hy
  rcases Int.lt_trichotomy x y with h | h | h
  · rw [ordI_neg h]
    go_enter Tryz.func64, Tryz.ntmps64
    go_wp2_with (go_at_call 87; refine (isNaN64_any _ _).mono ?_; rintro e w' ⟨rfl, rfl⟩)
    go_ret
    exact ⟨rfl, rfl⟩
  · rw [ordI_same h]
    subst h
    go_enter Tryz.func64, Tryz.ntmps64
    go_wp2_with (go_at_call 87; refine (isNaN64_any _ _).mono ?_; rintro e w' ⟨rfl, rfl⟩)
    go_ret
    exact ⟨rfl, rfl⟩
  · rw [ordI_pos h]
    go_enter Tryz.func64, Tryz.ntmps64
    go_wp2_with (go_at_call 87; refine (isNaN64_any _ _).mono ?_; rintro e w' ⟨rfl, rfl⟩)
    go_ret
    exact ⟨rfl, rfl⟩

/-- lists from number i on -/
theorem ordL_step {l m : List Int} {i : Nat} (hl : i < l.length) (hm : i < m.length) : ordL (l.drop i) (m.drop i) = if ordI (l.getD i 0) (m.getD i 0) = 0 then ordL (l.drop (i + 1)) (m.drop (i + 1)) else ordI (l.getD i 0) (m.getD i 0) := by
  rw [List.drop_eq_getElem_cons hl, List.drop_eq_getElem_cons hm, ordL]
  simp [List.getD_eq_getElem?_getD, hl, hm]
theorem ordL_out1 {l m : List Int} {i : Nat} (hl : l.length ≤ i) (hm : i < m.length) : ordL (l.drop i) (m.drop i) = -1 := by
  rw [List.drop_eq_nil_of_le hl, List.drop_eq_getElem_cons hm]; rfl
theorem ordL_out2 {l m : List Int} {i : Nat} (hl : i < l.length) (hm : m.length ≤ i) : ordL (l.drop i) (m.drop i) = 1 := by
  rw [List.drop_eq_nil_of_le hm, List.drop_eq_getElem_cons hl]; rfl
theorem ordL_out {l m : List Int} {i : Nat} (hl : l.length ≤ i) (hm : m.length ≤ i) : ordL (l.drop i) (m.drop i) = 0 := by
  rw [List.drop_eq_nil_of_le hm, List.drop_eq_nil_of_le hl]; rfl
theorem USrc.at {w : World} {a : Option Addr} {l : List Int} (h : USrc w a l) (i : Nat) (hi : i < l.length) : ∃ b o, a = some ⟨b, o, none⟩ ∧ b < w.heap.size ∧ w.cell? ⟨b, o + i, none⟩ = some (.int .u64 (l.getD i 0)) := by
  rcases h with rfl | ⟨b, o, ha, hb, hp⟩
  · simp at hi
  · exact ⟨b, o, ha, hb, hp i hi⟩
theorem isU64_getD {l : List Int} (h : ∀ v ∈ l, isU64 v) (i : Nat) : isU64 (l.getD i 0) := by
  by_cases hi : i < l.length
  · exact h _ (by rw [List.getD_eq_getElem?_getD, List.getElem?_eq_getElem hi]; exact List.getElem_mem hi)
  · rw [List.getD_eq_getElem?_getD, List.getElem?_eq_none (by omega)]; exact ⟨by decide, by decide⟩

set_option maxRecDepth 100000 in
set_option maxHeartbeats 1000000 in
theorem slicesCompare_any (a a' : Option Addr) (cap cap' : Nat) (l m : List Int) (w : World) (h : USrc w a l) (h' : USrc w a' m) (hl : ∀ v ∈ l, isU64 v) (hm : ∀ v ∈ m, isU64 v) (hn : l.length ≤ 16777216) (hn' : m.length ≤ 16777216) :
    Calls Tryz.prog 59 #[.slice a l.length cap, .slice a' m.length cap'] w fun e w' => e = .returned (.int .i64 (ordL l m)) ∧ w' = w := by
  have H1 : Hid (∀ i, i < l.length → ∃ b o, a = some ⟨b, o, none⟩ ∧ b < w.heap.size ∧ w.cell? ⟨b, o + i, none⟩ = some (.int .u64 (l.getD i 0))) := fun i hi => h.at i hi
  have H2 : Hid (∀ i, i < m.length → ∃ b o, a' = some ⟨b, o, none⟩ ∧ b < w.heap.size ∧ w.cell? ⟨b, o + i, none⟩ = some (.int .u64 (m.getD i 0))) := fun i hi => h'.at i hi
  have H3 : Hid (∀ i, isU64 (l.getD i 0) ∧ isU64 (m.getD i 0)) := fun i => ⟨isU64_getD hl i, isU64_getD hm i⟩
  have HS : Hid (∀ i, i < l.length → i < m.length → ordL (l.drop i) (m.drop i) = if ordI (l.getD i 0) (m.getD i 0) = 0 then ordL (l.drop (i + 1)) (m.drop (i + 1)) else ordI (l.getD i 0) (m.getD i 0)) := fun i h1 h2 => ordL_step h1 h2
  have HO1 : Hid (∀ i, l.length ≤ i → i < m.length → ordL (l.drop i) (m.drop i) = -1) := fun i h1 h2 => ordL_out1 h1 h2
  have HO2 : Hid (∀ i, i < l.length → m.length ≤ i → ordL (l.drop i) (m.drop i) = 1) := fun i h1 h2 => ordL_out2 h1 h2
  have HO : Hid (∀ i, l.length ≤ i → m.length ≤ i → ordL (l.drop i) (m.drop i) = 0) := fun i h1 h2 => ordL_out h1 h2
  have H0 : Hid (ordL l m = ordL (l.drop 0) (m.drop 0)) := rfl
  obtain ⟨O, hO⟩ : ∃ O : Nat → Int, ∀ i, ordL (l.drop i) (m.drop i) = O i := ⟨_, fun _ => rfl⟩
  simp only [hO] at HS HO1 HO2 HO H0
  generalize ordL l m = R at *
  clear h h' hl hm hO
  generalize l.length = n at *
  generalize m.length = k at *
  go_enter Tryz.func59, Tryz.ntmps59
  go_wp2_with fail
  go_loopw [11] (fun i wr => ∃ j : Nat, j ≤ n ∧ j ≤ k ∧ i = .int .i64 j ∧ wr = w ∧ Hid (R = O j)) (fun i _ => n - (intOf i).toNat)
  case atStart => exact ⟨0, by omega, by omega, rfl, rfl, H0⟩
  case round =>
    obtain ⟨j, hj, hjk, rfl, rfl, HR⟩ := hrel
    by_cases h1 : j < n
    · obtain ⟨b, o, ha, hb, c1⟩ := H1.out j h1
      subst ha
      by_cases h2 : j < k
      · obtain ⟨b', o', ha', hb', c2⟩ := H2.out j h2
        subst ha'
        have HC : Hid (∀ w, Calls Tryz.prog 64 #[.int .u64 (l.getD j 0), .int .u64 (m.getD j 0)] w fun e w' => e = .returned (.int .i64 (ordI (l.getD j 0) (m.getD j 0))) ∧ w' = w) := fun w => cmp64_any _ _ w (H3.out j).1 (H3.out j).2
        have HS1 : Hid _ := HS.out j h1 h2
        clear H1 H2 H3 HS HO1 HO2 HO H0
        generalize ordI (l.getD j 0) (m.getD j 0) = q at *
        generalize l.getD j 0 = x at *
        generalize m.getD j 0 = y at *
        by_cases hq : q = 0
        · have e1 := HS1.out
          rw [if_pos hq] at e1
          have HR2 : Hid (R = O (j + 1)) := HR.out.trans e1
          clear HS1 e1 HR
          subst hq
          go_wp2_with fail
          refine (HC.out _).mono ?_
          rintro e w1 ⟨rfl, rfl⟩
          go_wp2
          go_roundw
          case rel => exact ⟨j + 1, by omega, by omega, by go_num, trivial, HR2⟩
          case measure => simp [intOf]; omega
        · have e1 := HS1.out
          rw [if_neg hq] at e1
          have HR2 : Hid (R = q) := HR.out.trans e1
          have hq' : (q != 0) = true := by simpa using hq
          clear HS1 e1 HR
          go_wp2_with fail
          refine (HC.out _).mono ?_
          rintro e w1 ⟨rfl, rfl⟩
          go_wp2
          go_ret
          exact ⟨ret_int HR2.out.symm, rfl⟩
      · have e1 := HR.out.trans (HO2.out j h1 (by omega))
        clear H1 H2 H3 HS HO1 HO2 HO H0 HR
        generalize l.getD j 0 = x at *
        go_wp2
        go_ret
        exact ⟨ret_int e1.symm, rfl⟩
    · by_cases h2 : j < k
      · have e1 := HR.out.trans (HO1.out j (by omega) h2)
        clear H1 H2 H3 HS HO1 HO2 HO H0 HR
        have h3 : (n : Int) < k := by omega
        go_wp2
        go_ret
        exact ⟨ret_int e1.symm, rfl⟩
      · have e1 := HR.out.trans (HO.out j (by omega) (by omega))
        clear H1 H2 H3 HS HO1 HO2 HO H0 HR
        have h3 : ¬ (n : Int) < k := by omega
        have E1 : Hid (R = 0) := e1
        clear e1
        go_wp2
        go_ret
        exact ⟨ret_int E1.out.symm, rfl⟩
end Go.Proofs.YtljhccolmcoifaaGreat
namespace Go.Proofs.YtljhccolmcoifaaGreat
open Go.RowKit Go.Deep
set_option linter.unusedVariables false
set_option linter.unusedSimpArgs false

set_option maxHeartbeats 1000000 in
theorem isNaNS_any (x : Int) (w : World) : Calls Tryz.prog 116 #[.int .u64 x] w fun e w' => e = .returned (.bool false) ∧ w' = w := by
  go_enter Tryz.func116, Tryz.ntmps116
  go_wp2
  go_ret
  exact ⟨by simp, rfl⟩
set_option maxHeartbeats 1000000 in
theorem less64_any (x y : Int) (w : World) : Calls Tryz.prog 115 #[.int .u64 x, .int .u64 y] w fun e w' => e = .returned (.bool (decide (x < y))) ∧ w' = w := by
  go_enter Tryz.func115, Tryz.ntmps115
  go_wp2_with (go_at_call 87; refine (isNaN64_any _ _).mono ?_; rintro e w' ⟨rfl, rfl⟩)
  go_ret
  exact ⟨rfl, rfl⟩

set_option maxRecDepth 100000 in
set_option maxHeartbeats 4000000 in
theorem binSearch_any (b o n cap q : Nat) (fx : Nat → Int) (w : World) (hc : ∀ j, j < n → w.cell? ⟨b, o + j, none⟩ = some (.int .u64 (fx j))) (hq : q < n) (hn : n ≤ 1000) (ha : ∀ i j, i < j → j < n → fx i < fx j) :
    Calls Tryz.prog 88 #[.slice (some ⟨b, o, none⟩) n cap, .int .u64 (fx q)] w fun e w' => e = .returned (.tuple #[.int .i64 q, .bool true]) ∧ w' = w := by
  have HA : Hid (∀ i, i < n → (fx i < fx q ↔ i < q)) := fun i hi => by
    rcases Nat.lt_trichotomy i q with h | h | h
    · exact ⟨fun _ => h, fun _ => ha i q h hq⟩
    · subst h; omega
    · have := ha q i h hi; omega
  clear ha
  go_enter Tryz.func88, Tryz.ntmps88
  go_wp2_with fail
  go_loopw [7, 8] (fun s7 s8 wr => ∃ lo hi : Nat, s7 = .int .i64 lo ∧ s8 = .int .i64 hi ∧ lo ≤ q ∧ q ≤ hi ∧ hi ≤ n ∧ wr = w) (fun s7 s8 _ => (intOf s8 - intOf s7).toNat)
  case atStart => exact ⟨0, n, rfl, rfl, by omega, by omega, by omega, rfl⟩
  case round =>
    obtain ⟨lo, hi, rfl, rfl, h1, h2, h3, rfl⟩ := hrel
    by_cases hlt : lo < hi
    · have hlt' : (lo : Int) < (hi : Int) := by omega
      have hh : (lo + hi) / 2 < n := by omega
      have cm := hc ((lo + hi) / 2) hh
      have hm := HA.out _ hh
      clear hc HA
      generalize hy : fx ((lo + hi) / 2) = y at *
      generalize fx q = x at *
      clear hy
      by_cases hyx : y < x
      · have hq2 := hm.1 hyx
        go_wp2_with (go_at_call 115; refine (less64_any _ _ _).mono ?_; rintro e w' ⟨rfl, rfl⟩)
        go_roundw
        case rel => exact ⟨(lo + hi) / 2 + 1, hi, by rw [show ((lo : Int) + (hi : Int)) / 2 + 1 = (((lo + hi) / 2 + 1 : Nat) : Int) by omega], rfl, by omega, h2, h3, trivial⟩
        case measure => simp [intOf]; omega
      · have hq2 : ¬ (lo + hi) / 2 < q := fun h => hyx (hm.2 h)
        go_wp2_with (go_at_call 115; refine (less64_any _ _ _).mono ?_; rintro e w' ⟨rfl, rfl⟩)
        go_roundw
        case rel => exact ⟨lo, (lo + hi) / 2, rfl, by rw [show ((lo : Int) + (hi : Int)) / 2 = (((lo + hi) / 2 : Nat) : Int) by omega], by omega, by omega, by omega, trivial⟩
        case measure => simp [intOf]; omega
    · obtain rfl : lo = q := by omega
      obtain rfl : hi = lo := by omega
      have hlt' : ¬ (hi : Int) < (hi : Int) := by omega
      have hq' : (hi : Int) < (n : Int) := by omega
      have c0 := hc hi hq
      clear hc HA
      go_wp2_with fail
      exact bodyPost_ret (v := .tuple #[.int .i64 hi, .bool true]) (by simp [results, Tryz.results88, go_sem]) rfl ⟨rfl, rfl⟩
end Go.Proofs.YtljhccolmcoifaaGreat
