/-
  MrkB, MrkC, CondO, PolU
-/
import Derived.Test.YtoopomjkapeknaaQ22
import Derived.Test.YtoopomjkapeknaaQ07
import Derived.Test.YtoopomjkapeknaaQ08
namespace Go.Proofs.Ytoopomjkapeknaa
open Go.RowKit
set_option linter.unusedVariables false

theorem Wrote.three {w wr : World} {A : List AdK} {b o : Nat} {k q : Int} {n0 n1 n2 : Int} (h : Wrote w wr A k) (hq : q = k + A.length) (c0 : wr.cell? ⟨b, o, none⟩ = some (.int .i64 n0)) (c1 : wr.cell? ⟨b, o + 1, none⟩ = some (.int .u64 n1)) (c2 : wr.cell? ⟨b, o + 2, none⟩ = some (.int .u64 n2)) :
    Wrote w (((wr.setCell ⟨b, o, none⟩ (.int .i64 q)).setCell ⟨b, o + 1, none⟩ (.int .u64 (q + 1))).setCell ⟨b, o + 2, none⟩ (.int .u64 (q + 1 + 1))) (A ++ a3 b o) k := by
  have h1 := Wrote.one (k := q) c0
  have h2 := Wrote.one (k := q + 1) (cell_near (D := b) (i := o) (v := .int .i64 q) (by omega) c1)
  have h3 := Wrote.one (k := q + 1 + 1) (cell_near (D := b) (i := o + 1) (v := .int .u64 (q + 1)) (by omega) (cell_near (D := b) (i := o) (v := .int .i64 q) (by omega) c2))
  have h4 := (h1.trans h2 (by simp)).trans h3 (by simp; omega)
  exact h.trans h4 hq
theorem Wrote.two {w wr : World} {A : List AdK} {b o : Nat} {k q : Int} {n0 n1 : Int} (h : Wrote w wr A k) (hq : q = k + A.length) (c0 : wr.cell? ⟨b, o, none⟩ = some (.int .u32 n0)) (c1 : wr.cell? ⟨b, o + 1, none⟩ = some (.int .u32 n1)) :
    Wrote w ((wr.setCell ⟨b, o, none⟩ (.int .u32 q)).setCell ⟨b, o + 1, none⟩ (.int .u32 (q + 1))) (A ++ a2 b o) k := by
  have h1 := Wrote.one (k := q) c0
  have h2 := Wrote.one (k := q + 1) (cell_near (D := b) (i := o) (v := .int .u32 q) (by omega) c1)
  exact h.trans (h1.trans h2 (by simp)) hq
theorem ret_i {x y : Int} (h : x = y) : Ending.returned (.int .i64 x) = .returned (.int .i64 y) := by rw [h]
theorem a3_mem {b o n j : Nat} (h : j < n) : ∀ x ∈ a3 b (o + j * 3), x ∈ conA b o n := fun x hx => List.mem_flatMap.2 ⟨j, List.mem_range.2 h, hx⟩
theorem mem_flat {α : Type} {F : Nat → List α} {n i : Nat} (h : i < n) {x : α} (hx : x ∈ F i) : x ∈ (List.range n).flatMap F := List.mem_flatMap.2 ⟨i, List.mem_range.2 h, hx⟩
theorem flat_len_le {α : Type} {F : Nat → List α} {n m : Nat} (h : m ≤ n) : ((List.range m).flatMap F).length ≤ ((List.range n).flatMap F).length := by
  obtain ⟨d, rfl⟩ := Nat.le.dest h
  induction d with
  | zero => exact Nat.le_refl _
  | succ d ih =>
    rw [show m + (d + 1) = (m + d) + 1 by omega, flat_succ, List.length_append]
    have := ih (by omega)
    omega

set_option maxRecDepth 100000 in
set_option maxHeartbeats 2000000 in
theorem markConS_any (a : Option Addr) (n cap : Nat) (A : List AdK) (k : Int) (w : World) (hS : SK w a n A) (hn : A.length ≤ 8388608) (h0 : 0 ≤ k) (h1 : k ≤ 8388608) :
    Calls Try.prog 65 #[.slice a n cap, .int .i64 k] w fun e w' => e = .returned (.int .i64 (k + A.length)) ∧ Wrote w w' A k := by
  rcases hS with ⟨rfl, rfl⟩ | ⟨b, o, rfl, rfl, hI⟩
  · have W0 := Wrote.refl w k
    go_enter Try.func65, Try.ntmps65
    go_wp2_with fail
    go_loopw [1, 5] (fun q i wr => i = .int .i64 0 ∧ q = .int .i64 k ∧ wr = w) (fun _ i _ => 0)
    case atStart => exact ⟨rfl, rfl, rfl⟩
    case round =>
      obtain ⟨rfl, rfl, rfl⟩ := hrel
      go_wp2
      go_ret
      exact ⟨by simp, W0⟩
  · rw [conA_len] at hn ⊢
    go_enter Try.func65, Try.ntmps65
    go_wp2_with fail
    go_loopw [1, 5] (fun q i wr => ∃ j : Nat, j ≤ n ∧ i = .int .i64 j ∧ q = .int .i64 (k + 3 * j) ∧ Wrote w wr (conA b o j) k) (fun _ i _ => n - (intOf i).toNat)
    case atStart => exact ⟨0, by omega, rfl, by go_num, Wrote.refl w k⟩
    case round =>
      obtain ⟨j, hj, rfl, rfl, hW⟩ := hrel
      by_cases hlt : j < n
      · have hI' := hI.sim hW.sim
        obtain ⟨⟨n0, c0⟩, f0⟩ := hI' (⟨b, o + j * 3, none⟩, .i64) (a3_mem hlt _ (by simp [a3]))
        obtain ⟨⟨n1, c1⟩, f1⟩ := hI' (⟨b, o + j * 3 + 1, none⟩, .u64) (a3_mem hlt _ (by simp [a3]))
        obtain ⟨⟨n2, c2⟩, f2⟩ := hI' (⟨b, o + j * 3 + 2, none⟩, .u64) (a3_mem hlt _ (by simp [a3]))
        simp only at c0 f0 c1 f1 c2 f2
        have W2 := hW.three (q := k + 3 * j) (by rw [conA_len]; push_cast; omega) c0 c1 c2
        rw [← conA_succ] at W2
        have HW2 : Hid _ := W2
        clear W2
        have hlt' : (j : Int) < (n : Int) := by omega
        clear hI' hI hW
        go_wp2
        go_roundw
        case rel => exact ⟨j + 1, by omega, by go_num, by go_num, HW2.out⟩
        case measure => simp [intOf]; omega
      · have hjn : j = n := by omega
        subst hjn
        go_wp2
        go_ret
        exact ⟨ret_i (by push_cast; omega), hW⟩

set_option maxRecDepth 100000 in
set_option maxHeartbeats 2000000 in
theorem markRuleS_any (a : Option Addr) (n cap : Nat) (A : List AdK) (k : Int) (w : World) (hS : SR w a n A) (h0 : 0 ≤ k) (h1 : k + A.length ≤ 8388608) :
    Calls Try.prog 46 #[.slice a n cap, .int .i64 k] w fun e w' => e = .returned (.int .i64 (k + A.length)) ∧ Wrote w w' A k := by
  obtain ⟨hm, hS⟩ := hS
  rcases hS with ⟨rfl, rfl⟩ | ⟨b, o, rfl, F, rfl, hI⟩
  · have W0 := Wrote.refl w k
    go_enter Try.func46, Try.ntmps46
    go_wp2_with fail
    go_loopw [1, 5] (fun q i wr => i = .int .i64 0 ∧ q = .int .i64 k ∧ wr = w) (fun _ i _ => 0)
    case atStart => exact ⟨rfl, rfl, rfl⟩
    case round =>
      obtain ⟨rfl, rfl, rfl⟩ := hrel
      go_wp2
      go_ret
      exact ⟨by simp, W0⟩
  · have HL : Hid (∀ j, j ≤ n → ((List.range j).flatMap F).length ≤ ((List.range n).flatMap F).length) := fun j hj => flat_len_le hj
    have HI : Hid (∀ wr, Sim w wr → ∀ i, i < n → ∃ a' n' c', wr.cell? ⟨b, o + i, none⟩ = some (.slice a' n' c') ∧ SK wr a' n' (F i)) := fun wr s i hi => by
      obtain ⟨a', n', c', h4, h5⟩ := hI i hi
      exact ⟨a', n', c', s.rows _ _ _ _ h4, h5.sim s⟩
    clear hI
    go_enter Try.func46, Try.ntmps46
    go_wp2_with fail
    go_loopw [1, 5] (fun q i wr => ∃ j : Nat, j ≤ n ∧ i = .int .i64 j ∧ q = .int .i64 (k + ((List.range j).flatMap F).length) ∧ Wrote w wr ((List.range j).flatMap F) k) (fun _ i _ => n - (intOf i).toNat)
    case atStart => exact ⟨0, by omega, rfl, by simp, Wrote.refl w k⟩
    case round =>
      obtain ⟨j, hj, rfl, rfl, hW⟩ := hrel
      by_cases hlt : j < n
      · obtain ⟨a', n', c', c0, hk⟩ := HI.out wr hW.sim j hlt
        have l1 := HL.out (j + 1) (by omega)
        have es := flat_succ F j
        have HC : Hid (Calls Try.prog 65 #[.slice a' n' c', .int .i64 (k + ((List.range j).flatMap F).length)] wr fun e w' => e = .returned (.int .i64 (k + ((List.range (j + 1)).flatMap F).length)) ∧ Wrote w w' ((List.range (j + 1)).flatMap F) k) := by
          refine (markConS_any a' n' c' (F j) _ wr hk (by rw [es, List.length_append] at l1; omega) (by omega) (by rw [es, List.length_append] at l1; omega)).mono ?_
          rintro _ w' ⟨rfl, h2⟩
          rw [es]
          exact ⟨ret_i (by rw [List.length_append]; push_cast; omega), hW.trans h2 rfl⟩
        have hlt' : (j : Int) < (n : Int) := by omega
        clear hk es HL HI l1
        generalize (k + ((List.range j).flatMap F).length) = q at *
        generalize hAA : (List.range (j + 1)).flatMap F = A' at *
        generalize hqq : (k + (A'.length : Int)) = q' at *
        go_wp2_with fail
        refine (HC.out).mono ?_
        rintro _ w1 ⟨rfl, hW1⟩
        go_wp2
        go_roundw
        case rel => exact ⟨j + 1, by omega, by go_num, by rw [hAA, hqq], by rw [hAA]; exact hW1⟩
        case measure => simp [intOf]; omega
      · have hjn : j = n := by omega
        subst hjn
        go_wp2
        go_ret
        exact ⟨rfl, hW⟩
end Go.Proofs.Ytoopomjkapeknaa
namespace Go.Proofs.Ytoopomjkapeknaa
open Go.RowKit
set_option linter.unusedVariables false

def entA (b o : Nat) (F : Nat → List AdK) (j : Nat) : List AdK := (List.range j).flatMap fun i => a2 b (o + i * 3) ++ F i
theorem entA_succ (b o : Nat) (F : Nat → List AdK) (j : Nat) : entA b o F (j + 1) = entA b o F j ++ a2 b (o + j * 3) ++ F j := by
  rw [entA, flat_succ, ← List.append_assoc]; rfl
theorem entA_le (b o : Nat) (F : Nat → List AdK) {j n : Nat} (h : j ≤ n) : (entA b o F j).length ≤ (entA b o F n).length := flat_len_le h

set_option maxRecDepth 100000 in
set_option maxHeartbeats 4000000 in
theorem markEntryS_any (a : Option Addr) (n cap : Nat) (A : List AdK) (k : Int) (w : World) (hS : SE w a n A) (h0 : 0 ≤ k) (h1 : k + A.length ≤ 8388608) :
    Calls Try.prog 23 #[.slice a n cap, .int .i64 k] w fun e w' => e = .returned (.int .i64 (k + A.length)) ∧ Wrote w w' A k := by
  obtain ⟨hm, hS⟩ := hS
  rcases hS with ⟨rfl, rfl⟩ | ⟨b, o, rfl, F, hA, hI⟩
  · have W0 := Wrote.refl w k
    go_enter Try.func23, Try.ntmps23
    go_wp2_with fail
    go_loopw [1, 5] (fun q i wr => i = .int .i64 0 ∧ q = .int .i64 k ∧ wr = w) (fun _ i _ => 0)
    case atStart => exact ⟨rfl, rfl, rfl⟩
    case round =>
      obtain ⟨rfl, rfl, rfl⟩ := hrel
      go_wp2
      go_ret
      exact ⟨by simp, W0⟩
  · have hA' : A = entA b o F n := hA
    subst hA'
    clear hA
    have HL : Hid (∀ j, j ≤ n → (entA b o F j).length ≤ (entA b o F n).length) := fun j hj => entA_le b o F hj
    have HI : Hid (∀ wr, Sim w wr → ∀ i, i < n → IntsAt wr (a2 b (o + i * 3)) ∧ ∃ a' n' c', wr.cell? ⟨b, o + i * 3 + 2, none⟩ = some (.slice a' n' c') ∧ SR wr a' n' (F i)) := fun wr s i hi => by
      obtain ⟨h6, a', n', c', h4, h5⟩ := hI i hi
      exact ⟨h6.sim s, a', n', c', s.rows _ _ _ _ h4, h5.sim s⟩
    clear hI
    go_enter Try.func23, Try.ntmps23
    go_wp2_with fail
    go_loopw [1, 5] (fun q i wr => ∃ j : Nat, j ≤ n ∧ i = .int .i64 j ∧ q = .int .i64 (k + (entA b o F j).length) ∧ Wrote w wr (entA b o F j) k) (fun _ i _ => n - (intOf i).toNat)
    case atStart => exact ⟨0, by omega, rfl, by simp [entA], Wrote.refl w k⟩
    case round =>
      obtain ⟨j, hj, rfl, rfl, hW⟩ := hrel
      by_cases hlt : j < n
      · obtain ⟨hI, a', n', c', c2, hk⟩ := HI.out wr hW.sim j hlt
        obtain ⟨⟨n0, c0⟩, f0⟩ := hI (⟨b, o + j * 3, none⟩, .u32) (by simp [a2])
        obtain ⟨⟨n1, c1⟩, f1⟩ := hI (⟨b, o + j * 3 + 1, none⟩, .u32) (by simp [a2])
        simp only at c0 f0 c1 f1
        have l1 := HL.out (j + 1) (by omega)
        have es := entA_succ b o F j
        have l2 : (entA b o F (j + 1)).length = (entA b o F j).length + 2 + (F j).length := by rw [es]; simp [a2]; omega
        have hq : 0 ≤ k + ((entA b o F j).length : Int) := by omega
        have hq2 : k + ((entA b o F j).length : Int) + 2 ≤ 8388608 := by omega
        have W2 := hW.two (q := k + (entA b o F j).length) rfl c0 c1
        have s2 : Sim wr ((wr.setCell ⟨b, o + j * 3, none⟩ (.int .u32 (k + (entA b o F j).length))).setCell ⟨b, o + j * 3 + 1, none⟩ (.int .u32 (k + (entA b o F j).length + 1))) := (Sim.set c0).trans (Sim.set (cell_near (by omega) c1))
        have c2' := s2.rows _ _ _ _ c2
        have HC : Hid (Calls Try.prog 46 #[.slice a' n' c', .int .i64 (k + (entA b o F j).length + 1 + 1)] ((wr.setCell ⟨b, o + j * 3, none⟩ (.int .u32 (k + (entA b o F j).length))).setCell ⟨b, o + j * 3 + 1, none⟩ (.int .u32 (k + (entA b o F j).length + 1))) fun e w' => e = .returned (.int .i64 (k + (entA b o F (j + 1)).length)) ∧ Wrote w w' (entA b o F (j + 1)) k) := by
          refine (markRuleS_any a' n' c' (F j) _ _ (hk.sim s2) (by omega) (by omega)).mono ?_
          rintro _ w' ⟨rfl, h2⟩
          rw [l2]
          refine ⟨ret_i (by push_cast; omega), ?_⟩
          rw [es]
          exact W2.trans h2 (by rw [List.length_append]; simp [a2]; omega)
        have hlt' : (j : Int) < (n : Int) := by omega
        clear hk es HL HI l1 l2 W2 s2 hI hW c2
        generalize (k + ((entA b o F j).length : Int)) = q at *
        generalize hAA : entA b o F (j + 1) = A' at *
        generalize hqq : (k + (A'.length : Int)) = q' at *
        go_wp2_with fail
        refine (HC.out).mono ?_
        rintro _ w1 ⟨rfl, hW1⟩
        go_wp2
        go_roundw
        case rel => exact ⟨j + 1, by omega, by go_num, by rw [hAA, hqq], by rw [hAA]; exact hW1⟩
        case measure => simp [intOf]; omega
      · have hjn : j = n := by omega
        subst hjn
        go_wp2
        go_ret
        exact ⟨rfl, hW⟩

set_option maxRecDepth 100000 in
set_option maxHeartbeats 2000000 in
theorem markPolicy_any (a : Option Addr) (n cap : Nat) (A : List AdK) (k : Int) (w : World) (h0 : 0 ≤ k) (h1 : k + A.length ≤ 8388608) (hS' : SE (w.alloc (.cells #[.slice a n cap] 31)) a n A) :
    Calls Try.prog 10 #[.agg #[.slice a n cap], .int .i64 k] w fun e w' => e = .returned (.int .i64 (k + A.length)) ∧ Wrote (w.alloc (.cells #[.slice a n cap] 31)) w' A k := by
  have HC : Hid (Calls Try.prog 23 #[.slice a n cap, .int .i64 k] (w.alloc (.cells #[.slice a n cap] 31)) fun e w' => e = .returned (.int .i64 (k + A.length)) ∧ Wrote (w.alloc (.cells #[.slice a n cap] 31)) w' A k) := markEntryS_any a n cap A k _ hS' h0 h1
  have x0 := box1 w 31 (.slice a n cap)
  clear hS'
  generalize (k + (A.length : Int)) = q at *
  go_enter Try.func10, Try.ntmps10
  go_wp2_with fail
  refine (HC.out).mono ?_
  rintro _ w1 ⟨rfl, hW1⟩
  go_wp2
  go_ret
  exact ⟨rfl, hW1⟩

theorem conA_get {b o n j : Nat} (h : j < n) (f : Nat) (hf : f < 3) (h' : j * 3 + f < (conA b o n).length) : (conA b o n)[j * 3 + f] = (a3 b (o + j * 3))[f] := by
  have key : ∀ n, j < n → (conA b o n)[j * 3 + f]? = (a3 b (o + j * 3))[f]? := by
    intro n
    induction n with
    | zero => intro h; omega
    | succ n ih =>
      intro h
      rw [conA_succ]
      by_cases e : j = n
      · subst e
        rw [List.getElem?_append_right (by rw [conA_len]; omega), conA_len]
        congr 1; omega
      · rw [List.getElem?_append_left (by rw [conA_len]; omega)]
        exact ih (by omega)
  have := key n h
  rw [List.getElem?_eq_getElem h', List.getElem?_eq_getElem (by simp [a3]; omega)] at this
  exact Option.some.inj this

end Go.Proofs.Ytoopomjkapeknaa
namespace Go.Proofs.Ytoopomjkapeknaa
open Go.RowKit
set_option linter.unusedVariables false

set_option maxHeartbeats 1000000 in
theorem toCon3 (k a b : Int) (w : World) :
    Calls Try.prog 81 #[.agg #[.int .i64 k, .int .u64 a, .int .u64 b]] w fun e w' => e = .returned (.agg #[.int .i64 k, .int .u64 a, .int .u64 b]) ∧ Below w.heap.size w w' := by
  go_enter Try.func81, Try.ntmps81
  go_wp2
  refine bodyPost_ret (v := .agg #[.int .i64 k, .int .u64 a, .int .u64 b]) (by simp [results, Try.results81, go_sem]) rfl ⟨rfl, ?_⟩
  exact (((Below.refl _ _).alloc (Nat.le_refl _) _).alloc (by simp) _).alloc (by simp; omega) _

end Go.Proofs.Ytoopomjkapeknaa
namespace Go.Proofs.Ytoopomjkapeknaa
open Go.RowKit
set_option linter.unusedVariables false

theorem infoCon : (Try.prog.info? 93).map (fun i => (i.zero, i.size, i.bytes)) = some (some (.agg #[.int .i64 0, .int .u64 0, .int .u64 0]), 3, 24) := by kernel_rfl
theorem infoRule : (Try.prog.info? 64).map (fun i => (i.zero, i.size, i.bytes)) = some (some (.agg #[.slice none 0 0]), 1, 24) := by kernel_rfl
theorem infoEntry : (Try.prog.info? 60).map (fun i => (i.zero, i.size, i.bytes)) = some (some (.agg #[.int .u32 0, .int .u32 0, .slice none 0 0]), 3, 32) := by kernel_rfl

set_option maxRecDepth 100000 in
set_option maxHeartbeats 2000000 in
theorem toConS_any (l : List K) (a : Option Addr) (cap : Nat) (w : World) (hs : LSrc 3 PK w a l) (hn : l.length ≤ 1048576) :
    Calls Try.prog 78 #[.slice a l.length cap] w fun e w' => e = .returned (.slice (some ⟨w.heap.size, 0, none⟩) l.length l.length) ∧ LAt 3 PKF w' w.heap.size 0 l ∧ w.heap.size < w'.heap.size ∧ Below w.heap.size w w' := by
  obtain ⟨i0, hi, hz0, hz1, hz2⟩ := info_parts infoCon
  have HP : Hid (∀ wr, Below w.heap.size w wr → ∀ i, i < l.length → ∃ b o, a = some ⟨b, o, none⟩ ∧ b < w.heap.size ∧ PK wr b (o + i * 3) (l.getD i K.zero)) := fun wr hB i hi => by
    obtain ⟨b, o, h1, h2, h3⟩ := hs.at hi K.zero
    exact ⟨b, o, h1, h2, PK.stays _ _ _ _ _ h2 hB h3⟩
  have HEnd : Hid (∀ wr, Upt 3 PK wr w.heap.size l.length l K.zero l.length → LAt 3 PKF wr w.heap.size 0 l) := fun wr h i hi => ⟨h.all i hi, (h.own _ (by omega)).2, (h.own _ (by omega)).2, (h.own _ (by omega)).2⟩
  clear hs
  generalize l.length = n at *
  have hmk : ∀ u : World, (Instr.makeSlice 62 (.int .i64 (n : Int)) (.int .i64 (n : Int))).run Try.prog u =
      .ok (.slice (some ⟨u.heap.size, 0, none⟩) n n) (u.alloc (.cells (madeCells #[.int .i64 0, .int .u64 0, .int .u64 0] (n * 3)) 93)) := fun u => by
    have h := run_make (P := Try.prog) u 62 93 i0 _ Try.underlying62 hi hz0 .i64 .i64 (n : Int) (n : Int) (by omega) (Int.le_refl _) (by rw [hz2]; omega) (by omega)
    simpa [hz1, Value.cells] using h
  go_enter Try.func78, Try.ntmps78
  go_wp2_with fail
  clear hmk hi hz0 hz1 hz2
  have U0 : Upt 3 PK (w.alloc (.cells (madeCells #[.int .i64 0, .int .u64 0, .int .u64 0] (n * 3)) 93)) w.heap.size n l K.zero 0 := Upt.new w _ _ n l K.zero (by rw [size_madeCells])
  have B0 : Below w.heap.size w (w.alloc (.cells (madeCells #[.int .i64 0, .int .u64 0, .int .u64 0] (n * 3)) 93)) := (Below.refl _ _).alloc (Nat.le_refl _) _
  generalize w.alloc (.cells (madeCells #[.int .i64 0, .int .u64 0, .int .u64 0] (n * 3)) 93) = W at *
  go_loopw [4] (fun i wr => ∃ k : Nat, k ≤ n ∧ i = .int .i64 k ∧ Upt 3 PK wr w.heap.size n l K.zero k ∧ Below w.heap.size w wr) (fun i _ => n - (intOf i).toNat)
  case atStart => exact ⟨0, by omega, rfl, U0, B0⟩
  case round =>
    clear U0 B0
    obtain ⟨k, hk, rfl, U, B⟩ := hrel
    by_cases hkn : k < n
    · obtain ⟨b, o, rfl, hlt, c0, c1, c2⟩ := HP.out wr B k hkn
      have hkn' : (k : Int) < (n : Int) := by omega
      have HU : Hid (∀ w1, Upt 3 PK w1 w.heap.size n l K.zero k → Upt 3 PK (((w1.setCell ⟨w.heap.size, k * 3, none⟩ (.int .i64 (l.getD k K.zero).kind)).setCell ⟨w.heap.size, k * 3 + 1, none⟩ (.int .u64 ((l.getD k K.zero).a : Int))).setCell ⟨w.heap.size, k * 3 + 2, none⟩ (.int .u64 ((l.getD k K.zero).b : Int))) w.heap.size n l K.zero (k + 1)) := fun w1 h => by
        obtain ⟨⟨v0, q0⟩, _⟩ := h.own (k * 3) (by omega)
        obtain ⟨⟨v1, q1⟩, _⟩ := h.own (k * 3 + 1) (by omega)
        obtain ⟨⟨v2, q2⟩, _⟩ := h.own (k * 3 + 2) (by omega)
        refine (((h.set (PK.apart _) (by omega) _).set (PK.apart _) (by omega) _).set (PK.apart _) (by omega) _).next ⟨?_, ?_, ?_⟩
        · exact cell_near (by omega) (cell_near (by omega) (World.cell?_setCell_same' _ _ _ (by rw [q0]; rfl)))
        · exact cell_near (by omega) (World.cell?_setCell_same' _ _ _ (by rw [cell_near (by omega) q1]; rfl))
        · exact World.cell?_setCell_same' _ _ _ (by rw [cell_near (by omega) (cell_near (by omega) q2)]; rfl)
      generalize l.getD k K.zero = c at *
      obtain ⟨ck, ca, cb⟩ := c
      simp only at c0 c1 c2 HU
      go_wp2_with fail
      refine (toCon3 ck ca cb _).mono ?_
      rintro e w1 ⟨rfl, hb1⟩
      have U1 := U.keep PK.stays hb1
      have B1 := below_step hb1 B
      obtain ⟨⟨v0, q0⟩, f0⟩ := U1.own (k * 3) (by omega)
      obtain ⟨⟨v1, q1⟩, f1⟩ := U1.own (k * 3 + 1) (by omega)
      obtain ⟨⟨v2, q2⟩, f2⟩ := U1.own (k * 3 + 2) (by omega)
      clear c0 c1 c2 U B hb1 HP HEnd
      go_wp2
      go_roundw
      case rel => exact ⟨k + 1, by omega, by go_num, HU.out _ U1, ((B1.setCell (Nat.le_refl _) _).setCell (Nat.le_refl _) _).setCell (Nat.le_refl _) _⟩
      case measure => simp [intOf]; omega
    · have hkn' : k = n := by omega
      subst hkn'
      go_wp2
      go_ret
      exact ⟨rfl, HEnd.out _ U, U.lt, B⟩
end Go.Proofs.Ytoopomjkapeknaa
