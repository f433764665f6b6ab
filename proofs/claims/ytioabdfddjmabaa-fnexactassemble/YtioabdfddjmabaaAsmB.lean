/-
  CONTRACTS of the law's copies, comparisons and marks of lists of items.
-/
import Derived.Test.YtioabdfddjmabaaAsmA
namespace Go.Proofs.Ytioabdfddjmabaa
open Go.RowKit
set_option linter.unusedVariables false

/-- the cells of items in a row -/
def itF (l : List It) (j : Nat) : Value := (itC (l.getD (j / 6) It.zero)).getD (j % 6) undef
theorem itF_at (l : List It) (i f : Nat) (hf : f < 6) : itF l (i * 6 + f) = (itC (l.getD i It.zero)).getD f undef := by
  unfold itF
  rw [show (i * 6 + f) / 6 = i by omega, show (i * 6 + f) % 6 = f by omega]
theorem itCs_F (l : List It) (j : Nat) (h : j < l.length * 6) : (itCs l)[j]? = some (itF l j) := by
  have h1 : j / 6 < l.length := by omega
  have := itCs_get l (j / 6) h1 (j % 6) (by omega)
  rw [show j / 6 * 6 + j % 6 = j by omega] at this
  rw [this]
  unfold itF
  have e : l.getD (j / 6) It.zero = l[j / 6] := by rw [List.getD_eq_getElem?_getD, List.getElem?_eq_getElem h1]; rfl
  rw [e]
  have h2 : j % 6 < (itC l[j / 6]).length := by simp [itC]; omega
  rw [List.getElem?_eq_getElem h2, List.getD_eq_getElem?_getD, List.getElem?_eq_getElem h2]; rfl
/-- the cells up to number 6 k are the items' -/
def UptoT (w : World) (D n : Nat) (l : List It) (k : Nat) : Prop := ∃ f, w.rowIs D 40 (n * 6) f ∧ ∀ j, j < k * 6 → f j = itF l j
theorem UptoT.keep {w w' : World} {D n k : Nat} {l : List It} (h : UptoT w D n l k) (hb : Below w.heap.size w w') : UptoT w' D n l k := by
  obtain ⟨f, hr, hf⟩ := h
  exact ⟨f, hr.of_block (hb.block D hr.lt), hf⟩
theorem UptoT.own {w : World} {D n k : Nat} {l : List It} (h : UptoT w D n l k) (j : Nat) (hj : j < n * 6) : ∃ v, w.cell? ⟨D, j, none⟩ = some v ∧ w.frozen? ⟨D, j, none⟩ = false := by
  obtain ⟨f, hr, _⟩ := h
  exact ⟨_, hr.cell hj, hr.frozen j⟩
theorem UptoT.step {w : World} {D n k : Nat} {l : List It} (h : UptoT w D n l k) :
    UptoT ((((((w.setCell ⟨D, k * 6, none⟩ (.int .i64 (l.getD k It.zero).kind)).setCell ⟨D, k * 6 + 1, none⟩ (.int .u16 (l.getD k It.zero).ins.c)).setCell ⟨D, k * 6 + 2, none⟩ (.int .u8 (l.getD k It.zero).ins.jt)).setCell ⟨D, k * 6 + 3, none⟩ (.int .u8 (l.getD k It.zero).ins.jf)).setCell ⟨D, k * 6 + 4, none⟩ (.int .u32 (l.getD k It.zero).ins.k)).setCell ⟨D, k * 6 + 5, none⟩ (.int .i64 (l.getD k It.zero).target)) D n l (k + 1) := by
  obtain ⟨f, hr, hf⟩ := h
  refine ⟨_, (((((hr.set _ _).set _ _).set _ _).set _ _).set _ _).set _ _, fun j hj => ?_⟩
  by_cases e5 : j = k * 6 + 5
  · rw [if_pos e5, e5, itF_at l k 5 (by omega)]; rfl
  · rw [if_neg e5]
    by_cases e4 : j = k * 6 + 4
    · rw [if_pos e4, e4, itF_at l k 4 (by omega)]; rfl
    · rw [if_neg e4]
      by_cases e3 : j = k * 6 + 3
      · rw [if_pos e3, e3, itF_at l k 3 (by omega)]; rfl
      · rw [if_neg e3]
        by_cases e2 : j = k * 6 + 2
        · rw [if_pos e2, e2, itF_at l k 2 (by omega)]; rfl
        · rw [if_neg e2]
          by_cases e1 : j = k * 6 + 1
          · rw [if_pos e1, e1, itF_at l k 1 (by omega)]; rfl
          · rw [if_neg e1]
            by_cases e0 : j = k * 6
            · rw [if_pos e0, e0, show k * 6 = k * 6 + 0 by omega, itF_at l k 0 (by omega)]; rfl
            · rw [if_neg e0]; exact hf j (by omega)
theorem UptoT.done {w : World} {B D : Nat} {l : List It} (h : UptoT w D l.length l l.length) (hB : B ≤ D) (hm : l.length ≤ maxLen) : ownsT w B (.slice (some ⟨D, 0, none⟩) l.length l.length) l := by
  obtain ⟨f, ⟨c, hc, hs, hg⟩, hf⟩ := h
  refine ⟨itCs_len l, .inr ⟨D, l.length, c, rfl, hB, hc, Nat.le_refl _, hm, hs, ?_⟩⟩
  apply List.ext_getElem?
  intro j
  rw [List.getElem?_take]
  by_cases hj : j < l.length * 6
  · rw [if_pos hj, itCs_F l j hj, ← hf j hj]
    have := hg j hj
    simpa using this
  · rw [if_neg hj, List.getElem?_eq_none (by rw [itCs_len]; omega)]

set_option maxRecDepth 100000 in
set_option maxHeartbeats 2000000 in
theorem toItemS_any (l : List It) (a : Option Addr) (cap : Nat) (w : World) (hs : TSrc w a l) (hn : l.length ≤ 1048576) :
    Calls Try.prog 6 #[.slice a l.length cap] w fun e w' => e = .returned (.slice (some ⟨w.heap.size, 0, none⟩) l.length l.length) ∧ ownsT w' w.heap.size (.slice (some ⟨w.heap.size, 0, none⟩) l.length l.length) l ∧ Below w.heap.size w w' := by
  obtain ⟨i0, hi, hz0, hz1, hz2⟩ := info_parts infoItem
  have HP : Hid (∀ wr, Below w.heap.size w wr → ∀ i, i < l.length → ∃ b o, a = some ⟨b, o, none⟩ ∧ b < w.heap.size ∧ PI wr b (o + i * 6) (l.getD i It.zero)) := fun wr hB i hi => by
    obtain ⟨b, o, h1, h2, h3⟩ := hs.at hi It.zero
    exact ⟨b, o, h1, h2, PI.stays _ _ _ _ _ h2 hB h3⟩
  have HEnd : Hid (∀ wr, UptoT wr w.heap.size l.length l l.length → ownsT wr w.heap.size (.slice (some ⟨w.heap.size, 0, none⟩) l.length l.length) l) := fun wr h => h.done (Nat.le_refl _) (by unfold maxLen; omega)
  have HO : Hid (∀ wr, ownsT wr w.heap.size (.slice (some ⟨w.heap.size, 0, none⟩) l.length l.length) l ↔ ownsT wr w.heap.size (.slice (some ⟨w.heap.size, 0, none⟩) l.length l.length) l) := fun _ => Iff.rfl
  clear hs
  obtain ⟨R, hR⟩ : ∃ R : World → Prop, ∀ wr, ownsT wr w.heap.size (.slice (some ⟨w.heap.size, 0, none⟩) l.length l.length) l ↔ R wr := ⟨_, fun _ => Iff.rfl⟩
  have HEnd2 : Hid (∀ wr, UptoT wr w.heap.size l.length l l.length → R wr) := fun wr h => (hR wr).1 (HEnd.out wr h)
  simp only [hR]
  clear hR HEnd HO
  generalize l.length = n at *
  have hmk : ∀ u : World, (Instr.makeSlice 27 (.int .i64 (n : Int)) (.int .i64 (n : Int))).run Try.prog u =
      .ok (.slice (some ⟨u.heap.size, 0, none⟩) n n) (u.alloc (.cells (madeCells #[.int .i64 0, .int .u16 0, .int .u8 0, .int .u8 0, .int .u32 0, .int .i64 0] (n * 6)) 40)) := fun u => by
    have h := run_make (P := Try.prog) u 27 40 i0 _ Try.underlying27 hi hz0 .i64 .i64 (n : Int) (n : Int) (by omega) (Int.le_refl _) (by rw [hz2]; omega) (by omega)
    simpa [hz1, Value.cells] using h
  go_enter Try.func6, Try.ntmps6
  go_wp2_with fail
  clear hmk hi hz0 hz1 hz2
  have U0 : UptoT (w.alloc (.cells (madeCells #[.int .i64 0, .int .u16 0, .int .u8 0, .int .u8 0, .int .u32 0, .int .i64 0] (n * 6)) 40)) w.heap.size n l 0 := by
    have h := World.rowIs_alloc w (madeCells #[.int .i64 0, .int .u16 0, .int .u8 0, .int .u8 0, .int .u32 0, .int .i64 0] (n * 6)) 40 (fun i => (madeCells #[.int .i64 0, .int .u16 0, .int .u8 0, .int .u8 0, .int .u32 0, .int .i64 0] (n * 6)).getD i undef) (fun i h => by simp [h])
    rw [size_madeCells] at h
    exact ⟨_, h, fun j hj => by omega⟩
  have B0 : Below w.heap.size w (w.alloc (.cells (madeCells #[.int .i64 0, .int .u16 0, .int .u8 0, .int .u8 0, .int .u32 0, .int .i64 0] (n * 6)) 40)) := (Below.refl _ _).alloc (Nat.le_refl _) _
  generalize w.alloc (.cells (madeCells #[.int .i64 0, .int .u16 0, .int .u8 0, .int .u8 0, .int .u32 0, .int .i64 0] (n * 6)) 40) = W at *
  go_loopw [4] (fun i wr => ∃ k : Nat, k ≤ n ∧ i = .int .i64 k ∧ UptoT wr w.heap.size n l k ∧ Below w.heap.size w wr) (fun i _ => n - (intOf i).toNat)
  case atStart => exact ⟨0, by omega, rfl, U0, B0⟩
  case round =>
    clear U0 B0
    obtain ⟨k, hk, rfl, U, B⟩ := hrel
    by_cases hkn : k < n
    · obtain ⟨b, o, rfl, hlt, c0, c1, c2, c3, c4, c5⟩ := HP.out wr B k hkn
      have hkn' : (k : Int) < (n : Int) := by omega
      have HU : Hid (∀ w1, UptoT w1 w.heap.size n l k → UptoT ((((((w1.setCell ⟨w.heap.size, k * 6, none⟩ (.int .i64 (l.getD k It.zero).kind)).setCell ⟨w.heap.size, k * 6 + 1, none⟩ (.int .u16 (l.getD k It.zero).ins.c)).setCell ⟨w.heap.size, k * 6 + 2, none⟩ (.int .u8 (l.getD k It.zero).ins.jt)).setCell ⟨w.heap.size, k * 6 + 3, none⟩ (.int .u8 (l.getD k It.zero).ins.jf)).setCell ⟨w.heap.size, k * 6 + 4, none⟩ (.int .u32 (l.getD k It.zero).ins.k)).setCell ⟨w.heap.size, k * 6 + 5, none⟩ (.int .i64 (l.getD k It.zero).target)) w.heap.size n l (k + 1)) := fun w1 h => h.step
      have HC := toItem_any (l.getD k It.zero) wr
      generalize l.getD k It.zero = x at *
      obtain ⟨kd, ⟨c, jt, jf, ik⟩, tg⟩ := x
      simp only at c0 c1 c2 c3 c4 c5 HU
      simp only [itV] at HC
      have HC2 : Hid (Calls Try.prog 15 #[.agg #[.int .i64 kd, .int .u16 c, .int .u8 jt, .int .u8 jf, .int .u32 ik, .int .i64 tg]] wr fun e w' => e = .returned (.agg #[.int .i64 kd, .int .u16 c, .int .u8 jt, .int .u8 jf, .int .u32 ik, .int .i64 tg]) ∧ Below wr.heap.size wr w') := HC
      clear HC HP
      go_wp2_with fail
      refine (HC2.out).mono ?_
      rintro _ w1 ⟨rfl, hb1⟩
      have U1 := U.keep hb1
      have B1 := below_step hb1 B
      obtain ⟨v0, q0, z0⟩ := U1.own (k * 6) (by omega)
      obtain ⟨v1, q1, z1⟩ := U1.own (k * 6 + 1) (by omega)
      obtain ⟨v2, q2, z2⟩ := U1.own (k * 6 + 2) (by omega)
      obtain ⟨v3, q3, z3⟩ := U1.own (k * 6 + 3) (by omega)
      obtain ⟨v4, q4, z4⟩ := U1.own (k * 6 + 4) (by omega)
      obtain ⟨v5, q5, z5⟩ := U1.own (k * 6 + 5) (by omega)
      have HU1 : Hid _ := HU.out _ U1
      have HB1 : Hid _ := below_set6i B1 (Nat.le_refl _) (k * 6) (.int .i64 kd) (.int .u16 c) (.int .u8 jt) (.int .u8 jf) (.int .u32 ik) (.int .i64 tg)
      clear c0 c1 c2 c3 c4 c5 U B hb1 HEnd2 HC2 HU U1 B1
      go_wp2
      go_roundw
      case rel => exact ⟨k + 1, by omega, by go_num, HU1.out, HB1.out⟩
      case measure => simp [intOf]; omega
    · have hkn' : k = n := by omega
      subst hkn'
      have HE := HEnd2.out _ U
      go_wp2
      go_ret
      exact ⟨rfl, HE, B⟩

set_option maxRecDepth 100000 in
set_option maxHeartbeats 1000000 in
theorem eqItem_same (x : It) (w : World) :
    Calls Try.prog 20 #[itV x, itV x] w fun e w' => e = .returned (.bool true) ∧ Below w.heap.size w w' := by
  obtain ⟨kd, ⟨c, jt, jf, k⟩, tg⟩ := x
  have HC : Hid (∀ w1, Calls Try.prog 19 #[insV c jt jf k, insV c jt jf k] w1 fun e w' => e = .returned (.bool true) ∧ Below w1.heap.size w1 w') := fun w1 => eqIns_same c jt jf k w1
  simp only [itV]
  have B0 : Below w.heap.size w ((w.alloc (.cells #[.int .i64 kd, .int .u16 c, .int .u8 jt, .int .u8 jf, .int .u32 k, .int .i64 tg] 40)).alloc (.cells #[.int .i64 kd, .int .u16 c, .int .u8 jt, .int .u8 jf, .int .u32 k, .int .i64 tg] 40)) := ((Below.refl _ _).alloc (Nat.le_refl _) _).alloc (by simp) _
  have O := (Box6.new w 40 (.int .i64 kd) (.int .u16 c) (.int .u8 jt) (.int .u8 jf) (.int .u32 k) (.int .i64 tg)).keep ((Below.refl _ _).alloc (Nat.le_refl _) (.cells #[.int .i64 kd, .int .u16 c, .int .u8 jt, .int .u8 jf, .int .u32 k, .int .i64 tg] 40))
  have P := Box6.new (w.alloc (.cells #[.int .i64 kd, .int .u16 c, .int .u8 jt, .int .u8 jf, .int .u32 k, .int .i64 tg] 40)) 40 (.int .i64 kd) (.int .u16 c) (.int .u8 jt) (.int .u8 jf) (.int .u32 k) (.int .i64 tg)
  rw [show (w.alloc (.cells #[.int .i64 kd, .int .u16 c, .int .u8 jt, .int .u8 jf, .int .u32 k, .int .i64 tg] 40)).heap.size = w.heap.size + 1 by simp] at P
  go_enter Try.func20, Try.ntmps20
  go_wp2_with fail
  generalize ((w.alloc (.cells #[.int .i64 kd, .int .u16 c, .int .u8 jt, .int .u8 jf, .int .u32 k, .int .i64 tg] 40)).alloc (.cells #[.int .i64 kd, .int .u16 c, .int .u8 jt, .int .u8 jf, .int .u32 k, .int .i64 tg] 40)) = W at *
  refine (HC.out _).mono ?_
  rintro _ w1 ⟨rfl, hb1⟩
  have B1 := below_step hb1 B0
  have o5 := (O.keep hb1).c5
  have p5 := (P.keep hb1).c5
  clear O P hb1 B0 HC
  go_wp2
  go_ret
  exact ⟨rfl, B1⟩

set_option maxRecDepth 100000 in
set_option maxHeartbeats 4000000 in
theorem eqItemS_any (l : List It) (a a' : Option Addr) (cap cap' : Nat) (w : World) (hs : TSrc w a l) (hs' : TSrc w a' l) (hn : l.length ≤ 16777216) :
    Calls Try.prog 9 #[.slice a l.length cap, .slice a' l.length cap'] w fun e w' => e = .returned (.bool true) ∧ Below w.heap.size w w' := by
  have HP : Hid (∀ wr, Below w.heap.size w wr → ∀ i, i < l.length → ∃ b o, a = some ⟨b, o, none⟩ ∧ b < wr.heap.size ∧ PI wr b (o + i * 6) (l.getD i It.zero)) := fun wr hB i hi => (hs.below PI.stays hB).at hi It.zero
  have HP' : Hid (∀ wr, Below w.heap.size w wr → ∀ i, i < l.length → ∃ b o, a' = some ⟨b, o, none⟩ ∧ b < wr.heap.size ∧ PI wr b (o + i * 6) (l.getD i It.zero)) := fun wr hB i hi => (hs'.below PI.stays hB).at hi It.zero
  clear hs hs'
  generalize l.length = n at *
  go_enter Try.func9, Try.ntmps9
  go_wp2_with fail
  go_loopw [5] (fun i wr => ∃ k : Nat, k ≤ n ∧ i = .int .i64 k ∧ Below w.heap.size w wr) (fun i _ => n - (intOf i).toNat)
  case atStart => exact ⟨0, by omega, rfl, Below.refl _ _⟩
  case round =>
    obtain ⟨k, hk, rfl, B⟩ := hrel
    by_cases hkn : k < n
    · obtain ⟨b, o, rfl, hlt, c0, c1, c2, c3, c4, c5⟩ := HP.out wr B k hkn
      obtain ⟨b', o', rfl, hlt', d0, d1, d2, d3, d4, d5⟩ := HP'.out wr B k hkn
      have hkn' : (k : Int) < (n : Int) := by omega
      have HC : ∀ w1, Calls Try.prog 20 #[itV (l.getD k It.zero), itV (l.getD k It.zero)] w1 fun e w' => e = .returned (.bool true) ∧ Below w1.heap.size w1 w' := fun w1 => eqItem_same (l.getD k It.zero) w1
      generalize l.getD k It.zero = x at *
      obtain ⟨kd, ⟨c, jt, jf, ik⟩, tg⟩ := x
      simp only at c0 c1 c2 c3 c4 c5 d0 d1 d2 d3 d4 d5
      simp only [itV] at HC
      have HC2 : Hid (∀ w1, Calls Try.prog 20 #[.agg #[.int .i64 kd, .int .u16 c, .int .u8 jt, .int .u8 jf, .int .u32 ik, .int .i64 tg], .agg #[.int .i64 kd, .int .u16 c, .int .u8 jt, .int .u8 jf, .int .u32 ik, .int .i64 tg]] w1 fun e w' => e = .returned (.bool true) ∧ Below w1.heap.size w1 w') := HC
      clear HC HP HP'
      go_wp2_with fail
      go_region_with (go_at_call 20; refine (HC2.out _).mono ?_; rintro e w1 ⟨rfl, hb1⟩)
      all_goals
        have B1 := below_step hb1 B.drew
        go_wp2
        go_roundw
        case rel => exact ⟨k + 1, by omega, by go_num, B1⟩
        case measure => simp [intOf]; omega
    · go_wp2
      go_ret
      exact ⟨rfl, B⟩

set_option maxHeartbeats 400000 in
theorem szItemS_any (a : Option Addr) (n cap : Nat) (left : Int) (w : World) (hn : n ≤ 9223372036854775807) (h0 : 0 ≤ left) (h1 : left ≤ 1048576) :
    Calls Try.prog 4 #[.slice a n cap, .int .i64 left] w fun e w' => e = .returned (.int .i64 (if left - n < 0 then -1 else left - n)) ∧ w' = w := by
  go_enter Try.func4, Try.ntmps4
  go_wp2
  all_goals (go_ret)
  all_goals exact ⟨rfl, rfl⟩
end Go.Proofs.Ytioabdfddjmabaa
