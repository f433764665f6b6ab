/-
  CONTRACTS: the model's range of values.
-/
import Derived.Test.YtpbljegjinjmnaaCovL
namespace Go.Proofs.Ytpbljegjinjmnaa
open Go.RowKit
set_option linter.unusedVariables false

theorem BoxK.set1 {w : World} {g : Nat} {x y z : Value} (h : BoxK w g x y z) (y' : Value) : BoxK (w.setCell ⟨g, 1, none⟩ y') g x y' z := by
  obtain ⟨l, c0, c1, c2, f0, f1, f2⟩ := h
  refine ⟨by simp [l], ?_, ?_, ?_, by simp [f0], by simp [f1], by simp [f2]⟩
  · simp [go_sem, c0]
  · simp [go_sem, c1]
  · simp [go_sem, c2]
theorem BoxK.set2 {w : World} {g : Nat} {x y z : Value} (h : BoxK w g x y z) (z' : Value) : BoxK (w.setCell ⟨g, 2, none⟩ z') g x y z' := by
  obtain ⟨l, c0, c1, c2, f0, f1, f2⟩ := h
  refine ⟨by simp [l], ?_, ?_, ?_, by simp [f0], by simp [f1], by simp [f2]⟩
  · simp [go_sem, c0]
  · simp [go_sem, c1]
  · simp [go_sem, c2]
theorem BoxK.apart {w : World} {g : Nat} {x y z : Value} (h : BoxK w g x y z) {p : Addr} (hne : g ≠ p.block) (v : Value) : BoxK (w.setCell p v) g x y z := by
  have e : (w.setCell p v).heap[g]? = w.heap[g]? := Below.heap_setCell w p v g hne
  exact ⟨by have := h.lt; simpa [World.setCell] using this, (World.cell?_of_block (a := ⟨g, 0, none⟩) e).trans h.c0, (World.cell?_of_block (a := ⟨g, 1, none⟩) e).trans h.c1, (World.cell?_of_block (a := ⟨g, 2, none⟩) e).trans h.c2,
    (World.frozen?_of_block (a := ⟨g, 0, none⟩) e).trans h.f0, (World.frozen?_of_block (a := ⟨g, 1, none⟩) e).trans h.f1, (World.frozen?_of_block (a := ⟨g, 2, none⟩) e).trans h.f2⟩

/-- the two boxes of such a function: its result, its condition -/
def Two (w wr : World) (k x y : Int) : Prop := BoxK wr w.heap.size (.int .i64 0) (.int .u64 0) (.int .u64 0) ∧ BoxK wr (w.heap.size + 1) (.int .i64 k) (.int .u64 x) (.int .u64 y) ∧ Below w.heap.size w wr
theorem Two.drew {w wr : World} {k x y : Int} (h : Two w wr k x y) : Two w wr.drew k x y := ⟨h.1.drew, h.2.1.drew, h.2.2.drew⟩
theorem Two.drewN {w wr : World} {k x y : Int} (h : Two w wr k x y) (n : Nat) : Two w (wr.drewN n) k x y := ⟨h.1.keep (below_drewN (Below.refl _ _) _), h.2.1.keep (below_drewN (Below.refl _ _) _), below_drewN h.2.2 _⟩
theorem Two.setA {w wr : World} {k x y : Int} (h : Two w wr k x y) (x' : Int) : Two w (wr.setCell ⟨w.heap.size + 1, 1, none⟩ (.int .u64 x')) k x' y := ⟨h.1.apart (by simp) _, h.2.1.set1 _, h.2.2.setCell (by simp) _⟩
theorem Two.setB {w wr : World} {k x y : Int} (h : Two w wr k x y) (y' : Int) : Two w (wr.setCell ⟨w.heap.size + 1, 2, none⟩ (.int .u64 y')) k x y' := ⟨h.1.apart (by simp) _, h.2.1.set2 _, h.2.2.setCell (by simp) _⟩
theorem Two.start {w w1 : World} {t : TypeId} {k x y : Int} (h : w1 = (w.alloc (.cells #[.int .i64 0, .int .u64 0, .int .u64 0] t)).alloc (.cells #[.int .i64 k, .int .u64 x, .int .u64 y] t)) : Two w w1 k x y := by
  subst h
  have Y := BoxK.new (w.alloc (.cells #[.int .i64 0, .int .u64 0, .int .u64 0] t)) t (.int .i64 k) (.int .u64 x) (.int .u64 y)
  rw [show (w.alloc (.cells #[.int .i64 0, .int .u64 0, .int .u64 0] t)).heap.size = w.heap.size + 1 by simp] at Y
  exact ⟨(BoxK.new w t _ _ _).alloc _, Y, ((Below.refl _ _).alloc (Nat.le_refl _) _).alloc (by simp) _⟩

set_option maxRecDepth 100000 in
set_option maxHeartbeats 1000000 in
theorem l4range_any (a : Option Addr) (cap : Nat) (vs : List Nat) (w : World) (hs : USrc w a (natV vs)) (h0 : 0 < vs.length) (hn : vs.length ≤ 16777216) (hv : All64 vs) :
    Calls Try.prog 44 #[.slice a vs.length cap] w fun e w' => e = .returned (conV ⟨2, minN vs vs.length, maxN vs vs.length⟩) ∧ Below w.heap.size w w' := by
  obtain ⟨b, o, rfl, hb, hc⟩ := hs.natAt h0
  have HC : Hid (∀ wr, Below w.heap.size w wr → ∀ j, j < vs.length → wr.cell? ⟨b, o + j, none⟩ = some (.int .u64 ((vs.getD j 0 : Nat) : Int))) := fun wr hB j hj => (hB.cell (p := ⟨b, o + j, none⟩) hb).trans (hc j hj)
  have c0 : (w.alloc (.cells #[.int .i64 0, .int .u64 0, .int .u64 0] 28)).cell? ⟨b, o, none⟩ = some (.int .u64 ((vs.getD 0 0 : Nat) : Int)) := HC.out _ ((Below.refl _ _).alloc (Nat.le_refl _) _) 0 h0
  have HV : Hid (All64 vs) := hv
  have HM : Hid (∀ n, minN vs (n + 1) = if vs.getD n 0 < minN vs n then vs.getD n 0 else minN vs n) := fun n => rfl
  have HX : Hid (∀ n, maxN vs (n + 1) = if maxN vs n < vs.getD n 0 then vs.getD n 0 else maxN vs n) := fun n => rfl
  have H1 : Hid (minN vs 0 = vs.getD 0 0) := rfl
  have H2 : Hid (maxN vs 0 = vs.getD 0 0) := rfl
  clear hs hc hv
  generalize vs.length = n at *
  generalize minN vs = M at *
  generalize maxN vs = X at *
  generalize vs.getD 0 0 = v0 at *
  go_enter Try.func44, Try.ntmps44
  go_wp2_with fail
  go_region_with (fail)
  all_goals
    go_wp2_with fail
    have T : Two w ((w.alloc (.cells #[.int .i64 0, .int .u64 0, .int .u64 0] 28)).alloc (.cells #[.int .i64 2, .int .u64 (v0 : Int), .int .u64 (v0 : Int)] 28)).drew 2 v0 v0 := (Two.start rfl).drew
    generalize ((w.alloc (.cells #[.int .i64 0, .int .u64 0, .int .u64 0] 28)).alloc (.cells #[.int .i64 2, .int .u64 (v0 : Int), .int .u64 (v0 : Int)] 28)).drew = W at *
    clear c0
    go_loopw [4] (fun i wr => ∃ j : Nat, j ≤ n ∧ i = .int .i64 j ∧ Two w wr 2 (M j : Nat) (X j : Nat)) (fun i _ => n - (intOf i).toNat)
    case atStart => exact ⟨0, by omega, rfl, by rw [H1.out, H2.out]; exact T⟩
    case round =>
      obtain ⟨j, hj, rfl, Tr⟩ := hrel
      clear T
      have HT : Hid (Two w wr 2 (M j : Nat) (X j : Nat)) := Tr
      obtain ⟨R, Y, B⟩ := Tr
      by_cases hlt : j < n
      · have c1 := HC.out wr B j hlt
        have E1 : Hid (M (j + 1) = if vs.getD j 0 < M j then vs.getD j 0 else M j) := HM.out j
        have E2 : Hid (X (j + 1) = if X j < vs.getD j 0 then vs.getD j 0 else X j) := HX.out j
        have r2 := HV.out j
        have hbn : b ≠ w.heap.size + 1 := by omega
        clear HC HM HX H1 H2 HV
        generalize vs.getD j 0 = x at *
        obtain ⟨_, y0, y1, y2, g0, g1, g2⟩ := Y
        clear R B
        by_cases q1 : x < M j
        · have q1' : (x : Int) < (M j : Int) := by omega
          by_cases q2 : X j < x
          · have q2' : (X j : Int) < (x : Int) := by omega
            go_wp2_with fail
            go_quiet (fail)
            go_wp2_with fail
            go_quiet (fail)
            go_wp2
            go_roundw
            case rel =>
              refine ⟨j + 1, by omega, by go_num, ?_⟩
              rw [E1.out, E2.out, if_pos q1, if_pos q2]
              exact (((HT.out.drewN _).setA _).drewN _).setB _
            case measure => simp [intOf]; omega
          · have q2' : ¬ (X j : Int) < (x : Int) := by omega
            go_wp2_with fail
            go_quiet (fail)
            go_wp2_with fail
            go_quiet (fail)
            go_wp2
            go_roundw
            case rel =>
              refine ⟨j + 1, by omega, by go_num, ?_⟩
              rw [E1.out, E2.out, if_pos q1, if_neg q2]
              exact ((HT.out.drewN _).setA _).drewN _
            case measure => simp [intOf]; omega
        · have q1' : ¬ (x : Int) < (M j : Int) := by omega
          by_cases q2 : X j < x
          · have q2' : (X j : Int) < (x : Int) := by omega
            go_wp2_with fail
            go_quiet (fail)
            go_wp2_with fail
            go_quiet (fail)
            go_wp2
            go_roundw
            case rel =>
              refine ⟨j + 1, by omega, by go_num, ?_⟩
              rw [E1.out, E2.out, if_neg q1, if_pos q2]
              first | exact ((HT.out.drewN _).drewN _).setB _ | exact (HT.out.drewN _).setB _
            case measure => simp [intOf]; omega
          · have q2' : ¬ (X j : Int) < (x : Int) := by omega
            go_wp2_with fail
            go_quiet (fail)
            go_wp2_with fail
            go_quiet (fail)
            go_wp2
            go_roundw
            case rel =>
              refine ⟨j + 1, by omega, by go_num, ?_⟩
              rw [E1.out, E2.out, if_neg q1, if_neg q2]
              first | exact (HT.out.drewN _).drewN _ | exact HT.out.drewN _
            case measure => simp [intOf]; omega
      · have e : j = n := by omega
        subst e
        clear HC HM HX H1 H2 HV HT
        obtain ⟨_, x0, x1, x2, f0, f1, f2⟩ := R
        obtain ⟨_, y0, y1, y2, g0, g1, g2⟩ := Y
        go_wp2
        exact bodyPost_ret (v := conV ⟨2, M j, X j⟩) (by simp [results, Try.results44, go_sem, x0, x1, x2]) rfl ⟨rfl, below_set3 B (Nat.le_refl _) _ _ _⟩
end Go.Proofs.Ytpbljegjinjmnaa
