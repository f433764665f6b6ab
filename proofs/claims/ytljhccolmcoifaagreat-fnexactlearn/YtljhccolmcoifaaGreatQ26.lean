/-
  RuleC, LpgD, LpgE
-/
import Derived.Test.YtljhccolmcoifaaGreatQ25
import Derived.Test.YtljhccolmcoifaaGreatQ14
import Derived.Test.YtljhccolmcoifaaGreatQ07
import Derived.Shelf.SlSortCmp.InsertionK
import Derived.Test.YtljhccolmcoifaaGreatQ23
import Derived.Test.YtljhccolmcoifaaGreatQ12
namespace Go.Proofs.YtljhccolmcoifaaGreat
open Go.Shelf Go.RowKit Go.Lib Go.Sort
set_option linter.unusedVariables false

/-- memory is made and order drawn: nothing else -/
def LB (w w' : World) : Prop := Below w.heap.size w w' ∧ w.drawn ≤ w'.drawn
theorem LB.refl (w : World) : LB w w := ⟨Below.refl _ _, Nat.le_refl _⟩
theorem LB.trans {a b c : World} (h : LB a b) (h' : LB b c) : LB a c := ⟨h.1.trans (h'.1.mono h.1.size), Nat.le_trans h.2 h'.2⟩
theorem LB.alloc {a b : World} (h : LB a b) (o : Obj) : LB a (b.alloc o) := ⟨h.1.alloc h.1.size o, h.2⟩
theorem LB.drew {a b : World} (h : LB a b) : LB a b.drew := ⟨h.1.drew, Nat.le_succ_of_le h.2⟩
theorem LB.drewN {a b : World} (h : LB a b) (n : Nat) : LB a (b.drewN n) := ⟨below_drewN h.1 n, Nat.le_add_right_of_le h.2⟩
theorem drawn_setCell (w : World) (p : Addr) (v : Value) : (w.setCell p v).drawn = w.drawn := by
  unfold World.setCell; (first | rfl | (split <;> rfl) | (split <;> (try split) <;> rfl))
theorem LB.setCell {a b : World} (h : LB a b) {p : Addr} (hp : a.heap.size ≤ p.block) (v : Value) : LB a (b.setCell p v) := ⟨h.1.setCell hp v, by rw [drawn_setCell]; exact h.2⟩
theorem LB.lays {w w' : World} (h : LB w w') : ∃ q os, w' = grow (w.drewN q) os := by
  obtain ⟨⟨h1, h2, h3, h4, h5⟩, h6⟩ := h
  refine ⟨w'.drawn - w.drawn, w'.heap.extract w.heap.size w'.heap.size, ?_⟩
  obtain ⟨heap, tape, drawn, os, output⟩ := w
  obtain ⟨heap', tape', drawn', os', output'⟩ := w'
  simp only at h1 h2 h3 h4 h5 h6
  subst h1; subst h2; subst h3
  simp only [grow, World.drewN, World.mk.injEq, true_and, and_true]
  refine ⟨?_, by omega⟩
  apply Array.ext_getElem?
  intro i
  by_cases hi : i < heap.size
  · rw [Array.getElem?_append_left hi]; exact h5 i hi
  · rw [Array.getElem?_append_right (by omega)]
    by_cases h2 : i < heap'.size
    · rw [Array.getElem?_extract]
      simp only [Nat.min_self]
      rw [if_pos (by omega)]
      congr 1; omega
    · rw [Array.getElem?_eq_none (by omega), Array.getElem?_eq_none (by simp; omega)]
theorem lays_LB {w w' : World} {q : Nat} {os : Array Obj} (h : w' = grow (w.drewN q) os) : LB w w' := by
  subst h
  refine ⟨⟨rfl, rfl, rfl, by simp [grow, World.drewN], fun k hk => ?_⟩, by simp [grow, World.drewN]⟩
  simp only [grow, World.drewN]
  rw [Array.getElem?_append_left hk]

set_option maxRecDepth 100000 in
set_option maxHeartbeats 1000000 in
theorem conMask_lb (a b : Nat) (w : World) :
    Calls Tryz.prog 171 #[.agg #[.int .u64 (a : Int), .int .u64 (b : Int)]] w fun e w' => e = .returned (conV ⟨1, a, b⟩) ∧ LB w w' := by
  go_enter Tryz.func171, Tryz.ntmps171
  go_wp2
  refine bodyPost_ret (v := conV ⟨1, a, b⟩) (by simp [results, Tryz.results171, go_sem]) rfl ⟨rfl, ?_⟩
  exact ((LB.refl _).alloc _).alloc _
set_option maxRecDepth 100000 in
set_option maxHeartbeats 1000000 in
theorem conRange_lb (a b : Nat) (w : World) :
    Calls Tryz.prog 161 #[.agg #[.int .u64 (a : Int), .int .u64 (b : Int)]] w fun e w' => e = .returned (conV ⟨2, a, b⟩) ∧ LB w w' := by
  go_enter Tryz.func161, Tryz.ntmps161
  go_wp2
  refine bodyPost_ret (v := conV ⟨2, a, b⟩) (by simp [results, Tryz.results161, go_sem]) rfl ⟨rfl, ?_⟩
  exact ((LB.refl _).alloc _).alloc _
set_option maxRecDepth 100000 in
set_option maxHeartbeats 1000000 in
theorem conAny_lb (w : World) :
    Calls Tryz.prog 166 #[.agg #[]] w fun e w' => e = .returned (conV ⟨0, 0, 0⟩) ∧ LB w w' := by
  go_enter Tryz.func166, Tryz.ntmps166
  go_wp2
  refine bodyPost_ret (v := conV ⟨0, 0, 0⟩) (by simp [results, Tryz.results166, go_sem]) rfl ⟨rfl, ?_⟩
  exact ((LB.refl _).alloc _).alloc _

/-- the method 'con' through the interface, in whatever region -/
def MethC (c : K) : Prop := ∃ T P F, setV c = .iface T P ∧ (∀ w, (method 309 T P "loop.example/s0039/impl.con").run Tryz.prog w = .ok (F, P) w) ∧ (∀ (xs : Array Value) (w : World), (callFunc F xs).run Tryz.prog w = .ok (.enter F xs) w) ∧ (∀ w, (nilAhead 309 T P "loop.example/s0039/impl.con").run Tryz.prog w = .ok (some false) w) ∧
  ∀ w, Calls Tryz.prog F #[P] w fun e w' => e = .returned (conV c) ∧ LB w w'
theorem methC {c : K} (h : Normal c) : MethC c := by
  rcases h with rfl | ⟨a, b, rfl, _⟩ | ⟨a, b, rfl, _⟩
  · exact ⟨_, _, 166, rfl, fun _ => by kernel_rfl, fun _ _ => by kernel_rfl, fun _ => by kernel_rfl, conAny_lb⟩
  · exact ⟨_, _, 171, rfl, fun _ => by kernel_rfl, fun _ _ => by kernel_rfl, fun _ => by kernel_rfl, conMask_lb a b⟩
  · exact ⟨_, _, 161, rfl, fun _ => by kernel_rfl, fun _ _ => by kernel_rfl, fun _ => by kernel_rfl, conRange_lb a b⟩

theorem or3_then (x y z : Int) : or3 x y z = thenO x (thenO y z) := by
  unfold or3 thenO
  by_cases h : x = 0
  · rw [if_neg (by simpa using h), if_pos h]
    by_cases h2 : y = 0
    · rw [if_neg (by simpa using h2), if_pos h2]
    · rw [if_pos h2, if_neg h2]
  · rw [if_pos h, if_neg h]
theorem natU {a : Nat} (h : a < 18446744073709551616) : isU64 (a : Int) := by unfold isU64; omega

def encR (r : Ru) : List Value := [setV (r.getD 0 K.zero), setV (r.getD 1 K.zero), setV (r.getD 2 K.zero), setV (r.getD 3 K.zero), setV (r.getD 4 K.zero), setV (r.getD 5 K.zero)]
theorem encR_at (r : Ru) {i : Nat} (h : i < 6) : (encR r)[i]? = some (setV (r.getD i K.zero)) := by
  have : i = 0 ∨ i = 1 ∨ i = 2 ∨ i = 3 ∨ i = 4 ∨ i = 5 := by omega
  rcases this with rfl | rfl | rfl | rfl | rfl | rfl <;> rfl
theorem lexO_at {α : Type} (d : α) {ord : α → α → Int} : ∀ (a b : List α) (k : Nat), a.length = b.length → k < a.length → (∀ j, j < k → ord (a.getD j d) (b.getD j d) = 0) → ord (a.getD k d) (b.getD k d) ≠ 0 → lexO ord a b = ord (a.getD k d) (b.getD k d)
  | [], _, k, _, h, _, _ => by simp at h
  | a :: r, [], k, h, _, _, _ => by simp at h
  | a :: r, b :: s, 0, h, _, _, h1 => by
    simp at h1 ⊢
    rw [lexO, if_neg h1]
  | a :: r, b :: s, k + 1, h, hk, h0, h1 => by
    have z := h0 0 (by omega)
    simp at z
    rw [lexO, if_pos z]
    have := lexO_at d r s k (by simpa using h) (by simpa using hk) (fun j hj => by have := h0 (j + 1) (by omega); simpa using this) (by simpa using h1)
    simpa using this
theorem lexO_all {α : Type} (d : α) {ord : α → α → Int} : ∀ (a b : List α), a.length = b.length → (∀ j, j < a.length → ord (a.getD j d) (b.getD j d) = 0) → lexO ord a b = 0
  | [], [], _, _ => rfl
  | [], _ :: _, h, _ => by simp at h
  | a :: r, [], h, _ => by simp at h
  | a :: r, b :: s, h, h0 => by
    have z := h0 0 (by simp)
    simp at z
    rw [lexO, if_pos z]
    exact lexO_all d r s (by simpa using h) (fun j hj => by have := h0 (j + 1) (by simpa using hj); simpa using this)

end Go.Proofs.YtljhccolmcoifaaGreat
namespace Go.Proofs.YtljhccolmcoifaaGreat
open Go.RowKit Go.Deep
set_option linter.unusedVariables false

def get2L (x y : Int) (j : Nat) : Int := if j = 0 then x else y
set_option maxRecDepth 100000 in
set_option maxHeartbeats 1000000 in
theorem cmpOr2_lb (g : Nat) (x y : Int) (w : World) (c : ∀ j, j < 2 → w.cell? ⟨g, j, none⟩ = some (.int .i64 (get2L x y j))) :
    Calls Tryz.prog 54 #[.slice (some ⟨g, 0, none⟩) 2 2] w fun e w' => e = .returned (.int .i64 (thenO x y)) ∧ w' = w := by
  have HC : Hid (∀ j, j < 2 → w.cell? ⟨g, j, none⟩ = some (.int .i64 (get2L x y j))) := c
  have H1 : Hid (∀ j, j < 2 → (∀ i, i < j → get2L x y i = 0) → get2L x y j ≠ 0 → thenO x y = get2L x y j) := by
    intro j hj h0 h1
    have : j = 0 ∨ j = 1 := by omega
    rcases this with rfl | rfl
    · simp only [get2L, if_true] at h1 ⊢; unfold thenO; rw [if_neg h1]
    · have a0 := h0 0 (by omega)
      simp [get2L] at h1 a0 ⊢; unfold thenO; rw [if_pos a0]
  have H2 : Hid ((∀ i, i < 2 → get2L x y i = 0) → thenO x y = 0) := by
    intro h0
    have a0 := h0 0 (by omega)
    have a1 := h0 1 (by omega)
    simp [get2L] at a0 a1; unfold thenO; rw [if_pos a0, a1]
  generalize thenO x y = R at *
  generalize get2L x y = G at *
  clear c
  go_enter Tryz.func54, Tryz.ntmps54
  go_wp2_with fail
  go_loopw [8] (fun i wr => ∃ j : Nat, j ≤ 2 ∧ i = .int .i64 j ∧ wr = w ∧ Hid (∀ i, i < j → G i = 0)) (fun i _ => 2 - (intOf i).toNat)
  case atStart => exact ⟨0, by omega, rfl, rfl, fun i hi => by omega⟩
  case round =>
    obtain ⟨j, hj, rfl, rfl, HJ⟩ := hrel
    by_cases hlt : j < 2
    · have c0 := HC.out j hlt
      by_cases hq : G j = 0
      · have HJ2 : Hid (∀ i, i < j + 1 → G i = 0) := by
          intro i hi
          by_cases e : i = j
          · rw [e]; exact hq
          · exact HJ.out i (by omega)
        rw [hq] at c0
        clear HC H1 H2 HJ hq
        go_wp2
        go_roundw
        case rel => exact ⟨j + 1, by omega, by go_num, trivial, HJ2⟩
        case measure => simp [intOf]; omega
      · have E : Hid (R = G j) := H1.out j hlt HJ.out hq
        have hq' : (G j != 0) = true := by simpa using hq
        clear HC H1 H2 HJ
        generalize G j = q at *
        go_wp2
        go_ret
        exact ⟨ret_int E.out.symm, rfl⟩
    · have E : Hid (R = 0) := H2.out (fun i hi => HJ.out i (by omega))
      clear HC H1 H2 HJ
      go_wp2
      go_ret
      exact ⟨ret_int E.out.symm, rfl⟩

set_option maxRecDepth 100000 in
set_option maxHeartbeats 1000000 in
theorem compareIDs_any (p q : Id2) (w : World) (hp : (0 ≤ p.1 ∧ p.1 ≤ 4294967295) ∧ 0 ≤ p.2 ∧ p.2 ≤ 4294967295) (hq : (0 ≤ q.1 ∧ q.1 ≤ 4294967295) ∧ 0 ≤ q.2 ∧ q.2 ≤ 4294967295) :
    Calls Tryz.prog 27 #[.agg #[.int .u32 p.1, .int .u32 p.2], .agg #[.int .u32 q.1, .int .u32 q.2]] w fun e w' => e = .returned (.int .i64 (ordP p q)) ∧ LB w w' := by
  have HA : Hid (∀ w1 p q, 0 ≤ p → p ≤ 4294967295 → 0 ≤ q → q ≤ 4294967295 → Calls Tryz.prog 55 #[.int .u32 p, .int .u32 q] w1 fun e w' => e = .returned (.int .i64 (ordI p q)) ∧ w' = w1) := fun w1 p q h1 h2 h3 h4 => cmp32_any _ _ w1 ⟨h1, h2⟩ ⟨h3, h4⟩
  obtain ⟨ar, nr⟩ := p
  obtain ⟨ar', nr'⟩ := q
  simp only at *
  obtain ⟨⟨p0, p1⟩, p2, p3⟩ := hp
  obtain ⟨⟨r0, r1⟩, r2, r3⟩ := hq
  have HR : Hid (ordP (ar, nr) (ar', nr') = thenO (ordI ar ar') (ordI nr nr')) := rfl
  have HOr : Hid (∀ w1 : World, Calls Tryz.prog 54 #[.slice (some ⟨w1.heap.size, 0, none⟩) 2 2] (w1.alloc (.cells #[.int .i64 (ordI ar ar'), .int .i64 (ordI nr nr')] 3)).drew fun e w' => e = .returned (.int .i64 (ordP (ar, nr) (ar', nr'))) ∧ w' = (w1.alloc (.cells #[.int .i64 (ordI ar ar'), .int .i64 (ordI nr nr')] 3)).drew) := by
    intro w1
    rw [HR.out]
    refine cmpOr2_lb w1.heap.size _ _ _ (fun j hj => ?_)
    have : j = 0 ∨ j = 1 := by omega
    rcases this with rfl | rfl <;> simp [get2L]
  clear HR
  generalize ordP (ar, nr) (ar', nr') = R at *
  have B0 : Below w.heap.size w ((w.alloc (.cells #[.int .u32 ar, .int .u32 nr] 59)).alloc (.cells #[.int .u32 ar', .int .u32 nr'] 59)) := ((Below.refl _ _).alloc (Nat.le_refl _) _).alloc (by simp) _
  have B0L : LB w ((w.alloc (.cells #[.int .u32 ar, .int .u32 nr] 59)).alloc (.cells #[.int .u32 ar', .int .u32 nr'] 59)) := ((LB.refl _).alloc _).alloc _
  have x0 : ((w.alloc (.cells #[.int .u32 ar, .int .u32 nr] 59)).alloc (.cells #[.int .u32 ar', .int .u32 nr'] 59)).cell? ⟨w.heap.size, 0, none⟩ = some (.int .u32 ar) := cell_step ((Below.refl _ _).alloc (Nat.le_refl _) _) (by simp)
  have x1 : ((w.alloc (.cells #[.int .u32 ar, .int .u32 nr] 59)).alloc (.cells #[.int .u32 ar', .int .u32 nr'] 59)).cell? ⟨w.heap.size, 1, none⟩ = some (.int .u32 nr) := cell_step ((Below.refl _ _).alloc (Nat.le_refl _) _) (by simp)
  have hs1 : (w.alloc (.cells #[.int .u32 ar, .int .u32 nr] 59)).heap.size = w.heap.size + 1 := by simp
  have y0 : ((w.alloc (.cells #[.int .u32 ar, .int .u32 nr] 59)).alloc (.cells #[.int .u32 ar', .int .u32 nr'] 59)).cell? ⟨w.heap.size + 1, 0, none⟩ = some (.int .u32 ar') := by rw [← hs1]; simp
  have y1 : ((w.alloc (.cells #[.int .u32 ar, .int .u32 nr] 59)).alloc (.cells #[.int .u32 ar', .int .u32 nr'] 59)).cell? ⟨w.heap.size + 1, 1, none⟩ = some (.int .u32 nr') := by rw [← hs1]; simp
  clear hs1
  go_enter Tryz.func27, Tryz.ntmps27
  go_wp2_with fail
  generalize (w.alloc (.cells #[.int .u32 ar, .int .u32 nr] 59)).alloc (.cells #[.int .u32 ar', .int .u32 nr'] 59) = W at *
  have HS0 : LB W W.drew := (LB.refl _).drew
  go_region_held3 (fun w' => LB W w' ∧ w'.cell? ⟨w.heap.size, 0, none⟩ = some (.int .u32 ar) ∧ w'.cell? ⟨w.heap.size, 1, none⟩ = some (.int .u32 nr) ∧ w'.cell? ⟨w.heap.size + 1, 0, none⟩ = some (.int .u32 ar') ∧ w'.cell? ⟨w.heap.size + 1, 1, none⟩ = some (.int .u32 nr'))
    (refine ⟨?_, ?_, ?_, ?_, ?_⟩ <;> first | assumption | exact LB.alloc (by assumption) _ | exact cell_alloc_some _ (by assumption) | (simp [*]; done))
    (first
      | (go_at_call 55; refine (HA.out _ _ _ (by assumption) (by assumption) (by assumption) (by assumption)).mono ?_; rintro e w' ⟨rfl, rfl⟩)
      | (go_at_call 54; refine (HOr.out _).mono ?_; rintro e w' ⟨rfl, rfl⟩))
  have B1 : LB w ((W.alloc (.cells #[.int .i64 (ordI ar ar'), .int .i64 (ordI nr nr')] 3)).drew) := (B0L.alloc _).drew
  go_wp2
  go_ret
  exact ⟨rfl, B1⟩
end Go.Proofs.YtljhccolmcoifaaGreat
namespace Go.Proofs.YtljhccolmcoifaaGreat
open Go.RowKit Go.Deep
set_option linter.unusedVariables false

/-- a cell of a list of six numbers -/
def bxA (w : World) (x : La) : World := w.alloc (.cells #[xA x 0, xA x 1, xA x 2, xA x 3, xA x 4, xA x 5] 69)
theorem bxA_src (w : World) {x : La} (h : okLa x) : USrc (bxA w x) (some ⟨w.heap.size, 0, none⟩) x := .inr ⟨_, _, rfl, by simp [bxA], fun i hi => by
  rw [h.1] at hi; rw [Nat.zero_add]; exact six_cells w x _ hi⟩

set_option maxRecDepth 100000 in
set_option maxHeartbeats 1000000 in
theorem compareArgLists_any (x y : La) (w : World) (hx : okLa x) (hy : okLa y) :
    Calls Tryz.prog 29 #[.agg #[xA x 0, xA x 1, xA x 2, xA x 3, xA x 4, xA x 5], .agg #[xA y 0, xA y 1, xA y 2, xA y 3, xA y 4, xA y 5]] w fun e w' => e = .returned (.int .i64 (ordL x y)) ∧ LB w w' := by
  have HC : Hid (∀ w1, LB (bxA (bxA w x) y) w1 → Calls Tryz.prog 59 #[.slice (some ⟨w.heap.size, 0, none⟩) 6 6, .slice (some ⟨w.heap.size + 1, 0, none⟩) 6 6] w1 fun e w' => e = .returned (.int .i64 (ordL x y)) ∧ w' = w1) := by
    intro w1 hb
    have h1 := ((bxA_src w hx).below (w' := bxA (bxA w x) y) ((Below.refl _ _).alloc (Nat.le_refl _) _)).below hb.1
    have h2 := (bxA_src (bxA w x) hy).below hb.1
    rw [show (bxA w x).heap.size = w.heap.size + 1 by simp [bxA]] at h2
    have := slicesCompare_any _ _ 6 6 x y w1 h1 h2 hx.2 hy.2 (by rw [hx.1]; omega) (by rw [hy.1]; omega)
    rw [hx.1, hy.1] at this
    exact this
  have B0 : LB w (bxA (bxA w x) y) := ((LB.refl w).alloc _).alloc _
  have hD : LB (bxA (bxA w x) y) (bxA (bxA w x) y).drew := (LB.refl _).drew
  have B1 : LB w (bxA (bxA w x) y).drew := B0.drew
  unfold bxA at *
  generalize ordL x y = z at *
  generalize xA x 0 = x0 at *
  generalize xA x 1 = x1 at *
  generalize xA x 2 = x2 at *
  generalize xA x 3 = x3 at *
  generalize xA x 4 = x4 at *
  generalize xA x 5 = x5 at *
  generalize xA y 0 = y0 at *
  generalize xA y 1 = y1 at *
  generalize xA y 2 = y2 at *
  generalize xA y 3 = y3 at *
  generalize xA y 4 = y4 at *
  generalize xA y 5 = y5 at *
  go_enter Tryz.func29, Tryz.ntmps29
  go_wp2_with fail
  generalize (w.alloc (.cells #[x0, x1, x2, x3, x4, x5] 69)).alloc (.cells #[y0, y1, y2, y3, y4, y5] 69) = W at *
  go_region_held3 (fun w' => LB W w')
    (assumption)
    (first
      | (go_at_call 59; refine (HC.out _ (by assumption)).mono ?_; rintro e w' ⟨rfl, rfl⟩))
  go_wp2
  go_ret
  exact ⟨rfl, by assumption⟩
end Go.Proofs.YtljhccolmcoifaaGreat
