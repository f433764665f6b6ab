/-
  CONTRACT of the model's run, a theorem a kind of instruction. (Written by a script of our own, wip/gen/specg.py.)
-/
import Derived.Test.YtjfgihmamoiipaaSpecG
import Derived.Test.YtjfgihmamoiipaaMathV
import Derived.Deep.RegionWith
import Derived.Deep.DrawnRows
namespace Go.Proofs.Ytjfgihmamoiipaa
open Go.RowKit
set_option linter.unusedVariables false
attribute [local go_sem ↓] Go.wp_at_zero Go.wp_at_succ

theorem regs_row (w : World) (a x : Int) (v : Value) : (w.alloc (Obj.cells #[Value.int IntKind.i64 a, Value.int IntKind.i64 x, v] 110)).rowIs w.heap.size 110 3 (fun i => if i = 0 then .int .i64 a else if i = 1 then .int .i64 x else v) := by
  refine World.rowIs_alloc w #[Value.int IntKind.i64 a, Value.int IntKind.i64 x, v] 110 _ (fun i hi => ?_)
  match i, hi with
  | 0, _ => rfl
  | 1, _ => rfl
  | 2, _ => rfl

theorem regs_set {w w1 : World} {D : Nat} {a x : Int} {v : Value} (h : w.rowIs D 110 3 (fun i => if i = 0 then .int .i64 a else if i = 1 then .int .i64 x else v)) (hb : Below w.heap.size w w1) :
    (∀ y, (w1.setCell ⟨D, 0, none⟩ (.int .i64 y)).rowIs D 110 3 (fun i => if i = 0 then .int .i64 y else if i = 1 then .int .i64 x else v)) ∧
    (∀ y, (w1.setCell ⟨D, 2, none⟩ y).rowIs D 110 3 (fun i => if i = 0 then .int .i64 a else if i = 1 then .int .i64 x else y)) := by
  have h1 := h.of_block (hb.block D h.lt)
  constructor
  · intro y
    refine (h1.set 0 (.int .i64 y)).congr (fun i hi => ?_)
    match i, hi with
    | 0, _ => rfl
    | 1, _ => rfl
    | 2, _ => rfl
  · intro y
    refine (h1.set 2 y).congr (fun i hi => ?_)
    match i, hi with
    | 0, _ => rfl
    | 1, _ => rfl
    | 2, _ => rfl

theorem l1alu_below (op a v : Int) (w : World) (ha : isWord a) (hv : isWord v) (hop : op = 0 ∨ op = 1 ∨ op = 2 ∨ (op = 3 ∧ v ≠ 0) ∨ op = 4 ∨ op = 5 ∨ op = 10 ∨ op = 8 ∨ op = 6 ∨ op = 7) :
    Calls Try.prog 103 #[.int .i64 op, .int .i64 a, .int .i64 v] w fun e w' => e = .returned (.int .i64 (aluL op a v)) ∧ Below w.heap.size w w' :=
  (l1alu_any op a v w ha hv hop).mono (by rintro e w' ⟨rfl, m, rfl⟩; exact ⟨rfl, below_drewN (Below.refl _ _) _⟩)

set_option maxHeartbeats 1000000 in
set_option maxRecDepth 100000 in
theorem go_load (b o n cap rb ro rc mb mo mc : Nat) (jt jf k : Int) (r : List Int) (s : S) (w : World) (R : Nat → S → Int × Int) (hR : Rest w b o n rb ro rc R) (hRb : ∀ d s, 0 ≤ (R d s).2 ∧ (R d s).2 ≤ 4096) (hn : 2 ≤ n) (hn2 : n ≤ 4096) (hcap : n ≤ cap) (hs : s.ok) (hi : I.ok ⟨32, jt, jf, k⟩)
    (hb : b < w.heap.size) (hrb : rb < w.heap.size) (hr : BytesAt w rb ro r) (hrl : r.length = 64) (hrr : isBytes r) (hmb : mb < w.heap.size) (hm : MemAt w mb mo s.m)
    (c0 : w.cell? ⟨b, o, none⟩ = some (.int .u16 32)) (c1 : w.cell? ⟨b, o + 1, none⟩ = some (.int .u8 jt)) (c2 : w.cell? ⟨b, o + 2, none⟩ = some (.int .u8 jf)) (c3 : w.cell? ⟨b, o + 3, none⟩ = some (.int .u32 k)) (hk : k ≤ 60) :
    Calls Try.prog 85 #[.slice (some ⟨b, o, none⟩) n cap, .slice (some ⟨rb, ro, none⟩) 64 rc, .agg #[.int .i64 s.a, .int .i64 s.x, .slice (some ⟨mb, mo, none⟩) 16 mc]] w
      fun e w' => e = .returned (.tuple #[.int .i64 (R (0) ⟨wordL r k.toNat, s.x, s.m⟩).1, .int .i64 ((R (0) ⟨wordL r k.toNat, s.x, s.m⟩).2 + 1)]) ∧ Below w.heap.size w w' := by
  have HR : Hid _ := hR
  obtain ⟨h1, h2, h3, h4, h5, h6, h7, h8⟩ := hi
  simp only at h1 h2 h3 h4 h5 h6 h7 h8
  obtain ⟨a, x, m⟩ := s
  have HS : Hid (S.ok ⟨wordL r k.toNat, x, m⟩) := ⟨wordL_word hrr _, hs.2.1, hs.2.2⟩
  have hst := hRb (0) ⟨wordL r k.toNat, x, m⟩
  clear hR hRb
  simp only at hm
  have i1 : (0 : Int) < (n : Int) := by omega
  have i2 : (1 : Int) ≤ (n : Int) := by omega
  have i3 : (1 : Int) ≤ (cap : Int) := by omega
  have i4 : (n : Int) ≤ (cap : Int) := by omega
  have i5 : ¬ cap = 1 := by omega
  have wr1 : IntKind.i64.wrap 1 = 1 := by rw [IntKind.wrap_i64]; rfl
  have HW : Hid (∀ wx, Below w.heap.size w wx → Calls Try.prog 105 #[.slice (some ⟨rb, ro, none⟩) 64 rc, .int .i64 k] wx fun e w' => e = .returned (.int .i64 (wordL r k.toNat)) ∧ Below wx.heap.size wx w') := fun wx hBx => by
    have h := l1word_any rb ro rc k.toNat r wx (fun i hi => (hBx.cell (p := ⟨rb, _, none⟩) hrb).trans (hr i hi)) hrr hrl (by omega)
    rw [show ((k.toNat : Nat) : Int) = k by omega] at h
    exact h
  generalize wordL r k.toNat = y at *
  go_enter Try.func85, Try.ntmps85
  have hrow0 := regs_row w a x (Value.slice (some ⟨mb, mo, none⟩) 16 mc)
  have HB0 : Hid (Below w.heap.size w (w.alloc (Obj.cells #[Value.int IntKind.i64 a, Value.int IntKind.i64 x, Value.slice (some ⟨mb, mo, none⟩) 16 mc] 110))) := (Below.refl _ _).alloc (Nat.le_refl _) _
  go_wp2_with fail
  refine (HW.out _ HB0.out).mono ?_
  rintro e w1 ⟨rfl, hb1⟩
  have hB1 : Below w.heap.size w w1 := HB0.out.trans (hb1.mono (by simp))
  have hc1 := (bcell hb1).1
  have hf1 := (bcell hb1).2
  have hz1 : w.heap.size < w1.heap.size := by have := hb1.size; simp at this; omega
  go_wp2_with fail
  have hrow := (regs_set hrow0 hb1).1 (y)
  have e0 := hrow.cell (i := 0) (by omega)
  have e1 := hrow.cell (i := 1) (by omega)
  have e2 := hrow.cell (i := 2) (by omega)
  have hz := hrow.lt
  simp only [if_true, if_false, Nat.one_ne_zero, show ¬ (2 = 0) from by omega, show ¬ (2 = 1) from by omega] at e0 e1 e2
  have hB : Below w.heap.size w (w1.setCell ⟨w.heap.size, 0, none⟩ (.int .i64 (y))) := hB1.setCell (Nat.le_refl _) _
  clear hrow hrow0 hc1 hf1 hB1 HB0 hb1
  generalize w1.setCell ⟨w.heap.size, 0, none⟩ (.int .i64 (y)) = W at *
  have HM : Hid (MemAt W mb mo m) := fun j hj => (hB.cell (p := ⟨mb, _, none⟩) hmb).trans (hm j hj)
  have hw1 : mb < W.heap.size := by omega
  clear hm
  generalize hDe : w.heap.size = D at *
  have HB : Hid (Below D w W) := hB
  have HDe : Hid (w.heap.size = D) := hDe
  clear c0 c1 c2 c3 hDe hr
  go_region_held3 (fun w' => w'.cell? ⟨D, 0, none⟩ = some (.int .i64 (y)) ∧ w'.cell? ⟨D, 1, none⟩ = some (.int .i64 (x)) ∧ w'.cell? ⟨D, 2, none⟩ = some (.slice (some ⟨mb, mo, none⟩) 16 mc))
    (first | go_keep | (go_split_ands; refine ⟨?_, ?_, ?_⟩; all_goals (rw [hq1 _ _ (by simpa using hz)]; assumption)))
    ((go_at_call 85; refine (HR.out (0) ⟨y, x, m⟩ _ _ mb mo mc ?_ ?_ ?_ ?_ ?_ ?_).mono ?_; (omega); (omega); (exact HS.out); (exact HB.out.drew); (exact hw1); (exact HM.out); rintro e w' ⟨rfl, hbb⟩; have hq1 := (bcell hbb).1))
  go_wp2
  go_ret2
  refine ⟨rfl, ?_⟩
  rw [HDe.out]
  exact HB.out.drew.trans (Below.mono (by assumption) (by simp; omega))

set_option maxHeartbeats 1000000 in
set_option maxRecDepth 100000 in
theorem go_puta (b o n cap rb ro rc mb mo mc : Nat) (jt jf k : Int) (r : List Int) (s : S) (w : World) (R : Nat → S → Int × Int) (hR : Rest w b o n rb ro rc R) (hRb : ∀ d s, 0 ≤ (R d s).2 ∧ (R d s).2 ≤ 4096) (hn : 2 ≤ n) (hn2 : n ≤ 4096) (hcap : n ≤ cap) (hs : s.ok) (hi : I.ok ⟨2, jt, jf, k⟩)
    (hb : b < w.heap.size) (hrb : rb < w.heap.size) (hr : BytesAt w rb ro r) (hrl : r.length = 64) (hrr : isBytes r) (hmb : mb < w.heap.size) (hm : MemAt w mb mo s.m)
    (c0 : w.cell? ⟨b, o, none⟩ = some (.int .u16 2)) (c1 : w.cell? ⟨b, o + 1, none⟩ = some (.int .u8 jt)) (c2 : w.cell? ⟨b, o + 2, none⟩ = some (.int .u8 jf)) (c3 : w.cell? ⟨b, o + 3, none⟩ = some (.int .u32 k)) (hk : k < 16) :
    Calls Try.prog 85 #[.slice (some ⟨b, o, none⟩) n cap, .slice (some ⟨rb, ro, none⟩) 64 rc, .agg #[.int .i64 s.a, .int .i64 s.x, .slice (some ⟨mb, mo, none⟩) 16 mc]] w
      fun e w' => e = .returned (.tuple #[.int .i64 (R (0) ⟨s.a, s.x, (fun j => if j = k.toNat then s.a else s.m j)⟩).1, .int .i64 ((R (0) ⟨s.a, s.x, (fun j => if j = k.toNat then s.a else s.m j)⟩).2 + 1)]) ∧ Below w.heap.size w w' := by
  have HR : Hid _ := hR
  obtain ⟨h1, h2, h3, h4, h5, h6, h7, h8⟩ := hi
  simp only at h1 h2 h3 h4 h5 h6 h7 h8
  obtain ⟨a, x, m⟩ := s
  have HS : Hid (S.ok ⟨a, x, (fun j => if j = k.toNat then a else m j)⟩) := ⟨hs.1, hs.2.1, fun j => by simp only; split; exact hs.1; exact hs.2.2 j⟩
  have hst := hRb (0) ⟨a, x, (fun j => if j = k.toNat then a else m j)⟩
  clear hR hRb
  simp only at hm
  have i1 : (0 : Int) < (n : Int) := by omega
  have i2 : (1 : Int) ≤ (n : Int) := by omega
  have i3 : (1 : Int) ≤ (cap : Int) := by omega
  have i4 : (n : Int) ≤ (cap : Int) := by omega
  have i5 : ¬ cap = 1 := by omega
  have wr1 : IntKind.i64.wrap 1 = 1 := by rw [IntKind.wrap_i64]; rfl
  have HW : Hid (∀ wx, Below w.heap.size w wx → Calls Try.prog 106 #[.slice (some ⟨mb, mo, none⟩) 16 mc, .int .i64 k, .int .i64 a] wx fun e w' => ∃ g c, e = .returned (.slice (some ⟨g, 0, none⟩) 16 c) ∧ wx.heap.size ≤ g ∧ g < w'.heap.size ∧ MemAt w' g 0 (fun j => if j = k.toNat then a else m j) ∧ Below wx.heap.size wx w') := fun wx hBx => by
    have h := l1put_any mb mo mc k.toNat m a wx (Nat.lt_of_lt_of_le hmb hBx.size) (fun j hj => (hBx.cell (p := ⟨mb, _, none⟩) hmb).trans (hm j hj)) (by omega)
    rw [show ((k.toNat : Nat) : Int) = k by omega] at h
    exact h
  go_enter Try.func85, Try.ntmps85
  have hrow0 := regs_row w a x (Value.slice (some ⟨mb, mo, none⟩) 16 mc)
  have HB0 : Hid (Below w.heap.size w (w.alloc (Obj.cells #[Value.int IntKind.i64 a, Value.int IntKind.i64 x, Value.slice (some ⟨mb, mo, none⟩) 16 mc] 110))) := (Below.refl _ _).alloc (Nat.le_refl _) _
  go_wp2_with fail
  refine (HW.out _ HB0.out).mono ?_
  rintro e w1 ⟨g, gc, rfl, hgge, hg, hMg, hb1⟩
  have hB1 : Below w.heap.size w w1 := HB0.out.trans (hb1.mono (by simp))
  have hc1 := (bcell hb1).1
  have hf1 := (bcell hb1).2
  have hz1 : w.heap.size < w1.heap.size := by have := hb1.size; simp at this; omega
  go_wp2_with fail
  have hrow := (regs_set hrow0 hb1).2 ((.slice (some ⟨g, 0, none⟩) 16 gc))
  have e0 := hrow.cell (i := 0) (by omega)
  have e1 := hrow.cell (i := 1) (by omega)
  have e2 := hrow.cell (i := 2) (by omega)
  have hz := hrow.lt
  simp only [if_true, if_false, Nat.one_ne_zero, show ¬ (2 = 0) from by omega, show ¬ (2 = 1) from by omega] at e0 e1 e2
  have hB : Below w.heap.size w (w1.setCell ⟨w.heap.size, 2, none⟩ (.slice (some ⟨g, 0, none⟩) 16 gc)) := hB1.setCell (Nat.le_refl _) _
  have hgne : w.heap.size ≠ g := by
    simp at hgge
    omega
  have hMW : MemAt (w1.setCell ⟨w.heap.size, 2, none⟩ (.slice (some ⟨g, 0, none⟩) 16 gc)) g 0 (fun j => if j = k.toNat then a else m j) := fun j hj => by
    rw [World.cell?_of_block (w := w1) (Below.heap_setCell w1 ⟨w.heap.size, 2, none⟩ _ g (fun e => hgne e.symm))]
    exact hMg j hj
  have hgW : g < (w1.setCell ⟨w.heap.size, 2, none⟩ (.slice (some ⟨g, 0, none⟩) 16 gc)).heap.size := by simpa [World.setCell] using hg
  clear hrow hrow0 hc1 hf1 hB1 HB0 hb1
  clear hm
  generalize w1.setCell ⟨w.heap.size, 2, none⟩ (.slice (some ⟨g, 0, none⟩) 16 gc) = W at *
  have HM : Hid (MemAt W g 0 (fun j => if j = k.toNat then a else m j)) := hMW
  have hw1 : g < W.heap.size := hgW
  generalize hDe : w.heap.size = D at *
  have HB : Hid (Below D w W) := hB
  have HDe : Hid (w.heap.size = D) := hDe
  clear c0 c1 c2 c3 hDe hr
  go_region_held3 (fun w' => w'.cell? ⟨D, 0, none⟩ = some (.int .i64 (a)) ∧ w'.cell? ⟨D, 1, none⟩ = some (.int .i64 (x)) ∧ w'.cell? ⟨D, 2, none⟩ = some (.slice (some ⟨g, 0, none⟩) 16 gc))
    (first | go_keep | (go_split_ands; refine ⟨?_, ?_, ?_⟩; all_goals (rw [hq1 _ _ (by simpa using hz)]; assumption)))
    ((go_at_call 85; refine (HR.out (0) ⟨a, x, (fun j => if j = k.toNat then a else m j)⟩ _ _ g 0 gc ?_ ?_ ?_ ?_ ?_ ?_).mono ?_; (omega); (omega); (exact HS.out); (exact HB.out.drew); (exact hw1); (exact HM.out); rintro e w' ⟨rfl, hbb⟩; have hq1 := (bcell hbb).1))
  go_wp2
  go_ret2
  refine ⟨rfl, ?_⟩
  rw [HDe.out]
  exact HB.out.drew.trans (Below.mono (by assumption) (by simp; omega))

set_option maxHeartbeats 1000000 in
set_option maxRecDepth 100000 in
theorem go_putx (b o n cap rb ro rc mb mo mc : Nat) (jt jf k : Int) (r : List Int) (s : S) (w : World) (R : Nat → S → Int × Int) (hR : Rest w b o n rb ro rc R) (hRb : ∀ d s, 0 ≤ (R d s).2 ∧ (R d s).2 ≤ 4096) (hn : 2 ≤ n) (hn2 : n ≤ 4096) (hcap : n ≤ cap) (hs : s.ok) (hi : I.ok ⟨3, jt, jf, k⟩)
    (hb : b < w.heap.size) (hrb : rb < w.heap.size) (hr : BytesAt w rb ro r) (hrl : r.length = 64) (hrr : isBytes r) (hmb : mb < w.heap.size) (hm : MemAt w mb mo s.m)
    (c0 : w.cell? ⟨b, o, none⟩ = some (.int .u16 3)) (c1 : w.cell? ⟨b, o + 1, none⟩ = some (.int .u8 jt)) (c2 : w.cell? ⟨b, o + 2, none⟩ = some (.int .u8 jf)) (c3 : w.cell? ⟨b, o + 3, none⟩ = some (.int .u32 k)) (hk : k < 16) :
    Calls Try.prog 85 #[.slice (some ⟨b, o, none⟩) n cap, .slice (some ⟨rb, ro, none⟩) 64 rc, .agg #[.int .i64 s.a, .int .i64 s.x, .slice (some ⟨mb, mo, none⟩) 16 mc]] w
      fun e w' => e = .returned (.tuple #[.int .i64 (R (0) ⟨s.a, s.x, (fun j => if j = k.toNat then s.x else s.m j)⟩).1, .int .i64 ((R (0) ⟨s.a, s.x, (fun j => if j = k.toNat then s.x else s.m j)⟩).2 + 1)]) ∧ Below w.heap.size w w' := by
  have HR : Hid _ := hR
  obtain ⟨h1, h2, h3, h4, h5, h6, h7, h8⟩ := hi
  simp only at h1 h2 h3 h4 h5 h6 h7 h8
  obtain ⟨a, x, m⟩ := s
  have HS : Hid (S.ok ⟨a, x, (fun j => if j = k.toNat then x else m j)⟩) := ⟨hs.1, hs.2.1, fun j => by simp only; split; exact hs.2.1; exact hs.2.2 j⟩
  have hst := hRb (0) ⟨a, x, (fun j => if j = k.toNat then x else m j)⟩
  clear hR hRb
  simp only at hm
  have i1 : (0 : Int) < (n : Int) := by omega
  have i2 : (1 : Int) ≤ (n : Int) := by omega
  have i3 : (1 : Int) ≤ (cap : Int) := by omega
  have i4 : (n : Int) ≤ (cap : Int) := by omega
  have i5 : ¬ cap = 1 := by omega
  have wr1 : IntKind.i64.wrap 1 = 1 := by rw [IntKind.wrap_i64]; rfl
  have HW : Hid (∀ wx, Below w.heap.size w wx → Calls Try.prog 106 #[.slice (some ⟨mb, mo, none⟩) 16 mc, .int .i64 k, .int .i64 x] wx fun e w' => ∃ g c, e = .returned (.slice (some ⟨g, 0, none⟩) 16 c) ∧ wx.heap.size ≤ g ∧ g < w'.heap.size ∧ MemAt w' g 0 (fun j => if j = k.toNat then x else m j) ∧ Below wx.heap.size wx w') := fun wx hBx => by
    have h := l1put_any mb mo mc k.toNat m x wx (Nat.lt_of_lt_of_le hmb hBx.size) (fun j hj => (hBx.cell (p := ⟨mb, _, none⟩) hmb).trans (hm j hj)) (by omega)
    rw [show ((k.toNat : Nat) : Int) = k by omega] at h
    exact h
  go_enter Try.func85, Try.ntmps85
  have hrow0 := regs_row w a x (Value.slice (some ⟨mb, mo, none⟩) 16 mc)
  have HB0 : Hid (Below w.heap.size w (w.alloc (Obj.cells #[Value.int IntKind.i64 a, Value.int IntKind.i64 x, Value.slice (some ⟨mb, mo, none⟩) 16 mc] 110))) := (Below.refl _ _).alloc (Nat.le_refl _) _
  go_wp2_with fail
  refine (HW.out _ HB0.out).mono ?_
  rintro e w1 ⟨g, gc, rfl, hgge, hg, hMg, hb1⟩
  have hB1 : Below w.heap.size w w1 := HB0.out.trans (hb1.mono (by simp))
  have hc1 := (bcell hb1).1
  have hf1 := (bcell hb1).2
  have hz1 : w.heap.size < w1.heap.size := by have := hb1.size; simp at this; omega
  go_wp2_with fail
  have hrow := (regs_set hrow0 hb1).2 ((.slice (some ⟨g, 0, none⟩) 16 gc))
  have e0 := hrow.cell (i := 0) (by omega)
  have e1 := hrow.cell (i := 1) (by omega)
  have e2 := hrow.cell (i := 2) (by omega)
  have hz := hrow.lt
  simp only [if_true, if_false, Nat.one_ne_zero, show ¬ (2 = 0) from by omega, show ¬ (2 = 1) from by omega] at e0 e1 e2
  have hB : Below w.heap.size w (w1.setCell ⟨w.heap.size, 2, none⟩ (.slice (some ⟨g, 0, none⟩) 16 gc)) := hB1.setCell (Nat.le_refl _) _
  have hgne : w.heap.size ≠ g := by
    simp at hgge
    omega
  have hMW : MemAt (w1.setCell ⟨w.heap.size, 2, none⟩ (.slice (some ⟨g, 0, none⟩) 16 gc)) g 0 (fun j => if j = k.toNat then x else m j) := fun j hj => by
    rw [World.cell?_of_block (w := w1) (Below.heap_setCell w1 ⟨w.heap.size, 2, none⟩ _ g (fun e => hgne e.symm))]
    exact hMg j hj
  have hgW : g < (w1.setCell ⟨w.heap.size, 2, none⟩ (.slice (some ⟨g, 0, none⟩) 16 gc)).heap.size := by simpa [World.setCell] using hg
  clear hrow hrow0 hc1 hf1 hB1 HB0 hb1
  clear hm
  generalize w1.setCell ⟨w.heap.size, 2, none⟩ (.slice (some ⟨g, 0, none⟩) 16 gc) = W at *
  have HM : Hid (MemAt W g 0 (fun j => if j = k.toNat then x else m j)) := hMW
  have hw1 : g < W.heap.size := hgW
  generalize hDe : w.heap.size = D at *
  have HB : Hid (Below D w W) := hB
  have HDe : Hid (w.heap.size = D) := hDe
  clear c0 c1 c2 c3 hDe hr
  go_region_held3 (fun w' => w'.cell? ⟨D, 0, none⟩ = some (.int .i64 (a)) ∧ w'.cell? ⟨D, 1, none⟩ = some (.int .i64 (x)) ∧ w'.cell? ⟨D, 2, none⟩ = some (.slice (some ⟨g, 0, none⟩) 16 gc))
    (first | go_keep | (go_split_ands; refine ⟨?_, ?_, ?_⟩; all_goals (rw [hq1 _ _ (by simpa using hz)]; assumption)))
    ((go_at_call 85; refine (HR.out (0) ⟨a, x, (fun j => if j = k.toNat then x else m j)⟩ _ _ g 0 gc ?_ ?_ ?_ ?_ ?_ ?_).mono ?_; (omega); (omega); (exact HS.out); (exact HB.out.drew); (exact hw1); (exact HM.out); rintro e w' ⟨rfl, hbb⟩; have hq1 := (bcell hbb).1))
  go_wp2
  go_ret2
  refine ⟨rfl, ?_⟩
  rw [HDe.out]
  exact HB.out.drew.trans (Below.mono (by assumption) (by simp; omega))

end Go.Proofs.Ytjfgihmamoiipaa
