/-
  CONTRACT of the model's run, a theorem a kind of instruction. (Written by a script of our own, wip/gen/specg.py.)
-/
import Derived.Test.YtjfgihmamoiipaaSpecG2
import Derived.Test.YtjfgihmamoiipaaMathV
import Derived.Deep.RegionWith
import Derived.Deep.DrawnRows
namespace Go.Proofs.Ytjfgihmamoiipaa
open Go.RowKit
set_option linter.unusedVariables false
attribute [local go_sem ↓] Go.wp_at_zero Go.wp_at_succ

set_option maxHeartbeats 1000000 in
set_option maxRecDepth 100000 in
theorem go_alux (b o n cap rb ro rc mb mo mc : Nat) (c : Int) (jt jf k : Int) (r : List Int) (s : S) (w : World) (R : Nat → S → Int × Int) (hR : Rest w b o n rb ro rc R) (hRb : ∀ d s, 0 ≤ (R d s).2 ∧ (R d s).2 ≤ 4096) (hn : 2 ≤ n) (hn2 : n ≤ 4096) (hcap : n ≤ cap) (hs : s.ok) (hi : I.ok ⟨c, jt, jf, k⟩)
    (hb : b < w.heap.size) (hrb : rb < w.heap.size) (hr : BytesAt w rb ro r) (hrl : r.length = 64) (hrr : isBytes r) (hmb : mb < w.heap.size) (hm : MemAt w mb mo s.m)
    (c0 : w.cell? ⟨b, o, none⟩ = some (.int .u16 c)) (c1 : w.cell? ⟨b, o + 1, none⟩ = some (.int .u8 jt)) (c2 : w.cell? ⟨b, o + 2, none⟩ = some (.int .u8 jf)) (c3 : w.cell? ⟨b, o + 3, none⟩ = some (.int .u32 k)) (h4c : c % 8 = 4) (h8c : c / 8 % 2 = 1) (hop : c / 16 = 0 ∨ c / 16 = 1 ∨ c / 16 = 2 ∨ (c / 16 = 3 ∧ s.x ≠ 0) ∨ c / 16 = 4 ∨ c / 16 = 5 ∨ c / 16 = 10 ∨ c / 16 = 8 ∨ c / 16 = 6 ∨ c / 16 = 7) (hg3 : (c / 16 == 3) = false) :
    Calls Try.prog 85 #[.slice (some ⟨b, o, none⟩) n cap, .slice (some ⟨rb, ro, none⟩) 64 rc, .agg #[.int .i64 s.a, .int .i64 s.x, .slice (some ⟨mb, mo, none⟩) 16 mc]] w
      fun e w' => e = .returned (.tuple #[.int .i64 (R (0) ⟨aluL (c / 16) s.a s.x, s.x, s.m⟩).1, .int .i64 ((R (0) ⟨aluL (c / 16) s.a s.x, s.x, s.m⟩).2 + 1)]) ∧ Below w.heap.size w w' := by
  have HR : Hid _ := hR
  obtain ⟨h1, h2, h3, h4, h5, h6, h7, h8⟩ := hi
  simp only at h1 h2 h3 h4 h5 h6 h7 h8
  obtain ⟨a, x, m⟩ := s
  have HS : Hid (S.ok ⟨aluL (c / 16) a x, x, m⟩) := ⟨aluL_word _ _ _ hs.1 hs.2.1, hs.2.1, hs.2.2⟩
  have hst := hRb (0) ⟨aluL (c / 16) a x, x, m⟩
  clear hR hRb
  simp only at hm
  have i1 : (0 : Int) < (n : Int) := by omega
  have i2 : (1 : Int) ≤ (n : Int) := by omega
  have i3 : (1 : Int) ≤ (cap : Int) := by omega
  have i4 : (n : Int) ≤ (cap : Int) := by omega
  have i5 : ¬ cap = 1 := by omega
  have wr1 : IntKind.i64.wrap 1 = 1 := by rw [IntKind.wrap_i64]; rfl
  have HW : Hid (∀ wx, Calls Try.prog 103 #[.int .i64 (c / 16), .int .i64 a, .int .i64 x] wx fun e w' => e = .returned (.int .i64 (aluL (c / 16) a x)) ∧ Below wx.heap.size wx w') := fun wx => l1alu_below _ _ _ wx hs.1 hs.2.1 hop
  generalize aluL (c / 16) a x = y at *
  clear hop
  go_enter Try.func85, Try.ntmps85
  have hrow0 := regs_row w a x (Value.slice (some ⟨mb, mo, none⟩) 16 mc)
  have HB0 : Hid (Below w.heap.size w (w.alloc (Obj.cells #[Value.int IntKind.i64 a, Value.int IntKind.i64 x, Value.slice (some ⟨mb, mo, none⟩) 16 mc] 110))) := (Below.refl _ _).alloc (Nat.le_refl _) _
  go_wp2_with fail
  refine (HW.out _).mono ?_
  rintro e w1 ⟨rfl, hb1⟩
  have hB1 : Below w.heap.size w w1 := HB0.out.trans (hb1.mono (by simp))
  have hc1 := (bcell hb1).1
  have hf1 := (bcell hb1).2
  have hz1 : w.heap.size < w1.heap.size := by have := hb1.size; simp at this; omega
  go_wp2_with fail
  have hrow := (regs_set hrow0 hb1).1 (y)
  have e0 := hrow.cell (i := 0) (by omega)
  have e1 := hrow.cell (i := 1) (by omega)
  have e2 := hrow.cell (i := 2) (by omega)
  have hz := hrow.lt
  simp only [if_true, if_false, Nat.one_ne_zero, show ¬ (2 = 0) from by omega, show ¬ (2 = 1) from by omega] at e0 e1 e2
  have hB : Below w.heap.size w (w1.setCell ⟨w.heap.size, 0, none⟩ (.int .i64 (y))) := hB1.setCell (Nat.le_refl _) _
  clear hrow hrow0 hc1 hf1 hB1 HB0 hb1
  generalize w1.setCell ⟨w.heap.size, 0, none⟩ (.int .i64 (y)) = W at *
  have HM : Hid (MemAt W mb mo m) := fun j hj => (hB.cell (p := ⟨mb, _, none⟩) hmb).trans (hm j hj)
  have hw1 : mb < W.heap.size := by omega
  clear hm
  generalize hDe : w.heap.size = D at *
  have HB : Hid (Below D w W) := hB
  have HDe : Hid (w.heap.size = D) := hDe
  clear c0 c1 c2 c3 hDe hr
  go_region_held3 (fun w' => w'.cell? ⟨D, 0, none⟩ = some (.int .i64 (y)) ∧ w'.cell? ⟨D, 1, none⟩ = some (.int .i64 (x)) ∧ w'.cell? ⟨D, 2, none⟩ = some (.slice (some ⟨mb, mo, none⟩) 16 mc))
    (first | go_keep | (go_split_ands; refine ⟨?_, ?_, ?_⟩; all_goals (rw [hq1 _ _ (by simpa using hz)]; assumption)))
    ((go_at_call 85; refine (HR.out (0) ⟨y, x, m⟩ _ _ mb mo mc ?_ ?_ ?_ ?_ ?_ ?_).mono ?_; (omega); (omega); (exact HS.out); (exact HB.out.drew); (exact hw1); (exact HM.out); rintro e w' ⟨rfl, hbb⟩; have hq1 := (bcell hbb).1))
  go_wp2
  go_ret2
  refine ⟨rfl, ?_⟩
  rw [HDe.out]
  exact HB.out.drew.trans (Below.mono (by assumption) (by simp; omega))

set_option maxHeartbeats 1000000 in
set_option maxRecDepth 100000 in
theorem go_aluk (b o n cap rb ro rc mb mo mc : Nat) (c : Int) (jt jf k : Int) (r : List Int) (s : S) (w : World) (R : Nat → S → Int × Int) (hR : Rest w b o n rb ro rc R) (hRb : ∀ d s, 0 ≤ (R d s).2 ∧ (R d s).2 ≤ 4096) (hn : 2 ≤ n) (hn2 : n ≤ 4096) (hcap : n ≤ cap) (hs : s.ok) (hi : I.ok ⟨c, jt, jf, k⟩)
    (hb : b < w.heap.size) (hrb : rb < w.heap.size) (hr : BytesAt w rb ro r) (hrl : r.length = 64) (hrr : isBytes r) (hmb : mb < w.heap.size) (hm : MemAt w mb mo s.m)
    (c0 : w.cell? ⟨b, o, none⟩ = some (.int .u16 c)) (c1 : w.cell? ⟨b, o + 1, none⟩ = some (.int .u8 jt)) (c2 : w.cell? ⟨b, o + 2, none⟩ = some (.int .u8 jf)) (c3 : w.cell? ⟨b, o + 3, none⟩ = some (.int .u32 k)) (h4c : c % 8 = 4) (h8c : c / 8 % 2 = 0) (hop : c / 16 = 0 ∨ c / 16 = 1 ∨ c / 16 = 2 ∨ (c / 16 = 3 ∧ k ≠ 0) ∨ c / 16 = 4 ∨ c / 16 = 5 ∨ c / 16 = 10 ∨ c / 16 = 8 ∨ c / 16 = 6 ∨ c / 16 = 7) (hg3 : (c / 16 == 3) = false) :
    Calls Try.prog 85 #[.slice (some ⟨b, o, none⟩) n cap, .slice (some ⟨rb, ro, none⟩) 64 rc, .agg #[.int .i64 s.a, .int .i64 s.x, .slice (some ⟨mb, mo, none⟩) 16 mc]] w
      fun e w' => e = .returned (.tuple #[.int .i64 (R (0) ⟨aluL (c / 16) s.a k, s.x, s.m⟩).1, .int .i64 ((R (0) ⟨aluL (c / 16) s.a k, s.x, s.m⟩).2 + 1)]) ∧ Below w.heap.size w w' := by
  have HR : Hid _ := hR
  obtain ⟨h1, h2, h3, h4, h5, h6, h7, h8⟩ := hi
  simp only at h1 h2 h3 h4 h5 h6 h7 h8
  obtain ⟨a, x, m⟩ := s
  have HS : Hid (S.ok ⟨aluL (c / 16) a k, x, m⟩) := ⟨aluL_word _ _ _ hs.1 ⟨h7, h8⟩, hs.2.1, hs.2.2⟩
  have hst := hRb (0) ⟨aluL (c / 16) a k, x, m⟩
  clear hR hRb
  simp only at hm
  have i1 : (0 : Int) < (n : Int) := by omega
  have i2 : (1 : Int) ≤ (n : Int) := by omega
  have i3 : (1 : Int) ≤ (cap : Int) := by omega
  have i4 : (n : Int) ≤ (cap : Int) := by omega
  have i5 : ¬ cap = 1 := by omega
  have wr1 : IntKind.i64.wrap 1 = 1 := by rw [IntKind.wrap_i64]; rfl
  have HW : Hid (∀ wx, Calls Try.prog 103 #[.int .i64 (c / 16), .int .i64 a, .int .i64 k] wx fun e w' => e = .returned (.int .i64 (aluL (c / 16) a k)) ∧ Below wx.heap.size wx w') := fun wx => l1alu_below _ _ _ wx hs.1 ⟨h7, h8⟩ hop
  generalize aluL (c / 16) a k = y at *
  clear hop
  go_enter Try.func85, Try.ntmps85
  have hrow0 := regs_row w a x (Value.slice (some ⟨mb, mo, none⟩) 16 mc)
  have HB0 : Hid (Below w.heap.size w (w.alloc (Obj.cells #[Value.int IntKind.i64 a, Value.int IntKind.i64 x, Value.slice (some ⟨mb, mo, none⟩) 16 mc] 110))) := (Below.refl _ _).alloc (Nat.le_refl _) _
  go_wp2_with fail
  refine (HW.out _).mono ?_
  rintro e w1 ⟨rfl, hb1⟩
  have hB1 : Below w.heap.size w w1 := HB0.out.trans (hb1.mono (by simp))
  have hc1 := (bcell hb1).1
  have hf1 := (bcell hb1).2
  have hz1 : w.heap.size < w1.heap.size := by have := hb1.size; simp at this; omega
  go_wp2_with fail
  have hrow := (regs_set hrow0 hb1).1 (y)
  have e0 := hrow.cell (i := 0) (by omega)
  have e1 := hrow.cell (i := 1) (by omega)
  have e2 := hrow.cell (i := 2) (by omega)
  have hz := hrow.lt
  simp only [if_true, if_false, Nat.one_ne_zero, show ¬ (2 = 0) from by omega, show ¬ (2 = 1) from by omega] at e0 e1 e2
  have hB : Below w.heap.size w (w1.setCell ⟨w.heap.size, 0, none⟩ (.int .i64 (y))) := hB1.setCell (Nat.le_refl _) _
  clear hrow hrow0 hc1 hf1 hB1 HB0 hb1
  generalize w1.setCell ⟨w.heap.size, 0, none⟩ (.int .i64 (y)) = W at *
  have HM : Hid (MemAt W mb mo m) := fun j hj => (hB.cell (p := ⟨mb, _, none⟩) hmb).trans (hm j hj)
  have hw1 : mb < W.heap.size := by omega
  clear hm
  generalize hDe : w.heap.size = D at *
  have HB : Hid (Below D w W) := hB
  have HDe : Hid (w.heap.size = D) := hDe
  clear c0 c1 c2 c3 hDe hr
  go_region_held3 (fun w' => w'.cell? ⟨D, 0, none⟩ = some (.int .i64 (y)) ∧ w'.cell? ⟨D, 1, none⟩ = some (.int .i64 (x)) ∧ w'.cell? ⟨D, 2, none⟩ = some (.slice (some ⟨mb, mo, none⟩) 16 mc))
    (first | go_keep | (go_split_ands; refine ⟨?_, ?_, ?_⟩; all_goals (rw [hq1 _ _ (by simpa using hz)]; assumption)))
    ((go_at_call 85; refine (HR.out (0) ⟨y, x, m⟩ _ _ mb mo mc ?_ ?_ ?_ ?_ ?_ ?_).mono ?_; (omega); (omega); (exact HS.out); (exact HB.out.drew); (exact hw1); (exact HM.out); rintro e w' ⟨rfl, hbb⟩; have hq1 := (bcell hbb).1))
  go_wp2
  go_ret2
  refine ⟨rfl, ?_⟩
  rw [HDe.out]
  exact HB.out.drew.trans (Below.mono (by assumption) (by simp; omega))

set_option maxHeartbeats 1000000 in
set_option maxRecDepth 100000 in
theorem go_divx (b o n cap rb ro rc mb mo mc : Nat) (c : Int) (jt jf k : Int) (r : List Int) (s : S) (w : World) (R : Nat → S → Int × Int) (hR : Rest w b o n rb ro rc R) (hRb : ∀ d s, 0 ≤ (R d s).2 ∧ (R d s).2 ≤ 4096) (hn : 2 ≤ n) (hn2 : n ≤ 4096) (hcap : n ≤ cap) (hs : s.ok) (hi : I.ok ⟨c, jt, jf, k⟩)
    (hb : b < w.heap.size) (hrb : rb < w.heap.size) (hr : BytesAt w rb ro r) (hrl : r.length = 64) (hrr : isBytes r) (hmb : mb < w.heap.size) (hm : MemAt w mb mo s.m)
    (c0 : w.cell? ⟨b, o, none⟩ = some (.int .u16 c)) (c1 : w.cell? ⟨b, o + 1, none⟩ = some (.int .u8 jt)) (c2 : w.cell? ⟨b, o + 2, none⟩ = some (.int .u8 jf)) (c3 : w.cell? ⟨b, o + 3, none⟩ = some (.int .u32 k)) (h4c : c % 8 = 4) (h8c : c / 8 % 2 = 1) (hop : c / 16 = 0 ∨ c / 16 = 1 ∨ c / 16 = 2 ∨ (c / 16 = 3 ∧ s.x ≠ 0) ∨ c / 16 = 4 ∨ c / 16 = 5 ∨ c / 16 = 10 ∨ c / 16 = 8 ∨ c / 16 = 6 ∨ c / 16 = 7) (hg3 : (c / 16 == 3) = true) (hv0 : (s.x == 0) = false) :
    Calls Try.prog 85 #[.slice (some ⟨b, o, none⟩) n cap, .slice (some ⟨rb, ro, none⟩) 64 rc, .agg #[.int .i64 s.a, .int .i64 s.x, .slice (some ⟨mb, mo, none⟩) 16 mc]] w
      fun e w' => e = .returned (.tuple #[.int .i64 (R (0) ⟨aluL (c / 16) s.a s.x, s.x, s.m⟩).1, .int .i64 ((R (0) ⟨aluL (c / 16) s.a s.x, s.x, s.m⟩).2 + 1)]) ∧ Below w.heap.size w w' := by
  have HR : Hid _ := hR
  obtain ⟨h1, h2, h3, h4, h5, h6, h7, h8⟩ := hi
  simp only at h1 h2 h3 h4 h5 h6 h7 h8
  obtain ⟨a, x, m⟩ := s
  have HS : Hid (S.ok ⟨aluL (c / 16) a x, x, m⟩) := ⟨aluL_word _ _ _ hs.1 hs.2.1, hs.2.1, hs.2.2⟩
  have hst := hRb (0) ⟨aluL (c / 16) a x, x, m⟩
  clear hR hRb
  simp only at hm
  have i1 : (0 : Int) < (n : Int) := by omega
  have i2 : (1 : Int) ≤ (n : Int) := by omega
  have i3 : (1 : Int) ≤ (cap : Int) := by omega
  have i4 : (n : Int) ≤ (cap : Int) := by omega
  have i5 : ¬ cap = 1 := by omega
  have wr1 : IntKind.i64.wrap 1 = 1 := by rw [IntKind.wrap_i64]; rfl
  have HW : Hid (∀ wx, Calls Try.prog 103 #[.int .i64 (c / 16), .int .i64 a, .int .i64 x] wx fun e w' => e = .returned (.int .i64 (aluL (c / 16) a x)) ∧ Below wx.heap.size wx w') := fun wx => l1alu_below _ _ _ wx hs.1 hs.2.1 hop
  generalize aluL (c / 16) a x = y at *
  clear hop
  simp only at hv0
  go_enter Try.func85, Try.ntmps85
  have hrow0 := regs_row w a x (Value.slice (some ⟨mb, mo, none⟩) 16 mc)
  have HB0 : Hid (Below w.heap.size w (w.alloc (Obj.cells #[Value.int IntKind.i64 a, Value.int IntKind.i64 x, Value.slice (some ⟨mb, mo, none⟩) 16 mc] 110))) := (Below.refl _ _).alloc (Nat.le_refl _) _
  go_wp2_with fail
  refine (HW.out _).mono ?_
  rintro e w1 ⟨rfl, hb1⟩
  have hB1 : Below w.heap.size w w1 := HB0.out.trans (hb1.mono (by simp))
  have hc1 := (bcell hb1).1
  have hf1 := (bcell hb1).2
  have hz1 : w.heap.size < w1.heap.size := by have := hb1.size; simp at this; omega
  go_wp2_with fail
  have hrow := (regs_set hrow0 hb1).1 (y)
  have e0 := hrow.cell (i := 0) (by omega)
  have e1 := hrow.cell (i := 1) (by omega)
  have e2 := hrow.cell (i := 2) (by omega)
  have hz := hrow.lt
  simp only [if_true, if_false, Nat.one_ne_zero, show ¬ (2 = 0) from by omega, show ¬ (2 = 1) from by omega] at e0 e1 e2
  have hB : Below w.heap.size w (w1.setCell ⟨w.heap.size, 0, none⟩ (.int .i64 (y))) := hB1.setCell (Nat.le_refl _) _
  clear hrow hrow0 hc1 hf1 hB1 HB0 hb1
  generalize w1.setCell ⟨w.heap.size, 0, none⟩ (.int .i64 (y)) = W at *
  have HM : Hid (MemAt W mb mo m) := fun j hj => (hB.cell (p := ⟨mb, _, none⟩) hmb).trans (hm j hj)
  have hw1 : mb < W.heap.size := by omega
  clear hm
  generalize hDe : w.heap.size = D at *
  have HB : Hid (Below D w W) := hB
  have HDe : Hid (w.heap.size = D) := hDe
  clear c0 c1 c2 c3 hDe hr
  go_region_held3 (fun w' => w'.cell? ⟨D, 0, none⟩ = some (.int .i64 (y)) ∧ w'.cell? ⟨D, 1, none⟩ = some (.int .i64 (x)) ∧ w'.cell? ⟨D, 2, none⟩ = some (.slice (some ⟨mb, mo, none⟩) 16 mc))
    (first | go_keep | (go_split_ands; refine ⟨?_, ?_, ?_⟩; all_goals (rw [hq1 _ _ (by simpa using hz)]; assumption)))
    ((go_at_call 85; refine (HR.out (0) ⟨y, x, m⟩ _ _ mb mo mc ?_ ?_ ?_ ?_ ?_ ?_).mono ?_; (omega); (omega); (exact HS.out); (exact HB.out.drew); (exact hw1); (exact HM.out); rintro e w' ⟨rfl, hbb⟩; have hq1 := (bcell hbb).1))
  go_wp2
  go_ret2
  refine ⟨rfl, ?_⟩
  rw [HDe.out]
  exact HB.out.drew.trans (Below.mono (by assumption) (by simp; omega))

set_option maxHeartbeats 1000000 in
set_option maxRecDepth 100000 in
theorem go_divk (b o n cap rb ro rc mb mo mc : Nat) (c : Int) (jt jf k : Int) (r : List Int) (s : S) (w : World) (R : Nat → S → Int × Int) (hR : Rest w b o n rb ro rc R) (hRb : ∀ d s, 0 ≤ (R d s).2 ∧ (R d s).2 ≤ 4096) (hn : 2 ≤ n) (hn2 : n ≤ 4096) (hcap : n ≤ cap) (hs : s.ok) (hi : I.ok ⟨c, jt, jf, k⟩)
    (hb : b < w.heap.size) (hrb : rb < w.heap.size) (hr : BytesAt w rb ro r) (hrl : r.length = 64) (hrr : isBytes r) (hmb : mb < w.heap.size) (hm : MemAt w mb mo s.m)
    (c0 : w.cell? ⟨b, o, none⟩ = some (.int .u16 c)) (c1 : w.cell? ⟨b, o + 1, none⟩ = some (.int .u8 jt)) (c2 : w.cell? ⟨b, o + 2, none⟩ = some (.int .u8 jf)) (c3 : w.cell? ⟨b, o + 3, none⟩ = some (.int .u32 k)) (h4c : c % 8 = 4) (h8c : c / 8 % 2 = 0) (hop : c / 16 = 0 ∨ c / 16 = 1 ∨ c / 16 = 2 ∨ (c / 16 = 3 ∧ k ≠ 0) ∨ c / 16 = 4 ∨ c / 16 = 5 ∨ c / 16 = 10 ∨ c / 16 = 8 ∨ c / 16 = 6 ∨ c / 16 = 7) (hg3 : (c / 16 == 3) = true) (hv0 : (k == 0) = false) :
    Calls Try.prog 85 #[.slice (some ⟨b, o, none⟩) n cap, .slice (some ⟨rb, ro, none⟩) 64 rc, .agg #[.int .i64 s.a, .int .i64 s.x, .slice (some ⟨mb, mo, none⟩) 16 mc]] w
      fun e w' => e = .returned (.tuple #[.int .i64 (R (0) ⟨aluL (c / 16) s.a k, s.x, s.m⟩).1, .int .i64 ((R (0) ⟨aluL (c / 16) s.a k, s.x, s.m⟩).2 + 1)]) ∧ Below w.heap.size w w' := by
  have HR : Hid _ := hR
  obtain ⟨h1, h2, h3, h4, h5, h6, h7, h8⟩ := hi
  simp only at h1 h2 h3 h4 h5 h6 h7 h8
  obtain ⟨a, x, m⟩ := s
  have HS : Hid (S.ok ⟨aluL (c / 16) a k, x, m⟩) := ⟨aluL_word _ _ _ hs.1 ⟨h7, h8⟩, hs.2.1, hs.2.2⟩
  have hst := hRb (0) ⟨aluL (c / 16) a k, x, m⟩
  clear hR hRb
  simp only at hm
  have i1 : (0 : Int) < (n : Int) := by omega
  have i2 : (1 : Int) ≤ (n : Int) := by omega
  have i3 : (1 : Int) ≤ (cap : Int) := by omega
  have i4 : (n : Int) ≤ (cap : Int) := by omega
  have i5 : ¬ cap = 1 := by omega
  have wr1 : IntKind.i64.wrap 1 = 1 := by rw [IntKind.wrap_i64]; rfl
  have HW : Hid (∀ wx, Calls Try.prog 103 #[.int .i64 (c / 16), .int .i64 a, .int .i64 k] wx fun e w' => e = .returned (.int .i64 (aluL (c / 16) a k)) ∧ Below wx.heap.size wx w') := fun wx => l1alu_below _ _ _ wx hs.1 ⟨h7, h8⟩ hop
  generalize aluL (c / 16) a k = y at *
  clear hop
  go_enter Try.func85, Try.ntmps85
  have hrow0 := regs_row w a x (Value.slice (some ⟨mb, mo, none⟩) 16 mc)
  have HB0 : Hid (Below w.heap.size w (w.alloc (Obj.cells #[Value.int IntKind.i64 a, Value.int IntKind.i64 x, Value.slice (some ⟨mb, mo, none⟩) 16 mc] 110))) := (Below.refl _ _).alloc (Nat.le_refl _) _
  go_wp2_with fail
  refine (HW.out _).mono ?_
  rintro e w1 ⟨rfl, hb1⟩
  have hB1 : Below w.heap.size w w1 := HB0.out.trans (hb1.mono (by simp))
  have hc1 := (bcell hb1).1
  have hf1 := (bcell hb1).2
  have hz1 : w.heap.size < w1.heap.size := by have := hb1.size; simp at this; omega
  go_wp2_with fail
  have hrow := (regs_set hrow0 hb1).1 (y)
  have e0 := hrow.cell (i := 0) (by omega)
  have e1 := hrow.cell (i := 1) (by omega)
  have e2 := hrow.cell (i := 2) (by omega)
  have hz := hrow.lt
  simp only [if_true, if_false, Nat.one_ne_zero, show ¬ (2 = 0) from by omega, show ¬ (2 = 1) from by omega] at e0 e1 e2
  have hB : Below w.heap.size w (w1.setCell ⟨w.heap.size, 0, none⟩ (.int .i64 (y))) := hB1.setCell (Nat.le_refl _) _
  clear hrow hrow0 hc1 hf1 hB1 HB0 hb1
  generalize w1.setCell ⟨w.heap.size, 0, none⟩ (.int .i64 (y)) = W at *
  have HM : Hid (MemAt W mb mo m) := fun j hj => (hB.cell (p := ⟨mb, _, none⟩) hmb).trans (hm j hj)
  have hw1 : mb < W.heap.size := by omega
  clear hm
  generalize hDe : w.heap.size = D at *
  have HB : Hid (Below D w W) := hB
  have HDe : Hid (w.heap.size = D) := hDe
  clear c0 c1 c2 c3 hDe hr
  go_region_held3 (fun w' => w'.cell? ⟨D, 0, none⟩ = some (.int .i64 (y)) ∧ w'.cell? ⟨D, 1, none⟩ = some (.int .i64 (x)) ∧ w'.cell? ⟨D, 2, none⟩ = some (.slice (some ⟨mb, mo, none⟩) 16 mc))
    (first | go_keep | (go_split_ands; refine ⟨?_, ?_, ?_⟩; all_goals (rw [hq1 _ _ (by simpa using hz)]; assumption)))
    ((go_at_call 85; refine (HR.out (0) ⟨y, x, m⟩ _ _ mb mo mc ?_ ?_ ?_ ?_ ?_ ?_).mono ?_; (omega); (omega); (exact HS.out); (exact HB.out.drew); (exact hw1); (exact HM.out); rintro e w' ⟨rfl, hbb⟩; have hq1 := (bcell hbb).1))
  go_wp2
  go_ret2
  refine ⟨rfl, ?_⟩
  rw [HDe.out]
  exact HB.out.drew.trans (Below.mono (by assumption) (by simp; omega))

set_option maxHeartbeats 1000000 in
set_option maxRecDepth 100000 in
theorem go_testx (b o n cap rb ro rc mb mo mc : Nat) (c : Int) (jt jf k : Int) (r : List Int) (s : S) (w : World) (R : Nat → S → Int × Int) (hR : Rest w b o n rb ro rc R) (hRb : ∀ d s, 0 ≤ (R d s).2 ∧ (R d s).2 ≤ 4096) (hn : 2 ≤ n) (hn2 : n ≤ 4096) (hcap : n ≤ cap) (hs : s.ok) (hi : I.ok ⟨c, jt, jf, k⟩)
    (hb : b < w.heap.size) (hrb : rb < w.heap.size) (hr : BytesAt w rb ro r) (hrl : r.length = 64) (hrr : isBytes r) (hmb : mb < w.heap.size) (hm : MemAt w mb mo s.m)
    (c0 : w.cell? ⟨b, o, none⟩ = some (.int .u16 c)) (c1 : w.cell? ⟨b, o + 1, none⟩ = some (.int .u8 jt)) (c2 : w.cell? ⟨b, o + 2, none⟩ = some (.int .u8 jf)) (c3 : w.cell? ⟨b, o + 3, none⟩ = some (.int .u32 k)) (h4c : c % 8 = 5) (h8c : c / 8 % 2 = 1) (hne : (c == 5) = false) (hh : holdL (c / 16) s.a s.x = true) (hk : jt + 1 < n) :
    Calls Try.prog 85 #[.slice (some ⟨b, o, none⟩) n cap, .slice (some ⟨rb, ro, none⟩) 64 rc, .agg #[.int .i64 s.a, .int .i64 s.x, .slice (some ⟨mb, mo, none⟩) 16 mc]] w
      fun e w' => e = .returned (.tuple #[.int .i64 (R (jt.toNat) ⟨s.a, s.x, s.m⟩).1, .int .i64 ((R (jt.toNat) ⟨s.a, s.x, s.m⟩).2 + 1)]) ∧ Below w.heap.size w w' := by
  have HR : Hid _ := hR
  obtain ⟨h1, h2, h3, h4, h5, h6, h7, h8⟩ := hi
  simp only at h1 h2 h3 h4 h5 h6 h7 h8
  obtain ⟨a, x, m⟩ := s
  have HS : Hid (S.ok ⟨a, x, m⟩) := ⟨hs.1, hs.2.1, hs.2.2⟩
  have hst := hRb (jt.toNat) ⟨a, x, m⟩
  clear hR hRb
  simp only at hm
  have i1 : (0 : Int) < (n : Int) := by omega
  have i2 : (1 : Int) + (jt : Int) ≤ (n : Int) := by omega
  have i3 : (1 : Int) + (jt : Int) ≤ (cap : Int) := by omega
  have i4 : (n : Int) ≤ (cap : Int) := by omega
  have i5 : ¬ cap = 1 + (jt).toNat := by omega
  have i6 : (0 : Int) ≤ 1 + (jt : Int) := by omega
  have i7 : (1 + (jt : Int)).toNat = 1 + (jt).toNat := by omega
  have wr1 : IntKind.i64.wrap (1 + (jt : Int)) = 1 + (jt : Int) := by rw [IntKind.wrap_i64]; omega
  have HH : Hid (∀ wx, Calls Try.prog 104 #[.int .i64 (c / 16), .int .i64 a, .int .i64 x] wx fun e w' => e = .returned (.bool true) ∧ w' = wx) := fun wx => by
    have h := l1holds_any (c / 16) a x wx hs.1 hs.2.1
    rw [hh] at h
    exact h
  clear hh
  go_enter Try.func85, Try.ntmps85
  go_wp2_with (go_at_call 104; refine (HH.out _).mono ?_; rintro e w' ⟨rfl, rfl⟩)
  have e0 : (w.alloc (Obj.cells #[Value.int IntKind.i64 (a), Value.int IntKind.i64 (x), Value.slice (some ⟨mb, mo, none⟩) 16 mc] 110)).cell? ⟨w.heap.size, 0, none⟩ = some (.int .i64 (a)) := by rw [World.cell?_alloc_at _ _ _ _ rfl]; rfl
  have e1 : (w.alloc (Obj.cells #[Value.int IntKind.i64 (a), Value.int IntKind.i64 (x), Value.slice (some ⟨mb, mo, none⟩) 16 mc] 110)).cell? ⟨w.heap.size, 1, none⟩ = some (.int .i64 (x)) := by rw [World.cell?_alloc_at _ _ _ _ rfl]; rfl
  have e2 : (w.alloc (Obj.cells #[Value.int IntKind.i64 (a), Value.int IntKind.i64 (x), Value.slice (some ⟨mb, mo, none⟩) 16 mc] 110)).cell? ⟨w.heap.size, 2, none⟩ = some (.slice (some ⟨mb, mo, none⟩) 16 mc) := by rw [World.cell?_alloc_at _ _ _ _ rfl]; rfl
  have hz : w.heap.size < (w.alloc (Obj.cells #[Value.int IntKind.i64 (a), Value.int IntKind.i64 (x), Value.slice (some ⟨mb, mo, none⟩) 16 mc] 110)).heap.size := by simp
  have hB : Below w.heap.size w (w.alloc (Obj.cells #[Value.int IntKind.i64 (a), Value.int IntKind.i64 (x), Value.slice (some ⟨mb, mo, none⟩) 16 mc] 110)) := (Below.refl _ _).alloc (Nat.le_refl _) _
  generalize w.alloc (Obj.cells #[Value.int IntKind.i64 (a), Value.int IntKind.i64 (x), Value.slice (some ⟨mb, mo, none⟩) 16 mc] 110) = W at *
  have HM : Hid (MemAt W mb mo m) := fun j hj => (hB.cell (p := ⟨mb, _, none⟩) hmb).trans (hm j hj)
  have hw1 : mb < W.heap.size := by omega
  clear hm
  generalize hDe : w.heap.size = D at *
  have HB : Hid (Below D w W) := hB
  have HDe : Hid (w.heap.size = D) := hDe
  clear c0 c1 c2 c3 hDe hr
  go_region_held3 (fun w' => w'.cell? ⟨D, 0, none⟩ = some (.int .i64 (a)) ∧ w'.cell? ⟨D, 1, none⟩ = some (.int .i64 (x)) ∧ w'.cell? ⟨D, 2, none⟩ = some (.slice (some ⟨mb, mo, none⟩) 16 mc))
    (first | go_keep | (go_split_ands; refine ⟨?_, ?_, ?_⟩; all_goals (rw [hq1 _ _ (by simpa using hz)]; assumption)))
    ((go_at_call 85; refine (HR.out (jt.toNat) ⟨a, x, m⟩ _ _ mb mo mc ?_ ?_ ?_ ?_ ?_ ?_).mono ?_; (omega); (omega); (exact HS.out); (exact HB.out.drew); (exact hw1); (exact HM.out); rintro e w' ⟨rfl, hbb⟩; have hq1 := (bcell hbb).1))
  go_wp2
  go_ret2
  refine ⟨rfl, ?_⟩
  rw [HDe.out]
  exact HB.out.drew.trans (Below.mono (by assumption) (by simp; omega))

set_option maxHeartbeats 1000000 in
set_option maxRecDepth 100000 in
theorem go_testk (b o n cap rb ro rc mb mo mc : Nat) (c : Int) (jt jf k : Int) (r : List Int) (s : S) (w : World) (R : Nat → S → Int × Int) (hR : Rest w b o n rb ro rc R) (hRb : ∀ d s, 0 ≤ (R d s).2 ∧ (R d s).2 ≤ 4096) (hn : 2 ≤ n) (hn2 : n ≤ 4096) (hcap : n ≤ cap) (hs : s.ok) (hi : I.ok ⟨c, jt, jf, k⟩)
    (hb : b < w.heap.size) (hrb : rb < w.heap.size) (hr : BytesAt w rb ro r) (hrl : r.length = 64) (hrr : isBytes r) (hmb : mb < w.heap.size) (hm : MemAt w mb mo s.m)
    (c0 : w.cell? ⟨b, o, none⟩ = some (.int .u16 c)) (c1 : w.cell? ⟨b, o + 1, none⟩ = some (.int .u8 jt)) (c2 : w.cell? ⟨b, o + 2, none⟩ = some (.int .u8 jf)) (c3 : w.cell? ⟨b, o + 3, none⟩ = some (.int .u32 k)) (h4c : c % 8 = 5) (h8c : c / 8 % 2 = 0) (hne : (c == 5) = false) (hh : holdL (c / 16) s.a k = true) (hk : jt + 1 < n) :
    Calls Try.prog 85 #[.slice (some ⟨b, o, none⟩) n cap, .slice (some ⟨rb, ro, none⟩) 64 rc, .agg #[.int .i64 s.a, .int .i64 s.x, .slice (some ⟨mb, mo, none⟩) 16 mc]] w
      fun e w' => e = .returned (.tuple #[.int .i64 (R (jt.toNat) ⟨s.a, s.x, s.m⟩).1, .int .i64 ((R (jt.toNat) ⟨s.a, s.x, s.m⟩).2 + 1)]) ∧ Below w.heap.size w w' := by
  have HR : Hid _ := hR
  obtain ⟨h1, h2, h3, h4, h5, h6, h7, h8⟩ := hi
  simp only at h1 h2 h3 h4 h5 h6 h7 h8
  obtain ⟨a, x, m⟩ := s
  have HS : Hid (S.ok ⟨a, x, m⟩) := ⟨hs.1, hs.2.1, hs.2.2⟩
  have hst := hRb (jt.toNat) ⟨a, x, m⟩
  clear hR hRb
  simp only at hm
  have i1 : (0 : Int) < (n : Int) := by omega
  have i2 : (1 : Int) + (jt : Int) ≤ (n : Int) := by omega
  have i3 : (1 : Int) + (jt : Int) ≤ (cap : Int) := by omega
  have i4 : (n : Int) ≤ (cap : Int) := by omega
  have i5 : ¬ cap = 1 + (jt).toNat := by omega
  have i6 : (0 : Int) ≤ 1 + (jt : Int) := by omega
  have i7 : (1 + (jt : Int)).toNat = 1 + (jt).toNat := by omega
  have wr1 : IntKind.i64.wrap (1 + (jt : Int)) = 1 + (jt : Int) := by rw [IntKind.wrap_i64]; omega
  have HH : Hid (∀ wx, Calls Try.prog 104 #[.int .i64 (c / 16), .int .i64 a, .int .i64 k] wx fun e w' => e = .returned (.bool true) ∧ w' = wx) := fun wx => by
    have h := l1holds_any (c / 16) a k wx hs.1 ⟨h7, h8⟩
    rw [hh] at h
    exact h
  clear hh
  go_enter Try.func85, Try.ntmps85
  go_wp2_with (go_at_call 104; refine (HH.out _).mono ?_; rintro e w' ⟨rfl, rfl⟩)
  have e0 : (w.alloc (Obj.cells #[Value.int IntKind.i64 (a), Value.int IntKind.i64 (x), Value.slice (some ⟨mb, mo, none⟩) 16 mc] 110)).cell? ⟨w.heap.size, 0, none⟩ = some (.int .i64 (a)) := by rw [World.cell?_alloc_at _ _ _ _ rfl]; rfl
  have e1 : (w.alloc (Obj.cells #[Value.int IntKind.i64 (a), Value.int IntKind.i64 (x), Value.slice (some ⟨mb, mo, none⟩) 16 mc] 110)).cell? ⟨w.heap.size, 1, none⟩ = some (.int .i64 (x)) := by rw [World.cell?_alloc_at _ _ _ _ rfl]; rfl
  have e2 : (w.alloc (Obj.cells #[Value.int IntKind.i64 (a), Value.int IntKind.i64 (x), Value.slice (some ⟨mb, mo, none⟩) 16 mc] 110)).cell? ⟨w.heap.size, 2, none⟩ = some (.slice (some ⟨mb, mo, none⟩) 16 mc) := by rw [World.cell?_alloc_at _ _ _ _ rfl]; rfl
  have hz : w.heap.size < (w.alloc (Obj.cells #[Value.int IntKind.i64 (a), Value.int IntKind.i64 (x), Value.slice (some ⟨mb, mo, none⟩) 16 mc] 110)).heap.size := by simp
  have hB : Below w.heap.size w (w.alloc (Obj.cells #[Value.int IntKind.i64 (a), Value.int IntKind.i64 (x), Value.slice (some ⟨mb, mo, none⟩) 16 mc] 110)) := (Below.refl _ _).alloc (Nat.le_refl _) _
  generalize w.alloc (Obj.cells #[Value.int IntKind.i64 (a), Value.int IntKind.i64 (x), Value.slice (some ⟨mb, mo, none⟩) 16 mc] 110) = W at *
  have HM : Hid (MemAt W mb mo m) := fun j hj => (hB.cell (p := ⟨mb, _, none⟩) hmb).trans (hm j hj)
  have hw1 : mb < W.heap.size := by omega
  clear hm
  generalize hDe : w.heap.size = D at *
  have HB : Hid (Below D w W) := hB
  have HDe : Hid (w.heap.size = D) := hDe
  clear c0 c1 c2 c3 hDe hr
  go_region_held3 (fun w' => w'.cell? ⟨D, 0, none⟩ = some (.int .i64 (a)) ∧ w'.cell? ⟨D, 1, none⟩ = some (.int .i64 (x)) ∧ w'.cell? ⟨D, 2, none⟩ = some (.slice (some ⟨mb, mo, none⟩) 16 mc))
    (first | go_keep | (go_split_ands; refine ⟨?_, ?_, ?_⟩; all_goals (rw [hq1 _ _ (by simpa using hz)]; assumption)))
    ((go_at_call 85; refine (HR.out (jt.toNat) ⟨a, x, m⟩ _ _ mb mo mc ?_ ?_ ?_ ?_ ?_ ?_).mono ?_; (omega); (omega); (exact HS.out); (exact HB.out.drew); (exact hw1); (exact HM.out); rintro e w' ⟨rfl, hbb⟩; have hq1 := (bcell hbb).1))
  go_wp2
  go_ret2
  refine ⟨rfl, ?_⟩
  rw [HDe.out]
  exact HB.out.drew.trans (Below.mono (by assumption) (by simp; omega))

set_option maxHeartbeats 1000000 in
set_option maxRecDepth 100000 in
theorem go_testxn (b o n cap rb ro rc mb mo mc : Nat) (c : Int) (jt jf k : Int) (r : List Int) (s : S) (w : World) (R : Nat → S → Int × Int) (hR : Rest w b o n rb ro rc R) (hRb : ∀ d s, 0 ≤ (R d s).2 ∧ (R d s).2 ≤ 4096) (hn : 2 ≤ n) (hn2 : n ≤ 4096) (hcap : n ≤ cap) (hs : s.ok) (hi : I.ok ⟨c, jt, jf, k⟩)
    (hb : b < w.heap.size) (hrb : rb < w.heap.size) (hr : BytesAt w rb ro r) (hrl : r.length = 64) (hrr : isBytes r) (hmb : mb < w.heap.size) (hm : MemAt w mb mo s.m)
    (c0 : w.cell? ⟨b, o, none⟩ = some (.int .u16 c)) (c1 : w.cell? ⟨b, o + 1, none⟩ = some (.int .u8 jt)) (c2 : w.cell? ⟨b, o + 2, none⟩ = some (.int .u8 jf)) (c3 : w.cell? ⟨b, o + 3, none⟩ = some (.int .u32 k)) (h4c : c % 8 = 5) (h8c : c / 8 % 2 = 1) (hne : (c == 5) = false) (hh : holdL (c / 16) s.a s.x = false) (hk : jf + 1 < n) :
    Calls Try.prog 85 #[.slice (some ⟨b, o, none⟩) n cap, .slice (some ⟨rb, ro, none⟩) 64 rc, .agg #[.int .i64 s.a, .int .i64 s.x, .slice (some ⟨mb, mo, none⟩) 16 mc]] w
      fun e w' => e = .returned (.tuple #[.int .i64 (R (jf.toNat) ⟨s.a, s.x, s.m⟩).1, .int .i64 ((R (jf.toNat) ⟨s.a, s.x, s.m⟩).2 + 1)]) ∧ Below w.heap.size w w' := by
  have HR : Hid _ := hR
  obtain ⟨h1, h2, h3, h4, h5, h6, h7, h8⟩ := hi
  simp only at h1 h2 h3 h4 h5 h6 h7 h8
  obtain ⟨a, x, m⟩ := s
  have HS : Hid (S.ok ⟨a, x, m⟩) := ⟨hs.1, hs.2.1, hs.2.2⟩
  have hst := hRb (jf.toNat) ⟨a, x, m⟩
  clear hR hRb
  simp only at hm
  have i1 : (0 : Int) < (n : Int) := by omega
  have i2 : (1 : Int) + (jf : Int) ≤ (n : Int) := by omega
  have i3 : (1 : Int) + (jf : Int) ≤ (cap : Int) := by omega
  have i4 : (n : Int) ≤ (cap : Int) := by omega
  have i5 : ¬ cap = 1 + (jf).toNat := by omega
  have i6 : (0 : Int) ≤ 1 + (jf : Int) := by omega
  have i7 : (1 + (jf : Int)).toNat = 1 + (jf).toNat := by omega
  have wr1 : IntKind.i64.wrap (1 + (jf : Int)) = 1 + (jf : Int) := by rw [IntKind.wrap_i64]; omega
  have HH : Hid (∀ wx, Calls Try.prog 104 #[.int .i64 (c / 16), .int .i64 a, .int .i64 x] wx fun e w' => e = .returned (.bool false) ∧ w' = wx) := fun wx => by
    have h := l1holds_any (c / 16) a x wx hs.1 hs.2.1
    rw [hh] at h
    exact h
  clear hh
  go_enter Try.func85, Try.ntmps85
  go_wp2_with (go_at_call 104; refine (HH.out _).mono ?_; rintro e w' ⟨rfl, rfl⟩)
  have e0 : (w.alloc (Obj.cells #[Value.int IntKind.i64 (a), Value.int IntKind.i64 (x), Value.slice (some ⟨mb, mo, none⟩) 16 mc] 110)).cell? ⟨w.heap.size, 0, none⟩ = some (.int .i64 (a)) := by rw [World.cell?_alloc_at _ _ _ _ rfl]; rfl
  have e1 : (w.alloc (Obj.cells #[Value.int IntKind.i64 (a), Value.int IntKind.i64 (x), Value.slice (some ⟨mb, mo, none⟩) 16 mc] 110)).cell? ⟨w.heap.size, 1, none⟩ = some (.int .i64 (x)) := by rw [World.cell?_alloc_at _ _ _ _ rfl]; rfl
  have e2 : (w.alloc (Obj.cells #[Value.int IntKind.i64 (a), Value.int IntKind.i64 (x), Value.slice (some ⟨mb, mo, none⟩) 16 mc] 110)).cell? ⟨w.heap.size, 2, none⟩ = some (.slice (some ⟨mb, mo, none⟩) 16 mc) := by rw [World.cell?_alloc_at _ _ _ _ rfl]; rfl
  have hz : w.heap.size < (w.alloc (Obj.cells #[Value.int IntKind.i64 (a), Value.int IntKind.i64 (x), Value.slice (some ⟨mb, mo, none⟩) 16 mc] 110)).heap.size := by simp
  have hB : Below w.heap.size w (w.alloc (Obj.cells #[Value.int IntKind.i64 (a), Value.int IntKind.i64 (x), Value.slice (some ⟨mb, mo, none⟩) 16 mc] 110)) := (Below.refl _ _).alloc (Nat.le_refl _) _
  generalize w.alloc (Obj.cells #[Value.int IntKind.i64 (a), Value.int IntKind.i64 (x), Value.slice (some ⟨mb, mo, none⟩) 16 mc] 110) = W at *
  have HM : Hid (MemAt W mb mo m) := fun j hj => (hB.cell (p := ⟨mb, _, none⟩) hmb).trans (hm j hj)
  have hw1 : mb < W.heap.size := by omega
  clear hm
  generalize hDe : w.heap.size = D at *
  have HB : Hid (Below D w W) := hB
  have HDe : Hid (w.heap.size = D) := hDe
  clear c0 c1 c2 c3 hDe hr
  go_region_held3 (fun w' => w'.cell? ⟨D, 0, none⟩ = some (.int .i64 (a)) ∧ w'.cell? ⟨D, 1, none⟩ = some (.int .i64 (x)) ∧ w'.cell? ⟨D, 2, none⟩ = some (.slice (some ⟨mb, mo, none⟩) 16 mc))
    (first | go_keep | (go_split_ands; refine ⟨?_, ?_, ?_⟩; all_goals (rw [hq1 _ _ (by simpa using hz)]; assumption)))
    ((go_at_call 85; refine (HR.out (jf.toNat) ⟨a, x, m⟩ _ _ mb mo mc ?_ ?_ ?_ ?_ ?_ ?_).mono ?_; (omega); (omega); (exact HS.out); (exact HB.out.drew); (exact hw1); (exact HM.out); rintro e w' ⟨rfl, hbb⟩; have hq1 := (bcell hbb).1))
  go_wp2
  go_ret2
  refine ⟨rfl, ?_⟩
  rw [HDe.out]
  exact HB.out.drew.trans (Below.mono (by assumption) (by simp; omega))

set_option maxHeartbeats 1000000 in
set_option maxRecDepth 100000 in
theorem go_testkn (b o n cap rb ro rc mb mo mc : Nat) (c : Int) (jt jf k : Int) (r : List Int) (s : S) (w : World) (R : Nat → S → Int × Int) (hR : Rest w b o n rb ro rc R) (hRb : ∀ d s, 0 ≤ (R d s).2 ∧ (R d s).2 ≤ 4096) (hn : 2 ≤ n) (hn2 : n ≤ 4096) (hcap : n ≤ cap) (hs : s.ok) (hi : I.ok ⟨c, jt, jf, k⟩)
    (hb : b < w.heap.size) (hrb : rb < w.heap.size) (hr : BytesAt w rb ro r) (hrl : r.length = 64) (hrr : isBytes r) (hmb : mb < w.heap.size) (hm : MemAt w mb mo s.m)
    (c0 : w.cell? ⟨b, o, none⟩ = some (.int .u16 c)) (c1 : w.cell? ⟨b, o + 1, none⟩ = some (.int .u8 jt)) (c2 : w.cell? ⟨b, o + 2, none⟩ = some (.int .u8 jf)) (c3 : w.cell? ⟨b, o + 3, none⟩ = some (.int .u32 k)) (h4c : c % 8 = 5) (h8c : c / 8 % 2 = 0) (hne : (c == 5) = false) (hh : holdL (c / 16) s.a k = false) (hk : jf + 1 < n) :
    Calls Try.prog 85 #[.slice (some ⟨b, o, none⟩) n cap, .slice (some ⟨rb, ro, none⟩) 64 rc, .agg #[.int .i64 s.a, .int .i64 s.x, .slice (some ⟨mb, mo, none⟩) 16 mc]] w
      fun e w' => e = .returned (.tuple #[.int .i64 (R (jf.toNat) ⟨s.a, s.x, s.m⟩).1, .int .i64 ((R (jf.toNat) ⟨s.a, s.x, s.m⟩).2 + 1)]) ∧ Below w.heap.size w w' := by
  have HR : Hid _ := hR
  obtain ⟨h1, h2, h3, h4, h5, h6, h7, h8⟩ := hi
  simp only at h1 h2 h3 h4 h5 h6 h7 h8
  obtain ⟨a, x, m⟩ := s
  have HS : Hid (S.ok ⟨a, x, m⟩) := ⟨hs.1, hs.2.1, hs.2.2⟩
  have hst := hRb (jf.toNat) ⟨a, x, m⟩
  clear hR hRb
  simp only at hm
  have i1 : (0 : Int) < (n : Int) := by omega
  have i2 : (1 : Int) + (jf : Int) ≤ (n : Int) := by omega
  have i3 : (1 : Int) + (jf : Int) ≤ (cap : Int) := by omega
  have i4 : (n : Int) ≤ (cap : Int) := by omega
  have i5 : ¬ cap = 1 + (jf).toNat := by omega
  have i6 : (0 : Int) ≤ 1 + (jf : Int) := by omega
  have i7 : (1 + (jf : Int)).toNat = 1 + (jf).toNat := by omega
  have wr1 : IntKind.i64.wrap (1 + (jf : Int)) = 1 + (jf : Int) := by rw [IntKind.wrap_i64]; omega
  have HH : Hid (∀ wx, Calls Try.prog 104 #[.int .i64 (c / 16), .int .i64 a, .int .i64 k] wx fun e w' => e = .returned (.bool false) ∧ w' = wx) := fun wx => by
    have h := l1holds_any (c / 16) a k wx hs.1 ⟨h7, h8⟩
    rw [hh] at h
    exact h
  clear hh
  go_enter Try.func85, Try.ntmps85
  go_wp2_with (go_at_call 104; refine (HH.out _).mono ?_; rintro e w' ⟨rfl, rfl⟩)
  have e0 : (w.alloc (Obj.cells #[Value.int IntKind.i64 (a), Value.int IntKind.i64 (x), Value.slice (some ⟨mb, mo, none⟩) 16 mc] 110)).cell? ⟨w.heap.size, 0, none⟩ = some (.int .i64 (a)) := by rw [World.cell?_alloc_at _ _ _ _ rfl]; rfl
  have e1 : (w.alloc (Obj.cells #[Value.int IntKind.i64 (a), Value.int IntKind.i64 (x), Value.slice (some ⟨mb, mo, none⟩) 16 mc] 110)).cell? ⟨w.heap.size, 1, none⟩ = some (.int .i64 (x)) := by rw [World.cell?_alloc_at _ _ _ _ rfl]; rfl
  have e2 : (w.alloc (Obj.cells #[Value.int IntKind.i64 (a), Value.int IntKind.i64 (x), Value.slice (some ⟨mb, mo, none⟩) 16 mc] 110)).cell? ⟨w.heap.size, 2, none⟩ = some (.slice (some ⟨mb, mo, none⟩) 16 mc) := by rw [World.cell?_alloc_at _ _ _ _ rfl]; rfl
  have hz : w.heap.size < (w.alloc (Obj.cells #[Value.int IntKind.i64 (a), Value.int IntKind.i64 (x), Value.slice (some ⟨mb, mo, none⟩) 16 mc] 110)).heap.size := by simp
  have hB : Below w.heap.size w (w.alloc (Obj.cells #[Value.int IntKind.i64 (a), Value.int IntKind.i64 (x), Value.slice (some ⟨mb, mo, none⟩) 16 mc] 110)) := (Below.refl _ _).alloc (Nat.le_refl _) _
  generalize w.alloc (Obj.cells #[Value.int IntKind.i64 (a), Value.int IntKind.i64 (x), Value.slice (some ⟨mb, mo, none⟩) 16 mc] 110) = W at *
  have HM : Hid (MemAt W mb mo m) := fun j hj => (hB.cell (p := ⟨mb, _, none⟩) hmb).trans (hm j hj)
  have hw1 : mb < W.heap.size := by omega
  clear hm
  generalize hDe : w.heap.size = D at *
  have HB : Hid (Below D w W) := hB
  have HDe : Hid (w.heap.size = D) := hDe
  clear c0 c1 c2 c3 hDe hr
  go_region_held3 (fun w' => w'.cell? ⟨D, 0, none⟩ = some (.int .i64 (a)) ∧ w'.cell? ⟨D, 1, none⟩ = some (.int .i64 (x)) ∧ w'.cell? ⟨D, 2, none⟩ = some (.slice (some ⟨mb, mo, none⟩) 16 mc))
    (first | go_keep | (go_split_ands; refine ⟨?_, ?_, ?_⟩; all_goals (rw [hq1 _ _ (by simpa using hz)]; assumption)))
    ((go_at_call 85; refine (HR.out (jf.toNat) ⟨a, x, m⟩ _ _ mb mo mc ?_ ?_ ?_ ?_ ?_ ?_).mono ?_; (omega); (omega); (exact HS.out); (exact HB.out.drew); (exact hw1); (exact HM.out); rintro e w' ⟨rfl, hbb⟩; have hq1 := (bcell hbb).1))
  go_wp2
  go_ret2
  refine ⟨rfl, ?_⟩
  rw [HDe.out]
  exact HB.out.drew.trans (Below.mono (by assumption) (by simp; omega))

set_option maxHeartbeats 1000000 in
theorem go_endk (b o n cap rb ro rc mb mo mc : Nat) (k : Int) (s : S) (w : World) (hn : 1 ≤ n) (hn2 : n ≤ 4096) (hc0 : 0 ≤ (6 : Int)) (hc1 : (6 : Int) ≤ 65535) (hk0 : 0 ≤ k) (hk1 : k ≤ 4294967295) (hb : b < w.heap.size)
    (c0 : w.cell? ⟨b, o, none⟩ = some (.int .u16 6)) (c3 : w.cell? ⟨b, o + 3, none⟩ = some (.int .u32 k))  :
    Calls Try.prog 85 #[.slice (some ⟨b, o, none⟩) n cap, .slice (some ⟨rb, ro, none⟩) 64 rc, .agg #[.int .i64 s.a, .int .i64 s.x, .slice (some ⟨mb, mo, none⟩) 16 mc]] w
      fun e w' => e = .returned (.tuple #[.int .i64 (k), .int .i64 1]) ∧ Below w.heap.size w w' := by
  obtain ⟨a, x, m⟩ := s
  have i1 : (0 : Int) < (n : Int) := by omega
  skip
  go_enter Try.func85, Try.ntmps85
  go_wp2
  go_ret2
  exact ⟨rfl, (Below.refl _ _).alloc (Nat.le_refl _) _⟩

set_option maxHeartbeats 1000000 in
theorem go_enda (b o n cap rb ro rc mb mo mc : Nat) (k : Int) (s : S) (w : World) (hn : 1 ≤ n) (hn2 : n ≤ 4096) (hc0 : 0 ≤ (22 : Int)) (hc1 : (22 : Int) ≤ 65535) (hk0 : 0 ≤ k) (hk1 : k ≤ 4294967295) (hb : b < w.heap.size)
    (c0 : w.cell? ⟨b, o, none⟩ = some (.int .u16 22)) (c3 : w.cell? ⟨b, o + 3, none⟩ = some (.int .u32 k))  :
    Calls Try.prog 85 #[.slice (some ⟨b, o, none⟩) n cap, .slice (some ⟨rb, ro, none⟩) 64 rc, .agg #[.int .i64 s.a, .int .i64 s.x, .slice (some ⟨mb, mo, none⟩) 16 mc]] w
      fun e w' => e = .returned (.tuple #[.int .i64 (s.a), .int .i64 1]) ∧ Below w.heap.size w w' := by
  obtain ⟨a, x, m⟩ := s
  have i1 : (0 : Int) < (n : Int) := by omega
  skip
  go_enter Try.func85, Try.ntmps85
  go_wp2
  go_ret2
  exact ⟨rfl, (Below.refl _ _).alloc (Nat.le_refl _) _⟩

set_option maxHeartbeats 1000000 in
theorem go_denyx (b o n cap rb ro rc mb mo mc : Nat) (c : Int) (k : Int) (s : S) (w : World) (hn : 1 ≤ n) (hn2 : n ≤ 4096) (hc0 : 0 ≤ (c : Int)) (hc1 : (c : Int) ≤ 65535) (hk0 : 0 ≤ k) (hk1 : k ≤ 4294967295) (hb : b < w.heap.size)
    (c0 : w.cell? ⟨b, o, none⟩ = some (.int .u16 c)) (c3 : w.cell? ⟨b, o + 3, none⟩ = some (.int .u32 k)) (h4c : c % 8 = 4) (h8c : c / 8 % 2 = 1) (hg3 : (c / 16 == 3) = true) (hv0 : (s.x == 0) = true) :
    Calls Try.prog 85 #[.slice (some ⟨b, o, none⟩) n cap, .slice (some ⟨rb, ro, none⟩) 64 rc, .agg #[.int .i64 s.a, .int .i64 s.x, .slice (some ⟨mb, mo, none⟩) 16 mc]] w
      fun e w' => e = .returned (.tuple #[.int .i64 (2147483648), .int .i64 1]) ∧ Below w.heap.size w w' := by
  obtain ⟨a, x, m⟩ := s
  have i1 : (0 : Int) < (n : Int) := by omega
  simp only at hv0
  go_enter Try.func85, Try.ntmps85
  go_wp2
  go_ret2
  exact ⟨rfl, (Below.refl _ _).alloc (Nat.le_refl _) _⟩

end Go.Proofs.Ytjfgihmamoiipaa
