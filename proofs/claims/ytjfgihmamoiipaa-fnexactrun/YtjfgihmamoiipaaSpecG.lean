/-
  CONTRACT of the model's run, a theorem a kind of instruction. (Written by a script of our own, wip/gen/specg.py.)
-/
import Derived.Test.YtjfgihmamoiipaaSpecW
import Derived.Test.YtjfgihmamoiipaaMathV
import Derived.Deep.RegionWith
import Derived.Deep.DrawnRows
namespace Go.Proofs.Ytjfgihmamoiipaa
open Go.RowKit
set_option linter.unusedVariables false
attribute [local go_sem ↓] Go.wp_at_zero Go.wp_at_succ

/-- what is left to be run behind d + 1 instructions: the contract of the call of itself -/
def Rest (w : World) (b o n rb ro rc : Nat) (R : Nat → S → Int × Int) : Prop :=
  ∀ (d : Nat) (s : S) (wx : World) (cp mb mo mc : Nat), d + 1 < n → n - (d + 1) ≤ cp → s.ok → Below w.heap.size w wx → mb < wx.heap.size → MemAt wx mb mo s.m →
    Calls Try.prog 85 #[.slice (some ⟨b, o + (1 + d) * 4, none⟩) (n - (1 + d)) cp, .slice (some ⟨rb, ro, none⟩) 64 rc, .agg #[.int .i64 s.a, .int .i64 s.x, .slice (some ⟨mb, mo, none⟩) 16 mc]] wx
      fun e w' => e = .returned (.tuple #[.int .i64 (R d s).1, .int .i64 (R d s).2]) ∧ Below wx.heap.size wx w'

theorem ret_two {a b c d : Int} (h : b = d) (h1 : a = c) : Ending.returned (.tuple #[.int .i64 a, .int .i64 b]) = .returned (.tuple #[.int .i64 c, .int .i64 d]) := by rw [h, h1]

set_option maxHeartbeats 1000000 in
set_option maxRecDepth 100000 in
theorem go_seta (b o n cap rb ro rc mb mo mc : Nat) (jt jf k : Int) (r : List Int) (s : S) (w : World) (R : Nat → S → Int × Int) (hR : Rest w b o n rb ro rc R) (hRb : ∀ d s, 0 ≤ (R d s).2 ∧ (R d s).2 ≤ 4096) (hn : 2 ≤ n) (hn2 : n ≤ 4096) (hcap : n ≤ cap) (hs : s.ok) (hi : I.ok ⟨0, jt, jf, k⟩)
    (hb : b < w.heap.size) (hrb : rb < w.heap.size) (hr : BytesAt w rb ro r) (hrl : r.length = 64) (hrr : isBytes r) (hmb : mb < w.heap.size) (hm : MemAt w mb mo s.m)
    (c0 : w.cell? ⟨b, o, none⟩ = some (.int .u16 0)) (c1 : w.cell? ⟨b, o + 1, none⟩ = some (.int .u8 jt)) (c2 : w.cell? ⟨b, o + 2, none⟩ = some (.int .u8 jf)) (c3 : w.cell? ⟨b, o + 3, none⟩ = some (.int .u32 k))  :
    Calls Try.prog 85 #[.slice (some ⟨b, o, none⟩) n cap, .slice (some ⟨rb, ro, none⟩) 64 rc, .agg #[.int .i64 s.a, .int .i64 s.x, .slice (some ⟨mb, mo, none⟩) 16 mc]] w
      fun e w' => e = .returned (.tuple #[.int .i64 (R (0) ⟨k, s.x, s.m⟩).1, .int .i64 ((R (0) ⟨k, s.x, s.m⟩).2 + 1)]) ∧ Below w.heap.size w w' := by
  have HR : Hid _ := hR
  obtain ⟨h1, h2, h3, h4, h5, h6, h7, h8⟩ := hi
  simp only at h1 h2 h3 h4 h5 h6 h7 h8
  obtain ⟨a, x, m⟩ := s
  have HS : Hid (S.ok ⟨k, x, m⟩) := ⟨⟨h7, h8⟩, hs.2.1, hs.2.2⟩
  have hst := hRb (0) ⟨k, x, m⟩
  clear hR hRb
  simp only at hm
  have i1 : (0 : Int) < (n : Int) := by omega
  have i2 : (1 : Int) ≤ (n : Int) := by omega
  have i3 : (1 : Int) ≤ (cap : Int) := by omega
  have i4 : (n : Int) ≤ (cap : Int) := by omega
  have i5 : ¬ cap = 1 := by omega
  have wr1 : IntKind.i64.wrap 1 = 1 := by rw [IntKind.wrap_i64]; rfl
  go_enter Try.func85, Try.ntmps85
  go_wp2_with fail
  have e0 : (w.alloc (Obj.cells #[Value.int IntKind.i64 (k), Value.int IntKind.i64 (x), Value.slice (some ⟨mb, mo, none⟩) 16 mc] 110)).cell? ⟨w.heap.size, 0, none⟩ = some (.int .i64 (k)) := by rw [World.cell?_alloc_at _ _ _ _ rfl]; rfl
  have e1 : (w.alloc (Obj.cells #[Value.int IntKind.i64 (k), Value.int IntKind.i64 (x), Value.slice (some ⟨mb, mo, none⟩) 16 mc] 110)).cell? ⟨w.heap.size, 1, none⟩ = some (.int .i64 (x)) := by rw [World.cell?_alloc_at _ _ _ _ rfl]; rfl
  have e2 : (w.alloc (Obj.cells #[Value.int IntKind.i64 (k), Value.int IntKind.i64 (x), Value.slice (some ⟨mb, mo, none⟩) 16 mc] 110)).cell? ⟨w.heap.size, 2, none⟩ = some (.slice (some ⟨mb, mo, none⟩) 16 mc) := by rw [World.cell?_alloc_at _ _ _ _ rfl]; rfl
  have hz : w.heap.size < (w.alloc (Obj.cells #[Value.int IntKind.i64 (k), Value.int IntKind.i64 (x), Value.slice (some ⟨mb, mo, none⟩) 16 mc] 110)).heap.size := by simp
  have hB : Below w.heap.size w (w.alloc (Obj.cells #[Value.int IntKind.i64 (k), Value.int IntKind.i64 (x), Value.slice (some ⟨mb, mo, none⟩) 16 mc] 110)) := (Below.refl _ _).alloc (Nat.le_refl _) _
  generalize w.alloc (Obj.cells #[Value.int IntKind.i64 (k), Value.int IntKind.i64 (x), Value.slice (some ⟨mb, mo, none⟩) 16 mc] 110) = W at *
  have HM : Hid (MemAt W mb mo m) := fun j hj => (hB.cell (p := ⟨mb, _, none⟩) hmb).trans (hm j hj)
  have hw1 : mb < W.heap.size := by omega
  clear hm
  generalize hDe : w.heap.size = D at *
  have HB : Hid (Below D w W) := hB
  have HDe : Hid (w.heap.size = D) := hDe
  clear c0 c1 c2 c3 hDe hr
  go_region_held3 (fun w' => w'.cell? ⟨D, 0, none⟩ = some (.int .i64 (k)) ∧ w'.cell? ⟨D, 1, none⟩ = some (.int .i64 (x)) ∧ w'.cell? ⟨D, 2, none⟩ = some (.slice (some ⟨mb, mo, none⟩) 16 mc))
    (first | go_keep | (go_split_ands; refine ⟨?_, ?_, ?_⟩; all_goals (rw [hq1 _ _ (by simpa using hz)]; assumption)))
    ((go_at_call 85; refine (HR.out (0) ⟨k, x, m⟩ _ _ mb mo mc ?_ ?_ ?_ ?_ ?_ ?_).mono ?_; (omega); (omega); (exact HS.out); (exact HB.out.drew); (exact hw1); (exact HM.out); rintro e w' ⟨rfl, hbb⟩; have hq1 := (bcell hbb).1))
  go_wp2
  go_ret2
  refine ⟨rfl, ?_⟩
  rw [HDe.out]
  exact HB.out.drew.trans (Below.mono (by assumption) (by simp; omega))

set_option maxHeartbeats 1000000 in
set_option maxRecDepth 100000 in
theorem go_setx (b o n cap rb ro rc mb mo mc : Nat) (jt jf k : Int) (r : List Int) (s : S) (w : World) (R : Nat → S → Int × Int) (hR : Rest w b o n rb ro rc R) (hRb : ∀ d s, 0 ≤ (R d s).2 ∧ (R d s).2 ≤ 4096) (hn : 2 ≤ n) (hn2 : n ≤ 4096) (hcap : n ≤ cap) (hs : s.ok) (hi : I.ok ⟨1, jt, jf, k⟩)
    (hb : b < w.heap.size) (hrb : rb < w.heap.size) (hr : BytesAt w rb ro r) (hrl : r.length = 64) (hrr : isBytes r) (hmb : mb < w.heap.size) (hm : MemAt w mb mo s.m)
    (c0 : w.cell? ⟨b, o, none⟩ = some (.int .u16 1)) (c1 : w.cell? ⟨b, o + 1, none⟩ = some (.int .u8 jt)) (c2 : w.cell? ⟨b, o + 2, none⟩ = some (.int .u8 jf)) (c3 : w.cell? ⟨b, o + 3, none⟩ = some (.int .u32 k))  :
    Calls Try.prog 85 #[.slice (some ⟨b, o, none⟩) n cap, .slice (some ⟨rb, ro, none⟩) 64 rc, .agg #[.int .i64 s.a, .int .i64 s.x, .slice (some ⟨mb, mo, none⟩) 16 mc]] w
      fun e w' => e = .returned (.tuple #[.int .i64 (R (0) ⟨s.a, k, s.m⟩).1, .int .i64 ((R (0) ⟨s.a, k, s.m⟩).2 + 1)]) ∧ Below w.heap.size w w' := by
  have HR : Hid _ := hR
  obtain ⟨h1, h2, h3, h4, h5, h6, h7, h8⟩ := hi
  simp only at h1 h2 h3 h4 h5 h6 h7 h8
  obtain ⟨a, x, m⟩ := s
  have HS : Hid (S.ok ⟨a, k, m⟩) := ⟨hs.1, ⟨h7, h8⟩, hs.2.2⟩
  have hst := hRb (0) ⟨a, k, m⟩
  clear hR hRb
  simp only at hm
  have i1 : (0 : Int) < (n : Int) := by omega
  have i2 : (1 : Int) ≤ (n : Int) := by omega
  have i3 : (1 : Int) ≤ (cap : Int) := by omega
  have i4 : (n : Int) ≤ (cap : Int) := by omega
  have i5 : ¬ cap = 1 := by omega
  have wr1 : IntKind.i64.wrap 1 = 1 := by rw [IntKind.wrap_i64]; rfl
  go_enter Try.func85, Try.ntmps85
  go_wp2_with fail
  have e0 : (w.alloc (Obj.cells #[Value.int IntKind.i64 (a), Value.int IntKind.i64 (k), Value.slice (some ⟨mb, mo, none⟩) 16 mc] 110)).cell? ⟨w.heap.size, 0, none⟩ = some (.int .i64 (a)) := by rw [World.cell?_alloc_at _ _ _ _ rfl]; rfl
  have e1 : (w.alloc (Obj.cells #[Value.int IntKind.i64 (a), Value.int IntKind.i64 (k), Value.slice (some ⟨mb, mo, none⟩) 16 mc] 110)).cell? ⟨w.heap.size, 1, none⟩ = some (.int .i64 (k)) := by rw [World.cell?_alloc_at _ _ _ _ rfl]; rfl
  have e2 : (w.alloc (Obj.cells #[Value.int IntKind.i64 (a), Value.int IntKind.i64 (k), Value.slice (some ⟨mb, mo, none⟩) 16 mc] 110)).cell? ⟨w.heap.size, 2, none⟩ = some (.slice (some ⟨mb, mo, none⟩) 16 mc) := by rw [World.cell?_alloc_at _ _ _ _ rfl]; rfl
  have hz : w.heap.size < (w.alloc (Obj.cells #[Value.int IntKind.i64 (a), Value.int IntKind.i64 (k), Value.slice (some ⟨mb, mo, none⟩) 16 mc] 110)).heap.size := by simp
  have hB : Below w.heap.size w (w.alloc (Obj.cells #[Value.int IntKind.i64 (a), Value.int IntKind.i64 (k), Value.slice (some ⟨mb, mo, none⟩) 16 mc] 110)) := (Below.refl _ _).alloc (Nat.le_refl _) _
  generalize w.alloc (Obj.cells #[Value.int IntKind.i64 (a), Value.int IntKind.i64 (k), Value.slice (some ⟨mb, mo, none⟩) 16 mc] 110) = W at *
  have HM : Hid (MemAt W mb mo m) := fun j hj => (hB.cell (p := ⟨mb, _, none⟩) hmb).trans (hm j hj)
  have hw1 : mb < W.heap.size := by omega
  clear hm
  generalize hDe : w.heap.size = D at *
  have HB : Hid (Below D w W) := hB
  have HDe : Hid (w.heap.size = D) := hDe
  clear c0 c1 c2 c3 hDe hr
  go_region_held3 (fun w' => w'.cell? ⟨D, 0, none⟩ = some (.int .i64 (a)) ∧ w'.cell? ⟨D, 1, none⟩ = some (.int .i64 (k)) ∧ w'.cell? ⟨D, 2, none⟩ = some (.slice (some ⟨mb, mo, none⟩) 16 mc))
    (first | go_keep | (go_split_ands; refine ⟨?_, ?_, ?_⟩; all_goals (rw [hq1 _ _ (by simpa using hz)]; assumption)))
    ((go_at_call 85; refine (HR.out (0) ⟨a, k, m⟩ _ _ mb mo mc ?_ ?_ ?_ ?_ ?_ ?_).mono ?_; (omega); (omega); (exact HS.out); (exact HB.out.drew); (exact hw1); (exact HM.out); rintro e w' ⟨rfl, hbb⟩; have hq1 := (bcell hbb).1))
  go_wp2
  go_ret2
  refine ⟨rfl, ?_⟩
  rw [HDe.out]
  exact HB.out.drew.trans (Below.mono (by assumption) (by simp; omega))

set_option maxHeartbeats 1000000 in
set_option maxRecDepth 100000 in
theorem go_copyx (b o n cap rb ro rc mb mo mc : Nat) (jt jf k : Int) (r : List Int) (s : S) (w : World) (R : Nat → S → Int × Int) (hR : Rest w b o n rb ro rc R) (hRb : ∀ d s, 0 ≤ (R d s).2 ∧ (R d s).2 ≤ 4096) (hn : 2 ≤ n) (hn2 : n ≤ 4096) (hcap : n ≤ cap) (hs : s.ok) (hi : I.ok ⟨7, jt, jf, k⟩)
    (hb : b < w.heap.size) (hrb : rb < w.heap.size) (hr : BytesAt w rb ro r) (hrl : r.length = 64) (hrr : isBytes r) (hmb : mb < w.heap.size) (hm : MemAt w mb mo s.m)
    (c0 : w.cell? ⟨b, o, none⟩ = some (.int .u16 7)) (c1 : w.cell? ⟨b, o + 1, none⟩ = some (.int .u8 jt)) (c2 : w.cell? ⟨b, o + 2, none⟩ = some (.int .u8 jf)) (c3 : w.cell? ⟨b, o + 3, none⟩ = some (.int .u32 k))  :
    Calls Try.prog 85 #[.slice (some ⟨b, o, none⟩) n cap, .slice (some ⟨rb, ro, none⟩) 64 rc, .agg #[.int .i64 s.a, .int .i64 s.x, .slice (some ⟨mb, mo, none⟩) 16 mc]] w
      fun e w' => e = .returned (.tuple #[.int .i64 (R (0) ⟨s.a, s.a, s.m⟩).1, .int .i64 ((R (0) ⟨s.a, s.a, s.m⟩).2 + 1)]) ∧ Below w.heap.size w w' := by
  have HR : Hid _ := hR
  obtain ⟨h1, h2, h3, h4, h5, h6, h7, h8⟩ := hi
  simp only at h1 h2 h3 h4 h5 h6 h7 h8
  obtain ⟨a, x, m⟩ := s
  have HS : Hid (S.ok ⟨a, a, m⟩) := ⟨hs.1, hs.1, hs.2.2⟩
  have hst := hRb (0) ⟨a, a, m⟩
  clear hR hRb
  simp only at hm
  have i1 : (0 : Int) < (n : Int) := by omega
  have i2 : (1 : Int) ≤ (n : Int) := by omega
  have i3 : (1 : Int) ≤ (cap : Int) := by omega
  have i4 : (n : Int) ≤ (cap : Int) := by omega
  have i5 : ¬ cap = 1 := by omega
  have wr1 : IntKind.i64.wrap 1 = 1 := by rw [IntKind.wrap_i64]; rfl
  go_enter Try.func85, Try.ntmps85
  go_wp2_with fail
  have e0 : (w.alloc (Obj.cells #[Value.int IntKind.i64 (a), Value.int IntKind.i64 (a), Value.slice (some ⟨mb, mo, none⟩) 16 mc] 110)).cell? ⟨w.heap.size, 0, none⟩ = some (.int .i64 (a)) := by rw [World.cell?_alloc_at _ _ _ _ rfl]; rfl
  have e1 : (w.alloc (Obj.cells #[Value.int IntKind.i64 (a), Value.int IntKind.i64 (a), Value.slice (some ⟨mb, mo, none⟩) 16 mc] 110)).cell? ⟨w.heap.size, 1, none⟩ = some (.int .i64 (a)) := by rw [World.cell?_alloc_at _ _ _ _ rfl]; rfl
  have e2 : (w.alloc (Obj.cells #[Value.int IntKind.i64 (a), Value.int IntKind.i64 (a), Value.slice (some ⟨mb, mo, none⟩) 16 mc] 110)).cell? ⟨w.heap.size, 2, none⟩ = some (.slice (some ⟨mb, mo, none⟩) 16 mc) := by rw [World.cell?_alloc_at _ _ _ _ rfl]; rfl
  have hz : w.heap.size < (w.alloc (Obj.cells #[Value.int IntKind.i64 (a), Value.int IntKind.i64 (a), Value.slice (some ⟨mb, mo, none⟩) 16 mc] 110)).heap.size := by simp
  have hB : Below w.heap.size w (w.alloc (Obj.cells #[Value.int IntKind.i64 (a), Value.int IntKind.i64 (a), Value.slice (some ⟨mb, mo, none⟩) 16 mc] 110)) := (Below.refl _ _).alloc (Nat.le_refl _) _
  generalize w.alloc (Obj.cells #[Value.int IntKind.i64 (a), Value.int IntKind.i64 (a), Value.slice (some ⟨mb, mo, none⟩) 16 mc] 110) = W at *
  have HM : Hid (MemAt W mb mo m) := fun j hj => (hB.cell (p := ⟨mb, _, none⟩) hmb).trans (hm j hj)
  have hw1 : mb < W.heap.size := by omega
  clear hm
  generalize hDe : w.heap.size = D at *
  have HB : Hid (Below D w W) := hB
  have HDe : Hid (w.heap.size = D) := hDe
  clear c0 c1 c2 c3 hDe hr
  go_region_held3 (fun w' => w'.cell? ⟨D, 0, none⟩ = some (.int .i64 (a)) ∧ w'.cell? ⟨D, 1, none⟩ = some (.int .i64 (a)) ∧ w'.cell? ⟨D, 2, none⟩ = some (.slice (some ⟨mb, mo, none⟩) 16 mc))
    (first | go_keep | (go_split_ands; refine ⟨?_, ?_, ?_⟩; all_goals (rw [hq1 _ _ (by simpa using hz)]; assumption)))
    ((go_at_call 85; refine (HR.out (0) ⟨a, a, m⟩ _ _ mb mo mc ?_ ?_ ?_ ?_ ?_ ?_).mono ?_; (omega); (omega); (exact HS.out); (exact HB.out.drew); (exact hw1); (exact HM.out); rintro e w' ⟨rfl, hbb⟩; have hq1 := (bcell hbb).1))
  go_wp2
  go_ret2
  refine ⟨rfl, ?_⟩
  rw [HDe.out]
  exact HB.out.drew.trans (Below.mono (by assumption) (by simp; omega))

set_option maxHeartbeats 1000000 in
set_option maxRecDepth 100000 in
theorem go_copya (b o n cap rb ro rc mb mo mc : Nat) (jt jf k : Int) (r : List Int) (s : S) (w : World) (R : Nat → S → Int × Int) (hR : Rest w b o n rb ro rc R) (hRb : ∀ d s, 0 ≤ (R d s).2 ∧ (R d s).2 ≤ 4096) (hn : 2 ≤ n) (hn2 : n ≤ 4096) (hcap : n ≤ cap) (hs : s.ok) (hi : I.ok ⟨135, jt, jf, k⟩)
    (hb : b < w.heap.size) (hrb : rb < w.heap.size) (hr : BytesAt w rb ro r) (hrl : r.length = 64) (hrr : isBytes r) (hmb : mb < w.heap.size) (hm : MemAt w mb mo s.m)
    (c0 : w.cell? ⟨b, o, none⟩ = some (.int .u16 135)) (c1 : w.cell? ⟨b, o + 1, none⟩ = some (.int .u8 jt)) (c2 : w.cell? ⟨b, o + 2, none⟩ = some (.int .u8 jf)) (c3 : w.cell? ⟨b, o + 3, none⟩ = some (.int .u32 k))  :
    Calls Try.prog 85 #[.slice (some ⟨b, o, none⟩) n cap, .slice (some ⟨rb, ro, none⟩) 64 rc, .agg #[.int .i64 s.a, .int .i64 s.x, .slice (some ⟨mb, mo, none⟩) 16 mc]] w
      fun e w' => e = .returned (.tuple #[.int .i64 (R (0) ⟨s.x, s.x, s.m⟩).1, .int .i64 ((R (0) ⟨s.x, s.x, s.m⟩).2 + 1)]) ∧ Below w.heap.size w w' := by
  have HR : Hid _ := hR
  obtain ⟨h1, h2, h3, h4, h5, h6, h7, h8⟩ := hi
  simp only at h1 h2 h3 h4 h5 h6 h7 h8
  obtain ⟨a, x, m⟩ := s
  have HS : Hid (S.ok ⟨x, x, m⟩) := ⟨hs.2.1, hs.2.1, hs.2.2⟩
  have hst := hRb (0) ⟨x, x, m⟩
  clear hR hRb
  simp only at hm
  have i1 : (0 : Int) < (n : Int) := by omega
  have i2 : (1 : Int) ≤ (n : Int) := by omega
  have i3 : (1 : Int) ≤ (cap : Int) := by omega
  have i4 : (n : Int) ≤ (cap : Int) := by omega
  have i5 : ¬ cap = 1 := by omega
  have wr1 : IntKind.i64.wrap 1 = 1 := by rw [IntKind.wrap_i64]; rfl
  go_enter Try.func85, Try.ntmps85
  go_wp2_with fail
  have e0 : (w.alloc (Obj.cells #[Value.int IntKind.i64 (x), Value.int IntKind.i64 (x), Value.slice (some ⟨mb, mo, none⟩) 16 mc] 110)).cell? ⟨w.heap.size, 0, none⟩ = some (.int .i64 (x)) := by rw [World.cell?_alloc_at _ _ _ _ rfl]; rfl
  have e1 : (w.alloc (Obj.cells #[Value.int IntKind.i64 (x), Value.int IntKind.i64 (x), Value.slice (some ⟨mb, mo, none⟩) 16 mc] 110)).cell? ⟨w.heap.size, 1, none⟩ = some (.int .i64 (x)) := by rw [World.cell?_alloc_at _ _ _ _ rfl]; rfl
  have e2 : (w.alloc (Obj.cells #[Value.int IntKind.i64 (x), Value.int IntKind.i64 (x), Value.slice (some ⟨mb, mo, none⟩) 16 mc] 110)).cell? ⟨w.heap.size, 2, none⟩ = some (.slice (some ⟨mb, mo, none⟩) 16 mc) := by rw [World.cell?_alloc_at _ _ _ _ rfl]; rfl
  have hz : w.heap.size < (w.alloc (Obj.cells #[Value.int IntKind.i64 (x), Value.int IntKind.i64 (x), Value.slice (some ⟨mb, mo, none⟩) 16 mc] 110)).heap.size := by simp
  have hB : Below w.heap.size w (w.alloc (Obj.cells #[Value.int IntKind.i64 (x), Value.int IntKind.i64 (x), Value.slice (some ⟨mb, mo, none⟩) 16 mc] 110)) := (Below.refl _ _).alloc (Nat.le_refl _) _
  generalize w.alloc (Obj.cells #[Value.int IntKind.i64 (x), Value.int IntKind.i64 (x), Value.slice (some ⟨mb, mo, none⟩) 16 mc] 110) = W at *
  have HM : Hid (MemAt W mb mo m) := fun j hj => (hB.cell (p := ⟨mb, _, none⟩) hmb).trans (hm j hj)
  have hw1 : mb < W.heap.size := by omega
  clear hm
  generalize hDe : w.heap.size = D at *
  have HB : Hid (Below D w W) := hB
  have HDe : Hid (w.heap.size = D) := hDe
  clear c0 c1 c2 c3 hDe hr
  go_region_held3 (fun w' => w'.cell? ⟨D, 0, none⟩ = some (.int .i64 (x)) ∧ w'.cell? ⟨D, 1, none⟩ = some (.int .i64 (x)) ∧ w'.cell? ⟨D, 2, none⟩ = some (.slice (some ⟨mb, mo, none⟩) 16 mc))
    (first | go_keep | (go_split_ands; refine ⟨?_, ?_, ?_⟩; all_goals (rw [hq1 _ _ (by simpa using hz)]; assumption)))
    ((go_at_call 85; refine (HR.out (0) ⟨x, x, m⟩ _ _ mb mo mc ?_ ?_ ?_ ?_ ?_ ?_).mono ?_; (omega); (omega); (exact HS.out); (exact HB.out.drew); (exact hw1); (exact HM.out); rintro e w' ⟨rfl, hbb⟩; have hq1 := (bcell hbb).1))
  go_wp2
  go_ret2
  refine ⟨rfl, ?_⟩
  rw [HDe.out]
  exact HB.out.drew.trans (Below.mono (by assumption) (by simp; omega))

set_option maxHeartbeats 1000000 in
set_option maxRecDepth 100000 in
theorem go_geta (b o n cap rb ro rc mb mo mc : Nat) (jt jf k : Int) (r : List Int) (s : S) (w : World) (R : Nat → S → Int × Int) (hR : Rest w b o n rb ro rc R) (hRb : ∀ d s, 0 ≤ (R d s).2 ∧ (R d s).2 ≤ 4096) (hn : 2 ≤ n) (hn2 : n ≤ 4096) (hcap : n ≤ cap) (hs : s.ok) (hi : I.ok ⟨96, jt, jf, k⟩)
    (hb : b < w.heap.size) (hrb : rb < w.heap.size) (hr : BytesAt w rb ro r) (hrl : r.length = 64) (hrr : isBytes r) (hmb : mb < w.heap.size) (hm : MemAt w mb mo s.m)
    (c0 : w.cell? ⟨b, o, none⟩ = some (.int .u16 96)) (c1 : w.cell? ⟨b, o + 1, none⟩ = some (.int .u8 jt)) (c2 : w.cell? ⟨b, o + 2, none⟩ = some (.int .u8 jf)) (c3 : w.cell? ⟨b, o + 3, none⟩ = some (.int .u32 k)) (hk : k < 16) :
    Calls Try.prog 85 #[.slice (some ⟨b, o, none⟩) n cap, .slice (some ⟨rb, ro, none⟩) 64 rc, .agg #[.int .i64 s.a, .int .i64 s.x, .slice (some ⟨mb, mo, none⟩) 16 mc]] w
      fun e w' => e = .returned (.tuple #[.int .i64 (R (0) ⟨s.m k.toNat, s.x, s.m⟩).1, .int .i64 ((R (0) ⟨s.m k.toNat, s.x, s.m⟩).2 + 1)]) ∧ Below w.heap.size w w' := by
  have HR : Hid _ := hR
  obtain ⟨h1, h2, h3, h4, h5, h6, h7, h8⟩ := hi
  simp only at h1 h2 h3 h4 h5 h6 h7 h8
  obtain ⟨a, x, m⟩ := s
  have HS : Hid (S.ok ⟨m k.toNat, x, m⟩) := ⟨hs.2.2 _, hs.2.1, hs.2.2⟩
  have hst := hRb (0) ⟨m k.toNat, x, m⟩
  clear hR hRb
  simp only at hm
  have i1 : (0 : Int) < (n : Int) := by omega
  have i2 : (1 : Int) ≤ (n : Int) := by omega
  have i3 : (1 : Int) ≤ (cap : Int) := by omega
  have i4 : (n : Int) ≤ (cap : Int) := by omega
  have i5 : ¬ cap = 1 := by omega
  have wr1 : IntKind.i64.wrap 1 = 1 := by rw [IntKind.wrap_i64]; rfl
  have hkc := hm k.toNat (by omega)
  have hk1 : k < 16 := by omega
  have hki : ((k.toNat : Nat) : Int) = k := by omega
  go_enter Try.func85, Try.ntmps85
  go_wp2_with fail
  have e0 : (w.alloc (Obj.cells #[Value.int IntKind.i64 (m k.toNat), Value.int IntKind.i64 (x), Value.slice (some ⟨mb, mo, none⟩) 16 mc] 110)).cell? ⟨w.heap.size, 0, none⟩ = some (.int .i64 (m k.toNat)) := by rw [World.cell?_alloc_at _ _ _ _ rfl]; rfl
  have e1 : (w.alloc (Obj.cells #[Value.int IntKind.i64 (m k.toNat), Value.int IntKind.i64 (x), Value.slice (some ⟨mb, mo, none⟩) 16 mc] 110)).cell? ⟨w.heap.size, 1, none⟩ = some (.int .i64 (x)) := by rw [World.cell?_alloc_at _ _ _ _ rfl]; rfl
  have e2 : (w.alloc (Obj.cells #[Value.int IntKind.i64 (m k.toNat), Value.int IntKind.i64 (x), Value.slice (some ⟨mb, mo, none⟩) 16 mc] 110)).cell? ⟨w.heap.size, 2, none⟩ = some (.slice (some ⟨mb, mo, none⟩) 16 mc) := by rw [World.cell?_alloc_at _ _ _ _ rfl]; rfl
  have hz : w.heap.size < (w.alloc (Obj.cells #[Value.int IntKind.i64 (m k.toNat), Value.int IntKind.i64 (x), Value.slice (some ⟨mb, mo, none⟩) 16 mc] 110)).heap.size := by simp
  have hB : Below w.heap.size w (w.alloc (Obj.cells #[Value.int IntKind.i64 (m k.toNat), Value.int IntKind.i64 (x), Value.slice (some ⟨mb, mo, none⟩) 16 mc] 110)) := (Below.refl _ _).alloc (Nat.le_refl _) _
  generalize w.alloc (Obj.cells #[Value.int IntKind.i64 (m k.toNat), Value.int IntKind.i64 (x), Value.slice (some ⟨mb, mo, none⟩) 16 mc] 110) = W at *
  have HM : Hid (MemAt W mb mo m) := fun j hj => (hB.cell (p := ⟨mb, _, none⟩) hmb).trans (hm j hj)
  have hw1 : mb < W.heap.size := by omega
  clear hm
  generalize hDe : w.heap.size = D at *
  have HB : Hid (Below D w W) := hB
  have HDe : Hid (w.heap.size = D) := hDe
  clear c0 c1 c2 c3 hDe hr
  go_region_held3 (fun w' => w'.cell? ⟨D, 0, none⟩ = some (.int .i64 (m k.toNat)) ∧ w'.cell? ⟨D, 1, none⟩ = some (.int .i64 (x)) ∧ w'.cell? ⟨D, 2, none⟩ = some (.slice (some ⟨mb, mo, none⟩) 16 mc))
    (first | go_keep | (go_split_ands; refine ⟨?_, ?_, ?_⟩; all_goals (rw [hq1 _ _ (by simpa using hz)]; assumption)))
    ((go_at_call 85; refine (HR.out (0) ⟨m k.toNat, x, m⟩ _ _ mb mo mc ?_ ?_ ?_ ?_ ?_ ?_).mono ?_; (omega); (omega); (exact HS.out); (exact HB.out.drew); (exact hw1); (exact HM.out); rintro e w' ⟨rfl, hbb⟩; have hq1 := (bcell hbb).1))
  go_wp2
  go_ret2
  refine ⟨rfl, ?_⟩
  rw [HDe.out]
  exact HB.out.drew.trans (Below.mono (by assumption) (by simp; omega))

set_option maxHeartbeats 1000000 in
set_option maxRecDepth 100000 in
theorem go_getx (b o n cap rb ro rc mb mo mc : Nat) (jt jf k : Int) (r : List Int) (s : S) (w : World) (R : Nat → S → Int × Int) (hR : Rest w b o n rb ro rc R) (hRb : ∀ d s, 0 ≤ (R d s).2 ∧ (R d s).2 ≤ 4096) (hn : 2 ≤ n) (hn2 : n ≤ 4096) (hcap : n ≤ cap) (hs : s.ok) (hi : I.ok ⟨97, jt, jf, k⟩)
    (hb : b < w.heap.size) (hrb : rb < w.heap.size) (hr : BytesAt w rb ro r) (hrl : r.length = 64) (hrr : isBytes r) (hmb : mb < w.heap.size) (hm : MemAt w mb mo s.m)
    (c0 : w.cell? ⟨b, o, none⟩ = some (.int .u16 97)) (c1 : w.cell? ⟨b, o + 1, none⟩ = some (.int .u8 jt)) (c2 : w.cell? ⟨b, o + 2, none⟩ = some (.int .u8 jf)) (c3 : w.cell? ⟨b, o + 3, none⟩ = some (.int .u32 k)) (hk : k < 16) :
    Calls Try.prog 85 #[.slice (some ⟨b, o, none⟩) n cap, .slice (some ⟨rb, ro, none⟩) 64 rc, .agg #[.int .i64 s.a, .int .i64 s.x, .slice (some ⟨mb, mo, none⟩) 16 mc]] w
      fun e w' => e = .returned (.tuple #[.int .i64 (R (0) ⟨s.a, s.m k.toNat, s.m⟩).1, .int .i64 ((R (0) ⟨s.a, s.m k.toNat, s.m⟩).2 + 1)]) ∧ Below w.heap.size w w' := by
  have HR : Hid _ := hR
  obtain ⟨h1, h2, h3, h4, h5, h6, h7, h8⟩ := hi
  simp only at h1 h2 h3 h4 h5 h6 h7 h8
  obtain ⟨a, x, m⟩ := s
  have HS : Hid (S.ok ⟨a, m k.toNat, m⟩) := ⟨hs.1, hs.2.2 _, hs.2.2⟩
  have hst := hRb (0) ⟨a, m k.toNat, m⟩
  clear hR hRb
  simp only at hm
  have i1 : (0 : Int) < (n : Int) := by omega
  have i2 : (1 : Int) ≤ (n : Int) := by omega
  have i3 : (1 : Int) ≤ (cap : Int) := by omega
  have i4 : (n : Int) ≤ (cap : Int) := by omega
  have i5 : ¬ cap = 1 := by omega
  have wr1 : IntKind.i64.wrap 1 = 1 := by rw [IntKind.wrap_i64]; rfl
  have hkc := hm k.toNat (by omega)
  have hk1 : k < 16 := by omega
  have hki : ((k.toNat : Nat) : Int) = k := by omega
  go_enter Try.func85, Try.ntmps85
  go_wp2_with fail
  have e0 : (w.alloc (Obj.cells #[Value.int IntKind.i64 (a), Value.int IntKind.i64 (m k.toNat), Value.slice (some ⟨mb, mo, none⟩) 16 mc] 110)).cell? ⟨w.heap.size, 0, none⟩ = some (.int .i64 (a)) := by rw [World.cell?_alloc_at _ _ _ _ rfl]; rfl
  have e1 : (w.alloc (Obj.cells #[Value.int IntKind.i64 (a), Value.int IntKind.i64 (m k.toNat), Value.slice (some ⟨mb, mo, none⟩) 16 mc] 110)).cell? ⟨w.heap.size, 1, none⟩ = some (.int .i64 (m k.toNat)) := by rw [World.cell?_alloc_at _ _ _ _ rfl]; rfl
  have e2 : (w.alloc (Obj.cells #[Value.int IntKind.i64 (a), Value.int IntKind.i64 (m k.toNat), Value.slice (some ⟨mb, mo, none⟩) 16 mc] 110)).cell? ⟨w.heap.size, 2, none⟩ = some (.slice (some ⟨mb, mo, none⟩) 16 mc) := by rw [World.cell?_alloc_at _ _ _ _ rfl]; rfl
  have hz : w.heap.size < (w.alloc (Obj.cells #[Value.int IntKind.i64 (a), Value.int IntKind.i64 (m k.toNat), Value.slice (some ⟨mb, mo, none⟩) 16 mc] 110)).heap.size := by simp
  have hB : Below w.heap.size w (w.alloc (Obj.cells #[Value.int IntKind.i64 (a), Value.int IntKind.i64 (m k.toNat), Value.slice (some ⟨mb, mo, none⟩) 16 mc] 110)) := (Below.refl _ _).alloc (Nat.le_refl _) _
  generalize w.alloc (Obj.cells #[Value.int IntKind.i64 (a), Value.int IntKind.i64 (m k.toNat), Value.slice (some ⟨mb, mo, none⟩) 16 mc] 110) = W at *
  have HM : Hid (MemAt W mb mo m) := fun j hj => (hB.cell (p := ⟨mb, _, none⟩) hmb).trans (hm j hj)
  have hw1 : mb < W.heap.size := by omega
  clear hm
  generalize hDe : w.heap.size = D at *
  have HB : Hid (Below D w W) := hB
  have HDe : Hid (w.heap.size = D) := hDe
  clear c0 c1 c2 c3 hDe hr
  go_region_held3 (fun w' => w'.cell? ⟨D, 0, none⟩ = some (.int .i64 (a)) ∧ w'.cell? ⟨D, 1, none⟩ = some (.int .i64 (m k.toNat)) ∧ w'.cell? ⟨D, 2, none⟩ = some (.slice (some ⟨mb, mo, none⟩) 16 mc))
    (first | go_keep | (go_split_ands; refine ⟨?_, ?_, ?_⟩; all_goals (rw [hq1 _ _ (by simpa using hz)]; assumption)))
    ((go_at_call 85; refine (HR.out (0) ⟨a, m k.toNat, m⟩ _ _ mb mo mc ?_ ?_ ?_ ?_ ?_ ?_).mono ?_; (omega); (omega); (exact HS.out); (exact HB.out.drew); (exact hw1); (exact HM.out); rintro e w' ⟨rfl, hbb⟩; have hq1 := (bcell hbb).1))
  go_wp2
  go_ret2
  refine ⟨rfl, ?_⟩
  rw [HDe.out]
  exact HB.out.drew.trans (Below.mono (by assumption) (by simp; omega))

set_option maxHeartbeats 1000000 in
set_option maxRecDepth 100000 in
theorem go_jump (b o n cap rb ro rc mb mo mc : Nat) (jt jf k : Int) (r : List Int) (s : S) (w : World) (R : Nat → S → Int × Int) (hR : Rest w b o n rb ro rc R) (hRb : ∀ d s, 0 ≤ (R d s).2 ∧ (R d s).2 ≤ 4096) (hn : 2 ≤ n) (hn2 : n ≤ 4096) (hcap : n ≤ cap) (hs : s.ok) (hi : I.ok ⟨5, jt, jf, k⟩)
    (hb : b < w.heap.size) (hrb : rb < w.heap.size) (hr : BytesAt w rb ro r) (hrl : r.length = 64) (hrr : isBytes r) (hmb : mb < w.heap.size) (hm : MemAt w mb mo s.m)
    (c0 : w.cell? ⟨b, o, none⟩ = some (.int .u16 5)) (c1 : w.cell? ⟨b, o + 1, none⟩ = some (.int .u8 jt)) (c2 : w.cell? ⟨b, o + 2, none⟩ = some (.int .u8 jf)) (c3 : w.cell? ⟨b, o + 3, none⟩ = some (.int .u32 k)) (hk : k + 1 < n) :
    Calls Try.prog 85 #[.slice (some ⟨b, o, none⟩) n cap, .slice (some ⟨rb, ro, none⟩) 64 rc, .agg #[.int .i64 s.a, .int .i64 s.x, .slice (some ⟨mb, mo, none⟩) 16 mc]] w
      fun e w' => e = .returned (.tuple #[.int .i64 (R (k.toNat) ⟨s.a, s.x, s.m⟩).1, .int .i64 ((R (k.toNat) ⟨s.a, s.x, s.m⟩).2 + 1)]) ∧ Below w.heap.size w w' := by
  have HR : Hid _ := hR
  obtain ⟨h1, h2, h3, h4, h5, h6, h7, h8⟩ := hi
  simp only at h1 h2 h3 h4 h5 h6 h7 h8
  obtain ⟨a, x, m⟩ := s
  have HS : Hid (S.ok ⟨a, x, m⟩) := ⟨hs.1, hs.2.1, hs.2.2⟩
  have hst := hRb (k.toNat) ⟨a, x, m⟩
  clear hR hRb
  simp only at hm
  have i1 : (0 : Int) < (n : Int) := by omega
  have i2 : (1 : Int) + (k : Int) ≤ (n : Int) := by omega
  have i3 : (1 : Int) + (k : Int) ≤ (cap : Int) := by omega
  have i4 : (n : Int) ≤ (cap : Int) := by omega
  have i5 : ¬ cap = 1 + (k).toNat := by omega
  have i6 : (0 : Int) ≤ 1 + (k : Int) := by omega
  have i7 : (1 + (k : Int)).toNat = 1 + (k).toNat := by omega
  have wr1 : IntKind.i64.wrap (1 + (k : Int)) = 1 + (k : Int) := by rw [IntKind.wrap_i64]; omega
  go_enter Try.func85, Try.ntmps85
  go_wp2_with fail
  have e0 : (w.alloc (Obj.cells #[Value.int IntKind.i64 (a), Value.int IntKind.i64 (x), Value.slice (some ⟨mb, mo, none⟩) 16 mc] 110)).cell? ⟨w.heap.size, 0, none⟩ = some (.int .i64 (a)) := by rw [World.cell?_alloc_at _ _ _ _ rfl]; rfl
  have e1 : (w.alloc (Obj.cells #[Value.int IntKind.i64 (a), Value.int IntKind.i64 (x), Value.slice (some ⟨mb, mo, none⟩) 16 mc] 110)).cell? ⟨w.heap.size, 1, none⟩ = some (.int .i64 (x)) := by rw [World.cell?_alloc_at _ _ _ _ rfl]; rfl
  have e2 : (w.alloc (Obj.cells #[Value.int IntKind.i64 (a), Value.int IntKind.i64 (x), Value.slice (some ⟨mb, mo, none⟩) 16 mc] 110)).cell? ⟨w.heap.size, 2, none⟩ = some (.slice (some ⟨mb, mo, none⟩) 16 mc) := by rw [World.cell?_alloc_at _ _ _ _ rfl]; rfl
  have hz : w.heap.size < (w.alloc (Obj.cells #[Value.int IntKind.i64 (a), Value.int IntKind.i64 (x), Value.slice (some ⟨mb, mo, none⟩) 16 mc] 110)).heap.size := by simp
  have hB : Below w.heap.size w (w.alloc (Obj.cells #[Value.int IntKind.i64 (a), Value.int IntKind.i64 (x), Value.slice (some ⟨mb, mo, none⟩) 16 mc] 110)) := (Below.refl _ _).alloc (Nat.le_refl _) _
  generalize w.alloc (Obj.cells #[Value.int IntKind.i64 (a), Value.int IntKind.i64 (x), Value.slice (some ⟨mb, mo, none⟩) 16 mc] 110) = W at *
  have HM : Hid (MemAt W mb mo m) := fun j hj => (hB.cell (p := ⟨mb, _, none⟩) hmb).trans (hm j hj)
  have hw1 : mb < W.heap.size := by omega
  clear hm
  generalize hDe : w.heap.size = D at *
  have HB : Hid (Below D w W) := hB
  have HDe : Hid (w.heap.size = D) := hDe
  clear c0 c1 c2 c3 hDe hr
  go_region_held3 (fun w' => w'.cell? ⟨D, 0, none⟩ = some (.int .i64 (a)) ∧ w'.cell? ⟨D, 1, none⟩ = some (.int .i64 (x)) ∧ w'.cell? ⟨D, 2, none⟩ = some (.slice (some ⟨mb, mo, none⟩) 16 mc))
    (first | go_keep | (go_split_ands; refine ⟨?_, ?_, ?_⟩; all_goals (rw [hq1 _ _ (by simpa using hz)]; assumption)))
    ((go_at_call 85; refine (HR.out (k.toNat) ⟨a, x, m⟩ _ _ mb mo mc ?_ ?_ ?_ ?_ ?_ ?_).mono ?_; (omega); (omega); (exact HS.out); (exact HB.out.drew); (exact hw1); (exact HM.out); rintro e w' ⟨rfl, hbb⟩; have hq1 := (bcell hbb).1))
  go_wp2
  go_ret2
  refine ⟨rfl, ?_⟩
  rw [HDe.out]
  exact HB.out.drew.trans (Below.mono (by assumption) (by simp; omega))

end Go.Proofs.Ytjfgihmamoiipaa
