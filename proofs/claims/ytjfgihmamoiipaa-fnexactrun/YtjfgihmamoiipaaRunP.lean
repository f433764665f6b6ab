/-
  CONTRACT of the program's Run.
-/
import Derived.Test.YtjfgihmamoiipaaRunI
import Derived.Test.YtjfgihmamoiipaaSpecRun
import Derived.Deep.MidRow
namespace Go.Proofs.Ytjfgihmamoiipaa
open Go.RowKit
set_option linter.unusedVariables false
attribute [local go_sem ↓] Go.wp_at_zero Go.wp_at_succ

theorem rowIs_setCells {t n : Nat} (b : Nat) : ∀ (vs : List Value) (o : Nat) (w : World) (f : Nat → Value), w.rowIs b t n f → (w.setCells b o vs).rowIs b t n (fun j => if o ≤ j ∧ j < o + vs.length then vs.getD (j - o) undef else f j) := by
  intro vs
  induction vs with
  | nil =>
    intro o w f h
    exact h.congr (fun i hi => by simp; intro h1 h2; omega)
  | cons v vs ih =>
    intro o w f h
    have h1 := ih (o + 1) (w.setCell ⟨b, o, none⟩ v) _ (h.set o v)
    refine World.rowIs.congr (f := _) h1 (fun i hi => ?_)
    show (if o + 1 ≤ i ∧ i < o + 1 + vs.length then vs.getD (i - (o + 1)) undef else if i = o then v else f i) = if o ≤ i ∧ i < o + (v :: vs).length then (v :: vs).getD (i - o) undef else f i
    by_cases e : i = o
    · subst e
      rw [if_neg (by omega), if_pos rfl, if_pos ⟨Nat.le_refl _, by simp only [List.length_cons]; omega⟩, Nat.sub_self]; rfl
    · by_cases h2 : o + 1 ≤ i ∧ i < o + 1 + vs.length
      · rw [if_pos h2, if_pos (by simp only [List.length_cons]; omega)]
        rw [show i - o = (i - (o + 1)) + 1 by omega, List.getD_cons_succ]
      · rw [if_neg h2, if_neg e, if_neg (by simp only [List.length_cons]; omega)]

/-- the cells of a machine that begins -/
def machL (rv : Value) : List Value := List.replicate 18 (.int .u32 0) ++ [rv, .int .i64 0, .int .i64 0, .bool false, .int .u32 0]
theorem machL_at (rv : Value) : ∀ i, i < 23 → (machL rv).getD i undef = machF startS rv 0 0 false 0 i := by
  intro i hi
  unfold machF machL
  by_cases h : i < 18
  · rw [List.getD_eq_getElem?_getD, List.getElem?_append_left (by simp only [List.length_replicate]; exact h), List.getElem?_replicate, if_pos h]
    repeat' split
    all_goals first | rfl | omega
  · have : i = 18 ∨ i = 19 ∨ i = 20 ∨ i = 21 ∨ i = 22 := by omega
    rcases this with rfl | rfl | rfl | rfl | rfl <;> rfl

theorem mach_start {w : World} {zs : Array Value} {rv : Value} (hz : zs.size = 23) : Mach ((w.alloc (.cells zs 81)).setCells w.heap.size 0 (machL rv)) w.heap.size startS rv 0 0 false 0 := by
  have h0 := World.rowIs_alloc w zs 81 (fun i => zs.getD i undef) (fun i hi => by simp [hi])
  rw [hz] at h0
  refine (rowIs_setCells w.heap.size (machL rv) 0 _ _ h0).congr (fun i hi => ?_)
  rw [if_pos (by simp [machL]; omega), Nat.sub_zero]
  exact machL_at rv i hi

theorem below_setCells {w : World} {B D : Nat} : ∀ (vs : List Value) (o : Nat) {w1 : World}, Below B w w1 → B ≤ D → Below B w (w1.setCells D o vs) := by
  intro vs
  induction vs with
  | nil => intro o w1 h _; exact h
  | cons v vs ih => intro o w1 h hB; exact ih (o + 1) (h.setCell (p := ⟨D, o, none⟩) hB v) hB

theorem there_new (w : World) (zs : Array Value) (t : TypeId) : (w.alloc (.cells zs t)).there w.heap.size 0 zs.size := by
  intro q hq
  have h0 := World.rowIs_alloc w zs t (fun i => zs.getD i undef) (fun i hi => by simp [hi])
  rw [Nat.zero_add, h0.cell hq]
  exact ⟨rfl, h0.frozen q⟩

theorem infoMach : (Try.prog.info? 81).map (·.size) = some 23 := by kernel_rfl

set_option maxHeartbeats 1000000 in
set_option maxRecDepth 100000 in
theorem implRun_any (a a' : Option Addr) (cap cap' : Nat) (p : List I) (r : List Int) (w : World) (hs : Src w a p) (hok : ∀ x ∈ p, x.ok) (hn : p.length ≤ 1048576) (hs' : BSrc w a' r) (hrr : isBytes r) (hn' : r.length ≤ 1048576) (hcap' : r.length ≤ cap') :
    Calls Try.prog 18 #[.slice a p.length cap, .slice a' r.length cap'] w fun e w' => e = .returned (tripV (runR p r) (runT p r) (runC p r)) ∧ Below w.heap.size w w' := by
  have HV : Hid (Calls Try.prog 17 #[.slice a p.length cap] w fun e w' => e = .returned (pairV (validL p)) ∧ Below w.heap.size w w') := implValidate_any a cap p w hs hok hn
  have hvb : validB p = ((validL p).1 == 0) := rfl
  by_cases hv : validB p = true
  · have hv0 : (validL p).1 = 0 := by simpa [validB] using hv
    by_cases hl : r.length = 64
    · have hq := valid_of hok hv
      have e1 : runR p r = (runL r p.length p startS).1 := by simp [runR, hv, hl]
      have e2 : runT p r = (runL r p.length p startS).2 := by simp [runT, hv, hl]
      have e3 : runC p r = 0 := by simp [runC, hv, hl]
      rcases hs with h0 | ⟨b, o, rfl, hb, hp⟩
      · have := hq.1; rw [h0] at this; simp at this
      rcases hs' with h0 | ⟨rb, ro, rfl, hrb, hr⟩
      · rw [h0] at hl; simp at hl
      have HR : Hid (∀ wx, Below w.heap.size w wx → ∀ W g, g = wx.heap.size → Below wx.heap.size wx W → Mach W g startS (.slice (some ⟨rb, ro, none⟩) 64 cap') 0 0 false 0 → Calls Try.prog 56 #[.pointer (some ⟨g, 0, none⟩), .slice (some ⟨b, o, none⟩) p.length cap] W fun e w' => e = .returned (.tuple #[]) ∧ (∃ s' nx', Mach w' g s' (.slice (some ⟨rb, ro, none⟩) 64 cap') nx' (runL r p.length p startS).2 true (runL r p.length p startS).1) ∧ W.grownBy w' (some g)) := by
        intro wx hB W g hg hBW hM
        have hB2 : Below w.heap.size w W := hB.trans (hBW.mono hB.size)
        have hsz := hB.size
        have hsz2 := hB2.size
        exact run_any g b o cap rb ro cap' p r startS W _ _ (by omega) (by omega) hM startS_ok hq (by omega) (hp.below hb hB2) (by omega) (fun j hj => (hB2.cell (p := ⟨rb, _, none⟩) hrb).trans (hr j hj)) hl hrr (by omega) rfl rfl
      rw [hl, e1, e2, e3]
      generalize runL r p.length p startS = res at *
      have HVv : Hid ((validL p).1 = 0) := hv0
      generalize validL p = vv at *
      obtain ⟨v1, v2⟩ := vv
      simp only at hv0 HVv
      subst hv0
      clear hp hr hok hq hv e1 e2 e3 hvb HVv
      generalize p.length = n at *
      go_enter Try.func18, Try.ntmps18
      go_wp2_with fail
      refine HV.out.mono ?_
      rintro e w1 ⟨rfl, hb1⟩
      go_wp2_with (refine wpList_store_mid rfl 81 (.tmp 9) (.tmp 23) rfl w1.heap.size 0 _ rfl rfl ?ht infoMach ?h1 ?_)
      case ht =>
        exact there_new w1 _ _
      case h1 => simp [Value.oneCell']
      have hB0 : Below w1.heap.size w1 (w1.alloc (Obj.cells #[Value.int IntKind.u32 0, Value.int IntKind.u32 0, Value.int IntKind.u32 0, Value.int IntKind.u32 0, Value.int IntKind.u32 0, Value.int IntKind.u32 0, Value.int IntKind.u32 0, Value.int IntKind.u32 0, Value.int IntKind.u32 0, Value.int IntKind.u32 0, Value.int IntKind.u32 0, Value.int IntKind.u32 0, Value.int IntKind.u32 0, Value.int IntKind.u32 0, Value.int IntKind.u32 0, Value.int IntKind.u32 0, Value.int IntKind.u32 0, Value.int IntKind.u32 0, Value.slice none 0 0, Value.int IntKind.i64 0, Value.int IntKind.i64 0, Value.bool false, Value.int IntKind.u32 0] 81)) := (Below.refl _ _).alloc (Nat.le_refl _) _
      have hMM := mach_start (w := w1) (zs := #[Value.int IntKind.u32 0, Value.int IntKind.u32 0, Value.int IntKind.u32 0, Value.int IntKind.u32 0, Value.int IntKind.u32 0, Value.int IntKind.u32 0, Value.int IntKind.u32 0, Value.int IntKind.u32 0, Value.int IntKind.u32 0, Value.int IntKind.u32 0, Value.int IntKind.u32 0, Value.int IntKind.u32 0, Value.int IntKind.u32 0, Value.int IntKind.u32 0, Value.int IntKind.u32 0, Value.int IntKind.u32 0, Value.int IntKind.u32 0, Value.int IntKind.u32 0, Value.slice none 0 0, Value.int IntKind.i64 0, Value.int IntKind.i64 0, Value.bool false, Value.int IntKind.u32 0]) (rv := .slice (some ⟨rb, ro, none⟩) 64 cap') rfl
      have hBB := below_setCells (machL (.slice (some ⟨rb, ro, none⟩) 64 cap')) 0 hB0 (Nat.le_refl _)
      refine (HR.out w1 hb1 _ w1.heap.size rfl hBB hMM).mono ?_
      rintro e w3 ⟨rfl, ⟨s', nx', hM3⟩, hG3⟩
      have hBW : Below w.heap.size w w3 := (hb1.trans (hBB.mono hb1.size)).grown hG3 (hb1.trans (hBB.mono hb1.size)).size (fun q hq => by simp only [Option.some.injEq] at hq; have := hb1.size; omega)
      have x1 := hM3.cx
      have x2 := hM3.cs
      have HBW : Hid _ := hBW
      clear hM3 hG3 hMM hBB hB0 hb1 hBW HR HV
      obtain ⟨r1, r2⟩ := res
      go_wp2_with fail
      go_quiet (fail)
      go_wp2
      go_ret3
      exact ⟨rfl, below_drewN HBW.out _⟩
    · have e1 : runR p r = 0 := by simp [runR, hl]
      have e2 : runT p r = 0 := by simp [runT, hl]
      have e3 : runC p r = 1 := by simp [runC, hl]
      have hlb : ((r.length : Int) != 64) = true := by rw [bne_iff_ne]; omega
      rw [e1, e2, e3]
      generalize validL p = vv at *
      obtain ⟨v1, v2⟩ := vv
      simp only at hv0
      subst hv0
      clear hs hs' hok hv e1 e2 e3 hl hvb
      generalize p.length = n at *
      generalize r.length = n' at *
      go_enter Try.func18, Try.ntmps18
      go_wp2_with fail
      refine HV.out.mono ?_
      rintro e w1 ⟨rfl, hb1⟩
      go_wp2
      go_ret3
      exact ⟨rfl, hb1⟩
  · have e1 : runR p r = 0 := by simp [runR, hv]
    have e2 : runT p r = 0 := by simp [runT, hv]
    have e3 : runC p r = 1 := by simp [runC, hv]
    rw [e1, e2, e3]
    have hv' : ((validL p).1 != 0) = true := by
      rw [bne_iff_ne]
      intro h
      exact hv (by simp [validB, h])
    generalize validL p = vv at *
    obtain ⟨v1, v2⟩ := vv
    simp only at hv'
    clear hs hs' hok hv e1 e2 e3 hvb
    generalize p.length = n at *
    generalize r.length = n' at *
    go_enter Try.func18, Try.ntmps18
    go_wp2_with fail
    refine HV.out.mono ?_
    rintro e w1 ⟨rfl, hb1⟩
    go_wp2
    go_ret3
    exact ⟨rfl, hb1⟩
end Go.Proofs.Ytjfgihmamoiipaa
