/-
  CONTRACT of the machine's run.
-/
import Derived.Test.YtjfgihmamoiipaaStepA
import Derived.Test.YtjfgihmamoiipaaSpecR
import Derived.Deep.LoopGhost
namespace Go.Proofs.Ytjfgihmamoiipaa
open Go.RowKit
set_option linter.unusedVariables false
attribute [local go_sem ↓] Go.wp_at_zero Go.wp_at_succ

theorem runL_fuel (r : List Int) (N : Nat) : ∀ (M : Nat) (q : List I) (s : S), q.length ≤ N → q.length ≤ M → runL r N q s = runL r M q s := by
  induction N with
  | zero =>
    intro M q s h1 h2
    have : q = [] := List.eq_nil_of_length_eq_zero (by omega)
    subst this
    cases M <;> rfl
  | succ N ih =>
    intro M q s h1 h2
    match q, M with
    | [], 0 => rfl
    | [], M + 1 => rfl
    | i :: t, 0 => simp at h2
    | i :: t, M + 1 =>
      cases h : endsR i s with
      | some v => rw [run_end h, run_end h]
      | none =>
        have e := ih M (t.drop (skipN i s)) (nextS r i s) (by rw [List.length_drop]; simp at h1; omega) (by rw [List.length_drop]; simp at h2; omega)
        rw [run_step h, run_step h, e]

/-- how far the machine has come -/
def Come (p : List I) (r : List Int) (RES STEPS : Int) (k : Nat) (s : S) (nx st : Int) (en : Bool) (re : Int) : Prop :=
  (en = true ∧ re = RES ∧ st = STEPS ∧ k = 0) ∨
  (en = false ∧ ∃ j : Nat, nx = j ∧ j < p.length ∧ k = p.length - j ∧ 0 ≤ st ∧ st ≤ j ∧ s.ok ∧ (runL r (p.length - j) (p.drop j) s).1 = RES ∧ st + (runL r (p.length - j) (p.drop j) s).2 = STEPS)

theorem drop_head {p : List I} {j : Nat} (h : j < p.length) : p.drop j = p.getD j I.zero :: p.drop (j + 1) := by
  rw [List.drop_eq_getElem_cons h, List.getD_eq_getElem?_getD, List.getElem?_eq_getElem h]; rfl

theorem skip_lt {p : List I} (hv : ValidQ p) {j : Nat} (h : j < p.length) {s : S} (he : endsR (p.getD j I.zero) s = none) : j + 1 + skipN (p.getD j I.zero) s < p.length := by
  have hq := hv.drop h
  rw [drop_head h] at hq
  have hh := hq.head
  have hi : (p.getD j I.zero).ok := hq.2.2.2 _ (by simp)
  have hl : (p.drop (j + 1)).length = p.length - (j + 1) := List.length_drop ..
  generalize p.getD j I.zero = i at *
  have h6 : i.c ≠ 6 := fun e => by simp [endsR, e] at he
  have h22 : i.c ≠ 22 := fun e => by simp [endsR, e] at he
  have h1 : (p.drop (j + 1)).length + 1 ≠ 1 := fun e => (hh.last e).elim h6 h22
  unfold skipN
  split
  · rename_i e
    have := hh.jump e
    have := hi.2.2.2.2.2.2.1
    omega
  · split
    · rename_i e
      have := hh.test e
      have q1 := hi.2.2.1
      have q2 := hi.2.2.2.2.1
      split <;> omega
    · omega

theorem come_end {p : List I} {r : List Int} {RES STEPS : Int} {k : Nat} {s : S} {st : Int} {j : Nat} {v re' : Int} (hj : j < p.length) (he : endsR (p.getD j I.zero) s = some v)
    (h1 : (runL r (p.length - j) (p.drop j) s).1 = RES) (h2 : st + (runL r (p.length - j) (p.drop j) s).2 = STEPS) (nx : Int) (s' : S) : Come p r RES STEPS 0 s' nx (st + 1) true v := by
  rw [drop_head hj, show p.length - j = (p.length - (j + 1)) + 1 by omega, run_end he] at h1 h2
  exact .inl ⟨rfl, h1, h2, rfl⟩

theorem come_step {p : List I} {r : List Int} {RES STEPS : Int} {s : S} {st : Int} {j : Nat} (hr : isBytes r) (hv : ValidQ p) (hj : j < p.length) (hs : s.ok) (h0 : 0 ≤ st) (hst : st ≤ j) (he : endsR (p.getD j I.zero) s = none)
    (h1 : (runL r (p.length - j) (p.drop j) s).1 = RES) (h2 : st + (runL r (p.length - j) (p.drop j) s).2 = STEPS) (re : Int) :
    Come p r RES STEPS (p.length - (j + 1 + skipN (p.getD j I.zero) s)) (nextS r (p.getD j I.zero) s) ((j : Int) + 1 + (skipN (p.getD j I.zero) s : Nat)) (st + 1) false re := by
  have hlt := skip_lt hv hj he
  have hi : (p.getD j I.zero).ok := hv.2.2.2 _ (by rw [List.getD_eq_getElem?_getD, List.getElem?_eq_getElem hj]; exact List.getElem_mem hj)
  rw [drop_head hj, show p.length - j = (p.length - (j + 1)) + 1 by omega, run_step he] at h1 h2
  have ed : (p.drop (j + 1)).drop (skipN (p.getD j I.zero) s) = p.drop (j + 1 + skipN (p.getD j I.zero) s) := by rw [List.drop_drop]
  have ef := runL_fuel r (p.length - (j + 1)) (p.length - (j + 1 + skipN (p.getD j I.zero) s)) (p.drop (j + 1 + skipN (p.getD j I.zero) s)) (nextS r (p.getD j I.zero) s) (by rw [List.length_drop]; omega) (by rw [List.length_drop]; omega)
  rw [ed, ef] at h1 h2
  simp only at h1 h2
  refine .inr ⟨rfl, j + 1 + skipN (p.getD j I.zero) s, by omega, hlt, rfl, by omega, by omega, nextS_ok hr hi hs, h1, by omega⟩

set_option maxHeartbeats 4000000 in
set_option maxRecDepth 200000 in
theorem run_any (g b o cap rb ro rc : Nat) (p : List I) (r : List Int) (s : S) (w : World) (RES STEPS : Int) (hg : g ≠ b) (hgr : g ≠ rb) (hM : Mach w g s (.slice (some ⟨rb, ro, none⟩) 64 rc) 0 0 false 0) (hs : s.ok) (hv : ValidQ p) (hb : b < w.heap.size) (hp : InsAt w b o p)
    (hrb : rb < w.heap.size) (hr : BytesAt w rb ro r) (hrl : r.length = 64) (hrr : isBytes r) (hrc : 64 ≤ rc) (h1 : (runL r p.length p s).1 = RES) (h2 : (runL r p.length p s).2 = STEPS) :
    Calls Try.prog 56 #[.pointer (some ⟨g, 0, none⟩), .slice (some ⟨b, o, none⟩) p.length cap] w fun e w' => e = .returned (.tuple #[]) ∧ (∃ s' nx', Mach w' g s' (.slice (some ⟨rb, ro, none⟩) 64 rc) nx' STEPS true RES) ∧ w.grownBy w' (some g) := by
  have hlen := hv.2.1
  have hl1 := hv.1
  have hCome : Come p r RES STEPS p.length s 0 0 false 0 := .inr ⟨rfl, 0, rfl, by omega, rfl, by omega, by omega, hs, by simpa using h1, by simpa using h2⟩
  have hglt := World.rowIs.lt hM
  obtain ⟨n, hn'⟩ : ∃ n, p.length = n := ⟨_, rfl⟩
  have HN : Hid (p.length = n) := hn'
  rw [hn'] at hCome hlen hl1 ⊢
  have HP : Hid _ := And.intro hv (And.intro hp (And.intro hr (And.intro hrl (And.intro hrr h1))))
  clear hn' hs hv hp hr hrl hrr h1 h2
  go_enter Try.func56, Try.ntmps56
  go_wp2_with fail
  go_loopg [4] n (fun k u wr => ∃ s nx st en re, Mach wr g s (.slice (some ⟨rb, ro, none⟩) 64 rc) nx st en re ∧ w.grownBy wr (some g) ∧ Hid (Come p r RES STEPS k s nx st en re))
  case atStart => exact ⟨s, 0, 0, false, 0, hM, World.grownBy.refl _ _, hCome⟩
  case round =>
    obtain ⟨s, nx, st, en, re, hM', hG, HCm⟩ := hrel
    rcases HCm.out with ⟨rfl, rfl, rfl, rfl⟩ | ⟨rfl, j, rfl, hj, rfl, q0, q1, hs, q2, q3⟩
    · have ce := hM'.ce
      have HE : Hid _ := And.intro hM' hG
      clear hM hCome HCm hM' hG
      go_wp2
      go_end0
      exact ⟨rfl, ⟨s, nx, HE.out.1⟩, HE.out.2⟩
    · obtain ⟨hv, hp, hr, hrl, hrr, h1⟩ := HP.out
      have hq := hv.drop hj
      rw [drop_head hj] at hq
      have hh := hq.head
      have hi : (p.getD j I.zero).ok := hq.2.2.2 _ (by simp)
      obtain ⟨c0, c1, c2, c3⟩ := hp j hj
      have d0 := hG.cell c0 (by simp; omega)
      have d1 := hG.cell c1 (by simp; omega)
      have d2 := hG.cell c2 (by simp; omega)
      have d3 := hG.cell c3 (by simp; omega)
      have ce := hM'.ce
      have cn := hM'.cn
      have fn := hM'.fz 19
      have cs := hM'.cs
      have fs := hM'.fz 20
      have hjn : (j : Int) < (n : Int) := by have := HN.out; omega
      have hlt' := World.rowIs.lt hM'
      have hsz := hG.size
      have hne : ¬ wr.heap.size = g := by omega
      have hbr : b < wr.heap.size := by omega
      have hne2 : ¬ wr.heap.size = b := by omega
      have hle : ∀ re', endsR (p.getD j I.zero) s = none → Come p r RES STEPS (p.length - (j + 1 + skipN (p.getD j I.zero) s)) (nextS r (p.getD j I.zero) s) ((j : Int) + 1 + (skipN (p.getD j I.zero) s : Nat)) (st + 1) false re' := fun re' he => come_step hrr hv hj hs q0 q1 he q2 q3 re'
      have hce : ∀ v nx' s', endsR (p.getD j I.zero) s = some v → Come p r RES STEPS 0 s' nx' (st + 1) true v := fun v nx' s' he => come_end (re' := 0) (k := 0) hj he q2 q3 nx' s'
      have hsk : endsR (p.getD j I.zero) s = none → j + 1 + skipN (p.getD j I.zero) s < p.length := fun he => skip_lt hv hj he
      have hstp : StepOK (p.getD j I.zero).c := step_all hh.known
      have hjn2 := hj
      rw [HN.out] at hjn2
      have HCE : Hid _ := And.intro hce (And.intro hle hsk)
      have HV : Hid _ := And.intro hr (And.intro hrl (And.intro hrr (And.intro hh (And.intro hi (And.intro hs hstp)))))
      have HE : Hid _ := And.intro hM' hG
      clear hM hCome HCm hM' hG c0 c1 c2 c3 hv hp hr hrl hrr h1 hq hh hi hs q2 q3 hle hce hsk hstp hj HP
      generalize p.getD j I.zero = i at *
      obtain ⟨c, jt, jf, k⟩ := i
      simp only at d0 d1 d2 d3
      go_wp2_with fail
      have HM4 : Mach (((wr.setCell ⟨g, 19, none⟩ (Value.int IntKind.i64 ((j : Int) + 1))).setCell ⟨g, 20, none⟩ (Value.int IntKind.i64 (st + 1))).alloc (Obj.cells #[Value.int IntKind.u16 c, Value.int IntKind.u8 jt, Value.int IntKind.u8 jf, Value.int IntKind.u32 k] 36)) g s (.slice (some ⟨rb, ro, none⟩) 64 rc) ((j : Int) + 1) (st + 1) false re := ((HE.out.1.setn _).sets _).alloc _
      have HG4 : w.grownBy (((wr.setCell ⟨g, 19, none⟩ (Value.int IntKind.i64 ((j : Int) + 1))).setCell ⟨g, 20, none⟩ (Value.int IntKind.i64 (st + 1))).alloc (Obj.cells #[Value.int IntKind.u16 c, Value.int IntKind.u8 jt, Value.int IntKind.u8 jf, Value.int IntKind.u32 k] 36)) (some g) := gb_alloc (gb_set (gb_set HE.out.2 _ _) _ _) _
      have hsz4 : (((wr.setCell ⟨g, 19, none⟩ (Value.int IntKind.i64 ((j : Int) + 1))).setCell ⟨g, 20, none⟩ (Value.int IntKind.i64 (st + 1))).alloc (Obj.cells #[Value.int IntKind.u16 c, Value.int IntKind.u8 jt, Value.int IntKind.u8 jf, Value.int IntKind.u32 k] 36)).heap.size = wr.heap.size + 1 := by simp [World.setCell]
      have hX : ∀ q, (((wr.setCell ⟨g, 19, none⟩ (Value.int IntKind.i64 ((j : Int) + 1))).setCell ⟨g, 20, none⟩ (Value.int IntKind.i64 (st + 1))).alloc (Obj.cells #[Value.int IntKind.u16 c, Value.int IntKind.u8 jt, Value.int IntKind.u8 jf, Value.int IntKind.u32 k] 36)).cell? ⟨wr.heap.size, q, none⟩ = (#[Value.int IntKind.u16 c, Value.int IntKind.u8 jt, Value.int IntKind.u8 jf, Value.int IntKind.u32 k] : Array Value)[q]? := fun q => World.cell?_alloc_at _ _ _ _ (by simp [World.setCell])
      have x0 := hX 0
      have x1 := hX 1
      have x2 := hX 2
      have x3 := hX 3
      generalize ((wr.setCell ⟨g, 19, none⟩ (Value.int IntKind.i64 ((j : Int) + 1))).setCell ⟨g, 20, none⟩ (Value.int IntKind.i64 (st + 1))).alloc (Obj.cells #[Value.int IntKind.u16 c, Value.int IntKind.u8 jt, Value.int IntKind.u8 jf, Value.int IntKind.u32 k] 36) = W at *
      obtain ⟨hr, hrl, hrr, hh, hi, hs, hstp⟩ := HV.out
      have hrW : BytesAt W rb ro r := fun q hq => HG4.cell (hr q hq) (by simp; omega)
      have hrbW : rb < W.heap.size := by omega
      have HOP : Hid (Calls Try.prog 92 #[.pointer (some ⟨g, 0, none⟩), insV c jt jf k] W.drew fun e w' => e = .returned (.int .u32 (opI r ⟨c, jt, jf, k⟩ s)) ∧ Below W.heap.size W.drew w') := operand_any g rb ro rc s _ _ _ _ ⟨c, jt, jf, k⟩ r W.drew HM4.drew hrbW hrW hrl hrr hrc hi hh.load hh.mem
      have HST : Hid (∀ w5, Below W.heap.size W.drew w5 → Calls Try.prog 91 #[.pointer (some ⟨g, 0, none⟩), insV c jt jf k, .int .u32 (opI r ⟨c, jt, jf, k⟩ s)] w5 fun e w' => e = .returned (.tuple #[]) ∧ After w' g r ⟨c, jt, jf, k⟩ s (.slice (some ⟨rb, ro, none⟩) 64 rc) ((j : Int) + 1) (st + 1) re ∧ w5.grownBy w' (some g)) := fun w5 h5 =>
        hstp g _ s _ _ _ re jt jf k r w5 (HM4.drew.below h5) hs hrr hi hh (by omega) (by omega)
      have hne5 : some wr.heap.size ≠ some g := by simp; omega
      have hD5 : wr.heap.size < W.heap.size := by omega
      simp at x0 x1 x2 x3
      have HX : Hid (W.cell? ⟨wr.heap.size, 0, none⟩ = some (.int .u16 c) ∧ W.cell? ⟨wr.heap.size, 1, none⟩ = some (.int .u8 jt) ∧ W.cell? ⟨wr.heap.size, 2, none⟩ = some (.int .u8 jf) ∧ W.cell? ⟨wr.heap.size, 3, none⟩ = some (.int .u32 k)) := ⟨x0, x1, x2, x3⟩
      have HGW : Hid (w.grownBy W (some g)) := HG4
      clear hX HM4 HG4 hrW hr hrl hrr hh hi hs hstp HV HE d0 d1 d2 d3 ce cn fn cs fs
      generalize opI r ⟨c, jt, jf, k⟩ s = y at *
      generalize hDe : wr.heap.size = D at *
      go_region_held3 (fun w' => w'.cell? ⟨D, 0, none⟩ = some (.int .u16 c) ∧ w'.cell? ⟨D, 1, none⟩ = some (.int .u8 jt) ∧ w'.cell? ⟨D, 2, none⟩ = some (.int .u8 jf) ∧ w'.cell? ⟨D, 3, none⟩ = some (.int .u32 k))
        (first | go_keep | exact ⟨z0, z1, z2, z3⟩)
        ((first
          | (go_at_call 92; refine (HOP.out).mono ?_; rintro e w5 ⟨rfl, hb5⟩; have z0 := (hb5.cell (p := ⟨D, 0, none⟩) hD5).trans HX.out.1; have z1 := (hb5.cell (p := ⟨D, 1, none⟩) hD5).trans HX.out.2.1; have z2 := (hb5.cell (p := ⟨D, 2, none⟩) hD5).trans HX.out.2.2.1; have z3 := (hb5.cell (p := ⟨D, 3, none⟩) hD5).trans HX.out.2.2.2; have B5 : Hid (Below W.heap.size W.drew w5) := hb5; clear hb5)
          | (go_at_call 91; refine (HST.out _ B5.out).mono ?_; rintro e w6 ⟨rfl, hA6, hG6⟩; have y0 := hG6.cell z0 hne5; have y1 := hG6.cell z1 hne5; have y2 := hG6.cell z2 hne5; have y3 := hG6.cell z3 hne5)))
      have HG6 : Hid (w.grownBy w6 (some g)) := gb_trans (gb_trans (gb_drew HGW.out) (gb_below (r := some g) B5.out)) hG6
      have HA6 : Hid (After w6 g r ⟨c, jt, jf, k⟩ s (.slice (some ⟨rb, ro, none⟩) 64 rc) ((j : Int) + 1) (st + 1) re) := hA6
      clear hA6 hG6 B5 HGW HX HST HOP
      go_wp2
      cases he : endsR ⟨c, jt, jf, k⟩ s with
      | some v =>
        have hM6 := HA6.out
        unfold After at hM6
        rw [he] at hM6
        go_roundg 0
        case measure => have := HN.out; omega
        case rel => exact ⟨s, (j : Int) + 1, st + 1, true, v, hM6, HG6.out, HCE.out.1 v _ _ he⟩
      | none =>
        have hM6 := HA6.out
        unfold After at hM6
        rw [he] at hM6
        have hlt6 := HCE.out.2.2 he
        go_roundg (p.length - (j + 1 + skipN ⟨c, jt, jf, k⟩ s))
        case measure => have := HN.out; omega
        case rel => exact ⟨nextS r ⟨c, jt, jf, k⟩ s, _, st + 1, false, re, hM6, HG6.out, HCE.out.2.1 re he⟩
end Go.Proofs.Ytjfgihmamoiipaa
