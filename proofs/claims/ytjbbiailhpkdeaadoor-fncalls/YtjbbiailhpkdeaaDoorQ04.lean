/-
  DlgA, DlgJ, DlgK, DlgL
-/
import Derived.Test.YtjbbiailhpkdeaaDoorQ01
import Derived.Test.YtjbbiailhpkdeaaDoorQ03
import Derived.Test.YtjbbiailhpkdeaaDoorQ02
import Derived.RegionDies
import Derived.Deep.RegionHeld3
import Derived.BigQuiet
import Derived.LaidEql
import Derived.Stop.Asserts
import Derived.RowKitTokens
namespace Go.Proofs.YtjbbiailhpkdeaaDoor
open Go.RowKit
set_option linter.unusedVariables false

abbrev Bad (c a : Int) : Ending := .panicked [{ v := .iface 78 (.agg #[.int .i64 c, .int .i64 a]), recovered := false }]

theorem refuse_no (c a : Int) (w : World) : Calls Tryd.prog 53 #[.bool false, .int .i64 c, .int .i64 a] w fun e w' => e = .returned (.tuple #[]) ∧ w' = w := by
  go_enter Tryd.func53, Tryd.ntmps53
  go_wp2
  go_end0
  exact ⟨rfl, rfl⟩
theorem refuse_yes (c a : Int) (w : World) : Calls Tryd.prog 53 #[.bool true, .int .i64 c, .int .i64 a] w fun e w' => e = Bad c a ∧ w' = w := by
  go_enter Tryd.func53, Tryd.ntmps53
  go_wp2
  exact ⟨rfl, rfl, rfl⟩

/-- a reader of a body at block R: what is left, where the body begins -/
structure RdB (w : World) (R b : Nat) (l : List Int) (st : Int) (o cap : Nat) : Prop where
  c0 : w.cell? ⟨R, 0, none⟩ = some (.slice (some ⟨b, o, none⟩) l.length cap)
  c1 : w.cell? ⟨R, 1, none⟩ = some (.int .i64 st)
  f0 : w.frozen? ⟨R, 0, none⟩ = false
  src : BytesAt w b o l
  cap : l.length < cap
def lenR (w : World) (R : Nat) : Nat := match w.cell? ⟨R, 0, none⟩ with | some (.slice _ n _) => n | _ => 0
theorem Far.drew {w w1 : World} {S : Nat → Prop} (h : Far w w1 S) : Far w w1.drew S := ⟨h.os, h.tape, h.output, h.size, h.block⟩
theorem BytesAt.tail {w : World} {b o : Nat} {y : Int} {r : List Int} (h : BytesAt w b o (y :: r)) : w.cell? ⟨b, o, none⟩ = some (.int .u8 y) ∧ BytesAt w b (o + 1) r := by
  refine ⟨by have := h 0 (by simp); simpa using this, fun i hi => ?_⟩
  have := h (i + 1) (by simp; omega)
  rw [show o + 1 + i = o + (i + 1) by omega]
  simpa using this
theorem BytesAt.set {w : World} {b o R i : Nat} {v : Value} {l : List Int} (h : BytesAt w b o l) (hne : R ≠ b) : BytesAt (w.setCell ⟨R, i, none⟩ v) b o l := fun j hj => by
  have e : (w.setCell ⟨R, i, none⟩ v).cell? ⟨b, o + j, none⟩ = w.cell? ⟨b, o + j, none⟩ := by
    apply World.cell?_setCell_other
    intro e; apply hne; injection e
  rw [e]; exact h j hj
theorem cell_at1 {w : World} {R : Nat} {v x : Value} (h : w.cell? ⟨R, 1, none⟩ = some x) : (w.setCell ⟨R, 0, none⟩ v).cell? ⟨R, 1, none⟩ = some x := by
  have e : (w.setCell ⟨R, 0, none⟩ v).cell? ⟨R, 1, none⟩ = w.cell? ⟨R, 1, none⟩ := by
    apply World.cell?_setCell_other
    intro e; injection e with e1 e2; cases e2
  rw [e]; exact h
theorem RdB.drew {w : World} {R b : Nat} {l : List Int} {st : Int} {o cap : Nat} (h : RdB w R b l st o cap) : RdB w.drew R b l st o cap := ⟨h.c0, h.c1, h.f0, h.src, h.cap⟩
theorem RdB.next {w : World} {R b : Nat} {y : Int} {r : List Int} {st : Int} {o cap : Nat} (h : RdB w R b (y :: r) st o cap) (hne : R ≠ b) : RdB (w.setCell ⟨R, 0, none⟩ (.slice (some ⟨b, o + 1, none⟩) r.length (cap - 1))) R b r st (o + 1) (cap - 1) := by
  have hc := h.cap
  simp only [List.length_cons] at hc
  exact ⟨World.cell?_setCell_same _ _ _ h.c0, cell_at1 h.c1, by rw [World.frozen?_setCell]; exact h.f0, h.src.tail.2.set hne, by omega⟩
/-- what reading one number leaves -/
def NumPost (R b : Nat) (l : List Int) (st : Int) (w : World) (e : Ending) (w' : World) : Prop :=
  Far w w' (fun q => q = R) ∧ ((readF 0 0 l = none ∧ e = Bad 8 st) ∨ ∃ v r o cap, readF 0 0 l = some (v, r) ∧ e = .returned (.int .u64 v) ∧ RdB w' R b r st o cap)

set_option maxRecDepth 100000 in
set_option maxHeartbeats 4000000 in
theorem number_any (R b : Nat) (l : List Int) (st : Int) (o cap : Nat) (w : World) (h : RdB w R b l st o cap) (hne : R ≠ b) (hb : isBytes l) (hl : l.length ≤ 1000) :
    Calls Tryd.prog 69 #[.pointer (some ⟨R, 0, none⟩)] w fun e w' => NumPost R b l st w e w' := by
  have HBad : Hid (readF 0 0 l = none → ∀ w', Far w w' (fun q => q = R) → NumPost R b l st w (Bad 8 st) w') := fun e w' hF => ⟨hF, .inl ⟨e, rfl⟩⟩
  have HGood : Hid (∀ v r, readF 0 0 l = some (v, r) → ∀ w' o cap, Far w w' (fun q => q = R) → RdB w' R b r st o cap → NumPost R b l st w (.returned (.int .u64 v)) w') := fun v r e w' o cap hF hR => ⟨hF, .inr ⟨v, r, o, cap, e, rfl, hR⟩⟩
  have HSt : Hid (∀ (k X y : Nat) (r : List Int), readF k (X : Int) ((y : Int) :: r) = if 18446744073709551616 ≤ y % 128 * 128 ^ k then none else if y < 128 then (if y = 0 ∧ 0 < k then none else some (((X + y % 128 * 128 ^ k : Nat) : Int), r)) else readF (k + 1) ((X + y % 128 * 128 ^ k : Nat) : Int) r) := fun k X y r => readF_step k X y r
  have HY : Hid (∀ w1, Calls Tryd.prog 53 #[.bool true, .int .i64 8, .int .i64 st] w1 fun e w' => e = Bad 8 st ∧ w' = w1) := fun w1 => refuse_yes 8 st w1
  have HN : Hid (∀ w1, Calls Tryd.prog 53 #[.bool false, .int .i64 8, .int .i64 st] w1 fun e w' => e = .returned (.tuple #[]) ∧ w' = w1) := fun w1 => refuse_no 8 st w1
  have H0 : Hid (readF 0 ((0 : Nat) : Int) l = readF 0 0 l) := rfl
  obtain ⟨R0, hR0⟩ : ∃ R0, readF 0 0 l = R0 := ⟨_, rfl⟩
  rw [hR0] at HBad HGood H0
  have HR : Hid (RdB w R b l st o cap) := h
  have HBy : Hid (isBytes l) := hb
  clear h hb hR0
  generalize NumPost R b l st w = Post at *
  go_enter Tryd.func69, Tryd.ntmps69
  go_wp2_with fail
  go_loopw [3, 4] (fun v s wr => ∃ (k X o' cp : Nat) (l' : List Int), v = .int .u64 (X : Int) ∧ s = .int .i64 (7 * (k : Int)) ∧ k + l'.length ≤ 1000 ∧ Hid (RdB wr R b l' st o' cp) ∧ Hid (isBytes l') ∧ Hid (readF k (X : Int) l' = R0) ∧ Hid (X < 128 ^ k ∧ X < 18446744073709551616) ∧ Hid (Far w wr (fun q => q = R))) (fun _ _ wr => lenR wr R)
  case atStart => exact ⟨0, 0, o, cap, l, by first | rfl | go_num, by first | rfl | go_num, by omega, HR, HBy, H0, ⟨by simp, by omega⟩, Far.refl _ _⟩
  case round =>
    clear HR HBy H0
    obtain ⟨k, X, o', cp, l', rfl, rfl, hkl, HR, HBy, HRd, HX, HF⟩ := hrel
    cases l' with
    | nil =>
      have d0 := HR.out.c0
      have d1 := HR.out.c1
      simp only [List.length_nil] at d0
      have HP : Hid (Post (Bad 8 st) wr.drew) := HBad.out (by rw [← HRd.out]; rfl) _ HF.out.drew
      clear HBad HGood HSt HN HR HBy HRd HX HF
      go_wp2_with fail
      go_region_dies
      all_goals (refine (HY.out _).mono ?_; rintro _ w1 ⟨rfl, hw1⟩; rw [hw1]; exact ⟨rfl, HP.out⟩)
    | cons y r =>
      obtain ⟨Y, rfl, hY⟩ : ∃ Y : Nat, y = (Y : Int) ∧ Y < 256 := by
        have := HBy.out y (List.mem_cons_self ..)
        exact ⟨y.toNat, by omega, by omega⟩
      have HBy2 : Hid (isBytes r) := fun x hx => HBy.out x (List.mem_cons_of_mem _ hx)
      have hE := HSt.out k X Y r
      rw [HRd.out] at hE
      have d0 := HR.out.c0
      have d1 := HR.out.c1
      have df := HR.out.f0
      have hcp := HR.out.cap
      obtain ⟨dy, _⟩ := HR.out.src.tail
      simp only [List.length_cons] at d0 hcp hkl
      have HR2 := HR.out.next hne
      have HF2 : Far w (wr.setCell ⟨R, 0, none⟩ (.slice (some ⟨b, o' + 1, none⟩) r.length (cp - 1))) (fun q => q = R) := HF.out.set R 0 _ rfl
      have d1' := HR2.c1
      have HR3 : Hid (RdB (wr.setCell ⟨R, 0, none⟩ (.slice (some ⟨b, o' + 1, none⟩) r.length (cp - 1))).drew.drew R b r st (o' + 1) (cp - 1)) := HR2.drew.drew
      have HF3 : Hid (Far w (wr.setCell ⟨R, 0, none⟩ (.slice (some ⟨b, o' + 1, none⟩) r.length (cp - 1))).drew.drew (fun q => q = R)) := HF2.drew.drew
      have hand := andNot128 Y hY
      have hlow : Y < 128 → Y % 128 = Y := fun h => Nat.mod_eq_of_lt h
      have hd1 : Y % 128 < 128 := Nat.mod_lt _ (by decide)
      have hshl := shl_run (Y % 128) k
      have hshr := shr_run (Y % 128) k
      have HX2 := HX.out
      clear HSt HR HF HBy HRd HR2 HF2 HX
      have hc1 : ¬ cp = 1 := by omega
      have hc2 : (1 : Int) ≤ (cp : Int) := by omega
      have hS : wr.drew.cell? ⟨R, 0, none⟩ = some (.slice (some ⟨b, o', none⟩) (r.length + 1) cp) ∧ wr.drew.cell? ⟨R, 1, none⟩ = some (.int .i64 st) := ⟨d0, d1⟩
      have hlen : Hid (lenR wr R = r.length + 1) := by show _ = _; unfold lenR; rw [d0]
      by_cases hfit : Y % 128 * 128 ^ k < 18446744073709551616
      · obtain ⟨e1, e2⟩ := sh_fit hfit
        rw [e1] at hshl
        rw [e1, e2] at hshr
        have hor := or_run HX2.1 HX2.2 hfit
        have HX3 : Hid (X + Y % 128 * 128 ^ k < 128 ^ (k + 1) ∧ X + Y % 128 * 128 ^ k < 18446744073709551616) := ⟨digit_next HX2.1 hd1, or_fits HX2.1 HX2.2 hfit⟩
        rw [if_neg (by omega)] at hE
        have HE : Hid (R0 = if Y < 128 then (if Y = 0 ∧ 0 < k then none else some (((X + Y % 128 * 128 ^ k : Nat) : Int), r)) else readF (k + 1) ((X + Y % 128 * 128 ^ k : Nat) : Int) r) := hE
        clear hE HX2 hfit e1 e2
        generalize Y % 128 * 128 ^ k = S at *
        generalize Y % 128 = d at *
        have HY2 : Hid (Y < 256) := hY
        obtain ⟨n, hn⟩ : ∃ n, r.length = n := ⟨_, rfl⟩
        have Hn : Hid (r.length = n) := hn
        rw [hn] at d0 hcp hkl hS d1' hlen HR3 HF3
        clear hn
        have hk2 : (k : Int) ≤ 1000 := by omega
        by_cases hy : Y < 128
        · by_cases hz : Y = 0 ∧ 0 < k
          · have HP : Hid (Post (Bad 8 st) (wr.setCell ⟨R, 0, none⟩ (.slice (some ⟨b, o' + 1, none⟩) n (cp - 1))).drew.drew) := HBad.out (by rw [HE.out, if_pos hy, if_pos hz]) _ HF3.out
            obtain ⟨hz1, hz2⟩ := hz
            have hk3 : (0 : Int) < 7 * (k : Int) := by omega
            have hz3 : ((Y : Int) == 0) = true := by rw [hz1]; rfl
            have hy2 : (Y : Int) < 128 := by omega
            clear HBad HGood HE HR3 HF3 HX3 HBy2 hlen hlow HY2 Hn hz1
            go_wp2_with fail
            go_region_held3 (fun w' => w'.cell? ⟨R, 0, none⟩ = some (.slice (some ⟨b, o', none⟩) (n + 1) cp) ∧ w'.cell? ⟨R, 1, none⟩ = some (.int .i64 st))
              (assumption)
              (first | (go_at_call 53; refine (HN.out _).mono ?_; rintro _ w1 ⟨rfl, hw1⟩; rw [hw1]; clear hw1 w1))
            clear hS
            go_wp2_with fail
            have hS2 : (wr.setCell ⟨R, 0, none⟩ (.slice (some ⟨b, o' + 1, none⟩) n (cp - 1))).drew.drew.cell? ⟨R, 1, none⟩ = some (.int .i64 st) := d1'
            go_region_held3 (fun w' => w'.cell? ⟨R, 1, none⟩ = some (.int .i64 st))
              (assumption)
              (first | (go_at_call 53; refine (HN.out _).mono ?_; rintro _ w1 ⟨rfl, hw1⟩; rw [hw1]; clear hw1 w1))
            clear hS2
            go_wp2_with fail
            refine (HY.out _).mono ?_
            rintro _ w1 ⟨rfl, hw1⟩
            rw [hw1]
            exact ⟨rfl, HP.out⟩
          · have HP : Hid (Post (.returned (.int .u64 ((X + S : Nat) : Int))) (wr.setCell ⟨R, 0, none⟩ (.slice (some ⟨b, o' + 1, none⟩) n (cp - 1))).drew.drew) := HGood.out _ r (by rw [HE.out, if_pos hy, if_neg hz]) _ _ _ HF3.out HR3.out
            have hy2 : (Y : Int) < 128 := by omega
            have hzz : (((Y : Int) == 0) = false) ∨ ((((Y : Int) == 0) = true) ∧ decide ((0 : Int) < 7 * (k : Int)) = false) := by
              by_cases h : Y = 0
              · exact .inr ⟨by rw [h]; rfl, by simp; omega⟩
              · exact .inl (by simp; omega)
            clear HBad HGood HE HR3 HF3 HX3 HBy2 hlen hlow Hn hz
            rcases hzz with hz3 | ⟨hz3, hz4⟩
            · skip
              go_wp2_with fail
              go_region_held3 (fun w' => w'.cell? ⟨R, 0, none⟩ = some (.slice (some ⟨b, o', none⟩) (n + 1) cp) ∧ w'.cell? ⟨R, 1, none⟩ = some (.int .i64 st))
                (assumption)
                (first | (go_at_call 53; refine (HN.out _).mono ?_; rintro _ w1 ⟨rfl, hw1⟩; rw [hw1]; clear hw1 w1))
              clear hS
              go_wp2_with fail
              have hS2 : (wr.setCell ⟨R, 0, none⟩ (.slice (some ⟨b, o' + 1, none⟩) n (cp - 1))).drew.drew.cell? ⟨R, 1, none⟩ = some (.int .i64 st) := d1'
              go_region_held3 (fun w' => w'.cell? ⟨R, 1, none⟩ = some (.int .i64 st))
                (assumption)
                (first | (go_at_call 53; refine (HN.out _).mono ?_; rintro _ w1 ⟨rfl, hw1⟩; rw [hw1]; clear hw1 w1))
              clear hS2
              go_wp2_with fail
              refine (HN.out _).mono ?_
              rintro _ w1 ⟨rfl, hw1⟩
              rw [hw1]
              clear hw1 w1
              go_wp2
              first | exact HP.out | (go_ret; exact HP.out)
            · skip
              go_wp2_with fail
              go_region_held3 (fun w' => w'.cell? ⟨R, 0, none⟩ = some (.slice (some ⟨b, o', none⟩) (n + 1) cp) ∧ w'.cell? ⟨R, 1, none⟩ = some (.int .i64 st))
                (assumption)
                (first | (go_at_call 53; refine (HN.out _).mono ?_; rintro _ w1 ⟨rfl, hw1⟩; rw [hw1]; clear hw1 w1))
              clear hS
              go_wp2_with fail
              have hS2 : (wr.setCell ⟨R, 0, none⟩ (.slice (some ⟨b, o' + 1, none⟩) n (cp - 1))).drew.drew.cell? ⟨R, 1, none⟩ = some (.int .i64 st) := d1'
              go_region_held3 (fun w' => w'.cell? ⟨R, 1, none⟩ = some (.int .i64 st))
                (assumption)
                (first | (go_at_call 53; refine (HN.out _).mono ?_; rintro _ w1 ⟨rfl, hw1⟩; rw [hw1]; clear hw1 w1))
              clear hS2
              go_wp2_with fail
              refine (HN.out _).mono ?_
              rintro _ w1 ⟨rfl, hw1⟩
              rw [hw1]
              clear hw1 w1
              go_wp2
              first | exact HP.out | (go_ret; exact HP.out)
        · have HRn : Hid (readF (k + 1) ((X + S : Nat) : Int) r = R0) := by show _ = _; rw [HE.out, if_neg hy]
          have hy2 : ¬ (Y : Int) < 128 := by omega
          have Hln : Hid (lenR (wr.setCell ⟨R, 0, none⟩ (.slice (some ⟨b, o' + 1, none⟩) n (cp - 1))).drew.drew R < lenR wr R) := by
            show _ < _
            rw [hlen.out]
            unfold lenR
            rw [HR3.out.c0]
            simp only
            have := Hn.out
            omega
          clear HBad HGood HE hlow
          go_wp2_with fail
          go_region_held3 (fun w' => w'.cell? ⟨R, 0, none⟩ = some (.slice (some ⟨b, o', none⟩) (n + 1) cp) ∧ w'.cell? ⟨R, 1, none⟩ = some (.int .i64 st))
            (assumption)
            (first | (go_at_call 53; refine (HN.out _).mono ?_; rintro _ w1 ⟨rfl, hw1⟩; rw [hw1]; clear hw1 w1))
          clear hS
          go_wp2_with fail
          have hS2 : (wr.setCell ⟨R, 0, none⟩ (.slice (some ⟨b, o' + 1, none⟩) n (cp - 1))).drew.drew.cell? ⟨R, 1, none⟩ = some (.int .i64 st) := d1'
          go_region_held3 (fun w' => w'.cell? ⟨R, 1, none⟩ = some (.int .i64 st))
            (assumption)
            (first | (go_at_call 53; refine (HN.out _).mono ?_; rintro _ w1 ⟨rfl, hw1⟩; rw [hw1]; clear hw1 w1))
          clear hS2
          go_wp2
          go_roundw
          case rel => exact ⟨k + 1, X + S, o' + 1, cp - 1, r, by first | rfl | go_num, congrArg (Value.int .i64) (by push_cast; omega), (by have := Hn.out; omega), HR3, HBy2, HRn, HX3, HF3⟩
          case measure => exact Hln.out
      · have hT := sh_not (d := Y % 128) (k := k) (by omega)
        rw [if_pos (by omega)] at hE
        have HP : Hid (Post (Bad 8 st) (wr.setCell ⟨R, 0, none⟩ (.slice (some ⟨b, o' + 1, none⟩) r.length (cp - 1))).drew.drew) := HBad.out hE _ HF3.out
        clear HBad HGood HR3 HF3 HBy2 hlen hlow hE HX2 hfit
        generalize shT (Y % 128) k = T at *
        generalize shS (Y % 128) k = S at *
        generalize Y % 128 = d at *
        have hT2 : ((T : Int) == (d : Int)) = false := by simp; omega
        have hT3 : ((T : Int) != (d : Int)) = true := by simp; omega
        obtain ⟨n, hn⟩ : ∃ n, r.length = n := ⟨_, rfl⟩
        rw [hn] at d0 hcp hkl hS d1' HP
        clear hn
        have hk2 : (k : Int) ≤ 1000 := by omega
        go_wp2_with fail
        go_region_held3 (fun w' => w'.cell? ⟨R, 0, none⟩ = some (.slice (some ⟨b, o', none⟩) (n + 1) cp) ∧ w'.cell? ⟨R, 1, none⟩ = some (.int .i64 st))
          (assumption)
          (first | (go_at_call 53; refine (HN.out _).mono ?_; rintro _ w1 ⟨rfl, hw1⟩; rw [hw1]; clear hw1 w1))
        clear hS
        go_wp2_with fail
        go_region_dies
        all_goals (refine (HY.out _).mono ?_; rintro _ w1 ⟨rfl, hw1⟩; rw [hw1]; exact ⟨rfl, HP.out⟩)
end Go.Proofs.YtjbbiailhpkdeaaDoor
namespace Go.Proofs.YtjbbiailhpkdeaaDoor
open Go.RowKit Go.Extern.Stop Go.Stop Go.Extern
set_option linter.unusedVariables false

theorem valueOfP (t : Addr) (w : World) : (ReflectliteValue.unpack (.iface 80 (.pointer (some t)))).run Tryd.prog w
    = .ok (.agg #[.pointer (some ⟨1, 80, none⟩), .pointer (some ⟨w.heap.size, 0, none⟩), .int .u64 150]) (w.alloc (.cells #[.pointer (some t)] 80)) := by kernel_rfl
theorem typeP (a : Addr) (w : World) : (ReflectliteValue.methodAny (ReflectliteValue.valueError "reflectlite.Value.Type" 0) (fun t _ _ _ => ReflectliteType.toType t) #[.agg #[.pointer (some ⟨1, 80, none⟩), .pointer (some a), .int .u64 150]]).run Tryd.prog w
    = .ok (.iface 103 (.agg #[.pointer (some ⟨1, 80, none⟩)])) w := by kernel_rfl
theorem methodKind (h : Value) (w : World) : (Go.method 247 103 (.agg #[h]) "Kind").run Tryd.prog w = .ok (84, h) w := by kernel_rfl
theorem kindP (w : World) : ((ReflectliteType.abiMethod fun t => (fun a : Nat => Value.int IntKind.u8 (a : Int)) <$> Rtype.kind t) #[.pointer (some ⟨1, 80, none⟩)]).run Tryd.prog w = .ok (.int .u8 22) w := by kernel_rfl
theorem kindF (w : World) : ((ReflectliteType.abiMethod fun t => (fun a : Nat => Value.int IntKind.u8 (a : Int)) <$> Rtype.kind t) #[.pointer (some ⟨1, 78, none⟩)]).run Tryd.prog w = .ok (.int .u8 25) w := by kernel_rfl
theorem rlmD (z : Sem Value) (f : TypeId → Addr → Nat → Nat → Sem Value) (v : Value) :
    ReflectliteValue.method z f #[v] = (do match ← ReflectliteValue.parts v with | none => z | some (t, a, fl) => f t a fl (fl % 32)) := rfl
theorem partsP (a : Addr) (w : World) : (ReflectliteValue.parts (.agg #[.pointer (some ⟨1, 80, none⟩), .pointer (some a), .int .u64 150])).run Tryd.prog w = .ok (some (80, a, 150)) w := by kernel_rfl
theorem isNilP (a p : Addr) (W : World) (ha : W.cell? a = some (.pointer (some p))) :
    (ReflectliteValue.method (ReflectliteValue.valueError "reflectlite.Value.IsNil" 0) ReflectliteValue.isNil #[.agg #[.pointer (some ⟨1, 80, none⟩), .pointer (some a), .int .u64 150]]).run Tryd.prog W = .ok (.bool false) W := by
  rw [rlmD]
  simp only [Sem.run_bind, partsP, Result.andThen]
  simp [ReflectliteValue.isNil, loadVar, isAgg, underlying, Tryd.underlying80, ha, Result.andThen]
theorem methodElem (h : Value) (w : World) : (Go.method 247 103 (.agg #[h]) "Elem").run Tryd.prog w = .ok (94, .agg #[h]) w := by kernel_rfl
theorem methodImplements (h : Value) (w : World) : (Go.method 247 103 (.agg #[h]) "Implements").run Tryd.prog w = .ok (95, .agg #[h]) w := by kernel_rfl
theorem methodAssignableTo (h : Value) (w : World) : (Go.method 247 103 (.agg #[h]) "AssignableTo").run Tryd.prog w = .ok (92, .agg #[h]) w := by kernel_rfl
theorem elemP (w : World) : (ReflectliteType.method ReflectliteType.elem #[.agg #[.pointer (some ⟨1, 80, none⟩)]]).run Tryd.prog w = .ok (.iface 103 (.agg #[.pointer (some ⟨1, 78, none⟩)])) w := by kernel_rfl
theorem implementsF (w : World) : (ReflectliteType.relation "Implements" ReflectliteType.implements_ #[.agg #[.pointer (some ⟨1, 78, none⟩)], .iface 103 (.agg #[.pointer (some ⟨1, 51, none⟩)])]).run Tryd.prog w = .ok (.bool true) w := by kernel_rfl
theorem typeOfF (v : Value) (w : World) : (ReflectliteType.typeOf #[.iface 78 v]).run Tryd.prog w = .ok (.iface 103 (.agg #[.pointer (some ⟨1, 78, none⟩)])) w := by kernel_rfl
theorem assignableF (w : World) : (ReflectliteType.relation "AssignableTo" ReflectliteType.assignableTo #[.agg #[.pointer (some ⟨1, 78, none⟩)], .iface 103 (.agg #[.pointer (some ⟨1, 78, none⟩)])]).run Tryd.prog w = .ok (.bool true) w := by kernel_rfl
theorem valueOfF (c a : Int) (w : World) : (ReflectliteValue.unpack (.iface 78 (.agg #[.int .i64 c, .int .i64 a]))).run Tryd.prog w
    = .ok (.agg #[.pointer (some ⟨1, 78, none⟩), .pointer (some ⟨w.heap.size, 0, none⟩), .int .u64 153]) (w.alloc (.cells #[.int .i64 c, .int .i64 a] 78)) := by kernel_rfl
theorem elemOfP (w : World) : (Rtype.elem? 80).run Tryd.prog w = .ok (some 78) w := by kernel_rfl
theorem mkF (p : Addr) (w : World) : (ReflectliteValue.mk 78 p ReflectliteValue.flagAddr).run Tryd.prog w = .ok (.agg #[.pointer (some ⟨1, 78, none⟩), .pointer (some p), .int .u64 409]) w := by kernel_rfl
theorem elemVP (a p : Addr) (W : World) (ha : W.cell? a = some (.pointer (some p))) :
    (ReflectliteValue.method (ReflectliteValue.valueError "reflectlite.Value.Elem" 0) ReflectliteValue.elem #[.agg #[.pointer (some ⟨1, 80, none⟩), .pointer (some a), .int .u64 150]]).run Tryd.prog W
      = .ok (.agg #[.pointer (some ⟨1, 78, none⟩), .pointer (some p), .int .u64 409]) W := by
  rw [rlmD]
  simp only [Sem.run_bind, partsP, Result.andThen]
  simp [ReflectliteValue.elem, loadVar, isAgg, underlying, Tryd.underlying80, ha, Result.andThen, elemOfP, mkF]
theorem partsFa (a : Addr) (w : World) : (ReflectliteValue.parts (.agg #[.pointer (some ⟨1, 78, none⟩), .pointer (some a), .int .u64 409])).run Tryd.prog w = .ok (some (78, a, 409)) w := by kernel_rfl
theorem partsF (a : Addr) (w : World) : (ReflectliteValue.parts (.agg #[.pointer (some ⟨1, 78, none⟩), .pointer (some a), .int .u64 153])).run Tryd.prog w = .ok (some (78, a, 153)) w := by kernel_rfl
theorem directF (w : World) : (Rtype.directlyAssignable 78 78).run Tryd.prog w = .ok true w := by kernel_rfl
theorem sizeF (w : World) : (sizeOf 78).run Tryd.prog w = .ok 2 w := by kernel_rfl
end Go.Proofs.YtjbbiailhpkdeaaDoor
namespace Go.Proofs.YtjbbiailhpkdeaaDoor
open Go.RowKit Go.Extern.Stop Go.Stop Go.Extern
set_option linter.unusedVariables false

theorem rlsD (v x : Value) : ReflectliteValue.set #[v, x] = (do
    let (some (dst, a, fl), some (src, b, _)) := (← ReflectliteValue.parts v, ← ReflectliteValue.parts x)
      | unsupported (.noEntry "extern/(internal/reflectlite.Value).Set.zeroValue")
    if fl / ReflectliteValue.flagAddr % 2 == 0 then unsupported (.noEntry "extern/(internal/reflectlite.Value).Set.unaddressable")
    let val ← loadVar src b
    if ← Rtype.directlyAssignable dst src then storeVar dst a val
    else if ← Rtype.implements dst src then
      if (← Rtype.kind src) == 20 then
        match val with
        | .nilIface => unsupported (.noEntry "extern/reflectlite: a nil value of one interface type handed on as a value of another")
        | _ => storeVar dst a val
      else storeVar dst a (.iface src val)
    else panicString ("reflectlite.Set: value of type " ++ (← Rtype.spelt src) ++ " is not assignable to type " ++ (← Rtype.spelt dst))
    pure (.tuple #[])) := rfl
set_option maxRecDepth 100000 in
set_option maxHeartbeats 1000000 in
theorem setF (tt bb : Nat) (c a : Int) (o0 o1 : Value) (W : World) (hb0 : W.cell? ⟨bb, 0, none⟩ = some (.int .i64 c)) (hb1 : W.cell? ⟨bb, 1, none⟩ = some (.int .i64 a)) (ht0 : W.cell? ⟨tt, 0, none⟩ = some o0) (ht1 : W.cell? ⟨tt, 1, none⟩ = some o1) (hf0 : W.frozen? ⟨tt, 0, none⟩ = false) (hf1 : W.frozen? ⟨tt, 1, none⟩ = false) :
    (ReflectliteValue.set #[.agg #[.pointer (some ⟨1, 78, none⟩), .pointer (some ⟨tt, 0, none⟩), .int .u64 409], .agg #[.pointer (some ⟨1, 78, none⟩), .pointer (some ⟨bb, 0, none⟩), .int .u64 153]]).run Tryd.prog W
      = .ok (.tuple #[]) ((W.setCell ⟨tt, 0, none⟩ (.int .i64 c)).setCell ⟨tt, 1, none⟩ (.int .i64 a)) := by
  rw [rlsD]
  simp only [Sem.run_bind, partsFa, partsF, Result.andThen]
  simp [ReflectliteValue.flagAddr, loadVar, isAgg, underlying, Tryd.underlying78, hb0, hb1, Result.andThen, directF, storeVar, Value.cells, storeCells, Addr.add, go_sem, ht0, hf0, hf1, cell_at1 ht1]

set_option maxRecDepth 100000 in
set_option maxHeartbeats 4000000 in
theorem asF (c a : Int) (t : Nat) (o0 o1 : Value) (w : World) (hg : w.cell? ⟨0, 0, none⟩ = some (.iface 103 (.agg #[.pointer (some ⟨1, 51, none⟩)]))) (ht0 : w.cell? ⟨t, 0, none⟩ = some o0) (ht1 : w.cell? ⟨t, 1, none⟩ = some o1) (hf0 : w.frozen? ⟨t, 0, none⟩ = false) (hf1 : w.frozen? ⟨t, 1, none⟩ = false) :
    Calls Tryd.prog 50 #[.iface 78 (.agg #[.int .i64 c, .int .i64 a]), .iface 80 (.pointer (some ⟨t, 0, none⟩))] w fun ev w' => ev = .returned (.bool true) ∧ ∃ W, Below w.heap.size w W ∧ w' = (W.setCell ⟨t, 0, none⟩ (.int .i64 c)).setCell ⟨t, 1, none⟩ (.int .i64 a) := by
  have h59 := @run_callFunc_extern Tryd.prog 59 _ (fun args => ReflectliteValue.unpack (args.getD 0 (.tuple #[]))) Tryd.func59 (by kernel_rfl) (by kernel_rfl) (by kernel_rfl) (by kernel_rfl)
  have h60 := @run_callFunc_extern Tryd.prog 60 _ (ReflectliteValue.methodAny (ReflectliteValue.valueError "reflectlite.Value.Type" 0) (fun t _ _ _ => ReflectliteType.toType t)) Tryd.func60 (by kernel_rfl) (by kernel_rfl) (by kernel_rfl) (by kernel_rfl)
  have h61 := @run_callFunc_extern Tryd.prog 61 _ (ReflectliteValue.method (ReflectliteValue.valueError "reflectlite.Value.IsNil" 0) ReflectliteValue.isNil) Tryd.func61 (by kernel_rfl) (by kernel_rfl) (by kernel_rfl) (by kernel_rfl)
  have h84 := @run_callFunc_extern Tryd.prog 84 _ (ReflectliteType.abiMethod fun t => do pure (.int .u8 (← Rtype.kind t))) Tryd.func84 (by kernel_rfl) (by kernel_rfl) (by kernel_rfl) (by kernel_rfl)
  have h94 := @run_callFunc_extern Tryd.prog 94 _ (ReflectliteType.method ReflectliteType.elem) Tryd.func94 (by kernel_rfl) (by kernel_rfl) (by kernel_rfl) (by kernel_rfl)
  have h95 := @run_callFunc_extern Tryd.prog 95 _ (ReflectliteType.relation "Implements" ReflectliteType.implements_) Tryd.func95 (by kernel_rfl) (by kernel_rfl) (by kernel_rfl) (by kernel_rfl)
  have h65 := @run_callFunc_extern Tryd.prog 65 _ ReflectliteType.typeOf Tryd.func65 (by kernel_rfl) (by kernel_rfl) (by kernel_rfl) (by kernel_rfl)
  have h92 := @run_callFunc_extern Tryd.prog 92 _ (ReflectliteType.relation "AssignableTo" ReflectliteType.assignableTo) Tryd.func92 (by kernel_rfl) (by kernel_rfl) (by kernel_rfl) (by kernel_rfl)
  have h66 := @run_callFunc_extern Tryd.prog 66 _ (ReflectliteValue.method (ReflectliteValue.valueError "reflectlite.Value.Elem" 0) ReflectliteValue.elem) Tryd.func66 (by kernel_rfl) (by kernel_rfl) (by kernel_rfl) (by kernel_rfl)
  have h67 := @run_callFunc_extern Tryd.prog 67 _ ReflectliteValue.set Tryd.func67 (by kernel_rfl) (by kernel_rfl) (by kernel_rfl) (by kernel_rfl)
  have tO := typeOfF
  have mA := methodAssignableTo
  have aF := assignableF
  have vF := valueOfF
  have f6 := valueOfP
  have f7 := typeP
  have mK := methodKind
  have mE := methodElem
  have mI := methodImplements
  have kP := kindP
  have kF := kindF
  have eP := elemP
  have iF := implementsF
  have n8 := isNilP ⟨w.heap.size, 0, none⟩ ⟨t, 0, none⟩ ((w.alloc (.cells #[.pointer (some ⟨t, 0, none⟩)] 80)).alloc (.cells #[.pointer (some ⟨1, 80, none⟩), .pointer (some ⟨w.heap.size, 0, none⟩), .int .u64 150] 90)) (by simp)
  have hlt : 0 < w.heap.size := by
    rcases Nat.eq_zero_or_pos w.heap.size with h0 | h
    · simp [World.cell?, h0] at hg
    · exact h
  have hg2 : ((w.alloc (.cells #[.pointer (some ⟨t, 0, none⟩)] 80)).alloc (.cells #[.pointer (some ⟨1, 80, none⟩), .pointer (some ⟨w.heap.size, 0, none⟩), .int .u64 150] 90)).cell? ⟨0, 0, none⟩ = some (.iface 103 (.agg #[.pointer (some ⟨1, 51, none⟩)])) := by
    rw [World.cell?_alloc_lt _ _ ⟨0, 0, none⟩ (by simp), World.cell?_alloc_lt _ _ ⟨0, 0, none⟩ hlt]; exact hg
  have htl : t < w.heap.size := by
    rcases Nat.lt_or_ge t w.heap.size with h | h
    · exact h
    · simp [World.cell?, Array.getElem?_eq_none h] at ht0
  have el := elemVP ⟨w.heap.size, 0, none⟩ ⟨t, 0, none⟩ (((w.alloc (.cells #[.pointer (some ⟨t, 0, none⟩)] 80)).alloc (.cells #[.pointer (some ⟨1, 80, none⟩), .pointer (some ⟨w.heap.size, 0, none⟩), .int .u64 150] 90)).alloc (.cells #[.pointer (some ⟨1, 80, none⟩), .pointer (some ⟨w.heap.size, 0, none⟩), .int .u64 150] 90)) (by rw [World.cell?_alloc_lt _ _ ⟨w.heap.size, 0, none⟩ (by simp; omega), World.cell?_alloc_lt _ _ ⟨w.heap.size, 0, none⟩ (by simp)]; simp)
  have HBl : Below w.heap.size w ((((w.alloc (.cells #[.pointer (some ⟨t, 0, none⟩)] 80)).alloc (.cells #[.pointer (some ⟨1, 80, none⟩), .pointer (some ⟨w.heap.size, 0, none⟩), .int .u64 150] 90)).alloc (.cells #[.pointer (some ⟨1, 80, none⟩), .pointer (some ⟨w.heap.size, 0, none⟩), .int .u64 150] 90)).alloc (.cells #[.int .i64 c, .int .i64 a] 78)) := ((((Below.refl _ _).alloc (Nat.le_refl _) _).alloc (by simp) _).alloc (by simp; omega) _).alloc (by simp; omega) _
  have st := setF t (w.heap.size + 1 + 1 + 1) c a o0 o1 ((((w.alloc (.cells #[.pointer (some ⟨t, 0, none⟩)] 80)).alloc (.cells #[.pointer (some ⟨1, 80, none⟩), .pointer (some ⟨w.heap.size, 0, none⟩), .int .u64 150] 90)).alloc (.cells #[.pointer (some ⟨1, 80, none⟩), .pointer (some ⟨w.heap.size, 0, none⟩), .int .u64 150] 90)).alloc (.cells #[.int .i64 c, .int .i64 a] 78))
    (by rw [World.cell?_alloc_at _ _ _ _ (by simp)]; rfl) (by rw [World.cell?_alloc_at _ _ _ _ (by simp)]; rfl)
    ((HBl.cell (p := ⟨t, 0, none⟩) htl).trans ht0) ((HBl.cell (p := ⟨t, 1, none⟩) htl).trans ht1)
    ((HBl.frozen (p := ⟨t, 0, none⟩) htl).trans hf0) ((HBl.frozen (p := ⟨t, 1, none⟩) htl).trans hf1)
  go_enter Tryd.func50, Tryd.ntmps50
  go_wp2
  refine wp_loop_rounds 1 ?_
  rw [rounds_succ]
  go_wp2
  go_ret
  exact ⟨rfl, _, HBl, rfl⟩
end Go.Proofs.YtjbbiailhpkdeaaDoor
namespace Go.Proofs.YtjbbiailhpkdeaaDoor
open Go.RowKit
set_option linter.unusedVariables false

/-- what the package-level variable errors.errorType holds -/
def ErrT (w : World) : Prop := w.cell? ⟨0, 0, none⟩ = some (.iface 103 (.agg #[.pointer (some ⟨1, 51, none⟩)]))
theorem setTwo_below {w W : World} {t : Nat} {x y : Value} (hb : Below w.heap.size w W) (ht : w.heap.size ≤ t) : Below w.heap.size w ((W.setCell ⟨t, 0, none⟩ x).setCell ⟨t, 1, none⟩ y) := (hb.setCell (p := ⟨t, 0, none⟩) ht _).setCell (p := ⟨t, 1, none⟩) ht _

set_option maxRecDepth 100000 in
set_option maxHeartbeats 1000000 in
theorem reasonOf_any (c a : Int) (w : World) (hg : ErrT w) :
    Calls Tryd.prog 30 #[.iface 78 (.agg #[.int .i64 c, .int .i64 a])] w fun e w' => e = .returned (.tuple #[.int .i64 c, .int .i64 a]) ∧ Below w.heap.size w w' := by
  have hb0 : Below w.heap.size w (w.alloc (.cells #[.int .i64 0, .int .i64 0] 78)) := (Below.refl _ _).alloc (Nat.le_refl _) _
  have hlt : 0 < w.heap.size := by
    rcases Nat.eq_zero_or_pos w.heap.size with h0 | h
    · unfold ErrT at hg; simp [World.cell?, h0] at hg
    · exact h
  have HA : Hid (Calls Tryd.prog 50 #[.iface 78 (.agg #[.int .i64 c, .int .i64 a]), .iface 80 (.pointer (some ⟨w.heap.size, 0, none⟩))] (w.alloc (.cells #[.int .i64 0, .int .i64 0] 78)) fun ev w' => ev = .returned (.bool true) ∧ w'.cell? ⟨w.heap.size, 0, none⟩ = some (.int .i64 c) ∧ w'.cell? ⟨w.heap.size, 1, none⟩ = some (.int .i64 a) ∧ Below w.heap.size w w') := by
    refine (asF c a w.heap.size (.int .i64 0) (.int .i64 0) _ ((hb0.cell (p := ⟨0, 0, none⟩) hlt).trans hg) (by simp) (by simp) (by simp) (by simp)).mono ?_
    rintro ev w' ⟨rfl, W, hb, rfl⟩
    have z0 : W.cell? ⟨w.heap.size, 0, none⟩ = some (.int .i64 0) := (hb.cell (p := ⟨w.heap.size, 0, none⟩) (by simp)).trans (by simp)
    have z1 : W.cell? ⟨w.heap.size, 1, none⟩ = some (.int .i64 0) := (hb.cell (p := ⟨w.heap.size, 1, none⟩) (by simp)).trans (by simp)
    have hbw : Below w.heap.size w W := hb0.trans (hb.mono (by simp))
    refine ⟨rfl, ?_, ?_, setTwo_below hbw (Nat.le_refl _)⟩
    · have h := World.cell?_setCell_same W ⟨w.heap.size, 0, none⟩ (.int .i64 c) z0
      have e : ((W.setCell ⟨w.heap.size, 0, none⟩ (.int .i64 c)).setCell ⟨w.heap.size, 1, none⟩ (.int .i64 a)).cell? ⟨w.heap.size, 0, none⟩ = (W.setCell ⟨w.heap.size, 0, none⟩ (.int .i64 c)).cell? ⟨w.heap.size, 0, none⟩ := by
        apply World.cell?_setCell_other
        intro e; injection e with e1 e2; cases e2
      rw [e]; exact h
    · exact World.cell?_setCell_same _ ⟨w.heap.size, 1, none⟩ _ (cell_at1 z1)
  clear hg hb0
  go_enter Tryd.func30, Tryd.ntmps30
  go_wp2_with fail
  refine (HA.out).mono ?_
  rintro _ w1 ⟨rfl, c0, c1, hb1⟩
  have HB : Hid (∀ m, Below w.heap.size w (w1.drewN m)) := fun m => below_drewN hb1 m
  clear HA hb1
  go_wp2_with fail
  go_quiet (fail)
  go_wp2
  exact bodyPost_ret (v := .tuple #[.int .i64 c, .int .i64 a]) (by simp [results, Tryd.results30, go_sem]) rfl ⟨rfl, HB.out _⟩
end Go.Proofs.YtjbbiailhpkdeaaDoor
