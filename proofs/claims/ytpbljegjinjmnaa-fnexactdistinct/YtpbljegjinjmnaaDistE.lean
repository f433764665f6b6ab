/-
  CONTRACT: slices.CompactFunc at calls.
-/
import Derived.Test.YtpbljegjinjmnaaDistD
namespace Go.Proofs.Ytpbljegjinjmnaa
open Go.RowKit
set_option linter.unusedVariables false

theorem comp_lst {g : Nat → C × Value} {n k : Nat} (h : k ≤ n) (hd : ∀ j, 0 < j → j < k → ordC (g j).1 (g (j - 1)).1 ≠ 0) : comp (lst g n) k = lst g k := by
  rw [comp_all (by rw [lst_len]; exact h) (fun j h0 hj => by rw [lst_get g (by omega), lst_get g (by omega)]; exact hd j h0 hj), lst_take g h]

theorem belowB_step {B : Nat} {W wa wb : World} (hBW : B ≤ W.heap.size) (hb : Below wa.heap.size wa wb) (h : Below B W wa) : Below B W wb := h.trans (hb.mono (Nat.le_trans hBW h.size))

set_option maxRecDepth 100000 in
set_option maxHeartbeats 2000000 in
theorem compact_any (B D N n cap : Nat) (g : Nat → C × Value) (W w : World) (hBW : B ≤ W.heap.size) (hb : Below B W w) (hD : B ≤ D) (hr : RowM w D N n g) (hn : n ≤ cap) (hN : n ≤ 16777216) (hg : ∀ i, i < n → GoodB W B (g i)) :
    Calls Try.prog 38 #[.slice (some ⟨D, 0, none⟩) n cap, .func (.func 39) #[] #[]] w fun e w' =>
      ∃ m, e = .returned (.slice (some ⟨D, 0, none⟩) m cap) ∧ ∃ g', RowM w' D N m g' ∧ (∀ i, i < m → GoodB W B (g' i)) ∧ lst g' m = comp (lst g n) n ∧ Below B W w' := by
  have hnN : n ≤ N := hr.1
  have HSame : Hid (∀ wr p q, Below B W wr → GoodB W B p → GoodB W B q → Calls Try.prog 39 #[callV p.1 p.2, callV q.1 q.2] wr fun e w' => e = .returned (.bool (ordC p.1 q.1 == 0)) ∧ Below wr.heap.size wr w') := by
    intro wr p q hB hp hq
    obtain ⟨a, c, e, hs⟩ := hp.at hB hBW
    obtain ⟨a', c', e', hs'⟩ := hq.at hB hBW
    rw [e, e']
    exact sameCall_any p.1 q.1 a a' c c' wr hs hs' hp.ok hq.ok hp.len hq.len
  have HG : Hid (∀ i, i < n → GoodB W B (g i)) := hg
  clear hg
  by_cases h2 : n < 2
  · have HE : Hid (lst g n = comp (lst g n) n) := (comp_lst (Nat.le_refl _) (fun j h0 hj => by omega)).symm
    have h2' : (n : Int) < 2 := by omega
    clear HSame
    go_enter Try.func38, Try.ntmps38
    go_wp2
    go_ret
    exact ⟨n, rfl, g, hr, HG.out, HE.out, hb⟩
  · have h2' : ¬ (n : Int) < 2 := by omega
    go_enter Try.func38, Try.ntmps38
    go_wp2_with fail
    go_loopw [5] (fun i wr => ∃ q : Nat, q + 1 ≤ n ∧ i = .int .i64 ((q : Int) + 1) ∧ RowM wr D N n g ∧ Below B W wr ∧ Hid (∀ j, 0 < j → j < q + 1 → ordC (g j).1 (g (j - 1)).1 ≠ 0)) (fun i _ => n - (intOf i).toNat)
    case atStart => exact ⟨0, by omega, rfl, hr, hb, fun j h1 h2 => by omega⟩
    case round =>
      obtain ⟨q, hq, rfl, hR, hB, HJ⟩ := hrel
      clear hr hb
      by_cases hlt : q + 1 < n
      · obtain ⟨c0, c1, c2⟩ := hR.cells (i := q) (by omega)
        obtain ⟨d0, d1, d2⟩ := hR.cells (i := q + 1) hlt
        have hlt' : (q : Int) + 1 < (n : Int) := by omega
        have hq0 : (q : Int) < (n : Int) := by omega
        have h00 : (0 : Int) ≤ (q : Int) := by omega
        have h01 : (0 : Int) ≤ (q : Int) + 1 := by omega
        have hwq : IntKind.i64.wrap (q : Int) = (q : Int) := by rw [IntKind.wrap_i64]; omega
        have hG1 := HG.out (q + 1) hlt
        have hG0 := HG.out q (by omega)
        by_cases hx : ordC (g (q + 1)).1 (g q).1 = 0
        · have hx' : (ordC (g (q + 1)).1 (g q).1 == 0) = true := by simpa using hx
          have HX : Hid (ordC (g (q + 1)).1 (g q).1 = 0) := hx
          have hcap : q + 1 ≤ cap := by omega
          have HSame2 := HSame
          have HC : Hid (∀ wy, (Below B W wy ∧ RowM wy D N n g ∧ wy.cell? ⟨D, (q + 1) * 3, none⟩ = some (.int .u32 (g (q + 1)).1.arch) ∧ wy.cell? ⟨D, (q + 1) * 3 + 1, none⟩ = some (.int .u32 (g (q + 1)).1.nr) ∧ wy.cell? ⟨D, (q + 1) * 3 + 2, none⟩ = some (g (q + 1)).2 ∧ wy.cell? ⟨D, q * 3, none⟩ = some (.int .u32 (g q).1.arch) ∧ wy.cell? ⟨D, q * 3 + 1, none⟩ = some (.int .u32 (g q).1.nr) ∧ wy.cell? ⟨D, q * 3 + 2, none⟩ = some (g q).2) → Calls Try.prog 39 #[.agg #[.int .u32 (g (q + 1)).1.arch, .int .u32 (g (q + 1)).1.nr, (g (q + 1)).2], .agg #[.int .u32 (g q).1.arch, .int .u32 (g q).1.nr, (g q).2]] wy fun e w' => e = .returned (.bool true) ∧ Below wy.heap.size wy w') := by
            intro wy hy
            have := HSame.out wy (g (q + 1)) (g q) hy.1 hG1 hG0
            rw [hx'] at this
            exact this
          have SK : Hid (∀ wa wb, Below wa.heap.size wa wb → (Below B W wa ∧ RowM wa D N n g ∧ wa.cell? ⟨D, (q + 1) * 3, none⟩ = some (.int .u32 (g (q + 1)).1.arch) ∧ wa.cell? ⟨D, (q + 1) * 3 + 1, none⟩ = some (.int .u32 (g (q + 1)).1.nr) ∧ wa.cell? ⟨D, (q + 1) * 3 + 2, none⟩ = some (g (q + 1)).2 ∧ wa.cell? ⟨D, q * 3, none⟩ = some (.int .u32 (g q).1.arch) ∧ wa.cell? ⟨D, q * 3 + 1, none⟩ = some (.int .u32 (g q).1.nr) ∧ wa.cell? ⟨D, q * 3 + 2, none⟩ = some (g q).2) → (Below B W wb ∧ RowM wb D N n g ∧ wb.cell? ⟨D, (q + 1) * 3, none⟩ = some (.int .u32 (g (q + 1)).1.arch) ∧ wb.cell? ⟨D, (q + 1) * 3 + 1, none⟩ = some (.int .u32 (g (q + 1)).1.nr) ∧ wb.cell? ⟨D, (q + 1) * 3 + 2, none⟩ = some (g (q + 1)).2 ∧ wb.cell? ⟨D, q * 3, none⟩ = some (.int .u32 (g q).1.arch) ∧ wb.cell? ⟨D, q * 3 + 1, none⟩ = some (.int .u32 (g q).1.nr) ∧ wb.cell? ⟨D, q * 3 + 2, none⟩ = some (g q).2)) := fun wa wb hb ⟨s, r, x, y, z, x', y', z'⟩ => ⟨belowB_step hBW hb s, r.keep hb, cell_step hb x, cell_step hb y, cell_step hb z, cell_step hb x', cell_step hb y', cell_step hb z'⟩
          have hS0 : Below B W wr.drew ∧ RowM wr.drew D N n g ∧ wr.drew.cell? ⟨D, (q + 1) * 3, none⟩ = some (.int .u32 (g (q + 1)).1.arch) ∧ wr.drew.cell? ⟨D, (q + 1) * 3 + 1, none⟩ = some (.int .u32 (g (q + 1)).1.nr) ∧ wr.drew.cell? ⟨D, (q + 1) * 3 + 2, none⟩ = some (g (q + 1)).2 ∧ wr.drew.cell? ⟨D, q * 3, none⟩ = some (.int .u32 (g q).1.arch) ∧ wr.drew.cell? ⟨D, q * 3 + 1, none⟩ = some (.int .u32 (g q).1.nr) ∧ wr.drew.cell? ⟨D, q * 3 + 2, none⟩ = some (g q).2 := SK.out wr wr.drew ((Below.refl _ _).drew) ⟨hB, hR, d0, d1, d2, c0, c1, c2⟩
          clear c0 c1 c2 d0 d1 d2 hR hB hx' hx HSame hG1 hG0
          go_wp2_with fail
          go_region_held3 (fun w' => Below B W w' ∧ RowM w' D N n g ∧ w'.cell? ⟨D, (q + 1) * 3, none⟩ = some (.int .u32 (g (q + 1)).1.arch) ∧ w'.cell? ⟨D, (q + 1) * 3 + 1, none⟩ = some (.int .u32 (g (q + 1)).1.nr) ∧ w'.cell? ⟨D, (q + 1) * 3 + 2, none⟩ = some (g (q + 1)).2 ∧ w'.cell? ⟨D, q * 3, none⟩ = some (.int .u32 (g q).1.arch) ∧ w'.cell? ⟨D, q * 3 + 1, none⟩ = some (.int .u32 (g q).1.nr) ∧ w'.cell? ⟨D, q * 3 + 2, none⟩ = some (g q).2)
            (assumption)
            (first | (go_at_call 39; refine (HC.out _ (by assumption)).mono ?_; rintro _ w9 ⟨rfl, hb9⟩; have hS9 := SK.out _ _ hb9 (by assumption)))
          all_goals
            have B1 : Below B W w9 := hS9.1
            have R1 : RowM w9 D N n g := hS9.2.1
            clear hS9 hb9
            go_wp2_with fail
            clear SK HC hS0 h00 h01 hwq hq0
            have HL0 : Hid (lst g (q + 1) = comp (lst g n) (q + 1 + 0 + 1)) := by
              unfold Hid
              rw [Nat.add_zero, comp_same (by omega) (by rw [lst_len]; exact hlt) (by rw [lst_get g hlt, show q + 1 - 1 = q by omega, lst_get g (by omega)]; exact HX.out)]
              exact (comp_lst (by omega) HJ.out).symm
            have HSm : Hid (∀ k m, q + 1 + (k + 1) < n → ordC (g (q + 1 + (k + 1))).1 (g (q + 1 + k)).1 = 0 → ∀ g', lst g' m = comp (lst g n) (q + 1 + k + 1) → lst g' m = comp (lst g n) (q + 1 + (k + 1) + 1)) := by
              intro k m hk hx g' h
              rw [comp_same (by omega) (by rw [lst_len]; exact hk) (by rw [lst_get g hk, show q + 1 + (k + 1) - 1 = q + 1 + k by omega, lst_get g (by omega)]; exact hx)]
              exact h
            have HDf : Hid (∀ k m, q + 1 + (k + 1) < n → ordC (g (q + 1 + (k + 1))).1 (g (q + 1 + k)).1 ≠ 0 → ∀ g', lst g' m = comp (lst g n) (q + 1 + k + 1) → lst (fun j => if j = m then g (q + 1 + (k + 1)) else g' j) (m + 1) = comp (lst g n) (q + 1 + (k + 1) + 1)) := by
              intro k m hk hx g' h
              rw [comp_diff (by omega) (by rw [lst_len]; exact hk) (by rw [lst_get g hk, show q + 1 + (k + 1) - 1 = q + 1 + k by omega, lst_get g (by omega)]; exact hx), lst_succ, lst_get g hk]
              rw [lst_congr (g' := g') (fun i hi => by rw [if_neg (by omega)]), h, if_pos rfl]
              rfl
            clear HJ HX
            obtain ⟨L, hLd⟩ : ∃ L, n - (q + 1) = L := ⟨_, rfl⟩
            have hnL : n = q + 1 + L := by omega
            have HnL : Hid (n = q + 1 + L) := hnL
            rw [hLd]
            have hL1 : 1 ≤ L := by omega
            have hLm : L ≤ 16777216 := by omega
            have hnm : n ≤ 16777216 := by omega
            clear hLd hnL
            go_loopw [5, 7] (fun i r wx => ∃ (m k : Nat) (g' : Nat → C × Value), k + 1 ≤ L ∧ q + 1 ≤ m ∧ m ≤ q + 1 + k ∧ i = .int .i64 m ∧ r = .int .i64 ((k : Int) + 1) ∧ RowM wx D N n g' ∧ Below B W wx ∧ Hid (∀ j, q + 1 + k ≤ j → j < n → g' j = g j) ∧ Hid (∀ j, j < n → GoodB W B (g' j)) ∧ Hid (lst g' m = comp (lst g n) (q + 1 + k + 1))) (fun _ r _ => L - (intOf r).toNat)
            case atStart => exact ⟨q + 1, 0, g, by omega, by omega, by omega, by simp, rfl, R1, B1, fun _ _ _ => rfl, HG.out, HL0.out⟩
            case round =>
              obtain ⟨m, k, g', hk, hm0, hm1, rfl, rfl, hR, hB, HK, HGd, HLs⟩ := hrel
              clear R1 B1 HL0
              have hnL := HnL.out
              by_cases hlt2 : k + 1 < L
              · have ea : (q + 1 + (k + 1)) * 3 = (q + 1) * 3 + (k + 1) * 3 := by omega
                have eb : (q + 1 + k) * 3 = (q + 1) * 3 + k * 3 := by omega
                obtain ⟨c0, c1, c2⟩ := hR.cells (i := q + 1 + k) (by omega)
                obtain ⟨d0, d1, d2⟩ := hR.cells (i := q + 1 + (k + 1)) (by omega)
                rw [ea] at d0 d1 d2
                rw [eb] at c0 c1 c2
                rw [HK.out _ (by omega) (by omega)] at c0 c1 c2 d0 d1 d2
                have hG1 := HG.out (q + 1 + (k + 1)) (by omega)
                have hG0 := HG.out (q + 1 + k) (by omega)
                have HSmk : Hid (ordC (g (q + 1 + (k + 1))).1 (g (q + 1 + k)).1 = 0 → lst g' m = comp (lst g n) (q + 1 + (k + 1) + 1)) := fun hx => HSm.out k m (by omega) hx g' HLs.out
                have HDfk : Hid (ordC (g (q + 1 + (k + 1))).1 (g (q + 1 + k)).1 ≠ 0 → lst (fun j => if j = m then g (q + 1 + (k + 1)) else g' j) (m + 1) = comp (lst g n) (q + 1 + (k + 1) + 1)) := fun hx => HDf.out k m (by omega) hx g' HLs.out
                have HK2 : Hid (∀ j, q + 1 + (k + 1) ≤ j → j < n → g' j = g j) := fun j h1 h2 => HK.out j (by omega) h2
                clear ea eb HSm HDf HLs HK
                obtain ⟨o0, O0, F0⟩ := hR.open (m * 3) (by omega)
                have hm3 : m < N := by omega
                obtain ⟨a, c, hv, _⟩ := hG1.src
                obtain ⟨a', c', hv', _⟩ := hG0.src
                generalize hp : g (q + 1 + (k + 1)) = p at *
                generalize hp' : g (q + 1 + k) = p' at *
                clear hp hp' O0 F0
                obtain ⟨⟨ar, nr, args⟩, v⟩ := p
                obtain ⟨⟨ar', nr', args'⟩, v'⟩ := p'
                simp only at hv hv' c0 c1 c2 d0 d1 d2 HSmk HDfk
                subst hv hv'
                have hk1 : (k : Int) + 1 < (L : Int) := by omega
                have hk0 : (k : Int) < (L : Int) := by omega
                have h00 : (0 : Int) ≤ (k : Int) := by omega
                have h01 : (0 : Int) ≤ (k : Int) + 1 := by omega
                have hwq : IntKind.i64.wrap (k : Int) = (k : Int) := by rw [IntKind.wrap_i64]; omega
                generalize hl : args.length = l at *
                generalize hl' : args'.length = l' at *
                have hmn : (m : Int) < (n : Int) := by omega
                have hmN : m * 3 + 2 < N * 3 := by omega
                clear hnL hl hl'
                by_cases hx : ordC ⟨ar, nr, args⟩ ⟨ar', nr', args'⟩ = 0
                · have hx' : (ordC (⟨ar, nr, args⟩ : C) ⟨ar', nr', args'⟩ == 0) = true := by simpa using hx
                  have HLn : Hid (lst g' m = comp (lst g n) (q + 1 + (k + 1) + 1)) := HSmk.out hx
                  clear HSmk HDfk
                  have HC : Hid (∀ wy, (Below B W wy ∧ RowM wy D N n g' ∧ wy.cell? ⟨D, (q + 1) * 3 + (k + 1) * 3, none⟩ = some (.int .u32 ar) ∧ wy.cell? ⟨D, (q + 1) * 3 + (k + 1) * 3 + 1, none⟩ = some (.int .u32 nr) ∧ wy.cell? ⟨D, (q + 1) * 3 + (k + 1) * 3 + 2, none⟩ = some (.slice a l c) ∧ wy.cell? ⟨D, (q + 1) * 3 + k * 3, none⟩ = some (.int .u32 ar') ∧ wy.cell? ⟨D, (q + 1) * 3 + k * 3 + 1, none⟩ = some (.int .u32 nr') ∧ wy.cell? ⟨D, (q + 1) * 3 + k * 3 + 2, none⟩ = some (.slice a' l' c')) → Calls Try.prog 39 #[.agg #[.int .u32 ar, .int .u32 nr, .slice a l c], .agg #[.int .u32 ar', .int .u32 nr', .slice a' l' c']] wy fun e w' => e = .returned (.bool true) ∧ Below wy.heap.size wy w') := by
                    intro wy hy
                    have := HSame2.out wy (⟨ar, nr, args⟩, .slice a l c) (⟨ar', nr', args'⟩, .slice a' l' c') hy.1 hG1 hG0
                    rw [hx'] at this
                    exact this
                  have SK : Hid (∀ wa wb, Below wa.heap.size wa wb → (Below B W wa ∧ RowM wa D N n g' ∧ wa.cell? ⟨D, (q + 1) * 3 + (k + 1) * 3, none⟩ = some (.int .u32 ar) ∧ wa.cell? ⟨D, (q + 1) * 3 + (k + 1) * 3 + 1, none⟩ = some (.int .u32 nr) ∧ wa.cell? ⟨D, (q + 1) * 3 + (k + 1) * 3 + 2, none⟩ = some (.slice a l c) ∧ wa.cell? ⟨D, (q + 1) * 3 + k * 3, none⟩ = some (.int .u32 ar') ∧ wa.cell? ⟨D, (q + 1) * 3 + k * 3 + 1, none⟩ = some (.int .u32 nr') ∧ wa.cell? ⟨D, (q + 1) * 3 + k * 3 + 2, none⟩ = some (.slice a' l' c')) → (Below B W wb ∧ RowM wb D N n g' ∧ wb.cell? ⟨D, (q + 1) * 3 + (k + 1) * 3, none⟩ = some (.int .u32 ar) ∧ wb.cell? ⟨D, (q + 1) * 3 + (k + 1) * 3 + 1, none⟩ = some (.int .u32 nr) ∧ wb.cell? ⟨D, (q + 1) * 3 + (k + 1) * 3 + 2, none⟩ = some (.slice a l c) ∧ wb.cell? ⟨D, (q + 1) * 3 + k * 3, none⟩ = some (.int .u32 ar') ∧ wb.cell? ⟨D, (q + 1) * 3 + k * 3 + 1, none⟩ = some (.int .u32 nr') ∧ wb.cell? ⟨D, (q + 1) * 3 + k * 3 + 2, none⟩ = some (.slice a' l' c'))) := fun wa wb hb ⟨s, r, x, y, z, x', y', z'⟩ => ⟨belowB_step hBW hb s, r.keep hb, cell_step hb x, cell_step hb y, cell_step hb z, cell_step hb x', cell_step hb y', cell_step hb z'⟩
                  have hS0 : Below B W wr.drew ∧ RowM wr.drew D N n g' ∧ wr.drew.cell? ⟨D, (q + 1) * 3 + (k + 1) * 3, none⟩ = some (.int .u32 ar) ∧ wr.drew.cell? ⟨D, (q + 1) * 3 + (k + 1) * 3 + 1, none⟩ = some (.int .u32 nr) ∧ wr.drew.cell? ⟨D, (q + 1) * 3 + (k + 1) * 3 + 2, none⟩ = some (.slice a l c) ∧ wr.drew.cell? ⟨D, (q + 1) * 3 + k * 3, none⟩ = some (.int .u32 ar') ∧ wr.drew.cell? ⟨D, (q + 1) * 3 + k * 3 + 1, none⟩ = some (.int .u32 nr') ∧ wr.drew.cell? ⟨D, (q + 1) * 3 + k * 3 + 2, none⟩ = some (.slice a' l' c') := SK.out wr wr.drew ((Below.refl _ _).drew) ⟨hB, hR, d0, d1, d2, c0, c1, c2⟩
                  clear c0 c1 c2 d0 d1 d2 hR hB hx' hx HSame2 hG0
                  go_wp2_with fail
                  go_region_held3 (fun w' => Below B W w' ∧ RowM w' D N n g' ∧ w'.cell? ⟨D, (q + 1) * 3 + (k + 1) * 3, none⟩ = some (.int .u32 ar) ∧ w'.cell? ⟨D, (q + 1) * 3 + (k + 1) * 3 + 1, none⟩ = some (.int .u32 nr) ∧ w'.cell? ⟨D, (q + 1) * 3 + (k + 1) * 3 + 2, none⟩ = some (.slice a l c) ∧ w'.cell? ⟨D, (q + 1) * 3 + k * 3, none⟩ = some (.int .u32 ar') ∧ w'.cell? ⟨D, (q + 1) * 3 + k * 3 + 1, none⟩ = some (.int .u32 nr') ∧ w'.cell? ⟨D, (q + 1) * 3 + k * 3 + 2, none⟩ = some (.slice a' l' c'))
                    (assumption)
                    (first | (go_at_call 39; refine (HC.out _ (by assumption)).mono ?_; rintro _ w9 ⟨rfl, hb9⟩; have hS9 := SK.out _ _ hb9 (by assumption)))
                  all_goals
                    have B1 : Below B W w9 := hS9.1
                    have R1 : RowM w9 D N n g' := hS9.2.1
                    clear hS9 hb9 SK HC hS0 hG1
                    go_wp2
                    go_roundw
                    case rel => exact ⟨m, k + 1, g', by omega, by omega, by omega, rfl, by go_num, R1, B1, HK2, HGd, HLn⟩
                    case measure => simp [intOf]; omega
                · have hx' : (ordC (⟨ar, nr, args⟩ : C) ⟨ar', nr', args'⟩ == 0) = false := by simpa using hx
                  have HLn : Hid (lst (fun j => if j = m then ((⟨ar, nr, args⟩, .slice a l c) : C × Value) else g' j) (m + 1) = comp (lst g n) (q + 1 + (k + 1) + 1)) := HDfk.out hx
                  have HK3 : Hid (∀ j, q + 1 + (k + 1) ≤ j → j < n → (if j = m then ((⟨ar, nr, args⟩, .slice a l c) : C × Value) else g' j) = g j) := fun j h1 h2 => by rw [if_neg (by omega)]; exact HK2.out j h1 h2
                  have HG3 : Hid (∀ j, j < n → GoodB W B (if j = m then ((⟨ar, nr, args⟩, .slice a l c) : C × Value) else g' j)) := fun j h2 => by
                    by_cases e : j = m
                    · rw [if_pos e]; exact hG1
                    · rw [if_neg e]; exact HGd.out j h2
                  clear HSmk HDfk HK2 HGd
                  have HC : Hid (∀ wy, (Below B W wy ∧ RowM wy D N n g' ∧ wy.cell? ⟨D, (q + 1) * 3 + (k + 1) * 3, none⟩ = some (.int .u32 ar) ∧ wy.cell? ⟨D, (q + 1) * 3 + (k + 1) * 3 + 1, none⟩ = some (.int .u32 nr) ∧ wy.cell? ⟨D, (q + 1) * 3 + (k + 1) * 3 + 2, none⟩ = some (.slice a l c) ∧ wy.cell? ⟨D, (q + 1) * 3 + k * 3, none⟩ = some (.int .u32 ar') ∧ wy.cell? ⟨D, (q + 1) * 3 + k * 3 + 1, none⟩ = some (.int .u32 nr') ∧ wy.cell? ⟨D, (q + 1) * 3 + k * 3 + 2, none⟩ = some (.slice a' l' c')) → Calls Try.prog 39 #[.agg #[.int .u32 ar, .int .u32 nr, .slice a l c], .agg #[.int .u32 ar', .int .u32 nr', .slice a' l' c']] wy fun e w' => e = .returned (.bool false) ∧ Below wy.heap.size wy w') := by
                    intro wy hy
                    have := HSame2.out wy (⟨ar, nr, args⟩, .slice a l c) (⟨ar', nr', args'⟩, .slice a' l' c') hy.1 hG1 hG0
                    rw [hx'] at this
                    exact this
                  have SK : Hid (∀ wa wb, Below wa.heap.size wa wb → (Below B W wa ∧ RowM wa D N n g' ∧ wa.cell? ⟨D, (q + 1) * 3 + (k + 1) * 3, none⟩ = some (.int .u32 ar) ∧ wa.cell? ⟨D, (q + 1) * 3 + (k + 1) * 3 + 1, none⟩ = some (.int .u32 nr) ∧ wa.cell? ⟨D, (q + 1) * 3 + (k + 1) * 3 + 2, none⟩ = some (.slice a l c) ∧ wa.cell? ⟨D, (q + 1) * 3 + k * 3, none⟩ = some (.int .u32 ar') ∧ wa.cell? ⟨D, (q + 1) * 3 + k * 3 + 1, none⟩ = some (.int .u32 nr') ∧ wa.cell? ⟨D, (q + 1) * 3 + k * 3 + 2, none⟩ = some (.slice a' l' c')) → (Below B W wb ∧ RowM wb D N n g' ∧ wb.cell? ⟨D, (q + 1) * 3 + (k + 1) * 3, none⟩ = some (.int .u32 ar) ∧ wb.cell? ⟨D, (q + 1) * 3 + (k + 1) * 3 + 1, none⟩ = some (.int .u32 nr) ∧ wb.cell? ⟨D, (q + 1) * 3 + (k + 1) * 3 + 2, none⟩ = some (.slice a l c) ∧ wb.cell? ⟨D, (q + 1) * 3 + k * 3, none⟩ = some (.int .u32 ar') ∧ wb.cell? ⟨D, (q + 1) * 3 + k * 3 + 1, none⟩ = some (.int .u32 nr') ∧ wb.cell? ⟨D, (q + 1) * 3 + k * 3 + 2, none⟩ = some (.slice a' l' c'))) := fun wa wb hb ⟨s, r, x, y, z, x', y', z'⟩ => ⟨belowB_step hBW hb s, r.keep hb, cell_step hb x, cell_step hb y, cell_step hb z, cell_step hb x', cell_step hb y', cell_step hb z'⟩
                  have hS0 : Below B W wr.drew ∧ RowM wr.drew D N n g' ∧ wr.drew.cell? ⟨D, (q + 1) * 3 + (k + 1) * 3, none⟩ = some (.int .u32 ar) ∧ wr.drew.cell? ⟨D, (q + 1) * 3 + (k + 1) * 3 + 1, none⟩ = some (.int .u32 nr) ∧ wr.drew.cell? ⟨D, (q + 1) * 3 + (k + 1) * 3 + 2, none⟩ = some (.slice a l c) ∧ wr.drew.cell? ⟨D, (q + 1) * 3 + k * 3, none⟩ = some (.int .u32 ar') ∧ wr.drew.cell? ⟨D, (q + 1) * 3 + k * 3 + 1, none⟩ = some (.int .u32 nr') ∧ wr.drew.cell? ⟨D, (q + 1) * 3 + k * 3 + 2, none⟩ = some (.slice a' l' c') := SK.out wr wr.drew ((Below.refl _ _).drew) ⟨hB, hR, d0, d1, d2, c0, c1, c2⟩
                  clear c0 c1 c2 d0 d1 d2 hR hB hx' hx HSame2 hG0
                  go_wp2_with fail
                  go_region_held3 (fun w' => Below B W w' ∧ RowM w' D N n g' ∧ w'.cell? ⟨D, (q + 1) * 3 + (k + 1) * 3, none⟩ = some (.int .u32 ar) ∧ w'.cell? ⟨D, (q + 1) * 3 + (k + 1) * 3 + 1, none⟩ = some (.int .u32 nr) ∧ w'.cell? ⟨D, (q + 1) * 3 + (k + 1) * 3 + 2, none⟩ = some (.slice a l c) ∧ w'.cell? ⟨D, (q + 1) * 3 + k * 3, none⟩ = some (.int .u32 ar') ∧ w'.cell? ⟨D, (q + 1) * 3 + k * 3 + 1, none⟩ = some (.int .u32 nr') ∧ w'.cell? ⟨D, (q + 1) * 3 + k * 3 + 2, none⟩ = some (.slice a' l' c'))
                    (assumption)
                    (first | (go_at_call 39; refine (HC.out _ (by assumption)).mono ?_; rintro _ w9 ⟨rfl, hb9⟩; have hS9 := SK.out _ _ hb9 (by assumption)))
                  all_goals
                    have B1 : Below B W w9 := hS9.1
                    have R1 : RowM w9 D N n g' := hS9.2.1
                    obtain ⟨_, _, d0, d1, d2, _⟩ := hS9
                    obtain ⟨o0, O0, F0⟩ := R1.open (m * 3) (by omega)
                    obtain ⟨o1, O1, F1⟩ := R1.open (m * 3 + 1) (by omega)
                    obtain ⟨o2, O2, F2⟩ := R1.open (m * 3 + 2) (by omega)
                    have HR2 : Hid (RowM (((w9.setCell ⟨D, m * 3, none⟩ (.int .u32 ar)).setCell ⟨D, m * 3 + 1, none⟩ (.int .u32 nr)).setCell ⟨D, m * 3 + 2, none⟩ (.slice a l c)) D N n (fun j => if j = m then ((⟨ar, nr, args⟩, .slice a l c) : C × Value) else g' j)) := R1.set m (⟨ar, nr, args⟩, .slice a l c)
                    have HB2 : Hid (Below B W (((w9.setCell ⟨D, m * 3, none⟩ (.int .u32 ar)).setCell ⟨D, m * 3 + 1, none⟩ (.int .u32 nr)).setCell ⟨D, m * 3 + 2, none⟩ (.slice a l c))) := ((B1.setCell (p := ⟨D, m * 3, none⟩) hD _).setCell (p := ⟨D, m * 3 + 1, none⟩) hD _).setCell (p := ⟨D, m * 3 + 2, none⟩) hD _
                    clear hb9 SK HC hS0 hG1 R1 B1
                    go_wp2
                    go_roundw
                    case rel => exact ⟨m + 1, k + 1, _, by omega, by omega, by omega, by go_num, by go_num, HR2.out, HB2.out, HK3, HG3, HLn⟩
                    case measure => simp [intOf]; omega
              · have hkL : k + 1 = L := by omega
                have hlt3 : ¬ (k : Int) + 1 < (L : Int) := by omega
                have HLn : Hid (lst g' m = comp (lst g n) n) := by have := HLs.out; rw [show q + 1 + k + 1 = n by omega] at this; exact this
                have HR2 : Hid (RowM (wr.setCells D (m * 3) (zero3 (n - m))) D N m g') := hR.clear (by omega) _
                have HB2 : Hid (Below B W (wr.setCells D (m * 3) (zero3 (n - m)))) := below_setCells hD _ _ _ hB
                have hcl : ∀ ty, (Builtin.clear_ #[35] ty #[.slice (some ⟨D, m * 3, none⟩) (n - m) (cap - m)]).run Try.prog wr = .ok (.tuple #[]) (wr.setCells D (m * 3) (zero3 (n - m))) := fun ty => run_clear3 wr D (m * 3) (n - m) (cap - m) ty (by omega) (fun j hj => hR.open (m * 3 + j) (by omega))
                have hmn : (m : Int) ≤ (n : Int) := by omega
                have hmc : (m : Int) ≤ (cap : Int) := by omega
                have hmc1 : ¬ cap = m := by omega
                have hmc2 : ¬ m = cap := by omega
                have hmc3 : ¬ cap - m = 0 := by omega
                have hmc4 : m < cap := by omega
                have HG4 : Hid (∀ i, i < m → GoodB W B (g' i)) := fun i hi => HGd.out i (by omega)
                clear hR hB HSm HDf HLs HK HGd HG hnL hkL
                go_wp2_with (simp only [hcl])
                go_ret
                exact ⟨m, rfl, g', HR2.out, HG4.out, HLn.out, HB2.out⟩
        · have hx' : (ordC (g (q + 1)).1 (g q).1 == 0) = false := by simpa using hx
          have HJ' : Hid (∀ j, 0 < j → j < q + 1 + 1 → ordC (g j).1 (g (j - 1)).1 ≠ 0) := by
            intro j h0 hj
            by_cases e : j = q + 1
            · subst e; exact hx
            · exact HJ.out j h0 (by omega)
          clear HG HJ
          have HC : Hid (∀ wy, (Below B W wy ∧ RowM wy D N n g ∧ wy.cell? ⟨D, (q + 1) * 3, none⟩ = some (.int .u32 (g (q + 1)).1.arch) ∧ wy.cell? ⟨D, (q + 1) * 3 + 1, none⟩ = some (.int .u32 (g (q + 1)).1.nr) ∧ wy.cell? ⟨D, (q + 1) * 3 + 2, none⟩ = some (g (q + 1)).2 ∧ wy.cell? ⟨D, q * 3, none⟩ = some (.int .u32 (g q).1.arch) ∧ wy.cell? ⟨D, q * 3 + 1, none⟩ = some (.int .u32 (g q).1.nr) ∧ wy.cell? ⟨D, q * 3 + 2, none⟩ = some (g q).2) → Calls Try.prog 39 #[.agg #[.int .u32 (g (q + 1)).1.arch, .int .u32 (g (q + 1)).1.nr, (g (q + 1)).2], .agg #[.int .u32 (g q).1.arch, .int .u32 (g q).1.nr, (g q).2]] wy fun e w' => e = .returned (.bool false) ∧ Below wy.heap.size wy w') := by
            intro wy hy
            have := HSame.out wy (g (q + 1)) (g q) hy.1 hG1 hG0
            rw [hx'] at this
            exact this
          have SK : Hid (∀ wa wb, Below wa.heap.size wa wb → (Below B W wa ∧ RowM wa D N n g ∧ wa.cell? ⟨D, (q + 1) * 3, none⟩ = some (.int .u32 (g (q + 1)).1.arch) ∧ wa.cell? ⟨D, (q + 1) * 3 + 1, none⟩ = some (.int .u32 (g (q + 1)).1.nr) ∧ wa.cell? ⟨D, (q + 1) * 3 + 2, none⟩ = some (g (q + 1)).2 ∧ wa.cell? ⟨D, q * 3, none⟩ = some (.int .u32 (g q).1.arch) ∧ wa.cell? ⟨D, q * 3 + 1, none⟩ = some (.int .u32 (g q).1.nr) ∧ wa.cell? ⟨D, q * 3 + 2, none⟩ = some (g q).2) → (Below B W wb ∧ RowM wb D N n g ∧ wb.cell? ⟨D, (q + 1) * 3, none⟩ = some (.int .u32 (g (q + 1)).1.arch) ∧ wb.cell? ⟨D, (q + 1) * 3 + 1, none⟩ = some (.int .u32 (g (q + 1)).1.nr) ∧ wb.cell? ⟨D, (q + 1) * 3 + 2, none⟩ = some (g (q + 1)).2 ∧ wb.cell? ⟨D, q * 3, none⟩ = some (.int .u32 (g q).1.arch) ∧ wb.cell? ⟨D, q * 3 + 1, none⟩ = some (.int .u32 (g q).1.nr) ∧ wb.cell? ⟨D, q * 3 + 2, none⟩ = some (g q).2)) := fun wa wb hb ⟨s, r, x, y, z, x', y', z'⟩ => ⟨belowB_step hBW hb s, r.keep hb, cell_step hb x, cell_step hb y, cell_step hb z, cell_step hb x', cell_step hb y', cell_step hb z'⟩
          have hS0 : Below B W wr.drew ∧ RowM wr.drew D N n g ∧ wr.drew.cell? ⟨D, (q + 1) * 3, none⟩ = some (.int .u32 (g (q + 1)).1.arch) ∧ wr.drew.cell? ⟨D, (q + 1) * 3 + 1, none⟩ = some (.int .u32 (g (q + 1)).1.nr) ∧ wr.drew.cell? ⟨D, (q + 1) * 3 + 2, none⟩ = some (g (q + 1)).2 ∧ wr.drew.cell? ⟨D, q * 3, none⟩ = some (.int .u32 (g q).1.arch) ∧ wr.drew.cell? ⟨D, q * 3 + 1, none⟩ = some (.int .u32 (g q).1.nr) ∧ wr.drew.cell? ⟨D, q * 3 + 2, none⟩ = some (g q).2 := SK.out wr wr.drew ((Below.refl _ _).drew) ⟨hB, hR, d0, d1, d2, c0, c1, c2⟩
          clear c0 c1 c2 d0 d1 d2 hR hB hx' hx HSame hG1 hG0
          go_wp2_with fail
          go_region_held3 (fun w' => Below B W w' ∧ RowM w' D N n g ∧ w'.cell? ⟨D, (q + 1) * 3, none⟩ = some (.int .u32 (g (q + 1)).1.arch) ∧ w'.cell? ⟨D, (q + 1) * 3 + 1, none⟩ = some (.int .u32 (g (q + 1)).1.nr) ∧ w'.cell? ⟨D, (q + 1) * 3 + 2, none⟩ = some (g (q + 1)).2 ∧ w'.cell? ⟨D, q * 3, none⟩ = some (.int .u32 (g q).1.arch) ∧ w'.cell? ⟨D, q * 3 + 1, none⟩ = some (.int .u32 (g q).1.nr) ∧ w'.cell? ⟨D, q * 3 + 2, none⟩ = some (g q).2)
            (assumption)
            (first | (go_at_call 39; refine (HC.out _ (by assumption)).mono ?_; rintro _ w9 ⟨rfl, hb9⟩; have hS9 := SK.out _ _ hb9 (by assumption)))
          all_goals
            have B1 : Below B W w9 := hS9.1
            have R1 : RowM w9 D N n g := hS9.2.1
            clear hS9 hb9 SK HC hS0
            go_wp2
            go_roundw
            case rel => exact ⟨q + 1, by omega, by go_num, R1, B1, HJ'⟩
            case measure => simp [intOf]; omega
      · have e : q + 1 = n := by omega
        have HE : Hid (lst g n = comp (lst g n) n) := (comp_lst (Nat.le_refl _) (by rw [← e]; exact HJ.out)).symm
        have hlt' : ¬ (q : Int) + 1 < (n : Int) := by omega
        clear HSame HJ
        go_wp2
        go_ret
        exact ⟨n, rfl, g, hR, HG.out, HE.out, hB⟩
end Go.Proofs.Ytpbljegjinjmnaa
