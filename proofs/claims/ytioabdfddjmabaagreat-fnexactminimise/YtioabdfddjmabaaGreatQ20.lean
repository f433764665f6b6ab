/-
  MinY
-/
import Derived.Test.YtioabdfddjmabaaGreatQ18
import Derived.Test.YtioabdfddjmabaaGreatQ19
namespace Go.Proofs.YtioabdfddjmabaaGreat
open Go.RowKit
set_option linter.unusedVariables false
variable {L : Nat}

theorem erase_set {α : Type} {l : List α} {i j : Nat} {x : α} (h : i < j) : (l.eraseIdx j).set i x = (l.set i x).eraseIdx j := by
  apply List.ext_getElem?
  intro q
  simp only [List.getElem?_set, List.getElem?_eraseIdx, List.length_eraseIdx]
  by_cases h1 : q < j
  · simp only [h1, if_true]
    by_cases h2 : i = q
    · subst h2
      simp only [if_true]
      by_cases h3 : j < l.length
      · simp only [h3, if_true]
        rw [if_pos (by omega), if_pos (by omega)]
      · simp only [h3, if_false]
    · simp only [h2, if_false]
  · simp only [h1, if_false]
    rw [if_neg (by omega), if_neg (by omega)]
theorem OwnM.mono {w : World} {B B' : Nat} {v : Value} {os : List (Ru × Value)} (h : OwnM L w B v os) (hB : B' ≤ B) : OwnM L w B' v os := ⟨World.ownsRow.mono h.row hB, h.el⟩
def StepPost (L : Nat) (l : List Ru) (a : Option Addr) (cap : Nat) (w : World) (e : Ending) (w' : World) : Prop := ((∃ v os, Step l (os.map Prod.fst) ∧ e = .returned (.tuple #[v, .bool true]) ∧ OwnM L w' w.heap.size v os) ∨ (Stuck l ∧ e = .returned (.tuple #[.slice a l.length cap, .bool false]))) ∧ Below w.heap.size w w'
/-- one is joined into the list's row -/
theorem step_put {l : List Ru} {i j : Nat} {x : Ru} {w w10 : World} {B g n c b9 c9 : Nat} {os : List (Ru × Value)} (hO : OwnM L w10 B (.slice (some ⟨g, 0, none⟩) n c) os) (hn : n = os.length) (hm : os.map Prod.fst = l.eraseIdx j) (hij : i < j) (hx : x.length = 6) (hb : b9 < B) (hL9 : L ≤ b9) (hl : LAt 3 PK w10 b9 0 x) (hw : w.heap.size ≤ B) (hBw : Below w.heap.size w w10) :
    ∃ os', OwnM L (w10.setCell ⟨g, i, none⟩ (.slice (some ⟨b9, 0, none⟩) 6 c9)) w.heap.size (.slice (some ⟨g, 0, none⟩) n c) os' ∧ os'.map Prod.fst = (l.set i x).eraseIdx j ∧ Below w.heap.size w (w10.setCell ⟨g, i, none⟩ (.slice (some ⟨b9, 0, none⟩) 6 c9)) := by
  have hg := hO.row.lt g rfl
  refine ⟨os.set i (x, .slice (some ⟨b9, 0, none⟩) 6 c9), (OwnM.put (i := i) (p := (x, .slice (some ⟨b9, 0, none⟩) 6 c9)) hO hn ⟨b9, 0, c9, rfl, hx, ?_, by omega, hl, hL9⟩).mono hw, ?_, hBw.setCell (p := ⟨g, i, none⟩) (Nat.le_trans hw hg.1) _⟩
  · intro e
    have : g = b9 := by simpa [Value.ownBlock] using e
    omega
  · rw [List.map_set, hm]; exact erase_set hij

set_option maxRecDepth 100000 in
set_option maxHeartbeats 8000000 in
theorem l3step_any (L : Nat) (l : List Ru) (a : Option Addr) (cap : Nat) (w : World) (hs : LSrc 1 (PRL L) w a l) (hl : NRs l) (hn : l.length ≤ 1000) (hLw : L ≤ w.heap.size) :
    Calls Tryz.prog 57 #[.slice a l.length cap] w fun e w' => StepPost L l a cap w e w' := by
  have HR : Hid (∀ wr, Below w.heap.size w wr → ∀ i, i < l.length → ∃ b o a' cap', a = some ⟨b, o, none⟩ ∧ wr.cell? ⟨b, o + i, none⟩ = some (.slice a' 6 cap') ∧ LSrc 3 PK wr a' (at' l i)) := fun wr hB i hi => by
    obtain ⟨b, o, a', cap', h1, h2, h3, _⟩ := rules_read hs (fun r hr => (hl r hr).1) (v := .slice none 0 0) hB hi (fun q hq => by cases hq)
    exact ⟨b, o, a', cap', h1, h2, h3⟩
  have HI : Hid (∀ i j ax ay cx cy w1, i < l.length → j < l.length → LSrc 3 PK w1 ax (at' l i) → LSrc 3 PK w1 ay (at' l j) → Calls Tryz.prog 82 #[.agg #[.slice ax 6 cx], .agg #[.slice ay 6 cy]] w1 fun e w' => e = .returned (.bool (withinR (at' l i) (at' l j))) ∧ Below w1.heap.size w1 w') := fun i j ax ay cx cy w1 hi hj h1 h2 => l3ruleWithin_any _ _ ax ay cx cy w1 h1 h2 (hl _ (at_mem hi)) (hl _ (at_mem hj))
  have HJ : Hid (∀ i j ax ay cx cy w1, i < l.length → j < l.length → LSrc 3 PK w1 ax (at' l i) → LSrc 3 PK w1 ay (at' l j) → Calls Tryz.prog 84 #[.agg #[.slice ax 6 cx], .agg #[.slice ay 6 cy]] w1 fun e w' => JrPost (at' l i) (at' l j) w1 e w') := fun i j ax ay cx cy w1 hi hj h1 h2 => l3joinRule_any _ _ ax ay cx cy w1 h1 h2 (hl _ (at_mem hi)) (hl _ (at_mem hj))
  have HWo : Hid (∀ w1 (k : Nat), Below w.heap.size w w1 → k < l.length → Calls Tryz.prog 83 #[.slice a l.length cap, .int .i64 (k : Int)] w1 fun e w' => WoPost L l k w1 e w') := fun w1 k hB hk => l3without_any L l k a cap w1 (hs.below (PRL.stays L) hB) (fun r hr => (hl r hr).1) hn (by omega)
  have HX6 : Hid (∀ i j x, i < l.length → j < l.length → JoinR (at' l i) (at' l j) x → x.length = 6) := fun i j x hi hj h => (h.normal (hl _ (at_mem hi)) (hl _ (at_mem hj))).1
  have HEl : Hid (∀ j, j < l.length → (l.eraseIdx j).length = l.length - 1) := fun j hj => by rw [List.length_eraseIdx, if_pos hj]
  have HNoW : Hid (NoWupto l l.length → NoW l) := fun h => h
  have HNoJ : Hid (NoJupto l l.length → NoJ l) := fun h => h
  have HFW : Hid (∀ i j, i < l.length → NoWupto l i → j < l.length → i ≠ j → withinR (at' l i) (at' l j) = true → Step l (l.eraseIdx i)) := fun i j h1 h2 h3 h4 h5 => Step.drop ⟨h1, h2, j, h3, h4, h5⟩
  have HWs : Hid (∀ i, i < l.length → NoWupto l i → (∀ q, q < l.length → i ≠ q → withinR (at' l i) (at' l q) = false) → NoWupto l (i + 1)) := fun i hi h1 h2 p hp q hq hne => by
    by_cases e : p = i
    · subst e; exact h2 q hq hne
    · exact h1 p (by omega) q hq hne
  have HFJ : Hid (∀ i j x, NoW l → i < j → j < l.length → NoJupto l i → (∀ q, i < q → q < j → NoJoin (at' l i) (at' l q)) → JoinR (at' l i) (at' l j) x → Step l ((l.set i x).eraseIdx j)) := fun i j x h0 h1 h2 h3 h4 h5 => Step.join h0 ⟨h1, h2, h3, h4, h5⟩
  have HJs : Hid (∀ i, i < l.length → NoJupto l i → (∀ q, i < q → q < l.length → NoJoin (at' l i) (at' l q)) → NoJupto l (i + 1)) := fun i hi h1 h2 p hp q hpq hq => by
    by_cases e : p = i
    · subst e; exact h2 q hpq hq
    · exact h1 p (by omega) q hpq hq
  have HSt : Hid (StepPost L l a cap w = fun e w' => ((∃ v os, Step l (os.map Prod.fst) ∧ e = .returned (.tuple #[v, .bool true]) ∧ OwnM L w' w.heap.size v os) ∨ (Stuck l ∧ e = .returned (.tuple #[.slice a l.length cap, .bool false]))) ∧ Below w.heap.size w w') := rfl
  clear hs hl
  generalize l.length = n at *
  go_enter Tryz.func57, Tryz.ntmps57
  go_wp2_with fail
  go_loopw [4] (fun i wr => ∃ (p : Nat), p ≤ n ∧ i = .int .i64 p ∧ Hid (NoWupto l p) ∧ Below w.heap.size w wr) (fun i _ => n - (intOf i).toNat)
  case atStart => exact ⟨0, by omega, rfl, fun p hp => by omega, Below.refl _ _⟩
  case round =>
    obtain ⟨p, hp, rfl, HN, B⟩ := hrel
    rename World => WA
    by_cases hpn : p < n
    · have hpn' : (p : Int) < (n : Int) := by omega
      clear HJ HNoW HNoJ HFJ HJs HX6 HEl
      go_wp2_with fail
      go_loopw [5] (fun i wr => ∃ (j : Nat), j ≤ n ∧ i = .int .i64 j ∧ Hid (∀ q, q < j → p ≠ q → withinR (at' l p) (at' l q) = false) ∧ Below w.heap.size w wr) (fun i _ => n - (intOf i).toNat)
      case atStart => exact ⟨0, by omega, rfl, fun q hq => by omega, B⟩
      case round =>
        clear B
        obtain ⟨j, hj, rfl, HQ, B⟩ := hrel
        rename World => W0
        by_cases hjn : j < n
        · have hjn' : (j : Int) < (n : Int) := by omega
          by_cases hjp : p = j
          · subst hjp
            have HQ2 : Hid (∀ q, q < p + 1 → p ≠ q → withinR (at' l p) (at' l q) = false) := fun q hq hne => HQ.out q (by omega) hne
            have g1 : ((p : Int) != (p : Int)) = false := by simp
            clear HR HI HWo HFW HWs HQ HN HSt
            go_wp2_with fail
            go_quiet (fail)
            have B2 := below_drewN B nq
            generalize W0.drewN nq = wq at *
            go_wp2
            go_roundw
            case rel => exact ⟨p + 1, by omega, by go_num, HQ2, B2⟩
            case measure => simp [intOf]; omega
          · obtain ⟨b, o, a1, c1, rfl, cr1, hs1⟩ := HR.out W0 B p hpn
            obtain ⟨_, _, a2, c2, he, cr2, hs2⟩ := HR.out W0 B j hjn
            cases he
            have HL : Hid (∀ w1, Below W0.heap.size W0 w1 → Calls Tryz.prog 82 #[.agg #[.slice a1 6 c1], .agg #[.slice a2 6 c2]] w1 fun e w' => e = .returned (.bool (withinR (at' l p) (at' l j))) ∧ Below w1.heap.size w1 w') := fun w1 hb => HI.out p j _ _ _ _ _ hpn hjn (hs1.below PK.stays hb) (hs2.below PK.stays hb)
            have HQy : Hid (withinR (at' l p) (at' l j) = true → Step l (l.eraseIdx p)) := fun h => HFW.out p j hpn HN.out hjn hjp h
            have HQn : Hid (withinR (at' l p) (at' l j) = false → ∀ q, q < j + 1 → p ≠ q → withinR (at' l p) (at' l q) = false) := fun h q hq hne => by
              by_cases e : q = j
              · rw [e]; exact h
              · exact HQ.out q (by omega) hne
            generalize withinR (at' l p) (at' l j) = Q at *
            have SK : Hid (∀ wa wb, Below wa.heap.size wa wb → (Below W0.heap.size W0 wa ∧ wa.cell? ⟨b, o + p, none⟩ = some (.slice a1 6 c1) ∧ wa.cell? ⟨b, o + j, none⟩ = some (.slice a2 6 c2)) → (Below W0.heap.size W0 wb ∧ wb.cell? ⟨b, o + p, none⟩ = some (.slice a1 6 c1) ∧ wb.cell? ⟨b, o + j, none⟩ = some (.slice a2 6 c2))) := fun wa wb hb ⟨s0, e1, e2⟩ => ⟨below_step hb s0, cell_step hb e1, cell_step hb e2⟩
            have hS0 := SK.out W0 W0.drew ((Below.refl _ _).drew) ⟨Below.refl _ _, cr1, cr2⟩
            have g1 : ((p : Int) != (j : Int)) = true := by rw [bne_iff_ne]; omega
            have HWp := HWo.out
            have HWo2 : Hid (∀ w1, Below w.heap.size w w1 → Calls Tryz.prog 83 #[.slice (some ⟨b, o, none⟩) n cap, .int .i64 (p : Int)] w1 fun e w' => WoPost L l p w1 e w') := fun w1 h => HWp w1 p h hpn
            clear HR HI HWo HFW HWs HQ HN HWp hs1 hs2 cr1 cr2 hjp
            go_wp2_with fail
            go_region_held3 (fun w' => Below W0.heap.size W0 w' ∧ w'.cell? ⟨b, o + p, none⟩ = some (.slice a1 6 c1) ∧ w'.cell? ⟨b, o + j, none⟩ = some (.slice a2 6 c2))
              (assumption)
              (first | (go_at_call 82; refine (HL.out _ (by with_reducible first | exact hS0.1 | assumption)).mono ?_; rintro _ w9 ⟨rfl, hb9⟩; have hS9 := SK.out _ _ hb9 (by assumption)))
            all_goals
              obtain ⟨KB, _, _⟩ := hS9
              have B2 := B.trans (KB.mono B.size)
              clear KB hb9 hS0 SK HL B
              cases Q with
              | true =>
                have HStep : Hid (Step l (l.eraseIdx p)) := HQy.out (by first | rfl | trivial)
                clear HQy HQn
                go_wp2_with fail
                refine (HWo2.out _ B2).mono ?_
                rintro _ w10 ⟨v, os, rfl, hO, hm, hb10⟩
                have HP : Hid (StepPost L l (some ⟨b, o, none⟩) cap w (.returned (.tuple #[v, .bool true])) w10) := by
                  refine ⟨.inl ⟨v, os, by rw [hm]; exact HStep.out, rfl, hO.mono B2.size⟩, B2.trans (hb10.mono B2.size)⟩
                clear hO hm hb10 HWo2 HSt HStep
                go_wp2
                exact bodyPost_ret (v := .tuple #[v, .bool true]) (by simp [results, Tryz.results57, go_sem]) rfl HP.out
              | false =>
                have HQ2 : Hid (∀ q, q < j + 1 → p ≠ q → withinR (at' l p) (at' l q) = false) := HQn.out (by first | rfl | trivial)
                clear HQy HQn HWo2 HSt
                go_wp2
                go_roundw
                case rel => exact ⟨j + 1, by omega, by go_num, HQ2, B2⟩
                case measure => simp [intOf]; omega
        · have hjn' : j = n := by omega
          subst hjn'
          have HN2 : Hid (NoWupto l (p + 1)) := HWs.out p hpn HN.out (fun q hq hne => HQ.out q hq hne)
          have hnn : ¬ (j : Int) < (j : Int) := by omega
          clear HR HI HWo HFW HWs HQ HN HSt
          go_wp2
          go_roundw
          case rel => exact ⟨p + 1, by omega, by go_num, HN2, B⟩
          case measure => simp [intOf]; omega
    · have hpn' : p = n := by omega
      subst hpn'
      have HNW : Hid (NoW l) := HNoW.out HN.out
      have hnn : ¬ (p : Int) < (p : Int) := by omega
      clear HN HNoW HWs HFW HI
      go_wp2_with fail
      go_loopw [6] (fun i wr => ∃ (q : Nat), q ≤ p ∧ i = .int .i64 q ∧ Hid (NoJupto l q) ∧ Below w.heap.size w wr) (fun i _ => p - (intOf i).toNat)
      case atStart => exact ⟨0, by omega, rfl, fun q hq => by omega, B⟩
      case round =>
        clear B
        obtain ⟨i, hi, rfl, HN, B⟩ := hrel
        rename World => WB
        by_cases hin : i < p
        · have hin' : (i : Int) < (p : Int) := by omega
          clear HNoJ
          go_wp2_with fail
          go_loopw [7] (fun q wr => ∃ (j : Nat), i < j ∧ j ≤ p ∧ q = .int .i64 j ∧ Hid (∀ q, i < q → q < j → NoJoin (at' l i) (at' l q)) ∧ Below w.heap.size w wr) (fun q _ => p - (intOf q).toNat)
          case atStart => exact ⟨i + 1, by omega, by omega, by go_num, fun q h1 h2 => by omega, B⟩
          case round =>
            clear B
            obtain ⟨j, hij, hj, rfl, HQ, B⟩ := hrel
            rename World => W0
            by_cases hjn : j < p
            · have hjn' : (j : Int) < (p : Int) := by omega
              obtain ⟨b, o, a1, c1, rfl, cr1, hs1⟩ := HR.out W0 B i hin
              obtain ⟨_, _, a2, c2, he, cr2, hs2⟩ := HR.out W0 B j hjn
              cases he
              have HL : Hid (∀ w1, Below W0.heap.size W0 w1 → Calls Tryz.prog 84 #[.agg #[.slice a1 6 c1], .agg #[.slice a2 6 c2]] w1 fun e w' => JrPost (at' l i) (at' l j) w1 e w') := fun w1 hb => HJ.out i j _ _ _ _ _ hin hjn (hs1.below PK.stays hb) (hs2.below PK.stays hb)
              have HWp := HWo.out
              have HWo2 : Hid (∀ w1, Below w.heap.size w w1 → Calls Tryz.prog 83 #[.slice (some ⟨b, o, none⟩) p cap, .int .i64 (j : Int)] w1 fun e w' => WoPost L l j w1 e w') := fun w1 h => HWp w1 j h hjn
              have SB : Hid (∀ w', Below W0.heap.size W0 w' → (Below W0.heap.size W0 w' ∧ w'.cell? ⟨b, o + i, none⟩ = some (.slice a1 6 c1) ∧ w'.cell? ⟨b, o + j, none⟩ = some (.slice a2 6 c2))) := fun w' hb => ⟨hb, cell_step hb cr1, cell_step hb cr2⟩
              have SBs : Hid (∀ w' v, Below W0.heap.size W0 w' → (Below W0.heap.size W0 (w'.setCell ⟨W0.heap.size, 0, none⟩ v) ∧ (w'.setCell ⟨W0.heap.size, 0, none⟩ v).cell? ⟨b, o + i, none⟩ = some (.slice a1 6 c1) ∧ (w'.setCell ⟨W0.heap.size, 0, none⟩ v).cell? ⟨b, o + j, none⟩ = some (.slice a2 6 c2))) := fun w' v hb => SB.out _ (hb.setCell (p := ⟨W0.heap.size, 0, none⟩) (Nat.le_refl _) v)
              have SKa : Hid (∀ wb, Below W0.drew.heap.size W0.drew wb → Below W0.heap.size W0 wb) := fun wb hb => below_step (wa := W0.drew) hb ((Below.refl _ _).drew)
              have SKb : Hid (∀ wb, Below (W0.alloc (.cells #[.slice none 0 0] 44)).drew.heap.size (W0.alloc (.cells #[.slice none 0 0] 44)).drew wb → Below W0.heap.size W0 wb ∧ W0.heap.size < wb.heap.size ∧ wb.cell? ⟨W0.heap.size, 0, none⟩ = some (.slice none 0 0) ∧ wb.frozen? ⟨W0.heap.size, 0, none⟩ = false) := by
                intro wb hb
                have hz : W0.heap.size < (W0.alloc (.cells #[.slice none 0 0] 44)).drew.heap.size := by simp
                exact ⟨below_step hb ((Below.refl _ _).alloc (Nat.le_refl _) _).drew, Nat.lt_of_lt_of_le hz hb.size, (hb.cell (p := ⟨W0.heap.size, 0, none⟩) hz).trans (by simp), (hb.frozen (p := ⟨W0.heap.size, 0, none⟩) hz).trans (by simp)⟩
              have hS0 := SB.out W0.drew (Below.refl _ _).drew
              have hS1 := SB.out (W0.alloc (.cells #[.slice none 0 0] 44)).drew ((Below.refl _ _).alloc (Nat.le_refl _) _).drew
              have hS2 := SB.out (W0.drew.alloc (.cells #[.slice none 0 0] 44)) ((Below.refl _ _).drew.alloc (Nat.le_refl _) _)
              have hsd : W0.drew.heap.size = W0.heap.size := rfl
              have hse : (W0.alloc (.cells #[.slice none 0 0] 44)).drew.heap.size = W0.heap.size + 1 := by simp
              clear cr1 cr2 HR HJ HWo HWp hs1 hs2
              by_cases hJ : ∃ x, JoinR (at' l i) (at' l j) x
              · obtain ⟨x, hx⟩ := hJ
                have HStep : Hid (Step l ((l.set i x).eraseIdx j)) := HFJ.out i j x HNW.out hij hjn HN.out HQ.out hx
                have hx6 := HX6.out i j x hin hjn hx
                have hel := HEl.out j hjn
                have HLy : Hid (∀ w1, Below W0.heap.size W0 w1 → Calls Tryz.prog 84 #[.agg #[.slice a1 6 c1], .agg #[.slice a2 6 c2]] w1 fun e w' => ∃ b9 c9, e = .returned (.tuple #[.agg #[.slice (some ⟨b9, 0, none⟩) 6 c9], .bool true]) ∧ (w1.heap.size ≤ b9 ∧ b9 < w'.heap.size ∧ LAt 3 PK w' b9 0 x) ∧ Below w1.heap.size w1 w') := fun w1 h => (HL.out w1 h).mono (by
                  rintro e w' ⟨⟨y, b9, c9, h1, rfl, h2, h3, h4⟩ | ⟨hno, _⟩, hb⟩
                  · rw [h1.uniq hx] at h4
                    exact ⟨b9, c9, rfl, ⟨h2, h3, h4⟩, hb⟩
                  · exact absurd hx (hno x))
                clear HL HQ HN HFJ HJs HX6 HEl hx
                go_wp2_with fail
                go_region_held3 (fun w' => Below W0.heap.size W0 w' ∧ w'.cell? ⟨b, o + i, none⟩ = some (.slice a1 6 c1) ∧ w'.cell? ⟨b, o + j, none⟩ = some (.slice a2 6 c2))
                  (first | (with_reducible assumption) | (with_reducible exact SBs.out _ _ hB9) | (with_reducible exact SB.out _ (Below.alloc (by assumption) (Below.size (by assumption)) _)))
                  (first | (go_at_call 84; refine (HLy.out _ (by with_reducible first | exact hS0.1 | exact hS1.1 | assumption)).mono ?_; rintro _ w9 ⟨b9, c9, rfl, hx9, hb9⟩; first | (have hB9 : Below W0.heap.size W0 w9 := (by with_reducible exact SKa.out _ hb9); have hS9 := SB.out w9 hB9) | (obtain ⟨hB9, hz9, q0, f0⟩ := (by with_reducible exact SKb.out _ hb9 : _ ∧ _); have hS9 := SB.out w9 hB9)))
                · obtain ⟨hx1, hx2, hx3⟩ := hx9
                  rw [hsd] at hx1
                  have BV : Below W0.heap.size W0 (w9.alloc (.cells #[.slice (some ⟨b9, 0, none⟩) 6 c9] 44)) := hB9.alloc hB9.size _
                  have ee : (w9.alloc (.cells #[.slice (some ⟨b9, 0, none⟩) 6 c9] 44)).cell? ⟨w9.heap.size, 0, none⟩ = some (.slice (some ⟨b9, 0, none⟩) 6 c9) := by simp
                  have hL9 : LAt 3 PK (w9.alloc (.cells #[.slice (some ⟨b9, 0, none⟩) 6 c9] 44)) b9 0 x := hx3.below PK.stays hx2 ((Below.refl _ _).alloc (Nat.le_refl _) _)
                  have hlt9 : b9 < (w9.alloc (.cells #[.slice (some ⟨b9, 0, none⟩) 6 c9] 44)).heap.size := by simp; omega
                  have hLb : L ≤ b9 := by have := B.size; have := hB9.size; omega
                  clear hb9 hS9 hB9 hx1 hx2 hx3
                  clear SB SBs SKa SKb hS0 hS1 hS2 HLy
                  obtain ⟨V9, hV9⟩ : ∃ V9, V9 = (w9.alloc (.cells #[.slice (some ⟨b9, 0, none⟩) 6 c9] 44)) := ⟨_, rfl⟩
                  rw [← hV9] at BV ee hL9 hlt9 ⊢
                  clear hV9
                  obtain ⟨C9, hC9⟩ : ∃ C9, C9 = w9.heap.size := ⟨_, rfl⟩
                  rw [← hC9] at ee ⊢
                  clear hC9
                  have BW := B.trans (BV.mono B.size)
                  clear B BV
                  go_wp2_with fail
                  refine (HWo2.out _ BW).mono ?_
                  rintro _ w10 ⟨v, os, rfl, hO, hm, hb10⟩
                  have hol : os.length = p - 1 := by
                    have := congrArg List.length hm
                    rw [List.length_map, hel] at this; exact this
                  obtain ⟨g, cg, hvf⟩ := own_pos hO.row (by omega)
                  subst hvf
                  have e10 := cell_step hb10 ee
                  obtain ⟨os', hO', hm', hB'⟩ := step_put (c9 := c9) hO rfl hm hij hx6 hlt9 hLb (hL9.below PK.stays hlt9 hb10) BW.size (BW.trans (hb10.mono BW.size))
                  have hgc := World.ownsRow.cellAt hO.row i (by omega)
                  have hgf := World.ownsRow.frozenAt hO.row i
                  have hgs : ∃ xv, w10.cell? ⟨g, i, none⟩ = some xv := by
                    rw [hgc]
                    exact ⟨_, List.getElem?_eq_getElem (by rw [List.length_map]; omega)⟩
                  obtain ⟨xv, hgx⟩ := hgs
                  have HP : Hid (StepPost L l (some ⟨b, o, none⟩) cap w (.returned (.tuple #[.slice (some ⟨g, 0, none⟩) os.length cg, .bool true])) (w10.setCell ⟨g, i, none⟩ (.slice (some ⟨b9, 0, none⟩) 6 c9))) := ⟨.inl ⟨_, os', by rw [hm']; exact HStep.out, rfl, hO'⟩, hB'⟩
                  have hiL : (i : Int) < (os.length : Int) := by omega
                  clear hO hO' hm hm' hB' hb10 HWo2 HSt HStep hgc hL9 BW ee hol hel
                  go_wp2
                  exact bodyPost_ret (v := .tuple #[.slice (some ⟨g, 0, none⟩) os.length cg, .bool true]) (by simp [results, Tryz.results57, go_sem]) rfl HP.out
                · obtain ⟨hx1, hx2, hx3⟩ := hx9
                  rw [hse] at hx1
                  have BV : Below W0.heap.size W0 (w9.setCell ⟨W0.heap.size, 0, none⟩ (.slice (some ⟨b9, 0, none⟩) 6 c9)) := hB9.setCell (p := ⟨W0.heap.size, 0, none⟩) (Nat.le_refl _) _
                  have ee : (w9.setCell ⟨W0.heap.size, 0, none⟩ (.slice (some ⟨b9, 0, none⟩) 6 c9)).cell? ⟨W0.heap.size, 0, none⟩ = some (.slice (some ⟨b9, 0, none⟩) 6 c9) := World.cell?_setCell_same _ _ _ q0
                  have hL9 : LAt 3 PK (w9.setCell ⟨W0.heap.size, 0, none⟩ (.slice (some ⟨b9, 0, none⟩) 6 c9)) b9 0 x := hx3.blk (by simp only [World.setCell, Array.getElem?_modify]; rw [if_neg (by omega)])
                  have hlt9 : b9 < (w9.setCell ⟨W0.heap.size, 0, none⟩ (.slice (some ⟨b9, 0, none⟩) 6 c9)).heap.size := by simp; omega
                  have hLb : L ≤ b9 := by have := B.size; omega
                  clear hb9 hS9 hB9 hx1 hx2 hx3 q0 f0
                  clear SB SBs SKa SKb hS0 hS1 hS2 HLy
                  obtain ⟨V9, hV9⟩ : ∃ V9, V9 = (w9.setCell ⟨W0.heap.size, 0, none⟩ (.slice (some ⟨b9, 0, none⟩) 6 c9)) := ⟨_, rfl⟩
                  rw [← hV9] at BV ee hL9 hlt9 ⊢
                  clear hV9
                  obtain ⟨C9, hC9⟩ : ∃ C9, C9 = W0.heap.size := ⟨_, rfl⟩
                  rw [← hC9] at ee ⊢
                  clear hC9
                  have BW := B.trans (BV.mono B.size)
                  clear B BV
                  go_wp2_with fail
                  refine (HWo2.out _ BW).mono ?_
                  rintro _ w10 ⟨v, os, rfl, hO, hm, hb10⟩
                  have hol : os.length = p - 1 := by
                    have := congrArg List.length hm
                    rw [List.length_map, hel] at this; exact this
                  obtain ⟨g, cg, hvf⟩ := own_pos hO.row (by omega)
                  subst hvf
                  have e10 := cell_step hb10 ee
                  obtain ⟨os', hO', hm', hB'⟩ := step_put (c9 := c9) hO rfl hm hij hx6 hlt9 hLb (hL9.below PK.stays hlt9 hb10) BW.size (BW.trans (hb10.mono BW.size))
                  have hgc := World.ownsRow.cellAt hO.row i (by omega)
                  have hgf := World.ownsRow.frozenAt hO.row i
                  have hgs : ∃ xv, w10.cell? ⟨g, i, none⟩ = some xv := by
                    rw [hgc]
                    exact ⟨_, List.getElem?_eq_getElem (by rw [List.length_map]; omega)⟩
                  obtain ⟨xv, hgx⟩ := hgs
                  have HP : Hid (StepPost L l (some ⟨b, o, none⟩) cap w (.returned (.tuple #[.slice (some ⟨g, 0, none⟩) os.length cg, .bool true])) (w10.setCell ⟨g, i, none⟩ (.slice (some ⟨b9, 0, none⟩) 6 c9))) := ⟨.inl ⟨_, os', by rw [hm']; exact HStep.out, rfl, hO'⟩, hB'⟩
                  have hiL : (i : Int) < (os.length : Int) := by omega
                  clear hO hO' hm hm' hB' hb10 HWo2 HSt HStep hgc hL9 BW ee hol hel
                  go_wp2
                  exact bodyPost_ret (v := .tuple #[.slice (some ⟨g, 0, none⟩) os.length cg, .bool true]) (by simp [results, Tryz.results57, go_sem]) rfl HP.out
              · have HNJ : Hid (NoJoin (at' l i) (at' l j)) := fun x hx => hJ ⟨x, hx⟩
                have HQ2 : Hid (∀ q, i < q → q < j + 1 → NoJoin (at' l i) (at' l q)) := fun q h1 h2 => by
                  by_cases e : q = j
                  · rw [e]; exact HNJ.out
                  · exact HQ.out q h1 (by omega)
                have HLn : Hid (∀ w1, Below W0.heap.size W0 w1 → Calls Tryz.prog 84 #[.agg #[.slice a1 6 c1], .agg #[.slice a2 6 c2]] w1 fun e w' => e = .returned (.tuple #[.agg #[.slice none 0 0], .bool false]) ∧ Below w1.heap.size w1 w') := fun w1 h => (HL.out w1 h).mono (by
                  rintro e w' ⟨⟨y, b9, c9, h1, _⟩ | ⟨_, rfl⟩, hb⟩
                  · exact absurd h1 (HNJ.out y)
                  · exact ⟨rfl, hb⟩)
                clear HL HQ HN HFJ HJs HX6 HEl HNJ hJ HWo2 HSt
                go_wp2_with fail
                go_region_held3 (fun w' => Below W0.heap.size W0 w' ∧ w'.cell? ⟨b, o + i, none⟩ = some (.slice a1 6 c1) ∧ w'.cell? ⟨b, o + j, none⟩ = some (.slice a2 6 c2))
                  (first | (with_reducible assumption) | (with_reducible exact SBs.out _ _ hB9) | (with_reducible exact SB.out _ (Below.alloc (by assumption) (Below.size (by assumption)) _)))
                  (first | (go_at_call 84; refine (HLn.out _ (by with_reducible first | exact hS0.1 | exact hS1.1 | assumption)).mono ?_; rintro _ w9 ⟨rfl, hb9⟩; first | (have hB9 : Below W0.heap.size W0 w9 := (by with_reducible exact SKa.out _ hb9); have hS9 := SB.out w9 hB9) | (obtain ⟨hB9, hz9, q0, f0⟩ := (by with_reducible exact SKb.out _ hb9 : _ ∧ _); have hS9 := SB.out w9 hB9)))
                · have BV : Below W0.heap.size W0 (w9.alloc (.cells #[.slice none 0 0] 44)) := hB9.alloc hB9.size _
                  clear hb9 hS9 hB9
                  clear SB SBs SKa SKb hS0 hS1 hS2 HLn
                  obtain ⟨V9, hV9⟩ : ∃ V9, V9 = (w9.alloc (.cells #[.slice none 0 0] 44)) := ⟨_, rfl⟩
                  rw [← hV9] at BV ⊢
                  clear hV9
                  have BW := B.trans (BV.mono B.size)
                  clear B BV
                  go_wp2
                  go_roundw
                  case rel => exact ⟨j + 1, by omega, by omega, by go_num, HQ2, BW⟩
                  case measure => simp [intOf]; omega
                · have BV : Below W0.heap.size W0 (w9.setCell ⟨W0.heap.size, 0, none⟩ (.slice none 0 0)) := hB9.setCell (p := ⟨W0.heap.size, 0, none⟩) (Nat.le_refl _) _
                  clear hb9 hS9 hB9 q0 f0
                  clear SB SBs SKa SKb hS0 hS1 hS2 HLn
                  obtain ⟨V9, hV9⟩ : ∃ V9, V9 = (w9.setCell ⟨W0.heap.size, 0, none⟩ (.slice none 0 0)) := ⟨_, rfl⟩
                  rw [← hV9] at BV ⊢
                  clear hV9
                  have BW := B.trans (BV.mono B.size)
                  clear B BV
                  go_wp2
                  go_roundw
                  case rel => exact ⟨j + 1, by omega, by omega, by go_num, HQ2, BW⟩
                  case measure => simp [intOf]; omega
            · have hjn' : j = p := by omega
              subst hjn'
              have HN2 : Hid (NoJupto l (i + 1)) := HJs.out i hin HN.out (fun q h1 h2 => HQ.out q h1 h2)
              have hnn2 : ¬ (j : Int) < (j : Int) := by omega
              clear HR HJ HWo HFJ HJs HQ HN HSt HX6 HEl
              go_wp2
              go_roundw
              case rel => exact ⟨i + 1, by omega, by go_num, HN2, B⟩
              case measure => simp [intOf]; omega
        · have hin' : i = p := by omega
          subst hin'
          have HP : Hid (StepPost L l a cap w (.returned (.tuple #[.slice a i cap, .bool false])) WB) := by
            show StepPost L l a cap w _ _
            rw [HSt.out]
            exact ⟨.inr ⟨⟨HNW.out, HNoJ.out HN.out⟩, rfl⟩, B⟩
          have hnn2 : ¬ (i : Int) < (i : Int) := by omega
          clear HR HJ HWo HFJ HJs HN HSt HX6 HEl HNoJ HNW
          go_wp2
          exact bodyPost_ret (v := .tuple #[.slice a i cap, .bool false]) (by simp [results, Tryz.results57, go_sem]) rfl HP.out
end Go.Proofs.YtioabdfddjmabaaGreat
