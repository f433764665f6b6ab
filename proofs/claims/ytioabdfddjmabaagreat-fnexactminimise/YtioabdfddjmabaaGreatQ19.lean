/-
  MathH, MinV, MinW
-/
import Derived.Test.YtioabdfddjmabaaGreatQ07
import Derived.Test.YtioabdfddjmabaaGreatQ17
namespace Go.Proofs.YtioabdfddjmabaaGreat
set_option linter.unusedVariables false

/-- it stands behind all that is out -/
def Cand (out : List Ru) (c : Ru) : Prop := ∀ o ∈ out, ordR o c < 0
/-- the best of the first k -/
def BestU (l out : List Ru) (k : Nat) (best : Int) : Prop :=
  (best = -1 ∧ ∀ i, i < k → ¬ Cand out (at' l i)) ∨ ∃ b : Nat, b < k ∧ best = b ∧ Cand out (at' l b) ∧ ∀ i, i < k → Cand out (at' l i) → ordR (at' l b) (at' l i) ≤ 0
theorem BestU.zero (l out : List Ru) : BestU l out 0 (-1) := .inl ⟨rfl, fun i hi => by omega⟩
theorem BestU.skip {l out : List Ru} {k : Nat} {best : Int} (h : BestU l out k best) (hc : ¬ Cand out (at' l k)) : BestU l out (k + 1) best := by
  rcases h with ⟨h1, h2⟩ | ⟨b, h1, h2, h3, h4⟩
  · refine .inl ⟨h1, fun i hi => ?_⟩
    by_cases e : i = k
    · rw [e]; exact hc
    · exact h2 i (by omega)
  · refine .inr ⟨b, by omega, h2, h3, fun i hi hi2 => ?_⟩
    by_cases e : i = k
    · rw [e] at hi2; exact absurd hi2 hc
    · exact h4 i (by omega) hi2
theorem BestU.first {l out : List Ru} {k : Nat} (h : BestU l out k (-1)) (hc : Cand out (at' l k)) : BestU l out (k + 1) k := by
  rcases h with ⟨h1, h2⟩ | ⟨b, h1, h2, h3, h4⟩
  · refine .inr ⟨k, by omega, rfl, hc, fun i hi hi2 => ?_⟩
    by_cases e : i = k
    · rw [e, linR.self]; exact Int.le_refl 0
    · exact absurd hi2 (h2 i (by omega))
  · omega
theorem BestU.less {l out : List Ru} {k b : Nat} (h : BestU l out k b) (hc : Cand out (at' l k)) (ho : ordR (at' l k) (at' l b) < 0) : BestU l out (k + 1) k := by
  rcases h with ⟨h1, h2⟩ | ⟨b', h1, h2, h3, h4⟩
  · omega
  · have : b = b' := by omega
    subst this
    refine .inr ⟨k, by omega, rfl, hc, fun i hi hi2 => ?_⟩
    by_cases e : i = k
    · rw [e, linR.self]; exact Int.le_refl 0
    · have := linR.lt_le ho (h4 i (by omega) hi2); omega
theorem BestU.same {l out : List Ru} {k b : Nat} (h : BestU l out k b) (ho : ¬ ordR (at' l k) (at' l b) < 0) : BestU l out (k + 1) b := by
  rcases h with ⟨h1, h2⟩ | ⟨b', h1, h2, h3, h4⟩
  · omega
  · have : b = b' := by omega
    subst this
    refine .inr ⟨b, by omega, rfl, h3, fun i hi hi2 => ?_⟩
    by_cases e : i = k
    · rw [e]
      have := linR.anti (at' l b) (at' l k)
      omega
    · exact h4 i (by omega) hi2
theorem BestU.lt {l out : List Ru} {k b : Nat} (h : BestU l out k b) : b < k := by
  rcases h with ⟨h1, h2⟩ | ⟨b', h1, h2, h3, h4⟩ <;> omega
theorem BestU.cases {l out : List Ru} {k : Nat} {best : Int} (h : BestU l out k best) : best = -1 ∨ ∃ b : Nat, best = b ∧ b < k := by
  rcases h with ⟨h1, h2⟩ | ⟨b', h1, h2, h3, h4⟩
  · exact .inl h1
  · exact .inr ⟨b', h2, h1⟩
theorem BestU.done {l out : List Ru} (h : BestU l out l.length (-1)) (hs : SelG ordR l out) : DistG ordR l out := by
  rcases h with ⟨h1, h2⟩ | ⟨b', h1, h2, h3, h4⟩
  · refine hs.done fun c hc => ?_
    obtain ⟨i, hi, rfl⟩ := mem_at hc
    exact h2 i hi
  · omega
theorem BestU.next {l out : List Ru} {b : Nat} (h : BestU l out l.length b) (hs : SelG ordR l out) : SelG ordR l (out ++ [at' l b]) := by
  rcases h with ⟨h1, h2⟩ | ⟨b', h1, h2, h3, h4⟩
  · omega
  · have : b = b' := by omega
    subst this
    refine hs.next linR (at_mem h1) h3 fun c hc hc2 => ?_
    obtain ⟨i, hi, rfl⟩ := mem_at hc
    exact h4 i hi hc2
theorem cand_nil (c : Ru) : Cand [] c := by intro o ho; simp at ho
theorem cand_snoc {t : List Ru} {z c : Ru} (h : AscG ordR (t ++ [z])) : Cand (t ++ [z]) c ↔ ordR z c < 0 := asc_last linR h (by simp)
theorem erase_next {α : Type} {l : List α} {i k : Nat} (h : i < l.length) (d : α) (hne : i ≠ k) : (l.take (i + 1)).eraseIdx k = (l.take i).eraseIdx k ++ [l.getD i d] := by
  have e : l.take (i + 1) = l.take i ++ [l.getD i d] := by
    rw [List.take_add_one, List.getD_eq_getElem?_getD, List.getElem?_eq_getElem h]; rfl
  rw [e]
  have hl : (l.take i).length = i := by rw [List.length_take]; omega
  by_cases hk : k < i
  · rw [List.eraseIdx_append_of_lt_length (by omega)]
  · rw [List.eraseIdx_append_of_length_le (by omega), hl]
    rw [List.eraseIdx_of_length_le (by omega : (l.take i).length ≤ k)]
    congr 1
    rw [List.eraseIdx_of_length_le]
    simp; omega
theorem erase_same {α : Type} {l : List α} {k : Nat} : (l.take (k + 1)).eraseIdx k = (l.take k).eraseIdx k := by
  rw [List.eraseIdx_of_length_le (by rw [List.length_take]; omega : (l.take k).length ≤ k)]
  apply List.ext_getElem?
  intro j
  rw [List.getElem?_eraseIdx]
  by_cases h : j < k
  · rw [if_pos h, List.getElem?_take, List.getElem?_take, if_pos (by omega), if_pos h]
  · rw [if_neg h, List.getElem?_take, List.getElem?_take, if_neg (by omega), if_neg h]
end Go.Proofs.YtioabdfddjmabaaGreat
namespace Go.Proofs.YtioabdfddjmabaaGreat
open Go.RowKit
set_option linter.unusedVariables false
variable {L : Nat}

def WoPost (L : Nat) (l : List Ru) (k : Nat) (w : World) (e : Ending) (w' : World) : Prop := ∃ v os, e = .returned v ∧ OwnM L w' w.heap.size v os ∧ os.map Prod.fst = l.eraseIdx k ∧ Below w.heap.size w w'

/-- what is read of a list of rules -/
theorem rules_read {w : World} {a : Option Addr} {l : List Ru} (hs : LSrc 1 (PRL L) w a l) (h6 : ∀ r ∈ l, r.length = 6) {wr : World} (hB : Below w.heap.size w wr) {i : Nat} (hi : i < l.length) {v : Value} (hv : ∀ q, v.ownBlock = some q → w.heap.size ≤ q) :
    ∃ b o a' cap', a = some ⟨b, o, none⟩ ∧ wr.cell? ⟨b, o + i, none⟩ = some (.slice a' 6 cap') ∧ LSrc 3 PK wr a' (at' l i) ∧ goodN L wr v (at' l i, .slice a' 6 cap') := by
  obtain ⟨b, o, rfl, hl, hp⟩ := hs.at hi []
  have hm : at' l i ∈ l := at_mem hi
  obtain ⟨x, hx, hg⟩ := PR.good (v := v) hp (h6 _ hm) hv
  have hx' := (hB.cell (p := ⟨b, o + i * 1, none⟩) hl).trans hx
  have hg' : goodN L wr v (at' l i, x) := by
    obtain ⟨b2, o2, cap, e, h2, h3, h4, h5⟩ := hg
    exact ⟨b2, o2, cap, e, h2, h3, Nat.lt_of_lt_of_le h4 hB.size, h5.1.below PK.stays h4 hB, h5.2⟩
  rw [Nat.mul_one] at hx'
  have hg2 := hg'
  obtain ⟨b2, o2, cap, e, h2, h3, h4, h5⟩ := hg'
  simp only at e
  subst e
  exact ⟨b, o, _, _, rfl, hx', .inr ⟨b2, o2, rfl, h4, h5.1⟩, hg2⟩

set_option maxRecDepth 100000 in
set_option maxHeartbeats 4000000 in
theorem l3without_any (L : Nat) (l : List Ru) (k : Nat) (a : Option Addr) (cap : Nat) (w : World) (hs : LSrc 1 (PRL L) w a l) (h6 : ∀ r ∈ l, r.length = 6) (hn : l.length ≤ 1000) (hk : k ≤ 1000) :
    Calls Tryz.prog 83 #[.slice a l.length cap, .int .i64 (k : Int)] w fun e w' => WoPost L l k w e w' := by
  obtain ⟨i0, hi, hz0, hz1, hz2⟩ := info_parts infoRuleM
  have HR : Hid (∀ wr v, Below w.heap.size w wr → (∀ q, v.ownBlock = some q → w.heap.size ≤ q) → ∀ i, i < l.length → ∃ b o a' cap', a = some ⟨b, o, none⟩ ∧ wr.cell? ⟨b, o + i, none⟩ = some (.slice a' 6 cap') ∧ LSrc 3 PK wr a' (at' l i) ∧ goodN L wr v (at' l i, .slice a' 6 cap')) := fun wr v hB hv i hi => rules_read hs h6 hB hi hv
  have HE1 : Hid (∀ i, i < l.length → i ≠ k → (l.take (i + 1)).eraseIdx k = (l.take i).eraseIdx k ++ [at' l i]) := fun i hi hne => erase_next hi [] hne
  have HE2 : Hid ((l.take (k + 1)).eraseIdx k = (l.take k).eraseIdx k) := erase_same
  have HEnd : Hid ((l.take l.length).eraseIdx k = l.eraseIdx k) := by show _ = _; rw [List.take_length]
  have HLen : Hid (∀ i, ((l.take i).eraseIdx k).length ≤ l.length) := fun i => Nat.le_trans (List.length_eraseIdx_le _ _) (by rw [List.length_take]; omega)
  clear hs h6
  generalize l.length = n at *
  go_enter Tryz.func83, Tryz.ntmps83
  go_wp2_with fail
  go_loopw [5, 6] (fun s' i wr => ∃ (j : Nat) (s : Value) (os : List (Ru × Value)), j ≤ n ∧ i = .int .i64 j ∧ s = s' ∧ OwnM L wr w.heap.size s os ∧ Hid (os.map Prod.fst = (l.take j).eraseIdx k) ∧ Below w.heap.size w wr) (fun _ i _ => n - (intOf i).toNat)
  case atStart => exact ⟨0, _, [], by omega, rfl, rfl, OwnM.nil _ _, by show _ = _; simp, Below.refl _ _⟩
  case round =>
    obtain ⟨j, s, os, hj, rfl, hss, hO, HM, B⟩ := hrel
    subst hss
    rename World => W0
    by_cases hjn : j < n
    · have hjn' : (j : Int) < (n : Int) := by omega
      by_cases hjk : j = k
      · subst hjk
        have HM2 : Hid (os.map Prod.fst = (l.take (j + 1)).eraseIdx j) := HM.out.trans HE2.out.symm
        have hb : ((j : Int) != (j : Int)) = false := by simp
        clear HR HE1 HE2 HEnd HLen HM
        go_wp2
        go_roundw
        case rel => exact ⟨j + 1, _, os, by omega, by go_num, rfl, hO, HM2, B⟩
        case measure => simp [intOf]; omega
      · obtain ⟨b, o, a', cap', rfl, c0, hs', hg⟩ := HR.out W0 s B (fun q hq => (hO.row.lt q hq).1) j hjn
        have HM2 : Hid ((os ++ [(at' l j, Value.slice a' 6 cap')]).map Prod.fst = (l.take (j + 1)).eraseIdx k) := by
          show _ = _
          rw [List.map_append, HM.out, HE1.out j hjn hjk]; rfl
        have hol : os.length ≤ 1000 := by
          have := HLen.out j
          rw [← HM.out, List.length_map] at this; omega
        have hb : ((j : Int) != (k : Int)) = true := by rw [bne_iff_ne]; omega
        have hsz := B.size
        clear HR HE1 HE2 HEnd HLen HM hs' hjk
        have hbm : os.length + 1 ≤ maxLen := by unfold maxLen; omega
        have hbd : (os.length + 1) * 24 ≤ 140737488355328 := by omega
        have hbs : w.heap.size ≤ (W0.alloc (.cells #[.slice a' 6 cap'] 44)).heap.size := by simp; omega
        go_wp2_with (at_builtin; refine wpList_append_lies _ rfl (.tmp 16) (.tmp 21) 35 rfl (w.heap.size) 44 i0 _ 1 24 Tryz.underlying35 hi hz0 hz1 hz2 rfl (by decide) s os.length (os.map Prod.snd) rfl (hO.row.alloc _) ⟨W0.heap.size, 0, none⟩ 1 1 [.slice a' 6 cap'] rfl rfl (cell_one_new _ _ _) (by intro u hu; simp at hu; subst hu; rfl) (by omega) hbm hbd hbs _ rfl ?_)
        intro g cp w9 ow gr hat _
        have O9 := hO.next hg rfl ow gr hat
        have B9 : Below w.heap.size w w9 := (B.alloc hsz _).grown gr hbs (fun t ht => (hO.row.lt t ht).1)
        clear ow gr hat hO hg B c0 hbm hbd hbs
        go_wp2
        go_roundw
        case rel => exact ⟨j + 1, _, _, by omega, by go_num, rfl, O9, HM2, B9⟩
        case measure => simp [intOf]; omega
    · have hjn' : j = n := by omega
      subst hjn'
      have HP : Hid (WoPost L l k w (.returned s) W0) := ⟨s, os, rfl, hO, HM.out.trans HEnd.out, B⟩
      clear HR HE1 HE2 HEnd HLen HM hO
      go_wp2
      go_ret
      exact HP.out
end Go.Proofs.YtioabdfddjmabaaGreat
namespace Go.Proofs.YtioabdfddjmabaaGreat
open Go.RowKit
set_option linter.unusedVariables false
variable {L : Nat}

def SortPost (L : Nat) (l : List Ru) (w : World) (e : Ending) (w' : World) : Prop := ∃ v os, e = .returned v ∧ OwnM L w' w.heap.size v os ∧ DistG ordR l (os.map Prod.fst) ∧ Below w.heap.size w w'
def lenV : Value → Nat
  | .slice _ n _ => n
  | _ => 0
theorem OwnM.lenV {w : World} {B : Nat} {v : Value} {os : List (Ru × Value)} (h : OwnM L w B v os) : lenV v = os.length := by
  obtain ⟨a, cap, e, _⟩ := h.src
  rw [e]; rfl
theorem OwnM.last {w : World} {B : Nat} {v : Value} {ot : List (Ru × Value)} {p : Ru × Value} (h : OwnM L w B v (ot ++ [p])) : ∃ g cap a c, v = .slice (some ⟨g, 0, none⟩) (ot.length + 1) cap ∧ w.cell? ⟨g, ot.length, none⟩ = some (.slice a 6 c) ∧ LSrc 3 PK w a p.1 := by
  obtain ⟨a, cap, rfl, _, hs⟩ := h.src
  have hl : (ot ++ [p]).length = ot.length + 1 := by simp
  obtain ⟨g, cap', e⟩ : ∃ g cap', Value.slice a (ot ++ [p]).length cap = .slice (some ⟨g, 0, none⟩) (ot.length + 1) cap' := by
    obtain ⟨_, h | ⟨g, cap', cur, e, _⟩⟩ := h.row
    · simp at h
    · exact ⟨g, cap', by rw [e, hl]⟩
  rw [e] at h
  rw [e]
  obtain ⟨b, o, c, h1, h2, h3, h4, h5⟩ := h.el p (by simp)
  have hr := h.row
  rw [hl] at hr
  have c0 := World.ownsRow.cellAt hr ot.length (by omega)
  refine ⟨g, cap', some ⟨b, o, none⟩, c, rfl, ?_, .inr ⟨b, o, rfl, h4, h5.1⟩⟩
  rw [c0, List.getElem?_map]
  simp [h1]

set_option maxRecDepth 100000 in
set_option maxHeartbeats 8000000 in
theorem l3sort_any (L : Nat) (l : List Ru) (a : Option Addr) (cap : Nat) (w : World) (hs : LSrc 1 (PRL L) w a l) (hl : NRs l) (hn : l.length ≤ 1000) :
    Calls Tryz.prog 56 #[.slice a l.length cap] w fun e w' => SortPost L l w e w' := by
  obtain ⟨i0, hi, hz0, hz1, hz2⟩ := info_parts infoRuleM
  have HR : Hid (∀ wr v, Below w.heap.size w wr → (∀ q, v.ownBlock = some q → w.heap.size ≤ q) → ∀ i, i < l.length → ∃ b o a' cap', a = some ⟨b, o, none⟩ ∧ wr.cell? ⟨b, o + i, none⟩ = some (.slice a' 6 cap') ∧ LSrc 3 PK wr a' (at' l i) ∧ goodN L wr v (at' l i, .slice a' 6 cap')) := fun wr v hB hv i hi => rules_read hs (fun r hr => (hl r hr).1) hB hi hv
  have HO : Hid (∀ x y ax ay cx cy w1, LSrc 3 PK w1 ax x → LSrc 3 PK w1 ay y → NR x → NR y → Calls Tryz.prog 81 #[.agg #[.slice ax 6 cx], .agg #[.slice ay 6 cy]] w1 fun e w' => e = .returned (.int .i64 (ordMR x y)) ∧ Below w1.heap.size w1 w') := fun x y ax ay cx cy w1 h1 h2 h3 h4 => l3ruleOrder_any x y ax ay cx cy w1 h1 h2 h3 h4
  have HNR : Hid (∀ i, i < l.length → NR (at' l i)) := fun i hi => hl _ (at_mem hi)
  have HNO : Hid (∀ out, SelG ordR l out → (∀ r ∈ out, NR r) ∧ out.length ≤ l.length) := fun out h => ⟨fun r hr => hl r (h.sub r hr), h.len linR⟩
  have HDone : Hid (∀ out, SelG ordR l out → BestU l out l.length (-1) → DistG ordR l out) := fun out h1 h2 => h2.done h1
  have HNext : Hid (∀ out (b : Nat), SelG ordR l out → BestU l out l.length b → SelG ordR l (out ++ [at' l b])) := fun out b h1 h2 => h2.next h1
  have HS0 : Hid (SelG ordR l []) := SelG.nil l
  clear hs hl
  generalize l.length = n at *
  go_enter Tryz.func56, Tryz.ntmps56
  go_wp2_with fail
  go_loopw [3] (fun s' wr => ∃ (s : Value) (os : List (Ru × Value)), s = s' ∧ OwnM L wr w.heap.size s os ∧ Hid (SelG ordR l (os.map Prod.fst)) ∧ Below w.heap.size w wr) (fun s _ => n + 1 - lenV s)
  case atStart => exact ⟨_, [], rfl, OwnM.nil _ _, HS0, Below.refl _ _⟩
  case round =>
    obtain ⟨s, os, hss, hO, HSel, B⟩ := hrel
    subst hss
    rename World => WA
    have hol : os.length ≤ n := by
      have := (HNO.out _ HSel.out).2
      rw [List.length_map] at this; exact this
    have hlv := hO.lenV
    go_wp2_with fail
    go_loopw [4, 5] (fun bt i wr => ∃ (j : Nat) (best : Int), j ≤ n ∧ i = .int .i64 j ∧ bt = .int .i64 best ∧ Hid (BestU l (os.map Prod.fst) j best) ∧ OwnM L wr w.heap.size s os ∧ Below w.heap.size w wr) (fun _ i _ => n - (intOf i).toNat)
    case atStart => exact ⟨0, -1, by omega, rfl, rfl, BestU.zero _ _, hO, B⟩
    case round =>
      clear hO B
      obtain ⟨j, best, hj, rfl, rfl, HB, O0, B0⟩ := hrel
      rename World => W0
      by_cases hjn : j < n
      · obtain ⟨b, o, a1, c1, rfl, cr0, hs1, _⟩ := HR.out W0 s B0 (fun q hq => (O0.row.lt q hq).1) j hjn
        have hjn' : (j : Int) < (n : Int) := by omega
        clear HDone HNext HS0
        rcases List.eq_nil_or_concat os with hos | ⟨ot, lp, hos⟩
        · subst hos
          have Hnil : ∃ au cu, s = .slice au 0 cu := by
            obtain ⟨au, cu, e, _⟩ := O0.src
            exact ⟨au, cu, e⟩
          obtain ⟨au, cu, rfl⟩ := Hnil
          have HCa : Hid (Cand (([] : List (Ru × Value)).map Prod.fst) (at' l j)) := cand_nil _
          clear HNO
          go_wp2_with fail
          go_quiet (fail)
          have O1 := O0.below (below_drewN (Below.refl _ _) nq)
          have B1 := below_drewN B0 nq
          have KB0 : Below W0.heap.size W0 (W0.drewN nq) := below_drewN (Below.refl _ _) nq
          have cr : (W0.drewN nq).cell? ⟨b, o + j, none⟩ = some (.slice a1 6 c1) := cr0
          clear cr0 O0 B0
          generalize W0.drewN nq = W1 at *
          rcases HB.out.cases with hbest | ⟨bi, hbest, hbi⟩
          · subst hbest
            have HB2 : Hid (BestU l (([] : List (Ru × Value)).map Prod.fst) (j + 1) j) := HB.out.first HCa.out
            clear HB HR HO HNR HSel
            go_wp2_with fail
            go_quiet (fail)
            have O2 := O1.below (below_drewN (Below.refl _ _) nq)
            have B2 := below_drewN B1 nq
            generalize W1.drewN nq = wq at *
            go_wp2
            go_roundw
            case rel => exact ⟨j + 1, j, by omega, by go_num, by go_num, HB2, O2, B2⟩
            case measure => simp [intOf]; omega
          · subst hbest
            obtain ⟨_, _, a2, c2, he, cb, hs2, _⟩ := HR.out W1 (.slice au 0 cu) B1 (fun q hq => (O1.row.lt q hq).1) bi (by omega)
            cases he
            have HL2 : Hid (∀ w1, Below W1.heap.size W1 w1 → Calls Tryz.prog 81 #[.agg #[.slice a1 6 c1], .agg #[.slice a2 6 c2]] w1 fun e w' => e = .returned (.int .i64 (ordMR (at' l j) (at' l bi))) ∧ Below w1.heap.size w1 w') := fun w1 hb => HO.out _ _ _ _ _ _ _ (hs1.below PK.stays (KB0.trans (hb.mono KB0.size))) (hs2.below PK.stays hb) (HNR.out j hjn) (HNR.out bi (by omega))
            have HQ2 : Hid (ordMR (at' l j) (at' l bi) < 0 ↔ ordR (at' l j) (at' l bi) < 0) := (ordMR_sign _ _).2
            have HBy : Hid (ordR (at' l j) (at' l bi) < 0 → BestU l (([] : List (Ru × Value)).map Prod.fst) (j + 1) j) := fun h => HB.out.less HCa.out h
            have HBn : Hid (¬ ordR (at' l j) (at' l bi) < 0 → BestU l (([] : List (Ru × Value)).map Prod.fst) (j + 1) bi) := fun h => HB.out.same h
            generalize ordMR (at' l j) (at' l bi) = Q2 at *
            generalize ordR (at' l j) (at' l bi) = Q2' at *
            have SK2 : Hid (∀ wa wb, Below wa.heap.size wa wb → (Below W1.heap.size W1 wa ∧ wa.cell? ⟨b, o + j, none⟩ = some (.slice a1 6 c1) ∧ wa.cell? ⟨b, o + bi, none⟩ = some (.slice a2 6 c2)) → (Below W1.heap.size W1 wb ∧ wb.cell? ⟨b, o + j, none⟩ = some (.slice a1 6 c1) ∧ wb.cell? ⟨b, o + bi, none⟩ = some (.slice a2 6 c2))) := fun wa wb hb ⟨s0, e1, e2⟩ => ⟨below_step hb s0, cell_step hb e1, cell_step hb e2⟩
            have hS0 := SK2.out W1 W1.drew ((Below.refl _ _).drew) ⟨Below.refl _ _, cr, cb⟩
            have g1 : decide ((bi : Int) < 0) = false := by simp
            have g3 : ¬ (bi : Int) < 0 := by omega
            have hbi1 : (bi : Int) < (n : Int) := by omega
            clear HB HR HO HNR hs2 cb HSel HCa
            go_wp2_with fail
            go_region_held3 (fun w' => Below W1.heap.size W1 w' ∧ w'.cell? ⟨b, o + j, none⟩ = some (.slice a1 6 c1) ∧ w'.cell? ⟨b, o + bi, none⟩ = some (.slice a2 6 c2))
              (assumption)
              (first | (go_at_call 81; refine (HL2.out _ (by with_reducible first | exact hS0.1 | assumption)).mono ?_; rintro _ w9 ⟨rfl, hb9⟩; have hS9 := SK2.out _ _ hb9 (by assumption)))
            all_goals
              obtain ⟨KB, _, _⟩ := hS9
              have O2 := O1.below KB
              have B2 := B1.trans (KB.mono B1.size)
              clear KB hb9 hS0 SK2 HL2 cr O1 B1
              by_cases hq : Q2 < 0
              · have HB2 : Hid (BestU l (([] : List (Ru × Value)).map Prod.fst) (j + 1) j) := HBy.out (HQ2.out.1 hq)
                clear HBy HBn HQ2
                go_wp2
                go_roundw
                case rel => exact ⟨j + 1, j, by omega, by go_num, by go_num, HB2, O2, B2⟩
                case measure => simp [intOf]; omega
              · have HB2 : Hid (BestU l (([] : List (Ru × Value)).map Prod.fst) (j + 1) bi) := HBn.out (by have h2 := HQ2.out; omega)
                clear HBy HBn HQ2
                go_wp2
                go_roundw
                case rel => exact ⟨j + 1, bi, by omega, by go_num, by go_num, HB2, O2, B2⟩
                case measure => simp [intOf]; omega
        · have hos' : os = ot ++ [lp] := by rw [hos]; simp
          subst hos'
          clear hos
          obtain ⟨g, cg, az, cz, rfl, cl0, hsz⟩ := O0.last
          have HNz : Hid (NR lp.1) := (HNO.out _ HSel.out).1 _ (by simp)
          have HL1 : Hid (∀ w1, Below W0.heap.size W0 w1 → Calls Tryz.prog 81 #[.agg #[.slice a1 6 c1], .agg #[.slice az 6 cz]] w1 fun e w' => e = .returned (.int .i64 (ordMR (at' l j) lp.1)) ∧ Below w1.heap.size w1 w') := fun w1 hb => HO.out _ _ _ _ _ _ _ (hs1.below PK.stays hb) (hsz.below PK.stays hb) (HNR.out j hjn) HNz.out
          have HQ1 : Hid (ordMR (at' l j) lp.1 ≤ 0 ↔ ¬ Cand ((ot ++ [lp]).map Prod.fst) (at' l j)) := by
            have e : (ot ++ [lp]).map Prod.fst = ot.map Prod.fst ++ [lp.1] := by simp
            have ha := HSel.out.asc
            rw [e] at ha
            show _ ↔ _
            rw [e, cand_snoc ha]
            have h1 := ordMR_sign (at' l j) lp.1
            have h2 := linR.anti lp.1 (at' l j)
            constructor
            · intro h3 h4
              by_cases h5 : ordMR (at' l j) lp.1 = 0
              · have := h1.1.1 h5; omega
              · have := h1.2.1 (by omega); omega
            · intro h3
              by_cases h5 : ordR (at' l j) lp.1 = 0
              · have := h1.1.2 h5; omega
              · have := h1.2.2 (by omega); omega
          clear hsz HNz HNO
          generalize ordMR (at' l j) lp.1 = Q at *
          obtain ⟨N, hN⟩ : ∃ N, ot.length + 1 = N := ⟨_, rfl⟩
          have hN1 : ot.length = N - 1 := by omega
          rw [hN1] at cl0
          rw [hN] at O0 hlv ⊢
          have hNp : 1 ≤ N := by omega
          have hNp' : (0 : Int) < (N : Int) := by omega
          have hNw : IntKind.i64.wrap ((N : Int) - 1) = (N : Int) - 1 := by rw [IntKind.wrap_i64]; simp at hol; omega
          have hNt : ((N : Int) - 1).toNat = N - 1 := by omega
          have hNq : (1 : Int) ≤ (N : Int) := by omega
          have hNa : (0 : Int) ≤ (N : Int) - 1 := by omega
          have hNb : (N : Int) - 1 < (N : Int) := by omega
          have SK1 : Hid (∀ wa wb, Below wa.heap.size wa wb → (Below W0.heap.size W0 wa ∧ wa.cell? ⟨b, o + j, none⟩ = some (.slice a1 6 c1) ∧ wa.cell? ⟨g, N - 1, none⟩ = some (.slice az 6 cz)) → (Below W0.heap.size W0 wb ∧ wb.cell? ⟨b, o + j, none⟩ = some (.slice a1 6 c1) ∧ wb.cell? ⟨g, N - 1, none⟩ = some (.slice az 6 cz))) := fun wa wb hb ⟨s0, e1, e2⟩ => ⟨below_step hb s0, cell_step hb e1, cell_step hb e2⟩
          have hS0 := SK1.out W0 W0.drew ((Below.refl _ _).drew) ⟨Below.refl _ _, cr0, cl0⟩
          have g1 : decide ((0 : Int) < (N : Int)) = true := by simpa using hNp'
          have g2 : decide (0 < N) = true := by simp; omega
          go_wp2_with fail
          go_region_held3 (fun w' => Below W0.heap.size W0 w' ∧ w'.cell? ⟨b, o + j, none⟩ = some (.slice a1 6 c1) ∧ w'.cell? ⟨g, N - 1, none⟩ = some (.slice az 6 cz))
            (assumption)
            (first | (go_at_call 81; refine (HL1.out _ (by with_reducible first | exact hS0.1 | assumption)).mono ?_; rintro _ w9 ⟨rfl, hb9⟩; have hS9 := SK1.out _ _ hb9 (by assumption)))
          all_goals
            obtain ⟨KB0, cr, _⟩ := hS9
            have O1 := O0.below KB0
            have B1 := B0.trans (KB0.mono B0.size)
            clear hb9 hS0 SK1 HL1 cr0 O0 B0 cl0 hNw hNt hNa hNb
            by_cases hq : Q ≤ 0
            · have HB2 : Hid (BestU l ((ot ++ [lp]).map Prod.fst) (j + 1) best) := HB.out.skip (HQ1.out.1 hq)
              clear HB HQ1 HR HO HNR HSel
              go_wp2
              go_roundw
              case rel => exact ⟨j + 1, best, by omega, by go_num, rfl, HB2, O1, B1⟩
              case measure => simp [intOf]; omega
            · have HCa : Hid (Cand ((ot ++ [lp]).map Prod.fst) (at' l j)) := Classical.byContradiction fun h => hq (HQ1.out.2 h)
              clear HQ1
              rcases HB.out.cases with hbest | ⟨bi, hbest, hbi⟩
              · subst hbest
                have HB2 : Hid (BestU l ((ot ++ [lp]).map Prod.fst) (j + 1) j) := HB.out.first HCa.out
                clear HB HR HO HNR HSel
                go_wp2_with fail
                go_quiet (fail)
                have O2 := O1.below (below_drewN (Below.refl _ _) nq)
                have B2 := below_drewN B1 nq
                generalize w9.drewN nq = wq at *
                go_wp2
                go_roundw
                case rel => exact ⟨j + 1, j, by omega, by go_num, by go_num, HB2, O2, B2⟩
                case measure => simp [intOf]; omega
              · subst hbest
                obtain ⟨_, _, a2, c2, he, cb, hs2, _⟩ := HR.out w9 (.slice (some ⟨g, 0, none⟩) N cg) B1 (fun q hq => (O1.row.lt q hq).1) bi (by omega)
                cases he
                have HL2 : Hid (∀ w1, Below w9.heap.size w9 w1 → Calls Tryz.prog 81 #[.agg #[.slice a1 6 c1], .agg #[.slice a2 6 c2]] w1 fun e w' => e = .returned (.int .i64 (ordMR (at' l j) (at' l bi))) ∧ Below w1.heap.size w1 w') := fun w1 hb => HO.out _ _ _ _ _ _ _ (hs1.below PK.stays (KB0.trans (hb.mono KB0.size))) (hs2.below PK.stays hb) (HNR.out j hjn) (HNR.out bi (by omega))
                have HQ2 : Hid (ordMR (at' l j) (at' l bi) < 0 ↔ ordR (at' l j) (at' l bi) < 0) := (ordMR_sign _ _).2
                have HBy : Hid (ordR (at' l j) (at' l bi) < 0 → BestU l ((ot ++ [lp]).map Prod.fst) (j + 1) j) := fun h => HB.out.less HCa.out h
                have HBn : Hid (¬ ordR (at' l j) (at' l bi) < 0 → BestU l ((ot ++ [lp]).map Prod.fst) (j + 1) bi) := fun h => HB.out.same h
                generalize ordMR (at' l j) (at' l bi) = Q2 at *
                generalize ordR (at' l j) (at' l bi) = Q2' at *
                have SK2 : Hid (∀ wa wb, Below wa.heap.size wa wb → (Below w9.heap.size w9 wa ∧ wa.cell? ⟨b, o + j, none⟩ = some (.slice a1 6 c1) ∧ wa.cell? ⟨b, o + bi, none⟩ = some (.slice a2 6 c2)) → (Below w9.heap.size w9 wb ∧ wb.cell? ⟨b, o + j, none⟩ = some (.slice a1 6 c1) ∧ wb.cell? ⟨b, o + bi, none⟩ = some (.slice a2 6 c2))) := fun wa wb hb ⟨s0, e1, e2⟩ => ⟨below_step hb s0, cell_step hb e1, cell_step hb e2⟩
                have hS0 := SK2.out w9 w9.drew ((Below.refl _ _).drew) ⟨Below.refl _ _, cr, cb⟩
                have g1 : decide ((bi : Int) < 0) = false := by simp
                have g3 : ¬ (bi : Int) < 0 := by omega
                have hbi1 : (bi : Int) < (n : Int) := by omega
                clear HB HR HO HNR hs2 cb HSel HCa
                go_wp2_with fail
                go_region_held3 (fun w' => Below w9.heap.size w9 w' ∧ w'.cell? ⟨b, o + j, none⟩ = some (.slice a1 6 c1) ∧ w'.cell? ⟨b, o + bi, none⟩ = some (.slice a2 6 c2))
                  (assumption)
                  (first | (go_at_call 81; refine (HL2.out _ (by with_reducible first | exact hS0.1 | assumption)).mono ?_; rintro _ w8 ⟨rfl, hb9⟩; have hS9 := SK2.out _ _ hb9 (by assumption)))
                all_goals
                  obtain ⟨KB, _, _⟩ := hS9
                  have O2 := O1.below KB
                  have B2 := B1.trans (KB.mono B1.size)
                  clear KB hb9 hS0 SK2 HL2 cr O1 B1
                  by_cases hq : Q2 < 0
                  · have HB2 : Hid (BestU l ((ot ++ [lp]).map Prod.fst) (j + 1) j) := HBy.out (HQ2.out.1 hq)
                    clear HBy HBn HQ2
                    go_wp2
                    go_roundw
                    case rel => exact ⟨j + 1, j, by omega, by go_num, by go_num, HB2, O2, B2⟩
                    case measure => simp [intOf]; omega
                  · have HB2 : Hid (BestU l ((ot ++ [lp]).map Prod.fst) (j + 1) bi) := HBn.out (by have h2 := HQ2.out; omega)
                    clear HBy HBn HQ2
                    go_wp2
                    go_roundw
                    case rel => exact ⟨j + 1, bi, by omega, by go_num, by go_num, HB2, O2, B2⟩
                    case measure => simp [intOf]; omega
      · have hjn' : j = n := by omega
        subst hjn'
        have hnn : ¬ (j : Int) < (j : Int) := by omega
        rcases HB.out.cases with hbest | ⟨bi, hbest, hbi⟩
        · subst hbest
          have HP : Hid (SortPost L l w (.returned s) W0) := ⟨s, os, rfl, O0, HDone.out _ HSel.out HB.out, B0⟩
          clear HR HO HNR HNO HDone HNext HS0 HB O0 HSel
          go_wp2
          go_ret
          exact HP.out
        · subst hbest
          obtain ⟨b, o, a1, c1, rfl, cr, hs1, hg⟩ := HR.out W0 s B0 (fun q hq => (O0.row.lt q hq).1) bi hbi
          have HSel2 : Hid (SelG ordR l ((os ++ [(at' l bi, Value.slice a1 6 c1)]).map Prod.fst)) := by
            have := HNext.out _ bi HSel.out HB.out
            show SelG _ _ _
            rw [List.map_append]; exact this
          have hol2 : os.length + 1 ≤ j := by
            have := (HNO.out _ HSel2.out).2
            rw [List.length_map, List.length_append] at this; exact this
          have hsz := B0.size
          have hbi' : (bi : Int) < (j : Int) := by omega
          have g3 : ¬ (bi : Int) < 0 := by omega
          clear HR HO HNR HNO HDone HNext HS0 HB HSel hs1
          have hbm : os.length + 1 ≤ maxLen := by unfold maxLen; omega
          have hbd : (os.length + 1) * 24 ≤ 140737488355328 := by omega
          have hbs : w.heap.size ≤ (W0.alloc (.cells #[.slice a1 6 c1] 44)).heap.size := by simp; omega
          go_wp2_with (at_builtin; refine wpList_append_lies _ rfl (.tmp 47) (.tmp 52) 35 rfl (w.heap.size) 44 i0 _ 1 24 Tryz.underlying35 hi hz0 hz1 hz2 rfl (by decide) s os.length (os.map Prod.snd) rfl (O0.row.alloc _) ⟨W0.heap.size, 0, none⟩ 1 1 [.slice a1 6 c1] rfl rfl (cell_one_new _ _ _) (by intro u hu; simp at hu; subst hu; rfl) (by omega) hbm hbd hbs _ rfl ?_)
          intro g cp w9 ow gr hat _
          have O9 := O0.next hg rfl ow gr hat
          have B9 : Below w.heap.size w w9 := (B0.alloc hsz _).grown gr hbs (fun t ht => (O0.row.lt t ht).1)
          clear ow gr hat O0 hg B0 cr hbm hbd hbs
          go_wp2
          go_roundw
          case rel => exact ⟨_, _, rfl, O9, HSel2, B9⟩
          case measure => rw [hlv]; simp only [lenV]; omega
end Go.Proofs.YtioabdfddjmabaaGreat
