/-
  DlgS, DlgT
-/
import Derived.Test.YtjbbiailhpkdeaaDoorQ12
namespace Go.Proofs.YtjbbiailhpkdeaaDoor
open Go.RowKit
set_option linter.unusedVariables false

theorem infoBs : (Tryd.prog.info? 22).map (fun i => (i.zero, i.size, i.bytes)) = some (some (.slice none 0 0), 1, 24) := by kernel_rfl

/-- rows of different types lie in different blocks -/
theorem rows_apart {w : World} {B B' t t' s s' n n' : Nat} {v v' : Value} {xs xs' : List Value} (h : w.ownsRow B t s v n xs) (h' : w.ownsRow B' t' s' v' n' xs') (hne : t ≠ t') : v.ownBlock = none ∨ v.ownBlock ≠ v'.ownBlock := by
  rcases h.2 with ⟨rfl, _⟩ | ⟨g, cap, cur, rfl, _, hg, _⟩
  · exact .inl rfl
  · rcases h'.2 with ⟨rfl, _⟩ | ⟨g', cap', cur', rfl, _, hg', _⟩
    · exact .inr (by simp [Value.ownBlock])
    · refine .inr ?_
      simp only [Value.ownBlock, ne_eq, Option.some.injEq]
      rintro rfl
      rw [hg] at hg'
      simp at hg'
      exact hne hg'.2

/-- the pieces ps, as the slices vs in the row out -/
structure PcsS (w : World) (B : Nat) (out : Value) (vs : List Value) (ps : List (List Int)) : Prop where
  row : w.ownsRow B 22 1 out vs.length vs
  len : vs.length = ps.length
  pcs : ∀ i, i < ps.length → owns w B (vs.getD i undef) (ps.getD i [])
theorem PcsS.kept {w w1 : World} {B : Nat} {out : Value} {vs : List Value} {ps : List (List Int)} {r : Option Nat} (h : PcsS w B out vs ps) (hg : w.grownBy w1 r) (ho : out.ownBlock = none ∨ out.ownBlock ≠ r) (hp : ∀ i, i < ps.length → (vs.getD i undef).ownBlock = none ∨ (vs.getD i undef).ownBlock ≠ r) : PcsS w1 B out vs ps :=
  ⟨World.ownsRow.kept h.row hg ho, h.len, fun i hi => World.ownsRow.kept (h.pcs i hi) hg (hp i hi)⟩
theorem PcsS.below {w w1 : World} {B : Nat} {out : Value} {vs : List Value} {ps : List (List Int)} (h : PcsS w B out vs ps) (hb : Below w.heap.size w w1) : PcsS w1 B out vs ps :=
  h.kept (r := none) ⟨hb.os, hb.tape, hb.output, hb.size, fun k hk _ => hb.block k hk⟩ (by cases out.ownBlock <;> simp) (fun i hi => by cases (vs.getD i undef).ownBlock <;> simp)

/-- and the bytes m of the next one -/
structure CutS (w : World) (B L : Nat) (out one : Value) (vs : List Value) (ps : List (List Int)) (m : List Int) : Prop where
  pc : PcsS w B out vs ps
  lo : ∀ i q, i < ps.length → (vs.getD i undef).ownBlock = some q → q < L
  one : owns w L one m
  le : B ≤ L
  lt : L ≤ w.heap.size

theorem CutS.byte {w w1 : World} {B L : Nat} {out one one' : Value} {vs : List Value} {ps : List (List Int)} {m m' : List Int} {o : Obj} (h : CutS w B L out one vs ps m) (hg : (w.alloc o).grownBy w1 one.ownBlock) (ho : owns w1 L one' m') : CutS w1 B L out one' vs ps m' := by
  have h1 : PcsS (w.alloc o) B out vs ps := h.pc.kept (World.grownBy_alloc w o none) (by cases out.ownBlock <;> simp) (fun i hi => by cases (vs.getD i undef).ownBlock <;> simp)
  refine ⟨h1.kept hg (rows_apart h.pc.row h.one (by decide)) (fun i hi => ?_), h.lo, ho, h.le, ?_⟩
  · cases hq : (vs.getD i undef).ownBlock with
    | none => exact .inl rfl
    | some q =>
      refine .inr fun e => ?_
      have h2 := h.lo i q hi hq
      have h3 := (h.one.lt q e.symm).1
      omega
  · have := hg.size
    have h2 := h.lt
    simp at this
    omega
theorem CutS.piece {w w1 : World} {B L : Nat} {out one out' : Value} {vs : List Value} {ps : List (List Int)} {m : List Int} {o : Obj} (h : CutS w B L out one vs ps m) (hg : (w.alloc o).grownBy w1 out.ownBlock) (ho : w1.ownsRow B 22 1 out' (vs.length + 1) (vs ++ [one])) : CutS w1 B w1.heap.size out' (.slice none 0 0) (vs ++ [one]) (ps ++ [m]) [] := by
  have hl := h.pc.len
  have ha : ∀ (i : Nat), (vs ++ [one]).getD i undef = if i < vs.length then vs.getD i undef else if i = vs.length then one else undef := fun i => by
    simp only [List.getD_eq_getElem?_getD]
    by_cases h1 : i < vs.length
    · rw [if_pos h1, List.getElem?_append_left h1]
    · rw [if_neg h1, List.getElem?_append_right (by omega)]
      by_cases h2 : i = vs.length
      · subst h2; simp
      · rw [if_neg h2, List.getElem?_eq_none (by simp; omega)]; rfl
  have hb : ∀ (i : Nat), (ps ++ [m]).getD i [] = if i < ps.length then ps.getD i [] else if i = ps.length then m else [] := fun i => by
    simp only [List.getD_eq_getElem?_getD]
    by_cases h1 : i < ps.length
    · rw [if_pos h1, List.getElem?_append_left h1]
    · rw [if_neg h1, List.getElem?_append_right (by omega)]
      by_cases h2 : i = ps.length
      · subst h2; simp
      · rw [if_neg h2, List.getElem?_eq_none (by simp; omega)]; rfl
  have hP : ∀ i, i < (ps ++ [m]).length → owns w1 B ((vs ++ [one]).getD i undef) ((ps ++ [m]).getD i []) := fun i hi => by
    simp at hi
    rw [ha, hb, hl]
    by_cases h1 : i < ps.length
    · rw [if_pos h1, if_pos h1]
      exact World.ownsRow.kept (World.ownsRow.alloc (h.pc.pcs i h1) o) hg (rows_apart (h.pc.pcs i h1) h.pc.row (by decide))
    · have e : i = ps.length := by omega
      rw [if_neg h1, if_neg h1, if_pos e, if_pos e]
      have h2 : owns w B one m := ⟨h.one.1, h.one.2.imp id fun ⟨g, cap, cur, q1, q2, q3⟩ => ⟨g, cap, cur, q1, Nat.le_trans h.le q2, q3⟩⟩
      exact World.ownsRow.kept (World.ownsRow.alloc h2 o) hg (rows_apart h2 h.pc.row (by decide))
  refine ⟨⟨by simpa using ho, by simp [hl], hP⟩, fun i q hi hq => ((hP i hi).lt q hq).2, ⟨rfl, .inl ⟨rfl, rfl⟩⟩, ?_, Nat.le_refl _⟩
  have := hg.size
  have h2 := h.lt
  have h3 := h.le
  simp at this
  omega
end Go.Proofs.YtjbbiailhpkdeaaDoor
namespace Go.Proofs.YtjbbiailhpkdeaaDoor
open Go.RowKit
set_option linter.unusedVariables false

def CutPost (l : List Int) (w : World) (e : Ending) (w' : World) : Prop :=
  ∃ out vs, e = .returned (.tuple #[out, .bool (decide ((cutF [] l).2 = []))]) ∧ PcsS w' w.heap.size out vs (cutF [] l).1 ∧ Below w.heap.size w w'

theorem cut_step {l m : List Int} {k : Nat} (h : k < l.length) : cutF m (l.drop k) = if l.getD k 0 < 128 then ((m ++ [l.getD k 0]) :: (cutF [] (l.drop (k + 1))).1, (cutF [] (l.drop (k + 1))).2) else cutF (m ++ [l.getD k 0]) (l.drop (k + 1)) := by
  rw [List.drop_eq_getElem_cons h, cutF, List.getD_eq_getElem?_getD, List.getElem?_eq_getElem h]; rfl

set_option maxRecDepth 100000 in
set_option maxHeartbeats 1000000 in
theorem l2cut_any (b o cap : Nat) (l : List Int) (w : World) (hp : BytesAt w b o l) (hb : b < w.heap.size) (hB : isBytes l) (hn : l.length ≤ 1048576) :
    Calls Tryd.prog 48 #[.slice (some ⟨b, o, none⟩) l.length cap] w fun e w' => CutPost l w e w' := by
  obtain ⟨i0, hi, hz0, hz1, hz2⟩ := info_parts info5
  obtain ⟨j0, hj, hy0, hy1, hy2⟩ := info_parts infoBs
  have HG : Hid (∀ wr, Below w.heap.size w wr → ∀ k, k < l.length → wr.cell? ⟨b, o + k, none⟩ = some (.int .u8 (l.getD k 0)) ∧ 0 ≤ l.getD k 0 ∧ l.getD k 0 ≤ 255) := fun wr h k hk => ⟨by rw [h.cell hb]; exact hp k hk, isBytes_getD hB k⟩
  have HE : Hid (∀ m, cutF m (l.drop l.length) = ([], m)) := fun m => by rw [List.drop_length]; rfl
  have HS : Hid (∀ m k, k < l.length → cutF m (l.drop k) = if l.getD k 0 < 128 then ((m ++ [l.getD k 0]) :: (cutF [] (l.drop (k + 1))).1, (cutF [] (l.drop (k + 1))).2) else cutF (m ++ [l.getD k 0]) (l.drop (k + 1))) := fun m k hk => cut_step hk
  have HP : Hid (∀ ps m out vs w', cutF [] l = (ps, m) → PcsS w' w.heap.size out vs ps → Below w.heap.size w w' → CutPost l w (.returned (.tuple #[out, .bool (decide (m = []))])) w') := fun ps m out vs w' h1 h2 h3 => ⟨out, vs, by rw [h1], by rw [h1]; exact h2, h3⟩
  have HD : Hid (l.drop 0 = l) := rfl
  have H0 : CutS w w.heap.size w.heap.size (.slice none 0 0) (.slice none 0 0) [] [] [] := ⟨⟨⟨rfl, .inl ⟨rfl, rfl⟩⟩, rfl, fun i hi => by simp at hi⟩, fun i q hi => by simp at hi, ⟨rfl, .inl ⟨rfl, rfl⟩⟩, Nat.le_refl _, Nat.le_refl _⟩
  obtain ⟨n, hn'⟩ : ∃ n, l.length = n := ⟨_, rfl⟩
  rw [hn'] at HG HS HE hn ⊢
  clear hp hB hn'
  go_enter Tryd.func48, Tryd.ntmps48
  go_wp2_with fail
  go_loopw [4, 5, 6] (fun s t i wr => ∃ (out one : Value) (k L : Nat) (vs : List Value) (ps : List (List Int)) (m : List Int), out = s ∧ one = t ∧ k ≤ n ∧ i = .int .i64 (k : Int) ∧ CutS wr w.heap.size L out one vs ps m ∧ Below w.heap.size w wr ∧ Hid (cutF [] l = (ps ++ (cutF m (l.drop k)).1, (cutF m (l.drop k)).2)) ∧ Hid (vs.length ≤ k) ∧ Hid (m.length ≤ k)) (fun _ _ i _ => n - (intOf i).toNat)
  case atStart => exact ⟨_, _, 0, w.heap.size, [], [], [], rfl, rfl, Nat.zero_le _, rfl, H0, Below.refl _ _, by unfold Hid; rw [HD.out]; simp, by unfold Hid; simp, by unfold Hid; simp⟩
  case round =>
    obtain ⟨out, one, k, L, vs, ps, m, rfl, rfl, hk, rfl, hC, hBe, hQ, hv, hm⟩ := hrel
    clear H0 HD
    by_cases hlt : k < n
    · obtain ⟨hc, x0, x1⟩ := HG.out _ hBe k hlt
      have hc2 : Hid (∀ W, Below w.heap.size w W → W.cell? ⟨b, o + k, none⟩ = some (.int .u8 (l.getD k 0))) := fun W h => (HG.out W h k hlt).1
      have hs : Hid _ := HS.out m k hlt
      clear HG HS HE HP
      generalize l.getD k 0 = x at *
      have hml : m.length ≤ 1048576 := Nat.le_trans hm.out (by omega)
      have hvl : vs.length ≤ 1048576 := Nat.le_trans hv.out (by omega)
      have hL := hC.lt
      go_wp2_with (at_builtin; refine wpList_append_own _ rfl (.tmp 13) (.tmp 18) 22 rfl L 5 i0 (.int .u8 0) 1 1 Tryd.underlying22 hi hz0 hz1 hz2 rfl (by decide) _ _ _ rfl (hC.one.alloc _) ⟨wr.heap.size, 0, none⟩ 1 1 [.int .u8 x] rfl rfl (cell_one_new _ _ _) (bytes_oneCell [x]) ?c3 ?c4 ?c5 ?_)
      case c3 => unfold maxLen; omega
      case c4 => omega
      case c5 => first | omega | (simp; omega)
      intro v1 w1 hown1 hgrow1 _
      have ho1 : owns w1 L v1 (m ++ [x]) := owns_app (m := [x]) rfl hown1
      have hB1 : Below w.heap.size w w1 := (hBe.alloc hBe.size _).grown hgrow1 (by have := hBe.size; simp; omega) (fun q hq => Nat.le_trans hC.le (hC.one.lt q hq).1)
      have hC1 := hC.byte hgrow1 ho1
      have hcx := hc2.out _ hB1
      clear hown1 hgrow1 hc2 hC hBe ho1 hc
      by_cases hx : x < 128
      · have hcut := hs.out
        rw [if_pos hx] at hcut
        have hQ1 : Hid (cutF [] l = ((ps ++ [m ++ [x]]) ++ (cutF [] (l.drop (k + 1))).1, (cutF [] (l.drop (k + 1))).2)) := by
          have := hQ.out
          rw [hcut] at this
          unfold Hid
          rw [this]; simp
        clear hcut hs hQ
        obtain ⟨a1, cp1, e1, _⟩ := owns_src hC1.one
        obtain ⟨a2, cp2, e2⟩ : ∃ a c, out = .slice a vs.length c := by
          rcases hC1.pc.row.2 with ⟨h1, h2⟩ | ⟨g, cap, cur, h1, _⟩
          · exact ⟨none, 0, by rw [h1, h2]⟩
          · exact ⟨_, _, h1⟩
        have hL1 := hC1.lt
        generalize (m ++ [x]).length = mq at e1
        subst e1 e2
        go_wp2_with (at_builtin; refine wpList_append_own _ rfl (.tmp 25) (.tmp 27) 72 rfl w.heap.size 22 j0 (.slice none 0 0) 1 24 Tryd.underlying72 hj hy0 hy1 hy2 rfl (by decide) _ _ _ rfl (hC1.pc.row.alloc _) ⟨w1.heap.size, 0, none⟩ 1 1 [.slice a1 mq cp1] rfl rfl (cell_one_new _ _ _) ?c2 ?c3 ?c4 ?c5 ?_)
        case c2 => simp [Value.oneCell']
        case c3 => unfold maxLen; omega
        case c4 => omega
        case c5 => have := hB1.size; simp; omega
        intro v2 w2 hown2 hgrow2 _
        have hC2 := hC1.piece hgrow2 hown2
        have hB2 : Below w.heap.size w w2 := (hB1.alloc hB1.size _).grown hgrow2 (by have := hB1.size; simp; omega) (fun q hq => (hC1.pc.row.lt q hq).1)
        have hv2 : Hid ((vs ++ [Value.slice a1 mq cp1]).length ≤ k + 1) := by have := hv.out; unfold Hid; simp; omega
        clear hown2 hgrow2 hC1 hB1
        go_wp2
        go_roundw
        case rel => exact ⟨_, _, k + 1, _, vs ++ [.slice a1 mq cp1], ps ++ [m ++ [x]], [], rfl, rfl, by omega, by go_num, hC2, hB2, hQ1, hv2, Nat.zero_le _⟩
        case measure => simp [intOf]; omega
      · have hcut := hs.out
        rw [if_neg hx] at hcut
        have hQ1 : Hid (cutF [] l = (ps ++ (cutF (m ++ [x]) (l.drop (k + 1))).1, (cutF (m ++ [x]) (l.drop (k + 1))).2)) := by
          have := hQ.out
          rw [hcut] at this
          exact this
        have hm2 : Hid ((m ++ [x]).length ≤ k + 1) := by have := hm.out; unfold Hid; simp; omega
        have hv2 : Hid (vs.length ≤ k + 1) := by have := hv.out; unfold Hid; omega
        clear hcut hs hQ hm hv
        go_wp2
        go_roundw
        case rel => exact ⟨_, _, k + 1, _, vs, ps, m ++ [x], rfl, rfl, by omega, by go_num, hC1, hB1, hQ1, hv2, hm2⟩
        case measure => simp [intOf]; omega
    · obtain rfl : k = n := by omega
      have hq := hQ.out
      rw [HE.out] at hq
      simp only [List.append_nil] at hq
      obtain ⟨a1, cp1, e1, _⟩ := owns_src hC.one
      have HF : Hid (CutPost l w (.returned (.tuple #[out, .bool (decide (m = []))])) wr) := HP.out ps m out vs wr hq hC.pc hBe
      have hd : decide (m = []) = decide ((m.length : Int) = 0) := by
        rw [Bool.eq_iff_iff, decide_eq_true_eq, decide_eq_true_eq, ← List.length_eq_zero_iff]; omega
      rw [hd] at HF
      subst e1
      clear hq hQ HE HP HG HS hd hC
      generalize m.length = mm at *
      go_wp2
      go_ret2
      exact HF.out
end Go.Proofs.YtjbbiailhpkdeaaDoor
