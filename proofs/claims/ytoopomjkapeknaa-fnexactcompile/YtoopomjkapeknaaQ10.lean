/-
  Fault, FaultS, AsmC, AsmD
-/
import Derived.Test.YtoopomjkapeknaaQ01
import Derived.Deep.QuietTactic
import Derived.BigQuiet
import Derived.Test.YtoopomjkapeknaaQ09
import Derived.Test.YtoopomjkapeknaaQ04
import Derived.Deep.AppendLies
namespace Go.Proofs.Ytoopomjkapeknaa
open Go.RowKit
set_option linter.unusedVariables false

end Go.Proofs.Ytoopomjkapeknaa
namespace Go.Proofs.Ytoopomjkapeknaa
open Go.RowKit
set_option linter.unusedVariables false

theorem codes_cell (w : World) (k : Nat) (h : k < 39) : (w.alloc (.cells (codesL.map (Value.int .i64)).toArray 3)).cell? ⟨w.heap.size, k, none⟩ = some (.int .i64 (codesL.getD k 0)) := by
  have hl : codesL.length = 39 := rfl
  rw [World.cell?_alloc_at _ _ _ _ rfl]
  simp [List.getElem?_eq_getElem (show k < codesL.length by omega)]

theorem known_hit {c : Int} {k : Nat} (h : k < 39) (e : codesL[k]?.getD 0 = c) : knownB c = true := by
  have hl : k < codesL.length := h
  rw [List.getElem?_eq_getElem hl] at e
  simp only [knownB, List.contains_iff_mem]
  rw [← e]
  exact List.getElem_mem hl
theorem known_end {c : Int} (h : ∀ j, j < 39 → codesL[j]?.getD 0 ≠ c) : knownB c = false := by
  cases hk : knownB c with
  | false => rfl
  | true =>
    have hm : c ∈ codesL := by simpa [knownB] using hk
    obtain ⟨j, hj, e⟩ := List.getElem_of_mem hm
    exact absurd (by rw [List.getElem?_eq_getElem hj]; exact e) (h j hj)

end Go.Proofs.Ytoopomjkapeknaa
namespace Go.Proofs.Ytoopomjkapeknaa
open Go.RowKit
set_option linter.unusedVariables false

theorem okIt0 {c jt jf k tg : Int} : okIt ⟨0, ⟨c, jt, jf, k⟩, tg⟩ = (knownB c && (c != 5) && !tstB c) := rfl
theorem okIt1 {c jt jf k tg : Int} : okIt ⟨1, ⟨c, jt, jf, k⟩, tg⟩ = isTst c := rfl
theorem okIt2 {c jt jf k tg : Int} : okIt ⟨2, ⟨c, jt, jf, k⟩, tg⟩ = isTst c := rfl
theorem okIt_else {kd c jt jf k tg : Int} (h0 : kd ≠ 0) (h1 : kd ≠ 1) (h2 : kd ≠ 2) : okIt ⟨kd, ⟨c, jt, jf, k⟩, tg⟩ = (kd == 3 || kd == 4) := by
  unfold okIt
  simp only
  rw [if_neg h0, if_neg (by omega)]

/-- a mark in memory -/
abbrev Ma := Int × Nat
def PM (w : World) (b o : Nat) (m : Ma) : Prop := w.cell? ⟨b, o, none⟩ = some (.int .i64 m.1) ∧ w.cell? ⟨b, o + 1, none⟩ = some (.int .i64 (m.2 : Int))
theorem PM.stays : Stays PM := fun w w' b o x hlt hb ⟨h0, h1⟩ => ⟨(hb.cell (p := ⟨b, _, none⟩) hlt).trans h0, (hb.cell (p := ⟨b, _, none⟩) hlt).trans h1⟩
def maC (m : Ma) : List Value := [.int .i64 m.1, .int .i64 (m.2 : Int)]
abbrev ownsM (w : World) (B : Nat) (v : Value) (l : List Ma) : Prop := w.ownsRow B 96 2 v l.length (l.flatMap maC)
theorem maC_get (l : List Ma) (i : Nat) (h : i < l.length) : (l.flatMap maC)[i * 2]? = some (.int .i64 l[i].1) ∧ (l.flatMap maC)[i * 2 + 1]? = some (.int .i64 (l[i].2 : Int)) := by
  induction l generalizing i with
  | nil => simp at h
  | cons x p ih =>
    have e : (x :: p).flatMap maC = [.int .i64 x.1, .int .i64 (x.2 : Int)] ++ p.flatMap maC := by simp [maC]
    rw [e]
    match i with
    | 0 => simp
    | i + 1 =>
      have hi : i < p.length := by simpa using h
      have := ih i hi
      rw [List.getElem?_append_right (by simp; omega), List.getElem?_append_right (by simp; omega)]
      simp only [List.length_cons, List.length_nil]
      rw [show (i + 1) * 2 - (0 + 1 + 1) = i * 2 by omega, show (i + 1) * 2 + 1 - (0 + 1 + 1) = i * 2 + 1 by omega]
      simpa using this
theorem ownsM_src {w : World} {B : Nat} {v : Value} {l : List Ma} (h : ownsM w B v l) : ∃ a cap, v = .slice a l.length cap ∧ l.length ≤ cap ∧ LSrc 2 PM w a l := by
  have h0 := h
  obtain ⟨_, ⟨rfl, hl⟩ | ⟨g, cap, cur, rfl, hb, hgc, hn, hm, hs, hx⟩⟩ := h
  · have : l = [] := List.eq_nil_of_length_eq_zero hl
    subst this
    exact ⟨none, 0, rfl, Nat.le_refl _, .inl rfl⟩
  · refine ⟨_, _, rfl, hn, .inr ⟨g, 0, rfl, (Array.getElem?_eq_some_iff.1 hgc).1, fun i hi => ?_⟩⟩
    obtain ⟨c0, c1⟩ := maC_get l i hi
    have key := fun j (hj : j < l.length * 2) => World.ownsRow.cellAt h0 j hj
    rw [Nat.zero_add]
    exact ⟨(key _ (by omega)).trans c0, (key _ (by omega)).trans c1⟩
/-- the last mark of a label -/
def findM (l : List Ma) (t : Int) : Option Nat := match l.reverse.find? (fun m => m.1 == t) with | some m => some m.2 | none => none
theorem findM_nil (t : Int) : findM [] t = none := rfl
theorem findM_snoc (l : List Ma) (m : Ma) (t : Int) : findM (l ++ [m]) t = if t = m.1 then some m.2 else findM l t := by
  unfold findM
  rw [List.reverse_append]
  simp only [List.reverse_cons, List.reverse_nil, List.nil_append, List.singleton_append, List.find?_cons]
  by_cases h : t = m.1
  · subst h; simp
  · rw [if_neg h]
    have : (m.1 == t) = false := by simp; exact fun e => h e.symm
    rw [this]
theorem findM_take {l : List Ma} {k : Nat} (h : k < l.length) (t : Int) : findM (l.take (k + 1)) t = if t = (l.getD k (0, 0)).1 then some (l.getD k (0, 0)).2 else findM (l.take k) t := by
  have e : l.take (k + 1) = l.take k ++ [l.getD k (0, 0)] := by
    rw [List.take_add_one, List.getD_eq_getElem?_getD, List.getElem?_eq_getElem h]; rfl
  rw [e, findM_snoc]
def fdV (o : Option Nat) : Int := match o with | some a => a | none => -1

set_option maxRecDepth 100000 in
set_option maxHeartbeats 2000000 in
theorem l5find_any (l : List Ma) (t : Int) (a : Option Addr) (cap : Nat) (w : World) (hs : LSrc 2 PM w a l) (hn : l.length ≤ 1048576) :
    Calls Try.prog 49 #[.slice a l.length cap, .int .i64 t] w fun e w' => e = .returned (.int .i64 (fdV (findM l t))) ∧ w' = w := by
  have HP : Hid (∀ i, i < l.length → ∃ b o, a = some ⟨b, o, none⟩ ∧ b < w.heap.size ∧ PM w b (o + i * 2) (l.getD i (0, 0))) := fun i hi => hs.at hi (0, 0)
  have HT : Hid (∀ k, k < l.length → findM (l.take (k + 1)) t = if t = (l.getD k (0, 0)).1 then some (l.getD k (0, 0)).2 else findM (l.take k) t) := fun k hk => findM_take hk t
  have H0 : Hid (findM l t = findM (l.take l.length) t) := by show _ = _; rw [List.take_length]
  have HE : Hid (findM (l.take 0) t = none) := rfl
  obtain ⟨F, hF⟩ : ∃ F : Nat → Option Nat, ∀ k, findM (l.take k) t = F k := ⟨_, fun _ => rfl⟩
  simp only [hF] at HT H0 HE
  generalize findM l t = R at *
  clear hs hF
  generalize l.length = n at *
  have hwn : IntKind.i64.wrap ((n : Int) - 1) = (n : Int) - 1 := by rw [IntKind.wrap_i64]; omega
  go_enter Try.func49, Try.ntmps49
  go_wp2_with fail
  go_loop [5] (fun i => ∃ k : Nat, k ≤ n ∧ i = .int .i64 ((k : Int) - 1) ∧ Hid (R = F k)) (fun i => (intOf i + 1).toNat)
  case atStart => exact ⟨n, by omega, by first | rfl | go_num, H0⟩
  case round =>
    obtain ⟨k, hk, rfl, HR⟩ := hrel
    by_cases hk0 : 0 < k
    · obtain ⟨k', rfl⟩ : ∃ k', k = k' + 1 := ⟨k - 1, by omega⟩
      obtain ⟨b, o, rfl, hlt, c0, c1⟩ := HP.out k' (by omega)
      have HTk := HT.out k' (by omega)
      have hk' : ((k' + 1 : Nat) : Int) - 1 = (k' : Int) := by omega
      rw [hk']
      have hkn : (k' : Int) < (n : Int) := by omega
      have hw2 : IntKind.i64.wrap ((k' : Int) - 1) = (k' : Int) - 1 := by rw [IntKind.wrap_i64]; omega
      generalize l.getD k' (0, 0) = m at *
      obtain ⟨ml, mb⟩ := m
      simp only at c0 c1 HTk
      by_cases ht : t = ml
      · have HR2 : Hid (R = some mb) := HR.out.trans (HTk.trans (if_pos ht))
        subst ht
        clear HP HT HTk HR H0 HE
        go_wp2
        go_ret
        exact ⟨by rw [HR2.out]; rfl, rfl⟩
      · have HR2 : Hid (R = F k') := HR.out.trans (HTk.trans (if_neg ht))
        have hb : ((ml : Int) == t) = false := by simp; exact fun e => ht e.symm
        clear HP HT HTk HR H0 HE ht
        go_wp2
        go_round
        case rel => exact ⟨k', by omega, by first | rfl | go_num, HR2⟩
        case measure => simp [intOf]
    · have hk' : k = 0 := by omega
      subst hk'
      have HR2 : Hid (R = none) := HR.out.trans HE.out
      go_wp2
      go_ret
      exact ⟨by rw [HR2.out]; rfl, rfl⟩
end Go.Proofs.Ytoopomjkapeknaa
namespace Go.Proofs.Ytoopomjkapeknaa
open Go.RowKit
set_option linter.unusedVariables false

theorem own_ne {w : World} {B B' t t' s s' n n' : Nat} {v v' : Value} {xs xs' : List Value} (h : w.ownsRow B t s v n xs) (h' : w.ownsRow B' t' s' v' n' xs') (ht : t ≠ t') : v'.ownBlock = none ∨ v'.ownBlock ≠ v.ownBlock := by
  obtain ⟨_, ⟨rfl, _⟩ | ⟨g, cap, cur, rfl, hb, hg, _⟩⟩ := h
  · cases hv : v'.ownBlock with
    | none => exact .inl rfl
    | some q => exact .inr (by simp [Value.ownBlock])
  · obtain ⟨_, ⟨rfl, _⟩ | ⟨g', cap', cur', rfl, hb', hg', _⟩⟩ := h'
    · exact .inl rfl
    · refine .inr fun e => ?_
      have : g' = g := by simpa [Value.ownBlock] using e
      subst this
      rw [hg] at hg'
      simp only [Option.some.injEq, Obj.cells.injEq] at hg'
      exact ht hg'.2.1
theorem own_kept {w w1 : World} {B t s n : Nat} {v : Value} {xs : List Value} (h : w.ownsRow B t s v n xs) (hb : Below w.heap.size w w1) : w1.ownsRow B t s v n xs :=
  World.ownsRow.kept (row := none) h ⟨hb.os, hb.tape, hb.output, hb.size, fun k hk _ => hb.block k hk⟩ (by cases v.ownBlock <;> simp)
theorem infoMark : (Try.prog.info? 96).map (fun i => (i.zero, i.size, i.bytes)) = some (some (.agg #[.int .i64 0, .int .i64 0]), 2, 16) := by kernel_rfl
theorem fdV_neg {o : Option Nat} : fdV o < 0 ↔ o = none := by
  cases o with
  | none => simp [fdV]
  | some a => simp [fdV]

/-- the marks of the model's first look -/
structure OkS (l : List It) (k : Nat) (ms : List Ma) : Prop where
  all : ∀ j, k ≤ j → j < l.length → okIt (l.getD j It.zero) = true
  lay : ∃ st, layI (l.drop k) = some st ∧ ∀ t, findM ms t = none ↔ st.2 t = none
theorem OkS.start (l : List It) : OkS l l.length [] := ⟨fun j h1 h2 => by omega, by rw [List.drop_length]; exact ⟨_, rfl, fun t => by simp [findM]⟩⟩
theorem OkS.label {l : List It} {k : Nat} {ms : List Ma} (h : OkS l (k + 1) ms) (hk : k < l.length) (ho : okIt (l.getD k It.zero) = true) (h4 : (l.getD k It.zero).kind = 4) (hf : findM ms (l.getD k It.zero).target = none) : OkS l k (ms ++ [((l.getD k It.zero).target, 0)]) := by
  obtain ⟨h1, st, h2, h3⟩ := h
  refine ⟨fun j g1 g2 => ?_, ?_⟩
  · by_cases e : j = k
    · rw [e]; exact ho
    · exact h1 j (by omega) g2
  · rw [layI_drop hk, h2]
    simp only [stI]
    rw [if_neg (by omega), (h3 _).1 hf, if_pos h4]
    refine ⟨_, rfl, fun t => ?_⟩
    rw [findM_snoc]
    simp only
    by_cases e : t = (l.getD k It.zero).target
    · rw [if_pos e, if_pos e]; simp
    · rw [if_neg e, if_neg e]; exact h3 t
theorem OkS.twice {l : List It} {k : Nat} {ms : List Ma} (h : OkS l (k + 1) ms) (hk : k < l.length) (h4 : (l.getD k It.zero).kind = 4) (hf : findM ms (l.getD k It.zero).target ≠ none) : layI l = none := by
  obtain ⟨h1, st, h2, h3⟩ := h
  apply layI_part_none (i := k)
  rw [layI_drop hk, h2]
  simp only [stI]
  rw [if_neg (by omega)]
  have : st.2 (l.getD k It.zero).target ≠ none := fun e => hf ((h3 _).2 e)
  cases e : st.2 (l.getD k It.zero).target with
  | none => exact absurd e this
  | some a => simp only; rw [if_pos h4]
theorem OkS.plain {l : List It} {k : Nat} {ms : List Ma} (h : OkS l (k + 1) ms) (hk : k < l.length) (ho : okIt (l.getD k It.zero) = true) (h0 : (l.getD k It.zero).kind = 0) : OkS l k ms := by
  obtain ⟨h1, st, h2, h3⟩ := h
  refine ⟨fun j g1 g2 => ?_, ?_⟩
  · by_cases e : j = k
    · rw [e]; exact ho
    · exact h1 j (by omega) g2
  · rw [layI_drop hk, h2]
    simp only [stI]
    rw [if_pos h0]
    exact ⟨_, rfl, h3⟩
theorem OkS.branch {l : List It} {k : Nat} {ms : List Ma} (h : OkS l (k + 1) ms) (hk : k < l.length) (ho : okIt (l.getD k It.zero) = true) (h0 : (l.getD k It.zero).kind ≠ 0) (h4 : (l.getD k It.zero).kind ≠ 4) (hf : findM ms (l.getD k It.zero).target ≠ none) : OkS l k ms := by
  obtain ⟨h1, st, h2, h3⟩ := h
  refine ⟨fun j g1 g2 => ?_, ?_⟩
  · by_cases e : j = k
    · rw [e]; exact ho
    · exact h1 j (by omega) g2
  · rw [layI_drop hk, h2]
    simp only [stI]
    rw [if_neg h0]
    have : st.2 (l.getD k It.zero).target ≠ none := fun e => hf ((h3 _).2 e)
    cases e : st.2 (l.getD k It.zero).target with
    | none => exact absurd e this
    | some a => simp only; rw [if_neg h4]; exact ⟨_, rfl, h3⟩
theorem OkS.lost {l : List It} {k : Nat} {ms : List Ma} (h : OkS l (k + 1) ms) (hk : k < l.length) (h0 : (l.getD k It.zero).kind ≠ 0) (h4 : (l.getD k It.zero).kind ≠ 4) (hf : findM ms (l.getD k It.zero).target = none) : layI l = none := by
  obtain ⟨h1, st, h2, h3⟩ := h
  apply layI_part_none (i := k)
  rw [layI_drop hk, h2]
  simp only [stI]
  rw [if_neg h0, (h3 _).1 hf]
  simp only
  rw [if_neg h4]
def itemsB (l : List It) : Bool := l.all okIt && (layI l).isSome
theorem itemsB_bad {l : List It} {k : Nat} (hk : k < l.length) (h : okIt (l.getD k It.zero) = false) : itemsB l = false := by
  unfold itemsB
  have : l.all okIt = false := by
    rw [Bool.eq_false_iff]
    intro e
    rw [List.all_eq_true] at e
    have := e (l.getD k It.zero) (by rw [List.getD_eq_getElem?_getD, List.getElem?_eq_getElem hk]; exact List.getElem_mem hk)
    rw [h] at this; cases this
  rw [this]; rfl
theorem itemsB_none {l : List It} (h : layI l = none) : itemsB l = false := by unfold itemsB; rw [h]; simp
theorem OkS.done {l : List It} {ms : List Ma} (h : OkS l 0 ms) : itemsB l = true := by
  obtain ⟨h1, st, h2, _⟩ := h
  unfold itemsB
  rw [List.drop_zero] at h2
  rw [h2]
  simp only [Option.isSome_some, Bool.and_true]
  rw [List.all_eq_true]
  intro x hx
  obtain ⟨i, hi, rfl⟩ := List.getElem_of_mem hx
  have := h1 i (Nat.zero_le _) hi
  rw [List.getD_eq_getElem?_getD, List.getElem?_eq_getElem hi] at this; exact this

end Go.Proofs.Ytoopomjkapeknaa
