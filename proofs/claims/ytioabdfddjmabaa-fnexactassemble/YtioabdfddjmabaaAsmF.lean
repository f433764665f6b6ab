/-
  CONTRACTS of the model's Assemble, last part.
-/
import Derived.Test.YtioabdfddjmabaaAsmE
import Derived.Deep.Onto
namespace Go.Proofs.Ytioabdfddjmabaa
open Go.RowKit
set_option linter.unusedVariables false

theorem rev_step {p : List I} {k : Nat} (h : k < p.length) : (p.drop k).reverse = (p.drop (k + 1)).reverse ++ [p.getD k I.zero] := by
  rw [List.drop_eq_getElem_cons h, List.reverse_cons, List.getD_eq_getElem?_getD, List.getElem?_eq_getElem h]; rfl
theorem Src.at {w : World} {a : Option Addr} {p : List I} (h : Src w a p) {i : Nat} (hi : i < p.length) : ∃ b o, a = some ⟨b, o, none⟩ ∧ b < w.heap.size ∧ w.cell? ⟨b, o + i * 4, none⟩ = some (.int .u16 (p.getD i I.zero).c) ∧ w.cell? ⟨b, o + i * 4 + 1, none⟩ = some (.int .u8 (p.getD i I.zero).jt) ∧ w.cell? ⟨b, o + i * 4 + 2, none⟩ = some (.int .u8 (p.getD i I.zero).jf) ∧ w.cell? ⟨b, o + i * 4 + 3, none⟩ = some (.int .u32 (p.getD i I.zero).k) := by
  rcases h with rfl | ⟨b, o, rfl, hb, hp⟩
  · simp at hi
  · exact ⟨b, o, rfl, hb, hp i hi⟩
def LayPost (l : List It) (w : World) (e : Ending) (w' : World) : Prop := ∃ v, e = .returned (.tuple #[v, .int .i64 (layC l)]) ∧ ownsI w' w.heap.size v (layL l) ∧ Below w.heap.size w w'

set_option maxRecDepth 100000 in
set_option maxHeartbeats 4000000 in
theorem l5lay_any (l : List It) (a : Option Addr) (cap : Nat) (w : World) (s0 : List I × Mk) (hs : TSrc w a l) (ho : ∀ x ∈ l, x.ok) (hl : layI l = some s0) (hn : l.length ≤ 1000000) :
    Calls Try.prog 14 #[.slice a l.length cap] w fun e w' => LayPost l w e w' := by
  obtain ⟨i1, hi1, hy0, hy1, hy2⟩ := info_parts info36
  have HL : Hid (Calls Try.prog 24 #[.slice a l.length cap] w fun e w' => LaidPost l w e w') := l5laid_any l a cap w s0 hs ho hl hn
  have HBig : Hid (∀ k ms st, LdS l k ms st → 4096 < st.1.length → layC l = 10 ∧ layL l = []) := fun k ms st h h4 => by
    obtain ⟨t, h1, h2⟩ := layI_part hl k
    rw [h.lay] at h1
    cases h1
    exact lay_big hl (by omega)
  have HOk : Hid (∀ ms st, LdS l 0 ms st → ¬ 4096 < st.1.length → layC l = 0 ∧ layL l = st.1.reverse) := fun ms st h h4 => by
    have h1 := h.lay
    rw [List.drop_zero] at h1
    exact lay_ok h1 (by omega)
  have HPo : Hid (∀ v w', ownsI w' w.heap.size v (layL l) → Below w.heap.size w w' → LayPost l w (.returned (.tuple #[v, .int .i64 (layC l)])) w') := fun v w' h1 h2 => ⟨v, rfl, h1, h2⟩
  clear hs ho hl s0
  generalize l.length = n at *
  go_enter Try.func14, Try.ntmps14
  go_wp2_with fail
  refine (HL.out).mono ?_
  rintro _ w1 ⟨v, k, ms, st, rfl, hO, hLd, hk, hb1⟩
  obtain ⟨al, cl, rfl, hsr⟩ := ownsI_src hO
  by_cases h4 : 4096 < st.1.length
  · obtain ⟨e1, e2⟩ := HBig.out k ms st hLd h4
    rw [e1, e2] at HPo
    have HPv : Hid (LayPost l w (.returned (.tuple #[.slice none 0 0, .int .i64 10])) w1) := HPo.out _ w1 (World.ownsRow_nil _ _ _ _) hb1
    have h4' : (4096 : Int) < (st.1.length : Int) := by omega
    clear HBig HOk HPo HL hO hLd hsr hk e1 e2
    generalize st.1.length = ln at *
    go_wp2
    exact bodyPost_ret (v := .tuple #[.slice none 0 0, .int .i64 10]) (by simp [results, Try.results14, go_sem]) rfl HPv.out
  · have hk0 : k = 0 := by omega
    subst hk0
    obtain ⟨e1, e2⟩ := HOk.out ms st hLd h4
    rw [e1, e2] at HPo
    have h4' : ¬ (4096 : Int) < (st.1.length : Int) := by omega
    have hl4 : st.1.length ≤ 4096 := by omega
    clear HBig HOk HL hO hLd hk e1 e2 h4
    generalize st.1 = p at *
    have HR : Hid (∀ k, k < p.length → (p.drop k).reverse = (p.drop (k + 1)).reverse ++ [p.getD k I.zero]) := fun k hk => rev_step hk
    have HR0 : Hid ((p.drop 0).reverse = p.reverse) := rfl
    have HRn : Hid ((p.drop p.length).reverse = []) := by show _ = _; rw [List.drop_length]; rfl
    have HRl : Hid (∀ k, (p.drop k).reverse.length = p.length - k) := fun k => by rw [List.length_reverse, List.length_drop]
    have HS : Hid (∀ wr, Below w1.heap.size w1 wr → ∀ i, i < p.length → ∃ b o, al = some ⟨b, o, none⟩ ∧ b < wr.heap.size ∧ wr.cell? ⟨b, o + i * 4, none⟩ = some (.int .u16 (p.getD i I.zero).c) ∧ wr.cell? ⟨b, o + i * 4 + 1, none⟩ = some (.int .u8 (p.getD i I.zero).jt) ∧ wr.cell? ⟨b, o + i * 4 + 2, none⟩ = some (.int .u8 (p.getD i I.zero).jf) ∧ wr.cell? ⟨b, o + i * 4 + 3, none⟩ = some (.int .u32 (p.getD i I.zero).k)) := fun wr hb i hi => (hsr.below hb).at hi
    clear hsr
    obtain ⟨pr, hpr⟩ : ∃ pr : Nat → List I, ∀ k, (p.drop k).reverse = pr k := ⟨_, fun _ => rfl⟩
    simp only [hpr] at HR HR0 HRn HRl
    generalize p.reverse = prev at *
    generalize hpl : p.length = pn at *
    clear hpl hpr
    have hwn : IntKind.i64.wrap ((pn : Int) - 1) = (pn : Int) - 1 := by rw [IntKind.wrap_i64]; omega
    go_wp2_with fail
    go_loopw [5, 6] (fun so' i wr => ∃ (k : Nat) (so : Value), k ≤ pn ∧ i = .int .i64 ((k : Int) - 1) ∧ so = so' ∧ ownsI wr w1.heap.size so (pr k) ∧ Below w1.heap.size w1 wr) (fun _ i _ => (intOf i + 1).toNat)
    case atStart => exact ⟨pn, _, by omega, by first | rfl | go_num, rfl, by rw [HRn.out]; exact World.ownsRow_nil _ _ _ _, Below.refl _ _⟩
    case round =>
      obtain ⟨k, so, hk, rfl, hss, hOI, B⟩ := hrel
      subst hss
      rename World => W0
      by_cases hk0 : 0 < k
      · obtain ⟨k', rfl⟩ : ∃ k', k = k' + 1 := ⟨k - 1, by omega⟩
        have hk' : ((k' + 1 : Nat) : Int) - 1 = (k' : Int) := by omega
        rw [hk']
        have hkn : (k' : Int) < (pn : Int) := by omega
        have hkN : k' < pn := by omega
        have hw2 : IntKind.i64.wrap ((k' : Int) - 1) = (k' : Int) - 1 := by rw [IntKind.wrap_i64]; omega
        obtain ⟨b, o, rfl, hlt, c0, c1, c2, c3⟩ := HS.out W0 B k' hkN
        have HRk : Hid (pr k' = pr (k' + 1) ++ [p.getD k' I.zero]) := HR.out k' hkN
        have hrl := HRl.out (k' + 1)
        generalize p.getD k' I.zero = x at *
        obtain ⟨c, jt, jf, ik⟩ := x
        simp only at c0 c1 c2 c3
        have hsz := B.size
        have hbs : w1.heap.size ≤ (W0.alloc (.cells #[.int .u16 c, .int .u8 jt, .int .u8 jf, .int .u32 ik] 38)).heap.size := by simp; omega
        have hbm : (pr (k' + 1)).length + 1 ≤ maxLen := by unfold maxLen; omega
        have hbd : ((pr (k' + 1)).length + 1) * 8 ≤ 140737488355328 := by omega
        clear HR HR0 HRn HRl HS HPo
        go_wp2_with (at_builtin; refine wpList_append_own _ rfl (.tmp 19) (.tmp 24) 24 rfl (w1.heap.size) 38 i1 _ 4 8 Try.underlying24 hi1 hy0 hy1 hy2 rfl (by decide) so (pr (k' + 1)).length (insCells (pr (k' + 1))) rfl (World.ownsRow.alloc hOI _) ⟨W0.heap.size, 0, none⟩ 1 1 [.int .u16 c, .int .u8 jt, .int .u8 jf, .int .u32 ik] rfl rfl (news_at (by simp)) (by simp [Value.oneCell']) hbm hbd hbs ?_)
        intro v9 w9 ow gr _
        have p9 : ownsI w9 w1.heap.size v9 (pr (k' + 1) ++ [⟨c, jt, jf, ik⟩]) := ownsI_snoc (by omega) ow
        have B9 : Below w1.heap.size w1 w9 := (B.alloc hsz _).grown gr hbs (fun t ht => (World.ownsRow.lt hOI t ht).1)
        rw [← HRk.out] at p9
        clear ow gr hOI B c0 c1 c2 c3 hbm hbd hbs
        go_wp2
        go_roundw
        case rel => exact ⟨k', _, by omega, by first | rfl | go_num, rfl, p9, B9⟩
        case measure => simp [intOf]
      · have hk' : k = 0 := by omega
        subst hk'
        rw [HR0.out] at hOI
        have HPv : Hid (LayPost l w (.returned (.tuple #[so, .int .i64 0])) W0) := HPo.out so W0 (World.ownsRow.mono hOI hb1.size) (hb1.trans (B.mono hb1.size))
        clear HR HR0 HRn HRl HS HPo hOI
        go_wp2
        exact bodyPost_ret (v := .tuple #[so, .int .i64 0]) (by simp [results, Try.results14, go_sem]) rfl HPv.out

def AsmPost (l : List It) (w : World) (e : Ending) (w' : World) : Prop := ∃ v, e = .returned (.tuple #[v, .int .i64 (asmC l)]) ∧ ownsI w' w.heap.size v (asmL l) ∧ Below w.heap.size w w'
theorem asm_bad {l : List It} (h : itemsB l = false) : asmC l = 1 ∧ asmL l = [] := by
  cases e : asmOK l with
  | false => exact asm_no e
  | true =>
    have hn : layI l = none := by
      unfold itemsB at h
      unfold asmOK at e
      simp only [Bool.and_eq_true] at e
      rw [e.2] at h
      simpa using h
    rw [(asm_yes e).1, (asm_yes e).2]
    exact lay_none hn
theorem asm_good {l : List It} (h : itemsB l = true) (hn : l.length ≤ 20000) : (∃ s, layI l = some s) ∧ asmC l = layC l ∧ asmL l = layL l := by
  unfold itemsB at h
  simp only [Bool.and_eq_true] at h
  have : asmOK l = true := by unfold asmOK; simp [hn, h.1]
  exact ⟨Option.isSome_iff_exists.1 h.2, asm_yes this⟩
theorem asm_long {l : List It} (hn : 20000 < l.length) : asmC l = 1 ∧ asmL l = [] := asm_no (by unfold asmOK; have : ¬ l.length ≤ 20000 := by omega
                                                                                                simp [this])

set_option maxRecDepth 100000 in
set_option maxHeartbeats 4000000 in
theorem specAsm_any (l : List It) (a : Option Addr) (cap : Nat) (w : World) (hs : TSrc w a l) (ho : ∀ x ∈ l, x.ok) (hn : l.length ≤ 1048576) :
    Calls Try.prog 5 #[.slice a l.length cap] w fun e w' => AsmPost l w e w' := by
  by_cases hl : 20000 < l.length
  · have HPv : Hid (AsmPost l w (.returned (.tuple #[.slice none 0 0, .int .i64 1])) w) := by
      obtain ⟨e1, e2⟩ := asm_long hl
      exact ⟨_, by rw [e1], by rw [e2]; exact World.ownsRow_nil _ _ _ _, Below.refl _ _⟩
    have hl' : (20000 : Int) < (l.length : Int) := by omega
    clear hs ho
    generalize l.length = n at *
    go_enter Try.func5, Try.ntmps5
    go_wp2
    exact bodyPost_ret (v := .tuple #[.slice none 0 0, .int .i64 1]) (by simp [results, Try.results5, go_sem]) rfl HPv.out
  · have HI : Hid (Calls Try.prog 13 #[.slice a l.length cap] w fun e w' => e = .returned (.bool (itemsB l)) ∧ Below w.heap.size w w') := l5itemsOK_any l a cap w hs ho (by omega)
    have HN : Hid (itemsB l = false → ∀ w', Below w.heap.size w w' → AsmPost l w (.returned (.tuple #[.slice none 0 0, .int .i64 1])) w') := fun h w' hb => by
      obtain ⟨e1, e2⟩ := asm_bad h
      exact ⟨_, by rw [e1], by rw [e2]; exact World.ownsRow_nil _ _ _ _, hb⟩
    have HY : Hid (itemsB l = true → ∀ w1, Below w.heap.size w w1 → Calls Try.prog 14 #[.slice a l.length cap] w1 fun e w' => ∃ v c, e = .returned (.tuple #[v, c]) ∧ AsmPost l w (.returned (.tuple #[v, c])) w') := fun h w1 hb => by
      obtain ⟨⟨s, hs1⟩, e1, e2⟩ := asm_good h (by omega)
      refine (l5lay_any l a cap w1 s (hs.below PI.stays hb) ho hs1 (by omega)).mono ?_
      rintro e w' ⟨v, rfl, h1, h2⟩
      exact ⟨v, _, rfl, v, by rw [e1], by rw [e2]; exact World.ownsRow.mono h1 hb.size, hb.trans (h2.mono hb.size)⟩
    have hl' : ¬ (20000 : Int) < (l.length : Int) := by omega
    clear hs ho hl
    generalize itemsB l = V at *
    generalize l.length = n at *
    go_enter Try.func5, Try.ntmps5
    go_wp2_with fail
    refine (HI.out).mono ?_
    rintro _ w1 ⟨rfl, hb1⟩
    cases V with
    | false =>
      have HPv : Hid _ := HN.out (by first | rfl | trivial) w1 hb1
      clear HN HY HI
      go_wp2
      exact bodyPost_ret (v := .tuple #[.slice none 0 0, .int .i64 1]) (by simp [results, Try.results5, go_sem]) rfl HPv.out
    | true =>
      have HY2 : Hid (Calls Try.prog 14 #[.slice a n cap] w1 fun e w' => ∃ v c, e = .returned (.tuple #[v, c]) ∧ AsmPost l w (.returned (.tuple #[v, c])) w') := HY.out (by first | rfl | trivial) w1 hb1
      clear HN HY HI
      go_wp2_with fail
      refine (HY2.out).mono ?_
      rintro _ w2 ⟨v, c, rfl, hp⟩
      have HPv : Hid _ := hp
      clear hp HY2
      go_wp2
      exact bodyPost_ret (v := .tuple #[v, c]) (by simp [results, Try.results5, go_sem]) rfl HPv.out
end Go.Proofs.Ytioabdfddjmabaa
