/-
  AsmE, CmpA, CmpB
-/
import Derived.Test.YtoopomjkapeknaaQ10
import Derived.Test.YtoopomjkapeknaaQ09
import Derived.Deep.AppendLies
namespace Go.Proofs.Ytoopomjkapeknaa
open Go.RowKit
set_option linter.unusedVariables false

/-- a box of four cells -/
structure Box4 (w : World) (g : Nat) (x0 x1 x2 x3 : Value) : Prop where
  lt : g < w.heap.size
  c0 : w.cell? ⟨g, 0, none⟩ = some x0
  c1 : w.cell? ⟨g, 1, none⟩ = some x1
  c2 : w.cell? ⟨g, 2, none⟩ = some x2
  c3 : w.cell? ⟨g, 3, none⟩ = some x3
  f : ∀ i, w.frozen? ⟨g, i, none⟩ = false
theorem Box4.new (w : World) (t : TypeId) (x0 x1 x2 x3 : Value) : Box4 (w.alloc (.cells #[x0, x1, x2, x3] t)) w.heap.size x0 x1 x2 x3 := ⟨by simp, by simp, by simp, by simp, by simp, by simp⟩
theorem Box4.keep {w w1 : World} {g : Nat} {x0 x1 x2 x3 : Value} (h : Box4 w g x0 x1 x2 x3) (hb : Below w.heap.size w w1) : Box4 w1 g x0 x1 x2 x3 :=
  ⟨Nat.lt_of_lt_of_le h.lt hb.size, (hb.cell (p := ⟨g, _, none⟩) h.lt).trans h.c0, (hb.cell (p := ⟨g, _, none⟩) h.lt).trans h.c1, (hb.cell (p := ⟨g, _, none⟩) h.lt).trans h.c2, (hb.cell (p := ⟨g, _, none⟩) h.lt).trans h.c3, fun i => (hb.frozen (p := ⟨g, i, none⟩) h.lt).trans (h.f i)⟩
theorem Box4.grown {w w1 : World} {g : Nat} {x0 x1 x2 x3 : Value} {row : Option Nat} (h : Box4 w g x0 x1 x2 x3) (hg : w.grownBy w1 row) (hne : some g ≠ row) : Box4 w1 g x0 x1 x2 x3 :=
  ⟨Nat.lt_of_lt_of_le h.lt hg.size, (hg.cell_far ⟨g, _, none⟩ h.lt hne).trans h.c0, (hg.cell_far ⟨g, _, none⟩ h.lt hne).trans h.c1, (hg.cell_far ⟨g, _, none⟩ h.lt hne).trans h.c2, (hg.cell_far ⟨g, _, none⟩ h.lt hne).trans h.c3, fun i => (hg.frozen_far ⟨g, i, none⟩ h.lt hne).trans (h.f i)⟩
theorem news_at {W : World} {cs : List Value} {t A : Nat} (h : A = W.heap.size) : ∀ j u, cs[j]? = some u → (W.alloc (.cells cs.toArray t)).cell? ((⟨A, 0, none⟩ : Addr).add j) = some u := by
  subst h
  exact World.news_of_block (t := t) (fr := (0, 0)) (heap_alloc_new W _)
theorem row_blockA {w : World} {B t s n D i : Nat} {v x : Value} {xs : List Value} (h : w.ownsRow B t s v n xs) (hne : ∀ q, v.ownBlock = some q → q = D → False) : (w.setCell ⟨D, i, none⟩ x).ownsRow B t s v n xs :=
  World.ownsRow.kept h (grown_setCell (World.grownBy.refl _ _) i x) (by
    cases hv : v.ownBlock with
    | none => exact .inl rfl
    | some q => exact .inr (fun e => hne q hv (by simpa using e)))
structure LdS (l : List It) (k : Nat) (ms : List Ma) (st : List I × Mk) : Prop where
  lay : layI (l.drop k) = some st
  fm : ∀ t, findM ms t = st.2 t
theorem LdS.start (l : List It) : LdS l l.length [] ([], fun _ => none) := ⟨by rw [List.drop_length]; rfl, fun t => rfl⟩
theorem LdS.some {l : List It} {k : Nat} {ms : List Ma} {st s0 : List I × Mk} (h : LdS l (k + 1) ms st) (h0 : layI l = Option.some s0) (hk : k < l.length) : ∃ t, stI (l.getD k It.zero) st = Option.some t := by
  obtain ⟨t, h1, _⟩ := layI_part h0 k
  rw [layI_drop hk, h.lay] at h1
  exact ⟨t, h1⟩
theorem LdS.label {l : List It} {k : Nat} {ms : List Ma} {st s0 : List I × Mk} (h : LdS l (k + 1) ms st) (h0 : layI l = Option.some s0) (hk : k < l.length) (h4 : (l.getD k It.zero).kind = 4) : ∃ m, LdS l k (ms ++ [((l.getD k It.zero).target, st.1.length)]) (st.1, m) := by
  obtain ⟨t, ht⟩ := h.some h0 hk
  have h1 : layI (l.drop k) = Option.some t := by rw [layI_drop hk, h.lay]; exact ht
  unfold stI at ht
  rw [if_neg (by omega)] at ht
  cases e : st.2 (l.getD k It.zero).target with
  | none =>
    rw [e] at ht
    simp only at ht
    rw [if_pos h4] at ht
    cases ht
    exact ⟨_, h1, fun t => by rw [findM_snoc]; simp only; rw [h.fm]⟩
  | some a =>
    rw [e] at ht
    simp only at ht
    rw [if_pos h4] at ht
    cases ht
theorem LdS.plain {l : List It} {k : Nat} {ms : List Ma} {st : List I × Mk} (h : LdS l (k + 1) ms st) (hk : k < l.length) (h4 : (l.getD k It.zero).kind = 0) : LdS l k ms (st.1 ++ [(l.getD k It.zero).ins], st.2) := by
  refine ⟨?_, h.fm⟩
  rw [layI_drop hk, h.lay]
  simp only [stI]
  rw [if_pos h4]
theorem LdS.br {l : List It} {k : Nat} {ms : List Ma} {st s0 : List I × Mk} (h : LdS l (k + 1) ms st) (h0 : layI l = Option.some s0) (hk : k < l.length) (g0 : (l.getD k It.zero).kind ≠ 0) (h4 : (l.getD k It.zero).kind ≠ 4) : ∃ a, findM ms (l.getD k It.zero).target = Option.some a ∧ a ≤ st.1.length ∧ LdS l k ms (st.1 ++ brI (l.getD k It.zero) ((st.1.length : Int) - a), st.2) := by
  obtain ⟨t, ht⟩ := h.some h0 hk
  have h1 : layI (l.drop k) = Option.some t := by rw [layI_drop hk, h.lay]; exact ht
  unfold stI at ht
  rw [if_neg g0] at ht
  cases e : st.2 (l.getD k It.zero).target with
  | none =>
    rw [e] at ht
    simp only at ht
    rw [if_neg h4] at ht
    cases ht
  | some a =>
    rw [e] at ht
    simp only at ht
    rw [if_neg h4] at ht
    cases ht
    exact ⟨a, by rw [h.fm, e], (layI_facts h.lay).1 _ _ e, h1, h.fm⟩
theorem LdS.len {l : List It} {k : Nat} {ms : List Ma} {st : List I × Mk} (h : LdS l k ms st) : st.1.length ≤ l.length * 2 := by
  have := (layI_facts h.lay).2
  rw [List.length_drop] at this
  omega
def LaidPost (l : List It) (w : World) (e : Ending) (w' : World) : Prop := ∃ v k ms st, e = .returned v ∧ ownsI w' w.heap.size v st.1 ∧ LdS l k ms st ∧ (k = 0 ∨ 4096 < st.1.length) ∧ Below w.heap.size w w'

set_option maxRecDepth 100000 in
set_option maxHeartbeats 8000000 in
theorem l5laid_any (l : List It) (a : Option Addr) (cap : Nat) (w : World) (s0 : List I × Mk) (hs : TSrc w a l) (ho : ∀ x ∈ l, x.ok) (hl : layI l = some s0) (hn : l.length ≤ 1000000) :
    Calls Try.prog 27 #[.slice a l.length cap] w fun e w' => LaidPost l w e w' := by
  obtain ⟨i0, hi, hz0, hz1, hz2⟩ := info_parts infoMark
  obtain ⟨i1, hi1, hy0, hy1, hy2⟩ := info_parts info36
  have HP : Hid (∀ wr, Below w.heap.size w wr → ∀ i, i < l.length → ∃ b o, a = some ⟨b, o, none⟩ ∧ b < wr.heap.size ∧ PI wr b (o + i * 6) (l.getD i It.zero)) := fun wr hB i hi => (hs.below PI.stays hB).at hi It.zero
  have HF : Hid (∀ (ms : List Ma) t a cap w1, LSrc 2 PM w1 a ms → ms.length ≤ 1048576 → Calls Try.prog 49 #[.slice a ms.length cap, .int .i64 t] w1 fun e w' => e = .returned (.int .i64 (fdV (findM ms t))) ∧ w' = w1) := fun ms t a cap w1 h1 h2 => l5find_any ms t a cap w1 h1 h2
  have H0 : Hid (LdS l l.length [] ([], fun _ => none)) := LdS.start l
  have HLab : Hid (∀ k ms st, LdS l (k + 1) ms st → k < l.length → (l.getD k It.zero).kind = 4 → ∃ m, LdS l k (ms ++ [((l.getD k It.zero).target, st.1.length)]) (st.1, m)) := fun k ms st h h1 h2 => h.label hl h1 h2
  have HPl : Hid (∀ k ms st, LdS l (k + 1) ms st → k < l.length → (l.getD k It.zero).kind = 0 → LdS l k ms (st.1 ++ [(l.getD k It.zero).ins], st.2)) := fun k ms st h h1 h2 => h.plain h1 h2
  have HBr : Hid (∀ k ms st, LdS l (k + 1) ms st → k < l.length → (l.getD k It.zero).kind ≠ 0 → (l.getD k It.zero).kind ≠ 4 → ∃ a, findM ms (l.getD k It.zero).target = some a ∧ a ≤ st.1.length ∧ LdS l k ms (st.1 ++ brI (l.getD k It.zero) ((st.1.length : Int) - a), st.2)) := fun k ms st h h1 h2 h3 => h.br hl h1 h2 h3
  have HLen : Hid (∀ k ms st, LdS l k ms st → st.1.length ≤ l.length * 2) := fun k ms st h => h.len
  clear hs ho hl s0
  generalize l.length = n at *
  have hwn : IntKind.i64.wrap ((n : Int) - 1) = (n : Int) - 1 := by rw [IntKind.wrap_i64]; omega
  go_enter Try.func27, Try.ntmps27
  go_wp2_with fail
  go_loopw [3, 4, 5] (fun so' s' i wr => ∃ (k : Nat) (so s : Value) (ms : List Ma) (st : List I × Mk), k ≤ n ∧ i = .int .i64 ((k : Int) - 1) ∧ so = so' ∧ s = s' ∧ ownsI wr w.heap.size so st.1 ∧ ownsM wr w.heap.size s ms ∧ ms.length ≤ n - k ∧ Hid (LdS l k ms st) ∧ Below w.heap.size w wr) (fun _ _ i _ => (intOf i + 1).toNat)
  case atStart => exact ⟨n, _, _, [], _, by omega, by first | rfl | go_num, rfl, rfl, World.ownsRow_nil _ _ _ _, World.ownsRow_nil _ _ _ _, by simp, H0, Below.refl _ _⟩
  case round =>
    obtain ⟨k, so, s, ms, st, hk, rfl, hsso, hss, hOI, hO, hml, HOk, B⟩ := hrel
    subst hsso
    subst hss
    rename World => W0
    have hol := HLen.out k ms st HOk.out
    obtain ⟨ai, ci, rfl, _⟩ := ownsI_src hOI
    by_cases hk0 : 0 < k ∧ st.1.length ≤ 4096
    · obtain ⟨hk0, hl4⟩ := hk0
      obtain ⟨k', rfl⟩ : ∃ k', k = k' + 1 := ⟨k - 1, by omega⟩
      have hk' : ((k' + 1 : Nat) : Int) - 1 = (k' : Int) := by omega
      rw [hk']
      have hkn : (k' : Int) < (n : Int) := by omega
      have hkN : k' < n := by omega
      have hw2 : IntKind.i64.wrap ((k' : Int) - 1) = (k' : Int) - 1 := by rw [IntKind.wrap_i64]; omega
      obtain ⟨b, o, rfl, hlt, c0, c1, c2, c3, c4, c5⟩ := HP.out W0 B k' hkN
      have HLabk : Hid _ := HLab.out k' ms st HOk.out hkN
      have HPlk : Hid _ := HPl.out k' ms st HOk.out hkN
      have HBrk : Hid _ := HBr.out k' ms st HOk.out hkN
      generalize l.getD k' It.zero = x at *
      obtain ⟨kd, ⟨c, jt, jf, ik⟩, tg⟩ := x
      obtain ⟨ol, mk⟩ := st
      simp only at c0 c1 c2 c3 c4 c5 HLabk HPlk HBrk hOI hol hl4
      obtain ⟨am, cm, rfl, _, hsm⟩ := ownsM_src hO
      have hbx : Below W0.heap.size W0 (W0.alloc (.cells #[.int .i64 kd, .int .u16 c, .int .u8 jt, .int .u8 jf, .int .u32 ik, .int .i64 tg] 68)) := (Below.refl _ _).alloc (Nat.le_refl _) _
      have X := Box6.new W0 68 (.int .i64 kd) (.int .u16 c) (.int .u8 jt) (.int .u8 jf) (.int .u32 ik) (.int .i64 tg)
      have B2 := below_step hbx B
      have O2 := own_kept hO hbx
      have I2 := ownsI_below hOI hbx
      have hs2 := hsm.below PM.stays hbx
      have hb4 : (ol.length : Int) ≤ 4096 := by omega
      have hWs := B.size
      have hqi : ∀ q, (Value.slice ai ol.length ci).ownBlock = some q → q < W0.heap.size := fun q hq => (hOI.lt q hq).2
      obtain ⟨hxl, x0, x1, x2, x3, x4, x5, _⟩ := X
      clear HP HLab HPl HBr HOk H0 HLen hO hOI hsm B hbx
      by_cases h4 : kd = 4
      · subst h4
        obtain ⟨m2, hL3⟩ := HLabk.out rfl
        have HL3 : Hid (LdS l k' (ms ++ [(tg, ol.length)]) (ol, m2)) := hL3
        clear HLabk HPlk HBrk hL3 HF hs2
        have hsz := B2.size
        have hbs : w.heap.size ≤ ((W0.alloc (.cells #[.int .i64 4, .int .u16 c, .int .u8 jt, .int .u8 jf, .int .u32 ik, .int .i64 tg] 68)).alloc (.cells #[.int .i64 tg, .int .i64 (ol.length : Int)] 96)).heap.size := by simp; omega
        have hbm : ms.length + 1 ≤ maxLen := by unfold maxLen; omega
        have hbd : (ms.length + 1) * 16 ≤ 140737488355328 := by omega
        go_wp2_with (at_builtin; refine wpList_append_own _ rfl (.tmp 29) (.tmp 35) 94 rfl (w.heap.size) 96 i0 _ 2 16 Try.underlying94 hi hz0 hz1 hz2 rfl (by decide) (.slice am ms.length cm) ms.length (ms.flatMap maC) rfl (World.ownsRow.alloc O2 _) ⟨W0.heap.size + 1, 0, none⟩ 1 1 [.int .i64 tg, .int .i64 (ol.length : Int)] rfl rfl (news_at (by simp)) (by simp [Value.oneCell']) hbm hbd hbs ?_)
        intro v9 w9 ow gr _
        have o9 : ownsM w9 w.heap.size v9 (ms ++ [(tg, ol.length)]) := by simpa [ownsM, maC] using ow
        have p9 : ownsI w9 w.heap.size (.slice ai ol.length ci) ol := World.ownsRow.kept (World.ownsRow.alloc I2 _) gr (own_ne O2 I2 (by decide))
        have B9 : Below w.heap.size w w9 := (B2.alloc hsz _).grown gr hbs (fun t ht => (O2.lt t ht).1)
        clear ow gr O2 B2 I2 x0 x1 x2 x3 x4 x5 hbm hbd hbs
        go_wp2
        go_roundw
        case rel => exact ⟨k', _, _, _, (ol, m2), by omega, by first | rfl | go_num, rfl, rfl, p9, o9, by simp; omega, HL3, B9⟩
        case measure => simp [intOf]
      · have g4 : (kd == 4) = false := by simpa using h4
        by_cases h0 : kd = 0
        · subst h0
          have HL3 : Hid (LdS l k' ms (ol ++ [⟨c, jt, jf, ik⟩], mk)) := HPlk.out rfl
          clear HLabk HPlk HBrk HF hs2
          have hsz := B2.size
          have hbs9 : w.heap.size ≤ ((W0.alloc (.cells #[.int .i64 0, .int .u16 c, .int .u8 jt, .int .u8 jf, .int .u32 ik, .int .i64 tg] 68)).alloc (.cells #[.int .u16 c, .int .u8 jt, .int .u8 jf, .int .u32 ik] 51)).heap.size := by simp; omega
          have hbm9 : ol.length + 1 ≤ maxLen := by unfold maxLen; omega
          have hbd9 : (ol.length + 1) * 8 ≤ 140737488355328 := by omega
          go_wp2_with (at_builtin; refine wpList_append_own _ rfl (.tmp 40) (.tmp 43) 26 rfl (w.heap.size) 51 i1 _ 4 8 Try.underlying26 hi1 hy0 hy1 hy2 rfl (by decide) (.slice ai ol.length ci) ol.length (insCells ol) rfl (World.ownsRow.alloc I2 _) ⟨W0.heap.size + 1, 0, none⟩ 1 1 [.int .u16 c, .int .u8 jt, .int .u8 jf, .int .u32 ik] rfl rfl (news_at (by simp)) (by simp [Value.oneCell']) hbm9 hbd9 hbs9 ?_)
          intro v9 w9 ow gr _
          have p9 : ownsI w9 w.heap.size v9 (ol ++ [⟨c, jt, jf, ik⟩]) := ownsI_snoc rfl ow
          have o9 : ownsM w9 w.heap.size (.slice am ms.length cm) ms := World.ownsRow.kept (World.ownsRow.alloc O2 _) gr (own_ne I2 O2 (by decide))
          have B9 : Below w.heap.size w w9 := (B2.alloc hsz _).grown gr hbs9 (fun t ht => (World.ownsRow.lt I2 t ht).1)
          clear ow gr hbm9 hbd9 hbs9
          clear O2 B2 I2 x0 x1 x2 x3 x4 x5
          go_wp2
          go_roundw
          case rel => exact ⟨k', _, _, ms, (ol ++ [⟨c, jt, jf, ik⟩], mk), by omega, by first | rfl | go_num, rfl, rfl, p9, o9, by omega, HL3, B9⟩
          case measure => simp [intOf]
        · have g0 : (kd == 0) = false := by simpa using h0
          obtain ⟨fa, hfa, hfl, hL3⟩ := HBrk.out h0 h4
          have HL3 : Hid (LdS l k' ms (ol ++ brI ⟨kd, ⟨c, jt, jf, ik⟩, tg⟩ ((ol.length : Int) - fa), mk)) := hL3
          have HFk : Hid (∀ w1, LSrc 2 PM w1 am ms → Calls Try.prog 49 #[.slice am ms.length cm, .int .i64 tg] w1 fun e w' => e = .returned (.int .i64 (fa : Int)) ∧ w' = w1) := fun w1 h => by
            have := HF.out ms tg am cm w1 h (by omega)
            rw [hfa] at this; exact this
          obtain ⟨d, hd⟩ : ∃ d : Nat, (ol.length : Int) - fa = d := ⟨ol.length - fa, by omega⟩
          have hd4 : d ≤ 4096 := by omega
          have hwd : wrap64 ((ol.length : Int) - fa) = (d : Int) := by rw [hd]; unfold wrap64; omega
          have hwm : (d : Int) % 4294967296 = (d : Int) := by omega
          rw [hd] at HL3
          clear HLabk HPlk HBrk hL3 HF hfa h0 h4 hd hfl
          go_wp2_with fail
          generalize W0.alloc (.cells #[.int .i64 kd, .int .u16 c, .int .u8 jt, .int .u8 jf, .int .u32 ik, .int .i64 tg] 68) = V3 at *
          refine (HFk.out _ hs2).mono ?_
          rintro _ V4 ⟨rfl, hV4⟩
          rw [hV4]
          clear hV4
          have hV0 : W0.heap.size ≤ V3.heap.size := Nat.le_of_lt hxl
          clear HFk hs2 hxl
          have hdi : (d : Int) ≤ 4096 := by omega
          by_cases h3 : kd = 3
          · subst h3
            have HL4 : Hid (LdS l k' ms (ol ++ [⟨5, 0, 0, (d : Int)⟩], mk)) := HL3.out
            have hbj : Below V3.heap.size V3 ((V3.alloc (.cells #[.int .u16 5, .int .u8 0, .int .u8 0, .int .u32 (d : Int)] 51)).alloc (.cells #[.int .u16 c, .int .u8 0, .int .u8 0, .int .u32 ik] 51)) := ((Below.refl _ _).alloc (Nat.le_refl _) _).alloc (by simp) _
            have J8 := (Box4.new V3 51 (.int .u16 5) (.int .u8 0) (.int .u8 0) (.int .u32 (d : Int))).keep ((Below.refl _ _).alloc (Nat.le_refl _) (.cells #[.int .u16 c, .int .u8 0, .int .u8 0, .int .u32 ik] 51))
            have J9 := Box4.new (V3.alloc (.cells #[.int .u16 5, .int .u8 0, .int .u8 0, .int .u32 (d : Int)] 51)) 51 (.int .u16 c) (.int .u8 0) (.int .u8 0) (.int .u32 ik)
            rw [show (V3.alloc (.cells #[.int .u16 5, .int .u8 0, .int .u8 0, .int .u32 (d : Int)] 51)).heap.size = V3.heap.size + 1 by simp] at J9
            have B3 := below_step hbj B2
            have O3 := own_kept O2 hbj
            have I3 := ownsI_below I2 hbj
            have xk := cell_step hbj x0
            have xk0 : ((V3.alloc (.cells #[.int .u16 5, .int .u8 0, .int .u8 0, .int .u32 (d : Int)] 51)).alloc (.cells #[.int .u16 c, .int .u8 0, .int .u8 0, .int .u32 ik] 51)).cell? ⟨W0.heap.size, 0, none⟩ = _ := cell_step (((Below.refl _ _).alloc (Nat.le_refl _) _).alloc (by simp) _) x0
            have x1a := cell_step ((Below.refl _ _).alloc (Nat.le_refl _) (.cells #[.int .u16 5, .int .u8 0, .int .u8 0, .int .u32 (d : Int)] 51)) x1
            have x4a := cell_step ((Below.refl _ _).alloc (Nat.le_refl _) (.cells #[.int .u16 5, .int .u8 0, .int .u8 0, .int .u32 (d : Int)] 51)) x4
            clear B2 O2 I2 x0 x1 x2 x3 x4 x5
            obtain ⟨_, y0, y1, y2, y3, _⟩ := J8
            clear J9 HL3
            have hsz := B3.size
            have hbs9 : w.heap.size ≤ (((V3.alloc (.cells #[.int .u16 5, .int .u8 0, .int .u8 0, .int .u32 (d : Int)] 51)).alloc (.cells #[.int .u16 c, .int .u8 0, .int .u8 0, .int .u32 ik] 51)).alloc (.cells #[.int .u16 5, .int .u8 0, .int .u8 0, .int .u32 (d : Int)] 51)).heap.size := by simp; omega
            have hbm9 : ol.length + 1 ≤ maxLen := by unfold maxLen; omega
            have hbd9 : (ol.length + 1) * 8 ≤ 140737488355328 := by omega
            go_wp2_with (at_builtin; refine wpList_append_own _ rfl (.tmp 65) (.tmp 67) 26 rfl (w.heap.size) 51 i1 _ 4 8 Try.underlying26 hi1 hy0 hy1 hy2 rfl (by decide) (.slice ai ol.length ci) ol.length (insCells ol) rfl (World.ownsRow.alloc I3 _) ⟨V3.heap.size + 1 + 1, 0, none⟩ 1 1 [.int .u16 5, .int .u8 0, .int .u8 0, .int .u32 (d : Int)] rfl rfl (news_at (by simp)) (by simp [Value.oneCell']) hbm9 hbd9 hbs9 ?_)
            intro v9 w9 ow gr _
            have p9 : ownsI w9 w.heap.size v9 (ol ++ [⟨5, 0, 0, (d : Int)⟩]) := ownsI_snoc rfl ow
            have o9 : ownsM w9 w.heap.size (.slice am ms.length cm) ms := World.ownsRow.kept (World.ownsRow.alloc O3 _) gr (own_ne I3 O3 (by decide))
            have B9 : Below w.heap.size w w9 := (B3.alloc hsz _).grown gr hbs9 (fun t ht => (World.ownsRow.lt I3 t ht).1)
            clear ow gr hbm9 hbd9 hbs9
            clear O3 B3 I3 y0 y1 y2 y3 xk xk0 x1a x4a
            go_wp2
            go_roundw
            case rel => exact ⟨k', _, _, ms, (ol ++ [⟨5, 0, 0, (d : Int)⟩], mk), by omega, by first | rfl | go_num, rfl, rfl, p9, o9, by omega, HL4, B9⟩
            case measure => simp [intOf]
          · have g3 : (kd == 3) = false := by simpa using h3
            by_cases h255 : d ≤ 255
            · have hd5 : (d : Int) ≤ 255 := by omega
              have hwm8 : (d : Int) % 256 = (d : Int) := by omega
              have HN : Hid (brI ⟨kd, ⟨c, jt, jf, ik⟩, tg⟩ (d : Int) = [tstI ⟨c, jt, jf, ik⟩ (kd == 1) (d : Int)]) := by
                show _ = _
                unfold brI
                simp only
                rw [if_neg h3, if_pos hd5]
              rw [HN.out] at HL3
              clear HN h3
              by_cases h1 : kd = 1
              · subst h1
                have HL4 : Hid (LdS l k' ms (ol ++ [⟨c, (d : Int), 0, ik⟩], mk)) := HL3.out
                have hbj : Below V3.heap.size V3 ((V3.alloc (.cells #[.int .u16 5, .int .u8 0, .int .u8 0, .int .u32 (d : Int)] 51)).alloc (.cells #[.int .u16 c, .int .u8 (d : Int), .int .u8 0, .int .u32 ik] 51)) := ((Below.refl _ _).alloc (Nat.le_refl _) _).alloc (by simp) _
                have J8 := (Box4.new V3 51 (.int .u16 5) (.int .u8 0) (.int .u8 0) (.int .u32 (d : Int))).keep ((Below.refl _ _).alloc (Nat.le_refl _) (.cells #[.int .u16 c, .int .u8 (d : Int), .int .u8 0, .int .u32 ik] 51))
                have J9 := Box4.new (V3.alloc (.cells #[.int .u16 5, .int .u8 0, .int .u8 0, .int .u32 (d : Int)] 51)) 51 (.int .u16 c) (.int .u8 (d : Int)) (.int .u8 0) (.int .u32 ik)
                rw [show (V3.alloc (.cells #[.int .u16 5, .int .u8 0, .int .u8 0, .int .u32 (d : Int)] 51)).heap.size = V3.heap.size + 1 by simp] at J9
                have B3 := below_step hbj B2
                have O3 := own_kept O2 hbj
                have I3 := ownsI_below I2 hbj
                have xk := cell_step hbj x0
                have xk0 : ((V3.alloc (.cells #[.int .u16 5, .int .u8 0, .int .u8 0, .int .u32 (d : Int)] 51)).alloc (.cells #[.int .u16 c, .int .u8 0, .int .u8 0, .int .u32 ik] 51)).cell? ⟨W0.heap.size, 0, none⟩ = _ := cell_step (((Below.refl _ _).alloc (Nat.le_refl _) _).alloc (by simp) _) x0
                have x1a := cell_step ((Below.refl _ _).alloc (Nat.le_refl _) (.cells #[.int .u16 5, .int .u8 0, .int .u8 0, .int .u32 (d : Int)] 51)) x1
                have x4a := cell_step ((Below.refl _ _).alloc (Nat.le_refl _) (.cells #[.int .u16 5, .int .u8 0, .int .u8 0, .int .u32 (d : Int)] 51)) x4
                clear B2 O2 I2 x0 x1 x2 x3 x4 x5
                obtain ⟨jl, e0, e1, e2, e3, jf9⟩ := J9
                clear jf9 HL3 J8
                have hsz := B3.size
                have hbs9 : w.heap.size ≤ (((V3.alloc (.cells #[.int .u16 5, .int .u8 0, .int .u8 0, .int .u32 (d : Int)] 51)).alloc (.cells #[.int .u16 c, .int .u8 (d : Int), .int .u8 0, .int .u32 ik] 51)).alloc (.cells #[.int .u16 c, .int .u8 (d : Int), .int .u8 0, .int .u32 ik] 51)).heap.size := by simp; omega
                have hbm9 : ol.length + 1 ≤ maxLen := by unfold maxLen; omega
                have hbd9 : (ol.length + 1) * 8 ≤ 140737488355328 := by omega
                go_wp2_with (at_builtin; refine wpList_append_own _ rfl (.tmp 80) (.tmp 82) 26 rfl (w.heap.size) 51 i1 _ 4 8 Try.underlying26 hi1 hy0 hy1 hy2 rfl (by decide) (.slice ai ol.length ci) ol.length (insCells ol) rfl (World.ownsRow.alloc I3 _) ⟨V3.heap.size + 1 + 1, 0, none⟩ 1 1 [.int .u16 c, .int .u8 (d : Int), .int .u8 0, .int .u32 ik] rfl rfl (news_at (by simp)) (by simp [Value.oneCell']) hbm9 hbd9 hbs9 ?_)
                intro v9 w9 ow gr _
                have p9 : ownsI w9 w.heap.size v9 (ol ++ [⟨c, (d : Int), 0, ik⟩]) := ownsI_snoc rfl ow
                have o9 : ownsM w9 w.heap.size (.slice am ms.length cm) ms := World.ownsRow.kept (World.ownsRow.alloc O3 _) gr (own_ne I3 O3 (by decide))
                have B9 : Below w.heap.size w w9 := (B3.alloc hsz _).grown gr hbs9 (fun t ht => (World.ownsRow.lt I3 t ht).1)
                clear ow gr hbm9 hbd9 hbs9
                clear O3 B3 I3 e0 e1 e2 e3 xk xk0 jl x1a x4a
                go_wp2
                go_roundw
                case rel => exact ⟨k', _, _, ms, (ol ++ [⟨c, (d : Int), 0, ik⟩], mk), by omega, by first | rfl | go_num, rfl, rfl, p9, o9, by omega, HL4, B9⟩
                case measure => simp [intOf]
              · have g1 : (kd == 1) = false := by simpa using h1
                rw [g1] at HL3
                have HL4 : Hid (LdS l k' ms (ol ++ [⟨c, 0, (d : Int), ik⟩], mk)) := HL3.out
                have hbj : Below V3.heap.size V3 ((V3.alloc (.cells #[.int .u16 5, .int .u8 0, .int .u8 0, .int .u32 (d : Int)] 51)).alloc (.cells #[.int .u16 c, .int .u8 0, .int .u8 (d : Int), .int .u32 ik] 51)) := ((Below.refl _ _).alloc (Nat.le_refl _) _).alloc (by simp) _
                have J8 := (Box4.new V3 51 (.int .u16 5) (.int .u8 0) (.int .u8 0) (.int .u32 (d : Int))).keep ((Below.refl _ _).alloc (Nat.le_refl _) (.cells #[.int .u16 c, .int .u8 0, .int .u8 (d : Int), .int .u32 ik] 51))
                have J9 := Box4.new (V3.alloc (.cells #[.int .u16 5, .int .u8 0, .int .u8 0, .int .u32 (d : Int)] 51)) 51 (.int .u16 c) (.int .u8 0) (.int .u8 (d : Int)) (.int .u32 ik)
                rw [show (V3.alloc (.cells #[.int .u16 5, .int .u8 0, .int .u8 0, .int .u32 (d : Int)] 51)).heap.size = V3.heap.size + 1 by simp] at J9
                have B3 := below_step hbj B2
                have O3 := own_kept O2 hbj
                have I3 := ownsI_below I2 hbj
                have xk := cell_step hbj x0
                have xk0 : ((V3.alloc (.cells #[.int .u16 5, .int .u8 0, .int .u8 0, .int .u32 (d : Int)] 51)).alloc (.cells #[.int .u16 c, .int .u8 0, .int .u8 0, .int .u32 ik] 51)).cell? ⟨W0.heap.size, 0, none⟩ = _ := cell_step (((Below.refl _ _).alloc (Nat.le_refl _) _).alloc (by simp) _) x0
                have x1a := cell_step ((Below.refl _ _).alloc (Nat.le_refl _) (.cells #[.int .u16 5, .int .u8 0, .int .u8 0, .int .u32 (d : Int)] 51)) x1
                have x4a := cell_step ((Below.refl _ _).alloc (Nat.le_refl _) (.cells #[.int .u16 5, .int .u8 0, .int .u8 0, .int .u32 (d : Int)] 51)) x4
                clear B2 O2 I2 x0 x1 x2 x3 x4 x5
                obtain ⟨jl, e0, e1, e2, e3, jf9⟩ := J9
                clear jf9 HL3 J8
                have hsz := B3.size
                have hbs9 : w.heap.size ≤ (((V3.alloc (.cells #[.int .u16 5, .int .u8 0, .int .u8 0, .int .u32 (d : Int)] 51)).alloc (.cells #[.int .u16 c, .int .u8 0, .int .u8 (d : Int), .int .u32 ik] 51)).alloc (.cells #[.int .u16 c, .int .u8 0, .int .u8 (d : Int), .int .u32 ik] 51)).heap.size := by simp; omega
                have hbm9 : ol.length + 1 ≤ maxLen := by unfold maxLen; omega
                have hbd9 : (ol.length + 1) * 8 ≤ 140737488355328 := by omega
                go_wp2_with (at_builtin; refine wpList_append_own _ rfl (.tmp 80) (.tmp 82) 26 rfl (w.heap.size) 51 i1 _ 4 8 Try.underlying26 hi1 hy0 hy1 hy2 rfl (by decide) (.slice ai ol.length ci) ol.length (insCells ol) rfl (World.ownsRow.alloc I3 _) ⟨V3.heap.size + 1 + 1, 0, none⟩ 1 1 [.int .u16 c, .int .u8 0, .int .u8 (d : Int), .int .u32 ik] rfl rfl (news_at (by simp)) (by simp [Value.oneCell']) hbm9 hbd9 hbs9 ?_)
                intro v9 w9 ow gr _
                have p9 : ownsI w9 w.heap.size v9 (ol ++ [⟨c, 0, (d : Int), ik⟩]) := ownsI_snoc rfl ow
                have o9 : ownsM w9 w.heap.size (.slice am ms.length cm) ms := World.ownsRow.kept (World.ownsRow.alloc O3 _) gr (own_ne I3 O3 (by decide))
                have B9 : Below w.heap.size w w9 := (B3.alloc hsz _).grown gr hbs9 (fun t ht => (World.ownsRow.lt I3 t ht).1)
                clear ow gr hbm9 hbd9 hbs9
                clear O3 B3 I3 e0 e1 e2 e3 xk xk0 jl x1a x4a
                go_wp2
                go_roundw
                case rel => exact ⟨k', _, _, ms, (ol ++ [⟨c, 0, (d : Int), ik⟩], mk), by omega, by first | rfl | go_num, rfl, rfl, p9, o9, by omega, HL4, B9⟩
                case measure => simp [intOf]
            · have hd5 : ¬ (d : Int) ≤ 255 := by omega
              have HN : Hid (brI ⟨kd, ⟨c, jt, jf, ik⟩, tg⟩ (d : Int) = [⟨5, 0, 0, (d : Int)⟩, tstI ⟨c, jt, jf, ik⟩ (!(kd == 1)) 1]) := by
                show _ = _
                unfold brI
                simp only
                rw [if_neg h3, if_neg hd5]
              rw [HN.out] at HL3
              clear HN h3
              by_cases h1 : kd = 1
              · subst h1
                have HL4 : Hid (LdS l k' ms (ol ++ [⟨5, 0, 0, (d : Int)⟩] ++ [⟨c, 0, 1, ik⟩], mk)) := by
                  have := HL3.out
                  show LdS _ _ _ _
                  rw [List.append_assoc]; exact this
                have hbj : Below V3.heap.size V3 ((V3.alloc (.cells #[.int .u16 5, .int .u8 0, .int .u8 0, .int .u32 (d : Int)] 51)).alloc (.cells #[.int .u16 c, .int .u8 0, .int .u8 0, .int .u32 ik] 51)) := ((Below.refl _ _).alloc (Nat.le_refl _) _).alloc (by simp) _
                have J8 := (Box4.new V3 51 (.int .u16 5) (.int .u8 0) (.int .u8 0) (.int .u32 (d : Int))).keep ((Below.refl _ _).alloc (Nat.le_refl _) (.cells #[.int .u16 c, .int .u8 0, .int .u8 0, .int .u32 ik] 51))
                have J9 := Box4.new (V3.alloc (.cells #[.int .u16 5, .int .u8 0, .int .u8 0, .int .u32 (d : Int)] 51)) 51 (.int .u16 c) (.int .u8 0) (.int .u8 0) (.int .u32 ik)
                rw [show (V3.alloc (.cells #[.int .u16 5, .int .u8 0, .int .u8 0, .int .u32 (d : Int)] 51)).heap.size = V3.heap.size + 1 by simp] at J9
                have B3 := below_step hbj B2
                have O3 := own_kept O2 hbj
                have I3 := ownsI_below I2 hbj
                have xk := cell_step hbj x0
                have xk0 : ((V3.alloc (.cells #[.int .u16 5, .int .u8 0, .int .u8 0, .int .u32 (d : Int)] 51)).alloc (.cells #[.int .u16 c, .int .u8 0, .int .u8 0, .int .u32 ik] 51)).cell? ⟨W0.heap.size, 0, none⟩ = _ := cell_step (((Below.refl _ _).alloc (Nat.le_refl _) _).alloc (by simp) _) x0
                have x1a := cell_step ((Below.refl _ _).alloc (Nat.le_refl _) (.cells #[.int .u16 5, .int .u8 0, .int .u8 0, .int .u32 (d : Int)] 51)) x1
                have x4a := cell_step ((Below.refl _ _).alloc (Nat.le_refl _) (.cells #[.int .u16 5, .int .u8 0, .int .u8 0, .int .u32 (d : Int)] 51)) x4
                clear B2 O2 I2 x0 x1 x2 x3 x4 x5
                obtain ⟨j8l, y0, y1, y2, y3, _⟩ := J8
                have hw3s : ((V3.alloc (.cells #[.int .u16 5, .int .u8 0, .int .u8 0, .int .u32 (d : Int)] 51)).alloc (.cells #[.int .u16 c, .int .u8 0, .int .u8 0, .int .u32 ik] 51)).heap.size = V3.heap.size + 2 := by simp
                have hsz := B3.size
                have hbsa : w.heap.size ≤ (((V3.alloc (.cells #[.int .u16 5, .int .u8 0, .int .u8 0, .int .u32 (d : Int)] 51)).alloc (.cells #[.int .u16 c, .int .u8 0, .int .u8 0, .int .u32 ik] 51)).alloc (.cells #[.int .u16 5, .int .u8 0, .int .u8 0, .int .u32 (d : Int)] 51)).heap.size := by simp; omega
                have hbma : ol.length + 1 ≤ maxLen := by unfold maxLen; omega
                have hbda : (ol.length + 1) * 8 ≤ 140737488355328 := by omega
                go_wp2_with (at_builtin; refine wpList_append_lies _ rfl (.tmp 84) (.tmp 86) 26 rfl (w.heap.size) 51 i1 _ 4 8 Try.underlying26 hi1 hy0 hy1 hy2 rfl (by decide) (.slice ai ol.length ci) ol.length (insCells ol) rfl (World.ownsRow.alloc I3 _) ⟨V3.heap.size + 1 + 1, 0, none⟩ 1 1 [.int .u16 5, .int .u8 0, .int .u8 0, .int .u32 (d : Int)] rfl rfl (news_at (by simp)) (by simp [Value.oneCell']) (by omega) hbma hbda hbsa _ rfl ?_)
                intro gg cg w8 ow gr hat _
                have p8 : ownsI w8 w.heap.size (.slice (some ⟨gg, 0, none⟩) (ol.length + 1) cg) (ol ++ [⟨5, 0, 0, (d : Int)⟩]) := ownsI_snoc rfl ow
                have o8 : ownsM w8 w.heap.size (.slice am ms.length cm) ms := World.ownsRow.kept (World.ownsRow.alloc O3 _) gr (own_ne I3 O3 (by decide))
                have B8 : Below w.heap.size w w8 := (B3.alloc hsz _).grown gr hbsa (fun t ht => (World.ownsRow.lt I3 t ht).1)
                have hD9 : ∀ q, (Value.slice ai ol.length ci).ownBlock = some q → q ≠ V3.heap.size + 1 := fun q hq => by have := hqi q hq; omega
                have J9a := (J9.keep ((Below.refl _ _).alloc (Nat.le_refl _) (.cells #[.int .u16 5, .int .u8 0, .int .u8 0, .int .u32 (d : Int)] 51))).grown gr (fun e => hD9 _ e.symm rfl)
                have hW0n : some W0.heap.size ≠ (Value.slice ai ol.length ci).ownBlock := fun e => by have := hqi W0.heap.size e.symm; omega
                have hW0l : W0.heap.size < (((V3.alloc (.cells #[.int .u16 5, .int .u8 0, .int .u8 0, .int .u32 (d : Int)] 51)).alloc (.cells #[.int .u16 c, .int .u8 0, .int .u8 0, .int .u32 ik] 51)).alloc (.cells #[.int .u16 5, .int .u8 0, .int .u8 0, .int .u32 (d : Int)] 51)).heap.size := by simp; omega
                have xk8 : w8.cell? ⟨W0.heap.size, 0, none⟩ = some (.int .i64 1) := (gr.cell_far ⟨W0.heap.size, 0, none⟩ hW0l hW0n).trans (cell_step ((Below.refl _ _).alloc (Nat.le_refl _) _) xk)
                have hgn : gg ≠ V3.heap.size + 1 := by
                  rcases hat with q | q
                  · exact hD9 gg q
                  · first | omega | (simp at q; omega)
                have O8t : (w8.setCell ⟨V3.heap.size + 1, 2, none⟩ (.int .u8 1)).heap.size = w8.heap.size := by simp
                have I9 : ownsI (w8.setCell ⟨V3.heap.size + 1, 2, none⟩ (.int .u8 1)) w.heap.size (.slice (some ⟨gg, 0, none⟩) (ol.length + 1) cg) (ol ++ [⟨5, 0, 0, (d : Int)⟩]) := row_blockA p8 (fun q hq e => by
                  have : gg = q := by simpa [Value.ownBlock] using hq
                  exact absurd (this.trans e) hgn)
                have M9 : ownsM (w8.setCell ⟨V3.heap.size + 1, 2, none⟩ (.int .u8 1)) w.heap.size (.slice am ms.length cm) ms := row_blockA o8 (fun q hq e => by
                  have hlt8 := (World.ownsRow.lt O3 q hq).2
                  subst e
                  obtain ⟨_, ⟨e1, _⟩ | ⟨g, cap, cur, e1, hb, hg, _⟩⟩ := O3
                  · rw [e1] at hq; cases hq
                  · rw [e1] at hq
                    have : g = V3.heap.size + 1 := by simpa [Value.ownBlock] using hq
                    subst this
                    have e2 : ((V3.alloc (.cells #[.int .u16 5, .int .u8 0, .int .u8 0, .int .u32 (d : Int)] 51)).alloc (.cells #[.int .u16 c, .int .u8 0, .int .u8 0, .int .u32 ik] 51)).heap[V3.heap.size + 1]? = some (.cells #[.int .u16 c, .int .u8 0, .int .u8 0, .int .u32 ik] 51 (0, 0)) := by
                      have := heap_alloc_new (V3.alloc (.cells #[.int .u16 5, .int .u8 0, .int .u8 0, .int .u32 (d : Int)] 51)) (.cells #[.int .u16 c, .int .u8 0, .int .u8 0, .int .u32 ik] 51)
                      rw [show (V3.alloc (.cells #[.int .u16 5, .int .u8 0, .int .u8 0, .int .u32 (d : Int)] 51)).heap.size = V3.heap.size + 1 by simp] at this
                      exact this
                    rw [e2] at hg
                    simp only [Option.some.injEq, Obj.cells.injEq] at hg
                    exact absurd hg.2.1 (by decide))
                have N9 : Below w.heap.size w (w8.setCell ⟨V3.heap.size + 1, 2, none⟩ (.int .u8 1)) := B8.setCell (p := ⟨V3.heap.size + 1, 2, none⟩) (by show w.heap.size ≤ V3.heap.size + 1; have := hWs; omega) _
                obtain ⟨jl, z0, z1, z2, z3, jf9⟩ := J9a
                have zf := jf9 2
                have e0 : (w8.setCell ⟨V3.heap.size + 1, 2, none⟩ (.int .u8 1)).cell? ⟨V3.heap.size + 1, 0, none⟩ = some (.int .u16 c) := cell_near (by omega) z0
                have e1 : (w8.setCell ⟨V3.heap.size + 1, 2, none⟩ (.int .u8 1)).cell? ⟨V3.heap.size + 1, 1, none⟩ = some (.int .u8 0) := cell_near (by omega) z1
                have e2 : (w8.setCell ⟨V3.heap.size + 1, 2, none⟩ (.int .u8 1)).cell? ⟨V3.heap.size + 1, 2, none⟩ = some (.int .u8 1) := World.cell?_setCell_same _ _ _ z2
                have e3 : (w8.setCell ⟨V3.heap.size + 1, 2, none⟩ (.int .u8 1)).cell? ⟨V3.heap.size + 1, 3, none⟩ = some (.int .u32 ik) := cell_near (by omega) z3
                obtain ⟨vv, hvv⟩ : ∃ vv, Value.slice (some ⟨gg, 0, none⟩) (ol.length + 1) cg = vv := ⟨_, rfl⟩
                clear jf9 HL3 J9 ow gr hat y0 y1 y2 y3 xk xk0 x1a x4a I3 O3 B3 p8 o8 B8 hbma hbda hbsa hD9
                have hszb := N9.size
                rw [hvv] at I9 ⊢
                have hol1 : (ol ++ [(⟨5, 0, 0, (d : Int)⟩ : I)]).length = ol.length + 1 := by simp
                have hbsb : w.heap.size ≤ ((w8.setCell ⟨V3.heap.size + 1, 2, none⟩ (.int .u8 1)).alloc (.cells #[.int .u16 c, .int .u8 0, .int .u8 1, .int .u32 ik] 51)).heap.size := by simp; omega
                have hbmb : (ol ++ [(⟨5, 0, 0, (d : Int)⟩ : I)]).length + 1 ≤ maxLen := by rw [hol1]; unfold maxLen; omega
                have hbdb : ((ol ++ [(⟨5, 0, 0, (d : Int)⟩ : I)]).length + 1) * 8 ≤ 140737488355328 := by rw [hol1]; omega
                go_wp2_with (at_builtin; refine wpList_append_own _ rfl (.tmp 93) (.tmp 95) 26 rfl (w.heap.size) 51 i1 _ 4 8 Try.underlying26 hi1 hy0 hy1 hy2 rfl (by decide) vv (ol ++ [(⟨5, 0, 0, (d : Int)⟩ : I)]).length (insCells (ol ++ [⟨5, 0, 0, (d : Int)⟩])) rfl (World.ownsRow.alloc I9 _) ⟨w8.heap.size, 0, none⟩ 1 1 [.int .u16 c, .int .u8 0, .int .u8 1, .int .u32 ik] rfl rfl (news_at (by simp)) (by simp [Value.oneCell']) hbmb hbdb hbsb ?_)
                intro v9 w9 ow gr _
                have p9 : ownsI w9 w.heap.size v9 ((ol ++ [⟨5, 0, 0, (d : Int)⟩]) ++ [⟨c, 0, 1, ik⟩]) := ownsI_snoc (by simp) ow
                have o9 : ownsM w9 w.heap.size (.slice am ms.length cm) ms := World.ownsRow.kept (World.ownsRow.alloc M9 _) gr (own_ne I9 M9 (by decide))
                have B9 : Below w.heap.size w w9 := (N9.alloc hszb _).grown gr hbsb (fun t ht => (World.ownsRow.lt I9 t ht).1)
                clear ow gr hbmb hbdb hbsb
                clear M9 N9 I9 e0 e1 e2 e3 z0 z1 z2 z3 zf xk8 jl
                go_wp2
                go_roundw
                case rel => exact ⟨k', _, _, ms, (ol ++ [⟨5, 0, 0, (d : Int)⟩] ++ [⟨c, 0, 1, ik⟩], mk), by omega, by first | rfl | go_num, rfl, rfl, p9, o9, by omega, HL4, B9⟩
                case measure => simp [intOf]
              · have g1 : (kd == 1) = false := by simpa using h1
                rw [g1] at HL3
                have HL4 : Hid (LdS l k' ms (ol ++ [⟨5, 0, 0, (d : Int)⟩] ++ [⟨c, 1, 0, ik⟩], mk)) := by
                  have := HL3.out
                  show LdS _ _ _ _
                  rw [List.append_assoc]; exact this
                have hbj : Below V3.heap.size V3 ((V3.alloc (.cells #[.int .u16 5, .int .u8 0, .int .u8 0, .int .u32 (d : Int)] 51)).alloc (.cells #[.int .u16 c, .int .u8 0, .int .u8 0, .int .u32 ik] 51)) := ((Below.refl _ _).alloc (Nat.le_refl _) _).alloc (by simp) _
                have J8 := (Box4.new V3 51 (.int .u16 5) (.int .u8 0) (.int .u8 0) (.int .u32 (d : Int))).keep ((Below.refl _ _).alloc (Nat.le_refl _) (.cells #[.int .u16 c, .int .u8 0, .int .u8 0, .int .u32 ik] 51))
                have J9 := Box4.new (V3.alloc (.cells #[.int .u16 5, .int .u8 0, .int .u8 0, .int .u32 (d : Int)] 51)) 51 (.int .u16 c) (.int .u8 0) (.int .u8 0) (.int .u32 ik)
                rw [show (V3.alloc (.cells #[.int .u16 5, .int .u8 0, .int .u8 0, .int .u32 (d : Int)] 51)).heap.size = V3.heap.size + 1 by simp] at J9
                have B3 := below_step hbj B2
                have O3 := own_kept O2 hbj
                have I3 := ownsI_below I2 hbj
                have xk := cell_step hbj x0
                have xk0 : ((V3.alloc (.cells #[.int .u16 5, .int .u8 0, .int .u8 0, .int .u32 (d : Int)] 51)).alloc (.cells #[.int .u16 c, .int .u8 0, .int .u8 0, .int .u32 ik] 51)).cell? ⟨W0.heap.size, 0, none⟩ = _ := cell_step (((Below.refl _ _).alloc (Nat.le_refl _) _).alloc (by simp) _) x0
                have x1a := cell_step ((Below.refl _ _).alloc (Nat.le_refl _) (.cells #[.int .u16 5, .int .u8 0, .int .u8 0, .int .u32 (d : Int)] 51)) x1
                have x4a := cell_step ((Below.refl _ _).alloc (Nat.le_refl _) (.cells #[.int .u16 5, .int .u8 0, .int .u8 0, .int .u32 (d : Int)] 51)) x4
                clear B2 O2 I2 x0 x1 x2 x3 x4 x5
                obtain ⟨j8l, y0, y1, y2, y3, _⟩ := J8
                have hw3s : ((V3.alloc (.cells #[.int .u16 5, .int .u8 0, .int .u8 0, .int .u32 (d : Int)] 51)).alloc (.cells #[.int .u16 c, .int .u8 0, .int .u8 0, .int .u32 ik] 51)).heap.size = V3.heap.size + 2 := by simp
                have hsz := B3.size
                have hbsa : w.heap.size ≤ (((V3.alloc (.cells #[.int .u16 5, .int .u8 0, .int .u8 0, .int .u32 (d : Int)] 51)).alloc (.cells #[.int .u16 c, .int .u8 0, .int .u8 0, .int .u32 ik] 51)).alloc (.cells #[.int .u16 5, .int .u8 0, .int .u8 0, .int .u32 (d : Int)] 51)).heap.size := by simp; omega
                have hbma : ol.length + 1 ≤ maxLen := by unfold maxLen; omega
                have hbda : (ol.length + 1) * 8 ≤ 140737488355328 := by omega
                go_wp2_with (at_builtin; refine wpList_append_lies _ rfl (.tmp 84) (.tmp 86) 26 rfl (w.heap.size) 51 i1 _ 4 8 Try.underlying26 hi1 hy0 hy1 hy2 rfl (by decide) (.slice ai ol.length ci) ol.length (insCells ol) rfl (World.ownsRow.alloc I3 _) ⟨V3.heap.size + 1 + 1, 0, none⟩ 1 1 [.int .u16 5, .int .u8 0, .int .u8 0, .int .u32 (d : Int)] rfl rfl (news_at (by simp)) (by simp [Value.oneCell']) (by omega) hbma hbda hbsa _ rfl ?_)
                intro gg cg w8 ow gr hat _
                have p8 : ownsI w8 w.heap.size (.slice (some ⟨gg, 0, none⟩) (ol.length + 1) cg) (ol ++ [⟨5, 0, 0, (d : Int)⟩]) := ownsI_snoc rfl ow
                have o8 : ownsM w8 w.heap.size (.slice am ms.length cm) ms := World.ownsRow.kept (World.ownsRow.alloc O3 _) gr (own_ne I3 O3 (by decide))
                have B8 : Below w.heap.size w w8 := (B3.alloc hsz _).grown gr hbsa (fun t ht => (World.ownsRow.lt I3 t ht).1)
                have hD9 : ∀ q, (Value.slice ai ol.length ci).ownBlock = some q → q ≠ V3.heap.size + 1 := fun q hq => by have := hqi q hq; omega
                have J9a := (J9.keep ((Below.refl _ _).alloc (Nat.le_refl _) (.cells #[.int .u16 5, .int .u8 0, .int .u8 0, .int .u32 (d : Int)] 51))).grown gr (fun e => hD9 _ e.symm rfl)
                have hW0n : some W0.heap.size ≠ (Value.slice ai ol.length ci).ownBlock := fun e => by have := hqi W0.heap.size e.symm; omega
                have hW0l : W0.heap.size < (((V3.alloc (.cells #[.int .u16 5, .int .u8 0, .int .u8 0, .int .u32 (d : Int)] 51)).alloc (.cells #[.int .u16 c, .int .u8 0, .int .u8 0, .int .u32 ik] 51)).alloc (.cells #[.int .u16 5, .int .u8 0, .int .u8 0, .int .u32 (d : Int)] 51)).heap.size := by simp; omega
                have xk8 : w8.cell? ⟨W0.heap.size, 0, none⟩ = some (.int .i64 kd) := (gr.cell_far ⟨W0.heap.size, 0, none⟩ hW0l hW0n).trans (cell_step ((Below.refl _ _).alloc (Nat.le_refl _) _) xk)
                have hgn : gg ≠ V3.heap.size + 1 := by
                  rcases hat with q | q
                  · exact hD9 gg q
                  · first | omega | (simp at q; omega)
                have O8t : (w8.setCell ⟨V3.heap.size + 1, 1, none⟩ (.int .u8 1)).heap.size = w8.heap.size := by simp
                have I9 : ownsI (w8.setCell ⟨V3.heap.size + 1, 1, none⟩ (.int .u8 1)) w.heap.size (.slice (some ⟨gg, 0, none⟩) (ol.length + 1) cg) (ol ++ [⟨5, 0, 0, (d : Int)⟩]) := row_blockA p8 (fun q hq e => by
                  have : gg = q := by simpa [Value.ownBlock] using hq
                  exact absurd (this.trans e) hgn)
                have M9 : ownsM (w8.setCell ⟨V3.heap.size + 1, 1, none⟩ (.int .u8 1)) w.heap.size (.slice am ms.length cm) ms := row_blockA o8 (fun q hq e => by
                  have hlt8 := (World.ownsRow.lt O3 q hq).2
                  subst e
                  obtain ⟨_, ⟨e1, _⟩ | ⟨g, cap, cur, e1, hb, hg, _⟩⟩ := O3
                  · rw [e1] at hq; cases hq
                  · rw [e1] at hq
                    have : g = V3.heap.size + 1 := by simpa [Value.ownBlock] using hq
                    subst this
                    have e2 : ((V3.alloc (.cells #[.int .u16 5, .int .u8 0, .int .u8 0, .int .u32 (d : Int)] 51)).alloc (.cells #[.int .u16 c, .int .u8 0, .int .u8 0, .int .u32 ik] 51)).heap[V3.heap.size + 1]? = some (.cells #[.int .u16 c, .int .u8 0, .int .u8 0, .int .u32 ik] 51 (0, 0)) := by
                      have := heap_alloc_new (V3.alloc (.cells #[.int .u16 5, .int .u8 0, .int .u8 0, .int .u32 (d : Int)] 51)) (.cells #[.int .u16 c, .int .u8 0, .int .u8 0, .int .u32 ik] 51)
                      rw [show (V3.alloc (.cells #[.int .u16 5, .int .u8 0, .int .u8 0, .int .u32 (d : Int)] 51)).heap.size = V3.heap.size + 1 by simp] at this
                      exact this
                    rw [e2] at hg
                    simp only [Option.some.injEq, Obj.cells.injEq] at hg
                    exact absurd hg.2.1 (by decide))
                have N9 : Below w.heap.size w (w8.setCell ⟨V3.heap.size + 1, 1, none⟩ (.int .u8 1)) := B8.setCell (p := ⟨V3.heap.size + 1, 1, none⟩) (by show w.heap.size ≤ V3.heap.size + 1; have := hWs; omega) _
                obtain ⟨jl, z0, z1, z2, z3, jf9⟩ := J9a
                have zf := jf9 1
                have e0 : (w8.setCell ⟨V3.heap.size + 1, 1, none⟩ (.int .u8 1)).cell? ⟨V3.heap.size + 1, 0, none⟩ = some (.int .u16 c) := cell_near (by omega) z0
                have e1 : (w8.setCell ⟨V3.heap.size + 1, 1, none⟩ (.int .u8 1)).cell? ⟨V3.heap.size + 1, 1, none⟩ = some (.int .u8 1) := World.cell?_setCell_same _ _ _ z1
                have e2 : (w8.setCell ⟨V3.heap.size + 1, 1, none⟩ (.int .u8 1)).cell? ⟨V3.heap.size + 1, 2, none⟩ = some (.int .u8 0) := cell_near (by omega) z2
                have e3 : (w8.setCell ⟨V3.heap.size + 1, 1, none⟩ (.int .u8 1)).cell? ⟨V3.heap.size + 1, 3, none⟩ = some (.int .u32 ik) := cell_near (by omega) z3
                obtain ⟨vv, hvv⟩ : ∃ vv, Value.slice (some ⟨gg, 0, none⟩) (ol.length + 1) cg = vv := ⟨_, rfl⟩
                clear jf9 HL3 J9 ow gr hat y0 y1 y2 y3 xk xk0 x1a x4a I3 O3 B3 p8 o8 B8 hbma hbda hbsa hD9
                have hszb := N9.size
                rw [hvv] at I9 ⊢
                have hol1 : (ol ++ [(⟨5, 0, 0, (d : Int)⟩ : I)]).length = ol.length + 1 := by simp
                have hbsb : w.heap.size ≤ ((w8.setCell ⟨V3.heap.size + 1, 1, none⟩ (.int .u8 1)).alloc (.cells #[.int .u16 c, .int .u8 1, .int .u8 0, .int .u32 ik] 51)).heap.size := by simp; omega
                have hbmb : (ol ++ [(⟨5, 0, 0, (d : Int)⟩ : I)]).length + 1 ≤ maxLen := by rw [hol1]; unfold maxLen; omega
                have hbdb : ((ol ++ [(⟨5, 0, 0, (d : Int)⟩ : I)]).length + 1) * 8 ≤ 140737488355328 := by rw [hol1]; omega
                go_wp2_with (at_builtin; refine wpList_append_own _ rfl (.tmp 93) (.tmp 95) 26 rfl (w.heap.size) 51 i1 _ 4 8 Try.underlying26 hi1 hy0 hy1 hy2 rfl (by decide) vv (ol ++ [(⟨5, 0, 0, (d : Int)⟩ : I)]).length (insCells (ol ++ [⟨5, 0, 0, (d : Int)⟩])) rfl (World.ownsRow.alloc I9 _) ⟨w8.heap.size, 0, none⟩ 1 1 [.int .u16 c, .int .u8 1, .int .u8 0, .int .u32 ik] rfl rfl (news_at (by simp)) (by simp [Value.oneCell']) hbmb hbdb hbsb ?_)
                intro v9 w9 ow gr _
                have p9 : ownsI w9 w.heap.size v9 ((ol ++ [⟨5, 0, 0, (d : Int)⟩]) ++ [⟨c, 1, 0, ik⟩]) := ownsI_snoc (by simp) ow
                have o9 : ownsM w9 w.heap.size (.slice am ms.length cm) ms := World.ownsRow.kept (World.ownsRow.alloc M9 _) gr (own_ne I9 M9 (by decide))
                have B9 : Below w.heap.size w w9 := (N9.alloc hszb _).grown gr hbsb (fun t ht => (World.ownsRow.lt I9 t ht).1)
                clear ow gr hbmb hbdb hbsb
                clear M9 N9 I9 e0 e1 e2 e3 z0 z1 z2 z3 zf xk8 jl
                go_wp2
                go_roundw
                case rel => exact ⟨k', _, _, ms, (ol ++ [⟨5, 0, 0, (d : Int)⟩] ++ [⟨c, 1, 0, ik⟩], mk), by omega, by first | rfl | go_num, rfl, rfl, p9, o9, by omega, HL4, B9⟩
                case measure => simp [intOf]
    · have HPo : Hid (LaidPost l w (.returned (.slice ai st.1.length ci)) W0) := ⟨_, k, ms, st, rfl, hOI, HOk.out, by omega, B⟩
      clear HP HF H0 HLab HPl HBr HLen HOk hO hOI
      generalize st.1.length = ln at *
      by_cases hk1 : 0 < k
      · obtain ⟨k', rfl⟩ : ∃ k', k = k' + 1 := ⟨k - 1, by omega⟩
        have hk' : ((k' + 1 : Nat) : Int) - 1 = (k' : Int) := by omega
        rw [hk']
        have hkk : (0 : Int) ≤ (k' : Int) := by omega
        have hbig : ¬ (ln : Int) ≤ 4096 := by omega
        clear hk0
        go_wp2
        go_ret
        exact HPo.out
      · have hk1 : k = 0 := by omega
        subst hk1
        go_wp2
        go_ret
        exact HPo.out
end Go.Proofs.Ytoopomjkapeknaa
namespace Go.Proofs.Ytoopomjkapeknaa
open Go.RowKit
set_option linter.unusedVariables false

/-- cells of other kinds stay -/
def FarW (w w' : World) : Prop := ∀ (q : Nat) (c : Array Value) (t : TypeId) (f : Nat × Nat), w.heap[q]? = some (.cells c t f) → t ≠ 68 → t ≠ 45 → w'.heap[q]? = some (.cells c t f)
theorem FarW.of_below {w w' : World} (h : Below w.heap.size w w') : FarW w w' := fun q c t f hq _ _ => (h.block q (Array.getElem?_eq_some_iff.1 hq).1).trans hq
structure KW (F : Nat) (w w' : World) : Prop where
  b : Below F w w'
  f : FarW w w'
theorem KW.refl (F : Nat) (w : World) : KW F w w := ⟨Below.refl _ _, fun _ _ _ _ h _ _ => h⟩
theorem KW.trans {F : Nat} {a b c : World} (h : KW F a b) (k : KW F b c) : KW F a c := ⟨h.b.trans k.b, fun q cc t f h0 h1 h2 => k.f q cc t f (h.f q cc t f h0 h1 h2) h1 h2⟩
theorem KW.of_below {F : Nat} {w w' : World} (h : Below w.heap.size w w') (hF : F ≤ w.heap.size) : KW F w w' := ⟨h.mono hF, FarW.of_below h⟩
theorem own_typeW {w : World} {B e s n q : Nat} {v : Value} {xs : List Value} (h : w.ownsRow B e s v n xs) (hj : v.ownBlock = some q) {c : Array Value} {t : TypeId} {f : Nat × Nat} (hq : w.heap[q]? = some (.cells c t f)) : t = e := by
  obtain ⟨_, ⟨rfl, _⟩ | ⟨g, cap, cur, rfl, hb, hgc, _⟩⟩ := h
  · cases hj
  · have : g = q := by simpa [Value.ownBlock] using hj
    subst this
    rw [hgc] at hq; cases hq; rfl
/-- a writer at F, its items, the number of its labels -/
structure WrS (w : World) (F : Nat) (v : Value) (p : List It) (n : Int) : Prop where
  c0 : w.cell? ⟨F, 0, none⟩ = some v
  c1 : w.cell? ⟨F, 1, none⟩ = some (.int .i64 n)
  f0 : w.frozen? ⟨F, 0, none⟩ = false
  f1 : w.frozen? ⟨F, 1, none⟩ = false
  ty : ∃ c f, w.heap[F]? = some (.cells c 45 f)
  own : ownsT w (F + 1) v p
theorem WrS.lt {w : World} {F : Nat} {v : Value} {p : List It} {n : Int} (h : WrS w F v p n) : F < w.heap.size := cell_ltK h.c0
theorem WrS.keep {w w' : World} {F : Nat} {v : Value} {p : List It} {n : Int} (h : WrS w F v p n) (hb : Below w.heap.size w w') : WrS w' F v p n :=
  ⟨(hb.cell (p := ⟨F, 0, none⟩) h.lt).trans h.c0, (hb.cell (p := ⟨F, 1, none⟩) h.lt).trans h.c1, (hb.frozen (p := ⟨F, 0, none⟩) h.lt).trans h.f0, (hb.frozen (p := ⟨F, 1, none⟩) h.lt).trans h.f1, (by obtain ⟨c, f, e⟩ := h.ty; exact ⟨c, f, (hb.block F h.lt).trans e⟩), ownsT_below h.own hb⟩
theorem set_other {w : World} {F i : Nat} {x : Value} {q : Nat} (h : q ≠ F) : (w.setCell ⟨F, i, none⟩ x).heap[q]? = w.heap[q]? := by
  simp only [World.setCell, Array.getElem?_modify]
  rw [if_neg (fun e => h e.symm)]
theorem set_type {w : World} {F i : Nat} {x : Value} {t : TypeId} (h : ∃ c f, w.heap[F]? = some (.cells c t f)) : ∃ c f, (w.setCell ⟨F, i, none⟩ x).heap[F]? = some (.cells c t f) := by
  obtain ⟨c, f, e⟩ := h
  exact ⟨_, f, by simp only [World.setCell, Array.getElem?_modify]; rw [if_pos trivial, e]; rfl⟩
theorem ownsT_set {w : World} {F i : Nat} {v x : Value} {p : List It} (h : ownsT w (F + 1) v p) : ownsT (w.setCell ⟨F, i, none⟩ x) (F + 1) v p := by
  refine World.ownsRow.kept (row := some F) h ⟨rfl, rfl, rfl, by simp [World.setCell], fun q hq hne => set_other (fun e => hne (by rw [e]))⟩ (.inr fun e => ?_)
  have := (h.lt F e).1
  omega
theorem FarW.set {w : World} {F i : Nat} {x : Value} (h : ∃ c f, w.heap[F]? = some (.cells c 45 f)) : FarW w (w.setCell ⟨F, i, none⟩ x) := fun q c t f hq h1 h2 => by
  have hne : q ≠ F := fun e => by
    subst e
    obtain ⟨c', f', e⟩ := h
    rw [e] at hq; cases hq; exact h2 rfl
  rw [set_other hne]; exact hq
theorem itCs_snoc (p : List It) (x : It) : itCs (p ++ [x]) = itCs p ++ itC x := by simp [itCs]
theorem WrS.next {w w1 : World} {F gg cap : Nat} {v : Value} {p : List It} {n : Int} {x : It} (h : WrS w F v p n)
    (hown : w1.ownsRow (F + 1) 68 6 (.slice (some ⟨gg, 0, none⟩) (p.length + 1) cap) (p.length + 1) (itCs p ++ itC x)) (hg : w.grownBy w1 v.ownBlock) :
    w1.cell? ⟨F, 0, none⟩ = some v ∧ w1.frozen? ⟨F, 0, none⟩ = false ∧ WrS (w1.setCell ⟨F, 0, none⟩ (.slice (some ⟨gg, 0, none⟩) (p.length + 1) cap)) F (.slice (some ⟨gg, 0, none⟩) (p.length + 1) cap) (p ++ [x]) n ∧ KW F w (w1.setCell ⟨F, 0, none⟩ (.slice (some ⟨gg, 0, none⟩) (p.length + 1) cap)) := by
  have hlt := h.lt
  have ne : some F ≠ v.ownBlock := fun e => by have := (h.own.lt F e.symm).1; omega
  have x1 := (hg.cell_far ⟨F, 0, none⟩ hlt ne).trans h.c0
  have x2 := (hg.frozen_far ⟨F, 0, none⟩ hlt ne).trans h.f0
  have x3 := (hg.cell_far ⟨F, 1, none⟩ hlt ne).trans h.c1
  have x4 := (hg.frozen_far ⟨F, 1, none⟩ hlt ne).trans h.f1
  have x5 : ∃ c f, w1.heap[F]? = some (.cells c 45 f) := by obtain ⟨c, f, e⟩ := h.ty; exact ⟨c, f, (hg.block F hlt ne).trans e⟩
  have o1 : ownsT w1 (F + 1) (.slice (some ⟨gg, 0, none⟩) (p.length + 1) cap) (p ++ [x]) := by
    unfold ownsT
    rw [itCs_snoc, List.length_append]
    exact hown
  have hB : Below F w w1 := (Below.refl F w).grown hg (Nat.le_of_lt hlt) (fun z hz => by have := (h.own.lt z hz).1; omega)
  refine ⟨x1, x2, ⟨World.cell?_setCell_same _ _ _ x1, by rw [World.cell?_setCell_other _ _ _ _ (by intro e; injection e with e1 e2; cases e2)]; exact x3, by rw [World.frozen?_setCell]; exact x2, by rw [World.frozen?_setCell]; exact x4, set_type x5, ownsT_set o1⟩, hB.setCell (p := ⟨F, 0, none⟩) (Nat.le_refl _) _, fun q c t f hq h1 h2 => ?_⟩
  refine FarW.set x5 q c t f ?_ h1 h2
  exact (hg.block q (Array.getElem?_eq_some_iff.1 hq).1 (fun e => h1 (own_typeW h.own e.symm hq))).trans hq
theorem WrS.labels {w : World} {F : Nat} {v : Value} {p : List It} {n : Int} (h : WrS w F v p n) (k : Int) : WrS (w.setCell ⟨F, 1, none⟩ (.int .i64 k)) F v p k ∧ KW F w (w.setCell ⟨F, 1, none⟩ (.int .i64 k)) :=
  ⟨⟨by rw [World.cell?_setCell_other _ _ _ _ (by intro e; injection e with e1 e2; cases e2)]; exact h.c0, World.cell?_setCell_same _ _ _ h.c1, by rw [World.frozen?_setCell]; exact h.f0, by rw [World.frozen?_setCell]; exact h.f1, set_type h.ty, ownsT_set h.own⟩, (Below.refl F w).setCell (p := ⟨F, 1, none⟩) (Nat.le_refl _) _, FarW.set h.ty⟩

/-- what a step of the writer leaves: its items, its labels -/
def WrPost (F : Nat) (p : List It) (n : Int) (w : World) (e : Ending) (w' : World) : Prop := e = .returned (.tuple #[]) ∧ (∃ v', WrS w' F v' p n) ∧ KW F w w'

set_option maxRecDepth 100000 in
set_option maxHeartbeats 1000000 in
theorem newLabel_any (w : World) (F : Nat) (v : Value) (p : List It) (n : Int) (hS : WrS w F v p n) (h0 : 0 ≤ n) (h1 : n ≤ 1000000) :
    Calls Try.prog 58 #[.pointer (some ⟨F, 0, none⟩)] w fun e w' => e = .returned (.int .i64 (n + 1)) ∧ WrS w' F v p (n + 1) ∧ KW F w w' := by
  have c1 := hS.c1
  have f1 := hS.f1
  have HF : Hid (WrS (w.setCell ⟨F, 1, none⟩ (.int .i64 (n + 1))) F v p (n + 1) ∧ KW F w (w.setCell ⟨F, 1, none⟩ (.int .i64 (n + 1)))) := hS.labels (n + 1)
  have hw : IntKind.i64.wrap (n + 1) = n + 1 := by rw [IntKind.wrap_i64]; omega
  clear hS
  go_enter Try.func58, Try.ntmps58
  go_wp2
  go_ret
  exact ⟨ret_int (by first | rfl | omega), HF.out⟩
set_option maxRecDepth 100000 in
set_option maxHeartbeats 1000000 in
theorem label_any (w : World) (F : Nat) (v : Value) (p : List It) (n : Int) (t : Int) (hS : WrS w F v p n) (hn : p.length ≤ 1000000) :
    Calls Try.prog 40 #[.pointer (some ⟨F, 0, none⟩), .int .i64 t] w fun e w' => WrPost F (p ++ [itLb t]) n w e w' := by
  obtain ⟨i0, hi, hz0, hz1, hz2⟩ := info_parts infoItem
  have hbm : p.length + 1 ≤ maxLen := by unfold maxLen; omega
  have hbd : (p.length + 1) * 24 ≤ 140737488355328 := by omega
  have hlt := hS.lt
  have hbs : F + 1 ≤ (w.alloc (.cells #[.int .i64 4, .int .u16 0, .int .u8 0, .int .u8 0, .int .u32 0, .int .i64 t] 68)).heap.size := by simp; omega
  have hb : Below w.heap.size w (w.alloc (.cells #[.int .i64 4, .int .u16 0, .int .u8 0, .int .u8 0, .int .u32 0, .int .i64 t] 68)) := (Below.refl _ _).alloc (Nat.le_refl _) _
  have c0 := hS.c0
  have HS1 : Hid (WrS (w.alloc (.cells #[.int .i64 4, .int .u16 0, .int .u8 0, .int .u8 0, .int .u32 0, .int .i64 t] 68)) F v p n) := hS.keep hb
  have HK1 : Hid (KW F w (w.alloc (.cells #[.int .i64 4, .int .u16 0, .int .u8 0, .int .u8 0, .int .u32 0, .int .i64 t] 68))) := KW.of_below hb (Nat.le_of_lt hlt)
  have HO : Hid ((w.alloc (.cells #[.int .i64 4, .int .u16 0, .int .u8 0, .int .u8 0, .int .u32 0, .int .i64 t] 68)).ownsRow (F + 1) 68 6 v p.length (itCs p)) := HS1.out.own
  have HP : Hid (∀ e w', e = .returned (.tuple #[]) → (∃ v', WrS w' F v' (p ++ [itLb t]) n) → KW F w w' → WrPost F (p ++ [itLb t]) n w e w') := fun e w' h1 h2 h3 => ⟨h1, h2, h3⟩
  clear hS hb
  go_enter Try.func40, Try.ntmps40
  go_wp2_with (at_builtin; refine wpList_append_lies _ rfl (.tmp 8) (.tmp 11) 41 rfl (F + 1) 68 i0 _ 6 24 Try.underlying41 hi hz0 hz1 hz2 rfl (by decide) v p.length (itCs p) rfl HO.out ⟨w.heap.size, 0, none⟩ 1 1 [.int .i64 4, .int .u16 0, .int .u8 0, .int .u8 0, .int .u32 0, .int .i64 t] rfl rfl (news_at (by simp)) (by simp [Value.oneCell']) (by omega) hbm hbd hbs _ rfl ?_)
  intro gg cap w1 ow gr hat hlt2
  obtain ⟨x1, x2, x3, x4⟩ := WrS.next (x := itLb t) HS1.out ow gr
  have HF : Hid (WrPost F (p ++ [itLb t]) n w (.returned (.tuple #[])) (w1.setCell ⟨F, 0, none⟩ (.slice (some ⟨gg, 0, none⟩) (p.length + 1) cap))) := HP.out _ _ rfl ⟨_, x3⟩ (HK1.out.trans x4)
  clear ow gr hat hlt2 x3 x4 HS1 HK1 HO HP
  go_wp2
  go_end0
  exact HF.out

set_option maxRecDepth 100000 in
set_option maxHeartbeats 1000000 in
theorem ins_any (w : World) (F : Nat) (v : Value) (p : List It) (n : Int) (c k : Int) (hS : WrS w F v p n) (hn : p.length ≤ 1000000) :
    Calls Try.prog 41 #[.pointer (some ⟨F, 0, none⟩), .int .u16 c, .int .u32 k] w fun e w' => WrPost F (p ++ [itIn c k]) n w e w' := by
  obtain ⟨i0, hi, hz0, hz1, hz2⟩ := info_parts infoItem
  have hbm : p.length + 1 ≤ maxLen := by unfold maxLen; omega
  have hbd : (p.length + 1) * 24 ≤ 140737488355328 := by omega
  have hlt := hS.lt
  have hbs : F + 1 ≤ (w.alloc (.cells #[.int .i64 0, .int .u16 c, .int .u8 0, .int .u8 0, .int .u32 k, .int .i64 0] 68)).heap.size := by simp; omega
  have hb : Below w.heap.size w (w.alloc (.cells #[.int .i64 0, .int .u16 c, .int .u8 0, .int .u8 0, .int .u32 k, .int .i64 0] 68)) := (Below.refl _ _).alloc (Nat.le_refl _) _
  have c0 := hS.c0
  have HS1 : Hid (WrS (w.alloc (.cells #[.int .i64 0, .int .u16 c, .int .u8 0, .int .u8 0, .int .u32 k, .int .i64 0] 68)) F v p n) := hS.keep hb
  have HK1 : Hid (KW F w (w.alloc (.cells #[.int .i64 0, .int .u16 c, .int .u8 0, .int .u8 0, .int .u32 k, .int .i64 0] 68))) := KW.of_below hb (Nat.le_of_lt hlt)
  have HO : Hid ((w.alloc (.cells #[.int .i64 0, .int .u16 c, .int .u8 0, .int .u8 0, .int .u32 k, .int .i64 0] 68)).ownsRow (F + 1) 68 6 v p.length (itCs p)) := HS1.out.own
  have HP : Hid (∀ e w', e = .returned (.tuple #[]) → (∃ v', WrS w' F v' (p ++ [itIn c k]) n) → KW F w w' → WrPost F (p ++ [itIn c k]) n w e w') := fun e w' h1 h2 h3 => ⟨h1, h2, h3⟩
  clear hS hb
  go_enter Try.func41, Try.ntmps41
  go_wp2_with (at_builtin; refine wpList_append_lies _ rfl (.tmp 10) (.tmp 15) 41 rfl (F + 1) 68 i0 _ 6 24 Try.underlying41 hi hz0 hz1 hz2 rfl (by decide) v p.length (itCs p) rfl HO.out ⟨w.heap.size, 0, none⟩ 1 1 [.int .i64 0, .int .u16 c, .int .u8 0, .int .u8 0, .int .u32 k, .int .i64 0] rfl rfl (news_at (by simp)) (by simp [Value.oneCell']) (by omega) hbm hbd hbs _ rfl ?_)
  intro gg cap w1 ow gr hat hlt2
  obtain ⟨x1, x2, x3, x4⟩ := WrS.next (x := itIn c k) HS1.out ow gr
  have HF : Hid (WrPost F (p ++ [itIn c k]) n w (.returned (.tuple #[])) (w1.setCell ⟨F, 0, none⟩ (.slice (some ⟨gg, 0, none⟩) (p.length + 1) cap))) := HP.out _ _ rfl ⟨_, x3⟩ (HK1.out.trans x4)
  clear ow gr hat hlt2 x3 x4 HS1 HK1 HO HP
  go_wp2
  go_end0
  exact HF.out

set_option maxRecDepth 100000 in
set_option maxHeartbeats 1000000 in
theorem goIf_any (w : World) (F : Nat) (v : Value) (p : List It) (n : Int) (c k t : Int) (hS : WrS w F v p n) (hn : p.length ≤ 1000000) :
    Calls Try.prog 73 #[.pointer (some ⟨F, 0, none⟩), .int .u16 c, .int .u32 k, .int .i64 t] w fun e w' => WrPost F (p ++ [itIf c k t]) n w e w' := by
  obtain ⟨i0, hi, hz0, hz1, hz2⟩ := info_parts infoItem
  have hbm : p.length + 1 ≤ maxLen := by unfold maxLen; omega
  have hbd : (p.length + 1) * 24 ≤ 140737488355328 := by omega
  have hlt := hS.lt
  have hbs : F + 1 ≤ (w.alloc (.cells #[.int .i64 1, .int .u16 c, .int .u8 0, .int .u8 0, .int .u32 k, .int .i64 t] 68)).heap.size := by simp; omega
  have hb : Below w.heap.size w (w.alloc (.cells #[.int .i64 1, .int .u16 c, .int .u8 0, .int .u8 0, .int .u32 k, .int .i64 t] 68)) := (Below.refl _ _).alloc (Nat.le_refl _) _
  have c0 := hS.c0
  have HS1 : Hid (WrS (w.alloc (.cells #[.int .i64 1, .int .u16 c, .int .u8 0, .int .u8 0, .int .u32 k, .int .i64 t] 68)) F v p n) := hS.keep hb
  have HK1 : Hid (KW F w (w.alloc (.cells #[.int .i64 1, .int .u16 c, .int .u8 0, .int .u8 0, .int .u32 k, .int .i64 t] 68))) := KW.of_below hb (Nat.le_of_lt hlt)
  have HO : Hid ((w.alloc (.cells #[.int .i64 1, .int .u16 c, .int .u8 0, .int .u8 0, .int .u32 k, .int .i64 t] 68)).ownsRow (F + 1) 68 6 v p.length (itCs p)) := HS1.out.own
  have HP : Hid (∀ e w', e = .returned (.tuple #[]) → (∃ v', WrS w' F v' (p ++ [itIf c k t]) n) → KW F w w' → WrPost F (p ++ [itIf c k t]) n w e w') := fun e w' h1 h2 h3 => ⟨h1, h2, h3⟩
  clear hS hb
  go_enter Try.func73, Try.ntmps73
  go_wp2_with (at_builtin; refine wpList_append_lies _ rfl (.tmp 12) (.tmp 18) 41 rfl (F + 1) 68 i0 _ 6 24 Try.underlying41 hi hz0 hz1 hz2 rfl (by decide) v p.length (itCs p) rfl HO.out ⟨w.heap.size, 0, none⟩ 1 1 [.int .i64 1, .int .u16 c, .int .u8 0, .int .u8 0, .int .u32 k, .int .i64 t] rfl rfl (news_at (by simp)) (by simp [Value.oneCell']) (by omega) hbm hbd hbs _ rfl ?_)
  intro gg cap w1 ow gr hat hlt2
  obtain ⟨x1, x2, x3, x4⟩ := WrS.next (x := itIf c k t) HS1.out ow gr
  have HF : Hid (WrPost F (p ++ [itIf c k t]) n w (.returned (.tuple #[])) (w1.setCell ⟨F, 0, none⟩ (.slice (some ⟨gg, 0, none⟩) (p.length + 1) cap))) := HP.out _ _ rfl ⟨_, x3⟩ (HK1.out.trans x4)
  clear ow gr hat hlt2 x3 x4 HS1 HK1 HO HP
  go_wp2
  go_end0
  exact HF.out

set_option maxRecDepth 100000 in
set_option maxHeartbeats 1000000 in
theorem goUnless_any (w : World) (F : Nat) (v : Value) (p : List It) (n : Int) (c k t : Int) (hS : WrS w F v p n) (hn : p.length ≤ 1000000) :
    Calls Try.prog 59 #[.pointer (some ⟨F, 0, none⟩), .int .u16 c, .int .u32 k, .int .i64 t] w fun e w' => WrPost F (p ++ [itUn c k t]) n w e w' := by
  obtain ⟨i0, hi, hz0, hz1, hz2⟩ := info_parts infoItem
  have hbm : p.length + 1 ≤ maxLen := by unfold maxLen; omega
  have hbd : (p.length + 1) * 24 ≤ 140737488355328 := by omega
  have hlt := hS.lt
  have hbs : F + 1 ≤ (w.alloc (.cells #[.int .i64 2, .int .u16 c, .int .u8 0, .int .u8 0, .int .u32 k, .int .i64 t] 68)).heap.size := by simp; omega
  have hb : Below w.heap.size w (w.alloc (.cells #[.int .i64 2, .int .u16 c, .int .u8 0, .int .u8 0, .int .u32 k, .int .i64 t] 68)) := (Below.refl _ _).alloc (Nat.le_refl _) _
  have c0 := hS.c0
  have HS1 : Hid (WrS (w.alloc (.cells #[.int .i64 2, .int .u16 c, .int .u8 0, .int .u8 0, .int .u32 k, .int .i64 t] 68)) F v p n) := hS.keep hb
  have HK1 : Hid (KW F w (w.alloc (.cells #[.int .i64 2, .int .u16 c, .int .u8 0, .int .u8 0, .int .u32 k, .int .i64 t] 68))) := KW.of_below hb (Nat.le_of_lt hlt)
  have HO : Hid ((w.alloc (.cells #[.int .i64 2, .int .u16 c, .int .u8 0, .int .u8 0, .int .u32 k, .int .i64 t] 68)).ownsRow (F + 1) 68 6 v p.length (itCs p)) := HS1.out.own
  have HP : Hid (∀ e w', e = .returned (.tuple #[]) → (∃ v', WrS w' F v' (p ++ [itUn c k t]) n) → KW F w w' → WrPost F (p ++ [itUn c k t]) n w e w') := fun e w' h1 h2 h3 => ⟨h1, h2, h3⟩
  clear hS hb
  go_enter Try.func59, Try.ntmps59
  go_wp2_with (at_builtin; refine wpList_append_lies _ rfl (.tmp 12) (.tmp 18) 41 rfl (F + 1) 68 i0 _ 6 24 Try.underlying41 hi hz0 hz1 hz2 rfl (by decide) v p.length (itCs p) rfl HO.out ⟨w.heap.size, 0, none⟩ 1 1 [.int .i64 2, .int .u16 c, .int .u8 0, .int .u8 0, .int .u32 k, .int .i64 t] rfl rfl (news_at (by simp)) (by simp [Value.oneCell']) (by omega) hbm hbd hbs _ rfl ?_)
  intro gg cap w1 ow gr hat hlt2
  obtain ⟨x1, x2, x3, x4⟩ := WrS.next (x := itUn c k t) HS1.out ow gr
  have HF : Hid (WrPost F (p ++ [itUn c k t]) n w (.returned (.tuple #[])) (w1.setCell ⟨F, 0, none⟩ (.slice (some ⟨gg, 0, none⟩) (p.length + 1) cap))) := HP.out _ _ rfl ⟨_, x3⟩ (HK1.out.trans x4)
  clear ow gr hat hlt2 x3 x4 HS1 HK1 HO HP
  go_wp2
  go_end0
  exact HF.out

set_option maxHeartbeats 1000000 in
theorem load_any (w : World) (F : Nat) (v : Value) (p : List It) (n : Int) (a : Int) (hS : WrS w F v p n) (hn : p.length ≤ 1000000) (h0 : 0 ≤ a) (h1 : a ≤ 1000) :
    Calls Try.prog 37 #[.pointer (some ⟨F, 0, none⟩), .int .i64 a] w fun e w' => WrPost F (p ++ [itLd a]) n w e w' := by
  have HI : Hid (Calls Try.prog 41 #[.pointer (some ⟨F, 0, none⟩), .int .u16 32, .int .u32 a] w fun e w' => e = .returned (.tuple #[]) ∧ WrPost F (p ++ [itLd a]) n w (.returned (.tuple #[])) w') := (ins_any w F v p n 32 a hS hn).mono (fun e w' h => ⟨h.1, ⟨rfl, h.2⟩⟩)
  have hw : IntKind.u32.wrap a = a := by rw [IntKind.wrap_u32']; omega
  clear hS
  go_enter Try.func37, Try.ntmps37
  go_wp2_with fail
  refine (HI.out).mono ?_
  rintro _ w1 ⟨rfl, hF⟩
  have HF : Hid (WrPost F (p ++ [itLd a]) n w (.returned (.tuple #[])) w1) := hF
  clear hF HI
  go_wp2
  go_end0
  exact HF.out
end Go.Proofs.Ytoopomjkapeknaa
namespace Go.Proofs.Ytoopomjkapeknaa
open Go.RowKit
set_option linter.unusedVariables false

set_option maxHeartbeats 400000 in
theorem upperHalf_any (a : Nat) (w : World) (ha : a ≤ 18446744073709551615) : Calls Try.prog 85 #[.int .u64 (a : Int)] w fun e w' => e = .returned (.int .u32 (upH a)) ∧ w' = w := by
  have hu : upH a = ((a / 4294967296 : Nat) : Int) := rfl
  go_enter Try.func85, Try.ntmps85
  go_wp2
  go_ret
  exact ⟨ret_int (by rw [hu]; omega), rfl⟩
set_option maxHeartbeats 400000 in
theorem lowerHalf_any (a : Nat) (w : World) (ha : a ≤ 18446744073709551615) : Calls Try.prog 86 #[.int .u64 (a : Int)] w fun e w' => e = .returned (.int .u32 (loH a)) ∧ w' = w := by
  have hu : loH a = ((a % 4294967296 : Nat) : Int) := rfl
  go_enter Try.func86, Try.ntmps86
  go_wp2
  go_ret
  exact ⟨ret_int (by rw [hu]; omega), rfl⟩

set_option maxRecDepth 100000 in
set_option maxHeartbeats 2000000 in
theorem maskHalf_any (w : World) (F : Nat) (v : Value) (p : List It) (n : Int) (m b a fail : Int) (hS : WrS w F v p n) (hn : p.length ≤ 900000) (h0 : 0 ≤ a) (h1 : a ≤ 1000) :
    Calls Try.prog 84 #[.pointer (some ⟨F, 0, none⟩), .int .u32 m, .int .u32 b, .int .i64 a, .int .i64 fail] w fun e w' => WrPost F (p ++ mskI a m b fail) n w e w' := by
  have HL : Hid (∀ w1 v1 q, WrS w1 F v1 q n → q.length ≤ 1000000 → Calls Try.prog 37 #[.pointer (some ⟨F, 0, none⟩), .int .i64 a] w1 fun e w' => e = .returned (.tuple #[]) ∧ (∃ v', WrS w' F v' (q ++ [itLd a]) n) ∧ KW F w1 w') := fun w1 v1 q h hq => load_any w1 F v1 q n a h hq h0 h1
  have HI : Hid (∀ w1 v1 q, WrS w1 F v1 q n → q.length ≤ 1000000 → Calls Try.prog 41 #[.pointer (some ⟨F, 0, none⟩), .int .u16 84, .int .u32 m] w1 fun e w' => e = .returned (.tuple #[]) ∧ (∃ v', WrS w' F v' (q ++ [itIn 84 m]) n) ∧ KW F w1 w') := fun w1 v1 q h hq => ins_any w1 F v1 q n 84 m h hq
  have HU : Hid (∀ w1 v1 q, WrS w1 F v1 q n → q.length ≤ 1000000 → Calls Try.prog 59 #[.pointer (some ⟨F, 0, none⟩), .int .u16 21, .int .u32 b, .int .i64 fail] w1 fun e w' => e = .returned (.tuple #[]) ∧ (∃ v', WrS w' F v' (q ++ [itUn 21 b fail]) n) ∧ KW F w1 w') := fun w1 v1 q h hq => goUnless_any w1 F v1 q n 21 b fail h hq
  have HP : Hid (∀ w' v' q, p ++ mskI a m b fail = q → WrS w' F v' q n → KW F w w' → WrPost F (p ++ mskI a m b fail) n w (.returned (.tuple #[])) w') := fun w' v' q e h2 h3 => ⟨rfl, ⟨v', e ▸ h2⟩, h3⟩
  have HE0 : Hid (m = 0 → p ++ mskI a m b fail = p) := fun h => by unfold mskI; rw [if_pos h, List.append_nil]
  have HE1 : Hid (m ≠ 0 → m = 4294967295 → p ++ mskI a m b fail = p ++ [itLd a] ++ [itUn 21 b fail]) := fun h h' => by unfold mskI; rw [if_neg h, if_pos h']; simp
  have HE2 : Hid (m ≠ 0 → m ≠ 4294967295 → p ++ mskI a m b fail = p ++ [itLd a] ++ [itIn 84 m] ++ [itUn 21 b fail]) := fun h h' => by unfold mskI; rw [if_neg h, if_neg h']; simp
  generalize mskI a m b fail = ml at *
  go_enter Try.func84, Try.ntmps84
  by_cases hm : m = 0
  · have HF : Hid (WrPost F (p ++ ml) n w (.returned (.tuple #[])) w) := HP.out w v p (HE0.out hm) hS (KW.refl _ _)
    subst hm
    clear HL HI HU HP HE0 HE1 HE2 hS
    go_wp2
    exact bodyPost_ret (v := .tuple #[]) (by simp [results, Try.results84]) rfl HF.out
  · have hm' : (m == 0) = false := by simpa using hm
    by_cases hx : m = 4294967295
    · have hE := HE1.out hm hx
      have HE : Hid (p ++ ml = p ++ [itLd a] ++ [itUn 21 b fail]) := hE
      clear hE HE0 HE1 HE2 HI hm hm'
      subst hx
      go_wp2_with fail
      refine (HL.out _ v p hS (by omega)).mono ?_
      rintro _ w1 ⟨rfl, ⟨v1, hS1⟩, hK1⟩
      go_wp2_with fail
      refine (HU.out _ v1 _ hS1 (by simp; omega)).mono ?_
      rintro _ w2 ⟨rfl, ⟨v2, hS2⟩, hK2⟩
      have HF : Hid (WrPost F (p ++ ml) n w (.returned (.tuple #[])) w2) := HP.out w2 v2 _ HE.out hS2 (hK1.trans hK2)
      clear HL HU HP HE hS hS1 hS2 hK1 hK2
      go_wp2
      go_end0
      exact HF.out
    · have hE := HE2.out hm hx
      have HE : Hid (p ++ ml = p ++ [itLd a] ++ [itIn 84 m] ++ [itUn 21 b fail]) := hE
      have hx' : (m == 4294967295) = false := by simpa using hx
      have hx2 : (m != 4294967295) = true := by simpa using hx
      clear hE HE0 HE1 HE2
      go_wp2_with fail
      refine (HL.out _ v p hS (by omega)).mono ?_
      rintro _ w1 ⟨rfl, ⟨v1, hS1⟩, hK1⟩
      go_wp2_with fail
      refine (HI.out _ v1 _ hS1 (by simp; omega)).mono ?_
      rintro _ w2 ⟨rfl, ⟨v2, hS2⟩, hK2⟩
      go_wp2_with fail
      refine (HU.out _ v2 _ hS2 (by simp; omega)).mono ?_
      rintro _ w3 ⟨rfl, ⟨v3, hS3⟩, hK3⟩
      have HF : Hid (WrPost F (p ++ ml) n w (.returned (.tuple #[])) w3) := HP.out w3 v3 _ HE.out hS3 ((hK1.trans hK2).trans hK3)
      clear HL HI HU HP HE hS hS1 hS2 hS3 hK1 hK2 hK3
      go_wp2
      go_end0
      exact HF.out
set_option maxRecDepth 100000 in
set_option maxHeartbeats 4000000 in
theorem lowBound_any (w : World) (F : Nat) (v : Value) (p : List It) (n : Int) (x : Nat) (a fail : Int) (hS : WrS w F v p n) (hn : p.length ≤ 900000) (h0 : 0 ≤ a) (h1 : a ≤ 900) (hx : x ≤ 18446744073709551615) (hn0 : 0 ≤ n) (hn1 : n ≤ 900000) :
    Calls Try.prog 87 #[.pointer (some ⟨F, 0, none⟩), .int .u64 (x : Int), .int .i64 a, .int .i64 fail] w fun e w' => WrPost F (p ++ lowP x a fail (n + 1)) (if x = 0 then n else n + 1) w e w' := by
  have HN : Hid (Calls Try.prog 58 #[.pointer (some ⟨F, 0, none⟩)] w fun e w' => e = .returned (.int .i64 (n + 1)) ∧ WrS w' F v p (n + 1) ∧ KW F w w') := newLabel_any w F v p n hS hn0 (by omega)
  have HL : Hid (∀ w1 v1 q a', WrS w1 F v1 q (n + 1) → q.length ≤ 1000000 → 0 ≤ a' → a' ≤ 1000 → Calls Try.prog 37 #[.pointer (some ⟨F, 0, none⟩), .int .i64 a'] w1 fun e w' => e = .returned (.tuple #[]) ∧ (∃ v', WrS w' F v' (q ++ [itLd a']) (n + 1)) ∧ KW F w1 w') := fun w1 v1 q a' h hq g0 g1 => load_any w1 F v1 q (n + 1) a' h hq g0 g1
  have HU : Hid (∀ w1 v1 q c k t, WrS w1 F v1 q (n + 1) → q.length ≤ 1000000 → Calls Try.prog 59 #[.pointer (some ⟨F, 0, none⟩), .int .u16 c, .int .u32 k, .int .i64 t] w1 fun e w' => e = .returned (.tuple #[]) ∧ (∃ v', WrS w' F v' (q ++ [itUn c k t]) (n + 1)) ∧ KW F w1 w') := fun w1 v1 q c k t h hq => goUnless_any w1 F v1 q (n + 1) c k t h hq
  have HG : Hid (∀ w1 v1 q c k t, WrS w1 F v1 q (n + 1) → q.length ≤ 1000000 → Calls Try.prog 73 #[.pointer (some ⟨F, 0, none⟩), .int .u16 c, .int .u32 k, .int .i64 t] w1 fun e w' => e = .returned (.tuple #[]) ∧ (∃ v', WrS w' F v' (q ++ [itIf c k t]) (n + 1)) ∧ KW F w1 w') := fun w1 v1 q c k t h hq => goIf_any w1 F v1 q (n + 1) c k t h hq
  have HB : Hid (∀ w1 v1 q t, WrS w1 F v1 q (n + 1) → q.length ≤ 1000000 → Calls Try.prog 40 #[.pointer (some ⟨F, 0, none⟩), .int .i64 t] w1 fun e w' => e = .returned (.tuple #[]) ∧ (∃ v', WrS w' F v' (q ++ [itLb t]) (n + 1)) ∧ KW F w1 w') := fun w1 v1 q t h hq => label_any w1 F v1 q (n + 1) t h hq
  have HUp : Hid (∀ w1, Calls Try.prog 85 #[.int .u64 (x : Int)] w1 fun e w' => e = .returned (.int .u32 (upH x)) ∧ w' = w1) := fun w1 => upperHalf_any x w1 hx
  have HLo : Hid (∀ w1, Calls Try.prog 86 #[.int .u64 (x : Int)] w1 fun e w' => e = .returned (.int .u32 (loH x)) ∧ w' = w1) := fun w1 => lowerHalf_any x w1 hx
  have hp : ∀ q : List It, q.length ≤ 6 → (p ++ q).length ≤ 1000000 := fun q hq => by simp; omega
  go_enter Try.func87, Try.ntmps87
  by_cases hz : x = 0
  · have HF : Hid (WrPost F (p ++ lowP x a fail (n + 1)) (if x = 0 then n else n + 1) w (.returned (.tuple #[])) w) := by
      unfold lowP
      rw [if_pos hz, if_pos hz, List.append_nil]
      exact ⟨rfl, ⟨v, hS⟩, KW.refl _ _⟩
    subst hz
    generalize lowP _ a fail (n + 1) = ll at *
    clear HN HL HU HG HB HUp HLo hS
    go_wp2
    exact bodyPost_ret (v := .tuple #[]) (by simp [results, Try.results87]) rfl HF.out
  · have HP : Hid (∀ w' v', WrS w' F v' (p ++ lowI x a fail (n + 1)) (n + 1) → KW F w w' → WrPost F (p ++ lowP x a fail (n + 1)) (if x = 0 then n else n + 1) w (.returned (.tuple #[])) w') := fun w' v' h2 h3 => by
      unfold lowP
      rw [if_neg hz, if_neg hz]
      exact ⟨rfl, ⟨v', h2⟩, h3⟩
    generalize lowP x a fail (n + 1) = ll at *
    generalize (if x = 0 then n else n + 1) = nn at *
    have hz' : ((x : Int) == 0) = false := by simp; omega
    have hzz : ¬ (x : Int) = 0 := by omega
    have hw4 : IntKind.i64.wrap (a + 4) = a + 4 := by rw [IntKind.wrap_i64]; omega
    clear hz
    have HI : Hid (lowI x a fail (n + 1) = [itLd (a + 4), itIf 37 (upH x) (n + 1), itUn 21 (upH x) (fail), itLd (a), itUn 53 (loH x) (fail), itLb (n + 1)]) := rfl
    generalize lowI x a fail (n + 1) = il at *
    generalize hup : upH x = ux at *
    generalize hlo : loH x = lx at *
    clear hup hlo hn
    go_wp2_with fail
    refine (HN.out).mono ?_
    rintro _ w1 ⟨rfl, hS1, hK1⟩
    clear hS HN
    go_wp2_with fail
    refine (HL.out _ v p (a + 4) hS1 (by have := hp []; simp at this; omega) (by omega) (by omega)).mono ?_
    rintro _ w2 ⟨rfl, ⟨v2, hS2⟩, hKb⟩
    have hK2 := hK1.trans hKb
    clear hKb hK1 hS1
    go_wp2_with fail
    refine (HUp.out _).mono ?_
    rintro _ w2 ⟨rfl, rfl⟩
    go_wp2_with fail
    refine (HG.out _ v2 (p ++ [itLd (a + 4)]) 37 ux (n + 1) hS2 (hp _ (by simp))).mono ?_
    rintro _ w3 ⟨rfl, ⟨v3, hS3⟩, hKb⟩
    have hK3 := hK2.trans hKb
    clear hKb hK2 hS2
    rw [List.append_assoc] at hS3
    simp only [List.cons_append, List.nil_append] at hS3
    go_wp2_with fail
    refine (HUp.out _).mono ?_
    rintro _ w3 ⟨rfl, rfl⟩
    go_wp2_with fail
    refine (HU.out _ v3 (p ++ [itLd (a + 4), itIf 37 ux (n + 1)]) 21 ux (fail) hS3 (hp _ (by simp))).mono ?_
    rintro _ w4 ⟨rfl, ⟨v4, hS4⟩, hKb⟩
    have hK4 := hK3.trans hKb
    clear hKb hK3 hS3
    rw [List.append_assoc] at hS4
    simp only [List.cons_append, List.nil_append] at hS4
    go_wp2_with fail
    refine (HL.out _ v4 (p ++ [itLd (a + 4), itIf 37 ux (n + 1), itUn 21 ux (fail)]) (a) hS4 (hp _ (by simp)) (by omega) (by omega)).mono ?_
    rintro _ w5 ⟨rfl, ⟨v5, hS5⟩, hKb⟩
    have hK5 := hK4.trans hKb
    clear hKb hK4 hS4
    rw [List.append_assoc] at hS5
    simp only [List.cons_append, List.nil_append] at hS5
    go_wp2_with fail
    refine (HLo.out _).mono ?_
    rintro _ w5 ⟨rfl, rfl⟩
    go_wp2_with fail
    refine (HU.out _ v5 (p ++ [itLd (a + 4), itIf 37 ux (n + 1), itUn 21 ux (fail), itLd (a)]) 53 lx (fail) hS5 (hp _ (by simp))).mono ?_
    rintro _ w6 ⟨rfl, ⟨v6, hS6⟩, hKb⟩
    have hK6 := hK5.trans hKb
    clear hKb hK5 hS5
    rw [List.append_assoc] at hS6
    simp only [List.cons_append, List.nil_append] at hS6
    go_wp2_with fail
    refine (HB.out _ v6 (p ++ [itLd (a + 4), itIf 37 ux (n + 1), itUn 21 ux (fail), itLd (a), itUn 53 lx (fail)]) (n + 1) hS6 (hp _ (by simp))).mono ?_
    rintro _ w7 ⟨rfl, ⟨v7, hS7⟩, hKb⟩
    have hK7 := hK6.trans hKb
    clear hKb hK6 hS6
    rw [List.append_assoc] at hS7
    simp only [List.cons_append, List.nil_append] at hS7
    have HF : Hid (WrPost F (p ++ ll) nn w (.returned (.tuple #[])) w7) := HP.out w7 v7 (by rw [HI.out]; exact hS7) hK7
    clear HL HU HG HB HUp HLo HP HI hS7 hK7
    go_wp2
    go_end0
    exact HF.out

set_option maxRecDepth 100000 in
set_option maxHeartbeats 4000000 in
theorem highBound_any (w : World) (F : Nat) (v : Value) (p : List It) (n : Int) (x : Nat) (a fail : Int) (hS : WrS w F v p n) (hn : p.length ≤ 900000) (h0 : 0 ≤ a) (h1 : a ≤ 900) (hx : x ≤ 18446744073709551615) (hn0 : 0 ≤ n) (hn1 : n ≤ 900000) :
    Calls Try.prog 88 #[.pointer (some ⟨F, 0, none⟩), .int .u64 (x : Int), .int .i64 a, .int .i64 fail] w fun e w' => WrPost F (p ++ highP x a fail (n + 1)) (if x = 18446744073709551615 then n else n + 1) w e w' := by
  have HN : Hid (Calls Try.prog 58 #[.pointer (some ⟨F, 0, none⟩)] w fun e w' => e = .returned (.int .i64 (n + 1)) ∧ WrS w' F v p (n + 1) ∧ KW F w w') := newLabel_any w F v p n hS hn0 (by omega)
  have HL : Hid (∀ w1 v1 q a', WrS w1 F v1 q (n + 1) → q.length ≤ 1000000 → 0 ≤ a' → a' ≤ 1000 → Calls Try.prog 37 #[.pointer (some ⟨F, 0, none⟩), .int .i64 a'] w1 fun e w' => e = .returned (.tuple #[]) ∧ (∃ v', WrS w' F v' (q ++ [itLd a']) (n + 1)) ∧ KW F w1 w') := fun w1 v1 q a' h hq g0 g1 => load_any w1 F v1 q (n + 1) a' h hq g0 g1
  have HU : Hid (∀ w1 v1 q c k t, WrS w1 F v1 q (n + 1) → q.length ≤ 1000000 → Calls Try.prog 59 #[.pointer (some ⟨F, 0, none⟩), .int .u16 c, .int .u32 k, .int .i64 t] w1 fun e w' => e = .returned (.tuple #[]) ∧ (∃ v', WrS w' F v' (q ++ [itUn c k t]) (n + 1)) ∧ KW F w1 w') := fun w1 v1 q c k t h hq => goUnless_any w1 F v1 q (n + 1) c k t h hq
  have HG : Hid (∀ w1 v1 q c k t, WrS w1 F v1 q (n + 1) → q.length ≤ 1000000 → Calls Try.prog 73 #[.pointer (some ⟨F, 0, none⟩), .int .u16 c, .int .u32 k, .int .i64 t] w1 fun e w' => e = .returned (.tuple #[]) ∧ (∃ v', WrS w' F v' (q ++ [itIf c k t]) (n + 1)) ∧ KW F w1 w') := fun w1 v1 q c k t h hq => goIf_any w1 F v1 q (n + 1) c k t h hq
  have HB : Hid (∀ w1 v1 q t, WrS w1 F v1 q (n + 1) → q.length ≤ 1000000 → Calls Try.prog 40 #[.pointer (some ⟨F, 0, none⟩), .int .i64 t] w1 fun e w' => e = .returned (.tuple #[]) ∧ (∃ v', WrS w' F v' (q ++ [itLb t]) (n + 1)) ∧ KW F w1 w') := fun w1 v1 q t h hq => label_any w1 F v1 q (n + 1) t h hq
  have HUp : Hid (∀ w1, Calls Try.prog 85 #[.int .u64 (x : Int)] w1 fun e w' => e = .returned (.int .u32 (upH x)) ∧ w' = w1) := fun w1 => upperHalf_any x w1 hx
  have HLo : Hid (∀ w1, Calls Try.prog 86 #[.int .u64 (x : Int)] w1 fun e w' => e = .returned (.int .u32 (loH x)) ∧ w' = w1) := fun w1 => lowerHalf_any x w1 hx
  have hp : ∀ q : List It, q.length ≤ 6 → (p ++ q).length ≤ 1000000 := fun q hq => by simp; omega
  go_enter Try.func88, Try.ntmps88
  by_cases hz : x = 18446744073709551615
  · have HF : Hid (WrPost F (p ++ highP x a fail (n + 1)) (if x = 18446744073709551615 then n else n + 1) w (.returned (.tuple #[])) w) := by
      unfold highP
      rw [if_pos hz, if_pos hz, List.append_nil]
      exact ⟨rfl, ⟨v, hS⟩, KW.refl _ _⟩
    subst hz
    generalize highP _ a fail (n + 1) = ll at *
    clear HN HL HU HG HB HUp HLo hS
    go_wp2
    exact bodyPost_ret (v := .tuple #[]) (by simp [results, Try.results88]) rfl HF.out
  · have HP : Hid (∀ w' v', WrS w' F v' (p ++ highI x a fail (n + 1)) (n + 1) → KW F w w' → WrPost F (p ++ highP x a fail (n + 1)) (if x = 18446744073709551615 then n else n + 1) w (.returned (.tuple #[])) w') := fun w' v' h2 h3 => by
      unfold highP
      rw [if_neg hz, if_neg hz]
      exact ⟨rfl, ⟨v', h2⟩, h3⟩
    generalize highP x a fail (n + 1) = ll at *
    generalize (if x = 18446744073709551615 then n else n + 1) = nn at *
    have hz' : ((x : Int) == 18446744073709551615) = false := by simp; omega
    have hzz : ¬ (x : Int) = 18446744073709551615 := by omega
    have hw4 : IntKind.i64.wrap (a + 4) = a + 4 := by rw [IntKind.wrap_i64]; omega
    clear hz
    have HI : Hid (highI x a fail (n + 1) = [itLd (a + 4), itIf 37 (upH x) (fail), itUn 21 (upH x) (n + 1), itLd (a), itIf 37 (loH x) (fail), itLb (n + 1)]) := rfl
    generalize highI x a fail (n + 1) = il at *
    generalize hup : upH x = ux at *
    generalize hlo : loH x = lx at *
    clear hup hlo hn
    go_wp2_with fail
    refine (HN.out).mono ?_
    rintro _ w1 ⟨rfl, hS1, hK1⟩
    clear hS HN
    go_wp2_with fail
    refine (HL.out _ v p (a + 4) hS1 (by have := hp []; simp at this; omega) (by omega) (by omega)).mono ?_
    rintro _ w2 ⟨rfl, ⟨v2, hS2⟩, hKb⟩
    have hK2 := hK1.trans hKb
    clear hKb hK1 hS1
    go_wp2_with fail
    refine (HUp.out _).mono ?_
    rintro _ w2 ⟨rfl, rfl⟩
    go_wp2_with fail
    refine (HG.out _ v2 (p ++ [itLd (a + 4)]) 37 ux (fail) hS2 (hp _ (by simp))).mono ?_
    rintro _ w3 ⟨rfl, ⟨v3, hS3⟩, hKb⟩
    have hK3 := hK2.trans hKb
    clear hKb hK2 hS2
    rw [List.append_assoc] at hS3
    simp only [List.cons_append, List.nil_append] at hS3
    go_wp2_with fail
    refine (HUp.out _).mono ?_
    rintro _ w3 ⟨rfl, rfl⟩
    go_wp2_with fail
    refine (HU.out _ v3 (p ++ [itLd (a + 4), itIf 37 ux (fail)]) 21 ux (n + 1) hS3 (hp _ (by simp))).mono ?_
    rintro _ w4 ⟨rfl, ⟨v4, hS4⟩, hKb⟩
    have hK4 := hK3.trans hKb
    clear hKb hK3 hS3
    rw [List.append_assoc] at hS4
    simp only [List.cons_append, List.nil_append] at hS4
    go_wp2_with fail
    refine (HL.out _ v4 (p ++ [itLd (a + 4), itIf 37 ux (fail), itUn 21 ux (n + 1)]) (a) hS4 (hp _ (by simp)) (by omega) (by omega)).mono ?_
    rintro _ w5 ⟨rfl, ⟨v5, hS5⟩, hKb⟩
    have hK5 := hK4.trans hKb
    clear hKb hK4 hS4
    rw [List.append_assoc] at hS5
    simp only [List.cons_append, List.nil_append] at hS5
    go_wp2_with fail
    refine (HLo.out _).mono ?_
    rintro _ w5 ⟨rfl, rfl⟩
    go_wp2_with fail
    refine (HG.out _ v5 (p ++ [itLd (a + 4), itIf 37 ux (fail), itUn 21 ux (n + 1), itLd (a)]) 37 lx (fail) hS5 (hp _ (by simp))).mono ?_
    rintro _ w6 ⟨rfl, ⟨v6, hS6⟩, hKb⟩
    have hK6 := hK5.trans hKb
    clear hKb hK5 hS5
    rw [List.append_assoc] at hS6
    simp only [List.cons_append, List.nil_append] at hS6
    go_wp2_with fail
    refine (HB.out _ v6 (p ++ [itLd (a + 4), itIf 37 ux (fail), itUn 21 ux (n + 1), itLd (a), itIf 37 lx (fail)]) (n + 1) hS6 (hp _ (by simp))).mono ?_
    rintro _ w7 ⟨rfl, ⟨v7, hS7⟩, hKb⟩
    have hK7 := hK6.trans hKb
    clear hKb hK6 hS6
    rw [List.append_assoc] at hS7
    simp only [List.cons_append, List.nil_append] at hS7
    have HF : Hid (WrPost F (p ++ ll) nn w (.returned (.tuple #[])) w7) := HP.out w7 v7 (by rw [HI.out]; exact hS7) hK7
    clear HL HU HG HB HUp HLo HP HI hS7 hK7
    go_wp2
    go_end0
    exact HF.out
end Go.Proofs.Ytoopomjkapeknaa
