/-
  FilB, FilC, FilZ, MrkA
-/
import Derived.Test.YtoopomjkapeknaaQ11
import Derived.Test.YtoopomjkapeknaaQ14
import Derived.Test.YtoopomjkapeknaaQ17
import Derived.Test.YtoopomjkapeknaaQ21
import Derived.Test.YtoopomjkapeknaaQ15
import Derived.Test.YtoopomjkapeknaaQ08
namespace Go.Proofs.Ytoopomjkapeknaa
open Go.RowKit
set_option linter.unusedVariables false

structure LdJ (l : List It) (k : Nat) (ms : List Ma) (st : List I × Mk) : Prop where
  lay : layJ (l.drop k) = some st
  fm : ∀ t, findM ms t = st.2 t
theorem LdJ.start (l : List It) : LdJ l l.length [] ([], fun _ => none) := ⟨by rw [List.drop_length]; rfl, fun t => rfl⟩
theorem LdJ.some {l : List It} {k : Nat} {ms : List Ma} {st s0 : List I × Mk} (h : LdJ l (k + 1) ms st) (h0 : layJ l = Option.some s0) (hk : k < l.length) : ∃ t, stJ (l.getD k It.zero) st = Option.some t := by
  obtain ⟨t, h1, _⟩ := layJ_part h0 k
  rw [layJ_drop hk, h.lay] at h1
  exact ⟨t, h1⟩
theorem LdJ.label {l : List It} {k : Nat} {ms : List Ma} {st s0 : List I × Mk} (h : LdJ l (k + 1) ms st) (h0 : layJ l = Option.some s0) (hk : k < l.length) (h4 : (l.getD k It.zero).kind = 4) : ∃ m, LdJ l k (ms ++ [((l.getD k It.zero).target, st.1.length)]) (st.1, m) := by
  obtain ⟨t, ht⟩ := h.some h0 hk
  have h1 : layJ (l.drop k) = Option.some t := by rw [layJ_drop hk, h.lay]; exact ht
  unfold stJ at ht
  rw [if_neg (by omega), if_pos h4] at ht
  cases ht
  exact ⟨_, h1, fun t => by rw [findM_snoc]; simp only; rw [h.fm]⟩
theorem LdJ.plain {l : List It} {k : Nat} {ms : List Ma} {st : List I × Mk} (h : LdJ l (k + 1) ms st) (hk : k < l.length) (h4 : (l.getD k It.zero).kind = 0) : LdJ l k ms (st.1 ++ [(l.getD k It.zero).ins], st.2) := by
  refine ⟨?_, h.fm⟩
  rw [layJ_drop hk, h.lay]
  simp only [stJ]
  rw [if_pos h4]
theorem LdJ.br {l : List It} {k : Nat} {ms : List Ma} {st s0 : List I × Mk} (h : LdJ l (k + 1) ms st) (h0 : layJ l = Option.some s0) (hk : k < l.length) (g0 : (l.getD k It.zero).kind ≠ 0) (h4 : (l.getD k It.zero).kind ≠ 4) : ∃ a, findM ms (l.getD k It.zero).target = Option.some a ∧ a ≤ st.1.length ∧ LdJ l k ms (st.1 ++ brI (l.getD k It.zero) ((st.1.length : Int) - a), st.2) := by
  obtain ⟨t, ht⟩ := h.some h0 hk
  have h1 : layJ (l.drop k) = Option.some t := by rw [layJ_drop hk, h.lay]; exact ht
  unfold stJ at ht
  rw [if_neg g0, if_neg h4] at ht
  cases e : st.2 (l.getD k It.zero).target with
  | none =>
    rw [e] at ht
    simp only at ht
    cases ht
  | some a =>
    rw [e] at ht
    simp only at ht
    cases ht
    exact ⟨a, by rw [h.fm, e], (layJ_facts h.lay).1 _ _ e, h1, h.fm⟩
theorem LdJ.len {l : List It} {k : Nat} {ms : List Ma} {st : List I × Mk} (h : LdJ l k ms st) : st.1.length ≤ l.length * 2 := by
  have := (layJ_facts h.lay).2
  rw [List.length_drop] at this
  omega
def LaidPostJ (l : List It) (w : World) (e : Ending) (w' : World) : Prop := ∃ v k ms st, e = .returned v ∧ ownsI w' w.heap.size v st.1 ∧ LdJ l k ms st ∧ (k = 0 ∨ 4096 < st.1.length) ∧ Below w.heap.size w w'

set_option maxRecDepth 100000 in
set_option maxHeartbeats 8000000 in
theorem l5laid_j (l : List It) (a : Option Addr) (cap : Nat) (w : World) (s0 : List I × Mk) (hs : TSrc w a l) (ho : ∀ x ∈ l, x.ok) (hl : layJ l = some s0) (hn : l.length ≤ 1000000) :
    Calls Try.prog 27 #[.slice a l.length cap] w fun e w' => LaidPostJ l w e w' := by
  obtain ⟨i0, hi, hz0, hz1, hz2⟩ := info_parts infoMark
  obtain ⟨i1, hi1, hy0, hy1, hy2⟩ := info_parts info36
  have HP : Hid (∀ wr, Below w.heap.size w wr → ∀ i, i < l.length → ∃ b o, a = some ⟨b, o, none⟩ ∧ b < wr.heap.size ∧ PI wr b (o + i * 6) (l.getD i It.zero)) := fun wr hB i hi => (hs.below PI.stays hB).at hi It.zero
  have HF : Hid (∀ (ms : List Ma) t a cap w1, LSrc 2 PM w1 a ms → ms.length ≤ 1048576 → Calls Try.prog 49 #[.slice a ms.length cap, .int .i64 t] w1 fun e w' => e = .returned (.int .i64 (fdV (findM ms t))) ∧ w' = w1) := fun ms t a cap w1 h1 h2 => l5find_any ms t a cap w1 h1 h2
  have H0 : Hid (LdJ l l.length [] ([], fun _ => none)) := LdJ.start l
  have HLab : Hid (∀ k ms st, LdJ l (k + 1) ms st → k < l.length → (l.getD k It.zero).kind = 4 → ∃ m, LdJ l k (ms ++ [((l.getD k It.zero).target, st.1.length)]) (st.1, m)) := fun k ms st h h1 h2 => h.label hl h1 h2
  have HPl : Hid (∀ k ms st, LdJ l (k + 1) ms st → k < l.length → (l.getD k It.zero).kind = 0 → LdJ l k ms (st.1 ++ [(l.getD k It.zero).ins], st.2)) := fun k ms st h h1 h2 => h.plain h1 h2
  have HBr : Hid (∀ k ms st, LdJ l (k + 1) ms st → k < l.length → (l.getD k It.zero).kind ≠ 0 → (l.getD k It.zero).kind ≠ 4 → ∃ a, findM ms (l.getD k It.zero).target = some a ∧ a ≤ st.1.length ∧ LdJ l k ms (st.1 ++ brI (l.getD k It.zero) ((st.1.length : Int) - a), st.2)) := fun k ms st h h1 h2 h3 => h.br hl h1 h2 h3
  have HLen : Hid (∀ k ms st, LdJ l k ms st → st.1.length ≤ l.length * 2) := fun k ms st h => h.len
  clear hs ho hl s0
  generalize l.length = n at *
  have hwn : IntKind.i64.wrap ((n : Int) - 1) = (n : Int) - 1 := by rw [IntKind.wrap_i64]; omega
  go_enter Try.func27, Try.ntmps27
  go_wp2_with fail
  go_loopw [3, 4, 5] (fun so' s' i wr => ∃ (k : Nat) (so s : Value) (ms : List Ma) (st : List I × Mk), k ≤ n ∧ i = .int .i64 ((k : Int) - 1) ∧ so = so' ∧ s = s' ∧ ownsI wr w.heap.size so st.1 ∧ ownsM wr w.heap.size s ms ∧ ms.length ≤ n - k ∧ Hid (LdJ l k ms st) ∧ Below w.heap.size w wr) (fun _ _ i _ => (intOf i + 1).toNat)
  case atStart => exact ⟨n, _, _, [], _, by omega, by first | rfl | go_num, rfl, rfl, World.ownsRow_nil _ _ _ _, World.ownsRow_nil _ _ _ _, by simp, H0, Below.refl _ _⟩
  case round =>
    obtain ⟨k, so, s, ms, st, hk, rfl, hsso, hss, hOI, hO, hml, HOk, B⟩ := hrel
    subst hsso
    subst hss
    rename World => W0
    have hol := HLen.out k ms st HOk.out
    obtain ⟨ai, ci, rfl, _⟩ := ownsI_src hOI
    by_cases hk0 : 0 < k ∧ st.1.length ≤ 4096
    · obtain ⟨hk0, hl4⟩ := hk0
      obtain ⟨k', rfl⟩ : ∃ k', k = k' + 1 := ⟨k - 1, by omega⟩
      have hk' : ((k' + 1 : Nat) : Int) - 1 = (k' : Int) := by omega
      rw [hk']
      have hkn : (k' : Int) < (n : Int) := by omega
      have hkN : k' < n := by omega
      have hw2 : IntKind.i64.wrap ((k' : Int) - 1) = (k' : Int) - 1 := by rw [IntKind.wrap_i64]; omega
      obtain ⟨b, o, rfl, hlt, c0, c1, c2, c3, c4, c5⟩ := HP.out W0 B k' hkN
      have HLabk : Hid _ := HLab.out k' ms st HOk.out hkN
      have HPlk : Hid _ := HPl.out k' ms st HOk.out hkN
      have HBrk : Hid _ := HBr.out k' ms st HOk.out hkN
      generalize l.getD k' It.zero = x at *
      obtain ⟨kd, ⟨c, jt, jf, ik⟩, tg⟩ := x
      obtain ⟨ol, mk⟩ := st
      simp only at c0 c1 c2 c3 c4 c5 HLabk HPlk HBrk hOI hol hl4
      obtain ⟨am, cm, rfl, _, hsm⟩ := ownsM_src hO
      have hbx : Below W0.heap.size W0 (W0.alloc (.cells #[.int .i64 kd, .int .u16 c, .int .u8 jt, .int .u8 jf, .int .u32 ik, .int .i64 tg] 68)) := (Below.refl _ _).alloc (Nat.le_refl _) _
      have X := Box6.new W0 68 (.int .i64 kd) (.int .u16 c) (.int .u8 jt) (.int .u8 jf) (.int .u32 ik) (.int .i64 tg)
      have B2 := below_step hbx B
      have O2 := own_kept hO hbx
      have I2 := ownsI_below hOI hbx
      have hs2 := hsm.below PM.stays hbx
      have hb4 : (ol.length : Int) ≤ 4096 := by omega
      have hWs := B.size
      have hqi : ∀ q, (Value.slice ai ol.length ci).ownBlock = some q → q < W0.heap.size := fun q hq => (hOI.lt q hq).2
      obtain ⟨hxl, x0, x1, x2, x3, x4, x5, _⟩ := X
      clear HP HLab HPl HBr HOk H0 HLen hO hOI hsm B hbx
      by_cases h4 : kd = 4
      · subst h4
        obtain ⟨m2, hL3⟩ := HLabk.out rfl
        have HL3 : Hid (LdJ l k' (ms ++ [(tg, ol.length)]) (ol, m2)) := hL3
        clear HLabk HPlk HBrk hL3 HF hs2
        have hsz := B2.size
        have hbs : w.heap.size ≤ ((W0.alloc (.cells #[.int .i64 4, .int .u16 c, .int .u8 jt, .int .u8 jf, .int .u32 ik, .int .i64 tg] 68)).alloc (.cells #[.int .i64 tg, .int .i64 (ol.length : Int)] 96)).heap.size := by simp; omega
        have hbm : ms.length + 1 ≤ maxLen := by unfold maxLen; omega
        have hbd : (ms.length + 1) * 16 ≤ 140737488355328 := by omega
        go_wp2_with (at_builtin; refine wpList_append_own _ rfl (.tmp 29) (.tmp 35) 94 rfl (w.heap.size) 96 i0 _ 2 16 Try.underlying94 hi hz0 hz1 hz2 rfl (by decide) (.slice am ms.length cm) ms.length (ms.flatMap maC) rfl (World.ownsRow.alloc O2 _) ⟨W0.heap.size + 1, 0, none⟩ 1 1 [.int .i64 tg, .int .i64 (ol.length : Int)] rfl rfl (news_at (by simp)) (by simp [Value.oneCell']) hbm hbd hbs ?_)
        intro v9 w9 ow gr _
        have o9 : ownsM w9 w.heap.size v9 (ms ++ [(tg, ol.length)]) := by simpa [ownsM, maC] using ow
        have p9 : ownsI w9 w.heap.size (.slice ai ol.length ci) ol := World.ownsRow.kept (World.ownsRow.alloc I2 _) gr (own_ne O2 I2 (by decide))
        have B9 : Below w.heap.size w w9 := (B2.alloc hsz _).grown gr hbs (fun t ht => (O2.lt t ht).1)
        clear ow gr O2 B2 I2 x0 x1 x2 x3 x4 x5 hbm hbd hbs
        go_wp2
        go_roundw
        case rel => exact ⟨k', _, _, _, (ol, m2), by omega, by first | rfl | go_num, rfl, rfl, p9, o9, by simp; omega, HL3, B9⟩
        case measure => simp [intOf]
      · have g4 : (kd == 4) = false := by simpa using h4
        by_cases h0 : kd = 0
        · subst h0
          have HL3 : Hid (LdJ l k' ms (ol ++ [⟨c, jt, jf, ik⟩], mk)) := HPlk.out rfl
          clear HLabk HPlk HBrk HF hs2
          have hsz := B2.size
          have hbs9 : w.heap.size ≤ ((W0.alloc (.cells #[.int .i64 0, .int .u16 c, .int .u8 jt, .int .u8 jf, .int .u32 ik, .int .i64 tg] 68)).alloc (.cells #[.int .u16 c, .int .u8 jt, .int .u8 jf, .int .u32 ik] 51)).heap.size := by simp; omega
          have hbm9 : ol.length + 1 ≤ maxLen := by unfold maxLen; omega
          have hbd9 : (ol.length + 1) * 8 ≤ 140737488355328 := by omega
          go_wp2_with (at_builtin; refine wpList_append_own _ rfl (.tmp 40) (.tmp 43) 26 rfl (w.heap.size) 51 i1 _ 4 8 Try.underlying26 hi1 hy0 hy1 hy2 rfl (by decide) (.slice ai ol.length ci) ol.length (insCells ol) rfl (World.ownsRow.alloc I2 _) ⟨W0.heap.size + 1, 0, none⟩ 1 1 [.int .u16 c, .int .u8 jt, .int .u8 jf, .int .u32 ik] rfl rfl (news_at (by simp)) (by simp [Value.oneCell']) hbm9 hbd9 hbs9 ?_)
          intro v9 w9 ow gr _
          have p9 : ownsI w9 w.heap.size v9 (ol ++ [⟨c, jt, jf, ik⟩]) := ownsI_snoc rfl ow
          have o9 : ownsM w9 w.heap.size (.slice am ms.length cm) ms := World.ownsRow.kept (World.ownsRow.alloc O2 _) gr (own_ne I2 O2 (by decide))
          have B9 : Below w.heap.size w w9 := (B2.alloc hsz _).grown gr hbs9 (fun t ht => (World.ownsRow.lt I2 t ht).1)
          clear ow gr hbm9 hbd9 hbs9
          clear O2 B2 I2 x0 x1 x2 x3 x4 x5
          go_wp2
          go_roundw
          case rel => exact ⟨k', _, _, ms, (ol ++ [⟨c, jt, jf, ik⟩], mk), by omega, by first | rfl | go_num, rfl, rfl, p9, o9, by omega, HL3, B9⟩
          case measure => simp [intOf]
        · have g0 : (kd == 0) = false := by simpa using h0
          obtain ⟨fa, hfa, hfl, hL3⟩ := HBrk.out h0 h4
          have HL3 : Hid (LdJ l k' ms (ol ++ brI ⟨kd, ⟨c, jt, jf, ik⟩, tg⟩ ((ol.length : Int) - fa), mk)) := hL3
          have HFk : Hid (∀ w1, LSrc 2 PM w1 am ms → Calls Try.prog 49 #[.slice am ms.length cm, .int .i64 tg] w1 fun e w' => e = .returned (.int .i64 (fa : Int)) ∧ w' = w1) := fun w1 h => by
            have := HF.out ms tg am cm w1 h (by omega)
            rw [hfa] at this; exact this
          obtain ⟨d, hd⟩ : ∃ d : Nat, (ol.length : Int) - fa = d := ⟨ol.length - fa, by omega⟩
          have hd4 : d ≤ 4096 := by omega
          have hwd : wrap64 ((ol.length : Int) - fa) = (d : Int) := by rw [hd]; unfold wrap64; omega
          have hwm : (d : Int) % 4294967296 = (d : Int) := by omega
          rw [hd] at HL3
          clear HLabk HPlk HBrk hL3 HF hfa h0 h4 hd hfl
          go_wp2_with fail
          generalize W0.alloc (.cells #[.int .i64 kd, .int .u16 c, .int .u8 jt, .int .u8 jf, .int .u32 ik, .int .i64 tg] 68) = V3 at *
          refine (HFk.out _ hs2).mono ?_
          rintro _ V4 ⟨rfl, hV4⟩
          rw [hV4]
          clear hV4
          have hV0 : W0.heap.size ≤ V3.heap.size := Nat.le_of_lt hxl
          clear HFk hs2 hxl
          have hdi : (d : Int) ≤ 4096 := by omega
          by_cases h3 : kd = 3
          · subst h3
            have HL4 : Hid (LdJ l k' ms (ol ++ [⟨5, 0, 0, (d : Int)⟩], mk)) := HL3.out
            have hbj : Below V3.heap.size V3 ((V3.alloc (.cells #[.int .u16 5, .int .u8 0, .int .u8 0, .int .u32 (d : Int)] 51)).alloc (.cells #[.int .u16 c, .int .u8 0, .int .u8 0, .int .u32 ik] 51)) := ((Below.refl _ _).alloc (Nat.le_refl _) _).alloc (by simp) _
            have J8 := (Box4.new V3 51 (.int .u16 5) (.int .u8 0) (.int .u8 0) (.int .u32 (d : Int))).keep ((Below.refl _ _).alloc (Nat.le_refl _) (.cells #[.int .u16 c, .int .u8 0, .int .u8 0, .int .u32 ik] 51))
            have J9 := Box4.new (V3.alloc (.cells #[.int .u16 5, .int .u8 0, .int .u8 0, .int .u32 (d : Int)] 51)) 51 (.int .u16 c) (.int .u8 0) (.int .u8 0) (.int .u32 ik)
            rw [show (V3.alloc (.cells #[.int .u16 5, .int .u8 0, .int .u8 0, .int .u32 (d : Int)] 51)).heap.size = V3.heap.size + 1 by simp] at J9
            have B3 := below_step hbj B2
            have O3 := own_kept O2 hbj
            have I3 := ownsI_below I2 hbj
            have xk := cell_step hbj x0
            have xk0 : ((V3.alloc (.cells #[.int .u16 5, .int .u8 0, .int .u8 0, .int .u32 (d : Int)] 51)).alloc (.cells #[.int .u16 c, .int .u8 0, .int .u8 0, .int .u32 ik] 51)).cell? ⟨W0.heap.size, 0, none⟩ = _ := cell_step (((Below.refl _ _).alloc (Nat.le_refl _) _).alloc (by simp) _) x0
            have x1a := cell_step ((Below.refl _ _).alloc (Nat.le_refl _) (.cells #[.int .u16 5, .int .u8 0, .int .u8 0, .int .u32 (d : Int)] 51)) x1
            have x4a := cell_step ((Below.refl _ _).alloc (Nat.le_refl _) (.cells #[.int .u16 5, .int .u8 0, .int .u8 0, .int .u32 (d : Int)] 51)) x4
            clear B2 O2 I2 x0 x1 x2 x3 x4 x5
            obtain ⟨_, y0, y1, y2, y3, _⟩ := J8
            clear J9 HL3
            have hsz := B3.size
            have hbs9 : w.heap.size ≤ (((V3.alloc (.cells #[.int .u16 5, .int .u8 0, .int .u8 0, .int .u32 (d : Int)] 51)).alloc (.cells #[.int .u16 c, .int .u8 0, .int .u8 0, .int .u32 ik] 51)).alloc (.cells #[.int .u16 5, .int .u8 0, .int .u8 0, .int .u32 (d : Int)] 51)).heap.size := by simp; omega
            have hbm9 : ol.length + 1 ≤ maxLen := by unfold maxLen; omega
            have hbd9 : (ol.length + 1) * 8 ≤ 140737488355328 := by omega
            go_wp2_with (at_builtin; refine wpList_append_own _ rfl (.tmp 65) (.tmp 67) 26 rfl (w.heap.size) 51 i1 _ 4 8 Try.underlying26 hi1 hy0 hy1 hy2 rfl (by decide) (.slice ai ol.length ci) ol.length (insCells ol) rfl (World.ownsRow.alloc I3 _) ⟨V3.heap.size + 1 + 1, 0, none⟩ 1 1 [.int .u16 5, .int .u8 0, .int .u8 0, .int .u32 (d : Int)] rfl rfl (news_at (by simp)) (by simp [Value.oneCell']) hbm9 hbd9 hbs9 ?_)
            intro v9 w9 ow gr _
            have p9 : ownsI w9 w.heap.size v9 (ol ++ [⟨5, 0, 0, (d : Int)⟩]) := ownsI_snoc rfl ow
            have o9 : ownsM w9 w.heap.size (.slice am ms.length cm) ms := World.ownsRow.kept (World.ownsRow.alloc O3 _) gr (own_ne I3 O3 (by decide))
            have B9 : Below w.heap.size w w9 := (B3.alloc hsz _).grown gr hbs9 (fun t ht => (World.ownsRow.lt I3 t ht).1)
            clear ow gr hbm9 hbd9 hbs9
            clear O3 B3 I3 y0 y1 y2 y3 xk xk0 x1a x4a
            go_wp2
            go_roundw
            case rel => exact ⟨k', _, _, ms, (ol ++ [⟨5, 0, 0, (d : Int)⟩], mk), by omega, by first | rfl | go_num, rfl, rfl, p9, o9, by omega, HL4, B9⟩
            case measure => simp [intOf]
          · have g3 : (kd == 3) = false := by simpa using h3
            by_cases h255 : d ≤ 255
            · have hd5 : (d : Int) ≤ 255 := by omega
              have hwm8 : (d : Int) % 256 = (d : Int) := by omega
              have HN : Hid (brI ⟨kd, ⟨c, jt, jf, ik⟩, tg⟩ (d : Int) = [tstI ⟨c, jt, jf, ik⟩ (kd == 1) (d : Int)]) := by
                show _ = _
                unfold brI
                simp only
                rw [if_neg h3, if_pos hd5]
              rw [HN.out] at HL3
              clear HN h3
              by_cases h1 : kd = 1
              · subst h1
                have HL4 : Hid (LdJ l k' ms (ol ++ [⟨c, (d : Int), 0, ik⟩], mk)) := HL3.out
                have hbj : Below V3.heap.size V3 ((V3.alloc (.cells #[.int .u16 5, .int .u8 0, .int .u8 0, .int .u32 (d : Int)] 51)).alloc (.cells #[.int .u16 c, .int .u8 (d : Int), .int .u8 0, .int .u32 ik] 51)) := ((Below.refl _ _).alloc (Nat.le_refl _) _).alloc (by simp) _
                have J8 := (Box4.new V3 51 (.int .u16 5) (.int .u8 0) (.int .u8 0) (.int .u32 (d : Int))).keep ((Below.refl _ _).alloc (Nat.le_refl _) (.cells #[.int .u16 c, .int .u8 (d : Int), .int .u8 0, .int .u32 ik] 51))
                have J9 := Box4.new (V3.alloc (.cells #[.int .u16 5, .int .u8 0, .int .u8 0, .int .u32 (d : Int)] 51)) 51 (.int .u16 c) (.int .u8 (d : Int)) (.int .u8 0) (.int .u32 ik)
                rw [show (V3.alloc (.cells #[.int .u16 5, .int .u8 0, .int .u8 0, .int .u32 (d : Int)] 51)).heap.size = V3.heap.size + 1 by simp] at J9
                have B3 := below_step hbj B2
                have O3 := own_kept O2 hbj
                have I3 := ownsI_below I2 hbj
                have xk := cell_step hbj x0
                have xk0 : ((V3.alloc (.cells #[.int .u16 5, .int .u8 0, .int .u8 0, .int .u32 (d : Int)] 51)).alloc (.cells #[.int .u16 c, .int .u8 0, .int .u8 0, .int .u32 ik] 51)).cell? ⟨W0.heap.size, 0, none⟩ = _ := cell_step (((Below.refl _ _).alloc (Nat.le_refl _) _).alloc (by simp) _) x0
                have x1a := cell_step ((Below.refl _ _).alloc (Nat.le_refl _) (.cells #[.int .u16 5, .int .u8 0, .int .u8 0, .int .u32 (d : Int)] 51)) x1
                have x4a := cell_step ((Below.refl _ _).alloc (Nat.le_refl _) (.cells #[.int .u16 5, .int .u8 0, .int .u8 0, .int .u32 (d : Int)] 51)) x4
                clear B2 O2 I2 x0 x1 x2 x3 x4 x5
                obtain ⟨jl, e0, e1, e2, e3, jf9⟩ := J9
                clear jf9 HL3 J8
                have hsz := B3.size
                have hbs9 : w.heap.size ≤ (((V3.alloc (.cells #[.int .u16 5, .int .u8 0, .int .u8 0, .int .u32 (d : Int)] 51)).alloc (.cells #[.int .u16 c, .int .u8 (d : Int), .int .u8 0, .int .u32 ik] 51)).alloc (.cells #[.int .u16 c, .int .u8 (d : Int), .int .u8 0, .int .u32 ik] 51)).heap.size := by simp; omega
                have hbm9 : ol.length + 1 ≤ maxLen := by unfold maxLen; omega
                have hbd9 : (ol.length + 1) * 8 ≤ 140737488355328 := by omega
                go_wp2_with (at_builtin; refine wpList_append_own _ rfl (.tmp 80) (.tmp 82) 26 rfl (w.heap.size) 51 i1 _ 4 8 Try.underlying26 hi1 hy0 hy1 hy2 rfl (by decide) (.slice ai ol.length ci) ol.length (insCells ol) rfl (World.ownsRow.alloc I3 _) ⟨V3.heap.size + 1 + 1, 0, none⟩ 1 1 [.int .u16 c, .int .u8 (d : Int), .int .u8 0, .int .u32 ik] rfl rfl (news_at (by simp)) (by simp [Value.oneCell']) hbm9 hbd9 hbs9 ?_)
                intro v9 w9 ow gr _
                have p9 : ownsI w9 w.heap.size v9 (ol ++ [⟨c, (d : Int), 0, ik⟩]) := ownsI_snoc rfl ow
                have o9 : ownsM w9 w.heap.size (.slice am ms.length cm) ms := World.ownsRow.kept (World.ownsRow.alloc O3 _) gr (own_ne I3 O3 (by decide))
                have B9 : Below w.heap.size w w9 := (B3.alloc hsz _).grown gr hbs9 (fun t ht => (World.ownsRow.lt I3 t ht).1)
                clear ow gr hbm9 hbd9 hbs9
                clear O3 B3 I3 e0 e1 e2 e3 xk xk0 jl x1a x4a
                go_wp2
                go_roundw
                case rel => exact ⟨k', _, _, ms, (ol ++ [⟨c, (d : Int), 0, ik⟩], mk), by omega, by first | rfl | go_num, rfl, rfl, p9, o9, by omega, HL4, B9⟩
                case measure => simp [intOf]
              · have g1 : (kd == 1) = false := by simpa using h1
                rw [g1] at HL3
                have HL4 : Hid (LdJ l k' ms (ol ++ [⟨c, 0, (d : Int), ik⟩], mk)) := HL3.out
                have hbj : Below V3.heap.size V3 ((V3.alloc (.cells #[.int .u16 5, .int .u8 0, .int .u8 0, .int .u32 (d : Int)] 51)).alloc (.cells #[.int .u16 c, .int .u8 0, .int .u8 (d : Int), .int .u32 ik] 51)) := ((Below.refl _ _).alloc (Nat.le_refl _) _).alloc (by simp) _
                have J8 := (Box4.new V3 51 (.int .u16 5) (.int .u8 0) (.int .u8 0) (.int .u32 (d : Int))).keep ((Below.refl _ _).alloc (Nat.le_refl _) (.cells #[.int .u16 c, .int .u8 0, .int .u8 (d : Int), .int .u32 ik] 51))
                have J9 := Box4.new (V3.alloc (.cells #[.int .u16 5, .int .u8 0, .int .u8 0, .int .u32 (d : Int)] 51)) 51 (.int .u16 c) (.int .u8 0) (.int .u8 (d : Int)) (.int .u32 ik)
                rw [show (V3.alloc (.cells #[.int .u16 5, .int .u8 0, .int .u8 0, .int .u32 (d : Int)] 51)).heap.size = V3.heap.size + 1 by simp] at J9
                have B3 := below_step hbj B2
                have O3 := own_kept O2 hbj
                have I3 := ownsI_below I2 hbj
                have xk := cell_step hbj x0
                have xk0 : ((V3.alloc (.cells #[.int .u16 5, .int .u8 0, .int .u8 0, .int .u32 (d : Int)] 51)).alloc (.cells #[.int .u16 c, .int .u8 0, .int .u8 0, .int .u32 ik] 51)).cell? ⟨W0.heap.size, 0, none⟩ = _ := cell_step (((Below.refl _ _).alloc (Nat.le_refl _) _).alloc (by simp) _) x0
                have x1a := cell_step ((Below.refl _ _).alloc (Nat.le_refl _) (.cells #[.int .u16 5, .int .u8 0, .int .u8 0, .int .u32 (d : Int)] 51)) x1
                have x4a := cell_step ((Below.refl _ _).alloc (Nat.le_refl _) (.cells #[.int .u16 5, .int .u8 0, .int .u8 0, .int .u32 (d : Int)] 51)) x4
                clear B2 O2 I2 x0 x1 x2 x3 x4 x5
                obtain ⟨jl, e0, e1, e2, e3, jf9⟩ := J9
                clear jf9 HL3 J8
                have hsz := B3.size
                have hbs9 : w.heap.size ≤ (((V3.alloc (.cells #[.int .u16 5, .int .u8 0, .int .u8 0, .int .u32 (d : Int)] 51)).alloc (.cells #[.int .u16 c, .int .u8 0, .int .u8 (d : Int), .int .u32 ik] 51)).alloc (.cells #[.int .u16 c, .int .u8 0, .int .u8 (d : Int), .int .u32 ik] 51)).heap.size := by simp; omega
                have hbm9 : ol.length + 1 ≤ maxLen := by unfold maxLen; omega
                have hbd9 : (ol.length + 1) * 8 ≤ 140737488355328 := by omega
                go_wp2_with (at_builtin; refine wpList_append_own _ rfl (.tmp 80) (.tmp 82) 26 rfl (w.heap.size) 51 i1 _ 4 8 Try.underlying26 hi1 hy0 hy1 hy2 rfl (by decide) (.slice ai ol.length ci) ol.length (insCells ol) rfl (World.ownsRow.alloc I3 _) ⟨V3.heap.size + 1 + 1, 0, none⟩ 1 1 [.int .u16 c, .int .u8 0, .int .u8 (d : Int), .int .u32 ik] rfl rfl (news_at (by simp)) (by simp [Value.oneCell']) hbm9 hbd9 hbs9 ?_)
                intro v9 w9 ow gr _
                have p9 : ownsI w9 w.heap.size v9 (ol ++ [⟨c, 0, (d : Int), ik⟩]) := ownsI_snoc rfl ow
                have o9 : ownsM w9 w.heap.size (.slice am ms.length cm) ms := World.ownsRow.kept (World.ownsRow.alloc O3 _) gr (own_ne I3 O3 (by decide))
                have B9 : Below w.heap.size w w9 := (B3.alloc hsz _).grown gr hbs9 (fun t ht => (World.ownsRow.lt I3 t ht).1)
                clear ow gr hbm9 hbd9 hbs9
                clear O3 B3 I3 e0 e1 e2 e3 xk xk0 jl x1a x4a
                go_wp2
                go_roundw
                case rel => exact ⟨k', _, _, ms, (ol ++ [⟨c, 0, (d : Int), ik⟩], mk), by omega, by first | rfl | go_num, rfl, rfl, p9, o9, by omega, HL4, B9⟩
                case measure => simp [intOf]
            · have hd5 : ¬ (d : Int) ≤ 255 := by omega
              have HN : Hid (brI ⟨kd, ⟨c, jt, jf, ik⟩, tg⟩ (d : Int) = [⟨5, 0, 0, (d : Int)⟩, tstI ⟨c, jt, jf, ik⟩ (!(kd == 1)) 1]) := by
                show _ = _
                unfold brI
                simp only
                rw [if_neg h3, if_neg hd5]
              rw [HN.out] at HL3
              clear HN h3
              by_cases h1 : kd = 1
              · subst h1
                have HL4 : Hid (LdJ l k' ms (ol ++ [⟨5, 0, 0, (d : Int)⟩] ++ [⟨c, 0, 1, ik⟩], mk)) := by
                  have := HL3.out
                  show LdJ _ _ _ _
                  rw [List.append_assoc]; exact this
                have hbj : Below V3.heap.size V3 ((V3.alloc (.cells #[.int .u16 5, .int .u8 0, .int .u8 0, .int .u32 (d : Int)] 51)).alloc (.cells #[.int .u16 c, .int .u8 0, .int .u8 0, .int .u32 ik] 51)) := ((Below.refl _ _).alloc (Nat.le_refl _) _).alloc (by simp) _
                have J8 := (Box4.new V3 51 (.int .u16 5) (.int .u8 0) (.int .u8 0) (.int .u32 (d : Int))).keep ((Below.refl _ _).alloc (Nat.le_refl _) (.cells #[.int .u16 c, .int .u8 0, .int .u8 0, .int .u32 ik] 51))
                have J9 := Box4.new (V3.alloc (.cells #[.int .u16 5, .int .u8 0, .int .u8 0, .int .u32 (d : Int)] 51)) 51 (.int .u16 c) (.int .u8 0) (.int .u8 0) (.int .u32 ik)
                rw [show (V3.alloc (.cells #[.int .u16 5, .int .u8 0, .int .u8 0, .int .u32 (d : Int)] 51)).heap.size = V3.heap.size + 1 by simp] at J9
                have B3 := below_step hbj B2
                have O3 := own_kept O2 hbj
                have I3 := ownsI_below I2 hbj
                have xk := cell_step hbj x0
                have xk0 : ((V3.alloc (.cells #[.int .u16 5, .int .u8 0, .int .u8 0, .int .u32 (d : Int)] 51)).alloc (.cells #[.int .u16 c, .int .u8 0, .int .u8 0, .int .u32 ik] 51)).cell? ⟨W0.heap.size, 0, none⟩ = _ := cell_step (((Below.refl _ _).alloc (Nat.le_refl _) _).alloc (by simp) _) x0
                have x1a := cell_step ((Below.refl _ _).alloc (Nat.le_refl _) (.cells #[.int .u16 5, .int .u8 0, .int .u8 0, .int .u32 (d : Int)] 51)) x1
                have x4a := cell_step ((Below.refl _ _).alloc (Nat.le_refl _) (.cells #[.int .u16 5, .int .u8 0, .int .u8 0, .int .u32 (d : Int)] 51)) x4
                clear B2 O2 I2 x0 x1 x2 x3 x4 x5
                obtain ⟨j8l, y0, y1, y2, y3, _⟩ := J8
                have hw3s : ((V3.alloc (.cells #[.int .u16 5, .int .u8 0, .int .u8 0, .int .u32 (d : Int)] 51)).alloc (.cells #[.int .u16 c, .int .u8 0, .int .u8 0, .int .u32 ik] 51)).heap.size = V3.heap.size + 2 := by simp
                have hsz := B3.size
                have hbsa : w.heap.size ≤ (((V3.alloc (.cells #[.int .u16 5, .int .u8 0, .int .u8 0, .int .u32 (d : Int)] 51)).alloc (.cells #[.int .u16 c, .int .u8 0, .int .u8 0, .int .u32 ik] 51)).alloc (.cells #[.int .u16 5, .int .u8 0, .int .u8 0, .int .u32 (d : Int)] 51)).heap.size := by simp; omega
                have hbma : ol.length + 1 ≤ maxLen := by unfold maxLen; omega
                have hbda : (ol.length + 1) * 8 ≤ 140737488355328 := by omega
                go_wp2_with (at_builtin; refine wpList_append_lies _ rfl (.tmp 84) (.tmp 86) 26 rfl (w.heap.size) 51 i1 _ 4 8 Try.underlying26 hi1 hy0 hy1 hy2 rfl (by decide) (.slice ai ol.length ci) ol.length (insCells ol) rfl (World.ownsRow.alloc I3 _) ⟨V3.heap.size + 1 + 1, 0, none⟩ 1 1 [.int .u16 5, .int .u8 0, .int .u8 0, .int .u32 (d : Int)] rfl rfl (news_at (by simp)) (by simp [Value.oneCell']) (by omega) hbma hbda hbsa _ rfl ?_)
                intro gg cg w8 ow gr hat _
                have p8 : ownsI w8 w.heap.size (.slice (some ⟨gg, 0, none⟩) (ol.length + 1) cg) (ol ++ [⟨5, 0, 0, (d : Int)⟩]) := ownsI_snoc rfl ow
                have o8 : ownsM w8 w.heap.size (.slice am ms.length cm) ms := World.ownsRow.kept (World.ownsRow.alloc O3 _) gr (own_ne I3 O3 (by decide))
                have B8 : Below w.heap.size w w8 := (B3.alloc hsz _).grown gr hbsa (fun t ht => (World.ownsRow.lt I3 t ht).1)
                have hD9 : ∀ q, (Value.slice ai ol.length ci).ownBlock = some q → q ≠ V3.heap.size + 1 := fun q hq => by have := hqi q hq; omega
                have J9a := (J9.keep ((Below.refl _ _).alloc (Nat.le_refl _) (.cells #[.int .u16 5, .int .u8 0, .int .u8 0, .int .u32 (d : Int)] 51))).grown gr (fun e => hD9 _ e.symm rfl)
                have hW0n : some W0.heap.size ≠ (Value.slice ai ol.length ci).ownBlock := fun e => by have := hqi W0.heap.size e.symm; omega
                have hW0l : W0.heap.size < (((V3.alloc (.cells #[.int .u16 5, .int .u8 0, .int .u8 0, .int .u32 (d : Int)] 51)).alloc (.cells #[.int .u16 c, .int .u8 0, .int .u8 0, .int .u32 ik] 51)).alloc (.cells #[.int .u16 5, .int .u8 0, .int .u8 0, .int .u32 (d : Int)] 51)).heap.size := by simp; omega
                have xk8 : w8.cell? ⟨W0.heap.size, 0, none⟩ = some (.int .i64 1) := (gr.cell_far ⟨W0.heap.size, 0, none⟩ hW0l hW0n).trans (cell_step ((Below.refl _ _).alloc (Nat.le_refl _) _) xk)
                have hgn : gg ≠ V3.heap.size + 1 := by
                  rcases hat with q | q
                  · exact hD9 gg q
                  · first | omega | (simp at q; omega)
                have O8t : (w8.setCell ⟨V3.heap.size + 1, 2, none⟩ (.int .u8 1)).heap.size = w8.heap.size := by simp
                have I9 : ownsI (w8.setCell ⟨V3.heap.size + 1, 2, none⟩ (.int .u8 1)) w.heap.size (.slice (some ⟨gg, 0, none⟩) (ol.length + 1) cg) (ol ++ [⟨5, 0, 0, (d : Int)⟩]) := row_blockA p8 (fun q hq e => by
                  have : gg = q := by simpa [Value.ownBlock] using hq
                  exact absurd (this.trans e) hgn)
                have M9 : ownsM (w8.setCell ⟨V3.heap.size + 1, 2, none⟩ (.int .u8 1)) w.heap.size (.slice am ms.length cm) ms := row_blockA o8 (fun q hq e => by
                  have hlt8 := (World.ownsRow.lt O3 q hq).2
                  subst e
                  obtain ⟨_, ⟨e1, _⟩ | ⟨g, cap, cur, e1, hb, hg, _⟩⟩ := O3
                  · rw [e1] at hq; cases hq
                  · rw [e1] at hq
                    have : g = V3.heap.size + 1 := by simpa [Value.ownBlock] using hq
                    subst this
                    have e2 : ((V3.alloc (.cells #[.int .u16 5, .int .u8 0, .int .u8 0, .int .u32 (d : Int)] 51)).alloc (.cells #[.int .u16 c, .int .u8 0, .int .u8 0, .int .u32 ik] 51)).heap[V3.heap.size + 1]? = some (.cells #[.int .u16 c, .int .u8 0, .int .u8 0, .int .u32 ik] 51 (0, 0)) := by
                      have := heap_alloc_new (V3.alloc (.cells #[.int .u16 5, .int .u8 0, .int .u8 0, .int .u32 (d : Int)] 51)) (.cells #[.int .u16 c, .int .u8 0, .int .u8 0, .int .u32 ik] 51)
                      rw [show (V3.alloc (.cells #[.int .u16 5, .int .u8 0, .int .u8 0, .int .u32 (d : Int)] 51)).heap.size = V3.heap.size + 1 by simp] at this
                      exact this
                    rw [e2] at hg
                    simp only [Option.some.injEq, Obj.cells.injEq] at hg
                    exact absurd hg.2.1 (by decide))
                have N9 : Below w.heap.size w (w8.setCell ⟨V3.heap.size + 1, 2, none⟩ (.int .u8 1)) := B8.setCell (p := ⟨V3.heap.size + 1, 2, none⟩) (by show w.heap.size ≤ V3.heap.size + 1; have := hWs; omega) _
                obtain ⟨jl, z0, z1, z2, z3, jf9⟩ := J9a
                have zf := jf9 2
                have e0 : (w8.setCell ⟨V3.heap.size + 1, 2, none⟩ (.int .u8 1)).cell? ⟨V3.heap.size + 1, 0, none⟩ = some (.int .u16 c) := cell_near (by omega) z0
                have e1 : (w8.setCell ⟨V3.heap.size + 1, 2, none⟩ (.int .u8 1)).cell? ⟨V3.heap.size + 1, 1, none⟩ = some (.int .u8 0) := cell_near (by omega) z1
                have e2 : (w8.setCell ⟨V3.heap.size + 1, 2, none⟩ (.int .u8 1)).cell? ⟨V3.heap.size + 1, 2, none⟩ = some (.int .u8 1) := World.cell?_setCell_same _ _ _ z2
                have e3 : (w8.setCell ⟨V3.heap.size + 1, 2, none⟩ (.int .u8 1)).cell? ⟨V3.heap.size + 1, 3, none⟩ = some (.int .u32 ik) := cell_near (by omega) z3
                obtain ⟨vv, hvv⟩ : ∃ vv, Value.slice (some ⟨gg, 0, none⟩) (ol.length + 1) cg = vv := ⟨_, rfl⟩
                clear jf9 HL3 J9 ow gr hat y0 y1 y2 y3 xk xk0 x1a x4a I3 O3 B3 p8 o8 B8 hbma hbda hbsa hD9
                have hszb := N9.size
                rw [hvv] at I9 ⊢
                have hol1 : (ol ++ [(⟨5, 0, 0, (d : Int)⟩ : I)]).length = ol.length + 1 := by simp
                have hbsb : w.heap.size ≤ ((w8.setCell ⟨V3.heap.size + 1, 2, none⟩ (.int .u8 1)).alloc (.cells #[.int .u16 c, .int .u8 0, .int .u8 1, .int .u32 ik] 51)).heap.size := by simp; omega
                have hbmb : (ol ++ [(⟨5, 0, 0, (d : Int)⟩ : I)]).length + 1 ≤ maxLen := by rw [hol1]; unfold maxLen; omega
                have hbdb : ((ol ++ [(⟨5, 0, 0, (d : Int)⟩ : I)]).length + 1) * 8 ≤ 140737488355328 := by rw [hol1]; omega
                go_wp2_with (at_builtin; refine wpList_append_own _ rfl (.tmp 93) (.tmp 95) 26 rfl (w.heap.size) 51 i1 _ 4 8 Try.underlying26 hi1 hy0 hy1 hy2 rfl (by decide) vv (ol ++ [(⟨5, 0, 0, (d : Int)⟩ : I)]).length (insCells (ol ++ [⟨5, 0, 0, (d : Int)⟩])) rfl (World.ownsRow.alloc I9 _) ⟨w8.heap.size, 0, none⟩ 1 1 [.int .u16 c, .int .u8 0, .int .u8 1, .int .u32 ik] rfl rfl (news_at (by simp)) (by simp [Value.oneCell']) hbmb hbdb hbsb ?_)
                intro v9 w9 ow gr _
                have p9 : ownsI w9 w.heap.size v9 ((ol ++ [⟨5, 0, 0, (d : Int)⟩]) ++ [⟨c, 0, 1, ik⟩]) := ownsI_snoc (by simp) ow
                have o9 : ownsM w9 w.heap.size (.slice am ms.length cm) ms := World.ownsRow.kept (World.ownsRow.alloc M9 _) gr (own_ne I9 M9 (by decide))
                have B9 : Below w.heap.size w w9 := (N9.alloc hszb _).grown gr hbsb (fun t ht => (World.ownsRow.lt I9 t ht).1)
                clear ow gr hbmb hbdb hbsb
                clear M9 N9 I9 e0 e1 e2 e3 z0 z1 z2 z3 zf xk8 jl
                go_wp2
                go_roundw
                case rel => exact ⟨k', _, _, ms, (ol ++ [⟨5, 0, 0, (d : Int)⟩] ++ [⟨c, 0, 1, ik⟩], mk), by omega, by first | rfl | go_num, rfl, rfl, p9, o9, by omega, HL4, B9⟩
                case measure => simp [intOf]
              · have g1 : (kd == 1) = false := by simpa using h1
                rw [g1] at HL3
                have HL4 : Hid (LdJ l k' ms (ol ++ [⟨5, 0, 0, (d : Int)⟩] ++ [⟨c, 1, 0, ik⟩], mk)) := by
                  have := HL3.out
                  show LdJ _ _ _ _
                  rw [List.append_assoc]; exact this
                have hbj : Below V3.heap.size V3 ((V3.alloc (.cells #[.int .u16 5, .int .u8 0, .int .u8 0, .int .u32 (d : Int)] 51)).alloc (.cells #[.int .u16 c, .int .u8 0, .int .u8 0, .int .u32 ik] 51)) := ((Below.refl _ _).alloc (Nat.le_refl _) _).alloc (by simp) _
                have J8 := (Box4.new V3 51 (.int .u16 5) (.int .u8 0) (.int .u8 0) (.int .u32 (d : Int))).keep ((Below.refl _ _).alloc (Nat.le_refl _) (.cells #[.int .u16 c, .int .u8 0, .int .u8 0, .int .u32 ik] 51))
                have J9 := Box4.new (V3.alloc (.cells #[.int .u16 5, .int .u8 0, .int .u8 0, .int .u32 (d : Int)] 51)) 51 (.int .u16 c) (.int .u8 0) (.int .u8 0) (.int .u32 ik)
                rw [show (V3.alloc (.cells #[.int .u16 5, .int .u8 0, .int .u8 0, .int .u32 (d : Int)] 51)).heap.size = V3.heap.size + 1 by simp] at J9
                have B3 := below_step hbj B2
                have O3 := own_kept O2 hbj
                have I3 := ownsI_below I2 hbj
                have xk := cell_step hbj x0
                have xk0 : ((V3.alloc (.cells #[.int .u16 5, .int .u8 0, .int .u8 0, .int .u32 (d : Int)] 51)).alloc (.cells #[.int .u16 c, .int .u8 0, .int .u8 0, .int .u32 ik] 51)).cell? ⟨W0.heap.size, 0, none⟩ = _ := cell_step (((Below.refl _ _).alloc (Nat.le_refl _) _).alloc (by simp) _) x0
                have x1a := cell_step ((Below.refl _ _).alloc (Nat.le_refl _) (.cells #[.int .u16 5, .int .u8 0, .int .u8 0, .int .u32 (d : Int)] 51)) x1
                have x4a := cell_step ((Below.refl _ _).alloc (Nat.le_refl _) (.cells #[.int .u16 5, .int .u8 0, .int .u8 0, .int .u32 (d : Int)] 51)) x4
                clear B2 O2 I2 x0 x1 x2 x3 x4 x5
                obtain ⟨j8l, y0, y1, y2, y3, _⟩ := J8
                have hw3s : ((V3.alloc (.cells #[.int .u16 5, .int .u8 0, .int .u8 0, .int .u32 (d : Int)] 51)).alloc (.cells #[.int .u16 c, .int .u8 0, .int .u8 0, .int .u32 ik] 51)).heap.size = V3.heap.size + 2 := by simp
                have hsz := B3.size
                have hbsa : w.heap.size ≤ (((V3.alloc (.cells #[.int .u16 5, .int .u8 0, .int .u8 0, .int .u32 (d : Int)] 51)).alloc (.cells #[.int .u16 c, .int .u8 0, .int .u8 0, .int .u32 ik] 51)).alloc (.cells #[.int .u16 5, .int .u8 0, .int .u8 0, .int .u32 (d : Int)] 51)).heap.size := by simp; omega
                have hbma : ol.length + 1 ≤ maxLen := by unfold maxLen; omega
                have hbda : (ol.length + 1) * 8 ≤ 140737488355328 := by omega
                go_wp2_with (at_builtin; refine wpList_append_lies _ rfl (.tmp 84) (.tmp 86) 26 rfl (w.heap.size) 51 i1 _ 4 8 Try.underlying26 hi1 hy0 hy1 hy2 rfl (by decide) (.slice ai ol.length ci) ol.length (insCells ol) rfl (World.ownsRow.alloc I3 _) ⟨V3.heap.size + 1 + 1, 0, none⟩ 1 1 [.int .u16 5, .int .u8 0, .int .u8 0, .int .u32 (d : Int)] rfl rfl (news_at (by simp)) (by simp [Value.oneCell']) (by omega) hbma hbda hbsa _ rfl ?_)
                intro gg cg w8 ow gr hat _
                have p8 : ownsI w8 w.heap.size (.slice (some ⟨gg, 0, none⟩) (ol.length + 1) cg) (ol ++ [⟨5, 0, 0, (d : Int)⟩]) := ownsI_snoc rfl ow
                have o8 : ownsM w8 w.heap.size (.slice am ms.length cm) ms := World.ownsRow.kept (World.ownsRow.alloc O3 _) gr (own_ne I3 O3 (by decide))
                have B8 : Below w.heap.size w w8 := (B3.alloc hsz _).grown gr hbsa (fun t ht => (World.ownsRow.lt I3 t ht).1)
                have hD9 : ∀ q, (Value.slice ai ol.length ci).ownBlock = some q → q ≠ V3.heap.size + 1 := fun q hq => by have := hqi q hq; omega
                have J9a := (J9.keep ((Below.refl _ _).alloc (Nat.le_refl _) (.cells #[.int .u16 5, .int .u8 0, .int .u8 0, .int .u32 (d : Int)] 51))).grown gr (fun e => hD9 _ e.symm rfl)
                have hW0n : some W0.heap.size ≠ (Value.slice ai ol.length ci).ownBlock := fun e => by have := hqi W0.heap.size e.symm; omega
                have hW0l : W0.heap.size < (((V3.alloc (.cells #[.int .u16 5, .int .u8 0, .int .u8 0, .int .u32 (d : Int)] 51)).alloc (.cells #[.int .u16 c, .int .u8 0, .int .u8 0, .int .u32 ik] 51)).alloc (.cells #[.int .u16 5, .int .u8 0, .int .u8 0, .int .u32 (d : Int)] 51)).heap.size := by simp; omega
                have xk8 : w8.cell? ⟨W0.heap.size, 0, none⟩ = some (.int .i64 kd) := (gr.cell_far ⟨W0.heap.size, 0, none⟩ hW0l hW0n).trans (cell_step ((Below.refl _ _).alloc (Nat.le_refl _) _) xk)
                have hgn : gg ≠ V3.heap.size + 1 := by
                  rcases hat with q | q
                  · exact hD9 gg q
                  · first | omega | (simp at q; omega)
                have O8t : (w8.setCell ⟨V3.heap.size + 1, 1, none⟩ (.int .u8 1)).heap.size = w8.heap.size := by simp
                have I9 : ownsI (w8.setCell ⟨V3.heap.size + 1, 1, none⟩ (.int .u8 1)) w.heap.size (.slice (some ⟨gg, 0, none⟩) (ol.length + 1) cg) (ol ++ [⟨5, 0, 0, (d : Int)⟩]) := row_blockA p8 (fun q hq e => by
                  have : gg = q := by simpa [Value.ownBlock] using hq
                  exact absurd (this.trans e) hgn)
                have M9 : ownsM (w8.setCell ⟨V3.heap.size + 1, 1, none⟩ (.int .u8 1)) w.heap.size (.slice am ms.length cm) ms := row_blockA o8 (fun q hq e => by
                  have hlt8 := (World.ownsRow.lt O3 q hq).2
                  subst e
                  obtain ⟨_, ⟨e1, _⟩ | ⟨g, cap, cur, e1, hb, hg, _⟩⟩ := O3
                  · rw [e1] at hq; cases hq
                  · rw [e1] at hq
                    have : g = V3.heap.size + 1 := by simpa [Value.ownBlock] using hq
                    subst this
                    have e2 : ((V3.alloc (.cells #[.int .u16 5, .int .u8 0, .int .u8 0, .int .u32 (d : Int)] 51)).alloc (.cells #[.int .u16 c, .int .u8 0, .int .u8 0, .int .u32 ik] 51)).heap[V3.heap.size + 1]? = some (.cells #[.int .u16 c, .int .u8 0, .int .u8 0, .int .u32 ik] 51 (0, 0)) := by
                      have := heap_alloc_new (V3.alloc (.cells #[.int .u16 5, .int .u8 0, .int .u8 0, .int .u32 (d : Int)] 51)) (.cells #[.int .u16 c, .int .u8 0, .int .u8 0, .int .u32 ik] 51)
                      rw [show (V3.alloc (.cells #[.int .u16 5, .int .u8 0, .int .u8 0, .int .u32 (d : Int)] 51)).heap.size = V3.heap.size + 1 by simp] at this
                      exact this
                    rw [e2] at hg
                    simp only [Option.some.injEq, Obj.cells.injEq] at hg
                    exact absurd hg.2.1 (by decide))
                have N9 : Below w.heap.size w (w8.setCell ⟨V3.heap.size + 1, 1, none⟩ (.int .u8 1)) := B8.setCell (p := ⟨V3.heap.size + 1, 1, none⟩) (by show w.heap.size ≤ V3.heap.size + 1; have := hWs; omega) _
                obtain ⟨jl, z0, z1, z2, z3, jf9⟩ := J9a
                have zf := jf9 1
                have e0 : (w8.setCell ⟨V3.heap.size + 1, 1, none⟩ (.int .u8 1)).cell? ⟨V3.heap.size + 1, 0, none⟩ = some (.int .u16 c) := cell_near (by omega) z0
                have e1 : (w8.setCell ⟨V3.heap.size + 1, 1, none⟩ (.int .u8 1)).cell? ⟨V3.heap.size + 1, 1, none⟩ = some (.int .u8 1) := World.cell?_setCell_same _ _ _ z1
                have e2 : (w8.setCell ⟨V3.heap.size + 1, 1, none⟩ (.int .u8 1)).cell? ⟨V3.heap.size + 1, 2, none⟩ = some (.int .u8 0) := cell_near (by omega) z2
                have e3 : (w8.setCell ⟨V3.heap.size + 1, 1, none⟩ (.int .u8 1)).cell? ⟨V3.heap.size + 1, 3, none⟩ = some (.int .u32 ik) := cell_near (by omega) z3
                obtain ⟨vv, hvv⟩ : ∃ vv, Value.slice (some ⟨gg, 0, none⟩) (ol.length + 1) cg = vv := ⟨_, rfl⟩
                clear jf9 HL3 J9 ow gr hat y0 y1 y2 y3 xk xk0 x1a x4a I3 O3 B3 p8 o8 B8 hbma hbda hbsa hD9
                have hszb := N9.size
                rw [hvv] at I9 ⊢
                have hol1 : (ol ++ [(⟨5, 0, 0, (d : Int)⟩ : I)]).length = ol.length + 1 := by simp
                have hbsb : w.heap.size ≤ ((w8.setCell ⟨V3.heap.size + 1, 1, none⟩ (.int .u8 1)).alloc (.cells #[.int .u16 c, .int .u8 1, .int .u8 0, .int .u32 ik] 51)).heap.size := by simp; omega
                have hbmb : (ol ++ [(⟨5, 0, 0, (d : Int)⟩ : I)]).length + 1 ≤ maxLen := by rw [hol1]; unfold maxLen; omega
                have hbdb : ((ol ++ [(⟨5, 0, 0, (d : Int)⟩ : I)]).length + 1) * 8 ≤ 140737488355328 := by rw [hol1]; omega
                go_wp2_with (at_builtin; refine wpList_append_own _ rfl (.tmp 93) (.tmp 95) 26 rfl (w.heap.size) 51 i1 _ 4 8 Try.underlying26 hi1 hy0 hy1 hy2 rfl (by decide) vv (ol ++ [(⟨5, 0, 0, (d : Int)⟩ : I)]).length (insCells (ol ++ [⟨5, 0, 0, (d : Int)⟩])) rfl (World.ownsRow.alloc I9 _) ⟨w8.heap.size, 0, none⟩ 1 1 [.int .u16 c, .int .u8 1, .int .u8 0, .int .u32 ik] rfl rfl (news_at (by simp)) (by simp [Value.oneCell']) hbmb hbdb hbsb ?_)
                intro v9 w9 ow gr _
                have p9 : ownsI w9 w.heap.size v9 ((ol ++ [⟨5, 0, 0, (d : Int)⟩]) ++ [⟨c, 1, 0, ik⟩]) := ownsI_snoc (by simp) ow
                have o9 : ownsM w9 w.heap.size (.slice am ms.length cm) ms := World.ownsRow.kept (World.ownsRow.alloc M9 _) gr (own_ne I9 M9 (by decide))
                have B9 : Below w.heap.size w w9 := (N9.alloc hszb _).grown gr hbsb (fun t ht => (World.ownsRow.lt I9 t ht).1)
                clear ow gr hbmb hbdb hbsb
                clear M9 N9 I9 e0 e1 e2 e3 z0 z1 z2 z3 zf xk8 jl
                go_wp2
                go_roundw
                case rel => exact ⟨k', _, _, ms, (ol ++ [⟨5, 0, 0, (d : Int)⟩] ++ [⟨c, 1, 0, ik⟩], mk), by omega, by first | rfl | go_num, rfl, rfl, p9, o9, by omega, HL4, B9⟩
                case measure => simp [intOf]
    · have HPo : Hid (LaidPostJ l w (.returned (.slice ai st.1.length ci)) W0) := ⟨_, k, ms, st, rfl, hOI, HOk.out, by omega, B⟩
      clear HP HF H0 HLab HPl HBr HLen HOk hO hOI
      generalize st.1.length = ln at *
      by_cases hk1 : 0 < k
      · obtain ⟨k', rfl⟩ : ∃ k', k = k' + 1 := ⟨k - 1, by omega⟩
        have hk' : ((k' + 1 : Nat) : Int) - 1 = (k' : Int) := by omega
        rw [hk']
        have hkk : (0 : Int) ≤ (k' : Int) := by omega
        have hbig : ¬ (ln : Int) ≤ 4096 := by omega
        clear hk0
        go_wp2
        go_ret
        exact HPo.out
      · have hk1 : k = 0 := by omega
        subst hk1
        go_wp2
        go_ret
        exact HPo.out
end Go.Proofs.Ytoopomjkapeknaa
namespace Go.Proofs.Ytoopomjkapeknaa
open Go.RowKit
set_option linter.unusedVariables false

def LayPostJ (l : List It) (w : World) (e : Ending) (w' : World) : Prop := ∃ v, e = .returned (.tuple #[v, .int .i64 (layJC l)]) ∧ ownsI w' w.heap.size v (layJL l) ∧ Below w.heap.size w w'

set_option maxRecDepth 100000 in
set_option maxHeartbeats 4000000 in
theorem l5lay_j (l : List It) (a : Option Addr) (cap : Nat) (w : World) (s0 : List I × Mk) (hs : TSrc w a l) (ho : ∀ x ∈ l, x.ok) (hl : layJ l = some s0) (hn : l.length ≤ 1000000) :
    Calls Try.prog 15 #[.slice a l.length cap] w fun e w' => LayPostJ l w e w' := by
  obtain ⟨i1, hi1, hy0, hy1, hy2⟩ := info_parts info36
  have HL : Hid (Calls Try.prog 27 #[.slice a l.length cap] w fun e w' => LaidPostJ l w e w') := l5laid_j l a cap w s0 hs ho hl hn
  have HBig : Hid (∀ k ms st, LdJ l k ms st → 4096 < st.1.length → layJC l = 10 ∧ layJL l = []) := fun k ms st h h4 => by
    obtain ⟨t, h1, h2⟩ := layJ_part hl k
    rw [h.lay] at h1
    cases h1
    exact layj_big hl (by omega)
  have HOk : Hid (∀ ms st, LdJ l 0 ms st → ¬ 4096 < st.1.length → layJC l = 0 ∧ layJL l = st.1.reverse) := fun ms st h h4 => by
    have h1 := h.lay
    rw [List.drop_zero] at h1
    exact layj_ok h1 (by omega)
  have HPo : Hid (∀ v w', ownsI w' w.heap.size v (layJL l) → Below w.heap.size w w' → LayPostJ l w (.returned (.tuple #[v, .int .i64 (layJC l)])) w') := fun v w' h1 h2 => ⟨v, rfl, h1, h2⟩
  clear hs ho hl s0
  generalize l.length = n at *
  go_enter Try.func15, Try.ntmps15
  go_wp2_with fail
  refine (HL.out).mono ?_
  rintro _ w1 ⟨v, k, ms, st, rfl, hO, hLd, hk, hb1⟩
  obtain ⟨al, cl, rfl, hsr⟩ := ownsI_src hO
  by_cases h4 : 4096 < st.1.length
  · obtain ⟨e1, e2⟩ := HBig.out k ms st hLd h4
    rw [e1, e2] at HPo
    have HPv : Hid (LayPostJ l w (.returned (.tuple #[.slice none 0 0, .int .i64 10])) w1) := HPo.out _ w1 (World.ownsRow_nil _ _ _ _) hb1
    have h4' : (4096 : Int) < (st.1.length : Int) := by omega
    clear HBig HOk HPo HL hO hLd hsr hk e1 e2
    generalize st.1.length = ln at *
    go_wp2
    exact bodyPost_ret (v := .tuple #[.slice none 0 0, .int .i64 10]) (by simp [results, Try.results15, go_sem]) rfl HPv.out
  · have hk0 : k = 0 := by omega
    subst hk0
    obtain ⟨e1, e2⟩ := HOk.out ms st hLd h4
    rw [e1, e2] at HPo
    have h4' : ¬ (4096 : Int) < (st.1.length : Int) := by omega
    have hl4 : st.1.length ≤ 4096 := by omega
    clear HBig HOk HL hO hLd hk e1 e2 h4
    generalize st.1 = p at *
    have HR : Hid (∀ k, k < p.length → (p.drop k).reverse = (p.drop (k + 1)).reverse ++ [p.getD k I.zero]) := fun k hk => rev_step hk
    have HR0 : Hid ((p.drop 0).reverse = p.reverse) := rfl
    have HRn : Hid ((p.drop p.length).reverse = []) := by show _ = _; rw [List.drop_length]; rfl
    have HRl : Hid (∀ k, (p.drop k).reverse.length = p.length - k) := fun k => by rw [List.length_reverse, List.length_drop]
    have HS : Hid (∀ wr, Below w1.heap.size w1 wr → ∀ i, i < p.length → ∃ b o, al = some ⟨b, o, none⟩ ∧ b < wr.heap.size ∧ wr.cell? ⟨b, o + i * 4, none⟩ = some (.int .u16 (p.getD i I.zero).c) ∧ wr.cell? ⟨b, o + i * 4 + 1, none⟩ = some (.int .u8 (p.getD i I.zero).jt) ∧ wr.cell? ⟨b, o + i * 4 + 2, none⟩ = some (.int .u8 (p.getD i I.zero).jf) ∧ wr.cell? ⟨b, o + i * 4 + 3, none⟩ = some (.int .u32 (p.getD i I.zero).k)) := fun wr hb i hi => (hsr.below hb).at hi
    clear hsr
    obtain ⟨pr, hpr⟩ : ∃ pr : Nat → List I, ∀ k, (p.drop k).reverse = pr k := ⟨_, fun _ => rfl⟩
    simp only [hpr] at HR HR0 HRn HRl
    generalize p.reverse = prev at *
    generalize hpl : p.length = pn at *
    clear hpl hpr
    have hwn : IntKind.i64.wrap ((pn : Int) - 1) = (pn : Int) - 1 := by rw [IntKind.wrap_i64]; omega
    go_wp2_with fail
    go_loopw [5, 6] (fun so' i wr => ∃ (k : Nat) (so : Value), k ≤ pn ∧ i = .int .i64 ((k : Int) - 1) ∧ so = so' ∧ ownsI wr w1.heap.size so (pr k) ∧ Below w1.heap.size w1 wr) (fun _ i _ => (intOf i + 1).toNat)
    case atStart => exact ⟨pn, _, by omega, by first | rfl | go_num, rfl, by rw [HRn.out]; exact World.ownsRow_nil _ _ _ _, Below.refl _ _⟩
    case round =>
      obtain ⟨k, so, hk, rfl, hss, hOI, B⟩ := hrel
      subst hss
      rename World => W0
      by_cases hk0 : 0 < k
      · obtain ⟨k', rfl⟩ : ∃ k', k = k' + 1 := ⟨k - 1, by omega⟩
        have hk' : ((k' + 1 : Nat) : Int) - 1 = (k' : Int) := by omega
        rw [hk']
        have hkn : (k' : Int) < (pn : Int) := by omega
        have hkN : k' < pn := by omega
        have hw2 : IntKind.i64.wrap ((k' : Int) - 1) = (k' : Int) - 1 := by rw [IntKind.wrap_i64]; omega
        obtain ⟨b, o, rfl, hlt, c0, c1, c2, c3⟩ := HS.out W0 B k' hkN
        have HRk : Hid (pr k' = pr (k' + 1) ++ [p.getD k' I.zero]) := HR.out k' hkN
        have hrl := HRl.out (k' + 1)
        generalize p.getD k' I.zero = x at *
        obtain ⟨c, jt, jf, ik⟩ := x
        simp only at c0 c1 c2 c3
        have hsz := B.size
        have hbs : w1.heap.size ≤ (W0.alloc (.cells #[.int .u16 c, .int .u8 jt, .int .u8 jf, .int .u32 ik] 51)).heap.size := by simp; omega
        have hbm : (pr (k' + 1)).length + 1 ≤ maxLen := by unfold maxLen; omega
        have hbd : ((pr (k' + 1)).length + 1) * 8 ≤ 140737488355328 := by omega
        clear HR HR0 HRn HRl HS HPo
        go_wp2_with (at_builtin; refine wpList_append_own _ rfl (.tmp 19) (.tmp 24) 26 rfl (w1.heap.size) 51 i1 _ 4 8 Try.underlying26 hi1 hy0 hy1 hy2 rfl (by decide) so (pr (k' + 1)).length (insCells (pr (k' + 1))) rfl (World.ownsRow.alloc hOI _) ⟨W0.heap.size, 0, none⟩ 1 1 [.int .u16 c, .int .u8 jt, .int .u8 jf, .int .u32 ik] rfl rfl (news_at (by simp)) (by simp [Value.oneCell']) hbm hbd hbs ?_)
        intro v9 w9 ow gr _
        have p9 : ownsI w9 w1.heap.size v9 (pr (k' + 1) ++ [⟨c, jt, jf, ik⟩]) := ownsI_snoc (by omega) ow
        have B9 : Below w1.heap.size w1 w9 := (B.alloc hsz _).grown gr hbs (fun t ht => (World.ownsRow.lt hOI t ht).1)
        rw [← HRk.out] at p9
        clear ow gr hOI B c0 c1 c2 c3 hbm hbd hbs
        go_wp2
        go_roundw
        case rel => exact ⟨k', _, by omega, by first | rfl | go_num, rfl, p9, B9⟩
        case measure => simp [intOf]
      · have hk' : k = 0 := by omega
        subst hk'
        rw [HR0.out] at hOI
        have HPv : Hid (LayPostJ l w (.returned (.tuple #[so, .int .i64 0])) W0) := HPo.out so W0 (World.ownsRow.mono hOI hb1.size) (hb1.trans (B.mono hb1.size))
        clear HR HR0 HRn HRl HS HPo hOI
        go_wp2
        exact bodyPost_ret (v := .tuple #[so, .int .i64 0]) (by simp [results, Try.results15, go_sem]) rfl HPv.out

end Go.Proofs.Ytoopomjkapeknaa
namespace Go.Proofs.Ytoopomjkapeknaa
open Go.RowKit
set_option linter.unusedVariables false

set_option maxRecDepth 100000 in
set_option maxHeartbeats 4000000 in
theorem specCmp_any (p : List E) (a : Option Addr) (cap : Nat) (w : World) (hs : LSrc 3 PEC w a p) (hcap : p.length ≤ cap) (ho : okP p) (hn : p.length ≤ 16777216) (hm : ∀ e ∈ p, e.rules.length ≤ 16777216) (hr : ∀ e ∈ p, ∀ r ∈ e.rules, r.length ≤ 16777216) :
    Calls Try.prog 5 #[.agg #[.slice a p.length cap]] w fun e w' => CmpPost p w e w' := by
  have HV : Hid (∀ w1, Below w.heap.size w w1 → Calls Try.prog 14 #[.agg #[.slice a p.length cap]] w1 fun e w' => e = .returned (.bool (validP p)) ∧ Below w1.heap.size w1 w') := fun w1 hb => specValidP_any p a cap w1 ((PEC.plains hs).below PE.stays hb) ho hn hm hr
  have HNo : Hid (validP p = false → ∀ w1, Below w.heap.size w w1 → CmpPost p w (.returned (.tuple #[.slice none 0 0, .int .i64 1])) w1) := fun h w1 hb => by
    refine ⟨.slice none 0 0, ?_, ?_, hb⟩
    · unfold cmpC; rw [if_neg (by rw [h]; decide)]
    · unfold cmpL; rw [if_neg (by rw [h]; decide)]; exact World.ownsRow_nil _ _ _ _
  have HP : Hid (validP p = true → ∀ w2, Below w.heap.size w w2 → Calls Try.prog 16 #[.agg #[.slice a p.length cap]] w2 fun e w' => ∃ a3 n3 c3, e = .returned (.slice a3 n3 c3) ∧ Calls Try.prog 15 #[.slice a3 n3 c3] w' fun e w'' => ∃ v c, e = .returned (.tuple #[v, c]) ∧ CmpPost p w (.returned (.tuple #[v, c])) w'') := fun hv w2 hb => by
    obtain ⟨h1, h2, h3, h4⟩ := valid_WrE hv ho
    have h5 := valid_WrM hv
    refine (l5items_any p a cap w2 (hs.below PEC.stays hb) hcap h1 h5 h4 h3).mono ?_
    rintro e w' ⟨v', rfl, hO, hb2⟩
    obtain ⟨a3, c3, rfl, _, ht⟩ := ownsT_src hO
    have hb' : Below w.heap.size w w' := below_step hb2 hb
    have hl := itemsM_len p h1
    obtain ⟨⟨s0, hs0⟩, e1, e2⟩ := items_same p
    refine ⟨a3, _, c3, rfl, (l5lay_j (itemsM p) a3 c3 w' s0 ht (itemsM_ok p h1 h2 (by omega)) hs0 (by omega)).mono ?_⟩
    rintro e w'' ⟨v, rfl, ho', hb''⟩
    refine ⟨v, _, rfl, v, ?_, ?_, below_step hb'' hb'⟩
    · unfold cmpC; rw [if_pos hv, e1]
    · unfold cmpL; rw [if_pos hv, ← e2]; exact World.ownsRow.mono ho' hb'.size
  clear hs ho hn hm hr
  generalize validP p = V at *
  generalize p.length = n at *
  have B0 : Below w.heap.size w (w.alloc (.cells #[.slice a n cap] 31)) := (Below.refl _ _).alloc (Nat.le_refl _) _
  have x0 : (w.alloc (.cells #[.slice a n cap] 31)).cell? ⟨w.heap.size, 0, none⟩ = some (.slice a n cap) := by simp
  go_enter Try.func5, Try.ntmps5
  go_wp2_with fail
  refine (HV.out _ B0).mono ?_
  rintro _ w1 ⟨rfl, hb1⟩
  have B1 := below_step hb1 B0
  have x1 := cell_step hb1 x0
  clear hb1 B0 x0 HV
  cases V with
  | false =>
    have HF : Hid (CmpPost p w (.returned (.tuple #[.slice none 0 0, .int .i64 1])) w1) := HNo.out (by first | rfl | trivial) w1 B1
    clear HNo HP B1 x1
    go_wp2
    exact bodyPost_ret (v := .tuple #[.slice none 0 0, .int .i64 1]) (by simp [results, Try.results5, go_sem]) rfl HF.out
  | true =>
    have HQ : Hid (Calls Try.prog 16 #[.agg #[.slice a n cap]] w1 fun e w' => ∃ a3 n3 c3, e = .returned (.slice a3 n3 c3) ∧ Calls Try.prog 15 #[.slice a3 n3 c3] w' fun e w'' => ∃ v c, e = .returned (.tuple #[v, c]) ∧ CmpPost p w (.returned (.tuple #[v, c])) w'') := HP.out (by first | rfl | trivial) _ B1
    clear HNo HP B1
    go_wp2_with fail
    refine (HQ.out).mono ?_
    rintro _ w3 ⟨a3, n3, c3, rfl, hL⟩
    have HL : Hid (Calls Try.prog 15 #[.slice a3 n3 c3] w3 fun e w'' => ∃ v c, e = .returned (.tuple #[v, c]) ∧ CmpPost p w (.returned (.tuple #[v, c])) w'') := hL
    clear hL HQ x1
    go_wp2_with fail
    refine (HL.out).mono ?_
    rintro _ w4 ⟨v, c, rfl, hF⟩
    have HF : Hid (CmpPost p w (.returned (.tuple #[v, c])) w4) := hF
    clear hF HL
    go_wp2
    exact bodyPost_ret (v := .tuple #[v, c]) (by simp [results, Try.results5, go_sem]) rfl HF.out
end Go.Proofs.Ytoopomjkapeknaa
namespace Go.Proofs.Ytoopomjkapeknaa
open Go.RowKit
set_option linter.unusedVariables false

abbrev AdK := Addr × IntKind
/-- what cells hold when k, k + 1, .. are written at the addresses, one after another -/
def after : List AdK → Int → (Addr → Option Value) → Addr → Option Value
  | [], _, f => f
  | x :: A, k, f => after A (k + 1) (fun q => if q = x.1 then some (.int x.2 k) else f q)
theorem after_append (A B : List AdK) (k : Int) (f : Addr → Option Value) : after (A ++ B) k f = after B (k + A.length) (after A k f) := by
  induction A generalizing k f with
  | nil => simp [after]
  | cons x A ih =>
    simp only [List.cons_append, after, List.length_cons]
    rw [ih]
    congr 1
    omega
theorem after_out {A : List AdK} {k : Int} {f : Addr → Option Value} {q : Addr} (h : ∀ x ∈ A, x.1 ≠ q) : after A k f q = f q := by
  induction A generalizing k f with
  | nil => rfl
  | cons x A ih =>
    rw [after, ih (fun y hy => h y (by simp [hy])), if_neg (fun e => h x (by simp) e.symm)]
theorem after_get {A : List AdK} {k : Int} {f : Addr → Option Value} (hn : (A.map Prod.fst).Nodup) {j : Nat} (hj : j < A.length) : after A k f A[j].1 = some (.int A[j].2 (k + j)) := by
  induction A generalizing k f j with
  | nil => simp at hj
  | cons x A ih =>
    rw [List.map_cons, List.nodup_cons] at hn
    cases j with
    | zero =>
      simp only [List.getElem_cons_zero, after]
      rw [after_out (fun y hy e => hn.1 (by rw [← e]; exact List.mem_map_of_mem hy)), if_pos rfl]
      simp
    | succ j =>
      simp only [List.getElem_cons_succ, after]
      rw [ih hn.2 (by simpa using hj)]
      congr 2
      push_cast
      omega
/-- numbers lie there, free to be written -/
def IntsAt (w : World) (A : List AdK) : Prop := ∀ x ∈ A, (∃ n, w.cell? x.1 = some (.int x.2 n)) ∧ w.frozen? x.1 = false
/-- numbers stay numbers, slices stay as they are -/
structure Sim (w w' : World) : Prop where
  ints : ∀ p t n, w.cell? p = some (.int t n) → ∃ m, w'.cell? p = some (.int t m)
  rows : ∀ p a n c, w.cell? p = some (.slice a n c) → w'.cell? p = some (.slice a n c)
  frozen : ∀ p, w'.frozen? p = w.frozen? p
theorem Sim.refl (w : World) : Sim w w := ⟨fun p t n h => ⟨n, h⟩, fun p a n c h => h, fun p => rfl⟩
theorem IntsAt.sim {w w' : World} {A : List AdK} (h : IntsAt w A) (s : Sim w w') : IntsAt w' A := fun x hx => by
  obtain ⟨⟨n, h1⟩, h2⟩ := h x hx
  exact ⟨s.ints _ _ _ h1, (s.frozen _).trans h2⟩
/-- k, k + 1, .. were written at the addresses -/
structure Wrote (w w' : World) (A : List AdK) (k : Int) : Prop where
  cell : ∀ p, w'.cell? p = after A k w.cell? p
  sim : Sim w w'
  size : w'.heap.size = w.heap.size
  below : ∀ L, (∀ x ∈ A, L ≤ x.1.block) → Below L w w'
  block : ∀ b, (∀ x ∈ A, x.1.block ≠ b) → w'.heap[b]? = w.heap[b]?
theorem Wrote.refl (w : World) (k : Int) : Wrote w w [] k := ⟨fun p => rfl, Sim.refl w, rfl, fun L _ => Below.refl _ _, fun b _ => rfl⟩
theorem Wrote.drew {w w' : World} {A : List AdK} {k : Int} (h : Wrote w w' A k) : Wrote w w'.drew A k := ⟨h.cell, ⟨h.sim.ints, h.sim.rows, h.sim.frozen⟩, h.size, fun L hL => (h.below L hL).drew, h.block⟩
theorem Sim.set {w : World} {p : Addr} {t : IntKind} {n m : Int} (h : w.cell? p = some (.int t n)) : Sim w (w.setCell p (.int t m)) := by
  refine ⟨fun q t' n' h' => ?_, fun q a n' c h' => ?_, fun q => by simp⟩
  · by_cases e : p = q
    · subst e
      rw [h] at h'
      cases h'
      exact ⟨m, World.cell?_setCell_same' _ _ _ (by rw [h]; rfl)⟩
    · exact ⟨n', (World.cell?_setCell_other _ _ _ _ e).trans h'⟩
  · have e : p ≠ q := fun e => by rw [← e, h] at h'; cases h'
    exact (World.cell?_setCell_other _ _ _ _ e).trans h'
theorem Sim.trans {a b c : World} (h : Sim a b) (h' : Sim b c) : Sim a c :=
  ⟨fun p t n e => by obtain ⟨m, e1⟩ := h.ints p t n e; exact h'.ints p t m e1, fun p x n cc e => h'.rows _ _ _ _ (h.rows _ _ _ _ e), fun p => (h'.frozen p).trans (h.frozen p)⟩
theorem Wrote.trans {a b c : World} {A B : List AdK} {k : Int} {k' : Int} (h : Wrote a b A k) (h' : Wrote b c B k') (hk : k' = k + A.length) : Wrote a c (A ++ B) k := by
  subst hk
  refine ⟨fun p => ?_, h.sim.trans h'.sim, h'.size.trans h.size, fun L hL => ?_, fun bk hb => ?_⟩
  · rw [h'.cell p, after_append]
    congr 1
    funext q
    exact h.cell q
  · exact (h.below L fun x hx => hL x (by simp [hx])).trans (h'.below L fun x hx => hL x (by simp [hx]))
  · exact (h'.block bk fun x hx => hb x (by simp [hx])).trans (h.block bk fun x hx => hb x (by simp [hx]))
theorem Wrote.one {w : World} {b o : Nat} {t : IntKind} {n k : Int} (h : w.cell? ⟨b, o, none⟩ = some (.int t n)) : Wrote w (w.setCell ⟨b, o, none⟩ (.int t k)) [(⟨b, o, none⟩, t)] k := by
  refine ⟨fun p => ?_, Sim.set h, by simp, fun L hL => (Below.refl _ _).setCell (p := ⟨b, o, none⟩) (hL (⟨b, o, none⟩, t) (by simp)) _, fun c hc => ?_⟩
  · simp only [after]
    by_cases e : p = ⟨b, o, none⟩
    · subst e
      rw [if_pos rfl, World.cell?_setCell_same' _ _ _ (by rw [h]; rfl)]
    · rw [if_neg e]; exact World.cell?_setCell_other _ _ _ _ (fun q => e q.symm)
  · have := hc (⟨b, o, none⟩, t) (by simp)
    simp only [World.setCell, Array.getElem?_modify]; rw [if_neg this]
/-- k, k + 1, .. stand at the addresses -/
def HeldA (w : World) (A : List AdK) (k : Int) : Prop := ∀ j (h : j < A.length), w.cell? A[j].1 = some (.int A[j].2 (k + j))
theorem Wrote.held {w w' : World} {A : List AdK} {k : Int} (h : Wrote w w' A k) (hn : (A.map Prod.fst).Nodup) : HeldA w' A k := fun j hj => by
  rw [h.cell, after_get hn hj]
theorem HeldA.below {w w' : World} {A : List AdK} {k : Int} (h : HeldA w A k) (hb : Below w.heap.size w w') : HeldA w' A k := fun j hj => by
  have hc := h j hj
  have hl : A[j].1.block < w.heap.size := by
    simp only [World.cell?] at hc
    by_cases e : A[j].1.block < w.heap.size
    · exact e
    · rw [Array.getElem?_eq_none (by omega)] at hc; cases hc
  rw [hb.cell hl]; exact hc
theorem HeldA.left {w : World} {A B : List AdK} {k : Int} (h : HeldA w (A ++ B) k) : HeldA w A k := fun j hj => by
  have := h j (by rw [List.length_append]; omega)
  rw [List.getElem_append_left hj] at this; exact this
theorem HeldA.right {w : World} {A B : List AdK} {k k' : Int} (h : HeldA w (A ++ B) k) (hk : k' = k + A.length) : HeldA w B k' := fun j hj => by
  subst hk
  have := h (A.length + j) (by rw [List.length_append]; omega)
  rw [List.getElem_append_right (by omega)] at this
  simp only [Nat.add_sub_cancel_left] at this
  rw [this]
  congr 2
  push_cast
  omega

/-! the addresses -/
def a3 (b o : Nat) : List AdK := [(⟨b, o, none⟩, .i64), (⟨b, o + 1, none⟩, .u64), (⟨b, o + 2, none⟩, .u64)]
def conA (b o : Nat) (n : Nat) : List AdK := (List.range n).flatMap fun j => a3 b (o + j * 3)
theorem flat_succ {α : Type} (f : Nat → List α) (n : Nat) : (List.range (n + 1)).flatMap f = (List.range n).flatMap f ++ f n := by
  rw [List.range_succ, List.flatMap_append]; simp
theorem conA_succ (b o n : Nat) : conA b o (n + 1) = conA b o n ++ a3 b (o + n * 3) := flat_succ _ n
theorem conA_len (b o : Nat) : ∀ n, (conA b o n).length = n * 3
  | 0 => rfl
  | n + 1 => by rw [conA_succ, List.length_append, conA_len]; simp [a3]; omega
/-- the conditions of a slice -/
def SK (w : World) (a : Option Addr) (n : Nat) (A : List AdK) : Prop := (n = 0 ∧ A = []) ∨ ∃ b o, a = some ⟨b, o, none⟩ ∧ A = conA b o n ∧ IntsAt w A
/-- the rules of a slice -/
def SR (w : World) (a : Option Addr) (n : Nat) (A : List AdK) : Prop := n ≤ 1048576 ∧ ((n = 0 ∧ A = []) ∨ ∃ b o, a = some ⟨b, o, none⟩ ∧ ∃ F : Nat → List AdK, A = (List.range n).flatMap F ∧ ∀ i, i < n → ∃ a' n' c', w.cell? ⟨b, o + i, none⟩ = some (.slice a' n' c') ∧ SK w a' n' (F i))
def a2 (b o : Nat) : List AdK := [(⟨b, o, none⟩, .u32), (⟨b, o + 1, none⟩, .u32)]
/-- the entries of a slice -/
def SE (w : World) (a : Option Addr) (n : Nat) (A : List AdK) : Prop := n ≤ 1048576 ∧ ((n = 0 ∧ A = []) ∨ ∃ b o, a = some ⟨b, o, none⟩ ∧ ∃ F : Nat → List AdK, A = ((List.range n).flatMap fun i => a2 b (o + i * 3) ++ F i) ∧ ∀ i, i < n → IntsAt w (a2 b (o + i * 3)) ∧ ∃ a' n' c', w.cell? ⟨b, o + i * 3 + 2, none⟩ = some (.slice a' n' c') ∧ SR w a' n' (F i))
theorem SK.sim {w w' : World} {a : Option Addr} {n : Nat} {A : List AdK} (h : SK w a n A) (s : Sim w w') : SK w' a n A := by
  rcases h with h | ⟨b, o, h1, h2, h3⟩
  · exact .inl h
  · exact .inr ⟨b, o, h1, h2, h3.sim s⟩
theorem SR.sim {w w' : World} {a : Option Addr} {n : Nat} {A : List AdK} (h : SR w a n A) (s : Sim w w') : SR w' a n A := by
  obtain ⟨hm, h⟩ := h
  rcases h with h | ⟨b, o, h1, F, h2, h3⟩
  · exact ⟨hm, .inl h⟩
  · refine ⟨hm, .inr ⟨b, o, h1, F, h2, fun i hi => ?_⟩⟩
    obtain ⟨a', n', c', h4, h5⟩ := h3 i hi
    exact ⟨a', n', c', s.rows _ _ _ _ h4, h5.sim s⟩
theorem SE.sim {w w' : World} {a : Option Addr} {n : Nat} {A : List AdK} (h : SE w a n A) (s : Sim w w') : SE w' a n A := by
  obtain ⟨hm, h⟩ := h
  rcases h with h | ⟨b, o, h1, F, h2, h3⟩
  · exact ⟨hm, .inl h⟩
  · refine ⟨hm, .inr ⟨b, o, h1, F, h2, fun i hi => ?_⟩⟩
    obtain ⟨h6, a', n', c', h4, h5⟩ := h3 i hi
    exact ⟨h6.sim s, a', n', c', s.rows _ _ _ _ h4, h5.sim s⟩
end Go.Proofs.Ytoopomjkapeknaa
