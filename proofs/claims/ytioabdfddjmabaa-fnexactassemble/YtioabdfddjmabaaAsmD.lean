/-
  CONTRACTS of the model's Assemble.
-/
import Derived.Test.YtioabdfddjmabaaAsmC
import Derived.Test.YtioabdfddjmabaaOwnI
import Derived.Deep.AppendLies
namespace Go.Proofs.Ytioabdfddjmabaa
open Go.RowKit
set_option linter.unusedVariables false

theorem own_ne {w : World} {B B' t t' s s' n n' : Nat} {v v' : Value} {xs xs' : List Value} (h : w.ownsRow B t s v n xs) (h' : w.ownsRow B' t' s' v' n' xs') (ht : t ≠ t') : v'.ownBlock = none ∨ v'.ownBlock ≠ v.ownBlock := by
  obtain ⟨_, ⟨rfl, _⟩ | ⟨g, cap, cur, rfl, hb, hg, _⟩⟩ := h
  · cases hv : v'.ownBlock with
    | none => exact .inl rfl
    | some q => exact .inr (by simp [Value.ownBlock])
  · obtain ⟨_, ⟨rfl, _⟩ | ⟨g', cap', cur', rfl, hb', hg', _⟩⟩ := h'
    · exact .inl rfl
    · refine .inr fun e => ?_
      have : g' = g := by simpa [Value.ownBlock] using e
      subst this
      rw [hg] at hg'
      simp only [Option.some.injEq, Obj.cells.injEq] at hg'
      exact ht hg'.2.1
theorem own_kept {w w1 : World} {B t s n : Nat} {v : Value} {xs : List Value} (h : w.ownsRow B t s v n xs) (hb : Below w.heap.size w w1) : w1.ownsRow B t s v n xs :=
  World.ownsRow.kept (row := none) h ⟨hb.os, hb.tape, hb.output, hb.size, fun k hk _ => hb.block k hk⟩ (by cases v.ownBlock <;> simp)
theorem infoMark : (Try.prog.info? 52).map (fun i => (i.zero, i.size, i.bytes)) = some (some (.agg #[.int .i64 0, .int .i64 0]), 2, 16) := by kernel_rfl
theorem l5isBranch_any (kd : Int) (w : World) : Calls Try.prog 23 #[.int .i64 kd] w fun e w' => e = .returned (.bool (kd == 1 || kd == 2 || kd == 3)) ∧ w' = w := by
  go_enter Try.func23, Try.ntmps23
  go_wp2
  all_goals go_ret
  all_goals exact ⟨ret_bool (by simp [*]), rfl⟩
theorem fdV_neg {o : Option Nat} : fdV o < 0 ↔ o = none := by
  cases o with
  | none => simp [fdV]
  | some a => simp [fdV]

/-- the marks of the model's first look -/
structure OkS (l : List It) (k : Nat) (ms : List Ma) : Prop where
  all : ∀ j, k ≤ j → j < l.length → okIt (l.getD j It.zero) = true
  lay : ∃ st, layI (l.drop k) = some st ∧ ∀ t, findM ms t = none ↔ st.2 t = none
theorem OkS.start (l : List It) : OkS l l.length [] := ⟨fun j h1 h2 => by omega, by rw [List.drop_length]; exact ⟨_, rfl, fun t => by simp [findM]⟩⟩
theorem OkS.label {l : List It} {k : Nat} {ms : List Ma} (h : OkS l (k + 1) ms) (hk : k < l.length) (ho : okIt (l.getD k It.zero) = true) (h4 : (l.getD k It.zero).kind = 4) (hf : findM ms (l.getD k It.zero).target = none) : OkS l k (ms ++ [((l.getD k It.zero).target, 0)]) := by
  obtain ⟨h1, st, h2, h3⟩ := h
  refine ⟨fun j g1 g2 => ?_, ?_⟩
  · by_cases e : j = k
    · rw [e]; exact ho
    · exact h1 j (by omega) g2
  · rw [layI_drop hk, h2]
    simp only [stI]
    rw [if_neg (by omega), (h3 _).1 hf, if_pos h4]
    refine ⟨_, rfl, fun t => ?_⟩
    rw [findM_snoc]
    simp only
    by_cases e : t = (l.getD k It.zero).target
    · rw [if_pos e, if_pos e]; simp
    · rw [if_neg e, if_neg e]; exact h3 t
theorem OkS.twice {l : List It} {k : Nat} {ms : List Ma} (h : OkS l (k + 1) ms) (hk : k < l.length) (h4 : (l.getD k It.zero).kind = 4) (hf : findM ms (l.getD k It.zero).target ≠ none) : layI l = none := by
  obtain ⟨h1, st, h2, h3⟩ := h
  apply layI_part_none (i := k)
  rw [layI_drop hk, h2]
  simp only [stI]
  rw [if_neg (by omega)]
  have : st.2 (l.getD k It.zero).target ≠ none := fun e => hf ((h3 _).2 e)
  cases e : st.2 (l.getD k It.zero).target with
  | none => exact absurd e this
  | some a => simp only; rw [if_pos h4]
theorem OkS.plain {l : List It} {k : Nat} {ms : List Ma} (h : OkS l (k + 1) ms) (hk : k < l.length) (ho : okIt (l.getD k It.zero) = true) (h0 : (l.getD k It.zero).kind = 0) : OkS l k ms := by
  obtain ⟨h1, st, h2, h3⟩ := h
  refine ⟨fun j g1 g2 => ?_, ?_⟩
  · by_cases e : j = k
    · rw [e]; exact ho
    · exact h1 j (by omega) g2
  · rw [layI_drop hk, h2]
    simp only [stI]
    rw [if_pos h0]
    exact ⟨_, rfl, h3⟩
theorem OkS.branch {l : List It} {k : Nat} {ms : List Ma} (h : OkS l (k + 1) ms) (hk : k < l.length) (ho : okIt (l.getD k It.zero) = true) (h0 : (l.getD k It.zero).kind ≠ 0) (h4 : (l.getD k It.zero).kind ≠ 4) (hf : findM ms (l.getD k It.zero).target ≠ none) : OkS l k ms := by
  obtain ⟨h1, st, h2, h3⟩ := h
  refine ⟨fun j g1 g2 => ?_, ?_⟩
  · by_cases e : j = k
    · rw [e]; exact ho
    · exact h1 j (by omega) g2
  · rw [layI_drop hk, h2]
    simp only [stI]
    rw [if_neg h0]
    have : st.2 (l.getD k It.zero).target ≠ none := fun e => hf ((h3 _).2 e)
    cases e : st.2 (l.getD k It.zero).target with
    | none => exact absurd e this
    | some a => simp only; rw [if_neg h4]; exact ⟨_, rfl, h3⟩
theorem OkS.lost {l : List It} {k : Nat} {ms : List Ma} (h : OkS l (k + 1) ms) (hk : k < l.length) (h0 : (l.getD k It.zero).kind ≠ 0) (h4 : (l.getD k It.zero).kind ≠ 4) (hf : findM ms (l.getD k It.zero).target = none) : layI l = none := by
  obtain ⟨h1, st, h2, h3⟩ := h
  apply layI_part_none (i := k)
  rw [layI_drop hk, h2]
  simp only [stI]
  rw [if_neg h0, (h3 _).1 hf]
  simp only
  rw [if_neg h4]
def itemsB (l : List It) : Bool := l.all okIt && (layI l).isSome
theorem itemsB_bad {l : List It} {k : Nat} (hk : k < l.length) (h : okIt (l.getD k It.zero) = false) : itemsB l = false := by
  unfold itemsB
  have : l.all okIt = false := by
    rw [Bool.eq_false_iff]
    intro e
    rw [List.all_eq_true] at e
    have := e (l.getD k It.zero) (by rw [List.getD_eq_getElem?_getD, List.getElem?_eq_getElem hk]; exact List.getElem_mem hk)
    rw [h] at this; cases this
  rw [this]; rfl
theorem itemsB_none {l : List It} (h : layI l = none) : itemsB l = false := by unfold itemsB; rw [h]; simp
theorem OkS.done {l : List It} {ms : List Ma} (h : OkS l 0 ms) : itemsB l = true := by
  obtain ⟨h1, st, h2, _⟩ := h
  unfold itemsB
  rw [List.drop_zero] at h2
  rw [h2]
  simp only [Option.isSome_some, Bool.and_true]
  rw [List.all_eq_true]
  intro x hx
  obtain ⟨i, hi, rfl⟩ := List.getElem_of_mem hx
  have := h1 i (Nat.zero_le _) hi
  rw [List.getD_eq_getElem?_getD, List.getElem?_eq_getElem hi] at this; exact this

set_option maxRecDepth 100000 in
set_option maxHeartbeats 4000000 in
theorem l5itemsOK_any (l : List It) (a : Option Addr) (cap : Nat) (w : World) (hs : TSrc w a l) (ho : ∀ x ∈ l, x.ok) (hn : l.length ≤ 20000) :
    Calls Try.prog 13 #[.slice a l.length cap] w fun e w' => e = .returned (.bool (itemsB l)) ∧ Below w.heap.size w w' := by
  obtain ⟨i0, hi, hz0, hz1, hz2⟩ := info_parts infoMark
  have HP : Hid (∀ wr, Below w.heap.size w wr → ∀ i, i < l.length → ∃ b o, a = some ⟨b, o, none⟩ ∧ b < wr.heap.size ∧ PI wr b (o + i * 6) (l.getD i It.zero)) := fun wr hB i hi => (hs.below PI.stays hB).at hi It.zero
  have HC : Hid (∀ i w1, i < l.length → Calls Try.prog 21 #[itV (l.getD i It.zero)] w1 fun e w' => e = .returned (.bool (okIt (l.getD i It.zero))) ∧ Below w1.heap.size w1 w') := fun i w1 hi => l5itemOK_any _ w1 (ho _ (by rw [List.getD_eq_getElem?_getD, List.getElem?_eq_getElem hi]; exact List.getElem_mem hi))
  have HF : Hid (∀ (ms : List Ma) t a cap w1, LSrc 2 PM w1 a ms → ms.length ≤ 1048576 → Calls Try.prog 22 #[.slice a ms.length cap, .int .i64 t] w1 fun e w' => e = .returned (.int .i64 (fdV (findM ms t))) ∧ w' = w1) := fun ms t a cap w1 h1 h2 => l5find_any ms t a cap w1 h1 h2
  have HBr : Hid (∀ kd w1, Calls Try.prog 23 #[.int .i64 kd] w1 fun e w' => e = .returned (.bool (kd == 1 || kd == 2 || kd == 3)) ∧ w' = w1) := fun kd w1 => l5isBranch_any kd w1
  have H0 : Hid (OkS l l.length []) := OkS.start l
  have HBad : Hid (∀ k, k < l.length → okIt (l.getD k It.zero) = false → itemsB l = false) := fun k hk h => itemsB_bad hk h
  have HNone : Hid (layI l = none → itemsB l = false) := itemsB_none
  have HDone : Hid (∀ ms, OkS l 0 ms → itemsB l = true) := fun ms h => h.done
  have HLab : Hid (∀ k ms, OkS l (k + 1) ms → k < l.length → okIt (l.getD k It.zero) = true → (l.getD k It.zero).kind = 4 → findM ms (l.getD k It.zero).target = none → OkS l k (ms ++ [((l.getD k It.zero).target, 0)])) := fun k ms h h1 h2 h3 h4 => h.label h1 h2 h3 h4
  have HTw : Hid (∀ k ms, OkS l (k + 1) ms → k < l.length → (l.getD k It.zero).kind = 4 → findM ms (l.getD k It.zero).target ≠ none → layI l = none) := fun k ms h h1 h2 h3 => h.twice h1 h2 h3
  have HPl : Hid (∀ k ms, OkS l (k + 1) ms → k < l.length → okIt (l.getD k It.zero) = true → (l.getD k It.zero).kind = 0 → OkS l k ms) := fun k ms h h1 h2 h3 => h.plain h1 h2 h3
  have HBn : Hid (∀ k ms, OkS l (k + 1) ms → k < l.length → okIt (l.getD k It.zero) = true → (l.getD k It.zero).kind ≠ 0 → (l.getD k It.zero).kind ≠ 4 → findM ms (l.getD k It.zero).target ≠ none → OkS l k ms) := fun k ms h h1 h2 h3 h4 h5 => h.branch h1 h2 h3 h4 h5
  have HLo : Hid (∀ k ms, OkS l (k + 1) ms → k < l.length → (l.getD k It.zero).kind ≠ 0 → (l.getD k It.zero).kind ≠ 4 → findM ms (l.getD k It.zero).target = none → layI l = none) := fun k ms h h1 h2 h3 h4 => h.lost h1 h2 h3 h4
  have HKd : Hid (∀ x, okIt x = true → x.kind = 0 ∨ x.kind = 1 ∨ x.kind = 2 ∨ x.kind = 3 ∨ x.kind = 4) := fun x h => by
    unfold okIt at h
    by_cases h0 : x.kind = 0
    · exact .inl h0
    · rw [if_neg h0] at h
      by_cases h1 : x.kind = 1 ∨ x.kind = 2
      · omega
      · rw [if_neg h1] at h; simp at h; omega
  clear hs ho
  generalize itemsB l = R at *
  generalize l.length = n at *
  have hwn : IntKind.i64.wrap ((n : Int) - 1) = (n : Int) - 1 := by rw [IntKind.wrap_i64]; omega
  go_enter Try.func13, Try.ntmps13
  go_wp2_with fail
  go_loopw [3, 4] (fun s' i wr => ∃ (k : Nat) (s : Value) (ms : List Ma), k ≤ n ∧ i = .int .i64 ((k : Int) - 1) ∧ s = s' ∧ ownsM wr w.heap.size s ms ∧ ms.length ≤ n - k ∧ Hid (OkS l k ms) ∧ Below w.heap.size w wr) (fun _ i _ => (intOf i + 1).toNat)
  case atStart => exact ⟨n, _, [], by omega, by first | rfl | go_num, rfl, World.ownsRow_nil _ _ _ _, by simp, H0, Below.refl _ _⟩
  case round =>
    obtain ⟨k, s, ms, hk, rfl, hss, hO, hml, HOk, B⟩ := hrel
    subst hss
    rename World => W0
    by_cases hk0 : 0 < k
    · obtain ⟨k', rfl⟩ : ∃ k', k = k' + 1 := ⟨k - 1, by omega⟩
      have hk' : ((k' + 1 : Nat) : Int) - 1 = (k' : Int) := by omega
      rw [hk']
      have hkn : (k' : Int) < (n : Int) := by omega
      have hkN : k' < n := by omega
      have hw2 : IntKind.i64.wrap ((k' : Int) - 1) = (k' : Int) - 1 := by rw [IntKind.wrap_i64]; omega
      obtain ⟨b, o, rfl, hlt, c0, c1, c2, c3, c4, c5⟩ := HP.out W0 B k' hkN
      have HCk := fun w1 => HC.out k' w1 hkN
      have HBadk : Hid _ := HBad.out k' hkN
      have HLabk : Hid _ := fun h1 => HLab.out k' ms HOk.out hkN h1
      have HTwk : Hid _ := HTw.out k' ms HOk.out hkN
      have HPlk : Hid _ := HPl.out k' ms HOk.out hkN
      have HBnk : Hid _ := HBn.out k' ms HOk.out hkN
      have HLok : Hid _ := HLo.out k' ms HOk.out hkN
      have HKdk : Hid _ := HKd.out (l.getD k' It.zero)
      generalize okIt (l.getD k' It.zero) = V at *
      generalize l.getD k' It.zero = x at *
      obtain ⟨kd, ⟨c, jt, jf, ik⟩, tg⟩ := x
      simp only at c0 c1 c2 c3 c4 c5 HLabk HTwk HPlk HBnk HLok HKdk
      simp only [itV] at HCk
      have HC2 : Hid (∀ w1, Calls Try.prog 21 #[.agg #[.int .i64 kd, .int .u16 c, .int .u8 jt, .int .u8 jf, .int .u32 ik, .int .i64 tg]] w1 fun e w' => e = .returned (.bool V) ∧ Below w1.heap.size w1 w') := HCk
      obtain ⟨am, cm, rfl, _, hsm⟩ := ownsM_src hO
      have hbx : Below W0.heap.size W0 (W0.alloc (.cells #[.int .i64 kd, .int .u16 c, .int .u8 jt, .int .u8 jf, .int .u32 ik, .int .i64 tg] 40)) := (Below.refl _ _).alloc (Nat.le_refl _) _
      have X := Box6.new W0 40 (.int .i64 kd) (.int .u16 c) (.int .u8 jt) (.int .u8 jf) (.int .u32 ik) (.int .i64 tg)
      have hBx := below_step hbx B
      have hOx := own_kept hO hbx
      have hsmx := hsm.below PM.stays hbx
      clear HP HC HBad HLab HTw HPl HBn HLo HKd HOk H0 HCk hO hsm B hbx
      go_wp2_with fail
      generalize W0.alloc (.cells #[.int .i64 kd, .int .u16 c, .int .u8 jt, .int .u8 jf, .int .u32 ik, .int .i64 tg] 40) = W1 at *
      refine (HC2.out _).mono ?_
      rintro _ w2 ⟨rfl, hb2⟩
      have B2 := below_step hb2 hBx
      have O2 := own_kept hOx hb2
      have hs2 := hsmx.below PM.stays hb2
      obtain ⟨_, x0, x1, x2, x3, x4, x5, _⟩ := X.keep hb2
      clear X hb2 hBx hOx hsmx HC2 c0 c1 c2 c3 c4 c5
      cases V with
      | false =>
        have HR : Hid (R = false) := HBadk.out (by first | rfl | trivial)
        clear HBadk HLabk HTwk HPlk HBnk HLok HKdk HF HBr HNone HDone
        go_wp2
        go_ret
        exact ⟨ret_bool HR.out.symm, B2⟩
      | true =>
        have hkd := HKdk.out (by first | rfl | trivial)
        have HFk : Hid (Calls Try.prog 22 #[.slice am ms.length cm, .int .i64 tg] w2 fun e w' => e = .returned (.int .i64 (fdV (findM ms tg))) ∧ w' = w2) := HF.out ms tg am cm w2 hs2 (by omega)
        have HBrk : Hid (Calls Try.prog 23 #[.int .i64 kd] w2 fun e w' => e = .returned (.bool (kd == 1 || kd == 2 || kd == 3)) ∧ w' = w2) := HBr.out kd w2
        clear HF HBr HBadk HKdk hs2
        by_cases h4 : kd = 4
        · subst h4
          have HTw2 : Hid (findM ms tg ≠ none → R = false) := fun h => HNone.out (HTwk.out rfl h)
          have HLab2 : Hid (findM ms tg = none → OkS l k' (ms ++ [(tg, 0)])) := fun h => HLabk.out rfl rfl h
          have HFd : Hid (fdV (findM ms tg) < 0 ↔ findM ms tg = none) := fdV_neg
          clear HTwk HLabk HPlk HBnk HLok hkd HNone HBrk HDone
          generalize findM ms tg = fo at *
          generalize fdV fo = fv at *
          go_wp2_with fail
          refine (HFk.out).mono ?_
          rintro _ w3 ⟨rfl, rfl⟩
          by_cases hfv : fv < 0
          · have HL3 : Hid (OkS l k' (ms ++ [(tg, 0)])) := HLab2.out (HFd.out.1 hfv)
            have g1 : ¬ 0 ≤ fv := by omega
            have hsz := B2.size
            have hbs : w.heap.size ≤ (w3.alloc (.cells #[.int .i64 tg, .int .i64 0] 52)).heap.size := by simp; omega
            have hbm : ms.length + 1 ≤ maxLen := by unfold maxLen; omega
            have hbd : (ms.length + 1) * 16 ≤ 140737488355328 := by omega
            clear HFk HTw2 HLab2 HFd
            go_wp2_with (at_builtin; refine wpList_append_own _ rfl (.tmp 28) (.tmp 32) 49 rfl (w.heap.size) 52 i0 _ 2 16 Try.underlying49 hi hz0 hz1 hz2 rfl (by decide) (.slice am ms.length cm) ms.length (ms.flatMap maC) rfl (World.ownsRow.alloc O2 _) ⟨w3.heap.size, 0, none⟩ 1 1 [.int .i64 tg, .int .i64 0] rfl rfl (World.news_of_block (t := 52) (fr := (0, 0)) (heap_alloc_new w3 _)) (by simp [Value.oneCell']) hbm hbd hbs ?_)
            intro v9 w9 ow gr _
            have o9 : ownsM w9 w.heap.size v9 (ms ++ [(tg, 0)]) := by simpa [ownsM, maC] using ow
            have B9 : Below w.heap.size w w9 := (B2.alloc hsz _).grown gr hbs (fun t ht => (O2.lt t ht).1)
            clear ow gr O2 B2 x0 x1 x2 x3 x4 x5 hbm hbd hbs
            go_wp2
            go_roundw
            case rel => exact ⟨k', _, _, by omega, by first | rfl | go_num, rfl, o9, by simp; omega, HL3, B9⟩
            case measure => simp [intOf]
          · have HR : Hid (R = false) := HTw2.out (fun e => hfv (HFd.out.2 e))
            have g1 : 0 ≤ fv := by omega
            clear HFk HTw2 HLab2 HFd
            go_wp2
            go_ret
            exact ⟨ret_bool HR.out.symm, B2⟩
        · have g4 : (kd == 4) = false := by simpa using h4
          by_cases h0 : kd = 0
          · subst h0
            have HP2 : Hid (OkS l k' ms) := HPlk.out rfl rfl
            clear HTwk HLabk HPlk HBnk HLok hkd HNone HFk HDone
            go_wp2_with fail
            refine (HBrk.out).mono ?_
            rintro _ w3 ⟨rfl, rfl⟩
            go_wp2
            go_roundw
            case rel => exact ⟨k', _, ms, by omega, by first | rfl | go_num, rfl, O2, by omega, HP2, B2⟩
            case measure => simp [intOf]
          · have gb : (kd == 1 || kd == 2 || kd == 3) = true := by simp; omega
            rw [gb] at HBrk
            have HB2 : Hid (findM ms tg ≠ none → OkS l k' ms) := fun h => HBnk.out rfl h0 h4 h
            have HL2 : Hid (findM ms tg = none → R = false) := fun h => HNone.out (HLok.out h0 h4 h)
            have HFd : Hid (fdV (findM ms tg) < 0 ↔ findM ms tg = none) := fdV_neg
            clear HTwk HLabk HPlk HBnk HLok hkd HNone HDone h0 h4 gb
            generalize findM ms tg = fo at *
            generalize fdV fo = fv at *
            go_wp2_with fail
            refine (HBrk.out).mono ?_
            rintro _ w3 ⟨rfl, rfl⟩
            go_wp2_with fail
            refine (HFk.out).mono ?_
            rintro _ w4 ⟨rfl, rfl⟩
            by_cases hfv : fv < 0
            · have HR : Hid (R = false) := HL2.out (HFd.out.1 hfv)
              clear HFk HB2 HL2 HFd HBrk
              go_wp2
              go_ret
              exact ⟨ret_bool HR.out.symm, B2⟩
            · have HP2 : Hid (OkS l k' ms) := HB2.out (fun e => hfv (HFd.out.2 e))
              clear HFk HB2 HL2 HFd HBrk
              go_wp2
              go_roundw
              case rel => exact ⟨k', _, ms, by omega, by first | rfl | go_num, rfl, O2, by omega, HP2, B2⟩
              case measure => simp [intOf]
    · have hk' : k = 0 := by omega
      subst hk'
      have HR : Hid (R = true) := HDone.out ms HOk.out
      go_wp2
      go_ret
      exact ⟨ret_bool HR.out.symm, B⟩
end Go.Proofs.Ytioabdfddjmabaa
