/-
  CONTRACTS of the model's look at items.
-/
import Derived.Test.YtioabdfddjmabaaMathA
import Derived.Test.YtioabdfddjmabaaAsmB
import Derived.Test.YtioabdfddjmabaaFaultS
namespace Go.Proofs.Ytioabdfddjmabaa
open Go.RowKit
set_option linter.unusedVariables false

theorem okIt0 {c jt jf k tg : Int} : okIt ⟨0, ⟨c, jt, jf, k⟩, tg⟩ = (knownB c && (c != 5) && !tstB c) := rfl
theorem okIt1 {c jt jf k tg : Int} : okIt ⟨1, ⟨c, jt, jf, k⟩, tg⟩ = isTst c := rfl
theorem okIt2 {c jt jf k tg : Int} : okIt ⟨2, ⟨c, jt, jf, k⟩, tg⟩ = isTst c := rfl
theorem okIt_else {kd c jt jf k tg : Int} (h0 : kd ≠ 0) (h1 : kd ≠ 1) (h2 : kd ≠ 2) : okIt ⟨kd, ⟨c, jt, jf, k⟩, tg⟩ = (kd == 3 || kd == 4) := by
  unfold okIt
  simp only
  rw [if_neg h0, if_neg (by omega)]

set_option maxRecDepth 100000 in
set_option maxHeartbeats 4000000 in
theorem l5itemOK_any (x : It) (w : World) (ho : x.ok) :
    Calls Try.prog 21 #[itV x] w fun e w' => e = .returned (.bool (okIt x)) ∧ Below w.heap.size w w' := by
  have hc0 := ho.1.1
  have hc1 := ho.1.2.1
  obtain ⟨kd, ⟨c, jt, jf, k⟩, tg⟩ := x
  simp only at hc0 hc1
  have HK : Hid (∀ w1, Calls Try.prog 31 #[.int .i64 c] w1 fun e w' => e = .returned (.bool (knownB c)) ∧ Below w1.heap.size w1 w') := fun w1 => l1known_any c w1
  have HT : Hid (∀ w1, Calls Try.prog 32 #[.int .i64 c] w1 fun e w' => e = .returned (.bool (tstB c)) ∧ Below w1.heap.size w1 w') := fun w1 => l1isTest_any c w1 hc0
  have B0 : Below w.heap.size w (w.alloc (.cells #[.int .i64 kd, .int .u16 c, .int .u8 jt, .int .u8 jf, .int .u32 k, .int .i64 tg] 40)) := (Below.refl _ _).alloc (Nat.le_refl _) _
  clear ho
  simp only [itV]
  by_cases h0 : kd = 0
  · subst h0
    rw [okIt0]
    generalize knownB c = V at *
    generalize tstB c = T at *
    go_enter Try.func21, Try.ntmps21
    go_wp2_with fail
    refine (HK.out _).mono ?_
    rintro _ w1 ⟨rfl, hb1⟩
    have B1 := below_step hb1 B0
    cases V with
    | false =>
      go_wp2
      go_ret
      exact ⟨rfl, B1⟩
    | true =>
      by_cases h5 : c = 5
      · subst h5
        go_wp2
        go_ret
        exact ⟨rfl, B1⟩
      · have h5' : (c != 5) = true := by simpa using h5
        go_wp2_with fail
        refine (HT.out _).mono ?_
        rintro _ w2 ⟨rfl, hb2⟩
        have B2 := below_step hb2 B1
        clear h5
        cases T <;> go_wp2 <;> go_ret <;> exact ⟨ret_bool (by simp [*]), B2⟩
  · by_cases h1 : kd = 1
    · subst h1
      rw [okIt1]
      unfold isTst
      go_enter Try.func21, Try.ntmps21
      go_wp2
      all_goals go_ret
      all_goals exact ⟨ret_bool (by simp [*]), (Below.refl _ _).alloc (Nat.le_refl _) _⟩
    · by_cases h2 : kd = 2
      · subst h2
        rw [okIt2]
        unfold isTst
        go_enter Try.func21, Try.ntmps21
        go_wp2
        all_goals go_ret
        all_goals exact ⟨ret_bool (by simp [*]), (Below.refl _ _).alloc (Nat.le_refl _) _⟩
      · rw [okIt_else h0 h1 h2]
        have g0 : (kd == 0) = false := by simpa using h0
        have g1 : (kd == 1) = false := by simpa using h1
        have g2 : (kd == 2) = false := by simpa using h2
        by_cases h3 : kd < 0
        · have e : (kd == 3 || kd == 4) = false := by simp; omega
          rw [e]
          go_enter Try.func21, Try.ntmps21
          go_wp2
          go_ret
          exact ⟨rfl, B0⟩
        · by_cases h4 : 4 < kd
          · have e : (kd == 3 || kd == 4) = false := by simp; omega
            rw [e]
            clear h0 h1 h2
            go_enter Try.func21, Try.ntmps21
            go_wp2
            go_ret
            exact ⟨rfl, B0⟩
          · have e : (kd == 3 || kd == 4) = true := by simp; omega
            rw [e]
            clear h0 h1 h2
            go_enter Try.func21, Try.ntmps21
            go_wp2
            go_ret
            exact ⟨rfl, B0⟩

/-- a mark in memory -/
abbrev Ma := Int × Nat
def PM (w : World) (b o : Nat) (m : Ma) : Prop := w.cell? ⟨b, o, none⟩ = some (.int .i64 m.1) ∧ w.cell? ⟨b, o + 1, none⟩ = some (.int .i64 (m.2 : Int))
theorem PM.stays : Stays PM := fun w w' b o x hlt hb ⟨h0, h1⟩ => ⟨(hb.cell (p := ⟨b, _, none⟩) hlt).trans h0, (hb.cell (p := ⟨b, _, none⟩) hlt).trans h1⟩
def maC (m : Ma) : List Value := [.int .i64 m.1, .int .i64 (m.2 : Int)]
abbrev ownsM (w : World) (B : Nat) (v : Value) (l : List Ma) : Prop := w.ownsRow B 52 2 v l.length (l.flatMap maC)
theorem maC_get (l : List Ma) (i : Nat) (h : i < l.length) : (l.flatMap maC)[i * 2]? = some (.int .i64 l[i].1) ∧ (l.flatMap maC)[i * 2 + 1]? = some (.int .i64 (l[i].2 : Int)) := by
  induction l generalizing i with
  | nil => simp at h
  | cons x p ih =>
    have e : (x :: p).flatMap maC = [.int .i64 x.1, .int .i64 (x.2 : Int)] ++ p.flatMap maC := by simp [maC]
    rw [e]
    match i with
    | 0 => simp
    | i + 1 =>
      have hi : i < p.length := by simpa using h
      have := ih i hi
      rw [List.getElem?_append_right (by simp; omega), List.getElem?_append_right (by simp; omega)]
      simp only [List.length_cons, List.length_nil]
      rw [show (i + 1) * 2 - (0 + 1 + 1) = i * 2 by omega, show (i + 1) * 2 + 1 - (0 + 1 + 1) = i * 2 + 1 by omega]
      simpa using this
theorem ownsM_src {w : World} {B : Nat} {v : Value} {l : List Ma} (h : ownsM w B v l) : ∃ a cap, v = .slice a l.length cap ∧ l.length ≤ cap ∧ LSrc 2 PM w a l := by
  have h0 := h
  obtain ⟨_, ⟨rfl, hl⟩ | ⟨g, cap, cur, rfl, hb, hgc, hn, hm, hs, hx⟩⟩ := h
  · have : l = [] := List.eq_nil_of_length_eq_zero hl
    subst this
    exact ⟨none, 0, rfl, Nat.le_refl _, .inl rfl⟩
  · refine ⟨_, _, rfl, hn, .inr ⟨g, 0, rfl, (Array.getElem?_eq_some_iff.1 hgc).1, fun i hi => ?_⟩⟩
    obtain ⟨c0, c1⟩ := maC_get l i hi
    have key := fun j (hj : j < l.length * 2) => World.ownsRow.cellAt h0 j hj
    rw [Nat.zero_add]
    exact ⟨(key _ (by omega)).trans c0, (key _ (by omega)).trans c1⟩
/-- the last mark of a label -/
def findM (l : List Ma) (t : Int) : Option Nat := match l.reverse.find? (fun m => m.1 == t) with | some m => some m.2 | none => none
theorem findM_nil (t : Int) : findM [] t = none := rfl
theorem findM_snoc (l : List Ma) (m : Ma) (t : Int) : findM (l ++ [m]) t = if t = m.1 then some m.2 else findM l t := by
  unfold findM
  rw [List.reverse_append]
  simp only [List.reverse_cons, List.reverse_nil, List.nil_append, List.singleton_append, List.find?_cons]
  by_cases h : t = m.1
  · subst h; simp
  · rw [if_neg h]
    have : (m.1 == t) = false := by simp; exact fun e => h e.symm
    rw [this]
theorem findM_take {l : List Ma} {k : Nat} (h : k < l.length) (t : Int) : findM (l.take (k + 1)) t = if t = (l.getD k (0, 0)).1 then some (l.getD k (0, 0)).2 else findM (l.take k) t := by
  have e : l.take (k + 1) = l.take k ++ [l.getD k (0, 0)] := by
    rw [List.take_add_one, List.getD_eq_getElem?_getD, List.getElem?_eq_getElem h]; rfl
  rw [e, findM_snoc]
def fdV (o : Option Nat) : Int := match o with | some a => a | none => -1

set_option maxRecDepth 100000 in
set_option maxHeartbeats 2000000 in
theorem l5find_any (l : List Ma) (t : Int) (a : Option Addr) (cap : Nat) (w : World) (hs : LSrc 2 PM w a l) (hn : l.length ≤ 1048576) :
    Calls Try.prog 22 #[.slice a l.length cap, .int .i64 t] w fun e w' => e = .returned (.int .i64 (fdV (findM l t))) ∧ w' = w := by
  have HP : Hid (∀ i, i < l.length → ∃ b o, a = some ⟨b, o, none⟩ ∧ b < w.heap.size ∧ PM w b (o + i * 2) (l.getD i (0, 0))) := fun i hi => hs.at hi (0, 0)
  have HT : Hid (∀ k, k < l.length → findM (l.take (k + 1)) t = if t = (l.getD k (0, 0)).1 then some (l.getD k (0, 0)).2 else findM (l.take k) t) := fun k hk => findM_take hk t
  have H0 : Hid (findM l t = findM (l.take l.length) t) := by show _ = _; rw [List.take_length]
  have HE : Hid (findM (l.take 0) t = none) := rfl
  obtain ⟨F, hF⟩ : ∃ F : Nat → Option Nat, ∀ k, findM (l.take k) t = F k := ⟨_, fun _ => rfl⟩
  simp only [hF] at HT H0 HE
  generalize findM l t = R at *
  clear hs hF
  generalize l.length = n at *
  have hwn : IntKind.i64.wrap ((n : Int) - 1) = (n : Int) - 1 := by rw [IntKind.wrap_i64]; omega
  go_enter Try.func22, Try.ntmps22
  go_wp2_with fail
  go_loop [5] (fun i => ∃ k : Nat, k ≤ n ∧ i = .int .i64 ((k : Int) - 1) ∧ Hid (R = F k)) (fun i => (intOf i + 1).toNat)
  case atStart => exact ⟨n, by omega, by first | rfl | go_num, H0⟩
  case round =>
    obtain ⟨k, hk, rfl, HR⟩ := hrel
    by_cases hk0 : 0 < k
    · obtain ⟨k', rfl⟩ : ∃ k', k = k' + 1 := ⟨k - 1, by omega⟩
      obtain ⟨b, o, rfl, hlt, c0, c1⟩ := HP.out k' (by omega)
      have HTk := HT.out k' (by omega)
      have hk' : ((k' + 1 : Nat) : Int) - 1 = (k' : Int) := by omega
      rw [hk']
      have hkn : (k' : Int) < (n : Int) := by omega
      have hw2 : IntKind.i64.wrap ((k' : Int) - 1) = (k' : Int) - 1 := by rw [IntKind.wrap_i64]; omega
      generalize l.getD k' (0, 0) = m at *
      obtain ⟨ml, mb⟩ := m
      simp only at c0 c1 HTk
      by_cases ht : t = ml
      · have HR2 : Hid (R = some mb) := HR.out.trans (HTk.trans (if_pos ht))
        subst ht
        clear HP HT HTk HR H0 HE
        go_wp2
        go_ret
        exact ⟨by rw [HR2.out]; rfl, rfl⟩
      · have HR2 : Hid (R = F k') := HR.out.trans (HTk.trans (if_neg ht))
        have hb : ((ml : Int) == t) = false := by simp; exact fun e => ht e.symm
        clear HP HT HTk HR H0 HE ht
        go_wp2
        go_round
        case rel => exact ⟨k', by omega, by first | rfl | go_num, HR2⟩
        case measure => simp [intOf]
    · have hk' : k = 0 := by omega
      subst hk'
      have HR2 : Hid (R = none) := HR.out.trans HE.out
      go_wp2
      go_ret
      exact ⟨by rw [HR2.out]; rfl, rfl⟩
end Go.Proofs.Ytioabdfddjmabaa
