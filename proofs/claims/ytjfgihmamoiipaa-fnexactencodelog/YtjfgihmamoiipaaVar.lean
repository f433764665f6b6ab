/-
  CONTRACTS of the numbers of a log.
-/
import Derived.Test.YtjfgihmamoiipaaRec
namespace Go.Proofs.Ytjfgihmamoiipaa
open Go.RowKit
set_option linter.unusedVariables false

theorem or128 : ∀ y : Fin 256, (y.val ||| 128) = y.val % 128 + 128 := by decide +kernel
theorem or128_u8 {r : Int} (h0 : 0 ≤ r) : bits .or .u8 (r % 256) 128 = r % 128 + 128 := by
  rw [u8_or (r % 256) 128 (by omega) (by omega) (by omega) (by omega)]
  have h : (r % 256).toNat < 256 := by omega
  have e := or128 ⟨(r % 256).toNat, h⟩
  simp only at e
  rw [show (128 : Int).toNat = 128 from rfl, e]
  omega

set_option maxRecDepth 100000 in
set_option maxHeartbeats 2000000 in
/-- a number behind what v owns -/
theorem appendNumber_B (B : Nat) (v : Value) (l : List Int) (x : Int) (w : World) (hown : owns w B v l) (hl : l.length ≤ 16777000) (hB : B ≤ w.heap.size) (hx : isU64 x) :
    Calls Try.prog 95 #[v, .int .u64 x] w fun e w' => ∃ v', e = .returned v' ∧ owns w' B v' (l ++ varL x) ∧ Below B w w' := by
  obtain ⟨i0, hi, hz0, hz1, hz2⟩ := info_parts info5
  obtain ⟨x0, x1⟩ := hx
  have h10 : (128 : Nat) ^ 10 = 1180591620717411303424 := by decide
  have HV : Hid (l ++ varL x = l ++ varF (9 + 1) x) := rfl
  have HX : Hid (x < ((128 ^ (9 + 1) : Nat) : Int)) := by show x < ((128 ^ 10 : Nat) : Int); omega
  generalize l ++ varL x = L at *
  clear h10
  have hL : Hid (l.length + 9 ≤ 16777100) := by show _ ≤ _; omega
  go_enter Try.func95, Try.ntmps95
  go_wp2_with fail
  go_loopw [0, 1] (fun s q wr => ∃ (n : Nat) (r : Int) (m : List Int), q = .int .u64 r ∧ 0 ≤ r ∧ r ≤ 18446744073709551615 ∧ Hid (r < ((128 ^ (n + 1) : Nat) : Int)) ∧ Hid (L = m ++ varF (n + 1) r) ∧ Hid (m.length + n ≤ 16777100) ∧ owns wr B s m ∧ Below B w wr) (fun _ q _ => (intOf q).toNat)
  case atStart => exact ⟨9, x, l, rfl, x0, x1, HX, HV, hL, hown, Below.refl _ _⟩
  case round =>
    obtain ⟨n, r, m, rfl, r0, r1, HR, HL, HM, ho, hBe⟩ := hrel
    have hml : m.length ≤ 16777100 := by have := HM.out; omega
    have hBw := Nat.le_trans hB hBe.size
    clear hown HV HX hL
    by_cases h : r < 128
    · have e1 := varF_lo (n := n) h
      have e2 := HL.out
      rw [e1] at e2
      have E : Hid (L = m ++ [r]) := e2
      clear e1 e2 HL HR
      go_wp2_with (at_builtin; refine wpList_append_own _ rfl (.tmp 15) (.tmp 18) 22 rfl B 5 i0 (.int .u8 0) 1 1 Try.underlying22 hi hz0 hz1 hz2 rfl (by decide) _ _ _ rfl (ho.alloc _) ⟨wr.heap.size, 0, none⟩ 1 1 [.int .u8 r] rfl rfl (cell_one_new _ _ _) (bytes_oneCell [r]) ?c3 ?c4 ?c5 ?_)
      case c3 => unfold maxLen; omega
      case c4 => omega
      case c5 => first | omega | (simp; omega)
      intro v1 w1 hown1 hgrow1 _
      have ho1 : owns w1 B v1 (m ++ [r]) := owns_app (m := [r]) rfl hown1
      have hB1 := grown_below hBe hBw ho hgrow1
      rw [← E.out] at ho1
      clear hown1 hgrow1 ho hBe
      go_wp2
      go_ret
      exact ⟨_, rfl, ho1, hB1⟩
    · have hn : 0 < n := by
        rcases Nat.eq_zero_or_pos n with h0 | h0
        · subst h0; have := HR.out; simp at this; omega
        · exact h0
      obtain ⟨n, rfl⟩ : ∃ n', n = n' + 1 := ⟨n - 1, by omega⟩
      have e1 := varF_hi (n := n + 1) h
      have e2 := HL.out
      rw [e1] at e2
      have E : Hid (L = (m ++ [r % 128 + 128]) ++ varF (n + 1) (r / 128)) := by show L = _; rw [e2]; simp
      have ER : Hid (r / 128 < ((128 ^ (n + 1) : Nat) : Int)) := by have := HR.out; rw [Nat.pow_succ] at this; show _ < _; omega
      have EM : Hid ((m ++ [r % 128 + 128]).length + n ≤ 16777100) := by have := HM.out; show _ ≤ _; simp; omega
      have EO := or128_u8 r0
      clear e1 e2 HL HR HM
      go_wp2_with (at_builtin; refine wpList_append_own _ rfl (.tmp 7) (.tmp 11) 22 rfl B 5 i0 (.int .u8 0) 1 1 Try.underlying22 hi hz0 hz1 hz2 rfl (by decide) _ _ _ rfl (ho.alloc _) ⟨wr.heap.size, 0, none⟩ 1 1 [.int .u8 (r % 128 + 128)] rfl rfl (cell_one_new _ _ _) (bytes_oneCell [r % 128 + 128]) ?c3 ?c4 ?c5 ?_)
      case c3 => unfold maxLen; omega
      case c4 => omega
      case c5 => first | omega | (simp; omega)
      intro v1 w1 hown1 hgrow1 _
      have ho1 : owns w1 B v1 (m ++ [r % 128 + 128]) := owns_app (m := [r % 128 + 128]) rfl hown1
      have hB1 := grown_below hBe hBw ho hgrow1
      clear hown1 hgrow1 ho hBe
      go_wp2
      go_roundw
      case rel => exact ⟨n, r / 128, m ++ [r % 128 + 128], rfl, by omega, by omega, ER, E, EM, ho1, hB1⟩
      case measure => simp [intOf]; omega

/-- a literal of bytes owns its memory -/
theorem owns_new (w : World) (l : List Int) (n : Nat) (cur : Array Value) (hc : cur = (l.map (Value.int .u8)).toArray) (hn : n = l.length) (hm : l.length ≤ maxLen) :
    owns (w.alloc (.cells cur 5)) w.heap.size (.slice (some ⟨w.heap.size, 0, none⟩) n n) l := by
  subst hn hc
  have hg : (w.alloc (.cells (l.map (Value.int .u8)).toArray 5)).heap[w.heap.size]? = some (.cells (l.map (Value.int .u8)).toArray 5) := by
    show (w.heap.push _)[w.heap.size]? = _
    simp
  exact ⟨by simp, .inr ⟨w.heap.size, l.length, (l.map (Value.int .u8)).toArray, rfl, Nat.le_refl _, hg, Nat.le_refl _, hm, by simp, by rw [Nat.mul_one]; exact List.take_of_length_le (by simp)⟩⟩

set_option maxRecDepth 100000 in
set_option maxHeartbeats 2000000 in
theorem l2var_n (n : Nat) : ∀ (x : Int) (w : World), 0 ≤ x → x ≤ 18446744073709551615 → x < ((128 ^ (n + 1) : Nat) : Int) → n ≤ 9 →
    Calls Try.prog 113 #[.int .u64 x] w fun e w' => ∃ v', e = .returned v' ∧ owns w' w.heap.size v' (varF (n + 1) x) ∧ Below w.heap.size w w' := by
  obtain ⟨i0, hi, hz0, hz1, hz2⟩ := info_parts info5
  induction n with
  | zero =>
    intro x w h0 h1 h2 _
    have h3 : x < 128 := by simpa using h2
    rw [varF_lo h3]
    go_enter Try.func113, Try.ntmps113
    go_wp2
    go_ret
    exact ⟨_, rfl, owns_new w [x] 1 _ rfl rfl (by simp [maxLen]), (Below.refl _ _).alloc (Nat.le_refl _) _⟩
  | succ n ih =>
    intro x w h0 h1 h2 h9
    by_cases h3 : x < 128
    · rw [varF_lo h3]
      go_enter Try.func113, Try.ntmps113
      go_wp2
      go_ret
      exact ⟨_, rfl, owns_new w [x] 1 _ rfl rfl (by simp [maxLen]), (Below.refl _ _).alloc (Nat.le_refl _) _⟩
    · have HI := ih (x / 128) (w.alloc (.cells #[.int .u8 (x % 128 + 128)] 5)) (by omega) (by omega) (by rw [Nat.pow_succ] at h2; omega) (by omega)
      have E : Hid (varF (n + 1 + 1) x = [x % 128 + 128] ++ varF (n + 1) (x / 128)) := varF_hi h3
      have hp := varF_pos n (x / 128)
      have hq := varF_len (n + 1) (x / 128)
      have O0 := owns_new w [x % 128 + 128] 1 #[.int .u8 (x % 128 + 128)] rfl rfl (by simp [maxLen])
      have B0 : Below w.heap.size w (w.alloc (.cells #[.int .u8 (x % 128 + 128)] 5)) := (Below.refl _ _).alloc (Nat.le_refl _) _
      clear ih h2
      generalize varF (n + 1 + 1) x = L at *
      generalize varF (n + 1) (x / 128) = M at *
      go_enter Try.func113, Try.ntmps113
      go_wp2_with fail
      generalize w.alloc (.cells #[.int .u8 (x % 128 + 128)] 5) = W at *
      refine HI.mono ?_
      rintro e u1 ⟨vl, rfl, ol, bl⟩
      have O1 := owns_below O0 bl
      have B1 : Below w.heap.size w u1 := B0.trans (bl.mono B0.size)
      obtain ⟨g, gc, rfl, hg, hgc⟩ := owns_at ol (by omega)
      have hgc' : Hid _ := hgc
      have hs1 := B1.size
      clear hgc ol bl O0 B0 HI
      go_wp2_with (at_builtin; refine wpList_append_own _ rfl (.tmp 14) (.tmp 17) 22 rfl w.heap.size 5 i0 (.int .u8 0) 1 1 Try.underlying22 hi hz0 hz1 hz2 rfl (by decide) _ _ _ rfl O1 ⟨g, 0, none⟩ M.length gc (M.map (Value.int .u8)) rfl ?c0 hgc'.out (bytes_oneCell _) ?c3 ?c4 ?c5 ?_)
      case c0 => simp
      case c3 => simp [maxLen]; omega
      case c4 => simp; omega
      case c5 => omega
      intro v2 w2 ow gr _
      have B2 : Below w.heap.size w w2 := grown_below0 B1 hs1 O1 gr
      have O2 : owns w2 w.heap.size v2 ([x % 128 + 128] ++ M) := owns_app rfl ow
      rw [← E.out] at O2
      clear ow gr O1 B1 hgc'
      go_wp2
      go_ret
      exact ⟨_, rfl, O2, B2⟩

theorem l2var_any (x : Int) (w : World) (hx : isU64 x) :
    Calls Try.prog 113 #[.int .u64 x] w fun e w' => ∃ v', e = .returned v' ∧ owns w' w.heap.size v' (varL x) ∧ Below w.heap.size w w' := by
  obtain ⟨h0, h1⟩ := hx
  have h10 : (128 : Nat) ^ (9 + 1) = 1180591620717411303424 := by decide
  exact l2var_n 9 x w h0 h1 (by rw [h10]; omega) (Nat.le_refl _)
end Go.Proofs.Ytjfgihmamoiipaa
