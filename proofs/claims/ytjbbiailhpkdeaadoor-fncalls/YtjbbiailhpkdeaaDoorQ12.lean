/-
  Rec, Var, DlgR
-/
import Derived.Test.YtjbbiailhpkdeaaDoorQ03
import Derived.Test.YtjbbiailhpkdeaaDoorQ01
import Derived.Test.YtjbbiailhpkdeaaDoorQ05
import Derived.Laws.BytesArg
namespace Go.Proofs.YtjbbiailhpkdeaaDoor
open Go.RowKit
set_option linter.unusedVariables false

theorem gr_alloc {w w1 : World} {o : Obj} {r : Option Nat} (h : (w.alloc o).grownBy w1 r) : w.grownBy w1 r :=
  ⟨h.os, h.tape, h.output, by have := h.size; simp at this; omega, fun k hk hne => (h.block k (by simp; omega) hne).trans (Below.heap_alloc w o k hk)⟩
theorem gr_below {w w1 w2 : World} {r : Option Nat} (hb : Below w.heap.size w w1) (h : w1.grownBy w2 r) : w.grownBy w2 r :=
  ⟨h.os.trans hb.os, h.tape.trans hb.tape, h.output.trans hb.output, by have := h.size; have := hb.size; omega, fun k hk hne => (h.block k (Nat.lt_of_lt_of_le hk hb.size) hne).trans (hb.block k hk)⟩
/-- what grows at an own row that lies above B leaves all below B alone -/
theorem gr_own {w wr w1 : World} {B : Nat} {v : Value} {l : List Int} (hB : Below B w wr) (hBs : B ≤ wr.heap.size) (hown : owns wr B v l) (hg : wr.grownBy w1 v.ownBlock) : Below B w w1 := grown_below0 hB hBs hown hg

set_option maxHeartbeats 1000000 in
/-- four bytes behind what v owns -/
theorem appendWord_any (B : Nat) (v : Value) (l : List Int) (x : Int) (w : World) (hown : owns w B v l) (hl : l.length ≤ 16777216) (hB : B ≤ w.heap.size) (h0 : 0 ≤ x) (h1 : x ≤ 4294967295) :
    Calls Tryd.prog 34 #[v, .int .u32 x] w fun e w' => ∃ v', e = .returned v' ∧ owns w' B v' (l ++ littleL x 4) ∧ w.grownBy w' v.ownBlock := by
  obtain ⟨i0, hi, hz0, hz1, hz2⟩ := info_parts info5
  rw [little4_eq h0 h1]
  go_enter Tryd.func34, Tryd.ntmps34
  go_wp2_with (at_builtin; refine wpList_append_own _ rfl (.tmp 5) (.tmp 17) 22 rfl B 5 i0 (.int .u8 0) 1 1 Tryd.underlying22 hi hz0 hz1 hz2 rfl (by decide) _ _ _ rfl (hown.alloc _) ⟨w.heap.size, 0, none⟩ 4 4 ([x % 256, x / 256 % 256, x / 65536 % 256, x / 16777216].map (Value.int .u8)) rfl rfl ?c1 (bytes_oneCell _) ?c3 ?c4 ?c5 ?_)
  case c1 =>
    intro j u hj
    rw [add_at]
    rw [World.cell?_alloc_at _ _ _ _ rfl]
    simpa using hj
  case c3 => unfold maxLen; omega
  case c4 => omega
  case c5 => first | omega | (simp; omega)
  intro v1 w1 hown1 hgrow1 _
  have ho1 : owns w1 B v1 (l ++ [x % 256, x / 256 % 256, x / 65536 % 256, x / 16777216]) := owns_app (by simp) hown1
  have hg1 := gr_alloc hgrow1
  clear hown1 hgrow1 hown
  go_wp2
  go_ret
  exact ⟨_, rfl, ho1, hg1⟩

theorem appendWord_B (B : Nat) (v : Value) (l : List Int) (x : Int) (w : World) (hown : owns w B v l) (hl : l.length ≤ 16777216) (hB : B ≤ w.heap.size) (h0 : 0 ≤ x) (h1 : x ≤ 4294967295) :
    Calls Tryd.prog 34 #[v, .int .u32 x] w fun e w' => ∃ v', e = .returned v' ∧ owns w' B v' (l ++ littleL x 4) ∧ Below B w w' := by
  refine (appendWord_any B v l x w hown hl hB h0 h1).mono ?_
  rintro e w' ⟨v', rfl, h2, h3⟩
  exact ⟨v', rfl, h2, grown_below0 (Below.refl _ _) hB hown h3⟩

theorem Box3.keepB {w w1 : World} {g B : Nat} {x y z : Value} (h : Box3 w g x y z) (hb : Below B w w1) (hg : g < B) : Box3 w1 g x y z :=
  ⟨Nat.lt_of_lt_of_le h.lt hb.size, (hb.cell (p := ⟨g, _, none⟩) hg).trans h.c0, (hb.cell (p := ⟨g, _, none⟩) hg).trans h.c1, (hb.cell (p := ⟨g, _, none⟩) hg).trans h.c2,
    (hb.frozen (p := ⟨g, _, none⟩) hg).trans h.f0, (hb.frozen (p := ⟨g, _, none⟩) hg).trans h.f1, (hb.frozen (p := ⟨g, _, none⟩) hg).trans h.f2⟩
theorem owns_mono {w : World} {B B' : Nat} {v : Value} {l : List Int} (h : owns w B v l) (hb : B' ≤ B) : owns w B' v l := by
  obtain ⟨h0, h | ⟨g, cap, cur, rfl, hb', hr⟩⟩ := h
  · exact ⟨h0, .inl h⟩
  · exact ⟨h0, .inr ⟨g, cap, cur, rfl, by omega, hr⟩⟩

set_option maxHeartbeats 1000000 in
theorem isValid_six (c : C) (a : Option Addr) (cap : Nat) (w : World) :
    Calls Tryd.prog 32 #[callV c (.slice a 6 cap)] w fun e w' => e = .returned (.bool true) ∧ Below w.heap.size w w' := by
  obtain ⟨ar, nr, args⟩ := c
  go_enter Tryd.func32, Tryd.ntmps32
  go_wp2
  go_ret
  exact ⟨rfl, (Below.refl _ _).alloc (Nat.le_refl _) _⟩
set_option maxHeartbeats 1000000 in
theorem isValid_not (c : C) (a : Option Addr) (n cap : Nat) (w : World) (h : n ≠ 6) :
    Calls Tryd.prog 32 #[callV c (.slice a n cap)] w fun e w' => e = .returned (.bool false) ∧ Below w.heap.size w w' := by
  obtain ⟨ar, nr, args⟩ := c
  have hb : ((n : Int) == 6) = false := by simp; omega
  go_enter Tryd.func32, Tryd.ntmps32
  go_wp2
  go_ret
  exact ⟨rfl, (Below.refl _ _).alloc (Nat.le_refl _) _⟩

end Go.Proofs.YtjbbiailhpkdeaaDoor
namespace Go.Proofs.YtjbbiailhpkdeaaDoor
open Go.RowKit
set_option linter.unusedVariables false

theorem or128 : ∀ y : Fin 256, (y.val ||| 128) = y.val % 128 + 128 := by decide +kernel
theorem or128_u8 {r : Int} (h0 : 0 ≤ r) : bits .or .u8 (r % 256) 128 = r % 128 + 128 := by
  rw [u8_or (r % 256) 128 (by omega) (by omega) (by omega) (by omega)]
  have h : (r % 256).toNat < 256 := by omega
  have e := or128 ⟨(r % 256).toNat, h⟩
  simp only at e
  rw [show (128 : Int).toNat = 128 from rfl, e]
  omega

set_option maxRecDepth 100000 in
set_option maxHeartbeats 2000000 in
/-- a number behind what v owns -/
theorem appendNumber_B (B : Nat) (v : Value) (l : List Int) (x : Int) (w : World) (hown : owns w B v l) (hl : l.length ≤ 16777000) (hB : B ≤ w.heap.size) (hx : isU64 x) :
    Calls Tryd.prog 54 #[v, .int .u64 x] w fun e w' => ∃ v', e = .returned v' ∧ owns w' B v' (l ++ varL x) ∧ Below B w w' := by
  obtain ⟨i0, hi, hz0, hz1, hz2⟩ := info_parts info5
  obtain ⟨x0, x1⟩ := hx
  have h10 : (128 : Nat) ^ 10 = 1180591620717411303424 := by decide
  have HV : Hid (l ++ varL x = l ++ varF (9 + 1) x) := rfl
  have HX : Hid (x < ((128 ^ (9 + 1) : Nat) : Int)) := by show x < ((128 ^ 10 : Nat) : Int); omega
  generalize l ++ varL x = L at *
  clear h10
  have hL : Hid (l.length + 9 ≤ 16777100) := by show _ ≤ _; omega
  go_enter Tryd.func54, Tryd.ntmps54
  go_wp2_with fail
  go_loopw [0, 1] (fun s q wr => ∃ (n : Nat) (r : Int) (m : List Int), q = .int .u64 r ∧ 0 ≤ r ∧ r ≤ 18446744073709551615 ∧ Hid (r < ((128 ^ (n + 1) : Nat) : Int)) ∧ Hid (L = m ++ varF (n + 1) r) ∧ Hid (m.length + n ≤ 16777100) ∧ owns wr B s m ∧ Below B w wr) (fun _ q _ => (intOf q).toNat)
  case atStart => exact ⟨9, x, l, rfl, x0, x1, HX, HV, hL, hown, Below.refl _ _⟩
  case round =>
    obtain ⟨n, r, m, rfl, r0, r1, HR, HL, HM, ho, hBe⟩ := hrel
    have hml : m.length ≤ 16777100 := by have := HM.out; omega
    have hBw := Nat.le_trans hB hBe.size
    clear hown HV HX hL
    by_cases h : r < 128
    · have e1 := varF_lo (n := n) h
      have e2 := HL.out
      rw [e1] at e2
      have E : Hid (L = m ++ [r]) := e2
      clear e1 e2 HL HR
      go_wp2_with (at_builtin; refine wpList_append_own _ rfl (.tmp 15) (.tmp 18) 22 rfl B 5 i0 (.int .u8 0) 1 1 Tryd.underlying22 hi hz0 hz1 hz2 rfl (by decide) _ _ _ rfl (ho.alloc _) ⟨wr.heap.size, 0, none⟩ 1 1 [.int .u8 r] rfl rfl (cell_one_new _ _ _) (bytes_oneCell [r]) ?c3 ?c4 ?c5 ?_)
      case c3 => unfold maxLen; omega
      case c4 => omega
      case c5 => first | omega | (simp; omega)
      intro v1 w1 hown1 hgrow1 _
      have ho1 : owns w1 B v1 (m ++ [r]) := owns_app (m := [r]) rfl hown1
      have hB1 := grown_below hBe hBw ho hgrow1
      rw [← E.out] at ho1
      clear hown1 hgrow1 ho hBe
      go_wp2
      go_ret
      exact ⟨_, rfl, ho1, hB1⟩
    · have hn : 0 < n := by
        rcases Nat.eq_zero_or_pos n with h0 | h0
        · subst h0; have := HR.out; simp at this; omega
        · exact h0
      obtain ⟨n, rfl⟩ : ∃ n', n = n' + 1 := ⟨n - 1, by omega⟩
      have e1 := varF_hi (n := n + 1) h
      have e2 := HL.out
      rw [e1] at e2
      have E : Hid (L = (m ++ [r % 128 + 128]) ++ varF (n + 1) (r / 128)) := by show L = _; rw [e2]; simp
      have ER : Hid (r / 128 < ((128 ^ (n + 1) : Nat) : Int)) := by have := HR.out; rw [Nat.pow_succ] at this; show _ < _; omega
      have EM : Hid ((m ++ [r % 128 + 128]).length + n ≤ 16777100) := by have := HM.out; show _ ≤ _; simp; omega
      have EO := or128_u8 r0
      clear e1 e2 HL HR HM
      go_wp2_with (at_builtin; refine wpList_append_own _ rfl (.tmp 7) (.tmp 11) 22 rfl B 5 i0 (.int .u8 0) 1 1 Tryd.underlying22 hi hz0 hz1 hz2 rfl (by decide) _ _ _ rfl (ho.alloc _) ⟨wr.heap.size, 0, none⟩ 1 1 [.int .u8 (r % 128 + 128)] rfl rfl (cell_one_new _ _ _) (bytes_oneCell [r % 128 + 128]) ?c3 ?c4 ?c5 ?_)
      case c3 => unfold maxLen; omega
      case c4 => omega
      case c5 => first | omega | (simp; omega)
      intro v1 w1 hown1 hgrow1 _
      have ho1 : owns w1 B v1 (m ++ [r % 128 + 128]) := owns_app (m := [r % 128 + 128]) rfl hown1
      have hB1 := grown_below hBe hBw ho hgrow1
      clear hown1 hgrow1 ho hBe
      go_wp2
      go_roundw
      case rel => exact ⟨n, r / 128, m ++ [r % 128 + 128], rfl, by omega, by omega, ER, E, EM, ho1, hB1⟩
      case measure => simp [intOf]; omega

/-- a literal of bytes owns its memory -/
theorem owns_new (w : World) (l : List Int) (n : Nat) (cur : Array Value) (hc : cur = (l.map (Value.int .u8)).toArray) (hn : n = l.length) (hm : l.length ≤ maxLen) :
    owns (w.alloc (.cells cur 5)) w.heap.size (.slice (some ⟨w.heap.size, 0, none⟩) n n) l := by
  subst hn hc
  have hg : (w.alloc (.cells (l.map (Value.int .u8)).toArray 5)).heap[w.heap.size]? = some (.cells (l.map (Value.int .u8)).toArray 5) := by
    show (w.heap.push _)[w.heap.size]? = _
    simp
  exact ⟨by simp, .inr ⟨w.heap.size, l.length, (l.map (Value.int .u8)).toArray, rfl, Nat.le_refl _, hg, Nat.le_refl _, hm, by simp, by rw [Nat.mul_one]; exact List.take_of_length_le (by simp)⟩⟩

set_option maxRecDepth 100000 in
set_option maxHeartbeats 2000000 in
theorem l2var_n (n : Nat) : ∀ (x : Int) (w : World), 0 ≤ x → x ≤ 18446744073709551615 → x < ((128 ^ (n + 1) : Nat) : Int) → n ≤ 9 →
    Calls Tryd.prog 43 #[.int .u64 x] w fun e w' => ∃ v', e = .returned v' ∧ owns w' w.heap.size v' (varF (n + 1) x) ∧ Below w.heap.size w w' := by
  obtain ⟨i0, hi, hz0, hz1, hz2⟩ := info_parts info5
  induction n with
  | zero =>
    intro x w h0 h1 h2 _
    have h3 : x < 128 := by simpa using h2
    rw [varF_lo h3]
    go_enter Tryd.func43, Tryd.ntmps43
    go_wp2
    go_ret
    exact ⟨_, rfl, owns_new w [x] 1 _ rfl rfl (by simp [maxLen]), (Below.refl _ _).alloc (Nat.le_refl _) _⟩
  | succ n ih =>
    intro x w h0 h1 h2 h9
    by_cases h3 : x < 128
    · rw [varF_lo h3]
      go_enter Tryd.func43, Tryd.ntmps43
      go_wp2
      go_ret
      exact ⟨_, rfl, owns_new w [x] 1 _ rfl rfl (by simp [maxLen]), (Below.refl _ _).alloc (Nat.le_refl _) _⟩
    · have HI := ih (x / 128) (w.alloc (.cells #[.int .u8 (x % 128 + 128)] 5)) (by omega) (by omega) (by rw [Nat.pow_succ] at h2; omega) (by omega)
      have E : Hid (varF (n + 1 + 1) x = [x % 128 + 128] ++ varF (n + 1) (x / 128)) := varF_hi h3
      have hp := varF_pos n (x / 128)
      have hq := varF_len (n + 1) (x / 128)
      have O0 := owns_new w [x % 128 + 128] 1 #[.int .u8 (x % 128 + 128)] rfl rfl (by simp [maxLen])
      have B0 : Below w.heap.size w (w.alloc (.cells #[.int .u8 (x % 128 + 128)] 5)) := (Below.refl _ _).alloc (Nat.le_refl _) _
      clear ih h2
      generalize varF (n + 1 + 1) x = L at *
      generalize varF (n + 1) (x / 128) = M at *
      go_enter Tryd.func43, Tryd.ntmps43
      go_wp2_with fail
      generalize w.alloc (.cells #[.int .u8 (x % 128 + 128)] 5) = W at *
      refine HI.mono ?_
      rintro e u1 ⟨vl, rfl, ol, bl⟩
      have O1 := owns_below O0 bl
      have B1 : Below w.heap.size w u1 := B0.trans (bl.mono B0.size)
      obtain ⟨g, gc, rfl, hg, hgc⟩ := owns_at ol (by omega)
      have hgc' : Hid _ := hgc
      have hs1 := B1.size
      clear hgc ol bl O0 B0 HI
      go_wp2_with (at_builtin; refine wpList_append_own _ rfl (.tmp 14) (.tmp 17) 22 rfl w.heap.size 5 i0 (.int .u8 0) 1 1 Tryd.underlying22 hi hz0 hz1 hz2 rfl (by decide) _ _ _ rfl O1 ⟨g, 0, none⟩ M.length gc (M.map (Value.int .u8)) rfl ?c0 hgc'.out (bytes_oneCell _) ?c3 ?c4 ?c5 ?_)
      case c0 => simp
      case c3 => simp [maxLen]; omega
      case c4 => simp; omega
      case c5 => omega
      intro v2 w2 ow gr _
      have B2 : Below w.heap.size w w2 := grown_below0 B1 hs1 O1 gr
      have O2 : owns w2 w.heap.size v2 ([x % 128 + 128] ++ M) := owns_app rfl ow
      rw [← E.out] at O2
      clear ow gr O1 B1 hgc'
      go_wp2
      go_ret
      exact ⟨_, rfl, O2, B2⟩

theorem l2var_any (x : Int) (w : World) (hx : isU64 x) :
    Calls Tryd.prog 43 #[.int .u64 x] w fun e w' => ∃ v', e = .returned v' ∧ owns w' w.heap.size v' (varL x) ∧ Below w.heap.size w w' := by
  obtain ⟨h0, h1⟩ := hx
  have h10 : (128 : Nat) ^ (9 + 1) = 1180591620717411303424 := by decide
  exact l2var_n 9 x w h0 h1 (by rw [h10]; omega) (Nat.le_refl _)
end Go.Proofs.YtjbbiailhpkdeaaDoor
namespace Go.Proofs.YtjbbiailhpkdeaaDoor
open Go.RowKit
set_option linter.unusedVariables false

theorem strOf_inj {l m : List Int} (hl : isBytes l) (hm : isBytes m) (h : (strOfNums l).toList = (strOfNums m).toList) : l = m := by
  rw [ByteArray.toList_eq, ByteArray.toList_eq, strOfNums_data, strOfNums_data] at h
  have hg : ∀ {x : List Int}, isBytes x → (x.map fun n => UInt8.ofNat n.toNat).map (fun b => (b.toNat : Int)) = x := fun {x} hx => by
    rw [List.map_map]
    conv => rhs; rw [← List.map_id x]
    apply List.map_congr_left
    intro a ha
    have := hx a ha
    simp only [Function.comp, id]
    rw [UInt8.toNat_ofNat']
    omega
  rw [← hg hl, ← hg hm, h]
theorem beq_str {l m : List Int} (hl : isBytes l) (hm : isBytes m) : ((strOfNums l).toList == (strOfNums m).toList) = decide (l = m) := by
  by_cases h : l = m
  · simp [h]
  · rw [decide_eq_false h, beq_eq_false_iff_ne]
    exact fun e => h (strOf_inj hl hm e)
theorem conv_str (w : World) {b o cap n : Nat} {l : List Int} (h : BytesAt w b o l) (hn : l.length = n) : (convert 22 9 (.slice (some ⟨b, o, none⟩) n cap)).run Tryd.prog w = .ok (.string (strOfNums l)) w :=
  run_convert_bytes_arg (P := Tryd.prog) w 22 5 Tryd.underlying22 Tryd.underlying5 b o n cap l hn (fun i hi => h i (by omega)) 9 Tryd.underlying9
theorem val_drop {p : List Int} {k : Nat} (h : k < p.length) : val (p.drop k) = p.getD k 0 % 128 + 128 * val (p.drop (k + 1)) := by
  rw [List.drop_eq_getElem_cons h, val, List.getD_eq_getElem?_getD, List.getElem?_eq_getElem h]; rfl
theorem val_step {p : List Int} {k : Nat} (h : k < p.length) (hb : isBytes p) : IntKind.u64.wrap (IntKind.u64.wrap (val (p.drop (k + 1)) % 18446744073709551616 * 128) + p.getD k 0 % 128) = val (p.drop k) % 18446744073709551616 := by
  have := isBytes_getD hb k
  rw [val_drop h]
  have e : ∀ x, IntKind.u64.wrap x = x % 18446744073709551616 := fun x => by simp [IntKind.wrap, IntKind.signed, IntKind.bits]
  rw [e, e]
  omega
def ValPost (p : List Int) (e : Ending) : Prop := (∃ v, valueL p = some v ∧ isU64 v ∧ e = .returned (.tuple #[.int .u64 v, .bool true])) ∨ (valueL p = none ∧ e = .returned (.tuple #[.int .u64 0, .bool false]))

set_option maxRecDepth 100000 in
set_option maxHeartbeats 1000000 in
theorem l2value_any (b o cap : Nat) (p : List Int) (w : World) (hp : BytesAt w b o p) (hb : b < w.heap.size) (hB : isBytes p) (h0 : 0 < p.length) (hn : p.length ≤ 1048576) :
    Calls Tryd.prog 49 #[.slice (some ⟨b, o, none⟩) p.length cap] w fun e w' => ValPost p e ∧ Below w.heap.size w w' := by
  have HG : Hid (∀ k, k < p.length → w.cell? ⟨b, o + k, none⟩ = some (.int .u8 (p.getD k 0)) ∧ 0 ≤ p.getD k 0 ∧ p.getD k 0 ≤ 255) := fun k hk => ⟨hp k hk, isBytes_getD hB k⟩
  have HS : Hid (∀ k, k < p.length → IntKind.u64.wrap (IntKind.u64.wrap (val (p.drop (k + 1)) % 18446744073709551616 * 128) + p.getD k 0 % 128) = val (p.drop k) % 18446744073709551616) := fun k hk => val_step hk hB
  have HU : Hid (isU64 (val p % 18446744073709551616)) := ⟨by omega, by omega⟩
  have HE : Hid (val (p.drop p.length) % 18446744073709551616 = 0) := by unfold Hid; simp [val]
  have HF : Hid (p.drop 0 = p) := rfl
  have HN : Hid (10 < p.length → ValPost p (.returned (.tuple #[.int .u64 0, .bool false]))) := fun h => .inr ⟨by unfold valueL; rw [if_neg (by omega)], rfl⟩
  have HV : Hid (∀ V, val p % 18446744073709551616 = V → ¬ 10 < p.length → (varL V ≠ p → ValPost p (.returned (.tuple #[.int .u64 0, .bool false]))) ∧ (varL V = p → ValPost p (.returned (.tuple #[.int .u64 V, .bool true])))) := fun V hV h => by
    subst hV
    exact ⟨fun h2 => .inr ⟨by unfold valueL; rw [if_neg (fun h3 => h2 h3.2)], rfl⟩, fun h2 => .inl ⟨_, by unfold valueL; rw [if_pos ⟨by omega, h2⟩], HU.out, rfl⟩⟩
  have HC : Hid (∀ W, Below w.heap.size w W → (convert 22 9 (.slice (some ⟨b, o, none⟩) p.length cap)).run Tryd.prog W = .ok (.string (strOfNums p)) W) := fun W h => conv_str W (fun i hi => by rw [h.cell hb]; exact hp i hi) rfl
  have HQ : Hid (∀ l, isBytes l → ((strOfNums l).toList == (strOfNums p).toList) = decide (l = p)) := fun l hl => beq_str hl hB
  generalize strOfNums p = SP at *
  obtain ⟨n, hn'⟩ : ∃ n, p.length = n := ⟨_, rfl⟩
  rw [hn'] at HG HS HE HN HV HC h0 hn ⊢
  clear hp hB hn'
  by_cases h10 : 10 < n
  · have HN' := HN.out h10
    have HN2 : Hid (ValPost p (.returned (.tuple #[.int .u64 0, .bool false]))) := HN'
    clear HN' HN HV HC HQ HG HS HE HF HU
    go_enter Tryd.func49, Tryd.ntmps49
    go_wp2
    go_ret2
    exact ⟨HN2.out, Below.refl _ _⟩
  clear HN
  go_enter Tryd.func49, Tryd.ntmps49
  go_wp2_with fail
  go_loopw [4, 5] (fun v i wr => ∃ (k : Nat), k ≤ n ∧ i = .int .i64 ((k : Int) - 1) ∧ v = .int .u64 (val (p.drop k) % 18446744073709551616) ∧ wr = w) (fun _ i _ => (intOf i + 1).toNat)
  case atStart => exact ⟨n, Nat.le_refl _, rfl, by rw [HE.out], rfl⟩
  case round =>
    obtain ⟨k, hk, rfl, rfl, rfl⟩ := hrel
    by_cases hlt : 0 < k
    · obtain ⟨k, rfl⟩ : ∃ j, k = j + 1 := ⟨k - 1, by omega⟩
      obtain ⟨hc, x0, x1⟩ := HG.out k (by omega)
      have hs := HS.out k (by omega)
      clear HG HS HE HF HU HV HC HQ
      have hj : ((k + 1 : Nat) : Int) - 1 = k := by omega
      rw [hj]
      generalize p.getD k 0 = x at *
      generalize val (p.drop (k + 1)) % 18446744073709551616 = y at *
      obtain ⟨z, hz⟩ : ∃ z, IntKind.u64.wrap (y * 128) = z := ⟨_, rfl⟩
      rw [hz] at hs
      obtain ⟨r, hr⟩ : ∃ r, val (p.drop k) % 18446744073709551616 = r := ⟨_, rfl⟩
      rw [hr] at hs
      have HR : Hid (val (p.drop k) % 18446744073709551616 = r) := hr
      clear hr
      go_wp2
      go_roundw
      case rel => exact ⟨k, by omega, rfl, by rw [HR.out], trivial⟩
      case measure => simp [intOf]
    · obtain rfl : k = 0 := by omega
      obtain ⟨V, hV⟩ : ∃ V, val p % 18446744073709551616 = V := ⟨_, rfl⟩
      rw [HF.out, hV]
      have HP := HV.out V hV h10
      have HP1 : Hid (varL V ≠ p → ValPost p (.returned (.tuple #[.int .u64 0, .bool false]))) := HP.1
      have HP2 : Hid (varL V = p → ValPost p (.returned (.tuple #[.int .u64 V, .bool true]))) := HP.2
      have hU : isU64 V := by rw [← hV]; exact HU.out
      have HL : Hid (Calls Tryd.prog 43 #[.int .u64 V] wr fun e w' => ∃ v', e = .returned v' ∧ owns w' wr.heap.size v' (varL V) ∧ Below wr.heap.size wr w') := l2var_any V wr hU
      have HB : Hid (isBytes (varL V)) := varL_ok hU.1
      have HQ' : Hid (((strOfNums (varL V)).toList == SP.toList) = decide (varL V = p)) := HQ.out _ HB.out
      have HV0 : Hid (varL V ≠ []) := fun e => by have := varF_pos 9 V; unfold varL at e; rw [e] at this; simp at this
      have HCS : Hid (∀ W a b n cap, BytesAt W a b (varL V) → (varL V).length = n → (convert 22 9 (.slice (some ⟨a, b, none⟩) n cap)).run Tryd.prog W = .ok (.string (strOfNums (varL V))) W) := fun W a b n cap h1 h2 => conv_str W h1 h2
      clear HP hV HV HF HE HG HS HU HQ HB
      generalize strOfNums (varL V) = SV at *
      generalize varL V = L at *
      go_wp2_with fail
      refine HL.out.mono ?_
      rintro e u1 ⟨vl, rfl, ol, bl⟩
      obtain ⟨a, cp, rfl, hsrc⟩ := owns_src ol
      rcases hsrc with e0 | ⟨b1, o1, rfl, hb1, hp1⟩
      · exact (HV0.out e0).elim
      have hc1 := HCS.out u1 b1 o1 L.length cp hp1 rfl
      have hc2 := HC.out u1 bl
      have hq := HQ'.out
      clear HCS HC HQ' HV0 HL hp1 ol
      generalize L.length = m at *
      by_cases hE : L = p
      · rw [decide_eq_true hE] at hq
        have HP3 : Hid (ValPost p (.returned (.tuple #[.int .u64 V, .bool true]))) := HP2.out hE
        clear HP1 HP2 hE
        go_wp2
        go_ret2
        exact ⟨HP3.out, bl⟩
      · rw [decide_eq_false hE] at hq
        have HP3 : Hid (ValPost p (.returned (.tuple #[.int .u64 0, .bool false]))) := HP1.out hE
        clear HP1 HP2 hE
        go_wp2
        go_ret2
        exact ⟨HP3.out, bl⟩
end Go.Proofs.YtjbbiailhpkdeaaDoor
