/-
  CONTRACTS of the two MakeRecords.
-/
import Derived.Test.YtjfgihmamoiipaaCallM
namespace Go.Proofs.Ytjfgihmamoiipaa
open Go.RowKit
set_option linter.unusedVariables false

theorem gr_alloc {w w1 : World} {o : Obj} {r : Option Nat} (h : (w.alloc o).grownBy w1 r) : w.grownBy w1 r :=
  ⟨h.os, h.tape, h.output, by have := h.size; simp at this; omega, fun k hk hne => (h.block k (by simp; omega) hne).trans (Below.heap_alloc w o k hk)⟩
theorem gr_below {w w1 w2 : World} {r : Option Nat} (hb : Below w.heap.size w w1) (h : w1.grownBy w2 r) : w.grownBy w2 r :=
  ⟨h.os.trans hb.os, h.tape.trans hb.tape, h.output.trans hb.output, by have := h.size; have := hb.size; omega, fun k hk hne => (h.block k (Nat.lt_of_lt_of_le hk hb.size) hne).trans (hb.block k hk)⟩
/-- what grows at an own row that lies above B leaves all below B alone -/
theorem gr_own {w wr w1 : World} {B : Nat} {v : Value} {l : List Int} (hB : Below B w wr) (hBs : B ≤ wr.heap.size) (hown : owns wr B v l) (hg : wr.grownBy w1 v.ownBlock) : Below B w w1 := grown_below0 hB hBs hown hg

set_option maxHeartbeats 1000000 in
/-- four bytes behind what v owns -/
theorem appendWord_any (B : Nat) (v : Value) (l : List Int) (x : Int) (w : World) (hown : owns w B v l) (hl : l.length ≤ 16777216) (hB : B ≤ w.heap.size) (h0 : 0 ≤ x) (h1 : x ≤ 4294967295) :
    Calls Try.prog 66 #[v, .int .u32 x] w fun e w' => ∃ v', e = .returned v' ∧ owns w' B v' (l ++ littleL x 4) ∧ w.grownBy w' v.ownBlock := by
  obtain ⟨i0, hi, hz0, hz1, hz2⟩ := info_parts info5
  rw [little4_eq h0 h1]
  go_enter Try.func66, Try.ntmps66
  go_wp2_with (at_builtin; refine wpList_append_own _ rfl (.tmp 5) (.tmp 17) 22 rfl B 5 i0 (.int .u8 0) 1 1 Try.underlying22 hi hz0 hz1 hz2 rfl (by decide) _ _ _ rfl (hown.alloc _) ⟨w.heap.size, 0, none⟩ 4 4 ([x % 256, x / 256 % 256, x / 65536 % 256, x / 16777216].map (Value.int .u8)) rfl rfl ?c1 (bytes_oneCell _) ?c3 ?c4 ?c5 ?_)
  case c1 =>
    intro j u hj
    rw [add_at]
    rw [World.cell?_alloc_at _ _ _ _ rfl]
    simpa using hj
  case c3 => unfold maxLen; omega
  case c4 => omega
  case c5 => first | omega | (simp; omega)
  intro v1 w1 hown1 hgrow1 _
  have ho1 : owns w1 B v1 (l ++ [x % 256, x / 256 % 256, x / 65536 % 256, x / 16777216]) := owns_app (by simp) hown1
  have hg1 := gr_alloc hgrow1
  clear hown1 hgrow1 hown
  go_wp2
  go_ret
  exact ⟨_, rfl, ho1, hg1⟩

theorem appendWord_B (B : Nat) (v : Value) (l : List Int) (x : Int) (w : World) (hown : owns w B v l) (hl : l.length ≤ 16777216) (hB : B ≤ w.heap.size) (h0 : 0 ≤ x) (h1 : x ≤ 4294967295) :
    Calls Try.prog 66 #[v, .int .u32 x] w fun e w' => ∃ v', e = .returned v' ∧ owns w' B v' (l ++ littleL x 4) ∧ Below B w w' := by
  refine (appendWord_any B v l x w hown hl hB h0 h1).mono ?_
  rintro e w' ⟨v', rfl, h2, h3⟩
  exact ⟨v', rfl, h2, grown_below0 (Below.refl _ _) hB hown h3⟩

set_option maxHeartbeats 1000000 in
theorem appendLong_B (B : Nat) (v : Value) (l : List Int) (x : Int) (w : World) (hown : owns w B v l) (hl : l.length ≤ 16777212) (hB : B ≤ w.heap.size) (h0 : 0 ≤ x) (h1 : x ≤ 18446744073709551615) :
    Calls Try.prog 77 #[v, .int .u64 x] w fun e w' => ∃ v', e = .returned v' ∧ owns w' B v' (l ++ littleL x 8) ∧ Below B w w' := by
  have e8 := little8_eq h0 h1
  have E8 : Hid (littleL x 8 = littleL (x % 4294967296) 4 ++ littleL (x / 4294967296) 4) := e8
  have hl4 : (littleL (x % 4294967296) 4).length = 4 := littleL_len _ _
  clear e8
  generalize littleL x 8 = L8 at *
  go_enter Try.func77, Try.ntmps77
  go_wp2_with fail
  refine (appendWord_B B v l (x % 4294967296) _ hown (by omega) hB (by omega) (by omega)).mono ?_
  rintro e w1 ⟨v1, rfl, o1, b1⟩
  have hB1 := Nat.le_trans hB b1.size
  have hl1 : (l ++ littleL (x % 4294967296) 4).length ≤ 16777216 := by rw [List.length_append, hl4]; omega
  clear hown
  generalize hm : l ++ littleL (x % 4294967296) 4 = l1 at o1 hl1
  have HM : Hid (l ++ littleL (x % 4294967296) 4 = l1) := hm
  clear hm hl4
  go_wp2_with fail
  refine (appendWord_B B v1 l1 (x / 4294967296) _ o1 hl1 hB1 (by omega) (by omega)).mono ?_
  rintro e w2 ⟨v2, rfl, o2, b2⟩
  have o3 : owns w2 B v2 (l ++ L8) := by rw [E8.out, ← List.append_assoc, HM.out]; exact o2
  have b3 := b1.trans b2
  clear o1 o2 b1 b2
  go_wp2
  go_ret
  exact ⟨_, rfl, o3, b3⟩

theorem Box3.keepB {w w1 : World} {g B : Nat} {x y z : Value} (h : Box3 w g x y z) (hb : Below B w w1) (hg : g < B) : Box3 w1 g x y z :=
  ⟨Nat.lt_of_lt_of_le h.lt hb.size, (hb.cell (p := ⟨g, _, none⟩) hg).trans h.c0, (hb.cell (p := ⟨g, _, none⟩) hg).trans h.c1, (hb.cell (p := ⟨g, _, none⟩) hg).trans h.c2,
    (hb.frozen (p := ⟨g, _, none⟩) hg).trans h.f0, (hb.frozen (p := ⟨g, _, none⟩) hg).trans h.f1, (hb.frozen (p := ⟨g, _, none⟩) hg).trans h.f2⟩
theorem owns_mono {w : World} {B B' : Nat} {v : Value} {l : List Int} (h : owns w B v l) (hb : B' ≤ B) : owns w B' v l := by
  obtain ⟨h0, h | ⟨g, cap, cur, rfl, hb', hr⟩⟩ := h
  · exact ⟨h0, .inl h⟩
  · exact ⟨h0, .inr ⟨g, cap, cur, rfl, by omega, hr⟩⟩

set_option maxHeartbeats 1000000 in
theorem isValid_six (c : C) (a : Option Addr) (cap : Nat) (w : World) :
    Calls Try.prog 64 #[callV c (.slice a 6 cap)] w fun e w' => e = .returned (.bool true) ∧ Below w.heap.size w w' := by
  obtain ⟨ar, nr, args⟩ := c
  go_enter Try.func64, Try.ntmps64
  go_wp2
  go_ret
  exact ⟨rfl, (Below.refl _ _).alloc (Nat.le_refl _) _⟩
set_option maxHeartbeats 1000000 in
theorem isValid_not (c : C) (a : Option Addr) (n cap : Nat) (w : World) (h : n ≠ 6) :
    Calls Try.prog 64 #[callV c (.slice a n cap)] w fun e w' => e = .returned (.bool false) ∧ Below w.heap.size w w' := by
  obtain ⟨ar, nr, args⟩ := c
  have hb : ((n : Int) == 6) = false := by simp; omega
  go_enter Try.func64, Try.ntmps64
  go_wp2
  go_ret
  exact ⟨rfl, (Below.refl _ _).alloc (Nat.le_refl _) _⟩

set_option maxRecDepth 100000 in
set_option maxHeartbeats 2000000 in
theorem implRecord_six (c : C) (a : Option Addr) (cap : Nat) (ip : Int) (w : World) (hs : USrc w a c.args) (hok : c.ok) (h6 : c.args.length = 6) (hip : isU64 ip) :
    Calls Try.prog 44 #[callV c (.slice a c.args.length cap), .int .u64 ip] w fun e w' => ∃ v', e = .returned v' ∧ owns w' w.heap.size v' (recB c ip) ∧ Below w.heap.size w w' := by
  obtain ⟨i0, hi, hz0, hz1, hz2⟩ := info_parts info5
  obtain ⟨ar, nr, args⟩ := c
  obtain ⟨a0, a1, n0, n1, hall⟩ := hok
  obtain ⟨p0, p1⟩ := hip
  simp only at hs h6 a0 a1 n0 n1 hall ⊢
  obtain ⟨b, o, rfl, hb, hp⟩ : ∃ b o, a = some ⟨b, o, none⟩ ∧ b < w.heap.size ∧ UAt w b o args := by
    rcases hs with rfl | h
    · simp at h6
    · exact h
  have HP : Hid (∀ i, i < 6 → w.cell? ⟨b, o + i, none⟩ = some (.int .u64 (args.getD i 0)) ∧ isU64 (args.getD i 0)) := fun i hi => ⟨hp i (by omega), hall _ (by rw [List.getD_eq_getElem?_getD, List.getElem?_eq_getElem (by omega)]; exact List.getElem_mem (by omega))⟩
  have HT : Hid (∀ i, i < 6 → longsB (args.take (i + 1)) = longsB (args.take i) ++ littleL (args.getD i 0) 8) := fun i hi => longsB_take (by omega)
  have HR : Hid (recB ⟨ar, nr, args⟩ ip = littleL nr 4 ++ littleL ar 4 ++ littleL ip 8 ++ longsB (args.take 6)) := by
    unfold Hid recB; rw [if_pos h6, ← h6, List.take_length]
  have HL : Hid (∀ i, i ≤ 6 → (littleL nr 4 ++ littleL ar 4 ++ littleL ip 8 ++ longsB (args.take i)).length = 16 + 8 * i) := fun i hi => by simp [littleL_len, longsB_len, h6, Nat.min_eq_left hi]; omega
  have H0 : Hid (littleL nr 4 ++ littleL ar 4 ++ littleL ip 8 ++ longsB (args.take 0) = littleL nr 4 ++ littleL ar 4 ++ littleL ip 8) := by unfold Hid; simp [longsB]
  rw [h6]
  generalize recB ⟨ar, nr, args⟩ ip = R at *
  clear hs hp hall
  have hmk : ∀ u : World, (Instr.makeSlice 22 (.int .i64 0) (.int .i64 64)).run Try.prog u =
      .ok (.slice (some ⟨u.heap.size, 0, none⟩) 0 64) (u.alloc (.cells (madeCells #[.int .u8 0] 64) 5)) := fun u => by
    have h := run_make (P := Try.prog) u 22 5 i0 (.int .u8 0) Try.underlying22 hi hz0 .i64 .i64 0 64 (by omega) (by omega) (by rw [hz2]; omega) (by omega)
    simpa [hz1, Value.cells] using h
  go_enter Try.func44, Try.ntmps44
  go_wp2_with fail
  refine (isValid_six ⟨ar, nr, args⟩ _ cap _).mono ?_
  rintro e w1 ⟨rfl, hb1⟩
  have x1 := (Box3.new w 64 (.int .u32 ar) (.int .u32 nr) (.slice (some ⟨b, o, none⟩) 6 cap)).keep hb1
  have B1 : Below w.heap.size w w1 := ((Below.refl _ _).alloc (Nat.le_refl _) _).trans (hb1.mono (by simp))
  clear hb1
  have hlt1 := x1.lt
  have O2 : owns (w1.alloc (.cells (madeCells #[.int .u8 0] 64) 5)) w1.heap.size (.slice (some ⟨w1.heap.size, 0, none⟩) 0 64) [] :=
    World.ownsRow_made w1 _ 64 (Nat.le_refl _) (by unfold maxLen; omega) (by rw [size_madeCells])
  have B2 : Below w1.heap.size w1 (w1.alloc (.cells (madeCells #[.int .u8 0] 64) 5)) := (Below.refl _ _).alloc (Nat.le_refl _) _
  have x2 := x1.alloc (.cells (madeCells #[.int .u8 0] 64) 5)
  obtain ⟨_, q0, q1, q2, _, _, _⟩ := x2
  go_wp2_with fail
  refine (appendWord_B w1.heap.size _ [] nr _ O2 (by simp) B2.size n0 n1).mono ?_
  rintro e w3 ⟨v3, rfl, O3, b3⟩
  have B3 := B2.trans b3
  have x3 := x1.keepB B3 hlt1
  clear b3 O2 q0 q1 q2
  obtain ⟨_, q0, q1, q2, _, _, _⟩ := x3
  have hl3 : ([] ++ littleL nr 4).length ≤ 16777216 := by simp [littleL_len]
  go_wp2_with fail
  refine (appendWord_B w1.heap.size _ _ ar _ O3 hl3 B3.size a0 a1).mono ?_
  rintro e w4 ⟨v4, rfl, O4, b4⟩
  have B4 := B3.trans b4
  have x4 := x1.keepB B4 hlt1
  clear b4 O3 q0 q1 q2 B3
  obtain ⟨_, q0, q1, q2, _, _, _⟩ := x4
  have hl4 : ([] ++ littleL nr 4 ++ littleL ar 4).length ≤ 16777212 := by simp [littleL_len]
  go_wp2_with fail
  refine (appendLong_B w1.heap.size _ _ ip _ O4 hl4 B4.size p0 p1).mono ?_
  rintro e w5 ⟨v5, rfl, O5, b5⟩
  have B5 := B4.trans b5
  have x5 := x1.keepB B5 hlt1
  have O6 : owns w5 w1.heap.size v5 (littleL nr 4 ++ littleL ar 4 ++ littleL ip 8 ++ longsB (args.take 0)) := by rw [H0.out]; simpa using O5
  clear b5 O4 q0 q1 q2 B4 O5 H0 B2
  obtain ⟨_, q0, q1, q2, _, _, _⟩ := x5
  obtain ⟨E, hE⟩ : ∃ E : Nat → List Int, ∀ i, littleL nr 4 ++ littleL ar 4 ++ littleL ip 8 ++ longsB (args.take i) = E i := ⟨_, fun _ => rfl⟩
  have HT2 : Hid (∀ i, i < 6 → E (i + 1) = E i ++ littleL (args.getD i 0) 8) := fun i hi => by rw [← hE, ← hE, HT.out i hi]; simp
  simp only [hE] at HR HL O6
  clear hE HT hl3 hl4
  go_wp2_with fail
  go_loopw [5, 26] (fun s i wr => ∃ k : Nat, k ≤ 6 ∧ i = .int .i64 k ∧ owns wr w1.heap.size s (E k) ∧ Below w1.heap.size w1 wr) (fun _ i _ => 6 - (intOf i).toNat)
  case atStart => exact ⟨0, by omega, rfl, O6, B5⟩
  case round =>
    obtain ⟨k, hk, rfl, hown, hB⟩ := hrel
    clear O6 B5 q0 q1 q2
    by_cases hlt : k < 6
    · obtain ⟨c0, y0, y1⟩ := HP.out k hlt
      have d0 := (hB.cell (p := ⟨b, _, none⟩) (Nat.lt_of_lt_of_le hb B1.size)).trans ((B1.cell (p := ⟨b, _, none⟩) hb).trans c0)
      have HE := HT2.out k hlt
      have HE' : Hid _ := HE
      have hlen := HL.out k hk
      clear HP HT2 HL c0 HE
      generalize args.getD k 0 = y at *
      go_wp2_with fail
      refine (appendLong_B w1.heap.size _ _ y _ hown (by omega) hB.size y0 y1).mono ?_
      rintro e w6 ⟨v6, rfl, o6, b6⟩
      have o7 : owns w6 w1.heap.size v6 (E (k + 1)) := by rw [HE'.out]; exact o6
      have hB6 := hB.trans b6
      clear o6 b6 hown hB
      go_wp2
      go_roundw
      case rel => exact ⟨k + 1, by omega, by go_num, o7, hB6⟩
      case measure => simp [intOf]; omega
    · have hk6 : k = 6 := by omega
      subst hk6
      go_wp2
      go_ret
      exact ⟨_, rfl, by rw [HR.out]; exact owns_mono hown B1.size, B1.trans (hB.mono B1.size)⟩

set_option maxHeartbeats 1000000 in
theorem implRecord_not (c : C) (a : Option Addr) (n cap : Nat) (ip : Int) (w : World) (h : n ≠ 6) :
    Calls Try.prog 44 #[callV c (.slice a n cap), .int .u64 ip] w fun e w' => ∃ v', e = .returned v' ∧ owns w' w.heap.size v' [] ∧ Below w.heap.size w w' := by
  obtain ⟨ar, nr, args⟩ := c
  go_enter Try.func44, Try.ntmps44
  go_wp2_with fail
  refine (isValid_not ⟨ar, nr, args⟩ _ n cap _ h).mono ?_
  rintro e w1 ⟨rfl, hb1⟩
  have B1 : Below w.heap.size w w1 := ((Below.refl _ _).alloc (Nat.le_refl _) _).trans (hb1.mono (by simp))
  go_wp2
  go_ret
  exact ⟨_, rfl, World.ownsRow_nil _ _ _ _, B1⟩

theorem implRecord_any (c : C) (a : Option Addr) (cap : Nat) (ip : Int) (w : World) (hs : USrc w a c.args) (hok : c.ok) (hip : isU64 ip) :
    Calls Try.prog 44 #[callV c (.slice a c.args.length cap), .int .u64 ip] w fun e w' => ∃ v', e = .returned v' ∧ owns w' w.heap.size v' (recB c ip) ∧ Below w.heap.size w w' := by
  by_cases h6 : c.args.length = 6
  · exact implRecord_six c a cap ip w hs hok h6 hip
  · have e : recB c ip = [] := by unfold recB; rw [if_neg h6]
    rw [e]
    exact implRecord_not c a _ cap ip w h6
end Go.Proofs.Ytjfgihmamoiipaa
