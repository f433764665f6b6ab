/-
  CONTRACTS of the program's conditions: the other methods; one within another.
-/
import Derived.Test.YtjkmcdgjhfiklaaCondJ
namespace Go.Proofs.Ytjkmcdgjhfiklaa
open Go.RowKit
set_option linter.unusedVariables false

theorem shl_ones {n : Nat} (h : n ≤ 64) : IntKind.u64.wrap (18446744073709551615 * 2 ^ n) = ((inv (low n) : Nat) : Int) := by
  have h1 := low_succ n
  have h2 := low_le h
  have e : ((2 : Int) ^ n) = ((2 ^ n : Nat) : Int) := by simp
  rw [IntKind.wrap_u64, e]
  unfold inv
  omega

abbrev two (a b : Nat) : Value := .tuple #[.int .u64 (a : Int), .int .u64 (b : Int)]

set_option maxRecDepth 100000 in
set_option maxHeartbeats 1000000 in
theorem agreedAny (w : World) : Calls Try.prog 134 #[.agg #[]] w fun e w' => e = .returned (two 0 0) ∧ Below w.heap.size w w' := by
  have B : Below w.heap.size w (w.alloc (.cells #[] 102)) := (Below.refl _ _).alloc (Nat.le_refl _) _
  go_enter Try.func134, Try.ntmps134
  go_wp2
  go_ret2
  exact ⟨rfl, B⟩
set_option maxRecDepth 100000 in
set_option maxHeartbeats 1000000 in
theorem agreedMask (a b : Nat) (w : World) : Calls Try.prog 139 #[.agg #[.int .u64 (a : Int), .int .u64 (b : Int)]] w fun e w' => e = .returned (two a b) ∧ Below w.heap.size w w' := by
  have B : Below w.heap.size w (w.alloc (.cells #[.int .u64 (a : Int), .int .u64 (b : Int)] 106)) := (Below.refl _ _).alloc (Nat.le_refl _) _
  go_enter Try.func139, Try.ntmps139
  go_wp2_with fail
  go_quiet (fail)
  go_wp2
  go_ret2
  exact ⟨rfl, by first | exact B.drew | exact below_drewN B _⟩
set_option maxRecDepth 100000 in
set_option maxHeartbeats 1000000 in
theorem agreedRange (a b : Nat) (w : World) (ha : a < 18446744073709551616) (hb : b < 18446744073709551616) :
    Calls Try.prog 144 #[.agg #[.int .u64 (a : Int), .int .u64 (b : Int)]] w fun e w' => e = .returned (two (inv (low (lenN (a ^^^ b)))) (a &&& inv (low (lenN (a ^^^ b))))) ∧ Below w.heap.size w w' := by
  have B : Below w.heap.size w (w.alloc (.cells #[.int .u64 (a : Int), .int .u64 (b : Int)] 110)) := (Below.refl _ _).alloc (Nat.le_refl _) _
  have hx := xor_lt ha hb
  have e1 := u64_xor a b ha hb
  have HL : Hid (∀ w, Calls Try.prog 103 #[.int .u64 ((a ^^^ b : Nat) : Int)] w fun e w' => e = .returned (.int .i64 ((lenN (a ^^^ b) : Nat) : Int)) ∧ w' = w) := fun w => len64_any _ w hx
  have hn := lenN_le hx
  have HS : Hid (IntKind.u64.wrap (18446744073709551615 * 2 ^ lenN (a ^^^ b)) = ((inv (low (lenN (a ^^^ b))) : Nat) : Int)) := shl_ones hn
  have HA : Hid (bits .and .u64 (a : Int) ((inv (low (lenN (a ^^^ b))) : Nat) : Int) = ((a &&& inv (low (lenN (a ^^^ b))) : Nat) : Int)) := u64_and a _ ha (inv_lt _)
  have hi := inv_lt (low (lenN (a ^^^ b)))
  generalize inv (low (lenN (a ^^^ b))) = I at *
  generalize a &&& I = J at *
  generalize lenN (a ^^^ b) = n at *
  generalize a ^^^ b = x at *
  go_enter Try.func144, Try.ntmps144
  go_wp2_with fail
  refine (HL.out _).mono ?_
  rintro e w1 ⟨rfl, rfl⟩
  go_wp2_with fail
  rw [HS.out]
  go_quiet (fail)
  go_wp2
  rw [HA.out]
  go_ret2
  exact ⟨rfl, by first | exact B.drew | exact below_drewN B _⟩

set_option maxRecDepth 100000 in
set_option maxHeartbeats 1000000 in
theorem boundsAny (w : World) : Calls Try.prog 135 #[.agg #[]] w fun e w' => e = .returned (two 0 18446744073709551615) ∧ Below w.heap.size w w' := by
  have B : Below w.heap.size w (w.alloc (.cells #[] 102)) := (Below.refl _ _).alloc (Nat.le_refl _) _
  go_enter Try.func135, Try.ntmps135
  go_wp2
  go_ret2
  exact ⟨rfl, B⟩
set_option maxRecDepth 100000 in
set_option maxHeartbeats 1000000 in
theorem boundsMask (a b : Nat) (w : World) (ha : a < 18446744073709551616) (hb : b < 18446744073709551616) :
    Calls Try.prog 140 #[.agg #[.int .u64 (a : Int), .int .u64 (b : Int)]] w fun e w' => e = .returned (two b (b ||| inv a)) ∧ Below w.heap.size w w' := by
  have B : Below w.heap.size w (w.alloc (.cells #[.int .u64 (a : Int), .int .u64 (b : Int)] 106)) := (Below.refl _ _).alloc (Nat.le_refl _) _
  have HB : Hid (bits .or .u64 (b : Int) (bits .xor .u64 IntKind.u64.max (a : Int)) = ((b ||| inv a : Nat) : Int)) := by
    unfold Hid
    rw [u64_not a ha]; exact u64_or b _ hb (inv_lt _)
  generalize b ||| inv a = J at *
  go_enter Try.func140, Try.ntmps140
  go_wp2_with fail
  go_quiet (fail)
  go_wp2
  rw [HB.out]
  go_ret2
  exact ⟨rfl, by first | exact B.drew | exact below_drewN B _⟩
set_option maxRecDepth 100000 in
set_option maxHeartbeats 1000000 in
theorem boundsRange (a b : Nat) (w : World) : Calls Try.prog 145 #[.agg #[.int .u64 (a : Int), .int .u64 (b : Int)]] w fun e w' => e = .returned (two a b) ∧ Below w.heap.size w w' := by
  have B : Below w.heap.size w (w.alloc (.cells #[.int .u64 (a : Int), .int .u64 (b : Int)] 110)) := (Below.refl _ _).alloc (Nat.le_refl _) _
  go_enter Try.func145, Try.ntmps145
  go_wp2_with fail
  go_quiet (fail)
  go_wp2
  go_ret2
  exact ⟨rfl, by first | exact B.drew | exact below_drewN B _⟩

set_option maxRecDepth 100000 in
set_option maxHeartbeats 1000000 in
theorem holdsAny (v : Nat) (w : World) : Calls Try.prog 137 #[.agg #[], .int .u64 (v : Int)] w fun e w' => e = .returned (.bool true) ∧ Below w.heap.size w w' := by
  have B : Below w.heap.size w (w.alloc (.cells #[] 102)) := (Below.refl _ _).alloc (Nat.le_refl _) _
  go_enter Try.func137, Try.ntmps137
  go_wp2
  go_ret
  exact ⟨rfl, B⟩
set_option maxRecDepth 100000 in
set_option maxHeartbeats 1000000 in
theorem holdsMask (a b v : Nat) (w : World) (ha : a < 18446744073709551616) (hv : v < 18446744073709551616) :
    Calls Try.prog 142 #[.agg #[.int .u64 (a : Int), .int .u64 (b : Int)], .int .u64 (v : Int)] w fun e w' => e = .returned (.bool (v &&& a == b)) ∧ Below w.heap.size w w' := by
  have B : Below w.heap.size w (w.alloc (.cells #[.int .u64 (a : Int), .int .u64 (b : Int)] 106)) := (Below.refl _ _).alloc (Nat.le_refl _) _
  have HB : Hid (bits .and .u64 (v : Int) (a : Int) = ((v &&& a : Nat) : Int)) := u64_and v a hv ha
  go_enter Try.func142, Try.ntmps142
  go_wp2
  go_ret
  refine ⟨?_, B⟩
  rw [HB.out, beq_cast]; rfl
set_option maxRecDepth 100000 in
set_option maxHeartbeats 1000000 in
theorem holdsRange (a b v : Nat) (w : World) :
    Calls Try.prog 147 #[.agg #[.int .u64 (a : Int), .int .u64 (b : Int)], .int .u64 (v : Int)] w fun e w' => e = .returned (.bool (decide (a ≤ v) && decide (v ≤ b))) ∧ Below w.heap.size w w' := by
  have B : Below w.heap.size w (w.alloc (.cells #[.int .u64 (a : Int), .int .u64 (b : Int)] 110)) := (Below.refl _ _).alloc (Nat.le_refl _) _
  obtain ⟨R, hR⟩ : ∃ R, (decide (a ≤ v) && decide (v ≤ b)) = R := ⟨_, rfl⟩
  have HR : Hid ((decide (a ≤ v) && decide (v ≤ b)) = R) := hR
  rw [hR]
  clear hR
  by_cases h1 : a ≤ v
  · have h1' : (a : Int) ≤ (v : Int) := by omega
    by_cases h2 : v ≤ b
    · have h2' : (v : Int) ≤ (b : Int) := by omega
      have hR : R = true := by rw [← HR.out]; simp [h1, h2]
      subst hR
      go_enter Try.func147, Try.ntmps147
      go_wp2
      go_ret
      exact ⟨by simp, B⟩
    · have h2' : ¬ (v : Int) ≤ (b : Int) := by omega
      have hR : R = false := by rw [← HR.out]; simp [h2]
      subst hR
      go_enter Try.func147, Try.ntmps147
      go_wp2
      go_ret
      exact ⟨by simp, B⟩
  · have h1' : ¬ (a : Int) ≤ (v : Int) := by omega
    have hR : R = false := by rw [← HR.out]; simp [h1]
    subst hR
    go_enter Try.func147, Try.ntmps147
    go_wp2
    go_ret
    exact ⟨by simp, B⟩

theorem meth_agreed {c : K} (h : Normal c) : Meth c "loop.example/s0039/impl.agreed" #[] (two (agreeM c) (agreeV c)) := by
  have ho := h.ok
  rcases h with rfl | ⟨a, b, rfl, _⟩ | ⟨a, b, rfl, _⟩
  · exact ⟨_, _, 134, rfl, fun _ => by kernel_rfl, fun _ _ => by kernel_rfl, agreedAny⟩
  · exact ⟨_, _, 139, rfl, fun _ => by kernel_rfl, fun _ _ => by kernel_rfl, agreedMask a b⟩
  · exact ⟨_, _, 144, rfl, fun _ => by kernel_rfl, fun _ _ => by kernel_rfl, fun w => agreedRange a b w ho.2.1 ho.2.2⟩
theorem meth_bounds {c : K} (h : Normal c) : Meth c "loop.example/s0039/impl.bounds" #[] (two (lowK c) (highK c)) := by
  have ho := h.ok
  rcases h with rfl | ⟨a, b, rfl, _⟩ | ⟨a, b, rfl, _⟩
  · exact ⟨_, _, 135, rfl, fun _ => by kernel_rfl, fun _ _ => by kernel_rfl, boundsAny⟩
  · exact ⟨_, _, 140, rfl, fun _ => by kernel_rfl, fun _ _ => by kernel_rfl, fun w => boundsMask a b w ho.2.1 ho.2.2⟩
  · exact ⟨_, _, 145, rfl, fun _ => by kernel_rfl, fun _ _ => by kernel_rfl, boundsRange a b⟩
theorem meth_holds {c : K} (h : Normal c) {v : Nat} (hv : v < 18446744073709551616) : Meth c "loop.example/s0039/impl.holds" #[.int .u64 (v : Int)] (.bool (holdsK c v)) := by
  have ho := h.ok
  rcases h with rfl | ⟨a, b, rfl, _⟩ | ⟨a, b, rfl, _⟩
  · exact ⟨_, _, 137, rfl, fun _ => by kernel_rfl, fun _ _ => by kernel_rfl, holdsAny v⟩
  · exact ⟨_, _, 142, rfl, fun _ => by kernel_rfl, fun _ _ => by kernel_rfl, fun w => holdsMask a b v w ho.2.1 hv⟩
  · exact ⟨_, _, 147, rfl, fun _ => by kernel_rfl, fun _ _ => by kernel_rfl, holdsRange a b v⟩
theorem agree_lt {c : K} (h : c.ok) : agreeM c < 18446744073709551616 ∧ agreeV c < 18446744073709551616 := by
  unfold agreeM agreeV
  constructor
  · split
    · exact h.2.1
    · split
      · exact inv_lt _
      · omega
  · split
    · exact h.2.2
    · split
      · exact and_lt h.2.1
      · omega

/-- asking a condition for its type -/
theorem ta_mask (a b : Int) (w : World) : (Instr.typeAssert (.iface 106 (.agg #[.int .u64 a, .int .u64 b])) 66 106 true).run Try.prog w = .ok (.tuple #[.agg #[.int .u64 a, .int .u64 b], .bool true]) w := by kernel_rfl
theorem ta_range (a b : Int) (w : World) : (Instr.typeAssert (.iface 110 (.agg #[.int .u64 a, .int .u64 b])) 66 110 true).run Try.prog w = .ok (.tuple #[.agg #[.int .u64 a, .int .u64 b], .bool true]) w := by kernel_rfl
theorem ta_range_mask (a b : Int) (w : World) : (Instr.typeAssert (.iface 110 (.agg #[.int .u64 a, .int .u64 b])) 66 106 true).run Try.prog w = .ok (.tuple #[.agg #[.int .u64 0, .int .u64 0], .bool false]) w := by kernel_rfl
theorem ta_any_mask (w : World) : (Instr.typeAssert (.iface 102 (.agg #[])) 66 106 true).run Try.prog w = .ok (.tuple #[.agg #[.int .u64 0, .int .u64 0], .bool false]) w := by kernel_rfl
theorem ta_any_range (w : World) : (Instr.typeAssert (.iface 102 (.agg #[])) 66 110 true).run Try.prog w = .ok (.tuple #[.agg #[.int .u64 0, .int .u64 0], .bool false]) w := by kernel_rfl

/-- two cells -/
theorem cells2 {w w1 : World} {g : Nat} {x y : Value} (hb : Below w.heap.size w w1) (hg : g < w.heap.size) (h0 : w.cell? ⟨g, 0, none⟩ = some x) (h1 : w.cell? ⟨g, 1, none⟩ = some y) : w1.cell? ⟨g, 0, none⟩ = some x ∧ w1.cell? ⟨g, 1, none⟩ = some y :=
  ⟨(hb.cell (p := ⟨g, 0, none⟩) hg).trans h0, (hb.cell (p := ⟨g, 1, none⟩) hg).trans h1⟩

set_option maxRecDepth 100000 in
set_option maxHeartbeats 2000000 in
theorem isWithin_any (c d : K) (w : World) (hc : Normal c) (hd : Normal d) :
    Calls Try.prog 39 #[setV c, setV d] w fun e w' => e = .returned (.bool (withinI c d)) ∧ Below w.heap.size w w' := by
  rcases hd with rfl | ⟨m, v, rfl, h0, hm, h⟩ | ⟨l, h, rfl, hlh, hh, h2⟩
  · have HE : Hid (setV ⟨0, 0, 0⟩ = .iface 102 (.agg #[])) := rfl
    have HW : Hid (withinI c ⟨0, 0, 0⟩ = true) := rfl
    rw [HE.out, HW.out]
    clear HE HW
    generalize setV c = S
    have t1 := ta_any_mask
    have t2 := ta_any_range
    go_enter Try.func39, Try.ntmps39
    go_wp2
    go_ret
    exact ⟨rfl, Below.refl _ _⟩
  · have HE : Hid (setV ⟨1, m, v⟩ = .iface 106 (.agg #[.int .u64 (m : Int), .int .u64 (v : Int)])) := rfl
    have HW : Hid (withinI c ⟨1, m, v⟩ = ((agreeM c &&& m == m) && (agreeV c &&& m == v))) := rfl
    rw [HE.out, HW.out]
    obtain ⟨T, P, F, e1, e2, e4, e3⟩ := meth_agreed hc
    have HF : Hid (∀ w, Calls Try.prog F #[P] w fun e w' => e = .returned (two (agreeM c) (agreeV c)) ∧ Below w.heap.size w w') := e3
    have hag := agree_lt hc.ok
    rw [e1]
    clear HE HW e1 e3 hc h
    generalize agreeM c = A at *
    generalize agreeV c = D at *
    have HB : Hid (bits .and .u64 (D : Int) (m : Int) = ((D &&& m : Nat) : Int)) := u64_and D m hag.2 hm
    have HA : Hid (bits .and .u64 (A : Int) (m : Int) = ((A &&& m : Nat) : Int)) := u64_and A m hag.1 hm
    have t1 := ta_mask (m : Int) (v : Int)
    have hsz : w.heap.size < (w.alloc (.cells #[.int .u64 (m : Int), .int .u64 (v : Int)] 106)).heap.size := by simp
    have x0 : (w.alloc (.cells #[.int .u64 (m : Int), .int .u64 (v : Int)] 106)).cell? ⟨w.heap.size, 0, none⟩ = some (.int .u64 (m : Int)) := by simp
    have x1 : (w.alloc (.cells #[.int .u64 (m : Int), .int .u64 (v : Int)] 106)).cell? ⟨w.heap.size, 1, none⟩ = some (.int .u64 (v : Int)) := by simp
    have B0 : Below w.heap.size w (w.alloc (.cells #[.int .u64 (m : Int), .int .u64 (v : Int)] 106)) := (Below.refl _ _).alloc (Nat.le_refl _) _
    have HX : Hid (∀ w1, Below (w.alloc (.cells #[.int .u64 (m : Int), .int .u64 (v : Int)] 106)).heap.size (w.alloc (.cells #[.int .u64 (m : Int), .int .u64 (v : Int)] 106)) w1 → (w1.cell? ⟨w.heap.size, 0, none⟩ = some (.int .u64 (m : Int)) ∧ w1.cell? ⟨w.heap.size, 1, none⟩ = some (.int .u64 (v : Int))) ∧ Below w.heap.size w w1) :=
      fun w1 hb => ⟨cells2 hb hsz x0 x1, B0.trans (hb.mono B0.size)⟩
    clear hsz x0 x1 B0
    by_cases g1 : A &&& m = m
    · have g1' : (bits .and .u64 (A : Int) (m : Int) == (m : Int)) = true := by rw [HA.out, beq_cast, g1]; simp
      have HR : Hid (((A &&& m == m) && (D &&& m == v)) = (D &&& m == v)) := by simp [Hid, g1]
      rw [HR.out]
      clear HA g1 HR
      go_enter Try.func39, Try.ntmps39
      go_wp2_with fail
      refine (HF.out _).mono ?_
      rintro e w1 ⟨rfl, hb1⟩
      obtain ⟨⟨y0, y1⟩, B1⟩ := HX.out w1 hb1
      clear hb1 HX
      go_wp2
      go_ret
      refine ⟨?_, B1⟩
      rw [HB.out, beq_cast]; rfl
    · have g1' : (bits .and .u64 (A : Int) (m : Int) == (m : Int)) = false := by rw [HA.out, beq_cast, beq_eq_false_iff_ne]; exact g1
      have HR : Hid (((A &&& m == m) && (D &&& m == v)) = false) := by simp [Hid, g1]
      rw [HR.out]
      clear HA g1 HR
      go_enter Try.func39, Try.ntmps39
      go_wp2_with fail
      refine (HF.out _).mono ?_
      rintro e w1 ⟨rfl, hb1⟩
      obtain ⟨⟨y0, y1⟩, B1⟩ := HX.out w1 hb1
      clear hb1 HX
      go_wp2
      go_ret
      exact ⟨rfl, B1⟩
  · have HE : Hid (setV ⟨2, l, h⟩ = .iface 110 (.agg #[.int .u64 (l : Int), .int .u64 (h : Int)])) := rfl
    have HW : Hid (withinI c ⟨2, l, h⟩ = (decide (l ≤ lowK c) && decide (highK c ≤ h))) := rfl
    rw [HE.out, HW.out]
    obtain ⟨T, P, F, e1, e2, e4, e3⟩ := meth_bounds hc
    have HF : Hid (∀ w, Calls Try.prog F #[P] w fun e w' => e = .returned (two (lowK c) (highK c)) ∧ Below w.heap.size w w') := e3
    rw [e1]
    clear HE HW e1 e3 hc h2
    generalize lowK c = A at *
    generalize highK c = D at *
    have t1 := ta_range_mask (l : Int) (h : Int)
    have t2 := ta_range (l : Int) (h : Int)
    have hsz : w.heap.size < (w.alloc (.cells #[.int .u64 (l : Int), .int .u64 (h : Int)] 110)).heap.size := by simp
    have x0 : (w.alloc (.cells #[.int .u64 (l : Int), .int .u64 (h : Int)] 110)).cell? ⟨w.heap.size, 0, none⟩ = some (.int .u64 (l : Int)) := by simp
    have x1 : (w.alloc (.cells #[.int .u64 (l : Int), .int .u64 (h : Int)] 110)).cell? ⟨w.heap.size, 1, none⟩ = some (.int .u64 (h : Int)) := by simp
    have B0 : Below w.heap.size w (w.alloc (.cells #[.int .u64 (l : Int), .int .u64 (h : Int)] 110)) := (Below.refl _ _).alloc (Nat.le_refl _) _
    have HX : Hid (∀ w1, Below (w.alloc (.cells #[.int .u64 (l : Int), .int .u64 (h : Int)] 110)).heap.size (w.alloc (.cells #[.int .u64 (l : Int), .int .u64 (h : Int)] 110)) w1 → (w1.cell? ⟨w.heap.size, 0, none⟩ = some (.int .u64 (l : Int)) ∧ w1.cell? ⟨w.heap.size, 1, none⟩ = some (.int .u64 (h : Int))) ∧ Below w.heap.size w w1) :=
      fun w1 hb => ⟨cells2 hb hsz x0 x1, B0.trans (hb.mono B0.size)⟩
    clear hsz x0 x1 B0
    by_cases g1 : l ≤ A
    · have g1' : (l : Int) ≤ (A : Int) := by omega
      have HR : Hid ((decide (l ≤ A) && decide (D ≤ h)) = decide (D ≤ h)) := by simp [Hid, g1]
      rw [HR.out]
      clear g1 HR
      go_enter Try.func39, Try.ntmps39
      go_wp2_with fail
      refine (HF.out _).mono ?_
      rintro e w1 ⟨rfl, hb1⟩
      obtain ⟨⟨y0, y1⟩, B1⟩ := HX.out w1 hb1
      clear hb1 HX
      go_wp2
      go_ret
      exact ⟨by simp, B1⟩
    · have g1' : ¬ (l : Int) ≤ (A : Int) := by omega
      have HR : Hid ((decide (l ≤ A) && decide (D ≤ h)) = false) := by simp [Hid, g1]
      rw [HR.out]
      clear g1 HR
      go_enter Try.func39, Try.ntmps39
      go_wp2_with fail
      refine (HF.out _).mono ?_
      rintro e w1 ⟨rfl, hb1⟩
      obtain ⟨⟨y0, y1⟩, B1⟩ := HX.out w1 hb1
      clear hb1 HX
      go_wp2
      go_ret
      exact ⟨by simp, B1⟩
end Go.Proofs.Ytjkmcdgjhfiklaa
