/-
  CondJ, CondL, CondM, PolS, PolA, MinS, MinU
-/
import Derived.Test.YtljhccolmcoifaaGreatQ13
import Derived.Test.YtljhccolmcoifaaGreatQ12
import Derived.Test.YtljhccolmcoifaaGreatQ05
import Derived.Test.YtljhccolmcoifaaGreatQ07
import Derived.Deep.AppendLies
import Derived.Deep.Onto
namespace Go.Proofs.YtljhccolmcoifaaGreat
open Go.RowKit
set_option linter.unusedVariables false

theorem lib_len : ∀ n x : Nat, x ≤ n → x < 18446744073709551616 → Lib.bitLen x = lenN x
  | 0, x, h, _ => by
    have : x = 0 := by omega
    subst this; decide
  | n + 1, x, h, hx => by
    by_cases h0 : x = 0
    · subst h0; decide
    · rw [Lib.bitLen_half x h0 hx, lib_len n (x / 2) (by omega) (by omega)]
      unfold lenN
      by_cases h1 : x = 1
      · subst h1; decide
      · rw [if_neg h0, if_neg (by omega), Nat.log2_def x, if_pos (by omega)]; omega

/-- the table's byte, and what was shifted away -/
theorem len_case {x y : Int} (s : Nat) (h0 : 0 ≤ x) (h1 : x ≤ 18446744073709551615) (hy0 : 0 ≤ y) (hy : y ≤ 255) (e : x.toNat / 2 ^ s = y.toNat) (hs : 2 ^ s ≤ x.toNat) : Lib.len8 y = (Lib.bitLen x.toNat : Int) - s ∧ Lib.bitLen y.toNat ≤ 8 := by
  rw [Lib.len8_of y hy0 hy, Lib.bitLen_shift s x.toNat hs (by omega), e]
  exact ⟨by omega, Lib.bitLen_le8' y hy0 hy⟩
theorem len8_bd {y : Int} (hy0 : 0 ≤ y) (hy : y ≤ 255) : 0 ≤ Lib.len8 y ∧ Lib.len8 y ≤ 8 := by
  have := Lib.bitLen_le8' y hy0 hy
  rw [Lib.len8_of y hy0 hy]; omega

set_option maxRecDepth 100000 in
set_option maxHeartbeats 4000000 in
theorem len64_any (x : Nat) (w : World) (hx : x < 18446744073709551616) :
    Calls Tryz.prog 105 #[.int .u64 (x : Int)] w fun e w' => e = .returned (.int .i64 ((lenN x : Nat) : Int)) ∧ w' = w := by
  have HE : Hid (lenN x = Lib.bitLen (x : Int).toNat) := by unfold Hid; rw [Int.toNat_natCast]; exact (lib_len x x (Nat.le_refl _) hx).symm
  have h0 : 0 ≤ (x : Int) := by omega
  have h1 : (x : Int) ≤ 18446744073709551615 := by omega
  rw [HE.out]
  clear HE hx
  generalize (x : Int) = y at *
  by_cases c3 : (4294967296 : Int) ≤ y
  · by_cases c2 : (65536 : Int) ≤ y / 4294967296
    · by_cases c1 : (256 : Int) ≤ y / 4294967296 / 65536
      · have q0 : 0 ≤ y / 4294967296 / 65536 / 256 := by omega
        have q1 : y / 4294967296 / 65536 / 256 ≤ 255 := by omega
        have HQ : Hid (Lib.len8 (y / 4294967296 / 65536 / 256) = (Lib.bitLen y.toNat : Int) - 56) := (len_case 56 h0 h1 q0 q1 (by omega) (by omega)).1
        obtain ⟨b0, b1⟩ := len8_bd q0 q1
        go_enter Tryz.func105, Tryz.ntmps105
        go_wp2
        go_ret
        refine ⟨ret_int ?_, rfl⟩
        have := HQ.out
        omega
      · have q0 : 0 ≤ y / 4294967296 / 65536 := by omega
        have q1 : y / 4294967296 / 65536 ≤ 255 := by omega
        have HQ : Hid (Lib.len8 (y / 4294967296 / 65536) = (Lib.bitLen y.toNat : Int) - 48) := (len_case 48 h0 h1 q0 q1 (by omega) (by omega)).1
        obtain ⟨b0, b1⟩ := len8_bd q0 q1
        go_enter Tryz.func105, Tryz.ntmps105
        go_wp2
        go_ret
        refine ⟨ret_int ?_, rfl⟩
        have := HQ.out
        omega
    · by_cases c1 : (256 : Int) ≤ y / 4294967296
      · have q0 : 0 ≤ y / 4294967296 / 256 := by omega
        have q1 : y / 4294967296 / 256 ≤ 255 := by omega
        have HQ : Hid (Lib.len8 (y / 4294967296 / 256) = (Lib.bitLen y.toNat : Int) - 40) := (len_case 40 h0 h1 q0 q1 (by omega) (by omega)).1
        obtain ⟨b0, b1⟩ := len8_bd q0 q1
        go_enter Tryz.func105, Tryz.ntmps105
        go_wp2
        go_ret
        refine ⟨ret_int ?_, rfl⟩
        have := HQ.out
        omega
      · have q0 : 0 ≤ y / 4294967296 := by omega
        have q1 : y / 4294967296 ≤ 255 := by omega
        have HQ : Hid (Lib.len8 (y / 4294967296) = (Lib.bitLen y.toNat : Int) - 32) := (len_case 32 h0 h1 q0 q1 (by omega) (by omega)).1
        obtain ⟨b0, b1⟩ := len8_bd q0 q1
        go_enter Tryz.func105, Tryz.ntmps105
        go_wp2
        go_ret
        refine ⟨ret_int ?_, rfl⟩
        have := HQ.out
        omega
  · by_cases c2 : (65536 : Int) ≤ y
    · by_cases c1 : (256 : Int) ≤ y / 65536
      · have q0 : 0 ≤ y / 65536 / 256 := by omega
        have q1 : y / 65536 / 256 ≤ 255 := by omega
        have HQ : Hid (Lib.len8 (y / 65536 / 256) = (Lib.bitLen y.toNat : Int) - 24) := (len_case 24 h0 h1 q0 q1 (by omega) (by omega)).1
        obtain ⟨b0, b1⟩ := len8_bd q0 q1
        go_enter Tryz.func105, Tryz.ntmps105
        go_wp2
        go_ret
        refine ⟨ret_int ?_, rfl⟩
        have := HQ.out
        omega
      · have q0 : 0 ≤ y / 65536 := by omega
        have q1 : y / 65536 ≤ 255 := by omega
        have HQ : Hid (Lib.len8 (y / 65536) = (Lib.bitLen y.toNat : Int) - 16) := (len_case 16 h0 h1 q0 q1 (by omega) (by omega)).1
        obtain ⟨b0, b1⟩ := len8_bd q0 q1
        go_enter Tryz.func105, Tryz.ntmps105
        go_wp2
        go_ret
        refine ⟨ret_int ?_, rfl⟩
        have := HQ.out
        omega
    · by_cases c1 : (256 : Int) ≤ y
      · have q0 : 0 ≤ y / 256 := by omega
        have q1 : y / 256 ≤ 255 := by omega
        have HQ : Hid (Lib.len8 (y / 256) = (Lib.bitLen y.toNat : Int) - 8) := (len_case 8 h0 h1 q0 q1 (by omega) (by omega)).1
        obtain ⟨b0, b1⟩ := len8_bd q0 q1
        go_enter Tryz.func105, Tryz.ntmps105
        go_wp2
        go_ret
        refine ⟨ret_int ?_, rfl⟩
        have := HQ.out
        omega
      · have q0 : 0 ≤ y := by omega
        have q1 : y ≤ 255 := by omega
        have HQ : Hid (Lib.len8 (y) = (Lib.bitLen y.toNat : Int)) := Lib.len8_of y q0 q1
        obtain ⟨b0, b1⟩ := len8_bd q0 q1
        go_enter Tryz.func105, Tryz.ntmps105
        go_wp2
        go_ret
        refine ⟨ret_int ?_, rfl⟩
        have := HQ.out
        omega

set_option maxRecDepth 100000 in
set_option maxHeartbeats 1000000 in
theorem conMask_any (a b : Nat) (w : World) :
    Calls Tryz.prog 171 #[.agg #[.int .u64 (a : Int), .int .u64 (b : Int)]] w fun e w' => e = .returned (conV ⟨1, a, b⟩) ∧ Below w.heap.size w w' := by
  go_enter Tryz.func171, Tryz.ntmps171
  go_wp2
  refine bodyPost_ret (v := conV ⟨1, a, b⟩) (by simp [results, Tryz.results171, go_sem]) rfl ⟨rfl, ?_⟩
  exact ((Below.refl _ _).alloc (Nat.le_refl _) _).alloc (by simp) _
set_option maxRecDepth 100000 in
set_option maxHeartbeats 1000000 in
theorem conRange_any (a b : Nat) (w : World) :
    Calls Tryz.prog 161 #[.agg #[.int .u64 (a : Int), .int .u64 (b : Int)]] w fun e w' => e = .returned (conV ⟨2, a, b⟩) ∧ Below w.heap.size w w' := by
  go_enter Tryz.func161, Tryz.ntmps161
  go_wp2
  refine bodyPost_ret (v := conV ⟨2, a, b⟩) (by simp [results, Tryz.results161, go_sem]) rfl ⟨rfl, ?_⟩
  exact ((Below.refl _ _).alloc (Nat.le_refl _) _).alloc (by simp) _
set_option maxRecDepth 100000 in
set_option maxHeartbeats 1000000 in
theorem conAny_any (w : World) :
    Calls Tryz.prog 166 #[.agg #[]] w fun e w' => e = .returned (conV ⟨0, 0, 0⟩) ∧ Below w.heap.size w w' := by
  go_enter Tryz.func166, Tryz.ntmps166
  go_wp2
  refine bodyPost_ret (v := conV ⟨0, 0, 0⟩) (by simp [results, Tryz.results166, go_sem]) rfl ⟨rfl, ?_⟩
  exact ((Below.refl _ _).alloc (Nat.le_refl _) _).alloc (by simp) _

/-- a method called through the interface -/
def Meth (c : K) (name : String) (args : Array Value) (r : Value) : Prop := ∃ T P F, setV c = .iface T P ∧ (∀ w, (method 309 T P name).run Tryz.prog w = .ok (F, P) w) ∧ (∀ (xs : Array Value) (w : World), (callFunc F xs).run Tryz.prog w = .ok (.enter F xs) w) ∧
  ∀ w, Calls Tryz.prog F (#[P] ++ args) w fun e w' => e = .returned r ∧ Below w.heap.size w w'

theorem meth_con {c : K} (h : Normal c) : Meth c "loop.example/s0039/impl.con" #[] (conV c) := by
  rcases h with rfl | ⟨a, b, rfl, _⟩ | ⟨a, b, rfl, _⟩
  · exact ⟨_, _, 166, rfl, fun _ => by kernel_rfl, fun _ _ => by kernel_rfl, conAny_any⟩
  · exact ⟨_, _, 171, rfl, fun _ => by kernel_rfl, fun _ _ => by kernel_rfl, conMask_any a b⟩
  · exact ⟨_, _, 161, rfl, fun _ => by kernel_rfl, fun _ _ => by kernel_rfl, conRange_any a b⟩

end Go.Proofs.YtljhccolmcoifaaGreat
namespace Go.Proofs.YtljhccolmcoifaaGreat
open Go.RowKit
set_option linter.unusedVariables false

theorem shl_ones {n : Nat} (h : n ≤ 64) : IntKind.u64.wrap (18446744073709551615 * 2 ^ n) = ((inv (low n) : Nat) : Int) := by
  have h1 := low_succ n
  have h2 := low_le h
  have e : ((2 : Int) ^ n) = ((2 ^ n : Nat) : Int) := by simp
  rw [IntKind.wrap_u64, e]
  unfold inv
  omega

abbrev two (a b : Nat) : Value := .tuple #[.int .u64 (a : Int), .int .u64 (b : Int)]

theorem agree_lt {c : K} (h : c.ok) : agreeM c < 18446744073709551616 ∧ agreeV c < 18446744073709551616 := by
  unfold agreeM agreeV
  constructor
  · split
    · exact h.2.1
    · split
      · exact inv_lt _
      · omega
  · split
    · exact h.2.2
    · split
      · exact and_lt h.2.1
      · omega

/-- asking a condition for its type -/
theorem ta_mask (a b : Int) (w : World) : (Instr.typeAssert (.iface 133 (.agg #[.int .u64 a, .int .u64 b])) 92 133 true).run Tryz.prog w = .ok (.tuple #[.agg #[.int .u64 a, .int .u64 b], .bool true]) w := by kernel_rfl
theorem ta_range (a b : Int) (w : World) : (Instr.typeAssert (.iface 129 (.agg #[.int .u64 a, .int .u64 b])) 92 129 true).run Tryz.prog w = .ok (.tuple #[.agg #[.int .u64 a, .int .u64 b], .bool true]) w := by kernel_rfl
theorem ta_range_mask (a b : Int) (w : World) : (Instr.typeAssert (.iface 129 (.agg #[.int .u64 a, .int .u64 b])) 92 133 true).run Tryz.prog w = .ok (.tuple #[.agg #[.int .u64 0, .int .u64 0], .bool false]) w := by kernel_rfl
theorem ta_any_mask (w : World) : (Instr.typeAssert (.iface 131 (.agg #[])) 92 133 true).run Tryz.prog w = .ok (.tuple #[.agg #[.int .u64 0, .int .u64 0], .bool false]) w := by kernel_rfl
theorem ta_any_range (w : World) : (Instr.typeAssert (.iface 131 (.agg #[])) 92 129 true).run Tryz.prog w = .ok (.tuple #[.agg #[.int .u64 0, .int .u64 0], .bool false]) w := by kernel_rfl

/-- two cells -/
theorem cells2 {w w1 : World} {g : Nat} {x y : Value} (hb : Below w.heap.size w w1) (hg : g < w.heap.size) (h0 : w.cell? ⟨g, 0, none⟩ = some x) (h1 : w.cell? ⟨g, 1, none⟩ = some y) : w1.cell? ⟨g, 0, none⟩ = some x ∧ w1.cell? ⟨g, 1, none⟩ = some y :=
  ⟨(hb.cell (p := ⟨g, 0, none⟩) hg).trans h0, (hb.cell (p := ⟨g, 1, none⟩) hg).trans h1⟩

end Go.Proofs.YtljhccolmcoifaaGreat
namespace Go.Proofs.YtljhccolmcoifaaGreat
open Go.RowKit
set_option linter.unusedVariables false

theorem below_step {w wa wb : World} (hb : Below wa.heap.size wa wb) (h : Below w.heap.size w wa) : Below w.heap.size w wb := h.trans (hb.mono h.size)

theorem cell_ltK {w : World} {a : Addr} {v : Value} (h : w.cell? a = some v) : a.block < w.heap.size := by
  by_cases hb : a.block < w.heap.size
  · exact hb
  · exfalso
    simp [World.cell?, Array.getElem?_eq_none (show w.heap.size ≤ a.block by omega)] at h
theorem cell_step {wa wb : World} (hb : Below wa.heap.size wa wb) {p : Addr} {v : Value} (h : wa.cell? p = some v) : wb.cell? p = some v := (hb.cell (cell_ltK h)).trans h


/-- the three numbers of one of two conditions -/
def OneOf (ck ca cb dk da db k a b : Int) : Prop := (k = ck ∧ a = ca ∧ b = cb) ∨ (k = dk ∧ a = da ∧ b = db)

end Go.Proofs.YtljhccolmcoifaaGreat
namespace Go.Proofs.YtljhccolmcoifaaGreat
open Go.RowKit
set_option linter.unusedVariables false

/-- elements of k cells each, one behind another -/
def LAt {α : Type} (k : Nat) (P : World → Nat → Nat → α → Prop) (w : World) (b o : Nat) (l : List α) : Prop := ∀ i (h : i < l.length), P w b (o + i * k) l[i]
/-- a slice of them: empty, or at an address -/
def LSrc {α : Type} (k : Nat) (P : World → Nat → Nat → α → Prop) (w : World) (a : Option Addr) (l : List α) : Prop := l = [] ∨ ∃ b o, a = some ⟨b, o, none⟩ ∧ b < w.heap.size ∧ LAt k P w b o l
/-- it stays where what was there is left alone -/
def Stays {α : Type} (P : World → Nat → Nat → α → Prop) : Prop := ∀ w w' b o x, b < w.heap.size → Below w.heap.size w w' → P w b o x → P w' b o x

theorem LSrc.below {α : Type} {k : Nat} {P : World → Nat → Nat → α → Prop} (hP : Stays P) {w w' : World} {a : Option Addr} {l : List α} (h : LSrc k P w a l) (hb : Below w.heap.size w w') : LSrc k P w' a l := by
  rcases h with h | ⟨b, o, ha, hlt, hc⟩
  · exact .inl h
  · exact .inr ⟨b, o, ha, Nat.lt_of_lt_of_le hlt hb.size, fun i hi => hP _ _ _ _ _ hlt hb (hc i hi)⟩

def PK (w : World) (b o : Nat) (c : K) : Prop := w.cell? ⟨b, o, none⟩ = some (.int .i64 c.kind) ∧ w.cell? ⟨b, o + 1, none⟩ = some (.int .u64 (c.a : Int)) ∧ w.cell? ⟨b, o + 2, none⟩ = some (.int .u64 (c.b : Int))
def PR (w : World) (b o : Nat) (r : List K) : Prop := ∃ a cap, w.cell? ⟨b, o, none⟩ = some (.slice a r.length cap) ∧ LSrc 3 PK w a r
def PE (w : World) (b o : Nat) (e : E) : Prop := w.cell? ⟨b, o, none⟩ = some (.int .u32 e.arch) ∧ w.cell? ⟨b, o + 1, none⟩ = some (.int .u32 e.nr) ∧ ∃ a cap, w.cell? ⟨b, o + 2, none⟩ = some (.slice a e.rules.length cap) ∧ LSrc 1 PR w a e.rules

theorem PK.stays : Stays PK := fun w w' b o x hlt hb ⟨h0, h1, h2⟩ => ⟨(hb.cell (p := ⟨b, _, none⟩) hlt).trans h0, (hb.cell (p := ⟨b, _, none⟩) hlt).trans h1, (hb.cell (p := ⟨b, _, none⟩) hlt).trans h2⟩
theorem PR.stays : Stays PR := fun w w' b o x hlt hb ⟨a, cap, h0, h1⟩ => ⟨a, cap, (hb.cell (p := ⟨b, _, none⟩) hlt).trans h0, h1.below PK.stays hb⟩
theorem PE.stays : Stays PE := fun w w' b o x hlt hb ⟨h0, h1, a, cap, h2, h3⟩ => ⟨(hb.cell (p := ⟨b, _, none⟩) hlt).trans h0, (hb.cell (p := ⟨b, _, none⟩) hlt).trans h1, a, cap, (hb.cell (p := ⟨b, _, none⟩) hlt).trans h2, h3.below PR.stays hb⟩

theorem LSrc.at {α : Type} {k : Nat} {P : World → Nat → Nat → α → Prop} {w : World} {a : Option Addr} {l : List α} (h : LSrc k P w a l) {i : Nat} (hi : i < l.length) (d : α) : ∃ b o, a = some ⟨b, o, none⟩ ∧ b < w.heap.size ∧ P w b (o + i * k) (l.getD i d) := by
  rcases h with rfl | ⟨b, o, h1, h2, h3⟩
  · simp at hi
  · refine ⟨b, o, h1, h2, ?_⟩
    rw [List.getD_eq_getElem?_getD, List.getElem?_eq_getElem hi]
    exact h3 i hi
theorem LSrc.addr {α : Type} {k : Nat} {P : World → Nat → Nat → α → Prop} {w : World} {a : Option Addr} {l : List α} (h : LSrc k P w a l) (hn : l ≠ []) : ∃ b o, a = some ⟨b, o, none⟩ ∧ b < w.heap.size ∧ LAt k P w b o l := by
  rcases h with h | h
  · exact absurd h hn
  · exact h
theorem LAt.get {α : Type} {k : Nat} {P : World → Nat → Nat → α → Prop} {w : World} {b o : Nat} {l : List α} (h : LAt k P w b o l) {i : Nat} (hi : i < l.length) (d : α) : P w b (o + i * k) (l.getD i d) := by
  rw [List.getD_eq_getElem?_getD, List.getElem?_eq_getElem hi]; exact h i hi
theorem LAt.below {α : Type} {k : Nat} {P : World → Nat → Nat → α → Prop} (hP : Stays P) {w w' : World} {b o : Nat} {l : List α} (h : LAt k P w b o l) (hlt : b < w.heap.size) (hb : Below w.heap.size w w') : LAt k P w' b o l := fun i hi => hP _ _ _ _ _ hlt hb (h i hi)

/-- one cell's box -/
theorem box1 (w : World) (t : TypeId) (x : Value) : (w.alloc (.cells #[x] t)).cell? ⟨w.heap.size, 0, none⟩ = some x := by simp

end Go.Proofs.YtljhccolmcoifaaGreat
namespace Go.Proofs.YtljhccolmcoifaaGreat
open Go.RowKit
set_option linter.unusedVariables false

theorem totalR_le {p : List E} (hm : ∀ e ∈ p, e.rules.length ≤ 16777216) : totalR p ≤ 16777216 * p.length := by
  induction p with
  | nil => simp [totalR]
  | cons e p ih =>
    have h1 := hm e (List.mem_cons_self ..)
    have h2 := ih (fun x hx => hm x (List.mem_cons_of_mem _ hx))
    simp only [totalR, List.length_cons]
    omega
theorem rule_mem {l : List (List K)} {t : Nat} (h : t < l.length) : l.getD t [] ∈ l := by
  rw [List.getD_eq_getElem?_getD, List.getElem?_eq_getElem h]; exact List.getElem_mem h
theorem entry_mem {p : List E} {i : Nat} (hi : i < p.length) : p.getD i E.zero ∈ p := by
  rw [List.getD_eq_getElem?_getD, List.getElem?_eq_getElem hi]; exact List.getElem_mem hi

end Go.Proofs.YtljhccolmcoifaaGreat
namespace Go.Proofs.YtljhccolmcoifaaGreat
open Go.RowKit
set_option linter.unusedVariables false

theorem ordI_ngS {a b : Int} (h : a < b) : ordI a b = -1 := if_pos h
theorem ordI_psS {a b : Int} (h : b < a) : ordI a b = 1 := by unfold ordI; rw [if_neg (by omega), if_pos h]
/-- the model's answer: of ordK's sign -/
def ordM (c d : K) : Int := if c.kind = d.kind then thenO (ordI c.a d.a) (ordI c.b d.b) else c.kind - d.kind
theorem ordM_far {c d : K} (h : c.kind ≠ d.kind) : ordM c d = c.kind - d.kind := if_neg h
theorem ordM_a {k k' : Int} {x y z v : Nat} (h : k = k') (h2 : x ≠ z) : ordM ⟨k, x, y⟩ ⟨k', z, v⟩ = ordI x z := by
  unfold ordM
  rw [if_pos h]
  exact if_neg (fun e => h2 (by have : (x : Int) = z := ordI_zero e; omega))
theorem ordM_b {k k' : Int} {x y z v : Nat} (h : k = k') (h2 : x = z) : ordM ⟨k, x, y⟩ ⟨k', z, v⟩ = ordI y v := by
  unfold ordM
  rw [if_pos h]
  exact if_pos (by rw [h2]; exact ordI_self _)
theorem ordM_sign (c d : K) : (ordM c d = 0 ↔ ordK c d = 0) ∧ (ordM c d < 0 ↔ ordK c d < 0) := by
  unfold ordM ordK
  by_cases h : c.kind = d.kind
  · rw [if_pos h, h, ordI_self]
    simp [thenO]
  · rw [if_neg h]
    have h0 : ordI c.kind d.kind ≠ 0 := fun e => h (ordI_zero e)
    have e : ∀ y, thenO (ordI c.kind d.kind) y = ordI c.kind d.kind := fun y => if_neg h0
    rw [e]
    refine ⟨⟨fun h1 => by omega, fun h1 => absurd h1 h0⟩, ?_⟩
    rw [ordI_lt]
    omega
abbrev ordMR : Ru → Ru → Int := lexO ordM
theorem ordMR_sign : ∀ (a b : Ru), (ordMR a b = 0 ↔ ordR a b = 0) ∧ (ordMR a b < 0 ↔ ordR a b < 0)
  | [], [] => by simp [lexO]
  | [], b :: s => by simp [lexO]
  | a :: r, [] => by simp [lexO]
  | a :: r, b :: s => by
    have h := ordM_sign a b
    have h' := ordMR_sign r s
    simp only [ordMR, ordR, lexO] at *
    by_cases e : ordM a b = 0
    · rw [if_pos e, if_pos (h.1.1 e)]; exact h'
    · rw [if_neg e, if_neg (fun g => e (h.1.2 g))]; exact h
theorem lexO_step {α : Type} {ord : α → α → Int} {d : α} : ∀ {l m : List α} {i : Nat}, i < l.length → i < m.length → lexO ord (l.drop i) (m.drop i) = if ord (l.getD i d) (m.getD i d) = 0 then lexO ord (l.drop (i + 1)) (m.drop (i + 1)) else ord (l.getD i d) (m.getD i d)
  | [], _, _, h, _ => by simp at h
  | _ :: _, [], _, _, h => by simp at h
  | a :: r, b :: s, 0, _, _ => by simp [lexO]
  | a :: r, b :: s, i + 1, h, h' => by
    have := lexO_step (ord := ord) (d := d) (l := r) (m := s) (i := i) (by simpa using h) (by simpa using h')
    simpa using this
theorem ordM_small {c d : K} (hc : validK c = true) (hd : validK d = true) : -2 ≤ c.kind - d.kind ∧ c.kind - d.kind ≤ 2 := by
  rcases K.valid_cases hc with rfl | ⟨a, b, rfl, h⟩ | ⟨a, b, rfl, h⟩ <;> rcases K.valid_cases hd with rfl | ⟨a', b', rfl, h'⟩ | ⟨a', b', rfl, h'⟩ <;> simp

end Go.Proofs.YtljhccolmcoifaaGreat
namespace Go.Proofs.YtljhccolmcoifaaGreat
open Go.RowKit
set_option linter.unusedVariables false

variable {L : Nat}
/-- a rule whose conditions lie from block L on -/
def PRL (L : Nat) (w : World) (b o : Nat) (r : List K) : Prop := ∃ a cap, w.cell? ⟨b, o, none⟩ = some (.slice a r.length cap) ∧ (r = [] ∨ ∃ b2 o2, a = some ⟨b2, o2, none⟩ ∧ L ≤ b2 ∧ b2 < w.heap.size ∧ LAt 3 PK w b2 o2 r)
theorem PRL.stays (L : Nat) : Stays (PRL L) := fun w w' b o x hlt hb ⟨a, cap, h0, h1⟩ => ⟨a, cap, (hb.cell (p := ⟨b, _, none⟩) hlt).trans h0, by
  rcases h1 with h1 | ⟨b2, o2, e, h2, h3, h4⟩
  · exact .inl h1
  · exact .inr ⟨b2, o2, e, h2, Nat.lt_of_lt_of_le h3 hb.size, h4.below PK.stays h3 hb⟩⟩
theorem PRL.plain {w : World} {b o : Nat} {r : List K} (h : PRL L w b o r) : PR w b o r := by
  obtain ⟨a, cap, h0, h1⟩ := h
  refine ⟨a, cap, h0, ?_⟩
  rcases h1 with h1 | ⟨b2, o2, e, h2, h3, h4⟩
  · exact .inl h1
  · exact .inr ⟨b2, o2, e, h3, h4⟩
theorem PR.toL {w : World} {b o : Nat} {r : List K} (h : PR w b o r) : PRL 0 w b o r := by
  obtain ⟨a, cap, h0, h1⟩ := h
  refine ⟨a, cap, h0, ?_⟩
  rcases h1 with h1 | ⟨b2, o2, e, h3, h4⟩
  · exact .inl h1
  · exact .inr ⟨b2, o2, e, Nat.zero_le _, h3, h4⟩
theorem lsrc_map {w : World} {a : Option Addr} {l : List (List K)} {P Q : World → Nat → Nat → List K → Prop} (h : LSrc 1 P w a l) (hPQ : ∀ b o x, P w b o x → Q w b o x) : LSrc 1 Q w a l := by
  rcases h with h | ⟨b, o, h1, h2, h3⟩
  · exact .inl h
  · exact .inr ⟨b, o, h1, h2, fun i hi => hPQ _ _ _ (h3 i hi)⟩
/-- a rule's conditions lie where its value says, apart from the row that v owns -/
def goodN (L : Nat) (w : World) (v : Value) (p : Ru × Value) : Prop := ∃ b o cap, p.2 = .slice (some ⟨b, o, none⟩) 6 cap ∧ p.1.length = 6 ∧ v.ownBlock ≠ some b ∧ b < w.heap.size ∧ LAt 3 PK w b o p.1 ∧ L ≤ b
structure OwnM (L : Nat) (w : World) (B : Nat) (v : Value) (os : List (Ru × Value)) : Prop where
  row : w.ownsRow B 108 1 v os.length (os.map Prod.snd)
  el : ∀ p ∈ os, goodN L w v p
theorem infoRuleM : (Tryz.prog.info? 108).map (fun i => (i.zero, i.size, i.bytes)) = some (some (.agg #[.slice none 0 0]), 1, 24) := by kernel_rfl
theorem OwnM.nil (w : World) (B : Nat) : OwnM L w B (.slice none 0 0) [] := ⟨World.ownsRow_nil _ _ _ _, by simp⟩
theorem goodN.below {w w1 : World} {v : Value} {p : Ru × Value} (h : goodN L w v p) (hb : Below w.heap.size w w1) : goodN L w1 v p := by
  obtain ⟨b, o, cap, h1, h2, h3, h4, h5⟩ := h
  exact ⟨b, o, cap, h1, h2, h3, Nat.lt_of_lt_of_le h4 hb.size, h5.1.below PK.stays h4 hb, h5.2⟩
theorem OwnM.below {w w1 : World} {B : Nat} {v : Value} {os : List (Ru × Value)} (h : OwnM L w B v os) (hb : Below w.heap.size w w1) : OwnM L w1 B v os :=
  ⟨World.ownsRow.kept (row := none) h.row ⟨hb.os, hb.tape, hb.output, hb.size, fun k hk _ => hb.block k hk⟩ (by cases v.ownBlock <;> simp), fun p hp => (h.el p hp).below hb⟩
theorem PK.blk {w w1 : World} {b o : Nat} {c : K} (h : PK w b o c) (e : w1.heap[b]? = w.heap[b]?) : PK w1 b o c := by
  have key : ∀ i, w1.cell? ⟨b, i, none⟩ = w.cell? ⟨b, i, none⟩ := fun i => by simp only [World.cell?, e]
  exact ⟨(key _).trans h.1, (key _).trans h.2.1, (key _).trans h.2.2⟩
theorem LAt.blk {w w1 : World} {b o : Nat} {l : List K} (h : LAt 3 PK w b o l) (e : w1.heap[b]? = w.heap[b]?) : LAt 3 PK w1 b o l := fun i hi => (h i hi).blk e
theorem OwnM.next {w w1 : World} {B : Nat} {v : Value} {os : List (Ru × Value)} {p : Ru × Value} {gg cap n : Nat} {o : Obj} (h : OwnM L w B v os) (hp : goodN L w v p) (hn : n = os.length + 1)
    (hown : w1.ownsRow B 108 1 (.slice (some ⟨gg, 0, none⟩) n cap) n (os.map Prod.snd ++ [p.2])) (hg : (w.alloc o).grownBy w1 v.ownBlock) (hat : v.ownBlock = some gg ∨ gg = w.heap.size + 1) :
    OwnM L w1 B (.slice (some ⟨gg, 0, none⟩) n cap) (os ++ [p]) := by
  subst hn
  have hsz : (w.alloc o).heap.size = w.heap.size + 1 := by simp
  have key : ∀ q, goodN L w v q → goodN L w1 (.slice (some ⟨gg, 0, none⟩) (os.length + 1) cap) q := by
    rintro q ⟨b, o2, cap2, h1, h2, h3, h4, h5⟩
    have hb2 : Below w.heap.size w (w.alloc o) := (Below.refl _ _).alloc (Nat.le_refl _) o
    have hlt : b < (w.alloc o).heap.size := by omega
    refine ⟨b, o2, cap2, h1, h2, ?_, Nat.lt_of_lt_of_le hlt hg.size, (h5.1.below PK.stays h4 hb2).blk (hg.block b hlt (fun e => h3 e.symm)), h5.2⟩
    intro e
    have e' : gg = b := by simpa [Value.ownBlock] using e
    rcases hat with q | q
    · rw [e'] at q; exact h3 q
    · omega
  refine ⟨by simpa using hown, fun q hq => ?_⟩
  rw [List.mem_append, List.mem_singleton] at hq
  rcases hq with hq | rfl
  · exact key q (h.el q hq)
  · exact key _ hp
theorem OwnM.src {w : World} {B : Nat} {v : Value} {os : List (Ru × Value)} (h : OwnM L w B v os) : ∃ a cap, v = .slice a os.length cap ∧ os.length ≤ cap ∧ LSrc 1 (PRL L) w a (os.map Prod.fst) := by
  obtain ⟨hr, hg⟩ := h
  have hr0 := hr
  obtain ⟨h0, h | ⟨g, cap, cur, rfl, hb, hgc, hn, hm, hs, hx⟩⟩ := hr
  · obtain ⟨rfl, hl⟩ := h
    have : os = [] := List.eq_nil_of_length_eq_zero hl
    subst this
    exact ⟨none, 0, rfl, Nat.le_refl _, .inl rfl⟩
  · refine ⟨_, _, rfl, hn, .inr ⟨g, 0, rfl, (Array.getElem?_eq_some_iff.1 hgc).1, fun i hi => ?_⟩⟩
    have hi' : i < os.length := by simpa using hi
    have c0 := World.ownsRow.cellAt hr0 i (by omega)
    rw [List.getElem?_map, List.getElem?_eq_getElem hi'] at c0
    obtain ⟨b, o, cap2, h1, h2, h3, h4, h5⟩ := hg _ (List.getElem_mem hi')
    have e : (os.map Prod.fst)[i] = os[i].1 := by simp
    rw [e]
    refine ⟨some ⟨b, o, none⟩, cap2, ?_, .inr ⟨b, o, rfl, h5.2, h4, h5.1⟩⟩
    rw [Nat.mul_one, Nat.zero_add, c0, h2]
    exact congrArg some h1
/-- what is read of a list is good for a row in new memory -/
theorem PR.good {w : World} {b o : Nat} {r : Ru} {v : Value} (h : PRL L w b o r) (h6 : r.length = 6) (hv : ∀ q, v.ownBlock = some q → w.heap.size ≤ q) : ∃ x, w.cell? ⟨b, o, none⟩ = some x ∧ goodN L w v (r, x) := by
  obtain ⟨a, cap, h1, h2⟩ := h
  rcases h2 with e | ⟨b2, o2, rfl, hL, h3, h4⟩
  · rw [e] at h6; simp at h6
  rw [h6] at h1
  exact ⟨_, h1, b2, o2, cap, rfl, h6, fun e => by have := hv b2 e; omega, h3, h4, hL⟩
theorem OwnM.put {w : World} {B g n cap i : Nat} {os : List (Ru × Value)} {p : Ru × Value} (h : OwnM L w B (.slice (some ⟨g, 0, none⟩) n cap) os) (hn : n = os.length) (hp : goodN L w (.slice (some ⟨g, 0, none⟩) n cap) p) : OwnM L (w.setCell ⟨g, i, none⟩ p.2) B (.slice (some ⟨g, 0, none⟩) n cap) (os.set i p) := by
  subst hn
  have h1 := (World.ownsRow.stored h.row i p.2).1
  have key : ∀ q, goodN L w (.slice (some ⟨g, 0, none⟩) os.length cap) q → goodN L (w.setCell ⟨g, i, none⟩ p.2) (.slice (some ⟨g, 0, none⟩) os.length cap) q := by
    rintro q ⟨b, o2, cap2, h1, h2, h3, h4, h5⟩
    refine ⟨b, o2, cap2, h1, h2, h3, by simpa using h4, h5.1.blk ?_, h5.2⟩
    have hne : g ≠ b := fun e => h3 (by rw [e]; rfl)
    simp only [World.setCell, Array.getElem?_modify]; rw [if_neg hne]
  refine ⟨by rw [List.map_set, List.length_set]; exact h1, fun q hq => ?_⟩
  rcases List.mem_or_eq_of_mem_set hq with hq | rfl
  · exact key q (h.el q hq)
  · exact key _ hp
end Go.Proofs.YtljhccolmcoifaaGreat
