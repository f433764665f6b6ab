/-
  MathE, PolS, PolT, AsmA
-/
import Derived.Test.YtoopomjkapeknaaQ05
import Derived.Test.YtoopomjkapeknaaQ07
import Derived.Test.YtoopomjkapeknaaQ01
import Derived.Test.YtoopomjkapeknaaQ04
namespace Go.Proofs.Ytoopomjkapeknaa
set_option linter.unusedVariables false

/-- an entry: its two numbers and its rules -/
structure E where
  arch : Int
  nr : Int
  rules : List (List K)

def E.zero : E := ⟨0, 0, []⟩
def okR (r : List K) : Prop := ∀ c ∈ r, c.ok
def okRs (l : List (List K)) : Prop := ∀ r ∈ l, okR r
def E.ok (e : E) : Prop := (0 ≤ e.arch ∧ e.arch ≤ 4294967295) ∧ (0 ≤ e.nr ∧ e.nr ≤ 4294967295) ∧ okRs e.rules
def okP (p : List E) : Prop := ∀ e ∈ p, e.ok
theorem E.zero_ok : E.zero.ok := ⟨⟨by decide, by decide⟩, ⟨by decide, by decide⟩, fun r h => by simp [E.zero] at h⟩

theorem okR_at {r : List K} (h : okR r) (i : Nat) : (r.getD i K.zero).ok := by
  by_cases hi : i < r.length
  · rw [List.getD_eq_getElem?_getD, List.getElem?_eq_getElem hi]; exact h _ (List.getElem_mem hi)
  · rw [List.getD_eq_getElem?_getD, List.getElem?_eq_none (by omega)]; exact K.zero_ok
theorem okRs_at {l : List (List K)} (h : okRs l) (i : Nat) : okR (l.getD i []) := by
  by_cases hi : i < l.length
  · rw [List.getD_eq_getElem?_getD, List.getElem?_eq_getElem hi]; exact h _ (List.getElem_mem hi)
  · rw [List.getD_eq_getElem?_getD, List.getElem?_eq_none (by omega)]; intro c hc; simp at hc
theorem okP_at {p : List E} (h : okP p) (i : Nat) : (p.getD i E.zero).ok := by
  by_cases hi : i < p.length
  · rw [List.getD_eq_getElem?_getD, List.getElem?_eq_getElem hi]; exact h _ (List.getElem_mem hi)
  · rw [List.getD_eq_getElem?_getD, List.getElem?_eq_none (by omega)]; exact E.zero_ok

def validR (r : List K) : Bool := r.length == 6 && r.all validK
def validE (e : E) : Bool := decide (1 ≤ e.rules.length) && decide (e.rules.length ≤ 200) && e.rules.all validR
def befE (a b : E) : Bool := decide (a.arch < b.arch) || (a.arch == b.arch && decide (a.nr < b.nr))
def stepOk (p : List E) (i : Nat) : Bool := (i == 0 || befE (p.getD (i - 1) E.zero) (p.getD i E.zero)) && validE (p.getD i E.zero)
def totalR : List E → Nat
  | [] => 0
  | e :: p => e.rules.length + totalR p
def validP (p : List E) : Bool := (List.range p.length).all (stepOk p) && decide (totalR p ≤ 1000)

theorem all_getD {α : Type} (d : α) (f : α → Bool) (l : List α) : l.all f = true ↔ ∀ i, i < l.length → f (l.getD i d) = true := by
  rw [List.all_eq_true]
  constructor
  · intro h i hi
    rw [List.getD_eq_getElem?_getD, List.getElem?_eq_getElem hi]; exact h _ (List.getElem_mem hi)
  · intro h x hx
    obtain ⟨i, hi, rfl⟩ := List.getElem_of_mem hx
    have := h i hi
    rw [List.getD_eq_getElem?_getD, List.getElem?_eq_getElem hi] at this; exact this
theorem all_no {α : Type} {d : α} {f : α → Bool} {l : List α} {i : Nat} (hi : i < l.length) (h : f (l.getD i d) = false) : l.all f = false := by
  cases hc : l.all f with
  | false => rfl
  | true => rw [(all_getD d f l).1 hc i hi] at h; exact absurd h (by decide)
theorem any_getD {α : Type} (d : α) (f : α → Bool) (l : List α) : l.any f = true ↔ ∃ i, i < l.length ∧ f (l.getD i d) = true := by
  rw [List.any_eq_true]
  constructor
  · rintro ⟨x, hx, h⟩
    obtain ⟨i, hi, rfl⟩ := List.getElem_of_mem hx
    exact ⟨i, hi, by rw [List.getD_eq_getElem?_getD, List.getElem?_eq_getElem hi]; exact h⟩
  · rintro ⟨i, hi, h⟩
    rw [List.getD_eq_getElem?_getD, List.getElem?_eq_getElem hi] at h
    exact ⟨_, List.getElem_mem hi, h⟩
theorem any_no {α : Type} {d : α} {f : α → Bool} {l : List α} (h : ∀ i, i < l.length → f (l.getD i d) = false) : l.any f = false := by
  cases hc : l.any f with
  | false => rfl
  | true =>
    obtain ⟨i, hi, h1⟩ := (any_getD d f l).1 hc
    rw [h i hi] at h1; exact absurd h1 (by decide)

theorem validP_no {p : List E} {i : Nat} (hi : i < p.length) (h : stepOk p i = false) : validP p = false := by
  have : (List.range p.length).all (stepOk p) = false := by
    cases hc : (List.range p.length).all (stepOk p) with
    | false => rfl
    | true =>
      rw [List.all_eq_true] at hc
      rw [hc i (List.mem_range.2 hi)] at h; exact absurd h (by decide)
  rw [validP, this, Bool.false_and]
theorem validP_yes {p : List E} (h : ∀ i, i < p.length → stepOk p i = true) : validP p = decide (totalR p ≤ 1000) := by
  have : (List.range p.length).all (stepOk p) = true := by
    rw [List.all_eq_true]; intro i hi; exact h i (List.mem_range.1 hi)
  rw [validP, this, Bool.true_and]
theorem validP_step {p : List E} (h : validP p = true) {i : Nat} (hi : i < p.length) : stepOk p i = true := by
  rw [validP, Bool.and_eq_true, List.all_eq_true] at h
  exact h.1 i (List.mem_range.2 hi)
theorem totalR_append (p q : List E) : totalR (p ++ q) = totalR p + totalR q := by
  induction p with
  | nil => simp [totalR]
  | cons e p ih => simp only [List.cons_append, totalR, ih]; omega
theorem totalR_take {p : List E} {k : Nat} (h : k < p.length) : totalR (p.take (k + 1)) = totalR (p.take k) + (p.getD k E.zero).rules.length := by
  have e : p.take (k + 1) = p.take k ++ [p.getD k E.zero] := by
    rw [List.take_add_one, List.getElem?_eq_getElem h, List.getD_eq_getElem?_getD, List.getElem?_eq_getElem h]; rfl
  rw [e, totalR_append]; simp [totalR]

/-- entries of a valid policy come in order -/
theorem befE_trans {a b c : E} (h : befE a b = true) (h' : befE b c = true) : befE a c = true := by
  simp only [befE, Bool.or_eq_true, Bool.and_eq_true, decide_eq_true_eq, beq_iff_eq] at *
  omega
theorem befE_of_valid {p : List E} (h : validP p = true) : ∀ {i j : Nat}, i < j → j < p.length → befE (p.getD i E.zero) (p.getD j E.zero) = true := by
  intro i j hij hj
  obtain ⟨m, rfl⟩ : ∃ m, j = i + 1 + m := ⟨j - (i + 1), by omega⟩
  clear hij
  have step : ∀ k, k + 1 < p.length → befE (p.getD k E.zero) (p.getD (k + 1) E.zero) = true := fun k hk => by
    have := validP_step h hk
    rw [stepOk, Bool.and_eq_true, Bool.or_eq_true] at this
    rcases this.1 with h1 | h1
    · simp at h1
    · exact h1
  induction m with
  | zero => exact step i hj
  | succ m ih =>
    exact befE_trans (ih (by omega)) (step (i + 1 + m) hj)

def ruleHolds (r : List K) (args : List Int) : Bool := (List.range 6).all fun i => holdsK (r.getD i K.zero) (args.getD i 0).toNat
def meets (e : E) (c : C) : Bool := e.arch == c.arch && e.nr == c.nr
def allowsP (p : List E) (c : C) : Bool := validP p && (c.args.length == 6) && p.any fun e => meets e c && e.rules.any fun r => ruleHolds r c.args

theorem meets_once {p : List E} {c : C} (h : validP p = true) {i j : Nat} (hi : i < p.length) (hj : j < p.length) (m1 : meets (p.getD i E.zero) c = true) (m2 : meets (p.getD j E.zero) c = true) : i = j := by
  have key : ∀ {i j : Nat}, i < j → j < p.length → meets (p.getD i E.zero) c = true → meets (p.getD j E.zero) c = true → False := by
    intro i j hij hj m1 m2
    have hb := befE_of_valid h hij hj
    simp only [befE, meets, Bool.or_eq_true, Bool.and_eq_true, decide_eq_true_eq, beq_iff_eq] at *
    omega
  rcases Nat.lt_trichotomy i j with h1 | h1 | h1
  · exact (key h1 hj m1 m2).elim
  · exact h1
  · exact (key h1 hi m2 m1).elim
theorem allows_first {p : List E} {c : C} (h : validP p = true) {i : Nat} (hi : i < p.length) (hm : meets (p.getD i E.zero) c = true) :
    (p.any fun e => meets e c && e.rules.any fun r => ruleHolds r c.args) = (p.getD i E.zero).rules.any fun r => ruleHolds r c.args := by
  rw [Bool.eq_iff_iff, any_getD E.zero]
  constructor
  · rintro ⟨j, hj, h1⟩
    rw [Bool.and_eq_true] at h1
    have := meets_once h hi hj hm h1.1
    subst this
    exact h1.2
  · intro h1
    exact ⟨i, hi, by rw [hm, Bool.true_and]; exact h1⟩
theorem ruleHolds_no {r : List K} {args : List Int} {i : Nat} (hi : i < 6) (h : holdsK (r.getD i K.zero) (args.getD i 0).toNat = false) : ruleHolds r args = false := by
  cases hc : ruleHolds r args with
  | false => rfl
  | true =>
    rw [ruleHolds, List.all_eq_true] at hc
    rw [hc i (List.mem_range.2 hi)] at h; exact absurd h (by decide)
theorem ruleHolds_yes {r : List K} {args : List Int} (h : ∀ i, i < 6 → holdsK (r.getD i K.zero) (args.getD i 0).toNat = true) : ruleHolds r args = true := by
  rw [ruleHolds, List.all_eq_true]; intro i hi; exact h i (List.mem_range.1 hi)
end Go.Proofs.Ytoopomjkapeknaa
namespace Go.Proofs.Ytoopomjkapeknaa
open Go.RowKit
set_option linter.unusedVariables false

/-- elements of k cells each, one behind another -/
def LAt {α : Type} (k : Nat) (P : World → Nat → Nat → α → Prop) (w : World) (b o : Nat) (l : List α) : Prop := ∀ i (h : i < l.length), P w b (o + i * k) l[i]
/-- a slice of them: empty, or at an address -/
def LSrc {α : Type} (k : Nat) (P : World → Nat → Nat → α → Prop) (w : World) (a : Option Addr) (l : List α) : Prop := l = [] ∨ ∃ b o, a = some ⟨b, o, none⟩ ∧ b < w.heap.size ∧ LAt k P w b o l
/-- it stays where what was there is left alone -/
def Stays {α : Type} (P : World → Nat → Nat → α → Prop) : Prop := ∀ w w' b o x, b < w.heap.size → Below w.heap.size w w' → P w b o x → P w' b o x

theorem LSrc.below {α : Type} {k : Nat} {P : World → Nat → Nat → α → Prop} (hP : Stays P) {w w' : World} {a : Option Addr} {l : List α} (h : LSrc k P w a l) (hb : Below w.heap.size w w') : LSrc k P w' a l := by
  rcases h with h | ⟨b, o, ha, hlt, hc⟩
  · exact .inl h
  · exact .inr ⟨b, o, ha, Nat.lt_of_lt_of_le hlt hb.size, fun i hi => hP _ _ _ _ _ hlt hb (hc i hi)⟩

def PK (w : World) (b o : Nat) (c : K) : Prop := w.cell? ⟨b, o, none⟩ = some (.int .i64 c.kind) ∧ w.cell? ⟨b, o + 1, none⟩ = some (.int .u64 (c.a : Int)) ∧ w.cell? ⟨b, o + 2, none⟩ = some (.int .u64 (c.b : Int))
def PR (w : World) (b o : Nat) (r : List K) : Prop := ∃ a cap, w.cell? ⟨b, o, none⟩ = some (.slice a r.length cap) ∧ LSrc 3 PK w a r
def PE (w : World) (b o : Nat) (e : E) : Prop := w.cell? ⟨b, o, none⟩ = some (.int .u32 e.arch) ∧ w.cell? ⟨b, o + 1, none⟩ = some (.int .u32 e.nr) ∧ ∃ a cap, w.cell? ⟨b, o + 2, none⟩ = some (.slice a e.rules.length cap) ∧ LSrc 1 PR w a e.rules

theorem PK.stays : Stays PK := fun w w' b o x hlt hb ⟨h0, h1, h2⟩ => ⟨(hb.cell (p := ⟨b, _, none⟩) hlt).trans h0, (hb.cell (p := ⟨b, _, none⟩) hlt).trans h1, (hb.cell (p := ⟨b, _, none⟩) hlt).trans h2⟩
theorem PR.stays : Stays PR := fun w w' b o x hlt hb ⟨a, cap, h0, h1⟩ => ⟨a, cap, (hb.cell (p := ⟨b, _, none⟩) hlt).trans h0, h1.below PK.stays hb⟩
theorem PE.stays : Stays PE := fun w w' b o x hlt hb ⟨h0, h1, a, cap, h2, h3⟩ => ⟨(hb.cell (p := ⟨b, _, none⟩) hlt).trans h0, (hb.cell (p := ⟨b, _, none⟩) hlt).trans h1, a, cap, (hb.cell (p := ⟨b, _, none⟩) hlt).trans h2, h3.below PR.stays hb⟩

theorem LSrc.at {α : Type} {k : Nat} {P : World → Nat → Nat → α → Prop} {w : World} {a : Option Addr} {l : List α} (h : LSrc k P w a l) {i : Nat} (hi : i < l.length) (d : α) : ∃ b o, a = some ⟨b, o, none⟩ ∧ b < w.heap.size ∧ P w b (o + i * k) (l.getD i d) := by
  rcases h with rfl | ⟨b, o, h1, h2, h3⟩
  · simp at hi
  · refine ⟨b, o, h1, h2, ?_⟩
    rw [List.getD_eq_getElem?_getD, List.getElem?_eq_getElem hi]
    exact h3 i hi
theorem LSrc.addr {α : Type} {k : Nat} {P : World → Nat → Nat → α → Prop} {w : World} {a : Option Addr} {l : List α} (h : LSrc k P w a l) (hn : l ≠ []) : ∃ b o, a = some ⟨b, o, none⟩ ∧ b < w.heap.size ∧ LAt k P w b o l := by
  rcases h with h | h
  · exact absurd h hn
  · exact h
theorem LAt.get {α : Type} {k : Nat} {P : World → Nat → Nat → α → Prop} {w : World} {b o : Nat} {l : List α} (h : LAt k P w b o l) {i : Nat} (hi : i < l.length) (d : α) : P w b (o + i * k) (l.getD i d) := by
  rw [List.getD_eq_getElem?_getD, List.getElem?_eq_getElem hi]; exact h i hi
theorem LAt.below {α : Type} {k : Nat} {P : World → Nat → Nat → α → Prop} (hP : Stays P) {w w' : World} {b o : Nat} {l : List α} (h : LAt k P w b o l) (hlt : b < w.heap.size) (hb : Below w.heap.size w w') : LAt k P w' b o l := fun i hi => hP _ _ _ _ _ hlt hb (h i hi)

/-- one cell's box -/
theorem box1 (w : World) (t : TypeId) (x : Value) : (w.alloc (.cells #[x] t)).cell? ⟨w.heap.size, 0, none⟩ = some x := by simp

set_option maxRecDepth 100000 in
set_option maxHeartbeats 2000000 in
theorem ruleOK_any (r : List K) (a : Option Addr) (cap : Nat) (w : World) (hs : LSrc 3 PK w a r) (ho : okR r) (hn : r.length ≤ 16777216) :
    Calls Try.prog 25 #[.agg #[.slice a r.length cap]] w fun e w' => e = .returned (.bool (validR r)) ∧ Below w.heap.size w w' := by
  by_cases h6 : r.length = 6
  · have HC : Hid (∀ i w, Calls Try.prog 48 #[conV (r.getD i K.zero)] w fun e w' => e = .returned (.bool (validK (r.getD i K.zero))) ∧ Below w.heap.size w w') := fun i w => l3conOK_any _ w (okR_at ho i)
    have HY : Hid ((∀ i, i < 6 → validK (r.getD i K.zero) = true) → validR r = true) := fun h => by
      rw [validR, h6]; simp only [beq_self_eq_true, Bool.true_and]
      exact (all_getD K.zero validK r).2 (fun i hi => h i (by omega))
    have HF : Hid (∀ i, i < 6 → validK (r.getD i K.zero) = false → validR r = false) := fun i hi h => by
      rw [validR, all_no (d := K.zero) (by omega : i < r.length) h, Bool.and_false]
    obtain ⟨b, o, rfl, hlt, hp⟩ := hs.addr (by intro e; rw [e] at h6; simp at h6)
    have HP : Hid (∀ wr, Below w.heap.size w wr → ∀ i, i < 6 → PK wr b (o + i * 3) (r.getD i K.zero)) := fun wr hB i hi => PK.stays _ _ _ _ _ hlt hB (hp.get (by omega) K.zero)
    rw [h6]
    obtain ⟨V, hV⟩ : ∃ V, validR r = V := ⟨_, rfl⟩
    rw [hV] at HY HF ⊢
    clear hV hs hp h6 hn
    have B : Below w.heap.size w (w.alloc (.cells #[.slice (some ⟨b, o, none⟩) 6 cap] 64)) := (Below.refl _ _).alloc (Nat.le_refl _) _
    have x0 := box1 w 64 (.slice (some ⟨b, o, none⟩) 6 cap)
    go_enter Try.func25, Try.ntmps25
    go_wp2_with fail
    go_loopw [3] (fun i wr => ∃ k : Nat, k ≤ 6 ∧ i = .int .i64 k ∧ Hid (∀ j, j < k → validK (r.getD j K.zero) = true) ∧ wr.cell? ⟨w.heap.size, 0, none⟩ = some (.slice (some ⟨b, o, none⟩) 6 cap) ∧ Below w.heap.size w wr) (fun i _ => 6 - (intOf i).toNat)
    case atStart => exact ⟨0, by omega, rfl, fun j hj => by omega, x0, B⟩
    case round =>
      clear B x0
      obtain ⟨k, hk, rfl, HJ, x0, B⟩ := hrel
      by_cases hk6 : k < 6
      · obtain ⟨c0, c1, c2⟩ := HP.out wr B k hk6
        have HC1 : Hid (∀ w, Calls Try.prog 48 #[conV (r.getD k K.zero)] w fun e w' => e = .returned (.bool (validK (r.getD k K.zero))) ∧ Below w.heap.size w w') := HC.out k
        have HF1 : Hid (validK (r.getD k K.zero) = false → V = false) := HF.out k hk6
        have HJ1 : Hid (validK (r.getD k K.zero) = true → ∀ j, j < k + 1 → validK (r.getD j K.zero) = true) := fun h j hj => by
          by_cases hjk : j = k
          · subst hjk; exact h
          · exact HJ.out j (by omega)
        have hk6' : (k : Int) < 6 := by omega
        generalize r.getD k K.zero = c at *
        obtain ⟨ck, ca, cb⟩ := c
        simp only at c0 c1 c2
        simp only [conV] at HC1
        generalize validK ⟨ck, ca, cb⟩ = Q at *
        clear HC HF HP HJ
        go_wp2_with fail
        refine (HC1.out _).mono ?_
        rintro _ w1 ⟨rfl, hb1⟩
        have B1 := below_step hb1 B
        have x1 := cell_step hb1 x0
        clear hb1 x0 c0 c1 c2
        cases Q with
        | false =>
          have hVf : V = false := HF1.out (by first | rfl | trivial)
          subst hVf
          go_wp2
          go_ret
          exact ⟨rfl, B1⟩
        | true =>
          have HJ2 : Hid (∀ j, j < k + 1 → validK (r.getD j K.zero) = true) := HJ1.out (by first | rfl | trivial)
          go_wp2
          go_roundw
          case rel => exact ⟨k + 1, by omega, by go_num, HJ2, x1, B1⟩
          case measure => simp [intOf]; omega
      · have hk' : k = 6 := by omega
        subst hk'
        have hVt : V = true := HY.out HJ.out
        subst hVt
        go_wp2
        go_ret
        exact ⟨rfl, B⟩
  · have hV : validR r = false := by rw [validR]; simp [h6]
    rw [hV]
    have B : Below w.heap.size w (w.alloc (.cells #[.slice a r.length cap] 64)) := (Below.refl _ _).alloc (Nat.le_refl _) _
    have e6 : ((r.length : Int) != 6) = true := by rw [bne_iff_ne]; omega
    clear hs ho hV h6
    generalize r.length = n at *
    go_enter Try.func25, Try.ntmps25
    go_wp2
    go_ret
    exact ⟨rfl, B⟩
end Go.Proofs.Ytoopomjkapeknaa
namespace Go.Proofs.Ytoopomjkapeknaa
open Go.RowKit
set_option linter.unusedVariables false

/-- a slice whose row lies in a block from L on -/
def LSrcG {α : Type} (L k : Nat) (P : World → Nat → Nat → α → Prop) (w : World) (a : Option Addr) (l : List α) : Prop := l = [] ∨ ∃ b o, a = some ⟨b, o, none⟩ ∧ L ≤ b ∧ b < w.heap.size ∧ LAt k P w b o l
/-- a condition in cells that may be written -/
def PKF (w : World) (b o : Nat) (c : K) : Prop := PK w b o c ∧ w.frozen? ⟨b, o, none⟩ = false ∧ w.frozen? ⟨b, o + 1, none⟩ = false ∧ w.frozen? ⟨b, o + 2, none⟩ = false
theorem PKF.stays : Stays PKF := fun w w' b o x hlt hb ⟨h0, h1, h2, h3⟩ => ⟨PK.stays _ _ _ _ _ hlt hb h0, (hb.frozen (p := ⟨b, _, none⟩) hlt).trans h1, (hb.frozen (p := ⟨b, _, none⟩) hlt).trans h2, (hb.frozen (p := ⟨b, _, none⟩) hlt).trans h3⟩
def PRG (L : Nat) (w : World) (b o : Nat) (r : List K) : Prop := ∃ a cap, w.cell? ⟨b, o, none⟩ = some (.slice a r.length cap) ∧ LSrcG L 3 PKF w a r
def PEG (L : Nat) (w : World) (b o : Nat) (e : E) : Prop := w.cell? ⟨b, o, none⟩ = some (.int .u32 e.arch) ∧ w.cell? ⟨b, o + 1, none⟩ = some (.int .u32 e.nr) ∧ (w.frozen? ⟨b, o, none⟩ = false ∧ w.frozen? ⟨b, o + 1, none⟩ = false) ∧ ∃ a cap, w.cell? ⟨b, o + 2, none⟩ = some (.slice a e.rules.length cap) ∧ LSrcG L 1 (PRG L) w a e.rules ∧ e.rules.length ≤ cap

theorem LSrcG.plain {α : Type} {L k : Nat} {P Q : World → Nat → Nat → α → Prop} {w : World} {a : Option Addr} {l : List α} (h : LSrcG L k P w a l) (hPQ : ∀ b o x, P w b o x → Q w b o x) : LSrc k Q w a l := by
  rcases h with h | ⟨b, o, h1, _, h2, h3⟩
  · exact .inl h
  · exact .inr ⟨b, o, h1, h2, fun i hi => hPQ _ _ _ (h3 i hi)⟩
theorem PRG.plain {L : Nat} {w : World} {b o : Nat} {r : List K} (h : PRG L w b o r) : PR w b o r := by
  obtain ⟨a, cap, h0, h1⟩ := h
  exact ⟨a, cap, h0, h1.plain fun _ _ _ h => h.1⟩
theorem PEG.plain {L : Nat} {w : World} {b o : Nat} {e : E} (h : PEG L w b o e) : PE w b o e := by
  obtain ⟨h0, h1, _, a, cap, h2, h3, _⟩ := h
  exact ⟨h0, h1, a, cap, h2, h3.plain fun _ _ _ h => h.plain⟩
theorem LSrcG.below {α : Type} {L k : Nat} {P : World → Nat → Nat → α → Prop} (hP : Stays P) {w w' : World} {a : Option Addr} {l : List α} (h : LSrcG L k P w a l) (hb : Below w.heap.size w w') : LSrcG L k P w' a l := by
  rcases h with h | ⟨b, o, ha, hL, hlt, hc⟩
  · exact .inl h
  · exact .inr ⟨b, o, ha, hL, Nat.lt_of_lt_of_le hlt hb.size, fun i hi => hP _ _ _ _ _ hlt hb (hc i hi)⟩
theorem PRG.stays (L : Nat) : Stays (PRG L) := fun w w' b o x hlt hb ⟨a, cap, h0, h1⟩ => ⟨a, cap, (hb.cell (p := ⟨b, _, none⟩) hlt).trans h0, h1.below PKF.stays hb⟩
theorem PEG.stays (L : Nat) : Stays (PEG L) := fun w w' b o x hlt hb ⟨h0, h1, f, a, cap, h2, h3, h4⟩ => ⟨(hb.cell (p := ⟨b, _, none⟩) hlt).trans h0, (hb.cell (p := ⟨b, _, none⟩) hlt).trans h1, ⟨(hb.frozen (p := ⟨b, _, none⟩) hlt).trans f.1, (hb.frozen (p := ⟨b, _, none⟩) hlt).trans f.2⟩, a, cap, (hb.cell (p := ⟨b, _, none⟩) hlt).trans h2, h3.below (PRG.stays L) hb, h4⟩
theorem LSrcG.mono {α : Type} {L L' k : Nat} {P Q : World → Nat → Nat → α → Prop} {w : World} {a : Option Addr} {l : List α} (h : LSrcG L k P w a l) (hL : L' ≤ L) (hPQ : ∀ b o x, P w b o x → Q w b o x) : LSrcG L' k Q w a l := by
  rcases h with h | ⟨b, o, h1, h4, h2, h3⟩
  · exact .inl h
  · exact .inr ⟨b, o, h1, Nat.le_trans hL h4, h2, fun i hi => hPQ _ _ _ (h3 i hi)⟩
theorem PRG.mono {L L' : Nat} {w : World} {b o : Nat} {r : List K} (h : PRG L w b o r) (hL : L' ≤ L) : PRG L' w b o r := by
  obtain ⟨a, cap, h0, h1⟩ := h
  exact ⟨a, cap, h0, h1.mono hL fun _ _ _ h => h⟩
theorem PEG.mono {L L' : Nat} {w : World} {b o : Nat} {e : E} (h : PEG L w b o e) (hL : L' ≤ L) : PEG L' w b o e := by
  obtain ⟨h0, h1, f, a, cap, h2, h3, h4⟩ := h
  exact ⟨h0, h1, f, a, cap, h2, h3.mono hL fun _ _ _ h => h.mono hL, h4⟩

/-- a store into another block -/
theorem cell_far {w : World} {D i b o : Nat} {v x : Value} (hne : D ≠ b) (h : w.cell? ⟨b, o, none⟩ = some x) : (w.setCell ⟨D, i, none⟩ v).cell? ⟨b, o, none⟩ = some x := by
  have e : (w.setCell ⟨D, i, none⟩ v).cell? ⟨b, o, none⟩ = w.cell? ⟨b, o, none⟩ := by
    apply World.cell?_setCell_other
    intro e; apply hne; injection e
  rw [e]; exact h
/-- a store into another cell of the block -/
theorem cell_near {w : World} {D i o : Nat} {v x : Value} (hne : i ≠ o) (h : w.cell? ⟨D, o, none⟩ = some x) : (w.setCell ⟨D, i, none⟩ v).cell? ⟨D, o, none⟩ = some x := by
  have e : (w.setCell ⟨D, i, none⟩ v).cell? ⟨D, o, none⟩ = w.cell? ⟨D, o, none⟩ := by
    apply World.cell?_setCell_other
    intro e; apply hne; injection e
  rw [e]; exact h
theorem PK.far {w : World} {D i b o : Nat} {v : Value} {c : K} (hne : D ≠ b) (h : PK w b o c) : PK (w.setCell ⟨D, i, none⟩ v) b o c := ⟨cell_far hne h.1, cell_far hne h.2.1, cell_far hne h.2.2⟩
theorem frz_set {w : World} {D i : Nat} {v : Value} {p : Addr} (h : w.frozen? p = false) : (w.setCell ⟨D, i, none⟩ v).frozen? p = false := by simp [h]
theorem PKF.far {w : World} {D i b o : Nat} {v : Value} {c : K} (hne : D ≠ b) (h : PKF w b o c) : PKF (w.setCell ⟨D, i, none⟩ v) b o c := ⟨h.1.far hne, frz_set h.2.1, frz_set h.2.2.1, frz_set h.2.2.2⟩
theorem LSrcG.far {α : Type} {L k D i : Nat} {v : Value} {P : World → Nat → Nat → α → Prop} {w : World} {a : Option Addr} {l : List α} (h : LSrcG L k P w a l) (hP : ∀ b o x, L ≤ b → P w b o x → P (w.setCell ⟨D, i, none⟩ v) b o x) : LSrcG L k P (w.setCell ⟨D, i, none⟩ v) a l := by
  rcases h with h | ⟨b, o, h1, h4, h2, h3⟩
  · exact .inl h
  · exact .inr ⟨b, o, h1, h4, by simp; exact h2, fun j hj => hP _ _ _ h4 (h3 j hj)⟩
theorem PRG.far {L D i b o : Nat} {v : Value} {w : World} {r : List K} (hD : D < L) (hne : D ≠ b) (h : PRG L w b o r) : PRG L (w.setCell ⟨D, i, none⟩ v) b o r := by
  obtain ⟨a, cap, h0, h1⟩ := h
  exact ⟨a, cap, cell_far hne h0, h1.far fun b o x hL hx => hx.far (by omega)⟩
theorem PRG.rules_far {L D i : Nat} {v : Value} {w : World} {a : Option Addr} {l : List (List K)} (hD : D < L) (h : LSrcG L 1 (PRG L) w a l) : LSrcG L 1 (PRG L) (w.setCell ⟨D, i, none⟩ v) a l := h.far fun b o x hL hx => hx.far hD (by omega)

/-- an element of the row D is left alone by a store into another element -/
def Apart {α : Type} (sz D : Nat) (P : World → Nat → Nat → α → Prop) : Prop := ∀ w o x c v, P w D o x → (c < o ∨ o + sz ≤ c) → P (w.setCell ⟨D, c, none⟩ v) D o x
theorem PK.apart (D : Nat) : Apart 3 D PK := fun w o x c v h hc => ⟨cell_near (by omega) h.1, cell_near (by omega) h.2.1, cell_near (by omega) h.2.2⟩
theorem PRG.apart (D : Nat) : Apart 1 D (PRG (D + 1)) := fun w o x c v h hc => by
  obtain ⟨a, cap, h0, h1⟩ := h
  exact ⟨a, cap, cell_near (by omega) h0, h1.far fun b o x hL hx => hx.far (by omega)⟩
theorem PEG.apart (D : Nat) : Apart 3 D (PEG (D + 1)) := fun w o x c v h hc => by
  obtain ⟨h0, h1, f, a, cap, h2, h3, h4⟩ := h
  exact ⟨cell_near (by omega) h0, cell_near (by omega) h1, ⟨frz_set f.1, frz_set f.2⟩, a, cap, cell_near (by omega) h2, PRG.rules_far (by omega) h3, h4⟩

/-- a row of N elements of which the first k are laid -/
structure Upt {α : Type} (sz : Nat) (P : World → Nat → Nat → α → Prop) (w : World) (D N : Nat) (l : List α) (d : α) (k : Nat) : Prop where
  lt : D < w.heap.size
  own : ∀ c, c < N * sz → (∃ v, w.cell? ⟨D, c, none⟩ = some v) ∧ w.frozen? ⟨D, c, none⟩ = false
  el : ∀ j, j < k → P w D (j * sz) (l.getD j d)
theorem Upt.keep {α : Type} {sz : Nat} {P : World → Nat → Nat → α → Prop} (hP : Stays P) {w w' : World} {D N : Nat} {l : List α} {d : α} {k : Nat} (h : Upt sz P w D N l d k) (hb : Below w.heap.size w w') : Upt sz P w' D N l d k :=
  ⟨Nat.lt_of_lt_of_le h.lt hb.size, fun c hc => ⟨by obtain ⟨v, hv⟩ := (h.own c hc).1; exact ⟨v, (hb.cell (p := ⟨D, c, none⟩) h.lt).trans hv⟩, (hb.frozen (p := ⟨D, c, none⟩) h.lt).trans (h.own c hc).2⟩, fun j hj => hP _ _ _ _ _ h.lt hb (h.el j hj)⟩
theorem Upt.set {α : Type} {sz D : Nat} {P : World → Nat → Nat → α → Prop} (hA : Apart sz D P) {w : World} {N : Nat} {l : List α} {d : α} {k c : Nat} (h : Upt sz P w D N l d k) (hc : k * sz ≤ c) (v : Value) : Upt sz P (w.setCell ⟨D, c, none⟩ v) D N l d k := by
  refine ⟨by simp; exact h.lt, fun i hi => ?_, fun j hj => hA _ _ _ _ _ (h.el j hj) (.inr ?_)⟩
  · obtain ⟨⟨u, hu⟩, hf⟩ := h.own i hi
    refine ⟨?_, by simp [hf]⟩
    by_cases e : c = i
    · subst e; exact ⟨v, World.cell?_setCell_same' w _ v (by rw [hu]; rfl)⟩
    · exact ⟨u, cell_near e hu⟩
  · have : (j + 1) * sz ≤ k * sz := Nat.mul_le_mul_right _ hj
    rw [Nat.add_mul] at this; omega
theorem Upt.next {α : Type} {sz D : Nat} {P : World → Nat → Nat → α → Prop} {w : World} {N : Nat} {l : List α} {d : α} {k : Nat} (h : Upt sz P w D N l d k) (hk : P w D (k * sz) (l.getD k d)) : Upt sz P w D N l d (k + 1) :=
  ⟨h.lt, h.own, fun j hj => by
    by_cases e : j = k
    · subst e; exact hk
    · exact h.el j (by omega)⟩
theorem Upt.new {α : Type} {sz : Nat} {P : World → Nat → Nat → α → Prop} (w : World) (cs : Array Value) (t : TypeId) (N : Nat) (l : List α) (d : α) (hs : cs.size = N * sz) : Upt sz P (w.alloc (.cells cs t)) w.heap.size N l d 0 := by
  have hr := World.rowIs_alloc w cs t (fun i => cs.getD i undef) (fun i h => by simp [h])
  rw [hs] at hr
  exact ⟨hr.lt, fun c hc => ⟨⟨_, hr.cell hc⟩, hr.frozen c⟩, fun j hj => by omega⟩
theorem Upt.all {α : Type} {sz : Nat} {P : World → Nat → Nat → α → Prop} {w : World} {D : Nat} {l : List α} {d : α} {N : Nat} (h : Upt sz P w D N l d l.length) : LAt sz P w D 0 l := fun i hi => by
  have := h.el i hi
  rw [List.getD_eq_getElem?_getD, List.getElem?_eq_getElem hi] at this
  rw [Nat.zero_add]; exact this
end Go.Proofs.Ytoopomjkapeknaa
namespace Go.Proofs.Ytoopomjkapeknaa
open Go.RowKit
set_option linter.unusedVariables false

structure It where
  kind : Int
  ins : I
  target : Int
def It.zero : It := ⟨0, I.zero, 0⟩
def It.ok (x : It) : Prop := x.ins.ok ∧ (-9223372036854775808 ≤ x.kind ∧ x.kind ≤ 9223372036854775807) ∧ (-9223372036854775808 ≤ x.target ∧ x.target ≤ 9223372036854775807)
abbrev itV (x : It) : Value := .agg #[.int .i64 x.kind, .int .u16 x.ins.c, .int .u8 x.ins.jt, .int .u8 x.ins.jf, .int .u32 x.ins.k, .int .i64 x.target]
def itC (x : It) : List Value := [.int .i64 x.kind, .int .u16 x.ins.c, .int .u8 x.ins.jt, .int .u8 x.ins.jf, .int .u32 x.ins.k, .int .i64 x.target]
def itCs (l : List It) : List Value := l.flatMap itC
/-- one item at an address -/
def PI (w : World) (b o : Nat) (x : It) : Prop := w.cell? ⟨b, o, none⟩ = some (.int .i64 x.kind) ∧ w.cell? ⟨b, o + 1, none⟩ = some (.int .u16 x.ins.c) ∧ w.cell? ⟨b, o + 2, none⟩ = some (.int .u8 x.ins.jt) ∧ w.cell? ⟨b, o + 3, none⟩ = some (.int .u8 x.ins.jf) ∧ w.cell? ⟨b, o + 4, none⟩ = some (.int .u32 x.ins.k) ∧ w.cell? ⟨b, o + 5, none⟩ = some (.int .i64 x.target)
theorem PI.stays : Stays PI := fun w w' b o x hlt hb ⟨h0, h1, h2, h3, h4, h5⟩ => ⟨(hb.cell (p := ⟨b, _, none⟩) hlt).trans h0, (hb.cell (p := ⟨b, _, none⟩) hlt).trans h1, (hb.cell (p := ⟨b, _, none⟩) hlt).trans h2, (hb.cell (p := ⟨b, _, none⟩) hlt).trans h3, (hb.cell (p := ⟨b, _, none⟩) hlt).trans h4, (hb.cell (p := ⟨b, _, none⟩) hlt).trans h5⟩
theorem PI.apart (D : Nat) : Apart 6 D PI := fun w o x c v h hc => ⟨cell_near (by omega) h.1, cell_near (by omega) h.2.1, cell_near (by omega) h.2.2.1, cell_near (by omega) h.2.2.2.1, cell_near (by omega) h.2.2.2.2.1, cell_near (by omega) h.2.2.2.2.2⟩
theorem itCs_len (l : List It) : (itCs l).length = l.length * 6 := by
  induction l with
  | nil => rfl
  | cons x l ih => simp only [itCs, List.flatMap_cons, List.length_append, List.length_cons] at *; simp only [itC, List.length_cons, List.length_nil]; omega
theorem itCs_get (l : List It) (i : Nat) (h : i < l.length) (f : Nat) (hf : f < 6) : (itCs l)[i * 6 + f]? = (itC l[i])[f]? := by
  induction l generalizing i with
  | nil => simp at h
  | cons x p ih =>
    have e : itCs (x :: p) = itC x ++ itCs p := by simp [itCs]
    have hl : (itC x).length = 6 := rfl
    rw [e]
    match i with
    | 0 =>
      rw [Nat.zero_mul, Nat.zero_add, List.getElem?_append_left (by rw [hl]; exact hf)]; rfl
    | i + 1 =>
      have hi : i < p.length := by simpa using h
      rw [List.getElem?_append_right (by rw [hl]; omega), hl, show (i + 1) * 6 + f - 6 = i * 6 + f by omega, ih i hi]
      rfl
/-- a row of items of one's own -/
abbrev ownsT (w : World) (B : Nat) (v : Value) (l : List It) : Prop := w.ownsRow B 68 6 v l.length (itCs l)
abbrev TSrc (w : World) (a : Option Addr) (l : List It) : Prop := LSrc 6 PI w a l
theorem ownsT_below {w w1 : World} {B : Nat} {v : Value} {l : List It} (h : ownsT w B v l) (hb : Below w.heap.size w w1) : ownsT w1 B v l :=
  World.ownsRow.kept (row := none) h ⟨hb.os, hb.tape, hb.output, hb.size, fun k hk _ => hb.block k hk⟩ (by cases v.ownBlock <;> simp)
theorem ownsT_src {w : World} {B : Nat} {v : Value} {l : List It} (h : ownsT w B v l) : ∃ a cap, v = .slice a l.length cap ∧ l.length ≤ cap ∧ TSrc w a l := by
  have h0 := h
  obtain ⟨_, ⟨rfl, hl⟩ | ⟨g, cap, cur, rfl, hb, hgc, hn, hm, hs, hx⟩⟩ := h
  · have : l = [] := List.eq_nil_of_length_eq_zero hl
    subst this
    exact ⟨none, 0, rfl, Nat.le_refl _, .inl rfl⟩
  · refine ⟨_, _, rfl, hn, .inr ⟨g, 0, rfl, (Array.getElem?_eq_some_iff.1 hgc).1, fun i hi => ?_⟩⟩
    have key : ∀ f, f < 6 → w.cell? ⟨g, 0 + i * 6 + f, none⟩ = (itC l[i])[f]? := fun f hf => by
      rw [Nat.zero_add, World.ownsRow.cellAt h0 (i * 6 + f) (by omega), itCs_get l i hi f hf]
    exact ⟨key 0 (by omega), key 1 (by omega), key 2 (by omega), key 3 (by omega), key 4 (by omega), key 5 (by omega)⟩
theorem infoItem : (Try.prog.info? 68).map (fun i => (i.zero, i.size, i.bytes)) = some (some (.agg #[.int .i64 0, .int .u16 0, .int .u8 0, .int .u8 0, .int .u32 0, .int .i64 0]), 6, 24) := by kernel_rfl

theorem below_set4' {B : Nat} {W w : World} (h : Below B W w) {D : Nat} (hD : B ≤ D) (o : Nat) (a b c d : Value) : Below B W ((((w.setCell ⟨D, o, none⟩ a).setCell ⟨D, o + 1, none⟩ b).setCell ⟨D, o + 2, none⟩ c).setCell ⟨D, o + 3, none⟩ d) := (((h.setCell (p := ⟨D, _, none⟩) hD _).setCell (p := ⟨D, _, none⟩) hD _).setCell (p := ⟨D, _, none⟩) hD _).setCell (p := ⟨D, _, none⟩) hD _
theorem below_set6i {B : Nat} {W w : World} (h : Below B W w) {D : Nat} (hD : B ≤ D) (o : Nat) (a b c d e f : Value) : Below B W ((((((w.setCell ⟨D, o, none⟩ a).setCell ⟨D, o + 1, none⟩ b).setCell ⟨D, o + 2, none⟩ c).setCell ⟨D, o + 3, none⟩ d).setCell ⟨D, o + 4, none⟩ e).setCell ⟨D, o + 5, none⟩ f) := (((((h.setCell (p := ⟨D, _, none⟩) hD _).setCell (p := ⟨D, _, none⟩) hD _).setCell (p := ⟨D, _, none⟩) hD _).setCell (p := ⟨D, _, none⟩) hD _).setCell (p := ⟨D, _, none⟩) hD _).setCell (p := ⟨D, _, none⟩) hD _
/-- a box of six cells -/
structure Box6 (w : World) (g : Nat) (x0 x1 x2 x3 x4 x5 : Value) : Prop where
  lt : g < w.heap.size
  c0 : w.cell? ⟨g, 0, none⟩ = some x0
  c1 : w.cell? ⟨g, 1, none⟩ = some x1
  c2 : w.cell? ⟨g, 2, none⟩ = some x2
  c3 : w.cell? ⟨g, 3, none⟩ = some x3
  c4 : w.cell? ⟨g, 4, none⟩ = some x4
  c5 : w.cell? ⟨g, 5, none⟩ = some x5
  f : ∀ i, w.frozen? ⟨g, i, none⟩ = false
theorem Box6.new (w : World) (t : TypeId) (x0 x1 x2 x3 x4 x5 : Value) : Box6 (w.alloc (.cells #[x0, x1, x2, x3, x4, x5] t)) w.heap.size x0 x1 x2 x3 x4 x5 := ⟨by simp, by simp, by simp, by simp, by simp, by simp, by simp, by simp⟩
theorem Box6.keep {w w1 : World} {g : Nat} {x0 x1 x2 x3 x4 x5 : Value} (h : Box6 w g x0 x1 x2 x3 x4 x5) (hb : Below w.heap.size w w1) : Box6 w1 g x0 x1 x2 x3 x4 x5 :=
  ⟨Nat.lt_of_lt_of_le h.lt hb.size, (hb.cell (p := ⟨g, _, none⟩) h.lt).trans h.c0, (hb.cell (p := ⟨g, _, none⟩) h.lt).trans h.c1, (hb.cell (p := ⟨g, _, none⟩) h.lt).trans h.c2, (hb.cell (p := ⟨g, _, none⟩) h.lt).trans h.c3, (hb.cell (p := ⟨g, _, none⟩) h.lt).trans h.c4, (hb.cell (p := ⟨g, _, none⟩) h.lt).trans h.c5, fun i => (hb.frozen (p := ⟨g, i, none⟩) h.lt).trans (h.f i)⟩

end Go.Proofs.Ytoopomjkapeknaa
