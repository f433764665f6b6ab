/-
  WHERE A POLICY LIES; CONTRACTS of the model's look at rules.
-/
import Derived.Test.YtjkmcdgjhfiklaaCondS
import Derived.Test.YtjkmcdgjhfiklaaCondT
import Derived.Test.YtjkmcdgjhfiklaaCondM
import Derived.Test.YtjkmcdgjhfiklaaMathE
namespace Go.Proofs.Ytjkmcdgjhfiklaa
open Go.RowKit
set_option linter.unusedVariables false

/-- elements of k cells each, one behind another -/
def LAt {α : Type} (k : Nat) (P : World → Nat → Nat → α → Prop) (w : World) (b o : Nat) (l : List α) : Prop := ∀ i (h : i < l.length), P w b (o + i * k) l[i]
/-- a slice of them: empty, or at an address -/
def LSrc {α : Type} (k : Nat) (P : World → Nat → Nat → α → Prop) (w : World) (a : Option Addr) (l : List α) : Prop := l = [] ∨ ∃ b o, a = some ⟨b, o, none⟩ ∧ b < w.heap.size ∧ LAt k P w b o l
/-- it stays where what was there is left alone -/
def Stays {α : Type} (P : World → Nat → Nat → α → Prop) : Prop := ∀ w w' b o x, b < w.heap.size → Below w.heap.size w w' → P w b o x → P w' b o x

theorem LSrc.below {α : Type} {k : Nat} {P : World → Nat → Nat → α → Prop} (hP : Stays P) {w w' : World} {a : Option Addr} {l : List α} (h : LSrc k P w a l) (hb : Below w.heap.size w w') : LSrc k P w' a l := by
  rcases h with h | ⟨b, o, ha, hlt, hc⟩
  · exact .inl h
  · exact .inr ⟨b, o, ha, Nat.lt_of_lt_of_le hlt hb.size, fun i hi => hP _ _ _ _ _ hlt hb (hc i hi)⟩

def PK (w : World) (b o : Nat) (c : K) : Prop := w.cell? ⟨b, o, none⟩ = some (.int .i64 c.kind) ∧ w.cell? ⟨b, o + 1, none⟩ = some (.int .u64 (c.a : Int)) ∧ w.cell? ⟨b, o + 2, none⟩ = some (.int .u64 (c.b : Int))
def PR (w : World) (b o : Nat) (r : List K) : Prop := ∃ a cap, w.cell? ⟨b, o, none⟩ = some (.slice a r.length cap) ∧ LSrc 3 PK w a r
def PE (w : World) (b o : Nat) (e : E) : Prop := w.cell? ⟨b, o, none⟩ = some (.int .u32 e.arch) ∧ w.cell? ⟨b, o + 1, none⟩ = some (.int .u32 e.nr) ∧ ∃ a cap, w.cell? ⟨b, o + 2, none⟩ = some (.slice a e.rules.length cap) ∧ LSrc 1 PR w a e.rules

theorem PK.stays : Stays PK := fun w w' b o x hlt hb ⟨h0, h1, h2⟩ => ⟨(hb.cell (p := ⟨b, _, none⟩) hlt).trans h0, (hb.cell (p := ⟨b, _, none⟩) hlt).trans h1, (hb.cell (p := ⟨b, _, none⟩) hlt).trans h2⟩
theorem PR.stays : Stays PR := fun w w' b o x hlt hb ⟨a, cap, h0, h1⟩ => ⟨a, cap, (hb.cell (p := ⟨b, _, none⟩) hlt).trans h0, h1.below PK.stays hb⟩
theorem PE.stays : Stays PE := fun w w' b o x hlt hb ⟨h0, h1, a, cap, h2, h3⟩ => ⟨(hb.cell (p := ⟨b, _, none⟩) hlt).trans h0, (hb.cell (p := ⟨b, _, none⟩) hlt).trans h1, a, cap, (hb.cell (p := ⟨b, _, none⟩) hlt).trans h2, h3.below PR.stays hb⟩

theorem LSrc.at {α : Type} {k : Nat} {P : World → Nat → Nat → α → Prop} {w : World} {a : Option Addr} {l : List α} (h : LSrc k P w a l) {i : Nat} (hi : i < l.length) (d : α) : ∃ b o, a = some ⟨b, o, none⟩ ∧ b < w.heap.size ∧ P w b (o + i * k) (l.getD i d) := by
  rcases h with rfl | ⟨b, o, h1, h2, h3⟩
  · simp at hi
  · refine ⟨b, o, h1, h2, ?_⟩
    rw [List.getD_eq_getElem?_getD, List.getElem?_eq_getElem hi]
    exact h3 i hi
theorem LSrc.addr {α : Type} {k : Nat} {P : World → Nat → Nat → α → Prop} {w : World} {a : Option Addr} {l : List α} (h : LSrc k P w a l) (hn : l ≠ []) : ∃ b o, a = some ⟨b, o, none⟩ ∧ b < w.heap.size ∧ LAt k P w b o l := by
  rcases h with h | h
  · exact absurd h hn
  · exact h
theorem LAt.get {α : Type} {k : Nat} {P : World → Nat → Nat → α → Prop} {w : World} {b o : Nat} {l : List α} (h : LAt k P w b o l) {i : Nat} (hi : i < l.length) (d : α) : P w b (o + i * k) (l.getD i d) := by
  rw [List.getD_eq_getElem?_getD, List.getElem?_eq_getElem hi]; exact h i hi
theorem LAt.below {α : Type} {k : Nat} {P : World → Nat → Nat → α → Prop} (hP : Stays P) {w w' : World} {b o : Nat} {l : List α} (h : LAt k P w b o l) (hlt : b < w.heap.size) (hb : Below w.heap.size w w') : LAt k P w' b o l := fun i hi => hP _ _ _ _ _ hlt hb (h i hi)

/-- one cell's box -/
theorem box1 (w : World) (t : TypeId) (x : Value) : (w.alloc (.cells #[x] t)).cell? ⟨w.heap.size, 0, none⟩ = some x := by simp

set_option maxRecDepth 100000 in
set_option maxHeartbeats 2000000 in
theorem ruleOK_any (r : List K) (a : Option Addr) (cap : Nat) (w : World) (hs : LSrc 3 PK w a r) (ho : okR r) (hn : r.length ≤ 16777216) :
    Calls Try.prog 48 #[.agg #[.slice a r.length cap]] w fun e w' => e = .returned (.bool (validR r)) ∧ Below w.heap.size w w' := by
  by_cases h6 : r.length = 6
  · have HC : Hid (∀ i w, Calls Try.prog 34 #[conV (r.getD i K.zero)] w fun e w' => e = .returned (.bool (validK (r.getD i K.zero))) ∧ Below w.heap.size w w') := fun i w => l3conOK_any _ w (okR_at ho i)
    have HY : Hid ((∀ i, i < 6 → validK (r.getD i K.zero) = true) → validR r = true) := fun h => by
      rw [validR, h6]; simp only [beq_self_eq_true, Bool.true_and]
      exact (all_getD K.zero validK r).2 (fun i hi => h i (by omega))
    have HF : Hid (∀ i, i < 6 → validK (r.getD i K.zero) = false → validR r = false) := fun i hi h => by
      rw [validR, all_no (d := K.zero) (by omega : i < r.length) h, Bool.and_false]
    obtain ⟨b, o, rfl, hlt, hp⟩ := hs.addr (by intro e; rw [e] at h6; simp at h6)
    have HP : Hid (∀ wr, Below w.heap.size w wr → ∀ i, i < 6 → PK wr b (o + i * 3) (r.getD i K.zero)) := fun wr hB i hi => PK.stays _ _ _ _ _ hlt hB (hp.get (by omega) K.zero)
    rw [h6]
    obtain ⟨V, hV⟩ : ∃ V, validR r = V := ⟨_, rfl⟩
    rw [hV] at HY HF ⊢
    clear hV hs hp h6 hn
    have B : Below w.heap.size w (w.alloc (.cells #[.slice (some ⟨b, o, none⟩) 6 cap] 85)) := (Below.refl _ _).alloc (Nat.le_refl _) _
    have x0 := box1 w 85 (.slice (some ⟨b, o, none⟩) 6 cap)
    go_enter Try.func48, Try.ntmps48
    go_wp2_with fail
    go_loopw [3] (fun i wr => ∃ k : Nat, k ≤ 6 ∧ i = .int .i64 k ∧ Hid (∀ j, j < k → validK (r.getD j K.zero) = true) ∧ wr.cell? ⟨w.heap.size, 0, none⟩ = some (.slice (some ⟨b, o, none⟩) 6 cap) ∧ Below w.heap.size w wr) (fun i _ => 6 - (intOf i).toNat)
    case atStart => exact ⟨0, by omega, rfl, fun j hj => by omega, x0, B⟩
    case round =>
      clear B x0
      obtain ⟨k, hk, rfl, HJ, x0, B⟩ := hrel
      by_cases hk6 : k < 6
      · obtain ⟨c0, c1, c2⟩ := HP.out wr B k hk6
        have HC1 : Hid (∀ w, Calls Try.prog 34 #[conV (r.getD k K.zero)] w fun e w' => e = .returned (.bool (validK (r.getD k K.zero))) ∧ Below w.heap.size w w') := HC.out k
        have HF1 : Hid (validK (r.getD k K.zero) = false → V = false) := HF.out k hk6
        have HJ1 : Hid (validK (r.getD k K.zero) = true → ∀ j, j < k + 1 → validK (r.getD j K.zero) = true) := fun h j hj => by
          by_cases hjk : j = k
          · subst hjk; exact h
          · exact HJ.out j (by omega)
        have hk6' : (k : Int) < 6 := by omega
        generalize r.getD k K.zero = c at *
        obtain ⟨ck, ca, cb⟩ := c
        simp only at c0 c1 c2
        simp only [conV] at HC1
        generalize validK ⟨ck, ca, cb⟩ = Q at *
        clear HC HF HP HJ
        go_wp2_with fail
        refine (HC1.out _).mono ?_
        rintro _ w1 ⟨rfl, hb1⟩
        have B1 := below_step hb1 B
        have x1 := cell_step hb1 x0
        clear hb1 x0 c0 c1 c2
        cases Q with
        | false =>
          have hVf : V = false := HF1.out (by first | rfl | trivial)
          subst hVf
          go_wp2
          go_ret
          exact ⟨rfl, B1⟩
        | true =>
          have HJ2 : Hid (∀ j, j < k + 1 → validK (r.getD j K.zero) = true) := HJ1.out (by first | rfl | trivial)
          go_wp2
          go_roundw
          case rel => exact ⟨k + 1, by omega, by go_num, HJ2, x1, B1⟩
          case measure => simp [intOf]; omega
      · have hk' : k = 6 := by omega
        subst hk'
        have hVt : V = true := HY.out HJ.out
        subst hVt
        go_wp2
        go_ret
        exact ⟨rfl, B⟩
  · have hV : validR r = false := by rw [validR]; simp [h6]
    rw [hV]
    have B : Below w.heap.size w (w.alloc (.cells #[.slice a r.length cap] 85)) := (Below.refl _ _).alloc (Nat.le_refl _) _
    have e6 : ((r.length : Int) != 6) = true := by rw [bne_iff_ne]; omega
    clear hs ho hV h6
    generalize r.length = n at *
    go_enter Try.func48, Try.ntmps48
    go_wp2
    go_ret
    exact ⟨rfl, B⟩
end Go.Proofs.Ytjkmcdgjhfiklaa
