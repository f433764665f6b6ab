/-
  PolS, PolT, DrwN, DrwO
-/
import Derived.Test.YtoamapdfcdefjaaGreatQ03
import Derived.Test.YtoamapdfcdefjaaGreatQ04
import Derived.Test.YtoamapdfcdefjaaGreatQ01
import Derived.Test.YtoamapdfcdefjaaGreatQ02
import Derived.Test.YtoamapdfcdefjaaGreatQ12
import Derived.Deep.Onto
import Derived.Deep.RegionLaw
namespace Go.Proofs.YtoamapdfcdefjaaGreat
open Go.RowKit
set_option linter.unusedVariables false

/-- elements of k cells each, one behind another -/
def LAt {α : Type} (k : Nat) (P : World → Nat → Nat → α → Prop) (w : World) (b o : Nat) (l : List α) : Prop := ∀ i (h : i < l.length), P w b (o + i * k) l[i]
/-- a slice of them: empty, or at an address -/
def LSrc {α : Type} (k : Nat) (P : World → Nat → Nat → α → Prop) (w : World) (a : Option Addr) (l : List α) : Prop := l = [] ∨ ∃ b o, a = some ⟨b, o, none⟩ ∧ b < w.heap.size ∧ LAt k P w b o l
/-- it stays where what was there is left alone -/
def Stays {α : Type} (P : World → Nat → Nat → α → Prop) : Prop := ∀ w w' b o x, b < w.heap.size → Below w.heap.size w w' → P w b o x → P w' b o x

theorem LSrc.below {α : Type} {k : Nat} {P : World → Nat → Nat → α → Prop} (hP : Stays P) {w w' : World} {a : Option Addr} {l : List α} (h : LSrc k P w a l) (hb : Below w.heap.size w w') : LSrc k P w' a l := by
  rcases h with h | ⟨b, o, ha, hlt, hc⟩
  · exact .inl h
  · exact .inr ⟨b, o, ha, Nat.lt_of_lt_of_le hlt hb.size, fun i hi => hP _ _ _ _ _ hlt hb (hc i hi)⟩

def PK (w : World) (b o : Nat) (c : K) : Prop := w.cell? ⟨b, o, none⟩ = some (.int .i64 c.kind) ∧ w.cell? ⟨b, o + 1, none⟩ = some (.int .u64 (c.a : Int)) ∧ w.cell? ⟨b, o + 2, none⟩ = some (.int .u64 (c.b : Int))
def PR (w : World) (b o : Nat) (r : List K) : Prop := ∃ a cap, w.cell? ⟨b, o, none⟩ = some (.slice a r.length cap) ∧ LSrc 3 PK w a r
def PE (w : World) (b o : Nat) (e : E) : Prop := w.cell? ⟨b, o, none⟩ = some (.int .u32 e.arch) ∧ w.cell? ⟨b, o + 1, none⟩ = some (.int .u32 e.nr) ∧ ∃ a cap, w.cell? ⟨b, o + 2, none⟩ = some (.slice a e.rules.length cap) ∧ LSrc 1 PR w a e.rules

theorem PK.stays : Stays PK := fun w w' b o x hlt hb ⟨h0, h1, h2⟩ => ⟨(hb.cell (p := ⟨b, _, none⟩) hlt).trans h0, (hb.cell (p := ⟨b, _, none⟩) hlt).trans h1, (hb.cell (p := ⟨b, _, none⟩) hlt).trans h2⟩
theorem PR.stays : Stays PR := fun w w' b o x hlt hb ⟨a, cap, h0, h1⟩ => ⟨a, cap, (hb.cell (p := ⟨b, _, none⟩) hlt).trans h0, h1.below PK.stays hb⟩
theorem PE.stays : Stays PE := fun w w' b o x hlt hb ⟨h0, h1, a, cap, h2, h3⟩ => ⟨(hb.cell (p := ⟨b, _, none⟩) hlt).trans h0, (hb.cell (p := ⟨b, _, none⟩) hlt).trans h1, a, cap, (hb.cell (p := ⟨b, _, none⟩) hlt).trans h2, h3.below PR.stays hb⟩

theorem LSrc.at {α : Type} {k : Nat} {P : World → Nat → Nat → α → Prop} {w : World} {a : Option Addr} {l : List α} (h : LSrc k P w a l) {i : Nat} (hi : i < l.length) (d : α) : ∃ b o, a = some ⟨b, o, none⟩ ∧ b < w.heap.size ∧ P w b (o + i * k) (l.getD i d) := by
  rcases h with rfl | ⟨b, o, h1, h2, h3⟩
  · simp at hi
  · refine ⟨b, o, h1, h2, ?_⟩
    rw [List.getD_eq_getElem?_getD, List.getElem?_eq_getElem hi]
    exact h3 i hi
theorem LSrc.addr {α : Type} {k : Nat} {P : World → Nat → Nat → α → Prop} {w : World} {a : Option Addr} {l : List α} (h : LSrc k P w a l) (hn : l ≠ []) : ∃ b o, a = some ⟨b, o, none⟩ ∧ b < w.heap.size ∧ LAt k P w b o l := by
  rcases h with h | h
  · exact absurd h hn
  · exact h
theorem LAt.get {α : Type} {k : Nat} {P : World → Nat → Nat → α → Prop} {w : World} {b o : Nat} {l : List α} (h : LAt k P w b o l) {i : Nat} (hi : i < l.length) (d : α) : P w b (o + i * k) (l.getD i d) := by
  rw [List.getD_eq_getElem?_getD, List.getElem?_eq_getElem hi]; exact h i hi
theorem LAt.below {α : Type} {k : Nat} {P : World → Nat → Nat → α → Prop} (hP : Stays P) {w w' : World} {b o : Nat} {l : List α} (h : LAt k P w b o l) (hlt : b < w.heap.size) (hb : Below w.heap.size w w') : LAt k P w' b o l := fun i hi => hP _ _ _ _ _ hlt hb (h i hi)

/-- one cell's box -/
theorem box1 (w : World) (t : TypeId) (x : Value) : (w.alloc (.cells #[x] t)).cell? ⟨w.heap.size, 0, none⟩ = some x := by simp

set_option maxRecDepth 100000 in
set_option maxHeartbeats 2000000 in
theorem ruleOK_any (r : List K) (a : Option Addr) (cap : Nat) (w : World) (hs : LSrc 3 PK w a r) (ho : okR r) (hn : r.length ≤ 16777216) :
    Calls Tryz.prog 14 #[.agg #[.slice a r.length cap]] w fun e w' => e = .returned (.bool (validR r)) ∧ Below w.heap.size w w' := by
  by_cases h6 : r.length = 6
  · have HC : Hid (∀ i w, Calls Tryz.prog 19 #[conV (r.getD i K.zero)] w fun e w' => e = .returned (.bool (validK (r.getD i K.zero))) ∧ Below w.heap.size w w') := fun i w => l3conOK_any _ w (okR_at ho i)
    have HY : Hid ((∀ i, i < 6 → validK (r.getD i K.zero) = true) → validR r = true) := fun h => by
      rw [validR, h6]; simp only [beq_self_eq_true, Bool.true_and]
      exact (all_getD K.zero validK r).2 (fun i hi => h i (by omega))
    have HF : Hid (∀ i, i < 6 → validK (r.getD i K.zero) = false → validR r = false) := fun i hi h => by
      rw [validR, all_no (d := K.zero) (by omega : i < r.length) h, Bool.and_false]
    obtain ⟨b, o, rfl, hlt, hp⟩ := hs.addr (by intro e; rw [e] at h6; simp at h6)
    have HP : Hid (∀ wr, Below w.heap.size w wr → ∀ i, i < 6 → PK wr b (o + i * 3) (r.getD i K.zero)) := fun wr hB i hi => PK.stays _ _ _ _ _ hlt hB (hp.get (by omega) K.zero)
    rw [h6]
    obtain ⟨V, hV⟩ : ∃ V, validR r = V := ⟨_, rfl⟩
    rw [hV] at HY HF ⊢
    clear hV hs hp h6 hn
    have B : Below w.heap.size w (w.alloc (.cells #[.slice (some ⟨b, o, none⟩) 6 cap] 44)) := (Below.refl _ _).alloc (Nat.le_refl _) _
    have x0 := box1 w 44 (.slice (some ⟨b, o, none⟩) 6 cap)
    go_enter Tryz.func14, Tryz.ntmps14
    go_wp2_with fail
    go_loopw [3] (fun i wr => ∃ k : Nat, k ≤ 6 ∧ i = .int .i64 k ∧ Hid (∀ j, j < k → validK (r.getD j K.zero) = true) ∧ wr.cell? ⟨w.heap.size, 0, none⟩ = some (.slice (some ⟨b, o, none⟩) 6 cap) ∧ Below w.heap.size w wr) (fun i _ => 6 - (intOf i).toNat)
    case atStart => exact ⟨0, by omega, rfl, fun j hj => by omega, x0, B⟩
    case round =>
      clear B x0
      obtain ⟨k, hk, rfl, HJ, x0, B⟩ := hrel
      by_cases hk6 : k < 6
      · obtain ⟨c0, c1, c2⟩ := HP.out wr B k hk6
        have HC1 : Hid (∀ w, Calls Tryz.prog 19 #[conV (r.getD k K.zero)] w fun e w' => e = .returned (.bool (validK (r.getD k K.zero))) ∧ Below w.heap.size w w') := HC.out k
        have HF1 : Hid (validK (r.getD k K.zero) = false → V = false) := HF.out k hk6
        have HJ1 : Hid (validK (r.getD k K.zero) = true → ∀ j, j < k + 1 → validK (r.getD j K.zero) = true) := fun h j hj => by
          by_cases hjk : j = k
          · subst hjk; exact h
          · exact HJ.out j (by omega)
        have hk6' : (k : Int) < 6 := by omega
        generalize r.getD k K.zero = c at *
        obtain ⟨ck, ca, cb⟩ := c
        simp only at c0 c1 c2
        simp only [conV] at HC1
        generalize validK ⟨ck, ca, cb⟩ = Q at *
        clear HC HF HP HJ
        go_wp2_with fail
        refine (HC1.out _).mono ?_
        rintro _ w1 ⟨rfl, hb1⟩
        have B1 := below_step hb1 B
        have x1 := cell_step hb1 x0
        clear hb1 x0 c0 c1 c2
        cases Q with
        | false =>
          have hVf : V = false := HF1.out (by first | rfl | trivial)
          subst hVf
          go_wp2
          go_ret
          exact ⟨rfl, B1⟩
        | true =>
          have HJ2 : Hid (∀ j, j < k + 1 → validK (r.getD j K.zero) = true) := HJ1.out (by first | rfl | trivial)
          go_wp2
          go_roundw
          case rel => exact ⟨k + 1, by omega, by go_num, HJ2, x1, B1⟩
          case measure => simp [intOf]; omega
      · have hk' : k = 6 := by omega
        subst hk'
        have hVt : V = true := HY.out HJ.out
        subst hVt
        go_wp2
        go_ret
        exact ⟨rfl, B⟩
  · have hV : validR r = false := by rw [validR]; simp [h6]
    rw [hV]
    have B : Below w.heap.size w (w.alloc (.cells #[.slice a r.length cap] 44)) := (Below.refl _ _).alloc (Nat.le_refl _) _
    have e6 : ((r.length : Int) != 6) = true := by rw [bne_iff_ne]; omega
    clear hs ho hV h6
    generalize r.length = n at *
    go_enter Tryz.func14, Tryz.ntmps14
    go_wp2
    go_ret
    exact ⟨rfl, B⟩
end Go.Proofs.YtoamapdfcdefjaaGreat
namespace Go.Proofs.YtoamapdfcdefjaaGreat
open Go.RowKit
set_option linter.unusedVariables false

/-- a slice whose row lies in a block from L on -/
def LSrcG {α : Type} (L k : Nat) (P : World → Nat → Nat → α → Prop) (w : World) (a : Option Addr) (l : List α) : Prop := l = [] ∨ ∃ b o, a = some ⟨b, o, none⟩ ∧ L ≤ b ∧ b < w.heap.size ∧ LAt k P w b o l
/-- a condition in cells that may be written -/
def PKF (w : World) (b o : Nat) (c : K) : Prop := PK w b o c ∧ w.frozen? ⟨b, o, none⟩ = false ∧ w.frozen? ⟨b, o + 1, none⟩ = false ∧ w.frozen? ⟨b, o + 2, none⟩ = false
theorem PKF.stays : Stays PKF := fun w w' b o x hlt hb ⟨h0, h1, h2, h3⟩ => ⟨PK.stays _ _ _ _ _ hlt hb h0, (hb.frozen (p := ⟨b, _, none⟩) hlt).trans h1, (hb.frozen (p := ⟨b, _, none⟩) hlt).trans h2, (hb.frozen (p := ⟨b, _, none⟩) hlt).trans h3⟩
def PRG (L : Nat) (w : World) (b o : Nat) (r : List K) : Prop := ∃ a cap, w.cell? ⟨b, o, none⟩ = some (.slice a r.length cap) ∧ LSrcG L 3 PKF w a r
def PEG (L : Nat) (w : World) (b o : Nat) (e : E) : Prop := w.cell? ⟨b, o, none⟩ = some (.int .u32 e.arch) ∧ w.cell? ⟨b, o + 1, none⟩ = some (.int .u32 e.nr) ∧ (w.frozen? ⟨b, o, none⟩ = false ∧ w.frozen? ⟨b, o + 1, none⟩ = false) ∧ ∃ a cap, w.cell? ⟨b, o + 2, none⟩ = some (.slice a e.rules.length cap) ∧ LSrcG L 1 (PRG L) w a e.rules ∧ e.rules.length ≤ cap

theorem LSrcG.plain {α : Type} {L k : Nat} {P Q : World → Nat → Nat → α → Prop} {w : World} {a : Option Addr} {l : List α} (h : LSrcG L k P w a l) (hPQ : ∀ b o x, P w b o x → Q w b o x) : LSrc k Q w a l := by
  rcases h with h | ⟨b, o, h1, _, h2, h3⟩
  · exact .inl h
  · exact .inr ⟨b, o, h1, h2, fun i hi => hPQ _ _ _ (h3 i hi)⟩
theorem PRG.plain {L : Nat} {w : World} {b o : Nat} {r : List K} (h : PRG L w b o r) : PR w b o r := by
  obtain ⟨a, cap, h0, h1⟩ := h
  exact ⟨a, cap, h0, h1.plain fun _ _ _ h => h.1⟩
theorem PEG.plain {L : Nat} {w : World} {b o : Nat} {e : E} (h : PEG L w b o e) : PE w b o e := by
  obtain ⟨h0, h1, _, a, cap, h2, h3, _⟩ := h
  exact ⟨h0, h1, a, cap, h2, h3.plain fun _ _ _ h => h.plain⟩
theorem LSrcG.below {α : Type} {L k : Nat} {P : World → Nat → Nat → α → Prop} (hP : Stays P) {w w' : World} {a : Option Addr} {l : List α} (h : LSrcG L k P w a l) (hb : Below w.heap.size w w') : LSrcG L k P w' a l := by
  rcases h with h | ⟨b, o, ha, hL, hlt, hc⟩
  · exact .inl h
  · exact .inr ⟨b, o, ha, hL, Nat.lt_of_lt_of_le hlt hb.size, fun i hi => hP _ _ _ _ _ hlt hb (hc i hi)⟩
theorem PRG.stays (L : Nat) : Stays (PRG L) := fun w w' b o x hlt hb ⟨a, cap, h0, h1⟩ => ⟨a, cap, (hb.cell (p := ⟨b, _, none⟩) hlt).trans h0, h1.below PKF.stays hb⟩
theorem PEG.stays (L : Nat) : Stays (PEG L) := fun w w' b o x hlt hb ⟨h0, h1, f, a, cap, h2, h3, h4⟩ => ⟨(hb.cell (p := ⟨b, _, none⟩) hlt).trans h0, (hb.cell (p := ⟨b, _, none⟩) hlt).trans h1, ⟨(hb.frozen (p := ⟨b, _, none⟩) hlt).trans f.1, (hb.frozen (p := ⟨b, _, none⟩) hlt).trans f.2⟩, a, cap, (hb.cell (p := ⟨b, _, none⟩) hlt).trans h2, h3.below (PRG.stays L) hb, h4⟩
theorem LSrcG.mono {α : Type} {L L' k : Nat} {P Q : World → Nat → Nat → α → Prop} {w : World} {a : Option Addr} {l : List α} (h : LSrcG L k P w a l) (hL : L' ≤ L) (hPQ : ∀ b o x, P w b o x → Q w b o x) : LSrcG L' k Q w a l := by
  rcases h with h | ⟨b, o, h1, h4, h2, h3⟩
  · exact .inl h
  · exact .inr ⟨b, o, h1, Nat.le_trans hL h4, h2, fun i hi => hPQ _ _ _ (h3 i hi)⟩
theorem PRG.mono {L L' : Nat} {w : World} {b o : Nat} {r : List K} (h : PRG L w b o r) (hL : L' ≤ L) : PRG L' w b o r := by
  obtain ⟨a, cap, h0, h1⟩ := h
  exact ⟨a, cap, h0, h1.mono hL fun _ _ _ h => h⟩
theorem PEG.mono {L L' : Nat} {w : World} {b o : Nat} {e : E} (h : PEG L w b o e) (hL : L' ≤ L) : PEG L' w b o e := by
  obtain ⟨h0, h1, f, a, cap, h2, h3, h4⟩ := h
  exact ⟨h0, h1, f, a, cap, h2, h3.mono hL fun _ _ _ h => h.mono hL, h4⟩

/-- a store into another block -/
theorem cell_far {w : World} {D i b o : Nat} {v x : Value} (hne : D ≠ b) (h : w.cell? ⟨b, o, none⟩ = some x) : (w.setCell ⟨D, i, none⟩ v).cell? ⟨b, o, none⟩ = some x := by
  have e : (w.setCell ⟨D, i, none⟩ v).cell? ⟨b, o, none⟩ = w.cell? ⟨b, o, none⟩ := by
    apply World.cell?_setCell_other
    intro e; apply hne; injection e
  rw [e]; exact h
/-- a store into another cell of the block -/
theorem cell_near {w : World} {D i o : Nat} {v x : Value} (hne : i ≠ o) (h : w.cell? ⟨D, o, none⟩ = some x) : (w.setCell ⟨D, i, none⟩ v).cell? ⟨D, o, none⟩ = some x := by
  have e : (w.setCell ⟨D, i, none⟩ v).cell? ⟨D, o, none⟩ = w.cell? ⟨D, o, none⟩ := by
    apply World.cell?_setCell_other
    intro e; apply hne; injection e
  rw [e]; exact h
theorem PK.far {w : World} {D i b o : Nat} {v : Value} {c : K} (hne : D ≠ b) (h : PK w b o c) : PK (w.setCell ⟨D, i, none⟩ v) b o c := ⟨cell_far hne h.1, cell_far hne h.2.1, cell_far hne h.2.2⟩
theorem frz_set {w : World} {D i : Nat} {v : Value} {p : Addr} (h : w.frozen? p = false) : (w.setCell ⟨D, i, none⟩ v).frozen? p = false := by simp [h]
theorem PKF.far {w : World} {D i b o : Nat} {v : Value} {c : K} (hne : D ≠ b) (h : PKF w b o c) : PKF (w.setCell ⟨D, i, none⟩ v) b o c := ⟨h.1.far hne, frz_set h.2.1, frz_set h.2.2.1, frz_set h.2.2.2⟩
theorem LSrcG.far {α : Type} {L k D i : Nat} {v : Value} {P : World → Nat → Nat → α → Prop} {w : World} {a : Option Addr} {l : List α} (h : LSrcG L k P w a l) (hP : ∀ b o x, L ≤ b → P w b o x → P (w.setCell ⟨D, i, none⟩ v) b o x) : LSrcG L k P (w.setCell ⟨D, i, none⟩ v) a l := by
  rcases h with h | ⟨b, o, h1, h4, h2, h3⟩
  · exact .inl h
  · exact .inr ⟨b, o, h1, h4, by simp; exact h2, fun j hj => hP _ _ _ h4 (h3 j hj)⟩
theorem PRG.far {L D i b o : Nat} {v : Value} {w : World} {r : List K} (hD : D < L) (hne : D ≠ b) (h : PRG L w b o r) : PRG L (w.setCell ⟨D, i, none⟩ v) b o r := by
  obtain ⟨a, cap, h0, h1⟩ := h
  exact ⟨a, cap, cell_far hne h0, h1.far fun b o x hL hx => hx.far (by omega)⟩
theorem PRG.rules_far {L D i : Nat} {v : Value} {w : World} {a : Option Addr} {l : List (List K)} (hD : D < L) (h : LSrcG L 1 (PRG L) w a l) : LSrcG L 1 (PRG L) (w.setCell ⟨D, i, none⟩ v) a l := h.far fun b o x hL hx => hx.far hD (by omega)

/-- an element of the row D is left alone by a store into another element -/
def Apart {α : Type} (sz D : Nat) (P : World → Nat → Nat → α → Prop) : Prop := ∀ w o x c v, P w D o x → (c < o ∨ o + sz ≤ c) → P (w.setCell ⟨D, c, none⟩ v) D o x
theorem PK.apart (D : Nat) : Apart 3 D PK := fun w o x c v h hc => ⟨cell_near (by omega) h.1, cell_near (by omega) h.2.1, cell_near (by omega) h.2.2⟩
theorem PRG.apart (D : Nat) : Apart 1 D (PRG (D + 1)) := fun w o x c v h hc => by
  obtain ⟨a, cap, h0, h1⟩ := h
  exact ⟨a, cap, cell_near (by omega) h0, h1.far fun b o x hL hx => hx.far (by omega)⟩
theorem PEG.apart (D : Nat) : Apart 3 D (PEG (D + 1)) := fun w o x c v h hc => by
  obtain ⟨h0, h1, f, a, cap, h2, h3, h4⟩ := h
  exact ⟨cell_near (by omega) h0, cell_near (by omega) h1, ⟨frz_set f.1, frz_set f.2⟩, a, cap, cell_near (by omega) h2, PRG.rules_far (by omega) h3, h4⟩

/-- a row of N elements of which the first k are laid -/
structure Upt {α : Type} (sz : Nat) (P : World → Nat → Nat → α → Prop) (w : World) (D N : Nat) (l : List α) (d : α) (k : Nat) : Prop where
  lt : D < w.heap.size
  own : ∀ c, c < N * sz → (∃ v, w.cell? ⟨D, c, none⟩ = some v) ∧ w.frozen? ⟨D, c, none⟩ = false
  el : ∀ j, j < k → P w D (j * sz) (l.getD j d)
theorem Upt.keep {α : Type} {sz : Nat} {P : World → Nat → Nat → α → Prop} (hP : Stays P) {w w' : World} {D N : Nat} {l : List α} {d : α} {k : Nat} (h : Upt sz P w D N l d k) (hb : Below w.heap.size w w') : Upt sz P w' D N l d k :=
  ⟨Nat.lt_of_lt_of_le h.lt hb.size, fun c hc => ⟨by obtain ⟨v, hv⟩ := (h.own c hc).1; exact ⟨v, (hb.cell (p := ⟨D, c, none⟩) h.lt).trans hv⟩, (hb.frozen (p := ⟨D, c, none⟩) h.lt).trans (h.own c hc).2⟩, fun j hj => hP _ _ _ _ _ h.lt hb (h.el j hj)⟩
theorem Upt.set {α : Type} {sz D : Nat} {P : World → Nat → Nat → α → Prop} (hA : Apart sz D P) {w : World} {N : Nat} {l : List α} {d : α} {k c : Nat} (h : Upt sz P w D N l d k) (hc : k * sz ≤ c) (v : Value) : Upt sz P (w.setCell ⟨D, c, none⟩ v) D N l d k := by
  refine ⟨by simp; exact h.lt, fun i hi => ?_, fun j hj => hA _ _ _ _ _ (h.el j hj) (.inr ?_)⟩
  · obtain ⟨⟨u, hu⟩, hf⟩ := h.own i hi
    refine ⟨?_, by simp [hf]⟩
    by_cases e : c = i
    · subst e; exact ⟨v, World.cell?_setCell_same' w _ v (by rw [hu]; rfl)⟩
    · exact ⟨u, cell_near e hu⟩
  · have : (j + 1) * sz ≤ k * sz := Nat.mul_le_mul_right _ hj
    rw [Nat.add_mul] at this; omega
theorem Upt.next {α : Type} {sz D : Nat} {P : World → Nat → Nat → α → Prop} {w : World} {N : Nat} {l : List α} {d : α} {k : Nat} (h : Upt sz P w D N l d k) (hk : P w D (k * sz) (l.getD k d)) : Upt sz P w D N l d (k + 1) :=
  ⟨h.lt, h.own, fun j hj => by
    by_cases e : j = k
    · subst e; exact hk
    · exact h.el j (by omega)⟩
theorem Upt.new {α : Type} {sz : Nat} {P : World → Nat → Nat → α → Prop} (w : World) (cs : Array Value) (t : TypeId) (N : Nat) (l : List α) (d : α) (hs : cs.size = N * sz) : Upt sz P (w.alloc (.cells cs t)) w.heap.size N l d 0 := by
  have hr := World.rowIs_alloc w cs t (fun i => cs.getD i undef) (fun i h => by simp [h])
  rw [hs] at hr
  exact ⟨hr.lt, fun c hc => ⟨⟨_, hr.cell hc⟩, hr.frozen c⟩, fun j hj => by omega⟩
theorem Upt.all {α : Type} {sz : Nat} {P : World → Nat → Nat → α → Prop} {w : World} {D : Nat} {l : List α} {d : α} {N : Nat} (h : Upt sz P w D N l d l.length) : LAt sz P w D 0 l := fun i hi => by
  have := h.el i hi
  rw [List.getD_eq_getElem?_getD, List.getElem?_eq_getElem hi] at this
  rw [Nat.zero_add]; exact this
end Go.Proofs.YtoamapdfcdefjaaGreat
namespace Go.Proofs.YtoamapdfcdefjaaGreat
open Go.RowKit Go.Deep
set_option linter.unusedVariables false

abbrev rulesAt (P : List E) (t : Nat) : List (List K) := (P.getD t E.zero).rules
abbrev ruleAt (P : List E) (t s : Nat) : List K := (rulesAt P t).getD s []

/-- the cells of a policy, and that its blocks are all different -/
structure PsC (w : World) (v : Value) (P : List E) (g : Nat) (gb : Nat → Nat) (cb : Nat → Nat → Nat) : Prop where
  val : ∃ a cap, v = .slice a P.length cap ∧ P.length ≤ cap ∧ (P ≠ [] → a = some ⟨g, 0, none⟩)
  ent : ∀ t, t < P.length → w.cell? ⟨g, t * 3, none⟩ = some (.int .u32 (P.getD t E.zero).arch) ∧ w.cell? ⟨g, t * 3 + 1, none⟩ = some (.int .u32 (P.getD t E.zero).nr) ∧ ∃ c, (rulesAt P t).length ≤ c ∧ w.cell? ⟨g, t * 3 + 2, none⟩ = some (.slice (some ⟨gb t, 0, none⟩) (rulesAt P t).length c)
  rul : ∀ t s, t < P.length → s < (rulesAt P t).length → ∃ c, (ruleAt P t s).length ≤ c ∧ w.cell? ⟨gb t, s, none⟩ = some (.slice (some ⟨cb t s, 0, none⟩) (ruleAt P t s).length c)
  con : ∀ t s m, t < P.length → s < (rulesAt P t).length → m < (ruleAt P t s).length → PK w (cb t s) (m * 3) ((ruleAt P t s).getD m K.zero)
  frg : P ≠ [] → g < w.heap.size ∧ ∀ o, w.frozen? ⟨g, o, none⟩ = false
  frr : ∀ t, t < P.length → gb t < w.heap.size ∧ gb t ≠ g ∧ ∀ o, w.frozen? ⟨gb t, o, none⟩ = false
  frc : ∀ t s, t < P.length → s < (rulesAt P t).length → cb t s < w.heap.size ∧ cb t s ≠ g ∧ (∀ t', t' < P.length → cb t s ≠ gb t') ∧ ∀ o, w.frozen? ⟨cb t s, o, none⟩ = false
  drr : ∀ t t', t < P.length → t' < P.length → t ≠ t' → gb t ≠ gb t'
  dcc : ∀ t s t' s', t < P.length → s < (rulesAt P t).length → t' < P.length → s' < (rulesAt P t').length → ¬ (t = t' ∧ s = s') → cb t s ≠ cb t' s'

theorem row_typeD {w : World} {B t s n q : Nat} {v : Value} {xs : List Value} (h : w.ownsRow B t s v n xs) (hq : v.ownBlock = some q) : ∃ cur, w.heap[q]? = some (.cells cur t (0, 0)) := by
  obtain ⟨_, h | ⟨g, cap, cu, e, _, hg, _⟩⟩ := h
  · rw [h.1] at hq; cases hq
  · rw [e] at hq; simp [Value.ownBlock] at hq; subst hq
    exact ⟨cu, hg⟩
theorem type_ne {w : World} {a b ta tb : Nat} (h : ta ≠ tb) (h1 : ∃ cur, w.heap[a]? = some (.cells cur ta (0, 0))) (h2 : ∃ cur, w.heap[b]? = some (.cells cur tb (0, 0))) : a ≠ b := fun e => by
  obtain ⟨c1, h1⟩ := h1
  obtain ⟨c2, h2⟩ := h2
  subst e
  rw [h1] at h2
  simp only [Option.some.injEq, Obj.cells.injEq] at h2
  exact h h2.2.1
theorem type_frz {w : World} {a t : Nat} (h1 : ∃ cur, w.heap[a]? = some (.cells cur t (0, 0))) (o : Nat) : w.frozen? ⟨a, o, none⟩ = false := by
  obtain ⟨c1, h1⟩ := h1
  simp [World.frozen?, h1]
theorem entCsd_get (l : List E) (rv : Nat → Value) {i : Nat} (hi : i < l.length) : (entCsd l rv)[i * 3]? = some (.int .u32 (l.getD i E.zero).arch) ∧ (entCsd l rv)[i * 3 + 1]? = some (.int .u32 (l.getD i E.zero).nr) ∧ (entCsd l rv)[i * 3 + 2]? = some (rv i) := by
  have key : ∀ n, i < n → ∀ r, r < 3 → ((List.range n).flatMap fun i => entCd (l.getD i E.zero) (rv i))[i * 3 + r]? = (entCd (l.getD i E.zero) (rv i))[r]? := by
    intro n
    induction n with
    | zero => intro h; omega
    | succ n ih =>
      intro h r hr
      have hl : ((List.range n).flatMap fun i => entCd (l.getD i E.zero) (rv i)).length = n * 3 := by
        clear ih h
        induction n with
        | zero => rfl
        | succ n ih => rw [List.range_succ, List.flatMap_append, List.length_append, ih]; simp [entCd]; omega
      rw [List.range_succ, List.flatMap_append]
      by_cases h2 : i < n
      · rw [List.getElem?_append_left (by omega)]
        exact ih h2 r hr
      · obtain rfl : i = n := by omega
        rw [List.getElem?_append_right (by omega), hl, Nat.add_sub_cancel_left]
        simp
  refine ⟨?_, ?_, ?_⟩
  · have := key l.length hi 0 (by omega); simpa [entCsd, entCd] using this
  · have := key l.length hi 1 (by omega); simpa [entCsd, entCd] using this
  · have := key l.length hi 2 (by omega); simpa [entCsd, entCd] using this
theorem cKsd_get (l : List K) {i : Nat} (hi : i < l.length) : (cKsd l)[i * 3]? = some (.int .i64 (l.getD i K.zero).kind) ∧ (cKsd l)[i * 3 + 1]? = some (.int .u64 ((l.getD i K.zero).a : Int)) ∧ (cKsd l)[i * 3 + 2]? = some (.int .u64 ((l.getD i K.zero).b : Int)) := by
  induction l generalizing i with
  | nil => simp at hi
  | cons x l ih =>
    cases i with
    | zero => simp [cKsd, cKd]
    | succ i =>
      have h := ih (i := i) (by simpa using hi)
      have e : cKsd (x :: l) = cKd x ++ cKsd l := by simp [cKsd]
      have el : (cKd x).length = 3 := rfl
      rw [e]
      refine ⟨?_, ?_, ?_⟩
      · rw [List.getElem?_append_right (by omega), el, show (i + 1) * 3 - 3 = i * 3 by omega]; simpa using h.1
      · rw [List.getElem?_append_right (by omega), el, show (i + 1) * 3 + 1 - 3 = i * 3 + 1 by omega]; simpa using h.2.1
      · rw [List.getElem?_append_right (by omega), el, show (i + 1) * 3 + 2 - 3 = i * 3 + 2 by omega]; simpa using h.2.2
theorem ownsKd_pk {w : World} {B b n c : Nat} {r : List K} (h : ownsKd w B (.slice (some ⟨b, 0, none⟩) n c) r) {m : Nat} (hm : m < r.length) : PK w b (m * 3) (r.getD m K.zero) := by
  have hk := ownsKd_ksd h
  obtain ⟨h0, h1, h2⟩ := cKsd_get r hm
  have k0 := hk _ _ h0
  have k1 := hk _ _ h1
  have k2 := hk _ _ h2
  rw [add_at, Nat.zero_add] at k0 k1 k2
  exact ⟨k0, k1, k2⟩
theorem row_valD {w : World} {B t s n q : Nat} {v : Value} {xs : List Value} (h : w.ownsRow B t s v n xs) (hq : v.ownBlock = some q) : ∃ c, n ≤ c ∧ v = .slice (some ⟨q, 0, none⟩) n c := by
  obtain ⟨_, h | ⟨g, cap, cu, e, _, hg, hn, _⟩⟩ := h
  · rw [h.1] at hq; cases hq
  · rw [e] at hq; simp [Value.ownBlock] at hq; subst hq
    exact ⟨cap, hn, e⟩

theorem PsD.psc {w : World} {B : Nat} {v : Value} {l : List E} {rv : Nat → Value} {lo hi : Nat → Nat} (h : PsD w B v l rv lo hi) :
    ∃ g gb cb, PsC w v l g gb cb ∧ (l ≠ [] → B ≤ g) ∧ (∀ t, t < l.length → lo t ≤ gb t ∧ gb t < hi t) ∧ ∀ t s, t < l.length → s < (rulesAt l t).length → lo t ≤ cb t s ∧ cb t s < hi t := by
  have hex : ∀ t, ∃ (vs : Nat → Value) (cb : Nat → Nat) (gb : Nat), t < l.length → RsD w (lo t) (rv t) (l.getD t E.zero).rules vs cb gb ∧ gb < hi t ∧ ∀ i, i < (l.getD t E.zero).rules.length → cb i < hi t := fun t => by
    by_cases ht : t < l.length
    · obtain ⟨vs, cb, gb, h1⟩ := h.own t ht
      exact ⟨vs, cb, gb, fun _ => h1⟩
    · exact ⟨fun _ => undef, fun _ => 0, 0, fun h => absurd h ht⟩
  obtain ⟨vs, hvs⟩ := Classical.axiomOfChoice hex
  obtain ⟨cb, hcb⟩ := Classical.axiomOfChoice hvs
  obtain ⟨gb, hgb⟩ := Classical.axiomOfChoice hcb
  clear hex hvs hcb
  obtain ⟨a, cap, ev, hcap, hne⟩ := h.form
  have hg : ∃ g, (l ≠ [] → a = some ⟨g, 0, none⟩ ∧ B ≤ g ∧ g < w.heap.size) := by
    by_cases hl : l = []
    · exact ⟨0, fun h => absurd hl h⟩
    · obtain ⟨g, h1⟩ := hne hl
      exact ⟨g, fun _ => h1⟩
  obtain ⟨g, hg⟩ := hg
  have nn : ∀ {t}, t < l.length → l ≠ [] := fun ht e => by rw [e] at ht; simp at ht
  have hob : ∀ {t}, t < l.length → v.ownBlock = some g := fun ht => by rw [ev, (hg (nn ht)).1]; rfl
  have tg : ∀ {t}, t < l.length → ∃ cur, w.heap[g]? = some (.cells cur 37 (0, 0)) := fun ht => row_typeD h.row (hob ht)
  have tr : ∀ {t}, t < l.length → ∃ cur, w.heap[gb t]? = some (.cells cur 44 (0, 0)) := fun ht => row_typeD (hgb _ ht).1.row (hgb _ ht).1.ob
  have tc : ∀ {t s}, t < l.length → s < (rulesAt l t).length → ∃ cur, w.heap[cb t s]? = some (.cells cur 41 (0, 0)) := fun ht hs => row_typeD ((hgb _ ht).1.own _ hs).1 ((hgb _ ht).1.own _ hs).2
  have hcl : ∀ t s, t < l.length → s < (rulesAt l t).length → lo t ≤ cb t s ∧ cb t s < hi t := fun t s ht hs => ⟨(((hgb t ht).1.own s hs).1.lt _ ((hgb t ht).1.own s hs).2).1, (hgb t ht).2.2 s hs⟩
  have hgl : ∀ t, t < l.length → lo t ≤ gb t ∧ gb t < hi t := fun t ht => ⟨((hgb t ht).1.row.lt _ (hgb t ht).1.ob).1, (hgb t ht).2.1⟩
  refine ⟨g, gb, cb, ⟨⟨a, cap, ev, hcap, fun hl => (hg hl).1⟩, fun t ht => ?_, fun t s ht hs => ?_, fun t s m ht hs hm => ?_, fun hl => ⟨(hg hl).2.2, ?_⟩, fun t ht => ⟨?_, type_ne (by decide) (tr ht) (tg ht), type_frz (tr ht)⟩, fun t s ht hs => ⟨?_, type_ne (by decide) (tc ht hs) (tg ht), fun t' ht' => type_ne (by decide) (tc ht hs) (tr ht'), type_frz (tc ht hs)⟩, fun t t' ht ht' hne e => ?_, fun t s t' s' ht hs ht' hs' hne e => ?_⟩, fun hl => (hg hl).2.1, hgl, hcl⟩
  · obtain ⟨h0, h1, h2⟩ := entCsd_get l rv ht
    have k0 := h.row.cells (hob ht) _ _ h0
    have k1 := h.row.cells (hob ht) _ _ h1
    have k2 := h.row.cells (hob ht) _ _ h2
    rw [add_at, Nat.zero_add] at k0 k1 k2
    obtain ⟨c, hc, er⟩ := row_valD (hgb t ht).1.row (hgb t ht).1.ob
    rw [er] at k2
    exact ⟨k0, k1, c, hc, k2⟩
  · obtain ⟨c, hc, er⟩ := row_valD ((hgb t ht).1.own s hs).1 ((hgb t ht).1.own s hs).2
    have k := (hgb t ht).1.row.cells (hgb t ht).1.ob s (vs t s) (by rw [List.getElem?_map, List.getElem?_range hs]; rfl)
    rw [add_at, Nat.zero_add, er] at k
    exact ⟨c, hc, k⟩
  · obtain ⟨c, hc, er⟩ := row_valD ((hgb t ht).1.own s hs).1 ((hgb t ht).1.own s hs).2
    have k := ((hgb t ht).1.own s hs).1
    rw [er] at k
    exact ownsKd_pk k hm
  · obtain ⟨t, ht⟩ : ∃ t, t < l.length := ⟨0, List.length_pos_iff.2 hl⟩
    exact type_frz (tg ht)
  · have := hgl t ht; have := h.lt t ht; omega
  · have := hcl t s ht hs; have := h.lt t ht; omega
  · have a1 := hgl t ht
    have a2 := hgl t' ht'
    rcases Nat.lt_or_gt_of_ne hne with h1 | h1
    · have := h.inc t t' h1 ht'; omega
    · have := h.inc t' t h1 ht; omega
  · have a1 := hcl t s ht hs
    have a2 := hcl t' s' ht' hs'
    by_cases htt : t = t'
    · subst htt
      have hss : s ≠ s' := fun h => hne ⟨rfl, h⟩
      rcases Nat.lt_or_gt_of_ne hss with h1 | h1
      · have := (hgb t ht).1.inc s s' h1 hs'; omega
      · have := (hgb t ht).1.inc s' s h1 hs; omega
    · rcases Nat.lt_or_gt_of_ne htt with h1 | h1
      · have := h.inc t t' h1 ht'; omega
      · have := h.inc t' t h1 ht; omega

theorem LAt.of {α : Type} {k : Nat} {Q : World → Nat → Nat → α → Prop} {w : World} {b o : Nat} {l : List α} (d : α) (h : ∀ i, i < l.length → Q w b (o + i * k) (l.getD i d)) : LAt k Q w b o l := fun i hi => by
  have := h i hi
  rwa [List.getD_eq_getElem?_getD, List.getElem?_eq_getElem hi] at this
section
variable {w w1 : World} {v : Value} {P : List E} {g : Nat} {gb : Nat → Nat} {cb : Nat → Nat → Nat}
/-- the conditions of one rule, where their block is as it was -/
theorem PsC.ks (h : PsC w v P g gb cb) (hs : w.heap.size ≤ w1.heap.size) {t s : Nat} (ht : t < P.length) (hst : s < (rulesAt P t).length) (hc : ∀ o, w1.cell? ⟨cb t s, o, none⟩ = w.cell? ⟨cb t s, o, none⟩) : LSrc 3 PK w1 (some ⟨cb t s, 0, none⟩) (ruleAt P t s) :=
  .inr ⟨_, 0, rfl, by have := (h.frc t s ht hst).1; omega, LAt.of K.zero fun m hm => by
    obtain ⟨c0, c1, c2⟩ := h.con t s m ht hst hm
    rw [Nat.zero_add]
    exact ⟨(hc _).trans c0, (hc _).trans c1, (hc _).trans c2⟩⟩
theorem PsC.rs (h : PsC w v P g gb cb) (hs : w.heap.size ≤ w1.heap.size) {t : Nat} (ht : t < P.length) (hr : ∀ s, s < (rulesAt P t).length → w1.cell? ⟨gb t, s, none⟩ = w.cell? ⟨gb t, s, none⟩) (hc : ∀ s, s < (rulesAt P t).length → ∀ o, w1.cell? ⟨cb t s, o, none⟩ = w.cell? ⟨cb t s, o, none⟩) : LSrc 1 PR w1 (some ⟨gb t, 0, none⟩) (rulesAt P t) :=
  .inr ⟨_, 0, rfl, by have := (h.frr t ht).1; omega, LAt.of [] fun s hst => by
    obtain ⟨c, _, hv⟩ := h.rul t s ht hst
    rw [Nat.zero_add, Nat.mul_one]
    exact ⟨_, c, (hr s hst).trans hv, h.ks hs ht hst (hc s hst)⟩⟩
theorem PsC.pe (h : PsC w v P g gb cb) (hs : w.heap.size ≤ w1.heap.size) {t : Nat} (ht : t < P.length) {g' o' : Nat} (h0 : w1.cell? ⟨g', o', none⟩ = w.cell? ⟨g, t * 3, none⟩) (h1 : w1.cell? ⟨g', o' + 1, none⟩ = w.cell? ⟨g, t * 3 + 1, none⟩) (h2 : w1.cell? ⟨g', o' + 2, none⟩ = w.cell? ⟨g, t * 3 + 2, none⟩)
    (hr : ∀ s, s < (rulesAt P t).length → w1.cell? ⟨gb t, s, none⟩ = w.cell? ⟨gb t, s, none⟩) (hc : ∀ s, s < (rulesAt P t).length → ∀ o, w1.cell? ⟨cb t s, o, none⟩ = w.cell? ⟨cb t s, o, none⟩) : PE w1 g' o' (P.getD t E.zero) := by
  obtain ⟨e0, e1, c, _, e2⟩ := h.ent t ht
  exact ⟨h0.trans e0, h1.trans e1, _, c, h2.trans e2, h.rs hs ht hr hc⟩
theorem PsC.src (h : PsC w v P g gb cb) : ∃ a cap, v = .slice a P.length cap ∧ P.length ≤ cap ∧ LSrc 3 PE w a P := by
  obtain ⟨a, cap, e, hc, hn⟩ := h.val
  refine ⟨a, cap, e, hc, ?_⟩
  by_cases hP : P = []
  · exact .inl hP
  · refine .inr ⟨g, 0, hn hP, (h.frg hP).1, LAt.of E.zero fun t ht => ?_⟩
    rw [Nat.zero_add]
    exact h.pe (Nat.le_refl _) ht rfl rfl rfl (fun _ _ => rfl) (fun _ _ _ => rfl)
/-- it stays where its blocks are left alone -/
theorem PsC.far (h : PsC w v P g gb cb) (hs : w.heap.size ≤ w1.heap.size) (hg : P ≠ [] → w1.heap[g]? = w.heap[g]?) (hr : ∀ t, t < P.length → w1.heap[gb t]? = w.heap[gb t]?) (hc : ∀ t s, t < P.length → s < (rulesAt P t).length → w1.heap[cb t s]? = w.heap[cb t s]?) : PsC w1 v P g gb cb := by
  have nn : ∀ {t}, t < P.length → P ≠ [] := fun ht e => by rw [e] at ht; simp at ht
  have cg : ∀ {t}, t < P.length → ∀ o, w1.cell? ⟨g, o, none⟩ = w.cell? ⟨g, o, none⟩ := fun ht o => World.cell?_of_block (a := ⟨g, o, none⟩) (hg (nn ht))
  have cr : ∀ {t}, t < P.length → ∀ o, w1.cell? ⟨gb t, o, none⟩ = w.cell? ⟨gb t, o, none⟩ := fun {t} ht o => World.cell?_of_block (a := ⟨gb t, o, none⟩) (hr t ht)
  have cc : ∀ {t s}, t < P.length → s < (rulesAt P t).length → ∀ o, w1.cell? ⟨cb t s, o, none⟩ = w.cell? ⟨cb t s, o, none⟩ := fun {t s} ht hs o => World.cell?_of_block (a := ⟨cb t s, o, none⟩) (hc t s ht hs)
  refine ⟨h.val, fun t ht => ?_, fun t s ht hst => ?_, fun t s m ht hst hm => ?_, fun hl => ⟨by have := (h.frg hl).1; omega, fun o => (World.frozen?_of_block (a := ⟨g, o, none⟩) (hg hl)).trans ((h.frg hl).2 o)⟩, fun t ht => ⟨by have := (h.frr t ht).1; omega, (h.frr t ht).2.1, fun o => (World.frozen?_of_block (a := ⟨gb t, o, none⟩) (hr t ht)).trans ((h.frr t ht).2.2 o)⟩, fun t s ht hst => ⟨by have := (h.frc t s ht hst).1; omega, (h.frc t s ht hst).2.1, (h.frc t s ht hst).2.2.1, fun o => (World.frozen?_of_block (a := ⟨cb t s, o, none⟩) (hc t s ht hst)).trans ((h.frc t s ht hst).2.2.2 o)⟩, h.drr, h.dcc⟩
  · obtain ⟨e0, e1, c, hc', e2⟩ := h.ent t ht
    exact ⟨(cg ht _).trans e0, (cg ht _).trans e1, c, hc', (cg ht _).trans e2⟩
  · obtain ⟨c, hc', e⟩ := h.rul t s ht hst
    exact ⟨c, hc', (cr ht _).trans e⟩
  · obtain ⟨e0, e1, e2⟩ := h.con t s m ht hst hm
    exact ⟨(cc ht hst _).trans e0, (cc ht hst _).trans e1, (cc ht hst _).trans e2⟩
end
end Go.Proofs.YtoamapdfcdefjaaGreat
namespace Go.Proofs.YtoamapdfcdefjaaGreat
open Go.RowKit Go.Deep
set_option linter.unusedVariables false

theorem rb_setCells (b : Nat) : ∀ (vs : List Value) (o : Nat) (w : World), w.grownBy (w.setCells b o vs) (some b)
  | [], o, w => World.grownBy.refl _ _
  | v :: r, o, w => rb_trans (rb_set (World.grownBy.refl w (some b)) o v) (rb_setCells b r (o + 1) _)

/-- a slice of n elements at an address, with its spare cells -/
structure SlC (w : World) (size b off n cap : Nat) (olds : List Value) : Prop where
  le : n ≤ cap
  lt : b < w.heap.size
  len : olds.length = n * size
  olds : ∀ j u, olds[j]? = some u → w.cell? ⟨b, off + j, none⟩ = some u
  spare : ∀ j, j < (cap - n) * size → (w.cell? ⟨b, off + n * size + j, none⟩).isSome = true
  fr : ∀ o, w.frozen? ⟨b, o, none⟩ = false
theorem SlC.of_row {w : World} {B e size n g cap : Nat} {xs : List Value} (h : w.ownsRow B e size (.slice (some ⟨g, 0, none⟩) n cap) n xs) : SlC w size g 0 n cap xs := by
  have h0 := h
  obtain ⟨hl, h | ⟨g', cap', cur, ev, hB, hg, hn, hm, hs, ht⟩⟩ := h
  · cases h.1
  · simp only [Value.slice.injEq, Option.some.injEq, Addr.mk.injEq, and_true, true_and] at ev
    obtain ⟨rfl, rfl⟩ := ev
    refine ⟨hn, (h0.lt g rfl).2, hl, fun j u hu => ?_, fun j hj => ?_, fun o => by simp [World.frozen?, hg]⟩
    · have := h0.cells rfl j u hu
      rwa [add_at] at this
    · simp only [World.cell?, hg]
      have hlt : 0 + n * size + j < cur.size := by
        rw [hs]
        have e : cap = n + (cap - n) := by omega
        have : cap * size = n * size + (cap - n) * size := by rw [← Nat.add_mul, ← e]
        omega
      simp
      omega
theorem SlC.tail {w : World} {size b off n cap : Nat} {olds : List Value} (h : SlC w size b off (n + 1) (cap + 1) olds) : SlC w size b (off + size) n cap (olds.drop size) := by
  refine ⟨by have := h.le; omega, h.lt, by rw [List.length_drop, h.len, Nat.add_mul, Nat.one_mul, Nat.add_sub_cancel], fun j u hu => ?_, fun j hj => ?_, h.fr⟩
  · rw [List.getElem?_drop] at hu
    have := h.olds _ _ hu
    rwa [← Nat.add_assoc] at this
  · have := h.spare j (by have e : cap + 1 - (n + 1) = cap - n := by omega
                          rw [e]; exact hj)
    rwa [show off + (n + 1) * size + j = off + size + n * size + j by rw [Nat.add_mul, Nat.one_mul]; omega] at this
/-- what one append leaves -/
structure ApC (w : World) (size b off n : Nat) (xs : List Value) (w' : World) (g' o' cap' : Nat) : Prop where
  sl : SlC w' size g' o' (n + 1) cap' xs
  gr : w.grownBy w' (some b)
  cell : ∀ b' o, b' < w.heap.size → ¬ (b' = b ∧ off + n * size ≤ o) → w'.cell? ⟨b', o, none⟩ = w.cell? ⟨b', o, none⟩
  frz : ∀ b' o, b' < w.heap.size → w'.frozen? ⟨b', o, none⟩ = w.frozen? ⟨b', o, none⟩
  at' : (g' = b ∧ o' = off) ∨ (w.heap.size ≤ g' ∧ o' = 0)
theorem run_append_cells {P : Program} (w : World) (t ty : TypeId) (e : TypeId) (i : TypeInfo) (z : Value) (size bytes : Nat) (ht : P.underlying t = some (.slice e)) (hi : P.info? e = some i) (hz : i.zero = some z)
    (hsize : i.size = size) (hby : i.bytes = bytes) (hzs : z.cells.size = size) (hsz : 0 < size) {b off n cap : Nat} {olds : List Value} (h : SlC w size b off n cap olds)
    (ad : Addr) (c : Nat) (news : List Value) (hl : news.length = 1 * size) (hnews : ∀ j u, news[j]? = some u → w.cell? (ad.add j) = some u) (h1 : ∀ u ∈ news, u.oneCell' = true)
    (h63 : n + 1 ≤ maxLen) (hbytes : (n + 1) * bytes ≤ 140737488355328) :
    ∃ g' o' cap' w', (Builtin.append_ #[t, t] ty #[.slice (some ⟨b, off, none⟩) n cap, .slice (some ad) 1 c]).run P w = .ok (.slice (some ⟨g', o', none⟩) (n + 1) cap') w' ∧ ApC w size b off n (olds ++ news) w' g' o' cap' := by
  subst hsize
  rw [Nat.one_mul] at hl
  by_cases hr : n + 1 ≤ cap
  · have hsp : (cap - n) * i.size = i.size + (cap - n - 1) * i.size := by
      have : cap - n = 1 + (cap - n - 1) := by omega
      rw [this, Nat.add_mul, Nat.one_mul]; simp
    have hsome : ∀ j, j < news.length → (w.cell? ⟨b, off + n * i.size + j, none⟩).isSome = true := fun j hj => h.spare j (by omega)
    have hrun := run_append_room_cells (P := P) w t ty e i ht hi b off n cap ad 1 c news (by rw [hl, Nat.one_mul]) hnews h1 hr hsome (fun j _ => h.fr _)
    refine ⟨b, off, cap, _, hrun, ⟨hr, ?_, ?_, ?_, ?_, fun o => (World.frozen?_setCells b _ _ _ _).trans (h.fr o)⟩, rb_setCells b _ _ _, ?_, fun b' o _ => World.frozen?_setCells b _ _ _ _, .inl ⟨rfl, rfl⟩⟩
    · exact Nat.lt_of_lt_of_le h.lt (rb_setCells b news _ w).size
    · rw [List.length_append, h.len, hl, Nat.add_mul, Nat.one_mul]
    · intro j u hu
      by_cases hj : j < olds.length
      · rw [List.getElem?_append_left hj] at hu
        rw [World.cell?_setCells_out b _ _ _ _ (fun _ _ => .inl (by show off + j < off + n * i.size; have := h.len; omega))]
        exact h.olds j u hu
      · rw [List.getElem?_append_right (by omega)] at hu
        have hlt : j - olds.length < news.length := (List.getElem?_eq_some_iff.1 hu).1
        have := World.cell?_setCells_in b news (off + n * i.size) w hsome (j - olds.length) hlt
        rw [show off + n * i.size + (j - olds.length) = off + j by have := h.len; omega] at this
        rw [this, ← hu, List.getElem?_eq_getElem hlt]
    · intro j hj
      rw [World.cell?_setCells_out b _ _ _ _ (fun _ _ => .inr (by show off + n * i.size + news.length ≤ off + (n + 1) * i.size + j; rw [Nat.add_mul, Nat.one_mul, hl]; omega))]
      rw [show off + (n + 1) * i.size + j = off + n * i.size + (i.size + j) by rw [Nat.add_mul, Nat.one_mul]; omega]
      refine h.spare _ ?_
      rw [hsp, show cap - n - 1 = cap - (n + 1) by omega]; omega
    · intro b' o hb hn
      exact World.cell?_setCells_out b _ _ _ _ (fun e1 _ => .inl (by
        have e2 : b' = b := e1
        show o < off + n * i.size
        rcases Nat.lt_or_ge o (off + n * i.size) with h | h
        · exact h
        · exact absurd ⟨e2, h⟩ hn))
  · obtain ⟨v', w', hrun, r1, r2⟩ := run_append_arg_grows (P := P) w t ty e i z i.size bytes ht hi hz rfl hby hzs hsz ⟨b, off, none⟩ n cap olds h.len (fun j u hu => by rw [Addr.add_lit]; exact h.olds j u hu) ad 1 c news (by rw [hl, Nat.one_mul]) hnews (by omega) h63 hbytes
    obtain ⟨g', cap', rfl, hB, hlt⟩ := r1.form (by omega)
    have hc : ∀ k, k < w.heap.size → w'.heap[k]? = w.heap[k]? := fun k hk => r2.block k hk (by simp)
    exact ⟨g', 0, cap', w', hrun, SlC.of_row r1, ⟨r2.os, r2.tape, r2.output, r2.size, fun k hk _ => hc k hk⟩, fun b' o hb _ => World.cell?_of_block (a := ⟨b', o, none⟩) (hc b' hb), fun b' o hb => World.frozen?_of_block (a := ⟨b', o, none⟩) (hc b' hb), .inr ⟨hB, rfl⟩⟩
section
variable {P : Program} (w : World)
theorem wp_append_cells {o : Oper} {a : Act} {K : Act → World → Prop} {Q : Exit → Act → World → Prop} (s x : Operand) (t : TypeId)
    (ho : o.op = .call { callee := .builtin .append, args := #[s, x], argTypes := #[t, t] })
    (e : TypeId) (i : TypeInfo) (z : Value) (size bytes : Nat) (ht : P.underlying t = some (.slice e)) (hi : P.info? e = some i) (hz : i.zero = some z)
    (hsize : i.size = size) (hby : i.bytes = bytes) (hzs : z.cells.size = size) (hsz : 0 < size)
    (b off n cap : Nat) (olds : List Value) (hs : a.eval s = .slice (some ⟨b, off, none⟩) n cap) (h : SlC w size b off n cap olds)
    (ad : Addr) (c : Nat) (news : List Value) (hx : a.eval x = .slice (some ad) 1 c) (hl : news.length = 1 * size) (hnews : ∀ j u, news[j]? = some u → w.cell? (ad.add j) = some u) (h1 : ∀ u ∈ news, u.oneCell' = true)
    (h63 : n + 1 ≤ maxLen) (hbytes : (n + 1) * bytes ≤ 140737488355328)
    (hK : ∀ g' o' cap' w', ApC w size b off n (olds ++ news) w' g' o' cap' → K (a.put o.dst (.slice (some ⟨g', o', none⟩) (n + 1) cap')) w') : o.wp P a w K Q := by
  obtain ⟨g', o', cap', w', hr, h2⟩ := run_append_cells (P := P) w t o.type e i z size bytes ht hi hz hsize hby hzs hsz h ad c news hl hnews h1 h63 hbytes
  unfold Oper.wp execOp
  simp only [ho, resolve, invoke, builtin, Sem.run_bind, Sem.run_pure, Result.andThen_ok, List.map_toArray, List.map_cons, List.map_nil, hs, hx, hr]
  exact hK g' o' cap' w' h2
theorem wpList_append_cells {ops : Array Oper} {rest : List Oper} {o : Oper} {a : Act} {Q : Exit → Act → World → Prop} (hgd : o.guard = none) (s x : Operand) (t : TypeId)
    (ho : o.op = .call { callee := .builtin .append, args := #[s, x], argTypes := #[t, t] })
    (e : TypeId) (i : TypeInfo) (z : Value) (size bytes : Nat) (ht : P.underlying t = some (.slice e)) (hi : P.info? e = some i) (hz : i.zero = some z)
    (hsize : i.size = size) (hby : i.bytes = bytes) (hzs : z.cells.size = size) (hsz : 0 < size)
    (b off n cap : Nat) (olds : List Value) (hs : a.eval s = .slice (some ⟨b, off, none⟩) n cap) (h : SlC w size b off n cap olds)
    (ad : Addr) (c : Nat) (news : List Value) (hx : a.eval x = .slice (some ad) 1 c) (hl : news.length = 1 * size) (hnews : ∀ j u, news[j]? = some u → w.cell? (ad.add j) = some u) (h1 : ∀ u ∈ news, u.oneCell' = true)
    (h63 : n + 1 ≤ maxLen) (hbytes : (n + 1) * bytes ≤ 140737488355328)
    (hK : ∀ g' o' cap' w', ApC w size b off n (olds ++ news) w' g' o' cap' → wpList P ops Q rest (a.put o.dst (.slice (some ⟨g', o', none⟩) (n + 1) cap')) w') : wpList P ops Q (o :: rest) a w :=
  wpList_plain hgd fun _ hK' => wp_append_cells w s x t ho e i z size bytes ht hi hz hsize hby hzs hsz b off n cap olds hs h ad c news hx hl hnews h1 h63 hbytes fun g' o' cap' w' h2 => hK' _ _ (hK g' o' cap' w' h2)
theorem step_append_cells {ops : Array Oper} {o : Oper} {a : Act} {K : Act → World → Prop} {Q : Exit → Act → World → Prop} {E : Prop} (hgd : o.guard = none) (s x : Operand) (t : TypeId)
    (ho : o.op = .call { callee := .builtin .append, args := #[s, x], argTypes := #[t, t] })
    (e : TypeId) (i : TypeInfo) (z : Value) (size bytes : Nat) (ht : P.underlying t = some (.slice e)) (hi : P.info? e = some i) (hz : i.zero = some z)
    (hsize : i.size = size) (hby : i.bytes = bytes) (hzs : z.cells.size = size) (hsz : 0 < size)
    (b off n cap : Nat) (olds : List Value) (hs : a.eval s = .slice (some ⟨b, off, none⟩) n cap) (h : SlC w size b off n cap olds)
    (ad : Addr) (c : Nat) (news : List Value) (hx : a.eval x = .slice (some ad) 1 c) (hl : news.length = 1 * size) (hnews : ∀ j u, news[j]? = some u → w.cell? (ad.add j) = some u) (h1 : ∀ u ∈ news, u.oneCell' = true)
    (h63 : n + 1 ≤ maxLen) (hbytes : (n + 1) * bytes ≤ 140737488355328)
    (hK : ∀ g' o' cap' w', ApC w size b off n (olds ++ news) w' g' o' cap' → K (a.put o.dst (.slice (some ⟨g', o', none⟩) (n + 1) cap')) w') :
    if Region.wanted o (yielded ops a.tmps) = true then Oper.wp P o a w K Q else E := by
  have hw : Region.wanted o (yielded ops a.tmps) = true := by simp [Region.wanted, hgd]
  rw [if_pos hw]
  exact wp_append_cells w s x t ho e i z size bytes ht hi hz hsize hby hzs hsz b off n cap olds hs h ad c news hx hl hnews h1 h63 hbytes hK
end
end Go.Proofs.YtoamapdfcdefjaaGreat
