/-
  CONTRACTS of the law's copies of policies, third part: rules.
-/
import Derived.Test.YtjkmcdgjhfiklaaPolU
namespace Go.Proofs.Ytjkmcdgjhfiklaa
open Go.RowKit
set_option linter.unusedVariables false

/-- a copied slice in new memory -/
def NewP {α : Type} (k : Nat) (P : Nat → World → Nat → Nat → α → Prop) (l : List α) (w : World) (wrap : Value → Value) (e : Ending) (w' : World) : Prop :=
  ∃ a cap, e = .returned (wrap (.slice a l.length cap)) ∧ LSrcG w.heap.size k (P w.heap.size) w' a l ∧ Below w.heap.size w w'
theorem NewP.mk {α : Type} {k : Nat} {P : Nat → World → Nat → Nat → α → Prop} {l : List α} {w : World} {wrap : Value → Value} {w' : World} {a : Option Addr} {cap : Nat} {e : Ending} (he : e = .returned (wrap (.slice a l.length cap))) (h : LSrcG w.heap.size k (P w.heap.size) w' a l) (hb : Below w.heap.size w w') : NewP k P l w wrap e w' := ⟨a, cap, he, h, hb⟩

/-- a box of one cell -/
structure Box1 (w : World) (g : Nat) (x : Value) : Prop where
  lt : g < w.heap.size
  c0 : w.cell? ⟨g, 0, none⟩ = some x
  f0 : w.frozen? ⟨g, 0, none⟩ = false
theorem Box1.keep {w w1 : World} {g : Nat} {x : Value} (h : Box1 w g x) (hb : Below w.heap.size w w1) : Box1 w1 g x :=
  ⟨Nat.lt_of_lt_of_le h.lt hb.size, (hb.cell (p := ⟨g, 0, none⟩) h.lt).trans h.c0, (hb.frozen (p := ⟨g, 0, none⟩) h.lt).trans h.f0⟩
theorem Box1.new (w : World) (t : TypeId) (x : Value) : Box1 (w.alloc (.cells #[x] t)) w.heap.size x := ⟨by simp, by simp, by simp⟩

set_option maxRecDepth 100000 in
set_option maxHeartbeats 2000000 in
theorem toRule_any (r : List K) (a : Option Addr) (cap : Nat) (w : World) (hs : LSrc 3 PK w a r) (hn : r.length ≤ 1048576) :
    Calls Try.prog 106 #[.agg #[.slice a r.length cap]] w (NewP 3 (fun _ => PK) r w (fun v => .agg #[v])) := by
  have HC : Hid (∀ w1, Below w.heap.size w w1 → Calls Try.prog 115 #[.slice a r.length cap] w1 fun e w' => e = .returned (.slice (some ⟨w1.heap.size, 0, none⟩) r.length r.length) ∧ LAt 3 PK w' w1.heap.size 0 r ∧ w1.heap.size < w'.heap.size ∧ Below w1.heap.size w1 w') := fun w1 hb => toConS_any r a cap w1 (hs.below PK.stays hb) hn
  have HM : Hid (∀ D w1 w', w.heap.size ≤ D → D < w'.heap.size → LAt 3 PK w' D 0 r → Below w.heap.size w w' → w1 = w' → NewP 3 (fun _ => PK) r w (fun v => .agg #[v]) (.returned (.agg #[.slice (some ⟨D, 0, none⟩) r.length r.length])) w1) := fun D w1 w' hD hl h hb e => by
    subst e
    exact NewP.mk (cap := r.length) rfl (.inr ⟨D, 0, rfl, hD, hl, h⟩) hb
  have HS : Hid (∀ D D2 i v w1, D ≠ D2 → LAt 3 PK w1 D 0 r → LAt 3 PK (w1.setCell ⟨D2, i, none⟩ v) D 0 r) := fun D D2 i v w1 hne h j hj => (h j hj).far (by omega)
  clear hs
  generalize r.length = n at *
  generalize NewP 3 (fun _ => PK) r w (fun v => .agg #[v]) = Post at *
  go_enter Try.func106, Try.ntmps106
  go_wp2_with fail
  have B0 : Below w.heap.size w (((w.alloc (.cells #[.slice a n cap] 152)).alloc (.cells #[.slice none 0 0] 85)).alloc (.cells #[.slice none 0 0] 85)) := (((Below.refl _ _).alloc (Nat.le_refl _) _).alloc (by simp) _).alloc (by simp; omega) _
  have hs1 : (w.alloc (.cells #[.slice a n cap] 152)).heap.size = w.heap.size + 1 := by simp
  have hs2 : ((w.alloc (.cells #[.slice a n cap] 152)).alloc (.cells #[.slice none 0 0] 85)).heap.size = w.heap.size + 1 + 1 := by simp
  have O := (Box1.new (w.alloc (.cells #[.slice a n cap] 152)) 85 (.slice none 0 0)).keep ((Below.refl _ _).alloc (Nat.le_refl _) (.cells #[.slice none 0 0] 85))
  have P := Box1.new ((w.alloc (.cells #[.slice a n cap] 152)).alloc (.cells #[.slice none 0 0] 85)) 85 (.slice none 0 0)
  rw [hs1] at O
  rw [hs2] at P
  have hsz : (((w.alloc (.cells #[.slice a n cap] 152)).alloc (.cells #[.slice none 0 0] 85)).alloc (.cells #[.slice none 0 0] 85)).heap.size = w.heap.size + 3 := by simp
  generalize (((w.alloc (.cells #[.slice a n cap] 152)).alloc (.cells #[.slice none 0 0] 85)).alloc (.cells #[.slice none 0 0] 85)) = W at *
  refine (HC.out _ B0).mono ?_
  rintro _ w1 ⟨rfl, hL, hlt, hb1⟩
  rw [hsz] at hL hlt ⊢
  have B1 := below_step hb1 B0
  obtain ⟨ol, q0, q1⟩ := O.keep hb1
  obtain ⟨pl, r0, r1⟩ := P.keep hb1
  have L2 := HS.out (w.heap.size + 3) (w.heap.size + 1) 0 (.slice (some ⟨w.heap.size + 3, 0, none⟩) n n) _ (by omega) (HS.out (w.heap.size + 3) (w.heap.size + 1 + 1) 0 (.slice (some ⟨w.heap.size + 3, 0, none⟩) n n) w1 (by omega) hL)
  have B2 : Below w.heap.size w ((w1.setCell ⟨w.heap.size + 1 + 1, 0, none⟩ (.slice (some ⟨w.heap.size + 3, 0, none⟩) n n)).setCell ⟨w.heap.size + 1, 0, none⟩ (.slice (some ⟨w.heap.size + 3, 0, none⟩) n n)) := (B1.setCell (show w.heap.size ≤ w.heap.size + 1 + 1 by omega) _).setCell (show w.heap.size ≤ w.heap.size + 1 by omega) _
  have HE := HM.out (w.heap.size + 3) _ _ (by omega) (by simp; omega) L2 B2 rfl
  clear hL hb1 O P B0 B1 HC HM HS L2 B2 hsz hs1 hs2
  go_wp2
  exact bodyPost_ret (v := .agg #[.slice (some ⟨w.heap.size + 3, 0, none⟩) n n]) (by simp [results, Try.results106, go_sem, q0]) rfl HE

set_option maxRecDepth 100000 in
set_option maxHeartbeats 2000000 in
theorem toRuleS_any (l : List (List K)) (a : Option Addr) (cap : Nat) (w : World) (hs : LSrc 1 PR w a l) (hn : l.length ≤ 1048576) (hm : ∀ r ∈ l, r.length ≤ 1048576) :
    Calls Try.prog 90 #[.slice a l.length cap] w (NewP 1 (fun L => PRG L) l w (fun v => v)) := by
  obtain ⟨i0, hi, hz0, hz1, hz2⟩ := info_parts infoRule
  have HP : Hid (∀ wr, Below w.heap.size w wr → ∀ i, i < l.length → ∃ b o, a = some ⟨b, o, none⟩ ∧ b < w.heap.size ∧ PR wr b (o + i * 1) (l.getD i [])) := fun wr hB i hi => by
    obtain ⟨b, o, h1, h2, h3⟩ := hs.at hi []
    exact ⟨b, o, h1, h2, PR.stays _ _ _ _ _ h2 hB h3⟩
  have HC : Hid (∀ i a cap w1, i < l.length → LSrc 3 PK w1 a (l.getD i []) → Calls Try.prog 106 #[.agg #[.slice a (l.getD i []).length cap]] w1 (NewP 3 (fun _ => PK) (l.getD i []) w1 (fun v => .agg #[v]))) := fun i a cap w1 hi h => toRule_any _ a cap w1 h (hm _ (by rw [List.getD_eq_getElem?_getD, List.getElem?_eq_getElem hi]; exact List.getElem_mem hi))
  have HEnd : Hid (∀ wr, Upt 1 (PRG (w.heap.size + 1)) wr w.heap.size l.length l [] l.length → Below w.heap.size w wr → NewP 1 (fun L => PRG L) l w (fun v => v) (.returned (.slice (some ⟨w.heap.size, 0, none⟩) l.length l.length)) wr) := fun wr h hb =>
    NewP.mk (cap := l.length) rfl (.inr ⟨w.heap.size, 0, rfl, Nat.le_refl _, h.lt, fun i hi => (h.all i hi).mono (Nat.le_succ _)⟩) hb
  clear hs hm
  generalize NewP 1 (fun L => PRG L) l w (fun v => v) = Post at *
  generalize l.length = n at *
  have hmk : ∀ u : World, (Instr.makeSlice 79 (.int .i64 (n : Int)) (.int .i64 (n : Int))).run Try.prog u =
      .ok (.slice (some ⟨u.heap.size, 0, none⟩) n n) (u.alloc (.cells (madeCells #[.slice none 0 0] n) 85)) := fun u => by
    have h := run_make (P := Try.prog) u 79 85 i0 _ Try.underlying79 hi hz0 .i64 .i64 (n : Int) (n : Int) (by omega) (Int.le_refl _) (by rw [hz2]; omega) (by omega)
    simpa [hz1, Value.cells] using h
  go_enter Try.func90, Try.ntmps90
  go_wp2_with fail
  clear hmk hi hz0 hz1 hz2
  have U0 : Upt 1 (PRG (w.heap.size + 1)) (w.alloc (.cells (madeCells #[.slice none 0 0] n) 85)) w.heap.size n l [] 0 := Upt.new w _ _ n l [] (by rw [size_madeCells, Nat.mul_one])
  have B0 : Below w.heap.size w (w.alloc (.cells (madeCells #[.slice none 0 0] n) 85)) := (Below.refl _ _).alloc (Nat.le_refl _) _
  generalize w.alloc (.cells (madeCells #[.slice none 0 0] n) 85) = W at *
  go_loopw [4] (fun i wr => ∃ k : Nat, k ≤ n ∧ i = .int .i64 k ∧ Upt 1 (PRG (w.heap.size + 1)) wr w.heap.size n l [] k ∧ Below w.heap.size w wr) (fun i _ => n - (intOf i).toNat)
  case atStart => exact ⟨0, by omega, rfl, U0, B0⟩
  case round =>
    clear U0 B0
    obtain ⟨k, hk, rfl, U, B⟩ := hrel
    by_cases hkn : k < n
    · obtain ⟨b, o, rfl, hlt, a2, cap2, c0, hsr⟩ := HP.out wr B k hkn
      have hkn' : (k : Int) < (n : Int) := by omega
      have hDlt := U.lt
      have HC1 : Hid (Calls Try.prog 106 #[.agg #[.slice a2 (l.getD k []).length cap2]] wr (NewP 3 (fun _ => PK) (l.getD k []) wr (fun v => .agg #[v]))) := HC.out k a2 cap2 wr hkn hsr
      have HU : Hid (∀ w1 a3 cap3, Upt 1 (PRG (w.heap.size + 1)) w1 w.heap.size n l [] k → LSrcG wr.heap.size 3 PK w1 a3 (l.getD k []) → Upt 1 (PRG (w.heap.size + 1)) (w1.setCell ⟨w.heap.size, k, none⟩ (.slice a3 (l.getD k []).length cap3)) w.heap.size n l [] (k + 1)) := fun w1 a3 cap3 h hl => by
        obtain ⟨⟨v0, q0⟩, _⟩ := h.own (k * 1) (by omega)
        rw [Nat.mul_one] at q0
        refine (h.set (PRG.apart _) (by omega) _).next ⟨a3, cap3, ?_, ?_⟩
        · rw [Nat.mul_one]; exact World.cell?_setCell_same' _ _ _ (by rw [q0]; rfl)
        · exact (hl.mono (L' := w.heap.size + 1) (by omega) (fun _ _ _ h => h)).far fun b o x hL hx => hx.far (by omega)
      rw [Nat.mul_one] at c0
      unfold NewP at HC1
      generalize (l.getD k []).length = m at *
      clear hsr HC HP
      go_wp2_with fail
      refine (HC1.out).mono ?_
      rintro _ w1 ⟨a3, cap3, rfl, hl3, hb1⟩
      have U1 := U.keep (PRG.stays _) hb1
      have B1 := below_step hb1 B
      obtain ⟨⟨v0, q0⟩, f0⟩ := U1.own (k * 1) (by omega)
      rw [Nat.mul_one] at q0 f0
      have U2 := HU.out w1 a3 cap3 U1 hl3
      have B2 := B1.setCell (p := ⟨w.heap.size, k, none⟩) (Nat.le_refl _) (.slice a3 m cap3)
      clear c0 U B hb1 HEnd HC1 hl3
      go_wp2
      go_roundw
      case rel => exact ⟨k + 1, by omega, by go_num, U2, B2⟩
      case measure => simp [intOf]; omega
    · have hkn' : k = n := by omega
      subst hkn'
      have HE := HEnd.out _ U B
      go_wp2
      exact HE
end Go.Proofs.Ytjkmcdgjhfiklaa
