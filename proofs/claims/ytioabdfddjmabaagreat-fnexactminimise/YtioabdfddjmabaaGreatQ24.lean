/-
  CondO, PolU, PolV, PolX, PolY
-/
import Derived.Test.YtioabdfddjmabaaGreatQ02
import Derived.Test.YtioabdfddjmabaaGreatQ03
namespace Go.Proofs.YtioabdfddjmabaaGreat
open Go.RowKit
set_option linter.unusedVariables false

set_option maxHeartbeats 1000000 in
theorem toCon3 (k a b : Int) (w : World) :
    Calls Tryz.prog 135 #[.agg #[.int .i64 k, .int .u64 a, .int .u64 b]] w fun e w' => e = .returned (.agg #[.int .i64 k, .int .u64 a, .int .u64 b]) ∧ Below w.heap.size w w' := by
  go_enter Tryz.func135, Tryz.ntmps135
  go_wp2
  refine bodyPost_ret (v := .agg #[.int .i64 k, .int .u64 a, .int .u64 b]) (by simp [results, Tryz.results135, go_sem]) rfl ⟨rfl, ?_⟩
  exact (((Below.refl _ _).alloc (Nat.le_refl _) _).alloc (by simp) _).alloc (by simp; omega) _

end Go.Proofs.YtioabdfddjmabaaGreat
namespace Go.Proofs.YtioabdfddjmabaaGreat
open Go.RowKit
set_option linter.unusedVariables false

theorem infoCon : (Tryz.prog.info? 41).map (fun i => (i.zero, i.size, i.bytes)) = some (some (.agg #[.int .i64 0, .int .u64 0, .int .u64 0]), 3, 24) := by kernel_rfl
theorem infoRule : (Tryz.prog.info? 44).map (fun i => (i.zero, i.size, i.bytes)) = some (some (.agg #[.slice none 0 0]), 1, 24) := by kernel_rfl
theorem infoEntry : (Tryz.prog.info? 37).map (fun i => (i.zero, i.size, i.bytes)) = some (some (.agg #[.int .u32 0, .int .u32 0, .slice none 0 0]), 3, 32) := by kernel_rfl

set_option maxRecDepth 100000 in
set_option maxHeartbeats 2000000 in
theorem toConS_any (l : List K) (a : Option Addr) (cap : Nat) (w : World) (hs : LSrc 3 PK w a l) (hn : l.length ≤ 1048576) :
    Calls Tryz.prog 127 #[.slice a l.length cap] w fun e w' => e = .returned (.slice (some ⟨w.heap.size, 0, none⟩) l.length l.length) ∧ LAt 3 PKF w' w.heap.size 0 l ∧ w.heap.size < w'.heap.size ∧ Below w.heap.size w w' := by
  obtain ⟨i0, hi, hz0, hz1, hz2⟩ := info_parts infoCon
  have HP : Hid (∀ wr, Below w.heap.size w wr → ∀ i, i < l.length → ∃ b o, a = some ⟨b, o, none⟩ ∧ b < w.heap.size ∧ PK wr b (o + i * 3) (l.getD i K.zero)) := fun wr hB i hi => by
    obtain ⟨b, o, h1, h2, h3⟩ := hs.at hi K.zero
    exact ⟨b, o, h1, h2, PK.stays _ _ _ _ _ h2 hB h3⟩
  have HEnd : Hid (∀ wr, Upt 3 PK wr w.heap.size l.length l K.zero l.length → LAt 3 PKF wr w.heap.size 0 l) := fun wr h i hi => ⟨h.all i hi, (h.own _ (by omega)).2, (h.own _ (by omega)).2, (h.own _ (by omega)).2⟩
  clear hs
  generalize l.length = n at *
  have hmk : ∀ u : World, (Instr.makeSlice 42 (.int .i64 (n : Int)) (.int .i64 (n : Int))).run Tryz.prog u =
      .ok (.slice (some ⟨u.heap.size, 0, none⟩) n n) (u.alloc (.cells (madeCells #[.int .i64 0, .int .u64 0, .int .u64 0] (n * 3)) 41)) := fun u => by
    have h := run_make (P := Tryz.prog) u 42 41 i0 _ Tryz.underlying42 hi hz0 .i64 .i64 (n : Int) (n : Int) (by omega) (Int.le_refl _) (by rw [hz2]; omega) (by omega)
    simpa [hz1, Value.cells] using h
  go_enter Tryz.func127, Tryz.ntmps127
  go_wp2_with fail
  clear hmk hi hz0 hz1 hz2
  have U0 : Upt 3 PK (w.alloc (.cells (madeCells #[.int .i64 0, .int .u64 0, .int .u64 0] (n * 3)) 41)) w.heap.size n l K.zero 0 := Upt.new w _ _ n l K.zero (by rw [size_madeCells])
  have B0 : Below w.heap.size w (w.alloc (.cells (madeCells #[.int .i64 0, .int .u64 0, .int .u64 0] (n * 3)) 41)) := (Below.refl _ _).alloc (Nat.le_refl _) _
  generalize w.alloc (.cells (madeCells #[.int .i64 0, .int .u64 0, .int .u64 0] (n * 3)) 41) = W at *
  go_loopw [4] (fun i wr => ∃ k : Nat, k ≤ n ∧ i = .int .i64 k ∧ Upt 3 PK wr w.heap.size n l K.zero k ∧ Below w.heap.size w wr) (fun i _ => n - (intOf i).toNat)
  case atStart => exact ⟨0, by omega, rfl, U0, B0⟩
  case round =>
    clear U0 B0
    obtain ⟨k, hk, rfl, U, B⟩ := hrel
    by_cases hkn : k < n
    · obtain ⟨b, o, rfl, hlt, c0, c1, c2⟩ := HP.out wr B k hkn
      have hkn' : (k : Int) < (n : Int) := by omega
      have HU : Hid (∀ w1, Upt 3 PK w1 w.heap.size n l K.zero k → Upt 3 PK (((w1.setCell ⟨w.heap.size, k * 3, none⟩ (.int .i64 (l.getD k K.zero).kind)).setCell ⟨w.heap.size, k * 3 + 1, none⟩ (.int .u64 ((l.getD k K.zero).a : Int))).setCell ⟨w.heap.size, k * 3 + 2, none⟩ (.int .u64 ((l.getD k K.zero).b : Int))) w.heap.size n l K.zero (k + 1)) := fun w1 h => by
        obtain ⟨⟨v0, q0⟩, _⟩ := h.own (k * 3) (by omega)
        obtain ⟨⟨v1, q1⟩, _⟩ := h.own (k * 3 + 1) (by omega)
        obtain ⟨⟨v2, q2⟩, _⟩ := h.own (k * 3 + 2) (by omega)
        refine (((h.set (PK.apart _) (by omega) _).set (PK.apart _) (by omega) _).set (PK.apart _) (by omega) _).next ⟨?_, ?_, ?_⟩
        · exact cell_near (by omega) (cell_near (by omega) (World.cell?_setCell_same' _ _ _ (by rw [q0]; rfl)))
        · exact cell_near (by omega) (World.cell?_setCell_same' _ _ _ (by rw [cell_near (by omega) q1]; rfl))
        · exact World.cell?_setCell_same' _ _ _ (by rw [cell_near (by omega) (cell_near (by omega) q2)]; rfl)
      generalize l.getD k K.zero = c at *
      obtain ⟨ck, ca, cb⟩ := c
      simp only at c0 c1 c2 HU
      go_wp2_with fail
      refine (toCon3 ck ca cb _).mono ?_
      rintro e w1 ⟨rfl, hb1⟩
      have U1 := U.keep PK.stays hb1
      have B1 := below_step hb1 B
      obtain ⟨⟨v0, q0⟩, f0⟩ := U1.own (k * 3) (by omega)
      obtain ⟨⟨v1, q1⟩, f1⟩ := U1.own (k * 3 + 1) (by omega)
      obtain ⟨⟨v2, q2⟩, f2⟩ := U1.own (k * 3 + 2) (by omega)
      clear c0 c1 c2 U B hb1 HP HEnd
      go_wp2
      go_roundw
      case rel => exact ⟨k + 1, by omega, by go_num, HU.out _ U1, ((B1.setCell (Nat.le_refl _) _).setCell (Nat.le_refl _) _).setCell (Nat.le_refl _) _⟩
      case measure => simp [intOf]; omega
    · have hkn' : k = n := by omega
      subst hkn'
      go_wp2
      go_ret
      exact ⟨rfl, HEnd.out _ U, U.lt, B⟩
end Go.Proofs.YtioabdfddjmabaaGreat
namespace Go.Proofs.YtioabdfddjmabaaGreat
open Go.RowKit
set_option linter.unusedVariables false

/-- a copied slice in new memory -/
def NewP {α : Type} (k : Nat) (P : Nat → World → Nat → Nat → α → Prop) (l : List α) (w : World) (wrap : Value → Value) (e : Ending) (w' : World) : Prop :=
  ∃ a cap, e = .returned (wrap (.slice a l.length cap)) ∧ LSrcG w.heap.size k (P w.heap.size) w' a l ∧ Below w.heap.size w w'
theorem NewP.mk {α : Type} {k : Nat} {P : Nat → World → Nat → Nat → α → Prop} {l : List α} {w : World} {wrap : Value → Value} {w' : World} {a : Option Addr} {cap : Nat} {e : Ending} (he : e = .returned (wrap (.slice a l.length cap))) (h : LSrcG w.heap.size k (P w.heap.size) w' a l) (hb : Below w.heap.size w w') : NewP k P l w wrap e w' := ⟨a, cap, he, h, hb⟩

/-- a box of one cell -/
structure Box1 (w : World) (g : Nat) (x : Value) : Prop where
  lt : g < w.heap.size
  c0 : w.cell? ⟨g, 0, none⟩ = some x
  f0 : w.frozen? ⟨g, 0, none⟩ = false
theorem Box1.keep {w w1 : World} {g : Nat} {x : Value} (h : Box1 w g x) (hb : Below w.heap.size w w1) : Box1 w1 g x :=
  ⟨Nat.lt_of_lt_of_le h.lt hb.size, (hb.cell (p := ⟨g, 0, none⟩) h.lt).trans h.c0, (hb.frozen (p := ⟨g, 0, none⟩) h.lt).trans h.f0⟩
theorem Box1.new (w : World) (t : TypeId) (x : Value) : Box1 (w.alloc (.cells #[x] t)) w.heap.size x := ⟨by simp, by simp, by simp⟩

set_option maxRecDepth 100000 in
set_option maxHeartbeats 2000000 in
theorem toRule_any (r : List K) (a : Option Addr) (cap : Nat) (w : World) (hs : LSrc 3 PK w a r) (hn : r.length ≤ 1048576) :
    Calls Tryz.prog 106 #[.agg #[.slice a r.length cap]] w (NewP 3 (fun _ => PKF) r w (fun v => .agg #[v])) := by
  have HC : Hid (∀ w1, Below w.heap.size w w1 → Calls Tryz.prog 127 #[.slice a r.length cap] w1 fun e w' => e = .returned (.slice (some ⟨w1.heap.size, 0, none⟩) r.length r.length) ∧ LAt 3 PKF w' w1.heap.size 0 r ∧ w1.heap.size < w'.heap.size ∧ Below w1.heap.size w1 w') := fun w1 hb => toConS_any r a cap w1 (hs.below PK.stays hb) hn
  have HM : Hid (∀ D w1 w', w.heap.size ≤ D → D < w'.heap.size → LAt 3 PKF w' D 0 r → Below w.heap.size w w' → w1 = w' → NewP 3 (fun _ => PKF) r w (fun v => .agg #[v]) (.returned (.agg #[.slice (some ⟨D, 0, none⟩) r.length r.length])) w1) := fun D w1 w' hD hl h hb e => by
    subst e
    exact NewP.mk (cap := r.length) rfl (.inr ⟨D, 0, rfl, hD, hl, h⟩) hb
  have HS : Hid (∀ D D2 i v w1, D ≠ D2 → LAt 3 PKF w1 D 0 r → LAt 3 PKF (w1.setCell ⟨D2, i, none⟩ v) D 0 r) := fun D D2 i v w1 hne h j hj => (h j hj).far (by omega)
  clear hs
  generalize r.length = n at *
  generalize NewP 3 (fun _ => PKF) r w (fun v => .agg #[v]) = Post at *
  go_enter Tryz.func106, Tryz.ntmps106
  go_wp2_with fail
  have B0 : Below w.heap.size w (((w.alloc (.cells #[.slice a n cap] 150)).alloc (.cells #[.slice none 0 0] 44)).alloc (.cells #[.slice none 0 0] 44)) := (((Below.refl _ _).alloc (Nat.le_refl _) _).alloc (by simp) _).alloc (by simp; omega) _
  have hs1 : (w.alloc (.cells #[.slice a n cap] 150)).heap.size = w.heap.size + 1 := by simp
  have hs2 : ((w.alloc (.cells #[.slice a n cap] 150)).alloc (.cells #[.slice none 0 0] 44)).heap.size = w.heap.size + 1 + 1 := by simp
  have O := (Box1.new (w.alloc (.cells #[.slice a n cap] 150)) 44 (.slice none 0 0)).keep ((Below.refl _ _).alloc (Nat.le_refl _) (.cells #[.slice none 0 0] 44))
  have P := Box1.new ((w.alloc (.cells #[.slice a n cap] 150)).alloc (.cells #[.slice none 0 0] 44)) 44 (.slice none 0 0)
  rw [hs1] at O
  rw [hs2] at P
  have hsz : (((w.alloc (.cells #[.slice a n cap] 150)).alloc (.cells #[.slice none 0 0] 44)).alloc (.cells #[.slice none 0 0] 44)).heap.size = w.heap.size + 3 := by simp
  generalize (((w.alloc (.cells #[.slice a n cap] 150)).alloc (.cells #[.slice none 0 0] 44)).alloc (.cells #[.slice none 0 0] 44)) = W at *
  refine (HC.out _ B0).mono ?_
  rintro _ w1 ⟨rfl, hL, hlt, hb1⟩
  rw [hsz] at hL hlt ⊢
  have B1 := below_step hb1 B0
  obtain ⟨ol, q0, q1⟩ := O.keep hb1
  obtain ⟨pl, r0, r1⟩ := P.keep hb1
  have L2 := HS.out (w.heap.size + 3) (w.heap.size + 1) 0 (.slice (some ⟨w.heap.size + 3, 0, none⟩) n n) _ (by omega) (HS.out (w.heap.size + 3) (w.heap.size + 1 + 1) 0 (.slice (some ⟨w.heap.size + 3, 0, none⟩) n n) w1 (by omega) hL)
  have B2 : Below w.heap.size w ((w1.setCell ⟨w.heap.size + 1 + 1, 0, none⟩ (.slice (some ⟨w.heap.size + 3, 0, none⟩) n n)).setCell ⟨w.heap.size + 1, 0, none⟩ (.slice (some ⟨w.heap.size + 3, 0, none⟩) n n)) := (B1.setCell (show w.heap.size ≤ w.heap.size + 1 + 1 by omega) _).setCell (show w.heap.size ≤ w.heap.size + 1 by omega) _
  have HE := HM.out (w.heap.size + 3) _ _ (by omega) (by simp; omega) L2 B2 rfl
  clear hL hb1 O P B0 B1 HC HM HS L2 B2 hsz hs1 hs2
  go_wp2
  exact bodyPost_ret (v := .agg #[.slice (some ⟨w.heap.size + 3, 0, none⟩) n n]) (by simp [results, Tryz.results106, go_sem, q0]) rfl HE

set_option maxRecDepth 100000 in
set_option maxHeartbeats 2000000 in
theorem toRuleS_any (l : List (List K)) (a : Option Addr) (cap : Nat) (w : World) (hs : LSrc 1 PR w a l) (hn : l.length ≤ 1048576) (hm : ∀ r ∈ l, r.length ≤ 1048576) :
    Calls Tryz.prog 85 #[.slice a l.length cap] w (NewP 1 (fun L => PRG L) l w (fun v => v)) := by
  obtain ⟨i0, hi, hz0, hz1, hz2⟩ := info_parts infoRule
  have HP : Hid (∀ wr, Below w.heap.size w wr → ∀ i, i < l.length → ∃ b o, a = some ⟨b, o, none⟩ ∧ b < w.heap.size ∧ PR wr b (o + i * 1) (l.getD i [])) := fun wr hB i hi => by
    obtain ⟨b, o, h1, h2, h3⟩ := hs.at hi []
    exact ⟨b, o, h1, h2, PR.stays _ _ _ _ _ h2 hB h3⟩
  have HC : Hid (∀ i a cap w1, i < l.length → LSrc 3 PK w1 a (l.getD i []) → Calls Tryz.prog 106 #[.agg #[.slice a (l.getD i []).length cap]] w1 (NewP 3 (fun _ => PKF) (l.getD i []) w1 (fun v => .agg #[v]))) := fun i a cap w1 hi h => toRule_any _ a cap w1 h (hm _ (by rw [List.getD_eq_getElem?_getD, List.getElem?_eq_getElem hi]; exact List.getElem_mem hi))
  have HEnd : Hid (∀ wr, Upt 1 (PRG (w.heap.size + 1)) wr w.heap.size l.length l [] l.length → Below w.heap.size w wr → NewP 1 (fun L => PRG L) l w (fun v => v) (.returned (.slice (some ⟨w.heap.size, 0, none⟩) l.length l.length)) wr) := fun wr h hb =>
    NewP.mk (cap := l.length) rfl (.inr ⟨w.heap.size, 0, rfl, Nat.le_refl _, h.lt, fun i hi => (h.all i hi).mono (Nat.le_succ _)⟩) hb
  clear hs hm
  generalize NewP 1 (fun L => PRG L) l w (fun v => v) = Post at *
  generalize l.length = n at *
  have hmk : ∀ u : World, (Instr.makeSlice 35 (.int .i64 (n : Int)) (.int .i64 (n : Int))).run Tryz.prog u =
      .ok (.slice (some ⟨u.heap.size, 0, none⟩) n n) (u.alloc (.cells (madeCells #[.slice none 0 0] n) 44)) := fun u => by
    have h := run_make (P := Tryz.prog) u 35 44 i0 _ Tryz.underlying35 hi hz0 .i64 .i64 (n : Int) (n : Int) (by omega) (Int.le_refl _) (by rw [hz2]; omega) (by omega)
    simpa [hz1, Value.cells] using h
  go_enter Tryz.func85, Tryz.ntmps85
  go_wp2_with fail
  clear hmk hi hz0 hz1 hz2
  have U0 : Upt 1 (PRG (w.heap.size + 1)) (w.alloc (.cells (madeCells #[.slice none 0 0] n) 44)) w.heap.size n l [] 0 := Upt.new w _ _ n l [] (by rw [size_madeCells, Nat.mul_one])
  have B0 : Below w.heap.size w (w.alloc (.cells (madeCells #[.slice none 0 0] n) 44)) := (Below.refl _ _).alloc (Nat.le_refl _) _
  generalize w.alloc (.cells (madeCells #[.slice none 0 0] n) 44) = W at *
  go_loopw [4] (fun i wr => ∃ k : Nat, k ≤ n ∧ i = .int .i64 k ∧ Upt 1 (PRG (w.heap.size + 1)) wr w.heap.size n l [] k ∧ Below w.heap.size w wr) (fun i _ => n - (intOf i).toNat)
  case atStart => exact ⟨0, by omega, rfl, U0, B0⟩
  case round =>
    clear U0 B0
    obtain ⟨k, hk, rfl, U, B⟩ := hrel
    by_cases hkn : k < n
    · obtain ⟨b, o, rfl, hlt, a2, cap2, c0, hsr⟩ := HP.out wr B k hkn
      have hkn' : (k : Int) < (n : Int) := by omega
      have hDlt := U.lt
      have HC1 : Hid (Calls Tryz.prog 106 #[.agg #[.slice a2 (l.getD k []).length cap2]] wr (NewP 3 (fun _ => PKF) (l.getD k []) wr (fun v => .agg #[v]))) := HC.out k a2 cap2 wr hkn hsr
      have HU : Hid (∀ w1 a3 cap3, Upt 1 (PRG (w.heap.size + 1)) w1 w.heap.size n l [] k → LSrcG wr.heap.size 3 PKF w1 a3 (l.getD k []) → Upt 1 (PRG (w.heap.size + 1)) (w1.setCell ⟨w.heap.size, k, none⟩ (.slice a3 (l.getD k []).length cap3)) w.heap.size n l [] (k + 1)) := fun w1 a3 cap3 h hl => by
        obtain ⟨⟨v0, q0⟩, _⟩ := h.own (k * 1) (by omega)
        rw [Nat.mul_one] at q0
        refine (h.set (PRG.apart _) (by omega) _).next ⟨a3, cap3, ?_, ?_⟩
        · rw [Nat.mul_one]; exact World.cell?_setCell_same' _ _ _ (by rw [q0]; rfl)
        · exact (hl.mono (L' := w.heap.size + 1) (by omega) (fun _ _ _ h => h)).far fun b o x hL hx => hx.far (by omega)
      rw [Nat.mul_one] at c0
      unfold NewP at HC1
      generalize (l.getD k []).length = m at *
      clear hsr HC HP
      go_wp2_with fail
      refine (HC1.out).mono ?_
      rintro _ w1 ⟨a3, cap3, rfl, hl3, hb1⟩
      have U1 := U.keep (PRG.stays _) hb1
      have B1 := below_step hb1 B
      obtain ⟨⟨v0, q0⟩, f0⟩ := U1.own (k * 1) (by omega)
      rw [Nat.mul_one] at q0 f0
      have U2 := HU.out w1 a3 cap3 U1 hl3
      have B2 := B1.setCell (p := ⟨w.heap.size, k, none⟩) (Nat.le_refl _) (.slice a3 m cap3)
      clear c0 U B hb1 HEnd HC1 hl3
      go_wp2
      go_roundw
      case rel => exact ⟨k + 1, by omega, by go_num, U2, B2⟩
      case measure => simp [intOf]; omega
    · have hkn' : k = n := by omega
      subst hkn'
      have HE := HEnd.out _ U B
      go_wp2
      exact HE
end Go.Proofs.YtioabdfddjmabaaGreat
namespace Go.Proofs.YtioabdfddjmabaaGreat
open Go.RowKit
set_option linter.unusedVariables false

set_option maxRecDepth 100000 in
set_option maxHeartbeats 2000000 in
theorem toEntry_any (e : E) (a : Option Addr) (cap : Nat) (w : World) (hs : LSrc 1 PR w a e.rules) (hn : e.rules.length ≤ 1048576) (hm : ∀ r ∈ e.rules, r.length ≤ 1048576) :
    Calls Tryz.prog 58 #[.agg #[.int .u32 e.arch, .int .u32 e.nr, .slice a e.rules.length cap]] w (NewP 1 (fun L => PRG L) e.rules w (fun v => .agg #[.int .u32 e.arch, .int .u32 e.nr, v])) := by
  obtain ⟨arch, nr, rules⟩ := e
  simp only at *
  have HC : Hid (∀ w1, Below w.heap.size w w1 → Calls Tryz.prog 85 #[.slice a rules.length cap] w1 (NewP 1 (fun L => PRG L) rules w1 (fun v => v))) := fun w1 hb => toRuleS_any rules a cap w1 (hs.below PR.stays hb) hn hm
  have HM : Hid (∀ a2 cap2 w1, LSrcG w.heap.size 1 (PRG w.heap.size) w1 a2 rules → Below w.heap.size w w1 → NewP 1 (fun L => PRG L) rules w (fun v => .agg #[.int .u32 arch, .int .u32 nr, v]) (.returned (.agg #[.int .u32 arch, .int .u32 nr, .slice a2 rules.length cap2])) w1) := fun a2 cap2 w1 h hb => NewP.mk (cap := cap2) rfl h hb
  have HS : Hid (∀ L D i v w1 a2, D < L → LSrcG L 1 (PRG L) w1 a2 rules → LSrcG L 1 (PRG L) (w1.setCell ⟨D, i, none⟩ v) a2 rules) := fun L D i v w1 a2 hD h => PRG.rules_far hD h
  have HL : Hid (∀ w1 a2, LSrcG (w.heap.size + 3) 1 (PRG (w.heap.size + 3)) w1 a2 rules → LSrcG w.heap.size 1 (PRG w.heap.size) w1 a2 rules) := fun w1 a2 h => h.mono (by omega) (fun _ _ _ h => h.mono (by omega))
  clear hs hm
  unfold NewP at HC
  generalize NewP 1 (fun L => PRG L) rules w (fun v => .agg #[.int .u32 arch, .int .u32 nr, v]) = Post at *
  generalize rules.length = n at *
  go_enter Tryz.func58, Tryz.ntmps58
  go_wp2_with fail
  have B0 : Below w.heap.size w (((w.alloc (.cells #[.int .u32 arch, .int .u32 nr, .slice a n cap] 97)).alloc (.cells #[.int .u32 0, .int .u32 0, .slice none 0 0] 37)).alloc (.cells #[.int .u32 arch, .int .u32 nr, .slice none 0 0] 37)) := (((Below.refl _ _).alloc (Nat.le_refl _) _).alloc (by simp) _).alloc (by simp; omega) _
  have hs1 : (w.alloc (.cells #[.int .u32 arch, .int .u32 nr, .slice a n cap] 97)).heap.size = w.heap.size + 1 := by simp
  have hs2 : ((w.alloc (.cells #[.int .u32 arch, .int .u32 nr, .slice a n cap] 97)).alloc (.cells #[.int .u32 0, .int .u32 0, .slice none 0 0] 37)).heap.size = w.heap.size + 1 + 1 := by simp
  have O := (BoxK.new (w.alloc (.cells #[.int .u32 arch, .int .u32 nr, .slice a n cap] 97)) 37 (.int .u32 0) (.int .u32 0) (.slice none 0 0)).alloc (.cells #[.int .u32 arch, .int .u32 nr, .slice none 0 0] 37)
  have P := BoxK.new ((w.alloc (.cells #[.int .u32 arch, .int .u32 nr, .slice a n cap] 97)).alloc (.cells #[.int .u32 0, .int .u32 0, .slice none 0 0] 37)) 37 (.int .u32 arch) (.int .u32 nr) (.slice none 0 0)
  rw [hs1] at O
  rw [hs2] at P
  have hsz : (((w.alloc (.cells #[.int .u32 arch, .int .u32 nr, .slice a n cap] 97)).alloc (.cells #[.int .u32 0, .int .u32 0, .slice none 0 0] 37)).alloc (.cells #[.int .u32 arch, .int .u32 nr, .slice none 0 0] 37)).heap.size = w.heap.size + 3 := by simp
  generalize (((w.alloc (.cells #[.int .u32 arch, .int .u32 nr, .slice a n cap] 97)).alloc (.cells #[.int .u32 0, .int .u32 0, .slice none 0 0] 37)).alloc (.cells #[.int .u32 arch, .int .u32 nr, .slice none 0 0] 37)) = W at *
  refine (HC.out _ B0).mono ?_
  rintro _ w1 ⟨a2, cap2, rfl, hL, hb1⟩
  rw [hsz] at hL
  have B1 := below_step hb1 B0
  obtain ⟨ol, o0, o1, o2, of0, of1, of2⟩ := O.keep hb1
  obtain ⟨pl, p0, p1, p2, pf0, pf1, pf2⟩ := P.keep hb1
  have L1 := HS.out _ (w.heap.size + 1 + 1) 2 (.slice a2 n cap2) w1 a2 (by omega) hL
  have L2 := HS.out _ (w.heap.size + 1) 0 (.int .u32 arch) _ a2 (by omega) L1
  have L3 := HS.out _ (w.heap.size + 1) 1 (.int .u32 nr) _ a2 (by omega) L2
  have L4 := HS.out _ (w.heap.size + 1) 2 (.slice a2 n cap2) _ a2 (by omega) L3
  have B2 := below_set3 (B1.setCell (p := ⟨w.heap.size + 1 + 1, 2, none⟩) (show w.heap.size ≤ w.heap.size + 1 + 1 by omega) (.slice a2 n cap2)) (show w.heap.size ≤ w.heap.size + 1 by omega) (.int .u32 arch) (.int .u32 nr) (.slice a2 n cap2)
  have HE := HM.out a2 cap2 _ (HL.out _ _ L4) B2
  clear hL hb1 O P B0 B1 HC HM HS HL L1 L2 L3 L4 B2 hsz hs1 hs2
  go_wp2
  exact bodyPost_ret (v := .agg #[.int .u32 arch, .int .u32 nr, .slice a2 n cap2]) (by simp [results, Tryz.results58, go_sem, o0, o1, o2]) rfl HE
end Go.Proofs.YtioabdfddjmabaaGreat
namespace Go.Proofs.YtioabdfddjmabaaGreat
open Go.RowKit
set_option linter.unusedVariables false

set_option maxRecDepth 100000 in
set_option maxHeartbeats 2000000 in
theorem toEntryS_any (l : List E) (a : Option Addr) (cap : Nat) (w : World) (hs : LSrc 3 PE w a l) (hn : l.length ≤ 1048576) (hm : ∀ e ∈ l, e.rules.length ≤ 1048576 ∧ ∀ r ∈ e.rules, r.length ≤ 1048576) :
    Calls Tryz.prog 31 #[.slice a l.length cap] w (NewP 3 (fun L => PEG L) l w (fun v => v)) := by
  obtain ⟨i0, hi, hz0, hz1, hz2⟩ := info_parts infoEntry
  have HP : Hid (∀ wr, Below w.heap.size w wr → ∀ i, i < l.length → ∃ b o, a = some ⟨b, o, none⟩ ∧ b < w.heap.size ∧ PE wr b (o + i * 3) (l.getD i E.zero)) := fun wr hB i hi => by
    obtain ⟨b, o, h1, h2, h3⟩ := hs.at hi E.zero
    exact ⟨b, o, h1, h2, PE.stays _ _ _ _ _ h2 hB h3⟩
  have HC : Hid (∀ i a cap w1, i < l.length → LSrc 1 PR w1 a (l.getD i E.zero).rules → Calls Tryz.prog 58 #[.agg #[.int .u32 (l.getD i E.zero).arch, .int .u32 (l.getD i E.zero).nr, .slice a (l.getD i E.zero).rules.length cap]] w1 (NewP 1 (fun L => PRG L) (l.getD i E.zero).rules w1 (fun v => .agg #[.int .u32 (l.getD i E.zero).arch, .int .u32 (l.getD i E.zero).nr, v]))) := fun i a cap w1 hi h => by
    have he : l.getD i E.zero ∈ l := by rw [List.getD_eq_getElem?_getD, List.getElem?_eq_getElem hi]; exact List.getElem_mem hi
    exact toEntry_any _ a cap w1 h (hm _ he).1 (hm _ he).2
  have HEnd : Hid (∀ wr, Upt 3 (PEG (w.heap.size + 1)) wr w.heap.size l.length l E.zero l.length → Below w.heap.size w wr → NewP 3 (fun L => PEG L) l w (fun v => v) (.returned (.slice (some ⟨w.heap.size, 0, none⟩) l.length l.length)) wr) := fun wr h hb =>
    NewP.mk (cap := l.length) rfl (.inr ⟨w.heap.size, 0, rfl, Nat.le_refl _, h.lt, fun i hi => (h.all i hi).mono (Nat.le_succ _)⟩) hb
  clear hs hm
  generalize NewP 3 (fun L => PEG L) l w (fun v => v) = Post at *
  generalize l.length = n at *
  have hmk : ∀ u : World, (Instr.makeSlice 23 (.int .i64 (n : Int)) (.int .i64 (n : Int))).run Tryz.prog u =
      .ok (.slice (some ⟨u.heap.size, 0, none⟩) n n) (u.alloc (.cells (madeCells #[.int .u32 0, .int .u32 0, .slice none 0 0] (n * 3)) 37)) := fun u => by
    have h := run_make (P := Tryz.prog) u 23 37 i0 _ Tryz.underlying23 hi hz0 .i64 .i64 (n : Int) (n : Int) (by omega) (Int.le_refl _) (by rw [hz2]; omega) (by omega)
    simpa [hz1, Value.cells] using h
  go_enter Tryz.func31, Tryz.ntmps31
  go_wp2_with fail
  clear hmk hi hz0 hz1 hz2
  have U0 : Upt 3 (PEG (w.heap.size + 1)) (w.alloc (.cells (madeCells #[.int .u32 0, .int .u32 0, .slice none 0 0] (n * 3)) 37)) w.heap.size n l E.zero 0 := Upt.new w _ _ n l E.zero (by rw [size_madeCells])
  have B0 : Below w.heap.size w (w.alloc (.cells (madeCells #[.int .u32 0, .int .u32 0, .slice none 0 0] (n * 3)) 37)) := (Below.refl _ _).alloc (Nat.le_refl _) _
  generalize w.alloc (.cells (madeCells #[.int .u32 0, .int .u32 0, .slice none 0 0] (n * 3)) 37) = W at *
  go_loopw [4] (fun i wr => ∃ k : Nat, k ≤ n ∧ i = .int .i64 k ∧ Upt 3 (PEG (w.heap.size + 1)) wr w.heap.size n l E.zero k ∧ Below w.heap.size w wr) (fun i _ => n - (intOf i).toNat)
  case atStart => exact ⟨0, by omega, rfl, U0, B0⟩
  case round =>
    clear U0 B0
    obtain ⟨k, hk, rfl, U, B⟩ := hrel
    by_cases hkn : k < n
    · obtain ⟨b, o, rfl, hlt, c0, c1, a2, cap2, c2, hsr⟩ := HP.out wr B k hkn
      have hkn' : (k : Int) < (n : Int) := by omega
      have hDlt := U.lt
      have HC1 := HC.out k a2 cap2 wr hkn hsr
      have HU : Hid (∀ w1 a3 cap3, Upt 3 (PEG (w.heap.size + 1)) w1 w.heap.size n l E.zero k → LSrcG wr.heap.size 1 (PRG wr.heap.size) w1 a3 (l.getD k E.zero).rules → Upt 3 (PEG (w.heap.size + 1)) (((w1.setCell ⟨w.heap.size, k * 3, none⟩ (.int .u32 (l.getD k E.zero).arch)).setCell ⟨w.heap.size, k * 3 + 1, none⟩ (.int .u32 (l.getD k E.zero).nr)).setCell ⟨w.heap.size, k * 3 + 2, none⟩ (.slice a3 (l.getD k E.zero).rules.length cap3)) w.heap.size n l E.zero (k + 1)) := fun w1 a3 cap3 h hl => by
        obtain ⟨⟨v0, q0⟩, z0⟩ := h.own (k * 3) (by omega)
        obtain ⟨⟨v1, q1⟩, z1⟩ := h.own (k * 3 + 1) (by omega)
        obtain ⟨⟨v2, q2⟩, _⟩ := h.own (k * 3 + 2) (by omega)
        refine (((h.set (PEG.apart _) (by omega) _).set (PEG.apart _) (by omega) _).set (PEG.apart _) (by omega) _).next ⟨?_, ?_, ⟨frz_set (frz_set (frz_set z0)), frz_set (frz_set (frz_set z1))⟩, a3, cap3, ?_, ?_⟩
        · exact cell_near (by omega) (cell_near (by omega) (World.cell?_setCell_same' _ _ _ (by rw [q0]; rfl)))
        · exact cell_near (by omega) (World.cell?_setCell_same' _ _ _ (by rw [cell_near (by omega) q1]; rfl))
        · exact World.cell?_setCell_same' _ _ _ (by rw [cell_near (by omega) (cell_near (by omega) q2)]; rfl)
        · have h1 : LSrcG (w.heap.size + 1) 1 (PRG (w.heap.size + 1)) w1 a3 (l.getD k E.zero).rules := hl.mono (by omega) (fun _ _ _ h => h.mono (by omega))
          exact PRG.rules_far (by omega) (PRG.rules_far (by omega) (PRG.rules_far (by omega) h1))
      unfold NewP at HC1
      clear hsr HC HP
      generalize l.getD k E.zero = e at *
      obtain ⟨arch, nr, rules⟩ := e
      simp only at c0 c1 c2 HC1 HU
      have HC2 : Hid (Calls Tryz.prog 58 #[.agg #[.int .u32 arch, .int .u32 nr, .slice a2 rules.length cap2]] wr fun e w' => ∃ a cap, e = .returned (.agg #[.int .u32 arch, .int .u32 nr, .slice a rules.length cap]) ∧ LSrcG wr.heap.size 1 (PRG wr.heap.size) w' a rules ∧ Below wr.heap.size wr w') := HC1
      clear HC1
      generalize rules.length = m at *
      go_wp2_with fail
      refine (HC2.out).mono ?_
      rintro _ w1 ⟨a3, cap3, rfl, hl3, hb1⟩
      have U1 := U.keep (PEG.stays _) hb1
      have B1 := below_step hb1 B
      obtain ⟨⟨v0, q0⟩, f0⟩ := U1.own (k * 3) (by omega)
      obtain ⟨⟨v1, q1⟩, f1⟩ := U1.own (k * 3 + 1) (by omega)
      obtain ⟨⟨v2, q2⟩, f2⟩ := U1.own (k * 3 + 2) (by omega)
      have U2 := HU.out w1 a3 cap3 U1 hl3
      have B2 := ((B1.setCell (p := ⟨w.heap.size, k * 3, none⟩) (Nat.le_refl _) (.int .u32 arch)).setCell (p := ⟨w.heap.size, k * 3 + 1, none⟩) (Nat.le_refl _) (.int .u32 nr)).setCell (p := ⟨w.heap.size, k * 3 + 2, none⟩) (Nat.le_refl _) (.slice a3 m cap3)
      clear c0 c1 c2 U B hb1 HEnd HC2 hl3
      go_wp2
      go_roundw
      case rel => exact ⟨k + 1, by omega, by go_num, U2, B2⟩
      case measure => simp [intOf]; omega
    · have hkn' : k = n := by omega
      subst hkn'
      have HE := HEnd.out _ U B
      go_wp2
      exact HE

set_option maxRecDepth 100000 in
set_option maxHeartbeats 2000000 in
theorem toPolicy_any (r : List E) (a : Option Addr) (cap : Nat) (w : World) (hs : LSrc 3 PE w a r) (hn : r.length ≤ 1048576) (hm : ∀ e ∈ r, e.rules.length ≤ 1048576 ∧ ∀ r ∈ e.rules, r.length ≤ 1048576) :
    Calls Tryz.prog 13 #[.agg #[.slice a r.length cap]] w (NewP 3 (fun L => PEG L) r w (fun v => .agg #[v])) := by
  have HC : Hid (∀ w1, Below w.heap.size w w1 → Calls Tryz.prog 31 #[.slice a r.length cap] w1 (NewP 3 (fun L => PEG L) r w1 (fun v => v))) := fun w1 hb => toEntryS_any r a cap w1 (hs.below PE.stays hb) hn hm
  have HM : Hid (∀ a2 cap2 w1, LSrcG w.heap.size 3 (PEG w.heap.size) w1 a2 r → Below w.heap.size w w1 → NewP 3 (fun L => PEG L) r w (fun v => .agg #[v]) (.returned (.agg #[.slice a2 r.length cap2])) w1) := fun a2 cap2 w1 h hb => NewP.mk (cap := cap2) rfl h hb
  have HS : Hid (∀ L D i v w1 a2, D < L → LSrcG L 3 (PEG L) w1 a2 r → LSrcG L 3 (PEG L) (w1.setCell ⟨D, i, none⟩ v) a2 r) := fun L D i v w1 a2 hD h => h.far fun b o x hL hx => by
    obtain ⟨h0, h1, f, a, cap, h2, h3⟩ := hx
    exact ⟨cell_far (by omega) h0, cell_far (by omega) h1, ⟨frz_set f.1, frz_set f.2⟩, a, cap, cell_far (by omega) h2, PRG.rules_far hD h3⟩
  have HL : Hid (∀ w1 a2, LSrcG (w.heap.size + 3) 3 (PEG (w.heap.size + 3)) w1 a2 r → LSrcG w.heap.size 3 (PEG w.heap.size) w1 a2 r) := fun w1 a2 h => h.mono (by omega) (fun _ _ _ h => h.mono (by omega))
  unfold NewP at HC
  clear hs hm
  generalize NewP 3 (fun L => PEG L) r w (fun v => .agg #[v]) = Post at *
  generalize r.length = n at *
  go_enter Tryz.func13, Tryz.ntmps13
  go_wp2_with fail
  have B0 : Below w.heap.size w (((w.alloc (.cells #[.slice a n cap] 49)).alloc (.cells #[.slice none 0 0] 25)).alloc (.cells #[.slice none 0 0] 25)) := (((Below.refl _ _).alloc (Nat.le_refl _) _).alloc (by simp) _).alloc (by simp; omega) _
  have hs1 : (w.alloc (.cells #[.slice a n cap] 49)).heap.size = w.heap.size + 1 := by simp
  have hs2 : ((w.alloc (.cells #[.slice a n cap] 49)).alloc (.cells #[.slice none 0 0] 25)).heap.size = w.heap.size + 1 + 1 := by simp
  have O := (Box1.new (w.alloc (.cells #[.slice a n cap] 49)) 25 (.slice none 0 0)).keep ((Below.refl _ _).alloc (Nat.le_refl _) (.cells #[.slice none 0 0] 25))
  have P := Box1.new ((w.alloc (.cells #[.slice a n cap] 49)).alloc (.cells #[.slice none 0 0] 25)) 25 (.slice none 0 0)
  rw [hs1] at O
  rw [hs2] at P
  have hsz : (((w.alloc (.cells #[.slice a n cap] 49)).alloc (.cells #[.slice none 0 0] 25)).alloc (.cells #[.slice none 0 0] 25)).heap.size = w.heap.size + 3 := by simp
  generalize (((w.alloc (.cells #[.slice a n cap] 49)).alloc (.cells #[.slice none 0 0] 25)).alloc (.cells #[.slice none 0 0] 25)) = W at *
  refine (HC.out _ B0).mono ?_
  rintro _ w1 ⟨a2, cap2, rfl, hL, hb1⟩
  rw [hsz] at hL
  have B1 := below_step hb1 B0
  obtain ⟨ol, q0, q1⟩ := O.keep hb1
  obtain ⟨pl, r0, r1⟩ := P.keep hb1
  have L1 := HS.out _ (w.heap.size + 1 + 1) 0 (.slice a2 n cap2) w1 a2 (by omega) hL
  have L2 := HS.out _ (w.heap.size + 1) 0 (.slice a2 n cap2) _ a2 (by omega) L1
  have B2 := (B1.setCell (p := ⟨w.heap.size + 1 + 1, 0, none⟩) (show w.heap.size ≤ w.heap.size + 1 + 1 by omega) (.slice a2 n cap2)).setCell (p := ⟨w.heap.size + 1, 0, none⟩) (show w.heap.size ≤ w.heap.size + 1 by omega) (.slice a2 n cap2)
  have HE := HM.out a2 cap2 _ (HL.out _ _ L2) B2
  clear hL hb1 O P B0 B1 HC HM HS HL L1 L2 B2 hsz hs1 hs2
  go_wp2
  exact bodyPost_ret (v := .agg #[.slice a2 n cap2]) (by simp [results, Tryz.results13, go_sem, q0]) rfl HE
end Go.Proofs.YtioabdfddjmabaaGreat
