/-
  PolV, PolX, PolY, PolZ
-/
import Derived.Test.YtoopomjkapeknaaQ23
import Derived.Test.YtoopomjkapeknaaQ08
namespace Go.Proofs.Ytoopomjkapeknaa
open Go.RowKit
set_option linter.unusedVariables false

/-- a copied slice in new memory -/
def NewP {α : Type} (k : Nat) (P : Nat → World → Nat → Nat → α → Prop) (l : List α) (w : World) (wrap : Value → Value) (e : Ending) (w' : World) : Prop :=
  ∃ a cap, e = .returned (wrap (.slice a l.length cap)) ∧ (LSrcG w.heap.size k (P w.heap.size) w' a l ∧ l.length ≤ cap) ∧ Below w.heap.size w w'
theorem NewP.mk {α : Type} {k : Nat} {P : Nat → World → Nat → Nat → α → Prop} {l : List α} {w : World} {wrap : Value → Value} {w' : World} {a : Option Addr} {cap : Nat} {e : Ending} (he : e = .returned (wrap (.slice a l.length cap))) (h : LSrcG w.heap.size k (P w.heap.size) w' a l) (hc : l.length ≤ cap) (hb : Below w.heap.size w w') : NewP k P l w wrap e w' := ⟨a, cap, he, ⟨h, hc⟩, hb⟩

/-- a box of one cell -/
structure Box1 (w : World) (g : Nat) (x : Value) : Prop where
  lt : g < w.heap.size
  c0 : w.cell? ⟨g, 0, none⟩ = some x
  f0 : w.frozen? ⟨g, 0, none⟩ = false
theorem Box1.keep {w w1 : World} {g : Nat} {x : Value} (h : Box1 w g x) (hb : Below w.heap.size w w1) : Box1 w1 g x :=
  ⟨Nat.lt_of_lt_of_le h.lt hb.size, (hb.cell (p := ⟨g, 0, none⟩) h.lt).trans h.c0, (hb.frozen (p := ⟨g, 0, none⟩) h.lt).trans h.f0⟩
theorem Box1.new (w : World) (t : TypeId) (x : Value) : Box1 (w.alloc (.cells #[x] t)) w.heap.size x := ⟨by simp, by simp, by simp⟩

set_option maxRecDepth 100000 in
set_option maxHeartbeats 2000000 in
theorem toRule_any (r : List K) (a : Option Addr) (cap : Nat) (w : World) (hs : LSrc 3 PK w a r) (hn : r.length ≤ 1048576) :
    Calls Try.prog 68 #[.agg #[.slice a r.length cap]] w (NewP 3 (fun _ => PKF) r w (fun v => .agg #[v])) := by
  have HC : Hid (∀ w1, Below w.heap.size w w1 → Calls Try.prog 78 #[.slice a r.length cap] w1 fun e w' => e = .returned (.slice (some ⟨w1.heap.size, 0, none⟩) r.length r.length) ∧ LAt 3 PKF w' w1.heap.size 0 r ∧ w1.heap.size < w'.heap.size ∧ Below w1.heap.size w1 w') := fun w1 hb => toConS_any r a cap w1 (hs.below PK.stays hb) hn
  have HM : Hid (∀ D w1 w', w.heap.size ≤ D → D < w'.heap.size → LAt 3 PKF w' D 0 r → Below w.heap.size w w' → w1 = w' → NewP 3 (fun _ => PKF) r w (fun v => .agg #[v]) (.returned (.agg #[.slice (some ⟨D, 0, none⟩) r.length r.length])) w1) := fun D w1 w' hD hl h hb e => by
    subst e
    exact NewP.mk (cap := r.length) rfl (.inr ⟨D, 0, rfl, hD, hl, h⟩) (Nat.le_refl _) hb
  have HS : Hid (∀ D D2 i v w1, D ≠ D2 → LAt 3 PKF w1 D 0 r → LAt 3 PKF (w1.setCell ⟨D2, i, none⟩ v) D 0 r) := fun D D2 i v w1 hne h j hj => (h j hj).far (by omega)
  clear hs
  generalize r.length = n at *
  generalize NewP 3 (fun _ => PKF) r w (fun v => .agg #[v]) = Post at *
  go_enter Try.func68, Try.ntmps68
  go_wp2_with fail
  have B0 : Below w.heap.size w (((w.alloc (.cells #[.slice a n cap] 116)).alloc (.cells #[.slice none 0 0] 64)).alloc (.cells #[.slice none 0 0] 64)) := (((Below.refl _ _).alloc (Nat.le_refl _) _).alloc (by simp) _).alloc (by simp; omega) _
  have hs1 : (w.alloc (.cells #[.slice a n cap] 116)).heap.size = w.heap.size + 1 := by simp
  have hs2 : ((w.alloc (.cells #[.slice a n cap] 116)).alloc (.cells #[.slice none 0 0] 64)).heap.size = w.heap.size + 1 + 1 := by simp
  have O := (Box1.new (w.alloc (.cells #[.slice a n cap] 116)) 64 (.slice none 0 0)).keep ((Below.refl _ _).alloc (Nat.le_refl _) (.cells #[.slice none 0 0] 64))
  have P := Box1.new ((w.alloc (.cells #[.slice a n cap] 116)).alloc (.cells #[.slice none 0 0] 64)) 64 (.slice none 0 0)
  rw [hs1] at O
  rw [hs2] at P
  have hsz : (((w.alloc (.cells #[.slice a n cap] 116)).alloc (.cells #[.slice none 0 0] 64)).alloc (.cells #[.slice none 0 0] 64)).heap.size = w.heap.size + 3 := by simp
  generalize (((w.alloc (.cells #[.slice a n cap] 116)).alloc (.cells #[.slice none 0 0] 64)).alloc (.cells #[.slice none 0 0] 64)) = W at *
  refine (HC.out _ B0).mono ?_
  rintro _ w1 ⟨rfl, hL, hlt, hb1⟩
  rw [hsz] at hL hlt ⊢
  have B1 := below_step hb1 B0
  obtain ⟨ol, q0, q1⟩ := O.keep hb1
  obtain ⟨pl, r0, r1⟩ := P.keep hb1
  have L2 := HS.out (w.heap.size + 3) (w.heap.size + 1) 0 (.slice (some ⟨w.heap.size + 3, 0, none⟩) n n) _ (by omega) (HS.out (w.heap.size + 3) (w.heap.size + 1 + 1) 0 (.slice (some ⟨w.heap.size + 3, 0, none⟩) n n) w1 (by omega) hL)
  have B2 : Below w.heap.size w ((w1.setCell ⟨w.heap.size + 1 + 1, 0, none⟩ (.slice (some ⟨w.heap.size + 3, 0, none⟩) n n)).setCell ⟨w.heap.size + 1, 0, none⟩ (.slice (some ⟨w.heap.size + 3, 0, none⟩) n n)) := (B1.setCell (show w.heap.size ≤ w.heap.size + 1 + 1 by omega) _).setCell (show w.heap.size ≤ w.heap.size + 1 by omega) _
  have HE := HM.out (w.heap.size + 3) _ _ (by omega) (by simp; omega) L2 B2 rfl
  clear hL hb1 O P B0 B1 HC HM HS L2 B2 hsz hs1 hs2
  go_wp2
  exact bodyPost_ret (v := .agg #[.slice (some ⟨w.heap.size + 3, 0, none⟩) n n]) (by simp [results, Try.results68, go_sem, q0]) rfl HE

set_option maxRecDepth 100000 in
set_option maxHeartbeats 2000000 in
theorem toRuleS_any (l : List (List K)) (a : Option Addr) (cap : Nat) (w : World) (hs : LSrc 1 PR w a l) (hn : l.length ≤ 1048576) (hm : ∀ r ∈ l, r.length ≤ 1048576) :
    Calls Try.prog 51 #[.slice a l.length cap] w (NewP 1 (fun L => PRG L) l w (fun v => v)) := by
  obtain ⟨i0, hi, hz0, hz1, hz2⟩ := info_parts infoRule
  have HP : Hid (∀ wr, Below w.heap.size w wr → ∀ i, i < l.length → ∃ b o, a = some ⟨b, o, none⟩ ∧ b < w.heap.size ∧ PR wr b (o + i * 1) (l.getD i [])) := fun wr hB i hi => by
    obtain ⟨b, o, h1, h2, h3⟩ := hs.at hi []
    exact ⟨b, o, h1, h2, PR.stays _ _ _ _ _ h2 hB h3⟩
  have HC : Hid (∀ i a cap w1, i < l.length → LSrc 3 PK w1 a (l.getD i []) → Calls Try.prog 68 #[.agg #[.slice a (l.getD i []).length cap]] w1 (NewP 3 (fun _ => PKF) (l.getD i []) w1 (fun v => .agg #[v]))) := fun i a cap w1 hi h => toRule_any _ a cap w1 h (hm _ (by rw [List.getD_eq_getElem?_getD, List.getElem?_eq_getElem hi]; exact List.getElem_mem hi))
  have HEnd : Hid (∀ wr, Upt 1 (PRG (w.heap.size + 1)) wr w.heap.size l.length l [] l.length → Below w.heap.size w wr → NewP 1 (fun L => PRG L) l w (fun v => v) (.returned (.slice (some ⟨w.heap.size, 0, none⟩) l.length l.length)) wr) := fun wr h hb =>
    NewP.mk (cap := l.length) rfl (.inr ⟨w.heap.size, 0, rfl, Nat.le_refl _, h.lt, fun i hi => (h.all i hi).mono (Nat.le_succ _)⟩) (Nat.le_refl _) hb
  clear hs hm
  generalize NewP 1 (fun L => PRG L) l w (fun v => v) = Post at *
  generalize l.length = n at *
  have hmk : ∀ u : World, (Instr.makeSlice 58 (.int .i64 (n : Int)) (.int .i64 (n : Int))).run Try.prog u =
      .ok (.slice (some ⟨u.heap.size, 0, none⟩) n n) (u.alloc (.cells (madeCells #[.slice none 0 0] n) 64)) := fun u => by
    have h := run_make (P := Try.prog) u 58 64 i0 _ Try.underlying58 hi hz0 .i64 .i64 (n : Int) (n : Int) (by omega) (Int.le_refl _) (by rw [hz2]; omega) (by omega)
    simpa [hz1, Value.cells] using h
  go_enter Try.func51, Try.ntmps51
  go_wp2_with fail
  clear hmk hi hz0 hz1 hz2
  have U0 : Upt 1 (PRG (w.heap.size + 1)) (w.alloc (.cells (madeCells #[.slice none 0 0] n) 64)) w.heap.size n l [] 0 := Upt.new w _ _ n l [] (by rw [size_madeCells, Nat.mul_one])
  have B0 : Below w.heap.size w (w.alloc (.cells (madeCells #[.slice none 0 0] n) 64)) := (Below.refl _ _).alloc (Nat.le_refl _) _
  generalize w.alloc (.cells (madeCells #[.slice none 0 0] n) 64) = W at *
  go_loopw [4] (fun i wr => ∃ k : Nat, k ≤ n ∧ i = .int .i64 k ∧ Upt 1 (PRG (w.heap.size + 1)) wr w.heap.size n l [] k ∧ Below w.heap.size w wr) (fun i _ => n - (intOf i).toNat)
  case atStart => exact ⟨0, by omega, rfl, U0, B0⟩
  case round =>
    clear U0 B0
    obtain ⟨k, hk, rfl, U, B⟩ := hrel
    by_cases hkn : k < n
    · obtain ⟨b, o, rfl, hlt, a2, cap2, c0, hsr⟩ := HP.out wr B k hkn
      have hkn' : (k : Int) < (n : Int) := by omega
      have hDlt := U.lt
      have HC1 : Hid (Calls Try.prog 68 #[.agg #[.slice a2 (l.getD k []).length cap2]] wr (NewP 3 (fun _ => PKF) (l.getD k []) wr (fun v => .agg #[v]))) := HC.out k a2 cap2 wr hkn hsr
      have HU : Hid (∀ w1 a3 cap3, Upt 1 (PRG (w.heap.size + 1)) w1 w.heap.size n l [] k → LSrcG wr.heap.size 3 PKF w1 a3 (l.getD k []) → Upt 1 (PRG (w.heap.size + 1)) (w1.setCell ⟨w.heap.size, k, none⟩ (.slice a3 (l.getD k []).length cap3)) w.heap.size n l [] (k + 1)) := fun w1 a3 cap3 h hl => by
        obtain ⟨⟨v0, q0⟩, _⟩ := h.own (k * 1) (by omega)
        rw [Nat.mul_one] at q0
        refine (h.set (PRG.apart _) (by omega) _).next ⟨a3, cap3, ?_, ?_⟩
        · rw [Nat.mul_one]; exact World.cell?_setCell_same' _ _ _ (by rw [q0]; rfl)
        · exact (hl.mono (L' := w.heap.size + 1) (by omega) (fun _ _ _ h => h)).far fun b o x hL hx => hx.far (by omega)
      rw [Nat.mul_one] at c0
      unfold NewP at HC1
      generalize (l.getD k []).length = m at *
      clear hsr HC HP
      go_wp2_with fail
      refine (HC1.out).mono ?_
      rintro _ w1 ⟨a3, cap3, rfl, ⟨hl3, hc3⟩, hb1⟩
      have U1 := U.keep (PRG.stays _) hb1
      have B1 := below_step hb1 B
      obtain ⟨⟨v0, q0⟩, f0⟩ := U1.own (k * 1) (by omega)
      rw [Nat.mul_one] at q0 f0
      have U2 := HU.out w1 a3 cap3 U1 hl3
      have B2 := B1.setCell (p := ⟨w.heap.size, k, none⟩) (Nat.le_refl _) (.slice a3 m cap3)
      clear c0 U B hb1 HEnd HC1 hl3 hc3
      go_wp2
      go_roundw
      case rel => exact ⟨k + 1, by omega, by go_num, U2, B2⟩
      case measure => simp [intOf]; omega
    · have hkn' : k = n := by omega
      subst hkn'
      have HE := HEnd.out _ U B
      go_wp2
      exact HE
end Go.Proofs.Ytoopomjkapeknaa
namespace Go.Proofs.Ytoopomjkapeknaa
open Go.RowKit
set_option linter.unusedVariables false

set_option maxRecDepth 100000 in
set_option maxHeartbeats 2000000 in
theorem toEntry_any (e : E) (a : Option Addr) (cap : Nat) (w : World) (hs : LSrc 1 PR w a e.rules) (hn : e.rules.length ≤ 1048576) (hm : ∀ r ∈ e.rules, r.length ≤ 1048576) :
    Calls Try.prog 34 #[.agg #[.int .u32 e.arch, .int .u32 e.nr, .slice a e.rules.length cap]] w (NewP 1 (fun L => PRG L) e.rules w (fun v => .agg #[.int .u32 e.arch, .int .u32 e.nr, v])) := by
  obtain ⟨arch, nr, rules⟩ := e
  simp only at *
  have HC : Hid (∀ w1, Below w.heap.size w w1 → Calls Try.prog 51 #[.slice a rules.length cap] w1 (NewP 1 (fun L => PRG L) rules w1 (fun v => v))) := fun w1 hb => toRuleS_any rules a cap w1 (hs.below PR.stays hb) hn hm
  have HM : Hid (∀ a2 cap2 w1, LSrcG w.heap.size 1 (PRG w.heap.size) w1 a2 rules → rules.length ≤ cap2 → Below w.heap.size w w1 → NewP 1 (fun L => PRG L) rules w (fun v => .agg #[.int .u32 arch, .int .u32 nr, v]) (.returned (.agg #[.int .u32 arch, .int .u32 nr, .slice a2 rules.length cap2])) w1) := fun a2 cap2 w1 h hc hb => NewP.mk (cap := cap2) rfl h hc hb
  have HS : Hid (∀ L D i v w1 a2, D < L → LSrcG L 1 (PRG L) w1 a2 rules → LSrcG L 1 (PRG L) (w1.setCell ⟨D, i, none⟩ v) a2 rules) := fun L D i v w1 a2 hD h => PRG.rules_far hD h
  have HL : Hid (∀ w1 a2, LSrcG (w.heap.size + 3) 1 (PRG (w.heap.size + 3)) w1 a2 rules → LSrcG w.heap.size 1 (PRG w.heap.size) w1 a2 rules) := fun w1 a2 h => h.mono (by omega) (fun _ _ _ h => h.mono (by omega))
  clear hs hm
  unfold NewP at HC
  generalize NewP 1 (fun L => PRG L) rules w (fun v => .agg #[.int .u32 arch, .int .u32 nr, v]) = Post at *
  generalize rules.length = n at *
  go_enter Try.func34, Try.ntmps34
  go_wp2_with fail
  have B0 : Below w.heap.size w (((w.alloc (.cells #[.int .u32 arch, .int .u32 nr, .slice a n cap] 57)).alloc (.cells #[.int .u32 0, .int .u32 0, .slice none 0 0] 60)).alloc (.cells #[.int .u32 arch, .int .u32 nr, .slice none 0 0] 60)) := (((Below.refl _ _).alloc (Nat.le_refl _) _).alloc (by simp) _).alloc (by simp; omega) _
  have hs1 : (w.alloc (.cells #[.int .u32 arch, .int .u32 nr, .slice a n cap] 57)).heap.size = w.heap.size + 1 := by simp
  have hs2 : ((w.alloc (.cells #[.int .u32 arch, .int .u32 nr, .slice a n cap] 57)).alloc (.cells #[.int .u32 0, .int .u32 0, .slice none 0 0] 60)).heap.size = w.heap.size + 1 + 1 := by simp
  have O := (BoxK.new (w.alloc (.cells #[.int .u32 arch, .int .u32 nr, .slice a n cap] 57)) 60 (.int .u32 0) (.int .u32 0) (.slice none 0 0)).alloc (.cells #[.int .u32 arch, .int .u32 nr, .slice none 0 0] 60)
  have P := BoxK.new ((w.alloc (.cells #[.int .u32 arch, .int .u32 nr, .slice a n cap] 57)).alloc (.cells #[.int .u32 0, .int .u32 0, .slice none 0 0] 60)) 60 (.int .u32 arch) (.int .u32 nr) (.slice none 0 0)
  rw [hs1] at O
  rw [hs2] at P
  have hsz : (((w.alloc (.cells #[.int .u32 arch, .int .u32 nr, .slice a n cap] 57)).alloc (.cells #[.int .u32 0, .int .u32 0, .slice none 0 0] 60)).alloc (.cells #[.int .u32 arch, .int .u32 nr, .slice none 0 0] 60)).heap.size = w.heap.size + 3 := by simp
  generalize (((w.alloc (.cells #[.int .u32 arch, .int .u32 nr, .slice a n cap] 57)).alloc (.cells #[.int .u32 0, .int .u32 0, .slice none 0 0] 60)).alloc (.cells #[.int .u32 arch, .int .u32 nr, .slice none 0 0] 60)) = W at *
  refine (HC.out _ B0).mono ?_
  rintro _ w1 ⟨a2, cap2, rfl, ⟨hL, hc2⟩, hb1⟩
  rw [hsz] at hL
  have B1 := below_step hb1 B0
  obtain ⟨ol, o0, o1, o2, of0, of1, of2⟩ := O.keep hb1
  obtain ⟨pl, p0, p1, p2, pf0, pf1, pf2⟩ := P.keep hb1
  have L1 := HS.out _ (w.heap.size + 1 + 1) 2 (.slice a2 n cap2) w1 a2 (by omega) hL
  have L2 := HS.out _ (w.heap.size + 1) 0 (.int .u32 arch) _ a2 (by omega) L1
  have L3 := HS.out _ (w.heap.size + 1) 1 (.int .u32 nr) _ a2 (by omega) L2
  have L4 := HS.out _ (w.heap.size + 1) 2 (.slice a2 n cap2) _ a2 (by omega) L3
  have B2 := below_set3 (B1.setCell (p := ⟨w.heap.size + 1 + 1, 2, none⟩) (show w.heap.size ≤ w.heap.size + 1 + 1 by omega) (.slice a2 n cap2)) (show w.heap.size ≤ w.heap.size + 1 by omega) (.int .u32 arch) (.int .u32 nr) (.slice a2 n cap2)
  have HE := HM.out a2 cap2 _ (HL.out _ _ L4) hc2 B2
  clear hL hc2 hb1 O P B0 B1 HC HM HS HL L1 L2 L3 L4 B2 hsz hs1 hs2
  go_wp2
  exact bodyPost_ret (v := .agg #[.int .u32 arch, .int .u32 nr, .slice a2 n cap2]) (by simp [results, Try.results34, go_sem, o0, o1, o2]) rfl HE
end Go.Proofs.Ytoopomjkapeknaa
namespace Go.Proofs.Ytoopomjkapeknaa
open Go.RowKit
set_option linter.unusedVariables false

set_option maxRecDepth 100000 in
set_option maxHeartbeats 2000000 in
theorem toEntryS_any (l : List E) (a : Option Addr) (cap : Nat) (w : World) (hs : LSrc 3 PE w a l) (hn : l.length ≤ 1048576) (hm : ∀ e ∈ l, e.rules.length ≤ 1048576 ∧ ∀ r ∈ e.rules, r.length ≤ 1048576) :
    Calls Try.prog 17 #[.slice a l.length cap] w (NewP 3 (fun L => PEG L) l w (fun v => v)) := by
  obtain ⟨i0, hi, hz0, hz1, hz2⟩ := info_parts infoEntry
  have HP : Hid (∀ wr, Below w.heap.size w wr → ∀ i, i < l.length → ∃ b o, a = some ⟨b, o, none⟩ ∧ b < w.heap.size ∧ PE wr b (o + i * 3) (l.getD i E.zero)) := fun wr hB i hi => by
    obtain ⟨b, o, h1, h2, h3⟩ := hs.at hi E.zero
    exact ⟨b, o, h1, h2, PE.stays _ _ _ _ _ h2 hB h3⟩
  have HC : Hid (∀ i a cap w1, i < l.length → LSrc 1 PR w1 a (l.getD i E.zero).rules → Calls Try.prog 34 #[.agg #[.int .u32 (l.getD i E.zero).arch, .int .u32 (l.getD i E.zero).nr, .slice a (l.getD i E.zero).rules.length cap]] w1 (NewP 1 (fun L => PRG L) (l.getD i E.zero).rules w1 (fun v => .agg #[.int .u32 (l.getD i E.zero).arch, .int .u32 (l.getD i E.zero).nr, v]))) := fun i a cap w1 hi h => by
    have he : l.getD i E.zero ∈ l := by rw [List.getD_eq_getElem?_getD, List.getElem?_eq_getElem hi]; exact List.getElem_mem hi
    exact toEntry_any _ a cap w1 h (hm _ he).1 (hm _ he).2
  have HEnd : Hid (∀ wr, Upt 3 (PEG (w.heap.size + 1)) wr w.heap.size l.length l E.zero l.length → Below w.heap.size w wr → NewP 3 (fun L => PEG L) l w (fun v => v) (.returned (.slice (some ⟨w.heap.size, 0, none⟩) l.length l.length)) wr) := fun wr h hb =>
    NewP.mk (cap := l.length) rfl (.inr ⟨w.heap.size, 0, rfl, Nat.le_refl _, h.lt, fun i hi => (h.all i hi).mono (Nat.le_succ _)⟩) (Nat.le_refl _) hb
  clear hs hm
  generalize NewP 3 (fun L => PEG L) l w (fun v => v) = Post at *
  generalize l.length = n at *
  have hmk : ∀ u : World, (Instr.makeSlice 29 (.int .i64 (n : Int)) (.int .i64 (n : Int))).run Try.prog u =
      .ok (.slice (some ⟨u.heap.size, 0, none⟩) n n) (u.alloc (.cells (madeCells #[.int .u32 0, .int .u32 0, .slice none 0 0] (n * 3)) 60)) := fun u => by
    have h := run_make (P := Try.prog) u 29 60 i0 _ Try.underlying29 hi hz0 .i64 .i64 (n : Int) (n : Int) (by omega) (Int.le_refl _) (by rw [hz2]; omega) (by omega)
    simpa [hz1, Value.cells] using h
  go_enter Try.func17, Try.ntmps17
  go_wp2_with fail
  clear hmk hi hz0 hz1 hz2
  have U0 : Upt 3 (PEG (w.heap.size + 1)) (w.alloc (.cells (madeCells #[.int .u32 0, .int .u32 0, .slice none 0 0] (n * 3)) 60)) w.heap.size n l E.zero 0 := Upt.new w _ _ n l E.zero (by rw [size_madeCells])
  have B0 : Below w.heap.size w (w.alloc (.cells (madeCells #[.int .u32 0, .int .u32 0, .slice none 0 0] (n * 3)) 60)) := (Below.refl _ _).alloc (Nat.le_refl _) _
  generalize w.alloc (.cells (madeCells #[.int .u32 0, .int .u32 0, .slice none 0 0] (n * 3)) 60) = W at *
  go_loopw [4] (fun i wr => ∃ k : Nat, k ≤ n ∧ i = .int .i64 k ∧ Upt 3 (PEG (w.heap.size + 1)) wr w.heap.size n l E.zero k ∧ Below w.heap.size w wr) (fun i _ => n - (intOf i).toNat)
  case atStart => exact ⟨0, by omega, rfl, U0, B0⟩
  case round =>
    clear U0 B0
    obtain ⟨k, hk, rfl, U, B⟩ := hrel
    by_cases hkn : k < n
    · obtain ⟨b, o, rfl, hlt, c0, c1, a2, cap2, c2, hsr⟩ := HP.out wr B k hkn
      have hkn' : (k : Int) < (n : Int) := by omega
      have hDlt := U.lt
      have HC1 := HC.out k a2 cap2 wr hkn hsr
      have HU : Hid (∀ w1 a3 cap3, Upt 3 (PEG (w.heap.size + 1)) w1 w.heap.size n l E.zero k → LSrcG wr.heap.size 1 (PRG wr.heap.size) w1 a3 (l.getD k E.zero).rules → (l.getD k E.zero).rules.length ≤ cap3 → Upt 3 (PEG (w.heap.size + 1)) (((w1.setCell ⟨w.heap.size, k * 3, none⟩ (.int .u32 (l.getD k E.zero).arch)).setCell ⟨w.heap.size, k * 3 + 1, none⟩ (.int .u32 (l.getD k E.zero).nr)).setCell ⟨w.heap.size, k * 3 + 2, none⟩ (.slice a3 (l.getD k E.zero).rules.length cap3)) w.heap.size n l E.zero (k + 1)) := fun w1 a3 cap3 h hl hc3 => by
        obtain ⟨⟨v0, q0⟩, z0⟩ := h.own (k * 3) (by omega)
        obtain ⟨⟨v1, q1⟩, z1⟩ := h.own (k * 3 + 1) (by omega)
        obtain ⟨⟨v2, q2⟩, _⟩ := h.own (k * 3 + 2) (by omega)
        refine (((h.set (PEG.apart _) (by omega) _).set (PEG.apart _) (by omega) _).set (PEG.apart _) (by omega) _).next ⟨?_, ?_, ⟨frz_set (frz_set (frz_set z0)), frz_set (frz_set (frz_set z1))⟩, a3, cap3, ?_, ?_, hc3⟩
        · exact cell_near (by omega) (cell_near (by omega) (World.cell?_setCell_same' _ _ _ (by rw [q0]; rfl)))
        · exact cell_near (by omega) (World.cell?_setCell_same' _ _ _ (by rw [cell_near (by omega) q1]; rfl))
        · exact World.cell?_setCell_same' _ _ _ (by rw [cell_near (by omega) (cell_near (by omega) q2)]; rfl)
        · have h1 : LSrcG (w.heap.size + 1) 1 (PRG (w.heap.size + 1)) w1 a3 (l.getD k E.zero).rules := hl.mono (by omega) (fun _ _ _ h => h.mono (by omega))
          exact PRG.rules_far (by omega) (PRG.rules_far (by omega) (PRG.rules_far (by omega) h1))
      unfold NewP at HC1
      clear hsr HC HP
      generalize l.getD k E.zero = e at *
      obtain ⟨arch, nr, rules⟩ := e
      simp only at c0 c1 c2 HC1 HU
      have HC2 : Hid (Calls Try.prog 34 #[.agg #[.int .u32 arch, .int .u32 nr, .slice a2 rules.length cap2]] wr fun e w' => ∃ a cap, e = .returned (.agg #[.int .u32 arch, .int .u32 nr, .slice a rules.length cap]) ∧ (LSrcG wr.heap.size 1 (PRG wr.heap.size) w' a rules ∧ rules.length ≤ cap) ∧ Below wr.heap.size wr w') := HC1
      clear HC1
      generalize rules.length = m at *
      go_wp2_with fail
      refine (HC2.out).mono ?_
      rintro _ w1 ⟨a3, cap3, rfl, ⟨hl3, hc3⟩, hb1⟩
      have U1 := U.keep (PEG.stays _) hb1
      have B1 := below_step hb1 B
      obtain ⟨⟨v0, q0⟩, f0⟩ := U1.own (k * 3) (by omega)
      obtain ⟨⟨v1, q1⟩, f1⟩ := U1.own (k * 3 + 1) (by omega)
      obtain ⟨⟨v2, q2⟩, f2⟩ := U1.own (k * 3 + 2) (by omega)
      have U2 := HU.out w1 a3 cap3 U1 hl3 hc3
      have B2 := ((B1.setCell (p := ⟨w.heap.size, k * 3, none⟩) (Nat.le_refl _) (.int .u32 arch)).setCell (p := ⟨w.heap.size, k * 3 + 1, none⟩) (Nat.le_refl _) (.int .u32 nr)).setCell (p := ⟨w.heap.size, k * 3 + 2, none⟩) (Nat.le_refl _) (.slice a3 m cap3)
      clear c0 c1 c2 U B hb1 HEnd HC2 hl3 hc3
      go_wp2
      go_roundw
      case rel => exact ⟨k + 1, by omega, by go_num, U2, B2⟩
      case measure => simp [intOf]; omega
    · have hkn' : k = n := by omega
      subst hkn'
      have HE := HEnd.out _ U B
      go_wp2
      exact HE

set_option maxRecDepth 100000 in
set_option maxHeartbeats 2000000 in
theorem toPolicy_any (r : List E) (a : Option Addr) (cap : Nat) (w : World) (hs : LSrc 3 PE w a r) (hn : r.length ≤ 1048576) (hm : ∀ e ∈ r, e.rules.length ≤ 1048576 ∧ ∀ r ∈ e.rules, r.length ≤ 1048576) :
    Calls Try.prog 6 #[.agg #[.slice a r.length cap]] w (NewP 3 (fun L => PEG L) r w (fun v => .agg #[v])) := by
  have HC : Hid (∀ w1, Below w.heap.size w w1 → Calls Try.prog 17 #[.slice a r.length cap] w1 (NewP 3 (fun L => PEG L) r w1 (fun v => v))) := fun w1 hb => toEntryS_any r a cap w1 (hs.below PE.stays hb) hn hm
  have HM : Hid (∀ a2 cap2 w1, LSrcG w.heap.size 3 (PEG w.heap.size) w1 a2 r → r.length ≤ cap2 → Below w.heap.size w w1 → NewP 3 (fun L => PEG L) r w (fun v => .agg #[v]) (.returned (.agg #[.slice a2 r.length cap2])) w1) := fun a2 cap2 w1 h hc hb => NewP.mk (cap := cap2) rfl h hc hb
  have HS : Hid (∀ L D i v w1 a2, D < L → LSrcG L 3 (PEG L) w1 a2 r → LSrcG L 3 (PEG L) (w1.setCell ⟨D, i, none⟩ v) a2 r) := fun L D i v w1 a2 hD h => h.far fun b o x hL hx => by
    obtain ⟨h0, h1, f, a, cap, h2, h3, h4⟩ := hx
    exact ⟨cell_far (by omega) h0, cell_far (by omega) h1, ⟨frz_set f.1, frz_set f.2⟩, a, cap, cell_far (by omega) h2, PRG.rules_far hD h3, h4⟩
  have HL : Hid (∀ w1 a2, LSrcG (w.heap.size + 3) 3 (PEG (w.heap.size + 3)) w1 a2 r → LSrcG w.heap.size 3 (PEG w.heap.size) w1 a2 r) := fun w1 a2 h => h.mono (by omega) (fun _ _ _ h => h.mono (by omega))
  unfold NewP at HC
  clear hs hm
  generalize NewP 3 (fun L => PEG L) r w (fun v => .agg #[v]) = Post at *
  generalize r.length = n at *
  go_enter Try.func6, Try.ntmps6
  go_wp2_with fail
  have B0 : Below w.heap.size w (((w.alloc (.cells #[.slice a n cap] 24)).alloc (.cells #[.slice none 0 0] 31)).alloc (.cells #[.slice none 0 0] 31)) := (((Below.refl _ _).alloc (Nat.le_refl _) _).alloc (by simp) _).alloc (by simp; omega) _
  have hs1 : (w.alloc (.cells #[.slice a n cap] 24)).heap.size = w.heap.size + 1 := by simp
  have hs2 : ((w.alloc (.cells #[.slice a n cap] 24)).alloc (.cells #[.slice none 0 0] 31)).heap.size = w.heap.size + 1 + 1 := by simp
  have O := (Box1.new (w.alloc (.cells #[.slice a n cap] 24)) 31 (.slice none 0 0)).keep ((Below.refl _ _).alloc (Nat.le_refl _) (.cells #[.slice none 0 0] 31))
  have P := Box1.new ((w.alloc (.cells #[.slice a n cap] 24)).alloc (.cells #[.slice none 0 0] 31)) 31 (.slice none 0 0)
  rw [hs1] at O
  rw [hs2] at P
  have hsz : (((w.alloc (.cells #[.slice a n cap] 24)).alloc (.cells #[.slice none 0 0] 31)).alloc (.cells #[.slice none 0 0] 31)).heap.size = w.heap.size + 3 := by simp
  generalize (((w.alloc (.cells #[.slice a n cap] 24)).alloc (.cells #[.slice none 0 0] 31)).alloc (.cells #[.slice none 0 0] 31)) = W at *
  refine (HC.out _ B0).mono ?_
  rintro _ w1 ⟨a2, cap2, rfl, ⟨hL, hc2⟩, hb1⟩
  rw [hsz] at hL
  have B1 := below_step hb1 B0
  obtain ⟨ol, q0, q1⟩ := O.keep hb1
  obtain ⟨pl, r0, r1⟩ := P.keep hb1
  have L1 := HS.out _ (w.heap.size + 1 + 1) 0 (.slice a2 n cap2) w1 a2 (by omega) hL
  have L2 := HS.out _ (w.heap.size + 1) 0 (.slice a2 n cap2) _ a2 (by omega) L1
  have B2 := (B1.setCell (p := ⟨w.heap.size + 1 + 1, 0, none⟩) (show w.heap.size ≤ w.heap.size + 1 + 1 by omega) (.slice a2 n cap2)).setCell (p := ⟨w.heap.size + 1, 0, none⟩) (show w.heap.size ≤ w.heap.size + 1 by omega) (.slice a2 n cap2)
  have HE := HM.out a2 cap2 _ (HL.out _ _ L2) hc2 B2
  clear hL hc2 hb1 O P B0 B1 HC HM HS HL L1 L2 B2 hsz hs1 hs2
  go_wp2
  exact bodyPost_ret (v := .agg #[.slice a2 n cap2]) (by simp [results, Try.results6, go_sem, q0]) rfl HE
end Go.Proofs.Ytoopomjkapeknaa
namespace Go.Proofs.Ytoopomjkapeknaa
open Go.RowKit
set_option linter.unusedVariables false

def sumBy {α : Type} (f : α → Nat) : List α → Nat
  | [] => 0
  | x :: l => f x + sumBy f l
theorem sumBy_take {α : Type} (f : α → Nat) {l : List α} {k : Nat} (h : k < l.length) (d : α) : sumBy f (l.take (k + 1)) = sumBy f (l.take k) + f (l.getD k d) := by
  induction l generalizing k with
  | nil => simp at h
  | cons x l ih =>
    cases k with
    | zero => simp [sumBy]
    | succ k =>
      have := ih (k := k) (by simpa using h)
      simp only [List.take_succ_cons, sumBy, List.getD_cons_succ] at *
      omega
theorem sumBy_take_le {α : Type} (f : α → Nat) (l : List α) (k : Nat) : sumBy f (l.take k) ≤ sumBy f l := by
  induction l generalizing k with
  | nil => simp
  | cons x l ih =>
    cases k with
    | zero => simp [sumBy]
    | succ k => have := ih k; simp only [List.take_succ_cons, sumBy]; omega
theorem sumBy_mem {α : Type} (f : α → Nat) {l : List α} {x : α} (h : x ∈ l) : f x ≤ sumBy f l := by
  induction l with
  | nil => simp at h
  | cons y l ih =>
    simp only [List.mem_cons] at h
    rcases h with rfl | h
    · simp [sumBy]
    · have := ih h; simp [sumBy]; omega
def sizeRs (l : List (List K)) : Nat := l.length + sumBy List.length l
def sizeE (e : E) : Nat := sizeRs e.rules
def sizeP (p : List E) : Nat := p.length + sumBy sizeE p
/-- what is left, or -1 -/
def szF (left : Int) (s : Nat) : Int := if left < s then -1 else left - s
theorem szF_no {left : Int} {s : Nat} (h : left < s) : szF left s = -1 := if_pos h
theorem szF_yes {left : Int} {s : Nat} (h : ¬ left < s) : szF left s = left - s := if_neg h

set_option maxHeartbeats 1000000 in
theorem szConS_any (a : Option Addr) (n cap : Nat) (left : Int) (w : World) (hn : n ≤ 9223372036854775807) (h0 : 0 ≤ left) (h1 : left ≤ 1048576) :
    Calls Try.prog 76 #[.slice a n cap, .int .i64 left] w fun e w' => e = .returned (.int .i64 (szF left n)) ∧ Below w.heap.size w w' := by
  by_cases h : left < n
  · rw [szF_no h]
    have h' : left - (n : Int) < 0 := by omega
    go_enter Try.func76, Try.ntmps76
    go_wp2
    go_ret
    exact ⟨rfl, Below.refl _ _⟩
  · rw [szF_yes h]
    have h' : ¬ left - (n : Int) < 0 := by omega
    go_enter Try.func76, Try.ntmps76
    go_wp2
    go_ret
    exact ⟨rfl, Below.refl _ _⟩

set_option maxRecDepth 100000 in
set_option maxHeartbeats 1000000 in
theorem szRule_any (r : List K) (a : Option Addr) (cap : Nat) (left : Int) (w : World) (hn : r.length ≤ 9223372036854775807) (h0 : 0 ≤ left) (h1 : left ≤ 1048576) :
    Calls Try.prog 66 #[.agg #[.slice a r.length cap], .int .i64 left] w fun e w' => e = .returned (.int .i64 (szF left r.length)) ∧ Below w.heap.size w w' := by
  have HC : Hid (∀ w1, Below w.heap.size w w1 → Calls Try.prog 76 #[.slice a r.length cap, .int .i64 left] w1 fun e w' => e = .returned (.int .i64 (szF left r.length)) ∧ Below w1.heap.size w1 w') := fun w1 hb => szConS_any a r.length cap left w1 hn h0 h1
  have B : Below w.heap.size w (w.alloc (.cells #[.slice a r.length cap] 116)) := (Below.refl _ _).alloc (Nat.le_refl _) _
  clear hn
  generalize r.length = s at *
  by_cases h : left < s
  · rw [szF_no h] at HC ⊢
    clear h
    go_enter Try.func66, Try.ntmps66
    go_wp2_with fail
    refine (HC.out _ B).mono ?_
    rintro _ w1 ⟨rfl, hb1⟩
    have B1 := below_step hb1 B
    go_wp2
    go_ret
    exact ⟨rfl, B1⟩
  · rw [szF_yes h] at HC ⊢
    have hp : ¬ left - (s : Int) < 0 := by omega
    have hq : 0 ≤ left - (s : Int) := by omega
    clear h
    generalize left - (s : Int) = z at *
    go_enter Try.func66, Try.ntmps66
    go_wp2_with fail
    refine (HC.out _ B).mono ?_
    rintro _ w1 ⟨rfl, hb1⟩
    have B1 := below_step hb1 B
    go_wp2
    go_ret
    exact ⟨rfl, B1⟩

set_option maxRecDepth 100000 in
set_option maxHeartbeats 2000000 in
theorem szRuleS_any (l : List (List K)) (a : Option Addr) (cap : Nat) (left : Int) (w : World) (hs : LSrc 1 PR w a l) (hn : l.length ≤ 9223372036854775807) (hm : ∀ r ∈ l, r.length ≤ 9223372036854775807) (h0 : 0 ≤ left) (h1 : left ≤ 1048576) :
    Calls Try.prog 47 #[.slice a l.length cap, .int .i64 left] w fun e w' => e = .returned (.int .i64 (szF left (l.length + sumBy List.length l))) ∧ Below w.heap.size w w' := by
  have HP : Hid (∀ wr, Below w.heap.size w wr → ∀ i, i < l.length → ∃ b o, a = some ⟨b, o, none⟩ ∧ b < wr.heap.size ∧ PR wr b (o + i * 1) (l.getD i [])) := fun wr hB i hi => (hs.below PR.stays hB).at hi []
  have HT : Hid (∀ i, i < l.length → sumBy List.length (l.take (i + 1)) = sumBy List.length (l.take i) + List.length (l.getD i [])) := fun i hi => sumBy_take List.length hi []
  have HTl : Hid (∀ i, sumBy List.length (l.take i) ≤ sumBy List.length l) := fun i => sumBy_take_le List.length l i
  have HA : Hid (sumBy List.length (l.take l.length) = sumBy List.length l) := by show _ = _; rw [List.take_length]
  have HI : Hid (∀ i, i < l.length → ∀ (w1 : World) (x : Int) (a2 : Option Addr) (cap2 : Nat), LSrc 3 PK w1 a2 (l.getD i []) → 0 ≤ x → x ≤ 1048576 → Calls Try.prog 66 #[.agg #[.slice a2 (l.getD i []).length cap2], .int .i64 x] w1 fun e w' => e = .returned (.int .i64 (szF x (List.length (l.getD i [])))) ∧ Below w1.heap.size w1 w') := fun i hi w1 x a2 cap2 hsrc hx0 hx1 => szRule_any _ a2 cap2 x w1 (hm _ (by rw [List.getD_eq_getElem?_getD, List.getElem?_eq_getElem hi]; exact List.getElem_mem hi)) hx0 hx1
  clear hs hm
  obtain ⟨T, hT⟩ : ∃ T : Nat → Nat, ∀ i, sumBy List.length (l.take i) = T i := ⟨_, fun _ => rfl⟩
  have H00 : Hid (T 0 = 0) := by unfold Hid; rw [← hT]; rfl
  simp only [hT] at HT HTl HA
  generalize sumBy List.length l = tt at *
  generalize l.length = n at *
  clear hT
  by_cases hb : left < n
  · rw [szF_no (by omega)]
    have h' : left - (n : Int) < 0 := by omega
    go_enter Try.func47, Try.ntmps47
    go_wp2
    go_ret
    exact ⟨rfl, Below.refl _ _⟩
  · have h' : ¬ left - (n : Int) < 0 := by omega
    have hb' : (n : Int) ≤ left := by omega
    obtain ⟨R, hR⟩ : ∃ R, szF left (n + tt) = R := ⟨_, rfl⟩
    have HR : Hid (szF left (n + tt) = R) := hR
    rw [hR]
    clear hR hb
    go_enter Try.func47, Try.ntmps47
    go_wp2_with fail
    go_loopw [1, 5] (fun q i wr => ∃ k : Nat, k ≤ n ∧ i = .int .i64 k ∧ q = .int .i64 (left - n - T k) ∧ 0 ≤ left - n - T k ∧ Below w.heap.size w wr) (fun _ i _ => n - (intOf i).toNat)
    case atStart => exact ⟨0, by omega, rfl, by rw [H00.out]; simp, by rw [H00.out]; omega, Below.refl _ _⟩
    case round =>
      obtain ⟨k, hk, rfl, rfl, hq, B⟩ := hrel
      by_cases hkn : k < n
      · obtain ⟨b, o, rfl, hlt, a2, cap2, c0, hsr⟩ := HP.out wr B k hkn
        have hkn' : (k : Int) < (n : Int) := by omega
        have HI1 := HI.out k hkn wr (left - n - T k) a2 cap2 hsr hq (by omega)
        have HT1 : Hid (T (k + 1) = T k + List.length (l.getD k [])) := HT.out k hkn
        have HT2 : Hid (T (k + 1) ≤ tt) := HTl.out (k + 1)
        rw [Nat.mul_one] at c0
        clear hsr HP HI HT HTl HA
        generalize l.getD k [] = e at *
        generalize List.length e = s at *
        by_cases hneg : left - (n : Int) - T k < s
        · rw [szF_no hneg] at HI1
          have hRn : R = -1 := by
            rw [← HR.out]
            have e1 := HT1.out
            have e2 := HT2.out
            exact szF_no (by omega)
          subst hRn
          clear hneg
          generalize T k = tk at *
          go_wp2_with fail
          refine Calls.mono HI1 ?_
          rintro _ w1 ⟨rfl, hb1⟩
          have B1 := below_step hb1 B
          go_wp2
          go_ret
          exact ⟨rfl, B1⟩
        · rw [szF_yes hneg] at HI1
          have hz : 0 ≤ left - (n : Int) - T (k + 1) := by rw [HT1.out]; omega
          have HZ : Hid (left - (n : Int) - T k - s = left - (n : Int) - T (k + 1)) := by unfold Hid; rw [HT1.out]; omega
          rw [HZ.out] at HI1
          clear hneg HZ HT1 HT2
          have HK : Hid (T (k + 1) = T (k + 1)) := rfl
          generalize hz1 : left - (n : Int) - T (k + 1) = z at *
          generalize T k = tk at *
          go_wp2_with fail
          refine Calls.mono HI1 ?_
          rintro _ w1 ⟨rfl, hb1⟩
          have B1 := below_step hb1 B
          go_wp2
          go_roundw
          case rel => exact ⟨k + 1, by omega, by go_num, by rw [hz1], by rw [hz1]; exact hz, B1⟩
          case measure => simp [intOf]; omega
      · have hkn' : k = n := by omega
        subst hkn'
        have e1 := HA.out
        have hRy : left - (k : Int) - T k = R := by
          rw [← HR.out, szF_yes (by omega)]; push_cast; omega
        rw [hRy]
        clear hRy HR HA HTl HT HP HI hq
        go_wp2
        go_ret
        exact ⟨rfl, B⟩
end Go.Proofs.Ytoopomjkapeknaa
