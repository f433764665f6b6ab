/-
  CONTRACTS of the law's copies of policies, last part.
-/
import Derived.Test.YtjkmcdgjhfiklaaPolX
namespace Go.Proofs.Ytjkmcdgjhfiklaa
open Go.RowKit
set_option linter.unusedVariables false

set_option maxRecDepth 100000 in
set_option maxHeartbeats 2000000 in
theorem toEntryS_any (l : List E) (a : Option Addr) (cap : Nat) (w : World) (hs : LSrc 3 PE w a l) (hn : l.length ≤ 1048576) (hm : ∀ e ∈ l, e.rules.length ≤ 1048576 ∧ ∀ r ∈ e.rules, r.length ≤ 1048576) :
    Calls Try.prog 50 #[.slice a l.length cap] w (NewP 3 (fun L => PEG L) l w (fun v => v)) := by
  obtain ⟨i0, hi, hz0, hz1, hz2⟩ := info_parts infoEntry
  have HP : Hid (∀ wr, Below w.heap.size w wr → ∀ i, i < l.length → ∃ b o, a = some ⟨b, o, none⟩ ∧ b < w.heap.size ∧ PE wr b (o + i * 3) (l.getD i E.zero)) := fun wr hB i hi => by
    obtain ⟨b, o, h1, h2, h3⟩ := hs.at hi E.zero
    exact ⟨b, o, h1, h2, PE.stays _ _ _ _ _ h2 hB h3⟩
  have HC : Hid (∀ i a cap w1, i < l.length → LSrc 1 PR w1 a (l.getD i E.zero).rules → Calls Try.prog 75 #[.agg #[.int .u32 (l.getD i E.zero).arch, .int .u32 (l.getD i E.zero).nr, .slice a (l.getD i E.zero).rules.length cap]] w1 (NewP 1 (fun L => PRG L) (l.getD i E.zero).rules w1 (fun v => .agg #[.int .u32 (l.getD i E.zero).arch, .int .u32 (l.getD i E.zero).nr, v]))) := fun i a cap w1 hi h => by
    have he : l.getD i E.zero ∈ l := by rw [List.getD_eq_getElem?_getD, List.getElem?_eq_getElem hi]; exact List.getElem_mem hi
    exact toEntry_any _ a cap w1 h (hm _ he).1 (hm _ he).2
  have HEnd : Hid (∀ wr, Upt 3 (PEG (w.heap.size + 1)) wr w.heap.size l.length l E.zero l.length → Below w.heap.size w wr → NewP 3 (fun L => PEG L) l w (fun v => v) (.returned (.slice (some ⟨w.heap.size, 0, none⟩) l.length l.length)) wr) := fun wr h hb =>
    NewP.mk (cap := l.length) rfl (.inr ⟨w.heap.size, 0, rfl, Nat.le_refl _, h.lt, fun i hi => (h.all i hi).mono (Nat.le_succ _)⟩) hb
  clear hs hm
  generalize NewP 3 (fun L => PEG L) l w (fun v => v) = Post at *
  generalize l.length = n at *
  have hmk : ∀ u : World, (Instr.makeSlice 40 (.int .i64 (n : Int)) (.int .i64 (n : Int))).run Try.prog u =
      .ok (.slice (some ⟨u.heap.size, 0, none⟩) n n) (u.alloc (.cells (madeCells #[.int .u32 0, .int .u32 0, .slice none 0 0] (n * 3)) 81)) := fun u => by
    have h := run_make (P := Try.prog) u 40 81 i0 _ Try.underlying40 hi hz0 .i64 .i64 (n : Int) (n : Int) (by omega) (Int.le_refl _) (by rw [hz2]; omega) (by omega)
    simpa [hz1, Value.cells] using h
  go_enter Try.func50, Try.ntmps50
  go_wp2_with fail
  clear hmk hi hz0 hz1 hz2
  have U0 : Upt 3 (PEG (w.heap.size + 1)) (w.alloc (.cells (madeCells #[.int .u32 0, .int .u32 0, .slice none 0 0] (n * 3)) 81)) w.heap.size n l E.zero 0 := Upt.new w _ _ n l E.zero (by rw [size_madeCells])
  have B0 : Below w.heap.size w (w.alloc (.cells (madeCells #[.int .u32 0, .int .u32 0, .slice none 0 0] (n * 3)) 81)) := (Below.refl _ _).alloc (Nat.le_refl _) _
  generalize w.alloc (.cells (madeCells #[.int .u32 0, .int .u32 0, .slice none 0 0] (n * 3)) 81) = W at *
  go_loopw [4] (fun i wr => ∃ k : Nat, k ≤ n ∧ i = .int .i64 k ∧ Upt 3 (PEG (w.heap.size + 1)) wr w.heap.size n l E.zero k ∧ Below w.heap.size w wr) (fun i _ => n - (intOf i).toNat)
  case atStart => exact ⟨0, by omega, rfl, U0, B0⟩
  case round =>
    clear U0 B0
    obtain ⟨k, hk, rfl, U, B⟩ := hrel
    by_cases hkn : k < n
    · obtain ⟨b, o, rfl, hlt, c0, c1, a2, cap2, c2, hsr⟩ := HP.out wr B k hkn
      have hkn' : (k : Int) < (n : Int) := by omega
      have hDlt := U.lt
      have HC1 := HC.out k a2 cap2 wr hkn hsr
      have HU : Hid (∀ w1 a3 cap3, Upt 3 (PEG (w.heap.size + 1)) w1 w.heap.size n l E.zero k → LSrcG wr.heap.size 1 (PRG wr.heap.size) w1 a3 (l.getD k E.zero).rules → Upt 3 (PEG (w.heap.size + 1)) (((w1.setCell ⟨w.heap.size, k * 3, none⟩ (.int .u32 (l.getD k E.zero).arch)).setCell ⟨w.heap.size, k * 3 + 1, none⟩ (.int .u32 (l.getD k E.zero).nr)).setCell ⟨w.heap.size, k * 3 + 2, none⟩ (.slice a3 (l.getD k E.zero).rules.length cap3)) w.heap.size n l E.zero (k + 1)) := fun w1 a3 cap3 h hl => by
        obtain ⟨⟨v0, q0⟩, _⟩ := h.own (k * 3) (by omega)
        obtain ⟨⟨v1, q1⟩, _⟩ := h.own (k * 3 + 1) (by omega)
        obtain ⟨⟨v2, q2⟩, _⟩ := h.own (k * 3 + 2) (by omega)
        refine (((h.set (PEG.apart _) (by omega) _).set (PEG.apart _) (by omega) _).set (PEG.apart _) (by omega) _).next ⟨?_, ?_, a3, cap3, ?_, ?_⟩
        · exact cell_near (by omega) (cell_near (by omega) (World.cell?_setCell_same' _ _ _ (by rw [q0]; rfl)))
        · exact cell_near (by omega) (World.cell?_setCell_same' _ _ _ (by rw [cell_near (by omega) q1]; rfl))
        · exact World.cell?_setCell_same' _ _ _ (by rw [cell_near (by omega) (cell_near (by omega) q2)]; rfl)
        · have h1 : LSrcG (w.heap.size + 1) 1 (PRG (w.heap.size + 1)) w1 a3 (l.getD k E.zero).rules := hl.mono (by omega) (fun _ _ _ h => h.mono (by omega))
          exact PRG.rules_far (by omega) (PRG.rules_far (by omega) (PRG.rules_far (by omega) h1))
      unfold NewP at HC1
      clear hsr HC HP
      generalize l.getD k E.zero = e at *
      obtain ⟨arch, nr, rules⟩ := e
      simp only at c0 c1 c2 HC1 HU
      have HC2 : Hid (Calls Try.prog 75 #[.agg #[.int .u32 arch, .int .u32 nr, .slice a2 rules.length cap2]] wr fun e w' => ∃ a cap, e = .returned (.agg #[.int .u32 arch, .int .u32 nr, .slice a rules.length cap]) ∧ LSrcG wr.heap.size 1 (PRG wr.heap.size) w' a rules ∧ Below wr.heap.size wr w') := HC1
      clear HC1
      generalize rules.length = m at *
      go_wp2_with fail
      refine (HC2.out).mono ?_
      rintro _ w1 ⟨a3, cap3, rfl, hl3, hb1⟩
      have U1 := U.keep (PEG.stays _) hb1
      have B1 := below_step hb1 B
      obtain ⟨⟨v0, q0⟩, f0⟩ := U1.own (k * 3) (by omega)
      obtain ⟨⟨v1, q1⟩, f1⟩ := U1.own (k * 3 + 1) (by omega)
      obtain ⟨⟨v2, q2⟩, f2⟩ := U1.own (k * 3 + 2) (by omega)
      have U2 := HU.out w1 a3 cap3 U1 hl3
      have B2 := ((B1.setCell (p := ⟨w.heap.size, k * 3, none⟩) (Nat.le_refl _) (.int .u32 arch)).setCell (p := ⟨w.heap.size, k * 3 + 1, none⟩) (Nat.le_refl _) (.int .u32 nr)).setCell (p := ⟨w.heap.size, k * 3 + 2, none⟩) (Nat.le_refl _) (.slice a3 m cap3)
      clear c0 c1 c2 U B hb1 HEnd HC2 hl3
      go_wp2
      go_roundw
      case rel => exact ⟨k + 1, by omega, by go_num, U2, B2⟩
      case measure => simp [intOf]; omega
    · have hkn' : k = n := by omega
      subst hkn'
      have HE := HEnd.out _ U B
      go_wp2
      exact HE

set_option maxRecDepth 100000 in
set_option maxHeartbeats 2000000 in
theorem toPolicy_any (r : List E) (a : Option Addr) (cap : Nat) (w : World) (hs : LSrc 3 PE w a r) (hn : r.length ≤ 1048576) (hm : ∀ e ∈ r, e.rules.length ≤ 1048576 ∧ ∀ r ∈ e.rules, r.length ≤ 1048576) :
    Calls Try.prog 19 #[.agg #[.slice a r.length cap]] w (NewP 3 (fun L => PEG L) r w (fun v => .agg #[v])) := by
  have HC : Hid (∀ w1, Below w.heap.size w w1 → Calls Try.prog 50 #[.slice a r.length cap] w1 (NewP 3 (fun L => PEG L) r w1 (fun v => v))) := fun w1 hb => toEntryS_any r a cap w1 (hs.below PE.stays hb) hn hm
  have HM : Hid (∀ a2 cap2 w1, LSrcG w.heap.size 3 (PEG w.heap.size) w1 a2 r → Below w.heap.size w w1 → NewP 3 (fun L => PEG L) r w (fun v => .agg #[v]) (.returned (.agg #[.slice a2 r.length cap2])) w1) := fun a2 cap2 w1 h hb => NewP.mk (cap := cap2) rfl h hb
  have HS : Hid (∀ L D i v w1 a2, D < L → LSrcG L 3 (PEG L) w1 a2 r → LSrcG L 3 (PEG L) (w1.setCell ⟨D, i, none⟩ v) a2 r) := fun L D i v w1 a2 hD h => h.far fun b o x hL hx => by
    obtain ⟨h0, h1, a, cap, h2, h3⟩ := hx
    exact ⟨cell_far (by omega) h0, cell_far (by omega) h1, a, cap, cell_far (by omega) h2, PRG.rules_far hD h3⟩
  have HL : Hid (∀ w1 a2, LSrcG (w.heap.size + 3) 3 (PEG (w.heap.size + 3)) w1 a2 r → LSrcG w.heap.size 3 (PEG w.heap.size) w1 a2 r) := fun w1 a2 h => h.mono (by omega) (fun _ _ _ h => h.mono (by omega))
  unfold NewP at HC
  clear hs hm
  generalize NewP 3 (fun L => PEG L) r w (fun v => .agg #[v]) = Post at *
  generalize r.length = n at *
  go_enter Try.func19, Try.ntmps19
  go_wp2_with fail
  have B0 : Below w.heap.size w (((w.alloc (.cells #[.slice a n cap] 37)).alloc (.cells #[.slice none 0 0] 42)).alloc (.cells #[.slice none 0 0] 42)) := (((Below.refl _ _).alloc (Nat.le_refl _) _).alloc (by simp) _).alloc (by simp; omega) _
  have hs1 : (w.alloc (.cells #[.slice a n cap] 37)).heap.size = w.heap.size + 1 := by simp
  have hs2 : ((w.alloc (.cells #[.slice a n cap] 37)).alloc (.cells #[.slice none 0 0] 42)).heap.size = w.heap.size + 1 + 1 := by simp
  have O := (Box1.new (w.alloc (.cells #[.slice a n cap] 37)) 42 (.slice none 0 0)).keep ((Below.refl _ _).alloc (Nat.le_refl _) (.cells #[.slice none 0 0] 42))
  have P := Box1.new ((w.alloc (.cells #[.slice a n cap] 37)).alloc (.cells #[.slice none 0 0] 42)) 42 (.slice none 0 0)
  rw [hs1] at O
  rw [hs2] at P
  have hsz : (((w.alloc (.cells #[.slice a n cap] 37)).alloc (.cells #[.slice none 0 0] 42)).alloc (.cells #[.slice none 0 0] 42)).heap.size = w.heap.size + 3 := by simp
  generalize (((w.alloc (.cells #[.slice a n cap] 37)).alloc (.cells #[.slice none 0 0] 42)).alloc (.cells #[.slice none 0 0] 42)) = W at *
  refine (HC.out _ B0).mono ?_
  rintro _ w1 ⟨a2, cap2, rfl, hL, hb1⟩
  rw [hsz] at hL
  have B1 := below_step hb1 B0
  obtain ⟨ol, q0, q1⟩ := O.keep hb1
  obtain ⟨pl, r0, r1⟩ := P.keep hb1
  have L1 := HS.out _ (w.heap.size + 1 + 1) 0 (.slice a2 n cap2) w1 a2 (by omega) hL
  have L2 := HS.out _ (w.heap.size + 1) 0 (.slice a2 n cap2) _ a2 (by omega) L1
  have B2 := (B1.setCell (p := ⟨w.heap.size + 1 + 1, 0, none⟩) (show w.heap.size ≤ w.heap.size + 1 + 1 by omega) (.slice a2 n cap2)).setCell (p := ⟨w.heap.size + 1, 0, none⟩) (show w.heap.size ≤ w.heap.size + 1 by omega) (.slice a2 n cap2)
  have HE := HM.out a2 cap2 _ (HL.out _ _ L2) B2
  clear hL hb1 O P B0 B1 HC HM HS HL L1 L2 B2 hsz hs1 hs2
  go_wp2
  exact bodyPost_ret (v := .agg #[.slice a2 n cap2]) (by simp [results, Try.results19, go_sem, q0]) rfl HE
end Go.Proofs.Ytjkmcdgjhfiklaa
