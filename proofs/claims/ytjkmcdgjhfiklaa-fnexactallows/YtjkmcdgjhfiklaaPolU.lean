/-
  CONTRACTS of the law's copies of policies, second part: the walks.
-/
import Derived.Test.YtjkmcdgjhfiklaaPolT
import Derived.Test.YtjkmcdgjhfiklaaCondO
namespace Go.Proofs.Ytjkmcdgjhfiklaa
open Go.RowKit
set_option linter.unusedVariables false

theorem infoCon : (Try.prog.info? 25).map (fun i => (i.zero, i.size, i.bytes)) = some (some (.agg #[.int .i64 0, .int .u64 0, .int .u64 0]), 3, 24) := by kernel_rfl
theorem infoRule : (Try.prog.info? 85).map (fun i => (i.zero, i.size, i.bytes)) = some (some (.agg #[.slice none 0 0]), 1, 24) := by kernel_rfl
theorem infoEntry : (Try.prog.info? 81).map (fun i => (i.zero, i.size, i.bytes)) = some (some (.agg #[.int .u32 0, .int .u32 0, .slice none 0 0]), 3, 32) := by kernel_rfl

set_option maxRecDepth 100000 in
set_option maxHeartbeats 2000000 in
theorem toConS_any (l : List K) (a : Option Addr) (cap : Nat) (w : World) (hs : LSrc 3 PK w a l) (hn : l.length ≤ 1048576) :
    Calls Try.prog 115 #[.slice a l.length cap] w fun e w' => e = .returned (.slice (some ⟨w.heap.size, 0, none⟩) l.length l.length) ∧ LAt 3 PK w' w.heap.size 0 l ∧ w.heap.size < w'.heap.size ∧ Below w.heap.size w w' := by
  obtain ⟨i0, hi, hz0, hz1, hz2⟩ := info_parts infoCon
  have HP : Hid (∀ wr, Below w.heap.size w wr → ∀ i, i < l.length → ∃ b o, a = some ⟨b, o, none⟩ ∧ b < w.heap.size ∧ PK wr b (o + i * 3) (l.getD i K.zero)) := fun wr hB i hi => by
    obtain ⟨b, o, h1, h2, h3⟩ := hs.at hi K.zero
    exact ⟨b, o, h1, h2, PK.stays _ _ _ _ _ h2 hB h3⟩
  have HEnd : Hid (∀ wr, Upt 3 PK wr w.heap.size l.length l K.zero l.length → LAt 3 PK wr w.heap.size 0 l) := fun wr h => h.all
  clear hs
  generalize l.length = n at *
  have hmk : ∀ u : World, (Instr.makeSlice 83 (.int .i64 (n : Int)) (.int .i64 (n : Int))).run Try.prog u =
      .ok (.slice (some ⟨u.heap.size, 0, none⟩) n n) (u.alloc (.cells (madeCells #[.int .i64 0, .int .u64 0, .int .u64 0] (n * 3)) 25)) := fun u => by
    have h := run_make (P := Try.prog) u 83 25 i0 _ Try.underlying83 hi hz0 .i64 .i64 (n : Int) (n : Int) (by omega) (Int.le_refl _) (by rw [hz2]; omega) (by omega)
    simpa [hz1, Value.cells] using h
  go_enter Try.func115, Try.ntmps115
  go_wp2_with fail
  clear hmk hi hz0 hz1 hz2
  have U0 : Upt 3 PK (w.alloc (.cells (madeCells #[.int .i64 0, .int .u64 0, .int .u64 0] (n * 3)) 25)) w.heap.size n l K.zero 0 := Upt.new w _ _ n l K.zero (by rw [size_madeCells])
  have B0 : Below w.heap.size w (w.alloc (.cells (madeCells #[.int .i64 0, .int .u64 0, .int .u64 0] (n * 3)) 25)) := (Below.refl _ _).alloc (Nat.le_refl _) _
  generalize w.alloc (.cells (madeCells #[.int .i64 0, .int .u64 0, .int .u64 0] (n * 3)) 25) = W at *
  go_loopw [4] (fun i wr => ∃ k : Nat, k ≤ n ∧ i = .int .i64 k ∧ Upt 3 PK wr w.heap.size n l K.zero k ∧ Below w.heap.size w wr) (fun i _ => n - (intOf i).toNat)
  case atStart => exact ⟨0, by omega, rfl, U0, B0⟩
  case round =>
    clear U0 B0
    obtain ⟨k, hk, rfl, U, B⟩ := hrel
    by_cases hkn : k < n
    · obtain ⟨b, o, rfl, hlt, c0, c1, c2⟩ := HP.out wr B k hkn
      have hkn' : (k : Int) < (n : Int) := by omega
      have HU : Hid (∀ w1, Upt 3 PK w1 w.heap.size n l K.zero k → Upt 3 PK (((w1.setCell ⟨w.heap.size, k * 3, none⟩ (.int .i64 (l.getD k K.zero).kind)).setCell ⟨w.heap.size, k * 3 + 1, none⟩ (.int .u64 ((l.getD k K.zero).a : Int))).setCell ⟨w.heap.size, k * 3 + 2, none⟩ (.int .u64 ((l.getD k K.zero).b : Int))) w.heap.size n l K.zero (k + 1)) := fun w1 h => by
        obtain ⟨⟨v0, q0⟩, _⟩ := h.own (k * 3) (by omega)
        obtain ⟨⟨v1, q1⟩, _⟩ := h.own (k * 3 + 1) (by omega)
        obtain ⟨⟨v2, q2⟩, _⟩ := h.own (k * 3 + 2) (by omega)
        refine (((h.set (PK.apart _) (by omega) _).set (PK.apart _) (by omega) _).set (PK.apart _) (by omega) _).next ⟨?_, ?_, ?_⟩
        · exact cell_near (by omega) (cell_near (by omega) (World.cell?_setCell_same' _ _ _ (by rw [q0]; rfl)))
        · exact cell_near (by omega) (World.cell?_setCell_same' _ _ _ (by rw [cell_near (by omega) q1]; rfl))
        · exact World.cell?_setCell_same' _ _ _ (by rw [cell_near (by omega) (cell_near (by omega) q2)]; rfl)
      generalize l.getD k K.zero = c at *
      obtain ⟨ck, ca, cb⟩ := c
      simp only at c0 c1 c2 HU
      go_wp2_with fail
      refine (toCon3 ck ca cb _).mono ?_
      rintro e w1 ⟨rfl, hb1⟩
      have U1 := U.keep PK.stays hb1
      have B1 := below_step hb1 B
      obtain ⟨⟨v0, q0⟩, f0⟩ := U1.own (k * 3) (by omega)
      obtain ⟨⟨v1, q1⟩, f1⟩ := U1.own (k * 3 + 1) (by omega)
      obtain ⟨⟨v2, q2⟩, f2⟩ := U1.own (k * 3 + 2) (by omega)
      clear c0 c1 c2 U B hb1 HP HEnd
      go_wp2
      go_roundw
      case rel => exact ⟨k + 1, by omega, by go_num, HU.out _ U1, ((B1.setCell (Nat.le_refl _) _).setCell (Nat.le_refl _) _).setCell (Nat.le_refl _) _⟩
      case measure => simp [intOf]; omega
    · have hkn' : k = n := by omega
      subst hkn'
      go_wp2
      go_ret
      exact ⟨rfl, HEnd.out _ U, U.lt, B⟩
end Go.Proofs.Ytjkmcdgjhfiklaa
