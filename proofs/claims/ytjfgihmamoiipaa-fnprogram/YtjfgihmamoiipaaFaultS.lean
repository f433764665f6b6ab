/-
  CONTRACTS of the model's own functions that reckon one instruction's fault.
-/
import Derived.Test.YtjfgihmamoiipaaFault
namespace Go.Proofs.Ytjfgihmamoiipaa
open Go.RowKit
set_option linter.unusedVariables false

set_option maxRecDepth 100000 in
theorem l1codes_any (w : World) :
    Calls Try.prog 102 #[] w fun e w' => e = .returned (.slice (some ⟨w.heap.size, 0, none⟩) 39 39) ∧ w' = w.alloc (.cells (codesL.map (Value.int .i64)).toArray 3) := by
  go_enter Try.func102, Try.ntmps102
  go_wp2
  go_ret
  exact ⟨rfl, rfl⟩

theorem codes_cell (w : World) (k : Nat) (h : k < 39) : (w.alloc (.cells (codesL.map (Value.int .i64)).toArray 3)).cell? ⟨w.heap.size, k, none⟩ = some (.int .i64 (codesL.getD k 0)) := by
  have hl : codesL.length = 39 := rfl
  rw [World.cell?_alloc_at _ _ _ _ rfl]
  simp [List.getElem?_eq_getElem (show k < codesL.length by omega)]

theorem known_hit {c : Int} {k : Nat} (h : k < 39) (e : codesL[k]?.getD 0 = c) : knownB c = true := by
  have hl : k < codesL.length := h
  rw [List.getElem?_eq_getElem hl] at e
  simp only [knownB, List.contains_iff_mem]
  rw [← e]
  exact List.getElem_mem hl
theorem known_end {c : Int} (h : ∀ j, j < 39 → codesL[j]?.getD 0 ≠ c) : knownB c = false := by
  cases hk : knownB c with
  | false => rfl
  | true =>
    have hm : c ∈ codesL := by simpa [knownB] using hk
    obtain ⟨j, hj, e⟩ := List.getElem_of_mem hm
    exact absurd (by rw [List.getElem?_eq_getElem hj]; exact e) (h j hj)

set_option maxHeartbeats 400000 in
theorem l1known_any (c : Int) (w : World) :
    Calls Try.prog 83 #[.int .i64 c] w fun e w' => e = .returned (.bool (knownB c)) ∧ Below w.heap.size w w' := by
  have hc0 := codes_cell w
  go_enter Try.func83, Try.ntmps83
  go_wp2_with (go_at_call 102; refine (l1codes_any _).mono ?_; rintro e w' ⟨rfl, rfl⟩)
  generalize hW : w.alloc (.cells (codesL.map (Value.int .i64)).toArray 3) = W at hc0 ⊢
  have hB : Below w.heap.size w W := by rw [← hW]; exact (Below.refl _ _).alloc (Nat.le_refl _) _
  clear hW
  go_loop [4] (fun i => ∃ k : Nat, k ≤ 39 ∧ i = .int .i64 k ∧ Hid (∀ j, j < k → codesL[j]?.getD 0 ≠ c)) (fun i => 39 - (intOf i).toNat)
  case atStart => exact ⟨0, by omega, rfl, fun j hj => by omega⟩
  case round =>
    obtain ⟨k, hk, rfl, H⟩ := hrel
    by_cases hlt : k < 39
    · have hcell := hc0 k hlt
      clear hc0
      go_wp2
      · go_ret
        have he : (codesL[k]?.getD 0 == c) = true := by assumption
        exact ⟨ret_bool (known_hit hlt (by simpa using he)).symm, hB⟩
      · have he : (codesL[k]?.getD 0 == c) = false := by assumption
        go_round
        case rel =>
          refine ⟨k + 1, by omega, by go_num, fun j hj => ?_⟩
          by_cases e : j = k
          · subst e; simpa using he
          · exact H.out j (by omega)
        case measure => simp [intOf]; omega
    · go_wp2
      go_ret
      exact ⟨ret_bool (known_end (fun j hj => H.out j (by omega))).symm, hB⟩

set_option maxHeartbeats 400000 in
theorem l1isTest_any (c : Int) (w : World) (h0 : 0 ≤ c) :
    Calls Try.prog 84 #[.int .i64 c] w fun e w' => e = .returned (.bool (tstB c)) ∧ Below w.heap.size w w' := by
  rw [← tstB_eq]
  go_enter Try.func84, Try.ntmps84
  go_wp2_with (go_at_call 83; refine (l1known_any _ _).mono ?_; rintro e w1 ⟨rfl, hb⟩)
  all_goals (go_ret)
  all_goals exact ⟨ret_bool (by simp [*]), by assumption⟩

set_option maxHeartbeats 4000000 in
theorem l1fault_core (b o n cap i : Nat) (c jt jf k : Int) (w : World) (hb : b < w.heap.size) (hi : i < n) (hn : n ≤ 4096) (hok : I.ok ⟨c, jt, jf, k⟩)
    (c0 : w.cell? ⟨b, o + i * 4, none⟩ = some (.int .u16 c)) (c1 : w.cell? ⟨b, o + i * 4 + 1, none⟩ = some (.int .u8 jt))
    (c2 : w.cell? ⟨b, o + i * 4 + 2, none⟩ = some (.int .u8 jf)) (c3 : w.cell? ⟨b, o + i * 4 + 3, none⟩ = some (.int .u32 k)) :
    Calls Try.prog 51 #[.slice (some ⟨b, o, none⟩) n cap, .int .i64 i] w fun e w' => e = .returned (.int .i64 (faultS n i c jt jf k)) ∧ Below w.heap.size w w' := by
  obtain ⟨h1, h2, h3, h4, h5, h6, h7, h8⟩ := hok
  simp only at h1 h2 h3 h4 h5 h6 h7 h8
  go_enter Try.func51, Try.ntmps51
  go_wp2_with (first | (go_at_call 83; refine (l1known_any _ _).mono ?_; rintro e w1 ⟨rfl, hb1⟩; have hc1 := (bcell hb1).1; have hz1 : b < w1.heap.size := (by have := hb1.size; omega)) | (go_at_call 84; refine (l1isTest_any _ _ (by omega)).mono ?_; rintro e w2 ⟨rfl, hb2⟩; have hc2 := (bcell hb2).1))
  all_goals (go_ret)
  all_goals refine ⟨ret_int ?_, ?_⟩
  all_goals first
    | exact (by assumption : Below w.heap.size w _)
    | exact Below.trans (by assumption) (Below.mono (by assumption) (Below.size (by assumption)))
    | (simp_all [faultS, memB]; done)
    | (exfalso; have ht : tstB c = true := by assumption
       simp_all [tstB]; done)

theorem l1fault_any (b o cap i : Nat) (p : List I) (w : World) (hb : b < w.heap.size) (hp : InsAt w b o p) (hok : ∀ x ∈ p, x.ok) (hi : i < p.length) (hn : p.length ≤ 4096) :
    Calls Try.prog 51 #[.slice (some ⟨b, o, none⟩) p.length cap, .int .i64 i] w fun e w' => e = .returned (.int .i64 (faultAt p i)) ∧ Below w.heap.size w w' := by
  obtain ⟨c0, c1, c2, c3⟩ := hp i hi
  exact l1fault_core b o p.length cap i _ _ _ _ w hb hi hn (hok _ (by rw [List.getD_eq_getElem?_getD, List.getElem?_eq_getElem hi]; exact List.getElem_mem hi)) c0 c1 c2 c3
end Go.Proofs.Ytjfgihmamoiipaa
