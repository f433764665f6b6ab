/-
  WHAT DISTINCT ANSWERS: its marks, its comparison with the model's answer.
-/
import Derived.Test.YtpbljegjinjmnaaDistH
import Derived.Test.YtpbljegjinjmnaaDistM
import Derived.Test.YtpbljegjinjmnaaCallY
namespace Go.Proofs.Ytpbljegjinjmnaa
open Go.RowKit
set_option linter.unusedVariables false

theorem OwnC.far {w w1 : World} {D N : Nat} {vs : Nat → Value} {cs : List C} {S : Nat → Prop} (h : OwnC w D N vs cs) (hf : Far w w1 S) (hS : ∀ q, S q → q < D) : OwnC w1 D N vs cs := by
  obtain ⟨f, hr, hv⟩ := h.row
  refine ⟨⟨f, hr.of_block (hf.block D hr.lt (fun hs => by have := hS D hs; omega)), hv⟩, h.le, fun i hi => ?_, h.inc⟩
  have ho := h.own i hi
  exact row_block ho (fun q hq => hf.block q (ho.lt q hq).2 (fun hs => by have := hS q hs; have := (ho.lt q hq).1; omega))

theorem tot_append (s t : List C) : tot (s ++ t) = tot s + tot t := by
  induction s with
  | nil => simp [tot]
  | cons c r ih => simp only [List.cons_append, tot, ih]; omega
theorem tot_sub {r cs : List C} (hn : r.Nodup) (h : ∀ c ∈ r, c ∈ cs) : r.length + tot r ≤ cs.length + tot cs := by
  induction r generalizing cs with
  | nil => simp [tot]
  | cons c r ih =>
    obtain ⟨s, t, rfl⟩ := List.append_of_mem (h c (by simp))
    rw [List.nodup_cons] at hn
    have := ih (cs := s ++ t) hn.2 (fun x hx => by
      have hm := h x (by simp [hx])
      simp only [List.mem_append, List.mem_cons] at hm ⊢
      rcases hm with hm | hm | hm
      · exact .inl hm
      · subst hm; exact absurd hx hn.1
      · exact .inr hm)
    simp only [tot_append, tot, List.length_cons, List.length_append] at this ⊢
    omega

/-- the answer, in memory of its own from block B on -/
def GV (r : List C) (B : Nat) (w : World) (v : Value) : Prop := (v = .slice none 0 0 ∧ r = []) ∨ ∃ D N c vs, v = .slice (some ⟨D, 0, none⟩) r.length c ∧ B ≤ D ∧ OwnC w D N vs r
/-- its marks -/
def MV (r : List C) (w : World) (v : Value) : Prop := (v = .slice none 0 0 ∧ r = []) ∨ ∃ D N c vs, v = .slice (some ⟨D, 0, none⟩) r.length c ∧ MidC w D N vs r 1 r.length
/-- the model's answer -/
def SV (r : List C) (w : World) (v : Value) : Prop := ∃ a c, v = .slice a r.length c ∧ CSrc w a r

theorem GV.below {r : List C} {B : Nat} {w w1 : World} {v : Value} (h : GV r B w v) (hb : Below w.heap.size w w1) : GV r B w1 v := by
  rcases h with h | ⟨D, N, c, vs, e, hB, ho⟩
  · exact .inl h
  · exact .inr ⟨D, N, c, vs, e, hB, ho.below hb⟩
theorem GV.far {r : List C} {B : Nat} {w w1 : World} {v : Value} {S : Nat → Prop} (h : GV r B w v) (hf : Far w w1 S) (hS : ∀ q, S q → q < B) : GV r B w1 v := by
  rcases h with h | ⟨D, N, c, vs, e, hB, ho⟩
  · exact .inl h
  · exact .inr ⟨D, N, c, vs, e, hB, ho.far hf (fun q hq => by have := hS q hq; omega)⟩
theorem SV.below {r : List C} {w w1 : World} {v : Value} (h : SV r w v) (hb : Below w.heap.size w w1) : SV r w1 v := by
  obtain ⟨a, c, e, hs⟩ := h
  exact ⟨a, c, e, hs.below hb⟩
theorem GV.sv {r : List C} {B : Nat} {w : World} {v : Value} (h : GV r B w v) : SV r w v := by
  rcases h with ⟨e, rfl⟩ | ⟨D, N, c, vs, e, hB, ho⟩
  · exact ⟨none, 0, e, .inl rfl⟩
  · exact ⟨_, c, e, ho.src⟩

theorem eqSV {r : List C} {w : World} {v v' : Value} (h : SV r w v) (h' : SV r w v') (hn : r.length ≤ 1048576) (hm : ∀ c ∈ r, c.args.length ≤ 16777216) :
    Calls Try.prog 15 #[v, v'] w fun e w' => e = .returned (.bool true) ∧ Below w.heap.size w w' := by
  obtain ⟨a, c, rfl, hs⟩ := h
  obtain ⟨a', c', rfl, hs'⟩ := h'
  exact eqCallS_any a a' c c' r w hs hs' hn hm

set_option maxRecDepth 100000 in
set_option maxHeartbeats 1000000 in
theorem markNil (w : World) : Calls Try.prog 16 #[.slice none 0 0, .int .i64 1] w fun e w' => e = .returned (.int .i64 1) ∧ w' = w := by
  go_enter Try.func16, Try.ntmps16
  go_wp2_with fail
  go_loopw [1, 5] (fun s i wr => s = .int .i64 1 ∧ i = .int .i64 0 ∧ wr = w) (fun _ i _ => 0)
  case atStart => exact ⟨rfl, rfl, rfl⟩
  case round =>
    obtain ⟨rfl, rfl, rfl⟩ := hrel
    go_wp2
    go_ret
    exact ⟨rfl, rfl⟩
set_option maxRecDepth 100000 in
set_option maxHeartbeats 1000000 in
theorem heldNil (w : World) : Calls Try.prog 17 #[.slice none 0 0, .int .i64 1] w fun e w' => e = .returned (.int .i64 1) ∧ w' = w := by
  go_enter Try.func17, Try.ntmps17
  go_wp2_with fail
  go_loopw [1, 5] (fun s i wr => s = .int .i64 1 ∧ i = .int .i64 0 ∧ wr = w) (fun _ i _ => 0)
  case atStart => exact ⟨rfl, rfl, rfl⟩
  case round =>
    obtain ⟨rfl, rfl, rfl⟩ := hrel
    go_wp2
    go_ret
    exact ⟨rfl, rfl⟩

theorem markGV {r : List C} {B : Nat} {w : World} {v : Value} (h : GV r B w v) (ht : r.length + tot r ≤ 1048576) :
    Calls Try.prog 16 #[v, .int .i64 1] w fun e w' => e = .returned (.int .i64 (kN r 1 r.length)) ∧ MV r w' v ∧ Far w w' (fun q => B ≤ q) := by
  rcases h with ⟨rfl, rfl⟩ | ⟨D, N, c, vs, rfl, hB, ho⟩
  · refine (markNil w).mono ?_
    rintro e w' ⟨rfl, rfl⟩
    exact ⟨rfl, .inl ⟨rfl, rfl⟩, Far.refl _ _⟩
  · refine (markCallS_own D N c vs r 1 w ho ht (by omega) (by omega)).mono ?_
    rintro e w' ⟨rfl, hm, hf⟩
    refine ⟨rfl, .inr ⟨D, N, c, vs, rfl, hm⟩, hf.os, hf.tape, hf.output, hf.size, fun q hq hn => hf.block q hq (fun hs => hn ?_)⟩
    rcases hs with rfl | ⟨j, hj, hq⟩
    · exact hB
    · have := ((ho.own j hj).lt q hq).1; omega
theorem heldMV {r : List C} {w : World} {v : Value} (h : MV r w v) (ht : r.length + tot r ≤ 1048576) :
    Calls Try.prog 17 #[v, .int .i64 1] w fun e w' => e = .returned (.int .i64 (kN r 1 r.length)) ∧ w' = w := by
  rcases h with ⟨rfl, rfl⟩ | ⟨D, N, c, vs, rfl, hm⟩
  · refine (heldNil w).mono ?_
    rintro e w' ⟨rfl, rfl⟩
    exact ⟨rfl, rfl⟩
  · exact heldCallS_own D N c vs r 1 w hm ht (by omega) (by omega)
end Go.Proofs.Ytpbljegjinjmnaa
