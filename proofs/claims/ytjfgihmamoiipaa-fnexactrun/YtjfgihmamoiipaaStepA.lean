/-
  THE MACHINE's STEP: what it leaves, whatever the code. (Written by a script of our own, wip/gen/stepa.py.)
-/
import Derived.Test.YtjfgihmamoiipaaStep3
namespace Go.Proofs.Ytjfgihmamoiipaa
open Go.RowKit
set_option linter.unusedVariables false

/-- what the machine holds behind the instruction i -/
def After (w' : World) (g : Nat) (r : List Int) (i : I) (s : S) (rv : Value) (nx st re : Int) : Prop :=
  match endsR i s with
  | some v => Mach w' g s rv nx st true v
  | none => Mach w' g (nextS r i s) rv (nx + (skipN i s : Nat)) st false re

theorem After.none {w' : World} {g : Nat} {r : List Int} {i : I} {s s1 : S} {rv : Value} {nx nx1 st re : Int} (h : endsR i s = none) (hs : nextS r i s = s1) (hn : nx + (skipN i s : Nat) = nx1) (hM : Mach w' g s1 rv nx1 st false re) : After w' g r i s rv nx st re := by
  unfold After; rw [h]; simp only; rw [hs, hn]; exact hM
theorem After.some {w' : World} {g : Nat} {r : List Int} {i : I} {s : S} {rv : Value} {nx st re v : Int} (h : endsR i s = some v) (hM : Mach w' g s rv nx st true v) : After w' g r i s rv nx st re := by
  unfold After; rw [h]; exact hM

theorem pwI (n : Nat) : (2 : Int) ^ n = pw n := by unfold pw; rw [Int.natCast_pow]; rfl

/-- the statement of one code -/
def StepOK (c : Int) : Prop := ∀ (g n : Nat) (s : S) (rv : Value) (nx st re jt jf k : Int) (r : List Int) (w : World), Mach w g s rv nx st false re → s.ok → isBytes r → I.ok ⟨c, jt, jf, k⟩ → HeadOK ⟨c, jt, jf, k⟩ n → 0 ≤ nx → nx ≤ 1000000 →
    Calls Try.prog 91 #[.pointer (some ⟨g, 0, none⟩), insV c jt jf k, .int .u32 (opI r ⟨c, jt, jf, k⟩ s)] w fun e w' => e = .returned (.tuple #[]) ∧ After w' g r ⟨c, jt, jf, k⟩ s rv nx st re ∧ w.grownBy w' (some g)

theorem opI_word {r : List Int} {i : I} {s : S} (hr : isBytes r) (hi : i.ok) (hs : s.ok) : isWord (opI r i s) := by
  unfold opI
  split
  · exact wordL_word hr _
  split
  · exact hs.2.2 _
  · exact opV_word hi hs

theorem ok_0 : StepOK 0 := by
  intro g n s rv nx st re jt jf k r w hM hs hr hi hh hn0 hn1
  have hv := opI_word (r := r) hr hi hs
  have hk : isWord k := ⟨hi.2.2.2.2.2.2.1, hi.2.2.2.2.2.2.2⟩
  refine (step_0 g s rv nx st false re jt jf k _ w hM hs hv hk).mono ?_
  rintro e w' ⟨rfl, hM', hG⟩
  refine ⟨rfl, After.none (by simp [endsR]) (by simp [nextS, ariB, opI, opV]) (by simp [skipN, tstB]) hM', hG⟩

theorem ok_1 : StepOK 1 := by
  intro g n s rv nx st re jt jf k r w hM hs hr hi hh hn0 hn1
  have hv := opI_word (r := r) hr hi hs
  have hk : isWord k := ⟨hi.2.2.2.2.2.2.1, hi.2.2.2.2.2.2.2⟩
  refine (step_1 g s rv nx st false re jt jf k _ w hM hs hv hk).mono ?_
  rintro e w' ⟨rfl, hM', hG⟩
  refine ⟨rfl, After.none (by simp [endsR]) (by simp [nextS, ariB, opI, opV]) (by simp [skipN, tstB]) hM', hG⟩

theorem ok_32 : StepOK 32 := by
  intro g n s rv nx st re jt jf k r w hM hs hr hi hh hn0 hn1
  have hv := opI_word (r := r) hr hi hs
  have hk : isWord k := ⟨hi.2.2.2.2.2.2.1, hi.2.2.2.2.2.2.2⟩
  refine (step_32 g s rv nx st false re jt jf k _ w hM hs hv hk).mono ?_
  rintro e w' ⟨rfl, hM', hG⟩
  refine ⟨rfl, After.none (by simp [endsR]) (by simp [nextS, ariB, opI]) (by simp [skipN, tstB]) hM', hG⟩

theorem ok_96 : StepOK 96 := by
  intro g n s rv nx st re jt jf k r w hM hs hr hi hh hn0 hn1
  have hv := opI_word (r := r) hr hi hs
  have hk : isWord k := ⟨hi.2.2.2.2.2.2.1, hi.2.2.2.2.2.2.2⟩
  refine (step_96 g s rv nx st false re jt jf k _ w hM hs hv hk).mono ?_
  rintro e w' ⟨rfl, hM', hG⟩
  refine ⟨rfl, After.none (by simp [endsR]) (by simp [nextS, ariB, opI]) (by simp [skipN, tstB]) hM', hG⟩

theorem ok_97 : StepOK 97 := by
  intro g n s rv nx st re jt jf k r w hM hs hr hi hh hn0 hn1
  have hv := opI_word (r := r) hr hi hs
  have hk : isWord k := ⟨hi.2.2.2.2.2.2.1, hi.2.2.2.2.2.2.2⟩
  refine (step_97 g s rv nx st false re jt jf k _ w hM hs hv hk).mono ?_
  rintro e w' ⟨rfl, hM', hG⟩
  refine ⟨rfl, After.none (by simp [endsR]) (by simp [nextS, ariB, opI]) (by simp [skipN, tstB]) hM', hG⟩

theorem ok_7 : StepOK 7 := by
  intro g n s rv nx st re jt jf k r w hM hs hr hi hh hn0 hn1
  have hv := opI_word (r := r) hr hi hs
  have hk : isWord k := ⟨hi.2.2.2.2.2.2.1, hi.2.2.2.2.2.2.2⟩
  refine (step_7 g s rv nx st false re jt jf k _ w hM hs hv hk).mono ?_
  rintro e w' ⟨rfl, hM', hG⟩
  refine ⟨rfl, After.none (by simp [endsR]) (by simp [nextS, ariB]) (by simp [skipN, tstB]) hM', hG⟩

theorem ok_135 : StepOK 135 := by
  intro g n s rv nx st re jt jf k r w hM hs hr hi hh hn0 hn1
  have hv := opI_word (r := r) hr hi hs
  have hk : isWord k := ⟨hi.2.2.2.2.2.2.1, hi.2.2.2.2.2.2.2⟩
  refine (step_135 g s rv nx st false re jt jf k _ w hM hs hv hk).mono ?_
  rintro e w' ⟨rfl, hM', hG⟩
  refine ⟨rfl, After.none (by simp [endsR]) (by simp [nextS, ariB]) (by simp [skipN, tstB]) hM', hG⟩

theorem ok_2 : StepOK 2 := by
  intro g n s rv nx st re jt jf k r w hM hs hr hi hh hn0 hn1
  have hv := opI_word (r := r) hr hi hs
  have hk : isWord k := ⟨hi.2.2.2.2.2.2.1, hi.2.2.2.2.2.2.2⟩
  refine (step_2 g s rv nx st false re jt jf k _ w hM hs hv hk (hh.mem rfl)).mono ?_
  rintro e w' ⟨rfl, hM', hG⟩
  refine ⟨rfl, After.none (by simp [endsR]) (by simp [nextS, ariB]) (by simp [skipN, tstB]) hM', hG⟩

theorem ok_3 : StepOK 3 := by
  intro g n s rv nx st re jt jf k r w hM hs hr hi hh hn0 hn1
  have hv := opI_word (r := r) hr hi hs
  have hk : isWord k := ⟨hi.2.2.2.2.2.2.1, hi.2.2.2.2.2.2.2⟩
  refine (step_3 g s rv nx st false re jt jf k _ w hM hs hv hk (hh.mem rfl)).mono ?_
  rintro e w' ⟨rfl, hM', hG⟩
  refine ⟨rfl, After.none (by simp [endsR]) (by simp [nextS, ariB]) (by simp [skipN, tstB]) hM', hG⟩

theorem ok_4 : StepOK 4 := by
  intro g n s rv nx st re jt jf k r w hM hs hr hi hh hn0 hn1
  have hv := opI_word (r := r) hr hi hs
  have hk : isWord k := ⟨hi.2.2.2.2.2.2.1, hi.2.2.2.2.2.2.2⟩
  refine (step_4 g s rv nx st false re jt jf k _ w hM hs hv hk).mono ?_
  rintro e w' ⟨rfl, hM', hG⟩
  refine ⟨rfl, After.none (by simp [endsR]) (by simp [nextS, ariB, opI, opV, aluL]) (by simp [skipN, tstB]) hM', hG⟩

theorem ok_12 : StepOK 12 := by
  intro g n s rv nx st re jt jf k r w hM hs hr hi hh hn0 hn1
  have hv := opI_word (r := r) hr hi hs
  have hk : isWord k := ⟨hi.2.2.2.2.2.2.1, hi.2.2.2.2.2.2.2⟩
  refine (step_12 g s rv nx st false re jt jf k _ w hM hs hv hk).mono ?_
  rintro e w' ⟨rfl, hM', hG⟩
  refine ⟨rfl, After.none (by simp [endsR]) (by simp [nextS, ariB, opI, opV, aluL]) (by simp [skipN, tstB]) hM', hG⟩

theorem ok_20 : StepOK 20 := by
  intro g n s rv nx st re jt jf k r w hM hs hr hi hh hn0 hn1
  have hv := opI_word (r := r) hr hi hs
  have hk : isWord k := ⟨hi.2.2.2.2.2.2.1, hi.2.2.2.2.2.2.2⟩
  refine (step_20 g s rv nx st false re jt jf k _ w hM hs hv hk).mono ?_
  rintro e w' ⟨rfl, hM', hG⟩
  refine ⟨rfl, After.none (by simp [endsR]) (by simp [nextS, ariB, opI, opV, aluL]) (by simp [skipN, tstB]) hM', hG⟩

theorem ok_28 : StepOK 28 := by
  intro g n s rv nx st re jt jf k r w hM hs hr hi hh hn0 hn1
  have hv := opI_word (r := r) hr hi hs
  have hk : isWord k := ⟨hi.2.2.2.2.2.2.1, hi.2.2.2.2.2.2.2⟩
  refine (step_28 g s rv nx st false re jt jf k _ w hM hs hv hk).mono ?_
  rintro e w' ⟨rfl, hM', hG⟩
  refine ⟨rfl, After.none (by simp [endsR]) (by simp [nextS, ariB, opI, opV, aluL]) (by simp [skipN, tstB]) hM', hG⟩

theorem ok_36 : StepOK 36 := by
  intro g n s rv nx st re jt jf k r w hM hs hr hi hh hn0 hn1
  have hv := opI_word (r := r) hr hi hs
  have hk : isWord k := ⟨hi.2.2.2.2.2.2.1, hi.2.2.2.2.2.2.2⟩
  refine (step_36 g s rv nx st false re jt jf k _ w hM hs hv hk).mono ?_
  rintro e w' ⟨rfl, hM', hG⟩
  refine ⟨rfl, After.none (by simp [endsR]) (by simp [nextS, ariB, opI, opV, aluL]) (by simp [skipN, tstB]) hM', hG⟩

theorem ok_44 : StepOK 44 := by
  intro g n s rv nx st re jt jf k r w hM hs hr hi hh hn0 hn1
  have hv := opI_word (r := r) hr hi hs
  have hk : isWord k := ⟨hi.2.2.2.2.2.2.1, hi.2.2.2.2.2.2.2⟩
  refine (step_44 g s rv nx st false re jt jf k _ w hM hs hv hk).mono ?_
  rintro e w' ⟨rfl, hM', hG⟩
  refine ⟨rfl, After.none (by simp [endsR]) (by simp [nextS, ariB, opI, opV, aluL]) (by simp [skipN, tstB]) hM', hG⟩

theorem ok_132 : StepOK 132 := by
  intro g n s rv nx st re jt jf k r w hM hs hr hi hh hn0 hn1
  have hv := opI_word (r := r) hr hi hs
  have hk : isWord k := ⟨hi.2.2.2.2.2.2.1, hi.2.2.2.2.2.2.2⟩
  refine (step_132 g s rv nx st false re jt jf k _ w hM hs hv hk).mono ?_
  rintro e w' ⟨rfl, hM', hG⟩
  refine ⟨rfl, After.none (by simp [endsR]) (by simp [nextS, ariB, aluL]) (by simp [skipN, tstB]) hM', hG⟩

theorem ok_68 : StepOK 68 := by
  intro g n s rv nx st re jt jf k r w hM hs hr hi hh hn0 hn1
  have hv := opI_word (r := r) hr hi hs
  have hk : isWord k := ⟨hi.2.2.2.2.2.2.1, hi.2.2.2.2.2.2.2⟩
  refine (step_68 g s rv nx st false re jt jf k _ w hM hs hv hk).mono ?_
  rintro e w' ⟨rfl, hM', hG⟩
  refine ⟨rfl, After.none (by simp [endsR]) (by have e := or_eq hs.1 hv; simp only [nextS, ariB, opI, opV, aluL] at e ⊢; simp at e ⊢; exact e) (by simp [skipN, tstB]) hM', hG⟩

theorem ok_76 : StepOK 76 := by
  intro g n s rv nx st re jt jf k r w hM hs hr hi hh hn0 hn1
  have hv := opI_word (r := r) hr hi hs
  have hk : isWord k := ⟨hi.2.2.2.2.2.2.1, hi.2.2.2.2.2.2.2⟩
  refine (step_76 g s rv nx st false re jt jf k _ w hM hs hv hk).mono ?_
  rintro e w' ⟨rfl, hM', hG⟩
  refine ⟨rfl, After.none (by simp [endsR]) (by have e := or_eq hs.1 hv; simp only [nextS, ariB, opI, opV, aluL] at e ⊢; simp at e ⊢; exact e) (by simp [skipN, tstB]) hM', hG⟩

theorem ok_84 : StepOK 84 := by
  intro g n s rv nx st re jt jf k r w hM hs hr hi hh hn0 hn1
  have hv := opI_word (r := r) hr hi hs
  have hk : isWord k := ⟨hi.2.2.2.2.2.2.1, hi.2.2.2.2.2.2.2⟩
  refine (step_84 g s rv nx st false re jt jf k _ w hM hs hv hk).mono ?_
  rintro e w' ⟨rfl, hM', hG⟩
  refine ⟨rfl, After.none (by simp [endsR]) (by have e := and_eq hs.1 hv; simp only [nextS, ariB, opI, opV, aluL] at e ⊢; simp at e ⊢; exact e) (by simp [skipN, tstB]) hM', hG⟩

theorem ok_92 : StepOK 92 := by
  intro g n s rv nx st re jt jf k r w hM hs hr hi hh hn0 hn1
  have hv := opI_word (r := r) hr hi hs
  have hk : isWord k := ⟨hi.2.2.2.2.2.2.1, hi.2.2.2.2.2.2.2⟩
  refine (step_92 g s rv nx st false re jt jf k _ w hM hs hv hk).mono ?_
  rintro e w' ⟨rfl, hM', hG⟩
  refine ⟨rfl, After.none (by simp [endsR]) (by have e := and_eq hs.1 hv; simp only [nextS, ariB, opI, opV, aluL] at e ⊢; simp at e ⊢; exact e) (by simp [skipN, tstB]) hM', hG⟩

theorem ok_164 : StepOK 164 := by
  intro g n s rv nx st re jt jf k r w hM hs hr hi hh hn0 hn1
  have hv := opI_word (r := r) hr hi hs
  have hk : isWord k := ⟨hi.2.2.2.2.2.2.1, hi.2.2.2.2.2.2.2⟩
  refine (step_164 g s rv nx st false re jt jf k _ w hM hs hv hk).mono ?_
  rintro e w' ⟨rfl, hM', hG⟩
  refine ⟨rfl, After.none (by simp [endsR]) (by have e := xor_eq hs.1 hv; simp only [nextS, ariB, opI, opV, aluL] at e ⊢; simp at e ⊢; exact e) (by simp [skipN, tstB]) hM', hG⟩

theorem ok_172 : StepOK 172 := by
  intro g n s rv nx st re jt jf k r w hM hs hr hi hh hn0 hn1
  have hv := opI_word (r := r) hr hi hs
  have hk : isWord k := ⟨hi.2.2.2.2.2.2.1, hi.2.2.2.2.2.2.2⟩
  refine (step_172 g s rv nx st false re jt jf k _ w hM hs hv hk).mono ?_
  rintro e w' ⟨rfl, hM', hG⟩
  refine ⟨rfl, After.none (by simp [endsR]) (by have e := xor_eq hs.1 hv; simp only [nextS, ariB, opI, opV, aluL] at e ⊢; simp at e ⊢; exact e) (by simp [skipN, tstB]) hM', hG⟩

theorem ok_100 : StepOK 100 := by
  intro g n s rv nx st re jt jf k r w hM hs hr hi hh hn0 hn1
  have hv := opI_word (r := r) hr hi hs
  have hk : isWord k := ⟨hi.2.2.2.2.2.2.1, hi.2.2.2.2.2.2.2⟩
  have ho : opI r ⟨100, jt, jf, k⟩ s = k := by simp [opI, opV]
  rw [ho] at hv ⊢
  by_cases h32 : k < 32
  · refine (step_100s g s rv nx st false re jt jf k _ w hM hs hv hk h32).mono ?_
    rintro e w' ⟨rfl, hM', hG⟩
    refine ⟨rfl, After.none (by simp [endsR]) ?_ (by simp [skipN, tstB]) hM', hG⟩
    have h34 : ¬ (32 : Int) ≤ k := by omega
    simp [nextS, ariB, opV, aluL, pwI, h34]
  · refine (step_100b g s rv nx st false re jt jf k _ w hM hs hv hk (by omega)).mono ?_
    rintro e w' ⟨rfl, hM', hG⟩
    refine ⟨rfl, After.none (by simp [endsR]) ?_ (by simp [skipN, tstB]) hM', hG⟩
    have h33 : (32 : Int) ≤ k := by omega
    obtain ⟨a0, a1⟩ := hs.1
    have hz : s.a / 4294967296 = 0 := by omega
    simp [nextS, ariB, opV, aluL, h33]

theorem ok_108 : StepOK 108 := by
  intro g n s rv nx st re jt jf k r w hM hs hr hi hh hn0 hn1
  have hv := opI_word (r := r) hr hi hs
  have hk : isWord k := ⟨hi.2.2.2.2.2.2.1, hi.2.2.2.2.2.2.2⟩
  have ho : opI r ⟨108, jt, jf, k⟩ s = s.x := by simp [opI, opV]
  rw [ho] at hv ⊢
  by_cases h32 : s.x < 32
  · refine (step_108s g s rv nx st false re jt jf k _ w hM hs hv hk h32).mono ?_
    rintro e w' ⟨rfl, hM', hG⟩
    refine ⟨rfl, After.none (by simp [endsR]) ?_ (by simp [skipN, tstB]) hM', hG⟩
    have h34 : ¬ (32 : Int) ≤ s.x := by omega
    simp [nextS, ariB, opV, aluL, pwI, h34]
  · refine (step_108b g s rv nx st false re jt jf k _ w hM hs hv hk (by omega)).mono ?_
    rintro e w' ⟨rfl, hM', hG⟩
    refine ⟨rfl, After.none (by simp [endsR]) ?_ (by simp [skipN, tstB]) hM', hG⟩
    have h33 : (32 : Int) ≤ s.x := by omega
    obtain ⟨a0, a1⟩ := hs.1
    have hz : s.a / 4294967296 = 0 := by omega
    simp [nextS, ariB, opV, aluL, h33]

theorem ok_116 : StepOK 116 := by
  intro g n s rv nx st re jt jf k r w hM hs hr hi hh hn0 hn1
  have hv := opI_word (r := r) hr hi hs
  have hk : isWord k := ⟨hi.2.2.2.2.2.2.1, hi.2.2.2.2.2.2.2⟩
  have ho : opI r ⟨116, jt, jf, k⟩ s = k := by simp [opI, opV]
  rw [ho] at hv ⊢
  by_cases h32 : k < 32
  · refine (step_116s g s rv nx st false re jt jf k _ w hM hs hv hk h32).mono ?_
    rintro e w' ⟨rfl, hM', hG⟩
    refine ⟨rfl, After.none (by simp [endsR]) ?_ (by simp [skipN, tstB]) hM', hG⟩
    have h34 : ¬ (32 : Int) ≤ k := by omega
    simp [nextS, ariB, opV, aluL, pwI, h34]
  · refine (step_116b g s rv nx st false re jt jf k _ w hM hs hv hk (by omega)).mono ?_
    rintro e w' ⟨rfl, hM', hG⟩
    refine ⟨rfl, After.none (by simp [endsR]) ?_ (by simp [skipN, tstB]) hM', hG⟩
    have h33 : (32 : Int) ≤ k := by omega
    obtain ⟨a0, a1⟩ := hs.1
    have hz : s.a / 4294967296 = 0 := by omega
    simp [nextS, ariB, opV, aluL, h33, hz]

theorem ok_124 : StepOK 124 := by
  intro g n s rv nx st re jt jf k r w hM hs hr hi hh hn0 hn1
  have hv := opI_word (r := r) hr hi hs
  have hk : isWord k := ⟨hi.2.2.2.2.2.2.1, hi.2.2.2.2.2.2.2⟩
  have ho : opI r ⟨124, jt, jf, k⟩ s = s.x := by simp [opI, opV]
  rw [ho] at hv ⊢
  by_cases h32 : s.x < 32
  · refine (step_124s g s rv nx st false re jt jf k _ w hM hs hv hk h32).mono ?_
    rintro e w' ⟨rfl, hM', hG⟩
    refine ⟨rfl, After.none (by simp [endsR]) ?_ (by simp [skipN, tstB]) hM', hG⟩
    have h34 : ¬ (32 : Int) ≤ s.x := by omega
    simp [nextS, ariB, opV, aluL, pwI, h34]
  · refine (step_124b g s rv nx st false re jt jf k _ w hM hs hv hk (by omega)).mono ?_
    rintro e w' ⟨rfl, hM', hG⟩
    refine ⟨rfl, After.none (by simp [endsR]) ?_ (by simp [skipN, tstB]) hM', hG⟩
    have h33 : (32 : Int) ≤ s.x := by omega
    obtain ⟨a0, a1⟩ := hs.1
    have hz : s.a / 4294967296 = 0 := by omega
    simp [nextS, ariB, opV, aluL, h33, hz]

theorem ok_52 : StepOK 52 := by
  intro g n s rv nx st re jt jf k r w hM hs hr hi hh hn0 hn1
  have hv := opI_word (r := r) hr hi hs
  have hk : isWord k := ⟨hi.2.2.2.2.2.2.1, hi.2.2.2.2.2.2.2⟩
  have hk0 : k ≠ 0 := hh.divk rfl
  have ho : opI r ⟨52, jt, jf, k⟩ s = k := by simp [opI, opV]
  rw [ho] at hv ⊢
  refine (step_52 g s rv nx st false re jt jf k _ w hM hs hv hk hk0).mono ?_
  rintro e w' ⟨rfl, hM', hG⟩
  exact ⟨rfl, After.none (by simp [endsR, opV, hk0]) (by simp [nextS, ariB, opV, aluL]) (by simp [skipN, tstB]) hM', hG⟩

theorem ok_60 : StepOK 60 := by
  intro g n s rv nx st re jt jf k r w hM hs hr hi hh hn0 hn1
  have hv := opI_word (r := r) hr hi hs
  have hk : isWord k := ⟨hi.2.2.2.2.2.2.1, hi.2.2.2.2.2.2.2⟩
  have ho : opI r ⟨60, jt, jf, k⟩ s = s.x := by simp [opI, opV]
  rw [ho] at hv ⊢
  by_cases hx0 : s.x = 0
  · refine (step_60z g s rv nx st false re jt jf k _ w hM hs hv hk hx0).mono ?_
    rintro e w' ⟨rfl, hM', hG⟩
    exact ⟨rfl, After.some (by simp [endsR, opV, hx0]) hM', hG⟩
  · refine (step_60 g s rv nx st false re jt jf k _ w hM hs hv hk hx0).mono ?_
    rintro e w' ⟨rfl, hM', hG⟩
    exact ⟨rfl, After.none (by simp [endsR, opV, hx0]) (by simp [nextS, ariB, opV, aluL]) (by simp [skipN, tstB]) hM', hG⟩

theorem ok_6 : StepOK 6 := by
  intro g n s rv nx st re jt jf k r w hM hs hr hi hh hn0 hn1
  have hv := opI_word (r := r) hr hi hs
  have hk : isWord k := ⟨hi.2.2.2.2.2.2.1, hi.2.2.2.2.2.2.2⟩
  refine (step_6 g s rv nx st false re jt jf k _ w hM hs hv hk).mono ?_
  rintro e w' ⟨rfl, hM', hG⟩
  exact ⟨rfl, After.some (by simp [endsR]) hM', hG⟩

theorem ok_22 : StepOK 22 := by
  intro g n s rv nx st re jt jf k r w hM hs hr hi hh hn0 hn1
  have hv := opI_word (r := r) hr hi hs
  have hk : isWord k := ⟨hi.2.2.2.2.2.2.1, hi.2.2.2.2.2.2.2⟩
  refine (step_22 g s rv nx st false re jt jf k _ w hM hs hv hk).mono ?_
  rintro e w' ⟨rfl, hM', hG⟩
  exact ⟨rfl, After.some (by simp [endsR]) hM', hG⟩

theorem ok_5 : StepOK 5 := by
  intro g n s rv nx st re jt jf k r w hM hs hr hi hh hn0 hn1
  have hv := opI_word (r := r) hr hi hs
  have hk : isWord k := ⟨hi.2.2.2.2.2.2.1, hi.2.2.2.2.2.2.2⟩
  refine (step_5 g s rv nx st false re jt jf k _ w hM hs hv hk hn0 hn1).mono ?_
  rintro e w' ⟨rfl, hM', hG⟩
  exact ⟨rfl, After.none (by simp [endsR]) (by simp [nextS, ariB]) (by have := hk.1; simp [skipN]; omega) hM', hG⟩

theorem ok_21 : StepOK 21 := by
  intro g n s rv nx st re jt jf k r w hM hs hr hi hh hn0 hn1
  have hv := opI_word (r := r) hr hi hs
  have hk : isWord k := ⟨hi.2.2.2.2.2.2.1, hi.2.2.2.2.2.2.2⟩
  refine (step_21 g s rv nx st false re jt jf k _ w hM hs hv hk hn0 hn1 ⟨hi.2.2.1, hi.2.2.2.1⟩ ⟨hi.2.2.2.2.1, hi.2.2.2.2.2.1⟩).mono ?_
  rintro e w' ⟨rfl, hM', hG⟩
  refine ⟨rfl, After.none (by simp [endsR]) (by simp [nextS, ariB]) ?_ hM', hG⟩
  have q1 : 0 ≤ jt := hi.2.2.1
  have q2 : 0 ≤ jf := hi.2.2.2.2.1
  simp [skipN, tstB, holdL, opI, opV, pickJ]
  split <;> omega

theorem ok_29 : StepOK 29 := by
  intro g n s rv nx st re jt jf k r w hM hs hr hi hh hn0 hn1
  have hv := opI_word (r := r) hr hi hs
  have hk : isWord k := ⟨hi.2.2.2.2.2.2.1, hi.2.2.2.2.2.2.2⟩
  refine (step_29 g s rv nx st false re jt jf k _ w hM hs hv hk hn0 hn1 ⟨hi.2.2.1, hi.2.2.2.1⟩ ⟨hi.2.2.2.2.1, hi.2.2.2.2.2.1⟩).mono ?_
  rintro e w' ⟨rfl, hM', hG⟩
  refine ⟨rfl, After.none (by simp [endsR]) (by simp [nextS, ariB]) ?_ hM', hG⟩
  have q1 : 0 ≤ jt := hi.2.2.1
  have q2 : 0 ≤ jf := hi.2.2.2.2.1
  simp [skipN, tstB, holdL, opI, opV, pickJ]
  split <;> omega

theorem ok_37 : StepOK 37 := by
  intro g n s rv nx st re jt jf k r w hM hs hr hi hh hn0 hn1
  have hv := opI_word (r := r) hr hi hs
  have hk : isWord k := ⟨hi.2.2.2.2.2.2.1, hi.2.2.2.2.2.2.2⟩
  refine (step_37 g s rv nx st false re jt jf k _ w hM hs hv hk hn0 hn1 ⟨hi.2.2.1, hi.2.2.2.1⟩ ⟨hi.2.2.2.2.1, hi.2.2.2.2.2.1⟩).mono ?_
  rintro e w' ⟨rfl, hM', hG⟩
  refine ⟨rfl, After.none (by simp [endsR]) (by simp [nextS, ariB]) ?_ hM', hG⟩
  have q1 : 0 ≤ jt := hi.2.2.1
  have q2 : 0 ≤ jf := hi.2.2.2.2.1
  simp [skipN, tstB, holdL, opI, opV, pickJ]
  split <;> omega

theorem ok_45 : StepOK 45 := by
  intro g n s rv nx st re jt jf k r w hM hs hr hi hh hn0 hn1
  have hv := opI_word (r := r) hr hi hs
  have hk : isWord k := ⟨hi.2.2.2.2.2.2.1, hi.2.2.2.2.2.2.2⟩
  refine (step_45 g s rv nx st false re jt jf k _ w hM hs hv hk hn0 hn1 ⟨hi.2.2.1, hi.2.2.2.1⟩ ⟨hi.2.2.2.2.1, hi.2.2.2.2.2.1⟩).mono ?_
  rintro e w' ⟨rfl, hM', hG⟩
  refine ⟨rfl, After.none (by simp [endsR]) (by simp [nextS, ariB]) ?_ hM', hG⟩
  have q1 : 0 ≤ jt := hi.2.2.1
  have q2 : 0 ≤ jf := hi.2.2.2.2.1
  simp [skipN, tstB, holdL, opI, opV, pickJ]
  split <;> omega

theorem ok_53 : StepOK 53 := by
  intro g n s rv nx st re jt jf k r w hM hs hr hi hh hn0 hn1
  have hv := opI_word (r := r) hr hi hs
  have hk : isWord k := ⟨hi.2.2.2.2.2.2.1, hi.2.2.2.2.2.2.2⟩
  refine (step_53 g s rv nx st false re jt jf k _ w hM hs hv hk hn0 hn1 ⟨hi.2.2.1, hi.2.2.2.1⟩ ⟨hi.2.2.2.2.1, hi.2.2.2.2.2.1⟩).mono ?_
  rintro e w' ⟨rfl, hM', hG⟩
  refine ⟨rfl, After.none (by simp [endsR]) (by simp [nextS, ariB]) ?_ hM', hG⟩
  have q1 : 0 ≤ jt := hi.2.2.1
  have q2 : 0 ≤ jf := hi.2.2.2.2.1
  simp [skipN, tstB, holdL, opI, opV, pickJ]
  split <;> omega

theorem ok_61 : StepOK 61 := by
  intro g n s rv nx st re jt jf k r w hM hs hr hi hh hn0 hn1
  have hv := opI_word (r := r) hr hi hs
  have hk : isWord k := ⟨hi.2.2.2.2.2.2.1, hi.2.2.2.2.2.2.2⟩
  refine (step_61 g s rv nx st false re jt jf k _ w hM hs hv hk hn0 hn1 ⟨hi.2.2.1, hi.2.2.2.1⟩ ⟨hi.2.2.2.2.1, hi.2.2.2.2.2.1⟩).mono ?_
  rintro e w' ⟨rfl, hM', hG⟩
  refine ⟨rfl, After.none (by simp [endsR]) (by simp [nextS, ariB]) ?_ hM', hG⟩
  have q1 : 0 ≤ jt := hi.2.2.1
  have q2 : 0 ≤ jf := hi.2.2.2.2.1
  simp [skipN, tstB, holdL, opI, opV, pickJ]
  split <;> omega

theorem ok_69 : StepOK 69 := by
  intro g n s rv nx st re jt jf k r w hM hs hr hi hh hn0 hn1
  have hv := opI_word (r := r) hr hi hs
  have hk : isWord k := ⟨hi.2.2.2.2.2.2.1, hi.2.2.2.2.2.2.2⟩
  refine (step_69 g s rv nx st false re jt jf k _ w hM hs hv hk hn0 hn1 ⟨hi.2.2.1, hi.2.2.2.1⟩ ⟨hi.2.2.2.2.1, hi.2.2.2.2.2.1⟩).mono ?_
  rintro e w' ⟨rfl, hM', hG⟩
  refine ⟨rfl, After.none (by simp [endsR]) (by simp [nextS, ariB]) ?_ hM', hG⟩
  have q1 : 0 ≤ jt := hi.2.2.1
  have q2 : 0 ≤ jf := hi.2.2.2.2.1
  have e := and_eq hs.1 hv
  simp [opI, opV] at e
  simp [skipN, tstB, holdL, opI, opV, pickJ, e]
  split <;> omega

theorem ok_77 : StepOK 77 := by
  intro g n s rv nx st re jt jf k r w hM hs hr hi hh hn0 hn1
  have hv := opI_word (r := r) hr hi hs
  have hk : isWord k := ⟨hi.2.2.2.2.2.2.1, hi.2.2.2.2.2.2.2⟩
  refine (step_77 g s rv nx st false re jt jf k _ w hM hs hv hk hn0 hn1 ⟨hi.2.2.1, hi.2.2.2.1⟩ ⟨hi.2.2.2.2.1, hi.2.2.2.2.2.1⟩).mono ?_
  rintro e w' ⟨rfl, hM', hG⟩
  refine ⟨rfl, After.none (by simp [endsR]) (by simp [nextS, ariB]) ?_ hM', hG⟩
  have q1 : 0 ≤ jt := hi.2.2.1
  have q2 : 0 ≤ jf := hi.2.2.2.2.1
  have e := and_eq hs.1 hv
  simp [opI, opV] at e
  simp [skipN, tstB, holdL, opI, opV, pickJ, e]
  split <;> omega

theorem step_all {c : Int} (h : knownB c = true) : StepOK c := by
  have hm : c ∈ codesL := by simpa [knownB] using h
  simp only [codesL, List.mem_cons, List.not_mem_nil, or_false] at hm
  rcases hm with rfl | rfl | rfl | rfl | rfl | rfl | rfl | rfl | rfl | rfl | rfl | rfl | rfl | rfl | rfl | rfl | rfl | rfl | rfl | rfl | rfl | rfl | rfl | rfl | rfl | rfl | rfl | rfl | rfl | rfl | rfl | rfl | rfl | rfl | rfl | rfl | rfl | rfl | rfl
  · exact ok_0
  · exact ok_1
  · exact ok_32
  · exact ok_96
  · exact ok_97
  · exact ok_2
  · exact ok_3
  · exact ok_4
  · exact ok_12
  · exact ok_20
  · exact ok_28
  · exact ok_36
  · exact ok_44
  · exact ok_52
  · exact ok_60
  · exact ok_68
  · exact ok_76
  · exact ok_84
  · exact ok_92
  · exact ok_164
  · exact ok_172
  · exact ok_100
  · exact ok_108
  · exact ok_116
  · exact ok_124
  · exact ok_132
  · exact ok_7
  · exact ok_135
  · exact ok_5
  · exact ok_21
  · exact ok_29
  · exact ok_37
  · exact ok_45
  · exact ok_53
  · exact ok_61
  · exact ok_69
  · exact ok_77
  · exact ok_6
  · exact ok_22
end Go.Proofs.Ytjfgihmamoiipaa
