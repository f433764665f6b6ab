/-
  PLAIN MATHEMATICS of valid programs: what is left of one is one, and what the first instruction may be.
-/
import Derived.Test.YtjfgihmamoiipaaMathR
namespace Go.Proofs.Ytjfgihmamoiipaa

def ValidQ (q : List I) : Prop := 1 ≤ q.length ∧ q.length ≤ 4096 ∧ (∀ j, j < q.length → faultAt q j = 0) ∧ ∀ x ∈ q, x.ok

theorem faultS_shift (n i d : Int) (c jt jf k : Int) : faultS (n - d) i c jt jf k = faultS n (i + d) c jt jf k := by
  rw [← faultI_eq, ← faultI_eq]; congr 1; omega

theorem ValidQ.drop {q : List I} (h : ValidQ q) {d : Nat} (hd : d < q.length) : ValidQ (q.drop d) := by
  obtain ⟨h1, h2, h3, h4⟩ := h
  refine ⟨by rw [List.length_drop]; omega, by rw [List.length_drop]; omega, fun j hj => ?_, fun x hx => h4 x (List.mem_of_mem_drop hx)⟩
  rw [List.length_drop] at hj
  have := h3 (j + d) (by omega)
  unfold faultAt at *
  have e : (q.drop d).getD j I.zero = q.getD (j + d) I.zero := by
    rw [List.getD_eq_getElem?_getD, List.getD_eq_getElem?_getD, List.getElem?_drop, Nat.add_comm]
  rw [e, List.length_drop, show ((q.length - d : Nat) : Int) = (q.length : Int) - d by omega, faultS_shift]
  rw [show ((j : Int) + (d : Int)) = ((j + d : Nat) : Int) by omega]
  exact this

theorem ValidQ.tail {i : I} {t : List I} (h : ValidQ (i :: t)) {d : Nat} (hd : d < t.length) : ValidQ (t.drop d) := by
  have := h.drop (d := d + 1) (by simp; omega)
  simpa using this

/-- what the first instruction of a valid program may be -/
structure HeadOK (i : I) (n : Nat) : Prop where
  known : knownB i.c = true
  load : i.c = 32 → i.k ≤ 60
  mem : memB i.c = true → i.k < 16
  jump : i.c = 5 → i.k + 1 < n
  test : tstB i.c = true → i.jt + 1 < n ∧ i.jf + 1 < n
  divk : i.c = 52 → i.k ≠ 0
  last : n = 1 → i.c = 6 ∨ i.c = 22

theorem ValidQ.head {i : I} {t : List I} (h : ValidQ (i :: t)) : HeadOK i (t.length + 1) := by
  obtain ⟨h1, h2, h3, h4⟩ := h
  have h0 := h3 0 (by simp)
  unfold faultAt at h0
  simp only [List.length_cons, List.getD_cons_zero] at h0
  unfold faultS at h0
  by_cases g1 : knownB i.c = false
  · rw [if_pos g1] at h0; omega
  rw [if_neg g1] at h0
  by_cases g2 : i.c = 32 ∧ (i.k % 4 ≠ 0 ∨ 60 < i.k)
  · rw [if_pos g2] at h0; omega
  rw [if_neg g2] at h0
  by_cases g3 : memB i.c = true ∧ 16 ≤ i.k
  · rw [if_pos g3] at h0; omega
  rw [if_neg g3] at h0
  split at h0
  · omega
  rename_i g4
  split at h0
  · omega
  rename_i g5
  split at h0
  · omega
  rename_i g6
  split at h0
  · omega
  rename_i g7
  split at h0
  · omega
  rename_i g8
  refine ⟨by simpa using g1, fun e => ?_, fun e => ?_, fun e => ?_, fun e => ?_, fun e => ?_, fun e => ?_⟩
  · by_cases hk : 60 < i.k
    · exact absurd ⟨e, .inr hk⟩ g2
    · omega
  · by_cases hk : 16 ≤ i.k
    · exact absurd ⟨e, hk⟩ g3
    · omega
  · have : ¬ ((t.length + 1 : Nat) : Int) ≤ ((0 : Nat) : Int) + 1 + i.k := fun hh => g4 ⟨e, hh⟩
    omega
  · constructor
    · have : ¬ ((t.length + 1 : Nat) : Int) ≤ ((0 : Nat) : Int) + 1 + i.jt := fun hh => g5 ⟨e, .inl hh⟩
      omega
    · have : ¬ ((t.length + 1 : Nat) : Int) ≤ ((0 : Nat) : Int) + 1 + i.jf := fun hh => g5 ⟨e, .inr hh⟩
      omega
  · exact fun hk => g6 ⟨e, hk⟩
  · by_cases c6 : i.c = 6
    · exact .inl c6
    · by_cases c22 : i.c = 22
      · exact .inr c22
      · exact absurd ⟨by omega, c6, c22⟩ g8

/-- the codes of the table, by what they do -/
theorem known_cases {c : Int} (h : knownB c = true) : c = 6 ∨ c = 22 ∨ ariB c = true ∨ c = 5 ∨ tstB c = true ∨ c = 0 ∨ c = 1 ∨ c = 32 ∨ c = 96 ∨ c = 97 ∨ c = 2 ∨ c = 3 ∨ c = 7 ∨ c = 135 := by
  have hm : c ∈ codesL := by simpa [knownB] using h
  have key : ∀ c ∈ codesL, c = 6 ∨ c = 22 ∨ ariB c = true ∨ c = 5 ∨ tstB c = true ∨ c = 0 ∨ c = 1 ∨ c = 32 ∨ c = 96 ∨ c = 97 ∨ c = 2 ∨ c = 3 ∨ c = 7 ∨ c = 135 := by decide
  exact key c hm
theorem ari_facts {c : Int} (h : ariB c = true) : c % 8 = 4 ∧ (c / 8 % 2 = 0 ∨ c / 8 % 2 = 1) ∧ (c / 16 = 0 ∨ c / 16 = 1 ∨ c / 16 = 2 ∨ c / 16 = 3 ∨ c / 16 = 4 ∨ c / 16 = 5 ∨ c / 16 = 10 ∨ c / 16 = 8 ∨ c / 16 = 6 ∨ c / 16 = 7) ∧ ((c / 16 = 3 ↔ (c = 52 ∨ c = 60)) ∧ c ≠ 6 ∧ c ≠ 22 ∧ tstB c = false ∧ c ≠ 5) := by
  have hk : knownB c = true := by rw [← isKnownB_eq]; simp [isKnownB, h]
  have hm : c ∈ codesL := by simpa [knownB] using hk
  have key : ∀ c ∈ codesL, ariB c = true → c % 8 = 4 ∧ (c / 8 % 2 = 0 ∨ c / 8 % 2 = 1) ∧ (c / 16 = 0 ∨ c / 16 = 1 ∨ c / 16 = 2 ∨ c / 16 = 3 ∨ c / 16 = 4 ∨ c / 16 = 5 ∨ c / 16 = 10 ∨ c / 16 = 8 ∨ c / 16 = 6 ∨ c / 16 = 7) ∧ ((c / 16 = 3 ↔ (c = 52 ∨ c = 60)) ∧ c ≠ 6 ∧ c ≠ 22 ∧ tstB c = false ∧ c ≠ 5) := by decide
  exact key c hm h
theorem tst_facts {c : Int} (h : tstB c = true) : c % 8 = 5 ∧ (c / 8 % 2 = 0 ∨ c / 8 % 2 = 1) ∧ c ≠ 5 ∧ c ≠ 6 ∧ c ≠ 22 ∧ c ≠ 52 ∧ c ≠ 60 ∧ ariB c = false ∧ c ≠ 0 ∧ c ≠ 1 ∧ c ≠ 32 ∧ c ≠ 96 ∧ c ≠ 97 ∧ c ≠ 2 ∧ c ≠ 3 ∧ c ≠ 7 ∧ c ≠ 135 := by
  have hm : c ∈ codesL := by simpa [knownB] using tst_known c h
  have key : ∀ c ∈ codesL, tstB c = true → c % 8 = 5 ∧ (c / 8 % 2 = 0 ∨ c / 8 % 2 = 1) ∧ c ≠ 5 ∧ c ≠ 6 ∧ c ≠ 22 ∧ c ≠ 52 ∧ c ≠ 60 ∧ ariB c = false ∧ c ≠ 0 ∧ c ≠ 1 ∧ c ≠ 32 ∧ c ≠ 96 ∧ c ≠ 97 ∧ c ≠ 2 ∧ c ≠ 3 ∧ c ≠ 7 ∧ c ≠ 135 := by decide
  exact key c hm h
end Go.Proofs.Ytjfgihmamoiipaa
