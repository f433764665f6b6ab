/-
  CONTRACTS of Validate, the program's and the model's: both answer 'validL'.
-/
import Derived.Test.YtjfgihmamoiipaaFaultS
import Derived.Test.YtjfgihmamoiipaaCopy
namespace Go.Proofs.Ytjfgihmamoiipaa
open Go.RowKit
set_option linter.unusedVariables false

abbrev pairV (r : Int × Int) : Value := .tuple #[.int .i64 r.1, .int .i64 r.2]
theorem ret_pair {a b : Int} {r : Int × Int} (h : r = (a, b)) : Ending.returned (.tuple #[.int .i64 a, .int .i64 b]) = .returned (pairV r) := by rw [h]

theorem InsAt.below {w w' : World} {b o : Nat} {p : List I} (h : InsAt w b o p) (hb : b < w.heap.size) (hB : Below w.heap.size w w') : InsAt w' b o p := by
  intro i hi
  obtain ⟨c0, c1, c2, c3⟩ := h i hi
  exact ⟨(hB.cell (p := ⟨b, _, none⟩) hb).trans c0, (hB.cell (p := ⟨b, _, none⟩) hb).trans c1, (hB.cell (p := ⟨b, _, none⟩) hb).trans c2, (hB.cell (p := ⟨b, _, none⟩) hb).trans c3⟩

set_option maxHeartbeats 1000000 in
theorem specValidate_size (a : Option Addr) (n cap : Nat) (w : World) (hn : n ≤ 1048576) (h : n < 1 ∨ 4096 < n) :
    Calls Try.prog 13 #[.slice a n cap] w fun e w' => e = .returned (pairV (1, 0)) ∧ Below w.heap.size w w' := by
  rcases h with h | h
  · have h0 : n = 0 := by omega
    subst h0
    go_enter Try.func13, Try.ntmps13
    go_wp2
    go_ret2
    exact ⟨rfl, Below.refl _ _⟩
  · have h1 : decide ((n : Int) < 1) = false := by simp; omega
    have h2 : (4096 : Int) < (n : Int) := by omega
    go_enter Try.func13, Try.ntmps13
    go_wp2
    go_ret2
    exact ⟨rfl, Below.refl _ _⟩

set_option maxHeartbeats 1000000 in
theorem specValidate_in (b o cap : Nat) (p : List I) (w : World) (hb : b < w.heap.size) (hp : InsAt w b o p) (hok : ∀ x ∈ p, x.ok) (h1 : 1 ≤ p.length) (h2 : p.length ≤ 4096) :
    Calls Try.prog 13 #[.slice (some ⟨b, o, none⟩) p.length cap] w fun e w' => e = .returned (pairV (validL p)) ∧ Below w.heap.size w w' := by
  have HV : Hid (validL p = ffrom (faultAt p) (p.length - 0) 0) := validL_in h1 h2
  obtain ⟨r, hr⟩ : ∃ r, validL p = r := ⟨_, rfl⟩
  rw [hr] at HV ⊢
  clear hr
  have HC : Hid (∀ (i : Nat) (w1 : World), Below w.heap.size w w1 → i < p.length → Calls Try.prog 51 #[.slice (some ⟨b, o, none⟩) p.length cap, .int .i64 i] w1 fun e w' => e = .returned (.int .i64 (faultAt p i)) ∧ Below w1.heap.size w1 w') :=
    fun i w1 hB hi => l1fault_any b o cap i p w1 (Nat.lt_of_lt_of_le hb hB.size) (hp.below hb hB) hok hi h2
  generalize p.length = n at *
  generalize faultAt p = F at *
  clear hp hok
  have n1 : (1 : Int) ≤ n := by omega
  have n2 : (n : Int) ≤ 4096 := by omega
  go_enter Try.func13, Try.ntmps13
  go_wp2_with fail
  go_loopw [4] (fun i wr => ∃ k : Nat, k ≤ n ∧ i = .int .i64 k ∧ Hid (r = ffrom F (n - k) k) ∧ Below w.heap.size w wr) (fun i _ => n - (intOf i).toNat)
  case atStart => exact ⟨0, by omega, rfl, HV, Below.refl _ _⟩
  case round =>
    obtain ⟨k, hk, rfl, H, hB⟩ := hrel
    clear HV
    by_cases hlt : k < n
    · go_wp2_with fail
      refine (HC.out k wr hB hlt).mono ?_
      rintro e w1 ⟨rfl, hb1⟩
      have hB1 : Below w.heap.size w w1 := hB.trans (hb1.mono hB.size)
      by_cases hf : F k = 0
      · have hfb : (F k != 0) = false := by simp [hf]
        have H1 : Hid (F k = 0) := hf
        clear hf
        go_wp2
        go_roundw
        case rel => exact ⟨k + 1, by omega, by go_num, H.out.trans (ffrom_step0 hlt H1.out).symm, hB1⟩
        case measure => simp [intOf]; omega
      · have hfb : (F k != 0) = true := by simp [hf]
        have H1 : Hid (F k ≠ 0) := hf
        clear hf
        go_wp2
        go_ret2
        exact ⟨ret_pair (H.out.trans (ffrom_hit hlt H1.out)), hB1⟩
    · go_wp2
      go_ret2
      have hkn : k = n := by omega
      subst hkn
      exact ⟨ret_pair (H.out.trans ffrom_end), hB⟩

theorem specValidate_any (a : Option Addr) (cap : Nat) (p : List I) (w : World) (hs : Src w a p) (hok : ∀ x ∈ p, x.ok) (hn : p.length ≤ 1048576) :
    Calls Try.prog 13 #[.slice a p.length cap] w fun e w' => e = .returned (pairV (validL p)) ∧ Below w.heap.size w w' := by
  by_cases h : p.length < 1 ∨ 4096 < p.length
  · rw [validL_big h]
    exact specValidate_size a p.length cap w hn h
  · rcases hs with rfl | ⟨b, o, rfl, hb, hp⟩
    · exact absurd (.inl (by decide)) h
    · exact specValidate_in b o cap p w hb hp hok (by omega) (by omega)

set_option maxHeartbeats 1000000 in
theorem implValidate_size (a : Option Addr) (n cap : Nat) (w : World) (hn : n ≤ 1048576) (h : n < 1 ∨ 4096 < n) :
    Calls Try.prog 17 #[.slice a n cap] w fun e w' => e = .returned (pairV (1, 0)) ∧ Below w.heap.size w w' := by
  rcases h with h | h
  · have h0 : n = 0 := by omega
    subst h0
    go_enter Try.func17, Try.ntmps17
    go_wp2
    go_ret2
    exact ⟨rfl, Below.refl _ _⟩
  · have h1 : ((n : Int) == 0) = false := by simp; omega
    have h2 : (4096 : Int) < (n : Int) := by omega
    go_enter Try.func17, Try.ntmps17
    go_wp2
    go_ret2
    exact ⟨rfl, Below.refl _ _⟩

set_option maxHeartbeats 1000000 in
theorem implValidate_in (b o cap : Nat) (p : List I) (w : World) (hb : b < w.heap.size) (hp : InsAt w b o p) (hok : ∀ x ∈ p, x.ok) (h1 : 1 ≤ p.length) (h2 : p.length ≤ 4096) :
    Calls Try.prog 17 #[.slice (some ⟨b, o, none⟩) p.length cap] w fun e w' => e = .returned (pairV (validL p)) ∧ Below w.heap.size w w' := by
  have HV : Hid (validL p = ffrom (faultAt p) (p.length - 0) 0) := validL_in h1 h2
  obtain ⟨r, hr⟩ : ∃ r, validL p = r := ⟨_, rfl⟩
  rw [hr] at HV ⊢
  clear hr
  have HF : Hid (∀ i, i < p.length → faultAt p i = faultI (p.getD i I.zero).c (p.getD i I.zero).jt (p.getD i I.zero).jf (p.getD i I.zero).k ((p.length : Int) - 1 - i)) := fun i hi => (faultI_eq _ _ _ _ _ _).symm
  have HO : Hid (∀ i, i < p.length → (p.getD i I.zero).ok) := fun i hi => hok _ (by rw [List.getD_eq_getElem?_getD, List.getElem?_eq_getElem hi]; exact List.getElem_mem hi)
  have HP : Hid (InsAt w b o p) := hp
  obtain ⟨n, hn'⟩ : ∃ n, p.length = n := ⟨_, rfl⟩
  have HN : Hid (p.length = n) := hn'
  rw [hn'] at HV HF HO h1 h2 ⊢
  generalize faultAt p = F at *
  clear hp hok hn'
  have n0 : ((n : Int) == 0) = false := by simp; omega
  have n1 : (1 : Int) ≤ n := by omega
  have n2 : (n : Int) ≤ 4096 := by omega
  go_enter Try.func17, Try.ntmps17
  go_wp2_with fail
  go_loopw [17] (fun i wr => ∃ k : Nat, k ≤ n ∧ i = .int .i64 k ∧ Hid (r = ffrom F (n - k) k) ∧ Below w.heap.size w wr) (fun i _ => n - (intOf i).toNat)
  case atStart => exact ⟨0, by omega, rfl, HV, Below.refl _ _⟩
  case round =>
    obtain ⟨k, hk, rfl, H, hB⟩ := hrel
    clear HV
    by_cases hlt : k < n
    · obtain ⟨c0, c1, c2, c3⟩ := HP.out k (by rw [HN.out]; exact hlt)
      have d0 := (hB.cell (p := ⟨b, _, none⟩) hb).trans c0
      have d1 := (hB.cell (p := ⟨b, _, none⟩) hb).trans c1
      have d2 := (hB.cell (p := ⟨b, _, none⟩) hb).trans c2
      have d3 := (hB.cell (p := ⟨b, _, none⟩) hb).trans c3
      have HE : Hid (F k = faultI (p.getD k I.zero).c (p.getD k I.zero).jt (p.getD k I.zero).jf (p.getD k I.zero).k ((n : Int) - 1 - k)) := HF.out k hlt
      have HK : Hid (p.getD k I.zero).ok := HO.out k hlt
      clear c0 c1 c2 c3 HP HN HF HO
      generalize p.getD k I.zero = x at *
      obtain ⟨c, jt, jf, kk⟩ := x
      obtain ⟨_, _, b1, b2, b3, b4, b5, _⟩ := HK.out
      clear HK
      simp only at d0 d1 d2 d3 b1 b2 b3 b4 b5 HE
      go_wp2_with fail
      refine (faultOf_any _ _ _ _ _ _ b1 b2 b3 b4 b5 (by omega) (by omega)).mono ?_
      rintro e w1 ⟨rfl, hb1⟩
      rw [← HE.out]
      have hB1 : Below w.heap.size w w1 := (hB.alloc hB.size _).trans (hb1.mono (by have := hB.size; simp; omega))
      clear d0 d1 d2 d3 HE
      by_cases hf : F k = 0
      · have hfb : (F k != 0) = false := by simp [hf]
        have H1 : Hid (F k = 0) := hf
        clear hf
        go_wp2
        go_roundw
        case rel => exact ⟨k + 1, by omega, by go_num, H.out.trans (ffrom_step0 hlt H1.out).symm, hB1⟩
        case measure => simp [intOf]; omega
      · have hfb : (F k != 0) = true := by simp [hf]
        have H1 : Hid (F k ≠ 0) := hf
        clear hf
        go_wp2
        go_ret2
        exact ⟨ret_pair (H.out.trans (ffrom_hit hlt H1.out)), hB1⟩
    · go_wp2
      go_ret2
      have hkn : k = n := by omega
      subst hkn
      exact ⟨ret_pair (H.out.trans ffrom_end), hB⟩

theorem implValidate_any (a : Option Addr) (cap : Nat) (p : List I) (w : World) (hs : Src w a p) (hok : ∀ x ∈ p, x.ok) (hn : p.length ≤ 1048576) :
    Calls Try.prog 17 #[.slice a p.length cap] w fun e w' => e = .returned (pairV (validL p)) ∧ Below w.heap.size w w' := by
  by_cases h : p.length < 1 ∨ 4096 < p.length
  · rw [validL_big h]
    exact implValidate_size a p.length cap w hn h
  · rcases hs with rfl | ⟨b, o, rfl, hb, hp⟩
    · exact absurd (.inl (by decide)) h
    · exact implValidate_in b o cap p w hb hp hok (by omega) (by omega)
end Go.Proofs.Ytjfgihmamoiipaa
