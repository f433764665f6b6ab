/-
  CONTRACTS: the reader opened; a drawn word.
-/
import Derived.Test.YtjfgihmamoiipaaRead
namespace Go.Proofs.Ytjfgihmamoiipaa
open Go.RowKit
set_option linter.unusedVariables false

theorem isBytes_take {l : List Int} (h : isBytes l) (n : Nat) : isBytes (l.take n) := fun x hx => h x (List.mem_of_mem_take hx)

theorem rd_new (a : Option Addr) (cap : Nat) (l : List Int) (w : World) (hs : BSrc w a l) (hl : isBytes l) (n : Nat) (hn : (l.take 600).length = n) (hnl : n ≤ l.length) (hcap : n ≤ cap) (c : Array Value)
    (hc : c = #[.slice a (l.take 600).length cap, .int .i64 0]) : Rd (w.alloc (.cells c 102)) w.heap.size a cap (l.take 600) 0 := by
  subst hc
  refine ⟨?_, ?_, isBytes_take hl _, by rw [List.length_take]; omega, by omega⟩
  · refine World.rowIs_alloc w #[.slice a (l.take 600).length cap, .int .i64 0] _ _ (fun i hi => ?_)
    have h2 : i < 2 := hi
    have : i = 0 ∨ i = 1 := by omega
    rcases this with rfl | rfl
    · rfl
    · unfold rdF; simp
  · rcases hs with rfl | ⟨b, o, rfl, h2, h3⟩
    · exact .inl rfl
    · refine .inr ⟨b, o, rfl, h2, fun i hi => ?_⟩
      rw [hn] at hi
      rw [World.cell?_of_block (w := w) (Below.heap_alloc w _ b h2), h3 i (by omega)]
      have e : (l.take 600).getD i 0 = l.getD i 0 := by
        rw [List.getD_eq_getElem?_getD, List.getD_eq_getElem?_getD, List.getElem?_take, if_pos]
        rw [List.length_take] at hn; omega
      rw [e]

set_option maxHeartbeats 1000000 in
theorem open_any (a : Option Addr) (cap : Nat) (l : List Int) (w : World) (hs : BSrc w a l) (hl : isBytes l) (hcap : l.length ≤ cap) (hn : l.length ≤ 1048576) :
    Calls Try.prog 47 #[.slice a l.length cap] w fun e w' => ∃ R cap', e = .returned (.pointer (some ⟨R, 0, none⟩)) ∧ w.heap.size ≤ R ∧ Rd w' R a cap' (l.take 600) 0 ∧ Below w.heap.size w w' := by
  obtain ⟨n, en⟩ : ∃ n, l.length = n := ⟨_, rfl⟩
  have HN : Hid (l.length = n) := en
  rw [en] at hcap hn ⊢
  clear en
  by_cases hbig : 600 < n
  · have ht : (l.take 600).length = 600 := by rw [List.length_take, HN.out]; omega
    have HT : Hid ((l.take 600).length = 600) := ht
    clear ht
    go_enter Try.func47, Try.ntmps47
    go_wp2
    go_ret
    refine ⟨w.heap.size, cap, rfl, Nat.le_refl _, ?_, ?_⟩
    · exact rd_new a cap l w hs hl 600 HT.out (by rw [HN.out]; omega) (by omega) _ (by rw [HT.out])
    · exact (Below.refl _ _).alloc (Nat.le_refl _) _
  · have ht : (l.take 600).length = n := by rw [List.length_take, HN.out]; omega
    have HT : Hid ((l.take 600).length = n) := ht
    clear ht
    go_enter Try.func47, Try.ntmps47
    go_wp2
    go_ret
    refine ⟨w.heap.size, cap, rfl, Nat.le_refl _, ?_, ?_⟩
    · exact rd_new a cap l w hs hl n HT.out (by rw [HN.out]; omega) (by omega) _ (by rw [HT.out])
    · exact (Below.refl _ _).alloc (Nat.le_refl _) _

/-- a drawn word, and where the reader stands behind it -/
def wordV (l : List Int) (j : Nat) : Int :=
  if l.getD j 0 < 100 then l.getD j 0 % 20 else if l.getD j 0 < 130 then 2 ^ (l.getD j 0 % 32).toNat else if l.getD j 0 < 160 then 4294967295 - l.getD j 0 % 5
  else if l.getD j 0 < 190 then 2147483647 + l.getD j 0 % 3 else (l.getD j 0 * 16777619 + l.getD (j + 1) 0 * 65537 + l.getD (j + 2) 0) % 4294967296
def wordJ (l : List Int) (j : Nat) : Nat := if l.getD j 0 < 190 then j + 1 else j + 3

set_option maxHeartbeats 1000000 in
theorem drawWord_any (R cap : Nat) (a : Option Addr) (l : List Int) (j : Nat) (w : World) (hR : Rd w R a cap l j) :
    Calls Try.prog 79 #[.pointer (some ⟨R, 0, none⟩)] w fun e w' => e = .returned (.int .u32 (wordV l j)) ∧ Rd w' R a cap l (wordJ l j) ∧ w.grownBy w' (some R) := by
  have hx := isBytes_getD hR.bys j
  have hy := isBytes_getD hR.bys (j + 1)
  have hz := isBytes_getD hR.bys (j + 2)
  have HN1 : ∀ W, Rd W R a cap l j → Calls Try.prog 50 #[.pointer (some ⟨R, 0, none⟩)] W fun e w' => e = .returned (.int .i64 (l.getD j 0)) ∧ Rd w' R a cap l (j + 1) ∧ W.grownBy w' (some R) := fun W h => next_any R cap a l j W h
  have HN2 : ∀ W, Rd W R a cap l (j + 1) → Calls Try.prog 50 #[.pointer (some ⟨R, 0, none⟩)] W fun e w' => e = .returned (.int .i64 (l.getD (j + 1) 0)) ∧ Rd w' R a cap l (j + 2) ∧ W.grownBy w' (some R) := fun W h => next_any R cap a l (j + 1) W h
  have HN3 : ∀ W, Rd W R a cap l (j + 2) → Calls Try.prog 50 #[.pointer (some ⟨R, 0, none⟩)] W fun e w' => e = .returned (.int .i64 (l.getD (j + 2) 0)) ∧ Rd w' R a cap l (j + 3) ∧ W.grownBy w' (some R) := fun W h => next_any R cap a l (j + 2) W h
  obtain ⟨V, hV⟩ : ∃ V, wordV l j = V := ⟨_, rfl⟩
  obtain ⟨J, hJ⟩ : ∃ J, wordJ l j = J := ⟨_, rfl⟩
  rw [hV, hJ]
  unfold wordV at hV
  unfold wordJ at hJ
  generalize l.getD j 0 = x at *
  generalize l.getD (j + 1) 0 = y at *
  generalize l.getD (j + 2) 0 = z at *
  have HV : Hid _ := hV
  have HJ : Hid _ := hJ
  clear hV hJ
  go_enter Try.func79, Try.ntmps79
  go_wp2_with fail
  refine (HN1 _ hR).mono ?_
  rintro _ w1 ⟨rfl, hR1, hg1⟩
  by_cases c1 : x < 100
  · have hV : V = x % 20 := by rw [← HV.out, if_pos c1]
    have hJ : J = j + 1 := by rw [← HJ.out, if_pos (by omega)]
    subst hV hJ
    clear HV HJ HN2 HN3
    go_wp2
    go_ret
    exact ⟨rfl, hR1, hg1⟩
  by_cases c2 : x < 130
  · have hV : V = 2 ^ (x % 32).toNat := by rw [← HV.out, if_neg c1, if_pos c2]
    have hJ : J = j + 1 := by rw [← HJ.out, if_pos (by omega)]
    subst hV hJ
    clear HV HJ HN2 HN3
    go_wp2
    go_ret
    refine ⟨ret_int ?_, hR1, hg1⟩
    have hp : ∀ k : Nat, k < 32 → (2 : Int) ^ k % 4294967296 = 2 ^ k := by decide
    exact hp _ (by omega)
  by_cases c3 : x < 160
  · have hV : V = 4294967295 - x % 5 := by rw [← HV.out, if_neg c1, if_neg c2, if_pos c3]
    have hJ : J = j + 1 := by rw [← HJ.out, if_pos (by omega)]
    subst hV hJ
    clear HV HJ HN2 HN3
    go_wp2
    go_ret
    exact ⟨ret_int (by first | rfl | omega), hR1, hg1⟩
  by_cases c4 : x < 190
  · have hV : V = 2147483647 + x % 3 := by rw [← HV.out, if_neg c1, if_neg c2, if_neg c3, if_pos c4]
    have hJ : J = j + 1 := by rw [← HJ.out, if_pos (by omega)]
    subst hV hJ
    clear HV HJ HN2 HN3
    go_wp2
    go_ret
    exact ⟨ret_int (by first | rfl | omega), hR1, hg1⟩
  · have hV : V = (x * 16777619 + y * 65537 + z) % 4294967296 := by rw [← HV.out, if_neg c1, if_neg c2, if_neg c3, if_neg c4]
    have hJ : J = j + 3 := by rw [← HJ.out, if_neg (by omega)]
    subst hV hJ
    clear HV HJ
    go_wp2_with fail
    refine (HN2 _ hR1).mono ?_
    rintro _ w2 ⟨rfl, hR2, hg2⟩
    go_wp2_with fail
    refine (HN3 _ hR2).mono ?_
    rintro _ w3 ⟨rfl, hR3, hg3⟩
    go_wp2
    go_ret
    refine ⟨ret_int ?_, hR3, rb_trans hg1 (rb_trans hg2 hg3)⟩
    omega
end Go.Proofs.Ytjfgihmamoiipaa
