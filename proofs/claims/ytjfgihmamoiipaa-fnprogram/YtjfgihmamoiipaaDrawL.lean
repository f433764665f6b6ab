/-
  CONTRACT: a long program.
-/
import Derived.Test.YtjfgihmamoiipaaDrawI
import Derived.Test.YtjfgihmamoiipaaOwnS
namespace Go.Proofs.Ytjfgihmamoiipaa
open Go.RowKit
set_option linter.unusedVariables false

def rowL (n : Nat) : List I := (List.range n).map (fun i : Nat => (⟨6, 0, 0, (i : Int)⟩ : I))
theorem rowL_len (n : Nat) : (rowL n).length = n := by simp [rowL]
theorem rowL_succ (n : Nat) : rowL (n + 1) = rowL n ++ [⟨6, 0, 0, (n : Int)⟩] := by simp [rowL, List.range_succ]
def longL (n : Nat) : List I := (rowL n).set 0 ⟨5, 0, 0, (n : Int) - 2⟩
theorem longL_len (n : Nat) : (longL n).length = n := by simp [longL, rowL_len]

theorem ownI_ge {w : World} {B : Nat} {v : Value} {p : List I} (h : ownsI w B v p) : ∀ k, v.ownBlock = some k → B ≤ k := fun k hk => (h.lt k hk).1

set_option maxRecDepth 100000 in
set_option maxHeartbeats 2000000 in
theorem long_any (n : Nat) (w : World) (h1 : 2 ≤ n) (hn : n ≤ 5000) :
    Calls Try.prog 80 #[.int .i64 n] w fun e w' => ∃ v', e = .returned v' ∧ ownsI w' w.heap.size v' (longL n) ∧ Below w.heap.size w w' := by
  obtain ⟨i0, hi, hz0, hz1, hz2⟩ := info_parts info36
  have HE : Hid (∀ k, rowL (k + 1) = rowL k ++ [⟨6, 0, 0, (k : Int)⟩]) := fun k => rowL_succ k
  have HL : Hid (∀ k, (rowL k).length = k) := fun k => rowL_len k
  have H0 : Hid (rowL 0 = []) := rfl
  have HD : Hid (longL n = (rowL n).set 0 ⟨5, 0, 0, (n : Int) - 2⟩) := rfl
  generalize longL n = LL at *
  generalize rowL = E at *
  go_enter Try.func80, Try.ntmps80
  go_wp2_with fail
  go_loopw [3, 4] (fun s i wr => ∃ (k : Nat), k ≤ n ∧ i = .int .i64 k ∧ ownsI wr w.heap.size s (E k) ∧ Below w.heap.size w wr) (fun _ i _ => n - (intOf i).toNat)
  case atStart => exact ⟨0, by omega, rfl, by rw [H0.out]; exact World.ownsRow_nil _ _ _ _, Below.refl _ _⟩
  case round =>
    obtain ⟨k, hk, rfl, hown, hB⟩ := hrel
    by_cases hlt : k < n
    · have hlen := HL.out k
      have HE' : Hid (E (k + 1) = E k ++ [⟨6, 0, 0, (k : Int)⟩]) := HE.out k
      have hwr := hB.size
      clear HL HE H0 HD
      generalize E k = q at *
      go_wp2_with (at_builtin; refine wpList_append_own _ rfl (.tmp 10) (.tmp 14) 23 rfl w.heap.size 36 i0 _ 4 8 Try.underlying23 hi hz0 hz1 hz2 rfl (by decide) _ _ _ rfl (hown.alloc _) ⟨wr.heap.size, 0, none⟩ 1 1 (insC ⟨6, 0, 0, (k : Int)⟩) rfl rfl ?c1 ?c2 ?c3 ?c4 ?c5 ?_)
      case c1 =>
        intro j u hj
        rw [add_at]
        rw [World.cell?_alloc_at _ _ _ _ rfl]
        simpa [insC] using hj
      case c2 => intro u hu; simp [insC] at hu; rcases hu with rfl | rfl | rfl | rfl <;> rfl
      case c3 => unfold maxLen; omega
      case c4 => omega
      case c5 => first | omega | (simp; omega)
      intro v2 w2 hown2 hgrow2 _
      have hB2 := growI_below hB hwr hown hgrow2
      have ho2 : ownsI w2 w.heap.size v2 (E (k + 1)) := by rw [HE'.out]; exact ownsI_snoc (by omega) hown2
      clear hown2 hgrow2 hown hB HE' hlen
      go_wp2
      go_roundw
      case rel => exact ⟨k + 1, by omega, by go_num, ho2, hB2⟩
      case measure => simp [intOf]; omega
    · have hkn : k = n := by omega
      subst hkn
      have hlen := HL.out k
      have HDk : Hid (LL = (E k).set 0 ⟨5, 0, 0, (k : Int) - 2⟩) := HD.out
      clear HL HE H0 HD
      generalize E k = q at *
      have hown0 : Hid (ownsI wr w.heap.size _ q) := hown
      obtain ⟨hx, h | ⟨g, cap, cur, rfl, hb, hg, hnc, hcm, hcs, htk⟩⟩ := hown
      · omega
      clear hx hg hcs htk
      have hq : 0 < q.length := by omega
      have hC : ∀ j, j < 4 → ∃ v, wr.cell? ⟨g, j, none⟩ = some v := by
        intro j hj
        have hl := hown0.out.1
        exact ⟨_, (World.ownsRow.cellAt hown0.out j (by omega)).trans (List.getElem?_eq_getElem (by omega))⟩
      obtain ⟨x0, d0⟩ := hC 0 (by omega)
      obtain ⟨x1, d1⟩ := hC 1 (by omega)
      obtain ⟨x2, d2⟩ := hC 2 (by omega)
      obtain ⟨x3, d3⟩ := hC 3 (by omega)
      have f0 := World.ownsRow.frozenAt hown0.out 0
      have f1 := World.ownsRow.frozenAt hown0.out 1
      have f2 := World.ownsRow.frozenAt hown0.out 2
      have f3 := World.ownsRow.frozenAt hown0.out 3
      have hq2 : Hid (q.length = k) := hlen
      rw [hlen] at hq hnc ⊢
      clear hC hlen
      have hk1 : 1 < k := by omega
      have hk1' : (1 : Int) < (k : Int) := by omega
      go_wp2
      go_ret
      refine ⟨_, rfl, ?_, ?_⟩
      · have hown1 : wr.ownsRow w.heap.size 36 4 (.slice (some ⟨g, 0, none⟩) k cap) k (insCells q) := by
          have h3 := hown0.out
          unfold ownsI at h3
          rw [hq2.out] at h3
          exact h3
        have a := ownsI_all (i := 0) hq2.out hown1 (by rw [hq2.out]; exact hq) ⟨5, 0, 0, (k : Int) - 2⟩
        rw [HDk.out]
        unfold ownsI
        rw [List.length_set, hq2.out]
        simpa using a
      · exact (((hB.setCell hb _).setCell hb _).setCell hb _).setCell hb _
end Go.Proofs.Ytjfgihmamoiipaa
