/-
  CONTRACT of the program's Assemble.
-/
import Derived.Test.YtioabdfddjmabaaAsmL
import Derived.Test.YtioabdfddjmabaaAsmQ
namespace Go.Proofs.Ytioabdfddjmabaa
open Go.RowKit
set_option linter.unusedVariables false

set_option maxRecDepth 100000 in
set_option maxHeartbeats 4000000 in
theorem implAsm_any (l : List It) (a : Option Addr) (cap : Nat) (w : World) (hs : TSrc w a l) (ho : ∀ x ∈ l, x.ok) (hn : l.length ≤ 1048576) :
    Calls Try.prog 7 #[.slice a l.length cap] w fun e w' => AsmPost l w e w' := by
  by_cases hl : 20000 < l.length
  · have HPv : Hid (AsmPost l w (.returned (.tuple #[.slice none 0 0, .int .i64 1])) w) := by
      obtain ⟨e1, e2⟩ := asm_long hl
      exact ⟨_, by rw [e1], by rw [e2]; exact World.ownsRow_nil _ _ _ _, Below.refl _ _⟩
    have hl' : (20000 : Int) < (l.length : Int) := by omega
    clear hs ho
    generalize l.length = n at *
    go_enter Try.func7, Try.ntmps7
    go_wp2
    exact bodyPost_ret (v := .tuple #[.slice none 0 0, .int .i64 1]) (by simp [results, Try.results7, go_sem]) rfl HPv.out
  · have hl' : ¬ (20000 : Int) < (l.length : Int) := by omega
    have HE : Hid (Calls Try.prog 16 #[.slice a l.length cap, .func (.func 17) #[] #[]] w fun e w' => e = .returned (.bool (l.all okIt)) ∧ Below w.heap.size w w') := everyItem_any l a cap w hs (by omega)
    have HL : Hid (∀ w1, Below w.heap.size w w1 → Calls Try.prog 18 #[.slice a l.length cap] w1 fun e w' => ∃ v, e = .returned (.tuple #[v, .int .i64 (layC l)]) ∧ ownsI w' w1.heap.size v (layL l) ∧ Below w1.heap.size w1 w') := fun w1 hb => layOut_any l a cap w1 (hs.below PI.stays hb) ho (by omega)
    have HOk : Hid (l.all okIt = true → asmC l = layC l ∧ asmL l = layL l) := fun h => asm_yes (by unfold asmOK; simp [h]; omega)
    have HNo : Hid (l.all okIt = false → asmC l = 1 ∧ asmL l = []) := fun h => asm_no (by unfold asmOK; simp [h])
    have HPo : Hid (∀ w' v c p, asmC l = c → asmL l = p → ownsI w' w.heap.size v p → Below w.heap.size w w' → AsmPost l w (.returned (.tuple #[v, .int .i64 c])) w') := fun w' v c p h1 h2 h3 h4 => ⟨v, by rw [h1], by rw [h2]; exact h3, h4⟩
    generalize l.all okIt = Q at *
    generalize asmC l = ac at *
    generalize asmL l = al at *
    generalize layC l = lc at *
    generalize layL l = ll at *
    clear hs ho
    generalize l.length = n at *
    go_enter Try.func7, Try.ntmps7
    go_wp2_with fail
    refine (HE.out).mono ?_
    rintro _ w1 ⟨rfl, hb1⟩
    cases Q with
    | false =>
      obtain ⟨e1, e2⟩ := HNo.out (by first | rfl | trivial)
      have HPv : Hid (AsmPost l w (.returned (.tuple #[.slice none 0 0, .int .i64 1])) w1) := HPo.out w1 _ _ _ e1 e2 (World.ownsRow_nil _ _ _ _) hb1
      clear HPo HL HOk HNo HE
      go_wp2
      exact bodyPost_ret (v := .tuple #[.slice none 0 0, .int .i64 1]) (by simp [results, Try.results7, go_sem]) rfl HPv.out
    | true =>
      obtain ⟨e1, e2⟩ := HOk.out (by first | rfl | trivial)
      go_wp2_with fail
      refine (HL.out _ hb1).mono ?_
      rintro _ w2 ⟨v, rfl, hO, hb2⟩
      have HPv : Hid (AsmPost l w (.returned (.tuple #[v, .int .i64 lc])) w2) := HPo.out w2 v _ _ e1 e2 (World.ownsRow.mono hO hb1.size) (below_step hb2 hb1)
      clear HPo HL HOk HNo HE hO
      go_wp2
      exact bodyPost_ret (v := .tuple #[v, .int .i64 lc]) (by simp [results, Try.results7, go_sem]) rfl HPv.out
end Go.Proofs.Ytioabdfddjmabaa
