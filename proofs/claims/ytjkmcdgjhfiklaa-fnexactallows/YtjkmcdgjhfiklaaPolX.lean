/-
  CONTRACTS of the law's copies of policies, fourth part: entries and the policy.
-/
import Derived.Test.YtjkmcdgjhfiklaaPolV
namespace Go.Proofs.Ytjkmcdgjhfiklaa
open Go.RowKit
set_option linter.unusedVariables false

set_option maxRecDepth 100000 in
set_option maxHeartbeats 2000000 in
theorem toEntry_any (e : E) (a : Option Addr) (cap : Nat) (w : World) (hs : LSrc 1 PR w a e.rules) (hn : e.rules.length ≤ 1048576) (hm : ∀ r ∈ e.rules, r.length ≤ 1048576) :
    Calls Try.prog 75 #[.agg #[.int .u32 e.arch, .int .u32 e.nr, .slice a e.rules.length cap]] w (NewP 1 (fun L => PRG L) e.rules w (fun v => .agg #[.int .u32 e.arch, .int .u32 e.nr, v])) := by
  obtain ⟨arch, nr, rules⟩ := e
  simp only at *
  have HC : Hid (∀ w1, Below w.heap.size w w1 → Calls Try.prog 90 #[.slice a rules.length cap] w1 (NewP 1 (fun L => PRG L) rules w1 (fun v => v))) := fun w1 hb => toRuleS_any rules a cap w1 (hs.below PR.stays hb) hn hm
  have HM : Hid (∀ a2 cap2 w1, LSrcG w.heap.size 1 (PRG w.heap.size) w1 a2 rules → Below w.heap.size w w1 → NewP 1 (fun L => PRG L) rules w (fun v => .agg #[.int .u32 arch, .int .u32 nr, v]) (.returned (.agg #[.int .u32 arch, .int .u32 nr, .slice a2 rules.length cap2])) w1) := fun a2 cap2 w1 h hb => NewP.mk (cap := cap2) rfl h hb
  have HS : Hid (∀ L D i v w1 a2, D < L → LSrcG L 1 (PRG L) w1 a2 rules → LSrcG L 1 (PRG L) (w1.setCell ⟨D, i, none⟩ v) a2 rules) := fun L D i v w1 a2 hD h => PRG.rules_far hD h
  have HL : Hid (∀ w1 a2, LSrcG (w.heap.size + 3) 1 (PRG (w.heap.size + 3)) w1 a2 rules → LSrcG w.heap.size 1 (PRG w.heap.size) w1 a2 rules) := fun w1 a2 h => h.mono (by omega) (fun _ _ _ h => h.mono (by omega))
  clear hs hm
  unfold NewP at HC
  generalize NewP 1 (fun L => PRG L) rules w (fun v => .agg #[.int .u32 arch, .int .u32 nr, v]) = Post at *
  generalize rules.length = n at *
  go_enter Try.func75, Try.ntmps75
  go_wp2_with fail
  have B0 : Below w.heap.size w (((w.alloc (.cells #[.int .u32 arch, .int .u32 nr, .slice a n cap] 119)).alloc (.cells #[.int .u32 0, .int .u32 0, .slice none 0 0] 81)).alloc (.cells #[.int .u32 arch, .int .u32 nr, .slice none 0 0] 81)) := (((Below.refl _ _).alloc (Nat.le_refl _) _).alloc (by simp) _).alloc (by simp; omega) _
  have hs1 : (w.alloc (.cells #[.int .u32 arch, .int .u32 nr, .slice a n cap] 119)).heap.size = w.heap.size + 1 := by simp
  have hs2 : ((w.alloc (.cells #[.int .u32 arch, .int .u32 nr, .slice a n cap] 119)).alloc (.cells #[.int .u32 0, .int .u32 0, .slice none 0 0] 81)).heap.size = w.heap.size + 1 + 1 := by simp
  have O := (BoxK.new (w.alloc (.cells #[.int .u32 arch, .int .u32 nr, .slice a n cap] 119)) 81 (.int .u32 0) (.int .u32 0) (.slice none 0 0)).alloc (.cells #[.int .u32 arch, .int .u32 nr, .slice none 0 0] 81)
  have P := BoxK.new ((w.alloc (.cells #[.int .u32 arch, .int .u32 nr, .slice a n cap] 119)).alloc (.cells #[.int .u32 0, .int .u32 0, .slice none 0 0] 81)) 81 (.int .u32 arch) (.int .u32 nr) (.slice none 0 0)
  rw [hs1] at O
  rw [hs2] at P
  have hsz : (((w.alloc (.cells #[.int .u32 arch, .int .u32 nr, .slice a n cap] 119)).alloc (.cells #[.int .u32 0, .int .u32 0, .slice none 0 0] 81)).alloc (.cells #[.int .u32 arch, .int .u32 nr, .slice none 0 0] 81)).heap.size = w.heap.size + 3 := by simp
  generalize (((w.alloc (.cells #[.int .u32 arch, .int .u32 nr, .slice a n cap] 119)).alloc (.cells #[.int .u32 0, .int .u32 0, .slice none 0 0] 81)).alloc (.cells #[.int .u32 arch, .int .u32 nr, .slice none 0 0] 81)) = W at *
  refine (HC.out _ B0).mono ?_
  rintro _ w1 ⟨a2, cap2, rfl, hL, hb1⟩
  rw [hsz] at hL
  have B1 := below_step hb1 B0
  obtain ⟨ol, o0, o1, o2, of0, of1, of2⟩ := O.keep hb1
  obtain ⟨pl, p0, p1, p2, pf0, pf1, pf2⟩ := P.keep hb1
  have L1 := HS.out _ (w.heap.size + 1 + 1) 2 (.slice a2 n cap2) w1 a2 (by omega) hL
  have L2 := HS.out _ (w.heap.size + 1) 0 (.int .u32 arch) _ a2 (by omega) L1
  have L3 := HS.out _ (w.heap.size + 1) 1 (.int .u32 nr) _ a2 (by omega) L2
  have L4 := HS.out _ (w.heap.size + 1) 2 (.slice a2 n cap2) _ a2 (by omega) L3
  have B2 := below_set3 (B1.setCell (p := ⟨w.heap.size + 1 + 1, 2, none⟩) (show w.heap.size ≤ w.heap.size + 1 + 1 by omega) (.slice a2 n cap2)) (show w.heap.size ≤ w.heap.size + 1 by omega) (.int .u32 arch) (.int .u32 nr) (.slice a2 n cap2)
  have HE := HM.out a2 cap2 _ (HL.out _ _ L4) B2
  clear hL hb1 O P B0 B1 HC HM HS HL L1 L2 L3 L4 B2 hsz hs1 hs2
  go_wp2
  exact bodyPost_ret (v := .agg #[.int .u32 arch, .int .u32 nr, .slice a2 n cap2]) (by simp [results, Try.results75, go_sem, o0, o1, o2]) rfl HE
end Go.Proofs.Ytjkmcdgjhfiklaa
