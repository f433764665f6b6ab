/-
  CONTRACT of the model's Run.
-/
import Derived.Test.YtjfgihmamoiipaaSpecR
namespace Go.Proofs.Ytjfgihmamoiipaa
open Go.RowKit
set_option linter.unusedVariables false

abbrev tripV (a b c : Int) : Value := .tuple #[.int .u32 a, .int .i64 b, .int .i64 c]

set_option maxHeartbeats 1000000 in
theorem specRun_any (a a' : Option Addr) (cap cap' : Nat) (p : List I) (r : List Int) (w : World) (hs : Src w a p) (hok : ∀ x ∈ p, x.ok) (hn : p.length ≤ 1048576) (hcap : p.length ≤ cap) (hs' : BSrc w a' r) (hrr : isBytes r) (hn' : r.length ≤ 1048576) :
    Calls Try.prog 14 #[.slice a p.length cap, .slice a' r.length cap'] w fun e w' => e = .returned (tripV (runR p r) (runT p r) (runC p r)) ∧ Below w.heap.size w w' := by
  have HV : Hid (Calls Try.prog 52 #[.slice a p.length cap] w fun e w' => e = .returned (.bool (validB p)) ∧ Below w.heap.size w w') := l1valid_any a cap p w hs hok hn
  by_cases hv : validB p = true
  · by_cases hl : r.length = 64
    · have hq := valid_of hok hv
      have e1 : runR p r = (runL r p.length p startS).1 := by simp [runR, hv, hl]
      have e2 : runT p r = (runL r p.length p startS).2 := by simp [runT, hv, hl]
      have e3 : runC p r = 0 := by simp [runC, hv, hl]
      have hw := runL_word r hrr p.length p hok startS startS_ok
      have hst := run_steps r p.length p startS
      have hlen := hq.2.1
      have HR : Hid (∀ wx, Below w.heap.size w wx → Calls Try.prog 53 #[.slice a p.length cap, .slice a' 64 cap'] wx fun e w' => e = .returned (.tuple #[.int .i64 (runL r p.length p startS).1, .int .i64 (runL r p.length p startS).2]) ∧ Below wx.heap.size wx w') := by
        intro wx hB
        rcases hs with h0 | ⟨b, o, rfl, hb, hp⟩
        · have := hq.1; rw [h0] at this; simp at this
        rcases hs' with h0 | ⟨rb, ro, rfl, hrb, hr⟩
        · rw [h0] at hl; simp at hl
        exact l1run_any b o cap rb ro cap' p r wx (Nat.lt_of_lt_of_le hb hB.size) (hp.below hb hB) hq hcap (Nat.lt_of_lt_of_le hrb hB.size) (fun j hj => (hB.cell (p := ⟨rb, _, none⟩) hrb).trans (hr j hj)) hl hrr
      rw [hl, e1, e2, e3]
      rw [hv] at HV
      obtain ⟨w0, w1⟩ := hw
      generalize runL r p.length p startS = res at *
      clear hs hs' hok hq hv e1 e2 e3
      generalize p.length = n at *
      go_enter Try.func14, Try.ntmps14
      go_wp2_with fail
      refine HV.out.mono ?_
      rintro e w1 ⟨rfl, hb1⟩
      go_wp2_with fail
      refine (HR.out _ hb1).mono ?_
      rintro e w2 ⟨rfl, hb2⟩
      go_wp2
      go_ret3
      exact ⟨rfl, hb1.trans (hb2.mono hb1.size)⟩
    · have e1 : runR p r = 0 := by simp [runR, hl]
      have e2 : runT p r = 0 := by simp [runT, hl]
      have e3 : runC p r = 1 := by simp [runC, hl]
      have hlb : ((r.length : Int) != 64) = true := by rw [bne_iff_ne]; omega
      rw [e1, e2, e3]
      rw [hv] at HV
      clear hs hs' hok hv e1 e2 e3 hl
      generalize p.length = n at *
      generalize r.length = n' at *
      go_enter Try.func14, Try.ntmps14
      go_wp2_with fail
      refine HV.out.mono ?_
      rintro e w1 ⟨rfl, hb1⟩
      go_wp2
      go_ret3
      exact ⟨rfl, hb1⟩
  · have e1 : runR p r = 0 := by simp [runR, hv]
    have e2 : runT p r = 0 := by simp [runT, hv]
    have e3 : runC p r = 1 := by simp [runC, hv]
    rw [e1, e2, e3]
    have hv' : validB p = false := by simpa using hv
    rw [hv'] at HV
    clear hs hs' hok hv e1 e2 e3 hv'
    generalize p.length = n at *
    generalize r.length = n' at *
    go_enter Try.func14, Try.ntmps14
    go_wp2_with fail
    refine HV.out.mono ?_
    rintro e w1 ⟨rfl, hb1⟩
    go_wp2
    go_ret3
    exact ⟨rfl, hb1⟩
end Go.Proofs.Ytjfgihmamoiipaa
