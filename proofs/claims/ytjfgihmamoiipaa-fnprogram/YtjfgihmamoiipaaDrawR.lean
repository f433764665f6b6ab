/-
  CONTRACT: a drawn run.
-/
import Derived.Test.YtjfgihmamoiipaaDrawA
namespace Go.Proofs.Ytjfgihmamoiipaa
open Go.RowKit
set_option linter.unusedVariables false

theorem littleL_ok (v : Int) (n : Nat) : isBytes (littleL v n) := by
  induction n generalizing v with
  | zero => intro x hx; simp [littleL] at hx
  | succ n ih =>
    intro x hx
    simp only [littleL, List.mem_cons] at hx
    rcases hx with rfl | hx
    · omega
    · exact ih _ x hx
theorem recL_ok (l : List Int) (j k : Nat) : isBytes (recL l j k) := by
  induction k with
  | zero => intro x hx; simp [recL] at hx
  | succ k ih =>
    intro x hx
    simp only [recL, List.mem_append] at hx
    rcases hx with hx | hx
    · exact ih x hx
    · exact littleL_ok _ _ x hx

def recT (L : List Int) (k : Int) : List Int := if k = 1 then L.take 63 else if k = 2 then L ++ [0] else L
theorem recT_ok {L : List Int} (h : isBytes L) (k : Int) : isBytes (recT L k) := by
  unfold recT
  split
  · exact fun x hx => h x (List.mem_of_mem_take hx)
  · split
    · intro x hx
      simp only [List.mem_append, List.mem_singleton] at hx
      rcases hx with hx | rfl
      · exact h x hx
      · omega
    · exact h
theorem recT_len {L : List Int} (h : L.length ≤ 64) (k : Int) : (recT L k).length ≤ 65 := by
  unfold recT
  split
  · simp; omega
  · split
    · simp; omega
    · omega
/-- the drawn program and the drawn record -/
def runP (l : List Int) : List I := anyP (l.take 600) (wjN (l.take 600) 0 16)
def runRc (l : List Int) : List Int := recT (recL (l.take 600) 0 16) ((l.take 600).getD (anyPJ (l.take 600) (wjN (l.take 600) 0 16)) 0 % 24)
theorem owns_cap {w : World} {B n cap : Nat} {a : Option Addr} {l : List Int} (h : owns w B (.slice a n cap) l) : n ≤ cap := by
  obtain ⟨_, h | ⟨g', cap', cur, hv, _, _, hn, _⟩⟩ := h
  · simp only [Value.slice.injEq] at h; omega
  · simp only [Value.slice.injEq] at hv; omega
theorem runP_ok {l : List Int} (h : isBytes l) : (∀ x ∈ runP l, x.ok) ∧ (runP l).length ≤ 4097 := anyP_ok (isBytes_take h 600) _
theorem runRc_ok (l : List Int) : isBytes (runRc l) ∧ (runRc l).length ≤ 65 := ⟨recT_ok (recL_ok _ _ _) _, recT_len (by rw [recL_len]; omega) _⟩

set_option maxRecDepth 100000 in
set_option maxHeartbeats 1000000 in
theorem drawRun_any (a : Option Addr) (cap : Nat) (l : List Int) (w : World) (hs : BSrc w a l) (hl : isBytes l) (hcap : l.length ≤ cap) (hn : l.length ≤ 1048576) :
    Calls Try.prog 12 #[.slice a l.length cap] w fun e w' => ∃ vp ar cr, e = .returned (.tuple #[vp, .slice ar (runRc l).length cr]) ∧ ownsI w' w.heap.size vp (runP l) ∧ BSrc w' ar (runRc l) ∧ (runRc l).length ≤ cr ∧ Below w.heap.size w w' := by
  obtain ⟨i0, hi, hz0, hz1, hz2⟩ := info_parts info5
  have H1 : Hid (Calls Try.prog 47 #[.slice a l.length cap] w fun e w' => ∃ R cap', e = .returned (.pointer (some ⟨R, 0, none⟩)) ∧ w.heap.size ≤ R ∧ Rd w' R a cap' (l.take 600) 0 ∧ Below w.heap.size w w') := open_any a cap l w hs hl hcap hn
  have H2 : Hid (∀ R cap' W, Rd W R a cap' (l.take 600) 0 → Calls Try.prog 48 #[.pointer (some ⟨R, 0, none⟩)] W fun e w' => ∃ v', e = .returned v' ∧ owns w' W.heap.size v' (recL (l.take 600) 0 16) ∧ Rd w' R a cap' (l.take 600) (wjN (l.take 600) 0 16) ∧ W.grownBy w' (some R)) := fun R cap' W h => drawRec_any R cap' a _ 0 W h
  have H3 : Hid (∀ R cap' W, Rd W R a cap' (l.take 600) (wjN (l.take 600) 0 16) → Calls Try.prog 49 #[.pointer (some ⟨R, 0, none⟩)] W fun e w' => ∃ v', e = .returned v' ∧ ownsI w' W.heap.size v' (runP l) ∧ Rd w' R a cap' (l.take 600) (anyPJ (l.take 600) (wjN (l.take 600) 0 16)) ∧ W.grownBy w' (some R)) := fun R cap' W h => drawAny_any R cap' a _ _ W h
  have H4 : Hid (∀ R cap' W, Rd W R a cap' (l.take 600) (anyPJ (l.take 600) (wjN (l.take 600) 0 16)) → Calls Try.prog 50 #[.pointer (some ⟨R, 0, none⟩)] W fun e w' => e = .returned (.int .i64 ((l.take 600).getD (anyPJ (l.take 600) (wjN (l.take 600) 0 16)) 0)) ∧ Rd w' R a cap' (l.take 600) (anyPJ (l.take 600) (wjN (l.take 600) 0 16) + 1) ∧ W.grownBy w' (some R)) := fun R cap' W h => next_any R cap' a _ _ W h
  have hx := isBytes_getD (isBytes_take hl 600) (anyPJ (l.take 600) (wjN (l.take 600) 0 16))
  have HRc : Hid (runRc l = recT (recL (l.take 600) 0 16) ((l.take 600).getD (anyPJ (l.take 600) (wjN (l.take 600) 0 16)) 0 % 24)) := rfl
  have HLn : Hid ((recL (l.take 600) 0 16).length = 64) := recL_len _ _ _
  have hbl : (recL (l.take 600) 0 16).length ≤ 64 := by rw [recL_len]; omega
  clear hs hl hcap
  generalize runP l = PP at *
  generalize runRc l = RR at *
  generalize recL (l.take 600) 0 16 = L0 at *
  generalize (l.take 600).getD (anyPJ (l.take 600) (wjN (l.take 600) 0 16)) 0 = x at *
  generalize anyPJ (l.take 600) (wjN (l.take 600) 0 16) = J2 at *
  generalize wjN (l.take 600) 0 16 = J1 at *
  generalize l.take 600 = L at *
  generalize l.length = n at *
  go_enter Try.func12, Try.ntmps12
  go_wp2_with fail
  refine H1.out.mono ?_
  rintro _ w1 ⟨R, cap', rfl, hRw, hR1, B1⟩
  have hR1l := hR1.lt
  go_wp2_with fail
  refine (H2.out R cap' w1 hR1).mono ?_
  rintro _ w2 ⟨v2, rfl, o2, hR2, g2⟩
  have B2 : Below w.heap.size w w2 := B1.grown g2 B1.size (fun q hq => by have : R = q := by simpa using hq
                                                                          omega)
  go_wp2_with fail
  refine (H3.out R cap' w2 hR2).mono ?_
  rintro _ w3 ⟨v3, rfl, o3, hR3, g3⟩
  have o2' := own_rd o2 g3 (by omega)
  have B3 : Below w.heap.size w w3 := B2.grown g3 B2.size (fun q hq => by have : R = q := by simpa using hq
                                                                          omega)
  go_wp2_with fail
  refine (H4.out R cap' w3 hR3).mono ?_
  rintro _ w4 ⟨rfl, hR4, g4⟩
  have o2'' := own_rd o2' g4 (by omega)
  have hR2l := hR2.lt
  have o3' := ownI_rd o3 g4 hR2l
  have B4 : Below w.heap.size w w4 := B3.grown g4 B3.size (fun q hq => by have : R = q := by simpa using hq
                                                                          omega)
  have o3'' := ownsI_mono o3' B2.size
  have hs14 : w1.heap.size ≤ w4.heap.size := Nat.le_trans g2.size (Nat.le_trans g3.size g4.size)
  have hq2 : ∀ q, v2.ownBlock = some q → q < w2.heap.size := fun q hq => (o2.lt q hq).2
  have hq3 : ∀ q, v3.ownBlock = some q → w2.heap.size ≤ q := fun q hq => (o3.lt q hq).1
  have hs1 := B1.size
  have hs4 := B4.size
  clear H1 H2 H3 H4 o2 o2' o3 o3' hR1 hR2 hR3 hR4 g2 g3 g4 B2 B3
  by_cases h1 : x % 24 = 1
  · have hRR : RR = L0.take 63 := by rw [HRc.out]; unfold recT; rw [if_pos h1]
    have e1 : (x % 24 == 1) = true := by simp [h1]
    have e2 : (x % 24 == 2) = false := by simp [h1]
    obtain ⟨g, gc, hv, hgb, hgc⟩ := owns_at o2'' (by rw [HLn.out]; omega)
    subst hv
    have hgcap : L0.length ≤ gc := owns_cap o2''
    have hsrc : BSrc w4 (some ⟨g, 0, none⟩) RR := by
      obtain ⟨a2, c2, h2, h3⟩ := owns_src o2''
      simp only [Value.slice.injEq] at h2
      rw [← h2.1] at h3
      rcases h3 with h3 | ⟨b, o, h3, h4, h5⟩
      · have := HLn.out; rw [h3] at this; simp at this
      · refine .inr ⟨b, o, h3, h4, fun i hi => ?_⟩
        rw [hRR] at hi ⊢
        simp only [List.length_take] at hi
        rw [h5 i (by omega)]
        simp [List.getD_eq_getElem?_getD, show i < 63 by omega]
    have hlen : RR.length = 63 := by rw [hRR, List.length_take, HLn.out]; rfl
    have H64 := HLn.out
    rw [H64] at hgcap ⊢
    clear o2'' hgc H64
    go_wp2
    go_ret2
    exact ⟨v3, some ⟨g, 0, none⟩, gc, by rw [hlen]; rfl, o3'', hsrc, by omega, B4⟩
  · by_cases h2 : x % 24 = 2
    · have hRR : RR = L0 ++ [0] := by rw [HRc.out]; unfold recT; rw [if_neg h1, if_pos h2]
      have e1 : (x % 24 == 1) = false := by simp [h1]
      have e2 : (x % 24 == 2) = true := by simp [h2]
      go_wp2_with (at_builtin; refine wpList_append_own _ rfl (.tmp 23) (.tmp 24) 22 rfl w1.heap.size 5 i0 (.int .u8 0) 1 1 Try.underlying22 hi hz0 hz1 hz2 rfl (by decide) _ _ _ rfl (o2''.alloc _) ⟨w4.heap.size, 0, none⟩ 1 1 [.int .u8 0] rfl rfl (cell_one_new _ _ _) (bytes_oneCell [0]) ?c3 ?c4 ?c5 ?_)
      case c3 => unfold maxLen; omega
      case c4 => omega
      case c5 => first | omega | (simp; omega)
      intro v5 w5 ow gr _
      have o5 : owns w5 w1.heap.size v5 (L0 ++ [0]) := owns_app (m := [0]) rfl ow
      have o6 : ownsI w5 w.heap.size v3 PP := by
        refine ownsI_kept (ownsI_below o3'' ((Below.refl _ _).alloc (Nat.le_refl _) _)) gr (fun q hq e => ?_)
        have := hq2 q e.symm
        have := hq3 q hq
        omega
      have B5 : Below w.heap.size w w5 := (B4.alloc hs4 _).grown gr (by simp; omega) (fun q hq => by have := (o2''.lt q hq).1; omega)
      obtain ⟨ar, cr, hv, hsrc⟩ := owns_src o5
      subst hv
      have hcr := owns_cap o5
      rw [← hRR] at hsrc
      have hl5 : (L0 ++ [0]).length = RR.length := by rw [hRR]
      clear ow gr o2'' o3'' B4 o5
      go_wp2
      go_ret2
      exact ⟨v3, ar, cr, by rw [← hl5]; rfl, o6, hsrc, by omega, B5⟩
    · have hRR : RR = L0 := by rw [HRc.out]; unfold recT; rw [if_neg h1, if_neg h2]
      have e1 : (x % 24 == 1) = false := by simp [h1]
      have e2 : (x % 24 == 2) = false := by simp [h2]
      obtain ⟨ar, cr, hv, hsrc⟩ := owns_src o2''
      subst hv
      have hcr := owns_cap o2''
      have hlr : RR.length = L0.length := by rw [hRR]
      rw [← hRR] at hsrc
      clear o2''
      go_wp2
      go_ret2
      exact ⟨v3, ar, cr, by rw [hlr]; rfl, o3'', hsrc, by omega, B4⟩
end Go.Proofs.Ytjfgihmamoiipaa
