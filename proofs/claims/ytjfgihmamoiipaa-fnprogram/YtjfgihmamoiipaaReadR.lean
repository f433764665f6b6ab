/-
  CONTRACT: a drawn record.
-/
import Derived.Test.YtjfgihmamoiipaaReadW
namespace Go.Proofs.Ytjfgihmamoiipaa
open Go.RowKit
set_option linter.unusedVariables false

theorem wordV_bd (l : List Int) (hl : isBytes l) (j : Nat) : 0 ≤ wordV l j ∧ wordV l j ≤ 4294967295 := by
  have hx := isBytes_getD hl j
  have hp : ∀ k : Nat, k < 32 → 0 ≤ (2 : Int) ^ k ∧ (2 : Int) ^ k ≤ 4294967295 := by decide
  unfold wordV
  split
  · omega
  split
  · exact hp _ (by omega)
  split
  · omega
  split
  · omega
  · omega

/-- where the reader stands behind k words -/
def wjN (l : List Int) (j : Nat) : Nat → Nat
  | 0 => j
  | k + 1 => wordJ l (wjN l j k)
/-- the bytes of k words -/
def recL (l : List Int) (j : Nat) : Nat → List Int
  | 0 => []
  | k + 1 => recL l j k ++ littleL (wordV l (wjN l j k)) 4
theorem recL_len (l : List Int) (j k : Nat) : (recL l j k).length = 4 * k := by
  induction k with
  | zero => rfl
  | succ k ih => simp [recL, ih, littleL_len]; omega
theorem littleL_bys (v : Int) (n : Nat) : isBytes (littleL v n) := by
  induction n generalizing v with
  | zero => intro x hx; simp [littleL] at hx
  | succ n ih =>
    intro x hx
    simp only [littleL, List.mem_cons] at hx
    rcases hx with rfl | hx
    · omega
    · exact ih _ x hx
theorem isBytes_app {l m : List Int} (h : isBytes l) (k : isBytes m) : isBytes (l ++ m) := fun x hx => by
  rcases List.mem_append.1 hx with h1 | h1
  · exact h x h1
  · exact k x h1
theorem recL_bys (l : List Int) (j k : Nat) : isBytes (recL l j k) := by
  induction k with
  | zero => intro x hx; simp [recL] at hx
  | succ k ih => exact isBytes_app ih (littleL_bys _ _)

theorem own_ge {w : World} {B : Nat} {v : Value} {l : List Int} (h : owns w B v l) : ∀ k, v.ownBlock = some k → B ≤ k := fun k hk => (h.lt k hk).1

theorem own_rd {w w1 : World} {B R : Nat} {v : Value} {l : List Int} (h : owns w B v l) (hg : w.grownBy w1 (some R)) (hR : R < B) : owns w1 B v l :=
  owns_kept h hg (fun q hq e => by
    have h1 := own_ge h q hq
    have h2 : q = R := by simpa using e
    omega)

set_option maxRecDepth 100000 in
set_option maxHeartbeats 2000000 in
theorem drawRec_any (R cap : Nat) (a : Option Addr) (l : List Int) (j : Nat) (w : World) (hR : Rd w R a cap l j) :
    Calls Try.prog 48 #[.pointer (some ⟨R, 0, none⟩)] w fun e w' => ∃ v', e = .returned v' ∧ owns w' w.heap.size v' (recL l j 16) ∧ Rd w' R a cap l (wjN l j 16) ∧ w.grownBy w' (some R) := by
  obtain ⟨i0, hi, hz0, hz1, hz2⟩ := info_parts info5
  have hRw := hR.lt
  have HW : Hid (∀ k W, Rd W R a cap l (wjN l j k) → Calls Try.prog 79 #[.pointer (some ⟨R, 0, none⟩)] W fun e w' => e = .returned (.int .u32 (wordV l (wjN l j k))) ∧ Rd w' R a cap l (wjN l j (k + 1)) ∧ W.grownBy w' (some R)) := fun k W h => drawWord_any R cap a l (wjN l j k) W h
  have HB : Hid (∀ k, 0 ≤ wordV l (wjN l j k) ∧ wordV l (wjN l j k) ≤ 4294967295) := fun k => wordV_bd l hR.bys _
  have HE : Hid (∀ k, recL l j (k + 1) = recL l j k ++ littleL (wordV l (wjN l j k)) 4) := fun k => rfl
  have HL : Hid (∀ k, (recL l j k).length = 4 * k) := fun k => recL_len l j k
  have H0 : Hid (recL l j 0 = []) := rfl
  have hR0 : Rd w R a cap l (wjN l j 0) := hR
  generalize recL l j = E at *
  generalize wjN l j = J at *
  clear hR
  go_enter Try.func48, Try.ntmps48
  go_wp2_with fail
  go_loopw [3, 4] (fun s i wr => ∃ (k : Nat), k ≤ 16 ∧ i = .int .i64 k ∧ owns wr w.heap.size s (E k) ∧ Rd wr R a cap l (J k) ∧ w.grownBy wr (some R)) (fun _ i _ => 16 - (intOf i).toNat)
  case atStart => exact ⟨0, by omega, rfl, by rw [H0.out]; exact World.ownsRow_nil _ _ _ _, hR0, World.grownBy.refl _ _⟩
  case round =>
    obtain ⟨k, hk, rfl, hown, hRk, hG⟩ := hrel
    clear hR0 H0
    by_cases hlt : k < 16
    · have HK := HW.out k
      have hbd := HB.out k
      have HEk : Hid (E (k + 1) = E k ++ littleL (wordV l (J k)) 4) := HE.out k
      have hlen := HL.out k
      clear HW HB HE HL
      generalize wordV l (J k) = V at *
      generalize E k = m at *
      have hwr := hG.size
      go_wp2_with fail
      refine (HK _ hRk).mono ?_
      rintro _ w1 ⟨rfl, hR1, hg1⟩
      have hown1 := own_rd hown hg1 hRw
      have hG1 := rb_trans hG hg1
      clear HK hown hRk hG hg1
      go_wp2_with fail
      refine (l1little_any V 4 _ hbd.1 (by omega) (by omega)).mono ?_
      rintro _ w2 ⟨vl, rfl, hol, hb2⟩
      have hown2 := owns_below hown1 hb2
      have hR2 := hR1.below hb2
      have hG2 := rb_trans hG1 (rb_below (r := some R) hb2)
      obtain ⟨g, gc, rfl, hg, hgc⟩ := owns_at hol (by rw [littleL_len]; omega)
      rw [littleL_len]
      have hgc' : Hid _ := hgc
      clear hgc hol hb2 hown1 hR1 hG1
      have hs2 := hG2.size
      go_wp2_with (at_builtin; refine wpList_append_own _ rfl (.tmp 9) (.tmp 13) 22 rfl w.heap.size 5 i0 (.int .u8 0) 1 1 Try.underlying22 hi hz0 hz1 hz2 rfl (by decide) _ _ _ rfl hown2 ⟨g, 0, none⟩ 4 gc ((littleL V 4).map (Value.int .u8)) rfl ?c0 hgc'.out (bytes_oneCell _) ?c3 ?c4 ?c5 ?_)
      case c0 => simp [littleL_len]
      case c3 => unfold maxLen; omega
      case c4 => omega
      case c5 => omega
      intro v3 w3 hown3 hgrow3 _
      have hG3 := rb_own hG2 hgrow3 (own_ge hown2)
      have hR3 := hR2.grown hgrow3 hRw (own_ge hown2)
      have ho3 : owns w3 w.heap.size v3 (E (k + 1)) := by rw [HEk.out]; exact owns_app (by rw [littleL_len]; omega) hown3
      clear hown3 hgrow3 hown2 hgc' HEk hR2 hG2
      go_wp2
      go_roundw
      case rel => exact ⟨k + 1, by omega, by go_num, ho3, hR3, hG3⟩
      case measure => simp [intOf]; omega
    · go_wp2
      go_ret
      have hkn : k = 16 := by omega
      subst hkn
      exact ⟨_, rfl, hown, hRk, hG⟩
end Go.Proofs.Ytjfgihmamoiipaa
