/-
  CONTRACT of the model's run: by induction on what is left of the program.
-/
import Derived.Test.YtjfgihmamoiipaaSpecG3
import Derived.Test.YtjfgihmamoiipaaValid
namespace Go.Proofs.Ytjfgihmamoiipaa
open Go.RowKit
set_option linter.unusedVariables false

theorem run_step {r : List Int} {N : Nat} {i : I} {t : List I} {s : S} (h : endsR i s = none) : runL r (N + 1) (i :: t) s = ((runL r N (t.drop (skipN i s)) (nextS r i s)).1, (runL r N (t.drop (skipN i s)) (nextS r i s)).2 + 1) := by
  simp only [runL, h]
theorem run_end {r : List Int} {N : Nat} {i : I} {t : List I} {s : S} {v : Int} (h : endsR i s = some v) : runL r (N + 1) (i :: t) s = (v, 1) := by
  simp only [runL, h]
theorem run_steps (r : List Int) (N : Nat) (q : List I) (s : S) : 0 ≤ (runL r N q s).2 ∧ (runL r N q s).2 ≤ N := by
  induction N generalizing q s with
  | zero => simp [runL]
  | succ N ih =>
    match q with
    | [] => simp [runL]; omega
    | i :: t =>
      cases h : endsR i s with
      | some v => rw [run_end h]; simp; omega
      | none => rw [run_step h]; have := ih (t.drop (skipN i s)) (nextS r i s); simp only; omega

theorem InsAt.tail {w : World} {b o : Nat} {i : I} {t : List I} (h : InsAt w b o (i :: t)) (d : Nat) : InsAt w b (o + (1 + d) * 4) (t.drop d) := by
  intro j hj
  rw [List.length_drop] at hj
  have := h (j + d + 1) (by simp; omega)
  have e : (i :: t).getD (j + d + 1) I.zero = (t.drop d).getD j I.zero := by
    rw [List.getD_cons_succ, List.getD_eq_getElem?_getD, List.getD_eq_getElem?_getD, List.getElem?_drop, Nat.add_comm]
  rw [e, show o + (j + d + 1) * 4 = o + (1 + d) * 4 + j * 4 by omega] at this
  exact this

theorem retP {a b : Int} {y : Int × Int} (h : y = (a, b)) : Ending.returned (.tuple #[.int .i64 a, .int .i64 b]) = .returned (.tuple #[.int .i64 y.1, .int .i64 y.2]) := by rw [h]

theorem l1go_any (r : List Int) (hrl : r.length = 64) (hrr : isBytes r) : ∀ (N : Nat), N ≤ 4096 → ∀ (q : List I), q.length ≤ N → ValidQ q → ∀ (s : S), s.ok → ∀ (w : World) (b o cap rb ro rc mb mo mc : Nat), q.length ≤ cap → b < w.heap.size → InsAt w b o q →
    rb < w.heap.size → BytesAt w rb ro r → mb < w.heap.size → MemAt w mb mo s.m →
    Calls Try.prog 85 #[.slice (some ⟨b, o, none⟩) q.length cap, .slice (some ⟨rb, ro, none⟩) 64 rc, .agg #[.int .i64 s.a, .int .i64 s.x, .slice (some ⟨mb, mo, none⟩) 16 mc]] w
      fun e w' => e = .returned (.tuple #[.int .i64 (runL r N q s).1, .int .i64 (runL r N q s).2]) ∧ Below w.heap.size w w' := by
  intro N
  induction N with
  | zero => intro _ q hq hv; have := hv.1; omega
  | succ N ih =>
    intro hN q hq hv s hs w b o cap rb ro rc mb mo mc hcap hb hp hrb hr hmb hm
    match q, hv with
    | [], hv => have := hv.1; simp at this
    | i :: t, hv =>
      have hh := hv.head
      have hi : i.ok := hv.2.2.2 i (by simp)
      have hR : Rest w b o (i :: t).length rb ro rc (fun d s' => runL r N (t.drop d) s') := by
        intro d s' wx cp mb' mo' mc' hd hcp hs' hB hmb' hm'
        simp only [List.length_cons] at hd hcp
        have hd' : d < t.length := by omega
        have e : (t.drop d).length = (i :: t).length - (1 + d) := by simp; omega
        have := ih (by omega) (t.drop d) (by rw [List.length_drop]; simp at hq; omega) (hv.tail hd') s' hs' wx b (o + (1 + d) * 4) cp rb ro rc mb' mo' mc' (by rw [e]; simp; omega) (Nat.lt_of_lt_of_le hb hB.size)
          ((hp.below hb hB).tail d) (Nat.lt_of_lt_of_le hrb hB.size) (fun j hj => (hB.cell (p := ⟨rb, _, none⟩) hrb).trans (hr j hj)) hmb' hm'
        rw [e] at this
        exact this
      have hRb : ∀ d s', 0 ≤ ((fun d s' => runL r N (t.drop d) s') d s').2 ∧ ((fun d s' => runL r N (t.drop d) s') d s').2 ≤ 4096 := fun d s' => by
        have := run_steps r N (t.drop d) s'
        simp only; omega
      obtain ⟨c0, c1, c2, c3⟩ := hp 0 (by simp)
      simp only [List.getD_cons_zero, Nat.zero_mul, Nat.add_zero] at c0 c1 c2 c3
      have hn2 : (i :: t).length ≤ 4096 := hv.2.1
      have hlen : (i :: t).length = t.length + 1 := rfl
      have two : ¬ (i.c = 6 ∨ i.c = 22) → 2 ≤ (i :: t).length := fun h => by
        by_cases e : t.length + 1 = 1
        · exact absurd (hh.last e) h
        · rw [hlen]; omega
      obtain ⟨c, jt, jf, k⟩ := i
      obtain ⟨a, x, m⟩ := s
      simp only at c0 c1 c2 c3 two
      rcases known_cases hh.known with e | e | e | e | e | e | e | e | e | e | e | e | e | e
      · simp only at e; subst e
        refine (go_endk b o _ cap rb ro rc mb mo mc k ⟨a, x, m⟩ w (by simp) hn2 (by omega) (by omega) hi.2.2.2.2.2.2.1 hi.2.2.2.2.2.2.2 hb c0 c3).mono ?_
        rintro e w' ⟨rfl, hB⟩
        exact ⟨retP (run_end (by simp [endsR])), hB⟩
      · simp only at e; subst e
        refine (go_enda b o _ cap rb ro rc mb mo mc k ⟨a, x, m⟩ w (by simp) hn2 (by omega) (by omega) hi.2.2.2.2.2.2.1 hi.2.2.2.2.2.2.2 hb c0 c3).mono ?_
        rintro e w' ⟨rfl, hB⟩
        exact ⟨retP (run_end (by simp [endsR])), hB⟩
      · -- arithmetic
        obtain ⟨g1, g2, g3, g4, g5, g6, g7, g8⟩ := ari_facts e
        simp only at e g1 g2 g3 g4 g5 g6 g7 g8
        have hn := two (by omega)
        rcases g2 with h8 | h8
        · by_cases h3 : c / 16 = 3
          · have hk0 : k ≠ 0 := by
              have h5 := g4.1 h3
              rcases h5 with h5 | h5
              · exact hh.divk h5
              · subst h5; omega
            refine (go_divk b o _ cap rb ro rc mb mo mc c jt jf k r ⟨a, x, m⟩ w _ hR hRb hn hn2 hcap hs hi hb hrb hr hrl hrr hmb hm c0 c1 c2 c3 g1 h8 (by omega) (by simp [h3]) (by simp [hk0])).mono ?_
            rintro e' w' ⟨rfl, hB⟩
            refine ⟨retP ?_, hB⟩
            rw [run_step (by simp [endsR, g5, g6, opV, h8, hk0])]
            simp [skipN, g8, g7, nextS, e, opV, h8]
          · refine (go_aluk b o _ cap rb ro rc mb mo mc c jt jf k r ⟨a, x, m⟩ w _ hR hRb hn hn2 hcap hs hi hb hrb hr hrl hrr hmb hm c0 c1 c2 c3 g1 h8 (by omega) (by simp [h3])).mono ?_
            rintro e' w' ⟨rfl, hB⟩
            refine ⟨retP ?_, hB⟩
            have h5 : ¬ (c = 52 ∨ c = 60) := fun h => h3 (g4.2 h)
            rw [run_step (by simp [endsR, g5, g6, h5])]
            simp [skipN, g8, g7, nextS, e, opV, h8]
        · by_cases h3 : c / 16 = 3
          · have h5 := g4.1 h3
            by_cases hx0 : x = 0
            · refine (go_denyx b o _ cap rb ro rc mb mo mc c k ⟨a, x, m⟩ w (by simp) hn2 hi.1 hi.2.1 hi.2.2.2.2.2.2.1 hi.2.2.2.2.2.2.2 hb c0 c3 g1 h8 (by simp [h3]) (by simp [hx0])).mono ?_
              rintro e' w' ⟨rfl, hB⟩
              exact ⟨retP (run_end (by simp [endsR, g5, g6, h5, opV, h8, hx0])), hB⟩
            · refine (go_divx b o _ cap rb ro rc mb mo mc c jt jf k r ⟨a, x, m⟩ w _ hR hRb hn hn2 hcap hs hi hb hrb hr hrl hrr hmb hm c0 c1 c2 c3 g1 h8 (by simp only; omega) (by simp [h3]) (by simp [hx0])).mono ?_
              rintro e' w' ⟨rfl, hB⟩
              refine ⟨retP ?_, hB⟩
              rw [run_step (by simp [endsR, g5, g6, opV, h8, hx0])]
              simp [skipN, g8, g7, nextS, e, opV, h8]
          · refine (go_alux b o _ cap rb ro rc mb mo mc c jt jf k r ⟨a, x, m⟩ w _ hR hRb hn hn2 hcap hs hi hb hrb hr hrl hrr hmb hm c0 c1 c2 c3 g1 h8 (by simp only; omega) (by simp [h3])).mono ?_
            rintro e' w' ⟨rfl, hB⟩
            refine ⟨retP ?_, hB⟩
            have h5 : ¬ (c = 52 ∨ c = 60) := fun h => h3 (g4.2 h)
            rw [run_step (by simp [endsR, g5, g6, h5])]
            simp [skipN, g8, g7, nextS, e, opV, h8]
      · simp only at e; subst e
        refine (go_jump b o _ cap rb ro rc mb mo mc jt jf k r ⟨a, x, m⟩ w _ hR hRb (two (by omega)) hn2 hcap hs hi hb hrb hr hrl hrr hmb hm c0 c1 c2 c3 (hh.jump rfl)).mono ?_
        rintro e w' ⟨rfl, hB⟩
        refine ⟨retP ?_, hB⟩
        rw [run_step (by simp [endsR])]
        simp [skipN, nextS, ariB]
      · -- tests
        obtain ⟨g1, g2, g3, g5, g6, g7, g8, g9, q0, q1, q2, q3, q4, q5, q6, q7, q8⟩ := tst_facts e
        simp only at e g1 g2 g3 g5 g6 g7 g8 g9 q0 q1 q2 q3 q4 q5 q6 q7 q8
        have hj := hh.test e
        simp only at hj
        have hn := two (by omega)
        have hnx : ∀ v, nextS r ⟨c, jt, jf, k⟩ ⟨a, x, v⟩ = ⟨a, x, v⟩ := fun v => by simp [nextS, g9, q0, q1, q2, q3, q4, q5, q6, q7, q8]
        have hen : endsR ⟨c, jt, jf, k⟩ ⟨a, x, m⟩ = none := by simp [endsR, g5, g6, g7, g8]
        rcases g2 with h8 | h8
        · cases hv2 : holdL (c / 16) a k with
          | true =>
            refine (go_testk b o _ cap rb ro rc mb mo mc c jt jf k r ⟨a, x, m⟩ w _ hR hRb hn hn2 hcap hs hi hb hrb hr hrl hrr hmb hm c0 c1 c2 c3 g1 h8 (by simp [g3]) hv2 hj.1).mono ?_
            rintro e' w' ⟨rfl, hB⟩
            refine ⟨retP ?_, hB⟩
            rw [run_step hen, hnx]
            simp [skipN, g3, e, opV, h8, hv2]
          | false =>
            refine (go_testkn b o _ cap rb ro rc mb mo mc c jt jf k r ⟨a, x, m⟩ w _ hR hRb hn hn2 hcap hs hi hb hrb hr hrl hrr hmb hm c0 c1 c2 c3 g1 h8 (by simp [g3]) hv2 hj.2).mono ?_
            rintro e' w' ⟨rfl, hB⟩
            refine ⟨retP ?_, hB⟩
            rw [run_step hen, hnx]
            simp [skipN, g3, e, opV, h8, hv2]
        · cases hv2 : holdL (c / 16) a x with
          | true =>
            refine (go_testx b o _ cap rb ro rc mb mo mc c jt jf k r ⟨a, x, m⟩ w _ hR hRb hn hn2 hcap hs hi hb hrb hr hrl hrr hmb hm c0 c1 c2 c3 g1 h8 (by simp [g3]) hv2 hj.1).mono ?_
            rintro e' w' ⟨rfl, hB⟩
            refine ⟨retP ?_, hB⟩
            rw [run_step hen, hnx]
            simp [skipN, g3, e, opV, h8, hv2]
          | false =>
            refine (go_testxn b o _ cap rb ro rc mb mo mc c jt jf k r ⟨a, x, m⟩ w _ hR hRb hn hn2 hcap hs hi hb hrb hr hrl hrr hmb hm c0 c1 c2 c3 g1 h8 (by simp [g3]) hv2 hj.2).mono ?_
            rintro e' w' ⟨rfl, hB⟩
            refine ⟨retP ?_, hB⟩
            rw [run_step hen, hnx]
            simp [skipN, g3, e, opV, h8, hv2]
      · simp only at e; subst e
        refine (go_seta b o _ cap rb ro rc mb mo mc jt jf k r ⟨a, x, m⟩ w _ hR hRb (two (by omega)) hn2 hcap hs hi hb hrb hr hrl hrr hmb hm c0 c1 c2 c3).mono ?_
        rintro e w' ⟨rfl, hB⟩
        refine ⟨retP ?_, hB⟩
        rw [run_step (by simp [endsR])]
        simp [skipN, nextS, ariB, tstB]
      · simp only at e; subst e
        refine (go_setx b o _ cap rb ro rc mb mo mc jt jf k r ⟨a, x, m⟩ w _ hR hRb (two (by omega)) hn2 hcap hs hi hb hrb hr hrl hrr hmb hm c0 c1 c2 c3).mono ?_
        rintro e w' ⟨rfl, hB⟩
        refine ⟨retP ?_, hB⟩
        rw [run_step (by simp [endsR])]
        simp [skipN, nextS, ariB, tstB]
      · simp only at e; subst e
        refine (go_load b o _ cap rb ro rc mb mo mc jt jf k r ⟨a, x, m⟩ w _ hR hRb (two (by omega)) hn2 hcap hs hi hb hrb hr hrl hrr hmb hm c0 c1 c2 c3 (hh.load rfl)).mono ?_
        rintro e w' ⟨rfl, hB⟩
        refine ⟨retP ?_, hB⟩
        rw [run_step (by simp [endsR])]
        simp [skipN, nextS, ariB, tstB]
      · simp only at e; subst e
        refine (go_geta b o _ cap rb ro rc mb mo mc jt jf k r ⟨a, x, m⟩ w _ hR hRb (two (by omega)) hn2 hcap hs hi hb hrb hr hrl hrr hmb hm c0 c1 c2 c3 (hh.mem rfl)).mono ?_
        rintro e w' ⟨rfl, hB⟩
        refine ⟨retP ?_, hB⟩
        rw [run_step (by simp [endsR])]
        simp [skipN, nextS, ariB, tstB]
      · simp only at e; subst e
        refine (go_getx b o _ cap rb ro rc mb mo mc jt jf k r ⟨a, x, m⟩ w _ hR hRb (two (by omega)) hn2 hcap hs hi hb hrb hr hrl hrr hmb hm c0 c1 c2 c3 (hh.mem rfl)).mono ?_
        rintro e w' ⟨rfl, hB⟩
        refine ⟨retP ?_, hB⟩
        rw [run_step (by simp [endsR])]
        simp [skipN, nextS, ariB, tstB]
      · simp only at e; subst e
        refine (go_puta b o _ cap rb ro rc mb mo mc jt jf k r ⟨a, x, m⟩ w _ hR hRb (two (by omega)) hn2 hcap hs hi hb hrb hr hrl hrr hmb hm c0 c1 c2 c3 (hh.mem rfl)).mono ?_
        rintro e w' ⟨rfl, hB⟩
        refine ⟨retP ?_, hB⟩
        rw [run_step (by simp [endsR])]
        simp [skipN, nextS, ariB, tstB]
      · simp only at e; subst e
        refine (go_putx b o _ cap rb ro rc mb mo mc jt jf k r ⟨a, x, m⟩ w _ hR hRb (two (by omega)) hn2 hcap hs hi hb hrb hr hrl hrr hmb hm c0 c1 c2 c3 (hh.mem rfl)).mono ?_
        rintro e w' ⟨rfl, hB⟩
        refine ⟨retP ?_, hB⟩
        rw [run_step (by simp [endsR])]
        simp [skipN, nextS, ariB, tstB]
      · simp only at e; subst e
        refine (go_copyx b o _ cap rb ro rc mb mo mc jt jf k r ⟨a, x, m⟩ w _ hR hRb (two (by omega)) hn2 hcap hs hi hb hrb hr hrl hrr hmb hm c0 c1 c2 c3).mono ?_
        rintro e w' ⟨rfl, hB⟩
        refine ⟨retP ?_, hB⟩
        rw [run_step (by simp [endsR])]
        simp [skipN, nextS, ariB, tstB]
      · simp only at e; subst e
        refine (go_copya b o _ cap rb ro rc mb mo mc jt jf k r ⟨a, x, m⟩ w _ hR hRb (two (by omega)) hn2 hcap hs hi hb hrb hr hrl hrr hmb hm c0 c1 c2 c3).mono ?_
        rintro e w' ⟨rfl, hB⟩
        refine ⟨retP ?_, hB⟩
        rw [run_step (by simp [endsR])]
        simp [skipN, nextS, ariB, tstB]

/-- what Run answers -/
def validB (p : List I) : Bool := (validL p).1 == 0
def startS : S := ⟨0, 0, fun _ => 0⟩
def runR (p : List I) (r : List Int) : Int := if validB p && r.length == 64 then (runL r p.length p startS).1 else 0
def runT (p : List I) (r : List Int) : Int := if validB p && r.length == 64 then (runL r p.length p startS).2 else 0
def runC (p : List I) (r : List Int) : Int := if validB p && r.length == 64 then 0 else 1

theorem ffrom_zero {F : Nat → Int} {m i : Nat} (h : (ffrom F m i).1 = 0) : ∀ j, i ≤ j → j < i + m → F j = 0 := by
  induction m generalizing i with
  | zero => intro j h1 h2; omega
  | succ m ih =>
    rw [ffrom] at h
    by_cases h0 : F i = 0
    · rw [if_pos h0] at h
      intro j h1 h2
      by_cases e : j = i
      · rw [e]; exact h0
      · exact ih h j (by omega) (by omega)
    · rw [if_neg h0] at h; exact absurd h h0
theorem valid_of {p : List I} (hok : ∀ x ∈ p, x.ok) (h : validB p = true) : ValidQ p := by
  have h0 : (validL p).1 = 0 := by simpa [validB] using h
  unfold validL at h0
  split at h0
  · simp at h0
  · exact ⟨by omega, by omega, fun j hj => ffrom_zero h0 j (by omega) (by omega), hok⟩
theorem startS_ok : startS.ok := ⟨⟨by decide, by decide⟩, ⟨by decide, by decide⟩, fun _ => ⟨by simp [startS], by simp [startS]⟩⟩

theorem runL_word (r : List Int) (hr : isBytes r) (N : Nat) (q : List I) (hq : ∀ x ∈ q, x.ok) (s : S) (hs : s.ok) : isWord (runL r N q s).1 := by
  induction N generalizing q s with
  | zero => simp [runL, isWord]
  | succ N ih =>
    match q, hq with
    | [], _ => simp [runL, isWord]
    | i :: t, hq =>
      have hi := hq i (by simp)
      cases h : endsR i s with
      | some v =>
        rw [run_end h]
        unfold endsR at h
        split at h
        · simp at h; subst h; exact ⟨hi.2.2.2.2.2.2.1, hi.2.2.2.2.2.2.2⟩
        split at h
        · simp at h; subst h; exact hs.1
        split at h
        · simp at h; subst h; exact ⟨by simp, by simp⟩
        · simp at h
      | none => rw [run_step h]; exact ih _ (fun x hx => hq x (by simp [List.mem_of_mem_drop hx])) _ (nextS_ok hr hi hs)

set_option maxHeartbeats 1000000 in
theorem l1valid_any (a : Option Addr) (cap : Nat) (p : List I) (w : World) (hs : Src w a p) (hok : ∀ x ∈ p, x.ok) (hn : p.length ≤ 1048576) :
    Calls Try.prog 52 #[.slice a p.length cap] w fun e w' => e = .returned (.bool (validB p)) ∧ Below w.heap.size w w' := by
  have HC : Hid (Calls Try.prog 13 #[.slice a p.length cap] w fun e w' => e = .returned (pairV (validL p)) ∧ Below w.heap.size w w') := specValidate_any a cap p w hs hok hn
  have HV : Hid (validB p = ((validL p).1 == 0)) := rfl
  clear hs hok
  generalize validL p = v at *
  generalize validB p = bb at *
  generalize p.length = n at *
  obtain ⟨v1, v2⟩ := v
  go_enter Try.func52, Try.ntmps52
  go_wp2_with (go_at_call 13; refine HC.out.mono ?_; rintro e w' ⟨rfl, hB⟩)
  go_ret
  exact ⟨ret_bool HV.out.symm, by assumption⟩

set_option maxHeartbeats 1000000 in
theorem l1run_any (b o cap rb ro rc : Nat) (p : List I) (r : List Int) (w : World) (hb : b < w.heap.size) (hp : InsAt w b o p) (hv : ValidQ p) (hcap : p.length ≤ cap) (hrb : rb < w.heap.size) (hr : BytesAt w rb ro r) (hrl : r.length = 64) (hrr : isBytes r) :
    Calls Try.prog 53 #[.slice (some ⟨b, o, none⟩) p.length cap, .slice (some ⟨rb, ro, none⟩) 64 rc] w fun e w' => e = .returned (.tuple #[.int .i64 (runL r p.length p startS).1, .int .i64 (runL r p.length p startS).2]) ∧ Below w.heap.size w w' := by
  obtain ⟨i0, hi, hz0, hz1, hz2⟩ := info_parts infoInt
  have hmk : ∀ u : World, (Instr.makeSlice 108 (.int .i64 16) (.int .i64 16)).run Try.prog u =
      .ok (.slice (some ⟨u.heap.size, 0, none⟩) 16 16) (u.alloc (.cells (madeCells #[.int .i64 0] 16) 3)) := fun u => by
    have h := run_make (P := Try.prog) u 108 3 i0 _ Try.underlying108 hi hz0 .i64 .i64 16 16 (by omega) (Int.le_refl _) (by rw [hz2]; omega) (by omega)
    simpa [hz1, Value.cells] using h
  have HC : Hid (∀ wx mb, Below w.heap.size w wx → mb < wx.heap.size → MemAt wx mb 0 (fun _ => 0) → Calls Try.prog 85 #[.slice (some ⟨b, o, none⟩) p.length cap, .slice (some ⟨rb, ro, none⟩) 64 rc, .agg #[.int .i64 0, .int .i64 0, .slice (some ⟨mb, 0, none⟩) 16 16]] wx
      fun e w' => e = .returned (.tuple #[.int .i64 (runL r p.length p startS).1, .int .i64 (runL r p.length p startS).2]) ∧ Below wx.heap.size wx w') := fun wx mb hB hmb hm =>
    l1go_any r hrl hrr p.length hv.2.1 p (Nat.le_refl _) hv startS startS_ok wx b o cap rb ro rc mb 0 16 hcap (Nat.lt_of_lt_of_le hb hB.size) (hp.below hb hB) (Nat.lt_of_lt_of_le hrb hB.size) (fun j hj => (hB.cell (p := ⟨rb, _, none⟩) hrb).trans (hr j hj)) hmb hm
  generalize runL r p.length p startS = res at *
  clear hp hv hr hi hz0 hz1 hz2
  generalize p.length = n at *
  go_enter Try.func53, Try.ntmps53
  go_wp2_with fail
  have hm : MemAt (w.alloc (.cells (madeCells #[.int .i64 0] 16) 3)) w.heap.size 0 (fun _ => 0) := fun j hj => by
    rw [Nat.zero_add]
    exact (World.rowIs_made w (.int .i64 0) 16 3).cell hj
  have hB : Below w.heap.size w (w.alloc (.cells (madeCells #[.int .i64 0] 16) 3)) := (Below.refl _ _).alloc (Nat.le_refl _) _
  refine (HC.out _ _ hB (by simp) hm).mono ?_
  rintro e w' ⟨rfl, hb1⟩
  go_wp2
  go_ret2
  exact ⟨rfl, hB.trans (hb1.mono hB.size)⟩
end Go.Proofs.Ytjfgihmamoiipaa
