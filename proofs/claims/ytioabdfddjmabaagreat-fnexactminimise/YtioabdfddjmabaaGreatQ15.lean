/-
  MinS
-/
import Derived.Test.YtioabdfddjmabaaGreatQ07
import Derived.Test.YtioabdfddjmabaaGreatQ12
import Derived.Test.YtioabdfddjmabaaGreatQ02
namespace Go.Proofs.YtioabdfddjmabaaGreat
open Go.RowKit
set_option linter.unusedVariables false

theorem ordI_ngS {a b : Int} (h : a < b) : ordI a b = -1 := if_pos h
theorem ordI_psS {a b : Int} (h : b < a) : ordI a b = 1 := by unfold ordI; rw [if_neg (by omega), if_pos h]
/-- the model's answer: of ordK's sign -/
def ordM (c d : K) : Int := if c.kind = d.kind then thenO (ordI c.a d.a) (ordI c.b d.b) else c.kind - d.kind
theorem ordM_far {c d : K} (h : c.kind ≠ d.kind) : ordM c d = c.kind - d.kind := if_neg h
theorem ordM_a {k k' : Int} {x y z v : Nat} (h : k = k') (h2 : x ≠ z) : ordM ⟨k, x, y⟩ ⟨k', z, v⟩ = ordI x z := by
  unfold ordM
  rw [if_pos h]
  exact if_neg (fun e => h2 (by have : (x : Int) = z := ordI_zero e; omega))
theorem ordM_b {k k' : Int} {x y z v : Nat} (h : k = k') (h2 : x = z) : ordM ⟨k, x, y⟩ ⟨k', z, v⟩ = ordI y v := by
  unfold ordM
  rw [if_pos h]
  exact if_pos (by rw [h2]; exact ordI_self _)
theorem ordM_sign (c d : K) : (ordM c d = 0 ↔ ordK c d = 0) ∧ (ordM c d < 0 ↔ ordK c d < 0) := by
  unfold ordM ordK
  by_cases h : c.kind = d.kind
  · rw [if_pos h, h, ordI_self]
    simp [thenO]
  · rw [if_neg h]
    have h0 : ordI c.kind d.kind ≠ 0 := fun e => h (ordI_zero e)
    have e : ∀ y, thenO (ordI c.kind d.kind) y = ordI c.kind d.kind := fun y => if_neg h0
    rw [e]
    refine ⟨⟨fun h1 => by omega, fun h1 => absurd h1 h0⟩, ?_⟩
    rw [ordI_lt]
    omega
abbrev ordMR : Ru → Ru → Int := lexO ordM
theorem ordMR_sign : ∀ (a b : Ru), (ordMR a b = 0 ↔ ordR a b = 0) ∧ (ordMR a b < 0 ↔ ordR a b < 0)
  | [], [] => by simp [lexO]
  | [], b :: s => by simp [lexO]
  | a :: r, [] => by simp [lexO]
  | a :: r, b :: s => by
    have h := ordM_sign a b
    have h' := ordMR_sign r s
    simp only [ordMR, ordR, lexO] at *
    by_cases e : ordM a b = 0
    · rw [if_pos e, if_pos (h.1.1 e)]; exact h'
    · rw [if_neg e, if_neg (fun g => e (h.1.2 g))]; exact h
theorem lexO_step {α : Type} {ord : α → α → Int} {d : α} : ∀ {l m : List α} {i : Nat}, i < l.length → i < m.length → lexO ord (l.drop i) (m.drop i) = if ord (l.getD i d) (m.getD i d) = 0 then lexO ord (l.drop (i + 1)) (m.drop (i + 1)) else ord (l.getD i d) (m.getD i d)
  | [], _, _, h, _ => by simp at h
  | _ :: _, [], _, _, h => by simp at h
  | a :: r, b :: s, 0, _, _ => by simp [lexO]
  | a :: r, b :: s, i + 1, h, h' => by
    have := lexO_step (ord := ord) (d := d) (l := r) (m := s) (i := i) (by simpa using h) (by simpa using h')
    simpa using this
theorem ordM_small {c d : K} (hc : validK c = true) (hd : validK d = true) : -2 ≤ c.kind - d.kind ∧ c.kind - d.kind ≤ 2 := by
  rcases K.valid_cases hc with rfl | ⟨a, b, rfl, h⟩ | ⟨a, b, rfl, h⟩ <;> rcases K.valid_cases hd with rfl | ⟨a', b', rfl, h'⟩ | ⟨a', b', rfl, h'⟩ <;> simp

set_option maxRecDepth 100000 in
set_option maxHeartbeats 2000000 in
theorem l3conOrder_any (c d : K) (w : World) (hc : Normal c) (hd : Normal d) :
    Calls Tryz.prog 104 #[conV c, conV d] w fun e w' => e = .returned (.int .i64 (ordM c d)) ∧ Below w.heap.size w w' := by
  have hs := ordM_small hc.valid hd.valid
  obtain ⟨k, x, y⟩ := c
  obtain ⟨k', z, v⟩ := d
  simp only at hs
  clear hc hd
  have B : ∀ o o', Below w.heap.size w ((w.alloc o).alloc o') := fun o o' => ((Below.refl _ _).alloc (Nat.le_refl _) _).alloc (by simp) _
  by_cases h : k = k'
  · subst h
    by_cases h2 : x = z
    · rw [ordM_b rfl h2]
      subst h2
      rcases Nat.lt_trichotomy y v with h3 | h3 | h3
      · rw [ordI_ngS (by omega)]
        have h3' : (y : Int) < v := by omega
        clear hs
        go_enter Tryz.func104, Tryz.ntmps104
        go_wp2
        go_ret
        exact ⟨rfl, B _ _⟩
      · subst h3
        rw [ordI_self]
        clear hs
        go_enter Tryz.func104, Tryz.ntmps104
        go_wp2
        go_ret
        exact ⟨rfl, B _ _⟩
      · rw [ordI_psS (by omega)]
        have h3' : ¬ (y : Int) < v := by omega
        have h3'' : (v : Int) < y := by omega
        clear hs
        go_enter Tryz.func104, Tryz.ntmps104
        go_wp2
        go_ret
        exact ⟨rfl, B _ _⟩
    · rw [ordM_a rfl h2]
      have hb : ((x : Int) != (z : Int)) = true := by rw [bne_iff_ne]; omega
      clear hs
      by_cases h3 : x < z
      · rw [ordI_ngS (by omega)]
        have h3' : (x : Int) < z := by omega
        go_enter Tryz.func104, Tryz.ntmps104
        go_wp2
        go_ret
        exact ⟨rfl, B _ _⟩
      · rw [ordI_psS (by omega)]
        have h3' : ¬ (x : Int) < z := by omega
        go_enter Tryz.func104, Tryz.ntmps104
        go_wp2
        go_ret
        exact ⟨rfl, B _ _⟩
  · rw [ordM_far h]
    have hb : (k != k') = true := by simpa using h
    have hw : IntKind.i64.wrap (k - k') = k - k' := by simp only [IntKind.wrap_i64]; omega
    simp only
    go_enter Tryz.func104, Tryz.ntmps104
    go_wp2
    go_ret
    exact ⟨rfl, B _ _⟩

set_option maxRecDepth 100000 in
set_option maxHeartbeats 4000000 in
theorem l3ruleOrder_any (r s : Ru) (a a' : Option Addr) (cap cap' : Nat) (w : World) (hs : LSrc 3 PK w a r) (hs' : LSrc 3 PK w a' s) (hr : NR r) (hr' : NR s) :
    Calls Tryz.prog 81 #[.agg #[.slice a 6 cap], .agg #[.slice a' 6 cap']] w fun e w' => e = .returned (.int .i64 (ordMR r s)) ∧ Below w.heap.size w w' := by
  have HC : Hid (∀ i, ∀ w, Calls Tryz.prog 104 #[conV (r.getD i K.zero), conV (s.getD i K.zero)] w fun e w' => e = .returned (.int .i64 (ordM (r.getD i K.zero) (s.getD i K.zero))) ∧ Below w.heap.size w w') := fun i w => l3conOrder_any _ _ w (hr.2 i) (hr'.2 i)
  have HS : Hid (∀ i, i < 6 → ordMR (r.drop i) (s.drop i) = if ordM (r.getD i K.zero) (s.getD i K.zero) = 0 then ordMR (r.drop (i + 1)) (s.drop (i + 1)) else ordM (r.getD i K.zero) (s.getD i K.zero)) := fun i hi => lexO_step (by rw [hr.1]; exact hi) (by rw [hr'.1]; exact hi)
  have HE : Hid (ordMR (r.drop 6) (s.drop 6) = 0) := by
    have e1 : r.drop 6 = [] := List.drop_of_length_le (by rw [hr.1]; exact Nat.le_refl 6)
    have e2 : s.drop 6 = [] := List.drop_of_length_le (by rw [hr'.1]; exact Nat.le_refl 6)
    show _ = _
    rw [e1, e2]; rfl
  have H0 : Hid (ordMR r s = ordMR (r.drop 0) (s.drop 0)) := rfl
  have HP : Hid (∀ wr, Below w.heap.size w wr → ∀ i, i < 6 → ∃ b o, a = some ⟨b, o, none⟩ ∧ b < wr.heap.size ∧ PK wr b (o + i * 3) (r.getD i K.zero)) := fun wr hB i hi => (hs.below PK.stays hB).at (by rw [hr.1]; exact hi) K.zero
  have HU : Hid (∀ wr, Below w.heap.size w wr → ∀ i, i < 6 → ∃ b o, a' = some ⟨b, o, none⟩ ∧ b < wr.heap.size ∧ PK wr b (o + i * 3) (s.getD i K.zero)) := fun wr hB i hi => (hs'.below PK.stays hB).at (by rw [hr'.1]; exact hi) K.zero
  obtain ⟨O, hO⟩ : ∃ O : Nat → Int, ∀ i, ordMR (r.drop i) (s.drop i) = O i := ⟨_, fun _ => rfl⟩
  simp only [hO] at HS HE H0
  generalize ordMR r s = R at *
  clear hO hs hs' hr hr'
  have B : Below w.heap.size w ((w.alloc (.cells #[.slice a 6 cap] 44)).alloc (.cells #[.slice a' 6 cap'] 44)) := ((Below.refl _ _).alloc (Nat.le_refl _) _).alloc (by simp) _
  have x0 : ((w.alloc (.cells #[.slice a 6 cap] 44)).alloc (.cells #[.slice a' 6 cap'] 44)).cell? ⟨w.heap.size, 0, none⟩ = some (.slice a 6 cap) := cell_step ((Below.refl _ _).alloc (Nat.le_refl _) _) (box1 w 44 (.slice a 6 cap))
  have y0 : ((w.alloc (.cells #[.slice a 6 cap] 44)).alloc (.cells #[.slice a' 6 cap'] 44)).cell? ⟨w.heap.size + 1, 0, none⟩ = some (.slice a' 6 cap') := by
    have := box1 (w.alloc (.cells #[.slice a 6 cap] 44)) 44 (.slice a' 6 cap')
    rw [show (w.alloc (.cells #[.slice a 6 cap] 44)).heap.size = w.heap.size + 1 by simp] at this
    exact this
  go_enter Tryz.func81, Tryz.ntmps81
  go_wp2_with fail
  generalize (w.alloc (.cells #[.slice a 6 cap] 44)).alloc (.cells #[.slice a' 6 cap'] 44) = W at *
  go_loopw [5] (fun i wr => ∃ k : Nat, k ≤ 6 ∧ i = .int .i64 k ∧ Hid (R = O k) ∧ wr.cell? ⟨w.heap.size, 0, none⟩ = some (.slice a 6 cap) ∧ wr.cell? ⟨w.heap.size + 1, 0, none⟩ = some (.slice a' 6 cap') ∧ Below w.heap.size w wr) (fun i _ => 6 - (intOf i).toNat)
  case atStart => exact ⟨0, by omega, rfl, H0, x0, y0, B⟩
  case round =>
    clear B x0 y0 H0
    obtain ⟨k, hk, rfl, HR, x0, y0, B⟩ := hrel
    rename World => W0
    by_cases hk6 : k < 6
    · obtain ⟨b, o, rfl, hlt, c0, c1, c2⟩ := HP.out W0 B k hk6
      obtain ⟨b', o', rfl, hlt', d0, d1, d2⟩ := HU.out W0 B k hk6
      have HC1 := HC.out k
      have HS1 : Hid (R = if ordM (r.getD k K.zero) (s.getD k K.zero) = 0 then O (k + 1) else ordM (r.getD k K.zero) (s.getD k K.zero)) := HR.out.trans (HS.out k hk6)
      have hk6' : (k : Int) < 6 := by omega
      generalize ordM (r.getD k K.zero) (s.getD k K.zero) = Q at *
      generalize r.getD k K.zero = c at *
      generalize s.getD k K.zero = d at *
      obtain ⟨ck, ca, cb⟩ := c
      obtain ⟨dk, da, db⟩ := d
      simp only at c0 c1 c2 d0 d1 d2
      simp only [conV] at HC1
      have HC2 : Hid (∀ w, Calls Tryz.prog 104 #[.agg #[.int .i64 ck, .int .u64 (ca : Int), .int .u64 (cb : Int)], .agg #[.int .i64 dk, .int .u64 (da : Int), .int .u64 (db : Int)]] w fun e w' => e = .returned (.int .i64 Q) ∧ Below w.heap.size w w') := HC1
      clear HC HS HP HU HR HC1 HE
      obtain ⟨S, hS⟩ : ∃ S : World → Prop, S = fun w' => Below w.heap.size w w' ∧ w'.cell? ⟨w.heap.size, 0, none⟩ = some (.slice (some ⟨b, o, none⟩) 6 cap) ∧ w'.cell? ⟨w.heap.size + 1, 0, none⟩ = some (.slice (some ⟨b', o', none⟩) 6 cap') ∧ w'.cell? ⟨b, o + k * 3, none⟩ = some (.int .i64 ck) ∧ w'.cell? ⟨b, o + k * 3 + 1, none⟩ = some (.int .u64 (ca : Int)) ∧ w'.cell? ⟨b, o + k * 3 + 2, none⟩ = some (.int .u64 (cb : Int)) ∧ w'.cell? ⟨b', o' + k * 3, none⟩ = some (.int .i64 dk) ∧ w'.cell? ⟨b', o' + k * 3 + 1, none⟩ = some (.int .u64 (da : Int)) ∧ w'.cell? ⟨b', o' + k * 3 + 2, none⟩ = some (.int .u64 (db : Int)) := ⟨_, rfl⟩
      have SK : Hid (∀ wa wb, Below wa.heap.size wa wb → S wa → S wb) := fun wa wb hb => by
        subst hS
        exact fun ⟨s, x, y, e1, e2, e3, e4, e5, e6⟩ => ⟨below_step hb s, cell_step hb x, cell_step hb y, cell_step hb e1, cell_step hb e2, cell_step hb e3, cell_step hb e4, cell_step hb e5, cell_step hb e6⟩
      have hS0 := SK.out W0 W0.drew ((Below.refl _ _).drew) (by subst hS; exact ⟨B, x0, y0, c0, c1, c2, d0, d1, d2⟩)
      subst hS
      clear x0 y0 c0 c1 c2 d0 d1 d2 B
      go_wp2_with fail
      go_region_held3 (fun w' => Below w.heap.size w w' ∧ w'.cell? ⟨w.heap.size, 0, none⟩ = some (.slice (some ⟨b, o, none⟩) 6 cap) ∧ w'.cell? ⟨w.heap.size + 1, 0, none⟩ = some (.slice (some ⟨b', o', none⟩) 6 cap') ∧ w'.cell? ⟨b, o + k * 3, none⟩ = some (.int .i64 ck) ∧ w'.cell? ⟨b, o + k * 3 + 1, none⟩ = some (.int .u64 (ca : Int)) ∧ w'.cell? ⟨b, o + k * 3 + 2, none⟩ = some (.int .u64 (cb : Int)) ∧ w'.cell? ⟨b', o' + k * 3, none⟩ = some (.int .i64 dk) ∧ w'.cell? ⟨b', o' + k * 3 + 1, none⟩ = some (.int .u64 (da : Int)) ∧ w'.cell? ⟨b', o' + k * 3 + 2, none⟩ = some (.int .u64 (db : Int)))
        (assumption)
        (first | (go_at_call 104; refine (HC2.out _).mono ?_; rintro _ w9 ⟨rfl, hb9⟩; have hS9 := SK.out _ _ hb9 (by assumption)))
      all_goals
        obtain ⟨B1, x1, y1, _, _, _, _, _, _⟩ := hS9
        clear hb9 hS0 SK
        by_cases hQ : Q = 0
        · subst hQ
          have HR2 : Hid (R = O (k + 1)) := HS1.out.trans (if_pos rfl)
          clear HS1
          go_wp2
          go_roundw
          case rel => exact ⟨k + 1, by omega, by go_num, HR2, x1, y1, B1⟩
          case measure => simp [intOf]; omega
        · have HR2 : Hid (R = Q) := HS1.out.trans (if_neg hQ)
          have hb : (Q != 0) = true := by simpa using hQ
          clear HS1 hQ
          go_wp2
          go_ret
          exact ⟨ret_int HR2.out.symm, B1⟩
    · have hk' : k = 6 := by omega
      subst hk'
      have HR2 : Hid (R = 0) := HR.out.trans HE.out
      go_wp2
      go_ret
      exact ⟨ret_int HR2.out.symm, B⟩

set_option maxRecDepth 100000 in
set_option maxHeartbeats 4000000 in
theorem l3ruleWithin_any (r s : Ru) (a a' : Option Addr) (cap cap' : Nat) (w : World) (hs : LSrc 3 PK w a r) (hs' : LSrc 3 PK w a' s) (hr : NR r) (hr' : NR s) :
    Calls Tryz.prog 82 #[.agg #[.slice a 6 cap], .agg #[.slice a' 6 cap']] w fun e w' => e = .returned (.bool (withinR r s)) ∧ Below w.heap.size w w' := by
  have HC : Hid (∀ i, ∀ w, Calls Tryz.prog 27 #[conV (r.getD i K.zero), conV (s.getD i K.zero)] w fun e w' => e = .returned (.bool (withinI (r.getD i K.zero) (s.getD i K.zero))) ∧ Below w.heap.size w w') := fun i w => l3within_any _ _ _ w (hr.2 i).ok (hr.2 i).valid (hr'.2 i).ok (hr'.2 i).valid (withinI_iff (hr.2 i) (hr'.2 i))
  have HN : Hid (∀ k, k < 6 → withinI (r.getD k K.zero) (s.getD k K.zero) = false → withinR r s = false) := fun k hk h => withinR_no hk h
  have HY : Hid ((∀ k, k < 6 → withinI (r.getD k K.zero) (s.getD k K.zero) = true) → withinR r s = true) := (withinR_iff r s).2
  have HP : Hid (∀ wr, Below w.heap.size w wr → ∀ i, i < 6 → ∃ b o, a = some ⟨b, o, none⟩ ∧ b < wr.heap.size ∧ PK wr b (o + i * 3) (r.getD i K.zero)) := fun wr hB i hi => (hs.below PK.stays hB).at (by rw [hr.1]; exact hi) K.zero
  have HU : Hid (∀ wr, Below w.heap.size w wr → ∀ i, i < 6 → ∃ b o, a' = some ⟨b, o, none⟩ ∧ b < wr.heap.size ∧ PK wr b (o + i * 3) (s.getD i K.zero)) := fun wr hB i hi => (hs'.below PK.stays hB).at (by rw [hr'.1]; exact hi) K.zero
  generalize withinR r s = R at *
  clear hs hs' hr hr'
  have B : Below w.heap.size w ((w.alloc (.cells #[.slice a 6 cap] 44)).alloc (.cells #[.slice a' 6 cap'] 44)) := ((Below.refl _ _).alloc (Nat.le_refl _) _).alloc (by simp) _
  have x0 : ((w.alloc (.cells #[.slice a 6 cap] 44)).alloc (.cells #[.slice a' 6 cap'] 44)).cell? ⟨w.heap.size, 0, none⟩ = some (.slice a 6 cap) := cell_step ((Below.refl _ _).alloc (Nat.le_refl _) _) (box1 w 44 (.slice a 6 cap))
  have y0 : ((w.alloc (.cells #[.slice a 6 cap] 44)).alloc (.cells #[.slice a' 6 cap'] 44)).cell? ⟨w.heap.size + 1, 0, none⟩ = some (.slice a' 6 cap') := by
    have := box1 (w.alloc (.cells #[.slice a 6 cap] 44)) 44 (.slice a' 6 cap')
    rw [show (w.alloc (.cells #[.slice a 6 cap] 44)).heap.size = w.heap.size + 1 by simp] at this
    exact this
  go_enter Tryz.func82, Tryz.ntmps82
  go_wp2_with fail
  generalize (w.alloc (.cells #[.slice a 6 cap] 44)).alloc (.cells #[.slice a' 6 cap'] 44) = W at *
  go_loopw [5] (fun i wr => ∃ k : Nat, k ≤ 6 ∧ i = .int .i64 k ∧ Hid (∀ j, j < k → withinI (r.getD j K.zero) (s.getD j K.zero) = true) ∧ wr.cell? ⟨w.heap.size, 0, none⟩ = some (.slice a 6 cap) ∧ wr.cell? ⟨w.heap.size + 1, 0, none⟩ = some (.slice a' 6 cap') ∧ Below w.heap.size w wr) (fun i _ => 6 - (intOf i).toNat)
  case atStart => exact ⟨0, by omega, rfl, fun j hj => by omega, x0, y0, B⟩
  case round =>
    clear B x0 y0
    obtain ⟨k, hk, rfl, HJ, x0, y0, B⟩ := hrel
    rename World => W0
    by_cases hk6 : k < 6
    · obtain ⟨b, o, rfl, hlt, c0, c1, c2⟩ := HP.out W0 B k hk6
      obtain ⟨b', o', rfl, hlt', d0, d1, d2⟩ := HU.out W0 B k hk6
      have HC1 := HC.out k
      have HNk : Hid (withinI (r.getD k K.zero) (s.getD k K.zero) = false → R = false) := HN.out k hk6
      have HJ1 : Hid (withinI (r.getD k K.zero) (s.getD k K.zero) = true → ∀ j, j < k + 1 → withinI (r.getD j K.zero) (s.getD j K.zero) = true) := fun h j hj => by
        by_cases hjk : j = k
        · subst hjk; exact h
        · exact HJ.out j (by omega)
      have hk6' : (k : Int) < 6 := by omega
      clear HC HP HU HJ HN HY
      generalize withinI (r.getD k K.zero) (s.getD k K.zero) = Q at *
      generalize r.getD k K.zero = c at *
      generalize s.getD k K.zero = d at *
      obtain ⟨ck, ca, cb⟩ := c
      obtain ⟨dk, da, db⟩ := d
      simp only at c0 c1 c2 d0 d1 d2
      simp only [conV] at HC1
      have HC2 : Hid (∀ w, Calls Tryz.prog 27 #[.agg #[.int .i64 ck, .int .u64 (ca : Int), .int .u64 (cb : Int)], .agg #[.int .i64 dk, .int .u64 (da : Int), .int .u64 (db : Int)]] w fun e w' => e = .returned (.bool Q) ∧ Below w.heap.size w w') := HC1
      clear HC1
      have SK : Hid (∀ wa wb, Below wa.heap.size wa wb → (Below w.heap.size w wa ∧ wa.cell? ⟨w.heap.size, 0, none⟩ = some (.slice (some ⟨b, o, none⟩) 6 cap) ∧ wa.cell? ⟨w.heap.size + 1, 0, none⟩ = some (.slice (some ⟨b', o', none⟩) 6 cap') ∧ wa.cell? ⟨b, o + k * 3, none⟩ = some (.int .i64 ck) ∧ wa.cell? ⟨b, o + k * 3 + 1, none⟩ = some (.int .u64 (ca : Int)) ∧ wa.cell? ⟨b, o + k * 3 + 2, none⟩ = some (.int .u64 (cb : Int)) ∧ wa.cell? ⟨b', o' + k * 3, none⟩ = some (.int .i64 dk) ∧ wa.cell? ⟨b', o' + k * 3 + 1, none⟩ = some (.int .u64 (da : Int)) ∧ wa.cell? ⟨b', o' + k * 3 + 2, none⟩ = some (.int .u64 (db : Int))) → (Below w.heap.size w wb ∧ wb.cell? ⟨w.heap.size, 0, none⟩ = some (.slice (some ⟨b, o, none⟩) 6 cap) ∧ wb.cell? ⟨w.heap.size + 1, 0, none⟩ = some (.slice (some ⟨b', o', none⟩) 6 cap') ∧ wb.cell? ⟨b, o + k * 3, none⟩ = some (.int .i64 ck) ∧ wb.cell? ⟨b, o + k * 3 + 1, none⟩ = some (.int .u64 (ca : Int)) ∧ wb.cell? ⟨b, o + k * 3 + 2, none⟩ = some (.int .u64 (cb : Int)) ∧ wb.cell? ⟨b', o' + k * 3, none⟩ = some (.int .i64 dk) ∧ wb.cell? ⟨b', o' + k * 3 + 1, none⟩ = some (.int .u64 (da : Int)) ∧ wb.cell? ⟨b', o' + k * 3 + 2, none⟩ = some (.int .u64 (db : Int)))) := fun wa wb hb ⟨s, x, y, e1, e2, e3, e4, e5, e6⟩ => ⟨below_step hb s, cell_step hb x, cell_step hb y, cell_step hb e1, cell_step hb e2, cell_step hb e3, cell_step hb e4, cell_step hb e5, cell_step hb e6⟩
      have hS0 := SK.out W0 W0.drew ((Below.refl _ _).drew) ⟨B, x0, y0, c0, c1, c2, d0, d1, d2⟩
      clear x0 y0 c0 c1 c2 d0 d1 d2 B
      go_wp2_with fail
      go_region_held3 (fun w' => Below w.heap.size w w' ∧ w'.cell? ⟨w.heap.size, 0, none⟩ = some (.slice (some ⟨b, o, none⟩) 6 cap) ∧ w'.cell? ⟨w.heap.size + 1, 0, none⟩ = some (.slice (some ⟨b', o', none⟩) 6 cap') ∧ w'.cell? ⟨b, o + k * 3, none⟩ = some (.int .i64 ck) ∧ w'.cell? ⟨b, o + k * 3 + 1, none⟩ = some (.int .u64 (ca : Int)) ∧ w'.cell? ⟨b, o + k * 3 + 2, none⟩ = some (.int .u64 (cb : Int)) ∧ w'.cell? ⟨b', o' + k * 3, none⟩ = some (.int .i64 dk) ∧ w'.cell? ⟨b', o' + k * 3 + 1, none⟩ = some (.int .u64 (da : Int)) ∧ w'.cell? ⟨b', o' + k * 3 + 2, none⟩ = some (.int .u64 (db : Int)))
        (assumption)
        (first | (go_at_call 27; refine (HC2.out _).mono ?_; rintro _ w9 ⟨rfl, hb9⟩; have hS9 := SK.out _ _ hb9 (by assumption)))
      all_goals
        obtain ⟨B1, x1, y1, _, _, _, _, _, _⟩ := hS9
        clear hb9 hS0 SK
        cases Q with
        | false =>
          have hR : R = false := HNk.out rfl
          subst hR
          go_wp2
          go_ret
          exact ⟨rfl, B1⟩
        | true =>
          have HJ2 : Hid (∀ j, j < k + 1 → withinI (r.getD j K.zero) (s.getD j K.zero) = true) := HJ1.out rfl
          go_wp2
          go_roundw
          case rel => exact ⟨k + 1, by omega, by go_num, HJ2, x1, y1, B1⟩
          case measure => simp [intOf]; omega
    · have hk' : k = 6 := by omega
      subst hk'
      have hR : R = true := HY.out HJ.out
      subst hR
      go_wp2
      go_ret
      exact ⟨rfl, B⟩
end Go.Proofs.YtioabdfddjmabaaGreat
