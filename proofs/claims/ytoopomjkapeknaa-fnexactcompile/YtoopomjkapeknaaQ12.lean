/-
  CmpC, CmpD, CmpE, CmpF
-/
import Derived.Test.YtoopomjkapeknaaQ11
namespace Go.Proofs.Ytoopomjkapeknaa
open Go.RowKit
set_option linter.unusedVariables false

theorem mskI_len (a m b fail : Int) : (mskI a m b fail).length ≤ 3 := by
  unfold mskI
  split
  · simp
  · split <;> simp
theorem lowP_len (x : Nat) (a fail t : Int) : (lowP x a fail t).length ≤ 6 := by
  unfold lowP
  split
  · simp
  · simp [lowI]
theorem highP_len (x : Nat) (a fail t : Int) : (highP x a fail t).length ≤ 6 := by
  unfold highP
  split
  · simp
  · simp [highI]
theorem conI_len (c : K) (a fail p1 p2 : Int) : (conI c a fail p1 p2).length ≤ 12 := by
  unfold conI
  split
  · have h1 := mskI_len (a + 4) (upH c.a) (upH c.b) fail
    have h2 := mskI_len a (loH c.a) (loH c.b) fail
    simp only [List.length_append]; omega
  · split
    · have h1 := lowP_len c.a a fail p1
      have h2 := highP_len c.b a fail p2
      simp only [List.length_append]; omega
    · simp
theorem cell3_obj {w : World} {b : Nat} {x y z : Value} {t : TypeId} {f : Nat × Nat} (h : w.heap[b]? = some (.cells #[x, y, z] t f)) : w.cell? ⟨b, 0, none⟩ = some x ∧ w.cell? ⟨b, 1, none⟩ = some y ∧ w.cell? ⟨b, 2, none⟩ = some z := by
  unfold World.cell?
  simp only [h]
  exact ⟨rfl, rfl, rfl⟩

set_option maxRecDepth 100000 in
set_option maxHeartbeats 4000000 in
theorem condition_any (w : World) (F : Nat) (v : Value) (p : List It) (n : Int) (c : K) (a fail : Int) (hS : WrS w F v p n) (hn : p.length ≤ 800000) (h0 : 0 ≤ a) (h1 : a ≤ 800) (hc : c.ok) (hn0 : 0 ≤ n) (hn1 : n ≤ 800000) :
    Calls Try.prog 82 #[.pointer (some ⟨F, 0, none⟩), conV c, .int .i64 a, .int .i64 fail] w fun e w' => WrPost F (p ++ conI c a fail (n + 1) (lowN c n + 1)) (conN c n) w e w' := by
  obtain ⟨kd, ca, cb⟩ := c
  have hca : ca ≤ 18446744073709551615 := by have := hc.2.1; simp only at this; omega
  have hcb : cb ≤ 18446744073709551615 := by have := hc.2.2; simp only at this; omega
  have hlt := hS.lt
  have hba : Below w.heap.size w (w.alloc (.cells #[.int .i64 kd, .int .u64 (ca : Int), .int .u64 (cb : Int)] 93)) := (Below.refl _ _).alloc (Nat.le_refl _) _
  have hX := heap_alloc_new w (.cells #[.int .i64 kd, .int .u64 (ca : Int), .int .u64 (cb : Int)] 93)
  have hS1 := hS.keep hba
  have hK1 : KW F w (w.alloc (.cells #[.int .i64 kd, .int .u64 (ca : Int), .int .u64 (cb : Int)] 93)) := KW.of_below hba (Nat.le_of_lt hlt)
  have HUp : Hid (∀ (x : Nat) w1, x ≤ 18446744073709551615 → Calls Try.prog 85 #[.int .u64 (x : Int)] w1 fun e w' => e = .returned (.int .u32 (upH x)) ∧ w' = w1) := fun x w1 hx => upperHalf_any x w1 hx
  have HLo : Hid (∀ (x : Nat) w1, x ≤ 18446744073709551615 → Calls Try.prog 86 #[.int .u64 (x : Int)] w1 fun e w' => e = .returned (.int .u32 (loH x)) ∧ w' = w1) := fun x w1 hx => lowerHalf_any x w1 hx
  have hw4 : IntKind.i64.wrap (a + 4) = a + 4 := by rw [IntKind.wrap_i64]; omega
  simp only [conV]
  go_enter Try.func82, Try.ntmps82
  by_cases hk1 : kd = 1
  · subst hk1
    have hE : p ++ conI ⟨1, ca, cb⟩ a fail (n + 1) (lowN ⟨1, ca, cb⟩ n + 1) = p ++ mskI (a + 4) (upH ca) (upH cb) fail ++ mskI a (loH ca) (loH cb) fail := by simp [conI]
    have hNn : conN ⟨1, ca, cb⟩ n = n := by simp [conN]
    rw [hE, hNn]
    clear hE hNn
    have hml := mskI_len (a + 4) (upH ca) (upH cb) fail
    have HM1 : Hid (∀ w1, WrS w1 F v p n → Calls Try.prog 84 #[.pointer (some ⟨F, 0, none⟩), .int .u32 (upH ca), .int .u32 (upH cb), .int .i64 (a + 4), .int .i64 fail] w1 fun e w' => e = .returned (.tuple #[]) ∧ (∃ v', WrS w' F v' (p ++ mskI (a + 4) (upH ca) (upH cb) fail) n) ∧ KW F w1 w') := fun w1 h => maskHalf_any w1 F v p n _ _ _ _ h (by omega) (by omega) (by omega)
    have HM2 : Hid (∀ w1 v1, WrS w1 F v1 (p ++ mskI (a + 4) (upH ca) (upH cb) fail) n → Calls Try.prog 84 #[.pointer (some ⟨F, 0, none⟩), .int .u32 (loH ca), .int .u32 (loH cb), .int .i64 a, .int .i64 fail] w1 fun e w' => e = .returned (.tuple #[]) ∧ (∃ v', WrS w' F v' (p ++ mskI (a + 4) (upH ca) (upH cb) fail ++ mskI a (loH ca) (loH cb) fail) n) ∧ KW F w1 w') := fun w1 v1 h => maskHalf_any w1 F v1 _ n _ _ _ _ h (by simp; omega) h0 (by omega)
    generalize p ++ mskI (a + 4) (upH ca) (upH cb) fail = q1 at *
    generalize q1 ++ mskI a (loH ca) (loH cb) fail = q2 at *
    have HSd : Hid (WrS (w.alloc (.cells #[.int .i64 1, .int .u64 (ca : Int), .int .u64 (cb : Int)] 93)).drew F v p n) := hS1.keep (Below.refl _ _).drew
    have HKd : Hid (KW F w (w.alloc (.cells #[.int .i64 1, .int .u64 (ca : Int), .int .u64 (cb : Int)] 93)).drew) := hK1.trans (KW.of_below (Below.refl _ _).drew (by simp; omega))
    have HX : Hid (∀ w1, KW F (w.alloc (.cells #[.int .i64 1, .int .u64 (ca : Int), .int .u64 (cb : Int)] 93)).drew w1 → w1.cell? ⟨w.heap.size, 0, none⟩ = some (.int .i64 1) ∧ w1.cell? ⟨w.heap.size, 1, none⟩ = some (.int .u64 (ca : Int)) ∧ w1.cell? ⟨w.heap.size, 2, none⟩ = some (.int .u64 (cb : Int))) := fun w1 h => cell3_obj (h.f _ _ _ _ hX (by decide) (by decide))
    have HPo : Hid (∀ w' v', WrS w' F v' q2 n → KW F w w' → WrPost F q2 n w (.returned (.tuple #[])) w') := fun w' v' h2 h3 => ⟨rfl, ⟨v', h2⟩, h3⟩
    clear hS hba hX hS1 hK1 hml
    go_wp2_with fail
    go_region_with (first
      | (go_at_call 85; refine (HUp.out _ _ (by first | exact hca | exact hcb)).mono ?_; rintro _ _ ⟨rfl, rfl⟩)
      | (go_at_call 84; refine (HM1.out _ HSd.out).mono ?_; rintro _ w1 ⟨rfl, ⟨v1, hS1⟩, hK1⟩))
    all_goals
      obtain ⟨b0, b1, b2⟩ := HX.out w1 hK1
      have HK2 : Hid (KW F w w1.drew) := (HKd.out.trans hK1).trans (KW.of_below (Below.refl _ _).drew (Nat.le_of_lt hS1.lt))
      have HS2 : Hid (WrS w1.drew F v1 q1 n) := hS1.keep (Below.refl _ _).drew
      clear hS1 hK1
      go_wp2_with fail
      go_region_with (first
        | (go_at_call 86; refine (HLo.out _ _ (by first | exact hca | exact hcb)).mono ?_; rintro _ _ ⟨rfl, rfl⟩)
        | (go_at_call 84; refine (HM2.out _ v1 HS2.out).mono ?_; rintro _ w2 ⟨rfl, ⟨v2, hS3⟩, hK3⟩))
      all_goals
        have HF : Hid (WrPost F q2 n w (.returned (.tuple #[])) w2) := HPo.out w2 v2 hS3 (HK2.out.trans hK3)
        clear hS3 hK3
        go_wp2
        go_end0
        exact HF.out
  · by_cases hk2 : kd = 2
    · subst hk2
      have hE : p ++ conI ⟨2, ca, cb⟩ a fail (n + 1) (lowN ⟨2, ca, cb⟩ n + 1) = p ++ lowP ca a fail (n + 1) ++ highP cb a fail (lowN ⟨2, ca, cb⟩ n + 1) := by simp [conI]
      have hNn : conN ⟨2, ca, cb⟩ n = (if cb = 18446744073709551615 then lowN ⟨2, ca, cb⟩ n else lowN ⟨2, ca, cb⟩ n + 1) := by simp [conN]
      have hLn : lowN ⟨2, ca, cb⟩ n = (if ca = 0 then n else n + 1) := rfl
      rw [hE, hNn]
      have hll := lowP_len ca a fail (n + 1)
      have hlb : n ≤ lowN ⟨2, ca, cb⟩ n ∧ lowN ⟨2, ca, cb⟩ n ≤ n + 1 := by rw [hLn]; split <;> omega
      have HM1 : Hid (∀ w1, WrS w1 F v p n → Calls Try.prog 87 #[.pointer (some ⟨F, 0, none⟩), .int .u64 (ca : Int), .int .i64 a, .int .i64 fail] w1 fun e w' => e = .returned (.tuple #[]) ∧ (∃ v', WrS w' F v' (p ++ lowP ca a fail (n + 1)) (lowN ⟨2, ca, cb⟩ n)) ∧ KW F w1 w') := fun w1 h => by rw [hLn]; exact lowBound_any w1 F v p n ca a fail h (by omega) h0 (by omega) hca hn0 (by omega)
      have HM2 : Hid (∀ w1 v1, WrS w1 F v1 (p ++ lowP ca a fail (n + 1)) (lowN ⟨2, ca, cb⟩ n) → Calls Try.prog 88 #[.pointer (some ⟨F, 0, none⟩), .int .u64 (cb : Int), .int .i64 a, .int .i64 fail] w1 fun e w' => e = .returned (.tuple #[]) ∧ (∃ v', WrS w' F v' (p ++ lowP ca a fail (n + 1) ++ highP cb a fail (lowN ⟨2, ca, cb⟩ n + 1)) (if cb = 18446744073709551615 then lowN ⟨2, ca, cb⟩ n else lowN ⟨2, ca, cb⟩ n + 1)) ∧ KW F w1 w') := fun w1 v1 h => highBound_any w1 F v1 _ _ cb a fail h (by simp; omega) h0 (by omega) hcb (by omega) (by omega)
      generalize p ++ lowP ca a fail (n + 1) = q1 at *
      generalize q1 ++ highP cb a fail (lowN ⟨2, ca, cb⟩ n + 1) = q2 at *
      generalize (if cb = 18446744073709551615 then lowN ⟨2, ca, cb⟩ n else lowN ⟨2, ca, cb⟩ n + 1) = n2 at *
      generalize lowN ⟨2, ca, cb⟩ n = n1 at *
      have HX : Hid (∀ w1, KW F (w.alloc (.cells #[.int .i64 2, .int .u64 (ca : Int), .int .u64 (cb : Int)] 93)) w1 → w1.cell? ⟨w.heap.size, 0, none⟩ = some (.int .i64 2) ∧ w1.cell? ⟨w.heap.size, 1, none⟩ = some (.int .u64 (ca : Int)) ∧ w1.cell? ⟨w.heap.size, 2, none⟩ = some (.int .u64 (cb : Int))) := fun w1 h => cell3_obj (h.f _ _ _ _ hX (by decide) (by decide))
      have HPo : Hid (∀ w' v', WrS w' F v' q2 n2 → KW F w w' → WrPost F q2 n2 w (.returned (.tuple #[])) w') := fun w' v' h2 h3 => ⟨rfl, ⟨v', h2⟩, h3⟩
      have HS1 : Hid (WrS (w.alloc (.cells #[.int .i64 2, .int .u64 (ca : Int), .int .u64 (cb : Int)] 93)) F v p n) := hS1
      have HK1 : Hid (KW F w (w.alloc (.cells #[.int .i64 2, .int .u64 (ca : Int), .int .u64 (cb : Int)] 93))) := hK1
      clear hS hba hX hS1 hK1 hll hlb hE hNn hLn HUp HLo
      go_wp2_with fail
      refine (HM1.out _ HS1.out).mono ?_
      rintro _ w1 ⟨rfl, ⟨v1, hS2⟩, hK2⟩
      obtain ⟨b0, b1, b2⟩ := HX.out w1 hK2
      have HK2 : Hid (KW F w w1) := HK1.out.trans hK2
      clear hK2
      go_wp2_with fail
      refine (HM2.out _ v1 hS2).mono ?_
      rintro _ w2 ⟨rfl, ⟨v2, hS3⟩, hK3⟩
      have HF : Hid (WrPost F q2 n2 w (.returned (.tuple #[])) w2) := HPo.out w2 v2 hS3 (HK2.out.trans hK3)
      clear hS2 hS3 hK3
      go_wp2
      go_end0
      exact HF.out
    · have hE : p ++ conI ⟨kd, ca, cb⟩ a fail (n + 1) (lowN ⟨kd, ca, cb⟩ n + 1) = p := by simp [conI, hk1, hk2]
      have hNn : conN ⟨kd, ca, cb⟩ n = n := by simp [conN, hk2]
      rw [hE, hNn]
      have HF : Hid (WrPost F p n w (.returned (.tuple #[])) (w.alloc (.cells #[.int .i64 kd, .int .u64 (ca : Int), .int .u64 (cb : Int)] 93))) := ⟨rfl, ⟨v, hS1⟩, hK1⟩
      clear hS hba hX hS1 hK1 hE hNn HUp HLo
      go_wp2
      go_end0
      exact HF.out
end Go.Proofs.Ytoopomjkapeknaa
namespace Go.Proofs.Ytoopomjkapeknaa
open Go.RowKit
set_option linter.unusedVariables false

theorem consN_snoc (l : List K) (c : K) : ∀ n, consN (l ++ [c]) n = conN c (consN l n) := by
  induction l with
  | nil => intro n; rfl
  | cons x l ih => intro n; simp only [List.cons_append, consN]; exact ih _
theorem consP_snoc (l : List K) (c : K) (fail : Int) : ∀ i n, consP (l ++ [c]) i fail n = consP l i fail n ++ conI c (16 + 8 * (i + (l.length : Int))) fail (consN l n + 1) (lowN c (consN l n) + 1) := by
  induction l with
  | nil => intro i n; simp [consP, consN]
  | cons x l ih =>
    intro i n
    simp only [List.cons_append, consP, consN, List.append_assoc]
    rw [ih]
    congr 2
    simp only [List.length_cons]
    congr 1
    omega
theorem conN_hi (c : K) (n : Int) : conN c n ≤ n + 2 := by
  unfold conN lowN
  repeat' split
  all_goals omega
theorem consN_hi (l : List K) : ∀ n, consN l n ≤ n + 2 * (l.length : Int) := by
  induction l with
  | nil => intro n; simp [consN]
  | cons c l ih => intro n; have := ih (conN c n); have := conN_hi c n; simp only [consN, List.length_cons]; omega
theorem consP_len (l : List K) (fail : Int) : ∀ i n, (consP l i fail n).length ≤ 12 * l.length := by
  induction l with
  | nil => intro i n; simp [consP]
  | cons c l ih => intro i n; have := ih (i + 1) (conN c n); have := conI_len c (16 + 8 * i) fail (n + 1) (lowN c n + 1); simp only [consP, List.length_append, List.length_cons]; omega
theorem take_snoc {α : Type} {l : List α} {k : Nat} (h : k < l.length) (z : α) : l.take (k + 1) = l.take k ++ [l.getD k z] := by
  rw [List.take_succ_eq_append_getElem h, List.getD_eq_getElem?_getD, List.getElem?_eq_getElem h]; rfl

set_option maxRecDepth 100000 in
set_option maxHeartbeats 4000000 in
theorem rule_any (w0 w : World) (F : Nat) (v : Value) (p : List It) (n : Int) (r : List K) (a : Option Addr) (cap : Nat) (fail : Int) (hS : WrS w F v p n) (hn : p.length ≤ 700000) (hs : LSrc 3 PK w0 a r) (hb0 : Below w0.heap.size w0 w) (hF : w0.heap.size ≤ F) (ho : okR r) (hr : r.length ≤ 6) (hn0 : 0 ≤ n) (hn1 : n ≤ 700000) :
    Calls Try.prog 79 #[.pointer (some ⟨F, 0, none⟩), .agg #[.slice a r.length cap], .int .i64 fail] w fun e w' => WrPost F (p ++ ruleP r fail n) (consN r n) w e w' := by
  have hlt := hS.lt
  have HC : Hid (∀ k w1 v1, k < r.length → WrS w1 F v1 (p ++ consP (r.take k) 0 fail n) (consN (r.take k) n) → Calls Try.prog 82 #[.pointer (some ⟨F, 0, none⟩), conV (r.getD k K.zero), .int .i64 (16 + 8 * (k : Int)), .int .i64 fail] w1 fun e w' => e = .returned (.tuple #[]) ∧ (∃ v', WrS w' F v' (p ++ consP (r.take (k + 1)) 0 fail n) (consN (r.take (k + 1)) n)) ∧ KW F w1 w') := fun k w1 v1 hk h => by
    have hl : (r.take k).length = k := by simp; omega
    have h1 := consP_len (r.take k) fail 0 n
    have h2 := consN_hi (r.take k) n
    have h3 := consN_le (r.take k) n
    rw [hl] at h1 h2
    have e1 : p ++ consP (r.take (k + 1)) 0 fail n = p ++ consP (r.take k) 0 fail n ++ conI (r.getD k K.zero) (16 + 8 * (k : Int)) fail (consN (r.take k) n + 1) (lowN (r.getD k K.zero) (consN (r.take k) n) + 1) := by
      rw [take_snoc hk K.zero, consP_snoc, hl, List.append_assoc, Int.zero_add]
    have e2 : consN (r.take (k + 1)) n = conN (r.getD k K.zero) (consN (r.take k) n) := by rw [take_snoc hk K.zero, consN_snoc]
    rw [e1, e2]
    exact condition_any w1 F v1 _ _ (r.getD k K.zero) (16 + 8 * (k : Int)) fail h (by simp only [List.length_append]; omega) (by omega) (by omega) (okR_at ho k) (by omega) (by omega)
  have HI : Hid (∀ w1 v1, WrS w1 F v1 (p ++ consP r 0 fail n) (consN r n) → Calls Try.prog 41 #[.pointer (some ⟨F, 0, none⟩), .int .u16 6, .int .u32 2147418112] w1 fun e w' => e = .returned (.tuple #[]) ∧ (∃ v', WrS w' F v' (p ++ ruleP r fail n) (consN r n)) ∧ KW F w1 w') := fun w1 v1 h => by
    have h1 := consP_len r fail 0 n
    have := ins_any w1 F v1 (p ++ consP r 0 fail n) (consN r n) 6 2147418112 h (by simp only [List.length_append]; omega)
    rw [List.append_assoc] at this
    exact this
  have HP : Hid (∀ wr, KW F w wr → ∀ i, i < r.length → ∃ b o, a = some ⟨b, o, none⟩ ∧ b < wr.heap.size ∧ PK wr b (o + i * 3) (r.getD i K.zero)) := fun wr hB i hi => (hs.below PK.stays (hb0.trans (hB.b.mono hF))).at hi K.zero
  have HPo : Hid (∀ w' v', WrS w' F v' (p ++ ruleP r fail n) (consN r n) → KW F w w' → WrPost F (p ++ ruleP r fail n) (consN r n) w (.returned (.tuple #[])) w') := fun w' v' h2 h3 => ⟨rfl, ⟨v', h2⟩, h3⟩
  have HT0 : Hid (p ++ consP (r.take 0) 0 fail n = p ∧ consN (r.take 0) n = n) := ⟨by rw [List.take_zero]; exact List.append_nil _, by rw [List.take_zero]; rfl⟩
  have HTn : Hid (p ++ consP (r.take r.length) 0 fail n = p ++ consP r 0 fail n ∧ consN (r.take r.length) n = consN r n) := by show _ ∧ _; rw [List.take_length]; exact ⟨rfl, rfl⟩
  generalize p ++ ruleP r fail n = pr at *
  generalize p ++ consP r 0 fail n = pc at *
  generalize consN r n = nr at *
  obtain ⟨pk, hpk⟩ : ∃ pk : Nat → List It, ∀ k, p ++ consP (r.take k) 0 fail n = pk k := ⟨_, fun _ => rfl⟩
  obtain ⟨nk, hnk⟩ : ∃ nk : Nat → Int, ∀ k, consN (r.take k) n = nk k := ⟨_, fun _ => rfl⟩
  simp only [hpk, hnk] at HC HT0 HTn
  clear hpk hnk ho hs hb0
  generalize r.length = m at *
  have hba : Below w.heap.size w (w.alloc (.cells #[.slice a m cap] 64)) := (Below.refl _ _).alloc (Nat.le_refl _) _
  have hS1 := hS.keep hba
  have hK1 : KW F w (w.alloc (.cells #[.slice a m cap] 64)) := KW.of_below hba (Nat.le_of_lt hlt)
  have HS1 : Hid (WrS (w.alloc (.cells #[.slice a m cap] 64)) F v p n) := hS1
  have HK1 : Hid (KW F w (w.alloc (.cells #[.slice a m cap] 64))) := hK1
  clear hS hS1 hK1 hba
  go_enter Try.func79, Try.ntmps79
  go_wp2_with fail
  go_loopw [11] (fun i wr => ∃ (k : Nat) (v1 : Value), k ≤ m ∧ i = .int .i64 k ∧ Hid (WrS wr F v1 (pk k) (nk k)) ∧ Hid (KW F w wr)) (fun i _ => m - (intOf i).toNat)
  case atStart => exact ⟨0, v, by omega, rfl, by show WrS _ _ _ _ _; rw [HT0.out.1, HT0.out.2]; exact HS1.out, HK1.out⟩
  case round =>
    obtain ⟨k, v1, hk, rfl, hW, hK⟩ := hrel
    by_cases hkn : k < m
    · obtain ⟨b, o, rfl, hltb, c0, c1, c2⟩ := HP.out wr hK.out k hkn
      have hkn' : (k : Int) < (m : Int) := by omega
      have hw8 : IntKind.i64.wrap (8 * (k : Int)) = 8 * (k : Int) := by rw [IntKind.wrap_i64]; omega
      have hw16 : IntKind.i64.wrap (16 + 8 * (k : Int)) = 16 + 8 * (k : Int) := by rw [IntKind.wrap_i64]; omega
      have HC1 : Hid (∀ w1 v1, WrS w1 F v1 (pk k) (nk k) → Calls Try.prog 82 #[.pointer (some ⟨F, 0, none⟩), conV (r.getD k K.zero), .int .i64 (16 + 8 * (k : Int)), .int .i64 fail] w1 fun e w' => e = .returned (.tuple #[]) ∧ (∃ v', WrS w' F v' (pk (k + 1)) (nk (k + 1))) ∧ KW F w1 w') := fun w1 v1 h => HC.out k w1 v1 hkn h
      generalize r.getD k K.zero = c at *
      obtain ⟨ck, ca, cb⟩ := c
      simp only at c0 c1 c2
      simp only [conV] at HC1
      have hbw : Below wr.heap.size wr (wr.alloc (.cells #[.int .i64 ck, .int .u64 (ca : Int), .int .u64 (cb : Int)] 93)) := (Below.refl _ _).alloc (Nat.le_refl _) _
      have HW2 : Hid (WrS (wr.alloc (.cells #[.int .i64 ck, .int .u64 (ca : Int), .int .u64 (cb : Int)] 93)) F v1 (pk k) (nk k)) := hW.out.keep hbw
      have HK2 : Hid (KW F w (wr.alloc (.cells #[.int .i64 ck, .int .u64 (ca : Int), .int .u64 (cb : Int)] 93))) := hK.out.trans (KW.of_below hbw (Nat.le_of_lt hW.out.lt))
      clear HC HP HI HPo HT0 HTn hW hK hbw HS1 HK1
      go_wp2_with fail
      refine (HC1.out _ v1 HW2.out).mono ?_
      rintro _ w1 ⟨rfl, ⟨v2, hS2⟩, hK3⟩
      have HW3 : Hid (WrS w1 F v2 (pk (k + 1)) (nk (k + 1))) := hS2
      have HK3 : Hid (KW F w w1) := HK2.out.trans hK3
      clear hS2 hK3 HC1 HW2 HK2 c0 c1 c2
      go_wp2
      go_roundw
      case rel => exact ⟨k + 1, v2, by omega, by go_num, HW3, HK3⟩
      case measure => simp [intOf]; omega
    · have hk' : k = m := by omega
      subst hk'
      have hWk := hW.out
      rw [HTn.out.1, HTn.out.2] at hWk
      clear HC HP HT0 HTn HS1 HK1 hW
      go_wp2_with fail
      refine (HI.out _ v1 hWk).mono ?_
      rintro _ w1 ⟨rfl, ⟨v2, hS2⟩, hK3⟩
      have HF : Hid (WrPost F pr nr w (.returned (.tuple #[])) w1) := HPo.out w1 v2 hS2 (hK.out.trans hK3)
      clear hS2 hK3 HI HPo hWk hK
      go_wp2
      go_end0
      exact HF.out
end Go.Proofs.Ytoopomjkapeknaa
namespace Go.Proofs.Ytoopomjkapeknaa
open Go.RowKit
set_option linter.unusedVariables false

/-- rules with a rule behind each -/
def preN : List (List K) → Int → Int
  | [], n => n
  | r :: l, n => preN l (consN r (n + 1))
def preP : List (List K) → Int → List It
  | [], _ => []
  | r :: l, n => (ruleP r (n + 1) (n + 1) ++ [itLb (n + 1)]) ++ preP l (consN r (n + 1))
theorem preN_snoc (l : List (List K)) (r : List K) : ∀ n, preN (l ++ [r]) n = consN r (preN l n + 1) := by
  induction l with
  | nil => intro n; rfl
  | cons x l ih => intro n; simp only [List.cons_append, preN]; exact ih _
theorem preP_snoc (l : List (List K)) (r : List K) : ∀ n, preP (l ++ [r]) n = preP l n ++ (ruleP r (preN l n + 1) (preN l n + 1) ++ [itLb (preN l n + 1)]) := by
  induction l with
  | nil => intro n; simp [preP, preN]
  | cons x l ih => intro n; simp only [List.cons_append, preP, preN, List.append_assoc]; rw [ih]
theorem bodyP_last (l : List (List K)) (r : List K) : ∀ n, bodyP (l ++ [r]) n = preP l n ++ ruleP r 0 (preN l n) ∧ bodyN (l ++ [r]) n = consN r (preN l n) := by
  induction l with
  | nil => intro n; exact ⟨rfl, rfl⟩
  | cons x l ih =>
    intro n
    obtain ⟨h1, h2⟩ := ih (consN x (n + 1))
    cases l with
    | nil => exact ⟨by simp only [List.nil_append] at h1; simp only [List.cons_append, List.nil_append, bodyP, preP, preN, List.append_nil], by simp only [List.cons_append, List.nil_append, bodyN, preN]⟩
    | cons y l =>
      simp only [List.cons_append] at h1 h2
      refine ⟨?_, ?_⟩
      · simp only [List.cons_append, bodyP]
        rw [h1]
        simp only [preP, preN, List.append_assoc]
      · simp only [List.cons_append, bodyN]
        rw [h2]
        simp only [preN]
theorem preN_le (l : List (List K)) : ∀ n, n ≤ preN l n := by
  induction l with
  | nil => intro n; exact Int.le_refl _
  | cons r l ih => intro n; have := ih (consN r (n + 1)); have := consN_le r (n + 1); simp only [preN]; omega
theorem preN_hi (l : List (List K)) (h : ∀ r ∈ l, r.length ≤ 6) : ∀ n, preN l n ≤ n + 13 * (l.length : Int) := by
  induction l with
  | nil => intro n; simp [preN]
  | cons r l ih =>
    intro n
    have h1 := ih (fun x hx => h x (List.mem_cons_of_mem _ hx)) (consN r (n + 1))
    have h2 := consN_hi r (n + 1)
    have h3 := h r (List.mem_cons_self ..)
    simp only [preN, List.length_cons]; omega
theorem preP_len (l : List (List K)) (h : ∀ r ∈ l, r.length ≤ 6) : ∀ n, (preP l n).length ≤ 74 * l.length := by
  induction l with
  | nil => intro n; simp [preP]
  | cons r l ih =>
    intro n
    have h1 := ih (fun x hx => h x (List.mem_cons_of_mem _ hx)) (consN r (n + 1))
    have h2 := consP_len r (n + 1) 0 (n + 1)
    have h3 := h r (List.mem_cons_self ..)
    simp only [preP, ruleP, List.length_append, List.length_cons, List.length_nil]; omega

theorem cell1_obj {w : World} {b : Nat} {x : Value} {t : TypeId} {f : Nat × Nat} (h : w.heap[b]? = some (.cells #[x] t f)) : w.cell? ⟨b, 0, none⟩ = some x := by
  unfold World.cell?
  simp only [h]
  rfl

set_option maxRecDepth 100000 in
set_option maxHeartbeats 4000000 in
theorem wrules_any (w0 w : World) (F : Nat) (v : Value) (p : List It) (n : Int) (l : List (List K)) (a : Option Addr) (cap : Nat) (hS : WrS w F v p n) (hn : p.length ≤ 500000) (hs : LSrc 1 PR w0 a l) (hb0 : Below w0.heap.size w0 w) (hF : w0.heap.size ≤ F) (ho : okRs l) (h6 : ∀ r ∈ l, r.length ≤ 6) (hl1 : 1 ≤ l.length) (hl2 : l.length ≤ 1000) (hcap : l.length ≤ cap) (hn0 : 0 ≤ n) (hn1 : n ≤ 500000) :
    Calls Try.prog 72 #[.pointer (some ⟨F, 0, none⟩), .slice a l.length cap] w fun e w' => WrPost F (p ++ bodyP l n) (bodyN l n) w e w' := by
  have hlt := hS.lt
  obtain ⟨m, hm⟩ : ∃ m, l.length = m + 1 := ⟨l.length - 1, by omega⟩
  have hlast : l = l.take m ++ [l.getD m []] := by
    have h1 := take_snoc (l := l) (k := m) (by omega) []
    rw [← hm, List.take_length] at h1
    exact h1
  have h6t : ∀ k, ∀ r ∈ l.take k, r.length ≤ 6 := fun k r hr => h6 r (List.mem_of_mem_take hr)
  have h6g : ∀ k, (l.getD k []).length ≤ 6 := fun k => by
    rw [List.getD_eq_getElem?_getD]
    cases e : l[k]? with
    | none => simp
    | some r => exact h6 r (List.mem_of_getElem? e)
  have hog : ∀ k, okR (l.getD k []) := fun k => by
    rw [List.getD_eq_getElem?_getD]
    cases e : l[k]? with
    | none => intro c hc; simp at hc
    | some r => exact ho r (List.mem_of_getElem? e)
  have HN : Hid (∀ k w1 v1, k ≤ m → WrS w1 F v1 (p ++ preP (l.take k) n) (preN (l.take k) n) → Calls Try.prog 58 #[.pointer (some ⟨F, 0, none⟩)] w1 fun e w' => e = .returned (.int .i64 (preN (l.take k) n + 1)) ∧ WrS w' F v1 (p ++ preP (l.take k) n) (preN (l.take k) n + 1) ∧ KW F w1 w') := fun k w1 v1 hk h => by
    have g1 := preN_le (l.take k) n
    have g2 := preN_hi (l.take k) (h6t k) n
    have hl : (l.take k).length = k := by simp; omega
    rw [hl] at g2
    exact newLabel_any w1 F v1 _ _ h (by omega) (by omega)
  have HR : Hid (∀ k w1 v1 a' cap', k < m → LSrc 3 PK w0 a' (l.getD k []) → Below w0.heap.size w0 w1 → WrS w1 F v1 (p ++ preP (l.take k) n) (preN (l.take k) n + 1) → Calls Try.prog 79 #[.pointer (some ⟨F, 0, none⟩), .agg #[.slice a' (l.getD k []).length cap'], .int .i64 (preN (l.take k) n + 1)] w1 fun e w' => e = .returned (.tuple #[]) ∧ (∃ v', WrS w' F v' (p ++ preP (l.take k) n ++ ruleP (l.getD k []) (preN (l.take k) n + 1) (preN (l.take k) n + 1)) (preN (l.take (k + 1)) n)) ∧ KW F w1 w') := fun k w1 v1 a' cap' hk hsk hb h => by
    have g1 := preN_le (l.take k) n
    have g2 := preN_hi (l.take k) (h6t k) n
    have g3 := preP_len (l.take k) (h6t k) n
    have hl : (l.take k).length = k := by simp; omega
    rw [hl] at g2 g3
    have e : preN (l.take (k + 1)) n = consN (l.getD k []) (preN (l.take k) n + 1) := by rw [take_snoc (by omega) [], preN_snoc]
    rw [e]
    exact rule_any w0 w1 F v1 _ _ (l.getD k []) a' cap' _ h (by simp only [List.length_append]; omega) hsk hb hF (hog k) (h6g k) (by omega) (by omega)
  have HB : Hid (∀ k w1 v1, k < m → WrS w1 F v1 (p ++ preP (l.take k) n ++ ruleP (l.getD k []) (preN (l.take k) n + 1) (preN (l.take k) n + 1)) (preN (l.take (k + 1)) n) → Calls Try.prog 40 #[.pointer (some ⟨F, 0, none⟩), .int .i64 (preN (l.take k) n + 1)] w1 fun e w' => e = .returned (.tuple #[]) ∧ (∃ v', WrS w' F v' (p ++ preP (l.take (k + 1)) n) (preN (l.take (k + 1)) n)) ∧ KW F w1 w') := fun k w1 v1 hk h => by
    have g3 := preP_len (l.take k) (h6t k) n
    have g4 := consP_len (l.getD k []) (preN (l.take k) n + 1) 0 (preN (l.take k) n + 1)
    have g5 := h6g k
    have hl : (l.take k).length = k := by simp; omega
    rw [hl] at g3
    have e : p ++ preP (l.take (k + 1)) n = p ++ preP (l.take k) n ++ ruleP (l.getD k []) (preN (l.take k) n + 1) (preN (l.take k) n + 1) ++ [itLb (preN (l.take k) n + 1)] := by rw [take_snoc (by omega) [], preP_snoc]; simp only [List.append_assoc]
    rw [e]
    exact label_any w1 F v1 _ _ _ h (by simp only [List.length_append, ruleP, List.length_cons, List.length_nil]; omega)
  have HL : Hid (∀ w1 v1 a' cap', LSrc 3 PK w0 a' (l.getD m []) → Below w0.heap.size w0 w1 → WrS w1 F v1 (p ++ preP (l.take m) n) (preN (l.take m) n) → Calls Try.prog 79 #[.pointer (some ⟨F, 0, none⟩), .agg #[.slice a' (l.getD m []).length cap'], .int .i64 0] w1 fun e w' => e = .returned (.tuple #[]) ∧ (∃ v', WrS w' F v' (p ++ bodyP l n) (bodyN l n)) ∧ KW F w1 w') := fun w1 v1 a' cap' hsk hb h => by
    have g1 := preN_le (l.take m) n
    have g2 := preN_hi (l.take m) (h6t m) n
    have g3 := preP_len (l.take m) (h6t m) n
    have hl : (l.take m).length = m := by simp; omega
    rw [hl] at g2 g3
    obtain ⟨e1, e2⟩ := bodyP_last (l.take m) (l.getD m []) n
    rw [← hlast] at e1 e2
    rw [e1, e2, ← List.append_assoc]
    exact rule_any w0 w1 F v1 _ _ (l.getD m []) a' cap' _ h (by simp only [List.length_append]; omega) hsk hb hF (hog m) (h6g m) (by omega) (by omega)
  have HP : Hid (∀ wr, KW F w wr → ∀ i, i < m + 1 → ∃ b o a' cap', a = some ⟨b, o, none⟩ ∧ b < wr.heap.size ∧ wr.cell? ⟨b, o + i, none⟩ = some (.slice a' (l.getD i []).length cap') ∧ LSrc 3 PK w0 a' (l.getD i []) ∧ Below w0.heap.size w0 wr) := fun wr hB i hi => by
    obtain ⟨b, o, rfl, hb, a', cap', hc, hl⟩ := hs.at (i := i) (by omega) []
    have hbw := hb0.trans (hB.b.mono hF)
    rw [Nat.mul_one] at hc
    exact ⟨b, o, a', cap', rfl, Nat.lt_of_lt_of_le hb hbw.size, (hbw.cell (p := ⟨b, _, none⟩) hb).trans hc, hl, hbw⟩
  have HPo : Hid (∀ w' v', WrS w' F v' (p ++ bodyP l n) (bodyN l n) → KW F w w' → WrPost F (p ++ bodyP l n) (bodyN l n) w (.returned (.tuple #[])) w') := fun w' v' h2 h3 => ⟨rfl, ⟨v', h2⟩, h3⟩
  have HT0 : Hid (p ++ preP (l.take 0) n = p ∧ preN (l.take 0) n = n) := ⟨by rw [List.take_zero]; exact List.append_nil _, by rw [List.take_zero]; rfl⟩
  have HS0 : Hid (WrS w F v p n) := hS
  obtain ⟨b, o, rfl⟩ : ∃ b o, a = some ⟨b, o, none⟩ := by
    obtain ⟨b, o, _, _, e, _⟩ := HP.out w (KW.refl _ _) 0 (by omega)
    exact ⟨b, o, e⟩
  generalize p ++ bodyP l n = pb at *
  generalize bodyN l n = nb at *
  obtain ⟨pk, hpk⟩ : ∃ pk : Nat → List It, ∀ k, p ++ preP (l.take k) n = pk k := ⟨_, fun _ => rfl⟩
  obtain ⟨nk, hnk⟩ : ∃ nk : Nat → Int, ∀ k, preN (l.take k) n = nk k := ⟨_, fun _ => rfl⟩
  simp only [hpk, hnk] at HN HR HB HL HT0
  obtain ⟨pr, hpr⟩ : ∃ pr : Nat → List It, ∀ k, pk k ++ ruleP (l.getD k []) (nk k + 1) (nk k + 1) = pr k := ⟨_, fun _ => rfl⟩
  simp only [hpr] at HR HB
  rw [hm] at hcap ⊢
  have hm2 : m ≤ 999 := by omega
  clear hpk hnk hpr ho hs hb0 hS hlast h6t h6g hog h6 hm hl1
  have hmc : (m : Int) ≤ (cap : Int) := by omega
  have hw64 : wrap64 (m : Int) = (m : Int) := by unfold wrap64; omega
  go_enter Try.func72, Try.ntmps72
  go_wp2_with fail
  go_loopw [15] (fun i wr => ∃ (k : Nat) (v1 : Value), k ≤ m ∧ i = .int .i64 k ∧ Hid (WrS wr F v1 (pk k) (nk k)) ∧ Hid (KW F w wr)) (fun i _ => m - (intOf i).toNat)
  case atStart => exact ⟨0, v, by omega, rfl, by show WrS _ _ _ _ _; rw [HT0.out.1, HT0.out.2]; exact HS0.out, KW.refl _ _⟩
  case round =>
    obtain ⟨k, v1, hk, rfl, hW, hK⟩ := hrel
    by_cases hkn : k < m
    · obtain ⟨b', o', a', cap', e, hltb, c0, hsk, _⟩ := HP.out wr hK.out k (by omega)
      cases e
      have hkn' : (k : Int) < (m : Int) := by omega
      have hbw : ∀ ob, Below wr.heap.size wr (wr.alloc ob) := fun ob => (Below.refl _ _).alloc (Nat.le_refl _) ob
      have HN1 : Hid (∀ w1 v1, WrS w1 F v1 (pk k) (nk k) → Calls Try.prog 58 #[.pointer (some ⟨F, 0, none⟩)] w1 fun e w' => e = .returned (.int .i64 (nk k + 1)) ∧ WrS w' F v1 (pk k) (nk k + 1) ∧ KW F w1 w') := fun w1 v1 h => HN.out k w1 v1 hk h
      have HR1 : Hid (∀ w1 v1, Below w0.heap.size w0 w1 → WrS w1 F v1 (pk k) (nk k + 1) → Calls Try.prog 79 #[.pointer (some ⟨F, 0, none⟩), .agg #[.slice a' (l.getD k []).length cap'], .int .i64 (nk k + 1)] w1 fun e w' => e = .returned (.tuple #[]) ∧ (∃ v', WrS w' F v' (pr k) (nk (k + 1))) ∧ KW F w1 w') := fun w1 v1 hb h => HR.out k w1 v1 a' cap' hkn hsk hb h
      have HB1 : Hid (∀ w1 v1, WrS w1 F v1 (pr k) (nk (k + 1)) → Calls Try.prog 40 #[.pointer (some ⟨F, 0, none⟩), .int .i64 (nk k + 1)] w1 fun e w' => e = .returned (.tuple #[]) ∧ (∃ v', WrS w' F v' (pk (k + 1)) (nk (k + 1))) ∧ KW F w1 w') := fun w1 v1 h => HB.out k w1 v1 hkn h
      have HBw : Hid (∀ wr, KW F w wr → Below w0.heap.size w0 wr) := fun wr h => by
        obtain ⟨_, _, _, _, _, _, _, _, hx⟩ := HP.out wr h 0 (by omega)
        exact hx
      generalize (l.getD k []).length = rl at *
      have hX := heap_alloc_new wr (.cells #[.slice a' rl cap'] 64)
      have HX : Hid (∀ w1, KW F (wr.alloc (.cells #[.slice a' rl cap'] 64)) w1 → w1.cell? ⟨wr.heap.size, 0, none⟩ = some (.slice a' rl cap')) := fun w1 h => cell1_obj (h.f _ _ _ _ hX (by decide) (by decide))
      have HW2 : Hid (WrS (wr.alloc (.cells #[.slice a' rl cap'] 64)) F v1 (pk k) (nk k)) := hW.out.keep (hbw _)
      have HK2 : Hid (KW F w (wr.alloc (.cells #[.slice a' rl cap'] 64))) := hK.out.trans (KW.of_below (hbw _) (Nat.le_of_lt hW.out.lt))
      clear HN HR HB HL HPo HT0 HS0 hW hK hbw hX hsk
      go_wp2_with fail
      refine (HN1.out _ v1 HW2.out).mono ?_
      rintro _ w1 ⟨rfl, hS2, hK3⟩
      have b1 := HX.out w1 hK3
      have HW3 : Hid (WrS w1 F v1 (pk k) (nk k + 1)) := hS2
      have HK3 : Hid (KW F w w1) := HK2.out.trans hK3
      clear hS2 hK3 HN1 HW2 HK2 HX c0
      go_wp2_with fail
      refine (HR1.out _ v1 (HBw.out _ HK3.out) HW3.out).mono ?_
      rintro _ w2 ⟨rfl, ⟨v2, hS3⟩, hK4⟩
      have HK4 : Hid (KW F w w2) := HK3.out.trans hK4
      clear hK4 HR1 HW3 HK3 b1
      go_wp2_with fail
      refine (HB1.out _ v2 hS3).mono ?_
      rintro _ w3 ⟨rfl, ⟨v3, hS4⟩, hK5⟩
      have HK5 : Hid (KW F w w3) := HK4.out.trans hK5
      have HW5 : Hid (WrS w3 F v3 (pk (k + 1)) (nk (k + 1))) := hS4
      clear hS3 hS4 hK5 HK4 HB1
      go_wp2
      go_roundw
      case rel => exact ⟨k + 1, v3, by omega, by go_num, HW5, HK5⟩
      case measure => simp [intOf]; omega
    · have hk' : k = m := by omega
      subst hk'
      obtain ⟨b', o', a', cap', e, hltb, c0, hsk, hbx⟩ := HP.out wr hK.out k (by omega)
      cases e
      have HL1 : Hid (∀ w1 v1, Below w0.heap.size w0 w1 → WrS w1 F v1 (pk k) (nk k) → Calls Try.prog 79 #[.pointer (some ⟨F, 0, none⟩), .agg #[.slice a' (l.getD k []).length cap'], .int .i64 0] w1 fun e w' => e = .returned (.tuple #[]) ∧ (∃ v', WrS w' F v' pb nb) ∧ KW F w1 w') := fun w1 v1 hb h => HL.out w1 v1 a' cap' hsk hb h
      have hk1 : (k : Int) < (k : Int) + 1 := by omega
      have hk2 : (k : Int) < ((k + 1 : Nat) : Int) := by omega
      generalize (l.getD k []).length = rl at *
      clear HN HR HB HL HT0 HS0 hsk HP
      go_wp2_with fail
      refine (HL1.out _ v1 hbx hW.out).mono ?_
      rintro _ w1 ⟨rfl, ⟨v2, hS2⟩, hK3⟩
      have HF : Hid (WrPost F pb nb w (.returned (.tuple #[])) w1) := HPo.out w1 v2 hS2 (hK.out.trans hK3)
      clear hS2 hK3 HL1 HPo hW hK
      go_wp2
      go_end0
      exact HF.out
end Go.Proofs.Ytoopomjkapeknaa
namespace Go.Proofs.Ytoopomjkapeknaa
open Go.RowKit
set_option linter.unusedVariables false

theorem bodyN_hi (l : List (List K)) (h : ∀ r ∈ l, r.length ≤ 6) : ∀ n, bodyN l n ≤ n + 13 * (l.length : Int) := by
  induction l with
  | nil => intro n; simp [bodyN]
  | cons r l ih =>
    intro n
    have h3 := h r (List.mem_cons_self ..)
    cases l with
    | nil => have := consN_hi r n; simp only [bodyN, List.length_cons, List.length_nil]; omega
    | cons q l =>
      have h1 := ih (fun x hx => h x (List.mem_cons_of_mem _ hx)) (consN r (n + 1))
      have h2 := consN_hi r (n + 1)
      simp only [bodyN, List.length_cons] at h1 ⊢; omega
theorem bodyP_len (l : List (List K)) (h : ∀ r ∈ l, r.length ≤ 6) : ∀ n, (bodyP l n).length ≤ 74 * l.length := by
  induction l with
  | nil => intro n; simp [bodyP]
  | cons r l ih =>
    intro n
    have h3 := h r (List.mem_cons_self ..)
    cases l with
    | nil => have := consP_len r 0 0 n; simp only [bodyP, ruleP, List.length_append, List.length_cons, List.length_nil]; omega
    | cons q l =>
      have h1 := ih (fun x hx => h x (List.mem_cons_of_mem _ hx)) (consN r (n + 1))
      have h2 := consP_len r (n + 1) 0 (n + 1)
      simp only [bodyP, ruleP, List.length_append, List.length_cons, List.length_nil] at h1 ⊢; omega
/-- an entry that the writer takes -/
def WrE (e : E) : Prop := okRs e.rules ∧ (∀ r ∈ e.rules, r.length ≤ 6) ∧ 1 ≤ e.rules.length ∧ e.rules.length ≤ 1000
def sumR (es : List E) : Nat := (es.map (fun e => e.rules.length)).sum
theorem sumR_split (es : List E) (k : Nat) : sumR es = sumR (es.take k) + sumR (es.drop k) := by
  unfold sumR
  rw [← List.sum_append, ← List.map_append, List.take_append_drop]
theorem sumR_get (es : List E) (i : Nat) : (es.getD i E.zero).rules.length ≤ sumR es := by
  induction es generalizing i with
  | nil => simp [E.zero]
  | cons e es ih =>
    cases i with
    | zero => simp [sumR]
    | succ i => have := ih i; simp [sumR] at this ⊢; omega
theorem WrE_get {es : List E} (h : ∀ e ∈ es, WrE e) {i : Nat} (hi : i < es.length) : WrE (es.getD i E.zero) := by
  rw [List.getD_eq_getElem?_getD, List.getElem?_eq_getElem hi]
  exact h _ (List.getElem_mem hi)
theorem tree_facts (k : Nat) : ∀ (es : List E) (n : Int), (∀ e ∈ es, WrE e) → 1 ≤ es.length → es.length ≤ k → (treeP k es n).length + 2 ≤ 74 * sumR es + 3 * es.length ∧ treeN k es n + 1 ≤ n + 13 * (sumR es : Int) + (es.length : Int) := by
  induction k with
  | zero => intro es n h h1 h2; omega
  | succ k ih =>
    intro es n h h1 h2
    simp only [treeP, treeN]
    by_cases hl : es.length ≤ 1
    · rw [if_pos hl, if_pos hl]
      have hw := WrE_get h (i := 0) (by omega)
      have g1 := bodyP_len _ hw.2.1 n
      have g2 := bodyN_hi _ hw.2.1 n
      have g3 := sumR_get es 0
      simp only [List.length_cons]
      omega
    · rw [if_neg hl, if_neg hl]
      have ht : (es.take (es.length / 2)).length = es.length / 2 := by simp; omega
      have hd : (es.drop (es.length / 2)).length = es.length - es.length / 2 := by simp
      obtain ⟨a1, a2⟩ := ih (es.take (es.length / 2)) (n + 1) (fun e he => h e (List.mem_of_mem_take he)) (by omega) (by omega)
      obtain ⟨b1, b2⟩ := ih (es.drop (es.length / 2)) (treeN k (es.take (es.length / 2)) (n + 1)) (fun e he => h e (List.mem_of_mem_drop he)) (by omega) (by omega)
      have hs := sumR_split es (es.length / 2)
      rw [ht] at a1 a2
      rw [hd] at b1 b2
      simp only [List.length_append, List.length_cons, List.length_nil]
      omega
theorem LSrc.front {α : Type} {k : Nat} {P : World → Nat → Nat → α → Prop} {w : World} {a : Option Addr} {l : List α} (h : LSrc k P w a l) (n : Nat) : LSrc k P w a (l.take n) := by
  rcases h with rfl | ⟨b, o, rfl, hb, hl⟩
  · exact .inl (by simp)
  · refine .inr ⟨b, o, rfl, hb, fun i hi => ?_⟩
    have := hl i (by simp at hi; omega)
    simpa using this
theorem LSrc.back {α : Type} {k : Nat} {P : World → Nat → Nat → α → Prop} {w : World} {b o : Nat} {l : List α} (h : LSrc k P w (some ⟨b, o, none⟩) l) (n : Nat) : LSrc k P w (some ⟨b, o + n * k, none⟩) (l.drop n) := by
  rcases h with rfl | ⟨b', o', e, hb, hl⟩
  · exact .inl (by simp)
  · cases e
    refine .inr ⟨b, o + n * k, rfl, hb, fun i hi => ?_⟩
    have := hl (n + i) (by simp at hi; omega)
    rw [Nat.add_mul, ← Nat.add_assoc] at this
    simpa using this

/-- an entry at an address, its rules within their capacity -/
def PEC (w : World) (b o : Nat) (e : E) : Prop := w.cell? ⟨b, o, none⟩ = some (.int .u32 e.arch) ∧ w.cell? ⟨b, o + 1, none⟩ = some (.int .u32 e.nr) ∧ ∃ a cap, w.cell? ⟨b, o + 2, none⟩ = some (.slice a e.rules.length cap) ∧ e.rules.length ≤ cap ∧ LSrc 1 PR w a e.rules

set_option maxRecDepth 100000 in
set_option maxHeartbeats 4000000 in
theorem tree_any (w0 : World) (F : Nat) (hF : w0.heap.size ≤ F) (k : Nat) : ∀ (w : World) (v : Value) (p : List It) (n : Int) (es : List E) (b o cap : Nat), WrS w F v p n → LSrc 3 PEC w0 (some ⟨b, o, none⟩) es → Below w0.heap.size w0 w → (∀ e ∈ es, WrE e) → 1 ≤ es.length → es.length ≤ k → es.length ≤ cap → p.length + (74 * sumR es + 3 * es.length) ≤ 400000 → 0 ≤ n → n + 13 * (sumR es : Int) + (es.length : Int) ≤ 400000 →
    Calls Try.prog 60 #[.pointer (some ⟨F, 0, none⟩), .slice (some ⟨b, o, none⟩) es.length cap] w fun e w' => WrPost F (p ++ treeP k es n) (treeN k es n) w e w' := by
  induction k with
  | zero => intro w v p n es b o cap _ _ _ _ h1 h2; omega
  | succ k ih =>
    intro w v p n es b o cap hS hs hb0 hE hl1 hlk hcap hpb hn0 hnb
    by_cases hone : es.length ≤ 1
    · have hlen : es.length = 1 := by omega
      have hw := WrE_get hE (i := 0) (by omega)
      have g3 := sumR_get es 0
      obtain ⟨b', o', e, hb, c0, c1, a', cap', c2, hcc, hls⟩ := hs.at (i := 0) (by omega) E.zero
      cases e
      simp only [Nat.zero_mul, Nat.add_zero] at c0 c1 c2
      have HX : Hid (∀ w1, KW F w w1 → Below w0.heap.size w0 w1 ∧ w1.cell? ⟨b, o + 1, none⟩ = some (.int .u32 (es.getD 0 E.zero).nr) ∧ w1.cell? ⟨b, o + 2, none⟩ = some (.slice a' (es.getD 0 E.zero).rules.length cap')) := fun w1 h => by
        have hx := hb0.trans (h.b.mono hF)
        exact ⟨hx, (hx.cell (p := ⟨b, _, none⟩) hb).trans c1, (hx.cell (p := ⟨b, _, none⟩) hb).trans c2⟩
      have hE1 : p ++ treeP (k + 1) es n = p ++ [itUn 21 (es.getD 0 E.zero).nr 0] ++ bodyP (es.getD 0 E.zero).rules n := by simp only [treeP]; rw [if_pos hone]; simp
      have hE2 : treeN (k + 1) es n = bodyN (es.getD 0 E.zero).rules n := by simp only [treeN]; rw [if_pos hone]
      have HU : Hid (Calls Try.prog 59 #[.pointer (some ⟨F, 0, none⟩), .int .u16 21, .int .u32 (es.getD 0 E.zero).nr, .int .i64 0] w fun e w' => e = .returned (.tuple #[]) ∧ (∃ v', WrS w' F v' (p ++ [itUn 21 (es.getD 0 E.zero).nr 0]) n) ∧ KW F w w') := goUnless_any w F v p n 21 _ 0 hS (by omega)
      have HR : Hid (∀ w1 v1, Below w0.heap.size w0 w1 → WrS w1 F v1 (p ++ [itUn 21 (es.getD 0 E.zero).nr 0]) n → Calls Try.prog 72 #[.pointer (some ⟨F, 0, none⟩), .slice a' (es.getD 0 E.zero).rules.length cap'] w1 fun e w' => e = .returned (.tuple #[]) ∧ (∃ v', WrS w' F v' (p ++ [itUn 21 (es.getD 0 E.zero).nr 0] ++ bodyP (es.getD 0 E.zero).rules n) (bodyN (es.getD 0 E.zero).rules n)) ∧ KW F w1 w') := fun w1 v1 hb1 h => wrules_any w0 w1 F v1 _ n _ a' cap' h (by simp; omega) hls hb1 hF hw.1 hw.2.1 hw.2.2.1 hw.2.2.2 hcc hn0 (by omega)
      rw [hE1, hE2]
      have HPo : Hid (∀ w' v', WrS w' F v' (p ++ [itUn 21 (es.getD 0 E.zero).nr 0] ++ bodyP (es.getD 0 E.zero).rules n) (bodyN (es.getD 0 E.zero).rules n) → KW F w w' → WrPost F (p ++ [itUn 21 (es.getD 0 E.zero).nr 0] ++ bodyP (es.getD 0 E.zero).rules n) (bodyN (es.getD 0 E.zero).rules n) w (.returned (.tuple #[])) w') := fun w' v' h2 h3 => ⟨rfl, ⟨v', h2⟩, h3⟩
      obtain ⟨_, d1, d2⟩ := HX.out w (KW.refl _ _)
      rw [hlen]
      generalize p ++ [itUn 21 (es.getD 0 E.zero).nr 0] ++ bodyP (es.getD 0 E.zero).rules n = q2 at *
      generalize p ++ [itUn 21 (es.getD 0 E.zero).nr 0] = q1 at *
      generalize bodyN (es.getD 0 E.zero).rules n = n2 at *
      generalize (es.getD 0 E.zero).rules.length = rl at *
      generalize (es.getD 0 E.zero).nr = nr at *
      clear hS hs hb0 hE ih hpb hnb hE1 hE2 c0 c1 c2 hls hw
      go_enter Try.func60, Try.ntmps60
      go_wp2_with fail
      refine (HU.out).mono ?_
      rintro _ w1 ⟨rfl, ⟨v1, hS1⟩, hK1⟩
      obtain ⟨hb1, e1, e2⟩ := HX.out w1 hK1
      go_wp2_with fail
      refine (HR.out _ v1 hb1 hS1).mono ?_
      rintro _ w2 ⟨rfl, ⟨v2, hS2⟩, hK2⟩
      have HF : Hid (WrPost F q2 n2 w (.returned (.tuple #[])) w2) := HPo.out w2 v2 hS2 (hK1.trans hK2)
      clear HU HR HPo HX hS1 hS2 hK1 hK2 d1 d2 e1 e2
      go_wp2
      exact bodyPost_ret (v := .tuple #[]) (by simp [results, Try.results60]) rfl HF.out
    · have hlen : 2 ≤ es.length := by omega
      obtain ⟨h, hh⟩ : ∃ h, es.length / 2 = h := ⟨_, rfl⟩
      have hh1 : 1 ≤ h ∧ h < es.length ∧ h ≤ k ∧ es.length - h ≤ k := by omega
      have ht : (es.take h).length = h := by simp; omega
      have hd : (es.drop h).length = es.length - h := by simp
      have hsp := sumR_split es h
      obtain ⟨f1, f2⟩ := tree_facts k (es.take h) (n + 1) (fun e he => hE e (List.mem_of_mem_take he)) (by omega) (by omega)
      have f3 := treeN_le k (es.take h) (n + 1)
      rw [ht] at f1 f2
      have hE1 : p ++ treeP (k + 1) es n = p ++ [itIf 53 (es.getD h E.zero).nr (n + 1)] ++ treeP k (es.take h) (n + 1) ++ [itLb (n + 1)] ++ treeP k (es.drop h) (treeN k (es.take h) (n + 1)) := by simp only [treeP]; rw [if_neg hone, hh]; simp
      have hE2 : treeN (k + 1) es n = treeN k (es.drop h) (treeN k (es.take h) (n + 1)) := by simp only [treeN]; rw [if_neg hone, hh]
      obtain ⟨b', o', e, hb, _, c1, _⟩ := hs.at (i := h) (by omega) E.zero
      cases e
      have HX : Hid (∀ w1, KW F w w1 → Below w0.heap.size w0 w1 ∧ w1.cell? ⟨b, o + h * 3 + 1, none⟩ = some (.int .u32 (es.getD h E.zero).nr)) := fun w1 g => by
        have hx := hb0.trans (g.b.mono hF)
        exact ⟨hx, (hx.cell (p := ⟨b, _, none⟩) hb).trans c1⟩
      have HN : Hid (Calls Try.prog 58 #[.pointer (some ⟨F, 0, none⟩)] w fun e w' => e = .returned (.int .i64 (n + 1)) ∧ WrS w' F v p (n + 1) ∧ KW F w w') := newLabel_any w F v p n hS hn0 (by omega)
      have HI : Hid (∀ w1 v1, WrS w1 F v1 p (n + 1) → Calls Try.prog 73 #[.pointer (some ⟨F, 0, none⟩), .int .u16 53, .int .u32 (es.getD h E.zero).nr, .int .i64 (n + 1)] w1 fun e w' => e = .returned (.tuple #[]) ∧ (∃ v', WrS w' F v' (p ++ [itIf 53 (es.getD h E.zero).nr (n + 1)]) (n + 1)) ∧ KW F w1 w') := fun w1 v1 g => goIf_any w1 F v1 p (n + 1) 53 _ (n + 1) g (by omega)
      have HT1 : Hid (∀ w1 v1 c', h ≤ c' → Below w0.heap.size w0 w1 → WrS w1 F v1 (p ++ [itIf 53 (es.getD h E.zero).nr (n + 1)]) (n + 1) → Calls Try.prog 60 #[.pointer (some ⟨F, 0, none⟩), .slice (some ⟨b, o, none⟩) h c'] w1 fun e w' => e = .returned (.tuple #[]) ∧ (∃ v', WrS w' F v' (p ++ [itIf 53 (es.getD h E.zero).nr (n + 1)] ++ treeP k (es.take h) (n + 1)) (treeN k (es.take h) (n + 1))) ∧ KW F w1 w') := fun w1 v1 c' hc' hb1 g => by
        have := ih w1 v1 (p ++ [itIf 53 (es.getD h E.zero).nr (n + 1)]) (n + 1) (es.take h) b o c' g (hs.front h) hb1 (fun e he => hE e (List.mem_of_mem_take he)) (by omega) (by omega) (by omega) (by rw [ht]; simp; omega) (by omega) (by rw [ht]; omega)
        rw [ht] at this
        exact this
      have HB : Hid (∀ w1 v1, WrS w1 F v1 (p ++ [itIf 53 (es.getD h E.zero).nr (n + 1)] ++ treeP k (es.take h) (n + 1)) (treeN k (es.take h) (n + 1)) → Calls Try.prog 40 #[.pointer (some ⟨F, 0, none⟩), .int .i64 (n + 1)] w1 fun e w' => e = .returned (.tuple #[]) ∧ (∃ v', WrS w' F v' (p ++ [itIf 53 (es.getD h E.zero).nr (n + 1)] ++ treeP k (es.take h) (n + 1) ++ [itLb (n + 1)]) (treeN k (es.take h) (n + 1))) ∧ KW F w1 w') := fun w1 v1 g => label_any w1 F v1 _ _ _ g (by simp; omega)
      have HT2 : Hid (∀ w1 v1 c', es.length - h ≤ c' → Below w0.heap.size w0 w1 → WrS w1 F v1 (p ++ [itIf 53 (es.getD h E.zero).nr (n + 1)] ++ treeP k (es.take h) (n + 1) ++ [itLb (n + 1)]) (treeN k (es.take h) (n + 1)) → Calls Try.prog 60 #[.pointer (some ⟨F, 0, none⟩), .slice (some ⟨b, o + h * 3, none⟩) (es.length - h) c'] w1 fun e w' => e = .returned (.tuple #[]) ∧ (∃ v', WrS w' F v' (p ++ [itIf 53 (es.getD h E.zero).nr (n + 1)] ++ treeP k (es.take h) (n + 1) ++ [itLb (n + 1)] ++ treeP k (es.drop h) (treeN k (es.take h) (n + 1))) (treeN k (es.drop h) (treeN k (es.take h) (n + 1)))) ∧ KW F w1 w') := fun w1 v1 c' hc' hb1 g => by
        have := ih w1 v1 _ _ (es.drop h) b (o + h * 3) c' g (hs.back h) hb1 (fun e he => hE e (List.mem_of_mem_drop he)) (by omega) (by omega) (by omega) (by rw [hd]; simp; omega) (by omega) (by rw [hd]; omega)
        rw [hd] at this
        exact this
      rw [hE1, hE2]
      have HPo : Hid (∀ w' v', WrS w' F v' (p ++ [itIf 53 (es.getD h E.zero).nr (n + 1)] ++ treeP k (es.take h) (n + 1) ++ [itLb (n + 1)] ++ treeP k (es.drop h) (treeN k (es.take h) (n + 1))) (treeN k (es.drop h) (treeN k (es.take h) (n + 1))) → KW F w w' → WrPost F (p ++ [itIf 53 (es.getD h E.zero).nr (n + 1)] ++ treeP k (es.take h) (n + 1) ++ [itLb (n + 1)] ++ treeP k (es.drop h) (treeN k (es.take h) (n + 1))) (treeN k (es.drop h) (treeN k (es.take h) (n + 1))) w (.returned (.tuple #[])) w') := fun w' v' h2 h3 => ⟨rfl, ⟨v', h2⟩, h3⟩
      generalize p ++ [itIf 53 (es.getD h E.zero).nr (n + 1)] ++ treeP k (es.take h) (n + 1) ++ [itLb (n + 1)] ++ treeP k (es.drop h) (treeN k (es.take h) (n + 1)) = q4 at *
      generalize p ++ [itIf 53 (es.getD h E.zero).nr (n + 1)] ++ treeP k (es.take h) (n + 1) ++ [itLb (n + 1)] = q3 at *
      generalize p ++ [itIf 53 (es.getD h E.zero).nr (n + 1)] ++ treeP k (es.take h) (n + 1) = q2 at *
      generalize p ++ [itIf 53 (es.getD h E.zero).nr (n + 1)] = q1 at *
      generalize treeN k (es.drop h) (treeN k (es.take h) (n + 1)) = n3 at *
      generalize treeN k (es.take h) (n + 1) = n2 at *
      generalize (es.getD h E.zero).nr = nr at *
      have HS : Hid (WrS w F v p n) := hS
      have hm4 : es.length ≤ 400000 := by omega
      clear hS hs hb0 hE ih hpb hnb hE1 hE2 c1 hsp f1 f2 f3 ht hd
      generalize es.length = m at *
      have hq : (m : Int) / 2 = (h : Int) := by omega
      have hm1 : ((m : Int) == 1) = false := by simp; omega
      have hm1' : ¬ (m : Int) = 1 := by omega
      have hm1n : ¬ m = 1 := by omega
      have hhc : (h : Int) ≤ (cap : Int) := by omega
      have hhm : (h : Int) ≤ (m : Int) := by omega
      have hhm' : (h : Int) < (m : Int) := by omega
      have hch : ¬ cap = h := by omega
      obtain ⟨hh0, hh2, hh3, hh4⟩ := hh1
      clear hone hlk hl1 hh hlen
      go_enter Try.func60, Try.ntmps60
      go_wp2_with fail
      refine (HN.out).mono ?_
      rintro _ w1 ⟨rfl, hS1, hK1⟩
      obtain ⟨hb1, d1⟩ := HX.out w1 hK1
      have HK1 : Hid (KW F w w1) := hK1
      have HS1 : Hid (WrS w1 F v p (n + 1)) := hS1
      clear HN hK1 hS1 HS
      go_wp2_with fail
      refine (HI.out _ v HS1.out).mono ?_
      rintro _ w2 ⟨rfl, ⟨v2, hS2⟩, hK2⟩
      have HK2 : Hid (KW F w w2) := HK1.out.trans hK2
      have HS2 : Hid (WrS w2 F v2 q1 (n + 1)) := hS2
      have HB2 : Hid (Below w0.heap.size w0 w2) := (HX.out w2 HK2.out).1
      clear HI hS2 hK2 HK1 HS1 d1 hb1
      go_wp2_with fail
      refine (HT1.out _ v2 _ (by omega) HB2.out HS2.out).mono ?_
      rintro _ w3 ⟨rfl, ⟨v3, hS3⟩, hK3⟩
      have HK3 : Hid (KW F w w3) := HK2.out.trans hK3
      have HS3 : Hid (WrS w3 F v3 q2 n2) := hS3
      clear HT1 hS3 hK3 HK2 HS2 HB2
      go_wp2_with fail
      refine (HB.out _ v3 HS3.out).mono ?_
      rintro _ w4 ⟨rfl, ⟨v4, hS4⟩, hK4⟩
      have HK4 : Hid (KW F w w4) := HK3.out.trans hK4
      have HS4 : Hid (WrS w4 F v4 q3 n2) := hS4
      have HB4 : Hid (Below w0.heap.size w0 w4) := (HX.out w4 HK4.out).1
      clear HB hS4 hK4 HK3 HS3
      go_wp2_with fail
      refine (HT2.out _ v4 _ (by omega) HB4.out HS4.out).mono ?_
      rintro _ w5 ⟨rfl, ⟨v5, hS5⟩, hK5⟩
      have HF : Hid (WrPost F q4 n3 w (.returned (.tuple #[])) w5) := HPo.out w5 v5 hS5 (HK4.out.trans hK5)
      clear HT2 hS5 hK5 HK4 HS4 HB4 HPo HX
      go_wp2
      go_end0
      exact HF.out
end Go.Proofs.Ytoopomjkapeknaa
