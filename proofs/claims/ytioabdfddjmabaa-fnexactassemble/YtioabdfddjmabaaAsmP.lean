/-
  CONTRACT of the program's put.
-/
import Derived.Test.YtioabdfddjmabaaAsmH
namespace Go.Proofs.Ytioabdfddjmabaa
open Go.RowKit
set_option linter.unusedVariables false

theorem wf64 {t : Int} (h : -9223372036854775808 ≤ t ∧ t ≤ 9223372036854775807) : (Lit.int .i64 t).wf = true := by
  simp only [Lit.wf, Bool.and_eq_true, decide_eq_true_eq]
  exact ⟨h.1, h.2⟩
theorem MapI.look {w : World} {Bm n : Nat} {m : Mk} (h : MapI w Bm n m) {t : Int} (ht : (Lit.int .i64 t).wf = true) :
    ∃ c : Int, (Instr.lookup 57 (.map (some Bm)) (.int .i64 t) true).run Try.prog w = .ok (.tuple #[.int .i64 c, .bool (m t).isSome]) w ∧ ∀ a, m t = some a → c = a := by
  obtain ⟨D, h1, h2, h3⟩ := h
  obtain ⟨v, ps, hr, hv⟩ := h1.look_ok (Maps.int_keyed Try.underlying3) Try.underlying57 (Try.zeroValue3 _) (plainElem_int Try.underlying3 (by decide)) (Maps.keyOf_int_mk Try.underlying3 ht)
  obtain ⟨c, rfl, hc, _⟩ := plainElem_int_inv Try.underlying3 hv
  simp only [Prod.mk.injEq] at hc
  refine ⟨c, ?_, fun a ha => ?_⟩
  · rw [hr]
    cases e : m t with
    | none => rw [h2 t ht e]; rfl
    | some a => rw [(h3 t a e).1]; rfl
  · have := (h3 t a ha).2 (.lit (.int .i64 0))
    rw [hc.1] at this
    injection this with this
    injection this
theorem MapI.put {w : World} {Bm n : Nat} {m : Mk} (h : MapI w Bm n m) {t : Int} (ht : (Lit.int .i64 t).wf = true) (a : Nat) (ha : a ≤ 1000000) (hn : n < maxLen) :
    ∃ w', (Instr.mapUpdate 57 (.map (some Bm)) (.int .i64 t) (.int .i64 (a : Int))).run Try.prog w = .ok () w' ∧ MapI w' Bm (n + 1) (fun s => if s = t then some a else m s) ∧ w.grownBy w' (some Bm) := by
  obtain ⟨D, h1, h2, h3⟩ := h
  obtain ⟨w', r1, r2, r3⟩ := h1.update (Maps.int_keyed Try.underlying3) Try.underlying57 hn (Maps.keyOf_int_mk Try.underlying3 ht) (plainElem_int (a := (a : Int)) Try.underlying3 (wf64 (by omega)))
  have hk : WideAt.IsKeyLit (.int .i64 t) := trivial
  refine ⟨w', r1, ⟨_, r2, fun s hs he => ?_, fun s b he => ?_⟩, r3⟩
  all_goals replace he : (if s = t then some a else m s) = _ := he
  · by_cases e : s = t
    · rw [if_pos e] at he; cases he
    · rw [if_neg e] at he
      rw [Maps.has_put_other (by intro e'; injection e' with _ e'; exact e e')]
      exact h2 s hs he
  · by_cases e : s = t
    · rw [if_pos e] at he
      cases he
      subst e
      exact ⟨Maps.has_put_same h1.isMap hk _, fun z => Maps.atKey_put_same h1.isMap hk _ _⟩
    · rw [if_neg e] at he
      have ne : (Lit.int IntKind.i64 s) ≠ .int .i64 t := by intro e'; injection e' with _ e'; exact e e'
      rw [Maps.has_put_other ne]
      exact ⟨(h3 s b he).1, fun z => by rw [Maps.atKey_put_other ne]; exact (h3 s b he).2 z⟩

/-- what put keeps: all below the map, and all that is no cells beyond it -/
structure KM (Bm : Nat) (w w' : World) : Prop where
  b : Below Bm w w'
  k : KeepsFrom (Bm + 1) w w'
  f : FarT w w'
theorem KB.toM {B Bm : Nat} {w w' : World} (h : KB B w w') (hb : Bm ≤ B) : KM Bm w w' := ⟨h.b.mono hb, h.k.from _, h.f⟩
theorem KM.trans {Bm : Nat} {a b c : World} (h : KM Bm a b) (k : KM Bm b c) : KM Bm a c := ⟨h.b.trans k.b, h.k.trans k.k, fun q cc t f h0 h1 h2 => k.f q cc t f (h.f q cc t f h0 h1 h2) h1 h2⟩
theorem LayS.mapped {w w' : World} {L Bm n : Nat} {v : Value} {p : List I} {m m' : Mk} (h : LayS w L Bm n v p m) (hm : MapI w' Bm (n + 1) m') (hg : w.grownBy w' (some Bm)) : LayS w' L Bm (n + 1) v p m' ∧ KM Bm w w' := by
  have hlt := h.lt
  have hbm := h.bm
  have ne : some L ≠ some Bm := by intro e; injection e with e; omega
  refine ⟨⟨h.bm, (hg.cell_far ⟨L, 0, none⟩ hlt ne).trans h.c0, (hg.cell_far ⟨L, 1, none⟩ hlt ne).trans h.c1, (hg.frozen_far ⟨L, 0, none⟩ hlt ne).trans h.f0, (by obtain ⟨c, f, e⟩ := h.ty; exact ⟨c, f, (hg.block L hlt ne).trans e⟩), ownsI_kept h.own hg (fun q hq e => ?_), hm⟩, (Below.refl Bm w).grown hg (by omega) (fun z hz => by cases hz; exact Nat.le_refl _), KeepsFrom.of_grownBy hg (fun j hj => by cases hj; omega), fun q c t f hq h1 h2 => (hg.block q (Array.getElem?_eq_some_iff.1 hq).1 (fun e => by
    injection e with e
    subst e
    obtain ⟨D, ⟨es, cl, d1, _⟩, _⟩ := h.mp
    rw [d1] at hq; cases hq)).trans hq⟩
  have := (h.own.lt q hq).1
  injection e with e; omega

def PutPost (L Bm n : Nat) (r : Option (List I × Mk)) (w : World) (e : Ending) (w' : World) : Prop :=
  e = .returned (.bool r.isSome) ∧ (∀ s, r = some s → ∃ v', LayS w' L Bm (n + 1) v' s.1 s.2) ∧ KM Bm w w'
theorem LayS.more {w : World} {L Bm n : Nat} {v : Value} {p : List I} {m : Mk} (h : LayS w L Bm n v p m) : LayS w L Bm (n + 1) v p m := by
  obtain ⟨D, h1, h2, h3⟩ := h.mp
  exact ⟨h.bm, h.c0, h.c1, h.f0, h.ty, h.own, D, h1.mono (by omega), h2, h3⟩
theorem stI0 {x : It} {s : List I × Mk} (h : x.kind = 0) : stI x s = some (s.1 ++ [x.ins], s.2) := by unfold stI; rw [if_pos h]
theorem stI4n {x : It} {s : List I × Mk} (h : x.kind = 4) (hm : s.2 x.target = none) : stI x s = some (s.1, fun t => if t = x.target then some s.1.length else s.2 t) := by unfold stI; rw [if_neg (by omega), hm]; simp only; rw [if_pos h]
theorem stI4s {x : It} {s : List I × Mk} {a : Nat} (h : x.kind = 4) (hm : s.2 x.target = some a) : stI x s = none := by unfold stI; rw [if_neg (by omega), hm]; simp only; rw [if_pos h]
theorem stIn {x : It} {s : List I × Mk} (h0 : x.kind ≠ 0) (h : x.kind ≠ 4) (hm : s.2 x.target = none) : stI x s = none := by unfold stI; rw [if_neg h0, hm]; simp only; rw [if_neg h]
theorem stIs {x : It} {s : List I × Mk} {a : Nat} (h0 : x.kind ≠ 0) (h : x.kind ≠ 4) (hm : s.2 x.target = some a) : stI x s = some (s.1 ++ brI x ((s.1.length : Int) - a), s.2) := by unfold stI; rw [if_neg h0, hm]; simp only; rw [if_neg h]

set_option maxRecDepth 100000 in
set_option maxHeartbeats 4000000 in
theorem put_any (w : World) (L Bm n : Nat) (v : Value) (p : List I) (m : Mk) (x : It) (hS : LayS w L Bm n v p m) (hx : x.ok) (hm : ∀ k a, m k = some a → a ≤ p.length) (hp : p.length ≤ 900000) (hn : n ≤ 1000000) :
    Calls Try.prog 29 #[.pointer (some ⟨L, 0, none⟩), itV x] w fun e w' => PutPost L Bm n (stI x (p, m)) w e w' := by
  have HA : Hid (∀ w1 v1 p1 c jt jf k, LayS w1 L Bm n v1 p1 m → p1.length ≤ 1000000 → Calls Try.prog 36 #[.pointer (some ⟨L, 0, none⟩), insV c jt jf k] w1 fun e w' => e = .returned (.tuple #[]) ∧ (∃ v', LayS w' L Bm n v' (p1 ++ [⟨c, jt, jf, k⟩]) m) ∧ KB L w1 w') := fun w1 v1 p1 c jt jf k h hp => (add_any w1 L Bm n v1 p1 m ⟨c, jt, jf, k⟩ h hp).mono (fun e w' h => ⟨h.1, h.2.1, h.2.2.1⟩)
  have HBr : Hid (∀ w1 d, LayS w1 L Bm n v p m → 0 ≤ d → d ≤ 1000000 → Calls Try.prog 37 #[.pointer (some ⟨L, 0, none⟩), itV x, .int .i64 d] w1 fun e w' => BrPost L Bm n (p ++ brI x d) m w1 e w') := fun w1 d h h0 h1 => branch_any w1 L Bm n v p m x d h hp h0 h1
  have hwf : (Lit.int .i64 x.target).wf = true := wf64 hx.2.2
  have h0s : x.kind = 0 → stI x (p, m) = some (p ++ [x.ins], m) := fun h => stI0 h
  have h4n : x.kind = 4 → m x.target = none → stI x (p, m) = some (p, fun t => if t = x.target then some p.length else m t) := fun h h1 => stI4n h h1
  have h4s : ∀ a, x.kind = 4 → m x.target = some a → stI x (p, m) = none := fun a h h1 => stI4s h h1
  have hsn : x.kind ≠ 0 → x.kind ≠ 4 → m x.target = none → stI x (p, m) = none := fun h h1 h2 => stIn h h1 h2
  have hss : ∀ a, x.kind ≠ 0 → x.kind ≠ 4 → m x.target = some a → stI x (p, m) = some (p ++ brI x ((p.length : Int) - a), m) := fun a h h1 h2 => stIs h h1 h2
  have HR0 : Hid (∀ w' q m' r, stI x (p, m) = some (q, m') → (∃ v', LayS w' L Bm (n + 1) v' q m') → KM Bm w w' → r = true → PutPost L Bm n (stI x (p, m)) w (.returned (.bool r)) w') := fun w' q m' r e h1 h2 h3 => by
    rw [e, h3]
    exact ⟨rfl, fun s hs => by cases hs; exact h1, h2⟩
  have HRn : Hid (∀ w' r, stI x (p, m) = none → KM Bm w w' → r = false → PutPost L Bm n (stI x (p, m)) w (.returned (.bool r)) w') := fun w' r e h2 h3 => by
    rw [e, h3]
    exact ⟨rfl, fun s hs => (by cases hs), h2⟩
  generalize stI x (p, m) = st at *
  have hmt := hm x.target
  have hLs := hS.lt
  have hBm := hS.bm
  have S1 := hS.keep ((Below.refl _ _).alloc (Nat.le_refl _) (.cells #[.int .i64 x.kind, .int .u16 x.ins.c, .int .u8 x.ins.jt, .int .u8 x.ins.jf, .int .u32 x.ins.k, .int .i64 x.target] 40))
  have K1 : KB L w (w.alloc (.cells #[.int .i64 x.kind, .int .u16 x.ins.c, .int .u8 x.ins.jt, .int .u8 x.ins.jf, .int .u32 x.ins.k, .int .i64 x.target] 40)) := (KB.refl L w).alloc (Nat.le_of_lt hS.lt) _
  have O := Box6.new w 40 (.int .i64 x.kind) (.int .u16 x.ins.c) (.int .u8 x.ins.jt) (.int .u8 x.ins.jf) (.int .u32 x.ins.k) (.int .i64 x.target)
  obtain ⟨kd, ⟨c, jt, jf, k⟩, tg⟩ := x
  simp only [itV] at h0s h4n h4s hsn hss hmt hwf S1 K1 O HBr ⊢
  go_enter Try.func29, Try.ntmps29
  by_cases h0 : kd = 0
  · subst h0
    have HE : Hid _ := h0s rfl
    clear h0s h4n h4s hsn hss HRn HBr
    go_wp2_with fail
    generalize w.alloc (.cells #[.int .i64 0, .int .u16 c, .int .u8 jt, .int .u8 jf, .int .u32 k, .int .i64 tg] 40) = W at *
    refine (HA.out _ v p c jt jf k S1 (by omega)).mono ?_
    rintro _ w1 ⟨rfl, ⟨v1, hS1⟩, hK1⟩
    have HF : Hid _ := HR0.out w1 _ _ true HE.out ⟨v1, hS1.more⟩ ((K1.trans hK1).toM (by omega)) rfl
    clear HA HR0 HE S1 K1 O hS1 hK1
    go_wp2
    go_ret
    exact HF.out
  · have SD := S1.keep (Below.refl _ _).drew
    have SDD := SD.keep (Below.refl _ _).drew
    have KD : KB L w (w.alloc (.cells #[.int .i64 kd, .int .u16 c, .int .u8 jt, .int .u8 jf, .int .u32 k, .int .i64 tg] 40)).drew.drew := K1.drew.drew
    have OD := (O.keep (Below.refl _ _).drew).keep (Below.refl _ _).drew
    obtain ⟨cc, hlk, hca⟩ := SD.mp.look hwf
    obtain ⟨av, cv, rfl, _⟩ := ownsI_src hS.own
    by_cases h4 : kd = 4
    · subst h4
      obtain ⟨wu, hup, hmu, hgu⟩ := SDD.mp.put hwf p.length (by omega) (by unfold maxLen; omega)
      obtain ⟨SU, KU⟩ := SDD.mapped hmu hgu
      have c0 := S1.c0
      have c1 := S1.c1
      have HKU : Hid _ := (KD.toM (Nat.le_of_lt hBm)).trans KU
      have HSU : Hid _ := SU
      have HN : Hid _ := h4n rfl
      have HS : Hid _ := fun a => h4s a rfl
      clear h0s h4n h4s hsn hss HA HBr S1 K1 O SD SDD KD OD hmu hgu SU KU hca
      cases hmt2 : m tg with
      | none =>
        rw [hmt2] at hlk
        simp only [Option.isSome_none] at hlk
        have HF : Hid _ := HR0.out wu _ _ true (HN.out hmt2) ⟨_, HSU.out⟩ HKU.out rfl
        clear HR0 HRn HN HS HSU HKU
        go_wp2_with fail
        go_region
        all_goals go_wp2_with fail
        all_goals go_region
        all_goals go_wp2
        all_goals go_ret
        all_goals exact HF.out
      | some a =>
        rw [hmt2] at hlk
        simp only [Option.isSome_some] at hlk
        have HF : Hid _ := HRn.out wu false (HS.out a hmt2) HKU.out rfl
        clear HR0 HRn HN HS HSU HKU
        go_wp2_with fail
        go_region
        all_goals go_wp2_with fail
        all_goals go_region
        all_goals go_wp2
        all_goals go_ret
        all_goals exact HF.out
    · have c0 := S1.c0
      have c1 := S1.c1
      cases hmt2 : m tg with
      | none =>
        rw [hmt2] at hlk
        simp only [Option.isSome_none] at hlk
        have HF : Hid _ := HRn.out _ false (hsn h0 h4 hmt2) (K1.drew.toM (Nat.le_of_lt hBm)) rfl
        clear h0s h4n h4s hsn hss HA HBr S1 K1 O SD SDD KD OD hca HR0 HRn
        go_wp2_with fail
        go_region
        all_goals go_wp2
        all_goals go_ret
        all_goals exact HF.out
      | some a =>
        rw [hmt2] at hlk
        simp only [Option.isSome_some] at hlk
        have hca' := hca a hmt2
        subst hca'
        have hle := hmt a hmt2
        have hw : IntKind.i64.wrap ((p.length : Int) - a) = (p.length : Int) - a := by rw [IntKind.wrap_i64]; omega
        have HB2 : Hid (Calls Try.prog 37 #[.pointer (some ⟨L, 0, none⟩), .agg #[.int .i64 kd, .int .u16 c, .int .u8 jt, .int .u8 jf, .int .u32 k, .int .i64 tg], .int .i64 ((p.length : Int) - a)] _ fun e w' => e = .returned (.tuple #[]) ∧ PutPost L Bm n st w (.returned (.bool true)) w') := (HBr.out _ _ SDD (by omega) (by omega)).mono (by
          rintro e w' ⟨h1, ⟨v', h2⟩, h3⟩
          exact ⟨h1, HR0.out w' _ _ true (hss a h0 h4 hmt2) ⟨v', h2.more⟩ ((KD.trans h3).toM (Nat.le_of_lt hBm)) rfl⟩)
        clear h0s h4n h4s hsn hss HA HBr S1 K1 O SD SDD KD OD hca HR0 HRn
        go_wp2_with fail
        go_region
        all_goals go_wp2_with fail
        all_goals go_region_with (go_at_call 37; refine HB2.out.mono ?_; rintro _ w1 ⟨rfl, hF1⟩)
        all_goals
          have HF : Hid _ := hF1
          clear hF1
          go_wp2
          go_ret
          exact HF.out
end Go.Proofs.Ytioabdfddjmabaa
