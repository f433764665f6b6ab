/-
  AsmH, AsmP, AsmR, OwnS
-/
import Derived.Test.YtoopomjkapeknaaQ17
import Derived.RangeFuncNested
import Derived.RangeFuncBound
import Derived.RangeFuncLeaves
import Derived.RangeFuncBox
import Derived.Shelf.Abstract
import Derived.WalkKit
import Derived.OwnWalkIn
import Derived.TacticsInMore
import Derived.LoopNIn
import Derived.LoopIn
import Derived.Test.YtoopomjkapeknaaQ03
import Derived.Laws.OwnMore
namespace Go.Proofs.Ytoopomjkapeknaa
open Go.RowKit
set_option linter.unusedVariables false

theorem FarL.below {L : Nat} {v : Value} {w w1 w2 : World} (h : FarL L v w1 w2) (hb : Below w.heap.size w w1) : FarL L v w w2 := fun q hq h1 h2 => (h q (Nat.lt_of_lt_of_le hq hb.size) h1 h2).trans (hb.block q hq)
def BrPost (L Bm n : Nat) (p : List I) (m : Mk) (w : World) (e : Ending) (w' : World) : Prop := e = .returned (.tuple #[]) ∧ (∃ v', LayS w' L Bm n v' p m) ∧ KB L w w'
theorem brI3 {x : It} {d : Int} (h : x.kind = 3) : brI x d = [⟨5, 0, 0, d⟩] := by unfold brI; rw [if_pos h]
theorem brIn {x : It} {d : Int} (h : x.kind ≠ 3) (hd : d ≤ 255) : brI x d = [tstI x.ins (x.kind == 1) d] := by unfold brI; rw [if_neg h, if_pos hd]
theorem brIf {x : It} {d : Int} (h : x.kind ≠ 3) (hd : ¬ d ≤ 255) : brI x d = [⟨5, 0, 0, d⟩] ++ [tstI x.ins (!(x.kind == 1)) 1] := by unfold brI; rw [if_neg h, if_neg hd]; rfl

set_option maxRecDepth 100000 in
set_option maxHeartbeats 4000000 in
theorem branch_any (w : World) (L Bm n : Nat) (v : Value) (p : List I) (m : Mk) (x : It) (d : Int) (hS : LayS w L Bm n v p m) (hn : p.length ≤ 900000) (hd0 : 0 ≤ d) (hd1 : d ≤ 1000000) :
    Calls Try.prog 63 #[.pointer (some ⟨L, 0, none⟩), itV x, .int .i64 d] w fun e w' => BrPost L Bm n (p ++ brI x d) m w e w' := by
  have HA : Hid (∀ w1 v1 p1 c jt jf k, LayS w1 L Bm n v1 p1 m → p1.length ≤ 1000000 → Calls Try.prog 62 #[.pointer (some ⟨L, 0, none⟩), insV c jt jf k] w1 fun e w' => e = .returned (.tuple #[]) ∧ (∃ v', LayS w' L Bm n v' (p1 ++ [⟨c, jt, jf, k⟩]) m) ∧ KB L w1 w' ∧ FarL L v1 w1 w') := fun w1 v1 p1 c jt jf k h hp => add_any w1 L Bm n v1 p1 m ⟨c, jt, jf, k⟩ h hp
  have HT : Hid (∀ w1 c jt jf k b q, Calls Try.prog 74 #[insV c jt jf k, .bool b, .int .u8 q] w1 fun e w' => ∃ c' jt' jf' k', (⟨c', jt', jf', k'⟩ : I) = tstI ⟨c, jt, jf, k⟩ b q ∧ e = .returned (insV c' jt' jf' k') ∧ KB w1.heap.size w1 w') := fun w1 c jt jf k b q => (testOf_any c jt jf k b q w1).mono (by
    rintro e w' ⟨h1, h2⟩
    exact ⟨_, _, _, _, rfl, h1, h2⟩)
  have HPo : Hid (∀ w' v' q, p ++ brI x d = q → LayS w' L Bm n v' q m → KB L w w' → BrPost L Bm n (p ++ brI x d) m w (.returned (.tuple #[])) w') := fun w' v' q e h1 h2 => ⟨rfl, ⟨v', e ▸ h1⟩, h2⟩
  have HB3 : Hid (x.kind = 3 → p ++ brI x d = p ++ [⟨5, 0, 0, d⟩]) := fun h => by rw [brI3 h]
  have HBn : Hid (x.kind ≠ 3 → d ≤ 255 → ∀ y, y = tstI x.ins (x.kind == 1) d → p ++ brI x d = p ++ [y]) := fun h h1 y hy => by rw [brIn h h1, hy]
  have HBf : Hid (x.kind ≠ 3 → ¬ d ≤ 255 → ∀ y, y = tstI x.ins (!(x.kind == 1)) 1 → p ++ brI x d = p ++ [⟨5, 0, 0, d⟩] ++ [y]) := fun h h1 y hy => by rw [brIf h h1, hy, List.append_assoc]
  generalize brI x d = bl at *
  obtain ⟨kd, ⟨c, jt, jf, k⟩, tg⟩ := x
  simp only [itV] at HB3 HBn HBf ⊢
  have O := (Box6.new w 68 (.int .i64 kd) (.int .u16 c) (.int .u8 jt) (.int .u8 jf) (.int .u32 k) (.int .i64 tg)).keep ((Below.refl _ _).alloc (Nat.le_refl _) (.cells #[.int .u16 5, .int .u8 0, .int .u8 0, .int .u32 d] 51))
  have hB2 : Below w.heap.size w ((w.alloc (.cells #[.int .i64 kd, .int .u16 c, .int .u8 jt, .int .u8 jf, .int .u32 k, .int .i64 tg] 68)).alloc (.cells #[.int .u16 5, .int .u8 0, .int .u8 0, .int .u32 d] 51)) := ((Below.refl _ _).alloc (Nat.le_refl _) _).alloc (by simp) _
  have K2 : KB L w ((w.alloc (.cells #[.int .i64 kd, .int .u16 c, .int .u8 jt, .int .u8 jf, .int .u32 k, .int .i64 tg] 68)).alloc (.cells #[.int .u16 5, .int .u8 0, .int .u8 0, .int .u32 d] 51)) := ((KB.refl L w).alloc (Nat.le_of_lt hS.lt) _).alloc (by simp; have := hS.lt; omega) _
  have S2 := hS.keep hB2
  have hvo : some w.heap.size ≠ v.ownBlock := fun e => by have := (hS.own.lt _ e.symm).2; omega
  have hLs := hS.lt
  have hw : IntKind.u32.wrap d = d := by rw [IntKind.wrap_u32']; omega
  go_enter Try.func63, Try.ntmps63
  by_cases h3 : kd = 3
  · subst h3
    go_wp2_with fail
    refine (HA.out _ v p 5 0 0 d S2 (by omega)).mono ?_
    rintro _ w1 ⟨rfl, ⟨v1, hS1⟩, hK1, _⟩
    have HF : Hid _ := HPo.out w1 v1 _ (HB3.out trivial) hS1 (K2.trans hK1)
    clear HA HT HPo HB3 HBn HBf O hB2 K2 S2 hS1 hK1
    go_wp2
    go_end0
    first | exact HF.out | exact ⟨rfl, HF.out.2⟩
  · by_cases h1 : kd = 1
    · subst h1
      by_cases hd : d ≤ 255
      · have HY : Hid (∀ y, y = tstI ⟨c, jt, jf, k⟩ true d → p ++ bl = p ++ [y]) := fun y hy => HBn.out h3 hd y (by rw [hy]; rfl)
        have hd8 : IntKind.u8.wrap d = d := by rw [IntKind.wrap_u8]; omega
        clear HB3 HBn HBf
        go_wp2_with fail
        generalize ((w.alloc (.cells #[.int .i64 1, .int .u16 c, .int .u8 jt, .int .u8 jf, .int .u32 k, .int .i64 tg] 68)).alloc (.cells #[.int .u16 5, .int .u8 0, .int .u8 0, .int .u32 d] 51)) = W at *
        refine (HT.out _ c jt jf k true d).mono ?_
        rintro _ w1 ⟨c', jt', jf', k', hy, rfl, hK1⟩
        have S3 := S2.keep hK1.b
        have K3 := K2.trans (hK1.mono (show L ≤ W.heap.size by have := S2.lt; omega))
        clear S2 K2 hK1 HT hB2 O
        go_wp2_with fail
        refine (HA.out _ v p c' jt' jf' k' S3 (by omega)).mono ?_
        rintro _ w2 ⟨rfl, ⟨v1, hS1⟩, hK1, _⟩
        have HF : Hid _ := HPo.out w2 v1 _ (HY.out _ hy) hS1 (K3.trans hK1)
        clear HA HPo HY K3 S3 hS1 hK1
        go_wp2
        go_end0
        first | exact HF.out | exact ⟨rfl, HF.out.2⟩
      · have HY : Hid (∀ y, y = tstI ⟨c, jt, jf, k⟩ false 1 → p ++ bl = p ++ [⟨5, 0, 0, d⟩] ++ [y]) := fun y hy => HBf.out h3 hd y (by rw [hy]; rfl)
        clear HB3 HBn HBf
        go_wp2_with fail
        generalize ((w.alloc (.cells #[.int .i64 1, .int .u16 c, .int .u8 jt, .int .u8 jf, .int .u32 k, .int .i64 tg] 68)).alloc (.cells #[.int .u16 5, .int .u8 0, .int .u8 0, .int .u32 d] 51)) = W at *
        refine (HA.out _ v p 5 0 0 d S2 (by omega)).mono ?_
        rintro _ w1 ⟨rfl, ⟨v1, hS1⟩, hK1, hF1⟩
        have hwb : w1.heap[w.heap.size]? = W.heap[w.heap.size]? := hF1 _ O.lt (by omega) hvo
        have o1 := (World.cell?_of_block (a := ⟨w.heap.size, 1, none⟩) hwb).trans O.c1
        have o2 := (World.cell?_of_block (a := ⟨w.heap.size, 2, none⟩) hwb).trans O.c2
        have o3 := (World.cell?_of_block (a := ⟨w.heap.size, 3, none⟩) hwb).trans O.c3
        have o4 := (World.cell?_of_block (a := ⟨w.heap.size, 4, none⟩) hwb).trans O.c4
        have K3 := K2.trans hK1
        clear S2 K2 hK1 hB2 O hwb hF1
        go_wp2_with fail
        refine (HT.out _ c jt jf k false 1).mono ?_
        rintro _ w2 ⟨c', jt', jf', k', hy, rfl, hK2⟩
        have S3 := hS1.keep hK2.b
        have K4 := K3.trans (hK2.mono (show L ≤ w1.heap.size by have := hS1.lt; omega))
        clear hS1 K3 hK2 HT o1 o2 o3 o4
        have hpl : (p ++ [(⟨5, 0, 0, d⟩ : I)]).length ≤ 1000000 := by simp; omega
        go_wp2_with fail
        refine (HA.out _ v1 _ c' jt' jf' k' S3 hpl).mono ?_
        rintro _ w3 ⟨rfl, ⟨v2, hS2⟩, hK2, _⟩
        have HF : Hid _ := HPo.out w3 v2 _ (HY.out _ hy) hS2 (K4.trans hK2)
        clear HA HPo HY K4 S3 hS2 hK2
        go_wp2
        go_end0
        first | exact HF.out | exact ⟨rfl, HF.out.2⟩
    · have hk1 : (kd == 1) = false := by simpa using h1
      by_cases hd : d ≤ 255
      · have HY : Hid (∀ y, y = tstI ⟨c, jt, jf, k⟩ false d → p ++ bl = p ++ [y]) := fun y hy => HBn.out h3 hd y (by simp [hy, hk1])
        have hd8 : IntKind.u8.wrap d = d := by rw [IntKind.wrap_u8]; omega
        clear HB3 HBn HBf
        go_wp2_with fail
        generalize ((w.alloc (.cells #[.int .i64 kd, .int .u16 c, .int .u8 jt, .int .u8 jf, .int .u32 k, .int .i64 tg] 68)).alloc (.cells #[.int .u16 5, .int .u8 0, .int .u8 0, .int .u32 d] 51)) = W at *
        refine (HT.out _ c jt jf k false d).mono ?_
        rintro _ w1 ⟨c', jt', jf', k', hy, rfl, hK1⟩
        have S3 := S2.keep hK1.b
        have K3 := K2.trans (hK1.mono (show L ≤ W.heap.size by have := S2.lt; omega))
        clear S2 K2 hK1 HT hB2 O
        go_wp2_with fail
        refine (HA.out _ v p c' jt' jf' k' S3 (by omega)).mono ?_
        rintro _ w2 ⟨rfl, ⟨v1, hS1⟩, hK1, _⟩
        have HF : Hid _ := HPo.out w2 v1 _ (HY.out _ hy) hS1 (K3.trans hK1)
        clear HA HPo HY K3 S3 hS1 hK1
        go_wp2
        go_end0
        first | exact HF.out | exact ⟨rfl, HF.out.2⟩
      · have HY : Hid (∀ y, y = tstI ⟨c, jt, jf, k⟩ true 1 → p ++ bl = p ++ [⟨5, 0, 0, d⟩] ++ [y]) := fun y hy => HBf.out h3 hd y (by simp [hy, hk1])
        clear HB3 HBn HBf
        go_wp2_with fail
        generalize ((w.alloc (.cells #[.int .i64 kd, .int .u16 c, .int .u8 jt, .int .u8 jf, .int .u32 k, .int .i64 tg] 68)).alloc (.cells #[.int .u16 5, .int .u8 0, .int .u8 0, .int .u32 d] 51)) = W at *
        refine (HA.out _ v p 5 0 0 d S2 (by omega)).mono ?_
        rintro _ w1 ⟨rfl, ⟨v1, hS1⟩, hK1, hF1⟩
        have hwb : w1.heap[w.heap.size]? = W.heap[w.heap.size]? := hF1 _ O.lt (by omega) hvo
        have o1 := (World.cell?_of_block (a := ⟨w.heap.size, 1, none⟩) hwb).trans O.c1
        have o2 := (World.cell?_of_block (a := ⟨w.heap.size, 2, none⟩) hwb).trans O.c2
        have o3 := (World.cell?_of_block (a := ⟨w.heap.size, 3, none⟩) hwb).trans O.c3
        have o4 := (World.cell?_of_block (a := ⟨w.heap.size, 4, none⟩) hwb).trans O.c4
        have K3 := K2.trans hK1
        clear S2 K2 hK1 hB2 O hwb hF1
        go_wp2_with fail
        refine (HT.out _ c jt jf k true 1).mono ?_
        rintro _ w2 ⟨c', jt', jf', k', hy, rfl, hK2⟩
        have S3 := hS1.keep hK2.b
        have K4 := K3.trans (hK2.mono (show L ≤ w1.heap.size by have := hS1.lt; omega))
        clear hS1 K3 hK2 HT o1 o2 o3 o4
        have hpl : (p ++ [(⟨5, 0, 0, d⟩ : I)]).length ≤ 1000000 := by simp; omega
        go_wp2_with fail
        refine (HA.out _ v1 _ c' jt' jf' k' S3 hpl).mono ?_
        rintro _ w3 ⟨rfl, ⟨v2, hS2⟩, hK2, _⟩
        have HF : Hid _ := HPo.out w3 v2 _ (HY.out _ hy) hS2 (K4.trans hK2)
        clear HA HPo HY K4 S3 hS2 hK2
        go_wp2
        go_end0
        first | exact HF.out | exact ⟨rfl, HF.out.2⟩
end Go.Proofs.Ytoopomjkapeknaa
namespace Go.Proofs.Ytoopomjkapeknaa
open Go.RowKit
set_option linter.unusedVariables false

theorem wf64 {t : Int} (h : -9223372036854775808 ≤ t ∧ t ≤ 9223372036854775807) : (Lit.int .i64 t).wf = true := by
  simp only [Lit.wf, Bool.and_eq_true, decide_eq_true_eq]
  exact ⟨h.1, h.2⟩
set_option maxRecDepth 100000 in
theorem MapI.look {w : World} {Bm n : Nat} {m : Mk} (h : MapI w Bm n m) {t : Int} (ht : (Lit.int .i64 t).wf = true) :
    ∃ c : Int, (Instr.lookup 80 (.map (some Bm)) (.int .i64 t) true).run Try.prog w = .ok (.tuple #[.int .i64 c, .bool (m t).isSome]) w ∧ ∀ a, m t = some a → c = a := by
  obtain ⟨D, h1, h2, h3⟩ := h
  obtain ⟨v, ps, hr, hv⟩ := h1.look_ok (Maps.int_keyed Try.underlying3) Try.underlying80 (Try.zeroValue3 _) (plainElem_int Try.underlying3 (by decide)) (Maps.keyOf_int_mk Try.underlying3 ht)
  obtain ⟨c, rfl, hc, _⟩ := plainElem_int_inv Try.underlying3 hv
  simp only [Prod.mk.injEq] at hc
  refine ⟨c, ?_, fun a ha => ?_⟩
  · rw [hr]
    cases e : m t with
    | none => rw [h2 t ht e]; rfl
    | some a => rw [(h3 t a e).1]; rfl
  · have := (h3 t a ha).2 (.lit (.int .i64 0))
    rw [hc.1] at this
    injection this with this
    injection this
set_option maxRecDepth 100000 in
theorem MapI.put {w : World} {Bm n : Nat} {m : Mk} (h : MapI w Bm n m) {t : Int} (ht : (Lit.int .i64 t).wf = true) (a : Nat) (ha : a ≤ 1000000) (hn : n < maxLen) :
    ∃ w', (Instr.mapUpdate 80 (.map (some Bm)) (.int .i64 t) (.int .i64 (a : Int))).run Try.prog w = .ok () w' ∧ MapI w' Bm (n + 1) (fun s => if s = t then some a else m s) ∧ w.grownBy w' (some Bm) := by
  obtain ⟨D, h1, h2, h3⟩ := h
  obtain ⟨w', r1, r2, r3⟩ := h1.update (Maps.int_keyed Try.underlying3) Try.underlying80 hn (Maps.keyOf_int_mk Try.underlying3 ht) (plainElem_int (a := (a : Int)) Try.underlying3 (wf64 (by omega)))
  have hk : WideAt.IsKeyLit (.int .i64 t) := trivial
  refine ⟨w', r1, ⟨_, r2, fun s hs he => ?_, fun s b he => ?_⟩, r3⟩
  all_goals replace he : (if s = t then some a else m s) = _ := he
  · by_cases e : s = t
    · rw [if_pos e] at he; cases he
    · rw [if_neg e] at he
      rw [Maps.has_put_other (by intro e'; injection e' with _ e'; exact e e')]
      exact h2 s hs he
  · by_cases e : s = t
    · rw [if_pos e] at he
      cases he
      subst e
      exact ⟨Maps.has_put_same h1.isMap hk _, fun z => Maps.atKey_put_same h1.isMap hk _ _⟩
    · rw [if_neg e] at he
      have ne : (Lit.int IntKind.i64 s) ≠ .int .i64 t := by intro e'; injection e' with _ e'; exact e e'
      rw [Maps.has_put_other ne]
      exact ⟨(h3 s b he).1, fun z => by rw [Maps.atKey_put_other ne]; exact (h3 s b he).2 z⟩

/-- what put keeps: all below the map, and all that is no cells beyond it -/
structure KM (Bm : Nat) (w w' : World) : Prop where
  b : Below Bm w w'
  k : KeepsFrom (Bm + 1) w w'
  f : FarT w w'
theorem KB.toM {B Bm : Nat} {w w' : World} (h : KB B w w') (hb : Bm ≤ B) : KM Bm w w' := ⟨h.b.mono hb, h.k.from _, h.f⟩
theorem KM.trans {Bm : Nat} {a b c : World} (h : KM Bm a b) (k : KM Bm b c) : KM Bm a c := ⟨h.b.trans k.b, h.k.trans k.k, fun q cc t f h0 h1 h2 => k.f q cc t f (h.f q cc t f h0 h1 h2) h1 h2⟩
theorem LayS.mapped {w w' : World} {L Bm n : Nat} {v : Value} {p : List I} {m m' : Mk} (h : LayS w L Bm n v p m) (hm : MapI w' Bm (n + 1) m') (hg : w.grownBy w' (some Bm)) : LayS w' L Bm (n + 1) v p m' ∧ KM Bm w w' := by
  have hlt := h.lt
  have hbm := h.bm
  have ne : some L ≠ some Bm := by intro e; injection e with e; omega
  refine ⟨⟨h.bm, (hg.cell_far ⟨L, 0, none⟩ hlt ne).trans h.c0, (hg.cell_far ⟨L, 1, none⟩ hlt ne).trans h.c1, (hg.frozen_far ⟨L, 0, none⟩ hlt ne).trans h.f0, (by obtain ⟨c, f, e⟩ := h.ty; exact ⟨c, f, (hg.block L hlt ne).trans e⟩), ownsI_kept h.own hg (fun q hq e => ?_), hm⟩, (Below.refl Bm w).grown hg (by omega) (fun z hz => by cases hz; exact Nat.le_refl _), KeepsFrom.of_grownBy hg (fun j hj => by cases hj; omega), fun q c t f hq h1 h2 => (hg.block q (Array.getElem?_eq_some_iff.1 hq).1 (fun e => by
    injection e with e
    subst e
    obtain ⟨D, ⟨es, cl, d1, _⟩, _⟩ := h.mp
    rw [d1] at hq; cases hq)).trans hq⟩
  have := (h.own.lt q hq).1
  injection e with e; omega

def PutPost (L Bm n : Nat) (r : Option (List I × Mk)) (w : World) (e : Ending) (w' : World) : Prop :=
  e = .returned (.bool r.isSome) ∧ (∀ s, r = some s → ∃ v', LayS w' L Bm (n + 1) v' s.1 s.2) ∧ KM Bm w w'
theorem LayS.more {w : World} {L Bm n : Nat} {v : Value} {p : List I} {m : Mk} (h : LayS w L Bm n v p m) : LayS w L Bm (n + 1) v p m := by
  obtain ⟨D, h1, h2, h3⟩ := h.mp
  exact ⟨h.bm, h.c0, h.c1, h.f0, h.ty, h.own, D, h1.mono (by omega), h2, h3⟩
theorem stI0 {x : It} {s : List I × Mk} (h : x.kind = 0) : stI x s = some (s.1 ++ [x.ins], s.2) := by unfold stI; rw [if_pos h]
theorem stI4n {x : It} {s : List I × Mk} (h : x.kind = 4) (hm : s.2 x.target = none) : stI x s = some (s.1, fun t => if t = x.target then some s.1.length else s.2 t) := by unfold stI; rw [if_neg (by omega), hm]; simp only; rw [if_pos h]
theorem stI4s {x : It} {s : List I × Mk} {a : Nat} (h : x.kind = 4) (hm : s.2 x.target = some a) : stI x s = none := by unfold stI; rw [if_neg (by omega), hm]; simp only; rw [if_pos h]
theorem stIn {x : It} {s : List I × Mk} (h0 : x.kind ≠ 0) (h : x.kind ≠ 4) (hm : s.2 x.target = none) : stI x s = none := by unfold stI; rw [if_neg h0, hm]; simp only; rw [if_neg h]
theorem stIs {x : It} {s : List I × Mk} {a : Nat} (h0 : x.kind ≠ 0) (h : x.kind ≠ 4) (hm : s.2 x.target = some a) : stI x s = some (s.1 ++ brI x ((s.1.length : Int) - a), s.2) := by unfold stI; rw [if_neg h0, hm]; simp only; rw [if_neg h]

set_option maxRecDepth 100000 in
set_option maxHeartbeats 4000000 in
theorem put_any (w : World) (L Bm n : Nat) (v : Value) (p : List I) (m : Mk) (x : It) (hS : LayS w L Bm n v p m) (hx : x.ok) (hm : ∀ k a, m k = some a → a ≤ p.length) (hp : p.length ≤ 900000) (hn : n ≤ 1000000) :
    Calls Try.prog 43 #[.pointer (some ⟨L, 0, none⟩), itV x] w fun e w' => PutPost L Bm n (stI x (p, m)) w e w' := by
  have HA : Hid (∀ w1 v1 p1 c jt jf k, LayS w1 L Bm n v1 p1 m → p1.length ≤ 1000000 → Calls Try.prog 62 #[.pointer (some ⟨L, 0, none⟩), insV c jt jf k] w1 fun e w' => e = .returned (.tuple #[]) ∧ (∃ v', LayS w' L Bm n v' (p1 ++ [⟨c, jt, jf, k⟩]) m) ∧ KB L w1 w') := fun w1 v1 p1 c jt jf k h hp => (add_any w1 L Bm n v1 p1 m ⟨c, jt, jf, k⟩ h hp).mono (fun e w' h => ⟨h.1, h.2.1, h.2.2.1⟩)
  have HBr : Hid (∀ w1 d, LayS w1 L Bm n v p m → 0 ≤ d → d ≤ 1000000 → Calls Try.prog 63 #[.pointer (some ⟨L, 0, none⟩), itV x, .int .i64 d] w1 fun e w' => BrPost L Bm n (p ++ brI x d) m w1 e w') := fun w1 d h h0 h1 => branch_any w1 L Bm n v p m x d h hp h0 h1
  have hwf : (Lit.int .i64 x.target).wf = true := wf64 hx.2.2
  have h0s : x.kind = 0 → stI x (p, m) = some (p ++ [x.ins], m) := fun h => stI0 h
  have h4n : x.kind = 4 → m x.target = none → stI x (p, m) = some (p, fun t => if t = x.target then some p.length else m t) := fun h h1 => stI4n h h1
  have h4s : ∀ a, x.kind = 4 → m x.target = some a → stI x (p, m) = none := fun a h h1 => stI4s h h1
  have hsn : x.kind ≠ 0 → x.kind ≠ 4 → m x.target = none → stI x (p, m) = none := fun h h1 h2 => stIn h h1 h2
  have hss : ∀ a, x.kind ≠ 0 → x.kind ≠ 4 → m x.target = some a → stI x (p, m) = some (p ++ brI x ((p.length : Int) - a), m) := fun a h h1 h2 => stIs h h1 h2
  have HR0 : Hid (∀ w' q m' r, stI x (p, m) = some (q, m') → (∃ v', LayS w' L Bm (n + 1) v' q m') → KM Bm w w' → r = true → PutPost L Bm n (stI x (p, m)) w (.returned (.bool r)) w') := fun w' q m' r e h1 h2 h3 => by
    rw [e, h3]
    exact ⟨rfl, fun s hs => by cases hs; exact h1, h2⟩
  have HRn : Hid (∀ w' r, stI x (p, m) = none → KM Bm w w' → r = false → PutPost L Bm n (stI x (p, m)) w (.returned (.bool r)) w') := fun w' r e h2 h3 => by
    rw [e, h3]
    exact ⟨rfl, fun s hs => (by cases hs), h2⟩
  generalize stI x (p, m) = st at *
  have hmt := hm x.target
  have hLs := hS.lt
  have hBm := hS.bm
  have S1 := hS.keep ((Below.refl _ _).alloc (Nat.le_refl _) (.cells #[.int .i64 x.kind, .int .u16 x.ins.c, .int .u8 x.ins.jt, .int .u8 x.ins.jf, .int .u32 x.ins.k, .int .i64 x.target] 68))
  have K1 : KB L w (w.alloc (.cells #[.int .i64 x.kind, .int .u16 x.ins.c, .int .u8 x.ins.jt, .int .u8 x.ins.jf, .int .u32 x.ins.k, .int .i64 x.target] 68)) := (KB.refl L w).alloc (Nat.le_of_lt hS.lt) _
  have O := Box6.new w 68 (.int .i64 x.kind) (.int .u16 x.ins.c) (.int .u8 x.ins.jt) (.int .u8 x.ins.jf) (.int .u32 x.ins.k) (.int .i64 x.target)
  obtain ⟨kd, ⟨c, jt, jf, k⟩, tg⟩ := x
  simp only [itV] at h0s h4n h4s hsn hss hmt hwf S1 K1 O HBr ⊢
  go_enter Try.func43, Try.ntmps43
  by_cases h0 : kd = 0
  · subst h0
    have HE : Hid _ := h0s rfl
    clear h0s h4n h4s hsn hss HRn HBr
    go_wp2_with fail
    generalize w.alloc (.cells #[.int .i64 0, .int .u16 c, .int .u8 jt, .int .u8 jf, .int .u32 k, .int .i64 tg] 68) = W at *
    refine (HA.out _ v p c jt jf k S1 (by omega)).mono ?_
    rintro _ w1 ⟨rfl, ⟨v1, hS1⟩, hK1⟩
    have HF : Hid _ := HR0.out w1 _ _ true HE.out ⟨v1, hS1.more⟩ ((K1.trans hK1).toM (by omega)) rfl
    clear HA HR0 HE S1 K1 O hS1 hK1
    go_wp2
    go_ret
    exact HF.out
  · have SD := S1.keep (Below.refl _ _).drew
    have SDD := SD.keep (Below.refl _ _).drew
    have KD : KB L w (w.alloc (.cells #[.int .i64 kd, .int .u16 c, .int .u8 jt, .int .u8 jf, .int .u32 k, .int .i64 tg] 68)).drew.drew := K1.drew.drew
    have OD := (O.keep (Below.refl _ _).drew).keep (Below.refl _ _).drew
    obtain ⟨cc, hlk, hca⟩ := SD.mp.look hwf
    obtain ⟨av, cv, rfl, _⟩ := ownsI_src hS.own
    by_cases h4 : kd = 4
    · subst h4
      obtain ⟨wu, hup, hmu, hgu⟩ := SDD.mp.put hwf p.length (by omega) (by unfold maxLen; omega)
      obtain ⟨SU, KU⟩ := SDD.mapped hmu hgu
      have c0 := S1.c0
      have c1 := S1.c1
      have HKU : Hid _ := (KD.toM (Nat.le_of_lt hBm)).trans KU
      have HSU : Hid _ := SU
      have HN : Hid _ := h4n rfl
      have HS : Hid _ := fun a => h4s a rfl
      clear h0s h4n h4s hsn hss HA HBr S1 K1 O SD SDD KD OD hmu hgu SU KU hca
      cases hmt2 : m tg with
      | none =>
        rw [hmt2] at hlk
        simp only [Option.isSome_none] at hlk
        have HF : Hid _ := HR0.out wu _ _ true (HN.out hmt2) ⟨_, HSU.out⟩ HKU.out rfl
        clear HR0 HRn HN HS HSU HKU
        go_wp2_with fail
        go_region
        all_goals go_wp2_with fail
        all_goals go_region
        all_goals go_wp2
        all_goals go_ret
        all_goals exact HF.out
      | some a =>
        rw [hmt2] at hlk
        simp only [Option.isSome_some] at hlk
        have HF : Hid _ := HRn.out wu false (HS.out a hmt2) HKU.out rfl
        clear HR0 HRn HN HS HSU HKU
        go_wp2_with fail
        go_region
        all_goals go_wp2_with fail
        all_goals go_region
        all_goals go_wp2
        all_goals go_ret
        all_goals exact HF.out
    · have c0 := S1.c0
      have c1 := S1.c1
      cases hmt2 : m tg with
      | none =>
        rw [hmt2] at hlk
        simp only [Option.isSome_none] at hlk
        have HF : Hid _ := HRn.out _ false (hsn h0 h4 hmt2) (K1.drew.toM (Nat.le_of_lt hBm)) rfl
        clear h0s h4n h4s hsn hss HA HBr S1 K1 O SD SDD KD OD hca HR0 HRn
        go_wp2_with fail
        go_region
        all_goals go_wp2
        all_goals go_ret
        all_goals exact HF.out
      | some a =>
        rw [hmt2] at hlk
        simp only [Option.isSome_some] at hlk
        have hca' := hca a hmt2
        subst hca'
        have hle := hmt a hmt2
        have hw : IntKind.i64.wrap ((p.length : Int) - a) = (p.length : Int) - a := by rw [IntKind.wrap_i64]; omega
        have HB2 : Hid (Calls Try.prog 63 #[.pointer (some ⟨L, 0, none⟩), .agg #[.int .i64 kd, .int .u16 c, .int .u8 jt, .int .u8 jf, .int .u32 k, .int .i64 tg], .int .i64 ((p.length : Int) - a)] _ fun e w' => e = .returned (.tuple #[]) ∧ PutPost L Bm n st w (.returned (.bool true)) w') := (HBr.out _ _ SDD (by omega) (by omega)).mono (by
          rintro e w' ⟨h1, ⟨v', h2⟩, h3⟩
          exact ⟨h1, HR0.out w' _ _ true (hss a h0 h4 hmt2) ⟨v', h2.more⟩ ((KD.trans h3).toM (Nat.le_of_lt hBm)) rfl⟩)
        clear h0s h4n h4s hsn hss HA HBr S1 K1 O SD SDD KD OD hca HR0 HRn
        go_wp2_with fail
        go_region
        all_goals go_wp2_with fail
        all_goals go_region_with (go_at_call 63; refine HB2.out.mono ?_; rintro _ w1 ⟨rfl, hF1⟩)
        all_goals
          have HF : Hid _ := hF1
          clear hF1
          go_wp2
          go_ret
          exact HF.out
end Go.Proofs.Ytoopomjkapeknaa
namespace Go.Proofs.Ytoopomjkapeknaa
open Go.RowKit Go.Shelf
set_option linter.unusedVariables false

attribute [local go_sem] Oper.semAt_some

theorem It.zero_ok : It.zero.ok := by unfold It.zero It.ok I.zero I.ok; simp
theorem okT_at {l : List It} (h : ∀ x ∈ l, x.ok) (i : Nat) : (l.getD i It.zero).ok := by
  rw [List.getD_eq_getElem?_getD]
  cases e : l[i]? with
  | none => exact It.zero_ok
  | some x => exact h x (List.mem_of_getElem? e)
/-- what a round is handed -/
abbrev BI := { x : Nat × It // x.2.ok }
abbrev encB (x : BI) : Array Value := #[.int .i64 (x.1.1 : Int), itV x.1.2]
def bkF (l : List It) (h : ∀ x ∈ l, x.ok) (k : Nat) : BI := ⟨(l.length - 1 - k, l.getD (l.length - 1 - k) It.zero), okT_at h _⟩
def uptoB (f : Nat → BI) (k : Nat) : List BI := (List.range k).map f
theorem uptoB_succ (f : Nat → BI) (k : Nat) : uptoB f (k + 1) = uptoB f k ++ [f k] := by simp [uptoB, List.range_succ]
theorem uptoB_length (f : Nat → BI) (k : Nat) : (uptoB f k).length = k := by simp [uptoB]

/-- what a round that goes on keeps -/
def KpB (n₀ : Nat) (W W' : World) : Prop := Below n₀ W W' ∧ FarT W W'
theorem KpB.trans {n₀ : Nat} {a b c : World} (h : KpB n₀ a b) (k : KpB n₀ b c) : KpB n₀ a c := ⟨h.1.trans k.1, fun q cc t f h0 h1 h2 => k.2 q cc t f (h.2 q cc t f h0 h1 h2) h1 h2⟩
theorem KpB.refl (n₀ : Nat) (a : World) : KpB n₀ a a := ⟨Below.refl _ _, fun _ _ _ _ h _ _ => h⟩
theorem cell_obj {w : World} {b : Nat} {v : Value} {t : TypeId} {f : Nat × Nat} (h : w.heap[b]? = some (.cells #[v] t f)) : w.cell? ⟨b, 0, none⟩ = some v := by
  unfold World.cell?
  simp only [h]
  rfl

set_option maxRecDepth 100000 in
set_option maxHeartbeats 4000000 in
theorem back1_in (F : Fence) (n : Nat) (hf : F.fn 61) (hro : F.round = none) (hn : 1 ≤ n) (l Bs n₀ b off len cap : Nat) (f : Nat → BI) (hreach : len ≤ 1000000) (hb : b < n₀) (hfi : ∀ k, k < len → (f k).1.1 = len - 1 - k) (J Jx : List BI → World → Prop)
    (hY : ∀ pre x W, J pre W → pre.length < len → YieldAt F (n - 1) Try.prog l (encB x) W fun e W' =>
      (e = .returned (.bool true) ∧ J (pre ++ [x]) W' ∧ KpB n₀ W W') ∨ (e = .returned (.bool false) ∧ Jx (pre ++ [x]) W'))
    (W : World) (fr : Nat × Nat) (hBs : W.heap[Bs]? = some (.cells #[.slice (some ⟨b, off, none⟩) len cap] 41 fr)) (hc : ∀ k, k < len → PI W b (off + (len - 1 - k) * 6) (f k).1.2) (h0 : J [] W) :
    CallsIn F n Try.prog 61 #[.func (.yield l) #[] #[], .pointer (some ⟨Bs, 0, none⟩)] W fun e W' => (∃ v, e = .returned v) ∧
      ((∃ ys, ys = uptoB f len ∧ J ys W') ∨ (∃ pre, (∃ k, k ≤ len ∧ pre = uptoB f k) ∧ Jx pre W')) := by
  have hBc := cell_obj hBs
  have hw0 : IntKind.i64.wrap ((len : Int) - 1) = (len : Int) - 1 := by rw [IntKind.wrap_i64]; omega
  have HC : Hid (∀ wr, KpB n₀ W wr → wr.cell? ⟨Bs, 0, none⟩ = some (.slice (some ⟨b, off, none⟩) len cap) ∧ ∀ k, k < len → PI wr b (off + (len - 1 - k) * 6) (f k).1.2) := fun wr h => ⟨cell_obj (h.2 _ _ _ _ hBs (by decide) (by decide)), fun k hk => by
    obtain ⟨c0, c1, c2, c3, c4, c5⟩ := hc k hk
    exact ⟨(h.1.cell (p := ⟨b, _, none⟩) hb).trans c0, (h.1.cell (p := ⟨b, _, none⟩) hb).trans c1, (h.1.cell (p := ⟨b, _, none⟩) hb).trans c2, (h.1.cell (p := ⟨b, _, none⟩) hb).trans c3, (h.1.cell (p := ⟨b, _, none⟩) hb).trans c4, (h.1.cell (p := ⟨b, _, none⟩) hb).trans c5⟩⟩
  clear hc hBs
  refine callsIn_of_wp Try.func61 rfl hf ?_ hro
  simp only [Try.ntmps61, List.size_toArray, List.length_cons, List.length_nil, Nat.reduceAdd, Nat.reduceSub, Array.replicate_succ, Array.replicate_zero, List.push_toArray, List.append_toArray, List.nil_append, List.cons_append]
  gi_wp2
  gi_loopw [3] (fun i wr => ∃ k : Nat, k ≤ len ∧ i = .int .i64 ((len : Int) - 1 - k) ∧ J (uptoB f k) wr ∧ KpB n₀ W wr)
    (fun i _ => (intOf i + 1).toNat)
  case atStart => exact ⟨0, Nat.zero_le _, by first | rfl | simp, h0, KpB.refl _ _⟩
  case round =>
    obtain ⟨k, hk, rfl, hJs, hnx⟩ := hrel
    by_cases hlt : k < len
    · obtain ⟨hBc2, hcs⟩ := HC.out wr hnx
      have hcx := hcs k hlt
      obtain ⟨fn, tmps, assign, body, hy, hR⟩ := hY _ (f k) wr hJs (by rw [uptoB_length]; exact hlt)
      have hfk := hfi k hlt
      have hi1 : (len : Int) - 1 - k = ((len - 1 - k : Nat) : Int) := by omega
      rw [hi1]
      have hi2 : len - 1 - k < len := by omega
      have hi3 : ((len - 1 - k : Nat) : Int) < (len : Int) := by omega
      have hw1 : IntKind.i64.wrap (((len - 1 - k : Nat) : Int) - 1) = ((len - 1 - k : Nat) : Int) - 1 := by rw [IntKind.wrap_i64]; omega
      have HRel : Hid (((len - 1 - k : Nat) : Int) - 1 = (len : Int) - 1 - ((k + 1 : Nat) : Int)) := by show _ = _; omega
      have HU : Hid (uptoB f (k + 1) = uptoB f k ++ [f k]) := uptoB_succ f k
      dsimp only [encB] at hy
      rw [hfk] at hy
      clear HC hcs
      generalize len - 1 - k = j at *
      generalize f k = fk at *
      obtain ⟨⟨i0, ⟨kd, ⟨c, jt, jf, ik⟩, tg⟩⟩, hok⟩ := fk
      simp only [itV] at hy hcx hfk
      obtain ⟨c0, c1, c2, c3, c4, c5⟩ := hcx
      simp only at c0 c1 c2 c3 c4 c5
      gi_wp2
      refine hR.mono ?_
      rintro e W3 (⟨rfl, hJ3, hk3⟩ | ⟨rfl, hJx3⟩)
      · gi_wp2
        go_roundw
        case rel => exact ⟨k + 1, by omega, by rw [HRel.out], by rw [HU.out]; exact hJ3, hnx.trans hk3⟩
        case measure => simp [intOf]
      · gi_wp2
        refine bodyPost_ret (results_none rfl _ _ _) rfl ?_
        exact ⟨⟨_, rfl⟩, .inr ⟨_, ⟨k + 1, by omega, HU.out.symm⟩, hJx3⟩⟩
    · obtain rfl : k = len := by omega
      have hi1 : (k : Int) - 1 - k = -1 := by omega
      rw [hi1]
      clear HC
      gi_wp2
      go_end0
      exact ⟨⟨_, rfl⟩, .inl ⟨_, rfl, hJs⟩⟩

set_option maxRecDepth 100000 in
set_option maxHeartbeats 1000000 in
theorem back1_nil_in (F : Fence) (n : Nat) (hf : F.fn 61) (hro : F.round = none) (l Bs cap : Nat) (a : Option Addr) (J : List BI → World → Prop) (W : World) (hBs : W.cell? ⟨Bs, 0, none⟩ = some (.slice a 0 cap)) (h0 : J [] W) :
    CallsIn F n Try.prog 61 #[.func (.yield l) #[] #[], .pointer (some ⟨Bs, 0, none⟩)] W fun e W' => (∃ v, e = .returned v) ∧ J [] W' := by
  refine callsIn_of_wp Try.func61 rfl hf ?_ hro
  simp only [Try.ntmps61, List.size_toArray, List.length_cons, List.length_nil, Nat.reduceAdd, Nat.reduceSub, Array.replicate_succ, Array.replicate_zero, List.push_toArray, List.append_toArray, List.nil_append, List.cons_append]
  gi_wp2
  gi_loopw [3] (fun i wr => i = .int .i64 (-1) ∧ J [] wr) (fun _ _ => 0)
  case atStart => exact ⟨rfl, h0⟩
  case round =>
    obtain ⟨rfl, hJs⟩ := hrel
    gi_wp2
    go_end0
    exact ⟨⟨_, rfl⟩, hJs⟩

set_option maxHeartbeats 1000000 in
/-- slices.Backward(s): the slice value is boxed; the function value captures the box. -/
theorem back_any (a : Option Addr) (len cap : Nat) (w : World) :
    Calls Try.prog 42 #[.slice a len cap] w fun e w' => e = .returned (.func (.func 61) #[] #[.pointer (some ⟨w.heap.size, 0, none⟩)]) ∧ w' = w.alloc (.cells #[.slice a len cap] 41) := by
  go_enter Try.func42, Try.ntmps42
  go_wp2
  go_ret
  exact ⟨rfl, rfl⟩

theorem back_stops (F : Fence) (n : Nat) (hf : F.fn 61) (hro : F.round = none) (hn : 1 ≤ n) (Bs n₀ cap : Nat) (a : Option Addr) (it : List It) (ho : ∀ x ∈ it, x.ok) (hreach : it.length ≤ 1000000) (w0 w : World) (hn₀ : w0.heap.size ≤ n₀) (hn₁ : n₀ ≤ w.heap.size) (hb0 : Below w0.heap.size w0 w)
    (fr : Nat × Nat) (hc : w.heap[Bs]? = some (.cells #[.slice a it.length cap] 41 fr)) (hI : TSrc w0 a it) :
    SeqStopsK F n Try.prog 61 #[.pointer (some ⟨Bs, 0, none⟩)] encB (KpB n₀) (fun ys => ys = uptoB (bkF it ho) it.length)
      (fun pre => ∃ k, k ≤ it.length ∧ pre = uptoB (bkF it ho) k) it.length w := fun l J Jx W hW _ _ hY h0 => by
  have hc' := (hW.block Bs (Array.getElem?_eq_some_iff.1 hc).1).trans hc
  have hI' : TSrc W a it := hI.below PI.stays (hb0.trans (hW.mono (Nat.le_trans hn₀ hn₁)))
  rcases hI with rfl | ⟨b, o, rfl, hlt, _⟩
  · exact (back1_nil_in F n hf hro l Bs cap a J W (cell_obj hc') h0).mono fun e W' ⟨he, hj⟩ => ⟨he, .inl ⟨_, rfl, hj⟩⟩
  · refine back1_in F n hf hro hn l Bs n₀ b o it.length cap (bkF it ho) hreach (by omega) (fun k hk => rfl) J Jx hY W fr hc' (fun k hk => ?_) h0
    obtain ⟨b', o', e, _, hp⟩ := hI'.at (i := it.length - 1 - k) (by omega) It.zero
    cases e
    exact hp
end Go.Proofs.Ytoopomjkapeknaa
namespace Go.Proofs.Ytoopomjkapeknaa
open Go.RowKit
set_option linter.unusedVariables false

theorem insCells_cons (x : I) (p : List I) : insCells (x :: p) = [.int .u16 x.c, .int .u8 x.jt, .int .u8 x.jf, .int .u32 x.k] ++ insCells p := rfl

theorem insCells_set (p : List I) (i f : Nat) (hi : i < p.length) (v : Value) (y : I) (h : ([.int .u16 (p.getD i I.zero).c, .int .u8 (p.getD i I.zero).jt, .int .u8 (p.getD i I.zero).jf, .int .u32 (p.getD i I.zero).k] : List Value).set f v = [.int .u16 y.c, .int .u8 y.jt, .int .u8 y.jf, .int .u32 y.k]) (hf : f < 4) :
    (insCells p).set (i * 4 + f) v = insCells (p.set i y) := by
  induction p generalizing i with
  | nil => simp at hi
  | cons x p ih =>
    cases i with
    | zero =>
      simp only [List.set_cons_zero, insCells_cons]
      rw [List.set_append_left _ _ (by simp; omega)]
      simp only [Nat.zero_mul, Nat.zero_add]
      rw [show ([Value.int .u16 x.c, .int .u8 x.jt, .int .u8 x.jf, .int .u32 x.k] : List Value).set f v = _ from h]
    | succ i =>
      simp only [List.set_cons_succ, insCells_cons]
      rw [List.set_append_right _ _ (by simp; omega)]
      rw [show (i + 1) * 4 + f - ([Value.int .u16 x.c, .int .u8 x.jt, .int .u8 x.jf, .int .u32 x.k] : List Value).length = i * 4 + f by simp; omega]
      rw [ih i (by simpa using hi) h]

section
variable {w : World} {B g cap : Nat} {p : List I} {i : Nat}
theorem ownsI_s (h : ownsI w B (.slice (some ⟨g, 0, none⟩) p.length cap) p) (hi : i < p.length) (f : Nat) (hf : f < 4) (v : Value) (y : I)
    (e : ([.int .u16 (p.getD i I.zero).c, .int .u8 (p.getD i I.zero).jt, .int .u8 (p.getD i I.zero).jf, .int .u32 (p.getD i I.zero).k] : List Value).set f v = [.int .u16 y.c, .int .u8 y.jt, .int .u8 y.jf, .int .u32 y.k]) :
    ownsI (w.setCell ⟨g, i * 4 + f, none⟩ v) B (.slice (some ⟨g, 0, none⟩) p.length cap) (p.set i y) := by
  have h1 := (World.ownsRow.stored h (i * 4 + f) v).1
  rw [insCells_set p i f hi v y e hf] at h1
  simpa [ownsI] using h1
theorem ownsI_s0 (h : ownsI w B (.slice (some ⟨g, 0, none⟩) p.length cap) p) (hi : i < p.length) (v : Int) :
    ownsI (w.setCell ⟨g, i * 4, none⟩ (.int .u16 v)) B (.slice (some ⟨g, 0, none⟩) p.length cap) (p.set i { p.getD i I.zero with c := v }) := ownsI_s h hi 0 (by omega) _ _ rfl
theorem ownsI_s1 (h : ownsI w B (.slice (some ⟨g, 0, none⟩) p.length cap) p) (hi : i < p.length) (v : Int) :
    ownsI (w.setCell ⟨g, i * 4 + 1, none⟩ (.int .u8 v)) B (.slice (some ⟨g, 0, none⟩) p.length cap) (p.set i { p.getD i I.zero with jt := v }) := ownsI_s h hi 1 (by omega) _ _ rfl
theorem ownsI_s2 (h : ownsI w B (.slice (some ⟨g, 0, none⟩) p.length cap) p) (hi : i < p.length) (v : Int) :
    ownsI (w.setCell ⟨g, i * 4 + 2, none⟩ (.int .u8 v)) B (.slice (some ⟨g, 0, none⟩) p.length cap) (p.set i { p.getD i I.zero with jf := v }) := ownsI_s h hi 2 (by omega) _ _ rfl
theorem ownsI_s3 (h : ownsI w B (.slice (some ⟨g, 0, none⟩) p.length cap) p) (hi : i < p.length) (v : Int) :
    ownsI (w.setCell ⟨g, i * 4 + 3, none⟩ (.int .u32 v)) B (.slice (some ⟨g, 0, none⟩) p.length cap) (p.set i { p.getD i I.zero with k := v }) := ownsI_s h hi 3 (by omega) _ _ rfl
theorem getD_set (hi : i < p.length) (y : I) : (p.set i y).getD i I.zero = y := by
  rw [List.getD_eq_getElem?_getD, List.getElem?_set_self hi]; rfl
theorem ownsI_n {n : Nat} (hn : p.length = n) (h : w.ownsRow B 51 4 (.slice (some ⟨g, 0, none⟩) n cap) n (insCells p)) (hi : i < p.length) (f : Nat) (hf : f < 4) (v : Value) (y : I)
    (e : ([.int .u16 (p.getD i I.zero).c, .int .u8 (p.getD i I.zero).jt, .int .u8 (p.getD i I.zero).jf, .int .u32 (p.getD i I.zero).k] : List Value).set f v = [.int .u16 y.c, .int .u8 y.jt, .int .u8 y.jf, .int .u32 y.k]) :
    (w.setCell ⟨g, i * 4 + f, none⟩ v).ownsRow B 51 4 (.slice (some ⟨g, 0, none⟩) n cap) n (insCells (p.set i y)) := by
  subst hn
  have h1 := (World.ownsRow.stored h (i * 4 + f) v).1
  rw [insCells_set p i f hi v y e hf] at h1
  exact h1
theorem ownsI_all {n : Nat} (hn : p.length = n) (h : w.ownsRow B 51 4 (.slice (some ⟨g, 0, none⟩) n cap) n (insCells p)) (hi : i < p.length) (y : I) :
    ((((w.setCell ⟨g, i * 4, none⟩ (.int .u16 y.c)).setCell ⟨g, i * 4 + 1, none⟩ (.int .u8 y.jt)).setCell ⟨g, i * 4 + 2, none⟩ (.int .u8 y.jf)).setCell ⟨g, i * 4 + 3, none⟩ (.int .u32 y.k)).ownsRow B 51 4 (.slice (some ⟨g, 0, none⟩) n cap) n (insCells (p.set i y)) := by
  have a0 := ownsI_n hn h hi 0 (by omega) (.int .u16 y.c) { p.getD i I.zero with c := y.c } rfl
  have a1 := ownsI_n (by simpa using hn) a0 (by simpa using hi) 1 (by omega) (.int .u8 y.jt) { p.getD i I.zero with c := y.c, jt := y.jt } (by rw [getD_set hi]; rfl)
  rw [List.set_set] at a1
  have a2 := ownsI_n (by simpa using hn) a1 (by simpa using hi) 2 (by omega) (.int .u8 y.jf) { p.getD i I.zero with c := y.c, jt := y.jt, jf := y.jf } (by rw [getD_set hi]; rfl)
  rw [List.set_set] at a2
  have a3 := ownsI_n (by simpa using hn) a2 (by simpa using hi) 3 (by omega) (.int .u32 y.k) y (by rw [getD_set hi]; rfl)
  rw [List.set_set] at a3
  exact a3
end
end Go.Proofs.Ytoopomjkapeknaa
