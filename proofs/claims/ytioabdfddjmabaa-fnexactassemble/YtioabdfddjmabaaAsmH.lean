/-
  CONTRACT of the program's branch.
-/
import Derived.Test.YtioabdfddjmabaaAsmG
namespace Go.Proofs.Ytioabdfddjmabaa
open Go.RowKit
set_option linter.unusedVariables false

theorem FarL.below {L : Nat} {v : Value} {w w1 w2 : World} (h : FarL L v w1 w2) (hb : Below w.heap.size w w1) : FarL L v w w2 := fun q hq h1 h2 => (h q (Nat.lt_of_lt_of_le hq hb.size) h1 h2).trans (hb.block q hq)
def BrPost (L Bm n : Nat) (p : List I) (m : Mk) (w : World) (e : Ending) (w' : World) : Prop := e = .returned (.tuple #[]) ∧ (∃ v', LayS w' L Bm n v' p m) ∧ KB L w w'
theorem brI3 {x : It} {d : Int} (h : x.kind = 3) : brI x d = [⟨5, 0, 0, d⟩] := by unfold brI; rw [if_pos h]
theorem brIn {x : It} {d : Int} (h : x.kind ≠ 3) (hd : d ≤ 255) : brI x d = [tstI x.ins (x.kind == 1) d] := by unfold brI; rw [if_neg h, if_pos hd]
theorem brIf {x : It} {d : Int} (h : x.kind ≠ 3) (hd : ¬ d ≤ 255) : brI x d = [⟨5, 0, 0, d⟩] ++ [tstI x.ins (!(x.kind == 1)) 1] := by unfold brI; rw [if_neg h, if_neg hd]; rfl

set_option maxRecDepth 100000 in
set_option maxHeartbeats 4000000 in
theorem branch_any (w : World) (L Bm n : Nat) (v : Value) (p : List I) (m : Mk) (x : It) (d : Int) (hS : LayS w L Bm n v p m) (hn : p.length ≤ 900000) (hd0 : 0 ≤ d) (hd1 : d ≤ 1000000) :
    Calls Try.prog 37 #[.pointer (some ⟨L, 0, none⟩), itV x, .int .i64 d] w fun e w' => BrPost L Bm n (p ++ brI x d) m w e w' := by
  have HA : Hid (∀ w1 v1 p1 c jt jf k, LayS w1 L Bm n v1 p1 m → p1.length ≤ 1000000 → Calls Try.prog 36 #[.pointer (some ⟨L, 0, none⟩), insV c jt jf k] w1 fun e w' => e = .returned (.tuple #[]) ∧ (∃ v', LayS w' L Bm n v' (p1 ++ [⟨c, jt, jf, k⟩]) m) ∧ KB L w1 w' ∧ FarL L v1 w1 w') := fun w1 v1 p1 c jt jf k h hp => add_any w1 L Bm n v1 p1 m ⟨c, jt, jf, k⟩ h hp
  have HT : Hid (∀ w1 c jt jf k b q, Calls Try.prog 39 #[insV c jt jf k, .bool b, .int .u8 q] w1 fun e w' => ∃ c' jt' jf' k', (⟨c', jt', jf', k'⟩ : I) = tstI ⟨c, jt, jf, k⟩ b q ∧ e = .returned (insV c' jt' jf' k') ∧ KB w1.heap.size w1 w') := fun w1 c jt jf k b q => (testOf_any c jt jf k b q w1).mono (by
    rintro e w' ⟨h1, h2⟩
    exact ⟨_, _, _, _, rfl, h1, h2⟩)
  have HPo : Hid (∀ w' v' q, p ++ brI x d = q → LayS w' L Bm n v' q m → KB L w w' → BrPost L Bm n (p ++ brI x d) m w (.returned (.tuple #[])) w') := fun w' v' q e h1 h2 => ⟨rfl, ⟨v', e ▸ h1⟩, h2⟩
  have HB3 : Hid (x.kind = 3 → p ++ brI x d = p ++ [⟨5, 0, 0, d⟩]) := fun h => by rw [brI3 h]
  have HBn : Hid (x.kind ≠ 3 → d ≤ 255 → ∀ y, y = tstI x.ins (x.kind == 1) d → p ++ brI x d = p ++ [y]) := fun h h1 y hy => by rw [brIn h h1, hy]
  have HBf : Hid (x.kind ≠ 3 → ¬ d ≤ 255 → ∀ y, y = tstI x.ins (!(x.kind == 1)) 1 → p ++ brI x d = p ++ [⟨5, 0, 0, d⟩] ++ [y]) := fun h h1 y hy => by rw [brIf h h1, hy, List.append_assoc]
  generalize brI x d = bl at *
  obtain ⟨kd, ⟨c, jt, jf, k⟩, tg⟩ := x
  simp only [itV] at HB3 HBn HBf ⊢
  have O := (Box6.new w 40 (.int .i64 kd) (.int .u16 c) (.int .u8 jt) (.int .u8 jf) (.int .u32 k) (.int .i64 tg)).keep ((Below.refl _ _).alloc (Nat.le_refl _) (.cells #[.int .u16 5, .int .u8 0, .int .u8 0, .int .u32 d] 38))
  have hB2 : Below w.heap.size w ((w.alloc (.cells #[.int .i64 kd, .int .u16 c, .int .u8 jt, .int .u8 jf, .int .u32 k, .int .i64 tg] 40)).alloc (.cells #[.int .u16 5, .int .u8 0, .int .u8 0, .int .u32 d] 38)) := ((Below.refl _ _).alloc (Nat.le_refl _) _).alloc (by simp) _
  have K2 : KB L w ((w.alloc (.cells #[.int .i64 kd, .int .u16 c, .int .u8 jt, .int .u8 jf, .int .u32 k, .int .i64 tg] 40)).alloc (.cells #[.int .u16 5, .int .u8 0, .int .u8 0, .int .u32 d] 38)) := ((KB.refl L w).alloc (Nat.le_of_lt hS.lt) _).alloc (by simp; have := hS.lt; omega) _
  have S2 := hS.keep hB2
  have hvo : some w.heap.size ≠ v.ownBlock := fun e => by have := (hS.own.lt _ e.symm).2; omega
  have hLs := hS.lt
  have hw : IntKind.u32.wrap d = d := by rw [IntKind.wrap_u32']; omega
  go_enter Try.func37, Try.ntmps37
  by_cases h3 : kd = 3
  · subst h3
    go_wp2_with fail
    refine (HA.out _ v p 5 0 0 d S2 (by omega)).mono ?_
    rintro _ w1 ⟨rfl, ⟨v1, hS1⟩, hK1, _⟩
    have HF : Hid _ := HPo.out w1 v1 _ (HB3.out trivial) hS1 (K2.trans hK1)
    clear HA HT HPo HB3 HBn HBf O hB2 K2 S2 hS1 hK1
    go_wp2
    go_end0
    first | exact HF.out | exact ⟨rfl, HF.out.2⟩
  · by_cases h1 : kd = 1
    · subst h1
      by_cases hd : d ≤ 255
      · have HY : Hid (∀ y, y = tstI ⟨c, jt, jf, k⟩ true d → p ++ bl = p ++ [y]) := fun y hy => HBn.out h3 hd y (by rw [hy]; rfl)
        have hd8 : IntKind.u8.wrap d = d := by rw [IntKind.wrap_u8]; omega
        clear HB3 HBn HBf
        go_wp2_with fail
        generalize ((w.alloc (.cells #[.int .i64 1, .int .u16 c, .int .u8 jt, .int .u8 jf, .int .u32 k, .int .i64 tg] 40)).alloc (.cells #[.int .u16 5, .int .u8 0, .int .u8 0, .int .u32 d] 38)) = W at *
        refine (HT.out _ c jt jf k true d).mono ?_
        rintro _ w1 ⟨c', jt', jf', k', hy, rfl, hK1⟩
        have S3 := S2.keep hK1.b
        have K3 := K2.trans (hK1.mono (show L ≤ W.heap.size by have := S2.lt; omega))
        clear S2 K2 hK1 HT hB2 O
        go_wp2_with fail
        refine (HA.out _ v p c' jt' jf' k' S3 (by omega)).mono ?_
        rintro _ w2 ⟨rfl, ⟨v1, hS1⟩, hK1, _⟩
        have HF : Hid _ := HPo.out w2 v1 _ (HY.out _ hy) hS1 (K3.trans hK1)
        clear HA HPo HY K3 S3 hS1 hK1
        go_wp2
        go_end0
        first | exact HF.out | exact ⟨rfl, HF.out.2⟩
      · have HY : Hid (∀ y, y = tstI ⟨c, jt, jf, k⟩ false 1 → p ++ bl = p ++ [⟨5, 0, 0, d⟩] ++ [y]) := fun y hy => HBf.out h3 hd y (by rw [hy]; rfl)
        clear HB3 HBn HBf
        go_wp2_with fail
        generalize ((w.alloc (.cells #[.int .i64 1, .int .u16 c, .int .u8 jt, .int .u8 jf, .int .u32 k, .int .i64 tg] 40)).alloc (.cells #[.int .u16 5, .int .u8 0, .int .u8 0, .int .u32 d] 38)) = W at *
        refine (HA.out _ v p 5 0 0 d S2 (by omega)).mono ?_
        rintro _ w1 ⟨rfl, ⟨v1, hS1⟩, hK1, hF1⟩
        have hwb : w1.heap[w.heap.size]? = W.heap[w.heap.size]? := hF1 _ O.lt (by omega) hvo
        have o1 := (World.cell?_of_block (a := ⟨w.heap.size, 1, none⟩) hwb).trans O.c1
        have o2 := (World.cell?_of_block (a := ⟨w.heap.size, 2, none⟩) hwb).trans O.c2
        have o3 := (World.cell?_of_block (a := ⟨w.heap.size, 3, none⟩) hwb).trans O.c3
        have o4 := (World.cell?_of_block (a := ⟨w.heap.size, 4, none⟩) hwb).trans O.c4
        have K3 := K2.trans hK1
        clear S2 K2 hK1 hB2 O hwb hF1
        go_wp2_with fail
        refine (HT.out _ c jt jf k false 1).mono ?_
        rintro _ w2 ⟨c', jt', jf', k', hy, rfl, hK2⟩
        have S3 := hS1.keep hK2.b
        have K4 := K3.trans (hK2.mono (show L ≤ w1.heap.size by have := hS1.lt; omega))
        clear hS1 K3 hK2 HT o1 o2 o3 o4
        have hpl : (p ++ [(⟨5, 0, 0, d⟩ : I)]).length ≤ 1000000 := by simp; omega
        go_wp2_with fail
        refine (HA.out _ v1 _ c' jt' jf' k' S3 hpl).mono ?_
        rintro _ w3 ⟨rfl, ⟨v2, hS2⟩, hK2, _⟩
        have HF : Hid _ := HPo.out w3 v2 _ (HY.out _ hy) hS2 (K4.trans hK2)
        clear HA HPo HY K4 S3 hS2 hK2
        go_wp2
        go_end0
        first | exact HF.out | exact ⟨rfl, HF.out.2⟩
    · have hk1 : (kd == 1) = false := by simpa using h1
      by_cases hd : d ≤ 255
      · have HY : Hid (∀ y, y = tstI ⟨c, jt, jf, k⟩ false d → p ++ bl = p ++ [y]) := fun y hy => HBn.out h3 hd y (by simp [hy, hk1])
        have hd8 : IntKind.u8.wrap d = d := by rw [IntKind.wrap_u8]; omega
        clear HB3 HBn HBf
        go_wp2_with fail
        generalize ((w.alloc (.cells #[.int .i64 kd, .int .u16 c, .int .u8 jt, .int .u8 jf, .int .u32 k, .int .i64 tg] 40)).alloc (.cells #[.int .u16 5, .int .u8 0, .int .u8 0, .int .u32 d] 38)) = W at *
        refine (HT.out _ c jt jf k false d).mono ?_
        rintro _ w1 ⟨c', jt', jf', k', hy, rfl, hK1⟩
        have S3 := S2.keep hK1.b
        have K3 := K2.trans (hK1.mono (show L ≤ W.heap.size by have := S2.lt; omega))
        clear S2 K2 hK1 HT hB2 O
        go_wp2_with fail
        refine (HA.out _ v p c' jt' jf' k' S3 (by omega)).mono ?_
        rintro _ w2 ⟨rfl, ⟨v1, hS1⟩, hK1, _⟩
        have HF : Hid _ := HPo.out w2 v1 _ (HY.out _ hy) hS1 (K3.trans hK1)
        clear HA HPo HY K3 S3 hS1 hK1
        go_wp2
        go_end0
        first | exact HF.out | exact ⟨rfl, HF.out.2⟩
      · have HY : Hid (∀ y, y = tstI ⟨c, jt, jf, k⟩ true 1 → p ++ bl = p ++ [⟨5, 0, 0, d⟩] ++ [y]) := fun y hy => HBf.out h3 hd y (by simp [hy, hk1])
        clear HB3 HBn HBf
        go_wp2_with fail
        generalize ((w.alloc (.cells #[.int .i64 kd, .int .u16 c, .int .u8 jt, .int .u8 jf, .int .u32 k, .int .i64 tg] 40)).alloc (.cells #[.int .u16 5, .int .u8 0, .int .u8 0, .int .u32 d] 38)) = W at *
        refine (HA.out _ v p 5 0 0 d S2 (by omega)).mono ?_
        rintro _ w1 ⟨rfl, ⟨v1, hS1⟩, hK1, hF1⟩
        have hwb : w1.heap[w.heap.size]? = W.heap[w.heap.size]? := hF1 _ O.lt (by omega) hvo
        have o1 := (World.cell?_of_block (a := ⟨w.heap.size, 1, none⟩) hwb).trans O.c1
        have o2 := (World.cell?_of_block (a := ⟨w.heap.size, 2, none⟩) hwb).trans O.c2
        have o3 := (World.cell?_of_block (a := ⟨w.heap.size, 3, none⟩) hwb).trans O.c3
        have o4 := (World.cell?_of_block (a := ⟨w.heap.size, 4, none⟩) hwb).trans O.c4
        have K3 := K2.trans hK1
        clear S2 K2 hK1 hB2 O hwb hF1
        go_wp2_with fail
        refine (HT.out _ c jt jf k true 1).mono ?_
        rintro _ w2 ⟨c', jt', jf', k', hy, rfl, hK2⟩
        have S3 := hS1.keep hK2.b
        have K4 := K3.trans (hK2.mono (show L ≤ w1.heap.size by have := hS1.lt; omega))
        clear hS1 K3 hK2 HT o1 o2 o3 o4
        have hpl : (p ++ [(⟨5, 0, 0, d⟩ : I)]).length ≤ 1000000 := by simp; omega
        go_wp2_with fail
        refine (HA.out _ v1 _ c' jt' jf' k' S3 hpl).mono ?_
        rintro _ w3 ⟨rfl, ⟨v2, hS2⟩, hK2, _⟩
        have HF : Hid _ := HPo.out w3 v2 _ (HY.out _ hy) hS2 (K4.trans hK2)
        clear HA HPo HY K4 S3 hS2 hK2
        go_wp2
        go_end0
        first | exact HF.out | exact ⟨rfl, HF.out.2⟩
end Go.Proofs.Ytioabdfddjmabaa
