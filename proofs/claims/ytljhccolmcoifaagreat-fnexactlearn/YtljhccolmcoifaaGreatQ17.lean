/-
  LpgI, LpgJ, LrnB
-/
import Derived.Test.YtljhccolmcoifaaGreatQ16
import Derived.Test.YtljhccolmcoifaaGreatQ11
import Derived.Test.YtljhccolmcoifaaGreatQ14
import Derived.Deep.RegionHeld3
namespace Go.Proofs.YtljhccolmcoifaaGreat
open Go.RowKit Go.Shelf
set_option linter.unusedVariables false
set_option linter.unusedSimpArgs false

attribute [local go_sem] Oper.semAt_some


theorem form_some {w : World} {B t s n : Nat} {v : Value} {xs : List Value} (h : w.ownsRow B t s v n xs) (hn : 0 < n) : ∃ g cap, v = .slice (some ⟨g, 0, none⟩) n cap := by
  obtain ⟨_, ⟨_, h0⟩ | ⟨g, cap, _, rfl, _⟩⟩ := h
  · omega
  · exact ⟨g, cap, rfl⟩
theorem form_nil {w : World} {B t s n : Nat} {v : Value} {xs : List Value} (h : w.ownsRow B t s v n xs) : ∃ a cap, v = .slice a n cap := by
  obtain ⟨_, ⟨rfl, rfl⟩ | ⟨g, cap, _, rfl, _⟩⟩ := h
  · exact ⟨_, _, rfl⟩
  · exact ⟨_, _, rfl⟩
theorem BR.turn {t s : Nat} {w W W' : World} {v : Value} {n : Nat} {xs : List Value} {row : Option Nat} {B : Nat} (h : BR t s w W v n xs) (hB : w.heap.size ≤ B) (hg : W.grownBy W' row) (hr : ∀ r, row = some r → B ≤ r ∧ ∃ o : Obj, W.heap[r]? = some o ∧ o.isCells = false) : BR t s w W' v n xs := by
  have hr2 := fun r e => (hr r e).2
  refine ⟨ownFrom_below (β := Unit) (Nat.le_refl _) hB () W W' row h.b hg hr, cell_kept h.c hg hr2, (frozen_kept h.c hg hr2).trans h.f, row_blockM h.own fun q hq => ?_⟩
  have hlt := (h.own.lt q hq).2
  refine hg.block q hlt fun e => ?_
  obtain ⟨o, h1, h2⟩ := hr2 q e.symm
  obtain ⟨_, ⟨rfl, _⟩ | ⟨g, cap, cur, rfl, _, h3, _⟩⟩ := h.own
  · cases hq
  · cases hq; rw [h1] at h3; cases h3; cases h2
theorem BR.app {t s : Nat} {w W w3 : World} {v : Value} {n m gg cap : Nat} {xs ys : List Value} {o : Obj} (h : BR t s w W v n xs) (hown : w3.ownsRow (w.heap.size + 1) t s (.slice (some ⟨gg, 0, none⟩) m cap) m ys) (hg : (W.alloc o).grownBy w3 v.ownBlock) :
    w3.cell? ⟨w.heap.size, 0, none⟩ = some v ∧ w3.frozen? ⟨w.heap.size, 0, none⟩ = false ∧ KeepsOthers W (w3.setCell ⟨w.heap.size, 0, none⟩ (.slice (some ⟨gg, 0, none⟩) m cap)) ∧ Below w.heap.size W (w3.setCell ⟨w.heap.size, 0, none⟩ (.slice (some ⟨gg, 0, none⟩) m cap)) ∧ BR t s w (w3.setCell ⟨w.heap.size, 0, none⟩ (.slice (some ⟨gg, 0, none⟩) m cap)) (.slice (some ⟨gg, 0, none⟩) m cap) m ys := by
  have h' := h.keep ((Below.refl _ _).alloc (Nat.le_refl _) o)
  obtain ⟨x1, x2, x3⟩ := h'.next hown hg
  have hs := h.b.size
  refine ⟨x1, x2, ((KeepsOthers.alloc W o).trans (KeepsOthers.of_grownBy hg fun j ob hj hob => ?_)).trans (KeepsOthers.setCell _ _ _), ((((Below.refl _ _).alloc hs o).grown hg (by simp; omega) (fun k e => by have := (h.own.lt k e).1; omega)).setCell (p := ⟨w.heap.size, 0, none⟩) (Nat.le_refl _) _), x3⟩
  have h2 := h'.own
  obtain ⟨_, ⟨rfl, _⟩ | ⟨g, cap', cur, rfl, _, h3, _⟩⟩ := h2
  · cases hj
  · cases hj; rw [hob] at h3; cases h3; rfl
/-- a slice that collects what comes -/
def ColP {α : Type} (t s : Nat) (enc : α → List Value) (S : List α → Prop) (w : World) (e : Ending) (w' : World) : Prop := ∃ v xs, e = .returned v ∧ S xs ∧ w'.ownsRow w.heap.size t s v xs.length (xs.flatMap enc) ∧ Below w.heap.size w w'

def cIq (x : Id2) : List Value := [.int .u32 x.1, .int .u32 x.2]
theorem infoAqI : (Tryz.prog.info? 59).map (fun i => (i.zero, i.size, i.bytes)) = some (some (.agg #[.int .u32 0, .int .u32 0]), 2, 8) := by kernel_rfl

set_option maxRecDepth 100000 in
set_option maxHeartbeats 4000000 in
theorem appSeqI_any (gf : Nat) (lb : Array Value) (S Sp : List Id2 → Prop) (N : Nat) (w : World) (eg : ∀ args w, (callFunc gf args).run Tryz.prog w = .ok (.enter gf args) w)
    (hseq : SeqStopsK Fence.wide 2 Tryz.prog gf lb (fun x : Id2 => #[idV x]) (KpS w.heap.size) S Sp N w) (hN : N ≤ 1000) :
    Calls Tryz.prog 52 #[.slice none 0 0, .func (.func gf) #[] lb] w (ColP 59 2 (cIq) S w) := by
  obtain ⟨i0, hi, hz0, hz1, hz2⟩ := info_parts infoAqI
  have T0 := BR.new 59 2 w 56
  have hs0 : (w.alloc (.cells #[.slice none 0 0] 56)).heap.size = w.heap.size + 1 := by simp
  have hb0 : Below w.heap.size w (w.alloc (.cells #[.slice none 0 0] 56)) := (Below.refl _ _).alloc (Nat.le_refl _) _
  refine (callsIn_wide (n := 3)).1 ?_
  refine callsIn_of_wp_marks Tryz.func52 rfl trivial ?_ rfl
  simp only [Tryz.ntmps52, List.size_toArray, List.length_cons, List.length_nil, Nat.reduceAdd, Nat.reduceSub, Array.replicate_succ, Array.replicate_zero, List.push_toArray, List.append_toArray, List.nil_append, List.cons_append]
  gi_wp2
  generalize w.alloc (.cells #[.slice none 0 0] 56) = W0 at *
  refine wpIn_rangeFunc_ownH rfl (by omega) (gf := gf) (lb := lb) rfl trivial eg hseq KpS.trans (fun W l o o' hl h1 h2 h3 => ?kb) hb0 (fun _ => rfl)
    (fun pre W => ∃ v, BR 59 2 w W v pre.length (pre.flatMap (cIq)))
    (fun _ _ _ => False)
    (fun pre A B row hs hg hr => ?hI)
    (fun c pre A B row hs hg hr => hs)
    ⟨_, T0⟩
    (fun x a' W => ∃ Bx, (W.cell? ⟨Bx, 0, none⟩ = some (.int .u32 x.1) ∧ W.cell? ⟨Bx, 1, none⟩ = some (.int .u32 x.2)) ∧ a' = { tmps := #[.slice none 0 0, .func (.func gf) #[] lb, .pointer (some ⟨w.heap.size, 0, none⟩), undef, .slice none 0 0, .pointer (some ⟨Bx, 0, none⟩), .func (.func gf) #[] lb, idV x, undef, undef, undef, undef, undef], defers := [] })
    (fun x a' _ X Y row hs hg hr => ?hAx)
    ?assign ?body ?done ?stop
  case kb => exact ⟨belowK_b (w := W0) (by omega) W l o o' hl h1 h2 h3, KeepsWalks.putObj _ h1 h3⟩
  case hI =>
    obtain ⟨v, h1⟩ := hs
    exact ⟨v, h1.turn (by omega) hg hr⟩
  case hAx =>
    obtain ⟨Bx, ⟨c0, c1⟩, h3⟩ := hs
    have hr2 := fun r e => (hr r e).2
    exact ⟨Bx, ⟨cell_kept c0 hg hr2, cell_kept c1 hg hr2⟩, h3⟩
  case assign =>
    rintro l pre x W K ⟨v, h1⟩ hK
    have hba : ∀ ob, Below W.heap.size W (W.alloc ob) := fun ob => (Below.refl _ _).alloc (Nat.le_refl _) ob
    have hsW := h1.b.size
    unfold idV at hK ⊢
    gi_wp2
    refine hK _ _ ((KeepsOthers.alloc _ _).from _) ⟨(Below.refl _ W).alloc hsW _, KeepsWalks.alloc _ _⟩ ⟨v, h1.keep (hba _)⟩ ⟨W.heap.size, ⟨by simp, by simp⟩, rfl⟩
  case body =>
    rintro l pre x a' W hl hr ⟨v, h1⟩ ⟨Bx, ⟨c0, c1⟩, rfl⟩ hlt
    obtain ⟨av, cv, rfl⟩ := form_nil h1.own
    have hc := h1.c
    have hbm : pre.length + 1 ≤ maxLen := by unfold maxLen; omega
    have hbd : (pre.length + 1) * 8 ≤ 140737488355328 := by omega
    have hsz := h1.b.size
    have hO := h1.own
    unfold idV
    gi_wp2_with (gi_at_builtin; refine wpListIn_append_own _ rfl _ _ 56 rfl (w.heap.size + 1) 59 i0 _ 2 8 Tryz.underlying56 hi hz0 hz1 hz2 rfl (by decide) (.slice av pre.length cv) pre.length _ rfl (hO.alloc _) ⟨W.heap.size, 0, none⟩ 1 1 (cIq x) rfl rfl (World.news_of_block (t := 59) (fr := (0, 0)) (heap_alloc_new W _)) (by simp [cIq, Value.oneCell']) hbm hbd (by have := cell_ltM hc; simp at this ⊢; omega) ?_; intro v' w3 hown hg3 hnil; obtain ⟨gg, cap', rfl⟩ := form_some hown (by omega); obtain ⟨x1, x2, x3, x4, x5⟩ := h1.app hown hg3)
    exact ⟨x3.from _, ⟨x4, x3.walks⟩, _, by rw [List.flatMap_append, List.length_append]; simpa using x5⟩
  case done =>
    rintro D xs W hD hS ⟨v, h1⟩ hK
    have hc := h1.c
    have HF : Hid (ColP 59 2 (cIq) S w (.returned v) (W.putObj D (.deferred none))) := ⟨v, xs, rfl, hS, (row_blockM (h1.own.mono (by omega)) fun q hq => by
      have hlt := (h1.own.lt q hq).2
      refine (grownBy_putObj' W D (.deferred none)).block q hlt fun e => ?_
      injection e with e
      subst e
      obtain ⟨_, ⟨rfl, _⟩ | ⟨g, cap, cur, rfl, _, h3, _⟩⟩ := h1.own
      · cases hq
      · cases hq; rw [hK] at h3; cases h3), h1.b.trans (belowK_b (w := w) (Nat.le_refl _) _ D _ _ (by omega) hK rfl rfl)⟩
    clear h1
    gi_wp2
    refine ⟨by simp, .inl ⟨_, _, rfl, run_takeDeferred hK, ?_⟩⟩
    exact ⟨v, by simp [results, Tryz.results52, go_sem], HF.out⟩
  case stop => exact fun _ _ _ _ _ _ h _ => h.elim

set_option maxHeartbeats 1000000 in
theorem collectI_any (gf : Nat) (lb : Array Value) (S Sp : List Id2 → Prop) (N : Nat) (w : World) (eg : ∀ args w, (callFunc gf args).run Tryz.prog w = .ok (.enter gf args) w)
    (hseq : SeqStopsK Fence.wide 2 Tryz.prog gf lb (fun x : Id2 => #[idV x]) (KpS w.heap.size) S Sp N w) (hN : N ≤ 1000) :
    Calls Tryz.prog 25 #[.func (.func gf) #[] lb] w (ColP 59 2 (cIq) S w) := by
  go_enter Tryz.func25, Tryz.ntmps25
  have HA : Hid (Calls Tryz.prog 52 #[.slice none 0 0, .func (.func gf) #[] lb] w (ColP 59 2 (cIq) S w)) := appSeqI_any gf lb S Sp N w eg hseq hN
  clear hseq eg
  go_wp2_with fail
  refine Calls.mono HA.out ?_
  rintro _ w1 ⟨v, xs, rfl, h1, h2, h3⟩
  go_wp2
  go_ret
  exact ⟨v, xs, rfl, h1, h2, h3⟩
end Go.Proofs.YtljhccolmcoifaaGreat
namespace Go.Proofs.YtljhccolmcoifaaGreat
open Go.RowKit Go.Shelf
set_option linter.unusedVariables false
set_option linter.unusedSimpArgs false

attribute [local go_sem] Oper.semAt_some


def chV (b o i : Nat) : Value := .slice (some ⟨b, o + i * 6, none⟩) 1 1

def cLq (b o : Nat) (x : Nat) : List Value := [.slice (some ⟨b, o + x * 6, none⟩) 1 1]
theorem infoAqL : (Tryz.prog.info? 64).map (fun i => (i.zero, i.size, i.bytes)) = some (some (.slice none 0 0), 1, 24) := by kernel_rfl

set_option maxRecDepth 100000 in
set_option maxHeartbeats 4000000 in
theorem appSeqL_any (b o : Nat) (gf : Nat) (lb : Array Value) (S Sp : List Nat → Prop) (N : Nat) (w : World) (eg : ∀ args w, (callFunc gf args).run Tryz.prog w = .ok (.enter gf args) w)
    (hseq : SeqStopsK Fence.wide 2 Tryz.prog gf lb (fun x : Nat => #[chV b o x]) (KpS w.heap.size) S Sp N w) (hN : N ≤ 1000) :
    Calls Tryz.prog 82 #[.slice none 0 0, .func (.func gf) #[] lb] w (ColP 64 1 (cLq b o) S w) := by
  obtain ⟨i0, hi, hz0, hz1, hz2⟩ := info_parts infoAqL
  have T0 := BR.new 64 1 w 73
  have hs0 : (w.alloc (.cells #[.slice none 0 0] 73)).heap.size = w.heap.size + 1 := by simp
  have hb0 : Below w.heap.size w (w.alloc (.cells #[.slice none 0 0] 73)) := (Below.refl _ _).alloc (Nat.le_refl _) _
  refine (callsIn_wide (n := 3)).1 ?_
  refine callsIn_of_wp_marks Tryz.func82 rfl trivial ?_ rfl
  simp only [Tryz.ntmps82, List.size_toArray, List.length_cons, List.length_nil, Nat.reduceAdd, Nat.reduceSub, Array.replicate_succ, Array.replicate_zero, List.push_toArray, List.append_toArray, List.nil_append, List.cons_append]
  gi_wp2
  generalize w.alloc (.cells #[.slice none 0 0] 73) = W0 at *
  refine wpIn_rangeFunc_ownH rfl (by omega) (gf := gf) (lb := lb) rfl trivial eg hseq KpS.trans (fun W l o o' hl h1 h2 h3 => ?kb) hb0 (fun _ => rfl)
    (fun pre W => ∃ v, BR 64 1 w W v pre.length (pre.flatMap (cLq b o)))
    (fun _ _ _ => False)
    (fun pre A B row hs hg hr => ?hI)
    (fun c pre A B row hs hg hr => hs)
    ⟨_, T0⟩
    (fun x a' W => a' = { tmps := #[.slice none 0 0, .func (.func gf) #[] lb, .pointer (some ⟨w.heap.size, 0, none⟩), undef, .slice none 0 0, chV b o x, .func (.func gf) #[] lb, chV b o x, undef, undef, undef, undef, undef], defers := [] })
    (fun x a' _ X Y row hs hg hr => hs)
    ?assign ?body ?done ?stop
  case kb => exact ⟨belowK_b (w := W0) (by omega) W l o o' hl h1 h2 h3, KeepsWalks.putObj _ h1 h3⟩
  case hI =>
    obtain ⟨v, h1⟩ := hs
    exact ⟨v, h1.turn (by omega) hg hr⟩
  case assign =>
    rintro l pre x W K ⟨v, h1⟩ hK
    unfold chV at hK ⊢
    gi_wp2
    exact hK _ _ (KeepsFrom.refl _ _) (KpS.refl _ _) ⟨v, h1⟩ rfl
  case body =>
    rintro l pre x a' W hl hr ⟨v, h1⟩ rfl hlt
    obtain ⟨av, cv, rfl⟩ := form_nil h1.own
    have hc := h1.c
    have hbm : pre.length + 1 ≤ maxLen := by unfold maxLen; omega
    have hbd : (pre.length + 1) * 24 ≤ 140737488355328 := by omega
    have hsz := h1.b.size
    have hO := h1.own
    unfold chV
    gi_wp2_with (gi_at_builtin; refine wpListIn_append_own _ rfl _ _ 73 rfl (w.heap.size + 1) 64 i0 _ 1 24 Tryz.underlying73 hi hz0 hz1 hz2 rfl (by decide) (.slice av pre.length cv) pre.length _ rfl (hO.alloc _) ⟨W.heap.size, 0, none⟩ 1 1 (cLq b o x) rfl rfl (World.news_of_block (t := 64) (fr := (0, 0)) (heap_alloc_new W _)) (by simp [cLq, Value.oneCell']) hbm hbd (by have := cell_ltM hc; simp at this ⊢; omega) ?_; intro v' w3 hown hg3 hnil; obtain ⟨gg, cap', rfl⟩ := form_some hown (by omega); obtain ⟨x1, x2, x3, x4, x5⟩ := h1.app hown hg3)
    exact ⟨x3.from _, ⟨x4, x3.walks⟩, _, by rw [List.flatMap_append, List.length_append]; simpa using x5⟩
  case done =>
    rintro D xs W hD hS ⟨v, h1⟩ hK
    have hc := h1.c
    have HF : Hid (ColP 64 1 (cLq b o) S w (.returned v) (W.putObj D (.deferred none))) := ⟨v, xs, rfl, hS, (row_blockM (h1.own.mono (by omega)) fun q hq => by
      have hlt := (h1.own.lt q hq).2
      refine (grownBy_putObj' W D (.deferred none)).block q hlt fun e => ?_
      injection e with e
      subst e
      obtain ⟨_, ⟨rfl, _⟩ | ⟨g, cap, cur, rfl, _, h3, _⟩⟩ := h1.own
      · cases hq
      · cases hq; rw [hK] at h3; cases h3), h1.b.trans (belowK_b (w := w) (Nat.le_refl _) _ D _ _ (by omega) hK rfl rfl)⟩
    clear h1
    gi_wp2
    refine ⟨by simp, .inl ⟨_, _, rfl, run_takeDeferred hK, ?_⟩⟩
    exact ⟨v, by simp [results, Tryz.results82, go_sem], HF.out⟩
  case stop => exact fun _ _ _ _ _ _ h _ => h.elim

set_option maxHeartbeats 1000000 in
theorem collectL_any (b o : Nat) (gf : Nat) (lb : Array Value) (S Sp : List Nat → Prop) (N : Nat) (w : World) (eg : ∀ args w, (callFunc gf args).run Tryz.prog w = .ok (.enter gf args) w)
    (hseq : SeqStopsK Fence.wide 2 Tryz.prog gf lb (fun x : Nat => #[chV b o x]) (KpS w.heap.size) S Sp N w) (hN : N ≤ 1000) :
    Calls Tryz.prog 61 #[.func (.func gf) #[] lb] w (ColP 64 1 (cLq b o) S w) := by
  go_enter Tryz.func61, Tryz.ntmps61
  have HA : Hid (Calls Tryz.prog 82 #[.slice none 0 0, .func (.func gf) #[] lb] w (ColP 64 1 (cLq b o) S w)) := appSeqL_any b o gf lb S Sp N w eg hseq hN
  clear hseq eg
  go_wp2_with fail
  refine Calls.mono HA.out ?_
  rintro _ w1 ⟨v, xs, rfl, h1, h2, h3⟩
  go_wp2
  go_ret
  exact ⟨v, xs, rfl, h1, h2, h3⟩
end Go.Proofs.YtljhccolmcoifaaGreat
namespace Go.Proofs.YtljhccolmcoifaaGreat
open Go.RowKit Go.Deep
set_option linter.unusedVariables false

def lenU : Value → Nat
  | .slice _ n _ => n
  | _ => 0

set_option maxRecDepth 100000 in
set_option maxHeartbeats 8000000 in
theorem l4different_any (t : List C) (a : Option Addr) (cap j : Nat) (w : World) (hs : CSrc w a t) (hc : ∀ c ∈ t, okLa c.args) (hj : j < 6) (hn : t.length ≤ 1000) :
    Calls Tryz.prog 73 #[.slice a t.length cap, .int .i64 (j : Int)] w fun e w' => ∃ v' d, e = .returned v' ∧ Diff (t.map C.args) j d ∧ ownsU w' w.heap.size v' d ∧ Below w.heap.size w w' := by
  obtain ⟨i0, hi, hz0, hz1, hz2⟩ := info_parts info61
  have HV : Hid (Calls Tryz.prog 75 #[.slice a t.length cap, .int .i64 (j : Int), .int .i64 (-1), .int .u64 0] w fun e w' => ∃ v', e = .returned v' ∧ ownsU w' w.heap.size v' ((t.map C.args).map fun x => x.getD j 0) ∧ Below w.heap.size w w') := by
    have := l4values_any t a cap j (-1) 0 w hs hc hj (by omega) (by omega) hn
    rw [pickL_all _ _ (by omega)] at this
    exact this
  have hll : ((t.map C.args).map fun x => x.getD j 0).length ≤ 1000 := by rw [List.length_map, List.length_map]; exact hn
  unfold Diff
  generalize ((t.map C.args).map fun x => x.getD j 0) = l at *
  clear hs hc
  generalize t.length = nt at *
  obtain ⟨f, hf⟩ : ∃ f : Nat → Int, f = fun i => l.getD i 0 := ⟨_, rfl⟩
  have HNx : Hid (∀ out (b : Nat), SelG ordI l out → BestI l out l.length b → SelG ordI l (out ++ [f b])) := fun out b h1 h2 => by rw [hf]; exact h2.next h1
  have HSk : Hid (∀ out k best, BestI l out k best → ¬ CandI out (f k) → BestI l out (k + 1) best) := fun out k best h1 h2 => h1.skip (by rw [hf] at h2; exact h2)
  have HFi : Hid (∀ out k, BestI l out k (-1) → CandI out (f k) → BestI l out (k + 1) k) := fun out k h1 h2 => h1.first (by rw [hf] at h2; exact h2)
  have HLt : Hid (∀ out k (b : Nat), BestI l out k b → CandI out (f k) → f k < f b → BestI l out (k + 1) k) := fun out k b h1 h2 h3 => h1.less (by rw [hf] at h2; exact h2) (by rw [hf] at h3; exact h3)
  have HSa : Hid (∀ out k (b : Nat), BestI l out k b → ¬ f k < f b → BestI l out (k + 1) b) := fun out k b h1 h3 => h1.same (by rw [hf] at h3; exact h3)
  have HDn : Hid (∀ out, SelG ordI l out → BestI l out l.length (-1) → DistG ordI l out) := fun out h1 h2 => h2.done h1
  have HLe : Hid (∀ out, SelG ordI l out → out.length ≤ l.length ∧ AscG ordI out) := fun out h => ⟨h.len linI, h.asc⟩
  go_enter Tryz.func73, Tryz.ntmps73
  go_wp2_with fail
  refine HV.out.mono ?_
  rintro _ w1 ⟨v6, rfl, O6, B1⟩
  obtain ⟨a6, c6, rfl, hu⟩ := ownsU_src O6
  have HU : Hid (∀ wr, Below w1.heap.size w1 wr → ∀ k, k < l.length → ∃ b o, a6 = some ⟨b, o, none⟩ ∧ wr.cell? ⟨b, o + k, none⟩ = some (.int .u64 (f k))) := fun wr hb k hk => by
    obtain ⟨b, o, h1, h2⟩ := usrc_at (hu.below hb) (by omega)
    rw [hf]
    exact ⟨b, o, h1, h2 k hk⟩
  have h1s := B1.size
  clear O6 hu HV
  obtain ⟨n, hnl⟩ : ∃ n, l.length = n := ⟨_, rfl⟩
  rw [hnl] at HNx HDn HLe HU hll ⊢
  clear hnl hf
  go_wp2_with fail
  go_loopw [5] (fun s' wr => ∃ (s : Value) (out : List Int), s = s' ∧ ownsU wr w1.heap.size s out ∧ Hid (SelG ordI l out) ∧ Below w1.heap.size w1 wr) (fun s _ => n + 1 - lenU s)
  case atStart => exact ⟨_, [], rfl, World.ownsRow_nil _ _ _ _, SelG.nil l, Below.refl _ _⟩
  case round =>
    obtain ⟨s, out, hss, O, HS, B⟩ := hrel
    subst hss
    rename World => WA
    obtain ⟨au, cu, rfl, hus⟩ := ownsU_src O
    obtain ⟨hol, hasc⟩ := HLe.out _ HS.out
    have HLs : Hid (∀ ot z, out = ot ++ [z] → ∃ b o, au = some ⟨b, o, none⟩ ∧ b < WA.heap.size ∧ WA.cell? ⟨b, o + ot.length, none⟩ = some (.int .u64 z)) := fun ot z e => by
      obtain ⟨b, o, h1, h2⟩ := usrc_at hus (by rw [e]; simp)
      have h3 := h2 ot.length (by rw [e]; simp)
      rw [e, List.getD_eq_getElem?_getD, List.getElem?_append_right (Nat.le_refl _)] at h3
      simp at h3
      exact ⟨b, o, h1, cell_ltK h3, h3⟩
    have hb0 : Below WA.heap.size WA WA := Below.refl _ _
    clear HLe hus
    go_wp2_with fail
    go_loopw [7, 8] (fun bt i wr => ∃ (k : Nat) (best : Int), k ≤ n ∧ i = .int .i64 k ∧ bt = .int .i64 best ∧ Hid (BestI l out k best) ∧ Below WA.heap.size WA wr) (fun _ i _ => n - (intOf i).toNat)
    case atStart => exact ⟨0, -1, by omega, rfl, rfl, BestI.zero _ _, hb0⟩
    case round =>
      clear hb0
      obtain ⟨k, best, hk, rfl, rfl, HB, B0⟩ := hrel
      rename World => W0
      by_cases hkn : k < n
      · obtain ⟨b, o, rfl, ck⟩ := HU.out W0 (B.trans (B0.mono B.size)) k hkn
        have hkn' : (k : Int) < (n : Int) := by omega
        have HBc : Hid (∀ bi : Nat, best = bi → bi < n → W0.cell? ⟨b, o + bi, none⟩ = some (.int .u64 (f bi))) := fun bi _ hbi => by
          obtain ⟨b', o', e, h⟩ := HU.out W0 (B.trans (B0.mono B.size)) bi hbi
          cases e
          exact h
        clear HNx HDn
        rcases List.eq_nil_or_concat out with hos | ⟨ot, z, hos⟩
        case' inl =>
          subst hos
          have HCa : Hid (CandI [] (f k)) := candI_nil _
          rw [List.length_nil]
          go_wp2_with fail
          go_quiet (fail)
        case' inr =>
          have hos' : out = ot ++ [z] := by rw [hos]; simp
          obtain ⟨bs, os, rfl, hbs, cz⟩ := HLs.out ot z hos'
          have czw := (B0.cell (p := ⟨bs, os + ot.length, none⟩) hbs).trans cz
          have hlo : out.length = ot.length + 1 := by rw [hos']; simp
          have hCa : CandI out (f k) ↔ z < f k := by rw [hos'] at hasc ⊢; exact candI_snoc hasc
          rw [hlo]
          rw [hlo] at hol
          have hol' : (ot.length : Int) + 1 ≤ 1000 := by omega
          by_cases hz : z < f k
          case' neg =>
            have HB2 : Hid (BestI l out (k + 1) best) := HSk.out _ _ _ HB.out (fun h => hz (hCa.1 h))
            have hzb : (f k ≤ z) := by omega
            clear hCa HB HBc hos hos' HS HU HLs HSk HFi HLt HSa
            generalize f k = y at *
            go_wp2_with fail
            go_quiet (fail)
            have B2 := below_drewN B0 nq
            generalize W0.drewN nq = wq at *
            go_wp2
            go_roundw
            case rel => exact ⟨k + 1, best, by omega, by go_num, rfl, HB2, B2⟩
            case measure => simp [intOf]; omega
          case' pos =>
            have HCa : Hid (CandI out (f k)) := hCa.2 hz
            have hzn : ¬ f k ≤ z := by omega
            clear hCa hos hos'
            go_wp2_with fail
            go_quiet (fail)
        all_goals
          have B1' := below_drewN B0 nq
          have ck1 : (W0.drewN nq).cell? ⟨b, o + k, none⟩ = some (.int .u64 (f k)) := ck
          have HBc1 : Hid (∀ bi : Nat, best = bi → bi < n → (W0.drewN nq).cell? ⟨b, o + bi, none⟩ = some (.int .u64 (f bi))) := HBc.out
          clear ck B0 HBc
          generalize W0.drewN nq = W1 at *
          rcases HB.out.cases with hb | ⟨bi, hb, hbi⟩
          · subst hb
            have HB2 := HFi.out _ _ HB.out HCa.out
            have HB3 : Hid _ := HB2
            clear HB2 HB HCa HBc1 HS HU HLs HSk HFi HLt HSa
            generalize f k = y at *
            go_wp2_with fail
            go_quiet (fail)
            have B2 := below_drewN B1' nq
            generalize W1.drewN nq = wq at *
            go_wp2
            go_roundw
            case rel => exact ⟨k + 1, k, by omega, by go_num, by go_num, HB3, B2⟩
            case measure => simp [intOf]; omega
          · subst hb
            have cb := HBc1.out bi rfl (by omega)
            have hbn : (bi : Int) < (n : Int) := by omega
            have hb0 : ¬ (bi : Int) < 0 := by omega
            by_cases hlt : f k < f bi
            · have HB2 := HLt.out _ _ _ HB.out HCa.out hlt
              have HB3 : Hid _ := HB2
              clear HB2 HB HCa HBc1 HS HU HLs HSk HFi HLt HSa
              generalize f k = y at *
              generalize f bi = y' at *
              go_wp2_with fail
              go_quiet (fail)
              have B2 := below_drewN B1' nq
              generalize W1.drewN nq = wq at *
              go_wp2
              go_roundw
              case rel => exact ⟨k + 1, k, by omega, by go_num, by go_num, HB3, B2⟩
              case measure => simp [intOf]; omega
            · have HB2 := HSa.out _ _ _ HB.out (by omega)
              have HB3 : Hid _ := HB2
              clear HB2 HB HCa HBc1 HS HU HLs HSk HFi HLt HSa
              generalize f k = y at *
              generalize f bi = y' at *
              go_wp2_with fail
              go_quiet (fail)
              have B2 := below_drewN B1' nq
              generalize W1.drewN nq = wq at *
              go_wp2
              go_roundw
              case rel => exact ⟨k + 1, bi, by omega, by go_num, by go_num, HB3, B2⟩
              case measure => simp [intOf]; omega
      · have hk' : k = n := by omega
        subst hk'
        have BW := B.trans (B0.mono B.size)
        have O1 := ownsU_below O B0
        rcases HB.out.cases with hb | ⟨bi, hb, hbi⟩
        · subst hb
          have HD := HDn.out _ HS.out HB.out
          have HD' : Hid _ := HD
          have BX := B1.trans (BW.mono B1.size)
          have OX := ownsU_mono O1 h1s
          clear HD HDn HNx HS HB HU HLs B0 BW O O1 HSk HFi HLt HSa
          go_wp2
          go_ret
          exact ⟨_, out, rfl, HD'.out, OX, BX⟩
        · subst hb
          have HS2 := HNx.out _ _ HS.out HB.out
          have HS3 : Hid _ := HS2
          obtain ⟨b, o, rfl, cb⟩ := HU.out W0 BW bi hbi
          have hb0 : ¬ (bi : Int) < 0 := by omega
          have hbn : (bi : Int) < (k : Int) := by omega
          have hbm : out.length + 1 ≤ maxLen := by unfold maxLen; omega
          have hbd : (out.length + 1) * 8 ≤ 140737488355328 := by omega
          clear HS2 HDn HNx HS HB HU HLs O B0 B HSk HFi HLt HSa
          generalize f bi = y at *
          have hbs : w1.heap.size ≤ (W0.alloc (.cells #[.int .u64 y] 67)).heap.size := by have := BW.size; simp; omega
          go_wp2_with (at_builtin; refine wpList_append_own _ rfl (.tmp 51) (.tmp 56) 42 rfl w1.heap.size 67 i0 (.int .u64 0) 1 8 Tryz.underlying42 hi hz0 hz1 hz2 rfl (by decide) (.slice au out.length cu) out.length (out.map (Value.int .u64)) rfl (World.ownsRow.alloc O1 _) ⟨W0.heap.size, 0, none⟩ 1 1 [.int .u64 y] rfl rfl (World.news_of_block (t := 67) (fr := (0, 0)) (heap_alloc_new W0 _)) (by simp [Value.oneCell']) hbm hbd hbs ?_)
          intro v9 w9 ow gr _
          have o9 : ownsU w9 w1.heap.size v9 (out ++ [y]) := by rw [ownsU, List.length_append, List.map_append]; exact ow
          have B9 : Below w1.heap.size w1 w9 := (BW.alloc BW.size _).grown gr hbs (fun q hq => (World.ownsRow.lt O1 q hq).1)
          obtain ⟨a9, c9, e9, _⟩ := ownsU_src o9
          subst e9
          clear ow gr O1 BW cb
          go_wp2
          go_roundw
          case rel => exact ⟨_, _, rfl, o9, HS3, B9⟩
          case measure => simp [lenU]; omega
end Go.Proofs.YtljhccolmcoifaaGreat
