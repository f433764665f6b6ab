/-
  DrwL, DrwM
-/
import Derived.Test.YtoamapdfcdefjaaGreatQ09
import Derived.Test.YtoamapdfcdefjaaGreatQ10
import Derived.Test.YtoamapdfcdefjaaGreatQ06
import Derived.Deep.Cut
namespace Go.Proofs.YtoamapdfcdefjaaGreat
open Go.RowKit Go.Deep
set_option linter.unusedVariables false

def ptK (v : Nat) : K := ⟨1, 18446744073709551615, v⟩
def wideR (i t : Nat) : List K := [ptK (t * 3), ptK (t * 3 + 4294967296), ⟨2, t * 3, t * 3 + 2⟩, zeroK, zeroK, ptK i]
def wideE (m i : Nat) : E := ⟨5, (i : Int) * 2, (List.range m).map (wideR i)⟩
def wideP (n m : Nat) : List E := (List.range n).map (wideE m)
theorem wide_rs (i k : Nat) : (List.range (k + 1)).map (wideR i) = (List.range k).map (wideR i) ++ [wideR i k] := by rw [List.range_succ, List.map_append]; rfl
theorem wide_ps (m k : Nat) : wideP (k + 1) m = wideP k m ++ [wideE m k] := by unfold wideP; rw [List.range_succ, List.map_append]; rfl

/-- rules of their own, or none yet -/
structure RsE (w : World) (B : Nat) (v : Value) (l : List (List K)) (vs : Nat → Value) : Prop where
  row : w.ownsRow B 44 1 v l.length ((List.range l.length).map vs)
  or : (l = [] ∧ v = .slice none 0 0) ∨ ∃ cb gb, RsD w B v l vs cb gb
theorem RsE.nil (w : World) (B : Nat) : RsE w B (.slice none 0 0) [] (fun _ => undef) := ⟨World.ownsRow_nil _ _ _ _, .inl ⟨rfl, rfl⟩⟩
theorem RsE.next {w w9 w1 : World} {B : Nat} {v v' : Value} {l : List (List K)} {r : List K} {vs : Nat → Value} {gg cap q : Nat} {o : Obj} (h : RsE w B v l vs) (hB0 : 0 < B) (hBw : B ≤ w.heap.size) (h9 : Below w.heap.size w w9) (hv : ownsKd w9 w.heap.size v' r) (hq : v'.ownBlock = some q)
    (hown : w1.ownsRow B 44 1 (.slice (some ⟨gg, 0, none⟩) (l.length + 1) cap) (l.length + 1) ((List.range l.length).map vs ++ [v'])) (hg : (w9.alloc o).grownBy w1 v.ownBlock) (hat : v.ownBlock = some gg ∨ gg = (w9.alloc o).heap.size) :
    RsE w1 B (.slice (some ⟨gg, 0, none⟩) (l.length + 1) cap) (l ++ [r]) (fun i => if i = l.length then v' else vs i) := by
  rcases h.or with ⟨rfl, rfl⟩ | ⟨cb, gb, h1⟩
  · have hq1 := hv.lt q hq
    have hb2 : w9.grownBy (w9.alloc o) none := rb_alloc (World.grownBy.refl _ _) _
    have hsz : (w9.alloc o).heap.size = w9.heap.size + 1 := by simp
    have egg : gg = w9.heap.size + 1 := by
      rcases hat with e | e
      · cases e
      · rw [e, hsz]
    have hr : w1.ownsRow B 44 1 (.slice (some ⟨gg, 0, none⟩) 1 cap) 1 [v'] := hown
    have ho := row_monoD (World.ownsRow.kept (World.ownsRow.kept hv hb2 (.inr (by rw [hq]; simp))) hg (.inr (by rw [hq]; simp [Value.ownBlock]))) hBw
    refine ⟨by simpa using hr, .inr ⟨fun _ => q, gg, ⟨by simpa using hr, rfl, fun i hi => ?_, fun i hi => by omega, fun i j hij hj => by simp at hj; omega⟩⟩⟩
    simp at hi
    subst hi
    exact ⟨by simpa using ho, by simpa using hq⟩
  · have := h1.next (R := 0) hBw (rb_below h9) hB0 hv hq hown hg hat
    exact ⟨this.row, .inr ⟨_, _, this⟩⟩
theorem RsE.form {w : World} {B : Nat} {v : Value} {l : List (List K)} {vs : Nat → Value} (h : RsE w B v l vs) : ∃ a cap, v = .slice a l.length cap ∧ l.length ≤ cap := by
  rcases h.or with ⟨rfl, rfl⟩ | ⟨cb, gb, h1⟩
  · exact ⟨_, _, rfl, Nat.le_refl _⟩
  · obtain ⟨c, e, hc⟩ := h1.form
    exact ⟨_, _, e, hc⟩
theorem RsE.below {w w1 : World} {B : Nat} {v : Value} {l : List (List K)} {vs : Nat → Value} (h : RsE w B v l vs) (hB0 : 0 < B) (hb : Below w.heap.size w w1) : RsE w1 B v l vs := by
  rcases h.or with ⟨rfl, rfl⟩ | ⟨cb, gb, h1⟩
  · exact ⟨by simpa using World.ownsRow_nil _ _ _ _, .inl ⟨rfl, rfl⟩⟩
  · have := h1.kept (rb_below hb (r := some 0)) hB0
    exact ⟨this.row, .inr ⟨_, _, this⟩⟩
theorem RsE.far {w w1 : World} {B : Nat} {v : Value} {l : List (List K)} {vs : Nat → Value} (h : RsE w B v l vs) (hb : ∀ k, B ≤ k → k < w.heap.size → w1.heap[k]? = w.heap[k]?) : RsE w1 B v l vs := by
  rcases h.or with ⟨rfl, rfl⟩ | ⟨cb, gb, h1⟩
  · exact ⟨by simpa using World.ownsRow_nil _ _ _ _, .inl ⟨rfl, rfl⟩⟩
  · have := h1.far h1.lts.1 h1.lts.2 hb
    exact ⟨this.row, .inr ⟨_, _, this⟩⟩
theorem RsE.rsi {w : World} {B B' : Nat} {v : Value} {l : List (List K)} {vs : Nat → Value} (h : RsE w B v l vs) (hn : l ≠ []) (hB : B' ≤ B) : RsJ w B' w.heap.size v l := by
  rcases h.or with ⟨rfl, rfl⟩ | ⟨cb, gb, h1⟩
  · exact absurd rfl hn
  · exact ⟨vs, cb, gb, ⟨row_monoD h1.row hB, h1.ob, fun i hi => ⟨row_monoD (h1.own i hi).1 hB, (h1.own i hi).2⟩, h1.ne, h1.inc⟩, h1.lts.1, h1.lts.2⟩

/-- the inner loop: the box of the entry at G, the rules behind it -/
structure WiS (W0 W : World) (G : Nat) (x : Int) (v : Value) (rs : List (List K)) : Prop where
  be : Below G W0 W
  hG : G = W0.heap.size
  box : Box3 W G (.int .u32 5) (.int .u32 x) v
  own : ∃ vs, RsE W (G + 1) v rs vs
theorem WiS.below {W0 W W1 : World} {G : Nat} {x : Int} {v : Value} {rs : List (List K)} (h : WiS W0 W G x v rs) (hb : Below W.heap.size W W1) : WiS W0 W1 G x v rs := by
  obtain ⟨vs, ho⟩ := h.own
  exact ⟨h.be.trans (hb.mono (by have := h.box.lt; omega)), h.hG, h.box.keep hb, vs, ho.below (by omega) hb⟩
theorem WiS.push {W0 W W9 W1 : World} {G gg cap q : Nat} {x : Int} {v v' : Value} {rs : List (List K)} {r : List K} {o : Obj} (h : WiS W0 W G x v rs) (h9 : Below W.heap.size W W9) (hv : ownsKd W9 W.heap.size v' r) (hq : v'.ownBlock = some q) {vs : Nat → Value} (ho : RsE W (G + 1) v rs vs)
    (hown : W1.ownsRow (G + 1) 44 1 (.slice (some ⟨gg, 0, none⟩) (rs.length + 1) cap) (rs.length + 1) ((List.range rs.length).map vs ++ [v'])) (hg : (W9.alloc o).grownBy W1 v.ownBlock) (hat : v.ownBlock = some gg ∨ gg = (W9.alloc o).heap.size) :
    WiS W0 (W1.setCell ⟨G, 2, none⟩ (.slice (some ⟨gg, 0, none⟩) (rs.length + 1) cap)) G x (.slice (some ⟨gg, 0, none⟩) (rs.length + 1) cap) (rs ++ [r]) := by
  have hlt := h.box.lt
  have hge : ∀ k, v.ownBlock = some k → G + 1 ≤ k := fun k hk => (ho.row.lt k hk).1
  have hx := ho.next (by omega) (by omega) h9 hv hq hown hg hat
  have b1 : Below (G + 1) W (W9.alloc o) := (h9.mono (by omega)).alloc (by have := h9.size; omega) o
  have b2 : Below (G + 1) W W1 := b1.grown hg (by have := h9.size; simp; omega) hge
  have bx : Box3 W1 G (.int .u32 5) (.int .u32 x) v := by
    have e : ∀ j, W1.cell? ⟨G, j, none⟩ = W.cell? ⟨G, j, none⟩ := fun j => b2.cell (p := ⟨G, j, none⟩) (by show G < G + 1; omega)
    have e' : ∀ j, W1.frozen? ⟨G, j, none⟩ = W.frozen? ⟨G, j, none⟩ := fun j => b2.frozen (p := ⟨G, j, none⟩) (by show G < G + 1; omega)
    obtain ⟨_, c0, c1, c2, f0, f1, f2⟩ := h.box
    exact ⟨Nat.lt_of_lt_of_le hlt b2.size, (e 0).trans c0, (e 1).trans c1, (e 2).trans c2, (e' 0).trans f0, (e' 1).trans f1, (e' 2).trans f2⟩
  refine ⟨(h.be.trans (b2.mono (by omega))).setCell (p := ⟨G, 2, none⟩) (Nat.le_refl _) _, h.hG, bx.set2 _, _, hx.far (fun k hk hs => Below.heap_setCell W1 ⟨G, 2, none⟩ _ k (fun e => by simp at e; omega))⟩
end Go.Proofs.YtoamapdfcdefjaaGreat
namespace Go.Proofs.YtoamapdfcdefjaaGreat
open Go.RowKit Go.Deep
set_option linter.unusedVariables false

structure WdS (w W : World) (v : Value) (P : List E) : Prop where
  be : Below w.heap.size w W
  sz : w.heap.size + 1 < W.heap.size
  c : W.cell? ⟨w.heap.size + 1, 0, none⟩ = some v
  f : W.frozen? ⟨w.heap.size + 1, 0, none⟩ = false
  c0 : W.cell? ⟨w.heap.size, 0, none⟩ = some (.slice none 0 0)
  f0 : W.frozen? ⟨w.heap.size, 0, none⟩ = false
  own : ∃ rv lo hi, PsD W (w.heap.size + 2) v P rv lo hi
theorem WdS.push {w W W9 W1 : World} {v v' : Value} {P : List E} {e : E} {gg cp : Nat} {o : Obj} (h : WdS w W v P) (h9 : Below W.heap.size W W9) (hv : RsJ W9 W.heap.size W9.heap.size v' e.rules) {rv : Nat → Value} {lo hi : Nat → Nat} (ho : PsD W (w.heap.size + 2) v P rv lo hi)
    (hown : W1.ownsRow (w.heap.size + 2) 37 3 (.slice (some ⟨gg, 0, none⟩) (P.length + 1) cp) (P.length + 1) (entCsd P rv ++ entCd e v')) (hg : (W9.alloc o).grownBy W1 v.ownBlock) :
    WdS w (W1.setCell ⟨w.heap.size + 1, 0, none⟩ (.slice (some ⟨gg, 0, none⟩) (P.length + 1) cp)) (.slice (some ⟨gg, 0, none⟩) (P.length + 1) cp) (P ++ [e]) := by
  have hge : ∀ k, v.ownBlock = some k → w.heap.size + 2 ≤ k := fun k hk => (ho.row.lt k hk).1
  have hsz := h.sz
  have b1 : Below (w.heap.size + 2) W (W9.alloc o) := (h9.mono (by omega)).alloc (by have := h9.size; omega) o
  have b2 : Below (w.heap.size + 2) W W1 := b1.grown hg (by have := h9.size; simp; omega) hge
  have e1 : ∀ k, k < w.heap.size + 2 → W1.cell? ⟨k, 0, none⟩ = W.cell? ⟨k, 0, none⟩ := fun k hk => b2.cell (p := ⟨k, 0, none⟩) hk
  have e2 : ∀ k, k < w.heap.size + 2 → W1.frozen? ⟨k, 0, none⟩ = W.frozen? ⟨k, 0, none⟩ := fun k hk => b2.frozen (p := ⟨k, 0, none⟩) hk
  have hn := ho.next (R := 0) (by omega) (rb_below h9) (by omega) hv hown hg
  have hset := rb_set (World.grownBy.refl W1 (some (w.heap.size + 1))) 0 (.slice (some ⟨gg, 0, none⟩) (P.length + 1) cp)
  have hs1 : w.heap.size + 1 < W1.heap.size := Nat.lt_of_lt_of_le hsz b2.size
  obtain ⟨e5, e6⟩ := cell_grD (g := w.heap.size) (o := 0) hset (by omega) (by simp)
  refine ⟨((h.be.trans (b2.mono (by omega))).setCell (p := ⟨w.heap.size + 1, 0, none⟩) (by show _ ≤ w.heap.size + 1; omega) _), by simpa [World.setCell] using hs1, World.cell?_setCell_same _ _ _ ((e1 _ (by omega)).trans h.c), ?_, e5.trans ((e1 _ (by omega)).trans h.c0), e6.trans ((e2 _ (by omega)).trans h.f0), _, _, _, hn.far (by simp) (fun k hk hs => Below.heap_setCell W1 ⟨w.heap.size + 1, 0, none⟩ _ k (fun e => by simp at e; omega))⟩
  have hf := (e2 (w.heap.size + 1) (by omega)).trans h.f
  simpa using hf
theorem WdS.fin {w W : World} {v : Value} {P : List E} (h : WdS w W v P) (u : Value) : ∃ rv lo hi, PsD (W.setCell ⟨w.heap.size, 0, none⟩ u) w.heap.size v P rv lo hi ∧ Below w.heap.size w (W.setCell ⟨w.heap.size, 0, none⟩ u) := by
  obtain ⟨rv, lo, hi, ho⟩ := h.own
  have h2 := (ho.far (w1 := W.setCell ⟨w.heap.size, 0, none⟩ u) (by simp) (fun k hk hs => Below.heap_setCell W ⟨w.heap.size, 0, none⟩ _ k (fun e => by simp at e; omega)))
  exact ⟨rv, lo, hi, ⟨row_monoD h2.row (by omega), h2.own, fun i hi' => ⟨by have := (h2.lt i hi').1; omega, (h2.lt i hi').2⟩, h2.inc⟩, h.be.setCell (p := ⟨w.heap.size, 0, none⟩) (Nat.le_refl _) _⟩

set_option maxRecDepth 100000 in
set_option maxHeartbeats 4000000 in
theorem wide_any (n m : Nat) (hn : n ≤ 251) (hm : 0 < m) (hm2 : m ≤ 201) (w : World) :
    Calls Tryz.prog 22 #[.int .i64 (n : Int), .int .i64 (m : Int)] w fun e w' => ∃ v rv lo hi, e = .returned (.agg #[v]) ∧ PsD w' w.heap.size v (wideP n m) rv lo hi ∧ Below w.heap.size w w' := by
  obtain ⟨i1, hi1, hy0, hy1, hy2⟩ := info_parts infoEntD
  obtain ⟨i2, hi2, hz0, hz1, hz2⟩ := info_parts infoRuleD
  have D0 : WdS w ((w.alloc (.cells #[.slice none 0 0] 25)).alloc (.cells #[.slice none 0 0] 25)) (.slice none 0 0) (wideP 0 m) := by
    have q1 := box_getD w (.slice none 0 0) 25 _ rfl
    have e1 : (w.alloc (.cells #[.slice none 0 0] 25)).heap.size = w.heap.size + 1 := by simp
    have a1 := rb_alloc (World.grownBy.refl (w.alloc (.cells #[.slice none 0 0] 25)) none) (.cells #[.slice none 0 0] 25)
    obtain ⟨c3, c4⟩ := cell_grD (g := w.heap.size) (o := 0) a1 (by omega) (by simp)
    have q2 := box_getD (w.alloc (.cells #[.slice none 0 0] 25)) (.slice none 0 0) 25 _ rfl
    rw [e1] at q2
    exact ⟨((Below.refl _ _).alloc (Nat.le_refl _) _).alloc (by simp) _, by simp, q2.1, q2.2, c3.trans q1.1, c4.trans q1.2, _, _, _, PsD.nil _ _⟩
  go_enter Tryz.func22, Tryz.ntmps22
  go_wp2_with fail
  generalize ((w.alloc (.cells #[.slice none 0 0] 25)).alloc (.cells #[.slice none 0 0] 25)) = W0 at *
  go_loopw [6] (fun u wr => ∃ (i : Nat) (v : Value), u = .int .i64 (i : Int) ∧ i ≤ n ∧ WdS w wr v (wideP i m)) (fun u _ => n - (intOf u).toNat)
  case atStart => exact ⟨0, _, rfl, by omega, D0⟩
  case round =>
    obtain ⟨i, v, rfl, hin, D⟩ := hrel
    clear D0
    obtain ⟨wo, hwo⟩ : ∃ wo, wo = wr := ⟨_, rfl⟩
    subst hwo
    by_cases hlt : i < n
    · have hlt' : (i : Int) < (n : Int) := by omega
      have u2 : IntKind.u32.wrap ((i : Int) * 2) = (i : Int) * 2 := by rw [IntKind.wrap_u32]; omega
      have u2' : (i : Int) * 2 % 4294967296 = (i : Int) * 2 := by omega
      have D1 : WiS wo (wo.alloc (.cells #[.int .u32 5, .int .u32 ((i : Int) * 2), .slice none 0 0] 37)) wo.heap.size ((i : Int) * 2) (.slice none 0 0) ((List.range 0).map (wideR i)) :=
        ⟨(Below.refl _ _).alloc (Nat.le_refl _) _, rfl, Box3.new _ _ _ _ _, _, RsE.nil _ _⟩
      have hG0 : wo.heap.size = wo.heap.size := rfl
      go_upto_region 7 with fail
      generalize hWe : (wo.alloc (.cells #[.int .u32 5, .int .u32 ((i : Int) * 2), .slice none 0 0] 37)) = We at *
      clear hWe
      obtain ⟨G, hG⟩ : ∃ G, wo.heap.size = G := ⟨_, rfl⟩
      rw [hG] at D1
      simp only [hG]
      clear hG0
      have HDo : Hid (WdS w wo v (wideP i m)) := D
      have HhG : Hid (wo.heap.size = G) := hG
      clear D hG
      go_loopw [8] (fun u W => ∃ (t : Nat) (vr : Value), u = .int .i64 (t : Int) ∧ t ≤ m ∧ WiS wo W G ((i : Int) * 2) vr ((List.range t).map (wideR i))) (fun u _ => m - (intOf u).toNat)
      case atStart => exact ⟨0, _, rfl, by omega, D1⟩
      case round =>
        obtain ⟨t, vr, rfl, htm, S⟩ := hrel
        clear D1
        by_cases htl : t < m
        · have htl' : (t : Int) < (m : Int) := by omega
          obtain ⟨vs, ho⟩ := S.own
          obtain ⟨av, cv, ev, hcv⟩ := ho.form
          rw [List.length_map, List.length_range] at ev hcv
          subst ev
          have hlen : ((List.range t).map (wideR i)).length = t := by simp
          go_wp2_with fail
          refine (point_any _ _).mono ?_
          rintro _ w3 ⟨rfl, b3⟩
          go_wp2_with fail
          refine (point_any _ _).mono ?_
          rintro _ w4 ⟨rfl, b4⟩
          go_wp2_with fail
          refine (point_any _ _).mono ?_
          rintro _ w5 ⟨rfl, b5⟩
          have hbw := (b3.trans (b4.mono b3.size)).trans (b5.mono (Nat.le_trans b3.size b4.size))
          have S5 := S.below hbw
          have ho5 := ho.below (by omega) hbw
          clear b3 b4 b5
          obtain ⟨o6, ho6⟩ : ∃ o : Obj, o = .cells #[.int .i64 1, .int .u64 18446744073709551615, .int .u64 ((t : Int) * 3), .int .i64 1, .int .u64 18446744073709551615, .int .u64 ((t : Int) * 3 + 4294967296), .int .i64 2, .int .u64 ((t : Int) * 3), .int .u64 ((t : Int) * 3 + 2), .int .i64 0, .int .u64 0, .int .u64 0, .int .i64 0, .int .u64 0, .int .u64 0, .int .i64 1, .int .u64 18446744073709551615, .int .u64 (i : Int)] 41 := ⟨_, rfl⟩
          have oc : ownsKd (w5.alloc o6) w5.heap.size (.slice (some ⟨w5.heap.size, 0, none⟩) 6 6) (wideR i t) := by
            have := World.ownsRow_lit (base := w5.heap.size) (e := 41) (size := 3) w5 #[.int .i64 1, .int .u64 18446744073709551615, .int .u64 ((t : Int) * 3), .int .i64 1, .int .u64 18446744073709551615, .int .u64 ((t : Int) * 3 + 4294967296), .int .i64 2, .int .u64 ((t : Int) * 3), .int .u64 ((t : Int) * 3 + 2), .int .i64 0, .int .u64 0, .int .u64 0, .int .i64 0, .int .u64 0, .int .u64 0, .int .i64 1, .int .u64 18446744073709551615, .int .u64 (i : Int)] 6 (Nat.le_refl _) (by decide) rfl
            rw [ho6]
            simpa [ownsKd, wideR, cKsd, cKd, ptK, zeroK] using this
          have Hho6 : Hid _ := ho6
          clear ho6
          have b6 : Below wr.heap.size wr (w5.alloc o6) := hbw.alloc hbw.size o6
          have S6 := S.below b6
          have ho7 := ho.below (by omega) b6
          go_upto_region 11 with fail
          rw [← Hho6.out]
          have oc' : ownsKd (w5.alloc o6) wr.heap.size (.slice (some ⟨w5.heap.size, 0, none⟩) 6 6) (wideR i t) := row_monoD oc hbw.size
          clear oc Hho6 hbw S5 ho5
          generalize w5.alloc o6 = w6 at *
          generalize w5.heap.size = gC at *
          have hbm : t + 1 ≤ maxLen := by unfold maxLen; omega
          have hbd : (t + 1) * 24 ≤ 140737488355328 := by omega
          obtain ⟨_, c0, c1, c2, f0, f1, f2⟩ := S6.box
          have hG6 := S6.box.lt
          have b7 : Below w6.heap.size w6 (w6.alloc (.cells #[.slice (some ⟨gC, 0, none⟩) 6 6] 44)) := (Below.refl _ _).alloc (Nat.le_refl _) _
          have hrow := (ho7.below (by omega) b7).row
          rw [hlen] at hrow
          go_wp2_with (at_builtin; refine wpList_append_lies _ rfl (.tmp 44) (.tmp 47) 35 rfl (G + 1) 44 i2 _ 1 24 Tryz.underlying35 hi2 hz0 hz1 hz2 rfl (by decide) _ t _ rfl hrow ⟨w6.heap.size, 0, none⟩ 1 1 [.slice (some ⟨gC, 0, none⟩) 6 6] rfl rfl (World.news_of_block (t := 44) (fr := (0, 0)) (heap_alloc_new w6 _)) (by simp [Value.oneCell']) (by omega) hbm hbd (by simp; omega) (w6.heap.size + 1) (by simp) ?_)
          intro g' cp' w9 ow gr hat _
          have S9 := WiS.push (o := .cells #[.slice (some ⟨gC, 0, none⟩) 6 6] 44) S b6 oc' rfl ho (by rw [hlen]; exact ow) gr (by simpa using hat)
          rw [hlen, ← wide_rs] at S9
          have hge : ∀ k, (Value.slice av t cv).ownBlock = some k → G + 1 ≤ k := fun k hk => by have := (hrow.lt k hk).1; omega
          have b8 : Below (G + 1) w6 w9 := ((Below.refl _ _).alloc (by omega) _).grown gr (by simp; omega) hge
          have c2' := (b8.cell (p := ⟨G, 2, none⟩) (by show G < G + 1; omega)).trans c2
          have f2' := (b8.frozen (p := ⟨G, 2, none⟩) (by show G < G + 1; omega)).trans f2
          clear ow gr hat hge b8 b7 hrow ho7 S6 S ho oc' b6 c0 c1 c2 f0 f1 f2
          go_wp2
          go_roundw
          case rel => exact ⟨t + 1, _, by go_num, by omega, S9⟩
          case measure => simp [intOf]; omega
        · obtain rfl : t = m := by omega
          obtain ⟨vs, ho⟩ := S.own
          obtain ⟨av, cv, ev, hcv⟩ := ho.form
          rw [List.length_map, List.length_range] at ev hcv
          subst ev
          have D := HDo.out
          have hG := HhG.out
          obtain ⟨rv, lo, hi, hp⟩ := D.own
          obtain ⟨ap, cpp, ep, hcp, _⟩ := hp.form
          have hpl : (wideP i t).length = i := by simp [wideP]
          rw [hpl] at ep hcp
          subst ep
          have be : Below wo.heap.size wo wr := by rw [hG]; exact S.be
          have hne : (List.range t).map (wideR i) ≠ [] := by intro e; have := congrArg List.length e; simp at this; omega
          have hI : RsJ wr wo.heap.size wr.heap.size (.slice av t cv) (wideE t i).rules := ho.rsi hne (by omega)
          have hsz := D.sz
          have c5 := (be.cell (p := ⟨w.heap.size + 1, 0, none⟩) hsz).trans D.c
          obtain ⟨_, c0, c1, c2, f0, f1, f2⟩ := S.box
          have hGr := S.box.lt
          have hbm : i + 1 ≤ maxLen := by unfold maxLen; omega
          have hbd : (i + 1) * 32 ≤ 140737488355328 := by omega
          have hrow : wr.ownsRow (w.heap.size + 2) 37 3 (.slice ap i cpp) i (entCsd (wideP i t) rv) := by
            have := World.ownsRow.kept hp.row (rb_below (r := none) be) (by
              cases (Value.slice ap i cpp).ownBlock with
              | none => exact .inl rfl
              | some q => exact .inr (by simp))
            rwa [hpl] at this
          have hrow2 : (wr.alloc (.cells #[.int .u32 5, .int .u32 ((i : Int) * 2), .slice av t cv] 37)).ownsRow (w.heap.size + 2) 37 3 (.slice ap i cpp) i (entCsd (wideP i t) rv) := hrow.alloc _
          have hsr : w.heap.size + 2 ≤ wr.heap.size := by have := be.size; omega
          clear hrow HDo HhG
          go_wp2_with (at_builtin; refine wpList_append_lies _ rfl (.tmp 51) (.tmp 53) 23 rfl (w.heap.size + 2) 37 i1 _ 3 32 Tryz.underlying23 hi1 hy0 hy1 hy2 rfl (by decide) _ i _ rfl hrow2 ⟨wr.heap.size, 0, none⟩ 1 1 [.int .u32 5, .int .u32 ((i : Int) * 2), .slice av t cv] rfl rfl (World.news_of_block (t := 37) (fr := (0, 0)) (heap_alloc_new wr _)) (by simp [Value.oneCell']) (by omega) hbm hbd (by simp; omega) (wr.heap.size + 1) (by simp) ?_)
          intro g' cp' w9 ow gr hat _
          have D9 := WdS.push (o := .cells #[.int .u32 5, .int .u32 ((i : Int) * 2), .slice av t cv] 37) (e := wideE t i) D be hI hp (by rw [hpl]; exact ow) gr
          rw [hpl, ← wide_ps] at D9
          have hge : ∀ k, (Value.slice ap i cpp).ownBlock = some k → w.heap.size + 2 ≤ k := fun k hk => (hrow2.lt k hk).1
          have b8 : Below (w.heap.size + 2) wr w9 := ((Below.refl _ _).alloc (by omega) _).grown gr (by simp; omega) hge
          have c6 := (b8.cell (p := ⟨w.heap.size + 1, 0, none⟩) (by show w.heap.size + 1 < _; omega)).trans c5
          have f6 := (b8.frozen (p := ⟨w.heap.size + 1, 0, none⟩) (by show w.heap.size + 1 < _; omega)).trans ((be.frozen (p := ⟨w.heap.size + 1, 0, none⟩) hsz).trans D.f)
          clear ow gr hat hge b8 hrow2 S ho c0 c1 c2 f0 f1 f2 c5 hI be hp D
          go_wp2
          go_roundw
          case rel => exact ⟨i + 1, _, by go_num, by omega, D9⟩
          case measure => simp [intOf]; omega
    · obtain rfl : i = n := by omega
      obtain ⟨rv, lo, hi, hp⟩ := D.own
      obtain ⟨ap, cpp, ep, hcp, _⟩ := hp.form
      have hpl : (wideP i m).length = i := by simp [wideP]
      rw [hpl] at ep hcp
      subst ep
      have HF' : Hid _ := D.fin (.slice ap i cpp)
      have c0 := D.c
      have z0 := D.c0
      have zf := D.f0
      clear D hp
      go_wp2
      refine bodyPost_ret (v := .agg #[.slice ap i cpp]) (by simp [results, Tryz.results22, go_sem, z0]) rfl ?_
      obtain ⟨rv', lo', hi', f1, f2⟩ := HF'.out
      first
        | exact ⟨_, _, _, _, rfl, f1, f2⟩
        | exact ⟨_, rfl, ⟨_, _, _, f1⟩, f2⟩
end Go.Proofs.YtoamapdfcdefjaaGreat
