/-
  DfC
-/
import Derived.Test.YtoamapdfcdefjaaGreatQ25
import Derived.Test.YtoamapdfcdefjaaGreatQ10
import Derived.Deep.Cut
import Derived.Test.YtoamapdfcdefjaaGreatQ20
import Derived.Test.YtoamapdfcdefjaaGreatQ14
namespace Go.Proofs.YtoamapdfcdefjaaGreat
open Go.RowKit Go.Deep
set_option linter.unusedVariables false

theorem anyD_bd {l : List Int} (hl : isBytes l) {F : Nat → K × Nat} (hF : KdF l F) (j : Nat) : okP (anyD l F j) ∧ BdP (anyD l F j) := by
  obtain ⟨h1, h2⟩ := anyD_go hl hF j
  exact ⟨fun e he => (h1 e he).1, h2, fun e he => (h1 e he).2⟩

/-- the last byte says whether the call's arguments are cut -/
def allX (L : List Int) (F : Nat → K × Nat) : C :=
  if L.getD (forD L (anyD L F 0) (anyJ L F 0)).2 0 % 20 = 7 then ⟨(forD L (anyD L F 0) (anyJ L F 0)).1.arch, (forD L (anyD L F 0) (anyJ L F 0)).1.nr, (forD L (anyD L F 0) (anyJ L F 0)).1.args.take 5⟩
  else (forD L (anyD L F 0) (anyJ L F 0)).1
/-- what DrawAllows answers -/
def AllPost (bd : Bool) (D : List E) (X : C) (w : World) (e : Ending) (w' : World) : Prop := ∃ vp ar nr q n cq args, e = .returned (.tuple #[.agg #[vp], .agg #[.int .u32 ar, .int .u32 nr, .slice (some ⟨q, 0, none⟩) n cq]]) ∧ args.length = n ∧ (n = 5 ∨ n = 6) ∧ USrc w' (some ⟨q, 0, none⟩) args ∧ C.ok ⟨ar, nr, args⟩ ∧ Below w.heap.size w w' ∧ ((bd = true ∧ BadP w.heap.size w' vp) ∨ (bd = false ∧ (⟨ar, nr, args⟩ : C) = X ∧ PolOr w.heap.size D w' vp))

theorem ownsU_usrc {w : World} {B q n cq : Nat} {l : List Int} (h : ownsU w B (.slice (some ⟨q, 0, none⟩) n cq) l) : USrc w (some ⟨q, 0, none⟩) l := by
  obtain ⟨a, c, e, hs⟩ := ownsU_src h
  simp only [Value.slice.injEq] at e
  rw [e.1]; exact hs
theorem USrc.take {w : World} {a : Option Addr} {l : List Int} (h : USrc w a l) (n : Nat) : USrc w a (l.take n) := by
  rcases h with h | ⟨b, o, ha, hlt, hc⟩
  · exact .inl (by rw [h]; simp)
  · refine .inr ⟨b, o, ha, hlt, fun i hi => ?_⟩
    have h2 : i < l.length := by simp at hi; omega
    have h3 : i < n := by simp at hi; omega
    have := hc i h2
    rw [this]
    simp [List.getD_eq_getElem?_getD, h3]

/-- the end: policy and call are laid into their boxes -/
theorem all_end {w w3 V : World} {B0 B q n cq : Nat} {args : List Int} (x0 x1 x2 x3 : Value) (hB : w.heap.size + 1 < B) (k : KeptB B w3 V) (b : Below w.heap.size w V) (o : ownsU V B0 (.slice (some ⟨q, 0, none⟩) n cq) args) (hB0 : w.heap.size + 1 < B0) :
    KeptB B w3 ((((V.setCell ⟨w.heap.size, 0, none⟩ x0).setCell ⟨w.heap.size + 1, 0, none⟩ x1).setCell ⟨w.heap.size + 1, 1, none⟩ x2).setCell ⟨w.heap.size + 1, 2, none⟩ x3).drew ∧ Below w.heap.size w ((((V.setCell ⟨w.heap.size, 0, none⟩ x0).setCell ⟨w.heap.size + 1, 0, none⟩ x1).setCell ⟨w.heap.size + 1, 1, none⟩ x2).setCell ⟨w.heap.size + 1, 2, none⟩ x3).drew ∧ USrc ((((V.setCell ⟨w.heap.size, 0, none⟩ x0).setCell ⟨w.heap.size + 1, 0, none⟩ x1).setCell ⟨w.heap.size + 1, 1, none⟩ x2).setCell ⟨w.heap.size + 1, 2, none⟩ x3).drew (some ⟨q, 0, none⟩) args := by
  have h3 := (o.lt q rfl).1
  have n0 : ∀ k, (Value.slice (some ⟨q, 0, none⟩) n cq).ownBlock = some k → k ≠ w.heap.size := fun k hk => by simp [Value.ownBlock] at hk; omega
  have n1 : ∀ k, (Value.slice (some ⟨q, 0, none⟩) n cq).ownBlock = some k → k ≠ w.heap.size + 1 := fun k hk => by simp [Value.ownBlock] at hk; omega
  refine ⟨((((k.set (.inl (by omega)) 0 x0).set (.inl hB) 0 x1).set (.inl hB) 1 x2).set (.inl hB) 2 x3).below (Below.refl _ _).drew, ((((b.setCell (p := ⟨w.heap.size, 0, none⟩) (Nat.le_refl _) x0).setCell (p := ⟨w.heap.size + 1, 0, none⟩) (Nat.le_succ _) x1).setCell (p := ⟨w.heap.size + 1, 1, none⟩) (Nat.le_succ _) x2).setCell (p := ⟨w.heap.size + 1, 2, none⟩) (Nat.le_succ _) x3).drew, ?_⟩
  exact (ownsU_usrc (ownsU_set (ownsU_set (ownsU_set (ownsU_set o n0) n1) n1) n1)).below (Below.refl _ _).drew

/-- what is asked of l3drawFor -/
def ForC (l : List Int) : Prop := ∀ (P : List E) (a : Option Addr) (c B R cap : Nat) (ad : Option Addr) (j : Nat) (w : World), okP P → BdP P → Rd w R ad cap l j → R < B → LSrcG B 3 (PEB B) w a P →
    Calls Tryz.prog 12 #[.agg #[.slice a P.length c], .pointer (some ⟨R, 0, none⟩)] w (ForPost w R ad cap l (forD l P j))

set_option maxRecDepth 100000 in
set_option maxHeartbeats 4000000 in
theorem drawAllows_of (l : List Int) (hl : isBytes l) (hn : l.length ≤ 1048576) (F : Nat → K × Nat) (hF : KdF (l.take 600) F) (hFor : ForC (l.take 600)) (a : Option Addr) (cap : Nat) (w : World) (hs : BSrc w a l) (hcap : l.length ≤ cap) :
    Calls Tryz.prog 4 #[.slice a l.length cap] w (AllPost (anyB (l.take 600) F 0) (anyD (l.take 600) F 0) (allX (l.take 600) F) w) := by
  have HO : Hid (∀ w1, Below w.heap.size w w1 → Calls Tryz.prog 10 #[.slice a l.length cap] w1 fun e w' => ∃ R cap', e = .returned (.pointer (some ⟨R, 0, none⟩)) ∧ w1.heap.size ≤ R ∧ Rd w' R a cap' (l.take 600) 0 ∧ Below w1.heap.size w1 w') := fun w1 hb => open_any a cap l w1 (hs.below hb) hl hcap hn
  have hbL := isBytes_take hl 600
  generalize l.take 600 = L at *
  clear hs hcap
  generalize l.length = ll at *
  have HAny : Hid (∀ R cap W, Rd W R a cap L 0 → Calls Tryz.prog 11 #[.pointer (some ⟨R, 0, none⟩)] W fun e w' => ∃ v, e = .returned (.agg #[v]) ∧ PolPost W.heap.size R a cap L ((anyD L F 0, anyJ L F 0), anyB L F 0) W w' v) := fun R cap W h => drawAny_any L F hF R cap a 0 W h
  have HFor : Hid (∀ P a2 c B R cap j W, okP P → BdP P → Rd W R a cap L j → R < B → LSrcG B 3 (PEB B) W a2 P → Calls Tryz.prog 12 #[.agg #[.slice a2 P.length c], .pointer (some ⟨R, 0, none⟩)] W (ForPost W R a cap L (forD L P j))) := fun P a2 c B R cap j W h1 h2 h3 h4 h5 => hFor P a2 c B R cap a j W h1 h2 h3 h4 h5
  have HN : Hid (∀ t R cap W, Rd W R a cap L t → Calls Tryz.prog 13 #[.pointer (some ⟨R, 0, none⟩)] W fun e w' => e = .returned (.int .i64 (L.getD t 0)) ∧ Rd w' R a cap L (t + 1) ∧ W.grownBy w' (some R)) := fun t R cap W h => next_any R cap a L t W h
  have HB : Hid (∀ t, 0 ≤ L.getD t 0 ∧ L.getD t 0 ≤ 255) := isBytes_getD hbL
  have HGo : Hid _ := anyD_bd hbL hF 0
  have HX : Hid (∀ C J, forD L (anyD L F 0) (anyJ L F 0) = (C, J) → (L.getD J 0 % 20 = 7 → allX L F = ⟨C.arch, C.nr, C.args.take 5⟩) ∧ (¬ L.getD J 0 % 20 = 7 → allX L F = C)) := fun C J h => by
    unfold allX; rw [h]
    exact ⟨fun h => by rw [if_pos h], fun h => by rw [if_neg h]⟩
  generalize allX L F = X at *
  generalize anyD L F 0 = D at *
  generalize anyJ L F 0 = DJ at *
  generalize anyB L F 0 = DB at *
  clear hbL hF hl hn hFor
  have B2 : Below w.heap.size w ((w.alloc (.cells #[.slice none 0 0] 25)).alloc (.cells #[.int .u32 0, .int .u32 0, .slice none 0 0] 29)) := ((Below.refl _ _).alloc (Nat.le_refl _) _).alloc (by simp) _
  have e2 : ((w.alloc (.cells #[.slice none 0 0] 25)).alloc (.cells #[.int .u32 0, .int .u32 0, .slice none 0 0] 29)).heap.size = w.heap.size + 2 := by simp
  have q2 : ((w.alloc (.cells #[.slice none 0 0] 25)).alloc (.cells #[.int .u32 0, .int .u32 0, .slice none 0 0] 29)).cell? ⟨w.heap.size, 0, none⟩ = some (.slice none 0 0) ∧ ((w.alloc (.cells #[.slice none 0 0] 25)).alloc (.cells #[.int .u32 0, .int .u32 0, .slice none 0 0] 29)).frozen? ⟨w.heap.size, 0, none⟩ = false := by
    have q := box_getD w (.slice none 0 0) 25 _ rfl
    obtain ⟨c3, c4⟩ := cell_grD (g := w.heap.size) (o := 0) (rb_alloc (World.grownBy.refl (w.alloc (.cells #[.slice none 0 0] 25)) none) (.cells #[.int .u32 0, .int .u32 0, .slice none 0 0] 29)) (by simp) (by simp)
    exact ⟨c3.trans q.1, c4.trans q.2⟩
  have z2 : Box3 ((w.alloc (.cells #[.slice none 0 0] 25)).alloc (.cells #[.int .u32 0, .int .u32 0, .slice none 0 0] 29)) (w.heap.size + 1) (.int .u32 0) (.int .u32 0) (.slice none 0 0) := by
    have := Box3.new (w.alloc (.cells #[.slice none 0 0] 25)) 29 (.int .u32 0) (.int .u32 0) (.slice none 0 0)
    simpa using this
  go_enter Tryz.func4, Tryz.ntmps4
  go_wp2_with fail
  generalize ((w.alloc (.cells #[.slice none 0 0] 25)).alloc (.cells #[.int .u32 0, .int .u32 0, .slice none 0 0] 29)) = W2 at *
  refine (HO.out _ B2).mono ?_
  rintro _ w1 ⟨R, cap', rfl, hR0, hR1, b1⟩
  rw [e2] at hR0
  have B1 := B2.trans (b1.mono B2.size)
  have hs1 := b1.size
  rw [e2] at hs1
  have q1 := (b1.cell (p := ⟨w.heap.size, 0, none⟩) (by show w.heap.size < _; omega)).trans q2.1
  have f1 := (b1.frozen (p := ⟨w.heap.size, 0, none⟩) (by show w.heap.size < _; omega)).trans q2.2
  have z1 := z2.keep b1
  have hRw := hR1.lt
  clear HO B2 q2 z2 b1 e2
  go_wp2_with fail
  refine (HAny.out _ _ _ hR1).mono ?_
  rintro _ w3 ⟨vp, rfl, hp3⟩
  obtain ⟨P, a2, c2, ev, hc2, hsrc, hor⟩ := hp3.read
  subst ev
  have hfr := hp3.fr
  have hs3 := hfr.size
  have q3 := (World.cell?_of_block (a := ⟨w.heap.size, 0, none⟩) (hfr.block w.heap.size (by omega) (by omega))).trans q1
  have f3 := (World.frozen?_of_block (a := ⟨w.heap.size, 0, none⟩) (hfr.block w.heap.size (by omega) (by omega))).trans f1
  have z3 : Box3 w3 (w.heap.size + 1) (.int .u32 0) (.int .u32 0) (.slice none 0 0) := by
    have e := hfr.block (w.heap.size + 1) (by omega) (by omega)
    have ec : ∀ o, w3.cell? ⟨w.heap.size + 1, o, none⟩ = w1.cell? ⟨w.heap.size + 1, o, none⟩ := fun o => World.cell?_of_block (w := w1) e
    have ef : ∀ o, w3.frozen? ⟨w.heap.size + 1, o, none⟩ = w1.frozen? ⟨w.heap.size + 1, o, none⟩ := fun o => World.frozen?_of_block (a := ⟨w.heap.size + 1, o, none⟩) e
    exact ⟨by omega, (ec 0).trans z1.c0, (ec 1).trans z1.c1, (ec 2).trans z1.c2, (ef 0).trans z1.f0, (ef 1).trans z1.f1, (ef 2).trans z1.f2⟩
  have B3 : Below w.heap.size w w3 := B1.trans ⟨hfr.os, hfr.tape, hfr.output, hfr.size, fun k hk => hfr.block k (by omega) (by omega)⟩
  obtain ⟨j3, hR3, hbd3, hokP, HKp⟩ : ∃ j3, Rd w3 R a cap' L j3 ∧ BdP P ∧ okP P ∧ Hid (∀ W' C J, KeptB w1.heap.size w3 W' → forD L P j3 = (C, J) → (DB = true ∧ BadP w.heap.size W' (.slice a2 P.length c2)) ∨ (DB = false ∧ forD L D DJ = (C, J) ∧ PolOr w.heap.size D W' (.slice a2 P.length c2))) := by
    rcases hor with ⟨hD, h1, h2, h3⟩ | ⟨hD, h1, h2, g, gb, cb, pc, ge⟩
    · obtain ⟨j3, h4⟩ := hp3.rd
      exact ⟨j3, h4, h3, h1, fun W' C J hk _ => .inl ⟨hD, P, a2, c2, rfl, hc2, h1, h2, h3, polB_mono (polB_kept hsrc hk) (by omega)⟩⟩
    · subst h1
      exact ⟨DJ, h2, HGo.out.2, HGo.out.1, fun W' C J hk e => .inr ⟨hD, e, g, gb, cb, pc.keptB ge hk, ge.mono (by omega)⟩⟩
  have b4 : Below w3.heap.size w3 (w3.alloc (.cells #[.slice a2 P.length c2] 25)) := (Below.refl _ _).alloc (Nat.le_refl _) _
  have x4 := box1 w3 25 (.slice a2 P.length c2)
  have q4 := (b4.cell (p := ⟨w.heap.size, 0, none⟩) (by show w.heap.size < _; omega)).trans q3
  have f4 := (b4.frozen (p := ⟨w.heap.size, 0, none⟩) (by show w.heap.size < _; omega)).trans f3
  have z4 := z3.keep b4
  have B4 := B3.trans (b4.mono B3.size)
  have k4 := (KeptB.refl w1.heap.size w3).below b4
  have hR4 := hR3.below b4
  have hsrc4 := polB_kept hsrc k4
  have e4 : (w3.alloc (.cells #[.slice a2 P.length c2] 25)).heap.size = w3.heap.size + 1 := by simp
  clear hor hp3 hfr hsrc q1 f1 z1 q3 f3 z3 HAny HGo b4 hR3 B3 B1
  go_upto_region 3 with fail
  generalize (w3.alloc (.cells #[.slice a2 P.length c2] 25)) = W4 at *
  obtain ⟨CJ, hCJ⟩ : ∃ CJ, forD L P j3 = CJ := ⟨_, rfl⟩
  have HF4 : Hid (Calls Tryz.prog 12 #[.agg #[.slice a2 P.length c2], .pointer (some ⟨R, 0, none⟩)] W4 (ForPost W4 R a cap' L CJ)) := by rw [← hCJ]; exact HFor.out P a2 c2 _ R cap' j3 W4 hokP hbd3 hR4 hRw hsrc4
  obtain ⟨⟨car, cnr, cargs⟩, CJ2⟩ := CJ
  have HKp4 : Hid (∀ W', KeptB w1.heap.size w3 W' → (DB = true ∧ BadP w.heap.size W' (.slice a2 P.length c2)) ∨ (DB = false ∧ forD L D DJ = (⟨car, cnr, cargs⟩, CJ2) ∧ PolOr w.heap.size D W' (.slice a2 P.length c2))) := fun W' hk => HKp.out W' _ _ hk hCJ
  clear HFor hCJ hokP hbd3 HKp hsrc4 hc2
  generalize P.length = pn at *
  generalize hG3 : w3.heap.size = G3 at *
  go_wp2_with fail
  refine HF4.out.mono ?_
  rintro _ w5 ⟨q, cq, rfl, ho5, hl6, hok5, hR5, hg5⟩
  simp only at ho5 hl6 hok5 hR5
  simp only
  have hs4 := hg5.size
  have hcq : 6 ≤ cq := by
    obtain ⟨_, h | ⟨g', cap', cur, e, _, _, hn', _⟩⟩ := id ho5
    · cases h.1
    · simp only [Value.slice.injEq] at e
      rw [hl6] at hn'; omega
  have hq5 := ho5.lt q rfl
  have hR5w : R < W4.heap.size := hR4.lt
  have q5 := (cell_grD (g := w.heap.size) (o := 0) hg5 (by omega) (by simp; omega)).1.trans q4
  have f5 := (cell_grD (g := w.heap.size) (o := 0) hg5 (by omega) (by simp; omega)).2.trans f4
  have x5 := (cell_grD (g := G3) (o := 0) hg5 (by omega) (by simp; omega)).1.trans x4
  have z5 := z4.grownX hg5 (by simp; omega)
  have B5 := B4.grown hg5 (by omega) (fun z hz => by simp at hz; omega)
  have k5 := k4.grown hg5 hRw
  have b6 : Below w5.heap.size w5 (w5.alloc (.cells #[.int .u32 car, .int .u32 cnr, .slice (some ⟨q, 0, none⟩) 6 cq] 29)) := (Below.refl _ _).alloc (Nat.le_refl _) _
  have y6 := Box3.new w5 29 (.int .u32 car) (.int .u32 cnr) (.slice (some ⟨q, 0, none⟩) 6 cq)
  have q6 := (b6.cell (p := ⟨w.heap.size, 0, none⟩) (by show w.heap.size < _; omega)).trans q5
  have f6 := (b6.frozen (p := ⟨w.heap.size, 0, none⟩) (by show w.heap.size < _; omega)).trans f5
  have x6 := (b6.cell (p := ⟨G3, 0, none⟩) (by show G3 < _; omega)).trans x5
  have z6 := z5.keep b6
  have B6 := B5.trans (b6.mono B5.size)
  have k6 := k5.below b6
  have o6 := ownsU_below ho5 b6
  have hR6 := hR5.below b6
  have e6 : (w5.alloc (.cells #[.int .u32 car, .int .u32 cnr, .slice (some ⟨q, 0, none⟩) 6 cq] 29)).heap.size = w5.heap.size + 1 := by simp
  clear q5 f5 x5 z5 B5 k5 b6 ho5 hR5 q4 f4 x4 z4 B4 k4 hR4 hg5
  go_upto_region 4 with fail
  generalize (w5.alloc (.cells #[.int .u32 car, .int .u32 cnr, .slice (some ⟨q, 0, none⟩) 6 cq] 29)) = W6 at *
  generalize w5.heap.size = G6 at *
  have hx := HB.out CJ2
  have HN6 : Hid (∀ W, Rd W R a cap' L CJ2 → Calls Tryz.prog 13 #[.pointer (some ⟨R, 0, none⟩)] W fun e w' => e = .returned (.int .i64 (L.getD CJ2 0)) ∧ Rd w' R a cap' L (CJ2 + 1) ∧ W.grownBy w' (some R)) := HN.out CJ2 R cap'
  have HX6 : Hid (∀ W', KeptB w1.heap.size w3 W' → (DB = true ∧ BadP w.heap.size W' (.slice a2 pn c2)) ∨ (DB = false ∧ (L.getD CJ2 0 % 20 = 7 → X = ⟨car, cnr, cargs.take 5⟩) ∧ (¬ L.getD CJ2 0 % 20 = 7 → X = ⟨car, cnr, cargs⟩) ∧ PolOr w.heap.size D W' (.slice a2 pn c2))) := fun W' hk => by
    rcases HKp4.out W' hk with h | ⟨h0, h1, h2⟩
    · exact .inl h
    · obtain ⟨h3, h4⟩ := HX.out _ _ h1
      exact .inr ⟨h0, h3, h4, h2⟩
  clear HN HB HX HKp4
  generalize L.getD CJ2 0 = x at *
  go_wp2_with fail
  refine (HN6.out _ hR6).mono ?_
  rintro _ w7 ⟨rfl, _, hg7⟩
  have hs7 := hg7.size
  obtain ⟨q7, f7⟩ := cell_grD (g := w.heap.size) (o := 0) hg7 (by omega) (by simp; omega)
  replace q7 := q7.trans q6
  replace f7 := f7.trans f6
  have x7 := (cell_grD (g := G3) (o := 0) hg7 (by omega) (by simp; omega)).1.trans x6
  have z7 := z6.grownX hg7 (by simp; omega)
  have y7 := y6.grownX hg7 (by simp; omega)
  have B7 := B6.grown hg7 (by omega) (fun z hz => by simp at hz; omega)
  have k7 := k6.grown hg7 hRw
  have o7 := ownsU_rdX o6 hg7 hR5w
  clear q6 f6 x6 z6 y6 B6 k6 o6 hR6 hg7 HN6
  by_cases h7 : x % 20 = 7
  · have hc5 : (5 : Int) ≤ (cq : Int) := by omega
    obtain ⟨_, y0, y1, y2, yf0, yf1, yf2⟩ := id y7
    obtain ⟨_, z0, z1, z2, zf0, zf1, zf2⟩ := id z7
    have n1 : ¬ w.heap.size = G3 := by omega
    have n2 : ¬ w.heap.size = G6 := by omega
    have n3 : ¬ w.heap.size + 1 = G6 := by omega
    have n4 : ¬ w.heap.size + 1 = G3 := by omega
    have y8 := y7.set2 (.slice (some ⟨q, 0, none⟩) 5 cq)
    have z8 : Box3 (w7.setCell ⟨G6, 2, none⟩ (.slice (some ⟨q, 0, none⟩) 5 cq)) (w.heap.size + 1) (.int .u32 0) (.int .u32 0) (.slice none 0 0) := z7.setO n3
    have x8 : (w7.setCell ⟨G6, 2, none⟩ (.slice (some ⟨q, 0, none⟩) 5 cq)).cell? ⟨G3, 0, none⟩ = some (.slice a2 pn c2) := by rw [cell_otherB (by omega)]; exact x7
    have q8 : (w7.setCell ⟨G6, 2, none⟩ (.slice (some ⟨q, 0, none⟩) 5 cq)).cell? ⟨w.heap.size, 0, none⟩ = some (.slice none 0 0) := by rw [cell_otherB (by omega)]; exact q7
    have f8 : (w7.setCell ⟨G6, 2, none⟩ (.slice (some ⟨q, 0, none⟩) 5 cq)).frozen? ⟨w.heap.size, 0, none⟩ = false := by simpa using f7
    have k8 := k7.set (D := G6) (.inr (by omega)) 2 (.slice (some ⟨q, 0, none⟩) 5 cq)
    have B8 := B7.setCell (p := ⟨G6, 2, none⟩) (by show w.heap.size ≤ G6; omega) (.slice (some ⟨q, 0, none⟩) 5 cq)
    have o8 := ownsU_set (j := 2) (x := .slice (some ⟨q, 0, none⟩) 5 cq) o7 (fun k hk => by simp [Value.ownBlock] at hk; omega : ∀ k, (Value.slice (some ⟨q, 0, none⟩) 6 cq).ownBlock = some k → k ≠ G6)
    have HEnd : Hid _ := all_end (.slice a2 pn c2) (.int .u32 car) (.int .u32 cnr) (.slice (some ⟨q, 0, none⟩) 5 cq) (show w.heap.size + 1 < w1.heap.size by omega) k8 B8 o8 (by omega)
    clear z0 z1 z2 zf0 zf1 zf2 k7 B7 o7 k8 B8 o8 z7 y7
    go_upto_region 6 with fail
    clear y0 y1 y2 yf0 yf1 yf2 q7 f7 x7
    generalize w7.setCell ⟨G6, 2, none⟩ (.slice (some ⟨q, 0, none⟩) 5 cq) = W8 at *
    obtain ⟨_, y0, y1, y2, yf0, yf1, yf2⟩ := y8
    obtain ⟨_, z0, z1, z2, zf0, zf1, zf2⟩ := z8
    go_region_with (fail)
    all_goals
      go_wp2
      obtain ⟨hk, hb, hu⟩ := HEnd.out
      refine bodyPost_ret (v := .tuple #[.agg #[.slice a2 pn c2], .agg #[.int .u32 car, .int .u32 cnr, .slice (some ⟨q, 0, none⟩) 5 cq]]) (by simp [results, Tryz.results4, go_sem, q8, z0, z1, z2]) rfl ⟨_, _, _, _, 5, _, cargs.take 5, rfl, by rw [List.length_take, hl6]; rfl, .inl rfl, hu.take 5, ⟨hok5.1, hok5.2.1, hok5.2.2.1, hok5.2.2.2.1, fun y hy => hok5.2.2.2.2 y (List.mem_of_mem_take hy)⟩, hb, ?_⟩
      rcases HX6.out _ hk with h | ⟨h0, h1, h2, h3⟩
      · exact .inl h
      · exact .inr ⟨h0, (h1 h7).symm, h3⟩
  · obtain ⟨_, y0, y1, y2, yf0, yf1, yf2⟩ := id y7
    obtain ⟨_, z0, z1, z2, zf0, zf1, zf2⟩ := id z7
    have n1 : ¬ w.heap.size = G3 := by omega
    have n2 : ¬ w.heap.size = G6 := by omega
    have n3 : ¬ w.heap.size + 1 = G6 := by omega
    have n4 : ¬ w.heap.size + 1 = G3 := by omega
    have HEnd : Hid _ := all_end (.slice a2 pn c2) (.int .u32 car) (.int .u32 cnr) (.slice (some ⟨q, 0, none⟩) 6 cq) (show w.heap.size + 1 < w1.heap.size by omega) k7 B7 o7 (by omega)
    clear k7 B7 o7
    go_upto_region 6 with fail
    go_region_with (fail)
    all_goals
      go_wp2
      obtain ⟨hk, hb, hu⟩ := HEnd.out
      refine bodyPost_ret (v := .tuple #[.agg #[.slice a2 pn c2], .agg #[.int .u32 car, .int .u32 cnr, .slice (some ⟨q, 0, none⟩) 6 cq]]) (by simp [results, Tryz.results4, go_sem, q7, z0, z1, z2]) rfl ⟨_, _, _, _, 6, _, cargs, rfl, hl6, .inr rfl, hu, hok5, hb, ?_⟩
      rcases HX6.out _ hk with h | ⟨h0, h1, h2, h3⟩
      · exact .inl h
      · exact .inr ⟨h0, (h2 h7).symm, h3⟩
end Go.Proofs.YtoamapdfcdefjaaGreat
