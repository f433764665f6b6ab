/-
  LrnW
-/
import Derived.Test.YtljhccolmcoifaaGreatQ39
import Derived.Test.YtljhccolmcoifaaGreatQ47
import Derived.Test.YtljhccolmcoifaaGreatQ12
import Derived.Test.YtljhccolmcoifaaGreatQ16
import Derived.Deep.RegionLaw
namespace Go.Proofs.YtljhccolmcoifaaGreat.fnExactLearn
open Go.RowKit Go.Deep
set_option linter.unusedVariables false
set_option linter.unusedSimpArgs false

theorem frozen_setL (u : World) (p q : Addr) (v : Value) : (u.setCell p v).frozen? q = u.frozen? q := by simp
/-- what the law knows wherever it stands -/
structure SB (w : World) (ex sp f : Int) (u : World) : Prop where
  b : Below w.heap.size w u
  x : Box3 u w.heap.size (.int .i64 ex) (.int .i64 sp) (.int .i64 f)
theorem SB.keep {w : World} {ex sp f : Int} {u u' : World} (h : SB w ex sp f u) (hb : Below u.heap.size u u') : SB w ex sp f u' := ⟨below_step hb h.b, h.x.keep hb⟩
theorem SB.alloc {w : World} {ex sp f : Int} {u : World} (h : SB w ex sp f u) (o : Obj) : SB w ex sp f (u.alloc o) := h.keep ((Below.refl _ _).alloc (Nat.le_refl _) o)
theorem SB.set {w : World} {ex sp f : Int} {u : World} {D : Nat} (h : SB w ex sp f u) (hD : w.heap.size < D) (v : Value) : SB w ex sp f (u.setCell ⟨D, 0, none⟩ v) := ⟨h.b.setCell (p := ⟨D, 0, none⟩) (Nat.le_of_lt hD) v, ⟨by simp [World.setCell]; exact h.x.lt, (World.cell?_setCell_other _ _ _ _ (by intro e; injection e with e; omega)).trans h.x.c0, (World.cell?_setCell_other _ _ _ _ (by intro e; injection e with e; omega)).trans h.x.c1, (World.cell?_setCell_other _ _ _ _ (by intro e; injection e with e; omega)).trans h.x.c2, (frozen_setL _ _ _ _).trans h.x.f0, (frozen_setL _ _ _ _).trans h.x.f1, (frozen_setL _ _ _ _).trans h.x.f2⟩⟩
/-- a box for a policy -/
structure BX (lo : Nat) (u : World) (D : Nat) : Prop where
  c : u.cell? ⟨D, 0, none⟩ = some (.slice none 0 0)
  f : u.frozen? ⟨D, 0, none⟩ = false
  d : lo ≤ D
theorem BX.new {lo : Nat} {u : World} (h : lo ≤ u.heap.size) (t : TypeId) : BX lo (u.alloc (.cells #[.slice none 0 0] t)) u.heap.size := ⟨box1 u t _, by simp, h⟩
theorem BX.keep {lo : Nat} {u u' : World} {D : Nat} (h : BX lo u D) (hb : Below u.heap.size u u') : BX lo u' D := ⟨cell_step hb h.c, (hb.frozen (p := ⟨D, 0, none⟩) (cell_ltM h.c)).trans h.f, h.d⟩
/-- the model has answered -/
structure SpS (w : World) (ex sp f : Int) (D n : Nat) (a3 : Option Addr) (c3 : Nat) (out : List E) (W : World) : Prop where
  s : SB w ex sp f W
  t : W.cell? ⟨D, 0, none⟩ = some (.slice a3 n c3)
  d : w.heap.size < D
  src : LSrc 3 PE W a3 out

theorem SpS.keep {w : World} {ex sp f : Int} {D n : Nat} {a3 : Option Addr} {c3 : Nat} {out : List E} {u u' : World} (h : SpS w ex sp f D n a3 c3 out u) (hb : Below u.heap.size u u') : SpS w ex sp f D n a3 c3 out u' := ⟨h.s.keep hb, cell_step hb h.t, h.d, h.src.below PE.stays hb⟩
/-- the program has answered -/
structure GS (G : World → Prop) (W5 : World) (D m : Nat) (a7 : Option Addr) (c7 : Nat) (wr : World) : Prop where
  b : Below W5.heap.size W5 wr
  t : wr.cell? ⟨D, 0, none⟩ = some (.slice a7 m c7)
  own : G wr
theorem GS.early {G : World → Prop} {W5 u0 u : World} {D m : Nat} {a7 : Option Addr} {c7 : Nat} (h : Below W5.heap.size W5 u) (hb : Below u0.heap.size u0 u) (bx : BX W5.heap.size u0 D) (hs : ∀ u' : World, u.heap.size ≤ u'.heap.size → (∀ q, u0.heap.size ≤ q → q < u.heap.size → u'.heap[q]? = u.heap[q]?) → G u') : GS G W5 D m a7 c7 (u.setCell ⟨D, 0, none⟩ (.slice a7 m c7)) :=
  ⟨h.setCell (p := ⟨D, 0, none⟩) bx.d _, World.cell?_setCell_same _ _ _ (bx.keep hb).c, hs _ (by simp [World.setCell]) fun q h1 _ => by
    have := cell_ltM bx.c
    simp only at this
    simp only [World.setCell, Array.getElem?_modify]; rw [if_neg (by omega)]⟩
theorem GS.late {G : World → Prop} {W5 u0 u : World} {m : Nat} {a7 : Option Addr} {c7 : Nat} {t : TypeId} (h : Below W5.heap.size W5 u) (hs : ∀ u' : World, u.heap.size ≤ u'.heap.size → (∀ q, u0.heap.size ≤ q → q < u.heap.size → u'.heap[q]? = u.heap[q]?) → G u') : GS G W5 u.heap.size m a7 c7 (u.alloc (.cells #[.slice a7 m c7] t)) :=
  ⟨h.alloc h.size _, box1 u t _, hs _ (by simp) fun q h1 h2 => Below.heap_alloc _ _ _ h2⟩
theorem cell_blk {w w1 : World} {b o : Nat} {v : Value} (h : w.cell? ⟨b, o, none⟩ = some v) (e : w1.heap[b]? = w.heap[b]?) : w1.cell? ⟨b, o, none⟩ = some v := by
  simp only [World.cell?, e] at h ⊢; exact h
def Laid (a : Option Addr) (out : List E) (u0 u : World) : Prop := ∀ w2 : World, u.heap.size ≤ w2.heap.size → (∀ q, u0.heap.size ≤ q → q < u.heap.size → w2.heap[q]? = u.heap[q]?) → LSrc 3 PE w2 a out
theorem SpS.early {w : World} {ex sp f : Int} {u0 u : World} {D n : Nat} {a3 : Option Addr} {c3 : Nat} {out : List E} (h : SB w ex sp f u) (hb : Below u0.heap.size u0 u) (bx : BX (w.heap.size + 1) u0 D) (hs : Laid a3 out u0 u) : SpS w ex sp f D n a3 c3 out (u.setCell ⟨D, 0, none⟩ (.slice a3 n c3)) :=
  ⟨h.set bx.d _, World.cell?_setCell_same _ _ _ (bx.keep hb).c, bx.d, hs _ (by simp [World.setCell]) fun q h1 _ => by
    have := cell_ltM bx.c
    simp only at this
    simp only [World.setCell, Array.getElem?_modify]; rw [if_neg (by omega)]⟩
theorem SpS.late {w : World} {ex sp f : Int} {u0 u : World} {n : Nat} {a3 : Option Addr} {c3 : Nat} {out : List E} {t : TypeId} (h : SB w ex sp f u) (hs : Laid a3 out u0 u) : SpS w ex sp f u.heap.size n a3 c3 out (u.alloc (.cells #[.slice a3 n c3] t)) :=
  ⟨h.alloc _, box1 u t _, h.x.lt, hs _ (by simp) fun q h1 h2 => Below.heap_alloc _ _ _ h2⟩

set_option maxRecDepth 100000 in
set_option maxHeartbeats 8000000 in
theorem walk0 (n cap : Nat) (a : Option Addr) (ex sp f KN : Int) (w : World) (OC : World → Nat → (Nat → Value) → Prop) (SC : Nat → (Nat → Value) → Nat → Prop) (R : List E → Int → Prop) (GO : List E → Nat → Nat → World → Option Addr → Nat → Prop) (hKN : 0 ≤ KN)
    (HSz : Hid (∀ w1, Below w.heap.size w w1 → Calls Tryz.prog 4 #[.slice a n cap, .int .i64 1048576] w1 fun e w' => ∃ r, e = .returned (.int .i64 r) ∧ (r = -1 ∨ (0 ≤ r ∧ r ≤ 1048576)) ∧ Below w1.heap.size w1 w'))
    (HC1 : Hid (∀ w1, Below w.heap.size w w1 → Calls Tryz.prog 6 #[.slice a n cap] w1 fun e w' => ∃ vs, e = .returned (.slice (some ⟨w1.heap.size, 0, none⟩) n n) ∧ OC w' w1.heap.size vs ∧ Below w1.heap.size w1 w'))
    (HKn : Hid (∀ w1, Calls Tryz.prog 7 #[.agg #[.int .i64 ex, .int .i64 sp, .int .i64 f]] w1 fun e w' => e = .returned (.agg #[.int .i64 ex, .int .i64 sp, .int .i64 f]) ∧ Below w1.heap.size w1 w'))
    (HC2 : Hid (∀ D vs w1, OC w1 D vs → Calls Tryz.prog 5 #[.slice (some ⟨D, 0, none⟩) n n, .agg #[.int .i64 ex, .int .i64 sp, .int .i64 f]] w1 fun e w' => ∃ a3 c3 out z, e = .returned (.tuple #[.agg #[.slice a3 (List.length out) c3], .int .i64 z]) ∧ R out z ∧ Laid a3 out w1 w' ∧ Below w1.heap.size w1 w'))
    (HC3 : Hid (∀ out z, R out z → ∀ D vs w1, OC w1 D vs → Calls Tryz.prog 8 #[.slice (some ⟨D, 0, none⟩) n n, .agg #[.int .i64 ex, .int .i64 sp, .int .i64 f]] w1 fun e w' => ∃ a7 c7, e = .returned (.tuple #[.agg #[.slice a7 out.length c7], .int .i64 z]) ∧ GO out w1.heap.size w'.heap.size w' a7 c7 ∧ Below w1.heap.size w1 w'))
    (HC4 : Hid (∀ D vs D' vs' w1, OC w1 D vs → OC w1 D' vs' → Calls Tryz.prog 10 #[.slice (some ⟨D, 0, none⟩) n n, .slice (some ⟨D', 0, none⟩) n n] w1 fun e w' => e = .returned (.bool true) ∧ Below w1.heap.size w1 w'))
    (HC5 : Hid (∀ D vs w1, OC w1 D vs → Calls Tryz.prog 11 #[.slice (some ⟨D, 0, none⟩) n n, .int .i64 1] w1 fun e w' => e = .returned (.int .i64 KN) ∧ Far w1 w' (SC D vs)))
    (HOS : Hid (∀ D vs w1 q, OC w1 D vs → SC D vs q → D ≤ q ∧ q < w1.heap.size))
    (HOB : Hid (∀ D vs w1 w2, OC w1 D vs → Below w1.heap.size w1 w2 → OC w2 D vs))
    (H5 : Hid (∀ out z, R out z → ∀ a2 a3 cap2 cap3 w1, LSrc 3 PE w1 a2 out → LSrc 3 PE w1 a3 out → Calls Tryz.prog 9 #[.agg #[.slice a2 out.length cap2], .agg #[.slice a3 out.length cap3]] w1 fun e w' => e = .returned (.bool true) ∧ Below w1.heap.size w1 w'))
    (HGk : Hid (∀ out D D' w1 w2 a c, GO out D D' w1 a c → w1.heap.size ≤ w2.heap.size → (∀ q, D ≤ q → q < D' → w2.heap[q]? = w1.heap[q]?) → GO out D D' w2 a c))
    (HGr : Hid (∀ out z, R out z → ∀ D D' w a c, GO out D D' w a c → LSrc 3 PE w a out ∧ ∃ A, SE w a out.length A ∧ (A.map Prod.fst).Nodup ∧ (∀ x ∈ A, D ≤ x.1.block ∧ x.1.block < D') ∧ A.length ≤ 4000000)) :
    Calls Tryz.prog 3 #[.slice a n cap, .agg #[.int .i64 ex, .int .i64 sp, .int .i64 f]] w fun e w' => e = .returned (.bool true) ∧ Below w.heap.size w w' := by
  have B0 : Below w.heap.size w (w.alloc (.cells #[.int .i64 ex, .int .i64 sp, .int .i64 f] 24)) := (Below.refl _ _).alloc (Nat.le_refl _) _
  have X0 := Box3.new w 24 (.int .i64 ex) (.int .i64 sp) (.int .i64 f)
  go_enter Tryz.func3, Tryz.ntmps3
  go_wp2_with fail
  refine (HSz.out _ B0).mono ?_
  rintro _ w1 ⟨r, rfl, hr, hb1⟩
  have B1 := below_step hb1 B0
  have X1 := X0.keep hb1
  clear hb1 B0 X0 HSz
  rcases hr with rfl | ⟨r0, r1⟩
  · go_wp2
    go_ret
    exact ⟨rfl, B1⟩
  have hr' : ¬ r < 0 := by omega
  obtain ⟨_, k0, k1, k2, _, _, _⟩ := id X1
  have B1d : Below w.heap.size w w1.drew := B1.drew
  have S1 : SB w ex sp f w1.drew := ⟨B1d, X1.keep ((Below.refl _ _).drew)⟩
  clear B1 B1d X1
  go_wp2_with fail
  apply wp_cutA (fun act W => ∃ (D : Nat) (a3 : Option Addr) (c3 : Nat) (out : List E) (z : Int) (y21 y22 y23 y24 y25 y26 y27 y28 : Value), act = { tmps := #[.slice a n cap, .agg #[.int .i64 ex, .int .i64 sp, .int .i64 f], undef, .pointer (some ⟨w.heap.size, 0, none⟩), .bool false, .int .i64 r, .pointer (some ⟨D, 0, none⟩), .int .i64 z, undef, undef, undef, undef, undef, undef, undef, undef, .slice a n cap, .int .i64 1048576, .int .i64 r, .int .i64 r, .bool (decide (r < 0)), y21, y22, y23, y24, y25, y26, y27, y28, undef, undef, undef, undef, undef, undef, undef, undef, undef, undef, undef, undef, undef, undef, undef, undef, undef, undef, undef, undef, undef, undef, undef, undef, undef, undef, undef, undef, undef, undef, undef, undef, undef, undef, undef, undef, undef, undef, undef, undef, undef, undef, undef, undef, undef, undef, undef, undef, undef, undef, undef, undef, undef, undef, undef, undef, undef, undef, undef, undef, undef, undef, undef, undef, undef, undef, undef], defers := [] } ∧ R out z ∧ SpS w ex sp f D out.length a3 c3 out W)
  case h =>
    go_region_law (first
      | (go_simp; go_at_call 6; refine (HC1.out _ (SB.b (by first | exact S1 | exact S1.alloc _))).mono ?_; rintro _ w2 ⟨vs2, rfl, oc, hb2⟩; (try simp at oc); (first | have S2 := S1.keep hb2 | have S2 := (S1.alloc _).keep hb2); (first | have bx := (BX.new (lo := w.heap.size + 1) S1.x.lt _).keep hb2 | skip); obtain ⟨_, k0, k1, k2, _, _, _⟩ := id S2.x; dsimp only)
      | (go_simp; go_at_call 7; refine (HKn.out _).mono ?_; rintro _ w3 ⟨rfl, hb3⟩; (first | have S3 := S2.keep hb3 | have S3 := (S2.alloc _).keep hb3); (first | have bx := (BX.new (lo := w.heap.size + 1) S2.x.lt _).keep hb3 | have bx := bx.keep hb3 | skip); (first | have oc3 := HOB.out _ _ _ _ oc hb3 | have oc3 := HOB.out _ _ _ _ (HOB.out _ _ _ _ oc ((Below.refl _ _).alloc (Nat.le_refl _) _)) hb3); dsimp only)
      | (go_simp; go_at_call 5; refine (HC2.out _ _ _ (by first | exact oc3 | exact HOB.out _ _ _ _ oc3 ((Below.refl _ _).alloc (Nat.le_refl _) _))).mono ?_; rintro _ w4 ⟨a3, c3, out, z, rfl, hRo, hsrc, hb4⟩; (first | have S4 := S3.keep hb4 | have S4 := (S3.alloc _).keep hb4); (first | (have bx := (BX.new (lo := w.heap.size + 1) S3.x.lt _).keep hb4; have e4 := SpS.early (n := out.length) (c3 := c3) S4 hb4 (BX.new (lo := w.heap.size + 1) S3.x.lt _) hsrc; obtain ⟨bc, bf, _⟩ := id bx; (try simp at bc); (try simp at bf)) | (have e4 := SpS.early (n := out.length) (c3 := c3) S4 hb4 bx hsrc; have bx := bx.keep hb4; obtain ⟨bc, bf, _⟩ := id bx; (try simp at bc); (try simp at bf)) | (have e4 := SpS.late (n := out.length) (c3 := c3) (t := 28) S4 hsrc)); dsimp only))
    all_goals exact CutA.mk ⟨_, a3, c3, out, z, _, _, _, _, _, _, _, _, rfl, hRo, e4⟩
  clear S1
  rintro _ W5 ⟨D5, a3, c3, out, z, u21, u22, u23, u24, u25, u26, u27, u28, rfl, hR0, P5⟩
  have hR : Hid (R out z) := hR0
  have HI : Hid (∀ D vs w1, OC w1 D vs → Calls Tryz.prog 8 #[.slice (some ⟨D, 0, none⟩) n n, .agg #[.int .i64 ex, .int .i64 sp, .int .i64 f]] w1 fun e w' => ∃ a7 c7, e = .returned (.tuple #[.agg #[.slice a7 out.length c7], .int .i64 z]) ∧ GO out w1.heap.size w'.heap.size w' a7 c7 ∧ Below w1.heap.size w1 w') := HC3.out out z hR.out
  have HE : Hid (∀ a2 a3 cap2 cap3 w1, LSrc 3 PE w1 a2 out → LSrc 3 PE w1 a3 out → Calls Tryz.prog 9 #[.agg #[.slice a2 out.length cap2], .agg #[.slice a3 out.length cap3]] w1 fun e w' => e = .returned (.bool true) ∧ Below w1.heap.size w1 w') := H5.out out z hR.out
  have HG : Hid (∀ D D' w a c, GO out D D' w a c → LSrc 3 PE w a out ∧ ∃ A, SE w a out.length A ∧ (A.map Prod.fst).Nodup ∧ (∀ x ∈ A, D ≤ x.1.block ∧ x.1.block < D') ∧ A.length ≤ 4000000) := HGr.out out z hR.out
  have HX : Hid (∀ W, Below W5.heap.size W5 W → SpS w ex sp f D5 out.length a3 c3 out W) := fun W hb => P5.keep hb
  clear hR0 HC2 HC3 H5 HGr hR
  generalize out.length = m at *
  dsimp only
  go_wp2_with fail
  refine (HC1.out _ P5.s.b).mono ?_
  rintro _ w6 ⟨vx, rfl, ox, hb6⟩
  have P6 := P5.keep hb6
  have hSx : Hid (∀ q, SC W5.heap.size vx q → W5.heap.size ≤ q ∧ q < w6.heap.size) := fun q hq => HOS.out _ _ _ q ox hq
  have hs6 := hb6.size
  obtain ⟨_, k0, k1, k2, _, _, _⟩ := id P6.s.x
  clear P5
  go_wp2_with fail
  refine (HKn.out _).mono ?_
  rintro _ w7 ⟨rfl, hb7⟩
  have hs7 := hb7.size
  have hb57 := below_step hb7 hb6
  have ox7 := HOB.out _ _ _ _ ox hb7
  clear k0 k1 k2 P6 ox hb6 hb7
  go_wp2_with fail
  refine (HI.out _ _ _ ox7).mono ?_
  rintro _ w8 ⟨a7, c7, rfl, g8, hb8⟩
  have hb58 := below_step hb8 hb57
  have ox8 := HOB.out _ _ _ _ ox7 hb8
  have hs8 := hb8.size
  have P8 := HX.out _ hb58
  have t8 := P8.t
  have hbA : Below w8.heap.size w8 (w8.alloc (.cells #[.slice a7 m c7] 28)) := (Below.refl _ _).alloc (Nat.le_refl _) _
  have hnx := World.new_ne w8 _ t8
  have HGk' : Hid (∀ u u', GO out w7.heap.size w8.heap.size u a7 c7 → u.heap.size ≤ u'.heap.size → (∀ q, w7.heap.size ≤ q → q < w8.heap.size → u'.heap[q]? = u.heap[q]?) → GO out w7.heap.size w8.heap.size u' a7 c7) := fun u u' h1 h2 h3 => HGk.out _ _ _ u u' _ _ h1 h2 h3
  have HGe : Hid (∀ u, GO out w7.heap.size w8.heap.size u a7 c7 → LSrc 3 PE u a7 out ∧ ∃ A, SE u a7 m A ∧ (A.map Prod.fst).Nodup ∧ (∀ x ∈ A, w7.heap.size ≤ x.1.block ∧ x.1.block < w8.heap.size) ∧ A.length ≤ 4000000) := fun u h => HG.out _ _ _ _ _ h
  have M9 : GS (fun u => GO out w7.heap.size w8.heap.size u a7 c7) W5 w8.heap.size m a7 c7 (w8.alloc (.cells #[.slice a7 m c7] 28)) := ⟨below_step hbA hb58, box1 w8 28 _, HGk'.out _ _ g8 hbA.size fun q _ hq => hbA.block q hq⟩
  have ox9 := HOB.out _ _ _ _ ox8 hbA
  obtain ⟨G, hG⟩ : ∃ G : World → Prop, ∀ u, GO out w7.heap.size w8.heap.size u a7 c7 = G u := ⟨_, fun _ => rfl⟩
  simp only [hG] at HGk' HGe M9
  have HMk : Hid (∀ u u', GS G W5 w8.heap.size m a7 c7 u → Below u.heap.size u u' → GS G W5 w8.heap.size m a7 c7 u') := fun u u' h hb => ⟨below_step hb h.b, cell_step hb h.t, HGk'.out _ _ h.own hb.size fun q _ hq => hb.block q (by have := cell_ltM h.t; simp only at this; omega)⟩
  have HMf : Hid (∀ u u', GS G W5 w8.heap.size m a7 c7 u → Far u u' (SC W5.heap.size vx) → GS G W5 w8.heap.size m a7 c7 u') := fun u u' h hf => by
    have hl := cell_ltM h.t
    simp only at hl
    have key : ∀ q, w7.heap.size ≤ q → q ≤ w8.heap.size → u'.heap[q]? = u.heap[q]? := fun q h1 h2 => hf.block q (by omega) fun e => by have := (hSx.out q e).2; omega
    exact ⟨Far.toBelow h.b hf h.b.size (fun q e => (hSx.out q e).1), cell_blk h.t (key _ hs8 (Nat.le_refl _)), HGk'.out _ _ h.own (by first | exact hf.size | rw [hf.size]; exact Nat.le_refl _) fun q h1 h2 => key q h1 (by omega)⟩
  clear hG g8 hb8 hb57 hb58 ox7 ox8
  have t9 := M9.t
  have y9 := (HX.out _ M9.b).t
  go_wp2_with fail
  refine (HE.out _ _ _ _ _ (HGe.out _ M9.own).1 (HX.out _ M9.b).src).mono ?_
  clear hnx t9 y9 t8 P8 hbA
  generalize hD9 : w8.heap.size = D9 at *
  generalize w8.alloc (.cells #[.slice a7 m c7] 28) = V9 at *
  clear hD9
  rintro _ w9 ⟨rfl, hb9⟩
  have M10 := HMk.out _ _ M9 hb9
  have ox10 := HOB.out _ _ _ _ ox9 hb9
  clear M9 ox9 hb9
  clear V9
  go_wp2_with fail
  refine (HC1.out _ (HX.out _ M10.b).s.b).mono ?_
  rintro _ w10 ⟨v10, rfl, oy, hb10⟩
  have M11 := HMk.out _ _ M10 hb10
  have ox11 := HOB.out _ _ _ _ ox10 hb10
  clear M10 ox10 hb10
  go_wp2_with fail
  refine (HC4.out _ _ _ _ _ ox11 oy).mono ?_
  rintro _ w11 ⟨rfl, hb11⟩
  have M12 := HMk.out _ _ M11 hb11
  have ox12 := HOB.out _ _ _ _ ox11 hb11
  clear M11 ox11 hb11 oy
  go_wp2_with fail
  refine (HC5.out _ _ _ ox12).mono ?_
  rintro _ w12 ⟨rfl, hF⟩
  have M13 := HMf.out _ _ M12 hF
  clear M12 ox12 hF
  have hk : ¬ KN < 0 := by omega
  have t13 := M13.t
  have y13 := (HX.out _ M13.b).t
  go_wp2_with fail
  refine (HE.out _ _ _ _ _ (HGe.out _ M13.own).1 (HX.out _ M13.b).src).mono ?_
  clear t13 y13
  rintro _ w13 ⟨rfl, hb13⟩
  have M14 := HMk.out _ _ M13 hb13
  clear M13 hb13
  obtain ⟨_, A', hSE', hnd, hAr', hAl'⟩ := HGe.out _ M14.own
  have hbB : Below w13.heap.size w13 (w13.alloc (.cells #[.slice a7 m c7] 28)) := (Below.refl _ _).alloc (Nat.le_refl _) _
  have hsA := hSE'.below hbB
  have M15 := HMk.out _ _ M14 hbB
  have HMg : Hid (Calls Tryz.prog 12 #[.agg #[.slice a7 m c7], .int .i64 1] w13 fun e w' => e = .returned (.int .i64 (1 + A'.length)) ∧ (Below W5.heap.size W5 w' ∧ w'.cell? ⟨D9, 0, none⟩ = some (.slice a7 m c7) ∧ SE w' a7 m A' ∧ HeldA w' A' 1)) := (markPolicy_any a7 m c7 A' 1 w13 (by omega) (by omega) hsA).mono fun e w' ⟨h1, h2⟩ => ⟨h1, M15.b.trans (h2.below _ fun x hx => by have := hAr' x hx; omega), cell_blk M15.t (h2.block _ fun x hx => by have := hAr' x hx; omega), hsA.sim h2.sim, h2.held hnd⟩
  have t14 := M14.t
  have hq2 : ¬ (1 + (A'.length : Int)) < 0 := by omega
  have hl2 : 1 + (A'.length : Int) ≤ 8388608 := by omega
  clear hbB hsA hSE' hnd hAr' M14 M15
  go_wp2_with fail
  refine (HMg.out).mono ?_
  clear HMg t14
  rintro _ w14 ⟨rfl, hb14, t14, hSE14, hH14⟩
  have hbC : Below w14.heap.size w14 (w14.alloc (.cells #[.slice a7 m c7] 28)) := (Below.refl _ _).alloc (Nat.le_refl _) _
  have HMh : Hid (Calls Tryz.prog 13 #[.agg #[.slice a7 m c7], .int .i64 1] w14 fun e w' => e = .returned (.int .i64 (1 + A'.length)) ∧ Below w14.heap.size w14 w') := heldPolicy_any a7 m c7 A' 1 w14 (by omega) hl2 (hSE14.below hbC) (hH14.below hbC)
  generalize (1 + (A'.length : Int)) = q2 at *
  clear hbC hSE14 hH14
  go_wp2_with fail
  refine (HMh.out).mono ?_
  clear HMh t14
  rintro _ w15 ⟨rfl, hb15⟩
  have hb515 := below_step hb15 hb14
  clear hb15 hb14
  have hb15d : Below W5.heap.size W5 w15.drew := hb515.drew
  obtain ⟨_, k0, k1, k2, _, _, _⟩ := id (HX.out _ hb515).s.x
  clear hb515 HMk HMf HGe HGk' hAl'
  go_wp2_with fail
  apply wp_cutA (fun act W => ∃ (D : Nat) (a9 : Option Addr) (c9 lo hi : Nat) (y79 y80 y81 y82 y83 y84 y85 y86 : Value), act = { tmps := #[.slice a n cap, .agg #[.int .i64 ex, .int .i64 sp, .int .i64 f], undef, .pointer (some ⟨w.heap.size, 0, none⟩), .bool false, .int .i64 r, .pointer (some ⟨D5, 0, none⟩), .int .i64 z, .slice (some ⟨W5.heap.size, 0, none⟩) n n, .pointer (some ⟨D9, 0, none⟩), .int .i64 z, .int .i64 KN, .int .i64 q2, .int .i64 q2, .pointer (some ⟨D, 0, none⟩), .int .i64 z, .slice a n cap, .int .i64 1048576, .int .i64 r, .int .i64 r, .bool (decide (r < 0)), u21, u22, u23, u24, u25, u26, u27, u28, .slice a n cap, .slice (some ⟨W5.heap.size, 0, none⟩) n n, .tuple #[.agg #[.slice a7 m c7], .int .i64 z], .slice (some ⟨W5.heap.size, 0, none⟩) n n, .agg #[.int .i64 ex, .int .i64 sp, .int .i64 f], .agg #[.int .i64 ex, .int .i64 sp, .int .i64 f], .tuple #[.agg #[.slice a7 m c7], .int .i64 z], .agg #[.slice a7 m c7], .int .i64 z, .agg #[.slice a7 m c7], .agg #[.slice a3 m c3], .bool true, .bool false, .bool false, .int .i64 z, .int .i64 z, .bool false, .bool false, .slice (some ⟨W5.heap.size, 0, none⟩) n n, .slice a n cap, .slice (some ⟨w9.heap.size, 0, none⟩) n n, .bool true, .bool false, .slice (some ⟨W5.heap.size, 0, none⟩) n n, .int .i64 1, .int .i64 KN, .int .i64 KN, .bool (decide (KN < 0)), .bool (decide (KN < 0)), .agg #[.slice a7 m c7], .agg #[.slice a3 m c3], .bool true, .bool false, .bool (decide (KN < 0)), .bool (decide (KN < 0)), .int .i64 z, .int .i64 z, .bool false, .bool (decide (KN < 0)), .agg #[.slice a7 m c7], .int .i64 1, .int .i64 q2, .agg #[.slice a7 m c7], .int .i64 1, .int .i64 q2, .int .i64 q2, .bool (decide (q2 < 0)), .int .i64 q2, .int .i64 q2, .bool false, y79, y80, y81, y82, y83, y84, y85, y86, undef, undef, undef, undef, undef, undef, undef, undef, undef], defers := [] } ∧ GS (fun u => GO out lo hi u a9 c9) W5 D m a9 c9 W)
  case h =>
    go_region_law (first
      | (go_simp; go_at_call 6; refine (HC1.out _ (HX.out _ (by first | exact hb15d | exact hb15d.alloc hb15d.size _)).s.b).mono ?_; rintro _ w17 ⟨vs2, rfl, oc, hb17⟩; (try simp at oc); (first | have Q2 := below_step hb17 hb15d | have Q2 := below_step hb17 (hb15d.alloc hb15d.size _)); (first | have bx := (BX.new hb15d.size _).keep hb17 | skip); obtain ⟨_, k0, k1, k2, _, _, _⟩ := id (HX.out _ Q2).s.x; dsimp only)
      | (go_simp; go_at_call 7; refine (HKn.out _).mono ?_; rintro _ w18 ⟨rfl, hb18⟩; (first | have Q3 := below_step hb18 Q2 | have Q3 := below_step hb18 (Q2.alloc Q2.size _)); (first | have bx := (BX.new Q2.size _).keep hb18 | have bx := bx.keep hb18 | skip); (first | have oc3 := HOB.out _ _ _ _ oc hb18 | have oc3 := HOB.out _ _ _ _ (HOB.out _ _ _ _ oc ((Below.refl _ _).alloc (Nat.le_refl _) _)) hb18); dsimp only)
      | (go_simp; go_at_call 8; refine (HI.out _ _ _ (by first | exact oc3 | exact HOB.out _ _ _ _ oc3 ((Below.refl _ _).alloc (Nat.le_refl _) _))).mono ?_; rintro _ w19 ⟨a9, c9, rfl, g19, hb19⟩; (first | have Q4 := below_step hb19 Q3 | have Q4 := below_step hb19 (Q3.alloc Q3.size _)); (first | (have bx := (BX.new Q3.size _).keep hb19; have e4 := GS.early (m := m) (a7 := a9) (c7 := c9) Q4 hb19 (BX.new Q3.size _) (fun u' h1 h2 => HGk.out out _ _ _ u' _ _ g19 h1 h2); obtain ⟨bc, bf, _⟩ := id bx; (try simp at bc); (try simp at bf)) | (have e4 := GS.early (m := m) (a7 := a9) (c7 := c9) Q4 hb19 bx (fun u' h1 h2 => HGk.out out _ _ _ u' _ _ g19 h1 h2); have bx := bx.keep hb19; obtain ⟨bc, bf, _⟩ := id bx; (try simp at bc); (try simp at bf)) | (have e4 := GS.late (m := m) (a7 := a9) (c7 := c9) (t := 28) Q4 (fun u' h1 h2 => HGk.out out _ _ _ u' _ _ g19 h1 h2))); dsimp only))
    all_goals exact CutA.mk ⟨_, a9, c9, _, _, _, _, _, _, _, _, _, _, rfl, e4⟩
  clear k0 k1 k2
  rintro _ W16 ⟨D16, a9, c9, lo, hi, u79, u80, u81, u82, u83, u84, u85, u86, rfl, E4⟩
  have t16 := E4.t
  have y16 := (HX.out _ E4.b).t
  dsimp only
  go_wp2_with fail
  refine (HE.out _ _ _ _ _ (HG.out _ _ _ _ _ E4.own).1 (HX.out _ E4.b).src).mono ?_
  rintro _ w20 ⟨rfl, hb20⟩
  have B20 := (HX.out _ (below_step hb20 E4.b)).s.b
  clear E4 t16 y16 hb20
  go_wp2
  go_ret
  exact ⟨rfl, B20⟩
end Go.Proofs.YtljhccolmcoifaaGreat.fnExactLearn
