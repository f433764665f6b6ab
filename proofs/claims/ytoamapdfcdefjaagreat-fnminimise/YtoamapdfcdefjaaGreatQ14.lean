/-
  DrwP, DrwQ, DrwR, DrwU, DfH
-/
import Derived.Test.YtoamapdfcdefjaaGreatQ11
import Derived.Test.YtoamapdfcdefjaaGreatQ06
import Derived.Test.YtoamapdfcdefjaaGreatQ13
namespace Go.Proofs.YtoamapdfcdefjaaGreat
open Go.RowKit Go.Deep
set_option linter.unusedVariables false

theorem wrapMax : IntKind.u64.wrap 18446744073709551616 = 0 := by first | rfl | decide | (rw [IntKind.wrap_u64]; rfl) | (rw [IntKind.wrap_u64]; decide) | (rw [IntKind.wrap_u64])
def spK (c : K) (x : Int) : K :=
  if x % 6 = 0 then ⟨3, c.a, c.b⟩ else if x % 6 = 1 then ⟨-1, c.a, c.b⟩ else if x % 6 = 2 then ⟨1, c.b, (c.b + 1) % 18446744073709551616⟩
  else if x % 6 = 3 then ⟨2, (c.b + 1) % 18446744073709551616, c.b⟩ else if x % 6 = 4 then ⟨0, c.a, 1⟩ else ⟨0, 1, 0⟩
theorem spK_ok {c : K} (h : c.ok) (x : Int) : (spK c x).ok := by
  obtain ⟨h1, h2, h3⟩ := h
  unfold spK
  repeat' split
  all_goals (refine ⟨⟨by simp, by simp⟩, ?_, ?_⟩ <;> simp <;> omega)

set_option maxRecDepth 100000 in
set_option maxHeartbeats 4000000 in
theorem spoilCon_any (c : K) (hc : c.ok) (R cap : Nat) (ad : Option Addr) (l : List Int) (j : Nat) (w : World) (hR : Rd w R ad cap l j) :
    Calls Tryz.prog 43 #[conV c, .pointer (some ⟨R, 0, none⟩)] w fun e w' => e = .returned (conV (spK c (l.getD j 0))) ∧ Rd w' R ad cap l (j + 1) ∧ w.grownBy w' (some R) := by
  obtain ⟨hc1, hc2, hc3⟩ := hc
  have hb := isBytes_getD hR.bys j
  have hRw := hR.lt
  have HN : Hid (∀ W, Rd W R ad cap l j → Calls Tryz.prog 13 #[.pointer (some ⟨R, 0, none⟩)] W fun e w' => e = .returned (.int .i64 (l.getD j 0)) ∧ Rd w' R ad cap l (j + 1) ∧ W.grownBy w' (some R)) := fun W h => next_any R cap ad l j W h
  obtain ⟨RES, hRES⟩ : ∃ RES, spK c (l.getD j 0) = RES := ⟨_, rfl⟩
  rw [hRES]
  obtain ⟨ck, ca, cb⟩ := c
  simp only at hc1 hc2 hc3
  generalize l.getD j 0 = x at *
  have hmx : cb = 18446744073709551615 ∨ cb < 18446744073709551615 := by omega
  have hcs : x % 6 = 0 ∨ x % 6 = 1 ∨ x % 6 = 2 ∨ x % 6 = 3 ∨ x % 6 = 4 ∨ x % 6 = 5 := by omega
  have HRES : Hid _ := hRES
  clear hRES
  have X0 := BoxK.new w 41 (.int .i64 ck) (.int .u64 (ca : Int)) (.int .u64 (cb : Int))
  have b0 : Below w.heap.size w (w.alloc (.cells #[.int .i64 ck, .int .u64 (ca : Int), .int .u64 (cb : Int)] 41)) := (Below.refl _ _).alloc (Nat.le_refl _) _
  have e0 : (w.alloc (.cells #[.int .i64 ck, .int .u64 (ca : Int), .int .u64 (cb : Int)] 41)).heap.size = w.heap.size + 1 := by simp
  have X1 := X0.keep ((Below.refl _ _).alloc (Nat.le_refl _) (.cells #[.int .i64 0, .int .u64 0, .int .u64 0] 41))
  have Y1 := BoxK.new (w.alloc (.cells #[.int .i64 ck, .int .u64 (ca : Int), .int .u64 (cb : Int)] 41)) 41 (.int .i64 0) (.int .u64 0) (.int .u64 0)
  rw [e0] at Y1
  have b1 := b0.alloc b0.size (.cells #[.int .i64 0, .int .u64 0, .int .u64 0] 41)
  clear X0 b0 e0
  go_enter Tryz.func43, Tryz.ntmps43
  go_wp2_with fail
  refine (HN.out _ (hR.below b1)).mono ?_
  generalize ((w.alloc (.cells #[.int .i64 ck, .int .u64 (ca : Int), .int .u64 (cb : Int)] 41)).alloc (.cells #[.int .i64 0, .int .u64 0, .int .u64 0] 41)) = W1 at *
  rintro _ w2 ⟨rfl, hR2, hg2⟩
  have X2 := X1.grown hg2 (fun e => by simp at e; omega)
  have Y2 := Y1.grown hg2 (fun e => by simp at e; omega)
  have g2 : w.grownBy w2 (some R) := rb_trans (rb_below b1) hg2
  clear X1 Y1 hg2 b1 HN
  have Hs : Hid (∀ (W : World) (b o : Nat) (u : Value), w.heap.size ≤ b → Rd W R ad cap l (j + 1) → w.grownBy W (some R) → Rd (W.setCell ⟨b, o, none⟩ u) R ad cap l (j + 1) ∧ w.grownBy (W.setCell ⟨b, o, none⟩ u) (some R)) := fun W b o u hb h1 h2 => ⟨h1.keep (fun k hk => Below.heap_setCell W ⟨b, o, none⟩ _ k (fun e => by simp at e; omega)), rb_own h2 (rb_set (World.grownBy.refl _ (some b)) o _) (fun k hk => by simp at hk; omega)⟩
  obtain ⟨_, p0, p1, p2, p3, p4, p5⟩ := X2
  obtain ⟨_, y0, y1, y2, y3, y4, y5⟩ := Y2
  have HR2 : Hid _ := hR2
  have Hg2 : Hid _ := g2
  clear hR2 g2 hR
  go_upto_region 2 with fail
  clear hb
  rcases hcs with hk | hk | hk | hk | hk | hk
  all_goals
    rw [hk]
  case' inr.inr.inl => rcases hmx with rfl | hmx
  case' inr.inr.inr.inl => rcases hmx with rfl | hmx
  all_goals
    have eR := HRES.out
    simp only [spK, hk] at eR
    simp at eR
    have HeR : Hid _ := eR
    clear eR HRES hk
    go_wp2
    refine bodyPost_ret (v := conV RES) (by rw [← HeR.out]; simp [results, Tryz.results43, go_sem, y0, y1, y2, wrapMax]; try omega) rfl ⟨rfl, ?_⟩
    repeat first
      | exact ⟨HR2.out, Hg2.out⟩
      | (refine (fun (h : _ ∧ _) => Hs.out _ _ _ _ (by omega) h.1 h.2) ?_)

theorem getD_putD {α : Type} (l : List α) (i t : Nat) (x d : α) (hi : i < l.length) : (l.set i x).getD t d = if t = i then x else l.getD t d := by
  rw [List.getD_eq_getElem?_getD, List.getD_eq_getElem?_getD, List.getElem?_set]
  by_cases h : t = i
  · subst h; simp [hi]
  · rw [if_neg (fun e => h e.symm), if_neg h]
/-- an entry that isn't valid -/
theorem validP_entry {p : List E} {i : Nat} (hi : i < p.length) (h : validE (p.getD i E.zero) = false) : validP p = false := validP_no hi (by rw [stepOk, h, Bool.and_false])
theorem validE_none {e : E} (h : e.rules.length = 0) : validE e = false := by unfold validE; rw [h]; rfl
theorem validE_many {e : E} (h : 200 < e.rules.length) : validE e = false := by unfold validE; simp; omega
theorem validE_rule {e : E} {s : Nat} (hs : s < e.rules.length) (h : (e.rules.getD s []).length ≠ 6) : validE e = false := by
  unfold validE
  rw [all_no (d := []) hs (by unfold validR; simp; intro e; exact absurd e h), Bool.and_false]
theorem befE_irr (e : E) : befE e e = false := by unfold befE; simp
theorem validP_twice {p : List E} {i j : Nat} (hij : i < j) (hj : j < p.length) (h : befE (p.getD i E.zero) (p.getD j E.zero) = false) : validP p = false := by
  cases hc : validP p with
  | false => rfl
  | true => rw [befE_of_valid hc hij hj] at h; exact absurd h (by decide)
end Go.Proofs.YtoamapdfcdefjaaGreat
namespace Go.Proofs.YtoamapdfcdefjaaGreat
open Go.RowKit Go.Deep
set_option linter.unusedVariables false

/-- blocks below B are left alone but for R -/
structure FrB (B R : Nat) (w w' : World) : Prop where
  os : w'.os = w.os
  tape : w'.tape = w.tape
  output : w'.output = w.output
  size : w.heap.size ≤ w'.heap.size
  block : ∀ k, k < B → k ≠ R → w'.heap[k]? = w.heap[k]?
theorem FrB.refl (B R : Nat) (w : World) : FrB B R w w := ⟨rfl, rfl, rfl, Nat.le_refl _, fun _ _ _ => rfl⟩
theorem FrB.trans {B R : Nat} {a b c : World} (h : FrB B R a b) (k : FrB B R b c) : FrB B R a c :=
  ⟨k.os.trans h.os, k.tape.trans h.tape, k.output.trans h.output, Nat.le_trans h.size k.size, fun x h1 h2 => (k.block x h1 h2).trans (h.block x h1 h2)⟩
theorem FrB.of {B R : Nat} {w w' : World} {row : Option Nat} (h : w.grownBy w' row) (hB : B ≤ w.heap.size) (hr : ∀ k, row = some k → B ≤ k ∨ k = R) : FrB B R w w' :=
  ⟨h.os, h.tape, h.output, h.size, fun k h1 h2 => h.block k (by omega) (fun e => by have := hr k e.symm; omega)⟩
theorem FrB.grown {B R : Nat} {w0 w w' : World} (h : FrB B R w w') (hg : w0.grownBy w (some R)) (hB : w0.heap.size ≤ B) : w0.grownBy w' (some R) :=
  ⟨h.os.trans hg.os, h.tape.trans hg.tape, h.output.trans hg.output, Nat.le_trans hg.size h.size, fun k h1 h2 => (h.block k (by omega) (fun e => h2 (by rw [e]))).trans (hg.block k h1 h2)⟩

/-- a rule, an entry: all that lies behind them lies from block B on -/
def PRB (B : Nat) (w : World) (b o : Nat) (r : List K) : Prop := ∃ a cap, w.cell? ⟨b, o, none⟩ = some (.slice a r.length cap) ∧ LSrcG B 3 PK w a r
def PEB (B : Nat) (w : World) (b o : Nat) (e : E) : Prop := w.cell? ⟨b, o, none⟩ = some (.int .u32 e.arch) ∧ w.cell? ⟨b, o + 1, none⟩ = some (.int .u32 e.nr) ∧ ∃ a cap, w.cell? ⟨b, o + 2, none⟩ = some (.slice a e.rules.length cap) ∧ LSrcG B 1 (PRB B) w a e.rules
/-- it stays where the blocks from B on are left alone -/
def KeptB (B : Nat) (w w1 : World) : Prop := w.heap.size ≤ w1.heap.size ∧ ∀ k, B ≤ k → k < w.heap.size → w1.heap[k]? = w.heap[k]?
theorem KeptB.cell {B : Nat} {w w1 : World} (h : KeptB B w w1) {b o : Nat} (hb : B ≤ b) (hlt : b < w.heap.size) : w1.cell? ⟨b, o, none⟩ = w.cell? ⟨b, o, none⟩ := World.cell?_of_block (a := ⟨b, o, none⟩) (h.2 b hb hlt)
theorem LSrcG.keptB {α : Type} {B k : Nat} {Q : World → Nat → Nat → α → Prop} {w w1 : World} {a : Option Addr} {l : List α} (h : LSrcG B k Q w a l) (hk : KeptB B w w1) (hQ : ∀ b o x, B ≤ b → b < w.heap.size → Q w b o x → Q w1 b o x) : LSrcG B k Q w1 a l := by
  rcases h with h | ⟨b, o, ha, hB, hlt, hc⟩
  · exact .inl h
  · exact .inr ⟨b, o, ha, hB, Nat.lt_of_lt_of_le hlt hk.1, fun i hi => hQ _ _ _ hB hlt (hc i hi)⟩
theorem PK.keptB {B : Nat} {w w1 : World} (hk : KeptB B w w1) {b o : Nat} {c : K} (hB : B ≤ b) (hlt : b < w.heap.size) (h : PK w b o c) : PK w1 b o c := ⟨(hk.cell hB hlt).trans h.1, (hk.cell hB hlt).trans h.2.1, (hk.cell hB hlt).trans h.2.2⟩
theorem PRB.keptB {B : Nat} {w w1 : World} (hk : KeptB B w w1) {b o : Nat} {r : List K} (hB : B ≤ b) (hlt : b < w.heap.size) (h : PRB B w b o r) : PRB B w1 b o r := by
  obtain ⟨a, cap, h1, h2⟩ := h
  exact ⟨a, cap, (hk.cell hB hlt).trans h1, h2.keptB hk (fun b o x h1 h2 h3 => PK.keptB hk h1 h2 h3)⟩
theorem PEB.keptB {B : Nat} {w w1 : World} (hk : KeptB B w w1) {b o : Nat} {e : E} (hB : B ≤ b) (hlt : b < w.heap.size) (h : PEB B w b o e) : PEB B w1 b o e := by
  obtain ⟨h0, h1, a, cap, h2, h3⟩ := h
  exact ⟨(hk.cell hB hlt).trans h0, (hk.cell hB hlt).trans h1, a, cap, (hk.cell hB hlt).trans h2, h3.keptB hk (fun b o x h1 h2 h3 => PRB.keptB hk h1 h2 h3)⟩
theorem polB_kept {B : Nat} {w w1 : World} {a : Option Addr} {P : List E} (h : LSrcG B 3 (PEB B) w a P) (hk : KeptB B w w1) : LSrcG B 3 (PEB B) w1 a P := h.keptB hk (fun b o x h1 h2 h3 => PEB.keptB hk h1 h2 h3)
theorem polB_mono {B B' : Nat} {w : World} {a : Option Addr} {P : List E} (h : LSrcG B 3 (PEB B) w a P) (hB : B' ≤ B) : LSrcG B' 3 (PEB B') w a P :=
  h.mono hB (fun b o x ⟨h0, h1, a, cap, h2, h3⟩ => ⟨h0, h1, a, cap, h2, h3.mono hB (fun b o x ⟨a, cap, h1, h2⟩ => ⟨a, cap, h1, h2.mono hB (fun _ _ _ h => h)⟩)⟩)
theorem polB_src {B : Nat} {w : World} {a : Option Addr} {P : List E} (h : LSrcG B 3 (PEB B) w a P) : LSrc 3 PE w a P :=
  h.plain (fun b o x ⟨h0, h1, a, cap, h2, h3⟩ => ⟨h0, h1, a, cap, h2, h3.plain (fun b o x ⟨a, cap, h1, h2⟩ => ⟨a, cap, h1, h2.plain (fun _ _ _ h => h)⟩)⟩)

/-- the blocks lie from B on -/
def GeB (B : Nat) (P : List E) (g : Nat) (gb : Nat → Nat) (cb : Nat → Nat → Nat) : Prop := (P ≠ [] → B ≤ g) ∧ (∀ t, t < P.length → B ≤ gb t) ∧ ∀ t s, t < P.length → s < (rulesAt P t).length → B ≤ cb t s
def BdP (P : List E) : Prop := P.length ≤ 300 ∧ ∀ e ∈ P, e.rules.length ≤ 300 ∧ ∀ r ∈ e.rules, r.length ≤ 7
/-- a policy that can be read and is not valid -/
def BadP (B : Nat) (w : World) (v : Value) : Prop := ∃ P a c, v = .slice a P.length c ∧ P.length ≤ c ∧ okP P ∧ validP P = false ∧ BdP P ∧ LSrcG B 3 (PEB B) w a P
/-- D: the policy that is drawn, where the reader then stands, and whether the policy is spoilt -/
structure PolPost (B R : Nat) (ad : Option Addr) (cap : Nat) (l : List Int) (D : (List E × Nat) × Bool) (w w' : World) (v : Value) : Prop where
  rd : ∃ j, Rd w' R ad cap l j
  fr : FrB B R w w'
  or : (D.2 = true ∧ BadP B w' v) ∨ (D.2 = false ∧ Rd w' R ad cap l D.1.2 ∧ ∃ g gb cb, PsC w' v D.1.1 g gb cb ∧ GeB B D.1.1 g gb cb)

theorem getD_mem {α : Type} {l : List α} {i : Nat} {d : α} (h : i < l.length) : l.getD i d ∈ l := by
  rw [List.getD_eq_getElem?_getD, List.getElem?_eq_getElem h]; exact List.getElem_mem h
section
variable {w w1 : World} {v : Value} {P : List E} {g : Nat} {gb : Nat → Nat} {cb : Nat → Nat → Nat}
theorem PsC.ksB {B : Nat} (h : PsC w v P g gb cb) (ge : GeB B P g gb cb) (hs : w.heap.size ≤ w1.heap.size) {t s : Nat} (ht : t < P.length) (hst : s < (rulesAt P t).length) (hc : ∀ o, w1.cell? ⟨cb t s, o, none⟩ = w.cell? ⟨cb t s, o, none⟩) : LSrcG B 3 PK w1 (some ⟨cb t s, 0, none⟩) (ruleAt P t s) :=
  .inr ⟨_, 0, rfl, ge.2.2 t s ht hst, by have := (h.frc t s ht hst).1; omega, LAt.of K.zero fun m hm => by
    obtain ⟨c0, c1, c2⟩ := h.con t s m ht hst hm
    rw [Nat.zero_add]
    exact ⟨(hc _).trans c0, (hc _).trans c1, (hc _).trans c2⟩⟩
theorem PsC.rsB {B : Nat} (h : PsC w v P g gb cb) (ge : GeB B P g gb cb) (hs : w.heap.size ≤ w1.heap.size) {t : Nat} (ht : t < P.length) (hr : ∀ s, s < (rulesAt P t).length → w1.cell? ⟨gb t, s, none⟩ = w.cell? ⟨gb t, s, none⟩) (hc : ∀ s, s < (rulesAt P t).length → ∀ o, w1.cell? ⟨cb t s, o, none⟩ = w.cell? ⟨cb t s, o, none⟩) : LSrcG B 1 (PRB B) w1 (some ⟨gb t, 0, none⟩) (rulesAt P t) :=
  .inr ⟨_, 0, rfl, ge.2.1 t ht, by have := (h.frr t ht).1; omega, LAt.of [] fun s hst => by
    obtain ⟨c, _, hv⟩ := h.rul t s ht hst
    rw [Nat.zero_add, Nat.mul_one]
    exact ⟨_, c, (hr s hst).trans hv, h.ksB ge hs ht hst (hc s hst)⟩⟩
theorem PsC.peB {B : Nat} (h : PsC w v P g gb cb) (ge : GeB B P g gb cb) (hs : w.heap.size ≤ w1.heap.size) {t : Nat} (ht : t < P.length) {g' o' : Nat} (h0 : w1.cell? ⟨g', o', none⟩ = w.cell? ⟨g, t * 3, none⟩) (h1 : w1.cell? ⟨g', o' + 1, none⟩ = w.cell? ⟨g, t * 3 + 1, none⟩) (h2 : w1.cell? ⟨g', o' + 2, none⟩ = w.cell? ⟨g, t * 3 + 2, none⟩)
    (hr : ∀ s, s < (rulesAt P t).length → w1.cell? ⟨gb t, s, none⟩ = w.cell? ⟨gb t, s, none⟩) (hc : ∀ s, s < (rulesAt P t).length → ∀ o, w1.cell? ⟨cb t s, o, none⟩ = w.cell? ⟨cb t s, o, none⟩) : PEB B w1 g' o' (P.getD t E.zero) := by
  obtain ⟨e0, e1, c, _, e2⟩ := h.ent t ht
  exact ⟨h0.trans e0, h1.trans e1, _, c, h2.trans e2, h.rsB ge hs ht hr hc⟩
theorem PsC.srcB {B : Nat} (h : PsC w v P g gb cb) (ge : GeB B P g gb cb) : ∃ a cap, v = .slice a P.length cap ∧ P.length ≤ cap ∧ LSrcG B 3 (PEB B) w a P := by
  obtain ⟨a, cap, e, hc, hn⟩ := h.val
  refine ⟨a, cap, e, hc, ?_⟩
  by_cases hP : P = []
  · exact .inl hP
  · refine .inr ⟨g, 0, hn hP, ge.1 hP, (h.frg hP).1, LAt.of E.zero fun t ht => ?_⟩
    rw [Nat.zero_add]
    exact h.peB ge (Nat.le_refl _) ht rfl rfl rfl (fun _ _ => rfl) (fun _ _ _ => rfl)
/-- the entries in another order, anew -/
theorem PsC.idx {B : Nat} (h : PsC w v P g gb cb) (ge : GeB B P g gb cb) (hs : w.heap.size ≤ w1.heap.size) (is : List Nat) (hi : ∀ t, t < is.length → is.getD t 0 < P.length) {g' o' : Nat} (hgB : B ≤ g') (hg : g' < w1.heap.size)
    (hrow : ∀ t, t < is.length → ∀ r, r < 3 → w1.cell? ⟨g', o' + t * 3 + r, none⟩ = w.cell? ⟨g, is.getD t 0 * 3 + r, none⟩)
    (hr : ∀ t, t < P.length → ∀ s, s < (rulesAt P t).length → w1.cell? ⟨gb t, s, none⟩ = w.cell? ⟨gb t, s, none⟩) (hc : ∀ t, t < P.length → ∀ s, s < (rulesAt P t).length → ∀ o, w1.cell? ⟨cb t s, o, none⟩ = w.cell? ⟨cb t s, o, none⟩) :
    LSrcG B 3 (PEB B) w1 (some ⟨g', o', none⟩) (is.map fun t => P.getD t E.zero) := by
  refine .inr ⟨g', o', rfl, hgB, hg, LAt.of E.zero fun t ht => ?_⟩
  rw [List.length_map] at ht
  have e : (is.map fun t => P.getD t E.zero).getD t E.zero = P.getD (is.getD t 0) E.zero := by
    simp [List.getD_eq_getElem?_getD, List.getElem?_map, List.getElem?_eq_getElem ht]
  rw [e]
  exact h.peB ge hs (hi t ht) (hrow t ht 0 (by omega)) (hrow t ht 1 (by omega)) (hrow t ht 2 (by omega)) (hr _ (hi t ht)) (hc _ (hi t ht))
/-- one entry's rules changed -/
theorem PsC.putE {B : Nat} (h : PsC w v P g gb cb) (ge : GeB B P g gb cb) (hs : w.heap.size ≤ w1.heap.size) {i : Nat} (hi : i < P.length) {rs : List (List K)} {a : Option Addr} {c : Nat}
    (hg : ∀ o, o ≠ i * 3 + 2 → w1.cell? ⟨g, o, none⟩ = w.cell? ⟨g, o, none⟩) (h2 : w1.cell? ⟨g, i * 3 + 2, none⟩ = some (.slice a rs.length c)) (hrs : LSrcG B 1 (PRB B) w1 a rs)
    (hr : ∀ t, t < P.length → t ≠ i → ∀ s, s < (rulesAt P t).length → w1.cell? ⟨gb t, s, none⟩ = w.cell? ⟨gb t, s, none⟩) (hc : ∀ t, t < P.length → t ≠ i → ∀ s, s < (rulesAt P t).length → ∀ o, w1.cell? ⟨cb t s, o, none⟩ = w.cell? ⟨cb t s, o, none⟩) :
    LSrcG B 3 (PEB B) w1 (some ⟨g, 0, none⟩) (P.set i ⟨(P.getD i E.zero).arch, (P.getD i E.zero).nr, rs⟩) := by
  have hn : P ≠ [] := fun e => by rw [e] at hi; simp at hi
  refine .inr ⟨g, 0, rfl, ge.1 hn, by have := (h.frg hn).1; omega, LAt.of E.zero fun t ht => ?_⟩
  rw [List.length_set] at ht
  rw [Nat.zero_add, getD_putD P i t _ _ hi]
  by_cases e : t = i
  · subst e
    rw [if_pos rfl]
    obtain ⟨e0, e1, _⟩ := h.ent t ht
    exact ⟨(hg _ (by omega)).trans e0, (hg _ (by omega)).trans e1, a, c, h2, hrs⟩
  · rw [if_neg e]
    exact h.peB ge hs ht (hg _ (by omega)) (hg _ (by omega)) (hg _ (by omega)) (hr t ht e) (hc t ht e)
/-- one rule changed -/
theorem PsC.putR {B : Nat} (h : PsC w v P g gb cb) (ge : GeB B P g gb cb) (hs : w.heap.size ≤ w1.heap.size) {i j : Nat} (hi : i < P.length) (hj : j < (rulesAt P i).length) {r : List K} {a : Option Addr} {c : Nat}
    (h2 : w1.cell? ⟨gb i, j, none⟩ = some (.slice a r.length c)) (hrs : LSrcG B 3 PK w1 a r)
    (hr : ∀ s, s < (rulesAt P i).length → s ≠ j → w1.cell? ⟨gb i, s, none⟩ = w.cell? ⟨gb i, s, none⟩) (hc : ∀ s, s < (rulesAt P i).length → s ≠ j → ∀ o, w1.cell? ⟨cb i s, o, none⟩ = w.cell? ⟨cb i s, o, none⟩) :
    LSrcG B 1 (PRB B) w1 (some ⟨gb i, 0, none⟩) ((rulesAt P i).set j r) := by
  refine .inr ⟨gb i, 0, rfl, ge.2.1 i hi, by have := (h.frr i hi).1; omega, LAt.of [] fun s ht => ?_⟩
  rw [List.length_set] at ht
  rw [Nat.zero_add, Nat.mul_one, getD_putD _ j s _ _ hj]
  by_cases e : s = j
  · subst e
    rw [if_pos rfl]
    exact ⟨a, c, h2, hrs⟩
  · rw [if_neg e]
    obtain ⟨c', _, hv⟩ := h.rul i s hi ht
    exact ⟨_, c', (hr s ht e).trans hv, h.ksB ge hs hi ht (hc s ht e)⟩
/-- one condition changed: still cell by cell -/
theorem PsC.putK (h : PsC w v P g gb cb) {i j m : Nat} (hi : i < P.length) (hj : j < (rulesAt P i).length) (hm : m < (ruleAt P i j).length) (c : K) :
    PsC (((w.setCell ⟨cb i j, m * 3, none⟩ (.int .i64 c.kind)).setCell ⟨cb i j, m * 3 + 1, none⟩ (.int .u64 (c.a : Int))).setCell ⟨cb i j, m * 3 + 2, none⟩ (.int .u64 (c.b : Int))) v
      (P.set i ⟨(P.getD i E.zero).arch, (P.getD i E.zero).nr, (rulesAt P i).set j ((ruleAt P i j).set m c)⟩) g gb cb := by
  obtain ⟨W, hW⟩ : ∃ W, (((w.setCell ⟨cb i j, m * 3, none⟩ (.int .i64 c.kind)).setCell ⟨cb i j, m * 3 + 1, none⟩ (.int .u64 (c.a : Int))).setCell ⟨cb i j, m * 3 + 2, none⟩ (.int .u64 (c.b : Int))) = W := ⟨_, rfl⟩
  have hsz : W.heap.size = w.heap.size := by rw [← hW]; simp
  have hfz : ∀ b o, W.frozen? ⟨b, o, none⟩ = w.frozen? ⟨b, o, none⟩ := fun b o => by rw [← hW]; simp
  have hcl : ∀ b o, ¬ (b = cb i j ∧ m * 3 ≤ o ∧ o < m * 3 + 3) → W.cell? ⟨b, o, none⟩ = w.cell? ⟨b, o, none⟩ := fun b o hn => by
    rw [← hW]
    rw [World.cell?_setCell_other _ _ _ _ (fun e => by simp at e; omega), World.cell?_setCell_other _ _ _ _ (fun e => by simp at e; omega), World.cell?_setCell_other _ _ _ _ (fun e => by simp at e; omega)]
  have hk : PK W (cb i j) (m * 3) c := by
    obtain ⟨e0, e1, e2⟩ := h.con i j m hi hj hm
    rw [← hW]
    refine ⟨?_, ?_, ?_⟩
    · rw [World.cell?_setCell_other _ _ _ _ (fun e => by simp at e), World.cell?_setCell_other _ _ _ _ (fun e => by simp at e)]
      exact World.cell?_setCell_same _ _ _ e0
    · rw [World.cell?_setCell_other _ _ _ _ (fun e => by simp at e)]
      exact World.cell?_setCell_same _ _ _ ((World.cell?_setCell_other _ _ _ _ (fun e => by simp at e)).trans e1)
    · exact World.cell?_setCell_same _ _ _ ((World.cell?_setCell_other _ _ _ _ (fun e => by simp at e)).trans ((World.cell?_setCell_other _ _ _ _ (fun e => by simp at e)).trans e2))
  rw [hW]
  clear hW
  have eE : ∀ t, (P.set i ⟨(P.getD i E.zero).arch, (P.getD i E.zero).nr, (rulesAt P i).set j ((ruleAt P i j).set m c)⟩).getD t E.zero = if t = i then ⟨(P.getD i E.zero).arch, (P.getD i E.zero).nr, (rulesAt P i).set j ((ruleAt P i j).set m c)⟩ else P.getD t E.zero := fun t => getD_putD P i t _ _ hi
  generalize hP' : P.set i ⟨(P.getD i E.zero).arch, (P.getD i E.zero).nr, (rulesAt P i).set j ((ruleAt P i j).set m c)⟩ = P' at eE
  have hl : P'.length = P.length := by rw [← hP']; simp
  have hn : P' ≠ [] → P ≠ [] := fun h1 h2 => h1 (by rw [← List.length_eq_zero_iff, hl, h2]; rfl)
  have eR : ∀ t, (rulesAt P' t).length = (rulesAt P t).length := fun t => by
    show (P'.getD t E.zero).rules.length = _
    rw [eE]; by_cases e : t = i
    · subst e; simp
    · rw [if_neg e]
  have eK : ∀ t s, ruleAt P' t s = if t = i ∧ s = j then (ruleAt P i j).set m c else ruleAt P t s := fun t s => by
    show (P'.getD t E.zero).rules.getD s [] = _
    rw [eE]; by_cases e : t = i
    · subst e
      rw [if_pos rfl]
      show ((rulesAt P t).set j _).getD s [] = _
      rw [getD_putD _ _ _ _ _ hj]
      by_cases e2 : s = j
      · rw [if_pos e2, if_pos ⟨rfl, e2⟩]
      · rw [if_neg e2, if_neg (fun h => e2 h.2)]
    · rw [if_neg e, if_neg (fun h => e h.1)]
  have eL : ∀ t s, (ruleAt P' t s).length = (ruleAt P t s).length := fun t s => by
    rw [eK]; by_cases e : t = i ∧ s = j
    · obtain ⟨rfl, rfl⟩ := e; simp
    · rw [if_neg e]
  have eA : ∀ t, (P'.getD t E.zero).arch = (P.getD t E.zero).arch ∧ (P'.getD t E.zero).nr = (P.getD t E.zero).nr := fun t => by
    rw [eE]; by_cases e : t = i
    · subst e; rw [if_pos rfl]; exact ⟨rfl, rfl⟩
    · rw [if_neg e]; exact ⟨rfl, rfl⟩
  have cg := fun (t : Nat) (ht : t < P.length) => (h.frc i j hi hj).2.1
  have cr := (h.frc i j hi hj).2.2.1
  refine ⟨?_, fun t ht => ?_, fun t s ht hst => ?_, fun t s m' ht hst hm' => ?_, fun h1 => ?_, fun t ht => ?_, fun t s ht hst => ?_, fun t t' ht ht' => ?_, fun t s t' s' ht hs ht' hs' => ?_⟩
  · obtain ⟨a, cap, e, hc, ha⟩ := h.val
    exact ⟨a, cap, by rw [hl]; exact e, by omega, fun h1 => ha (hn h1)⟩
  · rw [hl] at ht
    obtain ⟨e0, e1, c', hc', e2⟩ := h.ent t ht
    have hcg := cg t ht
    rw [(eA t).1, (eA t).2, eR t, hcl _ _ (fun e => hcg e.1.symm), hcl _ _ (fun e => hcg e.1.symm), hcl _ _ (fun e => hcg e.1.symm)]
    exact ⟨e0, e1, c', hc', e2⟩
  · rw [hl] at ht; rw [eR] at hst
    obtain ⟨c', hc', e⟩ := h.rul t s ht hst
    rw [eL, hcl _ _ (fun e => cr t ht e.1.symm)]
    exact ⟨c', hc', e⟩
  · rw [hl] at ht; rw [eR] at hst; rw [eL] at hm'
    rw [eK]
    by_cases e : t = i ∧ s = j
    · obtain ⟨rfl, rfl⟩ := e
      rw [if_pos ⟨rfl, rfl⟩, getD_putD _ _ _ _ _ hm]
      by_cases e2 : m' = m
      · subst e2; rw [if_pos rfl]; exact hk
      · rw [if_neg e2]
        obtain ⟨e0, e1, e3⟩ := h.con t s m' ht hst hm'
        exact ⟨(hcl _ _ (by omega)).trans e0, (hcl _ _ (by omega)).trans e1, (hcl _ _ (by omega)).trans e3⟩
    · rw [if_neg e]
      have hd := h.dcc t s i j ht hst hi hj e
      obtain ⟨e0, e1, e3⟩ := h.con t s m' ht hst hm'
      exact ⟨(hcl _ _ (fun e => hd e.1)).trans e0, (hcl _ _ (fun e => hd e.1)).trans e1, (hcl _ _ (fun e => hd e.1)).trans e3⟩
  · rw [hsz]; exact ⟨(h.frg (hn h1)).1, fun o => (hfz _ _).trans ((h.frg (hn h1)).2 o)⟩
  · rw [hl] at ht; rw [hsz]; exact ⟨(h.frr t ht).1, (h.frr t ht).2.1, fun o => (hfz _ _).trans ((h.frr t ht).2.2 o)⟩
  · rw [hl] at ht ⊢; rw [eR] at hst; rw [hsz]; exact ⟨(h.frc t s ht hst).1, (h.frc t s ht hst).2.1, (h.frc t s ht hst).2.2.1, fun o => (hfz _ _).trans ((h.frc t s ht hst).2.2.2 o)⟩
  · rw [hl] at ht ht'; exact h.drr t t' ht ht'
  · rw [hl] at ht ht'; rw [eR] at hs hs'; exact h.dcc t s t' s' ht hs ht' hs'
end
end Go.Proofs.YtoamapdfcdefjaaGreat
namespace Go.Proofs.YtoamapdfcdefjaaGreat
open Go.RowKit Go.Deep
set_option linter.unusedVariables false

theorem SlC.far {w w1 : World} {size b off n cap : Nat} {olds : List Value} (h : SlC w size b off n cap olds) (hs : w.heap.size ≤ w1.heap.size) (hb : w1.heap[b]? = w.heap[b]?) : SlC w1 size b off n cap olds :=
  ⟨h.le, by have := h.lt; omega, h.len, fun j u hu => (World.cell?_of_block (a := ⟨b, off + j, none⟩) hb).trans (h.olds j u hu), fun j hj => by rw [World.cell?_of_block (a := ⟨b, _, none⟩) hb]; exact h.spare j hj, fun o => (World.frozen?_of_block (a := ⟨b, o, none⟩) hb).trans (h.fr o)⟩
/-- the rows of a policy, with their spare cells -/
structure PsS (w : World) (v : Value) (P : List E) (g : Nat) (gb : Nat → Nat) (cb : Nat → Nat → Nat) : Prop where
  sg : P ≠ [] → ∃ cap xs, v = .slice (some ⟨g, 0, none⟩) P.length cap ∧ SlC w 3 g 0 P.length cap xs
  sr : ∀ t, t < P.length → ∃ c xs, w.cell? ⟨g, t * 3 + 2, none⟩ = some (.slice (some ⟨gb t, 0, none⟩) (rulesAt P t).length c) ∧ SlC w 1 (gb t) 0 (rulesAt P t).length c xs
  sc : ∀ t s, t < P.length → s < (rulesAt P t).length → ∃ c xs, w.cell? ⟨gb t, s, none⟩ = some (.slice (some ⟨cb t s, 0, none⟩) (ruleAt P t s).length c) ∧ SlC w 3 (cb t s) 0 (ruleAt P t s).length c xs
theorem PsD.pss {w : World} {B : Nat} {v : Value} {P : List E} {rv : Nat → Value} {lo hi : Nat → Nat} {g : Nat} {gb : Nat → Nat} {cb : Nat → Nat → Nat} (h : PsD w B v P rv lo hi) (hc : PsC w v P g gb cb) : PsS w v P g gb cb := by
  have nn : ∀ {t}, t < P.length → P ≠ [] := fun ht e => by rw [e] at ht; simp at ht
  have ev : P ≠ [] → ∃ cap, v = .slice (some ⟨g, 0, none⟩) P.length cap := fun hn => by
    obtain ⟨a, cap, e, _, ha⟩ := hc.val
    exact ⟨cap, by rw [e, ha hn]⟩
  have hrt : ∀ t, t < P.length → ∃ c, rv t = .slice (some ⟨gb t, 0, none⟩) (rulesAt P t).length c ∧ w.cell? ⟨g, t * 3 + 2, none⟩ = some (.slice (some ⟨gb t, 0, none⟩) (rulesAt P t).length c) := fun t ht => by
    obtain ⟨_, _, c, _, e⟩ := hc.ent t ht
    obtain ⟨cap, e1⟩ := ev (nn ht)
    have k := h.row.cells (g := g) (by rw [e1]; rfl) _ _ (entCsd_get P rv ht).2.2
    rw [add_at, Nat.zero_add, e] at k
    exact ⟨c, (Option.some.inj k).symm, e⟩
  refine ⟨fun hn => ?_, fun t ht => ?_, fun t s ht hs => ?_⟩
  · obtain ⟨cap, e1⟩ := ev hn
    have hr := h.row
    rw [e1] at hr
    exact ⟨cap, _, e1, SlC.of_row hr⟩
  · obtain ⟨c, e, ec⟩ := hrt t ht
    obtain ⟨vs, cb', gb', h1, _⟩ := h.own t ht
    have hr := h1.row
    rw [e] at hr
    exact ⟨c, _, ec, SlC.of_row hr⟩
  · obtain ⟨c, e, ec⟩ := hrt t ht
    obtain ⟨vs, cb', gb', h1, _⟩ := h.own t ht
    obtain ⟨c2, _, e2⟩ := hc.rul t s ht hs
    have k := h1.row.cells (g := gb t) (by rw [e]; rfl) s (vs s) (by rw [List.getElem?_map, List.getElem?_range hs]; rfl)
    rw [add_at, Nat.zero_add, e2] at k
    have hr := (h1.own s hs).1
    rw [← Option.some.inj k] at hr
    exact ⟨c2, _, e2, SlC.of_row hr⟩
theorem PsS.far {w w1 : World} {v : Value} {P : List E} {g : Nat} {gb : Nat → Nat} {cb : Nat → Nat → Nat} (h : PsS w v P g gb cb) (hs : w.heap.size ≤ w1.heap.size) (hg : P ≠ [] → w1.heap[g]? = w.heap[g]?) (hr : ∀ t, t < P.length → w1.heap[gb t]? = w.heap[gb t]?) (hc : ∀ t s, t < P.length → s < (rulesAt P t).length → w1.heap[cb t s]? = w.heap[cb t s]?) : PsS w1 v P g gb cb := by
  have nn : ∀ {t}, t < P.length → P ≠ [] := fun ht e => by rw [e] at ht; simp at ht
  refine ⟨fun hn => ?_, fun t ht => ?_, fun t s ht hst => ?_⟩
  · obtain ⟨cap, xs, e, k⟩ := h.sg hn
    exact ⟨cap, xs, e, k.far hs (hg hn)⟩
  · obtain ⟨c, xs, e, k⟩ := h.sr t ht
    exact ⟨c, xs, (World.cell?_of_block (a := ⟨g, _, none⟩) (hg (nn ht))).trans e, k.far hs (hr t ht)⟩
  · obtain ⟨c, xs, e, k⟩ := h.sc t s ht hst
    exact ⟨c, xs, (World.cell?_of_block (a := ⟨gb t, _, none⟩) (hr t ht)).trans e, k.far hs (hc t s ht hst)⟩

/-- the state: the box of p at w's end, the box of the answer behind it -/
structure SpS (w W : World) (R : Nat) (ad : Option Addr) (cap : Nat) (l : List Int) (j B : Nat) (v : Value) (P : List E) (g : Nat) (gb : Nat → Nat) (cb : Nat → Nat → Nat) : Prop where
  rd : Rd W R ad cap l j
  gr : w.grownBy W (some R)
  lt : R < B
  hB : B ≤ w.heap.size
  pc : PsC W v P g gb cb
  ps : PsS W v P g gb cb
  ge : GeB B P g gb cb
  old : (P ≠ [] → g < w.heap.size) ∧ (∀ t, t < P.length → gb t < w.heap.size) ∧ ∀ t s, t < P.length → s < (rulesAt P t).length → cb t s < w.heap.size
  c2 : W.cell? ⟨w.heap.size, 0, none⟩ = some v
  f2 : W.frozen? ⟨w.heap.size, 0, none⟩ = false
  c4 : W.cell? ⟨w.heap.size + 1, 0, none⟩ = some (.slice none 0 0)
  f4 : W.frozen? ⟨w.heap.size + 1, 0, none⟩ = false
  sz : w.heap.size + 1 < W.heap.size
section
variable {w W W1 : World} {R cap j j1 B : Nat} {ad : Option Addr} {l : List Int} {v : Value} {P : List E} {g : Nat} {gb : Nat → Nat} {cb : Nat → Nat → Nat}
theorem SpS.draw (h : SpS w W R ad cap l j B v P g gb cb) (hr : Rd W1 R ad cap l j1) (hg : W.grownBy W1 (some R)) : SpS w W1 R ad cap l j1 B v P g gb cb := by
  have h1 := h.lt
  have h2 := h.hB
  have h3 := h.sz
  have bl : ∀ k, k < W.heap.size → k ≠ R → W1.heap[k]? = W.heap[k]? := fun k hk hne => hg.block k hk (by simp; exact hne)
  have bg : P ≠ [] → W1.heap[g]? = W.heap[g]? := fun hn => bl g (h.pc.frg hn).1 (by have := h.ge.1 hn; omega)
  have br : ∀ t, t < P.length → W1.heap[gb t]? = W.heap[gb t]? := fun t ht => bl _ (h.pc.frr t ht).1 (by have := h.ge.2.1 t ht; omega)
  have bc : ∀ t s, t < P.length → s < (rulesAt P t).length → W1.heap[cb t s]? = W.heap[cb t s]? := fun t s ht hs => bl _ (h.pc.frc t s ht hs).1 (by have := h.ge.2.2 t s ht hs; omega)
  obtain ⟨a1, a2⟩ := cell_grD (g := w.heap.size) (o := 0) hg (by omega) (by simp; omega)
  obtain ⟨a3, a4⟩ := cell_grD (g := w.heap.size + 1) (o := 0) hg (by omega) (by simp; omega)
  exact ⟨hr, rb_trans h.gr hg, h1, h2, h.pc.far hg.size bg br bc, h.ps.far hg.size bg br bc, h.ge, h.old, a1.trans h.c2, a2.trans h.f2, a3.trans h.c4, a4.trans h.f4, Nat.lt_of_lt_of_le h3 hg.size⟩
theorem SpS.below (h : SpS w W R ad cap l j B v P g gb cb) (hb : Below W.heap.size W W1) : SpS w W1 R ad cap l j B v P g gb cb := h.draw (h.rd.below hb) (rb_below hb)
end

/-! the function of the bytes -/
def spI (l : List Int) (P : List E) (j : Nat) : Nat := (l.getD (j + 1) 0 % (P.length : Int)).toNat
def spJ (l : List Int) (P : List E) (j : Nat) : Nat := (l.getD (j + 2) 0 % ((rulesAt P (spI l P j)).length : Int)).toNat
def spM (l : List Int) (j : Nat) : Nat := (l.getD (j + 3) 0 % 6).toNat
def putP (P : List E) (i s m : Nat) (c : K) : List E := P.set i ⟨(P.getD i E.zero).arch, (P.getD i E.zero).nr, (rulesAt P i).set s ((ruleAt P i s).set m c)⟩
def spP (l : List Int) (P : List E) (j : Nat) : List E :=
  if P = [] then P else putP P (spI l P j) (spJ l P j) (spM l j) (spK ((ruleAt P (spI l P j) (spJ l P j)).getD (spM l j) K.zero) (l.getD (j + 4) 0))

/-- is the policy spoilt for sure? -/
def spB (l : List Int) (P : List E) (j : Nat) : Bool := decide (P ≠ [] ∧ (l.getD j 0 % 9 = 0 ∨ l.getD j 0 % 9 = 1 ∨ (l.getD j 0 % 9 = 2 ∧ 1 < P.length) ∨ l.getD j 0 % 9 = 3 ∨ l.getD j 0 % 9 = 4 ∨ l.getD j 0 % 9 = 5))
def spN (P : List E) (j : Nat) : Nat := if P = [] then j + 1 else j + 5
def GoE (e : E) : Prop := e.ok ∧ e.rules.length ≤ 300 ∧ ∀ r ∈ e.rules, r.length ≤ 7
theorem okK_ok {c : K} (h : OkK c) : c.ok := by obtain ⟨h1, h2, h3⟩ := h; exact ⟨⟨by omega, by omega⟩, by omega, by omega⟩
theorem goE_of {e : E} (h : OkE e) : GoE e := ⟨⟨h.1.1, h.1.2, fun r hr c hc => okK_ok ((h.2.1 r hr).1 c hc)⟩, by have := h.2.2.2; omega, fun r hr => by have := (h.2.1 r hr).2; omega⟩
theorem goE_put {e : E} (h : GoE e) {rs : List (List K)} (h1 : okRs rs) (h2 : rs.length ≤ 300) (h3 : ∀ r ∈ rs, r.length ≤ 7) : GoE ⟨e.arch, e.nr, rs⟩ := ⟨⟨h.1.1, h.1.2.1, h1⟩, h2, h3⟩
theorem set_all {α : Type} {Q : α → Prop} {l : List α} {i : Nat} {x : α} (h : ∀ y ∈ l, Q y) (hx : Q x) : ∀ y ∈ l.set i x, Q y := fun y hy => by
  rcases List.mem_or_eq_of_mem_set hy with h1 | h1
  · exact h y h1
  · rw [h1]; exact hx
theorem SlC.cellAt {w : World} {size b off n cap : Nat} {olds : List Value} (h : SlC w size b off n cap olds) {j : Nat} (hj : j < n * size) : w.cell? ⟨b, off + j, none⟩ = olds[j]? := by
  have := h.len
  have hlt : j < olds.length := by omega
  rw [List.getElem?_eq_getElem hlt]
  exact h.olds j _ (List.getElem?_eq_getElem hlt)
theorem cell_otherB {w : World} {b b' o o' : Nat} {v : Value} (h : b' ≠ b) : (w.setCell ⟨b, o, none⟩ v).cell? ⟨b', o', none⟩ = w.cell? ⟨b', o', none⟩ := World.cell?_setCell_other _ _ _ _ (fun e => h (by simpa using (congrArg Addr.block e).symm))
theorem cell_otherA {w : World} {b b' o o' : Nat} {v : Value} (h : ¬ (b' = b ∧ o' = o)) : (w.setCell ⟨b, o, none⟩ v).cell? ⟨b', o', none⟩ = w.cell? ⟨b', o', none⟩ := World.cell?_setCell_other _ _ _ _ (fun e => by simp at e; exact h ⟨e.1.symm, e.2.symm⟩)
/-- the later world has the cells of all blocks from B on but the box of the answer -/
structure KeC (B b4 : Nat) (w w1 : World) : Prop where
  size : w.heap.size ≤ w1.heap.size
  cell : ∀ b o, b < w.heap.size → B ≤ b → b ≠ b4 → w1.cell? ⟨b, o, none⟩ = w.cell? ⟨b, o, none⟩
theorem SpS.bad {w W W9 : World} {R cap j B : Nat} {ad : Option Addr} {l : List Int} {v v9 u : Value} {P : List E} {D : List E × Nat} {g : Nat} {gb : Nat → Nat} {cb : Nat → Nat → Nat} (S : SpS w W R ad cap l j B v P g gb cb) (hrd : ∃ j, Rd W9 R ad cap l j) (hfr : FrB B R W W9)
    (P' : List E) (a : Option Addr) (c : Nat) (hv : v9 = .slice a P'.length c) (hc : P'.length ≤ c) (hgo : ∀ e ∈ P', GoE e) (hl : P'.length ≤ 300) (hva : validP P' = false) (hsrc : ∀ w1, KeC B (w.heap.size + 1) W9 w1 → LSrcG B 3 (PEB B) w1 a P') :
    PolPost B R ad cap l (D, true) w (W9.setCell ⟨w.heap.size + 1, 0, none⟩ u) v9 := by
  obtain ⟨j', hrd⟩ := hrd
  have h1 := S.lt
  have h2 := S.hB
  have h3 := S.sz
  have hset : W9.grownBy (W9.setCell ⟨w.heap.size + 1, 0, none⟩ u) (some (w.heap.size + 1)) := rb_set (World.grownBy.refl _ _) 0 _
  refine ⟨⟨j', hrd.keep (fun k hk => Below.heap_setCell W9 ⟨w.heap.size + 1, 0, none⟩ _ k (fun e => by simp at e; omega))⟩, ((FrB.of S.gr h2 (fun k hk => by simp at hk; omega)).trans hfr).trans (FrB.of hset (by have := hfr.size; omega) (fun k hk => by simp at hk; omega)), .inl ⟨rfl, P', a, c, hv, hc, fun e he => (hgo e he).1, hva, ⟨hl, fun e he => (hgo e he).2⟩, hsrc _ ⟨by simp, fun b o hb hR h4 => cell_otherB h4⟩⟩⟩
theorem map_getD (P : List E) {is : List Nat} {t : Nat} (ht : t < is.length) : (is.map fun t => P.getD t E.zero).getD t E.zero = P.getD (is.getD t 0) E.zero := by
  simp [List.getD_eq_getElem?_getD, List.getElem?_map, List.getElem?_eq_getElem ht]
/-- what an append leaves of the other cells -/
theorem ApC.cell5 {w wA w9 : World} {size b off n g' o' cap' : Nat} {xs : List Value} (A : ApC wA size b off n xs w9 g' o' cap') (bA : Below w.heap.size w wA) {b' o : Nat} (hb : b' < w.heap.size) (hno : ¬ (b' = b ∧ off + n * size ≤ o)) : w9.cell? ⟨b', o, none⟩ = w.cell? ⟨b', o, none⟩ :=
  (A.cell b' o (by have := bA.size; omega) hno).trans (bA.cell (p := ⟨b', o, none⟩) hb)
theorem ApC.frz5 {w wA w9 : World} {size b off n g' o' cap' : Nat} {xs : List Value} (A : ApC wA size b off n xs w9 g' o' cap') (bA : Below w.heap.size w wA) {b' o : Nat} (hb : b' < w.heap.size) : w9.frozen? ⟨b', o, none⟩ = w.frozen? ⟨b', o, none⟩ :=
  (A.frz b' o (by have := bA.size; omega)).trans (bA.frozen (p := ⟨b', o, none⟩) hb)
/-- the entries appended to: cases 1 and 2 -/
theorem SpS.badI {w W wA w9 : World} {R cap j B : Nat} {ad : Option Addr} {l : List Int} {v : Value} {P : List E} {D : List E × Nat} {g : Nat} {gb : Nat → Nat} {cb : Nat → Nat → Nat} (S : SpS w W R ad cap l j B v P g gb cb) (hPn : P ≠ []) (hP : ∀ e ∈ P, OkE e) {off k cpk g' o' cap' : Nat} {xs news : List Value}
    (bA : Below W.heap.size W wA) (sl : SlC W 3 g off k cpk xs) (A : ApC wA 3 g off k (xs ++ news) w9 g' o' cap') (hoff : P.length * 3 ≤ off + k * 3) (is : List Nat) (hil : is.length = k + 1) (hk3 : k ≤ 299) (his : ∀ t, t < k + 1 → is.getD t 0 < P.length)
    (hx : ∀ t, t < k → ∀ r, r < 3 → W.cell? ⟨g, off + (t * 3 + r), none⟩ = W.cell? ⟨g, is.getD t 0 * 3 + r, none⟩) (hnw : ∀ r, r < 3 → news[r]? = W.cell? ⟨g, is.getD k 0 * 3 + r, none⟩) (hva : validP (is.map fun t => P.getD t E.zero) = false) :
    PolPost B R ad cap l (D, true) w ((w9.setCell ⟨w.heap.size, 0, none⟩ (.slice (some ⟨g', o', none⟩) (k + 1) cap')).setCell ⟨w.heap.size + 1, 0, none⟩ (.slice (some ⟨g', o', none⟩) (k + 1) cap')) (.slice (some ⟨g', o', none⟩) (k + 1) cap') := by
  have hRB := S.lt
  have hB := S.hB
  have hsz := S.sz
  have hsA := bA.size
  have hs9 := A.gr.size
  have hgB := S.ge.1 hPn
  have hgw := S.old.1 hPn
  have hg9 := A.sl.lt
  have hA2 := A.at'
  have hset : w9.grownBy (w9.setCell ⟨w.heap.size, 0, none⟩ (.slice (some ⟨g', o', none⟩) (k + 1) cap')) (some w.heap.size) := rb_set (World.grownBy.refl _ _) _ _
  have hrd9 := ((S.rd.below bA).grown A.gr hRB (fun k hk => by simp at hk; omega)).keep (w1 := w9.setCell ⟨w.heap.size, 0, none⟩ (.slice (some ⟨g', o', none⟩) (k + 1) cap')) (fun k hk => Below.heap_setCell w9 ⟨w.heap.size, 0, none⟩ _ k (fun e => by simp at e; omega))
  have hfr9 := ((FrB.of (R := R) (B := B) (rb_below bA (r := none)) (by omega) (fun k hk => by cases hk)).trans (FrB.of A.gr (by omega) (fun k hk => by simp at hk; omega))).trans (FrB.of hset (by omega) (fun k hk => by simp at hk; omega))
  refine S.bad ⟨_, hrd9⟩ hfr9 (is.map fun t => P.getD t E.zero) (some ⟨g', o', none⟩) cap' (by rw [List.length_map, hil]) (by rw [List.length_map, hil]; exact A.sl.le) (fun e he => ?_) (by rw [List.length_map, hil]; omega) hva (fun w1 hk => ?_)
  · obtain ⟨t, ht, rfl⟩ := List.mem_map.1 he
    obtain ⟨q, hq, rfl⟩ := List.getElem_of_mem ht
    have := his q (by omega)
    rw [List.getD_eq_getElem?_getD, List.getElem?_eq_getElem hq] at this
    exact goE_of (hP _ (getD_mem this))
  · have hRb : ∀ b, B ≤ b → B ≤ b := fun b hb => hb
    have hk1 : ∀ b o, b < W.heap.size → B ≤ b → b ≠ w.heap.size → b ≠ w.heap.size + 1 → ¬ (b = g ∧ off + k * 3 ≤ o) → w1.cell? ⟨b, o, none⟩ = W.cell? ⟨b, o, none⟩ := fun b o hb h1 h2 h3 h4 => by
      rw [hk.cell b o (by simp; omega) h1 h3, cell_otherB h2]; exact A.cell5 bA hb h4
    have hgg : B ≤ g' ∧ g' ≠ w.heap.size ∧ g' ≠ w.heap.size + 1 := by omega
    have hrow : ∀ t, t < k + 1 → ∀ r, r < 3 → w1.cell? ⟨g', o' + t * 3 + r, none⟩ = (xs ++ news)[t * 3 + r]? := fun t ht r hr => by
      rw [hk.cell g' _ (by simpa using hg9) hgg.1 hgg.2.2, cell_otherB hgg.2.1, Nat.add_assoc]
      exact A.sl.cellAt (by omega)
    have hxl := sl.len
    have hks := hk.size
    simp at hks
    refine S.pc.idx S.ge (by omega) _ (fun t ht => his t (by omega)) hgg.1 (by omega) (fun t ht r hr => ?_) (fun t ht s hs => hk1 _ _ (S.pc.frr t ht).1 (hRb _ (S.ge.2.1 t ht)) (by have := S.old.2.1 t ht; omega) (by have := S.old.2.1 t ht; omega) (fun e => (S.pc.frr t ht).2.1 e.1)) (fun t ht s hs o => hk1 _ _ (S.pc.frc t s ht hs).1 (hRb _ (S.ge.2.2 t s ht hs)) (by have := S.old.2.2 t s ht hs; omega) (by have := S.old.2.2 t s ht hs; omega) (fun e => (S.pc.frc t s ht hs).2.1 e.1))
    rw [hil] at ht
    rw [hrow t ht r hr]
    by_cases e : t = k
    · rw [e, List.getElem?_append_right (by omega), show k * 3 + r - xs.length = r by omega]
      exact hnw r hr
    · rw [List.getElem?_append_left (by omega), ← sl.cellAt (j := t * 3 + r) (by omega)]
      exact hx t (by omega) r hr
/-- one rule changed: cases 3 and 4 -/
theorem SpS.badR {w W W9 : World} {R cap j B : Nat} {ad : Option Addr} {l : List Int} {v u : Value} {P : List E} {D : List E × Nat} {g : Nat} {gb : Nat → Nat} {cb : Nat → Nat → Nat} (S : SpS w W R ad cap l j B v P g gb cb) (hPn : P ≠ []) (hP : ∀ e ∈ P, OkE e) (hl4 : P.length ≤ 4) {i s c cp : Nat} {a : Option Addr} {r : List K}
    (hi : i < P.length) (hs : s < (rulesAt P i).length) (hrd : ∃ j, Rd W9 R ad cap l j) (hfr : FrB B R W W9) (h6 : r.length ≠ 6) (h7 : r.length ≤ 7) (hok : okR r) (hcell : W9.cell? ⟨gb i, s, none⟩ = some (.slice a r.length c)) (hsrc : ∀ w1, KeC B (w.heap.size + 1) W9 w1 → LSrcG B 3 PK w1 a r)
    (hkeep : ∀ b o, b < w.heap.size → B ≤ b → ¬ (b = gb i ∧ o = s) → b ≠ cb i s → W9.cell? ⟨b, o, none⟩ = W.cell? ⟨b, o, none⟩) (hcp : P.length ≤ cp) :
    PolPost B R ad cap l (D, true) w (W9.setCell ⟨w.heap.size + 1, 0, none⟩ u) (.slice (some ⟨g, 0, none⟩) P.length cp) := by
  have hRB := S.lt
  have hB := S.hB
  have hsz := S.sz
  have hs9 := hfr.size
  have hgB := S.ge.1 hPn
  have hgw := S.old.1 hPn
  have hOk := goE_of (hP _ (getD_mem (d := E.zero) hi))
  have hRb : ∀ b, B ≤ b → B ≤ b := fun b hb => hb
  have hget : ((rulesAt P i).set s r).getD s [] = r := by rw [getD_putD _ _ _ _ _ hs, if_pos rfl]
  refine S.bad hrd hfr (P.set i ⟨(P.getD i E.zero).arch, (P.getD i E.zero).nr, (rulesAt P i).set s r⟩) (some ⟨g, 0, none⟩) cp (by rw [List.length_set]) (by rw [List.length_set]; exact hcp) (set_all (fun e he => goE_of (hP e he)) (goE_put hOk (set_all hOk.1.2.2 hok) (by rw [List.length_set]; exact hOk.2.1) (set_all hOk.2.2 h7))) (by rw [List.length_set]; omega) (validP_entry (i := i) (by rw [List.length_set]; omega) (by rw [getD_putD P i i _ _ hi, if_pos rfl]; exact validE_rule (s := s) (by show s < ((rulesAt P i).set s r).length; rw [List.length_set]; exact hs) (by show (((rulesAt P i).set s r).getD s []).length ≠ 6; rw [hget]; exact h6))) (fun w1 hk => ?_)
  have hks := hk.size
  have hk1 : ∀ b o, b < w.heap.size → B ≤ b → ¬ (b = gb i ∧ o = s) → b ≠ cb i s → w1.cell? ⟨b, o, none⟩ = W.cell? ⟨b, o, none⟩ := fun b o hb h1 h2 h3 => (hk.cell b o (by omega) h1 (by omega)).trans (hkeep b o hb h1 h2 h3)
  have hgi := S.pc.frr i hi
  have hci := S.pc.frc i s hi hs
  have hcell1 : w1.cell? ⟨gb i, s, none⟩ = some (.slice a r.length c) := by
    have := S.old.2.1 i hi
    exact (hk.cell _ _ (by omega) (hRb _ (S.ge.2.1 i hi)) (by omega)).trans hcell
  have kg : ∀ o, w1.cell? ⟨g, o, none⟩ = W.cell? ⟨g, o, none⟩ := fun o => hk1 g o hgw (hRb _ hgB) (fun e => hgi.2.1 e.1.symm) (fun e => hci.2.1 e.symm)
  obtain ⟨_, _, cR, _, e2⟩ := S.pc.ent i hi
  refine S.pc.putE S.ge (by omega) hi (fun o _ => kg o) (a := some ⟨gb i, 0, none⟩) (c := cR) ((kg _).trans (by rw [List.length_set]; exact e2)) ?_ (fun t ht hne s' hs' => hk1 _ _ (S.old.2.1 t ht) (hRb _ (S.ge.2.1 t ht)) (fun e => S.pc.drr t i ht hi hne e.1) (fun e => hci.2.2.1 t ht e.symm)) (fun t ht hne s' hs' o => hk1 _ _ (S.old.2.2 t s' ht hs') (hRb _ (S.ge.2.2 t s' ht hs')) (fun e => (S.pc.frc t s' ht hs').2.2.1 i hi e.1) (S.pc.dcc t s' i s ht hs' hi hs (fun e => hne e.1)))
  exact S.pc.putR S.ge (by omega) hi hs hcell1 (hsrc w1 hk) (fun s' hs' hne => hk1 _ _ (S.old.2.1 i hi) (hRb _ (S.ge.2.1 i hi)) (fun e => hne e.2) (fun e => hci.2.2.1 i hi e.symm)) (fun s' hs' hne o => hk1 _ _ (S.old.2.2 i s' hi hs') (hRb _ (S.ge.2.2 i s' hi hs')) (fun e => (S.pc.frc i s' hi hs').2.2.1 i hi e.1) (S.pc.dcc i s' i s hi hs' hi hs (fun e => hne e.2)))
theorem GeB_put {B : Nat} {P : List E} {g : Nat} {gb : Nat → Nat} {cb : Nat → Nat → Nat} (h : GeB B P g gb cb) {i s m : Nat} (hi : i < P.length) (c : K) : GeB B (putP P i s m c) g gb cb := by
  have hl : (putP P i s m c).length = P.length := by simp [putP]
  have eR : ∀ t, (rulesAt (putP P i s m c) t).length = (rulesAt P t).length := fun t => by
    show ((putP P i s m c).getD t E.zero).rules.length = _
    unfold putP
    rw [getD_putD P i t _ _ hi]
    by_cases e : t = i
    · subst e; rw [if_pos rfl]; simp
    · rw [if_neg e]
  exact ⟨fun hn => h.1 (fun e => hn (by rw [← List.length_eq_zero_iff, hl, e]; rfl)), fun t ht => h.2.1 t (by omega), fun t s' ht hs => h.2.2 t s' (by omega) (by rw [eR] at hs; exact hs)⟩
def OldB (N : Nat) (P : List E) (g : Nat) (gb : Nat → Nat) (cb : Nat → Nat → Nat) : Prop := (P ≠ [] → g < N) ∧ (∀ t, t < P.length → gb t < N) ∧ ∀ t s, t < P.length → s < (rulesAt P t).length → cb t s < N
theorem OldB_put {N : Nat} {P : List E} {g : Nat} {gb : Nat → Nat} {cb : Nat → Nat → Nat} (h : OldB N P g gb cb) {i s m : Nat} (hi : i < P.length) (c : K) : OldB N (putP P i s m c) g gb cb := by
  have hl : (putP P i s m c).length = P.length := by simp [putP]
  have eR : ∀ t, (rulesAt (putP P i s m c) t).length = (rulesAt P t).length := fun t => by
    show ((putP P i s m c).getD t E.zero).rules.length = _
    unfold putP
    rw [getD_putD P i t _ _ hi]
    by_cases e : t = i
    · subst e; rw [if_pos rfl]; simp
    · rw [if_neg e]
  exact ⟨fun hn => h.1 (fun e => hn (by rw [← List.length_eq_zero_iff, hl, e]; rfl)), fun t ht => h.2.1 t (by omega), fun t s' ht hs => h.2.2 t s' (by omega) (by rw [eR] at hs; exact hs)⟩
/-- the end of the last case: a condition put -/
theorem SpS.good {w W : World} {R cap j B : Nat} {ad : Option Addr} {l : List Int} {v u : Value} {P : List E} {g : Nat} {gb : Nat → Nat} {cb : Nat → Nat → Nat} (S : SpS w W R ad cap l j B v P g gb cb) {i s m : Nat} (hi : i < P.length) (hs : s < (rulesAt P i).length) (hm : m < (ruleAt P i s).length) (c : K) :
    PolPost B R ad cap l ((putP P i s m c, j), false) w ((((W.setCell ⟨cb i s, m * 3, none⟩ (.int .i64 c.kind)).setCell ⟨cb i s, m * 3 + 1, none⟩ (.int .u64 (c.a : Int))).setCell ⟨cb i s, m * 3 + 2, none⟩ (.int .u64 (c.b : Int))).setCell ⟨w.heap.size + 1, 0, none⟩ u) v := by
  have hpk := S.pc.putK hi hs hm c
  have hRB := S.lt
  have hB := S.hB
  have hsz := S.sz
  have hcB := S.ge.2.2 i s hi hs
  have hcw := S.old.2.2 i s hi hs
  have ho : OldB w.heap.size (putP P i s m c) g gb cb := OldB_put S.old hi c
  obtain ⟨W9, hW9⟩ : ∃ W9, ((W.setCell ⟨cb i s, m * 3, none⟩ (.int .i64 c.kind)).setCell ⟨cb i s, m * 3 + 1, none⟩ (.int .u64 (c.a : Int))).setCell ⟨cb i s, m * 3 + 2, none⟩ (.int .u64 (c.b : Int)) = W9 := ⟨_, rfl⟩
  have g9 : W.grownBy W9 (some (cb i s)) := by rw [← hW9]; exact rb_set (rb_set (rb_set (World.grownBy.refl _ _) _ _) _ _) _ _
  rw [hW9] at hpk ⊢
  have hs9 := g9.size
  have hset : W9.grownBy (W9.setCell ⟨w.heap.size + 1, 0, none⟩ u) (some (w.heap.size + 1)) := rb_set (World.grownBy.refl _ _) _ _
  have hbl : ∀ k, k < w.heap.size → (W9.setCell ⟨w.heap.size + 1, 0, none⟩ u).heap[k]? = W9.heap[k]? := fun k hk => Below.heap_setCell W9 ⟨w.heap.size + 1, 0, none⟩ _ k (fun e => by simp at e; omega)
  have hrd' := (S.rd.grown g9 hRB (fun k hk => by simp at hk; omega)).keep (w1 := W9.setCell ⟨w.heap.size + 1, 0, none⟩ u) (fun k hk => hbl k (by omega))
  exact ⟨⟨_, hrd'⟩, ((FrB.of S.gr hB (fun k hk => by simp at hk; omega)).trans (FrB.of g9 (by omega) (fun k hk => by simp at hk; omega))).trans (FrB.of hset (by omega) (fun k hk => by simp at hk; omega)), .inr ⟨rfl, hrd', g, gb, cb, PsC.far (P := putP P i s m c) hpk (by simp) (fun hn => hbl _ (ho.1 hn)) (fun t ht => hbl _ (ho.2.1 t ht)) (fun t s' ht hs' => hbl _ (ho.2.2 t s' ht hs')), GeB_put S.ge hi c⟩⟩

/-- the loop of case 5: the entry's rules, k of them by now -/
structure LpS (w5 W : World) (R : Nat) (ad : Option Addr) (cap : Nat) (l : List Int) (B g gi i rn : Nat) (xs : List Value) (v0 : Value) (k q o cq : Nat) : Prop where
  rd : ∃ j, Rd W R ad cap l j
  fr : FrB B R w5 W
  c : W.cell? ⟨g, i * 3 + 2, none⟩ = some (.slice (some ⟨q, o, none⟩) k cq)
  sl : SlC W 1 q o k cq (xs ++ List.replicate (k - rn) v0)
  keep : ∀ b o', b < w5.heap.size → ¬ (b = g ∧ o' = i * 3 + 2) → ¬ (b = gi ∧ rn ≤ o') → W.cell? ⟨b, o', none⟩ = w5.cell? ⟨b, o', none⟩
  frz : ∀ b o', b < w5.heap.size → W.frozen? ⟨b, o', none⟩ = w5.frozen? ⟨b, o', none⟩
  at' : (q = gi ∧ o = 0) ∨ w5.heap.size ≤ q
  le : rn ≤ k ∧ k ≤ 201
theorem LpS.next {w5 W WA w9 : World} {R cap B g gi i rn k q o cq g' o' cap' : Nat} {ad : Option Addr} {l : List Int} {xs : List Value} {v0 : Value} (h : LpS w5 W R ad cap l B g gi i rn xs v0 k q o cq) (hk : k < 201) (bA : Below W.heap.size W WA) (A : ApC WA 1 q o k (xs ++ List.replicate (k - rn) v0 ++ [v0]) w9 g' o' cap') (hRB : R < B) (hB : B ≤ w5.heap.size) (hgB : B ≤ g) (hgw : g < w5.heap.size) (hgi : gi ≠ g) (hgiB : B ≤ gi) :
    LpS w5 (w9.setCell ⟨g, i * 3 + 2, none⟩ (.slice (some ⟨g', o', none⟩) (k + 1) cap')) R ad cap l B g gi i rn xs v0 (k + 1) g' o' cap' := by
  obtain ⟨j, hrd⟩ := h.rd
  have hs1 := h.fr.size
  have hs2 := bA.size
  have hs3 := A.gr.size
  have hle := h.le
  have hqg : q ≠ g := by rcases h.at' with ⟨e, _⟩ | e <;> omega
  have hqB : B ≤ q := by rcases h.at' with ⟨e, _⟩ | e <;> omega
  have hg'g : g' ≠ g := by rcases A.at' with ⟨e, _⟩ | ⟨e, _⟩ <;> omega
  have hset : w9.grownBy (w9.setCell ⟨g, i * 3 + 2, none⟩ (.slice (some ⟨g', o', none⟩) (k + 1) cap')) (some g) := rb_set (World.grownBy.refl _ _) _ _
  refine ⟨⟨j, ((hrd.below bA).grown A.gr hRB (fun k hk => by simp at hk; omega)).keep (fun k hk => Below.heap_setCell w9 ⟨g, i * 3 + 2, none⟩ _ k (fun e => by simp at e; omega))⟩, ((h.fr.trans (FrB.of (rb_below bA (r := none)) (by omega) (fun k hk => by cases hk))).trans (FrB.of A.gr (by omega) (fun k hk => by simp at hk; omega))).trans (FrB.of hset (by omega) (fun k hk => by simp at hk; omega)), World.cell?_setCell_same _ _ _ ((A.cell5 bA (by omega) (fun e => hqg e.1.symm)).trans h.c), ?_, fun b o'' hb h1 h2 => ?_, fun b o'' hb => ?_, ?_, by omega⟩
  · have e : xs ++ List.replicate (k - rn) v0 ++ [v0] = xs ++ List.replicate (k + 1 - rn) v0 := by rw [List.append_assoc, ← List.replicate_succ', show k - rn + 1 = k + 1 - rn by omega]
    rw [← e]
    exact A.sl.far (by simp) (Below.heap_setCell w9 ⟨g, i * 3 + 2, none⟩ _ g' (fun e => hg'g (by simpa using e)))
  · rw [cell_otherA h1, A.cell5 bA (by omega) (fun e => ?_)]
    · exact h.keep b o'' hb h1 h2
    · rcases h.at' with ⟨e1, e2⟩ | e1
      · exact h2 ⟨by omega, by omega⟩
      · omega
  · have := (A.frz5 bA (b' := b) (o := o'') (by omega)).trans (h.frz b o'' hb)
    simpa using this
  · rcases A.at' with ⟨e1, e2⟩ | ⟨e1, _⟩
    · rcases h.at' with ⟨f1, f2⟩ | f1
      · exact .inl ⟨by omega, by omega⟩
      · exact .inr (by omega)
    · exact .inr (by omega)
theorem LpS.fin {w W W9 : World} {R cap j B : Nat} {ad : Option Addr} {l : List Int} {v u : Value} {P : List E} {D : List E × Nat} {g : Nat} {gb : Nat → Nat} {cb : Nat → Nat → Nat} (S : SpS w W R ad cap l j B v P g gb cb) (hPn : P ≠ []) (hP : ∀ e ∈ P, OkE e) (hl4 : P.length ≤ 4) {i cR q o cq cp c0 : Nat} {xs : List Value} (hi : i < P.length) (h0 : 0 < (rulesAt P i).length)
    (sl : SlC W 1 (gb i) 0 (rulesAt P i).length cR xs) (ev : W.cell? ⟨gb i, 0, none⟩ = some (.slice (some ⟨cb i 0, 0, none⟩) (ruleAt P i 0).length c0)) (L : LpS W W9 R ad cap l B g (gb i) i (rulesAt P i).length xs (.slice (some ⟨cb i 0, 0, none⟩) (ruleAt P i 0).length c0) 201 q o cq) (hcp : P.length ≤ cp) :
    PolPost B R ad cap l (D, true) w (W9.setCell ⟨w.heap.size + 1, 0, none⟩ u) (.slice (some ⟨g, 0, none⟩) P.length cp) := by
  have hRB := S.lt
  have hB := S.hB
  have hsz := S.sz
  have hs9 := L.fr.size
  have hgB := S.ge.1 hPn
  have hgw := S.old.1 hPn
  have hOk := hP _ (getD_mem (d := E.zero) hi)
  have hGo := goE_of hOk
  have hr9 : (rulesAt P i).length ≤ 9 := hOk.2.2.2
  have hRb : ∀ b, B ≤ b → B ≤ b := fun b hb => hb
  have hrl : (rulesAt P i ++ List.replicate (201 - (rulesAt P i).length) (ruleAt P i 0)).length = 201 := by rw [List.length_append, List.length_replicate]; omega
  have hmem : ∀ {Q : List K → Prop}, (∀ r ∈ rulesAt P i, Q r) → ∀ r ∈ rulesAt P i ++ List.replicate (201 - (rulesAt P i).length) (ruleAt P i 0), Q r := fun {Q} hQ r hr => by
    rcases List.mem_append.1 hr with h | h
    · exact hQ r h
    · rw [(List.mem_replicate.1 h).2]; exact hQ _ (getD_mem h0)
  refine S.bad L.rd L.fr (P.set i ⟨(P.getD i E.zero).arch, (P.getD i E.zero).nr, rulesAt P i ++ List.replicate (201 - (rulesAt P i).length) (ruleAt P i 0)⟩) (some ⟨g, 0, none⟩) cp (by rw [List.length_set]) (by rw [List.length_set]; exact hcp) (set_all (fun e he => goE_of (hP e he)) (goE_put hGo (hmem hGo.1.2.2) (by rw [hrl]; decide) (hmem hGo.2.2))) (by rw [List.length_set]; omega) (validP_entry (i := i) (by rw [List.length_set]; omega) (by rw [getD_putD P i i _ _ hi, if_pos rfl]; exact validE_many (by show 200 < (rulesAt P i ++ List.replicate (201 - (rulesAt P i).length) (ruleAt P i 0)).length; rw [hrl]; decide))) (fun w1 hk => ?_)
  have hks := hk.size
  have hgi := S.pc.frr i hi
  have hk1 : ∀ b o, b < w.heap.size → B ≤ b → ¬ (b = g ∧ o = i * 3 + 2) → ¬ (b = gb i ∧ (rulesAt P i).length ≤ o) → w1.cell? ⟨b, o, none⟩ = W.cell? ⟨b, o, none⟩ := fun b o hb h1 h2 h3 => (hk.cell b o (by omega) h1 (by omega)).trans (L.keep b o (by omega) h2 h3)
  have hq9 := L.sl.lt
  have hiw := S.old.2.1 i hi
  have hiB := S.ge.2.1 i hi
  have hqq : B ≤ q ∧ q ≠ w.heap.size + 1 := by
    rcases L.at' with ⟨e, _⟩ | e
    · omega
    · omega
  refine S.pc.putE S.ge (by omega) hi (fun o ho => hk1 _ _ hgw (hRb _ hgB) (fun e => ho e.2) (fun e => hgi.2.1 e.1.symm)) (a := some ⟨q, o, none⟩) (c := cq) (by rw [hrl]; exact (hk.cell g _ (by omega) (hRb _ hgB) (by omega)).trans L.c) ?_ (fun t ht hne s' hs' => hk1 _ _ (S.old.2.1 t ht) (hRb _ (S.ge.2.1 t ht)) (fun e => (S.pc.frr t ht).2.1 e.1) (fun e => S.pc.drr t i ht hi hne e.1)) (fun t ht hne s' hs' o' => hk1 _ _ (S.old.2.2 t s' ht hs') (hRb _ (S.ge.2.2 t s' ht hs')) (fun e => (S.pc.frc t s' ht hs').2.1 e.1) (fun e => (S.pc.frc t s' ht hs').2.2.1 i hi e.1))
  refine .inr ⟨q, o, rfl, hqq.1, by omega, LAt.of [] fun s hs => ?_⟩
  rw [hrl] at hs
  rw [Nat.mul_one]
  have hc1 : w1.cell? ⟨q, o + s, none⟩ = (xs ++ List.replicate (201 - (rulesAt P i).length) (.slice (some ⟨cb i 0, 0, none⟩) (ruleAt P i 0).length c0))[s]? := (hk.cell q _ hq9 hqq.1 hqq.2).trans (L.sl.cellAt (by omega))
  have hxl := sl.len
  have hks' : ∀ s', s' < (rulesAt P i).length → LSrcG B 3 PK w1 (some ⟨cb i s', 0, none⟩) (ruleAt P i s') := fun s' hs' => S.pc.ksB S.ge (by omega) hi hs' (fun o' => hk1 _ _ (S.old.2.2 i s' hi hs') (hRb _ (S.ge.2.2 i s' hi hs')) (fun e => (S.pc.frc i s' hi hs').2.1 e.1) (fun e => (S.pc.frc i s' hi hs').2.2.1 i hi e.1))
  by_cases hsr : s < (rulesAt P i).length
  · have eg : (rulesAt P i ++ List.replicate (201 - (rulesAt P i).length) (ruleAt P i 0)).getD s [] = ruleAt P i s := by rw [List.getD_eq_getElem?_getD, List.getElem?_append_left hsr]; exact List.getD_eq_getElem?_getD.symm
    rw [eg]
    obtain ⟨c, _, e⟩ := S.pc.rul i s hi hsr
    refine ⟨_, c, hc1.trans ?_, hks' s hsr⟩
    rw [List.getElem?_append_left (by omega), ← sl.cellAt (j := s) (by omega), Nat.zero_add]
    exact e
  · have eg : (rulesAt P i ++ List.replicate (201 - (rulesAt P i).length) (ruleAt P i 0)).getD s [] = ruleAt P i 0 := by rw [List.getD_eq_getElem?_getD, List.getElem?_append_right (by omega), List.getElem?_replicate, if_pos (by omega)]; rfl
    rw [eg]
    refine ⟨_, c0, hc1.trans ?_, hks' 0 h0⟩
    rw [List.getElem?_append_right (by omega), List.getElem?_replicate, if_pos (by omega)]
theorem LSrcG.take {α : Type} {B k : Nat} {Q : World → Nat → Nat → α → Prop} {w : World} {a : Option Addr} {l : List α} (h : LSrcG B k Q w a l) (n : Nat) : LSrcG B k Q w a (l.take n) := by
  rcases h with h | ⟨b, o, ha, hB, hlt, hc⟩
  · exact .inl (by rw [h]; simp)
  · exact .inr ⟨b, o, ha, hB, hlt, fun i hi => by
      have h2 : i < l.length := by simp at hi; omega
      have := hc i h2
      simpa using this⟩
end Go.Proofs.YtoamapdfcdefjaaGreat
namespace Go.Proofs.YtoamapdfcdefjaaGreat
open Go.RowKit Go.Deep
set_option linter.unusedVariables false

def Asc2 (P : List E) : Prop := 2 ≤ P.length → befE (P.getD 0 E.zero) (P.getD 1 E.zero) = true
theorem goP_asc {l : List Int} (hl : isBytes l) (F : Nat → K × Nat) (f i : Nat) (arch nr : Int) (P : List E) (j : Nat) (hi : i = P.length) (hn : 0 ≤ nr ∧ nr ≤ 2 + 4 * i) (hif : i + f ≤ 4) (h1 : P.length = 1 → (P.getD 0 E.zero).arch = arch ∧ (P.getD 0 E.zero).nr = nr) (h2 : Asc2 P) : Asc2 (goP l F f i arch nr P j).1 := by
  induction f generalizing i arch nr P j with
  | zero => exact h2
  | succ f ih =>
    have hb := isBytes_getD hl j
    have step : ∀ rs : List (List K), Asc2 (P ++ [(⟨archP i arch (l.getD j 0), nrP i nr (l.getD j 0), rs⟩ : E)]) := fun rs hlen => by
      rw [List.length_append, List.length_singleton] at hlen
      have g0 : (P ++ [(⟨archP i arch (l.getD j 0), nrP i nr (l.getD j 0), rs⟩ : E)]).getD 0 E.zero = P.getD 0 E.zero := by
        rw [List.getD_eq_getElem?_getD, List.getElem?_append_left (by omega), List.getD_eq_getElem?_getD]
      by_cases hp : P.length = 1
      · obtain ⟨ha, hr⟩ := h1 hp
        have g1 : (P ++ [(⟨archP i arch (l.getD j 0), nrP i nr (l.getD j 0), rs⟩ : E)]).getD 1 E.zero = ⟨archP i arch (l.getD j 0), nrP i nr (l.getD j 0), rs⟩ := by
          rw [List.getD_eq_getElem?_getD, List.getElem?_append_right (by omega), hp]; rfl
        rw [g0, g1]
        unfold befE archP nrP
        rw [ha, hr]
        by_cases h5 : l.getD j 0 % 5 = 0
        · rw [if_pos (.inl h5)]
          simp; left; omega
        · rw [if_neg (by omega), if_neg (by omega : ¬ (l.getD j 0 % 5 = 0 ∨ i = 0))]
          simp
          split <;> omega
      · have g1 : (P ++ [(⟨archP i arch (l.getD j 0), nrP i nr (l.getD j 0), rs⟩ : E)]).getD 1 E.zero = P.getD 1 E.zero := by
          rw [List.getD_eq_getElem?_getD, List.getElem?_append_left (by omega), List.getD_eq_getElem?_getD]
        rw [g0, g1]
        exact h2 (by omega)
    unfold goP
    split
    · exact step _
    · have hn2 := nrP_ok (i := i) (k := l.getD j 0) ⟨hb.1, by omega⟩ hn
      refine ih (i + 1) _ _ _ _ (by rw [List.length_append, List.length_singleton]; omega) hn2 (by omega) (fun hlen => ?_) (step _)
      rw [List.length_append, List.length_singleton] at hlen
      have : P = [] := List.eq_nil_of_length_eq_zero (by omega)
      subst this
      exact ⟨rfl, rfl⟩
theorem polD_asc {l : List Int} (hl : isBytes l) (F : Nat → K × Nat) (j : Nat) : Asc2 (polD l F j).1 := by
  have hb := isBytes_getD hl j
  unfold polD
  exact goP_asc hl F _ 0 0 0 [] (j + 1) rfl (by omega) (by omega) (fun h => by simp at h) (fun h => by simp at h)

def anyD (l : List Int) (F : Nat → K × Nat) (j : Nat) : List E :=
  if l.getD j 0 % 60 = 0 then wideP 5 (200 + (l.getD (j + 1) 0 % 2).toNat)
  else if l.getD j 0 % 60 = 1 then wideP (249 + (l.getD (j + 1) 0 % 3).toNat) 4
  else if l.getD j 0 % 60 < 10 then spP l (polD l F (j + 1)).1 (polD l F (j + 1)).2
  else (polD l F (j + 1)).1
/-- where the reader stands behind it -/
def anyJ (l : List Int) (F : Nat → K × Nat) (j : Nat) : Nat :=
  if l.getD j 0 % 60 < 2 then j + 2
  else if l.getD j 0 % 60 < 10 then spN (polD l F (j + 1)).1 (polD l F (j + 1)).2
  else (polD l F (j + 1)).2
/-- is it spoilt for sure? -/
def anyB (l : List Int) (F : Nat → K × Nat) (j : Nat) : Bool :=
  if l.getD j 0 % 60 < 2 then false
  else if l.getD j 0 % 60 < 10 then spB l (polD l F (j + 1)).1 (polD l F (j + 1)).2
  else false

theorem pol_of_psd {w W : World} {B R cap j : Nat} {ad : Option Addr} {l : List Int} {v u : Value} {P : List E} {rv : Nat → Value} {lo hi : Nat → Nat} (hp : PsD W B v P rv lo hi) (hB : w.heap.size < B) (hrd : Rd W R ad cap l j) (hgr : w.grownBy W (some R)) (hR : R < w.heap.size) : PolPost w.heap.size R ad cap l ((P, j), false) w (W.setCell ⟨w.heap.size, 0, none⟩ u) v := by
  obtain ⟨g, gb, cb, pc, gg, gr1, gc1⟩ := hp.psc
  have hset : W.grownBy (W.setCell ⟨w.heap.size, 0, none⟩ u) (some w.heap.size) := rb_set (World.grownBy.refl _ _) _ _
  have hbl : ∀ k, B ≤ k → (W.setCell ⟨w.heap.size, 0, none⟩ u).heap[k]? = W.heap[k]? := fun k hk => Below.heap_setCell W ⟨w.heap.size, 0, none⟩ _ k (fun e => by simp at e; omega)
  have g1 : P ≠ [] → B ≤ g := gg
  have g2 : ∀ t, t < P.length → B ≤ gb t := fun t ht => by have := gr1 t ht; have := hp.lt t ht; omega
  have g3 : ∀ t s, t < P.length → s < (rulesAt P t).length → B ≤ cb t s := fun t s ht hs => by have := gc1 t s ht hs; have := hp.lt t ht; omega
  have hrd' := hrd.keep (w1 := W.setCell ⟨w.heap.size, 0, none⟩ u) (fun k hk => Below.heap_setCell W ⟨w.heap.size, 0, none⟩ _ k (fun e => by simp at e; omega))
  exact ⟨⟨j, hrd'⟩, (FrB.of hgr (Nat.le_refl _) (fun k hk => by simp at hk; omega)).trans (FrB.of hset hgr.size (fun k hk => by simp at hk; omega)), .inr ⟨rfl, hrd', g, gb, cb, pc.far (by simp) (fun hn => hbl _ (g1 hn)) (fun t ht => hbl _ (g2 t ht)) (fun t s ht hs => hbl _ (g3 t s ht hs)), fun hn => by have := g1 hn; omega, fun t ht => by have := g2 t ht; omega, fun t s ht hs => by have := g3 t s ht hs; omega⟩⟩
theorem pol_of_pol {w W W2 : World} {B R cap : Nat} {ad : Option Addr} {l : List Int} {v u : Value} {D : (List E × Nat) × Bool} (h : PolPost B R ad cap l D W W2 v) (hB : w.heap.size < B) (hBW : B ≤ W.heap.size) (hgr : w.grownBy W (some R)) (hR : R < w.heap.size) : PolPost w.heap.size R ad cap l D w (W2.setCell ⟨w.heap.size, 0, none⟩ u) v := by
  obtain ⟨j, hrd⟩ := h.rd
  have hg2 := h.fr.grown hgr (by omega)
  have hset : W2.grownBy (W2.setCell ⟨w.heap.size, 0, none⟩ u) (some w.heap.size) := rb_set (World.grownBy.refl _ _) _ _
  have hbl : ∀ k, B ≤ k → (W2.setCell ⟨w.heap.size, 0, none⟩ u).heap[k]? = W2.heap[k]? := fun k hk => Below.heap_setCell W2 ⟨w.heap.size, 0, none⟩ _ k (fun e => by simp at e; omega)
  refine ⟨⟨j, hrd.keep (fun k hk => Below.heap_setCell W2 ⟨w.heap.size, 0, none⟩ _ k (fun e => by simp at e; omega))⟩, (FrB.of hg2 (Nat.le_refl _) (fun k hk => by simp at hk; omega)).trans (FrB.of hset hg2.size (fun k hk => by simp at hk; omega)), ?_⟩
  rcases h.or with ⟨hD, P, a, c, h1, h2, h3, h4, h5, h6⟩ | ⟨hD, hr2, g, gb, cb, pc, g1, g2, g3⟩
  · exact .inl ⟨hD, P, a, c, h1, h2, h3, h4, h5, polB_mono (polB_kept h6 ⟨by simp, fun k hk _ => hbl k hk⟩) (by omega)⟩
  · exact .inr ⟨hD, hr2.keep (fun k hk => Below.heap_setCell W2 ⟨w.heap.size, 0, none⟩ _ k (fun e => by simp at e; omega)), g, gb, cb, pc.far (by simp) (fun hn => hbl _ (g1 hn)) (fun t ht => hbl _ (g2 t ht)) (fun t s ht hs => hbl _ (g3 t s ht hs)), fun hn => by have := g1 hn; omega, fun t ht => by have := g2 t ht; omega, fun t s ht hs => by have := g3 t s ht hs; omega⟩
theorem PolPost.form {B R cap : Nat} {ad : Option Addr} {l : List Int} {D : (List E × Nat) × Bool} {w w' : World} {v : Value} (h : PolPost B R ad cap l D w w' v) : ∃ a n c, v = .slice a n c := by
  rcases h.or with ⟨_, P, a, c, h1, _⟩ | ⟨_, _, g, gb, cb, pc, _⟩
  · exact ⟨_, _, _, h1⟩
  · obtain ⟨a, c, h1, _⟩ := pc.val
    exact ⟨_, _, _, h1⟩
end Go.Proofs.YtoamapdfcdefjaaGreat
namespace Go.Proofs.YtoamapdfcdefjaaGreat
open Go.RowKit Go.Deep
set_option linter.unusedVariables false

theorem KeptB.refl (B : Nat) (w : World) : KeptB B w w := ⟨Nat.le_refl _, fun _ _ _ => rfl⟩
theorem KeptB.grown {B R : Nat} {w W W1 : World} (h : KeptB B w W) (hg : W.grownBy W1 (some R)) (hR : R < B) : KeptB B w W1 :=
  ⟨Nat.le_trans h.1 hg.size, fun k h1 h2 => (hg.block k (Nat.lt_of_lt_of_le h2 h.1) (by simp; omega)).trans (h.2 k h1 h2)⟩
theorem KeptB.below {B : Nat} {w W W1 : World} (h : KeptB B w W) (hb : Below W.heap.size W W1) : KeptB B w W1 :=
  ⟨Nat.le_trans h.1 hb.size, fun k h1 h2 => (hb.block k (Nat.lt_of_lt_of_le h2 h.1)).trans (h.2 k h1 h2)⟩
theorem KeptB.set {B D : Nat} {w W : World} (h : KeptB B w W) (hD : D < B ∨ w.heap.size ≤ D) (i : Nat) (v : Value) : KeptB B w (W.setCell ⟨D, i, none⟩ v) :=
  ⟨by have := h.1; simpa using this, fun k h1 h2 => (Below.heap_setCell W ⟨D, i, none⟩ v k (fun e => by simp at e; omega)).trans (h.2 k h1 h2)⟩
theorem PsC.keptB {w w1 : World} {v : Value} {P : List E} {g B : Nat} {gb : Nat → Nat} {cb : Nat → Nat → Nat} (h : PsC w v P g gb cb) (ge : GeB B P g gb cb) (hk : KeptB B w w1) : PsC w1 v P g gb cb :=
  h.far hk.1 (fun hn => hk.2 _ (ge.1 hn) (h.frg hn).1) (fun t ht => hk.2 _ (ge.2.1 t ht) (h.frr t ht).1) (fun t s ht hs => hk.2 _ (ge.2.2 t s ht hs) (h.frc t s ht hs).1)
theorem GeB.mono {B B' : Nat} {P : List E} {g : Nat} {gb : Nat → Nat} {cb : Nat → Nat → Nat} (h : GeB B P g gb cb) (hB : B' ≤ B) : GeB B' P g gb cb :=
  ⟨fun hn => Nat.le_trans hB (h.1 hn), fun t ht => Nat.le_trans hB (h.2.1 t ht), fun t s ht hs => Nat.le_trans hB (h.2.2 t s ht hs)⟩
/-- the policy D lies cell by cell from block B on -/
def PolOr (B : Nat) (D : List E) (w : World) (v : Value) : Prop := ∃ g gb cb, PsC w v D g gb cb ∧ GeB B D g gb cb
theorem PolOr.src {B : Nat} {D : List E} {w : World} {a : Option Addr} {c : Nat} (h : PolOr B D w (.slice a D.length c)) : LSrc 3 PE w a D := by
  obtain ⟨g, gb, cb, pc, ge⟩ := h
  obtain ⟨a', cap, e, _, h1⟩ := pc.srcB ge
  simp only [Value.slice.injEq] at e
  rw [e.1]
  exact polB_src h1
theorem PolOr.form {B : Nat} {D : List E} {w : World} {v : Value} (h : PolOr B D w v) : ∃ a c, v = .slice a D.length c := by
  obtain ⟨g, gb, cb, pc, ge⟩ := h
  obtain ⟨a', cap, e, _⟩ := pc.val
  exact ⟨a', cap, e⟩
end Go.Proofs.YtoamapdfcdefjaaGreat
