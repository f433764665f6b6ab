/-
  MinZ, PecS, MinM, MinN, MrkE
-/
import Derived.Test.YtljhccolmcoifaaGreatQ39
import Derived.Test.YtljhccolmcoifaaGreatQ13
import Derived.Test.YtljhccolmcoifaaGreatQ14
namespace Go.Proofs.YtljhccolmcoifaaGreat
open Go.RowKit
set_option linter.unusedVariables false

def SmPost (rules : List Ru) (w : World) (e : Ending) (w' : World) : Prop := ∃ v os, e = .returned v ∧ IsSmall rules (os.map Prod.fst) ∧ OwnM w.heap.size w' w.heap.size v os ∧ Below w.heap.size w w'
theorem norm_take {r : Ru} {k : Nat} (h : k < 6) : (normR r).take (k + 1) = (normR r).take k ++ [normK (r.getD k K.zero)] := by
  have hl : k < (normR r).length := by rw [normR_len]; exact h
  rw [List.take_add_one, List.getElem?_eq_getElem hl]
  have := normR_getD r h
  rw [List.getD_eq_getElem?_getD, List.getElem?_eq_getElem hl] at this
  rw [← this]; rfl
/-- on the way: what is left to do from cur on -/
structure OnWay (l0 cur : List Ru) (m : Bool) : Prop where
  nr : NRs cur
  len : cur.length ≤ 1000
  steps : ∀ x, Steps cur x → Steps l0 x
  stuck : m = false → Stuck cur
theorem OnWay.step {l0 cur nx : List Ru} {m : Bool} (h : OnWay l0 cur m) (hs : Step cur nx) : OnWay l0 nx true ∧ nx.length < cur.length := by
  obtain ⟨h1, h2, _, _⟩ := hs.keeps h.nr
  have := h.len
  exact ⟨⟨h1, by omega, fun x hx => h.steps x (.more hs hx), fun e => by cases e⟩, by omega⟩
theorem OnWay.stop {l0 cur : List Ru} {m : Bool} (h : OnWay l0 cur m) (hs : Stuck cur) : OnWay l0 cur false := ⟨h.nr, h.len, h.steps, fun _ => hs⟩
def moreV : Value → Nat
  | .bool true => 1
  | _ => 0

end Go.Proofs.YtljhccolmcoifaaGreat
namespace Go.Proofs.YtljhccolmcoifaaGreat
open Go.RowKit
set_option linter.unusedVariables false

/-- an entry at an address, its rules within their capacity -/
def PEC (w : World) (b o : Nat) (e : E) : Prop := w.cell? ⟨b, o, none⟩ = some (.int .u32 e.arch) ∧ w.cell? ⟨b, o + 1, none⟩ = some (.int .u32 e.nr) ∧ ∃ a cap, w.cell? ⟨b, o + 2, none⟩ = some (.slice a e.rules.length cap) ∧ e.rules.length ≤ cap ∧ LSrc 1 PR w a e.rules
theorem PEC.stays : Stays PEC := fun w w' b o x hlt hb ⟨h0, h1, a, cap, h2, h3, h4⟩ => ⟨(hb.cell (p := ⟨b, _, none⟩) hlt).trans h0, (hb.cell (p := ⟨b, _, none⟩) hlt).trans h1, a, cap, (hb.cell (p := ⟨b, _, none⟩) hlt).trans h2, h3, h4.below PR.stays hb⟩
theorem PEC.plain {w : World} {b o : Nat} {e : E} (h : PEC w b o e) : PE w b o e := by
  obtain ⟨h0, h1, a, cap, h2, _, h3⟩ := h
  exact ⟨h0, h1, a, cap, h2, h3⟩
theorem PEC.plains {w : World} {a : Option Addr} {p : List E} (h : LSrc 3 PEC w a p) : LSrc 3 PE w a p := by
  rcases h with h | ⟨b, o, h1, h2, h3⟩
  · exact .inl h
  · exact .inr ⟨b, o, h1, h2, fun i hi => (h3 i hi).plain⟩
end Go.Proofs.YtljhccolmcoifaaGreat
namespace Go.Proofs.YtljhccolmcoifaaGreat
open Go.RowKit
set_option linter.unusedVariables false

/-- rules whose rows all lie from block lo to block hi -/
def PRI (lo hi : Nat) (w : World) (b o : Nat) (r : List K) : Prop := ∃ a cap, w.cell? ⟨b, o, none⟩ = some (.slice a r.length cap) ∧ (r = [] ∨ ∃ b2 o2, a = some ⟨b2, o2, none⟩ ∧ lo ≤ b2 ∧ b2 < hi ∧ LAt 3 PK w b2 o2 r)
def RsI (lo hi : Nat) (w : World) (a : Option Addr) (l : List Ru) : Prop := l = [] ∨ ∃ b o, a = some ⟨b, o, none⟩ ∧ lo ≤ b ∧ b < hi ∧ LAt 1 (PRI lo hi) w b o l
theorem RsI.far {lo hi : Nat} {w w' : World} {a : Option Addr} {l : List Ru} (h : RsI lo hi w a l) (hb : ∀ q, lo ≤ q → q < hi → w'.heap[q]? = w.heap[q]?) : RsI lo hi w' a l := by
  rcases h with h | ⟨b, o, h1, h2, h3, h4⟩
  · exact .inl h
  · refine .inr ⟨b, o, h1, h2, h3, fun i hi => ?_⟩
    obtain ⟨a2, cap2, g1, g2⟩ := h4 i hi
    refine ⟨a2, cap2, by simp only [World.cell?, hb b h2 h3] at g1 ⊢; exact g1, ?_⟩
    rcases g2 with g2 | ⟨b2, o2, e1, e2, e3, e4⟩
    · exact .inl g2
    · exact .inr ⟨b2, o2, e1, e2, e3, e4.blk (hb b2 e2 e3)⟩
theorem RsI.plain {lo hi : Nat} {w : World} {a : Option Addr} {l : List Ru} (h : RsI lo hi w a l) (hs : hi ≤ w.heap.size) : LSrc 1 PR w a l := by
  rcases h with h | ⟨b, o, h1, h2, h3, h4⟩
  · exact .inl h
  · refine .inr ⟨b, o, h1, by omega, fun i hi => ?_⟩
    obtain ⟨a2, cap2, g1, g2⟩ := h4 i hi
    refine ⟨a2, cap2, g1, ?_⟩
    rcases g2 with g2 | ⟨b2, o2, e1, e2, e3, e4⟩
    · exact .inl g2
    · exact .inr ⟨b2, o2, e1, by omega, e4⟩
theorem OwnM.rsI {L : Nat} {w : World} {v : Value} {os : List (Ru × Value)} (h : OwnM L w L v os) : ∃ a cap, v = .slice a os.length cap ∧ RsI L w.heap.size w a (os.map Prod.fst) ∧ os.length ≤ cap := by
  obtain ⟨a, cap, rfl, hcap, hs⟩ := h.src
  refine ⟨a, cap, rfl, ?_, hcap⟩
  rcases hs with hs | ⟨b, o, rfl, h2, h3⟩
  · exact .inl hs
  · by_cases e : os = []
    · subst e; exact .inl rfl
    · have hpos : 0 < os.length := List.length_pos_iff.2 e
      obtain ⟨g, c, e2⟩ := own_pos h.row hpos
      have hlt := h.row.lt g (by rw [e2]; rfl)
      injection e2 with e3 e4 e5
      injection e3 with e3
      injection e3 with e6 e7 e8
      subst e6
      exact .inr ⟨b, o, rfl, hlt.1, h2, h3⟩
/-- an entry's rules lie where its value says, behind G and apart from the row that v owns -/
def goodE (G : Nat) (w : World) (v : Value) (p : E × Value) : Prop := ∃ lo hi a cap, p.2 = .slice a p.1.rules.length cap ∧ RsI lo hi w a p.1.rules ∧ G < lo ∧ hi ≤ w.heap.size ∧ (∀ q, v.ownBlock = some q → q < lo ∨ hi ≤ q) ∧ p.1.rules.length ≤ cap
theorem goodE.far {G : Nat} {w w' : World} {v v' : Value} {p : E × Value} (h : goodE G w v p) (hs : w.heap.size ≤ w'.heap.size) (hb : ∀ q, G < q → q < w.heap.size → v.ownBlock ≠ some q → w'.heap[q]? = w.heap[q]?) (hv : ∀ q, v'.ownBlock = some q → v.ownBlock = some q ∨ w.heap.size ≤ q) : goodE G w' v' p := by
  obtain ⟨lo, hi, a, cap, h1, h2, h3, h4, h5, h6⟩ := h
  refine ⟨lo, hi, a, cap, h1, h2.far fun q hq hq2 => hb q (by omega) (by omega) fun e => ?_, h3, by omega, fun q hq => ?_, h6⟩
  · rcases h5 q e with g | g <;> omega
  · rcases hv q hq with g | g
    · exact h5 q g
    · right; omega
def entM (p : E × Value) : List Value := [.int .u32 p.1.arch, .int .u32 p.1.nr, p.2]
theorem em_next {G gg n cap : Nat} {w w9 w1 : World} {v : Value} {os : List (E × Value)} {p : E × Value} {o : Obj} {x : Value} (h : ∀ q ∈ os, goodE G w v q) (hb : Below w.heap.size w w9) (hp : goodE G w9 v p) (hg : (w9.alloc o).grownBy w1 v.ownBlock) (hat : v.ownBlock = some gg ∨ gg = w9.heap.size + 1) :
    ∀ q ∈ os ++ [p], goodE G (w1.setCell ⟨G, 0, none⟩ x) (.slice (some ⟨gg, 0, none⟩) n cap) q := by
  have key : ∀ q, goodE G w9 v q → goodE G (w1.setCell ⟨G, 0, none⟩ x) (.slice (some ⟨gg, 0, none⟩) n cap) q := by
    intro q hq
    have hsz : (w9.alloc o).heap.size = w9.heap.size + 1 := by simp
    refine hq.far ?_ (fun q hG hq2 hne => ?_) (fun q hq2 => ?_)
    · have := hg.size
      simp only [World.setCell, Array.size_modify]; omega
    · have e1 : (w1.setCell ⟨G, 0, none⟩ x).heap[q]? = w1.heap[q]? := by
        simp only [World.setCell, Array.getElem?_modify]; rw [if_neg (by omega)]
      have e2 := hg.block q (by omega) (fun e => hne e.symm)
      have e3 : (w9.alloc o).heap[q]? = w9.heap[q]? := ((Below.refl w9.heap.size w9).alloc (Nat.le_refl _) o).block q hq2
      rw [e1, e2, e3]
    · have e : gg = q := by simpa [Value.ownBlock] using hq2
      subst e
      rcases hat with g | g
      · exact .inl g
      · right; omega
  intro q hq
  rw [List.mem_append, List.mem_singleton] at hq
  rcases hq with hq | rfl
  · exact key q ((h q hq).far hb.size (fun q _ hq2 _ => hb.block q hq2) (fun q hq => .inl hq))
  · exact key _ hp
theorem entM_get (os : List (E × Value)) (i : Nat) (h : i < os.length) : (os.flatMap entM)[i * 3]? = some (.int .u32 os[i].1.arch) ∧ (os.flatMap entM)[i * 3 + 1]? = some (.int .u32 os[i].1.nr) ∧ (os.flatMap entM)[i * 3 + 2]? = some os[i].2 := by
  induction os generalizing i with
  | nil => simp at h
  | cons x p ih =>
    have e : (x :: p).flatMap entM = [.int .u32 x.1.arch, .int .u32 x.1.nr, x.2] ++ p.flatMap entM := by simp [entM]
    rw [e]
    match i with
    | 0 => simp
    | i + 1 =>
      have hi : i < p.length := by simpa using h
      have := ih i hi
      rw [List.getElem?_append_right (by simp; omega), List.getElem?_append_right (by simp; omega), List.getElem?_append_right (by simp; omega)]
      simp only [List.length_cons, List.length_nil]
      rw [show (i + 1) * 3 - (0 + 1 + 1 + 1) = i * 3 by omega, show (i + 1) * 3 + 1 - (0 + 1 + 1 + 1) = i * 3 + 1 by omega, show (i + 1) * 3 + 2 - (0 + 1 + 1 + 1) = i * 3 + 2 by omega]
      simpa using this
theorem ents_src {G B n : Nat} {w : World} {v : Value} {os : List (E × Value)} (h : w.ownsRow B 76 3 v n (os.flatMap entM)) (hn : n = os.length) (hg : ∀ p ∈ os, goodE G w v p) : ∃ a cap, v = .slice a n cap ∧ LSrc 3 PEC w a (os.map Prod.fst) ∧ n ≤ cap := by
  have h0 := h
  obtain ⟨_, ⟨rfl, rfl⟩ | ⟨g, cap, cur, rfl, hb, hgc, hncap, hm⟩⟩ := h
  · have : os = [] := List.eq_nil_of_length_eq_zero hn.symm
    subst this
    exact ⟨none, 0, rfl, .inl rfl, Nat.le_refl _⟩
  · refine ⟨_, _, rfl, .inr ⟨g, 0, rfl, (Array.getElem?_eq_some_iff.1 hgc).1, fun i hi => ?_⟩, hncap⟩
    have hi' : i < os.length := by simpa using hi
    obtain ⟨c0, c1, c2⟩ := entM_get os i hi'
    have key := fun j (hj : j < n * 3) => World.ownsRow.cellAt h0 j hj
    obtain ⟨lo, hi2, a, cap2, e1, e2, e3, e4, e5, e6⟩ := hg _ (List.getElem_mem hi')
    have e : (os.map Prod.fst)[i] = os[i].1 := by simp
    rw [e, Nat.zero_add]
    refine ⟨(key _ (by omega)).trans c0, (key _ (by omega)).trans c1, a, cap2, ?_, e6, e2.plain e4⟩
    rw [key _ (by omega), c2]
    exact congrArg some e1
def MnTo (p out : List E) (k : Nat) : Prop := out.length = k ∧ ∀ i, i < k → (out.getD i E.zero).arch = (p.getD i E.zero).arch ∧ (out.getD i E.zero).nr = (p.getD i E.zero).nr ∧ IsSmall (p.getD i E.zero).rules (out.getD i E.zero).rules
theorem MnTo.next {p out : List E} {k : Nat} {e : E} (h : MnTo p out k) (h1 : e.arch = (p.getD k E.zero).arch) (h2 : e.nr = (p.getD k E.zero).nr) (hs : IsSmall (p.getD k E.zero).rules e.rules) : MnTo p (out ++ [e]) (k + 1) := by
  refine ⟨by simp [h.1], fun i hi => ?_⟩
  by_cases g : i = k
  · subst g
    have e2 : (out ++ [e]).getD i E.zero = e := by
      rw [List.getD_eq_getElem?_getD, List.getElem?_append_right (by rw [h.1]; exact Nat.le_refl _), h.1]; simp
    rw [e2]; exact ⟨h1, h2, hs⟩
  · have e2 : (out ++ [e]).getD i E.zero = out.getD i E.zero := by
      rw [List.getD_eq_getElem?_getD, List.getElem?_append_left (by rw [h.1]; omega), List.getD_eq_getElem?_getD]
    rw [e2]; exact h.2 i (by omega)
theorem infoEntM : (Tryz.prog.info? 76).map (fun i => (i.zero, i.size, i.bytes)) = some (some (.agg #[.int .u32 0, .int .u32 0, .slice none 0 0]), 3, 32) := by kernel_rfl
def SpecMinPost (p : List E) (w : World) (e : Ending) (w' : World) : Prop := ∃ a cap out, IsMin p out ∧ e = .returned (.agg #[.slice a out.length cap]) ∧ LSrc 3 PE w' a out ∧ Below w.heap.size w w' ∧ LSrc 3 PEC w' a out ∧ out.length ≤ cap

end Go.Proofs.YtljhccolmcoifaaGreat
namespace Go.Proofs.YtljhccolmcoifaaGreat
open Go.RowKit
set_option linter.unusedVariables false

end Go.Proofs.YtljhccolmcoifaaGreat
namespace Go.Proofs.YtljhccolmcoifaaGreat
open Go.RowKit
set_option linter.unusedVariables false

/-! what Minimise answers -/
def RelMin (p out : List E) : Prop := (validP p = true ∧ IsMin p out) ∨ (validP p = false ∧ out = [])
theorem RelMin.uniq {p out out' : List E} (h : RelMin p out) (h' : RelMin p out') : out = out' := by
  rcases h with ⟨h1, h2⟩ | ⟨h1, h2⟩ <;> rcases h' with ⟨k1, k2⟩ | ⟨k1, k2⟩
  · exact h2.uniq k2
  · rw [h1] at k1; cases k1
  · rw [h1] at k1; cases k1
  · rw [h2, k2]
theorem len_total {p : List E} (h : ∀ i, i < p.length → 1 ≤ (p.getD i E.zero).rules.length) : p.length ≤ totalR p := by
  induction p with
  | nil => simp [totalR]
  | cons e p ih =>
    have h0 := h 0 (by simp)
    have := ih (fun i hi => by have := h (i + 1) (by simpa using hi); simpa using this)
    simp only [List.length_cons, totalR]
    simp at h0
    omega
theorem valid_len {p : List E} (h : validP p = true) : p.length ≤ 1000 := by
  have h1 := len_total (p := p) fun i hi => (validE_parts (validP_parts h hi).1).1
  unfold validP at h
  simp only [Bool.and_eq_true, decide_eq_true_eq] at h
  omega
theorem RelMin.bounds {p out : List E} (ho : okP p) (h : RelMin p out) : out.length ≤ 1000 ∧ ∀ e ∈ out, e.rules.length ≤ 200 ∧ ∀ r ∈ e.rules, r.length = 6 := by
  rcases h with ⟨h1, h2⟩ | ⟨h1, rfl⟩
  · have f := h2.facts h1 ho
    refine ⟨valid_len f.valid, fun e he => ?_⟩
    obtain ⟨i, hi, rfl⟩ := List.getElem_of_mem he
    have e1 : out.getD i E.zero = out[i] := by rw [List.getD_eq_getElem?_getD, List.getElem?_eq_getElem hi]; rfl
    have h1 := validE_parts (validP_parts f.valid hi).1
    rw [e1] at h1
    exact ⟨h1.2.1, fun r hr => (vr_of ((f.ok _ he).2.2 r hr) (h1.2.2 r hr)).1⟩
  · exact ⟨by simp, by simp⟩
/-- the answer's own memory: from block lo to block hi -/
def GOwn (D D' : Nat) (w : World) (a : Option Addr) (c : Nat) (out : List E) : Prop := out = [] ∨ ∃ rv lo hi gb, OwnPs w D D (.slice a out.length c) out rv lo hi gb ∧ gb < D' ∧ ∀ i, i < out.length → hi i ≤ D'
theorem GOwn.far {D D' : Nat} {w w1 : World} {a : Option Addr} {c : Nat} {out : List E} (h : GOwn D D' w a c out) (hs : w.heap.size ≤ w1.heap.size) (hb : ∀ q, D ≤ q → q < D' → w1.heap[q]? = w.heap[q]?) : GOwn D D' w1 a c out := by
  rcases h with h | ⟨rv, lo, hi, gb, h1, h2, h3⟩
  · exact .inl h
  · have hg := h1.row.lt gb h1.ob
    refine .inr ⟨rv, lo, hi, gb, ⟨row_blockK h1.row (fun q hq => by rw [h1.ob] at hq; cases hq; exact hb _ hg.1 h2), h1.ob, fun i hi' => (h1.own i hi').far (fun k a b => hb k (by have := (h1.lt i hi').1; omega) (by have := h3 i hi'; omega)), fun i hi' => ⟨(h1.lt i hi').1, Nat.le_trans (h1.lt i hi').2 hs⟩, h1.out, h1.inc⟩, h2, h3⟩
theorem GOwn.keep {D D' : Nat} {w w1 : World} {a : Option Addr} {c : Nat} {out : List E} (h : GOwn D D' w a c out) (hD : D' ≤ w.heap.size) (hb : Below w.heap.size w w1) : GOwn D D' w1 a c out := h.far hb.size fun q _ hq => hb.block q (by omega)
theorem GOwn.read {D D' : Nat} {w : World} {a : Option Addr} {c : Nat} {out : List E} (h : GOwn D D' w a c out) (hn : out.length ≤ 1000) (hm : ∀ e ∈ out, e.rules.length ≤ 200 ∧ ∀ r ∈ e.rules, r.length = 6) : LSrc 3 PE w a out ∧ ∃ A, SE w a out.length A ∧ (A.map Prod.fst).Nodup ∧ (∀ x ∈ A, D ≤ x.1.block ∧ x.1.block < D') ∧ A.length ≤ 4000000 := by
  rcases h with rfl | ⟨rv, lo, hi, gb, h1, h2, h3⟩
  · exact ⟨.inl rfl, [], ⟨by simp, .inl ⟨rfl, rfl⟩⟩, by simp, by simp, by simp⟩
  · obtain ⟨a', cap, A, e, g1, g2, g3, g4, g5⟩ := ownPs_se h1 hn hm
    cases e
    refine ⟨g5, A, g1, g2, fun x hx => ?_, g4⟩
    rcases g3 x hx with q | ⟨i, q1, q2, q3⟩
    · rw [q]; exact ⟨(h1.row.lt gb h1.ob).1, h2⟩
    · have := (h1.lt i q1).1
      have := h3 i q1
      exact ⟨by omega, by omega⟩
def SpecM (p : List E) (w : World) (e : Ending) (w' : World) : Prop := ∃ a cap out, RelMin p out ∧ e = .returned (.agg #[.slice a out.length cap]) ∧ LSrc 3 PE w' a out ∧ Below w.heap.size w w'
def ImplM (p : List E) (w : World) (e : Ending) (w' : World) : Prop := ∃ a cap out, RelMin p out ∧ e = .returned (.agg #[.slice a out.length cap]) ∧ GOwn w.heap.size w'.heap.size w' a cap out ∧ Below w.heap.size w w'
end Go.Proofs.YtljhccolmcoifaaGreat
