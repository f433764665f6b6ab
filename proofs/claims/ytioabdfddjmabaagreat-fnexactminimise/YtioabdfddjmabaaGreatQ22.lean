/-
  MinM
-/
import Derived.Test.YtioabdfddjmabaaGreatQ21
namespace Go.Proofs.YtioabdfddjmabaaGreat
open Go.RowKit
set_option linter.unusedVariables false

/-- rules whose rows all lie from block lo to block hi -/
def PRI (lo hi : Nat) (w : World) (b o : Nat) (r : List K) : Prop := ∃ a cap, w.cell? ⟨b, o, none⟩ = some (.slice a r.length cap) ∧ (r = [] ∨ ∃ b2 o2, a = some ⟨b2, o2, none⟩ ∧ lo ≤ b2 ∧ b2 < hi ∧ LAt 3 PK w b2 o2 r)
def RsI (lo hi : Nat) (w : World) (a : Option Addr) (l : List Ru) : Prop := l = [] ∨ ∃ b o, a = some ⟨b, o, none⟩ ∧ lo ≤ b ∧ b < hi ∧ LAt 1 (PRI lo hi) w b o l
theorem RsI.far {lo hi : Nat} {w w' : World} {a : Option Addr} {l : List Ru} (h : RsI lo hi w a l) (hb : ∀ q, lo ≤ q → q < hi → w'.heap[q]? = w.heap[q]?) : RsI lo hi w' a l := by
  rcases h with h | ⟨b, o, h1, h2, h3, h4⟩
  · exact .inl h
  · refine .inr ⟨b, o, h1, h2, h3, fun i hi => ?_⟩
    obtain ⟨a2, cap2, g1, g2⟩ := h4 i hi
    refine ⟨a2, cap2, by simp only [World.cell?, hb b h2 h3] at g1 ⊢; exact g1, ?_⟩
    rcases g2 with g2 | ⟨b2, o2, e1, e2, e3, e4⟩
    · exact .inl g2
    · exact .inr ⟨b2, o2, e1, e2, e3, e4.blk (hb b2 e2 e3)⟩
theorem RsI.plain {lo hi : Nat} {w : World} {a : Option Addr} {l : List Ru} (h : RsI lo hi w a l) (hs : hi ≤ w.heap.size) : LSrc 1 PR w a l := by
  rcases h with h | ⟨b, o, h1, h2, h3, h4⟩
  · exact .inl h
  · refine .inr ⟨b, o, h1, by omega, fun i hi => ?_⟩
    obtain ⟨a2, cap2, g1, g2⟩ := h4 i hi
    refine ⟨a2, cap2, g1, ?_⟩
    rcases g2 with g2 | ⟨b2, o2, e1, e2, e3, e4⟩
    · exact .inl g2
    · exact .inr ⟨b2, o2, e1, by omega, e4⟩
theorem OwnM.rsI {L : Nat} {w : World} {v : Value} {os : List (Ru × Value)} (h : OwnM L w L v os) : ∃ a cap, v = .slice a os.length cap ∧ RsI L w.heap.size w a (os.map Prod.fst) := by
  obtain ⟨a, cap, rfl, _, hs⟩ := h.src
  refine ⟨a, cap, rfl, ?_⟩
  rcases hs with hs | ⟨b, o, rfl, h2, h3⟩
  · exact .inl hs
  · by_cases e : os = []
    · subst e; exact .inl rfl
    · have hpos : 0 < os.length := List.length_pos_iff.2 e
      obtain ⟨g, c, e2⟩ := own_pos h.row hpos
      have hlt := h.row.lt g (by rw [e2]; rfl)
      injection e2 with e3 e4 e5
      injection e3 with e3
      injection e3 with e6 e7 e8
      subst e6
      exact .inr ⟨b, o, rfl, hlt.1, h2, h3⟩
/-- an entry's rules lie where its value says, behind G and apart from the row that v owns -/
def goodE (G : Nat) (w : World) (v : Value) (p : E × Value) : Prop := ∃ lo hi a cap, p.2 = .slice a p.1.rules.length cap ∧ RsI lo hi w a p.1.rules ∧ G < lo ∧ hi ≤ w.heap.size ∧ ∀ q, v.ownBlock = some q → q < lo ∨ hi ≤ q
theorem goodE.far {G : Nat} {w w' : World} {v v' : Value} {p : E × Value} (h : goodE G w v p) (hs : w.heap.size ≤ w'.heap.size) (hb : ∀ q, G < q → q < w.heap.size → v.ownBlock ≠ some q → w'.heap[q]? = w.heap[q]?) (hv : ∀ q, v'.ownBlock = some q → v.ownBlock = some q ∨ w.heap.size ≤ q) : goodE G w' v' p := by
  obtain ⟨lo, hi, a, cap, h1, h2, h3, h4, h5⟩ := h
  refine ⟨lo, hi, a, cap, h1, h2.far fun q hq hq2 => hb q (by omega) (by omega) fun e => ?_, h3, by omega, fun q hq => ?_⟩
  · rcases h5 q e with g | g <;> omega
  · rcases hv q hq with g | g
    · exact h5 q g
    · right; omega
def entM (p : E × Value) : List Value := [.int .u32 p.1.arch, .int .u32 p.1.nr, p.2]
theorem em_next {G gg n cap : Nat} {w w9 w1 : World} {v : Value} {os : List (E × Value)} {p : E × Value} {o : Obj} {x : Value} (h : ∀ q ∈ os, goodE G w v q) (hb : Below w.heap.size w w9) (hp : goodE G w9 v p) (hg : (w9.alloc o).grownBy w1 v.ownBlock) (hat : v.ownBlock = some gg ∨ gg = w9.heap.size + 1) :
    ∀ q ∈ os ++ [p], goodE G (w1.setCell ⟨G, 0, none⟩ x) (.slice (some ⟨gg, 0, none⟩) n cap) q := by
  have key : ∀ q, goodE G w9 v q → goodE G (w1.setCell ⟨G, 0, none⟩ x) (.slice (some ⟨gg, 0, none⟩) n cap) q := by
    intro q hq
    have hsz : (w9.alloc o).heap.size = w9.heap.size + 1 := by simp
    refine hq.far ?_ (fun q hG hq2 hne => ?_) (fun q hq2 => ?_)
    · have := hg.size
      simp only [World.setCell, Array.size_modify]; omega
    · have e1 : (w1.setCell ⟨G, 0, none⟩ x).heap[q]? = w1.heap[q]? := by
        simp only [World.setCell, Array.getElem?_modify]; rw [if_neg (by omega)]
      have e2 := hg.block q (by omega) (fun e => hne e.symm)
      have e3 : (w9.alloc o).heap[q]? = w9.heap[q]? := ((Below.refl w9.heap.size w9).alloc (Nat.le_refl _) o).block q hq2
      rw [e1, e2, e3]
    · have e : gg = q := by simpa [Value.ownBlock] using hq2
      subst e
      rcases hat with g | g
      · exact .inl g
      · right; omega
  intro q hq
  rw [List.mem_append, List.mem_singleton] at hq
  rcases hq with hq | rfl
  · exact key q ((h q hq).far hb.size (fun q _ hq2 _ => hb.block q hq2) (fun q hq => .inl hq))
  · exact key _ hp
theorem entM_get (os : List (E × Value)) (i : Nat) (h : i < os.length) : (os.flatMap entM)[i * 3]? = some (.int .u32 os[i].1.arch) ∧ (os.flatMap entM)[i * 3 + 1]? = some (.int .u32 os[i].1.nr) ∧ (os.flatMap entM)[i * 3 + 2]? = some os[i].2 := by
  induction os generalizing i with
  | nil => simp at h
  | cons x p ih =>
    have e : (x :: p).flatMap entM = [.int .u32 x.1.arch, .int .u32 x.1.nr, x.2] ++ p.flatMap entM := by simp [entM]
    rw [e]
    match i with
    | 0 => simp
    | i + 1 =>
      have hi : i < p.length := by simpa using h
      have := ih i hi
      rw [List.getElem?_append_right (by simp; omega), List.getElem?_append_right (by simp; omega), List.getElem?_append_right (by simp; omega)]
      simp only [List.length_cons, List.length_nil]
      rw [show (i + 1) * 3 - (0 + 1 + 1 + 1) = i * 3 by omega, show (i + 1) * 3 + 1 - (0 + 1 + 1 + 1) = i * 3 + 1 by omega, show (i + 1) * 3 + 2 - (0 + 1 + 1 + 1) = i * 3 + 2 by omega]
      simpa using this
theorem ents_src {G B n : Nat} {w : World} {v : Value} {os : List (E × Value)} (h : w.ownsRow B 37 3 v n (os.flatMap entM)) (hn : n = os.length) (hg : ∀ p ∈ os, goodE G w v p) : ∃ a cap, v = .slice a n cap ∧ LSrc 3 PE w a (os.map Prod.fst) := by
  have h0 := h
  obtain ⟨_, ⟨rfl, rfl⟩ | ⟨g, cap, cur, rfl, hb, hgc, hm⟩⟩ := h
  · have : os = [] := List.eq_nil_of_length_eq_zero hn.symm
    subst this
    exact ⟨none, 0, rfl, .inl rfl⟩
  · refine ⟨_, _, rfl, .inr ⟨g, 0, rfl, (Array.getElem?_eq_some_iff.1 hgc).1, fun i hi => ?_⟩⟩
    have hi' : i < os.length := by simpa using hi
    obtain ⟨c0, c1, c2⟩ := entM_get os i hi'
    have key := fun j (hj : j < n * 3) => World.ownsRow.cellAt h0 j hj
    obtain ⟨lo, hi2, a, cap2, e1, e2, e3, e4, e5⟩ := hg _ (List.getElem_mem hi')
    have e : (os.map Prod.fst)[i] = os[i].1 := by simp
    rw [e, Nat.zero_add]
    refine ⟨(key _ (by omega)).trans c0, (key _ (by omega)).trans c1, a, cap2, ?_, e2.plain e4⟩
    rw [key _ (by omega), c2]
    exact congrArg some e1
def MnTo (p out : List E) (k : Nat) : Prop := out.length = k ∧ ∀ i, i < k → (out.getD i E.zero).arch = (p.getD i E.zero).arch ∧ (out.getD i E.zero).nr = (p.getD i E.zero).nr ∧ IsSmall (p.getD i E.zero).rules (out.getD i E.zero).rules
theorem MnTo.next {p out : List E} {k : Nat} {e : E} (h : MnTo p out k) (h1 : e.arch = (p.getD k E.zero).arch) (h2 : e.nr = (p.getD k E.zero).nr) (hs : IsSmall (p.getD k E.zero).rules e.rules) : MnTo p (out ++ [e]) (k + 1) := by
  refine ⟨by simp [h.1], fun i hi => ?_⟩
  by_cases g : i = k
  · subst g
    have e2 : (out ++ [e]).getD i E.zero = e := by
      rw [List.getD_eq_getElem?_getD, List.getElem?_append_right (by rw [h.1]; exact Nat.le_refl _), h.1]; simp
    rw [e2]; exact ⟨h1, h2, hs⟩
  · have e2 : (out ++ [e]).getD i E.zero = out.getD i E.zero := by
      rw [List.getD_eq_getElem?_getD, List.getElem?_append_left (by rw [h.1]; omega), List.getD_eq_getElem?_getD]
    rw [e2]; exact h.2 i (by omega)
theorem infoEntM : (Tryz.prog.info? 37).map (fun i => (i.zero, i.size, i.bytes)) = some (some (.agg #[.int .u32 0, .int .u32 0, .slice none 0 0]), 3, 32) := by kernel_rfl
def SpecMinPost (p : List E) (w : World) (e : Ending) (w' : World) : Prop := ∃ a cap out, IsMin p out ∧ e = .returned (.agg #[.slice a out.length cap]) ∧ LSrc 3 PE w' a out ∧ Below w.heap.size w w'

set_option maxRecDepth 100000 in
set_option maxHeartbeats 2000000 in
theorem specMin_no (p : List E) (a : Option Addr) (cap : Nat) (w : World) (hs : LSrc 3 PE w a p) (ho : okP p) (hv : validP p = false) (hn : p.length ≤ 16777216) (hm : ∀ e ∈ p, e.rules.length ≤ 16777216) (hm2 : ∀ e ∈ p, ∀ r ∈ e.rules, r.length ≤ 16777216) :
    Calls Tryz.prog 12 #[.agg #[.slice a p.length cap]] w fun e w' => e = .returned (.agg #[.slice none 0 0]) ∧ Below w.heap.size w w' := by
  have HV : Hid (∀ w1, Below w.heap.size w w1 → Calls Tryz.prog 6 #[.agg #[.slice a p.length cap]] w1 fun e w' => e = .returned (.bool false) ∧ Below w1.heap.size w1 w') := fun w1 hb => by
    have := specValidP_any p a cap w1 (hs.below PE.stays hb) ho hn hm hm2
    rw [hv] at this; exact this
  have B2 : Below w.heap.size w ((w.alloc (.cells #[.slice a p.length cap] 25)).alloc (.cells #[.slice none 0 0] 25)) := ((Below.refl _ _).alloc (Nat.le_refl _) _).alloc (by simp) _
  have q0 := box1 (w.alloc (.cells #[.slice a p.length cap] 25)) 25 (.slice none 0 0)
  have q2 : ((w.alloc (.cells #[.slice a p.length cap] 25)).alloc (.cells #[.slice none 0 0] 25)).frozen? ⟨(w.alloc (.cells #[.slice a p.length cap] 25)).heap.size, 0, none⟩ = false := by simp
  rw [show (w.alloc (.cells #[.slice a p.length cap] 25)).heap.size = w.heap.size + 1 by simp] at q0 q2
  have q1 : ((w.alloc (.cells #[.slice a p.length cap] 25)).alloc (.cells #[.slice none 0 0] 25)).cell? ⟨w.heap.size, 0, none⟩ = some (.slice a p.length cap) := cell_step ((Below.refl _ _).alloc (Nat.le_refl _) _) (box1 w 25 (.slice a p.length cap))
  clear hs ho hv hm hm2
  generalize p.length = n at *
  go_enter Tryz.func12, Tryz.ntmps12
  go_wp2_with fail
  generalize (w.alloc (.cells #[.slice a n cap] 25)).alloc (.cells #[.slice none 0 0] 25) = W2 at *
  refine (HV.out W2 B2).mono ?_
  rintro _ w1 ⟨rfl, hb1⟩
  have B1 := below_step hb1 B2
  have c0 := cell_step hb1 q0
  have f0 : w1.frozen? ⟨w.heap.size + 1, 0, none⟩ = false := (hb1.frozen (p := ⟨w.heap.size + 1, 0, none⟩) (cell_ltM q0)).trans q2
  clear q0 q1 q2 hb1 B2 HV
  go_wp2
  exact bodyPost_ret (v := .agg #[.slice none 0 0]) (by simp [results, Tryz.results12, go_sem, c0]) rfl ⟨rfl, B1.setCell (p := ⟨w.heap.size + 1, 0, none⟩) (show w.heap.size ≤ w.heap.size + 1 by omega) _⟩
end Go.Proofs.YtioabdfddjmabaaGreat
