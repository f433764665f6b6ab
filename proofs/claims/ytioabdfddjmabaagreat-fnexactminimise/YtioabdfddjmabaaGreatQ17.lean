/-
  MinU, MathI
-/
import Derived.Test.YtioabdfddjmabaaGreatQ15
import Derived.Test.YtioabdfddjmabaaGreatQ10
import Derived.Deep.AppendLies
import Derived.Deep.Onto
import Derived.Test.YtioabdfddjmabaaGreatQ07
namespace Go.Proofs.YtioabdfddjmabaaGreat
open Go.RowKit
set_option linter.unusedVariables false

variable {L : Nat}
/-- a rule whose conditions lie from block L on -/
def PRL (L : Nat) (w : World) (b o : Nat) (r : List K) : Prop := ∃ a cap, w.cell? ⟨b, o, none⟩ = some (.slice a r.length cap) ∧ (r = [] ∨ ∃ b2 o2, a = some ⟨b2, o2, none⟩ ∧ L ≤ b2 ∧ b2 < w.heap.size ∧ LAt 3 PK w b2 o2 r)
theorem PRL.stays (L : Nat) : Stays (PRL L) := fun w w' b o x hlt hb ⟨a, cap, h0, h1⟩ => ⟨a, cap, (hb.cell (p := ⟨b, _, none⟩) hlt).trans h0, by
  rcases h1 with h1 | ⟨b2, o2, e, h2, h3, h4⟩
  · exact .inl h1
  · exact .inr ⟨b2, o2, e, h2, Nat.lt_of_lt_of_le h3 hb.size, h4.below PK.stays h3 hb⟩⟩
theorem PRL.plain {w : World} {b o : Nat} {r : List K} (h : PRL L w b o r) : PR w b o r := by
  obtain ⟨a, cap, h0, h1⟩ := h
  refine ⟨a, cap, h0, ?_⟩
  rcases h1 with h1 | ⟨b2, o2, e, h2, h3, h4⟩
  · exact .inl h1
  · exact .inr ⟨b2, o2, e, h3, h4⟩
theorem PR.toL {w : World} {b o : Nat} {r : List K} (h : PR w b o r) : PRL 0 w b o r := by
  obtain ⟨a, cap, h0, h1⟩ := h
  refine ⟨a, cap, h0, ?_⟩
  rcases h1 with h1 | ⟨b2, o2, e, h3, h4⟩
  · exact .inl h1
  · exact .inr ⟨b2, o2, e, Nat.zero_le _, h3, h4⟩
theorem lsrc_map {w : World} {a : Option Addr} {l : List (List K)} {P Q : World → Nat → Nat → List K → Prop} (h : LSrc 1 P w a l) (hPQ : ∀ b o x, P w b o x → Q w b o x) : LSrc 1 Q w a l := by
  rcases h with h | ⟨b, o, h1, h2, h3⟩
  · exact .inl h
  · exact .inr ⟨b, o, h1, h2, fun i hi => hPQ _ _ _ (h3 i hi)⟩
/-- a rule's conditions lie where its value says, apart from the row that v owns -/
def goodN (L : Nat) (w : World) (v : Value) (p : Ru × Value) : Prop := ∃ b o cap, p.2 = .slice (some ⟨b, o, none⟩) 6 cap ∧ p.1.length = 6 ∧ v.ownBlock ≠ some b ∧ b < w.heap.size ∧ LAt 3 PK w b o p.1 ∧ L ≤ b
structure OwnM (L : Nat) (w : World) (B : Nat) (v : Value) (os : List (Ru × Value)) : Prop where
  row : w.ownsRow B 44 1 v os.length (os.map Prod.snd)
  el : ∀ p ∈ os, goodN L w v p
theorem infoRuleM : (Tryz.prog.info? 44).map (fun i => (i.zero, i.size, i.bytes)) = some (some (.agg #[.slice none 0 0]), 1, 24) := by kernel_rfl
theorem OwnM.nil (w : World) (B : Nat) : OwnM L w B (.slice none 0 0) [] := ⟨World.ownsRow_nil _ _ _ _, by simp⟩
theorem goodN.below {w w1 : World} {v : Value} {p : Ru × Value} (h : goodN L w v p) (hb : Below w.heap.size w w1) : goodN L w1 v p := by
  obtain ⟨b, o, cap, h1, h2, h3, h4, h5⟩ := h
  exact ⟨b, o, cap, h1, h2, h3, Nat.lt_of_lt_of_le h4 hb.size, h5.1.below PK.stays h4 hb, h5.2⟩
theorem OwnM.below {w w1 : World} {B : Nat} {v : Value} {os : List (Ru × Value)} (h : OwnM L w B v os) (hb : Below w.heap.size w w1) : OwnM L w1 B v os :=
  ⟨World.ownsRow.kept (row := none) h.row ⟨hb.os, hb.tape, hb.output, hb.size, fun k hk _ => hb.block k hk⟩ (by cases v.ownBlock <;> simp), fun p hp => (h.el p hp).below hb⟩
theorem PK.blk {w w1 : World} {b o : Nat} {c : K} (h : PK w b o c) (e : w1.heap[b]? = w.heap[b]?) : PK w1 b o c := by
  have key : ∀ i, w1.cell? ⟨b, i, none⟩ = w.cell? ⟨b, i, none⟩ := fun i => by simp only [World.cell?, e]
  exact ⟨(key _).trans h.1, (key _).trans h.2.1, (key _).trans h.2.2⟩
theorem LAt.blk {w w1 : World} {b o : Nat} {l : List K} (h : LAt 3 PK w b o l) (e : w1.heap[b]? = w.heap[b]?) : LAt 3 PK w1 b o l := fun i hi => (h i hi).blk e
theorem OwnM.next {w w1 : World} {B : Nat} {v : Value} {os : List (Ru × Value)} {p : Ru × Value} {gg cap n : Nat} {o : Obj} (h : OwnM L w B v os) (hp : goodN L w v p) (hn : n = os.length + 1)
    (hown : w1.ownsRow B 44 1 (.slice (some ⟨gg, 0, none⟩) n cap) n (os.map Prod.snd ++ [p.2])) (hg : (w.alloc o).grownBy w1 v.ownBlock) (hat : v.ownBlock = some gg ∨ gg = w.heap.size + 1) :
    OwnM L w1 B (.slice (some ⟨gg, 0, none⟩) n cap) (os ++ [p]) := by
  subst hn
  have hsz : (w.alloc o).heap.size = w.heap.size + 1 := by simp
  have key : ∀ q, goodN L w v q → goodN L w1 (.slice (some ⟨gg, 0, none⟩) (os.length + 1) cap) q := by
    rintro q ⟨b, o2, cap2, h1, h2, h3, h4, h5⟩
    have hb2 : Below w.heap.size w (w.alloc o) := (Below.refl _ _).alloc (Nat.le_refl _) o
    have hlt : b < (w.alloc o).heap.size := by omega
    refine ⟨b, o2, cap2, h1, h2, ?_, Nat.lt_of_lt_of_le hlt hg.size, (h5.1.below PK.stays h4 hb2).blk (hg.block b hlt (fun e => h3 e.symm)), h5.2⟩
    intro e
    have e' : gg = b := by simpa [Value.ownBlock] using e
    rcases hat with q | q
    · rw [e'] at q; exact h3 q
    · omega
  refine ⟨by simpa using hown, fun q hq => ?_⟩
  rw [List.mem_append, List.mem_singleton] at hq
  rcases hq with hq | rfl
  · exact key q (h.el q hq)
  · exact key _ hp
theorem OwnM.src {w : World} {B : Nat} {v : Value} {os : List (Ru × Value)} (h : OwnM L w B v os) : ∃ a cap, v = .slice a os.length cap ∧ os.length ≤ cap ∧ LSrc 1 (PRL L) w a (os.map Prod.fst) := by
  obtain ⟨hr, hg⟩ := h
  have hr0 := hr
  obtain ⟨h0, h | ⟨g, cap, cur, rfl, hb, hgc, hn, hm, hs, hx⟩⟩ := hr
  · obtain ⟨rfl, hl⟩ := h
    have : os = [] := List.eq_nil_of_length_eq_zero hl
    subst this
    exact ⟨none, 0, rfl, Nat.le_refl _, .inl rfl⟩
  · refine ⟨_, _, rfl, hn, .inr ⟨g, 0, rfl, (Array.getElem?_eq_some_iff.1 hgc).1, fun i hi => ?_⟩⟩
    have hi' : i < os.length := by simpa using hi
    have c0 := World.ownsRow.cellAt hr0 i (by omega)
    rw [List.getElem?_map, List.getElem?_eq_getElem hi'] at c0
    obtain ⟨b, o, cap2, h1, h2, h3, h4, h5⟩ := hg _ (List.getElem_mem hi')
    have e : (os.map Prod.fst)[i] = os[i].1 := by simp
    rw [e]
    refine ⟨some ⟨b, o, none⟩, cap2, ?_, .inr ⟨b, o, rfl, h5.2, h4, h5.1⟩⟩
    rw [Nat.mul_one, Nat.zero_add, c0, h2]
    exact congrArg some h1
/-- what is read of a list is good for a row in new memory -/
theorem PR.good {w : World} {b o : Nat} {r : Ru} {v : Value} (h : PRL L w b o r) (h6 : r.length = 6) (hv : ∀ q, v.ownBlock = some q → w.heap.size ≤ q) : ∃ x, w.cell? ⟨b, o, none⟩ = some x ∧ goodN L w v (r, x) := by
  obtain ⟨a, cap, h1, h2⟩ := h
  rcases h2 with e | ⟨b2, o2, rfl, hL, h3, h4⟩
  · rw [e] at h6; simp at h6
  rw [h6] at h1
  exact ⟨_, h1, b2, o2, cap, rfl, h6, fun e => by have := hv b2 e; omega, h3, h4, hL⟩
theorem OwnM.put {w : World} {B g n cap i : Nat} {os : List (Ru × Value)} {p : Ru × Value} (h : OwnM L w B (.slice (some ⟨g, 0, none⟩) n cap) os) (hn : n = os.length) (hp : goodN L w (.slice (some ⟨g, 0, none⟩) n cap) p) : OwnM L (w.setCell ⟨g, i, none⟩ p.2) B (.slice (some ⟨g, 0, none⟩) n cap) (os.set i p) := by
  subst hn
  have h1 := (World.ownsRow.stored h.row i p.2).1
  have key : ∀ q, goodN L w (.slice (some ⟨g, 0, none⟩) os.length cap) q → goodN L (w.setCell ⟨g, i, none⟩ p.2) (.slice (some ⟨g, 0, none⟩) os.length cap) q := by
    rintro q ⟨b, o2, cap2, h1, h2, h3, h4, h5⟩
    refine ⟨b, o2, cap2, h1, h2, h3, by simpa using h4, h5.1.blk ?_, h5.2⟩
    have hne : g ≠ b := fun e => h3 (by rw [e]; rfl)
    simp only [World.setCell, Array.getElem?_modify]; rw [if_neg hne]
  refine ⟨by rw [List.map_set, List.length_set]; exact h1, fun q hq => ?_⟩
  rcases List.mem_or_eq_of_mem_set hq with hq | rfl
  · exact key q (h.el q hq)
  · exact key _ hp
end Go.Proofs.YtioabdfddjmabaaGreat
namespace Go.Proofs.YtioabdfddjmabaaGreat
set_option linter.unusedVariables false

/-- where the first k conditions differ: nowhere, or at just one place -/
def DiffU (r s : Ru) (k : Nat) (at0 : Int) : Prop :=
  (at0 = -1 ∧ ∀ j, j < k → r.getD j K.zero = s.getD j K.zero) ∨ ∃ p : Nat, p < k ∧ at0 = p ∧ r.getD p K.zero ≠ s.getD p K.zero ∧ ∀ j, j < k → j ≠ p → r.getD j K.zero = s.getD j K.zero
theorem DiffU.zero (r s : Ru) : DiffU r s 0 (-1) := .inl ⟨rfl, fun j hj => by omega⟩
theorem DiffU.cases {r s : Ru} {k : Nat} {a : Int} (h : DiffU r s k a) : a = -1 ∨ ∃ p : Nat, a = p ∧ p < k := by
  rcases h with ⟨h, _⟩ | ⟨p, h1, h2, _⟩
  · exact .inl h
  · exact .inr ⟨p, h2, h1⟩
theorem DiffU.same {r s : Ru} {k : Nat} {a : Int} (h : DiffU r s k a) (e : r.getD k K.zero = s.getD k K.zero) : DiffU r s (k + 1) a := by
  rcases h with ⟨h1, h2⟩ | ⟨p, h1, h2, h3, h4⟩
  · refine .inl ⟨h1, fun j hj => ?_⟩
    by_cases g : j = k
    · rw [g]; exact e
    · exact h2 j (by omega)
  · refine .inr ⟨p, by omega, h2, h3, fun j hj hne => ?_⟩
    by_cases g : j = k
    · rw [g]; exact e
    · exact h4 j (by omega) hne
theorem DiffU.here {r s : Ru} {k : Nat} (h : DiffU r s k (-1)) (e : r.getD k K.zero ≠ s.getD k K.zero) : DiffU r s (k + 1) k := by
  rcases h with ⟨h1, h2⟩ | ⟨p, h1, h2, h3, h4⟩
  · exact .inr ⟨k, by omega, rfl, e, fun j hj hne => h2 j (by omega)⟩
  · omega
theorem DiffU.twice {r s : Ru} {k p : Nat} (h : DiffU r s k p) (hk : k < 6) (e : r.getD k K.zero ≠ s.getD k K.zero) : NoJoin r s := by
  rcases h with ⟨h1, h2⟩ | ⟨p', h1, h2, h3, h4⟩
  · omega
  · rintro x ⟨i, c, ⟨g1, g2, g3, g4⟩, rfl⟩
    by_cases q : k = i
    · subst q
      exact h3 (g3 p' (by omega) (by omega))
    · exact e (g3 k hk q)
theorem DiffU.never {r s : Ru} (h : DiffU r s 6 (-1)) : NoJoin r s := by
  rcases h with ⟨h1, h2⟩ | ⟨p', h1, h2, h3, h4⟩
  · rintro x ⟨i, c, ⟨g1, g2, g3, g4⟩, rfl⟩
    exact g2 (h2 i g1)
  · omega
theorem DiffU.no {r s : Ru} {p : Nat} (h : DiffU r s 6 p) (e : joinK (r.getD p K.zero) (s.getD p K.zero) = none) : NoJoin r s := by
  rcases h with ⟨h1, h2⟩ | ⟨p', h1, h2, h3, h4⟩
  · omega
  · have : p = p' := by omega
    subst this
    rintro x ⟨i, c, ⟨g1, g2, g3, g4⟩, rfl⟩
    by_cases q : i = p
    · subst q; rw [e] at g4; cases g4
    · exact g2 (h4 i g1 q)
theorem DiffU.yes {r s : Ru} {p : Nat} {c : K} (h : DiffU r s 6 p) (e : joinK (r.getD p K.zero) (s.getD p K.zero) = some c) : JoinR r s (r.set p c) := by
  rcases h with ⟨h1, h2⟩ | ⟨p', h1, h2, h3, h4⟩
  · omega
  · have : p = p' := by omega
    subst this
    exact ⟨p, c, ⟨h1, h3, h4, e⟩, rfl⟩
theorem set_take {r : Ru} {p i : Nat} {c : K} (hi : i < r.length) : (r.set p c).take (i + 1) = (r.set p c).take i ++ [if i = p then c else r.getD i K.zero] := by
  rw [List.take_add_one, List.getElem?_set]
  congr 1
  by_cases e : p = i
  · subst e; simp [hi]
  · rw [if_neg e, if_neg (fun q => e q.symm), List.getElem?_eq_getElem hi, List.getD_eq_getElem?_getD, List.getElem?_eq_getElem hi]; rfl
end Go.Proofs.YtioabdfddjmabaaGreat
