/-
  THE LIBRARY's SORT AT CALLS: its elements, its order.
-/
import Derived.Test.YtpbljegjinjmnaaDistS
import Derived.Test.YtpbljegjinjmnaaDistL
import Derived.Test.YtpbljegjinjmnaaCondM
namespace Go.Proofs.Ytpbljegjinjmnaa
open Go.Shelf Go.RowKit Go.Lib Go.Sort
set_option linter.unusedVariables false

/-- a call whose numbers lie in the world W, in a block other than D -/
structure Q (W : World) (D : Nat) where
  c : C
  a : Option Addr
  cap : Nat
  ok : c.ok
  len : c.args.length ≤ 16777216
  src : c.args = [] ∨ ∃ b o, a = some ⟨b, o, none⟩ ∧ b ≠ D ∧ b < W.heap.size ∧ UAt W b o c.args

instance (W : World) (D : Nat) : Inhabited (Q W D) := ⟨⟨C.zero, none, 0, C.zero_ok, by simp [C.zero], .inl rfl⟩⟩

def encQ {W : World} {D : Nat} (q : Q W D) : List Value := [.int .u32 q.c.arch, .int .u32 q.c.nr, .slice q.a q.c.args.length q.cap]
def ordQ {W : World} {D : Nat} (x y : Q W D) : Int := ordC x.c y.c

theorem Q.stay {W : World} {D : Nat} (q : Q W D) (off m : Nat) (dk : Array (Q W D)) (os : Array Obj) : USrc (sortWorldK encQ 3 W D off m dk os) q.a q.c.args := by
  rcases q.src with h | ⟨b, o, h1, h2, h3, h4⟩
  · exact .inl h
  · by_cases h0 : q.c.args = []
    · exact .inl h0
    · have hu : UAt (sortWorldK encQ 3 W D off m dk os) b o q.c.args := fun i hi => by
        rw [cell?_sortWorldK_other encQ 3 W D off m dk os ⟨b, o + i, none⟩ h2 h3]; exact h4 i hi
      have hl : 0 < q.c.args.length := List.length_pos_iff.2 h0
      exact .inr ⟨b, o, h1, cell_ltK (hu 0 hl), hu⟩

theorem cmpQ (W : World) (D off n : Nat) : CmpLays Try.prog 37 #[] (encQ (W := W) (D := D)) 3 ordQ D off n W := by
  intro m os dk _ x y
  exact compareCalls_lays x.c y.c x.a y.a x.cap y.cap _ (x.stay off m dk os) (y.stay off m dk os) x.ok y.ok x.len y.len

theorem swoQ (W : World) (D : Nat) : SWO (ltOf (ordQ (W := W) (D := D))) where
  irrefl := fun x => by simp [ltOf, ordQ, ordC_self]
  trans := fun x y z h h' => by
    exact decide_eq_true (ordC_trans (of_decide_eq_true h) (of_decide_eq_true h'))
  ntrans := fun x y z h h' => by
    have h1 : ¬ ordC x.c y.c < 0 := of_decide_eq_false h
    have h2 : ¬ ordC y.c z.c < 0 := of_decide_eq_false h'
    refine decide_eq_false (show ¬ ordC x.c z.c < 0 from ?_)
    have e1 := ordC_anti x.c y.c
    have e2 := ordC_anti y.c z.c
    have e3 := ordC_anti x.c z.c
    have := ordC_le_trans (a := z.c) (b := y.c) (c := x.c) (by omega) (by omega)
    omega

set_option maxRecDepth 100000 in
theorem sortQ (W : World) (D off cap : Nat) (d : Array (Q W D)) (hH : HoldsK encQ 3 W D off d) (hb : D < W.heap.size) (hs : d.size < 4611686018427387904) :
    Calls Try.prog 36 #[.slice (some ⟨D, off, none⟩) d.size cap, .func (.func 37) #[] #[]] W fun e w' => e = .returned (.tuple #[]) ∧ ∃ d' n os, PermIn 0 d.size d d' ∧ SortedIn (ltOf ordQ) 0 d.size d' ∧ w' = sortWorldK encQ 3 W D off n d' os :=
  AnyQ.slices_SortFunc sortCalls 3 (fun w => by kernel_rfl) (fun w => by kernel_rfl) encQ (fun _ => rfl) (fun x v hv => by simp [encQ] at hv; rcases hv with rfl | rfl | rfl <;> rfl) ordQ (swoQ W D) _ #[] D off cap d W (fun args w => by kernel_rfl) (cmpQ W D off d.size) hH hb hs
end Go.Proofs.Ytpbljegjinjmnaa
