/-
  CONTRACTS of the small functions: copies and comparisons of one instruction, the tables of codes.
-/
import Derived.Test.YtjfgihmamoiipaaChecked
import Derived.Test.YtjfgihmamoiipaaMath
import Derived.WalkKit
import Derived.WalkSpells
import Derived.WalkLawsBesides
namespace Go.Proofs.Ytjfgihmamoiipaa
open Go.RowKit
set_option linter.unusedVariables false

theorem ret_int {k : IntKind} {a b : Int} (h : a = b) : Ending.returned (.int k a) = .returned (.int k b) := by rw [h]
theorem ret_bool {a b : Bool} (h : a = b) : Ending.returned (.bool a) = .returned (.bool b) := by rw [h]

/-- the value of one instruction -/
abbrev insV (c jt jf k : Int) : Value := .agg #[.int .u16 c, .int .u8 jt, .int .u8 jf, .int .u32 k]

set_option maxHeartbeats 400000 in
theorem toIns_any (c jt jf k : Int) (w : World) :
    Calls Try.prog 57 #[insV c jt jf k] w fun e w' => e = .returned (insV c jt jf k) ∧ Below w.heap.size w w' := by
  go_enter Try.func57, Try.ntmps57
  go_wp2
  refine bodyPost_ret (v := insV c jt jf k) (by simp [results, Try.results57, go_sem]) rfl ⟨rfl, ?_⟩
  exact (((Below.refl _ _).alloc (Nat.le_refl _) _).alloc (by simp) _).alloc (by simp; omega) _

set_option maxHeartbeats 400000 in
theorem szInsS_any (a : Option Addr) (n cap : Nat) (left : Int) (w : World) (hn : n ≤ 9223372036854775807) (h0 : 0 ≤ left) (h1 : left ≤ 1048576) :
    Calls Try.prog 19 #[.slice a n cap, .int .i64 left] w fun e w' => e = .returned (.int .i64 (if left - n < 0 then -1 else left - n)) ∧ w' = w := by
  go_enter Try.func19, Try.ntmps19
  go_wp2
  all_goals (go_ret)
  all_goals exact ⟨rfl, rfl⟩

set_option maxHeartbeats 400000 in
theorem eqIns_same (c jt jf k : Int) (w : World) :
    Calls Try.prog 58 #[insV c jt jf k, insV c jt jf k] w fun e w' => e = .returned (.bool true) ∧ Below w.heap.size w w' := by
  go_enter Try.func58, Try.ntmps58
  go_wp2
  go_ret
  exact ⟨rfl, ((Below.refl _ _).alloc (Nat.le_refl _) _).alloc (by simp) _⟩

/-- all old cells read as before behind a call that leaves old memory alone -/
theorem bcell {W w1 : World} (hb : Below W.heap.size W w1) : (∀ b o, b < W.heap.size → w1.cell? ⟨b, o, none⟩ = W.cell? ⟨b, o, none⟩) ∧ (∀ b o, b < W.heap.size → w1.frozen? ⟨b, o, none⟩ = W.frozen? ⟨b, o, none⟩) :=
  ⟨fun b o h => hb.cell (p := ⟨b, o, none⟩) h, fun b o h => hb.frozen (p := ⟨b, o, none⟩) h⟩

/-- WHERE A PROGRAM LIES: the instructions p behind the address a -/
def InsAt (w : World) (b o : Nat) (p : List I) : Prop :=
  ∀ i, i < p.length → w.cell? ⟨b, o + i * 4, none⟩ = some (.int .u16 (p.getD i I.zero).c) ∧ w.cell? ⟨b, o + i * 4 + 1, none⟩ = some (.int .u8 (p.getD i I.zero).jt) ∧
    w.cell? ⟨b, o + i * 4 + 2, none⟩ = some (.int .u8 (p.getD i I.zero).jf) ∧ w.cell? ⟨b, o + i * 4 + 3, none⟩ = some (.int .u32 (p.getD i I.zero).k)

end Go.Proofs.Ytjfgihmamoiipaa
