/-
  CONTRACT of the lowest bytes of a number; small laws on bytes that a value owns.
-/
import Derived.Test.YtjfgihmamoiipaaCopy
import Derived.Test.YtjfgihmamoiipaaBytes
import Derived.Test.YtjfgihmamoiipaaMathB
namespace Go.Proofs.Ytjfgihmamoiipaa
open Go.RowKit
set_option linter.unusedVariables false

theorem owns_app {w : World} {base : Nat} {v : Value} {l m : List Int} {n : Nat} (hn : n = l.length + m.length) (h : w.ownsRow base 5 1 v n (l.map (Value.int .u8) ++ m.map (Value.int .u8))) : owns w base v (l ++ m) := by
  subst hn
  simpa [owns] using h

theorem grown_below {w wr w1 : World} {B : Nat} {v : Value} {l : List Int} {o : Obj} (hB : Below B w wr) (hBs : B ≤ wr.heap.size) (hown : owns wr B v l) (hg : (wr.alloc o).grownBy w1 v.ownBlock) : Below B w w1 :=
  (hB.alloc hBs o).grown hg (by simp; omega) (fun k hk => (hown.lt k hk).1)

theorem grown_below0 {w wr w1 : World} {B : Nat} {v : Value} {l : List Int} (hB : Below B w wr) (hBs : B ≤ wr.heap.size) (hown : owns wr B v l) (hg : wr.grownBy w1 v.ownBlock) : Below B w w1 :=
  hB.grown hg hBs (fun k hk => (hown.lt k hk).1)

set_option maxHeartbeats 1000000 in
theorem l1little_any (v : Int) (n : Nat) (w : World) (h0 : 0 ≤ v) (h1 : v ≤ 18446744073709551615) (hn : n ≤ 8) :
    Calls Try.prog 59 #[.int .u64 v, .int .i64 n] w fun e w' => ∃ v', e = .returned v' ∧ owns w' w.heap.size v' (littleL v n) ∧ Below w.heap.size w w' := by
  obtain ⟨i0, hi, hz0, hz1, hz2⟩ := info_parts info5
  obtain ⟨L, hL⟩ : ∃ L, littleL v n = L := ⟨_, rfl⟩
  have HL : Hid (L = [] ++ littleL v (n - 0)) := by rw [← hL]; rfl
  have HN : Hid (L.length = n) := by rw [← hL]; exact littleL_len v n
  rw [hL]
  clear hL
  go_enter Try.func59, Try.ntmps59
  go_wp2_with fail
  go_loopw [0, 5, 6] (fun q s i wr => ∃ (k : Nat) (r : Int) (l : List Int), k ≤ n ∧ i = .int .i64 k ∧ q = .int .u64 r ∧ 0 ≤ r ∧ r ≤ 18446744073709551615 ∧ Hid (l.length = k) ∧ Hid (L = l ++ littleL r (n - k)) ∧ owns wr w.heap.size s l ∧ Below w.heap.size w wr) (fun _ _ i _ => n - (intOf i).toNat)
  case atStart => exact ⟨0, v, [], by omega, rfl, rfl, h0, h1, rfl, HL, World.ownsRow_nil _ _ _ _, Below.refl _ _⟩
  case round =>
    obtain ⟨k, r, l, hk, rfl, rfl, r0, r1, Hl, HL', hown, hB⟩ := hrel
    clear HL
    by_cases hlt : k < n
    · have hwr := hB.size
      go_wp2_with (at_builtin; refine wpList_append_own _ rfl (.tmp 12) (.tmp 16) 22 rfl w.heap.size 5 i0 (.int .u8 0) 1 1 Try.underlying22 hi hz0 hz1 hz2 rfl (by decide) _ _ _ rfl (hown.alloc _) ⟨wr.heap.size, 0, none⟩ 1 1 [.int .u8 (r % 256)] rfl rfl ?c1 ?c2 ?c3 ?c4 ?c5 ?_)
      case c1 => exact cell_one_new _ _ _
      case c2 => intro u hu; simp at hu; subst hu; rfl
      case c3 => have := Hl.out; unfold maxLen; omega
      case c4 => have := Hl.out; omega
      case c5 => simp; omega
      · intro v' w1 hown' hgrow _
        have hown1 : owns w1 w.heap.size v' (l ++ [r % 256]) := owns_app (m := [r % 256]) (by simp) hown'
        have hB1 := grown_below hB hwr hown hgrow
        clear hown' hgrow hown hB
        go_wp2
        go_roundw
        case rel => exact ⟨k + 1, r / 256, l ++ [r % 256], by omega, by go_num, rfl, by omega, by omega, (by simp [Hl.out] : (l ++ [r % 256]).length = k + 1), littleL_step HL'.out hlt, hown1, hB1⟩
        case measure => simp [intOf]; omega
    · go_wp2
      go_ret
      have hkn : k = n := by omega
      subst hkn
      have e : L = l := by have := HL'.out; simpa [littleL] using this
      subst e
      exact ⟨_, rfl, hown, hB⟩

theorem owns_below {w w1 : World} {base : Nat} {v : Value} {l : List Int} (h : owns w base v l) (hb : Below w.heap.size w w1) : owns w1 base v l :=
  World.ownsRow.kept (row := none) h ⟨hb.os, hb.tape, hb.output, hb.size, fun k hk _ => hb.block k hk⟩ (by cases v.ownBlock <;> simp)

/-- an own row that is not empty lies at an address -/
theorem owns_at {w : World} {base : Nat} {v : Value} {l : List Int} (h : owns w base v l) (h0 : 0 < l.length) :
    ∃ g cap, v = .slice (some ⟨g, 0, none⟩) l.length cap ∧ base ≤ g ∧ ∀ j u, (l.map (Value.int .u8))[j]? = some u → w.cell? ((⟨g, 0, none⟩ : Addr).add j) = some u := by
  have h' := h
  obtain ⟨_, h | ⟨g, cap, cur, rfl, hb, hg, hn, hm, hs, hx⟩⟩ := h
  · omega
  · exact ⟨g, cap, rfl, hb, h'.cells rfl⟩

theorem bytes_oneCell (l : List Int) : ∀ u ∈ l.map (Value.int .u8), u.oneCell' = true := ints_oneCell .u8 l
end Go.Proofs.Ytjfgihmamoiipaa
