/-
  CONTRACTS of the model's record words and memory words.
-/
import Derived.Test.YtjfgihmamoiipaaSpecA
namespace Go.Proofs.Ytjfgihmamoiipaa
open Go.RowKit
set_option linter.unusedVariables false

set_option maxHeartbeats 2000000 in
theorem l1word_core (b o cap k : Nat) (x0 x1 x2 x3 : Int) (w : World) (hk : k + 4 ≤ 64) (c0 : w.cell? ⟨b, o + k, none⟩ = some (.int .u8 x0)) (c1 : w.cell? ⟨b, o + (k + 1), none⟩ = some (.int .u8 x1)) (c2 : w.cell? ⟨b, o + (k + 2), none⟩ = some (.int .u8 x2)) (c3 : w.cell? ⟨b, o + (k + 3), none⟩ = some (.int .u8 x3))
    (h0 : 0 ≤ x0 ∧ x0 ≤ 255) (h1 : 0 ≤ x1 ∧ x1 ≤ 255) (h2 : 0 ≤ x2 ∧ x2 ≤ 255) (h3 : 0 ≤ x3 ∧ x3 ≤ 255) :
    Calls Try.prog 105 #[.slice (some ⟨b, o, none⟩) 64 cap, .int .i64 k] w fun e w' => e = .returned (.int .i64 (x0 + 256 * x1 + 65536 * x2 + 16777216 * x3)) ∧ ∃ m, w' = w.drewN m := by
  have f0 : (0 : Int) ≤ (k : Int) := by omega
  have f1 : (k : Int) < 64 := by omega
  have f2 : (k : Int) + 1 < 64 := by omega
  have f3 : (k : Int) + 2 < 64 := by omega
  have f4 : (k : Int) + 3 < 64 := by omega
  go_enter Try.func105, Try.ntmps105
  go_wp2_with fail
  go_quiet (fail)
  go_wp2
  go_ret
  exact ⟨rfl, _, rfl⟩

theorem l1word_any (b o cap k : Nat) (r : List Int) (w : World) (hp : BytesAt w b o r) (hr : isBytes r) (hl : r.length = 64) (hk : k + 4 ≤ 64) :
    Calls Try.prog 105 #[.slice (some ⟨b, o, none⟩) 64 cap, .int .i64 k] w fun e w' => e = .returned (.int .i64 (wordL r k)) ∧ Below w.heap.size w w' := by
  have g := fun j => isBytes_getD hr j
  refine (l1word_core b o cap k _ _ _ _ w hk (hp k (by omega)) (hp (k + 1) (by omega)) (hp (k + 2) (by omega)) (hp (k + 3) (by omega)) (g _) (g _) (g _) (g _)).mono ?_
  rintro e w' ⟨rfl, m, rfl⟩
  exact ⟨rfl, below_drewN (Below.refl _ _) _⟩

theorem infoInt : (Try.prog.info? 3).map (fun i => (i.zero, i.size, i.bytes)) = some (some (.int .i64 0), 1, 8) := by kernel_rfl

/-- memory words that lie behind a slice -/
def MemAt (w : World) (b o : Nat) (m : Nat → Int) : Prop := ∀ j, j < 16 → w.cell? ⟨b, o + j, none⟩ = some (.int .i64 (m j))

theorem MemAt.below {w w' : World} {b o : Nat} {m : Nat → Int} (h : MemAt w b o m) (hb : b < w.heap.size) (hB : Below w.heap.size w w') : MemAt w' b o m := fun j hj => (hB.cell (p := ⟨b, _, none⟩) hb).trans (h j hj)

abbrev ownsM (w : World) (base : Nat) (v : Value) (l : List Int) : Prop := w.ownsRow base 3 1 v l.length (l.map (Value.int .i64))
theorem ownsM_app {w : World} {base : Nat} {v : Value} {l : List Int} {x : Int} {n : Nat} (hn : n = l.length + 1) (h : w.ownsRow base 3 1 v n (l.map (Value.int .i64) ++ [.int .i64 x])) : ownsM w base v (l ++ [x]) := by
  subst hn
  simpa [ownsM] using h
theorem ownsM_below {w wr w1 : World} {B : Nat} {v : Value} {l : List Int} {o : Obj} (hB : Below B w wr) (hBs : B ≤ wr.heap.size) (hown : ownsM wr B v l) (hg : (wr.alloc o).grownBy w1 v.ownBlock) : Below B w w1 :=
  (hB.alloc hBs o).grown hg (by simp; omega) (fun k hk => (hown.lt k hk).1)
theorem ownsM_mem {w : World} {base : Nat} {v : Value} {m : Nat → Int} (h : ownsM w base v ((List.range 16).map m)) : ∃ g cap, v = .slice (some ⟨g, 0, none⟩) 16 cap ∧ base ≤ g ∧ g < w.heap.size ∧ MemAt w g 0 m := by
  obtain ⟨_, h | ⟨g, cap, cur, rfl, hb, hg, hn, hm, hs, hx⟩⟩ := h
  · simp at h
  · refine ⟨g, cap, by simp, hb, (Array.getElem?_eq_some_iff.1 hg).1, fun j hj => ?_⟩
    have e : (cur.toList.take (((List.range 16).map m).length * 1))[j]? = some (Value.int .i64 (m j)) := by
      rw [hx]; simp [hj]
    rw [List.getElem?_take, if_pos (by simp; omega)] at e
    simp only [World.cell?, hg, Nat.zero_add]
    simpa using e

theorem range_take (m : Nat → Int) (k : Nat) : (List.range (k + 1)).map m = (List.range k).map m ++ [m k] := by simp [List.range_succ]

set_option maxRecDepth 100000 in
set_option maxHeartbeats 2000000 in
theorem l1put_any (b o cap q : Nat) (m : Nat → Int) (v : Int) (w : World) (hb : b < w.heap.size) (hp : MemAt w b o m) (hq : q < 16) :
    Calls Try.prog 106 #[.slice (some ⟨b, o, none⟩) 16 cap, .int .i64 q, .int .i64 v] w fun e w' => ∃ g c, e = .returned (.slice (some ⟨g, 0, none⟩) 16 c) ∧ w.heap.size ≤ g ∧ g < w'.heap.size ∧ MemAt w' g 0 (fun j => if j = q then v else m j) ∧ Below w.heap.size w w' := by
  obtain ⟨i0, hi, hz0, hz1, hz2⟩ := info_parts infoInt
  have HE : Hid (∀ wx vx, ownsM wx w.heap.size vx ((List.range 16).map (fun j => if j = q then v else m j)) → ∃ g c, vx = .slice (some ⟨g, 0, none⟩) 16 c ∧ w.heap.size ≤ g ∧ g < wx.heap.size ∧ MemAt wx g 0 (fun j => if j = q then v else m j)) := fun wx vx h => ownsM_mem h
  have HP : Hid (MemAt w b o m) := hp
  have HF : Hid (∀ j, (j = q → (fun j => if j = q then v else m j) j = v) ∧ (j ≠ q → (fun j => if j = q then v else m j) j = m j)) := fun j => ⟨fun e => by simp [e], fun e => by simp [e]⟩
  have HL : Hid (∀ F : Nat → Int, ∀ k, ((List.range k).map F).length = k) := fun F k => by simp
  generalize (fun j => if j = q then v else m j) = F at *
  clear hp
  go_enter Try.func106, Try.ntmps106
  go_wp2_with fail
  go_loopw [7, 8] (fun s i wr => ∃ k : Nat, k ≤ 16 ∧ i = .int .i64 k ∧ ownsM wr w.heap.size s ((List.range k).map F) ∧ Below w.heap.size w wr) (fun _ i _ => 16 - (intOf i).toNat)
  case atStart => exact ⟨0, by omega, rfl, World.ownsRow_nil _ _ _ _, Below.refl _ _⟩
  case round =>
    obtain ⟨k, hk, rfl, hown, hB⟩ := hrel
    by_cases hlt : k < 16
    · have hlen := HL.out F k
      have hwr := hB.size
      have c0 := (hB.cell (p := ⟨b, o + k, none⟩) hb).trans (HP.out k hlt)
      have HS : Hid ((List.range (k + 1)).map F = (List.range k).map F ++ [F k]) := range_take F k
      by_cases hkq : k = q
      · have e : ((k : Int) == (q : Int)) = true := by simp [hkq]
        have HV : Hid (F k = v) := (HF.out k).1 hkq
        clear HP HF c0 hkq
        generalize (List.range k).map F = l at *
        go_wp2_with (at_builtin; refine wpList_append_own _ rfl (.tmp 18) (.tmp 20) 108 rfl w.heap.size 3 i0 (.int .i64 0) 1 8 Try.underlying108 hi hz0 hz1 hz2 rfl (by decide) _ _ _ rfl (hown.alloc _) ⟨wr.heap.size, 0, none⟩ 1 1 [.int .i64 v] rfl rfl (cell_one_new _ _ _) (ints_oneCell .i64 [v]) ?c3 ?c4 ?c5 ?_)
        case c3 => unfold maxLen; omega
        case c4 => omega
        case c5 => first | omega | (simp; omega)
        intro v1 w1 hown1 hgrow1 _
        have hB1 := ownsM_below hB hwr hown hgrow1
        have ho1 : ownsM w1 w.heap.size v1 ((List.range (k + 1)).map F) := by rw [HS.out, HV.out]; exact ownsM_app (by omega) hown1
        clear hown1 hgrow1 hown hB
        go_wp2
        go_roundw
        case rel => exact ⟨k + 1, by omega, by go_num, ho1, hB1⟩
        case measure => simp [intOf]; omega
      · have e : ((k : Int) == (q : Int)) = false := by simp; omega
        have HV : Hid (F k = m k) := (HF.out k).2 hkq
        clear HP HF hkq
        generalize (List.range k).map F = l at *
        generalize m k = y at *
        go_wp2_with (at_builtin; refine wpList_append_own _ rfl (.tmp 22) (.tmp 27) 108 rfl w.heap.size 3 i0 (.int .i64 0) 1 8 Try.underlying108 hi hz0 hz1 hz2 rfl (by decide) _ _ _ rfl (hown.alloc _) ⟨wr.heap.size, 0, none⟩ 1 1 [.int .i64 y] rfl rfl (cell_one_new _ _ _) (ints_oneCell .i64 [y]) ?c3 ?c4 ?c5 ?_)
        case c3 => unfold maxLen; omega
        case c4 => omega
        case c5 => first | omega | (simp; omega)
        intro v1 w1 hown1 hgrow1 _
        have hB1 := ownsM_below hB hwr hown hgrow1
        have ho1 : ownsM w1 w.heap.size v1 ((List.range (k + 1)).map F) := by rw [HS.out, HV.out]; exact ownsM_app (by omega) hown1
        clear hown1 hgrow1 hown hB c0
        go_wp2
        go_roundw
        case rel => exact ⟨k + 1, by omega, by go_num, ho1, hB1⟩
        case measure => simp [intOf]; omega
    · have hk16 : k = 16 := by omega
      subst hk16
      go_wp2
      go_ret
      obtain ⟨g, c, rfl, hge, hg, hM⟩ := HE.out _ _ hown
      exact ⟨g, c, rfl, hge, hg, hM, hB⟩
end Go.Proofs.Ytjfgihmamoiipaa
