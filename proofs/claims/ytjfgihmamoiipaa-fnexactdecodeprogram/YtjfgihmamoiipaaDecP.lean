/-
  CONTRACT of the program's DecodeProgram.
-/
import Derived.Test.YtjfgihmamoiipaaDecIns
namespace Go.Proofs.Ytjfgihmamoiipaa
open Go.RowKit
set_option linter.unusedVariables false

/-- the cells of instructions -/
def insC (x : I) : List Value := [.int .u16 x.c, .int .u8 x.jt, .int .u8 x.jf, .int .u32 x.k]
def insCells (p : List I) : List Value := p.flatMap insC
theorem insCells_len (p : List I) : (insCells p).length = p.length * 4 := by
  induction p with
  | nil => rfl
  | cons x p ih => simp only [insCells, List.flatMap_cons, List.length_append, List.length_cons] at *; simp only [insC, List.length_cons, List.length_nil]; omega

/-- an own row of instructions -/
abbrev ownsI (w : World) (base : Nat) (v : Value) (p : List I) : Prop := w.ownsRow base 36 4 v p.length (insCells p)

theorem ownsI_snoc {w : World} {base : Nat} {v : Value} {p : List I} {x : I} {n : Nat} (hn : n = p.length + 1) (h : w.ownsRow base 36 4 v n (insCells p ++ insC x)) : ownsI w base v (p ++ [x]) := by
  subst hn
  simpa [ownsI, insCells] using h
theorem ownsI_below {w w1 : World} {base : Nat} {v : Value} {p : List I} (h : ownsI w base v p) (hb : Below w.heap.size w w1) : ownsI w1 base v p :=
  World.ownsRow.kept (row := none) h ⟨hb.os, hb.tape, hb.output, hb.size, fun k hk _ => hb.block k hk⟩ (by cases v.ownBlock <;> simp)
theorem ownsI_kept {w w' : World} {B : Nat} {v : Value} {p : List I} {row : Option Nat} (h : ownsI w B v p) (hg : w.grownBy w' row) (hne : ∀ q, v.ownBlock = some q → some q ≠ row) : ownsI w' B v p := by
  refine World.ownsRow.kept h hg ?_
  cases hv : v.ownBlock with
  | none => exact .inl rfl
  | some q => exact .inr (hne q hv)
theorem growI_below {w wr w1 : World} {B : Nat} {v : Value} {p : List I} {o : Obj} (hB : Below B w wr) (hBs : B ≤ wr.heap.size) (hown : ownsI wr B v p) (hg : (wr.alloc o).grownBy w1 v.ownBlock) : Below B w w1 :=
  (hB.alloc hBs o).grown hg (by simp; omega) (fun k hk => (hown.lt k hk).1)

set_option maxRecDepth 100000 in
set_option maxHeartbeats 2000000 in
theorem implDecode_bad (a : Option Addr) (n cap : Nat) (w : World) (hn : n ≤ 1048576) (h : n % 8 ≠ 0 ∨ 32768 < n) :
    Calls Try.prog 15 #[.slice a n cap] w fun e w' => e = .returned (.tuple #[.slice none 0 0, .int .i64 1]) ∧ w' = w := by
  by_cases h8 : n % 8 = 0
  · have hb : (((n : Int) % 8) != 0) = false := by simp; omega
    have hg : (32768 : Int) < (n : Int) := by omega
    go_enter Try.func15, Try.ntmps15
    go_wp2
    go_ret2
    exact ⟨rfl, rfl⟩
  · have hb : (((n : Int) % 8) != 0) = true := by rw [bne_iff_ne]; omega
    go_enter Try.func15, Try.ntmps15
    go_wp2
    go_ret2
    exact ⟨rfl, rfl⟩

theorem dec_bytes {w : World} {b o k n : Nat} {l : List Int} (h : BytesAt w b o l) (hl : isBytes l) (hk : k * 8 + 8 ≤ l.length) :
    (∀ j, j < 8 → w.cell? ⟨b, o + k * 8 + j, none⟩ = some (.int .u8 (l.getD (k * 8 + j) 0))) ∧ ∀ j, 0 ≤ l.getD j 0 ∧ l.getD j 0 ≤ 255 :=
  ⟨fun j hj => by rw [Nat.add_assoc]; exact h (k * 8 + j) (by omega), fun j => isBytes_getD hl j⟩

set_option maxHeartbeats 2000000 in
set_option maxRecDepth 200000 in
theorem implDecode_in (b o cap : Nat) (l : List Int) (w : World) (hb : b < w.heap.size) (hp : BytesAt w b o l) (hl : isBytes l) (hcap : l.length ≤ cap) (h8 : l.length % 8 = 0) (hn : l.length ≤ 32768) :
    Calls Try.prog 15 #[.slice (some ⟨b, o, none⟩) l.length cap] w fun e w' => ∃ v', e = .returned (.tuple #[v', .int .i64 0]) ∧ ownsI w' w.heap.size v' (decN l (l.length / 8)) ∧ Below w.heap.size w w' := by
  obtain ⟨i0, hi, hz0, hz1, hz2⟩ := info_parts info36
  obtain ⟨m, hm⟩ : ∃ m, l.length = m * 8 := ⟨l.length / 8, by omega⟩
  have hdiv : l.length / 8 = m := by omega
  have HC : Hid (∀ k wx cp, k < m → Below w.heap.size w wx → 8 ≤ cp → Calls Try.prog 54 #[.slice (some ⟨b, o + k * 8, none⟩) 8 cp] wx fun e w' => e = .returned (insV (decI l k).c (decI l k).jt (decI l k).jf (decI l k).k) ∧ Below wx.heap.size wx w') := by
    intro k wx cp hk hB hcp
    have hbw : BytesAt wx b o l := fun i hi => (hB.cell (p := ⟨b, _, none⟩) hb).trans (hp i hi)
    obtain ⟨c, g⟩ := dec_bytes (n := 0) hbw hl (show k * 8 + 8 ≤ l.length by omega)
    exact insOf_at b (o + k * 8) cp _ _ _ _ _ _ _ _ wx (Nat.lt_of_lt_of_le hb hB.size) hcp (c 0 (by omega)) (c 1 (by omega)) (c 2 (by omega)) (c 3 (by omega)) (c 4 (by omega)) (c 5 (by omega)) (c 6 (by omega)) (c 7 (by omega)) (g _) (g _) (g _) (g _) (g _) (g _)
  have HS : Hid (∀ k, decN l (k + 1) = decN l k ++ [decI l k]) := fun k => decN_succ l k
  have HL : Hid (∀ k, (decN l k).length = k) := fun k => decN_len l k
  have H0 : Hid (decN l 0 = []) := rfl
  rw [hdiv]
  clear hdiv hp hl
  have hmod : (((l.length : Nat) : Int) % 8 != 0) = false := by simp; omega
  have hbig : ((l.length : Nat) : Int) ≤ 32768 := by omega
  generalize decN l = DN at *
  generalize decI l = DI at *
  generalize l.length = N at *
  have HM : Hid (N = m * 8) := hm
  have hmk : ∀ u : World, (Instr.makeSlice 23 (.int .i64 0) (.int .i64 ((N : Int) / 8))).run Try.prog u =
      .ok (.slice (some ⟨u.heap.size, 0, none⟩) 0 m) (u.alloc (.cells (madeCells #[.int .u16 0, .int .u8 0, .int .u8 0, .int .u32 0] (m * 4)) 36)) := fun u => by
    have h := run_make (P := Try.prog) u 23 36 i0 _ Try.underlying23 hi hz0 .i64 .i64 0 ((N : Int) / 8) (by omega) (by omega) (by rw [hz2]; omega) (by omega)
    rw [show ((N : Int) / 8).toNat = m by omega] at h
    simpa [hz1, Value.cells] using h
  clear hm h8
  go_enter Try.func15, Try.ntmps15
  go_wp2_with fail
  have hO0 : ownsI (w.alloc (.cells (madeCells #[.int .u16 0, .int .u8 0, .int .u8 0, .int .u32 0] (m * 4)) 36)) w.heap.size (.slice (some ⟨w.heap.size, 0, none⟩) 0 m) (DN 0) := by
    rw [H0.out]; exact World.ownsRow_made w _ m (Nat.le_refl _) (by have := HM.out; unfold maxLen; omega) (by rw [size_madeCells])
  have hB0 : Below w.heap.size w (w.alloc (.cells (madeCells #[.int .u16 0, .int .u8 0, .int .u8 0, .int .u32 0] (m * 4)) 36)) := (Below.refl _ _).alloc (Nat.le_refl _) _
  generalize w.alloc (.cells (madeCells #[.int .u16 0, .int .u8 0, .int .u8 0, .int .u32 0] (m * 4)) 36) = W at *
  clear hmk
  go_loopw [4, 5] (fun s i wr => ∃ (k : Nat), k ≤ m ∧ i = .int .i64 ((k * 8 : Nat) : Int) ∧ ownsI wr w.heap.size s (DN k) ∧ Below w.heap.size w wr) (fun _ i _ => m * 8 - (intOf i).toNat)
  case atStart => exact ⟨0, by omega, rfl, hO0, hB0⟩
  case round =>
    obtain ⟨k, hk, rfl, hown, hB⟩ := hrel
    clear hO0 hB0
    by_cases hlt : k < m
    · have hlen := HL.out k
      have HE := HS.out k
      have HE' : Hid (DN (k + 1) = DN k ++ [DI k]) := HE
      clear HL HS H0 HE
      have f1 : k * 8 + 8 ≤ N := by have := HM.out; omega
      have f2 : ¬ cap = k * 8 := by omega
      have hwr := hB.size
      go_wp2_with fail
      refine (HC.out k wr _ hlt hB (by omega)).mono ?_
      rintro e w1 ⟨rfl, hb1⟩
      have hB1 : Below w.heap.size w w1 := hB.trans (hb1.mono hwr)
      have ho1 := ownsI_below hown hb1
      have hs1 := hB1.size
      clear hb1 hown hB HC
      generalize DI k = x at *
      generalize DN k = q at *
      go_wp2_with (at_builtin; refine wpList_append_own _ rfl (.tmp 25) (.tmp 32) 23 rfl w.heap.size 36 i0 _ 4 8 Try.underlying23 hi hz0 hz1 hz2 rfl (by decide) _ _ _ rfl (ho1.alloc _) ⟨w1.heap.size, 0, none⟩ 1 1 (insC x) rfl rfl ?c1 ?c2 ?c3 ?c4 ?c5 ?_)
      case c1 =>
        intro j u hj
        rw [add_at]
        rw [World.cell?_alloc_at _ _ _ _ rfl]
        simpa [insC] using hj
      case c2 => intro u hu; simp [insC] at hu; rcases hu with rfl | rfl | rfl | rfl <;> rfl
      case c3 => unfold maxLen; omega
      case c4 => omega
      case c5 => first | omega | (simp; omega)
      intro v2 w2 hown2 hgrow2 _
      have hB2 := growI_below hB1 hs1 ho1 hgrow2
      have ho2 : ownsI w2 w.heap.size v2 (DN (k + 1)) := by rw [HE'.out]; exact ownsI_snoc (by omega) hown2
      clear hown2 hgrow2 ho1 hB1 hs1 HE' hlen
      go_wp2
      go_roundw
      case rel => exact ⟨k + 1, by omega, by go_num, ho2, hB2⟩
      case measure => simp [intOf]; omega
    · have : k = m := by omega
      subst this
      have := HM.out
      go_wp2
      go_ret2
      exact ⟨_, rfl, hown, hB⟩

set_option maxRecDepth 100000 in
set_option maxHeartbeats 2000000 in
theorem implDecode_none (a : Option Addr) (cap : Nat) (w : World) :
    Calls Try.prog 15 #[.slice a 0 cap] w fun e w' => ∃ v', e = .returned (.tuple #[v', .int .i64 0]) ∧ ownsI w' w.heap.size v' [] ∧ Below w.heap.size w w' := by
  obtain ⟨i0, hi, hz0, hz1, hz2⟩ := info_parts info36
  have hmk : ∀ u : World, (Instr.makeSlice 23 (.int .i64 0) (.int .i64 0)).run Try.prog u =
      .ok (.slice (some ⟨u.heap.size, 0, none⟩) 0 0) (u.alloc (.cells #[] 36)) := fun u => by
    have h := run_make (P := Try.prog) u 23 36 i0 _ Try.underlying23 hi hz0 .i64 .i64 0 0 (by omega) (by omega) (by rw [hz2]; omega) (by omega)
    simpa [hz1, Value.cells, madeCells, Array.range_zero'] using h
  go_enter Try.func15, Try.ntmps15
  go_wp2_with fail
  go_loopw [4, 5] (fun s i wr => s = .slice (some ⟨w.heap.size, 0, none⟩) 0 0 ∧ i = .int .i64 0 ∧ wr = w.alloc (.cells #[] 36)) (fun _ i _ => 0)
  case atStart => exact ⟨rfl, rfl, rfl⟩
  case round =>
    obtain ⟨rfl, rfl, rfl⟩ := hrel
    go_wp2
    go_ret2
    exact ⟨_, rfl, World.ownsRow_made w #[] 0 (Nat.le_refl _) (by unfold maxLen; omega) rfl, (Below.refl _ _).alloc (Nat.le_refl _) _⟩

theorem decBad_true {l : List Int} (h : decBad l = true) : l.length % 8 ≠ 0 ∨ 32768 < l.length := by
  simpa [decBad] using h

theorem decBad_false {l : List Int} (h : ¬ decBad l = true) : l.length % 8 = 0 ∧ l.length ≤ 32768 := by
  simpa [decBad] using h

/-- the program's -/
theorem implDecode_any (a : Option Addr) (cap : Nat) (l : List Int) (w : World) (hs : BSrc w a l) (hl : isBytes l) (hcap : l.length ≤ cap) (hn : l.length ≤ 1048576) :
    Calls Try.prog 15 #[.slice a l.length cap] w fun e w' => ∃ v', e = .returned (.tuple #[v', .int .i64 (decC l)]) ∧ ownsI w' w.heap.size v' (decL l) ∧ Below w.heap.size w w' := by
  by_cases hb : decBad l = true
  · refine (implDecode_bad a l.length cap w hn (decBad_true hb)).mono ?_
    rintro e w' ⟨rfl, rfl⟩
    exact ⟨_, by rw [decC, if_pos hb], by rw [decL, if_pos hb]; exact World.ownsRow_nil _ _ _ _, Below.refl _ _⟩
  · obtain ⟨h1, h2⟩ := decBad_false hb
    rw [decC, if_neg hb, decL, if_neg hb]
    rcases hs with rfl | ⟨b, o, rfl, hlt, hp⟩
    · exact implDecode_none a cap w
    · exact implDecode_in b o cap l w hlt hp hl hcap h1 h2
end Go.Proofs.Ytjfgihmamoiipaa
