/-
  CONTRACT: the program's Distinct, whole.
-/
import Derived.Test.YtpbljegjinjmnaaDistG
namespace Go.Proofs.Ytpbljegjinjmnaa
open Go.RowKit
set_option linter.unusedVariables false

/-- what Distinct answers: the different calls in order, in memory of their own -/
def DRes (cs : List C) (B : Nat) (w' : World) (v : Value) : Prop := ∃ ds, IsDist cs ds ∧ ds.length ≤ cs.length ∧ ((v = .slice none 0 0 ∧ ds = []) ∨ ∃ D N c' vs, v = .slice (some ⟨D, 0, none⟩) ds.length c' ∧ B ≤ D ∧ OwnC w' D N vs ds)

theorem own_row {w : World} {base n : Nat} {v : Value} {g : Nat → C × Value} (h0 : 0 < n) (h : w.ownsRow base 64 3 v n (cCs ((List.range n).map g))) : ∃ D N, v = .slice (some ⟨D, 0, none⟩) n N ∧ base ≤ D ∧ n ≤ N ∧ RowM w D N n g := by
  obtain ⟨_, h | ⟨D, cap, cur, rfl, hb, hgc, hn, hm, hs, hx⟩⟩ := h
  · omega
  · refine ⟨D, cap, rfl, hb, hn, hn, fun j => cur.getD j undef, ⟨cur, hgc, hs, fun i hi => by simp [hs, hi]⟩, fun j hj => ?_⟩
    have hjl : j / 3 < ((List.range n).map g).length := by simp; omega
    obtain ⟨c0, c1, c2⟩ := cCs_get ((List.range n).map g) (j / 3) hjl
    have eg : ((List.range n).map g).getD (j / 3) (C.zero, undef) = g (j / 3) := by
      have : j / 3 < n := by omega
      simp [List.getD_eq_getElem?_getD, this]
    rw [eg] at c0 c1 c2
    have key : ∀ u, (cCs ((List.range n).map g))[j]? = some u → cur.getD j undef = u := by
      intro u hu
      rw [← hx, List.getElem?_take, if_pos (by omega), Array.getElem?_toList] at hu
      simp [Array.getD_eq_getD_getElem?, hu]
    have : j % 3 = 0 ∨ j % 3 = 1 ∨ j % 3 = 2 := by omega
    unfold cellF
    rcases this with e | e | e
    · rw [if_pos e]; exact key _ (by rw [← c0]; congr 1; omega)
    · rw [if_neg (by omega), if_pos e]; exact key _ (by rw [← c1]; congr 1; omega)
    · rw [if_neg (by omega), if_neg (by omega)]; exact key _ (by rw [← c2]; congr 1; omega)

/-- the calls of a list in memory, each with the value of its arguments -/
theorem take_calls {w : World} {b o : Nat} {cs : List C} (hc : CAt w b o cs) (hok : ∀ c ∈ cs, c.ok) (hm : ∀ c ∈ cs, c.args.length ≤ 1048576) :
    ∃ g : Nat → C × Value, (∀ i, i < cs.length → GoodB w w.heap.size (g i)) ∧ lst g cs.length = cs ∧
      (∀ j u, (cCs ((List.range cs.length).map g))[j]? = some u → w.cell? ((⟨b, o, none⟩ : Addr).add j) = some u) ∧ (∀ u ∈ cCs ((List.range cs.length).map g), u.oneCell' = true) := by
  haveI : Inhabited (C × Value) := ⟨(C.zero, undef)⟩
  obtain ⟨g, hg⟩ := choose_below (n := cs.length) (P := fun i (p : C × Value) => p.1 = cs.getD i C.zero ∧ w.cell? ⟨b, o + i * 3, none⟩ = some (.int .u32 p.1.arch) ∧ w.cell? ⟨b, o + i * 3 + 1, none⟩ = some (.int .u32 p.1.nr) ∧ w.cell? ⟨b, o + i * 3 + 2, none⟩ = some p.2 ∧ ∃ a' cap', p.2 = .slice a' p.1.args.length cap' ∧ USrc w a' p.1.args) (fun i hi => by
    obtain ⟨c0, c1, a', cap', c2, hu⟩ := hc i hi
    exact ⟨(cs.getD i C.zero, .slice a' (cs.getD i C.zero).args.length cap'), rfl, c0, c1, c2, a', cap', rfl, hu⟩)
  have hget : ∀ i, i < cs.length → ((List.range cs.length).map g).getD i (C.zero, undef) = g i := fun i hi => by simp [List.getD_eq_getElem?_getD, hi]
  refine ⟨g, fun i hi => ?_, ?_, ?_, ?_⟩
  · obtain ⟨e, _, _, _, a', cap', h1, h2⟩ := hg i hi
    have hmem := callL_mem hi
    refine ⟨by rw [e]; exact hok _ hmem, by rw [e]; have := hm _ hmem; omega, a', cap', h1, ?_⟩
    rcases h2 with h2 | ⟨b', o', h2, h3, h4⟩
    · exact .inl h2
    · exact .inr ⟨b', o', h2, h3, h4⟩
  · apply List.ext_getElem?
    intro i
    by_cases hi : i < cs.length
    · have := (hg i hi).1
      rw [List.getD_eq_getElem?_getD, List.getElem?_eq_getElem hi] at this
      simp only [Option.getD_some] at this
      simp [lst, hi, this]
    · simp [lst, hi]
  · intro j u hj
    have hjl : j < cs.length * 3 := by
      have := (List.getElem?_eq_some_iff.1 hj).1
      rw [cCs_len] at this
      simpa using this
    obtain ⟨k0, k1, k2⟩ := cCs_get ((List.range cs.length).map g) (j / 3) (by simp; omega)
    obtain ⟨_, c0, c1, c2, _⟩ := hg (j / 3) (by omega)
    rw [hget _ (by omega)] at k0 k1 k2
    rw [add_at]
    have : j % 3 = 0 ∨ j % 3 = 1 ∨ j % 3 = 2 := by omega
    rcases this with e | e | e
    · rw [show j = j / 3 * 3 by omega] at hj
      rw [k0] at hj
      rw [show o + j = o + j / 3 * 3 by omega, c0]; exact hj
    · rw [show j = j / 3 * 3 + 1 by omega] at hj
      rw [k1] at hj
      rw [show o + j = o + j / 3 * 3 + 1 by omega, c1]; exact hj
    · rw [show j = j / 3 * 3 + 2 by omega] at hj
      rw [k2] at hj
      rw [show o + j = o + j / 3 * 3 + 2 by omega, c2]; exact hj
  · intro u hu
    simp only [cCs, List.mem_flatMap, List.mem_map, List.mem_range] at hu
    obtain ⟨p, ⟨i, hi, rfl⟩, hu⟩ := hu
    obtain ⟨_, _, _, _, a', cap', h1, _⟩ := hg i hi
    exact cC_one h1 u hu

set_option maxRecDepth 100000 in
set_option maxHeartbeats 2000000 in
theorem implDist_some (cs : List C) (b o cap : Nat) (w : World) (hc : CAt w b o cs) (h0 : 0 < cs.length) (hok : ∀ c ∈ cs, c.ok) (hn : cs.length ≤ 1048576) (hm : ∀ c ∈ cs, c.args.length ≤ 1048576) :
    Calls Try.prog 14 #[.slice (some ⟨b, o, none⟩) cs.length cap] w fun e w' => ∃ v, e = .returned v ∧ DRes cs w.heap.size w' v ∧ Below w.heap.size w w' := by
  obtain ⟨i0, hi, hz0, hz1, hz2⟩ := info_parts infoCall
  obtain ⟨i1, hi1, hy0, hy1, hy2⟩ := info_parts info61
  obtain ⟨g, hG, hL, hcell, hone⟩ := take_calls hc hok hm
  have HCe : Hid (∀ j u, (cCs ((List.range cs.length).map g))[j]? = some u → w.cell? ((⟨b, o, none⟩ : Addr).add j) = some u) := hcell
  have HOne : Hid (∀ u ∈ cCs ((List.range cs.length).map g), u.oneCell' = true) := hone
  have HLen : Hid ((cCs ((List.range cs.length).map g)).length = cs.length * 3) := by unfold Hid; rw [cCs_len]; simp
  have HRow : Hid (∀ w1 v, w1.ownsRow w.heap.size 64 3 v cs.length (cCs ((List.range cs.length).map g)) → ∃ D N, v = .slice (some ⟨D, 0, none⟩) cs.length N ∧ w.heap.size ≤ D ∧ cs.length ≤ N ∧ RowM w1 D N cs.length g) := fun w1 v h => own_row h0 h
  have HSort : Hid (∀ w1 D N, Below w.heap.size w w1 → w.heap.size ≤ D → RowM w1 D N cs.length g → Calls Try.prog 36 #[.slice (some ⟨D, 0, none⟩) cs.length N, .func (.func 37) #[] #[]] w1 fun e w' => e = .returned (.tuple #[]) ∧
      ∃ g', RowM w' D N cs.length g' ∧ (∀ i, i < cs.length → GoodB w w.heap.size (g' i)) ∧ (∀ c, c ∈ lst g' cs.length ↔ c ∈ lst g cs.length) ∧ (lst g' cs.length).Pairwise (fun a b => ordC a b ≤ 0) ∧ Below w.heap.size w w') :=
    fun w1 D N hB hD hr => sortRow_any w.heap.size D N cs.length N g w w1 (Nat.le_refl _) hB hD hr (by omega) hG
  have HComp : Hid (∀ w1 D N g', Below w.heap.size w w1 → w.heap.size ≤ D → cs.length ≤ N → RowM w1 D N cs.length g' → (∀ i, i < cs.length → GoodB w w.heap.size (g' i)) → Calls Try.prog 38 #[.slice (some ⟨D, 0, none⟩) cs.length N, .func (.func 39) #[] #[]] w1 fun e w' =>
      ∃ m, e = .returned (.slice (some ⟨D, 0, none⟩) m N) ∧ ∃ g3, RowM w' D N m g3 ∧ (∀ i, i < m → GoodB w w.heap.size (g3 i)) ∧ lst g3 m = comp (lst g' cs.length) cs.length ∧ Below w.heap.size w w') :=
    fun w1 D N g' hB hD hN hr hg => compact_any w.heap.size D N cs.length N g' w w1 (Nat.le_refl _) hB hD hr hN (by omega) hg
  have HDist : Hid (∀ g' g3 m, (∀ c, c ∈ lst g' cs.length ↔ c ∈ lst g cs.length) → (lst g' cs.length).Pairwise (fun a b => ordC a b ≤ 0) → lst g3 m = comp (lst g' cs.length) cs.length → IsDist cs (lst g3 m) ∧ m ≤ cs.length) := by
    intro g' g3 m h1 h2 h3
    constructor
    · rw [h3]
      have := comp_dist h2
      rw [lst_len] at this
      exact dist_perm this (fun c => by rw [h1 c, hL])
    · have := comp_len (lst g' cs.length) cs.length (by rw [lst_len]; exact Nat.le_refl _)
      rw [← h3, lst_len] at this
      exact this
  have HRes : Hid (∀ w' D N m g3 vs, IsDist cs (lst g3 m) → m ≤ cs.length → w.heap.size ≤ D → PartC w' D N m g3 vs m → DRes cs w.heap.size w' (.slice (some ⟨D, 0, none⟩) m N)) := by
    intro w' D N m g3 vs h1 h2 h3 h4
    exact ⟨lst g3 m, h1, by rw [lst_len]; exact h2, .inr ⟨D, N, N, vs, by rw [lst_len], h3, h4.done⟩⟩
  clear hc hok hm hG hL hcell hone
  generalize cCs ((List.range cs.length).map g) = news at *
  generalize hncs : cs.length = n at *
  clear hncs
  go_enter Try.func14, Try.ntmps14
  go_wp2_with (at_builtin; refine wpList_append_own _ rfl (.const (.slice none 0 0)) (.tmp 5) 35 rfl w.heap.size 64 i0 _ 3 32 Try.underlying35 hi hz0 hz1 hz2 rfl (by decide) (.slice none 0 0) 0 [] rfl (World.ownsRow_nil _ _ _ _) ⟨b, o, none⟩ n cap news rfl ?c0 HCe.out HOne.out ?c3 ?c4 ?c5 ?_)
  case c0 => exact HLen.out
  case c3 => unfold maxLen; omega
  case c4 => omega
  case c5 => exact Nat.le_refl _
  intro v1 w1 ow gr _
  have B1 : Below w.heap.size w w1 := (Below.refl _ _).grown gr (Nat.le_refl _) (fun q hq => by cases hq)
  obtain ⟨D, N, rfl, hD, hnN, hR1⟩ := HRow.out w1 v1 ow
  clear ow gr HCe HOne HLen HRow hi hz0 hz1 hz2
  go_wp2_with fail
  refine (HSort.out w1 D N B1 hD hR1).mono ?_
  rintro e w2 ⟨rfl, g2, hR2, hG2, hmem, hpw, B2⟩
  clear HSort hR1 B1
  go_wp2_with fail
  refine (HComp.out w2 D N g2 B2 hD hnN hR2 hG2).mono ?_
  rintro e w3 ⟨m, rfl, g3, hR3, hG3, hl3, B3⟩
  obtain ⟨hds, hmn⟩ := HDist.out g2 g3 m hmem hpw hl3
  have HRs : Hid (∀ w' vs, PartC w' D N m g3 vs m → DRes cs w.heap.size w' (.slice (some ⟨D, 0, none⟩) m N)) := fun w' vs h => HRes.out w' D N m g3 vs hds hmn hD h
  have HG3 : Hid (∀ i, i < m → GoodB w w.heap.size (g3 i)) := hG3
  have HmN : Hid (m ≤ N) := hR3.1
  have P3 := PartC.start hR3
  have hmb : m ≤ 16777216 := by omega
  clear HComp HDist HRes hR2 hG2 hmem hpw B2 hl3 hG3 hR3 hds hmn
  go_wp2_with fail
  go_loopw [13] (fun i wr => ∃ (k : Nat) (vs : Nat → Value), k ≤ m ∧ i = .int .i64 k ∧ PartC wr D N m g3 vs k ∧ Below w.heap.size w wr) (fun i _ => m - (intOf i).toNat)
  case atStart => exact ⟨0, _, by omega, rfl, P3, B3⟩
  case round =>
    obtain ⟨k, vs, hk, rfl, hP, hB⟩ := hrel
    clear P3 B3
    by_cases hlt : k < m
    · obtain ⟨_, _, c2⟩ := hP.row.cells (i := k) hlt
      rw [if_neg (Nat.lt_irrefl _)] at c2
      obtain ⟨ov, O2, F2⟩ := hP.row.open (k * 3 + 2) (by have := HmN.out; omega)
      have hgk := HG3.out k hlt
      obtain ⟨a', cap', ev, hu⟩ := hgk.at hB (Nat.le_refl _)
      have hal := hgk.len
      have hDl := hP.row.lt
      have HS : Hid (∀ w1 v, Below wr.heap.size wr w1 → ownsU w1 wr.heap.size v (g3 k).1.args → PartC (w1.setCell ⟨D, k * 3 + 2, none⟩ v) D N m g3 (fun i => if i = k then v else vs i) (k + 1)) := fun w1 v hb hv => hP.step hlt hb hv
      have HOp : Hid (∀ w1, Below wr.heap.size wr w1 → w1.cell? ⟨D, k * 3 + 2, none⟩ = some (.slice a' (g3 k).1.args.length cap') ∧ w1.frozen? ⟨D, k * 3 + 2, none⟩ = false) := fun w1 hb => ⟨(hb.cell (p := ⟨D, k * 3 + 2, none⟩) hDl).trans (by rw [c2, ev]), (hb.frozen (p := ⟨D, k * 3 + 2, none⟩) hDl).trans F2⟩
      obtain ⟨c2', f2'⟩ := HOp.out wr (Below.refl _ _)
      have hkm : (k : Int) < (m : Int) := by omega
      clear c2 O2 F2 hgk ev hP
      generalize (g3 k).1.args = l at *
      cases a' with
      | none =>
        have hl : l = [] := by
          rcases hu with h | ⟨_, _, h, _⟩
          · exact h
          · cases h
        subst hl
        have Hap : Hid (∀ u : World, (Builtin.append_ #[23, 23] 23 #[.slice none 0 0, .slice none 0 cap']).run Try.prog u = .ok (.slice none 0 0) u) := fun u => by
          simp [Builtin.append_, run_underlying Try.underlying23, sizeOf, typeInfo, hi1, Builtin.lenOf, Builtin.firstCells]
        have HP2 := HS.out wr (.slice none 0 0) (Below.refl _ _) (World.ownsRow_nil _ _ _ _)
        have HP2 : Hid _ := HP2
        have HB2 : Hid (Below w.heap.size w (wr.setCell ⟨D, k * 3 + 2, none⟩ (.slice none 0 0))) := hB.setCell (p := ⟨D, k * 3 + 2, none⟩) hD _
        simp only [List.length_nil] at c2'
        clear HS HOp hu hB hi1 hy0 hy1 hy2
        go_wp2_with (at_builtin; refine wpList_append_known rfl (.const (.slice none 0 0)) (.tmp 22) 23 rfl (.slice none 0 0) (.slice none 0 cap') (.slice none 0 0) rfl rfl (Hap.out _) ?_)
        go_wp2
        go_roundw
        case rel => exact ⟨k + 1, _, by omega, by go_num, HP2.out, HB2.out⟩
        case measure => simp [intOf]; omega
      | some ad =>
        have HCa : Hid (∀ j u, (l.map (Value.int .u64))[j]? = some u → wr.cell? (ad.add j) = some u) := by
          intro j u hj
          rcases hu with hl | ⟨b', o', ha, hb', hp⟩
          · subst hl; simp at hj
          · obtain rfl : ad = ⟨b', o', none⟩ := by simpa using ha
            have hjl : j < l.length := by
              have := (List.getElem?_eq_some_iff.1 hj).1
              simpa using this
            rw [add_at, hp j hjl]
            rw [List.getElem?_map, List.getElem?_eq_getElem hjl] at hj
            rw [List.getD_eq_getElem?_getD, List.getElem?_eq_getElem hjl]
            simpa using hj
        clear hu
        go_wp2_with (at_builtin; refine wpList_append_own _ rfl (.const (.slice none 0 0)) (.tmp 22) 23 rfl wr.heap.size 26 i1 (.int .u64 0) 1 8 Try.underlying23 hi1 hy0 hy1 hy2 rfl (by decide) (.slice none 0 0) 0 [] rfl (World.ownsRow_nil _ _ _ _) ad l.length cap' (l.map (Value.int .u64)) rfl ?d0 HCa.out (longs_one l) ?d3 ?d4 ?d5 ?_)
        case d0 => simp
        case d3 => unfold maxLen; omega
        case d4 => omega
        case d5 => exact Nat.le_refl _
        intro v4 w4 ow gr _
        have b4 : Below wr.heap.size wr w4 := (Below.refl _ _).grown gr (Nat.le_refl _) (fun q hq => by cases hq)
        have ou : ownsU w4 wr.heap.size v4 l := ow
        have HP2 : Hid (PartC (w4.setCell ⟨D, k * 3 + 2, none⟩ v4) D N m g3 (fun i => if i = k then v4 else vs i) (k + 1)) := HS.out w4 v4 b4 ou
        have HB2 : Hid (Below w.heap.size w (w4.setCell ⟨D, k * 3 + 2, none⟩ v4)) := (hB.trans (b4.mono hB.size)).setCell (p := ⟨D, k * 3 + 2, none⟩) hD _
        obtain ⟨c4, f4⟩ := HOp.out w4 b4
        obtain ⟨ax, cx, hv4, _⟩ := ownsU_src ou
        subst hv4
        clear HS HOp HCa hB hi1 hy0 hy1 hy2 ow ou gr b4 c2' f2'
        go_wp2
        go_roundw
        case rel => exact ⟨k + 1, _, by omega, by go_num, HP2.out, HB2.out⟩
        case measure => simp [intOf]; omega
    · have hkm : k = m := by omega
      subst hkm
      have HD := HRs.out wr vs hP
      have HD : Hid (DRes cs w.heap.size wr (.slice (some ⟨D, 0, none⟩) k N)) := HD
      have HB : Hid (Below w.heap.size w wr) := hB
      clear HRs HG3 HmN hP hB
      go_wp2
      go_ret
      exact ⟨_, rfl, HD.out, HB.out⟩

theorem implDist_any (cs : List C) (a : Option Addr) (cap : Nat) (w : World) (hs : CSrc w a cs) (hok : ∀ c ∈ cs, c.ok) (hn : cs.length ≤ 1048576) (hm : ∀ c ∈ cs, c.args.length ≤ 1048576) :
    Calls Try.prog 14 #[.slice a cs.length cap] w fun e w' => ∃ v, e = .returned v ∧ DRes cs w.heap.size w' v ∧ Below w.heap.size w w' := by
  by_cases h0 : cs.length = 0
  · obtain rfl : cs = [] := List.eq_nil_of_length_eq_zero h0
    refine (implDist_none a cap w).mono ?_
    rintro e w' ⟨rfl, rfl⟩
    exact ⟨_, rfl, ⟨[], isDist_nil, Nat.le_refl _, .inl ⟨rfl, rfl⟩⟩, Below.refl _ _⟩
  · rcases hs with rfl | ⟨b, o, rfl, _, hc⟩
    · simp at h0
    · exact implDist_some cs b o cap w hc (by omega) hok hn hm
end Go.Proofs.Ytpbljegjinjmnaa
