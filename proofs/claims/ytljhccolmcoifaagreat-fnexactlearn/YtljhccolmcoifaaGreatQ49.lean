/-
  PolEq, PolEr, Open, OpenC, OpenD, OpenK, OpenN
-/
import Derived.Test.YtljhccolmcoifaaGreatQ14
import Derived.Test.YtljhccolmcoifaaGreatQ09
import Derived.ProofKit
import Derived.OpenShut
import Derived.ShutString
import Derived.ChangeOld
import Derived.Below
import Derived.Deep.Slices
import Derived.Test.YtljhccolmcoifaaGreatQ10
import Derived.Test.YtljhccolmcoifaaGreatQ12
namespace Go.Proofs.YtljhccolmcoifaaGreat
open Go.RowKit
set_option linter.unusedVariables false

set_option maxRecDepth 100000 in
set_option maxHeartbeats 4000000 in
theorem eqConS_any (l : List K) (a a' : Option Addr) (cap cap' : Nat) (w : World) (hs : LSrc 3 PK w a l) (hs' : LSrc 3 PK w a' l) (hn : l.length ≤ 16777216) :
    Calls Tryz.prog 136 #[.slice a l.length cap, .slice a' l.length cap'] w fun e w' => e = .returned (.bool true) ∧ Below w.heap.size w w' := by
  have HP : Hid (∀ wr, Below w.heap.size w wr → ∀ i, i < l.length → ∃ b o, a = some ⟨b, o, none⟩ ∧ b < wr.heap.size ∧ PK wr b (o + i * 3) (l.getD i K.zero)) := fun wr hB i hi => (hs.below PK.stays hB).at hi K.zero
  have HP' : Hid (∀ wr, Below w.heap.size w wr → ∀ i, i < l.length → ∃ b o, a' = some ⟨b, o, none⟩ ∧ b < wr.heap.size ∧ PK wr b (o + i * 3) (l.getD i K.zero)) := fun wr hB i hi => (hs'.below PK.stays hB).at hi K.zero
  clear hs hs'
  generalize l.length = n at *
  go_enter Tryz.func136, Tryz.ntmps136
  go_wp2_with fail
  go_loopw [5] (fun i wr => ∃ k : Nat, k ≤ n ∧ i = .int .i64 k ∧ Below w.heap.size w wr) (fun i _ => n - (intOf i).toNat)
  case atStart => exact ⟨0, by omega, rfl, Below.refl _ _⟩
  case round =>
    obtain ⟨k, hk, rfl, B⟩ := hrel
    by_cases hkn : k < n
    · obtain ⟨b, o, rfl, hlt, c0, c1, c2⟩ := HP.out wr B k hkn
      obtain ⟨b', o', rfl, hlt', d0, d1, d2⟩ := HP'.out wr B k hkn
      have hkn' : (k : Int) < (n : Int) := by omega
      have HC : Hid (∀ w1, Calls Tryz.prog 142 #[conV (l.getD k K.zero), conV (l.getD k K.zero)] w1 fun e w' => e = .returned (.bool true) ∧ Below w1.heap.size w1 w') := fun w1 => eqCon_same _ w1
      generalize l.getD k K.zero = c at *
      obtain ⟨ck, ca, cb⟩ := c
      simp only [conV] at c0 c1 c2 d0 d1 d2 HC
      clear HP HP'
      go_wp2_with fail
      go_region_with (go_at_call 142; refine (HC.out _).mono ?_; rintro e w1 ⟨rfl, hb1⟩)
      all_goals
        have B1 := below_step hb1 B.drew
        go_wp2
        go_roundw
        case rel => exact ⟨k + 1, by omega, by go_num, B1⟩
        case measure => simp [intOf]; omega
    · go_wp2
      go_ret
      exact ⟨rfl, B⟩

set_option maxRecDepth 100000 in
set_option maxHeartbeats 2000000 in
theorem eqRule_any (r : List K) (a a' : Option Addr) (cap cap' : Nat) (w : World) (hs : LSrc 3 PK w a r) (hs' : LSrc 3 PK w a' r) (hn : r.length ≤ 16777216) :
    Calls Tryz.prog 117 #[.agg #[.slice a r.length cap], .agg #[.slice a' r.length cap']] w fun e w' => e = .returned (.bool true) ∧ Below w.heap.size w w' := by
  have HC : Hid (∀ w1, Below w.heap.size w w1 → Calls Tryz.prog 136 #[.slice a r.length cap, .slice a' r.length cap'] w1 fun e w' => e = .returned (.bool true) ∧ Below w1.heap.size w1 w') := fun w1 hb => eqConS_any r a a' cap cap' w1 (hs.below PK.stays hb) (hs'.below PK.stays hb) hn
  have B : Below w.heap.size w ((w.alloc (.cells #[.slice a r.length cap] 108)).alloc (.cells #[.slice a' r.length cap'] 108)) := ((Below.refl _ _).alloc (Nat.le_refl _) _).alloc (by simp) _
  clear hs hs'
  generalize r.length = n at *
  go_enter Tryz.func117, Tryz.ntmps117
  go_wp2_with fail
  refine (HC.out _ B).mono ?_
  rintro _ w1 ⟨rfl, hb1⟩
  have B1 := below_step hb1 B
  go_wp2
  go_ret
  exact ⟨rfl, B1⟩

set_option maxRecDepth 100000 in
set_option maxHeartbeats 4000000 in
theorem eqRuleS_any (l : List (List K)) (a a' : Option Addr) (cap cap' : Nat) (w : World) (hs : LSrc 1 PR w a l) (hs' : LSrc 1 PR w a' l) (hn : l.length ≤ 16777216) (hm : ∀ r ∈ l, r.length ≤ 16777216) :
    Calls Tryz.prog 89 #[.slice a l.length cap, .slice a' l.length cap'] w fun e w' => e = .returned (.bool true) ∧ Below w.heap.size w w' := by
  have HP : Hid (∀ wr, Below w.heap.size w wr → ∀ i, i < l.length → ∃ b o, a = some ⟨b, o, none⟩ ∧ b < wr.heap.size ∧ PR wr b (o + i * 1) (l.getD i [])) := fun wr hB i hi => (hs.below PR.stays hB).at hi []
  have HP' : Hid (∀ wr, Below w.heap.size w wr → ∀ i, i < l.length → ∃ b o, a' = some ⟨b, o, none⟩ ∧ b < wr.heap.size ∧ PR wr b (o + i * 1) (l.getD i [])) := fun wr hB i hi => (hs'.below PR.stays hB).at hi []
  have HI : Hid (∀ i, i < l.length → (l.getD i []).length ≤ 16777216) := fun i hi => hm _ (by rw [List.getD_eq_getElem?_getD, List.getElem?_eq_getElem hi]; exact List.getElem_mem hi)
  clear hs hs' hm
  generalize l.length = n at *
  go_enter Tryz.func89, Tryz.ntmps89
  go_wp2_with fail
  go_loopw [5] (fun i wr => ∃ k : Nat, k ≤ n ∧ i = .int .i64 k ∧ Below w.heap.size w wr) (fun i _ => n - (intOf i).toNat)
  case atStart => exact ⟨0, by omega, rfl, Below.refl _ _⟩
  case round =>
    obtain ⟨k, hk, rfl, B⟩ := hrel
    by_cases hkn : k < n
    · obtain ⟨b, o, rfl, hlt, a2, cap2, c0, hsr⟩ := HP.out wr B k hkn
      obtain ⟨b', o', rfl, hlt', a3, cap3, d0, hsr'⟩ := HP'.out wr B k hkn
      have hkn' : (k : Int) < (n : Int) := by omega
      have hml := HI.out k hkn
      have HC : Hid (∀ w1, Below wr.heap.size wr w1 → Calls Tryz.prog 117 #[.agg #[.slice a2 (l.getD k []).length cap2], .agg #[.slice a3 (l.getD k []).length cap3]] w1 fun e w' => e = .returned (.bool true) ∧ Below w1.heap.size w1 w') := fun w1 hb => eqRule_any _ a2 a3 cap2 cap3 w1 (hsr.below PK.stays hb) (hsr'.below PK.stays hb) hml
      have HC1 : Hid (Calls Tryz.prog 117 #[.agg #[.slice a2 (l.getD k []).length cap2], .agg #[.slice a3 (l.getD k []).length cap3]] wr.drew fun e w' => e = .returned (.bool true) ∧ Below wr.drew.heap.size wr.drew w') := HC.out wr.drew (Below.refl _ _).drew
      rw [Nat.mul_one] at c0 d0
      generalize (l.getD k []).length = m at *
      clear HP HP' HI hsr hsr' HC
      go_wp2_with fail
      go_region_with (go_at_call 117; refine (HC1.out).mono ?_; rintro e w1 ⟨rfl, hb1⟩)
      all_goals
        have B1 := below_step hb1 B.drew
        go_wp2
        go_roundw
        case rel => exact ⟨k + 1, by omega, by go_num, B1⟩
        case measure => simp [intOf]; omega
    · go_wp2
      go_ret
      exact ⟨rfl, B⟩
end Go.Proofs.YtljhccolmcoifaaGreat
namespace Go.Proofs.YtljhccolmcoifaaGreat
open Go.RowKit
set_option linter.unusedVariables false

set_option maxRecDepth 100000 in
set_option maxHeartbeats 2000000 in
theorem eqEntry_any (e : E) (a a' : Option Addr) (cap cap' : Nat) (w : World) (hs : LSrc 1 PR w a e.rules) (hs' : LSrc 1 PR w a' e.rules) (hn : e.rules.length ≤ 16777216) (hm : ∀ r ∈ e.rules, r.length ≤ 16777216) :
    Calls Tryz.prog 66 #[.agg #[.int .u32 e.arch, .int .u32 e.nr, .slice a e.rules.length cap], .agg #[.int .u32 e.arch, .int .u32 e.nr, .slice a' e.rules.length cap']] w fun e w' => e = .returned (.bool true) ∧ Below w.heap.size w w' := by
  have HC : Hid (∀ w1, Below w.heap.size w w1 → Calls Tryz.prog 89 #[.slice a e.rules.length cap, .slice a' e.rules.length cap'] w1 fun e w' => e = .returned (.bool true) ∧ Below w1.heap.size w1 w') := fun w1 hb => eqRuleS_any e.rules a a' cap cap' w1 (hs.below PR.stays hb) (hs'.below PR.stays hb) hn hm
  have B : Below w.heap.size w ((w.alloc (.cells #[.int .u32 e.arch, .int .u32 e.nr, .slice a e.rules.length cap] 76)).alloc (.cells #[.int .u32 e.arch, .int .u32 e.nr, .slice a' e.rules.length cap'] 76)) := ((Below.refl _ _).alloc (Nat.le_refl _) _).alloc (by simp) _
  clear hs hs' hn hm
  generalize e.rules.length = n at *
  go_enter Tryz.func66, Tryz.ntmps66
  go_wp2_with fail
  refine (HC.out _ B).mono ?_
  rintro _ w1 ⟨rfl, hb1⟩
  have B1 := below_step hb1 B
  go_wp2
  go_ret
  exact ⟨rfl, B1⟩

set_option maxRecDepth 100000 in
set_option maxHeartbeats 4000000 in
theorem eqEntryS_any (l : List E) (a a' : Option Addr) (cap cap' : Nat) (w : World) (hs : LSrc 3 PE w a l) (hs' : LSrc 3 PE w a' l) (hn : l.length ≤ 16777216) (hm : ∀ e ∈ l, e.rules.length ≤ 16777216 ∧ ∀ r ∈ e.rules, r.length ≤ 16777216) :
    Calls Tryz.prog 32 #[.slice a l.length cap, .slice a' l.length cap'] w fun e w' => e = .returned (.bool true) ∧ Below w.heap.size w w' := by
  have HP : Hid (∀ wr, Below w.heap.size w wr → ∀ i, i < l.length → ∃ b o, a = some ⟨b, o, none⟩ ∧ b < wr.heap.size ∧ PE wr b (o + i * 3) (l.getD i E.zero)) := fun wr hB i hi => (hs.below PE.stays hB).at hi E.zero
  have HP' : Hid (∀ wr, Below w.heap.size w wr → ∀ i, i < l.length → ∃ b o, a' = some ⟨b, o, none⟩ ∧ b < wr.heap.size ∧ PE wr b (o + i * 3) (l.getD i E.zero)) := fun wr hB i hi => (hs'.below PE.stays hB).at hi E.zero
  have HI : Hid (∀ i, i < l.length → (l.getD i E.zero).rules.length ≤ 16777216 ∧ ∀ r ∈ (l.getD i E.zero).rules, r.length ≤ 16777216) := fun i hi => hm _ (by rw [List.getD_eq_getElem?_getD, List.getElem?_eq_getElem hi]; exact List.getElem_mem hi)
  clear hs hs' hm
  generalize l.length = n at *
  go_enter Tryz.func32, Tryz.ntmps32
  go_wp2_with fail
  go_loopw [5] (fun i wr => ∃ k : Nat, k ≤ n ∧ i = .int .i64 k ∧ Below w.heap.size w wr) (fun i _ => n - (intOf i).toNat)
  case atStart => exact ⟨0, by omega, rfl, Below.refl _ _⟩
  case round =>
    obtain ⟨k, hk, rfl, B⟩ := hrel
    by_cases hkn : k < n
    · obtain ⟨b, o, rfl, hlt, c0, c1, a2, cap2, c2, hsr⟩ := HP.out wr B k hkn
      obtain ⟨b', o', rfl, hlt', d0, d1, a3, cap3, d2, hsr'⟩ := HP'.out wr B k hkn
      have hkn' : (k : Int) < (n : Int) := by omega
      obtain ⟨hml, hmr⟩ := HI.out k hkn
      have HC1 : Hid (Calls Tryz.prog 66 #[.agg #[.int .u32 (l.getD k E.zero).arch, .int .u32 (l.getD k E.zero).nr, .slice a2 (l.getD k E.zero).rules.length cap2], .agg #[.int .u32 (l.getD k E.zero).arch, .int .u32 (l.getD k E.zero).nr, .slice a3 (l.getD k E.zero).rules.length cap3]] wr.drew fun e w' => e = .returned (.bool true) ∧ Below wr.drew.heap.size wr.drew w') := eqEntry_any _ a2 a3 cap2 cap3 wr.drew (hsr.below PR.stays (Below.refl _ _).drew) (hsr'.below PR.stays (Below.refl _ _).drew) hml hmr
      clear HP HP' HI hsr hsr' hml hmr
      generalize (l.getD k E.zero).rules.length = m at *
      generalize (l.getD k E.zero).arch = ea at *
      generalize (l.getD k E.zero).nr = en at *
      go_wp2_with fail
      go_region_with (go_at_call 66; refine (HC1.out).mono ?_; rintro e w1 ⟨rfl, hb1⟩)
      all_goals
        have B1 := below_step hb1 B.drew
        go_wp2
        go_roundw
        case rel => exact ⟨k + 1, by omega, by go_num, B1⟩
        case measure => simp [intOf]; omega
    · go_wp2
      go_ret
      exact ⟨rfl, B⟩

set_option maxRecDepth 100000 in
set_option maxHeartbeats 2000000 in
theorem eqPolicy_any (r : List E) (a a' : Option Addr) (cap cap' : Nat) (w : World) (hs : LSrc 3 PE w a r) (hs' : LSrc 3 PE w a' r) (hn : r.length ≤ 16777216) (hm : ∀ e ∈ r, e.rules.length ≤ 16777216 ∧ ∀ c ∈ e.rules, c.length ≤ 16777216) :
    Calls Tryz.prog 9 #[.agg #[.slice a r.length cap], .agg #[.slice a' r.length cap']] w fun e w' => e = .returned (.bool true) ∧ Below w.heap.size w w' := by
  have HC : Hid (∀ w1, Below w.heap.size w w1 → Calls Tryz.prog 32 #[.slice a r.length cap, .slice a' r.length cap'] w1 fun e w' => e = .returned (.bool true) ∧ Below w1.heap.size w1 w') := fun w1 hb => eqEntryS_any r a a' cap cap' w1 (hs.below PE.stays hb) (hs'.below PE.stays hb) hn hm
  have B : Below w.heap.size w ((w.alloc (.cells #[.slice a r.length cap] 28)).alloc (.cells #[.slice a' r.length cap'] 28)) := ((Below.refl _ _).alloc (Nat.le_refl _) _).alloc (by simp) _
  clear hs hs' hn hm
  generalize r.length = n at *
  go_enter Tryz.func9, Tryz.ntmps9
  go_wp2_with fail
  refine (HC.out _ B).mono ?_
  rintro _ w1 ⟨rfl, hb1⟩
  have B1 := below_step hb1 B
  go_wp2
  go_ret
  exact ⟨rfl, B1⟩
end Go.Proofs.YtljhccolmcoifaaGreat
namespace Go.Proofs.YtljhccolmcoifaaGreat
open Go.ChangeShapes Go.WideShapes Go.ChangeAt Go.RowKit Go.Deep
set_option linter.unusedVariables false

theorem own : ownKnob Tryz.prog.godebug = none := by kernel_rfl
theorem laidOut : laidOutB Tryz.prog = true := by kernel_rfl
theorem cellsU8 : Tryz.prog.cellsOf 5 = 1 := by kernel_rfl
theorem cellsU32 : Tryz.prog.cellsOf 41 = 1 := by kernel_rfl

theorem cell_lt {w : World} {a : Addr} {v : Value} (h : w.cell? a = some v) : a.block < w.heap.size := by
  by_cases hb : a.block < w.heap.size
  · exact hb
  · exfalso
    simp [World.cell?, Array.getElem?_eq_none (show w.heap.size ≤ a.block by omega)] at h

end Go.Proofs.YtljhccolmcoifaaGreat
namespace Go.Proofs.YtljhccolmcoifaaGreat
open Go.RowKit
set_option linter.unusedVariables false

theorem cellsCall : Tryz.prog.cellsOf 44 = 3 := by kernel_rfl
theorem cellsLongs : Tryz.prog.cellsOf 42 = 1 := by kernel_rfl

open Go.ChangeShapes Go.WideShapes Go.ChangeAt Go.Deep in
set_option maxRecDepth 100000 in
theorem open_longs {H : Type} {enc : TypeId × Value → H} {W : World} {fuel : Nat} {cs : List Value} {x : DataW H × List MemPlace}
    (hf : DataW.trod enc Tryz.prog W 0 (fun _ => true) true fuel 42 cs = some x) :
    ∃ (a : Option Addr) (l : List Int) (cap : Nat), cs = [.slice a l.length cap] ∧ l.length ≤ maxLen ∧ USrc W a l ∧ ∀ y ∈ l, isU64 y := by
  rcases open_ints Tryz.underlying42 Tryz.underlying67 (by kernel_rfl) hf with ⟨rfl, _⟩ | ⟨x, len, cap, zs, rfl, _, hl, hm, hz, _, hcell, hwz⟩
  · exact ⟨none, [], 0, rfl, by simp, .inl rfl, by simp⟩
  · have hzl : zs.length = cap := by simpa using hz
    have hlen : (zs.take len).length = len := by simp; omega
    refine ⟨some x, zs.take len, cap, by rw [hlen], by omega, ?_, fun y hy => bounds_u64 (hwz y (List.mem_of_mem_take hy))⟩
    by_cases h0 : len = 0
    · subst h0; exact .inl (by simp)
    · have hc0 := hcell 0 (by omega)
      have hspot : x.spot = none := by simpa [Addr.add] using World.cell?_spot hc0
      have hlt : x.block < W.heap.size := by simpa [Addr.add] using cell_lt hc0
      obtain ⟨b, o, sp⟩ := x
      simp only at hspot
      subst hspot
      refine .inr ⟨b, o, rfl, hlt, fun i hi => ?_⟩
      have hi' : i < len := by omega
      have hc := hcell i (by omega)
      rw [add_at] at hc
      rw [hc]
      simp [List.getD_eq_getElem?_getD, hi']

open Go.ChangeShapes Go.WideShapes Go.ChangeAt Go.Deep in
set_option maxRecDepth 100000 in
theorem open_cells {H : Type} {enc : TypeId × Value → H} {W : World} {fuel : Nat} {cs : List Value} {x : DataW H × List MemPlace}
    (hf : DataW.trod enc Tryz.prog W 0 (fun _ => true) true fuel 44 cs = some x) :
    ∃ (c : C) (a : Option Addr) (cap : Nat), cs = [.int .u32 c.arch, .int .u32 c.nr, .slice a c.args.length cap] ∧ c.args.length ≤ maxLen ∧ USrc W a c.args ∧ c.ok := by
  obtain ⟨xs, k, hk, hxy, hlen, hxl, hfl⟩ := DataW.trod_struct Tryz.underlying44 hf
  rw [cellsCall] at hlen
  match xs, hxl, cs, hlen with
  | [y0, y1, y2], _, [v0, v1, v2], _ =>
    have g0 := hfl 0 _ rfl
    have g1 := hfl 1 _ rfl
    have g2 := hfl 2 _ rfl
    simp [cellsU32, cellsLongs] at g0 g1 g2
    obtain ⟨a0, e0, _, w0⟩ := DataW.trod_int Tryz.underlying41 g0
    obtain ⟨a1, e1, _, w1⟩ := DataW.trod_int Tryz.underlying41 g1
    obtain ⟨a, l, cap, e2, hm, hs, hu⟩ := open_longs g2
    simp at e0 e1 e2
    subst e0 e1 e2
    have b0 := bounds_u32 w0
    have b1 := bounds_u32 w1
    exact ⟨⟨a0, a1, l⟩, a, cap, rfl, hm, hs, ⟨b0.1, b0.2, b1.1, b1.2, hu⟩⟩

open Go.ChangeShapes Go.WideShapes Go.ChangeAt Go.Deep in
set_option maxRecDepth 100000 in
theorem open_call {H : Type} {enc : TypeId × Value → H} {W : World} {v : Value} {d : DataW H} {ps : List MemPlace} {base : Nat} (hv : Value.okWide Tryz.prog W .any base 44 v)
    (h : DataW.Trod enc Tryz.prog W 0 (fun _ => true) true 44 v d ps) :
    ∃ (c : C) (a : Option Addr) (cap : Nat), v = callV c (.slice a c.args.length cap) ∧ c.args.length ≤ maxLen ∧ USrc W a c.args ∧ c.ok := by
  obtain ⟨fuel, hf⟩ := h
  obtain ⟨cs, rfl, hcs⟩ := okWide_struct Tryz.underlying44 hv
  obtain ⟨c, a, cap, e, hm, hs, hok⟩ := open_cells hf
  refine ⟨c, a, cap, ?_, hm, hs, hok⟩
  simp [Value.cells] at e
  cases cs; simp_all
end Go.Proofs.YtljhccolmcoifaaGreat
namespace Go.Proofs.YtljhccolmcoifaaGreat
open Go.RowKit
set_option linter.unusedVariables false

instance : Inhabited C := ⟨C.zero⟩

open Go.ChangeShapes Go.WideShapes Go.ChangeAt Go.Deep in
set_option maxRecDepth 100000 in
theorem open_calls {H : Type} {enc : TypeId × Value → H} {W : World} {a : Option Addr} {len cap : Nat} {d : DataW H} {ps : List MemPlace}
    (h : DataW.Trod enc Tryz.prog W 0 (fun _ => true) true 22 (.slice a len cap) d ps) :
    ∃ cs : List C, cs.length = len ∧ len ≤ maxLen ∧ CSrc W a cs ∧ (∀ c ∈ cs, c.ok) ∧ ∀ c ∈ cs, c.args.length ≤ maxLen := by
  obtain ⟨fuel, hf⟩ := h
  rcases open_slice Tryz.underlying22 hf with ⟨hcs, _⟩ | ⟨x, l, c, m, n, D, Pl, hcs, _, hl, hm, hmm, _, hx⟩
  · simp [Value.cells] at hcs
    obtain ⟨rfl, rfl, rfl⟩ := hcs
    exact ⟨[], rfl, by simp, .inl rfl, by simp, by simp⟩
  · simp [Value.cells] at hcs
    obtain ⟨rfl, rfl, rfl⟩ := hcs
    simp only [if_true] at hmm
    subst hmm
    rw [cellsCall] at hx
    have each : ∀ i, i < len → ∃ q : C, (W.cell? (x.add (i * 3)) = some (.int .u32 q.arch) ∧ W.cell? (x.add (i * 3 + 1)) = some (.int .u32 q.nr) ∧ ∃ a' cap', W.cell? (x.add (i * 3 + 2)) = some (.slice a' q.args.length cap') ∧ USrc W a' q.args) ∧ q.ok ∧ q.args.length ≤ maxLen := by
      intro i hi
      obtain ⟨cs', h1, h2⟩ := hx i (by omega)
      obtain ⟨_, hlen, hcell⟩ := World.cells?_some h1
      obtain ⟨q, a', cap', e, hmq, hs, hok⟩ := open_cells h2
      subst e
      have c0 := hcell 0 (by omega)
      have c1 := hcell 1 (by omega)
      have c2 := hcell 2 (by omega)
      rw [add_add] at c0 c1 c2
      exact ⟨q, ⟨by simpa using c0, by simpa using c1, a', cap', by simpa using c2, hs⟩, hok, hmq⟩
    obtain ⟨q, hq⟩ := choose_lt each
    by_cases h0 : len = 0
    · subst h0
      exact ⟨[], rfl, by simp, .inl rfl, by simp, by simp⟩
    · have hspot : x.spot = none := by simpa [Addr.add] using World.cell?_spot (hq 0 (by omega)).1.1
      have hlt : x.block < W.heap.size := by simpa [Addr.add] using cell_lt (hq 0 (by omega)).1.1
      obtain ⟨b, o, sp⟩ := x
      simp only at hspot
      subst hspot
      refine ⟨(List.range len).map q, by simp, by omega, .inr ⟨b, o, rfl, hlt, fun i hi => ?_⟩, ?_, ?_⟩
      · have hi' : i < len := by simpa using hi
        have e : ((List.range len).map q).getD i C.zero = q i := by
          simp [List.getD_eq_getElem?_getD, hi']
        rw [e]
        obtain ⟨⟨c0, c1, a', cap', c2, hs⟩, _⟩ := hq i hi'
        rw [add_at] at c0 c1 c2
        exact ⟨by simpa [Nat.add_assoc] using c0, by simpa [Nat.add_assoc] using c1, a', cap', by simpa [Nat.add_assoc] using c2, hs⟩
      · intro y hy
        simp only [List.mem_map, List.mem_range] at hy
        obtain ⟨i, hi, rfl⟩ := hy
        exact (hq i hi).2.1
      · intro y hy
        simp only [List.mem_map, List.mem_range] at hy
        obtain ⟨i, hi, rfl⟩ := hy
        exact (hq i hi).2.2
end Go.Proofs.YtljhccolmcoifaaGreat
namespace Go.Proofs.YtljhccolmcoifaaGreat
open Go.RowKit
set_option linter.unusedVariables false

theorem cellsI64 : Tryz.prog.cellsOf 3 = 1 := by kernel_rfl
theorem cellsU64 : Tryz.prog.cellsOf 67 = 1 := by kernel_rfl

/-- what three numbers make -/
theorem conV_mk {k a b : Int} (hk : -9223372036854775808 ≤ k ∧ k ≤ 9223372036854775807) (ha : 0 ≤ a ∧ a ≤ 18446744073709551615) (hb : 0 ≤ b ∧ b ≤ 18446744073709551615) :
    ∃ c : K, c.ok ∧ k = c.kind ∧ a = (c.a : Int) ∧ b = (c.b : Int) :=
  ⟨⟨k, a.toNat, b.toNat⟩, ⟨hk, by simp only; omega, by simp only; omega⟩, rfl, by simp only; omega, by simp only; omega⟩

end Go.Proofs.YtljhccolmcoifaaGreat
namespace Go.Proofs.YtljhccolmcoifaaGreat
open Go.RowKit
set_option linter.unusedVariables false

theorem cellsKnobs : Tryz.prog.cellsOf 24 = 3 := by kernel_rfl

open Go.ChangeShapes Go.WideShapes Go.ChangeAt Go.Deep in
set_option maxRecDepth 100000 in
theorem open_knobsCells {H : Type} {enc : TypeId × Value → H} {W : World} {fuel : Nat} {cs : List Value} {x : DataW H × List MemPlace}
    (hf : DataW.trod enc Tryz.prog W 0 (fun _ => true) true fuel 24 cs = some x) :
    ∃ ex sp f : Int, cs = [.int .i64 ex, .int .i64 sp, .int .i64 f] := by
  obtain ⟨xs, k, hk, hxy, hlen, hxl, hfl⟩ := DataW.trod_struct Tryz.underlying24 hf
  rw [cellsKnobs] at hlen
  match xs, hxl, cs, hlen with
  | [y0, y1, y2], _, [v0, v1, v2], _ =>
    have g0 := hfl 0 _ rfl
    have g1 := hfl 1 _ rfl
    have g2 := hfl 2 _ rfl
    simp [cellsI64] at g0 g1 g2
    obtain ⟨a0, e0, _, w0⟩ := DataW.trod_int Tryz.underlying3 g0
    obtain ⟨a1, e1, _, w1⟩ := DataW.trod_int Tryz.underlying3 g1
    obtain ⟨a2, e2, _, w2⟩ := DataW.trod_int Tryz.underlying3 g2
    simp at e0 e1 e2
    subst e0 e1 e2
    exact ⟨_, _, _, rfl⟩

open Go.ChangeShapes Go.WideShapes Go.ChangeAt Go.Deep in
set_option maxRecDepth 100000 in
theorem open_knobs {H : Type} {enc : TypeId × Value → H} {W : World} {v : Value} {d : DataW H} {ps : List MemPlace} {base : Nat} (hv : Value.okWide Tryz.prog W .any base 24 v)
    (h : DataW.Trod enc Tryz.prog W 0 (fun _ => true) true 24 v d ps) : ∃ ex sp f : Int, v = .agg #[.int .i64 ex, .int .i64 sp, .int .i64 f] := by
  obtain ⟨fuel, hf⟩ := h
  obtain ⟨cs, rfl, hcs⟩ := okWide_struct Tryz.underlying24 hv
  obtain ⟨ex, sp, f, e⟩ := open_knobsCells hf
  refine ⟨ex, sp, f, ?_⟩
  simp [Value.cells] at e
  cases cs; simp_all

set_option maxHeartbeats 1000000 in
theorem toKnobs_any (ex sp f : Int) (w : World) :
    Calls Tryz.prog 7 #[.agg #[.int .i64 ex, .int .i64 sp, .int .i64 f]] w fun e w' => e = .returned (.agg #[.int .i64 ex, .int .i64 sp, .int .i64 f]) ∧ Below w.heap.size w w' := by
  go_enter Tryz.func7, Tryz.ntmps7
  go_wp2
  refine bodyPost_ret (v := .agg #[.int .i64 ex, .int .i64 sp, .int .i64 f]) (by simp [results, Tryz.results7, go_sem]) rfl ⟨rfl, ?_⟩
  exact (((Below.refl _ _).alloc (Nat.le_refl _) _).alloc (by simp) _).alloc (by simp; omega) _
end Go.Proofs.YtljhccolmcoifaaGreat
