/-
  CallsLaw
-/
import Derived.Test.YtjbbiailhpkdeaaDoorRows
import Derived.Test.YtjbbiailhpkdeaaDoorCards
import Derived.Test.YtjbbiailhpkdeaaDoorTie
import Derived.Test.YtjbbiailhpkdeaaDoorQ05
import Derived.Test.YtjbbiailhpkdeaaDoorQ11
import Derived.Test.YtjbbiailhpkdeaaDoorV4
import Derived.Test.YtjbbiailhpkdeaaDoorV5
import Derived.SevenTiedAt
namespace Go.Proofs.YtjbbiailhpkdeaaDoor.fnCalls
open Go.ChangeShapes Go.WideShapes Go.ChangeAt Go.RowKit Go.Deep
set_option linter.unusedVariables false

theorem bytes_at {w : World} {B : Nat} {v : Value} {l : List Int} (h : owns w B v l) (h0 : 0 < l.length) : ∃ g cp, v = .slice (some ⟨g, 0, none⟩) l.length cp ∧ l.length ≤ cp ∧ g < w.heap.size ∧ BytesAt w g 0 l := by
  have h' := h
  obtain ⟨_, h1 | ⟨g, cp, cur, rfl, hb, hg, hn, hm, hs, hx⟩⟩ := h
  · omega
  · refine ⟨g, cp, rfl, hn, (h'.lt g rfl).2, ?_⟩
    obtain ⟨a, c, e, hs'⟩ := owns_src h'
    simp only [Value.slice.injEq] at e
    obtain ⟨rfl, _, _⟩ := e
    rcases hs' with h2 | ⟨b, o, e2, _, hB⟩
    · rw [h2] at h0; simp at h0
    · simp only [Option.some.injEq, Addr.mk.injEq] at e2
      obtain ⟨rfl, rfl, _⟩ := e2
      exact hB

theorem littleL_byt (v : Int) (n : Nat) : isBytes (littleL v n) := by
  induction n generalizing v with
  | zero => intro x hx; simp [littleL] at hx
  | succ n ih =>
    intro x hx
    simp only [littleL, List.mem_cons] at hx
    rcases hx with rfl | hx
    · omega
    · exact ih _ x hx

theorem logL_byt {cs : List C} (h : ∀ c ∈ cs, c.ok) : isBytes (logL cs) := by
  refine isBytes_append (isBytes_append ?_ (littleL_byt _ _)) ?_
  · intro x hx
    simp only [List.mem_cons, List.not_mem_nil, or_false] at hx
    rcases hx with rfl | rfl | rfl | rfl | rfl <;> omega
  · intro x hx
    simp only [framesL, List.mem_flatMap] at hx
    obtain ⟨c, hc, hx⟩ := hx
    refine isBytes_append (isBytes_append ?_ (bodyL_ok (h c hc))) (littleL_byt _ _) x hx
    intro y hy
    simp only [List.mem_cons, List.not_mem_nil, or_false] at hy
    subst hy
    omega

/-- the bytes lie in block g -/
def BA (B : List Int) (W : World) (g : Nat) : Prop := g < W.heap.size ∧ BytesAt W g 0 B
theorem BA.below {B : List Int} {W W1 : World} {g : Nat} (h : BA B W g) (hb : Below W.heap.size W W1) : BA B W1 g :=
  ⟨Nat.lt_of_lt_of_le h.1 hb.size, fun i hi => (hb.cell (p := ⟨g, _, none⟩) h.1).trans (h.2 i hi)⟩

set_option maxRecDepth 100000 in
set_option maxHeartbeats 4000000 in
theorem walk (a : Option Addr) (cap : Nat) (l : List Int) (w : World) (hs : BSrc w a l) (hl : isBytes l) (hm : l.length ≤ maxLen) (hcap : l.length ≤ cap) (hg : ErrT w) :
    Calls Tryd.prog 4 #[.slice a l.length cap] w fun e w' => e = .returned (.bool true) ∧ Below w.heap.size w w' := by
  unfold maxLen at hm
  by_cases hn : l.length ≤ 1048576
  · rcases drawEnc_det l hl hn with ⟨cs, hok, hlen, HG⟩ | HB
    · have HG' : Hid (∀ W, Below w.heap.size w W → Calls Tryd.prog 11 #[.slice a l.length cap] W fun e w' => ∃ a' cap', e = .returned (.slice a' cs.length cap') ∧ CSrc w' a' cs ∧ Below W.heap.size W w') := fun W h => HG a cap W (hs.below h) hcap
      clear HG
      by_cases hbig : 1000 < cs.length
      · have hb' : (1000 : Int) < (cs.length : Int) := by omega
        have HG2 : Hid (Calls Tryd.prog 11 #[.slice a l.length cap] w fun e w' => ∃ a' cap', e = .returned (.slice a' cs.length cap') ∧ Below w.heap.size w w') := (HG'.out w (Below.refl _ _)).mono (by rintro e w' ⟨a', c', h1, _, h3⟩; exact ⟨a', c', h1, h3⟩)
        clear HG' hok hs hl hg
        generalize cs.length = n at *
        generalize l.length = ll at *
        go_enter Tryd.func4, Tryd.ntmps4
        go_wp2_with fail
        refine HG2.out.mono ?_
        rintro _ w1 ⟨a1, c1, rfl, B1⟩
        go_wp2
        go_ret
        exact ⟨rfl, B1⟩
      · have hOk : ∀ c ∈ cs, c.ok := fun c hc => (hok c hc).1
        have h6 : ∀ c ∈ cs, c.args.length = 6 := fun c hc => (hok c hc).2
        have hle : cs.length ≤ 1000 := by omega
        have hen : encLog cs = logL cs := encLog_ok (by unfold callsOk; simp only [Bool.and_eq_true, decide_eq_true_eq, List.all_eq_true]; exact ⟨hle, fun c hc => by simp [six, h6 c hc]⟩)
        obtain ⟨m, hmm⟩ : ∃ m, (logL cs).length = m := ⟨_, rfl⟩
        have hm7 : 7 ≤ m ∧ m ≤ 75007 := by
          have := logL_len hOk h6
          have h2 : 7 ≤ (logL cs).length := by simp [logL, littleL_len]
          omega
        have hde := dec_enc hOk h6 hle
        have hds := dec_short hOk h6 hle
        rw [hmm] at hds
        have hB : isBytes (logL cs) := logL_byt hOk
        have HE : Hid (∀ W a2 c2, CSrc W a2 cs → Calls Tryd.prog 10 #[.slice a2 cs.length c2] W fun e w' => ∃ g cp, e = .returned (.slice (some ⟨g, 0, none⟩) m cp) ∧ m ≤ cp ∧ BA (logL cs) w' g ∧ Below W.heap.size W w') := fun W a2 c2 hsr => by
          refine (implEncLog_any a2 c2 cs W hsr hOk (fun c hc => by rw [h6 c hc]; omega)).mono ?_
          rintro e w' ⟨v', rfl, ho, hb⟩
          rw [hen] at ho
          obtain ⟨g, cp, e1, h1, h2, h3⟩ := bytes_at ho (by omega)
          rw [hmm] at e1 h1
          exact ⟨g, cp, by rw [e1], h1, ⟨h2, h3⟩, hb⟩
        have HD1 : Hid (∀ W g cp, Below w.heap.size w W → m ≤ cp → BA (logL cs) W g → Calls Tryd.prog 8 #[.slice (some ⟨g, 0, none⟩) m cp] W fun e w' => ∃ a4 c4, e = .returned (.tuple #[.slice a4 cs.length c4, .int .i64 0, .int .i64 0]) ∧ CSrc w' a4 cs ∧ Below W.heap.size W w') := fun W g cp hb hc hBA => by
          have := implDecodeLog_any g 0 (logL cs) cp W hBA.2 hBA.1 (by omega) (hg.below hb) hB (by omega)
          rw [hmm] at this
          refine this.mono ?_
          rintro e w' ⟨cs', code, at_, v, h3, h4, h5, h6'⟩
          rw [hde] at h3
          simp only [Prod.mk.injEq] at h3
          obtain ⟨rfl, rfl, rfl⟩ := h3
          rcases h6' with ⟨rfl, rfl⟩ | ⟨D, N, vs, rfl, h8, h9⟩
          · exact ⟨none, 0, by rw [h4]; rfl, .inl rfl, h5⟩
          · exact ⟨_, N, by rw [h4]; rfl, h9.src, h5⟩
        have HD2 : Hid (∀ W g cp, Below w.heap.size w W → m ≤ cp → BA (logL cs) W g → Calls Tryd.prog 8 #[.slice (some ⟨g, 0, none⟩) (m - 1) cp] W fun e w' => ∃ a5 c5, e = .returned (.tuple #[.slice a5 0 c5, .int .i64 5, .int .i64 ((m : Int) - 1)]) ∧ Below W.heap.size W w') := fun W g cp hb hc hBA => by
          have hlt : ((logL cs).take (m - 1)).length = m - 1 := by rw [List.length_take, hmm]; omega
          have := implDecodeLog_any g 0 ((logL cs).take (m - 1)) cp W (fun i hi => by
            rw [hlt] at hi
            rw [hBA.2 i (by omega)]
            simp only [List.getD_eq_getElem?_getD, List.getElem?_take, if_pos hi]) hBA.1 (by omega) (hg.below hb) (fun x hx => hB x (List.mem_of_mem_take hx)) (by omega)
          rw [hlt] at this
          refine this.mono ?_
          rintro e w' ⟨cs', code, at_, v, h3, h4, h5, h6'⟩
          rw [hds] at h3
          simp only [Prod.mk.injEq] at h3
          obtain ⟨rfl, rfl, rfl⟩ := h3
          have em : ((m - 1 : Nat) : Int) = (m : Int) - 1 := by omega
          rw [em] at h4
          rcases h6' with ⟨_, rfl⟩ | ⟨D, N, vs, rfl, h8, h9⟩
          · exact ⟨none, 0, h4, h5⟩
          · exact ⟨_, N, h4, h5⟩
        have HS : Hid (∀ W a4 c4 a1 c1, CSrc W a4 cs → CSrc W a1 cs → Calls Tryd.prog 12 #[.slice a4 cs.length c4, .slice a1 cs.length c1] W fun e w' => e = .returned (.bool true) ∧ Below W.heap.size W w') := fun W a4 c4 a1 c1 h1 h2 => sameCalls_any a4 a1 c4 c1 cs W h1 h2 (by omega) (fun c hc => by rw [h6 c hc]; omega)
        have HSb : Hid (∀ W W1 a1, CSrc W a1 cs → Below W.heap.size W W1 → CSrc W1 a1 cs) := fun W W1 a1 h hb => h.below hb
        have HBb : Hid (∀ W W1 g, BA (logL cs) W g → Below W.heap.size W W1 → BA (logL cs) W1 g) := fun W W1 g h hb => h.below hb
        have HLn : Hid (∀ W a1 k, CSrc W a1 cs → k < cs.length → ∃ b o aa ca, a1 = some ⟨b, o, none⟩ ∧ W.cell? ⟨b, o + k * 3 + 2, none⟩ = some (.slice aa 6 ca)) := fun W a1 k h hk => by
          rcases h with rfl | ⟨b, o, rfl, hb, hA⟩
          · simp at hk
          · obtain ⟨_, _, aa, ca, c2, _⟩ := hA k hk
            rw [h6 _ (callL_mem hk)] at c2
            exact ⟨b, o, aa, ca, rfl, c2⟩
        clear hde hds hB hen hmm hOk h6 hok hs hl hg
        obtain ⟨CS, hCS⟩ : ∃ CS : World → Option Addr → Prop, ∀ W a, CSrc W a cs = CS W a := ⟨_, fun _ _ => rfl⟩
        obtain ⟨BB, hBB⟩ : ∃ BB : World → Nat → Prop, ∀ W g, BA (logL cs) W g = BB W g := ⟨_, fun _ _ => rfl⟩
        simp only [hCS, hBB] at HG' HE HD1 HD2 HS HSb HBb HLn
        clear hCS hBB
        generalize cs.length = n at *
        generalize l.length = ll at *
        have hbig' : ¬ (1000 : Int) < (n : Int) := by omega
        go_enter Tryd.func4, Tryd.ntmps4
        go_wp2_with fail
        refine (HG'.out w (Below.refl _ _)).mono ?_
        rintro _ w1 ⟨a1, c1, rfl, s1, B1⟩
        go_wp2_with fail
        go_loopw [4] (fun i wr => ∃ k : Nat, k ≤ n ∧ i = .int .i64 (k : Int) ∧ wr = w1) (fun i _ => n - (intOf i).toNat)
        case atStart => exact ⟨0, by omega, rfl, rfl⟩
        case round =>
          obtain ⟨k, hk, rfl, rfl⟩ := hrel
          by_cases hlt : k < n
          · have hlt' : (k : Int) < (n : Int) := by omega
            obtain ⟨b, o, aa, ca, rfl, c2⟩ := HLn.out _ _ k s1 hlt
            clear HG' HE HD1 HD2 HS HSb HBb HLn s1 B1
            go_wp2
            go_roundw
            case rel => first | exact ⟨k + 1, by omega, by go_num, rfl⟩ | exact ⟨k + 1, by omega, by go_num, trivial⟩
            case measure => simp [intOf]; omega
          · obtain rfl : k = n := by omega
            have hnlt : ¬ (k : Int) < (k : Int) := by omega
            clear HLn
            go_wp2_with fail
            refine (HG'.out _ B1).mono ?_
            rintro _ w2 ⟨a2, c2, rfl, s2, b2⟩
            have B2 := B1.trans (b2.mono B1.size)
            have s12 := HSb.out _ _ _ s1 b2
            clear b2 s1 B1 HG'
            go_wp2_with fail
            refine (HE.out _ _ _ s2).mono ?_
            rintro _ w3 ⟨g, cp, rfl, hcp, ba3, b3⟩
            have B3 := B2.trans (b3.mono B2.size)
            have s13 := HSb.out _ _ _ s12 b3
            clear b3 s12 s2 B2 HE
            go_wp2_with fail
            refine (HD1.out _ _ _ B3 hcp ba3).mono ?_
            rintro _ w4 ⟨a4, c4, rfl, s4, b4⟩
            have B4 := B3.trans (b4.mono B3.size)
            have s14 := HSb.out _ _ _ s13 b4
            have ba4 := HBb.out _ _ _ ba3 b4
            clear b4 s13 B3 ba3 HD1
            go_wp2_with fail
            refine (HS.out _ _ _ _ _ s4 s14).mono ?_
            rintro _ w5 ⟨rfl, b5⟩
            have B5 := B4.trans (b5.mono B4.size)
            have ba5 := HBb.out _ _ _ ba4 b5
            clear b5 s14 s4 B4 ba4 HS HSb HBb
            have hm7' : ¬ (m : Int) < 7 := by omega
            have hm1 : (0 : Int) ≤ (m : Int) - 1 := by omega
            have hm2 : (m : Int) - 1 ≤ (cp : Int) := by omega
            have hm3 : ((m : Int) - 1).toNat = m - 1 := by omega
            have hm4 : IntKind.i64.wrap ((m : Int) - 1) = (m : Int) - 1 := by rw [IntKind.wrap_i64]; omega
            have hsl : ∀ wx, (Instr.slice 22 (.slice (some ⟨g, 0, none⟩) m cp) none (some (.int .i64 ((m : Int) - 1))) none).run Tryd.prog wx = .ok (.slice (some ⟨g, 0, none⟩) (m - 1) cp) wx := fun wx => by
              have e3 : ¬ cp = 0 := by omega
              rw [run_slice_h (w := wx) 22 _ m cp (by kernel_rfl) .i64 _ hm1 hm2, hm3]
              simp [go_sem, sliced, e3]
            go_wp2_with fail
            refine (HD2.out _ _ _ B5 hcp ba5).mono ?_
            rintro _ w6 ⟨a5, c5, rfl, b6⟩
            have B6 := B5.trans (b6.mono B5.size)
            clear b6 B5 ba5 HD2 hsl
            go_wp2
            go_ret
            exact ⟨rfl, B6⟩
    · have HB' : Hid (Calls Tryd.prog 11 #[.slice a l.length cap] w fun e w' => BadL w e w') := HB a cap w hs hcap
      clear HB hs hl hg
      generalize l.length = ll at *
      go_enter Tryd.func4, Tryd.ntmps4
      go_wp2_with fail
      refine HB'.out.mono ?_
      rintro _ w1 ⟨b, n, cp, rfl, hn39, ⟨ln, hcl, p0, hp0, hne⟩, B1⟩
      have hbig' : ¬ (1000 : Int) < (n : Int) := by omega
      have Hcl : Hid (∀ p, p < n → ∃ aa ca, w1.cell? ⟨b, p * 3 + 2, none⟩ = some (.slice aa (ln p) ca)) := hcl
      have Hne : Hid (ln p0 ≠ 6) := hne
      clear hcl hne HB'
      go_wp2_with fail
      go_loopw [4] (fun i wr => ∃ k : Nat, k ≤ p0 ∧ i = .int .i64 (k : Int) ∧ wr = w1) (fun i _ => n - (intOf i).toNat)
      case atStart => exact ⟨0, by omega, rfl, rfl⟩
      case round =>
        obtain ⟨k, hk, rfl, rfl⟩ := hrel
        have hlt' : (k : Int) < (n : Int) := by omega
        obtain ⟨aa, ca, c2⟩ := Hcl.out k (by omega)
        by_cases h6 : ln k = 6
        · have hkp : k ≠ p0 := fun e => Hne.out (by rw [← e]; exact h6)
          rw [h6] at c2
          clear Hcl Hne h6 B1
          go_wp2
          go_roundw
          case rel => first | exact ⟨k + 1, by omega, by go_num, rfl⟩ | exact ⟨k + 1, by omega, by go_num, trivial⟩
          case measure => simp [intOf]; omega
        · generalize ln k = lk at *
          have h6' : ¬ (lk : Int) = 6 := by omega
          clear Hcl Hne
          go_wp2
          go_ret
          exact ⟨rfl, B1⟩
  · have hlt : (1048576 : Int) < (l.length : Int) := by omega
    go_enter Tryd.func4, Tryd.ntmps4
    go_wp2
    go_ret
    exact ⟨rfl, Below.refl _ _⟩

set_option maxRecDepth 100000 in
theorem lifted (os : Os) (started : os.Started) (H : Type) (enc : TypeId × Value → H) :
    ReturnsInHanded {} Tryd.checked os 4 .any (fun w args => (Rows.fnCallsSpec.pre enc Tryd.prog Tryd.f4 [] false w args ∧ laidMetH Tryd.prog Rows.fnCallsRow.laid w) ∧ sizedMet enc Tryd.prog Tryd.f4 (OpenSpec.ofChange Rows.fnCallsSpec) false w args)
      (Rows.fnCallsSpec.post enc Tryd.prog Tryd.f4 false true false false) := by
  refine returnsInHanded_of_change_and (C := Tryd.checked) (X := fun w _ => laidMetH Tryd.prog Rows.fnCallsRow.laid w) (fun _ _ _ hh h => h.of_heap hh) own started (by kernel_rfl) Tryd.func4
    (ChangeSpec.witness_at (enc := enc) (C := Tryd.checked) (os := os) (X := fun w _ => laidMetH Tryd.prog Rows.fnCallsRow.laid w) false (laidWorldD os) #[.slice none 0 0] 8 rfl (by kernel_rfl) (by kernel_rfl) (by kernel_rfl) (by kernel_rfl) (by kernel_rfl) (laidWorldD_met os _)) ?_
  intro W base args ds gs before hval0 hW _ _ hL _
  have hval : ∀ (j : Nat) t v, Tryd.f4.params[j]? = some t → args[j]? = some v → Value.okWide Tryd.prog W .any base t v := hval0
  have hW' := hW
  obtain ⟨p, q, hA0, hV, rfl, hfz, hnd⟩ := hW
  have hA : DataW.TrodAll enc Tryd.prog W 0 (fun _ => true) true Tryd.f4.params.toList args.toList ds p := hA0
  rw [Tryd.params4] at hA hval
  obtain ⟨v0, vs0, d0, ds0, p0, q0, hargs, rfl, rfl, h0, r0⟩ := trodAll_cons hA
  obtain ⟨rfl, rfl, rfl⟩ := trodAll_nil r0
  obtain rfl : args = #[v0] := by cases args; simp_all
  obtain ⟨rfl, rfl⟩ := trodVars_none hV
  obtain ⟨a0, len0, cap0, rfl⟩ := okWide_slice Tryd.underlying22 (hval 0 22 v0 rfl rfl)
  have k0 := h0
  have lt0 : ∀ x ∈ p0, x.block < W.heap.size := by obtain ⟨m, hm⟩ := k0; exact DataW.trod_lt m _ _ _ hm
  obtain ⟨pp, hpl, hml, hcp, hsrc, hok⟩ := open_bytes h0
  subst hpl
  clear hA0 hval0
  refine (walk a0 cap0 pp W hsrc hok hml hcp (errT_of_laid hL)).mono fun e W' ⟨he, bel⟩ => ?_
  subst he
  exact ⟨_, rfl, _, _, _, [], _, [], hW', trodAll_mk1 (shut_bool Tryd.underlying4 _), (trodAll_cons_mk (Below.trod laidOut (by kernel_rfl) (of_decide_eq_true (by kernel_rfl)) k0 bel lt0) trodAll_mk0), rfl, bel.frame _, fun h => by cases h⟩

theorem row_holds : Rows.FnCallsSaid :=
  OpenClaim.holds_of_wide 4 Tryd.f4 rfl rfl rfl rfl rfl rfl rfl ⟨rfl, rfl, rfl, rfl, rfl⟩ rfl rfl rfl rfl rfl (by kernel_rfl) Tryd.func4 (by kernel_rfl)
    (of_decide_eq_true (by kernel_rfl)) (by unfold Func.isWrapper; first | (rw [if_pos (by decide +kernel)]; kernel_rfl) | (rw [if_neg (by decide +kernel)]; exact ⟨rfl, rfl⟩))
    (fun os started H enc _ => lifted os started H enc)

theorem proved : Rows.FnCallsCardSaid :=
  Claim7.holds_tied_plain_at .later [] [.handle] true (true, "81a264e980dab0c8ee7ffc8a7ecb5315209bc003be0024b921e869e5ad48ad9d") true
    row_holds (fun _ h => by cases h) (by kernel_rfl) (fun _ h => by cases h) fnCalls_row_tie rfl ⟨rfl, rfl⟩ (by kernel_rfl) rfl
    (fun f fn hf hfn => by
      obtain rfl : f = 4 := Option.some.inj ((show Tryd.prog.funcNamed "loop.example/s0039/laws.FnCalls" = some 4 by kernel_rfl).symm.trans hf) |>.symm
      obtain rfl : fn = Tryd.f4 := (Option.some.inj (Tryd.func4.symm.trans hfn)).symm
      exact ⟨by kernel_rfl, fun j t ht => by
        rw [Tryd.params4] at ht
        have h3 : t = 22 := by
          rcases j with _ | j
          · simpa using ht.symm
          · simp at ht
        subst h3
        exact (show Tryd.prog.wantsStandIn 22 = false by kernel_rfl)⟩)
    (by kernel_rfl)
#print axioms proved
end Go.Proofs.YtjbbiailhpkdeaaDoor.fnCalls
