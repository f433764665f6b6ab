import Derived.Test.YtddemlfepjkgoaaGreatQ41
import Derived.Test.YtddemlfepjkgoaaGreatQ43
set_option linter.all false
set_option maxRecDepth 200000
set_option maxHeartbeats 16000000
namespace Go.Proofs.YtddemlfepjkgoaaGreat
open Go.RowKit Go.Deep
set_option linter.unusedSimpArgs false
theorem sameC_next{l:List C}{j:Nat}(h:j<l.length)(i:Id2):sameC (l.take (j+1)) i=sameC (l.take j) i++(if idC (l.getD j C.zero)=i then [l.getD j C.zero]else []):=by
 unfold sameC;rw[List.take_add_one,List.filter_append,List.getElem?_eq_getElem h,<-getD_C h];simp only[Option.toList_some];split
 ·rename_i e;rw[List.filter_cons_of_pos (by simpa using e)];rfl
 rename_i e;rw[List.filter_cons_of_neg (by simpa using e)];rfl
theorem idC_eq{c d:C}:idC c=idC d↔c.arch=d.arch∧c.nr=d.nr:=by
 unfold idC;constructor
 ·intro h;injection h with h1 h2;exact⟨h1,h2⟩
 rintro⟨h1,h2⟩;rw[h1,h2]
def LearnP(cs:List C)(ex sp f:Int)(w:World)(e:Ending)(w':World):Prop:=∃av cv out,e=.returned (.agg #[.slice av (List.length out) cv])∧IsLearn cs ex sp f out∧(∀w2,w'.heap.size<=w2.heap.size->(∀q,w.heap.size<=q->q<w'.heap.size->w2.heap[q]? =w'.heap[q]?)->LSrc 3 PEC w2 av out)∧out.length<=cv∧Below w.heap.size w w'
theorem infoEntL:(Tryz.prog.info? 78).map (fun i=>(i.zero,i.size,i.bytes))=some (some (.agg #[.int .u32 0,.int .u32 0,.slice none 0 0]),3,32):=by kernel_rfl
theorem l4learn_of (ex sp f : Int) (HR0 : ∀ (t : List C) (a : Option Addr) (cap : Nat) (w : World), CSrc w a t -> (∀ c ∈ t, okLa c.args) -> t.length <= 1000 -> Calls Tryz.prog 44 #[.slice a t.length cap, .agg #[.int .i64 ex, .int .i64 sp, .int .i64 f]] w fun e w' => ∃ rs, IsRules (t.map C.args) ex sp f rs ∧ RulP rs w e w')
    (cs : List C) (a : Option Addr) (cap : Nat) (w : World) (hs : CSrc w a cs) (hcap : cs.length <= cap) (hok : okC cs) (hc : ∀ c ∈ cs, okLa c.args) (hn : cs.length <= 1000) :
    Calls Tryz.prog 19 #[.slice a cs.length cap, .agg #[.int .i64 ex, .int .i64 sp, .int .i64 f]] w (LearnP cs ex sp f w) := by
  obtain ⟨i0, hi, hz0, hz1, hz2⟩ := info_parts infoEntL
  obtain ⟨i1, hi1, hy0, hy1, hy2⟩ := info_parts infoCall
  have B2 : Below w.heap.size w ((w.alloc (.cells #[.int .i64 ex, .int .i64 sp, .int .i64 f] 25)).alloc (.cells #[.slice none 0 0] 30)) := ((Below.refl _ _).alloc (Nat.le_refl _) _).alloc (by simp) _
  have q0 := box1 (w.alloc (.cells #[.int .i64 ex, .int .i64 sp, .int .i64 f] 25)) 30 (.slice none 0 0)
  have q2 : ((w.alloc (.cells #[.int .i64 ex, .int .i64 sp, .int .i64 f] 25)).alloc (.cells #[.slice none 0 0] 30)).frozen? ⟨(w.alloc (.cells #[.int .i64 ex, .int .i64 sp, .int .i64 f] 25)).heap.size, 0, none⟩ = false := by simp
  rw [show (w.alloc (.cells #[.int .i64 ex, .int .i64 sp, .int .i64 f] 25)).heap.size = w.heap.size + 1 by simp] at q0 q2
  have X2 := (Box3.new w 25 (.int .i64 ex) (.int .i64 sp) (.int .i64 f)).alloc (.cells #[.slice none 0 0] 30)
  have HD : Hid (∀ wr, Below w.heap.size w wr -> Calls Tryz.prog 43 #[.slice a cs.length cap] wr fun e w' => ∃ r a' cap', e = .returned (.slice a' r.length cap') ∧ IsDist cs r ∧ r.length <= cs.length ∧ CSrc w' a' r ∧ Below wr.heap.size wr w') := fun wr hb => specDist_any cs a cap wr (hs.below hb) hcap hok (by omega)
  go_enter Tryz.func19, Tryz.ntmps19
  go_wp2_with fail
  generalize (w.alloc (.cells #[.int .i64 ex, .int .i64 sp, .int .i64 f] 25)).alloc (.cells #[.slice none 0 0] 30) = W2 at *
  refine (HD.out W2 B2).mono ?_
  rintro _ w1 ⟨l, a1, cap1, rfl, hd, hll, hs1, hb1⟩
  have B1 := below_step hb1 B2
  have c0 := cell_step hb1 q0
  have f0 : w1.frozen? ⟨w.heap.size + 1, 0, none⟩ = false := (hb1.frozen (p := ⟨w.heap.size + 1, 0, none⟩) (cell_ltM q0)).trans q2
  have hG : w.heap.size + 2 <= w1.heap.size := by have := cell_ltM c0; simp only at this; omega
  have X1 := X2.keep hb1
  clear q0 q2 X2 HD hb1 B2 hs
  have hcl : ∀ c ∈ l, okLa c.args := fun c h => hc c ((hd.2 c).1 h)
  have HC : Hid (∀ wr, Below w1.heap.size w1 wr -> ∀ i, i < l.length -> ∃ b o b' o' c', a1 = some ⟨b, o, none⟩ ∧ wr.cell? ⟨b, o + i * 3, none⟩ = some (.int .u32 (l.getD i C.zero).arch) ∧ wr.cell? ⟨b, o + i * 3 + 1, none⟩ = some (.int .u32 (l.getD i C.zero).nr) ∧ wr.cell? ⟨b, o + i * 3 + 2, none⟩ = some (.slice (some ⟨b', o', none⟩) 6 c') ∧ USrc wr (some ⟨b', o', none⟩) (l.getD i C.zero).args) := fun wr hb i hi => by
    obtain ⟨b, o, b', o', c', h1, _, h2, h3, h4, h5, _⟩ := csrc_six (hs1.below hb) hcl hi
    exact ⟨b, o, b', o', c', h1, h2, h3, h4, h5⟩
  have H6 : Hid (∀ i, i < l.length -> (l.getD i C.zero).args.length = 6) := fun i hi => (hcl _ (callL_mem hi)).1
  have HSk : Hid (∀ k es, 0 < k -> k < l.length -> LrnI l ex sp f k es -> (l.getD k C.zero).arch = (l.getD (k - 1) C.zero).arch -> (l.getD k C.zero).nr = (l.getD (k - 1) C.zero).nr -> LrnI l ex sp f (k + 1) es) := fun k es h0 h1 h2 h3 h4 => by
    obtain ⟨k', rfl⟩ : ∃ k', k = k' + 1 := ⟨k - 1, by omega⟩
    exact h2.skip h1 (idC_eq.2 ⟨h3, h4⟩)
  have HNx : Hid (∀ k es rs, k < l.length -> LrnI l ex sp f k es -> (k = 0 ∨ ¬ ((l.getD k C.zero).arch = (l.getD (k - 1) C.zero).arch ∧ (l.getD k C.zero).nr = (l.getD (k - 1) C.zero).nr)) -> IsRules ((sameC l (idC (l.getD k C.zero))).map C.args) ex sp f rs -> LrnI l ex sp f (k + 1) (es ++ [⟨(l.getD k C.zero).arch, (l.getD k C.zero).nr, rs⟩])) := fun k es rs h1 h2 h3 h4 => h2.next hd.1 h1 (h3.imp id fun g e => g (idC_eq.1 e)) h4
  have HDn : Hid (∀ es, LrnI l ex sp f l.length es -> IsLearn cs ex sp f es) := fun es h => h.done hd
  have HSy : Hid (∀ j k, j < l.length -> ((l.getD j C.zero).arch = (l.getD k C.zero).arch ∧ (l.getD j C.zero).nr = (l.getD k C.zero).nr) -> sameC (l.take (j + 1)) (idC (l.getD k C.zero)) = sameC (l.take j) (idC (l.getD k C.zero)) ++ [l.getD j C.zero]) := fun j k hj h => by rw [sameC_next hj, if_pos (idC_eq.2 h)]
  have HSn : Hid (∀ j k, j < l.length -> ¬ ((l.getD j C.zero).arch = (l.getD k C.zero).arch ∧ (l.getD j C.zero).nr = (l.getD k C.zero).nr) -> sameC (l.take (j + 1)) (idC (l.getD k C.zero)) = sameC (l.take j) (idC (l.getD k C.zero))) := fun j k hj h => by rw [sameC_next hj, if_neg (fun e => h (idC_eq.1 e)), List.append_nil]
  have HSe : Hid (∀ i, sameC (l.take l.length) i = sameC l i ∧ (∀ c ∈ sameC l i, okLa c.args) ∧ (sameC l i).length <= 1000) := fun i => ⟨by rw [List.take_length], fun c h => hcl c (List.mem_filter.1 h).1, by have := List.length_filter_le (fun c => decide (idC c = i)) l; unfold sameC; omega⟩
  have HL0 : Hid (LrnI l ex sp f 0 []) := LrnI.zero l ex sp f
  obtain ⟨n, hnl⟩ : ∃ n, l.length = n := ⟨_, rfl⟩
  have hn1 : n <= 1000 := by omega
  rw [hnl] at HC H6 HSk HNx HDn HSy HSn HSe ⊢
  clear hnl hs1 hcl hd hll
  obtain ⟨fc, hfc⟩ : ∃ fc : Nat -> C, ∀ i, l.getD i C.zero = fc i := ⟨_, fun _ => rfl⟩
  simp only [hfc] at HC H6 HSk HNx HSy HSn
  clear hfc
  have HRu : Hid (∀ (t : List C) (a : Option Addr) (cap : Nat) (w : World), CSrc w a t -> (∀ c ∈ t, okLa c.args) -> t.length <= 1000 -> Calls Tryz.prog 44 #[.slice a t.length cap, .agg #[.int .i64 ex, .int .i64 sp, .int .i64 f]] w fun e w' => ∃ rs, IsRules (t.map C.args) ex sp f rs ∧ RulP rs w e w') := HR0
  clear HR0
  have T0 := BR.new 78 3 w1 30
  go_wp2_with fail
  generalize w1.alloc (.cells #[.slice none 0 0] 30) = W3 at *
  go_loopw [7] (fun i wr => ∃ (k : Nat) (v : Value) (os : List (E × Value)), k <= n ∧ i = .int .i64 k ∧ os.length <= k ∧ BR 78 3 w1 wr v os.length (os.flatMap entM) ∧ Hid (∀ q ∈ os, goodE w1.heap.size wr v q) ∧ Hid (LrnI l ex sp f k (os.map Prod.fst))) (fun i _ => n - (intOf i).toNat)
  case atStart => exact ⟨0, _, [], by omega, rfl, by simp, T0, fun q hq => by simp at hq, HL0⟩
  case round =>
    clear T0 HL0
    obtain ⟨k, v, os, hk, rfl, hol, hT, HG, HM⟩ := hrel
    rename World => W4
    by_cases hkn : k < n
    · have hkn' : (k : Int) < (n : Int) := by omega
      obtain ⟨b, o, b', o', c', rfl, ck0, ck1, _, _⟩ := HC.out W4 hT.b k hkn
      have hbl : b < w1.heap.size := by
        obtain ⟨_, _, _, _, _, e, g0, _⟩ := HC.out w1 (Below.refl _ _) k hkn
        cases e
        exact cell_ltM g0
      have HNw : Hid (∀ rs, (k = 0 ∨ ¬ ((fc k).arch = (fc (k - 1)).arch ∧ (fc k).nr = (fc (k - 1)).nr)) -> IsRules ((sameC l (idC (fc k))).map C.args) ex sp f rs -> LrnI l ex sp f (k + 1) (os.map Prod.fst ++ [⟨(fc k).arch, (fc k).nr, rs⟩])) := fun rs h h' => HNx.out k _ rs hkn HM.out h h'
      have HSw : Hid (0 < k -> (fc k).arch = (fc (k - 1)).arch -> (fc k).nr = (fc (k - 1)).nr -> LrnI l ex sp f (k + 1) (os.map Prod.fst)) := fun h0 h1 h2 => HSk.out k _ h0 hkn HM.out h1 h2
      have HD1 : Hid (0 < k -> W4.cell? ⟨b, o + (k - 1) * 3, none⟩ = some (.int .u32 (fc (k - 1)).arch) ∧ W4.cell? ⟨b, o + (k - 1) * 3 + 1, none⟩ = some (.int .u32 (fc (k - 1)).nr)) := fun h0 => by
        obtain ⟨_, _, _, _, _, e, d0, d1, _⟩ := HC.out W4 hT.b (k - 1) (by omega)
        cases e
        exact ⟨d0, d1⟩
      clear HNx HSk HM HDn
      go_wp2_with fail
      apply wp_cutA (fun act W => ∃ (d : Bool) (nq : Nat) (y18 y19 y20 y21 y22 y23 y24 y25 y26 y27 y28 y29 y30 y31 y32 y33 y34 y35 y36 y37 y38 y39 y40 y41 y42 y43 y44 y45 y46 : Value), act = { tmps := #[.slice a cs.length cap, .agg #[.int .i64 ex, .int .i64 sp, .int .i64 f], undef, .pointer (some ⟨w.heap.size, 0, none⟩), .pointer (some ⟨w.heap.size + 1, 0, none⟩), .slice (some ⟨b, o, none⟩) n cap1, .pointer (some ⟨w1.heap.size, 0, none⟩), .int .i64 k, u8, u9, .slice a cs.length cap, .slice (some ⟨b, o, none⟩) n cap1, .int .i64 k, .slice (some ⟨b, o, none⟩) n cap1, .int .i64 n, .bool true, u16, u17, y18, y19, y20, y21, y22, y23, y24, y25, y26, y27, y28, y29, y30, y31, y32, y33, y34, y35, y36, y37, y38, y39, y40, y41, y42, y43, y44, y45, y46, .bool d, u48, u49, u50, u51, u52, u53, u54, u55, u56, u57, u58, u59, u60, u61, u62, u63, u64, u65, u66, u67, u68, u69, u70, u71, u72, u73, u74, u75, u76, u77, u78, u79, u80, u81, u82, u83, u84, u85, u86, u87, u88, u89, u90, u91, u92, u93, u94, u95, u96, u97, u98, u99, u100, u101, u102, u103, undef], defers := [] } ∧ W = W4.drewN nq ∧ Hid (d = true -> LrnI l ex sp f (k + 1) (os.map Prod.fst)) ∧ Hid (d = false -> ∀ rs, IsRules ((sameC l (idC (fc k))).map C.args) ex sp f rs -> LrnI l ex sp f (k + 1) (os.map Prod.fst ++ [⟨(fc k).arch, (fc k).nr, rs⟩])))
      case h =>
        rcases Nat.eq_zero_or_pos k with hk0 | hk0
        case' inl =>
          have hz : ¬ (0 : Int) < (k : Int) := by omega
          have hzd : decide ((0 : Int) < (k : Int)) = false := decide_eq_false hz
          have hzn : decide (0 < k) = false := decide_eq_false (by omega)
          have HX : Hid ((false = true -> LrnI l ex sp f (k + 1) (os.map Prod.fst)) ∧ (false = false -> ∀ rs, IsRules ((sameC l (idC (fc k))).map C.args) ex sp f rs -> LrnI l ex sp f (k + 1) (os.map Prod.fst ++ [⟨(fc k).arch, (fc k).nr, rs⟩]))) := ⟨fun e => (nomatch e), fun _ rs h => HNw.out rs (.inl hk0) h⟩
          clear HNw HSw HD1 hk0
          go_quiet (fail)
        case' inr =>
          have hz : (0 : Int) < (k : Int) := by omega
          have hzd : decide ((0 : Int) < (k : Int)) = true := decide_eq_true hz
          have hzn : decide (0 < k) = true := decide_eq_true hk0
          have hk1 : ((k : Int) - 1).toNat = k - 1 := by omega
          obtain ⟨d0, d1⟩ := HD1.out hk0
          by_cases ha : (fc k).arch = (fc (k - 1)).arch
          case' neg =>
            have g1 : ((fc k).arch == (fc (k - 1)).arch) = false := by simpa using ha
            have HX : Hid ((false = true -> LrnI l ex sp f (k + 1) (os.map Prod.fst)) ∧ (false = false -> ∀ rs, IsRules ((sameC l (idC (fc k))).map C.args) ex sp f rs -> LrnI l ex sp f (k + 1) (os.map Prod.fst ++ [⟨(fc k).arch, (fc k).nr, rs⟩]))) := ⟨fun e => (nomatch e), fun _ rs h => HNw.out rs (.inr fun g => ha g.1) h⟩
            clear HNw HSw HD1 ha hk0
            go_quiet (fail)
          case' pos =>
            have g1 : ((fc k).arch == (fc (k - 1)).arch) = true := by simpa using ha
            by_cases hb : (fc k).nr = (fc (k - 1)).nr
            case' pos =>
              have g2 : ((fc k).nr == (fc (k - 1)).nr) = true := by simpa using hb
              have HX : Hid ((true = true -> LrnI l ex sp f (k + 1) (os.map Prod.fst)) ∧ (true = false -> ∀ rs, IsRules ((sameC l (idC (fc k))).map C.args) ex sp f rs -> LrnI l ex sp f (k + 1) (os.map Prod.fst ++ [⟨(fc k).arch, (fc k).nr, rs⟩]))) := ⟨fun _ => HSw.out hk0 ha hb, fun e => (nomatch e)⟩
              clear HNw HSw HD1 ha hb hk0
              go_quiet (fail)
            case' neg =>
              have g2 : ((fc k).nr == (fc (k - 1)).nr) = false := by simpa using hb
              have HX : Hid ((false = true -> LrnI l ex sp f (k + 1) (os.map Prod.fst)) ∧ (false = false -> ∀ rs, IsRules ((sameC l (idC (fc k))).map C.args) ex sp f rs -> LrnI l ex sp f (k + 1) (os.map Prod.fst ++ [⟨(fc k).arch, (fc k).nr, rs⟩]))) := ⟨fun e => (nomatch e), fun _ rs h => HNw.out rs (.inr fun g => hb g.2) h⟩
              clear HNw HSw HD1 ha hb hk0
              go_quiet (fail)
        all_goals exact CutA.mk ⟨_, nq, _, _, _, _, _, _, _, _, _, _, _, _, _, _, _, _, _, _, _, _, _, _, _, _, _, _, _, _, _, rfl, rfl, HX.out.1, HX.out.2⟩
      clear HNw HSw HD1
      rintro _ _ ⟨d, nq, u18, u19, u20, u21, u22, u23, u24, u25, u26, u27, u28, u29, u30, u31, u32, u33, u34, u35, u36, u37, u38, u39, u40, u41, u42, u43, u44, u45, u46, rfl, rfl, HXs, HXn⟩
      cases d
      case true =>
        have HM2 : Hid _ := HXs.out rfl
        clear HXs HXn HC H6 HSy HSn HSe HRu
        have hT5 := hT.keep (below_drewN (Below.refl W4.heap.size W4) nq)
        have HG5 : Hid (∀ q ∈ os, goodE w1.heap.size (W4.drewN nq) v q) := fun q hq => (HG.out q hq).far (Nat.le_refl _) (fun _ _ _ _ => rfl) (fun _ h => .inl h)
        clear hT HG ck0 ck1
        generalize W4.drewN nq = W5 at *
        go_wp2
        go_roundw
        case rel => exact ⟨k + 1, v, os, by omega, by go_num, by omega, hT5, HG5, HM2⟩
        case measure => simp [intOf]; omega
      case false =>
        have HNr : Hid (∀ rs, IsRules ((sameC l (idC (fc k))).map C.args) ex sp f rs -> LrnI l ex sp f (k + 1) (os.map Prod.fst ++ [⟨(fc k).arch, (fc k).nr, rs⟩])) := HXn.out rfl
        clear HXs HXn
        have hT5 := hT.keep (below_drewN (Below.refl W4.heap.size W4) nq)
        have HG5 : Hid (∀ q ∈ os, goodE w1.heap.size (W4.drewN nq) v q) := fun q hq => (HG.out q hq).far (Nat.le_refl _) (fun _ _ _ _ => rfl) (fun _ h => .inl h)
        clear hT HG ck0 ck1
        generalize W4.drewN nq = W5 at *
        have HCk : Hid (∀ wr, Below W5.heap.size W5 wr -> ∀ i, i < n -> ∃ b2 o2 c2, wr.cell? ⟨b, o + i * 3, none⟩ = some (.int .u32 (fc i).arch) ∧ wr.cell? ⟨b, o + i * 3 + 1, none⟩ = some (.int .u32 (fc i).nr) ∧ wr.cell? ⟨b, o + i * 3 + 2, none⟩ = some (.slice (some ⟨b2, o2, none⟩) 6 c2) ∧ USrc wr (some ⟨b2, o2, none⟩) (fc i).args) := fun wr hb i hi => by
          obtain ⟨_, _, b2, o2, c2, e, h1, h2, h3, h4⟩ := HC.out wr (hT5.b.trans (hb.mono hT5.b.size)) i hi
          cases e
          exact ⟨b2, o2, c2, h1, h2, h3, h4⟩
        have HSy' : Hid (∀ j, j < n -> (fc j).arch = (fc k).arch -> (fc j).nr = (fc k).nr -> sameC (l.take (j + 1)) (idC (fc k)) = sameC (l.take j) (idC (fc k)) ++ [fc j]) := fun j hj h1 h2 => HSy.out j k hj ⟨h1, h2⟩
        have HSn' : Hid (∀ j, j < n -> ¬ ((fc j).arch = (fc k).arch ∧ (fc j).nr = (fc k).nr) -> sameC (l.take (j + 1)) (idC (fc k)) = sameC (l.take j) (idC (fc k))) := fun j hj h => HSn.out j k hj h
        obtain ⟨hSe1, hSe2, hSe3⟩ := HSe.out (idC (fc k))
        have HE1 : Hid _ := And.intro hSe1 (And.intro hSe2 hSe3)
        have H00 : sameC (l.take 0) (idC (fc k)) = [] := rfl
        clear HC HSy HSn HSe hSe1 hSe2 hSe3
        go_wp2_with fail
        go_loopw [8, 9] (fun s' i wr => ∃ (j : Nat) (s : Value) (ts : List (C × Value)), s = s' ∧ j <= n ∧ i = .int .i64 j ∧ ownsP wr W5.heap.size s ts ∧ Hid (∀ p ∈ ts, good W5 p) ∧ Hid (ts.map Prod.fst = sameC (l.take j) (idC (fc k))) ∧ ts.length <= j ∧ Below W5.heap.size W5 wr) (fun _ i _ => n - (intOf i).toNat)
        case atStart => exact ⟨0, _, [], rfl, by omega, rfl, World.ownsRow_nil _ _ _ _, fun p hp => by simp at hp, H00.symm, Nat.le_refl _, Below.refl _ _⟩
        case round =>
          clear H00
          obtain ⟨j, s, ts, hss, hj, rfl, O, HGd, HMs, htl, B⟩ := hrel
          subst hss
          rename World => W6
          by_cases hjn : j < n
          · have hjn' : (j : Int) < (n : Int) := by omega
            obtain ⟨b2, o2, c2, z0, z1, z2, hu⟩ := HCk.out W5 (Below.refl _ _) j hjn
            have e0 := cell_step B z0
            have e1 := cell_step B z1
            have e2 := cell_step B z2
            obtain ⟨_, _, _, k0, k1, _, _⟩ := HCk.out W6 B k hkn
            have h6 := H6.out j hjn
            clear z0 z1 z2
            by_cases hsm : (fc j).arch = (fc k).arch ∧ (fc j).nr = (fc k).nr
            · obtain ⟨h1, h2⟩ := hsm
              have HM2 : Hid ((ts ++ [(fc j, Value.slice (some ⟨b2, o2, none⟩) 6 c2)]).map Prod.fst = sameC (l.take (j + 1)) (idC (fc k))) := by
                show _ = _
                rw [HSy'.out j hjn h1 h2, List.map_append, HMs.out]; rfl
              have HG3 : Hid (∀ p ∈ ts ++ [(fc j, Value.slice (some ⟨b2, o2, none⟩) 6 c2)], good W5 p) := fun p hp => by
                rw [List.mem_append, List.mem_singleton] at hp
                rcases hp with hp | rfl
                · exact HGd.out p hp
                · exact ⟨_, _, by rw [h6], hu⟩
              have g1 : ((fc j).arch == (fc k).arch) = true := by simpa using h1
              have g2 : ((fc j).nr == (fc k).nr) = true := by simpa using h2
              have HN : Hid (∀ nq, ownsP (W6.drewN nq) W5.heap.size s ts ∧ Below W5.heap.size W5 (W6.drewN nq) ∧ (W6.drewN nq).cell? ⟨b, o + j * 3, none⟩ = some (.int .u32 (fc j).arch) ∧ (W6.drewN nq).cell? ⟨b, o + j * 3 + 1, none⟩ = some (.int .u32 (fc j).nr) ∧ (W6.drewN nq).cell? ⟨b, o + j * 3 + 2, none⟩ = some (.slice (some ⟨b2, o2, none⟩) 6 c2)) := fun nq => ⟨ownsP_below O (below_drewN (Below.refl _ _) nq), below_drewN B nq, e0, e1, e2⟩
              clear HMs HSy' HSn' HRu HNr HE1 HG5 hT5 HCk O B HGd hu h1 h2
              go_wp2_with fail
              go_quiet (fail)
              obtain ⟨O3, B3, y0, y1, y2⟩ := HN.out nq
              clear HN e0 e1 e2 k0 k1 g1 g2
              generalize W6.drewN nq = W7 at *
              obtain ⟨au, cu, rfl⟩ := own_form O3
              have hbm : ts.length + 1 <= maxLen := by unfold maxLen; omega
              have hbd : (ts.length + 1) * 32 <= 140737488355328 := by omega
              generalize fc j = cj at *
              have hbs : W5.heap.size <= (W7.alloc (.cells #[.int .u32 cj.arch, .int .u32 cj.nr, .slice (some ⟨b2, o2, none⟩) 6 c2] 39)).heap.size := by have := B3.size; simp; omega
              go_wp2_with (at_builtin; refine wpList_append_own _ rfl (.tmp 78) (.tmp 83) 23 rfl W5.heap.size 39 i1 _ 3 32 Tryz.underlying23 hi1 hy0 hy1 hy2 rfl (by decide) (.slice au ts.length cu) ts.length (cCs ts) rfl (World.ownsRow.alloc O3 _) ⟨W7.heap.size, 0, none⟩ 1 1 (cC (cj, .slice (some ⟨b2, o2, none⟩) 6 c2)) rfl rfl ?c1 (cC_one rfl) hbm hbd hbs ?_)
              case c1 =>
                intro t u ht
                rw [add_at]
                rw [World.cell?_alloc_at _ _ _ _ (by simp)]
                simpa [cC] using ht
              intro v9 w9 ow gr _
              have o9 : ownsP w9 W5.heap.size v9 (ts ++ [(cj, Value.slice (some ⟨b2, o2, none⟩) 6 c2)]) := ownsP_snoc rfl ow
              have B9 : Below W5.heap.size W5 w9 := (B3.alloc B3.size _).grown gr hbs (fun t ht => (O3.lt t ht).1)
              clear ow gr O3 B3 y0 y1 y2
              go_wp2
              go_roundw
              case rel => exact ⟨j + 1, _, _, rfl, by omega, by go_num, o9, HG3, HM2, by simp; omega, B9⟩
              case measure => simp [intOf]; omega
            · have HM2 : Hid (ts.map Prod.fst = sameC (l.take (j + 1)) (idC (fc k))) := by
                show _ = _
                rw [HSn'.out j hjn hsm]; exact HMs.out
              have O2 : Hid (∀ nq, ownsP (W6.drewN nq) W5.heap.size s ts) := fun nq => ownsP_below O (below_drewN (Below.refl _ _) nq)
              clear HMs HSy' HSn' HRu HNr HE1 HG5 hT5 HCk O hu
              by_cases h1 : (fc j).arch = (fc k).arch
              case' neg =>
                have g1 : ((fc j).arch == (fc k).arch) = false := by simpa using h1
                clear hsm h1
                go_wp2_with fail
                go_quiet (fail)
                clear g1
              case' pos =>
                have g1 : ((fc j).arch == (fc k).arch) = true := by simpa using h1
                have g2 : ((fc j).nr == (fc k).nr) = false := by simpa using fun h => hsm ⟨h1, h⟩
                clear hsm h1
                go_wp2_with fail
                go_quiet (fail)
                clear g1 g2
              all_goals
                have B3 := below_drewN B nq
                have O3 := O2.out nq
                clear O2 e0 e1 e2 k0 k1 B
                generalize W6.drewN nq = W7 at *
                go_wp2
                go_roundw
                case rel => exact ⟨j + 1, s, ts, rfl, by omega, by go_num, O3, HGd, HM2, by omega, B3⟩
                case measure => simp [intOf]; omega
          · have hj' : j = n := by omega
            subst hj'
            obtain ⟨at8, ct8, rfl, hct, hst⟩ := ownsP_src O (fun p hp => (HGd.out p hp).below B)
            obtain ⟨hE1, hE2, hE3⟩ := HE1.out
            have hMs : ts.map Prod.fst = sameC l (idC (fc k)) := HMs.out.trans hE1
            obtain ⟨_, _, _, k0, k1, _, _⟩ := HCk.out W6 B k hkn
            have hT6 := hT5.keep B
            have HG6 : ∀ q ∈ os, goodE w1.heap.size W6 v q := fun q hq => (HG5.out q hq).far B.size (fun q _ hq2 _ => B.block q hq2) (fun q hq => .inl hq)
            obtain ⟨_, x0, x1', x2', _, _, _⟩ := X1.keep hT6.b
            obtain ⟨av, cv, rfl⟩ := own_form hT6.own
            have hvl : w1.heap.size < W6.heap.size := cell_ltM hT6.c
            have hcd : W6.drew.cell? ⟨w1.heap.size, 0, none⟩ = some (.slice av os.length cv) := hT6.c
            have xd0 : W6.drew.cell? ⟨b, o + k * 3, none⟩ = some (.int .u32 (fc k).arch) := k0
            have xd1 : W6.drew.cell? ⟨b, o + k * 3 + 1, none⟩ = some (.int .u32 (fc k).nr) := k1
            have kd0 : W6.drew.cell? ⟨w.heap.size, 0, none⟩ = some (.int .i64 ex) := x0
            have kd1 : W6.drew.cell? ⟨w.heap.size, 1, none⟩ = some (.int .i64 sp) := x1'
            have kd2 : W6.drew.cell? ⟨w.heap.size, 2, none⟩ = some (.int .i64 f) := x2'
            have hT6d := hT6.keep (Below.refl _ _).drew
            have HSk2 : Hid (Calls Tryz.prog 44 #[.slice at8 ts.length ct8, .agg #[.int .i64 ex, .int .i64 sp, .int .i64 f]] W6.drew fun e w' => ∃ a9 m9 c9, e = .returned (.slice a9 m9 c9) ∧ (∃ rs, m9 = rs.length ∧ rs.length <= c9 ∧ RsI W6.heap.size w'.heap.size w' a9 rs ∧ LrnI l ex sp f (k + 1) (os.map Prod.fst ++ [⟨(fc k).arch, (fc k).nr, rs⟩])) ∧ Below W6.drew.heap.size W6.drew w') := by
              have h := HRu.out (ts.map Prod.fst) at8 ct8 W6.drew (hst.below (Below.refl _ _).drew) (by rw [hMs]; exact hE2) (by rw [hMs]; exact hE3)
              rw [List.length_map] at h
              refine Calls.mono h ?_
              rintro e w' ⟨rs, hr, v9, os9, rfl, h1, h2, h3⟩
              obtain ⟨a9, c9, rfl, h4, h5⟩ := h1.rsI
              refine ⟨a9, _, c9, rfl, ⟨os9.map Prod.fst, by rw [List.length_map], by rw [List.length_map]; exact h5, h4, HNr.out _ ?_⟩, h3⟩
              rw [h2, <- hMs]; exact hr
            have SKc : Hid (∀ w9, Below W6.drew.heap.size W6.drew w9 -> BR 78 3 w1 w9 (.slice av os.length cv) os.length (os.flatMap entM) ∧ w9.cell? ⟨w1.heap.size, 0, none⟩ = some (.slice av os.length cv) ∧ w1.heap.size < w9.heap.size ∧ (∀ ob, (w9.alloc ob).cell? ⟨w1.heap.size, 0, none⟩ = some (.slice av os.length cv)) ∧ w9.cell? ⟨b, o + k * 3, none⟩ = some (.int .u32 (fc k).arch) ∧ w9.cell? ⟨b, o + k * 3 + 1, none⟩ = some (.int .u32 (fc k).nr)) := fun w9 hb => by
              have := hT6d.keep hb
              exact ⟨this, this.c, cell_ltM this.c, fun ob => cell_step ((Below.refl _ _).alloc (Nat.le_refl _) ob) this.c, cell_step hb xd0, cell_step hb xd1⟩
            have HEM : Hid (∀ a9 m9 c9 gg cap2 (w9 w1' : World) o x, Below W6.drew.heap.size W6.drew w9 -> (∃ rs, m9 = rs.length ∧ rs.length <= c9 ∧ RsI W6.heap.size w9.heap.size w9 a9 rs ∧ LrnI l ex sp f (k + 1) (os.map Prod.fst ++ [⟨(fc k).arch, (fc k).nr, rs⟩])) -> (w9.alloc o).grownBy w1' (Value.slice av os.length cv).ownBlock -> ((Value.slice av os.length cv).ownBlock = some gg ∨ gg = w9.heap.size + 1) -> w1'.ownsRow (w1.heap.size + 1) 78 3 (.slice (some ⟨gg, 0, none⟩) (os.length + 1) cap2) (os.length + 1) (os.flatMap entM ++ [.int .u32 (fc k).arch, .int .u32 (fc k).nr, .slice a9 m9 c9]) -> ∃ os' : List (E × Value), (∀ q ∈ os', goodE w1.heap.size (w1'.setCell ⟨w1.heap.size, 0, none⟩ x) (.slice (some ⟨gg, 0, none⟩) (os.length + 1) cap2) q) ∧ LrnI l ex sp f (k + 1) (os'.map Prod.fst) ∧ os.flatMap entM ++ [.int .u32 (fc k).arch, .int .u32 (fc k).nr, .slice a9 m9 c9] = os'.flatMap entM ∧ os'.length = os.length + 1) := by
              rintro a9 m9 c9 gg cap2 w9 w1' o x hb ⟨rs, rfl, hcr, hr, hm⟩ hg hat hown
              have hsz := hb.size
              refine ⟨os ++ [(⟨(fc k).arch, (fc k).nr, rs⟩, .slice a9 rs.length c9)], em_next (w := W6.drew) (fun q hq => (HG6 q hq).far (Nat.le_refl _) (fun _ _ _ _ => rfl) (fun _ h => .inl h)) hb ⟨W6.heap.size, w9.heap.size, a9, c9, rfl, hr, by omega, Nat.le_refl _, fun q hq => ?_, hcr⟩ hg hat, by rw [List.map_append]; exact hm, by rw [List.flatMap_append]; simp [entM], by simp⟩
              have := (hT6.own.lt q hq).2
              left; exact this
            have hOwn : Hid (∀ q, (Value.slice av os.length cv).ownBlock = some q -> w1.heap.size + 1 <= q ∧ q < W6.heap.size) := fun q e => hT6.own.lt q e
            have hbm : os.length + 1 <= maxLen := by unfold maxLen; omega
            have hbd : (os.length + 1) * 32 <= 140737488355328 := by omega
            clear hT5 hT6 hT6d HG5 HG6 k0 k1 x0 x1' x2' HCk HSy' HSn' HRu HNr HE1 hE1 hE2 hE3 hMs HMs HGd O hst H6
            generalize (fc k).arch = ar at *
            generalize (fc k).nr = nr at *
            go_wp2_with fail
            apply wp_cutA (fun act W => ∃ (v' : Value) (os' : List (E × Value)) (y85 y86 y87 y88 y89 y90 y91 y92 y93 y94 y95 y96 y97 y98 y99 y100 y101 y102 y103 : Value), act = { tmps := #[.slice a cs.length cap, .agg #[.int .i64 ex, .int .i64 sp, .int .i64 f], undef, .pointer (some ⟨w.heap.size, 0, none⟩), .pointer (some ⟨w.heap.size + 1, 0, none⟩), .slice (some ⟨b, o, none⟩) j cap1, .pointer (some ⟨w1.heap.size, 0, none⟩), .int .i64 k, .slice at8 ts.length ct8, .int .i64 j, .slice a cs.length cap, .slice (some ⟨b, o, none⟩) j cap1, .int .i64 k, .slice (some ⟨b, o, none⟩) j cap1, .int .i64 j, .bool true, u16, u17, u18, u19, u20, u21, u22, u23, u24, u25, u26, u27, u28, u29, u30, u31, u32, u33, u34, u35, u36, u37, u38, u39, u40, u41, u42, u43, u44, u45, u46, .bool false, .int .i64 j, .slice (some ⟨b, o, none⟩) j cap1, .int .i64 j, .bool false, u52, u53, u54, u55, u56, u57, u58, u59, u60, u61, u62, u63, u64, u65, u66, u67, u68, u69, u70, u71, u72, u73, u74, u75, u76, u77, u78, u79, u80, u81, u82, u83, u84, y85, y86, y87, y88, y89, y90, y91, y92, y93, y94, y95, y96, y97, y98, y99, y100, y101, y102, y103, undef], defers := [] } ∧ os'.length = os.length + 1 ∧ Hid (BR 78 3 w1 W v' os'.length (os'.flatMap entM)) ∧ Hid (∀ q ∈ os', goodE w1.heap.size W v' q) ∧ Hid (LrnI l ex sp f (k + 1) (os'.map Prod.fst)))
            case h =>
              have hS0 : (W6.drew.cell? ⟨b, o + k * 3, none⟩ = some (.int .u32 ar) ∧ W6.drew.cell? ⟨b, o + k * 3 + 1, none⟩ = some (.int .u32 nr) ∧ W6.drew.cell? ⟨w.heap.size, 0, none⟩ = some (.int .i64 ex) ∧ W6.drew.cell? ⟨w.heap.size, 1, none⟩ = some (.int .i64 sp) ∧ W6.drew.cell? ⟨w.heap.size, 2, none⟩ = some (.int .i64 f) ∧ W6.drew.cell? ⟨w1.heap.size, 0, none⟩ = some (.slice av os.length cv)) := ⟨xd0, xd1, kd0, kd1, kd2, hcd⟩
              have HKb : Hid (∀ w9, Below W6.drew.heap.size W6.drew w9 -> (w9.cell? ⟨b, o + k * 3, none⟩ = some (.int .u32 ar) ∧ w9.cell? ⟨b, o + k * 3 + 1, none⟩ = some (.int .u32 nr) ∧ w9.cell? ⟨w.heap.size, 0, none⟩ = some (.int .i64 ex) ∧ w9.cell? ⟨w.heap.size, 1, none⟩ = some (.int .i64 sp) ∧ w9.cell? ⟨w.heap.size, 2, none⟩ = some (.int .i64 f) ∧ w9.cell? ⟨w1.heap.size, 0, none⟩ = some (.slice av os.length cv))) := fun w9 hb => ⟨cell_step hb xd0, cell_step hb xd1, cell_step hb kd0, cell_step hb kd1, cell_step hb kd2, cell_step hb hcd⟩
              have HKa : Hid (∀ (u : World) ob, (u.cell? ⟨b, o + k * 3, none⟩ = some (.int .u32 ar) ∧ u.cell? ⟨b, o + k * 3 + 1, none⟩ = some (.int .u32 nr) ∧ u.cell? ⟨w.heap.size, 0, none⟩ = some (.int .i64 ex) ∧ u.cell? ⟨w.heap.size, 1, none⟩ = some (.int .i64 sp) ∧ u.cell? ⟨w.heap.size, 2, none⟩ = some (.int .i64 f) ∧ u.cell? ⟨w1.heap.size, 0, none⟩ = some (.slice av os.length cv)) -> ((u.alloc ob).cell? ⟨b, o + k * 3, none⟩ = some (.int .u32 ar) ∧ (u.alloc ob).cell? ⟨b, o + k * 3 + 1, none⟩ = some (.int .u32 nr) ∧ (u.alloc ob).cell? ⟨w.heap.size, 0, none⟩ = some (.int .i64 ex) ∧ (u.alloc ob).cell? ⟨w.heap.size, 1, none⟩ = some (.int .i64 sp) ∧ (u.alloc ob).cell? ⟨w.heap.size, 2, none⟩ = some (.int .i64 f) ∧ (u.alloc ob).cell? ⟨w1.heap.size, 0, none⟩ = some (.slice av os.length cv))) := fun u ob ⟨h1, h2, h3, h4, h5, h6⟩ => by
                have hb := (Below.refl _ u).alloc (Nat.le_refl _) ob
                exact ⟨cell_step hb h1, cell_step hb h2, cell_step hb h3, cell_step hb h4, cell_step hb h5, cell_step hb h6⟩
              have HKg : Hid (∀ (u w1' : World), (u.cell? ⟨b, o + k * 3, none⟩ = some (.int .u32 ar) ∧ u.cell? ⟨b, o + k * 3 + 1, none⟩ = some (.int .u32 nr) ∧ u.cell? ⟨w.heap.size, 0, none⟩ = some (.int .i64 ex) ∧ u.cell? ⟨w.heap.size, 1, none⟩ = some (.int .i64 sp) ∧ u.cell? ⟨w.heap.size, 2, none⟩ = some (.int .i64 f) ∧ u.cell? ⟨w1.heap.size, 0, none⟩ = some (.slice av os.length cv)) -> u.grownBy w1' (Value.slice av os.length cv).ownBlock -> (w1'.cell? ⟨b, o + k * 3, none⟩ = some (.int .u32 ar) ∧ w1'.cell? ⟨b, o + k * 3 + 1, none⟩ = some (.int .u32 nr) ∧ w1'.cell? ⟨w.heap.size, 0, none⟩ = some (.int .i64 ex) ∧ w1'.cell? ⟨w.heap.size, 1, none⟩ = some (.int .i64 sp) ∧ w1'.cell? ⟨w.heap.size, 2, none⟩ = some (.int .i64 f) ∧ w1'.cell? ⟨w1.heap.size, 0, none⟩ = some (.slice av os.length cv))) := fun u w1' ⟨h1, h2, h3, h4, h5, h6⟩ hg => by
                have nb : some b ≠ (Value.slice av os.length cv).ownBlock := fun e => by have := (hOwn.out b e.symm).1; omega
                have nw : some w.heap.size ≠ (Value.slice av os.length cv).ownBlock := fun e => by have := (hOwn.out _ e.symm).1; omega
                have n1 : some w1.heap.size ≠ (Value.slice av os.length cv).ownBlock := fun e => by have := (hOwn.out _ e.symm).1; omega
                exact ⟨hg.cell h1 nb, hg.cell h2 nb, hg.cell h3 nw, hg.cell h4 nw, hg.cell h5 nw, hg.cell h6 n1⟩
              clear hOwn xd0 xd1 kd0 kd1 kd2 hcd
              refine region_D (fun w' => (w'.cell? ⟨b, o + k * 3, none⟩ = some (.int .u32 ar) ∧ w'.cell? ⟨b, o + k * 3 + 1, none⟩ = some (.int .u32 nr) ∧ w'.cell? ⟨w.heap.size, 0, none⟩ = some (.int .i64 ex) ∧ w'.cell? ⟨w.heap.size, 1, none⟩ = some (.int .i64 sp) ∧ w'.cell? ⟨w.heap.size, 2, none⟩ = some (.int .i64 f) ∧ w'.cell? ⟨w1.heap.size, 0, none⟩ = some (.slice av os.length cv))) 19 (by kernel_rfl) ?_
              refine anyD_take 0 (oi := ?qo0D) (v := ?qv0D) ?qh0D (by kernel_rfl) (by kernel_rfl) (by kernel_rfl) (by kernel_rfl) ?qQ0D ⟨?qw0D, ?qy0D⟩ hS0 ?_
              case qh0D => simp only [List.getElem?_toArray, List.getElem?_cons_succ, List.getElem?_cons_zero]; rfl
              case qQ0D => exact fun _ _ _ h => h
              case qw0D => rfl
              case qy0D => intro w' hw'; obtain ⟨k1, k2, k3, k4, k5, k6⟩ := hw'; go_simp; all_goals rfl
              (try simp only [Act.put, List.setIfInBounds_toArray, List.set_cons_zero, List.set_cons_succ])
              refine anyD_take 1 (oi := ?qo1D) (v := ?qv1D) ?qh1D (by kernel_rfl) (by kernel_rfl) (by kernel_rfl) (by kernel_rfl) ?qQ1D ⟨?qw1D, ?qy1D⟩ hS0 ?_
              case qh1D => simp only [List.getElem?_toArray, List.getElem?_cons_succ, List.getElem?_cons_zero]; rfl
              case qQ1D => exact fun _ _ _ h => h
              case qw1D => rfl
              case qy1D => intro w' hw'; obtain ⟨k1, k2, k3, k4, k5, k6⟩ := hw'; go_simp; all_goals rfl
              (try simp only [Act.put, List.setIfInBounds_toArray, List.set_cons_zero, List.set_cons_succ])
              refine anyD_take 2 (oi := ?qo2D) (v := ?qv2D) ?qh2D (by kernel_rfl) (by kernel_rfl) (by kernel_rfl) (by kernel_rfl) ?qQ2D ⟨?qw2D, ?qy2D⟩ hS0 ?_
              case qh2D => simp only [List.getElem?_toArray, List.getElem?_cons_succ, List.getElem?_cons_zero]; rfl
              case qQ2D => exact fun _ _ _ h => h
              case qw2D => rfl
              case qy2D => intro w' hw'; obtain ⟨k1, k2, k3, k4, k5, k6⟩ := hw'; go_simp; all_goals rfl
              (try simp only [Act.put, List.setIfInBounds_toArray, List.set_cons_zero, List.set_cons_succ])
              refine anyD_take 3 (oi := ?qo3D) (v := ?qv3D) ?qh3D (by kernel_rfl) (by kernel_rfl) (by kernel_rfl) (by kernel_rfl) ?qQ3D ⟨?qw3D, ?qy3D⟩ hS0 ?_
              case qh3D => simp only [List.getElem?_toArray, List.getElem?_cons_succ, List.getElem?_cons_zero]; rfl
              case qQ3D => exact fun _ _ _ h => h
              case qw3D => rfl
              case qy3D => intro w' hw'; obtain ⟨k1, k2, k3, k4, k5, k6⟩ := hw'; go_simp; all_goals rfl
              (try simp only [Act.put, List.setIfInBounds_toArray, List.set_cons_zero, List.set_cons_succ])
              refine anyD_take 4 (oi := ?qo4D) (v := ?qv4D) ?qh4D (by kernel_rfl) (by kernel_rfl) (by kernel_rfl) (by kernel_rfl) ?qQ4D ⟨?qw4D, ?qy4D⟩ hS0 ?_
              case qh4D => simp only [List.getElem?_toArray, List.getElem?_cons_succ, List.getElem?_cons_zero]; rfl
              case qQ4D => exact fun _ _ _ h => h
              case qw4D => rfl
              case qy4D => intro w' hw'; obtain ⟨k1, k2, k3, k4, k5, k6⟩ := hw'; go_simp; all_goals rfl
              (try simp only [Act.put, List.setIfInBounds_toArray, List.set_cons_zero, List.set_cons_succ])
              refine anyD_take 5 (oi := ?qo5D) (v := ?qv5D) ?qh5D (by kernel_rfl) (by kernel_rfl) (by kernel_rfl) (by kernel_rfl) ?qQ5D ⟨?qw5D, ?qy5D⟩ hS0 ?_
              case qh5D => simp only [List.getElem?_toArray, List.getElem?_cons_succ, List.getElem?_cons_zero]; rfl
              case qQ5D => exact fun _ _ _ h => h
              case qw5D => rfl
              case qy5D => intro w' hw'; obtain ⟨k1, k2, k3, k4, k5, k6⟩ := hw'; go_simp; all_goals rfl
              (try simp only [Act.put, List.setIfInBounds_toArray, List.set_cons_zero, List.set_cons_succ])
              refine anyD_take 6 (oi := ?qo6D) (v := ?qv6D) ?qh6D (by kernel_rfl) (by kernel_rfl) (by kernel_rfl) (by kernel_rfl) ?qQ6D ⟨?qw6D, ?qy6D⟩ hS0 ?_
              case qh6D => simp only [List.getElem?_toArray, List.getElem?_cons_succ, List.getElem?_cons_zero]; rfl
              case qQ6D => exact fun _ _ _ h => h
              case qw6D => rfl
              case qy6D => intro w' hw'; obtain ⟨k1, k2, k3, k4, k5, k6⟩ := hw'; go_simp; all_goals rfl
              (try simp only [Act.put, List.setIfInBounds_toArray, List.set_cons_zero, List.set_cons_succ])
              refine anyD_take 7 (oi := ?qo7D) (v := ?qv7D) ?qh7D (by kernel_rfl) (by kernel_rfl) (by kernel_rfl) (by kernel_rfl) ?qQ7D ⟨?qw7D, ?qy7D⟩ hS0 ?_
              case qh7D => simp only [List.getElem?_toArray, List.getElem?_cons_succ, List.getElem?_cons_zero]; rfl
              case qQ7D => exact fun _ _ _ h => h
              case qw7D => rfl
              case qy7D => intro w' hw'; obtain ⟨k1, k2, k3, k4, k5, k6⟩ := hw'; go_simp; all_goals rfl
              (try simp only [Act.put, List.setIfInBounds_toArray, List.set_cons_zero, List.set_cons_succ])
              refine anyD_take 8 (oi := ?qo8D) (v := ?qv8D) ?qh8D (by kernel_rfl) (by kernel_rfl) (by kernel_rfl) (by kernel_rfl) ?qQ8D ⟨?qw8D, ?qy8D⟩ hS0 ?_
              case qh8D => simp only [List.getElem?_toArray, List.getElem?_cons_succ, List.getElem?_cons_zero]; rfl
              case qQ8D => exact fun _ _ _ h => h
              case qw8D => rfl
              case qy8D => intro w' hw'; obtain ⟨k1, k2, k3, k4, k5, k6⟩ := hw'; go_simp; all_goals rfl
              (try simp only [Act.put, List.setIfInBounds_toArray, List.set_cons_zero, List.set_cons_succ])
              refine anyD_take 9 (oi := ?qo9D) (v := ?qv9D) ?qh9D (by kernel_rfl) (by kernel_rfl) (by kernel_rfl) (by kernel_rfl) ?qQ9D ⟨?qw9D, ?qy9D⟩ hS0 ?_
              case qh9D => simp only [List.getElem?_toArray, List.getElem?_cons_succ, List.getElem?_cons_zero]; rfl
              case qQ9D => exact fun _ _ _ h => h
              case qw9D => rfl
              case qy9D => intro w' hw'; obtain ⟨k1, k2, k3, k4, k5, k6⟩ := hw'; go_simp; all_goals rfl
              (try simp only [Act.put, List.setIfInBounds_toArray, List.set_cons_zero, List.set_cons_succ])
              refine anyD_take 10 (oi := ?qo10D) (v := ?qv10D) ?qh10D (by kernel_rfl) (by kernel_rfl) (by kernel_rfl) (by kernel_rfl) ?qQ10D ⟨?qw10D, ?qy10D⟩ hS0 ?_
              case qh10D => simp only [List.getElem?_toArray, List.getElem?_cons_succ, List.getElem?_cons_zero]; rfl
              case qQ10D => exact fun _ _ _ h => h
              case qw10D => rfl
              case qy10D => intro w' hw'; obtain ⟨k1, k2, k3, k4, k5, k6⟩ := hw'; go_simp; all_goals rfl
              (try simp only [Act.put, List.setIfInBounds_toArray, List.set_cons_zero, List.set_cons_succ])
              refine anyD_take 11 (oi := ?qo11D) (v := ?qv11D) ?qh11D (by kernel_rfl) (by kernel_rfl) (by kernel_rfl) (by kernel_rfl) ?qQ11D ⟨?qw11D, ?qy11D⟩ hS0 ?_
              case qh11D => simp only [List.getElem?_toArray, List.getElem?_cons_succ, List.getElem?_cons_zero]; rfl
              case qQ11D => exact fun _ _ _ h => h
              case qw11D => rfl
              case qy11D => intro w' hw'; obtain ⟨k1, k2, k3, k4, k5, k6⟩ := hw'; go_simp; all_goals rfl
              (try simp only [Act.put, List.setIfInBounds_toArray, List.set_cons_zero, List.set_cons_succ])
              refine anyD_take 12 (oi := ?qo12D) (v := ?qv12D) ?qh12D (by kernel_rfl) (by kernel_rfl) (by kernel_rfl) (by kernel_rfl) ?qQ12D ⟨?qw12D, ?qy12D⟩ hS0 ?_
              case qh12D => simp only [List.getElem?_toArray, List.getElem?_cons_succ, List.getElem?_cons_zero]; rfl
              case qQ12D => exact fun _ _ _ h => h
              case qw12D => rfl
              case qy12D => intro w' hw'; obtain ⟨k1, k2, k3, k4, k5, k6⟩ := hw'; go_simp; all_goals rfl
              (try simp only [Act.put, List.setIfInBounds_toArray, List.set_cons_zero, List.set_cons_succ])
              refine anyD_take 13 (oi := ?qo13D) (v := ?qv13D) ?qh13D (by kernel_rfl) (by kernel_rfl) (by kernel_rfl) (by kernel_rfl) ?qQ13D ⟨?qw13D, ?qy13D⟩ hS0 ?_
              case qh13D => simp only [List.getElem?_toArray, List.getElem?_cons_succ, List.getElem?_cons_zero]; rfl
              case qQ13D => exact fun _ _ _ h => h
              case qw13D => rfl
              case qy13D => intro w' hw'; obtain ⟨k1, k2, k3, k4, k5, k6⟩ := hw'; go_simp; all_goals rfl
              (try simp only [Act.put, List.setIfInBounds_toArray, List.set_cons_zero, List.set_cons_succ])
              refine anyD_one 14 (oi := ?qo14D) ?qh14D (by kernel_rfl) fun K hK => ?_
              case qh14D => simp only [List.getElem?_toArray, List.getElem?_cons_succ, List.getElem?_cons_zero]; rfl
              go_simp
              refine HSk2.out.mono ?_
              rintro _ w9 ⟨a9, m9, c9, rfl, hrs9, hb9⟩
              obtain ⟨hS9, hc9, hl9, ha9, y0, y1⟩ := SKc.out w9 hb9
              have hSx := HKb.out w9 hb9
              dsimp only
              refine hK.out _ _ (fun _ => hSx) ?_
              clear hK K
              refine anyD_take 15 (oi := ?qo15D) (v := ?qv15D) ?qh15D (by kernel_rfl) (by kernel_rfl) (by kernel_rfl) (by kernel_rfl) ?qQ15D ⟨?qw15D, ?qy15D⟩ hSx ?_
              case qh15D => simp only [List.getElem?_toArray, List.getElem?_cons_succ, List.getElem?_cons_zero]; rfl
              case qQ15D => exact fun _ _ _ h => h
              case qw15D => rfl
              case qy15D => intro w' hw'; obtain ⟨k1, k2, k3, k4, k5, k6⟩ := hw'; go_simp; all_goals rfl
              (try simp only [Act.put, List.setIfInBounds_toArray, List.set_cons_zero, List.set_cons_succ])
              refine anyD_one 16 (oi := ?qo16D) ?qh16D (by kernel_rfl) fun K hK => ?_
              case qh16D => simp only [List.getElem?_toArray, List.getElem?_cons_succ, List.getElem?_cons_zero]; rfl
              go_simp
              refine hK.out _ _ (fun _ => HKa.out w9 _ hSx) ?_
              clear hK K
              refine anyD_one 17 (oi := ?qo17D) ?qh17D (by kernel_rfl) fun K hK => ?_
              case qh17D => simp only [List.getElem?_toArray, List.getElem?_cons_succ, List.getElem?_cons_zero]; rfl
              refine step_append_lies _ (by rfl) _ _ _ (by rfl) (w1.heap.size + 1) 78 i0 _ 3 32 Tryz.underlying28 hi hz0 hz1 hz2 rfl (by omega) (.slice av os.length cv) os.length (os.flatMap entM) (by rfl) (hS9.own.alloc _) ⟨w9.heap.size, 0, none⟩ 1 1 [.int .u32 ar, .int .u32 nr, .slice a9 m9 c9] (by rfl) (by rfl) (World.news_of_block (t := 78) (fr := (0, 0)) (heap_alloc_new w9 _)) (by simp [Value.oneCell']) (by omega) hbm hbd (by simp; omega) (w9.heap.size + 1) (by simp) ?_; intro gg cap2 w1' hown1 hgrow hat hlt2; obtain ⟨os', y2, y3, y4, y5⟩ := HEM.out a9 m9 c9 gg cap2 w9 w1' _ (.slice (some ⟨gg, 0, none⟩) (os.length + 1) cap2) hb9 hrs9 hgrow hat hown1; skip
              obtain ⟨x1, x2, x3⟩ := (hS9.keep ((Below.refl _ _).alloc (Nat.le_refl _) _)).next hown1 hgrow
              rw [y4] at x3
              have hSy := HKg.out _ w1' (HKa.out w9 _ hSx) hgrow
              refine hK.out _ _ (fun _ => hSy) ?_
              clear hK K
              (try simp only [Act.put, List.setIfInBounds_toArray, List.set_cons_zero, List.set_cons_succ])
              refine anyD_take 18 (oi := ?qo18D) (v := ?qv18D) ?qh18D (by kernel_rfl) (by kernel_rfl) (by kernel_rfl) (by kernel_rfl) ?qQ18D ⟨?qw18D, ?qy18D⟩ hSy ?_
              case qh18D => simp only [List.getElem?_toArray, List.getElem?_cons_succ, List.getElem?_cons_zero]; rfl
              case qQ18D => exact fun _ _ _ h => h
              case qw18D => rfl
              case qy18D => intro w' hw'; obtain ⟨k1, k2, k3, k4, k5, k6⟩ := hw'; go_simp; all_goals rfl
              (try simp only [Act.put, List.setIfInBounds_toArray, List.set_cons_zero, List.set_cons_succ])
              refine anyD_one 19 (oi := ?qo19D) ?qh19D (by kernel_rfl) fun K hK => ?_
              case qh19D => simp only [List.getElem?_toArray, List.getElem?_cons_succ, List.getElem?_cons_zero]; rfl
              go_simp
              refine hK.out _ _ (fun h => absurd rfl h) ?_
              clear hK K
              refine anyD_done (by kernel_rfl) ?_
              refine CutA.mk ⟨_, os', _, _, _, _, _, _, _, _, _, _, _, _, _, _, _, _, _, _, _, rfl, y5, ?_, y2, y3⟩
              unfold Hid
              rw [y5]
              exact x3
            clear SKc HSk2 hcd xd0 xd1 kd0 kd1 kd2 HEM
            rintro _ W7 ⟨v', os', u85, u86, u87, u88, u89, u90, u91, u92, u93, u94, u95, u96, u97, u98, u99, u100, u101, u102, u103, rfl, y5, HX3, HG9, HM9⟩
            go_wp2
            go_roundw
            case rel => exact ⟨k + 1, _, os', by omega, by go_num, by omega, HX3.out, HG9.out, HM9.out⟩
            case measure => simp [intOf]; omega
    · have hk' : k = n := by omega
      subst hk'
      have hlt' : ¬ (k : Int) < (k : Int) := by omega
      have hB4 := below_step hT.b B1
      obtain ⟨av, cv, rfl, hsE, _⟩ := ents_src hT.own rfl HG.out
      have hc := hT.c
      have c04 := cell_step hT.b c0
      have f04 : W4.frozen? ⟨w.heap.size + 1, 0, none⟩ = false := (hT.b.frozen (p := ⟨w.heap.size + 1, 0, none⟩) (cell_ltM c0)).trans f0
      have HF : Hid (LearnP cs ex sp f w (.returned (.agg #[.slice av os.length cv])) (W4.setCell ⟨w.heap.size + 1, 0, none⟩ (.slice av os.length cv))) := by
        have hsz : (W4.setCell ⟨w.heap.size + 1, 0, none⟩ (.slice av os.length cv)).heap.size = W4.heap.size := by simp [World.setCell]
        have hbq : ∀ q, w1.heap.size <= q -> (W4.setCell ⟨w.heap.size + 1, 0, none⟩ (.slice av os.length cv)).heap[q]? = W4.heap[q]? := fun q hq => by
          simp only [World.setCell, Array.getElem?_modify]; rw [if_neg (by omega)]
        have key : ∀ w2 : World, W4.heap.size <= w2.heap.size -> (∀ q, w1.heap.size <= q -> q < W4.heap.size -> w2.heap[q]? = W4.heap[q]?) -> LSrc 3 PEC w2 av (os.map Prod.fst) ∧ os.length <= cv := fun w2 hs2 hq2 => by
          have hG' : ∀ q ∈ os, goodE w1.heap.size w2 (.slice av os.length cv) q := fun q hq => (HG.out q hq).far hs2 (fun q hq1 hq3 _ => hq2 q (by omega) hq3) (fun q hq => .inl hq)
          have hO' : w2.ownsRow (w1.heap.size + 1) 78 3 (.slice av os.length cv) os.length (os.flatMap entM) := row_blockM hT.own (fun q hq => by
            have := hT.own.lt q hq
            exact hq2 q (by omega) this.2)
          obtain ⟨a5, c5, e5, hs5, hcv⟩ := ents_src hO' rfl hG'
          cases e5
          exact ⟨hs5, hcv⟩
        refine ⟨av, cv, os.map Prod.fst, by rw [List.length_map], HDn.out _ HM.out, fun w2 h1 h2 => (key w2 (by omega) (fun q g1 g2 => (h2 q (by omega) (by omega)).trans (hbq q g1))).1, by rw [List.length_map]; exact (key W4 (Nat.le_refl _) (fun _ _ _ => rfl)).2, hB4.setCell (p := ⟨w.heap.size + 1, 0, none⟩) (show w.heap.size <= w.heap.size + 1 by omega) _⟩
      clear hT HG HM HC hsE hB4 H6 HSk HNx HDn HSy HSn HSe HRu
      go_wp2
      exact bodyPost_ret (v := .agg #[.slice av os.length cv]) (by simp [results, Tryz.results19, go_sem, c04]) rfl HF.out
end Go.Proofs.YtddemlfepjkgoaaGreat
