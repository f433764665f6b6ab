import Derived.Test.YtdihdapmphkhpaaGreatQ43
set_option linter.all false
set_option maxRecDepth 200000
set_option maxHeartbeats 16000000
namespace Go.Proofs.YtdihdapmphkhpaaGreat
open Go.RowKit
variable{i:Nat}{p:List E}
structure ItS(p:List E)(QT:List It)(i k:Nat)(q:List It)(fr:Int):Prop where
 hq:q++mB k (p.drop i) fr=QT
 fuel:p.length-i<=k
 f1:1<=fr
 f2:fr+3*((p.length-i:Nat):Int)+13*(gN (p.drop i):Int)<=600000
theorem ItS.next{QT:List It}{j k:Nat}{q:List It}{fr:Int}(h:ItS p QT i (k+1) q fr)(hi:i<p.length)(hj:ew (p.drop i)=j-i)(hij:i<j)(hjn:j<=p.length):
 ItS p QT j k (q++[fq 21 (p.getD i E.zero).et fr]++[fi 0]++gM (j-i) ((p.drop i).take (j-i)) (fr+1)++[fe fr]) (fr+(1+iO ((p.drop i).take (j-i)))):=by
 have hl:(p.drop i).length=p.length-i:=by simp
 have e0:(p.drop i).getD 0 E.zero=p.getD i E.zero:=by simp[aa]
 have ed:(p.drop i).drop (j-i)=p.drop j:=by rw[List.drop_drop];congr 1;omega
 have ht:((p.drop i).take (j-i)).length=j-i:=by simp;omega
 have hs:=fX (p.drop i) (j-i);rw[ed]at hs;have hf:=h.fuel;have h1:=h.f1;have h2:=h.f2;have h3:=iu ((p.drop i).take (j-i));rw[ht]at h3;refine⟨?_,by omega,by omega,?_⟩
 ·have hq:=h.hq;simp only[mB]at hq;rw[if_neg (by omega),hj,e0,ed]at hq;rw[<-hq];simp only[aF,aO,bp]
 omega
theorem ItS.done{QT:List It}{k:Nat}{q:List It}{fr:Int}(h:ItS p QT i k q fr)(hi:p.length<=i):q=QT:=by
 have hq:=h.hq;have hl:(p.drop i).length=0:=by simp;omega
 have:mB k (p.drop i) fr=[]:=by
  cases k with
  |zero=>rfl
  |succ k=>simp only[mB];rw[if_pos hl]
 rw[this,bM]at hq;exact hq
theorem E2{j:Nat}(hi:i<j)(hj:j<=p.length)(h1:∀t,i<=t->t<j->(p.getD t E.zero).et=(p.getD i E.zero).et)(h2:j<p.length->(p.getD j E.zero).et≠(p.getD i E.zero).et):ew (p.drop i)=j-i:=by
 have e:∀t,(p.drop i).getD t E.zero=p.getD (i+t) E.zero:=fun t=>by simp[aa]
 refine vF (fun t ht=> ?_) (by simp;omega) (by simp;omega) (fun hk=> ?_)
 ·rw[e,e];exact h1 (i+t) (by omega) (by omega)
 rw[e,e];have:i+(j-i)=j:=by omega
 rw[this];exact h2 (by simp at hk;omega)
theorem Am (p : List E) (a : Option Addr) (cap : Nat) (w : World) (hs : eS 3 PEC w a p) (hcap : p.length <= cap) (hE : ∀ e ∈ p, WrE e) (hM : ∀ e ∈ p, WrM e) (hn : p.length <= 1000) (hr : gN p <= 1000) :
    Calls Tryz.prog 23 #[.agg #[.slice a p.length cap]] w fun e w' => gK (js p) w e w' := by
  have HI : Hid (∀ w1, Calls Tryz.prog 44 #[.int .u16 6, .int .u32 2147483648] w1 fun e w' => e = .returned (.agg #[.int .i64 0, .int .u16 6, .int .u8 0, .int .u8 0, .int .u32 2147483648, .int .i64 0]) ∧ Below w1.heap.size w1 w') := fun w1 => qm 6 2147483648 w1
  have HLd : Hid (∀ (a : Int) w1, 0 <= a -> a <= 1000 -> Calls Tryz.prog 45 #[.int .i64 a] w1 fun e w' => e = .returned (.agg #[.int .i64 0, .int .u16 32, .int .u8 0, .int .u8 0, .int .u32 a, .int .i64 0]) ∧ Below w1.heap.size w1 w') := fun a w1 h0 h1 => rh a w1 h0 h1
  have HTe : Hid (∀ (k t : Int) w1, Calls Tryz.prog 46 #[.int .i64 2, .int .u16 21, .int .u32 k, .int .i64 t] w1 fun e w' => e = .returned (.agg #[.int .i64 2, .int .u16 21, .int .u8 0, .int .u8 0, .int .u32 k, .int .i64 t]) ∧ Below w1.heap.size w1 w') := fun k t w1 => mh 2 21 k t w1
  have HLb : Hid (∀ (t : Int) w1, Calls Tryz.prog 48 #[.int .i64 t] w1 fun e w' => e = .returned (.agg #[.int .i64 4, .int .u16 0, .int .u8 0, .int .u8 0, .int .u32 0, .int .i64 t]) ∧ Below w1.heap.size w1 w') := fun t w1 => mL t w1
  have B0 : Below w.heap.size w (w.alloc (.cells #[.slice a p.length cap] 25)) := (af _ _).alloc (ae _) _
  have x0 : (w.alloc (.cells #[.slice a p.length cap] 25)).cell? ⟨w.heap.size, 0, none⟩ = some (.slice a p.length cap) := by simp
  go_enter Tryz.func23, Tryz.ntmps23
  by_cases hp0 : p.length = 0
  · have HPo : Hid (∀ W0 w1 v, Below w.heap.size w W0 -> gy W0 W0.heap.size w1 v [jQ 2147483648] -> gK (js p) w (.returned v) w1) := fun W0 w1 v hb h => h.post hb hb.size (by unfold js; rw [if_pos hp0])
    rw [hp0] at B0 x0 ⊢
    clear HLd HTe HLb hs hE hM hcap hn hr hp0
    generalize js p = im at *
    go_wp2_with fail
    refine (HI.out _).mono ?_
    generalize w.alloc (.cells #[.slice a 0 cap] 25) = V0 at *
    rintro _ w1 ⟨rfl, hb1⟩
    have x1 := eh hb1 x0
    have B1 := eo hb1 B0
    clear hb1 x0 B0 HI
    have B2 : Below w.heap.size w (w1.alloc (.cells #[.int .i64 0, .int .u16 6, .int .u8 0, .int .u8 0, .int .u32 2147483648, .int .i64 0] 91)) := B1.alloc B1.size _
    have x2 := eh ((af _ _).alloc (ae _) (.cells #[.int .i64 0, .int .u16 6, .int .u8 0, .int .u8 0, .int .u32 2147483648, .int .i64 0] 91)) x1
    have hnx := dA w1 _ x1
    go_wp2_with fail
    have HF : Hid (gK im w (.returned (.slice (some ⟨w1.heap.size + 1, 0, none⟩) 1 1)) ((w1.alloc (.cells #[.int .i64 0, .int .u16 6, .int .u8 0, .int .u8 0, .int .u32 2147483648, .int .i64 0] 91)).alloc (.cells #[.int .i64 0, .int .u16 6, .int .u8 0, .int .u8 0, .int .u32 2147483648, .int .i64 0] 91))) := by
      refine HPo.out _ _ _ B2 ⟨(af _ _).alloc (ae _) _, ?_, by simp⟩
      have h := lM (w1.alloc (.cells #[.int .i64 0, .int .u16 6, .int .u8 0, .int .u8 0, .int .u32 2147483648, .int .i64 0] 91)) _ (jQ 2147483648) (ae _)
      simpa [jQ, jr] using h
    clear HPo B1 B2
    go_wp2
    go_ret
    exact HF.out
  · obtain ⟨b, o, rfl, hb0, hpe0⟩ := hs.at (i := 0) (by omega) E.zero
    clear hpe0
    obtain ⟨QT, hQT⟩ : ∃ QT, fi 4 :: mB p.length p 1 = QT := ⟨_, rfl⟩
    have HQl : Hid (QT.length <= 80000) := by
      show _ <= _
      have := xj p.length p 1 hE
      rw [<- hQT, aq]; omega
    have HC : Hid (∀ W, Below w.heap.size w W -> ∀ t, t < p.length -> W.cell? ⟨b, o + t * 3, none⟩ = some (.int .u32 (p.getD t E.zero).et)) := fun W hW t ht => by
      obtain ⟨b', o', e, _, c0, _⟩ := (hs.below PEC.stays hW).at ht E.zero
      cases e
      exact c0
    have HIt : Hid (js p = QT ++ [fe 0] ++ [jQ 2147483648]) := by show _ = _; unfold js; rw [if_neg hp0, <- hQT]
    have hsl : ∀ i j, i < j -> j <= p.length -> ((p.drop i).take (j - i)).length = j - i := fun i j h1 h2 => by simp; omega
    have hsm : ∀ i j, gN ((p.drop i).take (j - i)) <= 1000 ∧ gN ((p.drop i).take (j - i)) <= gN (p.drop i) := fun i j => by
      have h1 := fX p i
      have h2 := fX (p.drop i) (j - i)
      omega
    have hmem : ∀ i j (e : E), e ∈ (p.drop i).take (j - i) -> e ∈ p := fun i j e he => aQ (aB he)
    have HTr : Hid (∀ i j k q fr W, ItS p QT i k q fr -> Below w.heap.size w W -> i < j -> j <= p.length -> Calls Tryz.prog 47 #[.slice (some ⟨b, o + i * 3, none⟩) (j - i) (cap - i), .int .i64 (fr + 1)] W fun e w' => ∃ v, e = .returned v ∧ gT w' W.heap.size v (gM (j - i) ((p.drop i).take (j - i)) (fr + 1)) ∧ Below W.heap.size W w') := fun i j k q fr W hI hW h1 h2 => by
      have hl := hsl i j h1 h2
      have hm := hsm i j
      have g1 := hI.f1
      have g2 := hI.f2
      have := Bn (j - i) ((p.drop i).take (j - i)) b (o + i * 3) (cap - i) (fr + 1) W (((hs.back i).front (j - i)).below PEC.stays hW) (fun e he => hE e (hmem i j e he)) (fun e he => hM e (hmem i j e he)) (by omega) (by omega) (by omega) (by omega) (by rw [hl]; omega) (by rw [hl]; omega)
      rw [hl] at this
      exact this
    have HNd : Hid (∀ i j W, Below w.heap.size w W -> i < j -> j <= p.length -> Calls Tryz.prog 49 #[.slice (some ⟨b, o + i * 3, none⟩) (j - i) (cap - i)] W fun e w' => e = .returned (.int .i64 (iO ((p.drop i).take (j - i)))) ∧ w' = W) := fun i j W hW h1 h2 => by
      have hl := hsl i j h1 h2
      have hm := hsm i j
      have := vw ((p.drop i).take (j - i)) (some ⟨b, o + i * 3, none⟩) (cap - i) W ((PEC.uq ((hs.back i).front (j - i))).below PE.stays hW) (by omega) (by omega)
      rw [hl] at this
      exact this
    have HTl : Hid (∀ i j fr, i < j -> j <= p.length -> (gM (j - i) ((p.drop i).take (j - i)) (fr + 1)).length <= 80000) := fun i j fr h1 h2 => by
      have hl := hsl i j h1 h2
      have hm := hsm i j
      have := qf (j - i) ((p.drop i).take (j - i)) (fr + 1) (fun e he => hE e (hmem i j e he)) (by omega) (by omega)
      omega
    have HNl : Hid (∀ i j, 0 <= iO ((p.drop i).take (j - i)) ∧ iO ((p.drop i).take (j - i)) <= 20000) := fun i j => by
      have hm := hsm i j
      have hl : ((p.drop i).take (j - i)).length <= 1000 := by simp; omega
      rw [iu]; omega
    have HNx : Hid (∀ i j k q fr, ItS p QT i (k + 1) q fr -> i < p.length -> i < j -> j <= p.length -> (∀ t, i <= t -> t < j -> (p.getD t E.zero).et = (p.getD i E.zero).et) -> (j < p.length -> (p.getD j E.zero).et ≠ (p.getD i E.zero).et) -> ItS p QT j k (q ++ [fq 21 (p.getD i E.zero).et fr] ++ [fi 0] ++ gM (j - i) ((p.drop i).take (j - i)) (fr + 1) ++ [fe fr]) (fr + (1 + iO ((p.drop i).take (j - i))))) := fun i j k q fr h hi hij hj h1 h2 => h.next hi (E2 hij hj h1 h2) hij hj
    have HDn : Hid (∀ i k q fr, ItS p QT i k q fr -> p.length <= i -> q = QT) := fun i k q fr h hi => h.done hi
    have HFa : Hid (∀ i k q fr, ItS p QT i k q fr -> q.length <= 80000 ∧ p.length - i <= k ∧ 1 <= fr ∧ fr <= 600000) := fun i k q fr h => by
      have h1 := congrArg List.length h.hq
      have h2 := HQl.out
      have h3 := h.f2
      rw [aj] at h1
      exact ⟨by omega, h.fuel, h.f1, by omega⟩
    have HQ0 : Hid (ItS p QT 0 p.length [fi 4] 1) := ⟨by rw [<- hQT]; rfl, by omega, by omega, by simp only [List.drop_zero, dY]; omega⟩
    obtain ⟨im, him⟩ : ∃ im, QT ++ [fe 0] ++ [jQ 2147483648] = im := ⟨_, rfl⟩
    rw [HIt.out, him]
    have HIm : Hid (QT ++ [fe 0] ++ [jQ 2147483648] = im) := him
    clear him
    clear HIt hQT hsl hsm hmem hs hE hM hb0 hr
    obtain ⟨IS, hIS⟩ : ∃ IS : Nat -> Nat -> List It -> Int -> Prop, ∀ i k q fr, ItS p QT i k q fr = IS i k q fr := ⟨_, fun _ _ _ _ => rfl⟩
    obtain ⟨tr, htr⟩ : ∃ tr : Nat -> Nat -> Int -> List It, ∀ i j fr, gM (j - i) ((p.drop i).take (j - i)) (fr + 1) = tr i j fr := ⟨_, fun _ _ _ => rfl⟩
    obtain ⟨nd, hnd⟩ : ∃ nd : Nat -> Nat -> Int, ∀ i j, iO ((p.drop i).take (j - i)) = nd i j := ⟨_, fun _ _ => rfl⟩
    obtain ⟨ar, har⟩ : ∃ ar : Nat -> Int, ∀ t, (p.getD t E.zero).et = ar t := ⟨_, fun _ => rfl⟩
    simp only [hIS, htr, hnd, har] at HTr HNd HTl HNl HNx HDn HFa HQ0 HC
    clear hIS htr hnd har
    generalize p.length = n at *
    clear p
    have hn1 : (0 : Int) < (n : Int) := by omega
    have hn2 : ((n : Int) == 0) = false := by simp; omega
    have hn3 : ¬ (n : Int) = 0 := by omega
    go_wp2_with fail
    refine (HI.out _).mono ?_
    generalize w.alloc (.cells #[.slice (some ⟨b, o, none⟩) n cap] 25) = V0 at *
    rintro _ w1 ⟨rfl, hb1⟩
    have x1 := eh hb1 x0
    have B1 := eo hb1 B0
    clear hb1 x0 B0 HI
    have B2 : Below w.heap.size w (w1.alloc (.cells #[.int .i64 0, .int .u16 6, .int .u8 0, .int .u8 0, .int .u32 2147483648, .int .i64 0] 91)) := B1.alloc B1.size _
    have x2 := eh ((af _ _).alloc (ae _) (.cells #[.int .i64 0, .int .u16 6, .int .u8 0, .int .u8 0, .int .u32 2147483648, .int .i64 0] 91)) x1
    have X2 := wB.new w1 91 (.int .i64 0) (.int .u16 6) (.int .u8 0) (.int .u8 0) (.int .u32 2147483648) (.int .i64 0)
    have hnx := dA w1 _ x1
    go_wp2_with fail
    clear hnx x1 B1
    generalize w1.alloc (.cells #[.int .i64 0, .int .u16 6, .int .u8 0, .int .u8 0, .int .u32 2147483648, .int .i64 0] 91) = W0 at *
    generalize w1.heap.size = D at *
    clear V0
    clear w1
    have HX : Hid (∀ W v q, gy W0 W0.heap.size W v q -> Below w.heap.size w W ∧ W.cell? ⟨w.heap.size, 0, none⟩ = some (.slice (some ⟨b, o, none⟩) n cap) ∧ W.cell? ⟨D, 0, none⟩ = some (.int .i64 0) ∧ W.cell? ⟨D, 1, none⟩ = some (.int .u16 6) ∧ W.cell? ⟨D, 2, none⟩ = some (.int .u8 0) ∧ W.cell? ⟨D, 3, none⟩ = some (.int .u8 0) ∧ W.cell? ⟨D, 4, none⟩ = some (.int .u32 2147483648) ∧ W.cell? ⟨D, 5, none⟩ = some (.int .i64 0)) := fun W v q h => by
      obtain ⟨_, y0, y1, y2, y3, y4, y5, _⟩ := X2.ey h.b
      exact ⟨eo h.b B2, eh h.b x2, y0, y1, y2, y3, y4, y5⟩
    have HPo : Hid (∀ W v q, gy W0 W0.heap.size W v q -> q = QT ++ [fe 0] ++ [jQ 2147483648] -> gK im w (.returned v) W) := fun W v q h e => h.post B2 B2.size (e.trans HIm.out)
    clear HIm
    clear X2 x2 B2
    refine (HLd.out _ _ (by omega) (by omega)).mono ?_
    rintro _ w3 ⟨rfl, hb3⟩
    have A3 : gy W0 W0.heap.size (w3.alloc (.cells #[.int .i64 0, .int .u16 32, .int .u8 0, .int .u8 0, .int .u32 4, .int .i64 0] 91)) (.slice (some ⟨w3.heap.size, 0, none⟩) 1 1) [fi 4] := ⟨hb3.alloc hb3.size _, lM w3 _ (fi 4) hb3.size, by simp; exact dp hb3.size⟩
    clear hb3
    generalize W0.heap.size = Bb at *
    go_wp2_with fail
    generalize w3.alloc (.cells #[.int .i64 0, .int .u16 32, .int .u8 0, .int .u8 0, .int .u32 4, .int .i64 0] 91) = V3 at *
    generalize w3.heap.size = D3 at *
    go_loopw [4, 5, 6] (fun v fr i wr => ∃ (i' k : Nat) (q : List It) (f : Int) (v' : Value), v' = v ∧ i' <= n ∧ i = .int .i64 i' ∧ fr = .int .i64 f ∧ gy W0 Bb wr v' q ∧ Hid (IS i' k q f)) (fun _ _ i _ => n - (intOf i).toNat)
    case atStart => exact ⟨0, n, [fi 4], 1, _, rfl, by omega, by first | rfl | go_num, by first | rfl | go_num, A3, HQ0⟩
    case round =>
      clear A3
      obtain ⟨i, k, q, f, v0, hv0, hi, rfl, rfl, A, HIs⟩ := hrel
      subst hv0
      rename World => W1
      obtain ⟨hql, hfu, hf1, hf2⟩ := HFa.out i k q f HIs.out
      by_cases hin : i < n
      · have hin' : (i : Int) < (n : Int) := by omega
        have hiI : (i : Int) <= 1000 := by omega
        obtain ⟨k, rfl⟩ : ∃ k', k = k' + 1 := ⟨k - 1, by omega⟩
        obtain ⟨_, xx, _⟩ := HX.out _ _ _ A
        have HA : Hid (gy W0 Bb W1 v0 q) := A
        clear A
        go_wp2_with fail
        clear xx
        go_loopw [7] (fun j wr => ∃ j' : Nat, i <= j' ∧ j' <= n ∧ j = .int .i64 j' ∧ Hid (∀ t, i <= t -> t < j' -> ar t = ar i) ∧ gy W0 Bb wr v0 q) (fun j _ => n - (intOf j).toNat)
        case atStart => exact ⟨i, by omega, by omega, by first | rfl | go_num, fun t h1 h2 => by omega, HA.out⟩
        case round =>
          clear HA
          obtain ⟨j, hij, hjn, rfl, HJ, A'⟩ := hrel
          rename World => W2
          have HA : Hid (∀ m, gy W0 Bb (W2.drewN m) v0 q) := fun m => A'.call (below_drewN (af _ _) m)
          obtain ⟨hBd, xd, _⟩ := HX.out _ _ _ A'
          clear A'
          by_cases hj : j < n
          · have hj' : (j : Int) < (n : Int) := by omega
            have cj := HC.out _ hBd j hj
            have ci := HC.out _ hBd i hin
            by_cases haj : ar j = ar i
            · have HJs : Hid (∀ t, i <= t -> t < j + 1 -> ar t = ar i) := fun t h1 h2 => by
                by_cases e : t = j
                · rw [e]; exact haj
                · exact HJ.out t h1 (by omega)
              rw [haj] at cj
              clear HJ hBd
              go_wp2_with fail
              go_quiet (fail)
              all_goals
                go_wp2
                go_roundw
                case rel => exact ⟨j + 1, by omega, by omega, by first | rfl | go_num, HJs, HA.out _⟩
                case measure => simp [intOf]; omega
            · have hij2 : i < j := by
                rcases de i j with h | h
                · exact h
                · exact absurd (by rw [Nat.le_antisymm h hij]) haj
              have HJ2 : Hid (j < n -> ar j ≠ ar i) := fun _ => haj
              have haj2 : (ar j == ar i) = false := by simpa using haj
              clear hBd
              go_wp2_with fail
              go_quiet (fail)
              all_goals
                have A := HA.out nq
                clear HA cj ci xd haj haj2
                generalize W2.drewN nq = W3 at *
                have HN : Hid (IS j k (q ++ [fq 21 (ar i) f] ++ [fi 0] ++ tr i j f ++ [fe f]) (f + (1 + nd i j))) := HNx.out i j k q f HIs.out hin hij2 hjn HJ.out HJ2.out
                have HTr1 : Hid (∀ W, Below w.heap.size w W -> Calls Tryz.prog 47 #[.slice (some ⟨b, o + i * 3, none⟩) (j - i) (cap - i), .int .i64 (f + 1)] W fun e w' => ∃ v, e = .returned v ∧ gT w' W.heap.size v (tr i j f) ∧ Below W.heap.size W w') := fun W hb => HTr.out i j (k + 1) q f W HIs.out hb hij2 hjn
                have HNd1 : Hid (∀ W, Below w.heap.size w W -> Calls Tryz.prog 49 #[.slice (some ⟨b, o + i * 3, none⟩) (j - i) (cap - i)] W fun e w' => e = .returned (.int .i64 (nd i j)) ∧ w' = W) := fun W hb => HNd.out i j W hb hij2 hjn
                have htl := HTl.out i j f hij2 hjn
                obtain ⟨hnl0, hnl1⟩ := HNl.out i j
                have hij3 : (i : Int) <= (j : Int) := by omega
                have hjc : (j : Int) <= (cap : Int) := by omega
                have hjn3 : (j : Int) <= (n : Int) := by omega
                have hjI : (j : Int) <= 1000 := by omega
                have hci : ¬ cap = i := by omega
                have HC1 : Hid (∀ W, Below w.heap.size w W -> W.cell? ⟨b, o + i * 3, none⟩ = some (.int .u32 (ar i))) := fun W h => HC.out W h i hin
                clear HNx HTr HNd HTl HNl HIs HJ HJ2 HDn HFa HC HPo HQ0
                generalize tr i j f = tl at *
                generalize nd i j = ndv at *
                generalize ar i = ari at *
                obtain ⟨hBx, xx, _⟩ := HX.out _ _ _ A
                have cx := HC1.out _ hBx
                go_wp2_with fail
                refine (HTe.out _ _ _).mono ?_
                rintro _ W4 ⟨rfl, hb4⟩
                have A4 := A.call hb4
                clear A hb4 hBx xx cx
                go_wp2_with (at_builtin; refine eC rfl (.tmp 45) (.tmp 54) rfl (A4.alloc _) rfl _ (fq 21 ari f) rfl (fP (by simp)) (by omega) ?_)
                intro v5 W5 A5
                clear A4
                go_wp2_with fail
                refine (HLd.out _ _ (by omega) (by omega)).mono ?_
                rintro _ W6 ⟨rfl, hb6⟩
                have A6 := A5.call hb6
                clear A5 hb6
                go_wp2_with (at_builtin; refine eC rfl (.tmp 56) (.tmp 58) rfl (A6.alloc _) rfl _ (fi 0) rfl (fP (by simp)) (by simp; omega) ?_)
                intro v7 W7 A7
                clear A6
                obtain ⟨hBx, xx, _⟩ := HX.out _ _ _ A7
                go_wp2_with fail
                refine (HTr1.out _ hBx).mono ?_
                rintro _ W8 ⟨v8, rfl, o8, hb8⟩
                have A8 := A7.call hb8
                clear A7 hb8 hBx xx HTr1
                go_wp2_with (at_builtin; refine jv rfl (.tmp 60) (.tmp 68) rfl A8 rfl v8 _ _ rfl o8 (by simp; omega) ?_)
                intro v9 W9 A9
                clear A8 o8
                go_wp2_with fail
                refine (HLb.out _ _).mono ?_
                rintro _ W10 ⟨rfl, hb10⟩
                have A10 := A9.call hb10
                clear A9 hb10
                go_wp2_with (at_builtin; refine eC rfl (.tmp 70) (.tmp 73) rfl (A10.alloc _) rfl _ (fe f) rfl (fP (by simp)) (by simp; omega) ?_)
                intro v11 W11 A11'
                have A11 : gy W0 Bb W11 v11 (q ++ [fq 21 ari f] ++ [fi 0] ++ tl ++ [fe f]) := by
                  simpa using A11'
                have HA11 : Hid (gy W0 Bb W11 v11 (q ++ [fq 21 ari f] ++ [fi 0] ++ tl ++ [fe f])) := A11
                clear A10 A11'
                obtain ⟨hBx, xx, _⟩ := HX.out _ _ _ A11
                clear A11
                generalize q ++ [fq 21 ari f] ++ [fi 0] ++ tl ++ [fe f] = q2 at *
                go_wp2_with fail
                refine (HNd1.out _ hBx).mono ?_
                rintro _ _ ⟨rfl, rfl⟩
                clear HNd1 hBx xx
                go_wp2
                go_roundw
                case rel => exact ⟨j, k, q2, _, _, rfl, by omega, by first | rfl | go_num, by first | rfl | go_num, HA11.out, HN⟩
                case measure => simp [intOf]; omega
          · have hj' : ¬ (j : Int) < (n : Int) := by omega
            have hij2 : i < j := by omega
            have HJ2 : Hid (j < n -> ar j ≠ ar i) := fun h => absurd h hj
            clear hBd
            go_wp2_with fail
            go_quiet (fail)
            all_goals
              have A := HA.out nq
              clear HA xd
              generalize W2.drewN nq = W3 at *
              have HN : Hid (IS j k (q ++ [fq 21 (ar i) f] ++ [fi 0] ++ tr i j f ++ [fe f]) (f + (1 + nd i j))) := HNx.out i j k q f HIs.out hin hij2 hjn HJ.out HJ2.out
              have HTr1 : Hid (∀ W, Below w.heap.size w W -> Calls Tryz.prog 47 #[.slice (some ⟨b, o + i * 3, none⟩) (j - i) (cap - i), .int .i64 (f + 1)] W fun e w' => ∃ v, e = .returned v ∧ gT w' W.heap.size v (tr i j f) ∧ Below W.heap.size W w') := fun W hb => HTr.out i j (k + 1) q f W HIs.out hb hij2 hjn
              have HNd1 : Hid (∀ W, Below w.heap.size w W -> Calls Tryz.prog 49 #[.slice (some ⟨b, o + i * 3, none⟩) (j - i) (cap - i)] W fun e w' => e = .returned (.int .i64 (nd i j)) ∧ w' = W) := fun W hb => HNd.out i j W hb hij2 hjn
              have htl := HTl.out i j f hij2 hjn
              obtain ⟨hnl0, hnl1⟩ := HNl.out i j
              have hij3 : (i : Int) <= (j : Int) := by omega
              have hjc : (j : Int) <= (cap : Int) := by omega
              have hjn3 : (j : Int) <= (n : Int) := by omega
              have hjI : (j : Int) <= 1000 := by omega
              have hci : ¬ cap = i := by omega
              have HC1 : Hid (∀ W, Below w.heap.size w W -> W.cell? ⟨b, o + i * 3, none⟩ = some (.int .u32 (ar i))) := fun W h => HC.out W h i hin
              clear HNx HTr HNd HTl HNl HIs HJ HJ2 HDn HFa HC HPo HQ0
              generalize tr i j f = tl at *
              generalize nd i j = ndv at *
              generalize ar i = ari at *
              obtain ⟨hBx, xx, _⟩ := HX.out _ _ _ A
              have cx := HC1.out _ hBx
              go_wp2_with fail
              refine (HTe.out _ _ _).mono ?_
              rintro _ W4 ⟨rfl, hb4⟩
              have A4 := A.call hb4
              clear A hb4 hBx xx cx
              go_wp2_with (at_builtin; refine eC rfl (.tmp 45) (.tmp 54) rfl (A4.alloc _) rfl _ (fq 21 ari f) rfl (fP (by simp)) (by omega) ?_)
              intro v5 W5 A5
              clear A4
              go_wp2_with fail
              refine (HLd.out _ _ (by omega) (by omega)).mono ?_
              rintro _ W6 ⟨rfl, hb6⟩
              have A6 := A5.call hb6
              clear A5 hb6
              go_wp2_with (at_builtin; refine eC rfl (.tmp 56) (.tmp 58) rfl (A6.alloc _) rfl _ (fi 0) rfl (fP (by simp)) (by simp; omega) ?_)
              intro v7 W7 A7
              clear A6
              obtain ⟨hBx, xx, _⟩ := HX.out _ _ _ A7
              go_wp2_with fail
              refine (HTr1.out _ hBx).mono ?_
              rintro _ W8 ⟨v8, rfl, o8, hb8⟩
              have A8 := A7.call hb8
              clear A7 hb8 hBx xx HTr1
              go_wp2_with (at_builtin; refine jv rfl (.tmp 60) (.tmp 68) rfl A8 rfl v8 _ _ rfl o8 (by simp; omega) ?_)
              intro v9 W9 A9
              clear A8 o8
              go_wp2_with fail
              refine (HLb.out _ _).mono ?_
              rintro _ W10 ⟨rfl, hb10⟩
              have A10 := A9.call hb10
              clear A9 hb10
              go_wp2_with (at_builtin; refine eC rfl (.tmp 70) (.tmp 73) rfl (A10.alloc _) rfl _ (fe f) rfl (fP (by simp)) (by simp; omega) ?_)
              intro v11 W11 A11'
              have A11 : gy W0 Bb W11 v11 (q ++ [fq 21 ari f] ++ [fi 0] ++ tl ++ [fe f]) := by
                simpa using A11'
              have HA11 : Hid (gy W0 Bb W11 v11 (q ++ [fq 21 ari f] ++ [fi 0] ++ tl ++ [fe f])) := A11
              clear A10 A11'
              obtain ⟨hBx, xx, _⟩ := HX.out _ _ _ A11
              clear A11
              generalize q ++ [fq 21 ari f] ++ [fi 0] ++ tl ++ [fe f] = q2 at *
              go_wp2_with fail
              refine (HNd1.out _ hBx).mono ?_
              rintro _ _ ⟨rfl, rfl⟩
              clear HNd1 hBx xx
              go_wp2
              go_roundw
              case rel => exact ⟨j, k, q2, _, _, rfl, by omega, by first | rfl | go_num, by first | rfl | go_num, HA11.out, HN⟩
              case measure => simp [intOf]; omega
      · have hi' : i = n := by omega
        subst hi'
        obtain rfl := HDn.out _ _ _ _ HIs.out (ae _)
        obtain ⟨_, xx, _⟩ := HX.out _ _ _ A
        have HA : Hid (gy W0 Bb W1 v0 q) := A
        clear A HTr HNd HTl HNl HNx HDn HFa HQ0 HC HTe HIs
        go_wp2_with fail
        refine (HLb.out _ _).mono ?_
        rintro _ W4 ⟨rfl, hb4⟩
        have A4 := HA.out.call hb4
        clear HA hb4 xx HLb HLd
        go_wp2_with (at_builtin; refine eC rfl (.tmp 85) (.tmp 87) rfl (A4.alloc _) rfl _ (fe 0) rfl (fP (by simp)) (by omega) ?_)
        intro v5 W5 A5
        clear A4
        obtain ⟨_, _, y0, y1, y2, y3, y4, y5⟩ := HX.out _ _ _ A5
        go_wp2_with (at_builtin; refine eC rfl (.tmp 89) (.tmp 91) rfl (A5.alloc _) rfl _ (jQ 2147483648) rfl (fP (by simp)) (by simp; omega) ?_)
        intro v6 W6 A6
        have HF : Hid (gK im w (.returned v6) W6) := HPo.out W6 v6 _ A6 (by simp)
        clear A5 A6 HPo HX y0 y1 y2 y3 y4 y5
        go_wp2
        go_ret
        exact HF.out
end Go.Proofs.YtdihdapmphkhpaaGreat
