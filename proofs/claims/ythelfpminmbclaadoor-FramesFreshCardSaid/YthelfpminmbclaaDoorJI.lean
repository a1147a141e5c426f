/- FramesFresh: the walk. -/
import Derived.Test.YthelfpminmbclaaDoorJL
namespace Go.Proofs.YthelfpminmbclaaDoor
open Go.RowKit Go.Sort

theorem grown_low1' {w w' : World} {base e n : Nat} {v : Value} {xs : List Value} (h : w.ownsRow base e 1 v n xs) (hg : w.grownBy w' v.ownBlock) {B : Nat} {w0 : World} (hb : Below B w0 w) (hB : B ≤ base) (hs : B ≤ w.heap.size) : Below B w0 w' :=
  hb.grown hg hs (fun k hk => by have := (h.lt k hk).1; omega)
theorem own_ty {w : World} {base E n : Nat} {v : Value} {xs : List Value} (h : w.ownsRow base E 1 v n xs) {q : Nat} (hq : v.ownBlock = some q) {F : TypeId} (hF : E ≠ F) : ∃ T cs, Row w q T cs ∧ T ≠ F := by
  rcases h.2 with ⟨h1, _⟩ | ⟨g, cap, cur, rfl, hb, hg, _⟩
  · rw [h1] at hq; cases hq
  · simp only [Value.ownBlock, Option.some.injEq] at hq
    subst hq
    exact ⟨E, cur.toList, ⟨by simpa using hg⟩, hF⟩
theorem low_f0 {fs : List FR} (h : lowR fs = none) : freeN fs = 0 := by
  rw [← cntT_len]
  unfold cntT
  rw [List.countP_eq_zero]
  intro x hx
  have := low_not h x
  simp [this]
theorem one_nm (w : World) (x : Int) : Nums (w.alloc (.cells #[.int .u8 x] 5)) .u8 (some ⟨w.heap.size, 0, none⟩) 1 [x] := by
  have h := Row.new w 5 ([x].map (Value.int .u8))
  exact Row.nums (l := [x]) (rest := []) (by simpa using h) rfl
theorem put_one (p g h : Nat) (F G : List FR) (ws : List Nat) (k o : Nat) (y : Int) (w : World) (H : Pl w p g h F ws) (h0 : loadE F k o 1 = 0) (hG : storeS F k o [y] = G) :
    Calls Tryd.prog 20 #[.pointer (some ⟨p, 0, none⟩), .int .i64 (k : Int), .int .i64 (o : Int), .slice (some ⟨w.heap.size, 0, none⟩) 1 1] (w.alloc (.cells #[.int .u8 y] 5)) fun e w' => e = .returned (.int .i64 0) ∧ Pl w' p g h G ws ∧ Ex (w.alloc (.cells #[.int .u8 y] 5)) w' g h := by
  have := store_any p g h F ws (k : Int) (o : Int) (some ⟨w.heap.size, 0, none⟩) 1 1 [y] (w.alloc (.cells #[.int .u8 y] 5)) (H.below (bal _)) (one_nm w y) (by omega)
  rw [hG] at this
  have e : loadE F (k : Int) (o : Int) ((1 : Nat) : Int) = 0 := h0
  rw [e] at this
  exact this
theorem load_same {fs gs : List FR} {k : Nat} (hl : gs.length = fs.length) (h : ∀ (h1 : k < fs.length) (h2 : k < gs.length), gs[k] = fs[k]) : loadL gs (k : Int) 0 4096 = loadL fs (k : Int) 0 4096 := by
  have hc : cntF gs (k : Int) = cntF fs (k : Int) := by
    by_cases c : k < fs.length
    · rw [cntF_is c, cntF_is (by rw [hl]; exact c), h c (by rw [hl]; exact c)]
    · unfold cntF
      rw [if_neg (by omega), if_neg (by omega)]
  have hg : gs.getD k default = fs.getD k default := by
    by_cases c : k < fs.length
    · rw [getF_at _ _ _ c, getF_at _ _ _ (by rw [hl]; exact c), h c (by rw [hl]; exact c)]
    · rw [List.getD_eq_getElem?_getD, List.getD_eq_getElem?_getD, List.getElem?_eq_none (by omega), List.getElem?_eq_none (by omega)]
  unfold loadL takE
  rw [hc, Int.toNat_natCast, hg]
theorem splice_at (L : List Int) (o : Nat) (x : Int) (hL : L.length = 4096) (ho : o < 4096) : (splice L o [x]).length = 4096 ∧ (splice L o [x])[o]? = some x := by
  refine ⟨by rw [length_splice _ _ _ (by simp; omega)]; exact hL, ?_⟩
  rw [splice_get _ _ _ _ (by simp; omega), if_neg (by omega), if_pos (by simp)]
  simp

/-- A list of slices of the call's own, each a list of bytes of its own: what was. -/
def WasAt (w : World) (base : Nat) (vs : List Value) (Ls : List (List Int)) : Prop := vs.length = Ls.length ∧ ∀ i (h : i < vs.length) (h2 : i < Ls.length), w.ownsRow base 5 1 vs[i] Ls[i].length (Ls[i].map (Value.int .u8))
theorem WasAt.nil (w : World) (base : Nat) : WasAt w base [] [] := ⟨rfl, fun i h => by cases h⟩
theorem WasAt.below {w w' : World} {base : Nat} {vs : List Value} {Ls : List (List Int)} (h : WasAt w base vs Ls) (hb : Below w.heap.size w w') : WasAt w' base vs Ls := ⟨h.1, fun i hi h2 => own_below (h.2 i hi h2) hb⟩
theorem WasAt.ex {w w' : World} {a b base : Nat} {vs : List Value} {Ls : List (List Int)} (h : WasAt w base vs Ls) (hx : Ex w w' a b) (ha : a < base) (hb : b < base) : WasAt w' base vs Ls := ⟨h.1, fun i hi h2 => own_ex (h.2 i hi h2) hx ha hb⟩
theorem WasAt.push {w : World} {base : Nat} {vs : List Value} {Ls : List (List Int)} (h : WasAt w base vs Ls) {v : Value} {L : List Int} (hv : w.ownsRow base 5 1 v L.length (L.map (Value.int .u8))) : WasAt w base (vs ++ [v]) (Ls ++ [L]) := by
  refine ⟨by simp [h.1], fun i hi h2 => ?_⟩
  simp only [List.length_append, List.length_singleton] at hi h2
  by_cases c : i < vs.length
  · have c2 : i < Ls.length := by rw [← h.1]; exact c
    simp only [List.getElem_append_left c, List.getElem_append_left c2]
    exact h.2 i c c2
  · have e1 : i = vs.length := by omega
    subst e1
    have e2 : vs.length = Ls.length := h.1
    have g1 : (vs ++ [v])[vs.length]'(by simp) = v := by simp
    have g2 : (Ls ++ [L])[vs.length]'(by simp [e2]) = L := by simp [e2]
    rw [g1, g2]
    exact hv
theorem WasAt.grown {w w' : World} {base : Nat} {vs : List Value} {Ls : List (List Int)} {row : Option Nat} (h : WasAt w base vs Ls) (hg : w.grownBy w' row) (hne : ∀ g, row = some g → ∃ T cs, Row w g T cs ∧ T ≠ 5) : WasAt w' base vs Ls := ⟨h.1, fun i hi h2 => (h.2 i hi h2).kept hg (by
  cases hv : (vs[i]).ownBlock with
  | none => exact .inl rfl
  | some k =>
    refine .inr ?_
    rintro rfl
    obtain ⟨T, cs, hr, hT⟩ := hne k rfl
    have := own_row_ne (h.2 i hi h2) hr hT
    rw [hv] at this
    exact this rfl)⟩
def bytesOf (fs : List FR) (k : Nat) : List Int := loadL fs (k : Int) 0 4096
def bytesTo (fs : List FR) (k : Nat) : List (List Int) := (List.range k).map (bytesOf fs)
theorem bytesTo_succ (fs : List FR) (k : Nat) : bytesTo fs (k + 1) = bytesTo fs k ++ [bytesOf fs k] := by unfold bytesTo; rw [List.range_succ, List.map_append]; rfl
theorem bytesTo_at (fs : List FR) (n k : Nat) (hk : k < n) : (bytesTo fs n)[k]'(by simp [bytesTo]; exact hk) = bytesOf fs k := by simp [bytesTo]
theorem bytesOf_len (fs : List FR) (k : Nat) : (bytesOf fs k).length ≤ 4096 := by
  unfold bytesOf loadL
  split
  · split
    · rw [List.length_take]
      have : (4096 : Int).toNat = 4096 := rfl
      omega
    · simp
  · simp
theorem infoBB : (Tryd.prog.info? 32).map (fun i => (i.zero, i.size, i.bytes)) = some (some (.slice none 0 0), 1, 24) := by kernel_rfl

set_option maxRecDepth 100000 in
set_option maxHeartbeats 4000000 in
theorem framesFresh_walk (n : Int) (a : Option Addr) (len cap : Nat) (fo : Nat → OP) (pa x : Int) (w : World) (hT : Tb w) (hA : OpsIn w a len fo) (hm : len ≤ 9223372036854775807) (p0 : 0 ≤ pa) (p1 : pa ≤ 65535) (x0 : 0 ≤ x) (x1 : x ≤ 255) :
    Calls Tryd.prog 7 #[.int .i64 n, .slice a len cap, .int .u16 pa, .int .u8 x] w fun e w' => e = .returned (.bool true) ∧ Below w.heap.size w w' := by
  have HT := hid hT
  have HA := hid hA
  clear hT hA
  by_cases hn : 1 ≤ n ∧ n ≤ 1024 ∧ n ≤ 64
  · obtain ⟨m, rfl⟩ := Int.eq_ofNat_of_zero_le (show 0 ≤ n by omega)
    have h1 : 1 ≤ m := by omega
    have h2 : m ≤ 1024 := by omega
    have h64 : m ≤ 64 := by omega
    have d64 : decide ((64 : Int) < (m : Int)) = false := by simp; omega
    have d64n : decide (64 < m) = false := by simp; omega
    have HRT := hid (show (decide (1 ≤ (m : Int)) && decide ((m : Int) ≤ 1024)) = true by simp; omega)
    clear hn
    go_enter Tryd.func7, Tryd.ntmps7
    go_wp2_with fail
    refine (right_any _ _).mono ?_
    rintro e' w' ⟨rfl, rfl⟩
    rw [HRT.out]
    go_wp2_with fail
    refine (vast_any a len cap fo w HA.out hm).mono ?_
    rintro e' w' ⟨b, rfl, hv, rfl⟩
    cases b with
    | true =>
      clear hv
      go_wp2_with (go_at_call 11; refine (works_any _ HT.out).mono ?_; rintro e' w' ⟨rfl, hw⟩)
      go_ret
      exact ⟨rfl, hw⟩
    | false =>
      obtain ⟨h3, hbn⟩ := hv rfl
      have HPY := hid (played_any m a len cap fo w HT.out HA.out h1 h2 h3 hbn)
      clear hv hbn
      go_wp2_with fail
      refine (HPY.out).mono ?_
      rintro e' w1 ⟨p, g, h, fs, ws, rfl, hP⟩
      have HP := hid hP
      have hfl : fs.length = m := hP.len
      clear hP
      have HLD := hid (fun (k : Nat) (w' : World) (hp : Played w w' m 300 p g h fs ws) => load_any p g h fs ws (k : Int) 0 4096 w' hp.pl)
      have hg1 : g < w1.heap.size := HP.out.pl.frames.lt
      have hh1 : h < w1.heap.size := HP.out.pl.words.lt
      obtain ⟨i0, hi, hz0, hz1, hz2⟩ := info_parts infoBB
      go_wp2_with fail
      go_loopw [11, 12] (fun v i wr => ∃ (sv : Value) (k : Nat) (vs : List Value), sv = v ∧ k ≤ m ∧ i = .int .i64 k ∧ wr.ownsRow w1.heap.size 32 1 sv k vs ∧ vs.length = k ∧ WasAt wr w1.heap.size vs (bytesTo fs k) ∧ Below w1.heap.size w1 wr) (fun _ i _ => m - (intOf i).toNat)
      case atStart => exact ⟨_, 0, [], rfl, Nat.zero_le _, rfl, own_nil_of, rfl, WasAt.nil _ _, Below.refl _ _⟩
      case round =>
        obtain ⟨sv, k, vs, hsv, hk, rfl, ho, hvl, hwas, hb⟩ := hrel
        subst hsv
        have HOw := hid ho
        have HWS := hid hwas
        have HBr := hid hb
        have HPr := hid (HP.out.still hb)
        have HVL := hid hvl
        clear ho hwas hb hvl
        by_cases hlt : k < m
        · have d1 : decide ((k : Int) < (m : Int)) = true := by simp; omega
          have d1n : decide (k < m) = true := by simp; omega
          go_wp2_with fail
          refine (HLD.out k wr HPr.out).mono ?_
          rintro e' w2 ⟨v, rfl, hv, hb⟩
          have hbs : w1.heap.size ≤ wr.heap.size := HBr.out.size
          have HV := hid (own_from hv hbs)
          have HO2 := hid (fun o => own_below (own_below HOw.out hb) (bal o))
          have HW2 := hid (fun o => ((HWS.out.below hb).push (own_from hv hbs)).below (bal o))
          have HB2 := hid (fun o => bal2 (bthen HBr.out hb) o)
          have HLb := hid (fun o => show w1.heap.size ≤ (w2.alloc o).heap.size from (HB2.out o).size)
          have HN1 := hid (news_one w2 v 32)
          obtain ⟨va, vc, rfl, _⟩ := own_nums hv
          have HL1 := hid (show k + 1 ≤ maxLen by unfold maxLen; omega)
          have HL2 := hid (show (k + 1) * 24 ≤ 140737488355328 by omega)
          have HX := hid (show bytesTo fs (k + 1) = bytesTo fs k ++ [loadL fs (k : Int) 0 4096] from bytesTo_succ fs k)
          clear hv hb
          generalize loadL fs (k : Int) 0 4096 = L at *
          go_wp2_with (at_builtin; go_must (refine wpList_append_own _ rfl _ _ 50 rfl w1.heap.size 32 i0 (.slice none 0 0) 1 24 Tryd.underlying50 hi hz0 hz1 hz2 rfl (by decide) sv k vs rfl (HO2.out _) ⟨w2.heap.size, 0, none⟩ 1 1 [.slice va L.length vc] rfl rfl HN1.out (fun u hu => by simp only [List.mem_singleton] at hu; subst hu; rfl) HL1.out HL2.out (HLb.out _) ?_; intro v3 w3 hown' hgrow _; have HO3 := hid hown'; have HG3 := hid hgrow; clear hown' hgrow))
          have HB3 := hid (grown_low1' (HO2.out _) HG3.out (HB2.out _) (Nat.le_refl _) (HLb.out _))
          have HW3 := hid ((HW2.out _).grown HG3.out (fun q hq => own_ty (HO2.out _) hq (by decide)))
          go_wp2_with fail
          go_roundw
          case rel => exact ⟨_, k + 1, vs ++ [.slice va L.length vc], rfl, by omega, by go_num, HO3.out, by simp [HVL.out], by rw [HX.out]; exact HW3.out, HB3.out⟩
          case measure => simp [intOf]; omega
        · have d1 : decide ((k : Int) < (m : Int)) = false := by simp; omega
          have d1n : decide (k < m) = false := by simp; omega
          obtain rfl : k = m := by omega
          have HTK := hid (take_any p g h fs ws wr HPr.out.pl (HPr.out.tb HT.out))
          cases hl : lowR fs with
          | none =>
            have HV := hid (show takeV fs = 0 ∧ takeE fs = 4 ∧ takeS fs = fs by unfold takeV takeE takeS; rw [hl]; exact ⟨rfl, rfl, rfl⟩)
            have HN := hid (low_f0 hl)
            rw [HV.out.1, HV.out.2.1, HV.out.2.2] at HTK
            clear hl
            go_wp2_with fail
            refine (HTK.out).mono ?_
            rintro e' w2 ⟨rfl, ⟨ws2, hpl⟩, hx⟩
            have HP2 := hid (HPr.out.step hpl hx ⟨HPr.out.bd, rfl⟩)
            have HF2 := hid (free_any p g h fs ws2 w2 hpl)
            rw [HN.out] at HF2
            clear hpl hx
            go_wp2_with (go_at_call 23; refine (HF2.out).mono ?_; rintro e' w' ⟨rfl, rfl⟩)
            go_ret
            exact ⟨rfl, HP2.out.below⟩
          | some j =>
            obtain ⟨hj, hfr, _⟩ := low_is hl
            have HV := hid (show takeV fs = (j : Int) ∧ takeE fs = 0 ∧ takeS fs = fs.set j one0 by unfold takeV takeE takeS; rw [hl]; exact ⟨rfl, rfl, rfl⟩)
            rw [HV.out.1, HV.out.2.1, HV.out.2.2] at HTK
            obtain ⟨o, ho⟩ := Int.eq_ofNat_of_zero_le (show 0 ≤ pa % 4096 by omega)
            have ho2 : o < 4096 := by omega
            have qo : pa.tmod 4096 = (o : Int) := by rw [Int.tmod_eq_emod_of_nonneg p0]; exact ho
            have hj2 : j < (fs.set j one0).length := by rw [List.length_set]; exact hj
            have a2j : (fs.set j one0)[j] = one0 := List.getElem_set_self _
            have a2o : ∀ i (h1 : i < fs.length) (h2 : i < (fs.set j one0).length), i ≠ j → (fs.set j one0)[i] = fs[i] := fun i h1 h2 hne => List.getElem_set_ne (fun e => hne e.symm) _
            obtain ⟨L0, hL0⟩ : ∃ L, L = one0.bs := ⟨_, rfl⟩
            have hL0l : L0.length = 4096 := by rw [hL0]; exact one0_len
            have hL0z : ∀ i (hi : i < L0.length), L0[i] = 0 := by
              subst hL0
              intro i hi
              exact List.getElem_replicate ..
            have HLJ := hid (fun (hok : FsOk (fs.set j one0)) => by
              have := load_all hok hj2 (by rw [a2j]; show (1 : Int) ≠ 0; decide)
              rw [a2j, ← hL0] at this
              exact this)
            have HS3 := hid (show loadE (fs.set j one0) j o 1 = 0 ∧ storeS (fs.set j one0) j o [x] = (fs.set j one0).set j ⟨splice L0 o [x], 1⟩ by
              have := store_one hj2 (by rw [a2j]; show (1 : Int) ≠ 0; decide) ho2 x
              rw [a2j, ← hL0] at this
              exact this)
            have HB2 := hid (show Bd 600 (fs.set j one0) ∧ (fs.set j one0).length = fs.length from ⟨fun y hy => by
              rcases List.mem_or_eq_of_mem_set hy with hy | rfl
              · have := HP.out.bd y hy; omega
              · show (1 : Int) ≤ 600; omega, List.length_set⟩)
            generalize hF2 : fs.set j one0 = F2 at *
            generalize hF3 : F2.set j ⟨splice L0 o [x], 1⟩ = F3 at *
            have hj3 : j < F3.length := by rw [← hF3, List.length_set]; exact hj2
            have a3j : F3[j] = ⟨splice L0 o [x], 1⟩ := by simp only [← hF3]; exact List.getElem_set_self _
            have hl3 : F3.length = fs.length := by rw [← hF3, List.length_set]; exact HB2.out.2
            have HSP := hid (splice_at L0 o x hL0l ho2)
            have HLJ3 := hid (fun (hok : FsOk F3) => by
              have := load_all hok hj3 (by rw [a3j]; show (1 : Int) ≠ 0; decide)
              rw [a3j] at this
              exact this)
            have HLO3 := hid (fun (i : Nat) (hne : i ≠ j) => load_same (fs := fs) (gs := F3) (k := i) hl3 (fun h1 h2 => by
              have e1 : F3[i] = F2[i]'(by rw [HB2.out.2]; exact h1) := by simp only [← hF3]; exact List.getElem_set_ne (fun e => hne e.symm) _
              rw [e1, a2o i h1 _ hne]))
            have HB3 := hid (show Bd 600 F3 ∧ F3.length = F2.length from ⟨fun y hy => by
              rw [← hF3] at hy
              rcases List.mem_or_eq_of_mem_set hy with hy | rfl
              · exact HB2.out.1 y hy
              · show (1 : Int) ≤ 600; omega, by rw [← hF3, List.length_set]⟩)
            have HZ := hid hL0z
            have HL0 := hid hL0l
            clear hl hfr hj2 a2j a2o hF2 hF3 hj3 a3j hL0 hL0z hL0l ho
            go_wp2_with fail
            refine (HTK.out).mono ?_
            rintro e' w2 ⟨rfl, ⟨ws2, hpl⟩, hx⟩
            have HP2 := hid (HPr.out.step hpl hx HB2.out)
            have HO2 := hid (own_ex HOw.out hx hg1 hh1)
            have HW2 := hid (HWS.out.ex hx hg1 hh1)
            have HL2 := hid (load_any p g h F2 ws2 (j : Int) 0 4096 w2 hpl)
            rw [(HLJ.out hpl.ok).1, (HLJ.out hpl.ok).2] at HL2
            clear hpl hx
            go_wp2_with fail
            refine (HL2.out).mono ?_
            rintro e' w3 ⟨v3, rfl, hv3, hb⟩
            have HP3 := hid (HP2.out.still hb)
            have HO3 := hid (own_below HO2.out hb)
            have HW3 := hid (HW2.out.below hb)
            obtain ⟨v3a, v3c, rfl, hn3⟩ := own_nums hv3
            have HN3 := hid hn3
            clear hb hv3 hn3
            rw [HL0.out]
            go_wp2_with fail
            go_loopw [18] (fun i wv => ∃ t : Nat, t ≤ 4096 ∧ i = .int .i64 t ∧ wv = w3) (fun i _ => 4096 - (intOf i).toNat)
            case atStart => exact ⟨0, Nat.zero_le _, rfl, rfl⟩
            case round =>
              obtain ⟨t, ht, rfl, rfl⟩ := hrel
              by_cases ht4 : t < 4096
              · have d3 : decide ((t : Int) < 4096) = true := by simp; omega
                have d3n : decide (t < 4096) = true := by simp; omega
                have htl : t < L0.length := by rw [HL0.out]; exact ht4
                obtain ⟨b3, o3, rfl, hc3⟩ := HN3.out.cell t htl
                rw [HZ.out t htl] at hc3
                have hlb3 := World.block_lt_of_cell? _ _ hc3
                have ez : (0 : Int) ≤ (t : Int) := by omega
                have eb : (t : Int) < 4096 := by omega
                go_wp2_with fail
                go_roundw
                case rel => exact ⟨t + 1, by omega, by go_num, by trivial⟩
                case measure => simp [intOf]; omega
              · have d3 : decide ((t : Int) < 4096) = false := by simp; omega
                have d3n : decide (t < 4096) = false := by simp; omega
                have HPUT := hid (put_one p g h F2 F3 ws2 j o x wr HP3.out.pl HS3.out.1 HS3.out.2)
                have HP3a := hid (fun o => HP3.out.still (bal o))
                have HO3a := hid (fun o => HO3.out.alloc o)
                have HW3a := hid (fun o => HW3.out.below (bal o))
                go_wp2_with fail
                refine (HPUT.out).mono ?_
                rintro e' w4 ⟨rfl, hpl, hx⟩
                have HP4 := hid ((HP3a.out _).step hpl hx HB3.out)
                have HO4 := hid (own_ex (HO3a.out _) hx hg1 hh1)
                have HW4 := hid ((HW3a.out _).ex hx hg1 hh1)
                have HLJ4 := hid (HLJ3.out hpl.ok)
                clear hpl hx HP3 HO3 HW3 HP3a HO3a HW3a HPUT
                go_wp2_with fail
                generalize hSx : splice L0 o [x] = S at *
                have hSl : S.length = 4096 := HSP.out.1
                have HSo := hid HSP.out.2
                have HSL := hid hSl
                clear hSx hSl HSP HZ HL0 HN3
                go_loopw [20] (fun i wv => ∃ f : Nat, f ≤ k ∧ i = .int .i64 f ∧ Below w4.heap.size w4 wv) (fun i _ => k - (intOf i).toNat)
                case atStart => exact ⟨0, Nat.zero_le _, rfl, Below.refl _ _⟩
                case round =>
                  obtain ⟨f, hf, rfl, hb⟩ := hrel
                  have HBv := hid hb
                  have HPv := hid (HP4.out.still hb)
                  clear hb
                  by_cases hfk : f < k
                  · have d5 : decide ((f : Int) < (k : Int)) = true := by simp; omega
                    have d5n : decide (f < k) = true := by simp; omega
                    have HLf := hid (load_any p g h F3 ws2 (f : Int) 0 4096 wr HPv.out.pl)
                    by_cases hfj : f = j
                    · subst hfj
                      rw [HLJ4.out.1, HLJ4.out.2] at HLf
                      go_wp2_with fail
                      refine (HLf.out).mono ?_
                      rintro e' w5 ⟨v5, rfl, hv5, hb⟩
                      have HB5 := hid (bthen HBv.out hb)
                      obtain ⟨v5a, v5c, rfl, hn5⟩ := own_nums hv5
                      have hSo := HSo.out
                      have hol : o < S.length := by rw [HSL.out]; exact ho2
                      obtain ⟨b5, o5, rfl, hc5⟩ := hn5.cell o hol
                      rw [List.getElem?_eq_getElem hol] at hSo
                      simp only [Option.some.injEq] at hSo
                      rw [hSo] at hc5
                      have hlb5 := World.block_lt_of_cell? _ _ hc5
                      have ez : (0 : Int) ≤ (o : Int) := by omega
                      have eb : (o : Int) < 4096 := by omega
                      clear hb hv5 hn5 hSo hol
                      rw [HSL.out]
                      go_wp2_with fail
                      go_roundw
                      case rel => exact ⟨f + 1, by omega, by go_num, HB5.out⟩
                      case measure => simp [intOf]; omega
                    · have q5 : ((f : Int) == (j : Int)) = false := by rw [beq_eq_false_iff_ne]; omega
                      have q5n : (f == j) = false := by rw [beq_eq_false_iff_ne]; exact hfj
                      rw [HLO3.out f hfj] at HLf
                      generalize loadE F3 (f : Int) 0 4096 = le at *
                      have HBO := hid (show loadL fs (f : Int) 0 4096 = bytesOf fs f from rfl)
                      rw [HBO.out] at HLf
                      have HBL := hid (bytesOf_len fs f)
                      go_wp2_with fail
                      refine (HLf.out).mono ?_
                      rintro e' w5 ⟨v5, rfl, hv5, hb⟩
                      have HB5 := hid (bthen HBv.out hb)
                      obtain ⟨v5a, v5c, rfl, hn5⟩ := own_nums hv5
                      have HN5 := hid hn5
                      have hO5 := own_below HO4.out HB5.out
                      have hW5 := HW4.out.below HB5.out
                      obtain ⟨sa, sc, rfl, hcel, _, _, _⟩ := own_cel hO5
                      have hvl : f < vs.length := by rw [HVL.out]; exact hfk
                      have hbl : f < (bytesTo fs k).length := by simp [bytesTo]; exact hfk
                      have hwf := hW5.2 f hvl hbl
                      rw [bytesTo_at fs k f hfk] at hwf
                      obtain ⟨wa, wc, ewv, hnw⟩ := own_nums hwf
                      obtain ⟨sb, so, rfl, hcc⟩ := hcel.cell f hvl
                      rw [ewv] at hcc
                      have hlsb := World.block_lt_of_cell? _ _ hcc
                      have HNW := hid hnw
                      have ez : (0 : Int) ≤ (f : Int) := by omega
                      have eb : (f : Int) < (k : Int) := by omega
                      clear hb hv5 hn5 hO5 hW5 hcel hvl hbl hwf ewv hnw hfj
                      generalize bytesOf fs f = Lf at *
                      go_wp2_with (go_at_call 27; refine (same_any _ _ _ _ _ Lf _ HN5.out HNW.out (by have := HBL.out; omega)).mono ?_; rintro e' w' ⟨rfl, q, rfl⟩)
                      go_roundw
                      case rel => exact ⟨f + 1, by omega, by go_num, bdN HB5.out q⟩
                      case measure => simp [intOf]; omega
                  · have d5 : decide ((f : Int) < (k : Int)) = false := by simp; omega
                    have d5n : decide (f < k) = false := by simp; omega
                    go_wp2_with fail
                    go_ret
                    exact ⟨rfl, bthen HP4.out.below HBv.out⟩
  · by_cases hr : 1 ≤ n ∧ n ≤ 1024
    · have h64 : 64 < n := by omega
      have HRT := hid (show (decide (1 ≤ n) && decide (n ≤ 1024)) = true by simp; omega)
      clear hn hr
      go_enter Tryd.func7, Tryd.ntmps7
      go_wp2_with fail
      refine (right_any _ _).mono ?_
      rintro e' w' ⟨rfl, rfl⟩
      rw [HRT.out]
      go_wp2_with (go_at_call 11; refine (works_any _ HT.out).mono ?_; rintro e' w' ⟨rfl, hw⟩)
      go_ret
      exact ⟨rfl, hw⟩
    · have HRT := hid (show (decide (1 ≤ n) && decide (n ≤ 1024)) = false by
        by_cases c : 1 ≤ n
        · have : ¬ n ≤ 1024 := fun h => hr ⟨c, h⟩
          simp [c, this]
        · simp [c])
      clear hn hr
      go_enter Tryd.func7, Tryd.ntmps7
      go_wp2_with fail
      refine (right_any _ _).mono ?_
      rintro e' w' ⟨rfl, rfl⟩
      rw [HRT.out]
      go_wp2_with (go_at_call 11; refine (works_any _ HT.out).mono ?_; rintro e' w' ⟨rfl, hw⟩)
      go_ret
      exact ⟨rfl, hw⟩
end Go.Proofs.YthelfpminmbclaaDoor
