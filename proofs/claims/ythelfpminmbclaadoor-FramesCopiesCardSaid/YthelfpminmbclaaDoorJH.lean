/- FramesCopies: the walk. -/
import Derived.Test.YthelfpminmbclaaDoorJL
namespace Go.Proofs.YthelfpminmbclaaDoor
open Go.RowKit Go.Sort

theorem copy_no {fs : List FR} {f : Int} (h : cntF fs f = 0) : copyE fs f = 1 ∧ copyV fs f = 0 ∧ copyS fs f = fs := by
  have ht : takE fs f = 1 := by unfold takE; rw [if_pos h]
  unfold copyE copyV copyS
  rw [ht]
  exact ⟨rfl, rfl, rfl⟩
theorem copy_full {fs : List FR} {f : Int} (h : cntF fs f ≠ 0) (hl : lowR fs = none) : copyE fs f = 4 ∧ copyV fs f = 0 ∧ copyS fs f = fs := by
  have ht : takE fs f = 0 := by unfold takE; rw [if_neg h]
  unfold copyE copyV copyS takeE takeV
  rw [ht, hl]
  exact ⟨rfl, rfl, rfl⟩
theorem copy_yes {fs : List FR} {k m : Nat} (hk : k < fs.length) (hc : fs[k].cnt ≠ 0) (hl : lowR fs = some m) : copyE fs k = 0 ∧ copyV fs k = (m : Int) ∧ copyS fs k = fs.set m ⟨fs[k].bs, 1⟩ := by
  have ht : takE fs (k : Int) = 0 := by unfold takE; rw [cntF_is hk, if_neg hc]
  unfold copyE copyV copyS takeE takeV
  rw [ht, hl, Int.toNat_natCast, getF_at _ _ _ hk]
  exact ⟨rfl, rfl, rfl⟩
theorem low_free0 {fs : List FR} (h : lowR fs = none) : freeN fs = 0 := by
  rw [← cntT_len]
  unfold cntT
  rw [List.countP_eq_zero]
  intro x hx
  have := low_not h x
  simp [this]
theorem low_free1 {fs : List FR} {f : Nat} (h : lowR fs = some f) : 1 ≤ freeN fs := by
  obtain ⟨hf, hfr, _⟩ := low_is h
  rw [free_at fs f hf] at hfr
  unfold freeN
  rw [Nat.one_le_iff_ne_zero, ← Nat.pos_iff_ne_zero, List.countP_pos_iff]
  exact ⟨_, List.getElem_mem hf, hfr⟩
theorem one_num (w : World) (x : Int) : Nums (w.alloc (.cells #[.int .u8 x] 5)) .u8 (some ⟨w.heap.size, 0, none⟩) 1 [x] := by
  have h := Row.new w 5 ([x].map (Value.int .u8))
  exact Row.nums (l := [x]) (rest := []) (by simpa using h) rfl

theorem store_put (p g h : Nat) (F G : List FR) (ws : List Nat) (k o : Nat) (y : Int) (w : World) (H : Pl w p g h F ws) (h0 : loadE F k o 1 = 0) (hG : storeS F k o [y] = G) :
    Calls Tryd.prog 20 #[.pointer (some ⟨p, 0, none⟩), .int .i64 (k : Int), .int .i64 (o : Int), .slice (some ⟨w.heap.size, 0, none⟩) 1 1] (w.alloc (.cells #[.int .u8 y] 5)) fun e w' => e = .returned (.int .i64 0) ∧ Pl w' p g h G ws ∧ Ex (w.alloc (.cells #[.int .u8 y] 5)) w' g h := by
  have := store_any p g h F ws (k : Int) (o : Int) (some ⟨w.heap.size, 0, none⟩) 1 1 [y] (w.alloc (.cells #[.int .u8 y] 5)) (H.below (bal _)) (one_num w y) (by omega)
  rw [hG] at this
  have e : loadE F (k : Int) (o : Int) ((1 : Nat) : Int) = 0 := h0
  rw [e] at this
  exact this

set_option maxRecDepth 100000 in
set_option maxHeartbeats 4000000 in
theorem framesCopies_walk (n : Int) (a : Option Addr) (len cap : Nat) (fo : Nat → OP) (f pa x : Int) (w : World) (hT : Tb w) (hA : OpsIn w a len fo) (hm : len ≤ 9223372036854775807) (p0 : 0 ≤ pa) (p1 : pa ≤ 65535) (x0 : 0 ≤ x) (x1 : x ≤ 255) :
    Calls Tryd.prog 8 #[.int .i64 n, .slice a len cap, .int .i64 f, .int .u16 pa, .int .u8 x] w fun e w' => e = .returned (.bool true) ∧ Below w.heap.size w w' := by
  have HT := hid hT
  have HA := hid hA
  clear hT hA
  by_cases hn : 1 ≤ n ∧ n ≤ 1024
  · obtain ⟨m, rfl⟩ := Int.eq_ofNat_of_zero_le (show 0 ≤ n by omega)
    have h1 : 1 ≤ m := by omega
    have h2 : m ≤ 1024 := by omega
    have HRT := hid (show (decide (1 ≤ (m : Int)) && decide ((m : Int) ≤ 1024)) = true by simp; omega)
    clear hn
    go_enter Tryd.func8, Tryd.ntmps8
    go_wp2_with fail
    refine (right_any _ _).mono ?_
    rintro e' w' ⟨rfl, rfl⟩
    rw [HRT.out]
    go_wp2_with fail
    refine (vast_any a len cap fo w HA.out hm).mono ?_
    rintro e' w' ⟨b, rfl, hv, rfl⟩
    cases b with
    | true =>
      clear hv
      go_wp2_with (go_at_call 11; refine (works_any _ HT.out).mono ?_; rintro e' w' ⟨rfl, hw⟩)
      go_ret
      exact ⟨rfl, hw⟩
    | false =>
      obtain ⟨h3, hbn⟩ := hv rfl
      have HPY := hid (played_any m a len cap fo w HT.out HA.out h1 h2 h3 hbn)
      clear hv hbn
      go_wp2_with fail
      refine (HPY.out).mono ?_
      rintro e' w1 ⟨p, g, h, fs, ws, rfl, hP⟩
      have HP := hid hP
      have hfl : fs.length = m := hP.len
      clear hP
      have HLD := hid (load_any p g h fs ws f 0 4096 w1 HP.out.pl)
      by_cases h0 : cntF fs f = 0
      · have HL0 := hid (load_not h0 0 4096)
        have HC0 := hid (copy_no h0)
        rw [HL0.out.1, HL0.out.2] at HLD
        clear h0
        go_wp2_with fail
        refine (HLD.out).mono ?_
        rintro e' w2 ⟨v, rfl, _, hb⟩
        have HP2 := hid (HP.out.still hb)
        clear hb
        have HF := hid (free_any p g h fs ws w2 HP2.out.pl)
        have HC := hid (count_any p g h fs ws f w2 HP2.out.pl)
        have HCP := hid (copy_any p g h fs ws f w2 HP2.out.pl (HP2.out.tb HT.out))
        rw [HC0.out.1, HC0.out.2.1, HC0.out.2.2] at HCP
        go_wp2_with (first | (go_at_call 22; refine (HC.out).mono ?_; rintro e' w' ⟨rfl, rfl⟩) | (go_at_call 23; refine (HF.out).mono ?_; rintro e' w' ⟨rfl, rfl⟩))
        refine (HCP.out).mono ?_
        rintro e' w3 ⟨rfl, ⟨ws3, hpl⟩, hx⟩
        have HP3 := hid (HP2.out.step hpl hx ⟨HP2.out.bd, rfl⟩)
        have HF3 := hid (free_any p g h fs ws3 w3 hpl)
        clear hpl hx
        go_wp2_with (go_at_call 23; refine (HF3.out).mono ?_; rintro e' w' ⟨rfl, rfl⟩)
        go_ret
        exact ⟨rfl, HP3.out.below⟩
      · have hne := h0
        obtain ⟨k, hk, rfl, hc⟩ := cnt_is h0
        have hcn : fs[k].cnt ≠ 0 := fun e => h0 (by rw [hc]; exact e)
        have HL0 := hid (load_all HP.out.pl.ok hk hcn)
        rw [HL0.out.1, HL0.out.2] at HLD
        have hbl := HP.out.pl.ok _ (List.getElem_mem hk)
        clear h0
        go_wp2_with fail
        refine (HLD.out).mono ?_
        rintro e' w2 ⟨v, rfl, hv, hb⟩
        have HP2 := hid (HP.out.still hb)
        have HV2 := hid hv
        have hg1 : g < w1.heap.size := HP.out.pl.frames.lt
        have hh1 : h < w1.heap.size := HP.out.pl.words.lt
        clear hb hv
        have HF := hid (free_any p g h fs ws w2 HP2.out.pl)
        have HC := hid (count_any p g h fs ws (k : Int) w2 HP2.out.pl)
        have HCP := hid (copy_any p g h fs ws (k : Int) w2 HP2.out.pl (HP2.out.tb HT.out))
        rw [hc] at HC
        cases hl : lowR fs with
        | none =>
          have HC0 := hid (copy_full hne hl)
          have HN := hid (low_free0 hl)
          rw [HC0.out.1, HC0.out.2.1, HC0.out.2.2] at HCP
          rw [HN.out] at HF
          clear hl hne
          have HCC := hid hc
          generalize fs[k].cnt = c at *
          clear hc hcn
          go_wp2_with (first | (go_at_call 22; refine (HC.out).mono ?_; rintro e' w' ⟨rfl, rfl⟩) | (go_at_call 23; refine (HF.out).mono ?_; rintro e' w' ⟨rfl, rfl⟩))
          refine (HCP.out).mono ?_
          rintro e' w3 ⟨rfl, ⟨ws3, hpl⟩, hx⟩
          have HP3 := hid (HP2.out.step hpl hx ⟨HP2.out.bd, rfl⟩)
          have HC3 := hid (count_any p g h fs ws3 (k : Int) w3 hpl)
          rw [HCC.out] at HC3
          clear hpl hx
          go_wp2_with (go_at_call 22; refine (HC3.out).mono ?_; rintro e' w' ⟨rfl, rfl⟩)
          go_ret
          exact ⟨rfl, HP3.out.below⟩
        | some j =>
          obtain ⟨hj, hfr, _⟩ := low_is hl
          have hkj : k ≠ j := by
            rintro rfl
            rw [free_at fs k hk] at hfr
            exact hcn (by simpa using hfr)
          have HC0 := hid (copy_yes hk hcn hl)
          have HN := hid (low_free1 hl)
          rw [HC0.out.1, HC0.out.2.1, HC0.out.2.2] at HCP
          obtain ⟨N, hN⟩ : ∃ N, freeN fs = N + 1 := ⟨freeN fs - 1, by have := HN.out; omega⟩
          rw [hN] at HF
          have eN : ((N + 1 : Nat) : Int) = (N : Int) + 1 := by omega
          rw [eN] at HF
          have qN : ((N : Int) + 1 == 0) = false := by rw [beq_eq_false_iff_ne]; omega
          obtain ⟨o, ho⟩ := Int.eq_ofNat_of_zero_le (show 0 ≤ pa % 4096 by omega)
          have ho2 : o < 4096 := by omega
          have qo : pa.tmod 4096 = (o : Int) := by rw [Int.tmod_eq_emod_of_nonneg p0]; exact ho
          have hjk : j ≠ k := fun e => hkj e.symm
          -- the frames, step by step
          have hk2 : k < (fs.set j ⟨fs[k].bs, 1⟩).length := by rw [List.length_set]; exact hk
          have hj2 : j < (fs.set j ⟨fs[k].bs, 1⟩).length := by rw [List.length_set]; exact hj
          have a2k : (fs.set j ⟨fs[k].bs, 1⟩)[k] = fs[k] := List.getElem_set_ne hjk _
          have a2j : (fs.set j ⟨fs[k].bs, 1⟩)[j] = ⟨fs[k].bs, 1⟩ := List.getElem_set_self _
          have HLJ := hid (fun (hok : FsOk (fs.set j ⟨fs[k].bs, 1⟩)) => by
            have := load_all hok hj2 (by rw [a2j]; show (1 : Int) ≠ 0; decide)
            rw [a2j] at this
            exact this)
          have HCJ := hid (show cntF (fs.set j ⟨fs[k].bs, 1⟩) (j : Int) = 1 by rw [cntF_is hj2, a2j])
          have HCK := hid (show cntF (fs.set j ⟨fs[k].bs, 1⟩) (k : Int) = fs[k].cnt by rw [cntF_is hk2, a2k])
          have HS3 := hid (show loadE (fs.set j ⟨fs[k].bs, 1⟩) k o 1 = 0 ∧ storeS (fs.set j ⟨fs[k].bs, 1⟩) k o [x] = (fs.set j ⟨fs[k].bs, 1⟩).set k ⟨splice fs[k].bs o [x], fs[k].cnt⟩ by
            have := store_one hk2 (by rw [a2k]; exact hcn) ho2 x
            rw [a2k] at this
            exact this)
          have HB2 := hid (show Bd 600 (fs.set j ⟨fs[k].bs, 1⟩) ∧ (fs.set j ⟨fs[k].bs, 1⟩).length = fs.length from ⟨fun y hy => by
            rcases List.mem_or_eq_of_mem_set hy with hy | rfl
            · have := HP.out.bd y hy; omega
            · show (1 : Int) ≤ 600; omega, List.length_set⟩)
          generalize hF2 : fs.set j ⟨fs[k].bs, 1⟩ = F2 at *
          have hck := HP.out.bd _ (List.getElem_mem hk)
          generalize hF3 : F2.set k ⟨splice fs[k].bs o [x], fs[k].cnt⟩ = F3 at *
          have hk3 : k < F3.length := by rw [← hF3, List.length_set]; exact hk2
          have hj3 : j < F3.length := by rw [← hF3, List.length_set]; exact hj2
          have a3k : F3[k] = ⟨splice fs[k].bs o [x], fs[k].cnt⟩ := by simp only [← hF3]; exact List.getElem_set_self _
          have a3j : F3[j] = ⟨fs[k].bs, 1⟩ := by simp only [← hF3]; rw [List.getElem_set_ne hkj]; exact a2j
          have HLJ3 := hid (fun (hok : FsOk F3) => by
            have := load_all hok hj3 (by rw [a3j]; show (1 : Int) ≠ 0; decide)
            rw [a3j] at this
            exact this)
          have HB3 := hid (show Bd 600 F3 ∧ F3.length = F2.length from ⟨fun y hy => by
            rw [← hF3] at hy
            rcases List.mem_or_eq_of_mem_set hy with hy | rfl
            · exact HB2.out.1 y hy
            · show fs[k].cnt ≤ 600; omega, by rw [← hF3, List.length_set]⟩)
          have HS4 := hid (fun y => show loadE F3 j o 1 = 0 ∧ storeS F3 j o [y] = F3.set j ⟨splice fs[k].bs o [y], 1⟩ by
            have := store_one hj3 (by rw [a3j]; show (1 : Int) ≠ 0; decide) ho2 y
            rw [a3j] at this
            exact this)
          have HB4 := hid (fun y => show Bd 600 (F3.set j ⟨splice fs[k].bs o [y], 1⟩) ∧ (F3.set j ⟨splice fs[k].bs o [y], 1⟩).length = F3.length from ⟨fun z hz => by
            rcases List.mem_or_eq_of_mem_set hz with hz | rfl
            · exact HB3.out.1 z hz
            · show (1 : Int) ≤ 600; omega, List.length_set⟩)
          have HL5 := hid (fun y => load_one (fs := F3.set j ⟨splice fs[k].bs o [y], 1⟩) (k := k) (o := o) (by rw [List.length_set]; exact hk3) (by rw [List.getElem_set_ne hjk, a3k]; exact hcn) ho2 fs[k].bs x hbl (by rw [List.getElem_set_ne hjk, a3k]))
          generalize hBs : fs[k].bs = B at *
          generalize hcv : fs[k].cnt = c at *
          have hjkI : ((j : Int) == (k : Int)) = false := by rw [beq_eq_false_iff_ne]; omega
          have hjkN : (j == k) = false := by rw [beq_eq_false_iff_ne]; exact hjk
          have hBl : B.length = 4096 := hbl
          obtain ⟨va, vc, rfl, hvn⟩ := own_nums HV2.out
          have HVN := hid hvn
          have HBL := hid hBl
          clear hl hne hc hcn hfr hk2 hj2 a2k a2j hk3 hj3 a3k a3j hF2 hF3 hBs hcv hbl hck hvn hBl ho eN hN
          go_wp2_with (first | (go_at_call 22; refine (HC.out).mono ?_; rintro e' w' ⟨rfl, rfl⟩) | (go_at_call 23; refine (HF.out).mono ?_; rintro e' w' ⟨rfl, rfl⟩))
          refine (HCP.out).mono ?_
          rintro e' w3 ⟨rfl, ⟨ws3, hpl⟩, hx⟩
          have HP3 := hid (HP2.out.step hpl hx HB2.out)
          have HV3 := hid (own_ex HV2.out hx hg1 hh1)
          have HL3 := hid (load_any p g h F2 ws3 (j : Int) 0 4096 w3 hpl)
          rw [(HLJ.out hpl.ok).1, (HLJ.out hpl.ok).2] at HL3
          clear hpl hx
          go_wp2_with fail
          refine (HL3.out).mono ?_
          rintro e' w4 ⟨v4, rfl, hv4, hb⟩
          have HP4 := hid (HP3.out.still hb)
          have HV4 := hid (own_below HV3.out hb)
          obtain ⟨v4a, v4c, rfl, hn4⟩ := own_nums hv4
          have HN4 := hid hn4
          clear hb hv4 hn4
          have HCJ4 := hid (fun q => show Calls Tryd.prog 22 #[.pointer (some ⟨p, 0, none⟩), .int .i64 (j : Int)] (w4.drewN q) (fun e w' => e = .returned (.int .i64 1) ∧ w4.drewN q = w') by
            have := count_any p g h F2 ws3 (j : Int) (w4.drewN q) (HP4.out.still (bdN (Below.refl _ _) q)).pl
            rw [HCJ.out] at this
            exact this)
          have HCK4 := hid (fun q => show Calls Tryd.prog 22 #[.pointer (some ⟨p, 0, none⟩), .int .i64 (k : Int)] (w4.drewN q) (fun e w' => e = .returned (.int .i64 c) ∧ w4.drewN q = w') by
            have := count_any p g h F2 ws3 (k : Int) (w4.drewN q) (HP4.out.still (bdN (Below.refl _ _) q)).pl
            rw [HCK.out] at this
            exact this)
          obtain ⟨_, _, e4, hvn4⟩ := own_nums HV4.out
          cases e4
          have HVN4 := hid hvn4
          clear hvn4
          have hB9 : B.length ≤ 1000000 := by rw [HBL.out]; omega
          go_wp2_with (first | (go_at_call 27; refine (same_any _ _ _ _ _ B _ HN4.out HVN4.out hB9).mono ?_; rintro e' w' ⟨rfl, q, rfl⟩) | (go_at_call 22; with_reducible refine (HCJ4.out _).mono ?_; rintro e' w' ⟨rfl, rfl⟩) | (go_at_call 22; with_reducible refine (HCK4.out _).mono ?_; rintro e' w' ⟨rfl, rfl⟩) | fail)
          have HP5 := hid (HP4.out.still (bdN (Below.refl w4.heap.size w4) q))
          have HV5 := hid (own_below HV4.out (bdN (Below.refl w4.heap.size w4) q))
          have HP5a := hid (fun o => HP5.out.still (bal o))
          have HV5a := hid (fun o => HV5.out.alloc o)
          have hhx := hg1
          clear HCJ4 HCK4 HVN4 HN4
          refine (store_put p g h F2 F3 ws3 k o x (w4.drewN q) HP5.out.pl HS3.out.1 HS3.out.2).mono ?_
          rintro e' w6 ⟨rfl, hpl, hx⟩
          have HP6 := hid ((HP5a.out _).step hpl hx HB3.out)
          have HV6 := hid (own_ex (HV5a.out _) hx hg1 hh1)
          have HL6 := hid (load_any p g h F3 ws3 (j : Int) 0 4096 w6 hpl)
          rw [(HLJ3.out hpl.ok).1, (HLJ3.out hpl.ok).2] at HL6
          have hg6 : g < w6.heap.size := hpl.frames.lt
          have hh6 : h < w6.heap.size := hpl.words.lt
          clear hpl hx HP5 HV5 HP5a HV5a HP4 HV4
          go_wp2_with fail
          refine (HL6.out).mono ?_
          rintro e' w7 ⟨v7, rfl, hv7, hb⟩
          have HP7 := hid (HP6.out.still hb)
          have HV7 := hid (own_below HV6.out hb)
          have HW7 := hid hv7
          obtain ⟨v7a, v7c, rfl, _⟩ := own_nums hv7
          have HP7a := hid (fun o => HP7.out.still (bal o))
          have HPUT := hid (fun y => store_put p g h F3 _ ws3 j o y w7 HP7.out.pl (HS4.out y).1 (HS4.out y).2)
          have HV7a := hid (fun o => HV7.out.alloc o)
          have HW7a := hid (fun o => HW7.out.alloc o)
          clear hb hv7
          go_wp2_with fail
          refine (HPUT.out _).mono ?_
          rintro e' w8 ⟨rfl, hpl, hx⟩
          have HP8 := hid ((HP7a.out _).step hpl hx (HB4.out _))
          have HV8 := hid (own_ex (HV7a.out _) hx hg1 hh1)
          have HW8 := hid (own_ex (HW7a.out _) hx hg6 hh6)
          have HL8 := hid (load_any p g h _ ws3 (k : Int) (o : Int) 1 w8 hpl)
          rw [(HL5.out _).1, (HL5.out _).2] at HL8
          clear hpl hx HP7 HV7 HP7a HV7a HW7 HW7a HP6 HV6
          go_wp2_with fail
          refine (HL8.out).mono ?_
          rintro e' w9 ⟨v9, rfl, hv9, hb⟩
          have HP9 := hid (HP8.out.still hb)
          obtain ⟨_, _, e5, hn9⟩ := own_nums (own_below HV8.out hb)
          cases e5
          obtain ⟨_, _, e6, hm9⟩ := own_nums (own_below HW8.out hb)
          cases e6
          obtain ⟨v9a, v9c, rfl, hx9⟩ := own_nums hv9
          have hlx9 : ([x] : List Int).length = 1 := rfl
          obtain ⟨b9, o9, rfl, hc9⟩ := hx9.cell 0 (by simp)
          have hc9' : w9.cell? ⟨b9, o9, none⟩ = some (.int .u8 x) := by simpa using hc9
          have hl9 := World.block_lt_of_cell? _ _ hc9'
          have HN9 := hid hn9
          have HM9 := hid hm9
          clear hb hv9 hn9 hm9 hx9 hc9
          rw [hlx9]
          go_wp2_with (go_at_call 27; refine (same_any _ _ _ _ _ B _ HM9.out HN9.out hB9).mono ?_; rintro e' w' ⟨rfl, q, rfl⟩)
          go_ret
          exact ⟨rfl, (bdN HP9.out.below q)⟩
  · have HRT := hid (show (decide (1 ≤ n) && decide (n ≤ 1024)) = false by
      by_cases c : 1 ≤ n
      · have : ¬ n ≤ 1024 := fun h => hn ⟨c, h⟩
        simp [c, this]
      · simp [c])
    clear hn
    go_enter Tryd.func8, Tryd.ntmps8
    go_wp2_with fail
    refine (right_any _ _).mono ?_
    rintro e' w' ⟨rfl, rfl⟩
    rw [HRT.out]
    go_wp2_with (go_at_call 11; refine (works_any _ HT.out).mono ?_; rintro e' w' ⟨rfl, hw⟩)
    go_ret
    exact ⟨rfl, hw⟩
end Go.Proofs.YthelfpminmbclaaDoor
