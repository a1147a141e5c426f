
/- vfs's reference: Walk. -/
import Derived.Test.YthamfhenadaapaaGreatDoorG61
import Derived.Test.YthamfhenadaapaaGreatDoorVr
import Derived.Test.YthamfhenadaapaaGreatDoorAS
namespace Go.Proofs.YthamfhenadaapaaGreatDoor
open Go.RowKit Go.Sort

theorem isDir_nat {L : List ND} {i : Nat} (hi : i < L.length) : isDirL L (i : Int) = decide ((L.getD i default).kind = 2) := by
  unfold isDirL
  rw [decide_eq_true (by omega), decide_eq_true (by omega)]
  simp
theorem walkL_res {L : List ND} {c : CR} {from_ : Int} {p : BL} {last : Bool} {st : Nat} (h : 0 ≤ from_ ∧ from_ < (L.length : Int) ∧ (L.getD from_.toNat default).kind = 2) (h2 : chkE p = 0) (h3 : (if rootF p = true then 0 else from_.toNat) = st) {er nx : Nat} {R : Int × Nat} (h4 : followL L c (last || tailB p) 0 st (partsF p) = R) : walkL L c from_ p last = if R.1 = 0 then (if tailB p = true ∧ (L.getD R.2 default).kind ≠ 2 then (0, 8) else (((R.2 : Nat) : Int), 0)) else (0, R.1) := by
  unfold walkL; rw [if_pos h, if_pos h2, h3, h4]

set_option maxRecDepth 100000 in
set_option maxHeartbeats 16000000 in
theorem rwalk_any (G : Nat) (L : List ND) (d : Nat → Option Addr × Nat) (c : CR) (from_ : Int) (p : BL) (last : Bool) (w : World) (h : RF w G L d) (hc : CrOk w c) (hp : p.length ≤ 1000000) :
    Calls Tryz.prog 26 #[.pointer (some ⟨G, 0, none⟩), c.v, .int .i64 from_, .string (ba p), .bool last] w fun e w' => e = .returned (walkV (walkL L c from_ p last)) ∧ Below w.heap.size w w' := by
  obtain ⟨W0, hW0⟩ : ∃ W0, W0 = w.alloc (.cells #[.int .u32 c.u, .int .u32 c.e, .int .u32 c.s, .int .u32 c.g, .slice c.a c.n c.c] 26) := ⟨_, rfl⟩
  have hb0 : Below w.heap.size w W0 := by rw [hW0]; exact bal _
  have HX := hid (show Row W0 w.heap.size 26 [.int .u32 c.u, .int .u32 c.e, .int .u32 c.s, .int .u32 c.g, .slice c.a c.n c.c] by rw [hW0]; exact Row.new w 26 [.int .u32 c.u, .int .u32 c.e, .int .u32 c.s, .int .u32 c.g, .slice c.a c.n c.c])
  have HW0 := hid hb0
  have HR0 := hid (h.below hb0)
  have HC0 := hid (hc.below hb0)
  have HDI := hid (rdir6_any G L d from_ W0 HR0.out)
  have HF := hid h.fine
  clear hb0 h hc
  unfold CR.v
  by_cases hfr : 0 ≤ from_ ∧ from_ < (L.length : Int) ∧ (L.getD from_.toNat default).kind = 2
  · have hid1 : isDirL L from_ = true := by
      unfold isDirL
      rw [decide_eq_true hfr.1, decide_eq_true hfr.2.1, decide_eq_true hfr.2.2]; rfl
    rw [hid1] at HDI
    have HFR := hid hfr
    obtain ⟨fr, rfl⟩ := Int.eq_ofNat_of_zero_le hfr.1
    have hfl : fr < L.length := by omega
    clear hid1 hfr
    by_cases hch : chkE p = 0
    · have HCH := hid hch
      have HTP := hid (rtail_any (ba p) · (by rw [ba_size]; exact hp))
      obtain ⟨R, hR⟩ : ∃ R, followL L c (last || tailB p) 0 (if rootF p = true then 0 else fr) (partsF p) = R := ⟨_, rfl⟩
      have HRES := hid (show walkL L c (fr : Int) p last = if R.1 = 0 then (if tailB p = true ∧ (L.getD R.2 default).kind ≠ 2 then (0, 8) else (((R.2 : Nat) : Int), 0)) else (0, R.1) from walkL_res (er := 0) (nx := 0) (st := if rootF p = true then 0 else fr) HFR.out hch (by rw [Int.toNat_natCast]) hR)
      have HST := hid hR
      have hpc := parts_count p
      have HPS := hid (parts_small p)
      have HSL := hid (show (if rootF p = true then 0 else fr) < L.length by have := HF.out.pos; split <;> omega)
      clear hR hch
      go_enter Tryz.func26, Tryz.ntmps26
      go_wp2_with fail
      rw [← hW0]
      clear hW0
      refine (HDI.out).mono ?_
      rintro e' w1 ⟨rfl, rfl⟩
      go_wp2_with fail
      refine (rparts_any (ba p) W0 (by rw [ba_size]; exact hp)).mono ?_
      rintro e' w1 ⟨pv, rfl, ho, hb⟩
      rw [show (ba p).data.toList = p from rfl] at ho ⊢
      rw [HCH.out]
      obtain ⟨pa, pc, rfl, hcel, hnil, hpc2, _⟩ := own_cel ho
      have HC1 := hid hcel
      have HB1 := hid hb
      clear ho hb hcel
      generalize hds : partsF p = ds at *
      have HDS := hid hds
      clear hds
      cases hrt : rootF p
      all_goals
        rw [hrt] at HST HSL
        simp only [if_true, Bool.false_eq_true, if_false] at HST HSL
        have HSLL := HSL.out
        clear hrt
        go_wp2_with fail
        refine (HTP.out _).mono ?_
        rintro e' w2 ⟨rfl, rfl⟩
        rw [show (ba p).data.toList = p from rfl]
        generalize htl : tailB p = tl at *
        clear htl
        obtain ⟨lt, hlt0⟩ : ∃ lt, lt = (last || tl) := ⟨_, rfl⟩
        rw [← hlt0] at HST
        have HLT := hid hlt0
        clear hlt0
        generalize hwr : walkL L c (fr : Int) p last = WR at *
        have HWR := hid hwr
        clear hwr
        go_wp2_with fail
        go_loopw [12, 15, 17] (fun s12 s15 s17 wr => ∃ (links at_ : Nat) (left : List BL) (aL : Option Addr) (cL : Nat), at_ < L.length ∧ links ≤ 8 ∧ s12 = .slice aL left.length cL ∧ s15 = .int .i64 (at_ : Nat) ∧ s17 = .int .i64 links ∧ Cel wr aL left.length (strs left) ∧ left.length ≤ cL ∧ left.length ≤ 201 * (links + 1) ∧ (∀ p ∈ left, p.length ≤ 1000) ∧ Below W0.heap.size W0 wr ∧ followL L c lt links at_ left = R) (fun s12 _ s17 _ => (9 - (intOf s17).toNat) * 100000 + lenS s12)
        case atStart => exact ⟨0, _, ds, pa, pc, HSLL, by omega, rfl, by first | rfl | go_num, rfl, HC1.out, hpc2, by omega, HPS.out, HB1.out, HST.out⟩
        case round =>
          obtain ⟨links, at_, left, aL, cL, hat, hlk, rfl, rfl, rfl, hC, hcap, hlen, hsm, hb, hfl⟩ := hrel
          have HAT := hid hat
          have HB := hid hb
          have HWW := hid (bthen HW0.out hb)
          have HFL := hid hfl
          have HRr := hid (HR0.out.below hb)
          have HDIR := hid (rdir6_any G L d (at_ : Nat) wr HRr.out)
          rw [isDir_nat hat] at HDIR
          clear hfl hb hpc hpc2 hnil
          cases left with
          | nil =>
            have HR2 := hid (HFL.out.symm.trans followL_nil)
            clear hC hsm hcap hlen hlk
            cases tl
            · have HF9 := hid (show WR = ((at_ : Int), 0) by rw [HRES.out, HR2.out]; simp)
              go_wp2_with fail
              go_ret2
              exact ⟨by first | (rw [HWR.out, HF9.out]; rfl) | (rw [HF9.out]; rfl), HWW.out⟩
            · by_cases hk : (L.getD at_ default).kind = 2
              · rw [decide_eq_true hk] at HDIR
                have HF9 := hid (show WR = ((at_ : Int), 0) by rw [HRES.out, HR2.out, if_pos rfl, if_neg (fun h => h.2 hk)])
                clear hk
                go_wp2_with fail
                refine (HDIR.out).mono ?_
                rintro e' w3 ⟨rfl, rfl⟩
                go_wp2_with fail
                go_ret2
                exact ⟨by first | (rw [HWR.out, HF9.out]; rfl) | (rw [HF9.out]; rfl), HWW.out⟩
              · rw [decide_eq_false hk] at HDIR
                have HF9 := hid (show WR = (0, 8) by rw [HRES.out, HR2.out, if_pos rfl, if_pos ⟨rfl, hk⟩])
                clear hk
                go_wp2_with fail
                refine (HDIR.out).mono ?_
                rintro e' w3 ⟨rfl, rfl⟩
                go_wp2_with fail
                go_ret2
                exact ⟨by first | (rw [HWR.out, HF9.out]; rfl) | (rw [HF9.out]; rfl), HWW.out⟩
          | cons p0 rest =>
            obtain ⟨b, o, rfl, hcell⟩ := hC.some_of (by simp [strs])
            have hc0 : wr.cell? ⟨b, o + 0, none⟩ = some (.string (ba p0)) := hcell 0 (by simp [strs])
            rw [Nat.add_zero] at hc0
            obtain ⟨aR, hsl, hcr⟩ := tail_slice b o cL rest.length (by simpa using hcap)
            have HCC := hid (fun (wz : World) (hz : Below wr.heap.size wr wz) => hcr wz _ _ (hC.below' hz))
            have HSM2 := hid (fun p' (hp : p' ∈ rest) => hsm p' (List.mem_cons_of_mem _ hp))
            have hpl := hsm p0 (List.mem_cons_self ..)
            have HX1 := hid (HX.out.below HB.out HX.out.lt)
            simp only [List.length_cons] at hcap hlen ⊢
            clear hC hcr hsm hcell
            have HERR := hid (fun (er : Int) (he : ¬ er = 0) (hs : stepL L c at_ p0 = (er, 0)) => show WR = (0, er) by
              rw [HRES.out, ← HFL.out, followL_bad (by rw [hs]; exact he), hs, if_neg he])
            by_cases hk2 : (L.getD at_ default).kind = 2
            · rw [decide_eq_true hk2] at HDIR
              have HK2 := hid hk2
              obtain ⟨rb, ro, rc, y0, hlG, hlb, hatc⟩ := HRr.out.at
              have HATC := hid hatc
              obtain ⟨⟨k0, k1, k2, k3, k4⟩, k5, _⟩ := hatc at_ hat
              have HMD := hid (HF.out.mode at_ hat)
              have HUP := hid (HF.out.up at_ hat)
              have HCH2 := hid (fun (wz : World) (hz : Below wr.heap.size wr wz) => rchild_any G L d at_ p0 wz (HRr.out.below hz) hat)
              have HST1 := hid (fun (h2 : mayX c (L.getD at_ default) = false) => HERR.out 5 (by decide) (stepN_2 hk2 h2))
              have HST2 := hid (fun (h2 : mayX c (L.getD at_ default) = true) (h3 : p0 = dotdot) => show stepL L c at_ p0 = (0, (L.getD at_ default).up) from stepN_3 hk2 h2 h3)
              have HST3 := hid (fun (h2 : mayX c (L.getD at_ default) = true) (h3 : ¬ p0 = dotdot) (h4 : lookI (L.getD at_ default).names p0 = none) => HERR.out 3 (by decide) (stepN_4 hk2 h2 h3 h4))
              have HST4 := hid (fun (h2 : mayX c (L.getD at_ default) = true) (h3 : ¬ p0 = dotdot) (j : Nat) (h4 : lookI (L.getD at_ default).names p0 = some j) => show stepL L c at_ p0 = (0, j) from stepN_5 hk2 h2 h3 h4)
              have HLOOK := hid (fun (j : Nat) (h4 : lookI (L.getD at_ default).names p0 = some j) => (HRr.out.kid at_ hat p0 j h4).2.1)
              have HKV := hid (show kidV L at_ p0 = match lookI (L.getD at_ default).names p0 with | some i => (i : Int) | none => -1 from rfl)
              have HMX : Hid (mayX c (L.getD at_ default) = mayB c.e c.g c.l (L.getD at_ default).kind (L.getD at_ default).mode (L.getD at_ default).uid (L.getD at_ default).gid 1) := hid rfl
              have HMAY := hid (fun (wz : World) (hz : Below wr.heap.size wr wz) => rmay_any c.u c.e c.s c.g (L.getD at_ default).kind (L.getD at_ default).mode (L.getD at_ default).uid (L.getD at_ default).gid (L.getD at_ default).size 1 c.a c.n c.c c.l wz ((HC0.out.below (bthen HB.out hz)).nums) HC0.out.most HMD.out.1 HMD.out.2 (by omega))
              rw [← HMX.out] at HMAY
              generalize mayX c (L.getD at_ default) = mx at *
              generalize lookI (L.getD at_ default).names p0 = lk at *
              generalize (L.getD at_ default).kind = ak at *
              generalize (L.getD at_ default).mode = am at *
              generalize (L.getD at_ default).uid = au at *
              generalize (L.getD at_ default).gid = ag at *
              generalize (L.getD at_ default).size = az at *
              generalize (L.getD at_ default).up = aup at *
              obtain ⟨q0, q1, q2, q3, q4⟩ := five_rg HX1.out.five
              have z0 := rg_cell y0
              have r0 := rg_cell k0
              have r1 := rg_cell k1
              have r2 := rg_cell k2
              have r3 := rg_cell k3
              have r4 := rg_cell k4
              have mc := hid (fun (d : Nat) (os : Array Obj) => rg_call (HMAY.out (rg wr d os) (rg_below _ _ _)))
              have hbl : ∀ d os, w.heap.size < (rg wr d os).heap.size := fun d os => World.block_lt_of_cell? _ _ (q0 d os)
              have hbl2 : ∀ d os, G < (rg wr d os).heap.size := fun d os => World.block_lt_of_cell? _ _ (z0 d os)
              have hbl3 : ∀ d os, rb < (rg wr d os).heap.size := fun d os => World.block_lt_of_cell? _ _ (r0 d os)
              have hmost := HF.out.most
              have a1 : decide ((at_ : Int) < (L.length : Int)) = true := by simp; omega
              have a1n : decide (at_ < L.length) = true := by simp; omega
              have HK5 := hid k5
              have HY0 := hid y0
              have HC00 := hid hc0
              clear hk2 hatc k0 k1 k2 k3 k4 k5 y0 hc0 hlG hlb HMAY
              go_wp2_with fail
              refine (HDIR.out).mono ?_
              rintro e' w3 ⟨rfl, rfl⟩
              go_wp2_with fail
              refine region_rg (by kernel_rfl) (by kernel_rfl) ?_
              repeat (quiet_step (first | with_reducible exact mc.out _ _))
              refine wpQuiet_nil ?_
              intro _ hw'
              obtain ⟨⟨dq, osq⟩, hw''⟩ := hw'
              subst hw''
              have HB2 := hid (rg_below wr dq osq)
              clear q0 q1 q2 q3 q4 z0 r0 r1 r2 r3 r4 mc hbl hbl2 hbl3
              generalize rg wr dq osq = W2 at *
              have HWW2 := hid (bthen HWW.out HB2.out)
              cases mx
              · have HF9 := hid (HST1.out rfl)
                go_wp2_with fail
                go_ret2
                exact ⟨by first | (rw [HWR.out, HF9.out]; rfl) | (rw [HF9.out]; rfl), HWW2.out⟩
              · have hc0 := keepC HB2.out HC00.out
                have hbc := World.block_lt_of_cell? _ _ hc0
                have hq := ba_beq p0 [46, 46]
                have HCR := hid (HCC.out _ HB2.out)
                by_cases hpd : p0 = [46, 46]
                · rw [decide_eq_true hpd] at hq
                  have HS2 := hid (HST2.out rfl hpd)
                  have HNXT := hid ((followL_step HS2.out (.inl (by rw [HUP.out.2]; decide))).symm.trans HFL.out)
                  have y0 := keepC HB2.out HY0.out
                  have k5 := keepC HB2.out HK5.out
                  have hlG := World.block_lt_of_cell? _ _ y0
                  have hlb := World.block_lt_of_cell? _ _ k5
                  clear hpd
                  go_wp2_with fail
                  go_roundw
                  case rel => exact ⟨links, aup, rest, some aR, cL - 1, HUP.out.1, hlk, rfl, rfl, rfl, HCR.out, by omega, by omega, HSM2.out, bthen HB.out HB2.out, HNXT.out⟩
                  case measure => simp only [intOf, lenS]; omega
                · rw [decide_eq_false hpd] at hq
                  have HPD := hid hpd
                  have HCHX := hid (HCH2.out _ HB2.out)
                  clear hpd
                  cases lk with
                  | none =>
                    simp only at HKV
                    rw [HKV.out] at HCHX
                    have HF9 := hid (HST3.out rfl HPD.out rfl)
                    go_wp2_with fail
                    refine (HCHX.out).mono ?_
                    rintro e' w3 ⟨rfl, rfl⟩
                    go_wp2_with fail
                    go_ret2
                    exact ⟨by first | (rw [HWR.out, HF9.out]; rfl) | (rw [HF9.out]; rfl), HWW2.out⟩
                  | some j =>
                    simp only at HKV
                    rw [HKV.out] at HCHX
                    have HS4 := hid (HST4.out rfl HPD.out j rfl)
                    have HJL := hid (HLOOK.out j rfl)
                    have hjl := HJL.out
                    have j1 : decide ((j : Int) < (L.length : Int)) = true := by simp; omega
                    have j1n : decide (j < L.length) = true := by simp; omega
                    obtain ⟨⟨m0, _⟩, _, _, _, m8⟩ := HATC.out j hjl
                    have m0 := keepC HB2.out m0
                    have HM8 := hid m8
                    have y0 := keepC HB2.out HY0.out
                    have hlG := World.block_lt_of_cell? _ _ y0
                    have hlb := World.block_lt_of_cell? _ _ m0
                    have HTO := hid (HF.out.to j hjl)
                    clear hjl m8
                    by_cases hk3 : (L.getD j default).kind = 3
                    · rw [hk3] at m0
                      have HK3 := hid hk3
                      clear hk3
                      have hcs : (rest = [] ∧ last = false ∧ tl = false) ∨ rest ≠ [] ∨ (rest = [] ∧ last = true) ∨ (rest = [] ∧ last = false ∧ tl = true) := by
                        by_cases h : rest = [] <;> cases last <;> cases tl <;> simp [h]
                      rcases hcs with ⟨h1, rfl, rfl⟩ | h1 | ⟨h1, rfl⟩ | ⟨h1, rfl, rfl⟩
                      · have hz : ((rest.length : Int) == 0) = true := by rw [h1]; rfl
                        have HNXT := hid ((followL_step HS4.out (.inr ⟨h1, HLT.out⟩)).symm.trans HFL.out)
                        clear h1
                        go_wp2_with fail
                        refine (HCHX.out).mono ?_
                        rintro e' w3 ⟨rfl, rfl⟩
                        go_wp2_with fail
                        go_roundw
                        case rel => exact ⟨links, j, rest, some aR, cL - 1, HJL.out, hlk, rfl, rfl, rfl, HCR.out, by omega, by omega, HSM2.out, bthen HB.out HB2.out, HNXT.out⟩
                        case measure => simp only [intOf, lenS]; omega
                      all_goals
                        first
                          | have hz : ((rest.length : Int) == 0) = true := by rw [h1]; rfl
                          | have hz : ((rest.length : Int) == 0) = false := by rw [beq_eq_false_iff_ne]; have := List.length_pos_iff.2 h1; omega
                        have HLA := hid (show ¬ (rest = [] ∧ lt = false) by
                          first
                            | exact fun h => h1 h.1
                            | (intro h; have h9 := HLT.out; rw [h.2] at h9; simp at h9))
                        clear h1
                        by_cases h8 : 8 ≤ links
                        · have HF9 := hid (show WR = (0, 10) by
                            rw [HRES.out, ← HFL.out, followL_loop HS4.out HK3.out HLA.out h8, if_neg (by decide)])
                          have d8 : decide ((8 : Int) < (links : Int) + 1) = true := by simp; omega
                          clear h8
                          go_wp2_with fail
                          refine (HCHX.out).mono ?_
                          rintro e' w3 ⟨rfl, rfl⟩
                          go_wp2_with fail
                          go_ret2
                          exact ⟨by first | (rw [HWR.out, HF9.out]; rfl) | (rw [HF9.out]; rfl), HWW2.out⟩
                        · have HNXT := hid ((followL_link HS4.out HK3.out HLA.out h8).symm.trans HFL.out)
                          have d8 : decide ((8 : Int) < (links : Int) + 1) = false := by simp; omega
                          have h8' : links < 8 := by omega
                          have m8 := keepC HB2.out HM8.out
                          have HP1 := hid (parts_count (L.getD j default).to)
                          have HP2 := hid (parts_small (L.getD j default).to)
                          have HPA := hid (rparts_any (ba (L.getD j default).to) W2 (by rw [ba_size]; have := HTO.out; omega))
                          rw [show (ba (L.getD j default).to).data.toList = (L.getD j default).to from rfl] at HPA
                          generalize rootF (L.getD j default).to = rt at *
                          generalize chkE (L.getD j default).to = ck at *
                          generalize partsF (L.getD j default).to = M at *
                          generalize (L.getD j default).to = tto at *
                          clear h8
                          go_wp2_with fail
                          refine (HCHX.out).mono ?_
                          rintro e' w3 ⟨rfl, rfl⟩
                          go_wp2_with fail
                          refine (HPA.out).mono ?_
                          rintro e' w3 ⟨v3, rfl, ho3, hb3⟩
                          obtain ⟨ma, mcp, rfl, hmc, hmn, _⟩ := own_cel ho3
                          have HMC := hid hmc
                          have HMN := hid hmn
                          have HB3 := hid (bthen HB2.out hb3)
                          have HCR3 := hid (HCR.out.below' hb3)
                          have HON := hid (ownS_nil w3 w3.heap.size)
                          have HM1 := hid (show ([] : List BL).length + M.length ≤ 1000000 by have := HP1.out; simp; omega)
                          have HM2 := hid (show M.length + rest.length ≤ 1000000 by have := HP1.out; omega)
                          have HZ3 := hid (Nat.le_refl w3.heap.size)
                          have HNR := hid (show some aR = none → cL - 1 = 0 from fun h => by cases h)
                          have HP1o := HP1.out
                          clear ho3 hb3 hmc hmn m0 m8 y0 hlG hlb hc0 hbc
                          cases rt
                          all_goals
                            go_wp2_with (at_builtin; go_must (first | (refine wpList_appSS rfl _ _ rfl w3.heap.size (.slice none 0 0) [] M rfl ma mcp rfl HON.out HMC.out HMN.out HM1.out HZ3.out ?_; intro v4 w4 l4 hl4 ho4 hb4; rw [List.nil_append] at hl4; subst hl4; obtain ⟨a4, c4, rfl, _⟩ := own_cel ho4; have HO4 := hid ho4; have HB4 := hid hb4; have HZ4 := hid hb4.size; have HCR4 := hid (HCR3.out.below' hb4); clear ho4 hb4) | (refine wpList_appSS rfl _ _ rfl w3.heap.size (.slice a4 l4.length c4) l4 rest rfl (some aR) (cL - 1) rfl HO4.out HCR4.out HNR.out HM2.out HZ4.out ?_; intro v5 w5 l5 hl5 ho5 hb5; obtain ⟨a5, c5, rfl, hc5, _, hcc5, _⟩ := own_cel ho5; have HC5 := hid hc5; have HL5 := hid hl5; have HB5 := hid (HB4.out.trans hb5); clear ho5 hb5 hc5 hl5)))
                            have hl5 : l5.length = l4.length + rest.length := by rw [HL5.out, List.length_append]
                            have HNX5 := hid HNXT.out
                            rw [← HL5.out] at HNX5
                            simp only [if_true, Bool.false_eq_true, if_false] at HNX5
                            have HPOS := hid HF.out.pos
                            go_roundw
                            case rel => exact ⟨links + 1, _, l5, a5, c5, by first | exact HAT.out | exact HPOS.out, by omega, rfl, by first | rfl | go_num, by go_num, HC5.out, hcc5, by omega, by rw [HL5.out]; exact app_small HP2.out HSM2.out, bthen HB.out (bthen HB3.out HB5.out), HNX5.out⟩
                            case measure => simp only [intOf, lenS]; omega
                    · have dk3 : ((L.getD j default).kind != 3) = true := by simpa using hk3
                      have HNXT := hid ((followL_step HS4.out (.inl hk3)).symm.trans HFL.out)
                      clear hk3
                      generalize (L.getD j default).kind = jk at *
                      go_wp2_with fail
                      refine (HCHX.out).mono ?_
                      rintro e' w3 ⟨rfl, rfl⟩
                      go_wp2_with fail
                      go_roundw
                      case rel => exact ⟨links, j, rest, some aR, cL - 1, HJL.out, hlk, rfl, rfl, rfl, HCR.out, by omega, by omega, HSM2.out, bthen HB.out HB2.out, HNXT.out⟩
                      case measure => simp only [intOf, lenS]; omega
            · rw [decide_eq_false hk2] at HDIR
              have HF9 := hid (HERR.out 8 (by decide) (stepN_1 hk2))
              clear hk2
              go_wp2_with fail
              refine (HDIR.out).mono ?_
              rintro e' w3 ⟨rfl, rfl⟩
              go_wp2_with fail
              go_ret2
              exact ⟨by first | (rw [HWR.out, HF9.out]; rfl) | (rw [HF9.out]; rfl), HWW.out⟩
    · have HRES := hid (show walkL L c (fr : Int) p last = (0, chkE p) from walkL_chk HFR.out hch)
      have hc1 : (chkE p != 0) = true := by simpa using hch
      clear hch
      go_enter Tryz.func26, Tryz.ntmps26
      go_wp2_with fail
      rw [← hW0]
      clear hW0
      refine (HDI.out).mono ?_
      rintro e' w1 ⟨rfl, rfl⟩
      go_wp2_with fail
      refine (rparts_any (ba p) W0 (by rw [ba_size]; exact hp)).mono ?_
      rintro e' w1 ⟨pv, rfl, ho, hb⟩
      rw [show (ba p).data.toList = p from rfl] at ho ⊢
      obtain ⟨pa, pc, rfl, _⟩ := own_cel ho
      have HB1 := hid (bthen HW0.out hb)
      clear ho hb
      go_wp2_with fail
      go_ret2
      exact ⟨by rw [HRES.out]; rfl, HB1.out⟩
  · have hid1 : isDirL L from_ = false := by
      unfold isDirL
      by_cases h1 : 0 ≤ from_
      · by_cases h2 : from_ < (L.length : Int)
        · have h3 : ¬ (L.getD from_.toNat default).kind = 2 := fun h => hfr ⟨h1, h2, h⟩
          rw [decide_eq_false h3, Bool.and_false]
        · rw [decide_eq_false h2, Bool.and_false, Bool.false_and]
      · rw [decide_eq_false h1, Bool.false_and, Bool.false_and]
    rw [hid1] at HDI
    have HRES := hid (show walkL L c from_ p last = (0, 1) from walkL_from hfr)
    clear hid1 hfr
    go_enter Tryz.func26, Tryz.ntmps26
    go_wp2_with fail
    rw [← hW0]
    clear hW0
    refine (HDI.out).mono ?_
    rintro e' w1 ⟨rfl, rfl⟩
    go_wp2_with fail
    go_ret2
    exact ⟨by rw [HRES.out]; rfl, HW0.out⟩
end Go.Proofs.YthamfhenadaapaaGreatDoor
