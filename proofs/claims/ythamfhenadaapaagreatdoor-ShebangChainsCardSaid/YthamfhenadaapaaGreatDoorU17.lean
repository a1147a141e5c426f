
/- shebang's reference: Chain. -/
import Derived.Test.YthamfhenadaapaaGreatDoorU6
import Derived.Test.YthamfhenadaapaaGreatDoorU7
import Derived.Test.YthamfhenadaapaaGreatDoorU10
import Derived.Test.YthamfhenadaapaaGreatDoorG63
import Derived.Test.YthamfhenadaapaaGreatDoorG64
import Derived.Test.YthamfhenadaapaaGreatDoorG69
import Derived.Test.YthamfhenadaapaaGreatDoorZA0
namespace Go.Proofs.YthamfhenadaapaaGreatDoor
open Go.RowKit Go.Sort
attribute [local go_sem] Oper.semAt_some

theorem rdB_sizeV {l : BL} : rdB l 0 (l.length : Int) = l := by
  unfold rdB
  rw [show (0 : Int).toNat = 0 from rfl, List.drop_zero, Int.toNat_natCast, List.take_length]
theorem addE_twinU (L : List ND) (x : EN) (a : Option Addr) (c : Nat) : addE L { x with a := a, c := c } = addE L x := rfl
theorem newE_twinU : ∀ (ys xs : List EN) (L : List ND) (k : Nat), ys.length = xs.length → (∀ i (h : i < ys.length) (h' : i < xs.length), ys[i] = { xs[i] with a := ys[i].a, c := ys[i].c }) → newE L k ys = newE L k xs
  | [], [], _, _, _, _ => rfl
  | [], x :: xs, _, _, h, _ => by simp at h
  | y :: ys, [], _, _, h, _ => by simp at h
  | y :: ys, x :: xs, L, k, h, ht => by
    have h0 : y = { x with a := y.a, c := y.c } := ht 0 (by simp) (by simp)
    have he : addE L y = addE L x := by rw [h0]; exact addE_twinU L x _ _
    have hr : ∀ L' k', newE L' k' ys = newE L' k' xs := fun L' k' => newE_twinU ys xs L' k' (by simpa using h) (fun i h1 h2 => ht (i + 1) (by simpa using h1) (by simpa using h2))
    by_cases hx : (addE L x).1 = 0
    · rw [newE_go hx, newE_go (by rw [he]; exact hx), he, hr]
    · rw [newE_no hx, newE_no (by rw [he]; exact hx), he]
theorem cpe_newU {w0 w : World} {base : Nat} {v : Value} {xs ys : List EN} (h : Cpe w0 base xs xs.length v ys w) (L : List ND) (k : Nat) : newE L k ys = newE L k xs := newE_twinU ys xs L k h.len h.twin

theorem rchain_none (u e s g : Int) (ca : Option Addr) (cn cc : Nat) (p : ByteArray) (a : Option Addr) (n c : Nat) (w : World) :
    Calls Tryz.prog 13 #[.pointer none, credV u e s g ca cn cc, .string p, .slice a n c] w (ChainPost w (0, [], [], 2)) := by
  have HB := hid (show Below w.heap.size w (w.alloc (.cells #[.int .u32 u, .int .u32 e, .int .u32 s, .int .u32 g, .slice ca cn cc] 26)) from bal _)
  go_enter Tryz.func13, Tryz.ntmps13
  go_wp2_with fail
  try simp only [Exit.inBlock, Exit.then, Exit.noGoto_ret]
  refine bodyPost_ret (results_tmp4 rfl _ _ _) rfl ?_
  exact chain_ret rfl rfl (own_nil3 _ _) HB.out

set_option maxRecDepth 100000 in
set_option maxHeartbeats 16000000 in
theorem rchain_any (G : Nat) (L : List ND) (d : Nat → Option Addr × Nat) (c : CR) (p : BL) (a0 : Option Addr) (n0 c0 : Nat) (argv : List BL) (w : World) (h : RF w G L d) (hc : CrOk w c) (hp : p.length ≤ 1000000) (hA : Cel w a0 n0 (strs argv)) (hn : n0 ≤ 900000) (hs : ∀ q ∈ argv, q.length ≤ 1000000) :
    Calls Tryz.prog 13 #[.pointer (some ⟨G, 0, none⟩), c.v, .string (ba p), .slice a0 n0 c0] w (ChainPost w (chainL L c 4 p argv)) := by
  obtain ⟨W0, hW0⟩ : ∃ W0, W0 = w.alloc (.cells #[.int .u32 c.u, .int .u32 c.e, .int .u32 c.s, .int .u32 c.g, .slice c.a c.n c.c] 26) := ⟨_, rfl⟩
  have hb0 : Below w.heap.size w W0 := by rw [hW0]; exact bal _
  have HX := hid (show Row W0 w.heap.size 26 [.int .u32 c.u, .int .u32 c.e, .int .u32 c.s, .int .u32 c.g, .slice c.a c.n c.c] by rw [hW0]; exact Row.new w 26 [.int .u32 c.u, .int .u32 c.e, .int .u32 c.s, .int .u32 c.g, .slice c.a c.n c.c])
  have HW0 := hid hb0
  have HF := hid (h.below hb0)
  have HC := hid (hc.below hb0)
  have HAC := hid (hA.below' hb0)
  have hnl := cel_len hA
  have HNL := hid hnl
  have HCT := hid (copyTexts_any a0 n0 c0 argv W0 HAC.out (by omega))
  have HSM := hid hs
  have HPL := hid hp
  have hwlt : w.heap.size < W0.heap.size := HX.out.lt
  clear h hc hb0 hA hs hp
  unfold CR.v
  go_enter Tryz.func13, Tryz.ntmps13
  go_wp2_with fail
  rw [← hW0]
  clear hW0
  go_wp2_with fail
  refine (HCT.out).mono ?_
  rintro e' w2 ⟨v2, rfl, hown, hb2⟩
  have HO := hid hown
  have HG := hid hb2
  clear hown hb2 HCT
  go_wp2_with fail
  go_loopw [12, 13, 14] (fun s2 s10 s12 wr => ∃ (k : Nat) (q : BL) (out : List BL), k ≤ 4 ∧ s2 = .string (ba q) ∧ s12 = .int .i64 k ∧ OwnS wr W0.heap.size s10 out ∧ Below W0.heap.size W0 wr ∧ q.length ≤ 1000000 ∧ out.length ≤ 900000 + 3 * k ∧ (∀ x ∈ out, x.length ≤ 1000000) ∧ chainL L c (4 - k) q out = chainL L c 4 p argv) (fun _ _ s12 _ => 4 - (intOf s12).toNat)
  case atStart => exact ⟨0, p, argv, by omega, rfl, rfl, HO.out, HG.out, HPL.out, by omega, HSM.out, rfl⟩
  case round =>
    obtain ⟨k, q, out, hk, rfl, rfl, hown, hbw, hq, hol, hos, hch⟩ := hrel
    have HOWN := hid hown
    have HBW := hid hbw
    have HQ := hid hq
    have HOS := hid hos
    have HCH := hid hch
    have HWW := hid (bthen HW0.out hbw)
    obtain ⟨oa, oc, rfl, hocel, honil, hoc, hocm, hobl⟩ := own_cel2 hown
    have HOC := hid hocel
    have HOCL := hid hoc
    have HB0 := hid (HX.out.below hbw HX.out.lt)
    obtain ⟨y0, y1, y2, y3, y4⟩ := HB0.out.five
    have l2 := HB0.out.lt
    have HWA := hid (rwalk_any G L d c 0 q true wr (HF.out.below hbw) (HC.out.below hbw) hq)
    clear hown hbw hq hos hch hocel honil hobl hocm
    unfold CR.v at HWA
    cases hR : walkL L c 0 q true with
    | mk n er =>
      rw [hR] at HWA
      have HR := hid hR
      clear hR
      simp only [walkV] at HWA
      by_cases he : er = 0
      · subst he
        obtain ⟨nx, hnx, hn2⟩ := walk_inU HF.out.fine HR.out rfl
        simp only at hn2
        subst hn2
        have HNX := hid hnx
        have HMO := hid (HF.out.fine.mode nx hnx)
        have HDL := hid (HF.out.fine.data nx hnx)
        clear hnx
        go_wp2_with fail
        refine (HWA.out).mono ?_
        rintro e' w3 ⟨rfl, hb3⟩
        have HB3 := hid (HBW.out.trans (hb3.mono HBW.out.size))
        have HO3 := hid (own_below HOWN.out hb3)
        have HC3 := hid (HOC.out.below' hb3)
        have HB03 := hid (HB0.out.below hb3 HB0.out.lt)
        clear hb3 y0 y1 y2 y3 y4 l2 HWA
        go_wp2_with fail
        refine (rmeta_in G L d nx w3 (HF.out.below HB3.out) HNX.out).mono ?_
        rintro e' w4 ⟨rfl, hb4⟩
        have HB4 := hid (HB3.out.trans (hb4.mono HB3.out.size))
        have HO4 := hid (own_below HO3.out hb4)
        have HC4 := hid (HC3.out.below' hb4)
        have HB04 := hid (HB03.out.below hb4 HB03.out.lt)
        clear hb4
        have HXB : Hid (∀ b, execB c (L.getD nx default) = b → (decide ((L.getD nx default).kind = 1) && mayB c.e c.g c.l (L.getD nx default).kind (L.getD nx default).mode (L.getD nx default).uid (L.getD nx default).gid 1) = b) := hid (fun b h => h)
        have HNOT := hid (fun h => progL_not (p := q) HR.out h)
        have HOK := hid (fun h => progL_ok (p := q) HR.out h)
        have HRDF := hid (fun (wx : World) (hb : Below W0.heap.size W0 wx) => rread_any G L d nx 0 (L.getD nx default).size wx (HF.out.below hb))
        have HRIN := hid (fun h2 h3 => @readL_in L nx 0 (L.getD nx default).size HNX.out h2 h3)
        unfold execB at HNOT HOK
        obtain ⟨z, hz⟩ : ∃ z, z = L.getD nx default := ⟨_, rfl⟩
        have HZ := hid hz
        rw [← hz] at HMO HDL HNOT HOK HRDF HRIN
        unfold metaV
        rw [← hz]
        clear hz HXB
        have HMB := hid (@bal w4 (.cells #[.int .u8 z.kind, .int .u16 z.mode, .int .u32 z.uid, .int .u32 z.gid, .int .i64 z.size] 58))
        have HMR := hid (Row.new w4 58 [.int .u8 z.kind, .int .u16 z.mode, .int .u32 z.uid, .int .u32 z.gid, .int .i64 z.size])
        have HB05 := hid (HB04.out.below HMB.out HB04.out.lt)
        have HO5 := hid (own_below HO4.out HMB.out)
        have HC5 := hid (HC4.out.below' HMB.out)
        have HB5 := hid (HB4.out.trans (HMB.out.mono HB4.out.size))
        obtain ⟨y0, y1, y2, y3, y4⟩ := HB05.out.five
        have l2 := HB05.out.lt
        have HMAY := hid (rmay_any c.u c.e c.s c.g z.kind z.mode z.uid z.gid z.size 1 c.a c.n c.c c.l _ ((HC.out.below HB5.out).nums) HC.out.most HMO.out.1 HMO.out.2 (by decide))
        by_cases hk1 : z.kind = 1
        · have dk : (z.kind != 1) = false := by simp [hk1]
          have HK1 := hid hk1
          rw [decide_eq_true hk1, Bool.true_and] at HNOT HOK
          clear hk1
          generalize mayB c.e c.g c.l z.kind z.mode z.uid z.gid 1 = mb at *
          cases mb
          · have HF9 := hid (HCH.out.symm.trans (chainL_bad (n := 4 - k) (HNOT.out rfl) (by decide)))
            go_wp2_with fail
            refine (HMAY.out).mono ?_
            rintro e' w6 ⟨rfl, hb6⟩
            have HWW6 := hid (bthen (bthen HW0.out HB5.out) hb6)
            clear hb6 y0 y1 y2 y3 y4 l2 HMAY
            go_wp2_with fail
            try simp only [Exit.inBlock, Exit.then, Exit.noGoto_ret]
            refine bodyPost_ret (results_tmp4 rfl _ _ _) rfl ?_
            exact chain_ret HF9.out rfl (own_nil3 _ _) HWW6.out
          · have HPG := hid (HOK.out rfl)
            clear HNOT HOK
            go_wp2_with fail
            refine (HMAY.out).mono ?_
            rintro e' w6 ⟨rfl, hb6⟩
            have HB6 := hid (HB5.out.trans (hb6.mono HB5.out.size))
            have HO6 := hid (own_below HO5.out hb6)
            have HC6 := hid (HC5.out.below' hb6)
            have HB06 := hid (HB05.out.below hb6 HB05.out.lt)
            have HMR6 := hid (HMR.out.below hb6 HMR.out.lt)
            clear hb6 y0 y1 y2 y3 y4 l2 HMAY
            obtain ⟨y0, y1, y2, y3, y4⟩ := HMR6.out.five
            have l2 := HMR6.out.lt
            have HRD := hid (HRDF.out w6 HB6.out)
            rw [HRIN.out (by rw [HK1.out]; decide) (by rw [HK1.out]; have := HDL.out.2; omega)] at HRD
            rw [show rdB z.data 0 z.size = z.data by rw [show z.size = (z.data.length : Nat) from HDL.out.2]; exact rdB_sizeV] at HRD
            have HPARD0 := hid (show L.getD (((nx : Nat) : Int)).toNat default = z by rw [Int.toNat_natCast]; exact HZ.out.symm)
            obtain ⟨D, hD⟩ : ∃ D, D = z.data := ⟨_, rfl⟩
            rw [← hD] at HRD HDL
            have HD := hid hD
            unfold RdPost at HRD
            simp only at HRD
            clear hD HRDF HRIN
            go_wp2_with fail
            refine (HRD.out).mono ?_
            rintro e' w7 ⟨v7, rfl, ho7, hb7⟩
            have HB7 := hid (HB6.out.trans (hb7.mono HB6.out.size))
            have HO7 := hid (own_below HO6.out hb7)
            have HC7 := hid (HC6.out.below' hb7)
            obtain ⟨da, dc, rfl, hdc, _, hdle, _, _⟩ := own_cel2 ho7
            have HPA := hid (rparse_any da D.length dc D w7 (cel_byt hdc) hdle (by have := HDL.out.1; omega))
            clear ho7 hb7 hdc HRD y0 y1 y2 y3 y4 l2
            have HSMALL := hid (parL_small D)
            cases hpar : parL D with
            | mk x r1 =>
              obtain ⟨arg, is, pe⟩ := r1
              have HPARD := hid (show parL (L.getD (((nx : Nat) : Int)).toNat default).data = (x, arg, is, pe) by rw [HPARD0.out, ← HD.out, hpar])
              unfold ParPost parV at HPA
              rw [hpar] at HPA HSMALL
              simp only at HPA HSMALL
              clear hpar
              go_wp2_with fail
              refine (HPA.out).mono ?_
              rintro e' w8 ⟨rfl, hb8⟩
              have HB8 := hid (HB7.out.trans (hb8.mono HB7.out.size))
              have HO8 := hid (own_below HO7.out hb8)
              have HC8 := hid (HC7.out.below' hb8)
              have HWW8 := hid (bthen HW0.out HB8.out)
              clear hb8 HPA
              by_cases hpe : pe = 0
              · subst hpe
                cases is
                · have HCK := hid (rcheck3_any oa out.length oc out w8 HC8.out (by omega) (fun z hz => by have := HOS.out z hz; omega))
                  by_cases hck : chkL out = 0
                  · rw [hck] at HCK
                    have HF9 := hid (HCH.out.symm.trans (chainL_ok (n := 4 - k) HPG.out HPARD.out hck))
                    clear hck
                    go_wp2_with fail
                    refine (HCK.out).mono ?_
                    rintro e' w9 ⟨rfl, rfl⟩
                    go_wp2_with fail
                    try simp only [Exit.inBlock, Exit.then, Exit.noGoto_ret]
                    refine bodyPost_ret (results_tmp4 rfl _ _ _) rfl ?_
                    exact chain_ret HF9.out rfl (own_from HO8.out HW0.out.size) HWW8.out
                  · have HF9 := hid (HCH.out.symm.trans (chainL_chk (n := 4 - k) HPG.out HPARD.out hck))
                    have hne : (chkL out != 0) = true := by simpa using hck
                    generalize chkL out = ck at *
                    clear hck
                    go_wp2_with fail
                    refine (HCK.out).mono ?_
                    rintro e' w9 ⟨rfl, rfl⟩
                    go_wp2_with fail
                    try simp only [Exit.inBlock, Exit.then, Exit.noGoto_ret]
                    refine bodyPost_ret (results_tmp4 rfl _ _ _) rfl ?_
                    exact chain_ret HF9.out rfl (own_nil3 _ _) HWW8.out
                · by_cases hk4 : k = 4
                  · subst hk4
                    have HF9 := hid (HCH.out.symm.trans (chainL_loop HPG.out HPARD.out))
                    go_wp2_with fail
                    try simp only [Exit.inBlock, Exit.then, Exit.noGoto_ret]
                    refine bodyPost_ret (results_tmp4 rfl _ _ _) rfl ?_
                    exact chain_ret HF9.out rfl (own_nil3 _ _) HWW8.out
                  · have d4 : ((k : Int) == 4) = false := by rw [beq_eq_false_iff_ne]; omega
                    have HF9 := hid ((show chainL L c (4 - k) q out = chainL L c (4 - (k + 1)) x (argvL x arg q out) by
                      rw [show 4 - k = (4 - (k + 1)) + 1 by omega]
                      exact chainL_next HPG.out HPARD.out).symm.trans HCH.out)
                    have HAR := hid (rargv_any x arg q oa out.length oc out w8 HC8.out HOCL.out (by omega))
                    have HAM := hid (argvL_mem (i := x) (a := arg) (p := q) (l := out) (N := 1000000) (by have := HSMALL.out.1; omega) (by have := HSMALL.out.2; omega) HQ.out HOS.out)
                    have HAL := hid (show (argvL x arg q out).length ≤ 900000 + 3 * (k + 1) by have := argvL_len x arg q out; omega)
                    have HXL := hid (show x.length ≤ 1000000 by have := HSMALL.out.1; omega)
                    generalize argvL x arg q out = nout at *
                    have HK4 := hid (show k + 1 ≤ 4 by omega)
                    clear hk4
                    go_wp2_with fail
                    refine (HAR.out).mono ?_
                    rintro e' w9 ⟨v9, rfl, ho9, hb9⟩
                    have HB9 := hid (HB8.out.trans (hb9.mono HB8.out.size))
                    have HO9 := hid (own_from ho9 HB8.out.size)
                    clear ho9 hb9 HAR
                    go_wp2_with fail
                    go_roundw
                    case rel => exact ⟨k + 1, x, nout, HK4.out, rfl, by go_num, HO9.out, HB9.out, HXL.out, HAL.out, HAM.out, HF9.out⟩
                    case measure => have := HK4.out; simp [intOf]; omega
              · have HF9 := hid (HCH.out.symm.trans (chainL_par (n := 4 - k) HPG.out HPARD.out hpe))
                have hne : (pe != 0) = true := by simpa using hpe
                clear hpe
                go_wp2_with fail
                try simp only [Exit.inBlock, Exit.then, Exit.noGoto_ret]
                refine bodyPost_ret (results_tmp4 rfl _ _ _) rfl ?_
                exact chain_ret HF9.out rfl (own_nil3 _ _) HWW8.out
        · have dk : (z.kind != 1) = true := by simpa using hk1
          rw [decide_eq_false hk1] at HNOT HOK
          have HF9 := hid (HCH.out.symm.trans (chainL_bad (n := 4 - k) (HNOT.out rfl) (by decide)))
          have HWW5 := hid (bthen HW0.out HB5.out)
          clear hk1
          go_wp2_with fail
          try simp only [Exit.inBlock, Exit.then, Exit.noGoto_ret]
          refine bodyPost_ret (results_tmp4 rfl _ _ _) rfl ?_
          exact chain_ret HF9.out rfl (own_nil3 _ _) HWW5.out
      · have hne : (er != 0) = true := by simpa using he
        have HF9 := hid (HCH.out.symm.trans (chainL_bad (n := 4 - k) (progL_bad (L := L) (c := c) (p := q) (e := er) (by rw [HR.out]) he) he))
        clear he
        go_wp2_with fail
        refine (HWA.out).mono ?_
        rintro e' w3 ⟨rfl, hb3⟩
        have HWW3 := hid (bthen HWW.out hb3)
        clear hb3 y0 y1 y2 y3 y4 l2 HWA
        go_wp2_with fail
        try simp only [Exit.inBlock, Exit.then, Exit.noGoto_ret]
        refine bodyPost_ret (results_tmp4 rfl _ _ _) rfl ?_
        exact chain_ret HF9.out rfl (own_nil3 _ _) HWW3.out
end Go.Proofs.YthamfhenadaapaaGreatDoor
