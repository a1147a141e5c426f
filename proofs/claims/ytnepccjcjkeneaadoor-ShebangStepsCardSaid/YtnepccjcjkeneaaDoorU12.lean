
/- ShebangSteps' walk. -/
import Derived.Test.YtnepccjcjkeneaaDoorU8
import Derived.Test.YtnepccjcjkeneaaDoorU10
import Derived.Test.YtnepccjcjkeneaaDoorKT
namespace Go.Proofs.YtnepccjcjkeneaaDoor
open Go.RowKit Go.Sort
open Go.ChangeShapes Go.WideShapes Go.ChangeAt

theorem chainL_more {L : List ND} {c : CR} : ∀ (n : Nat) (p : BL) (o : List BL), (chainL L c n p o).2.2.2 ≠ 10 → chainL L c (n + 1) p o = chainL L c n p o := by
  intro n
  induction n with
  | zero =>
    intro p o h
    cases hP : progL L c p with
    | mk ino er =>
      by_cases he : er = 0
      · subst he
        rcases hq : parL (L.getD ino.toNat default).data with ⟨x, a, is, pe⟩
        by_cases hpe : pe = 0
        · subst hpe
          cases is
          · by_cases hc : chkL o = 0
            · rw [chainL_ok hP hq hc, chainL_ok hP hq hc]
            · rw [chainL_chk hP hq hc, chainL_chk hP hq hc]
          · rw [chainL_loop hP hq] at h
            exact absurd rfl h
        · rw [chainL_par hP hq hpe, chainL_par hP hq hpe]
      · rw [chainL_bad hP he, chainL_bad hP he]
  | succ n ih =>
    intro p o h
    cases hP : progL L c p with
    | mk ino er =>
      by_cases he : er = 0
      · subst he
        rcases hq : parL (L.getD ino.toNat default).data with ⟨x, a, is, pe⟩
        by_cases hpe : pe = 0
        · subst hpe
          cases is
          · by_cases hc : chkL o = 0
            · rw [chainL_ok hP hq hc, chainL_ok hP hq hc]
            · rw [chainL_chk hP hq hc, chainL_chk hP hq hc]
          · rw [chainL_next hP hq] at h
            rw [chainL_next hP hq, chainL_next hP hq]
            exact ih _ _ h
        · rw [chainL_par hP hq hpe, chainL_par hP hq hpe]
      · rw [chainL_bad hP he, chainL_bad hP he]
theorem chainL_len {L : List ND} {c : CR} : ∀ (n : Nat) (p : BL) (o : List BL), (chainL L c n p o).2.2.1.length ≤ o.length + 3 * n := by
  intro n
  induction n with
  | zero =>
    intro p o
    cases hP : progL L c p with
    | mk ino er =>
      by_cases he : er = 0
      · subst he
        rcases hq : parL (L.getD ino.toNat default).data with ⟨x, a, is, pe⟩
        by_cases hpe : pe = 0
        · subst hpe
          cases is
          · by_cases hc : chkL o = 0
            · rw [chainL_ok hP hq hc]; simp
            · rw [chainL_chk hP hq hc]; simp
          · rw [chainL_loop hP hq]; simp
        · rw [chainL_par hP hq hpe]; simp
      · rw [chainL_bad hP he]; simp
  | succ n ih =>
    intro p o
    cases hP : progL L c p with
    | mk ino er =>
      by_cases he : er = 0
      · subst he
        rcases hq : parL (L.getD ino.toNat default).data with ⟨x, a, is, pe⟩
        by_cases hpe : pe = 0
        · subst hpe
          cases is
          · by_cases hc : chkL o = 0
            · rw [chainL_ok hP hq hc]; simp only; omega
            · rw [chainL_chk hP hq hc]; simp
          · rw [chainL_next hP hq]
            have h1 := ih x (argvL x a p o)
            have h2 := argvL_len x a p o
            omega
        · rw [chainL_par hP hq hpe]; simp
      · rw [chainL_bad hP he]; simp
theorem walk_nxU {L : List ND} (hf : Fine L) (c : CR) (cwd : Int) (p : BL) (last : Bool) : ∃ nx : Nat, nx < L.length ∧ (walkL L c cwd p last).1 = nx := by
  by_cases h : (walkL L c cwd p last).2 = 0
  · exact walk_inU hf rfl h
  · refine ⟨0, hf.pos, ?_⟩
    revert h
    unfold walkL
    repeat' split
    all_goals first | (intro _; rfl) | (intro h; exact absurd rfl h)
theorem rdB_size {l : BL} : rdB l 0 (l.length : Int) = l := by
  unfold rdB
  rw [show (0 : Int).toNat = 0 from rfl, List.drop_zero, Int.toNat_natCast, List.take_length]

set_option maxRecDepth 100000 in
set_option maxHeartbeats 16000000 in
theorem shebangSteps_walk (a : Option Addr) (cp : Nat) (xs : List EN) (u e s g : Int) (ca : Option Addr) (cn cc : Nat) (cl : List Int) (p : BL) (pa : Option Addr) (pc : Nat) (ps : List BL) (w : World) (hX : EntsIn w a xs.length xs) (hxl : xs.length ≤ 140737488351232) (hN : Nums w .u32 ca cn cl) (hp : p.length ≤ 140737488351232) (hP : Cel w pa ps.length (strs ps)) (hpl : ps.length ≤ 8796093022207) (hpc : ps.length ≤ pc) (hpn : pa = none → pc = 0) (hps : ∀ p ∈ ps, p.length ≤ 140737488351232) :
    Calls Tryd.prog 5 #[.slice a xs.length cp, credV u e s g ca cn cc, .agg #[.string (ba p), .slice pa ps.length pc]] w fun e' w' => e' = .returned (.bool true) ∧ Below w.heap.size w w' := by
  obtain ⟨W0, hW0⟩ : ∃ W0, W0 = (w.alloc (.cells #[.int .u32 u, .int .u32 e, .int .u32 s, .int .u32 g, .slice ca cn cc] 42)).alloc (.cells #[.string (ba p), .slice pa ps.length pc] 44) := ⟨_, rfl⟩
  have hb : Below w.heap.size w W0 := by rw [hW0]; exact (bal _).alloc (by simp) _
  have hr1 : Row W0 w.heap.size 42 [.int .u32 u, .int .u32 e, .int .u32 s, .int .u32 g, .slice ca cn cc] := by
    rw [hW0]; exact (Row.new w 42 [.int .u32 u, .int .u32 e, .int .u32 s, .int .u32 g, .slice ca cn cc]).alloc _
  have hr2 : Row W0 (w.heap.size + 1) 44 [.string (ba p), .slice pa ps.length pc] := by
    have := Row.new (w.alloc (.cells #[.int .u32 u, .int .u32 e, .int .u32 s, .int .u32 g, .slice ca cn cc] 42)) 44 [.string (ba p), .slice pa ps.length pc]
    rw [World.size_alloc] at this
    rw [hW0]; exact this
  have HB0 := hid hb
  have HR1 := hid hr1
  have HR2 := hid hr2
  have HX0 := hid (show EntsIn W0 a xs.length xs from ⟨hX.rows.below' hb, fun x hx => ⟨(hX.ok x hx).byt.below' hb, (hX.ok x hx).nil, (hX.ok x hx).path, (hX.ok x hx).to, (hX.ok x hx).data, (hX.ok x hx).mode⟩⟩)
  have HN0 := hid (hN.below' hb)
  have HP0 := hid (hP.below' hb)
  have HPS := hid hps
  have HPL := hid hpl
  have HPC := hid hpc
  have HPN := hid hpn
  have zp : (ba p).size ≤ 140737488351232 := by rw [ba_size]; exact hp
  have HBS := hid (ba_size p)
  clear hb hr1 hr2 hX hN hP hps hpl hpc hpn hp
  go_enter Tryd.func5, Tryd.ntmps5
  go_wp2_with fail
  rw [← hW0]
  clear hW0
  refine (largeE_any _ _ _ xs W0 HX0.out hxl).mono ?_
  rintro e' w1 ⟨b, rfl, hb, hsm⟩
  have HB1 := hid (HB0.out.trans (hb.mono HB0.out.size))
  have HR1 := hid (HR1.out.below hb HR1.out.lt)
  have HR2 := hid (HR2.out.below hb HR2.out.lt)
  cases b
  · obtain ⟨hs1, hs2⟩ := hsm rfl
    have he := HX0.out.small hs2
    have HX1 := hid (he.below hb)
    have HN1 := hid (HN0.out.below' hb)
    have HP1 := hid (HP0.out.below' hb)
    have HS1 := hid hs1
    clear hsm hs1 hs2 he hb HX0 HN0 HP0
    obtain ⟨c0, c1, c2, c3, c4⟩ := HR1.out.five
    obtain ⟨d0, d1⟩ := HR2.out.two
    have hl1 := HR1.out.lt
    have hl2 := HR2.out.lt
    go_wp2_with fail
    refine (large_any pa ps.length pc ps w1 HP1.out (by have := HPL.out; omega) HPS.out).mono ?_
    rintro e' w2 ⟨hw2, b, rfl, hb⟩
    subst hw2
    have HTN := hid hb
    clear hb
    cases b
    · have htn := HTN.out rfl
      have HPN2 := hid (show ps.length ≤ 65536 by have := totN_len ps; omega)
      have HPS2 := hid (show ∀ q ∈ ps, q.length ≤ 1000000 from fun q hq => by have := totN_mem hq; omega)
      clear htn HTN
      by_cases hsz : cn ≤ 1024
      · have dsz : decide ((1024 : Int) < (cn : Int)) = false := by simp; omega
        have HSZ := hid hsz
        clear hsz
        by_cases hpz : (4096 : Int) < ((ba p).size : Int)
        · have dp : decide ((4096 : Int) < ((ba p).size : Int)) = true := decide_eq_true hpz
          go_wp2_with fail
          refine (works21_any _).mono ?_
          rintro e' wz ⟨rfl, hbz⟩
          have HBZ := hid (bthen HB1.out hbz)
          clear hbz
          go_wp2_with fail
          go_ret
          exact ⟨rfl, HBZ.out⟩
        · have dp : decide ((4096 : Int) < ((ba p).size : Int)) = false := decide_eq_false hpz
          have HPZ := hid (show p.length ≤ 4096 by have := HBS.out; omega)
          clear hpz
          have HSX := hid (show xs.length ≤ 1000000 by have := HS1.out; omega)
          have HCE := hid (copyE_any a xs.length cp xs w1 HX1.out HSX.out)
          go_wp2_with fail
          refine (HCE.out).mono ?_
          rintro e' w3 ⟨v, ys, rfl, hC⟩
          obtain ⟨av, cv, rfl, _⟩ := own_rk hC.own (enC_len ys) (by omega)
          have hb := hC.below
          have HB3 := hid (bthen HB1.out hb)
          have HR1 := hid (HR1.out.below hb HR1.out.lt)
          have HR2 := hid (HR2.out.below hb HR2.out.lt)
          have HN3 := hid (HN1.out.below' hb)
          have HP3 := hid (HP1.out.below' hb)
          have HE := hid hC.ents.2
          have HYL := hid (show ys.length ≤ 1000000 by have := HS1.out; have := hC.len; omega)
          clear hb hC HX1 HN1 HP1 c0 c1 c2 c3 c4 d0 d1 hl1 hl2 dsz dp
          go_wp2_with fail
          refine (new_any _ _ _ ys w3 HE.out HYL.out).mono ?_
          rintro e' w4 ⟨hb, hp⟩
          have HB4 := hid (bthen HB3.out hb)
          have HR1 := hid (HR1.out.below hb HR1.out.lt)
          have HR2 := hid (HR2.out.below hb HR2.out.lt)
          have HN4 := hid (HN3.out.below' hb)
          have HP4 := hid (HP3.out.below' hb)
          clear hb HE HN3 HP3 HB0 HB1 HB3
          split at hp
          · obtain rfl := hp
            go_wp2_with fail
            refine (works21_any _).mono ?_
            rintro e' wz ⟨rfl, hbz⟩
            have HBZ := hid (bthen HB4.out hbz)
            clear hbz
            go_wp2_with fail
            go_ret
            exact ⟨rfl, HBZ.out⟩
          · split at hp
            · obtain ⟨F, t, rfl, _, hfs, _⟩ := hp
              have HF := hid hfs
              clear hfs
              have HCR := hid (show CrOk w4 ⟨u, e, s, g, ca, cn, cc, cl⟩ from ⟨HN4.out, by have := HSZ.out; dsimp only; omega⟩)
              obtain ⟨c, hc⟩ : ∃ c : CR, c = ⟨u, e, s, g, ca, cn, cc, cl⟩ := ⟨_, rfl⟩
              have HCV := hid (show c.v = .agg #[.int .u32 u, .int .u32 e, .int .u32 s, .int .u32 g, .slice ca cn cc] by rw [hc]; rfl)
              rw [← hc] at HCR
              clear hc
              have HCHN := hid (fun (q : BL) (hq : q.length ≤ 1000000) (oa : Option Addr) (on oc : Nat) (o : List BL) (wx : World) (hb : Below w4.heap.size w4 wx) (hA : Cel wx oa on (strs o)) (hnil : oa = none → on = 0 ∧ oc = 0) (hn : on ≤ 900000) (hs : ∀ z ∈ o, z.length ≤ 1000000) => chain_any F t c q oa on oc o wx (HF.out.below hb) (HCR.out.below hb) hq hA hnil hn hs)
              have HCH := hid (HCHN.out p (by have := HPZ.out; omega) pa ps.length pc ps w4 (Below.refl _ _) HP4.out (fun h => ⟨by have := HPN.out h; have := HPC.out; omega, HPN.out h⟩) (by have := HPN2.out; omega) HPS2.out)
              rw [HCV.out] at HCH HCHN
              unfold ChainPost at HCH
              obtain ⟨x0, x1, x2, x3, x4⟩ := HR1.out.five
              obtain ⟨y0, y1⟩ := HR2.out.two
              have hl1 := HR1.out.lt
              have hl2 := HR2.out.lt
              rcases hR : chainL t.L c 4 p ps with ⟨rn, rp, ro, re⟩
              rw [hR] at HCH
              have HR := hid hR
              simp only at HCH
              clear hR
              go_wp2_with fail
              refine (HCH.out).mono ?_
              rintro e' w5 ⟨v5, rfl, ho5, hb5⟩
              have HB5 := hid (bthen HB4.out hb5)
              have HB45 := hid hb5
              have HO5 := hid ho5
              have HR1 := hid (HR1.out.below hb5 HR1.out.lt)
              have HR2 := hid (HR2.out.below hb5 HR2.out.lt)
              obtain ⟨oa, oc, rfl, hoc, _, _, _⟩ := own_cel2 ho5
              have HOC5 := hid hoc
              clear hoc ho5 hb5 x0 x1 x2 x3 x4 y0 y1 hl1 hl2 HCH
              obtain ⟨x0, x1, x2, x3, x4⟩ := HR1.out.five
              obtain ⟨y0, y1⟩ := HR2.out.two
              have hl1 := HR1.out.lt
              have hl2 := HR2.out.lt
              have HWA := hid (walk_any F t c 0 p true w5 (HF.out.below HB45.out) (HCR.out.below HB45.out) (by have := HPZ.out; omega))
              obtain ⟨nx, hnx, hnx2⟩ := walk_nxU HF.out.fine c 0 p true
              rw [HCV.out] at HWA
              cases hwl : walkL t.L c 0 p true with
              | mk wi we =>
              rw [hwl] at HWA hnx2
              simp only at hnx2
              subst hnx2
              have HWL := hid hwl
              have HNX := hid hnx
              simp only [walkV] at HWA
              clear hwl hnx
              go_wp2_with fail
              refine (HWA.out).mono ?_
              rintro e' w6 ⟨rfl, hb6⟩
              have HB46 := hid (HB45.out.trans (hb6.mono HB45.out.size))
              have HR1 := hid (HR1.out.below hb6 HR1.out.lt)
              have HR2 := hid (HR2.out.below hb6 HR2.out.lt)
              have HOC6 := hid (HOC5.out.below' hb6)
              clear hb6 x0 x1 x2 x3 x4 y0 y1 hl1 hl2 HWA HOC5
              go_wp2_with fail
              refine (meta_any F t nx w6 (HF.out.below HB46.out) HNX.out).mono ?_
              rintro e' w7 ⟨rfl, hb7⟩
              have HB47 := hid (HB46.out.trans (hb7.mono HB46.out.size))
              have HR1 := hid (HR1.out.below hb7 HR1.out.lt)
              have HR2 := hid (HR2.out.below hb7 HR2.out.lt)
              have HOC7 := hid (HOC6.out.below' hb7)
              have HMB := hid (@bal w7 (.cells #[.int .u8 (t.nd nx).kind, .int .u16 (t.nd nx).mode, .int .u32 (t.nd nx).uid, .int .u32 (t.nd nx).gid, .int .i64 (t.nd nx).size] 56))
              have HM7 := hid (Row.new w7 56 [.int .u8 (t.nd nx).kind, .int .u16 (t.nd nx).mode, .int .u32 (t.nd nx).uid, .int .u32 (t.nd nx).gid, .int .i64 (t.nd nx).size])
              have HR1 := hid (HR1.out.below HMB.out HR1.out.lt)
              have HR2 := hid (HR2.out.below HMB.out HR2.out.lt)
              have HOC8 := hid (HOC7.out.below' HMB.out)
              have HB48 := hid (HB47.out.trans (HMB.out.mono HB47.out.size))
              have HB8 := hid (HB4.out.trans (HB48.out.mono HB4.out.size))
              obtain ⟨x0, x1, x2, x3, x4⟩ := HR1.out.five
              obtain ⟨y0, y1⟩ := HR2.out.two
              have hl1 := HR1.out.lt
              have hl2 := HR2.out.lt
              clear hb7 HOC6 HOC7 HB5
              have hq0 := ba_beq [] []
              simp only [decide_true] at hq0
              by_cases hwe : we = 0
              · subst hwe
                have HKD : Hid ((t.nd nx) = t.L.getD nx default) := hid rfl
                by_cases hk : (t.nd nx).kind = 1
                · have dk : ((t.nd nx).kind != 1) = false := by simp [hk]
                  have HK := hid hk
                  have HDL := hid (HF.out.fine.data nx HNX.out)
                  have HRD := hid (fun (wx : World) (hb : Below w4.heap.size w4 wx) => read_file F t nx 0 (t.nd nx).size wx (HF.out.below hb) HNX.out (by rw [HK.out]; decide) (by rw [HK.out]; decide) (by decide) (by have := HDL.out.2; show 0 ≤ (t.L.getD nx default).size; omega))
                  rw [show rdB (t.nd nx).data 0 (t.nd nx).size = (t.L.getD nx default).data by
                    rw [show (t.nd nx).size = ((t.L.getD nx default).data.length : Nat) from HDL.out.2]
                    exact rdB_size] at HRD
                  obtain ⟨D, hD⟩ : ∃ D, D = (t.L.getD nx default).data := ⟨_, rfl⟩
                  rw [← hD] at HRD HDL
                  have HD := hid hD
                  clear hD hk
                  go_wp2_with fail
                  refine (HRD.out _ HB48.out).mono ?_
                  rintro e' w9 ⟨v9, rfl, ho9, hb9⟩
                  have HB49 := hid (HB48.out.trans (hb9.mono HB48.out.size))
                  have HR1 := hid (HR1.out.below hb9 HR1.out.lt)
                  have HR2 := hid (HR2.out.below hb9 HR2.out.lt)
                  have HOC9 := hid (HOC8.out.below' hb9)
                  obtain ⟨da, dc, rfl, hdc, _, hdle, _, _⟩ := own_cel2 ho9
                  have HPA := hid (parse_any da D.length dc D w9 (cel_bytU hdc) hdle (by have := HDL.out.1; omega))
                  clear ho9 hb9 hdc HRD x0 x1 x2 x3 x4 y0 y1 hl1 hl2 HOC8
                  rcases hpar : parL D with ⟨ix, ag, is, pe⟩
                  have HSMALL := hid (parL_small D)
                  have HPAR := hid (show parL (t.L.getD (((nx : Nat) : Int)).toNat default).data = (ix, ag, is, pe) by rw [Int.toNat_natCast, ← HD.out, hpar])
                  unfold ParPost parV at HPA
                  rw [hpar] at HPA HSMALL
                  simp only at HPA HSMALL
                  clear hpar
                  go_wp2_with fail
                  refine (HPA.out).mono ?_
                  rintro e' w10 ⟨rfl, hb10⟩
                  have HB410 := hid (HB49.out.trans (hb10.mono HB49.out.size))
                  have HB10 := hid (HB4.out.trans (HB410.out.mono HB4.out.size))
                  have HR1 := hid (HR1.out.below hb10 HR1.out.lt)
                  have HR2 := hid (HR2.out.below hb10 HR2.out.lt)
                  have HOC10 := hid (HOC9.out.below' hb10)
                  have HP10 := hid (HP4.out.below' HB410.out)
                  obtain ⟨x0, x1, x2, x3, x4⟩ := HR1.out.five
                  obtain ⟨y0, y1⟩ := HR2.out.two
                  have hl1 := HR1.out.lt
                  have hl2 := HR2.out.lt
                  clear hb10 HPA HOC9
                  by_cases hre5 : re = 5
                  · have d5 : (re == 5) = true := by simp [hre5]
                    have d50 : (re != 0) = true := by simp [hre5]
                    clear hre5
                    go_wp2_with fail
                    refine (works21_any _).mono ?_
                    rintro e' wz ⟨rfl, hbz⟩
                    have HBZ := hid (bthen HB10.out hbz)
                    clear hbz
                    go_wp2_with fail
                    go_ret
                    exact ⟨rfl, HBZ.out⟩
                  · have d5 : (re == 5) = false := by simpa using hre5
                    have HEX := hid (show execB c (t.L.getD nx default) = true by
                      cases h : execB c (t.L.getD nx default)
                      · exfalso
                        have := chainL_bad (n := 4) (out := ps) (progL_not HWL.out h) (by decide)
                        rw [HR.out] at this
                        exact hre5 (congrArg (fun z => z.2.2.2) this)
                      · rfl)
                    have HPG := hid (progL_ok HWL.out HEX.out)
                    clear hre5
                    by_cases hpe : pe = 0
                    · subst hpe
                      cases is
                      · have HCK := hid (rcheck_any pa ps.length pc ps w10 HP10.out (by have := HPN2.out; omega) (fun z hz => by have := HPS2.out z hz; omega))
                        by_cases hre : re = 0
                        · have d0 : (re != 0) = false := by simp [hre]
                          have HRES := hid (show (rn, rp, ro) = ((nx : Int), p, ps) by
                            by_cases hck : chkL ps = 0
                            · have := (chainL_ok (n := 4) (out := ps) HPG.out HPAR.out hck).symm.trans HR.out
                              simp only [Prod.mk.injEq] at this ⊢
                              exact ⟨this.1.symm, this.2.1.symm, this.2.2.1.symm⟩
                            · have := (chainL_chk (n := 4) (out := ps) HPG.out HPAR.out hck).symm.trans HR.out
                              exact absurd ((congrArg (fun z => z.2.2.2) this).trans hre) hck)
                          have h9 := HRES.out
                          simp only [Prod.mk.injEq] at h9
                          obtain ⟨rfl, rfl, rfl⟩ := h9
                          have HEQ := hid (eqTexts_any oa pa ro.length oc ro.length pc ro ro w10 HOC10.out HP10.out (by have := HPN2.out; omega) (by have := HPN2.out; omega))
                          rw [show eqT ro ro = true by simp [eqT]] at HEQ
                          have hq2 := ba_beq rp rp
                          simp only [decide_true] at hq2
                          clear hre
                          go_wp2_with fail
                          refine (HEQ.out).mono ?_
                          rintro e' wq ⟨rfl, q, rfl⟩
                          have HBQ := hid (bdN HB10.out q)
                          go_wp2_with fail
                          refine (works21_any _).mono ?_
                          rintro e' wz ⟨rfl, hbz⟩
                          have HBZ := hid (bthen HBQ.out hbz)
                          clear hbz
                          go_wp2_with fail
                          go_ret
                          exact ⟨rfl, HBZ.out⟩
                        · have d0 : (re != 0) = true := by simpa using hre
                          have HRES := hid (show re = chkL ps by
                            by_cases hck : chkL ps = 0
                            · have := (chainL_ok (n := 4) (out := ps) HPG.out HPAR.out hck).symm.trans HR.out
                              exact absurd (congrArg (fun z => z.2.2.2) this).symm hre
                            · have := (chainL_chk (n := 4) (out := ps) HPG.out HPAR.out hck).symm.trans HR.out
                              exact (congrArg (fun z => z.2.2.2) this).symm)
                          rw [← HRES.out] at HCK
                          clear hre
                          go_wp2_with fail
                          refine (HCK.out).mono ?_
                          rintro e' wq ⟨rfl, rfl⟩
                          go_wp2_with fail
                          refine (works21_any _).mono ?_
                          rintro e' wz ⟨rfl, hbz⟩
                          have HBZ := hid (bthen HB10.out hbz)
                          clear hbz
                          go_wp2_with fail
                          go_ret
                          exact ⟨rfl, HBZ.out⟩
                      · obtain ⟨out2, hout2⟩ : ∃ o, o = argvL ix ag p ps := ⟨_, rfl⟩
                        have HO2L := hid (show out2.length ≤ 900000 by rw [hout2]; have := argvL_len ix ag p ps; have := HPN2.out; omega)
                        have HO2S := hid (show ∀ z ∈ out2, z.length ≤ 1000000 by
                          rw [hout2]
                          exact argvL_mem (i := ix) (a := ag) (p := p) (l := ps) (N := 1000000) (by have := HSMALL.out.1; omega) (by have := HSMALL.out.2; omega) (by have := HPZ.out; omega) HPS2.out)
                        rcases hQ : chainL t.L c 4 ix out2 with ⟨qn, qp, qo, qe⟩
                        have HQ := hid hQ
                        have HAV := hid (fun (wr : World) (hs : St w10 wr) => show Calls Tryd.prog 15 #[.string (ba ix), .string (ba ag), .string (ba p), .slice pa ps.length pc] wr (fun e w' => ∃ v, e = .returned v ∧ OwnS w' wr.heap.size v out2 ∧ Below wr.heap.size wr w') from by
                          rw [hout2]
                          exact argv_any ix ag p pa ps.length pc ps wr (HP10.out.below' hs) HPC.out (by have := HPN2.out; omega))
                        have HC2 := hid (fun (wr : World) (hs : St w10 wr) (a' : Option Addr) (c' : Nat) (hn : Cel wr a' out2.length (strs out2)) (hnil : a' = none → c' = 0 ∧ out2.length = 0) => show Calls Tryd.prog 21 #[.pointer (some ⟨F, 0, none⟩), .agg #[.int .u32 u, .int .u32 e, .int .u32 s, .int .u32 g, .slice ca cn cc], .string (ba ix), .slice a' out2.length c'] wr (fun e w' => ∃ v, e = .returned (.tuple #[.int .i64 qn, .string (ba qp), v, .int .i64 qe]) ∧ OwnS w' wr.heap.size v qo ∧ Below wr.heap.size wr w') from by
                          have h1 := HCHN.out ix (by have := HSMALL.out.1; omega) a' out2.length c' out2 wr (HB410.out.trans (hs.mono HB410.out.size)) hn (fun h => ⟨(hnil h).2, (hnil h).1⟩) HO2L.out HO2S.out
                          unfold ChainPost at h1
                          rw [hQ] at h1
                          exact h1)
                        have HNEXT := hid (show chainL t.L c 3 ix out2 = (rn, rp, ro, re) by
                          rw [hout2]
                          exact (chainL_next (n := 3) (out := ps) HPG.out HPAR.out).symm.trans HR.out)
                        have X0 : ∀ w', St w10 w' → w'.cell? ⟨w.heap.size, 0, none⟩ = some (.int .u32 u) := fun w' hs => St.cell x0 hs
                        have X1 : ∀ w', St w10 w' → w'.cell? ⟨w.heap.size, 1, none⟩ = some (.int .u32 e) := fun w' hs => St.cell x1 hs
                        have X2 : ∀ w', St w10 w' → w'.cell? ⟨w.heap.size, 2, none⟩ = some (.int .u32 s) := fun w' hs => St.cell x2 hs
                        have X3 : ∀ w', St w10 w' → w'.cell? ⟨w.heap.size, 3, none⟩ = some (.int .u32 g) := fun w' hs => St.cell x3 hs
                        have X4 : ∀ w', St w10 w' → w'.cell? ⟨w.heap.size, 4, none⟩ = some (.slice ca cn cc) := fun w' hs => St.cell x4 hs
                        have Y0 : ∀ w', St w10 w' → w'.cell? ⟨w.heap.size + 1, 0, none⟩ = some (.string (ba p)) := fun w' hs => St.cell y0 hs
                        have Y1 : ∀ w', St w10 w' → w'.cell? ⟨w.heap.size + 1, 1, none⟩ = some (.slice pa ps.length pc) := fun w' hs => St.cell y1 hs
                        have L1 : ∀ w', St w10 w' → w.heap.size < w'.heap.size := fun w' hs => Nat.lt_of_lt_of_le hl1 hs.size
                        have L2 : ∀ w', St w10 w' → w.heap.size + 1 < w'.heap.size := fun w' hs => Nat.lt_of_lt_of_le hl2 hs.size
                        clear hQ hout2 x0 x1 x2 x3 x4 y0 y1 hl1 hl2
                        go_wp2_with fail
                        go_region_held3 (St w10) (first | exact St.drew _ | exact St.step (by assumption) hbx | assumption) (first | (go_at_call 15; with_reducible refine ((HAV.out _ (by assumption)).mono ?_); rintro e' wx ⟨v', rfl, hoc, hbx⟩; obtain ⟨a11, c11, rfl, hN11, hnil11, _⟩ := own_cel2 hoc; have HN11 := hid hN11; have HM11 := hid hnil11; have HS11 : Hid (St w10 wx) := hid (St.step (by assumption) hbx); clear hoc hN11 hnil11) | (go_at_call 21; go_must (refine ((HC2.out _ HS11.out _ _ HN11.out HM11.out).mono ?_)); rintro e' wy ⟨v12, rfl, ho12, hbx⟩; have HO12 := hid ho12; have HS12 : Hid (St w10 wy) := hid (St.step HS11.out hbx); clear ho12))
                        have HB12 := hid (bthen HB10.out HS12.out)
                        have HRL := hid (show ro.length ≤ 1000000 by
                          have h1 := chainL_len (L := t.L) (c := c) 4 p ps
                          rw [HR.out] at h1
                          simp only at h1
                          have := HPN2.out
                          omega)
                        clear X0 X1 X2 X3 X4 Y0 Y1 L1 L2 hbx
                        by_cases hre10 : re = 10
                        · have d10 : (re == 10) = true := by simp [hre10]
                          clear hre10
                          go_wp2_with fail
                          refine (works21_any _).mono ?_
                          rintro e' wz ⟨rfl, hbz⟩
                          have HBZ := hid (bthen HB12.out hbz)
                          clear hbz
                          go_wp2_with fail
                          go_ret
                          exact ⟨rfl, HBZ.out⟩
                        · have d10 : (re == 10) = false := by simpa using hre10
                          have h9 : (rn, rp, ro, re) = (qn, qp, qo, qe) := by
                            rw [← HNEXT.out, ← HQ.out]
                            exact (chainL_more 3 ix out2 (by rw [HNEXT.out]; exact hre10)).symm
                          simp only [Prod.mk.injEq] at h9
                          obtain ⟨rfl, rfl, rfl, rfl⟩ := h9
                          obtain ⟨za, zc, rfl, hz, _⟩ := own_cel2 HO12.out
                          have HEQ := hid (eqTexts_any oa za ro.length oc ro.length zc ro ro wy (HOC10.out.below' HS12.out) hz (by have := HRL.out; omega) (by have := HRL.out; omega))
                          rw [show eqT ro ro = true by simp [eqT]] at HEQ
                          have hq2 := ba_beq rp rp
                          simp only [decide_true] at hq2
                          clear hre10 hz
                          go_wp2_with fail
                          refine (HEQ.out).mono ?_
                          rintro e' wq ⟨rfl, q, rfl⟩
                          have HBQ := hid (bdN HB12.out q)
                          go_wp2_with fail
                          refine (works21_any _).mono ?_
                          rintro e' wz ⟨rfl, hbz⟩
                          have HBZ := hid (bthen HBQ.out hbz)
                          clear hbz
                          go_wp2_with fail
                          go_ret
                          exact ⟨rfl, HBZ.out⟩
                    · have dpe : (pe != 0) = true := by simpa using hpe
                      have d50 : (re != 0) = true := by
                        have := chainL_par (n := 4) (out := ps) HPG.out HPAR.out hpe
                        rw [HR.out] at this
                        have := congrArg (fun z => z.2.2.2) this
                        simp only at this
                        rw [this]; exact dpe
                      clear hpe
                      go_wp2_with fail
                      refine (works21_any _).mono ?_
                      rintro e' wz ⟨rfl, hbz⟩
                      have HBZ := hid (bthen HB10.out hbz)
                      clear hbz
                      go_wp2_with fail
                      go_ret
                      exact ⟨rfl, HBZ.out⟩
                · have dk : ((t.nd nx).kind != 1) = true := by simpa using hk
                  have h9 := (chainL_bad (n := 4) (out := ps) (progL_not HWL.out (show execB c (t.L.getD nx default) = false by unfold execB; rw [decide_eq_false (show ¬ (t.L.getD nx default).kind = 1 from hk)]; rfl)) (by decide)).symm.trans HR.out
                  simp only [Prod.mk.injEq] at h9
                  obtain ⟨rfl, rfl, rfl, rfl⟩ := h9
                  clear hk
                  go_wp2_with fail
                  refine (works21_any _).mono ?_
                  rintro e' wz ⟨rfl, hbz⟩
                  have HBZ := hid (bthen HB8.out hbz)
                  clear hbz
                  go_wp2_with fail
                  go_ret
                  exact ⟨rfl, HBZ.out⟩
              · have dwe : (we != 0) = true := by simpa using hwe
                have dwe2 : (we == 0) = false := by simpa using hwe
                have h9 := (chainL_bad (n := 4) (out := ps) (progL_bad (e := we) (by rw [HWL.out]) hwe) hwe).symm.trans HR.out
                simp only [Prod.mk.injEq] at h9
                obtain ⟨rfl, rfl, rfl, rfl⟩ := h9
                clear hwe
                go_wp2_with fail
                refine (works21_any _).mono ?_
                rintro e' wz ⟨rfl, hbz⟩
                have HBZ := hid (bthen HB8.out hbz)
                clear hbz
                go_wp2_with fail
                go_ret
                exact ⟨rfl, HBZ.out⟩
            · obtain rfl := hp
              go_wp2_with fail
              refine (works21_any _).mono ?_
              rintro e' wz ⟨rfl, hbz⟩
              have HBZ := hid (bthen HB4.out hbz)
              clear hbz
              go_wp2_with fail
              go_ret
              exact ⟨rfl, HBZ.out⟩
      · have dsz : decide ((1024 : Int) < (cn : Int)) = true := by simp; omega
        go_wp2_with fail
        refine (works21_any _).mono ?_
        rintro e' wz ⟨rfl, hbz⟩
        have HBZ := hid (bthen HB1.out hbz)
        clear hbz
        go_wp2_with fail
        go_ret
        exact ⟨rfl, HBZ.out⟩
    · go_wp2_with fail
      refine (works21_any _).mono ?_
      rintro e' wz ⟨rfl, hbz⟩
      have HBZ := hid (bthen HB1.out hbz)
      clear hbz
      go_wp2_with fail
      go_ret
      exact ⟨rfl, HBZ.out⟩
  · go_wp2_with fail
    refine (works21_any _).mono ?_
    rintro e' wz ⟨rfl, hbz⟩
    have HBZ := hid (bthen HB1.out hbz)
    clear hbz
    go_wp2_with fail
    go_ret
    exact ⟨rfl, HBZ.out⟩
end Go.Proofs.YtnepccjcjkeneaaDoor
