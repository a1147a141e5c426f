
/- ShebangChains' walk. -/
import Derived.Test.YthamfhenadaapaaGreatDoorU8
import Derived.Test.YthamfhenadaapaaGreatDoorU17
import Derived.Test.YthamfhenadaapaaGreatDoorKT
namespace Go.Proofs.YthamfhenadaapaaGreatDoor
open Go.RowKit Go.Sort
open Go.ChangeShapes Go.WideShapes Go.ChangeAt

theorem own_at {wr : World} {base G n c k : Nat} {xs : List Value} (hox : wr.ownsRow base 9 1 (.slice (some ⟨G, 0, none⟩) n c) n xs) (hk : k < n) : (∃ u, wr.cell? ⟨G, k, none⟩ = some u) ∧ wr.frozen? ⟨G, k, none⟩ = false := by
  have hx := hox.cellAt k (by have := hox.1; omega)
  rw [List.getElem?_eq_getElem (by have := hox.1; omega)] at hx
  rcases hox.2 with ⟨h1, _⟩ | ⟨g, cap', cur, h1, _, h3, _⟩
  · cases h1
  · simp only [Value.slice.injEq, Option.some.injEq, Addr.mk.injEq, and_true, true_and] at h1
    obtain ⟨rfl, rfl⟩ := h1
    exact ⟨⟨_, hx⟩, frozen_of_row _ _ _ _ _ h3⟩
theorem stepL_crU {L : List ND} {c c' : CR} (he : c.e = c'.e) (hg : c.g = c'.g) (hl : c.l = c'.l) (i : Nat) (p : BL) : stepL L c i p = stepL L c' i p := by
  unfold stepL stepN mayX
  rw [he, hg, hl]
theorem followL_crU {L : List ND} {c c' : CR} (h : ∀ i p, stepL L c i p = stepL L c' i p) {last : Bool} (links at_ : Nat) (left : List BL) : followL L c last links at_ left = followL L c' last links at_ left := by
  induction links, at_, left using followL.induct (L := L) (c := c) (last := last) with
  | case1 links at_ => rw [followL, followL]
  | case2 links at_ p rest h1 h2 ih => rw [followL, if_pos h1, if_pos h2, ih, followL, ← h, if_pos h1, if_pos h2]
  | case3 links at_ p rest h1 h2 h3 => rw [followL, if_pos h1, if_neg h2, dif_pos h3, followL, ← h, if_pos h1, if_neg h2, dif_pos h3]
  | case4 links at_ p rest h1 h2 h3 ih => rw [followL, if_pos h1, if_neg h2, dif_neg h3, followL, ← h, if_pos h1, if_neg h2, dif_neg h3]; exact ih
  | case5 links at_ p rest h1 => rw [followL, if_neg h1, followL, ← h, if_neg h1]
theorem walkL_crU {L : List ND} {c c' : CR} (he : c.e = c'.e) (hg : c.g = c'.g) (hl : c.l = c'.l) (f : Int) (p : BL) (last : Bool) : walkL L c f p last = walkL L c' f p last := by
  unfold walkL
  simp only [followL_crU (stepL_crU he hg hl)]
theorem progL_crU {L : List ND} {c c' : CR} (he : c.e = c'.e) (hg : c.g = c'.g) (hl : c.l = c'.l) (p : BL) : progL L c p = progL L c' p := by
  unfold progL execB
  rw [walkL_crU he hg hl, he, hg, hl]
theorem chainL_crU {L : List ND} {c c' : CR} (he : c.e = c'.e) (hg : c.g = c'.g) (hl : c.l = c'.l) : ∀ (n : Nat) (p : BL) (o : List BL), chainL L c n p o = chainL L c' n p o := by
  intro n
  induction n with
  | zero => intro p o; unfold chainL; rw [progL_crU he hg hl]
  | succ n ih => intro p o; unfold chainL; rw [progL_crU he hg hl]; simp only [ih]
theorem chainL_lenU {L : List ND} {c : CR} : ∀ (n : Nat) (p : BL) (o : List BL), (chainL L c n p o).2.2.1.length ≤ o.length + 3 * n := by
  intro n
  induction n with
  | zero =>
    intro p o
    cases hP : progL L c p with
    | mk ino er =>
      by_cases he : er = 0
      · subst he
        rcases hq : parL (L.getD ino.toNat default).data with ⟨x, a, is, pe⟩
        by_cases hpe : pe = 0
        · subst hpe
          cases is
          · by_cases hc : chkL o = 0
            · rw [chainL_ok hP hq hc]; simp
            · rw [chainL_chk hP hq hc]; simp
          · rw [chainL_loop hP hq]; simp
        · rw [chainL_par hP hq hpe]; simp
      · rw [chainL_bad hP he]; simp
  | succ n ih =>
    intro p o
    cases hP : progL L c p with
    | mk ino er =>
      by_cases he : er = 0
      · subst he
        rcases hq : parL (L.getD ino.toNat default).data with ⟨x, a, is, pe⟩
        by_cases hpe : pe = 0
        · subst hpe
          cases is
          · by_cases hc : chkL o = 0
            · rw [chainL_ok hP hq hc]; simp only; omega
            · rw [chainL_chk hP hq hc]; simp
          · rw [chainL_next hP hq]
            have h1 := ih x (argvL x a p o)
            have h2 := argvL_len x a p o
            omega
        · rw [chainL_par hP hq hpe]; simp
      · rw [chainL_bad hP he]; simp

set_option maxRecDepth 100000 in
set_option maxHeartbeats 16000000 in
theorem shebangChains_walk (a : Option Addr) (cp : Nat) (xs : List EN) (u e s g : Int) (ca : Option Addr) (cn cc : Nat) (cl : List Int) (p : BL) (pa : Option Addr) (pc : Nat) (ps : List BL) (w : World) (hX : EntsIn w a xs.length xs) (hxl : xs.length ≤ 140737488351232) (hN : Nums w .u32 ca cn cl) (hcn : ca = none → cc = 0) (hp : p.length ≤ 140737488351232) (hP : Cel w pa ps.length (strs ps)) (hpl : ps.length ≤ 8796093022207) (hps : ∀ p ∈ ps, p.length ≤ 140737488351232) :
    Calls Tryz.prog 3 #[.slice a xs.length cp, credV u e s g ca cn cc, .agg #[.string (ba p), .slice pa ps.length pc]] w fun e' w' => e' = .returned (.bool true) ∧ Below w.heap.size w w' := by
  obtain ⟨W0, hW0⟩ : ∃ W0, W0 = (w.alloc (.cells #[.int .u32 u, .int .u32 e, .int .u32 s, .int .u32 g, .slice ca cn cc] 26)).alloc (.cells #[.string (ba p), .slice pa ps.length pc] 29) := ⟨_, rfl⟩
  have hb : Below w.heap.size w W0 := by rw [hW0]; exact (bal _).alloc (by simp) _
  have hr1 : Row W0 w.heap.size 26 [.int .u32 u, .int .u32 e, .int .u32 s, .int .u32 g, .slice ca cn cc] := by
    rw [hW0]; exact (Row.new w 26 [.int .u32 u, .int .u32 e, .int .u32 s, .int .u32 g, .slice ca cn cc]).alloc _
  have hr2 : Row W0 (w.heap.size + 1) 29 [.string (ba p), .slice pa ps.length pc] := by
    have := Row.new (w.alloc (.cells #[.int .u32 u, .int .u32 e, .int .u32 s, .int .u32 g, .slice ca cn cc] 26)) 29 [.string (ba p), .slice pa ps.length pc]
    rw [World.size_alloc] at this
    rw [hW0]; exact this
  have HB0 := hid hb
  have HR1 := hid hr1
  have HR2 := hid hr2
  have HX0 := hid (show EntsIn W0 a xs.length xs from ⟨hX.rows.below' hb, fun x hx => ⟨(hX.ok x hx).byt.below' hb, (hX.ok x hx).nil, (hX.ok x hx).path, (hX.ok x hx).to, (hX.ok x hx).data, (hX.ok x hx).mode⟩⟩)
  have HN0 := hid (hN.below' hb)
  have HP0 := hid (hP.below' hb)
  have HPS := hid hps
  have HPL := hid hpl
  have HCN := hid hcn
  have zp : (ba p).size ≤ 140737488351232 := by rw [ba_size]; exact hp
  have HBS := hid (ba_size p)
  clear hb hr1 hr2 hX hN hP hps hpl hp hcn
  go_enter Tryz.func3, Tryz.ntmps3
  go_wp2_with fail
  rw [← hW0]
  clear hW0
  refine (largeE_any _ _ _ xs W0 HX0.out hxl).mono ?_
  rintro e' w1 ⟨b, rfl, hb, hsm⟩
  have HB1 := hid (HB0.out.trans (hb.mono HB0.out.size))
  have HR1 := hid (HR1.out.below hb HR1.out.lt)
  have HR2 := hid (HR2.out.below hb HR2.out.lt)
  cases b
  · obtain ⟨hs1, hs2⟩ := hsm rfl
    have he := HX0.out.small hs2
    have HX1 := hid (he.below hb)
    have HN1 := hid (HN0.out.below' hb)
    have HP1 := hid (HP0.out.below' hb)
    have HS1 := hid hs1
    clear hsm hs1 hs2 he hb HX0 HN0 HP0
    obtain ⟨c0, c1, c2, c3, c4⟩ := HR1.out.five
    obtain ⟨d0, d1⟩ := HR2.out.two
    have hl1 := HR1.out.lt
    have hl2 := HR2.out.lt
    go_wp2_with fail
    refine (large_any pa ps.length pc ps w1 HP1.out (by have := HPL.out; omega) HPS.out).mono ?_
    rintro e' w2 ⟨hw2, b, rfl, hb⟩
    subst hw2
    have HTN := hid hb
    clear hb
    cases b
    · have htn := HTN.out rfl
      have HPN2 := hid (show ps.length ≤ 65536 by have := totN_len ps; omega)
      have HPS2 := hid (show ∀ q ∈ ps, q.length ≤ 1000000 from fun q hq => by have := totN_mem hq; omega)
      clear htn HTN
      by_cases hsz : cn ≤ 1024
      · have dsz : decide ((1024 : Int) < (cn : Int)) = false := by simp; omega
        have HSZ := hid hsz
        clear hsz
        by_cases hpz : (4096 : Int) < ((ba p).size : Int)
        · have dp : decide ((4096 : Int) < ((ba p).size : Int)) = true := decide_eq_true hpz
          go_wp2_with fail
          refine (works21_any _).mono ?_
          rintro e' wz ⟨rfl, hbz⟩
          have HBZ := hid (bthen HB1.out hbz)
          clear hbz
          go_wp2_with fail
          go_ret
          exact ⟨rfl, HBZ.out⟩
        · have dp : decide ((4096 : Int) < ((ba p).size : Int)) = false := decide_eq_false hpz
          have HPZ := hid (show p.length ≤ 4096 by have := HBS.out; omega)
          clear hpz
          have HSX := hid (show xs.length ≤ 1000000 by have := HS1.out; omega)
          have HCE := hid (copyE_any a xs.length cp xs w1 HX1.out HSX.out)
          go_wp2_with fail
          refine (HCE.out).mono ?_
          rintro e' w3 ⟨v, ys, rfl, hC⟩
          obtain ⟨av, cv, rfl, _⟩ := own_rk hC.own (enC_len ys) (by omega)
          have hb := hC.below
          have HB3 := hid (bthen HB1.out hb)
          have HR1 := hid (HR1.out.below hb HR1.out.lt)
          have HR2 := hid (HR2.out.below hb HR2.out.lt)
          have HN3 := hid (HN1.out.below' hb)
          have HP3 := hid (HP1.out.below' hb)
          have HE := hid hC.ents.2
          have HYL := hid (show ys.length ≤ 1000000 by have := HS1.out; have := hC.len; omega)
          have HXL := hid hC.len
          have HNE := hid (cpe_newU hC [root0] 0)
          have HX3 := hid (HX1.out.below hb)
          clear hb hC HX1 HN1 HP1 c0 c1 c2 c3 c4 d0 d1 hl1 hl2 dsz dp
          go_wp2_with fail
          refine (new_any _ _ _ ys w3 HE.out HYL.out).mono ?_
          rintro e' w4 ⟨hb, hp⟩
          have HB4 := hid (bthen HB3.out hb)
          have HR1 := hid (HR1.out.below hb HR1.out.lt)
          have HR2 := hid (HR2.out.below hb HR2.out.lt)
          have HN4 := hid (HN3.out.below' hb)
          have HP4 := hid (HP3.out.below' hb)
          have HRN := hid (rnew_any a xs.length cp xs w4 (HX3.out.below hb) HSX.out)
          rw [HXL.out, HNE.out] at hp
          clear hb HE HN3 HP3 HB0 HB1 HB3 HX3
          by_cases hbig : 64 < xs.length ∨ ¬ (newE [root0] 0 xs).1 = 0
          · obtain ⟨er, ix, hpe, hre⟩ : ∃ (er ix : Int), e' = .returned (.tuple #[.pointer none, .int .i64 er, .int .i64 ix]) ∧ ∀ e9 w9, RNews w4 xs e9 w9 → e9 = .returned (.tuple #[.pointer none, .int .i64 er, .int .i64 ix]) ∧ Below w4.heap.size w4 w9 := by
              by_cases h64 : 64 < xs.length
              · rw [if_pos h64] at hp
                refine ⟨15, -1, hp, fun e9 w9 h => ?_⟩
                obtain ⟨h1, h2⟩ := h
                rw [if_pos h64] at h2
                exact ⟨h2, h1⟩
              · have hn0 : ¬ (newE [root0] 0 xs).1 = 0 := hbig.resolve_left h64
                rw [if_neg h64, if_neg hn0] at hp
                refine ⟨_, _, hp, fun e9 w9 h => ?_⟩
                obtain ⟨h1, h2⟩ := h
                rw [if_neg h64, if_neg hn0] at h2
                exact ⟨h2, h1⟩
            subst hpe
            have HRE := hid hre
            clear hbig hp hre
            go_wp2_with fail
            refine (HRN.out).mono ?_
            intro e9 w5 h9
            obtain ⟨rfl, hb⟩ := HRE.out _ _ h9
            have HB5 := hid (bthen HB4.out hb)
            have HR1 := hid (HR1.out.below hb HR1.out.lt)
            have HR2 := hid (HR2.out.below hb HR2.out.lt)
            have HN5 := hid (HN4.out.below' hb)
            have HP5 := hid (HP4.out.below' hb)
            clear hb h9 HRE HRN HN4 HP4
            obtain ⟨y0, y1⟩ := HR2.out.two
            have hl2 := HR2.out.lt
            go_wp2_with fail
            refine (copyTexts_any pa ps.length pc ps w5 HP5.out (by have := HPN2.out; omega)).mono ?_
            rintro e' w6 ⟨iv, rfl, ho, hb⟩
            obtain ⟨ia, ic, rfl, hci, hcn0, hcic, _⟩ := own_cel2 ho
            have HCI := hid hci
            have HB56 := hid hb
            have HB6 := hid (bthen HB5.out hb)
            have HR1 := hid (HR1.out.below hb HR1.out.lt)
            have HR2 := hid (HR2.out.below hb HR2.out.lt)
            have HN6 := hid (HN5.out.below' hb)
            have HP6 := hid (HP5.out.below' hb)
            have HINIL := hid (fun h => And.comm.1 (hcn0 h))
            clear ho hb hci hcn0 hcic HN5 HP5 y0 y1 hl2
            have HQ0 := hid (St.five HR1.out.five)
            have HQ1 := hid (show (∀ wx, St w6 wx → wx.cell? ⟨w.heap.size + 1, 0, none⟩ = some (.string (ba p))) ∧ (∀ wx, St w6 wx → wx.cell? ⟨w.heap.size + 1, 1, none⟩ = some (.slice pa ps.length pc)) from ⟨fun _ => St.cell HR2.out.two.1, fun _ => St.cell HR2.out.two.2⟩)
            obtain ⟨x0, x1, x2, x3, x4⟩ := HQ0.out
            obtain ⟨y0, y1⟩ := HQ1.out
            have hlt1 : ∀ w', St w6 w' → w.heap.size < w'.heap.size := fun w' hs => Nat.lt_of_lt_of_le HR1.out.lt hs.size
            have hlt2 : ∀ w', St w6 w' → w.heap.size + 1 < w'.heap.size := fun w' hs => Nat.lt_of_lt_of_le HR2.out.lt hs.size
            have HCP := hid (fun (wr : World) (hs : St w6 wr) => cpc_any u e s g ca cn cc cl wr (HN6.out.below' hs) HCN.out (by have := HSZ.out; omega))
            have HCHF := hid (fun (wr : World) (_ : St w6 wr) (a' : Option Addr) (c' : Nat) (_ : Nums wr .u32 a' cl.length cl) => show Calls Tryz.prog 11 #[.pointer none, credV u e s g a' cl.length c', .string (ba p), .slice ia ps.length ic] wr (ChainPost wr (0, [], [], 2)) from (chain_none u e s g a' cl.length c' (ba p) ia ps.length ic wr).mono (by
              rintro e9 w9 ⟨rfl, hb⟩
              exact chain_ret rfl rfl (own_nil3 _ _) hb))
            have HCHR := hid (fun (wr : World) (_ : St w6 wr) => rchain_none u e s g ca cn cc (ba p) pa ps.length pc wr)
            obtain ⟨rn, rp, ro, re, hR⟩ : ∃ rn rp ro re, ((0, [], [], 2) : Int × BL × List BL × Int) = (rn, rp, ro, re) := ⟨_, _, _, _, rfl⟩
            have HRLEN := hid (show ro.length ≤ ps.length + 12 by have : ([] : List BL) = ro := congrArg (·.2.2.1) hR; rw [← this]; simp)
            rw [hR] at HCHF HCHR
            unfold ChainPost at HCHF HCHR
            simp only at HCHF HCHR
            clear hR HN6
            have HRL : Hid (ro.length ≤ 70000) := hid (by
              have h1 := HRLEN.out
              have h2 := HPN2.out
              omega)
            clear HRLEN
            go_wp2_with fail
            go_region_held3 (St w6) (first | exact St.drew _ | exact St.step (by assumption) hbx | assumption) (first | (go_at_call 12; (with_reducible refine ((HCP.out _ (by assumption)).mono ?_)); rintro e' wx ⟨v', rfl, hoc, hbx⟩; obtain ⟨a11, c11, rfl, hN11⟩ := own_nums hoc; have HN11 := hid hN11; have HS11 : Hid (St w6 wx) := hid (St.step (by assumption) hbx); clear hoc hN11) | (go_at_call 11; (with_reducible refine ((HCHF.out _ HS11.out _ _ HN11.out).mono ?_)); rintro e' wy ⟨v5, rfl, ho5, hbx⟩; obtain ⟨oa, oc, rfl, _⟩ := own_cel2 ho5; have HO5 := hid (own_from ho5 HS11.out.size); have HS12 : Hid (St w6 wy) := hid (St.step HS11.out hbx)))
            have HR17 := hid (HR1.out.below HS12.out HR1.out.lt)
            have HR27 := hid (HR2.out.below HS12.out HR2.out.lt)
            have HCI7 := hid (HCI.out.below' HS12.out)
            have HP7 := hid (HP6.out.below' HS12.out)
            clear HQ0 HQ1 x0 x1 x2 x3 x4 y0 y1 hlt1 hlt2 HCP HCHF HS11 hbx ho5
            obtain ⟨x0, x1, x2, x3, x4⟩ := HR17.out.five
            obtain ⟨y0, y1⟩ := HR27.out.two
            have hl1 := HR17.out.lt
            have hl2 := HR27.out.lt
            go_wp2_with fail
            refine (HCHR.out _ HS12.out).mono ?_
            rintro e' w8 ⟨v8, rfl, ho8, hb⟩
            obtain ⟨qa, qc, rfl, hqc, _⟩ := own_cel2 ho8
            have HS8 := hid (St.step HS12.out hb)
            have HO8 := hid (own_below HO5.out hb)
            obtain ⟨_, _, hov, hoc, _⟩ := own_cel2 HO8.out
            cases hov
            have HEQ := hid (eqTexts_any oa qa ro.length oc ro.length qc ro ro w8 hoc hqc (by have := HRL.out; omega) (by have := HRL.out; omega))
            rw [show eqT ro ro = true by simp [eqT]] at HEQ
            have hq := ba_beq rp rp
            rw [decide_eq_true rfl] at hq
            have hqn : (rn == rn) = true := by simp
            have hqe : (re == re) = true := by simp
            have HR28 := hid (HR27.out.below hb HR27.out.lt)
            clear hb ho8 hqc hoc x0 x1 x2 x3 x4 y0 y1 hl1 hl2 HO5
            go_wp2_with fail
            refine (HEQ.out).mono ?_
            rintro e' w9 ⟨rfl, q9, hw9⟩
            have HB9 := hid (show Below w6.heap.size w6 w9 by rw [hw9]; exact bdN HS8.out q9)
            have HO9 := hid (show OwnS w9 w6.heap.size (.slice oa ro.length oc) ro by rw [hw9]; exact own_below HO8.out (drewN_below w8 q9))
            have HR29 := hid (show Row w9 (w.heap.size + 1) 29 [.string (ba p), .slice pa ps.length pc] by rw [hw9]; exact HR28.out.below (drewN_below w8 q9) HR28.out.lt)
            have HZ9 := hid HB9.out.size
            have HAL2 := hid (show ro.length ≤ 8000000000000 by have := HRL.out; omega)
            clear hw9 HO8 HEQ hq hqn hqe
            go_wp2_with (at_builtin; go_must (refine wpList_appS rfl _ _ rfl w6.heap.size (.slice oa ro.length oc) ro (ba [33]) rfl rfl HO9.out HAL2.out HZ9.out ?_; intro v' w10 hown hgrow hb10 _ hat; have HO10 := hid hown; have HB10 := hid (HB9.out.trans hb10); obtain ⟨G2, c2, rfl, hc1, hc2, hc3, hc4⟩ := own_open hown (by omega); clear hown hgrow hb10 hat))
            have HG2 := hid hc2
            clear hc1 hc2 hc3 hc4
            go_loopw [22] (fun i wr => ∃ k : Nat, k ≤ ro.length + 1 ∧ i = .int .i64 k ∧ (∃ xs, wr.ownsRow w6.heap.size 9 1 (.slice (some ⟨G2, 0, none⟩) (ro.length + 1) c2) (ro.length + 1) xs) ∧ Below w6.heap.size w6 wr) (fun i _ => ro.length + 1 - (intOf i).toNat)
            case atStart => exact ⟨0, Nat.zero_le _, rfl, ⟨_, HO10.out⟩, HB10.out⟩
            case round =>
              obtain ⟨k, hk, rfl, ⟨xs, hox⟩, hg⟩ := hrel
              have HG := hid hg
              have HX := hid hox
              clear hg
              by_cases hlt : k < ro.length + 1
              · have d1 : decide ((k : Int) < (ro.length : Int) + 1) = true := by simp; omega
                have d1n : decide (k < ro.length + 1) = true := by simp; omega
                obtain ⟨⟨uu, hc0⟩, hf⟩ := own_at hox hlt
                have HRL3 := HRL.out
                clear hox
                go_wp2_with fail
                go_roundw
                case rel => exact ⟨k + 1, by omega, by go_num, ⟨_, (HX.out.stored k _).1⟩, bset HG.out HG2.out _⟩
                case measure => simp [intOf]; omega
              · have d1 : decide ((k : Int) < (ro.length : Int) + 1) = false := decide_eq_false (by omega)
                have d1n : decide (k < ro.length + 1) = false := decide_eq_false (by omega)
                have HE9 := hid (eqTexts_any ia pa ps.length ic ps.length pc ps ps wr (HCI.out.below' HG.out) (HP6.out.below' HG.out) (by have := HPN2.out; omega) (by have := HPN2.out; omega))
                rw [show eqT ps ps = true by simp [eqT]] at HE9
                have HBW := hid (HB6.out.trans (HG.out.mono HB6.out.size))
                have HR2W := hid (HR2.out.below HG.out HR2.out.lt)
                obtain ⟨y0, y1⟩ := HR2W.out.two
                have hl2 := HR2W.out.lt
                clear hox
                go_wp2_with fail
                refine (HE9.out).mono ?_
                rintro e' wa ⟨rfl, qa2, rfl⟩
                have HBa := hid (bdN HBW.out qa2)
                clear y0 y1 hl2
                go_wp2_with fail
                refine (works21_any _).mono ?_
                rintro e' wz ⟨rfl, hbz⟩
                have HBZ := hid (bthen HBa.out hbz)
                clear hbz
                go_wp2_with fail
                go_ret
                exact ⟨rfl, HBZ.out⟩
          · have h64 : ¬ 64 < xs.length := fun h => hbig (.inl h)
            have hn0 : (newE [root0] 0 xs).1 = 0 := Decidable.not_not.1 fun h => hbig (.inr h)
            rw [if_neg h64, if_pos hn0] at hp
            obtain ⟨F, t, rfl, htl, hfs, _⟩ := hp
            have HTL := hid htl
            have HF := hid hfs
            have H64 := hid h64
            have HN0 := hid hn0
            clear hfs htl h64 hn0 hbig
            go_wp2_with fail
            refine (HRN.out).mono ?_
            intro e9 w5 h9
            obtain ⟨hb, h9⟩ := h9
            rw [if_neg H64.out, if_pos HN0.out] at h9
            obtain ⟨G, gv, d, rfl, hrb, hfine⟩ := h9
            have HB5 := hid (bthen HB4.out hb)
            have HR1 := hid (HR1.out.below hb HR1.out.lt)
            have HR2 := hid (HR2.out.below hb HR2.out.lt)
            have HN5 := hid (HN4.out.below' hb)
            have HP5 := hid (HP4.out.below' hb)
            have HF5 := hid (HF.out.below hb)
            have HRF5 := hid (show RF w5 G t.L d by
              rw [HTL.out]
              obtain ⟨P, h3, _⟩ := lay_new xs [root0] _ 0 lay0 HN0.out
              exact hrb.rf hfine ⟨P, h3⟩ (lay_kid xs [root0] _ 0 lay0 kid0 HN0.out))
            clear hb hrb hfine HRN HN4 HP4 HF
            obtain ⟨y0, y1⟩ := HR2.out.two
            have hl2 := HR2.out.lt
            go_wp2_with fail
            refine (copyTexts_any pa ps.length pc ps w5 HP5.out (by have := HPN2.out; omega)).mono ?_
            rintro e' w6 ⟨iv, rfl, ho, hb⟩
            obtain ⟨ia, ic, rfl, hci, hcn0, hcic, _⟩ := own_cel2 ho
            have HCI := hid hci
            have HB56 := hid hb
            have HB6 := hid (bthen HB5.out hb)
            have HR1 := hid (HR1.out.below hb HR1.out.lt)
            have HR2 := hid (HR2.out.below hb HR2.out.lt)
            have HN6 := hid (HN5.out.below' hb)
            have HP6 := hid (HP5.out.below' hb)
            have HINIL := hid (fun h => And.comm.1 (hcn0 h))
            clear ho hb hci hcn0 hcic HN5 HP5 y0 y1 hl2
            have HQ0 := hid (St.five HR1.out.five)
            have HQ1 := hid (show (∀ wx, St w6 wx → wx.cell? ⟨w.heap.size + 1, 0, none⟩ = some (.string (ba p))) ∧ (∀ wx, St w6 wx → wx.cell? ⟨w.heap.size + 1, 1, none⟩ = some (.slice pa ps.length pc)) from ⟨fun _ => St.cell HR2.out.two.1, fun _ => St.cell HR2.out.two.2⟩)
            obtain ⟨x0, x1, x2, x3, x4⟩ := HQ0.out
            obtain ⟨y0, y1⟩ := HQ1.out
            have hlt1 : ∀ w', St w6 w' → w.heap.size < w'.heap.size := fun w' hs => Nat.lt_of_lt_of_le HR1.out.lt hs.size
            have hlt2 : ∀ w', St w6 w' → w.heap.size + 1 < w'.heap.size := fun w' hs => Nat.lt_of_lt_of_le HR2.out.lt hs.size
            have HCP := hid (fun (wr : World) (hs : St w6 wr) => cpc_any u e s g ca cn cc cl wr (HN6.out.below' hs) HCN.out (by have := HSZ.out; omega))
            have HCHF := hid (fun (wr : World) (hs : St w6 wr) (a' : Option Addr) (c' : Nat) (hn : Nums wr .u32 a' cl.length cl) => show Calls Tryz.prog 11 #[.pointer (some ⟨F, 0, none⟩), credV u e s g a' cl.length c', .string (ba p), .slice ia ps.length ic] wr (ChainPost wr (chainL t.L ⟨u, e, s, g, ca, cn, cc, cl⟩ 4 p ps)) from by
              have h1 := chain_any F t ⟨u, e, s, g, a', cl.length, c', cl⟩ p ia ps.length ic ps wr (HF5.out.below (bthen HB56.out hs)) ⟨hn, by have := HN6.out.hlen; have := HSZ.out; dsimp only; omega⟩ (by have := HPZ.out; omega) (HCI.out.below' hs) HINIL.out (by have := HPN2.out; omega) HPS2.out
              rw [chainL_crU (c := ⟨u, e, s, g, a', cl.length, c', cl⟩) (c' := ⟨u, e, s, g, ca, cn, cc, cl⟩) rfl rfl rfl] at h1
              exact h1)
            have HCHR := hid (fun (wr : World) (hs : St w6 wr) => show Calls Tryz.prog 13 #[.pointer (some ⟨G, 0, none⟩), credV u e s g ca cn cc, .string (ba p), .slice pa ps.length pc] wr (ChainPost wr (chainL t.L ⟨u, e, s, g, ca, cn, cc, cl⟩ 4 p ps)) from
              rchain_any G t.L d ⟨u, e, s, g, ca, cn, cc, cl⟩ p pa ps.length pc ps wr (HRF5.out.below (bthen HB56.out hs)) ⟨HN6.out.below' hs, by have := HSZ.out; dsimp only; omega⟩ (by have := HPZ.out; omega) (HP6.out.below' hs) (by have := HPN2.out; omega) HPS2.out)
            have HRLEN := hid (chainL_lenU (L := t.L) (c := ⟨u, e, s, g, ca, cn, cc, cl⟩) 4 p ps)
            rcases hR : chainL t.L ⟨u, e, s, g, ca, cn, cc, cl⟩ 4 p ps with ⟨rn, rp, ro, re⟩
            rw [hR] at HCHF HCHR HRLEN
            unfold ChainPost at HCHF HCHR
            simp only at HCHF HCHR HRLEN
            clear hR HF5 HRF5
            have HRL : Hid (ro.length ≤ 70000) := hid (by
              have h1 := HRLEN.out
              have h2 := HPN2.out
              omega)
            clear HRLEN
            go_wp2_with fail
            go_region_held3 (St w6) (first | exact St.drew _ | exact St.step (by assumption) hbx | assumption) (first | (go_at_call 12; (with_reducible refine ((HCP.out _ (by assumption)).mono ?_)); rintro e' wx ⟨v', rfl, hoc, hbx⟩; obtain ⟨a11, c11, rfl, hN11⟩ := own_nums hoc; have HN11 := hid hN11; have HS11 : Hid (St w6 wx) := hid (St.step (by assumption) hbx); clear hoc hN11) | (go_at_call 11; (with_reducible refine ((HCHF.out _ HS11.out _ _ HN11.out).mono ?_)); rintro e' wy ⟨v5, rfl, ho5, hbx⟩; obtain ⟨oa, oc, rfl, _⟩ := own_cel2 ho5; have HO5 := hid (own_from ho5 HS11.out.size); have HS12 : Hid (St w6 wy) := hid (St.step HS11.out hbx)))
            have HR17 := hid (HR1.out.below HS12.out HR1.out.lt)
            have HR27 := hid (HR2.out.below HS12.out HR2.out.lt)
            have HCI7 := hid (HCI.out.below' HS12.out)
            have HP7 := hid (HP6.out.below' HS12.out)
            clear HQ0 HQ1 x0 x1 x2 x3 x4 y0 y1 hlt1 hlt2 HCP HCHF HS11 hbx ho5
            obtain ⟨x0, x1, x2, x3, x4⟩ := HR17.out.five
            obtain ⟨y0, y1⟩ := HR27.out.two
            have hl1 := HR17.out.lt
            have hl2 := HR27.out.lt
            go_wp2_with fail
            refine (HCHR.out _ HS12.out).mono ?_
            rintro e' w8 ⟨v8, rfl, ho8, hb⟩
            obtain ⟨qa, qc, rfl, hqc, _⟩ := own_cel2 ho8
            have HS8 := hid (St.step HS12.out hb)
            have HO8 := hid (own_below HO5.out hb)
            obtain ⟨_, _, hov, hoc, _⟩ := own_cel2 HO8.out
            cases hov
            have HEQ := hid (eqTexts_any oa qa ro.length oc ro.length qc ro ro w8 hoc hqc (by have := HRL.out; omega) (by have := HRL.out; omega))
            rw [show eqT ro ro = true by simp [eqT]] at HEQ
            have hq := ba_beq rp rp
            rw [decide_eq_true rfl] at hq
            have hqn : (rn == rn) = true := by simp
            have hqe : (re == re) = true := by simp
            have HR28 := hid (HR27.out.below hb HR27.out.lt)
            clear hb ho8 hqc hoc x0 x1 x2 x3 x4 y0 y1 hl1 hl2 HO5
            go_wp2_with fail
            refine (HEQ.out).mono ?_
            rintro e' w9 ⟨rfl, q9, hw9⟩
            have HB9 := hid (show Below w6.heap.size w6 w9 by rw [hw9]; exact bdN HS8.out q9)
            have HO9 := hid (show OwnS w9 w6.heap.size (.slice oa ro.length oc) ro by rw [hw9]; exact own_below HO8.out (drewN_below w8 q9))
            have HR29 := hid (show Row w9 (w.heap.size + 1) 29 [.string (ba p), .slice pa ps.length pc] by rw [hw9]; exact HR28.out.below (drewN_below w8 q9) HR28.out.lt)
            have HZ9 := hid HB9.out.size
            have HAL2 := hid (show ro.length ≤ 8000000000000 by have := HRL.out; omega)
            clear hw9 HO8 HEQ hq hqn hqe
            go_wp2_with (at_builtin; go_must (refine wpList_appS rfl _ _ rfl w6.heap.size (.slice oa ro.length oc) ro (ba [33]) rfl rfl HO9.out HAL2.out HZ9.out ?_; intro v' w10 hown hgrow hb10 _ hat; have HO10 := hid hown; have HB10 := hid (HB9.out.trans hb10); obtain ⟨G2, c2, rfl, hc1, hc2, hc3, hc4⟩ := own_open hown (by omega); clear hown hgrow hb10 hat))
            have HG2 := hid hc2
            clear hc1 hc2 hc3 hc4
            go_loopw [22] (fun i wr => ∃ k : Nat, k ≤ ro.length + 1 ∧ i = .int .i64 k ∧ (∃ xs, wr.ownsRow w6.heap.size 9 1 (.slice (some ⟨G2, 0, none⟩) (ro.length + 1) c2) (ro.length + 1) xs) ∧ Below w6.heap.size w6 wr) (fun i _ => ro.length + 1 - (intOf i).toNat)
            case atStart => exact ⟨0, Nat.zero_le _, rfl, ⟨_, HO10.out⟩, HB10.out⟩
            case round =>
              obtain ⟨k, hk, rfl, ⟨xs, hox⟩, hg⟩ := hrel
              have HG := hid hg
              have HX := hid hox
              clear hg
              by_cases hlt : k < ro.length + 1
              · have d1 : decide ((k : Int) < (ro.length : Int) + 1) = true := by simp; omega
                have d1n : decide (k < ro.length + 1) = true := by simp; omega
                obtain ⟨⟨uu, hc0⟩, hf⟩ := own_at hox hlt
                have HRL3 := HRL.out
                clear hox
                go_wp2_with fail
                go_roundw
                case rel => exact ⟨k + 1, by omega, by go_num, ⟨_, (HX.out.stored k _).1⟩, bset HG.out HG2.out _⟩
                case measure => simp [intOf]; omega
              · have d1 : decide ((k : Int) < (ro.length : Int) + 1) = false := decide_eq_false (by omega)
                have d1n : decide (k < ro.length + 1) = false := decide_eq_false (by omega)
                have HE9 := hid (eqTexts_any ia pa ps.length ic ps.length pc ps ps wr (HCI.out.below' HG.out) (HP6.out.below' HG.out) (by have := HPN2.out; omega) (by have := HPN2.out; omega))
                rw [show eqT ps ps = true by simp [eqT]] at HE9
                have HBW := hid (HB6.out.trans (HG.out.mono HB6.out.size))
                have HR2W := hid (HR2.out.below HG.out HR2.out.lt)
                obtain ⟨y0, y1⟩ := HR2W.out.two
                have hl2 := HR2W.out.lt
                clear hox
                go_wp2_with fail
                refine (HE9.out).mono ?_
                rintro e' wa ⟨rfl, qa2, rfl⟩
                have HBa := hid (bdN HBW.out qa2)
                clear y0 y1 hl2
                go_wp2_with fail
                refine (works21_any _).mono ?_
                rintro e' wz ⟨rfl, hbz⟩
                have HBZ := hid (bthen HBa.out hbz)
                clear hbz
                go_wp2_with fail
                go_ret
                exact ⟨rfl, HBZ.out⟩
      · have dsz : decide ((1024 : Int) < (cn : Int)) = true := by simp; omega
        clear hsz
        go_wp2_with fail
        refine (works21_any _).mono ?_
        rintro e' wz ⟨rfl, hbz⟩
        have HBZ := hid (bthen HB1.out hbz)
        clear hbz
        go_wp2_with fail
        go_ret
        exact ⟨rfl, HBZ.out⟩
    · clear HTN
      go_wp2_with fail
      refine (works21_any _).mono ?_
      rintro e' wz ⟨rfl, hbz⟩
      have HBZ := hid (bthen HB1.out hbz)
      clear hbz
      go_wp2_with fail
      go_ret
      exact ⟨rfl, HBZ.out⟩
  · clear hsm
    go_wp2_with fail
    refine (works21_any _).mono ?_
    rintro e' wz ⟨rfl, hbz⟩
    have HBZ := hid (bthen HB1.out hbz)
    clear hbz
    go_wp2_with fail
    go_ret
    exact ⟨rfl, HBZ.out⟩
end Go.Proofs.YthamfhenadaapaaGreatDoor
