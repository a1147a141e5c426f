
/- SearchFinds: the walk. -/
import Derived.Test.YtnepccjcjkeneaaG65
namespace Go.Proofs.Ytnepccjcjkeneaa
open Go.ChangeShapes Go.WideShapes Go.ChangeAt Go.RowKit Go.Sort
attribute [local go_sem] Oper.semAt_some

theorem stepL_cr {L : List ND} {c c' : CR} (he : c.e = c'.e) (hg : c.g = c'.g) (hl : c.l = c'.l) (i : Nat) (p : BL) : stepL L c i p = stepL L c' i p := by
  unfold stepL stepN mayX
  rw [he, hg, hl]
theorem followL_cr {L : List ND} {c c' : CR} (h : ∀ i p, stepL L c i p = stepL L c' i p) {last : Bool} (links at_ : Nat) (left : List BL) : followL L c last links at_ left = followL L c' last links at_ left := by
  induction links, at_, left using followL.induct (L := L) (c := c) (last := last) with
  | case1 links at_ => rw [followL, followL]
  | case2 links at_ p rest h1 h2 ih => rw [followL, if_pos h1, if_pos h2, ih, followL, ← h, if_pos h1, if_pos h2]
  | case3 links at_ p rest h1 h2 h3 => rw [followL, if_pos h1, if_neg h2, dif_pos h3, followL, ← h, if_pos h1, if_neg h2, dif_pos h3]
  | case4 links at_ p rest h1 h2 h3 ih => rw [followL, if_pos h1, if_neg h2, dif_neg h3, followL, ← h, if_pos h1, if_neg h2, dif_neg h3]; exact ih
  | case5 links at_ p rest h1 => rw [followL, if_neg h1, followL, ← h, if_neg h1]
theorem walkL_cr {L : List ND} {c c' : CR} (he : c.e = c'.e) (hg : c.g = c'.g) (hl : c.l = c'.l) (f : Int) (p : BL) (last : Bool) : walkL L c f p last = walkL L c' f p last := by
  unfold walkL
  simp only [followL_cr (stepL_cr he hg hl)]
theorem leadB_cr {L : List ND} {c c' : CR} (he : c.e = c'.e) (hg : c.g = c'.g) (hl : c.l = c'.l) (f : Int) : leadB L c f = leadB L c' f := by
  funext p
  unfold leadB
  rw [walkL_cr he hg hl, he, hg, hl]

set_option maxRecDepth 100000 in
set_option maxHeartbeats 8000000 in
theorem searchFinds_walk (a : Option Addr) (cp : Nat) (xs : List EN) (u e s g : Int) (ca : Option Addr) (cn cc : Nat) (cl : List Int) (cwd : Int) (pa : Option Addr) (pc : Nat) (ps : List BL) (w : World) (hX : EntsIn w a xs.length xs) (hxl : xs.length ≤ 140737488351232) (hN : Nums w .u32 ca cn cl) (hcn : ca = none → cc = 0) (hP : Cel w pa ps.length (strs ps)) (hpl : ps.length ≤ 8796093022207) (hps : ∀ p ∈ ps, p.length ≤ 140737488351232) :
    Calls Try.prog 7 #[.slice a xs.length cp, credV u e s g ca cn cc, .agg #[.int .i64 cwd, .slice pa ps.length pc]] w fun e' w' => e' = .returned (.bool true) ∧ Below w.heap.size w w' := by
  obtain ⟨W0, hW0⟩ : ∃ W0, W0 = (w.alloc (.cells #[.int .u32 u, .int .u32 e, .int .u32 s, .int .u32 g, .slice ca cn cc] 44)).alloc (.cells #[.int .i64 cwd, .slice pa ps.length pc] 64) := ⟨_, rfl⟩
  have hb : Below w.heap.size w W0 := by rw [hW0]; exact (bal _).alloc (by simp) _
  have hr1 : Row W0 w.heap.size 44 [.int .u32 u, .int .u32 e, .int .u32 s, .int .u32 g, .slice ca cn cc] := by
    rw [hW0]; exact (Row.new w 44 [.int .u32 u, .int .u32 e, .int .u32 s, .int .u32 g, .slice ca cn cc]).alloc _
  have hr2 : Row W0 (w.heap.size + 1) 64 [.int .i64 cwd, .slice pa ps.length pc] := by
    have := Row.new (w.alloc (.cells #[.int .u32 u, .int .u32 e, .int .u32 s, .int .u32 g, .slice ca cn cc] 44)) 64 [.int .i64 cwd, .slice pa ps.length pc]
    rw [World.size_alloc] at this
    rw [hW0]; exact this
  have HB0 := hid hb
  have HR1 := hid hr1
  have HR2 := hid hr2
  have HX0 := hid (show EntsIn W0 a xs.length xs from ⟨hX.rows.below' hb, fun x hx => ⟨(hX.ok x hx).byt.below' hb, (hX.ok x hx).nil, (hX.ok x hx).path, (hX.ok x hx).to, (hX.ok x hx).data, (hX.ok x hx).mode⟩⟩)
  have HN0 := hid (hN.below' hb)
  have HP0 := hid (hP.below' hb)
  have HPS := hid hps
  have HCN := hid hcn
  have HPL := hid hpl
  clear hb hr1 hr2 hX hN hP hps hpl hcn
  go_enter Try.func7, Try.ntmps7
  go_wp2_with fail
  rw [← hW0]
  clear hW0
  refine (largeE_any _ _ _ xs W0 HX0.out hxl).mono ?_
  rintro e' w1 ⟨b, rfl, hb, hsm⟩
  have HB1 := hid (HB0.out.trans (hb.mono HB0.out.size))
  have HR1 := hid (HR1.out.below hb HR1.out.lt)
  have HR2 := hid (HR2.out.below hb HR2.out.lt)
  cases b
  · obtain ⟨hs1, hs2⟩ := hsm rfl
    have he := HX0.out.small hs2
    have HX1 := hid (he.below hb)
    have HN1 := hid (HN0.out.below' hb)
    have HP1 := hid (HP0.out.below' hb)
    have HS1 := hid hs1
    clear hsm hs1 hs2 he hb HX0 HN0 HP0
    obtain ⟨c0, c1, c2, c3, c4⟩ := HR1.out.five
    obtain ⟨d0, d1⟩ := HR2.out.two
    have hl1 := HR1.out.lt
    have hl2 := HR2.out.lt
    by_cases hsz : cn ≤ 1024
    · have dsz : decide ((1024 : Int) < (cn : Int)) = false := by simp; omega
      have HSZ := hid hsz
      clear hsz
      go_wp2_with fail
      refine (asklarge_any cwd pa pc ps w1 HP1.out HPL.out HPS.out).mono ?_
      rintro e' w2 ⟨bb, rfl, hb, hsm⟩
      have HB2 := hid (bthen HB1.out hb)
      have HR1 := hid (HR1.out.below hb HR1.out.lt)
      have HR2 := hid (HR2.out.below hb HR2.out.lt)
      have HX2 := hid (HX1.out.below hb)
      have HN2 := hid (HN1.out.below' hb)
      have HP2 := hid (HP1.out.below' hb)
      have HSM := hid hsm
      clear hb hsm c0 c1 c2 c3 c4 d0 d1 hl1 hl2 HX1 HN1 HP1 HPS HPL
      cases bb
      · obtain ⟨hs5, hs6⟩ := HSM.out rfl
        have HS5 := hid hs5
        have HS6 := hid hs6
        clear HSM hs5 hs6
        go_wp2_with fail
        refine (copyE_any _ _ _ xs w2 HX2.out (by have := HS1.out; omega)).mono ?_
        rintro e' w3 ⟨v, ys, rfl, hC⟩
        obtain ⟨av, cv, rfl, _⟩ := own_rk hC.own (enC_len ys) (by omega)
        have hb := hC.below
        have HB3 := hid (bthen HB2.out hb)
        have HR1 := hid (HR1.out.below hb HR1.out.lt)
        have HR2 := hid (HR2.out.below hb HR2.out.lt)
        have HN3 := hid (HN2.out.below' hb)
        have HP3 := hid (HP2.out.below' hb)
        have HE := hid hC.ents.2
        have HYL := hid (show ys.length ≤ 1000000 by have := HS1.out; have := hC.len; omega)
        have HXL := hid hC.len
        have HNE := hid (cpe_new hC [root0] 0)
        have HX3 := hid (HX2.out.below hb)
        clear hb hC HX2 HN2 HP2
        go_wp2_with fail
        refine (new_any _ _ _ ys w3 HE.out HYL.out).mono ?_
        rintro e' w4 ⟨hb, hp⟩
        have HB4 := hid (bthen HB3.out hb)
        have HR1 := hid (HR1.out.below hb HR1.out.lt)
        have HR2 := hid (HR2.out.below hb HR2.out.lt)
        have HN4 := hid (HN3.out.below' hb)
        have HP4 := hid (HP3.out.below' hb)
        have HRN := hid (rnew_any a xs.length cp xs w4 (HX3.out.below hb) (by have := HS1.out; omega))
        rw [HXL.out, HNE.out] at hp
        clear hb HE HN3 HP3 HB0 HB1 HB2 HB3 HX3
        have hwk : ∀ (wx : World), Calls Try.prog 25 #[] wx fun e w' => e = .returned (.bool true) ∧ Below wx.heap.size wx w' := works15_any
        have HWK := hid hwk
        clear hwk
        by_cases hbig : 64 < xs.length ∨ ¬ (newE [root0] 0 xs).1 = 0
        · obtain ⟨er, ix, hpe, hre⟩ : ∃ (er ix : Int), e' = .returned (.tuple #[.pointer none, .int .i64 er, .int .i64 ix]) ∧ ∀ e9 w9, RNews w4 xs e9 w9 → e9 = .returned (.tuple #[.pointer none, .int .i64 er, .int .i64 ix]) ∧ Below w4.heap.size w4 w9 := by
            by_cases h64 : 64 < xs.length
            · rw [if_pos h64] at hp
              refine ⟨15, -1, hp, fun e9 w9 h => ?_⟩
              obtain ⟨h1, h2⟩ := h
              rw [if_pos h64] at h2
              exact ⟨h2, h1⟩
            · have hn0 : ¬ (newE [root0] 0 xs).1 = 0 := hbig.resolve_left h64
              rw [if_neg h64, if_neg hn0] at hp
              refine ⟨_, _, hp, fun e9 w9 h => ?_⟩
              obtain ⟨h1, h2⟩ := h
              rw [if_neg h64, if_neg hn0] at h2
              exact ⟨h2, h1⟩
          subst hpe
          have HRE := hid hre
          clear hbig hp hre
          go_wp2_with fail
          refine (HRN.out).mono ?_
          intro e9 w5 h9
          obtain ⟨rfl, hb⟩ := HRE.out _ _ h9
          have HB5 := hid (bthen HB4.out hb)
          have HR1 := hid (HR1.out.below hb HR1.out.lt)
          have HR2 := hid (HR2.out.below hb HR2.out.lt)
          have HN5 := hid (HN4.out.below' hb)
          have HP5 := hid (HP4.out.below' hb)
          clear hb h9 HRE HRN HN4 HP4
          obtain ⟨y0, y1⟩ := HR2.out.two
          have hl2 := HR2.out.lt
          go_wp2_with fail
          refine (copyTexts_any pa ps.length pc ps w5 HP5.out (by have := HS5.out; omega)).mono ?_
          rintro e' w6 ⟨iv, rfl, ho, hb⟩
          obtain ⟨ia, ic, rfl, hci, _⟩ := own_cel ho
          have HCI := hid hci
          have HB6 := hid (bthen HB5.out hb)
          have HR1 := hid (HR1.out.below hb HR1.out.lt)
          have HR2 := hid (HR2.out.below hb HR2.out.lt)
          have HN6 := hid (HN5.out.below' hb)
          have HP6 := hid (HP5.out.below' hb)
          clear ho hb hci HN5 HP5 y0 y1 hl2
          have HQ0 := hid (St.five HR1.out.five)
          have HQ1 := hid (show (∀ wx, St w6 wx → wx.cell? ⟨w.heap.size + 1, 0, none⟩ = some (.int .i64 cwd)) ∧ (∀ wx, St w6 wx → wx.cell? ⟨w.heap.size + 1, 1, none⟩ = some (.slice pa ps.length pc)) from ⟨fun _ => St.cell HR2.out.two.1, fun _ => St.cell HR2.out.two.2⟩)
          obtain ⟨x0, x1, x2, x3, x4⟩ := HQ0.out
          obtain ⟨y0, y1⟩ := HQ1.out
          have hlt1 : ∀ w', St w6 w' → w.heap.size < w'.heap.size := fun w' hs => Nat.lt_of_lt_of_le HR1.out.lt hs.size
          have hlt2 : ∀ w', St w6 w' → w.heap.size + 1 < w'.heap.size := fun w' hs => Nat.lt_of_lt_of_le HR2.out.lt hs.size
          have HCP := hid (fun (wr : World) (hs : St w6 wr) => cpc_any u e s g ca cn cc cl wr (HN6.out.below' hs) HCN.out (by have := HSZ.out; omega))
          have HFD := hid (fun (wr : World) (_ : St w6 wr) (a' : Option Addr) (n' c' : Nat) => find_none u e s g a' n' c' cwd ia ps.length ic wr)
          go_wp2_with fail
          go_region_held3 (St w6) (first | exact St.drew _ | exact St.step (by assumption) hbx | assumption) (first | (go_at_call 21; (with_reducible refine ((HCP.out _ (by assumption)).mono ?_)); rintro e' wx ⟨v', rfl, hoc, hbx⟩; obtain ⟨a11, c11, rfl, hN11⟩ := own_nums hoc; have HS11 : Hid (St w6 wx) := hid (St.step (by assumption) hbx); clear hoc hN11) | (go_at_call 36; (with_reducible refine ((HFD.out _ HS11.out _ _ _).mono ?_)); rintro e' wy ⟨rfl, hbx⟩; have HS12 : Hid (St w6 wy) := hid (St.step HS11.out hbx)))
          have HR17 := hid (HR1.out.below HS12.out HR1.out.lt)
          have HR27 := hid (HR2.out.below HS12.out HR2.out.lt)
          have HB7 := hid (bthen HB6.out HS12.out)
          have HCI7 := hid (HCI.out.below' HS12.out)
          have HP7 := hid (HP6.out.below' HS12.out)
          clear HQ0 HQ1 x0 x1 x2 x3 x4 y0 y1 hlt1 hlt2 HCP HFD HS11 hbx HN6
          obtain ⟨x0, x1, x2, x3, x4⟩ := HR17.out.five
          obtain ⟨y0, y1⟩ := HR27.out.two
          have hl1 := HR17.out.lt
          have hl2 := HR27.out.lt
          go_wp2_with fail
          refine (rfind_none u e s g ca cn cc cwd pa ps.length pc wy).mono ?_
          rintro e' w8 ⟨rfl, hb⟩
          have HB8 := hid (bthen HB7.out hb)
          have HR28 := hid (HR27.out.below hb HR27.out.lt)
          have HCI8 := hid (HCI7.out.below' hb)
          have HP8 := hid (HP7.out.below' hb)
          have hq := ba_beq2 [] []
          rw [decide_eq_true rfl] at hq
          have HEQ := hid (eqTexts_any ia pa ps.length ic ps.length pc ps ps w8 HCI8.out HP8.out (by have := HS5.out; omega) (by have := HS5.out; omega))
          rw [show eqT ps ps = true by simp [eqT]] at HEQ
          clear hb x0 x1 x2 x3 x4 y0 y1 hl1 hl2
          obtain ⟨y0, y1⟩ := HR28.out.two
          have hl2 := HR28.out.lt
          go_wp2_with fail
          refine (HEQ.out).mono ?_
          rintro e' w9 ⟨rfl, n9, rfl⟩
          go_wp2_with fail
          refine (HWK.out _).mono ?_
          rintro e' w10 ⟨rfl, hb⟩
          have HBX := hid (bthen (bdN HB8.out n9) hb)
          clear hb
          go_wp2_with fail
          go_ret
          exact ⟨rfl, HBX.out⟩
        · have h64 : ¬ 64 < xs.length := fun h => hbig (.inl h)
          have hn0 : (newE [root0] 0 xs).1 = 0 := Decidable.not_not.1 fun h => hbig (.inr h)
          rw [if_neg h64, if_pos hn0] at hp
          obtain ⟨F, t, rfl, htl, hfs, _⟩ := hp
          have HTL := hid htl
          have HF := hid hfs
          have H64 := hid h64
          have HN0 := hid hn0
          clear hfs htl h64 hn0 hbig
          go_wp2_with fail
          refine (HRN.out).mono ?_
          intro e9 w5 h9
          obtain ⟨hb, h9⟩ := h9
          rw [if_neg H64.out, if_pos HN0.out] at h9
          obtain ⟨G, gv, d, rfl, hrb, hfine⟩ := h9
          have HB5 := hid (bthen HB4.out hb)
          have HR1 := hid (HR1.out.below hb HR1.out.lt)
          have HR2 := hid (HR2.out.below hb HR2.out.lt)
          have HN5 := hid (HN4.out.below' hb)
          have HP5 := hid (HP4.out.below' hb)
          have HF5 := hid (HF.out.below hb)
          have HRF := hid (show RF w5 G t.L d by
            rw [HTL.out]
            obtain ⟨P, h3, _⟩ := lay_new xs [root0] _ 0 lay0 HN0.out
            exact hrb.rf hfine ⟨P, h3⟩ (lay_kid xs [root0] _ 0 lay0 kid0 HN0.out))
          clear hb hrb hfine HRN HN4 HP4 HF
          obtain ⟨y0, y1⟩ := HR2.out.two
          have hl2 := HR2.out.lt
          go_wp2_with fail
          refine (copyTexts_any pa ps.length pc ps w5 HP5.out (by have := HS5.out; omega)).mono ?_
          rintro e' w6 ⟨iv, rfl, ho, hb⟩
          obtain ⟨ia, ic, rfl, hci, _⟩ := own_cel ho
          have HCI := hid hci
          have HB6 := hid (bthen HB5.out hb)
          have HR1 := hid (HR1.out.below hb HR1.out.lt)
          have HR2 := hid (HR2.out.below hb HR2.out.lt)
          have HN6 := hid (HN5.out.below' hb)
          have HP6 := hid (HP5.out.below' hb)
          have HF6 := hid (HF5.out.below hb)
          have HRF6 := hid (HRF.out.below hb)
          clear ho hb hci HN5 HP5 y0 y1 hl2 HF5 HRF
          have HQ0 := hid (St.five HR1.out.five)
          have HQ1 := hid (show (∀ wx, St w6 wx → wx.cell? ⟨w.heap.size + 1, 0, none⟩ = some (.int .i64 cwd)) ∧ (∀ wx, St w6 wx → wx.cell? ⟨w.heap.size + 1, 1, none⟩ = some (.slice pa ps.length pc)) from ⟨fun _ => St.cell HR2.out.two.1, fun _ => St.cell HR2.out.two.2⟩)
          obtain ⟨x0, x1, x2, x3, x4⟩ := HQ0.out
          obtain ⟨y0, y1⟩ := HQ1.out
          have hlt1 : ∀ w', St w6 w' → w.heap.size < w'.heap.size := fun w' hs => Nat.lt_of_lt_of_le HR1.out.lt hs.size
          have hlt2 : ∀ w', St w6 w' → w.heap.size + 1 < w'.heap.size := fun w' hs => Nat.lt_of_lt_of_le HR2.out.lt hs.size
          have HCP := hid (fun (wr : World) (hs : St w6 wr) => cpc_any u e s g ca cn cc cl wr (HN6.out.below' hs) HCN.out (by have := HSZ.out; omega))
          have hpsz : ∀ p ∈ ps, p.length ≤ 1000000 := fun p hp => by have := HS6.out p hp; omega
          have hpl9 : ps.length ≤ 1000000 := by have := HS5.out; omega
          have HLB := hid (fun (a' : Option Addr) (n' c' : Nat) => show leadB t.L ⟨u, e, s, g, a', n', c', cl⟩ cwd = leadB t.L ⟨u, e, s, g, ca, cn, cc, cl⟩ cwd from leadB_cr (c := ⟨u, e, s, g, a', n', c', cl⟩) (c' := ⟨u, e, s, g, ca, cn, cc, cl⟩) rfl rfl rfl cwd)
          obtain ⟨R, hR⟩ : ∃ R, firstL (leadB t.L ⟨u, e, s, g, ca, cn, cc, cl⟩ cwd) ps = R := ⟨_, rfl⟩
          obtain ⟨rn, rp, re, hfv⟩ : ∃ (rn : Int) (rp : BL) (re : Int), findV R = .tuple #[.int .i64 rn, .string (ba rp), .int .i64 re] := by
            obtain ⟨r1, r2, r3⟩ := R
            cases r3
            · exact ⟨0, [], 19, rfl⟩
            · exact ⟨r1, r2, 0, rfl⟩
          have HFD := hid (fun (wr : World) (hs : St w6 wr) (a' : Option Addr) (c' : Nat) (hn : Nums wr .u32 a' cl.length cl) => show Calls Try.prog 36 #[.pointer (some ⟨F, 0, none⟩), credV u e s g a' cl.length c', .int .i64 cwd, .slice ia ps.length ic] wr (fun e w' => e = .returned (.tuple #[.int .i64 rn, .string (ba rp), .int .i64 re]) ∧ Below wr.heap.size wr w') by
            have h1 := find_any F t ⟨u, e, s, g, a', cl.length, c', cl⟩ cwd ia ic ps wr (HF6.out.below hs) ⟨hn, by have := HN6.out.hlen; have := HSZ.out; dsimp only; omega⟩ (HCI.out.below' hs) hpsz hpl9
            rw [HLB.out, hR, hfv] at h1
            exact h1)
          have HFR := hid (fun (wr : World) (hs : St w6 wr) => show Calls Try.prog 37 #[.pointer (some ⟨G, 0, none⟩), credV u e s g ca cn cc, .int .i64 cwd, .slice pa ps.length pc] wr (fun e w' => e = .returned (.tuple #[.int .i64 rn, .string (ba rp), .int .i64 re]) ∧ Below wr.heap.size wr w') by
            have h1 := rfind_any G t.L d ⟨u, e, s, g, ca, cn, cc, cl⟩ cwd pa pc ps wr (HRF6.out.below hs) ⟨HN6.out.below' hs, by have := HSZ.out; dsimp only; omega⟩ (HP6.out.below' hs) hpsz hpl9
            rw [hR, hfv] at h1
            exact h1)
          clear hR hfv hpsz
          go_wp2_with fail
          go_region_held3 (St w6) (first | exact St.drew _ | exact St.step (by assumption) hbx | assumption) (first | (go_at_call 21; (with_reducible refine ((HCP.out _ (by assumption)).mono ?_)); rintro e' wx ⟨v', rfl, hoc, hbx⟩; obtain ⟨a11, c11, rfl, hN11⟩ := own_nums hoc; have HN11 := hid hN11; have HS11 : Hid (St w6 wx) := hid (St.step (by assumption) hbx); clear hoc hN11) | (go_at_call 36; (with_reducible refine ((HFD.out _ HS11.out _ _ HN11.out).mono ?_)); rintro e' wy ⟨rfl, hbx⟩; have HS12 : Hid (St w6 wy) := hid (St.step HS11.out hbx)))
          have HR17 := hid (HR1.out.below HS12.out HR1.out.lt)
          have HR27 := hid (HR2.out.below HS12.out HR2.out.lt)
          have HB7 := hid (bthen HB6.out HS12.out)
          have HCI7 := hid (HCI.out.below' HS12.out)
          have HP7 := hid (HP6.out.below' HS12.out)
          clear HQ0 HQ1 x0 x1 x2 x3 x4 y0 y1 hlt1 hlt2 HCP HFD HS11 hbx HN6
          obtain ⟨x0, x1, x2, x3, x4⟩ := HR17.out.five
          obtain ⟨y0, y1⟩ := HR27.out.two
          have hl1 := HR17.out.lt
          have hl2 := HR27.out.lt
          go_wp2_with fail
          refine (HFR.out _ HS12.out).mono ?_
          rintro e' w8 ⟨rfl, hb⟩
          have HB8 := hid (bthen HB7.out hb)
          have HR28 := hid (HR27.out.below hb HR27.out.lt)
          have HCI8 := hid (HCI7.out.below' hb)
          have HP8 := hid (HP7.out.below' hb)
          have hq := ba_beq2 rp rp
          rw [decide_eq_true rfl] at hq
          have hqn : (rn == rn) = true := by simp
          have hqe : (re == re) = true := by simp
          have HEQ := hid (eqTexts_any ia pa ps.length ic ps.length pc ps ps w8 HCI8.out HP8.out (by have := HS5.out; omega) (by have := HS5.out; omega))
          rw [show eqT ps ps = true by simp [eqT]] at HEQ
          clear hb x0 x1 x2 x3 x4 y0 y1 hl1 hl2
          obtain ⟨y0, y1⟩ := HR28.out.two
          have hl2 := HR28.out.lt
          go_wp2_with fail
          refine (HEQ.out).mono ?_
          rintro e' w9 ⟨rfl, n9, rfl⟩
          go_wp2_with fail
          refine (HWK.out _).mono ?_
          rintro e' w10 ⟨rfl, hb⟩
          have HBX := hid (bthen (bdN HB8.out n9) hb)
          clear hb
          go_wp2_with fail
          go_ret
          exact ⟨rfl, HBX.out⟩
      · clear HSM
        go_wp2_with fail
        refine (works15_any _).mono ?_
        rintro e' w5 ⟨rfl, hb⟩
        have HB5 := hid (bthen HB2.out hb)
        clear hb
        go_wp2_with fail
        go_ret
        exact ⟨rfl, HB5.out⟩
    · have dsz : decide ((1024 : Int) < (cn : Int)) = true := by simp; omega
      clear hsz
      go_wp2_with fail
      refine (works15_any _).mono ?_
      rintro e' w3 ⟨rfl, hb2⟩
      have HB3 := hid (bthen HB1.out hb2)
      clear hb2
      go_wp2_with fail
      go_ret
      exact ⟨rfl, HB3.out⟩
  · clear hsm
    go_wp2_with fail
    refine (works15_any _).mono ?_
    rintro e' w3 ⟨rfl, hb2⟩
    have HB3 := hid (bthen HB1.out hb2)
    clear hb2
    go_wp2_with fail
    go_ret
    exact ⟨rfl, HB3.out⟩
end Go.Proofs.Ytnepccjcjkeneaa
