
/- CallsBack: its walk. -/
import Derived.Test.YtcbkikioapdbbaaDoorCe6
import Derived.Test.YtcbkikioapdbbaaDoorCe7
namespace Go.Proofs.YtcbkikioapdbbaaDoor
open Go.RowKit Go.Sort
attribute [local go_sem] Oper.semAt_some

theorem CGok.nums {w : World} {x : CG} (h : CGok w x) : x.a < 18446744073709551616 ∧ x.b < 18446744073709551616 ∧ x.c < 18446744073709551616 ∧ x.d < 18446744073709551616 ∧ x.e < 18446744073709551616 := ⟨h.na, h.nb, h.nc, h.nd, h.ne⟩

set_option maxRecDepth 100000 in
set_option maxHeartbeats 8000000 in
theorem callsBack_walk (x : CG) (ab : Option Addr) (bc : Nat) (lb : BL) (cut : Int) (w : World) (hs : Sizes w) (hx : CGok w x) (hB : Byt w ab lb.length lb) (hbn : ab = none → bc = 0) (hbl : lb.length ≤ 140737488351232) (hcut : -9223372036854775808 ≤ cut ∧ cut ≤ 9223372036854775807) :
    Calls Tryd.prog 7 #[cgV x, .slice ab lb.length bc, .int .i64 cut] w fun e w' => e = .returned (.bool true) ∧ Below w.heap.size w w' := by
  have hbox := box_cg x
  obtain ⟨w1, hw1⟩ : ∃ w1, w1 = w.alloc (.cells (cgC x).toArray 26) := ⟨_, rfl⟩
  have HC := hid (show CBx w w1 w.heap.size x by rw [hw1]; exact CBx.new hx)
  have HW := hid hw1
  have HX := hid hx
  have HS := hid (fun (w' : World) (hb : Below w.heap.size w w') => hs.below hb)
  have HG := hid (fun (w' : World) (hb : Below w.heap.size w w') => Nat.lt_of_lt_of_le hs.lt hb.size)
  have HWK := hid (fun (w' : World) (hb : Below w.heap.size w w') => works25_any w' (hs.below hb) (Nat.lt_of_lt_of_le hs.lt hb.size))
  have HB := hid hB
  have HBN := hid hbn
  clear hw1 hx hs hB hbn
  obtain ⟨c0, c1, c2, c3, c4, c5, c6, c7, c8, c9⟩ := HC.out.cells
  have hfin : ∀ {W : World}, Below w.heap.size w W → True := fun _ => trivial
  clear hfin
  go_enter Tryd.func7, Tryd.ntmps7
  go_wp2_with fail
  rw [← HW.out]
  refine (largeC_any x w1 HC.out.ok).mono ?_
  rintro e' w2 ⟨bl, rfl, hbl2, hb2⟩
  have HC2 := hid (HC.out.below hb2)
  clear c0 c1 c2 c3 c4 c5 c6 c7 c8 c9 hb2
  cases bl
  · have HN := hid (hbl2 rfl)
    clear hbl2
    by_cases hlg : 4096 < lb.length
    · have d1 : decide ((4096 : Int) < (lb.length : Int)) = true := by simp; omega
      have HL := hid HC2.out.low
      go_wp2_with fail
      refine (HWK.out w2 HL.out).mono ?_
      rintro e' w5 ⟨rfl, hb5⟩
      have HL5 := hid (HL.out.trans (hb5.mono HL.out.size))
      clear hb5
      go_wp2_with fail
      go_ret
      exact ⟨rfl, HL5.out⟩
    · have d1 : decide ((4096 : Int) < (lb.length : Int)) = false := by simp; omega
      have HLG := hid hlg
      have HPL := hid (show x.path.length ≤ 131072 from HN.out.pn)
      have HF := hid (show Calls Tryd.prog 16 #[cgV x] w2 (FormQ x w2) from (form25_any x w2 (HS.out w2 HC2.out.low) HC2.out.ok (Nat.le_trans HPL.out (by decide)) (HG.out w2 HC2.out.low)).mono fun _ _ h => h.q)
      obtain ⟨c0, c1, c2, c3, c4, c5, c6, c7, c8, c9⟩ := HC2.out.cells
      go_wp2_with fail
      refine HF.out.mono ?_
      rintro e' w3 ⟨a3, n3, rfl, ho3, hb3⟩
      have HC3 := hid (HC2.out.below hb3)
      have HO3 := hid ho3
      have HBB3 := hid hb3
      have HML := hid (frmB_len HPL.out)
      clear c0 c1 c2 c3 c4 c5 c6 c7 c8 c9 hb3 ho3 HF
      by_cases he : chkC x = 0
      · rw [he]
        have HFB := hid (show frmB x = formB x from if_pos he)
        have HRF := hid (readC_form HX.out.nums he lb)
        have HRC := hid (fun c hc => readC_cut HX.out.nums he (c := c) hc)
        rw [HFB.out] at HO3 HML ⊢
        clear he HFB
        generalize formB x = fb at *
        obtain ⟨a3', n3', q3, k3, i3, _⟩ := own_cel HO3.out
        cases q3
        have HC3B := hid k3
        have HI3 := hid i3
        have HNa := hid (show (0 + fb.length) * 1 ≤ 140737488355328 by have := HML.out; omega)
        have HNb := hid (show 0 + fb.length ≤ maxLen by have := HML.out; unfold maxLen; omega)
        have HNc := hid (show (fb.length + lb.length) * 1 ≤ 140737488355328 by have := HML.out; omega)
        have HNd := hid (show fb.length + lb.length ≤ maxLen by have := HML.out; unfold maxLen; omega)
        have HNIL := hid (show w3.ownsRow w3.heap.size 5 1 (.slice none 0 0) 0 [] from World.ownsRow_nil _ _ _ _)
        have HBA := hid (fun (W : World) (hb : Below w3.heap.size w3 W) => show Cel W ab lb.length (lb.map B8) from by
          have h := (HB.out.below' HC3.out.low).below' hb
          exact ⟨by simp, fun i hi => by
            obtain ⟨b, off, e, hc⟩ := h.cell i (by simpa using hi)
            exact ⟨b, off, e, by rw [hc, List.getElem_map]; rfl⟩⟩)
        have HCV := hid (fun (w' : World) (v : Value) (h : w'.ownsRow w3.heap.size 5 1 v (0 + fb.length) ([] ++ fb.map B8)) => show w'.ownsRow w3.heap.size 5 1 v fb.length (fb.map B8) from by simpa using h)
        clear k3 i3
        go_wp2_with (first | (at_builtin; refine wpList_ap1 Tryd.underlying24 infoBy rfl rfl _ _ rfl w3.heap.size (.slice none 0 0) 0 [] (fb.map B8) rfl a3 fb.length n3 rfl HNIL.out HC3B.out (b8_ones _) HI3.out HNa.out HNb.out (Nat.le_refl _) ?_; intro v4 w4 hown hgrow hb4; have hown2 := HCV.out w4 v4 hown; have HO4 := hid hown2; have HB4 := hid hb4; have HBA4 := hid (HBA.out w4 hb4); obtain ⟨a4, n4, rfl⟩ := own_hd2 hown2; clear hown hown2 hgrow hb4) | (at_builtin; refine wpList_ap1 Tryd.underlying24 infoBy rfl rfl _ _ rfl w3.heap.size (.slice a4 fb.length n4) fb.length _ (lb.map B8) rfl ab lb.length bc rfl HO4.out HBA4.out (b8_ones _) HBN.out HNc.out HNd.out HB4.out.size ?_; intro v5 w5 hown hgrow hb5; have HO5 := hid hown; have HB5 := hid (HB4.out.trans hb5); obtain ⟨a5, n5, rfl⟩ := own_hd2 hown; clear hown hgrow hb5))
        have HB5W := hid (show Below w.heap.size w w5 from HC3.out.low.trans (HB5.out.mono HC3.out.low.size))
        have HRD := hid (show Calls Tryd.prog 21 #[.slice a5 (fb.length + lb.length) n5] w5 (ReadP (fb ++ lb) w5) from by
          obtain ⟨a, c, e, hc, _, hle, _⟩ := own_cel HO5.out
          cases e
          have hb : Byt w5 a5 (fb.length + lb.length) (fb ++ lb) := cel_byt (by rw [List.map_append]; exact hc)
          have h := read25_o a5 n5 (fb ++ lb) w5 (HS.out w5 HB5W.out) (by rw [List.length_append]; exact hb) (by rw [List.length_append]; have := HML.out; have := HLG.out; omega) (by rw [List.length_append]; exact hle)
          rw [List.length_append] at h
          exact h)
        refine HRD.out.mono ?_
        intro e' w6 h6
        obtain ⟨y, rfl, hpy, hb6, hoy⟩ := (show ReadP _ _ _ _ from h6).q
        rw [HRF.out] at hpy ⊢
        have HPY := hid (show pcOf x = pcOf y from hpy.symm)
        obtain ⟨w7, hw7⟩ : ∃ w7, w7 = w6.alloc (.cells (cgC y).toArray 26) := ⟨_, rfl⟩
        have hb67 : Below w6.heap.size w6 w7 := by rw [hw7]; exact bal _
        have HYO := hid (show CGok w7 y from by
          have hb := readC_b (fb ++ lb)
          rw [HRF.out, ← hpy] at hb
          have hl : (fb ++ lb).length ≤ 1000000 := by rw [List.length_append]; have := HML.out; have := HLG.out; omega
          exact (hoy.below hb67).ok (L := (fb ++ lb).length) hb.1 hl (by
            have e : y.bytes.length = (pcOf y).bytes.length := rfl
            have := hb.2.1
            omega))
        have HC6 := hid ((HC3.out.below (HB5.out)).below hb6)
        have HC7 := hid (HC6.out.below hb67)
        have HO57 := hid (own_below (own_below HO3.out HB5.out) (hb6.trans (hb67.mono hb6.size)))
        have HYR := hid (show Row w7 w6.heap.size 26 (cgC y) by rw [hw7]; exact Row.new w6 _ _)
        have HW7 := hid hw7
        clear h6 hpy hb6 hoy hw7 hb67 HRD
        obtain ⟨c0, c1, c2, c3, c4, c5, c6, c7, c8, c9⟩ := HC6.out.cells
        have hl6 := HC6.out.row.lt
        have hne : ((fb.length : Int) != (fb.length : Int)) = false := by simp
        go_wp2_with fail
        rw [← HW7.out]
        refine (same_eq w7 HC7.out.ok HYO.out HPY.out).mono ?_
        rintro e' w8 ⟨rfl, hb8⟩
        have HB8 := hid (HC7.out.low.trans (hb8.mono HC7.out.low.size))
        have HO58 := hid (own_below HO57.out hb8)
        clear hb8 c0 c1 c2 c3 c4 c5 c6 c7 c8 c9 hl6
        by_cases h0 : 0 ≤ cut
        · have e1 : decide ((0 : Int) ≤ cut) = true := by simp; omega
          by_cases h1 : cut < (fb.length : Int)
          · have e2 : decide (cut < (fb.length : Int)) = true := by simp; omega
            obtain ⟨k, rfl⟩ := Int.eq_ofNat_of_zero_le h0
            have hk : k < fb.length := by omega
            have HCUT := hid (HRC.out k hk)
            have HTL := hid (show (fb.take k).length = k by rw [List.length_take]; omega)
            obtain ⟨a', c', q8, k8, i8, hle8, _⟩ := own_cel HO58.out
            cases q8
            have hsl := slTo .i64 a3 fb.length n3 k (k : Int) rfl (by omega)
            have HRD2 := hid (show Calls Tryd.prog 21 #[.slice a3 k n3] w8 (ReadP (fb.take k) w8) from by
              have h := read25_o a3 n3 (fb.take k) w8 (HS.out w8 HB8.out) (by rw [HTL.out]; exact (cel_byt k8).upto (by omega)) (by rw [HTL.out]; have := HML.out; omega) (by rw [HTL.out]; omega)
              rw [HTL.out] at h
              exact h)
            clear k8 i8 hle8 h0 h1
            go_wp2_with fail
            refine HRD2.out.mono ?_
            intro e' w9 h9
            obtain ⟨y2, rfl, hpy2, hb9, _⟩ := (show ReadP _ _ _ _ from h9).q
            rw [HCUT.out]
            obtain ⟨w10, hw10⟩ : ∃ w10, w10 = w9.alloc (.cells (cgC y2).toArray 26) := ⟨_, rfl⟩
            have HB10 := hid (show Below w.heap.size w w10 by rw [hw10]; exact (HB8.out.trans (hb9.mono HB8.out.size)).alloc (Nat.le_trans HB8.out.size hb9.size) _)
            have HW10 := hid hw10
            clear h9 hpy2 hb9 hw10 HRD2
            go_wp2_with fail
            rw [← HW10.out]
            refine (HWK.out _ HB10.out).mono ?_
            rintro e' w11 ⟨rfl, hb11⟩
            have HL11 := hid ((HB10.out).trans (hb11.mono (HB10.out).size))
            clear hb11
            go_wp2_with fail
            go_ret
            exact ⟨rfl, HL11.out⟩
          · have e2 : decide (cut < (fb.length : Int)) = false := by simp; omega
            clear h0 h1
            go_wp2_with fail
            refine (HWK.out _ HB8.out).mono ?_
            rintro e' w11 ⟨rfl, hb11⟩
            have HL11 := hid ((HB8.out).trans (hb11.mono (HB8.out).size))
            clear hb11
            go_wp2_with fail
            go_ret
            exact ⟨rfl, HL11.out⟩
        · have e1 : decide ((0 : Int) ≤ cut) = false := by simp; omega
          clear h0
          go_wp2_with fail
          refine (HWK.out _ HB8.out).mono ?_
          rintro e' w11 ⟨rfl, hb11⟩
          have HL11 := hid ((HB8.out).trans (hb11.mono (HB8.out).size))
          clear hb11
          go_wp2_with fail
          go_ret
          exact ⟨rfl, HL11.out⟩
      · have hn := bne_t he
        have HFB := hid (show frmB x = [] from if_neg he)
        have HL := hid HC3.out.low
        rw [HFB.out]
        have hc3 := HC3.out.cells
        obtain ⟨c0, c1, c2, c3, c4, c5, c6, c7, c8, c9⟩ := hc3
        have HCK := hid (check25_any x w3 HC3.out.ok (Nat.le_trans HPL.out (by decide)))
        have hee : (chkC x == chkC x) = true := by simp
        clear he
        generalize chkC x = er at *
        go_wp2_with fail
        refine HCK.out.mono ?_
        rintro e' w4 ⟨rfl, hb4⟩
        have HL4 := hid (HL.out.trans (hb4.mono HL.out.size))
        clear hb4 c0 c1 c2 c3 c4 c5 c6 c7 c8 c9
        go_wp2_with fail
        refine (HWK.out w4 HL4.out).mono ?_
        rintro e' w5 ⟨rfl, hb5⟩
        have HL5 := hid (HL4.out.trans (hb5.mono HL4.out.size))
        clear hb5
        go_wp2_with fail
        go_ret
        exact ⟨rfl, HL5.out⟩
  · have HL := hid HC2.out.low
    clear hbl2
    go_wp2_with fail
    refine (HWK.out w2 HL.out).mono ?_
    rintro e' w5 ⟨rfl, hb5⟩
    have HL5 := hid (HL.out.trans (hb5.mono HL.out.size))
    clear hb5
    go_wp2_with fail
    go_ret
    exact ⟨rfl, HL5.out⟩
end Go.Proofs.YtcbkikioapdbbaaDoor
