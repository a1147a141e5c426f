
/- DynamicFinds: its walk. -/
import Derived.Test.YtkkadknijjninaaDoorQd2
import Derived.Test.YtkkadknijjninaaDoorQd3
namespace Go.Proofs.YtkkadknijjninaaDoor
open Go.RowKit Go.Sort Go.Shelf Go.Proofs.YtkkadknijjninaaDoor.Ap
attribute [local go_sem] Oper.semAt_some

set_option maxRecDepth 100000 in
set_option maxHeartbeats 16000000 in
theorem dynamicFinds_walk (ab : Option Addr) (len cap : Nat) (l : BL) (typ entry phoff : Int) (a : Option Addr) (n c : Nat) (sg : List SG) (w : World) (hs : Sizes w) (hB : Byt w ab len l) (hlc : len ≤ cap) (hS : Sgs w a n sg) (hok : ∀ s ∈ sg, SGok s) (na : Option Addr) (nn nc : Nat) (ns : List BL) (hN : Cel w na nn (strs ns)) (hnl : ∀ x ∈ ns, x.length ≤ 140737488351232) (hnc : na = none → nc = 0) :
    Calls Tryd.prog 4 #[.slice ab len cap, .agg #[.int .u16 typ, .int .u64 entry, .int .u64 phoff, .slice a n c], .slice na nn nc] w fun e w' => e = .returned (.bool true) ∧ Below w.heap.size w w' := by
  obtain rfl := hB.hlen
  obtain rfl := hS.hlen
  obtain rfl : ns.length = nn := by have := hN.hlen; simpa [strs] using this
  have HNA := hid (fun (W : World) (hb : Below w.heap.size w W) => hN.below' hb)
  have HNL := hid hnl
  have HNC := hid hnc
  clear hN hnl hnc
  have HSZ := hid (fun (W : World) (hb : Below w.heap.size w W) => hs.below hb)
  have HWK := hid (fun (W : World) (hb : Below w.heap.size w W) => works13_any W (hs.below hb))
  have HBY := hid (fun (W : World) (hb : Below w.heap.size w W) => hB.below' hb)
  obtain ⟨W, hW⟩ : ∃ W, W = w.alloc (.cells #[.int .u16 typ, .int .u64 entry, .int .u64 phoff, .slice a sg.length c] 27) := ⟨_, rfl⟩
  have HW := hid hW
  have HLOW := hid (show Below w.heap.size w W by rw [hW]; exact bal _)
  have HROW := hid (show Row W w.heap.size 27 [.int .u16 typ, .int .u64 entry, .int .u64 phoff, .slice a sg.length c] by rw [hW]; exact Row.new _ _ _)
  have HS := hid (hS.below' HLOW.out)
  have HOK := hid hok
  have HLC := hid hlc
  have HLA := hid (large_any ab l.length cap typ entry phoff a sg.length c W)
  obtain ⟨y0, y1, y2, y3⟩ := HROW.out.four
  clear hW hS hok hs hB hlc
  cases hlg : largeB l.length sg.length
  rotate_left
  · rw [hlg] at HLA
    clear hlg
    go_enter Tryd.func4, Tryd.ntmps4
    go_wp2_with fail
    rw [← HW.out]
    go_wp2_with fail
    refine HLA.out.mono ?_
    rintro e' w1 ⟨rfl, hb1⟩
    have HL1 := hid (HLOW.out.trans (hb1.mono HLOW.out.size))
    clear hb1
    go_wp2_with fail
    refine (HWK.out w1 HL1.out).mono ?_
    rintro e' w5 ⟨rfl, hb5⟩
    have HL5 := hid (HL1.out.trans (hb5.mono HL1.out.size))
    clear hb5
    go_wp2_with fail
    go_ret
    exact ⟨rfl, HL5.out⟩
  rw [hlg] at HLA
  have hlen : l.length ≤ 131072 ∧ sg.length ≤ 256 := by
    unfold largeB at hlg
    simp only [Bool.or_eq_false_iff, decide_eq_false_iff_not] at hlg
    omega
  have HLEN := hid hlen
  have HLL := hid (show l.length ≤ 1000000000 by omega)
  have HSL := hid (show sg.length ≤ 1000000000 by omega)
  clear hlg hlen
  by_cases hnb : 256 < ns.length
  · have d1 : decide ((256 : Int) < (ns.length : Int)) = true := by simp; omega
    have d1n : decide (256 < ns.length) = true := by simp; omega
    clear hnb
    go_enter Tryd.func4, Tryd.ntmps4
    go_wp2_with fail
    rw [← HW.out]
    go_wp2_with fail
    refine HLA.out.mono ?_
    rintro e' w1 ⟨rfl, hb1⟩
    have HL1 := hid (HLOW.out.trans (hb1.mono HLOW.out.size))
    clear hb1
    go_wp2_with fail
    refine (HWK.out w1 HL1.out).mono ?_
    rintro e' w5 ⟨rfl, hb5⟩
    have HL5 := hid (HL1.out.trans (hb5.mono HL1.out.size))
    clear hb5
    go_wp2_with fail
    go_ret
    exact ⟨rfl, HL5.out⟩
  have d1 : decide ((256 : Int) < (ns.length : Int)) = false := by simp; omega
  have d1n : decide (256 < ns.length) = false := by simp; omega
  have HNN := hid (show ns.length ≤ 256 by omega)
  clear hnb
  have HPE := hid (fun e (h : parseO l sg = .inl e) => parseO_err h)
  have HPO := hid (fun o (h : parseO l sg = .inr o) => parseO_ok HLL.out h)
  have HPA := hid (fun (wx : World) (hx : St W wx) => Parse_any ab cap l typ entry phoff a c sg wx (HSZ.out wx (HLOW.out.trans (Below.mono hx HLOW.out.size))) (HBY.out wx (HLOW.out.trans (Below.mono hx HLOW.out.size))) HLC.out HLL.out (HS.out.below' hx) HSL.out HOK.out)
  have HRI := hid (fun (wx : World) (hx : St W wx) => Right_any ab cap l typ entry phoff a c sg wx (HSZ.out wx (HLOW.out.trans (Below.mono hx HLOW.out.size))) (HBY.out wx (HLOW.out.trans (Below.mono hx HLOW.out.size))) HLC.out HLL.out (HS.out.below' hx) HSL.out HOK.out)
  have HLK := hid (fun (wx : World) (hx : St W wx) (x : BL) (hl : x.length ≤ 140737488351232) => Look_any ab cap l typ entry phoff a c sg x wx (HSZ.out wx (HLOW.out.trans (Below.mono hx HLOW.out.size))) (HBY.out wx (HLOW.out.trans (Below.mono hx HLOW.out.size))) HLC.out HLL.out (HS.out.below' hx) HSL.out HOK.out hl)
  generalize parseO l sg = R at HPE HPO HPA HRI HLK
  go_enter Tryd.func4, Tryd.ntmps4
  go_wp2_with fail
  rw [← HW.out]
  go_wp2_with fail
  refine HLA.out.mono ?_
  rintro e' w1 ⟨rfl, hb1⟩
  have HX1 := hid (show St W w1 from hb1)
  have HR1 := hid (HROW.out.below hb1 HROW.out.lt)
  clear y0 y1 y2 y3 hb1
  obtain ⟨y0, y1, y2, y3⟩ := HR1.out.four
  have hrl := HR1.out.lt
  go_wp2_with fail
  refine (HPA.out w1 HX1.out).mono ?_
  intro e2 w2 h2
  obtain ⟨⟨z, er, rfl, hfin⟩, hb2⟩ := (show ParP _ _ _ _ from h2)
  have HX2 := hid (St.step HX1.out hb2)
  have HL2 := hid (HLOW.out.trans (Below.mono HX2.out HLOW.out.size))
  have HR2 := hid (HROW.out.below HX2.out HROW.out.lt)
  clear h2 hb2 y0 y1 y2 y3 hrl d1 d1n
  obtain ⟨y0, y1, y2, y3⟩ := HR2.out.four
  have hrl := HR2.out.lt
  cases R with
  | inl e0 =>
    obtain ⟨rfl, he, rfl⟩ : er = e0 ∧ ¬ er = 0 ∧ z = z70 := by
      rcases hfin with ⟨h, h1, h2⟩ | ⟨o, h, _⟩
      · cases h; exact ⟨rfl, h1, h2⟩
      · cases h
    have e5 : (er != 0) = true := by simpa using he
    have e6 : (er == 0) = false := by simpa using he
    obtain ⟨W3, hW3⟩ : ∃ W3, W3 = w2.alloc (.cells #[.slice none 0 0, .string ⟨#[]⟩, .string ⟨#[]⟩, .slice none 0 0, .slice none 0 0] 41) := ⟨_, rfl⟩
    have HW3 := hid hW3
    have HX3 := hid (show St W W3 by rw [hW3]; exact HX2.out.step (bal _))
    have HD3 := hid (show Row W3 w2.heap.size 41 [.slice none 0 0, .string ⟨#[]⟩, .string ⟨#[]⟩, .slice none 0 0, .slice none 0 0] by rw [hW3]; exact Row.new _ _ _)
    clear hfin he hW3
    unfold z70
    go_wp2_with fail
    rw [← HW3.out]
    refine (HRI.out W3 HX3.out).mono ?_
    rintro e3 w4 ⟨rfl, hb4⟩
    have HX4 := hid (St.step HX3.out hb4)
    have HD4 := hid (HD3.out.below hb4 HD3.out.lt)
    have HL4 := hid (HLOW.out.trans (Below.mono HX4.out HLOW.out.size))
    obtain ⟨q0, q1, q2, q3, q4⟩ := HD4.out.five
    have hql := HD4.out.lt
    rw [show rightR (.inl er) = false from rfl]
    clear hb4 y0 y1 y2 y3 hrl
    go_wp2_with fail
    refine (HWK.out w4 HL4.out).mono ?_
    rintro e' w5 ⟨rfl, hb5⟩
    have HL5 := hid (HL4.out.trans (hb5.mono HL4.out.size))
    clear hb5
    go_wp2_with fail
    go_ret
    exact ⟨rfl, HL5.out⟩
  | inr o =>
    obtain ⟨rfl, hd⟩ := DRd.of hfin rfl
    have HO := hid (HPO.out o rfl)
    obtain ⟨z0, zn0, zk0, zs1, zs2, z3, zn3, zk3, z4, zn4, zk4, z5, zn5, zk5, z6, zn6, zk6⟩ := z
    obtain ⟨n0, s1, s2, n3, n4, c0, h0, k3, k4⟩ := hd
    simp only at n0 s1 s2 n3 n4 c0 h0 k3 k4
    subst n0 s1 s2 n3 n4
    obtain ⟨W3, hW3⟩ : ∃ W3, W3 = w2.alloc (.cells #[.slice z0 o.nd.length zk0, .string (ba o.sn), .string (ba o.rn), .slice z3 o.sy.length zk3, .slice z4 o.rl.length zk4] 41) := ⟨_, rfl⟩
    have HW3 := hid hW3
    have HX3 := hid (show St W W3 by rw [hW3]; exact HX2.out.step (bal _))
    have HD3 := hid (show Row W3 w2.heap.size 41 [.slice z0 o.nd.length zk0, .string (ba o.sn), .string (ba o.rn), .slice z3 o.sy.length zk3, .slice z4 o.rl.length zk4] by rw [hW3]; exact Row.new _ _ _)
    have HK3 := hid (show Rk W3 5 z3 o.sy.length (o.sy.map dsC) by rw [hW3]; exact k3.below' (bal _))
    clear hfin c0 h0 k3 k4 hW3
    go_wp2_with fail
    rw [← HW3.out]
    refine (HRI.out W3 HX3.out).mono ?_
    rintro e3 w4 ⟨rfl, hb4⟩
    obtain ⟨rr, hrr⟩ : ∃ rr, rr = rightR (.inr o) := ⟨_, rfl⟩
    rw [← hrr]
    have HRR := hid hrr
    have HX4 := hid (St.step HX3.out hb4)
    have HD4 := hid (HD3.out.below hb4 HD3.out.lt)
    have HK4 := hid (HK3.out.below' hb4)
    have HQ := hid (fun (ww : World) (h : St w4 ww) => (HD4.out.below h HD4.out.lt).five)
    have HQL := hid (fun (ww : World) (h : St w4 ww) => (HD4.out.below h HD4.out.lt).lt)
    obtain ⟨q0, q1, q2, q3, q4⟩ := HQ.out w4 (St.refl _)
    have hql := HQL.out w4 (St.refl _)
    clear hb4 hrr y0 y1 y2 y3 hrl
    go_wp2_with fail
    clear q0 q1 q2 q3 q4 hql
    go_loopw [10, 11] (fun v i wq => ∃ (k : Nat) (vv : Value), k ≤ o.sy.length ∧ vv = v ∧ i = .int .i64 k ∧ wq.ownsRow w4.heap.size 9 1 vv k (strs ((o.sy.take k).map SY.name)) ∧ St w4 wq) (fun _ i _ => o.sy.length - (intOf i).toNat)
    case atStart => exact ⟨0, _, Nat.zero_le _, rfl, rfl, own_nil_of, St.refl _⟩
    case round =>
      obtain ⟨k, vv, hk, rfl, rfl, hown, hst⟩ := hrel
      rename World => wq
      have HOQ := hid hown
      have HSQ := hid hst
      have hsl := HO.out.sl
      obtain ⟨q0, q1, q2, q3, q4⟩ := HQ.out _ hst
      have hql := HQL.out _ hst
      obtain ⟨a7, c7, rfl⟩ := own_hd2 hown
      clear hown hst
      by_cases hlt : k < o.sy.length
      · have d1 : decide ((k : Int) < (o.sy.length : Int)) = true := by simp; omega
        have d1n : decide (k < o.sy.length) = true := by simp; omega
        obtain ⟨b, off, rfl, hc⟩ := (HK4.out.below' HSQ.out).some_of (by simp; omega)
        have hcc := hc k (by simpa using hlt)
        rw [List.getElem_map] at hcc
        have x0 := hcc 0 (by simp [dsC])
        simp only [dsC, List.getElem_cons_zero, List.getElem_cons_succ, Nat.add_zero] at x0
        have HTK := hid (show strs ((o.sy.take (k + 1)).map SY.name) = strs ((o.sy.take k).map SY.name) ++ [.string (ba o.sy[k].name)] by
          rw [List.take_succ_eq_append_getElem hlt, List.map_append, strs_app]
          rfl)
        generalize o.sy[k] = y at *
        have HCF := hid (fun (ww : World) => show Cel (ww.alloc (.cells #[.string (ba y.name)] 9)) (some ⟨ww.heap.size, 0, none⟩) 1 [.string (ba y.name)] from by
          have h := Row.new ww 9 [.string (ba y.name)]
          exact ⟨rfl, fun i hi => ⟨_, 0, rfl, by simpa using h.cell i hi⟩⟩)
        have HONF := hid (show ∀ u ∈ [Value.string (ba y.name)], u.oneCell' = true from fun u hu => by rw [List.mem_singleton.1 hu]; rfl)
        have HN5 := hid (show (k + 1) * 16 ≤ 140737488355328 by omega)
        have HN6 := hid (show k + 1 ≤ maxLen by unfold maxLen; omega)
        have HZQ := hid (St.step HSQ.out (bal (Obj.cells #[Value.string (ba y.name)] 9)))
        clear hcc hc
        go_wp2_with (at_builtin; go_must (refine wpList_ap1 Tryd.underlying37 infoS rfl rfl _ _ rfl w4.heap.size (.slice a7 k c7) k (strs ((o.sy.take k).map SY.name)) [.string (ba y.name)] rfl (some ⟨wq.heap.size, 0, none⟩) 1 1 rfl (HOQ.out.alloc _) (HCF.out wq) HONF.out (fun h => by cases h) HN5.out HN6.out (Below.size HZQ.out) ?_; intro v6 w6 hown hgrow hb6; have HO6 := hid hown; have HX6 := hid (show St w4 w6 from Below.trans HZQ.out hb6); clear hown hgrow hb6))
        go_roundw
        case rel => exact ⟨k + 1, _, by omega, rfl, by go_num, own_ext HO6.out rfl HTK.out.symm, HX6.out⟩
        case measure => simp [intOf]; omega
      · have d1 : decide ((k : Int) < (o.sy.length : Int)) = false := by simp; omega
        have d1n : decide (k < o.sy.length) = false := by simp; omega
        obtain rfl : k = o.sy.length := by omega
        have HNQ := hid (HNA.out wq (HLOW.out.trans (Below.mono (show Below W.heap.size W wq from Below.trans HX4.out (Below.mono HSQ.out (Below.size HX4.out))) HLOW.out.size)))
        have HN7 := hid (show (o.sy.length + ns.length) * 16 ≤ 140737488355328 by have := HNN.out; omega)
        have HN8 := hid (show o.sy.length + ns.length ≤ maxLen by have := HNN.out; unfold maxLen; omega)
        have HONG := hid (show ∀ u ∈ strs ns, u.oneCell' = true from fun u hu => by
          unfold strs at hu
          obtain ⟨x, _, rfl⟩ := List.mem_map.1 hu
          rfl)
        have HZW := hid (Below.size HSQ.out)
        clear hlt hk
        go_wp2_with (at_builtin; go_must (refine wpList_ap1 Tryd.underlying37 infoS rfl rfl _ _ rfl w4.heap.size (.slice a7 o.sy.length c7) o.sy.length (strs ((o.sy.take o.sy.length).map SY.name)) (strs ns) rfl na ns.length nc rfl HOQ.out HNQ.out HONG.out HNC.out HN7.out HN8.out HZW.out ?_; intro v8 w8 hown hgrow hb8; have HO8 := hid hown; have HX8 := hid (show St w4 w8 from Below.trans HSQ.out hb8); obtain ⟨a8, c8, rfl⟩ := own_hd2 hown; clear hown hgrow hb8))
        obtain ⟨al, hal⟩ : ∃ al, al = o.sy.map SY.name ++ ns := ⟨_, rfl⟩
        have hln : o.sy.length + ns.length = al.length := by rw [hal]; simp
        have HCA := hid (show Cel w8 a8 al.length (strs al) from by
          have h := HO8.out
          rw [List.take_length, ← strs_app, ← hal, hln] at h
          obtain ⟨a1, c1, he, hc, _⟩ := own_cel h
          have i0 := Value.slice.inj he
          rw [i0.1]
          exact hc)
        have HXL := hid (show ∀ x ∈ al, x.length ≤ 140737488351232 from fun x hx => by
          rw [hal] at hx
          rcases List.mem_append.1 hx with hx | hx
          · obtain ⟨s, hs, rfl⟩ := List.mem_map.1 hx
            have := HO.out.nm s hs; omega
          · exact HNL.out x hx)
        have HAN := hid (show al.length ≤ 400 by have := HNN.out; omega)
        rw [hln]
        clear hal hln d1 d1n q0 q1 q2 q3 q4 hql hsl
        go_loopw [12] (fun i wx => ∃ k : Nat, k ≤ al.length ∧ i = .int .i64 k ∧ St w8 wx) (fun i _ => al.length - (intOf i).toNat)
        case atStart => exact ⟨0, Nat.zero_le _, rfl, St.refl _⟩
        case round =>
          obtain ⟨k, hk, rfl, hst⟩ := hrel
          rename World => wx
          have HSX := hid hst
          have HX := hid (St.step HX8.out hst)
          have hal := HAN.out
          clear hst
          by_cases hlt : k < al.length
          · have d1 : decide ((k : Int) < (al.length : Int)) = true := by simp; omega
            have d1n : decide (k < al.length) = true := by simp; omega
            have HCX := hid (HCA.out.below' HSX.out)
            have HXK := hid (HXL.out al[k] (List.getElem_mem hlt))
            have HKL := hid hlt
            obtain ⟨b8, f8, rfl, hc8⟩ := HCX.out.some_of (by simp [strs]; omega)
            have HAC := hid (strs_at hc8 hlt)
            have hk0 : (0 : Int) ≤ (k : Int) := by omega
            have hk1 : (k : Int) < (al.length : Int) := by omega
            generalize al[k] = x at *
            clear hc8
            go_wp2_with fail
            go_loopw [13, 14] (fun bb i wy => ∃ j : Nat, j ≤ o.sy.length ∧ i = .int .i64 j ∧ bb = .bool (thereB o x j) ∧ St wx wy) (fun _ i _ => o.sy.length - (intOf i).toNat)
            case atStart => exact ⟨0, Nat.zero_le _, rfl, by simp [thereB], St.refl _⟩
            case round =>
              obtain ⟨j, hj, rfl, rfl, hsy⟩ := hrel
              rename World => wy
              have HSY := hid hsy
              have HXY := hid (St.step HX.out hsy)
              have hsl := HO.out.sl
              obtain ⟨q0, q1, q2, q3, q4⟩ := HQ.out _ HXY.out
              have hql := HQL.out _ HXY.out
              have hax := St.cell HAC.out hsy
              clear hsy
              by_cases hjl : j < o.sy.length
              · have e1 : decide ((j : Int) < (o.sy.length : Int)) = true := by simp; omega
                have e1n : decide (j < o.sy.length) = true := by simp; omega
                obtain ⟨b, off, rfl, hc⟩ := (HK4.out.below' HXY.out).some_of (by simp; omega)
                have hcc := hc j (by simpa using hjl)
                rw [List.getElem_map] at hcc
                have x0 := hcc 0 (by simp [dsC])
                simp only [dsC, List.getElem_cons_zero, Nat.add_zero] at x0
                have HTS := hid (there_succ (x := x) hjl)
                have hj0 : (0 : Int) ≤ (j : Int) := by omega
                have hj1 : (j : Int) < (o.sy.length : Int) := by omega
                generalize o.sy[j] = y at *
                have hq := ba_beq2 y.name x
                cases hb : thereB o x j
                · cases hd : decide (y.name = x)
                  · rw [hd] at hq
                    have HTF := hid (show thereB o x (j + 1) = false by rw [HTS.out, hb, hd]; rfl)
                    clear hcc hc hd hb
                    go_wp2_with fail
                    go_quiet (fail)
                    go_wp2_with fail
                    go_roundw
                    case rel => exact ⟨j + 1, by omega, by go_num, by rw [HTF.out], bdN HSY.out nq⟩
                    case measure => simp [intOf]; omega
                  · rw [hd] at hq
                    have HTF := hid (show thereB o x (j + 1) = true by rw [HTS.out, hb, hd]; rfl)
                    clear hcc hc hd hb
                    go_wp2_with fail
                    go_quiet (fail)
                    go_wp2_with fail
                    go_roundw
                    case rel => exact ⟨j + 1, by omega, by go_num, by rw [HTF.out], bdN HSY.out nq⟩
                    case measure => simp [intOf]; omega
                · have HTF := hid (show thereB o x (j + 1) = true by rw [HTS.out, hb]; rfl)
                  clear hcc hc hb
                  go_wp2_with fail
                  go_quiet (fail)
                  go_wp2_with fail
                  go_roundw
                  case rel => exact ⟨j + 1, by omega, by go_num, by rw [HTF.out], bdN HSY.out nq⟩
                  case measure => simp [intOf]; omega
              · have e1 : decide ((j : Int) < (o.sy.length : Int)) = false := by simp; omega
                have e1n : decide (j < o.sy.length) = false := by simp; omega
                obtain rfl : j = o.sy.length := by omega
                have HWY := hid (show St W wy from Below.trans HX4.out (Below.mono HXY.out (Below.size HX4.out)))
                have HRY := hid (HROW.out.below HWY.out HROW.out.lt)
                obtain ⟨y0, y1, y2, y3⟩ := HRY.out.four
                have hrl := HRY.out.lt
                obtain ⟨th, hth⟩ : ∃ th, th = thereB o x o.sy.length := ⟨_, rfl⟩
                rw [← hth]
                have HTH := hid hth
                have HLX := hid (fun (wz : World) (hz : St wy wz) => HLK.out wz (show St W wz from St.step HWY.out hz) x HXK.out)
                have Y0 : ∀ ww, St wy ww → ww.cell? ⟨w.heap.size, 0, none⟩ = some (.int .u16 typ) := fun ww h => St.cell y0 h
                have Y1 : ∀ ww, St wy ww → ww.cell? ⟨w.heap.size, 1, none⟩ = some (.int .u64 entry) := fun ww h => St.cell y1 h
                have Y2 : ∀ ww, St wy ww → ww.cell? ⟨w.heap.size, 2, none⟩ = some (.int .u64 phoff) := fun ww h => St.cell y2 h
                have Y3 : ∀ ww, St wy ww → ww.cell? ⟨w.heap.size, 3, none⟩ = some (.slice a sg.length c) := fun ww h => St.cell y3 h
                have Y4 : ∀ ww, St wy ww → ww.cell? ⟨b8, f8 + k, none⟩ = some (.string (ba x)) := fun ww h => St.cell hax h
                have hs0 := St.refl wy
                have HKQ := hid (show k + 1 ≤ al.length from HKL.out)
                clear hth hjl hj
                cases his : (lookO o x).2
                · have HIS := hid his
                  have hn : (lookO o x).1 = 0 := look_no his
                  have HL2 := hid (fun (wz : World) (hz : St wy wz) => show Calls Tryd.prog 10 #[.slice ab l.length cap, .agg #[.int .u16 typ, .int .u64 entry, .int .u64 phoff, .slice a sg.length c], .string (ba x)] wz (fun e w' => e = .returned (.tuple #[.int .i64 0, .bool false]) ∧ Below wz.heap.size wz w') from by
                    have k9 := HLX.out wz hz
                    rw [show (lookR (.inr o) x).1 = 0 from hn, show (lookR (.inr o) x).2 = false from his] at k9
                    exact k9)
                  clear his hn
                  clear y0 y1 y2 y3 hax
                  go_wp2_with fail
                  go_region_held3 (St wy) (first | exact St.drew _ | exact St.step (by assumption) hb7 | assumption) ((go_at_call 10; refine (HL2.out _ (by first | assumption | exact St.drew _)).mono ?_; rintro e7 w7 ⟨rfl, hb7⟩; have HSW := hid (St.step (by first | assumption | exact St.drew _) hb7)))
                  have HS7 := hid (show St wx w7 from St.step HSY.out HSW.out)
                  have HX7 := hid (St.step HX.out HS7.out)
                  clear Y0 Y1 Y2 Y3 Y4 hs0 hrl q0 q1 q2 q3 q4 hql hb7 e1 e1n
                  obtain ⟨q0, q1, q2, q3, q4⟩ := HQ.out _ HX7.out
                  have hql := HQL.out _ HX7.out
                  go_wp2_with fail
                  go_quiet (fail)
                  have HS8 := hid (show St wx (w7.drewN nq) from bdN HS7.out nq)
                  generalize World.drewN w7 nq = w9 at HS8 ⊢
                  have HS9 := hid (St.step HSX.out HS8.out)
                  clear q0 q1 q2 q3 q4 hql
                  have hax := St.cell HAC.out HS8.out
                  cases hrr : rr
                  · have HRF := hid hrr
                    clear hrr
                    go_wp2_with fail
                    go_roundw
                    case rel => (rw [HRF.out]; (repeat apply Exists.intro); refine And.symm ⟨rfl, ?_⟩; exact ⟨k + 1, HKQ.out, by go_num, HS9.out⟩)
                    case measure => simp [intOf]; omega
                  have HRF := hid hrr
                  by_cases hx0 : x = []
                  · have hem := (ba_emp x).trans (decide_eq_true hx0)
                    clear hx0 hrr
                    go_wp2_with fail
                    go_roundw
                    case rel => (rw [HRF.out]; (repeat apply Exists.intro); refine And.symm ⟨rfl, ?_⟩; exact ⟨k + 1, HKQ.out, by go_num, HS9.out⟩)
                    case measure => simp [intOf]; omega
                  have hem := (ba_emp x).trans (decide_eq_false hx0)
                  have hth : th = false := by rw [HTH.out, ← HIS.out]; exact (finds_eq HO.out (by rw [← HRR.out, hrr]) hx0).symm
                  subst hth
                  clear hx0 hrr
                  go_wp2_with fail
                  go_roundw
                  case rel => (rw [HRF.out]; (repeat apply Exists.intro); refine And.symm ⟨rfl, ?_⟩; exact ⟨k + 1, HKQ.out, by go_num, HS9.out⟩)
                  case measure => simp [intOf]; omega
                · have HIS := hid his
                  obtain ⟨i, hi, hn, hnm⟩ := look_yes HO.out his
                  have HL2 := hid (fun (wz : World) (hz : St wy wz) => show Calls Tryd.prog 10 #[.slice ab l.length cap, .agg #[.int .u16 typ, .int .u64 entry, .int .u64 phoff, .slice a sg.length c], .string (ba x)] wz (fun e w' => e = .returned (.tuple #[.int .i64 (i : Int), .bool true]) ∧ Below wz.heap.size wz w') from by
                    have k9 := HLX.out wz hz
                    rw [show (lookR (.inr o) x).1 = (i : Int) from hn, show (lookR (.inr o) x).2 = true from his] at k9
                    exact k9)
                  clear his hn
                  clear y0 y1 y2 y3 hax
                  go_wp2_with fail
                  go_region_held3 (St wy) (first | exact St.drew _ | exact St.step (by assumption) hb7 | assumption) ((go_at_call 10; refine (HL2.out _ (by first | assumption | exact St.drew _)).mono ?_; rintro e7 w7 ⟨rfl, hb7⟩; have HSW := hid (St.step (by first | assumption | exact St.drew _) hb7)))
                  have HS7 := hid (show St wx w7 from St.step HSY.out HSW.out)
                  have HX7 := hid (St.step HX.out HS7.out)
                  clear Y0 Y1 Y2 Y3 Y4 hs0 hrl q0 q1 q2 q3 q4 hql hb7 e1 e1n
                  obtain ⟨q0, q1, q2, q3, q4⟩ := HQ.out _ HX7.out
                  have hql := HQL.out _ HX7.out
                  obtain ⟨b, off, rfl, hc⟩ := (HK4.out.below' HX7.out).some_of (by simp; omega)
                  have hcc := hc i (by simpa using hi)
                  rw [List.getElem_map] at hcc
                  have x0 := hcc 0 (by simp [dsC])
                  simp only [dsC, List.getElem_cons_zero, Nat.add_zero] at x0
                  rw [hnm] at x0
                  have hax := St.cell HAC.out HS7.out
                  have hi0 : (0 : Int) ≤ (i : Int) := by omega
                  have hi1 : (i : Int) < (o.sy.length : Int) := by omega
                  have g1 : decide ((i : Int) < 0) = false := by simp
                  have g2 : decide ((o.sy.length : Int) ≤ (i : Int)) = false := by simp; omega
                  have g2n : decide (o.sy.length ≤ i) = false := by simp; omega
                  have hq := (ba_beq2 x x).trans (decide_eq_true rfl)
                  clear hcc hc hnm hi
                  go_wp2_with fail
                  go_quiet (fail)
                  have HS8 := hid (show St wx (w7.drewN nq) from bdN HS7.out nq)
                  generalize World.drewN w7 nq = w9 at HS8 ⊢
                  have HS9 := hid (St.step HSX.out HS8.out)
                  clear q0 q1 q2 q3 q4 hql x0 hax hq
                  have hax := St.cell HAC.out HS8.out
                  cases hrr : rr
                  · have HRF := hid hrr
                    clear hrr
                    go_wp2_with fail
                    go_roundw
                    case rel => (rw [HRF.out]; (repeat apply Exists.intro); refine And.symm ⟨rfl, ?_⟩; exact ⟨k + 1, HKQ.out, by go_num, HS9.out⟩)
                    case measure => simp [intOf]; omega
                  have HRF := hid hrr
                  by_cases hx0 : x = []
                  · have hem := (ba_emp x).trans (decide_eq_true hx0)
                    clear hx0 hrr
                    go_wp2_with fail
                    go_roundw
                    case rel => (rw [HRF.out]; (repeat apply Exists.intro); refine And.symm ⟨rfl, ?_⟩; exact ⟨k + 1, HKQ.out, by go_num, HS9.out⟩)
                    case measure => simp [intOf]; omega
                  have hem := (ba_emp x).trans (decide_eq_false hx0)
                  have hth : th = true := by rw [HTH.out, ← HIS.out]; exact (finds_eq HO.out (by rw [← HRR.out, hrr]) hx0).symm
                  subst hth
                  clear hx0 hrr
                  go_wp2_with fail
                  go_roundw
                  case rel => (rw [HRF.out]; (repeat apply Exists.intro); refine And.symm ⟨rfl, ?_⟩; exact ⟨k + 1, HKQ.out, by go_num, HS9.out⟩)
                  case measure => simp [intOf]; omega
          · have d1 : decide ((k : Int) < (al.length : Int)) = false := by simp; omega
            have d1n : decide (k < al.length) = false := by simp; omega
            have HLX := hid (HLOW.out.trans (Below.mono (show Below W.heap.size W wx from Below.trans HX4.out (Below.mono HX.out (Below.size HX4.out))) HLOW.out.size))
            clear hlt hk
            go_wp2_with fail
            refine (HWK.out wx HLX.out).mono ?_
            rintro e' w6 ⟨rfl, hb6⟩
            have HL6 := hid (HLX.out.trans (hb6.mono HLX.out.size))
            clear hb6
            go_wp2_with fail
            go_ret
            exact ⟨rfl, HL6.out⟩
end Go.Proofs.YtkkadknijjninaaDoor
