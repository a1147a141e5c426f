
/- DynamicHolds: its walk. -/
import Derived.Test.YtkkadknijjninaaDoorQd1
import Derived.Deep.QuietTactic
import Derived.BigQuiet
namespace Go.Proofs.YtkkadknijjninaaDoor
open Go.RowKit Go.Sort Go.Shelf Go.Proofs.YtkkadknijjninaaDoor.Ap
attribute [local go_sem] Oper.semAt_some

/-- What is read of an object behind Parse. -/
structure DRd (o : OBJ) (z : Z7) (W : World) : Prop where
  n0 : z.n0 = o.nd.length
  s1 : z.s1 = ba o.sn
  s2 : z.s2 = ba o.rn
  n3 : z.n3 = o.sy.length
  n4 : z.n4 = o.rl.length
  c0 : Cel W z.b0 o.nd.length (strs o.nd)
  h0 : z.b0 = none → z.k0 = 0
  k3 : Rk W 5 z.b3 o.sy.length (o.sy.map dsC)
  k4 : Rk W 4 z.b4 o.rl.length (o.rl.map relC)
theorem DRd.of {R : Int ⊕ OBJ} {w W : World} {z : Z7} {er : Int} {o : OBJ} (h : Fin7 R w W z er) (hR : R = .inr o) : er = 0 ∧ DRd o z W := by
  subst hR
  rcases h with ⟨h, _⟩ | ⟨o', ho, he, h1, h2, k0, k3, k4, k5, k6⟩
  · cases h
  · cases ho
    obtain ⟨a0, c0, e0, hc, hn, _⟩ := own_cel k0
    obtain ⟨a4, c4, e4, hk, _⟩ := own_rk k4 (relC_len' _) (by decide)
    rw [List.length_map] at e4 hk
    have i0 := Value.slice.inj e0
    have i4 := Value.slice.inj e4
    refine ⟨he, i0.2.1, h1, h2, (ownD_rk k3).1, i4.2.1, by rw [i0.1]; exact hc, fun h => by rw [i0.2.2]; exact hn (by rw [← i0.1]; exact h), (ownD_rk k3).2, by rw [i4.1]; exact hk⟩
theorem strs_app (a b : List BL) : strs (a ++ b) = strs a ++ strs b := by simp [strs]
set_option maxRecDepth 100000 in
set_option maxHeartbeats 16000000 in
theorem dynamicHolds_walk (ab : Option Addr) (len cap : Nat) (l : BL) (typ entry phoff : Int) (a : Option Addr) (n c : Nat) (sg : List SG) (w : World) (hs : Sizes w) (hB : Byt w ab len l) (hlc : len ≤ cap) (hS : Sgs w a n sg) (hok : ∀ s ∈ sg, SGok s) :
    Calls Tryd.prog 5 #[.slice ab len cap, .agg #[.int .u16 typ, .int .u64 entry, .int .u64 phoff, .slice a n c]] w fun e w' => e = .returned (.bool true) ∧ Below w.heap.size w w' := by
  obtain rfl := hB.hlen
  obtain rfl := hS.hlen
  have HSZ := hid (fun (W : World) (hb : Below w.heap.size w W) => hs.below hb)
  have HWK := hid (fun (W : World) (hb : Below w.heap.size w W) => works13_any W (hs.below hb))
  have HBY := hid (fun (W : World) (hb : Below w.heap.size w W) => hB.below' hb)
  obtain ⟨W, hW⟩ : ∃ W, W = w.alloc (.cells #[.int .u16 typ, .int .u64 entry, .int .u64 phoff, .slice a sg.length c] 27) := ⟨_, rfl⟩
  have HW := hid hW
  have HLOW := hid (show Below w.heap.size w W by rw [hW]; exact bal _)
  have HROW := hid (show Row W w.heap.size 27 [.int .u16 typ, .int .u64 entry, .int .u64 phoff, .slice a sg.length c] by rw [hW]; exact Row.new _ _ _)
  have HS := hid (hS.below' HLOW.out)
  have HOK := hid hok
  have HLC := hid hlc
  have HLA := hid (large_any ab l.length cap typ entry phoff a sg.length c W)
  obtain ⟨y0, y1, y2, y3⟩ := HROW.out.four
  clear hW hS hok hs hB hlc
  cases hlg : largeB l.length sg.length
  rotate_left
  · rw [hlg] at HLA
    clear hlg
    go_enter Tryd.func5, Tryd.ntmps5
    go_wp2_with fail
    rw [← HW.out]
    go_wp2_with fail
    refine HLA.out.mono ?_
    rintro e' w1 ⟨rfl, hb1⟩
    have HL1 := hid (HLOW.out.trans (hb1.mono HLOW.out.size))
    clear hb1
    go_wp2_with fail
    refine (HWK.out w1 HL1.out).mono ?_
    rintro e' w5 ⟨rfl, hb5⟩
    have HL5 := hid (HL1.out.trans (hb5.mono HL1.out.size))
    clear hb5
    go_wp2_with fail
    go_ret
    exact ⟨rfl, HL5.out⟩
  rw [hlg] at HLA
  have hlen : l.length ≤ 131072 ∧ sg.length ≤ 256 := by
    unfold largeB at hlg
    simp only [Bool.or_eq_false_iff, decide_eq_false_iff_not] at hlg
    omega
  have HLEN := hid hlen
  have HLL := hid (show l.length ≤ 1000000000 by omega)
  have HSL := hid (show sg.length ≤ 1000000000 by omega)
  clear hlg hlen
  have HPE := hid (fun e (h : parseO l sg = .inl e) => parseO_err h)
  have HPT := hid (fun o (h : parseO l sg = .inr o) => parseO_told HLL.out HOK.out h)
  have HPO := hid (fun o (h : parseO l sg = .inr o) => parseO_ok HLL.out h)
  have HPA := hid (fun (wx : World) (hx : St W wx) => Parse_any ab cap l typ entry phoff a c sg wx (HSZ.out wx (HLOW.out.trans (Below.mono hx HLOW.out.size))) (HBY.out wx (HLOW.out.trans (Below.mono hx HLOW.out.size))) HLC.out HLL.out (HS.out.below' hx) HSL.out HOK.out)
  generalize parseO l sg = R at HPE HPT HPO HPA
  go_enter Tryd.func5, Tryd.ntmps5
  go_wp2_with fail
  rw [← HW.out]
  go_wp2_with fail
  refine HLA.out.mono ?_
  rintro e' w1 ⟨rfl, hb1⟩
  have HX1 := hid (show St W w1 from hb1)
  have HR1 := hid (HROW.out.below hb1 HROW.out.lt)
  clear y0 y1 y2 y3 hb1
  obtain ⟨y0, y1, y2, y3⟩ := HR1.out.four
  have hrl := HR1.out.lt
  go_wp2_with fail
  refine (HPA.out w1 HX1.out).mono ?_
  intro e2 w2 h2
  obtain ⟨⟨z, er, rfl, hfin⟩, hb2⟩ := (show ParP _ _ _ _ from h2)
  have HX2 := hid (St.step HX1.out hb2)
  have HL2 := hid (HLOW.out.trans (Below.mono HX2.out HLOW.out.size))
  clear h2 hb2 y0 y1 y2 y3 hrl
  cases R with
  | inl e0 =>
    obtain ⟨rfl, he⟩ : er = e0 ∧ ¬ er = 0 := by
      rcases hfin with ⟨h, h1, _⟩ | ⟨o, h, _⟩
      · cases h; exact ⟨rfl, h1⟩
      · cases h
    have HLA2 := hid (fun o => HL2.out.alloc HL2.out.size o)
    clear hfin he
    rcases HPE.out er rfl with rfl | rfl
    · go_wp2_with fail
      refine (HWK.out _ (HLA2.out _)).mono ?_
      rintro e' w5 ⟨rfl, hb5⟩
      have HL5 := hid ((HLA2.out _).trans (hb5.mono (HLA2.out _).size))
      clear hb5
      go_wp2_with fail
      go_ret
      exact ⟨rfl, HL5.out⟩
    · go_wp2_with fail
      refine (HWK.out _ (HLA2.out _)).mono ?_
      rintro e' w5 ⟨rfl, hb5⟩
      have HL5 := hid ((HLA2.out _).trans (hb5.mono (HLA2.out _).size))
      clear hb5
      go_wp2_with fail
      go_ret
      exact ⟨rfl, HL5.out⟩
  | inr o =>
    obtain ⟨rfl, hd⟩ := DRd.of hfin rfl
    have HT := hid (HPT.out o rfl)
    have HO := hid (HPO.out o rfl)
    obtain ⟨z0, zn0, zk0, zs1, zs2, z3, zn3, zk3, z4, zn4, zk4, z5, zn5, zk5, z6, zn6, zk6⟩ := z
    obtain ⟨n0, s1, s2, n3, n4, c0, h0, k3, k4⟩ := hd
    simp only at n0 s1 s2 n3 n4 c0 h0 k3 k4
    subst n0 s1 s2 n3 n4
    obtain ⟨W3, hW3⟩ : ∃ W3, W3 = w2.alloc (.cells #[.slice z0 o.nd.length zk0, .string (ba o.sn), .string (ba o.rn), .slice z3 o.sy.length zk3, .slice z4 o.rl.length zk4] 41) := ⟨_, rfl⟩
    have HW3 := hid hW3
    have HL3 := hid (show Below w.heap.size w W3 by rw [hW3]; exact HL2.out.alloc HL2.out.size _)
    have HD3 := hid (show Row W3 w2.heap.size 41 [.slice z0 o.nd.length zk0, .string (ba o.sn), .string (ba o.rn), .slice z3 o.sy.length zk3, .slice z4 o.rl.length zk4] by rw [hW3]; exact Row.new _ _ _)
    have HC0 := hid (show Cel W3 z0 o.nd.length (strs o.nd) by rw [hW3]; exact c0.below' (bal _))
    have HH0 := hid h0
    have HK3 := hid (show Rk W3 5 z3 o.sy.length (o.sy.map dsC) by rw [hW3]; exact k3.below' (bal _))
    have HK4 := hid (show Rk W3 4 z4 o.rl.length (o.rl.map relC) by rw [hW3]; exact k4.below' (bal _))
    obtain ⟨q0, q1, q2, q3, q4⟩ := HD3.out.five
    have hql := HD3.out.lt
    have d1 : decide ((8 : Int) < (o.nd.length : Int)) = false := by have := HT.out.nl; simp; omega
    have d1n : decide (8 < o.nd.length) = false := by have := HT.out.nl; simp; omega
    have d2 : decide ((64 : Int) < (o.sy.length : Int)) = false := by have := HO.out.sl; simp; omega
    have d2n : decide (64 < o.sy.length) = false := by have := HO.out.sl; simp; omega
    have d3 : decide ((64 : Int) < (o.rl.length : Int)) = false := by have := HT.out.rl; simp; omega
    have d3n : decide (64 < o.rl.length) = false := by have := HT.out.rl; simp; omega
    clear hfin c0 h0 k3 k4 hW3
    go_wp2_with fail
    rw [← HW3.out]
    go_wp2_with fail
    clear d1 d1n d2 d2n d3 d3n q0 q1 q2 q3 q4 hql
    go_loopw [7] (fun i wr => ∃ k : Nat, k ≤ o.rl.length ∧ i = .int .i64 k ∧ St W3 wr) (fun i _ => o.rl.length - (intOf i).toNat)
    case atStart => exact ⟨0, Nat.zero_le _, rfl, St.refl _⟩
    case round =>
      obtain ⟨k, hk, rfl, hst⟩ := hrel
      have HST := hid hst
      have HDR := hid (HD3.out.below hst HD3.out.lt)
      obtain ⟨q0, q1, q2, q3, q4⟩ := HDR.out.five
      have hql := HDR.out.lt
      have hrl := HT.out.rl
      clear hst
      by_cases hlt : k < o.rl.length
      · have d1 : decide ((k : Int) < (o.rl.length : Int)) = true := by simp; omega
        have d1n : decide (k < o.rl.length) = true := by simp; omega
        obtain ⟨b, off, rfl, hc⟩ := (HK4.out.below' HST.out).some_of (by simp; omega)
        have hcc := hc k (by simpa using hlt)
        rw [List.getElem_map] at hcc
        have x2 := hcc 2 (by simp [relC])
        simp only [relC, List.getElem_cons_zero, List.getElem_cons_succ] at x2
        have hr := HT.out.rs o.rl[k] (List.getElem_mem hlt)
        have e1 : decide (o.rl[k].sym < 0) = false := by simp; omega
        have e2 : decide ((o.sy.length : Int) < o.rl[k].sym) = false := by simp; omega
        have hk0 : (0 : Int) ≤ (k : Int) := by omega
        have hk1 : (k : Int) < (o.rl.length : Int) := by omega
        have HLT := hid hlt
        generalize o.rl[k].sym = y at *
        clear hcc hc hr
        go_wp2_with fail
        go_quiet (fail)
        go_wp2_with fail
        go_roundw
        case rel => exact ⟨k + 1, by omega, by go_num, bdN HST.out nq⟩
        case measure => simp [intOf]; omega
      · have d1 : decide ((k : Int) < (o.rl.length : Int)) = false := by simp; omega
        have d1n : decide (k < o.rl.length) = false := by simp; omega
        have HQ := hid (fun (ww : World) (h : St W3 ww) => (HD3.out.below h HD3.out.lt).five)
        have HQL := hid (fun (ww : World) (h : St W3 ww) => (HD3.out.below h HD3.out.lt).lt)
        have HC0R := hid (HC0.out.below' HST.out)
        have HN1 := hid (show (0 + o.nd.length) * 16 ≤ 140737488355328 by have := HT.out.nl; omega)
        have HN2 := hid (show 0 + o.nd.length ≤ maxLen by have := HT.out.nl; unfold maxLen; omega)
        have HN3 := hid (show (o.nd.length + 2) * 16 ≤ 140737488355328 by have := HT.out.nl; omega)
        have HN4 := hid (show o.nd.length + 2 ≤ maxLen by have := HT.out.nl; unfold maxLen; omega)
        have HCE := hid (fun (ww : World) => show Cel (ww.alloc (.cells #[.string (ba o.sn), .string (ba o.rn)] 9)) (some ⟨ww.heap.size, 0, none⟩) 2 [.string (ba o.sn), .string (ba o.rn)] from by
          exact ⟨rfl, fun i hi => ⟨_, 0, rfl, by simp⟩⟩)
        have HONE := hid (show ∀ u ∈ [Value.string (ba o.sn), .string (ba o.rn)], u.oneCell' = true from fun u hu => by
          simp only [List.mem_cons, List.not_mem_nil, or_false] at hu
          rcases hu with rfl | rfl <;> rfl)
        have HONS := hid (show ∀ u ∈ strs o.nd, u.oneCell' = true from fun u hu => by
          unfold strs at hu
          obtain ⟨x, _, rfl⟩ := List.mem_map.1 hu
          rfl)
        have HSW := hid (Below.size HST.out)
        clear hlt hk hrl
        go_wp2_with (first | (at_builtin; refine wpList_ap1 Tryd.underlying37 infoS rfl rfl _ _ rfl W3.heap.size (.slice none 0 0) 0 [] (strs o.nd) rfl z0 o.nd.length zk0 rfl own_nil_of HC0R.out HONS.out HH0.out HN1.out HN2.out HSW.out ?_; intro v9 w9 hown hgrow hb9; have hown := own_ext hown (Nat.zero_add _) (List.nil_append _); have HO9 := hid hown; have HX9 := hid (show St W3 w9 from Below.trans HST.out hb9); obtain ⟨a9, c9, rfl⟩ := own_hd2 hown; clear q0 q1 q2 q3 q4 hql; have hq9 := HQ.out w9 HX9.out; have hql := HQL.out w9 HX9.out; have q0 := hq9.1; have q1 := hq9.2.1; have q2 := hq9.2.2.1; have q3 := hq9.2.2.2.1; have HZ9 := hid (St.step HX9.out (bal (Obj.cells #[Value.string (ba o.sn), Value.string (ba o.rn)] 9))); clear hown hgrow hb9 hq9) | (at_builtin; refine wpList_ap1 Tryd.underlying37 infoS rfl rfl _ _ rfl W3.heap.size (.slice a9 o.nd.length c9) o.nd.length (strs o.nd) [.string (ba o.sn), .string (ba o.rn)] rfl (some ⟨w9.heap.size, 0, none⟩) 2 2 rfl (HO9.out.alloc _) (HCE.out w9) HONE.out (fun h => by cases h) HN3.out HN4.out (Below.size HZ9.out) ?_; intro v8 w8 hown hgrow hb8; have HO8 := hid hown; have HX8 := hid (show St W3 w8 from Below.trans HZ9.out hb8); obtain ⟨a8, c8, rfl⟩ := own_hd2 hown; clear q0 q1 q2 q3 hql hown hgrow hb8))
        clear d1 d1n
        go_loopw [8, 9] (fun v i wq => ∃ (k : Nat) (vv : Value), k ≤ o.sy.length ∧ vv = v ∧ i = .int .i64 k ∧ wq.ownsRow W3.heap.size 9 1 vv (o.nd.length + 2 + k) (strs (o.nd ++ ([o.sn, o.rn] ++ (o.sy.take k).map SY.name))) ∧ St W3 wq) (fun _ i _ => o.sy.length - (intOf i).toNat)
        case atStart => exact ⟨0, _, Nat.zero_le _, rfl, rfl, own_ext HO8.out rfl (by simp [strs]), HX8.out⟩
        case round =>
          obtain ⟨k, vv, hk, rfl, rfl, hown, hst⟩ := hrel
          rename World => wq
          have HOQ := hid hown
          have HSQ := hid hst
          have hsl := HO.out.sl
          have hq9 := HQ.out _ hst
          have hql := HQL.out _ hst
          obtain ⟨q0, q1, q2, q3, q4⟩ := hq9
          obtain ⟨a7, c7, rfl⟩ := own_hd2 hown
          clear hown hst
          by_cases hlt : k < o.sy.length
          · have d1 : decide ((k : Int) < (o.sy.length : Int)) = true := by simp; omega
            have d1n : decide (k < o.sy.length) = true := by simp; omega
            obtain ⟨b, off, rfl, hc⟩ := (HK3.out.below' HSQ.out).some_of (by simp; omega)
            have hcc := hc k (by simpa using hlt)
            rw [List.getElem_map] at hcc
            have x0 := hcc 0 (by simp [dsC])
            have x3 := hcc 3 (by simp [dsC])
            simp only [dsC, List.getElem_cons_zero, List.getElem_cons_succ, Nat.add_zero] at x0 x3
            have hbd := HT.out.bd o.sy[k] (List.getElem_mem hlt)
            have e1 : decide (2 < o.sy[k].bind) = false := by simp; omega
            have HTK := hid (show strs (o.nd ++ ([o.sn, o.rn] ++ (o.sy.take (k + 1)).map SY.name)) = strs (o.nd ++ ([o.sn, o.rn] ++ (o.sy.take k).map SY.name)) ++ [.string (ba o.sy[k].name)] by
              rw [List.take_succ_eq_append_getElem hlt, List.map_append, ← List.append_assoc [o.sn, o.rn], ← List.append_assoc o.nd, strs_app]
              rfl)
            generalize o.sy[k] = y at *
            have HCF := hid (fun (ww : World) => show Cel (ww.alloc (.cells #[.string (ba y.name)] 9)) (some ⟨ww.heap.size, 0, none⟩) 1 [.string (ba y.name)] from by
              have h := Row.new ww 9 [.string (ba y.name)]
              exact ⟨rfl, fun i hi => ⟨_, 0, rfl, by simpa using h.cell i hi⟩⟩)
            have HONF := hid (show ∀ u ∈ [Value.string (ba y.name)], u.oneCell' = true from fun u hu => by rw [List.mem_singleton.1 hu]; rfl)
            have HN5 := hid (show (o.nd.length + 2 + k + 1) * 16 ≤ 140737488355328 by have := HT.out.nl; omega)
            have HN6 := hid (show o.nd.length + 2 + k + 1 ≤ maxLen by have := HT.out.nl; unfold maxLen; omega)
            have HZQ := hid (St.step HSQ.out (bal (Obj.cells #[Value.string (ba y.name)] 9)))
            clear hcc hc hbd
            go_wp2_with (at_builtin; go_must (refine wpList_ap1 Tryd.underlying37 infoS rfl rfl _ _ rfl W3.heap.size (.slice a7 (o.nd.length + 2 + k) c7) (o.nd.length + 2 + k) (strs (o.nd ++ ([o.sn, o.rn] ++ (o.sy.take k).map SY.name))) [.string (ba y.name)] rfl (some ⟨wq.heap.size, 0, none⟩) 1 1 rfl (HOQ.out.alloc _) (HCF.out wq) HONF.out (fun h => by cases h) HN5.out HN6.out (Below.size HZQ.out) ?_; intro v6 w6 hown hgrow hb6; have HO6 := hid hown; have HX6 := hid (show St W3 w6 from Below.trans HZQ.out hb6); clear hown hgrow hb6))
            go_roundw
            case rel => exact ⟨k + 1, _, by omega, rfl, by go_num, own_ext HO6.out (by omega) HTK.out.symm, HX6.out⟩
            case measure => simp [intOf]; omega
          · have d1 : decide ((k : Int) < (o.sy.length : Int)) = false := by simp; omega
            have d1n : decide (k < o.sy.length) = false := by simp; omega
            obtain ⟨al, has⟩ : ∃ al, al = o.nd ++ ([o.sn, o.rn] ++ o.sy.map SY.name) := ⟨_, rfl⟩
            have hal : o.nd.length + 2 + k = al.length := by rw [has]; simp; omega
            have HOA := hid (show wq.ownsRow W3.heap.size 9 1 (.slice a7 al.length c7) al.length (strs al) by
              have := HOQ.out
              rw [List.take_of_length_le (by omega), ← has, hal] at this
              exact this)
            have HTA := hid (show ∀ x ∈ al, Told l x from fun x hx => by
              rw [has] at hx
              rcases List.mem_append.1 hx with hx | hx
              · exact HT.out.nd x hx
              · rcases List.mem_append.1 hx with hx | hx
                · simp only [List.mem_cons, List.not_mem_nil, or_false] at hx
                  rcases hx with rfl | rfl
                  · exact HT.out.sn
                  · exact HT.out.rn
                · obtain ⟨s, hs, rfl⟩ := List.mem_map.1 hx
                  exact HT.out.sy s hs)
            have HAN := hid (show al.length ≤ 100 by have := HT.out.nl; omega)
            rw [hal] at *
            clear has hal
            have HCA := hid (show Cel wq a7 al.length (strs al) from by
              obtain ⟨a1, c1, he, hc, _⟩ := own_cel HOA.out
              cases he
              exact hc)
            have HLQ := hid (HL3.out.trans (Below.mono HSQ.out HL3.out.size))
            have HBQ := hid (HBY.out wq HLQ.out)
            have HCL := hid HLEN.out.1
            clear hlt hk hsl HOQ
            go_wp2_with fail
            clear d1 d1n q0 q1 q2 q3 q4 hql
            go_loopw [10] (fun i w5 => ∃ k : Nat, k ≤ al.length ∧ i = .int .i64 k ∧ wq = w5) (fun i _ => al.length - (intOf i).toNat)
            case atStart => exact ⟨0, Nat.zero_le _, rfl, rfl⟩
            case round =>
              obtain ⟨k, hk, rfl, rfl⟩ := hrel
              have hal := HAN.out
              by_cases hlt : k < al.length
              · have d1 : decide ((k : Int) < (al.length : Int)) = true := by simp; omega
                have d1n : decide (k < al.length) = true := by simp; omega
                obtain ⟨b, off, rfl, hc⟩ := HCA.out.some_of (by simp [strs]; omega)
                have hcx := strs_at hc hlt
                have hqt := HTA.out al[k] (List.getElem_mem hlt)
                generalize al[k] = x at *
                have hq := ba_emp x
                clear hc
                by_cases he : x = []
                · rw [decide_eq_true he] at hq
                  clear he hqt
                  go_wp2_with fail
                  go_roundw
                  case rel => exact ⟨k + 1, by omega, by go_num, trivial⟩
                  case measure => simp [intOf]; omega
                · rw [decide_eq_false he] at hq
                  have hwi : withinB l x = true := hqt.resolve_left he
                  have hxl : x.length ≤ 1000000000 := by
                    by_cases h : x.length ≤ 1000000000
                    · exact h
                    · exfalso
                      unfold withinB at hwi
                      rw [show l.length - x.length = 0 by have := HCL.out; omega] at hwi
                      exact absurd hwi (by simp)
                  have HWI := hid (within_any ab l.length cap l x wq HBQ.out HLC.out (by have := HCL.out; omega) hxl)
                  rw [hwi] at HWI
                  clear he hqt hwi hxl
                  go_wp2_with fail
                  refine HWI.out.mono ?_
                  rintro e' w6 ⟨rfl, rfl⟩
                  go_wp2_with fail
                  go_roundw
                  case rel => exact ⟨k + 1, by omega, by go_num, trivial⟩
                  case measure => simp [intOf]; omega
              · have d1 : decide ((k : Int) < (al.length : Int)) = false := by simp; omega
                have d1n : decide (k < al.length) = false := by simp; omega
                clear hlt hk
                go_wp2_with fail
                refine (HWK.out wq HLQ.out).mono ?_
                rintro e' w6 ⟨rfl, hb6⟩
                have HL6 := hid (HLQ.out.trans (hb6.mono HLQ.out.size))
                clear hb6
                go_wp2_with fail
                go_ret
                exact ⟨rfl, HL6.out⟩
end Go.Proofs.YtkkadknijjninaaDoor
