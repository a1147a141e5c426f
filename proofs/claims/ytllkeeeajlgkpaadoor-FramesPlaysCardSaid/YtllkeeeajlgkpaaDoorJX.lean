
/- The reference's Copy. -/
import Derived.Test.YtllkeeeajlgkpaaDoorJW
import Derived.Test.YtllkeeeajlgkpaaDoorJ9
namespace Go.Proofs.YtllkeeeajlgkpaaDoor
open Go.RowKit Go.Sort

theorem free_cnt {fs : List FR} {m : Nat} (hm : m < fs.length) (h : freeF fs m = true) : fs[m].cnt = 0 := by
  have := free_at fs m hm
  rw [h] at this
  simpa using this.symm
/-- Behind Take frame m is a frame of the call's own. -/
theorem holds_copy {fs : List FR} {Ls : List (List Int)} (hB : Holds fs Ls) {k m : Nat} (hk : k < fs.length) (hkL : k < Ls.length) (hcn : fs[k].cnt ≠ 0) (hm : m < fs.length) (c : Int) : Holds (fs.set m ⟨fs[k].bs, c⟩) (Ls.set m Ls[k]) := by
  intro i hi hi2 hci
  rw [List.length_set] at hi hi2
  simp only [List.getElem_set] at hci ⊢
  by_cases e : m = i
  · rw [if_pos e, if_pos e]
    exact hB k hk hkL hcn
  · rw [if_neg e] at hci
    rw [if_neg e, if_neg e]
    exact hB i hi hi2 hci

set_option maxRecDepth 100000 in
set_option maxHeartbeats 8000000 in
theorem rcopy_any (base p a b : Nat) (fs : List FR) (vs : List Value) (Ls : List (List Int)) (f : Int) (w : World) (H : RS w base p a b (cnts fs) vs Ls) (h0 : ∀ x ∈ fs, 0 ≤ x.cnt) (hB : Holds fs Ls) (hbs : base ≤ w.heap.size) :
    Calls Tryd.prog 28 #[.pointer (some ⟨p, 0, none⟩), .int .i64 f] w fun e w' => e = .returned (.tuple #[.int .i64 (copyV fs f), .int .i64 (copyE fs f)]) ∧ ∃ vs' Ls', RS w' base p a b (cnts (copyS fs f)) vs' Ls' ∧ Holds (copyS fs f) Ls' ∧ Oth w w' ∧ Below base w w' := by
  have HH := hid H
  have HL := hid (rtaken_any p a b (cnts fs) vs f w H.rp)
  rw [rtk_tak h0] at HL
  have HBY := hid hB
  have HTK := hid (rtake_any base p a b fs vs Ls w H)
  by_cases ht : takE fs f = 0
  case neg =>
    have HF := hid (show copyV fs f = 0 ∧ copyE fs f = 1 ∧ copyS fs f = fs by unfold copyV copyE copyS; rw [if_neg ht, if_neg ht, if_neg ht]; exact ⟨rfl, rfl, rfl⟩)
    have q1 : (takE fs f == 0) = false := by simpa using ht
    rw [q1] at HL
    clear q1 ht H hB h0 HTK
    go_enter Tryd.func28, Tryd.ntmps28
    go_wp2_with fail
    refine (HL.out).mono ?_
    rintro e' w' ⟨rfl, rfl⟩
    go_wp2_with fail
    go_ret2
    rw [HF.out.1, HF.out.2.1]
    exact ⟨rfl, vs, Ls, by rw [HF.out.2.2]; exact HH.out, by rw [HF.out.2.2]; exact HBY.out, Oth.refl _, Below.refl _ _⟩
  have q1 : (takE fs f == 0) = true := by simpa using ht
  rw [q1] at HL
  have hcz : cntF fs f ≠ 0 := fun e => by unfold takE at ht; rw [if_pos e] at ht; exact absurd ht (by decide)
  obtain ⟨k, hk, rfl, hc⟩ := cnt_is hcz
  have hcn : fs[k].cnt ≠ 0 := fun e => hcz (by rw [hc]; exact e)
  have HF0 := hid (show copyV fs k = takeV fs ∧ copyE fs k = takeE fs by unfold copyV copyE; rw [if_pos ht, if_pos ht]; exact ⟨rfl, rfl⟩)
  cases hlow : lowR fs with
  | none =>
    have HF := hid (show takeV fs = 0 ∧ takeE fs = 4 ∧ takeS fs = fs ∧ takeVs fs vs = vs ∧ takeLs fs Ls = Ls ∧ copyS fs k = fs by unfold takeV takeE takeS takeVs takeLs copyS; rw [hlow, if_pos ht]; exact ⟨rfl, rfl, rfl, rfl, rfl, rfl⟩)
    rw [HF.out.1, HF.out.2.1, HF.out.2.2.1, HF.out.2.2.2.1, HF.out.2.2.2.2.1] at HTK
    rw [HF.out.1, HF.out.2.1] at HF0
    clear q1 ht hcz hc hcn hlow H hB h0
    go_enter Tryd.func28, Tryd.ntmps28
    go_wp2_with fail
    refine (HL.out).mono ?_
    rintro e' w' ⟨rfl, rfl⟩
    go_wp2_with fail
    refine (HTK.out).mono ?_
    rintro e' w1 ⟨rfl, hrs, he3⟩
    have HR1 := hid hrs
    have HE1 := hid he3
    clear hrs he3
    go_wp2_with fail
    go_ret2
    rw [HF0.out.1, HF0.out.2]
    exact ⟨rfl, vs, Ls, by rw [HF.out.2.2.2.2.2]; exact HR1.out, by rw [HF.out.2.2.2.2.2]; exact HBY.out, Oth.of_e3 HH.out HE1.out (fun q e => by cases e), HE1.out.below (Below.refl base w) HH.out.aB HH.out.bB (fun q e => by cases e) hbs⟩
  | some m =>
    obtain ⟨hm, hfr, _⟩ := low_is hlow
    have hm0 := free_cnt hm hfr
    have hkm : k ≠ m := fun e => hcn (by subst e; exact hm0)
    have hcl : (cnts fs).length = fs.length := List.length_map _
    have hvl : vs.length = fs.length := by rw [H.rp.vl]; exact hcl
    have hkL : k < Ls.length := by have := H.ll; omega
    have hmL : m < Ls.length := by have := H.ll; omega
    have HF := hid (show takeV fs = (m : Int) ∧ takeE fs = 0 ∧ cnts (takeS fs) = (cnts fs).set m 1 ∧ takeVs fs vs = vs.set m (.slice none 0 0) ∧ takeLs fs Ls = Ls.set m [] ∧ copyS fs k = fs.set m ⟨fs[k].bs, 1⟩ by
      unfold takeV takeE takeS takeVs takeLs copyS
      rw [hlow, if_pos ht, Int.toNat_natCast, getF_at _ _ _ hk]
      refine ⟨rfl, rfl, ?_, rfl, rfl, rfl⟩
      show cnts (fs.set m one0) = _
      unfold cnts; rw [List.map_set]; rfl)
    have HCN := hid (show cnts (fs.set m ⟨fs[k].bs, 1⟩) = (cnts fs).set m 1 by unfold cnts; rw [List.map_set])
    have HHC := hid (holds_copy hB hk hkL hcn hm 1)
    rw [HF.out.1, HF.out.2.1, HF.out.2.2.1, HF.out.2.2.2.1, HF.out.2.2.2.2.1] at HTK
    rw [HF.out.1, HF.out.2.1] at HF0
    have hLl := H.lim _ (List.getElem_mem hkL)
    have hn2 : fs.length ≤ 1024 := by have := H.rp.n2; rw [hcl] at this; exact this
    have HVL := hid hvl
    have HCL := hid hcl
    obtain ⟨L, hL⟩ : ∃ L, L = Ls[k] := ⟨_, rfl⟩
    rw [← hL] at HHC hLl
    have HLk := hid (show ∀ h, (Ls.set m [])[k]'h = L from fun h => by rw [List.getElem_set_ne (fun e => hkm e.symm), hL])
    clear q1 ht hcz hc hcn hlow H hB h0 hL hfr hm0 hcl hvl
    go_enter Tryd.func28, Tryd.ntmps28
    go_wp2_with fail
    refine (HL.out).mono ?_
    rintro e' w' ⟨rfl, rfl⟩
    go_wp2_with fail
    refine (HTK.out).mono ?_
    rintro e' w1 ⟨rfl, hrs, he3⟩
    have HR1 := hid hrs
    have HE1 := hid he3
    clear hrs he3 HTK
    have hkv : k < (vs.set m (.slice none 0 0)).length := by rw [List.length_set, HVL.out]; exact hk
    have hmv : m < (vs.set m (.slice none 0 0)).length := by rw [List.length_set, HVL.out]; exact hm
    have hkl : k < (Ls.set m []).length := by rw [List.length_set]; exact hkL
    have hown1 := HR1.out.own k hkv hkl
    rw [HLk.out] at hown1
    obtain ⟨va, vc, ev, hN⟩ := own_nums hown1
    have HN := hid hN
    have HEV := hid ev
    have hl1 : ((cnts fs).set m 1).length = fs.length := by rw [List.length_set]; exact HCL.out
    have ez : (0 : Int) ≤ (k : Int) := by omega
    have eb : (k : Int) < (fs.length : Int) := by omega
    have ez2 : (0 : Int) ≤ (m : Int) := by omega
    have eb2 : (m : Int) < (fs.length : Int) := by omega
    have HL1 := hid hl1
    clear hown1 hN ev hl1
    go_wp2_with fail
    go_loopw [8, 9] (fun v i wr => ∃ j : Nat, j ≤ L.length ∧ i = .int .i64 j ∧ wr.ownsRow w1.heap.size 5 1 v j ((L.take j).map (Value.int .u8)) ∧ Below w1.heap.size w1 wr) (fun _ i _ => L.length - (intOf i).toNat)
    case atStart => exact ⟨0, Nat.zero_le _, rfl, own_nil_of, Below.refl _ _⟩
    case round =>
      obtain ⟨j, hj, rfl, ho, hb⟩ := hrel
      have HO := hid ho
      have HB := hid hb
      have hRr := HR1.out.below hb
      have HRr := hid hRr
      have hbc := hRr.rp.bys.cell k hkv
      rw [HEV.out] at hbc
      obtain ⟨p0, p1⟩ := hRr.rp.cells
      rw [HL1.out] at p0 p1
      have hlp := hRr.rp.pool.lt
      have hlb := hRr.rp.bys.lt
      clear ho hb hRr
      by_cases hjn : j < L.length
      · have d2 : decide ((j : Int) < (L.length : Int)) = true := by simp; omega
        have d2n : decide (j < L.length) = true := by simp; omega
        obtain ⟨bb, bo, hbe, hbcell⟩ := (HN.out.below' HB.out).cell j hjn
        subst hbe
        have hbl := World.block_lt_of_cell? wr _ hbcell
        have HTKj := hid (show (L.take (j + 1)).map (Value.int .u8) = (L.take j).map (Value.int .u8) ++ [.int .u8 L[j]] by rw [List.take_succ_eq_append_getElem hjn, List.map_append]; rfl)
        generalize L[j] = lj at *
        have HOW := hid (show (wr.alloc (.cells #[.int .u8 lj] 5)).ownsRow w1.heap.size 5 1 u8 j ((L.take j).map (Value.int .u8)) from HO.out.alloc _)
        have HNR := hid (fun (j' : Nat) (u : Value) (hj' : [Value.int .u8 lj][j']? = some u) => show (wr.alloc (.cells #[.int .u8 lj] 5)).cell? ((Addr.mk wr.heap.size 0 none).add j') = some u from news_one wr (.int .u8 lj) 5 j' u hj')
        have HBB := hid (show Below w1.heap.size w1 (wr.alloc (.cells #[.int .u8 lj] 5)) from HB.out.alloc HB.out.size _)
        have HBZ := hid HBB.out.size
        have HLOW := hid (fun k hk => own_low HOW.out (Nat.le_refl _) k hk)
        have HONE := hid (ones_one .u8 lj)
        obtain ⟨i0, hi, hz0, hz1, hz2⟩ := info_parts infoU8
        have HM1 := hid (show j + 1 ≤ maxLen by unfold maxLen; omega)
        have HM2 := hid (show (j + 1) * 1 ≤ 140737488355328 by omega)
        go_wp2_with (at_builtin; go_must (refine wpList_append_own _ rfl _ _ 30 rfl w1.heap.size 5 i0 (.int .u8 0) 1 1 Tryd.underlying30 hi hz0 hz1 hz2 rfl (by decide) u8 j ((L.take j).map (Value.int .u8)) rfl HOW.out ⟨wr.heap.size, 0, none⟩ 1 1 [.int .u8 lj] rfl rfl HNR.out HONE.out HM1.out HM2.out HBZ.out ?_; intro v2 w2 hown' hgrow _; have HO2 := hid hown'; have HB2 := hid (HBB.out.grown hgrow HBZ.out HLOW.out); clear hown' hgrow))
        go_roundw
        case rel => exact ⟨j + 1, by omega, by go_num, by rw [HTKj.out]; exact HO2.out, HB2.out⟩
        case measure => simp [intOf]; omega
      · have d2 : decide ((j : Int) < (L.length : Int)) = false := by simp; omega
        have d2n : decide (j < L.length) = false := by simp; omega
        obtain rfl : j = L.length := by omega
        have hmc := HRr.out.rp.bys.cell m hmv
        have hmf := HRr.out.rp.bys.frozen m
        rw [List.take_length] at HO
        obtain ⟨b8, c8, hb8, _⟩ := own_nums HO.out
        subst hb8
        have hbase1 : base ≤ w1.heap.size := Nat.le_trans hbs HE1.out.size
        have HSB := hid (HRr.out.setBy m hmv (.slice b8 L.length c8) L (own_from HO.out hbase1) hLl (fun i hi hne q hq e => by
          have hi1 : i < (vs.set m (.slice none 0 0)).length := hi
          have h9 := ((HR1.out.own i hi1 (by rw [List.length_set]; rw [List.length_set] at hi1; have := HH.out.ll; omega)).lt _ e).2
          have h8 := own_low HO.out (Nat.le_refl _) q hq
          omega))
        rw [List.set_set, List.set_set] at HSB
        have HEE := hid (show E3 wr (wr.setCell ⟨b, m, none⟩ (.slice b8 L.length c8)) a b none from E3.of_ex (Ex.set wr b m _ (.inr rfl)))
        have HOT := hid (show Oth w (wr.setCell ⟨b, m, none⟩ (.slice b8 L.length c8)) from ((Oth.of_e3 HH.out HE1.out (fun q e => by cases e)).trans (fun g T ds hr _ _ _ => hr.below HB.out hr.lt)).trans (Oth.of_e3 HRr.out HEE.out (fun q e => by cases e)))
        have HBL := hid (show Below base w (wr.setCell ⟨b, m, none⟩ (.slice b8 L.length c8)) from ((HE1.out.below (Below.refl base w) HH.out.aB HH.out.bB (fun q e => by cases e) hbs).trans (HB.out.mono hbase1)).trans (HEE.out.below (Below.refl base wr) HH.out.aB HH.out.bB (fun q e => by cases e) (Nat.le_trans hbase1 HB.out.size)))
        clear hjn d2n
        go_wp2_with fail
        go_ret2
        rw [HF0.out.1, HF0.out.2]
        exact ⟨rfl, _, _, by rw [HF.out.2.2.2.2.2, HCN.out]; exact HSB.out, by rw [HF.out.2.2.2.2.2]; exact HHC.out, HOT.out, HBL.out⟩
end Go.Proofs.YtllkeeeajlgkpaaDoor
