
/- Stage 17: LayoutApart's walk. -/
import Derived.Test.YtkpopdkkobelaaaLaY
import Derived.Test.YtkpopdkkobelaaaLaR
import Derived.Deep.DeepCutAuto
namespace Go.Proofs.Ytkpopdkkobelaaa
open Go.RowKit Go.Sort Go.Shelf
attribute [local go_sem] Oper.semAt_some

theorem atI_ok {w : World} {x : LO} (hx : LOk w x) (hr : rightB x.ino x.typ x.sg = true) (h3 : x.typ = 3) : LOk w (atL x 138538465099776) ∧ (atL x 138538465099776).base % 4096 = 0 ∧ liesB (atL x 138538465099776).base (lds x.sg) = true := by
  have hsp := hx.span hr
  have hfin : finOf x.typ = 4294967296 := by rw [h3]; rfl
  unfold atL
  dsimp only
  rw [w64_in (by omega) (by omega)]
  refine ⟨⟨hx.segs, hx.ok, hx.gn, hx.nil, by dsimp only; omega, by dsimp only; omega⟩, by omega, ?_⟩
  unfold liesB
  exact decide_eq_true (by omega)
theorem fr_at {y : LO} (h : 0 < (lds y.sg).length) : frL y = y.base + (lds y.sg)[0].addr := by
  unfold frL
  rw [List.head?_eq_getElem?, List.getElem?_eq_getElem h]
  rfl
theorem to_at {y : LO} {q : Nat} (h : q + 1 = (lds y.sg).length) : toL y = y.base + (lds y.sg)[q].addr + (lds y.sg)[q].msz := by
  unfold toL
  rw [List.getLast?_eq_getElem?, show (lds y.sg).length - 1 = q by omega, List.getElem?_eq_getElem (by omega)]
  rfl
theorem obj_at {w : World} {y : LO} (hy : LOk w y) (hr : rightB y.ino y.typ y.sg = true) : ∃ (q : Nat) (s0 sz : SG), q + 1 = (lds y.sg).length ∧ (∀ h, (lds y.sg)[0]'h = s0) ∧ (∀ h, (lds y.sg)[q]'h = sz) ∧ frL y = y.base + s0.addr ∧ toL y = y.base + sz.addr + sz.msz ∧ 0 ≤ sz.addr ∧ 0 < sz.msz ∧ 0 ≤ s0.addr ∧ (lds y.sg).length ≤ 8 := by
  have hL := rightB_loads hy.ok hr
  have hne := (rightB_of hr).2.2.2.1
  have hpos := List.length_pos_iff.2 hne
  obtain ⟨q, hq⟩ : ∃ q, q + 1 = (lds y.sg).length := ⟨(lds y.sg).length - 1, by omega⟩
  have hl8 : (lds y.sg).length ≤ 8 := by have := lds_len y.sg; have := (rightB_of hr).2.1; omega
  have m1 := hL.ok ((lds y.sg)[q]'(by omega)) (List.getElem_mem _)
  have m0 := hL.ok ((lds y.sg)[0]'hpos) (List.getElem_mem _)
  exact ⟨q, (lds y.sg)[0]'hpos, (lds y.sg)[q]'(by omega), hq, fun h => rfl, fun h => rfl, fr_at hpos, to_at hq, m1.2.2.2.2.2.2.2.1, m1.2.1, m0.2.2.2.2.2.2.2.1, hl8⟩
theorem bas_bad {xs : List LO} (h : ¬ (rightL xs = true ∧ hitAll [] ((plAll xs 0 139637976727552).map exOf) = false)) : basOut xs = [] ∧ (basErr xs != 0) = true := by
  unfold basOut basErr
  by_cases h3 : rightL xs = true
  · by_cases h4 : hitAll [] ((plAll xs 0 139637976727552).map exOf) = true
    · simp only [if_pos h3, if_pos h4]; exact ⟨trivial, rfl⟩
    · exact absurd ⟨h3, by simpa using h4⟩ h
  · simp only [if_neg h3]; exact ⟨trivial, rfl⟩
theorem bas_good {xs : List LO} (h3 : rightL xs = true) (h4 : hitAll [] ((plAll xs 0 139637976727552).map exOf) = false) : basOut xs = plAll xs 0 139637976727552 ∧ basErr xs = 0 := by
  unfold basOut basErr
  simp only [if_pos h3, h4]
  exact ⟨rfl, rfl⟩

set_option maxRecDepth 100000 in
set_option maxHeartbeats 16000000 in
theorem layoutApart_walk (a : Option Addr) (c : Nat) (xs : List LO) (x : LO) (w : World) (hX : LOs w a xs.length xs) (hn : a = none → c = 0) (hl : xs.length ≤ 1000000000000) (hx : LOk w x) :
    Calls Try.prog 6 #[.slice a xs.length c, loV x] w fun e w' => e = .returned (.bool true) ∧ Below w.heap.size w w' := by
  have hlen := hx.segs.hlen
  have HX := hid hx
  have HL := hid hX
  have HWK := hid works17_any
  obtain ⟨W0, hW0⟩ : ∃ W0, W0 = w.alloc (.cells (loC x).toArray 33) := ⟨_, rfl⟩
  have HB0 := hid (show Below w.heap.size w W0 by rw [hW0]; exact bal _)
  have HR := hid (show Row W0 w.heap.size 33 (loC x) by rw [hW0]; exact Row.new w 33 (loC x))
  have HR2 := hid (Row.new W0 33 (loC x))
  have HV := hid (vast_any a c xs W0 (hX.below' HB0.out) hl (fun i hi => (hX.ok _ (List.getElem_mem hi)).gn))
  have HVB := hid (vast_any (some ⟨W0.heap.size, 0, none⟩) 1 [x] _ (LOs.one HR2.out ((HX.out.below' HB0.out).below' (bal _))) (by simp) (fun i hi => by
    obtain rfl : i = 0 := by simpa using hi
    exact hx.gn))
  have HB1 := hid (fun o => bthen HB0.out (bal (w := W0) o))
  obtain ⟨ino, base, typ, entry, phoff, ga, gn, gc, sg, na, nn, nc, soname, run, sa, sn, sc, ra, rn, rc⟩ := x
  obtain rfl : sg.length = gn := hlen
  clear hx hX
  unfold loC at HR HR2 HVB hW0
  dsimp only [List.length_cons, List.length_nil, Nat.zero_add] at HR HR2 HVB hW0
  unfold loV
  dsimp only
  obtain ⟨⟨x0, x1, x2, x3, x4, x5⟩, x6, x7, x8, x9, x10⟩ := HR.out.eleven
  have hl1 := HR.out.lt
  go_enter Try.func6, Try.ntmps6
  go_wp2_with fail
  try rw [← hW0]
  clear hW0
  refine (HV.out).mono ?_
  rintro e' w1 ⟨rfl, b, rfl, hv⟩
  have HV1 := hid hv
  clear hv HV
  cases b
  case true =>
    clear HV1 HVB
    go_wp2_with fail
    refine (HWK.out _).mono ?_
    rintro e' wv ⟨rfl, hbv⟩
    have HBV := hid (HB0.out.trans (hbv.mono HB0.out.size))
    clear hbv
    go_wp2_with fail
    go_ret
    exact ⟨rfl, HBV.out⟩
  case false =>
  have HG := hid (HV1.out rfl)
  clear HV1
  go_wp2_with fail
  refine (HVB.out).mono ?_
  rintro e' w1 ⟨rfl, b, rfl, hv⟩
  have HV1 := hid hv
  clear hv HVB
  have HB4 := hid (HB1.out (.cells #[.int .i64 ino, .int .u64 base, .int .u16 typ, .int .u64 entry, .int .u64 phoff, Value.slice ga sg.length gc, .slice na nn nc, .string (ba soname), .string (ba run), .slice sa sn sc, .slice ra rn rc] 33))
  have HR4 := hid (HR.out.alloc (.cells #[.int .i64 ino, .int .u64 base, .int .u16 typ, .int .u64 entry, .int .u64 phoff, Value.slice ga sg.length gc, .slice na nn nc, .string (ba soname), .string (ba run), .slice sa sn sc, .slice ra rn rc] 33))
  have HX4 := hid ((HX.out.below' HB0.out).below' (bal (w := W0) (.cells #[.int .i64 ino, .int .u64 base, .int .u16 typ, .int .u64 entry, .int .u64 phoff, Value.slice ga sg.length gc, .slice na nn nc, .string (ba soname), .string (ba run), .slice sa sn sc, .slice ra rn rc] 33)))
  have HL4 := hid (HL.out.below' HB4.out)
  obtain ⟨W4, hW4⟩ : ∃ W4, W4 = W0.alloc (.cells #[.int .i64 ino, .int .u64 base, .int .u16 typ, .int .u64 entry, .int .u64 phoff, Value.slice ga sg.length gc, .slice na nn nc, .string (ba soname), .string (ba run), .slice sa sn sc, .slice ra rn rc] 33) := ⟨_, rfl⟩
  rw [← hW4] at HB4 HR4 HX4 HL4
  cases b
  case true =>
    clear HV1
    go_wp2_with fail
    try rw [← hW4]
    refine (HWK.out _).mono ?_
    rintro e' wv ⟨rfl, hbv⟩
    have HBV := hid (HB4.out.trans (hbv.mono HB4.out.size))
    clear hbv
    go_wp2_with fail
    go_ret
    exact ⟨rfl, HBV.out⟩
  case false =>
  have HGN := hid ((HV1.out rfl).2 0 (by simp))
  simp only [List.getElem_cons_zero] at HGN
  clear HV1 HR HR2 x0 x1 x2 x3 x4 x5 x6 x7 x8 x9 x10 hl1
  try rw [← hW4]
  clear hW4 HB1 HB0
  have hl20 := HG.out.1
  go_wp2_with fail
  refine (twins_any a c xs W4 HL4.out HG.out.1 HG.out.2).mono ?_
  rintro e' w5 ⟨v5, ys, rfl, hown, htl, hb5⟩
  obtain ⟨a5, c5, rfl, hrk, hn5, _⟩ := own_rk hown (loC_len _) (by decide)
  rw [List.length_map] at hrk
  have HY5 := hid (show LOs w5 a5 ys.length ys from ⟨hrk, fun y hy => (htl.ok y hy).1⟩)
  have hyl : ys.length ≤ 20 := by rw [htl.len]; exact hl20
  have HB5 := hid (bthen HB4.out hb5)
  have HR5 := hid (HR4.out.below hb5 HR4.out.lt)
  have HX5 := hid (HX4.out.below' hb5)
  have HBS := hid (bases_any a5 c5 ys w5 HY5.out (by omega))
  clear hown htl hrk hb5 HR4 HX4 HL4 HL HX HG
  rw [List.length_map]
  go_wp2_with fail
  refine (HBS.out).mono ?_
  rintro e' w6 hbp
  obtain ⟨a6, c6, rfl, hlo, hn6, hb6⟩ := bas_gen HY5.out.ok hbp
  have HB6 := hid (bthen HB5.out hb6)
  have HO6 := hid hlo
  have HR6 := hid (HR5.out.below hb6 HR5.out.lt)
  have HX6 := hid (HX5.out.below' hb6)
  have HN6 := hid hn6
  clear hbp hlo hb6 hn6 HBS HR5 HX5
  by_cases hgood : rightL ys = true ∧ hitAll [] ((plAll ys 0 139637976727552).map exOf) = false
  case neg =>
    obtain ⟨g1, g2⟩ := bas_bad hgood
    rw [g1] at HO6 ⊢
    clear g1 hgood
    generalize basErr ys = E at *
    go_wp2_with fail
    refine (HWK.out _).mono ?_
    rintro e' wv ⟨rfl, hbv⟩
    have HBV := hid (HB6.out.trans (hbv.mono HB6.out.size))
    clear hbv
    go_wp2_with fail
    go_ret
    exact ⟨rfl, HBV.out⟩
  obtain ⟨g1, g2⟩ := bas_good hgood.1 hgood.2
  have HALL := hid (all_pl HY5.out.ok hgood.1 hgood.2)
  have HPOK := hid (fun (i : Nat) (hi : i < (plAll ys 0 139637976727552).length) => (plAll_ok HY5.out.ok (rightL_of hgood.1).2.2 (rightL_of hgood.1).2.1 i hi).2)
  have hol : (plAll ys 0 139637976727552).length ≤ 8 := by rw [plAll_len]; exact (rightL_of hgood.1).2.1
  have hne : ys.length = (plAll ys 0 139637976727552).length := (plAll_len _ _ _).symm
  rw [hne] at HALL
  rw [g1, g2]
  rw [g1] at HO6
  clear g1 g2 hgood hne HY5
  generalize plAll ys 0 139637976727552 = out at *
  have HOW0 := hid (show OwnK (w6.alloc (.cells #[] 33)) w6.heap.size 33 11 (.slice (some ⟨w6.heap.size, 0, none⟩) 0 0) [] from ⟨rfl, .inr ⟨w6.heap.size, 0, #[], rfl, Nat.le_refl _, heap_alloc_new _ _, Nat.le_refl _, by simp [maxLen], rfl, rfl⟩⟩)
  have HON := hid (show Rk (w6.alloc (.cells #[] 33)) 11 a6 out.length (out.map loC) from HO6.out.rows.below' (bal _))
  have HNa := hid (show (([] : List (List Value)).length + out.length) * 168 ≤ 140737488355328 by simp; omega)
  have HNb := hid (show ([] : List (List Value)).length + out.length ≤ maxLen by unfold maxLen; simp; omega)
  have HBA := hid (bal (w := w6) (.cells #[] 33))
  have HZ := hid (show w6.heap.size ≤ (w6.alloc (.cells #[] 33)).heap.size by simp)
  have HLOC := hid (loC_one out)
  have HRW := hid (fun (w9 : World) (hb : Below w6.heap.size w6 w9) => HR6.out.below hb HR6.out.lt)
  have HRC := hid (fun (w9 : World) (hb : Below w6.heap.size w6 w9) => (HRW.out w9 hb).eleven)
  have HRL := hid (fun (w9 : World) (hb : Below w6.heap.size w6 w9) => (HRW.out w9 hb).lt)
  go_wp2_with (at_builtin; go_must (refine wpList_appKg Try.underlying35 infoOb rfl (by decide) rfl _ _ rfl w6.heap.size (.slice (some ⟨w6.heap.size, 0, none⟩) 0 0) [] (out.map loC) rfl a6 out.length c6 rfl HOW0.out HON.out HLOC.out HN6.out HNa.out HNb.out HZ.out ?_; intro v7 w7 hown hgrow hb9; have HO7 := hid hown; have HS7 := hid (HBA.out.trans hb9); have HQC := hid (HRC.out _ HS7.out); obtain ⟨⟨x0, x1, x2, x3, x4, x5⟩, x6, x7, x8, x9, x10⟩ := HQC.out; have hl1 := HRL.out _ HS7.out; clear hown hgrow hb9))
  have HB7 := hid (bthen HB6.out HS7.out)
  refine (twin2_any ⟨ino, base, typ, entry, phoff, ga, sg.length, gc, sg, na, nn, nc, soname, run, sa, sn, sc, ra, rn, rc⟩ w7 (HX6.out.below' HS7.out) (by have := HGN.out; show sg.length ≤ 1000000000; omega)).mono ?_
  rintro e' w8 ⟨a8, c8, rfl, hk8, hg8, hb8⟩
  have HG8 := hid (show OwnG w8 w7.heap.size (.slice a8 sg.length c8) sg from hg8)
  clear hg8
  have HB8 := hid (bthen HB7.out hb8)
  have HS8 := hid (bthen HS7.out hb8)
  have HK8 := hid hk8
  have HO8 := hid (own_below HO7.out hb8)
  have HP8 := hid (place_any a6 c6 out _ w8 (HO6.out.below' HS8.out) hol HPOK.out hk8)
  clear hk8 hb8 x0 x1 x2 x3 x4 x5 x6 x7 x8 x9 x10 hl1 HQC HRC HRL HRW HOW0 HON HNa HNb HBA HZ HLOC HO7
  go_wp2_with fail
  refine (HP8.out).mono ?_
  rintro e' w9 ⟨z, E, rfl, hb9, hz⟩
  have HB9 := hid (bthen HB8.out hb9)
  have HS9 := hid (bthen HS8.out hb9)
  have HZZ := hid hz
  have HS89 := hid hb9
  have HO9 := hid (own_below HO8.out hb9)
  have HK9 := hid (HK8.out.below' hb9)
  clear hz hb9 HP8 HK8 HO8
  unfold loV
  dsimp only
  go_upto_if 50 with fail
  obtain ⟨wT, hwT⟩ : ∃ wT, wT = w9.alloc (.cells (loC z).toArray 33) := ⟨_, rfl⟩
  have HBT := hid (show Below w9.heap.size w9 wT by rw [hwT]; exact bal _)
  have HRT := hid (show Row wT w9.heap.size 33 (loC z) by rw [hwT]; exact Row.new _ _ _)
  unfold loC at hwT
  try dsimp only at hwT
  try rw [← hwT]
  clear hwT
  go_cut [7] (fun s7 wc => ∃ all : List LO, AllOk all out.length ∧ OwnK wc w6.heap.size 33 11 s7 (all.map loC) ∧ (∀ y ∈ all, LOk wc y) ∧ Below w.heap.size w wc ∧ all.length ≤ 9)
  case first =>
    rcases HZZ.out with ⟨rfl, hz1, hz2, hz3, hz4⟩ | hE
    · have hat := atI_ok HK9.out hz2 hz3
      rw [← hz1] at hat hz4
      have HSN := hid (all_snoc HALL.out (Nat.le_refl _) hat.1 (by rw [hz1]; exact hz2) hat.2.1 (by rw [hz1] at hat ⊢; exact hat.2.2) hz4)
      have HLZ := hid hat.1
      have HZ1 := hid hz1
      have HGT := hid (fun o => show OwnG (wT.alloc o) w7.heap.size (.slice a8 sg.length c8) sg from own_below (own_below (own_below HG8.out HS89.out) HBT.out) (bal o))
      clear hz1 hz2 hz3 hz4 hat
      obtain ⟨⟨x0, x1, x2, x3, x4, x5⟩, x6, x7, x8, x9, x10⟩ := (show Row wT w9.heap.size 33 [_, _, _, _, _, _, _, _, _, _, _] from HRT.out).eleven
      have hl1 := HRT.out.lt
      have HOA := hid (fun o => show OwnK (wT.alloc o) w6.heap.size 33 11 v7 (out.map loC) from own_below (own_below HO9.out HBT.out) (bal o))
      have HBB := hid (fun o => show Below w6.heap.size w6 (wT.alloc o) from bthen HS9.out (bthen HBT.out (bal o)))
      have HNR := hid (row_rk (Row.new wT 33 (loC z)) (rfl : (loC z).length = 11))
      have HONE := hid (loC_one [z])
      have HNa := hid (show ((out.map loC).length + 1) * 168 ≤ 140737488355328 by rw [List.length_map]; omega)
      have HNb := hid (show (out.map loC).length + 1 ≤ maxLen by rw [List.length_map]; unfold maxLen; omega)
      go_wp2_with (at_builtin; go_must (refine wpList_appKg Try.underlying35 infoOb rfl (by decide) rfl _ _ rfl w6.heap.size v7 (out.map loC) [loC z] rfl (some ⟨wT.heap.size, 0, none⟩) 1 1 rfl (HOA.out _) HNR.out HONE.out (fun h => by cases h) HNa.out HNb.out (HBB.out _).size ?_; intro v' wZ hown hgrow hb9; have HOZ := hid hown; have HGZ := hid hgrow; have HSZ := hid ((HBB.out _).trans hb9); clear hown hgrow hb9))
      go_meet
      refine ⟨out ++ [z], HSN.out, own_eq HOZ.out (by simp), fun y hy => ?_, HB6.out.trans (HSZ.out.mono HB6.out.size), by simp; omega⟩
      rcases List.mem_append.1 hy with hy | hy
      · exact (HO6.out.ok y hy).below' HSZ.out
      · rw [List.mem_singleton.1 hy]
        have hgz := own_other (HGT.out _) (HOA.out _) HGZ.out (by decide)
        have hsz := ownG_sgs hgz
        have hlz := HLZ.out
        rw [HZ1.out] at hlz ⊢
        exact ⟨hsz, hlz.ok, hlz.gn, hlz.nil, hlz.b0, hlz.b1⟩
    · have dE : (E == 0) = false := by rw [beq_eq_false_iff_ne]; exact hE
      clear hE
      simp only [dE]
      go_wp2_with fail
      go_meet
      exact ⟨out, HALL.out, own_below HO9.out HBT.out, fun y hy => ((HO6.out.ok y hy).below' HS9.out).below' HBT.out, bthen HB9.out HBT.out, by omega⟩
  case rest =>
    obtain ⟨all, hall, hoa, hok, hbw, hla⟩ := hcut
    obtain ⟨a7, c7, rfl, hrk, _⟩ := own_rk hoa (loC_len _) (by decide)
    rw [List.length_map] at hrk ⊢
    have HA := hid hall
    have HLA := hid (show LOs wc a7 all.length all from ⟨hrk, hok⟩)
    have HBW := hid hbw
    clear hall hoa hok hbw hrk HALL HPOK HBT HRT HZZ HS89 HO9 HK9 HB9 HS9 HB8 HS8 HO6 HG8 HB7 HS7 HX6 HR6 HB6 HB5 HB4
    go_wp2_with fail
    go_loopw [9] (fun i wr => ∃ k : Nat, k ≤ all.length ∧ i = .int .i64 k ∧ Below wc.heap.size wc wr) (fun i _ => all.length - (intOf i).toNat)
    case atStart => exact ⟨0, Nat.zero_le _, rfl, Below.refl _ _⟩
    case round =>
      obtain ⟨i, hi, rfl, hb⟩ := hrel
      have HB := hid hb
      clear hb
      by_cases hlt : i < all.length
      · have d1 : decide ((i : Int) < (all.length : Int)) = true := by simp; omega
        have d1n : decide (i < all.length) = true := by simp; omega
        have hLr := HLA.out.below' HB.out
        have HCC := hid (fun (wx : World) (hb : Below wr.heap.size wr wx) => (hLr.below' hb).cells hlt)
        obtain ⟨b, off, ea, ⟨x0, x1, x2, x3, x4, x5⟩, x6, x7, x8, x9, x10⟩ := hLr.cells hlt
        have hbl := World.block_lt_of_cell? wr _ x0
        have hright := HA.out.right i hlt
        have hpage := HA.out.page i hlt
        have hends := HA.out.ends i hlt
        have hone := one_ok HA.out hlt
        have HTWO := hid (fun (k : Nat) (hk : k < i) => two_ok HA.out hlt hk)
        have hly := hLr.ok _ (List.getElem_mem hlt)
        obtain ⟨q, s0, sz, hq, hs0, hsz, e0, e1, t1, t2, t3, hl8⟩ := obj_at hly hright
        have HLD := hid (lloads_any all[i] wr hly (by have := (rightB_of hright).2.1; omega))
        have hb0 := hly.b0
        generalize frL all[i] = FR at *
        generalize toL all[i] = TO at *
        generalize all[i] = y at *
        clear hLr hly
        subst ea
        unfold loV at HLD
        go_wp2_with fail
        refine (HLD.out).mono ?_
        rintro e' w2 ⟨v2, rfl, hg2, hb2⟩
        obtain ⟨a2, c2, rfl, hs2, _⟩ := ownG_open hg2
        have HB2 := hid (bthen HB.out hb2)
        obtain ⟨b9, off9, ea, ⟨x0', x1', x2', x3', x4', x5'⟩, _⟩ := HCC.out w2 hb2
        cases ea
        clear HCC x0 x1 x2 x3 x4 x5 x6 x7 x8 x9 x10 hbl hg2 hb2 HLD
        obtain ⟨o1, p1, ea1, y0, y1, y2, y3, y4, y5⟩ := hs2.cells (k := q) (by omega)
        obtain ⟨o0, p0, ea0, z0, z1, z2, z3, z4, z5⟩ := hs2.cells (k := 0) (by omega)
        rw [hsz] at y0 y1 y2 y3 y4 y5
        rw [hs0] at z0 z1 z2 z3 z4 z5
        subst ea1
        cases ea0
        have u1 : y.base + s0.addr ≤ 140737488355328 := by omega
        have u2 : y.base + sz.addr + sz.msz ≤ 140737488355328 := by omega
        have ndl : (((lds y.sg).length : Int) == 0) = false := by rw [beq_eq_false_iff_ne]; omega
        have hqn : q < (lds y.sg).length := by omega
        have hq0 : 0 < (lds y.sg).length := by omega
        have gq : IntKind.i64.wrap (((lds y.sg).length : Int) - 1) = (q : Int) := by rw [show (((lds y.sg).length : Int) - 1) = (q : Int) by omega]; exact IntWalk.i64_in _ (by omega)
        have gw1 : IntKind.u64.wrap (y.base + s0.addr) = y.base + s0.addr := w64_in (by omega) (by omega)
        have gw2 : IntKind.u64.wrap (y.base + sz.addr) = y.base + sz.addr := w64_in (by omega) (by omega)
        have gw3 : IntKind.u64.wrap (y.base + sz.addr + sz.msz) = y.base + sz.addr + sz.msz := w64_in (by omega) (by omega)
        have HQ := hid (⟨e0, e1, hends, hpage, hone, hb0, hl8⟩ : FR = y.base + s0.addr ∧ TO = y.base + sz.addr + sz.msz ∧ _ ∧ y.base % 4096 = 0 ∧ ¬ (FR < 140737488351232 ∧ 140737488334848 < TO) ∧ 0 ≤ y.base ∧ (lds y.sg).length ≤ 8)
        clear e0 e1 hends hpage hone hq hs2 hright hl8 hs0 hsz
        go_wp2_with fail
        go_quiet (fail)
        obtain ⟨nqa, hnqa⟩ : ∃ n, n = nq := ⟨_, rfl⟩
        rw [← hnqa]
        clear hnqa
        go_wp2_with fail
        go_quiet (fail)
        rw [← HQ.out.1, ← HQ.out.2.1]
        obtain ⟨hends, hpage, hone, hbase, hl8⟩ := HQ.out.2.2
        clear gw1 gw2 gw3 gq u1 u2 ndl hqn hq0 y0 y1 y2 y3 y4 y5 z0 z1 z2 z3 z4 z5 t1 t2 t3
        have r1 : FR < TO := hends.2.2.1
        have r0 : 0 ≤ FR := hends.2.2.2.1
        have r2 : TO ≤ 140737488355328 := hends.2.2.2.2
        have HB2n := hid (bdN HB2.out (nqa + nq))
        go_upto_region 18 with fail
        have hcy := x1'
        go_cut [123] from 100 to 122 (fun s123 wd => s123 = .bool false ∧ wd = w2.drewN (nqa + nq))
        case first =>
          have k0 : decide (TO ≤ FR) = false := decide_eq_false (by omega)
          have k1 : decide (140737488355328 < TO) = false := decide_eq_false (by omega)
          have k4 : (y.base % 4096 != 0) = false := by simpa using hpage
          cases k2 : decide (FR < 140737488351232)
          · clear hends hone
            go_wp2_with fail
            go_meet
            exact ⟨rfl, rfl⟩
          · have k3 : decide (140737488334848 < TO) = false := decide_eq_false (fun h => hone ⟨of_decide_eq_true k2, h⟩)
            clear hends hone
            go_wp2_with fail
            go_meet
            exact ⟨rfl, rfl⟩
        case rest =>
          obtain ⟨rfl, rfl⟩ := hcut
          clear hends hone hpage
          go_wp2_with fail
          go_loopw [13] (fun v wr => ∃ k : Nat, k ≤ i ∧ v = .int .i64 k ∧ Below wc.heap.size wc wr) (fun v _ => i - (intOf v).toNat)
          case atStart => exact ⟨0, Nat.zero_le _, rfl, HB2n.out⟩
          case round =>
            obtain ⟨k, hk, rfl, hb⟩ := hrel
            have HBK := hid hb
            clear hb
            by_cases hki : k < i
            · have d3 : decide ((k : Int) < (i : Int)) = true := by simp; omega
              have d3n : decide (k < i) = true := by simp; omega
              have hko : k < all.length := by omega
              have hLr := HLA.out.below' HBK.out
              have HCC := hid (fun (wx : World) (hb : Below wr.heap.size wr wx) => (hLr.below' hb).cells hko)
              obtain ⟨b8, off8, ea, ⟨x0, x1, x2, x3, x4, x5⟩, x6, x7, x8, x9, x10⟩ := hLr.cells hko
              cases ea
              have hbl := World.block_lt_of_cell? wr _ x0
              have hright := HA.out.right k hko
              have hends := HA.out.ends k hko
              have htwo := HTWO.out k hki
              have hly := hLr.ok _ (List.getElem_mem hko)
              obtain ⟨q, s0, sz, hq, hs0, hsz, e0, e1, t1, t2, t3, hl8⟩ := obj_at hly hright
              have HLD := hid (lloads_any all[k] wr hly (by have := (rightB_of hright).2.1; omega))
              have hb0 := hly.b0
              generalize frL all[k] = FK at *
              generalize toL all[k] = TK at *
              generalize all[k] = z at *
              clear hLr hly
              unfold loV at HLD
              go_wp2_with fail
              refine (HLD.out).mono ?_
              rintro e' w3 ⟨v3, rfl, hg2, hb2⟩
              obtain ⟨a3, c3, rfl, hs2, _⟩ := ownG_open hg2
              have HB3 := hid (bthen HBK.out hb2)
              obtain ⟨b7, off7, ea, ⟨x0', x1', x2', x3', x4', x5'⟩, _⟩ := HCC.out w3 hb2
              cases ea
              clear HCC x0 x1 x2 x3 x4 x5 x6 x7 x8 x9 x10 hbl hg2 hb2 HLD
              obtain ⟨o1, p1, ea1, y0, y1, y2, y3, y4, y5⟩ := hs2.cells (k := q) (by omega)
              obtain ⟨o0, p0, ea0, z0, z1, z2, z3, z4, z5⟩ := hs2.cells (k := 0) (by omega)
              rw [hsz] at y0 y1 y2 y3 y4 y5
              rw [hs0] at z0 z1 z2 z3 z4 z5
              subst ea1
              cases ea0
              have u1 : z.base + s0.addr ≤ 140737488355328 := by omega
              have u2 : z.base + sz.addr + sz.msz ≤ 140737488355328 := by omega
              have hqn : q < (lds z.sg).length := by omega
              have hq0 : 0 < (lds z.sg).length := by omega
              have gq : IntKind.i64.wrap (((lds z.sg).length : Int) - 1) = (q : Int) := by rw [show (((lds z.sg).length : Int) - 1) = (q : Int) by omega]; exact IntWalk.i64_in _ (by omega)
              have gw1 : IntKind.u64.wrap (z.base + s0.addr) = z.base + s0.addr := w64_in (by omega) (by omega)
              have gw2 : IntKind.u64.wrap (z.base + sz.addr) = z.base + sz.addr := w64_in (by omega) (by omega)
              have gw3 : IntKind.u64.wrap (z.base + sz.addr + sz.msz) = z.base + sz.addr + sz.msz := w64_in (by omega) (by omega)
              have HQK := hid (⟨e0, e1, hends, htwo⟩ : FK = z.base + s0.addr ∧ TK = z.base + sz.addr + sz.msz ∧ _ ∧ _)
              clear e0 e1 hends htwo hq hs2 hright hs0 hsz hl8
              go_wp2_with fail
              go_quiet (fail)
              obtain ⟨nqb, hnqb⟩ : ∃ n, n = nq := ⟨_, rfl⟩
              rw [← hnqb]
              clear hnqb
              go_wp2_with fail
              go_quiet (fail)
              rw [← HQK.out.1, ← HQK.out.2.1]
              obtain ⟨hends, htwo⟩ := HQK.out.2.2
              clear gw1 gw2 gw3 gq u1 u2 hqn hq0 y0 y1 y2 y3 y4 y5 z0 z1 z2 z3 z4 z5 t1 t2 t3
              have v1 : FK < TK := hends.2.2.1
              have v0 : 0 ≤ FK := hends.2.2.2.1
              have v2 : TK ≤ 140737488355328 := hends.2.2.2.2
              have HB3n := hid (bdN HB3.out (nqb + nq))
              clear hends
              have HTW2 := hid htwo.2
              go_upto_region 26 with fail
              go_cut [178] from 165 to 177 (fun s178 wd => s178 = .bool false ∧ wd = w3.drewN (nqb + nq))
              case first =>
                cases k2 : decide (FR / 4096 ≤ (TK - 1) / 4096)
                · clear htwo
                  go_wp2_with fail
                  go_meet
                  exact ⟨rfl, rfl⟩
                · have k3 : decide (FK / 4096 ≤ (TO - 1) / 4096) = false := decide_eq_false (fun h => htwo.1 ⟨of_decide_eq_true k2, h⟩)
                  clear htwo
                  go_wp2_with fail
                  go_meet
                  exact ⟨rfl, rfl⟩
              case rest =>
                obtain ⟨rfl, rfl⟩ := hcut
                clear htwo
                by_cases hk0 : k = 0
                · have dk : decide ((0 : Int) < (k : Int)) = false := decide_eq_false (by omega)
                  have dkn : decide (0 < k) = false := decide_eq_false (by omega)
                  clear hk0
                  go_wp2_with fail
                  go_roundw
                  case rel => exact ⟨k + 1, by omega, by go_num, HB3n.out⟩
                  case measure => simp [intOf]; omega
                · have dk : decide ((0 : Int) < (k : Int)) = true := decide_eq_true (by omega)
                  have dkn : decide (0 < k) = true := decide_eq_true (by omega)
                  by_cases hin : i < out.length
                  · have di : decide ((i : Int) < (out.length : Int)) = true := decide_eq_true (by omega)
                    have din : decide (i < out.length) = true := decide_eq_true hin
                    have k5 : decide (FR ≤ TK) = false := decide_eq_false (by have := HTW2.out (by omega) hin; omega)
                    clear hk0 hin
                    go_wp2_with fail
                    go_roundw
                    case rel => exact ⟨k + 1, by omega, by go_num, HB3n.out⟩
                    case measure => simp [intOf]; omega
                  · have di : decide ((i : Int) < (out.length : Int)) = false := decide_eq_false (by omega)
                    have din : decide (i < out.length) = false := decide_eq_false hin
                    clear hk0 hin
                    go_wp2_with fail
                    go_roundw
                    case rel => exact ⟨k + 1, by omega, by go_num, HB3n.out⟩
                    case measure => simp [intOf]; omega
            · have d3 : decide ((k : Int) < (i : Int)) = false := by simp; omega
              have d3n : decide (k < i) = false := by simp; omega
              go_wp2_with fail
              go_roundw
              case rel => exact ⟨i + 1, by omega, by go_num, HBK.out⟩
              case measure => simp [intOf]; omega
      · have d1 : decide ((i : Int) < (all.length : Int)) = false := by simp; omega
        have d1n : decide (i < all.length) = false := by simp; omega
        have HBX := hid (HBW.out.trans (HB.out.mono HBW.out.size))
        go_wp2_with fail
        refine (HWK.out _).mono ?_
        rintro e' wv ⟨rfl, hbv⟩
        have HBV := hid (HBX.out.trans (hbv.mono HBX.out.size))
        clear hbv
        go_wp2_with fail
        go_ret
        exact ⟨rfl, HBV.out⟩
end Go.Proofs.Ytkpopdkkobelaaa
