
/- ElfTells: its walk. -/
import Derived.Test.YtaaohcpiideaaaaDoorNaM
import Derived.Deep.RegionHeld3
namespace Go.Proofs.YtaaohcpiideaaaaDoor
open Go.RowKit Go.Sort Go.Shelf
attribute [local go_sem] Oper.semAt_some

def hdC (typ entry phoff : Int) (v : Value) : List Value := [.int .u16 typ, .int .u64 entry, .int .u64 phoff, v]
/-- What the last loop keeps: l's own block, and all that was there before it. -/
structure TL (W6 : World) (a : Option Addr) (n : Nat) (W : World) : Prop where
  own : n = 0 ∨ ∃ G cs, a = some ⟨G, 0, none⟩ ∧ Row W G 41 cs ∧ n * 6 ≤ cs.length ∧ W6.heap.size ≤ G
  low : Below W6.heap.size W6 W
theorem TL.below {W6 : World} {a : Option Addr} {n : Nat} {W W' : World} (h : TL W6 a n W) (hb : Below W.heap.size W W') : TL W6 a n W' := by
  refine ⟨?_, h.low.trans (hb.mono h.low.size)⟩
  rcases h.own with h0 | ⟨G, cs, e, hr, hn, hg⟩
  · exact .inl h0
  · exact .inr ⟨G, cs, e, hr.below hb hr.lt, hn, hg⟩
theorem tl_of {W6 W : World} {a : Option Addr} {c : Nat} {l : List SG} (h0 : OwnG W W6.heap.size (.slice a l.length c) l) (hb : Below W6.heap.size W6 W) : TL W6 a l.length W := by
  have h : W.ownsRow W6.heap.size 41 6 (.slice a l.length c) l.length (l.map sgC).flatten := by
    have := h0
    unfold OwnG OwnK at this
    rw [List.length_map] at this
    exact this
  refine ⟨?_, hb⟩
  rcases h.2 with ⟨h1, h0⟩ | ⟨g, cap, cur, hv, hg, hc, hnc, hm, hs, ht⟩
  · exact .inl h0
  · cases hv
    exact .inr ⟨g, cur.toList, rfl, ⟨by rw [hc]⟩, by simp only [Array.length_toList, hs]; exact Nat.mul_le_mul_right _ hnc, hg⟩
set_option maxRecDepth 100000 in
set_option maxHeartbeats 8000000 in
theorem elfTells_walk (typ entry phoff : Int) (a : Option Addr) (n c : Nat) (sg : List SG) (ab : Option Addr) (len cap : Nat) (l : BL) (w : World) (hs : Sizes w) (hB : Byt w ab len l) (hlc : len ≤ cap) (hcm : cap ≤ maxLen) (hS : Sgs w a n sg) (hok : ∀ s ∈ sg, SGok s) (hc : a = none → c = 0) (hp0 : 0 ≤ phoff) (hp1 : phoff ≤ 18446744073709551615) :
    Calls Tryd.prog 3 #[.agg #[.int .u16 typ, .int .u64 entry, .int .u64 phoff, .slice a n c], .slice ab len cap] w fun e w' => e = .returned (.bool true) ∧ Below w.heap.size w w' := by
  obtain rfl := hB.hlen
  obtain rfl := hS.hlen
  have HWK := hid (fun (W : World) (hb : Below w.heap.size w W) => works12_any W (hs.below hb))
  have HBY := hid (fun (W : World) (hb : Below w.heap.size w W) => hB.below' hb)
  obtain ⟨W, hW⟩ : ∃ W, W = w.alloc (.cells #[.int .u16 typ, .int .u64 entry, .int .u64 phoff, .slice a sg.length c] 26) := ⟨_, rfl⟩
  have HW := hid hW
  have HLOW := hid (show Below w.heap.size w W by rw [hW]; exact bal _)
  have HROW := hid (show Row W w.heap.size 26 (hdC typ entry phoff (.slice a sg.length c)) by rw [hW]; exact Row.new _ _ _)
  have HS := hid (hS.below' HLOW.out)
  have HOK := hid hok
  have HC := hid hc
  have HP := hid (show 0 ≤ phoff ∧ phoff ≤ 18446744073709551615 from ⟨hp0, hp1⟩)
  have HLC := hid hlc
  clear hW hS hok hc hp0 hp1 hs hB hlc
  by_cases hlg : 262144 < l.length
  · have d1 : decide ((262144 : Int) < (l.length : Int)) = true := by simp; omega
    have d1n : decide (262144 < l.length) = true := by simp; omega
    clear hlg
    go_enter Tryd.func3, Tryd.ntmps3
    go_wp2_with fail
    rw [← HW.out]
    refine (HWK.out W HLOW.out).mono ?_
    rintro e' w5 ⟨rfl, hb5⟩
    have HL5 := hid (HLOW.out.trans (hb5.mono HLOW.out.size))
    clear hb5
    go_wp2_with fail
    go_ret
    exact ⟨rfl, HL5.out⟩
  have d1 : decide ((262144 : Int) < (l.length : Int)) = false := by simp; omega
  have d1n : decide (262144 < l.length) = false := by simp; omega
  obtain ⟨y0, y1, y2, y3⟩ := HROW.out.four
  have hwlt := HROW.out.lt
  by_cases hsg : 4096 < sg.length
  · have d2 : decide ((4096 : Int) < (sg.length : Int)) = true := by simp; omega
    have d2n : decide (4096 < sg.length) = true := by simp; omega
    clear hlg hsg
    go_enter Tryd.func3, Tryd.ntmps3
    go_wp2_with fail
    rw [← HW.out]
    go_wp2_with fail
    refine (HWK.out W HLOW.out).mono ?_
    rintro e' w5 ⟨rfl, hb5⟩
    have HL5 := hid (HLOW.out.trans (hb5.mono HLOW.out.size))
    clear hb5
    go_wp2_with fail
    go_ret
    exact ⟨rfl, HL5.out⟩
  have d2 : decide ((4096 : Int) < (sg.length : Int)) = false := by simp; omega
  have d2n : decide (4096 < sg.length) = false := by simp; omega
  have HLL := hid (show l.length ≤ 262144 by omega)
  have HSL := hid (show sg.length ≤ 4096 by omega)
  have HCP := hid (rcopy12_any typ entry phoff a c sg W HS.out (by omega) HC.out)
  clear hlg hsg
  go_enter Tryd.func3, Tryd.ntmps3
  go_wp2_with fail
  rw [← HW.out]
  go_wp2_with fail
  refine HCP.out.mono ?_
  rintro e' w3 ⟨a3, c3, rfl, hs3, hb3⟩
  obtain ⟨W4, hW4⟩ : ∃ W4, W4 = w3.alloc (.cells #[.int .u16 typ, .int .u64 entry, .int .u64 phoff, .slice a3 sg.length c3] 26) := ⟨_, rfl⟩
  have HW4 := hid hW4
  have HL4 := hid (show Below W.heap.size W W4 by rw [hW4]; exact hb3.alloc hb3.size _)
  have HR4 := hid (show Row W4 w3.heap.size 26 (hdC typ entry phoff (.slice a3 sg.length c3)) by rw [hW4]; exact Row.new _ _ _)
  have HS4 := hid (show Sgs W4 a3 sg.length sg by rw [hW4]; exact hs3.below' (bal _))
  have HLW4 := hid (HLOW.out.trans (HL4.out.mono HLOW.out.size))
  have HRM := hid (Ap.roomy_any ab l.length cap l W4 (HBY.out _ HLW4.out) (by have := HLL.out; omega))
  clear hW4 hs3 hb3 y0 y1 y2 y3 hwlt
  go_wp2_with fail
  rw [← HW4.out]
  go_wp2_with fail
  refine HRM.out.mono ?_
  rintro e' w6 ⟨rfl, hrm, hb6⟩
  have HRM6 := hid hrm
  have HL6 := hid (HL4.out.trans (hb6.mono HL4.out.size))
  have HLW6 := hid (HLOW.out.trans (HL6.out.mono HLOW.out.size))
  have HRA := hid (HROW.out.below HL6.out HROW.out.lt)
  have HRB := hid (HR4.out.below hb6 HR4.out.lt)
  have HSA := hid (HS.out.below' HL6.out)
  have HSB := hid (HS4.out.below' hb6)
  have HIN := hid (show Byt w6 (some ⟨W4.heap.size, 0, none⟩) l.length l from by have := hrm; unfold Ap.room at this; exact this.byt rfl)
  clear hrm hb6
  obtain ⟨y0, y1, y2, y3⟩ := HRB.out.four
  have HNB := hid (show sg.length ≤ 1000000000 by have := HSL.out; omega)
  go_wp2_with fail
  refine (loads12_any typ entry phoff a3 c3 sg w6 HSB.out HNB.out).mono ?_
  rintro e' w7 ⟨v, rfl, ho, hb7⟩
  obtain ⟨a7, c7, rfl, hs7, _⟩ := ownG_open ho
  have HT7 := hid (tl_of ho hb7)
  have HQ7 := hid hs7
  have hb7' : Below w6.heap.size w6 w7 := hb7
  have HB7 := hid hb7'
  clear ho hs7 hb7 hb7' y0 y1 y2 y3
  have HBB := hid (fun WX (hb : Below w6.heap.size w6 WX) => HRB.out.below hb HRB.out.lt)
  have HBA := hid (fun WX (hb : Below w6.heap.size w6 WX) => HRA.out.below hb HRA.out.lt)
  obtain ⟨y0, y1, y2, y3⟩ := (HBB.out _ HB7.out).four
  go_wp2_with fail
  refine (spanG_any typ entry phoff a3 c3 sg w7 (HSB.out.below' HB7.out) HNB.out HOK.out).mono ?_
  rintro e' w8 ⟨rfl, hb8⟩
  have HB8 := hid (HB7.out.trans (hb8.mono HB7.out.size))
  have HT8 := hid (HT7.out.below hb8)
  have HQ8 := hid (HQ7.out.below' hb8)
  clear hb8 y0 y1 y2 y3
  obtain ⟨x0, x1, x2, x3⟩ := (HBA.out _ HB8.out).four
  go_wp2_with fail
  refine (rspan12_any typ entry phoff a c sg w8 (HSA.out.below' HB8.out) HNB.out HOK.out).mono ?_
  rintro e' w9 ⟨rfl, hb9⟩
  have HB9 := hid (HB8.out.trans (hb9.mono HB8.out.size))
  have HT9 := hid (HT8.out.below hb9)
  have HQ9 := hid (HQ8.out.below' hb9)
  clear hb9 x0 x1 x2 x3
  obtain ⟨y0, y1, y2, y3⟩ := (HBB.out _ HB9.out).four
  generalize (spanG (lds sg)).1 = s1 at *
  generalize (spanG (lds sg)).2 = s2 at *
  go_wp2_with fail
  refine (interp12_any typ entry phoff (some ⟨W4.heap.size, 0, none⟩) (l.length + 7) l a3 c3 sg w9 (HIN.out.below' HB9.out) (by omega) (by have := HLL.out; omega) (HSB.out.below' HB9.out) HNB.out HOK.out).mono ?_
  rintro e' wA ⟨rfl, hbA⟩
  have HBA' := hid (HB9.out.trans (hbA.mono HB9.out.size))
  have HTA := hid (HT9.out.below hbA)
  have HQA := hid (HQ9.out.below' hbA)
  clear hbA y0 y1 y2 y3
  obtain ⟨x0, x1, x2, x3⟩ := (HBA.out _ HBA'.out).four
  unfold intE
  go_wp2_with fail
  refine (rinterp12_any typ entry phoff ab cap l a c sg wA (HBY.out _ (HLW6.out.trans (HBA'.out.mono HLW6.out.size))) HLC.out (by have := HLL.out; omega) (HSA.out.below' HBA'.out) HNB.out HOK.out).mono ?_
  rintro e' wB ⟨rfl, hbB⟩
  have HBB' := hid (HBA'.out.trans (hbB.mono HBA'.out.size))
  have HTB := hid (HTA.out.below hbB)
  have HQB := hid (HQA.out.below' hbB)
  clear hbB x0 x1 x2 x3
  unfold intE
  generalize (intR l sg).1 = tx at *
  generalize (intR l sg).2.1 = bx at *
  generalize (intR l sg).2.2 = ex at *
  have c1 : (s1 != s1) = false := by simp
  have c2 : (s2 != s2) = false := by simp
  have c3' : (ex != ex) = false := by simp
  have c4 : (bx != bx) = false := by simp
  have q0 : ∀ ww, St wB ww → ww.cell? ⟨w.heap.size, 0, none⟩ = some (.int .u16 typ) := fun ww h => keepC h ((HBA.out _ HBB'.out).cell' 0)
  have q1 : ∀ ww, St wB ww → ww.cell? ⟨w.heap.size, 1, none⟩ = some (.int .u64 entry) := fun ww h => keepC h ((HBA.out _ HBB'.out).cell' 1)
  have q2 : ∀ ww, St wB ww → ww.cell? ⟨w.heap.size, 2, none⟩ = some (.int .u64 phoff) := fun ww h => keepC h ((HBA.out _ HBB'.out).cell' 2)
  have q3 : ∀ ww, St wB ww → ww.cell? ⟨w.heap.size, 3, none⟩ = some (.slice a sg.length c) := fun ww h => keepC h ((HBA.out _ HBB'.out).cell' 3)
  have r0 : ∀ ww, St wB ww → ww.cell? ⟨w3.heap.size, 0, none⟩ = some (.int .u16 typ) := fun ww h => keepC h ((HBB.out _ HBB'.out).cell' 0)
  have r1 : ∀ ww, St wB ww → ww.cell? ⟨w3.heap.size, 1, none⟩ = some (.int .u64 entry) := fun ww h => keepC h ((HBB.out _ HBB'.out).cell' 1)
  have r2 : ∀ ww, St wB ww → ww.cell? ⟨w3.heap.size, 2, none⟩ = some (.int .u64 phoff) := fun ww h => keepC h ((HBB.out _ HBB'.out).cell' 2)
  have r3 : ∀ ww, St wB ww → ww.cell? ⟨w3.heap.size, 3, none⟩ = some (.slice a3 sg.length c3) := fun ww h => keepC h ((HBB.out _ HBB'.out).cell' 3)
  have HRL := hid (fun (ww : World) (h : St wB ww) => rloads12_any typ entry phoff a c sg ww ((HSA.out.below' HBB'.out).below' h) HNB.out)
  have HEQ := hid (fun (ww : World) (b : Option Addr) (d : Nat) (h : St wB ww) (hb : Sgs ww b (lds sg).length (lds sg)) => eqSegs12_any a7 b c7 d (lds sg) ww (HQB.out.below' h) hb (Nat.le_trans (lds_len sg) HNB.out))
  have HPH := hid (fun (ww : World) (h : St wB ww) => phdr_any typ entry phoff a3 c3 sg ww ((HSB.out.below' HBB'.out).below' h) HNB.out HOK.out HP.out.1 HP.out.2)
  have HPR := hid (fun (ww : World) (h : St wB ww) => rphdr12_any typ entry phoff a c sg ww ((HSA.out.below' HBB'.out).below' h) HNB.out HOK.out HP.out.1 HP.out.2)
  generalize phdrG phoff sg = pg at *
  have c5 : (pg != pg) = false := by simp
  go_wp2_with fail
  go_region_held3 (St wB) (first | exact St.drew _ | exact St.step (by assumption) hbx | exact HS11.out | exact HS12.out | exact HS13.out | exact HS14.out | assumption) (first | (go_at_call 16; with_reducible refine ((HRL.out _ (by assumption)).mono ?_); rintro e' wx ⟨v', rfl, hox, hbx⟩; obtain ⟨ax, cx, rfl, hsx, _⟩ := ownG_open hox; have HSX := hid hsx; have HS11 : Hid (St wB wx) := hid (St.step (by assumption) hbx); clear hox hsx) | (go_at_call 15; with_reducible refine ((HEQ.out _ _ _ HS11.out HSX.out).mono ?_); rintro e' wy ⟨rfl, hby⟩; have HS12 : Hid (St wB wy) := hid (St.step HS11.out hby)) | (go_at_call 17; with_reducible refine ((HPH.out _ (by assumption)).mono ?_); rintro e' wz ⟨rfl, hbz⟩; have HS13 : Hid (St wB wz) := hid (St.step (by assumption) hbz)) | (go_at_call 18; with_reducible refine ((HPR.out _ (by assumption)).mono ?_); rintro e' wu ⟨rfl, hbu⟩; have HS14 : Hid (St wB wu) := hid (St.step (by assumption) hbu)))
  have HBU := hid (HBB'.out.trans (HS14.out.mono HBB'.out.size))
  have HTU := hid (HTB.out.below HS14.out)
  clear c1 c2 c3' c4 c5 q0 q1 q2 q3 r0 r1 r2 r3 hbx hby hbz hbu HRL HEQ HPH HPR HSX HS11 HS12 HS13 HS14
  obtain ⟨nL, hnL⟩ : ∃ nL, nL = (lds sg).length := ⟨_, rfl⟩
  have HNL := hid (show nL ≤ 4096 by have := lds_len sg; have := HSL.out; omega)
  rw [← hnL] at HTU ⊢
  clear hnL
  go_wp2_with fail
  go_loopw [18] (fun i wr => ∃ k : Nat, k ≤ nL ∧ i = .int .i64 k ∧ TL w6 a7 nL wr) (fun i _ => nL - (intOf i).toNat)
  case atStart => exact ⟨0, Nat.zero_le _, rfl, HTU.out⟩
  case round =>
    obtain ⟨k, hk, rfl, hT⟩ := hrel
    have HT := hid hT
    have hnl := HNL.out
    by_cases hlt : k < nL
    · have d3 : decide ((k : Int) < (nL : Int)) = true := by simp; omega
      have d3n : decide (k < nL) = true := by simp; omega
      rcases hT.own with h0 | ⟨G, cs, rfl, hr, hn6, hG⟩
      · omega
      have HR := hid hr
      have HG := hid hG
      have HN6 := hid hn6
      have c0 := hr.cell (k * 6) (by omega)
      have c1 := hr.cell (k * 6 + 1) (by omega)
      have c2 := hr.cell (k * 6 + 2) (by omega)
      have c3 := hr.cell (k * 6 + 3) (by omega)
      have c4 := hr.cell (k * 6 + 4) (by omega)
      have c5 := hr.cell (k * 6 + 5) (by omega)
      have f0 := hr.frozen (k * 6)
      have f1 := hr.frozen (k * 6 + 1)
      have f2 := hr.frozen (k * 6 + 2)
      have f3 := hr.frozen (k * 6 + 3)
      have f4 := hr.frozen (k * 6 + 4)
      have f5 := hr.frozen (k * 6 + 5)
      have hgl := hr.lt
      clear hT hr hG
      go_wp2_with fail

      go_roundw
      case rel => exact ⟨k + 1, by omega, by go_num, ⟨.inr ⟨G, _, rfl, (((((HR.out.set _ _).set _ _).set _ _).set _ _).set _ _).set _ _, by simpa using HN6.out, HG.out⟩, bset (bset (bset (bset (bset (bset HT.out.low HG.out _) HG.out _) HG.out _) HG.out _) HG.out _) HG.out _⟩⟩
      case measure => simp [intOf]; omega
    · have d3 : decide ((k : Int) < (nL : Int)) = false := by simp; omega
      have d3n : decide (k < nL) = false := by simp; omega
      have HB9 := hid hT.low
      have HLW9 := hid (HLW6.out.trans (hT.low.mono HLW6.out.size))
      obtain ⟨x0, x1, x2, x3⟩ := (HBA.out _ hT.low).four
      obtain ⟨y0, y1, y2, y3⟩ := (HBB.out _ hT.low).four
      clear hT
      go_wp2_with fail
      refine (same12_any typ entry phoff a3 a c3 c sg wr (HSB.out.below' HB9.out) (HSA.out.below' HB9.out) HNB.out).mono ?_
      rintro e' wC ⟨rfl, hbC⟩
      have HBC := hid (HB9.out.trans (hbC.mono HB9.out.size))
      have HLWC := hid (HLW6.out.trans (HBC.out.mono HLW6.out.size))
      clear hbC x0 x1 x2 x3 y0 y1 y2 y3
      go_wp2_with fail
      refine (Ap.kept_any W4.heap.size ab l.length (l.length + 7) l.length cap l l wC rfl rfl (HRM6.out.below HBC.out HRM6.out.lt) (HBY.out _ HLWC.out) (by have := HLL.out; omega) (by have := HLL.out; omega)).mono ?_
      rintro e' wD ⟨rfl, nd, rfl⟩
      rw [Ap.eqB_self]
      have HLWD := hid (bdN HLWC.out nd)
      go_wp2_with fail
      refine (HWK.out _ HLWD.out).mono ?_
      rintro e' w7' ⟨rfl, hb7⟩
      have HL7 := hid (HLWD.out.trans (hb7.mono HLWD.out.size))
      clear hb7
      go_wp2_with fail
      go_ret
      exact ⟨rfl, HL7.out⟩
end Go.Proofs.YtaaohcpiideaaaaDoor
