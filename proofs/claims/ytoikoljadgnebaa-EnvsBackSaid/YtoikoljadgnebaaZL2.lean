/- EnvsSets. -/
import Derived.Test.YtoikoljadgnebaaZL1
namespace Go.Proofs.Ytoikoljadgnebaa
open Go.RowKit Go.Sort

theorem own_apart {w1 w3 : World} {base base3 e size n m : Nat} {v v3 : Value} {xs ys : List Value} (h : w1.ownsRow base e size v n xs) (h3 : w3.ownsRow base3 e size v3 m ys) (hb : w1.heap.size ≤ base3) : v3.ownBlock = none ∨ v3.ownBlock ≠ v.ownBlock := by
  rcases own_block h3 with e1 | ⟨g, e1, h1, h2⟩
  · exact .inl e1
  · right
    rw [e1]
    rcases own_block h with e2 | ⟨g2, e2, h4, h5⟩
    · rw [e2]; exact fun e => by cases e
    · rw [e2]; intro e; cases e; omega
theorem setR_le (ds : List BL) (n v : BL) : (setR ds n v).length ≤ ds.length + 1 := by
  unfold setR; split
  · simp
  · exact setL_le _ _ _

set_option maxHeartbeats 4000000 in
set_option maxRecDepth 100000 in
theorem envsSets_walk (a : Option Addr) (len cap : Nat) (ds : List BL) (n v : ByteArray) (w : World) (hB : Cel w a len (strs ds)) (hl : len ≤ 140737488351232) (hs : ∀ p ∈ ds, p.length ≤ 140737488351232) (hcap : a = none → cap = 0) (hn : n.size ≤ 140737488351232) (hv : v.size ≤ 140737488351232) :
    Calls Try.prog 4 #[.slice a len cap, .string n, .string v] w fun e' w' => e' = .returned (.bool true) ∧ Below w.heap.size w w' := by
  have HA := hid hB
  have HCAP := hid hcap
  obtain ⟨rfl, _⟩ := cel_str hB
  clear hB hcap
  go_enter Try.func4, Try.ntmps4
  go_wp2_with fail
  refine (large_any _ _ _ _ _ HA.out hl hs).mono ?_
  rintro e' w1 ⟨rfl, b, rfl, hbb⟩
  cases b
  case true =>
    go_wp2_with (go_at_call 10; refine (works_any _).mono ?_; rintro e' w' ⟨rfl, hw⟩)
    go_ret
    exact ⟨rfl, hw⟩
  obtain ⟨ht1, ht2⟩ := totN_all (hbb rfl)
  have HS := hid ht2
  clear hbb ht2 hs
  by_cases hbig : 131072 < n.size
  · have hd : 131072 < (n.size : Int) := by omega
    go_wp2_with (go_at_call 10; refine (works_any _).mono ?_; rintro e' w' ⟨rfl, hw⟩)
    go_ret
    exact ⟨rfl, hw⟩
  have hd : ¬ 131072 < (n.size : Int) := by omega
  by_cases hbig2 : 131072 < v.size
  · have hd2 : 131072 < (v.size : Int) := by omega
    go_wp2_with (go_at_call 10; refine (works_any _).mono ?_; rintro e' w' ⟨rfl, hw⟩)
    go_ret
    exact ⟨rfl, hw⟩
  have hd2 : ¬ 131072 < (v.size : Int) := by omega
  go_wp2_with fail
  refine (roomy_any _ _ _ _ _ HA.out (by omega)).mono ?_
  rintro e' w1 ⟨G, c, rfl, hC, hc1, hc2, hg1, hg2, hb⟩
  have HC := hid hC
  have HC0 := hid hC
  have HB := hid hb
  have HA := hid (HA.out.below' hb)
  have HA0 := HA
  clear hC hb
  have HIN := hid (HC.out.cut (ds := ds) (n := ds.length) rfl (by omega))
  go_wp2_with fail
  refine (setE_any _ _ _ ds _ _ _ HIN.out (by omega) HS.out (by omega) (by omega)).mono ?_
  rintro e' w2 ⟨va, rfl, ho, hb⟩
  have HOA := hid ho
  have HOA0 := hid ho
  have HC := hid (HC.out.below' hb)
  have HA := hid (HA.out.below' hb)
  have hz2 := hb.size
  have HB := hid (bthen HB.out hb)
  obtain ⟨aa, ca, rfl, _⟩ := own_cel ho
  clear ho hb
  go_wp2_with fail
  refine (rset_any _ _ _ ds _ _ _ HA.out (by omega) HS.out (by omega) (by omega)).mono ?_
  rintro e' w3 ⟨vb, rfl, ho, hb⟩
  have HOA := hid (own_below HOA.out hb)
  have HOB := hid ho
  have HC := hid (HC.out.below' hb)
  have HA := hid (HA.out.below' hb)
  have hz3 := hb.size
  have HB := hid (bthen HB.out hb)
  obtain ⟨ab, cb, rfl, _⟩ := own_cel ho
  clear ho hb
  have HIN := hid (HC.out.cut (ds := ds) (n := ds.length) rfl (by omega))
  go_wp2_with fail
  refine (unsetE_any _ _ _ ds _ _ HIN.out (by omega) HS.out).mono ?_
  rintro e' w4 ⟨vx, rfl, ho, hb⟩
  have HOA := hid (own_below HOA.out hb)
  have HOB := hid (own_below HOB.out hb)
  have HOX := hid ho
  have HOX0 := hid ho
  have HC := hid (HC.out.below' hb)
  have HA := hid (HA.out.below' hb)
  have hz4 := hb.size
  have HB := hid (bthen HB.out hb)
  obtain ⟨ax, cx, rfl, _⟩ := own_cel ho
  clear ho hb
  have HIN := hid (HC.out.cut (ds := ds) (n := ds.length) rfl (by omega))
  go_wp2_with fail
  refine (scrubE_any _ _ _ ds _ HIN.out (by omega) HS.out).mono ?_
  rintro e' w5 ⟨vy, rfl, ho, hb⟩
  have HOA := hid (own_below HOA.out hb)
  have HOB := hid (own_below HOB.out hb)
  have HOX := hid (own_below HOX.out hb)
  have HOY := hid ho
  have HOY0 := hid ho
  have HC := hid (HC.out.below' hb)
  have HA := hid (HA.out.below' hb)
  have hz5 := hb.size
  have HB := hid (bthen HB.out hb)
  obtain ⟨ay, cy, rfl, _⟩ := own_cel ho
  clear ho hb
  have HSR := hid (setR_le ds n.data.toList v.data.toList)
  have HUL := hid (unsetL_le ds n.data.toList)
  have HSL := hid (scrubL_le ds)
  have HRU := hid (runset_any a ds.length cap ds n)
  generalize hra : setR ds n.data.toList v.data.toList = ra at *
  generalize setE n.data.toList v.data.toList = ce at *
  generalize unsetL ds n.data.toList = ru at *
  generalize hrs : scrubL ds = rs at *
  have HRS := hid hrs
  clear hra hrs
  obtain ⟨_, _, ea, hCA, _⟩ := own_cel HOA.out
  cases ea
  obtain ⟨_, _, eb, hCB, _⟩ := own_cel HOB.out
  cases eb
  have HCA := hid hCA
  have HCB := hid hCB
  clear hCA hCB
  go_wp2_with fail
  refine (eqTexts_any _ _ _ _ _ _ ra ra _ HCA.out HCB.out (by have := HSR.out; omega) (by have := HSR.out; omega)).mono ?_
  rintro e' w6 ⟨rfl, k, hw⟩
  rw [eqT_self]
  have hb := drew_below hw
  clear hw HCA HCB
  have HOA := hid (own_below HOA.out hb)
  have HOX := hid (own_below HOX.out hb)
  have HOY := hid (own_below HOY.out hb)
  have HC := hid (HC.out.below' hb)
  have HA := hid (HA.out.below' hb)
  have HB := hid (bthen HB.out hb)
  have hzq := hb.size
  clear hb
  go_wp2_with fail
  refine (HRU.out _ HA.out (by omega) HS.out).mono ?_
  rintro e' w7 ⟨vu, rfl, ho, hb⟩
  obtain ⟨au, cu, rfl, hCU, _⟩ := own_cel ho
  have HCU := hid hCU
  have HOA := hid (own_below HOA.out hb)
  have HOX := hid (own_below HOX.out hb)
  have HOY := hid (own_below HOY.out hb)
  have HC := hid (HC.out.below' hb)
  have HA := hid (HA.out.below' hb)
  have HB := hid (bthen HB.out hb)
  have hzu := hb.size
  clear ho hb hCU
  obtain ⟨_, _, ex, hCX, _⟩ := own_cel HOX.out
  cases ex
  have HCX := hid hCX
  clear hCX
  go_wp2_with fail
  refine (eqTexts_any _ _ _ _ _ _ ru ru _ HCX.out HCU.out (by have := HUL.out; omega) (by have := HUL.out; omega)).mono ?_
  rintro e' w8 ⟨rfl, k, hw⟩
  rw [eqT_self]
  have hb := drew_below hw
  clear hw HCX HCU
  have HOA := hid (own_below HOA.out hb)
  have HOX := hid (own_below HOX.out hb)
  have HOY := hid (own_below HOY.out hb)
  have HC := hid (HC.out.below' hb)
  have HA := hid (HA.out.below' hb)
  have HB := hid (bthen HB.out hb)
  have hzq := hb.size
  clear hb
  go_wp2_with fail
  refine (rscrub_any _ _ _ ds _ HA.out (by omega) HS.out HCAP.out).mono ?_
  rintro e' w9 ⟨vs, rfl, ho, hb⟩
  rw [HRS.out] at ho
  obtain ⟨asx, csx, rfl, hCS, _⟩ := own_cel ho
  have HCS := hid hCS
  have HOA := hid (own_below HOA.out hb)
  have HOX := hid (own_below HOX.out hb)
  have HOY := hid (own_below HOY.out hb)
  have HC := hid (HC.out.below' hb)
  have HA := hid (HA.out.below' hb)
  have HB := hid (bthen HB.out hb)
  have hzs := hb.size
  clear ho hb hCS
  obtain ⟨_, _, ey, hCY, _⟩ := own_cel HOY.out
  cases ey
  have HCY := hid hCY
  clear hCY
  go_wp2_with fail
  refine (eqTexts_any _ _ _ _ _ _ rs rs _ HCY.out HCS.out (by have := HSL.out; omega) (by have := HSL.out; omega)).mono ?_
  rintro e' w10 ⟨rfl, k, hw⟩
  rw [eqT_self]
  have hb := drew_below hw
  clear hw HCY HCS
  have HOA := hid (own_below HOA.out hb)
  have HOX := hid (own_below HOX.out hb)
  have HOY := hid (own_below HOY.out hb)
  have HC := hid (HC.out.below' hb)
  have HA := hid (HA.out.below' hb)
  have HB := hid (bthen HB.out hb)
  have hzq := hb.size
  clear hb
  go_wp2_with fail
  refine (kept_any _ _ _ _ _ ds _ HC.out hc1 hc2 HA.out (by omega)).mono ?_
  rintro e' w11 ⟨rfl, k, hw⟩
  have hb := drew_below hw
  clear hw
  have HOA := hid (own_below HOA.out hb)
  have HOX := hid (own_below HOX.out hb)
  have HOY := hid (own_below HOY.out hb)
  have HC := hid (HC.out.below' hb)
  have HA := hid (HA.out.below' hb)
  have HB := hid (bthen HB.out hb)
  have hzk := hb.size
  clear hb
  have HZW := hid (show w.heap.size ≤ w1.heap.size by omega)
  go_wp2_with fail
  refine (own_any _ ra _ _ _ _ _ ds w1.heap.size w1 _ HOA.out (by have := HSR.out; omega) (by omega) (Nat.le_refl _) HC0.out HC.out hc1 hc2 HA0.out HA.out (by omega)).mono ?_
  rintro e' w12 ⟨rfl, hg⟩
  have hb12 := grown_low2 HOA.out hg (by omega)
  have HC := hid (Cel.old HC0.out HC.out (Nat.le_refl _) hb12)
  have HA := hid (Cel.old HA0.out HA.out (Nat.le_refl _) hb12)
  have HOX := hid (HOX.out.kept hg (own_apart HOA0.out HOX0.out (by omega)))
  have HOY := hid (HOY.out.kept hg (own_apart HOA0.out HOY0.out (by omega)))
  have HB := hid (HB.out.grown hg HB.out.size (fun k hk => own_low HOA.out HZW.out k hk))
  have hz12 := hg.size
  clear hg hb12
  go_wp2_with fail
  refine (own_any _ ru _ _ _ _ _ ds w3.heap.size w1 _ HOX.out (by have := HUL.out; omega) (by omega) (by omega) HC0.out HC.out hc1 hc2 HA0.out HA.out (by omega)).mono ?_
  rintro e' w13 ⟨rfl, hg⟩
  have hb13 := grown_low2 HOX.out hg (by omega)
  have HC := hid (Cel.old HC0.out HC.out (by omega) hb13)
  have HA := hid (Cel.old HA0.out HA.out (by omega) hb13)
  have HOY := hid (HOY.out.kept hg (own_apart HOX0.out HOY0.out (by omega)))
  have HB := hid (HB.out.grown hg HB.out.size (fun k hk => own_low HOX.out (by have := HZW.out; omega) k hk))
  have hz13 := hg.size
  clear hg hb13
  go_wp2_with fail
  refine (own_any _ rs _ _ _ _ _ ds w4.heap.size w1 _ HOY.out (by have := HSL.out; omega) (by omega) (by omega) HC0.out HC.out hc1 hc2 HA0.out HA.out (by omega)).mono ?_
  rintro e' w14 ⟨rfl, hg⟩
  have HB := hid (HB.out.grown hg HB.out.size (fun k hk => own_low HOY.out (by have := HZW.out; omega) k hk))
  clear hg
  go_wp2_with (go_at_call 10; refine (works_any _).mono ?_; rintro e' w' ⟨rfl, hw⟩)
  go_ret
  exact ⟨rfl, bthen HB.out hw⟩
end Go.Proofs.Ytoikoljadgnebaa
