/- EnvsBack. -/
import Derived.Test.YtoikoljadgnebaaZL2
import Derived.Deep.RegionHeld3
namespace Go.Proofs.Ytoikoljadgnebaa
open Go.RowKit Go.Sort

theorem eback_math (ds : List BL) (n v o : BL) (h : setBad n v = false) : setR ds n v = setL ds n v ∧ setR (setL ds n v) n v = setL ds n v ∧ setE n v = 0 ∧ getV (setL ds n v) n = v ∧ getB (setL ds n v) n = true ∧ (n ≠ o → getV (setL ds n v) o = getV ds o ∧ getB (setL ds n v) o = getB ds o) ∧ getB (unsetL (setL ds n v) n) n = false := by
  have h1 : ∀ es, setR es n v = setL es n v := fun es => by unfold setR; rw [h]; rfl
  have h2 := setL_get h ds
  refine ⟨h1 _, by rw [h1, setL_again h], by unfold setE; rw [h]; rfl, ?_, ?_, fun hno => ?_, ?_⟩
  · unfold getV; rw [h2]; exact (txt_said h).2.2
  · unfold getB; rw [h2]; rfl
  · have h3 := setL_other h hno ds
    unfold getV getB; rw [h3]; exact ⟨rfl, rfl⟩
  · unfold getB; rw [unset_get]; rfl
theorem setBad_is (n v : BL) : (setBad n v = true ∧ setE n v = 1 ∧ ∀ ds, setR ds n v = []) ∨ setBad n v = false := by
  cases h : setBad n v
  · exact .inr rfl
  · left; exact ⟨rfl, by unfold setE; rw [h]; rfl, fun ds => by unfold setR; rw [h]; rfl⟩
theorem mem_setL {ds : List BL} {n v p : BL} (h : p ∈ setL ds n v) : p ∈ ds ∨ p = txt n v := by
  have key : ∀ (es : List BL) (st : List BL × Bool), (∀ q ∈ st.1, q ∈ ds ∨ q = txt n v) → (∀ q ∈ es, q ∈ ds) → ∀ q ∈ (es.foldl (setG n (txt n v)) st).1, q ∈ ds ∨ q = txt n v := by
    intro es
    induction es with
    | nil => intro st h1 _; exact h1
    | cons s es ih =>
      intro st h1 h2
      refine ih _ ?_ (fun q hq => h2 q (List.mem_cons_of_mem _ hq))
      intro q hq
      unfold setG at hq
      split at hq
      · split at hq
        · exact h1 q hq
        · rcases List.mem_append.1 hq with hq | hq
          · exact h1 q hq
          · exact .inr (List.mem_singleton.1 hq)
      · rcases List.mem_append.1 hq with hq | hq
        · exact h1 q hq
        · left; rw [List.mem_singleton.1 hq]; exact h2 s (List.mem_cons_self ..)
  have hk := key ds ([], false) (fun q hq => by simp at hq) (fun q hq => hq)
  unfold setL at h
  split at h
  · exact hk p h
  · rcases List.mem_append.1 h with h | h
    · exact hk p h
    · exact .inr (List.mem_singleton.1 h)

set_option maxHeartbeats 4000000 in
set_option maxRecDepth 100000 in
theorem envsBack_walk (a : Option Addr) (len cap : Nat) (ds : List BL) (n o v : ByteArray) (w : World) (hB : Cel w a len (strs ds)) (hl : len ≤ 140737488351232) (hs : ∀ p ∈ ds, p.length ≤ 140737488351232) (hn : n.size ≤ 140737488351232) (ho : o.size ≤ 140737488351232) (hv : v.size ≤ 140737488351232) :
    Calls Try.prog 6 #[.slice a len cap, .agg #[.string n, .string o], .string v] w fun e' w' => e' = .returned (.bool true) ∧ Below w.heap.size w w' := by
  obtain ⟨rfl, _⟩ := cel_str hB
  have hW := bal (w := w) (.cells #[.string n, .string o] 42)
  have HA := hid (hB.below' hW)
  have hr := Row.new w 42 [.string n, .string o]
  have HR := hid hr
  have HB := hid hW
  clear hB hr hW
  go_enter Try.func6, Try.ntmps6
  go_wp2_with fail
  generalize hW : w.alloc (.cells #[.string n, .string o] 42) = w0 at *
  have HR : Hid (Row w0 w.heap.size 42 [.string n, .string o]) := HR
  clear hW
  refine (large_any _ _ _ _ _ HA.out hl hs).mono ?_
  rintro e' w1 ⟨rfl, b, rfl, hbb⟩
  have HHR := hid (fun (wq : World) (h : Row wq w.heap.size 42 [.string n, .string o]) => (⟨h.cell 0 (by simp), h.cell 1 (by simp)⟩ : wq.cell? ⟨w.heap.size, 0, none⟩ = some (.string n) ∧ wq.cell? ⟨w.heap.size, 1, none⟩ = some (.string o)))
  obtain ⟨x0, x1⟩ := HHR.out _ HR.out
  cases b
  case true =>
    go_wp2_with (go_at_call 10; refine (works_any _).mono ?_; rintro e' w' ⟨rfl, hw⟩)
    go_ret
    exact ⟨rfl, bthen HB.out hw⟩
  obtain ⟨ht1, ht2⟩ := totN_all (hbb rfl)
  have HS := hid ht2
  clear hbb ht2 hs
  by_cases hb1 : 1024 < n.size
  · have hd : 1024 < (n.size : Int) := by omega
    go_wp2_with (go_at_call 10; refine (works_any _).mono ?_; rintro e' w' ⟨rfl, hw⟩)
    go_ret
    exact ⟨rfl, bthen HB.out hw⟩
  have hd1 : ¬ 1024 < (n.size : Int) := by omega
  by_cases hb2 : 1024 < o.size
  · have hd : 1024 < (o.size : Int) := by omega
    go_wp2_with (go_at_call 10; refine (works_any _).mono ?_; rintro e' w' ⟨rfl, hw⟩)
    go_ret
    exact ⟨rfl, bthen HB.out hw⟩
  have hd2 : ¬ 1024 < (o.size : Int) := by omega
  by_cases hb3 : 1024 < v.size
  · have hd : 1024 < (v.size : Int) := by omega
    go_wp2_with (go_at_call 10; refine (works_any _).mono ?_; rintro e' w' ⟨rfl, hw⟩)
    go_ret
    exact ⟨rfl, bthen HB.out hw⟩
  have hd3 : ¬ 1024 < (v.size : Int) := by omega
  have HSS := hid (show (setL ds n.data.toList v.data.toList).length ≤ 131073 ∧ ∀ p ∈ setL ds n.data.toList v.data.toList, p.length ≤ 140737488351232 by
    refine ⟨by have := setL_le ds n.data.toList v.data.toList; omega, fun p hp => ?_⟩
    rcases mem_setL hp with hp | rfl
    · exact HS.out p hp
    · unfold txt; rw [List.length_append, List.length_append, size_list, size_list, List.length_singleton]; omega)
  clear hn ho hv hl
  go_wp2_with fail
  refine (setE_any _ _ _ ds _ _ _ HA.out (by omega) HS.out (by omega) (by omega)).mono ?_
  rintro e' w2 ⟨va, rfl, ho, hb⟩
  have HR := hid (HR.out.below hb HR.out.lt)
  have HA := hid (HA.out.below' hb)
  have HB := hid (bthen HB.out hb)
  obtain ⟨aa, ca, rfl, hCA, _⟩ := own_cel ho
  have HCA := hid hCA
  clear ho hb hCA x0 x1
  rcases setBad_is n.data.toList v.data.toList with ⟨_, hse, hsr⟩ | hok
  · rw [hse]
    rw [hsr] at HCA ⊢
    clear hse hsr
    simp only [List.length_nil] at HCA ⊢
    go_wp2_with (go_at_call 10; refine (works_any _).mono ?_; rintro e' w' ⟨rfl, hw⟩)
    go_ret
    exact ⟨rfl, bthen HB.out hw⟩
  have HM := hid (eback_math ds n.data.toList v.data.toList o.data.toList hok)
  rw [HM.out.2.2.1]
  rw [HM.out.1] at HCA ⊢
  have HAG := hid (setE_any aa (setL ds n.data.toList v.data.toList).length ca (setL ds n.data.toList v.data.toList) n v)
  have HUN := hid (unsetE_any aa (setL ds n.data.toList v.data.toList).length ca (setL ds n.data.toList v.data.toList) n)
  have HGO := hid HM.out.2.2.2.2.2.1
  have HGU := hid HM.out.2.2.2.2.2.2
  have HSE := hid HM.out.2.2.1
  have HSA := hid HM.out.2.1
  have HUL := hid (unsetL_le (setL ds n.data.toList v.data.toList) n.data.toList)
  have HUS := hid (show ∀ p ∈ unsetL (setL ds n.data.toList v.data.toList) n.data.toList, p.length ≤ 140737488351232 from fun p hp => HSS.out.2 p (List.mem_filter.1 hp).1)
  have HG1 := hid HM.out.2.2.2.1
  have HG2 := hid HM.out.2.2.2.2.1
  clear hok HM
  generalize setL ds n.data.toList v.data.toList = sl at *
  obtain ⟨x0, x1⟩ := HHR.out _ HR.out
  go_wp2_with fail
  refine (getE_any _ _ _ sl _ _ HCA.out (by have := HSS.out.1; omega) HSS.out.2).mono ?_
  rintro e' w3 ⟨rfl, k, hw⟩
  rw [HG1.out, HG2.out, ba_eta]
  have hb := drew_below hw
  have HR := hid (HR.out.below hb HR.out.lt)
  have HA := hid (HA.out.below' hb)
  have HCA := hid (HCA.out.below' hb)
  have HB := hid (bthen HB.out hb)
  clear hw hb x0 x1
  obtain ⟨x0, x1⟩ := HHR.out _ HR.out
  go_wp2_with fail
  refine (HAG.out _ HCA.out (by have := HSS.out.1; omega) HSS.out.2 (by omega) (by omega)).mono ?_
  rintro e' w4 ⟨vg, rfl, ho, hb⟩
  rw [HSE.out]
  rw [HSA.out] at ho
  have HR := hid (HR.out.below hb HR.out.lt)
  have HA := hid (HA.out.below' hb)
  have HCA := hid (HCA.out.below' hb)
  have HB := hid (bthen HB.out hb)
  obtain ⟨ag, cg, rfl, hCG, _⟩ := own_cel ho
  have HCG := hid hCG
  clear ho hb hCG x0 x1
  obtain ⟨x0, x1⟩ := HHR.out _ HR.out
  go_wp2_with fail
  refine (eqTexts_any _ _ _ _ _ _ sl sl _ HCA.out HCG.out (by have := HSS.out.1; omega) (by have := HSS.out.1; omega)).mono ?_
  rintro e' w5 ⟨rfl, k, hw⟩
  rw [eqT_self]
  have hb := drew_below hw
  have HR := hid (HR.out.below hb HR.out.lt)
  have HA := hid (HA.out.below' hb)
  have HCA := hid (HCA.out.below' hb)
  have HB := hid (bthen HB.out hb)
  clear hw hb x0 x1 HCG
  obtain ⟨x0, x1⟩ := HHR.out _ HR.out
  have hq := ba_beq2 o.data.toList n.data.toList
  rw [ba_eta, ba_eta] at hq
  by_cases hno : n.data.toList = o.data.toList
  · rw [decide_eq_true hno.symm] at hq
    clear hno
    go_wp2_with fail
    have hx0 : ∀ wq, St w5 wq → wq.cell? ⟨w.heap.size, 0, none⟩ = some (.string n) := fun wq h => St.cell x0 h
    have HUNW := hid (fun wq (h : St w5 wq) => HUN.out wq (St.cel HCA.out h) (by have := HSS.out.1; omega) HSS.out.2)
    have HLU := hid (show (unsetL sl n.data.toList).length ≤ 140737488351232 by have h1 := HUL.out; have h2 := HSS.out.1; omega)
    clear x0 x1
    go_region_held3 (St w5) (first | exact St.drew _ | exact St.step (by assumption) hbx | exact St.step (by assumption) (drewN_below _ _) | assumption) (first | (go_at_call 21; (with_reducible refine ((HUNW.out _ (by assumption)).mono ?_)); rintro e' wx ⟨vx, rfl, hox, hbx⟩; obtain ⟨ax, cx, rfl, hCX, _⟩ := own_cel hox; have HCX := hid hCX; clear hox hCX) | (go_at_call 14; (with_reducible refine ((getE_any _ _ _ _ _ _ HCX.out HLU.out HUS.out).mono ?_)); rintro e' wx ⟨rfl, kx, hwx⟩; have hbx := drew_below hwx))
    have HBX := hid (bthen HB.out (show Below w5.heap.size w5 _ from by assumption))
    rw [HGU.out]
    go_wp2_with (go_at_call 10; refine (works_any _).mono ?_; rintro e' w' ⟨rfl, hw⟩)
    go_ret
    exact ⟨rfl, bthen HBX.out hw⟩
  · rw [decide_eq_false (fun e => hno e.symm)] at hq
    obtain ⟨hv1, hv2⟩ := HGO.out hno
    have HV1 := hid hv1
    have HV2 := hid hv2
    clear hno hv1 hv2
    go_wp2_with fail
    refine (getE_any _ _ _ ds _ _ HA.out (by omega) HS.out).mono ?_
    rintro e' w6 ⟨rfl, k, hw⟩
    have hb := drew_below hw
    have HR := hid (HR.out.below hb HR.out.lt)
    have HCA := hid (HCA.out.below' hb)
    have HB := hid (bthen HB.out hb)
    clear hw hb x0 x1
    obtain ⟨x0, x1⟩ := HHR.out _ HR.out
    go_wp2_with fail
    refine (getE_any _ _ _ sl _ _ HCA.out (by have := HSS.out.1; omega) HSS.out.2).mono ?_
    rintro e' w7 ⟨rfl, k, hw⟩
    rw [HV1.out, HV2.out]
    have hb := drew_below hw
    have HR := hid (HR.out.below hb HR.out.lt)
    have HCA := hid (HCA.out.below' hb)
    have HB := hid (bthen HB.out hb)
    clear hw hb x0 x1
    obtain ⟨x0, x1⟩ := HHR.out _ HR.out
    generalize ba (getV ds o.data.toList) = g1
    generalize getB ds o.data.toList = g2
    go_wp2_with fail
    have hx0 : ∀ wq, St w7 wq → wq.cell? ⟨w.heap.size, 0, none⟩ = some (.string n) := fun wq h => St.cell x0 h
    have HUNW := hid (fun wq (h : St w7 wq) => HUN.out wq (St.cel HCA.out h) (by have := HSS.out.1; omega) HSS.out.2)
    have HLU := hid (show (unsetL sl n.data.toList).length ≤ 140737488351232 by have h1 := HUL.out; have h2 := HSS.out.1; omega)
    clear x0 x1
    go_region_held3 (St w7) (first | exact St.drew _ | exact St.step (by assumption) hbx | exact St.step (by assumption) (drewN_below _ _) | assumption) (first | (go_at_call 21; (with_reducible refine ((HUNW.out _ (by assumption)).mono ?_)); rintro e' wx ⟨vx, rfl, hox, hbx⟩; obtain ⟨ax, cx, rfl, hCX, _⟩ := own_cel hox; have HCX := hid hCX; clear hox hCX) | (go_at_call 14; (with_reducible refine ((getE_any _ _ _ _ _ _ HCX.out HLU.out HUS.out).mono ?_)); rintro e' wx ⟨rfl, kx, hwx⟩; have hbx := drew_below hwx))
    have HBX := hid (bthen HB.out (show Below w7.heap.size w7 _ from by assumption))
    rw [HGU.out]
    go_wp2_with (go_at_call 10; refine (works_any _).mono ?_; rintro e' w' ⟨rfl, hw⟩)
    go_ret
    exact ⟨rfl, bthen HBX.out hw⟩
end Go.Proofs.Ytoikoljadgnebaa
