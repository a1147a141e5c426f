/- EnvsChecks, EnvsLists, EnvsSets. -/
import Derived.Test.YtoikoljadgnebaaZW
namespace Go.Proofs.Ytoikoljadgnebaa
open Go.RowKit Go.Sort

theorem drew_below {w w' : World} {k : Nat} (h : w' = w.drewN k) : Below w.heap.size w w' := by rw [h]; exact drewN_below _ _
theorem totN_all {ds : List BL} (h : totN ds ≤ 131072) : ds.length ≤ 131072 ∧ ∀ p ∈ ds, p.length ≤ 140737488351232 := by
  have h1 := totN_len ds
  exact ⟨by omega, fun p hp => by have := totN_mem hp; omega⟩
theorem eqT_self (ds : List BL) : eqT ds ds = true := by simp [eqT]

set_option maxHeartbeats 2000000 in
set_option maxRecDepth 100000 in
theorem envsChecks_walk (a : Option Addr) (len cap : Nat) (ds : List BL) (n : ByteArray) (w : World) (hB : Cel w a len (strs ds)) (hl : len ≤ 140737488351232) (hs : ∀ p ∈ ds, p.length ≤ 140737488351232) (hn : n.size ≤ 140737488351232) :
    Calls Try.prog 3 #[.slice a len cap, .string n] w fun e' w' => e' = .returned (.bool true) ∧ Below w.heap.size w w' := by
  have HB := hid hB
  obtain ⟨rfl, _⟩ := cel_str hB
  clear hB
  go_enter Try.func3, Try.ntmps3
  go_wp2_with fail
  refine (large_any _ _ _ _ _ HB.out hl hs).mono ?_
  rintro e' w1 ⟨rfl, b, rfl, hbb⟩
  cases b
  case true =>
    go_wp2_with (go_at_call 10; refine (works_any _).mono ?_; rintro e' w' ⟨rfl, hw⟩)
    go_ret
    exact ⟨rfl, hw⟩
  have HT := hid (hbb rfl)
  obtain ⟨ht1, ht2⟩ := totN_all (hbb rfl)
  have HS := hid ht2
  clear hbb ht2 hs
  by_cases hbig : 131072 < n.size
  · have hd : 131072 < (n.size : Int) := by omega
    go_wp2_with (go_at_call 10; refine (works_any _).mono ?_; rintro e' w' ⟨rfl, hw⟩)
    go_ret
    exact ⟨rfl, hw⟩
  have hd : ¬ 131072 < (n.size : Int) := by omega
  go_wp2_with fail
  refine (roomy_any _ _ _ _ _ HB.out (by omega)).mono ?_
  rintro e' w1 ⟨G, c, rfl, hC, hc1, hc2, hg1, hg2, hb1⟩
  have HC := hid hC
  have HB1 := hid hb1
  have HA := hid (HB.out.below' hb1)
  clear hC hb1
  go_wp2_with fail
  refine (splitE_any _ _ hn).mono ?_
  rintro e' w2 ⟨rfl, k, hw⟩
  have HC := hid (HC.out.below' (drew_below hw))
  have HA := hid (HA.out.below' (drew_below hw))
  have HB1 := hid (bthen HB1.out (drew_below hw))
  clear hw
  go_wp2_with fail
  refine (rsplit_any _ _ hn).mono ?_
  rintro e' w2 ⟨rfl, k, hw⟩
  have HC := hid (HC.out.below' (drew_below hw))
  have HA := hid (HA.out.below' (drew_below hw))
  have HB1 := hid (bthen HB1.out (drew_below hw))
  clear hw
  have HIN := hid (HC.out.cut (ds := ds) (n := ds.length) rfl (by omega))
  go_wp2_with fail
  refine (getE_any _ _ _ ds _ _ HIN.out (by omega) HS.out).mono ?_
  rintro e' w2 ⟨rfl, k, hw⟩
  have HC := hid (HC.out.below' (drew_below hw))
  have HA := hid (HA.out.below' (drew_below hw))
  have HB1 := hid (bthen HB1.out (drew_below hw))
  clear hw
  go_wp2_with fail
  refine (rget_any _ _ _ ds _ _ HA.out (by omega) HS.out).mono ?_
  rintro e' w2 ⟨rfl, k, hw⟩
  have HC := hid (HC.out.below' (drew_below hw))
  have HA := hid (HA.out.below' (drew_below hw))
  have HB1 := hid (bthen HB1.out (drew_below hw))
  clear hw
  generalize ba (getV ds n.data.toList) = gv
  generalize getB ds n.data.toList = gb
  generalize ba (nmS n.data.toList) = sn
  generalize ba (vlS n.data.toList) = sv
  generalize okS n.data.toList = so
  have HIN := hid (HC.out.cut (ds := ds) (n := ds.length) rfl (by omega))
  go_wp2_with fail
  refine (checkE_any _ _ _ ds _ HIN.out (by omega) HS.out).mono ?_
  rintro e' w2 ⟨rfl, rfl⟩
  go_wp2_with fail
  refine (rcheck_any _ _ _ ds _ HA.out (by omega) HS.out).mono ?_
  rintro e' w2 ⟨rfl, rfl⟩
  generalize chkL ds = ck
  go_wp2_with fail
  refine (kept_any _ _ _ _ _ ds _ HC.out hc1 hc2 HA.out (by omega)).mono ?_
  rintro e' w3 ⟨rfl, k, hw⟩
  have HB1 := hid (bthen HB1.out (drew_below hw))
  clear hw
  go_wp2_with (go_at_call 10; refine (works_any _).mono ?_; rintro e' w' ⟨rfl, hw⟩)
  go_ret
  exact ⟨rfl, bthen HB1.out hw⟩

theorem listL_len (l : BL) : (listL l).length ≤ l.length + 1 := by
  unfold listL
  split
  · simp
  · rw [List.length_map]
    unfold cuts
    rw [List.length_append, List.length_singleton]
    have := cst_len58 l
    omega

theorem envsLists_walk (v : ByteArray) (w : World) (hm : v.size ≤ 9223372036854775807) :
    Calls Try.prog 5 #[.string v] w fun e' w' => e' = .returned (.bool true) ∧ Below w.heap.size w w' := by
  by_cases hbig : 131072 < v.size
  · have hd : 131072 < (v.size : Int) := by omega
    go_enter Try.func5, Try.ntmps5
    go_wp2_with (go_at_call 10; refine (works_any _).mono ?_; rintro e' w' ⟨rfl, hw⟩)
    go_ret
    exact ⟨rfl, hw⟩
  have hd : ¬ 131072 < (v.size : Int) := by omega
  have HLL := hid (show (listL v.data.toList).length ≤ 131073 by have := listL_len v.data.toList; rw [size_list] at this; omega)
  go_enter Try.func5, Try.ntmps5
  go_wp2_with fail
  refine (list_any _ _ (by omega)).mono ?_
  rintro e' w1 ⟨r, rfl, ho, hb⟩
  obtain ⟨a1, c1, rfl, hC1, _⟩ := own_cel ho
  have HC1 := hid hC1
  have HB1 := hid hb
  clear ho hC1 hb
  go_wp2_with fail
  refine (rlist_any _ _ (by omega)).mono ?_
  rintro e' w2 ⟨r, rfl, ho, hb⟩
  obtain ⟨a2, c2, rfl, hC2, _⟩ := own_cel ho
  have HC2 := hid hC2
  have HC1 := hid (HC1.out.below' hb)
  have HB2 := hid (bthen HB1.out hb)
  clear ho hC2 hb
  go_wp2_with fail
  refine (eqTexts_any _ _ _ _ _ _ _ _ _ HC1.out HC2.out (by have := HLL.out; omega) (by have := HLL.out; omega)).mono ?_
  rintro e' w3 ⟨rfl, k, hw⟩
  rw [eqT_self]
  have HB3 := hid (bthen HB2.out (drew_below hw))
  clear hw
  go_wp2_with (go_at_call 10; refine (works_any _).mono ?_; rintro e' w' ⟨rfl, hw⟩)
  go_ret
  exact ⟨rfl, bthen HB3.out hw⟩
end Go.Proofs.Ytoikoljadgnebaa
