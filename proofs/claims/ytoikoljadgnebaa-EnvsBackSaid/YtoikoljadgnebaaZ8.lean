/- Contracts of package hostelref03: Unset, Set. -/
import Derived.Test.YtoikoljadgnebaaZ6
namespace Go.Proofs.Ytoikoljadgnebaa
open Go.RowKit Go.Sort

set_option maxHeartbeats 1000000 in
theorem runset_any (a : Option Addr) (len cap : Nat) (ds : List BL) (n : ByteArray) (w : World) (hB : Cel w a len (strs ds)) (hl : len ≤ 4000000000000) (hs : ∀ p ∈ ds, p.length ≤ 140737488351232) :
    Calls Try.prog 24 #[.slice a len cap, .string n] w (OwnPost w (unsetL ds n.data.toList)) := by
  obtain ⟨rfl, hat⟩ := cel_str hB
  have HAT := hid hat
  have HS := hid hs
  have HLN := hid (fun k => le_take (f := fun l => unsetL l n.data.toList) (fun l => unsetL_le l _) (ds := ds) k hl)
  clear hB hat hs
  go_enter Try.func24, Try.ntmps24
  go_wp2_with fail
  go_loopw [5, 6] (fun v i wr => ∃ k : Nat, k ≤ ds.length ∧ i = .int .i64 k ∧ OwnS wr w.heap.size v (unsetL (ds.take k) n.data.toList) ∧ Below w.heap.size w wr) (fun _ i _ => ds.length - (intOf i).toNat)
  case atStart => exact ⟨0, Nat.zero_le _, rfl, ownS_nil _ _, Below.refl _ _⟩
  case round =>
    obtain ⟨k, hk, rfl, ho, hb⟩ := hrel
    have HO := hid ho
    have HB := hid hb
    clear ho hb
    by_cases hlt : k < ds.length
    · have d1 : decide ((k : Int) < (ds.length : Int)) = true := by simp; omega
      obtain ⟨b, off, rfl, hc⟩ := HAT.out (by omega)
      have hx := keepC HB.out (hc k hlt)
      have HX := hid hx
      have hz : (ba ds[k]).size ≤ 140737488351232 := by rw [ba_size]; exact HS.out _ (List.getElem_mem hlt)
      have HZ := hid hz
      clear hc hz
      go_wp2_with fail
      refine (rnamed_any _ _ _ HZ.out).mono ?_
      rintro e' w1 ⟨rfl, m1, hw1⟩
      rw [ba_list]
      have hb1 : Below wr.heap.size wr w1 := by rw [hw1]; exact drewN_below _ _
      have HO1 := hid (own_below HO.out hb1)
      have HB1 := hid (bthen HB.out hb1)
      have hx := keepC hb1 HX.out
      clear hw1 hb1
      cases hb : named ds[k] n.data.toList
      · have HN := hid (unset_keep hlt hb)
        obtain ⟨a9, c9, rfl, _⟩ := own_cel HO1.out
        clear hb
        go_wp2_with (at_builtin; go_must (refine wpList_appS rfl _ _ rfl w.heap.size (.slice a9 (unsetL (ds.take k) n.data.toList).length c9) (unsetL (ds.take k) n.data.toList) (ba ds[k]) rfl rfl HO1.out (HLN.out k) HB1.out.size ?_; intro v' w2 hown hgrow hb2 _ _; have HO2 := hid hown; have HB2 := hid (HB1.out.trans hb2); obtain ⟨a8, c8, rfl, _⟩ := own_cel hown; clear hown hgrow hb2))
        go_roundw
        case rel => exact ⟨k + 1, by omega, by go_num, ownS_of HO2.out HN.out.symm, HB2.out⟩
        case measure => simp [intOf]; omega
      · have HN := hid (unset_drop hlt hb)
        clear hb
        go_wp2_with fail
        go_roundw
        case rel => exact ⟨k + 1, by omega, by go_num, by rw [HN.out]; exact HO1.out, HB1.out⟩
        case measure => simp [intOf]; omega
    · have d1 : decide ((k : Int) < (ds.length : Int)) = false := by simp; omega
      obtain rfl : k = ds.length := by omega
      go_wp2_with fail
      go_ret
      exact ⟨_, rfl, by have := HO.out; rwa [List.take_length] at this, HB.out⟩
set_option maxHeartbeats 4000000 in
theorem rset_any (a : Option Addr) (len cap : Nat) (ds : List BL) (n v : ByteArray) (w : World) (hB : Cel w a len (strs ds)) (hl : len ≤ 4000000000000) (hs : ∀ p ∈ ds, p.length ≤ 140737488351232) (hn : n.size ≤ 1000000) (hv : v.size ≤ 1000000) :
    Calls Try.prog 20 #[.slice a len cap, .string n, .string v] w (SetPost w ds n.data.toList v.data.toList) := by
  obtain ⟨rfl, hat⟩ := cel_str hB
  have HAT := hid hat
  have HS := hid hs
  have HBD := hid (show setBad n.data.toList v.data.toList = (decide (n.data.toList = []) || (decide (61 ∈ n.data.toList) || (decide (0 ∈ n.data.toList) || decide (0 ∈ v.data.toList)))) from rfl)
  have e1 := ba_nil n
  clear hB hat hs
  by_cases h1 : n.data.toList = []
  · rw [decide_eq_true h1] at e1 HBD
    have HF := hid (show setBad n.data.toList v.data.toList = true by rw [HBD.out]; rfl)
    clear h1
    go_enter Try.func20, Try.ntmps20
    go_wp2_with fail
    go_ret2
    exact set_bad HF.out
  rw [decide_eq_false h1] at e1 HBD
  clear h1
  go_enter Try.func20, Try.ntmps20
  go_wp2_with fail
  refine (rhas_any _ 61 61 rfl _ (by omega)).mono ?_
  rintro e' w1 ⟨rfl, rfl⟩
  have H0 := hid (show hasC 61 n.data.toList = decide (61 ∈ n.data.toList) from rfl)
  rw [← H0.out] at HBD
  cases h3 : hasC 61 n.data.toList
  case true =>
    rw [h3] at HBD
    have HF := hid (show setBad n.data.toList v.data.toList = true by rw [HBD.out]; rfl)
    clear h3
    go_wp2_with fail
    go_ret2
    exact set_bad HF.out
  rw [h3] at HBD
  clear h3
  go_wp2_with fail
  refine (rhas_any _ 0 0 rfl _ (by omega)).mono ?_
  rintro e' w1 ⟨rfl, rfl⟩
  have H0 := hid (show hasC 0 n.data.toList = decide (0 ∈ n.data.toList) from rfl)
  rw [← H0.out] at HBD
  cases h3 : hasC 0 n.data.toList
  case true =>
    rw [h3] at HBD
    have HF := hid (show setBad n.data.toList v.data.toList = true by rw [HBD.out]; rfl)
    clear h3
    go_wp2_with fail
    go_ret2
    exact set_bad HF.out
  rw [h3] at HBD
  clear h3
  go_wp2_with fail
  refine (rhas_any _ 0 0 rfl _ (by omega)).mono ?_
  rintro e' w1 ⟨rfl, rfl⟩
  have H0 := hid (show hasC 0 v.data.toList = decide (0 ∈ v.data.toList) from rfl)
  rw [← H0.out] at HBD
  cases h3 : hasC 0 v.data.toList
  case true =>
    rw [h3] at HBD
    have HF := hid (show setBad n.data.toList v.data.toList = true by rw [HBD.out]; rfl)
    clear h3
    go_wp2_with fail
    go_ret2
    exact set_bad HF.out
  rw [h3] at HBD
  have HF := hid (show setBad n.data.toList v.data.toList = false by rw [HBD.out]; rfl)
  clear h3 HBD e1
  have HTX := hid (txt_ba n v)
  go_wp2_with fail
  have HLN := hid (fun k => le_take (f := fun l => (setP l n.data.toList (txt n.data.toList v.data.toList)).1) (fun l => setP_le l _ _) (ds := ds) k hl)
  go_loopw [8, 9, 10] (fun v' d i wr => ∃ k : Nat, k ≤ ds.length ∧ i = .int .i64 k ∧ OwnS wr w.heap.size v' (setP (ds.take k) n.data.toList (txt n.data.toList v.data.toList)).1 ∧ d = .bool (setP (ds.take k) n.data.toList (txt n.data.toList v.data.toList)).2 ∧ Below w.heap.size w wr) (fun _ _ i _ => ds.length - (intOf i).toNat)
  case atStart => exact ⟨0, Nat.zero_le _, rfl, ownS_nil _ _, rfl, Below.refl _ _⟩
  case round =>
    obtain ⟨k, hk, rfl, ho, rfl, hb⟩ := hrel
    have HO := hid ho
    have HB := hid hb
    clear ho hb
    by_cases hlt : k < ds.length
    · have d1 : decide ((k : Int) < (ds.length : Int)) = true := by simp; omega
      obtain ⟨b, off, rfl, hc⟩ := HAT.out (by omega)
      have hx := keepC HB.out (hc k hlt)
      have HX := hid hx
      have hz : (ba ds[k]).size ≤ 140737488351232 := by rw [ba_size]; exact HS.out _ (List.getElem_mem hlt)
      have HZ := hid hz
      have HSN := hid (setP_take (n := n.data.toList) (t := txt n.data.toList v.data.toList) hlt)
      have HLK := hid (HLN.out k)
      clear hc hz
      generalize setP (ds.take k) n.data.toList (txt n.data.toList v.data.toList) = st at *
      obtain ⟨st, sd⟩ := st
      go_wp2_with fail
      refine (rnamed_any _ _ _ HZ.out).mono ?_
      rintro e' w1 ⟨rfl, m1, hw1⟩
      rw [ba_list]
      have hb1 : Below wr.heap.size wr w1 := by rw [hw1]; exact drewN_below _ _
      have HO1 := hid (own_below HO.out hb1)
      have HB1 := hid (bthen HB.out hb1)
      have hx := keepC hb1 HX.out
      clear hw1 hb1
      obtain ⟨a9, c9, rfl, _⟩ := own_cel HO1.out
      cases hnm : named ds[k] n.data.toList
      · have HK := hid (show setP (ds.take (k + 1)) n.data.toList (txt n.data.toList v.data.toList) = (st ++ [ds[k]], sd) by rw [HSN.out]; unfold setG; rw [hnm]; rfl)
        clear hnm HSN
        go_wp2_with (at_builtin; go_must (refine wpList_appS rfl _ _ rfl w.heap.size (Value.slice a9 st.length c9) (st) (ba ds[k]) rfl rfl HO1.out HLK.out HB1.out.size ?_; intro v' w9 hown hgrow hb9 _ hat; have HO9 := hid hown; have HB9 := hid hb9; obtain ⟨a8, c8, rfl, _⟩ := own_cel hown; clear hown hgrow hb9 hat))
        go_roundw
        case rel => exact ⟨k + 1, by omega, by go_num, ownS_of HO9.out (by rw [HK.out]; rfl), by rw [HK.out], HB1.out.trans HB9.out⟩
        case measure => simp [intOf]; omega
      · cases sd
        · have HK := hid (show setP (ds.take (k + 1)) n.data.toList (txt n.data.toList v.data.toList) = (st ++ [txt n.data.toList v.data.toList], true) by rw [HSN.out]; unfold setG; rw [hnm]; rfl)
          clear hnm HSN
          go_wp2_with (at_builtin; go_must (refine wpList_appS rfl _ _ rfl w.heap.size (Value.slice a9 st.length c9) (st) (n ++ (ByteArray.mk #[61]) ++ v) rfl rfl HO1.out HLK.out HB1.out.size ?_; intro v' w9 hown hgrow hb9 _ hat; have HO9 := hid hown; have HB9 := hid hb9; obtain ⟨a8, c8, rfl, _⟩ := own_cel hown; clear hown hgrow hb9 hat))
          go_roundw
          case rel => exact ⟨k + 1, by omega, by go_num, ownS_of HO9.out (by rw [HK.out, HTX.out]), by rw [HK.out], HB1.out.trans HB9.out⟩
          case measure => simp [intOf]; omega
        · have HK := hid (show setP (ds.take (k + 1)) n.data.toList (txt n.data.toList v.data.toList) = (st, true) by rw [HSN.out]; unfold setG; rw [hnm]; rfl)
          clear hnm HSN
          go_wp2_with fail
          go_roundw
          case rel => exact ⟨k + 1, by omega, by go_num, by rw [HK.out]; exact HO1.out, by rw [HK.out], HB1.out⟩
          case measure => simp [intOf]; omega
    · have d1 : decide ((k : Int) < (ds.length : Int)) = false := by simp; omega
      obtain rfl : k = ds.length := by omega
      have HLK := hid (HLN.out ds.length)
      rw [List.take_length] at HO HLK ⊢
      have H1 := hid (setL_done (ds := ds) (n := n.data.toList) (v := v.data.toList))
      have H2 := hid (setL_not (ds := ds) (n := n.data.toList) (v := v.data.toList))
      generalize setP ds n.data.toList (txt n.data.toList v.data.toList) = st at *
      obtain ⟨st, sd⟩ := st
      obtain ⟨a9, c9, rfl, _⟩ := own_cel HO.out
      cases sd
      · go_wp2_with (at_builtin; go_must (refine wpList_appS rfl _ _ rfl w.heap.size (Value.slice a9 st.length c9) (st) (n ++ (ByteArray.mk #[61]) ++ v) rfl rfl HO.out HLK.out HB.out.size ?_; intro v' w9 hown hgrow hb9 _ hat; have HO9 := hid hown; have HB9 := hid hb9; obtain ⟨a8, c8, rfl, _⟩ := own_cel hown; clear hown hgrow hb9 hat))
        go_ret2
        exact set_good HF.out (ownS_of HO9.out (by rw [H2.out (by trivial), HTX.out])) (HB.out.trans HB9.out)
      · go_wp2_with fail
        go_ret2
        exact set_good HF.out (by rw [H1.out (by trivial)]; exact HO.out) HB.out
end Go.Proofs.Ytoikoljadgnebaa
