/- Contracts of package envs: Scrub, Set. -/
import Derived.Test.YtoikoljadgnebaaZ5
namespace Go.Proofs.Ytoikoljadgnebaa
open Go.RowKit Go.Sort

theorem scrub_keep {ds : List BL} {k : Nat} (hk : k < ds.length) (h : scrubB ds[k] = false) : scrubL (ds.take (k + 1)) = scrubL (ds.take k) ++ [ds[k]] :=
  filt_take (f := fun l => scrubL l) hk (by rw [scrubL_snoc, h]; rfl)
theorem scrub_drop {ds : List BL} {k : Nat} (hk : k < ds.length) (h : scrubB ds[k] = true) : scrubL (ds.take (k + 1)) = scrubL (ds.take k) :=
  filt_take (f := fun l => scrubL l) hk (by rw [scrubL_snoc, h]; rfl)
theorem nmS_len (l : BL) : (nmS l).length ≤ l.length := by
  unfold nmS; split
  · exact upTo_len_le _ _
  · simp

set_option maxHeartbeats 2000000 in
theorem scrubE_any (a : Option Addr) (len cap : Nat) (ds : List BL) (w : World) (hB : Cel w a len (strs ds)) (hl : len ≤ 4000000000000) (hs : ∀ p ∈ ds, p.length ≤ 140737488351232) :
    Calls Try.prog 22 #[.slice a len cap] w (OwnPost w (scrubL ds)) := by
  obtain ⟨rfl, hat⟩ := cel_str hB
  have HAT := hid hat
  have HS := hid hs
  have HLN := hid (fun k => le_take (f := fun l => scrubL l) (fun l => scrubL_le l) (ds := ds) k hl)
  clear hB hat hs
  go_enter Try.func22, Try.ntmps22
  go_wp2_with fail
  refine (notSafe_any _).mono ?_
  rintro e' w0 ⟨rfl, hbad, hbel⟩
  have HBAD := hid hbad
  have HBEL := hid hbel
  generalize w.heap.size = M at hbad HBAD ⊢
  clear hbad hbel
  go_wp2_with fail
  go_loopw [4, 13] (fun v i wr => ∃ k : Nat, k ≤ ds.length ∧ i = .int .i64 k ∧ OwnS wr w0.heap.size v (scrubL (ds.take k)) ∧ Below w0.heap.size w0 wr) (fun _ i _ => ds.length - (intOf i).toNat)
  case atStart => exact ⟨0, Nat.zero_le _, rfl, ownS_nil _ _, Below.refl _ _⟩
  case round =>
    obtain ⟨k, hk, rfl, ho, hb⟩ := hrel
    have HO := hid ho
    have HB := hid hb
    clear ho hb
    by_cases hlt : k < ds.length
    · have d1 : decide ((k : Int) < (ds.length : Int)) = true := by simp; omega
      obtain ⟨b, off, rfl, hc⟩ := HAT.out (by omega)
      have hx := keepC HB.out (keepC HBEL.out (hc k hlt))
      have HX := hid hx
      have hz : (ba ds[k]).size ≤ 140737488351232 := by rw [ba_size]; exact HS.out _ (List.getElem_mem hlt)
      have HZ := hid hz
      clear hc hz
      go_wp2_with fail
      refine (splitE_any _ _ HZ.out).mono ?_
      rintro e' w1 ⟨rfl, m1, hw1⟩
      rw [ba_list]
      have hb1 : Below wr.heap.size wr w1 := by rw [hw1]; exact drewN_below _ _
      have HO1 := hid (own_below HO.out hb1)
      have HB1 := hid (bthen HB.out hb1)
      have HN := hid (show scrubB ds[k] = (okS ds[k] && badN (nmS ds[k])) from rfl)
      have hlook := (HBAD.out.below HB1.out).look (nmS ds[k]) (by have h1 := nmS_len ds[k]; have h2 := HS.out _ (List.getElem_mem hlt); unfold maxLen; omega)
      clear hw1 hx hb1
      obtain ⟨a9, c9, rfl, _⟩ := own_cel HO1.out
      cases hok : okS ds[k]
      · rw [hok] at HN
        have HK := hid (scrub_keep hlt HN.out)
        clear hok HN hlook
        go_wp2_with (at_builtin; go_must (refine wpList_appS rfl _ _ rfl w0.heap.size (Value.slice a9 (scrubL (ds.take k)).length c9) (scrubL (ds.take k)) (ba ds[k]) rfl rfl HO1.out (HLN.out k) HB1.out.size ?_; intro v' w9 hown hgrow hb9 _ hat; have HO9 := hid hown; have HB9 := hid hb9; obtain ⟨a8, c8, rfl, _⟩ := own_cel hown; clear hown hgrow hb9 hat))
        go_roundw
        case rel => exact ⟨k + 1, by omega, by go_num, ownS_of HO9.out HK.out.symm, HB1.out.trans HB9.out⟩
        case measure => simp [intOf]; omega
      · rw [hok] at HN
        cases hbd : badN (nmS ds[k])
        · rw [hbd] at HN hlook
          have HK := hid (scrub_keep hlt HN.out)
          clear hok HN hbd
          go_wp2_with (at_builtin; go_must (refine wpList_appS rfl _ _ rfl w0.heap.size (Value.slice a9 (scrubL (ds.take k)).length c9) (scrubL (ds.take k)) (ba ds[k]) rfl rfl HO1.out (HLN.out k) HB1.out.size ?_; intro v' w9 hown hgrow hb9 _ hat; have HO9 := hid hown; have HB9 := hid hb9; obtain ⟨a8, c8, rfl, _⟩ := own_cel hown; clear hown hgrow hb9 hat))
          go_roundw
          case rel => exact ⟨k + 1, by omega, by go_num, ownS_of HO9.out HK.out.symm, HB1.out.trans HB9.out⟩
          case measure => simp [intOf]; omega
        · rw [hbd] at HN hlook
          have HK := hid (scrub_drop hlt HN.out)
          clear hok HN hbd
          go_wp2_with fail
          go_roundw
          case rel => exact ⟨k + 1, by omega, by go_num, by rw [HK.out]; exact HO1.out, HB1.out⟩
          case measure => simp [intOf]; omega
    · have d1 : decide ((k : Int) < (ds.length : Int)) = false := by simp; omega
      obtain rfl : k = ds.length := by omega
      go_wp2_with fail
      go_ret
      refine ⟨_, rfl, ?_, bthen HBEL.out HB.out⟩
      have := HO.out
      rw [List.take_length] at this
      exact own_from this HBEL.out.size

def setR (ds : List BL) (n v : BL) : List BL := if setBad n v then [] else setL ds n v
def setE (n v : BL) : Int := if setBad n v then 1 else 0
def SetPost (w : World) (ds : List BL) (n v : BL) (e : Ending) (w' : World) : Prop := ∃ r, e = .returned (.tuple #[r, .int .i64 (setE n v)]) ∧ OwnS w' w.heap.size r (setR ds n v) ∧ Below w.heap.size w w'
theorem set_bad {w : World} {ds : List BL} {n v : BL} (h : setBad n v = true) : SetPost w ds n v (.returned (.tuple #[.slice none 0 0, .int .i64 1])) w := by
  refine ⟨_, by unfold setE; rw [h]; rfl, ?_, Below.refl _ _⟩
  unfold setR; rw [h]; exact ownS_nil _ _
theorem set_good {w w' : World} {ds : List BL} {n v : BL} {r : Value} (h : setBad n v = false) (ho : OwnS w' w.heap.size r (setL ds n v)) (hb : Below w.heap.size w w') : SetPost w ds n v (.returned (.tuple #[r, .int .i64 0])) w' := by
  refine ⟨_, by unfold setE; rw [h]; rfl, ?_, hb⟩
  unfold setR; rw [h]; exact ho
theorem txt_ba (n v : ByteArray) : (n ++ (ByteArray.mk #[61]) ++ v).data.toList = txt n.data.toList v.data.toList := by simp [txt]
theorem setP_take {ds : List BL} {n t : BL} {k : Nat} (hk : k < ds.length) : setP (ds.take (k + 1)) n t = setG n t (setP (ds.take k) n t) ds[k] := by
  rw [List.take_succ_eq_append_getElem hk, setP_snoc]
theorem setL_done {ds : List BL} {n v : BL} (h : (setP ds n (txt n v)).2 = true) : setL ds n v = (setP ds n (txt n v)).1 := by unfold setL; rw [if_pos h]
theorem setL_not {ds : List BL} {n v : BL} (h : (setP ds n (txt n v)).2 = false) : setL ds n v = (setP ds n (txt n v)).1 ++ [txt n v] := by unfold setL; rw [if_neg (by rw [h]; simp)]

set_option maxHeartbeats 4000000 in
theorem setE_any (a : Option Addr) (len cap : Nat) (ds : List BL) (n v : ByteArray) (w : World) (hB : Cel w a len (strs ds)) (hl : len ≤ 4000000000000) (hs : ∀ p ∈ ds, p.length ≤ 140737488351232) (hn : n.size ≤ 1000000) (hv : v.size ≤ 1000000) :
    Calls Try.prog 19 #[.slice a len cap, .string n, .string v] w (SetPost w ds n.data.toList v.data.toList) := by
  obtain ⟨rfl, hat⟩ := cel_str hB
  have HAT := hid hat
  have HS := hid hs
  have HBD := hid (show setBad n.data.toList v.data.toList = (decide (n.data.toList = []) || (decide (61 ∈ n.data.toList) || (decide (0 ∈ n.data.toList) || decide (0 ∈ v.data.toList)))) from rfl)
  have e1 := ba_nil n
  clear hB hat hs
  by_cases h1 : n.data.toList = []
  · rw [decide_eq_true h1] at e1 HBD
    have HF := hid (show setBad n.data.toList v.data.toList = true by rw [HBD.out]; rfl)
    clear h1
    go_enter Try.func19, Try.ntmps19
    go_wp2_with fail
    go_ret2
    exact set_bad HF.out
  rw [decide_eq_false h1] at e1 HBD
  clear h1
  go_enter Try.func19, Try.ntmps19
  go_wp2_with fail
  refine (Try.strings_IndexByte _ _ _).mono ?_
  rintro e' w1 ⟨rfl, hw⟩
  obtain rfl := hw.symm
  rw [show (61 : Int).toNat.toUInt8 = 61 from rfl]
  by_cases h2 : 61 ∈ n.data.toList
  · rw [idx_mem h2]
    rw [decide_eq_true h2] at HBD
    have HF := hid (show setBad n.data.toList v.data.toList = true by rw [HBD.out]; rfl)
    clear h2
    go_wp2_with fail
    go_ret2
    exact set_bad HF.out
  rw [idx_no h2]
  rw [decide_eq_false h2] at HBD
  clear h2
  go_wp2_with fail
  refine (hasNought_any _ _).mono ?_
  rintro e' w1 ⟨rfl, rfl⟩
  have H0 := hid (show has0 n.data.toList = decide (0 ∈ n.data.toList) from rfl)
  rw [← H0.out] at HBD
  cases h3 : has0 n.data.toList
  case true =>
    rw [h3] at HBD
    have HF := hid (show setBad n.data.toList v.data.toList = true by rw [HBD.out]; rfl)
    clear h3
    go_wp2_with fail
    go_ret2
    exact set_bad HF.out
  rw [h3] at HBD
  clear h3
  go_wp2_with fail
  refine (hasNought_any _ _).mono ?_
  rintro e' w1 ⟨rfl, rfl⟩
  have H0 := hid (show has0 v.data.toList = decide (0 ∈ v.data.toList) from rfl)
  rw [← H0.out] at HBD
  cases h3 : has0 v.data.toList
  case true =>
    rw [h3] at HBD
    have HF := hid (show setBad n.data.toList v.data.toList = true by rw [HBD.out]; rfl)
    clear h3
    go_wp2_with fail
    go_ret2
    exact set_bad HF.out
  rw [h3] at HBD
  have HF := hid (show setBad n.data.toList v.data.toList = false by rw [HBD.out]; rfl)
  clear h3 HBD e1
  have HTX := hid (txt_ba n v)
  go_wp2_with fail
  have HLN := hid (fun k => le_take (f := fun l => (setP l n.data.toList (txt n.data.toList v.data.toList)).1) (fun l => setP_le l _ _) (ds := ds) k hl)
  go_loopw [8, 9, 29] (fun v' d i wr => ∃ k : Nat, k ≤ ds.length ∧ i = .int .i64 k ∧ OwnS wr w.heap.size v' (setP (ds.take k) n.data.toList (txt n.data.toList v.data.toList)).1 ∧ d = .bool (setP (ds.take k) n.data.toList (txt n.data.toList v.data.toList)).2 ∧ Below w.heap.size w wr) (fun _ _ i _ => ds.length - (intOf i).toNat)
  case atStart => exact ⟨0, Nat.zero_le _, rfl, ownS_nil _ _, rfl, Below.refl _ _⟩
  case round =>
    obtain ⟨k, hk, rfl, ho, rfl, hb⟩ := hrel
    have HO := hid ho
    have HB := hid hb
    clear ho hb
    by_cases hlt : k < ds.length
    · have d1 : decide ((k : Int) < (ds.length : Int)) = true := by simp; omega
      obtain ⟨b, off, rfl, hc⟩ := HAT.out (by omega)
      have hx := keepC HB.out (hc k hlt)
      have HX := hid hx
      have hz : (ba ds[k]).size ≤ 140737488351232 := by rw [ba_size]; exact HS.out _ (List.getElem_mem hlt)
      have HZ := hid hz
      have HSN := hid (setP_take (n := n.data.toList) (t := txt n.data.toList v.data.toList) hlt)
      have HLK := hid (HLN.out k)
      clear hc hz
      generalize setP (ds.take k) n.data.toList (txt n.data.toList v.data.toList) = st at *
      obtain ⟨st, sd⟩ := st
      go_wp2_with fail
      refine (names_any _ _ _ HZ.out).mono ?_
      rintro e' w1 ⟨rfl, m1, hw1⟩
      rw [ba_list]
      have hb1 : Below wr.heap.size wr w1 := by rw [hw1]; exact drewN_below _ _
      have HO1 := hid (own_below HO.out hb1)
      have HB1 := hid (bthen HB.out hb1)
      clear hw1 hx hb1
      obtain ⟨a9, c9, rfl, _⟩ := own_cel HO1.out
      cases hnm : named ds[k] n.data.toList
      · have HK := hid (show setP (ds.take (k + 1)) n.data.toList (txt n.data.toList v.data.toList) = (st ++ [ds[k]], sd) by rw [HSN.out]; unfold setG; rw [hnm]; rfl)
        clear hnm HSN
        go_wp2_with (at_builtin; go_must (refine wpList_appS rfl _ _ rfl w.heap.size (Value.slice a9 st.length c9) (st) (ba ds[k]) rfl rfl HO1.out HLK.out HB1.out.size ?_; intro v' w9 hown hgrow hb9 _ hat; have HO9 := hid hown; have HB9 := hid hb9; obtain ⟨a8, c8, rfl, _⟩ := own_cel hown; clear hown hgrow hb9 hat))
        go_roundw
        case rel => exact ⟨k + 1, by omega, by go_num, ownS_of HO9.out (by rw [HK.out]; rfl), by rw [HK.out], HB1.out.trans HB9.out⟩
        case measure => simp [intOf]; omega
      · cases sd
        · have HK := hid (show setP (ds.take (k + 1)) n.data.toList (txt n.data.toList v.data.toList) = (st ++ [txt n.data.toList v.data.toList], true) by rw [HSN.out]; unfold setG; rw [hnm]; rfl)
          clear hnm HSN
          go_wp2_with (at_builtin; go_must (refine wpList_appS rfl _ _ rfl w.heap.size (Value.slice a9 st.length c9) (st) (n ++ (ByteArray.mk #[61]) ++ v) rfl rfl HO1.out HLK.out HB1.out.size ?_; intro v' w9 hown hgrow hb9 _ hat; have HO9 := hid hown; have HB9 := hid hb9; obtain ⟨a8, c8, rfl, _⟩ := own_cel hown; clear hown hgrow hb9 hat))
          go_roundw
          case rel => exact ⟨k + 1, by omega, by go_num, ownS_of HO9.out (by rw [HK.out, HTX.out]), by rw [HK.out], HB1.out.trans HB9.out⟩
          case measure => simp [intOf]; omega
        · have HK := hid (show setP (ds.take (k + 1)) n.data.toList (txt n.data.toList v.data.toList) = (st, true) by rw [HSN.out]; unfold setG; rw [hnm]; rfl)
          clear hnm HSN
          go_wp2_with fail
          go_roundw
          case rel => exact ⟨k + 1, by omega, by go_num, by rw [HK.out]; exact HO1.out, by rw [HK.out], HB1.out⟩
          case measure => simp [intOf]; omega
    · have d1 : decide ((k : Int) < (ds.length : Int)) = false := by simp; omega
      obtain rfl : k = ds.length := by omega
      have HLK := hid (HLN.out ds.length)
      rw [List.take_length] at HO HLK ⊢
      have H1 := hid (setL_done (ds := ds) (n := n.data.toList) (v := v.data.toList))
      have H2 := hid (setL_not (ds := ds) (n := n.data.toList) (v := v.data.toList))
      generalize setP ds n.data.toList (txt n.data.toList v.data.toList) = st at *
      obtain ⟨st, sd⟩ := st
      obtain ⟨a9, c9, rfl, _⟩ := own_cel HO.out
      cases sd
      · go_wp2_with (at_builtin; go_must (refine wpList_appS rfl _ _ rfl w.heap.size (Value.slice a9 st.length c9) (st) (n ++ (ByteArray.mk #[61]) ++ v) rfl rfl HO.out HLK.out HB.out.size ?_; intro v' w9 hown hgrow hb9 _ hat; have HO9 := hid hown; have HB9 := hid hb9; obtain ⟨a8, c8, rfl, _⟩ := own_cel hown; clear hown hgrow hb9 hat))
        go_ret2
        exact set_good HF.out (ownS_of HO9.out (by rw [H2.out (by trivial), HTX.out])) (HB.out.trans HB9.out)
      · go_wp2_with fail
        go_ret2
        exact set_good HF.out (by rw [H1.out (by trivial)]; exact HO.out) HB.out
end Go.Proofs.Ytoikoljadgnebaa
