
/- stack.put: numbers behind bytes. -/
import Derived.Test.YtihaakcfegelkaaDoorTl1
import Derived.Test.YtihaakcfegelkaaDoorWS
import Derived.Test.YtihaakcfegelkaaDoorSL
namespace Go.Proofs.YtihaakcfegelkaaDoor
open Go.RowKit Go.Sort
attribute [local go_sem] Oper.semAt_some

abbrev OwnBy (w : World) (base : Nat) (v : Value) (l : BL) : Prop := w.ownsRow base 5 1 v l.length (l.map B8)
theorem ownBy_nil (w : World) (base : Nat) : OwnBy w base (.slice none 0 0) [] := World.ownsRow_nil _ _ _ _
theorem b8_ones (l : BL) : ∀ u ∈ l.map B8, u.oneCell' = true := by
  intro u hu
  obtain ⟨x, _, rfl⟩ := List.mem_map.1 hu
  rfl
theorem Row.celB {w : World} {g : Nat} {E : TypeId} {l : BL} (h : Row w g E (l.map B8)) : Cel w (some ⟨g, 0, none⟩) l.length (l.map B8) := by
  have := Row.cel (cs := l.map B8) (rest := []) (by rw [List.append_nil]; exact h)
  rwa [List.length_map] at this
theorem numsB_take {xs : List Nat} {k : Nat} (hk : k < xs.length) : numsB (xs.take (k + 1)) = numsB (xs.take k) ++ leB xs[k] 8 := by
  rw [List.take_succ_eq_append_getElem hk, numsB_app, numsB_one]
theorem ownBy_app {w : World} {base n : Nat} {v : Value} {a b c : BL} (h : w.ownsRow base 5 1 v n (a.map B8 ++ b.map B8)) (hc : c = a ++ b) : OwnBy w base v c := by
  subst hc
  refine own_ext h ?_ (by simp)
  have := h.1
  simp at this ⊢
  omega
theorem Sizes.belowB {w w' : World} {B : Nat} (h : Sizes w) (hb : Below B w w') (hg : 1 < B) : Sizes w' := by
  have e : ∀ o, w'.cell? ⟨1, o, none⟩ = w.cell? ⟨1, o, none⟩ := fun o => hb.cell (p := ⟨1, o, none⟩) hg
  exact ⟨(e 0).trans h.c0, (e 1).trans h.c1, (e 2).trans h.c2, (e 3).trans h.c3⟩
theorem infoBy : (Tryd.prog.info? 5).map (fun i => (i.zero, i.size, i.bytes)) = some (some (.int .u8 0), 1, 1) := by kernel_rfl
theorem rep_b8 (n : Nat) : List.replicate n (Value.int .u8 0) = (List.replicate n (0 : UInt8)).map B8 := by simp [B8]

set_option maxRecDepth 100000 in
set_option maxHeartbeats 4000000 in
theorem put_any (base : Nat) (v : Value) (l : BL) (G xc : Nat) (xs : List Nat) (w : World) (hs : Sizes w) (hv : OwnBy w base v l) (hX : Row w G 30 (u64s xs)) (hbase : base ≤ w.heap.size) (hn : xs.length ≤ 1000) (hl : l.length ≤ 1000000)
    (hg : 1 < base) :
    Calls Tryd.prog 23 #[v, .slice (some ⟨G, 0, none⟩) xs.length xc] w fun e w' => ∃ v', e = .returned v' ∧ OwnBy w' base v' (l ++ numsB xs) ∧ Below base w w' := by
  obtain ⟨va, vc, rfl⟩ := own_hd2 hv
  have HV := hid hv
  have HX := hid hX
  have HBA := hid hbase
  have HS := hid hs
  have HG := hid hg
  clear hs hv hX hbase hg
  go_enter Tryd.func23, Tryd.ntmps23
  go_wp2_with fail
  go_loopw [0, 11] (fun v i wr => ∃ k : Nat, k ≤ xs.length ∧ i = .int .i64 k ∧ OwnBy wr base v (l ++ numsB (xs.take k)) ∧ Below base w wr ∧ Row wr G 30 (u64s xs)) (fun _ i _ => xs.length - (intOf i).toNat)
  case atStart => exact ⟨0, Nat.zero_le _, rfl, by simpa [numsB] using HV.out, Below.refl _ _, HX.out⟩
  case round =>
    obtain ⟨k, hk, rfl, hown, hbw, hrx⟩ := hrel
    have HRX := hid hrx
    have hnl : (l ++ numsB (xs.take k)).length ≤ 1008000 := by simp [numsB_len]; omega
    obtain ⟨N, hN⟩ : ∃ N, N = (l ++ numsB (xs.take k)).length := ⟨_, rfl⟩
    have hown2 := own_ext hown hN.symm rfl
    rw [← hN] at hnl
    clear hown
    obtain ⟨ua, uc, rfl⟩ := own_hd2 hown2
    have HO := hid hown2
    have HNN := hid hN
    have HBW := hid hbw
    clear hown2 hbw hN hrx
    by_cases hlt : k < xs.length
    · have d1 : decide ((k : Int) < (xs.length : Int)) = true := by simp; omega
      have d1n : decide (k < xs.length) = true := by simp; omega
      have hx : wr.cell? ⟨G, k, none⟩ = some (.int .u64 (xs[k] : Int)) := by
        have := HRX.out.cell k (by simp [u64s]; omega)
        rw [this]; simp [u64s]
      have hlG := HRX.out.lt
      have HNT := hid (numsB_take hlt)
      have HNL := hid hnl
      have HAS := hid (List.append_assoc l (numsB (xs.take k)) (leB xs[k] 8))
      have HSN := hid (fun (w1 : World) (hb : Below base w w1) (g : Nat) (hB : Byt w1 (some ⟨g, 0, none⟩) 8 (List.replicate 8 0)) => set_new g 8 xs[k] w1 (HS.out.belowB hb HG.out) (by decide) hB)
      generalize xs[k] = x at *
      generalize l ++ numsB (xs.take k) = l1 at *
      have HNa := hid (show (N + 8) * 1 ≤ 140737488355328 by omega)
      have HNb := hid (show N + 8 ≤ maxLen by unfold maxLen; omega)
      clear hnl
      go_wp2_with (at_make; refine wpList_make_row _ rfl _ _ 29 rfl 5 (.int .u8 0) 1 Tryd.underlying29 infoBy rfl .i64 .i64 _ _ 8 rfl rfl rfl rfl (by decide) (by decide) ?_; intro w1 hr1 hb1 hs1; have HR1 := hid hr1; have HB1 := hid hb1; clear hr1 hb1 hs1)
      have HBW1 := hid (show Below base w w1 from HBW.out.trans (HB1.out.mono (Nat.le_trans HBA.out HBW.out.size)))
      refine (HSN.out w1 HBW1.out wr.heap.size (Row.byt (l := List.replicate 8 0) (rest := []) (by rw [List.append_nil, ← rep_b8]; exact HR1.out) (by simp))).mono ?_
      rintro e' w2 ⟨rfl, hr2, hb2⟩
      have HR2 := hid hr2
      have HB2 := hid hb2
      have HBW2 := hid (show Below base w w2 from HBW1.out.trans (HB2.out.mono (Nat.le_trans HBA.out HBW1.out.size)))
      have HO2 := hid (own_below (own_below HO.out HB1.out) HB2.out)
      have HC2 := hid (HR2.out.celB)
      rw [leB_len] at HC2
      have HZ2 := hid (Nat.le_trans HBA.out HBW2.out.size)
      clear hr2 hb2
      go_wp2_with (at_builtin; go_must (refine wpList_ap1 Tryd.underlying29 infoBy rfl rfl _ _ rfl base (.slice ua N uc) N (l1.map B8) ((leB x 8).map B8) rfl (some ⟨w1.heap.size, 0, none⟩) 8 8 rfl HO2.out HC2.out (b8_ones _) (fun h => by cases h) HNa.out HNb.out HZ2.out ?_; intro v' w9 hown hgrow hb9; have HO9 := hid hown; have HB9 := hid hb9; have HX9 := hid (row_grown ((HRX.out.below HB1.out HRX.out.lt).below HB2.out (Nat.lt_of_lt_of_le HRX.out.lt HB1.out.size)) HO2.out (by decide) hgrow); obtain ⟨ga, gc, rfl⟩ := own_hd2 hown; clear hown hgrow hb9))
      go_roundw
      case rel => exact ⟨k + 1, by omega, by go_num, ownBy_app HO9.out (by rw [HNT.out, ← HAS.out]), HBW2.out.trans HB9.out, HX9.out⟩
      case measure => simp [intOf]; omega
    · have d1 : decide ((k : Int) < (xs.length : Int)) = false := by simp; omega
      have d1n : decide (k < xs.length) = false := by simp; omega
      have HT := hid (show xs.take k = xs by rw [List.take_of_length_le (by omega)])
      clear hnl
      go_wp2_with fail
      go_ret
      exact ⟨_, rfl, own_ext HO.out (by rw [HNN.out, HT.out]) (by rw [HT.out]), HBW.out⟩
end Go.Proofs.YtihaakcfegelkaaDoor
