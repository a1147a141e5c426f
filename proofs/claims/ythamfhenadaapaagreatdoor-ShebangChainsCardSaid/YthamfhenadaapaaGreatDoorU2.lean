
/- shebang: together, Argv; the reference's Argv. -/
import Derived.Test.YthamfhenadaapaaGreatDoorU0
import Derived.Test.YthamfhenadaapaaGreatDoorYJ
import Derived.Test.YthamfhenadaapaaGreatDoorAN
namespace Go.Proofs.YthamfhenadaapaaGreatDoor
open Go.RowKit Go.Sort
attribute [local go_sem] Oper.semAt_some

theorem Cel.news' {w : World} {a : Option Addr} {len : Nat} {cs : List Value} (h : Cel w a len cs) : ∀ ad, a = some ad → ∀ j u, cs[j]? = some u → w.cell? (ad.add j) = some u := fun ad e => Cel.news (e ▸ h)
theorem Row.cel {w : World} {g n : Nat} {E : TypeId} {cs : List Value} (h : Row w g E cs) (hn : cs.length = n) : Cel w (some ⟨g, 0, none⟩) n cs :=
  ⟨hn, fun i hi => ⟨g, 0, rfl, by rw [Nat.zero_add]; exact h.cell i hi⟩⟩
theorem cel_len {w : World} {a : Option Addr} {n : Nat} {ds : List BL} (h : Cel w a n (strs ds)) : ds.length = n := by have := h.hlen; rwa [strsS_len] at this

set_option maxRecDepth 100000 in
set_option maxHeartbeats 4000000 in
theorem together_any (ar : Option Addr) (n cr : Nat) (rest : List BL) (b m c : Nat) (first : List BL) (w : World) (hR : Cel w ar n (strs rest)) (hcr : n ≤ cr) (hn : n ≤ 1000000) (hF : Cel w (some ⟨b, 0, none⟩) m (strs first)) (hm : m ≤ 3) :
    Calls Tryz.prog 50 #[.slice ar n cr, .slice (some ⟨b, 0, none⟩) m c] w (OwnPost w (first ++ rest.drop 1)) := by
  obtain ⟨i0, hi0, hz0, hz1, hz2⟩ := info_parts infoS
  have hnl := cel_len hR
  have hml := cel_len hF
  have HN1 := hid (show (strs first).length = m * 1 by rw [strsS_len]; omega)
  have HN2 := hid (fun ad (h : some (⟨b, 0, none⟩ : Addr) = some ad) => hF.news' ad h)
  have HN3 := hid (show some (⟨b, 0, none⟩ : Addr) = none → m = 0 ∧ c = 0 from fun h => by cases h)
  have HN4 := hid (strsS_one first)
  have HN5 := hid (show m ≤ maxLen by unfold maxLen; omega)
  have HN6 := hid (show m * 16 ≤ 140737488355328 by omega)
  by_cases h0 : 0 < n
  · have d1 : decide ((0 : Int) < (n : Int)) = true := by simp; omega
    have d1n : decide (0 < n) = true := by simp; omega
    obtain ⟨x, r, rfl⟩ : ∃ x r, rest = x :: r := by
      cases rest with
      | nil => simp at hnl; omega
      | cons x r => exact ⟨x, r, rfl⟩
    obtain ⟨k, rfl⟩ : ∃ k, n = k + 1 := ⟨n - 1, by omega⟩
    obtain ⟨b2, o2, rfl, _⟩ := hR.some_of (by simp [strs])
    obtain ⟨aR, hsl, hcr2⟩ := tail_slice b2 o2 cr k hcr
    have HC := hid (fun (wz : World) (hz : Below w.heap.size w wz) => hcr2 wz _ (strs r) (hR.below' hz))
    have HM := hid (show (strs r).length = k * 1 by rw [strsS_len]; simp at hnl; omega)
    have HM1 := hid (strsS_one r)
    have HM2 := hid (show m + k ≤ maxLen by unfold maxLen; omega)
    have HM3 := hid (show (m + k) * 16 ≤ 140737488355328 by omega)
    have HL := hid (show m + k = (first ++ r).length by simp at hnl ⊢; omega)
    have HS := hid (strsS_app first r)
    simp only [List.drop_succ_cons, List.drop_zero]
    clear hR hF hcr hn hm hnl hml hcr2 h0
    go_enter Tryz.func50, Tryz.ntmps50
    go_wp2_with (at_builtin; go_must (first | (refine wpList_append_nil rfl _ _ 27 rfl 9 i0 (.string ByteArray.empty) 1 16 Tryz.underlying27 hi0 hz0 hz1 hz2 rfl (by decide) rfl (some ⟨b, 0, none⟩) m c rfl (strs first) HN1.out HN2.out HN3.out HN4.out HN5.out HN6.out ?_; intro v2 w2 hown hgrow; have HO := hid hown; have HG := hid ((Below.refl _ w).grown hgrow (Nat.le_refl _) (fun k hk => by cases hk)); clear hown hgrow) | (refine wpList_append_own_at _ rfl _ _ 27 rfl w.heap.size 9 i0 (.string ByteArray.empty) 1 16 Tryz.underlying27 hi0 hz0 hz1 hz2 rfl (by decide) v2 m (strs first) rfl HO.out aR k (cr - 1) (strs r) rfl HM.out (HC.out _ HG.out).news HM1.out HM2.out HM3.out HG.out.size ?_; intro v3 w3 hown hgrow _ _; have HO2 := hid hown; have HG2 := hid (HG.out.grown hgrow HG.out.size (fun k hk => own_low HO.out (Nat.le_refl _) k hk)); clear hown hgrow)))
    go_ret
    exact ⟨_, rfl, own_ext HO2.out HL.out HS.out.symm, HG2.out⟩
  · have d1 : decide ((0 : Int) < (n : Int)) = false := by simp; omega
    have d1n : decide (0 < n) = false := by simp; omega
    have HE : Hid (first ++ rest.drop 1 = first) := hid (by rw [List.drop_eq_nil_of_le (by omega), List.append_nil])
    rw [HE.out]
    clear hR hF hcr hn hm hnl h0
    go_enter Tryz.func50, Tryz.ntmps50
    go_wp2_with (at_builtin; go_must (refine wpList_append_nil rfl _ _ 27 rfl 9 i0 (.string ByteArray.empty) 1 16 Tryz.underlying27 hi0 hz0 hz1 hz2 rfl (by decide) rfl (some ⟨b, 0, none⟩) m c rfl (strs first) HN1.out HN2.out HN3.out HN4.out HN5.out HN6.out ?_; intro v2 w2 hown hgrow; have HO := hid hown; have HG := hid ((Below.refl _ w).grown hgrow (Nat.le_refl _) (fun k hk => by cases hk)); clear hown hgrow))
    go_ret
    exact ⟨_, rfl, own_ext HO.out hml.symm rfl, HG.out⟩

set_option maxRecDepth 100000 in
set_option maxHeartbeats 4000000 in
theorem argv_any (i a p : BL) (ar : Option Addr) (n cr : Nat) (rest : List BL) (w : World) (hR : Cel w ar n (strs rest)) (hcr : n ≤ cr) (hn : n ≤ 1000000) :
    Calls Tryz.prog 24 #[.string (ba i), .string (ba a), .string (ba p), .slice ar n cr] w (OwnPost w (argvL i a p rest)) := by
  have hq := ba_nil (ba a)
  rw [show (ba a).data.toList = a from rfl] at hq
  by_cases h : a = []
  · rw [decide_eq_true h] at hq
    have HE : Hid (argvL i a p rest = [i, p] ++ rest.drop 1) := hid (by unfold argvL; rw [if_pos h])
    have HW := hid (show Below w.heap.size w (w.alloc (.cells #[.string (ba i), .string (ba p)] 9)) from bal _)
    have hrow := Row.new w 9 [.string (ba i), .string (ba p)]
    have HT := hid (together_any ar n cr rest w.heap.size 2 2 [i, p] _ (hR.below' HW.out) hcr hn (Row.cel hrow rfl) (by omega))
    clear hrow h
    go_enter Tryz.func24, Tryz.ntmps24
    go_wp2_with fail
    refine (HT.out).mono ?_
    rintro e w1 ⟨v, rfl, ho, hb⟩
    have HO := hid (own_from ho HW.out.size)
    have HB := hid (bthen HW.out hb)
    clear ho hb
    go_wp2_with fail
    go_ret
    rw [HE.out]
    exact ⟨_, rfl, HO.out, HB.out⟩
  · rw [decide_eq_false h] at hq
    have HE : Hid (argvL i a p rest = [i, a, p] ++ rest.drop 1) := hid (by unfold argvL; rw [if_neg h])
    have HW := hid (show Below w.heap.size w (w.alloc (.cells #[.string (ba i), .string (ba a), .string (ba p)] 9)) from bal _)
    have hrow := Row.new w 9 [.string (ba i), .string (ba a), .string (ba p)]
    have HT := hid (together_any ar n cr rest w.heap.size 3 3 [i, a, p] _ (hR.below' HW.out) hcr hn (Row.cel hrow rfl) (by omega))
    clear hrow h
    go_enter Tryz.func24, Tryz.ntmps24
    go_wp2_with fail
    refine (HT.out).mono ?_
    rintro e w1 ⟨v, rfl, ho, hb⟩
    have HO := hid (own_from ho HW.out.size)
    have HB := hid (bthen HW.out hb)
    clear ho hb
    go_wp2_with fail
    go_ret
    rw [HE.out]
    exact ⟨_, rfl, HO.out, HB.out⟩
end Go.Proofs.YthamfhenadaapaaGreatDoor
