
/- CallsOne: its walk. -/
import Derived.Test.YtcbkikioapdbbaaDoorCe6
import Derived.Test.YtcbkikioapdbbaaDoorCe7
namespace Go.Proofs.YtcbkikioapdbbaaDoor
open Go.RowKit Go.Sort
attribute [local go_sem] Oper.semAt_some

theorem readC_bad {l : BL} (h : (readC l).2.2 ≠ 0) : (readC l).1 = pc0 0 ∧ (readC l).2.1 = 0 := by
  cases l with
  | nil => exact ⟨rfl, rfl⟩
  | cons c lt =>
    rw [readC_cons] at h ⊢
    split
    · rename_i hk
      rw [if_pos hk] at h
      split
      · exact ⟨rfl, rfl⟩
      · rename_i hs
        rw [if_neg hs] at h
        split
        · rename_i hc
          rw [if_pos hc] at h
          exact absurd rfl h
        · exact ⟨rfl, rfl⟩
    · exact ⟨rfl, rfl⟩
theorem zero_ok (w : World) : CGok w (cgOf (pc0 0)) := ⟨Cel.nil _ _, Cel.nil _ _, Byt.nil _ _, by decide, by decide, by decide, by decide, by decide, by decide, Nat.zero_le _, Nat.zero_le _, Nat.zero_le _, (fun _ h => by cases h), (fun _ h => by cases h), Nat.zero_le _, fun _ => rfl, fun _ => rfl, fun _ => rfl⟩

set_option maxRecDepth 100000 in
set_option maxHeartbeats 4000000 in
theorem callsOne_walk (a : Option Addr) (len cap : Nat) (l : BL) (w : World) (hs : Sizes w) (hB : Byt w a len l) (hlc : len ≤ cap) (hcm : cap ≤ maxLen) :
    Calls Tryd.prog 8 #[.slice a len cap] w fun e w' => e = .returned (.bool true) ∧ Below w.heap.size w w' := by
  obtain rfl := hB.hlen
  have HS := hid (fun (w' : World) (hb : Below w.heap.size w w') => hs.below hb)
  have HG := hid (fun (w' : World) (hb : Below w.heap.size w w') => Nat.lt_of_lt_of_le hs.lt hb.size)
  have HB := hid hB
  have HLC := hid hlc
  have HWK := hid (fun (w' : World) (hb : Below w.heap.size w w') => works25_any w' (hs.below hb) (Nat.lt_of_lt_of_le hs.lt hb.size))
  have hm : cap ≤ 9223372036854775807 := hcm
  have HRD := hid (fun (h1 : l.length ≤ 1000000) => read25_o a cap l w hs hB h1 hlc)
  clear hs hB
  by_cases hlg : 131072 < l.length
  · have d1 : decide ((131072 : Int) < (l.length : Int)) = true := by simp; omega
    have d1n : decide (131072 < l.length) = true := by simp; omega
    go_enter Tryd.func8, Tryd.ntmps8
    go_wp2_with fail
    refine (HWK.out w (Below.refl _ _)).mono ?_
    rintro e' w5 ⟨rfl, hb5⟩
    have HL5 := hid hb5
    clear hb5
    go_wp2_with fail
    go_ret
    exact ⟨rfl, HL5.out⟩
  · have d1 : decide ((131072 : Int) < (l.length : Int)) = false := by simp; omega
    have d1n : decide (131072 < l.length) = false := by simp; omega
    have HLG := hid hlg
    have HRB := hid (readC_b l)
    go_enter Tryd.func8, Tryd.ntmps8
    go_wp2_with fail
    refine (HRD.out (by omega)).mono ?_
    intro e' w3 h3
    obtain ⟨x, rfl, hpx, hb3, hox⟩ := h3.q
    obtain ⟨w4, hw4⟩ : ∃ w4, w4 = w3.alloc (.cells (cgC x).toArray 26) := ⟨_, rfl⟩
    have HPX := hid hpx
    have HW4 := hid hw4
    have HXO := hid (show CGok w4 x from (hox.below (by rw [hw4]; exact bal _)).ok (L := l.length) (by rw [hpx]; exact HRB.out.1) (by omega) (by
      have e : x.bytes.length = (pcOf x).bytes.length := rfl
      rw [e, hpx]
      have := HRB.out.2.1
      omega))
    have HB4 := hid (show Below w.heap.size w w4 by rw [hw4]; exact bal2' hb3 _)
    have HR4 := hid (show Row w4 w3.heap.size 26 (cgC x) by rw [hw4]; exact Row.new w3 _ _)
    clear h3 hpx hb3 hox hw4 HRD
    obtain ⟨p0, p1, p2, p3, p4, p5, p6, p7, p8, p9⟩ := HR4.out.ten
    by_cases he : (readC l).2.2 = 0
    · obtain ⟨f1, f2, f3, f4⟩ := form_readC he
      rw [he]
      have HN := hid HRB.out.2.2
      generalize hn : (readC l).2.1 = n at *
      have g1 : decide ((n : Int) < 1) = false := by simp; omega
      have g2 : decide ((l.length : Int) < (n : Int)) = false := by simp; omega
      have g2n : decide (l.length < n) = false := by simp; omega
      have HFX := hid (show chkC x = 0 ∧ frmB x = l.take n from by
        have hc : chkC x = 0 := by rw [chk_pc, HPX.out]; exact f3
        refine ⟨hc, ?_⟩
        unfold frmB
        rw [if_pos hc]
        have e : formB x = formB (cgOf (pcOf x)) := rfl
        rw [e, HPX.out]
        exact f4)
      have HPL := hid (show x.path.length ≤ 1000000 from by
        have h1 := HRB.out.1.path
        have e : x.path = (pcOf x).path := rfl
        rw [e, HPX.out]
        omega)
      have HF := hid (show Calls Tryd.prog 16 #[cgV x] w4 (FormQ x w4) from (form25_any x w4 (HS.out w4 HB4.out) HXO.out HPL.out (HG.out w4 HB4.out)).mono fun _ _ h => h.q)
      have hsl := slTo .i64 a l.length cap n (n : Int) rfl (by omega)
      have HNB := hid (show n ≤ l.length ∧ (l.take n).length = n from ⟨f2, by rw [List.length_take]; omega⟩)
      clear f1 f2 f3 f4 hn he
      go_wp2_with fail
      rw [← HW4.out]
      refine HF.out.mono ?_
      rintro e' w5 ⟨a5, n5, rfl, ho5, hb5⟩
      rw [HFX.out.2] at ho5 ⊢
      rw [HFX.out.1, HNB.out.2]
      have HB5 := hid (HB4.out.trans (hb5.mono HB4.out.size))
      have HO5 := hid (show w5.ownsRow w4.heap.size 5 1 (.slice a5 n n5) n ((l.take n).map B8) from by
        have := ho5
        unfold OwnBy at this
        rw [HNB.out.2] at this
        exact this)
      have HEB := hid (show Calls Tryd.prog 18 #[.slice a5 n n5, .slice a n cap] w5 (fun e w' => e = .returned (.bool true) ∧ ∃ q, w' = w5.drewN q) from by
        obtain ⟨b1, m1, q1, k1, _⟩ := own_cel HO5.out
        cases q1
        have h := eqBytes_any a5 a n n5 n cap (l.take n) (l.take n) w5 (cel_byt k1) ((HB.out.below' HB5.out).upto HNB.out.1) (by have := HNB.out.1; omega) (by have := HNB.out.1; omega)
        rw [eqB_self] at h
        exact h)
      clear ho5 hb5 HF p0 p1 p2 p3 p4 p5 p6 p7 p8 p9
      go_wp2_with fail
      refine HEB.out.mono ?_
      rintro e' w6 ⟨rfl, q6, rfl⟩
      have HB6 := hid (bdN HB5.out q6)
      go_wp2_with fail
      refine (HWK.out _ HB6.out).mono ?_
      rintro e' w7 ⟨rfl, hb7⟩
      have HL7 := hid (HB6.out.trans (hb7.mono HB6.out.size))
      clear hb7
      go_wp2_with fail
      go_ret
      exact ⟨rfl, HL7.out⟩
    · obtain ⟨r1, r2⟩ := readC_bad he
      have hn := bne_t he
      have hn2 := beq_f he
      have HSM := hid (show Calls Tryd.prog 15 #[cgV x, .agg #[.int .u8 0, .int .u64 0, .int .u64 0, .int .u64 0, .int .u64 0, .int .u64 0, .string { data := #[] }, .slice none 0 0, .slice none 0 0, .slice none 0 0]] w4 (fun e w' => e = .returned (.bool true) ∧ Below w4.heap.size w4 w') from same_eq (x := x) (y := cgOf (pc0 0)) w4 HXO.out (zero_ok w4) (HPX.out.trans r1))
      rw [r2]
      clear r1 r2 he
      generalize (readC l).2.2 = er at *
      go_wp2_with fail
      rw [← HW4.out]
      refine HSM.out.mono ?_
      rintro e' w5 ⟨rfl, hb5⟩
      have HB5 := hid (HB4.out.trans (hb5.mono HB4.out.size))
      clear hb5 p0 p1 p2 p3 p4 p5 p6 p7 p8 p9
      go_wp2_with fail
      refine (HWK.out _ HB5.out).mono ?_
      rintro e' w7 ⟨rfl, hb7⟩
      have HL7 := hid (HB5.out.trans (hb7.mono HB5.out.size))
      clear hb7
      go_wp2_with fail
      go_ret
      exact ⟨rfl, HL7.out⟩
end Go.Proofs.YtcbkikioapdbbaaDoor
