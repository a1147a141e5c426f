
/- shebang.Parse. -/
import Derived.Test.YthamfhenadaapaaGreatDoorU3
import Derived.Lib.SlBytesRowKit
import Derived.Lib.SlBytesConst
namespace Go.Proofs.YthamfhenadaapaaGreatDoor
open Go.RowKit Go.Sort
attribute [local go_sem] Oper.semAt_some

def numsB (l : BL) : List Int := l.map fun c => (c.toNat : Int)
theorem numsB_len (l : BL) : (numsB l).length = l.length := by simp [numsB]
theorem bytesOf_numsB (l : BL) : Lib.bytesOf (numsB l) = l := by
  unfold Lib.bytesOf numsB
  rw [List.map_map]
  conv => rhs; rw [← List.map_id l]
  apply List.map_congr_left
  intro c _
  simp
theorem numsB_at (l : BL) (i : Nat) (h : i < l.length) : (numsB l).getD i 0 = (l[i].toNat : Int) := by
  rw [List.getD_eq_getElem?_getD, List.getElem?_eq_getElem (by rw [numsB_len]; exact h)]
  simp [numsB]
theorem Byt.inB {w : World} {a : Option Addr} {n : Nat} {l : BL} (h : Byt w a n l) : Lib.BytesIn w a n (numsB l) := by
  intro hn
  obtain ⟨b, o, rfl, hc⟩ := h.some_of (by rw [h.hlen]; exact hn)
  refine ⟨b, o, rfl, fun i hi => ?_⟩
  have hi2 : i < l.length := by rw [h.hlen]; exact hi
  rw [hc i hi2, numsB_at l i hi2]
theorem bang_prefix (l : BL) : Lib.hasPrefix l [35, 33] = bang l := by
  unfold Lib.hasPrefix bang
  rw [Bool.eq_iff_iff, List.isPrefixOf_iff_prefix, List.prefix_iff_eq_take, decide_eq_true_eq]
  exact eq_comm
theorem bang_len {l : BL} (h : bang l = true) : 2 ≤ l.length := by
  unfold bang at h
  rw [decide_eq_true_eq] at h
  have := congrArg List.length h
  simp at this
  omega
theorem cutp_any (a : Option Addr) (n c g : Nat) (l : BL) (w : World) (hB : Byt w a n l) (hc : n ≤ c) (hG : Byt w (some ⟨g, 0, none⟩) 2 [35, 33]) :
    Calls Tryz.prog 45 #[.slice a n c, .slice (some ⟨g, 0, none⟩) 2 2] w fun e w' => e = .returned (.tuple #[if bang l = true then Lib.fromV a n c 2 else .slice a n c, .bool (bang l)]) ∧ w = w' := by
  refine (Tryz.bytes_CutPrefix_all a (some ⟨g, 0, none⟩) n c 2 2 (numsB l) (numsB [35, 33]) w (by rw [numsB_len]; exact hB.hlen) rfl hc hB.inB hG.inB).mono ?_
  rintro e w' ⟨rfl, rfl⟩
  refine ⟨?_, rfl⟩
  rw [trimPrefixV_eq (by rw [numsB_len]; exact hB.hlen) hB.inB, bytesOf_numsB, bytesOf_numsB, bang_prefix]
  rfl
theorem fromV_byt {b o n c : Nat} (hn : 2 ≤ n) (hc : n ≤ c) : ∃ o2, Lib.fromV (some ⟨b, o, none⟩) n c 2 = .slice (some ⟨b, o2, none⟩) (n - 2) (c - 2) ∧ ∀ (w : World) (l : BL), Byt w (some ⟨b, o, none⟩) n l → Byt w (some ⟨b, o2, none⟩) (n - 2) (l.drop 2) := by
  unfold Lib.fromV
  refine ⟨if c = 2 then o else o + 2, ?_, ?_⟩
  · split
    · rfl
    · simp [Addr.add]
  · intro w l h
    have hl := h.hlen
    refine ⟨by simp; omega, fun i hi => ?_⟩
    have hi2 : i + 2 < l.length := by simp at hi; omega
    rw [if_neg (by omega)]
    obtain ⟨b', o', e, hcell⟩ := h.cell (i + 2) hi2
    cases e
    refine ⟨b, o + 2, rfl, ?_⟩
    rw [show o + 2 + i = o + (i + 2) by omega, hcell]
    simp [Nat.add_comm]
theorem Byt.pre {w : World} {a : Option Addr} {n m : Nat} {l : BL} (h : Byt w a n l) (hm : m ≤ n) : Byt w a m (l.take m) :=
  ⟨by have := h.hlen; simp; omega, fun i hi => by
    have hi' : i < l.length := by simp at hi; omega
    obtain ⟨b, off, e, hc⟩ := h.cell i hi'
    exact ⟨b, off, e, by rw [hc]; simp⟩⟩
theorem upTo_take (x : UInt8) (l : BL) : l.take (upTo x l).length = upTo x l := by
  unfold upTo
  exact (List.prefix_iff_eq_take.1 (List.takeWhile_prefix _)).symm
/-- What Cut gives of a line. -/
theorem cut_any (b o n c g : Nat) (l : BL) (w : World) (hB : Byt w (some ⟨b, o, none⟩) n l) (hc : n ≤ c) (hn : n ≤ 1000000) (hG : Byt w (some ⟨g, 0, none⟩) 1 [10]) :
    Calls Tryz.prog 46 #[.slice (some ⟨b, o, none⟩) n c, .slice (some ⟨g, 0, none⟩) 1 1] w fun e w' => ∃ v t, e = .returned (.tuple #[.slice (some ⟨b, o, none⟩) (upTo 10 l).length c, v, .bool t]) ∧ ∃ q, w' = w.drewN q := by
  have hl := hB.hlen
  obtain ⟨b1, o1, e1, hcl⟩ := hG.inB (by omega)
  cases e1
  have hI := Tryz.bytes_Index_one b o n c g 0 1 (numsB l) 10 w (by rw [numsB_len]; exact hl) (fun i hi => by
    obtain ⟨b2, o2, e2, h2⟩ := hB.inB (by omega)
    cases e2
    exact h2 i hi) (by have := hcl 0 (by omega); rw [Nat.add_zero] at this; exact this)
  rw [bytesOf_numsB, show ((10 : Int)).toNat.toUInt8 = 10 from rfl] at hI
  by_cases h : 10 ∈ l
  · rw [idx_mem h] at hI
    have hlt := upTo_len_lt h
    refine (Tryz.bytes_Cut_of (some ⟨b, o, none⟩) (some ⟨g, 0, none⟩) n c 1 1 _ w hc (by omega) (fun _ => by omega) (by omega) (hI.mono fun _ _ ⟨h1, h2⟩ => ⟨h1, 0, h2⟩)).mono ?_
    rintro e w' ⟨rfl, hq⟩
    unfold Lib.cutV
    rw [if_pos (by omega), Int.toNat_natCast]
    exact ⟨_, _, rfl, hq⟩
  · rw [idx_no h] at hI
    refine (Tryz.bytes_Cut_of (some ⟨b, o, none⟩) (some ⟨g, 0, none⟩) n c 1 1 _ w hc (by omega) (fun h => by omega) (by omega) (hI.mono fun _ _ ⟨h1, h2⟩ => ⟨h1, 0, h2⟩)).mono ?_
    rintro e w' ⟨rfl, hq⟩
    unfold Lib.cutV
    rw [if_neg (by omega), upTo_no h, hl]
    exact ⟨_, _, rfl, hq⟩

theorem indexAny_le (cs : BL) : ∀ l : BL, Lib.indexAny l cs ≤ l.length
  | [] => by rw [Lib.indexAny]; simp
  | b :: l => by
    have ih := indexAny_le cs l
    rw [Lib.indexAny]
    split
    · simp; omega
    · split
      · simp; omega
      · simp; omega
theorem byt_marked (w : World) (E : TypeId) (l : BL) (n p q : Nat) (h : l.length = n) : Byt (w.alloc (.cells (l.map B8).toArray E (p, q))) (some ⟨w.heap.size, 0, none⟩) n l :=
  ⟨h, fun i hi => ⟨w.heap.size, 0, rfl, by
    rw [Nat.zero_add, cell_of_row _ w.heap.size i _ E (p, q) (heap_alloc_new w _)]
    simp [B8, hi]⟩⟩
theorem results_tmp4 {fn : Func} {t u v x : Tmp} (h : fn.results = #[.tmp t, .tmp u, .tmp v, .tmp x]) (tmps : Array Value) (P : Program) (w : World) :
    (results fn tmps).run P w = .ok (.tuple #[tmps.getD t undef, tmps.getD u undef, tmps.getD v undef, tmps.getD x undef]) w := by
  simp [results, h]
def ParPost (w : World) (l : BL) (e : Ending) (w' : World) : Prop := e = .returned (parV (parL l)) ∧ Below w.heap.size w w'
theorem par_ret {w w' : World} {l x a : BL} {t : Bool} {n : Int} {s1 s2 : ByteArray} (h : parL l = (x, a, t, n)) (h1 : s1 = ba x) (h2 : s2 = ba a) (hb : Below w.heap.size w w') : ParPost w l (.returned (.tuple #[.string s1, .string s2, .bool t, .int .i64 n])) w' := by
  subst h1 h2
  exact ⟨by rw [h]; rfl, hb⟩

set_option maxRecDepth 100000 in
set_option maxHeartbeats 8000000 in
theorem parse_any (a : Option Addr) (n c : Nat) (l : BL) (w : World) (hB : Byt w a n l) (hc : n ≤ c) (hn : n ≤ 1000000) :
    Calls Tryz.prog 23 #[.slice a n c] w (ParPost w l) := by
  have hW1 : Below w.heap.size w (w.alloc (.cells #[.int .u8 35, .int .u8 33] 5 (2, 3))) := bal _
  have hr1 := byt_marked w 5 [35, 33] 2 2 3 rfl
  have HP := hid (cutp_any a n c w.heap.size l _ (hB.below' hW1) hc hr1)
  have HW1 := hid hW1
  have HB1 := hid (hB.below' hW1)
  have hnl := hB.hlen
  have hcv : (convert 49 49 (.slice (some ⟨w.heap.size, 0, none⟩) 2 2)).run Tryz.prog (w.alloc (.cells #[.int .u8 35, .int .u8 33] 5)) = .ok (.slice (some ⟨w.heap.size, 0, none⟩) 2 2) (w.alloc (.cells #[.int .u8 35, .int .u8 33] 5 (2, 3))) := Lib.run_convert_bytes_const w 49 5 #[.int .u8 35, .int .u8 33] 2 2 Tryz.underlying49 Tryz.underlying5
  clear hr1 hW1 hB
  cases hbg : bang l
  · rw [hbg] at HP
    have HF := hid (parL_no hbg)
    clear hbg
    go_enter Tryz.func23, Tryz.ntmps23
    go_wp2_with fail
    refine (HP.out).mono ?_
    rintro e' w1 ⟨rfl, rfl⟩
    rw [if_neg (by simp)]
    go_wp2_with fail
    try simp only [Exit.inBlock, Exit.then]
    refine bodyPost_ret (results_tmp4 rfl _ _ _) rfl ?_
    exact par_ret HF.out rfl rfl HW1.out
  · rw [hbg] at HP
    have HBG := hid hbg
    have h2 := bang_len hbg
    obtain ⟨b, o, rfl, _⟩ := HB1.out.some_of (by omega)
    obtain ⟨o2, hfv, hfb⟩ := fromV_byt (b := b) (o := o) (n := n) (c := c) (by omega) hc
    rw [if_pos rfl, hfv] at HP
    have HR := hid (hfb _ l HB1.out)
    generalize hW : w.alloc (.cells #[.int .u8 35, .int .u8 33] 5 (2, 3)) = W1 at *
    have hcv2 : (convert 49 49 (.slice (some ⟨W1.heap.size, 0, none⟩) 1 1)).run Tryz.prog (W1.alloc (.cells #[.int .u8 10] 5)) = .ok (.slice (some ⟨W1.heap.size, 0, none⟩) 1 1) (W1.alloc (.cells #[.int .u8 10] 5 (1, 2))) := Lib.run_convert_bytes_const W1 49 5 #[.int .u8 10] 1 1 Tryz.underlying49 Tryz.underlying5
    have hW2 : Below W1.heap.size W1 (W1.alloc (.cells #[.int .u8 10] 5 (1, 2))) := bal _
    have hr2 := byt_marked W1 5 [10] 1 1 2 rfl
    have HC := hid (cut_any b o2 (n - 2) (c - 2) W1.heap.size (l.drop 2) _ (HR.out.below' hW2) (by omega) (by omega) hr2)
    have HLB := hid ((HR.out.below' hW2).pre (m := (lineL l).length) (by have := upTo_len_le 10 (l.drop 2); simp at this; unfold lineL; omega))
    rw [show (l.drop 2).take (lineL l).length = lineL l from upTo_take 10 _] at HLB
    have HW2 := hid (bthen HW1.out hW2)
    have hll : (lineL l).length ≤ 1000000 := by have := upTo_len_le 10 (l.drop 2); simp at this; unfold lineL; omega
    rw [show (upTo 10 (l.drop 2)).length = (lineL l).length from rfl] at HC
    clear hW2 hr2 hfb hfv hbg HR HB1 h2
    by_cases hlong : 127 < (lineL l).length
    · have HF := hid (parL_long HBG.out hlong)
      have d1 : decide ((127 : Int) < ((lineL l).length : Int)) = true := by simp; omega
      clear HLB
      generalize (lineL l).length = m at *
      go_enter Tryz.func23, Tryz.ntmps23
      go_wp2_with fail
      try rw [hW]
      refine (HP.out).mono ?_
      rintro e' w1 ⟨rfl, rfl⟩
      go_wp2_with fail
      refine (HC.out).mono ?_
      rintro e' w2 ⟨v, t, rfl, q, rfl⟩
      go_wp2_with fail
      try simp only [Exit.inBlock, Exit.then]
      refine bodyPost_ret (results_tmp4 rfl _ _ _) rfl ?_
      exact par_ret HF.out rfl rfl (bdN HW2.out q)
    · have d1 : decide ((127 : Int) < ((lineL l).length : Int)) = false := by simp; omega
      have HST := hid (fun (q : Nat) => (HLB.out.below' (drewN_below _ q)).str (P := Tryz.prog) 49 9 5 (c - 2) Tryz.underlying49 Tryz.underlying5 Tryz.underlying9)
      have HT := hid (fun (wx : World) => trim_any (ba (lineL l)) wx (by rw [ba_size]; exact hll))
      rw [show (ba (lineL l)).data.toList = lineL l from rfl] at HT
      have HLN := hid hlong
      have htl := trS_len (lineL l)
      by_cases hemp : trS (lineL l) = []
      · have HF := hid (parL_empty HBG.out HLN.out hemp)
        rw [hemp] at HT
        have hq := ba_nil (ba [])
        rw [show (ba []).data.toList = ([] : BL) from rfl, decide_eq_true rfl] at hq
        have HM : Hid (ByteArray.mk (lineL l).toArray = ba (lineL l)) := hid rfl
        rw [HM.out] at HST
        clear hemp hlong HLB htl
        generalize ba (lineL l) = LN at *
        generalize (lineL l).length = m at *
        go_enter Tryz.func23, Tryz.ntmps23
        go_wp2_with fail
        try rw [hW]
        refine (HP.out).mono ?_
        rintro e' w1 ⟨rfl, rfl⟩
        go_wp2_with fail
        refine (HC.out).mono ?_
        rintro e' w2 ⟨v, t, rfl, q, rfl⟩
        have hst := HST.out q
        go_wp2_with fail
        refine (HT.out _).mono ?_
        rintro e' w3 ⟨rfl, hb3⟩
        have HB3 := hid (bthen (bdN HW2.out q) hb3)
        clear hb3
        go_wp2_with fail
        try simp only [Exit.inBlock, Exit.then]
        refine bodyPost_ret (results_tmp4 rfl _ _ _) rfl ?_
        exact par_ret HF.out rfl rfl HB3.out
      · have HF := hid ((parL_rest HBG.out HLN.out hemp))
        have hq := ba_nil (ba (trS (lineL l)))
        rw [show (ba (trS (lineL l))).data.toList = trS (lineL l) from rfl, decide_eq_false hemp] at hq
        have HM : Hid (ByteArray.mk (lineL l).toArray = ba (lineL l)) := hid rfl
        rw [HM.out] at HST
        have HI := hid (fun (wx : World) => idxAny_any (ba (trS (lineL l))) wx (by rw [ba_size]; omega))
        rw [show (ba (trS (lineL l))).data.toList = trS (lineL l) from rfl] at HI
        clear hemp hlong HLB
        generalize ba (lineL l) = LN at *
        generalize trS (lineL l) = T at *
        generalize (lineL l).length = m at *
        have hge := Lib.indexAny_ge cs2 T
        by_cases hix : Lib.indexAny T cs2 = -1
        · have HR := hid (HF.out.trans (restL_no hix))
          rw [hix] at HI
          clear hix hge
          go_enter Tryz.func23, Tryz.ntmps23
          go_wp2_with fail
          try rw [hW]
          refine (HP.out).mono ?_
          rintro e' w1 ⟨rfl, rfl⟩
          go_wp2_with fail
          refine (HC.out).mono ?_
          rintro e' w2 ⟨v, t, rfl, q, rfl⟩
          have hst := HST.out q
          go_wp2_with fail
          refine (HT.out _).mono ?_
          rintro e' w3 ⟨rfl, hb3⟩
          have HB3 := hid (bthen (bdN HW2.out q) hb3)
          clear hb3
          go_wp2_with fail
          refine (HI.out _).mono ?_
          rintro e' w4 ⟨rfl, hb4⟩
          have HB4 := hid (bthen HB3.out hb4)
          clear hb4
          go_wp2_with fail
          try simp only [Exit.inBlock, Exit.then]
          refine bodyPost_ret (results_tmp4 rfl _ _ _) rfl ?_
          exact par_ret HR.out rfl rfl HB4.out
        · obtain ⟨i, hi⟩ := Int.eq_ofNat_of_zero_le (show 0 ≤ Lib.indexAny T cs2 by omega)
          have hle : i ≤ (ba T).size := by
            rw [ba_size]
            have := indexAny_le cs2 T
            omega
          have HR := hid (HF.out.trans (restL_at hi))
          rw [hi] at HI
          have d2 : decide ((i : Int) < 0) = false := by simp
          have HE1 := hid (show (ba T).extract 0 i = ba (T.take i) by rw [ba_extract, ba_list]; rfl)
          have HE2 := hid (show (ba T).extract i (ba T).size = ba (T.drop i) by rw [ba_extract, ba_list, List.take_of_length_le (by rw [ba_size]; exact Nat.le_refl _)])
          have HTL := hid (fun (W4 : World) (d : Nat) (os : Array Obj) => rg_call (w := W4) (d := d) (os := os) (trimL_any (ba (T.drop i)) (rg W4 d os)))
          rw [show (ba (T.drop i)).data.toList = T.drop i from rfl, ← HE2.out] at HTL
          clear hix hge hi
          go_enter Tryz.func23, Tryz.ntmps23
          go_wp2_with fail
          try rw [hW]
          refine (HP.out).mono ?_
          rintro e' w1 ⟨rfl, rfl⟩
          go_wp2_with fail
          refine (HC.out).mono ?_
          rintro e' w2 ⟨v, t, rfl, q, rfl⟩
          have hst := HST.out q
          go_wp2_with fail
          refine (HT.out _).mono ?_
          rintro e' w3 ⟨rfl, hb3⟩
          have HB3 := hid (bthen (bdN HW2.out q) hb3)
          clear hb3
          go_wp2_with fail
          refine (HI.out _).mono ?_
          rintro e' w4 ⟨rfl, hb4⟩
          have HB4 := hid (bthen HB3.out hb4)
          clear hb4
          go_wp2_with fail
          refine region_rg (by kernel_rfl) (by kernel_rfl) ?_
          repeat (quiet_step (with_reducible exact HTL.out _ _ _))
          refine wpQuiet_nil ?_
          intro _ hw'
          obtain ⟨⟨dq, osq⟩, hw''⟩ := hw'
          subst hw''
          go_wp2_with fail
          try simp only [Exit.inBlock, Exit.then]
          refine bodyPost_ret (results_tmp4 rfl _ _ _) rfl ?_
          exact par_ret HR.out HE1.out rfl (bthen HB4.out (rg_below _ _ _))
end Go.Proofs.YthamfhenadaapaaGreatDoor
