
/- The reference: Parse. -/
import Derived.Test.YthamfhenadaapaaGreatDoorU4
import Derived.Test.YthamfhenadaapaaGreatDoorU5
namespace Go.Proofs.YthamfhenadaapaaGreatDoor
open Go.RowKit Go.Sort

theorem line_at {m : BL} {j : Nat} (hj : j ≤ m.length) (h : ¬ 10 ∈ m.take j) (he : ∀ h : j < m.length, m[j] = 10) : upTo 10 m = m.take j := by
  rcases Nat.lt_or_ge j m.length with h1 | h1
  · have e : m = m.take j ++ [10] ++ m.drop (j + 1) := by
      have := List.take_append_drop j m
      rw [List.drop_eq_getElem_cons h1, he h1] at this
      simpa using this.symm
    have := upTo_app (x := 10) (a := m.take j) (m := m.drop (j + 1)) (fun c hc e => h (e ▸ hc))
    rw [← e] at this
    exact this
  · rw [List.take_of_length_le h1] at h ⊢
    exact upTo_no h
theorem seg_slice (b o n c k j : Nat) (hk : k = j + 2) (hn : k ≤ n) (hc : n ≤ c) : ∃ o2, (∀ w, (Instr.slice 49 (.slice (some ⟨b, o, none⟩) n c) (some (.int .i64 2)) (some (.int .i64 (k : Int))) none).run Tryz.prog w = .ok (.slice (some ⟨b, o2, none⟩) j (c - 2)) w) ∧ ∀ (w : World) (l : BL), Byt w (some ⟨b, o, none⟩) n l → Byt w (some ⟨b, o2, none⟩) j ((l.drop 2).take j) := by
  subst hk
  obtain ⟨o2, h1, h2⟩ := fromV_byt (b := b) (o := o) (n := n) (c := c) (by omega) hc
  have hz : ∀ w, (sizeOf (Tryz.prog.elem 49)).run Tryz.prog w = .ok 1 w := fun w => by kernel_rfl
  refine ⟨o2, fun w => ?_, fun w l h => (h2 w l h).pre (by omega)⟩
  rw [run_slice_lh w 49 _ _ _ (by kernel_rfl) .i64 .i64 2 ((j + 2 : Nat) : Int) (by omega) (by omega) (by omega), hz]
  unfold Lib.fromV at h1
  simp only [Result.andThen, sliced, show (2 : Int).toNat = 2 from rfl, Int.toNat_natCast]
  simp only [Value.slice.injEq, and_true] at h1
  rw [← h1]
  by_cases h : c = 2
  · subst h
    simp
  · simp [h]
theorem bang_at {l : BL} (h0 : 0 < l.length) (h1 : 1 < l.length) : bang l = (decide (l[0] = 35) && decide (l[1] = 33)) := by
  match l with
  | y0 :: y1 :: r =>
    unfold bang
    simp
theorem bne_not {a b : Int} {t : Bool} (h : (a == b) = t) : (a != b) = !t := by rw [← h]; rfl

set_option maxRecDepth 100000 in
set_option maxHeartbeats 8000000 in
theorem rparse_any (a : Option Addr) (n c : Nat) (l : BL) (w : World) (hB : Byt w a n l) (hc : n ≤ c) (hn : n ≤ 1000000) :
    Calls Tryz.prog 30 #[.slice a n c] w (ParPost w l) := by
  have hnl := hB.hlen
  by_cases h2 : n < 2
  · have d1 : decide ((n : Int) < 2) = true := by simp; omega
    have HF := hid (parL_no (b := l) (by
      cases h : bang l
      · rfl
      · have := bang_len h; omega))
    clear hB
    go_enter Tryz.func30, Tryz.ntmps30
    go_wp2_with fail
    try simp only [Exit.inBlock, Exit.then]
    refine bodyPost_ret (results_tmp4 rfl _ _ _) rfl ?_
    exact par_ret HF.out rfl rfl (Below.refl _ _)
  · have d1 : decide ((n : Int) < 2) = false := decide_eq_false (by omega)
    obtain ⟨b, o, rfl, hat⟩ := hB.some_of (by omega)
    have HAT := hid hat
    have HBY := hid hB
    have c0 := hat 0 (by omega)
    have c1 := hat 1 (by omega)
    have k0 := c0
    rw [Nat.add_zero] at k0
    clear hB hat
    obtain ⟨x0, hx0⟩ : ∃ x, x = l[0]'(by omega) := ⟨_, rfl⟩
    obtain ⟨x1, hx1⟩ : ∃ x, x = l[1]'(by omega) := ⟨_, rfl⟩
    rw [← hx0] at c0 k0
    rw [← hx1] at c1
    have HBG := hid (show bang l = (decide (x0 = 35) && decide (x1 = 33)) by rw [hx0, hx1]; exact bang_at (by omega) (by omega))
    clear hx0 hx1
    have q0 := bne_not (byte_eq2 x0 35 35 rfl)
    have q1 := bne_not (byte_eq2 x1 33 33 rfl)
    cases e0 : decide (x0 = 35)
    · rw [e0] at q0 HBG
      have HF := hid (parL_no HBG.out)
      simp only [Bool.not_false] at q0
      clear e0 q1
      go_enter Tryz.func30, Tryz.ntmps30
      go_wp2_with fail
      try simp only [Exit.inBlock, Exit.then]
      refine bodyPost_ret (results_tmp4 rfl _ _ _) rfl ?_
      exact par_ret HF.out rfl rfl (Below.refl _ _)
    · rw [e0] at q0 HBG
      simp only [Bool.not_true] at q0
      cases e1 : decide (x1 = 33)
      · rw [e1] at q1 HBG
        have HF := hid (parL_no HBG.out)
        simp only [Bool.not_false] at q1
        clear e0 e1
        go_enter Tryz.func30, Tryz.ntmps30
        go_wp2_with fail
        try simp only [Exit.inBlock, Exit.then]
        refine bodyPost_ret (results_tmp4 rfl _ _ _) rfl ?_
        exact par_ret HF.out rfl rfl (Below.refl _ _)
      · rw [e1] at q1 HBG
        have HBG2 : Hid (bang l = true) := HBG
        simp only [Bool.not_true] at q1
        clear e0 e1 HBG
        go_enter Tryz.func30, Tryz.ntmps30
        go_wp2_with fail
        clear c0 c1 k0 q0 q1 d1
        go_loop [6] (fun i => ∃ k j : Nat, Hid (k = j + 2) ∧ k ≤ n ∧ i = .int .i64 k ∧ ¬ 10 ∈ (l.drop 2).take j) (fun i => n - (intOf i).toNat)
        case atStart => exact ⟨2, 0, hid rfl, by omega, rfl, by simp⟩
        case round =>
          obtain ⟨k, j, HK, hk, rfl, hno⟩ := hrel
          have HNO := hid hno
          clear hno
          have hgo : (∃ h : k < l.length, l[k] ≠ 10) ∨ ((∃ h : k < l.length, l[k] = 10) ∨ k = n) := by
            by_cases h : k < l.length
            · by_cases h10 : l[k] = 10
              · exact .inr (.inl ⟨h, h10⟩)
              · exact .inl ⟨h, h10⟩
            · exact .inr (.inr (by omega))
          rcases hgo with ⟨hlt, hne⟩ | hex
          · have d3 : decide ((k : Int) < (n : Int)) = true := by simp; omega
            have d3n : decide (k < n) = true := by simp; omega
            have hcell := HAT.out k hlt
            have hq := bne_not (byte_eq2 l[k] 10 10 rfl)
            rw [decide_eq_false hne] at hq
            simp only [Bool.not_false] at hq
            have HN2 := hid (show ¬ 10 ∈ (l.drop 2).take (j + 1) by
              have hj : j < (l.drop 2).length := by have := HK.out; simp; omega
              rw [List.take_succ_eq_append_getElem hj]
              intro hm
              rcases List.mem_append.1 hm with hm | hm
              · exact HNO.out hm
              · have := List.mem_singleton.1 hm
                simp only [List.getElem_drop] at this
                have e := HK.out
                subst e
                apply hne
                simp only [Nat.add_comm j 2]
                exact this.symm)
            generalize l[k] = x at *
            go_wp2_with fail
            go_round
            case rel => exact ⟨k + 1, j + 1, hid (by have := HK.out; omega), by omega, by go_num, HN2.out⟩
            case measure => simp [intOf]; omega
          · have HLN := hid (show lineL l = (l.drop 2).take j by
              have e := HK.out
              refine line_at (by simp; omega) HNO.out (fun h => ?_)
              simp only [List.length_drop] at h
              rcases hex with ⟨h1, h2⟩ | h1
              · subst e
                simp only [List.getElem_drop, Nat.add_comm 2 j]
                exact h2
              · omega)
            have HJL := hid (show (lineL l).length = j by rw [HLN.out]; have := HK.out; simp; omega)
            have e2 : (k : Int) - 2 = (j : Int) := by have := HK.out; omega
            have hj2 : 2 ≤ k := by have := HK.out; omega
            obtain ⟨o2, hsl, hsb⟩ := seg_slice b o n c k j HK.out hk hc
            have hst := (hsb w l HBY.out).str (P := Tryz.prog) 49 9 5 (c - 2) Tryz.underlying49 Tryz.underlying5 Tryz.underlying9
            rw [← HLN.out, show ByteArray.mk (lineL l).toArray = ba (lineL l) from rfl] at hst
            have HT := hid (trimmed_any (ba (lineL l)) w (by rw [ba_size, HJL.out]; omega))
            rw [show (ba (lineL l)).data.toList = lineL l from rfl] at HT
            clear hsb
            have HREST := hid (show ∀ (m : Nat), True from fun _ => trivial)
            rcases hex with ⟨hlt, h10⟩ | hkn
            · have d3 : decide ((k : Int) < (n : Int)) = true := by simp; omega
              have d3n : decide (k < n) = true := by simp; omega
              have hcell := HAT.out k hlt
              have hqk := bne_not (byte_eq2 l[k] 10 10 rfl)
              rw [decide_eq_true h10] at hqk
              simp only [Bool.not_true] at hqk
              clear h10
              generalize l[k] = x at *
              by_cases hlong : 127 < j
              · have HF := hid (parL_long HBG2.out (by rw [HJL.out]; exact hlong))
                have d4 : decide ((127 : Int) < (j : Int)) = true := by simp; omega
                clear HT
                go_wp2_with fail
                try simp only [Exit.inBlock, Exit.then]
                refine bodyPost_ret (results_tmp4 rfl _ _ _) rfl ?_
                exact par_ret HF.out rfl rfl (Below.refl _ _)
              · have d4 : decide ((127 : Int) < (j : Int)) = false := by simp; omega
                have HLONG := hid (show ¬ 127 < (lineL l).length by rw [HJL.out]; exact hlong)
                have htl := trS_len (lineL l)
                by_cases hemp : trS (lineL l) = []
                · have HF := hid (parL_empty HBG2.out HLONG.out hemp)
                  rw [hemp] at HT
                  have hq := ba_nil (ba [])
                  rw [show (ba []).data.toList = ([] : BL) from rfl, decide_eq_true rfl] at hq
                  clear hemp htl
                  generalize ba (lineL l) = LN at *
                  go_wp2_with fail
                  refine (HT.out).mono ?_
                  rintro e' w1 ⟨rfl, rfl⟩
                  go_wp2_with fail
                  try simp only [Exit.inBlock, Exit.then]
                  refine bodyPost_ret (results_tmp4 rfl _ _ _) rfl ?_
                  exact par_ret HF.out rfl rfl (Below.refl _ _)
                · have HF := hid (parL_rest HBG2.out HLONG.out hemp)
                  have hq := ba_nil (ba (trS (lineL l)))
                  rw [show (ba (trS (lineL l))).data.toList = trS (lineL l) from rfl, decide_eq_false hemp] at hq
                  have htl2 : (trS (lineL l)).length ≤ 1000000 := by rw [HJL.out] at htl; omega
                  have HTT := hid (trS_tail (lineL l))
                  clear hemp htl
                  generalize ba (lineL l) = LN at *
                  generalize trS (lineL l) = T at *
                  go_wp2_with fail
                  refine (HT.out).mono ?_
                  rintro e' w1 ⟨rfl, rfl⟩
                  go_wp2_with fail
                  clear hsl hst hlong d4 hj2 e2 d3 d3n
                  have HSZ := hid (ba_size T)
                  have HDL : Hid ((ba T).data.toList = T) := hid rfl
                  have HBE : Hid (ba T = ba T) := hid rfl
                  obtain ⟨S, hS⟩ : ∃ S, S = ba T := ⟨_, rfl⟩
                  have HE := hid hS
                  rw [← hS] at HSZ HDL hq ⊢
                  clear hS HBE
                  have hsz : S.size ≤ 1000000 := by rw [HSZ.out]; exact htl2
                  go_loop [8] (fun i => ∃ q : Nat, q ≤ S.size ∧ i = .int .i64 q ∧ Lib.NoAny T cs2 q) (fun i => S.size - (intOf i).toNat)
                  case atStart => exact ⟨0, Nat.zero_le _, rfl, Lib.NoAny.zero _ _⟩
                  case round =>
                    obtain ⟨q, hq2, rfl, hna⟩ := hrel
                    have HNA := hid hna
                    clear hna
                    by_cases hlt : q < S.size
                    · have d5 : decide ((q : Int) < (S.size : Int)) = true := by simp; omega
                      have hcl : T[q]? = some (S[q]'hlt) := by rw [← HDL.out]; exact Lib.data_getElem? S q hlt
                      cases hb : blk (S[q]'hlt)
                      · have HB2 := hid hb
                        have HNX := hid (HNA.out.succ hcl hb)
                        clear hb hcl
                        go_wp2_with fail
                        refine (blank_any _ _).mono ?_
                        rintro e' w1 ⟨rfl, rfl⟩
                        rw [HB2.out]
                        go_wp2_with fail
                        go_round
                        case rel => exact ⟨q + 1, by omega, by go_num, HNX.out⟩
                        case measure => simp [intOf]; omega
                      · have HB2 := hid hb
                        have HR := hid (HF.out.trans (restL_at (Lib.indexAny_hit HNA.out hcl hb)))
                        have HE1 := hid (show S.extract 0 q = ba (T.take q) by rw [ba_extract, HDL.out]; rfl)
                        have HE2 := hid (show (S.extract q S.size).data.toList = T.drop q by rw [ba_extract, ba_list, HDL.out, List.take_of_length_le (by rw [HSZ.out]; exact Nat.le_refl _)])
                        have HTR := hid (fun (m : Nat) => trimmed_any (S.extract q S.size) (w.drewN m) (by rw [← size_list, HE2.out, List.length_drop]; omega))
                        rw [HE2.out, HTT.out] at HTR
                        clear hb hcl
                        go_wp2_with fail
                        refine (blank_any _ _).mono ?_
                        rintro e' w1 ⟨rfl, rfl⟩
                        rw [HB2.out]
                        go_wp2_with fail
                        go_quiet ((go_at_call 54; exact Calls.quiet_of ((HTR.out _).mono (fun _ _ h => ⟨h.1, 0, h.2.symm⟩))))
                        go_wp2_with fail
                        try simp only [Exit.inBlock, Exit.then]
                        refine bodyPost_ret (results_tmp4 rfl _ _ _) rfl ?_
                        exact par_ret HR.out HE1.out rfl (drewN_below _ _)
                    · have d5 : decide ((q : Int) < (S.size : Int)) = false := decide_eq_false (by omega)
                      have HR := hid (HF.out.trans (restL_no (Lib.indexAny_none (show Lib.NoAny T cs2 T.length from (show q = T.length by rw [← HSZ.out]; omega) ▸ HNA.out))))
                      go_wp2_with fail
                      try simp only [Exit.inBlock, Exit.then]
                      refine bodyPost_ret (results_tmp4 rfl _ _ _) rfl ?_
                      exact par_ret HR.out HE.out rfl (Below.refl _ _)
            · have d3 : decide ((k : Int) < (n : Int)) = false := decide_eq_false (by omega)
              have d3n : decide (k < n) = false := decide_eq_false (by omega)
              clear hkn
              by_cases hlong : 127 < j
              · have HF := hid (parL_long HBG2.out (by rw [HJL.out]; exact hlong))
                have d4 : decide ((127 : Int) < (j : Int)) = true := by simp; omega
                clear HT
                go_wp2_with fail
                try simp only [Exit.inBlock, Exit.then]
                refine bodyPost_ret (results_tmp4 rfl _ _ _) rfl ?_
                exact par_ret HF.out rfl rfl (Below.refl _ _)
              · have d4 : decide ((127 : Int) < (j : Int)) = false := by simp; omega
                have HLONG := hid (show ¬ 127 < (lineL l).length by rw [HJL.out]; exact hlong)
                have htl := trS_len (lineL l)
                by_cases hemp : trS (lineL l) = []
                · have HF := hid (parL_empty HBG2.out HLONG.out hemp)
                  rw [hemp] at HT
                  have hq := ba_nil (ba [])
                  rw [show (ba []).data.toList = ([] : BL) from rfl, decide_eq_true rfl] at hq
                  clear hemp htl
                  generalize ba (lineL l) = LN at *
                  go_wp2_with fail
                  refine (HT.out).mono ?_
                  rintro e' w1 ⟨rfl, rfl⟩
                  go_wp2_with fail
                  try simp only [Exit.inBlock, Exit.then]
                  refine bodyPost_ret (results_tmp4 rfl _ _ _) rfl ?_
                  exact par_ret HF.out rfl rfl (Below.refl _ _)
                · have HF := hid (parL_rest HBG2.out HLONG.out hemp)
                  have hq := ba_nil (ba (trS (lineL l)))
                  rw [show (ba (trS (lineL l))).data.toList = trS (lineL l) from rfl, decide_eq_false hemp] at hq
                  have htl2 : (trS (lineL l)).length ≤ 1000000 := by rw [HJL.out] at htl; omega
                  have HTT := hid (trS_tail (lineL l))
                  clear hemp htl
                  generalize ba (lineL l) = LN at *
                  generalize trS (lineL l) = T at *
                  go_wp2_with fail
                  refine (HT.out).mono ?_
                  rintro e' w1 ⟨rfl, rfl⟩
                  go_wp2_with fail
                  clear hsl hst hlong d4 hj2 e2 d3 d3n
                  have HSZ := hid (ba_size T)
                  have HDL : Hid ((ba T).data.toList = T) := hid rfl
                  have HBE : Hid (ba T = ba T) := hid rfl
                  obtain ⟨S, hS⟩ : ∃ S, S = ba T := ⟨_, rfl⟩
                  have HE := hid hS
                  rw [← hS] at HSZ HDL hq ⊢
                  clear hS HBE
                  have hsz : S.size ≤ 1000000 := by rw [HSZ.out]; exact htl2
                  go_loop [8] (fun i => ∃ q : Nat, q ≤ S.size ∧ i = .int .i64 q ∧ Lib.NoAny T cs2 q) (fun i => S.size - (intOf i).toNat)
                  case atStart => exact ⟨0, Nat.zero_le _, rfl, Lib.NoAny.zero _ _⟩
                  case round =>
                    obtain ⟨q, hq2, rfl, hna⟩ := hrel
                    have HNA := hid hna
                    clear hna
                    by_cases hlt : q < S.size
                    · have d5 : decide ((q : Int) < (S.size : Int)) = true := by simp; omega
                      have hcl : T[q]? = some (S[q]'hlt) := by rw [← HDL.out]; exact Lib.data_getElem? S q hlt
                      cases hb : blk (S[q]'hlt)
                      · have HB2 := hid hb
                        have HNX := hid (HNA.out.succ hcl hb)
                        clear hb hcl
                        go_wp2_with fail
                        refine (blank_any _ _).mono ?_
                        rintro e' w1 ⟨rfl, rfl⟩
                        rw [HB2.out]
                        go_wp2_with fail
                        go_round
                        case rel => exact ⟨q + 1, by omega, by go_num, HNX.out⟩
                        case measure => simp [intOf]; omega
                      · have HB2 := hid hb
                        have HR := hid (HF.out.trans (restL_at (Lib.indexAny_hit HNA.out hcl hb)))
                        have HE1 := hid (show S.extract 0 q = ba (T.take q) by rw [ba_extract, HDL.out]; rfl)
                        have HE2 := hid (show (S.extract q S.size).data.toList = T.drop q by rw [ba_extract, ba_list, HDL.out, List.take_of_length_le (by rw [HSZ.out]; exact Nat.le_refl _)])
                        have HTR := hid (fun (m : Nat) => trimmed_any (S.extract q S.size) (w.drewN m) (by rw [← size_list, HE2.out, List.length_drop]; omega))
                        rw [HE2.out, HTT.out] at HTR
                        clear hb hcl
                        go_wp2_with fail
                        refine (blank_any _ _).mono ?_
                        rintro e' w1 ⟨rfl, rfl⟩
                        rw [HB2.out]
                        go_wp2_with fail
                        go_quiet ((go_at_call 54; exact Calls.quiet_of ((HTR.out _).mono (fun _ _ h => ⟨h.1, 0, h.2.symm⟩))))
                        go_wp2_with fail
                        try simp only [Exit.inBlock, Exit.then]
                        refine bodyPost_ret (results_tmp4 rfl _ _ _) rfl ?_
                        exact par_ret HR.out HE1.out rfl (drewN_below _ _)
                    · have d5 : decide ((q : Int) < (S.size : Int)) = false := decide_eq_false (by omega)
                      have HR := hid (HF.out.trans (restL_no (Lib.indexAny_none (show Lib.NoAny T cs2 T.length from (show q = T.length by rw [← HSZ.out]; omega) ▸ HNA.out))))
                      go_wp2_with fail
                      try simp only [Exit.inBlock, Exit.then]
                      refine bodyPost_ret (results_tmp4 rfl _ _ _) rfl ?_
                      exact par_ret HR.out HE.out rfl (Below.refl _ _)
end Go.Proofs.YthamfhenadaapaaGreatDoor
