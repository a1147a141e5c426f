/- VfsPaths: the walk. -/
import Derived.Test.YtgclemicgcbpjaaFP0
namespace Go.Proofs.Ytgclemicgcbpjaa
open Go.RowKit Go.Sort

set_option maxRecDepth 100000 in
set_option maxHeartbeats 8000000 in
theorem vfsPaths_walk (a : Option Addr) (cp : Nat) (xs : List EN) (piece : Int) (w : World) (hX : EntsIn w a xs.length xs) (hxl : xs.length ≤ 140737488351232) :
    Calls Try.prog 5 #[.slice a xs.length cp, .int .i64 piece] w fun e' w' => e' = .returned (.bool true) ∧ Below w.heap.size w w' := by
  have HX0 := hid hX
  clear hX
  go_enter Try.func5, Try.ntmps5
  go_wp2_with fail
  refine (largeE_any _ _ _ xs w HX0.out hxl).mono ?_
  rintro e' w1 ⟨b, rfl, hb, hsm⟩
  have HB1 := hid hb
  cases b
  · obtain ⟨hs1, hs2⟩ := hsm rfl
    have he := HX0.out.small hs2
    have HX1 := hid (he.below hb)
    have HS1 := hid hs1
    clear hsm hs1 hs2 he hb HX0
    go_wp2_with fail
    refine (copyE_any _ _ _ xs w1 HX1.out (by have := HS1.out; omega)).mono ?_
    rintro e' w3 ⟨v, ys, rfl, hC⟩
    obtain ⟨av, cv, rfl, _⟩ := own_rk hC.own (enC_len ys) (by omega)
    have hb := hC.below
    have HB3 := hid (bthen HB1.out hb)
    have HX3 := hid (HX1.out.below hb)
    have HE := hid hC.ents.2
    have HYL := hid (show ys.length ≤ 1000000 by have := HS1.out; have := hC.len; omega)
    have HMD := hid (fun h => made_of hC h)
    clear hb hC HX1
    go_wp2_with fail
    refine (new_any _ _ _ ys w3 HE.out HYL.out).mono ?_
    rintro e' w4 ⟨hb, hp⟩
    have HB4 := hid (bthen HB3.out hb)
    have HX4 := hid (HX3.out.below hb)
    clear hb HE HX3 HB1 HB3 HYL
    split at hp
    · obtain rfl := hp
      go_wp2_with fail
      refine (works06_any _).mono ?_
      rintro e' w5 ⟨rfl, hb⟩
      have HB5 := hid (bthen HB4.out hb)
      clear hb
      go_wp2_with fail
      go_ret
      exact ⟨rfl, HB5.out⟩
    · split at hp
      · rename_i hok
        obtain ⟨F, t, rfl, htl, hfs, _⟩ := hp
        have HF := hid hfs
        have HM : Hid (Made t.L xs) := hid (by rw [htl]; exact HMD.out hok)
        clear hfs htl HMD hok
        obtain ⟨j0, hj0, hpc⟩ := piece_ok piece
        have hpw : wrap64 ((j0 : Int) + 300) = (j0 : Int) + 300 := Go.IntWalk.wrap64_in _ (by omega)
        go_wp2_with fail
        obtain ⟨pc, hpcz⟩ : ∃ pc : Nat, pc = j0 + 300 := ⟨_, rfl⟩
        rw [show (j0 : Int) + 300 = (pc : Int) by omega] at hpw ⊢
        have HPC := hid (show 300 ≤ pc ∧ pc < 5300 by omega)
        clear hpc hpw hj0 hpcz
        go_loopw [8] (fun i wr => Below w4.heap.size w4 wr ∧ ∃ k : Nat, k ≤ xs.length + 1 ∧ i = .int .i64 k) (fun i _ => xs.length + 1 - (intOf i).toNat)
        case atStart => exact ⟨Below.refl _ _, 0, Nat.zero_le _, rfl⟩
        case round =>
          obtain ⟨hbw, k, hk, rfl⟩ := hrel
          have HBW := hid hbw
          clear hbw
          by_cases hlt : k ≤ xs.length
          · have d1 : decide ((k : Int) ≤ (xs.length : Int)) = true := by simp; omega
            have d1n : decide (k ≤ xs.length) = true := by simp; omega
            have HLT := hid (show k < t.L.length by rw [HM.out.len]; omega)
            have HFR := hid (HF.out.below HBW.out)
            have HPA := hid (path_any F t k wr HFR.out HLT.out)
            have HPW := hid (show walkL t.L rootC 0 (t.nd k).path false = ((k : Int), 0) by
              obtain ⟨P, hP⟩ := HM.out.lay
              exact path_walk hP HLT.out)
            have HWA := hid (walk_any F t rootC 0 (t.nd k).path false wr HFR.out ⟨Nums.nil _ _ _, by show 0 ≤ _; omega⟩ (HFR.out.fine.path k HLT.out))
            rw [HPW.out] at HWA
            simp only [walkV] at HWA
            go_wp2_with fail
            refine (HPA.out).mono ?_
            rintro e' w5 ⟨rfl, rfl⟩
            go_wp2_with fail
            refine (HWA.out).mono ?_
            rintro e' w5 ⟨rfl, hb⟩
            have HB5 := hid (bthen HBW.out hb)
            have HF5 := hid (HF.out.below HB5.out)
            have hkk : ((k : Int) != (k : Int)) = false := by simp
            clear hb HPA HPW HWA HFR
            go_wp2_with fail
            refine (meta_any F t k w5 HF5.out HLT.out).mono ?_
            rintro e' w6 ⟨rfl, hb⟩
            have HB6 := hid (bthen HB5.out hb)
            clear hb HB5 HF5
            have HMB := hid (@bal w6 (.cells #[.int .u8 (t.nd k).kind, .int .u16 (t.nd k).mode, .int .u32 (t.nd k).uid, .int .u32 (t.nd k).gid, .int .i64 (t.nd k).size] 37))
            have HMR := hid (Row.new w6 37 [.int .u8 (t.nd k).kind, .int .u16 (t.nd k).mode, .int .u32 (t.nd k).uid, .int .u32 (t.nd k).gid, .int .i64 (t.nd k).size])
            by_cases hkd : (t.nd k).kind = 1
            · have dkd : ((t.nd k).kind != 1) = false := by simp [hkd]
              have HKD := hid hkd
              have hk0 : 0 < k := by
                rcases Nat.eq_zero_or_pos k with rfl | h
                · obtain ⟨P, hP⟩ := HM.out.lay
                  have h2 : (t.nd 0).kind = 2 := hP.root
                  rw [hkd] at h2; cases h2
                · exact h
              obtain ⟨j, hj⟩ : ∃ j, k = j + 1 := ⟨k - 1, by omega⟩
              have hjx : j < xs.length := by omega
              have HDX := hid (show (t.nd k).data = xs[j].data by rw [hj]; exact (HM.out.of j hjx).2.2.1)
              have HK0 := hid hk0
              have HJ := hid hj
              clear hkd hk0
              have hdt := HF.out.fine.data k HLT.out
              have hsz : (t.nd k).size = ((t.nd k).data.length : Nat) := hdt.2
              have HDL := hid (show (t.nd k).data.length ≤ 65536 from hdt.1)
              rw [hsz] at HMB HMR
              have HSZ := hid hsz
              clear hdt hsz hj
              go_wp2_with fail
              rw [HSZ.out]
              obtain ⟨W6, hW6⟩ : ∃ W6, W6 = w6.alloc (.cells #[.int .u8 (t.nd k).kind, .int .u16 (t.nd k).mode, .int .u32 (t.nd k).uid, .int .u32 (t.nd k).gid, .int .i64 ((t.nd k).data.length : Nat)] 37) := ⟨_, rfl⟩
              rw [← hW6]
              rw [← hW6] at HMB
              have HMR6 : Hid (Row W6 w6.heap.size 37 [.int .u8 (t.nd k).kind, .int .u16 (t.nd k).mode, .int .u32 (t.nd k).uid, .int .u32 (t.nd k).gid, .int .i64 ((t.nd k).data.length : Nat)]) := hid (by rw [hW6]; exact HMR.out)
              have HW6 := hid (bthen HB6.out HMB.out)
              clear hW6 HMR HMB HB6 HBW
              clear wr
              have HRD := hid (fun (wx : World) (hs : Below W6.heap.size W6 wx) (q : Nat) => read_file F t k (q : Int) (pc : Int) wx ((HF.out.below HW6.out).below hs) HLT.out (by rw [HKD.out]; omega) (by rw [HKD.out]; omega) (by omega) (by omega))
              have HXX := hid (fun (wx : World) (hs : Below W6.heap.size W6 wx) => (HX4.out.below HW6.out).below hs)
              generalize hdd : (t.nd k).data = dt at *
              clear hdd
              go_loopw [12, 13] (fun v at_ wr => ∃ (q : Nat) (lq : BL), q ≤ dt.length + pc ∧ at_ = .int .i64 q ∧ lq = dt.take q ∧ OwnB wr W6.heap.size v lq ∧ Below W6.heap.size W6 wr) (fun _ at_ _ => dt.length + pc - (intOf at_).toNat)
              case atStart => exact ⟨0, [], Nat.zero_le _, rfl, rfl, ownB_nil _ _, Below.refl _ _⟩
              case round =>
                obtain ⟨q, lq, hq, rfl, hlq, hown, hbw⟩ := hrel
                have HLQ := hid hlq
                clear hlq
                have HOWN := hid hown
                have HBW := hid hbw
                obtain ⟨va, vc, rfl, _⟩ := own_cel hown
                have hmr := HMR6.out.below hbw HMR6.out.lt
                obtain ⟨_, _, _, _, m4⟩ := hmr.five
                have hml := hmr.lt
                clear hown hbw hmr
                by_cases hqd : q ≤ dt.length
                · have e1 : decide ((q : Int) ≤ (dt.length : Int)) = true := by simp; omega
                  have e1n : decide (q ≤ dt.length) = true := by simp; omega
                  have hqb : q ≤ 65536 := by have := HDL.out; omega
                  have hpb : pc < 5300 := HPC.out.2
                  go_wp2_with fail
                  refine (HRD.out wr HBW.out q).mono ?_
                  rintro e' w7 ⟨v2, rfl, ho2, hb2⟩
                  obtain ⟨a2, c2, rfl, hc2, hn2, _⟩ := own_cel ho2
                  have HTK := hid (show lq ++ rdB dt q pc = dt.take (q + pc) by rw [HLQ.out]; unfold rdB; rw [Int.toNat_natCast, Int.toNat_natCast, List.take_add])
                  have hle : (rdB dt q pc).length ≤ pc := by unfold rdB; rw [List.length_take, Int.toNat_natCast]; omega
                  generalize rdB dt q pc = l2 at *
                  have e2 : decide ((pc : Int) < (l2.length : Int)) = false := by simp; omega
                  have e2n : decide (pc < l2.length) = false := by simp; omega
                  have HO7 := hid (own_below HOWN.out hb2)
                  have HB7 := hid (bthen HBW.out hb2)
                  have HC2 := hid hc2
                  have HN2 := hid hn2
                  have HLE := hid (show lq.length + l2.length ≤ 1000000 by have := HDL.out; have := HPC.out; rw [HLQ.out, List.length_take]; omega)
                  have HZ := hid (show W6.heap.size ≤ w7.heap.size from HB7.out.size)
                  clear ho2 hb2 hc2 hn2 m4 hml
                  go_wp2_with (at_builtin; go_must (refine wpList_appB rfl _ _ rfl W6.heap.size (.slice va lq.length vc) lq l2 rfl a2 c2 rfl HO7.out HC2.out HN2.out HLE.out HZ.out ?_; intro v' w8 hown8 hb8; have HO8 := hid hown8; have HB8 := hid hb8; clear hown8 hb8))
                  go_roundw
                  case rel =>
                    exact ⟨q + pc, lq ++ l2, by omega, by go_num, HTK.out, HO8.out, HB7.out.trans HB8.out⟩
                  case measure =>
                    have := HPC.out
                    simp [intOf]; omega
                · have e1 : decide ((q : Int) ≤ (dt.length : Int)) = false := by simp; omega
                  have e1n : decide (q ≤ dt.length) = false := by simp; omega
                  have hlq : lq = dt := by rw [HLQ.out]; exact List.take_of_length_le (by omega)
                  have hXr := HXX.out wr HBW.out
                  obtain ⟨b, o, rfl, hcell⟩ := hXr.rows.some_of (by simp; omega)
                  have g5 := hcell j (by simpa using hjx) 5 (by simp [EN.cs])
                  have e9 : (xs.map EN.cs)[j]'(by simpa using hjx) = xs[j].cs := by simp
                  simp only [e9] at g5
                  simp only [EN.cs, List.getElem_cons_zero, List.getElem_cons_succ] at g5
                  have hok := hXr.ok _ (List.getElem_mem hjx)
                  have hdx : xs[j].data = dt := HDX.out.symm
                  obtain ⟨va', vc', ev, hvb⟩ := own_byt HOWN.out
                  cases ev
                  have HEQ := hid (eqBytes_any _ _ _ vc _ xs[j].c lq xs[j].data wr hvb hok.byt (by rw [hlq]; have := HDL.out; omega) (by have := hok.data; omega))
                  rw [hlq, hdx, eqB_me] at HEQ
                  rw [hdx] at g5
                  rw [hlq]
                  have hk0 : ((k : Int) == 0) = false := by rw [beq_eq_false_iff_ne]; have := HK0.out; omega
                  have hk1 : (k : Int) - 1 = (j : Int) := by have := HJ.out; omega
                  clear hvb hlq hXr hcell e9 hok HXX HRD
                  go_wp2_with fail
                  refine (HEQ.out).mono ?_
                  rintro e' w8 ⟨rfl, nq, rfl⟩
                  have HB8 := hid (bthen HW6.out (bdN HBW.out nq))
                  clear hdx m4 hml g5 hk1 HEQ
                  go_wp2_with fail
                  go_roundw
                  case rel => exact ⟨HB8.out, k + 1, by omega, by go_num⟩
                  case measure => simp [intOf]; omega
            · have dkd : ((t.nd k).kind != 1) = true := by simpa using hkd
              have HB7 := hid (bthen HB6.out HMB.out)
              clear hkd
              go_wp2_with fail
              go_roundw
              case rel => exact ⟨HB7.out, k + 1, by omega, by go_num⟩
              case measure => simp [intOf]; omega
          · have d1 : decide ((k : Int) ≤ (xs.length : Int)) = false := by simp; omega
            have d1n : decide (k ≤ xs.length) = false := by simp; omega
            go_wp2_with fail
            refine (works06_any _).mono ?_
            rintro e' w5 ⟨rfl, hb⟩
            have HB5 := hid (bthen (bthen HB4.out HBW.out) hb)
            clear hb
            go_wp2_with fail
            go_ret
            exact ⟨rfl, HB5.out⟩
      · obtain rfl := hp
        go_wp2_with fail
        refine (works06_any _).mono ?_
        rintro e' w5 ⟨rfl, hb⟩
        have HB5 := hid (bthen HB4.out hb)
        clear hb
        go_wp2_with fail
        go_ret
        exact ⟨rfl, HB5.out⟩
  · clear hsm
    go_wp2_with fail
    refine (works06_any _).mono ?_
    rintro e' w3 ⟨rfl, hb2⟩
    have HB3 := hid (bthen HB1.out hb2)
    clear hb2
    go_wp2_with fail
    go_ret
    exact ⟨rfl, HB3.out⟩
end Go.Proofs.Ytgclemicgcbpjaa
