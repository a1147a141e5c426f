
/- elf: checkTogether. -/
import Derived.Test.YtaaohcpiideaaaaDoorNa3
namespace Go.Proofs.YtaaohcpiideaaaaDoor
open Go.RowKit Go.Sort Go.Shelf
attribute [local go_sem] Oper.semAt_some

def kinds (j : Nat) : Int := if j = 0 then 2 else if j = 1 then 3 else 6
theorem kinds_at {k : Nat} (h : k < 3) : ∀ w, (Instr.index 84 (.agg #[.int .u32 2, .int .u32 3, .int .u32 6]) (.int .i64 k)).run Tryd.prog w = .ok (.int .u32 (kinds k)) w := by
  rcases k with _ | _ | _ | k
  · exact fun w => by kernel_rfl
  · exact fun w => by kernel_rfl
  · exact fun w => by kernel_rfl
  · omega
theorem togB_yes {sg : List SG} (h : ¬ lds sg = []) (hk : ∀ j, j < 3 → kindsOk sg (kinds j) = true) : togB sg = true := by
  unfold togB
  rw [decide_eq_true h, show kindsOk sg 2 = true from hk 0 (by omega), show kindsOk sg 3 = true from hk 1 (by omega), show kindsOk sg 6 = true from hk 2 (by omega)]
  rfl
theorem togB_no {sg : List SG} {j : Nat} (hj : j < 3) (hk : kindsOk sg (kinds j) = false) : togB sg = false := by
  unfold togB
  rcases j with _ | _ | _ | j
  · rw [show kindsOk sg 2 = false from hk]; simp
  · rw [show kindsOk sg 3 = false from hk]; simp
  · rw [show kindsOk sg 6 = false from hk]; simp
  · omega
theorem all_take {α : Type} {p : α → Bool} {l : List α} {k : Nat} (hk : k < l.length) (h : (l.take k).all p = true) (hp : p l[k] = true) : (l.take (k + 1)).all p = true := by
  rw [List.take_succ_eq_append_getElem hk, List.all_append, h]
  simp [hp]
theorem all_no {α : Type} {p : α → Bool} {l : List α} {k : Nat} (hk : k < l.length) (hp : p l[k] = false) : l.all p = false := by
  rw [List.all_eq_false]
  exact ⟨l[k], List.getElem_mem _, by rw [hp]; decide⟩
set_option maxRecDepth 100000 in
set_option maxHeartbeats 8000000 in
theorem checkTogether_any (typ entry phoff : Int) (a : Option Addr) (c : Nat) (sg : List SG) (w : World) (hS : Sgs w a sg.length sg) (hn : sg.length ≤ 1000000000) (hok : ∀ s ∈ sg, SGok s) :
    Calls Tryd.prog 45 #[.agg #[.int .u16 typ, .int .u64 entry, .int .u64 phoff, .slice a sg.length c]] w (CkP (togB sg) w) := by
  obtain ⟨W, hW⟩ : ∃ W, W = w.alloc (.cells #[.int .u16 typ, .int .u64 entry, .int .u64 phoff, .slice a sg.length c] 26) := ⟨_, rfl⟩
  have HW := hid hW
  have HLOW := hid (show Below w.heap.size w W by rw [hW]; exact bal _)
  have HROW := hid (show Row W w.heap.size 26 [.int .u16 typ, .int .u64 entry, .int .u64 phoff, .slice a sg.length c] by rw [hW]; exact Row.new _ _ _)
  have HWZ := hid (show W.heap.size = w.heap.size + 1 by rw [hW, World.size_alloc])
  have HS := hid (hS.below' HLOW.out)
  have HK := hid (loads12_any typ entry phoff a c sg W HS.out hn)
  have HOK := hid hok
  have HN := hid hn
  have w0 := HROW.out.cell' 0
  have w1 := HROW.out.cell' 1
  have w2 := HROW.out.cell' 2
  have w3 := HROW.out.cell' 3
  clear hW hS hok
  by_cases hz : lds sg = []
  · have HNO := hid (show togB sg = false by unfold togB; rw [decide_eq_false (by simpa using hz)]; simp)
    have hl0 : (lds sg).length = 0 := by rw [hz]; rfl
    have HL0 := hid hl0
    clear hz hl0
    go_enter Tryd.func45, Tryd.ntmps45
    go_wp2_with fail
    rw [← HW.out]
    go_wp2_with fail
    refine HK.out.mono ?_
    rintro e' w4 ⟨v, rfl, ho, hb⟩
    obtain ⟨a1, c1, rfl, hs1, _⟩ := ownG_open ho
    have HB1 := hid (HLOW.out.trans (hb.mono HLOW.out.size))
    rw [HL0.out]
    clear ho hb hs1
    go_wp2_with fail
    refine (refuse_yes 25 w4).mono ?_
    rintro e w' ⟨rfl, rfl⟩
    go_wp2_with fail
    exact ⟨rfl, ckP_no HNO.out HB1.out⟩
  have HNE := hid hz
  have HLP := hid (show 0 < (lds sg).length from List.length_pos_iff.2 hz)
  clear hz
  go_enter Tryd.func45, Tryd.ntmps45
  go_wp2_with fail
  rw [← HW.out]
  go_wp2_with fail
  refine HK.out.mono ?_
  rintro e' w4 ⟨v, rfl, ho, hb⟩
  obtain ⟨a1, c1, rfl, hs1, _⟩ := ownG_open ho
  have HB1 := hid (HLOW.out.trans (hb.mono HLOW.out.size))
  have HR1 := hid (HROW.out.below hb (by rw [HWZ.out]; omega))
  have HZ1 := hid (show w.heap.size + 1 ≤ w4.heap.size by rw [← HWZ.out]; exact hb.size)
  have HS4 := hid (HS.out.below' hb)
  have hl0 : (((lds sg).length : Int) == 0) = false := by have := HLP.out; rw [beq_eq_false_iff_ne]; omega
  have hl0n : ((lds sg).length == 0) = false := by have := HLP.out; rw [beq_eq_false_iff_ne]; omega
  clear ho hb hs1 HK w0 w1 w2 w3
  go_wp2_with fail
  refine (refuse_no 25 w4).mono ?_
  rintro e w' ⟨rfl, rfl⟩
  clear hl0 hl0n
  go_wp2_with fail
  go_loopw [13] (fun i wr => ∃ k : Nat, k ≤ 3 ∧ i = .int .i64 k ∧ (∀ j, j < k → kindsOk sg (kinds j) = true) ∧ Below w4.heap.size w4 wr) (fun i _ => 3 - (intOf i).toNat)
  case atStart => exact ⟨0, Nat.zero_le _, rfl, (fun j h => absurd h (Nat.not_lt_zero _)), Below.refl _ _⟩
  case round =>
    obtain ⟨k, hk, rfl, hj, hb⟩ := hrel
    rename World => wA
    have HB := hid hb
    have HJ := hid hj
    clear hj
    by_cases hlt : k < 3
    · have d1 : decide ((k : Int) < 3) = true := by simp; omega
      have d1n : decide (k < 3) = true := by simp; omega
      have HRR := hid (HR1.out.below hb (by have := HZ1.out; omega))
      have y0 := HRR.out.cell' 0
      have y1 := HRR.out.cell' 1
      have y2 := HRR.out.cell' 2
      have y3 := HRR.out.cell' 3
      have hix := kinds_at hlt
      have HLT := hid hlt
      obtain ⟨kq, hkq⟩ : ∃ q, q = kinds k := ⟨_, rfl⟩
      have HKQ := hid hkq
      have HOF := hid (ofKindG_any kq typ entry phoff a c sg wA (HS4.out.below' hb) HN.out)
      rw [← hkq] at hix
      clear hkq hb
      go_wp2_with fail
      refine HOF.out.mono ?_
      rintro e' w5 ⟨v, rfl, ho, hb5⟩
      obtain ⟨a2, c2, rfl, hs2, _⟩ := ownG_open ho
      obtain ⟨l, hl⟩ : ∃ l, l = knd kq sg := ⟨_, rfl⟩
      have HL := hid hl
      rw [← hl] at hs2 ⊢
      have HS2 := hid hs2
      have HB5 := hid (HB.out.trans (hb5.mono HB.out.size))
      have HB15 := hid (HB1.out.trans (HB5.out.mono HB1.out.size))
      clear ho hb5 hs2 hl y0 y1 y2 y3 hix HOF
      by_cases h2 : l.length ≤ 1
      rotate_left
      · have e1 : decide ((1 : Int) < (l.length : Int)) = true := by simp; omega
        have e1n : decide (1 < l.length) = true := by simp; omega
        have HNO := hid (show togB sg = false from togB_no HLT.out (by unfold kindsOk; rw [← HKQ.out, ← HL.out, decide_eq_false h2]; rfl))
        clear h2
        go_wp2_with fail
        refine (refuse_yes 25 w5).mono ?_
        rintro e w' ⟨rfl, rfl⟩
        go_wp2_with fail
        exact ⟨rfl, ckP_no HNO.out HB15.out⟩
      have e1 : decide ((1 : Int) < (l.length : Int)) = false := by simp; omega
      have e1n : decide (1 < l.length) = false := by simp; omega
      have H2 := hid h2
      clear h2
      go_wp2_with fail
      refine (refuse_no 25 w5).mono ?_
      rintro e w' ⟨rfl, rfl⟩
      go_wp2_with fail
      go_loopw [25] (fun i wr => ∃ q : Nat, q ≤ l.length ∧ i = .int .i64 q ∧ (l.take q).all (kindOk sg kq) = true ∧ Below w5.heap.size w5 wr) (fun i _ => l.length - (intOf i).toNat)
      case atStart => exact ⟨0, Nat.zero_le _, rfl, rfl, Below.refl _ _⟩
      case round =>
        obtain ⟨q, hq, rfl, hall, hb⟩ := hrel
        rename World => wB
        have HC := hid hb
        have HALL := hid hall
        clear hall
        have hll := H2.out
        by_cases hqt : q < l.length
        · have d2 : decide ((q : Int) < (l.length : Int)) = true := by simp; omega
          have d2n : decide (q < l.length) = true := by simp; omega
          obtain ⟨b, off, rfl, x0, x1, x2, x3, x4, x5⟩ := (HS2.out.below' hb).cells hqt
          have HRB := hid ((HR1.out.below HB5.out (by have := HZ1.out; omega)).below hb (by have := HZ1.out; have := HB5.out.size; omega))
          have y0 := HRB.out.cell' 0
          have y1 := HRB.out.cell' 1
          have y2 := HRB.out.cell' 2
          have y3 := HRB.out.cell' 3
          have hbl := World.block_lt_of_cell? wB _ x0
          have hsl := World.block_lt_of_cell? wB _ y0
          have HXO := hid (knd_ok HOK.out l[q] (by rw [← HL.out]; exact List.getElem_mem hqt))
          have HNO := hid (fun (h : kindOk sg kq l[q] = false) => show togB sg = false from togB_no HLT.out (by unfold kindsOk; rw [← HKQ.out, ← HL.out, all_no hqt h]; simp))
          have HNXT := hid (fun (h : kindOk sg kq l[q] = true) => all_take hqt HALL.out h)
          have HCA := hid (fun o => HC.out.alloc HC.out.size o)
          have HWA := hid (fun o => show Below w.heap.size w (wB.alloc o) from HB15.out.trans ((HCA.out o).mono HB15.out.size))
          generalize l[q] = x at *
          have HIS := hid (fun o => isLoaded_any typ entry phoff a c sg x (wB.alloc o) (HS4.out.below' (HB5.out.trans ((HCA.out o).mono HB5.out.size))) HN.out HOK.out HXO.out)
          clear hb
          by_cases hk3 : kq = 3
          · have e3 : (kq == 3) = true := by simpa using hk3
            have HKO := hid (show kindOk sg kq x = decide (¬ x.fsz = 0 ∧ x.fsz ≤ 201) from if_pos hk3)
            clear hk3
            by_cases h0 : x.fsz = 0
            · have e4 : (x.fsz == 0) = true := by simpa using h0
              have HF := hid (HNO.out (HKO.out.trans (decide_eq_false (fun h => h.1 h0))))
              clear h0
              go_wp2_with fail
              refine (refuse_yes 25 _).mono ?_
              rintro e w' ⟨rfl, rfl⟩
              go_wp2_with fail
              exact ⟨rfl, ckP_no HF.out (HWA.out _)⟩
            have e4 : (x.fsz == 0) = false := by simpa using h0
            by_cases h1 : x.fsz ≤ 201
            rotate_left
            · have e5 : decide (201 < x.fsz) = true := by simp; omega
              have HF := hid (HNO.out (HKO.out.trans (decide_eq_false (fun h => h1 h.2))))
              clear h0 h1
              go_wp2_with fail
              refine (refuse_yes 25 _).mono ?_
              rintro e w' ⟨rfl, rfl⟩
              go_wp2_with fail
              exact ⟨rfl, ckP_no HF.out (HWA.out _)⟩
            have e5 : decide (201 < x.fsz) = false := by simp; omega
            have HT := hid (HKO.out.trans (decide_eq_true ⟨h0, h1⟩))
            clear h0 h1
            go_wp2_with fail
            refine (refuse_no 25 _).mono ?_
            rintro e w' ⟨rfl, rfl⟩
            go_wp2_with fail
            go_roundw
            case rel => exact ⟨q + 1, by omega, by go_num, HNXT.out HT.out, HCA.out _⟩
            case measure => simp [intOf]; omega
          · have e3 : (kq == 3) = false := by simpa using hk3
            have HKO := hid (show kindOk sg kq x = isLoadedB sg x from if_neg hk3)
            clear hk3
            go_wp2_with fail
            refine (HIS.out _).mono ?_
            rintro e' w7 ⟨rfl, hb7⟩
            have HB7 := hid ((HCA.out _).trans (hb7.mono (HCA.out _).size))
            have HW7 := hid (HB15.out.trans (HB7.out.mono HB15.out.size))
            clear hb7 x0 x1 x2 x3 x4 x5 y0 y1 y2 y3
            cases hil : isLoadedB sg x
            · have HF := hid (HNO.out (HKO.out.trans hil))
              clear hil
              go_wp2_with fail
              refine (refuse_yes 25 _).mono ?_
              rintro e w' ⟨rfl, rfl⟩
              go_wp2_with fail
              exact ⟨rfl, ckP_no HF.out HW7.out⟩
            · have HT := hid (HKO.out.trans hil)
              clear hil
              go_wp2_with fail
              refine (refuse_no 25 _).mono ?_
              rintro e w' ⟨rfl, rfl⟩
              go_wp2_with fail
              go_roundw
              case rel => exact ⟨q + 1, by omega, by go_num, HNXT.out HT.out, HB7.out⟩
              case measure => simp [intOf]; omega
        · have d2 : decide ((q : Int) < (l.length : Int)) = false := by simp; omega
          have d2n : decide (q < l.length) = false := by simp; omega
          have HKS := hid (show kindsOk sg kq = true by
            obtain rfl : q = l.length := by omega
            have := HALL.out
            rw [List.take_length] at this
            unfold kindsOk
            rw [← HL.out, decide_eq_true H2.out, this]
            rfl)
          have HBX := hid (HB5.out.trans (HC.out.mono HB5.out.size))
          clear hb
          go_wp2_with fail
          go_roundw
          case rel => exact ⟨k + 1, by omega, by go_num, (fun j hj => by
            rcases Nat.lt_or_ge j k with h | h
            · exact HJ.out j h
            · obtain rfl : j = k := by omega
              rw [← HKQ.out]; exact HKS.out), HBX.out⟩
          case measure => simp [intOf]; omega
    · have d1 : decide ((k : Int) < 3) = false := by simp; omega
      have d1n : decide (k < 3) = false := by simp; omega
      have HT := hid (togB_yes HNE.out (fun j h => HJ.out j (by omega)))
      have HBX := hid (HB1.out.trans (HB.out.mono HB1.out.size))
      go_wp2_with fail
      first | go_end0 | refine bodyPost_ret (results_none rfl _ _ _) rfl ?_
      exact ckP_yes HT.out HBX.out
end Go.Proofs.YtaaohcpiideaaaaDoor
