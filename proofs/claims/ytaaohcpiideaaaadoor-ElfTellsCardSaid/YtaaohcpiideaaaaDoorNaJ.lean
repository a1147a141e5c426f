
/- hostelref12.Phdr. -/
import Derived.Test.YtaaohcpiideaaaaDoorNa9
import Derived.Test.YtaaohcpiideaaaaDoorNaI
namespace Go.Proofs.YtaaohcpiideaaaaDoor
open Go.RowKit Go.Sort Go.Shelf
attribute [local go_sem] Oper.semAt_some

def isK (q : Int) (s : SG) : Bool := decide (s.kind = q)
theorem knd_none {q : Int} {l : List SG} (h : l.any (isK q) = false) : knd q l = [] := by
  unfold knd
  rw [List.filter_eq_nil_iff]
  intro s hs
  rw [List.any_eq_false] at h
  exact h s hs
theorem knd_first {q : Int} {l : List SG} {k : Nat} (hk : k < l.length) (h : (l.take k).any (isK q) = false) (hq : l[k].kind = q) : ∃ r, knd q l = l[k] :: r := by
  have e : l = l.take k ++ (l[k] :: l.drop (k + 1)) := by rw [← List.drop_eq_getElem_cons hk, List.take_append_drop]
  have h2 : knd q l = knd q (l.take k) ++ knd q (l[k] :: l.drop (k + 1)) := by
    rw [show knd q l = knd q (l.take k ++ (l[k] :: l.drop (k + 1))) by rw [← e]]
    unfold knd
    rw [List.filter_append]
  rw [h2, knd_none h]
  unfold knd
  rw [List.filter_cons_of_pos (by simpa using hq)]
  exact ⟨_, rfl⟩
theorem phdr_first {phoff : Int} {l : List SG} {k : Nat} (hk : k < l.length) (h : (l.take k).any (isK 6) = false) (hq : l[k].kind = 6) : phdrG phoff l = l[k].addr := by
  obtain ⟨r, hr⟩ := knd_first hk h hq
  unfold phdrG
  simp [hr]
theorem phdr_none {phoff : Int} {l : List SG} (h : l.any (isK 6) = false) : phdrG phoff l = phFind phoff l.length (lds l) := by
  unfold phdrG
  rw [dif_neg (by rw [knd_none h]; simp)]
theorem any_turn {α : Type} {p : α → Bool} {l : List α} {k : Nat} (hk : k < l.length) (h : (l.take k).any p = false) (hp : p l[k] = false) : (l.take (k + 1)).any p = false := by
  rw [List.take_succ_eq_append_getElem hk, List.any_append, h]
  simp [hp]
set_option maxRecDepth 100000 in
set_option maxHeartbeats 8000000 in
theorem rphdr12_any (typ entry phoff : Int) (a : Option Addr) (c : Nat) (sg : List SG) (w : World) (hS : Sgs w a sg.length sg) (hn : sg.length ≤ 1000000000) (hok : ∀ s ∈ sg, SGok s) (hp0 : 0 ≤ phoff) (hp1 : phoff ≤ 18446744073709551615) :
    Calls Tryd.prog 18 #[.agg #[.int .u16 typ, .int .u64 entry, .int .u64 phoff, .slice a sg.length c]] w fun e w' => e = .returned (.int .u64 (phdrG phoff sg)) ∧ Below w.heap.size w w' := by
  obtain ⟨W, hW⟩ : ∃ W, W = w.alloc (.cells #[.int .u16 typ, .int .u64 entry, .int .u64 phoff, .slice a sg.length c] 26) := ⟨_, rfl⟩
  have HW := hid hW
  have HLOW := hid (show Below w.heap.size w W by rw [hW]; exact bal _)
  have HROW := hid (show Row W w.heap.size 26 [.int .u16 typ, .int .u64 entry, .int .u64 phoff, .slice a sg.length c] by rw [hW]; exact Row.new _ _ _)
  have HWZ := hid (show W.heap.size = w.heap.size + 1 by rw [hW, World.size_alloc])
  have HS := hid (hS.below' HLOW.out)
  have HOK := hid (lds_ok hok)
  have HN := hid hn
  have HP := hid (show 0 ≤ phoff ∧ phoff ≤ 18446744073709551615 from ⟨hp0, hp1⟩)
  obtain ⟨R, hR⟩ : ∃ R, R = phdrG phoff sg := ⟨_, rfl⟩
  rw [← hR]
  have HR := hid hR
  have w0 := HROW.out.cell' 0
  have w1 := HROW.out.cell' 1
  have w2 := HROW.out.cell' 2
  have w3 := HROW.out.cell' 3
  have hwlt := HROW.out.lt
  clear hW hS hok hR hp0 hp1
  go_enter Tryd.func18, Tryd.ntmps18
  go_wp2_with fail
  rw [← HW.out]
  go_loopw [3] (fun i wr => ∃ k : Nat, k ≤ sg.length ∧ i = .int .i64 k ∧ (sg.take k).any (isK 6) = false ∧ W = wr) (fun i _ => sg.length - (intOf i).toNat)
  case atStart => exact ⟨0, Nat.zero_le _, rfl, rfl, rfl⟩
  case round =>
    obtain ⟨k, hk, rfl, hno, rfl⟩ := hrel
    have HNO := hid hno
    clear hno
    by_cases hlt : k < sg.length
    · have d1 : decide ((k : Int) < (sg.length : Int)) = true := by simp; omega
      have d1n : decide (k < sg.length) = true := by simp; omega
      obtain ⟨b, off, rfl, x0, x1, x2, x3, x4, x5⟩ := HS.out.cells hlt
      have HFI := hid (fun h => phdr_first (phoff := phoff) hlt HNO.out h)
      have HNX := hid (fun h => any_turn hlt HNO.out h)
      have HLT := hid hlt
      generalize sg[k] = s at *
      by_cases hk1 : s.kind = 6
      · have d2 : (s.kind == 6) = true := by simp [hk1]
        have HT := hid (HFI.out hk1)
        clear hk1
        go_wp2_with fail
        go_ret
        exact ⟨by rw [HR.out, HT.out]; rfl, HLOW.out⟩
      · have d2 : (s.kind == 6) = false := by simpa using hk1
        have HT := hid (HNX.out (decide_eq_false hk1))
        clear hk1
        go_wp2_with fail
        go_roundw
        case rel => exact ⟨k + 1, by omega, by go_num, HT.out, trivial⟩
        case measure => simp [intOf]; omega
    · have d1 : decide ((k : Int) < (sg.length : Int)) = false := by simp; omega
      have d1n : decide (k < sg.length) = false := by simp; omega
      obtain rfl : k = sg.length := by omega
      have HRE := hid (show R = phFind phoff sg.length (lds sg) by
        have h := HNO.out
        rw [List.take_length] at h
        rw [HR.out]
        exact phdr_none h)
      have HK := hid (rloads12_any typ entry phoff a c sg W HS.out HN.out)
      have HLL := hid (show (lds sg).length ≤ 1000000000 from Nat.le_trans (lds_len sg) HN.out)
      obtain ⟨l, hl⟩ : ∃ l, l = lds sg := ⟨_, rfl⟩
      rw [← hl] at HK HOK HLL HRE
      obtain ⟨n, hnn⟩ : ∃ n, n = sg.length := ⟨_, rfl⟩
      have HNN := hid hnn
      rw [← hnn] at HRE
      have ewl := IntWalk.u64_in (sg.length : Int) ⟨by omega, by have := HN.out; omega⟩
      have ewm := IntWalk.u64_in ((sg.length : Int) * 56) ⟨by omega, by have := HN.out; omega⟩
      clear hl hnn hlt hk
      go_wp2_with fail
      refine HK.out.mono ?_
      rintro e' w5 ⟨v, rfl, ho, hb⟩
      obtain ⟨a2, c2, rfl, hs2, _⟩ := ownG_open ho
      have HS5 := hid hs2
      have HB5 := hid (HLOW.out.trans (hb.mono HLOW.out.size))
      have HR5 := hid (HROW.out.below hb HROW.out.lt)
      clear ho hb hs2 w0 w1 w2 w3 HK hwlt
      go_wp2_with fail
      go_loopw [5] (fun i wr => ∃ k : Nat, k ≤ l.length ∧ i = .int .i64 k ∧ (l.take k).any (inPh phoff n) = false ∧ Below w5.heap.size w5 wr) (fun i _ => l.length - (intOf i).toNat)
      case atStart => exact ⟨0, Nat.zero_le _, rfl, rfl, Below.refl _ _⟩
      case round =>
        obtain ⟨k, hk, rfl, hno, hb⟩ := hrel
        have HB := hid hb
        have HNO2 := hid hno
        clear hno
        have hll := HLL.out
        by_cases hlt : k < l.length
        · have d2 : decide ((k : Int) < (l.length : Int)) = true := by simp; omega
          have d2n : decide (k < l.length) = true := by simp; omega
          have kz : (0 : Int) ≤ (k : Int) := by omega
          have kb : (k : Int) < (l.length : Int) := by omega
          obtain ⟨b, off, rfl, x0, x1, x2, x3, x4, x5⟩ := (HS5.out.below' hb).cells hlt
          have HRR := hid (HR5.out.below hb HR5.out.lt)
          have y2 := HRR.out.cell' 2
          have y3 := HRR.out.cell' 3
          have hbl := World.block_lt_of_cell? wr _ x0
          have hsl := World.block_lt_of_cell? wr _ y2
          have HXO := hid (HOK.out _ (List.getElem_mem hlt))
          have HANY := hid (fun (h : inPh phoff n l[k] = true) => show R = addV l[k].addr (phoff - l[k].off) by rw [HRE.out]; unfold phFind; rw [find_at hlt HNO2.out h])
          have HNXT := hid (fun (h : inPh phoff n l[k] = false) => any_turn hlt HNO2.out h)
          generalize l[k] = x at *
          have HBA := hid (fun n => bdN HB.out n)
          have xo0 := HXO.out.o0
          have hp := HP.out
          clear hb
          by_cases h1 : x.off ≤ phoff
          rotate_left
          · have e1 : decide (x.off ≤ phoff) = false := by simp; omega
            have HF := hid (show inPh phoff n x = false by unfold inPh; rw [e1]; rfl)
            clear h1
            go_wp2_with fail
            go_quiet (fail)
            go_wp2_with fail
            go_roundw
            case rel => exact ⟨k + 1, by omega, by go_num, HNXT.out HF.out, HBA.out _⟩
            case measure => simp [intOf]; omega
          have e1 : decide (x.off ≤ phoff) = true := by simp; omega
          have ew := IntWalk.u64_in (phoff - x.off) ⟨by omega, by omega⟩
          have HI := hid (fun wx => rinside_any (phoff - x.off) ((sg.length : Int) * 56) x.fsz wx (by omega) HXO.out.z1)
          have HIN := hid (show ∀ b2, insB (phoff - x.off) ((sg.length : Int) * 56) x.fsz = b2 → inPh phoff n x = b2 from by
            intro b2 h2
            unfold inPh
            rw [e1, HNN.out, h2]
            rfl)
          clear h1
          cases h2 : insB (phoff - x.off) ((sg.length : Int) * 56) x.fsz
          · have H2 := hid h2
            rw [h2] at HI
            clear h2
            go_wp2_with fail
            go_quiet ((go_at_call 34; exact Calls.quiet_of_same ((HI.out _).mono (fun _ _ h => ⟨h.1, h.2.symm⟩))))
            go_wp2_with fail
            go_roundw
            case rel => exact ⟨k + 1, by omega, by go_num, HNXT.out (HIN.out _ H2.out), HBA.out _⟩
            case measure => simp [intOf]; omega
          have HT := hid (HANY.out (HIN.out _ h2))
          rw [h2] at HI
          have HA := hid (fun wx => radd_any x.addr (phoff - x.off) wx)
          clear h2
          go_wp2_with fail
          go_quiet ((go_at_call 34; exact Calls.quiet_of_same ((HI.out _).mono (fun _ _ h => ⟨h.1, h.2.symm⟩))))
          go_wp2_with fail
          have HBQ := hid (HBA.out nq)
          generalize hWQ : World.drewN wr nq = WQ at *
          have x2q : WQ.cell? ⟨b, off + k * 6 + 2, none⟩ = some (.int .u64 x.off) := by rw [← hWQ]; exact x2
          have x3q : WQ.cell? ⟨b, off + k * 6 + 3, none⟩ = some (.int .u64 x.addr) := by rw [← hWQ]; exact x3
          have y2q : WQ.cell? ⟨w.heap.size, 2, none⟩ = some (.int .u64 phoff) := by rw [← hWQ]; exact y2
          clear hWQ
          go_quiet ((go_at_call 29; exact Calls.quiet_of_same ((HA.out _).mono (fun _ _ h => ⟨h.1, h.2.symm⟩))))
          go_wp2_with fail
          go_ret
          exact ⟨by rw [HT.out]; rfl, HB5.out.trans ((bdN HBQ.out _).mono HB5.out.size)⟩
        · have d2 : decide ((k : Int) < (l.length : Int)) = false := by simp; omega
          have d2n : decide (k < l.length) = false := by simp; omega
          have HF := hid (show R = 0 by
            obtain rfl : k = l.length := by omega
            have := HNO2.out
            rw [List.take_length] at this
            rw [HRE.out]
            unfold phFind
            rw [find_no this])
          go_wp2_with fail
          go_ret
          exact ⟨by rw [HF.out]; rfl, HB5.out.trans (HB.out.mono HB5.out.size)⟩
end Go.Proofs.YtaaohcpiideaaaaDoor
