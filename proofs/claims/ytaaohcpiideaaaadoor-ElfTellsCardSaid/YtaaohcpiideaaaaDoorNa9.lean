
/- elf.Phdr, of any head. -/
import Derived.Test.YtaaohcpiideaaaaDoorNa3
namespace Go.Proofs.YtaaohcpiideaaaaDoor
open Go.RowKit Go.Sort Go.Shelf
attribute [local go_sem] Oper.semAt_some

def inPh (phoff : Int) (n : Nat) (x : SG) : Bool := decide (x.off ≤ phoff) && insB (phoff - x.off) ((n : Int) * 56) x.fsz
def phFind (phoff : Int) (n : Nat) (l : List SG) : Int := match l.find? (inPh phoff n) with
  | some x => addV x.addr (phoff - x.off)
  | none => 0
def phdrG (phoff : Int) (sg : List SG) : Int := if h : 0 < (knd 6 sg).length then (knd 6 sg)[0].addr else phFind phoff sg.length (lds sg)
theorem find_at {α : Type} {p : α → Bool} {l : List α} {k : Nat} (hk : k < l.length) (h : (l.take k).any p = false) (hp : p l[k] = true) : l.find? p = some l[k] := by
  have e : l = l.take k ++ (l[k] :: l.drop (k + 1)) := by rw [← List.drop_eq_getElem_cons hk, List.take_append_drop]
  have hn : (l.take k).find? p = none := by
    rw [List.find?_eq_none]
    intro x hx
    rw [List.any_eq_false] at h
    exact h x hx
  rw [show l.find? p = (l.take k ++ (l[k] :: l.drop (k + 1))).find? p by rw [← e], List.find?_append, hn, List.find?_cons_of_pos hp]
  rfl
theorem find_no {α : Type} {p : α → Bool} {l : List α} (h : l.any p = false) : l.find? p = none := by
  rw [List.find?_eq_none]
  intro x hx
  rw [List.any_eq_false] at h
  exact h x hx
set_option maxRecDepth 100000 in
set_option maxHeartbeats 8000000 in
theorem phdr_any (typ entry phoff : Int) (a : Option Addr) (c : Nat) (sg : List SG) (w : World) (hS : Sgs w a sg.length sg) (hn : sg.length ≤ 1000000000) (hok : ∀ s ∈ sg, SGok s) (hp0 : 0 ≤ phoff) (hp1 : phoff ≤ 18446744073709551615) :
    Calls Tryd.prog 17 #[.agg #[.int .u16 typ, .int .u64 entry, .int .u64 phoff, .slice a sg.length c]] w fun e w' => e = .returned (.int .u64 (phdrG phoff sg)) ∧ Below w.heap.size w w' := by
  obtain ⟨W, hW⟩ : ∃ W, W = w.alloc (.cells #[.int .u16 typ, .int .u64 entry, .int .u64 phoff, .slice a sg.length c] 26) := ⟨_, rfl⟩
  have HW := hid hW
  have HLOW := hid (show Below w.heap.size w W by rw [hW]; exact bal _)
  have HROW := hid (show Row W w.heap.size 26 [.int .u16 typ, .int .u64 entry, .int .u64 phoff, .slice a sg.length c] by rw [hW]; exact Row.new _ _ _)
  have HWZ := hid (show W.heap.size = w.heap.size + 1 by rw [hW, World.size_alloc])
  have HS := hid (hS.below' HLOW.out)
  have HOF := hid (ofKindG_any 6 typ entry phoff a c sg W HS.out hn)
  have HOK := hid (lds_ok hok)
  have HN := hid hn
  have HP := hid (show 0 ≤ phoff ∧ phoff ≤ 18446744073709551615 from ⟨hp0, hp1⟩)
  obtain ⟨R, hR⟩ : ∃ R, R = phdrG phoff sg := ⟨_, rfl⟩
  rw [← hR]
  have HR := hid hR
  have w0 := HROW.out.cell' 0
  have w1 := HROW.out.cell' 1
  have w2 := HROW.out.cell' 2
  have w3 := HROW.out.cell' 3
  clear hW hS hok hR hp0 hp1
  go_enter Tryd.func17, Tryd.ntmps17
  go_wp2_with fail
  rw [← HW.out]
  go_wp2_with fail
  refine HOF.out.mono ?_
  rintro e' w4 ⟨v, rfl, ho, hb⟩
  obtain ⟨a1, c1, rfl, hs1, _⟩ := ownG_open ho
  obtain ⟨m, hm⟩ : ∃ m, m = knd 6 sg := ⟨_, rfl⟩
  have HM := hid hm
  rw [← hm] at hs1 ⊢
  have HB4 := hid (HLOW.out.trans (hb.mono HLOW.out.size))
  have HR4 := hid (HROW.out.below hb (by rw [HWZ.out]; omega))
  have HS4 := hid (HS.out.below' hb)
  clear ho hb hm w0 w1 w2 w3
  by_cases hpos : 0 < m.length
  · have d1 : decide ((0 : Int) < (m.length : Int)) = true := by simp; omega
    have d1n : decide (0 < m.length) = true := by simp; omega
    have HRE := hid (show R = m[0].addr by
      have h := HM.out
      subst h
      rw [HR.out]
      unfold phdrG
      rw [dif_pos hpos])
    obtain ⟨b, off, rfl, z0, z1, z2, z3, z4, z5⟩ := hs1.cells hpos
    simp only [Nat.zero_mul, Nat.add_zero] at z0 z1 z2 z3 z4 z5
    generalize m[0] = f at *
    go_wp2_with fail
    go_ret
    exact ⟨by rw [HRE.out]; rfl, HB4.out⟩
  have d1 : decide ((0 : Int) < (m.length : Int)) = false := by rw [show m.length = 0 by omega]; rfl
  have d1n : decide (0 < m.length) = false := by rw [show m.length = 0 by omega]; rfl
  have HRE := hid (show R = phFind phoff sg.length (lds sg) by
    have h := HM.out
    rw [h] at hpos
    rw [HR.out]
    unfold phdrG
    rw [dif_neg hpos])
  have y0 := HR4.out.cell' 0
  have y1 := HR4.out.cell' 1
  have y2 := HR4.out.cell' 2
  have y3 := HR4.out.cell' 3
  have HK := hid (loads12_any typ entry phoff a c sg w4 HS4.out HN.out)
  have HLL := hid (show (lds sg).length ≤ 1000000000 from Nat.le_trans (lds_len sg) HN.out)
  obtain ⟨l, hl⟩ : ∃ l, l = lds sg := ⟨_, rfl⟩
  rw [← hl] at HK HOK HLL HRE
  obtain ⟨n, hnn⟩ : ∃ n, n = sg.length := ⟨_, rfl⟩
  have HNN := hid hnn
  rw [← hnn] at HRE
  have ewl := IntWalk.u64_in (sg.length : Int) ⟨by omega, by have := HN.out; omega⟩
  have ewm := IntWalk.u64_in ((sg.length : Int) * 56) ⟨by omega, by have := HN.out; omega⟩
  clear hl hpos hs1
  clear hnn
  go_wp2_with fail
  refine HK.out.mono ?_
  rintro e' w5 ⟨v, rfl, ho, hb⟩
  obtain ⟨a2, c2, rfl, hs2, _⟩ := ownG_open ho
  have HS5 := hid hs2
  have HB5 := hid (HB4.out.trans (hb.mono HB4.out.size))
  have HR5 := hid (HR4.out.below hb HR4.out.lt)
  clear ho hb hs2 y0 y1 y2 y3 HK ewl ewm
  go_wp2_with fail
  go_loopw [26] (fun i wr => ∃ k : Nat, k ≤ l.length ∧ i = .int .i64 k ∧ (l.take k).any (inPh phoff n) = false ∧ Below w5.heap.size w5 wr) (fun i _ => l.length - (intOf i).toNat)
  case atStart => exact ⟨0, Nat.zero_le _, rfl, rfl, Below.refl _ _⟩
  case round =>
    obtain ⟨k, hk, rfl, hno, hb⟩ := hrel
    have HB := hid hb
    have HNO := hid hno
    clear hno
    have hll := HLL.out
    by_cases hlt : k < l.length
    · have d2 : decide ((k : Int) < (l.length : Int)) = true := by simp; omega
      have d2n : decide (k < l.length) = true := by simp; omega
      obtain ⟨b, off, rfl, x0, x1, x2, x3, x4, x5⟩ := (HS5.out.below' hb).cells hlt
      have HRR := hid (HR5.out.below hb HR5.out.lt)
      have y2 := HRR.out.cell' 2
      have hbl := World.block_lt_of_cell? wr _ x0
      have hsl := World.block_lt_of_cell? wr _ y2
      have HXO := hid (HOK.out _ (List.getElem_mem hlt))
      have HANY := hid (fun (h : inPh phoff n l[k] = true) => show R = addV l[k].addr (phoff - l[k].off) by rw [HRE.out]; unfold phFind; rw [find_at hlt HNO.out h])
      have HNXT := hid (fun (h : inPh phoff n l[k] = false) => any_take hlt HNO.out h)
      generalize l[k] = x at *
      have HBA := hid (fun o => HB.out.alloc HB.out.size o)
      have xo0 := HXO.out.o0
      have hp := HP.out
      clear hb
      by_cases h1 : x.off ≤ phoff
      rotate_left
      · have e1 : decide (x.off ≤ phoff) = false := by simp; omega
        have HF := hid (show inPh phoff n x = false by unfold inPh; rw [e1]; rfl)
        clear h1
        go_wp2_with fail
        go_roundw
        case rel => exact ⟨k + 1, by omega, by go_num, HNXT.out HF.out, HBA.out _⟩
        case measure => simp [intOf]; omega
      have e1 : decide (x.off ≤ phoff) = true := by simp; omega
      have ew := IntWalk.u64_in (phoff - x.off) ⟨by omega, by omega⟩
      have HI := hid (fun wx => inside_any (phoff - x.off) ((sg.length : Int) * 56) x.fsz wx (by omega) HXO.out.z1)
      have HIN := hid (show ∀ b2, insB (phoff - x.off) ((sg.length : Int) * 56) x.fsz = b2 → inPh phoff n x = b2 from by
        intro b2 h2
        unfold inPh
        rw [e1, HNN.out, h2]
        rfl)
      clear h1
      go_wp2_with fail
      refine (HI.out _).mono ?_
      rintro e' w6 ⟨rfl, rfl⟩
      cases h2 : insB (phoff - x.off) ((sg.length : Int) * 56) x.fsz
      · have H2 := hid h2
        clear h2
        go_wp2_with fail
        go_roundw
        case rel => exact ⟨k + 1, by omega, by go_num, HNXT.out (HIN.out _ H2.out), HBA.out _⟩
        case measure => simp [intOf]; omega
      have HT := hid (HANY.out (HIN.out _ h2))
      clear h2
      go_wp2_with fail
      refine (add_any x.addr (phoff - x.off) _).mono ?_
      rintro e' w6 ⟨rfl, rfl⟩
      go_wp2_with fail
      go_ret
      exact ⟨by rw [HT.out]; rfl, HB5.out.trans ((HBA.out _).mono HB5.out.size)⟩
    · have d2 : decide ((k : Int) < (l.length : Int)) = false := by simp; omega
      have d2n : decide (k < l.length) = false := by simp; omega
      have HF := hid (show R = 0 by
        obtain rfl : k = l.length := by omega
        have := HNO.out
        rw [List.take_length] at this
        rw [HRE.out]
        unfold phFind
        rw [find_no this])
      go_wp2_with fail
      go_ret
      exact ⟨by rw [HF.out]; rfl, HB5.out.trans (HB.out.mono HB5.out.size)⟩
end Go.Proofs.YtaaohcpiideaaaaDoor
