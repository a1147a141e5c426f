
/- hostelref12.Loads, Span. -/
import Derived.Test.YtaaohcpiideaaaaDoorNa8
import Derived.Test.YtaaohcpiideaaaaDoorR1
import Derived.Test.YtaaohcpiideaaaaDoorKA
import Derived.Deep.QuietTactic
import Derived.BigQuiet
namespace Go.Proofs.YtaaohcpiideaaaaDoor
open Go.RowKit Go.Sort Go.Shelf
attribute [local go_sem] Oper.semAt_some

set_option maxRecDepth 100000 in
set_option maxHeartbeats 4000000 in
theorem rloads12_any (typ entry phoff : Int) (a : Option Addr) (c : Nat) (sg : List SG) (w : World) (hS : Sgs w a sg.length sg) (hn : sg.length ≤ 1000000000) :
    Calls Tryd.prog 16 #[.agg #[.int .u16 typ, .int .u64 entry, .int .u64 phoff, .slice a sg.length c]] w fun e w' => ∃ v, e = .returned v ∧ OwnG w' w.heap.size v (lds sg) ∧ Below w.heap.size w w' := by
  obtain ⟨W, hW⟩ : ∃ W, W = w.alloc (.cells #[.int .u16 typ, .int .u64 entry, .int .u64 phoff, .slice a sg.length c] 26) := ⟨_, rfl⟩
  have HW := hid hW
  have HLOW := hid (show Below w.heap.size w W by rw [hW]; exact bal _)
  have HROW := hid (show Row W w.heap.size 26 [.int .u16 typ, .int .u64 entry, .int .u64 phoff, .slice a sg.length c] by rw [hW]; exact Row.new _ _ _)
  have HWZ := hid (show W.heap.size = w.heap.size + 1 by rw [hW, World.size_alloc])
  have HS := hid (hS.below' HLOW.out)
  clear hW hS
  go_enter Tryd.func16, Tryd.ntmps16
  go_wp2_with fail
  rw [← HW.out]
  go_loopw [3, 4] (fun v i wr => ∃ (k : Nat) (sv : Value), k ≤ sg.length ∧ sv = v ∧ i = .int .i64 k ∧ OwnG wr W.heap.size sv (lds (sg.take k)) ∧ Below W.heap.size W wr) (fun _ i _ => sg.length - (intOf i).toNat)
  case atStart => exact ⟨0, _, Nat.zero_le _, rfl, rfl, ownG_nil _ _, Below.refl _ _⟩
  case round =>
    obtain ⟨k, v, hk, rfl, rfl, hown, hb⟩ := hrel
    have HO := hid hown
    have HB := hid hb
    have HRR := hid (HROW.out.below hb HROW.out.lt)
    have y3 := HRR.out.cell' 3
    clear hown hb
    by_cases hlt : k < sg.length
    · have d1 : decide ((k : Int) < (sg.length : Int)) = true := by simp; omega
      have d1n : decide (k < sg.length) = true := by simp; omega
      obtain ⟨b, off, rfl, x0, x1, x2, x3, x4, x5⟩ := (HS.out.below' HB.out).cells hlt
      have HT := hid (lds_take hlt)
      have HLL := hid (show (lds (sg.take k)).length ≤ sg.length by have := lds_len (sg.take k); rw [List.length_take] at this; omega)
      generalize sg[k] = s at *
      by_cases hk1 : s.kind = 1
      · have d2 : (s.kind == 1) = true := by simp [hk1]
        rw [if_pos hk1] at HT
        have HOW := hid (fun o1 => show OwnG (wr.alloc o1) W.heap.size v (lds (sg.take k)) from HO.out.alloc o1)
        have HNR := hid (show Rk (wr.alloc (.cells #[.int .u32 s.kind, .int .u8 s.flags, .int .u64 s.off, .int .u64 s.addr, .int .u64 s.fsz, .int .u64 s.msz] 41)) 6 (some ⟨wr.heap.size, 0, none⟩) 1 [sgC s] from row_rk (Row.new wr 41 (sgC s)) rfl)
        have HNB := hid (fun o1 => HB.out.alloc HB.out.size o1)
        have HNZ := hid (fun o1 => show W.heap.size ≤ (wr.alloc o1).heap.size from (HNB.out o1).size)
        have HONE := hid (sgC_one [s])
        have HN1 := hid (show (((lds (sg.take k)).map sgC).length + 1) * 40 ≤ 140737488355328 by rw [List.length_map]; have := HLL.out; omega)
        have HN2 := hid (show ((lds (sg.take k)).map sgC).length + 1 ≤ maxLen by rw [List.length_map]; have := HLL.out; unfold maxLen; omega)
        clear hk1
        go_wp2_with (at_builtin; go_must (refine wpList_appKg Tryd.underlying24 infoSeg rfl (by decide) rfl _ _ rfl W.heap.size v ((lds (sg.take k)).map sgC) [sgC s] rfl (some ⟨wr.heap.size, 0, none⟩) 1 1 rfl (HOW.out _) HNR.out HONE.out (fun h => by cases h) HN1.out HN2.out (HNZ.out _) ?_; intro v' w9 hown hgrow hb9; have HO9 := hid hown; have HB9 := hid ((HNB.out _).trans hb9); clear hown hgrow hb9))
        go_roundw
        case rel => exact ⟨k + 1, _, by omega, rfl, by go_num, by rw [HT.out]; exact own_ext HO9.out (by simp) (by simp), HB9.out⟩
        case measure => simp [intOf]; omega
      · have d2 : (s.kind == 1) = false := by simpa using hk1
        rw [if_neg hk1, List.append_nil] at HT
        clear hk1
        go_wp2_with fail
        go_roundw
        case rel => exact ⟨k + 1, _, by omega, rfl, by go_num, by rw [HT.out]; exact HO.out, HB.out⟩
        case measure => simp [intOf]; omega
    · have d1 : decide ((k : Int) < (sg.length : Int)) = false := by simp; omega
      have d1n : decide (k < sg.length) = false := by simp; omega
      obtain rfl : k = sg.length := by omega
      have HF := hid (show lds (sg.take sg.length) = lds sg by rw [List.take_length])
      go_wp2_with fail
      go_ret
      exact ⟨_, rfl, by rw [← HF.out]; exact own_from HO.out (by rw [HWZ.out]; omega), HLOW.out.trans (HB.out.mono HLOW.out.size)⟩
set_option maxRecDepth 100000 in
set_option maxHeartbeats 4000000 in
theorem rspan12_any (typ entry phoff : Int) (a : Option Addr) (c : Nat) (sg : List SG) (w : World) (hS : Sgs w a sg.length sg) (hn : sg.length ≤ 1000000000) (hok : ∀ s ∈ sg, SGok s) :
    Calls Tryd.prog 12 #[.agg #[.int .u16 typ, .int .u64 entry, .int .u64 phoff, .slice a sg.length c]] w fun e w' => e = .returned (.tuple #[.int .u64 (spanG (lds sg)).1, .int .u64 (spanG (lds sg)).2]) ∧ Below w.heap.size w w' := by
  have HK := hid (fun o => rloads12_any typ entry phoff a c sg (w.alloc o) (hS.below' (bal o)) hn)
  have HB := hid (@bal w)
  have hlok := lds_ok hok
  have hll := lds_len sg
  obtain ⟨l, hl⟩ : ∃ l, l = lds sg := ⟨_, rfl⟩
  rw [← hl] at HK hlok hll ⊢
  clear hS hok hl
  by_cases hpos : 0 < l.length
  rotate_left
  · have e0 : l = [] := List.length_eq_zero_iff.1 (by omega)
    subst e0
    have HR := hid (show spanG [] = (0, 0) from rfl)
    clear hlok hll hpos
    go_enter Tryd.func12, Tryd.ntmps12
    go_wp2_with fail
    refine (HK.out _).mono ?_
    rintro e' w1 ⟨v, rfl, ho, hb⟩
    obtain ⟨a1, c1, rfl, hs1, _⟩ := ownG_open ho
    have HB1 := hid (bthen (HB.out _) hb)
    clear ho hb hs1
    go_wp2_with fail
    go_ret2
    exact ⟨rfl, HB1.out⟩
  obtain ⟨q, hq⟩ : ∃ q, q + 1 = l.length := ⟨l.length - 1, by omega⟩
  have hqi : (l.length : Int) - 1 = (q : Int) := by omega
  have hz0 : ((l.length : Int) == 0) = false := by rw [beq_eq_false_iff_ne]; omega
  have hz0n : (l.length == 0) = false := by rw [beq_eq_false_iff_ne]; omega
  have k0 := hlok l[0] (List.getElem_mem _)
  have kz := hlok (l[q]'(by omega)) (List.getElem_mem _)
  have HSP := hid (show spanG l = (if endOk (l[q]'(by omega)) = true then (l[0].addr - l[0].addr % 4096, upV (addV (l[q]'(by omega)).addr (l[q]'(by omega)).msz)) else (0, 0)) from by
    unfold spanG
    rw [dif_pos hpos]
    simp only [show l.length - 1 = q by omega])
  have HU := hid (addV_u kz.a0 kz.m0 kz.a1 kz.m1)
  have hq2 : q < l.length := by omega
  have HEK := hid (show ∀ z, endOk z = (addB z.addr z.msz && upB (addV z.addr z.msz)) from fun _ => rfl)
  have HDN := hid (fun wx => rdown_any l[0].addr wx k0.a0 k0.a1)
  clear k0 kz hlok
  go_enter Tryd.func12, Tryd.ntmps12
  go_wp2_with fail
  refine (HK.out _).mono ?_
  rintro e' w1 ⟨v, rfl, ho, hb⟩
  obtain ⟨a1, c1, rfl, hs1, _⟩ := ownG_open ho
  have HB1 := hid (bthen (HB.out _) hb)
  obtain ⟨b, off, rfl, z0, z1, z2, z3, z4, z5⟩ := hs1.cells hpos
  obtain ⟨b', off', e9, y0, y1, y2, y3, y4, y5⟩ := hs1.cells hq2
  cases e9
  have hbl := World.block_lt_of_cell? w1 _ z3
  have HBA := hid (fun n => bdN HB1.out n)
  simp only [Nat.zero_mul, Nat.add_zero] at z0 z1 z2 z3 z4 z5
  generalize l[q] = z at *
  generalize l[0] = f at *
  have HRA := hid (fun wx => radd_any z.addr z.msz wx)
  have hnn : (0 : Int) ≤ (q : Int) := by omega
  have hqq : (q : Int) < (l.length : Int) := by omega
  have ewq := IntWalk.i64_in (q : Int) ⟨by omega, by omega⟩
  have ewl : IntKind.i64.wrap ((l.length : Int) - 1) = (q : Int) := by rw [hqi]; exact ewq
  clear ho hb hs1 HK
  go_wp2_with fail
  go_quiet ((go_at_call 29; exact Calls.quiet_of_same ((HRA.out _).mono (fun _ _ h => ⟨h.1, h.2.symm⟩))))
  go_wp2_with fail
  refine (rup_any (addV z.addr z.msz) _ HU.out.1 HU.out.2).mono ?_
  rintro e' w2 ⟨rfl, rfl⟩
  cases h1 : addB z.addr z.msz
  · have HR := hid (show spanG l = (0, 0) by rw [HSP.out, if_neg (by rw [HEK.out, h1]; simp)])
    clear h1
    generalize upB (addV z.addr z.msz) = ub at *
    generalize upV (addV z.addr z.msz) = hi at *
    go_wp2_with fail
    go_ret2
    exact ⟨by rw [HR.out]; rfl, HBA.out _⟩
  have H1 := hid h1
  clear h1
  cases h2 : upB (addV z.addr z.msz)
  · have HR := hid (show spanG l = (0, 0) by rw [HSP.out, if_neg (by rw [HEK.out, H1.out, h2]; simp)])
    clear h2
    generalize upV (addV z.addr z.msz) = hi at *
    go_wp2_with fail
    go_ret2
    exact ⟨by rw [HR.out]; rfl, HBA.out _⟩
  have HR := hid (show spanG l = (f.addr - f.addr % 4096, upV (addV z.addr z.msz)) by rw [HSP.out, if_pos (by rw [HEK.out, H1.out, h2]; rfl)])
  clear h2
  generalize upV (addV z.addr z.msz) = hi at *
  go_wp2_with fail
  refine (HDN.out _).mono ?_
  rintro e' w2 ⟨rfl, rfl⟩
  go_wp2_with fail
  go_ret2
  exact ⟨by rw [HR.out]; rfl, HBA.out _⟩
end Go.Proofs.YtaaohcpiideaaaaDoor
