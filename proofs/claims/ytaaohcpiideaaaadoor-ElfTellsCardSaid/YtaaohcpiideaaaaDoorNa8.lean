
/- elf.Span, of any head. -/
import Derived.Test.YtaaohcpiideaaaaDoorNa2
namespace Go.Proofs.YtaaohcpiideaaaaDoor
open Go.RowKit Go.Sort Go.Shelf
attribute [local go_sem] Oper.semAt_some

def endOk (z : SG) : Bool := addB z.addr z.msz && upB (addV z.addr z.msz)
def spanG (l : List SG) : Int × Int := if h : 0 < l.length then (if endOk l[l.length - 1] = true then (l[0].addr - l[0].addr % 4096, upV (addV l[l.length - 1].addr l[l.length - 1].msz)) else (0, 0)) else (0, 0)
theorem addV_u {a b : Int} (ha : 0 ≤ a) (hb : 0 ≤ b) (ha' : a ≤ 18446744073709551615) (hb' : b ≤ 18446744073709551615) : 0 ≤ addV a b ∧ addV a b ≤ 18446744073709551615 := by
  rw [addV_eq ha hb ha' hb']
  split <;> omega
set_option maxRecDepth 100000 in
set_option maxHeartbeats 4000000 in
theorem spanG_any (typ entry phoff : Int) (a : Option Addr) (c : Nat) (sg : List SG) (w : World) (hS : Sgs w a sg.length sg) (hn : sg.length ≤ 1000000000) (hok : ∀ s ∈ sg, SGok s) :
    Calls Tryd.prog 11 #[.agg #[.int .u16 typ, .int .u64 entry, .int .u64 phoff, .slice a sg.length c]] w fun e w' => e = .returned (.tuple #[.int .u64 (spanG (lds sg)).1, .int .u64 (spanG (lds sg)).2]) ∧ Below w.heap.size w w' := by
  have HK := hid (fun o => loads12_any typ entry phoff a c sg (w.alloc o) (hS.below' (bal o)) hn)
  have HB := hid (@bal w)
  have hlok := lds_ok hok
  have hll := lds_len sg
  obtain ⟨l, hl⟩ : ∃ l, l = lds sg := ⟨_, rfl⟩
  rw [← hl] at HK hlok hll ⊢
  clear hS hok hl
  by_cases hpos : 0 < l.length
  rotate_left
  · have e0 : l = [] := List.length_eq_zero_iff.1 (by omega)
    subst e0
    have HR := hid (show spanG [] = (0, 0) from rfl)
    clear hlok hll hpos
    go_enter Tryd.func11, Tryd.ntmps11
    go_wp2_with fail
    refine (HK.out _).mono ?_
    rintro e' w1 ⟨v, rfl, ho, hb⟩
    obtain ⟨a1, c1, rfl, hs1, _⟩ := ownG_open ho
    have HB1 := hid (bthen (HB.out _) hb)
    clear ho hb hs1
    go_wp2_with fail
    go_ret2
    exact ⟨rfl, HB1.out⟩
  obtain ⟨q, hq⟩ : ∃ q, q + 1 = l.length := ⟨l.length - 1, by omega⟩
  have hqi : (l.length : Int) - 1 = (q : Int) := by omega
  have hz0 : ((l.length : Int) == 0) = false := by rw [beq_eq_false_iff_ne]; omega
  have hz0n : (l.length == 0) = false := by rw [beq_eq_false_iff_ne]; omega
  have k0 := hlok l[0] (List.getElem_mem _)
  have kz := hlok (l[q]'(by omega)) (List.getElem_mem _)
  have HSP := hid (show spanG l = (if endOk (l[q]'(by omega)) = true then (l[0].addr - l[0].addr % 4096, upV (addV (l[q]'(by omega)).addr (l[q]'(by omega)).msz)) else (0, 0)) from by
    unfold spanG
    rw [dif_pos hpos]
    simp only [show l.length - 1 = q by omega])
  have HU := hid (addV_u kz.a0 kz.m0 kz.a1 kz.m1)
  have hq2 : q < l.length := by omega
  have HEK := hid (show ∀ z, endOk z = (addB z.addr z.msz && upB (addV z.addr z.msz)) from fun _ => rfl)
  have HDN := hid (fun wx => down_any l[0].addr wx k0.a0 k0.a1)
  clear k0 kz hlok
  go_enter Tryd.func11, Tryd.ntmps11
  go_wp2_with fail
  refine (HK.out _).mono ?_
  rintro e' w1 ⟨v, rfl, ho, hb⟩
  obtain ⟨a1, c1, rfl, hs1, _⟩ := ownG_open ho
  have HB1 := hid (bthen (HB.out _) hb)
  obtain ⟨b, off, rfl, z0, z1, z2, z3, z4, z5⟩ := hs1.cells hpos
  obtain ⟨b', off', e9, y0, y1, y2, y3, y4, y5⟩ := hs1.cells hq2
  cases e9
  have hbl := World.block_lt_of_cell? w1 _ z3
  have HBA := hid (fun o => HB1.out.alloc HB1.out.size o)
  simp only [Nat.zero_mul, Nat.add_zero] at z0 z1 z2 z3 z4 z5
  generalize l[q] = z at *
  generalize l[0] = f at *
  clear ho hb hs1 HK
  go_wp2_with fail
  refine (add_any z.addr z.msz _).mono ?_
  rintro e' w2 ⟨rfl, rfl⟩
  cases h1 : addB z.addr z.msz
  · have HR := hid (show spanG l = (0, 0) by rw [HSP.out, if_neg (by rw [HEK.out, h1]; simp)])
    clear h1
    go_wp2_with fail
    go_ret2
    exact ⟨by rw [HR.out]; rfl, HBA.out _⟩
  have H1 := hid h1
  clear h1
  go_wp2_with fail
  refine (up_any (addV z.addr z.msz) _ HU.out.1 HU.out.2).mono ?_
  rintro e' w2 ⟨rfl, rfl⟩
  cases h2 : upB (addV z.addr z.msz)
  · have HR := hid (show spanG l = (0, 0) by rw [HSP.out, if_neg (by rw [HEK.out, H1.out, h2]; simp)])
    clear h2
    go_wp2_with fail
    go_ret2
    exact ⟨by rw [HR.out]; rfl, HBA.out _⟩
  have HR := hid (show spanG l = (f.addr - f.addr % 4096, upV (addV z.addr z.msz)) by rw [HSP.out, if_pos (by rw [HEK.out, H1.out, h2]; rfl)])
  clear h2
  generalize upV (addV z.addr z.msz) = hi at *
  go_wp2_with fail
  refine (HDN.out _).mono ?_
  rintro e' w2 ⟨rfl, rfl⟩
  go_wp2_with fail
  go_ret2
  exact ⟨by rw [HR.out]; rfl, HBA.out _⟩
end Go.Proofs.YtaaohcpiideaaaaDoor
