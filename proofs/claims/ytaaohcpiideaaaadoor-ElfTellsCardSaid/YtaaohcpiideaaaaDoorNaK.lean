
/- elf.Interp. -/
import Derived.Test.YtaaohcpiideaaaaDoorNa9
import Derived.Test.YtaaohcpiideaaaaDoorKP
import Derived.Test.YtaaohcpiideaaaaDoorSF
namespace Go.Proofs.YtaaohcpiideaaaaDoor
open Go.RowKit Go.Sort Go.Shelf
attribute [local go_sem] Oper.semAt_some

def intTx (l : BL) (s : SG) : BL := (l.drop s.off.toNat).take (s.fsz.toNat - 1)
def intGd (l : BL) (s : SG) : Bool := decide (¬ s.fsz = 0) && (insB s.off s.fsz l.length && (decide (l[s.off.toNat + s.fsz.toNat - 1]? = some 0) && decide (chkE (intTx l s) = 0)))
def intS (l : BL) (s : SG) : BL × Bool × Int := if intGd l s = true then (intTx l s, true, 0) else ([], false, 25)
/-- What Interp answers. -/
def intR (l : BL) (sg : List SG) : BL × Bool × Int := match knd 3 sg with
  | [] => ([], false, 0)
  | s :: _ => intS l s
def intE (R : BL × Bool × Int) : Ending := .returned (.tuple #[.string (ba R.1), .bool R.2.1, .int .i64 R.2.2])
theorem insB_of {a b c : Int} (h : insB a b c = true) : b ≤ c ∧ a ≤ c - b := by
  unfold insB at h
  simpa using h
set_option maxRecDepth 100000 in
set_option maxHeartbeats 8000000 in
theorem interp12_any (typ entry phoff : Int) (ab : Option Addr) (cap : Nat) (l : BL) (a : Option Addr) (c : Nat) (sg : List SG) (w : World) (hB : Byt w ab l.length l) (hlc : l.length ≤ cap) (hl : l.length ≤ 1000000) (hS : Sgs w a sg.length sg) (hn : sg.length ≤ 1000000000) (hok : ∀ s ∈ sg, SGok s) :
    Calls Tryd.prog 13 #[.slice ab l.length cap, .agg #[.int .u16 typ, .int .u64 entry, .int .u64 phoff, .slice a sg.length c]] w fun e w' => e = intE (intR l sg) ∧ Below w.heap.size w w' := by
  obtain ⟨W, hW⟩ : ∃ W, W = w.alloc (.cells #[.int .u16 typ, .int .u64 entry, .int .u64 phoff, .slice a sg.length c] 26) := ⟨_, rfl⟩
  have HW := hid hW
  have HLOW := hid (show Below w.heap.size w W by rw [hW]; exact bal _)
  have HROW := hid (show Row W w.heap.size 26 [.int .u16 typ, .int .u64 entry, .int .u64 phoff, .slice a sg.length c] by rw [hW]; exact Row.new _ _ _)
  have HOF := hid (ofKindG_any 3 typ entry phoff a c sg W (hS.below' HLOW.out) hn)
  have HOK := hid (knd_ok (q := 3) hok)
  have HBY := hid (fun W' (hb : Below w.heap.size w W') => hB.below' hb)
  have HLC := hid hlc
  obtain ⟨R, hR⟩ : ∃ R, R = intR l sg := ⟨_, rfl⟩
  rw [← hR]
  have HR := hid hR
  have w0 := HROW.out.cell' 0
  have w1 := HROW.out.cell' 1
  have w2 := HROW.out.cell' 2
  have w3 := HROW.out.cell' 3
  have HL := hid hl
  clear hW hS hok hR hB hlc hl
  go_enter Tryd.func13, Tryd.ntmps13
  go_wp2_with fail
  rw [← HW.out]
  go_wp2_with fail
  refine HOF.out.mono ?_
  rintro e' w4 ⟨v, rfl, ho, hb⟩
  obtain ⟨a1, c1, rfl, hs1, _⟩ := ownG_open ho
  obtain ⟨m, hm⟩ : ∃ m, m = knd 3 sg := ⟨_, rfl⟩
  have HM := hid hm
  rw [← hm] at hs1 HOK ⊢
  have HB4 := hid (HLOW.out.trans (hb.mono HLOW.out.size))
  clear ho hb hm w0 w1 w2 w3
  by_cases hpos : 0 < m.length
  rotate_left
  · have d1 : ((m.length : Int) == 0) = true := by rw [beq_iff_eq]; omega
    have d1n : (m.length == 0) = true := by rw [beq_iff_eq]; omega
    have HRE := hid (show R = ([], false, 0) by
      have h := HM.out
      rw [show m = [] from List.length_eq_zero_iff.1 (by omega)] at h
      rw [HR.out]
      unfold intR
      rw [← h])
    clear hpos
    go_wp2_with fail
    go_ret3
    exact ⟨by rw [HRE.out]; rfl, HB4.out⟩
  have d1 : ((m.length : Int) == 0) = false := by rw [beq_eq_false_iff_ne]; omega
  have d1n : (m.length == 0) = false := by rw [beq_eq_false_iff_ne]; omega
  have HRE := hid (show R = intS l m[0] by
    have h := HM.out
    cases m with
    | nil => simp at hpos
    | cons x r =>
      rw [HR.out]
      unfold intR
      rw [← h]
      rfl)
  obtain ⟨b, off, rfl, z0, z1, z2, z3, z4, z5⟩ := hs1.cells hpos
  simp only [Nat.zero_mul, Nat.add_zero] at z0 z1 z2 z3 z4 z5
  have HFO := hid (HOK.out m[0] (List.getElem_mem _))
  generalize m[0] = f at *
  obtain ⟨kind, flags, fo, addr, fz, msz⟩ := f
  obtain ⟨o, ho⟩ := Int.eq_ofNat_of_zero_le HFO.out.o0
  obtain ⟨n, hn2⟩ := Int.eq_ofNat_of_zero_le HFO.out.z0
  simp only at ho hn2
  subst ho hn2
  have HBA := hid (fun o => show Below w.heap.size w (w4.alloc o) from HB4.out.alloc HB4.out.size o)
  have hblt := World.block_lt_of_cell? w4 _ z0
  have HZ1 := hid HFO.out.z1
  have HO1 := hid HFO.out.o1
  simp only at z0 z1 z2 z3 z4 z5
  clear hs1 HOK
  by_cases hz : n = 0
  · have d2 : ((n : Int) == 0) = true := by simp; omega
    have HT := hid (show R = ([], false, 25) by rw [HRE.out]; unfold intS intGd; rw [decide_eq_false (by simp; omega)]; rfl)
    clear hz
    go_wp2_with fail
    go_ret3
    exact ⟨by rw [HT.out]; rfl, HBA.out _⟩
  have d2 : ((n : Int) == 0) = false := by simp; omega
  have ewl := IntWalk.u64_in (l.length : Int) ⟨by omega, by have := HL.out; omega⟩
  have HI := hid (fun wx => inside_any (o : Int) (n : Int) (l.length : Int) wx (by omega) (by have := HL.out; omega))
  cases hin : insB o n l.length
  · have HT := hid (show R = ([], false, 25) by rw [HRE.out]; unfold intS intGd; simp only; rw [hin]; simp)
    rw [hin] at HI
    clear hz hin
    go_wp2_with fail
    refine (HI.out _).mono ?_
    rintro e' w5 ⟨rfl, rfl⟩
    go_wp2_with fail
    go_ret3
    exact ⟨by rw [HT.out]; rfl, HBA.out _⟩
  obtain ⟨hi1, hi2⟩ := insB_of hin
  rw [hin] at HI
  obtain ⟨q, hq⟩ : ∃ q, q = o + n - 1 := ⟨_, rfl⟩
  have hll := HL.out
  have ew1 := IntWalk.u64_in ((o : Int) + (n : Int)) ⟨by omega, by omega⟩
  have ew2 : IntKind.u64.wrap ((o : Int) + (n : Int) - 1) = (q : Int) := by rw [show (o : Int) + (n : Int) - 1 = (q : Int) by omega]; exact IntWalk.u64_in (q : Int) ⟨by omega, by omega⟩
  obtain ⟨bb, bo, rfl, hcell⟩ := (HBY.out w (Below.refl _ _)).some_of (by omega)
  clear hcell
  have hsl := slFT .u64 .u64 bb bo l.length cap o q (o : Int) (q : Int) rfl rfl (by omega) (by have := HLC.out; omega) (by have := HLC.out; omega)
  have HBYM := hid (fun o' => (HBY.out _ (HBA.out o')).mid (f := o) (n := q - o) (by omega))
  have HBQ := hid (fun o' => (HBY.out _ (HBA.out o')).cell q (by omega))
  have HSTR := hid (fun o' => (HBYM.out o').str (P := Tryd.prog) 27 9 5 (cap - o) (by kernel_rfl) (by kernel_rfl) (by kernel_rfl))
  obtain ⟨W5, hW5⟩ : ∃ W5, W5 = w4.alloc (.cells #[.int .u32 kind, .int .u8 flags, .int .u64 o, .int .u64 addr, .int .u64 n, .int .u64 msz] 41) := ⟨_, rfl⟩
  have hstr := HSTR.out (.cells #[.int .u32 kind, .int .u8 flags, .int .u64 o, .int .u64 addr, .int .u64 n, .int .u64 msz] 41)
  obtain ⟨b9, o9, e9, hbq⟩ := HBQ.out (.cells #[.int .u32 kind, .int .u8 flags, .int .u64 o, .int .u64 addr, .int .u64 n, .int .u64 msz] 41)
  cases e9
  have HW5 := hid hW5
  rw [← hW5] at hstr hbq
  have HRW5 := hid (show Row W5 w4.heap.size 41 [.int .u32 kind, .int .u8 flags, .int .u64 o, .int .u64 addr, .int .u64 n, .int .u64 msz] by rw [hW5]; exact Row.new _ _ _)
  have HB5 := hid (show Below w.heap.size w W5 by rw [hW5]; exact HBA.out _)
  have y2 := HRW5.out.cell' 2
  have y4 := HRW5.out.cell' 4
  have htx : ((l.drop o).take (q - o)) = intTx l ⟨kind, flags, o, addr, n, msz⟩ := by unfold intTx; simp only [Int.toNat_natCast]; rw [show q - o = n - 1 by omega]
  rw [htx] at hstr
  have HTL := hid (show (intTx l ⟨kind, flags, o, addr, n, msz⟩).length ≤ 1000000 by unfold intTx; rw [List.length_take, List.length_drop]; omega)
  have HGD := hid (show intGd l ⟨kind, flags, o, addr, n, msz⟩ = (decide (l[q]? = some 0) && decide (chkE (intTx l ⟨kind, flags, o, addr, n, msz⟩) = 0)) by
    unfold intGd
    rw [show l[(SG.mk kind flags o addr n msz).off.toNat + (SG.mk kind flags o addr n msz).fsz.toNat - 1]? = l[q]? by rw [hq]; rfl, show insB (SG.mk kind flags o addr n msz).off (SG.mk kind flags o addr n msz).fsz l.length = true from hin, decide_eq_true (show ¬ (SG.mk kind flags o addr n msz).fsz = 0 from by simp; omega)]
    rfl)
  have hq0 : (0 : Int) ≤ (q : Int) := by omega
  have hq1 : (q : Int) < (l.length : Int) := by omega
  have hgl : l[q]? = some (l[q]'(by omega)) := List.getElem?_eq_getElem _
  have HGL := hid hgl
  obtain ⟨y, hy⟩ : ∃ y, y = l[q]'(by omega) := ⟨_, rfl⟩
  rw [← hy] at HGL hbq
  obtain ⟨tx, htxe⟩ : ∃ tx, tx = intTx l ⟨kind, flags, o, addr, n, msz⟩ := ⟨_, rfl⟩
  have HS := hid (show R = if intGd l ⟨kind, flags, o, addr, n, msz⟩ = true then (tx, true, 0) else ([], false, 25) by rw [HRE.out, htxe]; rfl)
  rw [← htxe] at hstr HTL HGD
  have HCK := hid (fun wx => check_any (ba tx) wx (by show tx.toArray.size ≤ _; simpa using HTL.out))
  clear hW5 hz hin hi1 hi2 hgl hy htx htxe hll hq HBQ HBYM HSTR
  go_wp2_with fail
  rw [← HW5.out]
  go_wp2_with fail
  refine (HI.out _).mono ?_
  rintro e' w6 ⟨rfl, rfl⟩
  rcases Decidable.em (y = 0) with hy0 | hy0
  rotate_left
  · have d3 : ((y.toNat : Int) != 0) = true := by
      simp only [bne_iff_ne, ne_eq]
      intro h
      exact hy0 (UInt8.toNat_inj.1 (by simpa using h))
    have HT := hid (show R = ([], false, 25) by rw [HS.out, HGD.out, HGL.out, decide_eq_false (by simpa using hy0)]; rfl)
    clear hy0
    go_wp2_with fail
    go_ret3
    exact ⟨by rw [HT.out]; rfl, HB5.out⟩
  subst hy0
  go_wp2_with fail
  refine (HCK.out _).mono ?_
  rintro e' w7 ⟨rfl, hb7⟩
  have HB7 := hid (HB5.out.trans (hb7.mono HB5.out.size))
  clear hb7
  by_cases hc : chkE (ba tx).data.toList = 0
  · rw [hc]
    have HT := hid (show R = (tx, true, 0) by rw [HS.out, HGD.out, HGL.out, decide_eq_true (by rfl), decide_eq_true (by simpa [ba] using hc)]; rfl)
    clear hc
    go_wp2_with fail
    go_ret3
    exact ⟨by rw [HT.out]; rfl, HB7.out⟩
  · have d4 : (chkE (ba tx).data.toList != 0) = true := by simpa using hc
    have HT := hid (show R = ([], false, 25) by rw [HS.out, HGD.out, HGL.out, decide_eq_true (by rfl), decide_eq_false (by simpa [ba] using hc)]; rfl)
    clear hc
    generalize chkE (ba tx).data.toList = er at *
    go_wp2_with fail
    go_ret3
    exact ⟨by rw [HT.out]; rfl, HB7.out⟩
end Go.Proofs.YtaaohcpiideaaaaDoor
