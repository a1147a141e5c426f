/- RegionsCuts: the walk. -/
import Derived.Test.YtcafmhhfnleanaaIs
import Derived.Test.YtcafmhhfnleanaaIm
import Derived.Test.YtcafmhhfnleanaaIu
namespace Go.Proofs.Ytcafmhhfnleanaa
open Go.RowKit Go.Sort

theorem cutL_len (l : List RG) (f t : Int) : (cutL l f t).length ≤ 64 := by
  unfold cutL
  split
  · exact fewL_len _
  · simp
theorem proL_len (l : List RG) (f t q : Int) : (proL l f t q).length ≤ 64 := by
  unfold proL
  split
  · split
    · exact fewL_len _
    · simp
  · simp

set_option maxHeartbeats 4000000 in
theorem regionsCuts_walk (a : Option Addr) (len cap : Nat) (l : List RG) (f t q : Int) (w : World) (hA : Rgs w a len l) (hcap : a = none → cap = 0) (hok : ∀ x ∈ l, RGok x) (f0 : 0 ≤ f) (t0 : 0 ≤ t) :
    Calls Try.prog 5 #[.slice a len cap, .agg #[.int .u64 f, .int .u64 t, .int .u8 q]] w fun e w' => e = .returned (.bool true) ∧ Below w.heap.size w w' := by
  obtain rfl := hA.hlen
  have HA := hid hA
  have HO := hid hok
  have HC := hid hcap
  have HAl := hid (fun (h : 0 < l.length) => rgs_low (cap := cap) hA h)
  have HZ := hid (Row.new w 40 [.int .u64 f, .int .u64 t, .int .u8 q])
  have HW := hid (@bal w)
  clear hA hok hcap
  by_cases h3 : 300 < l.length
  · have d0 : decide ((300 : Int) < (l.length : Int)) = true := by simp; omega
    go_enter Try.func5, Try.ntmps5
    go_wp2_with (first | (go_at_call 9; refine (large_any _ _ _ _).mono ?_; rintro e' w' ⟨rfl, rfl⟩) | (go_at_call 10; refine (works_any _).mono ?_; rintro e' w' ⟨rfl, hw⟩))
    go_ret
    exact ⟨rfl, bthen (HW.out _) hw⟩
  · have d0 : decide ((300 : Int) < (l.length : Int)) = false := by simp; omega
    have hl : l.length ≤ 300 := by omega
    have HA0 := hid (fun o => HA.out.below (bal o))
    go_enter Try.func5, Try.ntmps5
    go_wp2_with (go_at_call 9; refine (large_any _ _ _ _).mono ?_; rintro e' w' ⟨rfl, rfl⟩)
    refine (roomy_any _ _ _ l _ (HA0.out _) HC.out hl).mono ?_
    rintro e' w1 ⟨G, c, rfl, ho, hb⟩
    have hr := roomy_rgs ho
    have HR := hid hr.1
    have HB := hid (bthen (HW.out _) hb)
    have HA1 := hid ((HA0.out _).below hb)
    have HZ1 := hid (HZ.out.bel hb)
    have hG1 : G < w1.heap.size := (ho.lt G rfl).2
    have hc1 := hr.2.1
    have hc2 := hr.2.2
    clear ho hb hr
    have z0 := HZ1.out.cell 0 (by simp)
    have z1 := HZ1.out.cell 1 (by simp)
    have z2 := HZ1.out.cell 2 (by simp)
    simp only [List.getElem_cons_zero, List.getElem_cons_succ] at z0 z1 z2
    have hlz := HZ1.out.lt
    go_wp2_with fail
    refine (cut_any _ _ _ l f t _ HR.out.front hl HO.out f0 t0).mono ?_
    rintro e' w2 ⟨v, rfl, hov, hb⟩
    have HV2 := hid hov
    have HR2 := hid (HR.out.below hb)
    have HB2 := hid (bthen HB.out hb)
    have HB12 := hid hb
    have HA2 := hid (HA1.out.below hb)
    have HZ2 := hid (HZ1.out.bel hb)
    obtain ⟨av, cv, rfl, _⟩ := own_rgs hov
    clear hb hov z0 z1 z2 hlz
    have z0 := HZ2.out.cell 0 (by simp)
    have z1 := HZ2.out.cell 1 (by simp)
    have z2 := HZ2.out.cell 2 (by simp)
    simp only [List.getElem_cons_zero, List.getElem_cons_succ] at z0 z1 z2
    have hlz := HZ2.out.lt
    go_wp2_with fail
    refine (rcut_any _ _ _ l f t _ HA2.out hl HO.out f0 t0).mono ?_
    rw [← (cut_same HO.out f t f0).1, ← (cut_same HO.out f t f0).2]
    rintro e' w3 ⟨v3, rfl, hov, hb⟩
    have HV3 := hid (own_below HV2.out hb)
    have HU3 := hid hov
    have HR3 := hid (HR2.out.below hb)
    have HB3 := hid (bthen HB2.out hb)
    have HB13 := hid (bthen HB12.out hb)
    have HA3 := hid (HA2.out.below hb)
    have HZ3 := hid (HZ2.out.bel hb)
    obtain ⟨av3, cv3, rfl, _⟩ := own_rgs hov
    have hcl := cutL_len l f t
    clear hb hov z0 z1 z2 hlz
    generalize cutL l f t = cl at *
    generalize cutE l f t = ce at *
    have z0 := HZ3.out.cell 0 (by simp)
    have z1 := HZ3.out.cell 1 (by simp)
    have z2 := HZ3.out.cell 2 (by simp)
    simp only [List.getElem_cons_zero, List.getElem_cons_succ] at z0 z1 z2
    have hlz := HZ3.out.lt
    go_wp2_with fail
    refine (protect_any _ _ _ l f t q _ HR3.out.front hl HO.out f0 t0).mono ?_
    rintro e' w4 ⟨v4, rfl, hov, hb⟩
    have HV4 := hid (own_below HV3.out hb)
    have HU4 := hid (own_below HU3.out hb)
    have HP4 := hid hov
    have HR4 := hid (HR3.out.below hb)
    have HB4 := hid (bthen HB3.out hb)
    have HB14 := hid (bthen HB13.out hb)
    have hs13 := HB13.out.size
    have HA4 := hid (HA3.out.below hb)
    have HZ4 := hid (HZ3.out.bel hb)
    obtain ⟨av4, cv4, rfl, _⟩ := own_rgs hov
    clear hb hov z0 z1 z2 hlz
    have z0 := HZ4.out.cell 0 (by simp)
    have z1 := HZ4.out.cell 1 (by simp)
    have z2 := HZ4.out.cell 2 (by simp)
    simp only [List.getElem_cons_zero, List.getElem_cons_succ] at z0 z1 z2
    have hlz := HZ4.out.lt
    go_wp2_with fail
    refine (rprotect_any _ _ _ l f t q _ HA4.out hl HO.out f0 t0).mono ?_
    rw [← (pro_same HO.out f t q f0).1, ← (pro_same HO.out f t q f0).2]
    rintro e' w5 ⟨v5, rfl, hov, hb⟩
    have HV5 := hid (own_below HV4.out hb)
    have HU5 := hid (own_below HU4.out hb)
    have HP5 := hid (own_below HP4.out hb)
    have HQ5 := hid hov
    have HR5 := hid (HR4.out.below hb)
    have HB5 := hid (bthen HB4.out hb)
    have HB15 := hid (bthen HB14.out hb)
    have HA5 := hid (HA4.out.below hb)
    obtain ⟨av5, cv5, rfl, _⟩ := own_rgs hov
    have hpl := proL_len l f t q
    clear hb hov z0 z1 z2 hlz
    generalize proL l f t q = pl at *
    generalize proE l f t q = pe at *
    obtain ⟨_, _, ea, ha1, _⟩ := own_rgs HV5.out
    cases ea
    obtain ⟨_, _, eb, ha2, _⟩ := own_rgs HU5.out
    cases eb
    have HX1 := hid ha1
    have HX2 := hid ha2
    clear ha1 ha2
    go_wp2_with fail
    refine (eqRegs_any _ _ _ _ _ cl _ HX1.out HX2.out (by omega)).mono ?_
    rintro e' w6 ⟨rfl, n6, rfl⟩
    have hd := bdN (Below.refl w5.heap.size w5) n6
    have HV6 := hid (own_below HV5.out hd)
    have HP6 := hid (own_below HP5.out hd)
    have HQ6 := hid (own_below HQ5.out hd)
    have HR6 := hid (HR5.out.below hd)
    have HB6 := hid (bthen HB5.out hd)
    have HA6 := hid (HA5.out.below hd)
    have HB16 := hid (bthen HB15.out hd)
    clear hd
    generalize w5.drewN n6 = wd at *
    obtain ⟨_, _, ea, ha1, _⟩ := own_rgs HP6.out
    cases ea
    obtain ⟨_, _, eb, ha2, _⟩ := own_rgs HQ6.out
    cases eb
    have HX3 := hid ha1
    have HX4 := hid ha2
    clear ha1 ha2
    go_wp2_with fail
    refine (eqRegs_any _ _ _ _ _ pl _ HX3.out HX4.out (by omega)).mono ?_
    rintro e' w7 ⟨rfl, n7, rfl⟩
    have hd := bdN (Below.refl wd.heap.size wd) n7
    have HV7 := hid (own_below HV6.out hd)
    have HP7 := hid (own_below HP6.out hd)
    have HR7 := hid (HR6.out.below hd)
    have HB7 := hid (bthen HB6.out hd)
    have HA7 := hid (HA6.out.below hd)
    have HB17 := hid (bthen HB16.out hd)
    clear hd
    have hne : (Value.slice av4 pl.length cv4).ownBlock = none ∨ (Value.slice av4 pl.length cv4).ownBlock ≠ (Value.slice av cl.length cv).ownBlock := by
      cases h1 : (Value.slice av4 pl.length cv4).ownBlock with
      | none => exact .inl rfl
      | some k1 =>
        right
        intro h2
        have h3 := (HP4.out.lt k1 h1).1
        have h4 := (HV3.out.lt k1 h2.symm).2
        omega
    have HNE := hid hne
    clear hne
    have HAlow : Hid (0 < l.length → ∀ b, a = some b → b.block < w1.heap.size) := hid (fun h0 b hb' => Nat.lt_of_lt_of_le (HAl.out h0 b hb') HB.out.size)
    go_wp2_with fail
    refine (own2_any _ cl _ _ _ _ _ l w1.heap.size _ HV7.out (by omega) HB17.out.size HR7.out hc1 hc2 HA7.out hl hG1 HAlow.out).mono ?_
    rintro e' w8 ⟨rfl, hb, hg⟩
    have HB8 := hid (HB7.out.trans (hb.mono HB.out.size))
    have HP8 := hid (HP7.out.kept hg HNE.out)
    have HR8 := hid (HR7.out.low hb (fun _ b hb' => by cases hb'; exact hG1))
    have HA8 := hid (HA7.out.low hb HAlow.out)
    have HB18 := hid (HB17.out.trans hb)
    clear hb hg
    go_wp2_with fail
    refine (own2_any _ pl _ _ _ _ _ l w1.heap.size _ (own_from HP8.out hs13) (by omega) HB18.out.size HR8.out hc1 hc2 HA8.out hl hG1 HAlow.out).mono ?_
    rintro e' w9 ⟨rfl, hb, hg⟩
    have HB9 := hid (HB8.out.trans (hb.mono HB.out.size))
    clear hb hg
    go_wp2_with (go_at_call 10; refine (works_any _).mono ?_; rintro e' w' ⟨rfl, hw⟩)
    go_ret
    exact ⟨rfl, HB9.out.trans (hw.mono HB9.out.size)⟩
end Go.Proofs.Ytcafmhhfnleanaa
