/- RegionsPuts: the walk. -/
import Derived.Test.YtcafmhhfnleanaaIl
namespace Go.Proofs.Ytcafmhhfnleanaa
open Go.RowKit Go.Sort

theorem fewL_len (l : List RG) : (fewL l).length ≤ 64 := by
  unfold fewL
  split
  · simp
  · omega
theorem putL_len (l : List RG) (r : RG) : (putL l r).length ≤ 64 := by
  unfold putL
  split
  · exact fewL_len _
  · simp
theorem rgs_low {w : World} {a : Option Addr} {len cap : Nat} {l : List RG} (h : Rgs w a len l) (hl : 0 < len) : ∀ b, a = some b → b.block < w.heap.size := by
  intro b hb
  have h0 := h.hlen
  obtain ⟨b', off, e, hc⟩ := h.cell 0 (by omega)
  rw [hb] at e
  cases e
  exact hc.lt

set_option maxHeartbeats 4000000 in
theorem regionsPuts_walk (a : Option Addr) (len cap : Nat) (l : List RG) (r : RG) (w : World) (hA : Rgs w a len l) (hcap : a = none → cap = 0) (hok : ∀ x ∈ l, RGok x) (hr : RGok r) :
    Calls Try.prog 4 #[.slice a len cap, rgV r] w fun e w' => e = .returned (.bool true) ∧ Below w.heap.size w w' := by
  obtain rfl := hA.hlen
  have HA := hid hA
  have HO := hid hok
  have HC := hid hcap
  have HRo := hid hr
  have HAl := hid (fun (h : 0 < l.length) => rgs_low (cap := cap) hA h)
  have HZ := hid (Row.new w 25 (rgc r))
  have HW := hid (@bal w)
  clear hA hok hcap hr
  by_cases h3 : 300 < l.length
  · have d0 : decide ((300 : Int) < (l.length : Int)) = true := by simp; omega
    go_enter Try.func4, Try.ntmps4
    go_wp2_with (first | (go_at_call 9; refine (large_any _ _ _ _).mono ?_; rintro e' w' ⟨rfl, rfl⟩) | (go_at_call 10; refine (works_any _).mono ?_; rintro e' w' ⟨rfl, hw⟩))
    go_ret
    exact ⟨rfl, bthen (HW.out _) hw⟩
  · have d0 : decide ((300 : Int) < (l.length : Int)) = false := by simp; omega
    have hl : l.length ≤ 300 := by omega
    have HA0 := hid (fun o => HA.out.below (bal o))
    go_enter Try.func4, Try.ntmps4
    go_wp2_with (go_at_call 9; refine (large_any _ _ _ _).mono ?_; rintro e' w' ⟨rfl, rfl⟩)
    refine (roomy_any _ _ _ l _ (HA0.out _) HC.out hl).mono ?_
    rintro e' w1 ⟨G, c, rfl, ho, hb⟩
    have hr := roomy_rgs ho
    have HR := hid hr.1
    have HB := hid (bthen (HW.out _) hb)
    have HA1 := hid ((HA0.out _).below hb)
    have HZ1 := hid (HZ.out.bel hb)
    have hG1 : G < w1.heap.size := (ho.lt G rfl).2
    have hc1 := hr.2.1
    have hc2 := hr.2.2
    clear ho hb hr
    obtain ⟨z0, z1, z2, z3, z4⟩ := HZ1.out.c5
    have hlz := HZ1.out.lt
    go_wp2_with fail
    refine (put_any _ _ _ l r _ HR.out.front hl HO.out HRo.out).mono ?_
    rintro e' w2 ⟨v, rfl, hov, hb⟩
    have HV2 := hid hov
    have HR2 := hid (HR.out.below hb)
    have HB2 := hid (bthen HB.out hb)
    have HB12 := hid hb
    have HA2 := hid (HA1.out.below hb)
    have HZ2 := hid (HZ1.out.bel hb)
    obtain ⟨av, cv, rfl, _⟩ := own_rgs hov
    clear hb hov z0 z1 z2 z3 z4 hlz
    obtain ⟨z0, z1, z2, z3, z4⟩ := HZ2.out.c5
    have hlz := HZ2.out.lt
    go_wp2_with fail
    refine (rput_any _ _ _ l r _ HA2.out hl HO.out HRo.out).mono ?_
    rintro e' w3 ⟨v3, rfl, hov, hb⟩
    have HV3 := hid (own_below HV2.out hb)
    have HR3 := hid (HR2.out.below hb)
    have HB3 := hid (bthen HB2.out hb)
    have HB13 := hid (bthen HB12.out hb)
    have HA3 := hid (HA2.out.below hb)
    obtain ⟨av3, cv3, rfl, hq3, _⟩ := own_rgs hov
    obtain ⟨av2, cv2, e2, hq2, _⟩ := own_rgs HV3.out
    cases e2
    have HQ3 := hid hq3
    have HQ2 := hid hq2
    have hpl := putL_len l r
    clear hb hov z0 z1 z2 z3 z4 hlz hq2 hq3
    generalize putL l r = pl at *
    generalize putE l r = pe at *
    go_wp2_with fail
    refine (eqRegs_any _ _ _ _ _ pl _ HQ2.out HQ3.out (by omega)).mono ?_
    rintro e' w4 ⟨rfl, n4, rfl⟩
    have hd := bdN (Below.refl w3.heap.size w3) n4
    have HV4 := hid (own_below HV3.out hd)
    have HR4 := hid (HR3.out.below hd)
    have HB4 := hid (bthen HB3.out hd)
    have HA4 := hid (HA3.out.below hd)
    have HB14 := hid (bthen HB13.out hd)
    clear hd
    go_wp2_with fail
    refine (own_any _ pl _ _ _ _ _ l w1.heap.size _ HV4.out (by omega) HB14.out.size HR4.out hc1 hc2 HA4.out hl hG1 (fun h0 b hb' => Nat.lt_of_lt_of_le (HAl.out h0 b hb') HB.out.size)).mono ?_
    rintro e' w5 ⟨rfl, hb⟩
    have HB5 := hid (HB4.out.trans (hb.mono HB.out.size))
    clear hb
    go_wp2_with (go_at_call 10; refine (works_any _).mono ?_; rintro e' w' ⟨rfl, hw⟩)
    go_ret
    exact ⟨rfl, HB5.out.trans (hw.mono HB5.out.size)⟩
end Go.Proofs.Ytcafmhhfnleanaa
