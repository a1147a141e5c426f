/- RegionsGaps and RegionsRight: the walks. -/
import Derived.Test.YtcafmhhfnleanaaIc
namespace Go.Proofs.Ytcafmhhfnleanaa
open Go.RowKit Go.Sort

theorem Rgs.front {w : World} {a : Option Addr} {n : Nat} {l : List RG} {x : RG} (h : Rgs w a (n + 1) (l ++ [x])) : Rgs w a n l :=
  ⟨by have := h.hlen; simp at this; omega, fun i hi => by
    obtain ⟨b, off, e, hc⟩ := h.cell i (by simp; omega)
    rw [List.getElem_append_left hi] at hc
    exact ⟨b, off, e, hc⟩⟩
/-- What roomy answered: the same list, with one more behind. -/
theorem roomy_rgs {w : World} {base n G c : Nat} {E : TypeId} {l : List RG} (h : w.ownsRow base E 5 (.slice (some ⟨G, 0, none⟩) (n + 1) c) (n + 1) (flat5 (l ++ [rg77]))) : Rgs w (some ⟨G, 0, none⟩) (n + 1) (l ++ [rg77]) ∧ n + 1 ≤ c ∧ c ≤ maxLen := by
  obtain ⟨a, cap, e, h1, _, h2, h3, _⟩ := own_rgs h
  cases e
  exact ⟨h1, h2, h3⟩

set_option maxHeartbeats 4000000 in
theorem regionsGaps_walk (a : Option Addr) (len cap : Nat) (l : List RG) (size low : Int) (w : World) (hA : Rgs w a len l) (hcap : a = none → cap = 0) (hok : ∀ x ∈ l, RGok x) (s0 : 0 ≤ size) (s1 : size ≤ 18446744073709551615) (l0 : 0 ≤ low) (l1 : low ≤ 18446744073709551615) :
    Calls Try.prog 6 #[.slice a len cap, .int .u64 size, .int .u64 low] w fun e w' => e = .returned (.bool true) ∧ Below w.heap.size w w' := by
  have HA := hid hA
  have HO := hid hok
  have HC := hid hcap
  clear hA hok hcap
  by_cases h3 : 300 < len
  · have d0 : decide ((300 : Int) < (len : Int)) = true := by simp; omega
    go_enter Try.func6, Try.ntmps6
    go_wp2_with (first | (go_at_call 9; refine (large_any _ _ _ _).mono ?_; rintro e' w' ⟨rfl, rfl⟩) | (go_at_call 10; refine (works_any _).mono ?_; rintro e' w' ⟨rfl, hw⟩))
    go_ret
    exact ⟨rfl, hw⟩
  · have d0 : decide ((300 : Int) < (len : Int)) = false := by simp; omega
    go_enter Try.func6, Try.ntmps6
    go_wp2_with (go_at_call 9; refine (large_any _ _ _ _).mono ?_; rintro e' w' ⟨rfl, rfl⟩)
    refine (roomy_any _ _ _ l _ HA.out HC.out (by omega)).mono ?_
    rintro e' w1 ⟨G, c, rfl, ho, hb⟩
    have hr := roomy_rgs ho
    have HR := hid hr.1
    have HB := hid hb
    have HA1 := hid (HA.out.below hb)
    have hc1 := hr.2.1
    have hc2 := hr.2.2
    clear ho hb hr
    go_wp2_with fail
    refine (gap_any _ _ _ l size low _ HR.out.front (by omega) HO.out s0 s1 l0 l1).mono ?_
    rintro e' w2 ⟨rfl, hb⟩
    have HR2 := hid (HR.out.below hb)
    have HB2 := hid (bthen HB.out hb)
    have HA2 := hid (HA1.out.below hb)
    clear hb
    go_wp2_with fail
    refine (rgap_any _ _ _ l size low _ HA2.out (by omega) HO.out s0 s1 l0 l1).mono ?_
    rintro e' w3 ⟨rfl, hb⟩
    have HR3 := hid (HR2.out.below hb)
    have HB3 := hid (bthen HB2.out hb)
    have HA3 := hid (HA2.out.below hb)
    clear hb
    generalize gapV l size low = gv at *
    generalize gapE l size low = ge at *
    go_wp2_with fail
    refine (kept_any _ _ _ _ _ l _ HR3.out hc1 hc2 HA3.out (by omega)).mono ?_
    rintro e' w4 ⟨rfl, hb⟩
    have HB4 := hid (bthen HB3.out hb)
    clear hb
    go_wp2_with (go_at_call 10; refine (works_any _).mono ?_; rintro e' w' ⟨rfl, hw⟩)
    go_ret
    exact ⟨rfl, bthen HB4.out hw⟩
end Go.Proofs.Ytcafmhhfnleanaa
