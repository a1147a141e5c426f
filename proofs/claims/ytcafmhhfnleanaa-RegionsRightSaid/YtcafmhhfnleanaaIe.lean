/- RegionsRight: the walk. -/
import Derived.Test.YtcafmhhfnleanaaId
namespace Go.Proofs.Ytcafmhhfnleanaa
open Go.RowKit Go.Sort

set_option maxHeartbeats 4000000 in
theorem regionsRight_walk (a : Option Addr) (len cap : Nat) (l : List RG) (r : RG) (x : Int) (w : World) (hA : Rgs w a len l) (hcap : a = none → cap = 0) (hok : ∀ x ∈ l, RGok x) :
    Calls Try.prog 3 #[.slice a len cap, rgV r, .int .u64 x] w fun e w' => e = .returned (.bool true) ∧ Below w.heap.size w w' := by
  obtain rfl := hA.hlen
  have HA := hid hA
  have HO := hid hok
  have HC := hid hcap
  have HZ := hid (Row.new w 25 (rgc r))
  have HW := hid (@bal w)
  clear hA hok hcap
  by_cases h3 : 300 < l.length
  · have d0 : decide ((300 : Int) < (l.length : Int)) = true := by simp; omega
    go_enter Try.func3, Try.ntmps3
    go_wp2_with (first | (go_at_call 9; refine (large_any _ _ _ _).mono ?_; rintro e' w' ⟨rfl, rfl⟩) | (go_at_call 10; refine (works_any _).mono ?_; rintro e' w' ⟨rfl, hw⟩))
    go_ret
    exact ⟨rfl, bthen (HW.out _) hw⟩
  · have d0 : decide ((300 : Int) < (l.length : Int)) = false := by simp; omega
    have hl : l.length ≤ 300 := by omega
    have HA0 := hid (fun o => HA.out.below (bal o))
    go_enter Try.func3, Try.ntmps3
    go_wp2_with (go_at_call 9; refine (large_any _ _ _ _).mono ?_; rintro e' w' ⟨rfl, rfl⟩)
    refine (roomy_any _ _ _ l _ (HA0.out _) HC.out hl).mono ?_
    rintro e' w1 ⟨G, c, rfl, ho, hb⟩
    have hr := roomy_rgs ho
    have HR := hid hr.1
    have HB := hid (bthen (HW.out _) hb)
    have HA1 := hid ((HA0.out _).below hb)
    have HZ1 := hid (HZ.out.bel hb)
    have hc1 := hr.2.1
    have hc2 := hr.2.2
    clear ho hb hr
    go_wp2_with fail
    refine (find_any _ _ _ l x _ HR.out.front (by omega)).mono ?_
    rintro e' w2 ⟨rfl, hb⟩
    have HR2 := hid (fun o => (HR.out.below hb).below (bal o))
    have HB2 := hid (fun o => bal2 (bthen HB.out hb) o)
    have HA2 := hid (fun o => (HA1.out.below hb).below (bal o))
    have HZ2 := hid (fun o => (HZ1.out.bel hb).alloc o)
    have HX2 := hid (Row.new w2 25 (rgc ((findR l x).getD rg0)))
    clear hb
    go_wp2_with fail
    refine (rfind_any _ _ _ l x _ (HA2.out _) (by omega)).mono ?_
    rintro e' w3 ⟨rfl, hb⟩
    have HR3 := hid (fun o => ((HR2.out _).below hb).below (bal o))
    have HB3 := hid (fun o => bal2 (bthen (HB2.out _) hb) o)
    have HA3 := hid (fun o => ((HA2.out _).below hb).below (bal o))
    have HZ3 := hid (fun o => ((HZ2.out _).bel hb).alloc o)
    have HX3 := hid (fun o => (HX2.out.bel hb).alloc o)
    have HY3 := hid (Row.new w3 25 (rgc ((findR l x).getD rg0)))
    have hsz := hb.size
    simp only [World.size_alloc] at hsz
    clear hb
    generalize (findR l x).isSome = fs at *
    generalize (findR l x).getD rg0 = fx at *
    go_wp2_with fail
    refine (right_any _ _ _ l _ (HR3.out _).front (by omega) HO.out).mono ?_
    rintro e' w4 ⟨rfl, hb⟩
    have HR4 := hid ((HR3.out _).below hb)
    have HB4 := hid (bthen (HB3.out _) hb)
    have HA4 := hid ((HA3.out _).below hb)
    have HZ4 := hid ((HZ3.out _).bel hb)
    have HX4 := hid ((HX3.out _).bel hb)
    have HY4 := hid (HY3.out.bel hb)
    clear hb
    go_wp2_with fail
    refine (rright_any _ _ _ l _ HA4.out (by omega) HO.out).mono ?_
    rintro e' w5 ⟨rfl, hb⟩
    have HR5 := hid (HR4.out.below hb)
    have HB5 := hid (bthen HB4.out hb)
    have HA5 := hid (HA4.out.below hb)
    have HZ5 := hid (HZ4.out.bel hb)
    have HX5 := hid (HX4.out.bel hb)
    have HY5 := hid (HY4.out.bel hb)
    clear hb
    obtain ⟨x0, x1, x2, x3, x4⟩ := HX5.out.c5
    obtain ⟨y0, y1, y2, y3, y4⟩ := HY5.out.c5
    have hlx := HX5.out.lt
    have hly := HY5.out.lt
    have hneq : ∀ w', (binOp .neq 25 (rgV fx) (rgV fx)).run Try.prog w' = .ok (.bool false) w' := fun w' => by
      have h := rg_neq w' fx fx
      rw [eqR_self] at h
      exact h
    generalize rightB l = rb at *
    have hbb : (rb != rb) = false := by simp
    have hff : (fs != fs) = false := by simp
    go_wp2_with fail
    clear x0 x1 x2 x3 x4 y0 y1 y2 y3 y4 hneq hbb hff hlx hly
    go_loopw [12] (fun i wr => ∃ k : Nat, k ≤ l.length ∧ i = .int .i64 k ∧ Below w5.heap.size w5 wr) (fun i _ => l.length - (intOf i).toNat)
    case atStart => exact ⟨0, Nat.zero_le _, rfl, Below.refl _ _⟩
    case round =>
      obtain ⟨k, hk, rfl, hb⟩ := hrel
      have HBr := hid hb
      have HRr := hid (HR5.out.below hb)
      have HAr := hid (HA5.out.below hb)
      have HZr := hid (HZ5.out.bel hb)
      clear hb
      by_cases hlt : k < l.length
      · have d1 : decide ((k : Int) < (l.length : Int)) = true := by simp; omega
        have d1n : decide (k < l.length) = true := by simp; omega
        obtain ⟨ba, oa, rfl, hca⟩ := HAr.out.cell k hlt
        obtain ⟨bb, ob, e9, hcb⟩ := HRr.out.cell k (by simp; omega)
        cases e9
        rw [List.getElem_append_left hlt] at hcb
        have HCA := hid hca
        have HCB := hid hcb
        clear hca hcb
        generalize l[k] = y at *
        obtain ⟨n0, n1, n2, n3, n4⟩ := rg_cells HCA.out
        obtain ⟨m0, m1, m2, m3, m4⟩ := rg_cells HCB.out
        obtain ⟨z0, z1, z2, z3, z4⟩ := rg_cells HZr.out.rg
        simp only [Nat.zero_add] at m0 m1 m2 m3 m4 z1 z2 z3 z4
        have hl1 : ∀ d os, ba < (rg wr d os).heap.size := fun d os => World.block_lt_of_cell? _ _ (n0 d os)
        have hl2 : ∀ d os, G < (rg wr d os).heap.size := fun d os => World.block_lt_of_cell? _ _ (m0 d os)
        have hl3 : ∀ d os, w.heap.size < (rg wr d os).heap.size := fun d os => World.block_lt_of_cell? _ _ (z0 d os)
        have cc1 := hid (fun (d : Nat) (os : Array Obj) => rg_call (joins_any y r (rg wr d os)))
        have cc2 := hid (fun (d : Nat) (os : Array Obj) => rg_call (rjoins_any y r (rg wr d os)))
        have cc3 := hid (fun (d : Nat) (os : Array Obj) => rg_call (joins_any r y (rg wr d os)))
        have cc4 := hid (fun (d : Nat) (os : Array Obj) => rg_call (rjoins_any r y (rg wr d os)))
        generalize joinB y r = j1 at *
        generalize joinB r y = j2 at *
        have hj1 : (j1 != j1) = false := by simp
        have hj2 : (j2 != j2) = false := by simp
        have ez : (0 : Int) ≤ (k : Int) := by omega
        have eb : (k : Int) < (l.length : Int) := by omega
        go_wp2_with fail
        refine region_rg (by kernel_rfl) (by kernel_rfl) ?_
        repeat (first | go_big_quiet_skip | quiet_step (first | with_reducible exact cc1.out _ _ | with_reducible exact cc2.out _ _ | with_reducible exact cc3.out _ _ | with_reducible exact cc4.out _ _))
        refine wpQuiet_nil ?_
        intro _ hw'
        obtain ⟨⟨dq, osq⟩, hw''⟩ := hw'
        subst hw''
        go_wp2_with fail
        go_roundw
        case rel => exact ⟨k + 1, by omega, by go_num, bthen HBr.out (rg_below _ _ _)⟩
        case measure => simp [intOf]; omega
      · have d1 : decide ((k : Int) < (l.length : Int)) = false := by simp; omega
        have d1n : decide (k < l.length) = false := by simp; omega
        go_wp2_with fail
        refine (kept_any _ _ _ _ _ l _ HRr.out hc1 hc2 HAr.out (by omega)).mono ?_
        rintro e' w6 ⟨rfl, hb⟩
        have HB6 := hid (bthen (bthen HB5.out HBr.out) hb)
        clear hb
        go_wp2_with (go_at_call 10; refine (works_any _).mono ?_; rintro e' w' ⟨rfl, hw⟩)
        go_ret
        exact ⟨rfl, bthen HB6.out hw⟩
end Go.Proofs.Ytcafmhhfnleanaa
