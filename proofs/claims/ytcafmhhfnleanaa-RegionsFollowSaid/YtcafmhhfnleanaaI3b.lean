/- The reference's Right. -/
import Derived.Test.YtcafmhhfnleanaaI3
namespace Go.Proofs.Ytcafmhhfnleanaa
open Go.RowKit Go.Sort

set_option maxHeartbeats 4000000 in
theorem rright_any (a : Option Addr) (len cap : Nat) (l : List RG) (w : World) (hA : Rgs w a len l) (hl : len ≤ 9223372036854775807) (hok : ∀ x ∈ l, RGok x) :
    Calls Try.prog 15 #[.slice a len cap] w fun e w' => e = .returned (.bool (rightB l)) ∧ Below w.heap.size w w' := by
  obtain rfl := hA.hlen
  have HA := hid hA
  clear hA
  by_cases h64 : 64 < l.length
  · have d0 : decide ((64 : Int) < (l.length : Int)) = true := by simp; omega
    have d0n : decide (64 < l.length) = true := by simp; omega
    have hr := hid (show rightB l = false by unfold rightB; simp; omega)
    go_enter Try.func15, Try.ntmps15
    go_wp2_with fail
    go_ret
    exact ⟨ret_bool hr.out.symm, Below.refl _ _⟩
  have d0 : decide ((64 : Int) < (l.length : Int)) = false := by simp; omega
  have d0n : decide (64 < l.length) = false := by simp; omega
  go_enter Try.func15, Try.ntmps15
  go_wp2_with fail
  go_loopw [3] (fun i wr => ∃ k : Nat, k ≤ l.length ∧ i = .int .i64 k ∧ (∀ j, j < k → okAt l j = true) ∧ Below w.heap.size w wr) (fun i _ => l.length - (intOf i).toNat)
  case atStart => exact ⟨0, Nat.zero_le _, rfl, fun j hj => by omega, Below.refl _ _⟩
  case round =>
    obtain ⟨k, hk, rfl, hg, hb⟩ := hrel
    have HG := hid hg
    have HB := hid hb
    clear hg
    by_cases hlt : k < l.length
    · have d1 : decide ((k : Int) < (l.length : Int)) = true := by simp; omega
      have d1n : decide (k < l.length) = true := by simp; omega
      obtain ⟨b, off, rfl, hcell⟩ := HA.out.some_of (by omega)
      have Y5 := hid ((hcell k hlt).below hb)
      have hoky := hid (hok _ (List.getElem_mem hlt))
      have HC := hid hcell
      cases k with
      | zero =>
        have hz := hid (okAt_zero l hlt)
        clear hb hcell hok
        generalize l[0] = y at *
        obtain ⟨n0, n1, n2, n3, n4⟩ := rg_cells Y5.out
        simp only [Nat.zero_mul, Nat.add_zero] at n0 n1 n2 n3 n4
        have hlb1 : ∀ d os, b < (rg wr d os).heap.size := fun d os => World.block_lt_of_cell? _ _ (n0 d os)
        cases hm : mayB y
        · have hn := hid (right_no l 0 hlt (by rw [hz.out]; exact hm))
          have cc1 := hid (fun (d : Nat) (os : Array Obj) => by
            have h := one_any y (rg wr d os) hoky.out
            rw [hm] at h
            exact rg_call h)
          clear hm
          go_wp2_with fail
          refine region_rg (by kernel_rfl) (by kernel_rfl) ?_
          repeat (first | go_big_quiet_skip | quiet_step (with_reducible exact cc1.out _ _))
          refine wpQuiet_nil ?_
          intro _ hw'
          obtain ⟨⟨dq, osq⟩, hw''⟩ := hw'
          subst hw''
          go_wp2_with fail
          go_ret
          exact ⟨ret_bool hn.out.symm, bthen HB.out (rg_below _ _ _)⟩
        · have hn := hid (hz.out.trans hm)
          have cc1 := hid (fun (d : Nat) (os : Array Obj) => by
            have h := one_any y (rg wr d os) hoky.out
            rw [hm] at h
            exact rg_call h)
          clear hm
          go_wp2_with fail
          refine region_rg (by kernel_rfl) (by kernel_rfl) ?_
          repeat (first | go_big_quiet_skip | quiet_step (with_reducible exact cc1.out _ _))
          refine wpQuiet_nil ?_
          intro _ hw'
          obtain ⟨⟨dq, osq⟩, hw''⟩ := hw'
          subst hw''
          go_wp2_with fail
          go_roundw
          case rel => exact ⟨1, by omega, by go_num, upto_succ (k := 0) (fun j hj => absurd hj (Nat.not_lt_zero j)) hn.out, bthen HB.out (rg_below _ _ _)⟩
          case measure => simp [intOf]; omega
      | succ m =>
        have Z5 := hid ((hcell m (by omega)).below hb)
        have hz := hid (okAt_succ l m hlt)
        clear hb hcell hok
        have em : ((m + 1 : Nat) : Int) - 1 = (m : Int) := by omega
        have e0 : decide ((0 : Int) < (m : Int) + 1) = true := decide_eq_true (by omega)
        have e0n : decide (0 < m + 1) = true := by simp
        have ew : IntKind.i64.wrap (m : Int) = (m : Int) := IntWalk.i64_in _ (by omega)
        have ew2 : wrap64 (m : Int) = (m : Int) := IntWalk.wrap64_in _ (by omega)
        have ez : (0 : Int) ≤ (m : Int) := by omega
        have eb : (m : Int) < (l.length : Int) := by omega
        have ez1 : (0 : Int) ≤ (m : Int) + 1 := by omega
        have eb1 : (m : Int) + 1 < (l.length : Int) := by omega
        generalize l[m + 1] = y at *
        generalize l[m] = z at *
        obtain ⟨n0, n1, n2, n3, n4⟩ := rg_cells Y5.out
        obtain ⟨z0, z1, z2, z3, z4⟩ := rg_cells Z5.out
        have hlb1 : ∀ d os, b < (rg wr d os).heap.size := fun d os => World.block_lt_of_cell? _ _ (n0 d os)
        cases hm : mayB y
        · have hn := hid (right_no l (m + 1) hlt (by rw [hz.out, hm]; rfl))
          have cc1 := hid (fun (d : Nat) (os : Array Obj) => by
            have h := one_any y (rg wr d os) hoky.out
            rw [hm] at h
            exact rg_call h)
          clear hm
          go_wp2_with fail
          refine region_rg (by kernel_rfl) (by kernel_rfl) ?_
          repeat (first | go_big_quiet_skip | quiet_step (with_reducible exact cc1.out _ _))
          refine wpQuiet_nil ?_
          intro _ hw'
          obtain ⟨⟨dq, osq⟩, hw''⟩ := hw'
          subst hw''
          go_wp2_with fail
          go_ret
          exact ⟨ret_bool hn.out.symm, bthen HB.out (rg_below _ _ _)⟩
        · have cc1 := hid (fun (d : Nat) (os : Array Obj) => by
            have h := one_any y (rg wr d os) hoky.out
            rw [hm] at h
            exact rg_call h)
          have hm' := hid hm
          clear hm
          by_cases hs : y.fr < z.to
          · have hn := hid (right_no l (m + 1) hlt (by rw [hz.out, hm'.out]; simp [hs]))
            have hs' : decide (y.fr < z.to) = true := by simpa using hs
            go_wp2_with fail
            refine region_rg (by kernel_rfl) (by kernel_rfl) ?_
            repeat (first | go_big_quiet_skip | quiet_step (with_reducible exact cc1.out _ _))
            refine wpQuiet_nil ?_
            intro _ hw'
            obtain ⟨⟨dq, osq⟩, hw''⟩ := hw'
            subst hw''
            go_wp2_with fail
            go_ret
            exact ⟨ret_bool hn.out.symm, bthen HB.out (rg_below _ _ _)⟩
          · have hs' : decide (y.fr < z.to) = false := by simpa using hs
            cases hj : joinB z y
            · have cc2 := hid (fun (d : Nat) (os : Array Obj) => by
                have h := rjoins_any z y (rg wr d os)
                rw [hj] at h
                exact rg_call h)
              have hn := hid (show okAt l (m + 1) = true by rw [hz.out, hm'.out, hj, hs']; rfl)
              clear hj
              go_wp2_with fail
              refine region_rg (by kernel_rfl) (by kernel_rfl) ?_
              repeat (first | go_big_quiet_skip | quiet_step (first | with_reducible exact cc1.out _ _ | with_reducible exact cc2.out _ _))
              refine wpQuiet_nil ?_
              intro _ hw'
              obtain ⟨⟨dq, osq⟩, hw''⟩ := hw'
              subst hw''
              go_wp2_with fail
              go_roundw
              case rel => exact ⟨m + 1 + 1, by omega, by go_num, upto_succ HG.out hn.out, bthen HB.out (rg_below _ _ _)⟩
              case measure => simp [intOf]; omega
            · have cc2 := hid (fun (d : Nat) (os : Array Obj) => by
                have h := rjoins_any z y (rg wr d os)
                rw [hj] at h
                exact rg_call h)
              have hn := hid (right_no l (m + 1) hlt (by rw [hz.out, hm'.out, hj]; simp))
              clear hj
              go_wp2_with fail
              refine region_rg (by kernel_rfl) (by kernel_rfl) ?_
              repeat (first | go_big_quiet_skip | quiet_step (first | with_reducible exact cc1.out _ _ | with_reducible exact cc2.out _ _))
              refine wpQuiet_nil ?_
              intro _ hw'
              obtain ⟨⟨dq, osq⟩, hw''⟩ := hw'
              subst hw''
              go_wp2_with fail
              go_ret
              exact ⟨ret_bool hn.out.symm, bthen HB.out (rg_below _ _ _)⟩
    · have d1 : decide ((k : Int) < (l.length : Int)) = false := by simp; omega
      have d1n : decide (k < l.length) = false := by simp; omega
      have hn := hid (right_yes l (by omega) (fun j hj => HG.out j (by omega)))
      clear hb hok
      go_wp2_with fail
      go_ret
      exact ⟨ret_bool hn.out.symm, HB.out⟩
end Go.Proofs.Ytcafmhhfnleanaa
