/- Package regions and its reference: Right. -/
import Derived.Test.YtcafmhhfnleanaaI2
import Derived.Test.YtcafmhhfnleanaaQ
import Derived.Deep.QuietTactic
import Derived.BigQuiet
namespace Go.Proofs.Ytcafmhhfnleanaa
open Go.RowKit Go.Sort

/-- May region k of a list stand where it stands? -/
def okAt (l : List RG) (k : Nat) : Bool := mayB (l.getD k rg0) && (k == 0 || !(decide ((l.getD k rg0).fr < (l.getD (k - 1) rg0).to) || joinB (l.getD (k - 1) rg0) (l.getD k rg0)))
def rightB (l : List RG) : Bool := decide (l.length ≤ 64) && (List.range l.length).all (okAt l)
theorem right_no (l : List RG) (k : Nat) (hk : k < l.length) (h : okAt l k = false) : rightB l = false := by
  unfold rightB
  rw [Bool.and_eq_false_iff]
  right
  rw [List.all_eq_false]
  exact ⟨k, List.mem_range.2 hk, by simpa using h⟩
theorem right_yes (l : List RG) (hl : l.length ≤ 64) (h : ∀ j, j < l.length → okAt l j = true) : rightB l = true := by
  unfold rightB
  simp only [Bool.and_eq_true, decide_eq_true_eq, List.all_eq_true, List.mem_range]
  exact ⟨hl, h⟩
theorem getD_at {α : Type} (l : List α) (d : α) (k : Nat) (h : k < l.length) : l.getD k d = l[k] := by simp [List.getD_eq_getElem?_getD, h]
theorem upto_succ {P : Nat → Prop} {k : Nat} (h : ∀ j, j < k → P j) (hk : P k) : ∀ j, j < k + 1 → P j := fun j hj => by
  by_cases e : j = k
  · subst e; exact hk
  · exact h j (by omega)
theorem okAt_zero (l : List RG) (h : 0 < l.length) : okAt l 0 = mayB l[0] := by unfold okAt; rw [getD_at l _ 0 h]; simp
theorem okAt_succ (l : List RG) (k : Nat) (h : k + 1 < l.length) : okAt l (k + 1) = (mayB l[k + 1] && !(decide (l[k + 1].fr < l[k].to) || joinB l[k] l[k + 1])) := by
  unfold okAt
  rw [getD_at l _ (k + 1) h, Nat.add_sub_cancel, getD_at l _ k (by omega)]
  simp
theorem rg_cells {w : World} {b o : Nat} {x : RG} (h : rgCells w b o x) : (∀ d os, (rg w d os).cell? ⟨b, o, none⟩ = some (.int .u64 x.fr)) ∧ (∀ d os, (rg w d os).cell? ⟨b, o + 1, none⟩ = some (.int .u64 x.to)) ∧ (∀ d os, (rg w d os).cell? ⟨b, o + 2, none⟩ = some (.int .u8 x.pr)) ∧ (∀ d os, (rg w d os).cell? ⟨b, o + 3, none⟩ = some (.int .i64 x.ino)) ∧ (∀ d os, (rg w d os).cell? ⟨b, o + 4, none⟩ = some (.int .u64 x.off)) :=
  ⟨rg_cell h.1, rg_cell h.2.1, rg_cell h.2.2.1, rg_cell h.2.2.2.1, rg_cell h.2.2.2.2⟩

set_option maxHeartbeats 2000000 in
theorem right_any (a : Option Addr) (len cap : Nat) (l : List RG) (w : World) (hA : Rgs w a len l) (hl : len ≤ 9223372036854775807) (hok : ∀ x ∈ l, RGok x) :
    Calls Try.prog 14 #[.slice a len cap] w fun e w' => e = .returned (.bool (rightB l)) ∧ Below w.heap.size w w' := by
  obtain rfl := hA.hlen
  have HA := hid hA
  clear hA
  by_cases h64 : 64 < l.length
  · have d0 : decide ((64 : Int) < (l.length : Int)) = true := by simp; omega
    have d0n : decide (64 < l.length) = true := by simp; omega
    have hr := hid (show rightB l = false by unfold rightB; simp; omega)
    go_enter Try.func14, Try.ntmps14
    go_wp2_with fail
    go_ret
    exact ⟨ret_bool hr.out.symm, Below.refl _ _⟩
  have d0 : decide ((64 : Int) < (l.length : Int)) = false := by simp; omega
  have d0n : decide (64 < l.length) = false := by simp; omega
  go_enter Try.func14, Try.ntmps14
  go_wp2_with fail
  go_loopw [10] (fun i wr => ∃ k : Nat, k ≤ l.length ∧ i = .int .i64 k ∧ (∀ j, j < k → okAt l j = true) ∧ Below w.heap.size w wr) (fun i _ => l.length - (intOf i).toNat)
  case atStart => exact ⟨0, Nat.zero_le _, rfl, fun j hj => by omega, Below.refl _ _⟩
  case round =>
    obtain ⟨k, hk, rfl, hg, hb⟩ := hrel
    have HG := hid hg
    have HB := hid hb
    clear hg
    by_cases hlt : k < l.length
    · have d1 : decide ((k : Int) < (l.length : Int)) = true := by simp; omega
      have d1n : decide (k < l.length) = true := by simp; omega
      obtain ⟨b, off, rfl, hcell⟩ := HA.out.some_of (by omega)
      have hc := (hcell k hlt).below hb
      obtain ⟨y0, y1, y2, y3, y4⟩ := hc
      have hlb := World.block_lt_of_cell? _ _ y0
      have hoky := hid (hok _ (List.getElem_mem hlt))
      have HC := hid hcell
      cases k with
      | zero =>
        have hz := hid (okAt_zero l hlt)
        clear hb hcell hok
        generalize l[0] = y at *
        simp only [Nat.zero_mul, Nat.add_zero] at y0 y1 y2 y3 y4
        go_wp2_with fail
        refine (mayBe_any y _ hoky.out).mono ?_
        rintro e' w1 ⟨rfl, hb1⟩
        have HB1 := hid (bthen HB.out (bthen (bal _) hb1))
        clear hb1
        cases hm : mayB y
        · have hn := hid (right_no l 0 hlt (by rw [hz.out]; exact hm))
          clear hm
          go_wp2_with fail
          go_ret
          exact ⟨ret_bool hn.out.symm, HB1.out⟩
        · have hn := hid (hz.out.trans hm)
          clear hm
          go_wp2_with fail
          go_quiet (fail)
          go_wp2_with fail
          go_roundw
          case rel => exact ⟨1, by omega, by go_num, upto_succ (k := 0) (fun j hj => absurd hj (Nat.not_lt_zero j)) hn.out, bdN HB1.out _⟩
          case measure => simp [intOf]; omega
      | succ m =>
        obtain ⟨u0, u1, u2, u3, u4⟩ := (hcell m (by omega)).below hb
        have hz := hid (okAt_succ l m hlt)
        clear hb hcell hok
        have em : ((m + 1 : Nat) : Int) - 1 = (m : Int) := by omega
        have e0 : decide ((0 : Int) < (m : Int) + 1) = true := decide_eq_true (by omega)
        have e0n : decide (0 < m + 1) = true := by simp
        generalize l[m + 1] = y at *
        generalize l[m] = z at *
        have Y5 := hid (show rgCells wr b (off + (m + 1) * 5) y from ⟨y0, y1, y2, y3, y4⟩)
        have Z5 := hid (show rgCells wr b (off + m * 5) z from ⟨u0, u1, u2, u3, u4⟩)
        clear u0 u1 u2 u3 u4
        go_wp2_with fail
        refine (mayBe_any y _ hoky.out).mono ?_
        rintro e' w1 ⟨rfl, hb1⟩
        have HB1 := hid (bthen HB.out (bthen (bal _) hb1))
        have N5 := hid ((new_rg wr 25 y).below hb1)
        have Z5 := hid ((Z5.out.below (bal _)).below hb1)
        clear hb1 y0 y1 y2 y3 y4
        cases hm : mayB y
        · have hn := hid (right_no l (m + 1) hlt (by rw [hz.out, hm]; rfl))
          clear hm
          go_wp2_with fail
          go_ret
          exact ⟨ret_bool hn.out.symm, HB1.out⟩
        · have hm' := hid hm
          clear hm
          go_wp2_with fail
          have ew : IntKind.i64.wrap (m : Int) = (m : Int) := IntWalk.i64_in _ (by omega)
          have ew2 : wrap64 (m : Int) = (m : Int) := IntWalk.wrap64_in _ (by omega)
          have ez : (0 : Int) ≤ (m : Int) := by omega
          have eb : (m : Int) < (l.length : Int) := by omega
          by_cases hs : y.fr < z.to
          · have hn := hid (right_no l (m + 1) hlt (by rw [hz.out, hm'.out]; simp [hs]))
            have hs' : decide (y.fr < z.to) = true := by simpa using hs
            obtain ⟨n0, n1, n2, n3, n4⟩ := N5.out
            obtain ⟨z0, z1, z2, z3, z4⟩ := Z5.out
            simp only [Nat.zero_add] at n1 n2 n3 n4
            have hlb1 := World.block_lt_of_cell? _ _ n0
            have hlb2 := World.block_lt_of_cell? _ _ z0
            go_quiet (fail)
            go_wp2_with fail
            go_ret
            exact ⟨ret_bool hn.out.symm, bdN HB1.out _⟩
          · have hs' : decide (y.fr < z.to) = false := by simpa using hs
            obtain ⟨n0, n1, n2, n3, n4⟩ := rg_cells N5.out
            obtain ⟨z0, z1, z2, z3, z4⟩ := rg_cells Z5.out
            simp only [Nat.zero_add] at n1 n2 n3 n4
            have hlb1 : ∀ d os, wr.heap.size < (rg w1 d os).heap.size := fun d os => World.block_lt_of_cell? _ _ (n0 d os)
            have hlb2 : ∀ d os, b < (rg w1 d os).heap.size := fun d os => World.block_lt_of_cell? _ _ (z0 d os)
            have cc1 := hid (fun (d : Nat) (os : Array Obj) => rg_call (joins_any z y (rg w1 d os)))
            refine region_rg (by kernel_rfl) (by kernel_rfl) ?_
            repeat (quiet_step (with_reducible exact cc1.out _ _))
            refine wpQuiet_nil ?_
            intro _ hw'
            obtain ⟨⟨dq, osq⟩, hw''⟩ := hw'
            subst hw''
            cases hj : joinB z y
            · have hn := hid (show okAt l (m + 1) = true by rw [hz.out, hm'.out, hj, hs']; rfl)
              go_wp2_with fail
              go_roundw
              case rel => exact ⟨m + 1 + 1, by omega, by go_num, upto_succ HG.out hn.out, bthen HB1.out (rg_below _ _ _)⟩
              case measure => simp [intOf]; omega
            · have hn := hid (right_no l (m + 1) hlt (by rw [hz.out, hm'.out, hj]; simp))
              go_wp2_with fail
              go_ret
              exact ⟨ret_bool hn.out.symm, bthen HB1.out (rg_below _ _ _)⟩
    · have d1 : decide ((k : Int) < (l.length : Int)) = false := by simp; omega
      have d1n : decide (k < l.length) = false := by simp; omega
      have hn := hid (right_yes l (by omega) (fun j hj => HG.out j (by omega)))
      clear hb hok
      go_wp2_with fail
      go_ret
      exact ⟨ret_bool hn.out.symm, HB.out⟩
end Go.Proofs.Ytcafmhhfnleanaa
