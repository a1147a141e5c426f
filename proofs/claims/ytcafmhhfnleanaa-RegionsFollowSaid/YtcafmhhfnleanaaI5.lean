/- The reference's Gap. -/
import Derived.Test.YtcafmhhfnleanaaI3b
import Derived.Test.YtcafmhhfnleanaaI4
namespace Go.Proofs.Ytcafmhhfnleanaa
open Go.RowKit Go.Sort

theorem right_at {l : List RG} (h : rightB l = true) (k : Nat) (hk : k < l.length) : okAt l k = true := by
  unfold rightB at h
  simp only [Bool.and_eq_true, List.all_eq_true, List.mem_range] at h
  exact h.2 k hk
theorem right_len {l : List RG} (h : rightB l = true) : l.length ≤ 64 := by
  unfold rightB at h
  simp only [Bool.and_eq_true, decide_eq_true_eq] at h
  exact h.1
theorem right_may {l : List RG} (h : rightB l = true) (k : Nat) (hk : k < l.length) : mayB l[k] = true := by
  have := right_at h k hk
  unfold okAt at this
  rw [getD_at l _ k hk, Bool.and_eq_true] at this
  exact this.1
theorem may_parts {x : RG} (h : mayB x = true) : x.fr < x.to ∧ x.to ≤ 140737488355328 ∧ x.pr ≤ 7 ∧ x.fr % 4096 = 0 ∧ x.to % 4096 = 0 := by
  unfold mayB pg at h
  simp only [Bool.and_eq_true, decide_eq_true_eq, beq_iff_eq] at h
  obtain ⟨⟨⟨⟨⟨h1, h2⟩, h3⟩, h4⟩, h5⟩, h6⟩ := h
  exact ⟨h3, h4, h5, h1, h2⟩
theorem right_next {l : List RG} (h : rightB l = true) (k : Nat) (hk : k + 1 < l.length) : l[k].to ≤ l[k + 1].fr ∧ joinB l[k] l[k + 1] = false := by
  have := right_at h (k + 1) hk
  rw [okAt_succ l k hk] at this
  simp only [Bool.and_eq_true, Bool.not_eq_true', Bool.or_eq_false_iff, decide_eq_false_iff_not] at this
  exact ⟨by omega, this.2.2⟩
theorem right_sorted {l : List RG} (h : rightB l = true) (i j : Nat) (hij : i < j) (hj : j < l.length) : l[i].to ≤ l[j].fr := by
  induction j with
  | zero => omega
  | succ j ih =>
    have h1 := right_next h j hj
    by_cases e : i = j
    · subst e; exact h1.1
    · have h2 := ih (by omega) (by omega)
      have h3 := may_parts (right_may h j (by omega))
      omega
theorem gap_stay (l : List RG) (size a : Int) (h : ∀ x ∈ l, a ≤ x.fr ∧ size ≤ x.fr - a) : l.foldl (gapStep size) a = a := by
  induction l with
  | nil => rfl
  | cons x l ih =>
    have hx := h x (List.mem_cons_self ..)
    rw [List.foldl_cons, show gapStep size a x = a by unfold gapStep; rw [if_neg (by omega)]]
    exact ih (fun y hy => h y (List.mem_cons_of_mem _ hy))
theorem gap_early {l : List RG} {size low : Int} (h : rightB l = true) (k : Nat) (hk : k < l.length) (h1 : gapAt (l.take k) size low < l[k].fr) (h2 : size ≤ l[k].fr - gapAt (l.take k) size low) :
    gapAt (l.take k) size low = gapAt l size low ∧ gapFull (gapAt (l.take k) size low) size = false := by
  have hm := may_parts (right_may h k hk)
  refine ⟨?_, by unfold gapFull; simp; omega⟩
  generalize ha : gapAt (l.take k) size low = a at *
  have e : gapAt l size low = (l.drop k).foldl (gapStep size) a := by
    rw [← ha]
    unfold gapAt
    rw [← List.foldl_append, List.take_append_drop]
  rw [e, gap_stay]
  intro x hx
  obtain ⟨j, hj, rfl⟩ := List.getElem_of_mem hx
  rw [List.getElem_drop]
  simp only [List.length_drop] at hj
  by_cases e0 : j = 0
  · subst e0; simp only [Nat.add_zero]; omega
  · have := right_sorted h k (k + j) (by omega) (by omega)
    omega

def GapRel (l : List RG) (size low : Int) (w : World) (v i : Value) (wr : World) : Prop := ∃ (k : Nat) (at' : Int), k ≤ l.length ∧ i = .int .i64 k ∧ v = .int .u64 at' ∧ at' = gapAt (l.take k) size low ∧ 0 ≤ at' ∧ at' ≤ 18446744073709551615 ∧ Below w.heap.size w wr
theorem gapRel_step {l : List RG} {size low : Int} {w wr : World} {k : Nat} {at' : Int} {y : RG} (hk : k < l.length) (h1 : gapAt (l.take (k + 1)) size low = gapStep size at' y) (h2 : 0 ≤ gapStep size at' y ∧ gapStep size at' y ≤ 18446744073709551615) (hb : Below w.heap.size w wr) {x : Int} (hx : x = gapStep size at' y) :
    GapRel l size low w (.int .u64 x) (.int .i64 ((k : Int) + 1)) wr := ⟨k + 1, gapStep size at' y, by omega, by go_num, by rw [hx], h1.symm, h2.1, h2.2, hb⟩

set_option maxHeartbeats 2000000 in
theorem rgap_any (a : Option Addr) (len cap : Nat) (l : List RG) (size low : Int) (w : World) (hA : Rgs w a len l) (hl : len ≤ 9223372036854775807) (hok : ∀ x ∈ l, RGok x) (s0 : 0 ≤ size) (s1 : size ≤ 18446744073709551615) (l0 : 0 ≤ low) (l1 : low ≤ 18446744073709551615) :
    Calls Try.prog 28 #[.slice a len cap, .int .u64 size, .int .u64 low] w fun e w' => e = .returned (.tuple #[.int .u64 (gapV l size low), .int .i64 (gapE l size low)]) ∧ Below w.heap.size w w' := by
  obtain rfl := hA.hlen
  have HA := hid hA
  have HO := hid hok
  clear hA hok
  go_enter Try.func28, Try.ntmps28
  go_wp2_with fail
  refine (rright_any _ _ _ l _ HA.out (by omega) HO.out).mono ?_
  rintro e' w1 ⟨rfl, hb1⟩
  have HB1 := hid hb1
  have HA1 := hid (HA.out.below hb1)
  clear hb1
  cases hb : gapBad l size low
  · have hb' := hb
    unfold gapBad pg at hb'
    simp only [Bool.or_eq_false_iff, Bool.not_eq_false'] at hb'
    obtain ⟨q1, q2, q3, q4⟩ := hb'
    have q2' : ¬ size = 0 := by simpa using q2
    have q3' : size % 4096 = 0 := by simpa using q3
    have q4' : low % 4096 = 0 := by simpa using q4
    have HBad := hid hb
    have HR := hid q1
    clear hb
    rw [q1]
    go_wp2_with fail
    clear q1 q2 q3 q4
    go_loopw [8, 9] (fun v i wr => GapRel l size low w v i wr) (fun _ i _ => l.length - (intOf i).toNat)
    case atStart => exact ⟨0, low, Nat.zero_le _, rfl, rfl, rfl, l0, l1, HB1.out⟩
    case round =>
      obtain ⟨k, at', hk, rfl, rfl, hat, a0, a1, hb⟩ := hrel
      have HAT := hid hat
      have HB := hid hb
      clear hat
      by_cases hlt : k < l.length
      · have d1 : decide ((k : Int) < (l.length : Int)) = true := by simp; omega
        have d1n : decide (k < l.length) = true := by simp; omega
        obtain ⟨b, off, rfl, hcell⟩ := HA.out.some_of (by omega)
        obtain ⟨y0, y1, y2, y3, y4⟩ := (hcell k hlt).below hb
        have hlb := World.block_lt_of_cell? _ _ y0
        have hoky := HO.out _ (List.getElem_mem hlt)
        have hst := hid (gap_take l size low k hlt)
        have hea := hid (fun h1 h2 => gap_early (size := size) (low := low) HR.out k hlt h1 h2)
        rw [← HAT.out] at hst hea
        clear hb hcell
        generalize l[k] = y at *
        have HBD := hid (gapStep_bd size at' y hoky a0 a1)
        have o1 := hoky.f0
        have o2 := hoky.f1
        have o3 := hoky.t0
        have o4 := hoky.t1
        go_wp2_with fail
        · go_roundw
          case rel => exact gapRel_step hlt hst.out HBD.out HB.out (by unfold gapStep; rw [if_neg (by omega)])
          case measure => simp [intOf]; omega
        · go_ret2
          exact ⟨ret_gap (gap_fine HBad.out (hea.out (by assumption) (by assumption)).1 (hea.out (by assumption) (by assumption)).2), HB.out⟩
        · go_roundw
          case rel => exact ⟨_, _, _, _, gapRel_step hlt hst.out HBD.out HB.out (by unfold gapStep; rw [if_pos (by omega)]), rfl, rfl, rfl, rfl⟩
          case measure => simp [intOf]; omega
        · go_roundw
          case rel => exact ⟨_, _, _, _, gapRel_step hlt hst.out HBD.out HB.out (by unfold gapStep; rw [if_pos (by omega)]), rfl, rfl, rfl, rfl⟩
          case measure => simp [intOf]; omega
      · have d1 : decide ((k : Int) < (l.length : Int)) = false := by simp; omega
        have d1n : decide (k < l.length) = false := by simp; omega
        obtain rfl : k = l.length := by omega
        have HE := hid (show at' = gapAt l size low by rw [HAT.out, List.take_length])
        clear hb
        go_wp2_with fail
        all_goals go_ret2
        · exact ⟨ret_gap (gap_full HBad.out HE.out (by unfold gapFull; simp; omega)), HB.out⟩
        · exact ⟨ret_gap (gap_fine HBad.out HE.out (by unfold gapFull; simp; omega)), HB.out⟩
        · exact ⟨ret_gap (gap_full HBad.out HE.out (by unfold gapFull; simp; omega)), HB.out⟩
  · have HBad := hid (gap_bad hb)
    unfold gapBad pg at hb
    cases q1 : rightB l
    · clear hb q1
      go_wp2_with fail
      go_ret2
      exact ⟨ret_gap HBad.out, HB1.out⟩
    · rw [q1] at hb
      simp only [Bool.not_true, Bool.false_or, Bool.or_eq_true, beq_iff_eq, Bool.not_eq_true', beq_eq_false_iff_ne] at hb
      clear q1
      by_cases q2 : size = 0
      · have q2b : (size == 0) = true := by simpa using q2
        clear hb q2
        go_wp2_with fail
        go_ret2
        exact ⟨ret_gap HBad.out, HB1.out⟩
      · have q2b : (size == 0) = false := by simpa using q2
        by_cases q3 : size % 4096 = 0
        · have q4 : (low % 4096 != 0) = true := by simp; omega
          have q4' : ¬ low % 4096 = 0 := by omega
          clear hb
          go_wp2_with fail
          go_ret2
          exact ⟨ret_gap HBad.out, HB1.out⟩
        · clear hb
          go_wp2_with fail
          go_ret2
          exact ⟨ret_gap HBad.out, HB1.out⟩
end Go.Proofs.Ytcafmhhfnleanaa
