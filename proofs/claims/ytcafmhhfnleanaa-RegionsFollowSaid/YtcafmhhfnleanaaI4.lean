/- Package regions: Gap. -/
import Derived.Test.YtcafmhhfnleanaaI3
namespace Go.Proofs.Ytcafmhhfnleanaa
open Go.RowKit Go.Sort

/-- The lowest address with room, of regions in their order. -/
def gapStep (size at' : Int) (x : RG) : Int := if at' < x.to ∧ (x.fr < at' ∨ x.fr - at' < size) then x.to else at'
def gapAt (l : List RG) (size low : Int) : Int := l.foldl (gapStep size) low
def gapBad (l : List RG) (size low : Int) : Bool := !rightB l || (size == 0 || (!pg size || !pg low))
def gapFull (at' size : Int) : Bool := decide (140737488355328 < at') || decide (140737488355328 - at' < size)
def gapE (l : List RG) (size low : Int) : Int := if gapBad l size low then 1 else if gapFull (gapAt l size low) size then 4 else 0
def gapV (l : List RG) (size low : Int) : Int := if gapE l size low = 0 then gapAt l size low else 0
theorem gap_take (l : List RG) (size low : Int) (k : Nat) (h : k < l.length) : gapAt (l.take (k + 1)) size low = gapStep size (gapAt (l.take k) size low) l[k] := by
  unfold gapAt
  rw [List.take_succ_eq_append_getElem h, List.foldl_append]
  rfl
theorem gapStep_bd (size a : Int) (x : RG) (hx : RGok x) (h0 : 0 ≤ a) (h1 : a ≤ 18446744073709551615) : 0 ≤ gapStep size a x ∧ gapStep size a x ≤ 18446744073709551615 := by
  unfold gapStep
  split
  · exact ⟨hx.t0, hx.t1⟩
  · exact ⟨h0, h1⟩

theorem gap_bad {l : List RG} {size low : Int} (h : gapBad l size low = true) : 0 = gapV l size low ∧ 1 = gapE l size low := by
  have e : gapE l size low = 1 := by unfold gapE; rw [if_pos h]
  unfold gapV
  rw [e]
  exact ⟨rfl, rfl⟩
theorem gap_full {l : List RG} {size low at' : Int} (h : gapBad l size low = false) (ha : at' = gapAt l size low) (hf : gapFull at' size = true) : 0 = gapV l size low ∧ 4 = gapE l size low := by
  have e : gapE l size low = 4 := by unfold gapE; rw [h, ← ha, hf]; rfl
  unfold gapV
  rw [e]
  exact ⟨rfl, rfl⟩
theorem gap_fine {l : List RG} {size low at' : Int} (h : gapBad l size low = false) (ha : at' = gapAt l size low) (hf : gapFull at' size = false) : at' = gapV l size low ∧ 0 = gapE l size low := by
  have e : gapE l size low = 0 := by unfold gapE; rw [h, ← ha, hf]; rfl
  unfold gapV
  rw [e]
  exact ⟨ha, rfl⟩
theorem ret_gap {a b x y : Int} (h : x = a ∧ y = b) : Ending.returned (.tuple #[.int .u64 x, .int .i64 y]) = .returned (.tuple #[.int .u64 a, .int .i64 b]) := by rw [h.1, h.2]

set_option maxHeartbeats 2000000 in
theorem gap_any (a : Option Addr) (len cap : Nat) (l : List RG) (size low : Int) (w : World) (hA : Rgs w a len l) (hl : len ≤ 9223372036854775807) (hok : ∀ x ∈ l, RGok x) (s0 : 0 ≤ size) (s1 : size ≤ 18446744073709551615) (l0 : 0 ≤ low) (l1 : low ≤ 18446744073709551615) :
    Calls Try.prog 27 #[.slice a len cap, .int .u64 size, .int .u64 low] w fun e w' => e = .returned (.tuple #[.int .u64 (gapV l size low), .int .i64 (gapE l size low)]) ∧ Below w.heap.size w w' := by
  obtain rfl := hA.hlen
  have HA := hid hA
  have HO := hid hok
  clear hA hok
  go_enter Try.func27, Try.ntmps27
  go_wp2_with fail
  refine (right_any _ _ _ l _ HA.out (by omega) HO.out).mono ?_
  rintro e' w1 ⟨rfl, hb1⟩
  have HB1 := hid hb1
  have HA1 := hid (HA.out.below hb1)
  clear hb1
  cases hb : gapBad l size low
  · have hb' := hb
    unfold gapBad at hb'
    simp only [Bool.or_eq_false_iff, Bool.not_eq_false'] at hb'
    obtain ⟨q1, q2, q3, q4⟩ := hb'
    have HBad := hid hb
    clear hb
    rw [q1]
    go_wp2_with (go_at_call 49; refine (onPage_any _ _ (by assumption)).mono ?_; rintro e' w' ⟨rfl, rfl⟩)
    clear q1 q2 q3 q4
    go_loopw [8, 31] (fun v i wr => ∃ (k : Nat) (at' : Int), k ≤ l.length ∧ i = .int .i64 k ∧ v = .int .u64 at' ∧ at' = gapAt (l.take k) size low ∧ 0 ≤ at' ∧ at' ≤ 18446744073709551615 ∧ Below w.heap.size w wr) (fun _ i _ => l.length - (intOf i).toNat)
    case atStart => exact ⟨0, low, Nat.zero_le _, rfl, rfl, rfl, l0, l1, HB1.out⟩
    case round =>
      obtain ⟨k, at', hk, rfl, rfl, hat, a0, a1, hb⟩ := hrel
      have HAT := hid hat
      have HB := hid hb
      clear hat
      by_cases hlt : k < l.length
      · have d1 : decide ((k : Int) < (l.length : Int)) = true := by simp; omega
        have d1n : decide (k < l.length) = true := by simp; omega
        obtain ⟨b, off, rfl, hcell⟩ := HA.out.some_of (by omega)
        obtain ⟨y0, y1, y2, y3, y4⟩ := (hcell k hlt).below hb
        have hlb := World.block_lt_of_cell? _ _ y0
        have hoky := HO.out _ (List.getElem_mem hlt)
        have hst := hid (gap_take l size low k hlt)
        clear hb hcell
        generalize l[k] = y at *
        have HBD := hid (gapStep_bd size at' y hoky a0 a1)
        have o1 := hoky.f0
        have o2 := hoky.f1
        have o3 := hoky.t0
        have o4 := hoky.t1
        go_wp2_with fail
        all_goals
          go_roundw
          case rel =>
            refine ⟨k + 1, gapStep size at' y, by omega, by go_num, ?_, by rw [hst.out, ← HAT.out], HBD.out.1, HBD.out.2, bthen HB.out (bal _)⟩
            unfold gapStep
            first | rw [if_pos (by omega)] | rw [if_neg (by omega)]
          case measure => simp [intOf]; omega
      · have d1 : decide ((k : Int) < (l.length : Int)) = false := by simp; omega
        have d1n : decide (k < l.length) = false := by simp; omega
        obtain rfl : k = l.length := by omega
        have HE := hid (show at' = gapAt l size low by rw [HAT.out, List.take_length])
        clear hb
        go_wp2_with fail
        all_goals go_ret2
        · exact ⟨ret_gap (gap_full HBad.out HE.out (by unfold gapFull; simp; omega)), HB.out⟩
        · exact ⟨ret_gap (gap_fine HBad.out HE.out (by unfold gapFull; simp; omega)), HB.out⟩
        · exact ⟨ret_gap (gap_full HBad.out HE.out (by unfold gapFull; simp; omega)), HB.out⟩
  · have HBad := hid (gap_bad hb)
    unfold gapBad at hb
    cases q1 : rightB l
    · clear hb q1
      go_wp2_with fail
      go_ret2
      exact ⟨ret_gap HBad.out, HB1.out⟩
    · rw [q1] at hb
      by_cases q2 : size = 0
      · have q2b : (size == 0) = true := by simpa using q2
        clear hb q1 q2
        go_wp2_with fail
        go_ret2
        exact ⟨ret_gap HBad.out, HB1.out⟩
      · have q2b : (size == 0) = false := by simpa using q2
        rw [q2b] at hb
        cases q3 : pg size
        · have q3' := hid q3
          clear hb q1 q2 q3
          go_wp2_with (go_at_call 49; refine (onPage_any _ _ (by assumption)).mono ?_; rintro e' w' ⟨rfl, rfl⟩; rw [q3'.out])
          go_ret2
          exact ⟨ret_gap HBad.out, HB1.out⟩
        · cases q4 : pg low
          · have q3' := hid q3
            have q4' := hid q4
            clear hb q1 q2 q3 q4
            go_wp2_with (go_at_call 49; refine (onPage_any _ _ (by assumption)).mono ?_; rintro e' w' ⟨rfl, rfl⟩; first | rw [q3'.out] | rw [q4'.out])
            go_ret2
            exact ⟨ret_gap HBad.out, HB1.out⟩
          · rw [q3, q4] at hb
            cases hb
end Go.Proofs.Ytcafmhhfnleanaa
