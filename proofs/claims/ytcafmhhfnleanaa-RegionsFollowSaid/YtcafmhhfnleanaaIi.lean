/- The reference's sorted and few. -/
import Derived.Test.YtcafmhhfnleanaaIh
import Derived.Test.YtcafmhhfnleanaaI9
import Derived.Deep.QuietTactic
import Derived.BigQuiet
namespace Go.Proofs.Ytcafmhhfnleanaa
open Go.RowKit Go.Sort

/-- A list with r ahead of the first region that begins behind it. -/
def srtR (r : RG) : List RG → List RG
  | [] => [r]
  | x :: l => if r.fr < x.fr then r :: x :: l else x :: srtR r l
theorem srtR_len (r : RG) (l : List RG) : (srtR r l).length = l.length + 1 := by
  induction l with
  | nil => rfl
  | cons x l ih => unfold srtR; split <;> simp [ih]
def SrtI (r : RG) (l : List RG) (k : Nat) (d : Bool) (out : List RG) : Prop := (if d then out ++ l.drop k else out ++ srtR r (l.drop k)) = srtR r l ∧ out.length ≤ k + 1
theorem srt_step0 {r : RG} {l : List RG} {k : Nat} {out : List RG} (h : SrtI r l k false out) (hk : k < l.length) (hx : r.fr < l[k].fr) : SrtI r l (k + 1) true ((out ++ [r]) ++ [l[k]]) := by
  obtain ⟨h1, h2⟩ := h
  have hl : out.length ≤ k := by
    have := congrArg List.length h1
    simp [srtR_len] at this
    omega
  refine ⟨?_, by simp; omega⟩
  rw [← h1]
  simp only [Bool.false_eq_true, if_true, if_false]
  rw [List.drop_eq_getElem_cons hk, srtR, if_pos hx]
  simp
theorem srt_step1 {r : RG} {l : List RG} {k : Nat} {out : List RG} (h : SrtI r l k false out) (hk : k < l.length) (hx : ¬ r.fr < l[k].fr) : SrtI r l (k + 1) false (out ++ [l[k]]) := by
  obtain ⟨h1, h2⟩ := h
  refine ⟨?_, by simp; omega⟩
  rw [← h1]
  simp only [Bool.false_eq_true, if_false]
  rw [List.drop_eq_getElem_cons hk, srtR, if_neg hx]
  simp
theorem srt_step2 {r : RG} {l : List RG} {k : Nat} {out : List RG} (h : SrtI r l k true out) (hk : k < l.length) : SrtI r l (k + 1) true (out ++ [l[k]]) := by
  obtain ⟨h1, h2⟩ := h
  refine ⟨?_, by simp; omega⟩
  rw [← h1]
  simp only [if_true]
  rw [List.drop_eq_getElem_cons hk]
  simp
theorem srt_end0 {r : RG} {l : List RG} {out : List RG} (h : SrtI r l l.length false out) : out ++ [r] = srtR r l := by
  have := h.1
  simpa [srtR] using this
theorem srt_end1 {r : RG} {l : List RG} {out : List RG} (h : SrtI r l l.length true out) : out = srtR r l := by
  have := h.1
  simpa using this

set_option maxHeartbeats 4000000 in
theorem sorted_any (a : Option Addr) (len cap : Nat) (l : List RG) (r : RG) (w : World) (hA : Rgs w a len l) (hl : len ≤ 2000) :
    Calls Try.prog 41 #[.slice a len cap, rgV r] w fun e w' => ∃ v, e = .returned v ∧ w'.ownsRow w.heap.size 25 5 v (srtR r l).length (flat5 (srtR r l)) ∧ Below w.heap.size w w' := by
  obtain rfl := hA.hlen
  have HA := hid hA
  have HZ := hid (Row.new w 25 (rgc r))
  have HW := hid (@bal w)
  clear hA
  go_enter Try.func41, Try.ntmps41
  go_wp2_with fail
  go_loopw [5, 6, 7] (fun v dn i wr => ∃ (sv : Value) (k : Nat) (d : Bool) (out : List RG), sv = v ∧ dn = .bool d ∧ k ≤ l.length ∧ i = .int .i64 k ∧ wr.ownsRow (w.heap.size + 1) 25 5 sv out.length (flat5 out) ∧ SrtI r l k d out ∧ Row wr w.heap.size 25 (rgc r) ∧ Below w.heap.size w wr) (fun _ _ i _ => l.length - (intOf i).toNat)
  case atStart => exact ⟨_, 0, false, [], rfl, rfl, Nat.zero_le _, rfl, own_rgs_nil, ⟨rfl, by simp⟩, HZ.out, HW.out _⟩
  case round =>
    obtain ⟨sv, k, d, out, hsv, rfl, hk, rfl, ho, hi, hz, hb⟩ := hrel
    subst hsv
    obtain ⟨z0, z1, z2, z3, z4⟩ := hz.c5
    have hlz := hz.lt
    have HO := hid ho
    have HI := hid hi
    have HZR := hid hz
    have HB := hid hb
    have hol := hi.2
    have hne0 : sv.ownBlock ≠ some w.heap.size := fun h => by have := (ho.lt _ h).1; omega
    have HNE0 := hid hne0
    clear ho hz hi hne0
    by_cases hlt : k < l.length
    · have d1 : decide ((k : Int) < (l.length : Int)) = true := by simp; omega
      have d1n : decide (k < l.length) = true := by simp; omega
      obtain ⟨b, off, rfl, hcell⟩ := HA.out.some_of (by omega)
      have HY := hid ((hcell k hlt).below hb)
      obtain ⟨y0, y1, y2, y3, y4⟩ := HY.out
      have hlb := World.block_lt_of_cell? _ _ y0
      have hbw := hid (show b < w.heap.size from (hcell k hlt).lt)
      have HNEb : Hid (sv.ownBlock ≠ some b) := hid (fun h => by have h1 := (HO.out.lt _ h).1; have h2 := hbw.out; omega)
      have I0 := hid (fun (h : SrtI r l k false out) hx => srt_step0 h hlt hx)
      have I1 := hid (fun (h : SrtI r l k false out) hx => srt_step1 h hlt hx)
      have I2 := hid (fun (h : SrtI r l k true out) => srt_step2 h hlt)
      have hon : out.length ≤ 1000000 := by omega
      have HON2 := hid (show out.length + 1 ≤ 1000000 by omega)
      have ez : (0 : Int) ≤ (k : Int) := by omega
      have eb : (k : Int) < (l.length : Int) := by omega
      clear hb hcell
      generalize l[k] = x at *
      cases d with
      | false =>
        by_cases hx : r.fr < x.fr
        · have f1 : decide (r.fr < x.fr) = true := decide_eq_true hx
          go_wp2_with fail
          go_quiet (fail)
          have HOq := hid (own_below HO.out (bdN (Below.refl wr.heap.size wr) nq))
          have HBq := hid (bthen HB.out (bdN (Below.refl wr.heap.size wr) nq))
          have HYq := hid (HY.out.below (bdN (Below.refl wr.heap.size wr) nq))
          have HZq := hid (HZR.out.bel (bdN (Below.refl wr.heap.size wr) nq))
          clear y0 y1 y2 y3 y4 z0 z1 z2 z3 z4 hlz hlb
          generalize wr.drewN nq = wq at *
          obtain ⟨y0, y1, y2, y3, y4⟩ := HYq.out
          obtain ⟨z0, z1, z2, z3, z4⟩ := HZq.out.c5
          have hlz := HZq.out.lt
          have hlb := HYq.out.lt
          have HO1 := hid (fun o => HOq.out.alloc o)
          have HB1 := hid (fun o => bal2 HBq.out o)
          have HY1 := hid (fun o => HYq.out.below (bal o))
          have HZ1 := hid (fun o => HZq.out.alloc o)
          have HNr := hid (new_rg wq 25 r)
          have HNx := hid (new_rg wq 25 x)
          have hlB := hid (fun o => show w.heap.size + 1 ≤ (wq.alloc o).heap.size by simp only [World.size_alloc]; omega)
          go_wp2_with (first | (at_builtin; refine wpList_app5 _ rfl _ _ 22 rfl (w.heap.size + 1) 25 Try.underlying22 infoReg sv out.length out rfl (HO1.out _) wq.heap.size r rfl HNr.out hon (hlB.out _) ?_; intro v2 w2 hown' hgrow hat; have HO2 := hid hown'; have HG2 := hid hgrow; have HY2 := hid (rg_grown (HY1.out _) hgrow (fun h => HNEb.out h.symm)); obtain ⟨q0, q1, q2, q3, q4⟩ := HY2.out; have hlx2 := HY2.out.lt; have HZF := hid ((HZ1.out _).grown HG2.out (fun h => HNE0.out h.symm)); have HBF := hid (grown_low (HO1.out _) HG2.out (HB1.out _) (Nat.le_succ _) (Nat.le_of_succ_le (hlB.out _))); have HNE2 := hid (own_above HO2.out); have HO3 := hid (fun o => HO2.out.alloc o); have hlB3 := hid (fun o => above_alloc HBF.out o); have HNx2 := hid (new_rg w2 25 x); have hon2 : out.length + 1 ≤ 1000000 := HON2.out; clear hown' hgrow hat) | (at_builtin; refine wpList_app5 _ rfl _ _ 22 rfl (w.heap.size + 1) 25 Try.underlying22 infoReg v2 (out.length + 1) (out ++ [r]) rfl (HO3.out _) w2.heap.size x rfl HNx2.out hon2 (hlB3.out _) ?_; intro v3 w3 hown' hgrow hat; have HO4 := hid hown'; have HG4 := hid hgrow; clear hown' hgrow hat))
          have HZF2 := hid ((HZF.out.alloc _).grown HG4.out (fun h => HNE2.out h.symm))
          have HBF2 := hid (grown_low (HO3.out _) HG4.out (bal2 HBF.out _) (by omega) (Nat.le_of_succ_le (hlB3.out _)))
          go_wp2_with fail
          go_roundw
          case rel => exact ⟨_, k + 1, true, (out ++ [r]) ++ [x], rfl, rfl, by omega, by go_num, by simpa using HO4.out, I0.out HI.out hx, HZF2.out, HBF2.out⟩
          case measure => simp [intOf]; omega
        · have f1 : decide (r.fr < x.fr) = false := decide_eq_false hx
          go_wp2_with fail
          go_quiet (fail)
          have HOq := hid (own_below HO.out (bdN (Below.refl wr.heap.size wr) nq))
          have HBq := hid (bthen HB.out (bdN (Below.refl wr.heap.size wr) nq))
          have HYq := hid (HY.out.below (bdN (Below.refl wr.heap.size wr) nq))
          have HZq := hid (HZR.out.bel (bdN (Below.refl wr.heap.size wr) nq))
          clear y0 y1 y2 y3 y4 z0 z1 z2 z3 z4 hlz hlb
          generalize wr.drewN nq = wq at *
          obtain ⟨y0, y1, y2, y3, y4⟩ := HYq.out
          obtain ⟨z0, z1, z2, z3, z4⟩ := HZq.out.c5
          have hlz := HZq.out.lt
          have hlb := HYq.out.lt
          have HO1 := hid (fun o => HOq.out.alloc o)
          have HB1 := hid (fun o => bal2 HBq.out o)
          have HY1 := hid (fun o => HYq.out.below (bal o))
          have HZ1 := hid (fun o => HZq.out.alloc o)
          have HNr := hid (new_rg wq 25 r)
          have HNx := hid (new_rg wq 25 x)
          have hlB := hid (fun o => show w.heap.size + 1 ≤ (wq.alloc o).heap.size by simp only [World.size_alloc]; omega)
          go_wp2_with (at_builtin; refine wpList_app5 _ rfl _ _ 22 rfl (w.heap.size + 1) 25 Try.underlying22 infoReg sv out.length out rfl (HO1.out _) wq.heap.size x rfl HNx.out hon (hlB.out _) ?_; intro v2 w2 hown' hgrow hat; have HO2 := hid hown'; have HG2 := hid hgrow; clear hown' hgrow hat)
          have HZF := hid ((HZ1.out _).grown HG2.out (fun h => HNE0.out h.symm))
          have HBF := hid (grown_low (HO1.out _) HG2.out (HB1.out _) (by omega) (by simp only [World.size_alloc]; omega))
          go_wp2_with fail
          go_roundw
          case rel => exact ⟨_, k + 1, false, out ++ [x], rfl, rfl, by omega, by go_num, by simpa using HO2.out, I1.out HI.out hx, HZF.out, HBF.out⟩
          case measure => simp [intOf]; omega
      | true =>
        go_wp2_with fail
        go_quiet (fail)
        have HOq := hid (own_below HO.out (bdN (Below.refl wr.heap.size wr) nq))
        have HBq := hid (bthen HB.out (bdN (Below.refl wr.heap.size wr) nq))
        have HYq := hid (HY.out.below (bdN (Below.refl wr.heap.size wr) nq))
        have HZq := hid (HZR.out.bel (bdN (Below.refl wr.heap.size wr) nq))
        clear y0 y1 y2 y3 y4 z0 z1 z2 z3 z4 hlz hlb
        generalize wr.drewN nq = wq at *
        obtain ⟨y0, y1, y2, y3, y4⟩ := HYq.out
        obtain ⟨z0, z1, z2, z3, z4⟩ := HZq.out.c5
        have hlz := HZq.out.lt
        have hlb := HYq.out.lt
        have HO1 := hid (fun o => HOq.out.alloc o)
        have HB1 := hid (fun o => bal2 HBq.out o)
        have HY1 := hid (fun o => HYq.out.below (bal o))
        have HZ1 := hid (fun o => HZq.out.alloc o)
        have HNr := hid (new_rg wq 25 r)
        have HNx := hid (new_rg wq 25 x)
        have hlB := hid (fun o => show w.heap.size + 1 ≤ (wq.alloc o).heap.size by simp only [World.size_alloc]; omega)
        go_wp2_with (at_builtin; refine wpList_app5 _ rfl _ _ 22 rfl (w.heap.size + 1) 25 Try.underlying22 infoReg sv out.length out rfl (HO1.out _) wq.heap.size x rfl HNx.out hon (hlB.out _) ?_; intro v2 w2 hown' hgrow hat; have HO2 := hid hown'; have HG2 := hid hgrow; clear hown' hgrow hat)
        have HZF := hid ((HZ1.out _).grown HG2.out (fun h => HNE0.out h.symm))
        have HBF := hid (grown_low (HO1.out _) HG2.out (HB1.out _) (by omega) (by simp only [World.size_alloc]; omega))
        go_wp2_with fail
        go_roundw
        case rel => exact ⟨_, k + 1, true, out ++ [x], rfl, rfl, by omega, by go_num, by simpa using HO2.out, I2.out HI.out, HZF.out, HBF.out⟩
        case measure => simp [intOf]; omega
    · have d1 : decide ((k : Int) < (l.length : Int)) = false := by simp; omega
      have d1n : decide (k < l.length) = false := by simp; omega
      obtain rfl : k = l.length := by omega
      have hon : out.length ≤ 1000000 := by omega
      have HO1 := hid (fun o1 => HO.out.alloc o1)
      have HB1 := hid (fun o1 => bal2 HB.out o1)
      have HNr := hid (new_rg wr 25 r)
      have hlB := hid (fun o1 => show w.heap.size + 1 ≤ (wr.alloc o1).heap.size by simp only [World.size_alloc]; omega)
      clear hb
      cases d with
      | false =>
        go_wp2_with (at_builtin; refine wpList_app5 _ rfl _ _ 22 rfl (w.heap.size + 1) 25 Try.underlying22 infoReg sv out.length out rfl (HO1.out _) wr.heap.size r rfl HNr.out hon (hlB.out _) ?_; intro v2 w2 hown' hgrow hat; have HO2 := hid hown'; have HG2 := hid hgrow; clear hown' hgrow hat)
        have HBF := hid (grown_low (HO1.out _) HG2.out (HB1.out _) (by omega) (by simp only [World.size_alloc]; omega))
        have HE := hid (srt_end0 HI.out)
        go_wp2_with fail
        go_ret
        exact ⟨_, rfl, by rw [← HE.out]; exact own_from (by simpa using HO2.out) (by omega), HBF.out⟩
      | true =>
        have HE := hid (srt_end1 HI.out)
        go_wp2_with fail
        go_ret
        exact ⟨_, rfl, by rw [← HE.out]; exact own_from HO.out (by omega), HB.out⟩
end Go.Proofs.Ytcafmhhfnleanaa
