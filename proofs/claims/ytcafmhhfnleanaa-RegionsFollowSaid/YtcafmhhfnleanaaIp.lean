/- Package regions: Protect; the reference's stretch, Cut, covered. -/
import Derived.Test.YtcafmhhfnleanaaIn
import Derived.Test.YtcafmhhfnleanaaIk
import Derived.Test.YtcafmhhfnleanaaIj
namespace Go.Proofs.Ytcafmhhfnleanaa
open Go.RowKit Go.Sort

def proE (l : List RG) (f t q : Int) : Int := if rightB l && strB f t && decide (q ≤ 7) then (if covB l f t then fewE (joinR (runR l f t (protR q))) else 6) else 1
def proL (l : List RG) (f t q : Int) : List RG := if rightB l && strB f t && decide (q ≤ 7) then (if covB l f t then fewL (joinR (runR l f t (protR q))) else []) else []
theorem str_parts {f t : Int} (h : strB f t = true) : f < t ∧ t ≤ 140737488355328 ∧ f % 4096 = 0 ∧ t % 4096 = 0 := by
  unfold strB pg at h
  simp only [Bool.and_eq_true, decide_eq_true_eq, beq_iff_eq] at h
  exact ⟨h.1.2, h.2, h.1.1.1, h.1.1.2⟩

set_option maxHeartbeats 4000000 in
theorem protect_any (a : Option Addr) (len cap : Nat) (l : List RG) (f t q : Int) (w : World) (hA : Rgs w a len l) (hl : len ≤ 300) (hok : ∀ x ∈ l, RGok x) (f0 : 0 ≤ f) (t0 : 0 ≤ t) :
    Calls Try.prog 25 #[.slice a len cap, .int .u64 f, .int .u64 t, .int .u8 q] w fun e w' => ∃ v, e = .returned (.tuple #[v, .int .i64 (proE l f t q)]) ∧ w'.ownsRow w.heap.size 25 5 v (proL l f t q).length (flat5 (proL l f t q)) ∧ Below w.heap.size w w' := by
  obtain rfl := hA.hlen
  have HA := hid hA
  have HO := hid hok
  have HZ := hid (Row.new w 5 [.int .u8 q])
  have HW := hid (@bal w)
  have HAo := hid (fun o => hA.below (bal o))
  clear hA hok
  go_enter Try.func25, Try.ntmps25
  go_wp2_with fail
  refine (right_any _ _ _ l _ (HAo.out _) (by omega) HO.out).mono ?_
  rintro e' w1 ⟨rfl, hb1⟩
  have HB1 := hid (bthen (HW.out _) hb1)
  have HA1 := hid ((HAo.out _).below hb1)
  have HZ1 := hid (HZ.out.bel hb1)
  have hz := HZ1.out.cell 0 (by simp)
  simp only [List.getElem_cons_zero] at hz
  have hlz := HZ1.out.lt
  clear hb1
  cases hq : rightB l
  · have hP := hid (show proE l f t q = 1 ∧ proL l f t q = [] by unfold proE proL; rw [hq]; exact ⟨rfl, rfl⟩)
    clear hq
    go_wp2_with fail
    go_ret2
    rw [hP.out.1, hP.out.2]
    exact ⟨_, rfl, own_rgs_nil, HB1.out⟩
  · have HQ := hid hq
    clear hq
    cases hs : strB f t
    · have hP := hid (show proE l f t q = 1 ∧ proL l f t q = [] by unfold proE proL; rw [hs, Bool.and_false]; exact ⟨rfl, rfl⟩)
      have HS := hid hs
      clear hs
      go_wp2_with (go_at_call 43; refine (stretch_any _ _ _ (by assumption) (by assumption)).mono ?_; rintro e' w' ⟨rfl, rfl⟩; rw [HS.out])
      go_ret2
      rw [hP.out.1, hP.out.2]
      exact ⟨_, rfl, own_rgs_nil, HB1.out⟩
    · have HS := hid hs
      clear hs
      by_cases h7 : 7 < q
      · have hP := hid (show proE l f t q = 1 ∧ proL l f t q = [] by unfold proE proL; rw [show decide (q ≤ 7) = false from decide_eq_false (by omega), Bool.and_false]; exact ⟨rfl, rfl⟩)
        go_wp2_with (go_at_call 43; refine (stretch_any _ _ _ (by assumption) (by assumption)).mono ?_; rintro e' w' ⟨rfl, rfl⟩; rw [HS.out])
        go_ret2
        rw [hP.out.1, hP.out.2]
        exact ⟨_, rfl, own_rgs_nil, HB1.out⟩
      · have h7' := hid (show decide (q ≤ 7) = true from decide_eq_true (by omega))
        have ht1 := (str_parts HS.out).2.1
        go_wp2_with (go_at_call 43; refine (stretch_any _ _ _ (by assumption) (by assumption)).mono ?_; rintro e' w' ⟨rfl, rfl⟩; rw [HS.out])
        refine (covers_any _ _ _ l f t _ HA1.out hl HO.out HQ.out f0 ht1).mono ?_
        rintro e' w2 ⟨rfl, hb2⟩
        have HB2 := hid (bthen HB1.out hb2)
        have HA2 := hid (HA1.out.below hb2)
        have HZ2 := hid (HZ1.out.bel hb2)
        clear hb2 hz hlz
        cases hc : covB l f t
        · have hP := hid (show proE l f t q = 6 ∧ proL l f t q = [] by unfold proE proL; rw [HQ.out, HS.out, h7'.out, hc]; exact ⟨rfl, rfl⟩)
          clear hc
          go_wp2_with fail
          go_ret2
          rw [hP.out.1, hP.out.2]
          exact ⟨_, rfl, own_rgs_nil, HB2.out⟩
        · have hP := hid (show proE l f t q = fewE (joinR (runR l f t (protR q))) ∧ proL l f t q = fewL (joinR (runR l f t (protR q))) by unfold proE proL; rw [HQ.out, HS.out, h7'.out, hc]; exact ⟨rfl, rfl⟩)
          clear hc
          go_wp2_with fail
          refine (split_any f t 46 #[.pointer (some ⟨w.heap.size, 0, none⟩)] _).mono ?_
          rintro e' w3 ⟨rfl, hrow, hb3⟩
          have HR3 := hid hrow
          have HB3 := hid (bthen HB2.out hb3)
          have HA3 := hid (HA2.out.below hb3)
          have HZ3 := hid (HZ2.out.bel hb3)
          clear hb3 hrow
          go_wp2_with fail
          have hz3 := hid (HZ3.out.cell 0 (by simp))
          refine (run_any _ _ cap l f t (protR q) _ 46 #[.pointer (some ⟨w.heap.size, 0, none⟩)] _ HA3.out hl HR3.out enters_prot (fun x wr hbr => prot_any x q w.heap.size wr (keepC hbr hz3.out))).mono ?_
          rintro e' w4 ⟨v4, rfl, ho4, hb4⟩
          have HB4 := hid (bthen HB3.out hb4)
          obtain ⟨a4, c4, rfl, hg4, _⟩ := own_rgs ho4
          have HG4 := hid hg4
          have hrl := runR_len l f t (protR q)
          clear hb4 ho4 hg4
          go_wp2_with fail
          refine (join_any _ _ _ _ _ HG4.out (by omega)).mono ?_
          rintro e' w5 ⟨v5, rfl, ho5, hb5⟩
          have HB5 := hid (bthen HB4.out hb5)
          have HO5 := hid ho5
          have hzs := HB4.out.size
          clear hb5 ho5
          go_wp2_with fail
          go_ret2
          rw [hP.out.1, hP.out.2]
          exact ⟨_, rfl, own_from HO5.out hzs, HB5.out⟩

set_option maxHeartbeats 1000000 in
theorem rstretch_any (a : Option Addr) (len cap : Nat) (l : List RG) (f t : Int) (w : World) (hA : Rgs w a len l) (hl : len ≤ 300) (hok : ∀ x ∈ l, RGok x) (f0 : 0 ≤ f) (t0 : 0 ≤ t) :
    Calls Try.prog 44 #[.slice a len cap, .int .u64 f, .int .u64 t] w fun e w' => e = .returned (.bool (rightB l && strB f t)) ∧ Below w.heap.size w w' := by
  have HA := hid hA
  have HO := hid hok
  clear hA hok
  go_enter Try.func44, Try.ntmps44
  go_wp2_with fail
  refine (rright_any _ _ _ l _ HA.out (by omega) HO.out).mono ?_
  rintro e' w1 ⟨rfl, hb1⟩
  have HB1 := hid hb1
  clear hb1
  obtain ⟨rb, hrb⟩ : ∃ rb, rightB l = rb := ⟨_, rfl⟩
  rw [hrb]
  have HRB := hid hrb
  clear hrb
  go_wp2_with fail
  all_goals go_ret
  all_goals refine ⟨ret_bool ?_, HB1.out⟩
  all_goals rw [HRB.out]
  all_goals (unfold strB pg; simp_all; try omega)

set_option maxHeartbeats 4000000 in
theorem covered_any (a : Option Addr) (len cap : Nat) (l : List RG) (f t : Int) (w : World) (hA : Rgs w a len l) (hl : len ≤ 300) :
    Calls Try.prog 47 #[.slice a len cap, .int .u64 f, .int .u64 t] w fun e w' => e = .returned (.bool (covB l f t)) ∧ Below w.heap.size w w' := by
  obtain rfl := hA.hlen
  have HA := hid hA
  clear hA
  go_enter Try.func47, Try.ntmps47
  go_wp2_with fail
  go_loopw [7, 8] (fun v i wr => ∃ (k : Nat) (a' : Int), k ≤ l.length ∧ i = .int .i64 k ∧ v = .int .u64 a' ∧ cfar (l.drop k) t a' = cfar l t f ∧ Below w.heap.size w wr) (fun _ i _ => l.length - (intOf i).toNat)
  case atStart => exact ⟨0, f, Nat.zero_le _, rfl, rfl, rfl, Below.refl _ _⟩
  case round =>
    obtain ⟨k, a', hk, rfl, rfl, hc, hb⟩ := hrel
    have HC := hid hc
    have HB := hid hb
    clear hc
    by_cases hlt : k < l.length
    · have d1 : decide ((k : Int) < (l.length : Int)) = true := by simp; omega
      have d1n : decide (k < l.length) = true := by simp; omega
      obtain ⟨b, off, rfl, hcell⟩ := HA.out.some_of (by omega)
      obtain ⟨y0, y1, y2, y3, y4⟩ := (hcell k hlt).below hb
      have hlb := World.block_lt_of_cell? _ _ y0
      have HD := hid (show cfar (l.drop (k + 1)) t (cstep t a' l[k]) = cfar l t f by
        rw [← HC.out, List.drop_eq_getElem_cons hlt]
        rfl)
      clear hb hcell
      generalize l[k] = x at *
      by_cases h1 : a' < t
      · go_wp2_with fail
        · have q1 : x.fr ≤ a' := by assumption
          have q2 : a' < x.to := by assumption
          go_roundw
          case rel => exact ⟨k + 1, x.to, by omega, by go_num, rfl, by rw [← HD.out]; unfold cstep; rw [if_pos ⟨h1, q1, q2⟩], HB.out⟩
          case measure => simp [intOf]; omega
        all_goals
          go_roundw
          case rel => exact ⟨k + 1, a', by omega, by go_num, rfl, by rw [← HD.out]; unfold cstep; rw [if_neg (by omega)], HB.out⟩
          case measure => simp [intOf]; omega
      · have hn := hid (show covB l f t = true by unfold covB; rw [← HC.out, cfar_done _ t a' (by omega)]; simp; omega)
        go_wp2_with fail
        go_ret
        exact ⟨by rw [hn.out]; exact ret_bool rfl, HB.out⟩
    · have d1 : decide ((k : Int) < (l.length : Int)) = false := by simp; omega
      have d1n : decide (k < l.length) = false := by simp; omega
      have hn := hid (show covB l f t = decide (t ≤ a') by
        unfold covB
        rw [← HC.out, List.drop_of_length_le (by omega)]
        rfl)
      clear hb
      go_wp2_with fail
      go_ret
      exact ⟨by rw [hn.out]; rfl, HB.out⟩
end Go.Proofs.Ytcafmhhfnleanaa
