/- Package regions: rightStretch, Cut, covers. -/
import Derived.Test.YtcafmhhfnleanaaIb
import Derived.Test.YtcafmhhfnleanaaI5
namespace Go.Proofs.Ytcafmhhfnleanaa
open Go.RowKit Go.Sort

def strB (f t : Int) : Bool := pg f && pg t && decide (f < t) && decide (t ≤ 140737488355328)
set_option maxHeartbeats 1000000 in
theorem stretch_any (f t : Int) (w : World) (f0 : 0 ≤ f) (t0 : 0 ≤ t) :
    Calls Try.prog 43 #[.int .u64 f, .int .u64 t] w fun e w' => e = .returned (.bool (strB f t)) ∧ w = w' := by
  go_enter Try.func43, Try.ntmps43
  go_wp2_with (go_at_call 49; refine (onPage_any _ _ (by assumption)).mono ?_; rintro e' w' ⟨rfl, rfl⟩)
  all_goals go_ret
  all_goals refine ⟨ret_bool ?_, rfl⟩
  all_goals (unfold strB; simp_all; try omega)

def cutE (l : List RG) (f t : Int) : Int := if rightB l && strB f t then fewE (joinR (runR l f t noneR)) else 1
def cutL (l : List RG) (f t : Int) : List RG := if rightB l && strB f t then fewL (joinR (runR l f t noneR)) else []

set_option maxHeartbeats 4000000 in
theorem cut_any (a : Option Addr) (len cap : Nat) (l : List RG) (f t : Int) (w : World) (hA : Rgs w a len l) (hl : len ≤ 300) (hok : ∀ x ∈ l, RGok x) (f0 : 0 ≤ f) (t0 : 0 ≤ t) :
    Calls Try.prog 23 #[.slice a len cap, .int .u64 f, .int .u64 t] w fun e w' => ∃ v, e = .returned (.tuple #[v, .int .i64 (cutE l f t)]) ∧ w'.ownsRow w.heap.size 25 5 v (cutL l f t).length (flat5 (cutL l f t)) ∧ Below w.heap.size w w' := by
  obtain rfl := hA.hlen
  have HA := hid hA
  have HO := hid hok
  clear hA hok
  go_enter Try.func23, Try.ntmps23
  go_wp2_with fail
  refine (right_any _ _ _ l _ HA.out (by omega) HO.out).mono ?_
  rintro e' w1 ⟨rfl, hb1⟩
  have HB1 := hid hb1
  have HA1 := hid (HA.out.below hb1)
  clear hb1
  cases hq : rightB l
  · have hP := hid (show cutE l f t = 1 ∧ cutL l f t = [] by unfold cutE cutL; rw [hq]; exact ⟨rfl, rfl⟩)
    clear hq
    go_wp2_with fail
    go_ret2
    rw [hP.out.1, hP.out.2]
    exact ⟨_, rfl, own_rgs_nil, HB1.out⟩
  · have HQ := hid hq
    clear hq
    cases hs : strB f t
    · have hP := hid (show cutE l f t = 1 ∧ cutL l f t = [] by unfold cutE cutL; rw [hs, Bool.and_false]; exact ⟨rfl, rfl⟩)
      have HS := hid hs
      clear hs
      go_wp2_with (go_at_call 43; refine (stretch_any _ _ _ (by assumption) (by assumption)).mono ?_; rintro e' w' ⟨rfl, rfl⟩; rw [HS.out])
      go_ret2
      rw [hP.out.1, hP.out.2]
      exact ⟨_, rfl, own_rgs_nil, HB1.out⟩
    · have hP := hid (show cutE l f t = fewE (joinR (runR l f t noneR)) ∧ cutL l f t = fewL (joinR (runR l f t noneR)) by unfold cutE cutL; rw [HQ.out, hs]; exact ⟨rfl, rfl⟩)
      have HS := hid hs
      clear hs
      go_wp2_with (go_at_call 43; refine (stretch_any _ _ _ (by assumption) (by assumption)).mono ?_; rintro e' w' ⟨rfl, rfl⟩; rw [HS.out])
      refine (split_any f t 38 #[] _).mono ?_
      rintro e' w2 ⟨rfl, hrow, hb2⟩
      have HR2 := hid hrow
      have HB2 := hid (bthen HB1.out hb2)
      have HA2 := hid (HA1.out.below hb2)
      clear hb2 hrow
      go_wp2_with fail
      refine (run_any _ _ cap l f t noneR _ 38 #[] _ HA2.out hl HR2.out enters_none (fun x wr _ => nothing_any x wr)).mono ?_
      rintro e' w3 ⟨v3, rfl, ho3, hb3⟩
      have HB3 := hid (bthen HB2.out hb3)
      obtain ⟨a3, c3, rfl, hg3, _⟩ := own_rgs ho3
      have HG3 := hid hg3
      have hrl := runR_len l f t noneR
      clear hb3 ho3 hg3
      go_wp2_with fail
      refine (join_any _ _ _ _ _ HG3.out (by omega)).mono ?_
      rintro e' w4 ⟨v4, rfl, ho4, hb4⟩
      have HB4 := hid (bthen HB3.out hb4)
      have HO4 := hid ho4
      have hzs := HB3.out.size
      clear hb4 ho4
      go_wp2_with fail
      go_ret2
      rw [hP.out.1, hP.out.2]
      exact ⟨_, rfl, own_from HO4.out hzs, HB4.out⟩

/-- How far one comes. -/
def cstep (t a : Int) (x : RG) : Int := if a < t ∧ x.fr ≤ a ∧ a < x.to then x.to else a
def cfar (l : List RG) (t a : Int) : Int := l.foldl (cstep t) a
def covB (l : List RG) (f t : Int) : Bool := decide (t ≤ cfar l t f)
theorem cfar_done (l : List RG) (t a : Int) (h : t ≤ a) : cfar l t a = a := by
  induction l with
  | nil => rfl
  | cons x l ih =>
    unfold cfar at *
    rw [List.foldl_cons, show cstep t a x = a by unfold cstep; rw [if_neg (by omega)]]
    exact ih
theorem cfar_miss (l : List RG) (t a : Int) (h : ∀ x ∈ l, ¬ (x.fr ≤ a ∧ a < x.to)) : cfar l t a = a := by
  induction l with
  | nil => rfl
  | cons x l ih =>
    have hx := h x (List.mem_cons_self ..)
    unfold cfar at *
    rw [List.foldl_cons, show cstep t a x = a by unfold cstep; rw [if_neg (by omega)]]
    exact ih (fun y hy => h y (List.mem_cons_of_mem _ hy))
theorem cfar_none (l : List RG) (t a : Int) (h : findR l a = none) : cfar l t a = a := by
  refine cfar_miss l t a (fun x hx hh => ?_)
  unfold findR at h
  have := List.find?_eq_none.1 h x hx
  apply this
  unfold hits
  simp only [Bool.and_eq_true, decide_eq_true_eq]
  exact hh
theorem cfar_hit (l : List RG) (t a : Int) (x : RG) (hs : l.Pairwise fun x y => x.to ≤ y.fr) (hf : ∀ x ∈ l, x.fr < x.to) (hat : a < t) (h : findR l a = some x) : cfar l t x.to = cfar l t a ∧ a < x.to ∧ x ∈ l := by
  induction l with
  | nil => cases h
  | cons y l ih =>
    have hp := List.pairwise_cons.1 hs
    have hy := hf y (List.mem_cons_self ..)
    unfold findR at h
    rw [List.find?_cons] at h
    by_cases c : hits a y = true
    · rw [c] at h
      obtain rfl := Option.some.inj h
      unfold hits at c
      simp only [Bool.and_eq_true, decide_eq_true_eq] at c
      refine ⟨?_, c.2, List.mem_cons_self ..⟩
      unfold cfar
      rw [List.foldl_cons, List.foldl_cons, show cstep t y.to y = y.to by unfold cstep; rw [if_neg (by omega)], show cstep t a y = y.to by unfold cstep; rw [if_pos ⟨hat, c⟩]]
    · have c' : hits a y = false := by simpa using c
      rw [c'] at h
      obtain ⟨h1, h2, h3⟩ := ih hp.2 (fun z hz => hf z (List.mem_cons_of_mem _ hz)) h
      refine ⟨?_, h2, List.mem_cons_of_mem _ h3⟩
      have hyx := hp.1 x h3
      have hxx := hf x (List.mem_cons_of_mem _ h3)
      unfold hits at c'
      simp only [Bool.and_eq_false_iff, decide_eq_false_iff_not] at c'
      have e1 : cstep t x.to y = x.to := by unfold cstep; rw [if_neg (by omega)]
      have e2 : cstep t a y = a := by unfold cstep; rw [if_neg (by omega)]
      unfold cfar at *
      rw [List.foldl_cons, List.foldl_cons, e1, e2]
      exact h1
theorem right_pairs {l : List RG} (h : rightB l = true) : (l.Pairwise fun x y => x.to ≤ y.fr) ∧ ∀ x ∈ l, x.fr < x.to := by
  refine ⟨?_, fun x hx => ?_⟩
  · rw [List.pairwise_iff_getElem]
    intro i j hi hj hij
    exact right_sorted h i j hij hj
  · obtain ⟨i, hi, rfl⟩ := List.getElem_of_mem hx
    exact (may_parts (right_may h i hi)).1

set_option maxHeartbeats 4000000 in
theorem covers_any (a : Option Addr) (len cap : Nat) (l : List RG) (f t : Int) (w : World) (hA : Rgs w a len l) (hl : len ≤ 300) (hok : ∀ x ∈ l, RGok x) (hr : rightB l = true) (f0 : 0 ≤ f) (t1 : t ≤ 140737488355328) :
    Calls Try.prog 45 #[.slice a len cap, .int .u64 f, .int .u64 t] w fun e w' => e = .returned (.bool (covB l f t)) ∧ Below w.heap.size w w' := by
  obtain rfl := hA.hlen
  have HA := hid hA
  have HO := hid hok
  have HP := hid (right_pairs hr)
  clear hA hok hr
  go_enter Try.func45, Try.ntmps45
  go_wp2_with fail
  go_loopw [1] (fun v wr => ∃ a' : Int, v = .int .u64 a' ∧ 0 ≤ a' ∧ cfar l t a' = cfar l t f ∧ Below w.heap.size w wr) (fun v _ => (t - intOf v).toNat)
  case atStart => exact ⟨f, rfl, f0, rfl, Below.refl _ _⟩
  case round =>
    obtain ⟨a', rfl, h0, hc, hb⟩ := hrel
    have HC := hid hc
    have HB := hid hb
    have HAr := hid (HA.out.below hb)
    clear hc hb
    by_cases hlt : a' < t
    · go_wp2_with fail
      refine (find_any _ _ _ l a' _ HAr.out (by omega)).mono ?_
      rintro e' w2 ⟨rfl, hb⟩
      have HB2 := hid (bthen HB.out hb)
      clear hb
      cases hf : findR l a' with
      | none =>
        have hn := hid (show covB l f t = false by unfold covB; rw [← HC.out, cfar_none l t a' hf]; simp; omega)
        clear hf
        simp only [Option.getD_none, Option.isSome_none]
        have HBs := hid (fun o => bal2 HB2.out o)
        go_wp2_with fail
        go_ret
        exact ⟨ret_bool hn.out.symm, HBs.out _⟩
      | some x =>
        have hh := hid (cfar_hit l t a' x HP.out.1 HP.out.2 hlt hf)
        have hx1 := hh.out.2.1
        have hx0 : 0 ≤ x.to := by omega
        have HBs := hid (fun o => bal2 HB2.out o)
        clear hf
        simp only [Option.getD_some, Option.isSome_some]
        go_wp2_with fail
        go_roundw
        case rel => exact ⟨x.to, rfl, hx0, hh.out.1.trans HC.out, HBs.out _⟩
        case measure => simp [intOf]; omega
    · have hn := hid (show covB l f t = true by unfold covB; rw [← HC.out, cfar_done l t a' (by omega)]; simp; omega)
      go_wp2_with fail
      go_ret
      exact ⟨ret_bool hn.out.symm, HB.out⟩
end Go.Proofs.Ytcafmhhfnleanaa
