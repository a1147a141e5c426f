/- Package regions: Put. -/
import Derived.Test.YtcafmhhfnleanaaIa
import Derived.Deep.RegionHeld3
namespace Go.Proofs.Ytcafmhhfnleanaa
open Go.RowKit Go.Sort

def noneR (_ : RG) : RG := rg0
def putR (l : List RG) (r : RG) : List RG := joinR (insR r (runR l r.fr r.to noneR))
def putE (l : List RG) (r : RG) : Int := if rightB l && mayB r then fewE (putR l r) else 1
def putL (l : List RG) (r : RG) : List RG := if rightB l && mayB r then fewL (putR l r) else []

set_option maxHeartbeats 4000000 in
theorem put_any (a : Option Addr) (len cap : Nat) (l : List RG) (r : RG) (w : World) (hA : Rgs w a len l) (hl : len ≤ 300) (hok : ∀ x ∈ l, RGok x) (hr : RGok r) :
    Calls Try.prog 19 #[.slice a len cap, rgV r] w fun e w' => ∃ v, e = .returned (.tuple #[v, .int .i64 (putE l r)]) ∧ w'.ownsRow w.heap.size 25 5 v (putL l r).length (flat5 (putL l r)) ∧ Below w.heap.size w w' := by
  obtain rfl := hA.hlen
  have HA := hid hA
  have HO := hid hok
  have HRo := hid hr
  have HZ := hid (Row.new w 25 (rgc r))
  have HW := hid (@bal w)
  have HAo := hid (fun o => hA.below (bal o))
  clear hA hok hr
  go_enter Try.func19, Try.ntmps19
  go_wp2_with fail
  refine (right_any _ _ _ l _ (HAo.out _) (by omega) HO.out).mono ?_
  rintro e' w1 ⟨rfl, hb1⟩
  have HZ1 := hid (HZ.out.bel hb1)
  have HB1 := hid (bthen (HW.out _) hb1)
  have HA1 := hid ((HAo.out _).below hb1)
  clear hb1
  obtain ⟨z0, z1, z2, z3, z4⟩ := HZ1.out.c5
  have hlz := HZ1.out.lt
  cases hq : rightB l
  · have hP := hid (show putE l r = 1 ∧ putL l r = [] by unfold putE putL; rw [hq]; exact ⟨rfl, rfl⟩)
    clear hq
    go_wp2_with fail
    go_ret2
    rw [hP.out.1, hP.out.2]
    exact ⟨_, rfl, own_rgs_nil, HB1.out⟩
  · have HQ := hid hq
    clear hq
    go_wp2_with fail
    refine (mayBe_any r _ HRo.out).mono ?_
    rintro e' w2 ⟨rfl, hb2⟩
    have HZ2 := hid (HZ1.out.bel hb2)
    have HB2 := hid (bthen HB1.out hb2)
    have HA2 := hid (HA1.out.below hb2)
    clear hb2 z0 z1 z2 z3 z4 hlz
    obtain ⟨z0, z1, z2, z3, z4⟩ := HZ2.out.c5
    cases hm : mayB r
    · have hP := hid (show putE l r = 1 ∧ putL l r = [] by unfold putE putL; rw [hm, Bool.and_false]; exact ⟨rfl, rfl⟩)
      clear hm
      go_wp2_with fail
      go_ret2
      rw [hP.out.1, hP.out.2]
      exact ⟨_, rfl, own_rgs_nil, HB2.out⟩
    · have hP := hid (show putE l r = fewE (putR l r) ∧ putL l r = fewL (putR l r) by unfold putE putL; rw [HQ.out, hm]; exact ⟨rfl, rfl⟩)
      clear hm
      go_wp2_with fail
      have y0 : ∀ w', St w2 w' → w'.cell? ⟨w.heap.size, 0, none⟩ = some (.int .u64 r.fr) := fun w' hs => keepC hs z0
      have y1 : ∀ w', St w2 w' → w'.cell? ⟨w.heap.size, 1, none⟩ = some (.int .u64 r.to) := fun w' hs => keepC hs z1
      have y2 : ∀ w', St w2 w' → w'.cell? ⟨w.heap.size, 2, none⟩ = some (.int .u8 r.pr) := fun w' hs => keepC hs z2
      have y3 : ∀ w', St w2 w' → w'.cell? ⟨w.heap.size, 3, none⟩ = some (.int .i64 r.ino) := fun w' hs => keepC hs z3
      have y4 : ∀ w', St w2 w' → w'.cell? ⟨w.heap.size, 4, none⟩ = some (.int .u64 r.off) := fun w' hs => keepC hs z4
      clear z0 z1 z2 z3 z4
      have C1 := hid (fun (w' : World) => split_any r.fr r.to 38 #[] w')
      have C2 := hid (fun (S : Nat) (w' : World) (h1 : St w2 w') (h2 : Row w' S 66 (stepC r.fr r.to (.func (.func 38) #[] #[]))) => run_any _ _ cap l r.fr r.to noneR S 38 #[] w' (HA2.out.below h1) hl h2 enters_none (fun x wr _ => nothing_any x wr))
      have hrl := hid (runR_len l r.fr r.to noneR)
      have hrl2 := hid (show (runR l r.fr r.to noneR).length ≤ 2000 by have := hrl.out; omega)
      have hil := hid (show (insR r (runR l r.fr r.to noneR)).length ≤ 2000 by rw [insR_len]; have := hrl.out; omega)
      go_region_held3 (St w2) (first | exact St.drew _ | exact St.step (by assumption) hbx | assumption) (first | (go_at_call 37; with_reducible refine ((C1.out _).mono ?_); rintro e' wx ⟨rfl, hrow, hbx⟩; have HS1 := hid hrow; have HK1 : Hid (St w2 wx) := hid (St.step (by assumption) hbx); clear hrow) | (go_at_call 36; go_must (refine ((C2.out _ _ HK1.out HS1.out).mono ?_)); rintro e' wy ⟨v2, rfl, ho2, hbx⟩; have HO2 := hid ho2; have HK2 : Hid (St w2 wy) := hid (St.step HK1.out hbx); obtain ⟨a2, c2, rfl, hg2, _⟩ := own_rgs ho2; have HG2 := hid hg2; clear ho2 hg2) | (go_at_call 35; with_reducible refine ((insert_any _ _ _ _ r _ HG2.out hrl2.out).mono ?_); rintro e' wz ⟨v3, rfl, ho3, hbx⟩; have HO3 := hid ho3; have HK3 : Hid (St w2 wz) := hid (St.step HK2.out hbx); obtain ⟨a3, c3, rfl, hg3, _⟩ := own_rgs ho3; have HG3 := hid hg3; clear ho3 hg3) | (go_at_call 34; with_reducible refine ((join_any _ _ _ _ _ HG3.out hil.out).mono ?_); rintro e' wu ⟨v4, rfl, ho4, hbx⟩; have HO4 := hid ho4; have HK4 : Hid (St w2 wu) := hid (St.step HK3.out hbx); clear ho4))
      have HF := hid (bthen HB2.out HK4.out)
      have hzs := Nat.le_trans HB2.out.size (show w2.heap.size ≤ wz.heap.size from HK3.out.size)
      go_wp2_with fail
      go_ret2
      rw [hP.out.1, hP.out.2]
      exact ⟨_, rfl, own_from HO4.out hzs, HF.out⟩
end Go.Proofs.Ytcafmhhfnleanaa
