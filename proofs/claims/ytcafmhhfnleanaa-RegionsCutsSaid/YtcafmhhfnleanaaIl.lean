/- The reference's Put; own; RegionsPuts: the walk. -/
import Derived.Test.YtcafmhhfnleanaaIj
import Derived.Test.YtcafmhhfnleanaaIk
import Derived.Test.YtcafmhhfnleanaaId
import Derived.Deep.RegionHeld3
namespace Go.Proofs.Ytcafmhhfnleanaa
open Go.RowKit Go.Sort

set_option maxHeartbeats 4000000 in
theorem rput_any (a : Option Addr) (len cap : Nat) (l : List RG) (r : RG) (w : World) (hA : Rgs w a len l) (hl : len ≤ 300) (hok : ∀ x ∈ l, RGok x) (hr : RGok r) :
    Calls Try.prog 20 #[.slice a len cap, rgV r] w fun e w' => ∃ v, e = .returned (.tuple #[v, .int .i64 (putE l r)]) ∧ w'.ownsRow w.heap.size 25 5 v (putL l r).length (flat5 (putL l r)) ∧ Below w.heap.size w w' := by
  obtain rfl := hA.hlen
  have HA := hid hA
  have HO := hid hok
  have HRo := hid hr
  have HZ := hid (Row.new w 25 (rgc r))
  have HW := hid (@bal w)
  have HAo := hid (fun o => hA.below (bal o))
  clear hA hok hr
  go_enter Try.func20, Try.ntmps20
  go_wp2_with fail
  refine (rright_any _ _ _ l _ (HAo.out _) (by omega) HO.out).mono ?_
  rintro e' w1 ⟨rfl, hb1⟩
  have HZ1 := hid (HZ.out.bel hb1)
  have HB1 := hid (bthen (HW.out _) hb1)
  have HA1 := hid ((HAo.out _).below hb1)
  clear hb1
  obtain ⟨z0, z1, z2, z3, z4⟩ := HZ1.out.c5
  have hlz := HZ1.out.lt
  cases hq : rightB l
  · have hP := hid (show putE l r = 1 ∧ putL l r = [] by unfold putE putL; rw [hq]; exact ⟨rfl, rfl⟩)
    clear hq
    go_wp2_with fail
    go_ret2
    rw [hP.out.1, hP.out.2]
    exact ⟨_, rfl, own_rgs_nil, HB1.out⟩
  · have HQ := hid hq
    clear hq
    go_wp2_with fail
    refine (one_any r _ HRo.out).mono ?_
    rintro e' w2 ⟨rfl, hb2⟩
    have HZ2 := hid (HZ1.out.bel hb2)
    have HB2 := hid (bthen HB1.out hb2)
    have HA2 := hid (HA1.out.below hb2)
    clear hb2 z0 z1 z2 z3 z4 hlz
    obtain ⟨z0, z1, z2, z3, z4⟩ := HZ2.out.c5
    cases hm : mayB r
    · have hP := hid (show putE l r = 1 ∧ putL l r = [] by unfold putE putL; rw [hm, Bool.and_false]; exact ⟨rfl, rfl⟩)
      clear hm
      go_wp2_with fail
      go_ret2
      rw [hP.out.1, hP.out.2]
      exact ⟨_, rfl, own_rgs_nil, HB2.out⟩
    · have hP := hid (show putE l r = fewE (joinR (srtR r (woR l r.fr r.to))) ∧ putL l r = fewL (joinR (srtR r (woR l r.fr r.to))) by unfold putE putL; rw [HQ.out, hm, put_same HQ.out hm HO.out HRo.out]; exact ⟨rfl, rfl⟩)
      clear hm
      go_wp2_with fail
      have y0 : ∀ w', St w2 w' → w'.cell? ⟨w.heap.size, 0, none⟩ = some (.int .u64 r.fr) := fun w' hs => keepC hs z0
      have y1 : ∀ w', St w2 w' → w'.cell? ⟨w.heap.size, 1, none⟩ = some (.int .u64 r.to) := fun w' hs => keepC hs z1
      have y2 : ∀ w', St w2 w' → w'.cell? ⟨w.heap.size, 2, none⟩ = some (.int .u8 r.pr) := fun w' hs => keepC hs z2
      have y3 : ∀ w', St w2 w' → w'.cell? ⟨w.heap.size, 3, none⟩ = some (.int .i64 r.ino) := fun w' hs => keepC hs z3
      have y4 : ∀ w', St w2 w' → w'.cell? ⟨w.heap.size, 4, none⟩ = some (.int .u64 r.off) := fun w' hs => keepC hs z4
      clear z0 z1 z2 z3 z4
      have C2 := hid (fun (w' : World) (h1 : St w2 w') => without_any _ _ cap l r.fr r.to w' (HA2.out.below h1) hl)
      have hrl2 := hid (show (woR l r.fr r.to).length ≤ 2000 by have := woR_len l r.fr r.to; omega)
      have hil := hid (show (srtR r (woR l r.fr r.to)).length ≤ 2000 by rw [srtR_len]; have := woR_len l r.fr r.to; omega)
      go_region_held3 (St w2) (first | exact St.drew _ | exact St.step (by assumption) hbx | assumption) (first | (go_at_call 42; go_must (refine ((C2.out _ (by assumption)).mono ?_)); rintro e' wy ⟨v2, rfl, ho2, hbx⟩; have HO2 := hid ho2; have HK2 : Hid (St w2 wy) := hid (St.step (by assumption) hbx); obtain ⟨a2, c2, rfl, hg2, _⟩ := own_rgs ho2; have HG2 := hid hg2; clear ho2 hg2) | (go_at_call 41; with_reducible refine ((sorted_any _ _ _ _ r _ HG2.out hrl2.out).mono ?_); rintro e' wz ⟨v3, rfl, ho3, hbx⟩; have HO3 := hid ho3; have HK3 : Hid (St w2 wz) := hid (St.step HK2.out hbx); obtain ⟨a3, c3, rfl, hg3, _⟩ := own_rgs ho3; have HG3 := hid hg3; clear ho3 hg3) | (go_at_call 40; with_reducible refine ((joined_any _ _ _ _ _ HG3.out hil.out).mono ?_); rintro e' wu ⟨v4, rfl, ho4, hbx⟩; have HO4 := hid ho4; have HK4 : Hid (St w2 wu) := hid (St.step HK3.out hbx); obtain ⟨a4, c4, rfl, _⟩ := own_rgs ho4; clear ho4) | (go_at_call 39; with_reducible refine ((few_any _ _ _ _ _ HO4.out).mono ?_); rintro e' wv ⟨v5, rfl, ho5, rfl⟩; have HO5 := hid ho5; clear ho5))
      have HF := hid (bthen HB2.out HK4.out)
      have hzs := Nat.le_trans HB2.out.size (show w2.heap.size ≤ wz.heap.size from HK3.out.size)
      go_wp2_with fail
      go_ret2
      rw [hP.out.1, hP.out.2]
      exact ⟨_, rfl, own_from HO5.out hzs, HF.out⟩

theorem Rgs.low {w w' : World} {a : Option Addr} {len B : Nat} {l : List RG} (h : Rgs w a len l) (hb : Below B w w') (ha : 0 < len → ∀ b, a = some b → b.block < B) : Rgs w' a len l :=
  ⟨h.hlen, fun i hi => by
    obtain ⟨b, off, e, hc⟩ := h.cell i hi
    have hbk := ha (by have := h.hlen; omega) _ e
    have k := fun o => hb.cell (p := ⟨b, o, none⟩) hbk
    exact ⟨b, off, e, (k _).trans hc.1, (k _).trans hc.2.1, (k _).trans hc.2.2.1, (k _).trans hc.2.2.2.1, (k _).trans hc.2.2.2.2⟩⟩
theorem own_spots {w : World} {base n G c : Nat} {E : TypeId} {xs : List Value} (h : w.ownsRow base E 5 (.slice (some ⟨G, 0, none⟩) n c) n xs) (i : Nat) (hi : i < n) :
    (∃ v0 v1 v2 v3 v4, w.cell? ⟨G, i * 5, none⟩ = some v0 ∧ w.cell? ⟨G, i * 5 + 1, none⟩ = some v1 ∧ w.cell? ⟨G, i * 5 + 2, none⟩ = some v2 ∧ w.cell? ⟨G, i * 5 + 3, none⟩ = some v3 ∧ w.cell? ⟨G, i * 5 + 4, none⟩ = some v4) ∧ (∀ o, w.frozen? ⟨G, o, none⟩ = false) ∧ G < w.heap.size ∧ base ≤ G := by
  rcases h.2 with ⟨h0, h1⟩ | ⟨g, cap, cur, h', hb, hg, hnc, hm, hs, ht⟩
  · cases h0
  · simp only [Value.slice.injEq, Option.some.injEq, Addr.mk.injEq, and_true, true_and] at h'
    obtain ⟨rfl, rfl⟩ := h'
    have hr : Row w G E cur.toList := ⟨by simpa using hg⟩
    have k : ∀ j, j < 5 → w.cell? ⟨G, i * 5 + j, none⟩ = some (cur.toList.getD (i * 5 + j) undef) := by
      intro j hj
      have hlt : i * 5 + j < cur.toList.length := by simp only [Array.length_toList, hs]; omega
      rw [hr.cell', List.getElem?_eq_getElem hlt]
      simp [List.getD_eq_getElem?_getD, List.getElem?_eq_getElem hlt]
    exact ⟨⟨_, _, _, _, _, k 0 (by omega), k 1 (by omega), k 2 (by omega), k 3 (by omega), k 4 (by omega)⟩, fun o => hr.frozen o, hr.lt, hb⟩

set_option maxHeartbeats 4000000 in
theorem own_any (v : Value) (lo : List RG) (G c : Nat) (a : Option Addr) (len cap : Nat) (l : List RG) (B : Nat) (w : World) (ho : w.ownsRow B 25 5 v lo.length (flat5 lo)) (hlo : lo.length ≤ 100000) (hBw : B ≤ w.heap.size)
    (hN : Rgs w (some ⟨G, 0, none⟩) (len + 1) (l ++ [rg77])) (hc : len + 1 ≤ c) (hcm : c ≤ maxLen) (hA : Rgs w a len l) (hl : len ≤ 300) (hG : G < B) (hAl : 0 < len → ∀ b, a = some b → b.block < B) :
    Calls Try.prog 22 #[v, .slice (some ⟨G, 0, none⟩) len c, .slice a len cap] w fun e w' => e = .returned (.bool true) ∧ Below B w w' := by
  have HN := hid hN
  have HA := hid hA
  have HO1 := hid (fun o => ho.alloc o)
  have HB1 := hid (fun o => (Below.refl B w).alloc hBw o)
  have hlB := hid (fun o => show B ≤ (w.alloc o).heap.size by simp only [World.size_alloc]; omega)
  have HN5 := hid (new_rg w 25 ⟨5, 0, 0, 0, 0⟩)
  have hon : lo.length ≤ 1000000 := by omega
  clear hN hA ho
  go_enter Try.func22, Try.ntmps22
  go_wp2_with (at_builtin; go_must (refine wpList_app5 _ rfl _ _ 22 rfl B 25 Try.underlying22 infoReg v lo.length lo rfl (HO1.out _) w.heap.size ⟨5, 0, 0, 0, 0⟩ rfl HN5.out hon (hlB.out _) ?_; intro v2 w2 hown' hgrow hat; have HB2 := hid (grown_low (HO1.out _) hgrow (HB1.out _) (Nat.le_refl _) (hlB.out _)); obtain ⟨G2, c2, rfl, hc1, hc2, hc3, hc4⟩ := own_some5 hown' (Nat.succ_pos _); have HO2 := hid hown'; clear hown' hgrow hat))
  go_wp2_with fail
  go_loopw [7] (fun i wr => ∃ k : Nat, k ≤ lo.length + 1 ∧ i = .int .i64 k ∧ (∃ xs, wr.ownsRow B 25 5 (.slice (some ⟨G2, 0, none⟩) (lo.length + 1) c2) (lo.length + 1) xs) ∧ Below B w wr) (fun i _ => lo.length + 1 - (intOf i).toNat)
  case atStart => exact ⟨0, Nat.zero_le _, rfl, ⟨_, HO2.out⟩, HB2.out⟩
  case round =>
    obtain ⟨k, hk, rfl, ⟨xs, hox⟩, hb⟩ := hrel
    have HB := hid hb
    have HX := hid hox
    by_cases hlt : k < lo.length + 1
    · have d1 : decide ((k : Int) < (lo.length : Int) + 1) = true := by simp; omega
      have d1n : decide (k < lo.length + 1) = true := by simp; omega
      obtain ⟨⟨v0, v1, v2, v3, v4, y0, y1, y2, y3, y4⟩, hf, hlG, hbG⟩ := own_spots hox k hlt
      have f0 := hf (k * 5)
      have f1 := hf (k * 5 + 1)
      have f2 := hf (k * 5 + 2)
      have f3 := hf (k * 5 + 3)
      have f4 := hf (k * 5 + 4)
      clear hf hox hb
      go_wp2_with fail
      go_roundw
      case rel => exact ⟨k + 1, by omega, by go_num, ⟨_, ((((((HX.out.stored (k * 5) (.int .u64 0)).1.stored (k * 5 + 1) (.int .u64 9)).1.stored (k * 5 + 2) (.int .u8 0)).1.stored (k * 5 + 3) (.int .i64 0)).1.stored (k * 5 + 4) (.int .u64 0)).1)⟩, bset (bset (bset (bset (bset HB.out hbG _) hbG _) hbG _) hbG _) hbG _⟩
      case measure => simp [intOf]; omega
    · have d1 : decide ((k : Int) < (lo.length : Int) + 1) = false := by simp; omega
      have d1n : decide (k < lo.length + 1) = false := by simp; omega
      clear hox hb
      go_wp2_with fail
      refine (kept_any _ _ _ _ _ l _ (HN.out.low HB.out (fun _ b hb' => by cases hb'; exact hG)) hc hcm (HA.out.low HB.out hAl) hl).mono ?_
      rintro e' w3 ⟨rfl, hb3⟩
      have HB3 := hid (HB.out.trans (hb3.mono (Nat.le_trans hBw HB.out.size)))
      clear hb3
      go_wp2_with fail
      go_ret
      exact ⟨rfl, HB3.out⟩
end Go.Proofs.Ytcafmhhfnleanaa
