/- RegionsFollow: the walk. -/
import Derived.Test.YtcafmhhfnleanaaIH
import Derived.Test.YtcafmhhfnleanaaIF
namespace Go.Proofs.Ytcafmhhfnleanaa
open Go.RowKit Go.Sort

theorem put_cf {l : List RG} {r : RG} (hl : Now l) (hr : RGok r) (h : putE l r = 0) : Now (putL l r) ∧ ∀ t, CF l (putL l r) 1 r t := by
  obtain ⟨h1, h2⟩ := put_says hl hr h
  refine ⟨h1, fun t => ⟨⟨fun c _ => ?_, fun _ c => absurd c (by decide), fun _ c => absurd c (by decide)⟩, fun c => ?_⟩⟩
  · rw [h2 t, if_pos c]
  · rw [h2 t, if_neg c]
theorem cut_cf {l : List RG} {r : RG} (hl : Now l) (hr : RGok r) (h : cutE l r.fr r.to = 0) : Now (cutL l r.fr r.to) ∧ ∀ t, CF l (cutL l r.fr r.to) 2 r t := by
  obtain ⟨h1, h2⟩ := cut_says hl hr.f0 h
  refine ⟨h1, fun t => ⟨⟨fun _ c => absurd c (by decide), fun c _ => ?_, fun _ c => absurd c (by decide)⟩, fun c => ?_⟩⟩
  · rw [h2 t, if_pos c]
  · rw [h2 t, if_neg c]
theorem pro_cf {l : List RG} {r : RG} (hl : Now l) (hr : RGok r) (h : proE l r.fr r.to r.pr = 0) : Now (proL l r.fr r.to r.pr) ∧ ∀ t, CF l (proL l r.fr r.to r.pr) 3 r t := by
  obtain ⟨h1, h2, h3⟩ := pro_says hl hr.f0 hr.p0 h
  refine ⟨h1, fun t => ⟨⟨fun _ c => absurd c (by decide), fun _ c => absurd c (by decide), fun c _ => ?_⟩, fun c => ?_⟩⟩
  · have := h3 t c.1 c.2
    rw [h2 t, if_pos c]
    cases hx : atR l t with
    | none => exact absurd hx this
    | some x => exact ⟨x, rfl, rfl⟩
  · rw [h2 t, if_neg c]
theorem chg_below {w w' : World} {a : Option Addr} {len : Nat} {f : Nat → Int × RG} (h : ChgAt w a len f) (hb : Below w.heap.size w w') : ChgAt w' a len f := fun i hi => by
  obtain ⟨hk, b, off, e, h1, h2⟩ := h i hi
  exact ⟨hk, b, off, e, keepC hb h1, h2.below hb⟩
/-- What a change comes to: a list that is right, or the error and no list. -/
structure Comes (N : List RG) (d : Int) (r : RG) (E : Int) (O : List RG) : Prop where
  yes : E = 0 → Now O ∧ ∀ t, CF N O d r t
  no : E ≠ 0 → O = []

set_option maxRecDepth 100000 in
set_option maxHeartbeats 4000000 in
theorem regionsFollow_walk (a : Option Addr) (len cap : Nat) (f : Nat → Int × RG) (w : World) (hA : ChgAt w a len f) (hm : len ≤ 9223372036854775807) :
    Calls Try.prog 7 #[.slice a len cap] w fun e w' => e = .returned (.bool true) ∧ Below w.heap.size w w' := by
  have HA := hid hA
  clear hA
  go_enter Try.func7, Try.ntmps7
  go_wp2_with fail
  go_loopw [3, 4] (fun v i wr => ∃ (sv : Value) (k n c : Nat) (av : Option Addr) (N : List RG), sv = v ∧ sv = .slice av n c ∧ k ≤ len ∧ i = .int .i64 k ∧ Rgs wr av n N ∧ (av = none → c = 0) ∧ Now N ∧ Below w.heap.size w wr) (fun _ i _ => len - (intOf i).toNat)
  case atStart => exact ⟨_, 0, 0, 0, none, [], rfl, rfl, Nat.zero_le _, rfl, Rgs.nil _ _, fun _ => rfl, now_nil, Below.refl _ _⟩
  case round =>
    obtain ⟨sv, k, n, c, av, N, hsv, hsv2, hk, rfl, hN, hc, hnow, hb⟩ := hrel
    subst hsv
    subst hsv2
    have HN := hid hN
    have HC := hid hc
    have HNow := hid hnow
    have HB := hid hb
    have hn64 : n ≤ 64 := by rw [← hN.hlen]; exact right_len hnow.1
    by_cases hlt : k < len ∧ k < 30
    · obtain ⟨h1, h2⟩ := hlt
      have d1 : decide ((k : Int) < (len : Int)) = true := by simp; omega
      have d1n : decide (k < len) = true := by simp; omega
      have d2 : decide ((k : Int) < 30) = true := by simp; omega
      have d2n : decide (k < 30) = true := by simp; omega
      obtain ⟨hrok, b9, off, rfl, hdo, hrg⟩ := chg_below HA.out hb k h1
      have HDo := hid hdo
      have HRg := hid hrg
      have hlb9 := World.block_lt_of_cell? _ _ hdo
      have ez : (0 : Int) ≤ (k : Int) := by omega
      have eb : (k : Int) < (len : Int) := by omega
      generalize (f k).1 = d at *
      generalize (f k).2 = r at *
      have HRok := hid hrok
      obtain ⟨y0, y1, y2, y3, y4⟩ := hrg
      have HZ := hid (show Row (wr.alloc (.cells (rgA r) 25)) wr.heap.size 25 (rgc r) from Row.new wr 25 (rgc r))
      have HN1 := hid (HN.out.below (bal (.cells (rgA r) 25)))
      have HB1 := hid (bal2 HB.out (.cells (rgA r) 25))
      have HRg1 := hid (HRg.out.below (bal (.cells (rgA r) 25)))
      have hdo1 := keepC (bal (.cells (rgA r) 25)) hdo
      have HDo1 := hid hdo1
      obtain ⟨z0, z1, z2, z3, z4⟩ := HZ.out.c5
      have hlz := HZ.out.lt
      clear hrok hN hc hnow hb
      by_cases hd : d = 1
      · subst hd
        have HM : Hid (Comes N 1 r (putE N r) (putL N r)) := hid ⟨fun h => put_cf HNow.out HRok.out h, fun h => say_no h⟩
        go_wp2_with fail
        refine (put_any av n c N r _ HN1.out (by omega) HNow.out.2 HRok.out).mono ?_
        rintro e' w2 ⟨v, rfl, ho, hb⟩
        generalize putE N r = E at *
        generalize putL N r = O at *
        obtain ⟨a2, c2, rfl, hrg2, hnil2, _⟩ := own_rgs ho
        have HO2 := hid hrg2
        have HNil2 := hid (fun h => (hnil2 h).1)
        have HN2 := hid (HN1.out.below hb)
        have HB2 := hid (bthen HB1.out hb)
        have HZ2 := hid (HZ.out.bel hb)
        have HRg2 := hid (HRg1.out.below hb)
        have HDo2 := hid (keepC hb HDo1.out)
        clear ho hrg2 hnil2 hb y0 y1 y2 y3 y4 z0 z1 z2 z3 z4 hlz hdo hdo1 hlb9
        by_cases hE : E = 0
        · subst hE
          obtain ⟨hNow2, hcf⟩ := HM.out.yes rfl
          have HNow2 := hid hNow2
          have hO64 : O.length ≤ 64 := right_len hNow2.1
          have hrt := hNow2.1
          have C1 := hid (fun (w' : World) (h : St w2 w') => (show Calls Try.prog 14 #[.slice a2 O.length c2] w' (fun e w'' => e = .returned (.bool true) ∧ Below w'.heap.size w' w'') from by
            have := right_any a2 O.length c2 O w' (HO2.out.below h) (by omega) HNow2.out.2
            rw [hrt] at this
            exact this))
          have C2 := hid (fun (w' : World) (h : St w2 w') => edges_any av a2 n O.length c c2 N O r w' (HN2.out.below h) (HO2.out.below h) HC.out HNil2.out hn64 hO64 HNow.out.2 HNow2.out.2 HRok.out)
          have C3 := hid (fun (w' : World) (ta : Option Addr) (ts : List Int) (tc : Nat) (h : St w2 w') (hT : Nums w' .u64 ta ts.length ts) (hl : ts.length ≤ 2000) => fits_any av a2 ta n O.length ts.length c c2 tc N O 1 r ts w' (HN2.out.below h) (HO2.out.below h) hT hn64 hO64 hl (by omega) (fun t _ => hcf t))
          have y0 : ∀ w', St w2 w' → w'.cell? ⟨b9, off + k * 6 + 1, none⟩ = some (.int .u64 r.fr) := fun w' hs => keepC hs HRg2.out.1
          have y1 : ∀ w', St w2 w' → w'.cell? ⟨b9, off + k * 6 + 1 + 1, none⟩ = some (.int .u64 r.to) := fun w' hs => keepC hs HRg2.out.2.1
          have y2 : ∀ w', St w2 w' → w'.cell? ⟨b9, off + k * 6 + 1 + 2, none⟩ = some (.int .u8 r.pr) := fun w' hs => keepC hs HRg2.out.2.2.1
          have y3 : ∀ w', St w2 w' → w'.cell? ⟨b9, off + k * 6 + 1 + 3, none⟩ = some (.int .i64 r.ino) := fun w' hs => keepC hs HRg2.out.2.2.2.1
          have y4 : ∀ w', St w2 w' → w'.cell? ⟨b9, off + k * 6 + 1 + 4, none⟩ = some (.int .u64 r.off) := fun w' hs => keepC hs HRg2.out.2.2.2.2
          have yd : ∀ w', St w2 w' → w'.cell? ⟨b9, off + k * 6, none⟩ = some (.int .i64 1) := fun w' hs => keepC hs HDo2.out
          have z0 : ∀ w', St w2 w' → w'.cell? ⟨wr.heap.size, 0, none⟩ = some (.int .u64 r.fr) := fun w' hs => keepC hs HZ2.out.c5.1
          have z1 : ∀ w', St w2 w' → w'.cell? ⟨wr.heap.size, 1, none⟩ = some (.int .u64 r.to) := fun w' hs => keepC hs HZ2.out.c5.2.1
          have z2 : ∀ w', St w2 w' → w'.cell? ⟨wr.heap.size, 2, none⟩ = some (.int .u8 r.pr) := fun w' hs => keepC hs HZ2.out.c5.2.2.1
          have z3 : ∀ w', St w2 w' → w'.cell? ⟨wr.heap.size, 3, none⟩ = some (.int .i64 r.ino) := fun w' hs => keepC hs HZ2.out.c5.2.2.2.1
          have z4 : ∀ w', St w2 w' → w'.cell? ⟨wr.heap.size, 4, none⟩ = some (.int .u64 r.off) := fun w' hs => keepC hs HZ2.out.c5.2.2.2.2
          clear hNow2 hcf hrt
          go_wp2_with fail
          go_region_held3 (St w2) (first | exact St.drew _ | exact St.step (by assumption) hbx | assumption) (first | (go_at_call 14; with_reducible refine ((C1.out _ (by assumption)).mono ?_); rintro e' wx ⟨rfl, hbx⟩; have HK1 : Hid (St w2 wx) := hid (St.step (by assumption) hbx)) | (go_at_call 30; with_reducible refine ((C2.out _ (by assumption)).mono ?_); rintro e' wy ⟨v2, ts, rfl, ho2, hts, htl, hbx⟩; have HK2 : Hid (St w2 wy) := hid (St.step (by assumption) hbx); obtain ⟨ta, tc, rfl, hnum⟩ := own_nums ho2; have HT2 := hid hnum; have HTL := hid htl; clear ho2 hts hnum htl) | (go_at_call 29; go_must (refine ((C3.out _ ta ts tc HK2.out HT2.out HTL.out).mono ?_)); rintro e' wz ⟨rfl, hbx⟩; have HK3 : Hid (St w2 wz) := hid (St.step HK2.out hbx)))
          clear y0 y1 y2 y3 y4 yd z0 z1 z2 z3 z4
          go_wp2_with fail
          go_roundw
          case rel => exact ⟨_, k + 1, O.length, c2, a2, O, rfl, rfl, by omega, by go_num, HO2.out.below HK3.out, HNil2.out, HNow2.out, bthen HB2.out HK3.out⟩
          case measure => simp [intOf]; omega
        · have hO := HM.out.no hE
          subst hO
          have q1 : (E != 0) = true := by simpa using hE
          go_wp2_with fail
          go_roundw
          case rel => exact ⟨_, k + 1, n, c, av, N, rfl, rfl, by omega, by go_num, HN2.out, HC.out, HNow.out, HB2.out⟩
          case measure => simp [intOf]; omega
      · by_cases hd2 : d = 2
        · subst hd2
          have HM : Hid (Comes N 2 r (cutE N r.fr r.to) (cutL N r.fr r.to)) := hid ⟨fun h => cut_cf HNow.out HRok.out h, fun h => cut_no h⟩
          go_wp2_with fail
          refine (cut_any av n c N r.fr r.to _ HN1.out (by omega) HNow.out.2 HRok.out.f0 HRok.out.t0).mono ?_
          rintro e' w2 ⟨v, rfl, ho, hb⟩
          generalize cutE N r.fr r.to = E at *
          generalize cutL N r.fr r.to = O at *
          obtain ⟨a2, c2, rfl, hrg2, hnil2, _⟩ := own_rgs ho
          have HO2 := hid hrg2
          have HNil2 := hid (fun h => (hnil2 h).1)
          have HN2 := hid (HN1.out.below hb)
          have HB2 := hid (bthen HB1.out hb)
          have HZ2 := hid (HZ.out.bel hb)
          have HRg2 := hid (HRg1.out.below hb)
          have HDo2 := hid (keepC hb HDo1.out)
          clear ho hrg2 hnil2 hb y0 y1 y2 y3 y4 z0 z1 z2 z3 z4 hlz hdo hdo1 hlb9
          by_cases hE : E = 0
          · subst hE
            obtain ⟨hNow2, hcf⟩ := HM.out.yes rfl
            have HNow2 := hid hNow2
            have hO64 : O.length ≤ 64 := right_len hNow2.1
            have hrt := hNow2.1
            have C1 := hid (fun (w' : World) (h : St w2 w') => (show Calls Try.prog 14 #[.slice a2 O.length c2] w' (fun e w'' => e = .returned (.bool true) ∧ Below w'.heap.size w' w'') from by
              have := right_any a2 O.length c2 O w' (HO2.out.below h) (by omega) HNow2.out.2
              rw [hrt] at this
              exact this))
            have C2 := hid (fun (w' : World) (h : St w2 w') => edges_any av a2 n O.length c c2 N O r w' (HN2.out.below h) (HO2.out.below h) HC.out HNil2.out hn64 hO64 HNow.out.2 HNow2.out.2 HRok.out)
            have C3 := hid (fun (w' : World) (ta : Option Addr) (ts : List Int) (tc : Nat) (h : St w2 w') (hT : Nums w' .u64 ta ts.length ts) (hl : ts.length ≤ 2000) => fits_any av a2 ta n O.length ts.length c c2 tc N O 2 r ts w' (HN2.out.below h) (HO2.out.below h) hT hn64 hO64 hl (by omega) (fun t _ => hcf t))
            have y0 : ∀ w', St w2 w' → w'.cell? ⟨b9, off + k * 6 + 1, none⟩ = some (.int .u64 r.fr) := fun w' hs => keepC hs HRg2.out.1
            have y1 : ∀ w', St w2 w' → w'.cell? ⟨b9, off + k * 6 + 1 + 1, none⟩ = some (.int .u64 r.to) := fun w' hs => keepC hs HRg2.out.2.1
            have y2 : ∀ w', St w2 w' → w'.cell? ⟨b9, off + k * 6 + 1 + 2, none⟩ = some (.int .u8 r.pr) := fun w' hs => keepC hs HRg2.out.2.2.1
            have y3 : ∀ w', St w2 w' → w'.cell? ⟨b9, off + k * 6 + 1 + 3, none⟩ = some (.int .i64 r.ino) := fun w' hs => keepC hs HRg2.out.2.2.2.1
            have y4 : ∀ w', St w2 w' → w'.cell? ⟨b9, off + k * 6 + 1 + 4, none⟩ = some (.int .u64 r.off) := fun w' hs => keepC hs HRg2.out.2.2.2.2
            have yd : ∀ w', St w2 w' → w'.cell? ⟨b9, off + k * 6, none⟩ = some (.int .i64 2) := fun w' hs => keepC hs HDo2.out
            have z0 : ∀ w', St w2 w' → w'.cell? ⟨wr.heap.size, 0, none⟩ = some (.int .u64 r.fr) := fun w' hs => keepC hs HZ2.out.c5.1
            have z1 : ∀ w', St w2 w' → w'.cell? ⟨wr.heap.size, 1, none⟩ = some (.int .u64 r.to) := fun w' hs => keepC hs HZ2.out.c5.2.1
            have z2 : ∀ w', St w2 w' → w'.cell? ⟨wr.heap.size, 2, none⟩ = some (.int .u8 r.pr) := fun w' hs => keepC hs HZ2.out.c5.2.2.1
            have z3 : ∀ w', St w2 w' → w'.cell? ⟨wr.heap.size, 3, none⟩ = some (.int .i64 r.ino) := fun w' hs => keepC hs HZ2.out.c5.2.2.2.1
            have z4 : ∀ w', St w2 w' → w'.cell? ⟨wr.heap.size, 4, none⟩ = some (.int .u64 r.off) := fun w' hs => keepC hs HZ2.out.c5.2.2.2.2
            clear hNow2 hcf hrt
            go_wp2_with fail
            go_region_held3 (St w2) (first | exact St.drew _ | exact St.step (by assumption) hbx | assumption) (first | (go_at_call 14; with_reducible refine ((C1.out _ (by assumption)).mono ?_); rintro e' wx ⟨rfl, hbx⟩; have HK1 : Hid (St w2 wx) := hid (St.step (by assumption) hbx)) | (go_at_call 30; with_reducible refine ((C2.out _ (by assumption)).mono ?_); rintro e' wy ⟨v2, ts, rfl, ho2, hts, htl, hbx⟩; have HK2 : Hid (St w2 wy) := hid (St.step (by assumption) hbx); obtain ⟨ta, tc, rfl, hnum⟩ := own_nums ho2; have HT2 := hid hnum; have HTL := hid htl; clear ho2 hts hnum htl) | (go_at_call 29; go_must (refine ((C3.out _ ta ts tc HK2.out HT2.out HTL.out).mono ?_)); rintro e' wz ⟨rfl, hbx⟩; have HK3 : Hid (St w2 wz) := hid (St.step HK2.out hbx)))
            clear y0 y1 y2 y3 y4 yd z0 z1 z2 z3 z4
            go_wp2_with fail
            go_roundw
            case rel => exact ⟨_, k + 1, O.length, c2, a2, O, rfl, rfl, by omega, by go_num, HO2.out.below HK3.out, HNil2.out, HNow2.out, bthen HB2.out HK3.out⟩
            case measure => simp [intOf]; omega
          · have hO := HM.out.no hE
            subst hO
            have q1 : (E != 0) = true := by simpa using hE
            go_wp2_with fail
            go_roundw
            case rel => exact ⟨_, k + 1, n, c, av, N, rfl, rfl, by omega, by go_num, HN2.out, HC.out, HNow.out, HB2.out⟩
            case measure => simp [intOf]; omega
        · by_cases hd3 : d = 3
          · subst hd3
            have HM : Hid (Comes N 3 r (proE N r.fr r.to r.pr) (proL N r.fr r.to r.pr)) := hid ⟨fun h => pro_cf HNow.out HRok.out h, fun h => pro_no h⟩
            go_wp2_with fail
            refine (protect_any av n c N r.fr r.to r.pr _ HN1.out (by omega) HNow.out.2 HRok.out.f0 HRok.out.t0).mono ?_
            rintro e' w2 ⟨v, rfl, ho, hb⟩
            generalize proE N r.fr r.to r.pr = E at *
            generalize proL N r.fr r.to r.pr = O at *
            obtain ⟨a2, c2, rfl, hrg2, hnil2, _⟩ := own_rgs ho
            have HO2 := hid hrg2
            have HNil2 := hid (fun h => (hnil2 h).1)
            have HN2 := hid (HN1.out.below hb)
            have HB2 := hid (bthen HB1.out hb)
            have HZ2 := hid (HZ.out.bel hb)
            have HRg2 := hid (HRg1.out.below hb)
            have HDo2 := hid (keepC hb HDo1.out)
            clear ho hrg2 hnil2 hb y0 y1 y2 y3 y4 z0 z1 z2 z3 z4 hlz hdo hdo1 hlb9
            by_cases hE : E = 0
            · subst hE
              obtain ⟨hNow2, hcf⟩ := HM.out.yes rfl
              have HNow2 := hid hNow2
              have hO64 : O.length ≤ 64 := right_len hNow2.1
              have hrt := hNow2.1
              have C1 := hid (fun (w' : World) (h : St w2 w') => (show Calls Try.prog 14 #[.slice a2 O.length c2] w' (fun e w'' => e = .returned (.bool true) ∧ Below w'.heap.size w' w'') from by
                have := right_any a2 O.length c2 O w' (HO2.out.below h) (by omega) HNow2.out.2
                rw [hrt] at this
                exact this))
              have C2 := hid (fun (w' : World) (h : St w2 w') => edges_any av a2 n O.length c c2 N O r w' (HN2.out.below h) (HO2.out.below h) HC.out HNil2.out hn64 hO64 HNow.out.2 HNow2.out.2 HRok.out)
              have C3 := hid (fun (w' : World) (ta : Option Addr) (ts : List Int) (tc : Nat) (h : St w2 w') (hT : Nums w' .u64 ta ts.length ts) (hl : ts.length ≤ 2000) => fits_any av a2 ta n O.length ts.length c c2 tc N O 3 r ts w' (HN2.out.below h) (HO2.out.below h) hT hn64 hO64 hl (by omega) (fun t _ => hcf t))
              have y0 : ∀ w', St w2 w' → w'.cell? ⟨b9, off + k * 6 + 1, none⟩ = some (.int .u64 r.fr) := fun w' hs => keepC hs HRg2.out.1
              have y1 : ∀ w', St w2 w' → w'.cell? ⟨b9, off + k * 6 + 1 + 1, none⟩ = some (.int .u64 r.to) := fun w' hs => keepC hs HRg2.out.2.1
              have y2 : ∀ w', St w2 w' → w'.cell? ⟨b9, off + k * 6 + 1 + 2, none⟩ = some (.int .u8 r.pr) := fun w' hs => keepC hs HRg2.out.2.2.1
              have y3 : ∀ w', St w2 w' → w'.cell? ⟨b9, off + k * 6 + 1 + 3, none⟩ = some (.int .i64 r.ino) := fun w' hs => keepC hs HRg2.out.2.2.2.1
              have y4 : ∀ w', St w2 w' → w'.cell? ⟨b9, off + k * 6 + 1 + 4, none⟩ = some (.int .u64 r.off) := fun w' hs => keepC hs HRg2.out.2.2.2.2
              have yd : ∀ w', St w2 w' → w'.cell? ⟨b9, off + k * 6, none⟩ = some (.int .i64 3) := fun w' hs => keepC hs HDo2.out
              have z0 : ∀ w', St w2 w' → w'.cell? ⟨wr.heap.size, 0, none⟩ = some (.int .u64 r.fr) := fun w' hs => keepC hs HZ2.out.c5.1
              have z1 : ∀ w', St w2 w' → w'.cell? ⟨wr.heap.size, 1, none⟩ = some (.int .u64 r.to) := fun w' hs => keepC hs HZ2.out.c5.2.1
              have z2 : ∀ w', St w2 w' → w'.cell? ⟨wr.heap.size, 2, none⟩ = some (.int .u8 r.pr) := fun w' hs => keepC hs HZ2.out.c5.2.2.1
              have z3 : ∀ w', St w2 w' → w'.cell? ⟨wr.heap.size, 3, none⟩ = some (.int .i64 r.ino) := fun w' hs => keepC hs HZ2.out.c5.2.2.2.1
              have z4 : ∀ w', St w2 w' → w'.cell? ⟨wr.heap.size, 4, none⟩ = some (.int .u64 r.off) := fun w' hs => keepC hs HZ2.out.c5.2.2.2.2
              clear hNow2 hcf hrt
              go_wp2_with fail
              go_region_held3 (St w2) (first | exact St.drew _ | exact St.step (by assumption) hbx | assumption) (first | (go_at_call 14; with_reducible refine ((C1.out _ (by assumption)).mono ?_); rintro e' wx ⟨rfl, hbx⟩; have HK1 : Hid (St w2 wx) := hid (St.step (by assumption) hbx)) | (go_at_call 30; with_reducible refine ((C2.out _ (by assumption)).mono ?_); rintro e' wy ⟨v2, ts, rfl, ho2, hts, htl, hbx⟩; have HK2 : Hid (St w2 wy) := hid (St.step (by assumption) hbx); obtain ⟨ta, tc, rfl, hnum⟩ := own_nums ho2; have HT2 := hid hnum; have HTL := hid htl; clear ho2 hts hnum htl) | (go_at_call 29; go_must (refine ((C3.out _ ta ts tc HK2.out HT2.out HTL.out).mono ?_)); rintro e' wz ⟨rfl, hbx⟩; have HK3 : Hid (St w2 wz) := hid (St.step HK2.out hbx)))
              clear y0 y1 y2 y3 y4 yd z0 z1 z2 z3 z4
              go_wp2_with fail
              go_roundw
              case rel => exact ⟨_, k + 1, O.length, c2, a2, O, rfl, rfl, by omega, by go_num, HO2.out.below HK3.out, HNil2.out, HNow2.out, bthen HB2.out HK3.out⟩
              case measure => simp [intOf]; omega
            · have hO := HM.out.no hE
              subst hO
              have q1 : (E != 0) = true := by simpa using hE
              go_wp2_with fail
              go_roundw
              case rel => exact ⟨_, k + 1, n, c, av, N, rfl, rfl, by omega, by go_num, HN2.out, HC.out, HNow.out, HB2.out⟩
              case measure => simp [intOf]; omega
          · have q1 : (d == 1) = false := by simpa using hd
            have q2 : (d == 2) = false := by simpa using hd2
            have q3 : (d == 3) = false := by simpa using hd3
            clear hd hd2 hd3
            go_wp2_with fail
            go_roundw
            case rel => exact ⟨_, k + 1, n, c, av, N, rfl, rfl, by omega, by go_num, HN1.out, HC.out, HNow.out, HB1.out⟩
            case measure => simp [intOf]; omega
    · by_cases h1 : k < len
      · have h2 : ¬ k < 30 := fun h => hlt ⟨h1, h⟩
        have d1 : decide ((k : Int) < (len : Int)) = true := by simp; omega
        have d1n : decide (k < len) = true := by simp; omega
        have d2 : decide ((k : Int) < 30) = false := by simp; omega
        have d2n : decide (k < 30) = false := by simp; omega
        clear hlt hN hc hnow hb
        go_wp2_with (go_at_call 10; refine (works_any _).mono ?_; rintro e' w' ⟨rfl, hw⟩)
        go_ret
        exact ⟨rfl, bthen HB.out hw⟩
      · have d1 : decide ((k : Int) < (len : Int)) = false := by simp; omega
        have d1n : decide (k < len) = false := by simp; omega
        clear hlt hN hc hnow hb
        go_wp2_with (go_at_call 10; refine (works_any _).mono ?_; rintro e' w' ⟨rfl, hw⟩)
        go_ret
        exact ⟨rfl, bthen HB.out hw⟩
end Go.Proofs.Ytcafmhhfnleanaa
