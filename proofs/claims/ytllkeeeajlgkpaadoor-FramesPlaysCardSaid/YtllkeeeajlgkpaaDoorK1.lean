
/- hostellaw07.does: Store. -/
import Derived.Test.YtllkeeeajlgkpaaDoorK0
namespace Go.Proofs.YtllkeeeajlgkpaaDoor
open Go.RowKit Go.Sort

/-- A byte stored where neither pool lies. -/
theorem Md.poke {w0 w : World} {n : Nat} {K : Int} {p g h q a b : Nat} {fs fs2 : List FR} {ws : List Nat} {vs : List Value} {Ls : List (List Int)} (H : Md w0 w n K p g h q a b fs fs2 ws vs Ls) {G : Nat} (hr : ∃ ds, Row w G 5 ds) (hG : w0.heap.size ≤ G) (hn : ∀ i (hi : i < vs.length), vs[i].ownBlock ≠ some G) (k : Nat) (u : Value) : Md w0 (w.setCell ⟨G, k, none⟩ u) n K p g h q a b fs fs2 ws vs Ls := by
  obtain ⟨ds, hr⟩ := hr
  have hx : Ex w (w.setCell ⟨G, k, none⟩ u) G G := Ex.set w G k u (.inl rfl)
  have t1 := row_tys H.pd.pl.pool hr (by decide)
  have t2 := row_tys H.pd.pl.frames hr (by decide)
  have t3 := row_tys H.pd.pl.words hr (by decide)
  have r1 := row_tys H.rs.rp.pool hr (by decide)
  have r2 := row_tys H.rs.rp.cnts hr (by decide)
  have r3 := row_tys H.rs.rp.bys hr (by decide)
  exact ⟨⟨⟨hx.row H.pd.pl.pool t1 t1, hx.row H.pd.pl.frames t2 t2, hx.row H.pd.pl.words t3 t3, H.pd.pl.ok, H.pd.pl.n1, H.pd.pl.n2, H.pd.pl.wl, H.pd.pl.wb, H.pd.pl.c0⟩, H.pd.len, H.pd.bd, H.pd.pB, H.pd.gB, H.pd.hB, bset H.pd.below hG _⟩,
    ⟨H.rs.rp.ex hx ⟨r1, r1⟩ ⟨r2, r2⟩ ⟨r3, r3⟩, H.rs.ll, fun i h1 h2 => hx.own (H.rs.own i h1 h2) (hn i h1) (hn i h1), H.rs.ap, H.rs.c0, H.rs.lim, H.rs.pB, H.rs.aB, H.rs.bB⟩, H.hd, H.ok, H.h0⟩

set_option maxRecDepth 100000 in
set_option maxHeartbeats 8000000 in
theorem does_store (w0 w : World) (n : Nat) (K : Int) (p g h q a b : Nat) (fs : List FR) (ws : List Nat) (vs : List Value) (Ls : List (List Int)) (x : OP) (HM : Md w0 w n K p g h q a b fs fs ws vs Ls) (hok : OPok w0 x) (hbn : x.bn ≤ 16384) (hK0 : 0 ≤ K) (hx0 : x.kind = 4) :
    Calls Tryd.prog 7 #[.pointer (some ⟨p, 0, none⟩), .pointer (some ⟨q, 0, none⟩), opV x] w fun e w' => e = .returned (.bool true) ∧ Mds w0 w' n (K + 1) p g h q a b := by
  have HO1 := hid (show Row (w.alloc (.cells (opA x) 32)) w.heap.size 32 (opC x) from Row.new w 32 (opC x))
  have HM1 := hid (HM.still (bal (.cells (opA x) 32)))
  have H0 := hid HM.h0
  have HOK := hid hok
  have HBD := hid (store_bd HM.pd.bd hK0 x.f x.off x.bl)
  have hbl : x.bl.length = x.bn := hok.by8.hlen
  have HBL := hid hbl
  have HBA := hid (show 0 < x.bl.length → ∀ ad, x.ba = some ad → ad.block < w0.heap.size from fun h ad e2 => by
    obtain ⟨bb, bo, e, hc⟩ := hok.by8.cell 0 h
    rw [e] at e2; cases e2
    exact World.block_lt_of_cell? _ _ hc)
  obtain ⟨x0, x1, x2, x3, x4⟩ := HO1.out.o5
  have hlx := HO1.out.lt
  rw [hx0] at x0
  clear HM hx0 hok hbl
  go_enter Tryd.func7, Tryd.ntmps7
  go_wp2_with fail
  clear x0
  generalize hW : World.alloc w _ = W at *
  clear hW
  have HTW := hid (twin_any x.ba x.bn x.bc x.bl W (HOK.out.below HM1.out.pd.below).by8 HOK.out.nil (by omega))
  rw [HBL.out] at HTW
  refine (HTW.out).mono ?_
  rintro e' w2 ⟨v, rfl, hv, hb⟩
  have HM2 := hid (HM1.out.still hb)
  have HO2 := hid (HO1.out.below hb HO1.out.lt)
  obtain ⟨ta, tc, rfl, hn1⟩ := own_nums hv
  have HV := hid hv
  have HB2 := hid hb
  have HN1 := hid hn1
  obtain ⟨y0, y1, y2, y3, y4⟩ := HO2.out.o5
  clear hv hb hn1 y0 x1 x2 x3 x4 hlx HTW
  go_wp2_with fail
  refine (store_any p g h fs ws x.f x.off ta x.bn tc x.bl w2 HM2.out.pd.pl HN1.out (by omega)).mono ?_
  rintro e' w3 ⟨rfl, hpl, hx⟩
  have HM3 := hid (HM2.out.prog hpl hx HBD.out)
  have HV3 := hid (hx.own HV.out (own_not HV.out HM2.out.pd.pl.frames (by decide)) (own_not HV.out HM2.out.pd.pl.words (by decide)))
  have HO3 := hid (hx.row HO2.out (row_tys HO2.out HM2.out.pd.pl.frames (by decide)) (row_tys HO2.out HM2.out.pd.pl.words (by decide)))
  obtain ⟨z0, z1, z2, z3, z4⟩ := HO3.out.o5
  have HX23 := hid hx.size
  clear hpl hx y1 y2 y3 y4 z0
  go_wp2_with fail
  refine (rstoreR_any w0.heap.size q a b fs vs Ls x.f x.off x.ba x.bn x.bc x.bl w3 HM3.out.rs HM3.out.ok H0.out HM3.out.hd (HOK.out.below HM3.out.pd.below).by8 HBA.out HM3.out.size (by omega)).mono ?_
  rintro e' w4 ⟨rfl, vs4, Ls4, hrs, hh, ho, hbw, ⟨X, he, hX⟩, hal⟩
  have HM4 := hid (HM3.out.refr hrs hh ho hbw)
  have HO4 := hid (ho _ _ _ HO3.out (by decide) (by decide) (by decide))
  have HV4 := hid (he.own HV3.out (own_not HV3.out HM3.out.rs.rp.cnts (by decide)) (own_not HV3.out HM3.out.rs.rp.bys (by decide)) (fun g' hg e => by
    obtain ⟨i, hi, ei⟩ := hX g' e
    have h1 := ((HM1.out.rs.own i hi (by rw [← HM1.out.rs.ll]; exact hi)).lt _ ei).2
    have h2 := own_low HV3.out (Nat.le_refl _) g' hg
    omega))
  obtain ⟨u0, u1, u2, u3, u4⟩ := HO4.out.o5
  obtain ⟨ta', tc', e9, hn4⟩ := own_nums HV4.out
  cases e9
  have HSM := hid (same_any ta x.ba x.bn tc x.bc x.bl w4 hn4 (HOK.out.below HM4.out.pd.below).by8 (by omega))
  have HNA := hid (show ∀ G, ta = some ⟨G, 0, none⟩ → ∀ i (hi : i < vs4.length), vs4[i].ownBlock ≠ some G from fun G e i hi eq => by
    have h1 := HV.out.lt G (by rw [e]; rfl)
    have h2 := HX23.out
    rcases hal i hi G eq with ⟨j, hj, ej⟩ | h
    · have h3 := ((HM1.out.rs.own j hj (by rw [← HM1.out.rs.ll]; exact hj)).lt _ ej).2
      omega
    · omega)
  clear hrs hh ho hbw he hX hal z1 z2 z3 z4 u0 u1 u2 u3 hn4
  generalize loadE fs x.f x.off x.bn = le at *
  go_wp2_with (go_at_call 23; refine (HSM.out).mono ?_; rintro e' w5 ⟨rfl, nk, rfl⟩)
  have HM5 := hid (HM4.out.still (bdN (Below.refl _ w4) nk))
  have HV5 := hid (own_below HV4.out (bdN (Below.refl _ w4) nk))
  go_loopw [23] (fun i wr => ∃ (k : Nat) (cs : List Value), k ≤ x.bn ∧ i = .int .i64 k ∧ wr.ownsRow W.heap.size 5 1 (.slice ta x.bn tc) x.bn cs ∧ Md w0 wr n (K + 1) p g h q a b (storeS fs x.f x.off x.bl) (storeS fs x.f x.off x.bl) ws vs4 Ls4) (fun i _ => x.bn - (intOf i).toNat)
  case atStart => exact ⟨0, _, Nat.zero_le _, rfl, HV5.out, HM5.out⟩
  case round =>
    obtain ⟨k, cs, hk, rfl, ho, hm⟩ := hrel
    have HO := hid ho
    have HM := hid hm
    clear hm
    by_cases hlt : k < x.bn
    · have d1 : decide ((k : Int) < (x.bn : Int)) = true := by simp; omega
      have d1n : decide (k < x.bn) = true := by simp; omega
      obtain ⟨G, c9, e9, _, hG, hlb, _⟩ := own_open ho (by omega)
      cases e9
      have HP := hid (HM.out.poke (own_blk ho G rfl) (Nat.le_trans HM1.out.size hG) (HNA.out G rfl) k (.int .u8 237))
      have hcl : cs.length = x.bn := by have := ho.1; simpa using this
      have hx0 := ho.cellAt k (by omega)
      obtain ⟨old, hx⟩ : ∃ old, wr.cell? ⟨G, k, none⟩ = some old := ⟨_, hx0.trans (List.getElem?_eq_getElem (by omega))⟩
      clear hx0
      have hf := ho.frozenAt k
      have ez : (0 : Int) ≤ (k : Int) := by omega
      have eb : (k : Int) < (x.bn : Int) := by omega
      clear ho hcl hG
      go_wp2_with fail
      go_roundw
      case rel => exact ⟨k + 1, _, by omega, by go_num, (HO.out.stored k _).1, HP.out⟩
      case measure => simp [intOf]; omega
    · have d1 : decide ((k : Int) < (x.bn : Int)) = false := by simp; omega
      have d1n : decide (k < x.bn) = false := by simp; omega
      clear ho
      go_wp2_with fail
      go_ret
      exact ⟨rfl, _, _, _, _, HM.out⟩
end Go.Proofs.YtllkeeeajlgkpaaDoor
