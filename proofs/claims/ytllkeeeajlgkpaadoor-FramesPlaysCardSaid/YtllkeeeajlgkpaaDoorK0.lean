
/- hostellaw07.does: Load. -/
import Derived.Test.YtllkeeeajlgkpaaDoorJZ
import Derived.Test.YtllkeeeajlgkpaaDoorJL
namespace Go.Proofs.YtllkeeeajlgkpaaDoor
open Go.RowKit Go.Sort

set_option maxRecDepth 100000 in
set_option maxHeartbeats 4000000 in
theorem does_load (w0 w : World) (n : Nat) (K : Int) (p g h q a b : Nat) (fs : List FR) (ws : List Nat) (vs : List Value) (Ls : List (List Int)) (x : OP) (HM : Md w0 w n K p g h q a b fs fs ws vs Ls) (hx0 : x.kind = 3) :
    Calls Tryd.prog 7 #[.pointer (some ⟨p, 0, none⟩), .pointer (some ⟨q, 0, none⟩), opV x] w fun e w' => e = .returned (.bool true) ∧ Mds w0 w' n (K + 1) p g h q a b := by
  have HO1 := hid (show Row (w.alloc (.cells (opA x) 32)) w.heap.size 32 (opC x) from Row.new w 32 (opC x))
  have HM1 := hid (HM.still (bal (.cells (opA x) 32)))
  have H0 := hid HM.h0
  have hll : (loadL fs x.f x.off x.n).length ≤ 4096 := by
    unfold loadL
    split
    · split
      case isFalse => simp
      rw [List.length_take, List.length_drop]
      by_cases c : x.f.toNat < fs.length
      · have := HM.ok _ (List.getElem_mem c)
        rw [getF_at _ _ _ c]; omega
      · rw [List.getD_eq_getElem?_getD, List.getElem?_eq_none (by omega)]
        show min _ (([] : List Int).length - _) ≤ _
        simp
    · simp
  have HBD := hid HM.pd.bd
  obtain ⟨x0, x1, x2, x3, x4⟩ := HO1.out.o5
  have hlx := HO1.out.lt
  rw [hx0] at x0
  clear HM hx0
  go_enter Tryd.func7, Tryd.ntmps7
  go_wp2_with fail
  clear x0
  generalize hW : World.alloc w _ = W at *
  clear hW
  refine (load_any p g h fs ws x.f x.off x.n W HM1.out.pd.pl).mono ?_
  rintro e' w2 ⟨v, rfl, hv, hb⟩
  have HM2 := hid (HM1.out.still hb)
  have HO2 := hid (HO1.out.below hb HO1.out.lt)
  have HV := hid hv
  have HB2 := hid hb
  obtain ⟨y0, y1, y2, y3, y4⟩ := HO2.out.o5
  clear hv hb y0 x1 x2 x3 x4 hlx
  go_wp2_with fail
  refine (rload_any w0.heap.size q a b fs vs Ls x.f x.off x.n w2 HM2.out.rs HM2.out.ok H0.out HM2.out.hd).mono ?_
  rintro e' w3 ⟨v2, rfl, hv, hb⟩
  have HB3 := hid (HB2.out.trans (hb.mono HB2.out.size))
  have HV3 := hid (own_below HV.out hb)
  obtain ⟨ta, tc, rfl, hn1⟩ := own_nums HV3.out
  obtain ⟨ua, uc, rfl, hn2⟩ := own_nums hv
  have HSM := hid (same_any ta ua _ tc uc _ w3 hn1 hn2 (by omega))
  clear hv hb hn1 hn2 y1 y2 y3 y4
  generalize hL : (loadL fs x.f x.off x.n) = L at *
  generalize loadE fs x.f x.off x.n = le at *
  clear hL
  go_wp2_with (go_at_call 23; refine (HSM.out).mono ?_; rintro e' w4 ⟨rfl, nk, rfl⟩)
  go_loopw [18] (fun i wr => ∃ (k : Nat) (cs : List Value), k ≤ L.length ∧ i = .int .i64 k ∧ wr.ownsRow W.heap.size 5 1 (.slice ta L.length tc) L.length cs ∧ Below W.heap.size W wr) (fun i _ => L.length - (intOf i).toNat)
  case atStart => exact ⟨0, _, Nat.zero_le _, rfl, own_below HV3.out (bdN (Below.refl _ w3) nk), bdN HB3.out _⟩
  case round =>
    obtain ⟨k, cs, hk, rfl, ho, hb⟩ := hrel
    have HO := hid ho
    have HB := hid hb
    clear hb
    by_cases hlt : k < L.length
    · have d1 : decide ((k : Int) < (L.length : Int)) = true := by simp; omega
      have d1n : decide (k < L.length) = true := by simp; omega
      obtain ⟨G, c9, e9, _, hG, hlb, _⟩ := own_open ho (by omega)
      cases e9
      have HG := hid hG
      have hcl : cs.length = L.length := by have := ho.1; simpa using this
      have hx0 := ho.cellAt k (by omega)
      obtain ⟨old, hx⟩ : ∃ old, wr.cell? ⟨G, k, none⟩ = some old := ⟨_, hx0.trans (List.getElem?_eq_getElem (by omega))⟩
      clear hx0
      have hf := ho.frozenAt k
      have ez : (0 : Int) ≤ (k : Int) := by omega
      have eb : (k : Int) < (L.length : Int) := by omega
      clear ho hcl hG
      go_wp2_with fail
      go_roundw
      case rel => exact ⟨k + 1, _, by omega, by go_num, (HO.out.stored k _).1, bset HB.out HG.out _⟩
      case measure => simp [intOf]; omega
    · have d1 : decide ((k : Int) < (L.length : Int)) = false := by simp; omega
      have d1n : decide (k < L.length) = false := by simp; omega
      have HF := hid ((HM1.out.still HB.out).prog (HM1.out.still HB.out).pd.pl (Ex.refl _ _ _) ⟨bd_mono HBD.out, rfl⟩)
      clear ho
      go_wp2_with fail
      go_ret
      exact ⟨rfl, _, _, _, _, HF.out⟩
end Go.Proofs.YtllkeeeajlgkpaaDoor
