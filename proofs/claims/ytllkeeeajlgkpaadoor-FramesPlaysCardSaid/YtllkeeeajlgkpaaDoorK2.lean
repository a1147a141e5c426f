
/- hostellaw07.does at every kind, whole; FramesPlays: the walk. -/
import Derived.Test.YtllkeeeajlgkpaaDoorK1
namespace Go.Proofs.YtllkeeeajlgkpaaDoor
open Go.RowKit Go.Sort

theorem does_any (w0 w : World) (n : Nat) (K : Int) (p g h q a b : Nat) (fs : List FR) (ws : List Nat) (vs : List Value) (Ls : List (List Int)) (x : OP) (hT : Tb w0) (HM : Md w0 w n K p g h q a b fs fs ws vs Ls) (hok : OPok w0 x) (hbn : x.bn ≤ 16384) (hK0 : 0 ≤ K) (hK1 : K < 9223372036854775807) :
    Calls Tryd.prog 7 #[.pointer (some ⟨p, 0, none⟩), .pointer (some ⟨q, 0, none⟩), opV x] w fun e w' => e = .returned (.bool true) ∧ Mds w0 w' n (K + 1) p g h q a b := by
  by_cases h0 : x.kind = 0
  · exact does_take w0 w n K p g h q a b fs ws vs Ls x hT HM hK0 h0
  by_cases h1 : x.kind = 1
  · exact does_up w0 w n K p g h q a b fs ws vs Ls x hT HM hK0 hK1 h1
  by_cases h2 : x.kind = 2
  · exact does_down w0 w n K p g h q a b fs ws vs Ls x hT HM hK0 hK1 h2
  by_cases h3 : x.kind = 3
  · exact does_load w0 w n K p g h q a b fs ws vs Ls x HM h3
  by_cases h4 : x.kind = 4
  · exact does_store w0 w n K p g h q a b fs ws vs Ls x HM hok hbn hK0 h4
  by_cases h5 : x.kind = 5
  · exact does_copy w0 w n K p g h q a b fs ws vs Ls x hT HM hK0 h5
  exact does_not w0 w n K p g h q a b fs ws vs Ls x HM ⟨h0, h1, h2, h3, h4, h5⟩

theorem load_len (fs : List FR) (hok : FsOk fs) (f off n : Int) : (loadL fs f off n).length ≤ 4096 := by
  unfold loadL
  split
  · split
    case isFalse => simp
    rw [List.length_take, List.length_drop]
    by_cases c : f.toNat < fs.length
    · have := hok _ (List.getElem_mem c)
      rw [getF_at _ _ _ c]; omega
    · rw [List.getD_eq_getElem?_getD, List.getElem?_eq_none (by omega)]
      show min _ (([] : List Int).length - _) ≤ _
      simp
  · simp

set_option maxRecDepth 100000 in
set_option maxHeartbeats 4000000 in
theorem whole_any (w0 w : World) (n : Nat) (K : Int) (p g h q a b : Nat) (fs : List FR) (ws : List Nat) (vs : List Value) (Ls : List (List Int)) (HM : Md w0 w n K p g h q a b fs fs ws vs Ls) :
    Calls Tryd.prog 9 #[.pointer (some ⟨p, 0, none⟩), .pointer (some ⟨q, 0, none⟩)] w fun e w' => e = .returned (.bool true) ∧ Below w.heap.size w w' := by
  have HM0 := hid HM
  have hn2 : fs.length ≤ 1024 := HM.pd.pl.n2
  have HCL := hid (show (cnts fs).length = fs.length from List.length_map _)
  clear HM
  go_enter Tryd.func9, Tryd.ntmps9
  go_wp2_with fail
  go_loopw [5] (fun i wr => ∃ k : Nat, k ≤ fs.length ∧ i = .int .i64 k ∧ Below w.heap.size w wr) (fun i _ => fs.length - (intOf i).toNat)
  case atStart => exact ⟨0, Nat.zero_le _, rfl, Below.refl _ _⟩
  case round =>
    obtain ⟨k, hk, rfl, hb⟩ := hrel
    have HB := hid hb
    have HM := hid (HM0.out.still hb)
    have HS := hid (rsize_any q a b (cnts fs) vs wr HM.out.rs.rp)
    rw [HCL.out] at HS
    have HL := hid (load_any p g h fs ws (k : Int) 0 4096 wr HM.out.pd.pl)
    have hll := load_len fs HM.out.ok (k : Int) 0 4096
    clear hb
    by_cases hlt : k < fs.length
    · have d1 : decide ((k : Int) < (fs.length : Int)) = true := by simp; omega
      have d1n : decide (k < fs.length) = true := by simp; omega
      go_wp2_with (go_at_call 30; refine (HS.out).mono ?_; rintro e' w' ⟨rfl, rfl⟩)
      refine (HL.out).mono ?_
      rintro e' w2 ⟨v, rfl, hv, hb⟩
      have HM2 := hid (HM.out.still hb)
      have HB2 := hid (bthen HB.out hb)
      have HV := hid hv
      clear hv hb
      go_wp2_with fail
      refine (rload_any w0.heap.size q a b fs vs Ls (k : Int) 0 4096 w2 HM2.out.rs HM2.out.ok HM2.out.h0 HM2.out.hd).mono ?_
      rintro e' w3 ⟨v2, rfl, hv, hb⟩
      have HB3 := hid (bthen HB2.out hb)
      have HV3 := hid (own_below HV.out hb)
      obtain ⟨ta, tc, rfl, hn1⟩ := own_nums HV3.out
      obtain ⟨ua, uc, rfl, hn2'⟩ := own_nums hv
      have HSM := hid (same_any ta ua _ tc uc _ w3 hn1 hn2' (by omega))
      clear hv hb hn1 hn2'
      generalize (loadL fs (k : Int) 0 4096) = L at *
      generalize loadE fs (k : Int) 0 4096 = le at *
      go_wp2_with (go_at_call 23; refine (HSM.out).mono ?_; rintro e' w4 ⟨rfl, nk, rfl⟩)
      go_roundw
      case rel => exact ⟨k + 1, by omega, by go_num, bdN HB3.out _⟩
      case measure => simp [intOf]; omega
    · have d1 : decide ((k : Int) < (fs.length : Int)) = false := by simp; omega
      have d1n : decide (k < fs.length) = false := by simp; omega
      go_wp2_with (go_at_call 30; refine (HS.out).mono ?_; rintro e' w' ⟨rfl, rfl⟩)
      go_ret
      exact ⟨rfl, HB.out⟩

set_option maxRecDepth 100000 in
set_option maxHeartbeats 4000000 in
theorem framesPlays_walk (n : Int) (a : Option Addr) (len cap : Nat) (fo : Nat → OP) (w : World) (hT : Tb w) (hA : OpsIn w a len fo) (hm : len ≤ 9223372036854775807) :
    Calls Tryd.prog 3 #[.int .i64 n, .slice a len cap] w fun e w' => e = .returned (.bool true) ∧ Below w.heap.size w w' := by
  have HT := hid hT
  have HA := hid hA
  have HV := hid (vast_any a len cap fo w hA hm)
  clear hT hA
  go_enter Tryd.func3, Tryd.ntmps3
  go_wp2_with fail
  refine (HV.out).mono ?_
  rintro e' w' ⟨b, rfl, hv, rfl⟩
  cases b with
  | true =>
    clear hv
    go_wp2_with (go_at_call 5; refine (works_any _ HT.out).mono ?_; rintro e' w' ⟨rfl, hw⟩)
    go_ret
    exact ⟨rfl, hw⟩
  | false =>
    obtain ⟨h3, hbn⟩ := hv rfl
    have HBN := hid hbn
    clear hv hbn HV
    by_cases hn : 1 ≤ n ∧ n ≤ 1024
    case neg =>
      have HBG := hid (begun_no n w hn)
      clear hn
      go_wp2_with fail
      refine (HBG.out).mono ?_
      rintro e' w1 ⟨rfl, rfl⟩
      go_wp2_with (go_at_call 5; refine (works_any _ HT.out).mono ?_; rintro e' w' ⟨rfl, hw⟩)
      go_ret
      exact ⟨rfl, hw⟩
    obtain ⟨m, rfl⟩ := Int.eq_ofNat_of_zero_le (show 0 ≤ n by omega)
    have HBG := hid (begunR_any m w (by omega) (by omega))
    clear hn
    go_wp2_with fail
    refine (HBG.out).mono ?_
    rintro e' w1 ⟨p, g, h, q, ra, rb, ws, rfl, hM⟩
    have HM0 := hid (show Mds w w1 m ((0 : Nat) : Int) p g h q ra rb from ⟨_, _, _, _, hM⟩)
    clear hM HBG
    go_wp2_with fail
    go_loopw [8] (fun i wr => ∃ k : Nat, k ≤ len ∧ i = .int .i64 k ∧ Mds w wr m (k : Int) p g h q ra rb) (fun i _ => len - (intOf i).toNat)
    case atStart => exact ⟨0, Nat.zero_le _, rfl, HM0.out⟩
    case round =>
      obtain ⟨k, hk, rfl, fs, ws2, vs, Ls, hM⟩ := hrel
      have HM := hid hM
      clear hM
      by_cases hlt : k < len
      · have d1 : decide ((k : Int) < (len : Int)) = true := by simp; omega
        have d1n : decide (k < len) = true := by simp; omega
        obtain ⟨hok, b9, off, rfl, y0, y1, y2, y3, y4⟩ := (HA.out.below HM.out.pd.below) k hlt
        have hlb9 := World.block_lt_of_cell? _ _ y0
        have hbn := HBN.out k hlt
        have HDO := hid (does_any w wr m (k : Int) p g h q ra rb fs ws2 vs Ls (fo k) HT.out HM.out (HA.out k hlt).1 hbn (by omega) (by omega))
        clear hok
        generalize fo k = x at *
        have ez : (0 : Int) ≤ (k : Int) := by omega
        have eb : (k : Int) < (len : Int) := by omega
        go_wp2_with fail
        refine (HDO.out).mono ?_
        rintro e' w2 ⟨rfl, fs3, ws3, vs3, Ls3, hM3⟩
        have HM3 := hid hM3
        clear hM3 y0 y1 y2 y3 y4 hlb9
        go_wp2_with (go_at_call 8; refine (alike_any p g h q ra rb fs3 ws3 vs3 w2 HM3.out.pd.pl HM3.out.rs.rp).mono ?_; rintro e' w' ⟨rfl, rfl⟩)
        go_roundw
        case rel => exact ⟨k + 1, by omega, by go_num, fs3, ws3, vs3, Ls3, HM3.out⟩
        case measure => simp [intOf]; omega
      · have d1 : decide ((k : Int) < (len : Int)) = false := by simp; omega
        have d1n : decide (k < len) = false := by simp; omega
        have HW := hid (whole_any w wr m _ p g h q ra rb fs ws2 vs Ls HM.out)
        go_wp2_with fail
        refine (HW.out).mono ?_
        rintro e' w2 ⟨rfl, hb⟩
        go_wp2_with fail
        go_ret
        exact ⟨rfl, bthen HM.out.pd.below hb⟩
end Go.Proofs.YtllkeeeajlgkpaaDoor
