
/- hostellaw07.begun, alike; FramesNews: the walk. -/
import Derived.Test.YtllkeeeajlgkpaaDoorJM
namespace Go.Proofs.YtllkeeeajlgkpaaDoor
open Go.RowKit Go.Sort

/-- The program's pool and the reference's, side by side. -/
structure Both (w0 w : World) (p g h q a b : Nat) (fs : List FR) (ws : List Nat) (vs : List Value) : Prop where
  pl : Pl w p g h fs ws
  rp : RP w q a b (fs.map (·.cnt)) vs
  gB : w0.heap.size ≤ g
  hB : w0.heap.size ≤ h
  aB : w0.heap.size ≤ a
  bB : w0.heap.size ≤ b
  below : Below w0.heap.size w0 w

theorem begun_any (n : Nat) (w : World) (h1 : 1 ≤ n) (h2 : n ≤ 1024) :
    Calls Tryd.prog 6 #[.int .i64 (n : Int)] w fun e w' => ∃ p g h q a b ws, e = .returned (.tuple #[.pointer (some ⟨p, 0, none⟩), .pointer (some ⟨q, 0, none⟩), .bool true]) ∧ Both w w' p g h q a b (List.replicate n fr0) ws (sZ n) := by
  go_enter Tryd.func6, Tryd.ntmps6
  go_wp2_with fail
  refine (new_any n w h1 h2).mono ?_
  rintro e' w1 ⟨p, g, h, ws, rfl, hpl, hp, hg, hh, hb⟩
  have HP := hid hpl
  have HB := hid hb
  have hs := hb.size
  clear hpl hb
  go_wp2_with fail
  refine (rnew_any n w1 h1 h2).mono ?_
  rintro e' w2 ⟨q, a, b, rfl, hrp, hq, ha, hb', hb⟩
  have HP2 := hid (HP.out.below hb)
  have HB2 := hid (bthen HB.out hb)
  have HR := hid (show RP w2 q a b ((List.replicate n fr0).map (·.cnt)) (sZ n) by rw [List.map_replicate]; exact hrp)
  clear hrp hb
  go_wp2_with fail
  refine bodyPost_ret (v := .tuple #[.pointer (some ⟨p, 0, none⟩), .pointer (some ⟨q, 0, none⟩), .bool true]) (by simp [results, Tryd.results6, go_sem]) rfl ?_
  exact ⟨p, g, h, q, a, b, ws, rfl, HP2.out, HR.out, by omega, by omega, by omega, by omega, HB2.out⟩
theorem begun_no (n : Int) (w : World) (hn : ¬ (1 ≤ n ∧ n ≤ 1024)) :
    Calls Tryd.prog 6 #[.int .i64 n] w fun e w' => e = .returned (.tuple #[.pointer none, .pointer none, .bool true]) ∧ w = w' := by
  have H1 := hid (new_no n w hn)
  have H2 := hid (rnew_no n w hn)
  clear hn
  go_enter Tryd.func6, Tryd.ntmps6
  go_wp2_with fail
  refine (H1.out).mono ?_
  rintro e' w1 ⟨rfl, rfl⟩
  go_wp2_with fail
  refine (H2.out).mono ?_
  rintro e' w2 ⟨rfl, rfl⟩
  go_wp2_with fail
  exact bodyPost_ret (v := .tuple #[.pointer none, .pointer none, .bool true]) (by simp [results, Tryd.results6, go_sem]) rfl ⟨rfl, rfl⟩

set_option maxHeartbeats 1000000 in
theorem alike_any (p g h q a b : Nat) (fs : List FR) (ws : List Nat) (vs : List Value) (w : World) (hP : Pl w p g h fs ws) (hR : RP w q a b (fs.map (·.cnt)) vs) :
    Calls Tryd.prog 8 #[.pointer (some ⟨p, 0, none⟩), .pointer (some ⟨q, 0, none⟩)] w fun e w' => e = .returned (.bool true) ∧ w = w' := by
  have HF := hid (free_any p g h fs ws w hP)
  have HS := hid (size_any p g h fs ws w hP)
  have HC := hid (fun f => count_any p g h fs ws f w hP)
  have HRF := hid (rfree_any q a b _ vs w hR)
  have HRS := hid (rsize_any q a b _ vs w hR)
  have HRC := hid (fun f => show Calls Tryd.prog 31 #[.pointer (some ⟨q, 0, none⟩), .int .i64 f] w (fun e w' => e = .returned (.int .i64 (cntF fs f)) ∧ w = w') by
    have := rcount_any q a b _ vs f w hR
    rw [rcnt_map] at this
    exact this)
  rw [rfree_map] at HRF
  rw [List.length_map] at HRS
  have hn := hP.n2
  clear hP hR
  generalize freeN fs = N at *
  go_enter Tryd.func8, Tryd.ntmps8
  go_wp2_with (first | (go_at_call 13; refine (HF.out).mono ?_; rintro e' w' ⟨rfl, rfl⟩) | (go_at_call 29; refine (HRF.out).mono ?_; rintro e' w' ⟨rfl, rfl⟩) | (go_at_call 14; refine (HS.out).mono ?_; rintro e' w' ⟨rfl, rfl⟩) | (go_at_call 30; refine (HRS.out).mono ?_; rintro e' w' ⟨rfl, rfl⟩))
  go_loopw [5] (fun i wr => ∃ k : Nat, k ≤ fs.length + 2 ∧ i = .int .i64 ((k : Int) - 1) ∧ wr = w) (fun i _ => (fs.length + 1 - intOf i).toNat)
  case atStart => exact ⟨0, Nat.zero_le _, rfl, rfl⟩
  case round =>
    obtain ⟨k, hk, rfl, rfl⟩ := hrel
    generalize hf : (k : Int) - 1 = f at *
    have hf0 : -1 ≤ f := by omega
    have hf1 : f ≤ (fs.length : Int) + 1 := by omega
    have HK := hid (show f = (k : Int) - 1 from hf.symm)
    have HC1 := hid (HC.out f)
    have HR1 := hid (HRC.out f)
    generalize cntF fs f = c at *
    clear hf
    by_cases hlt : f ≤ (fs.length : Int)
    · have d1 : decide (f ≤ (fs.length : Int)) = true := by simp; omega
      have ew := IntWalk.wrap64_in (f + 1) ⟨by omega, by omega⟩
      go_wp2_with (first | (go_at_call 12; refine (HC1.out).mono ?_; rintro e' w' ⟨rfl, rfl⟩) | (go_at_call 31; refine (HR1.out).mono ?_; rintro e' w' ⟨rfl, rfl⟩) | (go_at_call 30; refine (HRS.out).mono ?_; rintro e' w' ⟨rfl, rfl⟩))
      clear ew
      go_roundw
      case rel => exact ⟨k + 1, by have := HK.out; omega, by rw [HK.out]; congr 1; omega, by trivial⟩
      case measure => simp [intOf]; omega
    · have d1 : decide (f ≤ (fs.length : Int)) = false := by simp; omega
      go_wp2_with (go_at_call 30; refine (HRS.out).mono ?_; rintro e' w' ⟨rfl, rfl⟩)
      go_ret
      exact ⟨rfl, rfl⟩

end Go.Proofs.YtllkeeeajlgkpaaDoor
