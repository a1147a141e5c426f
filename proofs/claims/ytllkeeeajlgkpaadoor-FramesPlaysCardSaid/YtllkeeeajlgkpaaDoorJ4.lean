
/- Package frames: Free, Size, Count, taken, within. -/
import Derived.Test.YtllkeeeajlgkpaaDoorJ3
namespace Go.Proofs.YtllkeeeajlgkpaaDoor
open Go.RowKit Go.Sort

/-- How many frames are free; how often one is pointed to. -/
def freeN (fs : List FR) : Nat := fs.countP (fun x => x.cnt == 0)
def cntF (fs : List FR) (f : Int) : Int := if 0 ≤ f ∧ f < fs.length then (fs.getD f.toNat default).cnt else 0
theorem cntT_app (x : FR) : ∀ (fs : List FR), cntT (freeF (fs ++ [x])) (fs.length + 1) = cntT (freeF fs) fs.length + (if x.cnt == 0 then 1 else 0) := by
  intro fs
  unfold cntT
  rw [List.range_succ, List.countP_append]
  congr 1
  · refine List.countP_congr fun j hj => ?_
    have hj' := List.mem_range.1 hj
    unfold freeF
    rw [List.getElem?_append_left hj']
  · have : freeF (fs ++ [x]) fs.length = (x.cnt == 0) := by unfold freeF; simp
    simp [this]
theorem getF_at {α : Type} (l : List α) (d : α) (k : Nat) (h : k < l.length) : l.getD k d = l[k] := by simp [List.getD_eq_getElem?_getD, h]
theorem cntT_aux : ∀ (n : Nat) (fs : List FR), fs.length = n → cntT (freeF fs) fs.length = freeN fs
  | 0, fs, h => by
    obtain rfl := List.length_eq_zero_iff.1 h
    rfl
  | n + 1, fs, h => by
    rcases List.eq_nil_or_concat fs with rfl | ⟨init, x, rfl⟩
    · rfl
    · rw [List.concat_eq_append] at *
      have hl : init.length = n := by simpa using h
      rw [List.length_append, List.length_singleton, cntT_app, cntT_aux n init hl]
      unfold freeN
      rw [List.countP_append]
      simp
theorem cntT_len (fs : List FR) : cntT (freeF fs) fs.length = freeN fs := cntT_aux _ fs rfl
theorem cntT_more (fs : List FR) (n : Nat) (h : fs.length ≤ n) : cntT (freeF fs) n = freeN fs := by
  obtain ⟨m, rfl⟩ := Nat.exists_eq_add_of_le h
  rw [cnt_more, cntT_len]
  have : (List.range m).countP (fun j => freeF fs (fs.length + j)) = 0 := by
    rw [List.countP_eq_zero]
    intro j _
    have : freeF fs (fs.length + j) = false := by unfold freeF; simp
    simp [this]
  omega
theorem freeN_le (fs : List FR) : freeN fs ≤ fs.length := List.countP_le_length

set_option maxHeartbeats 1000000 in
theorem free_any (p g h : Nat) (fs : List FR) (ws : List Nat) (w : World) (H : Pl w p g h fs ws) :
    Calls Tryd.prog 13 #[.pointer (some ⟨p, 0, none⟩)] w fun e w' => e = .returned (.int .i64 ((freeN fs : Nat) : Int)) ∧ w = w' := by
  obtain ⟨p0, p1⟩ := H.cells
  have hlp := H.pool.lt
  have hlh := H.words.lt
  have HH := hid H
  have hwn : ws.length ≤ 16 := by have := H.wl; have := H.n2; omega
  clear H
  go_enter Tryd.func13, Tryd.ntmps13
  go_wp2_with fail
  go_loopw [3, 13] (fun m i wr => ∃ k : Nat, k ≤ ws.length ∧ i = .int .i64 k ∧ m = .int .i64 ((cntT (freeF fs) (k * 64) : Nat) : Int) ∧ cntT (freeF fs) (k * 64) ≤ k * 64 ∧ wr = w) (fun _ i _ => ws.length - (intOf i).toNat)
  case atStart => exact ⟨0, Nat.zero_le _, rfl, rfl, Nat.le_refl _, rfl⟩
  case round =>
    obtain ⟨k, hk, rfl, rfl, hle, rfl⟩ := hrel
    by_cases hlt : k < ws.length
    · have d1 : decide ((k : Int) < (ws.length : Int)) = true := by simp; omega
      have d1n : decide (k < ws.length) = true := by simp; omega
      have hc := row_word HH.out.words k hlt
      have hu := (HH.out.wb k hlt).1
      have HC := hid (cnt_word HH.out.wb k hlt)
      generalize ws[k] = u at *
      have HO := hid (ones_any u)
      have h64 := (ones_all u hu).2.2
      generalize cntT (freeF fs) (k * 64) = c at *
      generalize popc 64 u = o at *
      have ew := IntWalk.wrap64_in ((c : Int) + (o : Int)) ⟨by omega, by omega⟩
      go_wp2_with fail
      refine (HO.out _ hu).mono ?_
      rintro e' w' ⟨rfl, rfl⟩
      go_wp2_with fail
      go_roundw
      case rel => exact ⟨k + 1, by omega, by go_num, by rw [HC.out]; simp, by rw [HC.out]; omega, by trivial⟩
      case measure => simp [intOf]; omega
    · have d1 : decide ((k : Int) < (ws.length : Int)) = false := by simp; omega
      have d1n : decide (k < ws.length) = false := by simp; omega
      have HM := hid (cntT_more fs (k * 64) (by have := HH.out.wl; omega))
      go_wp2_with fail
      go_ret
      rw [HM.out]
      exact ⟨rfl, rfl⟩
theorem size_any (p g h : Nat) (fs : List FR) (ws : List Nat) (w : World) (H : Pl w p g h fs ws) :
    Calls Tryd.prog 14 #[.pointer (some ⟨p, 0, none⟩)] w fun e w' => e = .returned (.int .i64 (fs.length : Int)) ∧ w = w' := by
  obtain ⟨p0, p1⟩ := H.cells
  have hlp := H.pool.lt
  clear H
  go_enter Tryd.func14, Tryd.ntmps14
  go_wp2_with fail
  go_ret
  exact ⟨rfl, rfl⟩
theorem count_any (p g h : Nat) (fs : List FR) (ws : List Nat) (f : Int) (w : World) (H : Pl w p g h fs ws) :
    Calls Tryd.prog 12 #[.pointer (some ⟨p, 0, none⟩), .int .i64 f] w fun e w' => e = .returned (.int .i64 (cntF fs f)) ∧ w = w' := by
  obtain ⟨p0, p1⟩ := H.cells
  have hlp := H.pool.lt
  have hlg := H.frames.lt
  have hn2 := H.n2
  by_cases c0 : 0 ≤ f
  · by_cases c1 : f < fs.length
    · obtain ⟨k, rfl⟩ := Int.eq_ofNat_of_zero_le c0
      have hk : k < fs.length := by omega
      have hc := H.count k hk
      have HE := hid (show cntF fs (k : Int) = fs[k].cnt by unfold cntF; rw [if_pos ⟨c0, c1⟩, Int.toNat_natCast, getF_at _ _ _ hk])
      generalize fs[k].cnt = x at *
      have b1 : decide ((k : Int) < 0) = false := by simp
      have b2 : decide ((fs.length : Int) ≤ (k : Int)) = false := by simp; omega
      have b3 : decide (fs.length ≤ k) = false := by simp; omega
      clear H
      go_enter Tryd.func12, Tryd.ntmps12
      go_wp2_with fail
      go_ret
      rw [HE.out]
      exact ⟨rfl, rfl⟩
    · have HE := hid (show cntF fs f = 0 by unfold cntF; rw [if_neg (fun h => c1 h.2)])
      have b1 : decide (f < 0) = false := by simp; omega
      have b2 : decide ((fs.length : Int) ≤ f) = true := by simp; omega
      clear H
      go_enter Tryd.func12, Tryd.ntmps12
      go_wp2_with fail
      go_ret
      rw [HE.out]
      exact ⟨rfl, rfl⟩
  · have HE := hid (show cntF fs f = 0 by unfold cntF; rw [if_neg (fun h => c0 h.1)])
    have b1 : decide (f < 0) = true := by simp; omega
    clear H
    go_enter Tryd.func12, Tryd.ntmps12
    go_wp2_with fail
    go_ret
    rw [HE.out]
    exact ⟨rfl, rfl⟩
def takE (fs : List FR) (f : Int) : Int := if cntF fs f = 0 then 1 else 0
theorem taken_any (p g h : Nat) (fs : List FR) (ws : List Nat) (f : Int) (w : World) (H : Pl w p g h fs ws) :
    Calls Tryd.prog 36 #[.pointer (some ⟨p, 0, none⟩), .int .i64 f] w fun e w' => e = .returned (.int .i64 (takE fs f)) ∧ w = w' := by
  have HC := hid (count_any p g h fs ws f w H)
  clear H
  have HE := hid (show takE fs f = if cntF fs f = 0 then 1 else 0 from rfl)
  generalize cntF fs f = c at *
  by_cases h0 : c = 0
  · subst h0
    rw [if_pos rfl] at HE
    go_enter Tryd.func36, Tryd.ntmps36
    go_wp2_with fail
    refine (HC.out).mono ?_
    rintro e' w' ⟨rfl, rfl⟩
    go_wp2_with fail
    go_ret
    rw [HE.out]
    exact ⟨rfl, rfl⟩
  · rw [if_neg h0] at HE
    have q1 : (c == 0) = false := by simpa using h0
    go_enter Tryd.func36, Tryd.ntmps36
    go_wp2_with fail
    refine (HC.out).mono ?_
    rintro e' w' ⟨rfl, rfl⟩
    go_wp2_with fail
    go_ret
    rw [HE.out]
    exact ⟨rfl, rfl⟩
def withinB (off n : Int) : Bool := decide (0 ≤ off) && decide (0 ≤ n) && decide (off ≤ 4096) && decide (n ≤ 4096 - off)
theorem within_any (off n : Int) (w : World) :
    Calls Tryd.prog 38 #[.int .i64 off, .int .i64 n] w fun e w' => e = .returned (.bool (withinB off n)) ∧ w = w' := by
  have HE := hid (show withinB off n = (decide (0 ≤ off) && decide (0 ≤ n) && decide (off ≤ 4096) && decide (n ≤ 4096 - off)) from rfl)
  by_cases c0 : 0 ≤ off
  · by_cases c2 : off ≤ 4096
    · have ew := IntWalk.wrap64_in (4096 - off) ⟨by omega, by omega⟩
      go_enter Tryd.func38, Tryd.ntmps38
      go_wp2_with fail
      all_goals
        go_ret
        rw [HE.out]
        refine ⟨?_, rfl⟩
        simp_all <;> intros <;> omega
    · go_enter Tryd.func38, Tryd.ntmps38
      go_wp2_with fail
      all_goals
        go_ret
        rw [HE.out]
        refine ⟨?_, rfl⟩
        simp_all <;> intros <;> omega
  · go_enter Tryd.func38, Tryd.ntmps38
    go_wp2_with fail
    all_goals
      go_ret
      rw [HE.out]
      refine ⟨?_, rfl⟩
      simp_all <;> intros <;> omega
end Go.Proofs.YtllkeeeajlgkpaaDoor
