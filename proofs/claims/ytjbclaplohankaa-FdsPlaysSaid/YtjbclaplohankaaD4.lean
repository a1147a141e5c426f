/- Package fds: Sweep, Fork, List. -/
import Derived.Test.YtjbclaplohankaaD3
namespace Go.Proofs.Ytjbclaplohankaa
open Go.RowKit Go.Sort

def clr (s : SL) : SL := if s.2.2.2 then slot0 else s
def swp (ss : List SL) (k : Nat) : List SL := (ss.take k).map clr ++ ss.drop k
theorem swp_len (ss : List SL) (k : Nat) : (swp ss k).length = ss.length := by simp [swp]; omega
theorem swp_split (ss : List SL) (k : Nat) (h : k < ss.length) : swp ss k = (ss.take k).map clr ++ (ss[k] :: ss.drop (k + 1)) := by
  unfold swp
  rw [List.drop_eq_getElem_cons h]
theorem swp_at (ss : List SL) (k : Nat) (h : k < ss.length) (h2 : k < (swp ss k).length) : (swp ss k)[k] = ss[k] := by
  apply Option.some.inj
  rw [← List.getElem?_eq_getElem h2, swp_split ss k h]
  have hl : ((ss.take k).map clr).length = k := by simp; omega
  rw [List.getElem?_append_right (by omega), hl]
  simp
theorem swp_next (ss : List SL) (k : Nat) (h : k < ss.length) : swp ss (k + 1) = (ss.take k).map clr ++ (clr ss[k] :: ss.drop (k + 1)) := by
  unfold swp
  rw [List.take_succ_eq_append_getElem h, List.map_append]
  simp only [List.map_cons, List.map_nil, List.append_assoc, List.cons_append, List.nil_append]
theorem swp_no (ss : List SL) (k : Nat) (h : k < ss.length) (hc : ss[k].2.2.2 = false) : swp ss (k + 1) = swp ss k := by
  rw [swp_next ss k h, swp_split ss k h, show clr ss[k] = ss[k] by unfold clr; rw [hc]; rfl]
theorem swp_yes (ss : List SL) (k : Nat) (h : k < ss.length) (hc : ss[k].2.2.2 = true) : swp ss (k + 1) = (swp ss k).set k slot0 := by
  rw [swp_next ss k h, swp_split ss k h, show clr ss[k] = slot0 by unfold clr; rw [hc]; rfl]
  have hl : ((ss.take k).map clr).length = k := by simp; omega
  rw [List.set_append_right _ _ (by omega), hl, Nat.sub_self]
  rfl
theorem swp_all (ss : List SL) : swp ss ss.length = ss.map clr := by simp [swp]
theorem swp_zero (ss : List SL) : swp ss 0 = ss := by simp [swp]

theorem tab_grown {w w' : World} {b b2 : Nat} {T : TypeId} {ss : List SL} (h : Tab w b T ss) (hg : w.grownBy w' (some b2)) (hne : b ≠ b2) : Tab w' b T ss :=
  ⟨h.row.grown hg (by simpa using hne), h.len⟩

set_option maxHeartbeats 2000000 in
theorem sweep_any (b : Nat) (ss : List SL) (w : World) (ht : Tab w b 50 ss) :
    Calls Try.prog 18 #[.pointer (some ⟨b, 0, none⟩)] w fun e w' => e = .returned (.tuple #[]) ∧ Turn b 50 (ss.map clr) w w' := by
  have HT := hid ht
  have HH := hid ht.row.heap
  have hl16 := ht.len
  have HS := hid (show (Try.prog.info? 48).map (·.size) = some (flat ss).toArray.size by rw [sizeTab, List.size_toArray, flat_len, ht.len])
  have HI := hid (fun (k : Nat) (hk : k < ss.length) => run_idx ss ht.len k hk)
  have HSW := hid (swp_zero ss)
  clear ht
  go_enter Try.func18, Try.ntmps18
  go_wp2_with (refine wpList_load_row rfl 48 _ rfl b rfl 50 (flat ss).toArray (0, 0) _ HH.out Try.underlying48 rfl HS.out ?_)
  go_loopw [10] (fun i wr => ∃ k : Nat, k ≤ 16 ∧ i = .int .i64 k ∧ Tab wr b 50 (swp ss k) ∧ w.grownBy wr (some b)) (fun i _ => 16 - (intOf i).toNat)
  case atStart => exact ⟨0, Nat.zero_le _, rfl, by rw [HSW.out]; exact HT.out, grown_refl _ _⟩
  case round =>
    obtain ⟨k, hk, rfl, ht, hg⟩ := hrel
    have HG := hid hg
    have HTK := hid ht
    clear hg
    by_cases hlt : k < 16
    · have hd : decide ((k : Int) < 16) = true := by simp; omega
      have hks : k < ss.length := by omega
      have hidx := HI.out k hks
      have hk2 : k < (swp ss k).length := by rw [swp_len]; exact hks
      have hat := ht.at k hk2
      rw [swp_at ss k hks hk2] at hat
      obtain ⟨x0, x1, x2, x3⟩ := hat
      obtain ⟨f0, f1, f2, f3⟩ := ht.free k
      have hltb := ht.row.lt
      have HTA := hid (fun o => ht.below (bal o))
      have HGA := hid (fun o => grown_trans HG.out (grown_below (@bal wr o) (some b)))
      have HY := hid (swp_yes ss k hks)
      have HN := hid (swp_no ss k hks)
      clear ht
      generalize ss[k] = sk at *
      obtain ⟨u, n, p, c⟩ := sk
      cases c
      · have HE := hid (HN.out rfl)
        go_wp2_with fail
        go_roundw
        case rel => exact ⟨k + 1, by omega, by go_num, by rw [HE.out]; exact HTA.out _, HGA.out _⟩
        case measure => simp [intOf]; omega
      · have HE := hid (HY.out rfl)
        go_wp2_with fail
        go_roundw
        case rel => exact ⟨k + 1, by omega, by go_num, by rw [HE.out]; exact (HTK.out.set k hk2 slot0).below (bal _), grown_trans (grown_set (grown_set (grown_set (grown_set HG.out _ _) _ _) _ _) _ _) (grown_below (bal _) _)⟩
        case measure => simp [intOf]; omega
    · have hd : decide ((k : Int) < 16) = false := by simp; omega
      have hdn : decide (k < 16) = false := by simp; omega
      have HE := hid (show swp ss k = ss.map clr by rw [show k = ss.length by omega]; exact swp_all ss)
      clear ht
      go_wp2_with fail
      refine bodyPost_end (results_none rfl _ _ _) rfl ⟨rfl, ?_, HG.out⟩
      rw [← HE.out]; exact HTK.out

theorem len16 (ss : List SL) (h : ss.length = 16) : ∃ a0 a1 a2 a3 a4 a5 a6 a7 a8 a9 a10 a11 a12 a13 a14 a15, ss = [a0, a1, a2, a3, a4, a5, a6, a7, a8, a9, a10, a11, a12, a13, a14, a15] := by
  match ss, h with
  | [a0, a1, a2, a3, a4, a5, a6, a7, a8, a9, a10, a11, a12, a13, a14, a15], _ => exact ⟨_, _, _, _, _, _, _, _, _, _, _, _, _, _, _, _, rfl⟩

set_option maxRecDepth 100000 in
theorem run_build (ss : List SL) (h : ss.length = 16) (w : World) : (Instr.build 50 #[(0, .agg (flat ss).toArray)]).run Try.prog w = .ok (.agg (flat ss).toArray) w := by
  obtain ⟨a0, a1, a2, a3, a4, a5, a6, a7, a8, a9, a10, a11, a12, a13, a14, a15, rfl⟩ := len16 ss h
  kernel_rfl
end Go.Proofs.Ytjbclaplohankaa
