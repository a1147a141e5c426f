/- Package hostelref05: Open, Sweep, List, Fork. -/
import Derived.Test.YtjbclaplohankaaDS
import Derived.Deep.DeepMust
namespace Go.Proofs.Ytjbclaplohankaa
open Go.RowKit Go.Sort

theorem ff_is {ss : List SL} (hl : ss.length = 16) {j : Nat} (hj : j ≤ 16) (hu : ∀ m (h : m < ss.length), m < j → ss[m].1 = true) (he : ∀ h : j < ss.length, ss[j].1 = false) : ff ss = j := by
  unfold ff
  by_cases h : j < ss.length
  · rw [List.findIdx_eq h]
    refine ⟨by rw [he h]; rfl, fun m hm => ?_⟩
    have := hu m (by omega) hm
    simp [this]
  · have hlj : j = ss.length := by omega
    rw [hlj]
    rw [List.findIdx_eq_length]
    intro s hs
    obtain ⟨m, hm, rfl⟩ := List.getElem_of_mem hs
    have := hu m hm (by omega)
    simp [this]

set_option maxHeartbeats 2000000 in
theorem ropen_any (p q c : Nat) (ss : List SL) (ino : Int) (ce : Bool) (w : World) (ht : RTab w p q c ss) :
    Calls Try.prog 22 #[.pointer (some ⟨p, 0, none⟩), .int .i64 ino, .bool ce] w fun e w' => e = .returned (.tuple #[.int .i64 (openN ss ino), .int .i64 (openC ss ino)]) ∧ RTurn p q c (openS ss ino ce) w w' := by
  have HT := hid ht
  have hl16 := ht.tab.len
  have hpc := ht.cell
  have hlp := ht.ptr.lt
  have hlq := ht.tab.lt
  clear ht
  by_cases h : ino < 0
  · have h1 : openC ss ino = 1 := by unfold openC; rw [if_pos h]
    have HF := hid (show openN ss ino = 0 ∧ openC ss ino = 1 ∧ openS ss ino ce = ss by unfold openN openS; rw [h1]; exact ⟨rfl, rfl, rfl⟩)
    have d1 : decide (ino < 0) = true := by simp; omega
    clear h1
    go_enter Try.func22, Try.ntmps22
    go_wp2_with fail
    go_ret2
    exact ⟨by rw [HF.out.1, HF.out.2.1]; rfl, by rw [HF.out.2.2]; exact ⟨HT.out, grown_refl _ _⟩⟩
  · have d1 : decide (ino < 0) = false := by simp; omega
    have HH := hid h
    go_enter Try.func22, Try.ntmps22
    go_wp2_with fail
    go_loop [8] (fun i => ∃ j : Nat, j ≤ 16 ∧ i = .int .i64 j ∧ ∀ m (h : m < ss.length), m < j → ss[m].1 = true) (fun i => 16 - (intOf i).toNat)
    case atStart => exact ⟨0, Nat.zero_le _, rfl, fun m h hm => by omega⟩
    case round =>
      obtain ⟨j, hj, rfl, hm⟩ := hrel
      have HM := hid hm
      clear hm
      by_cases hj2 : j < 16
      · have e1 : decide ((j : Int) < 16) = true := by simp; omega
        have e2 : decide (j < 16) = true := by simp; omega
        have hjl : j < ss.length := by omega
        obtain ⟨x0, x1, x2, x3⟩ := HT.out.tab.at j hjl
        obtain ⟨f0, f1, f2, f3⟩ := HT.out.tab.free j
        cases hs : ss[j].1
        · rw [hs] at x0
          have hff : ff ss = j := ff_is hl16 hj HM.out (fun _ => hs)
          have h1 : openC ss ino = 0 := by unfold openC; rw [if_neg (Int.not_lt.2 HH.out), hff, if_neg (by omega)]
          have HF := hid (show openN ss ino = j ∧ openC ss ino = 0 ∧ openS ss ino ce = ss.set j (true, ino, 0, ce) by unfold openN openS; rw [h1, hff]; exact ⟨rfl, rfl, rfl⟩)
          clear hs h1 hff
          go_wp2_with fail
          go_ret2
          exact ⟨by rw [HF.out.1, HF.out.2.1]; rfl, by rw [HF.out.2.2]; exact ⟨HT.out.set j hjl (true, ino, 0, ce), grown_set (grown_set (grown_set (grown_set (grown_refl _ _) _ _) _ _) _ _) _ _⟩⟩
        · rw [hs] at x0
          have HM2 : Hid (∀ m (h : m < ss.length), m < j + 1 → ss[m].1 = true) := hid (fun m h hmj => by
            by_cases e : m < j
            · exact HM.out m h e
            · obtain rfl : m = j := by omega
              exact hs)
          clear hs
          go_wp2_with fail
          go_round
          case rel => exact ⟨j + 1, by omega, by go_num, HM2.out⟩
          case measure => simp [intOf]; omega
      · have e1 : decide ((j : Int) < 16) = false := by simp; omega
        have e2 : decide (j < 16) = false := by simp; omega
        obtain rfl : j = 16 := by omega
        have hff : ff ss = 16 := ff_is hl16 hj HM.out (fun h => by omega)
        have h1 : openC ss ino = 15 := by unfold openC; rw [if_neg (Int.not_lt.2 HH.out), if_pos hff]
        have HF := hid (show openN ss ino = 0 ∧ openC ss ino = 15 ∧ openS ss ino ce = ss by unfold openN openS; rw [h1]; exact ⟨rfl, rfl, rfl⟩)
        clear h1 hff
        go_wp2_with fail
        go_ret2
        exact ⟨by rw [HF.out.1, HF.out.2.1]; rfl, by rw [HF.out.2.2]; exact ⟨HT.out, grown_refl _ _⟩⟩

set_option maxHeartbeats 2000000 in
theorem rsweep_any (p q c : Nat) (ss : List SL) (w : World) (ht : RTab w p q c ss) :
    Calls Try.prog 26 #[.pointer (some ⟨p, 0, none⟩)] w fun e w' => e = .returned (.tuple #[]) ∧ RTurn p q c (ss.map clr) w w' := by
  have HT := hid ht
  have hl16 := ht.tab.len
  have HSW := hid (swp_zero ss)
  clear ht
  go_enter Try.func26, Try.ntmps26
  go_wp2_with fail
  go_loopw [2] (fun i wr => ∃ k : Nat, k ≤ 16 ∧ i = .int .i64 k ∧ RTab wr p q c (swp ss k) ∧ w.grownBy wr (some q)) (fun i _ => 16 - (intOf i).toNat)
  case atStart => exact ⟨0, Nat.zero_le _, rfl, by rw [HSW.out]; exact HT.out, grown_refl _ _⟩
  case round =>
    obtain ⟨k, hk, rfl, ht, hg⟩ := hrel
    have HG := hid hg
    have HTK := hid ht
    clear hg
    have hpc := ht.cell
    have hlp := ht.ptr.lt
    have hlq := ht.tab.lt
    by_cases hlt : k < 16
    · have hd : decide ((k : Int) < 16) = true := by simp; omega
      have hks : k < ss.length := by omega
      have hk2 : k < (swp ss k).length := by rw [swp_len]; exact hks
      have hat := ht.tab.at k hk2
      rw [swp_at ss k hks hk2] at hat
      obtain ⟨x0, x1, x2, x3⟩ := hat
      obtain ⟨f0, f1, f2, f3⟩ := ht.tab.free k
      have HY := hid (swp_yes ss k hks)
      have HN := hid (swp_no ss k hks)
      clear ht
      generalize ss[k] = sk at *
      obtain ⟨u, n, ps, ce⟩ := sk
      cases ce
      · have HE := hid (HN.out rfl)
        go_wp2_with fail
        go_roundw
        case rel => exact ⟨k + 1, by omega, by go_num, by rw [HE.out]; exact HTK.out, HG.out⟩
        case measure => simp [intOf]; omega
      · have HE := hid (HY.out rfl)
        go_wp2_with fail
        go_roundw
        case rel => exact ⟨k + 1, by omega, by go_num, by rw [HE.out]; exact HTK.out.set k hk2 slot0, grown_set (grown_set (grown_set (grown_set HG.out _ _) _ _) _ _) _ _⟩
        case measure => simp [intOf]; omega
    · have hd : decide ((k : Int) < 16) = false := by simp; omega
      have hdn : decide (k < 16) = false := by simp; omega
      have HE := hid (show swp ss k = ss.map clr by rw [show k = ss.length by omega]; exact swp_all ss)
      clear ht
      go_wp2_with fail
      refine bodyPost_end (results_none rfl _ _ _) rfl ⟨rfl, ?_, HG.out⟩
      rw [← HE.out]; exact HTK.out

theorem info_any {α β : Type} {o : Option α} {f : α → β} {b : β} (h : o.map f = some b) : ∃ i, o = some i ∧ f i = b := by
  cases o with
  | none => cases h
  | some i => exact ⟨i, rfl, by simpa using h⟩
theorem infoSlot : (Try.prog.info? 44).map (fun i => (i.zero, i.size, i.bytes)) = some (some (.agg #[.bool false, .int .i64 0, .int .i64 0, .bool false]), 4, 32) := by kernel_rfl

set_option maxHeartbeats 2000000 in
theorem rlist_any (p q c : Nat) (ss : List SL) (w : World) (ht : RTab w p q c ss) :
    Calls Try.prog 21 #[.pointer (some ⟨p, 0, none⟩)] w fun e w' => ∃ G c', e = .returned (.slice (some ⟨G, 0, none⟩) 16 c') ∧ w.heap.size ≤ G ∧ RT w' G ss ∧ Below w.heap.size w w' := by
  have hl16 := ht.tab.len
  have hpc := ht.cell
  have hlp := ht.ptr.lt
  have hlq := ht.tab.lt
  obtain ⟨i0, hi, hz⟩ := info_any infoSlot
  have hz0 : i0.zero = some (.agg #[.bool false, .int .i64 0, .int .i64 0, .bool false]) := congrArg (·.1) hz
  have hz1 : i0.size = 4 := congrArg (·.2.1) hz
  have hz2 : i0.bytes = 32 := congrArg (·.2.2) hz
  obtain ⟨rest, hr⟩ := ht.tab.row
  have HN := hid (show ∀ j u, (flat ss)[j]? = some u → w.cell? ((Addr.mk q 0 none).add j) = some u from fun j u hj => by
    have hadd : (Addr.mk q 0 none).add j = ⟨q, j, none⟩ := by unfold Addr.add; split <;> simp_all
    rw [hadd, hr.cell', List.getElem?_append_left (List.getElem?_eq_some_iff.1 hj).1]
    exact hj)
  have HL := hid (show (flat ss).length = 16 * 4 by rw [flat_len, hl16])
  have HONE := hid (cells_one ss)
  have HO := hid (World.ownsRow_nil w w.heap.size 44 4)
  have HR := hid (Below.refl w.heap.size w)
  clear ht hr
  go_enter Try.func21, Try.ntmps21
  go_wp2_with (at_builtin; go_must (refine wpList_append_own _ rfl _ _ 40 rfl w.heap.size 44 i0 (.agg #[.bool false, .int .i64 0, .int .i64 0, .bool false]) 4 32 Try.underlying40 hi hz0 hz1 hz2 rfl (by decide) (.slice none 0 0) 0 [] rfl HO.out ⟨q, 0, none⟩ 16 c (flat ss) rfl HL.out HN.out HONE.out (by decide) (by decide) (Nat.le_refl _) ?_; intro v' w2 hown' hgrow _; have HB2 := hid (HR.out.grown hgrow (Nat.le_refl _) (fun k hk => by cases hk)); obtain ⟨G, c9, rfl, hG, hRT⟩ := RT.own hown' hl16; have HRT := hid hRT; clear hown' hgrow hRT))
  go_ret
  exact ⟨G, ⟨c9, rfl⟩, hG, HRT.out, HB2.out⟩

set_option maxHeartbeats 2000000 in
theorem rfork_any (p q c : Nat) (ss : List SL) (w : World) (ht : RTab w p q c ss) :
    Calls Try.prog 10 #[.pointer (some ⟨p, 0, none⟩)] w fun e w' => ∃ P G c', e = .returned (.pointer (some ⟨P, 0, none⟩)) ∧ w.heap.size ≤ P ∧ w.heap.size ≤ G ∧ RTab w' P G c' ss ∧ Below w.heap.size w w' := by
  have HT := hid ht
  clear ht
  go_enter Try.func10, Try.ntmps10
  go_wp2_with fail
  refine (rlist_any p q c ss _ HT.out).mono ?_
  rintro e w1 ⟨G, c', rfl, hG, hR, hb⟩
  have HB := hid (fun o => bthen hb (@bal w1 o))
  have hne : w1.heap.size ≠ G := by have := hR.lt; omega
  have hsz := hb.size
  have HP := hid (RTab.mk (Row.new w1 52 [.slice (some ⟨G, 0, none⟩) 16 c']) (hR.below (bal _)) hne)
  clear hb hR
  go_wp2_with fail
  go_ret
  exact ⟨_, G, c', rfl, hsz, hG, HP.out, HB.out _⟩
end Go.Proofs.Ytjbclaplohankaa
