/- Package hostelref05: New, At, Close, Move. -/
import Derived.Test.YtjbclaplohankaaDR
namespace Go.Proofs.Ytjbclaplohankaa
open Go.RowKit Go.Sort

def RTurn (p q c : Nat) (ss : List SL) (w w' : World) : Prop := RTab w' p q c ss ∧ w.grownBy w' (some q)
theorem RTab.set {w : World} {p q c : Nat} {ss : List SL} (h : RTab w p q c ss) (k : Nat) (hk : k < ss.length) (s : SL) :
    RTab ((((w.setCell ⟨q, k * 4, none⟩ (.bool s.1)).setCell ⟨q, k * 4 + 1, none⟩ (.int .i64 s.2.1)).setCell ⟨q, k * 4 + 2, none⟩ (.int .i64 s.2.2.1)).setCell ⟨q, k * 4 + 3, none⟩ (.bool s.2.2.2)) p q c (ss.set k s) :=
  ⟨(((h.ptr.other (a := ⟨q, k * 4, none⟩) h.ne _).other (a := ⟨q, k * 4 + 1, none⟩) h.ne _).other (a := ⟨q, k * 4 + 2, none⟩) h.ne _).other (a := ⟨q, k * 4 + 3, none⟩) h.ne _, h.tab.set k hk s, h.ne⟩
theorem RTab.setPos {w : World} {p q c : Nat} {ss : List SL} (h : RTab w p q c ss) (k : Nat) (hk : k < ss.length) (x : Int) :
    RTab (w.setCell ⟨q, k * 4 + 2, none⟩ (.int .i64 x)) p q c (ss.set k (ss[k].1, ss[k].2.1, x, ss[k].2.2.2)) :=
  ⟨h.ptr.other (a := ⟨q, k * 4 + 2, none⟩) h.ne _, h.tab.setPos k hk x, h.ne⟩

theorem rnew_any (w : World) :
    Calls Try.prog 8 #[] w fun e w' => e = .returned (.pointer (some ⟨w.heap.size + 1, 0, none⟩)) ∧ RTab w' (w.heap.size + 1) w.heap.size 16 zero16 ∧ Below w.heap.size w w' := by
  have hmk : ∀ w, (Instr.makeSlice 40 (.int .i64 16) (.int .i64 16)).run Try.prog w = .ok (.slice (some ⟨w.heap.size, 0, none⟩) 16 16) (w.alloc (.cells (flat zero16).toArray 44)) := fun _ => by kernel_rfl
  have HQ := hid (Row.new w 44 (flat zero16))
  have HP := hid (Row.new (w.alloc (.cells (flat zero16).toArray 44)) 52 [.slice (some ⟨w.heap.size, 0, none⟩) 16 16])
  have HB := hid (fun o1 o2 => bthen (@bal w o1) (bal o2))
  go_enter Try.func8, Try.ntmps8
  go_wp2_with fail
  go_ret
  refine ⟨rfl, ⟨?_, ⟨⟨[], ?_⟩, rfl⟩, by omega⟩, HB.out _ _⟩
  · have := HP.out
    rwa [World.size_alloc] at this
  · rw [List.append_nil]; exact HQ.out.alloc _

theorem at_cases (ss : List SL) (fd : Int) (h16 : ss.length = 16) : (fd < 0 ∧ usedB ss fd = false) ∨ (16 ≤ fd ∧ usedB ss fd = false) ∨ ∃ k : Nat, ∃ h : k < ss.length, fd = k ∧ usedB ss fd = ss[k].1 ∧ slotAt ss fd = ss[k] := by
  by_cases h0 : fd < 0
  · exact .inl ⟨h0, by unfold usedB slotAt; rw [if_neg (by omega)]; rfl⟩
  · obtain ⟨k, rfl⟩ := Int.eq_ofNat_of_zero_le (show 0 ≤ fd by omega)
    by_cases hk : k < ss.length
    · exact .inr (.inr ⟨k, hk, rfl, by unfold usedB; rw [slotAt_nat ss k hk], slotAt_nat ss k hk⟩)
    · refine .inr (.inl ⟨by omega, ?_⟩)
      unfold usedB slotAt
      rw [if_pos (by omega)]
      simp [List.getD, hk, slot0]

set_option maxHeartbeats 2000000 in
theorem rat_any (p q c : Nat) (ss : List SL) (fd : Int) (w : World) (ht : RTab w p q c ss) :
    Calls Try.prog 24 #[.pointer (some ⟨p, 0, none⟩), .int .i64 fd] w fun e w' => e = .returned (.tuple #[slotV (atS ss fd), .int .i64 (closeC ss fd)]) ∧ Below w.heap.size w w' := by
  have h16 := ht.tab.len
  have HW := hid (@bal w)
  have hp := ht.cell
  have hlp := ht.ptr.lt
  have hlq := ht.tab.lt
  rcases at_cases ss fd h16 with ⟨h0, hu⟩ | ⟨h0, hu⟩ | ⟨k, hk, rfl, hu, hs⟩
  · have HF := hid (show atS ss fd = slot0 ∧ closeC ss fd = 14 by unfold atS closeC; rw [hu]; exact ⟨rfl, rfl⟩)
    have d1 : decide (fd < 0) = true := by simp; omega
    clear ht hu
    go_enter Try.func24, Try.ntmps24
    go_wp2_with fail
    refine bodyPost_ret (v := .tuple #[.agg #[.bool false, .int .i64 0, .int .i64 0, .bool false], .int .i64 14]) (by simp [results, Try.results24, go_sem]) rfl ⟨by rw [HF.out.1, HF.out.2]; rfl, ?_⟩
    repeat (with_reducible refine bset ?_ (Nat.le_refl _) _)
    exact HW.out _
  · have HF := hid (show atS ss fd = slot0 ∧ closeC ss fd = 14 by unfold atS closeC; rw [hu]; exact ⟨rfl, rfl⟩)
    have d1 : decide (fd < 0) = false := by simp; omega
    have d2 : decide (16 ≤ fd) = true := by simp; omega
    clear ht hu
    go_enter Try.func24, Try.ntmps24
    go_wp2_with fail
    refine bodyPost_ret (v := .tuple #[.agg #[.bool false, .int .i64 0, .int .i64 0, .bool false], .int .i64 14]) (by simp [results, Try.results24, go_sem]) rfl ⟨by rw [HF.out.1, HF.out.2]; rfl, ?_⟩
    repeat (with_reducible refine bset ?_ (Nat.le_refl _) _)
    exact HW.out _
  · have d1 : decide ((k : Int) < 0) = false := by simp
    have d2 : decide ((16 : Int) ≤ (k : Int)) = false := by simp; omega
    have d3 : k < 16 := by omega
    obtain ⟨x0, x1, x2, x3⟩ := ht.tab.at k hk
    cases hb : ss[k].1
    · have HF := hid (show atS ss (k : Int) = slot0 ∧ closeC ss (k : Int) = 14 by unfold atS closeC; rw [hu, hb]; exact ⟨rfl, rfl⟩)
      rw [hb] at x0
      clear ht hu hs hb
      go_enter Try.func24, Try.ntmps24
      go_wp2_with fail
      refine bodyPost_ret (v := .tuple #[.agg #[.bool false, .int .i64 0, .int .i64 0, .bool false], .int .i64 14]) (by simp [results, Try.results24, go_sem]) rfl ⟨by rw [HF.out.1, HF.out.2]; rfl, ?_⟩
      repeat (with_reducible refine bset ?_ (Nat.le_refl _) _)
      exact HW.out _
    · have HF := hid (show atS ss (k : Int) = ss[k] ∧ closeC ss (k : Int) = 0 by unfold atS closeC; rw [hu, hb, hs]; exact ⟨rfl, rfl⟩)
      rw [hb] at x0
      have he : ss[k] = (true, ss[k].2.1, ss[k].2.2.1, ss[k].2.2.2) := by rw [← hb]
      have HF2 := hid (HF.out.1.trans he)
      have HF3 := hid HF.out.2
      clear ht hu hs hb HF he
      generalize ss[k].2.1 = n at *
      generalize ss[k].2.2.1 = ps at *
      generalize ss[k].2.2.2 = ce at *
      go_enter Try.func24, Try.ntmps24
      go_wp2_with fail
      refine bodyPost_ret (v := .tuple #[.agg #[.bool true, .int .i64 n, .int .i64 ps, .bool ce], .int .i64 0]) (by simp [results, Try.results24, go_sem]) rfl ⟨by rw [HF2.out, HF3.out], ?_⟩
      repeat (with_reducible refine bset ?_ (Nat.le_refl _) _)
      exact HW.out _

set_option maxHeartbeats 2000000 in
theorem rclose_any (p q c : Nat) (ss : List SL) (fd : Int) (w : World) (ht : RTab w p q c ss) :
    Calls Try.prog 23 #[.pointer (some ⟨p, 0, none⟩), .int .i64 fd] w fun e w' => e = .returned (.int .i64 (closeC ss fd)) ∧ RTurn p q c (closeS ss fd) w w' := by
  have HT := hid ht
  have hl16 := ht.tab.len
  clear ht
  go_enter Try.func23, Try.ntmps23
  go_wp2_with fail
  refine (rat_any p q c ss fd _ HT.out).mono ?_
  rintro e w1 ⟨rfl, hb⟩
  have HT1 := hid (fun o => (HT.out.below hb).below (@bal w1 o))
  have HG := hid (fun o => grown_below (bthen hb (@bal w1 o)) (some q))
  have HTW := hid (HT.out.below hb)
  have HGW := hid (grown_below hb (some q))
  rcases used_cases ss fd with ⟨k, hk, rfl, hk1, hu, hn, hs⟩ | ⟨hu, hn⟩
  · have HF := hid (show closeC ss (k : Int) = 0 ∧ closeS ss (k : Int) = ss.set k slot0 by unfold closeC closeS; rw [hu]; exact ⟨rfl, rfl⟩)
    rw [HF.out.1]
    generalize atS ss (k : Int) = sv at *
    have ht1 := HT.out.below hb
    have hp := ht1.cell
    obtain ⟨x0, x1, x2, x3⟩ := ht1.tab.at k hk
    obtain ⟨f0, f1, f2, f3⟩ := ht1.tab.free k
    have hlp := ht1.ptr.lt
    have hlq := ht1.tab.lt
    clear ht1 hb hk1 hu hn hs
    go_wp2_with fail
    go_ret
    refine ⟨by rw [HF.out.1]; rfl, ?_⟩
    rw [HF.out.2]
    exact ⟨(HTW.out.set k hk slot0).below (bal _), grown_trans (grown_set (grown_set (grown_set (grown_set HGW.out _ _) _ _) _ _) _ _) (grown_below (bal _) _)⟩
  · have HF := hid (show closeC ss fd = 14 ∧ closeS ss fd = ss by unfold closeC closeS; rw [hu]; exact ⟨rfl, rfl⟩)
    rw [HF.out.1]
    generalize atS ss fd = sv at *
    clear hb hu hn
    go_wp2_with fail
    go_ret
    exact ⟨by rw [HF.out.1]; rfl, by rw [HF.out.2]; exact ⟨HT1.out _, HG.out _⟩⟩

set_option maxHeartbeats 2000000 in
theorem rmove_any (p q c : Nat) (ss : List SL) (fd pos : Int) (w : World) (ht : RTab w p q c ss) :
    Calls Try.prog 25 #[.pointer (some ⟨p, 0, none⟩), .int .i64 fd, .int .i64 pos] w fun e w' => e = .returned (.int .i64 (moveC ss fd pos)) ∧ RTurn p q c (moveS ss fd pos) w w' := by
  have HT := hid ht
  have hl16 := ht.tab.len
  clear ht
  go_enter Try.func25, Try.ntmps25
  go_wp2_with fail
  refine (rat_any p q c ss fd _ HT.out).mono ?_
  rintro e w1 ⟨rfl, hb⟩
  have HT1 := hid (fun o => (HT.out.below hb).below (@bal w1 o))
  have HG := hid (fun o => grown_below (bthen hb (@bal w1 o)) (some q))
  have HTW := hid (HT.out.below hb)
  have HGW := hid (grown_below hb (some q))
  rcases used_cases ss fd with ⟨k, hk, rfl, hk1, hu, hn, hs⟩ | ⟨hu, hn⟩
  · rw [show closeC ss (k : Int) = 0 by unfold closeC; rw [hu]; rfl]
    generalize atS ss (k : Int) = sv at *
    by_cases hp : pos < 0
    · have HF := hid (show moveC ss (k : Int) pos = 1 ∧ moveS ss (k : Int) pos = ss by
        have h1 : moveC ss (k : Int) pos = 1 := by unfold moveC; rw [hu, if_pos rfl, if_pos (.inl hp)]
        unfold moveS; rw [h1]; exact ⟨rfl, rfl⟩)
      have d1 : decide (pos < 0) = true := by simp; omega
      clear hb hu hn hs hk1
      go_wp2_with fail
      go_ret
      exact ⟨by rw [HF.out.1]; rfl, by rw [HF.out.2]; exact ⟨HT1.out _, HG.out _⟩⟩
    · by_cases hp2 : 65536 < pos
      · have HF := hid (show moveC ss (k : Int) pos = 1 ∧ moveS ss (k : Int) pos = ss by
          have h1 : moveC ss (k : Int) pos = 1 := by unfold moveC; rw [hu, if_pos rfl, if_pos (.inr hp2)]
          unfold moveS; rw [h1]; exact ⟨rfl, rfl⟩)
        have d1 : decide (pos < 0) = false := by simp; omega
        have d2 : decide (65536 < pos) = true := by simp; omega
        clear hb hu hn hs hk1
        go_wp2_with fail
        go_ret
        exact ⟨by rw [HF.out.1]; rfl, by rw [HF.out.2]; exact ⟨HT1.out _, HG.out _⟩⟩
      · have HF := hid (show moveC ss (k : Int) pos = 0 ∧ moveS ss (k : Int) pos = ss.set k (ss[k].1, ss[k].2.1, pos, ss[k].2.2.2) by
          have h1 : moveC ss (k : Int) pos = 0 := by unfold moveC; rw [hu, if_pos rfl, if_neg (by omega)]
          unfold moveS; rw [h1, hs]; exact ⟨rfl, rfl⟩)
        have d1 : decide (pos < 0) = false := by simp; omega
        have d2 : decide (65536 < pos) = false := by simp; omega
        have ht1 := HT.out.below hb
        have hpc := ht1.cell
        obtain ⟨x0, x1, x2, x3⟩ := ht1.tab.at k hk
        obtain ⟨f0, f1, f2, f3⟩ := ht1.tab.free k
        have hlp := ht1.ptr.lt
        have hlq := ht1.tab.lt
        clear ht1 hb hk1 hu hn hs
        go_wp2_with fail
        go_ret
        refine ⟨by rw [HF.out.1]; rfl, ?_⟩
        rw [HF.out.2]
        exact ⟨(HTW.out.setPos k hk pos).below (bal _), grown_trans (grown_set HGW.out _ _) (grown_below (bal _) _)⟩
  · rw [show closeC ss fd = 14 by unfold closeC; rw [hu]; rfl]
    generalize atS ss fd = sv at *
    have HF := hid (show moveC ss fd pos = 14 ∧ moveS ss fd pos = ss by
      have h1 : moveC ss fd pos = 14 := by unfold moveC; rw [hu]; rfl
      unfold moveS; rw [h1]; exact ⟨rfl, rfl⟩)
    clear hb hu hn
    go_wp2_with fail
    go_ret
    exact ⟨by rw [HF.out.1]; rfl, by rw [HF.out.2]; exact ⟨HT1.out _, HG.out _⟩⟩
end Go.Proofs.Ytjbclaplohankaa
