/- Package fds: used, Open, Close, At, Move. -/
import Derived.Test.YtjbclaplohankaaD1
namespace Go.Proofs.Ytjbclaplohankaa
open Go.RowKit Go.Sort

def slotAt (ss : List SL) (fd : Int) : SL := if 0 ≤ fd then ss.getD fd.toNat slot0 else slot0
def usedB (ss : List SL) (fd : Int) : Bool := (slotAt ss fd).1
def usedN (ss : List SL) (fd : Int) : Int := if usedB ss fd then fd else 0

theorem slotAt_nat (ss : List SL) (k : Nat) (h : k < ss.length) : slotAt ss (k : Int) = ss[k] := by
  unfold slotAt
  rw [if_pos (by omega)]
  simp [h]
theorem used_pos {ss : List SL} {fd : Int} (h : usedB ss fd = true) : ∃ k : Nat, ∃ h2 : k < ss.length, fd = k ∧ ss[k].1 = true := by
  unfold usedB slotAt at h
  by_cases h0 : 0 ≤ fd
  · rw [if_pos h0] at h
    obtain ⟨k, rfl⟩ := Int.eq_ofNat_of_zero_le h0
    by_cases hk : k < ss.length
    · refine ⟨k, hk, rfl, ?_⟩
      simpa [hk] using h
    · simp [List.getD_eq_getElem?_getD, hk, slot0] at h
  · rw [if_neg h0] at h
    simp [slot0] at h

theorem grown_below {w w' : World} (h : Below w.heap.size w w') (row : Option Nat) : w.grownBy w' row := ⟨h.os, h.tape, h.output, h.size, fun k hk _ => h.block k hk⟩
theorem grown_set {w w' : World} {b : Nat} (h : w.grownBy w' (some b)) (o : Nat) (u : Value) : w.grownBy (w'.setCell ⟨b, o, none⟩ u) (some b) :=
  ⟨h.os, h.tape, h.output, by rw [World.size_setCell]; exact h.size, fun k hk hne => by rw [heap_setCell_other _ _ _ _ (by intro e; apply hne; rw [e])]; exact h.block k hk hne⟩
theorem grown_trans {w w1 w2 : World} {row : Option Nat} (h : w.grownBy w1 row) (h2 : w1.grownBy w2 row) : w.grownBy w2 row :=
  ⟨h2.os.trans h.os, h2.tape.trans h.tape, h2.output.trans h.output, Nat.le_trans h.size h2.size, fun k hk hne => by rw [h2.block k (Nat.lt_of_lt_of_le hk h.size) hne, h.block k hk hne]⟩
theorem grown_refl (w : World) (row : Option Nat) : w.grownBy w row := ⟨rfl, rfl, rfl, Nat.le_refl _, fun _ _ _ => rfl⟩

theorem used_of {ss : List SL} {fd : Int} {w : World} {e : Ending} {w' : World} (h : WhichP (fun i s => ((i : Int) == fd) && s.1) ss w e w') :
    e = .returned (.tuple #[.int .i64 (usedN ss fd), .bool (usedB ss fd)]) ∧ Below w.heap.size w w' := by
  obtain ⟨h1, hb⟩ := h
  refine ⟨?_, hb⟩
  unfold usedN
  rcases h1 with ⟨i, hi, hq, _, rfl⟩ | ⟨hq, rfl⟩
  · simp only [Bool.and_eq_true, beq_iff_eq] at hq
    obtain ⟨rfl, hq⟩ := hq
    have : usedB ss (i : Int) = true := by unfold usedB; rw [slotAt_nat ss i hi]; exact hq
    rw [this]
    rfl
  · cases hu : usedB ss fd
    · rfl
    · obtain ⟨k, hk, rfl, hk2⟩ := used_pos hu
      have := hq k hk
      simp [hk2] at this

set_option maxHeartbeats 1000000 in
theorem used_any (b : Nat) (ss : List SL) (fd : Int) (w : World) (ht : Tab w b 50 ss) :
    Calls Try.prog 29 #[.pointer (some ⟨b, 0, none⟩), .int .i64 fd] w fun e w' => e = .returned (.tuple #[.int .i64 (usedN ss fd), .bool (usedB ss fd)]) ∧ Below w.heap.size w w' := by
  have HT := hid (fun o => ht.below (bal o))
  have HW := hid (@bal w)
  clear ht
  go_enter Try.func29, Try.ntmps29
  go_wp2_with fail
  have hc : (w.alloc (.cells #[.int .i64 fd] 3)).cell? ⟨w.heap.size, 0, none⟩ = some (.int .i64 fd) := by simp
  have HC := hid hc
  clear hc
  refine (whichU_any b ss (fun i s => ((i : Int) == fd) && s.1) _ w.heap.size (HT.out _) ?_).mono ?_
  · intro i s wr hb
    exact used1_any i fd s w.heap.size wr (keepC hb HC.out)
  · intro e w1 h
    obtain ⟨rfl, hb⟩ := used_of h
    have HB := hid (bthen (HW.out _) hb)
    clear h hb
    go_wp2_with fail
    go_ret2
    exact ⟨rfl, HB.out⟩

def ff (ss : List SL) : Nat := ss.findIdx fun s => !s.1
def openC (ss : List SL) (ino : Int) : Int := if ino < 0 then 1 else if ff ss = 16 then 15 else 0
def openN (ss : List SL) (ino : Int) : Int := if openC ss ino = 0 then ff ss else 0
def openS (ss : List SL) (ino : Int) (c : Bool) : List SL := if openC ss ino = 0 then ss.set (ff ss) (true, ino, 0, c) else ss

/-- The tables that were there are there, that at b with other slots. -/
def Turn (b : Nat) (T : TypeId) (ss : List SL) (w w' : World) : Prop := Tab w' b T ss ∧ w.grownBy w' (some b)

set_option maxHeartbeats 2000000 in
theorem open_any (b : Nat) (ss : List SL) (ino : Int) (c : Bool) (w : World) (ht : Tab w b 50 ss) :
    Calls Try.prog 14 #[.pointer (some ⟨b, 0, none⟩), .int .i64 ino, .bool c] w fun e w' => e = .returned (.tuple #[.int .i64 (openN ss ino), .int .i64 (openC ss ino)]) ∧ Turn b 50 (openS ss ino c) w w' := by
  have HT := hid ht
  have hlen := hid ht.len
  clear ht
  by_cases h : ino < 0
  · have h1 : openC ss ino = 1 := by unfold openC; rw [if_pos h]
    have HF := hid (show openN ss ino = 0 ∧ openS ss ino c = ss by unfold openN openS; rw [h1]; exact ⟨rfl, rfl⟩)
    have H1 := hid h1
    clear h1
    go_enter Try.func14, Try.ntmps14
    go_wp2_with fail
    go_ret2
    exact ⟨by rw [H1.out, HF.out.1]; rfl, by rw [HF.out.2]; exact ⟨HT.out, grown_refl _ _⟩⟩
  · go_enter Try.func14, Try.ntmps14
    go_wp2_with fail
    refine (whichO_any b ss (fun _ s => !s.1) _ HT.out (fun i s wr _ => open1_any i s wr)).mono ?_
    rintro e w1 ⟨h1 | h1, hb⟩
    · obtain ⟨i, hi, hq, hno, rfl⟩ := h1
      have hff : ff ss = i := (List.findIdx_eq hi).2 ⟨hq, fun j hj => hno j (by omega) hj⟩
      have hi16 : i < 16 := by rw [← hlen.out]; exact hi
      have hC : openC ss ino = 0 := by unfold openC; rw [if_neg (by omega), hff, if_neg (by omega)]
      have HF := hid (show openC ss ino = 0 ∧ openN ss ino = i ∧ openS ss ino c = ss.set i (true, ino, 0, c) by
        unfold openN openS; rw [hC, hff]; exact ⟨rfl, rfl, rfl⟩)
      have ht1 := HT.out.below hb
      have HT1 := hid ht1
      have HG := hid (grown_below hb (some b))
      obtain ⟨x0, x1, x2, x3⟩ := ht1.at i hi
      obtain ⟨f0, f1, f2, f3⟩ := ht1.free i
      clear hff hC ht1 hb hno hq
      go_wp2_with fail
      go_ret2
      refine ⟨by rw [HF.out.1, HF.out.2.1]; rfl, ?_⟩
      rw [HF.out.2.2]
      exact ⟨HT1.out.set i hi (true, ino, 0, c), grown_set (grown_set (grown_set (grown_set HG.out _ _) _ _) _ _) _ _⟩
    · obtain ⟨hq, rfl⟩ := h1
      have hff : ff ss = 16 := by
        rw [← hlen.out]
        refine List.findIdx_eq_length.2 fun x hx => ?_
        obtain ⟨j, hj, rfl⟩ := List.getElem_of_mem hx
        exact hq j hj
      have hC : openC ss ino = 15 := by unfold openC; rw [if_neg (by omega), if_pos hff]
      have HF := hid (show openC ss ino = 15 ∧ openN ss ino = 0 ∧ openS ss ino c = ss by
        unfold openN openS; rw [hC]; exact ⟨rfl, rfl, rfl⟩)
      have HB := hid hb
      clear hff hC hq hb
      go_wp2_with fail
      go_ret2
      exact ⟨by rw [HF.out.1, HF.out.2.1]; rfl, by rw [HF.out.2.2]; exact ⟨HT.out.below HB.out, grown_below HB.out _⟩⟩

/-- A descriptor is a place, or there is none. -/
theorem used_cases (ss : List SL) (fd : Int) : (∃ k : Nat, ∃ h : k < ss.length, fd = k ∧ ss[k].1 = true ∧ usedB ss fd = true ∧ usedN ss fd = k ∧ slotAt ss fd = ss[k]) ∨ (usedB ss fd = false ∧ usedN ss fd = 0) := by
  cases h : usedB ss fd
  · exact .inr ⟨rfl, by unfold usedN; rw [h]; rfl⟩
  · left
    obtain ⟨k, hk, rfl, h1⟩ := used_pos h
    exact ⟨k, hk, rfl, h1, rfl, by unfold usedN; rw [h]; rfl, slotAt_nat ss k hk⟩

def closeC (ss : List SL) (fd : Int) : Int := if usedB ss fd then 0 else 14
def closeS (ss : List SL) (fd : Int) : List SL := if usedB ss fd then ss.set fd.toNat slot0 else ss
def moveC (ss : List SL) (fd pos : Int) : Int := if usedB ss fd then (if pos < 0 ∨ 65536 < pos then 1 else 0) else 14
def moveS (ss : List SL) (fd pos : Int) : List SL := if moveC ss fd pos = 0 then ss.set fd.toNat ((slotAt ss fd).1, (slotAt ss fd).2.1, pos, (slotAt ss fd).2.2.2) else ss
def atS (ss : List SL) (fd : Int) : SL := if usedB ss fd then slotAt ss fd else slot0

set_option maxHeartbeats 2000000 in
theorem close_any (b : Nat) (ss : List SL) (fd : Int) (w : World) (ht : Tab w b 50 ss) :
    Calls Try.prog 15 #[.pointer (some ⟨b, 0, none⟩), .int .i64 fd] w fun e w' => e = .returned (.int .i64 (closeC ss fd)) ∧ Turn b 50 (closeS ss fd) w w' := by
  have HT := hid ht
  have hl16 := ht.len
  clear ht
  go_enter Try.func15, Try.ntmps15
  go_wp2_with fail
  refine (used_any b ss fd _ HT.out).mono ?_
  rintro e w1 ⟨rfl, hb⟩
  rcases used_cases ss fd with ⟨k, hk, rfl, hk1, hu, hn, _⟩ | ⟨hu, hn⟩
  · rw [hu, hn]
    have HF := hid (show closeC ss (k : Int) = 0 ∧ closeS ss (k : Int) = ss.set k slot0 by unfold closeC closeS; rw [hu]; exact ⟨rfl, rfl⟩)
    have ht1 := HT.out.below hb
    have HT1 := hid ht1
    have HG := hid (grown_below hb (some b))
    obtain ⟨x0, x1, x2, x3⟩ := ht1.at k hk
    obtain ⟨f0, f1, f2, f3⟩ := ht1.free k
    clear ht1 hb hk1 hu hn
    go_wp2_with fail
    go_ret
    refine ⟨by rw [HF.out.1]; rfl, ?_⟩
    rw [HF.out.2]
    exact ⟨HT1.out.set k hk slot0, grown_set (grown_set (grown_set (grown_set HG.out _ _) _ _) _ _) _ _⟩
  · rw [hu, hn]
    have HF := hid (show closeC ss fd = 14 ∧ closeS ss fd = ss by unfold closeC closeS; rw [hu]; exact ⟨rfl, rfl⟩)
    have HB := hid hb
    clear hb hu hn
    go_wp2_with fail
    go_ret
    exact ⟨by rw [HF.out.1]; rfl, by rw [HF.out.2]; exact ⟨HT.out.below HB.out, grown_below HB.out _⟩⟩

set_option maxHeartbeats 2000000 in
theorem move_any (b : Nat) (ss : List SL) (fd pos : Int) (w : World) (ht : Tab w b 50 ss) :
    Calls Try.prog 16 #[.pointer (some ⟨b, 0, none⟩), .int .i64 fd, .int .i64 pos] w fun e w' => e = .returned (.int .i64 (moveC ss fd pos)) ∧ Turn b 50 (moveS ss fd pos) w w' := by
  have HT := hid ht
  have hl16 := ht.len
  clear ht
  go_enter Try.func16, Try.ntmps16
  go_wp2_with fail
  refine (used_any b ss fd _ HT.out).mono ?_
  rintro e w1 ⟨rfl, hb⟩
  rcases used_cases ss fd with ⟨k, hk, rfl, hk1, hu, hn, hs⟩ | ⟨hu, hn⟩
  · rw [hu, hn]
    by_cases hp : pos < 0
    · have HF := hid (show moveC ss (k : Int) pos = 1 ∧ moveS ss (k : Int) pos = ss by
        have h1 : moveC ss (k : Int) pos = 1 := by unfold moveC; rw [hu, if_pos rfl, if_pos (.inl hp)]
        unfold moveS; rw [h1]; exact ⟨rfl, rfl⟩)
      have HB := hid hb
      clear hb hu hn hs hk1
      go_wp2_with fail
      go_ret
      exact ⟨by rw [HF.out.1]; rfl, by rw [HF.out.2]; exact ⟨HT.out.below HB.out, grown_below HB.out _⟩⟩
    · by_cases hp2 : 65536 < pos
      · have HF := hid (show moveC ss (k : Int) pos = 1 ∧ moveS ss (k : Int) pos = ss by
          have h1 : moveC ss (k : Int) pos = 1 := by unfold moveC; rw [hu, if_pos rfl, if_pos (.inr hp2)]
          unfold moveS; rw [h1]; exact ⟨rfl, rfl⟩)
        have HB := hid hb
        clear hb hu hn hs hk1
        go_wp2_with fail
        go_ret
        exact ⟨by rw [HF.out.1]; rfl, by rw [HF.out.2]; exact ⟨HT.out.below HB.out, grown_below HB.out _⟩⟩
      · have HF := hid (show moveC ss (k : Int) pos = 0 ∧ moveS ss (k : Int) pos = ss.set k (ss[k].1, ss[k].2.1, pos, ss[k].2.2.2) by
          have h1 : moveC ss (k : Int) pos = 0 := by unfold moveC; rw [hu, if_pos rfl, if_neg (by omega)]
          unfold moveS; rw [h1, hs]; exact ⟨rfl, rfl⟩)
        have ht1 := HT.out.below hb
        have HT1 := hid ht1
        have HG := hid (grown_below hb (some b))
        obtain ⟨x0, x1, x2, x3⟩ := ht1.at k hk
        obtain ⟨f0, f1, f2, f3⟩ := ht1.free k
        clear ht1 hb hk1 hu hn hs
        go_wp2_with fail
        go_ret
        refine ⟨by rw [HF.out.1]; rfl, ?_⟩
        rw [HF.out.2]
        exact ⟨HT1.out.setPos k hk pos, grown_set HG.out _ _⟩
  · rw [hu, hn]
    have HF := hid (show moveC ss fd pos = 14 ∧ moveS ss fd pos = ss by
      have h1 : moveC ss fd pos = 14 := by unfold moveC; rw [hu]; rfl
      unfold moveS; rw [h1]; exact ⟨rfl, rfl⟩)
    have HB := hid hb
    clear hb hu hn
    go_wp2_with fail
    go_ret
    exact ⟨by rw [HF.out.1]; rfl, by rw [HF.out.2]; exact ⟨HT.out.below HB.out, grown_below HB.out _⟩⟩

set_option maxHeartbeats 2000000 in
theorem at_any (b : Nat) (ss : List SL) (fd : Int) (w : World) (ht : Tab w b 50 ss) :
    Calls Try.prog 20 #[.pointer (some ⟨b, 0, none⟩), .int .i64 fd] w fun e w' => e = .returned (.tuple #[slotV (atS ss fd), .int .i64 (closeC ss fd)]) ∧ Below w.heap.size w w' := by
  have HT := hid (fun o => ht.below (bal o))
  have hl16 := ht.len
  have HW := hid (@bal w)
  clear ht
  go_enter Try.func20, Try.ntmps20
  go_wp2_with fail
  refine (used_any b ss fd _ (HT.out _)).mono ?_
  rintro e w1 ⟨rfl, hb⟩
  have hr := (Row.new w 44 [.bool false, .int .i64 0, .int .i64 0, .bool false]).below hb (by simp)
  obtain ⟨r0, r1, r2, r3⟩ := hr.four
  have g0 := hr.frozen 0
  have g1 := hr.frozen 1
  have g2 := hr.frozen 2
  have g3 := hr.frozen 3
  have hlt := hr.lt
  have HB := hid (bthen (HW.out _) hb)
  clear hr
  rcases used_cases ss fd with ⟨k, hk, rfl, hk1, hu, hn, hs⟩ | ⟨hu, hn⟩
  · rw [hu, hn]
    have HF := hid (show atS ss (k : Int) = ss[k] ∧ closeC ss (k : Int) = 0 by unfold atS closeC; rw [hu, hs]; exact ⟨rfl, rfl⟩)
    have ht1 := (HT.out _).below hb
    obtain ⟨x0, x1, x2, x3⟩ := ht1.at k hk
    have hltb := ht1.row.lt
    clear ht1 hb hk1 hu hn hs
    generalize ss[k] = sk at *
    obtain ⟨u, n, p, c⟩ := sk
    go_wp2_with fail
    refine bodyPost_ret (v := .tuple #[.agg #[.bool u, .int .i64 n, .int .i64 p, .bool c], .int .i64 0]) (by simp [results, Try.results20, go_sem, r0, r1, r2, r3]) rfl ⟨by rw [HF.out.1, HF.out.2], ?_⟩
    repeat (with_reducible refine bset ?_ (Nat.le_refl _) _)
    exact HB.out
  · rw [hu, hn]
    have HF := hid (show atS ss fd = slot0 ∧ closeC ss fd = 14 by unfold atS closeC; rw [hu]; exact ⟨rfl, rfl⟩)
    clear hb hu hn
    go_wp2_with fail
    refine bodyPost_ret (v := .tuple #[.agg #[.bool false, .int .i64 0, .int .i64 0, .bool false], .int .i64 14]) (by simp [results, Try.results20, go_sem, r0, r1, r2, r3]) rfl ⟨by rw [HF.out.1, HF.out.2]; rfl, ?_⟩
    repeat (with_reducible refine bset ?_ (Nat.le_refl _) _)
    exact HB.out
end Go.Proofs.Ytjbclaplohankaa
