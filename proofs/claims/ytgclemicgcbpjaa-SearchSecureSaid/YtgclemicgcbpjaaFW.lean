/- hostellaw06.works. -/
import Derived.Test.YtgclemicgcbpjaaFD
namespace Go.Proofs.Ytgclemicgcbpjaa
open Go.RowKit Go.Sort

theorem Row.rk {w : World} {g : Nat} {E : TypeId} {k : Nat} {rows : List (List Value)} (h : Row w g E rows.flatten) (hk : ∀ r ∈ rows, r.length = k) : Rk w k (some ⟨g, 0, none⟩) rows.length rows := by
  refine ⟨rfl, fun i hi => ⟨hk _ (List.getElem_mem hi), g, 0, rfl, fun j hj => ?_⟩⟩
  have := flat_at hk hi hj
  rw [h.cell', Nat.zero_add, this]
theorem ents_of {w : World} {g : Nat} {xs : List EN} (h : Row w g 54 ((xs.map EN.cs).flatten)) (ho : ∀ x ∈ xs, EnOk w x) : Ents w (some ⟨g, 0, none⟩) xs.length xs := by
  have := h.rk (k := 7) (by intro r hr; obtain ⟨x, _, rfl⟩ := List.mem_map.1 hr; rfl)
  rw [List.length_map] at this
  exact ⟨this, ho⟩
theorem own_byt {w : World} {base n : Nat} {v : Value} {l : List UInt8} (h : w.ownsRow base 5 1 v n (l.map B8)) : ∃ a c, v = .slice a n c ∧ Byt w a n l := by
  obtain ⟨a, c, e, hc, _⟩ := own_cel h
  refine ⟨a, c, e, by have := hc.hlen; simpa using this, fun i hi => ?_⟩
  obtain ⟨b, off, e2, h2⟩ := hc.cell i (by simpa using hi)
  exact ⟨b, off, e2, by rw [h2]; simp [B8]⟩

def xsW (M : Nat) : List EN := [⟨[47, 97], 2, 448, 7, 0, none, 0, [], []⟩, ⟨[47, 97, 47, 102], 1, 420, 0, 0, some ⟨M, 0, none⟩, 3, [1, 2, 3], []⟩, ⟨[47, 108], 3, 0, 0, 0, none, 0, [], [97, 47, 102]⟩]
def LW : List ND := [⟨[47], 0, 2, 493, 0, 0, 0, [([97], 1), ([108], 3)], [], []⟩, ⟨[47, 97], 0, 2, 448, 7, 0, 0, [([102], 2)], [], []⟩, ⟨[47, 97, 47, 102], 1, 1, 420, 0, 0, 3, [], [1, 2, 3], []⟩, ⟨[47, 108], 0, 3, 0, 0, 0, 0, [], [], [97, 47, 102]⟩]
theorem newW (M : Nat) : newE [root0] 0 (xsW M) = (0, 0, LW) := by kernel_rfl
def cW (e : Int) : CR := ⟨0, e, 0, 0, none, 0, 0, []⟩
theorem cW_ok (w : World) (e : Int) : CrOk w (cW e) := ⟨Nums.nil _ _ _, by show 0 ≤ _; omega⟩
theorem follow7 : followL LW (cW 7) true 0 0 [[108]] = (0, 2) := by
  rw [followL_link (nx := 3) (by decide +kernel) (by decide +kernel) (by simp) (by omega)]
  rw [show (if rootF (LW.getD 3 default).to = true then 0 else 0) = 0 by decide +kernel, show partsF (LW.getD 3 default).to ++ [] = [[97], [102]] by decide +kernel]
  rw [followL_step (nx := 1) (by decide +kernel) (.inl (by decide +kernel)), followL_step (nx := 2) (by decide +kernel) (.inl (by decide +kernel)), followL_nil]
theorem walk7 : walkL LW (cW 7) 0 [108] true = (2, 0) := walkL_ok (st := 0) (nx := 2) ⟨by decide, by decide, by decide⟩ (by decide +kernel) (by decide +kernel) (by rw [show partsF [108] = [[108]] by decide +kernel]; exact follow7) (.inl (by decide +kernel))
theorem follow8 : followL LW (cW 8) true 0 0 [[108]] = (5, 0) := by
  rw [followL_link (nx := 3) (by decide +kernel) (by decide +kernel) (by simp) (by omega)]
  rw [show (if rootF (LW.getD 3 default).to = true then 0 else 0) = 0 by decide +kernel, show partsF (LW.getD 3 default).to ++ [] = [[97], [102]] by decide +kernel]
  rw [followL_step (nx := 1) (by decide +kernel) (.inl (by decide +kernel)), followL_bad (by decide +kernel)]
  decide +kernel
theorem walk8 : walkL LW (cW 8) 0 [108] true = (0, 5) := walkL_bad (st := 0) (nx := 0) ⟨by decide, by decide, by decide⟩ (by decide +kernel) (by decide +kernel) (by rw [show partsF [108] = [[108]] by decide +kernel]; exact follow8) (by decide)

set_option maxRecDepth 100000 in
set_option maxHeartbeats 4000000 in
theorem works06_any (w : World) : Calls Try.prog 12 #[] w fun e w' => e = .returned (.bool true) ∧ Below w.heap.size w w' := by
  have b1 : Below w.heap.size w (w.alloc (.cells (([1, 2, 3] : List UInt8).map B8).toArray 5)) := bal _
  have b2 := b1.alloc b1.size (.cells (((xsW w.heap.size).map EN.cs).flatten).toArray 54)
  have hd := (Row.new w 5 (([1, 2, 3] : List UInt8).map B8)).alloc (.cells (((xsW w.heap.size).map EN.cs).flatten).toArray 54)
  have hr := Row.new (w.alloc (.cells (([1, 2, 3] : List UInt8).map B8).toArray 5)) 54 (((xsW w.heap.size).map EN.cs).flatten)
  rw [World.size_alloc] at hr
  have hents := ents_of hr (by
    intro x hx
    simp only [xsW, List.mem_cons, List.not_mem_nil, or_false] at hx
    rcases hx with rfl | rfl | rfl
    · exact ⟨Byt.nil _ _, fun _ => rfl, by decide, by decide, by decide, by decide⟩
    · refine ⟨?_, fun h => (by cases h), by dsimp only; decide, by dsimp only; decide, by dsimp only; decide, by dsimp only; decide⟩
      exact Row.byt (l := [1, 2, 3]) (rest := []) (by rw [List.append_nil]; exact hd) rfl
    · exact ⟨Byt.nil _ _, fun _ => rfl, by decide, by decide, by decide, by decide⟩)
  have HN := hid (new_any _ 3 3 (xsW w.heap.size) _ hents (by omega))
  have HB := hid b2
  clear b1 b2 hd hr hents
  go_enter Try.func12, Try.ntmps12
  go_wp2_with fail
  refine (HN.out).mono ?_
  rintro e' w1 ⟨hb, hp⟩
  rw [if_neg (by show ¬ 64 < 3; omega), newW, if_pos rfl] at hp
  obtain ⟨F, t, rfl, htl, hfs, hF⟩ := hp
  obtain ⟨L, bs, ms⟩ := t
  obtain rfl : L = LW := htl
  have HB1 := hid (HB.out.trans (hb.mono HB.out.size))
  have HF1 := hid hfs
  clear hb hfs HN HB
  have hw7 := walk_any F ⟨LW, bs, ms⟩ (cW 7) 0 [108] true w1 HF1.out (cW_ok _ _) (by decide)
  rw [show (FT.mk LW bs ms).L = LW from rfl, walk7] at hw7
  have HW7 := hid hw7
  clear hw7
  go_wp2_with fail
  refine (HW7.out).mono ?_
  rintro e' w2 ⟨rfl, hb⟩
  have HB2 := hid (bthen HB1.out hb)
  have HF2 := hid (HF1.out.below hb)
  clear hb HW7
  simp only [walkV]
  have hw8 := walk_any F ⟨LW, bs, ms⟩ (cW 8) 0 [108] true w2 HF2.out (cW_ok _ _) (by decide)
  rw [show (FT.mk LW bs ms).L = LW from rfl, walk8] at hw8
  have HW8 := hid hw8
  clear hw8
  go_wp2_with fail
  refine (HW8.out).mono ?_
  rintro e' w3 ⟨rfl, hb⟩
  have HB3 := hid (bthen HB2.out hb)
  have HF3 := hid (HF2.out.below hb)
  clear hb HW8
  simp only [walkV]
  go_wp2_with fail
  refine (read_file F ⟨LW, bs, ms⟩ 2 1 9 w3 HF3.out (by show 2 < LW.length; decide) (by show ¬ (LW.getD 2 default).kind = 2; decide) (by show ¬ (LW.getD 2 default).kind = 3; decide) (by omega) (by omega)).mono ?_
  rintro e' w4 ⟨v, rfl, ho, hb⟩
  have HB4 := hid (bthen HB3.out hb)
  have HF4 := hid (HF3.out.below hb)
  rw [show rdB ((FT.mk LW bs ms).nd 2).data 1 9 = [2, 3] from rfl] at ho
  obtain ⟨av, cv, rfl, hby⟩ := own_byt ho
  have hst : (convert 40 9 (.slice av 2 cv)).run Try.prog w4 = .ok (.string (ba [2, 3])) w4 := hby.str 40 9 5 cv Try.underlying40 Try.underlying5 Try.underlying9
  have hq := ba_beq [2, 3] [2, 3]
  have hq2 := ba_beq [47, 97, 47, 102] [47, 97, 47, 102]
  clear hb ho hby
  go_wp2_with fail
  refine (path_any F ⟨LW, bs, ms⟩ 2 w4 HF4.out (by show 2 < LW.length; decide)).mono ?_
  rintro e' w5 ⟨rfl, rfl⟩
  rw [show ((FT.mk LW bs ms).nd 2).path = [47, 97, 47, 102] from rfl]
  go_wp2_with fail
  go_ret
  exact ⟨rfl, HB4.out⟩
end Go.Proofs.Ytgclemicgcbpjaa
