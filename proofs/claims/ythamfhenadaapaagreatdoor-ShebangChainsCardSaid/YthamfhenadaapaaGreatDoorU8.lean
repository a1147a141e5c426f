
/- Stage 21: works; ShebangNil's walk. -/
import Derived.Test.YthamfhenadaapaaGreatDoorU7
import Derived.Test.YthamfhenadaapaaGreatDoorVOm
namespace Go.Proofs.YthamfhenadaapaaGreatDoor
open Go.RowKit Go.Sort
open Go.ChangeShapes Go.WideShapes Go.ChangeAt

def sc21 : BL := [35, 33, 32, 47, 112, 32, 32, 45, 120, 32, 121, 32, 10]
def xs21 (M : Nat) : List EN := [⟨[47, 112], 1, 493, 0, 0, some ⟨M, 0, none⟩, 2, [127, 69], []⟩, ⟨[47, 115], 1, 493, 0, 0, some ⟨M + 1, 0, none⟩, 13, sc21, []⟩]
def L21 : List ND := [⟨[47], 0, 2, 493, 0, 0, 0, [([112], 1), ([115], 2)], [], []⟩, ⟨[47, 112], 0, 1, 493, 0, 0, 2, [], [127, 69], []⟩, ⟨[47, 115], 0, 1, 493, 0, 0, 13, [], sc21, []⟩]
theorem new21 (M : Nat) : newE [root0] 0 (xs21 M) = (0, 0, L21) := by kernel_rfl
theorem walk21s : walkL L21 (cW 0) 0 [47, 115] true = (((2 : Nat) : Int), 0) := walkL_ok (st := 0) (nx := 2) ⟨by decide, by decide, by decide⟩ (by decide +kernel) (by decide +kernel) (by
  rw [show partsF [47, 115] = [[115]] by decide +kernel]
  rw [followL_step (nx := 2) (by decide +kernel) (.inl (by decide +kernel)), followL_nil]) (.inl (by decide +kernel))
theorem walk21p : walkL L21 (cW 0) 0 [47, 112] true = (((1 : Nat) : Int), 0) := walkL_ok (st := 0) (nx := 1) ⟨by decide, by decide, by decide⟩ (by decide +kernel) (by decide +kernel) (by
  rw [show partsF [47, 112] = [[112]] by decide +kernel]
  rw [followL_step (nx := 1) (by decide +kernel) (.inl (by decide +kernel)), followL_nil]) (.inl (by decide +kernel))
def out21 : List BL := [[47, 112], [45, 120, 32, 121], [47, 115], [49]]
theorem chain21 : chainL L21 (cW 0) 4 [47, 115] [[115], [49]] = (1, [47, 112], out21, 0) := by
  rw [chainL_next (n := 3) (x := [47, 112]) (a := [45, 120, 32, 121]) (progL_ok walk21s (by decide +kernel)) (by decide +kernel)]
  rw [show argvL [47, 112] [45, 120, 32, 121] [47, 115] [[115], [49]] = out21 by decide +kernel]
  exact chainL_ok (x := []) (a := []) (progL_ok walk21p (by decide +kernel)) (by decide +kernel) (by decide +kernel)

set_option maxRecDepth 100000 in
set_option maxHeartbeats 4000000 in
theorem works21_any (w : World) : Calls Tryz.prog 6 #[] w fun e w' => e = .returned (.bool true) ∧ Below w.heap.size w w' := by
  obtain ⟨W1, hW1⟩ : ∃ W1, W1 = w.alloc (.cells (([127, 69] : BL).map B8).toArray 5) := ⟨_, rfl⟩
  have hz1 : W1.heap.size = w.heap.size + 1 := by rw [hW1, World.size_alloc]
  have hcv : (convert 49 49 (.slice (some ⟨W1.heap.size, 0, none⟩) 13 13)).run Tryz.prog (W1.alloc (.cells (sc21.map B8).toArray 5)) = .ok (.slice (some ⟨W1.heap.size, 0, none⟩) 13 13) (W1.alloc (.cells (sc21.map B8).toArray 5 (13, 14))) := Lib.run_convert_bytes_const W1 49 5 (sc21.map B8).toArray 13 13 Tryz.underlying49 Tryz.underlying5
  have b1 : Below w.heap.size w W1 := by rw [hW1]; exact bal _
  have b2 := b1.alloc b1.size (.cells (sc21.map B8).toArray 5 (13, 14))
  have d1 : Byt W1 (some ⟨w.heap.size, 0, none⟩) 2 [127, 69] := by rw [hW1]; exact byt_marked w 5 [127, 69] 2 0 0 rfl
  have d2 := byt_marked W1 5 sc21 13 13 14 rfl
  have d1 := d1.below' (bal (.cells (sc21.map B8).toArray 5 (13, 14)))
  rw [hz1] at hcv d2
  obtain ⟨W2, hW2⟩ : ∃ W2, W2 = W1.alloc (.cells (sc21.map B8).toArray 5 (13, 14)) := ⟨_, rfl⟩
  rw [← hW2] at b2 d1 d2
  have hz2 : W2.heap.size = w.heap.size + 2 := by rw [hW2, World.size_alloc, hz1]
  have b3 := b2.alloc b2.size (.cells (((xs21 w.heap.size).map EN.cs).flatten).toArray 51)
  have hr := Row.new W2 51 (((xs21 w.heap.size).map EN.cs).flatten)
  have d1 := d1.below' (bal (.cells (((xs21 w.heap.size).map EN.cs).flatten).toArray 51))
  have d2 := d2.below' (bal (.cells (((xs21 w.heap.size).map EN.cs).flatten).toArray 51))
  have hents := ents_of hr (by
    intro x hx
    simp only [xs21, List.mem_cons, List.not_mem_nil, or_false] at hx
    rcases hx with rfl | rfl
    · exact ⟨d1, fun h => (by cases h), by dsimp only; decide, by dsimp only; decide, by dsimp only; decide, by dsimp only; decide⟩
    · exact ⟨d2, fun h => (by cases h), by dsimp only; decide, by dsimp only; decide, by dsimp only; decide, by dsimp only; decide⟩)
  have HN := hid (new_any _ 2 2 (xs21 w.heap.size) _ hents (by omega))
  have HB := hid b3
  rw [hz2] at HN
  clear b1 b2 b3 d1 d2 hr hents hz2 hz1
  subst hW2
  subst hW1
  have hcv : (convert 49 49 (.slice (some ⟨w.heap.size + 1, 0, none⟩) 13 13)).run Tryz.prog ((w.alloc (.cells #[.int .u8 127, .int .u8 69] 5)).alloc (.cells #[.int .u8 35, .int .u8 33, .int .u8 32, .int .u8 47, .int .u8 112, .int .u8 32, .int .u8 32, .int .u8 45, .int .u8 120, .int .u8 32, .int .u8 121, .int .u8 32, .int .u8 10] 5)) = .ok (.slice (some ⟨w.heap.size + 1, 0, none⟩) 13 13) ((w.alloc (.cells #[.int .u8 127, .int .u8 69] 5)).alloc (.cells #[.int .u8 35, .int .u8 33, .int .u8 32, .int .u8 47, .int .u8 112, .int .u8 32, .int .u8 32, .int .u8 45, .int .u8 120, .int .u8 32, .int .u8 121, .int .u8 32, .int .u8 10] 5 (13, 14))) := hcv
  go_enter Tryz.func6, Tryz.ntmps6
  go_wp2_with fail
  refine (HN.out).mono ?_
  rintro e' w1 ⟨hb, hp⟩
  rw [if_neg (by show ¬ 64 < 2; omega), new21, if_pos rfl] at hp
  obtain ⟨F, t, rfl, htl, hfs, hF⟩ := hp
  obtain ⟨L, bs, ms⟩ := t
  obtain rfl : L = L21 := htl
  have HB1 := hid (HB.out.trans (hb.mono HB.out.size))
  have HF1 := hid hfs
  clear hb hfs HN HB hF
  have hbt : Below w1.heap.size w1 (w1.alloc (.cells #[.string (ba [115]), .string (ba [49])] 9)) := bal _
  have hrow := Row.new w1 9 (strs [[115], [49]])
  have HCH := hid (chain_any F ⟨L21, bs, ms⟩ (cW 0) [47, 115] (some ⟨w1.heap.size, 0, none⟩) 2 2 [[115], [49]] _ (HF1.out.below hbt) (cW_ok _ _) (by decide) (Row.cel hrow rfl) (fun h => by cases h) (by omega) (by decide))
  unfold ChainPost at HCH
  rw [show (FT.mk L21 bs ms).L = L21 from rfl, chain21] at HCH
  have HBT := hid (bthen HB1.out hbt)
  clear hbt hrow
  go_wp2_with fail
  refine (HCH.out).mono ?_
  rintro e' w2 ⟨v, rfl, ho, hb⟩
  have HB2 := hid (bthen HBT.out hb)
  obtain ⟨oa, oc, rfl, hoc, _⟩ := own_cel ho
  have hbt : Below w2.heap.size w2 (w2.alloc (.cells (strs out21).toArray 9)) := bal _
  have hrow := Row.new w2 9 (strs out21)
  have HEQ := hid (eqTexts_any oa (some ⟨w2.heap.size, 0, none⟩) 4 oc 4 4 out21 out21 _ (hoc.below' hbt) (Row.cel hrow rfl) (by omega) (by omega))
  have HB3 := hid (bthen HB2.out hbt)
  have hq := ba_beq [47, 112] [47, 112]
  clear hbt hrow hb ho hoc HCH
  simp only
  go_wp2_with fail
  refine (HEQ.out).mono ?_
  rintro e' w3 ⟨rfl, q, rfl⟩
  have HB4 := hid (bdN HB3.out q)
  rw [show eqT out21 out21 = true by simp [eqT]]
  go_wp2_with fail
  go_ret
  exact ⟨rfl, HB4.out⟩

theorem chain_none (u e s g : Int) (ca : Option Addr) (cn cc : Nat) (p : ByteArray) (a : Option Addr) (n c : Nat) (w : World) :
    Calls Tryz.prog 11 #[.pointer none, credV u e s g ca cn cc, .string p, .slice a n c] w fun e' w' => e' = .returned (.tuple #[.int .i64 0, .string (ba []), .slice none 0 0, .int .i64 2]) ∧ Below w.heap.size w w' := by
  have HB := hid (show Below w.heap.size w (w.alloc (.cells #[.int .u32 u, .int .u32 e, .int .u32 s, .int .u32 g, .slice ca cn cc] 26)) from bal _)
  go_enter Tryz.func11, Tryz.ntmps11
  go_wp2_with fail
  go_step3
  go_wp2_with fail
  try simp only [Exit.inBlock, Exit.then, Exit.noGoto_ret]
  refine bodyPost_ret (results_tmp4 rfl _ _ _) rfl ?_
  exact ⟨rfl, HB.out⟩

end Go.Proofs.YthamfhenadaapaaGreatDoor
