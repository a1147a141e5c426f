/- The anchor of hostellaw04. -/
import Derived.Test.YtjiaoppdpomjhaaV6
import Derived.Test.YtjiaoppdpomjhaaV8a
import Derived.Test.YtjiaoppdpomjhaaV8b
import Derived.Deep.RegionWith
namespace Go.Proofs.Ytjiaoppdpomjhaa
open Go.RowKit
set_option maxHeartbeats 2000000 in
theorem works_any (w : World) :
    Calls Try.prog 9 #[] w fun e' w' => e' = .returned (.bool true) ∧ Below w.heap.size w w' := by
  go_enter Try.func9, Try.ntmps9
  go_wp2_with fail
  refine (lend_any _ _ _ _ _ _ _ _ _ _ _ _ [] _ (Nums.nil _ _ _) (fun _ => rfl) (by omega)).mono ?_
  rintro e' w1 ⟨v, rfl, ho, hb⟩
  obtain ⟨a9, c9, rfl, hN9⟩ := own_nums ho
  have e1 : lendE 1 2536 1 7 = 7 := by decide
  rw [e1]
  have r0 := (((Row.new w 28 [.int .u8 1, .int .u16 2536, .int .u32 7, .int .u32 8, .int .i64 0]).alloc (.cells #[.int .u32 1, .int .u32 1, .int .u32 1, .int .u32 1, .slice none 0 0] 25))).below hb (by simp; omega)
  have r1 := (Row.new (w.alloc (.cells #[.int .u8 1, .int .u16 2536, .int .u32 7, .int .u32 8, .int .i64 0] 28)) 25 [.int .u32 1, .int .u32 1, .int .u32 1, .int .u32 1, .slice none 0 0]).below hb (by simp)
  simp only [World.size_alloc] at r0 r1 ho hb
  have hb0 : Below w.heap.size w w1 := (b2a _ _).trans (hb.mono (by omega))
  have hsz := hb.size
  simp only [World.size_alloc] at hsz
  obtain ⟨x0, x1, x2, x3, x4⟩ := r0.five
  obtain ⟨y0, y1, y2, y3, y4⟩ := r1.five
  have n0 : w.heap.size < w1.heap.size := by omega
  have n1 : w.heap.size + 1 < w1.heap.size := by omega
  have HB0 := hid hb0
  have HN := hid hN9
  clear r0 r1 hb hb0 ho hN9 e1
  go_wp2_with fail
  obtain ⟨W5, hW5⟩ : ∃ W5, W5 = w1.alloc (.cells #[.int .u32 1, .int .u32 7, .int .u32 7, .int .u32 1, .slice a9 0 c9] 25) := ⟨_, rfl⟩
  have hl0 : w1.heap.size < W5.heap.size := by rw [hW5]; simp
  rw [← hW5]
  obtain ⟨s0, s1, s2, s3, s4⟩ : W5.cell? ⟨w1.heap.size, 0, none⟩ = some (.int .u32 1) ∧ W5.cell? ⟨w1.heap.size, 1, none⟩ = some (.int .u32 7) ∧ W5.cell? ⟨w1.heap.size, 2, none⟩ = some (.int .u32 7) ∧ W5.cell? ⟨w1.heap.size, 3, none⟩ = some (.int .u32 1) ∧ W5.cell? ⟨w1.heap.size, 4, none⟩ = some (.slice a9 0 c9) := by
    rw [hW5]; refine ⟨?_, ?_, ?_, ?_, ?_⟩ <;> go_simp
  obtain ⟨x0', x1', x2', x3', x4'⟩ : W5.cell? ⟨w.heap.size, 0, none⟩ = some (.int .u8 1) ∧ W5.cell? ⟨w.heap.size, 1, none⟩ = some (.int .u16 2536) ∧ W5.cell? ⟨w.heap.size, 2, none⟩ = some (.int .u32 7) ∧ W5.cell? ⟨w.heap.size, 3, none⟩ = some (.int .u32 8) ∧ W5.cell? ⟨w.heap.size, 4, none⟩ = some (.int .i64 0) := by
    rw [hW5]; refine ⟨?_, ?_, ?_, ?_, ?_⟩ <;> go_simp
  obtain ⟨y0', y1', y2', y3', y4'⟩ : W5.cell? ⟨w.heap.size + 1, 0, none⟩ = some (.int .u32 1) ∧ W5.cell? ⟨w.heap.size + 1, 1, none⟩ = some (.int .u32 1) ∧ W5.cell? ⟨w.heap.size + 1, 2, none⟩ = some (.int .u32 1) ∧ W5.cell? ⟨w.heap.size + 1, 3, none⟩ = some (.int .u32 1) ∧ W5.cell? ⟨w.heap.size + 1, 4, none⟩ = some (.slice none 0 0) := by
    rw [hW5]; refine ⟨?_, ?_, ?_, ?_, ?_⟩ <;> go_simp
  have HB5 : Hid (Below w.heap.size w W5) := hid (by rw [hW5]; exact HB0.out.alloc (by omega) _)
  clear hW5 HB0 HN x0 x1 x2 x3 x4 y0 y1 y2 y3 y4 hsz
  refine (may_any _ _ _ _ _ _ _ _ _ _ _ _ _ [] _ (Nums.nil _ _ _) (by omega) (by omega) (by omega)).mono ?_
  rintro e' wx ⟨rfl, hbx⟩
  rw [show mayB 7 1 [] 1 2536 7 8 7 = true by decide]
  obtain ⟨s0, s1, s2, s3, s4⟩ := five_keep hbx s0 s1 s2 s3 s4
  obtain ⟨x0, x1, x2, x3, x4⟩ := five_keep hbx x0' x1' x2' x3' x4'
  obtain ⟨y0, y1, y2, y3, y4⟩ := five_keep hbx y0' y1' y2' y3' y4'
  have HBX := hid (bthen HB5.out hbx)
  clear x0' x1' x2' x3' x4' y0' y1' y2' y3' y4' HB5
  go_wp2_with fail
  refine (may_any _ _ _ _ _ _ _ _ _ _ _ _ _ [] _ (Nums.nil _ _ _) (by omega) (by omega) (by omega)).mono ?_
  rintro e' w2 ⟨rfl, hbx⟩
  rw [show mayB 1 1 [] 1 2536 7 8 4 = false by decide]
  obtain ⟨s0, s1, s2, s3, s4⟩ := five_keep hbx s0 s1 s2 s3 s4
  obtain ⟨x0, x1, x2, x3, x4⟩ := five_keep hbx x0 x1 x2 x3 x4
  obtain ⟨y0, y1, y2, y3, y4⟩ := five_keep hbx y0 y1 y2 y3 y4
  have HBX := hid (bthen HBX.out hbx)
  clear hbx
  go_wp2_with fail
  refine (class_any _ _ _ _ _ _ _ _ _ _ _ _ [] _ (Nums.nil _ _ _) (by omega)).mono ?_
  rintro e' w3 ⟨rfl, hbx⟩
  rw [show clsOf 1 1 [] 7 8 = 2 by decide]
  obtain ⟨s0, s1, s2, s3, s4⟩ := five_keep hbx s0 s1 s2 s3 s4
  obtain ⟨x0, x1, x2, x3, x4⟩ := five_keep hbx x0 x1 x2 x3 x4
  obtain ⟨y0, y1, y2, y3, y4⟩ := five_keep hbx y0 y1 y2 y3 y4
  have HBX := hid (bthen HBX.out hbx)
  clear hbx
  go_wp2_with fail
  refine (same_eq _ _ _ _ _ _ _ [] _ _ _ [] _ (Nums.nil _ _ _) (Nums.nil _ _ _) (by omega) (by omega)).mono ?_
  rintro e' w4 ⟨rfl, hbx⟩
  rw [show sameB 1 1 1 1 1 1 1 1 [] [] = true by decide]
  obtain ⟨s0, s1, s2, s3, s4⟩ := five_keep hbx s0 s1 s2 s3 s4
  obtain ⟨x0, x1, x2, x3, x4⟩ := five_keep hbx x0 x1 x2 x3 x4
  obtain ⟨y0, y1, y2, y3, y4⟩ := five_keep hbx y0 y1 y2 y3 y4
  have HBX := hid (bthen HBX.out hbx)
  clear hbx
  go_wp2_with fail
  refine (same_ne 1 1 1 1 1 7 7 1 _ _ _ [] _ _ _ [] _ (Nums.nil _ _ _) (Nums.nil _ _ _) rfl).mono ?_
  rintro e' w5 ⟨rfl, hbx⟩
  rw [show sameB 1 1 1 1 1 7 7 1 [] [] = false by decide]
  have HBX := hid (bthen HBX.out hbx)
  go_wp2_with fail
  go_ret
  exact ⟨rfl, HBX.out⟩
end Go.Proofs.Ytjiaoppdpomjhaa
