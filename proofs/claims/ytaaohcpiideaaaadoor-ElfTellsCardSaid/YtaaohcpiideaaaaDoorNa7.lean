
/- hostellaw12.plain. -/
import Derived.Test.YtaaohcpiideaaaaDoorNa0
import Derived.Test.YtaaohcpiideaaaaDoorWR
import Derived.Lib.BufferWrite
import Derived.Deep.WholeRow
import Derived.Deep.RegionHeld3
namespace Go.Proofs.YtaaohcpiideaaaaDoor
open Go.RowKit Go.Sort Go.Proofs.YtaaohcpiideaaaaDoor.Ap
attribute [local go_sem] Oper.semAt_some

def flds : List (Nat × Nat × Nat) := [(16, 2, 2), (18, 2, 62), (20, 4, 1), (24, 8, 0x400078), (32, 8, 64), (54, 2, 56), (56, 2, 1), (64, 4, 1), (68, 4, 5), (80, 8, 0x400000), (96, 8, 128), (104, 8, 128), (112, 8, 4096)]
def stt (j : Nat) : List UInt8 := (flds.take j).foldl (fun l x => putB l x.1 x.2.2 x.2.1) (elfMagic ++ List.replicate 121 0)
def fvs : List Value := [.int .u64 16, .int .u64 2, .int .u64 2, .int .u64 18, .int .u64 2, .int .u64 62, .int .u64 20, .int .u64 4, .int .u64 1, .int .u64 24, .int .u64 8, .int .u64 4194424, .int .u64 32, .int .u64 8, .int .u64 64, .int .u64 54, .int .u64 2, .int .u64 56, .int .u64 56, .int .u64 2, .int .u64 1, .int .u64 64, .int .u64 4, .int .u64 1, .int .u64 68, .int .u64 4, .int .u64 5, .int .u64 80, .int .u64 8, .int .u64 4194304, .int .u64 96, .int .u64 8, .int .u64 128, .int .u64 104, .int .u64 8, .int .u64 128, .int .u64 112, .int .u64 8, .int .u64 4096]
theorem fvs_at {j : Nat} (h : j < 13) : ∃ p n x : Nat, fvs[3 * j]? = some (.int .u64 p) ∧ fvs[3 * j + 1]? = some (.int .u64 n) ∧ fvs[3 * j + 2]? = some (.int .u64 x) ∧ (n = 2 ∨ n = 4 ∨ n = 8) ∧ p + n ≤ 128 ∧ x < 18446744073709551616 ∧ stt (j + 1) = putB (stt j) p x n := by
  rcases j with _ | _ | _ | _ | _ | _ | _ | _ | _ | _ | _ | _ | _ | j
  · exact ⟨16, 2, 2, rfl, rfl, rfl, by decide, by decide, by decide, rfl⟩
  · exact ⟨18, 2, 62, rfl, rfl, rfl, by decide, by decide, by decide, rfl⟩
  · exact ⟨20, 4, 1, rfl, rfl, rfl, by decide, by decide, by decide, rfl⟩
  · exact ⟨24, 8, 4194424, rfl, rfl, rfl, by decide, by decide, by decide, rfl⟩
  · exact ⟨32, 8, 64, rfl, rfl, rfl, by decide, by decide, by decide, rfl⟩
  · exact ⟨54, 2, 56, rfl, rfl, rfl, by decide, by decide, by decide, rfl⟩
  · exact ⟨56, 2, 1, rfl, rfl, rfl, by decide, by decide, by decide, rfl⟩
  · exact ⟨64, 4, 1, rfl, rfl, rfl, by decide, by decide, by decide, rfl⟩
  · exact ⟨68, 4, 5, rfl, rfl, rfl, by decide, by decide, by decide, rfl⟩
  · exact ⟨80, 8, 4194304, rfl, rfl, rfl, by decide, by decide, by decide, rfl⟩
  · exact ⟨96, 8, 128, rfl, rfl, rfl, by decide, by decide, by decide, rfl⟩
  · exact ⟨104, 8, 128, rfl, rfl, rfl, by decide, by decide, by decide, rfl⟩
  · exact ⟨112, 8, 4096, rfl, rfl, rfl, by decide, by decide, by decide, rfl⟩
  · omega
theorem stt_len : ∀ {j : Nat}, j ≤ 13 → (stt j).length = 128
  | 0, _ => rfl
  | j + 1, h => by
    obtain ⟨p, n, x, _, _, _, _, hp, _, e⟩ := fvs_at (show j < 13 by omega)
    have hj := stt_len (show j ≤ 13 by omega)
    rw [e, putB_len _ _ _ _ (by omega), hj]
theorem copy_magic (w : World) : (Builtin.copy_ #[27, 9] 3 #[.slice (some ⟨w.heap.size, 0, none⟩) 128 128, .string ⟨#[127, 69, 76, 70, 2, 1, 1]⟩]).run Tryd.prog (w.alloc (.cells (Array.replicate 128 (.int .u8 0)) 5)) = .ok (.int .i64 7) (w.alloc (.cells ((stt 0).map B8).toArray 5)) := by
  refine (Lib.run_copy_row_string (w.alloc (.cells (Array.replicate 128 (.int .u8 0)) 5)) 27 9 3 5 w.heap.size 0 128 128 ⟨#[127, 69, 76, 70, 2, 1, 1]⟩ (Array.replicate 128 (.int .u8 0)) 5 Tryd.underlying27 (by kernel_rfl) (show _ = some (Obj.cells (Array.replicate 128 (.int .u8 0)) 5 (0, 0)) from (Row.new w 5 (List.replicate 128 (.int .u8 0))).heap) (by decide) (by rw [Array.size_replicate]; decide)).trans ?_
  rw [World.setRow_alloc_new]
  rfl
set_option maxRecDepth 100000 in
set_option maxHeartbeats 8000000 in
theorem plain12_any (w : World) : Calls Tryd.prog 24 #[] w fun e w' => ∃ g, e = .returned (.slice (some ⟨g, 0, none⟩) 128 128) ∧ Byt w' (some ⟨g, 0, none⟩) 128 (stt 13) ∧ Below w.heap.size w w' := by
  have hmk : ∀ w, (Instr.makeSlice 27 (.int .i64 128) (.int .i64 128)).run Tryd.prog w = .ok (.slice (some ⟨w.heap.size, 0, none⟩) 128 128) (w.alloc (.cells (Array.replicate 128 (.int .u8 0)) 5)) := fun w => by kernel_rfl
  have hcp := copy_magic w
  obtain ⟨W, hW⟩ : ∃ W, W = w.alloc (.cells ((stt 0).map B8).toArray 5) := ⟨_, rfl⟩
  have HBW := hid (show Byt W (some ⟨w.heap.size, 0, none⟩) 128 (stt 0) from Row.byt (show Row W w.heap.size 5 ((stt 0).map B8) by rw [hW]; exact Row.new _ _ _) rfl)
  have HLW := hid (show Below w.heap.size w W by rw [hW]; exact bal _)
  rw [← hW] at hcp
  clear hW
  obtain ⟨W2, hW2⟩ : ∃ W2, W2 = W.alloc (.cells #[.int .u64 16, .int .u64 2, .int .u64 2, .int .u64 18, .int .u64 2, .int .u64 62, .int .u64 20, .int .u64 4, .int .u64 1, .int .u64 24, .int .u64 8, .int .u64 4194424, .int .u64 32, .int .u64 8, .int .u64 64, .int .u64 54, .int .u64 2, .int .u64 56, .int .u64 56, .int .u64 2, .int .u64 1, .int .u64 64, .int .u64 4, .int .u64 1, .int .u64 68, .int .u64 4, .int .u64 5, .int .u64 80, .int .u64 8, .int .u64 4194304, .int .u64 96, .int .u64 8, .int .u64 128, .int .u64 104, .int .u64 8, .int .u64 128, .int .u64 112, .int .u64 8, .int .u64 4096] 23) := ⟨_, rfl⟩
  have HW2 := hid hW2
  have HF2 := hid (show Row W2 W.heap.size 23 fvs by rw [hW2]; exact Row.new W 23 fvs)
  have HB2 := hid (show Byt W2 (some ⟨w.heap.size, 0, none⟩) 128 (stt 0) by rw [hW2]; exact HBW.out.below' (bal _))
  have HL2 := hid (show Below w.heap.size w W2 by rw [hW2]; exact HLW.out.alloc HLW.out.size _)
  clear hW2
  go_enter Tryd.func24, Tryd.ntmps24
  go_wp2_with fail
  rw [← HW2.out]
  go_wp2_with fail
  go_loopw [1, 3] (fun v i wr => ∃ (j g : Nat), j ≤ 13 ∧ i = .int .i64 ((3 * j : Nat) : Int) ∧ v = .slice (some ⟨g, 0, none⟩) 128 128 ∧ Byt wr (some ⟨g, 0, none⟩) 128 (stt j) ∧ Row wr W.heap.size 23 fvs ∧ Below w.heap.size w wr) (fun _ i _ => 39 - (intOf i).toNat)
  case atStart => exact ⟨0, w.heap.size, by omega, rfl, rfl, HB2.out, HF2.out, HL2.out⟩
  case round =>
    obtain ⟨j, g, hj, rfl, rfl, hb, hf, hl⟩ := hrel
    rename World => wA
    have HB := hid hb
    have HF := hid hf
    have HL := hid hl
    clear hb hf hl
    by_cases hlt : j < 13
    · obtain ⟨p, n, x, f0, f1, f2, hn, hp, hx, he⟩ := fvs_at hlt
      have d1 : decide (((3 * j : Nat) : Int) + 2 < 39) = true := by simp; omega
      have d2 : decide (3 * (j : Int) + 2 < 39) = true := by simp; omega
      have d3 : decide (3 * j + 2 < 39) = true := by simp; omega
      have HSET := hid (fun (w' : World) (hw : St wA w') => show Calls Tryd.prog 47 #[.slice (some ⟨g, 0, none⟩) 128 128, .int .u64 p, .int .i64 n, .int .u64 x] w' (fun e w2 => e = .returned (.tuple #[.slice (some ⟨w'.heap.size, 0, none⟩) 128 128, .int .i64 0]) ∧ Row w2 w'.heap.size 5 ((stt (j + 1)).map B8) ∧ Below w'.heap.size w' w2) from by
        rw [he]
        exact rset_yes (some ⟨g, 0, none⟩) 128 128 p n x (stt j) w' (by decide) (HB.out.below' hw) (by omega) (by omega) (by omega) (chk_in (by unfold isSz; rcases hn with rfl | rfl | rfl <;> rfl) (by omega) (by omega)))
      have c0 : ∀ w', St wA w' → w'.cell? ⟨W.heap.size, 3 * j, none⟩ = some (.int .u64 p) := fun w' hw => keepC hw ((HF.out.cell' (3 * j)).trans f0)
      have c1 : ∀ w', St wA w' → w'.cell? ⟨W.heap.size, 3 * j + 1, none⟩ = some (.int .u64 n) := fun w' hw => keepC hw ((HF.out.cell' (3 * j + 1)).trans f1)
      have c2 : ∀ w', St wA w' → w'.cell? ⟨W.heap.size, 3 * j + 2, none⟩ = some (.int .u64 x) := fun w' hw => keepC hw ((HF.out.cell' (3 * j + 2)).trans f2)
      have HLN := hid (stt_len (show j + 1 ≤ 13 by omega))
      have b0 : (0 : Int) ≤ 3 * (j : Int) ∧ 3 * (j : Int) < 39 := by omega
      have b1 : (0 : Int) ≤ 3 * (j : Int) + 1 ∧ 3 * (j : Int) + 1 < 39 := by omega
      have b2 : (0 : Int) ≤ 3 * (j : Int) + 2 ∧ 3 * (j : Int) + 2 < 39 := by omega
      have t0 : (3 * (j : Int)).toNat = 3 * j := by omega
      have t1 : (3 * (j : Int) + 1).toNat = 3 * j + 1 := by omega
      have t2 : (3 * (j : Int) + 2).toNat = 3 * j + 2 := by omega
      have HLT := hid hlt
      have ewn := IntWalk.i64_in (n : Int) ⟨by omega, by omega⟩
      have ew1 := IntWalk.i64_in (3 * (j : Int) + 1) ⟨by omega, by omega⟩
      have ew2 := IntWalk.i64_in (3 * (j : Int) + 2) ⟨by omega, by omega⟩
      have HST0 := hid (show St wA wA from Below.refl _ _)
      have hst0 := HST0.out
      clear f0 f1 f2 hn hp hx he
      go_wp2_with fail
      go_region_held3 (St wA) (first | exact St.drew _ | exact St.step (by assumption) hbx | assumption) ((go_at_call 47; refine (HSET.out _ (by first | assumption | exact St.drew _)).mono ?_; rintro e' wx ⟨rfl, hrow, hbx⟩; have HROW := hid hrow; have HBX := hid hbx; have HS11 : Hid (St wA wx) := hid (St.step (by first | assumption | exact St.drew _) hbx); clear hrow))
      clear b0 b1 b2 t0 t1 t2 c0 c1 c2 ewn ew1 ew2
      have ew3 := IntWalk.wrap64_in (3 * (j : Int) + 3) ⟨by omega, by omega⟩
      go_wp2_with fail
      go_roundw
      case rel => exact ⟨j + 1, wA.heap.size, HLT.out, by first | go_num | (congr 1; omega), rfl, Row.byt (show Row wx wA.heap.size 5 ((stt (j + 1)).map B8 ++ []) from by rw [List.append_nil]; exact HROW.out) HLN.out, HF.out.below HS11.out HF.out.lt, HL.out.trans (Below.mono (show Below wA.heap.size wA wx from HS11.out) HL.out.size)⟩
      case measure => simp [intOf]; have := HLT.out; omega
    · have d1 : decide (((3 * j : Nat) : Int) + 2 < 39) = false := by simp; omega
      have d2 : decide (3 * (j : Int) + 2 < 39) = false := by simp; omega
      have d3 : decide (3 * j + 2 < 39) = false := by simp; omega
      obtain rfl : j = 13 := by omega
      go_wp2_with fail
      go_ret
      exact ⟨g, rfl, HB.out, HL.out⟩
end Go.Proofs.YtaaohcpiideaaaaDoor
