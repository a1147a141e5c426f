
/- hostellaw13.large; hostelref13.Same of two that say nothing. -/
import Derived.Test.YtkkadknijjninaaDoorQc2
namespace Go.Proofs.YtkkadknijjninaaDoor
open Go.RowKit Go.Sort Go.Shelf Go.Proofs.YtkkadknijjninaaDoor.Ap
attribute [local go_sem] Oper.semAt_some

def largeB (m n : Nat) : Bool := decide (131072 < m) || decide (256 < n)
set_option maxRecDepth 100000 in
set_option maxHeartbeats 4000000 in
theorem large_any (ab : Option Addr) (len cap : Nat) (typ entry phoff : Int) (a : Option Addr) (n c : Nat) (w : World) :
    Calls Tryd.prog 7 #[.slice ab len cap, .agg #[.int .u16 typ, .int .u64 entry, .int .u64 phoff, .slice a n c]] w fun e w' => e = .returned (.bool (largeB len n)) ∧ Below w.heap.size w w' := by
  obtain ⟨W, hW⟩ : ∃ W, W = w.alloc (.cells #[.int .u16 typ, .int .u64 entry, .int .u64 phoff, .slice a n c] 27) := ⟨_, rfl⟩
  have HW := hid hW
  have HLOW := hid (show Below w.heap.size w W by rw [hW]; exact bal _)
  have HRA := hid (show Row W w.heap.size 27 [.int .u16 typ, .int .u64 entry, .int .u64 phoff, .slice a n c] by rw [hW]; exact Row.new _ _ _)
  obtain ⟨x0, x1, x2, x3⟩ := HRA.out.four
  have hrl := HRA.out.lt
  clear hW
  by_cases h1 : 131072 < len
  · have d1 : decide ((131072 : Int) < (len : Int)) = true := by simp; omega
    have d1n : decide (131072 < len) = true := by simp; omega
    have HF := hid (show largeB len n = true by unfold largeB; rw [d1n]; rfl)
    go_enter Tryd.func7, Tryd.ntmps7
    go_wp2_with fail
    try rw [← HW.out]
    try go_wp2_with fail
    go_ret
    exact ⟨by rw [HF.out]; rfl, HLOW.out⟩
  have d1 : decide ((131072 : Int) < (len : Int)) = false := by simp; omega
  have d1n : decide (131072 < len) = false := by simp; omega
  by_cases h2 : 256 < n
  · have d2 : decide ((256 : Int) < (n : Int)) = true := by simp; omega
    have d2n : decide (256 < n) = true := by simp; omega
    have HF := hid (show largeB len n = true by unfold largeB; rw [d1n, d2n]; rfl)
    clear h1 h2
    go_enter Tryd.func7, Tryd.ntmps7
    go_wp2_with fail
    rw [← HW.out]
    go_wp2_with fail
    go_ret
    exact ⟨by rw [HF.out]; rfl, HLOW.out⟩
  have d2 : decide ((256 : Int) < (n : Int)) = false := by simp; omega
  have d2n : decide (256 < n) = false := by simp; omega
  have HF := hid (show largeB len n = false by unfold largeB; rw [d1n, d2n]; rfl)
  clear h1 h2
  go_enter Tryd.func7, Tryd.ntmps7
  go_wp2_with fail
  rw [← HW.out]
  go_wp2_with fail
  go_ret
  exact ⟨by rw [HF.out]; rfl, HLOW.out⟩
set_option maxRecDepth 100000 in
set_option maxHeartbeats 4000000 in
theorem same0_any (b0 b3 b4 : Option Addr) (k0 k3 k4 : Nat) (w : World) :
    Calls Tryd.prog 19 #[.agg #[.slice b0 0 k0, .string (ba []), .string (ba []), .slice b3 0 k3, .slice b4 0 k4], .agg #[.slice none 0 0, .string (ba []), .string (ba []), .slice none 0 0, .slice none 0 0]] w fun e w' => e = .returned (.bool true) ∧ Below w.heap.size w w' := by
  obtain ⟨W, hW⟩ : ∃ W, W = (w.alloc (.cells #[.slice b0 0 k0, .string (ba []), .string (ba []), .slice b3 0 k3, .slice b4 0 k4] 41)).alloc (.cells #[.slice none 0 0, .string (ba []), .string (ba []), .slice none 0 0, .slice none 0 0] 41) := ⟨_, rfl⟩
  have HW := hid hW
  have HLOW := hid (show Below w.heap.size w W by rw [hW]; exact (bal _).alloc (bal (w := w) _).size _)
  have HRA := hid (show Row W w.heap.size 41 [.slice b0 0 k0, .string (ba []), .string (ba []), .slice b3 0 k3, .slice b4 0 k4] by rw [hW]; exact (Row.new _ _ _).alloc _)
  have HRC := hid (show Row W (w.heap.size + 1) 41 [.slice none 0 0, .string (ba []), .string (ba []), .slice none 0 0, .slice none 0 0] by
    rw [hW]
    have := Row.new (w.alloc (.cells #[.slice b0 0 k0, .string (ba []), .string (ba []), .slice b3 0 k3, .slice b4 0 k4] 41)) 41 [.slice none 0 0, .string (ba []), .string (ba []), .slice none 0 0, .slice none 0 0]
    rw [World.size_alloc] at this
    exact this)
  obtain ⟨x0, x1, x2, x3, x4⟩ := HRA.out.five
  obtain ⟨y0, y1, y2, y3, y4⟩ := HRC.out.five
  have hrl := HRA.out.lt
  have hrc := HRC.out.lt
  have HEQ := hid (fun W => eqTexts_any b0 none 0 k0 0 0 [] [] W (Cel.nil _ _) (Cel.nil _ _) (by decide) (by decide))
  have q1 : (ba []).toList = [] := ba_ls []
  clear hW
  go_enter Tryd.func19, Tryd.ntmps19
  go_wp2_with fail
  rw [← HW.out]
  refine (HEQ.out W).mono ?_
  rintro e' w1 ⟨rfl, m, rfl⟩
  rw [show eqT [] [] = true from by simp [eqT]]
  have HA := hid (HRA.out.drewN m)
  have HC := hid (HRC.out.drewN m)
  have HL := hid (bdN HLOW.out m)
  clear x0 x1 x2 x3 x4 y0 y1 y2 y3 y4 hrl hrc
  generalize World.drewN W m = W1 at HA HC HL ⊢
  obtain ⟨x0, x1, x2, x3, x4⟩ := HA.out.five
  obtain ⟨y0, y1, y2, y3, y4⟩ := HC.out.five
  have hrl := HA.out.lt
  have hrc := HC.out.lt
  go_wp2_with fail
  go_loopw [5] (fun i wr => i = .int .i64 0 ∧ wr = W1) (fun _ _ => 0)
  case atStart => exact ⟨rfl, rfl⟩
  case round =>
    obtain ⟨rfl, rfl⟩ := hrel
    go_wp2_with fail
    go_loopw [6] (fun i w2 => i = .int .i64 0 ∧ w2 = wr) (fun _ _ => 0)
    case atStart => exact ⟨rfl, rfl⟩
    case round =>
      obtain ⟨rfl, rfl⟩ := hrel
      go_wp2_with fail
      go_ret
      exact ⟨rfl, HL.out⟩
end Go.Proofs.YtkkadknijjninaaDoor
