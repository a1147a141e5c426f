
/- Package frames where there is no pool; hostellaw07.works, vast, right, twin. -/
import Derived.Test.YtllkeeeajlgkpaaDoorJA
import Derived.Test.YtllkeeeajlgkpaaDoorJP
import Derived.Laws.AppendOwnNone
namespace Go.Proofs.YtllkeeeajlgkpaaDoor
open Go.RowKit Go.Sort

theorem taken_nil (f : Int) (w : World) : Calls Tryd.prog 36 #[.pointer none, .int .i64 f] w fun e w' => e = .returned (.int .i64 2) ∧ w = w' := by
  go_enter Tryd.func36, Tryd.ntmps36
  go_wp2_with fail
  go_ret
  exact ⟨rfl, rfl⟩
theorem take_nil (w : World) : Calls Tryd.prog 11 #[.pointer none] w fun e w' => e = .returned (.tuple #[.int .i64 0, .int .i64 2]) ∧ w = w' := by
  go_enter Tryd.func11, Tryd.ntmps11
  go_wp2_with fail
  go_ret2
  exact ⟨rfl, rfl⟩
theorem up_nil (f : Int) (w : World) : Calls Tryd.prog 17 #[.pointer none, .int .i64 f] w fun e w' => e = .returned (.int .i64 2) ∧ w = w' := by
  go_enter Tryd.func17, Tryd.ntmps17
  go_wp2_with (go_at_call 36; refine (taken_nil _ _).mono ?_; rintro e' w' ⟨rfl, rfl⟩)
  go_ret
  exact ⟨rfl, rfl⟩
theorem down_nil (f : Int) (w : World) : Calls Tryd.prog 19 #[.pointer none, .int .i64 f] w fun e w' => e = .returned (.int .i64 2) ∧ w = w' := by
  go_enter Tryd.func19, Tryd.ntmps19
  go_wp2_with (go_at_call 36; refine (taken_nil _ _).mono ?_; rintro e' w' ⟨rfl, rfl⟩)
  go_ret
  exact ⟨rfl, rfl⟩
theorem load_nil (f off n : Int) (w : World) : Calls Tryd.prog 21 #[.pointer none, .int .i64 f, .int .i64 off, .int .i64 n] w fun e w' => e = .returned (.tuple #[.slice none 0 0, .int .i64 2]) ∧ w = w' := by
  go_enter Tryd.func21, Tryd.ntmps21
  go_wp2_with (go_at_call 36; refine (taken_nil _ _).mono ?_; rintro e' w' ⟨rfl, rfl⟩)
  go_ret2
  exact ⟨rfl, rfl⟩
theorem store_nil (f off : Int) (v : Value) (w : World) : Calls Tryd.prog 25 #[.pointer none, .int .i64 f, .int .i64 off, v] w fun e w' => e = .returned (.int .i64 2) ∧ w = w' := by
  go_enter Tryd.func25, Tryd.ntmps25
  go_wp2_with (go_at_call 36; refine (taken_nil _ _).mono ?_; rintro e' w' ⟨rfl, rfl⟩)
  go_ret
  exact ⟨rfl, rfl⟩
theorem copy_nil (f : Int) (w : World) : Calls Tryd.prog 27 #[.pointer none, .int .i64 f] w fun e w' => e = .returned (.tuple #[.int .i64 0, .int .i64 2]) ∧ w = w' := by
  go_enter Tryd.func27, Tryd.ntmps27
  go_wp2_with (go_at_call 36; refine (taken_nil _ _).mono ?_; rintro e' w' ⟨rfl, rfl⟩)
  go_ret2
  exact ⟨rfl, rfl⟩
theorem count_nil (f : Int) (w : World) : Calls Tryd.prog 12 #[.pointer none, .int .i64 f] w fun e w' => e = .returned (.int .i64 0) ∧ w = w' := by
  go_enter Tryd.func12, Tryd.ntmps12
  go_wp2_with fail
  go_ret
  exact ⟨rfl, rfl⟩
theorem free_nil (w : World) : Calls Tryd.prog 13 #[.pointer none] w fun e w' => e = .returned (.int .i64 0) ∧ w = w' := by
  go_enter Tryd.func13, Tryd.ntmps13
  go_wp2_with fail
  go_ret
  exact ⟨rfl, rfl⟩
theorem size_nil (w : World) : Calls Tryd.prog 14 #[.pointer none] w fun e w' => e = .returned (.int .i64 0) ∧ w = w' := by
  go_enter Tryd.func14, Tryd.ntmps14
  go_wp2_with fail
  go_ret
  exact ⟨rfl, rfl⟩

/-- The table stands where two blocks turn that lie above. -/
theorem Tb.ex {w w' : World} {a b : Nat} (h : Tb w) (hx : Ex w w' a b) (ha : 0 ≠ a) (hb : 0 ≠ b) : Tb w' := fun j hj => hx.cell (h j hj) ha hb
theorem Tb.below {w w' : World} (h : Tb w) (hb : Below w.heap.size w w') : Tb w' := fun j hj => keepC hb (h j hj)
theorem Tb.lt {w : World} (h : Tb w) : 0 < w.heap.size := World.block_lt_of_cell? w _ (h 0 (by omega))

def wF : List FR := [one0, fr0]
theorem w_take : takeV (List.replicate 2 fr0) = 0 ∧ takeE (List.replicate 2 fr0) = 0 ∧ takeS (List.replicate 2 fr0) = wF := ⟨by kernel_rfl, by kernel_rfl, by kernel_rfl⟩
theorem w_cnt : cntF wF 0 = 1 ∧ freeN wF = 1 ∧ wF.length = 2 := ⟨by kernel_rfl, by kernel_rfl, by kernel_rfl⟩
set_option maxHeartbeats 1000000 in
theorem works_any (w : World) (hT : Tb w) :
    Calls Tryd.prog 5 #[] w fun e w' => e = .returned (.bool true) ∧ Below w.heap.size w w' := by
  have HT := hid hT
  have hgl := hT.lt
  clear hT
  go_enter Tryd.func5, Tryd.ntmps5
  go_wp2_with fail
  refine (new_any 2 w (by omega) (by omega)).mono ?_
  rintro e' w1 ⟨p, g, h, ws, rfl, hpl, hp, hg, hh, hb⟩
  have HP1 := hid hpl
  have HB1 := hid hb
  have HT1 := hid (HT.out.below hb)
  clear hpl hb
  go_wp2_with fail
  refine (take_any p g h _ ws w1 HP1.out HT1.out).mono ?_
  rintro e' w2 ⟨rfl, ⟨ws2, hpl⟩, hx⟩
  rw [w_take.1, w_take.2.1]
  rw [w_take.2.2] at hpl
  have HP2 := hid hpl
  have HB2 := hid (hx.below HB1.out hg hh HB1.out.size)
  have HC := hid (count_any p g h wF ws2 0 w2 hpl)
  rw [w_cnt.1] at HC
  have HF := hid (free_any p g h wF ws2 w2 hpl)
  rw [w_cnt.2.1] at HF
  have HS := hid (size_any p g h wF ws2 w2 hpl)
  rw [w_cnt.2.2] at HS
  clear hpl hx
  go_wp2_with (first | (go_at_call 12; refine (HC.out).mono ?_; rintro e' w' ⟨rfl, rfl⟩) | (go_at_call 13; refine (HF.out).mono ?_; rintro e' w' ⟨rfl, rfl⟩) | (go_at_call 14; refine (HS.out).mono ?_; rintro e' w' ⟨rfl, rfl⟩))
  go_ret
  exact ⟨rfl, HB2.out⟩
end Go.Proofs.YtllkeeeajlgkpaaDoor
