
/- elf: checkSegment, checkLoad, segments of a kind. -/
import Derived.Test.YtaaohcpiideaaaaDoorNa1
import Derived.Test.YtaaohcpiideaaaaDoorLa3
namespace Go.Proofs.YtaaohcpiideaaaaDoor
open Go.RowKit Go.Sort Go.Shelf
attribute [local go_sem] Oper.semAt_some

/-- A check's answer. -/
def CkP (b : Bool) (w : World) (e : Ending) (w' : World) : Prop := (if b = true then e = .returned (.tuple #[]) else e = .panicked (refusal 25)) ∧ Below w.heap.size w w'
theorem ckP_no {b : Bool} {w w' : World} (h : b = false) (hb : Below w.heap.size w w') : CkP b w (.panicked (refusal 25)) w' := ⟨by rw [if_neg (by rw [h]; decide)], hb⟩
theorem ckP_yes {b : Bool} {w w' : World} (h : b = true) (hb : Below w.heap.size w w') : CkP b w (.returned (.tuple #[])) w' := ⟨by rw [if_pos h], hb⟩
set_option maxHeartbeats 4000000 in
theorem checkSegment_any (s : SG) (size fin : Int) (w : World) (hs : SGok s) (hz : size ≤ 18446744073709551615) (hf : fin ≤ 18446744073709551615) :
    Calls Tryd.prog 41 #[sgV s, .int .u64 size, .int .u64 fin] w (CkP (ckS s size fin) w) := by
  obtain ⟨W, hW⟩ : ∃ W, W = w.alloc (.cells #[.int .u32 s.kind, .int .u8 s.flags, .int .u64 s.off, .int .u64 s.addr, .int .u64 s.fsz, .int .u64 s.msz] 41) := ⟨_, rfl⟩
  have HW := hid hW
  obtain ⟨x0, x1, x2, x3, x4, x5⟩ := (show Row W w.heap.size 41 (sgC s) by rw [hW]; exact Row.new _ _ _).six
  have HLOW := hid (show Below w.heap.size w W by rw [hW]; exact bal _)
  have HI1 := hid (inside_any s.off s.fsz size W hs.z0 hz)
  have HI2 := hid (inside_any s.addr s.msz fin W hs.m0 hf)
  have HK := hid (isKnown_any s.kind W)
  clear hW hs hz hf
  show Calls Tryd.prog 41 #[.agg #[.int .u32 s.kind, .int .u8 s.flags, .int .u64 s.off, .int .u64 s.addr, .int .u64 s.fsz, .int .u64 s.msz], .int .u64 size, .int .u64 fin] w (CkP (ckS s size fin) w)
  show Calls Tryd.prog 41 #[.agg #[.int .u32 s.kind, .int .u8 s.flags, .int .u64 s.off, .int .u64 s.addr, .int .u64 s.fsz, .int .u64 s.msz], .int .u64 size, .int .u64 fin] w (CkP (ckS s size fin) w)
  by_cases h1 : s.fsz ≤ s.msz
  rotate_left
  · have e1 : decide (s.msz < s.fsz) = true := by simp; omega
    have HNO := hid (show ckS s size fin = false by
      unfold ckS
      rw [decide_eq_false h1]; simp)
    clear h1
    go_enter Tryd.func41, Tryd.ntmps41
    go_wp2_with fail
    rw [← HW.out]
    go_wp2_with fail
    refine (refuse_yes 25 W).mono ?_
    rintro e w' ⟨rfl, rfl⟩
    go_wp2_with fail
    exact ⟨rfl, ckP_no HNO.out HLOW.out⟩
  have e1 : decide (s.msz < s.fsz) = false := by simp; omega
  have H1 := hid h1
  clear h1
  by_cases h2 : insB s.off s.fsz size = true
  rotate_left
  · have e2 : insB s.off s.fsz size = false := by simpa using h2
    have HNO := hid (show ckS s size fin = false by
      unfold ckS
      rw [e2]; simp)
    clear h2
    go_enter Tryd.func41, Tryd.ntmps41
    go_wp2_with fail
    rw [← HW.out]
    go_wp2_with fail
    refine HI1.out.mono ?_
    rintro e w' ⟨rfl, rfl⟩
    go_wp2_with fail
    refine (refuse_yes 25 W).mono ?_
    rintro e w' ⟨rfl, rfl⟩
    go_wp2_with fail
    exact ⟨rfl, ckP_no HNO.out HLOW.out⟩
  by_cases h3 : knownB s.kind = true
  rotate_left
  · have e3 : knownB s.kind = false := by simpa using h3
    have HYES := hid (show ckS s size fin = true by
      unfold ckS
      rw [decide_eq_true H1.out, h2, e3]; rfl)
    clear h3
    go_enter Tryd.func41, Tryd.ntmps41
    go_wp2_with fail
    rw [← HW.out]
    go_wp2_with fail
    refine HI1.out.mono ?_
    rintro e w' ⟨rfl, rfl⟩
    go_wp2_with fail
    refine (refuse_no 25 W).mono ?_
    rintro e w' ⟨rfl, rfl⟩
    go_wp2_with fail
    refine HK.out.mono ?_
    rintro e w' ⟨rfl, rfl⟩
    go_wp2_with fail
    refine (refuse_no 25 W).mono ?_
    rintro e w' ⟨rfl, rfl⟩
    go_wp2_with fail
    first | go_end0 | refine bodyPost_ret (results_none rfl _ _ _) rfl ?_
    exact ckP_yes HYES.out HLOW.out
  by_cases h4 : insB s.addr s.msz fin = true
  rotate_left
  · have e4 : insB s.addr s.msz fin = false := by simpa using h4
    have HNO := hid (show ckS s size fin = false by
      unfold ckS
      rw [e4, h3]; simp)
    clear h4
    go_enter Tryd.func41, Tryd.ntmps41
    go_wp2_with fail
    rw [← HW.out]
    go_wp2_with fail
    refine HI1.out.mono ?_
    rintro e w' ⟨rfl, rfl⟩
    go_wp2_with fail
    refine (refuse_no 25 W).mono ?_
    rintro e w' ⟨rfl, rfl⟩
    go_wp2_with fail
    refine HK.out.mono ?_
    rintro e w' ⟨rfl, rfl⟩
    go_wp2_with fail
    refine HI2.out.mono ?_
    rintro e w' ⟨rfl, rfl⟩
    go_wp2_with fail
    refine (refuse_yes 25 W).mono ?_
    rintro e w' ⟨rfl, rfl⟩
    go_wp2_with fail
    exact ⟨rfl, ckP_no HNO.out HLOW.out⟩
  have HYES := hid (show ckS s size fin = true by
    unfold ckS
    rw [decide_eq_true H1.out, h2, h3, h4]; rfl)
  go_enter Tryd.func41, Tryd.ntmps41
  go_wp2_with fail
  rw [← HW.out]
  go_wp2_with fail
  refine HI1.out.mono ?_
  rintro e w' ⟨rfl, rfl⟩
  go_wp2_with fail
  refine (refuse_no 25 W).mono ?_
  rintro e w' ⟨rfl, rfl⟩
  go_wp2_with fail
  refine HK.out.mono ?_
  rintro e w' ⟨rfl, rfl⟩
  go_wp2_with fail
  refine HI2.out.mono ?_
  rintro e w' ⟨rfl, rfl⟩
  go_wp2_with fail
  refine (refuse_no 25 W).mono ?_
  rintro e w' ⟨rfl, rfl⟩
  go_wp2_with fail
  first | go_end0 | refine bodyPost_ret (results_none rfl _ _ _) rfl ?_
  exact ckP_yes HYES.out HLOW.out

set_option maxHeartbeats 4000000 in
theorem checkLoad_any (s : SG) (align free : Int) (w : World) (hs : SGok s) :
    Calls Tryd.prog 43 #[sgV s, .int .u64 align, .int .u64 free] w (CkP (ckL s align free) w) := by
  obtain ⟨W, hW⟩ : ∃ W, W = w.alloc (.cells #[.int .u32 s.kind, .int .u8 s.flags, .int .u64 s.off, .int .u64 s.addr, .int .u64 s.fsz, .int .u64 s.msz] 41) := ⟨_, rfl⟩
  have HW := hid hW
  obtain ⟨x0, x1, x2, x3, x4, x5⟩ := (show Row W w.heap.size 41 (sgC s) by rw [hW]; exact Row.new _ _ _).six
  have HLOW := hid (show Below w.heap.size w W by rw [hW]; exact bal _)
  have ho := hs.o0
  have ha := hs.a0
  clear hW hs
  show Calls Tryd.prog 43 #[.agg #[.int .u32 s.kind, .int .u8 s.flags, .int .u64 s.off, .int .u64 s.addr, .int .u64 s.fsz, .int .u64 s.msz], .int .u64 align, .int .u64 free] w (CkP (ckL s align free) w)
  by_cases h1 : align = 4096
  rotate_left
  · have e1 : (align != 4096) = true := by simpa using h1
    have HNO := hid (show ckL s align free = false by
      unfold ckL
      exact decide_eq_false (by rintro ⟨q1, q2, q3, q4⟩; exact h1 q1))
    clear h1
    go_enter Tryd.func43, Tryd.ntmps43
    go_wp2_with fail
    rw [← HW.out]
    go_wp2_with fail
    refine (refuse_yes 25 W).mono ?_
    rintro e w' ⟨rfl, rfl⟩
    go_wp2_with fail
    exact ⟨rfl, ckP_no HNO.out HLOW.out⟩
  subst h1
  by_cases h2 : s.off % 4096 = s.addr % 4096
  rotate_left
  · have e2 : (s.off % 4096 != s.addr % 4096) = true := by simpa using h2
    have HNO := hid (show ckL s 4096 free = false by
      unfold ckL
      exact decide_eq_false (by rintro ⟨q1, q2, q3, q4⟩; exact h2 q2))
    clear h2
    go_enter Tryd.func43, Tryd.ntmps43
    go_wp2_with fail
    rw [← HW.out]
    go_wp2_with fail
    refine (refuse_yes 25 W).mono ?_
    rintro e w' ⟨rfl, rfl⟩
    go_wp2_with fail
    exact ⟨rfl, ckP_no HNO.out HLOW.out⟩
  have e2 : (s.off % 4096 != s.addr % 4096) = false := by simpa using h2
  have H2 := hid h2
  clear h2
  by_cases h3 : ¬ s.msz = 0
  rotate_left
  · have e3 : (s.msz == 0) = true := by simpa using h3
    have HNO := hid (show ckL s 4096 free = false by
      unfold ckL
      exact decide_eq_false (by rintro ⟨q1, q2, q3, q4⟩; exact h3 q3))
    clear h3
    go_enter Tryd.func43, Tryd.ntmps43
    go_wp2_with fail
    rw [← HW.out]
    go_wp2_with fail
    refine (refuse_no 25 W).mono ?_
    rintro e w' ⟨rfl, rfl⟩
    go_wp2_with fail
    refine (refuse_yes 25 W).mono ?_
    rintro e w' ⟨rfl, rfl⟩
    go_wp2_with fail
    exact ⟨rfl, ckP_no HNO.out HLOW.out⟩
  have e3 : (s.msz == 0) = false := by simpa using h3
  have H3 := hid h3
  clear h3
  by_cases h4 : free ≤ s.addr
  rotate_left
  · have e4 : decide (s.addr < free) = true := by simp; omega
    have HNO := hid (show ckL s 4096 free = false by
      unfold ckL
      exact decide_eq_false (by rintro ⟨q1, q2, q3, q4⟩; exact h4 q4))
    clear h4
    go_enter Tryd.func43, Tryd.ntmps43
    go_wp2_with fail
    rw [← HW.out]
    go_wp2_with fail
    refine (refuse_no 25 W).mono ?_
    rintro e w' ⟨rfl, rfl⟩
    go_wp2_with fail
    refine (refuse_yes 25 W).mono ?_
    rintro e w' ⟨rfl, rfl⟩
    go_wp2_with fail
    exact ⟨rfl, ckP_no HNO.out HLOW.out⟩
  have e4 : decide (s.addr < free) = false := by simp; omega
  have HYES := hid (show ckL s 4096 free = true from decide_eq_true ⟨rfl, H2.out, H3.out, h4⟩)
  clear h4
  go_enter Tryd.func43, Tryd.ntmps43
  go_wp2_with fail
  rw [← HW.out]
  go_wp2_with fail
  refine (refuse_no 25 W).mono ?_
  rintro e w' ⟨rfl, rfl⟩
  go_wp2_with fail
  refine (refuse_no 25 W).mono ?_
  rintro e w' ⟨rfl, rfl⟩
  go_wp2_with fail
  first | go_end0 | refine bodyPost_ret (results_none rfl _ _ _) rfl ?_
  exact ckP_yes HYES.out HLOW.out
end Go.Proofs.YtaaohcpiideaaaaDoor
