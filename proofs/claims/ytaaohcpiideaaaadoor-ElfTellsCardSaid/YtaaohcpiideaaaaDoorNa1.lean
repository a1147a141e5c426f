
/- elf: refuse, field, header, segment. -/
import Derived.Test.YtaaohcpiideaaaaDoorNa0
import Derived.Test.YtaaohcpiideaaaaDoorLa1
import Derived.Test.YtaaohcpiideaaaaDoorShelf
import Derived.Test.YtaaohcpiideaaaaDoorSL
namespace Go.Proofs.YtaaohcpiideaaaaDoor
open Go.RowKit Go.Sort Go.Shelf
attribute [local go_sem] Oper.semAt_some

def refusal (e : Int) : List PanicEntry := [{ v := .iface 61 (.agg #[.int .i64 e]), recovered := false }]
theorem refuse_no (e : Int) (w : World) : Calls Tryd.prog 39 #[.bool false, .int .i64 e] w fun x w' => x = .returned (.tuple #[]) ∧ w = w' := by
  go_enter Tryd.func39, Tryd.ntmps39
  go_wp2_with fail
  first | go_end0 | refine bodyPost_ret (results_none rfl _ _ _) rfl ?_
  exact ⟨rfl, rfl⟩
theorem refuse_yes (e : Int) (w : World) : Calls Tryd.prog 39 #[.bool true, .int .i64 e] w fun x w' => x = .panicked (refusal e) ∧ w = w' := by
  go_enter Tryd.func39, Tryd.ntmps39
  go_wp2_with fail
  exact ⟨rfl, rfl, rfl⟩
theorem field_ok (a : Option Addr) (len cap : Nat) (p n : Int) (l : List UInt8) (w : World) (hs : Sizes w) (hl : len ≤ 9223372036854775807) (hB : Byt w a len l) (hp : 0 ≤ p) (hc : chk len p n = 0) :
    Calls Tryd.prog 44 #[.slice a len cap, .int .u64 p, .int .i64 n] w fun x w' => x = .returned (.int .u64 (wgetV l p n)) ∧ w = w' := by
  go_enter Tryd.func44, Tryd.ntmps44
  go_wp2_with fail
  refine (get_any a len cap p n l w hs hl hB hp).mono ?_
  rintro e w' ⟨rfl, rfl⟩
  rw [hc]
  go_wp2_with fail
  refine (refuse_no 25 w).mono ?_
  rintro e w' ⟨rfl, rfl⟩
  go_wp2_with fail
  go_ret
  exact ⟨rfl, rfl⟩
theorem addressEnd_any (typ : Int) (w : World) : Calls Tryd.prog 42 #[.int .u16 typ] w fun x w' => x = .returned (.int .u64 (finOf typ)) ∧ w = w' := by
  by_cases h : typ = 2
  · subst h
    go_enter Tryd.func42, Tryd.ntmps42
    go_wp2_with fail
    go_ret
    exact ⟨rfl, rfl⟩
  · have h1 : (typ == 2) = false := by simpa using h
    have e : finOf typ = 4294967296 := if_neg h
    rw [e]
    go_enter Tryd.func42, Tryd.ntmps42
    go_wp2_with fail
    go_ret
    exact ⟨rfl, rfl⟩
theorem isKnown_any (k : Int) (w : World) : Calls Tryd.prog 53 #[.int .u32 k] w fun x w' => x = .returned (.bool (knownB k)) ∧ w = w' := by
  have hb : ∀ b, knownB k = b → Ending.returned (.bool b) = .returned (.bool (knownB k)) := fun b h => by rw [h]
  go_enter Tryd.func53, Tryd.ntmps53
  go_wp2_with fail
  all_goals go_ret
  all_goals exact ⟨hb _ (by unfold knownB; simp_all), rfl⟩
theorem magic_prefix (l : List UInt8) : Lib.hasPrefix l [127, 69, 76, 70, 2, 1, 1] = decide (l.take 7 = elfMagic) := by
  unfold Lib.hasPrefix elfMagic
  rw [Bool.eq_iff_iff, List.isPrefixOf_iff_prefix, List.prefix_iff_eq_take, decide_eq_true_eq]
  exact eq_comm
/-- What the header's answer is. -/
def HeadP (l : List UInt8) (w : World) (e : Ending) (w' : World) : Prop :=
  (if hdB l = true then e = .returned (.tuple #[.agg #[.int .u16 (wgetV l 16 2), .int .u64 (wgetV l 24 8), .int .u64 (wgetV l 32 8), .slice none 0 0], .int .u64 (wgetV l 56 2)]) else e = .panicked (refusal 13)) ∧ Below w.heap.size w w'
theorem headP_no {l : List UInt8} {w w' : World} (h : hdB l = false) (hb : Below w.heap.size w w') : HeadP l w (.panicked (refusal 13)) w' := ⟨by rw [if_neg (by rw [h]; decide)], hb⟩
theorem headP_yes {l : List UInt8} {w w' : World} (h : hdB l = true) (hb : Below w.heap.size w w') : HeadP l w (.returned (.tuple #[.agg #[.int .u16 (wgetV l 16 2), .int .u64 (wgetV l 24 8), .int .u64 (wgetV l 32 8), .slice none 0 0], .int .u64 (wgetV l 56 2)])) w' := ⟨by rw [if_pos h], hb⟩
theorem hdB_no {l : List UInt8} (h : ¬ (64 ≤ l.length ∧ l.take 7 = elfMagic ∧ (wgetV l 16 2 = 2 ∨ wgetV l 16 2 = 3) ∧ wgetV l 18 2 = 62 ∧ wgetV l 20 4 = 1 ∧ wgetV l 54 2 = 56 ∧ ¬ wgetV l 56 2 = 0 ∧ wgetV l 56 2 ≤ 8)) : hdB l = false := by
  unfold hdB
  rw [← Bool.not_eq_true]
  intro e
  rw [Bool.and_eq_true, Bool.and_eq_true, decide_eq_true_eq, decide_eq_true_eq, decide_eq_true_eq] at e
  exact h ⟨e.1.1, e.1.2, e.2⟩
set_option maxHeartbeats 4000000 in
theorem header_any (a : Option Addr) (cap : Nat) (l : List UInt8) (w : World) (hs : Sizes w) (hB : Byt w a l.length l) (hl : l.length ≤ 1000000) (hlc : l.length ≤ cap) :
    Calls Tryd.prog 38 #[.slice a l.length cap] w (HeadP l w) := by
  obtain ⟨W, hW⟩ : ∃ W, W = w.alloc (.cells #[.int .u16 0, .int .u64 0, .int .u64 0, .slice none 0 0] 26) := ⟨_, rfl⟩
  have HW := hid hW
  have HBW := hid (show Byt W a l.length l by rw [hW]; exact hB.below' (bal _))
  have HSW := hid (show Sizes W by rw [hW]; exact hs.below (bal _))
  have HLOW := hid (show Below w.heap.size w W by rw [hW]; exact bal _)
  clear hB hs
  by_cases h64 : l.length < 64
  · have d1 : decide ((l.length : Int) < 64) = true := by simp; omega
    have d1n : decide (l.length < 64) = true := by simp; omega
    have HNO := hid (hdB_no (l := l) (by rintro ⟨h1, _⟩; omega))
    clear h64 hW
    go_enter Tryd.func38, Tryd.ntmps38
    go_wp2_with fail
    rw [← HW.out]
    refine (refuse_yes 13 W).mono ?_
    rintro e w' ⟨rfl, rfl⟩
    go_wp2_with fail
    exact ⟨rfl, headP_no HNO.out HLOW.out⟩
  have d1 : decide ((l.length : Int) < 64) = false := by simp; omega
  have d1n : decide (l.length < 64) = false := by simp; omega
  have hsl := slTo .i64 a l.length cap 64 64 rfl (by omega)
  have hcv := (HBW.out.upto (n := 64) (by omega)).str 27 9 5 cap Tryd.underlying27 Tryd.underlying5 Tryd.underlying9
  have HPF := hid (show Lib.hasPrefix (ByteArray.mk (l.take 64).toArray).data.toList (ByteArray.mk #[127, 69, 76, 70, 2, 1, 1]).data.toList = decide (l.take 7 = elfMagic) by
    show Lib.hasPrefix (l.take 64) [127, 69, 76, 70, 2, 1, 1] = _
    rw [magic_prefix, List.take_take]
    rfl)
  have HF := hid (fun (p n : Int) (h0 : 0 ≤ p) (hz : isSz n = true) (h : p + n ≤ 64) => field_ok a l.length cap p n l W HSW.out (by omega) HBW.out h0 (chk_in hz h0 (by omega)))
  rw [hW] at hcv
  clear hW
  by_cases hm : l.take 7 = elfMagic
  rotate_left
  · have HNO := hid (hdB_no (l := l) (by rintro ⟨_, h1, _⟩; exact hm h1))
    have HPF2 := hid (HPF.out.trans (decide_eq_false hm))
    clear hm h64
    go_enter Tryd.func38, Tryd.ntmps38
    go_wp2_with fail
    refine (Tryd.strings_HasPrefix _ _ _).mono ?_
    rintro e' w1 ⟨rfl, rfl⟩
    rw [HPF2.out]
    rw [← HW.out]
    go_wp2_with fail
    refine (refuse_yes 13 W).mono ?_
    rintro e w' ⟨rfl, rfl⟩
    go_wp2_with fail
    exact ⟨rfl, headP_no HNO.out HLOW.out⟩
  have HPF2 := hid (HPF.out.trans (decide_eq_true hm))
  have HM := hid hm
  have H64 := hid (show 64 ≤ l.length by omega)
  have hwt := IntWalk.u16_in (wgetV l 16 2) ⟨wgetV_u, wget2⟩
  clear hm h64
  by_cases ht : wgetV l 16 2 = 2 ∨ wgetV l 16 2 = 3
  rotate_left
  · have HNO := hid (hdB_no (l := l) (by rintro ⟨_, _, h1, _⟩; exact ht h1))
    have e1 : (wgetV l 16 2 != 2) = true := by simp; omega
    have e2 : (wgetV l 16 2 != 3) = true := by simp; omega
    clear ht
    go_enter Tryd.func38, Tryd.ntmps38
    go_wp2_with fail
    refine (Tryd.strings_HasPrefix _ _ _).mono ?_
    rintro e' w1 ⟨rfl, rfl⟩
    rw [HPF2.out]
    rw [← HW.out]
    go_wp2_with fail
    refine (refuse_no 13 W).mono ?_
    rintro e w' ⟨rfl, rfl⟩
    go_wp2_with fail
    refine (HF.out 16 2 (by omega) rfl (by omega)).mono ?_
    rintro e w' ⟨rfl, rfl⟩
    go_wp2_with fail
    refine (refuse_yes 13 W).mono ?_
    rintro e w' ⟨rfl, rfl⟩
    go_wp2_with fail
    exact ⟨rfl, headP_no HNO.out HLOW.out⟩
  have HT := hid ht
  clear ht
  by_cases h2 : wgetV l 16 2 = 2
  · have e1 : (wgetV l 16 2 != 2) = false := by simp [h2]
    clear h2
    by_cases h18 : wgetV l 18 2 = 62
    rotate_left
    · have HNO := hid (hdB_no (l := l) (by rintro ⟨_, _, _, h1, _⟩; exact h18 h1))
      have e3 : (wgetV l 18 2 != 62) = true := by simpa using h18
      clear h18
      go_enter Tryd.func38, Tryd.ntmps38
      go_wp2_with fail
      refine (Tryd.strings_HasPrefix _ _ _).mono ?_
      rintro e' w1 ⟨rfl, rfl⟩
      rw [HPF2.out]
      rw [← HW.out]
      go_wp2_with fail
      refine (refuse_no 13 W).mono ?_
      rintro e w' ⟨rfl, rfl⟩
      go_wp2_with fail
      refine (HF.out 16 2 (by omega) rfl (by omega)).mono ?_
      rintro e w' ⟨rfl, rfl⟩
      go_wp2_with fail
      refine (refuse_no 13 W).mono ?_
      rintro e w' ⟨rfl, rfl⟩
      go_wp2_with fail
      refine (HF.out 18 2 (by omega) rfl (by omega)).mono ?_
      rintro e w' ⟨rfl, rfl⟩
      go_wp2_with fail
      refine (refuse_yes 13 W).mono ?_
      rintro e w' ⟨rfl, rfl⟩
      go_wp2_with fail
      exact ⟨rfl, headP_no HNO.out HLOW.out⟩
    have e3 : (wgetV l 18 2 != 62) = false := by simp [h18]
    have H18 := hid h18
    clear h18
    by_cases h20 : wgetV l 20 4 = 1
    rotate_left
    · have HNO := hid (hdB_no (l := l) (by rintro ⟨_, _, _, _, h1, _⟩; exact h20 h1))
      have e4 : (wgetV l 20 4 != 1) = true := by simpa using h20
      clear h20
      go_enter Tryd.func38, Tryd.ntmps38
      go_wp2_with fail
      refine (Tryd.strings_HasPrefix _ _ _).mono ?_
      rintro e' w1 ⟨rfl, rfl⟩
      rw [HPF2.out]
      rw [← HW.out]
      go_wp2_with fail
      refine (refuse_no 13 W).mono ?_
      rintro e w' ⟨rfl, rfl⟩
      go_wp2_with fail
      refine (HF.out 16 2 (by omega) rfl (by omega)).mono ?_
      rintro e w' ⟨rfl, rfl⟩
      go_wp2_with fail
      refine (refuse_no 13 W).mono ?_
      rintro e w' ⟨rfl, rfl⟩
      go_wp2_with fail
      refine (HF.out 18 2 (by omega) rfl (by omega)).mono ?_
      rintro e w' ⟨rfl, rfl⟩
      go_wp2_with fail
      refine (HF.out 20 4 (by omega) rfl (by omega)).mono ?_
      rintro e w' ⟨rfl, rfl⟩
      go_wp2_with fail
      refine (refuse_yes 13 W).mono ?_
      rintro e w' ⟨rfl, rfl⟩
      go_wp2_with fail
      exact ⟨rfl, headP_no HNO.out HLOW.out⟩
    have e4 : (wgetV l 20 4 != 1) = false := by simp [h20]
    have H20 := hid h20
    clear h20
    by_cases h54 : wgetV l 54 2 = 56
    rotate_left
    · have HNO := hid (hdB_no (l := l) (by rintro ⟨_, _, _, _, _, h1, _⟩; exact h54 h1))
      have e5 : (wgetV l 54 2 != 56) = true := by simpa using h54
      clear h54
      go_enter Tryd.func38, Tryd.ntmps38
      go_wp2_with fail
      refine (Tryd.strings_HasPrefix _ _ _).mono ?_
      rintro e' w1 ⟨rfl, rfl⟩
      rw [HPF2.out]
      rw [← HW.out]
      go_wp2_with fail
      refine (refuse_no 13 W).mono ?_
      rintro e w' ⟨rfl, rfl⟩
      go_wp2_with fail
      refine (HF.out 16 2 (by omega) rfl (by omega)).mono ?_
      rintro e w' ⟨rfl, rfl⟩
      go_wp2_with fail
      refine (refuse_no 13 W).mono ?_
      rintro e w' ⟨rfl, rfl⟩
      go_wp2_with fail
      refine (HF.out 18 2 (by omega) rfl (by omega)).mono ?_
      rintro e w' ⟨rfl, rfl⟩
      go_wp2_with fail
      refine (HF.out 20 4 (by omega) rfl (by omega)).mono ?_
      rintro e w' ⟨rfl, rfl⟩
      go_wp2_with fail
      refine (refuse_no 13 W).mono ?_
      rintro e w' ⟨rfl, rfl⟩
      go_wp2_with fail
      refine (HF.out 56 2 (by omega) rfl (by omega)).mono ?_
      rintro e w' ⟨rfl, rfl⟩
      go_wp2_with fail
      refine (HF.out 54 2 (by omega) rfl (by omega)).mono ?_
      rintro e w' ⟨rfl, rfl⟩
      go_wp2_with fail
      refine (refuse_yes 13 W).mono ?_
      rintro e w' ⟨rfl, rfl⟩
      go_wp2_with fail
      exact ⟨rfl, headP_no HNO.out HLOW.out⟩
    have e5 : (wgetV l 54 2 != 56) = false := by simp [h54]
    have H54 := hid h54
    clear h54
    by_cases h56 : ¬ wgetV l 56 2 = 0
    rotate_left
    · have HNO := hid (hdB_no (l := l) (by rintro ⟨_, _, _, _, _, _, h1, _⟩; exact h56 h1))
      have e6 : (wgetV l 56 2 == 0) = true := by simpa using h56
      clear h56
      go_enter Tryd.func38, Tryd.ntmps38
      go_wp2_with fail
      refine (Tryd.strings_HasPrefix _ _ _).mono ?_
      rintro e' w1 ⟨rfl, rfl⟩
      rw [HPF2.out]
      rw [← HW.out]
      go_wp2_with fail
      refine (refuse_no 13 W).mono ?_
      rintro e w' ⟨rfl, rfl⟩
      go_wp2_with fail
      refine (HF.out 16 2 (by omega) rfl (by omega)).mono ?_
      rintro e w' ⟨rfl, rfl⟩
      go_wp2_with fail
      refine (refuse_no 13 W).mono ?_
      rintro e w' ⟨rfl, rfl⟩
      go_wp2_with fail
      refine (HF.out 18 2 (by omega) rfl (by omega)).mono ?_
      rintro e w' ⟨rfl, rfl⟩
      go_wp2_with fail
      refine (HF.out 20 4 (by omega) rfl (by omega)).mono ?_
      rintro e w' ⟨rfl, rfl⟩
      go_wp2_with fail
      refine (refuse_no 13 W).mono ?_
      rintro e w' ⟨rfl, rfl⟩
      go_wp2_with fail
      refine (HF.out 56 2 (by omega) rfl (by omega)).mono ?_
      rintro e w' ⟨rfl, rfl⟩
      go_wp2_with fail
      refine (HF.out 54 2 (by omega) rfl (by omega)).mono ?_
      rintro e w' ⟨rfl, rfl⟩
      go_wp2_with fail
      refine (refuse_yes 13 W).mono ?_
      rintro e w' ⟨rfl, rfl⟩
      go_wp2_with fail
      exact ⟨rfl, headP_no HNO.out HLOW.out⟩
    have e6 : (wgetV l 56 2 == 0) = false := by simpa using h56
    have H56 := hid h56
    clear h56
    by_cases h57 : wgetV l 56 2 ≤ 8
    rotate_left
    · have HNO := hid (hdB_no (l := l) (by rintro ⟨_, _, _, _, _, _, _, h1⟩; exact h57 h1))
      have e7 : decide (8 < wgetV l 56 2) = true := by simp; omega
      clear h57
      go_enter Tryd.func38, Tryd.ntmps38
      go_wp2_with fail
      refine (Tryd.strings_HasPrefix _ _ _).mono ?_
      rintro e' w1 ⟨rfl, rfl⟩
      rw [HPF2.out]
      rw [← HW.out]
      go_wp2_with fail
      refine (refuse_no 13 W).mono ?_
      rintro e w' ⟨rfl, rfl⟩
      go_wp2_with fail
      refine (HF.out 16 2 (by omega) rfl (by omega)).mono ?_
      rintro e w' ⟨rfl, rfl⟩
      go_wp2_with fail
      refine (refuse_no 13 W).mono ?_
      rintro e w' ⟨rfl, rfl⟩
      go_wp2_with fail
      refine (HF.out 18 2 (by omega) rfl (by omega)).mono ?_
      rintro e w' ⟨rfl, rfl⟩
      go_wp2_with fail
      refine (HF.out 20 4 (by omega) rfl (by omega)).mono ?_
      rintro e w' ⟨rfl, rfl⟩
      go_wp2_with fail
      refine (refuse_no 13 W).mono ?_
      rintro e w' ⟨rfl, rfl⟩
      go_wp2_with fail
      refine (HF.out 56 2 (by omega) rfl (by omega)).mono ?_
      rintro e w' ⟨rfl, rfl⟩
      go_wp2_with fail
      refine (HF.out 54 2 (by omega) rfl (by omega)).mono ?_
      rintro e w' ⟨rfl, rfl⟩
      go_wp2_with fail
      refine (refuse_yes 13 W).mono ?_
      rintro e w' ⟨rfl, rfl⟩
      go_wp2_with fail
      exact ⟨rfl, headP_no HNO.out HLOW.out⟩
    have e7 : decide (8 < wgetV l 56 2) = false := by simp; omega
    have HYES := hid (show hdB l = true by
      unfold hdB
      rw [Bool.and_eq_true, Bool.and_eq_true, decide_eq_true_eq, decide_eq_true_eq, decide_eq_true_eq]
      exact ⟨⟨H64.out, HM.out⟩, HT.out, H18.out, H20.out, H54.out, H56.out, h57⟩)
    clear h57
    go_enter Tryd.func38, Tryd.ntmps38
    go_wp2_with fail
    refine (Tryd.strings_HasPrefix _ _ _).mono ?_
    rintro e' w1 ⟨rfl, rfl⟩
    rw [HPF2.out]
    rw [← HW.out]
    go_wp2_with fail
    refine (refuse_no 13 W).mono ?_
    rintro e w' ⟨rfl, rfl⟩
    go_wp2_with fail
    refine (HF.out 16 2 (by omega) rfl (by omega)).mono ?_
    rintro e w' ⟨rfl, rfl⟩
    go_wp2_with fail
    refine (refuse_no 13 W).mono ?_
    rintro e w' ⟨rfl, rfl⟩
    go_wp2_with fail
    refine (HF.out 18 2 (by omega) rfl (by omega)).mono ?_
    rintro e w' ⟨rfl, rfl⟩
    go_wp2_with fail
    refine (HF.out 20 4 (by omega) rfl (by omega)).mono ?_
    rintro e w' ⟨rfl, rfl⟩
    go_wp2_with fail
    refine (refuse_no 13 W).mono ?_
    rintro e w' ⟨rfl, rfl⟩
    go_wp2_with fail
    refine (HF.out 56 2 (by omega) rfl (by omega)).mono ?_
    rintro e w' ⟨rfl, rfl⟩
    go_wp2_with fail
    refine (HF.out 54 2 (by omega) rfl (by omega)).mono ?_
    rintro e w' ⟨rfl, rfl⟩
    go_wp2_with fail
    refine (refuse_no 13 W).mono ?_
    rintro e w' ⟨rfl, rfl⟩
    go_wp2_with fail
    refine (HF.out 24 8 (by omega) rfl (by omega)).mono ?_
    rintro e w' ⟨rfl, rfl⟩
    go_wp2_with fail
    refine (HF.out 32 8 (by omega) rfl (by omega)).mono ?_
    rintro e w' ⟨rfl, rfl⟩
    rw [HW.out]
    go_wp2_with fail
    refine bodyPost_ret (v := .tuple #[.agg #[.int .u16 (wgetV l 16 2), .int .u64 (wgetV l 24 8), .int .u64 (wgetV l 32 8), .slice none 0 0], .int .u64 (wgetV l 56 2)]) (by simp [results, Tryd.results38, go_sem]) rfl ?_
    exact headP_yes HYES.out (bal _)
  · have e1 : (wgetV l 16 2 != 2) = true := by simpa using h2
    have e2 : (wgetV l 16 2 != 3) = false := by have := HT.out; simp; omega
    clear h2
    by_cases h18 : wgetV l 18 2 = 62
    rotate_left
    · have HNO := hid (hdB_no (l := l) (by rintro ⟨_, _, _, h1, _⟩; exact h18 h1))
      have e3 : (wgetV l 18 2 != 62) = true := by simpa using h18
      clear h18
      go_enter Tryd.func38, Tryd.ntmps38
      go_wp2_with fail
      refine (Tryd.strings_HasPrefix _ _ _).mono ?_
      rintro e' w1 ⟨rfl, rfl⟩
      rw [HPF2.out]
      rw [← HW.out]
      go_wp2_with fail
      refine (refuse_no 13 W).mono ?_
      rintro e w' ⟨rfl, rfl⟩
      go_wp2_with fail
      refine (HF.out 16 2 (by omega) rfl (by omega)).mono ?_
      rintro e w' ⟨rfl, rfl⟩
      go_wp2_with fail
      refine (refuse_no 13 W).mono ?_
      rintro e w' ⟨rfl, rfl⟩
      go_wp2_with fail
      refine (HF.out 18 2 (by omega) rfl (by omega)).mono ?_
      rintro e w' ⟨rfl, rfl⟩
      go_wp2_with fail
      refine (refuse_yes 13 W).mono ?_
      rintro e w' ⟨rfl, rfl⟩
      go_wp2_with fail
      exact ⟨rfl, headP_no HNO.out HLOW.out⟩
    have e3 : (wgetV l 18 2 != 62) = false := by simp [h18]
    have H18 := hid h18
    clear h18
    by_cases h20 : wgetV l 20 4 = 1
    rotate_left
    · have HNO := hid (hdB_no (l := l) (by rintro ⟨_, _, _, _, h1, _⟩; exact h20 h1))
      have e4 : (wgetV l 20 4 != 1) = true := by simpa using h20
      clear h20
      go_enter Tryd.func38, Tryd.ntmps38
      go_wp2_with fail
      refine (Tryd.strings_HasPrefix _ _ _).mono ?_
      rintro e' w1 ⟨rfl, rfl⟩
      rw [HPF2.out]
      rw [← HW.out]
      go_wp2_with fail
      refine (refuse_no 13 W).mono ?_
      rintro e w' ⟨rfl, rfl⟩
      go_wp2_with fail
      refine (HF.out 16 2 (by omega) rfl (by omega)).mono ?_
      rintro e w' ⟨rfl, rfl⟩
      go_wp2_with fail
      refine (refuse_no 13 W).mono ?_
      rintro e w' ⟨rfl, rfl⟩
      go_wp2_with fail
      refine (HF.out 18 2 (by omega) rfl (by omega)).mono ?_
      rintro e w' ⟨rfl, rfl⟩
      go_wp2_with fail
      refine (HF.out 20 4 (by omega) rfl (by omega)).mono ?_
      rintro e w' ⟨rfl, rfl⟩
      go_wp2_with fail
      refine (refuse_yes 13 W).mono ?_
      rintro e w' ⟨rfl, rfl⟩
      go_wp2_with fail
      exact ⟨rfl, headP_no HNO.out HLOW.out⟩
    have e4 : (wgetV l 20 4 != 1) = false := by simp [h20]
    have H20 := hid h20
    clear h20
    by_cases h54 : wgetV l 54 2 = 56
    rotate_left
    · have HNO := hid (hdB_no (l := l) (by rintro ⟨_, _, _, _, _, h1, _⟩; exact h54 h1))
      have e5 : (wgetV l 54 2 != 56) = true := by simpa using h54
      clear h54
      go_enter Tryd.func38, Tryd.ntmps38
      go_wp2_with fail
      refine (Tryd.strings_HasPrefix _ _ _).mono ?_
      rintro e' w1 ⟨rfl, rfl⟩
      rw [HPF2.out]
      rw [← HW.out]
      go_wp2_with fail
      refine (refuse_no 13 W).mono ?_
      rintro e w' ⟨rfl, rfl⟩
      go_wp2_with fail
      refine (HF.out 16 2 (by omega) rfl (by omega)).mono ?_
      rintro e w' ⟨rfl, rfl⟩
      go_wp2_with fail
      refine (refuse_no 13 W).mono ?_
      rintro e w' ⟨rfl, rfl⟩
      go_wp2_with fail
      refine (HF.out 18 2 (by omega) rfl (by omega)).mono ?_
      rintro e w' ⟨rfl, rfl⟩
      go_wp2_with fail
      refine (HF.out 20 4 (by omega) rfl (by omega)).mono ?_
      rintro e w' ⟨rfl, rfl⟩
      go_wp2_with fail
      refine (refuse_no 13 W).mono ?_
      rintro e w' ⟨rfl, rfl⟩
      go_wp2_with fail
      refine (HF.out 56 2 (by omega) rfl (by omega)).mono ?_
      rintro e w' ⟨rfl, rfl⟩
      go_wp2_with fail
      refine (HF.out 54 2 (by omega) rfl (by omega)).mono ?_
      rintro e w' ⟨rfl, rfl⟩
      go_wp2_with fail
      refine (refuse_yes 13 W).mono ?_
      rintro e w' ⟨rfl, rfl⟩
      go_wp2_with fail
      exact ⟨rfl, headP_no HNO.out HLOW.out⟩
    have e5 : (wgetV l 54 2 != 56) = false := by simp [h54]
    have H54 := hid h54
    clear h54
    by_cases h56 : ¬ wgetV l 56 2 = 0
    rotate_left
    · have HNO := hid (hdB_no (l := l) (by rintro ⟨_, _, _, _, _, _, h1, _⟩; exact h56 h1))
      have e6 : (wgetV l 56 2 == 0) = true := by simpa using h56
      clear h56
      go_enter Tryd.func38, Tryd.ntmps38
      go_wp2_with fail
      refine (Tryd.strings_HasPrefix _ _ _).mono ?_
      rintro e' w1 ⟨rfl, rfl⟩
      rw [HPF2.out]
      rw [← HW.out]
      go_wp2_with fail
      refine (refuse_no 13 W).mono ?_
      rintro e w' ⟨rfl, rfl⟩
      go_wp2_with fail
      refine (HF.out 16 2 (by omega) rfl (by omega)).mono ?_
      rintro e w' ⟨rfl, rfl⟩
      go_wp2_with fail
      refine (refuse_no 13 W).mono ?_
      rintro e w' ⟨rfl, rfl⟩
      go_wp2_with fail
      refine (HF.out 18 2 (by omega) rfl (by omega)).mono ?_
      rintro e w' ⟨rfl, rfl⟩
      go_wp2_with fail
      refine (HF.out 20 4 (by omega) rfl (by omega)).mono ?_
      rintro e w' ⟨rfl, rfl⟩
      go_wp2_with fail
      refine (refuse_no 13 W).mono ?_
      rintro e w' ⟨rfl, rfl⟩
      go_wp2_with fail
      refine (HF.out 56 2 (by omega) rfl (by omega)).mono ?_
      rintro e w' ⟨rfl, rfl⟩
      go_wp2_with fail
      refine (HF.out 54 2 (by omega) rfl (by omega)).mono ?_
      rintro e w' ⟨rfl, rfl⟩
      go_wp2_with fail
      refine (refuse_yes 13 W).mono ?_
      rintro e w' ⟨rfl, rfl⟩
      go_wp2_with fail
      exact ⟨rfl, headP_no HNO.out HLOW.out⟩
    have e6 : (wgetV l 56 2 == 0) = false := by simpa using h56
    have H56 := hid h56
    clear h56
    by_cases h57 : wgetV l 56 2 ≤ 8
    rotate_left
    · have HNO := hid (hdB_no (l := l) (by rintro ⟨_, _, _, _, _, _, _, h1⟩; exact h57 h1))
      have e7 : decide (8 < wgetV l 56 2) = true := by simp; omega
      clear h57
      go_enter Tryd.func38, Tryd.ntmps38
      go_wp2_with fail
      refine (Tryd.strings_HasPrefix _ _ _).mono ?_
      rintro e' w1 ⟨rfl, rfl⟩
      rw [HPF2.out]
      rw [← HW.out]
      go_wp2_with fail
      refine (refuse_no 13 W).mono ?_
      rintro e w' ⟨rfl, rfl⟩
      go_wp2_with fail
      refine (HF.out 16 2 (by omega) rfl (by omega)).mono ?_
      rintro e w' ⟨rfl, rfl⟩
      go_wp2_with fail
      refine (refuse_no 13 W).mono ?_
      rintro e w' ⟨rfl, rfl⟩
      go_wp2_with fail
      refine (HF.out 18 2 (by omega) rfl (by omega)).mono ?_
      rintro e w' ⟨rfl, rfl⟩
      go_wp2_with fail
      refine (HF.out 20 4 (by omega) rfl (by omega)).mono ?_
      rintro e w' ⟨rfl, rfl⟩
      go_wp2_with fail
      refine (refuse_no 13 W).mono ?_
      rintro e w' ⟨rfl, rfl⟩
      go_wp2_with fail
      refine (HF.out 56 2 (by omega) rfl (by omega)).mono ?_
      rintro e w' ⟨rfl, rfl⟩
      go_wp2_with fail
      refine (HF.out 54 2 (by omega) rfl (by omega)).mono ?_
      rintro e w' ⟨rfl, rfl⟩
      go_wp2_with fail
      refine (refuse_yes 13 W).mono ?_
      rintro e w' ⟨rfl, rfl⟩
      go_wp2_with fail
      exact ⟨rfl, headP_no HNO.out HLOW.out⟩
    have e7 : decide (8 < wgetV l 56 2) = false := by simp; omega
    have HYES := hid (show hdB l = true by
      unfold hdB
      rw [Bool.and_eq_true, Bool.and_eq_true, decide_eq_true_eq, decide_eq_true_eq, decide_eq_true_eq]
      exact ⟨⟨H64.out, HM.out⟩, HT.out, H18.out, H20.out, H54.out, H56.out, h57⟩)
    clear h57
    go_enter Tryd.func38, Tryd.ntmps38
    go_wp2_with fail
    refine (Tryd.strings_HasPrefix _ _ _).mono ?_
    rintro e' w1 ⟨rfl, rfl⟩
    rw [HPF2.out]
    rw [← HW.out]
    go_wp2_with fail
    refine (refuse_no 13 W).mono ?_
    rintro e w' ⟨rfl, rfl⟩
    go_wp2_with fail
    refine (HF.out 16 2 (by omega) rfl (by omega)).mono ?_
    rintro e w' ⟨rfl, rfl⟩
    go_wp2_with fail
    refine (refuse_no 13 W).mono ?_
    rintro e w' ⟨rfl, rfl⟩
    go_wp2_with fail
    refine (HF.out 18 2 (by omega) rfl (by omega)).mono ?_
    rintro e w' ⟨rfl, rfl⟩
    go_wp2_with fail
    refine (HF.out 20 4 (by omega) rfl (by omega)).mono ?_
    rintro e w' ⟨rfl, rfl⟩
    go_wp2_with fail
    refine (refuse_no 13 W).mono ?_
    rintro e w' ⟨rfl, rfl⟩
    go_wp2_with fail
    refine (HF.out 56 2 (by omega) rfl (by omega)).mono ?_
    rintro e w' ⟨rfl, rfl⟩
    go_wp2_with fail
    refine (HF.out 54 2 (by omega) rfl (by omega)).mono ?_
    rintro e w' ⟨rfl, rfl⟩
    go_wp2_with fail
    refine (refuse_no 13 W).mono ?_
    rintro e w' ⟨rfl, rfl⟩
    go_wp2_with fail
    refine (HF.out 24 8 (by omega) rfl (by omega)).mono ?_
    rintro e w' ⟨rfl, rfl⟩
    go_wp2_with fail
    refine (HF.out 32 8 (by omega) rfl (by omega)).mono ?_
    rintro e w' ⟨rfl, rfl⟩
    rw [HW.out]
    go_wp2_with fail
    refine bodyPost_ret (v := .tuple #[.agg #[.int .u16 (wgetV l 16 2), .int .u64 (wgetV l 24 8), .int .u64 (wgetV l 32 8), .slice none 0 0], .int .u64 (wgetV l 56 2)]) (by simp [results, Tryd.results38, go_sem]) rfl ?_
    exact headP_yes HYES.out (bal _)
/-- What the segment's answer is. -/
def SegP (l : List UInt8) (p : Int) (w : World) (e : Ending) (w' : World) : Prop :=
  (if (segL l p).flags ≤ 7 then e = .returned (sgV (segL l p)) else e = .panicked (refusal 25)) ∧ Below w.heap.size w w'
theorem segP_no {l : List UInt8} {p : Int} {w w' : World} (h : ¬ wgetV l (p + 4) 4 ≤ 7) (hb : Below w.heap.size w w') : SegP l p w (.panicked (refusal 25)) w' := ⟨by rw [if_neg (show ¬ (segL l p).flags ≤ 7 from h)], hb⟩
theorem segP_yes {l : List UInt8} {p : Int} {w w' : World} (h : wgetV l (p + 4) 4 ≤ 7) (hb : Below w.heap.size w w') : SegP l p w (.returned (.agg #[.int .u32 (wgetV l p 4), .int .u8 (wgetV l (p + 4) 4), .int .u64 (wgetV l (p + 8) 8), .int .u64 (wgetV l (p + 16) 8), .int .u64 (wgetV l (p + 32) 8), .int .u64 (wgetV l (p + 40) 8)])) w' := ⟨by rw [if_pos (show (segL l p).flags ≤ 7 from h)]; rfl, hb⟩
set_option maxHeartbeats 4000000 in
theorem segment_any (a : Option Addr) (cap : Nat) (p : Int) (l : List UInt8) (w : World) (hs : Sizes w) (hB : Byt w a l.length l) (hl : l.length ≤ 1000000) (hp : 0 ≤ p) (hpl : p + 56 ≤ l.length) :
    Calls Tryd.prog 40 #[.slice a l.length cap, .int .u64 p] w (SegP l p w) := by
  obtain ⟨W, hW⟩ : ∃ W, W = w.alloc (.cells #[.int .u32 0, .int .u8 0, .int .u64 0, .int .u64 0, .int .u64 0, .int .u64 0] 41) := ⟨_, rfl⟩
  have HW := hid hW
  have HBW := hid (show Byt W a l.length l by rw [hW]; exact hB.below' (bal _))
  have HSW := hid (show Sizes W by rw [hW]; exact hs.below (bal _))
  have HLOW := hid (show Below w.heap.size w W by rw [hW]; exact bal _)
  clear hB hs hW
  have hw4 := IntWalk.u64_in (p + 4) ⟨by omega, by omega⟩
  have hw8 := IntWalk.u64_in (p + 8) ⟨by omega, by omega⟩
  have hw16 := IntWalk.u64_in (p + 16) ⟨by omega, by omega⟩
  have hw32 := IntWalk.u64_in (p + 32) ⟨by omega, by omega⟩
  have hw40 := IntWalk.u64_in (p + 40) ⟨by omega, by omega⟩
  have HF := hid (fun (d n : Int) (h0 : 0 ≤ d) (hz : isSz n = true) (h : d + n ≤ 56) => field_ok a l.length cap (p + d) n l W HSW.out (by omega) HBW.out (by omega) (chk_in hz (by omega) (by omega)))
  have HF0 := hid (field_ok a l.length cap p 4 l W HSW.out (by omega) HBW.out hp (chk_in rfl (by omega) (by omega)))
  by_cases hf : wgetV l (p + 4) 4 ≤ 7
  rotate_left
  · have e1 : decide (7 < wgetV l (p + 4) 4) = true := by simp; omega
    have HNO := hid hf
    clear hf
    go_enter Tryd.func40, Tryd.ntmps40
    go_wp2_with fail
    rw [← HW.out]
    refine (HF.out 4 4 (by omega) rfl (by omega)).mono ?_
    rintro e w' ⟨rfl, rfl⟩
    go_wp2_with fail
    refine (refuse_yes 25 W).mono ?_
    rintro e w' ⟨rfl, rfl⟩
    go_wp2_with fail
    exact ⟨rfl, segP_no (by have := HNO.out; omega) HLOW.out⟩
  have e1 : decide (7 < wgetV l (p + 4) 4) = false := by simp; omega
  have HYES := hid hf
  have hw1 := IntWalk.u8_in (wgetV l (p + 4) 4) ⟨wgetV_u, by omega⟩
  have hw2 := IntWalk.u32_in (wgetV l p 4) ⟨wgetV_u, wget4⟩
  clear hf
  go_enter Tryd.func40, Tryd.ntmps40
  go_wp2_with fail
  rw [← HW.out]
  refine (HF.out 4 4 (by omega) rfl (by omega)).mono ?_
  rintro e w' ⟨rfl, rfl⟩
  go_wp2_with fail
  refine (refuse_no 25 W).mono ?_
  rintro e w' ⟨rfl, rfl⟩
  go_wp2_with fail
  refine HF0.out.mono ?_
  rintro e w' ⟨rfl, rfl⟩
  go_wp2_with fail
  refine (HF.out 8 8 (by omega) rfl (by omega)).mono ?_
  rintro e w' ⟨rfl, rfl⟩
  go_wp2_with fail
  refine (HF.out 16 8 (by omega) rfl (by omega)).mono ?_
  rintro e w' ⟨rfl, rfl⟩
  go_wp2_with fail
  refine (HF.out 32 8 (by omega) rfl (by omega)).mono ?_
  rintro e w' ⟨rfl, rfl⟩
  go_wp2_with fail
  refine (HF.out 40 8 (by omega) rfl (by omega)).mono ?_
  rintro e w' ⟨rfl, rfl⟩
  rw [HW.out]
  go_wp2_with fail
  refine bodyPost_ret (v := .agg #[.int .u32 (wgetV l p 4), .int .u8 (wgetV l (p + 4) 4), .int .u64 (wgetV l (p + 8) 8), .int .u64 (wgetV l (p + 16) 8), .int .u64 (wgetV l (p + 32) 8), .int .u64 (wgetV l (p + 40) 8)]) (by simp [results, Tryd.results40, go_sem]) rfl ?_
  exact segP_yes HYES.out (bal _)
end Go.Proofs.YtaaohcpiideaaaaDoor
