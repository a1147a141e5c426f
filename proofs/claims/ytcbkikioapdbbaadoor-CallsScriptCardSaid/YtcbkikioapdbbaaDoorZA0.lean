
/- hostelref00.CopyTexts. -/
import Derived.Test.YtcbkikioapdbbaaDoorYJ
namespace Go.Proofs.YtcbkikioapdbbaaDoor
open Go.RowKit Go.Sort

theorem cel_str {w : World} {a : Option Addr} {len : Nat} {ds : List BL} (h : Cel w a len (strs ds)) : ds.length = len ∧ (0 < ds.length → ∃ b off, a = some ⟨b, off, none⟩ ∧ ∀ i (hi : i < ds.length), w.cell? ⟨b, off + i, none⟩ = some (.string (ba ds[i]))) := by
  refine ⟨by simpa [strs] using h.hlen, fun hp => ?_⟩
  obtain ⟨b, off, e, hc⟩ := h.some_of (by simpa [strs] using hp)
  exact ⟨b, off, e, fun i hi => strs_at hc hi⟩

theorem copyTexts_any (a : Option Addr) (len cap : Nat) (ds : List BL) (w : World) (hB : Cel w a len (strs ds)) (hl : len ≤ 4000000000000) :
    Calls Tryd.prog 28 #[.slice a len cap] w (OwnPost w ds) := by
  obtain ⟨rfl, hat⟩ := cel_str hB
  have HAT := hid hat
  clear hB hat
  by_cases h0 : ds.length = 0
  · have hnil := List.length_eq_zero_iff.1 h0
    have HN := hid hnil
    have hb0 : ((ds.length : Int) == 0) = true := by rw [beq_iff_eq]; omega
    clear h0 hnil
    go_enter Tryd.func28, Tryd.ntmps28
    go_wp2_with fail
    go_ret
    exact ⟨_, rfl, by rw [HN.out]; exact ownS_nil _ _, Below.refl _ _⟩
  · have hb0 : ((ds.length : Int) == 0) = false := by rw [beq_eq_false_iff_ne]; omega
    have hpos0 : 0 < ds.length := by omega
    obtain ⟨bb, off, rfl, hcell⟩ := HAT.out hpos0
    have HCELL := hid hcell
    clear hcell h0
    go_enter Tryd.func28, Tryd.ntmps28
    go_wp2_with (at_make; refine wpList_make_row _ rfl _ _ 23 rfl 9 (.string ByteArray.empty) 16 Tryd.underlying23 infoS rfl .i64 .i64 _ _ ds.length rfl rfl (by omega) (by omega) (by omega) (by omega) ?_; intro w1 hr1 hb1 hs1)
    have hfz := fillD_full (strs ds) (.string ByteArray.empty)
    rw [strsS_len] at hfz
    rw [← hfz] at hr1
    clear hfz
    go_loopw [4] (fun i wr => ∃ k : Nat, k ≤ ds.length ∧ i = .int .i64 ((k : Int) - 1) ∧ Row wr w.heap.size 9 (fillD (strs ds) (.string ByteArray.empty) k) ∧ Below w.heap.size w wr) (fun i _ => (intOf i + 1).toNat)
    case atStart => exact ⟨ds.length, Nat.le_refl _, rfl, hr1, hb1⟩
    case round =>
      obtain ⟨k, hk, rfl, hr, hb⟩ := hrel
      rcases Nat.eq_zero_or_pos k with rfl | hpos
      · go_wp2
        go_ret
        rw [fillD_zero] at hr
        have ho := hr.owns (base := w.heap.size) (n := ds.length) (cap := ds.length) (Nat.le_refl _) (strsS_len ds) (Nat.le_refl _) (by unfold maxLen; omega)
        exact ⟨_, rfl, own_ext ho rfl (by rw [List.take_of_length_le (by rw [strsS_len]; exact Nat.le_refl _)]), hb⟩
      · obtain ⟨j, rfl⟩ : ∃ j, k = j + 1 := ⟨k - 1, by omega⟩
        have hj : j < ds.length := by omega
        have hx' := keepC hb (HCELL.out j hj)
        have hfr := hr.frozen j
        have hc := hr.cell j (by rw [fillD_len _ _ _ (by rw [strsS_len]; omega), strsS_len]; exact hj)
        go_wp2
        go_roundw
        case rel => exact ⟨j, by omega, by go_num, hr.fillD (by rw [strsS_len]; exact hj) (by simp [strs]), hb.setCell (Nat.le_refl _) _⟩
        case measure => simp [intOf]
end Go.Proofs.YtcbkikioapdbbaaDoor
