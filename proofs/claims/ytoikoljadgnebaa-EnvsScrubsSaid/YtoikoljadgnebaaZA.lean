/- Contracts of the laws' helpers: lists of texts copied, with memory behind them, kept, apart. -/
import Derived.Test.YtoikoljadgnebaaZ9
namespace Go.Proofs.Ytoikoljadgnebaa
open Go.RowKit Go.Sort

theorem copyTexts_any (a : Option Addr) (len cap : Nat) (ds : List BL) (w : World) (hB : Cel w a len (strs ds)) (hl : len ≤ 4000000000000) :
    Calls Try.prog 30 #[.slice a len cap] w (OwnPost w ds) := by
  obtain ⟨rfl, hat⟩ := cel_str hB
  have HAT := hid hat
  clear hB hat
  by_cases h0 : ds.length = 0
  · have hnil := List.length_eq_zero_iff.1 h0
    have HN := hid hnil
    have hb0 : ((ds.length : Int) == 0) = true := by rw [beq_iff_eq]; omega
    clear h0 hnil
    go_enter Try.func30, Try.ntmps30
    go_wp2_with fail
    go_ret
    exact ⟨_, rfl, by rw [HN.out]; exact ownS_nil _ _, Below.refl _ _⟩
  · have hb0 : ((ds.length : Int) == 0) = false := by rw [beq_eq_false_iff_ne]; omega
    have hpos0 : 0 < ds.length := by omega
    obtain ⟨bb, off, rfl, hcell⟩ := HAT.out hpos0
    have HCELL := hid hcell
    clear hcell h0
    go_enter Try.func30, Try.ntmps30
    go_wp2_with (at_make; refine wpList_make_row _ rfl _ _ 22 rfl 9 (.string ByteArray.empty) 16 Try.underlying22 infoS rfl .i64 .i64 _ _ ds.length rfl rfl (by omega) (by omega) (by omega) (by omega) ?_; intro w1 hr1 hb1 hs1)
    have hfz := fillD_full (strs ds) (.string ByteArray.empty)
    rw [strsS_len] at hfz
    rw [← hfz] at hr1
    clear hfz
    go_loopw [4] (fun i wr => ∃ k : Nat, k ≤ ds.length ∧ i = .int .i64 ((k : Int) - 1) ∧ Row wr w.heap.size 9 (fillD (strs ds) (.string ByteArray.empty) k) ∧ Below w.heap.size w wr) (fun i _ => (intOf i + 1).toNat)
    case atStart => exact ⟨ds.length, Nat.le_refl _, rfl, hr1, hb1⟩
    case round =>
      obtain ⟨k, hk, rfl, hr, hb⟩ := hrel
      rcases Nat.eq_zero_or_pos k with rfl | hpos
      · go_wp2
        go_ret
        rw [fillD_zero] at hr
        have ho := hr.owns (base := w.heap.size) (n := ds.length) (cap := ds.length) (Nat.le_refl _) (strsS_len ds) (Nat.le_refl _) (by unfold maxLen; omega)
        exact ⟨_, rfl, own_ext ho rfl (by rw [List.take_of_length_le (by rw [strsS_len]; exact Nat.le_refl _)]), hb⟩
      · obtain ⟨j, rfl⟩ : ∃ j, k = j + 1 := ⟨k - 1, by omega⟩
        have hj : j < ds.length := by omega
        have hx' := keepC hb (HCELL.out j hj)
        have hfr := hr.frozen j
        have hc := hr.cell j (by rw [fillD_len _ _ _ (by rw [strsS_len]; omega), strsS_len]; exact hj)
        go_wp2
        go_roundw
        case rel => exact ⟨j, by omega, by go_num, hr.fillD (by rw [strsS_len]; exact hj) (by simp [strs]), hb.setCell (Nat.le_refl _) _⟩
        case measure => simp [intOf]

/-- What roomy made: the texts, and two more behind them. -/
def RoomPost (w : World) (ds : List BL) (e : Ending) (w' : World) : Prop := ∃ G c, e = .returned (.slice (some ⟨G, 0, none⟩) ds.length c) ∧ Cel w' (some ⟨G, 0, none⟩) (ds.length + 2) (strs (ds ++ [[120], [121]])) ∧ ds.length + 2 ≤ c ∧ c ≤ maxLen ∧ w.heap.size ≤ G ∧ G < w'.heap.size ∧ Below w.heap.size w w'

set_option maxHeartbeats 1000000 in
theorem roomy_any (a : Option Addr) (len cap : Nat) (ds : List BL) (w : World) (hB : Cel w a len (strs ds)) (hl : len ≤ 1000000) :
    Calls Try.prog 11 #[.slice a len cap] w (RoomPost w ds) := by
  obtain ⟨e1, _⟩ := cel_str hB
  have HB := hid hB
  clear hB
  subst e1
  go_enter Try.func11, Try.ntmps11
  go_wp2_with fail
  refine (copyTexts_any _ _ _ _ _ HB.out (by omega)).mono ?_
  rintro e' w1 ⟨v, rfl, ho, hb⟩
  have HO := hid (fun o => ho.alloc o)
  have HBB := hid (fun o => hb.alloc hb.size o)
  have HBS := hid (fun o => show w.heap.size ≤ (w1.alloc o).heap.size by have := hb.size; simp only [World.size_alloc]; omega)
  have hnw := Row.new w1 9 [.string (ba [120]), .string (ba [121])]
  have HNW := hid (show ∀ j u, [Value.string (ba [120]), .string (ba [121])][j]? = some u → (w1.alloc (.cells [Value.string (ba [120]), .string (ba [121])].toArray 9)).cell? ((Addr.mk w1.heap.size 0 none).add j) = some u by
    intro j u hj
    have h1 := hnw.cell' j
    rw [hj] at h1
    unfold Addr.add
    by_cases e0 : j = 0
    · subst e0; simpa using h1
    · simpa [e0] using h1)
  have HOO := hid ho
  obtain ⟨a9, c9, rfl, _⟩ := own_cel ho
  obtain ⟨i0, hi, hz0, hz1, hz2⟩ := info_parts infoS
  have HL1 := hid (show ds.length + 2 ≤ maxLen by unfold maxLen; omega)
  have HL2 := hid (show (ds.length + 2) * 16 ≤ 140737488355328 by omega)
  have HON := hid (show ∀ u ∈ [Value.string (ba [120]), .string (ba [121])], u.oneCell' = true by intro u hu; simp at hu; rcases hu with rfl | rfl <;> rfl)
  clear ho hb hnw
  go_wp2_with (at_builtin; go_must (refine wpList_append_own _ rfl _ _ 22 rfl w.heap.size 9 i0 (.string ByteArray.empty) 1 16 Try.underlying22 hi hz0 hz1 hz2 rfl (by decide) (.slice a9 ds.length c9) ds.length (strs ds) rfl (HO.out _) ⟨w1.heap.size, 0, none⟩ 2 2 [.string (ba [120]), .string (ba [121])] rfl rfl HNW.out HON.out HL1.out HL2.out (HBS.out _) ?_; intro v' w2 hown hgrow _; have HB2 := hid ((HBB.out _).grown hgrow (HBS.out _) (fun k hk => own_low HOO.out (Nat.le_refl _) k hk)); obtain ⟨G, c, rfl, hc1, hc2, hc3, hc4⟩ := own_open hown (by omega); have HO2 := hid hown; clear hown hgrow))
  go_ret
  obtain ⟨_, _, e2, hC, _⟩ := own_cel HO2.out
  cases e2
  refine ⟨G, c, rfl, ?_, hc1, hc4, hc2, hc3, HB2.out⟩
  rw [strsS_app]
  exact hC

theorem Cel.cut {w : World} {a : Option Addr} {n m : Nat} {ds es : List BL} (h : Cel w a m (strs (ds ++ es))) (hn : ds.length = n) (hm : n ≤ m) : Cel w a n (strs ds) := by
  have := h.prefix hm
  rw [strsS_app, List.take_left' (by rw [strsS_len]; exact hn)] at this
  exact this
/-- A list stays where all behind an elder world turns. -/
theorem Cel.old {w0 w w' : World} {a : Option Addr} {n B : Nat} {cs : List Value} (h0 : Cel w0 a n cs) (h : Cel w a n cs) (hB : w0.heap.size ≤ B) (hb : Below B w w') : Cel w' a n cs :=
  ⟨h.hlen, fun i hi => by
    obtain ⟨b, off, e, hc⟩ := h.cell i hi
    obtain ⟨b0, off0, e0, hc0⟩ := h0.cell i hi
    rw [e] at e0; cases e0
    refine ⟨b, off, e, ?_⟩
    have hlt := World.block_lt_of_cell? w0 _ hc0
    rw [hb.cell (p := ⟨b, off + i, none⟩) (by simp only at hlt ⊢; omega)]
    exact hc⟩

set_option maxHeartbeats 1000000 in
theorem kept_any (G c : Nat) (a : Option Addr) (len cap : Nat) (ds : List BL) (w : World) (hN : Cel w (some ⟨G, 0, none⟩) (ds.length + 2) (strs (ds ++ [[120], [121]]))) (hc : ds.length + 2 ≤ c) (hcm : c ≤ maxLen) (hA : Cel w a len (strs ds)) (hl : len ≤ 1000000) :
    Calls Try.prog 18 #[.slice (some ⟨G, 0, none⟩) ds.length c, .slice a len cap] w fun e w' => e = .returned (.bool true) ∧ ∃ k, w' = w.drewN k := by
  obtain ⟨rfl, _⟩ := cel_str hA
  obtain ⟨_, hat⟩ := cel_str hN
  obtain ⟨b, off, e, hat2⟩ := hat (by simp)
  cases e
  have x0 := hat2 ds.length (by simp)
  have x1 := hat2 (ds.length + 1) (by simp)
  rw [Nat.zero_add, List.getElem_append_right (by omega)] at x0 x1
  simp only [Nat.sub_self, List.getElem_cons_zero, Nat.add_sub_cancel_left, List.getElem_cons_succ] at x0 x1
  have q0 : ((ba [120]).toList == [120]) = true := by rw [Lib.toList_data]; rfl
  have q1 : ((ba [121]).toList == [121]) = true := by rw [Lib.toList_data]; rfl
  have HI := hid (hN.cut rfl (by omega))
  have HA := hid hA
  have HT := hid (show eqT ds ds = true by simp [eqT])
  unfold maxLen at hcm
  clear hat hat2 hN hA
  go_enter Try.func18, Try.ntmps18
  go_wp2_with fail
  refine (eqTexts_any _ _ _ _ _ _ ds ds _ HI.out HA.out (by omega) (by omega)).mono ?_
  rintro e' w1 ⟨rfl, k, rfl⟩
  rw [HT.out]
  go_wp2_with fail
  go_ret
  exact ⟨rfl, k, rfl⟩
end Go.Proofs.Ytoikoljadgnebaa
