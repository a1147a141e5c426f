
/- Contract of hostelref03.List; both Lists. -/
import Derived.Test.YtnepccjcjkeneaaZE0
import Derived.Test.YtnepccjcjkeneaaP5a
namespace Go.Proofs.Ytnepccjcjkeneaa
open Go.RowKit Go.Sort

theorem take_all (s : ByteArray) (k : Nat) (h : s.size ≤ k) : s.data.toList.take k = s.data.toList := List.take_of_length_le (by rw [size_list]; exact h)
theorem miss58 {s : ByteArray} {k f : Nat} (hf : f ≤ k) (hk : k < s.size) (h : s[k] ≠ 58) {ds : List BL} (hc : cst 58 (s.data.toList.take k) = (ds, (s.data.toList.take k).drop f)) :
    cst 58 (s.data.toList.take (k + 1)) = (ds, (s.data.toList.take (k + 1)).drop f) := by
  rw [take_snoc2 s k hk, cst_snoc, hc, cstep, if_neg h, List.drop_append_of_le_length (by rw [List.length_take, size_list]; omega)]
theorem hit58 {s : ByteArray} {k f : Nat} (hk : k < s.size) (h : s[k] = 58) {ds : List BL} (hc : cst 58 (s.data.toList.take k) = (ds, (s.data.toList.take k).drop f)) :
    cst 58 (s.data.toList.take (k + 1)) = (ds ++ [(s.data.toList.take k).drop f], (s.data.toList.take (k + 1)).drop (k + 1)) := by
  have e : (s.data.toList.take (k + 1)).drop (k + 1) = [] := by simp
  rw [e, take_snoc2 s k hk, h, cst_hit, hc]
def liR (s : ByteArray) (k f : Nat) (ds : List BL) : Prop := (k ≤ s.size → f ≤ k ∧ cst 58 (s.data.toList.take k) = (ds, (s.data.toList.take k).drop f)) ∧ (k = s.size + 1 → ds = cuts 58 s.data.toList)
theorem liR_cut {s : ByteArray} {k f : Nat} {ds : List BL} (h : liR s k f ds) (hk : k ≤ s.size) (hat : ∀ hlt : k < s.size, s[k] = 58) : liR s (k + 1) (k + 1) (ds ++ [(s.data.toList.take k).drop f]) := by
  obtain ⟨hf, hc⟩ := h.1 hk
  by_cases hlt : k < s.size
  · exact ⟨fun _ => ⟨Nat.le_refl _, hit58 hlt (hat hlt) hc⟩, fun h => by omega⟩
  · refine ⟨fun h => by omega, fun _ => ?_⟩
    have e1 : s.data.toList.take k = s.data.toList := take_all s k (by omega)
    rw [e1] at hc ⊢
    unfold cuts
    rw [hc]
theorem liR_go {s : ByteArray} {k f : Nat} {ds : List BL} (h : liR s k f ds) (hlt : k < s.size) (hne : s[k] ≠ 58) : liR s (k + 1) f ds := by
  obtain ⟨hf, hc⟩ := h.1 (by omega)
  exact ⟨fun _ => ⟨by omega, miss58 hf hlt hne hc⟩, fun h => by omega⟩

theorem rlist_nil (w : World) :
    Calls Try.prog 55 #[.string (ba [])] w (OwnPost w (listL [])) := by
  have q : (ba []).toList.isEmpty = true := by rw [ba_nil]; rfl
  go_enter Try.func55, Try.ntmps55
  go_wp2_with fail
  refine wp_loop_rounds 1 ?_
  rw [rounds_succ]
  go_wp2_with fail
  go_ret
  exact ⟨_, rfl, ownS_nil _ _, Below.refl _ _⟩

set_option maxHeartbeats 2000000 in
theorem rlist_any1 (s : ByteArray) (w : World) (hs : s.size ≤ 1000000) (hne : s.data.toList ≠ []) :
    Calls Try.prog 55 #[.string s] w (OwnPost w (listL s.data.toList)) := by
  have q : s.toList.isEmpty = false := by rw [ba_nil]; exact decide_eq_false hne
  have q' : s.toList = [] ↔ False := by rw [Lib.toList_data]; simpa using hne
  have HLI := hid (show listL s.data.toList = (cuts 58 s.data.toList).map dotP by unfold listL; rw [if_neg hne])
  clear hne
  go_enter Try.func55, Try.ntmps55
  go_wp2_with fail
  go_loopw [3, 4, 5] (fun v fr i wr => ∃ (k f : Nat) (ds : List BL), k ≤ s.size + 1 ∧ i = .int .i64 k ∧ fr = .int .i64 f ∧ ds.length ≤ k ∧ liR s k f ds ∧ OwnS wr w.heap.size v (ds.map dotP) ∧ Below w.heap.size w wr) (fun _ _ i _ => s.size + 1 - (intOf i).toNat)
  case atStart => exact ⟨0, 0, [], Nat.zero_le _, rfl, rfl, Nat.le_refl _, ⟨fun _ => ⟨Nat.le_refl _, rfl⟩, fun h => by omega⟩, ownS_nil _ _, Below.refl _ _⟩
  case round =>
    obtain ⟨k, f, ds, hk, rfl, rfl, hdk, hp, ho, hb⟩ := hrel
    have HP := hid hp
    have HB := hid hb
    have HPL := hid (show (ds.map dotP).length = ds.length from List.length_map _)
    have HMS := hid (show ∀ x, (ds ++ [x]).map dotP = ds.map dotP ++ [dotP x] from fun x => by simp)
    clear hp hb
    by_cases hle : k ≤ s.size
    · have d1 : decide ((k : Int) ≤ (s.size : Int)) = true := by simp; omega
      have d1n : decide (k ≤ s.size) = true := by simp; omega
      obtain ⟨hfk, _⟩ := HP.out.1 hle
      by_cases hgo : ∃ hlt : k < s.size, s[k] ≠ 58
      · obtain ⟨hlt, hne⟩ := hgo
        have d2 : decide ((k : Int) < (s.size : Int)) = true := by simp; omega
        have hb := byte_eq s k hlt 58 58 rfl
        rw [decide_eq_false hne] at hb
        have HN := hid (liR_go HP.out hlt hne)
        have HO := hid ho
        generalize hpd : ds.map dotP = pd at *
        have HPD := hid hpd
        obtain ⟨a9, c9, rfl, _⟩ := own_cel ho
        clear hne ho hpd
        go_wp2_with fail
        go_roundw
        case rel => exact ⟨k + 1, f, ds, by omega, by go_num, rfl, by omega, HN.out, by rw [HPD.out]; exact HO.out, HB.out⟩
        case measure => simp [intOf]; omega
      · have hat : ∀ hlt : k < s.size, s[k] = 58 := by
          intro hlt
          by_cases h : s[k] = 58
          · exact h
          · exact absurd ⟨hlt, h⟩ hgo
        have HN := hid (liR_cut HP.out hle hat)
        have HX := hid (ba_extract s f k)
        have HD : Hid (dotP ((s.data.toList.take k).drop f) = if (s.data.toList.take k).drop f = [] then [46] else (s.data.toList.take k).drop f) := hid rfl
        have HDL := hid (show ((s.data.toList.take k).drop f).length = k - f by rw [List.length_drop, List.length_take, size_list]; omega)
        have HO := hid ho
        generalize hpd : ds.map dotP = pd at *
        have HLP := hid (show pd.length ≤ 8000000000000 by have := HPL.out; omega)
        obtain ⟨a9, c9, rfl, _⟩ := own_cel ho
        clear ho hgo hpd
        have hcase : (decide ((k : Int) < (s.size : Int)) = false ∧ decide (k < s.size) = false) ∨ ∃ hlt : k < s.size, decide ((k : Int) < (s.size : Int)) = true ∧ ((s[k].toNat : Int) == 58) = true := by
          by_cases hlt : k < s.size
          · right
            have hb := byte_eq s k hlt 58 58 rfl
            rw [decide_eq_true (hat hlt)] at hb
            exact ⟨hlt, by simp; omega, hb⟩
          · left; exact ⟨by simp; omega, by simp; omega⟩
        clear hat
        by_cases hkf : k = f
        · have q1 : ((k : Int) == (f : Int)) = true := by rw [beq_iff_eq]; omega
          have HT := hid (show (ba [46]).data.toList = dotP ((s.data.toList.take k).drop f) by
            rw [HD.out, if_pos (List.length_eq_zero_iff.1 (by rw [HDL.out]; omega))]; rfl)
          clear hkf
          rcases hcase with ⟨d2, d3⟩ | ⟨hlt, d2, hb⟩
          all_goals
            go_wp2_with (at_builtin; go_must (refine wpList_appS rfl _ _ rfl w.heap.size (Value.slice a9 pd.length c9) (pd) (ba [46]) rfl rfl HO.out HLP.out HB.out.size ?_; intro v' w9 hown hgrow hb9 _ hat; have HO9 := hid hown; have HB9 := hid hb9; obtain ⟨a8, c8, rfl, _⟩ := own_cel hown; clear hown hgrow hb9 hat))
            go_roundw
            case rel => exact ⟨k + 1, k + 1, _, by omega, by go_num, by go_num, by simp; omega, HN.out, ownS_of HO9.out (by rw [HMS.out, HT.out]), HB.out.trans HB9.out⟩
            case measure => simp [intOf]; omega
        · have q1 : ((k : Int) == (f : Int)) = false := by rw [beq_eq_false_iff_ne]; omega
          have HT := hid (show (s.extract f k).data.toList = dotP ((s.data.toList.take k).drop f) by
            have h2 := HDL.out
            rw [HD.out, if_neg (by intro e; rw [e] at h2; simp at h2; omega), HX.out, ba_list])
          clear hkf
          rcases hcase with ⟨d2, d3⟩ | ⟨hlt, d2, hb⟩
          all_goals
            go_wp2_with (at_builtin; go_must (refine wpList_appS rfl _ _ rfl w.heap.size (Value.slice a9 pd.length c9) (pd) (s.extract f k) rfl rfl HO.out HLP.out HB.out.size ?_; intro v' w9 hown hgrow hb9 _ hat; have HO9 := hid hown; have HB9 := hid hb9; obtain ⟨a8, c8, rfl, _⟩ := own_cel hown; clear hown hgrow hb9 hat))
            go_roundw
            case rel => exact ⟨k + 1, k + 1, _, by omega, by go_num, by go_num, by simp; omega, HN.out, ownS_of HO9.out (by rw [HMS.out, HT.out]), HB.out.trans HB9.out⟩
            case measure => simp [intOf]; omega
    · have d1 : decide ((k : Int) ≤ (s.size : Int)) = false := by simp; omega
      have d1n : decide (k ≤ s.size) = false := by simp; omega
      have HE := hid (HP.out.2 (by omega))
      have HO := hid ho
      clear ho
      go_wp2_with fail
      go_ret
      exact ⟨_, rfl, by rw [HLI.out, ← HE.out]; exact HO.out, HB.out⟩

theorem nil_of {s : ByteArray} (h : s.data.toList = []) : s = ba [] := by rw [← ba_eta s, h]
theorem rlist_any (s : ByteArray) (w : World) (hs : s.size ≤ 1000000) : Calls Try.prog 55 #[.string s] w (OwnPost w (listL s.data.toList)) := by
  by_cases h : s.data.toList = []
  · have := rlist_nil w
    rw [nil_of h]; exact this
  · exact rlist_any1 s w hs h
end Go.Proofs.Ytnepccjcjkeneaa
