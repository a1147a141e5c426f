/- Contracts of hostellaw03: own, large. -/
import Derived.Test.YtoikoljadgnebaaZA
namespace Go.Proofs.Ytoikoljadgnebaa
open Go.RowKit Go.Sort

theorem grown_below {w w' : World} (h : Below w.heap.size w w') (row : Option Nat) : w.grownBy w' row := ⟨h.os, h.tape, h.output, h.size, fun k hk _ => h.block k hk⟩
theorem grown_trans {w w1 w2 : World} {row : Option Nat} (h : w.grownBy w1 row) (h2 : w1.grownBy w2 row) : w.grownBy w2 row :=
  ⟨h2.os.trans h.os, h2.tape.trans h.tape, h2.output.trans h.output, Nat.le_trans h.size h2.size, fun k hk hne => by rw [h2.block k (Nat.lt_of_lt_of_le hk h.size) hne, h.block k hk hne]⟩
theorem grown_setX {w w' : World} {row : Option Nat} {G : Nat} (h : w.grownBy w' row) (hG : row = some G ∨ w.heap.size ≤ G) (o : Nat) (u : Value) : w.grownBy (w'.setCell ⟨G, o, none⟩ u) row :=
  ⟨h.os, h.tape, h.output, by rw [World.size_setCell]; exact h.size, fun k hk hne => by
    rw [heap_setCell_other _ _ _ _ (by
      intro e
      rcases hG with h1 | h1
      · apply hne; rw [h1]; exact congrArg some e
      · simp only at e; omega)]
    exact h.block k hk hne⟩
theorem grown_low2 {w w' : World} {v : Value} {base n : Nat} {E : TypeId} {xs : List Value} (ho : w.ownsRow base E 1 v n xs) (hg : w.grownBy w' v.ownBlock) (hb : base ≤ w.heap.size) : Below base w w' :=
  (Below.refl base w).grown hg hb (fun k hk => own_low ho (Nat.le_refl _) k hk)

set_option maxHeartbeats 2000000 in
theorem own_any (v : Value) (lo : List BL) (G c : Nat) (a : Option Addr) (len cap : Nat) (ds : List BL) (base : Nat) (w0 w : World) (ho : OwnS w base v lo) (hlo : lo.length ≤ 1000000) (hbw : base ≤ w.heap.size)
    (h00 : w0.heap.size ≤ base) (hN0 : Cel w0 (some ⟨G, 0, none⟩) (ds.length + 2) (strs (ds ++ [[120], [121]]))) (hN : Cel w (some ⟨G, 0, none⟩) (ds.length + 2) (strs (ds ++ [[120], [121]]))) (hc : ds.length + 2 ≤ c) (hcm : c ≤ maxLen)
    (hA0 : Cel w0 a len (strs ds)) (hA : Cel w a len (strs ds)) (hl : len ≤ 1000000) :
    Calls Try.prog 26 #[v, .slice (some ⟨G, 0, none⟩) ds.length c, .slice a len cap] w fun e w' => e = .returned (.bool true) ∧ w.grownBy w' v.ownBlock := by
  have HOO := hid ho
  have HKN := hid (fun w1 (hb : Below base w w1) => Cel.old hN0 hN h00 hb)
  have HKA := hid (fun w1 (hb : Below base w w1) => Cel.old hA0 hA h00 hb)
  clear hN0 hN hA0 hA
  obtain ⟨a9, c9, rfl, _⟩ := own_cel ho
  clear ho
  go_enter Try.func26, Try.ntmps26
  go_wp2_with (at_builtin; go_must (refine wpList_appS rfl _ _ rfl base (.slice a9 lo.length c9) lo (ba [33]) rfl rfl HOO.out (by omega) hbw ?_; intro v' w9 hown hgrow hb9 _ hat; have HO9 := hid hown; have HG9 := hid (grown_trans (World.grownBy_alloc w _ _) hgrow); obtain ⟨G2, c2, rfl, hc1, hc2, hc3, hc4⟩ := own_open hown (by omega); have HAT := hid hat; clear hown hgrow hb9 hat))
  have HAT2 := hid (show (Value.slice a9 lo.length c9).ownBlock = some G2 ∨ w.heap.size ≤ G2 by
    rcases HAT.out with h | h
    · exact .inl h.symm
    · right; have h2 : G2 = w.heap.size + 1 := Option.some.inj h; omega)
  go_loopw [7] (fun i wr => ∃ k : Nat, k ≤ lo.length + 1 ∧ i = .int .i64 k ∧ (∃ xs, wr.ownsRow base 9 1 (.slice (some ⟨G2, 0, none⟩) (lo.length + 1) c2) (lo.length + 1) xs) ∧ w.grownBy wr (Value.slice a9 lo.length c9).ownBlock) (fun i _ => lo.length + 1 - (intOf i).toNat)
  case atStart => exact ⟨0, Nat.zero_le _, rfl, ⟨_, HO9.out⟩, HG9.out⟩
  case round =>
    obtain ⟨k, hk, rfl, ⟨xs, hox⟩, hg⟩ := hrel
    have HG := hid hg
    have HX := hid hox
    clear hg
    by_cases hlt : k < lo.length + 1
    · have d1 : decide ((k : Int) < (lo.length : Int) + 1) = true := by simp; omega
      have d1n : decide (k < lo.length + 1) = true := by simp; omega
      obtain ⟨hc0, hf⟩ : (∃ u, wr.cell? ⟨G2, k, none⟩ = some u) ∧ wr.frozen? ⟨G2, k, none⟩ = false := by
        have hx := hox.cellAt k (by have := hox.1; omega)
        rw [List.getElem?_eq_getElem (by have := hox.1; omega)] at hx
        rcases hox.2 with ⟨h1, _⟩ | ⟨g, cap', cur, h1, _, h3, _⟩
        · cases h1
        · simp only [Value.slice.injEq, Option.some.injEq, Addr.mk.injEq, and_true, true_and] at h1
          obtain ⟨rfl, rfl⟩ := h1
          exact ⟨⟨_, hx⟩, frozen_of_row _ _ _ _ _ h3⟩
      obtain ⟨u, hc0⟩ := hc0
      clear hox
      go_wp2_with fail
      go_roundw
      case rel => exact ⟨k + 1, by omega, by go_num, ⟨_, (HX.out.stored k _).1⟩, grown_setX HG.out HAT2.out _ _⟩
      case measure => simp [intOf]; omega
    · have d1 : decide ((k : Int) < (lo.length : Int) + 1) = false := by simp; omega
      have d1n : decide (k < lo.length + 1) = false := by simp; omega
      have HBL := hid (grown_low2 HOO.out HG.out hbw)
      clear hox
      go_wp2_with fail
      refine (kept_any _ _ _ _ _ ds _ (HKN.out _ HBL.out) hc hcm (HKA.out _ HBL.out) hl).mono ?_
      rintro e' w3 ⟨rfl, m, hw3⟩
      have HG3 := hid (grown_trans HG.out (show wr.grownBy w3 _ by rw [hw3]; exact grown_below (drewN_below wr m) _))
      clear hw3
      go_wp2_with fail
      go_ret
      exact ⟨rfl, HG3.out⟩

def totN (ds : List BL) : Nat := (ds.map fun p => p.length + 1).sum
theorem totN_snoc (ds : List BL) (p : BL) : totN (ds ++ [p]) = totN ds + (p.length + 1) := by simp [totN]
theorem totN_mem {ds : List BL} {p : BL} (h : p ∈ ds) : p.length + 1 ≤ totN ds := by
  induction ds with
  | nil => simp at h
  | cons q ds ih =>
    unfold totN at ih ⊢
    simp only [List.map_cons, List.sum_cons]
    rcases List.mem_cons.1 h with rfl | h
    · omega
    · have := ih h; omega
theorem totN_len (ds : List BL) : ds.length ≤ totN ds := by
  induction ds with
  | nil => simp [totN]
  | cons q ds ih => unfold totN at ih ⊢; simp only [List.map_cons, List.sum_cons, List.length_cons]; omega
theorem totN_sub {ds es : List BL} (h : ds.Sublist es) : totN ds ≤ totN es := by
  induction h with
  | slnil => simp
  | cons a _ ih => unfold totN at ih ⊢; simp only [List.map_cons, List.sum_cons]; omega
  | cons_cons a _ ih => unfold totN at ih ⊢; simp only [List.map_cons, List.sum_cons]; omega
def LargePost (ds : List BL) (w : World) (e : Ending) (w' : World) : Prop := w = w' ∧ ∃ b, e = .returned (.bool b) ∧ (b = false → totN ds ≤ 131072)
theorem large_ret {ds : List BL} {w : World} {b : Bool} (h : b = false → totN ds ≤ 131072) : LargePost ds w (.returned (.bool b)) w := ⟨rfl, b, rfl, h⟩

set_option maxHeartbeats 1000000 in
theorem large_any (a : Option Addr) (len cap : Nat) (ds : List BL) (w : World) (hB : Cel w a len (strs ds)) (hl : len ≤ 140737488351232) (hs : ∀ p ∈ ds, p.length ≤ 140737488351232) :
    Calls Try.prog 9 #[.slice a len cap] w (LargePost ds w) := by
  obtain ⟨rfl, hat⟩ := cel_str hB
  have HAT := hid hat
  have HS := hid hs
  clear hB hat hs
  go_enter Try.func9, Try.ntmps9
  go_wp2_with fail
  go_loop [3, 4] (fun n i => ∃ k m : Nat, k ≤ ds.length ∧ i = .int .i64 k ∧ n = .int .i64 m ∧ m ≤ ds.length + 400000 ∧ (131072 < m ∨ m + k = ds.length + totN (ds.take k))) (fun _ i => ds.length - (intOf i).toNat)
  case atStart => exact ⟨0, ds.length, Nat.zero_le _, rfl, rfl, by omega, .inr (by simp [totN])⟩
  case round =>
    obtain ⟨k, m, hk, rfl, rfl, hm, ht⟩ := hrel
    have HT := hid ht
    clear ht
    by_cases hlt : k < ds.length
    · have d1 : decide ((k : Int) < (ds.length : Int)) = true := by simp; omega
      by_cases hm2 : m ≤ 131072
      · have d2 : decide ((m : Int) ≤ 131072) = true := by simp; omega
        obtain ⟨b, off, rfl, hc⟩ := HAT.out (by omega)
        have hx := hc k hlt
        have hz : (ba ds[k]).size = ds[k].length := ba_size _
        have hz2 := HS.out _ (List.getElem_mem hlt)
        have HTT := hid (show totN (ds.take (k + 1)) = totN (ds.take k) + (ds[k].length + 1) by rw [List.take_succ_eq_append_getElem hlt, totN_snoc])
        have hz3 : (ba ds[k]).size ≤ 140737488351232 := by omega
        have HZ := hid hz
        clear hc hz
        generalize ba ds[k] = s at *
        by_cases hs : s.size ≤ 262144
        · go_wp2_with fail
          go_round
          case rel => exact ⟨k + 1, m + s.size, by omega, by go_num, by go_num, by omega, by have h1 := HT.out; have h2 := HTT.out; have h3 := HZ.out; omega⟩
          case measure => simp [intOf]; omega
        · have hs2 : 262144 < s.size := by omega
          clear hs
          go_wp2_with fail
          go_round
          case rel => exact ⟨k + 1, m + 262144, by omega, by go_num, by go_num, by omega, by omega⟩
          case measure => simp [intOf]; omega
      · have d2 : decide ((m : Int) ≤ 131072) = false := by simp; omega
        have d3 : decide (131072 < (m : Int)) = true := by simp; omega
        go_wp2_with fail
        go_ret
        exact large_ret (by intro h; cases h)
    · have d1 : decide ((k : Int) < (ds.length : Int)) = false := by simp; omega
      obtain rfl : k = ds.length := by omega
      have H9 := HT.out
      rw [List.take_length] at H9
      have HF := hid (show (decide (131072 < (m : Int))) = false → totN ds ≤ 131072 by intro h; have h2 := of_decide_eq_false h; omega)
      clear H9
      go_wp2_with fail
      go_ret
      exact large_ret HF.out
end Go.Proofs.Ytoikoljadgnebaa
