
/- Stage 21: what is too large; the reference's Argv. -/
import Derived.Test.YthamfhenadaapaaGreatDoorU2
import Derived.Test.YthamfhenadaapaaGreatDoorUC
namespace Go.Proofs.YthamfhenadaapaaGreatDoor
open Go.RowKit Go.Sort
attribute [local go_sem] Oper.semAt_some

def totN (ds : List BL) : Nat := (ds.map fun p => p.length + 1).sum
theorem totN_snoc (ds : List BL) (p : BL) : totN (ds ++ [p]) = totN ds + (p.length + 1) := by simp [totN]
theorem totN_mem {ds : List BL} {p : BL} (h : p ∈ ds) : p.length + 1 ≤ totN ds := by
  induction ds with
  | nil => simp at h
  | cons q ds ih =>
    unfold totN at ih ⊢
    simp only [List.map_cons, List.sum_cons]
    rcases List.mem_cons.1 h with rfl | h
    · omega
    · have := ih h; omega
theorem totN_len (ds : List BL) : ds.length ≤ totN ds := by
  induction ds with
  | nil => simp [totN]
  | cons q ds ih => unfold totN at ih ⊢; simp only [List.map_cons, List.sum_cons, List.length_cons]; omega
theorem totN_sub {ds es : List BL} (h : ds.Sublist es) : totN ds ≤ totN es := by
  induction h with
  | slnil => simp
  | cons a _ ih => unfold totN at ih ⊢; simp only [List.map_cons, List.sum_cons]; omega
  | cons_cons a _ ih => unfold totN at ih ⊢; simp only [List.map_cons, List.sum_cons]; omega
def LargePost (ds : List BL) (w : World) (e : Ending) (w' : World) : Prop := w = w' ∧ ∃ b, e = .returned (.bool b) ∧ (b = false → totN ds ≤ 65536)
theorem large_ret {ds : List BL} {w : World} {b : Bool} (h : b = false → totN ds ≤ 65536) : LargePost ds w (.returned (.bool b)) w := ⟨rfl, b, rfl, h⟩

set_option maxHeartbeats 1000000 in
theorem large_any (a : Option Addr) (len cap : Nat) (ds : List BL) (w : World) (hB : Cel w a len (strs ds)) (hl : len ≤ 140737488351232) (hs : ∀ p ∈ ds, p.length ≤ 140737488351232) :
    Calls Tryz.prog 5 #[.slice a len cap] w (LargePost ds w) := by
  obtain ⟨rfl, hat⟩ := cel_str hB
  have HAT := hid hat
  have HS := hid hs
  clear hB hat hs
  go_enter Tryz.func5, Tryz.ntmps5
  go_wp2_with fail
  go_loop [3, 4] (fun n i => ∃ k m : Nat, k ≤ ds.length ∧ i = .int .i64 k ∧ n = .int .i64 m ∧ m ≤ ds.length + 400000 ∧ (65536 < m ∨ m + k = ds.length + totN (ds.take k))) (fun _ i => ds.length - (intOf i).toNat)
  case atStart => exact ⟨0, ds.length, Nat.zero_le _, rfl, rfl, by omega, .inr (by simp [totN])⟩
  case round =>
    obtain ⟨k, m, hk, rfl, rfl, hm, ht⟩ := hrel
    have HT := hid ht
    clear ht
    by_cases hlt : k < ds.length
    · have d1 : decide ((k : Int) < (ds.length : Int)) = true := by simp; omega
      by_cases hm2 : m ≤ 65536
      · have d2 : decide ((m : Int) ≤ 65536) = true := by simp; omega
        obtain ⟨b, off, rfl, hc⟩ := HAT.out (by omega)
        have hx := hc k hlt
        have hz : (ba ds[k]).size = ds[k].length := ba_size _
        have hz2 := HS.out _ (List.getElem_mem hlt)
        have HTT := hid (show totN (ds.take (k + 1)) = totN (ds.take k) + (ds[k].length + 1) by rw [List.take_succ_eq_append_getElem hlt, totN_snoc])
        have hz3 : (ba ds[k]).size ≤ 140737488351232 := by omega
        have HZ := hid hz
        clear hc hz
        generalize ba ds[k] = s at *
        by_cases hs : s.size ≤ 131072
        · go_wp2_with fail
          go_round
          case rel => exact ⟨k + 1, m + s.size, by omega, by go_num, by go_num, by omega, by have h1 := HT.out; have h2 := HTT.out; have h3 := HZ.out; omega⟩
          case measure => simp [intOf]; omega
        · have hs2 : 131072 < s.size := by omega
          clear hs
          go_wp2_with fail
          go_round
          case rel => exact ⟨k + 1, m + 131072, by omega, by go_num, by go_num, by omega, by omega⟩
          case measure => simp [intOf]; omega
      · have d2 : decide ((m : Int) ≤ 65536) = false := by simp; omega
        have d3 : decide (65536 < (m : Int)) = true := by simp; omega
        go_wp2_with fail
        go_ret
        exact large_ret (by intro h; cases h)
    · have d1 : decide ((k : Int) < (ds.length : Int)) = false := by simp; omega
      obtain rfl : k = ds.length := by omega
      have H9 := HT.out
      rw [List.take_length] at H9
      have HF := hid (show (decide (65536 < (m : Int))) = false → totN ds ≤ 65536 by intro h; have h2 := of_decide_eq_false h; omega)
      clear H9
      go_wp2_with fail
      go_ret
      exact large_ret HF.out

theorem wpList_appSN {w : World} {ops : Array Oper} {rest : List Oper} {o : Oper} {a : Act} {Q : Exit → Act → World → Prop} (hgd : o.guard = none) (s x : Operand)
    (ho : o.op = .call { callee := .builtin .append, args := #[s, x], argTypes := #[27, 27] }) (N : Nat) (hN : w.heap.size = N)
    (base : Nat) (v : Value) (ds : List BL) (t : ByteArray) (hs : a.eval s = v) (hx : a.eval x = .slice (some ⟨N, 0, none⟩) 1 1) (hown : OwnS w base v ds) (hn : ds.length ≤ 8000000000000) (hbase : base ≤ w.heap.size)
    (h : ∀ v' w', w'.ownsRow base 9 1 v' (ds.length + 1) (strs (ds ++ [t.data.toList])) → (w.alloc (.cells #[.string t] 9)).grownBy w' v.ownBlock → Below base w w' → w.heap.size ≤ w'.heap.size → (v'.ownBlock = v.ownBlock ∨ v'.ownBlock = some (w.heap.size + 1)) → wpList Tryz.prog ops Q rest (a.put o.dst v') w') :
    wpList Tryz.prog ops Q (o :: rest) a (w.alloc (.cells #[.string t] 9)) := by
  subst hN
  exact wpList_appS hgd s x ho base v ds t hs hx hown hn hbase h

set_option maxRecDepth 100000 in
set_option maxHeartbeats 4000000 in
theorem rargv_any (i a p : BL) (ar : Option Addr) (n cr : Nat) (rest : List BL) (w : World) (hR : Cel w ar n (strs rest)) (hcr : n ≤ cr) (hn : n ≤ 1000000) :
    Calls Tryz.prog 32 #[.string (ba i), .string (ba a), .string (ba p), .slice ar n cr] w (OwnPost w (argvL i a p rest)) := by
  obtain ⟨i0, hi0, hz0, hz1, hz2⟩ := info_parts infoS
  have hnl := cel_len hR
  have hq := ba_nil (ba a)
  rw [show (ba a).data.toList = a from rfl] at hq
  have HB1 := hid (show Below w.heap.size w (w.alloc (.cells #[.string (ba i)] 9)) from bal _)
  have HO1 : Hid (OwnS (w.alloc (.cells #[.string (ba i)] 9)) w.heap.size (.slice (some ⟨w.heap.size, 0, none⟩) 1 1) [i]) := hid ((Row.new w 9 [.string (ba i)]).owns (base := w.heap.size) (n := 1) (cap := 1) (Nat.le_refl _) rfl (Nat.le_refl _) (by unfold maxLen; omega))
  have HSZ1 := hid (show (w.alloc (.cells #[.string (ba i)] 9)).heap.size = w.heap.size + 1 by simp)
  by_cases hemp : a = []
  · rw [decide_eq_true hemp] at hq
    by_cases h1 : 1 < n
    · have d1 : decide ((1 : Int) < (n : Int)) = true := by simp; omega
      have d1n : decide (1 < n) = true := by simp; omega
      obtain ⟨x, r, rfl⟩ : ∃ x r, rest = x :: r := by
        cases rest with
        | nil => simp at hnl; omega
        | cons x r => exact ⟨x, r, rfl⟩
      obtain ⟨k, rfl⟩ : ∃ k, n = k + 1 := ⟨n - 1, by omega⟩
      have d2 : decide ((1 : Int) < (k : Int) + 1) = true := decide_eq_true (by omega)
      obtain ⟨b2, o2, rfl, _⟩ := hR.some_of (by simp [strs])
      obtain ⟨aR, hsl, hcr2⟩ := tail_slice b2 o2 cr k hcr
      have HC := hid (fun (wz : World) (hz : Below w.heap.size w wz) => hcr2 wz _ (strs r) (hR.below' hz))
      have HM := hid (show (strs r).length = k * 1 by rw [strsS_len]; simp at hnl; omega)
      have HM1 := hid (strsS_one r)
      have HM2 := hid (show 2 + k ≤ maxLen by unfold maxLen; omega)
      have HM3 := hid (show (2 + k) * 16 ≤ 140737488355328 by omega)
      have HE : Hid (argvL i a p (x :: r) = [i, p] ++ r) := hid (by unfold argvL; rw [if_pos hemp]; rfl)
      have HL2 := hid (show 2 + k = (argvL i a p (x :: r)).length by rw [HE.out]; simp at hnl ⊢; omega)
      clear hR hcr hn hnl hcr2 h1 hemp
      go_enter Tryz.func32, Tryz.ntmps32
      go_wp2_with (at_builtin; go_must (first | (refine wpList_appSN rfl _ _ rfl (w.heap.size + 1) HSZ1.out w.heap.size (.slice (some ⟨w.heap.size, 0, none⟩) 1 1) [i] (ba p) rfl rfl HO1.out (by simp) (by have := HB1.out.size; omega) ?_; intro v2 w2 hown hgrow hb hz hat; have HO2 := hid (ownS_of (ds' := [i, p]) hown rfl); have HB2 := hid (HB1.out.trans hb); clear hown hgrow hb hz hat) | (refine wpList_append_own_at _ rfl _ _ 27 rfl w.heap.size 9 i0 (.string ByteArray.empty) 1 16 Tryz.underlying27 hi0 hz0 hz1 hz2 rfl (by decide) v2 2 (strs [i, p]) rfl HO2.out aR k (cr - 1) (strs r) rfl HM.out (HC.out _ HB2.out).news HM1.out HM2.out HM3.out HB2.out.size ?_; intro v3 w3 hown hgrow _ _; have HO3 := hid hown; have HB3 := hid (HB2.out.grown hgrow HB2.out.size (fun k hk => own_low HO2.out (Nat.le_refl _) k hk)); clear hown hgrow)))
      go_ret
      exact ⟨_, rfl, own_ext HO3.out HL2.out (by rw [HE.out, strsS_app]), HB3.out⟩
    · have d1 : decide ((1 : Int) < (n : Int)) = false := decide_eq_false (by omega)
      have d1n : decide (1 < n) = false := decide_eq_false (by omega)
      have HE : Hid (argvL i a p rest = [i, p]) := hid (by unfold argvL; rw [if_pos hemp, List.drop_eq_nil_of_le (by omega), List.append_nil])
      clear hR hcr hn hnl h1 hemp
      go_enter Tryz.func32, Tryz.ntmps32
      go_wp2_with (at_builtin; go_must (first | (refine wpList_appSN rfl _ _ rfl (w.heap.size + 1) HSZ1.out w.heap.size (.slice (some ⟨w.heap.size, 0, none⟩) 1 1) [i] (ba p) rfl rfl HO1.out (by simp) (by have := HB1.out.size; omega) ?_; intro v2 w2 hown hgrow hb hz hat; have HO2 := hid (ownS_of (ds' := [i, p]) hown rfl); have HB2 := hid (HB1.out.trans hb); clear hown hgrow hb hz hat)))
      go_ret
      rw [HE.out]
      exact ⟨_, rfl, HO2.out, HB2.out⟩
  · rw [decide_eq_false hemp] at hq
    by_cases h1 : 1 < n
    · have d1 : decide ((1 : Int) < (n : Int)) = true := by simp; omega
      have d1n : decide (1 < n) = true := by simp; omega
      obtain ⟨x, r, rfl⟩ : ∃ x r, rest = x :: r := by
        cases rest with
        | nil => simp at hnl; omega
        | cons x r => exact ⟨x, r, rfl⟩
      obtain ⟨k, rfl⟩ : ∃ k, n = k + 1 := ⟨n - 1, by omega⟩
      have d2 : decide ((1 : Int) < (k : Int) + 1) = true := decide_eq_true (by omega)
      obtain ⟨b2, o2, rfl, _⟩ := hR.some_of (by simp [strs])
      obtain ⟨aR, hsl, hcr2⟩ := tail_slice b2 o2 cr k hcr
      have HC := hid (fun (wz : World) (hz : Below w.heap.size w wz) => hcr2 wz _ (strs r) (hR.below' hz))
      have HM := hid (show (strs r).length = k * 1 by rw [strsS_len]; simp at hnl; omega)
      have HM1 := hid (strsS_one r)
      have HM2 := hid (show 3 + k ≤ maxLen by unfold maxLen; omega)
      have HM3 := hid (show (3 + k) * 16 ≤ 140737488355328 by omega)
      have HE : Hid (argvL i a p (x :: r) = [i, a, p] ++ r) := hid (by unfold argvL; rw [if_neg hemp]; rfl)
      have HL3 := hid (show 3 + k = (argvL i a p (x :: r)).length by rw [HE.out]; simp at hnl ⊢; omega)
      clear hR hcr hn hnl hcr2 h1 hemp
      go_enter Tryz.func32, Tryz.ntmps32
      go_wp2_with (at_builtin; go_must (first | (refine wpList_appSN rfl _ _ rfl (w.heap.size + 1) HSZ1.out w.heap.size (.slice (some ⟨w.heap.size, 0, none⟩) 1 1) [i] (ba a) rfl rfl HO1.out (by simp) (by have := HB1.out.size; omega) ?_; intro v2 w2 hown hgrow hb hz hat; have HO2 := hid (ownS_of (ds' := [i, a]) hown rfl); have HB2 := hid (HB1.out.trans hb); clear hown hgrow hb hz hat) | (refine wpList_appSN rfl _ _ rfl _ rfl w.heap.size v2 [i, a] (ba p) rfl rfl HO2.out (by simp) (by have := HB2.out.size; omega) ?_; intro v3 w3 hown hgrow hb hz hat; have HO3 := hid (ownS_of (ds' := [i, a, p]) hown rfl); have HB3 := hid (HB2.out.trans hb); clear hown hgrow hb hz hat) | (refine wpList_append_own_at _ rfl _ _ 27 rfl w.heap.size 9 i0 (.string ByteArray.empty) 1 16 Tryz.underlying27 hi0 hz0 hz1 hz2 rfl (by decide) v3 3 (strs [i, a, p]) rfl HO3.out aR k (cr - 1) (strs r) rfl HM.out (HC.out _ HB3.out).news HM1.out HM2.out HM3.out HB3.out.size ?_; intro v4 w4 hown hgrow _ _; have HO4 := hid hown; have HB4 := hid (HB3.out.grown hgrow HB3.out.size (fun k hk => own_low HO3.out (Nat.le_refl _) k hk)); clear hown hgrow)))
      go_ret
      exact ⟨_, rfl, own_ext HO4.out HL3.out (by rw [HE.out, strsS_app]), HB4.out⟩
    · have d1 : decide ((1 : Int) < (n : Int)) = false := decide_eq_false (by omega)
      have d1n : decide (1 < n) = false := decide_eq_false (by omega)
      have HE : Hid (argvL i a p rest = [i, a, p]) := hid (by unfold argvL; rw [if_neg hemp, List.drop_eq_nil_of_le (by omega), List.append_nil])
      clear hR hcr hn hnl h1 hemp
      go_enter Tryz.func32, Tryz.ntmps32
      go_wp2_with (at_builtin; go_must (first | (refine wpList_appSN rfl _ _ rfl (w.heap.size + 1) HSZ1.out w.heap.size (.slice (some ⟨w.heap.size, 0, none⟩) 1 1) [i] (ba a) rfl rfl HO1.out (by simp) (by have := HB1.out.size; omega) ?_; intro v2 w2 hown hgrow hb hz hat; have HO2 := hid (ownS_of (ds' := [i, a]) hown rfl); have HB2 := hid (HB1.out.trans hb); clear hown hgrow hb hz hat) | (refine wpList_appSN rfl _ _ rfl _ rfl w.heap.size v2 [i, a] (ba p) rfl rfl HO2.out (by simp) (by have := HB2.out.size; omega) ?_; intro v3 w3 hown hgrow hb hz hat; have HO3 := hid (ownS_of (ds' := [i, a, p]) hown rfl); have HB3 := hid (HB2.out.trans hb); clear hown hgrow hb hz hat)))
      go_ret
      rw [HE.out]
      exact ⟨_, rfl, HO3.out, HB3.out⟩
end Go.Proofs.YthamfhenadaapaaGreatDoor
