/- EnvsPieces. -/
import Derived.Test.YtoikoljadgnebaaZL1
namespace Go.Proofs.Ytoikoljadgnebaa
open Go.RowKit Go.Sort

def jn2 : List BL → BL
  | [] => []
  | [p] => p
  | p :: q :: r => p ++ [58] ++ jn2 (q :: r)
def gl2 (ds : List BL) : BL := (ds.map fun p => p ++ [58]).flatten
theorem gl2_snoc (ds : List BL) (p : BL) : gl2 (ds ++ [p]) = gl2 ds ++ p ++ [58] := by simp [gl2]
theorem jn2_last : ∀ (ds : List BL) (p : BL), jn2 (ds ++ [p]) = gl2 ds ++ p
  | [], p => by simp [jn2, gl2]
  | [q], p => by simp [jn2, gl2]
  | q :: r :: ds, p => by
    have h := jn2_last (r :: ds) p
    have e : jn2 (q :: r :: ds ++ [p]) = q ++ [58] ++ jn2 (r :: ds ++ [p]) := rfl
    rw [e, h]
    simp [gl2]
theorem cuts_jn2 : ∀ ds : List BL, ds ≠ [] → (∀ p ∈ ds, ¬ 58 ∈ p) → cuts 58 (jn2 ds) = ds
  | [], h, _ => absurd rfl h
  | [p], _, h => cuts_no (fun c hc => by rintro rfl; exact h p (by simp) hc)
  | p :: q :: r, _, h => by
    have ih := cuts_jn2 (q :: r) (by simp) (fun x hx => h x (List.mem_cons_of_mem _ hx))
    have e : jn2 (p :: q :: r) = p ++ [58] ++ jn2 (q :: r) := rfl
    rw [e, cuts_mid, ih, cuts_no (fun c hc => by rintro rfl; exact h p (by simp) hc)]
    rfl
def jp (ds : List BL) (k : Nat) : BL := if k < ds.length then gl2 (ds.take k) else jn2 ds
theorem jp_last {ds : List BL} {k : Nat} (hk : k < ds.length) (h : ¬ k + 1 < ds.length) : jp ds (k + 1) = jp ds k ++ ds[k] := by
  unfold jp
  rw [if_neg h, if_pos hk]
  have e : ds = ds.take k ++ [ds[k]] := by rw [← List.take_succ_eq_append_getElem hk, List.take_of_length_le (by omega)]
  conv => lhs; rw [e]
  exact jn2_last _ _
theorem jp_mid {ds : List BL} {k : Nat} (hk : k < ds.length) (h : k + 1 < ds.length) : jp ds (k + 1) = jp ds k ++ ds[k] ++ [58] := by
  unfold jp
  rw [if_pos h, if_pos hk, List.take_succ_eq_append_getElem hk, gl2_snoc]
theorem gl2_len (ds : List BL) : (gl2 ds).length = totN ds := by
  induction ds with
  | nil => rfl
  | cons p ds ih => unfold gl2 totN at ih ⊢; simp only [List.map_cons, List.flatten_cons, List.length_append, List.length_singleton, List.sum_cons, ih]
theorem jp_len (ds : List BL) (k : Nat) : (jp ds k).length ≤ totN ds := by
  unfold jp
  split
  · rw [gl2_len]; exact totN_sub (List.take_sublist _ _)
  · rcases ds.eq_nil_or_concat with rfl | ⟨e, s, rfl⟩
    · simp [jn2]
    · rw [List.concat_eq_append, jn2_last, List.length_append, gl2_len, totN_snoc]; omega
theorem list_back {ds : List BL} (h : ∀ p ∈ ds, ¬ 58 ∈ p ∧ p ≠ []) : listL (jp ds ds.length) = ds := by
  unfold jp
  rw [if_neg (by omega)]
  by_cases h0 : ds = []
  · subst h0; rfl
  · have hc := cuts_jn2 ds h0 (fun p hp => (h p hp).1)
    have hne : jn2 ds ≠ [] := by
      intro e
      rw [e] at hc
      have : cuts 58 [] = [[]] := rfl
      rw [this] at hc
      exact (h [] (by rw [← hc]; simp)).2 rfl
    unfold listL
    rw [if_neg hne, hc]
    have : ds.map dotP = ds.map id := List.map_congr_left (fun p hp => by unfold dotP; rw [if_neg (h p hp).2]; rfl)
    rw [this, List.map_id]

set_option maxHeartbeats 4000000 in
set_option maxRecDepth 100000 in
theorem envsPieces_walk (a : Option Addr) (len cap : Nat) (ds : List BL) (w : World) (hB : Cel w a len (strs ds)) (hl : len ≤ 140737488351232) (hs : ∀ p ∈ ds, p.length ≤ 140737488351232) :
    Calls Try.prog 8 #[.slice a len cap] w fun e' w' => e' = .returned (.bool true) ∧ Below w.heap.size w w' := by
  have HA := hid hB
  obtain ⟨rfl, _⟩ := cel_str hB
  clear hB
  go_enter Try.func8, Try.ntmps8
  go_wp2_with fail
  refine (large_any _ _ _ _ _ HA.out hl hs).mono ?_
  rintro e' w1 ⟨rfl, b, rfl, hbb⟩
  cases b
  case true =>
    go_wp2_with (go_at_call 10; refine (works_any _).mono ?_; rintro e' w' ⟨rfl, hw⟩)
    go_ret
    exact ⟨rfl, hw⟩
  obtain ⟨ht1, ht2⟩ := totN_all (hbb rfl)
  have HS := hid ht2
  have HT := hid (hbb rfl)
  obtain ⟨_, hat⟩ := cel_str HA.out
  have HAT := hid hat
  have HJL := hid (jp_len ds)
  clear hbb ht2 hs hl hat
  go_wp2_with fail
  go_loop [3, 4] (fun s i => ∃ k : Nat, k ≤ ds.length ∧ i = .int .i64 k ∧ s = .string (ba (jp ds k)) ∧ ∀ p ∈ ds.take k, ¬ 58 ∈ p ∧ p ≠ []) (fun _ i => ds.length - (intOf i).toNat)
  case atStart => exact ⟨0, Nat.zero_le _, rfl, by
    have : jp ds 0 = [] := by
      unfold jp
      split
      · rfl
      · have : ds = [] := List.length_eq_zero_iff.1 (by omega)
        subst this; rfl
    rw [this]; rfl, by simp⟩
  case round =>
    obtain ⟨k, hk, rfl, rfl, hall⟩ := hrel
    have HALL := hid hall
    clear hall
    by_cases hlt : k < ds.length
    · have d1 : decide ((k : Int) < (ds.length : Int)) = true := by simp; omega
      obtain ⟨b, off, rfl, hc⟩ := HAT.out (by omega)
      have hx := hc k hlt
      have hz : (ba ds[k]).size ≤ 140737488351232 := by rw [ba_size]; exact HS.out _ (List.getElem_mem hlt)
      have HDL := hid (show (ba ds[k]).data.toList = ds[k] from rfl)
      have hj := HJL.out k
      have hj2 := HT.out
      have hjs : (ba (jp ds k)).size ≤ 131072 := by rw [ba_size]; omega
      have HJS := hid hjs
      have HAP := hid (fun p hp => (show p ∈ ds.take (k + 1) → _ from fun hp2 => by
        rw [List.take_succ_eq_append_getElem hlt] at hp2
        exact List.mem_append.1 hp2) hp)
      have HJ1 := hid (fun h => jp_last (ds := ds) (k := k) hlt h)
      have HJ2 := hid (fun h => jp_mid (ds := ds) (k := k) hlt h)
      clear hc hj hj2
      generalize hsk : ds[k] = sk at *
      clear hsk
      generalize hbk : ba sk = s at *
      have HBK := hid hbk
      clear hbk
      go_wp2_with fail
      go_loop [5] (fun j => ∃ q : Nat, q ≤ s.size ∧ j = .int .i64 q ∧ ¬ 58 ∈ s.data.toList.take q) (fun j => s.size - (intOf j).toNat)
      case atStart => exact ⟨0, Nat.zero_le _, rfl, by simp⟩
      case round =>
        obtain ⟨q, hq, rfl, hno⟩ := hrel
        have HNO := hid hno
        clear hno
        by_cases hqlt : q < s.size
        · have hb := byte_eq s q hqlt 58 58 rfl
          have HTT := hid (take_snoc2 s q hqlt)
          by_cases h : s[q] = 58
          · rw [decide_eq_true h] at hb
            clear h
            go_wp2_with (go_at_call 10; refine (works_any _).mono ?_; rintro e' w' ⟨rfl, hw⟩)
            go_ret
            exact ⟨rfl, hw⟩
          · rw [decide_eq_false h] at hb
            have HNO2 := hid (show ¬ 58 ∈ s.data.toList.take (q + 1) by
              rw [HTT.out]
              intro hm
              rcases List.mem_append.1 hm with hm | hm
              · exact HNO.out hm
              · exact h (List.mem_singleton.1 hm).symm)
            clear h
            go_wp2_with fail
            go_round
            case rel => exact ⟨q + 1, by omega, by go_num, HNO2.out⟩
            case measure => simp [intOf]; omega
        · have HN := hid (show ¬ 58 ∈ sk by
            have := HNO.out
            rw [take_all s q (by omega), HDL.out] at this
            exact this)
          have e1 := ba_nil s
          rw [HDL.out] at e1
          by_cases hnil : sk = []
          · rw [decide_eq_true hnil] at e1
            clear hnil
            go_wp2_with (go_at_call 10; refine (works_any _).mono ?_; rintro e' w' ⟨rfl, hw⟩)
            go_ret
            exact ⟨rfl, hw⟩
          · rw [decide_eq_false hnil] at e1
            have HNEW := hid (show ∀ p ∈ ds.take (k + 1), ¬ 58 ∈ p ∧ p ≠ [] from fun p hp => by
              rcases HAP.out p hp with h | h
              · exact HALL.out p h
              · rw [List.mem_singleton.1 h]; exact ⟨HN.out, hnil⟩)
            clear hnil
            by_cases hlast : k + 1 < ds.length
            · have HE := hid (show ba (jp ds k) ++ s ++ (ByteArray.mk #[58]) = ba (jp ds (k + 1)) by
                rw [HJ2.out hlast, ← HBK.out, show ByteArray.mk #[58] = ba [58] from rfl, ba_append, ba_append])
              have d4 : decide ((k : Int) < (ds.length : Int) - 1) = true := by simp; omega
              go_wp2_with fail
              go_round
              case rel => exact ⟨k + 1, by omega, by go_num, by rw [HE.out], HNEW.out⟩
              case measure => simp [intOf]; omega
            · have HE := hid (show ba (jp ds k) ++ s = ba (jp ds (k + 1)) by
                rw [HJ1.out hlast, ← HBK.out, ba_append])
              have d4 : decide ((k : Int) < (ds.length : Int) - 1) = false := by simp; omega
              go_wp2_with fail
              go_round
              case rel => exact ⟨k + 1, by omega, by go_num, by rw [HE.out], HNEW.out⟩
              case measure => simp [intOf]; omega
    · have d1 : decide ((k : Int) < (ds.length : Int)) = false := by simp; omega
      obtain rfl : k = ds.length := by omega
      have HLB := hid (list_back (ds := ds) (by have := HALL.out; rwa [List.take_length] at this))
      have hj := HJL.out ds.length
      have hj2 := HT.out
      have hjs : (ba (jp ds ds.length)).size ≤ 131072 := by rw [ba_size]; omega
      clear hj hj2
      go_wp2_with fail
      refine (list_any _ _ (by omega)).mono ?_
      rintro e' w2 ⟨v, rfl, ho, hb⟩
      rw [ba_list, HLB.out] at ho
      obtain ⟨a2, c2, rfl, hC2, _⟩ := own_cel ho
      have HC2 := hid hC2
      have HA := hid (HA.out.below' hb)
      have HB := hid hb
      clear ho hC2 hb
      go_wp2_with fail
      refine (eqTexts_any _ _ _ _ _ _ ds ds _ HC2.out HA.out (by omega) (by omega)).mono ?_
      rintro e' w3 ⟨rfl, m, hw⟩
      rw [eqT_self]
      have HB := hid (bthen HB.out (drew_below hw))
      clear hw
      go_wp2_with (go_at_call 10; refine (works_any _).mono ?_; rintro e' w' ⟨rfl, hw⟩)
      go_ret
      exact ⟨rfl, bthen HB.out hw⟩
end Go.Proofs.Ytoikoljadgnebaa
