
/- envs.Check, and the reference's. -/
import Derived.Test.YtcbkikioapdbbaaDoorZM
import Derived.Test.YtcbkikioapdbbaaDoorKA
import Derived.Test.YtcbkikioapdbbaaDoorKE
import Derived.Test.YtcbkikioapdbbaaDoorShelf
import Derived.Test.YtcbkikioapdbbaaDoorZA0
import Derived.Deep.DeepMust
namespace Go.Proofs.YtcbkikioapdbbaaDoor
open Go.RowKit Go.Sort

theorem byte_eq (s : ByteArray) (k : Nat) (h : k < s.size) (c : UInt8) (n : Int) (hn : (c.toNat : Int) = n) : ((s[k].toNat : Int) == n) = decide (s[k] = c) := by
  rw [Bool.eq_iff_iff, beq_iff_eq, decide_eq_true_eq, ← hn]
  constructor
  · intro h; exact UInt8.toNat_inj.1 (by omega)
  · intro h; rw [h]
theorem take_snoc2 (s : ByteArray) (k : Nat) (h : k < s.size) : s.data.toList.take (k + 1) = s.data.toList.take k ++ [s[k]] := by
  rw [List.take_succ_eq_append_getElem (by simpa using h)]; rfl
theorem take_all (s : ByteArray) (k : Nat) (h : s.size ≤ k) : s.data.toList.take k = s.data.toList := List.take_of_length_le (by rw [size_list]; exact h)

theorem hasNought_any (s : ByteArray) (w : World) :
    Calls Tryd.prog 69 #[.string s] w fun e' w' => e' = .returned (.bool (has0 s.data.toList)) ∧ w = w' := by
  go_enter Tryd.func69, Tryd.ntmps69
  go_wp2_with fail
  refine (Tryd.strings_IndexByte _ _ _).mono ?_
  rintro e' w1 ⟨rfl, rfl⟩
  rw [show (0 : Int).toNat.toUInt8 = 0 from rfl]
  by_cases h : 0 ∈ s.data.toList
  · rw [idx_mem h]
    have HF := hid (show true = has0 s.data.toList by unfold has0; rw [decide_eq_true h])
    clear h
    go_wp2_with fail
    go_ret
    exact ⟨ret_bool HF.out, rfl⟩
  · rw [idx_no h]
    have HF := hid (show false = has0 s.data.toList by unfold has0; rw [decide_eq_false h])
    clear h
    go_wp2_with fail
    go_ret
    exact ⟨ret_bool HF.out, rfl⟩

theorem any_take {p : BL → Bool} {ds : List BL} {k : Nat} (hk : k < ds.length) (h : (ds.take k).any p = false) : (ds.take (k + 1)).any p = p ds[k] := by
  rw [List.take_succ_eq_append_getElem hk, List.any_append, h]; simp
theorem any_hit {p : BL → Bool} {ds : List BL} {k : Nat} (hk : k < ds.length) (h : p ds[k] = true) : ds.any p = true := List.any_eq_true.2 ⟨_, List.getElem_mem hk, h⟩
theorem any_full {p : BL → Bool} {ds : List BL} (h : (ds.take ds.length).any p = false) : ds.any p = false := by rwa [List.take_length] at h
theorem chk_long {ds : List BL} (h1 : ¬ 32 < ds.length) (h2 : ds.any longB = true) : chkL ds = 12 := by unfold chkL; rw [if_neg h1, if_pos h2]
theorem chk_nul {ds : List BL} (h1 : ¬ 32 < ds.length) (h2 : ds.any longB = false) (h3 : ds.any has0 = true) : chkL ds = 1 := by unfold chkL; rw [if_neg h1, if_neg (by rw [h2]; simp), if_pos h3]
theorem chk_ok {ds : List BL} (h1 : ¬ 32 < ds.length) (h2 : ds.any longB = false) (h3 : ds.any has0 = false) : chkL ds = 0 := by unfold chkL; rw [if_neg h1, if_neg (by rw [h2]; simp), if_neg (by rw [h3]; simp)]
theorem ret_i64s {a b : Int} (h : b = a) : Ending.returned (.int .i64 a) = .returned (.int .i64 b) := by rw [h]

set_option maxHeartbeats 1000000 in
theorem checkE_any (a : Option Addr) (len cap : Nat) (ds : List BL) (w : World) (hB : Cel w a len (strs ds)) (hl : len ≤ 140737488351232) (hs : ∀ p ∈ ds, p.length ≤ 140737488351232) :
    Calls Tryd.prog 56 #[.slice a len cap] w fun e' w' => e' = .returned (.int .i64 (chkL ds)) ∧ w = w' := by
  obtain ⟨rfl, hat⟩ := cel_str hB
  have HAT := hid hat
  have HS := hid hs
  clear hB hat hs
  by_cases h32 : 32 < ds.length
  · have HF := hid (show chkL ds = 12 by unfold chkL; rw [if_pos h32])
    go_enter Tryd.func56, Tryd.ntmps56
    go_wp2_with fail
    go_ret
    exact ⟨ret_i64s HF.out, rfl⟩
  · have H32 := hid h32
    go_enter Tryd.func56, Tryd.ntmps56
    go_wp2_with fail
    go_loop [12] (fun i => ∃ k : Nat, k ≤ ds.length ∧ i = .int .i64 k ∧ (ds.take k).any longB = false) (fun i => ds.length - (intOf i).toNat)
    case atStart => exact ⟨0, Nat.zero_le _, rfl, by simp⟩
    case round =>
      obtain ⟨k, hk, rfl, hno⟩ := hrel
      have HNO := hid hno
      clear hno
      by_cases hlt : k < ds.length
      · have d1 : decide ((k : Int) < (ds.length : Int)) = true := by simp; omega
        obtain ⟨b, off, rfl, hc⟩ := HAT.out (by omega)
        have hx := hc k hlt
        have hz : (ba ds[k]).size = ds[k].length := ba_size _
        have hz2 := HS.out _ (List.getElem_mem hlt)
        have hT := any_take hlt HNO.out
        have HT := hid hT
        clear hc hT
        by_cases hb : 256 < ds[k].length
        · have d2 : 256 < ((ba ds[k]).size : Int) := by omega
          have HF := hid (chk_long H32.out (any_hit hlt (show longB ds[k] = true by unfold longB; rw [decide_eq_true hb])))
          clear hb hz
          go_wp2_with fail
          go_ret
          exact ⟨ret_i64s HF.out, rfl⟩
        · have d2 : ¬ 256 < ((ba ds[k]).size : Int) := by omega
          have HN := hid (show (ds.take (k + 1)).any longB = false by rw [HT.out]; unfold longB; rw [decide_eq_false hb])
          clear hb hz
          go_wp2_with fail
          go_round
          case rel => exact ⟨k + 1, by omega, by go_num, HN.out⟩
          case measure => simp [intOf]; omega
      · have d1 : decide ((k : Int) < (ds.length : Int)) = false := by simp; omega
        obtain rfl : k = ds.length := by omega
        have HL := hid (any_full HNO.out)
        clear HNO
        go_wp2_with fail
        go_loop [22] (fun i => ∃ k : Nat, k ≤ ds.length ∧ i = .int .i64 k ∧ (ds.take k).any has0 = false) (fun i => ds.length - (intOf i).toNat)
        case atStart => exact ⟨0, Nat.zero_le _, rfl, by simp⟩
        case round =>
          obtain ⟨k, hk, rfl, hno⟩ := hrel
          have HNO := hid hno
          clear hno
          by_cases hlt : k < ds.length
          · have d1 : decide ((k : Int) < (ds.length : Int)) = true := by simp; omega
            obtain ⟨b, off, rfl, hc⟩ := HAT.out (by omega)
            have hx := hc k hlt
            have HT := hid (any_take hlt HNO.out)
            clear hc
            go_wp2_with fail
            refine (hasNought_any _ _).mono ?_
            rintro e' w1 ⟨rfl, rfl⟩
            rw [ba_list]
            cases hb : has0 ds[k]
            · have HN := hid (show (ds.take (k + 1)).any has0 = false by rw [HT.out, hb])
              clear hb
              go_wp2_with fail
              go_round
              case rel => exact ⟨k + 1, by omega, by go_num, HN.out⟩
              case measure => simp [intOf]; omega
            · have HF := hid (chk_nul H32.out HL.out (any_hit hlt hb))
              clear hb
              go_wp2_with fail
              go_ret
              exact ⟨ret_i64s HF.out, rfl⟩
          · have d1 : decide ((k : Int) < (ds.length : Int)) = false := by simp; omega
            obtain rfl : k = ds.length := by omega
            have HF := hid (chk_ok H32.out HL.out (any_full HNO.out))
            go_wp2_with fail
            go_ret
            exact ⟨ret_i64s HF.out, rfl⟩

theorem rhas_any (s : ByteArray) (c : UInt8) (n : Int) (hn : (c.toNat : Int) = n) (w : World) (hs : s.size ≤ 140737488351232) :
    Calls Tryd.prog 59 #[.string s, .int .u8 n] w fun e' w' => e' = .returned (.bool (hasC c s.data.toList)) ∧ w = w' := by
  have HN := hid hn
  clear hn
  go_enter Tryd.func59, Tryd.ntmps59
  go_wp2_with fail
  go_loop [5] (fun i => ∃ k : Nat, k ≤ s.size ∧ i = .int .i64 k ∧ ¬ c ∈ s.data.toList.take k) (fun i => s.size - (intOf i).toNat)
  case atStart => exact ⟨0, Nat.zero_le _, rfl, by simp⟩
  case round =>
    obtain ⟨k, hk, rfl, hno⟩ := hrel
    have HNO := hid hno
    clear hno
    by_cases hlt : k < s.size
    · have hb := byte_eq s k hlt c n HN.out
      have HT := hid (take_snoc2 s k hlt)
      by_cases h : s[k] = c
      · rw [decide_eq_true h] at hb
        have HF := hid (show true = hasC c s.data.toList by
          unfold hasC; rw [eq_comm, decide_eq_true_eq]
          have : c ∈ s.data.toList.take (k + 1) := by rw [HT.out]; simp [h]
          exact List.mem_of_mem_take this)
        clear h HT
        go_wp2
        go_ret
        exact ⟨ret_bool HF.out, rfl⟩
      · rw [decide_eq_false h] at hb
        have HNO2 := hid (show ¬ c ∈ s.data.toList.take (k + 1) by
          rw [HT.out]
          intro hm
          rcases List.mem_append.1 hm with hm | hm
          · exact HNO.out hm
          · exact h (List.mem_singleton.1 hm).symm)
        clear h HT
        go_wp2
        go_round
        case rel => exact ⟨k + 1, by omega, by go_num, HNO2.out⟩
        case measure => simp [intOf]; omega
    · have HF := hid (show false = hasC c s.data.toList by
        unfold hasC
        have := HNO.out
        rw [take_all s k (by omega)] at this
        rw [decide_eq_false this])
      go_wp2
      go_ret
      exact ⟨ret_bool HF.out, rfl⟩

set_option maxHeartbeats 1000000 in
theorem rcheck3_any (a : Option Addr) (len cap : Nat) (ds : List BL) (w : World) (hB : Cel w a len (strs ds)) (hl : len ≤ 140737488351232) (hs : ∀ p ∈ ds, p.length ≤ 140737488351232) :
    Calls Tryd.prog 38 #[.slice a len cap] w fun e' w' => e' = .returned (.int .i64 (chkL ds)) ∧ w = w' := by
  obtain ⟨rfl, hat⟩ := cel_str hB
  have HAT := hid hat
  have HS := hid hs
  clear hB hat hs
  by_cases h32 : 32 < ds.length
  · have HF := hid (show chkL ds = 12 by unfold chkL; rw [if_pos h32])
    go_enter Tryd.func38, Tryd.ntmps38
    go_wp2_with fail
    go_ret
    exact ⟨ret_i64s HF.out, rfl⟩
  · have H32 := hid h32
    go_enter Tryd.func38, Tryd.ntmps38
    go_wp2_with fail
    go_loop [3] (fun i => ∃ k : Nat, k ≤ ds.length ∧ i = .int .i64 k ∧ (ds.take k).any longB = false) (fun i => ds.length - (intOf i).toNat)
    case atStart => exact ⟨0, Nat.zero_le _, rfl, by simp⟩
    case round =>
      obtain ⟨k, hk, rfl, hno⟩ := hrel
      have HNO := hid hno
      clear hno
      by_cases hlt : k < ds.length
      · have d1 : decide ((k : Int) < (ds.length : Int)) = true := by simp; omega
        obtain ⟨b, off, rfl, hc⟩ := HAT.out (by omega)
        have hx := hc k hlt
        have hz : (ba ds[k]).size = ds[k].length := ba_size _
        have hz2 := HS.out _ (List.getElem_mem hlt)
        have hT := any_take hlt HNO.out
        have HT := hid hT
        clear hc hT
        by_cases hb : 256 < ds[k].length
        · have d2 : 256 < ((ba ds[k]).size : Int) := by omega
          have HF := hid (chk_long H32.out (any_hit hlt (show longB ds[k] = true by unfold longB; rw [decide_eq_true hb])))
          clear hb hz
          go_wp2_with fail
          go_ret
          exact ⟨ret_i64s HF.out, rfl⟩
        · have d2 : ¬ 256 < ((ba ds[k]).size : Int) := by omega
          have HN := hid (show (ds.take (k + 1)).any longB = false by rw [HT.out]; unfold longB; rw [decide_eq_false hb])
          clear hb hz
          go_wp2_with fail
          go_round
          case rel => exact ⟨k + 1, by omega, by go_num, HN.out⟩
          case measure => simp [intOf]; omega
      · have d1 : decide ((k : Int) < (ds.length : Int)) = false := by simp; omega
        obtain rfl : k = ds.length := by omega
        have HL := hid (any_full HNO.out)
        clear HNO
        go_wp2_with fail
        go_loop [4] (fun i => ∃ k : Nat, k ≤ ds.length ∧ i = .int .i64 k ∧ (ds.take k).any has0 = false) (fun i => ds.length - (intOf i).toNat)
        case atStart => exact ⟨0, Nat.zero_le _, rfl, by simp⟩
        case round =>
          obtain ⟨k, hk, rfl, hno⟩ := hrel
          have HNO := hid hno
          clear hno
          by_cases hlt : k < ds.length
          · have d1 : decide ((k : Int) < (ds.length : Int)) = true := by simp; omega
            obtain ⟨b, off, rfl, hc⟩ := HAT.out (by omega)
            have hx := hc k hlt
            have HT := hid (any_take hlt HNO.out)
            clear hc
            have hz2 : (ba ds[k]).size ≤ 140737488351232 := by rw [ba_size]; exact HS.out _ (List.getElem_mem hlt)
            have HZ := hid hz2
            clear hz2
            go_wp2_with fail
            refine (rhas_any _ 0 0 rfl _ HZ.out).mono ?_
            rintro e' w1 ⟨rfl, rfl⟩
            rw [ba_list, show hasC 0 ds[k] = has0 ds[k] from rfl]
            cases hb : has0 ds[k]
            · have HN := hid (show (ds.take (k + 1)).any has0 = false by rw [HT.out, hb])
              clear hb
              go_wp2_with fail
              go_round
              case rel => exact ⟨k + 1, by omega, by go_num, HN.out⟩
              case measure => simp [intOf]; omega
            · have HF := hid (chk_nul H32.out HL.out (any_hit hlt hb))
              clear hb
              go_wp2_with fail
              go_ret
              exact ⟨ret_i64s HF.out, rfl⟩
          · have d1 : decide ((k : Int) < (ds.length : Int)) = false := by simp; omega
            obtain rfl : k = ds.length := by omega
            have HF := hid (chk_ok H32.out HL.out (any_full HNO.out))
            go_wp2_with fail
            go_ret
            exact ⟨ret_i64s HF.out, rfl⟩

end Go.Proofs.YtcbkikioapdbbaaDoor
