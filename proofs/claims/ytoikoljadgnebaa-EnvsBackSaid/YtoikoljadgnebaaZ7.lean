/- Contracts of package hostelref03: Check, Get. -/
import Derived.Test.YtoikoljadgnebaaZ6
namespace Go.Proofs.Ytoikoljadgnebaa
open Go.RowKit Go.Sort

set_option maxHeartbeats 1000000 in
theorem rcheck_any (a : Option Addr) (len cap : Nat) (ds : List BL) (w : World) (hB : Cel w a len (strs ds)) (hl : len ≤ 140737488351232) (hs : ∀ p ∈ ds, p.length ≤ 140737488351232) :
    Calls Try.prog 17 #[.slice a len cap] w fun e' w' => e' = .returned (.int .i64 (chkL ds)) ∧ w = w' := by
  obtain ⟨rfl, hat⟩ := cel_str hB
  have HAT := hid hat
  have HS := hid hs
  clear hB hat hs
  by_cases h32 : 32 < ds.length
  · have HF := hid (show chkL ds = 12 by unfold chkL; rw [if_pos h32])
    go_enter Try.func17, Try.ntmps17
    go_wp2_with fail
    go_ret
    exact ⟨ret_i64s HF.out, rfl⟩
  · have H32 := hid h32
    go_enter Try.func17, Try.ntmps17
    go_wp2_with fail
    go_loop [3] (fun i => ∃ k : Nat, k ≤ ds.length ∧ i = .int .i64 k ∧ (ds.take k).any longB = false) (fun i => ds.length - (intOf i).toNat)
    case atStart => exact ⟨0, Nat.zero_le _, rfl, by simp⟩
    case round =>
      obtain ⟨k, hk, rfl, hno⟩ := hrel
      have HNO := hid hno
      clear hno
      by_cases hlt : k < ds.length
      · have d1 : decide ((k : Int) < (ds.length : Int)) = true := by simp; omega
        obtain ⟨b, off, rfl, hc⟩ := HAT.out (by omega)
        have hx := hc k hlt
        have hz : (ba ds[k]).size = ds[k].length := ba_size _
        have hz2 := HS.out _ (List.getElem_mem hlt)
        have hT := any_take hlt HNO.out
        have HT := hid hT
        clear hc hT
        by_cases hb : 256 < ds[k].length
        · have d2 : 256 < ((ba ds[k]).size : Int) := by omega
          have HF := hid (chk_long H32.out (any_hit hlt (show longB ds[k] = true by unfold longB; rw [decide_eq_true hb])))
          clear hb hz
          go_wp2_with fail
          go_ret
          exact ⟨ret_i64s HF.out, rfl⟩
        · have d2 : ¬ 256 < ((ba ds[k]).size : Int) := by omega
          have HN := hid (show (ds.take (k + 1)).any longB = false by rw [HT.out]; unfold longB; rw [decide_eq_false hb])
          clear hb hz
          go_wp2_with fail
          go_round
          case rel => exact ⟨k + 1, by omega, by go_num, HN.out⟩
          case measure => simp [intOf]; omega
      · have d1 : decide ((k : Int) < (ds.length : Int)) = false := by simp; omega
        obtain rfl : k = ds.length := by omega
        have HL := hid (any_full HNO.out)
        clear HNO
        go_wp2_with fail
        go_loop [4] (fun i => ∃ k : Nat, k ≤ ds.length ∧ i = .int .i64 k ∧ (ds.take k).any has0 = false) (fun i => ds.length - (intOf i).toNat)
        case atStart => exact ⟨0, Nat.zero_le _, rfl, by simp⟩
        case round =>
          obtain ⟨k, hk, rfl, hno⟩ := hrel
          have HNO := hid hno
          clear hno
          by_cases hlt : k < ds.length
          · have d1 : decide ((k : Int) < (ds.length : Int)) = true := by simp; omega
            obtain ⟨b, off, rfl, hc⟩ := HAT.out (by omega)
            have hx := hc k hlt
            have HT := hid (any_take hlt HNO.out)
            clear hc
            have hz2 : (ba ds[k]).size ≤ 140737488351232 := by rw [ba_size]; exact HS.out _ (List.getElem_mem hlt)
            have HZ := hid hz2
            clear hz2
            go_wp2_with fail
            refine (rhas_any _ 0 0 rfl _ HZ.out).mono ?_
            rintro e' w1 ⟨rfl, rfl⟩
            rw [ba_list, show hasC 0 ds[k] = has0 ds[k] from rfl]
            cases hb : has0 ds[k]
            · have HN := hid (show (ds.take (k + 1)).any has0 = false by rw [HT.out, hb])
              clear hb
              go_wp2_with fail
              go_round
              case rel => exact ⟨k + 1, by omega, by go_num, HN.out⟩
              case measure => simp [intOf]; omega
            · have HF := hid (chk_nul H32.out HL.out (any_hit hlt hb))
              clear hb
              go_wp2_with fail
              go_ret
              exact ⟨ret_i64s HF.out, rfl⟩
          · have d1 : decide ((k : Int) < (ds.length : Int)) = false := by simp; omega
            obtain rfl : k = ds.length := by omega
            have HF := hid (chk_ok H32.out HL.out (any_full HNO.out))
            go_wp2_with fail
            go_ret
            exact ⟨ret_i64s HF.out, rfl⟩

set_option maxHeartbeats 1000000 in
theorem rget_any (a : Option Addr) (len cap : Nat) (ds : List BL) (n : ByteArray) (w : World) (hB : Cel w a len (strs ds)) (hl : len ≤ 140737488351232) (hs : ∀ p ∈ ds, p.length ≤ 140737488351232) :
    Calls Try.prog 15 #[.slice a len cap, .string n] w (GetPost ds n.data.toList w) := by
  obtain ⟨rfl, hat⟩ := cel_str hB
  have HAT := hid hat
  have HS := hid hs
  clear hB hat hs
  go_enter Try.func15, Try.ntmps15
  go_wp2_with fail
  go_loopw [6] (fun i wr => ∃ k m : Nat, k ≤ ds.length ∧ i = .int .i64 k ∧ (ds.take k).any (fun l => named l n.data.toList) = false ∧ wr = w.drewN m) (fun i _ => ds.length - (intOf i).toNat)
  case atStart => exact ⟨0, 0, Nat.zero_le _, rfl, by simp, rfl⟩
  case round =>
    obtain ⟨k, m, hk, rfl, hno, rfl⟩ := hrel
    have HNO := hid hno
    clear hno
    by_cases hlt : k < ds.length
    · have d1 : decide ((k : Int) < (ds.length : Int)) = true := by simp; omega
      obtain ⟨b, off, rfl, hc⟩ := HAT.out (by omega)
      have hx := hc k hlt
      have hz : (ba ds[k]).size ≤ 140737488351232 := by rw [ba_size]; exact HS.out _ (List.getElem_mem hlt)
      have HZ := hid hz
      have HT := hid (any_take hlt HNO.out)
      clear hc hz
      go_wp2_with fail
      refine (rnamed_any _ _ _ HZ.out).mono ?_
      rintro e' w1 ⟨rfl, m1, rfl⟩
      rw [ba_list]
      cases hb : named ds[k] n.data.toList
      · have HN := hid (show (ds.take (k + 1)).any (fun l => named l n.data.toList) = false by rw [HT.out, hb])
        clear hb
        go_wp2_with fail
        go_roundw
        case rel => exact ⟨k + 1, m + m1, by omega, by go_num, HN.out, by simp [World.drewN, Nat.add_assoc]⟩
        case measure => simp [intOf]; omega
      · have HF := hid (getF_hit hlt HNO.out hb)
        clear hb
        go_wp2_with fail
        refine (rsplit_any _ _ HZ.out).mono ?_
        rintro e' w1 ⟨rfl, m2, rfl⟩
        rw [ba_list]
        go_wp2_with fail
        go_ret2
        exact get_ret (k := m + m1 + m2) (by rw [HF.out.1]) (by rw [HF.out.2]) (by simp [World.drewN, Nat.add_assoc])
    · have d1 : decide ((k : Int) < (ds.length : Int)) = false := by simp; omega
      obtain rfl : k = ds.length := by omega
      have HF := hid (getF_no (any_full HNO.out))
      go_wp2_with fail
      go_ret2
      exact get_ret (k := m) (by rw [HF.out.1]; rfl) (by rw [HF.out.2]) rfl
end Go.Proofs.Ytoikoljadgnebaa
