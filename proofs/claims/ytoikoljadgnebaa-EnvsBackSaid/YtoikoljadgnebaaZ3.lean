/- Contracts of package envs: lists that are only read. -/
import Derived.Test.YtoikoljadgnebaaZ2
namespace Go.Proofs.Ytoikoljadgnebaa
open Go.RowKit Go.Sort

theorem any_take {p : BL → Bool} {ds : List BL} {k : Nat} (hk : k < ds.length) (h : (ds.take k).any p = false) : (ds.take (k + 1)).any p = p ds[k] := by
  rw [List.take_succ_eq_append_getElem hk, List.any_append, h]; simp
theorem any_hit {p : BL → Bool} {ds : List BL} {k : Nat} (hk : k < ds.length) (h : p ds[k] = true) : ds.any p = true := List.any_eq_true.2 ⟨_, List.getElem_mem hk, h⟩
theorem any_full {p : BL → Bool} {ds : List BL} (h : (ds.take ds.length).any p = false) : ds.any p = false := by rwa [List.take_length] at h
/-- What lies at a place of a list of texts. -/
theorem cel_str {w : World} {a : Option Addr} {len : Nat} {ds : List BL} (h : Cel w a len (strs ds)) : ds.length = len ∧ (0 < ds.length → ∃ b off, a = some ⟨b, off, none⟩ ∧ ∀ i (hi : i < ds.length), w.cell? ⟨b, off + i, none⟩ = some (.string (ba ds[i]))) := by
  refine ⟨by simpa [strs] using h.hlen, fun hp => ?_⟩
  obtain ⟨b, off, e, hc⟩ := h.some_of (by simpa [strs] using hp)
  exact ⟨b, off, e, fun i hi => strs_at hc hi⟩

theorem chk_long {ds : List BL} (h1 : ¬ 32 < ds.length) (h2 : ds.any longB = true) : chkL ds = 12 := by unfold chkL; rw [if_neg h1, if_pos h2]
theorem chk_nul {ds : List BL} (h1 : ¬ 32 < ds.length) (h2 : ds.any longB = false) (h3 : ds.any has0 = true) : chkL ds = 1 := by unfold chkL; rw [if_neg h1, if_neg (by rw [h2]; simp), if_pos h3]
theorem chk_ok {ds : List BL} (h1 : ¬ 32 < ds.length) (h2 : ds.any longB = false) (h3 : ds.any has0 = false) : chkL ds = 0 := by unfold chkL; rw [if_neg h1, if_neg (by rw [h2]; simp), if_neg (by rw [h3]; simp)]
theorem ret_i64s {a b : Int} (h : b = a) : Ending.returned (.int .i64 a) = .returned (.int .i64 b) := by rw [h]

set_option maxHeartbeats 1000000 in
theorem checkE_any (a : Option Addr) (len cap : Nat) (ds : List BL) (w : World) (hB : Cel w a len (strs ds)) (hl : len ≤ 140737488351232) (hs : ∀ p ∈ ds, p.length ≤ 140737488351232) :
    Calls Try.prog 16 #[.slice a len cap] w fun e' w' => e' = .returned (.int .i64 (chkL ds)) ∧ w = w' := by
  obtain ⟨rfl, hat⟩ := cel_str hB
  have HAT := hid hat
  have HS := hid hs
  clear hB hat hs
  by_cases h32 : 32 < ds.length
  · have HF := hid (show chkL ds = 12 by unfold chkL; rw [if_pos h32])
    go_enter Try.func16, Try.ntmps16
    go_wp2_with fail
    go_ret
    exact ⟨ret_i64s HF.out, rfl⟩
  · have H32 := hid h32
    go_enter Try.func16, Try.ntmps16
    go_wp2_with fail
    go_loop [12] (fun i => ∃ k : Nat, k ≤ ds.length ∧ i = .int .i64 k ∧ (ds.take k).any longB = false) (fun i => ds.length - (intOf i).toNat)
    case atStart => exact ⟨0, Nat.zero_le _, rfl, by simp⟩
    case round =>
      obtain ⟨k, hk, rfl, hno⟩ := hrel
      have HNO := hid hno
      clear hno
      by_cases hlt : k < ds.length
      · have d1 : decide ((k : Int) < (ds.length : Int)) = true := by simp; omega
        obtain ⟨b, off, rfl, hc⟩ := HAT.out (by omega)
        have hx := hc k hlt
        have hz : (ba ds[k]).size = ds[k].length := ba_size _
        have hz2 := HS.out _ (List.getElem_mem hlt)
        have hT := any_take hlt HNO.out
        have HT := hid hT
        clear hc hT
        by_cases hb : 256 < ds[k].length
        · have d2 : 256 < ((ba ds[k]).size : Int) := by omega
          have HF := hid (chk_long H32.out (any_hit hlt (show longB ds[k] = true by unfold longB; rw [decide_eq_true hb])))
          clear hb hz
          go_wp2_with fail
          go_ret
          exact ⟨ret_i64s HF.out, rfl⟩
        · have d2 : ¬ 256 < ((ba ds[k]).size : Int) := by omega
          have HN := hid (show (ds.take (k + 1)).any longB = false by rw [HT.out]; unfold longB; rw [decide_eq_false hb])
          clear hb hz
          go_wp2_with fail
          go_round
          case rel => exact ⟨k + 1, by omega, by go_num, HN.out⟩
          case measure => simp [intOf]; omega
      · have d1 : decide ((k : Int) < (ds.length : Int)) = false := by simp; omega
        obtain rfl : k = ds.length := by omega
        have HL := hid (any_full HNO.out)
        clear HNO
        go_wp2_with fail
        go_loop [22] (fun i => ∃ k : Nat, k ≤ ds.length ∧ i = .int .i64 k ∧ (ds.take k).any has0 = false) (fun i => ds.length - (intOf i).toNat)
        case atStart => exact ⟨0, Nat.zero_le _, rfl, by simp⟩
        case round =>
          obtain ⟨k, hk, rfl, hno⟩ := hrel
          have HNO := hid hno
          clear hno
          by_cases hlt : k < ds.length
          · have d1 : decide ((k : Int) < (ds.length : Int)) = true := by simp; omega
            obtain ⟨b, off, rfl, hc⟩ := HAT.out (by omega)
            have hx := hc k hlt
            have HT := hid (any_take hlt HNO.out)
            clear hc
            go_wp2_with fail
            refine (hasNought_any _ _).mono ?_
            rintro e' w1 ⟨rfl, rfl⟩
            rw [ba_list]
            cases hb : has0 ds[k]
            · have HN := hid (show (ds.take (k + 1)).any has0 = false by rw [HT.out, hb])
              clear hb
              go_wp2_with fail
              go_round
              case rel => exact ⟨k + 1, by omega, by go_num, HN.out⟩
              case measure => simp [intOf]; omega
            · have HF := hid (chk_nul H32.out HL.out (any_hit hlt hb))
              clear hb
              go_wp2_with fail
              go_ret
              exact ⟨ret_i64s HF.out, rfl⟩
          · have d1 : decide ((k : Int) < (ds.length : Int)) = false := by simp; omega
            obtain rfl : k = ds.length := by omega
            have HF := hid (chk_ok H32.out HL.out (any_full HNO.out))
            go_wp2_with fail
            go_ret
            exact ⟨ret_i64s HF.out, rfl⟩

theorem find_take {p : BL → Bool} {ds : List BL} {k : Nat} (hk : k < ds.length) (h : (ds.take k).any p = false) (hp : p ds[k] = true) : ds.find? p = some ds[k] := by
  have e : ds = ds.take k ++ (ds[k] :: ds.drop (k + 1)) := by rw [← List.drop_eq_getElem_cons hk, List.take_append_drop]
  conv => lhs; rw [e]
  rw [List.find?_append]
  have : (ds.take k).find? p = none := by
    rw [List.find?_eq_none]; intro x hx; have := (List.any_eq_false.1 h) x hx; simpa using this
  rw [this, Option.none_or, List.find?_cons_of_pos hp]
theorem getF_hit {ds : List BL} {n : BL} {k : Nat} (hk : k < ds.length) (h : (ds.take k).any (fun l => named l n) = false) (hp : named ds[k] n = true) : getV ds n = vlS ds[k] ∧ getB ds n = true := by
  have : getF ds n = some ds[k] := find_take hk h hp
  unfold getV getB; rw [this]; exact ⟨rfl, rfl⟩
theorem getF_no {ds : List BL} {n : BL} (h : ds.any (fun l => named l n) = false) : getV ds n = [] ∧ getB ds n = false := by
  have : getF ds n = none := by
    unfold getF; rw [List.find?_eq_none]; intro x hx; have := (List.any_eq_false.1 h) x hx; simpa using this
  unfold getV getB; rw [this]; exact ⟨rfl, rfl⟩
def GetPost (ds : List BL) (n : BL) (w : World) (e : Ending) (w' : World) : Prop := e = .returned (.tuple #[.string (ba (getV ds n)), .bool (getB ds n)]) ∧ ∃ k, w' = w.drewN k
theorem get_ret {ds : List BL} {n : BL} {a : ByteArray} {c : Bool} {w w' : World} {k : Nat} (h1 : a = ba (getV ds n)) (h3 : c = getB ds n) (hw : w' = w.drewN k) : GetPost ds n w (.returned (.tuple #[.string a, .bool c])) w' := by
  subst h1 h3; exact ⟨rfl, k, hw⟩

set_option maxHeartbeats 1000000 in
theorem getE_any (a : Option Addr) (len cap : Nat) (ds : List BL) (n : ByteArray) (w : World) (hB : Cel w a len (strs ds)) (hl : len ≤ 140737488351232) (hs : ∀ p ∈ ds, p.length ≤ 140737488351232) :
    Calls Try.prog 14 #[.slice a len cap, .string n] w (GetPost ds n.data.toList w) := by
  obtain ⟨rfl, hat⟩ := cel_str hB
  have HAT := hid hat
  have HS := hid hs
  clear hB hat hs
  go_enter Try.func14, Try.ntmps14
  go_wp2_with fail
  go_loopw [13] (fun i wr => ∃ k m : Nat, k ≤ ds.length ∧ i = .int .i64 k ∧ (ds.take k).any (fun l => named l n.data.toList) = false ∧ wr = w.drewN m) (fun i _ => ds.length - (intOf i).toNat)
  case atStart => exact ⟨0, 0, Nat.zero_le _, rfl, by simp, rfl⟩
  case round =>
    obtain ⟨k, m, hk, rfl, hno, rfl⟩ := hrel
    have HNO := hid hno
    clear hno
    by_cases hlt : k < ds.length
    · have d1 : decide ((k : Int) < (ds.length : Int)) = true := by simp; omega
      obtain ⟨b, off, rfl, hc⟩ := HAT.out (by omega)
      have hx := hc k hlt
      have hz : (ba ds[k]).size ≤ 140737488351232 := by rw [ba_size]; exact HS.out _ (List.getElem_mem hlt)
      have HZ := hid hz
      have HT := hid (any_take hlt HNO.out)
      clear hc hz
      go_wp2_with fail
      refine (names_any _ _ _ HZ.out).mono ?_
      rintro e' w1 ⟨rfl, m1, rfl⟩
      rw [ba_list]
      cases hb : named ds[k] n.data.toList
      · have HN := hid (show (ds.take (k + 1)).any (fun l => named l n.data.toList) = false by rw [HT.out, hb])
        clear hb
        go_wp2_with fail
        go_roundw
        case rel => exact ⟨k + 1, m + m1, by omega, by go_num, HN.out, by simp [World.drewN, Nat.add_assoc]⟩
        case measure => simp [intOf]; omega
      · have HF := hid (getF_hit hlt HNO.out hb)
        clear hb
        go_wp2_with fail
        refine (splitE_any _ _ HZ.out).mono ?_
        rintro e' w1 ⟨rfl, m2, rfl⟩
        rw [ba_list]
        go_wp2_with fail
        go_ret2
        exact get_ret (k := m + m1 + m2) (by rw [HF.out.1]) (by rw [HF.out.2]) (by simp [World.drewN, Nat.add_assoc])
    · have d1 : decide ((k : Int) < (ds.length : Int)) = false := by simp; omega
      obtain rfl : k = ds.length := by omega
      have HF := hid (getF_no (any_full HNO.out))
      go_wp2_with fail
      go_ret2
      exact get_ret (k := m) (by rw [HF.out.1]; rfl) (by rw [HF.out.2]) rfl
end Go.Proofs.Ytoikoljadgnebaa
