
/- hostellaw13.within. -/
import Derived.Test.YtkkadknijjninaaDoorQc3
namespace Go.Proofs.YtkkadknijjninaaDoor
open Go.RowKit Go.Sort Go.Shelf Go.Proofs.YtkkadknijjninaaDoor.Ap
attribute [local go_sem] Oper.semAt_some

def wiB (l s : BL) (i : Nat) : Bool := (l.getD (i + s.length) 1 == 0) && decide ((l.drop i).take s.length = s)
def withinB (l s : BL) : Bool := (List.range (l.length - s.length)).any (wiB l s)
set_option maxRecDepth 100000 in
set_option maxHeartbeats 8000000 in
theorem within_any (a : Option Addr) (n cap : Nat) (l s : BL) (w : World) (hB : Byt w a n l) (hcap : n ≤ cap) (hn : n ≤ 1000000000) (hs : s.length ≤ 1000000000) :
    Calls Tryd.prog 18 #[.slice a n cap, .string (ba s)] w fun e w' => e = .returned (.bool (withinB l s)) ∧ w = w' := by
  obtain rfl := hB.hlen
  obtain ⟨R, hR⟩ : ∃ R, R = withinB l s := ⟨_, rfl⟩
  rw [← hR]
  have HR := hid hR
  have HBB := hid hB
  have HCAP := hid hcap
  have HN := hid hn
  have HS := hid hs
  have hsz := ba_size s
  clear hR hB hcap hn hs
  go_enter Tryd.func18, Tryd.ntmps18
  go_wp2_with fail
  clear hsz
  go_loopw [6] (fun i wr => ∃ k : Nat, k ≤ l.length ∧ i = .int .i64 k ∧ (∀ q, q < k → q + s.length < l.length ∧ wiB l s q = false) ∧ w = wr) (fun i _ => l.length - (intOf i).toNat)
  case atStart => exact ⟨0, Nat.zero_le _, rfl, fun q h => by omega, rfl⟩
  case round =>
    obtain ⟨k, hk, rfl, hno, rfl⟩ := hrel
    have HNO := hid hno
    have hll := HN.out
    have hss := HS.out
    clear hno
    by_cases hlt : k + s.length < l.length
    · obtain ⟨z, hz⟩ : ∃ z : Nat, z = k + s.length := ⟨_, rfl⟩
      have ewz : IntKind.i64.wrap ((k : Int) + (s.length : Int)) = (z : Int) := by
        rw [show (k : Int) + (s.length : Int) = (z : Int) by omega]
        exact IntWalk.i64_in (z : Int) ⟨by omega, by omega⟩
      have d1 : decide ((z : Int) < (l.length : Int)) = true := by simp; omega
      have d1n : decide (z < l.length) = true := by simp; omega
      have HZ := hid hz
      obtain ⟨b, off, rfl, hc⟩ := HBB.out.cell z (by omega)
      have hz0 : (0 : Int) ≤ (z : Int) := by omega
      have hz1 : (z : Int) < (l.length : Int) := by omega
      have HLT := hid hlt
      have HK := hid (show ∀ bb, wiB l s k = bb → ∀ q, q < k + 1 → q + s.length < l.length ∧ (bb = false → wiB l s q = false) from fun bb hb q hq => by
        rcases Nat.lt_succ_iff_lt_or_eq.1 hq with h | rfl
        · exact ⟨(HNO.out q h).1, fun _ => (HNO.out q h).2⟩
        · exact ⟨HLT.out, fun e => by rw [hb, e]⟩)
      have HYES := hid (show wiB l s k = true → R = true from fun h => by
        rw [HR.out]
        unfold withinB
        rw [List.any_eq_true]
        exact ⟨k, List.mem_range.2 (by have := HLT.out; omega), h⟩)
      have HW := hid (show wiB l s k = ((l[z] == 0) && decide ((l.drop k).take s.length = s)) by
        unfold wiB
        rw [← HZ.out, List.getD_eq_getElem?_getD, List.getElem?_eq_getElem (show z < l.length by omega)]
        rfl)
      have hmid := HBB.out.mid (f := k) (n := s.length) (by omega)
      have hs2 := slFT .i64 .i64 b off l.length cap k z (k : Int) (z : Int) rfl rfl (by omega) (by have := HCAP.out; omega) (by have := HCAP.out; omega)
      have hcv := hmid.str (P := Tryd.prog) 22 9 5 (cap - k) Tryd.underlying22 Tryd.underlying5 Tryd.underlying9
      have hcv2 : (convert 22 9 (.slice (some ⟨b, off + k, none⟩) (z - k) (cap - k))).run Tryd.prog w = .ok (.string (ba ((l.drop k).take s.length))) w := by
        rw [show z - k = s.length by omega, hcv]
        rfl
      have ew1 := IntWalk.i64_in ((k : Int) + 1) ⟨by omega, by omega⟩
      have hq := ba_beq2 ((l.drop k).take s.length) s
      generalize l[z] = x at *
      clear hz
      by_cases h0 : x = 0
      · subst h0
        have e0 : (((0 : UInt8).toNat : Int) == 0) = true := rfl
        by_cases he : (l.drop k).take s.length = s
        · have HT := hid (HYES.out (by rw [HW.out, decide_eq_true he]; rfl))
          rw [decide_eq_true he] at hq
          clear hcv hmid he
          go_wp2_with fail
          go_ret
          exact ⟨by rw [HT.out]; rfl, rfl⟩
        · have HF := hid (show wiB l s k = false by rw [HW.out, decide_eq_false he]; rfl)
          rw [decide_eq_false he] at hq
          clear hcv hmid he
          go_wp2_with fail
          go_roundw
          case rel => exact ⟨k + 1, by have := HLT.out; omega, by go_num, fun q h => ⟨(HK.out _ rfl q h).1, (HK.out _ rfl q h).2 HF.out⟩, trivial⟩
          case measure => simp [intOf]; have := HLT.out; omega
      · have HF := hid (show wiB l s k = false by rw [HW.out, show (x == 0) = false from by simpa using h0]; rfl)
        have e0 : ((x.toNat : Int) == 0) = false := by
          rw [beq_eq_false_iff_ne]
          intro h
          exact h0 (UInt8.toNat_inj.1 (by simpa using h))
        clear hcv hmid h0
        go_wp2_with fail
        go_roundw
        case rel => exact ⟨k + 1, by have := HLT.out; omega, by go_num, fun q h => ⟨(HK.out _ rfl q h).1, (HK.out _ rfl q h).2 HF.out⟩, trivial⟩
        case measure => simp [intOf]; have := HLT.out; omega
    · have ewz := IntWalk.i64_in ((k : Int) + (s.length : Int)) ⟨by omega, by omega⟩
      have d1 : decide ((k : Int) + (s.length : Int) < (l.length : Int)) = false := by simp; omega
      have d1n : decide (k + s.length < l.length) = false := by simp; omega
      have HF := hid (show R = false by
        rw [HR.out]
        unfold withinB
        rw [List.any_eq_false]
        intro q hq
        rw [(HNO.out q (by have := List.mem_range.1 hq; omega)).2]
        decide)
      go_wp2_with fail
      go_ret
      exact ⟨by rw [HF.out]; rfl, rfl⟩
end Go.Proofs.YtkkadknijjninaaDoor
