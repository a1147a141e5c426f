/- Package regions and its reference: Find. -/
import Derived.Test.YtcafmhhfnleanaaI1
namespace Go.Proofs.Ytcafmhhfnleanaa
open Go.RowKit Go.Sort

def hits (a : Int) (x : RG) : Bool := decide (x.fr ≤ a) && decide (a < x.to)
def findR (l : List RG) (a : Int) : Option RG := l.find? (hits a)
theorem find_skip (l : List RG) (a : Int) (k : Nat) (hk : k < l.length) (h : (l.drop k).find? (hits a) = findR l a) (hn : hits a l[k] = false) : (l.drop (k + 1)).find? (hits a) = findR l a := by
  rw [List.drop_eq_getElem_cons hk, List.find?_cons, hn] at h
  exact h
theorem find_hit (l : List RG) (a : Int) (k : Nat) (hk : k < l.length) (h : (l.drop k).find? (hits a) = findR l a) (hn : hits a l[k] = true) : findR l a = some l[k] := by
  rw [List.drop_eq_getElem_cons hk, List.find?_cons, hn] at h
  exact h.symm
theorem find_none (l : List RG) (a : Int) (k : Nat) (hk : l.length ≤ k) (h : (l.drop k).find? (hits a) = findR l a) : findR l a = none := by
  rw [List.drop_of_length_le hk] at h
  exact h.symm

set_option maxHeartbeats 1000000 in
theorem find_any (a : Option Addr) (len cap : Nat) (l : List RG) (x : Int) (w : World) (hA : Rgs w a len l) (hl : len ≤ 9223372036854775807) :
    Calls Try.prog 12 #[.slice a len cap, .int .u64 x] w fun e w' => e = .returned (.tuple #[rgV ((findR l x).getD rg0), .bool (findR l x).isSome]) ∧ Below w.heap.size w w' := by
  obtain rfl := hA.hlen
  have HA := hid hA
  have HW := hid (@bal w)
  have hR := Row.new w 25 (rgc rg0)
  have HR := hid hR
  clear hA
  go_enter Try.func12, Try.ntmps12
  go_wp2_with fail
  go_loopw [10] (fun i wr => ∃ k : Nat, k ≤ l.length ∧ i = .int .i64 k ∧ (l.drop k).find? (hits x) = findR l x ∧ Row wr w.heap.size 25 (rgc rg0) ∧ Below w.heap.size w wr) (fun i _ => l.length - (intOf i).toNat)
  case atStart => exact ⟨0, Nat.zero_le _, rfl, rfl, HR.out, HW.out _⟩
  case round =>
    obtain ⟨k, hk, rfl, hf, hr, hb⟩ := hrel
    obtain ⟨r0, r1, r2, r3, r4⟩ := hr.c5
    obtain ⟨f0, f1, f2, f3, f4⟩ := hr.fiveF
    have hlw := hr.lt
    have HF := hid hf
    have HB := hid hb
    have HR1 := hid hr
    clear hf hr
    by_cases hlt : k < l.length
    · have d1 : decide ((k : Int) < (l.length : Int)) = true := by simp; omega
      have d1n : decide (k < l.length) = true := by simp; omega
      obtain ⟨b, off, rfl, hc⟩ := HA.out.cell k hlt
      obtain ⟨y0, y1, y2, y3, y4⟩ := hc.below hb
      clear hb hc
      have hlb := World.block_lt_of_cell? _ _ y0
      have hn1 := hid (find_hit l x k hlt HF.out)
      have hn2 := hid (find_skip l x k hlt HF.out)
      generalize l[k] = y at *
      go_wp2_with fail
      · have h1 : y.fr ≤ x := by assumption
        have h2 : x < y.to := by assumption
        obtain ⟨z0, z1, z2, z3, z4⟩ := ((HR1.out.put y).alloc (.cells #[.int .u64 y.fr, .int .u64 y.to, .int .u8 y.pr, .int .i64 y.ino, .int .u64 y.off] 25)).c5
        refine bodyPost_ret (v := .tuple #[rgV y, .bool true]) (by simp [results, Try.results12, go_sem, z0, z1, z2, z3, z4]) rfl ⟨?_, ?_⟩
        · rw [hn1.out (by unfold hits; simp; omega)]; rfl
        · repeat (first | with_reducible refine bset ?_ (Nat.le_refl _) _ | with_reducible refine bal2 ?_ _)
          exact HB.out
      all_goals
        go_roundw
        case rel => exact ⟨k + 1, by omega, by go_num, hn2.out (by unfold hits; simp; omega), HR1.out.alloc _, bthen HB.out (bal _)⟩
        case measure => simp [intOf]; omega
    · have d1 : decide ((k : Int) < (l.length : Int)) = false := by simp; omega
      have d1n : decide (k < l.length) = false := by simp; omega
      have hn := hid (find_none l x k (by omega) HF.out)
      clear hb
      go_wp2_with fail
      refine bodyPost_ret (v := .tuple #[rgV rg0, .bool false]) (by simp [results, Try.results12, go_sem, r0, r1, r2, r3, r4, f0, f1, f2, f3, f4]; exact ⟨rfl, rfl, rfl, rfl, rfl⟩) rfl ⟨?_, ?_⟩
      · rw [hn.out]; rfl
      · repeat (with_reducible refine bset ?_ (Nat.le_refl _) _)
        exact HB.out
set_option maxHeartbeats 1000000 in
theorem rfind_any (a : Option Addr) (len cap : Nat) (l : List RG) (x : Int) (w : World) (hA : Rgs w a len l) (hl : len ≤ 9223372036854775807) :
    Calls Try.prog 13 #[.slice a len cap, .int .u64 x] w fun e w' => e = .returned (.tuple #[rgV ((findR l x).getD rg0), .bool (findR l x).isSome]) ∧ Below w.heap.size w w' := by
  obtain rfl := hA.hlen
  have HA := hid hA
  have HW := hid (@bal w)
  have hR := Row.new w 25 (rgc rg0)
  have HR := hid hR
  clear hA
  go_enter Try.func13, Try.ntmps13
  go_wp2_with fail
  go_loopw [6] (fun i wr => ∃ k : Nat, k ≤ l.length ∧ i = .int .i64 k ∧ (l.drop k).find? (hits x) = findR l x ∧ Row wr w.heap.size 25 (rgc rg0) ∧ Below w.heap.size w wr) (fun i _ => l.length - (intOf i).toNat)
  case atStart => exact ⟨0, Nat.zero_le _, rfl, rfl, HR.out, HW.out _⟩
  case round =>
    obtain ⟨k, hk, rfl, hf, hr, hb⟩ := hrel
    obtain ⟨r0, r1, r2, r3, r4⟩ := hr.c5
    obtain ⟨f0, f1, f2, f3, f4⟩ := hr.fiveF
    have hlw := hr.lt
    have HF := hid hf
    have HB := hid hb
    have HR1 := hid hr
    clear hf hr
    by_cases hlt : k < l.length
    · have d1 : decide ((k : Int) < (l.length : Int)) = true := by simp; omega
      have d1n : decide (k < l.length) = true := by simp; omega
      obtain ⟨b, off, rfl, hc⟩ := HA.out.cell k hlt
      obtain ⟨y0, y1, y2, y3, y4⟩ := hc.below hb
      clear hb hc
      have hlb := World.block_lt_of_cell? _ _ y0
      have hn1 := hid (find_hit l x k hlt HF.out)
      have hn2 := hid (find_skip l x k hlt HF.out)
      generalize l[k] = y at *
      go_wp2_with fail
      · have h1 : y.fr ≤ x := by assumption
        have h2 : x < y.to := by assumption
        obtain ⟨z0, z1, z2, z3, z4⟩ := (HR1.out.put y).c5
        refine bodyPost_ret (v := .tuple #[rgV y, .bool true]) (by simp [results, Try.results13, go_sem, z0, z1, z2, z3, z4]) rfl ⟨?_, ?_⟩
        · rw [hn1.out (by unfold hits; simp; omega)]; rfl
        · repeat (first | with_reducible refine bset ?_ (Nat.le_refl _) _ | with_reducible refine bal2 ?_ _)
          exact HB.out
      all_goals
        go_roundw
        case rel => exact ⟨k + 1, by omega, by go_num, hn2.out (by unfold hits; simp; omega), HR1.out, HB.out⟩
        case measure => simp [intOf]; omega
    · have d1 : decide ((k : Int) < (l.length : Int)) = false := by simp; omega
      have d1n : decide (k < l.length) = false := by simp; omega
      have hn := hid (find_none l x k (by omega) HF.out)
      clear hb
      go_wp2_with fail
      refine bodyPost_ret (v := .tuple #[rgV rg0, .bool false]) (by simp [results, Try.results13, go_sem, r0, r1, r2, r3, r4, f0, f1, f2, f3, f4]; exact ⟨rfl, rfl, rfl, rfl, rfl⟩) rfl ⟨?_, ?_⟩
      · rw [hn.out]; rfl
      · repeat (with_reducible refine bset ?_ (Nat.le_refl _) _)
        exact HB.out
end Go.Proofs.Ytcafmhhfnleanaa
