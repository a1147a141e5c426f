/- hostellaw05: (pair).same. -/
import Derived.Test.YtjbclaplohankaaDU
import Derived.Deep.QuietTactic
import Derived.BigQuiet
namespace Go.Proofs.Ytjbclaplohankaa
open Go.RowKit Go.Sort

set_option maxHeartbeats 1000000 in
theorem eqRT_any (b c c1 c2 : Nat) (ss : List SL) (w : World) (hB : RT w b ss) (hC : RT w c ss) :
    Calls Try.prog 19 #[.slice (some ⟨b, 0, none⟩) 16 c1, .slice (some ⟨c, 0, none⟩) 16 c2] w fun e w' => e = .returned (.bool true) ∧ ∃ n, w' = w.drewN n := by
  have hl16 := hB.len
  have hlb := hB.lt
  have hlc := hC.lt
  have HB := hid hB
  have HC := hid hC
  clear hB hC
  have hne := slot_neq
  go_enter Try.func19, Try.ntmps19
  go_wp2_with fail
  go_loopw [5] (fun i wr => ∃ k : Nat, k ≤ 16 ∧ i = .int .i64 k ∧ ∃ n, wr = w.drewN n) (fun i _ => 16 - (intOf i).toNat)
  case atStart => exact ⟨0, Nat.zero_le _, rfl, 0, rfl⟩
  case round =>
    obtain ⟨k, hk, rfl, n, rfl⟩ := hrel
    by_cases h1 : k < 16
    · have d1 : decide ((k : Int) < 16) = true := by simp; omega
      have d1n : decide (k < 16) = true := by simp; omega
      have hks : k < ss.length := by omega
      obtain ⟨x0, x1, x2, x3⟩ := HB.out.at k hks
      obtain ⟨y0, y1, y2, y3⟩ := HC.out.at k hks
      have hq := eqS_self ss[k]
      generalize ss[k] = sk at *
      obtain ⟨u, m, p, c⟩ := sk
      go_wp2_with fail
      go_quiet (fail)
      go_wp2_with fail
      go_roundw
      case rel => exact ⟨k + 1, by omega, by go_num, n + nq, by simp [World.drewN, Nat.add_assoc]⟩
      case measure => simp [intOf]; omega
    · have d1 : decide ((k : Int) < 16) = false := by simp; omega
      have d1n : decide (k < 16) = false := by simp; omega
      go_wp2_with fail
      go_ret
      exact ⟨rfl, n, rfl⟩

set_option maxHeartbeats 2000000 in
theorem same_any (b p q c : Nat) (ss : List SL) (w : World) (ht : Tab w b 50 ss) (hr : RTab w p q c ss) :
    Calls Try.prog 12 #[.agg #[.pointer (some ⟨b, 0, none⟩), .pointer (some ⟨p, 0, none⟩)]] w fun e' w' => e' = .returned (.bool true) ∧ Below w.heap.size w w' := by
  have HT := hid (fun o => ht.below (@bal w o))
  have HR := hid (fun o => hr.below (@bal w o))
  have HW := hid (@bal w)
  have HX := hid (Row.new w 28 [.pointer (some ⟨b, 0, none⟩), .pointer (some ⟨p, 0, none⟩)])
  clear ht hr
  go_enter Try.func12, Try.ntmps12
  go_wp2_with fail
  refine (list_any _ _ _ (HT.out _)).mono ?_
  rintro e' w1 ⟨rfl, hl, hb⟩
  rw [World.size_alloc] at hl ⊢
  have hx := HX.out.below hb HX.out.lt
  have z0 := hx.cell 0 (by simp)
  have z1 := hx.cell 1 (by simp)
  simp only [List.getElem_cons_zero, List.getElem_cons_succ] at z0 z1
  have hlx := hx.lt
  have HL := hid hl
  have HR1 := hid ((HR.out _).below hb)
  have HB1 := hid (bthen (HW.out _) hb)
  have hl1 := hl.row.lt
  clear hl hb hx
  go_wp2_with fail
  refine (rlist_any _ _ _ _ _ HR1.out).mono ?_
  rintro e' w2 ⟨G, c', rfl, hG, hR, hb⟩
  have HG := hid hR
  have HL2 := hid (HL.out.below hb)
  have HB2 := hid (bthen HB1.out hb)
  clear hR hb
  go_wp2_with fail
  refine (eqRT_any _ _ _ _ _ _ (RT.of HL2.out) HG.out).mono ?_
  rintro e' w3 ⟨rfl, n, rfl⟩
  have HL3 := hid (HL2.out.below (bdN (Below.refl _ _) n))
  have HB3 := hid (bdN HB2.out n)
  generalize w2.drewN n = w3 at *
  go_wp2_with fail
  go_loopw [4] (fun i wr => ∃ (k : Nat) (sk : List SL), k ≤ 16 ∧ i = .int .i64 k ∧ Tab wr (w.heap.size + 1) 44 sk ∧ Below w.heap.size w wr) (fun i _ => 16 - (intOf i).toNat)
  case atStart => exact ⟨0, _, Nat.zero_le _, rfl, HL3.out, HB3.out⟩
  case round =>
    obtain ⟨k, sk, hk, rfl, ht, hb⟩ := hrel
    have HTK := hid ht
    have HBK := hid hb
    by_cases h1 : k < 16
    · have d1 : decide ((k : Int) < 16) = true := by simp; omega
      have d1n : decide (k < 16) = true := by simp; omega
      have hks : k < sk.length := by have := ht.len; omega
      obtain ⟨x0, x1, x2, x3⟩ := ht.at k hks
      obtain ⟨f0, f1, f2, f3⟩ := ht.free k
      have hlt := ht.row.lt
      clear ht hb
      go_wp2_with fail
      go_roundw
      case rel => exact ⟨k + 1, _, by omega, by go_num, HTK.out.set k hks (true, 77, 0, false), bset (bset (bset (bset HBK.out (by omega) _) (by omega) _) (by omega) _) (by omega) _⟩
      case measure => simp [intOf]; omega
    · have d1 : decide ((k : Int) < 16) = false := by simp; omega
      have d1n : decide (k < 16) = false := by simp; omega
      clear ht hb
      go_wp2_with fail
      go_ret
      exact ⟨rfl, HBK.out⟩
end Go.Proofs.Ytjbclaplohankaa
