/- hostellaw10.at. -/
import Derived.Test.YtcafmhhfnleanaaIC
import Derived.Test.YtcafmhhfnleanaaI6
namespace Go.Proofs.Ytcafmhhfnleanaa
open Go.RowKit Go.Sort

set_option maxHeartbeats 1000000 in
theorem at_any (a : Option Addr) (len cap : Nat) (l : List RG) (x : Int) (w : World) (hA : Rgs w a len l) (hl : len ≤ 9223372036854775807) :
    Calls Try.prog 50 #[.slice a len cap, .int .u64 x] w fun e w' => e = .returned (.tuple #[rgV ((atR l x).getD rg0), .bool (atR l x).isSome]) ∧ Below w.heap.size w w' := by
  obtain rfl := hA.hlen
  have HA := hid hA
  have HW := hid (@bal w)
  have hR := Row.new w 25 (rgc rg0)
  have HR := hid hR
  clear hA
  go_enter Try.func50, Try.ntmps50
  go_wp2_with fail
  go_loopw [6] (fun i wr => ∃ k : Nat, k ≤ l.length ∧ i = .int .i64 k ∧ (l.drop k).find? (hits x) = findR l x ∧ Row wr w.heap.size 25 (rgc rg0) ∧ Below w.heap.size w wr) (fun i _ => l.length - (intOf i).toNat)
  case atStart => exact ⟨0, Nat.zero_le _, rfl, rfl, HR.out, HW.out _⟩
  case round =>
    obtain ⟨k, hk, rfl, hf, hr, hb⟩ := hrel
    obtain ⟨r0, r1, r2, r3, r4⟩ := hr.c5
    obtain ⟨f0, f1, f2, f3, f4⟩ := hr.fiveF
    have hlw := hr.lt
    have HF := hid hf
    have HB := hid hb
    have HR1 := hid hr
    clear hf hr
    by_cases hlt : k < l.length
    · have d1 : decide ((k : Int) < (l.length : Int)) = true := by simp; omega
      have d1n : decide (k < l.length) = true := by simp; omega
      obtain ⟨b, off, rfl, hc⟩ := HA.out.cell k hlt
      obtain ⟨y0, y1, y2, y3, y4⟩ := hc.below hb
      clear hb hc
      have hlb := World.block_lt_of_cell? _ _ y0
      have hn1 := hid (find_hit l x k hlt HF.out)
      have hn2 := hid (find_skip l x k hlt HF.out)
      generalize l[k] = y at *
      go_wp2_with fail
      · have h1 : y.fr ≤ x := by assumption
        have h2 : x < y.to := by assumption
        have h3 : (y.ino != -1) = true := by assumption
        obtain ⟨z0, z1, z2, z3, z4⟩ := ((HR1.out.put ⟨0, 0, y.pr, y.ino, IntKind.u64.wrap (y.off + IntKind.u64.wrap (x - y.fr))⟩).alloc (.cells #[.int .u64 0, .int .u64 0, .int .u8 y.pr, .int .i64 y.ino, .int .u64 (IntKind.u64.wrap (y.off + IntKind.u64.wrap (x - y.fr)))] 25)).c5
        simp only at z0 z1 z2 z3 z4
        refine bodyPost_ret (v := .tuple #[rgV ⟨0, 0, y.pr, y.ino, IntKind.u64.wrap (y.off + IntKind.u64.wrap (x - y.fr))⟩, .bool true]) (by simp [results, Try.results50, go_sem, z0, z1, z2, z3, z4]) rfl ⟨?_, ?_⟩
        · unfold atR; rw [hn1.out (by unfold hits; simp; omega)]; simp only [Option.map_some, Option.getD_some, Option.isSome_some, valR, h3, if_true, Bool.false_eq_true, if_false]
        · repeat (first | with_reducible refine bset ?_ (by omega) _ | with_reducible refine bal2 ?_ _)
          exact HB.out
      · have h1 : y.fr ≤ x := by assumption
        have h2 : x < y.to := by assumption
        have h3 : (y.ino != -1) = false := by assumption
        obtain ⟨z0, z1, z2, z3, z4⟩ := ((HR1.out.put ⟨0, 0, y.pr, y.ino, y.off⟩).alloc (.cells #[.int .u64 0, .int .u64 0, .int .u8 y.pr, .int .i64 y.ino, .int .u64 (y.off)] 25)).c5
        simp only at z0 z1 z2 z3 z4
        refine bodyPost_ret (v := .tuple #[rgV ⟨0, 0, y.pr, y.ino, y.off⟩, .bool true]) (by simp [results, Try.results50, go_sem, z0, z1, z2, z3, z4]) rfl ⟨?_, ?_⟩
        · unfold atR; rw [hn1.out (by unfold hits; simp; omega)]; simp only [Option.map_some, Option.getD_some, Option.isSome_some, valR, h3, if_true, Bool.false_eq_true, if_false]
        · repeat (first | with_reducible refine bset ?_ (by omega) _ | with_reducible refine bal2 ?_ _)
          exact HB.out
      all_goals
        go_roundw
        case rel => exact ⟨k + 1, by omega, by go_num, hn2.out (by unfold hits; simp; omega), HR1.out, HB.out⟩
        case measure => simp [intOf]; omega
    · have d1 : decide ((k : Int) < (l.length : Int)) = false := by simp; omega
      have d1n : decide (k < l.length) = false := by simp; omega
      have hn := hid (find_none l x k (by omega) HF.out)
      clear hb
      go_wp2_with fail
      refine bodyPost_ret (v := .tuple #[rgV rg0, .bool false]) (by simp [results, Try.results50, go_sem, r0, r1, r2, r3, r4, f0, f1, f2, f3, f4]; exact ⟨rfl, rfl, rfl, rfl, rfl⟩) rfl ⟨?_, ?_⟩
      · unfold atR; rw [hn.out]; rfl
      · repeat (with_reducible refine bset ?_ (Nat.le_refl _) _)
        exact HB.out
end Go.Proofs.Ytcafmhhfnleanaa
