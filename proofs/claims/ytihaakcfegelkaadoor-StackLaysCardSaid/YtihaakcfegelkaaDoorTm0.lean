
/- hostellaw20: works, within. -/
import Derived.Test.YtihaakcfegelkaaDoorTl4
import Derived.Test.YtihaakcfegelkaaDoorTk6
namespace Go.Proofs.YtihaakcfegelkaaDoor
open Go.RowKit Go.Sort
attribute [local go_sem] Oper.semAt_some

theorem slFT (k1 k2 : IntKind) (b off len cap f t : Nat) (x y : Int) (hx : x = (f : Int)) (hy : y = (t : Int)) (hft : f ≤ t) (ht : t ≤ cap) (hlt : f < cap) (w : World) :
    (Instr.slice 29 (.slice (some ⟨b, off, none⟩) len cap) (some (.int k1 x)) (some (.int k2 y)) none).run Tryd.prog w = .ok (.slice (some ⟨b, off + f, none⟩) (t - f) (cap - f)) w := by
  subst hx; subst hy
  have hz : ∀ w, (sizeOf (Tryd.prog.elem 29)).run Tryd.prog w = .ok 1 w := fun w => by kernel_rfl
  rw [run_slice_lh w 29 _ _ _ (by kernel_rfl) k1 k2 f t (by omega) (by omega) (by omega), hz]
  simp only [Result.andThen, sliced, Int.toNat_natCast]
  rw [if_neg (by omega)]
  simp only [Option.map_some, Addr.add, Nat.mul_one]
  split
  · rename_i h; rw [h]; rfl
  · rfl
theorem Byt.mid {w : World} {b off len f n : Nat} {l : List UInt8} (h : Byt w (some ⟨b, off, none⟩) len l) (hf : f + n ≤ len) : Byt w (some ⟨b, off + f, none⟩) n ((l.drop f).take n) :=
  (h.from (f := f) (by omega)).upto (by omega)

set_option maxRecDepth 100000 in
set_option maxHeartbeats 4000000 in
theorem within_any (a : Option Addr) (len cap : Nat) (l s : BL) (w : World) (hB : Byt w a len l) (hl : len ≤ 65536) (hcap : len ≤ cap) (hin : InB l s) :
    Calls Tryd.prog 17 #[.slice a len cap, .string (ba s)] w fun e w' => e = .returned (.bool true) ∧ Below w.heap.size w w' := by
  obtain ⟨i0, h1, h2, h3⟩ := hin
  have hlen := hB.hlen
  obtain ⟨b, off, rfl, hc⟩ := hB.some_of (by omega)
  have HB := hid hB
  have HC := hid hc
  have HCAP := hid hcap
  have H2 := hid h2
  have H3 := hid h3
  have hz : ((ba s).size : Int) = (s.length : Int) := by rw [ba_size]
  have hi0 : i0 + s.length < len := by omega
  clear hB hc hcap h2 h3
  go_enter Tryd.func17, Tryd.ntmps17
  go_wp2_with fail
  go_loopw [6] (fun i wr => ∃ k : Nat, k ≤ i0 ∧ i = .int .i64 k ∧ Below w.heap.size w wr) (fun i _ => i0 + 1 - (intOf i).toNat)
  case atStart => exact ⟨0, Nat.zero_le _, rfl, Below.refl _ _⟩
  case round =>
    obtain ⟨k, hk, rfl, hbw⟩ := hrel
    have HBW := hid hbw
    clear hbw
    have d1 : decide ((k : Int) + (s.length : Int) < (len : Int)) = true := by simp; omega
    have d1n : decide (k + s.length < len) = true := by simp; omega
    have hkl : k + s.length < l.length := by omega
    have hx : wr.cell? ⟨b, off + (k + s.length), none⟩ = some (.int .u8 (l[k + s.length].toNat : Int)) := keepC HBW.out (HC.out (k + s.length) hkl)
    have hs1 := slFT .i64 .i64 b off len cap k (k + s.length) (k : Int) ((k : Int) + (s.length : Int)) rfl (by omega) (by omega) (by have := HCAP.out; omega) (by have := HCAP.out; omega) wr
    rw [show k + s.length - k = s.length by omega] at hs1
    have hcv := ((HB.out.below' HBW.out).mid (f := k) (n := s.length) (by omega)).str (P := Tryd.prog) 29 9 5 (cap - k) Tryd.underlying29 Tryd.underlying5 Tryd.underlying9
    have hcv2 : (convert 29 9 (.slice (some ⟨b, off + k, none⟩) s.length (cap - k))).run Tryd.prog wr = .ok (.string (ba ((l.drop k).take s.length))) wr := hcv
    have hq := ba_beq2 ((l.drop k).take s.length) s
    clear hcv
    by_cases hz0 : l[k + s.length] = 0
    · have q0 : ((l[k + s.length].toNat : Int) == 0) = true := by rw [hz0]; rfl
      by_cases he : (l.drop k).take s.length = s
      · rw [decide_eq_true he] at hq
        clear he hz0
        go_wp2_with fail
        go_ret
        exact ⟨rfl, HBW.out⟩
      · have hne : k ≠ i0 := by
          rintro rfl
          apply he
          have := H3.out
          exact this
        rw [decide_eq_false he] at hq
        clear he hz0
        go_wp2_with fail
        go_roundw
        case rel => exact ⟨k + 1, by omega, by go_num, HBW.out⟩
        case measure => simp [intOf]; omega
    · have hne : k ≠ i0 := by
        rintro rfl
        apply hz0
        have := H2.out
        exact this
      have q0 : ((l[k + s.length].toNat : Int) == 0) = false := by
        rw [beq_eq_false_iff_ne]
        intro e
        exact hz0 (UInt8.toNat_inj.1 (by simpa using e))
      clear hz0
      go_wp2_with fail
      go_roundw
      case rel => exact ⟨k + 1, by omega, by go_num, HBW.out⟩
      case measure => simp [intOf]; omega
end Go.Proofs.YtihaakcfegelkaaDoor
