
/- stack's reader: the next number. -/
import Derived.Test.YtihaakcfegelkaaDoorTk0
import Derived.Test.YtihaakcfegelkaaDoorG1
import Derived.BigQuiet
namespace Go.Proofs.YtihaakcfegelkaaDoor
open Go.RowKit

theorem chk8_no {len p : Nat} (h : len < p + 8) : chk (len : Int) (p : Int) 8 = 24 := by
  have e : insB (p : Int) 8 (len : Int) = false := by unfold insB; simp; omega
  unfold chk
  rw [show isSz 8 = true from rfl, e]
  rfl
theorem chk8_yes {len p : Nat} (h : p + 8 ≤ len) : chk (len : Int) (p : Int) 8 = 0 := by
  have e : insB (p : Int) 8 (len : Int) = true := by unfold insB; simp; omega
  unfold chk
  rw [show isSz 8 = true from rfl, e]
  rfl
theorem getV8 {l : List UInt8} {p : Nat} (h : p + 8 ≤ l.length) : wgetV l p 8 = (n8 l p : Int) := by
  unfold wgetV n8
  rw [chk8_yes h, if_pos rfl, Int.toNat_natCast]
  rfl
abbrev rdC (a : Option Addr) (len cap sp p : Nat) : List Value := [.slice a len cap, .int .u64 sp, .int .u64 p]
theorem Row.rd {w : World} {r : Nat} {a : Option Addr} {len cap sp p : Nat} (h : Row w r 65 (rdC a len cap sp p)) : w.cell? ⟨r, 0, none⟩ = some (.slice a len cap) ∧ w.cell? ⟨r, 1, none⟩ = some (.int .u64 sp) ∧ w.cell? ⟨r, 2, none⟩ = some (.int .u64 p) :=
  ⟨h.cell 0 (by simp), h.cell 1 (by simp), h.cell 2 (by simp)⟩
theorem Row.rdSet {w : World} {r : Nat} {a : Option Addr} {len cap sp p : Nat} (h : Row w r 65 (rdC a len cap sp p)) (q : Nat) : Row (w.setCell ⟨r, 2, none⟩ (.int .u64 q)) r 65 (rdC a len cap sp q) := h.set 2 _

set_option maxHeartbeats 1000000 in
theorem next_no (r : Nat) (a : Option Addr) (len cap sp p : Nat) (l : List UInt8) (w : World) (hs : Sizes w) (hl : len ≤ 9223372036854775807) (hB : Byt w a len l) (hR : Row w r 65 (rdC a len cap sp p)) (hp : len < p + 8) :
    Calls Tryd.prog 42 #[.pointer (some ⟨r, 0, none⟩)] w fun e w' => e = .returned (.tuple #[.int .u64 0, .int .i64 25]) ∧ ∃ d, w' = w.drewN d := by
  have HG := hid (fun d => get_any a len cap (p : Int) 8 l (w.drewN d) (hs.below (bdN (Below.refl _ w) d)) hl (hB.below' (bdN (Below.refl _ w) d)) (by omega))
  have e : wgetV l p 8 = 0 := by
    unfold wgetV
    have := hB.hlen
    rw [chk8_no (by omega)]; rfl
  simp only [e, chk8_no hp] at HG
  obtain ⟨r0, r1, r2⟩ := hR.rd
  have hlr := hR.lt
  clear e hB hs hR
  go_enter Tryd.func42, Tryd.ntmps42
  go_wp2_with fail
  go_quiet ((go_at_call 49; exact Calls.quiet_of_same ((HG.out _).mono (fun _ _ h => ⟨h.1, h.2.symm⟩))))
  go_wp2_with fail
  go_ret2
  exact ⟨rfl, _, rfl⟩

set_option maxHeartbeats 1000000 in
theorem next_yes (r : Nat) (a : Option Addr) (len cap sp p : Nat) (l : List UInt8) (w : World) (hs : Sizes w) (hl : len ≤ 9223372036854775807) (hB : Byt w a len l) (hR : Row w r 65 (rdC a len cap sp p)) (hp : p + 8 ≤ len) :
    Calls Tryd.prog 42 #[.pointer (some ⟨r, 0, none⟩)] w fun e w' => e = .returned (.tuple #[.int .u64 (n8 l p : Int), .int .i64 0]) ∧ ∃ d, w' = (w.drewN d).setCell ⟨r, 2, none⟩ (.int .u64 ((p + 8 : Nat) : Int)) := by
  have HG := hid (fun d => get_any a len cap (p : Int) 8 l (w.drewN d) (hs.below (bdN (Below.refl _ w) d)) hl (hB.below' (bdN (Below.refl _ w) d)) (by omega))
  simp only [getV8 (show p + 8 ≤ l.length by have := hB.hlen; omega), chk8_yes hp] at HG
  obtain ⟨r0, r1, r2⟩ := hR.rd
  have hf := hR.frozen 2
  have hlr := hR.lt
  have ew : IntKind.u64.wrap ((p : Int) + 8) = (p : Int) + 8 := IntWalk.u64_in _ (by omega)
  clear hB hs hR
  generalize (n8 l p : Int) = x at *
  go_enter Tryd.func42, Tryd.ntmps42
  go_wp2_with fail
  go_quiet ((go_at_call 49; exact Calls.quiet_of_same ((HG.out _).mono (fun _ _ h => ⟨h.1, h.2.symm⟩))))
  go_wp2_with fail
  go_ret2
  exact ⟨rfl, _, rfl⟩
end Go.Proofs.YtihaakcfegelkaaDoor
