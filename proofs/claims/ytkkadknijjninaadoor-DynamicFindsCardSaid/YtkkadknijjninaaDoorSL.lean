
/- Slices of bytes cut at variable places; the first byte of a kind. -/
import Derived.Test.YtkkadknijjninaaDoorX1
import Derived.Test.YtkkadknijjninaaDoorRows
import Derived.Lib.IndexLaws
import Derived.Lib.SlBytesRow
namespace Go.Proofs.YtkkadknijjninaaDoor
open Go.RowKit Go.Sort

theorem slFrom (k : IntKind) (b off len cap f : Nat) (x : Int) (hx : x = (f : Int)) (hf : f ≤ len) (hc : len ≤ cap) (hlt : f < cap) (w : World) :
    (Instr.slice 22 (.slice (some ⟨b, off, none⟩) len cap) (some (.int k x)) none none).run Tryd.prog w = .ok (.slice (some ⟨b, off + f, none⟩) (len - f) (cap - f)) w := by
  subst hx
  have hz : ∀ w, (sizeOf (Tryd.prog.elem 22)).run Tryd.prog w = .ok 1 w := fun w => by kernel_rfl
  rw [run_slice_l w 22 _ _ _ (by kernel_rfl) k f (by omega) (by omega), hz]
  simp only [Result.andThen, sliced, Int.toNat_natCast]
  rw [if_neg (by omega)]
  simp only [Option.map_some, Addr.add, Nat.mul_one]
  split
  · rename_i h; rw [h]; rfl
  · rfl
theorem slTo (k : IntKind) (a : Option Addr) (len cap m : Nat) (x : Int) (hx : x = (m : Int)) (hm : m ≤ cap) (w : World) :
    (Instr.slice 22 (.slice a len cap) none (some (.int k x)) none).run Tryd.prog w = .ok (.slice a m cap) w := by
  subst hx
  have hz : ∀ w, (sizeOf (Tryd.prog.elem 22)).run Tryd.prog w = .ok 1 w := fun w => by kernel_rfl
  rw [run_slice_h w 22 _ _ _ (by kernel_rfl) k m (by omega) (by omega), hz]
  have e : a.map (·.add 0) = a := by cases a <;> simp [Addr.add]
  simp only [Result.andThen, sliced, Int.toNat_natCast, Nat.zero_mul, e, Nat.sub_zero]
  split <;> rfl
theorem Byt.from {w : World} {b off len f : Nat} {l : List UInt8} (h : Byt w (some ⟨b, off, none⟩) len l) (hf : f ≤ len) : Byt w (some ⟨b, off + f, none⟩) (len - f) (l.drop f) := by
  obtain rfl := h.hlen
  refine ⟨by simp, fun i hi => ?_⟩
  have hi' : f + i < l.length := by simp at hi; omega
  obtain ⟨b', o', e, hc⟩ := h.cell (f + i) hi'
  cases e
  refine ⟨b, off + f, rfl, ?_⟩
  rw [show off + f + i = off + (f + i) by omega, hc]
  simp
theorem Byt.upto {w : World} {a : Option Addr} {len n : Nat} {l : List UInt8} (h : Byt w a len l) (hn : n ≤ len) : Byt w a n (l.take n) := by
  obtain rfl := h.hlen
  refine ⟨by simp; omega, fun i hi => ?_⟩
  have hi' : i < l.length := by simp at hi; omega
  obtain ⟨b', o', e, hc⟩ := h.cell i hi'
  exact ⟨b', o', e, by rw [hc]; simp⟩
theorem Byt.lib {w : World} {b off len : Nat} {l : List UInt8} (h : Byt w (some ⟨b, off, none⟩) len l) : Lib.Bytes w b off ⟨l.toArray⟩ := by
  intro i hi
  have hi' : i < l.length := by have : (ByteArray.mk l.toArray).size = l.length := by show l.toArray.size = _; simp
                                omega
  obtain ⟨b', o', e, hc⟩ := h.cell i hi'
  cases e
  rw [hc]
  rfl
/-- The first nought. -/
theorem idx0 (l : List UInt8) : (Lib.indexByte l 0 = -1 ∧ l.findIdx? (· == 0) = none) ∨ ∃ i : Nat, Lib.indexByte l 0 = (i : Int) ∧ l.findIdx? (· == 0) = some i ∧ i < l.length := by
  have hg := Lib.indexByte_ge l 0
  by_cases h : Lib.indexByte l 0 = -1
  · refine .inl ⟨h, ?_⟩
    rw [List.findIdx?_eq_none_iff]
    intro x hx
    obtain ⟨i, hi, e⟩ := List.getElem_of_mem hx
    have := Lib.indexByte_none h i
    rw [List.getElem?_eq_getElem hi, e] at this
    simpa using fun e2 => this (by rw [e2])
  · obtain ⟨o, ho⟩ := Int.eq_ofNat_of_zero_le (show 0 ≤ Lib.indexByte l 0 by omega)
    obtain ⟨p, q⟩ := Lib.indexByte_some ho
    obtain ⟨hlt, e⟩ := List.getElem?_eq_some_iff.1 p
    refine .inr ⟨o, ho, ?_, hlt⟩
    rw [List.findIdx?_eq_some_iff_getElem]
    refine ⟨hlt, by simp [e], fun j hj => ?_⟩
    have := q j hj
    rw [List.getElem?_eq_getElem (by omega)] at this
    simpa using fun e2 => this (by rw [e2])
end Go.Proofs.YtkkadknijjninaaDoor
