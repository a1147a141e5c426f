
/- Slices of bytes cut at two variable places. -/
import Derived.Test.YtkkadknijjninaaDoorSL
namespace Go.Proofs.YtkkadknijjninaaDoor
open Go.RowKit Go.Sort

theorem slFT (k1 k2 : IntKind) (b off len cap f t : Nat) (x y : Int) (hx : x = (f : Int)) (hy : y = (t : Int)) (hft : f ≤ t) (ht : t ≤ cap) (hlt : f < cap) (w : World) :
    (Instr.slice 22 (.slice (some ⟨b, off, none⟩) len cap) (some (.int k1 x)) (some (.int k2 y)) none).run Tryd.prog w = .ok (.slice (some ⟨b, off + f, none⟩) (t - f) (cap - f)) w := by
  subst hx; subst hy
  have hz : ∀ w, (sizeOf (Tryd.prog.elem 22)).run Tryd.prog w = .ok 1 w := fun w => by kernel_rfl
  rw [run_slice_lh w 22 _ _ _ (by kernel_rfl) k1 k2 f t (by omega) (by omega) (by omega), hz]
  simp only [Result.andThen, sliced, Int.toNat_natCast]
  rw [if_neg (by omega)]
  simp only [Option.map_some, Addr.add, Nat.mul_one]
  split
  · rename_i h; rw [h]; rfl
  · rfl
theorem Byt.mid {w : World} {b off len f n : Nat} {l : List UInt8} (h : Byt w (some ⟨b, off, none⟩) len l) (hf : f + n ≤ len) : Byt w (some ⟨b, off + f, none⟩) n ((l.drop f).take n) :=
  (h.from (f := f) (by omega)).upto (by omega)
end Go.Proofs.YtkkadknijjninaaDoor
