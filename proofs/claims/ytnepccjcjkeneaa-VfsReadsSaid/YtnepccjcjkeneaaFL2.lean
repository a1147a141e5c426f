
/- VfsLinks: the walk. -/
import Derived.Test.YtnepccjcjkeneaaKT
import Derived.Test.YtnepccjcjkeneaaKL
import Derived.Test.YtnepccjcjkeneaaP5a
namespace Go.Proofs.Ytnepccjcjkeneaa
open Go.RowKit Go.Sort

theorem EntsIn.below {w w' : World} {a : Option Addr} {n : Nat} {xs : List EN} (hX : EntsIn w a n xs) (hb : Below w.heap.size w w') : EntsIn w' a n xs := ⟨hX.rows.below' hb, fun x hx => ⟨(hX.ok x hx).byt.below' hb, (hX.ok x hx).nil, (hX.ok x hx).path, (hX.ok x hx).to, (hX.ok x hx).data, (hX.ok x hx).mode⟩⟩
/-- What is known of a file system that was made of copies. -/
structure Made (L : List ND) (xs : List EN) : Prop where
  lay : ∃ P, Lay L P
  len : L.length = xs.length + 1
  of : ∀ i (h : i < xs.length), (L.getD (i + 1) default).kind = xs[i].kind ∧ (L.getD (i + 1) default).to = xs[i].to ∧ (L.getD (i + 1) default).data = xs[i].data ∧ (xs[i].kind = 3 → chkE xs[i].to = 0)
theorem made_of {w0 w : World} {v : Value} {xs ys : List EN} (h : Cpe w0 w0.heap.size xs xs.length v ys w) (h2 : (newE [root0] 0 ys).1 = 0) : Made (newE [root0] 0 ys).2.2 xs := by
  obtain ⟨P, h3, h4, h5, h6⟩ := lay_new ys [root0] _ 0 lay0 h2
  refine ⟨⟨P, h3⟩, by rw [h4, h.len]; simp; omega, fun i hi => ?_⟩
  have hi' : i < ys.length := by rw [h.len]; exact hi
  have ho := h6 i hi'
  have ht := h.twin i hi' hi
  rw [show [root0].length + i = i + 1 by simp; omega] at ho
  have hk : ys[i].kind = xs[i].kind := by rw [ht]
  have hto : ys[i].to = xs[i].to := by rw [ht]
  have hda : ys[i].data = xs[i].data := by rw [ht]
  refine ⟨by rw [ho.kind, hk], by rw [ho.to, hto], by rw [ho.data, hda], fun h3 => ?_⟩
  have hr := ho.right
  unfold rightK at hr
  rw [hk, hto, if_neg (by omega), if_neg (by omega), if_pos h3, Bool.and_eq_true] at hr
  simpa using hr.2

end Go.Proofs.Ytnepccjcjkeneaa
