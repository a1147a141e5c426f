
/- cache.Get. -/
import Derived.Test.YtncikcllhjhjmaaDoorBc7
namespace Go.Proofs.YtncikcllhjhjmaaDoor
open Go.RowKit Go.Sort Go.WideMaps Go.Maps Go.WideShapes Go.WideElems Go.MapKept Go.ChangeMaps
attribute [local go_sem] Oper.semAt_some

def rdP16 (L : List ND) (i pg : Int) : List UInt8 × Int := readL L i (pg * 4096) 4096
theorem rdP16_len (L : List ND) (i pg : Int) : (rdP16 L i pg).1.length ≤ 4096 := by
  unfold rdP16 readL
  split
  · simp
  · split
    · simp
    · split
      · simp
      · generalize L.getD i.toNat default = x
        unfold rdB
        simp
        omega
theorem rdP16_ne (L : List ND) (i pg : Int) : (rdP16 L i pg).2 ≠ 4 := by
  unfold rdP16 readL
  split
  · simp
  · split
    · simp
    · split <;> simp
theorem b8_b2i (b : List UInt8) : b.map B8 = (b2i b).map (Value.int .u8) := by
  unfold b2i
  rw [List.map_map]
  rfl
theorem CW.setK {w0 w : World} {F : Nat} {t : FT} {p g h c m : Nat} {s : CC} {ws : List Nat} (H : CW w0 F t p g h c m s ws w) {kb : Nat} {cs : List Value} (hr : Row w kb 96 cs) (hk : w0.heap.size ≤ kb) (o : Nat) (u : Value) : CW w0 F t p g h c m s ws (w.setCell ⟨kb, o, none⟩ u) :=
  ⟨H.cache.other (row_tys H.cache hr (by decide)) _, ⟨H.pool.pool.other (row_tys H.pool.pool hr (by decide)) _, H.pool.frames.other (row_tys H.pool.frames hr (by decide)) _, H.pool.words.other (row_tys H.pool.words hr (by decide)) _, H.pool.ok, H.pool.n1, H.pool.n2, H.pool.wl, H.pool.wb, H.pool.c0⟩,
    H.map.same (heap_setCell_other _ _ m _ (H.map.row hr)), H.files, bset H.low hk _, H.lg, H.lh, H.lc, H.lm, H.few, H.tb⟩
end Go.Proofs.YtncikcllhjhjmaaDoor
