
/- For the reference's Store: one byte of a frame's own memory turned. -/
import Derived.Test.YtllkeeeajlgkpaaDoorJS
namespace Go.Proofs.YtllkeeeajlgkpaaDoor
open Go.RowKit Go.Sort

theorem RS.setByte {w : World} {base p a b : Nat} {cs : List Int} {vs : List Value} {Ls : List (List Int)} (H : RS w base p a b cs vs Ls) (k i : Nat) (hk : k < vs.length) (hkl : k < Ls.length) {q n c : Nat} (hv : vs[k] = .slice (some ⟨q, 0, none⟩) n c) (x : Int) :
    RS (w.setCell ⟨q, i, none⟩ (.int .u8 x)) base p a b cs vs (Ls.set k (Ls[k].set i x)) := by
  have hown := H.own k hk hkl
  have hob : (vs[k]).ownBlock = some q := by rw [hv]; rfl
  have hne : ∀ {g : Nat} {T : TypeId} {ds : List Value}, Row w g T ds → T ≠ 5 → g ≠ q := fun hr hT e => own_not hown hr hT (by rw [hob, e])
  have h1 := hne H.rp.pool (by decide)
  have h2 := hne H.rp.cnts (by decide)
  have h3 := hne H.rp.bys (by decide)
  refine ⟨⟨H.rp.pool.other (a := ⟨q, i, none⟩) h1 _, H.rp.cnts.other (a := ⟨q, i, none⟩) h2 _, H.rp.bys.other (a := ⟨q, i, none⟩) h3 _, H.rp.vl, H.rp.n2⟩, by rw [List.length_set]; exact H.ll, fun j hj hj2 => ?_, H.ap, H.c0, fun L hL => ?_, H.pB, H.aB, H.bB⟩
  · rw [List.length_set] at hj2
    simp only [List.getElem_set]
    by_cases e : k = j
    · subst e
      rw [if_pos rfl]
      have hlen : (Ls[k].set i x).length = Ls[k].length := List.length_set
      rw [hlen, List.map_set, hv]
      rw [hv] at hown
      have hn : n = Ls[k].length := by
        obtain ⟨a', c', e, _⟩ := own_nums hown
        cases e
        rfl
      subst hn
      exact (hown.stored i (.int .u8 x)).1
    · rw [if_neg e]
      exact own_setOther (H.own j hj hj2) (fun e2 => H.ap k j hk hj e q hob e2.symm) _
  · rcases List.mem_or_eq_of_mem_set hL with hL | rfl
    · exact H.lim L hL
    · rw [List.length_set]; exact H.lim _ (List.getElem_mem hkl)
/-- The first j of l laid at o. -/
theorem splice_step {L l : List Int} {o j : Nat} (hj : j < l.length) (h : o + l.length ≤ L.length) : (splice L o (l.take j)).set (o + j) l[j] = splice L o (l.take (j + 1)) := by
  apply List.ext_getElem?
  intro i
  have hl1 : (l.take j).length = j := by rw [List.length_take]; omega
  have hl2 : (l.take (j + 1)).length = j + 1 := by rw [List.length_take]; omega
  have hs : (splice L o (l.take j)).length = L.length := length_splice L o _ (by rw [hl1]; omega)
  rw [List.getElem?_set, splice_get L _ o i (by rw [hl1]; omega), splice_get L _ o i (by rw [hl2]; omega), hl1, hl2, hs]
  by_cases c : o + j = i
  · subst c
    rw [if_pos rfl, if_pos (by omega), if_neg (by omega), if_pos (by omega), show o + j - o = j by omega, List.getElem?_take, if_pos (by omega), List.getElem?_eq_getElem hj]
  · rw [if_neg c]
    by_cases c1 : i < o
    · rw [if_pos c1, if_pos c1]
    · rw [if_neg c1, if_neg c1]
      by_cases c2 : i < o + j
      · rw [if_pos c2, if_pos (by omega), List.getElem?_take, List.getElem?_take, if_pos (by omega), if_pos (by omega)]
      · rw [if_neg c2, if_neg (by omega)]
theorem Grow.done {w wr : World} {base p a b : Nat} {cs : List Int} {Ls : List (List Int)} {k N nv : Nat} {X : Option Nat} {L L' : List Int} {vs vs0 : List Value} (h : Grow w wr base p a b cs Ls k N nv X L L' vs vs0) (hl : N ≤ L'.length) : L' = upto L N := by
  obtain ⟨t, ht, rfl⟩ := h.is
  by_cases c : t ≤ L.length
  · rw [upto_le c] at hl ⊢
    rw [upto_le hl]
  · rw [upto_len L t (by omega)] at hl
    have : t = N := by omega
    rw [this]
/-- While the bytes are being laid. -/
structure Laid (w wr : World) (base p a b : Nat) (cs : List Int) (Ls : List (List Int)) (k : Nat) (X : Option Nat) (L2 : List Int) (vs : List Value) : Prop where
  rs : RS wr base p a b cs vs (Ls.set k L2)
  e3 : E3 w wr a b X
theorem Laid.byte {w wr : World} {base p a b : Nat} {cs : List Int} {Ls : List (List Int)} {k : Nat} {X : Option Nat} {L2 : List Int} {vs : List Value} (h : Laid w wr base p a b cs Ls k X L2 vs) (hk : k < vs.length) (hkl : k < Ls.length) {q n c : Nat} (hv : vs[k] = .slice (some ⟨q, 0, none⟩) n c) (hq : X = some q ∨ w.heap.size ≤ q) (i : Nat) (x : Int) :
    Laid w (wr.setCell ⟨q, i, none⟩ (.int .u8 x)).drew base p a b cs Ls k X (L2.set i x) vs := by
  have hkl' : k < (Ls.set k L2).length := by rw [List.length_set]; exact hkl
  have h1 := h.rs.setByte k i hk hkl' hv x
  rw [List.getElem_set_self, List.set_set] at h1
  have hb : Below (wr.setCell ⟨q, i, none⟩ (.int .u8 x)).heap.size (wr.setCell ⟨q, i, none⟩ (.int .u8 x)) (wr.setCell ⟨q, i, none⟩ (.int .u8 x)).drew := bdN (Below.refl _ _) 1
  refine ⟨h1.below hb, ?_⟩
  have hx : Ex wr (wr.setCell ⟨q, i, none⟩ (.int .u8 x)) q q := Ex.set wr q i _ (.inl rfl)
  refine ⟨hx.os.trans h.e3.os, hx.tape.trans h.e3.tape, hx.output.trans h.e3.output, Nat.le_trans h.e3.size hx.size, fun j hj n1 n2 n3 => ?_⟩
  have hjq : j ≠ q := by
    rintro rfl
    rcases hq with e | e
    · exact n3 e.symm
    · omega
  show (wr.setCell ⟨q, i, none⟩ (.int .u8 x)).heap[j]? = _
  rw [heap_setCell_other wr ⟨q, i, none⟩ j _ hjq]
  exact h.e3.block j hj n1 n2 n3
end Go.Proofs.YtllkeeeajlgkpaaDoor
