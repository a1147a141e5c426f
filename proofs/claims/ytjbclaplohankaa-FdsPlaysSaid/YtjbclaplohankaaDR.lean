/- The slots of hostelref05: a pointer to a slice of sixteen slots, its array perhaps longer. -/
import Derived.Test.YtjbclaplohankaaD7
namespace Go.Proofs.Ytjbclaplohankaa
open Go.RowKit Go.Sort

/-- Sixteen slots lie in block q, at its start. -/
structure RT (w : World) (q : Nat) (ss : List SL) : Prop where
  row : ∃ rest, Row w q 44 (flat ss ++ rest)
  len : ss.length = 16
theorem RT.of {w : World} {q : Nat} {ss : List SL} (h : Tab w q 44 ss) : RT w q ss := ⟨⟨[], by rw [List.append_nil]; exact h.row⟩, h.len⟩
theorem RT.lt {w : World} {q : Nat} {ss : List SL} (h : RT w q ss) : q < w.heap.size := by
  obtain ⟨rest, hr⟩ := h.row
  exact hr.lt
theorem RT.below {w w' : World} {q : Nat} {ss : List SL} (h : RT w q ss) (hb : Below w.heap.size w w') : RT w' q ss := by
  obtain ⟨rest, hr⟩ := h.row
  exact ⟨⟨rest, hr.below hb hr.lt⟩, h.len⟩
theorem RT.grown {w w' : World} {q : Nat} {ss : List SL} {b : Nat} (h : RT w q ss) (hg : w.grownBy w' (some b)) (hne : q ≠ b) : RT w' q ss := by
  obtain ⟨rest, hr⟩ := h.row
  exact ⟨⟨rest, hr.grown hg (by simpa using hne)⟩, h.len⟩
theorem RT.at {w : World} {q : Nat} {ss : List SL} (h : RT w q ss) (k : Nat) (hk : k < ss.length) :
    w.cell? ⟨q, k * 4, none⟩ = some (.bool ss[k].1) ∧ w.cell? ⟨q, k * 4 + 1, none⟩ = some (.int .i64 ss[k].2.1) ∧ w.cell? ⟨q, k * 4 + 2, none⟩ = some (.int .i64 ss[k].2.2.1) ∧ w.cell? ⟨q, k * 4 + 3, none⟩ = some (.bool ss[k].2.2.2) := by
  obtain ⟨rest, hr⟩ := h.row
  have g : ∀ j, j < 4 → w.cell? ⟨q, k * 4 + j, none⟩ = (scell ss[k])[j]? := fun j hj => by
    rw [hr.cell', List.getElem?_append_left (by rw [flat_len]; omega), Nat.mul_comm k 4, flat_at ss k j hk hj]
  exact ⟨g 0 (by omega), g 1 (by omega), g 2 (by omega), g 3 (by omega)⟩
theorem RT.free {w : World} {q : Nat} {ss : List SL} (h : RT w q ss) (k : Nat) :
    w.frozen? ⟨q, k * 4, none⟩ = false ∧ w.frozen? ⟨q, k * 4 + 1, none⟩ = false ∧ w.frozen? ⟨q, k * 4 + 2, none⟩ = false ∧ w.frozen? ⟨q, k * 4 + 3, none⟩ = false := by
  obtain ⟨rest, hr⟩ := h.row
  exact ⟨hr.frozen _, hr.frozen _, hr.frozen _, hr.frozen _⟩
theorem RT.set {w : World} {q : Nat} {ss : List SL} (h : RT w q ss) (k : Nat) (hk : k < ss.length) (s : SL) :
    RT ((((w.setCell ⟨q, k * 4, none⟩ (.bool s.1)).setCell ⟨q, k * 4 + 1, none⟩ (.int .i64 s.2.1)).setCell ⟨q, k * 4 + 2, none⟩ (.int .i64 s.2.2.1)).setCell ⟨q, k * 4 + 3, none⟩ (.bool s.2.2.2)) q (ss.set k s) := by
  obtain ⟨rest, hr⟩ := h.row
  refine ⟨⟨rest, ?_⟩, by rw [List.length_set]; exact h.len⟩
  have := (((hr.set (k * 4) (.bool s.1)).set (k * 4 + 1) (.int .i64 s.2.1)).set (k * 4 + 2) (.int .i64 s.2.2.1)).set (k * 4 + 3) (.bool s.2.2.2)
  have hl := flat_len ss
  rw [List.set_append_left _ _ (by omega), List.set_append_left _ _ (by rw [List.length_set]; omega), List.set_append_left _ _ (by rw [List.length_set, List.length_set]; omega), List.set_append_left _ _ (by rw [List.length_set, List.length_set, List.length_set]; omega), set4 ss k s hk] at this
  exact this
theorem RT.setPos {w : World} {q : Nat} {ss : List SL} (h : RT w q ss) (k : Nat) (hk : k < ss.length) (x : Int) :
    RT (w.setCell ⟨q, k * 4 + 2, none⟩ (.int .i64 x)) q (ss.set k (ss[k].1, ss[k].2.1, x, ss[k].2.2.2)) := by
  obtain ⟨rest, hr⟩ := h.row
  refine ⟨⟨rest, ?_⟩, by rw [List.length_set]; exact h.len⟩
  have := hr.set (k * 4 + 2) (.int .i64 x)
  have hl := flat_len ss
  rw [List.set_append_left _ _ (by omega), set_pos ss k x hk] at this
  exact this
theorem RT.own {w : World} {base : Nat} {v : Value} {ss : List SL} (h : w.ownsRow base 44 4 v 16 (flat ss)) (hl : ss.length = 16) : ∃ q c, v = .slice (some ⟨q, 0, none⟩) 16 c ∧ base ≤ q ∧ RT w q ss := by
  rcases h.2 with ⟨_, h0⟩ | ⟨g, cap, cur, rfl, hb, hg, hnc, hm, hs, ht⟩
  · omega
  · refine ⟨g, cap, rfl, hb, ⟨⟨cur.toList.drop 64, ?_⟩, hl⟩⟩
    have e : flat ss ++ cur.toList.drop 64 = cur.toList := by rw [← ht]; exact List.take_append_drop 64 _
    rw [e]
    exact ⟨by simpa using hg⟩

/-- A table of the document's: a cell at p, its slots at q. -/
structure RTab (w : World) (p q c : Nat) (ss : List SL) : Prop where
  ptr : Row w p 52 [.slice (some ⟨q, 0, none⟩) 16 c]
  tab : RT w q ss
  ne : p ≠ q
theorem RTab.cell {w : World} {p q c : Nat} {ss : List SL} (h : RTab w p q c ss) : w.cell? ⟨p, 0, none⟩ = some (.slice (some ⟨q, 0, none⟩) 16 c) := by
  rw [h.ptr.cell']
  rfl
theorem RTab.below {w w' : World} {p q c : Nat} {ss : List SL} (h : RTab w p q c ss) (hb : Below w.heap.size w w') : RTab w' p q c ss := ⟨h.ptr.below hb h.ptr.lt, h.tab.below hb, h.ne⟩
theorem RTab.grown {w w' : World} {p q c : Nat} {ss : List SL} {b : Nat} (h : RTab w p q c ss) (hg : w.grownBy w' (some b)) (h1 : p ≠ b) (h2 : q ≠ b) : RTab w' p q c ss := ⟨h.ptr.grown hg (by simpa using h1), h.tab.grown hg h2, h.ne⟩
end Go.Proofs.Ytjbclaplohankaa
