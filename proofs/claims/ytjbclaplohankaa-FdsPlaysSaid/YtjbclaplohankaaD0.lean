/- Rows of slots: four cells each. No program is named. -/
import Derived.Test.YtjbclaplohankaaB3
import Derived.Test.YtjbclaplohankaaQ
namespace Go.Proofs.Ytjbclaplohankaa
open Go.RowKit Go.Sort

abbrev SL := Bool × Int × Int × Bool
def scell (s : SL) : List Value := [.bool s.1, .int .i64 s.2.1, .int .i64 s.2.2.1, .bool s.2.2.2]
abbrev slotV (s : SL) : Value := .agg #[.bool s.1, .int .i64 s.2.1, .int .i64 s.2.2.1, .bool s.2.2.2]
def slot0 : SL := (false, 0, 0, false)
def flat (ss : List SL) : List Value := ss.flatMap scell
theorem flat_cons (s : SL) (ss : List SL) : flat (s :: ss) = scell s ++ flat ss := rfl
theorem flat_app (a b : List SL) : flat (a ++ b) = flat a ++ flat b := by simp [flat]
theorem flat_len (ss : List SL) : (flat ss).length = 4 * ss.length := by
  induction ss with
  | nil => rfl
  | cons s ss ih => rw [flat_cons, List.length_append, ih]; simp [scell]; omega
theorem flat_split (ss : List SL) (k : Nat) (h : k < ss.length) : flat ss = flat (ss.take k) ++ (scell ss[k] ++ flat (ss.drop (k + 1))) := by
  have e : ss = ss.take k ++ (ss[k] :: ss.drop (k + 1)) := by simp
  calc flat ss = flat (ss.take k ++ (ss[k] :: ss.drop (k + 1))) := by rw [← e]
    _ = _ := by rw [flat_app, flat_cons]
theorem flat_at (ss : List SL) (k j : Nat) (h : k < ss.length) (hj : j < 4) : (flat ss)[4 * k + j]? = (scell ss[k])[j]? := by
  rw [flat_split ss k h]
  have hl : (flat (ss.take k)).length = 4 * k := by rw [flat_len]; simp; omega
  rw [List.getElem?_append_right (by omega), hl, List.getElem?_append_left (by simp [scell]; omega)]
  congr 1
  omega
theorem flat_extract (ss : List SL) (k : Nat) (h : k < ss.length) : (flat ss).toArray.extract (k * 4) (k * 4 + 4) = (scell ss[k]).toArray := by
  apply Array.ext'
  simp only [List.extract_toArray, List.extract_eq_take_drop]
  rw [flat_split ss k h]
  have hl : (flat (ss.take k)).length = k * 4 := by rw [flat_len]; simp; omega
  rw [← hl, List.drop_left]
  simp [scell]
theorem flat_set (ss : List SL) (k : Nat) (s : SL) (h : k < ss.length) : flat (ss.set k s) = flat (ss.take k) ++ (scell s ++ flat (ss.drop (k + 1))) := by
  rw [List.set_eq_take_append_cons_drop, if_pos h, flat_app, flat_cons]

/-- A table of slots lies in block b. -/
structure Tab (w : World) (b : Nat) (T : TypeId) (ss : List SL) : Prop where
  row : Row w b T (flat ss)
  len : ss.length = 16
theorem Tab.below {w w' : World} {b : Nat} {T : TypeId} {ss : List SL} (h : Tab w b T ss) (hb : Below w.heap.size w w') : Tab w' b T ss := ⟨h.row.below hb h.row.lt, h.len⟩
theorem Tab.at {w : World} {b : Nat} {T : TypeId} {ss : List SL} (h : Tab w b T ss) (k : Nat) (hk : k < ss.length) :
    w.cell? ⟨b, k * 4, none⟩ = some (.bool ss[k].1) ∧ w.cell? ⟨b, k * 4 + 1, none⟩ = some (.int .i64 ss[k].2.1) ∧ w.cell? ⟨b, k * 4 + 2, none⟩ = some (.int .i64 ss[k].2.2.1) ∧ w.cell? ⟨b, k * 4 + 3, none⟩ = some (.bool ss[k].2.2.2) := by
  have g : ∀ j, j < 4 → w.cell? ⟨b, k * 4 + j, none⟩ = (scell ss[k])[j]? := fun j hj => by rw [h.row.cell', Nat.mul_comm k 4, flat_at ss k j hk hj]
  exact ⟨g 0 (by omega), g 1 (by omega), g 2 (by omega), g 3 (by omega)⟩
theorem Tab.free {w : World} {b : Nat} {T : TypeId} {ss : List SL} (h : Tab w b T ss) (k : Nat) :
    w.frozen? ⟨b, k * 4, none⟩ = false ∧ w.frozen? ⟨b, k * 4 + 1, none⟩ = false ∧ w.frozen? ⟨b, k * 4 + 2, none⟩ = false ∧ w.frozen? ⟨b, k * 4 + 3, none⟩ = false :=
  ⟨h.row.frozen _, h.row.frozen _, h.row.frozen _, h.row.frozen _⟩
/-- A slot stored anew, cell by cell. -/
theorem set4 (ss : List SL) (k : Nat) (s : SL) (h : k < ss.length) : ((((flat ss).set (k * 4) (.bool s.1)).set (k * 4 + 1) (.int .i64 s.2.1)).set (k * 4 + 2) (.int .i64 s.2.2.1)).set (k * 4 + 3) (.bool s.2.2.2) = flat (ss.set k s) := by
  rw [flat_set ss k s h, flat_split ss k h]
  have hl : (flat (ss.take k)).length = k * 4 := by rw [flat_len]; simp; omega
  rw [List.set_append_right _ _ (by omega), List.set_append_right _ _ (by omega), List.set_append_right _ _ (by omega), List.set_append_right _ _ (by omega)]
  rw [hl]
  simp only [scell, List.cons_append, List.nil_append, Nat.sub_self, Nat.add_sub_cancel_left, List.set_cons_zero, List.set_cons_succ]
theorem set_pos (ss : List SL) (k : Nat) (x : Int) (h : k < ss.length) : (flat ss).set (k * 4 + 2) (.int .i64 x) = flat (ss.set k (ss[k].1, ss[k].2.1, x, ss[k].2.2.2)) := by
  rw [flat_set ss k _ h, flat_split ss k h]
  have hl : (flat (ss.take k)).length = k * 4 := by rw [flat_len]; simp; omega
  rw [List.set_append_right _ _ (by omega), hl]
  simp only [scell, List.cons_append, List.nil_append, Nat.add_sub_cancel_left, List.set_cons_zero, List.set_cons_succ]
theorem Tab.set {w : World} {b : Nat} {T : TypeId} {ss : List SL} (h : Tab w b T ss) (k : Nat) (hk : k < ss.length) (s : SL) :
    Tab ((((w.setCell ⟨b, k * 4, none⟩ (.bool s.1)).setCell ⟨b, k * 4 + 1, none⟩ (.int .i64 s.2.1)).setCell ⟨b, k * 4 + 2, none⟩ (.int .i64 s.2.2.1)).setCell ⟨b, k * 4 + 3, none⟩ (.bool s.2.2.2)) b T (ss.set k s) := by
  refine ⟨?_, by rw [List.length_set]; exact h.len⟩
  have := (((h.row.set (k * 4) (.bool s.1)).set (k * 4 + 1) (.int .i64 s.2.1)).set (k * 4 + 2) (.int .i64 s.2.2.1)).set (k * 4 + 3) (.bool s.2.2.2)
  rw [set4 ss k s hk] at this
  exact this
theorem Tab.setPos {w : World} {b : Nat} {T : TypeId} {ss : List SL} (h : Tab w b T ss) (k : Nat) (hk : k < ss.length) (x : Int) :
    Tab (w.setCell ⟨b, k * 4 + 2, none⟩ (.int .i64 x)) b T (ss.set k (ss[k].1, ss[k].2.1, x, ss[k].2.2.2)) := by
  refine ⟨?_, by rw [List.length_set]; exact h.len⟩
  have := h.row.set (k * 4 + 2) (.int .i64 x)
  rw [set_pos ss k x hk] at this
  exact this
end Go.Proofs.Ytjbclaplohankaa
