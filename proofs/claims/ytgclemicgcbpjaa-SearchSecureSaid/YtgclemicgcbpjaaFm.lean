/- Maps of texts to nodes: interface values that hold pointers. -/
import Derived.Test.YtgclemicgcbpjaaB3
import Derived.Test.YtgclemicgcbpjaaRows
import Derived.Test.YtgclemicgcbpjaaPM
import Derived.Maps.OwnSet
import Derived.Maps.Views
namespace Go.Proofs.Ytgclemicgcbpjaa
open Go.RowKit Go.Sort Go.WideMaps Go.Maps Go.WideShapes

def rdN {H : Type} (v : Value) : Option (DataW H × List MemPlace) := match v with
  | .iface T (.pointer (some ⟨b, 0, none⟩)) => some (.agg [.lit (.int .i64 (T : Nat)), .lit (.int .i64 (b : Nat))], [])
  | .nilIface => some (.lit (.bool false), [])
  | _ => none
/-- A node as a value: the type of the pointer, the block. -/
def ndV (p : Nat × Nat) : Value := .iface p.1 (.pointer (some ⟨p.2, 0, none⟩))
def ndD {H : Type} (p : Nat × Nat) : DataW H := .agg [.lit (.int .i64 (p.1 : Nat)), .lit (.int .i64 (p.2 : Nat))]
theorem rdN_nd {H : Type} (p : Nat × Nat) : rdN (H := H) (ndV p) = some (ndD p, []) := rfl
theorem rdN_nil {H : Type} : rdN (H := H) .nilIface = some (.lit (.bool false), []) := rfl
theorem rdN_inv {H : Type} {v : Value} {p : Nat × Nat} {ps : List MemPlace} (h : rdN (H := H) v = some (ndD p, ps)) : v = ndV p := by
  unfold rdN at h
  split at h
  · rename_i T b
    simp only [ndD, Option.some.injEq, Prod.mk.injEq, DataW.agg.injEq, List.cons.injEq, DataW.lit.injEq, Lit.int.injEq, true_and, and_true] at h
    obtain ⟨⟨h1, h2⟩, _⟩ := h
    have e1 : T = p.1 := by exact_mod_cast h1
    have e2 : b = p.2 := by exact_mod_cast h2
    subst e1 e2
    rfl
  · simp [ndD] at h
  · cases h
theorem rdN_nil_inv {H : Type} {v : Value} {ps : List MemPlace} (h : rdN (H := H) v = some (.lit (.bool false), ps)) : v = .nilIface := by
  unfold rdN at h
  split at h
  · simp at h
  · rfl
  · cases h

abbrev NL := List (BL × (Nat × Nat))
def putN {H : Type} (D : DataW H) (x : BL × (Nat × Nat)) : DataW H := D.put (.string x.1) (ndD x.2)
def mapD {H : Type} (l : NL) : DataW H := l.foldl putN (.map [])
def lookN (l : NL) (n : BL) : Option (Nat × Nat) := (l.reverse.find? fun x => decide (x.1 = n)).map (·.2)
theorem lookN_nil (n : BL) : lookN [] n = none := rfl
theorem lookN_snoc (l : NL) (x : BL × (Nat × Nat)) (n : BL) : lookN (l ++ [x]) n = if x.1 = n then some x.2 else lookN l n := by
  unfold lookN
  rw [List.reverse_append, List.reverse_singleton, List.singleton_append, List.find?_cons]
  by_cases h : x.1 = n
  · simp [h]
  · simp [h]
theorem mapD_snoc {H : Type} (l : NL) (x : BL × (Nat × Nat)) : mapD (H := H) (l ++ [x]) = (mapD l).put (.string x.1) (ndD x.2) := by simp [mapD, putN, List.foldl_append]
theorem mapD_is {H : Type} (l : NL) : IsMap (mapD (H := H) l) := by
  rcases l.eq_nil_or_concat with rfl | ⟨e, s, rfl⟩
  · exact ⟨[], rfl⟩
  · rw [List.concat_eq_append, mapD_snoc]; exact (mapD_is (H := H) e).put _ _
termination_by l.length
theorem mapD_at {H : Type} (n : BL) (z : DataW H) (l : NL) : (mapD (H := H) l).atKey (.string n) z = (match lookN l n with | some p => ndD p | none => z) := by
  rcases l.eq_nil_or_concat with rfl | ⟨e, s, rfl⟩
  · rfl
  · have ih := mapD_at (H := H) n z e
    rw [List.concat_eq_append, mapD_snoc, lookN_snoc]
    by_cases h : s.1 = n
    · rw [if_pos h, ← h, atKey_put_same (mapD_is e) (by trivial)]
    · rw [if_neg h, atKey_put_other (by intro e; cases e; exact h rfl), ih]
termination_by l.length
theorem mapD_has {H : Type} (n : BL) (l : NL) : Maps.has (mapD (H := H) l) (.string n) = (lookN l n).isSome := by
  rcases l.eq_nil_or_concat with rfl | ⟨e, s, rfl⟩
  · rfl
  · have ih := mapD_has (H := H) n e
    rw [List.concat_eq_append, mapD_snoc, lookN_snoc]
    by_cases h : s.1 = n
    · rw [if_pos h, ← h, has_put_same (mapD_is e) (by trivial)]; rfl
    · rw [if_neg h, has_put_other (by intro e; cases e; exact h rfl), ih]
termination_by l.length

theorem keyedS : Keyed Try.prog 9 := string_keyed Try.underlying9
theorem zeroN (w : World) : (zeroValue 75).run Try.prog w = .ok .nilIface w := by kernel_rfl
theorem keyS (l : BL) (h : l.length ≤ maxLen) : keyOf Try.prog 9 (.string (ba l)) = some (.string l) := by
  have := keyOf_string_mk (P := Try.prog) Try.underlying9 (s := ba l) (by rw [ba_size]; exact h)
  exact this

/-- A map in memory from texts to nodes. -/
def NMap (w : World) (m : Nat) (l : NL) : Prop := w.ownsMap Try.prog 9 (rdN (H := Unit)) m l.length (mapD l)
theorem NMap.made (w : World) : NMap (w.alloc (.map #[] 0)) w.heap.size [] := World.ownsMap_made _ _ _ _
theorem NMap.lt {w : World} {m : Nat} {l : NL} (h : NMap w m l) : m < w.heap.size := World.ownsMap.lt h
theorem NMap.same {w w' : World} {m : Nat} {l : NL} (h : NMap w m l) (e : w'.heap[m]? = w.heap[m]?) : NMap w' m l := by
  obtain ⟨es, clock, hm, F, hs, hD⟩ := h
  exact ⟨es, clock, e.trans hm, F, hs, hD⟩
theorem NMap.below {w w' : World} {m : Nat} {l : NL} (h : NMap w m l) (hb : Below w.heap.size w w') : NMap w' m l := h.same (hb.block m h.lt)
def lkNV (o : Option (Nat × Nat)) : Value := match o with
  | some p => ndV p
  | none => .nilIface
theorem NMap.look {w : World} {m : Nat} {l : NL} (h : NMap w m l) (n : BL) (hn : n.length ≤ maxLen) :
    (Instr.lookup 96 (.map (some m)) (.string (ba n)) true).run Try.prog w = .ok (.tuple #[lkNV (lookN l n), .bool (lookN l n).isSome]) w := by
  obtain ⟨v, ps, hrun, hv⟩ := World.ownsMap.look_ok h keyedS Try.underlying96 (zeroN w) rdN_nil (keyS n hn)
  rw [hrun, mapD_has]
  rw [mapD_at] at hv
  cases hl : lookN l n with
  | none =>
    rw [hl] at hv
    rw [rdN_nil_inv hv]
    rfl
  | some p =>
    rw [hl] at hv
    rw [rdN_inv hv]
    rfl
theorem NMap.put {w : World} {m : Nat} {l : NL} (h : NMap w m l) (n : BL) (hn : n.length ≤ maxLen) (hl : l.length < maxLen) (p : Nat × Nat) :
    ∃ w', (Instr.mapUpdate 96 (.map (some m)) (.string (ba n)) (ndV p)).run Try.prog w = .ok () w' ∧ NMap w' m (l ++ [(n, p)]) ∧ w.grownBy w' (some m) := by
  obtain ⟨w', h1, h2, h3⟩ := World.ownsMap.update h keyedS Try.underlying96 hl (keyS n hn) (rdN_nd p)
  refine ⟨w', h1, ?_, h3⟩
  unfold NMap
  rw [mapD_snoc, List.length_append]
  exact h2
end Go.Proofs.Ytgclemicgcbpjaa
