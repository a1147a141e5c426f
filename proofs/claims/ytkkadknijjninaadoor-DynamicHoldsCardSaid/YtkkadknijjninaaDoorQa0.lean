
/- dynamic, plain: stretches, entries, what the entries say; maps keyed by numbers. -/
import Derived.Test.YtkkadknijjninaaDoorLa1
import Derived.Test.YtkkadknijjninaaDoorG1
import Derived.Test.YtkkadknijjninaaDoorKE
import Derived.Maps.OwnSet
import Derived.Maps.Views
namespace Go.Proofs.YtkkadknijjninaaDoor
open Go.RowKit Go.Sort Go.WideMaps Go.Maps Go.WideShapes

/-- The last element under a key. -/
def lk {α : Type} (l : List (Int × α)) (k : Int) : Option α := (l.reverse.find? fun x => decide (x.1 = k)).map (·.2)
theorem lk_snoc {α : Type} (l : List (Int × α)) (x : Int × α) (k : Int) : lk (l ++ [x]) k = if x.1 = k then some x.2 else lk l k := by
  unfold lk
  rw [List.reverse_append, List.reverse_singleton, List.singleton_append, List.find?_cons]
  by_cases h : x.1 = k
  · simp [h]
  · simp [h]
theorem lk_mem {α : Type} {l : List (Int × α)} {k : Int} {a : α} (h : lk l k = some a) : (k, a) ∈ l := by
  unfold lk at h
  cases hf : l.reverse.find? (fun x => decide (x.1 = k)) with
  | none => rw [hf] at h; cases h
  | some x =>
    rw [hf] at h
    have h1 := List.find?_some hf
    have h2 := List.mem_of_find?_eq_some hf
    simp only [Option.map_some, Option.some.injEq, decide_eq_true_eq] at h h1
    rw [List.mem_reverse] at h2
    rw [← h1, ← h]
    exact h2

structure PU where
  several : Bool
  must : Int
  goes : Int
def puC (p : PU) : Value := .agg #[.bool p.several, .int .u64 p.must, .int .u64 p.goes]
def puZ : PU := ⟨false, 0, 0⟩
def puL : List (Int × PU) := [(1, ⟨true, 0, 0⟩), (2, ⟨false, 0, 23⟩), (4, ⟨false, 0, 6⟩), (5, ⟨false, 0, 10⟩), (6, ⟨false, 0, 4⟩), (7, ⟨false, 0, 8⟩), (8, ⟨false, 0, 7⟩), (9, ⟨false, 24, 0⟩), (10, ⟨false, 0, 5⟩), (11, ⟨false, 24, 0⟩), (14, puZ), (15, puZ), (20, ⟨false, 7, 0⟩), (23, ⟨false, 0, 2⟩), (29, puZ)]

/-- How elements lie in a map: as values, as data. -/
structure ME (α : Type) where
  rd : Value → Option (DataW Unit × List MemPlace)
  v : α → Value
  d : α → DataW Unit
  ok : ∀ a, rd (v a) = some (d a, [])
  inv : ∀ x a ps, rd x = some (d a, ps) → x = v a
def rdU (x : Value) : Option (DataW Unit × List MemPlace) := match x with
  | .int .u64 a => some (.lit (.int .u64 a), [])
  | _ => none
def meU : ME Int := ⟨rdU, fun a => .int .u64 a, fun a => .lit (.int .u64 a), fun a => rfl, fun x a ps h => by
  unfold rdU at h
  split at h
  · simp only [Option.some.injEq, Prod.mk.injEq, DataW.lit.injEq, Lit.int.injEq, true_and] at h
    rw [h.1]
  · cases h⟩
def rdP3 (l : List Value) : Option (DataW Unit × List MemPlace) := match l with
  | [.bool s, .int .u64 m, .int .u64 g] => some (.agg [.lit (.bool s), .lit (.int .u64 m), .lit (.int .u64 g)], [])
  | _ => none
def rdP (x : Value) : Option (DataW Unit × List MemPlace) := match x with
  | .agg cs => rdP3 cs.toList
  | _ => none
def meP : ME PU := ⟨rdP, puC, fun p => .agg [.lit (.bool p.several), .lit (.int .u64 p.must), .lit (.int .u64 p.goes)], fun a => rfl, fun x a ps h => by
  unfold rdP at h
  split at h
  · rename_i cs
    obtain ⟨l⟩ := cs
    simp only at h
    unfold rdP3 at h
    split at h
    · simp only [Option.some.injEq, Prod.mk.injEq, DataW.agg.injEq, List.cons.injEq, DataW.lit.injEq, Lit.int.injEq, Lit.bool.injEq, true_and, and_true] at h
      obtain ⟨⟨h1, h2, h3⟩, _⟩ := h
      rw [h1, h2, h3]
      rfl
    · cases h
  · cases h⟩
section
variable {α : Type} (E : ME α)
def mapM (l : List (Int × α)) : DataW Unit := l.foldl (fun D x => D.put (.int .u64 x.1) (E.d x.2)) (.map [])
theorem mapM_snoc (l : List (Int × α)) (x : Int × α) : mapM E (l ++ [x]) = (mapM E l).put (.int .u64 x.1) (E.d x.2) := by simp [mapM, List.foldl_append]
theorem mapM_is (l : List (Int × α)) : IsMap (mapM E l) := by
  rcases l.eq_nil_or_concat with rfl | ⟨e, s, rfl⟩
  · exact ⟨[], rfl⟩
  · rw [List.concat_eq_append, mapM_snoc]; exact (mapM_is e).put _ _
termination_by l.length
theorem mapM_at (n : Int) (z : DataW Unit) (l : List (Int × α)) : (mapM E l).atKey (.int .u64 n) z = (match lk l n with | some p => E.d p | none => z) := by
  rcases l.eq_nil_or_concat with rfl | ⟨e, s, rfl⟩
  · rfl
  · have ih := mapM_at n z e
    rw [List.concat_eq_append, mapM_snoc, lk_snoc]
    by_cases h : s.1 = n
    · rw [if_pos h, ← h, atKey_put_same (mapM_is E e) (by trivial)]
    · rw [if_neg h, atKey_put_other (by intro e; cases e; exact h rfl), ih]
termination_by l.length
theorem mapM_has (n : Int) (l : List (Int × α)) : Maps.has (mapM E l) (.int .u64 n) = (lk l n).isSome := by
  rcases l.eq_nil_or_concat with rfl | ⟨e, s, rfl⟩
  · rfl
  · have ih := mapM_has n e
    rw [List.concat_eq_append, mapM_snoc, lk_snoc]
    by_cases h : s.1 = n
    · rw [if_pos h, ← h, has_put_same (mapM_is E e) (by trivial)]; rfl
    · rw [if_neg h, has_put_other (by intro e; cases e; exact h rfl), ih]
termination_by l.length
end
theorem keyed64 : Keyed Tryd.prog 24 := int_keyed Tryd.underlying24
theorem key64 (n : Int) (h0 : 0 ≤ n) (h1 : n ≤ 18446744073709551615) : keyOf Tryd.prog 24 (.int .u64 n) = some (.int .u64 n) := keyOf_int_mk Tryd.underlying24 (by simp [Lit.wf, IntKind.min, IntKind.max, IntKind.signed, IntKind.bits]; omega)

/-- A map in memory. -/
def MM {α : Type} (E : ME α) (w : World) (m : Nat) (l : List (Int × α)) : Prop := w.ownsMap Tryd.prog 24 E.rd m l.length (mapM E l)
section
variable {α : Type} {E : ME α} {w w' : World} {m : Nat} {l : List (Int × α)}
theorem MM.made (w : World) : MM E (w.alloc (.map #[] 0)) w.heap.size [] := World.ownsMap_made _ _ _ _
theorem MM.lt (h : MM E w m l) : m < w.heap.size := World.ownsMap.lt h
theorem MM.same (h : MM E w m l) (e : w'.heap[m]? = w.heap[m]?) : MM E w' m l := by
  obtain ⟨es, clock, hm, F, hs, hD⟩ := h
  exact ⟨es, clock, e.trans hm, F, hs, hD⟩
theorem MM.below (h : MM E w m l) (hb : Below w.heap.size w w') : MM E w' m l := h.same (hb.block m h.lt)
theorem MM.put {tM tE : TypeId} (h : MM E w m l) (ht : Tryd.prog.underlying tM = some (.map 24 tE)) (n : Int) (h0 : 0 ≤ n) (h1 : n ≤ 18446744073709551615) (hl : l.length < maxLen) (p : α) :
    ∃ w', (Instr.mapUpdate tM (.map (some m)) (.int .u64 n) (E.v p)).run Tryd.prog w = .ok () w' ∧ MM E w' m (l ++ [(n, p)]) ∧ w.grownBy w' (some m) := by
  obtain ⟨w', g1, g2, g3⟩ := World.ownsMap.update h keyed64 ht hl (key64 n h0 h1) (E.ok p)
  refine ⟨w', g1, ?_, g3⟩
  unfold MM
  rw [mapM_snoc, List.length_append]
  exact g2
theorem MM.look {tM tE : TypeId} (h : MM E w m l) (ht : Tryd.prog.underlying tM = some (.map 24 tE)) (z : α) (hz : (zeroValue tE).run Tryd.prog w = .ok (E.v z) w) (n : Int) (h0 : 0 ≤ n) (h1 : n ≤ 18446744073709551615) :
    (Instr.lookup tM (.map (some m)) (.int .u64 n) true).run Tryd.prog w = .ok (.tuple #[E.v ((lk l n).getD z), .bool (lk l n).isSome]) w := by
  obtain ⟨v, ps, hrun, hv⟩ := World.ownsMap.look_ok h keyed64 ht hz (E.ok z) (key64 n h0 h1)
  rw [hrun, mapM_has]
  rw [mapM_at] at hv
  cases hl : lk l n with
  | none =>
    rw [hl] at hv
    rw [E.inv _ _ _ hv]
    rfl
  | some p =>
    rw [hl] at hv
    rw [E.inv _ _ _ hv]
    rfl
theorem MM.get {tM tE : TypeId} (h : MM E w m l) (ht : Tryd.prog.underlying tM = some (.map 24 tE)) (z : α) (hz : (zeroValue tE).run Tryd.prog w = .ok (E.v z) w) (n : Int) (h0 : 0 ≤ n) (h1 : n ≤ 18446744073709551615) :
    (Instr.lookup tM (.map (some m)) (.int .u64 n) false).run Tryd.prog w = .ok (E.v ((lk l n).getD z)) w := by
  obtain ⟨v, ps, hrun, hv⟩ := World.ownsMap.lookup h keyed64 ht hz (E.ok z) (key64 n h0 h1)
  rw [hrun]
  rw [mapM_at] at hv
  cases hl : lk l n with
  | none =>
    rw [hl] at hv
    rw [E.inv _ _ _ hv]
    rfl
  | some p =>
    rw [hl] at hv
    rw [E.inv _ _ _ hv]
    rfl
end
theorem zeroU (w : World) : (zeroValue 24).run Tryd.prog w = .ok (meU.v 0) w := by kernel_rfl
theorem zeroP (w : World) : (zeroValue 118).run Tryd.prog w = .ok (meP.v puZ) w := by kernel_rfl

/-- A stretch of addresses in a load. -/
def inL (addr size : Int) (x : SG) : Bool := decide (x.addr ≤ addr) && insB (addr - x.addr) size x.fsz
def laidX (n size : Int) (addr : Int) (x : SG) : Option Int := if addB x.off (addr - x.addr) = true ∧ insB (addV x.off (addr - x.addr)) size n = true then some (addV x.off (addr - x.addr)) else none
/-- Where a stretch of addresses lies in a file of n bytes. -/
def laidO (n : Int) (L : List SG) (addr size : Int) : Option Int := match L.find? (inL addr size) with
  | none => none
  | some x => laidX n size addr x
theorem laidO_in {n addr size at' : Int} {L : List SG} (h : laidO n L addr size = some at') : 0 ≤ at' ∧ at' + size ≤ n := by
  unfold laidO at h
  split at h
  · cases h
  · unfold laidX at h
    split at h
    · rename_i hc
      cases h
      have h2 := hc.2
      unfold insB at h2
      simp only [decide_eq_true_eq] at h2
      refine ⟨?_, by omega⟩
      unfold addV
      split
      · omega
      · rw [IntKind.wrap_u64]; omega
    · cases h
end Go.Proofs.YtkkadknijjninaaDoor
