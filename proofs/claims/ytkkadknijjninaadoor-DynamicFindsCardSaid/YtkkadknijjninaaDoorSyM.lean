
/- Objects and their symbols as lists. No program is named. -/
import Derived.Test.YtkkadknijjninaaDoorKE
namespace Go.Proofs.YtkkadknijjninaaDoor
open Go.RowKit

structure SY where
  name : BL
  value : Int
  size : Int
  bind : Int
  dfn : Bool
deriving Inhabited, DecidableEq
def SY.is (s : SY) : Bool := s.dfn && decide (s.bind ≠ 0)
/-- An object as the symbols' functions read it: its base, its symbols. -/
structure OS where
  base : Int
  sy : List SY
deriving Inhabited

abbrev DF := (Nat × Nat) × SY
def defsOne (i : Nat) (l : List SY) : List DF := ((List.range l.length).filter fun k => (l.getD k default).is).map fun k => ((i, k), l.getD k default)
def defsL (os : List OS) : List DF := (List.range os.length).flatMap fun i => defsOne i (os.getD i default).sy
def lookL (os : List OS) (n : BL) : Option DF := (defsL os).find? fun d => decide (d.2.name = n)
def addOnce (acc : List BL) (d : DF) : List BL := if d.2.name ∈ acc then acc else acc ++ [d.2.name]
def allOf (ds : List DF) : List BL := ds.foldl addOnce []
def allL (os : List OS) : List BL := allOf (defsL os)

theorem getD_at {α : Type} [Inhabited α] {l : List α} {k : Nat} (h : k < l.length) : l.getD k default = l[k] := by rw [List.getD_eq_getElem?_getD, List.getElem?_eq_getElem h]; rfl
/-- The definitions of the first k symbols of an object. -/
def defsTo (i : Nat) (l : List SY) (k : Nat) : List DF := ((List.range k).filter fun k => (l.getD k default).is).map fun k => ((i, k), l.getD k default)
theorem defsTo_zero (i : Nat) (l : List SY) : defsTo i l 0 = [] := rfl
theorem defsTo_full (i : Nat) (l : List SY) : defsTo i l l.length = defsOne i l := rfl
theorem defsTo_succ (i : Nat) (l : List SY) {k : Nat} (hk : k < l.length) : defsTo i l (k + 1) = defsTo i l k ++ if l[k].is then [((i, k), l[k])] else [] := by
  unfold defsTo
  rw [List.range_succ, List.filter_append, List.map_append]
  congr 1
  have e : l[k]?.getD default = l[k] := by rw [List.getElem?_eq_getElem hk]; rfl
  cases h : l[k].is <;> simp [List.filter_cons, e, h]
/-- The definitions of the first i objects, and of the first k symbols of the next. -/
def defsAt (os : List OS) (i : Nat) : List DF := (List.range i).flatMap fun i => defsOne i (os.getD i default).sy
theorem defsAt_zero (os : List OS) : defsAt os 0 = [] := rfl
theorem defsAt_succ (os : List OS) {i : Nat} (hi : i < os.length) : defsAt os (i + 1) = defsAt os i ++ defsOne i os[i].sy := by
  unfold defsAt; rw [List.range_succ, List.flatMap_append]; simp [List.getElem?_eq_getElem hi]
theorem defsAt_full (os : List OS) : defsAt os os.length = defsL os := rfl

theorem mem_defsOne {i : Nat} {l : List SY} {d : DF} (h : d ∈ defsOne i l) : d.1.1 = i ∧ ∃ hk : d.1.2 < l.length, l[d.1.2] = d.2 ∧ d.2.is = true := by
  unfold defsOne at h
  obtain ⟨k, hk, rfl⟩ := List.mem_map.1 h
  obtain ⟨h1, h2⟩ := List.mem_filter.1 hk
  have hk2 := List.mem_range.1 h1
  rw [getD_at hk2] at h2 ⊢
  exact ⟨rfl, hk2, rfl, h2⟩
theorem mem_defsL {os : List OS} {d : DF} (h : d ∈ defsL os) : ∃ hi : d.1.1 < os.length, ∃ hk : d.1.2 < os[d.1.1].sy.length, os[d.1.1].sy[d.1.2] = d.2 ∧ d.2.is = true := by
  unfold defsL at h
  obtain ⟨i, hi, hd⟩ := List.mem_flatMap.1 h
  have hi2 := List.mem_range.1 hi
  rw [getD_at hi2] at hd
  obtain ⟨h1, hk, h3, h4⟩ := mem_defsOne hd
  subst h1
  exact ⟨hi2, hk, h3, h4⟩
theorem defs_mem {os : List OS} {i k : Nat} (hi : i < os.length) (hk : k < os[i].sy.length) (h : os[i].sy[k].is = true) : ((i, k), os[i].sy[k]) ∈ defsL os := by
  unfold defsL
  refine List.mem_flatMap.2 ⟨i, List.mem_range.2 hi, ?_⟩
  rw [getD_at hi]
  unfold defsOne
  refine List.mem_map.2 ⟨k, List.mem_filter.2 ⟨List.mem_range.2 hk, ?_⟩, ?_⟩
  · rw [getD_at hk]; exact h
  · rw [getD_at hk]

/-! The places rise. -/
def before (a b : DF) : Prop := a.1.1 < b.1.1 ∨ (a.1.1 = b.1.1 ∧ a.1.2 < b.1.2)
theorem defsOne_rise (i : Nat) (l : List SY) : (defsOne i l).Pairwise before := by
  unfold defsOne
  rw [List.pairwise_map]
  exact (List.pairwise_lt_range (n := l.length)).filter _ |>.imp fun h => .inr ⟨rfl, h⟩
theorem defsL_rise (os : List OS) : (defsL os).Pairwise before := by
  unfold defsL
  rw [List.pairwise_flatMap]
  refine ⟨fun i _ => defsOne_rise _ _, ?_⟩
  refine (List.pairwise_lt_range (n := os.length)).imp fun {i j} hij x hx y hy => ?_
  have h1 := (mem_defsOne hx).1
  have h2 := (mem_defsOne hy).1
  left
  omega
theorem before_irrefl (a : DF) : ¬ before a a := by unfold before; omega

/-! Names told once. -/
theorem allOf_snoc (ds : List DF) (d : DF) : allOf (ds ++ [d]) = addOnce (allOf ds) d := by simp [allOf, List.foldl_append]
theorem mem_allOf (ds : List DF) (n : BL) : n ∈ allOf ds ↔ ∃ d ∈ ds, d.2.name = n := by
  rcases ds.eq_nil_or_concat with rfl | ⟨e, s, rfl⟩
  · simp [allOf]
  · have ih := mem_allOf e n
    rw [List.concat_eq_append, allOf_snoc]
    unfold addOnce
    split
    · rename_i h
      rw [ih]
      constructor
      · rintro ⟨d, h1, h2⟩; exact ⟨d, List.mem_append_left _ h1, h2⟩
      · rintro ⟨d, h1, h2⟩
        rcases List.mem_append.1 h1 with h1 | h1
        · exact ⟨d, h1, h2⟩
        · have : d = s := by simpa using h1
          subst this
          rw [h2] at h
          exact ih.1 h
    · rw [List.mem_append, ih, List.mem_singleton]
      constructor
      · rintro (⟨d, h1, h2⟩ | h)
        · exact ⟨d, List.mem_append_left _ h1, h2⟩
        · exact ⟨s, by simp, h.symm⟩
      · rintro ⟨d, h1, h2⟩
        rcases List.mem_append.1 h1 with h1 | h1
        · exact .inl ⟨d, h1, h2⟩
        · have : d = s := by simpa using h1
          subst this
          exact .inr h2.symm
termination_by ds.length
theorem allOf_nodup (ds : List DF) : (allOf ds).Nodup := by
  rcases ds.eq_nil_or_concat with rfl | ⟨e, s, rfl⟩
  · simp [allOf]
  · have ih := allOf_nodup e
    rw [List.concat_eq_append, allOf_snoc]
    unfold addOnce
    split
    · exact ih
    · rename_i h
      rw [List.nodup_append]
      exact ⟨ih, by simp, fun a ha b hb => by
        have : b = s.2.name := by simpa using hb
        subst this
        rintro rfl
        exact h ha⟩
termination_by ds.length
theorem allOf_len (ds : List DF) : (allOf ds).length ≤ ds.length := by
  rcases ds.eq_nil_or_concat with rfl | ⟨e, s, rfl⟩
  · simp [allOf]
  · have ih := allOf_len e
    rw [List.concat_eq_append, allOf_snoc]
    unfold addOnce
    split <;> simp <;> omega
termination_by ds.length
/-- A definition is told just if it is the first of its name. -/
theorem allOf_first {ds : List DF} {e : List DF} {d : DF} (hp : e ++ [d] <+: ds) : (d.2.name ∈ allOf e) ↔ ds.find? (fun x => decide (x.2.name = d.2.name)) ≠ some d ∨ ∃ x ∈ e, x = d := by
  obtain ⟨t, rfl⟩ := hp
  rw [mem_allOf]
  constructor
  · rintro ⟨x, hx, hn⟩
    by_cases hxd : ∃ x ∈ e, x = d
    · exact .inr hxd
    · left
      rw [List.append_assoc, List.find?_append]
      have : e.find? (fun x => decide (x.2.name = d.2.name)) ≠ none := by
        intro h
        have := (List.find?_eq_none.1 h) x hx
        simp [hn] at this
      obtain ⟨y, hy⟩ := Option.ne_none_iff_exists'.1 this
      rw [hy]
      intro h
      simp only [Option.some_or, Option.some.injEq] at h
      exact hxd ⟨y, List.mem_of_find?_eq_some hy, h⟩
  · rintro (h | ⟨x, hx, rfl⟩)
    · by_cases hn : ∃ x ∈ e, x.2.name = d.2.name
      · exact hn
      · exfalso
        apply h
        rw [List.append_assoc, List.find?_append]
        have : e.find? (fun x => decide (x.2.name = d.2.name)) = none := by
          rw [List.find?_eq_none]
          intro x hx
          simp only [decide_eq_true_eq]
          intro h2
          exact hn ⟨x, hx, h2⟩
        rw [this]
        simp
    · exact ⟨x, hx, rfl⟩
end Go.Proofs.YtkkadknijjninaaDoor
