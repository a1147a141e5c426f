
/- Lines that are written: plain. -/
import Derived.Test.YthamfhenadaapaaDoorU0
namespace Go.Proofs.YthamfhenadaapaaDoor
open Go.RowKit Go.Sort

theorem trL_blanks : ∀ {g m : BL}, (∀ c ∈ g, blk c = true) → trL (g ++ m) = trL m
  | [], _, _ => rfl
  | c :: g, m, h => by
    rw [List.cons_append, trL_yes (h c (List.mem_cons_self ..))]
    exact trL_blanks fun d hd => h d (List.mem_cons_of_mem _ hd)
theorem trB_rev (l : BL) : trB l = (trL l.reverse).reverse := rfl
theorem trB_blanks {m g : BL} (h : ∀ c ∈ g, blk c = true) : trB (m ++ g) = trB m := by
  rw [trB_rev, trB_rev, List.reverse_append, trL_blanks fun c hc => h c (by simpa using hc)]
def gapL (m : Nat) : BL := (List.range m).map fun i => if i % 2 = 0 then 32 else 9
theorem gapL_succ (m : Nat) : gapL (m + 1) = gapL m ++ [if m % 2 = 0 then 32 else 9] := by unfold gapL; rw [List.range_succ, List.map_append]; rfl
theorem gapL_blk (m : Nat) : ∀ c ∈ gapL m, blk c = true := by
  intro c hc
  unfold gapL at hc
  obtain ⟨i, _, rfl⟩ := List.mem_map.1 hc
  split <;> rfl
theorem gapL_len (m : Nat) : (gapL m).length = m := by simp [gapL]
theorem blk_ten {c : UInt8} (h : blk c = true) : c ≠ 10 := by rintro rfl; revert h; decide
/-- What odd does not find. -/
def OddFree (s : BL) (within : Bool) : Prop := ∀ i (h : i < s.length), s[i] ≠ 10 ∧ (blk s[i] = true → within = false ∧ i ≠ 0 ∧ i ≠ s.length - 1)
theorem OddFree.ten {s : BL} {t : Bool} (h : OddFree s t) : ∀ c ∈ s, c ≠ 10 := by
  intro c hc
  obtain ⟨i, hi, rfl⟩ := List.mem_iff_getElem.1 hc
  exact (h i hi).1
theorem OddFree.none {s : BL} (h : OddFree s true) : ∀ c ∈ s, blk c = false := by
  intro c hc
  obtain ⟨i, hi, rfl⟩ := List.mem_iff_getElem.1 hc
  cases hb : blk s[i]
  · rfl
  · have := ((h i hi).2 hb).1; cases this
theorem OddFree.head {s : BL} {t : Bool} (h : OddFree s t) (hs : s ≠ []) : ∃ x r, s = x :: r ∧ blk x = false := by
  cases s with
  | nil => exact absurd rfl hs
  | cons x r =>
    refine ⟨x, r, rfl, ?_⟩
    cases hb : blk x
    · rfl
    · exact absurd rfl ((h 0 (by simp)).2 hb).2.1
theorem OddFree.last {s : BL} {t : Bool} (h : OddFree s t) (hs : s ≠ []) : ∃ r x, s = r ++ [x] ∧ blk x = false := by
  rcases List.eq_nil_or_concat s with rfl | ⟨r, x, rfl⟩
  · exact absurd rfl hs
  · refine ⟨r, x, List.concat_eq_append .., ?_⟩
    cases hb : blk x
    · rfl
    · have := ((h r.length (by simp)).2 (by simpa using hb)).2.2
      simp at this
def lineW (a b c : Nat) (i g : BL) : BL := gapL a ++ i ++ gapL b ++ (if g = [] then [] else [32] ++ g ++ gapL c)
theorem lineW_ten {a b c : Nat} {i g : BL} (hi : OddFree i true) (hg : OddFree g false) : ∀ x ∈ lineW a b c i g, x ≠ 10 := by
  intro x hx
  unfold lineW at hx
  rcases List.mem_append.1 hx with h | h
  · rcases List.mem_append.1 h with h | h
    · rcases List.mem_append.1 h with h | h
      · exact blk_ten (gapL_blk _ _ h)
      · exact hi.ten x h
    · exact blk_ten (gapL_blk _ _ h)
  · split at h
    · simp at h
    · rcases List.mem_append.1 h with h | h
      · rcases List.mem_append.1 h with h | h
        · rw [List.mem_singleton.1 h]; decide
        · exact hg.ten x h
      · exact blk_ten (gapL_blk _ _ h)
theorem lineW_tr {a b c : Nat} {i g : BL} (hi : OddFree i true) (hin : i ≠ []) (hg : OddFree g false) : trS (lineW a b c i g) = if g = [] then i else i ++ gapL b ++ [32] ++ g := by
  obtain ⟨x, r, hx, hbx⟩ := hi.head hin
  have e1 : ∀ m : BL, trL (gapL a ++ i ++ m) = i ++ m := by
    intro m
    rw [List.append_assoc, trL_blanks (gapL_blk a), hx, List.cons_append, trL_no hbx]
  unfold trS lineW
  by_cases h : g = []
  · rw [if_pos h, if_pos h, List.append_nil, e1, trB_blanks (gapL_blk b)]
    obtain ⟨r2, y, hy, hby⟩ := hi.last hin
    rw [hy, trB_no hby]
  · rw [if_neg h, if_neg h]
    obtain ⟨r2, y, hy, hby⟩ := hg.last h
    rw [show gapL a ++ i ++ gapL b ++ ([32] ++ g ++ gapL c) = gapL a ++ i ++ (gapL b ++ [32] ++ g ++ gapL c) by simp only [List.append_assoc], e1]
    rw [show i ++ (gapL b ++ [32] ++ g ++ gapL c) = i ++ gapL b ++ [32] ++ g ++ gapL c by simp only [List.append_assoc], trB_blanks (gapL_blk c)]
    rw [hy, ← List.append_assoc, trB_no hby]
theorem lineW_rest {b : Nat} {i g : BL} (hi : OddFree i true) (hg : OddFree g false) (h : ¬ g = []) : restL (i ++ gapL b ++ [32] ++ g) = (i, g, true, 0) := by
  have hn : Lib.NoAny (i ++ gapL b ++ [32] ++ g) cs2 i.length := by
    intro j c hj hc
    rw [List.append_assoc, List.append_assoc, List.getElem?_append_left hj] at hc
    exact hi.none c (List.mem_of_getElem? hc)
  obtain ⟨y, hy, hby⟩ : ∃ y, (i ++ gapL b ++ [32] ++ g)[i.length]? = some y ∧ blk y = true := by
    rw [List.append_assoc, List.append_assoc, List.getElem?_append_right (Nat.le_refl _), Nat.sub_self]
    cases b with
    | zero => exact ⟨32, rfl, rfl⟩
    | succ b =>
      refine ⟨32, ?_, rfl⟩
      unfold gapL
      rw [List.range_succ_eq_map]
      rfl
  rw [restL_at (Lib.indexAny_hit hn hy hby)]
  obtain ⟨x, r, hx, hbx⟩ := hg.head h
  refine Prod.ext ?_ (Prod.ext ?_ rfl)
  · show List.take i.length (i ++ gapL b ++ [32] ++ g) = i
    rw [List.append_assoc, List.append_assoc, List.take_left]
  · show trL (List.drop i.length (i ++ gapL b ++ [32] ++ g)) = g
    rw [List.append_assoc, List.append_assoc, List.drop_left, trL_blanks (gapL_blk b), List.singleton_append, trL_yes rfl, hx, trL_no hbx]
theorem lineW_one {i : BL} (hi : OddFree i true) : restL i = (i, [], true, 0) := restL_no (Lib.indexAny_none fun j c _ hc => hi.none c (List.mem_of_getElem? hc))
/-- What a line that was written says. -/
theorem lineW_par {a b c : Nat} {i g behind : BL} (hi : OddFree i true) (hin : i ≠ []) (hg : OddFree g false) :
    parL ([35, 33] ++ lineW a b c i g ++ [10] ++ behind) = if 127 < (lineW a b c i g).length then ([], [], false, 13) else (i, g, true, 0) := by
  have hb : bang ([35, 33] ++ lineW a b c i g ++ [10] ++ behind) = true := by unfold bang; simp
  have hl : lineL ([35, 33] ++ lineW a b c i g ++ [10] ++ behind) = lineW a b c i g := by
    unfold lineL
    rw [show List.drop 2 (([35, 33] : BL) ++ lineW a b c i g ++ [10] ++ behind) = lineW a b c i g ++ [10] ++ behind by simp]
    exact upTo_app (lineW_ten hi hg)
  by_cases h : 127 < (lineW a b c i g).length
  · rw [if_pos h]
    exact parL_long hb (by rw [hl]; exact h)
  · rw [if_neg h]
    have ht := lineW_tr (a := a) (b := b) (c := c) hi hin hg
    by_cases h2 : g = []
    · rw [if_pos h2] at ht
      rw [parL_rest hb (by rw [hl]; exact h) (by rw [hl, ht]; exact hin), hl, ht, lineW_one hi, h2]
    · rw [if_neg h2] at ht
      rw [parL_rest hb (by rw [hl]; exact h) (by rw [hl, ht]; intro e; simp at e), hl, ht, lineW_rest hi hg h2]
end Go.Proofs.YthamfhenadaapaaDoor
