/- Paths as lists of letters. No program is named. -/
import Derived.Test.YtgclemicgcbpjaaT
import Derived.Test.YtgclemicgcbpjaaC
import Derived.Lib.LastIndexByte
import Derived.Lib.IndexLaws
import Derived.Lib.Strings
namespace Go.Proofs.Ytgclemicgcbpjaa
open Go.RowKit

abbrev BL := List UInt8
def strV (l : BL) : Value := .string (ba l)
def tooLong (l : BL) : Bool := (cuts 47 l).any fun p => decide (32 < p.length)
def chkE (l : BL) : Int := if l = [] then 3 else if 0 ∈ l then 1 else if 200 < l.length then 11 else if tooLong l then 11 else 0
def goodP (p : BL) : Bool := decide (p ≠ []) && decide (p ≠ [46])
def partsL (l : BL) : List BL := (cuts 47 l).filter goodP
def begB (l : BL) : Bool := decide (l.head? = some 47)
def tailB (l : BL) : Bool := decide (l ≠ []) && decide ((cst 47 l).2 = [])
def partsF (l : BL) : List BL := if chkE l = 0 then partsL l else []
def rootF (l : BL) : Bool := decide (chkE l = 0) && begB l
def lastI (l : BL) : Int := if (cst 47 l).1 = [] then -1 else (l.length : Int) - (cst 47 l).2.length - 1
def baseL (l : BL) : BL := (cst 47 l).2
def dirL (l : BL) : BL := if lastI l = -1 then [46] else if lastI l = 0 then [47] else l.take (lastI l).toNat
def joinL (d p : BL) : BL := if begB p || decide (d = []) then p else if tailB d then d ++ p else d ++ [47] ++ p

theorem cst_no {x : UInt8} {l : BL} (h : ∀ c ∈ l, c ≠ x) : cst x l = ([], l) := by
  have := cst_miss x [] l h
  simpa [cst_nil] using this
theorem cst_split {x : UInt8} (a m : BL) (h : ∀ c ∈ m, c ≠ x) : cst x (a ++ [x] ++ m) = (cuts x a, m) := by
  rw [cst_miss x (a ++ [x]) m h, cst_hit]
  simp [cuts]

/-- Either there is no such letter, or the last one parts the text. -/
theorem last_split (x : UInt8) (l : BL) : (∀ c ∈ l, c ≠ x) ∨ ∃ a m, l = a ++ [x] ++ m ∧ ∀ c ∈ m, c ≠ x := by
  induction l with
  | nil => left; simp
  | cons c l ih =>
    rcases ih with h | ⟨a, m, rfl, h⟩
    · by_cases e : c = x
      · subst e; right; exact ⟨[], l, by simp, h⟩
      · left
        intro d hd
        rcases List.mem_cons.1 hd with rfl | hd
        · exact e
        · exact h d hd
    · right; exact ⟨c :: a, m, by simp, h⟩

theorem cuts_ne (x : UInt8) (l : BL) : cuts x l ≠ [] := by simp [cuts]
theorem lastI_no {l : BL} (h : ∀ c ∈ l, c ≠ 47) : lastI l = -1 ∧ baseL l = l := by
  unfold lastI baseL
  rw [cst_no h]
  simp
theorem lastI_at {a m : BL} (h : ∀ c ∈ m, c ≠ 47) : lastI (a ++ [47] ++ m) = a.length ∧ baseL (a ++ [47] ++ m) = m := by
  unfold lastI baseL
  rw [cst_split a m h]
  rw [if_neg (cuts_ne 47 a)]
  simp
  omega

theorem lastI_rng (l : BL) : -1 ≤ lastI l ∧ lastI l < l.length := by
  rcases last_split 47 l with h | ⟨a, m, rfl, h⟩
  · rw [(lastI_no h).1]; omega
  · rw [(lastI_at h).1]; simp; omega

theorem base_drop (l : BL) : l.drop (lastI l + 1).toNat = baseL l := by
  rcases last_split 47 l with h | ⟨a, m, rfl, h⟩
  · rw [(lastI_no h).1, (lastI_no h).2]; rfl
  · rw [(lastI_at h).1, (lastI_at h).2]
    have e : ((a.length : Int) + 1).toNat = (a ++ [47]).length := by simp
    rw [e, List.drop_left]

/-- What LastIndexByte tells. -/
theorem lastIdx_47 (s : ByteArray) : Lib.lastIndexByte s 47 = lastI s.data.toList := by
  unfold Lib.lastIndexByte
  rcases last_split 47 s.data.toList with h | ⟨a, m, e, h⟩
  · rw [(lastI_no h).1]
    rcases Lib.lastIdx_spec s 47 s.size with ⟨h1, _⟩ | ⟨i, hi, h1, h2, _⟩
    · exact h1
    · exfalso
      have hi' : i < s.data.size := hi
      have hl : i < s.data.toList.length := by simpa using hi'
      have hm : s.data.toList[i] ∈ s.data.toList := List.getElem_mem _
      apply h _ hm
      apply UInt8.toNat_inj.1
      have h3 : (s.data[i]).toNat = 47 := by
        rw [getElem!_pos s.data i hi'] at h2
        omega
      simpa using h3
  · rw [e, (lastI_at h).1]
    have hsz : s.size = a.length + 1 + m.length := by
      have := congrArg List.length e
      rw [size_list] at this
      simp at this
      omega
    have hat : s.data.toList[a.length]? = some 47 := by
      rw [e]; simp
    have hbeh : ∀ j, a.length < j → j < s.size → s.data.toList[j]? ≠ some 47 := by
      intro j h1 h2 h3
      rw [e] at h3
      rw [List.getElem?_append_right (by simp; omega)] at h3
      have := List.mem_of_getElem? h3
      exact h _ this rfl
    have back : ∀ j, j < s.size → ((s.data[j]!).toNat : Int) = 47 → s.data.toList[j]? = some 47 := by
      intro j hj h1
      have hj' : j < s.data.size := hj
      rw [getElem!_pos s.data j hj'] at h1
      have : s.data[j] = 47 := UInt8.toNat_inj.1 (by have : (47 : UInt8).toNat = 47 := rfl; omega)
      rw [Array.getElem?_toList, Array.getElem?_eq_getElem hj', this]
    have forth : ∀ j, j < s.size → s.data.toList[j]? = some 47 → ((s.data[j]!).toNat : Int) = 47 := by
      intro j hj h1
      have hj' : j < s.data.size := hj
      rw [getElem!_pos s.data j hj']
      have : s.data[j] = 47 := by rw [Array.getElem?_toList, Array.getElem?_eq_getElem hj'] at h1; exact Option.some.inj h1
      rw [this]; rfl
    rcases Lib.lastIdx_spec s 47 s.size with ⟨_, h2⟩ | ⟨i, hi, h1, h2, h3⟩
    · exact absurd (forth _ (by omega) hat) (h2 _ (by omega))
    · rw [h1]
      have hia : i = a.length := by
        rcases Nat.lt_trichotomy i a.length with hlt | heq | hgt
        · exact absurd (forth _ (by omega) hat) (h3 _ hlt (by omega))
        · exact heq
        · exact absurd (back i hi h2) (hbeh i hgt hi)
      rw [hia]

theorem lastI_snoc (l : BL) (c : UInt8) : lastI (l ++ [c]) = if c = 47 then (l.length : Int) else lastI l := by
  by_cases h : c = 47
  · subst h
    rw [if_pos rfl]
    have := (lastI_at (a := l) (m := []) (by simp)).1
    simpa using this
  · rw [if_neg h]
    have hm : ∀ d ∈ [c], d ≠ 47 := by simpa using h
    unfold lastI
    rw [cst_miss 47 l [c] hm]
    simp only []
    split
    · rfl
    · simp; omega

theorem hasPrefix_47 (l : BL) : Lib.hasPrefix l [47] = begB l := by
  rw [Bool.eq_iff_iff]
  unfold begB Lib.hasPrefix
  rw [List.isPrefixOf_iff_prefix, decide_eq_true_eq]
  cases l with
  | nil => simp
  | cons c l => simp [List.cons_prefix_cons, eq_comm]
theorem tail_iff (l : BL) : tailB l = true ↔ ∃ a, l = a ++ [47] := by
  unfold tailB
  rw [Bool.and_eq_true, decide_eq_true_eq, decide_eq_true_eq]
  rcases last_split 47 l with h | ⟨a, m, rfl, h⟩
  · rw [cst_no h]
    constructor
    · rintro ⟨h1, h2⟩; exact absurd h2 h1
    · rintro ⟨a, rfl⟩
      exact absurd rfl (h 47 (by simp))
  · rw [cst_split a m h]
    constructor
    · rintro ⟨_, h2⟩
      simp only [] at h2
      subst h2
      exact ⟨a, by simp⟩
    · rintro ⟨b, hb⟩
      refine ⟨by simp, ?_⟩
      rcases List.eq_nil_or_concat m with rfl | ⟨m', c, rfl⟩
      · rfl
      · exfalso
        have : c = 47 := by
          rw [List.concat_eq_append, ← List.append_assoc] at hb
          have h2 := List.append_inj_right' hb rfl
          simpa using h2
        exact h c (by simp) this
theorem hasSuffix_47 (l : BL) : Lib.hasSuffix l [47] = tailB l := by
  rw [Bool.eq_iff_iff, tail_iff]
  unfold Lib.hasSuffix
  rw [List.isSuffixOf_iff_suffix]
  constructor
  · rintro ⟨a, h⟩; exact ⟨a, h.symm⟩
  · rintro ⟨a, h⟩; exact ⟨a, h.symm⟩
theorem index_nul (l : BL) : (0 ≤ Lib.indexByte l 0) ↔ 0 ∈ l := by
  have hg := Lib.indexByte_ge l 0
  constructor
  · intro h
    obtain ⟨o, ho⟩ := Int.eq_ofNat_of_zero_le h
    exact List.mem_of_getElem? (Lib.indexByte_some ho).1
  · intro h
    by_cases h1 : Lib.indexByte l 0 = -1
    · obtain ⟨i, hi, e⟩ := List.getElem_of_mem h
      exact absurd (by rw [List.getElem?_eq_getElem hi, e]) (Lib.indexByte_none h1 i)
    · omega
theorem lastI_cases (l : BL) : (lastI l = -1 ∧ baseL l = l) ∨ ∃ i : Nat, lastI l = i ∧ i < l.length ∧ baseL l = l.drop (i + 1) := by
  have h := base_drop l
  obtain ⟨h1, h2⟩ := lastI_rng l
  by_cases e : lastI l = -1
  · left; rw [e] at h; exact ⟨e, h.symm⟩
  · right
    obtain ⟨i, hi⟩ := Int.eq_ofNat_of_zero_le (show 0 ≤ lastI l by omega)
    rw [hi] at h
    exact ⟨i, hi, by omega, by rw [← h]; congr 1⟩
theorem ba_nil (s : ByteArray) : s.toList.isEmpty = decide (s.data.toList = []) := by
  rw [Lib.toList_data]
  cases s.data.toList <;> rfl
theorem ba_append (a b : BL) : ba a ++ ba b = ba (a ++ b) := by
  apply ByteArray.ext
  apply Array.ext'
  simp [ba]
end Go.Proofs.Ytgclemicgcbpjaa
