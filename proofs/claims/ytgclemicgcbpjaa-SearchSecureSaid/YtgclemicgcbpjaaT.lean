/- Ranging over a string whose round may turn the world; texts cut at a byte. No program is named. -/
import Derived.Test.YtgclemicgcbpjaaB3
import Derived.Laws.RangeAny
namespace Go.Proofs.Ytgclemicgcbpjaa
open Go.RowKit

/-- The iterator at block g moved on. -/
def mvIter (w : World) (g : Nat) (s : ByteArray) (p : Nat) : World := { w with heap := w.heap.setIfInBounds g (.stringIter s p) }

theorem mvIter_at {w : World} {g : Nat} {s : ByteArray} {p : Nat} (q : Nat) (h : w.heap[g]? = some (.stringIter s p)) : (mvIter w g s q).heap[g]? = some (.stringIter s q) := by
  have := (Array.getElem?_eq_some_iff.1 h).1
  simp [mvIter, this]
theorem mvIter_other {w : World} {g b : Nat} {s : ByteArray} {q : Nat} (h : b ≠ g) : (mvIter w g s q).heap[b]? = w.heap[b]? := by
  simp [mvIter, Array.getElem?_setIfInBounds_ne (Ne.symm h)]
theorem mvIter_size (w : World) (g : Nat) (s : ByteArray) (q : Nat) : (mvIter w g s q).heap.size = w.heap.size := by simp [mvIter]
theorem mvIter_below {w w' : World} {B g : Nat} {s : ByteArray} (h : Below B w w') (hB : B ≤ g) (q : Nat) : Below B w (mvIter w' g s q) :=
  ⟨h.os, h.tape, h.output, by rw [mvIter_size]; exact h.size, fun k hk => by rw [mvIter_other (by omega)]; exact h.block k hk⟩
theorem mvIter_row {w : World} {g b : Nat} {s : ByteArray} {p : Nat} {T : TypeId} {cs : List Value} (h : Row w b T cs) (hg : w.heap[g]? = some (.stringIter s p)) (q : Nat) : Row (mvIter w g s q) b T cs :=
  ⟨by rw [mvIter_other (by rintro rfl; rw [h.heap] at hg; cases hg)]; exact h.heap⟩
theorem mvIter_own {w : World} {g base e size n : Nat} {s : ByteArray} {p : Nat} {v : Value} {xs : List Value} (h : w.ownsRow base e size v n xs) (hg : w.heap[g]? = some (.stringIter s p)) (q : Nat) : (mvIter w g s q).ownsRow base e size v n xs := by
  refine ⟨h.1, ?_⟩
  rcases h.2 with hn | ⟨b, cap, cur, hv, hbg, hb, r⟩
  · exact .inl hn
  · exact .inr ⟨b, cap, cur, hv, hbg, by rw [mvIter_other (by rintro rfl; rw [hb] at hg; cases hg)]; exact hb, r⟩

theorem run_next_at {P : Program} {w : World} {g : Nat} {s : ByteArray} {pos : Nat} (ty : TypeId) (hg : w.heap[g]? = some (.stringIter s pos)) (h : pos < s.size) :
    (Instr.next (.pointer (some ⟨g, 0, none⟩)) true ty).run P w = .ok (.tuple #[.bool true, .int .i64 pos, .int .i32 (Utf8.decode s pos).1]) (mvIter w g s (pos + (Utf8.decode s pos).2)) := by
  simp only [Instr.next, getObj, setObj, Sem.run_bind, Sem.run, hg, Result.andThen, h, if_true]
  simp [goInt, mvIter]
theorem run_next_no {P : Program} {w : World} {g : Nat} {s : ByteArray} {pos : Nat} (ty : TypeId) (hg : w.heap[g]? = some (.stringIter s pos)) (h : ¬ pos < s.size) :
    (Instr.next (.pointer (some ⟨g, 0, none⟩)) true ty).run P w = .ok (.tuple #[.bool false]) w := by
  simp [Instr.next, getObj, Sem.run, hg, h]

theorem cont_ne (c : UInt8) (h : c.toNat / 64 = 2) : c ≠ 47 := by
  rintro rfl
  revert h
  decide

theorem get_at' (s : ByteArray) (j : Nat) (h : j < s.size) : s.get! j = s[j]'h := by
  simp [ByteArray.get!, getElem!_pos, h]
  rfl

/-- What the next rune says of slashes. -/
theorem decode_47 (s : ByteArray) (k : Nat) (h : k < s.size) :
    (s[k] = 47 ∧ (Utf8.decode s k).1 = 47 ∧ (Utf8.decode s k).2 = 1) ∨ ((Utf8.decode s k).1 ≠ 47 ∧ 1 ≤ (Utf8.decode s k).2 ∧ k + (Utf8.decode s k).2 ≤ s.size ∧ ∀ j (hj : j < s.size), k ≤ j → j < k + (Utf8.decode s k).2 → s[j] ≠ 47) := by
  by_cases ha : (s[k]'h).toNat < 128
  · rw [decode_ascii s k h ha]
    by_cases h47 : s[k] = 47
    · left; rw [h47]; exact ⟨rfl, rfl, rfl⟩
    · right
      refine ⟨?_, by omega, by simp only []; omega, fun j hj h1 h2 => ?_⟩
      · intro e
        apply h47
        apply UInt8.toNat_inj.1
        simpa using e
      · simp only [] at h2
        obtain rfl : j = k := by omega
        exact h47
  · right
    have ha' : 128 ≤ (s[k]'h).toNat := by omega
    have hd := decode_high s k h ha'
    have hk47 : s[k] ≠ 47 := by intro e; rw [e] at ha'; revert ha'; decide
    refine ⟨by omega, hd.2, ?_⟩
    have key : ∀ n, ((Utf8.decode s k).2 = n) → (∀ i, 1 ≤ i → i < n → k + i < s.size ∧ (s.get! (k + i)).toNat / 64 = 2) → k + (Utf8.decode s k).2 ≤ s.size ∧ ∀ j (hj : j < s.size), k ≤ j → j < k + (Utf8.decode s k).2 → s[j] ≠ 47 := by
      intro n hn hi
      rw [hn]
      constructor
      · by_cases h1 : n ≤ 1
        · omega
        · have := (hi (n - 1) (by omega) (by omega)).1; omega
      · intro j hj h1 h2
        by_cases e : j = k
        · subst e; exact hk47
        · have := (hi (j - k) (by omega) (by omega)).2
          rw [show k + (j - k) = j by omega, get_at' s j hj] at this
          exact cont_ne _ this
    have hn : ¬ (s[k]'h).toNat < 128 := by omega
    have gk : s.get! (k + 0) = s[k]'h := get_at s k h
    have two : ∀ i n, 1 ≤ i → i < n → n ≤ 2 → i = 1 := by intros; omega
    have three : ∀ i n, 1 ≤ i → i < n → n ≤ 3 → i = 1 ∨ i = 2 := by intros; omega
    have four : ∀ i n, 1 ≤ i → i < n → n ≤ 4 → i = 1 ∨ i = 2 ∨ i = 3 := by intros; omega
    have one : ∀ i, 1 ≤ i → i < 1 → False := by intros; omega
    refine key _ rfl ?_
    unfold Utf8.decode
    simp only [gk, hn, if_false]
    split
    · rename_i hc
      simp only [Bool.and_eq_true, beq_iff_eq, decide_eq_true_eq] at hc
      split
      · intro i h1 h2
        obtain rfl := two i 2 h1 h2 (by omega)
        exact hc.2
      · intro i h1 h2; exact (one i h1 h2).elim
    · split
      · rename_i hc
        simp only [Bool.and_eq_true, beq_iff_eq, decide_eq_true_eq] at hc
        split
        · intro i h1 h2
          rcases three i 3 h1 h2 (by omega) with rfl | rfl
          · exact hc.1.2
          · exact hc.2
        · intro i h1 h2; exact (one i h1 h2).elim
      · split
        · rename_i hc
          simp only [Bool.and_eq_true, beq_iff_eq, decide_eq_true_eq] at hc
          split
          · intro i h1 h2
            rcases four i 4 h1 h2 (by omega) with rfl | rfl | rfl
            · exact hc.1.1.2
            · exact hc.1.2
            · exact hc.2
          · intro i h1 h2; exact (one i h1 h2).elim
        · intro i h1 h2; exact (one i h1 h2).elim

/-! Texts cut at a byte: what is done, and the piece at hand. -/
def cstep (x : UInt8) (st : List (List UInt8) × List UInt8) (c : UInt8) : List (List UInt8) × List UInt8 := if c = x then (st.1 ++ [st.2], []) else (st.1, st.2 ++ [c])
def cst (x : UInt8) (l : List UInt8) : List (List UInt8) × List UInt8 := l.foldl (cstep x) ([], [])
def cuts (x : UInt8) (l : List UInt8) : List (List UInt8) := (cst x l).1 ++ [(cst x l).2]
theorem cst_snoc (x : UInt8) (l : List UInt8) (c : UInt8) : cst x (l ++ [c]) = cstep x (cst x l) c := by simp [cst, List.foldl_append]
theorem cst_hit (x : UInt8) (l : List UInt8) : cst x (l ++ [x]) = ((cst x l).1 ++ [(cst x l).2], []) := by rw [cst_snoc]; simp [cstep]
theorem cst_miss (x : UInt8) (l m : List UInt8) (h : ∀ c ∈ m, c ≠ x) : cst x (l ++ m) = ((cst x l).1, (cst x l).2 ++ m) := by
  induction m generalizing l with
  | nil => simp
  | cons c m ih =>
    have e : l ++ c :: m = (l ++ [c]) ++ m := by simp
    rw [e, ih _ (fun d hd => h d (List.mem_cons_of_mem _ hd)), cst_snoc]
    have : cstep x (cst x l) c = ((cst x l).1, (cst x l).2 ++ [c]) := by unfold cstep; rw [if_neg (h c (List.mem_cons_self ..))]
    rw [this]
    simp
theorem cuts_hit (x : UInt8) (l : List UInt8) : cuts x (l ++ [x]) = cuts x l ++ [[]] := by unfold cuts; rw [cst_hit]
theorem cst_nil (x : UInt8) : cst x [] = ([], []) := rfl

/-- The text of some letters. -/
def ba (l : List UInt8) : ByteArray := ⟨l.toArray⟩
theorem ba_list (l : List UInt8) : (ba l).data.toList = l := rfl
theorem ba_size (l : List UInt8) : (ba l).size = l.length := by show l.toArray.size = _; simp
theorem ba_inj {l m : List UInt8} (h : ba l = ba m) : l = m := by rw [← ba_list l, h, ba_list]
theorem ba_of (s : ByteArray) : s = ba s.data.toList := rfl
theorem size_list (s : ByteArray) : s.data.toList.length = s.size := by simp
theorem ba_extract (s : ByteArray) (i j : Nat) : s.extract i j = ba ((s.data.toList.take j).drop i) := by
  apply ByteArray.ext
  apply Array.ext'
  show (s.extract i j).data.toList = _
  rw [ByteArray.data_extract]
  simp [ba, List.extract_eq_take_drop, List.drop_take]
end Go.Proofs.Ytgclemicgcbpjaa
