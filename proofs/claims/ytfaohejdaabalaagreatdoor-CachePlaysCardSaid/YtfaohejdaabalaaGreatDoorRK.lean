
/- Rows of elements of k cells each, that lie in memory. No program is named. -/
import Derived.Test.YtfaohejdaabalaaGreatDoorKA
import Derived.Maps.AppendAt
namespace Go.Proofs.YtfaohejdaabalaaGreatDoor
open Go.ChangeShapes Go.WideShapes Go.ChangeAt Go.RowKit Go.Sort

structure Rk (w : World) (k : Nat) (a : Option Addr) (len : Nat) (rows : List (List Value)) : Prop where
  hlen : rows.length = len
  row : ∀ i (h : i < rows.length), rows[i].length = k ∧ ∃ b off, a = some ⟨b, off, none⟩ ∧ ∀ j (hj : j < rows[i].length), w.cell? ⟨b, off + i * k + j, none⟩ = some rows[i][j]

theorem Rk.nil (w : World) (k : Nat) (a : Option Addr) : Rk w k a 0 [] := ⟨rfl, fun i h => by simp at h⟩
theorem Rk.below' {w w' : World} {k : Nat} {a : Option Addr} {len : Nat} {rows : List (List Value)} (h : Rk w k a len rows) (hb : Below w.heap.size w w') : Rk w' k a len rows :=
  ⟨h.hlen, fun i hi => by
    obtain ⟨h1, b, off, e, hc⟩ := h.row i hi
    exact ⟨h1, b, off, e, fun j hj => keepC hb (hc j hj)⟩⟩
theorem Rk.some_of {w : World} {k : Nat} {a : Option Addr} {len : Nat} {rows : List (List Value)} (h : Rk w k a len rows) (hl : 0 < rows.length) :
    ∃ b off, a = some ⟨b, off, none⟩ ∧ ∀ i (hi : i < rows.length) j (hj : j < rows[i].length), w.cell? ⟨b, off + i * k + j, none⟩ = some rows[i][j] := by
  obtain ⟨_, b, off, rfl, _⟩ := h.row 0 hl
  refine ⟨b, off, rfl, fun i hi j hj => ?_⟩
  obtain ⟨_, b', off', e, hc⟩ := h.row i hi
  cases e
  exact hc j hj
theorem Rk.klen {w : World} {k : Nat} {a : Option Addr} {len : Nat} {rows : List (List Value)} (h : Rk w k a len rows) {i : Nat} (hi : i < rows.length) : rows[i].length = k := (h.row i hi).1
/-- Where nothing of an elder world has turned. -/
theorem Rk.old {w0 w w' : World} {k : Nat} {a : Option Addr} {n B : Nat} {rows : List (List Value)} (h0 : Rk w0 k a n rows) (h : Rk w k a n rows) (hk : 0 < k) (hB : w0.heap.size ≤ B) (hb : Below B w w') : Rk w' k a n rows :=
  ⟨h.hlen, fun i hi => by
    obtain ⟨h1, b, off, e, hc⟩ := h.row i hi
    obtain ⟨_, b0, off0, e0, hc0⟩ := h0.row i hi
    rw [e] at e0; cases e0
    have hlt := World.block_lt_of_cell? w0 _ (hc0 0 (by omega))
    refine ⟨h1, b, off, e, fun j hj => ?_⟩
    rw [hb.cell (p := ⟨b, off + i * k + j, none⟩) (by simp only at hlt ⊢; omega)]
    exact hc j hj⟩
theorem Rk.prefix {w : World} {k : Nat} {a : Option Addr} {len n : Nat} {rows : List (List Value)} (h : Rk w k a len rows) (hn : n ≤ len) : Rk w k a n (rows.take n) :=
  ⟨by have := h.hlen; simp; omega, fun i hi => by
    have hi' : i < rows.length := by simp at hi; omega
    have e9 : (rows.take n)[i] = rows[i] := by simp
    rw [e9]
    exact h.row i hi'⟩

theorem flat_at {k : Nat} : ∀ {rows : List (List Value)} (_ : ∀ r ∈ rows, r.length = k) {i : Nat} (hi : i < rows.length) {j : Nat} (hj : j < rows[i].length), rows.flatten[i * k + j]? = some rows[i][j]
  | [], _, i, hi, _, _ => by simp at hi
  | r :: rows, hk, 0, _, j, hj => by
    simp only [List.getElem_cons_zero] at hj ⊢
    rw [List.flatten_cons, Nat.zero_mul, Nat.zero_add, List.getElem?_append_left hj, List.getElem?_eq_getElem hj]
  | r :: rows, hk, i + 1, hi, j, hj => by
    have hr := hk r (List.mem_cons_self ..)
    have hi' : i < rows.length := by simpa using hi
    have ih := flat_at (fun x hx => hk x (List.mem_cons_of_mem _ hx)) hi' (j := j) (by simpa using hj)
    rw [List.flatten_cons, List.getElem?_append_right (by rw [hr, Nat.succ_mul]; omega), hr]
    have e : (i + 1) * k + j - k = i * k + j := by rw [Nat.succ_mul]; omega
    rw [e]
    simpa using ih
theorem flat_len {k : Nat} : ∀ {rows : List (List Value)} (_ : ∀ r ∈ rows, r.length = k), rows.flatten.length = rows.length * k
  | [], _ => by simp
  | r :: rows, hk => by
    rw [List.flatten_cons, List.length_append, flat_len (fun x hx => hk x (List.mem_cons_of_mem _ hx)), hk r (List.mem_cons_self ..), List.length_cons, Nat.succ_mul, Nat.add_comm]

/-- What is owned reads as rows. -/
theorem own_rk {w : World} {base n k : Nat} {E : TypeId} {v : Value} {rows : List (List Value)} (h : w.ownsRow base E k v n rows.flatten) (hk : ∀ r ∈ rows, r.length = k) (hpos : 0 < k) :
    ∃ a cap, v = .slice a n cap ∧ Rk w k a n rows ∧ (a = none → cap = 0) ∧ n ≤ cap ∧ cap ≤ maxLen ∧ ∀ b, a = some b → ∃ G, b = ⟨G, 0, none⟩ ∧ base ≤ G ∧ G < w.heap.size := by
  have hl : rows.length = n := by
    have := h.1
    rw [flat_len hk] at this
    exact Nat.eq_of_mul_eq_mul_right hpos this
  rcases h.2 with ⟨rfl, h0⟩ | ⟨g, cap, cur, rfl, hb, hg, hnc, hcm, hcs, htake⟩
  · subst h0
    obtain rfl := List.length_eq_zero_iff.1 hl
    exact ⟨none, 0, rfl, Rk.nil _ _ _, fun _ => rfl, Nat.le_refl _, by simp [maxLen], fun b h => by cases h⟩
  · refine ⟨some ⟨g, 0, none⟩, cap, rfl, ⟨hl, fun i hi => ⟨hk _ (List.getElem_mem hi), g, 0, rfl, fun j hj => ?_⟩⟩, (fun h => by cases h), hnc, hcm, fun b hb' => ?_⟩
    · have hjk : j < k := by have := hk _ (List.getElem_mem hi); omega
      have hlt : i * k + j < n * k := by
        have h1 : i + 1 ≤ n := by omega
        have h2 := Nat.mul_le_mul_right k h1
        rw [Nat.succ_mul] at h2
        omega
      have hc := h.cellAt (i * k + j) hlt
      rw [Nat.zero_add, hc, flat_at hk hi hj]
    · cases hb'
      exact ⟨g, rfl, hb, (Array.getElem?_eq_some_iff.1 hg).1⟩
theorem rk_one {rows : List (List Value)} (h : ∀ r ∈ rows, ∀ u ∈ r, u.oneCell' = true) : ∀ u ∈ rows.flatten, u.oneCell' = true := by
  intro u hu
  obtain ⟨r, hr, hu2⟩ := List.mem_flatten.1 hu
  exact h r hr u hu2
/-- Rows at an address: what an append takes in. -/
theorem Rk.news {w : World} {k : Nat} {ad : Addr} {len : Nat} {rows : List (List Value)} (h : Rk w k (some ad) len rows) (hpos : 0 < k) : ∀ j u, rows.flatten[j]? = some u → w.cell? (ad.add j) = some u := by
  intro j u hj
  have hk : ∀ r ∈ rows, r.length = k := fun r hr => by
    obtain ⟨i, hi, rfl⟩ := List.getElem_of_mem hr
    exact h.klen hi
  have hjl := (List.getElem?_eq_some_iff.1 hj).1
  rw [flat_len hk] at hjl
  have hi : j / k < rows.length := (Nat.div_lt_iff_lt_mul hpos).2 hjl
  have hjm : j % k < rows[j / k].length := by rw [h.klen hi]; exact Nat.mod_lt _ hpos
  have e : j / k * k + j % k = j := by have := Nat.div_add_mod j k; rw [Nat.mul_comm] at this; exact this
  have h1 := flat_at hk hi hjm
  rw [e, hj] at h1
  obtain ⟨_, b, off, e2, hc⟩ := h.row _ hi
  cases e2
  have h2 := hc _ hjm
  rw [show off + j / k * k + j % k = off + j by omega] at h2
  rw [← Option.some.inj h1] at h2
  unfold Addr.add
  by_cases e0 : j = 0
  · subst e0; simpa using h2
  · simpa [e0] using h2
end Go.Proofs.YtfaohejdaabalaaGreatDoor
