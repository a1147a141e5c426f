/- More on slices of the call's own. No program is named. -/
import Derived.Test.YtgclemicgcbpjaaB2
import Derived.Test.YtgclemicgcbpjaaN
namespace Go.Proofs.Ytgclemicgcbpjaa
open Go.RowKit

theorem own_block {w : World} {base e size n : Nat} {v : Value} {xs : List Value} (h : w.ownsRow base e size v n xs) : v.ownBlock = none ∨ ∃ g, v.ownBlock = some g ∧ base ≤ g ∧ g < w.heap.size := by
  rcases h.2 with ⟨h1, _⟩ | ⟨g, cap, cur, rfl, hb, hg, _⟩
  · rw [h1]; exact .inl rfl
  · exact .inr ⟨g, rfl, hb, (Array.getElem?_eq_some_iff.1 hg).1⟩

theorem own_ne {w : World} {base e size n : Nat} {v : Value} {xs : List Value} (h : w.ownsRow base e size v n xs) {b : Nat} (hb : b < base ∨ w.heap.size ≤ b) : some b ≠ v.ownBlock := by
  rcases own_block h with h1 | ⟨g, h1, h2, h3⟩
  · rw [h1]; simp
  · rw [h1]; intro e; cases e; omega

theorem own_low {w : World} {base e size n B : Nat} {v : Value} {xs : List Value} (h : w.ownsRow base e size v n xs) (hb : B ≤ base) (k : Nat) (hk : v.ownBlock = some k) : B ≤ k := by
  rcases own_block h with h1 | ⟨g, h1, h2, h3⟩
  · rw [h1] at hk; cases hk
  · rw [h1] at hk; cases hk; omega

theorem own_open {w : World} {base e n : Nat} {v : Value} {xs : List Value} (h : w.ownsRow base e 1 v n xs) (hn : 0 < n) : ∃ G c, v = .slice (some ⟨G, 0, none⟩) n c ∧ n ≤ c ∧ base ≤ G ∧ G < w.heap.size ∧ c ≤ maxLen := by
  rcases h.2 with ⟨_, h0⟩ | ⟨g, cap, cur, rfl, hb, hg, hnc, hm, _⟩
  · omega
  · exact ⟨g, cap, rfl, hnc, hb, (Array.getElem?_eq_some_iff.1 hg).1, hm⟩

theorem own_setOther {w : World} {base e size n : Nat} {v : Value} {xs : List Value} (h : w.ownsRow base e size v n xs) {b o : Nat} (hne : some b ≠ v.ownBlock) (u : Value) : (w.setCell ⟨b, o, none⟩ u).ownsRow base e size v n xs := by
  refine ⟨h.1, ?_⟩
  rcases h.2 with hn | ⟨g, cap, cur, hv, hb, hg, r⟩
  · exact .inl hn
  · refine .inr ⟨g, cap, cur, hv, hb, ?_, r⟩
    have hgb : g ≠ b := by rintro rfl; rw [hv] at hne; exact hne rfl
    rw [heap_setCell_other w _ g u (by simpa using hgb)]
    exact hg

/-- A block of another type is not the slice's. -/
theorem own_row_ne {w : World} {base e n b T : Nat} {v : Value} {xs cs : List Value} (h : w.ownsRow base e 1 v n xs) (hr : Row w b T cs) (hT : T ≠ e) : some b ≠ v.ownBlock := by
  rcases h.2 with ⟨h1, _⟩ | ⟨g, cap, cur, rfl, hb, hg, _⟩
  · rw [h1]; exact fun e => by cases e
  · intro e1
    simp only [Value.ownBlock, Option.some.injEq] at e1
    subst e1
    have := hr.heap
    rw [hg] at this
    simp at this
    exact hT this.2.symm

theorem own_below {w w' : World} {base e size n : Nat} {v : Value} {xs : List Value} (h : w.ownsRow base e size v n xs) (hb : Below w.heap.size w w') : w'.ownsRow base e size v n xs := by
  refine ⟨h.1, ?_⟩
  rcases h.2 with hn | ⟨g, cap, cur, hv, hbg, hg, r⟩
  · exact .inl hn
  · exact .inr ⟨g, cap, cur, hv, hbg, by rw [hb.block g (Array.getElem?_eq_some_iff.1 hg).1]; exact hg, r⟩
theorem ones_one (k : IntKind) (x : Int) : ∀ u ∈ [Value.int k x], u.oneCell' = true := nums_one k [x]
theorem news_one (w : World) (v : Value) (T : TypeId) : ∀ j u, [v][j]? = some u → (w.alloc (.cells #[v] T)).cell? ((Addr.mk w.heap.size 0 none).add j) = some u := by
  intro j u hj
  match j, hj with
  | 0, hj =>
    have hj' : v = u := by simpa using hj
    subst hj'
    exact (Row.new w T [v]).cell 0 (by simp)
end Go.Proofs.Ytgclemicgcbpjaa
