/- Appending to a slice of the call's own: what becomes of the old one. No program is named. -/
import Derived.Test.YtgclemicgcbpjaaB
import Derived.ArgAppend
namespace Go.Proofs.Ytgclemicgcbpjaa
open Go.RowKit

/-- 'append' to a slice of the call's own: the new one holds all; the old one reads as it did; what else has turned. -/
theorem wpList_append_keep {P : Program} (w : World) {ops : Array Oper} {rest : List Oper} {o : Oper} {a : Act} {Q : Exit → Act → World → Prop} (hgd : o.guard = none) (s x : Operand) (t : TypeId)
    (ho : o.op = .call { callee := .builtin .append, args := #[s, x], argTypes := #[t, t] })
    (base : Nat) (e : TypeId) (i : TypeInfo) (z : Value) (size bytes : Nat) (ht : P.underlying t = some (.slice e)) (hi : P.info? e = some i) (hz : i.zero = some z)
    (hsize : i.size = size) (hby : i.bytes = bytes) (hzs : z.cells.size = size) (hsz : 0 < size)
    (v : Value) (n : Nat) (xs : List Value) (hs : a.eval s = v) (hown : w.ownsRow base e size v n xs)
    (ad : Addr) (m c : Nat) (news : List Value) (hx : a.eval x = .slice (some ad) m c) (hl : news.length = m * size) (hm : 0 < m) (hnews : ∀ j u, news[j]? = some u → w.cell? (ad.add j) = some u) (h1 : ∀ u ∈ news, u.oneCell' = true)
    (h63 : n + m ≤ maxLen) (hbytes : (n + m) * bytes ≤ 140737488355328) (hbase : base ≤ w.heap.size)
    (h : ∀ v' w', w'.ownsRow base e size v' (n + m) (xs ++ news) → w.grownBy w' v.ownBlock → w'.ownsRow base e size v n xs → ((v'.ownBlock = v.ownBlock ∧ v.ownBlock ≠ none) ∨ (w.grownBy w' none ∧ ∃ g, v'.ownBlock = some g ∧ w.heap.size ≤ g)) →
      wpList P ops Q rest (a.put o.dst v') w') : wpList P ops Q (o :: rest) a w := by
  have grows : ∀ (ao : Option Addr) (cap : Nat), v = .slice ao n cap → (ao = none → n = 0 ∧ cap = 0) → xs.length = n * size → (∀ b, ao = some b → ∀ j u, xs[j]? = some u → w.cell? (b.add j) = some u) → cap < n + m → wpList P ops Q (o :: rest) a w := by
    intro ao cap hv hnone hlo holds hfull
    refine wpList_append_grows w hgd s x t ho e i z size bytes ht hi hz hsize hby hzs hsz ao n cap xs (hs.trans hv) hnone hlo holds ad m c news hx hl hnews h1 hfull h63 hbytes ?_
    intro v' w' hown' hgr
    have hown2 : w'.ownsRow base e size v' (n + m) (xs ++ news) := by
      refine ⟨hown'.1, ?_⟩
      rcases hown'.2 with ⟨h1', h2'⟩ | ⟨g, cap', cur, hv', hb, r⟩
      · exact .inl ⟨h1', h2'⟩
      · exact .inr ⟨g, cap', cur, hv', Nat.le_trans hbase hb, r⟩
    refine h v' w' hown2 ⟨hgr.os, hgr.tape, hgr.output, hgr.size, fun k hk _ => hgr.block k hk (by simp)⟩ (hown.kept hgr (by
      cases hob : v.ownBlock with
      | none => exact .inl rfl
      | some k => exact .inr (by simp))) (.inr ⟨hgr, ?_⟩)
    rcases hown'.2 with ⟨h1', h2'⟩ | ⟨g, cap', cur, hv', hb, r⟩
    · omega
    · exact ⟨g, by rw [hv']; rfl, hb⟩
  rcases hown.2 with ⟨hv, hn0⟩ | ⟨g, cap, cur, hv, hb, hg, hnc, hcm, hcs, htake⟩
  · exact grows none 0 (by rw [hv, hn0]) (fun _ => ⟨hn0, rfl⟩) hown.1 (fun b hb => by cases hb) (by omega)
  · by_cases hfit : n + m ≤ cap
    · have hown1 := hown
      rw [hv] at hown1
      refine wpList_append_fits w hgd s x t ho base e i size ht hi hsize g n cap xs (hs.trans hv) hown1 ad m c news hx hl hnews h1 hfit ?_
      intro w' hown' hgr
      have hob : v.ownBlock = some g := by rw [hv]; rfl
      refine h _ w' hown' (by rw [hob]; exact hgr) ?_ (.inl ⟨by rw [hob]; rfl, by rw [hob]; simp⟩)
      rcases hown'.2 with ⟨h1', _⟩ | ⟨g', cap', cur', hv', hb', hg', hnc', hcm', hcs', htake'⟩
      · cases h1'
      · simp only [Value.slice.injEq, Option.some.injEq, Addr.mk.injEq, and_true, true_and] at hv'
        obtain ⟨rfl, rfl⟩ := hv'
        refine ⟨hown.1, .inr ⟨g, cap, cur', hv, hb, hg', hnc, hcm, hcs', ?_⟩⟩
        have e1 : cur'.toList.take (n * size) = (cur'.toList.take ((n + m) * size)).take (n * size) := by
          rw [List.take_take, Nat.min_eq_left (Nat.mul_le_mul_right _ (by omega))]
        rw [e1, htake', List.take_append_of_le_length (by rw [hown.1]; exact Nat.le_refl _), List.take_of_length_le (by rw [hown.1]; exact Nat.le_refl _)]
    · refine grows (some ⟨g, 0, none⟩) cap hv (fun h => by cases h) hown.1 (fun b hb' j u hj => ?_) (by omega)
      cases hb'
      have hj' : j < n * size := by rw [← hown.1]; exact (List.getElem?_eq_some_iff.1 hj).1
      have hc := cell_of_row w g j cur e (0, 0) hg
      have e2 : (Addr.mk g 0 none).add j = ⟨g, j, none⟩ := by
        unfold Addr.add
        split
        · subst_vars; rfl
        · simp
      rw [e2, hc]
      rw [← htake, List.getElem?_take, if_pos hj'] at hj
      simpa using hj

theorem own_ext {w : World} {base e size n n' : Nat} {v : Value} {xs xs' : List Value} (h : w.ownsRow base e size v n xs) (hn : n = n') (hx : xs = xs') : w.ownsRow base e size v n' xs' := by
  subst hn; subst hx; exact h

/-- A store below base leaves what is owned from base on. -/
theorem own_setLow {w : World} {base e size n : Nat} {v : Value} {xs : List Value} (h : w.ownsRow base e size v n xs) {b o : Nat} (ha : b < base) (u : Value) : (w.setCell ⟨b, o, none⟩ u).ownsRow base e size v n xs :=
  ownsRow_setCell_below h ha u
theorem own_from {w : World} {base base' e size n : Nat} {v : Value} {xs : List Value} (h : w.ownsRow base e size v n xs) (hb : base' ≤ base) : w.ownsRow base' e size v n xs := by
  refine ⟨h.1, ?_⟩
  rcases h.2 with hn | ⟨g, cap, cur, hv, hbg, r⟩
  · exact .inl hn
  · exact .inr ⟨g, cap, cur, hv, Nat.le_trans hb hbg, r⟩
/-- A store into a block of one's own. -/
theorem bset {w w' : World} {B : Nat} (h : Below B w w') {b o : Nat} (hb : B ≤ b) (u : Value) : Below B w (w'.setCell ⟨b, o, none⟩ u) := h.setCell (p := ⟨b, o, none⟩) hb u
end Go.Proofs.Ytgclemicgcbpjaa
