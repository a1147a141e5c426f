
/- Lists of texts inside a fence (as XYI, beside the texts of stage 6). -/
import Derived.Test.YtcbkikioapdbbaaDoorKE
import Derived.Test.YtcbkikioapdbbaaDoorRF
import Derived.Maps.OwnIn
namespace Go.Proofs.YtcbkikioapdbbaaDoor
open Go.RowKit Go.Sort Go.Shelf
attribute [local go_sem] Oper.semAt_some

theorem wpListIn_appS {F : Fence} {nF : Nat} {w : World} {ops : Array Oper} {rest : List Oper} {o : Oper} {a : Act} {Q : Exit → Act → World → Prop} (hgd : o.guard = none) (s x : Operand)
    (ho : o.op = .call { callee := .builtin .append, args := #[s, x], argTypes := #[23, 23] })
    (base : Nat) (v : Value) (ds : List BL) (t : ByteArray) (hs : a.eval s = v) (hx : a.eval x = .slice (some ⟨w.heap.size, 0, none⟩) 1 1) (hown : OwnS w base v ds) (hn : ds.length ≤ 8000000000000) (hbase : base ≤ w.heap.size)
    (h : ∀ v' w', w'.ownsRow base 9 1 v' (ds.length + 1) (strs (ds ++ [t.data.toList])) → (w.alloc (.cells #[.string t] 9)).grownBy w' v.ownBlock → Below base w w' → w.heap.size ≤ w'.heap.size → (v'.ownBlock = v.ownBlock ∨ v'.ownBlock = some (w.heap.size + 1)) → wpListIn F nF Tryd.prog ops Q rest (a.put o.dst v') w') :
    wpListIn F nF Tryd.prog ops Q (o :: rest) a (w.alloc (.cells #[.string t] 9)) := by
  obtain ⟨i0, hi, hz0, hz1, hz2⟩ := info_parts infoS
  refine wpListIn_append_own_at _ hgd s x 23 ho base 9 i0 (.string ByteArray.empty) 1 16 Tryd.underlying23 hi hz0 hz1 hz2 rfl (by decide) v ds.length (strs ds) hs (hown.alloc _) ⟨w.heap.size, 0, none⟩ 1 1 [.string t] hx rfl (news_one w (.string t) 9) (by intro u hu; rw [List.mem_singleton.1 hu]; rfl)
    (by unfold maxLen; omega) (by omega) (by simp only [World.size_alloc]; omega) ?_
  intro v' w' hown' hgrow _ hat
  refine h v' w' (own_ext hown' rfl (by rw [strsS_snoc]; rfl)) hgrow (((Below.refl _ w).alloc hbase _).grown hgrow (by simp only [World.size_alloc]; omega) (fun k hk => own_low hown (Nat.le_refl _) k hk)) (by have := hgrow.size; simp only [World.size_alloc] at this; omega) ?_
  rcases hat with h1 | h1
  · exact .inl h1
  · right; rw [h1]; simp

theorem own_isCells {w : World} {base e size n : Nat} {v : Value} {xs : List Value} (h : w.ownsRow base e size v n xs) (j : Nat) (o : Obj) (hj : v.ownBlock = some j) (ho : w.heap[j]? = some o) : o.isCells = true := by
  rcases h.2 with ⟨rfl, _⟩ | ⟨g, cap, cur, rfl, _, hg, _⟩
  · cases hj
  · cases hj; rw [hg] at ho; cases ho; rfl
theorem own_turnG {w w' : World} {base e size n : Nat} {v : Value} {xs : List Value} {row : Option Nat} (h : w.ownsRow base e size v n xs) (hg : w.grownBy w' row) (hr : ∀ r, row = some r → ∃ o : Obj, w.heap[r]? = some o ∧ o.isCells = false) : w'.ownsRow base e size v n xs := by
  refine h.kept hg ?_
  cases hv : v.ownBlock with
  | none => exact .inl rfl
  | some j =>
    right
    intro e
    obtain ⟨o, ho, hc⟩ := hr j e.symm
    rw [own_isCells h j o hv ho] at hc
    cases hc

/-- The call gives a fresh list of texts. -/
def OwnPost (w : World) (ds : List BL) (e : Ending) (w' : World) : Prop := ∃ v, e = .returned v ∧ OwnS w' w.heap.size v ds ∧ Below w.heap.size w w'
end Go.Proofs.YtcbkikioapdbbaaDoor
