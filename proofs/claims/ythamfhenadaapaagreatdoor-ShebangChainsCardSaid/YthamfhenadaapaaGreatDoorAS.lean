
/- append(v, l...) for lists of texts. -/
import Derived.Test.YthamfhenadaapaaGreatDoorKE
import Derived.Laws.AppendOwnNone
namespace Go.Proofs.YthamfhenadaapaaGreatDoor
open Go.RowKit Go.Sort

theorem wpList_appSS {w : World} {ops : Array Oper} {rest : List Oper} {o : Oper} {a : Act} {Q : Exit → Act → World → Prop} (hgd : o.guard = none) (s x : Operand)
    (ho : o.op = .call { callee := .builtin .append, args := #[s, x], argTypes := #[27, 27] })
    (base : Nat) (v : Value) (l1 l2 : List BL) (hs : a.eval s = v) (ad : Option Addr) (c : Nat) (hx : a.eval x = .slice ad l2.length c) (hown : OwnS w base v l1) (hy : Cel w ad l2.length (strs l2)) (hc : ad = none → c = 0) (hn : l1.length + l2.length ≤ 1000000) (hbase : base ≤ w.heap.size)
    (h : ∀ v' w' l3, l3 = l1 ++ l2 → OwnS w' base v' l3 → Below base w w' → wpList Tryz.prog ops Q rest (a.put o.dst v') w') :
    wpList Tryz.prog ops Q (o :: rest) a w := by
  obtain ⟨i0, hi0, hz0, hz1, hz2⟩ := info_parts infoS
  cases ad with
  | none =>
    obtain rfl : l2 = [] := by
      rcases l2 with _ | ⟨y, l⟩
      · rfl
      · obtain ⟨_, _, h, _⟩ := hy.some_of (by simp [strs]); cases h
    obtain rfl := hc rfl
    refine wpList_append_own_none hgd s x _ ho base _ i0 1 Tryz.underlying27 hi0 v l1.length _ hs hown hx ?_
    exact h v w _ rfl (by rw [List.append_nil]; exact hown) (Below.refl _ _)
  | some ad =>
    refine wpList_append_own w hgd s x _ ho base _ i0 _ 1 16 Tryz.underlying27 hi0 hz0 hz1 hz2 rfl (by omega) v l1.length _ hs hown ad l2.length c (strs l2) hx (by simp [strs]) hy.news (strsS_one l2) (by unfold maxLen; omega) (by omega) hbase ?_
    intro v' w' h1 h2 _
    refine h v' w' _ rfl (own_ext h1 (by simp) (by simp [strs])) ((Below.refl _ w).grown h2 hbase (fun k hk => (hown.lt k hk).1))
end Go.Proofs.YthamfhenadaapaaGreatDoor
