
/- append to a list of the call's own, elements of one cell or of k cells, of any type. No program is named. -/
import Derived.Test.YtfaohejdaabalaaGreatDoorRK
import Derived.Laws.AppendOwnNone
namespace Go.Proofs.YtfaohejdaabalaaGreatDoor
open Go.RowKit Go.Sort

/-- append(v, l...), elements of one cell. -/
theorem wpList_ap1 {P : Program} {tS tE : TypeId} {bytes : Nat} {z : Value} (hund : P.underlying tS = some (.slice tE)) (hinfo : (P.info? tE).map (fun i => (i.zero, i.size, i.bytes)) = some (some z, 1, bytes)) (hzc : z.cells.size = 1)
    {w : World} {ops : Array Oper} {rest : List Oper} {o : Oper} {a : Act} {Q : Exit → Act → World → Prop} (hgd : o.guard = none) (s x : Operand)
    (ho : o.op = .call { callee := .builtin .append, args := #[s, x], argTypes := #[tS, tS] })
    (base : Nat) (v : Value) (n : Nat) (xs news : List Value) (hs : a.eval s = v) (ad : Option Addr) (m c : Nat) (hx : a.eval x = .slice ad m c) (hown : w.ownsRow base tE 1 v n xs) (hy : Cel w ad m news) (hone : ∀ u ∈ news, u.oneCell' = true) (hc : ad = none → c = 0) (hn : (n + m) * bytes ≤ 140737488355328) (hm : n + m ≤ maxLen) (hbase : base ≤ w.heap.size)
    (h : ∀ v' w', w'.ownsRow base tE 1 v' (n + m) (xs ++ news) → w.grownBy w' v.ownBlock → Below base w w' → wpList P ops Q rest (a.put o.dst v') w') :
    wpList P ops Q (o :: rest) a w := by
  have hm' : news.length = m := hy.hlen
  obtain ⟨i0, hi0, hz0, hz1, hz2⟩ := info_parts hinfo
  cases ad with
  | none =>
    obtain rfl : news = [] := by
      cases news with
      | nil => rfl
      | cons x l => obtain ⟨_, _, h, _⟩ := hy.some_of (by simp); cases h
    obtain rfl := hc rfl
    obtain rfl : m = 0 := hm'.symm
    refine wpList_append_own_none hgd s x _ ho base _ i0 1 hund hi0 v n _ hs hown hx ?_
    exact h v w (by rw [List.append_nil]; exact hown) (World.grownBy.refl w _) (Below.refl _ _)
  | some ad =>
    refine wpList_append_own w hgd s x _ ho base _ i0 _ 1 bytes hund hi0 hz0 hz1 hz2 hzc (by decide) v n _ hs hown ad m c news hx (by omega) hy.news hone hm hn hbase ?_
    intro v' w' h1 h2 _
    refine h v' w' h1 h2 (((Below.refl _ w).grown h2 hbase (fun k hk => (hown.lt k hk).1)))

abbrev OwnK2 (w : World) (base : Nat) (E : TypeId) (k : Nat) (v : Value) (rows : List (List Value)) : Prop := w.ownsRow base E k v rows.length rows.flatten
/-- append(v, l...), elements of k cells. -/
theorem wpList_apK {P : Program} {tS tE : TypeId} {k bytes : Nat} {z : Value} (hund : P.underlying tS = some (.slice tE)) (hinfo : (P.info? tE).map (fun i => (i.zero, i.size, i.bytes)) = some (some z, k, bytes)) (hzc : z.cells.size = k) (hkp : 0 < k)
    {w : World} {ops : Array Oper} {rest : List Oper} {o : Oper} {a : Act} {Q : Exit → Act → World → Prop} (hgd : o.guard = none) (s x : Operand)
    (ho : o.op = .call { callee := .builtin .append, args := #[s, x], argTypes := #[tS, tS] })
    (base : Nat) (v : Value) (n : Nat) (rows news : List (List Value)) (hs : a.eval s = v) (ad : Option Addr) (m c : Nat) (hx : a.eval x = .slice ad m c) (hown : w.ownsRow base tE k v n rows.flatten) (hy : Rk w k ad m news) (hone : ∀ r ∈ news, ∀ u ∈ r, u.oneCell' = true) (hc : ad = none → c = 0) (hn : (n + m) * bytes ≤ 140737488355328) (hm : n + m ≤ maxLen) (hbase : base ≤ w.heap.size)
    (h : ∀ v' w', w'.ownsRow base tE k v' (n + m) (rows ++ news).flatten → w.grownBy w' v.ownBlock → Below base w w' → wpList P ops Q rest (a.put o.dst v') w') :
    wpList P ops Q (o :: rest) a w := by
  have hm' : news.length = m := hy.hlen
  obtain ⟨i0, hi0, hz0, hz1, hz2⟩ := info_parts hinfo
  cases ad with
  | none =>
    obtain rfl : news = [] := by
      cases news with
      | nil => rfl
      | cons x l => obtain ⟨_, _, h, _⟩ := hy.some_of (by simp); cases h
    obtain rfl := hc rfl
    obtain rfl : m = 0 := hm'.symm
    refine wpList_append_own_none hgd s x _ ho base _ i0 k hund hi0 v n _ hs hown hx ?_
    exact h v w (by rw [List.append_nil]; exact hown) (World.grownBy.refl w _) (Below.refl _ _)
  | some ad =>
    have hk : ∀ r ∈ news, r.length = k := fun r hr => by
      obtain ⟨i, hi, rfl⟩ := List.getElem_of_mem hr
      exact hy.klen hi
    refine wpList_append_own w hgd s x _ ho base _ i0 _ k bytes hund hi0 hz0 hz1 hz2 hzc hkp v n _ hs hown ad m c news.flatten hx (by rw [flat_len hk, hm']) (hy.news hkp) (rk_one hone) hm hn hbase ?_
    intro v' w' h1 h2 _
    refine h v' w' (own_ext h1 rfl (by simp)) h2 (((Below.refl _ w).grown h2 hbase (fun k hk => (hown.lt k hk).1)))

/-- A new block as a list. -/
theorem Row.cel {w : World} {g : Nat} {E : TypeId} {cs rest : List Value} (h : Row w g E (cs ++ rest)) : Cel w (some ⟨g, 0, none⟩) cs.length cs :=
  ⟨rfl, fun i hi => ⟨g, 0, rfl, by rw [Nat.zero_add, h.cell i (by simp; omega), List.getElem_append_left hi]⟩⟩
theorem cel_one (w : World) (E : TypeId) (v : Value) : Cel (w.alloc (.cells #[v] E)) (some ⟨w.heap.size, 0, none⟩) 1 [v] := Row.cel (cs := [v]) (rest := []) (Row.new w E [v])
theorem rk_new (w : World) (E : TypeId) {k : Nat} (cs : List Value) (hk : cs.length = k) : Rk (w.alloc (.cells cs.toArray E)) k (some ⟨w.heap.size, 0, none⟩) 1 [cs] :=
  ⟨rfl, fun i hi => by
    obtain rfl : i = 0 := by simp at hi; omega
    refine ⟨hk, w.heap.size, 0, rfl, fun j hj => ?_⟩
    have := (Row.new w E cs).cell j hj
    rw [Nat.zero_mul, Nat.zero_add]; exact this⟩
end Go.Proofs.YtfaohejdaabalaaGreatDoor
