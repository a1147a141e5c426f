/- One object more, behind and ahead. -/
import Derived.Test.YtblefgkhikfmhaaSyI
import Derived.Laws.AppendOwnNone
namespace Go.Proofs.Ytblefgkhikfmhaa
open Go.RowKit Go.Sort Go.Shelf

def shiftD (d : DF) : DF := ((d.1.1 + 1, d.1.2), d.2)
theorem defsOne_shift (i : Nat) (l : List SY) : defsOne (i + 1) l = (defsOne i l).map shiftD := by
  unfold defsOne; rw [List.map_map]; rfl
theorem flat_congr {α β : Type} {f g : α → List β} : ∀ {l : List α}, (∀ x ∈ l, f x = g x) → l.flatMap f = l.flatMap g
  | [], _ => rfl
  | x :: l, h => by
    rw [List.flatMap_cons, List.flatMap_cons, h x (List.mem_cons_self ..), flat_congr (fun y hy => h y (List.mem_cons_of_mem _ hy))]
theorem defsL_snoc (os : List OS) (o : OS) : defsL (os ++ [o]) = defsL os ++ defsOne os.length o.sy := by
  unfold defsL
  rw [List.length_append, List.length_singleton, List.range_succ, List.flatMap_append]
  congr 1
  · refine flat_congr fun i hi => ?_
    have := List.mem_range.1 hi
    rw [List.getD_eq_getElem?_getD, List.getElem?_append_left this, ← List.getD_eq_getElem?_getD]
  · simp
theorem defsL_cons (o : OS) (os : List OS) : defsL (o :: os) = defsOne 0 o.sy ++ (defsL os).map shiftD := by
  unfold defsL
  rw [List.length_cons, List.range_succ_eq_map, List.flatMap_cons]
  congr 1
  rw [List.flatMap_map, List.map_flatMap]
  refine flat_congr fun i _ => ?_
  rw [← defsOne_shift]
  rfl
def hitO (o : OS) (n : BL) : Option DF := (defsOne 0 o.sy).find? fun d => decide (d.2.name = n)
theorem hit_at {o : OS} {n : BL} {d : DF} (h : hitO o n = some d) : d.1.1 = 0 := (mem_defsOne (List.mem_of_find?_eq_some h)).1
theorem look_one (o : OS) (n : BL) : lookL [o] n = hitO o n := by
  unfold lookL hitO; rw [defsL_cons]; simp [defsL]
theorem look_ahead (o : OS) (os : List OS) (n : BL) : lookL (o :: os) n = (hitO o n).or ((lookL os n).map shiftD) := by
  unfold lookL hitO
  rw [defsL_cons, List.find?_append, List.find?_map]
  rfl
theorem look_behind {os : List OS} {o : OS} {n : BL} {d : DF} (h : lookL os n = some d) : lookL (os ++ [o]) n = some d := by
  unfold lookL at *
  rw [defsL_snoc, List.find?_append, h]; rfl
theorem look_behind_none {os : List OS} {o : OS} {n : BL} (h : lookL os n = none) (h2 : hitO o n = none) : lookL (os ++ [o]) n = none := by
  unfold lookL at *
  rw [defsL_snoc, List.find?_append, h]
  unfold hitO at h2
  rw [List.find?_eq_none] at h2
  simp only [Option.none_or]
  rw [List.find?_eq_none]
  intro x hx
  have h3 : ∀ j, x ∈ defsOne j o.sy → ∃ y ∈ defsOne 0 o.sy, y.2 = x.2 := by
    intro j hj
    unfold defsOne at hj ⊢
    obtain ⟨k, hk, rfl⟩ := List.mem_map.1 hj
    exact ⟨_, List.mem_map.2 ⟨k, hk, rfl⟩, rfl⟩
  obtain ⟨y, hy, e⟩ := h3 _ hx
  have := h2 y hy
  rwa [e] at this

theorem infoObj : (Try.prog.info? 44).map (fun i => (i.zero, i.size, i.bytes)) = some (some (.agg #[.int .i64 0, .int .u64 0, .int .u16 0, .int .u64 0, .int .u64 0, .slice none 0 0, .slice none 0 0, .string ByteArray.empty, .string ByteArray.empty, .slice none 0 0, .slice none 0 0]), 11, 168) := by kernel_rfl
theorem obC_one (l : List OB) : ∀ r ∈ l.map obC, ∀ u ∈ r, u.oneCell' = true := by
  intro r hr u hu
  obtain ⟨x, _, rfl⟩ := List.mem_map.1 hr
  simp only [obC, List.mem_cons, List.not_mem_nil, or_false] at hu
  rcases hu with rfl | rfl | rfl | rfl | rfl | rfl | rfl | rfl | rfl | rfl | rfl <;> rfl
theorem obC_len (l : List OB) : ∀ r ∈ l.map obC, r.length = 11 := by
  intro r hr
  obtain ⟨x, _, rfl⟩ := List.mem_map.1 hr
  rfl
abbrev OwnO (w : World) (base : Nat) (v : Value) (xs : List OB) : Prop := w.ownsRow base 44 11 v xs.length ((xs.map obC).flatten)
theorem ownO_nil (w : World) (base : Nat) : OwnO w base (.slice none 0 0) [] := World.ownsRow_nil _ _ _ _

/-- append(v, l...), l a list of objects. -/
theorem wpList_appO {w : World} {ops : Array Oper} {rest : List Oper} {o : Oper} {a : Act} {Q : Exit → Act → World → Prop} (hgd : o.guard = none) (s x : Operand)
    (ho : o.op = .call { callee := .builtin .append, args := #[s, x], argTypes := #[22, 22] })
    (base : Nat) (v : Value) (xs ys : List OB) (hs : a.eval s = v) (ad : Option Addr) (m c : Nat) (hx : a.eval x = .slice ad m c) (hown : OwnO w base v xs) (hy : Rk w 11 ad m (ys.map obC)) (hc : ad = none → c = 0) (hn : xs.length ≤ 1000000) (hm : m ≤ 1000000) (hbase : base ≤ w.heap.size)
    (h : ∀ v' w', OwnO w' base v' (xs ++ ys) → Below base w w' → wpList Try.prog ops Q rest (a.put o.dst v') w') :
    wpList Try.prog ops Q (o :: rest) a w := by
  have hm' : ys.length = m := by have := hy.hlen; simpa using this
  obtain ⟨i0, hi0, hz0, hz1, hz2⟩ := info_parts infoObj
  cases ad with
  | none =>
    obtain rfl : ys = [] := by
      cases ys with
      | nil => rfl
      | cons x l => obtain ⟨_, _, h, _⟩ := hy.some_of (by simp); cases h
    obtain rfl := hc rfl
    obtain rfl : m = 0 := hm'.symm
    refine wpList_append_own_none hgd s x _ ho base _ i0 11 Try.underlying22 hi0 v xs.length _ hs hown hx ?_
    exact h v w (by rw [List.append_nil]; exact hown) (Below.refl _ _)
  | some ad =>
    refine wpList_append_own w hgd s x _ ho base _ i0 _ 11 168 Try.underlying22 hi0 hz0 hz1 hz2 rfl (by omega) v xs.length _ hs hown ad m c ((ys.map obC).flatten) hx (by rw [flat_len (obC_len ys), List.length_map, hm']) (hy.news (by omega)) (rk_one (obC_one ys)) (by unfold maxLen; omega) (by omega) hbase ?_
    intro v' w' h1 h2 _
    refine h v' w' (own_ext h1 (by simp [hm']) (by simp)) ((Below.refl _ w).grown h2 hbase (fun k hk => (hown.lt k hk).1))
/-- An own list reads as objects. -/
theorem ownO_objs {w : World} {base n : Nat} {v : Value} {xs : List OB} (hn : xs.length = n) (h : OwnO w base v xs) (hs : ∀ x ∈ xs, Rk w 5 x.sa x.sn (x.sy.map syC)) : ∃ a c, v = .slice a n c ∧ Objs w a n xs ∧ (a = none → c = 0) := by
  subst hn
  obtain ⟨a, c, e, hr, hc, _⟩ := own_rk h (obC_len xs) (by omega)
  exact ⟨a, c, e, ⟨hr, hs⟩, hc⟩
theorem objs_one {w : World} {g : Nat} {x : OB} (h : Row w g 44 (obC x)) (hs : Rk w 5 x.sa x.sn (x.sy.map syC)) : Objs w (some ⟨g, 0, none⟩) 1 [x] := by
  refine ⟨?_, fun y hy => by rw [List.mem_singleton.1 hy]; exact hs⟩
  exact Row.rk (k := 11) (rows := [obC x]) (by simpa using h) (by intro r hr; rw [List.mem_singleton.1 hr]; rfl)
theorem ownO_one {w : World} {g base : Nat} {x : OB} (h : Row w g 44 (obC x)) (hb : base ≤ g) : OwnO w base (.slice (some ⟨g, 0, none⟩) 1 1) [x] := by
  exact ⟨rfl, .inr ⟨g, 1, (obC x).toArray, rfl, hb, h.heap, Nat.le_refl _, by decide, rfl, rfl⟩⟩
end Go.Proofs.Ytblefgkhikfmhaa
