/- Regions in memory: five cells each. No program is named. -/
import Derived.Test.YtcafmhhfnleanaaC
import Derived.Test.YtcafmhhfnleanaaQ
import Derived.Laws.StructEq
import Derived.Maps.AppendAt
namespace Go.Proofs.Ytcafmhhfnleanaa
open Go.RowKit Go.Sort

structure RG where
  fr : Int
  to : Int
  pr : Int
  ino : Int
  off : Int
theorem RG.same {x y : RG} (h0 : x.fr = y.fr) (h1 : x.to = y.to) (h2 : x.pr = y.pr) (h3 : x.ino = y.ino) (h4 : x.off = y.off) : x = y := by
  cases x; cases y; simp_all
theorem b2a {w : World} (o1 o2 : Obj) : Below w.heap.size w ((w.alloc o1).alloc o2) := (bal o1).alloc (by simp) o2
theorem bal2 {w w' : World} (h : Below w.heap.size w w') (o : Obj) : Below w.heap.size w (w'.alloc o) := bthen h (bal o)
instance : Inhabited RG := ⟨⟨0, 0, 0, 0, 0⟩⟩
def rg0 : RG := ⟨0, 0, 0, 0, 0⟩
abbrev rgV (x : RG) : Value := .agg #[.int .u64 x.fr, .int .u64 x.to, .int .u8 x.pr, .int .i64 x.ino, .int .u64 x.off]
def rgc (x : RG) : List Value := [.int .u64 x.fr, .int .u64 x.to, .int .u8 x.pr, .int .i64 x.ino, .int .u64 x.off]
structure RGok (x : RG) : Prop where
  f0 : 0 ≤ x.fr
  f1 : x.fr ≤ 18446744073709551615
  t0 : 0 ≤ x.to
  t1 : x.to ≤ 18446744073709551615
  p0 : 0 ≤ x.pr
  p1 : x.pr ≤ 255
  i0 : -9223372036854775808 ≤ x.ino
  i1 : x.ino ≤ 9223372036854775807
  o0 : 0 ≤ x.off
  o1 : x.off ≤ 18446744073709551615
def rgCells (w : World) (b o : Nat) (x : RG) : Prop :=
  w.cell? ⟨b, o, none⟩ = some (.int .u64 x.fr) ∧ w.cell? ⟨b, o + 1, none⟩ = some (.int .u64 x.to) ∧ w.cell? ⟨b, o + 2, none⟩ = some (.int .u8 x.pr) ∧ w.cell? ⟨b, o + 3, none⟩ = some (.int .i64 x.ino) ∧ w.cell? ⟨b, o + 4, none⟩ = some (.int .u64 x.off)
theorem rgCells.below {w w' : World} {b o : Nat} {x : RG} (h : rgCells w b o x) (hb : Below w.heap.size w w') : rgCells w' b o x :=
  ⟨keepC hb h.1, keepC hb h.2.1, keepC hb h.2.2.1, keepC hb h.2.2.2.1, keepC hb h.2.2.2.2⟩
theorem rgCells.lt {w : World} {b o : Nat} {x : RG} (h : rgCells w b o x) : b < w.heap.size := World.block_lt_of_cell? w _ h.1
theorem Row.rg {w : World} {g : Nat} {E : TypeId} {x : RG} (h : Row w g E (rgc x)) : rgCells w g 0 x :=
  ⟨h.cell 0 (by simp [rgc]), h.cell 1 (by simp [rgc]), h.cell 2 (by simp [rgc]), h.cell 3 (by simp [rgc]), h.cell 4 (by simp [rgc])⟩
/-- The five cells, at their own places. -/
theorem Row.c5 {w : World} {g : Nat} {E : TypeId} {x : RG} (h : Row w g E (rgc x)) : w.cell? ⟨g, 0, none⟩ = some (.int .u64 x.fr) ∧ w.cell? ⟨g, 1, none⟩ = some (.int .u64 x.to) ∧ w.cell? ⟨g, 2, none⟩ = some (.int .u8 x.pr) ∧ w.cell? ⟨g, 3, none⟩ = some (.int .i64 x.ino) ∧ w.cell? ⟨g, 4, none⟩ = some (.int .u64 x.off) :=
  ⟨h.cell 0 (by simp [rgc]), h.cell 1 (by simp [rgc]), h.cell 2 (by simp [rgc]), h.cell 3 (by simp [rgc]), h.cell 4 (by simp [rgc])⟩
theorem Row.put {w : World} {g : Nat} {E : TypeId} {x : RG} (h : Row w g E (rgc x)) (y : RG) :
    Row (((((w.setCell ⟨g, 0, none⟩ (.int .u64 y.fr)).setCell ⟨g, 1, none⟩ (.int .u64 y.to)).setCell ⟨g, 2, none⟩ (.int .u8 y.pr)).setCell ⟨g, 3, none⟩ (.int .i64 y.ino)).setCell ⟨g, 4, none⟩ (.int .u64 y.off)) g E (rgc y) := by
  have := ((((h.set 0 (.int .u64 y.fr)).set 1 (.int .u64 y.to)).set 2 (.int .u8 y.pr)).set 3 (.int .i64 y.ino)).set 4 (.int .u64 y.off)
  simpa [rgc] using this
theorem new_rg (w : World) (E : TypeId) (x : RG) : rgCells (w.alloc (.cells #[.int .u64 x.fr, .int .u64 x.to, .int .u8 x.pr, .int .i64 x.ino, .int .u64 x.off] E)) w.heap.size 0 x :=
  Row.rg (Row.new w E (rgc x))

def flat5 (l : List RG) : List Value := l.flatMap rgc
theorem flat5_cons (s : RG) (l : List RG) : flat5 (s :: l) = rgc s ++ flat5 l := rfl
theorem flat5_app (a b : List RG) : flat5 (a ++ b) = flat5 a ++ flat5 b := by simp [flat5]
theorem flat5_one (x : RG) : flat5 [x] = rgc x := by simp [flat5]
theorem flat5_len (l : List RG) : (flat5 l).length = l.length * 5 := by
  induction l with
  | nil => rfl
  | cons s l ih => rw [flat5_cons, List.length_append, ih]; simp [rgc]; omega
theorem flat5_at (l : List RG) (k j : Nat) (h : k < l.length) (hj : j < 5) : (flat5 l)[k * 5 + j]? = (rgc l[k])[j]? := by
  have e : l = l.take k ++ (l[k] :: l.drop (k + 1)) := by simp
  have e2 : flat5 l = flat5 (l.take k) ++ (rgc l[k] ++ flat5 (l.drop (k + 1))) := by
    calc flat5 l = flat5 (l.take k ++ (l[k] :: l.drop (k + 1))) := by rw [← e]
      _ = _ := by rw [flat5_app, flat5_cons]
  rw [e2]
  have hl : (flat5 (l.take k)).length = k * 5 := by rw [flat5_len]; simp; omega
  rw [List.getElem?_append_right (by omega), hl, List.getElem?_append_left (by simp [rgc]; omega)]
  congr 1
  omega
theorem flat5_one' (l : List RG) : ∀ u ∈ flat5 l, u.oneCell' = true := by
  intro u hu
  obtain ⟨x, _, hx⟩ := List.mem_flatMap.1 hu
  simp only [rgc, List.mem_cons, List.not_mem_nil, or_false] at hx
  rcases hx with rfl | rfl | rfl | rfl | rfl <;> rfl

/-- A slice of regions that lies in memory. -/
structure Rgs (w : World) (a : Option Addr) (len : Nat) (l : List RG) : Prop where
  hlen : l.length = len
  cell : ∀ i (h : i < l.length), ∃ b off, a = some ⟨b, off, none⟩ ∧ rgCells w b (off + i * 5) l[i]
theorem Rgs.some_of {w : World} {a : Option Addr} {len : Nat} {l : List RG} (h : Rgs w a len l) (hl : 0 < l.length) :
    ∃ b off, a = some ⟨b, off, none⟩ ∧ ∀ i (h : i < l.length), rgCells w b (off + i * 5) l[i] := by
  obtain ⟨b, off, rfl, _⟩ := h.cell 0 hl
  refine ⟨b, off, rfl, fun i hi => ?_⟩
  obtain ⟨b', off', e, hc⟩ := h.cell i hi
  cases e
  exact hc
theorem Rgs.nil (w : World) (a : Option Addr) : Rgs w a 0 [] := ⟨rfl, fun i h => by simp at h⟩
theorem Rgs.below {w w' : World} {a : Option Addr} {len : Nat} {l : List RG} (h : Rgs w a len l) (hb : Below w.heap.size w w') : Rgs w' a len l :=
  ⟨h.hlen, fun i hi => by
    obtain ⟨b, off, e, hc⟩ := h.cell i hi
    exact ⟨b, off, e, hc.below hb⟩⟩
theorem Rgs.news {w : World} {ad : Addr} {len : Nat} {l : List RG} (h : Rgs w (some ad) len l) : ∀ j u, (flat5 l)[j]? = some u → w.cell? (ad.add j) = some u := by
  intro j u hj
  have hj1 := (List.getElem?_eq_some_iff.1 hj).1
  rw [flat5_len] at hj1
  have hk : j / 5 < l.length := by omega
  obtain ⟨b, off, e, hc⟩ := h.cell (j / 5) hk
  cases e
  have ej : j / 5 * 5 + j % 5 = j := by omega
  have h2 := flat5_at l (j / 5) (j % 5) hk (Nat.mod_lt _ (by omega))
  rw [ej, hj] at h2
  have ead : (Addr.mk b off none).add j = ⟨b, off + j / 5 * 5 + j % 5, none⟩ := by
    unfold Addr.add
    by_cases e0 : j = 0
    · subst e0; simp
    · simp only [if_neg e0, Addr.mk.injEq, and_true, true_and]; omega
  rw [ead]
  have hm := Nat.mod_lt j (show 0 < 5 by omega)
  generalize j % 5 = m at *
  match m, hm with
  | 0, _ => simpa [rgc] using hc.1.trans h2.symm
  | 1, _ => simpa [rgc] using hc.2.1.trans h2.symm
  | 2, _ => simpa [rgc] using hc.2.2.1.trans h2.symm
  | 3, _ => simpa [rgc] using hc.2.2.2.1.trans h2.symm
  | 4, _ => simpa [rgc] using hc.2.2.2.2.trans h2.symm

theorem own_rgs {w : World} {base n : Nat} {E : TypeId} {v : Value} {l : List RG} (h : w.ownsRow base E 5 v n (flat5 l)) :
    ∃ a cap, v = .slice a n cap ∧ Rgs w a n l ∧ (a = none → cap = 0 ∧ n = 0) ∧ n ≤ cap ∧ cap ≤ maxLen ∧ (∀ b, a = some b → ∃ G, b = ⟨G, 0, none⟩ ∧ base ≤ G ∧ G < w.heap.size ∧ ∃ cs, Row w G E cs ∧ cs.length = cap * 5) := by
  have hl : l.length = n := by have := h.1; rw [flat5_len] at this; omega
  rcases h.2 with ⟨rfl, h0⟩ | ⟨g, cap, cur, rfl, hb, hg, hnc, hcm, hcs, htake⟩
  · subst h0
    obtain rfl := List.length_eq_zero_iff.1 hl
    exact ⟨none, 0, rfl, Rgs.nil _ _, fun _ => ⟨rfl, rfl⟩, Nat.le_refl _, by simp [maxLen], fun b h => by cases h⟩
  · have hr : Row w g E cur.toList := ⟨by simpa using hg⟩
    refine ⟨some ⟨g, 0, none⟩, cap, rfl, ⟨hl, fun i hi => ⟨g, 0, rfl, ?_⟩⟩, (fun h => by cases h), hnc, hcm, fun b hb' => ?_⟩
    · have key : ∀ j, j < 5 → w.cell? ⟨g, 0 + i * 5 + j, none⟩ = (rgc l[i])[j]? := by
        intro j hj
        rw [Nat.zero_add, hr.cell', ← flat5_at l i j hi hj, ← htake, List.getElem?_take, if_pos (by omega)]
      exact ⟨key 0 (by omega), key 1 (by omega), key 2 (by omega), key 3 (by omega), key 4 (by omega)⟩
    · cases hb'
      exact ⟨g, rfl, hb, hr.lt, _, hr, by simpa using hcs⟩
theorem own_rgs_nil {w : World} {base : Nat} {E : TypeId} : w.ownsRow base E 5 (.slice none 0 0) 0 (flat5 []) := World.ownsRow_nil _ _ _ _
theorem own_rgs_n {w : World} {base n : Nat} {E : TypeId} {v : Value} {l : List RG} (h : w.ownsRow base E 5 v n (flat5 l)) : l.length = n := by have := h.1; rw [flat5_len] at this; omega

/-- One region more behind a list of the call's own. -/
theorem wpList_app5 {P : Program} (w : World) {ops : Array Oper} {rest : List Oper} {o : Oper} {a : Act} {Q : Exit → Act → World → Prop} (hgd : o.guard = none) (s x : Operand) (t : TypeId)
    (ho : o.op = .call { callee := .builtin .append, args := #[s, x], argTypes := #[t, t] })
    (base : Nat) (e : TypeId) (ht : P.underlying t = some (.slice e)) (hi : (P.info? e).map (fun i => (i.zero, i.size, i.bytes)) = some (some (.agg #[.int .u64 0, .int .u64 0, .int .u8 0, .int .i64 0, .int .u64 0]), 5, 40))
    (v : Value) (n : Nat) (l : List RG) (hs : a.eval s = v) (hown : w.ownsRow base e 5 v n (flat5 l)) (b : Nat) (y : RG) (hx : a.eval x = .slice (some ⟨b, 0, none⟩) 1 1) (hy : rgCells w b 0 y) (hn : n ≤ 1000000) (hbase : base ≤ w.heap.size)
    (h : ∀ v' w', w'.ownsRow base e 5 v' (n + 1) (flat5 (l ++ [y])) → w.grownBy w' v.ownBlock → (v'.ownBlock = v.ownBlock ∨ v'.ownBlock = some w.heap.size) → wpList P ops Q rest (a.put o.dst v') w') : wpList P ops Q (o :: rest) a w := by
  obtain ⟨i0, hi0, hz0, hz1, hz2⟩ := info_parts hi
  have hR : Rgs w (some ⟨b, 0, none⟩) 1 [y] := ⟨rfl, fun i hi => ⟨b, 0, rfl, by
    simp only [List.length_cons, List.length_nil] at hi
    obtain rfl : i = 0 := by omega
    exact hy⟩⟩
  refine wpList_append_own_at w hgd s x t ho base e i0 _ 5 40 ht hi0 hz0 hz1 hz2 rfl (by omega) v n (flat5 l) hs hown ⟨b, 0, none⟩ 1 1 (flat5 [y]) hx (by rw [flat5_len]; simp) hR.news (flat5_one' _) (by unfold maxLen; omega) (by omega) hbase ?_
  intro v' w' h1 h2 _ h4
  exact h v' w' (by rw [flat5_app]; exact h1) h2 h4
/-- A whole list behind a list of the call's own. -/
theorem wpList_apps5 {P : Program} (w : World) {ops : Array Oper} {rest : List Oper} {o : Oper} {a : Act} {Q : Exit → Act → World → Prop} (hgd : o.guard = none) (s x : Operand) (t : TypeId)
    (ho : o.op = .call { callee := .builtin .append, args := #[s, x], argTypes := #[t, t] })
    (base : Nat) (e : TypeId) (ht : P.underlying t = some (.slice e)) (hi : (P.info? e).map (fun i => (i.zero, i.size, i.bytes)) = some (some (.agg #[.int .u64 0, .int .u64 0, .int .u8 0, .int .i64 0, .int .u64 0]), 5, 40))
    (v : Value) (n : Nat) (l : List RG) (hs : a.eval s = v) (hown : w.ownsRow base e 5 v n (flat5 l)) (ad : Addr) (m c : Nat) (ys : List RG) (hx : a.eval x = .slice (some ad) m c) (hy : Rgs w (some ad) m ys) (hn : n ≤ 1000000) (hm : m ≤ 1000000) (hbase : base ≤ w.heap.size)
    (h : ∀ v' w', w'.ownsRow base e 5 v' (n + m) (flat5 (l ++ ys)) → w.grownBy w' v.ownBlock → wpList P ops Q rest (a.put o.dst v') w') : wpList P ops Q (o :: rest) a w := by
  obtain ⟨i0, hi0, hz0, hz1, hz2⟩ := info_parts hi
  refine wpList_append_own w hgd s x t ho base e i0 _ 5 40 ht hi0 hz0 hz1 hz2 rfl (by omega) v n (flat5 l) hs hown ad m c (flat5 ys) hx (by rw [flat5_len, hy.hlen]) hy.news (flat5_one' _) (by unfold maxLen; omega) (by omega) hbase ?_
  intro v' w' h1 h2 _
  exact h v' w' (by rw [flat5_app]; exact h1) h2

/-- What a list of the call's own owns is apart from what lies below its base, and from what is no row of regions. -/
theorem grown_low {w w' : World} {base n : Nat} {E : TypeId} {v : Value} {xs : List Value} (h : w.ownsRow base E 5 v n xs) (hg : w.grownBy w' v.ownBlock) {B : Nat} {w0 : World} (hb : Below B w0 w) (hB : B ≤ base) (hs : B ≤ w.heap.size) : Below B w0 w' :=
  hb.grown hg hs (fun k hk => by have := (h.lt k hk).1; omega)
theorem rg_grown {w w' : World} {b o : Nat} {x : RG} {row : Option Nat} (h : rgCells w b o x) (hg : w.grownBy w' row) (hne : some b ≠ row) : rgCells w' b o x :=
  ⟨hg.cell h.1 hne, hg.cell h.2.1 hne, hg.cell h.2.2.1 hne, hg.cell h.2.2.2.1 hne, hg.cell h.2.2.2.2 hne⟩
theorem Rgs.grown {w w' : World} {a : Option Addr} {len : Nat} {l : List RG} {row : Option Nat} (h : Rgs w a len l) (hg : w.grownBy w' row) (hne : ∀ b, a = some b → some b.block ≠ row) : Rgs w' a len l :=
  ⟨h.hlen, fun i hi => by
    obtain ⟨b, off, e, hc⟩ := h.cell i hi
    exact ⟨b, off, e, rg_grown hc hg (hne _ e)⟩⟩
theorem own_belo {w w' : World} {base e size n : Nat} {v : Value} {xs : List Value} (h : w.ownsRow base e size v n xs) (hb : Below w.heap.size w w') : w'.ownsRow base e size v n xs :=
  h.kept (row := none) ⟨hb.os, hb.tape, hb.output, hb.size, fun k hk _ => hb.block k hk⟩ (by
    cases hv : v.ownBlock with
    | none => exact .inl rfl
    | some k => exact .inr (by simp))
theorem Row.bel {w w' : World} {g : Nat} {E : TypeId} {cs : List Value} (h : Row w g E cs) (hb : Below w.heap.size w w') : Row w' g E cs := h.below hb h.lt
end Go.Proofs.Ytcafmhhfnleanaa
