
/- layout.Pieces. -/
import Derived.Test.YtkpopdkkobelaaaLa5
import Derived.Test.YtkpopdkkobelaaaYJ
import Derived.OwnWalkIn
namespace Go.Proofs.Ytkpopdkkobelaaa
open Go.RowKit Go.Sort Go.Shelf
attribute [local go_sem] Oper.semAt_some

/-- append(v, l...) in a fence. -/
theorem wpListIn_appKg {F : Fence} {nF : Nat} {P : Program} {tS tE : TypeId} {k bytes : Nat} {z : Value} (hund : P.underlying tS = some (.slice tE)) (hinfo : (P.info? tE).map (fun i => (i.zero, i.size, i.bytes)) = some (some z, k, bytes)) (hzc : z.cells.size = k) (hkp : 0 < k)
    {w : World} {ops : Array Oper} {rest : List Oper} {o : Oper} {a : Act} {Q : Exit → Act → World → Prop} (hgd : o.guard = none) (s x : Operand)
    (ho : o.op = .call { callee := .builtin .append, args := #[s, x], argTypes := #[tS, tS] })
    (base : Nat) (v : Value) (rows news : List (List Value)) (hs : a.eval s = v) (ad : Option Addr) (m c : Nat) (hx : a.eval x = .slice ad m c) (hown : OwnK w base tE k v rows) (hy : Rk w k ad m news) (hone : ∀ r ∈ news, ∀ u ∈ r, u.oneCell' = true) (hc : ad = none → c = 0) (hn : (rows.length + m) * bytes ≤ 140737488355328) (hm : rows.length + m ≤ maxLen) (hbase : base ≤ w.heap.size)
    (h : ∀ v' w', OwnK w' base tE k v' (rows ++ news) → w.grownBy w' v.ownBlock → wpListIn F nF P ops Q rest (a.put o.dst v') w') :
    wpListIn F nF P ops Q (o :: rest) a w := by
  have hm' : news.length = m := hy.hlen
  obtain ⟨i0, hi0, hz0, hz1, hz2⟩ := info_parts hinfo
  cases ad with
  | none =>
    obtain rfl : news = [] := by
      cases news with
      | nil => rfl
      | cons x l => obtain ⟨_, _, h, _⟩ := hy.some_of (by simp); cases h
    obtain rfl := hc rfl
    obtain rfl : m = 0 := hm'.symm
    refine wpListIn_plain hgd fun K hK' => ?_
    have hrun := run_append_owned_none (P := P) (w := w) base tS o.type tE i0 k hund hi0 v rows.length rows.flatten hown
    unfold Oper.wpIn
    refine ⟨?_, ?_⟩
    · simp [Oper.about, ho, resolve, Target.leads, Sem.run_pure]
    · rw [Oper.semAt_plain F _ _ (by rw [ho]; intro c hc'; cases hc')]
      simp [execOp, ho, resolve, invoke, builtin, hs, hx, hrun, Result.andThen]
      exact hK' _ _ (h v w (by rw [List.append_nil]; exact hown) (World.grownBy.refl w _))
  | some ad =>
    have hk : ∀ r ∈ news, r.length = k := fun r hr => by
      obtain ⟨i, hi, rfl⟩ := List.getElem_of_mem hr
      exact hy.klen hi
    refine wpListIn_append_own w hgd s x _ ho base _ i0 _ k bytes hund hi0 hz0 hz1 hz2 hzc hkp v rows.length _ hs hown ad m c news.flatten hx (by rw [flat_len hk, hm']) (hy.news hkp) (rk_one hone) hm hn hbase ?_
    intro v' w' h1 h2 _
    exact h v' w' (own_ext h1 (by simp [hm']) (by simp)) h2

theorem WrOwn.turn {w w' : World} {base : Nat} {v : Value} {L : List (Int × Nat)} {row : Option Nat} (h : WrOwn w base v L) (hg : w.grownBy w' row) (hr : ∀ r, row = some r → ∃ o : Obj, w.heap[r]? = some o ∧ o.isCells = false) : WrOwn w' base v L := by
  obtain ⟨ws, h1, h2, h3⟩ := h
  refine ⟨ws, h1, own_turnG h2 hg hr, fun x hx => ?_⟩
  obtain ⟨g, k1, k2, k3⟩ := h3 x hx
  exact ⟨g, k1, k2, row_turnL k3 hg hr⟩
theorem own_setO {w : World} {base E k n g j : Nat} {T : TypeId} {v u : Value} {xs cs : List Value} (h : w.ownsRow base E k v n xs) (hr : Row w g T cs) (hT : T ≠ E) : (w.setCell ⟨g, j, none⟩ u).ownsRow base E k v n xs := by
  refine ⟨h.1, ?_⟩
  rcases h.2 with hn | ⟨b, cap, cur, hv, hbg, hh, r⟩
  · exact .inl hn
  · refine .inr ⟨b, cap, cur, hv, hbg, ?_, r⟩
    rw [heap_setCell_other w ⟨g, j, none⟩ b u (fun e => by
      subst e
      rw [hr.heap] at hh
      cases hh
      exact hT rfl)]
    exact hh
theorem WrOwn.setO {w : World} {base g j : Nat} {T : TypeId} {v u : Value} {cs : List Value} {L : List (Int × Nat)} (h : WrOwn w base v L) (hr : Row w g T cs) (h1 : T ≠ 52) (h2 : T ≠ 5) : WrOwn (w.setCell ⟨g, j, none⟩ u) base v L := by
  obtain ⟨ws, k1, k2, k3⟩ := h
  refine ⟨ws, k1, own_setO k2 hr h1, fun x hx => ?_⟩
  obtain ⟨b, q1, q2, q3⟩ := k3 x hx
  refine ⟨b, q1, q2, q3.other (fun e => ?_) _⟩
  have e' : b = g := e
  subst e'
  have := q3.heap.symm.trans hr.heap
  cases this
  exact h2 rfl

/-- What Pieces' loop keeps: the object's box, the two lists' boxes. -/
structure PcI (M p q : Nat) (x : LO) (ps : List PC) (L : List (Int × Nat)) (w0 W : World) : Prop where
  ob : Row W M 33 (loC x)
  rp : ∃ v, Row W p 44 [v] ∧ OwnP W M v ps
  rq : ∃ v, Row W q 45 [v] ∧ WrOwn W M v L
  b : Below M w0 W
  z : q < W.heap.size
theorem PcI.turn {M p q : Nat} {x : LO} {ps : List PC} {L : List (Int × Nat)} {w0 W W' : World} {row : Option Nat} (h : PcI M p q x ps L w0 W) (hg : W.grownBy W' row) (hr : ∀ r, row = some r → M ≤ r ∧ ∃ o : Obj, W.heap[r]? = some o ∧ o.isCells = false) (hM : M ≤ w0.heap.size) : PcI M p q x ps L w0 W' := by
  obtain ⟨v, h1, h2⟩ := h.rp
  obtain ⟨u, h3, h4⟩ := h.rq
  have hr' : ∀ r, row = some r → ∃ o : Obj, W.heap[r]? = some o ∧ o.isCells = false := fun r e => (hr r e).2
  exact ⟨row_turnL h.ob hg hr', ⟨v, row_turnL h1 hg hr', own_turnG h2 hg hr'⟩, ⟨u, row_turnL h3 hg hr', h4.turn hg hr'⟩, h.b.grown hg (Nat.le_trans hM h.b.size) (fun k e => (hr k e).1), Nat.lt_of_lt_of_le h.z hg.size⟩
theorem PcI.below {M p q : Nat} {x : LO} {ps : List PC} {L : List (Int × Nat)} {w0 W W' : World} (h : PcI M p q x ps L w0 W) (hb : Below W.heap.size W W') (hM : M ≤ w0.heap.size) : PcI M p q x ps L w0 W' := by
  obtain ⟨v, h1, h2⟩ := h.rp
  obtain ⟨u, h3, h4⟩ := h.rq
  exact ⟨h.ob.below hb h.ob.lt, ⟨v, h1.below hb h1.lt, own_below h2 hb⟩, ⟨u, h3.below hb h3.lt, h4.below hb⟩, h.b.trans (hb.mono (Nat.le_trans hM h.b.size)), Nat.lt_of_lt_of_le h.z hb.size⟩
/-- What Pieces answers. -/
def PiePost (w : World) (x : LO) (e : Ending) (w' : World) : Prop := Below w.heap.size w w' ∧ if pieB x.ino x.typ x.base x.sg = true then ∃ vp vw, e = .returned (.tuple #[vp, vw, .int .i64 0]) ∧ OwnP w' w.heap.size vp (pcsL x.base x.ino (lds x.sg)) ∧ WrOwn w' w.heap.size vw (wrsL x.base (lds x.sg)) else e = .returned (.tuple #[.slice none 0 0, .slice none 0 0, .int .i64 1])
theorem pie_no {w w' : World} {x : LO} (h : pieB x.ino x.typ x.base x.sg = false) (hb : Below w.heap.size w w') : PiePost w x (.returned (.tuple #[.slice none 0 0, .slice none 0 0, .int .i64 1])) w' := ⟨hb, by rw [h]; rfl⟩
theorem pcsL_snoc (base ino : Int) (l : List SG) (s : SG) : pcsL base ino (l ++ [s]) = pcsL base ino l ++ pcs1 base ino s := by simp [pcsL]
theorem wrsL_snoc (base : Int) (l : List SG) (s : SG) : wrsL base (l ++ [s]) = wrsL base l ++ wrs1 base s := by simp [wrsL]
theorem pcs1_len (base ino : Int) (s : SG) : (pcs1 base ino s).length ≤ 2 := by unfold pcs1 pcsA pcsB; split <;> split <;> simp
theorem wrs1_len (base : Int) (s : SG) : (wrs1 base s).length ≤ 1 := by unfold wrs1; split <;> simp
theorem pcsL_len (base ino : Int) : ∀ l : List SG, (pcsL base ino l).length ≤ 2 * l.length
  | [] => by simp [pcsL]
  | s :: r => by
    have h1 := pcs1_len base ino s
    have h2 := pcsL_len base ino r
    unfold pcsL at h2 ⊢
    rw [List.flatMap_cons, List.length_append, List.length_cons]
    omega
theorem wrsL_len (base : Int) : ∀ l : List SG, (wrsL base l).length ≤ l.length
  | [] => by simp [wrsL]
  | s :: r => by
    have h1 := wrs1_len base s
    have h2 := wrsL_len base r
    unfold wrsL at h2 ⊢
    rw [List.flatMap_cons, List.length_append, List.length_cons]
    omega
theorem mpOk_of {w : World} {x : LO} (hx : LOk w x) (hr : rightB x.ino x.typ x.sg = true) (hl : liesB x.base (lds x.sg) = true) {s : SG} (hs : s ∈ lds x.sg) : MpOk x.base s := by
  have hL := hx.loads hr
  have h1 := hL.ok s hs
  have h2 := of_decide_eq_true hl
  have h3 : s.addr + s.msz ≤ highS (lds x.sg) := by
    obtain ⟨i, hi, rfl⟩ := List.mem_iff_getElem.1 hs
    have hpos : 0 < (lds x.sg).length := by omega
    obtain ⟨q, hq⟩ : ∃ q, q + 1 = (lds x.sg).length := ⟨(lds x.sg).length - 1, by omega⟩
    rw [high_at hq]
    by_cases e : i = q
    · subst e; unfold upI dn; omega
    · have h4 := hL.rise (i := i) (j := q) (by omega) (by omega)
      have h5 := hL.ok ((lds x.sg)[q]'(by omega)) (List.getElem_mem _)
      unfold upI dn at h4 ⊢
      omega
  exact ⟨hx.ok s (List.mem_filter.1 hs).1, hx.b0, h1.2.1, h1.2.2.2.1, by omega⟩
theorem own_typeP {w : World} {M : Nat} {v : Value} {l : List PC} (h : OwnP w M v l) : ∀ r, v.ownBlock = some r → M ≤ r ∧ ∀ (cs : Array Value) (m : Nat × Nat), w.heap[r]? ≠ some (Obj.cells cs 58 m) := fun r e => ⟨own_low h (Nat.le_refl _) r e, fun cs m e2 => by
  obtain ⟨cs', hc⟩ := own_type h e
  rw [e2] at hc
  injection hc with hc
  injection hc with _ h2 _
  exact absurd h2 (by decide)⟩

/-- Between the two appends of a round. -/
structure Mid (M Mw p q : Nat) (x : LO) (ps : List PC) (u : Value) (ws0 ws : List WB) (qa : Option Addr) (qn qc : Nat) (w0 W : World) : Prop where
  ob : Row W M 33 (loC x)
  rp : ∃ v, Row W p 44 [v] ∧ OwnP W M v ps
  rowq : Row W q 45 [u]
  own : OwnK W M 52 2 u (ws0.map wbC)
  n0 : ∀ y ∈ ws0, Nought W y
  own2 : OwnK W Mw 52 2 (.slice qa qn qc) (ws.map wbC)
  n1 : ∀ y ∈ ws, Nought W y
  b : Below M w0 W
  lt : M < p ∧ p < q ∧ q < W.heap.size
theorem Nought.other {w w' : World} {base' T k' n' : Nat} {v' : Value} {xs' : List Value} {x : WB} (h : Nought w x) (h' : w.ownsRow base' T k' v' n' xs') (hg : w.grownBy w' v'.ownBlock) (hT : 5 ≠ T) : Nought w' x := by
  obtain ⟨g, k1, k2, k3⟩ := h
  exact ⟨g, k1, k2, row_other k3 h' hg hT⟩
theorem Nought.setO {w : World} {g j T : Nat} {u : Value} {cs : List Value} {x : WB} (h : Nought w x) (hr : Row w g T cs) (h2 : T ≠ 5) : Nought (w.setCell ⟨g, j, none⟩ u) x := by
  obtain ⟨b, q1, q2, q3⟩ := h
  refine ⟨b, q1, q2, q3.other (fun e => ?_) _⟩
  have e' : b = g := e
  subst e'
  have := q3.heap.symm.trans hr.heap
  injection this with this
  injection this with _ h3 _
  exact h2 h3.symm
theorem Mid.piece {M Mw p q : Nat} {x : LO} {ps ps' : List PC} {u v v' : Value} {ws0 ws : List WB} {qa : Option Addr} {qn qc : Nat} {w0 W w4 : World} (h : Mid M Mw p q x ps u ws0 ws qa qn qc w0 W) (hr : Row W p 44 [v]) (ho : OwnP W M v ps) (hown : OwnP w4 M v' ps') (hg : W.grownBy w4 v.ownBlock) (hM : M ≤ w0.heap.size) : Mid M Mw p q x ps' u ws0 ws qa qn qc w0 (w4.setCell ⟨p, 0, none⟩ v') := by
  have hr4 : Row w4 p 44 [v] := row_other hr ho hg (by decide)
  obtain ⟨l1, l2, l3⟩ := h.lt
  have hb4 : Below M w0 w4 := h.b.grown hg (Nat.le_trans hM h.b.size) (fun k e => own_low ho (Nat.le_refl _) k e)
  refine ⟨(row_other h.ob ho hg (by decide)).other (by show M ≠ p; omega) _, ⟨v', hr4.set 0 _, own_setO hown hr4 (by decide)⟩, (row_other h.rowq ho hg (by decide)).other (by show q ≠ p; omega) _, own_setO (own_other h.own ho hg (by decide)) hr4 (by decide), fun y hy => ((h.n0 y hy).other ho hg (by decide)).setO hr4 (by decide), own_setO (own_other h.own2 ho hg (by decide)) hr4 (by decide), fun y hy => ((h.n1 y hy).other ho hg (by decide)).setO hr4 (by decide), bset hb4 (by omega) _, l1, l2, ?_⟩
  rw [World.size_setCell]
  exact Nat.lt_of_lt_of_le l3 hg.size
theorem Mid.write {M Mw p q : Nat} {x : LO} {ps : List PC} {u u' : Value} {ws0 ws : List WB} {qa : Option Addr} {qn qc : Nat} {w0 W w6 : World} (h : Mid M Mw p q x ps u ws0 ws qa qn qc w0 W) (hown : OwnK w6 M 52 2 u' (ws0.map wbC ++ ws.map wbC)) (hg : W.grownBy w6 u.ownBlock) (hM : M ≤ w0.heap.size) : PcI M p q x ps (wbL ws0 ++ wbL ws) w0 (w6.setCell ⟨q, 0, none⟩ u') := by
  have hr6 : Row w6 q 45 [u] := row_other h.rowq h.own hg (by decide)
  obtain ⟨l1, l2, l3⟩ := h.lt
  obtain ⟨v, hv1, hv2⟩ := h.rp
  have hb6 : Below M w0 w6 := h.b.grown hg (Nat.le_trans hM h.b.size) (fun k e => own_low h.own (Nat.le_refl _) k e)
  refine ⟨(row_other h.ob h.own hg (by decide)).other (by show M ≠ q; omega) _, ⟨v, (row_other hv1 h.own hg (by decide)).other (by show p ≠ q; omega) _, own_setO (own_other hv2 h.own hg (by decide)) hr6 (by decide)⟩, ⟨u', hr6.set 0 _, ws0 ++ ws, by simp [wbL], by rw [List.map_append]; exact own_setO hown hr6 (by decide), fun y hy => ?_⟩, bset hb6 (by omega) _, ?_⟩
  · rcases List.mem_append.1 hy with hy | hy
    · exact ((h.n0 y hy).other h.own hg (by decide)).setO hr6 (by decide)
    · exact ((h.n1 y hy).other h.own hg (by decide)).setO hr6 (by decide)
  · rw [World.size_setCell]
    exact Nat.lt_of_lt_of_le l3 hg.size
theorem keepsO {w w' : World} {base E k n : Nat} {v : Value} {xs : List Value} (h : w.ownsRow base E k v n xs) (hg : w.grownBy w' v.ownBlock) : KeepsOthers w w' := KeepsOthers.of_grownBy hg (fun j o e ho => own_isCells h j o e ho)
theorem kpO {w w' : World} {M E k n : Nat} {v : Value} {xs : List Value} (h : w.ownsRow M E k v n xs) (hg : w.grownBy w' v.ownBlock) (hM : M ≤ w.heap.size) (hE : E ≠ 58) : KpT 58 M w w' := KpT.grown hg hM (fun r e => ⟨own_low h (Nat.le_refl _) r e, fun cs m e2 => by
  obtain ⟨cs', hc⟩ := own_type h e
  rw [e2] at hc
  injection hc with hc
  injection hc with _ h2 _
  exact hE h2.symm⟩)
theorem mem_pre {sg : List SG} {pre : List (Int × SG)} {x : Int × SG} (h : pre ++ [x] <+: prs 0 (lds sg)) : x.2 ∈ lds sg := by
  have hm : x ∈ prs 0 (lds sg) := h.subset (by simp)
  have := List.mem_map_of_mem (f := fun p : Int × SG => p.2) hm
  rwa [prs_snd] at this
theorem pre_len {sg : List SG} {pre : List (Int × SG)} {x : Int × SG} (h : pre ++ [x] <+: prs 0 (lds sg)) (hl : sg.length ≤ 8) : (pre.map (·.2)).length ≤ 8 := by
  have h1 := h.length_le
  rw [prs_len, List.length_append] at h1
  have := lds_len sg
  rw [List.length_map]
  omega
theorem Row.one {w : World} {g : Nat} {E : TypeId} {a : Value} (h : Row w g E [a]) : w.cell? ⟨g, 0, none⟩ = some a := h.cell 0 (by simp)
theorem ownP_app {w : World} {M : Nat} {v : Value} {l m : List PC} (h : OwnK w M 49 5 v (l.map pcC ++ m.map pcC)) : OwnP w M v (l ++ m) := by unfold OwnP; rw [List.map_append]; exact h
theorem own_hd {w : World} {B E k n : Nat} {v : Value} {xs : List Value} (h : w.ownsRow B E k v n xs) : ∃ a n' c, v = .slice a n' c := by
  rcases h.2 with ⟨rfl, _⟩ | ⟨g, cap, cur, rfl, _⟩
  · exact ⟨_, _, _, rfl⟩
  · exact ⟨_, _, _, rfl⟩
theorem own_eq {w : World} {B E k : Nat} {v : Value} {rows rows' : List (List Value)} (h : OwnK w B E k v rows) (e : rows = rows') : OwnK w B E k v rows' := e ▸ h
theorem ownP_app2 {w : World} {M : Nat} {v : Value} {l m : List PC} {RA RB : List (List Value)} (h : OwnK w M 49 5 v (RA ++ RB)) (e1 : l.map pcC = RA) (e2 : m.map pcC = RB) : OwnP w M v (l ++ m) := by
  subst e1; subst e2; exact ownP_app h
theorem rk_of_own {w : World} {B k n c : Nat} {E : TypeId} {a : Option Addr} {rows R : List (List Value)} (h : OwnK w B E k (.slice a n c) rows) (hk : ∀ r ∈ rows, r.length = k) (hpos : 0 < k) (e : rows = R) : Rk w k a n R := by
  subst e
  obtain ⟨a', c', e, hr, _⟩ := own_rk h hk hpos
  cases e
  exact hr
def pcA (ino base typ entry phoff : Int) (ga : Option Addr) (gn gc : Nat) (na : Option Addr) (nn nc : Nat) (soname run : BL) (sa : Option Addr) (sn sc : Nat) (ra : Option Addr) (rn rc : Nat) (M N : Nat) (lo hi : Int) (B : Nat) (p : Int × SG) : Act := { tmps := #[.agg #[.int .i64 ino, .int .u64 base, .int .u16 typ, .int .u64 entry, .int .u64 phoff, Value.slice ga gn gc, .slice na nn nc, .string (ba soname), .string (ba run), .slice sa sn sc, .slice ra rn rc], .pointer (some ⟨M, 0, none⟩), .slice none 0 0, .slice none 0 0, .int .i64 0, .pointer (some ⟨N, 0, none⟩), .bool true, .pointer (some ⟨N + 1, 0, none⟩), .pointer (some ⟨N + 1 + 1, 0, none⟩), undef, .pointer (some ⟨B, 0, none⟩), undef, undef, .agg #[.int .i64 ino, .int .u64 base, .int .u16 typ, .int .u64 entry, .int .u64 phoff, Value.slice ga gn gc, .slice na nn nc, .string (ba soname), .string (ba run), .slice sa sn sc, .slice ra rn rc], .bool true, .bool false, .bool false, .pointer (some ⟨M, 1, none⟩), .int .u64 base, .int .u64 (base % 4096), .bool false, .bool false, .tuple #[.agg #[.int .u64 (base + lo), .int .u64 (base + hi)], .bool true], .agg #[.int .i64 ino, .int .u64 base, .int .u16 typ, .int .u64 entry, .int .u64 phoff, Value.slice ga gn gc, .slice na nn nc, .string (ba soname), .string (ba run), .slice sa sn sc, .slice ra rn rc], .tuple #[.agg #[.int .u64 (base + lo), .int .u64 (base + hi)], .bool true], .agg #[.int .u64 (base + lo), .int .u64 (base + hi)], .bool true, .bool true, .bool false, .pointer (some ⟨M, 2, none⟩), .agg #[.int .u16 typ, .int .u64 entry, .int .u64 phoff, Value.slice ga gn gc], .func (.func 40) #[] #[.pointer (some ⟨N + 1 + 1 + 1, 0, none⟩)], .int .u64 p.1, sgV p.2, undef, undef, undef, undef, undef, undef, undef, undef, undef, undef, undef, undef, undef, undef], defers := [] }

set_option maxRecDepth 100000 in
set_option maxHeartbeats 16000000 in
theorem pieces_any (x : LO) (w : World) (hx : LOk w x) :
    Calls Try.prog 18 #[loV x] w (PiePost w x) := by
  have HRT := hid (fun (o : Obj) => right_any x (w.alloc o) (hx.below' (bal o)))
  have HLI := hid (fun (wx : World) (hb : Below w.heap.size w wx) (hr : rightB x.ino x.typ x.sg = true) => lies_any x wx (hx.below' hb) hr)
  have HMP := hid (fun (hr : rightB x.ino x.typ x.sg = true) (hl : liesB x.base (lds x.sg) = true) (s : SG) (hs : s ∈ lds x.sg) (wx : World) => mapped_any x s wx (mpOk_of hx hr hl hs))
  have HSL := hid (fun (hr : rightB x.ino x.typ x.sg = true) => (rightB_of hr).2.1)
  have HSG := hid (fun (wx : World) (hb : Below w.heap.size w wx) => hx.segs.below' hb)
  have HOK := hid hx.ok
  have hgn := hx.gn
  have hb0 := hx.b0
  have hb1 := hx.b1
  obtain ⟨ino, base, typ, entry, phoff, ga, gn, gc, sg, na, nn, nc, soname, run, sa, sn, sc, ra, rn, rc⟩ := x
  obtain rfl : sg.length = gn := hx.segs.hlen
  clear hx
  dsimp only at HRT HLI HMP HSL HSG HOK hgn hb0 hb1
  obtain ⟨X, hX⟩ : ∃ X : LO, X = ⟨ino, base, typ, entry, phoff, ga, sg.length, gc, sg, na, nn, nc, soname, run, sa, sn, sc, ra, rn, rc⟩ := ⟨_, rfl⟩
  have HNO := hid (fun (wx : World) (h : pieB ino typ base sg = false) (hb : Below w.heap.size w wx) => show PiePost w ⟨ino, base, typ, entry, phoff, ga, sg.length, gc, sg, na, nn, nc, soname, run, sa, sn, sc, ra, rn, rc⟩ (.returned (.tuple #[.slice none 0 0, .slice none 0 0, .int .i64 1])) wx from pie_no h hb)
  have HPI : Hid (pieB ino typ base sg = (rightB ino typ sg && decide (base % 4096 = 0) && liesB base (lds sg))) := hid rfl
  have HLV : Hid (liesV ⟨ino, base, typ, entry, phoff, ga, sg.length, gc, sg, na, nn, nc, soname, run, sa, sn, sc, ra, rn, rc⟩ = if liesB base (lds sg) = true then .tuple #[.agg #[.int .u64 (base + lowS (lds sg)), .int .u64 (base + highS (lds sg))], .bool true] else .tuple #[.agg #[.int .u64 0, .int .u64 0], .bool false]) := hid rfl
  have HB0 := hid (@bal w (.cells #[.int .i64 ino, .int .u64 base, .int .u16 typ, .int .u64 entry, .int .u64 phoff, Value.slice ga sg.length gc, .slice na nn nc, .string (ba soname), .string (ba run), .slice sa sn sc, .slice ra rn rc] 33))
  have HR0 := hid (Row.new w 33 (loC ⟨ino, base, typ, entry, phoff, ga, sg.length, gc, sg, na, nn, nc, soname, run, sa, sn, sc, ra, rn, rc⟩))
  refine (callsIn_wide (n := 9)).1 ?_
  refine callsIn_of_wp_marks Try.func18 rfl trivial ?_ rfl
  simp only [Try.ntmps18, List.size_toArray, List.length_cons, List.length_nil, Nat.reduceAdd, Nat.reduceSub, Array.replicate_succ, Array.replicate_zero, List.push_toArray, List.append_toArray, List.nil_append, List.cons_append]
  refine wpIn_wide.2 ?_
  unfold loV at HRT HLI HMP ⊢
  dsimp only at HRT HLI HMP ⊢
  go_wp2_with fail
  cases hr : rightB ino typ sg
  · rw [hr] at HRT HPI
    refine (HRT.out _).mono ?_
    rintro e' w1 ⟨rfl, hb⟩
    have HB1 := hid (bthen HB0.out hb)
    clear hb
    go_wp2_with fail
    exact ⟨_, by simp [results, Try.f18, Try.results18, go_sem], HNO.out _ (by rw [HPI.out]; rfl) HB1.out⟩
  rw [hr] at HRT HPI
  have HRR := hid hr
  clear hr
  refine (HRT.out _).mono ?_
  rintro e' w1 ⟨rfl, hb⟩
  have HB1 := hid (bthen HB0.out hb)
  have HR1 := hid (HR0.out.below hb HR0.out.lt)
  clear hb
  obtain ⟨⟨x0, x1, x2, x3, x4, x5⟩, x6, x7, x8, x9, x10⟩ := (show Row w1 w.heap.size 33 [_, _, _, _, _, _, _, _, _, _, _] from HR1.out).eleven
  have hl1 := HR1.out.lt
  by_cases hm : base % 4096 = 0
  case neg =>
    have dm : (base % 4096 != 0) = true := by simpa using hm
    rw [decide_eq_false hm] at HPI
    clear hm
    go_wp2_with fail
    exact ⟨_, by simp [results, Try.f18, Try.results18, go_sem], HNO.out _ (by rw [HPI.out]; rfl) HB1.out⟩
  have dm : (base % 4096 != 0) = false := by simpa using hm
  rw [decide_eq_true hm] at HPI
  clear hm
  have HL1 := hid (HLI.out w1 HB1.out HRR.out)
  rw [HLV.out] at HL1
  cases hli : liesB base (lds sg)
  · rw [hli] at HPI HL1
    rw [if_neg (by simp)] at HL1
    clear hli
    go_wp2_with fail
    refine (HL1.out).mono ?_
    rintro e' w2 ⟨rfl, hb⟩
    have HB2 := hid (bthen HB1.out hb)
    have HBA := hid (fun o => HB2.out.alloc HB2.out.size o)
    clear hb x0 x1 x2 x3 x4 x5 x6 x7 x8 x9 x10 hl1
    go_wp2_with fail
    exact ⟨_, by simp [results, Try.f18, Try.results18, go_sem], HNO.out _ (by rw [HPI.out]; rfl) (HBA.out _)⟩
  rw [hli] at HPI HL1
  rw [if_pos rfl] at HL1
  have HLL := hid hli
  clear hli
  go_wp2_with fail
  refine (HL1.out).mono ?_
  rintro e' w2 ⟨rfl, hb⟩
  have HB2 := hid (bthen HB1.out hb)
  have HR2 := hid (HR1.out.below hb HR1.out.lt)
  clear hb x0 x1 x2 x3 x4 x5 x6 x7 x8 x9 x10 hl1
  obtain ⟨⟨x0, x1, x2, x3, x4, x5⟩, x6, x7, x8, x9, x10⟩ := (show Row w2 w.heap.size 33 [_, _, _, _, _, _, _, _, _, _, _] from HR2.out).eleven
  have hl1 := HR2.out.lt
  have hl1a : w.heap.size < w2.heap.size + 1 := Nat.lt_succ_of_lt hl1
  have hl1b : w.heap.size < w2.heap.size + 1 + 1 := Nat.lt_succ_of_lt hl1a
  go_wp2_with fail
  refine (loads_any _ _ _ _ _ _ _ ⟨_, rfl⟩ ⟨_, rfl⟩ ⟨_, rfl⟩).mono ?_
  rintro e' w3 ⟨rfl, hw3⟩
  generalize lowS (lds sg) = lo at *
  generalize highS (lds sg) = hi at *
  have hM : Below w.heap.size w w3 := by rw [hw3]; exact (((HB2.out.alloc HB2.out.size _).alloc (by simp; omega) _).alloc (by simp; omega) _).alloc (by simp; omega) _
  have hs3 : w3.heap.size = w2.heap.size + 4 := by rw [hw3]; simp
  have hI0 : PcI w.heap.size (w2.heap.size + 1) (w2.heap.size + 1 + 1) ⟨ino, base, typ, entry, phoff, ga, sg.length, gc, sg, na, nn, nc, soname, run, sa, sn, sc, ra, rn, rc⟩ [] [] w w3 := by
    refine ⟨?_, ⟨.slice none 0 0, ?_, ownP_nil _ _⟩, ⟨.slice none 0 0, ?_, wrOwn_nil _ _⟩, hM, by omega⟩
    · rw [hw3]; exact (((HR2.out.alloc _).alloc _).alloc _).alloc _
    · rw [hw3]
      have := Row.new (w2.alloc (.cells #[.int .u64 (base + lo), .int .u64 (base + hi)] 73)) 44 [.slice none 0 0]
      simp only [World.size_alloc] at this
      exact (this.alloc _).alloc _
    · rw [hw3]
      have := Row.new ((w2.alloc (.cells #[.int .u64 (base + lo), .int .u64 (base + hi)] 73)).alloc (.cells #[.slice none 0 0] 44)) 45 [.slice none 0 0]
      simp only [World.size_alloc] at this
      exact this.alloc _
  have hrB : Row w3 (w2.heap.size + 1 + 1 + 1) 26 [.int .u16 typ, .int .u64 entry, .int .u64 phoff, Value.slice ga sg.length gc] := by
    rw [hw3]
    have := Row.new (((w2.alloc (.cells #[.int .u64 (base + lo), .int .u64 (base + hi)] 73)).alloc (.cells #[.slice none 0 0] 44)).alloc (.cells #[.slice none 0 0] 45)) 26 [.int .u16 typ, .int .u64 entry, .int .u64 phoff, Value.slice ga sg.length gc]
    simp only [World.size_alloc] at this
    exact this
  simp only [World.size_alloc]
  have hNM : w.heap.size < w2.heap.size := hl1
  generalize w2.heap.size = N at *
  clear hw3 x0 x1 x2 x3 x4 x5 x6 x7 x8 x9 x10 hl1 hl1a hl1b HR0 HR1 HB0 HB1 HRT HLI HL1 HLV
  go_wp2_with fail
  refine wp_range_ty (α := Int × SG) (gf := 40) (lb := #[.pointer (some ⟨N + 1 + 1 + 1, 0, none⟩)]) rfl (enters_of Try.func40 (by kernel_rfl) rfl)
    (loads_seq ga sg.length gc sg _ _ _ _ w w3 (HSG.out w (Below.refl _ _)) (by have := HSL.out HRR.out; omega) HOK.out hM hrB) (fun r e => by cases e) (fun A B C h k => h.trans k) (fun W l o o' h1 h2 h3 => KpT.put W l o o' h1 h2 (by omega)) (fun _ => rfl)
    (fun pre W => PcI w.heap.size (N + 1) (N + 1 + 1) ⟨ino, base, typ, entry, phoff, ga, sg.length, gc, sg, na, nn, nc, soname, run, sa, sn, sc, ra, rn, rc⟩ (pcsL base ino (pre.map (·.2))) (wrsL base (pre.map (·.2))) w W)
    (fun _ _ _ => False)
    (fun p a' W => ∃ B, Row W B 58 (sgC p.2) ∧ a' = pcA ino base typ entry phoff ga sg.length gc na nn nc soname run sa sn sc ra rn rc w.heap.size N lo hi B p) ?hI ?hIx ?hIr ?hIxr ?hAx hI0 ?assign ?body ?done ?stop
  case hI =>
    rintro s A C row hi hg hr
    exact hi.turn hg (fun r e => ⟨by have := (hr r e).1; omega, (hr r e).2⟩) (Nat.le_refl _)
  case hIx => exact fun c s A C row h _ _ => h.elim
  case hIr =>
    rintro s A C hi hg
    exact hi.turn hg (fun r e => by cases e) (Nat.le_refl _)
  case hIxr => exact fun c s A C h _ => h.elim
  case hAx =>
    rintro x a' s A C row ⟨B, r1, e⟩ hg hr
    exact ⟨B, row_turnL r1 hg (fun r e => (hr r e).2), e⟩
  case assign =>
    intro l pre x W K hi hN hK
    simp only [prV, sgV]
    gi_wp2
    refine hK _ _ ((KeepsOthers.alloc W _).from _) (KpT.alloc W _ (by have := hi.b.size; omega)) (hi.turn (World.grownBy_alloc W _ none) (fun r e => by cases e) (Nat.le_refl _)) ⟨W.heap.size, Row.new W _ _, rfl⟩
  case body =>
    rintro l pre x a' W hi ⟨B, r1, rfl⟩ hN
    obtain ⟨y0, y1, y2, y3, y4, y5⟩ := (show Row W B 58 [_, _, _, _, _, _] from r1).six
    obtain ⟨⟨x0, x1, x2, x3, x4, x5⟩, x6, x7, x8, x9, x10⟩ := (show Row W w.heap.size 33 [_, _, _, _, _, _, _, _, _, _, _] from hi.ob).eleven
    have hlB := r1.lt
    have hlO := hi.ob.lt
    have HMX := hid (HMP.out HRR.out HLL.out x.2 (mem_pre hN) W)
    have HPL := hid (pre_len hN (HSL.out HRR.out))
    have HI := hid hi
    have HIZ := hid hi.b.size
    unfold MapPost sgV at HMX
    clear hI0 hrB hi hN r1
    unfold pcA
    simp only [sgV]
    gi_wp2_with fail
    refine ⟨trivial, (callsIn_wide.2 (HMX.out)).mono ?_⟩
    rintro e' w4 ⟨vp, vw, rfl, hop, ⟨ws, hws1, hws2, hws3⟩, hb4⟩
    obtain ⟨pa, pc, rfl, hpr, hpn, _⟩ := own_rk hop (pcC_len _) (by decide)
    obtain ⟨qa, qc, rfl, hqr, hqn, _⟩ := own_rk hws2 (wbC_len _) (by decide)
    have hI4 := HI.out.below hb4 (Nat.le_refl _)
    obtain ⟨v, hv1, hv2⟩ := hI4.rp
    obtain ⟨u, hu1, ws0, hu2, hu3, hu4⟩ := hI4.rq
    have HMID := hid (show Mid w.heap.size W.heap.size (N + 1) (N + 1 + 1) ⟨ino, base, typ, entry, phoff, ga, sg.length, gc, sg, na, nn, nc, soname, run, sa, sn, sc, ra, rn, rc⟩ (pcsL base ino (pre.map (·.2))) u ws0 ws qa (ws.map wbC).length qc w w4 from ⟨hI4.ob, ⟨v, hv1, hv2⟩, hu1, hu3, hu4, hws2, hws3, hI4.b, by omega, by omega, hI4.z⟩)
    have HV1 := hid hv1
    have HV2 := hid hv2
    have HPR := hid hpr
    have HPN := hid hpn
    have HQN := hid hqn
    have HKB := hid (keepsB hb4)
    have HKP := hid (show KpT 58 w.heap.size W w4 from KpT.below hb4 HIZ.out)
    have HZ4 := hid (show w.heap.size ≤ w4.heap.size from Nat.le_trans HIZ.out hb4.size)
    have HLA := hid (show ((pcsL base ino (pre.map (·.2))).map pcC).length + ((pcs1 base ino x.2).map pcC).length ≤ 40 by
      have h1 := pcsL_len base ino (pre.map (·.2)); have h2 := pcs1_len base ino x.2; have h3 := HPL.out; rw [List.length_map, List.length_map]; omega)
    have HLB := hid (show (ws0.map wbC).length + (ws.map wbC).length ≤ 40 by
      have h1 := wrsL_len base (pre.map (·.2)); have h2 := wrs1_len base x.2; have h3 := HPL.out
      have e1 : ws0.length = (wrsL base (pre.map (·.2))).length := by rw [← hu2]; simp [wbL]
      have e2 : ws.length = (wrs1 base x.2).length := by rw [← hws1]; simp [wbL]
      rw [List.length_map, List.length_map]; omega)
    have HN1 := hid (show (((pcsL base ino (pre.map (·.2))).map pcC).length + ((pcs1 base ino x.2).map pcC).length) * 40 ≤ 140737488355328 by have := HLA.out; omega)
    have HN2 := hid (show ((pcsL base ino (pre.map (·.2))).map pcC).length + ((pcs1 base ino x.2).map pcC).length ≤ maxLen by have := HLA.out; unfold maxLen; omega)
    have HN3 := hid (show ((ws0.map wbC).length + (ws.map wbC).length) * 32 ≤ 140737488355328 by have := HLB.out; omega)
    have HN4 := hid (show (ws0.map wbC).length + (ws.map wbC).length ≤ maxLen by have := HLB.out; unfold maxLen; omega)
    have HWL := hid hws1
    have HWL0 := hid hu2
    have HP1 := hid (pcC_one (pcs1 base ino x.2))
    have HW1 := hid (wbC_one ws)
    have kp := hv1.cell 0 (by simp)
    have kq := hu1.cell 0 (by simp)
    simp only [List.getElem_cons_zero] at kp kq
    have fp := hv1.frozen 0
    have fq := hu1.frozen 0
    have lp := hv1.lt
    have lq := hu1.lt
    clear y0 y1 y2 y3 y4 y5 x0 x1 x2 x3 x4 x5 x6 x7 x8 x9 x10 hlB hlO hop hws1 hws2 hws3 hb4 hpr hqr hpn hqn hI4 hv1 hv2 hu1 hu2 hu3 hu4
    have HMW := hid (Nat.le_refl w.heap.size)
    have HD1 := hid (show 44 ≠ 49 by decide)
    have HD2 := hid (show 45 ≠ 49 by decide)
    have HD3 := hid (show 49 ≠ 58 by decide)
    have HD4 := hid (show 44 ≠ 58 by decide)
    have HD5 := hid (show w.heap.size ≤ N + 1 by omega)
    have HD6 := hid (show 0 < 2 by decide)
    have HD7 := hid (show 45 ≠ 52 by decide)
    have HD8 := hid (show 52 ≠ 58 by decide)
    have HD9 := hid (show 45 ≠ 58 by decide)
    have HD10 := hid (show w.heap.size ≤ N + 1 + 1 by omega)
    have HV2R := hid (show OwnK w4 w.heap.size 49 5 v ((pcsL base ino (pre.map (·.2))).map pcC) from HV2.out)
    obtain ⟨RA, hRA⟩ : ∃ R, R = (pcsL base ino (pre.map (·.2))).map pcC := ⟨_, rfl⟩
    obtain ⟨RB, hRB⟩ : ∃ R, R = (pcs1 base ino x.2).map pcC := ⟨_, rfl⟩
    obtain ⟨RC, hRC⟩ : ∃ R, R = ws0.map wbC := ⟨_, rfl⟩
    obtain ⟨RD, hRD⟩ : ∃ R, R = ws.map wbC := ⟨_, rfl⟩
    rw [← hRA] at HV2R HN1 HN2
    rw [← hRB] at HPR HN1 HN2 HP1 ⊢
    rw [← hRC] at HN3 HN4
    rw [← hRD] at HN3 HN4 HW1 HMID ⊢
    have HRA := hid hRA.symm
    have HRB := hid hRB.symm
    have HRC := hid hRC.symm
    have HRD := hid hRD.symm
    have HRCD := hid (show RC ++ RD = ws0.map wbC ++ ws.map wbC by rw [hRC, hRD])
    clear hRA hRB hRC hRD HLA HLB
    gi_wp2_with (first | (gi_at_builtin; refine wpListIn_appKg Try.underlying44 infoPc rfl (by decide) rfl _ _ rfl w.heap.size v RA RB rfl pa RB.length pc rfl HV2R.out HPR.out HP1.out HPN.out HN1.out HN2.out HZ4.out ?_; intro v' w5 hown hgrow; obtain ⟨va, vn, vc, rfl⟩ := own_hd hown; have HM5 := hid (HMID.out.piece HV1.out HV2.out (ownP_app2 hown HRA.out HRB.out) hgrow (Nat.le_refl _)); have HRP5 := hid (row_other HV1.out HV2.out hgrow HD1.out); have HRQ5 := hid (row_other HMID.out.rowq HV2.out hgrow HD2.out); have kp5 := HRP5.out.one; have kq5 := HRQ5.out.one; have fp5 := HRP5.out.frozen 0; have lp5 := HRP5.out.lt; have lq5 := HRQ5.out.lt; have HK5 := hid ((keepsO HV2.out hgrow).trans (KeepsOthers.setCell w5 ⟨N + 1, 0, none⟩ (.slice va vn vc))); have HT5 := hid ((kpO HV2.out hgrow HZ4.out HD3.out).trans (setKpT (j := 0) (v := .slice va vn vc) HRP5.out HD4.out HD5.out)); have HQ5 := hid (rk_of_own HM5.out.own2 (wbC_len ws) HD6.out HRD.out); have HZ5 := hid HM5.out.b.size; clear hown hgrow) | (gi_at_builtin; refine wpListIn_appKg Try.underlying45 infoWr rfl (by decide) rfl _ _ rfl w.heap.size u RC RD rfl qa RD.length qc rfl (own_eq HM5.out.own HRC.out) HQ5.out HW1.out HQN.out HN3.out HN4.out (Nat.le_trans HMW.out HZ5.out) ?_; intro u' w6 hown2 hgrow2; obtain ⟨ua, un, uc, rfl⟩ := own_hd hown2; have HF := hid (HM5.out.write (own_eq hown2 HRCD.out) hgrow2 (Nat.le_refl _)); have HRQ6 := hid (row_other HM5.out.rowq HM5.out.own hgrow2 HD7.out); have kq6 := HRQ6.out.one; have fq6 := HRQ6.out.frozen 0; have lq6 := HRQ6.out.lt; have HK6 := hid ((keepsO HM5.out.own hgrow2).trans (KeepsOthers.setCell w6 ⟨N + 1 + 1, 0, none⟩ (.slice ua un uc))); have HT6 := hid ((kpO HM5.out.own hgrow2 (Nat.le_trans HMW.out HZ5.out) HD8.out).trans (setKpT (j := 0) (v := .slice ua un uc) HRQ6.out HD9.out HD10.out)); clear hown2 hgrow2))
    refine ⟨((HKB.out.trans HK5.out).trans HK6.out).from _, (HKP.out.trans HT5.out).trans HT6.out, ?_⟩
    dsimp only
    rw [List.map_append, List.map_singleton, pcsL_snoc, wrsL_snoc, ← HWL.out, ← HWL0.out]
    exact HF.out
  case done =>
    rintro ys W rfl hi hK
    rw [prs_snd] at hi
    obtain ⟨v, hv1, hv2⟩ := hi.rp
    obtain ⟨u, hu1, hu2⟩ := hi.rq
    have kp := hv1.one
    have kq := hu1.one
    have lp := hv1.lt
    have lq := hu1.lt
    have HBW := hid hi.b
    have HV2 := hid hv2
    have HU2 := hid hu2
    have HK := hid hK
    have HPV := hid (show pieB ino typ base sg = true by rw [HPI.out]; rfl)
    clear hI0 hrB hi hv1 hv2 hu1 hu2
    go_wp2_with fail
    go_quiet (fail)
    go_wp2_with fail
    have hbN := hid (show Below W.heap.size W (W.drewN nq) from drewN_below _ _)
    have HKN := hid ((hbN.out.block _ (Array.getElem?_eq_some_iff.1 HK.out).1).trans HK.out)
    have HVN := hid (own_below HV2.out hbN.out)
    have HUN := hid (HU2.out.below hbN.out)
    have HBN := hid (bdN HBW.out nq)
    refine ⟨by simp, .inl ⟨_, _, rfl, run_takeDeferred HKN.out, ?_⟩⟩
    refine ⟨.tuple #[v, u, .int .i64 0], by simp [results, Try.f18, Try.results18, go_sem], ?_⟩
    refine ⟨HBN.out.grown (grownBy_putObj' _ _ _) HBN.out.size (fun k e => by cases e; omega), ?_⟩
    dsimp only
    rw [if_pos HPV.out]
    exact ⟨v, u, rfl, own_turnG HVN.out (grownBy_putObj' _ _ _) (fun r e => by cases e; exact ⟨_, HKN.out, rfl⟩), HUN.out.turn (grownBy_putObj' _ _ _) (fun r e => by cases e; exact ⟨_, HKN.out, rfl⟩)⟩
  case stop => exact fun c pre W _ h _ => h.elim
end Go.Proofs.Ytkpopdkkobelaaa
