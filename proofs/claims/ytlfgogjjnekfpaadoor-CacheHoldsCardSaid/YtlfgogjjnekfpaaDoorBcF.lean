
/- hostellaw08.does, plain; the world in which things are done. -/
import Derived.Test.YtlfgogjjnekfpaaDoorBcE
namespace Go.Proofs.YtlfgogjjnekfpaaDoor
open Go.RowKit Go.Sort Go.Shelf Go.WideMaps Go.Maps Go.WideShapes Go.WideElems Go.MapKept Go.ChangeMaps
attribute [local go_sem] Oper.semAt_some

structure O8 where
  kind : Int
  i : Int
  p : Int
  n : Int
/-- A cache; which frames were answered, which are held. -/
structure S8 where
  s : CC
  l : List Nat
  h : List Nat
def does8 (rd : Int → Int → List UInt8 × Int) (st : S8) (o : O8) : S8 :=
  if o.kind = 0 then (match getC rd st.s o.i o.p with
    | (f, e, s') => if e = 0 then ⟨s', st.l ++ [f.toNat], st.h⟩ else ⟨s', st.l, st.h⟩)
  else if o.kind = 1 then (match takC st.s with
    | (f, e, s') => if e = 0 then ⟨s', st.l ++ [f.toNat], st.h ++ [f.toNat]⟩ else ⟨s', st.l, st.h⟩)
  else if o.kind = 2 then (match atP st.l o.n with
    | none => st
    | some f => if cntF st.s.fs (f : Int) = 0 then st else ⟨{ st.s with fs := upS st.s.fs (f : Int) }, st.l, st.h ++ [f]⟩)
  else if o.kind = 3 then (match atP st.h o.n with
    | none => st
    | some f => ⟨{ st.s with fs := downS st.s.fs (f : Int) }, st.l, st.h.eraseIdx (o.n.toNat % st.h.length)⟩)
  else if o.kind = 4 then ⟨drpC st.s, st.l, st.h⟩ else st
theorem upS_zero {fs : List FR} {f : Int} (h : cntF fs f = 0) : upS fs f = fs := by unfold upS; rw [if_pos h]
/-- What does keeps; ex: what is held besides. -/
structure Did (rd : Int → Int → List UInt8 × Int) (st st' : S8) (ex : List Nat) : Prop where
  good : Good rd st'.s (st'.h ++ ex)
  len : st'.s.fs.length = st.s.fs.length
  tn : st'.s.tn ≤ st.s.tn + 1
  ll : st'.l.length ≤ st.l.length + 1
  hh : st'.h.length ≤ st.h.length + 1
theorem erase_perm {α : Type} : ∀ (l : List α) (j : Nat) (hj : j < l.length), l.Perm (l[j] :: l.eraseIdx j)
  | [], _, hj => by simp at hj
  | x :: l, 0, _ => by simp
  | x :: l, j + 1, hj => by
    have := erase_perm l j (by simpa using hj)
    simp only [List.getElem_cons_succ, List.eraseIdx_cons_succ]
    exact (this.cons x).trans (List.Perm.swap _ _ _)
theorem does8_did {rd : Int → Int → List UInt8 × Int} {st : S8} {ex : List Nat} (o : O8) (G : Good rd st.s (st.h ++ ex)) (hr : ∀ i p, (rd i p).1.length ≤ 4096) : Did rd st (does8 rd st o) ex := by
  have same : Did rd st st ex := ⟨G, rfl, by omega, by omega, by omega⟩
  unfold does8
  by_cases k0 : o.kind = 0
  · rw [if_pos k0]
    rcases getC_case G o.i o.p hr with ⟨e, h1, h2, _⟩ | ⟨k, s', h1, h2⟩
    · rw [h1]
      simp only [if_neg h2]
      exact same
    · rw [h1]
      simp only [if_true, Int.toNat_natCast]
      exact ⟨h2.good, h2.len, by rw [h2.tn]; exact Nat.le_refl _, by simp, by simp⟩
  · rw [if_neg k0]
    by_cases k1 : o.kind = 1
    · rw [if_pos k1]
      rcases takC_case G with ⟨k, s', h1, T⟩ | ⟨h1, _⟩
      · rw [h1]
        simp only [if_true, Int.toNat_natCast]
        exact ⟨(T.good G).perm (by rw [List.append_assoc]; exact List.perm_middle.symm), by simp only [T.fs, List.length_set], by simp only [T.tn]; omega, by simp, by simp⟩
      · rw [h1]
        exact same
    · rw [if_neg k1]
      by_cases k2 : o.kind = 2
      · rw [if_pos k2]
        cases ha : atP st.l o.n with
        | none => exact same
        | some f =>
          simp only
          by_cases hc : cntF st.s.fs (f : Int) = 0
          · rw [if_pos hc]; exact same
          · rw [if_neg hc]
            have hf : f < st.s.fs.length := by
              rcases Nat.lt_or_ge f st.s.fs.length with h | h
              · exact h
              · exact absurd (cntF_out (by omega)) hc
            refine ⟨(G.up hf (by rw [← cntF_at hf]; exact hc)).perm (by rw [List.append_assoc]; exact List.perm_middle.symm), ?_, by simp only; omega, by simp, by simp⟩
            simp only [upS, if_neg hc, List.length_set]
      · rw [if_neg k2]
        by_cases k3 : o.kind = 3
        · rw [if_pos k3]
          cases ha : atP st.h o.n with
          | none => exact same
          | some f =>
            simp only
            have hc : ¬ (st.h = [] ∨ o.n < 0) := fun e => by unfold atP at ha; rw [if_pos e] at ha; cases ha
            obtain ⟨j, hj, _, h2, hjj⟩ := atP_some hc
            rw [← hjj]
            rw [ha] at h2
            have e2 := Option.some.inj h2
            have hp : (st.h ++ ex).Perm (f :: (st.h.eraseIdx j ++ ex)) := by
              have h3 : st.h.Perm (st.h[j] :: st.h.eraseIdx j) := erase_perm _ _ hj
              rw [← e2] at h3
              exact h3.append_right ex
            refine ⟨(G.perm hp).down, ?_, by simp only; omega, by simp, ?_⟩
            · simp only [downS]
              split
              · rfl
              · rw [List.length_set]
            · simp only [List.length_eraseIdx]
              split <;> omega
        · rw [if_neg k3]
          by_cases k4 : o.kind = 4
          · rw [if_pos k4]
            refine ⟨G.drop, ?_, by simp only [drpC]; omega, by simp, by simp⟩
            simp only [drpC, drpF_len]
          · rw [if_neg k4]; exact same

/-- A list of bytes of one's own that is to stand. -/
structure KP where
  base : Nat
  v : Value
  n : Nat
  xs : List Value
def nK : KP := ⟨0, .slice none 0 0, 0, []⟩
/-- In memory: the struct in ob; its lists; and a list of bytes that stands besides. -/
structure OW (K : KP) (w0 : World) (F : Nat) (t : FT) (p g h c m ob : Nat) (vl vh : Value) (st : S8) (ws : List Nat) (w : World) : Prop where
  own : Row w ob 53 [.pointer (some ⟨p, 0, none⟩), .pointer (some ⟨F, 0, none⟩), .pointer (some ⟨c, 0, none⟩), vl, vh]
  cw : CW w0 F t p g h c m st.s ws w
  ll : w.ownsRow w0.heap.size 3 1 vl st.l.length (st.l.map nI)
  hh : w.ownsRow w0.heap.size 3 1 vh st.h.length (st.h.map nI)
  lo : w0.heap.size ≤ ob
  ne : ∀ g, vl.ownBlock = some g → vh.ownBlock ≠ some g
  kp : w.ownsRow K.base 5 1 K.v K.n K.xs
section
variable {K : KP} {w0 w w' : World} {F : Nat} {t : FT} {p g h c m ob : Nat} {vl vh : Value} {st : S8} {ws ws' : List Nat}
theorem OW.nS (H : OW K w0 F t p g h c m ob vl vh st ws w) : ¬ cS g h c m ob := by
  rintro (e | e | e | e)
  · exact row_tys H.own H.cw.cache (by decide) e
  · exact H.cw.map.row H.own e.symm
  · exact row_tys H.own H.cw.pool.frames (by decide) e
  · exact row_tys H.own H.cw.pool.words (by decide) e
theorem own_map {E n base : Nat} {v : Value} {xs : List Value} {N : Nat} {sl : List SLO} (ho : w.ownsRow base E 1 v n xs) (hm : CM w m N sl) : some m ≠ v.ownBlock := by
  rcases ho.2 with ⟨h1, _⟩ | ⟨g, cap, cur, rfl, hb, hg, _⟩
  · rw [h1]; exact fun e => by cases e
  · intro e1
    simp only [Value.ownBlock, Option.some.injEq] at e1
    subst e1
    obtain ⟨D, ⟨es, clock, hb, _⟩, _⟩ := hm
    rw [hb] at hg
    cases hg
theorem CW.nI {base n : Nat} {v : Value} {xs : List Value} {s : CC} (H : CW w0 F t p g h c m s ws w) (ho : w.ownsRow base 3 1 v n xs) : ∀ k, v.ownBlock = some k → ¬ cS g h c m k := by
  intro k e hk
  rcases hk with rfl | rfl | rfl | rfl
  · exact own_row_ne ho H.cache (by decide) e.symm
  · exact own_map ho H.map e.symm
  · exact own_row_ne ho H.pool.frames (by decide) e.symm
  · exact own_row_ne ho H.pool.words (by decide) e.symm
theorem CW.nU8 {base n : Nat} {v : Value} {xs : List Value} {s : CC} (H : CW w0 F t p g h c m s ws w) (ho : w.ownsRow base 5 1 v n xs) : ∀ k, v.ownBlock = some k → ¬ cS g h c m k := by
  intro k e hk
  rcases hk with rfl | rfl | rfl | rfl
  · exact own_row_ne ho H.cache (by decide) e.symm
  · exact own_map ho H.map e.symm
  · exact own_row_ne ho H.pool.frames (by decide) e.symm
  · exact own_row_ne ho H.pool.words (by decide) e.symm
theorem own_kept_tys {base n base' n' : Nat} {E E' : TypeId} {v u : Value} {xs ys : List Value} (ho : w.ownsRow base E 1 v n xs) (hu : w.ownsRow base' E' 1 u n' ys) (hE : E ≠ E') (hg : w.grownBy w' u.ownBlock) : w'.ownsRow base E 1 v n xs :=
  ho.kept hg (by
    cases hv : v.ownBlock with
    | none => exact .inl rfl
    | some k => exact .inr (fun e => by
        have hk := (ho.lt k hv).2
        obtain ⟨o, hob⟩ : ∃ o, w.heap[k]? = some o := ⟨_, Array.getElem?_eq_getElem hk⟩
        obtain ⟨c1, e1⟩ := own_cells ho k o hv hob
        obtain ⟨c2, e2⟩ := own_cells hu k o e.symm hob
        rw [e1] at e2
        cases e2
        exact hE rfl))
/-- A call on the cache. -/
theorem OW.call (H : OW K w0 F t p g h c m ob vl vh st ws w) {s' : CC} (hc : CW w0 F t p g h c m s' ws' w') (he : EX (cS g h c m) w w') : OW K w0 F t p g h c m ob vl vh { st with s := s' } ws' w' :=
  ⟨he.row H.own H.nS, hc, he.own H.ll (H.cw.nI H.ll), he.own H.hh (H.cw.nI H.hh), H.lo, H.ne, he.own H.kp (H.cw.nU8 H.kp)⟩
theorem OW.below (H : OW K w0 F t p g h c m ob vl vh st ws w) (hb : Below w.heap.size w w') : OW K w0 F t p g h c m ob vl vh st ws w' :=
  ⟨H.own.below hb H.own.lt, H.cw.below hb, own_below H.ll hb, own_below H.hh hb, H.lo, H.ne, own_below H.kp hb⟩
/-- All that is the cache's stands where a list of numbers turns. -/
theorem CW.grown {base n : Nat} {v : Value} {xs : List Value} {s : CC} (H : CW w0 F t p g h c m s ws w) (ho : w.ownsRow base 3 1 v n xs) (hg : w.grownBy w' v.ownBlock) (hb : ∀ k, v.ownBlock = some k → w0.heap.size ≤ k) : CW w0 F t p g h c m s ws w' :=
  have r := fun {gg : Nat} {T : TypeId} {cs : List Value} (hh : Row w gg T cs) (hT : T ≠ 3) => hh.grown hg (own_row_ne ho hh hT)
  ⟨r H.cache (by decide), ⟨r H.pool.pool (by decide), r H.pool.frames (by decide), r H.pool.words (by decide), H.pool.ok, H.pool.n1, H.pool.n2, H.pool.wl, H.pool.wb, H.pool.c0⟩, H.map.same (hg.block m H.map.lt (own_map ho H.map)), H.files, H.low.grown hg H.low.size hb, H.lg, H.lh, H.lc, H.lm, H.few, H.tb⟩
theorem own_kept2 {base E n base' n' : Nat} {v u : Value} {xs ys : List Value} (ho : w.ownsRow base E 1 v n xs) (_hu : w.ownsRow base' E 1 u n' ys) (hg : w.grownBy w' u.ownBlock) (hne : ∀ g, u.ownBlock = some g → v.ownBlock ≠ some g) : w'.ownsRow base E 1 v n xs :=
  ho.kept hg (by
    cases hv : v.ownBlock with
    | none => exact .inl rfl
    | some k => exact .inr (fun e => hne k e.symm hv))
theorem own_base_le {base E n : Nat} {v : Value} {xs : List Value} (ho : w.ownsRow base E 1 v n xs) : ∀ k, v.ownBlock = some k → base ≤ k ∧ k < w.heap.size := fun k hk => ⟨(ho.lt k hk).1, (ho.lt k hk).2⟩
/-- A list of answers grows. -/
theorem OW.appL (H : OW K w0 F t p g h c m ob vl vh st ws w) {v' : Value} {x : Nat} (ho : w'.ownsRow w0.heap.size 3 1 v' (st.l.length + 1) (st.l.map nI ++ [nI x])) (hg : w.grownBy w' vl.ownBlock) (hn : v'.ownBlock = vl.ownBlock ∨ v'.ownBlock = some w.heap.size) :
    OW K w0 F t p g h c m ob v' vh { st with l := st.l ++ [x] } ws (w'.setCell ⟨ob, 3, none⟩ v') := by
  have hr := H.own.grown hg (own_row_ne H.ll H.own (by decide))
  have hc := H.cw.grown H.ll hg (fun k hk => (own_base_le H.ll k hk).1)
  have hh := own_kept2 H.hh H.ll hg H.ne
  have hk9 := own_kept_tys H.kp H.ll (by decide) hg
  refine ⟨hr.set 3 _, ?_, own_ext (own_setOther ho (own_row_ne ho hr (by decide)) _) (by simp) (by simp), own_setOther hh (own_row_ne hh hr (by decide)) _, H.lo, fun k hk => ?_, own_setOther hk9 (own_row_ne hk9 hr (by decide)) _⟩
  · exact ⟨hc.cache.other (row_tys hc.cache hr (by decide)) _, ⟨hc.pool.pool.other (row_tys hc.pool.pool hr (by decide)) _, hc.pool.frames.other (row_tys hc.pool.frames hr (by decide)) _, hc.pool.words.other (row_tys hc.pool.words hr (by decide)) _, hc.pool.ok, hc.pool.n1, hc.pool.n2, hc.pool.wl, hc.pool.wb, hc.pool.c0⟩,
      hc.map.same (heap_setCell_other _ _ m _ (hc.map.row hr)), hc.files, bset hc.low H.lo _, hc.lg, hc.lh, hc.lc, hc.lm, hc.few, hc.tb⟩
  · rcases hn with e | e
    · exact H.ne k (e ▸ hk)
    · rw [e] at hk
      cases hk
      intro e2
      have := (own_base_le H.hh _ e2).2
      omega
theorem OW.other (H : OW K w0 F t p g h c m ob vl vh st ws w) {u : Value} {base n : Nat} {ys : List Value} (hu : w.ownsRow base 3 1 u n ys) (hub : w0.heap.size ≤ base) (hul : ∀ k, u.ownBlock = some k → vl.ownBlock ≠ some k) (huh : ∀ k, u.ownBlock = some k → vh.ownBlock ≠ some k) (hg : w.grownBy w' u.ownBlock) : OW K w0 F t p g h c m ob vl vh st ws w' :=
  ⟨H.own.grown hg (own_row_ne hu H.own (by decide)), H.cw.grown hu hg (fun k hk => Nat.le_trans hub (own_base_le hu k hk).1), own_kept2 H.ll hu hg hul, own_kept2 H.hh hu hg huh, H.lo, H.ne, own_kept_tys H.kp hu (by decide) hg⟩
theorem OW.neH (H : OW K w0 F t p g h c m ob vl vh st ws w) : ∀ k, vh.ownBlock = some k → vl.ownBlock ≠ some k := fun k e1 e2 => H.ne k e2 e1
theorem OW.appH (H : OW K w0 F t p g h c m ob vl vh st ws w) {v' : Value} {hs : List Nat} {u : Value} {base n : Nat} {ys : List Value} (hu : w.ownsRow base 3 1 u n ys) (hub : w0.heap.size ≤ base) (hul : ∀ k, u.ownBlock = some k → vl.ownBlock ≠ some k) (ho : w'.ownsRow w0.heap.size 3 1 v' hs.length (hs.map nI)) (hg : w.grownBy w' u.ownBlock) (hn : v'.ownBlock = u.ownBlock ∨ v'.ownBlock = some w.heap.size) :
    OW K w0 F t p g h c m ob vl v' { st with h := hs } ws (w'.setCell ⟨ob, 4, none⟩ v') := by
  have hr := H.own.grown hg (own_row_ne hu H.own (by decide))
  have hc := H.cw.grown hu hg (fun k hk => Nat.le_trans hub (own_base_le hu k hk).1)
  have hl := own_kept2 H.ll hu hg hul
  have hk9 := own_kept_tys H.kp hu (by decide) hg
  refine ⟨hr.set 4 _, ?_, own_setOther hl (own_row_ne hl hr (by decide)) _, own_setOther ho (own_row_ne ho hr (by decide)) _, H.lo, fun k hk => ?_, own_setOther hk9 (own_row_ne hk9 hr (by decide)) _⟩
  · exact ⟨hc.cache.other (row_tys hc.cache hr (by decide)) _, ⟨hc.pool.pool.other (row_tys hc.pool.pool hr (by decide)) _, hc.pool.frames.other (row_tys hc.pool.frames hr (by decide)) _, hc.pool.words.other (row_tys hc.pool.words hr (by decide)) _, hc.pool.ok, hc.pool.n1, hc.pool.n2, hc.pool.wl, hc.pool.wb, hc.pool.c0⟩,
      hc.map.same (heap_setCell_other _ _ m _ (hc.map.row hr)), hc.files, bset hc.low H.lo _, hc.lg, hc.lh, hc.lc, hc.lm, hc.few, hc.tb⟩
  · rcases hn with e | e
    · intro e2
      rw [e] at e2
      exact hul k e2 hk
    · rw [e]
      intro e2
      cases e2
      have := (own_base_le H.ll _ hk).2
      omega
end
theorem infoI : (Tryd.prog.info? 3).map (fun i => (i.zero, i.size, i.bytes)) = some (some (.int .i64 0), 1, 8) := by kernel_rfl
/-- append(v, x), numbers. -/
theorem wpList_apI {w : World} {ops : Array Oper} {rest : List Oper} {o : Oper} {a : Act} {Q : Exit → Act → World → Prop} (hgd : o.guard = none) (s x : Operand)
    (ho : o.op = .call { callee := .builtin .append, args := #[s, x], argTypes := #[51, 51] })
    (base : Nat) (v : Value) (n : Nat) (xs news : List Value) (hs : a.eval s = v) (ad : Addr) (m c : Nat) (hx : a.eval x = .slice (some ad) m c) (hown : w.ownsRow base 3 1 v n xs) (hy : Cel w (some ad) m news) (hone : ∀ u ∈ news, u.oneCell' = true) (hn : n + m ≤ 1000000000) (hbase : base ≤ w.heap.size)
    (h : ∀ v' w', w'.ownsRow base 3 1 v' (n + m) (xs ++ news) → w.grownBy w' v.ownBlock → (v'.ownBlock = v.ownBlock ∨ v'.ownBlock = some w.heap.size) → wpList Tryd.prog ops Q rest (a.put o.dst v') w') :
    wpList Tryd.prog ops Q (o :: rest) a w := by
  obtain ⟨i0, hi0, hz0, hz1, hz2⟩ := info_parts infoI
  refine wpList_append_own_at w hgd s x _ ho base _ i0 _ 1 8 Tryd.underlying51 hi0 hz0 hz1 hz2 rfl (by decide) v n _ hs hown ad m c news hx (by have := hy.hlen; omega) hy.news hone (by unfold maxLen; omega) (by omega) hbase ?_
  intro v' w' h1 h2 _ h4
  exact h v' w' h1 h2 h4
end Go.Proofs.YtlfgogjjnekfpaaDoor
