
/- Lists of bytes of the call's own that came out of a text: their block bears a mark behind its cells. No program is named. -/
import Derived.Test.YtcbkikioapdbbaaDoorAP
import Derived.Laws.IdiomStrings
namespace Go.Proofs.YtcbkikioapdbbaaDoor
open Go.RowKit Go.Sort

theorem run_storeCells_mk {P : Program} (g o : Nat) (t : TypeId) (f1 f2 : Nat) : ∀ (vs : List Value) (i : Nat) (cur : Array Value) (w : World), w.heap[g]? = some (.cells cur t (f1, f2)) → (f1 = f2 ∨ cur.size ≤ f1) → o + i + vs.length ≤ cur.size → (∀ v ∈ vs, v.oneCell' = true) →
    (storeCells ⟨g, o, none⟩ vs i).run P w = .ok () (w.setRow g (cur.toList.take (o + i) ++ vs ++ cur.toList.drop (o + i + vs.length)).toArray)
  | [], i, cur, w, hg, _, _, _ => by
    simp only [storeCells, List.append_nil, List.length_nil, Nat.add_zero, List.take_append_drop, Array.toArray_toList]
    rw [setRow_self w g cur t (f1, f2) hg]
    rfl
  | v :: rest, i, cur, w, hg, hf, hl, h1 => by
    have hi : o + i < cur.size := by simp at hl; omega
    have hadd : (⟨g, o, none⟩ : Addr).add i = ⟨g, o + i, none⟩ := by unfold Addr.add; split <;> simp_all
    have hcell : w.cell? ⟨g, o + i, none⟩ = some cur[o + i] := by simp [World.cell?, hg, hi]
    have hfro : w.frozen? ⟨g, o + i, none⟩ = false := by simp [World.frozen?, hg]; omega
    have hst : (store ((⟨g, o, none⟩ : Addr).add i) v).run P w = .ok () (w.setRow g (cur.setIfInBounds (o + i) v)) := by
      rw [hadd, run_store P w _ v _ (h1 v (by simp)), hcell]
      simp [hfro, setCell_eq_setRow w g (o + i) cur t (f1, f2) v hg]
    have ih := run_storeCells_mk (P := P) g o t f1 f2 rest (i + 1) (cur.setIfInBounds (o + i) v) (w.setRow g (cur.setIfInBounds (o + i) v)) (setRow_heap w g cur _ t _ hg) (by simpa using hf) (by simp at hl ⊢; omega) (fun x hx => h1 x (by simp [hx]))
    simp only [storeCells, Sem.run_bind, hst, Result.andThen_ok]
    rw [ih, setRow_setRow]
    congr 2
    have e := list_seg_step cur.toList (o + i) v rest (by simp at hl ⊢; omega)
    simpa [Array.toList_setIfInBounds, Nat.add_assoc] using e

/-- An own list, marked or not. -/
def OwnM (w : World) (base : Nat) (e : TypeId) (v : Value) (n : Nat) (xs : List Value) : Prop :=
  xs.length = n ∧ ∃ g cap cur f1 f2, v = .slice (some ⟨g, 0, none⟩) n cap ∧ base ≤ g ∧ w.heap[g]? = some (.cells cur e (f1, f2)) ∧ (f1 = f2 ∨ cur.size ≤ f1) ∧ n ≤ cap ∧ cap ≤ maxLen ∧ cur.size = cap ∧ cur.toList.take n = xs

theorem OwnM.of {w : World} {base n : Nat} {e : TypeId} {v : Value} {xs : List Value} (h : w.ownsRow base e 1 v n xs) (hn : 0 < n) : OwnM w base e v n xs := by
  rcases h.2 with ⟨_, h0⟩ | ⟨g, cap, cur, hv, hb, hg, hnc, hcm, hcs, htake⟩
  · omega
  · exact ⟨by have := h.1; omega, g, cap, cur, 0, 0, hv, hb, hg, .inl rfl, hnc, hcm, by omega, by rw [Nat.mul_one] at htake; exact htake⟩
theorem OwnM.cel {w : World} {base n : Nat} {e : TypeId} {v : Value} {xs : List Value} (h : OwnM w base e v n xs) : ∃ g c, v = .slice (some ⟨g, 0, none⟩) n c ∧ Cel w (some ⟨g, 0, none⟩) n xs ∧ base ≤ g ∧ g < w.heap.size ∧ n ≤ c ∧ c ≤ maxLen := by
  obtain ⟨hl, g, cap, cur, f1, f2, rfl, hb, hg, hf, hnc, hcm, hcs, htake⟩ := h
  refine ⟨g, cap, rfl, ⟨hl, fun i hi => ⟨g, 0, rfl, ?_⟩⟩, hb, (Array.getElem?_eq_some_iff.1 hg).1, hnc, hcm⟩
  have hi2 : i < cur.size := by omega
  have hx : xs[i] = cur[i] := by
    have h9 : (cur.toList.take n)[i]? = some cur[i] := by rw [List.getElem?_take, if_pos (by omega)]; simp [hi2]
    rw [htake, List.getElem?_eq_getElem hi] at h9
    simpa using h9
  rw [hx, Nat.zero_add]
  simp [World.cell?, hg, hi2]
theorem OwnM.below {w w' : World} {base n B : Nat} {e : TypeId} {v : Value} {xs : List Value} (h : OwnM w base e v n xs) (hb : Below B w w') (hB : w.heap.size ≤ B) : OwnM w' base e v n xs := by
  obtain ⟨hl, g, cap, cur, f1, f2, hv, hbg, hg, r⟩ := h
  exact ⟨hl, g, cap, cur, f1, f2, hv, hbg, by rw [hb.block g (by have := (Array.getElem?_eq_some_iff.1 hg).1; omega)]; exact hg, r⟩
theorem OwnM.other {w w' : World} {base n : Nat} {e : TypeId} {v : Value} {xs : List Value} {row : Option Nat} (h : OwnM w base e v n xs) (hg : w.grownBy w' row) (hne : v.ownBlock ≠ row) : OwnM w' base e v n xs := by
  obtain ⟨hl, g, cap, cur, f1, f2, hv, hbg, hgg, r⟩ := h
  refine ⟨hl, g, cap, cur, f1, f2, hv, hbg, ?_, r⟩
  rw [hg.block g (Array.getElem?_eq_some_iff.1 hgg).1 (by rw [hv] at hne; simpa [Value.ownBlock] using hne)]
  exact hgg
theorem OwnM.setOther {w : World} {base n b o : Nat} {e : TypeId} {v : Value} {xs : List Value} (h : OwnM w base e v n xs) (hne : v.ownBlock ≠ some b) (u : Value) : OwnM (w.setCell ⟨b, o, none⟩ u) base e v n xs := by
  obtain ⟨hl, g, cap, cur, f1, f2, hv, hbg, hgg, r⟩ := h
  refine ⟨hl, g, cap, cur, f1, f2, hv, hbg, ?_, r⟩
  rw [heap_setCell_other w _ g u (by rw [hv] at hne; simpa [Value.ownBlock] using hne)]
  exact hgg
theorem OwnM.from' {w : World} {base base' n : Nat} {e : TypeId} {v : Value} {xs : List Value} (h : OwnM w base e v n xs) (hb : base' ≤ base) : OwnM w base' e v n xs := by
  obtain ⟨hl, g, cap, cur, f1, f2, hv, hbg, r⟩ := h
  exact ⟨hl, g, cap, cur, f1, f2, hv, Nat.le_trans hb hbg, r⟩
theorem run_append_M {P : Program} (w : World) (base : Nat) (t ty e : TypeId) (i : TypeInfo) (z : Value) (bytes : Nat) (ht : P.underlying t = some (.slice e)) (hi : P.info? e = some i) (hz : i.zero = some z)
    (hsize : i.size = 1) (hby : i.bytes = bytes) (hzs : z.cells.size = 1) (v : Value) (n : Nat) (xs : List Value) (hown : OwnM w base e v n xs)
    (a : Addr) (m c : Nat) (news : List Value) (hl : news.length = m) (hnews : ∀ j u, news[j]? = some u → w.cell? (a.add j) = some u) (h1 : ∀ u ∈ news, u.oneCell' = true)
    (h63 : n + m ≤ maxLen) (hbytes : (n + m) * bytes ≤ 140737488355328) (hbase : base ≤ w.heap.size) :
    ∃ v' w', (Builtin.append_ #[t, t] ty #[v, .slice (some a) m c]).run P w = .ok v' w' ∧ OwnM w' base e v' (n + m) (xs ++ news) ∧ w.grownBy w' v.ownBlock := by
  subst hby
  have hsmall : n + m ≤ 9223372036854775807 := by simp only [maxLen] at h63; omega
  obtain ⟨hlc, hcel⟩ := (show True ∧ True from ⟨trivial, trivial⟩)
  have hc := hown.cel
  obtain ⟨hxl, g, cap, cur, f1, f2, rfl, hbg, hg, hf, hnc, hcm, hcs, htake⟩ := hown
  have hlen : (xs ++ news).length = n + m := by rw [List.length_append, hl]; omega
  by_cases hroom : n + m ≤ cap
  · have hff := run_firstCells_some (P := P) w i.size m a m c news (by rw [hsize]; omega) hnews
    have hst := run_storeCells_mk (P := P) g n e f1 f2 news 0 cur w hg hf (by omega) h1
    simp only [Nat.add_zero] at hst
    refine ⟨.slice (some ⟨g, 0, none⟩) (n + m) cap, w.setRow g (cur.toList.take n ++ news ++ cur.toList.drop (n + news.length)).toArray, ?_, ⟨hlen, g, cap, _, f1, f2, rfl, hbg, setRow_heap w g cur _ e _ hg, ?_, hroom, hcm, ?_, ?_⟩, ⟨rfl, rfl, rfl, by simp, fun k _ hk => setRow_other w g k _ (fun e => hk (by simp [Value.ownBlock, e]))⟩⟩
    · rw [hsize] at hff
      simp [Builtin.append_, run_underlying ht, sizeOf, typeInfo, hi, hsize, Builtin.lenOf, hroom, hff, Addr.add_lit, hst]
    · rcases hf with h | h
      · exact .inl h
      · right
        simp only [List.size_toArray, List.length_append, List.length_take, List.length_drop, Array.length_toList]
        omega
    · simp only [List.size_toArray, List.length_append, List.length_take, List.length_drop, Array.length_toList]
      omega
    · rw [htake, ← hlen]
      exact List.take_left
  · obtain ⟨g', c', he, hce, _⟩ := hc
    simp only [Value.slice.injEq, Option.some.injEq, Addr.mk.injEq, and_true, true_and] at he
    obtain ⟨rfl, rfl⟩ := he
    have holds : ∀ j u, xs[j]? = some u → w.cell? ((⟨g, 0, none⟩ : Addr).add j) = some u := hce.news
    have hr := run_append_grow (P := P) w t ty e i z ht hi hz ⟨g, 0, none⟩ n cap xs (by rw [hsize]; omega) holds a m c news (by rw [hsize]; omega) hnews (by omega) (by omega) (growslice_fits (by omega) hbytes)
    have hge := grownCap_ge w (n + m) cap e
    have hcm2 : grownCap w (n + m) cap e ≤ maxLen := grownCap_le_maxLen w (n + m) cap e h63
    refine ⟨_, _, hr, ⟨hlen, w.heap.size, _, _, 0, 0, rfl, hbase, heap_alloc_new w.drew _, .inl rfl, hge, hcm2, ?_, ?_⟩, ⟨rfl, rfl, rfl, by simp, fun k hk _ => heap_alloc_old w.drew _ hk⟩⟩
    · simp only [Array.size_append, List.size_toArray, size_zeroCells, hzs]
      omega
    · simp only [Array.toList_append, List.append_assoc]
      rw [← List.append_assoc, ← hlen]
      exact List.take_left
theorem wpList_apM {P : Program} {tS tE : TypeId} {bytes : Nat} {z : Value} (hund : P.underlying tS = some (.slice tE)) (hinfo : (P.info? tE).map (fun i => (i.zero, i.size, i.bytes)) = some (some z, 1, bytes)) (hzc : z.cells.size = 1)
    {w : World} {ops : Array Oper} {rest : List Oper} {o : Oper} {a : Act} {Q : Exit → Act → World → Prop} (hgd : o.guard = none) (s x : Operand)
    (ho : o.op = .call { callee := .builtin .append, args := #[s, x], argTypes := #[tS, tS] })
    (base : Nat) (v : Value) (n : Nat) (xs news : List Value) (hs : a.eval s = v) (ad : Addr) (m c : Nat) (hx : a.eval x = .slice (some ad) m c) (hown : OwnM w base tE v n xs) (hy : Cel w (some ad) m news) (hone : ∀ u ∈ news, u.oneCell' = true) (hn : (n + m) * bytes ≤ 140737488355328) (hm : n + m ≤ maxLen) (hbase : base ≤ w.heap.size)
    (h : ∀ v' w', OwnM w' base tE v' (n + m) (xs ++ news) → w.grownBy w' v.ownBlock → Below base w w' → wpList P ops Q rest (a.put o.dst v') w') :
    wpList P ops Q (o :: rest) a w := by
  obtain ⟨i0, hi0, hz0, hz1, hz2⟩ := info_parts hinfo
  obtain ⟨v', w', hr, h2, h3⟩ := run_append_M (P := P) w base tS o.type tE i0 z bytes hund hi0 hz0 hz1 hz2 hzc v n xs hown ad m c news hy.hlen hy.news hone hm hn hbase
  refine wpList_plain hgd fun _ hK => ?_
  unfold Oper.wp execOp
  simp only [ho, resolve, invoke, builtin, Sem.run_bind, Sem.run_pure, Result.andThen_ok, List.map_toArray, List.map_cons, List.map_nil, hs, hx, hr]
  obtain ⟨g, c9, hv9, _, hbg, _⟩ := hown.cel
  refine hK _ _ (h v' w' h2 h3 ((Below.refl _ w).grown h3 hbase (fun k hk => ?_)))
  rw [hv9] at hk
  simp only [Value.ownBlock, Option.some.injEq] at hk
  omega
/-- What a text turned into bytes is. -/
theorem ownM_text (w : World) (e : TypeId) (s : ByteArray) (base : Nat) (hb : base ≤ w.heap.size) (hs : s.size ≤ 1000000) :
    OwnM (w.drew.alloc (.cells (bytesRow s (grownCap w s.size 0 e)) e ((bytesRow s (grownCap w s.size 0 e)).size, (bytesRow s (grownCap w s.size 0 e)).size + 1))) base e (.slice (some ⟨w.heap.size, 0, none⟩) s.size (grownCap w s.size 0 e)) s.size (s.data.toList.map B8) := by
  have hge := grownCap_ge w s.size 0 e
  refine ⟨by simp, w.heap.size, _, _, _, _, rfl, hb, heap_alloc_new w.drew _, .inr (Nat.le_refl _), hge, grownCap_le_maxLen w s.size 0 e (by unfold maxLen; omega), ?_, ?_⟩
  · unfold bytesRow
    simp
    omega
  · unfold bytesRow
    rw [Array.toList_append, List.take_append_of_le_length (by simp), List.take_of_length_le (by simp)]
    simp [B8]
end Go.Proofs.YtcbkikioapdbbaaDoor
