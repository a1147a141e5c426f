/- Structs of any shape, by value or in slices, opened cell by cell. No program is named. -/
import Derived.Test.YtgclemicgcbpjaaO7
import Derived.Deep.Slices
import Derived.SizedLaws
namespace Go.Proofs.Ytgclemicgcbpjaa
open Go.ChangeShapes Go.WideShapes Go.ChangeAt Go.RowKit Go.Joins Go.Sort

/-- All that a datum weighs is at most N. -/
def Small {H : Type} (P : Program) (N : Nat) (t : TypeId) (d : DataW H) : Prop := ∀ n ∈ d.weights P t, n ≤ N
theorem small_of {H : Type} {P : Program} {t : TypeId} {d : DataW H} (h : (d.weights P t).all (· ≤ reachBytes) = true) : Small P reachBytes t d := fun n hn => by
  have := List.all_eq_true.1 h n hn
  simpa using this
theorem weightsAll_mem {H : Type} {P : Program} {e : TypeId} : ∀ {l : List (DataW H)} {d : DataW H}, d ∈ l → ∀ n ∈ d.weights P e, n ∈ DataW.weightsAll P e l
  | [], _, h, _, _ => by simp at h
  | x :: l, d, h, n, hn => by
    simp only [DataW.weightsAll, List.mem_append]
    rcases List.mem_cons.1 h with rfl | h
    · exact .inl hn
    · exact .inr (weightsAll_mem h n hn)

/-- The cells of a type that are no structs: where each lies, and its type. -/
def leaves (P : Program) : Nat → TypeId → List (Nat × TypeId)
  | 0, t => [(0, t)]
  | n + 1, t => match P.underlying t with
    | some (.struct fs) => fs.toList.flatMap fun f => ((leaves P n f.type).filter fun p => decide (p.1 + P.cellsOf p.2 ≤ P.cellsOf f.type)).map fun p => (f.offset + p.1, p.2)
    | _ => [(0, t)]

section
variable {H : Type} {enc : TypeId × Value → H} {P : Program} {w : World} {base : Nat} {spare : Nat → Bool} {held : Bool}

theorem trod_leaf {N : Nat} : ∀ (n : Nat) {fuel : Nat} {t : TypeId} {cs : List Value} {x : DataW H × List MemPlace} (_ : DataW.trod enc P w base spare held fuel t cs = some x) (_ : Small P N t x.1) (_ : cs.length ≤ P.cellsOf t) (p : Nat × TypeId) (_ : p ∈ leaves P n t),
    ∃ m y, DataW.trod enc P w base spare held m p.2 ((cs.drop p.1).take (P.cellsOf p.2)) = some y ∧ Small P N p.2 y.1
  | 0, fuel, t, cs, x, h, hw, hl, p, hp => by
    simp only [leaves, List.mem_singleton] at hp
    subst hp
    exact ⟨fuel, x, by simpa [List.take_of_length_le hl] using h, hw⟩
  | n + 1, fuel, t, cs, x, h, hw, hl, p, hp => by
    by_cases hs : ∃ fs, P.underlying t = some (.struct fs)
    · obtain ⟨fs, ht⟩ := hs
      simp only [leaves, ht] at hp
      obtain ⟨f, hf, hp2⟩ := List.mem_flatMap.1 hp
      obtain ⟨q, hq, rfl⟩ := List.mem_map.1 hp2
      obtain ⟨hq1, hq2⟩ := List.mem_filter.1 hq
      have hq3 : q.1 + P.cellsOf q.2 ≤ P.cellsOf f.type := of_decide_eq_true hq2
      obtain ⟨xs, m, _, rfl, hcl, hxl, hx⟩ := DataW.trod_struct ht h
      obtain ⟨i, hi, he⟩ := List.getElem_of_mem hf
      have hi2 : fs[i]? = some f := by rw [← he]; simp at hi; simp [hi]
      have hgx := hx i f hi2
      have hix : i < xs.length := by simp at hi; omega
      rw [List.getElem?_eq_getElem hix] at hgx
      have hsm : Small P N f.type xs[i].1 := by
        intro n' hn'
        apply hw
        simp only [DataW.weights, ht]
        exact DataW.weights_mem_each (j := i) (t := f.type) (d := xs[i].1) (by rw [List.getElem?_map]; simp [hi2]) (by rw [List.getElem?_map, List.getElem?_eq_getElem hix]; rfl) n' hn'
      obtain ⟨m2, y, hy, hy2⟩ := trod_leaf n hgx hsm (List.length_take_le _ _) q hq1
      refine ⟨m2, y, ?_, hy2⟩
      rw [List.drop_take, List.drop_drop, List.take_take] at hy
      rw [show min (P.cellsOf q.2) (P.cellsOf f.type - q.1) = P.cellsOf q.2 by omega] at hy
      exact hy
    · have : leaves P (n + 1) t = [(0, t)] := by
        unfold leaves
        split
        · rename_i fs h2; exact absurd ⟨fs, h2⟩ hs
        · rfl
      rw [this, List.mem_singleton] at hp
      subst hp
      exact ⟨fuel, x, by simpa [List.take_of_length_le hl] using h, hw⟩

/-- A leaf of one cell. -/
theorem trod_leaf1 {N n : Nat} {fuel : Nat} {t : TypeId} {cs : List Value} {x : DataW H × List MemPlace} (h : DataW.trod enc P w base spare held fuel t cs = some x) (hw : Small P N t x.1) (hl : cs.length ≤ P.cellsOf t) {o : Nat} {u : TypeId} (hp : (o, u) ∈ leaves P n t) (hc : P.cellsOf u = 1) (ho : o < cs.length) :
    ∃ m y, DataW.trod enc P w base spare held m u [cs[o]] = some y ∧ Small P N u y.1 := by
  obtain ⟨m, y, hy, hy2⟩ := trod_leaf n h hw hl _ hp
  refine ⟨m, y, ?_, hy2⟩
  simp only [hc] at hy
  rw [List.drop_eq_getElem_cons ho] at hy
  exact hy

/-- A struct by value. -/
theorem open_agg {N n : Nat} {r : Reach} {b0 : Nat} {t : TypeId} {fs : Array Field} {v : Value} {d : DataW H} {ps : List MemPlace} (ht : P.underlying t = some (.struct fs)) (hv : Value.okWide P w r b0 t v) (h : DataW.Trod enc P w base spare held t v d ps) (hw : Small P N t d) :
    ∃ cs : Array Value, v = .agg cs ∧ cs.size = P.cellsOf t ∧ ∀ o u, (o, u) ∈ leaves P n t → P.cellsOf u = 1 → ∀ ho : o < cs.size, ∃ m y, DataW.trod enc P w base spare held m u [cs[o]] = some y ∧ Small P N u y.1 := by
  obtain ⟨cs, rfl, hsz⟩ := okWide_struct ht hv
  obtain ⟨fuel, hf⟩ := h
  refine ⟨cs, rfl, hsz, fun o u hp hc ho => ?_⟩
  have hf2 : DataW.trod enc P w base spare held fuel t cs.toList = some (d, ps) := hf
  have := trod_leaf1 hf2 hw (by simp [hsz]) hp hc (by simpa using ho)
  simpa using this

/-- A slice of structs: each element's leaves lie where they should. -/
theorem open_rows {N n : Nat} {fuel : Nat} {t e : TypeId} {v : Value} {x : DataW H × List MemPlace} (ht : P.underlying t = some (.slice e)) (hf : DataW.trod enc P w base (fun _ => true) held fuel t [v] = some x) (hw : Small P N t x.1) (hpos : 0 < P.cellsOf e) :
    ∃ a len cap, v = .slice a len cap ∧ len ≤ cap ∧ cap ≤ maxLen ∧ (a = none → cap = 0) ∧ cap * P.bytesOf e ≤ N ∧
      ∀ i, i < len → ∃ b off, a = some ⟨b, off, none⟩ ∧ ∀ o u, (o, u) ∈ leaves P n e → P.cellsOf u = 1 → o < P.cellsOf e → ∃ val m y, w.cell? ⟨b, off + i * P.cellsOf e + o, none⟩ = some val ∧ DataW.trod enc P w base (fun _ => true) held m u [val] = some y ∧ Small P N u y.1 := by
  rcases Go.Deep.open_slice ht hf with ⟨hcs, _⟩ | ⟨a', len', cap', m, n', D, Pl, hcs, _, hl, hm, hmm, hxx, hx⟩
  · simp only [List.cons.injEq, and_true] at hcs
    exact ⟨none, 0, 0, hcs, Nat.le_refl _, by simp [maxLen], fun _ => rfl, by simp, fun i hi => by omega⟩
  · simp only [List.cons.injEq, and_true] at hcs
    simp only [if_true] at hmm
    subst hmm
    refine ⟨some a', len', m, hcs, hl, hm, (fun h => by cases h), ?_, fun i hi => ?_⟩
    · have := hw ((((List.range len').map D).length + ((List.range (m - len')).map fun j => D (len' + j)).length) * P.bytesOf e) (by rw [hxx]; simp only [DataW.weights, ht]; exact List.mem_cons_self ..)
      simp only [List.length_map, List.length_range] at this
      rwa [show len' + (m - len') = m by omega] at this
    · obtain ⟨cs', hc, ht'⟩ := hx i (by omega)
      obtain ⟨_, hlen, hat⟩ := World.cells?_some hc
      have hsD : Small P N e (D i) := by
        intro q hq
        apply hw
        rw [hxx]
        simp only [DataW.weights, ht, List.mem_cons, List.mem_append]
        exact .inr (.inl (weightsAll_mem (List.mem_map.2 ⟨i, List.mem_range.2 hi, rfl⟩) q hq))
      obtain ⟨b, off, spot⟩ := a'
      have hsp : spot = none := by
        obtain ⟨cs0, hc0, _⟩ := hx 0 (by omega)
        obtain ⟨_, hlen0, hat0⟩ := World.cells?_some hc0
        have h0 := hat0 0 hpos
        rw [List.getElem?_eq_getElem (by omega)] at h0
        have h9 := spot_none h0
        simpa [Addr.add] using h9
      subst hsp
      refine ⟨b, off, rfl, fun o u hp hcu ho => ?_⟩
      obtain ⟨m2, y, hy, hy2⟩ := trod_leaf1 ht' hsD (by omega) hp hcu (by omega)
      refine ⟨cs'[o], m2, y, ?_, hy, hy2⟩
      have ad : ((Addr.mk b off none).add (i * P.cellsOf e)).add o = ⟨b, off + i * P.cellsOf e + o, none⟩ := by
        unfold Addr.add
        by_cases e1 : i * P.cellsOf e = 0 <;> by_cases e2 : o = 0 <;> simp [e1, e2]
      have h1 := hat o ho
      rw [ad, List.getElem?_eq_getElem (by omega)] at h1
      exact h1
theorem open_rows_arg {N n : Nat} {r : Reach} {b0 : Nat} {t e : TypeId} {v : Value} {d : DataW H} {ps : List MemPlace} (ht : P.underlying t = some (.slice e)) (hv : Value.okWide P w r b0 t v) (h : DataW.Trod enc P w base (fun _ => true) held t v d ps) (hw : Small P N t d) (hpos : 0 < P.cellsOf e) :
    ∃ a len cap, v = .slice a len cap ∧ len ≤ cap ∧ cap ≤ maxLen ∧ (a = none → cap = 0) ∧ cap * P.bytesOf e ≤ N ∧
      ∀ i, i < len → ∃ b off, a = some ⟨b, off, none⟩ ∧ ∀ o u, (o, u) ∈ leaves P n e → P.cellsOf u = 1 → o < P.cellsOf e → ∃ val m y, w.cell? ⟨b, off + i * P.cellsOf e + o, none⟩ = some val ∧ DataW.trod enc P w base (fun _ => true) held m u [val] = some y ∧ Small P N u y.1 := by
  obtain ⟨a, len, cap, rfl⟩ := okWide_slice ht hv
  obtain ⟨fuel, hf⟩ := h
  exact open_rows ht hf hw hpos
end
end Go.Proofs.Ytgclemicgcbpjaa
