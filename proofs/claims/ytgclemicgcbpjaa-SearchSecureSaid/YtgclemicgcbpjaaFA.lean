/- vfs: one node more, in memory. -/
import Derived.Test.YtgclemicgcbpjaaF9
import Derived.Test.YtgclemicgcbpjaaF7
namespace Go.Proofs.Ytgclemicgcbpjaa
open Go.RowKit Go.Sort

/-- The paths of the nodes. -/
def pathsL (L : List ND) : List (BL × Nat) := (List.range L.length).map fun i => ((L.getD i default).path, i)
def lookK (L : List ND) (p : BL) : Option Nat := lookI (pathsL L) p
def FT.kn (t : FT) : NL := (pathsL t.L).map fun p => (p.1, t.pt p.2)
def newN (ds : List BL) (j : Nat) (x : EN) : ND := ⟨pathJ ds, j, x.kind, x.mode, x.uid, x.gid, (x.data.length : Nat), [], x.data, x.to⟩
def addN (L : List ND) (j : Nat) (nm : BL) (nd : ND) : List ND := L.set j { L.getD j default with names := (L.getD j default).names ++ [(nm, L.length)] } ++ [nd]

/-- A file system that is being made. -/
structure Bld (w : World) (F K : Nat) (t : FT) : Prop where
  fs : FSat w F t
  kn : NMap w K t.kn
  bl : t.bs.length = t.L.length
  ml : t.ms.length = t.L.length
  mK : ∀ i, i < t.L.length → (t.nd i).kind = 2 → t.mp i ≠ K
  mm : ∀ i j, i < t.L.length → j < t.L.length → (t.nd i).kind = 2 → (t.nd j).kind = 2 → i ≠ j → t.mp i ≠ t.mp j

theorem addN_len (L : List ND) (j : Nat) (nm : BL) (nd : ND) : (addN L j nm nd).length = L.length + 1 := by simp [addN]
theorem addN_old (L : List ND) (j : Nat) (nm : BL) (nd : ND) {i : Nat} (hi : i < L.length) (hij : i ≠ j) : (addN L j nm nd).getD i default = L.getD i default := by
  unfold addN
  rw [List.getD_eq_getElem?_getD, List.getElem?_append_left (by simpa using hi), List.getElem?_set_ne (Ne.symm hij), ← List.getD_eq_getElem?_getD]
theorem addN_at (L : List ND) (j : Nat) (nm : BL) (nd : ND) (hj : j < L.length) : (addN L j nm nd).getD j default = { L.getD j default with names := (L.getD j default).names ++ [(nm, L.length)] } := by
  unfold addN
  rw [List.getD_eq_getElem?_getD, List.getElem?_append_left (by simpa using hj), List.getElem?_set_self hj]
  rfl
theorem addN_new (L : List ND) (j : Nat) (nm : BL) (nd : ND) : (addN L j nm nd).getD L.length default = nd := by
  unfold addN
  rw [List.getD_eq_getElem?_getD, List.getElem?_append_right (by simp)]
  simp
/-- What does not turn in the nodes that were there: all but the names. -/
theorem addN_same (L : List ND) (j : Nat) (nm : BL) (nd : ND) {i : Nat} (hi : i < L.length) : ∃ ns, (addN L j nm nd).getD i default = { L.getD i default with names := ns } ∧ (i ≠ j → ns = (L.getD i default).names) ∧ (i = j → ns = (L.getD i default).names ++ [(nm, L.length)]) := by
  by_cases h : i = j
  · subst h
    exact ⟨_, addN_at L i nm nd hi, fun h => absurd rfl h, fun _ => rfl⟩
  · exact ⟨_, by rw [addN_old L j nm nd hi h], fun _ => rfl, fun e => absurd e h⟩

theorem Fine.add {L : List ND} (h : Fine L) {j : Nat} (hj : j < L.length) (hk : (L.getD j default).kind = 2) {nm : BL} {nd : ND} (hl : L.length ≤ 64) (hu : nd.up = j) (hn : nd.names = []) (hd : nd.data.length ≤ 65536 ∧ nd.size = (nd.data.length : Nat)) (hm : 0 ≤ nd.mode ∧ nd.mode ≤ 65535) (hp : nd.path.length ≤ 1000000) (ht : nd.to.length ≤ 200) : Fine (addN L j nm nd) := by
  have old : ∀ i, i < (addN L j nm nd).length → i < L.length ∨ i = L.length := fun i hi => by rw [addN_len] at hi; omega
  have e0 : (addN L j nm nd).getD L.length default = nd := addN_new L j nm nd
  have kind : ∀ i, i < L.length → ((addN L j nm nd).getD i default).kind = (L.getD i default).kind := fun i hi => by
    obtain ⟨ns, e, _⟩ := addN_same L j nm nd hi
    rw [e]
  refine ⟨by rw [addN_len]; omega, by rw [addN_len]; omega, by rw [kind 0 h.pos]; exact h.root, ?_, ?_, ?_, ?_, ?_, ?_, ?_⟩
  · intro i hi
    rw [addN_len]
    rcases old i hi with h1 | rfl
    · obtain ⟨ns, e, _⟩ := addN_same L j nm nd h1
      have := h.up i h1
      rw [e]
      dsimp only
      exact ⟨by omega, by rw [kind _ this.1]; exact this.2⟩
    · rw [e0, hu]
      exact ⟨by omega, by rw [kind j hj]; exact hk⟩
  · intro i hi p hp'
    rw [addN_len]
    rcases old i hi with h1 | rfl
    · obtain ⟨ns, e, h2, h3⟩ := addN_same L j nm nd h1
      rw [e] at hp'
      dsimp only at hp'
      by_cases hij : i = j
      · rw [h3 hij] at hp'
        rcases List.mem_append.1 hp' with h4 | h4
        · have := h.names i h1 p h4; omega
        · rw [List.mem_singleton.1 h4]; dsimp only; omega
      · rw [h2 hij] at hp'
        have := h.names i h1 p hp'; omega
    · rw [e0, hn] at hp'; cases hp'
  · intro i hi
    rw [addN_len]
    rcases old i hi with h1 | rfl
    · obtain ⟨ns, e, h2, h3⟩ := addN_same L j nm nd h1
      rw [e]
      dsimp only
      have := h.many i h1
      by_cases hij : i = j
      · rw [h3 hij, List.length_append, List.length_singleton]; omega
      · rw [h2 hij]; omega
    · rw [e0, hn]; simp
  · intro i hi
    rcases old i hi with h1 | rfl
    · obtain ⟨ns, e, _⟩ := addN_same L j nm nd h1
      rw [e]; exact h.data i h1
    · rw [e0]; exact hd
  · intro i hi
    rcases old i hi with h1 | rfl
    · obtain ⟨ns, e, _⟩ := addN_same L j nm nd h1
      rw [e]; exact h.mode i h1
    · rw [e0]; exact hm
  · intro i hi
    rcases old i hi with h1 | rfl
    · obtain ⟨ns, e, _⟩ := addN_same L j nm nd h1
      rw [e]; exact h.path i h1
    · rw [e0]; exact hp
  · intro i hi
    rcases old i hi with h1 | rfl
    · obtain ⟨ns, e, _⟩ := addN_same L j nm nd h1
      rw [e]; exact h.to i h1
    · rw [e0]; exact ht

theorem NMap.obj {w : World} {m : Nat} {l : NL} (h : NMap w m l) : ∃ es c, w.heap[m]? = some (.map es c) := by
  obtain ⟨es, c, hm, _⟩ := h
  exact ⟨es, c, hm⟩
/-- The tree with one node more. -/
def FT.add (t : FT) (j : Nat) (nm : BL) (nd : ND) (b m : Nat) : FT := ⟨addN t.L j nm nd, t.bs ++ [b], t.ms ++ [m]⟩
section
variable {t : FT} {j b m : Nat} {nm : BL} {nd : ND}
theorem add_bk (hb : t.bs.length = t.L.length) {i : Nat} (hi : i < t.L.length) : (t.add j nm nd b m).bk i = t.bk i := by
  unfold FT.bk FT.add
  dsimp only
  rw [List.getD_eq_getElem?_getD, List.getElem?_append_left (by omega), ← List.getD_eq_getElem?_getD]
theorem add_mp (hb : t.ms.length = t.L.length) {i : Nat} (hi : i < t.L.length) : (t.add j nm nd b m).mp i = t.mp i := by
  unfold FT.mp FT.add
  dsimp only
  rw [List.getD_eq_getElem?_getD, List.getElem?_append_left (by omega), ← List.getD_eq_getElem?_getD]
theorem add_bk_new (hb : t.bs.length = t.L.length) : (t.add j nm nd b m).bk t.L.length = b := by
  unfold FT.bk FT.add
  dsimp only
  rw [List.getD_eq_getElem?_getD, ← hb]
  simp
theorem add_mp_new (hb : t.ms.length = t.L.length) : (t.add j nm nd b m).mp t.L.length = m := by
  unfold FT.mp FT.add
  dsimp only
  rw [List.getD_eq_getElem?_getD, ← hb]
  simp
theorem add_nd {i : Nat} (hi : i < t.L.length) : ∃ ns, (t.add j nm nd b m).nd i = { t.nd i with names := ns } ∧ (i ≠ j → ns = (t.nd i).names) ∧ (i = j → ns = (t.nd i).names ++ [(nm, t.L.length)]) := addN_same t.L j nm nd hi
theorem add_nd_new : (t.add j nm nd b m).nd t.L.length = nd := addN_new t.L j nm nd
theorem add_pt (hb : t.bs.length = t.L.length) {i : Nat} (hi : i < t.L.length) : (t.add j nm nd b m).pt i = t.pt i := by
  unfold FT.pt
  rw [add_bk hb hi]
  obtain ⟨ns, e, _⟩ := add_nd (t := t) (j := j) (b := b) (m := m) (nm := nm) (nd := nd) hi
  rw [e]
theorem add_pt_new (hb : t.bs.length = t.L.length) : (t.add j nm nd b m).pt t.L.length = (ndT nd.kind, b) := by
  unfold FT.pt
  rw [add_bk_new hb, add_nd_new]
theorem add_hd (hb : t.bs.length = t.L.length) (hf : Fine t.L) {i : Nat} (hi : i < t.L.length) : (t.add j nm nd b m).hd i = t.hd i := by
  unfold FT.hd
  obtain ⟨ns, e, _⟩ := add_nd (t := t) (j := j) (b := b) (m := m) (nm := nm) (nd := nd) hi
  rw [e]
  dsimp only
  rw [show (t.add j nm nd b m).bk (t.nd i).up = t.bk (t.nd i).up from add_bk hb (hf.up i hi).1]
theorem add_kn (hb : t.bs.length = t.L.length) : (t.add j nm nd b m).kn = t.kn ++ [(nd.path, (ndT nd.kind, b))] := by
  unfold FT.kn pathsL
  rw [show (t.add j nm nd b m).L.length = t.L.length + 1 from addN_len _ _ _ _, List.range_succ, List.map_append, List.map_append]
  congr 1
  · rw [List.map_map, List.map_map]
    apply List.map_congr_left
    intro i hi
    have hi' := List.mem_range.1 hi
    simp only [Function.comp]
    obtain ⟨ns, e, _⟩ := add_nd (t := t) (j := j) (b := b) (m := m) (nm := nm) (nd := nd) hi'
    rw [add_pt hb hi', show ((t.add j nm nd b m).L.getD i default).path = (t.L.getD i default).path by
      have e2 : (t.add j nm nd b m).L.getD i default = { t.L.getD i default with names := ns } := e
      rw [e2]]
  · simp only [List.map_cons, List.map_nil]
    rw [add_pt_new hb, show (t.add j nm nd b m).L.getD t.L.length default = nd from add_nd_new]
theorem add_ndVs (hb : t.bs.length = t.L.length) : (List.range (t.L.length + 1)).map (fun i => ndV ((t.add j nm nd b m).pt i)) = (List.range t.L.length).map (fun i => ndV (t.pt i)) ++ [ndV (ndT nd.kind, b)] := by
  rw [List.range_succ, List.map_append]
  congr 1
  · apply List.map_congr_left
    intro i hi
    rw [add_pt hb (List.mem_range.1 hi)]
  · simp only [List.map_cons, List.map_nil]
    rw [add_pt_new hb]
theorem add_nl_other (hb : t.bs.length = t.L.length) (hf : Fine t.L) {i : Nat} (hi : i < t.L.length) (hij : i ≠ j) : (t.add j nm nd b m).nl i = t.nl i := by
  unfold FT.nl
  obtain ⟨ns, e, h2, _⟩ := add_nd (t := t) (j := j) (b := b) (m := m) (nm := nm) (nd := nd) hi
  rw [e]
  dsimp only
  rw [h2 hij]
  apply List.map_congr_left
  intro p hp
  rw [add_pt hb (hf.names i hi p hp)]
theorem add_nl_at (hb : t.bs.length = t.L.length) (hf : Fine t.L) (hj : j < t.L.length) : (t.add j nm nd b m).nl j = t.nl j ++ [(nm, (ndT nd.kind, b))] := by
  unfold FT.nl
  obtain ⟨ns, e, _, h3⟩ := add_nd (t := t) (j := j) (b := b) (m := m) (nm := nm) (nd := nd) hj
  rw [e]
  dsimp only
  rw [h3 rfl, List.map_append]
  congr 1
  · apply List.map_congr_left
    intro p hp
    rw [add_pt hb (hf.names j hj p hp)]
  · simp only [List.map_cons, List.map_nil]
    rw [add_pt_new hb]
end

/-- All the blocks but four stand. -/
structure Stand (w3 w7 : World) (mj K F : Nat) (v : Value) : Prop where
  keep : ∀ b, b < w3.heap.size → b ≠ mj → b ≠ K → b ≠ F → some b ≠ v.ownBlock → w7.heap[b]? = w3.heap[b]?

theorem Bld.add {w w3 w7 : World} {F K j b m : Nat} {t : FT} {nm : BL} {nd : ND} {x : EN} {v v' : Value} {ds : List BL} (h : Bld w F K t) (hj : j < t.L.length) (hk : (t.nd j).kind = 2) (hl : t.L.length ≤ 64) (hnd : nd = newN ds j x)
    (hd : x.data.length ≤ 65536) (hm : 0 ≤ x.mode ∧ x.mode ≤ 65535) (hp : (pathJ ds).length ≤ 1000000) (ht : x.to.length ≤ 200)
    (hN : NewAt w w3 x (t.L.length : Nat) (pathJ ds) (t.bk j) b m) (hb : Below w.heap.size w w3) (hv : Row w F 84 [.pointer (some ⟨t.bk 0, 0, none⟩), v]) (hvo : w.ownsRow 0 75 1 v t.L.length ((List.range t.L.length).map fun i => ndV (t.pt i)))
    (hS : Stand w3 w7 (t.mp j) K F v) (hmj : NMap w7 (t.mp j) (t.nl j ++ [(nm, (ndT x.kind, b))])) (hkn : NMap w7 K (t.kn ++ [(pathJ ds, (ndT x.kind, b))]))
    (hF : Row w7 F 84 [.pointer (some ⟨t.bk 0, 0, none⟩), v']) (hv' : w7.ownsRow 0 75 1 v' (t.L.length + 1) (((List.range t.L.length).map fun i => ndV (t.pt i)) ++ [ndV (ndT x.kind, b)])) : Bld w7 F K (t.add j nm nd b m) := by
  subst hnd
  have hf := h.fs.fine
  have hmjw := ((h.fs.node j hj).dir hk).2
  obtain ⟨es1, cl1, ho1⟩ := hmjw.obj
  obtain ⟨es2, cl2, ho2⟩ := h.kn.obj
  have hFl := hv.lt
  have hvb : ∀ g, v.ownBlock = some g → g < w.heap.size ∧ ∃ cs, w.heap[g]? = some (Obj.cells cs 75 (0, 0)) := by
    intro g e
    rcases hvo.2 with ⟨rfl, _⟩ | ⟨g', cap, cur, rfl, _, hg, _⟩
    · cases e
    · cases e; exact ⟨(Array.getElem?_eq_some_iff.1 hg).1, cur, hg⟩
  -- cells of other types stand
  have cellsK : ∀ (g : Nat) (cs : Array Value) (T : TypeId), w.heap[g]? = some (Obj.cells cs T (0, 0)) → T ≠ 75 → T ≠ 84 → w7.heap[g]? = w.heap[g]? := by
    intro g cs T hg h1 h2
    have hlt := (Array.getElem?_eq_some_iff.1 hg).1
    rw [hS.keep g (Nat.lt_of_lt_of_le hlt hb.size) (by rintro rfl; rw [ho1] at hg; cases hg) (by rintro rfl; rw [ho2] at hg; cases hg) (by rintro rfl; rw [hv.heap] at hg; cases hg; exact h2 rfl) (by
      intro e
      obtain ⟨_, cs', h3⟩ := hvb g e.symm
      rw [h3] at hg; cases hg; exact h1 rfl), hb.block g hlt]
  have mapsK : ∀ (g : Nat) (es : Array MapEntry) (cl : Nat), w.heap[g]? = some (Obj.map es cl) → g ≠ t.mp j → g ≠ K → w7.heap[g]? = w.heap[g]? := by
    intro g es cl hg h1 h2
    have hlt := (Array.getElem?_eq_some_iff.1 hg).1
    rw [hS.keep g (Nat.lt_of_lt_of_le hlt hb.size) h1 h2 (by rintro rfl; rw [hv.heap] at hg; cases hg) (by
      intro e
      obtain ⟨_, cs', h3⟩ := hvb g e.symm
      rw [h3] at hg; cases hg), hb.block g hlt]
  have newK : ∀ g, w.heap.size ≤ g → g < w3.heap.size → w7.heap[g]? = w3.heap[g]? := by
    intro g h1 h2
    have l1 := hmjw.lt
    have l2 := h.kn.lt
    refine hS.keep g h2 (by omega) (by omega) (by omega) (fun e => ?_)
    have := (hvb g e.symm).1
    omega
  have rowK : ∀ g T cs, Row w g T cs → T ≠ 75 → T ≠ 84 → Row w7 g T cs := fun g T cs hr h1 h2 => hr.same (cellsK g _ T hr.heap h1 h2)
  refine ⟨⟨?_, ?_, ?_⟩, ?_, ?_, ?_, ?_, ?_⟩
  · exact Fine.add hf hj hk hl rfl rfl ⟨hd, rfl⟩ hm hp ht
  · refine ⟨v', ?_, ?_⟩
    · rw [add_bk h.bl hf.pos]; exact hF
    · rw [show (t.add j nm (newN ds j x) b m).L.length = t.L.length + 1 from addN_len _ _ _ _, add_ndVs h.bl]
      exact hv'
  · intro i hi
    rw [show (t.add j nm (newN ds j x) b m).L.length = t.L.length + 1 from addN_len _ _ _ _] at hi
    by_cases hin : i < t.L.length
    · obtain ⟨ns, e, h2, h3⟩ := add_nd (t := t) (j := j) (b := b) (m := m) (nm := nm) (nd := newN ds j x) hin
      have hna := h.fs.node i hin
      refine ⟨fun k => ?_, fun k => ?_, fun k k' => ?_⟩
      · rw [e] at k
        dsimp only at k
        rw [add_bk h.bl hin, add_hd h.bl hf hin, add_mp h.ml hin]
        refine ⟨rowK _ _ _ (hna.dir k).1 (by decide) (by decide), ?_⟩
        by_cases hij : i = j
        · subst hij
          rw [add_nl_at h.bl hf hin]; exact hmj
        · rw [add_nl_other h.bl hf hin hij]
          obtain ⟨es3, cl3, ho3⟩ := (hna.dir k).2.obj
          exact (hna.dir k).2.same (mapsK _ _ _ ho3 (h.mm i j hin hj k hk hij) (h.mK i hin k))
      · rw [e] at k
        dsimp only at k
        rw [add_bk h.bl hin, add_hd h.bl hf hin]
        have e2 : ((t.add j nm (newN ds j x) b m).nd i).to = (t.nd i).to := by rw [e]
        rw [e2]
        exact rowK _ _ _ (hna.link k) (by decide) (by decide)
      · rw [e] at k k'
        dsimp only at k k'
        rw [add_bk h.bl hin, add_hd h.bl hf hin]
        have e2 : ((t.add j nm (newN ds j x) b m).nd i).data = (t.nd i).data := by rw [e]
        rw [e2]
        obtain ⟨vv, h4, h5⟩ := hna.file k k'
        exact ⟨vv, rowK _ _ _ h4 (by decide) (by decide), own_same h5 (fun g cs hg => cellsK g cs _ hg (by decide) (by decide))⟩
    · obtain rfl : i = t.L.length := by omega
      have hb2 := hN.lo
      have hhd : (t.add j nm (newN ds j x) b m).hd t.L.length = headC x (t.L.length : Nat) (pathJ ds) (t.bk j) := by
        unfold FT.hd headC
        rw [add_nd_new]
        have : (t.add j nm (newN ds j x) b m).bk (newN ds j x).up = t.bk j := add_bk h.bl hj
        rw [this]
        rfl
      have hrow : ∀ T cs, Row w3 b T cs → Row w7 b T cs := fun T cs hr => hr.same (newK b hN.lo hN.hi)
      refine ⟨fun k => ?_, fun k => ?_, fun k k' => ?_⟩
      · rw [add_nd_new] at k
        have k2 : x.kind = 2 := k
        obtain ⟨h4, h5, h6⟩ := hN.dir k2
        rw [add_bk_new h.bl, add_mp_new h.ml, hhd]
        refine ⟨hrow _ _ h4, ?_⟩
        have : (t.add j nm (newN ds j x) b m).nl t.L.length = [] := by unfold FT.nl; rw [add_nd_new]; rfl
        rw [this]
        exact h5.same (newK m h6 h5.lt)
      · rw [add_nd_new] at k
        have k3 : x.kind = 3 := k
        rw [add_bk_new h.bl, hhd, add_nd_new]
        exact hrow _ _ (hN.link k3)
      · rw [add_nd_new] at k k'
        obtain ⟨vv, h4, h5⟩ := hN.file k k'
        rw [add_bk_new h.bl, hhd, add_nd_new]
        refine ⟨vv, hrow _ _ h4, ?_⟩
        have h6 : w7.ownsRow w.heap.size 5 1 vv x.data.length (x.data.map B8) := by
          refine ⟨h5.1, ?_⟩
          rcases h5.2 with hn | ⟨g, cap, cur, hv9, hbg, hg, r⟩
          · exact .inl hn
          · exact .inr ⟨g, cap, cur, hv9, hbg, by rw [newK g hbg (Array.getElem?_eq_some_iff.1 hg).1]; exact hg, r⟩
        exact own_from h6 (Nat.zero_le _)
  · rw [add_kn h.bl]; exact hkn
  · show (t.bs ++ [b]).length = (addN t.L j nm (newN ds j x)).length
    rw [addN_len, List.length_append, h.bl]; rfl
  · show (t.ms ++ [m]).length = (addN t.L j nm (newN ds j x)).length
    rw [addN_len, List.length_append, h.ml]; rfl
  · intro i hi k
    rw [show (t.add j nm (newN ds j x) b m).L.length = t.L.length + 1 from addN_len _ _ _ _] at hi
    by_cases hin : i < t.L.length
    · obtain ⟨ns, e, _⟩ := add_nd (t := t) (j := j) (b := b) (m := m) (nm := nm) (nd := newN ds j x) hin
      rw [e] at k
      rw [add_mp h.ml hin]
      exact h.mK i hin k
    · obtain rfl : i = t.L.length := by omega
      rw [add_nd_new] at k
      rw [add_mp_new h.ml]
      have := (hN.dir k).2.2
      have := h.kn.lt
      omega
  · intro i i' hi hi' k k' hne
    rw [show (t.add j nm (newN ds j x) b m).L.length = t.L.length + 1 from addN_len _ _ _ _] at hi hi'
    have old : ∀ i, i < t.L.length → ((t.add j nm (newN ds j x) b m).nd i).kind = 2 → (t.nd i).kind = 2 := fun i hi k => by
      obtain ⟨ns, e, _⟩ := add_nd (t := t) (j := j) (b := b) (m := m) (nm := nm) (nd := newN ds j x) hi
      rw [e] at k; exact k
    have lt : ∀ i (hi : i < t.L.length), (t.nd i).kind = 2 → t.mp i < w.heap.size := fun i hi k => ((h.fs.node i hi).dir k).2.lt
    by_cases hin : i < t.L.length
    · by_cases hin' : i' < t.L.length
      · rw [add_mp h.ml hin, add_mp h.ml hin']
        exact h.mm i i' hin hin' (old i hin k) (old i' hin' k') hne
      · obtain rfl : i' = t.L.length := by omega
        rw [add_nd_new] at k'
        rw [add_mp h.ml hin, add_mp_new h.ml]
        have h1 := (hN.dir k').2.2
        have h2 := lt i hin (old i hin k)
        omega
    · obtain rfl : i = t.L.length := by omega
      have hin' : i' < t.L.length := by omega
      rw [add_nd_new] at k
      rw [add_mp h.ml hin', add_mp_new h.ml]
      have h1 := (hN.dir k).2.2
      have h2 := lt i' hin' (old i' hin' k')
      omega
end Go.Proofs.Ytgclemicgcbpjaa
