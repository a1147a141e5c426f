
/- For the reference's Store: what an append to a frame's bytes keeps. -/
import Derived.Test.YtllkeeeajlgkpaaDoorJR
import Derived.Deep.RegionLaw
import Derived.Deep.AppendLies
namespace Go.Proofs.YtllkeeeajlgkpaaDoor
open Go.RowKit Go.Sort

/-- A list as long as n at least: noughts behind. -/
def upto (L : List Int) (n : Nat) : List Int := L ++ List.replicate (n - L.length) 0
theorem upto_le {L : List Int} {n : Nat} (h : n ≤ L.length) : upto L n = L := by unfold upto; rw [Nat.sub_eq_zero_of_le h]; simp
theorem upto_len (L : List Int) (n : Nat) (h : L.length ≤ n) : (upto L n).length = n := by unfold upto; simp; omega
theorem upto_push (L : List Int) (n : Nat) (h : L.length ≤ n) : upto L n ++ [0] = upto L (n + 1) := by
  unfold upto
  rw [show n + 1 - L.length = (n - L.length) + 1 by omega, List.replicate_succ', List.append_assoc]
theorem upto_same (L : List Int) (n : Nat) (h : n ≤ 4096) (hl : L.length ≤ 4096) : upto L n ++ List.replicate (4096 - (upto L n).length) 0 = L ++ List.replicate (4096 - L.length) 0 := by
  by_cases c : n ≤ L.length
  · rw [upto_le c]
  · rw [upto_len L n (by omega)]
    unfold upto
    rw [List.append_assoc, List.replicate_append_replicate]
    congr 2
    omega
theorem cntF_is2 {fs : List FR} {k : Nat} (hk : k < fs.length) : cntF fs (k : Int) = fs[k].cnt := by
  unfold cntF
  rw [if_pos ⟨by omega, by omega⟩, Int.toNat_natCast, getF_at _ _ _ hk]
/-- A frame's bytes grown: v2 stands in the place of what was there, in its block or in a new one. -/
theorem RS.push {w w1 : World} {base p a b : Nat} {cs : List Int} {vs : List Value} {Ls : List (List Int)} (H : RS w base p a b cs vs Ls) (k : Nat) (hk : k < vs.length) (v2 : Value) (L2 : List Int)
    (hg : w.grownBy w1 vs[k].ownBlock) (hv : w1.ownsRow base 5 1 v2 L2.length (L2.map (Value.int .u8))) (hat : v2.ownBlock = vs[k].ownBlock ∨ ∃ q, v2.ownBlock = some q ∧ w.heap.size ≤ q) (hL : L2.length ≤ 4096) :
    RS (w1.setCell ⟨b, k, none⟩ v2) base p a b cs (vs.set k v2) (Ls.set k L2) := by
  have hkl : k < Ls.length := by have := H.ll; omega
  have hT : ∀ {g : Nat} {T : TypeId} {ds : List Value}, Row w g T ds → T ≠ 5 → Row w1 g T ds := fun hr hne => hr.grown hg (fun e => own_not (H.own k hk hkl) hr hne e.symm)
  have hpo := hT H.rp.pool (by decide)
  have hcn := hT H.rp.cnts (by decide)
  have hby := hT H.rp.bys (by decide)
  obtain ⟨n1, n2, n3⟩ := H.ne
  have hx : Ex w1 (w1.setCell ⟨b, k, none⟩ v2) b b := Ex.set w1 b k _ (.inl rfl)
  have hoth : ∀ i (h : i < vs.length) (h2 : i < Ls.length), i ≠ k → w1.ownsRow base 5 1 vs[i] Ls[i].length (Ls[i].map (Value.int .u8)) := fun i h h2 hne => (H.own i h h2).kept hg (by
    cases hv' : (vs[i]).ownBlock with
    | none => exact .inl rfl
    | some q => exact .inr (fun e => H.ap i k h hk hne q hv' e.symm))
  refine ⟨⟨hx.row hpo n2 n2, hx.row hcn n3 n3, hby.set k _, by rw [List.length_set]; exact H.rp.vl, H.rp.n2⟩, by rw [List.length_set, List.length_set]; exact H.ll, fun i h1 h2 => ?_, fun i j hi hj hij q => ?_, H.c0, fun x hx => ?_, H.pB, H.aB, H.bB⟩
  · rw [List.length_set] at h1 h2
    simp only [List.getElem_set]
    by_cases c : k = i
    · rw [if_pos c, if_pos c]
      exact hx.own hv (own_not hv hby (by decide)) (own_not hv hby (by decide))
    · rw [if_neg c, if_neg c]
      have ho := hoth i h1 h2 (fun e => c e.symm)
      exact hx.own ho (own_not ho hby (by decide)) (own_not ho hby (by decide))
  · rw [List.length_set] at hi hj
    have key : ∀ j (hj : j < vs.length), j ≠ k → ∀ q, v2.ownBlock = some q → vs[j].ownBlock ≠ some q := fun j hj hne q hq e => by
      rcases hat with h | ⟨q2, h, hlt⟩
      · rw [h] at hq
        exact H.ap j k hj hk hne q e hq
      · rw [h] at hq
        obtain rfl := Option.some.inj hq
        have := ((H.own j hj (by have := H.ll; omega)).lt _ e).2
        omega
    simp only [List.getElem_set]
    by_cases c : k = i
    · rw [if_pos c, if_neg (show ¬ k = j from fun e => hij (by rw [← c, e]))]
      exact key j hj (fun e => hij (by rw [← c, e])) q
    · rw [if_neg c]
      by_cases c2 : k = j
      · rw [if_pos c2]
        intro e e2
        exact key i hi (fun e3 => c e3.symm) q e2 e
      · rw [if_neg c2]
        exact H.ap i j hi hj hij q
  · rcases List.mem_or_eq_of_mem_set hx with hx | rfl
    · exact H.lim x hx
    · exact hL
/-- What was there and stands: a frame's own block, or blocks that are new, turn. -/
theorem E3.push {w0 w w1 : World} {a b : Nat} {X row : Option Nat} (h : E3 w0 w a b X) (hg : w.grownBy w1 row) (hr : row = none ∨ row = X ∨ ∃ q, row = some q ∧ w0.heap.size ≤ q) (k : Nat) (u : Value) : E3 w0 (w1.setCell ⟨b, k, none⟩ u) a b X := by
  have h1 : E3 w0 w1 a b X := ⟨hg.os.trans h.os, hg.tape.trans h.tape, hg.output.trans h.output, Nat.le_trans h.size hg.size, fun j hj h1 h2 h3 => by
    rw [hg.block j (Nat.lt_of_lt_of_le hj h.size) (fun e => by
      rcases hr with hr | hr | ⟨q, hr, hq⟩
      · rw [hr] at e; cases e
      · exact h3 (e.trans hr)
      · rw [hr] at e; cases e; omega)]
    exact h.block j hj h1 h2 h3⟩
  exact h1.trans (E3.of_ex (Ex.set w1 b k u (.inr rfl)))

/-- The length of the slice in a cell. -/
def lenAt (w : World) (b k : Nat) : Nat := match w.cell? ⟨b, k, none⟩ with
  | some (.slice _ n _) => n
  | _ => 0
theorem lenAt_is {w : World} {b k n c : Nat} {a : Option Addr} (h : w.cell? ⟨b, k, none⟩ = some (.slice a n c)) : lenAt w b k = n := by unfold lenAt; rw [h]
/-- The pool while a frame's bytes are being grown. -/
def OldB (vs : List Value) (q : Nat) : Prop := ∃ j, ∃ hj : j < vs.length, vs[j].ownBlock = some q
structure Grow (w wr : World) (base p a b : Nat) (cs : List Int) (Ls : List (List Int)) (k N nv : Nat) (X : Option Nat) (L L' : List Int) (vs vs0 : List Value) : Prop where
  rs : RS wr base p a b cs vs (Ls.set k L')
  vl : vs.length = nv
  is : ∃ t, t ≤ N ∧ L' = upto L t
  own : ∀ (h : k < vs.length), vs[k].ownBlock = none ∨ vs[k].ownBlock = X ∨ ∃ q, vs[k].ownBlock = some q ∧ w.heap.size ≤ q
  e3 : E3 w wr a b X
  al : ∀ i (h : i < vs.length) q, vs[i].ownBlock = some q → OldB vs0 q ∨ w.heap.size ≤ q

theorem hat9 {va : Option Addr} {n vc gg cap m H : Nat} {u : Value} (h : (Value.slice va n vc).ownBlock = some gg ∨ gg = H) (ev : u = .slice va n vc) : (Value.slice (some ⟨gg, 0, none⟩) m cap).ownBlock = u.ownBlock ∨ ∃ q, (Value.slice (some ⟨gg, 0, none⟩) m cap).ownBlock = some q ∧ H ≤ q := by
  rcases h with h | rfl
  · left; rw [ev, h]; rfl
  · right; exact ⟨gg, rfl, Nat.le_refl _⟩
theorem upto_again {L L' : List Int} {t : Nat} (h : L' = upto L t) : upto L L'.length = L' ∧ L.length ≤ L'.length := by
  subst h
  by_cases c : t ≤ L.length
  · rw [upto_le c]; exact ⟨upto_le (Nat.le_refl _), Nat.le_refl _⟩
  · rw [upto_len L t (by omega)]; exact ⟨rfl, by omega⟩
theorem Grow.push {w wr w1 : World} {base p a b : Nat} {cs : List Int} {Ls : List (List Int)} {k N nv : Nat} {X : Option Nat} {L L' : List Int} {vs vs0 : List Value} (HG : Grow w wr base p a b cs Ls k N nv X L L' vs vs0) (hk : k < vs.length) (hkL : k < Ls.length) (hlt : L'.length < N) (hN : N ≤ 4096) (o : Obj) (v2 : Value)
    (hgrow : (wr.alloc o).drew.grownBy w1 vs[k].ownBlock) (hv : w1.ownsRow base 5 1 v2 (L'.length + 1) ((L' ++ [0]).map (Value.int .u8))) (hat : v2.ownBlock = vs[k].ownBlock ∨ ∃ q, v2.ownBlock = some q ∧ wr.heap.size + 1 ≤ q) :
    Grow w (w1.setCell ⟨b, k, none⟩ v2) base p a b cs Ls k N nv X L (L' ++ [0]) (vs.set k v2) vs0 := by
  have hb : Below wr.heap.size wr (wr.alloc o).drew := bdN (bal o) 1
  have hR := HG.rs.below hb
  have hl1 : (L' ++ [0]).length = L'.length + 1 := by simp
  have hP := hR.push k hk v2 (L' ++ [0]) hgrow (by rw [hl1]; exact hv) (by
    rcases hat with h | ⟨q, h, hq⟩
    · exact .inl h
    · exact .inr ⟨q, h, by show (wr.alloc o).heap.size ≤ q; rw [World.size_alloc]; exact hq⟩) (by rw [hl1]; omega)
  rw [List.set_set] at hP
  obtain ⟨t, ht, hup⟩ := HG.is
  obtain ⟨h1, h2⟩ := upto_again hup
  refine ⟨hP, by rw [List.length_set]; exact HG.vl, ⟨L'.length + 1, by omega, by rw [← upto_push L L'.length h2, h1]⟩, fun hk2 => ?_, ?_, fun i hi q e => ?_⟩
  · rw [List.getElem_set_self]
    rcases hat with h | ⟨q, h, hq⟩
    · rw [h]; exact HG.own hk
    · exact .inr (.inr ⟨q, h, by have := HG.e3.size; omega⟩)
  · refine (HG.e3.trans (E3.of_below hb)).push hgrow ?_ k v2
    rcases HG.own hk with h | h | h
    · exact .inl h
    · exact .inr (.inl h)
    · exact .inr (.inr h)
  · rw [List.length_set] at hi
    simp only [List.getElem_set] at e
    by_cases c : k = i
    · rw [if_pos c] at e
      rcases hat with h | ⟨q', h, hq⟩
      · exact HG.al k hk q (by rw [← h]; exact e)
      · rw [h] at e; cases e
        exact .inr (by have := HG.e3.size; omega)
    · rw [if_neg c] at e
      exact HG.al i hi q e

end Go.Proofs.YtllkeeeajlgkpaaDoor
