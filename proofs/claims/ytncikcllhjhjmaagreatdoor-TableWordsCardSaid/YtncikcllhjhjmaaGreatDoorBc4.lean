
/- The cache in memory; which loose slot was asked for longest ago. -/
import Derived.Test.YtncikcllhjhjmaaGreatDoorBc3
import Derived.Test.YtncikcllhjhjmaaGreatDoorG6r
import Derived.Deep.QuietTactic
import Derived.BigQuiet
namespace Go.Proofs.YtncikcllhjhjmaaGreatDoor
open Go.RowKit Go.Sort Go.WideMaps Go.Maps Go.WideShapes Go.WideElems Go.MapKept Go.ChangeMaps
attribute [local go_sem] Oper.semAt_some

/-- A cache in memory: its struct in block c, its map in m, its pool in p, g, h; its files were there when w0 was. -/
structure CW (w0 : World) (F : Nat) (t : FT) (p g h c m : Nat) (s : CC) (ws : List Nat) (w : World) : Prop where
  cache : Row w c 105 [.pointer (some ⟨p, 0, none⟩), .pointer (some ⟨F, 0, none⟩), .map (some m), .int .u64 (s.tn : Int)]
  pool : Pl w p g h s.fs ws
  map : CM w m s.tn s.sl
  files : FSat w0 F t
  low : Below w0.heap.size w0 w
  lg : w0.heap.size ≤ g
  lh : w0.heap.size ≤ h
  lc : w0.heap.size ≤ c
  lm : w0.heap.size ≤ m
  few : s.tn < 1000000000
  tb : Tb w0
section
variable {w0 w w' : World} {F : Nat} {t : FT} {p g h c m : Nat} {s : CC} {ws : List Nat}
theorem CW.below (H : CW w0 F t p g h c m s ws w) (hb : Below w.heap.size w w') : CW w0 F t p g h c m s ws w' :=
  ⟨H.cache.below hb H.cache.lt, H.pool.below hb, H.map.below hb, H.files, H.low.trans (hb.mono H.low.size), H.lg, H.lh, H.lc, H.lm, H.few, H.tb⟩
theorem CW.fs (H : CW w0 F t p g h c m s ws w) : FSat w F t := H.files.below H.low
theorem CW.tbl (H : CW w0 F t p g h c m s ws w) : Tb w := fun j hj => St.cell (H.tb j hj) H.low
theorem CW.ne (H : CW w0 F t p g h c m s ws w) : c ≠ p ∧ c ≠ g ∧ c ≠ h ∧ m ≠ c ∧ m ≠ p ∧ m ≠ g ∧ m ≠ h :=
  ⟨row_tys H.cache H.pool.pool (by decide), row_tys H.cache H.pool.frames (by decide), row_tys H.cache H.pool.words (by decide), H.map.row H.cache, H.map.row H.pool.pool, H.map.row H.pool.frames, H.map.row H.pool.words⟩
theorem CW.cells (H : CW w0 F t p g h c m s ws w) : w.cell? ⟨c, 0, none⟩ = some (.pointer (some ⟨p, 0, none⟩)) ∧ w.cell? ⟨c, 1, none⟩ = some (.pointer (some ⟨F, 0, none⟩)) ∧ w.cell? ⟨c, 2, none⟩ = some (.map (some m)) ∧ w.cell? ⟨c, 3, none⟩ = some (.int .u64 (s.tn : Int)) :=
  ⟨H.cache.cell 0 (by simp), H.cache.cell 1 (by simp), H.cache.cell 2 (by simp), H.cache.cell 3 (by simp)⟩
end
/-- The blocks that a cache may turn. -/
def cS (g h c m : Nat) : Nat → Prop := fun k => k = c ∨ k = m ∨ k = g ∨ k = h

/-- A step of a range over the map: the next slot. -/
theorem wpList_next_cm {w : World} {ops : Array Oper} {rest : List Oper} {o : Oper} {a : Act} {Q : Exit → Act → World → Prop} (hg : o.guard = none) (it : Operand) (hop : o.op = Op.next it false) (m r N : Nat) (D : DataW Unit) (sl : List SLO) (hv : CMv D sl) (left : Lit → Bool) (cnt : Nat)
    (hit : a.eval it = .pointer (some ⟨r, 0, none⟩)) (h : w.ranges Tryz.prog 107 rdK m r N D left cnt)
    (hDone : (∀ kl, left kl = false) → wpList Tryz.prog ops Q rest (a.put o.dst (.tuple #[.bool false])) w)
    (hMore : ∀ (x : SLO) (w' : World) (cnt' : Nat), x ∈ sl → lookS sl x.i x.p = some x → left (plL x.i x.p) = true → w'.ranges Tryz.prog 107 rdK m r N D (fun z => left z && !z.sameKey (plL x.i x.p)) cnt' → cnt' < cnt →
      w.grownBy w' (some r) → w'.heap.size = w.heap.size → (Instr.entry (.pointer (some ⟨r, 0, none⟩))).run Tryz.prog w' = .ok (.tuple #[plK x.i x.p, keV x.f x.t]) w' → wpList Tryz.prog ops Q rest (a.put o.dst (.tuple #[.bool true, plK x.i x.p, keV x.f x.t])) w') :
    wpList Tryz.prog ops Q (o :: rest) a w := by
  refine wpList_plain hg fun K' hK' => ?_
  unfold Oper.wp
  rcases h.next keyedPl o.type with ⟨h0, hl, hrun⟩ | ⟨key, v, kl, y, w', cnt', hkey, hlk, hvv, hat, hrun, hrg, hlt, hgr, hsz, hen⟩
  · simp [execOp, hop, hit, hrun, Result.andThen]
    exact hK' _ _ (hDone hl)
  · obtain ⟨x, hx, rfl, hlx⟩ := hv.only kl (has_true_of_atKey hat)
    obtain ⟨hi, hp⟩ := hv.ok x hx
    have e1 := hat (.lit (.bool true))
    rw [hv.at_ x.i x.p hi hp, hlx] at e1
    have e2 : key = plK x.i x.p := keyedPl.inj hkey (key_pl hi hp)
    have e3 : v = keV x.f x.t := rdK_at (f := x.f) (t := x.t) (ps := y.2) (by rw [hvv]; exact congrArg some (Prod.ext e1.symm rfl))
    subst e2 e3
    simp [execOp, hop, hit, hrun, Result.andThen]
    exact hK' _ _ (hMore x w' cnt' hx hlx hlk hrg hlt hgr hsz hen)
theorem rg_iter {w : World} {R : Value → Option (DataW Unit × List MemPlace)} {b r n : Nat} {D : DataW Unit} {left : Lit → Bool} {cnt : Nat} (h : w.ranges Tryz.prog 107 R b r n D left cnt) : ∃ x : Option Nat × Nat × Array Nat × Nat, w.heap[r]? = some (.mapIter x.1 x.2.1 x.2.2.1 x.2.2.2) := by
  obtain ⟨es, clock, since, seen, c0, hb, _, _, _, hr, _⟩ := h
  exact ⟨(some b, since, seen, c0), hr⟩
theorem rg_row {w : World} {R : Value → Option (DataW Unit × List MemPlace)} {b r n : Nat} {D : DataW Unit} {left : Lit → Bool} {cnt : Nat} (h : w.ranges Tryz.prog 107 R b r n D left cnt) {g : Nat} {T : TypeId} {cs : List Value} (hr : Row w g T cs) : g ≠ r := by
  rintro rfl
  obtain ⟨x, hx⟩ := rg_iter h
  have := hr.heap
  rw [hx] at this
  cases this
theorem cmr_below {w w' : World} {R : Value → Option (DataW Unit × List MemPlace)} {b r n : Nat} {D : DataW Unit} {left : Lit → Bool} {cnt : Nat} (h : w.ranges Tryz.prog 107 R b r n D left cnt) (hb : Below w.heap.size w w') : w'.ranges Tryz.prog 107 R b r n D left cnt :=
  h.kept (row := none) ⟨hb.os, hb.tape, hb.output, hb.size, fun k hk _ => hb.block k hk⟩ (by simp) (by simp)
theorem low_grown {w w1 w' : World} {r : Nat} (h : Below w.heap.size w w1) (hg : w1.grownBy w' (some r)) (hr : w.heap.size ≤ r) : Below w.heap.size w w' :=
  h.trans ⟨hg.os, hg.tape, hg.output, hg.size, fun k hk => hg.block k (Nat.lt_of_lt_of_le hk h.size) (by simp; omega)⟩

def oldV (o : Option SLO) : Value := match o with
  | some x => plK x.i x.p
  | none => plK 0 0
def oI (o : Option SLO) : Int := match o with
  | some x => x.i
  | none => 0
def oP (o : Option SLO) : Int := match o with
  | some x => x.p
  | none => 0
def oT (o : Option SLO) : Int := match o with
  | some x => x.t
  | none => 0
theorem oldV_is (o : Option SLO) : oldV o = plK (oI o) (oP o) := by cases o <;> rfl
/-- The best of those that were seen. -/
structure Best (fs : List FR) (sl : List SLO) (left : Lit → Bool) (b : Option SLO) : Prop where
  one : ∀ x, b = some x → x ∈ sl ∧ loB fs x = true
  low : ∀ y ∈ sl, left (plL y.i y.p) = false → loB fs y = true → ∃ x, b = some x ∧ x.t ≤ y.t
theorem Best.done {fs : List FR} {sl : List SLO} {left : Lit → Bool} {b : Option SLO} (h : Best fs sl left b) (hl : ∀ kl, left kl = false) (ha : sl.Pairwise fun x y => x.t < y.t) : sl.find? (loB fs) = b := by
  cases hb : b with
  | none =>
    rw [List.find?_eq_none]
    intro y hy e
    obtain ⟨x, h1, _⟩ := h.low y hy (hl _) e
    rw [hb] at h1
    cases h1
  | some x =>
    obtain ⟨hx, hlx⟩ := h.one x hb
    cases hf : sl.find? (loB fs) with
    | none => exact absurd hlx (List.find?_eq_none.1 hf x hx)
    | some z =>
      have hz := List.mem_of_find?_eq_some hf
      have hlz := List.find?_some hf
      obtain ⟨x', e, hle⟩ := h.low z hz (hl _) hlz
      rw [hb] at e
      cases e
      obtain ⟨_, l1, l2, rfl, hn⟩ := List.find?_eq_some_iff_append.1 hf
      rw [List.pairwise_append] at ha
      rcases List.mem_append.1 hx with h1 | h1
      · have := hn x h1
        rw [hlx] at this
        cases this
      · rcases List.mem_cons.1 h1 with rfl | h1
        · rfl
        · have := (List.pairwise_cons.1 ha.2.1).1 x h1
          omega
theorem Best.next {fs : List FR} {sl : List SLO} {left : Lit → Bool} {b : Option SLO} {x : SLO} (h : Best fs sl left b) (hx : x ∈ sl) (hu : ∀ y ∈ sl, y.i = x.i → y.p = x.p → y = x) (ho : ∀ y ∈ sl, I64 y.i ∧ I64 y.p) {b' : Option SLO}
    (h1 : ∀ y, b' = some y → b = some y ∨ (y = x ∧ loB fs x = true)) (h2 : ∀ y, b = some y → ∃ z, b' = some z ∧ z.t ≤ y.t) (h3 : loB fs x = true → ∃ z, b' = some z ∧ z.t ≤ x.t) : Best fs sl (fun z => left z && !z.sameKey (plL x.i x.p)) b' := by
  refine ⟨fun y hy => ?_, fun y hy hl hlo => ?_⟩
  · rcases h1 y hy with e | ⟨rfl, e⟩
    · exact h.one y e
    · exact ⟨hx, e⟩
  · rw [Bool.and_eq_false_iff] at hl
    rcases hl with hl | hl
    · obtain ⟨z, e, hz⟩ := h.low y hy hl hlo
      obtain ⟨z', e', hz'⟩ := h2 z e
      exact ⟨z', e', by omega⟩
    · rw [Bool.not_eq_false'] at hl
      have e1 : plL y.i y.p = plL x.i x.p := WideAt.sameKey_eq hl
      obtain ⟨e2, e3⟩ := plL_inj (ho y hy).1 (ho y hy).2 (ho x hx).1 (ho x hx).2 e1
      obtain rfl := hu y hy e2 e3
      exact h3 hlo
end Go.Proofs.YtncikcllhjhjmaaGreatDoor
