
/- Merged: BdA BdB BdC BdD BdE BdF. -/
import Derived.Test.YtfaohejdaabalaaGreatDoorKBe
import Derived.Test.YtfaohejdaabalaaGreatDoorKB3
import Derived.Deep.DeepCutAuto
import Derived.BigQuiet
import Derived.Test.YtfaohejdaabalaaGreatDoorKG6
namespace Go.Proofs.YtfaohejdaabalaaGreatDoor
open Go.RowKit Go.Sort Go.Shelf Go.WideMaps Go.Maps Go.WideShapes Go.WideElems Go.MapKept Go.ChangeMaps
attribute [local go_sem] Oper.semAt_some

theorem newE_twin8 : ∀ (ys xs : List EN) (L : List ND) (k : Nat), ys.length = xs.length → (∀ i (h : i < ys.length) (h' : i < xs.length), ys[i] = { xs[i] with a := ys[i].a, c := ys[i].c }) → newE L k ys = newE L k xs
  | [], [], _, _, _, _ => rfl
  | [], x :: xs, _, _, h, _ => by simp at h
  | y :: ys, [], _, _, h, _ => by simp at h
  | y :: ys, x :: xs, L, k, h, ht => by
    have h0 : y = { x with a := y.a, c := y.c } := ht 0 (by simp) (by simp)
    have he : addE L y = addE L x := by rw [h0]; rfl
    have hr : ∀ L' k', newE L' k' ys = newE L' k' xs := fun L' k' => newE_twin8 ys xs L' k' (by simpa using h) (fun i h1 h2 => ht (i + 1) (by simpa using h1) (by simpa using h2))
    by_cases hx : (addE L x).1 = 0
    · rw [newE_go hx, newE_go (by rw [he]; exact hx), he, hr]
    · rw [newE_no hx, newE_no (by rw [he]; exact hx), he]
section
variable {w0 w w' w2 : World} {F : Nat} {t : FT} {p g h c m q a b G d ob : Nat} {vL vL' vl vh : Value} {s s' : CC} {ws ws' : List Nat} {vs vs' : List Value} {Ls Ls' : List (List Int)} {st : S8} {L : List ND} {dd : Nat → Option Addr × Nat}
theorem CW.nR8 {k : Nat} {E : TypeId} {cs : List Value} (H : CW w0 F t p g h c m s ws w) (hr : Row w k E cs) (h1 : E ≠ 104) (h2 : E ≠ 114) (h3 : E ≠ 102) : ¬ cS g h c m k := by
  rintro (rfl | rfl | rfl | rfl)
  · exact row_tys hr H.cache h1 rfl
  · exact H.map.row hr rfl
  · exact row_tys hr H.pool.frames h2 rfl
  · exact row_tys hr H.pool.words h3 rfl
theorem own_rowK {base E size n : Nat} {v : Value} {xs : List Value} (ho : w.ownsRow base E size v n xs) : ∀ x, v.ownBlock = some x → ∃ ds, Row w x E ds := by
  intro x e
  rcases ho.2 with ⟨h1, _⟩ | ⟨g', cap, cur, rfl, hb, hg, _⟩
  · rw [h1] at e; cases e
  · simp only [Value.ownBlock, Option.some.injEq] at e
    subst e
    exact ⟨cur.toList, ⟨by simpa using hg⟩⟩
/-- The reference's cache stands where the program's turns. -/
theorem RCW.cs (R : RCW w w0.heap.size q a b G d vL s' vs Ls) (H : CW w0 F t p g h c m s ws w) (he : EX (cS g h c m) w w') : RCW w' w0.heap.size q a b G d vL s' vs Ls :=
  ⟨he.row R.row (H.nR8 R.row (by decide) (by decide) (by decide)), he.own R.own (fun k e => by obtain ⟨ds, hr⟩ := own_rowK R.own k e; exact H.nR8 hr (by decide) (by decide) (by decide)),
    R.rs.exS he (H.nR8 R.rs.rp.pool (by decide) (by decide) (by decide)) (H.nR8 R.rs.rp.cnts (by decide) (by decide) (by decide)) (H.nR8 R.rs.rp.bys (by decide) (by decide) (by decide)) (fun x hx => by obtain ⟨ds, hr⟩ := old_row R hx; exact H.nR8 hr (by decide) (by decide) (by decide)), R.hd, R.lo⟩
/-- What the reference writes is of its own types, and lies above. -/
theorem RCW.tys {base : Nat} (R : RCW w base q a b G d vL s vs Ls) {k : Nat} (hk : R8 a b d vs vL k) : base ≤ k ∧ ∃ T ds, Row w k T ds ∧ (T = 3 ∧ k = a ∨ T = 40 ∨ T = 134 ∨ T = 5 ∨ T = 81) := by
  rcases hk with rfl | rfl | rfl | ⟨j, hj, e⟩ | e
  · exact ⟨R.rs.aB, _, _, R.rs.rp.cnts, .inl ⟨rfl, rfl⟩⟩
  · exact ⟨R.rs.bB, _, _, R.rs.rp.bys, .inr (.inl rfl)⟩
  · exact ⟨R.lo, _, _, R.row, .inr (.inr (.inl rfl))⟩
  · have ho := R.rs.own j hj (by have := R.rs.ll; omega)
    obtain ⟨ds, hr⟩ := own_blk ho k e
    exact ⟨own_low ho (Nat.le_refl _) k e, _, _, hr, .inr (.inr (.inr (.inl rfl)))⟩
  · obtain ⟨ds, hr⟩ := own_rowK R.own k e
    exact ⟨own_low R.own (Nat.le_refl _) k e, _, _, hr, .inr (.inr (.inr (.inr rfl)))⟩
theorem RCW.nR {base : Nat} (R : RCW w base q a b G d vL s vs Ls) {k : Nat} {E : TypeId} {cs : List Value} (hr : Row w k E cs) (h1 : E ≠ 3) (h2 : E ≠ 40) (h3 : E ≠ 134) (h4 : E ≠ 5) (h5 : E ≠ 81) : ¬ R8 a b d vs vL k := fun hk => by
  obtain ⟨_, T, ds, hr2, h⟩ := R.tys hk
  rcases h with ⟨rfl, _⟩ | rfl | rfl | rfl | rfl
  · exact row_tys hr hr2 h1 rfl
  · exact row_tys hr hr2 h2 rfl
  · exact row_tys hr hr2 h3 rfl
  · exact row_tys hr hr2 h4 rfl
  · exact row_tys hr hr2 h5 rfl
theorem RCW.nI {base n : Nat} {v : Value} {xs : List Value} (R : RCW w base q a b G d vL s vs Ls) {B : Nat} (ho : w.ownsRow B 3 1 v n xs) (hn : ∀ k, v.ownBlock = some k → k ≠ a) : ∀ k, v.ownBlock = some k → ¬ R8 a b d vs vL k := fun k e hk => by
  obtain ⟨ds0, hr⟩ := own_blk ho k e
  obtain ⟨_, T, ds, hr2, h⟩ := R.tys hk
  rcases h with ⟨_, ha⟩ | rfl | rfl | rfl | rfl
  · exact hn k e ha
  · exact row_tys hr hr2 (by decide) rfl
  · exact row_tys hr hr2 (by decide) rfl
  · exact row_tys hr hr2 (by decide) rfl
  · exact row_tys hr hr2 (by decide) rfl
theorem RCW.nM {base : Nat} (R : RCW w base q a b G d vL s vs Ls) (H : CM w m st.s.tn st.s.sl) : ¬ R8 a b d vs vL m := fun hk => by
  obtain ⟨_, T, ds, hr2, _⟩ := R.tys hk
  exact H.row hr2 rfl
/-- The program's cache stands where the reference's turns. -/
theorem CW.rx (H : CW w0 F t p g h c m s ws w) (R : RCW w w0.heap.size q a b G d vL s' vs Ls) (he : EX (R8 a b d vs vL) w w') : CW w0 F t p g h c m s ws w' :=
  ⟨he.row H.cache (R.nR H.cache (by decide) (by decide) (by decide) (by decide) (by decide)),
    ⟨he.row H.pool.pool (R.nR H.pool.pool (by decide) (by decide) (by decide) (by decide) (by decide)), he.row H.pool.frames (R.nR H.pool.frames (by decide) (by decide) (by decide) (by decide) (by decide)), he.row H.pool.words (R.nR H.pool.words (by decide) (by decide) (by decide) (by decide) (by decide)), H.pool.ok, H.pool.n1, H.pool.n2, H.pool.wl, H.pool.wb, H.pool.c0⟩,
    H.map.ex he (fun hk => by obtain ⟨_, T, ds, hr2, _⟩ := R.tys hk; exact H.map.row hr2 rfl), H.files, he.below H.low (fun k hk => (R.tys hk).1) H.low.size, H.lg, H.lh, H.lc, H.lm, H.few, H.tb⟩
/-- Both caches, and what was answered and is held: the program's cache is at st.s, the reference's at s'. -/
structure PW (w0 : World) (F : Nat) (t : FT) (p g h c m q a b G d ob : Nat) (dd : Nat → Option Addr × Nat) (vl vh : Value) (st : S8) (ws : List Nat) (vL : Value) (s' : CC) (vs : List Value) (Ls : List (List Int)) (w : World) : Prop where
  cw : CW w0 F t p g h c m st.s ws w
  rc : RCW w w0.heap.size q a b G d vL s' vs Ls
  own : Row w ob 73 [.pointer (some ⟨p, 0, none⟩), .pointer (some ⟨c, 0, none⟩), .pointer (some ⟨q, 0, none⟩), .pointer (some ⟨d, 0, none⟩), vl, vh]
  ll : w.ownsRow w0.heap.size 3 1 vl st.l.length (st.l.map nI)
  hh : w.ownsRow w0.heap.size 3 1 vh st.h.length (st.h.map nI)
  ne : ∀ k, vl.ownBlock = some k → vh.ownBlock ≠ some k
  la : ∀ k, vl.ownBlock = some k → k ≠ a
  ha : ∀ k, vh.ownBlock = some k → k ≠ a
  lo : w0.heap.size ≤ ob
  rf : RF w0 G t.L dd
theorem PW.below (H : PW w0 F t p g h c m q a b G d ob dd vl vh st ws vL s' vs Ls w) (hb : Below w.heap.size w w') : PW w0 F t p g h c m q a b G d ob dd vl vh st ws vL s' vs Ls w' :=
  ⟨H.cw.below hb, H.rc.below hb, H.own.below hb H.own.lt, own_below H.ll hb, own_below H.hh hb, H.ne, H.la, H.ha, H.lo, H.rf⟩
/-- A call of the program's. -/
theorem PW.prog (H : PW w0 F t p g h c m q a b G d ob dd vl vh st ws vL s' vs Ls w) {s2 : CC} (hc : CW w0 F t p g h c m s2 ws' w') (he : EX (cS g h c m) w w') : PW w0 F t p g h c m q a b G d ob dd vl vh { st with s := s2 } ws' vL s' vs Ls w' :=
  ⟨hc, H.rc.cs H.cw he, he.row H.own (H.cw.nR8 H.own (by decide) (by decide) (by decide)), he.own H.ll (H.cw.nI H.ll), he.own H.hh (H.cw.nI H.hh), H.ne, H.la, H.ha, H.lo, H.rf⟩
/-- A call of the reference's. -/
theorem PW.refr (H : PW w0 F t p g h c m q a b G d ob dd vl vh st ws vL s' vs Ls w) {s2 : CC} (R : RSt w0.heap.size q a b G d vL vs w s2 vL' vs' Ls' w') : PW w0 F t p g h c m q a b G d ob dd vl vh st ws vL' s2 vs' Ls' w' :=
  ⟨H.cw.rx H.rc R.ex, R.rc, R.ex.row H.own (H.rc.nR H.own (by decide) (by decide) (by decide) (by decide) (by decide)), R.ex.own H.ll (H.rc.nI H.ll H.la), R.ex.own H.hh (H.rc.nI H.hh H.ha), H.ne, H.la, H.ha, H.lo, H.rf⟩
/-- A list of numbers turns. -/
theorem PW.grown (H : PW w0 F t p g h c m q a b G d ob dd vl vh st ws vL s' vs Ls w) {u : Value} {B n : Nat} {xs : List Value} (hu : w.ownsRow B 3 1 u n xs) (hB : w0.heap.size ≤ B) (hg : w.grownBy w' u.ownBlock) (hua : ∀ k, u.ownBlock = some k → k ≠ a) :
    CW w0 F t p g h c m st.s ws w' ∧ RCW w' w0.heap.size q a b G d vL s' vs Ls ∧ Row w' ob 73 [.pointer (some ⟨p, 0, none⟩), .pointer (some ⟨c, 0, none⟩), .pointer (some ⟨q, 0, none⟩), .pointer (some ⟨d, 0, none⟩), vl, vh] := by
  have hub : ∀ k, u.ownBlock = some k → w0.heap.size ≤ k := fun k e => own_low hu hB k e
  have nt : ∀ {k : Nat} {E : TypeId} {cs : List Value}, Row w k E cs → E ≠ 3 → ¬ u.ownBlock = some k := fun hr hT e => own_row_neK hu hr hT e.symm
  have he : EX (fun k => u.ownBlock = some k) w w' := EX.of_grown hg fun k e _ => e
  refine ⟨H.cw.grown hu hg hub, ⟨he.row H.rc.row (nt H.rc.row (by decide)), he.own H.rc.own (fun k e => by obtain ⟨ds, hr⟩ := own_rowK H.rc.own k e; exact nt hr (by decide)), H.rc.rs.exS he (nt H.rc.rs.rp.pool (by decide)) (fun e => hua _ e rfl) (nt H.rc.rs.rp.bys (by decide)) (fun x hx => by obtain ⟨ds, hr⟩ := old_row H.rc hx; exact nt hr (by decide)), H.rc.hd, H.rc.lo⟩, he.row H.own (nt H.own (by decide))⟩
/-- A list of numbers apart from all turns. -/
theorem PW.other (H : PW w0 F t p g h c m q a b G d ob dd vl vh st ws vL s' vs Ls w) {u : Value} {B n : Nat} {xs : List Value} (hu : w.ownsRow B 3 1 u n xs) (hB : w0.heap.size ≤ B) (hg : w.grownBy w' u.ownBlock) (hul : ∀ k, u.ownBlock = some k → vl.ownBlock ≠ some k) (huh : ∀ k, u.ownBlock = some k → vh.ownBlock ≠ some k) (hua : ∀ k, u.ownBlock = some k → k ≠ a) :
    PW w0 F t p g h c m q a b G d ob dd vl vh st ws vL s' vs Ls w' := by
  obtain ⟨h1, h2, h3⟩ := H.grown hu hB hg hua
  have he : EX (fun k => u.ownBlock = some k) w w' := EX.of_grown hg fun k e _ => e
  exact ⟨h1, h2, h3, he.own H.ll fun k e e2 => hul k e2 e, he.own H.hh fun k e e2 => huh k e2 e, H.ne, H.la, H.ha, H.lo, H.rf⟩
/-- The struct's list of answers is another one. -/
theorem PW.setL (H : PW w0 F t p g h c m q a b G d ob dd vl vh st ws vL s' vs Ls w) {u : Value} {l : List Nat} (hg : w.grownBy w' vl.ownBlock) (hu : w'.ownsRow w0.heap.size 3 1 u l.length (l.map nI)) (hat : u.ownBlock = vl.ownBlock ∨ u.ownBlock = some w.heap.size) :
    PW w0 F t p g h c m q a b G d ob dd u vh { st with l := l } ws vL s' vs Ls (w'.setCell ⟨ob, 4, none⟩ u) := by
  obtain ⟨h1, h2, h3⟩ := H.grown H.ll (Nat.le_refl _) hg H.la
  have hh' : w'.ownsRow w0.heap.size 3 1 vh st.h.length (st.h.map nI) := (EX.of_grown (S := fun k => vl.ownBlock = some k) hg fun k e _ => e).own H.hh fun k e e2 => H.ne k e2 e
  have he : EX (fun k => k = ob) w' (w'.setCell ⟨ob, 4, none⟩ u) := (EX.refl (S := fun k => k = ob) w').set (g := ob) (.inl rfl) 4 u
  have nt : ∀ {k : Nat} {E : TypeId} {cs : List Value}, Row w' k E cs → E ≠ 73 → k ≠ ob := fun hr hT e => row_tys hr h3 hT e
  refine ⟨⟨h1.cache.other (by exact nt h1.cache (by decide)) _, ⟨h1.pool.pool.other (by exact nt h1.pool.pool (by decide)) _, h1.pool.frames.other (by exact nt h1.pool.frames (by decide)) _, h1.pool.words.other (by exact nt h1.pool.words (by decide)) _, h1.pool.ok, h1.pool.n1, h1.pool.n2, h1.pool.wl, h1.pool.wb, h1.pool.c0⟩, h1.map.ex he (fun e => h1.map.row h3 e), h1.files, bset h1.low H.lo _, h1.lg, h1.lh, h1.lc, h1.lm, h1.few, h1.tb⟩,
    ⟨h2.row.other (by exact nt h2.row (by decide)) _, own_setOther h2.own (own_row_neK h2.own h3 (by decide)) _, h2.rs.exS he (nt h2.rs.rp.pool (by decide)) (nt h2.rs.rp.cnts (by decide)) (nt h2.rs.rp.bys (by decide)) (fun x hx => by obtain ⟨ds, hr⟩ := old_row h2 hx; exact nt hr (by decide)), h2.hd, h2.lo⟩,
    h3.set 4 u, own_setOther hu (own_row_neK hu h3 (by decide)) _, own_setOther hh' (own_row_neK hh' h3 (by decide)) _, fun k e e2 => ?_, fun k e => ?_, H.ha, H.lo, H.rf⟩
  · rcases hat with h | h
    · exact H.ne k (h ▸ e) e2
    · rw [h] at e
      have e9 := Option.some.inj e
      have := (H.hh.lt k e2).2
      omega
  · rcases hat with h | h
    · exact H.la k (h ▸ e)
    · rw [h] at e
      have e9 := Option.some.inj e
      have := H.rc.rs.rp.cnts.lt
      omega
/-- The struct's list of what is held is another one, that grew out of a list of numbers apart from the answers. -/
theorem PW.setH (H : PW w0 F t p g h c m q a b G d ob dd vl vh st ws vL s' vs Ls w) {u v : Value} {B n : Nat} {xs : List Value} {l : List Nat} (hv : w.ownsRow B 3 1 v n xs) (hB : w0.heap.size ≤ B) (hvl : ∀ k, v.ownBlock = some k → vl.ownBlock ≠ some k) (hva : ∀ k, v.ownBlock = some k → k ≠ a) (hg : w.grownBy w' v.ownBlock)
    (hu : w'.ownsRow w0.heap.size 3 1 u l.length (l.map nI)) (hat : u.ownBlock = v.ownBlock ∨ u.ownBlock = some w.heap.size) :
    PW w0 F t p g h c m q a b G d ob dd vl u { st with h := l } ws vL s' vs Ls (w'.setCell ⟨ob, 5, none⟩ u) := by
  obtain ⟨h1, h2, h3⟩ := H.grown hv hB hg hva
  have hl' : w'.ownsRow w0.heap.size 3 1 vl st.l.length (st.l.map nI) := (EX.of_grown (S := fun k => v.ownBlock = some k) hg fun k e _ => e).own H.ll fun k e e2 => hvl k e2 e
  have he : EX (fun k => k = ob) w' (w'.setCell ⟨ob, 5, none⟩ u) := (EX.refl (S := fun k => k = ob) w').set (g := ob) (.inl rfl) 5 u
  have nt : ∀ {k : Nat} {E : TypeId} {cs : List Value}, Row w' k E cs → E ≠ 73 → k ≠ ob := fun hr hT e => row_tys hr h3 hT e
  refine ⟨⟨h1.cache.other (by exact nt h1.cache (by decide)) _, ⟨h1.pool.pool.other (by exact nt h1.pool.pool (by decide)) _, h1.pool.frames.other (by exact nt h1.pool.frames (by decide)) _, h1.pool.words.other (by exact nt h1.pool.words (by decide)) _, h1.pool.ok, h1.pool.n1, h1.pool.n2, h1.pool.wl, h1.pool.wb, h1.pool.c0⟩, h1.map.ex he (fun e => h1.map.row h3 e), h1.files, bset h1.low H.lo _, h1.lg, h1.lh, h1.lc, h1.lm, h1.few, h1.tb⟩,
    ⟨h2.row.other (by exact nt h2.row (by decide)) _, own_setOther h2.own (own_row_neK h2.own h3 (by decide)) _, h2.rs.exS he (nt h2.rs.rp.pool (by decide)) (nt h2.rs.rp.cnts (by decide)) (nt h2.rs.rp.bys (by decide)) (fun x hx => by obtain ⟨ds, hr⟩ := old_row h2 hx; exact nt hr (by decide)), h2.hd, h2.lo⟩,
    h3.set 5 u, own_setOther hl' (own_row_neK hl' h3 (by decide)) _, own_setOther hu (own_row_neK hu h3 (by decide)) _, fun k e e2 => ?_, H.la, fun k e => ?_, H.lo, H.rf⟩
  · rcases hat with h | h
    · rw [h] at e2
      exact hvl k e2 e
    · rw [h] at e2
      have e9 := Option.some.inj e2
      have := (H.ll.lt k e).2
      omega
  · rcases hat with h | h
    · rw [h] at e
      exact hva k e
    · rw [h] at e
      have e9 := Option.some.inj e
      have := H.rc.rs.rp.cnts.lt
      omega
end
end Go.Proofs.YtfaohejdaabalaaGreatDoor
namespace Go.Proofs.YtfaohejdaabalaaGreatDoor
open Go.RowKit Go.Sort Go.Shelf Go.WideMaps Go.Maps Go.WideShapes Go.WideElems Go.MapKept Go.ChangeMaps
attribute [local go_sem] Oper.semAt_some

def opW (o : O8) : Value := .agg #[.int .i64 o.kind, .int .i64 o.i, .int .i64 o.p, .int .i64 o.n]
/-- What does leaves: all was answered alike, and both caches are at the same. -/
def Does8P (w0 : World) (F : Nat) (t : FT) (p g h c m q a b G d ob : Nat) (dd : Nat → Option Addr × Nat) (st' : S8) (e : Ending) (w' : World) : Prop := e = .returned (.bool true) ∧ ∃ vl vh ws vL vs Ls, PW w0 F t p g h c m q a b G d ob dd vl vh st' ws vL st'.s vs Ls w'
theorem Row.six8 {w : World} {g : Nat} {E : TypeId} {a b c d e f : Value} (h : Row w g E [a, b, c, d, e, f]) : w.cell? ⟨g, 0, none⟩ = some a ∧ w.cell? ⟨g, 1, none⟩ = some b ∧ w.cell? ⟨g, 2, none⟩ = some c ∧ w.cell? ⟨g, 3, none⟩ = some d ∧ w.cell? ⟨g, 4, none⟩ = some e ∧ w.cell? ⟨g, 5, none⟩ = some f :=
  ⟨h.cell 0 (by simp), h.cell 1 (by simp), h.cell 2 (by simp), h.cell 3 (by simp), h.cell 4 (by simp), h.cell 5 (by simp)⟩
theorem tyWI : 73 ≠ 3 := by decide
set_option maxRecDepth 100000 in
set_option maxHeartbeats 8000000 in
theorem wdoes0_any (w0 : World) (F : Nat) (t : FT) (p g h c m q a b G d ob : Nat) (dd : Nat → Option Addr × Nat) (vl vh : Value) (st : S8) (ws : List Nat) (vL : Value) (vs : List Value) (Ls : List (List Int)) (i pg n : Int) (w : World) (H : PW w0 F t p g h c m q a b G d ob dd vl vh st ws vL st.s vs Ls w) (Gd : Good (rdP16 t.L) st.s st.h) (hi : I64 i) (hp : I64 pg) 
    (hb1 : st.h.length ≤ 1000000) (hb2 : st.l.length ≤ 1000000) (hb3 : st.s.tn + 1 < 1000000000) :
    Calls Tryz.prog 7 #[.pointer (some ⟨ob, 0, none⟩), opW ⟨0, i, pg, n⟩] w (Does8P w0 F t p g h c m q a b G d ob dd (does8 (rdP16 t.L) st ⟨0, i, pg, n⟩)) := by
  obtain ⟨w1, hw1⟩ : ∃ w1, w1 = w.alloc (.cells #[.int .i64 0, .int .i64 i, .int .i64 pg, .int .i64 n] 33) := ⟨_, rfl⟩
  have H1 := hid (show PW w0 F t p g h c m q a b G d ob dd vl vh st ws vL st.s vs Ls w1 by rw [hw1]; exact H.below (bal _))
  have HP1 := hid (show Row w1 w.heap.size 33 [.int .i64 0, .int .i64 i, .int .i64 pg, .int .i64 n] by rw [hw1]; exact Row.new w _ _)
  have HW1 := hid hw1
  have HG := hid Gd
  have HNL3 := hid (show st.l.length + 1 ≤ 1000000000 by omega)
  have HNL4 := hid (show st.h.length + 1 ≤ 1000000000 by omega)
  have HHL := hid (show st.h.length ≤ 1000000000 by omega)
  have HUP := hid (show ∀ x ∈ st.s.fs, x.cnt < 9223372036854775807 from fun x hx => by have := Gd.small x hx; omega)
  have HMX := hid (show ∀ c ∈ cnts st.s.fs, c < 9223372036854775807 from fun c hc => by obtain ⟨x, hx, rfl⟩ := List.mem_map.1 hc; exact HUP.out x hx)
  have HSL := hid (show st.s.sl.length ≤ 1000000000 from by have := Gd.many; omega)
  have HI := hid (⟨hi, hp⟩ : I64 i ∧ I64 pg)
  have HTN := hid hb3
  clear H hw1 hb1 hb2 hb3 Gd hi hp
  unfold opW
  obtain ⟨q0, q1, q2, q3, q4, q5⟩ := H1.out.own.six8
  have hobl := H1.out.own.lt
  obtain ⟨o0, o1, o2, o3⟩ := HP1.out.four
  have hopl := HP1.out.lt
  obtain ⟨st', hst⟩ : ∃ st', st' = does8 (rdP16 t.L) st ⟨0, i, pg, n⟩ := ⟨_, rfl⟩
  rw [← hst]
  have HD := hid (hst.trans (show does8 (rdP16 t.L) st ⟨0, i, pg, n⟩ = (match getC (rdP16 t.L) st.s i pg with
    | (f, e, s') => if e = 0 then ⟨s', st.l ++ [f.toNat], st.h⟩ else ⟨s', st.l, st.h⟩) from rfl))
  clear hst
  have HGE := hid (get_any w0 F t p g h c m st.s ws st.h i pg w1.drew (H1.out.cw.below (bdN (Below.refl _ _) 1)) HG.out HHL.out HTN.out HI.out.1 HI.out.2)
  have hS1 : EX (cS g h c m) w1 w1.drew := EX.drew (EX.refl _)
  have Q1 : ∀ ww, EX (cS g h c m) w1 ww → ww.cell? ⟨ob, 1, none⟩ = some (.pointer (some ⟨c, 0, none⟩)) := fun ww he => he.cell q1 (H1.out.cw.nR8 H1.out.own (by decide) (by decide) (by decide))
  have O1 : ∀ ww, EX (cS g h c m) w1 ww → ww.cell? ⟨w.heap.size, 1, none⟩ = some (.int .i64 i) := fun ww he => he.cell o1 (H1.out.cw.nR8 HP1.out (by decide) (by decide) (by decide))
  have O2 : ∀ ww, EX (cS g h c m) w1 ww → ww.cell? ⟨w.heap.size, 2, none⟩ = some (.int .i64 pg) := fun ww he => he.cell o2 (H1.out.cw.nR8 HP1.out (by decide) (by decide) (by decide))
  go_enter Tryz.func7, Tryz.ntmps7
  go_wp2_with fail
  rw [← HW1.out]
  go_wp2_with fail
  clear q0 q1 q2 q3 q4 q5 o0 o1 o2 o3
  go_region_held3 (EX (cS g h c m) w1) (first | exact EX.drew _ | exact EX.refl _ | assumption) ((go_at_call 16; refine (HGE.out).mono ?_; rintro e' w2 ⟨rfl, ⟨ws2, hc2⟩, he2⟩; have HC2 := hid hc2; have HE2 := hid he2; have hS2 : EX (cS g h c m) w1 w2 := hS1.trans he2))
  have Hw2 := hid (H1.out.prog HC2.out hS2)
  have HP2 := hid (hS2.row HP1.out (H1.out.cw.nR8 HP1.out (by decide) (by decide) (by decide)))
  clear HGE Q1 O1 O2 hS1 hS2 hobl hopl
  have Hd2 := hid (Hw2.out.below (bdN (Below.refl w2.heap.size w2) 1))
  have HGR := hid (rcget_any w0 q a b G d t.L dd vL st.s vs Ls i pg w2.drew Hd2.out.rc H1.out.rf Hd2.out.cw.low HG.out H1.out.cw.pool.ok HSL.out HMX.out)
  have hS2 : EX (R8 a b d vs vL) w2 w2.drew := EX.drew (EX.refl _)
  have Q3 : ∀ ww, EX (R8 a b d vs vL) w2 ww → ww.cell? ⟨ob, 3, none⟩ = some (.pointer (some ⟨d, 0, none⟩)) := fun ww he => (he.row Hw2.out.own (Hw2.out.rc.nR Hw2.out.own (by decide) (by decide) (by decide) (by decide) (by decide))).cell 3 (by simp)
  have O1 : ∀ ww, EX (R8 a b d vs vL) w2 ww → ww.cell? ⟨w.heap.size, 1, none⟩ = some (.int .i64 i) := fun ww he => (he.row HP2.out (Hw2.out.rc.nR HP2.out (by decide) (by decide) (by decide) (by decide) (by decide))).cell 1 (by simp)
  have O2 : ∀ ww, EX (R8 a b d vs vL) w2 ww → ww.cell? ⟨w.heap.size, 2, none⟩ = some (.int .i64 pg) := fun ww he => (he.row HP2.out (Hw2.out.rc.nR HP2.out (by decide) (by decide) (by decide) (by decide) (by decide))).cell 2 (by simp)
  go_wp2_with fail
  go_region_held3 (EX (R8 a b d vs vL) w2) (first | exact EX.drew _ | exact EX.refl _ | assumption) ((go_at_call 24; refine (HGR.out).mono ?_; rintro e' w3 ⟨rfl, vL3, vs3, Ls3, hr3⟩; have HR3 := hid hr3; have hS3 : EX (R8 a b d vs vL) w2 w3 := hS2.trans hr3.ex; clear hr3))
  have Hw3 := hid (Hd2.out.refr HR3.out)
  clear HGR Q3 O1 O2 hS2 hS3
  rcases getC_case HG.out i pg (rdP16_len t.L) with ⟨e, h1, h2, h3⟩ | ⟨k, s', h1, h2⟩
  · rw [h1] at HD Hw3 ⊢
    have d1 : decide (e = 0) = false := decide_eq_false h2
    have d1b : (e == 0) = false := by simpa using h2
    have d2b : (e == e) = true := by simp
    simp only [if_neg h2] at HD
    clear h1 h2 h3
    go_wp2_with fail
    go_ret
    refine ⟨rfl, ?_⟩
    rw [HD.out]
    exact ⟨_, _, _, _, _, _, Hw3.out⟩
  · rw [h1] at HD Hw3 ⊢
    simp only [if_true, Int.toNat_natCast] at HD
    clear h1 h2
    have d2b : ((k : Int) == (k : Int)) = true := by simp
    obtain ⟨q0, q1, q2, q3, q4, q5⟩ := (Hw3.out).own.six8
    have hobl := (Hw3.out).own.lt
    have HTW := hid tyWI
    have HCEl := hid (show Cel (w3.alloc (.cells #[.int .i64 (k : Int)] 3)) (some ⟨w3.heap.size, 0, none⟩) 1 [nI k] from by
      have hh := Row.new w3 3 [nI k]
      exact ⟨rfl, fun i hi => ⟨_, 0, rfl, by rw [Nat.zero_add]; exact hh.cell i hi⟩⟩)
    have HONl := hid (show ∀ u ∈ [nI k], u.oneCell' = true from fun u hu => by rw [List.mem_singleton.1 hu]; rfl)
    have HOBl := hid ((Hw3.out).below (bal (.cells #[.int .i64 (k : Int)] 3)))
    have HBBl := hid (show w0.heap.size ≤ (w3.alloc (.cells #[.int .i64 (k : Int)] 3)).heap.size from HOBl.out.cw.low.size)
    go_wp2_with (at_builtin; go_must (refine wpList_apI rfl _ _ rfl w0.heap.size vl st.l.length (st.l.map nI) [nI k] rfl ⟨_, 0, none⟩ 1 1 rfl HOBl.out.ll HCEl.out HONl.out HNL3.out HBBl.out ?_; intro v' w4 hown hgrow hnew; obtain ⟨avl, cvl, rfl⟩ := own_hdI hown; have HOwl := hid hown; have HGwl := hid hgrow; have HNwl := hid hnew; have hrwl := HOBl.out.own.grown hgrow (own_row_ne HOBl.out.ll HOBl.out.own HTW.out); have hwll := hrwl.lt; have hwfl := hrwl.frozen 4; have hw0l := hrwl.cell' 0; have hw2l := hrwl.cell' 2; have hw4l := hrwl.cell' 4; have hw5l := hrwl.cell' 5; clear hown hgrow hnew))
    clear q0 q1 q2 q3 q4 q5 hobl hrwl hwll hwfl hw0l hw2l hw4l hw5l
    have H5 := hid (HOBl.out.setL (l := st.l ++ [k]) HGwl.out (own_ext HOwl.out (by simp) (by simp)) HNwl.out)
    go_ret
    refine ⟨rfl, ?_⟩
    rw [HD.out]
    exact ⟨_, _, _, _, _, _, H5.out⟩
set_option maxRecDepth 100000 in
set_option maxHeartbeats 8000000 in
theorem wdoes1_any (w0 : World) (F : Nat) (t : FT) (p g h c m q a b G d ob : Nat) (dd : Nat → Option Addr × Nat) (vl vh : Value) (st : S8) (ws : List Nat) (vL : Value) (vs : List Value) (Ls : List (List Int)) (i pg n : Int) (w : World) (H : PW w0 F t p g h c m q a b G d ob dd vl vh st ws vL st.s vs Ls w) (Gd : Good (rdP16 t.L) st.s st.h) 
    (hb1 : st.h.length ≤ 1000000) (hb2 : st.l.length ≤ 1000000) (hb3 : st.s.tn + 1 < 1000000000) :
    Calls Tryz.prog 7 #[.pointer (some ⟨ob, 0, none⟩), opW ⟨1, i, pg, n⟩] w (Does8P w0 F t p g h c m q a b G d ob dd (does8 (rdP16 t.L) st ⟨1, i, pg, n⟩)) := by
  obtain ⟨w1, hw1⟩ : ∃ w1, w1 = w.alloc (.cells #[.int .i64 1, .int .i64 i, .int .i64 pg, .int .i64 n] 33) := ⟨_, rfl⟩
  have H1 := hid (show PW w0 F t p g h c m q a b G d ob dd vl vh st ws vL st.s vs Ls w1 by rw [hw1]; exact H.below (bal _))
  have HP1 := hid (show Row w1 w.heap.size 33 [.int .i64 1, .int .i64 i, .int .i64 pg, .int .i64 n] by rw [hw1]; exact Row.new w _ _)
  have HW1 := hid hw1
  have HG := hid Gd
  have HNL3 := hid (show st.l.length + 1 ≤ 1000000000 by omega)
  have HNL4 := hid (show st.h.length + 1 ≤ 1000000000 by omega)
  have HHL := hid (show st.h.length ≤ 1000000000 by omega)
  have HUP := hid (show ∀ x ∈ st.s.fs, x.cnt < 9223372036854775807 from fun x hx => by have := Gd.small x hx; omega)
  have HMX := hid (show ∀ c ∈ cnts st.s.fs, c < 9223372036854775807 from fun c hc => by obtain ⟨x, hx, rfl⟩ := List.mem_map.1 hc; exact HUP.out x hx)
  have HSL := hid (show st.s.sl.length ≤ 1000000000 from by have := Gd.many; omega)
  obtain ⟨q0, q1, q2, q3, q4, q5⟩ := H.own.six8
  have hobl := H.own.lt
  clear H hw1 hb1 hb2 hb3 Gd
  unfold opW
  obtain ⟨st', hst⟩ : ∃ st', st' = does8 (rdP16 t.L) st ⟨1, i, pg, n⟩ := ⟨_, rfl⟩
  rw [← hst]
  have HD := hid (hst.trans (show does8 (rdP16 t.L) st ⟨1, i, pg, n⟩ = (match takC st.s with
    | (f, e, s') => if e = 0 then ⟨s', st.l ++ [f.toNat], st.h ++ [f.toNat]⟩ else ⟨s', st.l, st.h⟩) from rfl))
  clear hst
  have HTK := hid (ctake_any w0 F t p g h c m st.s ws (rdP16 t.L) st.h w1 H1.out.cw HG.out HHL.out)
  go_enter Tryz.func7, Tryz.ntmps7
  go_wp2_with fail
  rw [← HW1.out]
  refine (HTK.out).mono ?_
  rintro e' w2 ⟨rfl, ⟨ws2, hc2⟩, he2⟩
  have Hw2 := hid (H1.out.prog hc2 he2)
  clear hc2 he2 q0 q1 q2 q3 q4 q5 hobl
  have HGR := hid (rctake_any w0.heap.size q a b G d vL st.s vs Ls w2 Hw2.out.rc HG.out Hw2.out.cw.low.size HSL.out HMX.out)
  obtain ⟨q0, q1, q2, q3, q4, q5⟩ := (Hw2.out).own.six8
  have hobl := (Hw2.out).own.lt
  go_wp2_with fail
  refine (HGR.out).mono ?_
  rintro e' w3 ⟨rfl, vL3, vs3, Ls3, hr3⟩
  have Hw3 := hid (Hw2.out.refr hr3)
  clear hr3 q0 q1 q2 q3 q4 q5 hobl
  rcases takC_case HG.out with ⟨k, s', h1, T⟩ | ⟨h1, h2⟩
  · rw [h1] at HD Hw3 ⊢
    simp only [if_true, Int.toNat_natCast] at HD
    clear h1 T
    have d2b : ((k : Int) == (k : Int)) = true := by simp
    obtain ⟨q0, q1, q2, q3, q4, q5⟩ := (Hw3.out).own.six8
    have hobl := (Hw3.out).own.lt
    have HTW := hid tyWI
    have HCEl := hid (show Cel (w3.alloc (.cells #[.int .i64 (k : Int)] 3)) (some ⟨w3.heap.size, 0, none⟩) 1 [nI k] from by
      have hh := Row.new w3 3 [nI k]
      exact ⟨rfl, fun i hi => ⟨_, 0, rfl, by rw [Nat.zero_add]; exact hh.cell i hi⟩⟩)
    have HONl := hid (show ∀ u ∈ [nI k], u.oneCell' = true from fun u hu => by rw [List.mem_singleton.1 hu]; rfl)
    have HOBl := hid ((Hw3.out).below (bal (.cells #[.int .i64 (k : Int)] 3)))
    have HBBl := hid (show w0.heap.size ≤ (w3.alloc (.cells #[.int .i64 (k : Int)] 3)).heap.size from HOBl.out.cw.low.size)
    go_upto_region 13 with (at_builtin; go_must (refine wpList_apI rfl _ _ rfl w0.heap.size vl st.l.length (st.l.map nI) [nI k] rfl ⟨_, 0, none⟩ 1 1 rfl HOBl.out.ll HCEl.out HONl.out HNL3.out HBBl.out ?_; intro v' w4 hown hgrow hnew; obtain ⟨avl, cvl, rfl⟩ := own_hdI hown; have HOwl := hid hown; have HGwl := hid hgrow; have HNwl := hid hnew; have hrwl := HOBl.out.own.grown hgrow (own_row_ne HOBl.out.ll HOBl.out.own HTW.out); have hwll := hrwl.lt; have hwfl := hrwl.frozen 4; have hw0l := hrwl.cell' 0; have hw2l := hrwl.cell' 2; have hw4l := hrwl.cell' 4; have hw5l := hrwl.cell' 5; clear hown hgrow hnew))
    have Hw5 := hid (HOBl.out.setL (l := st.l ++ [k]) HGwl.out (own_ext HOwl.out (by simp) (by simp)) HNwl.out)
    clear q0 q1 q2 q3 q4 q5 hobl hrwl hwll hwfl hw0l hw2l hw4l hw5l
    generalize w4.setCell ⟨ob, 4, none⟩ (.slice avl (st.l.length + 1) cvl) = w5 at Hw5 ⊢
    obtain ⟨q0, q1, q2, q3, q4, q5⟩ := (Hw5.out).own.six8
    have hobl := (Hw5.out).own.lt
    have HCEh := hid (show Cel (w5.alloc (.cells #[.int .i64 (k : Int)] 3)) (some ⟨w5.heap.size, 0, none⟩) 1 [nI k] from by
      have hh := Row.new w5 3 [nI k]
      exact ⟨rfl, fun i hi => ⟨_, 0, rfl, by rw [Nat.zero_add]; exact hh.cell i hi⟩⟩)
    have HONh := hid (show ∀ u ∈ [nI k], u.oneCell' = true from fun u hu => by rw [List.mem_singleton.1 hu]; rfl)
    have HOBh := hid ((Hw5.out).below (bal (.cells #[.int .i64 (k : Int)] 3)))
    have HBBh := hid (show w0.heap.size ≤ (w5.alloc (.cells #[.int .i64 (k : Int)] 3)).heap.size from HOBh.out.cw.low.size)
    go_wp2_with (at_builtin; go_must (refine wpList_apI rfl _ _ rfl w0.heap.size vh st.h.length (st.h.map nI) [nI k] rfl ⟨_, 0, none⟩ 1 1 rfl HOBh.out.hh HCEh.out HONh.out HNL4.out HBBh.out ?_; intro v' w6 hown hgrow hnew; obtain ⟨avh, cvh, rfl⟩ := own_hdI hown; have HOwh := hid hown; have HGwh := hid hgrow; have HNwh := hid hnew; have hrwh := HOBh.out.own.grown hgrow (own_row_ne HOBh.out.hh HOBh.out.own HTW.out); have hwlh := hrwh.lt; have hwfh := hrwh.frozen 5; have hw0h := hrwh.cell' 0; have hw2h := hrwh.cell' 2; have hw4h := hrwh.cell' 4; have hw5h := hrwh.cell' 5; clear hown hgrow hnew))
    have H7 := hid (HOBh.out.setH (l := st.h ++ [k]) HOBh.out.hh (Nat.le_refl _) (fun k' e e2 => HOBh.out.ne k' e2 e) HOBh.out.ha HGwh.out (own_ext HOwh.out (by simp) (by simp)) HNwh.out)
    go_ret
    refine ⟨rfl, ?_⟩
    rw [HD.out]
    exact ⟨_, _, _, _, _, _, H7.out⟩
  · rw [h1] at HD Hw3 ⊢
    simp only [show ¬ ((4 : Int) = 0) by decide, if_false] at HD
    clear h1 h2
    go_wp2_with fail
    go_ret
    refine ⟨rfl, ?_⟩
    rw [HD.out]
    exact ⟨_, _, _, _, _, _, Hw3.out⟩
set_option maxRecDepth 100000 in
set_option maxHeartbeats 8000000 in
theorem wdoes4_any (w0 : World) (F : Nat) (t : FT) (p g h c m q a b G d ob : Nat) (dd : Nat → Option Addr × Nat) (vl vh : Value) (st : S8) (ws : List Nat) (vL : Value) (vs : List Value) (Ls : List (List Int)) (i pg n : Int) (w : World) (H : PW w0 F t p g h c m q a b G d ob dd vl vh st ws vL st.s vs Ls w) (Gd : Good (rdP16 t.L) st.s st.h) 
    (hb1 : st.h.length ≤ 1000000) (hb2 : st.l.length ≤ 1000000) (hb3 : st.s.tn + 1 < 1000000000) :
    Calls Tryz.prog 7 #[.pointer (some ⟨ob, 0, none⟩), opW ⟨4, i, pg, n⟩] w (Does8P w0 F t p g h c m q a b G d ob dd (does8 (rdP16 t.L) st ⟨4, i, pg, n⟩)) := by
  obtain ⟨w1, hw1⟩ : ∃ w1, w1 = w.alloc (.cells #[.int .i64 4, .int .i64 i, .int .i64 pg, .int .i64 n] 33) := ⟨_, rfl⟩
  have H1 := hid (show PW w0 F t p g h c m q a b G d ob dd vl vh st ws vL st.s vs Ls w1 by rw [hw1]; exact H.below (bal _))
  have HP1 := hid (show Row w1 w.heap.size 33 [.int .i64 4, .int .i64 i, .int .i64 pg, .int .i64 n] by rw [hw1]; exact Row.new w _ _)
  have HW1 := hid hw1
  have HG := hid Gd
  have HNL3 := hid (show st.l.length + 1 ≤ 1000000000 by omega)
  have HNL4 := hid (show st.h.length + 1 ≤ 1000000000 by omega)
  have HHL := hid (show st.h.length ≤ 1000000000 by omega)
  have HUP := hid (show ∀ x ∈ st.s.fs, x.cnt < 9223372036854775807 from fun x hx => by have := Gd.small x hx; omega)
  have HMX := hid (show ∀ c ∈ cnts st.s.fs, c < 9223372036854775807 from fun c hc => by obtain ⟨x, hx, rfl⟩ := List.mem_map.1 hc; exact HUP.out x hx)
  have HSL := hid (show st.s.sl.length ≤ 1000000000 from by have := Gd.many; omega)
  obtain ⟨q0, q1, q2, q3, q4, q5⟩ := H.own.six8
  have hobl := H.own.lt
  clear H hw1 hb1 hb2 hb3 Gd
  unfold opW
  obtain ⟨st', hst⟩ : ∃ st', st' = does8 (rdP16 t.L) st ⟨4, i, pg, n⟩ := ⟨_, rfl⟩
  rw [← hst]
  have HD := hid (hst.trans (show does8 (rdP16 t.L) st ⟨4, i, pg, n⟩ = ⟨drpC st.s, st.l, st.h⟩ from rfl))
  clear hst
  have HTK := hid (drop_any w0 F t p g h c m st.s ws (rdP16 t.L) st.h w1 H1.out.cw HG.out HHL.out)
  go_enter Tryz.func7, Tryz.ntmps7
  go_wp2_with fail
  rw [← HW1.out]
  refine (HTK.out).mono ?_
  rintro e' w2 ⟨rfl, ⟨ws2, hc2⟩, he2⟩
  have Hw2 := hid (H1.out.prog hc2 he2)
  clear hc2 he2 q0 q1 q2 q3 q4 q5 hobl
  have HGR := hid (rcdrop_any w0.heap.size q a b G d vL st.s vs Ls w2 Hw2.out.rc HG.out Hw2.out.cw.low.size HSL.out HMX.out)
  obtain ⟨q0, q1, q2, q3, q4, q5⟩ := (Hw2.out).own.six8
  have hobl := (Hw2.out).own.lt
  go_wp2_with fail
  refine (HGR.out).mono ?_
  rintro e' w3 ⟨rfl, vL3, vs3, Ls3, hr3⟩
  have Hw3 := hid (Hw2.out.refr hr3)
  clear hr3 q0 q1 q2 q3 q4 q5 hobl
  go_wp2_with fail
  go_ret
  refine ⟨rfl, ?_⟩
  rw [HD.out]
  exact ⟨_, _, _, _, _, _, Hw3.out⟩
set_option maxRecDepth 100000 in
set_option maxHeartbeats 8000000 in
theorem wdoes5_any (w0 : World) (F : Nat) (t : FT) (p g h c m q a b G d ob : Nat) (dd : Nat → Option Addr × Nat) (vl vh : Value) (st : S8) (ws : List Nat) (vL : Value) (vs : List Value) (Ls : List (List Int)) (k : Int) (i pg n : Int) (w : World) (H : PW w0 F t p g h c m q a b G d ob dd vl vh st ws vL st.s vs Ls w) (Gd : Good (rdP16 t.L) st.s st.h) (k0 : k ≠ 0) (k1 : k ≠ 1) (k2 : k ≠ 2) (k3 : k ≠ 3) (k4 : k ≠ 4) 
    (hb1 : st.h.length ≤ 1000000) (hb2 : st.l.length ≤ 1000000) (hb3 : st.s.tn + 1 < 1000000000) :
    Calls Tryz.prog 7 #[.pointer (some ⟨ob, 0, none⟩), opW ⟨k, i, pg, n⟩] w (Does8P w0 F t p g h c m q a b G d ob dd (does8 (rdP16 t.L) st ⟨k, i, pg, n⟩)) := by
  obtain ⟨w1, hw1⟩ : ∃ w1, w1 = w.alloc (.cells #[.int .i64 k, .int .i64 i, .int .i64 pg, .int .i64 n] 33) := ⟨_, rfl⟩
  have H1 := hid (show PW w0 F t p g h c m q a b G d ob dd vl vh st ws vL st.s vs Ls w1 by rw [hw1]; exact H.below (bal _))
  have HP1 := hid (show Row w1 w.heap.size 33 [.int .i64 k, .int .i64 i, .int .i64 pg, .int .i64 n] by rw [hw1]; exact Row.new w _ _)
  have HW1 := hid hw1
  have HG := hid Gd
  have HNL3 := hid (show st.l.length + 1 ≤ 1000000000 by omega)
  have HNL4 := hid (show st.h.length + 1 ≤ 1000000000 by omega)
  have HHL := hid (show st.h.length ≤ 1000000000 by omega)
  have HUP := hid (show ∀ x ∈ st.s.fs, x.cnt < 9223372036854775807 from fun x hx => by have := Gd.small x hx; omega)
  have HMX := hid (show ∀ c ∈ cnts st.s.fs, c < 9223372036854775807 from fun c hc => by obtain ⟨x, hx, rfl⟩ := List.mem_map.1 hc; exact HUP.out x hx)
  have HSL := hid (show st.s.sl.length ≤ 1000000000 from by have := Gd.many; omega)
  have d0 : (k == 0) = false := by simpa using k0
  have d1 : (k == 1) = false := by simpa using k1
  have d2 : (k == 2) = false := by simpa using k2
  have d3 : (k == 3) = false := by simpa using k3
  have d4 : (k == 4) = false := by simpa using k4
  obtain ⟨q0, q1, q2, q3, q4, q5⟩ := H.own.six8
  have hobl := H.own.lt
  clear H hw1 hb1 hb2 hb3 Gd
  unfold opW
  have HD := hid (show does8 (rdP16 t.L) st ⟨k, i, pg, n⟩ = st from by
    unfold does8
    simp only [k0, k1, k2, k3, k4, if_false])
  rw [HD.out]
  clear k0 k1 k2 k3 k4
  go_enter Tryz.func7, Tryz.ntmps7
  go_wp2_with fail
  rw [← HW1.out]
  go_ret
  exact ⟨rfl, _, _, _, _, _, _, H1.out⟩
end Go.Proofs.YtfaohejdaabalaaGreatDoor
namespace Go.Proofs.YtfaohejdaabalaaGreatDoor
open Go.RowKit Go.Sort Go.Shelf Go.WideMaps Go.Maps Go.WideShapes Go.WideElems Go.MapKept Go.ChangeMaps
attribute [local go_sem] Oper.semAt_some

set_option maxRecDepth 100000 in
set_option maxHeartbeats 8000000 in
theorem wdoes2_any (w0 : World) (F : Nat) (t : FT) (p g h c m q a b G d ob : Nat) (dd : Nat → Option Addr × Nat) (vl vh : Value) (st : S8) (ws : List Nat) (vL : Value) (vs : List Value) (Ls : List (List Int)) (i pg n : Int) (w : World) (H : PW w0 F t p g h c m q a b G d ob dd vl vh st ws vL st.s vs Ls w) (Gd : Good (rdP16 t.L) st.s st.h) 
    (hb1 : st.h.length ≤ 1000000) (hb2 : st.l.length ≤ 1000000) (hb3 : st.s.tn + 1 < 1000000000) :
    Calls Tryz.prog 7 #[.pointer (some ⟨ob, 0, none⟩), opW ⟨2, i, pg, n⟩] w (Does8P w0 F t p g h c m q a b G d ob dd (does8 (rdP16 t.L) st ⟨2, i, pg, n⟩)) := by
  obtain ⟨w1, hw1⟩ : ∃ w1, w1 = w.alloc (.cells #[.int .i64 2, .int .i64 i, .int .i64 pg, .int .i64 n] 33) := ⟨_, rfl⟩
  have H1 := hid (show PW w0 F t p g h c m q a b G d ob dd vl vh st ws vL st.s vs Ls w1 by rw [hw1]; exact H.below (bal _))
  have HP1 := hid (show Row w1 w.heap.size 33 [.int .i64 2, .int .i64 i, .int .i64 pg, .int .i64 n] by rw [hw1]; exact Row.new w _ _)
  have HW1 := hid hw1
  have HG := hid Gd
  have HNL3 := hid (show st.l.length + 1 ≤ 1000000000 by omega)
  have HNL4 := hid (show st.h.length + 1 ≤ 1000000000 by omega)
  have HHL := hid (show st.h.length ≤ 1000000000 by omega)
  have HUP := hid (show ∀ x ∈ st.s.fs, x.cnt < 9223372036854775807 from fun x hx => by have := Gd.small x hx; omega)
  have HMX := hid (show ∀ c ∈ cnts st.s.fs, c < 9223372036854775807 from fun c hc => by obtain ⟨x, hx, rfl⟩ := List.mem_map.1 hc; exact HUP.out x hx)
  have HSL := hid (show st.s.sl.length ≤ 1000000000 from by have := Gd.many; omega)
  obtain ⟨q0, q1, q2, q3, q4, q5⟩ := H.own.six8
  have hobl := H.own.lt
  clear H hw1 hb1 hb2 hb3 Gd
  obtain ⟨al, cl, rfl⟩ := own_hdI H1.out.ll
  have HCL := hid (show Cel w1 al st.l.length (st.l.map nI) from by
    obtain ⟨a2, c2, e, hc, _⟩ := own_cel H1.out.ll
    have i0 := Value.slice.inj e
    rw [i0.1]
    exact hc)
  unfold opW
  obtain ⟨st', hst⟩ : ∃ st', st' = does8 (rdP16 t.L) st ⟨2, i, pg, n⟩ := ⟨_, rfl⟩
  rw [← hst]
  have HD := hid (hst.trans (show does8 (rdP16 t.L) st ⟨2, i, pg, n⟩ = (match atP st.l n with
    | none => st
    | some f => if cntF st.s.fs (f : Int) = 0 then st else ⟨{ st.s with fs := upS st.s.fs (f : Int) }, st.l, st.h ++ [f]⟩) from rfl))
  clear hst
  have HAT := hid (fun q => at_any8 al cl st.l n (w1.drewN q) (HCL.out.below' (bdN (Below.refl _ _) q)))
  go_enter Tryz.func7, Tryz.ntmps7
  go_wp2_with fail
  rw [← HW1.out]
  clear q0 q1 q2 q3 q4 q5 hobl
  obtain ⟨q0, q1, q2, q3, q4, q5⟩ := H1.out.own.six8
  obtain ⟨o0, o1, o2, o3⟩ := HP1.out.four
  have hobl := H1.out.own.lt
  have hopl := HP1.out.lt
  cases ha : atP st.l n with
  | none =>
    rw [ha] at HAT HD
    unfold atE at HAT
    clear ha
    go_wp2_with fail
    go_quiet ((go_at_call 27; exact Calls.quiet_of_same ((HAT.out _).mono (fun _ _ h => ⟨h.1, h.2.symm⟩))))
    go_wp2_with fail
    go_ret
    refine ⟨rfl, ?_⟩
    rw [HD.out]
    exact ⟨_, _, _, _, _, _, H1.out.below (bdN (Below.refl _ _) nq)⟩
  | some f =>
    rw [ha] at HAT HD
    unfold atE at HAT
    clear ha
    go_wp2_with fail
    go_quiet ((go_at_call 27; exact Calls.quiet_of_same ((HAT.out _).mono (fun _ _ h => ⟨h.1, h.2.symm⟩))))
    have HUC := hid (up_any p g h st.s.fs ws (f : Int) (w1.drewN nq) (H1.out.below (bdN (Below.refl _ _) nq)).cw.pool HUP.out)
    have HW := hid (H1.out.below (bdN (Below.refl _ _) nq))
    go_wp2_with fail
    refine (HUC.out).mono ?_
    rintro e' w2 ⟨rfl, hp2, he2⟩
    have Hw2 := hid (HW.out.prog (HW.out.cw.pool' hp2 he2) (ex_cS he2))
    clear hp2 he2 q0 q1 q2 q3 q4 q5 hobl o0 o1 o2 o3 hopl
    obtain ⟨q0, q1, q2, q3, q4, q5⟩ := (Hw2.out).own.six8
    have hobl := (Hw2.out).own.lt
    have HRU := hid (rup_any w0.heap.size q a b (cnts st.s.fs) vs Ls (f : Int) w2 Hw2.out.rc.rs HMX.out)
    go_wp2_with fail
    refine (HRU.out).mono ?_
    rintro e' w3 ⟨rfl, hrs3, he3⟩
    rw [rtk_zero Hw2.out.rc.h0]
    rw [cnts_up Hw2.out.rc.h0] at hrs3
    have Hw3 := hid (Hw2.out.refr (Hw2.out.rc.pool hrs3 (holds_up Hw2.out.rc.hd (f : Int)) he3 (fun x e => by cases e) (fun i hi x e => .inl ⟨i, hi, e⟩) { st.s with fs := upS st.s.fs (f : Int) } rfl rfl))
    clear hrs3 he3 q0 q1 q2 q3 q4 q5 hobl HRU
    by_cases hc : cntF st.s.fs (f : Int) = 0
    · have e1 : takE st.s.fs (f : Int) = 1 := by unfold takE; rw [if_pos hc]
      rw [e1]
      simp only [if_pos hc] at HD
      have Hw4 := Hw3.out
      rw [upS_zero hc] at Hw4
      have Hw5 := hid Hw4
      clear e1 hc Hw4
      go_wp2_with fail
      go_ret
      refine ⟨rfl, ?_⟩
      rw [HD.out]
      exact ⟨_, _, _, _, _, _, Hw5.out⟩
    · have e1 : takE st.s.fs (f : Int) = 0 := by unfold takE; rw [if_neg hc]
      rw [e1]
      simp only [if_neg hc] at HD
      clear e1 hc
      obtain ⟨q0, q1, q2, q3, q4, q5⟩ := (Hw3.out).own.six8
      have hobl := (Hw3.out).own.lt
      have HTW := hid tyWI
      have HCEh := hid (show Cel (w3.alloc (.cells #[.int .i64 (f : Int)] 3)) (some ⟨w3.heap.size, 0, none⟩) 1 [nI f] from by
        have hh := Row.new w3 3 [nI f]
        exact ⟨rfl, fun i hi => ⟨_, 0, rfl, by rw [Nat.zero_add]; exact hh.cell i hi⟩⟩)
      have HONh := hid (show ∀ u ∈ [nI f], u.oneCell' = true from fun u hu => by rw [List.mem_singleton.1 hu]; rfl)
      have HOBh := hid ((Hw3.out).below (bal (.cells #[.int .i64 (f : Int)] 3)))
      have HBBh := hid (show w0.heap.size ≤ (w3.alloc (.cells #[.int .i64 (f : Int)] 3)).heap.size from HOBh.out.cw.low.size)
      go_wp2_with (at_builtin; go_must (refine wpList_apI rfl _ _ rfl w0.heap.size vh st.h.length (st.h.map nI) [nI f] rfl ⟨_, 0, none⟩ 1 1 rfl HOBh.out.hh HCEh.out HONh.out HNL4.out HBBh.out ?_; intro v' w4 hown hgrow hnew; obtain ⟨avh, cvh, rfl⟩ := own_hdI hown; have HOwh := hid hown; have HGwh := hid hgrow; have HNwh := hid hnew; have hrwh := HOBh.out.own.grown hgrow (own_row_ne HOBh.out.hh HOBh.out.own HTW.out); have hwlh := hrwh.lt; have hwfh := hrwh.frozen 5; have hw0h := hrwh.cell' 0; have hw2h := hrwh.cell' 2; have hw4h := hrwh.cell' 4; have hw5h := hrwh.cell' 5; clear hown hgrow hnew))
      have H7 := hid (HOBh.out.setH (l := st.h ++ [f]) HOBh.out.hh (Nat.le_refl _) (fun k' e e2 => HOBh.out.ne k' e2 e) HOBh.out.ha HGwh.out (own_ext HOwh.out (by simp) (by simp)) HNwh.out)
      go_ret
      refine ⟨rfl, ?_⟩
      rw [HD.out]
      exact ⟨_, _, _, _, _, _, H7.out⟩
set_option maxRecDepth 100000 in
set_option maxHeartbeats 8000000 in
theorem wdoes3_any (w0 : World) (F : Nat) (t : FT) (p g h c m q a b G d ob : Nat) (dd : Nat → Option Addr × Nat) (vl vh : Value) (st : S8) (ws : List Nat) (vL : Value) (vs : List Value) (Ls : List (List Int)) (i pg n : Int) (w : World) (H : PW w0 F t p g h c m q a b G d ob dd vl vh st ws vL st.s vs Ls w) (Gd : Good (rdP16 t.L) st.s st.h) 
    (hb1 : st.h.length ≤ 1000000) (hb2 : st.l.length ≤ 1000000) (hb3 : st.s.tn + 1 < 1000000000) :
    Calls Tryz.prog 7 #[.pointer (some ⟨ob, 0, none⟩), opW ⟨3, i, pg, n⟩] w (Does8P w0 F t p g h c m q a b G d ob dd (does8 (rdP16 t.L) st ⟨3, i, pg, n⟩)) := by
  obtain ⟨w1, hw1⟩ : ∃ w1, w1 = w.alloc (.cells #[.int .i64 3, .int .i64 i, .int .i64 pg, .int .i64 n] 33) := ⟨_, rfl⟩
  have H1 := hid (show PW w0 F t p g h c m q a b G d ob dd vl vh st ws vL st.s vs Ls w1 by rw [hw1]; exact H.below (bal _))
  have HP1 := hid (show Row w1 w.heap.size 33 [.int .i64 3, .int .i64 i, .int .i64 pg, .int .i64 n] by rw [hw1]; exact Row.new w _ _)
  have HW1 := hid hw1
  have HG := hid Gd
  have HNL3 := hid (show st.l.length + 1 ≤ 1000000000 by omega)
  have HNL4 := hid (show st.h.length + 1 ≤ 1000000000 by omega)
  have HHL := hid (show st.h.length ≤ 1000000000 by omega)
  have HUP := hid (show ∀ x ∈ st.s.fs, x.cnt < 9223372036854775807 from fun x hx => by have := Gd.small x hx; omega)
  have HMX := hid (show ∀ c ∈ cnts st.s.fs, c < 9223372036854775807 from fun c hc => by obtain ⟨x, hx, rfl⟩ := List.mem_map.1 hc; exact HUP.out x hx)
  have HSL := hid (show st.s.sl.length ≤ 1000000000 from by have := Gd.many; omega)
  obtain ⟨q0, q1, q2, q3, q4, q5⟩ := H.own.six8
  have hobl := H.own.lt
  clear H hw1 hb1 hb2 hb3 Gd
  obtain ⟨ah, ch, rfl⟩ := own_hdI H1.out.hh
  have HCL := hid (show Cel w1 ah st.h.length (st.h.map nI) from by
    obtain ⟨a2, c2, e, hc, _⟩ := own_cel H1.out.hh
    have i0 := Value.slice.inj e
    rw [i0.1]
    exact hc)
  unfold opW
  obtain ⟨st', hst⟩ : ∃ st', st' = does8 (rdP16 t.L) st ⟨3, i, pg, n⟩ := ⟨_, rfl⟩
  rw [← hst]
  have HD := hid (hst.trans (show does8 (rdP16 t.L) st ⟨3, i, pg, n⟩ = (match atP st.h n with
    | none => st
    | some f => ⟨{ st.s with fs := downS st.s.fs (f : Int) }, st.l, st.h.eraseIdx (n.toNat % st.h.length)⟩) from rfl))
  have HAT := hid (fun q => at_any8 ah ch st.h n (w1.drewN q) (HCL.out.below' (bdN (Below.refl _ _) q)))
  clear hst
  go_enter Tryz.func7, Tryz.ntmps7
  go_wp2_with fail
  rw [← HW1.out]
  clear q0 q1 q2 q3 q4 q5 hobl
  obtain ⟨q0, q1, q2, q3, q4, q5⟩ := H1.out.own.six8
  obtain ⟨o0, o1, o2, o3⟩ := HP1.out.four
  have hobl := H1.out.own.lt
  have hopl := HP1.out.lt
  cases ha : atP st.h n with
  | none =>
    rw [ha] at HAT HD
    unfold atE at HAT
    clear ha
    go_wp2_with fail
    go_quiet ((go_at_call 27; exact Calls.quiet_of_same ((HAT.out _).mono (fun _ _ h => ⟨h.1, h.2.symm⟩))))
    go_wp2_with fail
    go_ret
    refine ⟨rfl, ?_⟩
    rw [HD.out]
    exact ⟨_, _, _, _, _, _, H1.out.below (bdN (Below.refl _ _) nq)⟩
  | some f =>
    rw [ha] at HAT HD
    unfold atE at HAT
    have hcn : ¬ (st.h = [] ∨ n < 0) := fun e => by unfold atP at ha; rw [if_pos e] at ha; cases ha
    obtain ⟨j, hj, hm, h2, hjj⟩ := atP_some hcn
    rw [ha] at h2
    have HF := hid (Option.some.inj h2)
    rw [← hjj] at HD
    obtain ⟨gh, cap, cur, e1, hb, hg, hnc, hcm, hcs, htake⟩ : ∃ g cap cur, Value.slice ah st.h.length ch = .slice (some ⟨g, 0, none⟩) st.h.length cap ∧ w0.heap.size ≤ g ∧ w1.heap[g]? = some (.cells cur 3 (0, 0)) ∧ st.h.length ≤ cap ∧ cap ≤ maxLen ∧ cur.size = cap * 1 ∧ cur.toList.take (st.h.length * 1) = st.h.map nI := by
      rcases H1.out.hh.2 with ⟨_, h0⟩ | h1
      · exact absurd (List.length_eq_zero_iff.1 h0) (fun e => hcn (.inl e))
      · exact h1
    have i0 := Value.slice.inj e1
    obtain ⟨rfl, _, rfl⟩ := i0
    have HJ := hid hj
    have HNC := hid hnc
    have hn0 : decide ((st.h.length : Int) = 0) = false := by simp; exact fun e => hcn (.inl e)
    have hn1 : ¬ (st.h.length : Int) = 0 := by intro e; exact hcn (.inl (List.length_eq_zero_iff.1 (by omega)))
    clear ha hcn h2 hjj e1 hb hg hcm hcs htake
    go_wp2_with fail
    go_quiet ((go_at_call 27; exact Calls.quiet_of_same ((HAT.out _).mono (fun _ _ h => ⟨h.1, h.2.symm⟩))))
    have H1A := hid (H1.out.below (bdN (Below.refl _ _) nq))
    have HP1A := hid (HP1.out.below (bdN (Below.refl w1.heap.size w1) nq) HP1.out.lt)
    generalize World.drewN w1 nq = wa at H1A HP1A ⊢
    clear q0 q1 q2 q3 q4 q5 hobl o0 o1 o2 o3 hopl
    obtain ⟨q0, q1, q2, q3, q4, q5⟩ := H1A.out.own.six8
    obtain ⟨o0, o1, o2, o3⟩ := HP1A.out.four
    have hobl := H1A.out.own.lt
    have hopl := HP1A.out.lt
    go_wp2_with fail
    go_quiet (fail)
    have H2 := hid (H1A.out.below (bdN (Below.refl _ _) nq))
    generalize World.drewN wa nq = w2 at H2 ⊢
    clear q0 q1 q2 q3 q4 q5 hobl o0 o1 o2 o3 hopl hm hn0 hn1
    obtain ⟨q0, q1, q2, q3, q4, q5⟩ := H2.out.own.six8
    have hobl := H2.out.own.lt
    have hj1 := HJ.out
    have hj2 := HNC.out
    obtain ⟨W3, hW3⟩ : ∃ W3, W3 = w2.alloc (.cells #[] 3) := ⟨_, rfl⟩
    have HW3 := hid hW3
    have HX3 := hid (show PW w0 F t p g h c m q a b G d ob dd vl (.slice (some ⟨gh, 0, none⟩) st.h.length ch) st ws vL st.s vs Ls W3 by rw [hW3]; exact H2.out.below (bal _))
    have HOE := hid (show W3.ownsRow w0.heap.size 3 1 (.slice (some ⟨w2.heap.size, 0, none⟩) 0 0) 0 [] by
      rw [hW3]
      exact ⟨rfl, .inr ⟨w2.heap.size, 0, #[], rfl, H2.out.cw.low.size, heap_alloc_new w2 _, Nat.le_refl _, Nat.zero_le _, rfl, rfl⟩⟩)
    have HOEX := hid (show (w2.alloc (.cells #[] 3)).ownsRow w0.heap.size 3 1 (.slice (some ⟨w2.heap.size, 0, none⟩) 0 0) 0 [] by rw [← hW3]; exact HOE.out)
    have HCC := hid (show Cel W3 (some ⟨gh, 0, none⟩) st.h.length (st.h.map nI) from by
      obtain ⟨a2, c2, e, hc, _⟩ := own_cel HX3.out.hh
      have i0 := Value.slice.inj e
      rw [i0.1]
      exact hc)
    have HCT := hid (show Cel (w2.alloc (.cells #[] 3)) (some ⟨gh, 0, none⟩) j ((st.h.take j).map nI) from by
      rw [← hW3]
      refine ⟨by simp; omega, fun i hi => ?_⟩
      obtain ⟨b, o, e, hc⟩ := HCC.out.cell i (by simp at hi ⊢; omega)
      refine ⟨b, o, e, ?_⟩
      rw [hc]
      simp)
    have HBW := hid (show w0.heap.size ≤ (w2.alloc (.cells #[] 3)).heap.size by rw [World.size_alloc]; exact Nat.le_succ_of_le H2.out.cw.low.size)
    have HONA := hid (show ∀ l : List Nat, ∀ u ∈ l.map nI, u.oneCell' = true from fun l u hu => by obtain ⟨x, _, rfl⟩ := List.mem_map.1 hu; rfl)
    have HNJ := hid (show 0 + j ≤ 1000000000 by have := HNL4.out; omega)
    have HUL := hid (show ∀ k, (Value.slice (some ⟨w2.heap.size, 0, none⟩) 0 0).ownBlock = some k → vl.ownBlock ≠ some k from fun k e1 e2 => by
      have h1 := (own_base_le H2.out.ll k e2).2
      have h2 := Option.some.inj e1
      simp only at h2
      omega)
    have HUH := hid (show ∀ k, (Value.slice (some ⟨w2.heap.size, 0, none⟩) 0 0).ownBlock = some k → (Value.slice (some ⟨gh, 0, none⟩) st.h.length ch).ownBlock ≠ some k from fun k e1 e2 => by
      have h1 := (own_base_le H2.out.hh k e2).2
      have h2 := Option.some.inj e1
      simp only at h2
      omega)
    have HUA := hid (show ∀ k, (Value.slice (some ⟨w2.heap.size, 0, none⟩) 0 0).ownBlock = some k → k ≠ a from fun k e1 e2 => by
      have h1 := H2.out.rc.rs.rp.cnts.lt
      have h2 := Option.some.inj e1
      simp only at h2
      omega)
    clear hW3
    have hln := HNL4.out
    have HNJ2 := hid (show j + (st.h.length - (j + 1)) ≤ 1000000000 by have := HNL4.out; have := HJ.out; omega)
    have HCE := hid (fun (ww : World) (b0 n0 : Nat) (l0 : List Value) (hh : ww.ownsRow b0 3 1 (.slice (some ⟨gh, 0, none⟩) st.h.length ch) n0 l0) => show Cel ww (some ⟨gh, 0, none⟩) n0 l0 from by
      obtain ⟨a2, c2, e, hc, _⟩ := own_cel hh
      have i0 := Value.slice.inj e
      rw [i0.1]
      exact hc)
    have HNJ3 := hid (show j + 0 ≤ 1000000000 by have := HNL4.out; have := HJ.out; omega)
    by_cases hch : ch = j + 1
    · subst hch
      have HCD := hid (fun (ww : World) (hb : Cel ww (some ⟨gh, 0, none⟩) st.h.length (st.h.map nI)) => show Cel ww (some ⟨gh, 0, none⟩) 0 ((st.h.drop (j + 1)).map nI) from by
        refine ⟨by have := HJ.out; have := HNC.out; simp; omega, fun i hi => ?_⟩
        have := HJ.out; have := HNC.out; simp at hi; omega)
      go_wp2_with (at_builtin; go_must (first | (refine wpList_apI rfl _ _ rfl w0.heap.size (.slice (some ⟨w2.heap.size, 0, none⟩) 0 0) 0 [] ((st.h.take j).map nI) rfl ⟨gh, 0, none⟩ j _ rfl HOEX.out HCT.out (HONA.out _) HNJ.out HBW.out ?_; intro v' w3 hown0 hgrow hnew; have hown := own_ext hown0 (Nat.zero_add j) (List.nil_append _); clear hown0; obtain ⟨av, cv, rfl⟩ := own_hdI hown; rw [← HW3.out] at hgrow hnew; have H3 := hid (HX3.out.other HOE.out (Nat.le_refl _) hgrow HUL.out HUH.out HUA.out); have HO3 := hid hown; have HG3 := hid hgrow; have HN3 := hid hnew; have hrw := H3.out.own; have hwl := hrw.lt; have hwc4 := hrw.cell' 5; clear hown hgrow hnew hrw) | (refine wpList_apI rfl _ _ rfl w0.heap.size (.slice _ j _) j ((st.h.take j).map nI) ((st.h.drop (j + 1)).map nI) rfl ⟨gh, 0, none⟩ 0 _ rfl HO3.out (HCD.out _ (HCE.out _ _ _ _ H3.out.hh)) (HONA.out _) HNJ3.out H3.out.cw.low.size ?_; intro v'' w5 hown hgrow hnew; obtain ⟨av5, cv5, rfl⟩ := own_hdI hown; have HO5 := hid hown; have HG5 := hid hgrow; have HN5 := hid hnew; have hrw5 := H3.out.own.grown hgrow (own_row_ne HO3.out H3.out.own (by decide)); have hwl5 := hrw5.lt; have hwf5 := hrw5.frozen 5; have hwc5 := hrw5.cell' 5; have hwc50 := hrw5.cell' 0; have hwc52 := hrw5.cell' 2; clear hown hgrow hnew hrw5)))
      have HUL3 := hid (show ∀ k, (Value.slice av j cv).ownBlock = some k → vl.ownBlock ≠ some k from fun k e1 e2 => by
        rcases HN3.out with e | e
        · rw [e] at e1; exact HUL.out k e1 e2
        · rw [e] at e1
          have h1 := (own_base_le HX3.out.ll k e2).2
          have h2 := Option.some.inj e1
          omega)
      have HER := hid (show (st.h.take j).map nI ++ (st.h.drop (j + 1)).map nI = (st.h.eraseIdx j).map nI by rw [List.eraseIdx_eq_take_drop_succ, List.map_append])
      have HEL := hid (show j + 0 = (st.h.eraseIdx j).length by
        have := HJ.out
        have := HNC.out
        rw [List.length_eraseIdx, if_pos HJ.out]
        omega)
      have HUA3 := hid (show ∀ k, (Value.slice av j cv).ownBlock = some k → k ≠ a from fun k e1 e2 => by
        rcases HN3.out with e | e
        · rw [e] at e1; exact HUA.out k e1 e2
        · rw [e] at e1
          have h1 := HX3.out.rc.rs.rp.cnts.lt
          have h2 := Option.some.inj e1
          omega)
      have H5 := hid (H3.out.setH (l := st.h.eraseIdx j) HO3.out (Nat.le_refl _) HUL3.out HUA3.out HG5.out (own_ext HO5.out HEL.out HER.out) HN5.out)
      have HDN := hid (down_any p g h st.s.fs ws (f : Int) _ H5.out.cw.pool HUP.out)
      refine (HDN.out).mono ?_
      rintro e' w7 ⟨rfl, ⟨ws7, hp7⟩, he7⟩
      have H7 := hid (H5.out.prog (H5.out.cw.pool' hp7 he7) (ex_cS he7))
      clear hp7 he7
      obtain ⟨r0, r1, r2, r3, r4, r5⟩ := (H7.out).own.six8
      have hrl7 := (H7.out).own.lt
      have HRD := hid (rdown_any w0.heap.size q a b (cnts st.s.fs) vs Ls (f : Int) w7 H7.out.rc.rs HMX.out)
      have HTE := hid (show ((takE st.s.fs (f : Int)) == (takE st.s.fs (f : Int))) = true by simp)
      go_wp2_with fail
      refine (HRD.out).mono ?_
      rintro e' w8 ⟨rfl, hrs8, he8⟩
      rw [rtk_zero H7.out.rc.h0]
      rw [cnts_down H7.out.rc.h0] at hrs8
      have H8 := hid (H7.out.refr (H7.out.rc.pool hrs8 (holds_down H7.out.rc.hd (f : Int)) he8 (fun x e => by cases e) (fun i hi x e => .inl ⟨i, hi, e⟩) { st.s with fs := downS st.s.fs (f : Int) } rfl rfl))
      have hte := HTE.out
      clear hrs8 he8 r0 r1 r2 r3 r4 r5 hrl7
      generalize takE st.s.fs (f : Int) = te9 at *
      go_wp2_with fail
      go_ret
      refine ⟨rfl, ?_⟩
      rw [HD.out]
      exact ⟨_, _, _, _, _, _, H8.out⟩
    · have hch2 : ¬ (ch : Int) = (j : Int) + 1 := by omega
      have HCD := hid (fun (ww : World) (hb : Cel ww (some ⟨gh, 0, none⟩) st.h.length (st.h.map nI)) => show Cel ww (some ⟨gh, j + 1, none⟩) (st.h.length - (j + 1)) ((st.h.drop (j + 1)).map nI) from by
        refine ⟨by simp, fun i hi => ?_⟩
        obtain ⟨b, o, e, hc⟩ := hb.cell (j + 1 + i) (by simp at hi ⊢; omega)
        cases e
        refine ⟨gh, j + 1, rfl, ?_⟩
        rw [Nat.zero_add] at hc
        rw [hc]
        simp)
      go_wp2_with (at_builtin; go_must (first | (refine wpList_apI rfl _ _ rfl w0.heap.size (.slice (some ⟨w2.heap.size, 0, none⟩) 0 0) 0 [] ((st.h.take j).map nI) rfl ⟨gh, 0, none⟩ j _ rfl HOEX.out HCT.out (HONA.out _) HNJ.out HBW.out ?_; intro v' w3 hown0 hgrow hnew; have hown := own_ext hown0 (Nat.zero_add j) (List.nil_append _); clear hown0; obtain ⟨av, cv, rfl⟩ := own_hdI hown; rw [← HW3.out] at hgrow hnew; have H3 := hid (HX3.out.other HOE.out (Nat.le_refl _) hgrow HUL.out HUH.out HUA.out); have HO3 := hid hown; have HG3 := hid hgrow; have HN3 := hid hnew; have hrw := H3.out.own; have hwl := hrw.lt; have hwc4 := hrw.cell' 5; clear hown hgrow hnew hrw) | (refine wpList_apI rfl _ _ rfl w0.heap.size (.slice _ j _) j ((st.h.take j).map nI) ((st.h.drop (j + 1)).map nI) rfl ⟨gh, j + 1, none⟩ (st.h.length - (j + 1)) _ rfl HO3.out (HCD.out _ (HCE.out _ _ _ _ H3.out.hh)) (HONA.out _) HNJ2.out H3.out.cw.low.size ?_; intro v'' w5 hown hgrow hnew; obtain ⟨av5, cv5, rfl⟩ := own_hdI hown; have HO5 := hid hown; have HG5 := hid hgrow; have HN5 := hid hnew; have hrw5 := H3.out.own.grown hgrow (own_row_ne HO3.out H3.out.own (by decide)); have hwl5 := hrw5.lt; have hwf5 := hrw5.frozen 5; have hwc5 := hrw5.cell' 5; have hwc50 := hrw5.cell' 0; have hwc52 := hrw5.cell' 2; clear hown hgrow hnew hrw5)))
      have HUL3 := hid (show ∀ k, (Value.slice av j cv).ownBlock = some k → vl.ownBlock ≠ some k from fun k e1 e2 => by
        rcases HN3.out with e | e
        · rw [e] at e1; exact HUL.out k e1 e2
        · rw [e] at e1
          have h1 := (own_base_le HX3.out.ll k e2).2
          have h2 := Option.some.inj e1
          omega)
      have HER := hid (show (st.h.take j).map nI ++ (st.h.drop (j + 1)).map nI = (st.h.eraseIdx j).map nI by rw [List.eraseIdx_eq_take_drop_succ, List.map_append])
      have HEL := hid (show j + (st.h.length - (j + 1)) = (st.h.eraseIdx j).length by
        have := HJ.out
        have := HNC.out
        rw [List.length_eraseIdx, if_pos HJ.out]
        omega)
      have HUA3 := hid (show ∀ k, (Value.slice av j cv).ownBlock = some k → k ≠ a from fun k e1 e2 => by
        rcases HN3.out with e | e
        · rw [e] at e1; exact HUA.out k e1 e2
        · rw [e] at e1
          have h1 := HX3.out.rc.rs.rp.cnts.lt
          have h2 := Option.some.inj e1
          omega)
      have H5 := hid (H3.out.setH (l := st.h.eraseIdx j) HO3.out (Nat.le_refl _) HUL3.out HUA3.out HG5.out (own_ext HO5.out HEL.out HER.out) HN5.out)
      have HDN := hid (down_any p g h st.s.fs ws (f : Int) _ H5.out.cw.pool HUP.out)
      refine (HDN.out).mono ?_
      rintro e' w7 ⟨rfl, ⟨ws7, hp7⟩, he7⟩
      have H7 := hid (H5.out.prog (H5.out.cw.pool' hp7 he7) (ex_cS he7))
      clear hp7 he7
      obtain ⟨r0, r1, r2, r3, r4, r5⟩ := (H7.out).own.six8
      have hrl7 := (H7.out).own.lt
      have HRD := hid (rdown_any w0.heap.size q a b (cnts st.s.fs) vs Ls (f : Int) w7 H7.out.rc.rs HMX.out)
      have HTE := hid (show ((takE st.s.fs (f : Int)) == (takE st.s.fs (f : Int))) = true by simp)
      go_wp2_with fail
      refine (HRD.out).mono ?_
      rintro e' w8 ⟨rfl, hrs8, he8⟩
      rw [rtk_zero H7.out.rc.h0]
      rw [cnts_down H7.out.rc.h0] at hrs8
      have H8 := hid (H7.out.refr (H7.out.rc.pool hrs8 (holds_down H7.out.rc.hd (f : Int)) he8 (fun x e => by cases e) (fun i hi x e => .inl ⟨i, hi, e⟩) { st.s with fs := downS st.s.fs (f : Int) } rfl rfl))
      have hte := HTE.out
      clear hrs8 he8 r0 r1 r2 r3 r4 r5 hrl7
      generalize takE st.s.fs (f : Int) = te9 at *
      go_wp2_with fail
      go_ret
      refine ⟨rfl, ?_⟩
      rw [HD.out]
      exact ⟨_, _, _, _, _, _, H8.out⟩
set_option maxHeartbeats 1000000 in
theorem wdoes_any (w0 : World) (F : Nat) (t : FT) (p g h c m q a b G d ob : Nat) (dd : Nat → Option Addr × Nat) (vl vh : Value) (st : S8) (ws : List Nat) (vL : Value) (vs : List Value) (Ls : List (List Int)) (o : O8) (w : World) (H : PW w0 F t p g h c m q a b G d ob dd vl vh st ws vL st.s vs Ls w) (Gd : Good (rdP16 t.L) st.s st.h) (hi : I64 o.i) (hp : I64 o.p)
    (hb1 : st.h.length ≤ 1000000) (hb2 : st.l.length ≤ 1000000) (hb3 : st.s.tn + 1 < 1000000000) :
    Calls Tryz.prog 7 #[.pointer (some ⟨ob, 0, none⟩), opW o] w (Does8P w0 F t p g h c m q a b G d ob dd (does8 (rdP16 t.L) st o)) := by
  obtain ⟨k, i, pg, n⟩ := o
  by_cases k0 : k = 0
  · subst k0; exact wdoes0_any w0 F t p g h c m q a b G d ob dd vl vh st ws vL vs Ls i pg n w H Gd hi hp hb1 hb2 hb3
  by_cases k1 : k = 1
  · subst k1; exact wdoes1_any w0 F t p g h c m q a b G d ob dd vl vh st ws vL vs Ls i pg n w H Gd hb1 hb2 hb3
  by_cases k2 : k = 2
  · subst k2; exact wdoes2_any w0 F t p g h c m q a b G d ob dd vl vh st ws vL vs Ls i pg n w H Gd hb1 hb2 hb3
  by_cases k3 : k = 3
  · subst k3; exact wdoes3_any w0 F t p g h c m q a b G d ob dd vl vh st ws vL vs Ls i pg n w H Gd hb1 hb2 hb3
  by_cases k4 : k = 4
  · subst k4; exact wdoes4_any w0 F t p g h c m q a b G d ob dd vl vh st ws vL vs Ls i pg n w H Gd hb1 hb2 hb3
  exact wdoes5_any w0 F t p g h c m q a b G d ob dd vl vh st ws vL vs Ls k i pg n w H Gd k0 k1 k2 k3 k4 hb1 hb2 hb3
end Go.Proofs.YtfaohejdaabalaaGreatDoor
namespace Go.Proofs.YtfaohejdaabalaaGreatDoor
open Go.RowKit Go.Sort Go.Shelf Go.WideMaps Go.Maps Go.WideShapes Go.WideElems Go.MapKept Go.ChangeMaps
attribute [local go_sem] Oper.semAt_some

theorem slots_same {rd : Int → Int → List UInt8 × Int} {s : CC} {hx : List Nat} (G : Good rd s hx) {l : List SLO} (hp : l.Perm s.sl) (hs : l.Pairwise befS) : l = slotsR s.sl :=
  sorted_one (hp.trans (slotsR_all s.sl).1.symm) hs ((slotsR_all s.sl).2 G.keys)
theorem load_len8 (fs : List FR) (hok : FsOk fs) (f off n : Int) : (loadL fs f off n).length ≤ 4096 := by
  unfold loadL
  split
  · split
    case isFalse => simp
    rw [List.length_take, List.length_drop]
    by_cases c : f.toNat < fs.length
    · have := hok _ (List.getElem_mem c)
      rw [getF_at _ _ _ c]; omega
    · rw [List.getD_eq_getElem?_getD, List.getElem?_eq_none (by omega)]
      show min _ (([] : List Int).length - _) ≤ _
      simp
  · simp
set_option maxRecDepth 100000 in
set_option maxHeartbeats 8000000 in
theorem alike8_any (w0 : World) (F : Nat) (t : FT) (p g h c m q a b G d ob : Nat) (dd : Nat → Option Addr × Nat) (vl vh : Value) (st : S8) (ws : List Nat) (vL : Value) (vs : List Value) (Ls : List (List Int)) (w : World) (H : PW w0 F t p g h c m q a b G d ob dd vl vh st ws vL st.s vs Ls w) (Gd : Good (rdP16 t.L) st.s st.h) (hb3 : st.s.tn + 1 < 1000000000) :
    Calls Tryz.prog 8 #[.pointer (some ⟨ob, 0, none⟩)] w fun e w' => e = .returned (.bool true) ∧ Below w.heap.size w w' := by
  have HH := hid H
  have HSL := hid (slots_any w0 F t p g h c m st.s ws (rdP16 t.L) st.h w H.cw Gd)
  have HLL := hid (show st.s.sl.length ≤ 1000000000 from by have := Gd.many; omega)
  have HSM := hid (fun (l : List SLO) (hp : l.Perm st.s.sl) (hs : l.Pairwise befS) => slots_same Gd hp hs)
  obtain ⟨q0, q1, q2, q3, q4, q5⟩ := H.own.six8
  have hobl := H.own.lt
  clear H Gd hb3
  go_enter Tryz.func8, Tryz.ntmps8
  go_wp2_with fail
  refine (HSL.out).mono ?_
  rintro e w1 ⟨v1, l1, rfl, hpm, hso, ho1, hb1⟩
  have hl1 := HSM.out l1 hpm hso
  subst hl1
  have HO1 := hid ho1
  have H1 := hid (HH.out.below hb1)
  have HB1 := hid hb1
  clear ho1 hb1 hpm hso q0 q1 q2 q3 q4 q5 hobl HSL HSM
  obtain ⟨q0, q1, q2, q3, q4, q5⟩ := H1.out.own.six8
  have hobl := H1.out.own.lt
  have HSR := hid (rcslots_any w0.heap.size q a b G d vL st.s vs Ls w1 H1.out.rc HLL.out)
  go_wp2_with fail
  refine (HSR.out).mono ?_
  rintro e w2 ⟨v2, rfl, ho2, hb2⟩
  have H2 := hid (H1.out.below hb2)
  have HB2 := hid (bthen HB1.out hb2)
  have HO12 := hid (own_below HO1.out hb2)
  have hln : (slotsR st.s.sl).length = st.s.sl.length := (slotsR_all st.s.sl).1.length_eq
  have HSN := hid (show (slotsR st.s.sl).length ≤ 1000000000 by rw [hln]; exact HLL.out)
  obtain ⟨a1, c1, rfl, hrk1, _⟩ := own_rk HO12.out (by intro r hr; obtain ⟨x, _, rfl⟩ := List.mem_map.1 hr; rfl) (by omega)
  obtain ⟨a2, c2, rfl, hrk2, _⟩ := own_rk ho2 (by intro r hr; obtain ⟨x, _, rfl⟩ := List.mem_map.1 hr; rfl) (by omega)
  have HRA := hid hrk1
  have HRB := hid hrk2
  clear ho2 hb2 hln hrk1 hrk2 q0 q1 q2 q3 q4 q5 hobl HSR
  generalize slotsR st.s.sl = SL at *
  obtain ⟨q0, q1, q2, q3, q4, q5⟩ := H2.out.own.six8
  have hobl := H2.out.own.lt
  have HFP := hid (fun n => free_any p g h st.s.fs ws (w2.drewN n) (H2.out.cw.pool.below (bdN (Below.refl _ _) n)))
  have HFR := hid (fun n => rfree_any q a b (cnts st.s.fs) vs (w2.drewN n) (H2.out.rc.rs.rp.below (bdN (Below.refl _ _) n)))
  rw [show rfree (cnts st.s.fs) = freeN st.s.fs from rfree_map _] at HFR
  have HNE := hid (show (((freeN st.s.fs : Nat) : Int) != ((freeN st.s.fs : Nat) : Int)) = false by simp)
  have d9 : (((SL.length : Int)) != (SL.length : Int)) = false := by simp
  generalize freeN st.s.fs = fn at *
  have d8 := HNE.out
  go_wp2_with fail
  go_quiet (((first | (go_at_call 35; exact Calls.quiet_of_same ((HFP.out _).mono (fun _ _ h => ⟨h.1, h.2.symm⟩))) | (go_at_call 36; exact Calls.quiet_of_same ((HFR.out _).mono (fun _ _ h => ⟨h.1, h.2.symm⟩))))))
  have H3 := hid (H2.out.below (bdN (Below.refl _ _) nq))
  have HB3 := hid (bdN HB2.out nq)
  have HRA3 := hid (HRA.out.below' (bdN (Below.refl w2.heap.size w2) nq))
  have HRB3 := hid (HRB.out.below' (bdN (Below.refl w2.heap.size w2) nq))
  generalize World.drewN w2 nq = w3 at H3 HB3 HRA3 HRB3 ⊢
  clear q0 q1 q2 q3 q4 q5 hobl HFP HFR HNE d8 d9
  go_wp2_with fail
  go_loopw [5] (fun i wr => ∃ k n : Nat, k ≤ SL.length ∧ i = .int .i64 k ∧ wr = w3.drewN n) (fun i _ => SL.length - (intOf i).toNat)
  case atStart => exact ⟨0, 0, Nat.zero_le _, rfl, rfl⟩
  case round =>
    obtain ⟨k, n9, hk, rfl, rfl⟩ := hrel
    have hsn := HSN.out
    by_cases hlt : k < SL.length
    · have d1 : decide ((k : Int) < (SL.length : Int)) = true := by simp; omega
      have d1n : decide (k < SL.length) = true := by simp; omega
      obtain ⟨ba, oa, rfl, hat⟩ := HRA3.out.some_of (by simp; omega)
      obtain ⟨bb, ob2, rfl, hbt⟩ := HRB3.out.some_of (by simp; omega)
      have e9 : (SL.map slC)[k]'(by simpa using hlt) = slC SL[k] := by simp
      have gq := fun q hq => hat k (by simpa using hlt) q hq
      have fq := fun q hq => hbt k (by simpa using hlt) q hq
      rw [e9] at gq fq
      have g0 := gq 0 (by simp [slC])
      have g1 := gq 1 (by simp [slC])
      have g2 := gq 2 (by simp [slC])
      have f0 := fq 0 (by simp [slC])
      have f1 := fq 1 (by simp [slC])
      have f2 := fq 2 (by simp [slC])
      simp only [slC, List.getElem_cons_zero, List.getElem_cons_succ, Nat.add_zero] at g0 g1 g2 f0 f1 f2
      have hla := World.block_lt_of_cell? _ _ g0
      have hlb := World.block_lt_of_cell? _ _ f0
      generalize SL[k] = y at *
      obtain ⟨y0, y1, y2, y3⟩ := y
      simp only at g0 g1 g2 f0 f1 f2
      have i1 : (0 : Int) ≤ (k : Int) := by omega
      have i2 : (k : Int) < (SL.length : Int) := by omega
      have z0 : (y0 != y0) = false := by simp
      have z1 : (y1 != y1) = false := by simp
      have z2 : (y2 != y2) = false := by simp
      clear hat hbt e9 gq fq
      go_wp2_with fail
      go_quiet (fail)
      go_wp2_with fail
      go_roundw
      case rel => exact ⟨k + 1, n9 + nq, by omega, by go_num, rfl⟩
      case measure => simp [intOf]; omega
    · have d1 : decide ((k : Int) < (SL.length : Int)) = false := by simp; omega
      have d1n : decide (k < SL.length) = false := by simp; omega
      have H4 := hid (H3.out.below (bdN (Below.refl _ _) n9))
      have HB4 := hid (bdN HB3.out n9)
      generalize World.drewN w3 n9 = w4 at H4 HB4 ⊢
      have hnf : st.s.fs.length ≤ 1024 := H4.out.cw.pool.n2
      have HCL := hid (show (cnts st.s.fs).length = st.s.fs.length from List.length_map _)
      go_wp2_with fail
      clear hlt d1 d1n
      go_loopw [6] (fun i wr => ∃ k : Nat, k ≤ st.s.fs.length ∧ i = .int .i64 k ∧ Below w.heap.size w wr ∧ Below w4.heap.size w4 wr) (fun i _ => st.s.fs.length - (intOf i).toNat)
      case atStart => exact ⟨0, Nat.zero_le _, rfl, HB4.out, Below.refl _ _⟩
      case round =>
        obtain ⟨k, hk, rfl, hb8, hb9⟩ := hrel
        have HB8 := hid hb8
        have HB9 := hid hb9
        have H5 := hid (H4.out.below hb9)
        have HS := hid (rsize_any q a b (cnts st.s.fs) vs wr H5.out.rc.rs.rp)
        rw [HCL.out] at HS
        clear hb8 hb9
        obtain ⟨q0, q1, q2, q3, q4, q5⟩ := H5.out.own.six8
        have hobl := H5.out.own.lt
        have HCP := hid (fun n => count_any p g h st.s.fs ws (k : Int) (wr.drewN n) (H5.out.cw.pool.below (bdN (Below.refl _ _) n)))
        have HCR := hid (fun n => rcount_any q a b (cnts st.s.fs) vs (k : Int) (wr.drewN n) (H5.out.rc.rs.rp.below (bdN (Below.refl _ _) n)))
        rw [show rcnt (cnts st.s.fs) (k : Int) = cntF st.s.fs (k : Int) from rcnt_map _ _] at HCR
        have d8 : ((cntF st.s.fs (k : Int)) != (cntF st.s.fs (k : Int))) = false := by simp
        have HD8 := hid d8
        generalize cntF st.s.fs (k : Int) = cf at *
        by_cases hlt : k < st.s.fs.length
        · have d1 : decide ((k : Int) < (st.s.fs.length : Int)) = true := by simp; omega
          have d1n : decide (k < st.s.fs.length) = true := by simp; omega
          go_wp2_with (go_at_call 37; refine (HS.out).mono ?_; rintro e' w' ⟨rfl, rfl⟩)
          go_quiet (((first | (go_at_call 19; exact Calls.quiet_of_same ((HCP.out _).mono (fun _ _ h => ⟨h.1, h.2.symm⟩))) | (go_at_call 38; exact Calls.quiet_of_same ((HCR.out _).mono (fun _ _ h => ⟨h.1, h.2.symm⟩))))))
          go_wp2_with fail
          go_roundw
          case rel => exact ⟨k + 1, by omega, by go_num, bdN HB8.out nq, bdN HB9.out nq⟩
          case measure => simp [intOf]; omega
        · have d1 : decide ((k : Int) < (st.s.fs.length : Int)) = false := by simp; omega
          have d1n : decide (k < st.s.fs.length) = false := by simp; omega
          go_wp2_with (go_at_call 37; refine (HS.out).mono ?_; rintro e' w' ⟨rfl, rfl⟩)
          go_ret
          exact ⟨rfl, HB8.out⟩
set_option maxRecDepth 100000 in
set_option maxHeartbeats 8000000 in
theorem whole8_any (w0 : World) (F : Nat) (t : FT) (p g h c m q a b G d ob : Nat) (dd : Nat → Option Addr × Nat) (vl vh : Value) (st : S8) (ws : List Nat) (vL : Value) (vs : List Value) (Ls : List (List Int)) (w : World) (H : PW w0 F t p g h c m q a b G d ob dd vl vh st ws vL st.s vs Ls w) :
    Calls Tryz.prog 9 #[.pointer (some ⟨ob, 0, none⟩)] w fun e w' => e = .returned (.bool true) ∧ Below w.heap.size w w' := by
  have HH := hid H
  have hn2 : st.s.fs.length ≤ 1024 := H.cw.pool.n2
  have HCL := hid (show (cnts st.s.fs).length = st.s.fs.length from List.length_map _)
  clear H
  go_enter Tryz.func9, Tryz.ntmps9
  go_wp2_with fail
  go_loopw [3] (fun i wr => ∃ k : Nat, k ≤ st.s.fs.length ∧ i = .int .i64 k ∧ Below w.heap.size w wr) (fun i _ => st.s.fs.length - (intOf i).toNat)
  case atStart => exact ⟨0, Nat.zero_le _, rfl, Below.refl _ _⟩
  case round =>
    obtain ⟨k, hk, rfl, hb⟩ := hrel
    have HB := hid hb
    have HM := hid (HH.out.below hb)
    have HS := hid (rsize_any q a b (cnts st.s.fs) vs wr HM.out.rc.rs.rp)
    rw [HCL.out] at HS
    have HL := hid (load_any p g h st.s.fs ws (k : Int) 0 4096 wr HM.out.cw.pool)
    have hll := load_len8 st.s.fs HM.out.cw.pool.ok (k : Int) 0 4096
    obtain ⟨q0, q1, q2, q3, q4, q5⟩ := HM.out.own.six8
    have hobl := HM.out.own.lt
    clear hb
    by_cases hlt : k < st.s.fs.length
    · have d1 : decide ((k : Int) < (st.s.fs.length : Int)) = true := by simp; omega
      have d1n : decide (k < st.s.fs.length) = true := by simp; omega
      go_wp2_with (go_at_call 37; refine (HS.out).mono ?_; rintro e' w' ⟨rfl, rfl⟩)
      refine (HL.out).mono ?_
      rintro e' w2 ⟨v, rfl, hv, hb⟩
      have HM2 := hid (HM.out.below hb)
      have HB2 := hid (bthen HB.out hb)
      have HV := hid hv
      clear hv hb q0 q1 q2 q3 q4 q5 hobl
      obtain ⟨q0, q1, q2, q3, q4, q5⟩ := HM2.out.own.six8
      have hobl := HM2.out.own.lt
      go_wp2_with fail
      refine (rload_any w0.heap.size q a b st.s.fs vs Ls (k : Int) 0 4096 w2 HM2.out.rc.rs HM2.out.cw.pool.ok HM2.out.rc.h0 HM2.out.rc.hd).mono ?_
      rintro e' w3 ⟨v2, rfl, hv, hb⟩
      have HB3 := hid (bthen HB2.out hb)
      have HV3 := hid (own_below HV.out hb)
      obtain ⟨ta, tc, rfl, hn1, _⟩ := own_cel HV3.out
      obtain ⟨ua, uc, rfl, hn2', _⟩ := own_cel hv
      have HSM := hid (same8_any ta ua tc uc _ w3 hn1 hn2' (by omega))
      have d8 : ((loadE st.s.fs (k : Int) 0 4096) != (loadE st.s.fs (k : Int) 0 4096)) = false := by simp
      have HD8 := hid d8
      clear hv hb hn1 hn2' d8 q0 q1 q2 q3 q4 q5 hobl
      generalize (loadL st.s.fs (k : Int) 0 4096) = L at *
      generalize loadE st.s.fs (k : Int) 0 4096 = le at *
      have d8 := HD8.out
      go_wp2_with (go_at_call 40; refine (HSM.out).mono ?_; rintro e' w4 ⟨rfl, nk, rfl⟩)
      go_roundw
      case rel => exact ⟨k + 1, by omega, by go_num, bdN HB3.out _⟩
      case measure => simp [intOf]; omega
    · have d1 : decide ((k : Int) < (st.s.fs.length : Int)) = false := by simp; omega
      have d1n : decide (k < st.s.fs.length) = false := by simp; omega
      go_wp2_with (go_at_call 37; refine (HS.out).mono ?_; rintro e' w' ⟨rfl, rfl⟩)
      go_ret
      exact ⟨rfl, HB.out⟩
end Go.Proofs.YtfaohejdaabalaaGreatDoor
namespace Go.Proofs.YtfaohejdaabalaaGreatDoor
open Go.RowKit Go.Sort Go.Shelf Go.WideMaps Go.Maps Go.WideShapes Go.WideElems Go.MapKept Go.ChangeMaps
attribute [local go_sem] Oper.semAt_some

def BegunP (w : World) (e : Ending) (w' : World) : Prop := (e = .returned (.tuple #[.pointer none, .bool true]) ∧ Below w.heap.size w w') ∨
  ∃ w0 F t p g h c m q a b G d ob dd vl vh ws vL vs Ls n, e = .returned (.tuple #[.pointer (some ⟨ob, 0, none⟩), .bool true]) ∧ PW w0 F t p g h c m q a b G d ob dd vl vh (st08 n) ws vL (st08 n).s vs Ls w' ∧ Below w.heap.size w w0 ∧ 1 ≤ n ∧ n ≤ 64
theorem pw_new {w4 w6 w7 w8 w9 : World} {F : Nat} {t : FT} {p g h c m q a b G d ob n : Nat} {dd : Nat → Option Addr × Nat} {ws : List Nat} (hcw : CW w4 F t p g h c m ⟨List.replicate n fr0, [], 0⟩ ws w7) (hrp : RP w6 q a b (List.replicate n 0) (sZ n)) (hq : w4.heap.size ≤ q) (ha : w4.heap.size ≤ a) (hb' : w4.heap.size ≤ b) (hb67 : Below w6.heap.size w6 w7)
    (hd : d = w7.heap.size) (h8 : w8 = w7.alloc (.cells #[.pointer (some ⟨q, 0, none⟩), .pointer (some ⟨G, 0, none⟩), .slice none 0 0] 134)) (hob : ob = w8.heap.size)
    (h9 : w9 = w8.alloc (.cells #[.pointer (some ⟨p, 0, none⟩), .pointer (some ⟨c, 0, none⟩), .pointer (some ⟨q, 0, none⟩), .pointer (some ⟨d, 0, none⟩), .slice none 0 0, .slice none 0 0] 73)) (hrf : RF w4 G t.L dd) :
    PW w4 F t p g h c m q a b G d ob dd (.slice none 0 0) (.slice none 0 0) (st08 n) ws (.slice none 0 0) (st08 n).s (sZ n) (List.replicate n []) w9 := by
  have hb78 : Below w7.heap.size w7 w8 := by rw [h8]; exact bal _
  have hb89 : Below w8.heap.size w8 w9 := by rw [h9]; exact bal _
  have hb79 := bthen hb78 hb89
  have hb69 := bthen hb67 hb79
  have hz7 := hcw.low.size
  have hz8 := hb78.size
  have hrp9 := hrp.below hb69
  have hrd : Row w8 d 134 [.pointer (some ⟨q, 0, none⟩), .pointer (some ⟨G, 0, none⟩), .slice none 0 0] := by rw [h8, hd]; exact Row.new w7 _ _
  have hro : Row w9 ob 73 [.pointer (some ⟨p, 0, none⟩), .pointer (some ⟨c, 0, none⟩), .pointer (some ⟨q, 0, none⟩), .pointer (some ⟨d, 0, none⟩), .slice none 0 0, .slice none 0 0] := by rw [h9, hob]; exact Row.new w8 _ _
  have hrs : RS w9 w4.heap.size q a b (cnts (List.replicate n fr0)) (sZ n) (List.replicate n []) := ⟨by unfold cnts; rw [List.map_replicate]; exact hrp9, by simp [sZ], (fun i h h2 => by simp only [sZ, List.getElem_replicate]; exact own_nil_of), (fun i j hi hj _ q' hq' => by simp only [sZ, List.getElem_replicate] at hq'; cases hq'), (fun c hc => by unfold cnts at hc; rw [List.map_replicate] at hc; rw [List.eq_of_mem_replicate hc]; exact Int.le_refl _), (fun L hL => by rw [List.eq_of_mem_replicate hL]; exact Nat.zero_le _), hq, ha, hb'⟩
  have hho : Holds (List.replicate n fr0) (List.replicate n ([] : List Int)) := fun k hk h2 hc => by rw [List.getElem_replicate] at hc; exact absurd rfl hc
  exact ⟨hcw.below hb79, ⟨hrd.below hb89 hrd.lt, World.ownsRow_nil _ _ _ _, hrs, hho, by omega⟩, hro, World.ownsRow_nil _ _ _ _, World.ownsRow_nil _ _ _ _, fun k e => (by cases e), fun k e => (by cases e), fun k e => (by cases e), by omega, hrf⟩
set_option maxRecDepth 100000 in
set_option maxHeartbeats 8000000 in
theorem begun8_any (a : Option Addr) (cap : Nat) (xs : List EN) (N : Int) (w : World) (hX : Ents w a xs.length xs) (hxl : xs.length ≤ 64) (hN : N ≤ 64) (hT : Tb w) :
    Calls Tryz.prog 6 #[flV a xs.length cap N] w (BegunP w) := by
  obtain ⟨w1, hw1⟩ : ∃ w1, w1 = w.alloc (.cells #[.slice a xs.length cap, .int .i64 N] 24) := ⟨_, rfl⟩
  have HB1 := hid (show Below w.heap.size w w1 by rw [hw1]; exact bal _)
  have HR1 := hid (show Row w1 w.heap.size 24 [.slice a xs.length cap, .int .i64 N] by rw [hw1]; exact Row.new w _ _)
  have HX := hid hX
  have HTW := hid (twins_any a cap xs w1 (hX.below HB1.out) (by omega))
  have HXL := hid hxl
  have HN := hid hN
  have HTT := hid hT
  have HW1 := hid hw1
  clear hX hw1 hxl hN hT
  unfold flV
  go_enter Tryz.func6, Tryz.ntmps6
  go_wp2_with fail
  rw [← HW1.out]
  refine (HTW.out).mono ?_
  rintro e w2 ⟨v, ys, rfl, hC⟩
  have HYL := hid (show ys.length = xs.length from hC.len)
  have HEQ := hid (newE_twin8 ys xs [root0] 0 hC.len hC.twin)
  obtain ⟨av, cv, rfl, hrk, _⟩ := own_rk hC.own (enC_len ys) (by omega)
  have HB2 := hid (bthen HB1.out hC.below)
  have HNW := hid (new_any av ys.length cv ys w2 ⟨hrk, hC.ok⟩ (by have := HYL.out; have := HXL.out; omega))
  have hr2 := HR1.out.below hC.below HR1.out.lt
  obtain ⟨r0, r1⟩ := hr2.two
  have hrl := hr2.lt
  have HR2 := hid hr2
  clear hC hrk hr2
  go_wp2_with fail
  refine (HNW.out).mono ?_
  rintro e w3 ⟨hb3, hp⟩
  rw [if_neg (by have := HYL.out; have := HXL.out; omega), HEQ.out] at hp
  have HB3 := hid (bthen HB2.out hb3)
  have HR3 := hid (HR2.out.below hb3 HR2.out.lt)
  have HRN := hid (rnew_any a xs.length cap xs w3 (HX.out.below HB3.out) (by have := HXL.out; omega))
  clear r0 r1 hrl hb3
  obtain ⟨r0, r1⟩ := HR3.out.two
  have hrl := HR3.out.lt
  by_cases hz : (newE [root0] 0 xs).1 = 0
  · rw [if_pos hz] at hp
    obtain ⟨F, t, rfl, htl, hfs, _, _⟩ := hp
    have HFS := hid hfs
    have HZ := hid hz
    have HTL := hid htl
    clear htl hfs hz
    go_wp2_with fail
    refine (HRN.out).mono ?_
    rintro e w4 ⟨hb4, hp⟩
    rw [if_neg (by have := HXL.out; omega), if_pos HZ.out] at hp
    obtain ⟨G, vG, dd, rfl, hrb, hfine⟩ := hp
    obtain ⟨P', hlay, _⟩ := lay_new xs [root0] _ 0 lay0 HZ.out
    have HRF := hid (show RF w4 G t.L dd from by rw [HTL.out]; exact hrb.rf hfine ⟨P', hlay⟩ (lay_kid xs [root0] _ 0 lay0 kid0 HZ.out))
    have HF4 := hid (HFS.out.below hb4)
    have HB4 := hid (bthen HB3.out hb4)
    have HR4 := hid (HR3.out.below hb4 HR3.out.lt)
    have HT4 := hid (show Tb w4 from fun j hj => St.cell (HTT.out j hj) HB4.out)
    clear hrb hfine hlay hb4 r0 r1 hrl
    obtain ⟨r0, r1⟩ := HR4.out.two
    have hrl := HR4.out.lt
    by_cases hn : N < 1
    · have HPN := hid (poolBad_any N w4 (.inl hn))
      have HPR := hid (rnew_no N w4 (by omega))
      clear hn
      go_wp2_with fail
      refine (HPN.out).mono ?_
      rintro e w5 ⟨rfl, rfl⟩
      go_wp2_with fail
      refine (HPR.out).mono ?_
      rintro e w6 ⟨rfl, rfl⟩
      go_wp2_with fail
      go_ret2
      exact .inl ⟨rfl, HB4.out⟩
    · obtain ⟨n, rfl⟩ := Int.eq_ofNat_of_zero_le (show 0 ≤ N by omega)
      have HNN := hid (show 1 ≤ n ∧ n ≤ 64 by have := HN.out; omega)
      have HPN := hid (poolNew_any n w4 (by have := HNN.out; omega) (by have := HNN.out; omega))
      clear hn
      go_wp2_with fail
      refine (HPN.out).mono ?_
      rintro e w5 ⟨p, g, h, ws, rfl, hpl, hp1, hg1, hh1, hb⟩
      have HPL := hid hpl
      have HB45 := hid hb
      have HLO := hid (And.intro hg1 hh1)
      have HPR := hid (rnewP_any n w5 (by have := HNN.out; omega) (by have := HNN.out; omega))
      have HR5 := hid (HR4.out.below hb HR4.out.lt)
      clear hpl hp1 hg1 hh1 hb r0 r1 hrl
      obtain ⟨r0, r1⟩ := HR5.out.two
      have hrl := HR5.out.lt
      go_wp2_with fail
      refine (HPR.out).mono ?_
      rintro e w6 ⟨q, qa, qb, rfl, hrp, hq, ha, hb', hb⟩
      have HRP := hid hrp
      have HLR := hid (show w4.heap.size ≤ q ∧ w4.heap.size ≤ qa ∧ w4.heap.size ≤ qb by have := HB45.out.size; omega)
      have HB46 := hid (bthen HB45.out hb)
      have HCN := hid (cnew_any F t p g h (List.replicate n fr0) ws w4 w6 HF4.out HB46.out (HPL.out.below hb) HLO.out.1 HLO.out.2 HT4.out)
      clear hrp hq ha hb' hb r0 r1 hrl
      go_wp2_with fail
      refine (HCN.out).mono ?_
      rintro e w7 ⟨c, m, rfl, hcw, hb, _, _⟩
      have HCW := hid hcw
      have HB67 := hid hb
      have HRC := hid (rcnew_any q G w7)
      clear hcw hb
      go_wp2_with fail
      refine (HRC.out).mono ?_
      rintro e w8 ⟨rfl, h8⟩
      have H8 := hid h8
      clear h8
      obtain ⟨d, hd⟩ : ∃ d, d = w7.heap.size := ⟨_, rfl⟩
      rw [← hd]
      have HD := hid hd
      clear hd
      obtain ⟨w9, hw9⟩ : ∃ w9, w9 = w8.alloc (.cells #[.pointer (some ⟨p, 0, none⟩), .pointer (some ⟨c, 0, none⟩), .pointer (some ⟨q, 0, none⟩), .pointer (some ⟨d, 0, none⟩), .slice none 0 0, .slice none 0 0] 73) := ⟨_, rfl⟩
      have HPW := hid (pw_new HCW.out HRP.out HLR.out.1 HLR.out.2.1 HLR.out.2.2 HB67.out HD.out H8.out rfl hw9 HRF.out)
      have HW9 := hid hw9
      clear hw9
      go_wp2_with fail
      rw [← HW9.out]
      go_ret2
      exact .inr ⟨w4, F, t, p, g, h, c, m, q, qa, qb, G, d, _, dd, _, _, ws, _, _, _, n, rfl, HPW.out, HB4.out, HNN.out.1, HNN.out.2⟩
  · rw [if_neg hz] at hp
    subst hp
    have d1b : ((newE [root0] 0 xs).1 != 0) = true := by simp [hz]
    have d1c : ((newE [root0] 0 xs).1 != (newE [root0] 0 xs).1) = false := by simp
    have HD1 := hid d1b
    have HD2 := hid d1c
    have HZ := hid hz
    go_wp2_with fail
    refine (HRN.out).mono ?_
    rintro e w4 ⟨hb4, hp⟩
    rw [if_neg (by have := HXL.out; omega), if_neg HZ.out] at hp
    subst hp
    have HB4 := hid (bthen HB3.out hb4)
    have HR4 := hid (HR3.out.below hb4 HR3.out.lt)
    clear hb4 r0 r1 hrl
    obtain ⟨r0, r1⟩ := HR4.out.two
    have hrl := HR4.out.lt
    obtain ⟨ie, hie⟩ : ∃ ie : Int, ie = if N < 1 then 1 else 0 := ⟨_, rfl⟩
    have HPN := hid (show Calls Tryz.prog 12 #[.int .i64 N] w4 fun e w' => (∃ q, e = .returned (.tuple #[.pointer q, .int .i64 ie])) ∧ Below w4.heap.size w4 w' from by
      by_cases hn : N < 1
      · rw [hie, if_pos hn]
        refine (poolBad_any N w4 (.inl hn)).mono ?_
        rintro e w' ⟨rfl, rfl⟩
        exact ⟨⟨_, rfl⟩, Below.refl _ _⟩
      · rw [hie, if_neg hn]
        obtain ⟨n, rfl⟩ := Int.eq_ofNat_of_zero_le (show 0 ≤ N by omega)
        refine (poolNew_any n w4 (by omega) (by have := HN.out; omega)).mono ?_
        rintro e w' ⟨p, g, h, ws, rfl, _, _, _, _, hb⟩
        exact ⟨⟨_, rfl⟩, hb⟩)
    have HPR := hid (fun w5 : World => show Calls Tryz.prog 22 #[.int .i64 N] w5 fun e w' => (∃ q, e = .returned (.tuple #[.pointer q, .int .i64 ie])) ∧ Below w5.heap.size w5 w' from by
      by_cases hn : N < 1
      · rw [hie, if_pos hn]
        refine (rnew_no N w5 (by omega)).mono ?_
        rintro e w' ⟨rfl, rfl⟩
        exact ⟨⟨_, rfl⟩, Below.refl _ _⟩
      · rw [hie, if_neg hn]
        obtain ⟨n, rfl⟩ := Int.eq_ofNat_of_zero_le (show 0 ≤ N by omega)
        refine (rnewP_any n w5 (by omega) (by have := HN.out; omega)).mono ?_
        rintro e w' ⟨p, g, h, rfl, _, _, _, _, hb⟩
        exact ⟨⟨_, rfl⟩, hb⟩)
    clear hie d1b d1c hz
    have HD3 := hid (show (ie != ie) = false by simp)
    generalize (newE [root0] 0 xs).1 = er at *
    have d1b := HD1.out
    have d1c := HD2.out
    have d1d := HD3.out
    go_wp2_with fail
    refine (HPN.out).mono ?_
    rintro e w5 ⟨⟨q1, rfl⟩, hb⟩
    have HB5 := hid (bthen HB4.out hb)
    have HR5 := hid (HR4.out.below hb HR4.out.lt)
    clear hb r0 r1 hrl
    obtain ⟨r0, r1⟩ := HR5.out.two
    have hrl := HR5.out.lt
    go_wp2_with fail
    refine (HPR.out _).mono ?_
    rintro e w6 ⟨⟨q2, rfl⟩, hb⟩
    have HB6 := hid (bthen HB5.out hb)
    clear hb
    go_wp2_with fail
    go_ret2
    exact .inl ⟨rfl, HB6.out⟩
end Go.Proofs.YtfaohejdaabalaaGreatDoor
namespace Go.Proofs.YtfaohejdaabalaaGreatDoor
open Go.RowKit Go.Sort Go.Shelf Go.WideMaps Go.Maps Go.WideShapes Go.WideElems Go.MapKept Go.ChangeMaps
attribute [local go_sem] Oper.semAt_some

theorem EntsIn.below8 {w w' : World} {a : Option Addr} {n : Nat} {xs : List EN} (h : EntsIn w a n xs) (hb : Below w.heap.size w w') : EntsIn w' a n xs :=
  ⟨h.rows.below' hb, fun x hx => by
    obtain ⟨h1, h2, h3, h4, h5, h6⟩ := h.ok x hx
    exact ⟨h1.below' hb, h2, h3, h4, h5, h6⟩⟩
set_option maxRecDepth 100000 in
set_option maxHeartbeats 8000000 in
theorem cachePlays_walk (a : Option Addr) (cap : Nat) (xs : List EN) (N : Int) (oa : Option Addr) (oc : Nat) (l : List O8) (w : World) (hX : EntsIn w a xs.length xs) (hO : Ops8 w oa l) (hT : Tb w) :
    Calls Tryz.prog 3 #[flV a xs.length cap N, .slice oa l.length oc] w fun e w' => e = .returned (.bool true) ∧ Below w.heap.size w w' := by
  obtain ⟨wb, hwb⟩ : ∃ wb, wb = w.alloc (.cells #[.slice a xs.length cap, .int .i64 N] 24) := ⟨_, rfl⟩
  have HBB := hid (show Below w.heap.size w wb by rw [hwb]; exact bal _)
  have HRX := hid (show Row wb w.heap.size 24 [.slice a xs.length cap, .int .i64 N] by rw [hwb]; exact Row.new w _ _)
  have HX := hid (show EntsIn wb a xs.length xs from hX.below8 HBB.out)
  have HO := hid (hO.below HBB.out)
  have HT := hid hT
  have HWB := hid hwb
  have HWK := hid (fun (W : World) (hb : Below w.heap.size w W) => works08_any W (fun j hj => St.cell (HT.out j hj) hb))
  have HVA := hid (vast8_any a cap xs N oa l.length oc wb HX.out)
  clear hX hO hT hwb
  unfold flV at HVA ⊢
  go_enter Tryz.func3, Tryz.ntmps3
  go_wp2_with fail
  rw [← HWB.out]
  refine (HVA.out).mono ?_
  rintro e w1 ⟨vb, rfl, hb1, hvs⟩
  have HB1 := hid (bthen HBB.out hb1)
  have HBX := hid hb1
  have HVS := hid hvs
  have HRX1 := hid (HRX.out.below hb1 HRX.out.lt)
  clear hb1 hvs
  obtain ⟨x0, x1⟩ := HRX1.out.two
  have hxl := HRX1.out.lt
  rcases vb with _ | _
  rotate_left
  · go_wp2_with fail
    refine (HWK.out w1 HB1.out).mono ?_
    rintro e wk ⟨rfl, hbk⟩
    have HBK := hid (bthen HB1.out hbk)
    clear hbk
    go_wp2_with fail
    go_ret
    exact ⟨rfl, HBK.out⟩
  have HS := hid (HVS.out rfl)
  have HOM := hid (HO.out.below HBX.out)
  have HMA := hid (begun8_any a cap xs N w1 ((HX.out.below8 HBX.out).small8 HS.out.1) HS.out.2.1 HS.out.2.2.1 (fun j hj => St.cell (HT.out j hj) HB1.out))
  unfold flV at HMA
  go_wp2_with fail
  refine (HMA.out).mono ?_
  rintro e w2 hm
  clear x0 x1 hxl
  rcases hm with ⟨rfl, hb⟩ | ⟨w0, F, t, p, g, h, c, m, q, qa, qb, G, d, ob, dd, vl, vh, ws, vL, vs, Ls, n, rfl, how, hb0, hn1, hn2⟩
  · have HB2 := hid (bthen HB1.out hb)
    clear hb
    go_wp2_with fail
    refine (HWK.out w2 HB2.out).mono ?_
    rintro e wk ⟨rfl, hbk⟩
    have HBK := hid (bthen HB2.out hbk)
    clear hbk
    go_wp2_with fail
    go_ret
    exact ⟨rfl, HBK.out⟩
  have HPW := hid how
  have HBW := hid (bthen HB1.out hb0)
  have HBY := hid hb0
  have HN := hid (⟨hn1, hn2⟩ : 1 ≤ n ∧ n ≤ 64)
  have HLOW := hid (fun (W : World) (hl : Below w0.heap.size w0 W) => show Below w.heap.size w W from HBW.out.trans (hl.mono HBW.out.size))
  have HOL := hid (fun (W : World) (hl : Below w0.heap.size w0 W) => show Ops8 W oa l from HOM.out.below (HBY.out.trans (hl.mono HBY.out.size)))
  have hll := HS.out.2.2.2
  clear how hb0 hn1 hn2
  go_wp2_with fail
  go_loopw [7] (fun i wr => ∃ (k : Nat) (vl vh : Value) (wsk : List Nat) (vLk : Value) (vsk : List Value) (Lsk : List (List Int)), k ≤ l.length ∧ i = .int .i64 k ∧ PW w0 F t p g h c m q qa qb G d ob dd vl vh (run8 (rdP16 t.L) (st08 n) (l.take k)) wsk vLk (run8 (rdP16 t.L) (st08 n) (l.take k)).s vsk Lsk wr) (fun i _ => l.length - (intOf i).toNat)
  case atStart => exact ⟨0, _, _, ws, vL, vs, Ls, Nat.zero_le _, rfl, HPW.out⟩
  case round =>
    obtain ⟨k, vl, vh, wsk, vLk, vsk, Lsk, hk, rfl, how⟩ := hrel
    have HOK := hid how
    have HOR := hid (HOL.out wr how.cw.low)
    have hol := HS.out.2.2.2
    clear how
    by_cases hlt : k < l.length
    · have d1 : decide ((k : Int) < (l.length : Int)) = true := by simp; omega
      have d1n : decide (k < l.length) = true := by simp; omega
      have hran := run8_ran (good08 (rdP16 t.L) n) (rdP16_len t.L) (l.take k)
      have hlk : (l.take k).length = k := by rw [List.length_take]; omega
      rw [hlk] at hran
      have hgd : Good (rdP16 t.L) (run8 (rdP16 t.L) (st08 n) (l.take k)).s (run8 (rdP16 t.L) (st08 n) (l.take k)).h := by have := hran.good; rwa [List.append_nil] at this
      have HDO := hid (wdoes_any w0 F t p g h c m q qa qb G d ob dd vl vh _ wsk vLk vsk Lsk l[k] _ HOK.out hgd (HOR.out.ok _ (List.getElem_mem hlt)).1 (HOR.out.ok _ (List.getElem_mem hlt)).2 (by have := hran.hh; have z : (st08 n).h.length = 0 := rfl; omega) (by have := hran.ll; have z : (st08 n).l.length = 0 := rfl; omega) (by have := hran.tn; have z : (st08 n).s.tn = 0 := rfl; omega))
      rw [← run8_snoc, ← List.take_succ_eq_append_getElem hlt] at HDO
      have hran2 := run8_ran (good08 (rdP16 t.L) n) (rdP16_len t.L) (l.take (k + 1))
      have hlk2 : (l.take (k + 1)).length = k + 1 := by rw [List.length_take]; omega
      rw [hlk2] at hran2
      have HG2 := hid (show Good (rdP16 t.L) (run8 (rdP16 t.L) (st08 n) (l.take (k + 1))).s (run8 (rdP16 t.L) (st08 n) (l.take (k + 1))).h by have := hran2.good; rwa [List.append_nil] at this)
      have HT2 := hid (show (run8 (rdP16 t.L) (st08 n) (l.take (k + 1))).s.tn + 1 < 1000000000 by have := hran2.tn; have z : (st08 n).s.tn = 0 := rfl; omega)
      obtain ⟨b, o, rfl, hcell⟩ := HOR.out.rows.some_of (by simp; omega)
      have gq := fun j hj => hcell k (by simpa using hlt) j hj
      have e9 : (l.map o8C)[k]'(by simpa using hlt) = o8C l[k] := by simp
      rw [e9] at gq
      have g0 := gq 0 (by simp [o8C])
      have g1 := gq 1 (by simp [o8C])
      have g2 := gq 2 (by simp [o8C])
      have g3 := gq 3 (by simp [o8C])
      simp only [o8C, List.getElem_cons_zero, List.getElem_cons_succ, Nat.add_zero] at g0 g1 g2 g3
      have hbl := World.block_lt_of_cell? _ _ g0
      unfold opW at HDO
      clear hran hlk hran2 hlk2 hgd gq e9 hcell
      generalize l[k] = oo at *
      go_wp2_with fail
      refine (HDO.out).mono ?_
      rintro e w7 ⟨rfl, vl', vh', ws', vL', vs', Ls', how⟩
      have HOK7 := hid how
      have HAL := hid (alike8_any w0 F t p g h c m q qa qb G d ob dd vl' vh' _ ws' vL' vs' Ls' w7 how HG2.out HT2.out)
      clear how g0 g1 g2 g3 hbl
      go_wp2_with fail
      refine (HAL.out).mono ?_
      rintro e w8 ⟨rfl, hb8⟩
      have HOK8 := hid (HOK7.out.below hb8)
      clear hb8
      go_wp2_with fail
      go_roundw
      case rel => exact ⟨k + 1, vl', vh', ws', vL', vs', Ls', by omega, by go_num, HOK8.out⟩
      case measure => simp [intOf]; omega
    · have d1 : decide ((k : Int) < (l.length : Int)) = false := by simp; omega
      have d1n : decide (k < l.length) = false := by simp; omega
      have HWH := hid (whole8_any w0 F t p g h c m q qa qb G d ob dd vl vh _ wsk vLk vsk Lsk wr HOK.out)
      have HB9 := hid (HLOW.out wr HOK.out.cw.low)
      go_wp2_with fail
      refine (HWH.out).mono ?_
      rintro e w9 ⟨rfl, hb9⟩
      have HBK := hid (bthen HB9.out hb9)
      clear hb9
      go_wp2_with fail
      go_ret
      exact ⟨rfl, HBK.out⟩
end Go.Proofs.YtfaohejdaabalaaGreatDoor
