
/- layout.Right. -/
import Derived.Test.YtkkadknijjninaaDoorLa1
import Derived.Test.YtkkadknijjninaaDoorKE
namespace Go.Proofs.YtkkadknijjninaaDoor
open Go.RowKit Go.Sort Go.Shelf
attribute [local go_sem] Oper.semAt_some

/-- An object, with its segments. -/
structure LO where
  ino : Int
  base : Int
  typ : Int
  entry : Int
  phoff : Int
  ga : Option Addr
  gn : Nat
  gc : Nat
  sg : List SG
  na : Option Addr
  nn : Nat
  nc : Nat
  soname : BL
  run : BL
  sa : Option Addr
  sn : Nat
  sc : Nat
  ra : Option Addr
  rn : Nat
  rc : Nat
instance : Inhabited LO := ⟨⟨0, 0, 0, 0, 0, none, 0, 0, [], none, 0, 0, [], [], none, 0, 0, none, 0, 0⟩⟩
def loC (x : LO) : List Value := [.int .i64 x.ino, .int .u64 x.base, .int .u16 x.typ, .int .u64 x.entry, .int .u64 x.phoff, Value.slice x.ga x.gn x.gc, .slice x.na x.nn x.nc, .string (ba x.soname), .string (ba x.run), .slice x.sa x.sn x.sc, .slice x.ra x.rn x.rc]
def loV (x : LO) : Value := .agg #[.int .i64 x.ino, .int .u64 x.base, .int .u16 x.typ, .int .u64 x.entry, .int .u64 x.phoff, Value.slice x.ga x.gn x.gc, .slice x.na x.nn x.nc, .string (ba x.soname), .string (ba x.run), .slice x.sa x.sn x.sc, .slice x.ra x.rn x.rc]
/-- What is known of an object: its segments lie in memory. -/
structure LOk (w : World) (x : LO) : Prop where
  segs : Sgs w x.ga x.gn x.sg
  ok : ∀ s ∈ x.sg, SGok s
  gn : x.gn ≤ 4000000000000
  nil : x.ga = none → x.gc = 0
  b0 : 0 ≤ x.base
  b1 : x.base ≤ 18446744073709551615
theorem LOk.below' {w w' : World} {x : LO} (h : LOk w x) (hb : Below w.heap.size w w') : LOk w' x := ⟨h.segs.below' hb, h.ok, h.gn, h.nil, h.b0, h.b1⟩

theorem setKpT {T B0 g j : Nat} {E : TypeId} {cs : List Value} {W : World} {v : Value} (h : Row W g E cs) (hE : E ≠ T) (hB : B0 ≤ g) : KpT T B0 W (W.setCell ⟨g, j, none⟩ v) := by
  refine ⟨bset (Below.refl _ _) (by exact hB) _, fun b cs' m e => ?_⟩
  by_cases hb : b = g
  · subst hb; rw [h.heap] at e; cases e; exact absurd rfl hE
  · exact heap_setCell_other W ⟨g, j, none⟩ b v hb
structure RtI (M : Nat) (fin : Int) (rb sb : Bool) (w0 W : World) : Prop where
  r1 : Row W (M + 1) 4 [.bool rb]
  r4 : Row W (M + 1 + 1 + 1) 24 [.int .u64 fin]
  r5 : Row W (M + 1 + 1 + 1 + 1) 4 [.bool sb]
  b : Below M w0 W
  z : M + 6 ≤ W.heap.size
theorem row_turnL {w w' : World} {g : Nat} {E : TypeId} {cs : List Value} {row : Option Nat} (h : Row w g E cs) (hg : w.grownBy w' row) (hr : ∀ r, row = some r → ∃ o : Obj, w.heap[r]? = some o ∧ o.isCells = false) : Row w' g E cs :=
  h.grown hg (fun e => by obtain ⟨o, ho, hc⟩ := hr g e.symm; rw [h.heap] at ho; cases ho; cases hc)
theorem RtI.turn {M : Nat} {fin : Int} {rb sb : Bool} {w0 W W' : World} {row : Option Nat} (h : RtI M fin rb sb w0 W) (hg : W.grownBy W' row) (hr : ∀ r, row = some r → M ≤ r ∧ ∃ o : Obj, W.heap[r]? = some o ∧ o.isCells = false) (hM : M ≤ w0.heap.size) : RtI M fin rb sb w0 W' :=
  ⟨row_turnL h.r1 hg (fun r e => (hr r e).2), row_turnL h.r4 hg (fun r e => (hr r e).2), row_turnL h.r5 hg (fun r e => (hr r e).2), h.b.grown hg (Nat.le_trans hM h.b.size) (fun k e => (hr k e).1), Nat.le_trans h.z hg.size⟩
theorem RtI.alloc {M : Nat} {fin : Int} {rb sb : Bool} {w0 W : World} (h : RtI M fin rb sb w0 W) (hM : M ≤ w0.heap.size) (o : Obj) : RtI M fin rb sb w0 (W.alloc o) :=
  h.turn (World.grownBy_alloc W o none) (fun r e => by cases e) hM
theorem RtI.below {M : Nat} {fin : Int} {rb sb : Bool} {w0 W W' : World} (h : RtI M fin rb sb w0 W) (hb : Below W.heap.size W W') (hM : M ≤ w0.heap.size) : RtI M fin rb sb w0 W' :=
  ⟨h.r1.below hb h.r1.lt, h.r4.below hb h.r4.lt, h.r5.below hb h.r5.lt, h.b.trans (hb.mono (Nat.le_trans hM h.b.size)), Nat.le_trans h.z hb.size⟩
theorem RtI.ret {M : Nat} {fin : Int} {rb sb : Bool} {w0 W : World} (h : RtI M fin rb sb w0 W) (v : Bool) : RtI M fin v sb w0 (W.setCell ⟨M + 1, 0, none⟩ (.bool v)) :=
  ⟨h.r1.set 0 _, h.r4.other (a := ⟨M + 1, 0, none⟩) (by show M + 1 + 1 + 1 ≠ M + 1; omega) _, h.r5.other (a := ⟨M + 1, 0, none⟩) (by show M + 1 + 1 + 1 + 1 ≠ M + 1; omega) _, bset h.b (by omega) _, by simpa using h.z⟩
theorem RtI.some {M : Nat} {fin : Int} {rb sb : Bool} {w0 W : World} (h : RtI M fin rb sb w0 W) (v : Bool) : RtI M fin rb v w0 (W.setCell ⟨M + 1 + 1 + 1 + 1, 0, none⟩ (.bool v)) :=
  ⟨h.r1.other (a := ⟨M + 1 + 1 + 1 + 1, 0, none⟩) (by show M + 1 ≠ M + 1 + 1 + 1 + 1; omega) _, h.r4.other (a := ⟨M + 1 + 1 + 1 + 1, 0, none⟩) (by show M + 1 + 1 + 1 ≠ M + 1 + 1 + 1 + 1; omega) _, h.r5.set 0 _, bset h.b (by omega) _, by simpa using h.z⟩

theorem keepsB {A B : World} (h : Below A.heap.size A B) : KeepsOthers A B := ⟨h.size, fun k o hk _ => (h.block k (Array.getElem?_eq_some_iff.1 hk).1).trans hk⟩
theorem goR_stop {fin : Int} {l pre : List (Int × SG)} {x : Int × SG} (h : pre ++ [x] <+: l) (hx : okS x.2 x.1 fin = false) : goR fin l = false := by
  obtain ⟨t, rfl⟩ := h
  unfold goR
  rw [List.all_append, List.all_append]
  simp [hx]
theorem right_no {ino typ : Int} {sg : List SG} {fin : Int} (hf : finOf typ = fin) (h : goR fin (prs 0 (lds sg)) = false) : rightB ino typ sg = false := by
  unfold rightB; rw [hf, h, Bool.and_false]
theorem right_all {ino typ : Int} {sg : List SG} {fin : Int} (hf : finOf typ = fin ∧ (typ = 2 ∨ typ = 3)) (hi : 0 ≤ ino) (hl : sg.length ≤ 8) (h : (prs 0 (lds sg)).all (fun p => okS p.2 p.1 fin) = true) : rightB ino typ sg = (!(prs 0 (lds sg)).isEmpty) := by
  unfold rightB goR
  rw [hf.1, h, Bool.and_true]
  have e : (prs 0 (lds sg)).isEmpty = decide (lds sg = []) := by
    cases h : lds sg with
    | nil => rfl
    | cons s r => simp [prs]
  rw [e]
  have := hf.2
  by_cases h2 : lds sg = []
  · simp [h2]
  · simp [h2, hi, hl, this]
theorem told_mem {sg : List SG} (hok : ∀ s ∈ sg, SGok s) {pre : List (Int × SG)} {x : Int × SG} (h : pre ++ [x] <+: prs 0 (lds sg)) : 0 ≤ x.1 ∧ x.1 ≤ 18446744073709551615 ∧ SGok x.2 := by
  have hm : x ∈ prs 0 (lds sg) := h.subset (by simp)
  have key : ∀ (l : List SG) (f : Int), 0 ≤ f → f ≤ 18446744073709551615 → (∀ s ∈ l, SGok s) → ∀ y ∈ prs f l, 0 ≤ y.1 ∧ y.1 ≤ 18446744073709551615 ∧ SGok y.2 := by
    intro l
    induction l with
    | nil => intro f _ _ _ y hy; cases hy
    | cons s r ih =>
      intro f h0 h1 hs y hy
      rw [prs] at hy
      rcases List.mem_cons.1 hy with rfl | hy
      · exact ⟨h0, h1, hs s (List.mem_cons_self ..)⟩
      · exact ih (frU s) (frU_u s).1 (frU_u s).2 (fun z hz => hs z (List.mem_cons_of_mem _ hz)) y hy
  exact key _ 0 (by decide) (by decide) (lds_ok hok) x hm
end Go.Proofs.YtkkadknijjninaaDoor
