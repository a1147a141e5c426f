
/- layout.Right. -/
import Derived.Test.YtkpopdkkobelaaaLa1
import Derived.Test.YtkpopdkkobelaaaKE
namespace Go.Proofs.Ytkpopdkkobelaaa
open Go.RowKit Go.Sort Go.Shelf
attribute [local go_sem] Oper.semAt_some

/-- An object, with its segments. -/
structure LO where
  ino : Int
  base : Int
  typ : Int
  entry : Int
  phoff : Int
  ga : Option Addr
  gn : Nat
  gc : Nat
  sg : List SG
  na : Option Addr
  nn : Nat
  nc : Nat
  soname : BL
  run : BL
  sa : Option Addr
  sn : Nat
  sc : Nat
  ra : Option Addr
  rn : Nat
  rc : Nat
instance : Inhabited LO := ⟨⟨0, 0, 0, 0, 0, none, 0, 0, [], none, 0, 0, [], [], none, 0, 0, none, 0, 0⟩⟩
def loC (x : LO) : List Value := [.int .i64 x.ino, .int .u64 x.base, .int .u16 x.typ, .int .u64 x.entry, .int .u64 x.phoff, Value.slice x.ga x.gn x.gc, .slice x.na x.nn x.nc, .string (ba x.soname), .string (ba x.run), .slice x.sa x.sn x.sc, .slice x.ra x.rn x.rc]
def loV (x : LO) : Value := .agg #[.int .i64 x.ino, .int .u64 x.base, .int .u16 x.typ, .int .u64 x.entry, .int .u64 x.phoff, Value.slice x.ga x.gn x.gc, .slice x.na x.nn x.nc, .string (ba x.soname), .string (ba x.run), .slice x.sa x.sn x.sc, .slice x.ra x.rn x.rc]
/-- What is known of an object: its segments lie in memory. -/
structure LOk (w : World) (x : LO) : Prop where
  segs : Sgs w x.ga x.gn x.sg
  ok : ∀ s ∈ x.sg, SGok s
  gn : x.gn ≤ 4000000000000
  nil : x.ga = none → x.gc = 0
  b0 : 0 ≤ x.base
  b1 : x.base ≤ 18446744073709551615
theorem LOk.below' {w w' : World} {x : LO} (h : LOk w x) (hb : Below w.heap.size w w') : LOk w' x := ⟨h.segs.below' hb, h.ok, h.gn, h.nil, h.b0, h.b1⟩

theorem setKpT {T B0 g j : Nat} {E : TypeId} {cs : List Value} {W : World} {v : Value} (h : Row W g E cs) (hE : E ≠ T) (hB : B0 ≤ g) : KpT T B0 W (W.setCell ⟨g, j, none⟩ v) := by
  refine ⟨bset (Below.refl _ _) (by exact hB) _, fun b cs' m e => ?_⟩
  by_cases hb : b = g
  · subst hb; rw [h.heap] at e; cases e; exact absurd rfl hE
  · exact heap_setCell_other W ⟨g, j, none⟩ b v hb
structure RtI (M : Nat) (fin : Int) (rb sb : Bool) (w0 W : World) : Prop where
  r1 : Row W (M + 1) 4 [.bool rb]
  r4 : Row W (M + 1 + 1 + 1) 22 [.int .u64 fin]
  r5 : Row W (M + 1 + 1 + 1 + 1) 4 [.bool sb]
  b : Below M w0 W
  z : M + 6 ≤ W.heap.size
theorem row_turnL {w w' : World} {g : Nat} {E : TypeId} {cs : List Value} {row : Option Nat} (h : Row w g E cs) (hg : w.grownBy w' row) (hr : ∀ r, row = some r → ∃ o : Obj, w.heap[r]? = some o ∧ o.isCells = false) : Row w' g E cs :=
  h.grown hg (fun e => by obtain ⟨o, ho, hc⟩ := hr g e.symm; rw [h.heap] at ho; cases ho; cases hc)
theorem RtI.turn {M : Nat} {fin : Int} {rb sb : Bool} {w0 W W' : World} {row : Option Nat} (h : RtI M fin rb sb w0 W) (hg : W.grownBy W' row) (hr : ∀ r, row = some r → M ≤ r ∧ ∃ o : Obj, W.heap[r]? = some o ∧ o.isCells = false) (hM : M ≤ w0.heap.size) : RtI M fin rb sb w0 W' :=
  ⟨row_turnL h.r1 hg (fun r e => (hr r e).2), row_turnL h.r4 hg (fun r e => (hr r e).2), row_turnL h.r5 hg (fun r e => (hr r e).2), h.b.grown hg (Nat.le_trans hM h.b.size) (fun k e => (hr k e).1), Nat.le_trans h.z hg.size⟩
theorem RtI.alloc {M : Nat} {fin : Int} {rb sb : Bool} {w0 W : World} (h : RtI M fin rb sb w0 W) (hM : M ≤ w0.heap.size) (o : Obj) : RtI M fin rb sb w0 (W.alloc o) :=
  h.turn (World.grownBy_alloc W o none) (fun r e => by cases e) hM
theorem RtI.below {M : Nat} {fin : Int} {rb sb : Bool} {w0 W W' : World} (h : RtI M fin rb sb w0 W) (hb : Below W.heap.size W W') (hM : M ≤ w0.heap.size) : RtI M fin rb sb w0 W' :=
  ⟨h.r1.below hb h.r1.lt, h.r4.below hb h.r4.lt, h.r5.below hb h.r5.lt, h.b.trans (hb.mono (Nat.le_trans hM h.b.size)), Nat.le_trans h.z hb.size⟩
theorem RtI.ret {M : Nat} {fin : Int} {rb sb : Bool} {w0 W : World} (h : RtI M fin rb sb w0 W) (v : Bool) : RtI M fin v sb w0 (W.setCell ⟨M + 1, 0, none⟩ (.bool v)) :=
  ⟨h.r1.set 0 _, h.r4.other (a := ⟨M + 1, 0, none⟩) (by show M + 1 + 1 + 1 ≠ M + 1; omega) _, h.r5.other (a := ⟨M + 1, 0, none⟩) (by show M + 1 + 1 + 1 + 1 ≠ M + 1; omega) _, bset h.b (by omega) _, by simpa using h.z⟩
theorem RtI.some {M : Nat} {fin : Int} {rb sb : Bool} {w0 W : World} (h : RtI M fin rb sb w0 W) (v : Bool) : RtI M fin rb v w0 (W.setCell ⟨M + 1 + 1 + 1 + 1, 0, none⟩ (.bool v)) :=
  ⟨h.r1.other (a := ⟨M + 1 + 1 + 1 + 1, 0, none⟩) (by show M + 1 ≠ M + 1 + 1 + 1 + 1; omega) _, h.r4.other (a := ⟨M + 1 + 1 + 1 + 1, 0, none⟩) (by show M + 1 + 1 + 1 ≠ M + 1 + 1 + 1 + 1; omega) _, h.r5.set 0 _, bset h.b (by omega) _, by simpa using h.z⟩

theorem right_end {M D : Nat} {fin : Int} {w0 W : World} {rb sb : Bool} {tm : Array Value} (hK : W.heap[D]? = some (.deferred (some [])))
    (hT : RtI M fin rb sb w0 (W.putObj D (.deferred none))) (hM : M = w0.heap.size) (h2 : tm[2]? = some (.pointer (some ⟨M + 1, 0, none⟩))) :
    bodyPostM Fence.wide 9 Try.prog Try.f11 (fun e w' => e = .returned (.bool rb) ∧ Below w0.heap.size w0 w') Exit.ret { tmps := tm, defers := [{ target := .collected D, args := #[] }] } W := by
  refine ⟨by simp, .inl ⟨_, _, rfl, run_takeDeferred hK, ?_⟩⟩
  have k1 := hT.r1.cell 0 (by simp)
  simp only [List.getElem_cons_zero] at k1
  exact ⟨_, by simp [results, Try.f11, Try.results11, go_sem, h2, k1], rfl, hM ▸ hT.b⟩

theorem keepsB {A B : World} (h : Below A.heap.size A B) : KeepsOthers A B := ⟨h.size, fun k o hk _ => (h.block k (Array.getElem?_eq_some_iff.1 hk).1).trans hk⟩
theorem goR_stop {fin : Int} {l pre : List (Int × SG)} {x : Int × SG} (h : pre ++ [x] <+: l) (hx : okS x.2 x.1 fin = false) : goR fin l = false := by
  obtain ⟨t, rfl⟩ := h
  unfold goR
  rw [List.all_append, List.all_append]
  simp [hx]
theorem right_no {ino typ : Int} {sg : List SG} {fin : Int} (hf : finOf typ = fin) (h : goR fin (prs 0 (lds sg)) = false) : rightB ino typ sg = false := by
  unfold rightB; rw [hf, h, Bool.and_false]
theorem right_all {ino typ : Int} {sg : List SG} {fin : Int} (hf : finOf typ = fin ∧ (typ = 2 ∨ typ = 3)) (hi : 0 ≤ ino) (hl : sg.length ≤ 8) (h : (prs 0 (lds sg)).all (fun p => okS p.2 p.1 fin) = true) : rightB ino typ sg = (!(prs 0 (lds sg)).isEmpty) := by
  unfold rightB goR
  rw [hf.1, h, Bool.and_true]
  have e : (prs 0 (lds sg)).isEmpty = decide (lds sg = []) := by
    cases h : lds sg with
    | nil => rfl
    | cons s r => simp [prs]
  rw [e]
  have := hf.2
  by_cases h2 : lds sg = []
  · simp [h2]
  · simp [h2, hi, hl, this]
theorem told_mem {sg : List SG} (hok : ∀ s ∈ sg, SGok s) {pre : List (Int × SG)} {x : Int × SG} (h : pre ++ [x] <+: prs 0 (lds sg)) : 0 ≤ x.1 ∧ x.1 ≤ 18446744073709551615 ∧ SGok x.2 := by
  have hm : x ∈ prs 0 (lds sg) := h.subset (by simp)
  have key : ∀ (l : List SG) (f : Int), 0 ≤ f → f ≤ 18446744073709551615 → (∀ s ∈ l, SGok s) → ∀ y ∈ prs f l, 0 ≤ y.1 ∧ y.1 ≤ 18446744073709551615 ∧ SGok y.2 := by
    intro l
    induction l with
    | nil => intro f _ _ _ y hy; cases hy
    | cons s r ih =>
      intro f h0 h1 hs y hy
      rw [prs] at hy
      rcases List.mem_cons.1 hy with rfl | hy
      · exact ⟨h0, h1, hs s (List.mem_cons_self ..)⟩
      · exact ih (frU s) (frU_u s).1 (frU_u s).2 (fun z hz => hs z (List.mem_cons_of_mem _ hz)) y hy
  exact key _ 0 (by decide) (by decide) (lds_ok hok) x hm
/-- What Right's rounds read. -/
def rtA (ino base typ entry phoff : Int) (ga : Option Addr) (gn gc : Nat) (na : Option Addr) (nn nc : Nat) (soname run : BL) (sa : Option Addr) (sn sc : Nat) (ra : Option Addr) (rn rc : Nat) (e f : Value) (M B : Nat) (p : Int × SG) : Act := { tmps := #[.agg #[.int .i64 ino, .int .u64 base, .int .u16 typ, .int .u64 entry, .int .u64 phoff, Value.slice ga gn gc, .slice na nn nc, .string (ba soname), .string (ba run), .slice sa sn sc, .slice ra rn rc], .pointer (some ⟨M, 0, none⟩), .pointer (some ⟨M + 1, 0, none⟩), .pointer (some ⟨M + 1 + 1, 0, none⟩), .pointer (some ⟨M + 1 + 1 + 1, 0, none⟩), .pointer (some ⟨M + 1 + 1 + 1 + 1, 0, none⟩), .int .u64 p.1, .pointer (some ⟨B, 0, none⟩), .pointer (some ⟨M, 2, none⟩), .agg #[.int .u16 typ, .int .u64 entry, .int .u64 phoff, Value.slice ga gn gc], .pointer (some ⟨M, 0, none⟩), .int .i64 ino, .bool false, .bool false, .pointer (some ⟨M + 1 + 1, 3, none⟩), Value.slice ga gn gc, .int .i64 gn, .bool false, .bool false, .pointer (some ⟨M + 1 + 1, 0, none⟩), .int .u16 typ, e, e, f, f, .agg #[.int .u16 typ, .int .u64 entry, .int .u64 phoff, Value.slice ga gn gc], .func (.func 40) #[] #[.pointer (some ⟨M + 1 + 1 + 1 + 1 + 1, 0, none⟩)], .int .u64 p.1, sgV p.2, undef, undef, undef, undef, undef, undef], defers := [] }

set_option maxRecDepth 100000 in
set_option maxHeartbeats 16000000 in
theorem right_any (x : LO) (w : World) (hx : LOk w x) :
    Calls Try.prog 11 #[loV x] w fun e w' => e = .returned (.bool (rightB x.ino x.typ x.sg)) ∧ Below w.heap.size w w' := by
  obtain ⟨ino, base, typ, entry, phoff, ga, gn, gc, sg, na, nn, nc, soname, run, sa, sn, sc, ra, rn, rc⟩ := x
  obtain rfl : sg.length = gn := hx.segs.hlen
  have hgn := hx.gn
  have HS := hid hx.segs
  have HOK := hid hx.ok
  have HPRS := hid (fun (pre : List (Int × SG)) (x : Int × SG) (h : pre ++ [x] <+: prs 0 (lds sg)) => told_mem hx.ok h)
  unfold loV
  dsimp only at hgn HS HOK ⊢
  clear hx
  refine (callsIn_wide (n := 9)).1 ?_
  refine callsIn_of_wp_marks Try.func11 rfl trivial ?_ rfl
  simp only [Try.ntmps11, List.size_toArray, List.length_cons, List.length_nil, Nat.reduceAdd, Nat.reduceSub, Array.replicate_succ, Array.replicate_zero, List.push_toArray, List.append_toArray, List.nil_append, List.cons_append]
  refine wpIn_wide.2 ?_
  have HB2 := hid (((@bal w (.cells #[.int .i64 ino, .int .u64 base, .int .u16 typ, .int .u64 entry, .int .u64 phoff, Value.slice ga sg.length gc, .slice na nn nc, .string (ba soname), .string (ba run), .slice sa sn sc, .slice ra rn rc] 33)).alloc (by simp) (.cells #[.bool false] 4)).alloc (by simp; omega) (.cells #[.int .u16 typ, .int .u64 entry, .int .u64 phoff, Value.slice ga sg.length gc] 26))
  have HB3 := hid (HB2.out.alloc (by simp; omega) (.cells #[.int .u64 0] 22))
  by_cases hi : ino < 0
  · have d1 : decide (ino < 0) = true := decide_eq_true hi
    have HF := hid (show rightB ino typ sg = false by unfold rightB; rw [decide_eq_false (by omega)]; rfl)
    go_wp2_with fail
    exact ⟨_, by simp [results, Try.f11, Try.results11, go_sem]; rfl, by rw [HF.out], HB2.out⟩
  have d1 : decide (ino < 0) = false := decide_eq_false hi
  by_cases h8 : 8 < sg.length
  · have d2 : decide ((8 : Int) < (sg.length : Int)) = true := by simp; omega
    have d2n : decide (8 < sg.length) = true := by simp; omega
    have HF := hid (show rightB ino typ sg = false by unfold rightB; rw [decide_eq_false (by omega)]; rfl)
    go_wp2_with fail
    exact ⟨_, by simp [results, Try.f11, Try.results11, go_sem]; rfl, by rw [HF.out], HB2.out⟩
  have d2 : decide ((8 : Int) < (sg.length : Int)) = false := by simp; omega
  have d2n : decide (8 < sg.length) = false := by simp; omega
  by_cases h2 : typ = 2
  · subst h2
    go_wp2_with fail
    refine (loads_any _ _ _ _ _ _ _ ⟨_, rfl⟩ ⟨_, rfl⟩ ⟨_, rfl⟩).mono ?_
    rintro e' w2 ⟨rfl, hw2⟩
    have hM : Below w.heap.size w w2 := by rw [hw2]; exact (((((bal _).alloc (by simp) _).alloc (by simp; omega) _).alloc (by simp; omega) _).alloc (by simp; omega) _).alloc (by simp; omega) _
    have hs2 : w2.heap.size = w.heap.size + 6 := by rw [hw2]; simp
    have hI0 : RtI w.heap.size 140737488355328 false false w w2 := by
      refine ⟨?_, ?_, ?_, hM, by omega⟩
      · rw [hw2]
        have := Row.new (w.alloc (.cells #[.int .i64 ino, .int .u64 base, .int .u16 2, .int .u64 entry, .int .u64 phoff, Value.slice ga sg.length gc, .slice na nn nc, .string (ba soname), .string (ba run), .slice sa sn sc, .slice ra rn rc] 33)) 4 [.bool false]
        simp only [World.size_alloc] at this
        exact ((((this.alloc _).alloc _).alloc _).alloc _)
      · rw [hw2]
        have := Row.new (((w.alloc (.cells #[.int .i64 ino, .int .u64 base, .int .u16 2, .int .u64 entry, .int .u64 phoff, Value.slice ga sg.length gc, .slice na nn nc, .string (ba soname), .string (ba run), .slice sa sn sc, .slice ra rn rc] 33)).alloc (.cells #[.bool false] 4)).alloc (.cells #[.int .u16 2, .int .u64 entry, .int .u64 phoff, Value.slice ga sg.length gc] 26)) 22 [.int .u64 140737488355328]
        simp only [World.size_alloc] at this
        exact ((this.alloc _).alloc _)
      · rw [hw2]
        have := Row.new ((((w.alloc (.cells #[.int .i64 ino, .int .u64 base, .int .u16 2, .int .u64 entry, .int .u64 phoff, Value.slice ga sg.length gc, .slice na nn nc, .string (ba soname), .string (ba run), .slice sa sn sc, .slice ra rn rc] 33)).alloc (.cells #[.bool false] 4)).alloc (.cells #[.int .u16 2, .int .u64 entry, .int .u64 phoff, Value.slice ga sg.length gc] 26)).alloc (.cells #[.int .u64 140737488355328] 22)) 4 [.bool false]
        simp only [World.size_alloc] at this
        exact this.alloc _
    have hrB : Row w2 (w.heap.size + 1 + 1 + 1 + 1 + 1) 26 [.int .u16 2, .int .u64 entry, .int .u64 phoff, Value.slice ga sg.length gc] := by
      rw [hw2]
      have := Row.new (((((w.alloc (.cells #[.int .i64 ino, .int .u64 base, .int .u16 2, .int .u64 entry, .int .u64 phoff, Value.slice ga sg.length gc, .slice na nn nc, .string (ba soname), .string (ba run), .slice sa sn sc, .slice ra rn rc] 33)).alloc (.cells #[.bool false] 4)).alloc (.cells #[.int .u16 2, .int .u64 entry, .int .u64 phoff, Value.slice ga sg.length gc] 26)).alloc (.cells #[.int .u64 140737488355328] 22)).alloc (.cells #[.bool false] 4)) 26 [.int .u16 2, .int .u64 entry, .int .u64 phoff, Value.slice ga sg.length gc]
      simp only [World.size_alloc] at this
      exact this
    simp only [World.size_alloc]
    clear hw2
    go_wp2_with fail
    refine wp_range_ty (α := Int × SG) (gf := 40) (lb := #[.pointer (some ⟨w.heap.size + 1 + 1 + 1 + 1 + 1, 0, none⟩)]) rfl (enters_of Try.func40 (by kernel_rfl) rfl)
      (loads_seq ga sg.length gc sg _ _ _ _ w w2 HS.out (by omega) HOK.out hM hrB) (fun r e => by cases e) (fun A B C h k => h.trans k) (fun W l o o' h1 h2 h3 => KpT.put W l o o' h1 h2 (by omega)) (fun _ => rfl)
      (fun pre W => pre.all (fun p => okS p.2 p.1 140737488355328) = true ∧ RtI w.heap.size 140737488355328 false (!pre.isEmpty) w W)
      (fun c pre W => c = .ret ∧ goR 140737488355328 (prs 0 (lds sg)) = false ∧ ∃ sb, RtI w.heap.size 140737488355328 false sb w W)
      (fun p a' W => ∃ B, w.heap.size + 6 ≤ B ∧ Row W B 58 (sgC p.2) ∧ a' = rtA ino base 2 entry phoff ga sg.length gc na nn nc soname run sa sn sc ra rn rc (.bool true) undef w.heap.size B p) ?hI ?hIx ?hIr ?hIxr ?hAx ⟨rfl, hI0⟩ ?assign ?body ?done ?stop
    case hI =>
      rintro s A C row ⟨hno, hi⟩ hg hr
      exact ⟨hno, hi.turn hg (fun r e => ⟨by have := (hr r e).1; omega, (hr r e).2⟩) (Nat.le_refl _)⟩
    case hIx =>
      rintro c s A C row ⟨hc, h1, sb, hi⟩ hg hr
      exact ⟨hc, h1, sb, hi.turn hg (fun r e => ⟨by have := (hr r e).1; omega, (hr r e).2⟩) (Nat.le_refl _)⟩
    case hIr =>
      rintro s A C ⟨hno, hi⟩ hg
      exact ⟨hno, hi.turn hg (fun r e => by cases e) (Nat.le_refl _)⟩
    case hIxr =>
      rintro c s A C ⟨hc, h1, sb, hi⟩ hg
      exact ⟨hc, h1, sb, hi.turn hg (fun r e => by cases e) (Nat.le_refl _)⟩
    case hAx =>
      rintro x a' s A C row ⟨B, h1, r1, e⟩ hg hr
      exact ⟨B, h1, row_turnL r1 hg (fun r e => (hr r e).2), e⟩
    case assign =>
      intro l pre x W K hi hN hK
      simp only [prV, sgV]
      gi_wp2
      refine hK _ _ ((KeepsOthers.alloc W _).from _) (KpT.alloc W _ (by have := hi.2.z; omega)) ⟨hi.1, hi.2.alloc (Nat.le_refl _) _⟩ ⟨W.heap.size, hi.2.z, Row.new W _ _, rfl⟩
    case body =>
      rintro l pre x a' W ⟨hno, hi⟩ ⟨B, h1, r1, rfl⟩ hN
      obtain ⟨y0, y1, y2, y3, y4, y5⟩ := (show Row W B 58 [_, _, _, _, _, _] from r1).six
      have hlB := r1.lt
      have k1 := hi.r1.cell 0 (by simp)
      have k4 := hi.r4.cell 0 (by simp)
      have k5 := hi.r5.cell 0 (by simp)
      simp only [List.getElem_cons_zero] at k1 k4 k5
      have f1 := hi.r1.frozen 0
      have f5 := hi.r5.frozen 0
      have l1 := hi.r1.lt
      have l4 := hi.r4.lt
      have l5 := hi.r5.lt
      obtain ⟨hfu0, hfu1, hsok⟩ := HPRS.out pre x hN
      have HRL := hid (rightLoad_any x.2 x.1 140737488355328 W hsok hfu0 hfu1 (by decide) (by decide))
      have HI := hid hi
      have HNO := hid hno
      have HIN := hid hN
      have HR1 := hid r1
      clear hI0 hrB hi hno r1 hsok hN
      unfold rtA
      cases hok : okS x.2 x.1 140737488355328
      · rw [hok] at HRL
        have HF := hid (show goR 140737488355328 (prs 0 (lds sg)) = false from goR_stop HIN.out hok)
        simp only [sgV] at HRL
        gi_wp2_with fail
        refine ⟨trivial, (callsIn_wide.2 (HRL.out)).mono ?_⟩
        rintro e' w3 ⟨rfl, hb3⟩
        have HI3 := hid (HI.out.below hb3 (Nat.le_refl _))
        have HB3 := hid hb3
        have k1 := HI3.out.r1.cell 0 (by simp)
        simp only [List.getElem_cons_zero] at k1
        have f1 := HI3.out.r1.frozen 0
        have l1 := HI3.out.r1.lt
        clear hb3 k4 k5 f5 l4 l5 y0 y1 y2 y3 y4 y5
        gi_wp2_with fail
        exact ⟨((keepsB HB3.out).trans (KeepsOthers.setCell _ _ _)).from _, rfl, HF.out, _, HI3.out.ret false⟩
      · rw [hok] at HRL
        simp only [sgV] at HRL
        gi_wp2_with fail
        refine ⟨trivial, (callsIn_wide.2 (HRL.out)).mono ?_⟩
        rintro e' w3 ⟨rfl, hb3⟩
        have HI3 := hid (HI.out.below hb3 (Nat.le_refl _))
        have HB3 := hid hb3
        have k5 := HI3.out.r5.cell 0 (by simp)
        simp only [List.getElem_cons_zero] at k5
        have f5 := HI3.out.r5.frozen 0
        have l5 := HI3.out.r5.lt
        clear hb3 k4 k1 f1 l4 l1 y0 y1 y2 y3 y4 y5
        gi_wp2_with fail
        refine ⟨((keepsB HB3.out).trans (KeepsOthers.setCell _ _ _)).from _, (KpT.below HB3.out (by have := HI.out.z; omega)).trans (setKpT HI3.out.r5 (by decide) (by omega)), ?_, ?_⟩
        · rw [List.all_append, HNO.out]; simp [hok]
        · have e : (!(pre ++ [x]).isEmpty) = true := by cases pre <;> rfl
          rw [e]
          exact HI3.out.some true
    case done =>
      rintro ys W rfl ⟨hno, hi⟩ hK
      have HF := hid (show rightB ino 2 sg = (!(prs 0 (lds sg)).isEmpty) from right_all (by decide) (by omega) (by omega) hno)
      have k1 := hi.r1.cell 0 (by simp)
      have k5 := hi.r5.cell 0 (by simp)
      simp only [List.getElem_cons_zero] at k1 k5
      have f1 := hi.r1.frozen 0
      have l1 := hi.r1.lt
      have l5 := hi.r5.lt
      have HI := hid hi
      have HK := hid hK
      clear hI0 hrB hi hno
      generalize (!(prs 0 (lds sg)).isEmpty) = sb at *
      go_wp2_with fail
      have hK2 := (KeepsOthers.setCell W ⟨w.heap.size + 1, 0, none⟩ (.bool sb)).same _ _ HK.out rfl
      have HT := ((HI.out.ret sb).turn (grownBy_putObj' _ w2.heap.size (.deferred none)) (fun r e => by cases e; exact ⟨by omega, _, hK2, rfl⟩) (Nat.le_refl _))
      rw [HF.out]
      exact right_end hK2 HT rfl rfl
    case stop =>
      rintro c pre W hp ⟨rfl, h1, sb, hi⟩ hK
      have HF := hid (show rightB ino 2 sg = false from right_no (by decide) h1)
      have HI := hid hi
      have HK := hid hK
      have k1 := hi.r1.cell 0 (by simp)
      simp only [List.getElem_cons_zero] at k1
      clear hI0 hrB hi h1
      go_wp2_with fail
      have HT := HI.out.turn (grownBy_putObj' _ w2.heap.size (.deferred none)) (fun r e => by cases e; exact ⟨by omega, _, HK.out, rfl⟩) (Nat.le_refl _)
      rw [HF.out]
      exact right_end HK.out HT rfl rfl
  by_cases h3 : typ = 3
  · subst h3
    go_wp2_with fail
    refine (loads_any _ _ _ _ _ _ _ ⟨_, rfl⟩ ⟨_, rfl⟩ ⟨_, rfl⟩).mono ?_
    rintro e' w2 ⟨rfl, hw2⟩
    have hM : Below w.heap.size w w2 := by rw [hw2]; exact (((((bal _).alloc (by simp) _).alloc (by simp; omega) _).alloc (by simp; omega) _).alloc (by simp; omega) _).alloc (by simp; omega) _
    have hs2 : w2.heap.size = w.heap.size + 6 := by rw [hw2]; simp
    have hI0 : RtI w.heap.size 4294967296 false false w w2 := by
      refine ⟨?_, ?_, ?_, hM, by omega⟩
      · rw [hw2]
        have := Row.new (w.alloc (.cells #[.int .i64 ino, .int .u64 base, .int .u16 3, .int .u64 entry, .int .u64 phoff, Value.slice ga sg.length gc, .slice na nn nc, .string (ba soname), .string (ba run), .slice sa sn sc, .slice ra rn rc] 33)) 4 [.bool false]
        simp only [World.size_alloc] at this
        exact ((((this.alloc _).alloc _).alloc _).alloc _)
      · rw [hw2]
        have := Row.new (((w.alloc (.cells #[.int .i64 ino, .int .u64 base, .int .u16 3, .int .u64 entry, .int .u64 phoff, Value.slice ga sg.length gc, .slice na nn nc, .string (ba soname), .string (ba run), .slice sa sn sc, .slice ra rn rc] 33)).alloc (.cells #[.bool false] 4)).alloc (.cells #[.int .u16 3, .int .u64 entry, .int .u64 phoff, Value.slice ga sg.length gc] 26)) 22 [.int .u64 4294967296]
        simp only [World.size_alloc] at this
        exact ((this.alloc _).alloc _)
      · rw [hw2]
        have := Row.new ((((w.alloc (.cells #[.int .i64 ino, .int .u64 base, .int .u16 3, .int .u64 entry, .int .u64 phoff, Value.slice ga sg.length gc, .slice na nn nc, .string (ba soname), .string (ba run), .slice sa sn sc, .slice ra rn rc] 33)).alloc (.cells #[.bool false] 4)).alloc (.cells #[.int .u16 3, .int .u64 entry, .int .u64 phoff, Value.slice ga sg.length gc] 26)).alloc (.cells #[.int .u64 4294967296] 22)) 4 [.bool false]
        simp only [World.size_alloc] at this
        exact this.alloc _
    have hrB : Row w2 (w.heap.size + 1 + 1 + 1 + 1 + 1) 26 [.int .u16 3, .int .u64 entry, .int .u64 phoff, Value.slice ga sg.length gc] := by
      rw [hw2]
      have := Row.new (((((w.alloc (.cells #[.int .i64 ino, .int .u64 base, .int .u16 3, .int .u64 entry, .int .u64 phoff, Value.slice ga sg.length gc, .slice na nn nc, .string (ba soname), .string (ba run), .slice sa sn sc, .slice ra rn rc] 33)).alloc (.cells #[.bool false] 4)).alloc (.cells #[.int .u16 3, .int .u64 entry, .int .u64 phoff, Value.slice ga sg.length gc] 26)).alloc (.cells #[.int .u64 4294967296] 22)).alloc (.cells #[.bool false] 4)) 26 [.int .u16 3, .int .u64 entry, .int .u64 phoff, Value.slice ga sg.length gc]
      simp only [World.size_alloc] at this
      exact this
    simp only [World.size_alloc]
    clear hw2
    go_wp2_with fail
    refine wp_range_ty (α := Int × SG) (gf := 40) (lb := #[.pointer (some ⟨w.heap.size + 1 + 1 + 1 + 1 + 1, 0, none⟩)]) rfl (enters_of Try.func40 (by kernel_rfl) rfl)
      (loads_seq ga sg.length gc sg _ _ _ _ w w2 HS.out (by omega) HOK.out hM hrB) (fun r e => by cases e) (fun A B C h k => h.trans k) (fun W l o o' h1 h2 h3 => KpT.put W l o o' h1 h2 (by omega)) (fun _ => rfl)
      (fun pre W => pre.all (fun p => okS p.2 p.1 4294967296) = true ∧ RtI w.heap.size 4294967296 false (!pre.isEmpty) w W)
      (fun c pre W => c = .ret ∧ goR 4294967296 (prs 0 (lds sg)) = false ∧ ∃ sb, RtI w.heap.size 4294967296 false sb w W)
      (fun p a' W => ∃ B, w.heap.size + 6 ≤ B ∧ Row W B 58 (sgC p.2) ∧ a' = rtA ino base 3 entry phoff ga sg.length gc na nn nc soname run sa sn sc ra rn rc (.bool false) (.bool true) w.heap.size B p) ?hI ?hIx ?hIr ?hIxr ?hAx ⟨rfl, hI0⟩ ?assign ?body ?done ?stop
    case hI =>
      rintro s A C row ⟨hno, hi⟩ hg hr
      exact ⟨hno, hi.turn hg (fun r e => ⟨by have := (hr r e).1; omega, (hr r e).2⟩) (Nat.le_refl _)⟩
    case hIx =>
      rintro c s A C row ⟨hc, h1, sb, hi⟩ hg hr
      exact ⟨hc, h1, sb, hi.turn hg (fun r e => ⟨by have := (hr r e).1; omega, (hr r e).2⟩) (Nat.le_refl _)⟩
    case hIr =>
      rintro s A C ⟨hno, hi⟩ hg
      exact ⟨hno, hi.turn hg (fun r e => by cases e) (Nat.le_refl _)⟩
    case hIxr =>
      rintro c s A C ⟨hc, h1, sb, hi⟩ hg
      exact ⟨hc, h1, sb, hi.turn hg (fun r e => by cases e) (Nat.le_refl _)⟩
    case hAx =>
      rintro x a' s A C row ⟨B, h1, r1, e⟩ hg hr
      exact ⟨B, h1, row_turnL r1 hg (fun r e => (hr r e).2), e⟩
    case assign =>
      intro l pre x W K hi hN hK
      simp only [prV, sgV]
      gi_wp2
      refine hK _ _ ((KeepsOthers.alloc W _).from _) (KpT.alloc W _ (by have := hi.2.z; omega)) ⟨hi.1, hi.2.alloc (Nat.le_refl _) _⟩ ⟨W.heap.size, hi.2.z, Row.new W _ _, rfl⟩
    case body =>
      rintro l pre x a' W ⟨hno, hi⟩ ⟨B, h1, r1, rfl⟩ hN
      obtain ⟨y0, y1, y2, y3, y4, y5⟩ := (show Row W B 58 [_, _, _, _, _, _] from r1).six
      have hlB := r1.lt
      have k1 := hi.r1.cell 0 (by simp)
      have k4 := hi.r4.cell 0 (by simp)
      have k5 := hi.r5.cell 0 (by simp)
      simp only [List.getElem_cons_zero] at k1 k4 k5
      have f1 := hi.r1.frozen 0
      have f5 := hi.r5.frozen 0
      have l1 := hi.r1.lt
      have l4 := hi.r4.lt
      have l5 := hi.r5.lt
      obtain ⟨hfu0, hfu1, hsok⟩ := HPRS.out pre x hN
      have HRL := hid (rightLoad_any x.2 x.1 4294967296 W hsok hfu0 hfu1 (by decide) (by decide))
      have HI := hid hi
      have HNO := hid hno
      have HIN := hid hN
      have HR1 := hid r1
      clear hI0 hrB hi hno r1 hsok hN
      unfold rtA
      cases hok : okS x.2 x.1 4294967296
      · rw [hok] at HRL
        have HF := hid (show goR 4294967296 (prs 0 (lds sg)) = false from goR_stop HIN.out hok)
        simp only [sgV] at HRL
        gi_wp2_with fail
        refine ⟨trivial, (callsIn_wide.2 (HRL.out)).mono ?_⟩
        rintro e' w3 ⟨rfl, hb3⟩
        have HI3 := hid (HI.out.below hb3 (Nat.le_refl _))
        have HB3 := hid hb3
        have k1 := HI3.out.r1.cell 0 (by simp)
        simp only [List.getElem_cons_zero] at k1
        have f1 := HI3.out.r1.frozen 0
        have l1 := HI3.out.r1.lt
        clear hb3 k4 k5 f5 l4 l5 y0 y1 y2 y3 y4 y5
        gi_wp2_with fail
        exact ⟨((keepsB HB3.out).trans (KeepsOthers.setCell _ _ _)).from _, rfl, HF.out, _, HI3.out.ret false⟩
      · rw [hok] at HRL
        simp only [sgV] at HRL
        gi_wp2_with fail
        refine ⟨trivial, (callsIn_wide.2 (HRL.out)).mono ?_⟩
        rintro e' w3 ⟨rfl, hb3⟩
        have HI3 := hid (HI.out.below hb3 (Nat.le_refl _))
        have HB3 := hid hb3
        have k5 := HI3.out.r5.cell 0 (by simp)
        simp only [List.getElem_cons_zero] at k5
        have f5 := HI3.out.r5.frozen 0
        have l5 := HI3.out.r5.lt
        clear hb3 k4 k1 f1 l4 l1 y0 y1 y2 y3 y4 y5
        gi_wp2_with fail
        refine ⟨((keepsB HB3.out).trans (KeepsOthers.setCell _ _ _)).from _, (KpT.below HB3.out (by have := HI.out.z; omega)).trans (setKpT HI3.out.r5 (by decide) (by omega)), ?_, ?_⟩
        · rw [List.all_append, HNO.out]; simp [hok]
        · have e : (!(pre ++ [x]).isEmpty) = true := by cases pre <;> rfl
          rw [e]
          exact HI3.out.some true
    case done =>
      rintro ys W rfl ⟨hno, hi⟩ hK
      have HF := hid (show rightB ino 3 sg = (!(prs 0 (lds sg)).isEmpty) from right_all (by decide) (by omega) (by omega) hno)
      have k1 := hi.r1.cell 0 (by simp)
      have k5 := hi.r5.cell 0 (by simp)
      simp only [List.getElem_cons_zero] at k1 k5
      have f1 := hi.r1.frozen 0
      have l1 := hi.r1.lt
      have l5 := hi.r5.lt
      have HI := hid hi
      have HK := hid hK
      clear hI0 hrB hi hno
      generalize (!(prs 0 (lds sg)).isEmpty) = sb at *
      go_wp2_with fail
      have hK2 := (KeepsOthers.setCell W ⟨w.heap.size + 1, 0, none⟩ (.bool sb)).same _ _ HK.out rfl
      have HT := ((HI.out.ret sb).turn (grownBy_putObj' _ w2.heap.size (.deferred none)) (fun r e => by cases e; exact ⟨by omega, _, hK2, rfl⟩) (Nat.le_refl _))
      rw [HF.out]
      exact right_end hK2 HT rfl rfl
    case stop =>
      rintro c pre W hp ⟨rfl, h1, sb, hi⟩ hK
      have HF := hid (show rightB ino 3 sg = false from right_no (by decide) h1)
      have HI := hid hi
      have HK := hid hK
      have k1 := hi.r1.cell 0 (by simp)
      simp only [List.getElem_cons_zero] at k1
      clear hI0 hrB hi h1
      go_wp2_with fail
      have HT := HI.out.turn (grownBy_putObj' _ w2.heap.size (.deferred none)) (fun r e => by cases e; exact ⟨by omega, _, HK.out, rfl⟩) (Nat.le_refl _)
      rw [HF.out]
      exact right_end HK.out HT rfl rfl
  have e2 : (typ == 2) = false := by simpa using h2
  have e3 : (typ == 3) = false := by simpa using h3
  have HF := hid (show rightB ino typ sg = false by unfold rightB; rw [decide_eq_false (by omega)]; rfl)
  clear h2 h3
  go_wp2_with fail
  exact ⟨_, by simp [results, Try.f11, Try.results11, go_sem]; rfl, by rw [HF.out], HB3.out⟩
end Go.Proofs.Ytkpopdkkobelaaa
