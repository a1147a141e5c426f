/- symbols.Lookup. -/
import Derived.Test.YtblefgkhikfmhaaSyA
namespace Go.Proofs.Ytblefgkhikfmhaa
open Go.RowKit Go.Sort Go.Shelf
attribute [local go_sem] Oper.semAt_some

theorem row_turn {w w' : World} {g : Nat} {E : TypeId} {cs : List Value} {row : Option Nat} (h : Row w g E cs) (hg : w.grownBy w' row) (hr : ∀ r, row = some r → ∃ o : Obj, w.heap[r]? = some o ∧ o.isCells = false) : Row w' g E cs :=
  h.grown hg (fun e => by obtain ⟨o, ho, hc⟩ := hr g e.symm; rw [h.heap] at ho; cases ho; cases hc)

def lkV (o : Option DF) : Value := match o with
  | some d => .tuple #[.int .i64 (d.1.1 : Int), .int .i64 (d.1.2 : Int), .bool true]
  | none => .tuple #[.int .i64 0, .int .i64 0, .bool false]

theorem below_put {n0 : Nat} (W : World) (l : Nat) (o' : Obj) (h : n0 ≤ l) (h2 : l < W.heap.size) : Below n0 W (W.putObj l o') := (Below.refl n0 W).grown (grownBy_putObj' W l o') (by omega) (fun k e => by cases e; exact h)
/-- Nothing of the name has come yet. -/
def NoYet (n : BL) (pre : List DF) : Prop := ∀ x ∈ pre, x.2.name ≠ n
/-- What Lookup's loop keeps: its boxes. -/
structure LkI (M : Nat) (n : BL) (ri rk rb : Value) (w0 : World) (W : World) : Prop where
  nm : Row W M 9 [.string (ba n)]
  r4 : Row W (M + 1) 3 [ri]
  r5 : Row W (M + 1 + 1) 3 [rk]
  r6 : Row W (M + 1 + 1 + 1) 4 [rb]
  b : Below M w0 W
  z : M + 5 ≤ W.heap.size
theorem LkI.turn {M : Nat} {n : BL} {ri rk rb : Value} {w0 W W' : World} {row : Option Nat} (h : LkI M n ri rk rb w0 W) (hg : W.grownBy W' row) (hr : ∀ r, row = some r → M ≤ r ∧ ∃ o : Obj, W.heap[r]? = some o ∧ o.isCells = false) (hM : M ≤ w0.heap.size) : LkI M n ri rk rb w0 W' :=
  ⟨row_turn h.nm hg (fun r e => (hr r e).2), row_turn h.r4 hg (fun r e => (hr r e).2), row_turn h.r5 hg (fun r e => (hr r e).2), row_turn h.r6 hg (fun r e => (hr r e).2), h.b.grown hg (Nat.le_trans hM h.b.size) (fun k e => (hr k e).1), Nat.le_trans h.z hg.size⟩
theorem LkI.alloc {M : Nat} {n : BL} {ri rk rb : Value} {w0 W : World} (h : LkI M n ri rk rb w0 W) (hM : M ≤ w0.heap.size) (o : Obj) : LkI M n ri rk rb w0 (W.alloc o) :=
  h.turn (World.grownBy_alloc W o none) (fun r e => by cases e) hM

theorem LkI.puts {M : Nat} {n : BL} {ri rk rb : Value} {w0 W : World} (h : LkI M n ri rk rb w0 W) (a b c : Value) : LkI M n a b c w0 (((W.setCell ⟨M + 1, 0, none⟩ a).setCell ⟨M + 1 + 1, 0, none⟩ b).setCell ⟨M + 1 + 1 + 1, 0, none⟩ c) := by
  refine ⟨?_, ?_, ?_, ?_, ?_, ?_⟩
  · exact ((h.nm.other (a := ⟨M + 1, 0, none⟩) (by simp) a).other (a := ⟨M + 1 + 1, 0, none⟩) (by show M ≠ M + 1 + 1; omega) b).other (a := ⟨M + 1 + 1 + 1, 0, none⟩) (by show M ≠ M + 1 + 1 + 1; omega) c
  · exact ((h.r4.set 0 a).other (a := ⟨M + 1 + 1, 0, none⟩) (by simp) b).other (a := ⟨M + 1 + 1 + 1, 0, none⟩) (by show M + 1 ≠ M + 1 + 1 + 1; omega) c
  · exact ((h.r5.other (a := ⟨M + 1, 0, none⟩) (by simp) a).set 0 b).other (a := ⟨M + 1 + 1 + 1, 0, none⟩) (by simp) c
  · exact ((h.r6.other (a := ⟨M + 1, 0, none⟩) (by show M + 1 + 1 + 1 ≠ M + 1; omega) a).other (a := ⟨M + 1 + 1, 0, none⟩) (by simp) b).set 0 c
  · exact bset (bset (bset h.b (by omega) _) (by omega) _) (by omega) _
  · simpa using h.z
theorem LkI.drew {M : Nat} {n : BL} {ri rk rb : Value} {w0 W : World} (h : LkI M n ri rk rb w0 W) : LkI M n ri rk rb w0 W.drew := ⟨h.nm.drew, h.r4.drew, h.r5.drew, h.r6.drew, h.b.drew, h.z⟩
theorem puts_keep (W : World) (B : Nat) (p q r : Addr) (a b c : Value) : KeepsOthers W (((W.setCell p a).setCell q b).setCell r c) := ((KeepsOthers.setCell W p a).trans (KeepsOthers.setCell _ q b)).trans (KeepsOthers.setCell _ r c)

def lkA (a : Option Addr) (len cap M : Nat) (n : ByteArray) (B1 B2 : Nat) (d : DF) : Act := { tmps := #[.slice a len cap, .string n, undef, .pointer (some ⟨M, 0, none⟩), .pointer (some ⟨M + 1, 0, none⟩), .pointer (some ⟨M + 1 + 1, 0, none⟩), .pointer (some ⟨M + 1 + 1 + 1, 0, none⟩), .pointer (some ⟨B1, 0, none⟩), .pointer (some ⟨B2, 0, none⟩), .slice a len cap, .func (.func 28) #[] #[.pointer (some ⟨M + 1 + 1 + 1 + 1, 0, none⟩)], .agg #[.int .i64 (d.1.1 : Int), .int .i64 (d.1.2 : Int)], syV d.2, undef, undef, undef, undef, undef, undef, undef, undef], defers := [] }
structure LkX (a : Option Addr) (len cap M : Nat) (n : ByteArray) (d : DF) (a' : Act) (W : World) : Prop where
  ex : ∃ B1 B2, M + 5 ≤ B1 ∧ M + 5 ≤ B2 ∧ Row W B1 58 [.int .i64 (d.1.1 : Int), .int .i64 (d.1.2 : Int)] ∧ Row W B2 48 (syC d.2) ∧ a' = lkA a len cap M n B1 B2 d

theorem look_hit {os : List OS} {n : BL} {pre : List DF} {d : DF} (hp : pre ++ [d] <+: defsL os) (hno : NoYet n pre) (h : d.2.name = n) : lookL os n = some d := by
  obtain ⟨t, e⟩ := hp
  unfold lookL
  rw [← e, List.append_assoc, List.find?_append]
  have : pre.find? (fun d => decide (d.2.name = n)) = none := by
    rw [List.find?_eq_none]; intro x hx; simpa using hno x hx
  rw [this]
  simp [h]
theorem look_none {os : List OS} {n : BL} (hno : NoYet n (defsL os)) : lookL os n = none := by
  unfold lookL
  rw [List.find?_eq_none]; intro x hx; simpa using hno x hx

theorem look_end {M D : Nat} {n : BL} {w0 W : World} {o : Option DF} {tm : Array Value} (hK : W.heap[D]? = some (.deferred (some [])))
    (hT : match o with | some d => LkI M n (.int .i64 (d.1.1 : Int)) (.int .i64 (d.1.2 : Int)) (.bool true) w0 (W.putObj D (.deferred none)) | none => LkI M n (.int .i64 0) (.int .i64 0) (.bool false) w0 (W.putObj D (.deferred none))) (hM : M = w0.heap.size)
    (h4 : tm[4]? = some (.pointer (some ⟨M + 1, 0, none⟩))) (h5 : tm[5]? = some (.pointer (some ⟨M + 1 + 1, 0, none⟩))) (h6 : tm[6]? = some (.pointer (some ⟨M + 1 + 1 + 1, 0, none⟩))) :
    bodyPostM Fence.wide 9 Try.prog Try.f11 (fun e w' => e = .returned (lkV o) ∧ Below w0.heap.size w0 w') Exit.ret { tmps := tm, defers := [{ target := .collected D, args := #[] }] } W := by
  refine ⟨by simp, .inl ⟨_, _, rfl, run_takeDeferred hK, ?_⟩⟩

  cases o with
  | none =>
    have k4 := hT.r4.cell 0 (by simp)
    have k5 := hT.r5.cell 0 (by simp)
    have k6 := hT.r6.cell 0 (by simp)
    simp only [List.getElem_cons_zero] at k4 k5 k6
    exact ⟨_, by simp [results, Try.f11, Try.results11, go_sem, h4, h5, h6, k4, k5, k6, lkV], rfl, hM ▸ hT.b⟩
  | some d =>
    have k4 := hT.r4.cell 0 (by simp)
    have k5 := hT.r5.cell 0 (by simp)
    have k6 := hT.r6.cell 0 (by simp)
    simp only [List.getElem_cons_zero] at k4 k5 k6
    exact ⟨_, by simp [results, Try.f11, Try.results11, go_sem, h4, h5, h6, k4, k5, k6, lkV], rfl, hM ▸ hT.b⟩

set_option maxHeartbeats 4000000 in
theorem lookup_any (a : Option Addr) (len cap : Nat) (xs : List OB) (n : ByteArray) (w : World) (hO : Objs w a len xs) (hl : len ≤ 1000000000000) (hsn : ∀ x ∈ xs, x.sn ≤ 4000000000000) :
    Calls Try.prog 11 #[.slice a len cap, .string n] w fun e w' => e = .returned (lkV (lookL (osL xs) n.data.toList)) ∧ Below w.heap.size w w' := by
  refine (callsIn_wide (n := 9)).1 ?_
  refine callsIn_of_wp_marks Try.func11 rfl trivial ?_ rfl
  simp only [Try.ntmps11, List.size_toArray, List.length_cons, List.length_nil, Nat.reduceAdd, Nat.reduceSub, Array.replicate_succ, Array.replicate_zero, List.push_toArray, List.append_toArray, List.nil_append, List.cons_append]
  refine wpIn_wide.2 ?_
  go_wp2_with fail
  refine (definitions_any _ _ rfl ⟨_, _, _, rfl⟩).mono ?_
  rintro e' w2 ⟨rfl, hw2⟩
  have hM : Below w.heap.size w w2 := by rw [hw2]; exact ((((bal _).alloc (by simp) _).alloc (by simp; omega) _).alloc (by simp; omega) _).alloc (by simp; omega) _
  have hs2 : w2.heap.size = w.heap.size + 5 := by rw [hw2]; simp
  have hI0 : LkI w.heap.size n.data.toList (.int .i64 0) (.int .i64 0) (.bool false) w w2 := by
    refine ⟨?_, ?_, ?_, ?_, hM, by omega⟩
    · rw [hw2]; exact ((((Row.new w _ _).alloc _).alloc _).alloc _).alloc _
    · rw [hw2]
      have := Row.new (w.alloc (.cells #[.string n] 9)) 3 [.int .i64 0]
      simp only [World.size_alloc] at this
      exact ((this.alloc _).alloc _).alloc _
    · rw [hw2]
      have := Row.new ((w.alloc (.cells #[.string n] 9)).alloc (.cells #[.int .i64 0] 3)) 3 [.int .i64 0]
      simp only [World.size_alloc] at this
      exact (this.alloc _).alloc _
    · rw [hw2]
      have := Row.new (((w.alloc (.cells #[.string n] 9)).alloc (.cells #[.int .i64 0] 3)).alloc (.cells #[.int .i64 0] 3)) 4 [.bool false]
      simp only [World.size_alloc] at this
      exact this.alloc _
  have hrB : Row w2 (w.heap.size + 1 + 1 + 1 + 1) 22 [.slice a len cap] := by
    rw [hw2]
    have := Row.new ((((w.alloc (.cells #[.string n] 9)).alloc (.cells #[.int .i64 0] 3)).alloc (.cells #[.int .i64 0] 3)).alloc (.cells #[.bool false] 4)) 22 [.slice a len cap]
    simp only [World.size_alloc] at this
    exact this
  simp only [World.size_alloc]
  clear hw2
  go_wp2_with fail
  refine wp_range_in (α := DF) (gf := 28) (lb := #[.pointer (some ⟨w.heap.size + 1 + 1 + 1 + 1, 0, none⟩)]) rfl (enters_of Try.func28 (by kernel_rfl) rfl)
    (definitions_seq a len cap xs _ w w2 hO hl hsn hM hrB) (fun r e => by cases e) (fun A B C h k => h.trans k) (fun W l o' h1 h2 => below_put W l o' (by omega) h2) (fun _ => rfl)
    (fun pre W => NoYet n.data.toList pre ∧ LkI w.heap.size n.data.toList (.int .i64 0) (.int .i64 0) (.bool false) w W)
    (fun c pre W => c = .ret ∧ ∃ e d, pre = e ++ [d] ∧ NoYet n.data.toList e ∧ d.2.name = n.data.toList ∧ LkI w.heap.size n.data.toList (.int .i64 (d.1.1 : Int)) (.int .i64 (d.1.2 : Int)) (.bool true) w W)
    (LkX a len cap w.heap.size n) ?hI ?hIx ?hIr ?hIxr ?hAx ⟨fun x hx => by simp at hx, hI0⟩ ?assign ?body ?done ?stop
  case hI =>
    rintro s A C row ⟨hno, hi⟩ hg hr
    exact ⟨hno, hi.turn hg (fun r e => ⟨by have := (hr r e).1; omega, (hr r e).2⟩) (Nat.le_refl _)⟩
  case hIx =>
    rintro c s A C row ⟨hc, e, d, h1, h2, h3, hi⟩ hg hr
    exact ⟨hc, e, d, h1, h2, h3, hi.turn hg (fun r e => ⟨by have := (hr r e).1; omega, (hr r e).2⟩) (Nat.le_refl _)⟩
  case hIr =>
    rintro s A C ⟨hno, hi⟩ hg
    exact ⟨hno, hi.turn hg (fun r e => by cases e) (Nat.le_refl _)⟩
  case hIxr =>
    rintro c s A C ⟨hc, e, d, h1, h2, h3, hi⟩ hg
    exact ⟨hc, e, d, h1, h2, h3, hi.turn hg (fun r e => by cases e) (Nat.le_refl _)⟩
  case hAx =>
    rintro x a' s A C row ⟨B1, B2, h1, h2, r1, r2, e⟩ hg hr
    exact ⟨B1, B2, h1, h2, row_turn r1 hg (fun r e => (hr r e).2), row_turn r2 hg (fun r e => (hr r e).2), e⟩
  case assign =>
    intro l pre x W K hi hN hK
    simp only [dfV, syV]
    gi_wp2
    refine hK _ _ (((KeepsOthers.alloc W _).trans (KeepsOthers.alloc _ _)).from _) (((Below.refl w.heap.size W).alloc (by have := hi.2.z; omega) _).alloc (by have := hi.2.z; simp only [World.size_alloc]; omega) _) ⟨hi.1, (hi.2.alloc (Nat.le_refl _) _).alloc (Nat.le_refl _) _⟩ ⟨W.heap.size, W.heap.size + 1, by have := hi.2.z; omega, by have := hi.2.z; omega, ?_, ?_, rfl⟩
    · exact (Row.new W _ _).alloc _
    · have := Row.new (W.alloc (.cells #[.int .i64 (x.1.1 : Int), .int .i64 (x.1.2 : Int)] 58)) 48 (syC x.2)
      rw [World.size_alloc] at this
      exact this
  case body =>
    rintro l pre x a' W ⟨hno, hi⟩ ⟨B1, B2, h1, h2, r1, r2, rfl⟩ hN
    have hq := ba_beq2 x.2.name n.data.toList
    have c1 := r2.cell 0 (by simp [syC])
    have c2 := hi.nm.cell 0 (by simp)
    have p0 := r1.cell 0 (by simp)
    have p1 := r1.cell 1 (by simp)
    simp only [syC, List.getElem_cons_zero, List.getElem_cons_succ] at c1 c2 p0 p1
    have k4 := hi.r4.cell 0 (by simp)
    have k5 := hi.r5.cell 0 (by simp)
    have k6 := hi.r6.cell 0 (by simp)
    simp only [List.getElem_cons_zero] at k4 k5 k6
    have f4 := hi.r4.frozen 0
    have f5 := hi.r5.frozen 0
    have f6 := hi.r6.frozen 0
    have l4 := hi.r4.lt
    have l5 := hi.r5.lt
    have l6 := hi.r6.lt
    have HI := hid hi
    have HNO := hid hno
    have HMZ := hid (show w.heap.size + 5 ≤ w2.heap.size by omega)
    clear hI0 hrB hi hno r1 r2
    unfold lkA
    by_cases hn : x.2.name = n.data.toList
    · rw [decide_eq_true hn] at hq
      have HN := hid hn
      clear hn
      simp only [syV]
      gi_wp2_with fail
      gi_region_with (fail)
      all_goals gi_wp2_with fail
      all_goals exact ⟨((puts_keep W 0 _ _ _ _ _ _).trans (KeepsOthers.drew _)).from _, rfl, pre, x, rfl, HNO.out, HN.out, (HI.out.puts _ _ _).drew⟩
    · rw [decide_eq_false hn] at hq
      have HN := hid hn
      clear hn
      simp only [syV]
      gi_wp2_with fail
      refine ⟨KeepsFrom.refl _ _, Below.refl _ _, fun y hy => ?_, HI.out⟩
      rcases List.mem_append.1 hy with hy | hy
      · exact HNO.out y hy
      · rw [List.mem_singleton.1 hy]; exact HN.out
  case done =>
    rintro ys W rfl ⟨hno, hi⟩ hK
    have HF := hid (look_none hno)
    have k4 := hi.r4.cell 0 (by simp)
    have k5 := hi.r5.cell 0 (by simp)
    have k6 := hi.r6.cell 0 (by simp)
    simp only [List.getElem_cons_zero] at k4 k5 k6
    have f4 := hi.r4.frozen 0
    have f5 := hi.r5.frozen 0
    have f6 := hi.r6.frozen 0
    have l4 := hi.r4.lt
    have l5 := hi.r5.lt
    have l6 := hi.r6.lt
    have HI := hid hi
    have HK := hid hK
    clear hI0 hrB hi hno
    go_wp2_with fail
    have hK2 := (puts_keep W 0 ⟨w.heap.size + 1, 0, none⟩ ⟨w.heap.size + 1 + 1, 0, none⟩ ⟨w.heap.size + 1 + 1 + 1, 0, none⟩ (.int .i64 0) (.int .i64 0) (.bool false)).same _ _ HK.out rfl
    have HT := ((HI.out.puts (.int .i64 0) (.int .i64 0) (.bool false)).turn (grownBy_putObj' _ w2.heap.size (.deferred none)) (fun r e => by cases e; exact ⟨by omega, _, hK2, rfl⟩) (Nat.le_refl _))
    rw [HF.out]
    exact look_end hK2 HT rfl rfl rfl rfl
  case stop =>
    rintro c pre W hp ⟨rfl, e, d, rfl, hno, hn, hi⟩ hK
    have HF := hid (look_hit hp hno hn)
    have k4 := hi.r4.cell 0 (by simp)
    have k5 := hi.r5.cell 0 (by simp)
    have k6 := hi.r6.cell 0 (by simp)
    simp only [List.getElem_cons_zero] at k4 k5 k6
    have HI := hid hi
    have HK := hid hK
    clear hI0 hrB hi
    go_wp2_with fail
    have HT := HI.out.turn (grownBy_putObj' _ w2.heap.size (.deferred none)) (fun r e => by cases e; exact ⟨by omega, _, HK.out, rfl⟩) (Nat.le_refl _)
    rw [HF.out]
    exact look_end (o := some d) HK.out HT rfl rfl rfl rfl
end Go.Proofs.Ytblefgkhikfmhaa
