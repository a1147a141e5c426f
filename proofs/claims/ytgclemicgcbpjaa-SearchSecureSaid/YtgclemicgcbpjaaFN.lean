/- VfsNil: the walk; its arguments opened. -/
import Derived.Test.YtgclemicgcbpjaaFW
import Derived.Test.YtgclemicgcbpjaaVOm
import Derived.Test.YtgclemicgcbpjaaOA
namespace Go.Proofs.Ytgclemicgcbpjaa
open Go.ChangeShapes Go.WideShapes Go.ChangeAt Go.RowKit Go.Sort

theorem Row.three {w : World} {g : Nat} {E : TypeId} {a b c : Value} (h : Row w g E [a, b, c]) : w.cell? ⟨g, 0, none⟩ = some a ∧ w.cell? ⟨g, 1, none⟩ = some b ∧ w.cell? ⟨g, 2, none⟩ = some c := ⟨h.cell 0 (by simp), h.cell 1 (by simp), h.cell 2 (by simp)⟩
def smallB (len : Nat) (p : ByteArray) : Bool := decide (len ≤ 1024) && decide (p.size ≤ 4096)
theorem small_any (u e s g : Int) (a : Option Addr) (len cap : Nat) (p : ByteArray) (w : World) :
    Calls Try.prog 11 #[credV u e s g a len cap, .string p] w fun e' w' => e' = .returned (.bool (smallB len p)) ∧ Below w.heap.size w w' := by
  have HB := hid (show Below w.heap.size w (w.alloc (.cells #[.int .u32 u, .int .u32 e, .int .u32 s, .int .u32 g, .slice a len cap] 25)) from bal _)
  unfold smallB
  cases h1 : decide (len ≤ 1024)
  · have d1 : decide ((len : Int) ≤ 1024) = false := by simp at h1 ⊢; omega
    clear h1
    go_enter Try.func11, Try.ntmps11
    go_wp2_with fail
    go_ret
    exact ⟨rfl, HB.out⟩
  · have d1 : decide ((len : Int) ≤ 1024) = true := by simp at h1 ⊢; omega
    clear h1
    cases h2 : decide (p.size ≤ 4096)
    · have d2 : decide ((p.size : Int) ≤ 4096) = false := by simp at h2 ⊢; omega
      clear h2
      go_enter Try.func11, Try.ntmps11
      go_wp2_with fail
      go_ret
      exact ⟨rfl, HB.out⟩
    · have d2 : decide ((p.size : Int) ≤ 4096) = true := by simp at h2 ⊢; omega
      clear h2
      go_enter Try.func11, Try.ntmps11
      go_wp2_with fail
      go_ret
      exact ⟨rfl, HB.out⟩

theorem meta_eq0 (w : World) : (binOp .eql 37 (.agg #[.int .u8 0, .int .u16 0, .int .u32 0, .int .u32 0, .int .i64 0]) (.agg #[.int .u8 0, .int .u16 0, .int .u32 0, .int .u32 0, .int .i64 0])).run Try.prog w = .ok (.bool true) w := by kernel_rfl

set_option maxRecDepth 100000 in
set_option maxHeartbeats 4000000 in
theorem vfsNil_walk (u e s g : Int) (a : Option Addr) (len cap : Nat) (from_ : Int) (p : ByteArray) (last : Bool) (x y : Int) (w : World) :
    Calls Try.prog 3 #[credV u e s g a len cap, .agg #[.int .i64 from_, .string p, .bool last], .agg #[.int .i64 x, .int .i64 y]] w fun e' w' => e' = .returned (.bool true) ∧ Below w.heap.size w w' := by
  obtain ⟨W0, hW0⟩ : ∃ W0, W0 = ((w.alloc (.cells #[.int .u32 u, .int .u32 e, .int .u32 s, .int .u32 g, .slice a len cap] 25)).alloc (.cells #[.int .i64 from_, .string p, .bool last] 27)).alloc (.cells #[.int .i64 x, .int .i64 y] 28) := ⟨_, rfl⟩
  have hb : Below w.heap.size w W0 := by rw [hW0]; exact ((bal _).alloc (by simp) _).alloc (by simp; omega) _
  have hr1 : Row W0 w.heap.size 25 [.int .u32 u, .int .u32 e, .int .u32 s, .int .u32 g, .slice a len cap] := by
    rw [hW0]; exact ((Row.new w 25 [.int .u32 u, .int .u32 e, .int .u32 s, .int .u32 g, .slice a len cap]).alloc _).alloc _
  have hr2 : Row W0 (w.heap.size + 1) 27 [.int .i64 from_, .string p, .bool last] := by
    have := (Row.new (w.alloc (.cells #[.int .u32 u, .int .u32 e, .int .u32 s, .int .u32 g, .slice a len cap] 25)) 27 [.int .i64 from_, .string p, .bool last]).alloc (.cells #[.int .i64 x, .int .i64 y] 28)
    rw [World.size_alloc] at this
    rw [hW0]; exact this
  have hr3 : Row W0 (w.heap.size + 1 + 1) 28 [.int .i64 x, .int .i64 y] := by
    have := Row.new ((w.alloc (.cells #[.int .u32 u, .int .u32 e, .int .u32 s, .int .u32 g, .slice a len cap] 25)).alloc (.cells #[.int .i64 from_, .string p, .bool last] 27)) 28 [.int .i64 x, .int .i64 y]
    rw [World.size_alloc, World.size_alloc] at this
    rw [hW0]; exact this
  have HB0 := hid hb
  have HR1 := hid hr1
  have HR2 := hid hr2
  have HR3 := hid hr3
  clear hb
  go_enter Try.func3, Try.ntmps3
  go_wp2_with fail
  rw [← hW0]
  clear hW0
  refine (small_any u e s g a len cap p W0).mono ?_
  rintro e' w1 ⟨rfl, hb⟩
  have HB1 := hid (HB0.out.trans (hb.mono HB0.out.size))
  have HR1 := hid (HR1.out.below hb HR1.out.lt)
  have HR2 := hid (HR2.out.below hb HR2.out.lt)
  have HR3 := hid (HR3.out.below hb HR3.out.lt)
  clear hb hr1 hr2 hr3
  cases smallB len p
  · go_wp2_with fail
    refine (works06_any _).mono ?_
    rintro e' w2 ⟨rfl, hb⟩
    have HB2 := hid (HB1.out.trans (hb.mono HB1.out.size))
    clear hb
    go_wp2_with fail
    go_ret
    exact ⟨rfl, HB2.out⟩
  · obtain ⟨c0, c1, c2, c3, c4⟩ := HR1.out.five
    obtain ⟨d0, d1, d2⟩ := HR2.out.three
    have hl1 := HR1.out.lt
    have hl2 := HR2.out.lt
    go_wp2_with fail
    refine (walk_none u e s g from_ a len cap p last w1).mono ?_
    rintro e' w2 ⟨rfl, hb⟩
    have HB2 := hid (HB1.out.trans (hb.mono HB1.out.size))
    have HR2 := hid (HR2.out.below hb HR2.out.lt)
    have HR3 := hid (HR3.out.below hb HR3.out.lt)
    clear hb c0 c1 c2 c3 c4 d0 d1 d2 hl1 hl2
    obtain ⟨d0, d1, d2⟩ := HR2.out.three
    have hl2 := HR2.out.lt
    go_wp2_with fail
    refine (meta_none from_ w2).mono ?_
    rintro e' w3 ⟨rfl, hb⟩
    have HB3 := hid (HB2.out.trans (hb.mono HB2.out.size))
    have HB3a := hid (HB3.out.alloc HB3.out.size (.cells #[.int .u8 0, .int .u16 0, .int .u32 0, .int .u32 0, .int .i64 0] 37))
    have hr2 := HR2.out.below hb HR2.out.lt
    have hr3 := HR3.out.below hb HR3.out.lt
    obtain ⟨f0, f1, f2⟩ := hr2.three
    obtain ⟨g0, g1⟩ := hr3.two
    have hl4 := hr2.lt
    have hl5 := hr3.lt
    have HM := hid (Row.new w3 37 [.int .u8 0, .int .u16 0, .int .u32 0, .int .u32 0, .int .i64 0])
    have hmeq := meta_eq0
    clear hb d0 d1 d2 hl2
    go_wp2_with fail
    refine (read_none from_ x y _).mono ?_
    rintro e' w4 ⟨rfl, rfl⟩
    go_wp2_with fail
    refine (path_none from_ _).mono ?_
    rintro e' w5 ⟨rfl, rfl⟩
    go_wp2_with fail
    refine (works06_any _).mono ?_
    rintro e' w6 ⟨rfl, hb⟩
    have HB6 := hid (HB3a.out.trans (hb.mono HB3a.out.size))
    clear hb
    go_wp2_with fail
    go_ret
    exact ⟨rfl, HB6.out⟩

theorem leavesWay : leaves Try.prog 2 27 = [(0, 3), (1, 9), (2, 4)] := by kernel_rfl
theorem cellsWay : Try.prog.cellsOf 27 = 3 := by kernel_rfl
theorem reach_is : reachBytes = 140737488351232 := rfl
section
variable {H : Type} {enc : TypeId × Value → H} {w : World} {held : Bool}
theorem leaf_int {P : Program} {sp : Nat → Bool} {m : Nat} {u : TypeId} {k : IntKind} {v : Value} {y : DataW H × List MemPlace} (ht : P.underlying u = some (.int k)) (h : DataW.trod enc P w 0 sp held m u [v] = some y) : ∃ i, v = .int k i ∧ (Lit.int k i).wf = true := by
  obtain ⟨x, e, _, hw⟩ := DataW.trod_int ht h
  simp only [List.cons.injEq, and_true] at e
  exact ⟨x, e, hw⟩
theorem leaf_bool {P : Program} {sp : Nat → Bool} {m : Nat} {u : TypeId} {v : Value} {y : DataW H × List MemPlace} (ht : P.underlying u = some .bool) (h : DataW.trod enc P w 0 sp held m u [v] = some y) : ∃ b, v = .bool b := by
  obtain ⟨x, e, _⟩ := DataW.trod_bool ht h
  simp only [List.cons.injEq, and_true] at e
  exact ⟨x, e⟩
theorem leaf_string {P : Program} {sp : Nat → Bool} {N m : Nat} {u : TypeId} {v : Value} {y : DataW H × List MemPlace} (ht : P.underlying u = some .string) (h : DataW.trod enc P w 0 sp held m u [v] = some y) (hs : Small P N u y.1) : ∃ l : BL, v = .string (ba l) ∧ l.length ≤ N := by
  obtain ⟨s, e, hx, _⟩ := DataW.trod_string ht h
  simp only [List.cons.injEq, and_true] at e
  refine ⟨s.data.toList, e, ?_⟩
  subst hx
  exact hs _ (by simp [DataW.weights])
set_option maxRecDepth 100000 in
theorem open_way {r : Reach} {b0 : Nat} {v : Value} {d : DataW H} {ps : List MemPlace} (hv : Value.okWide Try.prog w r b0 27 v) (h : DataW.Trod enc Try.prog w 0 (fun _ => true) held 27 v d ps) (hz : (d.weights Try.prog 27).all (· ≤ reachBytes) = true) :
    ∃ (f : Int) (p : BL) (l : Bool), v = .agg #[.int .i64 f, .string (ba p), .bool l] ∧ p.length ≤ 140737488351232 := by
  obtain ⟨cs, rfl, hsz, hc⟩ := open_agg (n := 2) Try.underlying27 hv h (small_of hz)
  rw [cellsWay] at hsz
  rw [leavesWay] at hc
  obtain ⟨l, hl⟩ : ∃ l, cs = ⟨l⟩ := ⟨cs.toList, rfl⟩
  subst hl
  match l, hsz with
  | [v0, v1, v2], _ =>
    obtain ⟨m0, y0, t0, s0⟩ := hc 0 3 (by simp) (by kernel_rfl) (by simp)
    obtain ⟨m1, y1, t1, s1⟩ := hc 1 9 (by simp) (by kernel_rfl) (by simp)
    obtain ⟨m2, y2, t2, s2⟩ := hc 2 4 (by simp) (by kernel_rfl) (by simp)
    obtain ⟨x0, rfl, _⟩ := leaf_int Try.underlying3 t0
    obtain ⟨x1, rfl, hx1⟩ := leaf_string Try.underlying9 t1 s1
    obtain ⟨x2, rfl⟩ := leaf_bool Try.underlying4 t2
    exact ⟨x0, x1, x2, rfl, by rw [reach_is] at hx1; exact hx1⟩
end
end Go.Proofs.Ytgclemicgcbpjaa
