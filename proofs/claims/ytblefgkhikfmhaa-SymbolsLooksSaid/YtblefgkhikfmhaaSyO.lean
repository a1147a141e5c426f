/- Objects as arguments. -/
import Derived.Test.YtblefgkhikfmhaaSyR
import Derived.Test.YtblefgkhikfmhaaLF
import Derived.Test.YtblefgkhikfmhaaO7
namespace Go.Proofs.Ytblefgkhikfmhaa
open Go.ChangeShapes Go.WideShapes Go.ChangeAt Go.RowKit Go.Sort

theorem own : ownKnob Try.prog.godebug = none := by kernel_rfl
theorem laidOut : laidOutB Try.prog = true := by kernel_rfl

theorem list_of {α : Type} (P : Nat → α → Prop) : ∀ n, (∀ i, i < n → ∃ x, P i x) → ∃ l : List α, l.length = n ∧ ∀ i (hi : i < l.length), P i l[i]
  | 0, _ => ⟨[], rfl, fun i hi => by simp at hi⟩
  | n + 1, h => by
    obtain ⟨l, hl, hp⟩ := list_of P n (fun i hi => h i (by omega))
    obtain ⟨x, hx⟩ := h n (by omega)
    refine ⟨l ++ [x], by simp [hl], fun i hi => ?_⟩
    by_cases e : i < l.length
    · rw [List.getElem_append_left e]; exact hp i e
    · have : i = n := by simp at hi; omega
      subst this
      rw [List.getElem_append_right (by omega)]
      simp [hl]
      exact hx

section
variable {H : Type} {enc : TypeId × Value → H} {P : Program} {w : World} {held : Bool}
theorem leaf_int {sp : Nat → Bool} {m : Nat} {u : TypeId} {k : IntKind} {v : Value} {y : DataW H × List MemPlace} (ht : P.underlying u = some (.int k)) (h : DataW.trod enc P w 0 sp held m u [v] = some y) : ∃ i, v = .int k i ∧ (Lit.int k i).wf = true := by
  obtain ⟨x, e, _, hw⟩ := DataW.trod_int ht h
  simp only [List.cons.injEq, and_true] at e
  exact ⟨x, e, hw⟩
theorem leaf_bool {sp : Nat → Bool} {m : Nat} {u : TypeId} {v : Value} {y : DataW H × List MemPlace} (ht : P.underlying u = some .bool) (h : DataW.trod enc P w 0 sp held m u [v] = some y) : ∃ b, v = .bool b := by
  obtain ⟨x, e, _⟩ := DataW.trod_bool ht h
  simp only [List.cons.injEq, and_true] at e
  exact ⟨x, e⟩
theorem leaf_string {sp : Nat → Bool} {N m : Nat} {u : TypeId} {v : Value} {y : DataW H × List MemPlace} (ht : P.underlying u = some .string) (h : DataW.trod enc P w 0 sp held m u [v] = some y) (hs : Small P N u y.1) : ∃ l : BL, v = .string (ba l) ∧ l.length ≤ N := by
  obtain ⟨s, e, hx, _⟩ := DataW.trod_string ht h
  simp only [List.cons.injEq, and_true] at e
  refine ⟨s.data.toList, e, ?_⟩
  subst hx
  exact hs _ (by simp [DataW.weights])
theorem leaf_slice {N m : Nat} {u e : TypeId} {v : Value} {y : DataW H × List MemPlace} (ht : P.underlying u = some (.slice e)) (h : DataW.trod enc P w 0 (fun _ => true) held m u [v] = some y) (hs : Small P N u y.1) (hpos : 0 < P.cellsOf e) : ∃ a n c, v = .slice a n c := by
  obtain ⟨a, n, c, e, _⟩ := open_rows (n := 0) ht h hs hpos
  exact ⟨a, n, c, e⟩
end

theorem leavesSym : leaves Try.prog 2 48 = [(0, 9), (1, 38), (2, 38), (3, 5), (4, 4)] := by kernel_rfl
theorem leavesObj : leaves Try.prog 3 44 = [(0, 3), (1, 38), (2, 39), (3, 38), (4, 38), (5, 40), (6, 28), (7, 9), (8, 9), (9, 34), (10, 35)] := by kernel_rfl
theorem cellsSym : Try.prog.cellsOf 48 = 5 := by kernel_rfl
theorem cellsObj : Try.prog.cellsOf 44 = 11 := by kernel_rfl
theorem bytesSym : Try.prog.bytesOf 48 = 40 := by kernel_rfl
theorem bytesObj : Try.prog.bytesOf 44 = 168 := by kernel_rfl
theorem reach_is : reachBytes = 140737488351232 := rfl

section
variable {H : Type} {enc : TypeId × Value → H} {w : World} {held : Bool}
theorem open_syms {m : Nat} {v : Value} {y : DataW H × List MemPlace} (h : DataW.trod enc Try.prog w 0 (fun _ => true) held m 34 [v] = some y) (hs : Small Try.prog reachBytes 34 y.1) :
    ∃ a n c, ∃ l : List SY, v = .slice a n c ∧ Rk w 5 a n (l.map syC) ∧ n ≤ 4000000000000 ∧ ∀ s ∈ l, s.name.length ≤ 140737488351232 := by
  obtain ⟨a, n, c, rfl, hnc, _, _, hby, hrow⟩ := open_rows (n := 2) Try.underlying34 h hs (by rw [cellsSym]; omega)
  rw [bytesSym, reach_is] at hby
  rw [leavesSym, cellsSym] at hrow
  obtain ⟨l, hl, hp⟩ := list_of (fun i (s : SY) => ∃ b off, a = some ⟨b, off, none⟩ ∧ (w.cell? ⟨b, off + i * 5 + 0, none⟩ = some (.string (ba s.name)) ∧ w.cell? ⟨b, off + i * 5 + 1, none⟩ = some (.int .u64 s.value) ∧ w.cell? ⟨b, off + i * 5 + 2, none⟩ = some (.int .u64 s.size) ∧ w.cell? ⟨b, off + i * 5 + 3, none⟩ = some (.int .u8 s.bind) ∧ w.cell? ⟨b, off + i * 5 + 4, none⟩ = some (.bool s.dfn)) ∧ s.name.length ≤ 140737488351232) n (fun i hi => by
    obtain ⟨b, off, rfl, hc⟩ := hrow i hi
    obtain ⟨v0, m0, y0, c0, t0, s0⟩ := hc 0 9 (by simp) (by kernel_rfl) (by omega)
    obtain ⟨v1, m1, y1, c1, t1, s1⟩ := hc 1 38 (by simp) (by kernel_rfl) (by omega)
    obtain ⟨v2, m2, y2, c2, t2, s2⟩ := hc 2 38 (by simp) (by kernel_rfl) (by omega)
    obtain ⟨v3, m3, y3, c3, t3, s3⟩ := hc 3 5 (by simp) (by kernel_rfl) (by omega)
    obtain ⟨v4, m4, y4, c4, t4, s4⟩ := hc 4 4 (by simp) (by kernel_rfl) (by omega)
    obtain ⟨x0, rfl, hx0⟩ := leaf_string Try.underlying9 t0 s0
    obtain ⟨x1, rfl, _⟩ := leaf_int Try.underlying38 t1
    obtain ⟨x2, rfl, _⟩ := leaf_int Try.underlying38 t2
    obtain ⟨x3, rfl, _⟩ := leaf_int Try.underlying5 t3
    obtain ⟨x4, rfl⟩ := leaf_bool Try.underlying4 t4
    exact ⟨⟨x0, x1, x2, x3, x4⟩, b, off, rfl, ⟨c0, c1, c2, c3, c4⟩, by rw [reach_is] at hx0; exact hx0⟩)
  refine ⟨a, n, c, l, rfl, ⟨by simp [hl], fun i hi => ?_⟩, by omega, fun s hs => ?_⟩
  · have hi' : i < l.length := by simpa using hi
    obtain ⟨b, off, rfl, ⟨c0, c1, c2, c3, c4⟩, _⟩ := hp i hi'
    have e : (l.map syC)[i] = syC l[i] := by simp
    rw [e]
    refine ⟨rfl, b, off, rfl, fun j hj => ?_⟩
    have hj' : j < 5 := hj
    rcases j with _ | _ | _ | _ | _ | j
    · exact c0
    · exact c1
    · exact c2
    · exact c3
    · exact c4
    · omega
  · obtain ⟨i, hi, rfl⟩ := List.mem_iff_getElem.1 hs
    obtain ⟨_, _, _, _, h9⟩ := hp i hi
    exact h9

/-- What is known of an object's fields. -/
structure OkO (w : World) (x : OB) : Prop where
  syms : Rk w 5 x.sa x.sn (x.sy.map syC)
  sn : x.sn ≤ 4000000000000
  nm : ∀ s ∈ x.sy, s.name.length ≤ 140737488351232
theorem leaves_obj {C : Nat → Value → Prop} (hc : ∀ o u, (o, u) ∈ [(0, 3), (1, 38), (2, 39), (3, 38), (4, 38), (5, 40), (6, 28), (7, 9), (8, 9), (9, 34), (10, 35)] → Try.prog.cellsOf u = 1 → o < 11 →
      ∃ val m y, C o val ∧ DataW.trod enc Try.prog w 0 (fun _ => true) held m u [val] = some y ∧ Small Try.prog reachBytes u y.1) :
    ∃ x : OB, OkO w x ∧ C 0 (.int .i64 x.ino) ∧ C 1 (.int .u64 x.base) ∧ C 2 (.int .u16 x.typ) ∧ C 3 (.int .u64 x.entry) ∧ C 4 (.int .u64 x.phoff) ∧ C 5 (.slice x.ga x.gn x.gc) ∧ C 6 (.slice x.na x.nn x.nc) ∧ C 7 (.string (ba x.soname)) ∧ C 8 (.string (ba x.run)) ∧ C 9 (.slice x.sa x.sn x.sc) ∧ C 10 (.slice x.ra x.rn x.rc) := by
  obtain ⟨v0, m0, y0, c0, t0, s0⟩ := hc 0 3 (by simp) (by kernel_rfl) (by omega)
  obtain ⟨v1, m1, y1, c1, t1, s1⟩ := hc 1 38 (by simp) (by kernel_rfl) (by omega)
  obtain ⟨v2, m2, y2, c2, t2, s2⟩ := hc 2 39 (by simp) (by kernel_rfl) (by omega)
  obtain ⟨v3, m3, y3, c3, t3, s3⟩ := hc 3 38 (by simp) (by kernel_rfl) (by omega)
  obtain ⟨v4, m4, y4, c4, t4, s4⟩ := hc 4 38 (by simp) (by kernel_rfl) (by omega)
  obtain ⟨v5, m5, y5, c5, t5, s5⟩ := hc 5 40 (by simp) (by kernel_rfl) (by omega)
  obtain ⟨v6, m6, y6, c6, t6, s6⟩ := hc 6 28 (by simp) (by kernel_rfl) (by omega)
  obtain ⟨v7, m7, y7, c7, t7, s7⟩ := hc 7 9 (by simp) (by kernel_rfl) (by omega)
  obtain ⟨v8, m8, y8, c8, t8, s8⟩ := hc 8 9 (by simp) (by kernel_rfl) (by omega)
  obtain ⟨v9, m9, y9, c9, t9, s9⟩ := hc 9 34 (by simp) (by kernel_rfl) (by omega)
  obtain ⟨v10, m10, y10, c10, t10, s10⟩ := hc 10 35 (by simp) (by kernel_rfl) (by omega)
  obtain ⟨x0, rfl, _⟩ := leaf_int Try.underlying3 t0
  obtain ⟨x1, rfl, _⟩ := leaf_int Try.underlying38 t1
  obtain ⟨x2, rfl, _⟩ := leaf_int Try.underlying39 t2
  obtain ⟨x3, rfl, _⟩ := leaf_int Try.underlying38 t3
  obtain ⟨x4, rfl, _⟩ := leaf_int Try.underlying38 t4
  obtain ⟨ga, gn, gc, rfl⟩ := leaf_slice Try.underlying40 t5 s5 (by decide +kernel)
  obtain ⟨na, nn, nc, rfl⟩ := leaf_slice Try.underlying28 t6 s6 (by decide +kernel)
  obtain ⟨x7, rfl, _⟩ := leaf_string Try.underlying9 t7 s7
  obtain ⟨x8, rfl, _⟩ := leaf_string Try.underlying9 t8 s8
  obtain ⟨sa, sn, sc, sy, rfl, hsy, hsn, hnm⟩ := open_syms t9 s9
  obtain ⟨ra, rn, rc, rfl⟩ := leaf_slice Try.underlying35 t10 s10 (by decide +kernel)
  exact ⟨{ ino := x0, base := x1, typ := x2, entry := x3, phoff := x4, ga := ga, gn := gn, gc := gc, na := na, nn := nn, nc := nc, nd := [], soname := x7, run := x8, sa := sa, sn := sn, sc := sc, sy := sy, ra := ra, rn := rn, rc := rc, rl := [] }, ⟨hsy, hsn, hnm⟩, c0, c1, c2, c3, c4, c5, c6, c7, c8, c9, c10⟩

theorem open_objs {r : Reach} {b0 : Nat} {v : Value} {d : DataW H} {ps : List MemPlace} (hv : Value.okWide Try.prog w r b0 22 v) (h : DataW.Trod enc Try.prog w 0 (fun _ => true) held 22 v d ps) (hz : (d.weights Try.prog 22).all (· ≤ reachBytes) = true) :
    ∃ a n c, ∃ xs : List OB, v = .slice a n c ∧ Objs w a n xs ∧ n ≤ c ∧ c ≤ 1000000000000 ∧ (∀ x ∈ xs, OkO w x) := by
  obtain ⟨a, n, c, rfl, hnc, _, _, hby, hrow⟩ := open_rows_arg (n := 3) Try.underlying22 hv h (small_of hz) (by rw [cellsObj]; omega)
  rw [bytesObj, reach_is] at hby
  rw [leavesObj, cellsObj] at hrow
  obtain ⟨xs, hl, hp⟩ := list_of (fun i (x : OB) => OkO w x ∧ ∃ b off, a = some ⟨b, off, none⟩ ∧ ∀ j (hj : j < (obC x).length), w.cell? ⟨b, off + i * 11 + j, none⟩ = some (obC x)[j]) n (fun i hi => by
    obtain ⟨b, off, rfl, hc⟩ := hrow i hi
    obtain ⟨x, hx, c0, c1, c2, c3, c4, c5, c6, c7, c8, c9, c10⟩ := leaves_obj (C := fun o val => w.cell? ⟨b, off + i * 11 + o, none⟩ = some val) hc
    refine ⟨x, hx, b, off, rfl, fun j hj => ?_⟩
    have hj' : j < 11 := hj
    rcases j with _ | _ | _ | _ | _ | _ | _ | _ | _ | _ | _ | j
    · exact c0
    · exact c1
    · exact c2
    · exact c3
    · exact c4
    · exact c5
    · exact c6
    · exact c7
    · exact c8
    · exact c9
    · exact c10
    · omega)
  refine ⟨a, n, c, xs, rfl, ⟨⟨by simp [hl], fun i hi => ?_⟩, fun x hx => ?_⟩, hnc, by omega, fun x hx => ?_⟩
  · have hi' : i < xs.length := by simpa using hi
    obtain ⟨_, b, off, rfl, hc⟩ := hp i hi'
    have e : (xs.map obC)[i] = obC xs[i] := by simp
    rw [e]
    exact ⟨rfl, b, off, rfl, hc⟩
  · obtain ⟨i, hi, rfl⟩ := List.mem_iff_getElem.1 hx
    exact (hp i hi).1.syms
  · obtain ⟨i, hi, rfl⟩ := List.mem_iff_getElem.1 hx
    exact (hp i hi).1
end
end Go.Proofs.Ytblefgkhikfmhaa
