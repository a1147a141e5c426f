
/- Stage 17: objects and lists of objects as arguments. -/
import Derived.Test.YtkpopdkkobelaaaLa8
import Derived.Test.YtkpopdkkobelaaaKO
namespace Go.Proofs.Ytkpopdkkobelaaa
open Go.ChangeShapes Go.WideShapes Go.ChangeAt Go.RowKit Go.Sort

theorem own : ownKnob Try.prog.godebug = none := by kernel_rfl
theorem laidOut : laidOutB Try.prog = true := by kernel_rfl

theorem list_of {α : Type} (P : Nat → α → Prop) : ∀ n, (∀ i, i < n → ∃ x, P i x) → ∃ l : List α, l.length = n ∧ ∀ i (hi : i < l.length), P i l[i]
  | 0, _ => ⟨[], rfl, fun i hi => by simp at hi⟩
  | n + 1, h => by
    obtain ⟨l, hl, hp⟩ := list_of P n (fun i hi => h i (by omega))
    obtain ⟨x, hx⟩ := h n (by omega)
    refine ⟨l ++ [x], by simp [hl], fun i hi => ?_⟩
    by_cases e : i < l.length
    · rw [List.getElem_append_left e]; exact hp i e
    · have : i = n := by simp at hi; omega
      subst this
      rw [List.getElem_append_right (by omega)]
      simp [hl]
      exact hx

section
variable {H : Type} {enc : TypeId × Value → H} {P : Program} {w : World} {held : Bool}
theorem leaf_int {sp : Nat → Bool} {m : Nat} {u : TypeId} {k : IntKind} {v : Value} {y : DataW H × List MemPlace} (ht : P.underlying u = some (.int k)) (h : DataW.trod enc P w 0 sp held m u [v] = some y) : ∃ i, v = .int k i ∧ (Lit.int k i).wf = true := by
  obtain ⟨x, e, _, hw⟩ := DataW.trod_int ht h
  simp only [List.cons.injEq, and_true] at e
  exact ⟨x, e, hw⟩
theorem leaf_bool {sp : Nat → Bool} {m : Nat} {u : TypeId} {v : Value} {y : DataW H × List MemPlace} (ht : P.underlying u = some .bool) (h : DataW.trod enc P w 0 sp held m u [v] = some y) : ∃ b, v = .bool b := by
  obtain ⟨x, e, _⟩ := DataW.trod_bool ht h
  simp only [List.cons.injEq, and_true] at e
  exact ⟨x, e⟩
theorem leaf_string {sp : Nat → Bool} {N m : Nat} {u : TypeId} {v : Value} {y : DataW H × List MemPlace} (ht : P.underlying u = some .string) (h : DataW.trod enc P w 0 sp held m u [v] = some y) (hs : Small P N u y.1) : ∃ l : BL, v = .string (ba l) ∧ l.length ≤ N := by
  obtain ⟨s, e, hx, _⟩ := DataW.trod_string ht h
  simp only [List.cons.injEq, and_true] at e
  refine ⟨s.data.toList, e, ?_⟩
  subst hx
  exact hs _ (by simp [DataW.weights])
theorem leaf_slice {N m : Nat} {u e : TypeId} {v : Value} {y : DataW H × List MemPlace} (ht : P.underlying u = some (.slice e)) (h : DataW.trod enc P w 0 (fun _ => true) held m u [v] = some y) (hs : Small P N u y.1) (hpos : 0 < P.cellsOf e) : ∃ a n c, v = .slice a n c := by
  obtain ⟨a, n, c, e, _⟩ := open_rows (n := 0) ht h hs hpos
  exact ⟨a, n, c, e⟩
end


theorem leavesSeg : leaves Try.prog 2 58 = [(0, 56), (1, 5), (2, 22), (3, 22), (4, 22), (5, 22)] := by kernel_rfl
theorem leavesObj : leaves Try.prog 3 33 = [(0, 3), (1, 22), (2, 23), (3, 22), (4, 22), (5, 24), (6, 27), (7, 9), (8, 9), (9, 28), (10, 29)] := by kernel_rfl
theorem cellsSeg : Try.prog.cellsOf 58 = 6 := by kernel_rfl
theorem cellsObj : Try.prog.cellsOf 33 = 11 := by kernel_rfl
theorem bytesSeg : Try.prog.bytesOf 58 = 40 := by kernel_rfl
theorem bytesObj : Try.prog.bytesOf 33 = 168 := by kernel_rfl
theorem reach_is : reachBytes = 140737488351232 := rfl

section
variable {H : Type} {enc : TypeId × Value → H} {w : World} {held : Bool}
theorem open_segs {m : Nat} {v : Value} {y : DataW H × List MemPlace} (h : DataW.trod enc Try.prog w 0 (fun _ => true) held m 24 [v] = some y) (hs : Small Try.prog reachBytes 24 y.1) :
    ∃ a n c, ∃ l : List SG, v = .slice a n c ∧ Sgs w a n l ∧ (∀ s ∈ l, SGok s) ∧ (a = none → c = 0) ∧ n ≤ 3518437208781 := by
  obtain ⟨a, n, c, rfl, hnc, _, hcn, hby, hrow⟩ := open_rows (n := 2) Try.underlying24 h hs (by rw [cellsSeg]; omega)
  rw [bytesSeg, reach_is] at hby
  rw [leavesSeg, cellsSeg] at hrow
  obtain ⟨l, hl, hp⟩ := list_of (fun i (s : SG) => ∃ b off, a = some ⟨b, off, none⟩ ∧ (w.cell? ⟨b, off + i * 6 + 0, none⟩ = some (.int .u32 s.kind) ∧ w.cell? ⟨b, off + i * 6 + 1, none⟩ = some (.int .u8 s.flags) ∧ w.cell? ⟨b, off + i * 6 + 2, none⟩ = some (.int .u64 s.off) ∧ w.cell? ⟨b, off + i * 6 + 3, none⟩ = some (.int .u64 s.addr) ∧ w.cell? ⟨b, off + i * 6 + 4, none⟩ = some (.int .u64 s.fsz) ∧ w.cell? ⟨b, off + i * 6 + 5, none⟩ = some (.int .u64 s.msz)) ∧ SGok s) n (fun i hi => by
    obtain ⟨b, off, rfl, hc⟩ := hrow i hi
    obtain ⟨v0, m0, y0, c0, t0, s0⟩ := hc 0 56 (by simp) (by kernel_rfl) (by omega)
    obtain ⟨v1, m1, y1, c1, t1, s1⟩ := hc 1 5 (by simp) (by kernel_rfl) (by omega)
    obtain ⟨v2, m2, y2, c2, t2, s2⟩ := hc 2 22 (by simp) (by kernel_rfl) (by omega)
    obtain ⟨v3, m3, y3, c3, t3, s3⟩ := hc 3 22 (by simp) (by kernel_rfl) (by omega)
    obtain ⟨v4, m4, y4, c4, t4, s4⟩ := hc 4 22 (by simp) (by kernel_rfl) (by omega)
    obtain ⟨v5, m5, y5, c5, t5, s5⟩ := hc 5 22 (by simp) (by kernel_rfl) (by omega)
    obtain ⟨x0, rfl, w0⟩ := leaf_int Try.underlying56 t0
    obtain ⟨x1, rfl, w1⟩ := leaf_int Try.underlying5 t1
    obtain ⟨x2, rfl, w2⟩ := leaf_int Try.underlying22 t2
    obtain ⟨x3, rfl, w3⟩ := leaf_int Try.underlying22 t3
    obtain ⟨x4, rfl, w4⟩ := leaf_int Try.underlying22 t4
    obtain ⟨x5, rfl, w5⟩ := leaf_int Try.underlying22 t5
    have b0 := bounds_u32 w0
    have b1 := bounds_u8 w1
    have b2 := bounds_u64 w2
    have b3 := bounds_u64 w3
    have b4 := bounds_u64 w4
    have b5 := bounds_u64 w5
    exact ⟨⟨x0, x1, x2, x3, x4, x5⟩, b, off, rfl, ⟨c0, c1, c2, c3, c4, c5⟩, ⟨b0.1, b1.1, by show x1 ≤ 255; omega, b2.1, by show x2 ≤ 18446744073709551615; omega, b3.1, by show x3 ≤ 18446744073709551615; omega, b4.1, by show x4 ≤ 18446744073709551615; omega, b5.1, by show x5 ≤ 18446744073709551615; omega⟩⟩)
  refine ⟨a, n, c, l, rfl, ⟨by simp [hl], fun i hi => ?_⟩, fun s hs => ?_, hcn, by omega⟩
  · have hi' : i < l.length := by simpa using hi
    obtain ⟨b, off, rfl, ⟨c0, c1, c2, c3, c4, c5⟩, _⟩ := hp i hi'
    have e : (l.map sgC)[i] = sgC l[i] := by simp
    rw [e]
    refine ⟨rfl, b, off, rfl, fun j hj => ?_⟩
    have hj' : j < 6 := hj
    rcases j with _ | _ | _ | _ | _ | _ | j
    · exact c0
    · exact c1
    · exact c2
    · exact c3
    · exact c4
    · exact c5
    · omega
  · obtain ⟨i, hi, rfl⟩ := List.mem_iff_getElem.1 hs
    obtain ⟨_, _, _, _, h9⟩ := hp i hi
    exact h9
theorem leaves_lo {C : Nat → Value → Prop} (hc : ∀ o u, (o, u) ∈ [(0, 3), (1, 22), (2, 23), (3, 22), (4, 22), (5, 24), (6, 27), (7, 9), (8, 9), (9, 28), (10, 29)] → Try.prog.cellsOf u = 1 → o < 11 →
      ∃ val m y, C o val ∧ DataW.trod enc Try.prog w 0 (fun _ => true) held m u [val] = some y ∧ Small Try.prog reachBytes u y.1) :
    ∃ x : LO, LOk w x ∧ C 0 (.int .i64 x.ino) ∧ C 1 (.int .u64 x.base) ∧ C 2 (.int .u16 x.typ) ∧ C 3 (.int .u64 x.entry) ∧ C 4 (.int .u64 x.phoff) ∧ C 5 (.slice x.ga x.gn x.gc) ∧ C 6 (.slice x.na x.nn x.nc) ∧ C 7 (.string (ba x.soname)) ∧ C 8 (.string (ba x.run)) ∧ C 9 (.slice x.sa x.sn x.sc) ∧ C 10 (.slice x.ra x.rn x.rc) := by
  obtain ⟨v0, m0, y0, c0, t0, s0⟩ := hc 0 3 (by simp) (by kernel_rfl) (by omega)
  obtain ⟨v1, m1, y1, c1, t1, s1⟩ := hc 1 22 (by simp) (by kernel_rfl) (by omega)
  obtain ⟨v2, m2, y2, c2, t2, s2⟩ := hc 2 23 (by simp) (by kernel_rfl) (by omega)
  obtain ⟨v3, m3, y3, c3, t3, s3⟩ := hc 3 22 (by simp) (by kernel_rfl) (by omega)
  obtain ⟨v4, m4, y4, c4, t4, s4⟩ := hc 4 22 (by simp) (by kernel_rfl) (by omega)
  obtain ⟨v5, m5, y5, c5, t5, s5⟩ := hc 5 24 (by simp) (by kernel_rfl) (by omega)
  obtain ⟨v6, m6, y6, c6, t6, s6⟩ := hc 6 27 (by simp) (by kernel_rfl) (by omega)
  obtain ⟨v7, m7, y7, c7, t7, s7⟩ := hc 7 9 (by simp) (by kernel_rfl) (by omega)
  obtain ⟨v8, m8, y8, c8, t8, s8⟩ := hc 8 9 (by simp) (by kernel_rfl) (by omega)
  obtain ⟨v9, m9, y9, c9, t9, s9⟩ := hc 9 28 (by simp) (by kernel_rfl) (by omega)
  obtain ⟨v10, m10, y10, c10, t10, s10⟩ := hc 10 29 (by simp) (by kernel_rfl) (by omega)
  obtain ⟨x0, rfl, _⟩ := leaf_int Try.underlying3 t0
  obtain ⟨x1, rfl, w1⟩ := leaf_int Try.underlying22 t1
  obtain ⟨x2, rfl, _⟩ := leaf_int Try.underlying23 t2
  obtain ⟨x3, rfl, _⟩ := leaf_int Try.underlying22 t3
  obtain ⟨x4, rfl, _⟩ := leaf_int Try.underlying22 t4
  obtain ⟨ga, gn, gc, sg, rfl, hsg, hok, hgc, hgn⟩ := open_segs t5 s5
  obtain ⟨na, nn, nc, rfl⟩ := leaf_slice Try.underlying27 t6 s6 (by decide +kernel)
  obtain ⟨x7, rfl, _⟩ := leaf_string Try.underlying9 t7 s7
  obtain ⟨x8, rfl, _⟩ := leaf_string Try.underlying9 t8 s8
  obtain ⟨sa, sn, sc, rfl⟩ := leaf_slice Try.underlying28 t9 s9 (by decide +kernel)
  obtain ⟨ra, rn, rc, rfl⟩ := leaf_slice Try.underlying29 t10 s10 (by decide +kernel)
  have b1 := bounds_u64 w1
  exact ⟨{ ino := x0, base := x1, typ := x2, entry := x3, phoff := x4, ga := ga, gn := gn, gc := gc, sg := sg, na := na, nn := nn, nc := nc, soname := x7, run := x8, sa := sa, sn := sn, sc := sc, ra := ra, rn := rn, rc := rc }, ⟨hsg, hok, by show gn ≤ 4000000000000; omega, hgc, b1.1, by show x1 ≤ 18446744073709551615; omega⟩, c0, c1, c2, c3, c4, c5, c6, c7, c8, c9, c10⟩
theorem open_lo {r : Reach} {b0 : Nat} {v : Value} {d : DataW H} {ps : List MemPlace} (hv : Value.okWide Try.prog w r b0 33 v) (h : DataW.Trod enc Try.prog w 0 (fun _ => true) held 33 v d ps) (hz : (d.weights Try.prog 33).all (· ≤ reachBytes) = true) :
    ∃ x : LO, v = loV x ∧ LOk w x := by
  obtain ⟨cs, rfl, hsz, hc⟩ := open_agg (n := 3) Try.underlying33 hv h (small_of hz)
  rw [cellsObj] at hsz
  rw [leavesObj] at hc
  obtain ⟨x, hx, c0, c1, c2, c3, c4, c5, c6, c7, c8, c9, c10⟩ := leaves_lo (C := fun o val => cs[o]? = some val) (fun o u hm hcu ho => by
    obtain ⟨m, y, t, s⟩ := hc o u hm hcu (by omega)
    exact ⟨cs[o]'(by omega), m, y, Array.getElem?_eq_getElem (by omega), t, s⟩)
  refine ⟨x, ?_, hx⟩
  unfold loV
  congr 1
  apply Array.ext_getElem?
  intro i
  rcases i with _ | _ | _ | _ | _ | _ | _ | _ | _ | _ | _ | i
  · exact c0
  · exact c1
  · exact c2
  · exact c3
  · exact c4
  · exact c5
  · exact c6
  · exact c7
  · exact c8
  · exact c9
  · exact c10
  · rw [Array.getElem?_eq_none (by omega), Array.getElem?_eq_none (by simp)]
theorem open_los {r : Reach} {b0 : Nat} {v : Value} {d : DataW H} {ps : List MemPlace} (hv : Value.okWide Try.prog w r b0 35 v) (h : DataW.Trod enc Try.prog w 0 (fun _ => true) held 35 v d ps) (hz : (d.weights Try.prog 35).all (· ≤ reachBytes) = true) :
    ∃ a n c, ∃ xs : List LO, v = .slice a n c ∧ LOs w a n xs ∧ n ≤ c ∧ c ≤ 1000000000000 ∧ (a = none → c = 0) := by
  obtain ⟨a, n, c, rfl, hnc, _, hcn, hby, hrow⟩ := open_rows_arg (n := 3) Try.underlying35 hv h (small_of hz) (by rw [cellsObj]; omega)
  rw [bytesObj, reach_is] at hby
  rw [leavesObj, cellsObj] at hrow
  obtain ⟨xs, hl, hp⟩ := list_of (fun i (x : LO) => LOk w x ∧ ∃ b off, a = some ⟨b, off, none⟩ ∧ ∀ j (hj : j < (loC x).length), w.cell? ⟨b, off + i * 11 + j, none⟩ = some (loC x)[j]) n (fun i hi => by
    obtain ⟨b, off, rfl, hc⟩ := hrow i hi
    obtain ⟨x, hx, c0, c1, c2, c3, c4, c5, c6, c7, c8, c9, c10⟩ := leaves_lo (C := fun o val => w.cell? ⟨b, off + i * 11 + o, none⟩ = some val) hc
    refine ⟨x, hx, b, off, rfl, fun j hj => ?_⟩
    have hj' : j < 11 := hj
    rcases j with _ | _ | _ | _ | _ | _ | _ | _ | _ | _ | _ | j
    · exact c0
    · exact c1
    · exact c2
    · exact c3
    · exact c4
    · exact c5
    · exact c6
    · exact c7
    · exact c8
    · exact c9
    · exact c10
    · omega)
  refine ⟨a, n, c, xs, rfl, ⟨⟨by simp [hl], fun i hi => ?_⟩, fun x hx => ?_⟩, hnc, by omega, hcn⟩
  · have hi' : i < xs.length := by simpa using hi
    have e : (xs.map loC)[i]'hi = loC (xs[i]'hi') := List.getElem_map ..
    rw [e]
    obtain ⟨_, b, off, rfl, hc⟩ := hp i hi'
    exact ⟨rfl, b, off, rfl, hc⟩
  · obtain ⟨i, hi, rfl⟩ := List.mem_iff_getElem.1 hx
    exact (hp i hi).1
end
end Go.Proofs.Ytkpopdkkobelaaa
