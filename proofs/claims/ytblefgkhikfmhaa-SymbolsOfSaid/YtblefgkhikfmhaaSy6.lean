/- Whole objects as arguments. -/
import Derived.Test.YtblefgkhikfmhaaSy5
import Derived.Test.YtblefgkhikfmhaaSyO
import Derived.Test.YtblefgkhikfmhaaSyJ
namespace Go.Proofs.Ytblefgkhikfmhaa
open Go.ChangeShapes Go.WideShapes Go.ChangeAt Go.RowKit Go.Sort

theorem leavesRela : leaves Try.prog 2 69 = [(0, 38), (1, 67), (2, 3), (3, 2)] := by kernel_rfl
theorem leavesStr : leaves Try.prog 2 9 = [(0, 9)] := by kernel_rfl
theorem cellsRela : Try.prog.cellsOf 69 = 4 := by kernel_rfl
theorem cellsStr : Try.prog.cellsOf 9 = 1 := by kernel_rfl
theorem bytesRela : Try.prog.bytesOf 69 = 32 := by kernel_rfl
theorem bytesStr : Try.prog.bytesOf 9 = 16 := by kernel_rfl

section
variable {H : Type} {enc : TypeId × Value → H} {w : World} {held : Bool}
theorem open_needs {m : Nat} {v : Value} {y : DataW H × List MemPlace} (h : DataW.trod enc Try.prog w 0 (fun _ => true) held m 28 [v] = some y) (hs : Small Try.prog reachBytes 28 y.1) :
    ∃ a n c, ∃ l : List BL, v = .slice a n c ∧ Cel w a n (strs l) ∧ n ≤ 8796093022207 := by
  obtain ⟨a, n, c, rfl, hnc, _, hcn, hby, hrow⟩ := open_rows (n := 2) Try.underlying28 h hs (by rw [cellsStr]; omega)
  rw [bytesStr, reach_is] at hby
  rw [leavesStr, cellsStr] at hrow
  obtain ⟨l, hl, hp⟩ := list_of (fun i (s : BL) => ∃ b off, a = some ⟨b, off, none⟩ ∧ w.cell? ⟨b, off + i * 1 + 0, none⟩ = some (.string (ba s))) n (fun i hi => by
    obtain ⟨b, off, rfl, hc⟩ := hrow i hi
    obtain ⟨v0, m0, y0, c0, t0, s0⟩ := hc 0 9 (by simp) (by kernel_rfl) (by omega)
    obtain ⟨x0, rfl, hx0⟩ := leaf_string Try.underlying9 t0 s0
    exact ⟨x0, b, off, rfl, c0⟩)
  refine ⟨a, n, c, l, rfl, ⟨by simp [strs, hl], fun i hi => ?_⟩, by omega⟩
  have hi' : i < l.length := by simpa [strs] using hi
  obtain ⟨b, off, rfl, c0⟩ := hp i hi'
  refine ⟨b, off, rfl, ?_⟩
  rw [Nat.mul_one, Nat.add_zero] at c0
  rw [c0]
  simp [strs]
theorem open_relas {m : Nat} {v : Value} {y : DataW H × List MemPlace} (h : DataW.trod enc Try.prog w 0 (fun _ => true) held m 35 [v] = some y) (hs : Small Try.prog reachBytes 35 y.1) :
    ∃ a n c, ∃ l : List RL, v = .slice a n c ∧ Rk w 4 a n (l.map rlC) ∧ (a = none → c = 0) ∧ n ≤ 4398046511000 := by
  obtain ⟨a, n, c, rfl, hnc, _, hcn, hby, hrow⟩ := open_rows (n := 2) Try.underlying35 h hs (by rw [cellsRela]; omega)
  rw [bytesRela, reach_is] at hby
  rw [leavesRela, cellsRela] at hrow
  obtain ⟨l, hl, hp⟩ := list_of (fun i (s : RL) => ∃ b off, a = some ⟨b, off, none⟩ ∧ (w.cell? ⟨b, off + i * 4 + 0, none⟩ = some (.int .u64 s.off) ∧ w.cell? ⟨b, off + i * 4 + 1, none⟩ = some (.int .u32 s.typ) ∧ w.cell? ⟨b, off + i * 4 + 2, none⟩ = some (.int .i64 s.sym) ∧ w.cell? ⟨b, off + i * 4 + 3, none⟩ = some (.int .i64 s.add))) n (fun i hi => by
    obtain ⟨b, off, rfl, hc⟩ := hrow i hi
    obtain ⟨v0, m0, y0, c0, t0, s0⟩ := hc 0 38 (by simp) (by kernel_rfl) (by omega)
    obtain ⟨v1, m1, y1, c1, t1, s1⟩ := hc 1 67 (by simp) (by kernel_rfl) (by omega)
    obtain ⟨v2, m2, y2, c2, t2, s2⟩ := hc 2 3 (by simp) (by kernel_rfl) (by omega)
    obtain ⟨v3, m3, y3, c3, t3, s3⟩ := hc 3 2 (by simp) (by kernel_rfl) (by omega)
    obtain ⟨x0, rfl, _⟩ := leaf_int Try.underlying38 t0
    obtain ⟨x1, rfl, _⟩ := leaf_int Try.underlying67 t1
    obtain ⟨x2, rfl, _⟩ := leaf_int Try.underlying3 t2
    obtain ⟨x3, rfl, _⟩ := leaf_int Try.underlying2 t3
    exact ⟨⟨x0, x1, x2, x3⟩, b, off, rfl, c0, c1, c2, c3⟩)
  refine ⟨a, n, c, l, rfl, ⟨by simp [hl], fun i hi => ?_⟩, hcn, by omega⟩
  have hi' : i < l.length := by simpa using hi
  obtain ⟨b, off, rfl, c0, c1, c2, c3⟩ := hp i hi'
  have e : (l.map rlC)[i] = rlC l[i] := by simp
  rw [e]
  refine ⟨rfl, b, off, rfl, fun j hj => ?_⟩
  have hj' : j < 4 := hj
  rcases j with _ | _ | _ | _ | j
  · exact c0
  · exact c1
  · exact c2
  · exact c3
  · omega
theorem open_syms2 {m : Nat} {v : Value} {y : DataW H × List MemPlace} (h : DataW.trod enc Try.prog w 0 (fun _ => true) held m 34 [v] = some y) (hs : Small Try.prog reachBytes 34 y.1) :
    ∃ a n c, ∃ l : List SY, v = .slice a n c ∧ Rk w 5 a n (l.map syC) ∧ (a = none → c = 0) ∧ n ≤ 3518437208781 ∧ ∀ s ∈ l, s.name.length ≤ 140737488351232 := by
  obtain ⟨a, n, c, rfl, hnc, _, hcn, hby, hrow⟩ := open_rows (n := 2) Try.underlying34 h hs (by rw [cellsSym]; omega)
  rw [bytesSym, reach_is] at hby
  rw [leavesSym, cellsSym] at hrow
  obtain ⟨l, hl, hp⟩ := list_of (fun i (s : SY) => ∃ b off, a = some ⟨b, off, none⟩ ∧ (w.cell? ⟨b, off + i * 5 + 0, none⟩ = some (.string (ba s.name)) ∧ w.cell? ⟨b, off + i * 5 + 1, none⟩ = some (.int .u64 s.value) ∧ w.cell? ⟨b, off + i * 5 + 2, none⟩ = some (.int .u64 s.size) ∧ w.cell? ⟨b, off + i * 5 + 3, none⟩ = some (.int .u8 s.bind) ∧ w.cell? ⟨b, off + i * 5 + 4, none⟩ = some (.bool s.dfn)) ∧ s.name.length ≤ 140737488351232) n (fun i hi => by
    obtain ⟨b, off, rfl, hc⟩ := hrow i hi
    obtain ⟨v0, m0, y0, c0, t0, s0⟩ := hc 0 9 (by simp) (by kernel_rfl) (by omega)
    obtain ⟨v1, m1, y1, c1, t1, s1⟩ := hc 1 38 (by simp) (by kernel_rfl) (by omega)
    obtain ⟨v2, m2, y2, c2, t2, s2⟩ := hc 2 38 (by simp) (by kernel_rfl) (by omega)
    obtain ⟨v3, m3, y3, c3, t3, s3⟩ := hc 3 5 (by simp) (by kernel_rfl) (by omega)
    obtain ⟨v4, m4, y4, c4, t4, s4⟩ := hc 4 4 (by simp) (by kernel_rfl) (by omega)
    obtain ⟨x0, rfl, hx0⟩ := leaf_string Try.underlying9 t0 s0
    obtain ⟨x1, rfl, _⟩ := leaf_int Try.underlying38 t1
    obtain ⟨x2, rfl, _⟩ := leaf_int Try.underlying38 t2
    obtain ⟨x3, rfl, _⟩ := leaf_int Try.underlying5 t3
    obtain ⟨x4, rfl⟩ := leaf_bool Try.underlying4 t4
    exact ⟨⟨x0, x1, x2, x3, x4⟩, b, off, rfl, ⟨c0, c1, c2, c3, c4⟩, by rw [reach_is] at hx0; exact hx0⟩)
  refine ⟨a, n, c, l, rfl, ⟨by simp [hl], fun i hi => ?_⟩, hcn, by omega, fun s hs => ?_⟩
  · have hi' : i < l.length := by simpa using hi
    obtain ⟨b, off, rfl, ⟨c0, c1, c2, c3, c4⟩, _⟩ := hp i hi'
    have e : (l.map syC)[i] = syC l[i] := by simp
    rw [e]
    refine ⟨rfl, b, off, rfl, fun j hj => ?_⟩
    have hj' : j < 5 := hj
    rcases j with _ | _ | _ | _ | _ | j
    · exact c0
    · exact c1
    · exact c2
    · exact c3
    · exact c4
    · omega
  · obtain ⟨i, hi, rfl⟩ := List.mem_iff_getElem.1 hs
    obtain ⟨_, _, _, _, h9⟩ := hp i hi
    exact h9

theorem leaves_full {C : Nat → Value → Prop} (hc : ∀ o u, (o, u) ∈ [(0, 3), (1, 38), (2, 39), (3, 38), (4, 38), (5, 40), (6, 28), (7, 9), (8, 9), (9, 34), (10, 35)] → Try.prog.cellsOf u = 1 → o < 11 →
      ∃ val m y, C o val ∧ DataW.trod enc Try.prog w 0 (fun _ => true) held m u [val] = some y ∧ Small Try.prog reachBytes u y.1) :
    ∃ x : OB, (Full w x ∧ ∀ s ∈ x.sy, s.name.length ≤ 140737488351232) ∧ C 0 (.int .i64 x.ino) ∧ C 1 (.int .u64 x.base) ∧ C 2 (.int .u16 x.typ) ∧ C 3 (.int .u64 x.entry) ∧ C 4 (.int .u64 x.phoff) ∧ C 5 (.slice x.ga x.gn x.gc) ∧ C 6 (.slice x.na x.nn x.nc) ∧ C 7 (.string (ba x.soname)) ∧ C 8 (.string (ba x.run)) ∧ C 9 (.slice x.sa x.sn x.sc) ∧ C 10 (.slice x.ra x.rn x.rc) := by
  obtain ⟨v0, m0, y0, c0, t0, s0⟩ := hc 0 3 (by simp) (by kernel_rfl) (by omega)
  obtain ⟨v1, m1, y1, c1, t1, s1⟩ := hc 1 38 (by simp) (by kernel_rfl) (by omega)
  obtain ⟨v2, m2, y2, c2, t2, s2⟩ := hc 2 39 (by simp) (by kernel_rfl) (by omega)
  obtain ⟨v3, m3, y3, c3, t3, s3⟩ := hc 3 38 (by simp) (by kernel_rfl) (by omega)
  obtain ⟨v4, m4, y4, c4, t4, s4⟩ := hc 4 38 (by simp) (by kernel_rfl) (by omega)
  obtain ⟨v5, m5, y5, c5, t5, s5⟩ := hc 5 40 (by simp) (by kernel_rfl) (by omega)
  obtain ⟨v6, m6, y6, c6, t6, s6⟩ := hc 6 28 (by simp) (by kernel_rfl) (by omega)
  obtain ⟨v7, m7, y7, c7, t7, s7⟩ := hc 7 9 (by simp) (by kernel_rfl) (by omega)
  obtain ⟨v8, m8, y8, c8, t8, s8⟩ := hc 8 9 (by simp) (by kernel_rfl) (by omega)
  obtain ⟨v9, m9, y9, c9, t9, s9⟩ := hc 9 34 (by simp) (by kernel_rfl) (by omega)
  obtain ⟨v10, m10, y10, c10, t10, s10⟩ := hc 10 35 (by simp) (by kernel_rfl) (by omega)
  obtain ⟨x0, rfl, _⟩ := leaf_int Try.underlying3 t0
  obtain ⟨x1, rfl, _⟩ := leaf_int Try.underlying38 t1
  obtain ⟨x2, rfl, _⟩ := leaf_int Try.underlying39 t2
  obtain ⟨x3, rfl, _⟩ := leaf_int Try.underlying38 t3
  obtain ⟨x4, rfl, _⟩ := leaf_int Try.underlying38 t4
  obtain ⟨ga, gn, gc, rfl⟩ := leaf_slice Try.underlying40 t5 s5 (by decide +kernel)
  obtain ⟨na, nn, nc, nd, rfl, hnd, hnn⟩ := open_needs t6 s6
  obtain ⟨x7, rfl, _⟩ := leaf_string Try.underlying9 t7 s7
  obtain ⟨x8, rfl, _⟩ := leaf_string Try.underlying9 t8 s8
  obtain ⟨sa, sn, sc, sy, rfl, hsy, hsc, hsn, hnm⟩ := open_syms2 t9 s9
  obtain ⟨ra, rn, rc, rl, rfl, hrl, hrc, hrn⟩ := open_relas t10 s10
  exact ⟨{ ino := x0, base := x1, typ := x2, entry := x3, phoff := x4, ga := ga, gn := gn, gc := gc, na := na, nn := nn, nc := nc, nd := nd, soname := x7, run := x8, sa := sa, sn := sn, sc := sc, sy := sy, ra := ra, rn := rn, rc := rc, rl := rl }, ⟨⟨hnd, hsy, hrl, hsc, hrc, hnn, hsn, hrn⟩, hnm⟩, c0, c1, c2, c3, c4, c5, c6, c7, c8, c9, c10⟩

theorem open_full {r : Reach} {b0 : Nat} {v : Value} {d : DataW H} {ps : List MemPlace} (hv : Value.okWide Try.prog w r b0 22 v) (h : DataW.Trod enc Try.prog w 0 (fun _ => true) held 22 v d ps) (hz : (d.weights Try.prog 22).all (· ≤ reachBytes) = true) :
    ∃ a n c, ∃ xs : List OB, v = .slice a n c ∧ Objs w a n xs ∧ n ≤ c ∧ c ≤ 1000000000000 ∧ (∀ x ∈ xs, Full w x) ∧ ∀ x ∈ xs, ∀ s ∈ x.sy, s.name.length ≤ 140737488351232 := by
  obtain ⟨a, n, c, rfl, hnc, _, _, hby, hrow⟩ := open_rows_arg (n := 3) Try.underlying22 hv h (small_of hz) (by rw [cellsObj]; omega)
  rw [bytesObj, reach_is] at hby
  rw [leavesObj, cellsObj] at hrow
  obtain ⟨xs, hl, hp⟩ := list_of (fun i (x : OB) => (Full w x ∧ ∀ s ∈ x.sy, s.name.length ≤ 140737488351232) ∧ ∃ b off, a = some ⟨b, off, none⟩ ∧ ∀ j (hj : j < (obC x).length), w.cell? ⟨b, off + i * 11 + j, none⟩ = some (obC x)[j]) n (fun i hi => by
    obtain ⟨b, off, rfl, hc⟩ := hrow i hi
    obtain ⟨x, hx, c0, c1, c2, c3, c4, c5, c6, c7, c8, c9, c10⟩ := leaves_full (C := fun o val => w.cell? ⟨b, off + i * 11 + o, none⟩ = some val) hc
    refine ⟨x, hx, b, off, rfl, fun j hj => ?_⟩
    have hj' : j < 11 := hj
    rcases j with _ | _ | _ | _ | _ | _ | _ | _ | _ | _ | _ | j
    · exact c0
    · exact c1
    · exact c2
    · exact c3
    · exact c4
    · exact c5
    · exact c6
    · exact c7
    · exact c8
    · exact c9
    · exact c10
    · omega)
  refine ⟨a, n, c, xs, rfl, ⟨⟨by simp [hl], fun i hi => ?_⟩, fun x hx => ?_⟩, hnc, by omega, fun x hx => ?_, fun x hx => ?_⟩
  · have hi' : i < xs.length := by simpa using hi
    obtain ⟨_, b, off, rfl, hc⟩ := hp i hi'
    have e : (xs.map obC)[i] = obC xs[i] := by simp
    rw [e]
    exact ⟨rfl, b, off, rfl, hc⟩
  · obtain ⟨i, hi, rfl⟩ := List.mem_iff_getElem.1 hx
    exact (hp i hi).1.1.syms
  · obtain ⟨i, hi, rfl⟩ := List.mem_iff_getElem.1 hx
    exact (hp i hi).1.1
  · obtain ⟨i, hi, rfl⟩ := List.mem_iff_getElem.1 hx
    exact (hp i hi).1.2
end
end Go.Proofs.Ytblefgkhikfmhaa
