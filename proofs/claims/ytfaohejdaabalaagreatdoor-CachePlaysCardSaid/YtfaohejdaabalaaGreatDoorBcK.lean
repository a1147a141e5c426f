
/- Files and what is done, as arguments. -/
import Derived.Test.YtfaohejdaabalaaGreatDoorKB3
import Derived.Test.YtfaohejdaabalaaGreatDoorKO
namespace Go.Proofs.YtfaohejdaabalaaGreatDoor
open Go.ChangeShapes Go.WideShapes Go.ChangeAt Go.RowKit Go.Sort

section
variable {H : Type} {enc : TypeId × Value → H} {w : World} {held : Bool}
set_option maxRecDepth 100000 in
set_option maxHeartbeats 2000000 in
theorem open_ents0 {m : Nat} {v : Value} {y : DataW H × List MemPlace} (h : DataW.trod enc Tryz.prog w 0 (fun _ => true) held m 22 [v] = some y) (hs : Small Tryz.prog reachBytes 22 y.1) :
    ∃ a c, ∃ xs : List EN, v = .slice a xs.length c ∧ EntsIn w a xs.length xs ∧ xs.length ≤ 140737488351232 := by
  obtain ⟨a, n, c, rfl, hnc, _, hcn, hby, hrow⟩ := open_rows (n := 2) Tryz.underlying22 h hs (by rw [cellsEnt]; omega)
  rw [bytesEnt, reach_is] at hby
  rw [leavesEnt, cellsEnt] at hrow
  obtain ⟨xs, hl, hp⟩ := list_of (fun i (x : EN) => EnIn w x ∧ ∃ b off, a = some ⟨b, off, none⟩ ∧ ∀ j (hj : j < x.cs.length), w.cell? ⟨b, off + i * 7 + j, none⟩ = some x.cs[j]) n (fun i hi => by
    obtain ⟨b, off, rfl, hc⟩ := hrow i hi
    obtain ⟨v0, m0, y0, c0, t0, s0⟩ := hc 0 9 (by simp) (by kernel_rfl) (by omega)
    obtain ⟨v1, m1, y1, c1, t1, s1⟩ := hc 1 5 (by simp) (by kernel_rfl) (by omega)
    obtain ⟨v2, m2, y2, c2, t2, s2⟩ := hc 2 39 (by simp) (by kernel_rfl) (by omega)
    obtain ⟨v3, m3, y3, c3, t3, s3⟩ := hc 3 41 (by simp) (by kernel_rfl) (by omega)
    obtain ⟨v4, m4, y4, c4, t4, s4⟩ := hc 4 41 (by simp) (by kernel_rfl) (by omega)
    obtain ⟨v5, m5, y5, c5, t5, s5⟩ := hc 5 40 (by simp) (by kernel_rfl) (by omega)
    obtain ⟨v6, m6, y6, c6, t6, s6⟩ := hc 6 9 (by simp) (by kernel_rfl) (by omega)
    obtain ⟨x0, rfl, hx0⟩ := leaf_string Tryz.underlying9 t0 s0
    obtain ⟨x1, rfl, _⟩ := leaf_int Tryz.underlying5 t1
    obtain ⟨x2, rfl, hx2⟩ := leaf_int Tryz.underlying39 t2
    obtain ⟨x3, rfl, _⟩ := leaf_int Tryz.underlying41 t3
    obtain ⟨x4, rfl, _⟩ := leaf_int Tryz.underlying41 t4
    obtain ⟨xa, xc, xl, rfl, hx5, hx5n, hx5l⟩ := open_data t5 s5
    obtain ⟨x6, rfl, hx6⟩ := leaf_string Tryz.underlying9 t6 s6
    have hm := bounds_u16 hx2
    rw [reach_is] at hx0 hx6
    refine ⟨⟨x0, x1, x2, x3, x4, xa, xc, xl, x6⟩, ⟨hx5, hx5n, hx0, hx6, hx5l, hm⟩, b, off, rfl, fun j hj => ?_⟩
    have hj' : j < 7 := hj
    rcases j with _ | _ | _ | _ | _ | _ | _ | j
    · exact c0
    · exact c1
    · exact c2
    · exact c3
    · exact c4
    · exact c5
    · exact c6
    · omega)
  subst hl
  refine ⟨a, c, xs, rfl, ⟨⟨by simp, fun i hi => ?_⟩, fun x hx => ?_⟩, by omega⟩
  · have hi' : i < xs.length := by simpa using hi
    obtain ⟨_, b, off, rfl, hc⟩ := hp i hi'
    have e : (xs.map EN.cs)[i] = xs[i].cs := by simp
    rw [e]
    exact ⟨rfl, b, off, rfl, hc⟩
  · obtain ⟨i, hi, rfl⟩ := List.mem_iff_getElem.1 hx
    exact (hp i hi).1
theorem leavesFl : leaves Tryz.prog 2 24 = [(0, 22), (1, 3)] := by kernel_rfl
theorem cellsFl : Tryz.prog.cellsOf 24 = 2 := by kernel_rfl
set_option maxRecDepth 100000 in
theorem open_files {r : Reach} {b0 : Nat} {v : Value} {d : DataW H} {ps : List MemPlace} (hv : Value.okWide Tryz.prog w r b0 24 v) (h : DataW.Trod enc Tryz.prog w 0 (fun _ => true) held 24 v d ps) (hz : (d.weights Tryz.prog 24).all (· ≤ reachBytes) = true) :
    ∃ a c, ∃ xs : List EN, ∃ N : Int, v = flV a xs.length c N ∧ EntsIn w a xs.length xs := by
  obtain ⟨cs, rfl, hsz, hc⟩ := open_agg (n := 2) Tryz.underlying24 hv h (small_of hz)
  rw [cellsFl] at hsz
  rw [leavesFl] at hc
  obtain ⟨m0, y0, t0, s0⟩ := hc 0 22 (by simp) (by kernel_rfl) (by omega)
  obtain ⟨m1, y1, t1, s1⟩ := hc 1 3 (by simp) (by kernel_rfl) (by omega)
  obtain ⟨a, c, xs, e0, hX, _⟩ := open_ents0 t0 s0
  obtain ⟨N, e1, _⟩ := leaf_int Tryz.underlying3 t1
  refine ⟨a, c, xs, N, ?_, hX⟩
  unfold flV
  congr 1
  refine Array.ext (by simpa using hsz) fun i h1 h2 => ?_
  match i, h1 with
  | 0, _ => exact e0
  | 1, _ => exact e1
  | i + 2, h1 => omega
theorem leavesO8 : leaves Tryz.prog 2 33 = [(0, 3), (1, 3), (2, 3), (3, 3)] := by kernel_rfl
theorem cellsO8 : Tryz.prog.cellsOf 33 = 4 := by kernel_rfl
set_option maxRecDepth 100000 in
set_option maxHeartbeats 2000000 in
theorem open_ops8 {r : Reach} {b0 : Nat} {v : Value} {d : DataW H} {ps : List MemPlace} (hv : Value.okWide Tryz.prog w r b0 25 v) (h : DataW.Trod enc Tryz.prog w 0 (fun _ => true) held 25 v d ps) (hz : (d.weights Tryz.prog 25).all (· ≤ reachBytes) = true) :
    ∃ a c, ∃ l : List O8, v = .slice a l.length c ∧ Ops8 w a l := by
  obtain ⟨a, n, c, rfl, hnc, _, hcn, hby, hrow⟩ := open_rows_arg (n := 2) Tryz.underlying25 hv h (small_of hz) (by rw [cellsO8]; omega)
  rw [leavesO8, cellsO8] at hrow
  obtain ⟨l, hl, hp⟩ := list_of (fun i (x : O8) => (I64 x.i ∧ I64 x.p) ∧ ∃ b off, a = some ⟨b, off, none⟩ ∧ ∀ j (hj : j < (o8C x).length), w.cell? ⟨b, off + i * 4 + j, none⟩ = some (o8C x)[j]) n (fun i hi => by
    obtain ⟨b, off, rfl, hc⟩ := hrow i hi
    obtain ⟨v0, m0, y0, c0, t0, s0⟩ := hc 0 3 (by simp) (by kernel_rfl) (by omega)
    obtain ⟨v1, m1, y1, c1, t1, s1⟩ := hc 1 3 (by simp) (by kernel_rfl) (by omega)
    obtain ⟨v2, m2, y2, c2, t2, s2⟩ := hc 2 3 (by simp) (by kernel_rfl) (by omega)
    obtain ⟨v3, m3, y3, c3, t3, s3⟩ := hc 3 3 (by simp) (by kernel_rfl) (by omega)
    obtain ⟨x0, rfl, _⟩ := leaf_int Tryz.underlying3 t0
    obtain ⟨x1, rfl, b1⟩ := leaf_int Tryz.underlying3 t1
    obtain ⟨x2, rfl, b2⟩ := leaf_int Tryz.underlying3 t2
    obtain ⟨x3, rfl, _⟩ := leaf_int Tryz.underlying3 t3
    have q1 := bounds_i64 b1
    have q2 := bounds_i64 b2
    refine ⟨⟨x0, x1, x2, x3⟩, ⟨q1, q2⟩, b, off, rfl, fun j hj => ?_⟩
    have hj' : j < 4 := hj
    rcases j with _ | _ | _ | _ | j
    · exact c0
    · exact c1
    · exact c2
    · exact c3
    · omega)
  subst hl
  refine ⟨a, c, l, rfl, ⟨⟨by simp, fun i hi => ?_⟩, fun x hx => ?_⟩⟩
  · have hi' : i < l.length := by simpa using hi
    obtain ⟨_, b, off, rfl, hc⟩ := hp i hi'
    have e : (l.map o8C)[i] = o8C l[i] := by simp
    rw [e]
    exact ⟨rfl, b, off, rfl, hc⟩
  · obtain ⟨i, hi, rfl⟩ := List.getElem_of_mem hx
    exact (hp i hi).1
end
end Go.Proofs.YtfaohejdaabalaaGreatDoor
