
/- Steps as an argument of CallsScript. -/
import Derived.Test.YtcbkikioapdbbaaDoorCeb
import Derived.Test.YtcbkikioapdbbaaDoorKC5
namespace Go.Proofs.YtcbkikioapdbbaaDoor
open Go.ChangeShapes Go.WideShapes Go.ChangeAt Go.RowKit Go.Sort
section
variable {H : Type} {enc : TypeId × Value → H} {w : World}
set_option maxRecDepth 100000 in
set_option maxHeartbeats 4000000 in
theorem open_steps {r : Reach} {b0 : Nat} {v : Value} {d : DataW H} {ps : List MemPlace} (hv : Value.okWide Tryd.prog w r b0 42 v) (h : DataW.Trod enc Tryd.prog w 0 (fun _ => true) true 42 v d ps) (hz : (d.weights Tryd.prog 42).all (· ≤ reachBytes) = true) :
    ∃ a c, ∃ ls : List (Int × CG), v = .slice a ls.length c ∧ StArg w a ls ∧ ls.length ≤ 8796093022207 := by
  obtain ⟨a, n, c, rfl, hnc, _, hcn, hby, hrow⟩ := open_rows_arg (n := 3) Tryd.underlying42 hv h (small_of hz) (by rw [cellsStep]; omega)
  rw [bytesStep, reach_is25] at hby
  rw [leavesStep, cellsStep] at hrow
  obtain ⟨ls, hl, hp⟩ := lst_of (fun i (x : Int × CG) => (CGok w x.2 ∧ -9223372036854775808 ≤ x.1 ∧ x.1 ≤ 9223372036854775807) ∧ ∃ b off, a = some ⟨b, off, none⟩ ∧ ∀ j (hj : j < (stI x).length), w.cell? ⟨b, off + i * 11 + j, none⟩ = some (stI x)[j]) n (fun i hi => by
    obtain ⟨b, off, rfl, hc⟩ := hrow i hi
    obtain ⟨v0, m0, y0, c0, t0, s0⟩ := hc 0 3 (by simp) (by kernel_rfl) (by omega)
    obtain ⟨v1, m1, y1, c1, t1, s1⟩ := hc 1 5 (by simp) (by kernel_rfl) (by omega)
    obtain ⟨v2, m2, y2, c2, t2, s2⟩ := hc 2 22 (by simp) (by kernel_rfl) (by omega)
    obtain ⟨v3, m3, y3, c3, t3, s3⟩ := hc 3 22 (by simp) (by kernel_rfl) (by omega)
    obtain ⟨v4, m4, y4, c4, t4, s4⟩ := hc 4 22 (by simp) (by kernel_rfl) (by omega)
    obtain ⟨v5, m5, y5, c5, t5, s5⟩ := hc 5 22 (by simp) (by kernel_rfl) (by omega)
    obtain ⟨v6, m6, y6, c6, t6, s6⟩ := hc 6 22 (by simp) (by kernel_rfl) (by omega)
    obtain ⟨v7, m7, y7, c7, t7, s7⟩ := hc 7 9 (by simp) (by kernel_rfl) (by omega)
    obtain ⟨v8, m8, y8, c8, t8, s8⟩ := hc 8 23 (by simp) (by kernel_rfl) (by omega)
    obtain ⟨v9, m9, y9, c9, t9, s9⟩ := hc 9 23 (by simp) (by kernel_rfl) (by omega)
    obtain ⟨v10, m10, y10, c10, t10, s10⟩ := hc 10 24 (by simp) (by kernel_rfl) (by omega)
    obtain ⟨pid, rfl, hw⟩ := lf_int Tryd.underlying3 t0
    have hb := bounds_i64 hw
    obtain ⟨x, hx, e0, e1, e2, e3, e4, e5, e6, e7, e8, e9⟩ := leaves_call (q := fun j => ([v1, v2, v3, v4, v5, v6, v7, v8, v9, v10] : List Value)[j]?.getD (.int .u8 0)) ⟨⟨m1, y1, t1⟩, ⟨m2, y2, t2⟩, ⟨m3, y3, t3⟩, ⟨m4, y4, t4⟩, ⟨m5, y5, t5⟩, ⟨m6, y6, t6⟩, ⟨m7, y7, t7, s7⟩, ⟨m8, y8, t8, s8⟩, ⟨m9, y9, t9, s9⟩, ⟨m10, y10, t10, s10⟩⟩
    replace e0 : v1 = _ := e0
    replace e1 : v2 = _ := e1
    replace e2 : v3 = _ := e2
    replace e3 : v4 = _ := e3
    replace e4 : v5 = _ := e4
    replace e5 : v6 = _ := e5
    replace e6 : v7 = _ := e6
    replace e7 : v8 = _ := e7
    replace e8 : v9 = _ := e8
    replace e9 : v10 = _ := e9
    subst e0 e1 e2 e3 e4 e5 e6 e7 e8 e9
    refine ⟨(pid, x), ⟨hx, hb.1, hb.2⟩, b, off, rfl, fun j hj => ?_⟩
    have hj' : j < 11 := hj
    rcases j with _ | _ | _ | _ | _ | _ | _ | _ | _ | _ | _ | j
    · exact c0
    · exact c1
    · exact c2
    · exact c3
    · exact c4
    · exact c5
    · exact c6
    · exact c7
    · exact c8
    · exact c9
    · exact c10
    · omega)
  subst hl
  refine ⟨a, c, ls, rfl, ⟨⟨by simp, fun i hi => ?_⟩, fun x hx => ?_⟩, by omega⟩
  · have hi' : i < ls.length := by simpa using hi
    obtain ⟨_, b, off, rfl, hc⟩ := hp i hi'
    have e : (ls.map stI)[i] = stI ls[i] := by simp
    rw [e]
    exact ⟨rfl, b, off, rfl, hc⟩
  · obtain ⟨i, hi, rfl⟩ := List.mem_iff_getElem.1 hx
    exact (hp i hi).1
end
end Go.Proofs.YtcbkikioapdbbaaDoor
