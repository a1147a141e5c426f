
/- What a program begins with, as an argument. -/
import Derived.Test.YtihaakcfegelkaaDoorTm3
import Derived.Test.YtihaakcfegelkaaDoorLG
import Derived.Test.YtihaakcfegelkaaDoorKO
namespace Go.Proofs.YtihaakcfegelkaaDoor
open Go.ChangeShapes Go.WideShapes Go.ChangeAt Go.RowKit Go.Sort

theorem leavesAux : leaves Tryd.prog 2 43 = [(0, 30), (1, 30)] := by kernel_rfl
theorem leavesBg : leaves Tryd.prog 3 25 = [(0, 22), (1, 22), (2, 23), (3, 9)] := by kernel_rfl
theorem cellsAux : Tryd.prog.cellsOf 43 = 2 := by kernel_rfl
theorem cellsBg : Tryd.prog.cellsOf 25 = 4 := by kernel_rfl
theorem bytesAux : Tryd.prog.bytesOf 43 = 16 := by kernel_rfl
theorem reach_is20 : reachBytes = 140737488351232 := rfl

section
variable {H : Type} {enc : TypeId × Value → H} {w : World}
theorem lf_nat {sp : Nat → Bool} {m : Nat} {v : Value} {y : DataW H × List MemPlace} (h : DataW.trod enc Tryd.prog w 0 sp true m 30 [v] = some y) : ∃ i : Nat, v = .int .u64 (i : Int) ∧ U64 i := by
  obtain ⟨x, rfl, hw⟩ := lf_int Tryd.underlying30 h
  have := bounds_u64 hw
  obtain ⟨i, rfl⟩ := Int.eq_ofNat_of_zero_le this.1
  exact ⟨i, rfl, by unfold U64; have := this.2; omega⟩
theorem open_auxs {m : Nat} {v : Value} {y : DataW H × List MemPlace} (h : DataW.trod enc Tryd.prog w 0 (fun _ => true) true m 23 [v] = some y) (hs : Small Tryd.prog reachBytes 23 y.1) :
    ∃ a c, ∃ l : List (Nat × Nat), v = .slice a l.length c ∧ Axs w a l.length l ∧ l.length ≤ 8796093022207 ∧ (∀ p ∈ l, U64 p.1 ∧ U64 p.2) ∧ (a = none → c = 0) := by
  obtain ⟨a, n, c, rfl, hnc, _, hnil, hby, hrow⟩ := open_rows (n := 2) Tryd.underlying23 h hs (by rw [cellsAux]; omega)
  rw [bytesAux, reach_is20] at hby
  rw [leavesAux, cellsAux] at hrow
  obtain ⟨l, hl, hp⟩ := lst_of (fun i (s : Nat × Nat) => ∃ b off, a = some ⟨b, off, none⟩ ∧ (w.cell? ⟨b, off + i * 2 + 0, none⟩ = some (.int .u64 (s.1 : Int)) ∧ w.cell? ⟨b, off + i * 2 + 1, none⟩ = some (.int .u64 (s.2 : Int))) ∧ U64 s.1 ∧ U64 s.2) n (fun i hi => by
    obtain ⟨b, off, rfl, hc⟩ := hrow i hi
    obtain ⟨v0, m0, y0, c0, t0, s0⟩ := hc 0 30 (by simp) (by kernel_rfl) (by omega)
    obtain ⟨v1, m1, y1, c1, t1, s1⟩ := hc 1 30 (by simp) (by kernel_rfl) (by omega)
    obtain ⟨x0, rfl, hx0⟩ := lf_nat t0
    obtain ⟨x1, rfl, hx1⟩ := lf_nat t1
    exact ⟨(x0, x1), b, off, rfl, ⟨c0, c1⟩, hx0, hx1⟩)
  subst hl
  refine ⟨a, c, l, rfl, ⟨by simp, fun i hi => ?_⟩, by omega, fun s hs => ?_, hnil⟩
  · have hi' : i < l.length := by simpa using hi
    obtain ⟨b, off, rfl, ⟨c0, c1⟩, _⟩ := hp i hi'
    have e : (l.map axC)[i] = axC l[i] := by simp
    rw [e]
    refine ⟨rfl, b, off, rfl, fun j hj => ?_⟩
    have hj' : j < 2 := hj
    rcases j with _ | _ | j
    · exact c0
    · exact c1
    · omega
  · obtain ⟨i, hi, rfl⟩ := List.mem_iff_getElem.1 hs
    obtain ⟨_, _, _, _, h9⟩ := hp i hi
    exact h9
theorem open_begun {r : Reach} {b0 : Nat} {v : Value} {d : DataW H} {ps : List MemPlace} (hv : Value.okWide Tryd.prog w r b0 25 v) (h : DataW.Trod enc Tryd.prog w 0 (fun _ => true) true 25 v d ps) (hz : (d.weights Tryd.prog 25).all (· ≤ reachBytes) = true) :
    ∃ x : BG, v = bgV x ∧ BGok w x := by
  obtain ⟨cs, rfl, hsz, hc⟩ := open_agg (n := 3) Tryd.underlying25 hv h (small_of hz)
  rw [cellsBg] at hsz
  rw [leavesBg] at hc
  obtain ⟨m0, y0, t0, s0⟩ := hc 0 22 (by simp) (by kernel_rfl) (by omega)
  obtain ⟨m1, y1, t1, s1⟩ := hc 1 22 (by simp) (by kernel_rfl) (by omega)
  obtain ⟨m2, y2, t2, s2⟩ := hc 2 23 (by simp) (by kernel_rfl) (by omega)
  obtain ⟨m3, y3, t3, s3⟩ := hc 3 9 (by simp) (by kernel_rfl) (by omega)
  obtain ⟨a0, n0, k0, l0, e0, h0, hn0, hi0, hk0, hp0⟩ := lf_txts Tryd.underlying22 Tryd.underlying9 (by kernel_rfl) (by kernel_rfl) t0 s0
  obtain ⟨a1, n1, k1, l1, e1, h1, hn1, hi1, hk1, hp1⟩ := lf_txts Tryd.underlying22 Tryd.underlying9 (by kernel_rfl) (by kernel_rfl) t1 s1
  obtain ⟨a2, k2, l2, e2, h2, hn2, hp2, hi2⟩ := open_auxs t2 s2
  obtain ⟨l3, e3, hp3⟩ := lf_str Tryd.underlying9 t3 s3
  have q0 := h0.hlen
  have q1 := h1.hlen
  simp only [strs, List.length_map] at q0 q1
  subst q0; subst q1
  refine ⟨⟨a0, k0, l0, a1, k1, l1, a2, k2, l2, l3⟩, ?_, ⟨h0, h1, h2, by show l0.length ≤ _; omega, by show l1.length ≤ _; omega, hn2, hp0, hp1, by rw [reach_is20] at hp3; exact hp3, hp2, hi0, hi1, hi2⟩⟩
  unfold bgV
  congr 1
  apply Array.ext_getElem?
  intro i
  rcases i with _ | _ | _ | _ | i
  · rw [Array.getElem?_eq_getElem (by omega), e0]; rfl
  · rw [Array.getElem?_eq_getElem (by omega), e1]; rfl
  · rw [Array.getElem?_eq_getElem (by omega), e2]; rfl
  · rw [Array.getElem?_eq_getElem (by omega), e3]; rfl
  · rw [Array.getElem?_eq_none (by omega), Array.getElem?_eq_none (by simp)]
end
end Go.Proofs.YtihaakcfegelkaaDoor
