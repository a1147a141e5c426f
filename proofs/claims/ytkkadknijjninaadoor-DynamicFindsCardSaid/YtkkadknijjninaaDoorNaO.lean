
/- A head as an argument. -/
import Derived.Test.YtkkadknijjninaaDoorLa1
import Derived.Test.YtkkadknijjninaaDoorKO
import Derived.Test.YtkkadknijjninaaDoorKE
namespace Go.Proofs.YtkkadknijjninaaDoor
open Go.ChangeShapes Go.WideShapes Go.ChangeAt Go.RowKit Go.Sort

theorem list_of {α : Type} (P : Nat → α → Prop) : ∀ n, (∀ i, i < n → ∃ x, P i x) → ∃ l : List α, l.length = n ∧ ∀ i (hi : i < l.length), P i l[i]
  | 0, _ => ⟨[], rfl, fun i hi => by simp at hi⟩
  | n + 1, h => by
    obtain ⟨l, hl, hp⟩ := list_of P n (fun i hi => h i (by omega))
    obtain ⟨x, hx⟩ := h n (by omega)
    refine ⟨l ++ [x], by simp [hl], fun i hi => ?_⟩
    by_cases e : i < l.length
    · rw [List.getElem_append_left e]; exact hp i e
    · have : i = n := by simp at hi; omega
      subst this
      rw [List.getElem_append_right (by omega)]
      simp [hl]
      exact hx

section
variable {H : Type} {enc : TypeId × Value → H} {P : Program} {w : World} {held : Bool}
theorem leaf_int {sp : Nat → Bool} {m : Nat} {u : TypeId} {k : IntKind} {v : Value} {y : DataW H × List MemPlace} (ht : P.underlying u = some (.int k)) (h : DataW.trod enc P w 0 sp held m u [v] = some y) : ∃ i, v = .int k i ∧ (Lit.int k i).wf = true := by
  obtain ⟨x, e, _, hw⟩ := DataW.trod_int ht h
  simp only [List.cons.injEq, and_true] at e
  exact ⟨x, e, hw⟩
theorem leaf_bool {sp : Nat → Bool} {m : Nat} {u : TypeId} {v : Value} {y : DataW H × List MemPlace} (ht : P.underlying u = some .bool) (h : DataW.trod enc P w 0 sp held m u [v] = some y) : ∃ b, v = .bool b := by
  obtain ⟨x, e, _⟩ := DataW.trod_bool ht h
  simp only [List.cons.injEq, and_true] at e
  exact ⟨x, e⟩
theorem leaf_string {sp : Nat → Bool} {N m : Nat} {u : TypeId} {v : Value} {y : DataW H × List MemPlace} (ht : P.underlying u = some .string) (h : DataW.trod enc P w 0 sp held m u [v] = some y) (hs : Small P N u y.1) : ∃ l : BL, v = .string (ba l) ∧ l.length ≤ N := by
  obtain ⟨s, e, hx, _⟩ := DataW.trod_string ht h
  simp only [List.cons.injEq, and_true] at e
  refine ⟨s.data.toList, e, ?_⟩
  subst hx
  exact hs _ (by simp [DataW.weights])
theorem leaf_slice {N m : Nat} {u e : TypeId} {v : Value} {y : DataW H × List MemPlace} (ht : P.underlying u = some (.slice e)) (h : DataW.trod enc P w 0 (fun _ => true) held m u [v] = some y) (hs : Small P N u y.1) (hpos : 0 < P.cellsOf e) : ∃ a n c, v = .slice a n c := by
  obtain ⟨a, n, c, e, _⟩ := open_rows (n := 0) ht h hs hpos
  exact ⟨a, n, c, e⟩
end


theorem leavesSeg : leaves Tryd.prog 2 52 = [(0, 33), (1, 5), (2, 24), (3, 24), (4, 24), (5, 24)] := by kernel_rfl
theorem cellsSeg : Tryd.prog.cellsOf 52 = 6 := by kernel_rfl
theorem bytesSeg : Tryd.prog.bytesOf 52 = 40 := by kernel_rfl
theorem reach_is : reachBytes = 140737488351232 := rfl

section
variable {H : Type} {enc : TypeId × Value → H} {w : World} {held : Bool}
theorem open_segs {m : Nat} {v : Value} {y : DataW H × List MemPlace} (h : DataW.trod enc Tryd.prog w 0 (fun _ => true) held m 25 [v] = some y) (hs : Small Tryd.prog reachBytes 25 y.1) :
    ∃ a n c, ∃ l : List SG, v = .slice a n c ∧ Sgs w a n l ∧ (∀ s ∈ l, SGok s) ∧ (a = none → c = 0) ∧ n ≤ 3518437208781 := by
  obtain ⟨a, n, c, rfl, hnc, _, hcn, hby, hrow⟩ := open_rows (n := 2) Tryd.underlying25 h hs (by rw [cellsSeg]; omega)
  rw [bytesSeg, reach_is] at hby
  rw [leavesSeg, cellsSeg] at hrow
  obtain ⟨l, hl, hp⟩ := list_of (fun i (s : SG) => ∃ b off, a = some ⟨b, off, none⟩ ∧ (w.cell? ⟨b, off + i * 6 + 0, none⟩ = some (.int .u32 s.kind) ∧ w.cell? ⟨b, off + i * 6 + 1, none⟩ = some (.int .u8 s.flags) ∧ w.cell? ⟨b, off + i * 6 + 2, none⟩ = some (.int .u64 s.off) ∧ w.cell? ⟨b, off + i * 6 + 3, none⟩ = some (.int .u64 s.addr) ∧ w.cell? ⟨b, off + i * 6 + 4, none⟩ = some (.int .u64 s.fsz) ∧ w.cell? ⟨b, off + i * 6 + 5, none⟩ = some (.int .u64 s.msz)) ∧ SGok s) n (fun i hi => by
    obtain ⟨b, off, rfl, hc⟩ := hrow i hi
    obtain ⟨v0, m0, y0, c0, t0, s0⟩ := hc 0 33 (by simp) (by kernel_rfl) (by omega)
    obtain ⟨v1, m1, y1, c1, t1, s1⟩ := hc 1 5 (by simp) (by kernel_rfl) (by omega)
    obtain ⟨v2, m2, y2, c2, t2, s2⟩ := hc 2 24 (by simp) (by kernel_rfl) (by omega)
    obtain ⟨v3, m3, y3, c3, t3, s3⟩ := hc 3 24 (by simp) (by kernel_rfl) (by omega)
    obtain ⟨v4, m4, y4, c4, t4, s4⟩ := hc 4 24 (by simp) (by kernel_rfl) (by omega)
    obtain ⟨v5, m5, y5, c5, t5, s5⟩ := hc 5 24 (by simp) (by kernel_rfl) (by omega)
    obtain ⟨x0, rfl, w0⟩ := leaf_int Tryd.underlying33 t0
    obtain ⟨x1, rfl, w1⟩ := leaf_int Tryd.underlying5 t1
    obtain ⟨x2, rfl, w2⟩ := leaf_int Tryd.underlying24 t2
    obtain ⟨x3, rfl, w3⟩ := leaf_int Tryd.underlying24 t3
    obtain ⟨x4, rfl, w4⟩ := leaf_int Tryd.underlying24 t4
    obtain ⟨x5, rfl, w5⟩ := leaf_int Tryd.underlying24 t5
    have b0 := bounds_u32 w0
    have b1 := bounds_u8 w1
    have b2 := bounds_u64 w2
    have b3 := bounds_u64 w3
    have b4 := bounds_u64 w4
    have b5 := bounds_u64 w5
    exact ⟨⟨x0, x1, x2, x3, x4, x5⟩, b, off, rfl, ⟨c0, c1, c2, c3, c4, c5⟩, ⟨b0.1, b1.1, by show x1 ≤ 255; omega, b2.1, by show x2 ≤ 18446744073709551615; omega, b3.1, by show x3 ≤ 18446744073709551615; omega, b4.1, by show x4 ≤ 18446744073709551615; omega, b5.1, by show x5 ≤ 18446744073709551615; omega⟩⟩)
  refine ⟨a, n, c, l, rfl, ⟨by simp [hl], fun i hi => ?_⟩, fun s hs => ?_, hcn, by omega⟩
  · have hi' : i < l.length := by simpa using hi
    obtain ⟨b, off, rfl, ⟨c0, c1, c2, c3, c4, c5⟩, _⟩ := hp i hi'
    have e : (l.map sgC)[i] = sgC l[i] := by simp
    rw [e]
    refine ⟨rfl, b, off, rfl, fun j hj => ?_⟩
    have hj' : j < 6 := hj
    rcases j with _ | _ | _ | _ | _ | _ | j
    · exact c0
    · exact c1
    · exact c2
    · exact c3
    · exact c4
    · exact c5
    · omega
  · obtain ⟨i, hi, rfl⟩ := List.mem_iff_getElem.1 hs
    obtain ⟨_, _, _, _, h9⟩ := hp i hi
    exact h9
set_option maxRecDepth 100000 in
theorem leavesHead : leaves Tryd.prog 2 27 = [(0, 23), (1, 24), (2, 24), (3, 25)] := by kernel_rfl
theorem cellsHead : Tryd.prog.cellsOf 27 = 4 := by kernel_rfl
set_option maxRecDepth 100000 in
theorem open_head {r : Reach} {b0 : Nat} {v : Value} {d : DataW H} {ps : List MemPlace} (hv : Value.okWide Tryd.prog w r b0 27 v) (h : DataW.Trod enc Tryd.prog w 0 (fun _ => true) held 27 v d ps) (hz : (d.weights Tryd.prog 27).all (· ≤ reachBytes) = true) :
    ∃ typ entry phoff a n c, ∃ sg : List SG, v = .agg #[.int .u16 typ, .int .u64 entry, .int .u64 phoff, .slice a n c] ∧ Sgs w a n sg ∧ (∀ s ∈ sg, SGok s) ∧ (a = none → c = 0) ∧ 0 ≤ phoff ∧ phoff ≤ 18446744073709551615 ∧ 0 ≤ entry ∧ entry ≤ 18446744073709551615 := by
  obtain ⟨cs, rfl, hsz, hc⟩ := open_agg (n := 2) Tryd.underlying27 hv h (small_of hz)
  rw [cellsHead] at hsz
  rw [leavesHead] at hc
  obtain ⟨m0, y0, t0, s0⟩ := hc 0 23 (by simp) (by kernel_rfl) (by omega)
  obtain ⟨m1, y1, t1, s1⟩ := hc 1 24 (by simp) (by kernel_rfl) (by omega)
  obtain ⟨m2, y2, t2, s2⟩ := hc 2 24 (by simp) (by kernel_rfl) (by omega)
  obtain ⟨m3, y3, t3, s3⟩ := hc 3 25 (by simp) (by kernel_rfl) (by omega)
  obtain ⟨x0, e0, _⟩ := leaf_int Tryd.underlying23 t0
  obtain ⟨x1, e1, w1⟩ := leaf_int Tryd.underlying24 t1
  obtain ⟨x2, e2, w2⟩ := leaf_int Tryd.underlying24 t2
  obtain ⟨ga, gn, gc, sg, e3, hsg, hok, hgc, hgn⟩ := open_segs t3 s3
  have b1 := bounds_u64 w1
  have b2 := bounds_u64 w2
  refine ⟨x0, x1, x2, ga, gn, gc, sg, ?_, hsg, hok, hgc, b2.1, by omega, b1.1, by omega⟩
  congr 1
  obtain ⟨c0, c1, c2, c3, rfl⟩ : ∃ c0 c1 c2 c3, cs = #[c0, c1, c2, c3] := by
    obtain ⟨l⟩ := cs
    match l, hsz with
    | [c0, c1, c2, c3], _ => exact ⟨c0, c1, c2, c3, rfl⟩
  simp only [List.getElem_toArray, List.getElem_cons_zero, List.getElem_cons_succ] at e0 e1 e2 e3
  rw [e0, e1, e2, e3]
end
end Go.Proofs.YtkkadknijjninaaDoor
