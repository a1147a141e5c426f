
/- SearchSecure: the walk. -/
import Derived.Test.YtnepccjcjkeneaaSe
namespace Go.Proofs.Ytnepccjcjkeneaa
open Go.ChangeShapes Go.WideShapes Go.ChangeAt Go.RowKit Go.Sort
attribute [local go_sem] Oper.semAt_some

theorem secure_lib (name run lib other : BL) : pathsN name run other true = pathsN name run lib true := rfl
theorem secure_no (name run lib : BL) : pathsN name run [] false = pathsN name run lib true := by
  have : dirsL run [] false = dirsL run lib true := by unfold dirsL listL; simp
  unfold pathsN
  rw [this]
theorem secure_sub (name run lib : BL) : List.Sublist (pathsN name run lib true) (pathsN name run lib false) := by
  unfold pathsN
  split
  · exact List.Sublist.refl _
  · refine List.Sublist.map _ ?_
    unfold dirsL
    refine List.Sublist.append (List.Sublist.append (List.Sublist.refl _) ?_) (List.Sublist.refl _)
    simp
theorem pathsN_len {name run lib p : BL} {sec : Bool} (h : p ∈ pathsN name run lib sec) : p.length ≤ name.length + run.length + lib.length + 9 := by
  unfold pathsN at h
  split at h
  · rw [List.mem_singleton.1 h]; omega
  · obtain ⟨d, hd, rfl⟩ := List.mem_map.1 h
    have h1 := dirsL_len hd
    unfold joinL
    split
    · omega
    · split <;> simp <;> omega
theorem pathsN_many (name run lib : BL) (sec : Bool) : (pathsN name run lib sec).length ≤ run.length + lib.length + 9 := by
  unfold pathsN
  split
  · simp
  · rw [List.length_map]; have := dirsL_many run lib sec; omega
theorem eqT_me (l : List BL) : eqT l l = true := by simp [eqT]
theorem sub_hit {x : BL} {a b : List BL} (h : List.Sublist (x :: a) (x :: b)) : List.Sublist a b := List.cons_sublist_cons.1 h
theorem sub_miss {x y : BL} {a b : List BL} (h : List.Sublist (y :: a) (x :: b)) (hne : ¬ x = y) : List.Sublist (y :: a) b := by
  cases h with
  | cons _ h => exact h
  | cons_cons _ h => exact absurd rfl hne

theorem nlarge_any (nm run lib : BL) (w : World) (h1 : nm.length ≤ 140737488351232) (h2 : run.length ≤ 140737488351232) (h3 : lib.length ≤ 140737488351232) :
    Calls Try.prog 24 #[.agg #[.string (ba nm), .string (ba run), .string (ba lib)]] w fun e w' => ∃ b, e = .returned (.bool b) ∧ Below w.heap.size w w' ∧ (b = false → nm.length ≤ 4096 ∧ run.length ≤ 4096 ∧ lib.length ≤ 4096) := by
  have HB := hid (@bal w (.cells #[.string (ba nm), .string (ba run), .string (ba lib)] 57))
  have e1 : (ba nm).size = nm.length := ba_size _
  have e2 : (ba run).size = run.length := ba_size _
  have e3 : (ba lib).size = lib.length := ba_size _
  by_cases g1 : nm.length ≤ 4096
  · have d1 : decide ((4096 : Int) < (nm.length : Int)) = false := by simp; omega
    by_cases g2 : run.length ≤ 4096
    · have d2 : decide ((4096 : Int) < (run.length : Int)) = false := by simp; omega
      by_cases g3 : lib.length ≤ 4096
      · have d3 : decide ((4096 : Int) < (lib.length : Int)) = false := by simp; omega
        have HG := hid (show nm.length ≤ 4096 ∧ run.length ≤ 4096 ∧ lib.length ≤ 4096 from ⟨g1, g2, g3⟩)
        clear g1 g2 g3
        go_enter Try.func24, Try.ntmps24
        go_wp2_with fail
        go_ret
        exact ⟨false, rfl, HB.out, fun _ => HG.out⟩
      · have d3 : decide ((4096 : Int) < (lib.length : Int)) = true := by simp; omega
        clear g1 g2 g3
        go_enter Try.func24, Try.ntmps24
        go_wp2_with fail
        go_ret
        exact ⟨true, rfl, HB.out, fun h => by cases h⟩
    · have d2 : decide ((4096 : Int) < (run.length : Int)) = true := by simp; omega
      clear g1 g2
      go_enter Try.func24, Try.ntmps24
      go_wp2_with fail
      go_ret
      exact ⟨true, rfl, HB.out, fun h => by cases h⟩
  · have d1 : decide ((4096 : Int) < (nm.length : Int)) = true := by simp; omega
    clear g1
    go_enter Try.func24, Try.ntmps24
    go_wp2_with fail
    go_ret
    exact ⟨true, rfl, HB.out, fun h => by cases h⟩

theorem leavesName : leaves Try.prog 2 57 = [(0, 9), (1, 9), (2, 9)] := by kernel_rfl
theorem cellsName : Try.prog.cellsOf 57 = 3 := by kernel_rfl
section
variable {H : Type} {enc : TypeId × Value → H} {w : World} {held : Bool}
set_option maxRecDepth 100000 in
theorem open_name {r : Reach} {b0 : Nat} {v : Value} {d : DataW H} {ps : List MemPlace} (hv : Value.okWide Try.prog w r b0 57 v) (h : DataW.Trod enc Try.prog w 0 (fun _ => true) held 57 v d ps) (hz : (d.weights Try.prog 57).all (· ≤ reachBytes) = true) :
    ∃ (p q l : BL), v = .agg #[.string (ba p), .string (ba q), .string (ba l)] ∧ p.length ≤ 140737488351232 ∧ q.length ≤ 140737488351232 ∧ l.length ≤ 140737488351232 := by
  obtain ⟨cs, rfl, hsz, hc⟩ := open_agg (n := 2) Try.underlying57 hv h (small_of hz)
  rw [cellsName] at hsz
  rw [leavesName] at hc
  obtain ⟨l, hl⟩ : ∃ l, cs = ⟨l⟩ := ⟨cs.toList, rfl⟩
  subst hl
  match l, hsz with
  | [v0, v1, v2], _ =>
    obtain ⟨m0, y0, t0, s0⟩ := hc 0 9 (by simp) (by kernel_rfl) (by simp)
    obtain ⟨m1, y1, t1, s1⟩ := hc 1 9 (by simp) (by kernel_rfl) (by simp)
    obtain ⟨m2, y2, t2, s2⟩ := hc 2 9 (by simp) (by kernel_rfl) (by simp)
    obtain ⟨x0, rfl, hx0⟩ := leaf_string Try.underlying9 t0 s0
    obtain ⟨x1, rfl, hx1⟩ := leaf_string Try.underlying9 t1 s1
    obtain ⟨x2, rfl, hx2⟩ := leaf_string Try.underlying9 t2 s2
    rw [reach_is] at hx0 hx1 hx2
    exact ⟨x0, x1, x2, rfl, hx0, hx1, hx2⟩
end
end Go.Proofs.Ytnepccjcjkeneaa
