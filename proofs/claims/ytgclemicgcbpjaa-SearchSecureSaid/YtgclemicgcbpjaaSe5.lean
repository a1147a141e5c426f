/- SearchSecure: the walk. -/
import Derived.Test.YtgclemicgcbpjaaSe
namespace Go.Proofs.Ytgclemicgcbpjaa
open Go.ChangeShapes Go.WideShapes Go.ChangeAt Go.RowKit Go.Sort
attribute [local go_sem] Oper.semAt_some

theorem secure_lib (name run lib other : BL) : pathsN name run other true = pathsN name run lib true := rfl
theorem secure_no (name run lib : BL) : pathsN name run [] false = pathsN name run lib true := by
  have : dirsL run [] false = dirsL run lib true := by unfold dirsL listL; simp
  unfold pathsN
  rw [this]
theorem secure_sub (name run lib : BL) : List.Sublist (pathsN name run lib true) (pathsN name run lib false) := by
  unfold pathsN
  split
  · exact List.Sublist.refl _
  · refine List.Sublist.map _ ?_
    unfold dirsL
    refine List.Sublist.append (List.Sublist.append (List.Sublist.refl _) ?_) (List.Sublist.refl _)
    simp
theorem pathsN_len {name run lib p : BL} {sec : Bool} (h : p ∈ pathsN name run lib sec) : p.length ≤ name.length + run.length + lib.length + 9 := by
  unfold pathsN at h
  split at h
  · rw [List.mem_singleton.1 h]; omega
  · obtain ⟨d, hd, rfl⟩ := List.mem_map.1 h
    have h1 := dirsL_len hd
    unfold joinL
    split
    · omega
    · split <;> simp <;> omega
theorem pathsN_many (name run lib : BL) (sec : Bool) : (pathsN name run lib sec).length ≤ run.length + lib.length + 9 := by
  unfold pathsN
  split
  · simp
  · rw [List.length_map]; have := dirsL_many run lib sec; omega
theorem eqT_me (l : List BL) : eqT l l = true := by simp [eqT]
theorem sub_hit {x : BL} {a b : List BL} (h : List.Sublist (x :: a) (x :: b)) : List.Sublist a b := List.cons_sublist_cons.1 h
theorem sub_miss {x y : BL} {a b : List BL} (h : List.Sublist (y :: a) (x :: b)) (hne : ¬ x = y) : List.Sublist (y :: a) b := by
  cases h with
  | cons _ h => exact h
  | cons_cons _ h => exact absurd rfl hne

theorem nlarge_any (nm run lib : BL) (w : World) (h1 : nm.length ≤ 140737488351232) (h2 : run.length ≤ 140737488351232) (h3 : lib.length ≤ 140737488351232) :
    Calls Try.prog 26 #[.agg #[.string (ba nm), .string (ba run), .string (ba lib)]] w fun e w' => ∃ b, e = .returned (.bool b) ∧ Below w.heap.size w w' ∧ (b = false → nm.length ≤ 4096 ∧ run.length ≤ 4096 ∧ lib.length ≤ 4096) := by
  have HB := hid (@bal w (.cells #[.string (ba nm), .string (ba run), .string (ba lib)] 66))
  have e1 : (ba nm).size = nm.length := ba_size _
  have e2 : (ba run).size = run.length := ba_size _
  have e3 : (ba lib).size = lib.length := ba_size _
  by_cases g1 : nm.length ≤ 4096
  · have d1 : decide ((4096 : Int) < (nm.length : Int)) = false := by simp; omega
    by_cases g2 : run.length ≤ 4096
    · have d2 : decide ((4096 : Int) < (run.length : Int)) = false := by simp; omega
      by_cases g3 : lib.length ≤ 4096
      · have d3 : decide ((4096 : Int) < (lib.length : Int)) = false := by simp; omega
        have HG := hid (show nm.length ≤ 4096 ∧ run.length ≤ 4096 ∧ lib.length ≤ 4096 from ⟨g1, g2, g3⟩)
        clear g1 g2 g3
        go_enter Try.func26, Try.ntmps26
        go_wp2_with fail
        go_ret
        exact ⟨false, rfl, HB.out, fun _ => HG.out⟩
      · have d3 : decide ((4096 : Int) < (lib.length : Int)) = true := by simp; omega
        clear g1 g2 g3
        go_enter Try.func26, Try.ntmps26
        go_wp2_with fail
        go_ret
        exact ⟨true, rfl, HB.out, fun h => by cases h⟩
    · have d2 : decide ((4096 : Int) < (run.length : Int)) = true := by simp; omega
      clear g1 g2
      go_enter Try.func26, Try.ntmps26
      go_wp2_with fail
      go_ret
      exact ⟨true, rfl, HB.out, fun h => by cases h⟩
  · have d1 : decide ((4096 : Int) < (nm.length : Int)) = true := by simp; omega
    clear g1
    go_enter Try.func26, Try.ntmps26
    go_wp2_with fail
    go_ret
    exact ⟨true, rfl, HB.out, fun h => by cases h⟩

set_option maxRecDepth 100000 in
set_option maxHeartbeats 4000000 in
theorem searchSecure_walk (nm run lib ot : BL) (w : World) (h1 : nm.length ≤ 140737488351232) (h2 : run.length ≤ 140737488351232) (h3 : lib.length ≤ 140737488351232) (h4 : ot.length ≤ 140737488351232) :
    Calls Try.prog 8 #[.agg #[.string (ba nm), .string (ba run), .string (ba lib)], .string (ba ot)] w fun e' w' => e' = .returned (.bool true) ∧ Below w.heap.size w w' := by
  obtain ⟨W0, hW0⟩ : ∃ W0, W0 = w.alloc (.cells #[.string (ba nm), .string (ba run), .string (ba lib)] 66) := ⟨_, rfl⟩
  have hb : Below w.heap.size w W0 := by rw [hW0]; exact bal _
  have hr : Row W0 w.heap.size 66 [.string (ba nm), .string (ba run), .string (ba lib)] := by rw [hW0]; exact Row.new w 66 [.string (ba nm), .string (ba run), .string (ba lib)]
  have HB0 := hid hb
  have HR0 := hid hr
  have e4 : (ba ot).size = ot.length := ba_size _
  have x := hr.three
  obtain ⟨x0, x1, x2⟩ := x
  have l0 := hr.lt
  clear hb hr
  go_enter Try.func8, Try.ntmps8
  go_wp2_with fail
  rw [← hW0]
  clear hW0
  go_wp2_with fail
  refine (nlarge_any nm run lib W0 h1 h2 h3).mono ?_
  rintro e' w1 ⟨b, rfl, hb, hsm⟩
  have HB1 := hid (HB0.out.trans (hb.mono HB0.out.size))
  have HR1 := hid (HR0.out.below hb HR0.out.lt)
  have HSM := hid hsm
  clear hsm hb x0 x1 x2 l0
  cases b
  · obtain ⟨s1, s2, s3⟩ := HSM.out rfl
    clear h1 h2 h3
    by_cases h5 : ot.length ≤ 4096
    · have d5 : decide ((4096 : Int) < (ot.length : Int)) = false := by simp; omega
      have HPM := hid (fun lb sec => pathsN_many nm run lb sec)
      have HPA := hid (fun (wr : World) (_ : Below w1.heap.size w1 wr) => paths_any nm run lib true wr (by omega) (by omega) (by omega))
      have HPB := hid (fun (wr : World) (_ : Below w1.heap.size w1 wr) => paths_any nm run ot true wr (by omega) (by omega) (by omega))
      have HPC := hid (fun (wr : World) (_ : Below w1.heap.size w1 wr) => paths_any nm run [] false wr (by omega) (by omega) (by simp))
      have HPD := hid (fun (wr : World) (_ : Below w1.heap.size w1 wr) => paths_any nm run lib false wr (by omega) (by omega) (by omega))
      rw [secure_lib nm run lib ot] at HPB
      rw [secure_no nm run lib] at HPC
      have HSUB := hid (secure_sub nm run lib)
      have hA : (pathsN nm run lib true).length ≤ 20000 := by have := pathsN_many nm run lib true; omega
      have hAL : (pathsN nm run lib false).length ≤ 20000 := by have := pathsN_many nm run lib false; omega
      clear HPM
      generalize pathsN nm run lib true = A at *
      generalize pathsN nm run lib false = AL at *
      obtain ⟨x0, x1, x2⟩ := HR1.out.three
      have l0 := HR1.out.lt
      clear h5 h4
      go_wp2_with fail
      refine (HPA.out w1 (Below.refl _ _)).mono ?_
      rintro e' w2 ⟨v, rfl, ho, hb⟩
      obtain ⟨aa, ac, rfl, hca, _⟩ := own_cel ho
      have HCA := hid hca
      have HW2 := hid hb
      have hr2 := HR1.out.below HW2.out HR1.out.lt
      clear ho hb hca x0 x1 x2 l0
      obtain ⟨x0, x1, x2⟩ := hr2.three
      have l0 := hr2.lt
      clear hr2
      go_wp2_with fail
      refine (HPB.out w2 HW2.out).mono ?_
      rintro e' w3 ⟨v, rfl, ho, hb⟩
      obtain ⟨ba_, bc, rfl, hcb, _⟩ := own_cel ho
      have HCB := hid hcb
      have HCA := hid (HCA.out.below' hb)
      have HW3 := hid (bthen HW2.out hb)
      have hr2 := HR1.out.below HW3.out HR1.out.lt
      clear ho hb hcb x0 x1 x2 l0
      obtain ⟨x0, x1, x2⟩ := hr2.three
      have l0 := hr2.lt
      clear hr2
      go_wp2_with fail
      refine (HPC.out w3 HW3.out).mono ?_
      rintro e' w4 ⟨v, rfl, ho, hb⟩
      obtain ⟨ca, cc, rfl, hcc, _⟩ := own_cel ho
      have HCC := hid hcc
      have HCA := hid (HCA.out.below' hb)
      have HCB := hid (HCB.out.below' hb)
      have HW4 := hid (bthen HW3.out hb)
      have hr2 := HR1.out.below HW4.out HR1.out.lt
      clear ho hb hcc x0 x1 x2 l0
      obtain ⟨x0, x1, x2⟩ := hr2.three
      have l0 := hr2.lt
      clear hr2
      go_wp2_with fail
      refine (HPD.out w4 HW4.out).mono ?_
      rintro e' w5 ⟨v, rfl, ho, hb⟩
      obtain ⟨da, dc, rfl, hcd, _⟩ := own_cel ho
      have HCD := hid hcd
      have HCA := hid (HCA.out.below' hb)
      have HCB := hid (HCB.out.below' hb)
      have HCC := hid (HCC.out.below' hb)
      have HW5 := hid (bthen HB1.out (bthen HW4.out hb))
      clear ho hb hcd x0 x1 x2 l0
      go_wp2_with fail
      go_loopw [9, 10] (fun kv iv wr => Below w5.heap.size w5 wr ∧ ∃ k i : Nat, k ≤ A.length ∧ i ≤ AL.length ∧ kv = .int .i64 k ∧ iv = .int .i64 i ∧ List.Sublist (A.drop k) (AL.drop i)) (fun _ iv _ => AL.length - (intOf iv).toNat)
      case atStart => exact ⟨Below.refl _ _, 0, 0, Nat.zero_le _, Nat.zero_le _, rfl, rfl, HSUB.out⟩
      case round =>
        obtain ⟨hbw, k, i, hk, hi, rfl, rfl, hsub⟩ := hrel
        have HBW := hid hbw
        have HSB := hid hsub
        clear hbw hsub
        by_cases hin : i < AL.length ∧ k < A.length
        · obtain ⟨hi2, hk2⟩ := hin
          have d1 : decide ((i : Int) < (AL.length : Int)) = true := by simp; omega
          have d1n : decide (i < AL.length) = true := by simp; omega
          have d2 : decide ((k : Int) < (A.length : Int)) = true := by simp; omega
          have d2n : decide (k < A.length) = true := by simp; omega
          obtain ⟨b, o, rfl, hcell⟩ := (HCD.out.below' HBW.out).some_of (by simp [strs]; omega)
          have g := strs_at hcell hi2
          obtain ⟨b', o', rfl, hcell'⟩ := (HCA.out.below' HBW.out).some_of (by simp [strs]; omega)
          have g' := strs_at hcell' hk2
          have HD1 := hid (List.drop_eq_getElem_cons hi2)
          have HD2 := hid (List.drop_eq_getElem_cons hk2)
          generalize AL[i] = p at *
          generalize A[k] = q at *
          have hq := ba_beq2 p q
          have hb1 := World.block_lt_of_cell? _ _ g
          have hb2 := World.block_lt_of_cell? _ _ g'
          clear hcell hcell'
          by_cases hpq : p = q
          · rw [decide_eq_true hpq] at hq
            have HNX := hid (show List.Sublist (A.drop (k + 1)) (AL.drop (i + 1)) from by have := HSB.out; rw [HD1.out, HD2.out, hpq] at this; exact sub_hit this)
            clear hpq
            go_wp2_with fail
            go_quiet (fail)
            go_wp2_with fail
            go_roundw
            case rel => exact ⟨bdN HBW.out _, k + 1, i + 1, by omega, by omega, by go_num, by go_num, HNX.out⟩
            case measure => simp [intOf]; omega
          · rw [decide_eq_false hpq] at hq
            have HNX := hid (show List.Sublist (A.drop k) (AL.drop (i + 1)) from by have := HSB.out; rw [HD1.out, HD2.out] at this; rw [HD2.out]; exact sub_miss this hpq)
            clear hpq
            go_wp2_with fail
            go_quiet (fail)
            go_wp2_with fail
            go_roundw
            case rel => exact ⟨bdN HBW.out _, k, i + 1, by omega, by omega, rfl, by go_num, HNX.out⟩
            case measure => simp [intOf]; omega
        · have hkA : k = A.length := by
            by_cases hk2 : k < A.length
            · have hi2 : AL.length ≤ i := by omega
              have := HSB.out
              rw [List.drop_eq_nil_of_le hi2, List.sublist_nil, List.drop_eq_nil_iff] at this
              omega
            · omega
          have HE1 := hid (eqTexts_any aa ba_ A.length ac A.length bc A A wr (HCA.out.below' HBW.out) (HCB.out.below' HBW.out) (by omega) (by omega))
          rw [eqT_me] at HE1
          have HE2 := hid (fun (wx : World) (hs : Below wr.heap.size wr wx) => eqTexts_any aa ca A.length ac A.length cc A A wx ((HCA.out.below' HBW.out).below' hs) ((HCC.out.below' HBW.out).below' hs) (by omega) (by omega))
          rw [eqT_me] at HE2
          have hkk : ((A.length : Int) == (A.length : Int)) = true := by simp
          have d2 : decide ((A.length : Int) < (A.length : Int)) = false := by simp
          have d2n : decide (A.length < A.length) = false := by simp
          subst hkA
          by_cases hi2 : i < AL.length
          all_goals
            first
              | have d1 : decide ((i : Int) < (AL.length : Int)) = true := by simp; omega
              | have d1 : decide ((i : Int) < (AL.length : Int)) = false := by simp; omega
            first
              | have d1n : decide (i < AL.length) = true := by simp; omega
              | have d1n : decide (i < AL.length) = false := by simp; omega
            go_wp2_with fail
            refine (HE1.out).mono ?_
            rintro e' w6 ⟨rfl, n6, rfl⟩
            go_wp2_with fail
            refine (HE2.out _ (bdN (Below.refl _ _) n6)).mono ?_
            rintro e' w7 ⟨rfl, n7, rfl⟩
            go_wp2_with fail
            refine (works15_any _).mono ?_
            rintro e' w8 ⟨rfl, hb⟩
            have HB8 := hid (bthen (bthen HW5.out (bdN HBW.out (n6 + n7))) hb)
            clear hb
            go_wp2_with fail
            go_ret
            exact ⟨rfl, HB8.out⟩
    · have d5 : decide ((4096 : Int) < (ot.length : Int)) = true := by simp; omega
      clear h5
      go_wp2_with fail
      refine (works15_any _).mono ?_
      rintro e' w3 ⟨rfl, hb2⟩
      have HB3 := hid (bthen HB1.out hb2)
      clear hb2
      go_wp2_with fail
      go_ret
      exact ⟨rfl, HB3.out⟩
  · clear HSM
    go_wp2_with fail
    refine (works15_any _).mono ?_
    rintro e' w3 ⟨rfl, hb2⟩
    have HB3 := hid (bthen HB1.out hb2)
    clear hb2
    go_wp2_with fail
    go_ret
    exact ⟨rfl, HB3.out⟩

theorem leavesName : leaves Try.prog 2 66 = [(0, 9), (1, 9), (2, 9)] := by kernel_rfl
theorem cellsName : Try.prog.cellsOf 66 = 3 := by kernel_rfl
section
variable {H : Type} {enc : TypeId × Value → H} {w : World} {held : Bool}
set_option maxRecDepth 100000 in
theorem open_name {r : Reach} {b0 : Nat} {v : Value} {d : DataW H} {ps : List MemPlace} (hv : Value.okWide Try.prog w r b0 66 v) (h : DataW.Trod enc Try.prog w 0 (fun _ => true) held 66 v d ps) (hz : (d.weights Try.prog 66).all (· ≤ reachBytes) = true) :
    ∃ (p q l : BL), v = .agg #[.string (ba p), .string (ba q), .string (ba l)] ∧ p.length ≤ 140737488351232 ∧ q.length ≤ 140737488351232 ∧ l.length ≤ 140737488351232 := by
  obtain ⟨cs, rfl, hsz, hc⟩ := open_agg (n := 2) Try.underlying66 hv h (small_of hz)
  rw [cellsName] at hsz
  rw [leavesName] at hc
  obtain ⟨l, hl⟩ : ∃ l, cs = ⟨l⟩ := ⟨cs.toList, rfl⟩
  subst hl
  match l, hsz with
  | [v0, v1, v2], _ =>
    obtain ⟨m0, y0, t0, s0⟩ := hc 0 9 (by simp) (by kernel_rfl) (by simp)
    obtain ⟨m1, y1, t1, s1⟩ := hc 1 9 (by simp) (by kernel_rfl) (by simp)
    obtain ⟨m2, y2, t2, s2⟩ := hc 2 9 (by simp) (by kernel_rfl) (by simp)
    obtain ⟨x0, rfl, hx0⟩ := leaf_string Try.underlying9 t0 s0
    obtain ⟨x1, rfl, hx1⟩ := leaf_string Try.underlying9 t1 s1
    obtain ⟨x2, rfl, hx2⟩ := leaf_string Try.underlying9 t2 s2
    rw [reach_is] at hx0 hx1 hx2
    exact ⟨x0, x1, x2, rfl, hx0, hx1, hx2⟩
end
end Go.Proofs.Ytgclemicgcbpjaa
