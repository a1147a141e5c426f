
/- ShebangLines' walk. -/
import Derived.Test.YthamfhenadaapaaDoorU8
import Derived.Test.YthamfhenadaapaaDoorU11
import Derived.Test.YthamfhenadaapaaDoorU14
import Derived.Test.YthamfhenadaapaaDoorU15
namespace Go.Proofs.YthamfhenadaapaaDoor
open Go.RowKit Go.Sort
open Go.ChangeShapes Go.WideShapes Go.ChangeAt

theorem lineW_len (a b c : Nat) (i g : BL) : (lineW a b c i g).length ≤ a + i.length + b + (1 + g.length + c) := by
  unfold lineW
  split
  · simp only [List.length_append, gapL_len, List.length_nil]; omega
  · simp only [List.length_append, gapL_len, List.length_singleton]; omega

set_option maxRecDepth 100000 in
set_option maxHeartbeats 16000000 in
theorem shebangLines_walk (i g p : BL) (x0 x1 x2 : Int) (ao : Option Addr) (m c : Nat) (l2 : BL) (w : World) (hi : i.length ≤ 140737488351232) (hg : g.length ≤ 140737488351232) (hB : Byt w ao m l2) (hnil : ao = none → m = 0 ∧ c = 0) (hm : m ≤ 140737488351232) :
    Calls Tryd.prog 3 #[.agg #[.string (ba i), .string (ba g), .string (ba p)], .agg #[.int .i64 x0, .int .i64 x1, .int .i64 x2], .slice ao m c] w fun e' w' => e' = .returned (.bool true) ∧ Below w.heap.size w w' := by
  obtain ⟨W0, hW0⟩ : ∃ W0, W0 = (w.alloc (.cells #[.string (ba i), .string (ba g), .string (ba p)] 23)).alloc (.cells #[.int .i64 x0, .int .i64 x1, .int .i64 x2] 24) := ⟨_, rfl⟩
  have HB0 := hid (show Below w.heap.size w W0 by rw [hW0]; exact (bal _).alloc (by simp) _)
  have HX := hid (show Row W0 w.heap.size 23 [.string (ba i), .string (ba g), .string (ba p)] by rw [hW0]; exact (Row.new w 23 [.string (ba i), .string (ba g), .string (ba p)]).alloc _)
  have HY := hid (show Row W0 (w.heap.size + 1) 24 [.int .i64 x0, .int .i64 x1, .int .i64 x2] by
    rw [hW0]
    have := Row.new (w.alloc (.cells #[.string (ba i), .string (ba g), .string (ba p)] 23)) 24 [.int .i64 x0, .int .i64 x1, .int .i64 x2]
    rw [World.size_alloc] at this
    exact this)
  have HBY := hid (hB.below' HB0.out)
  have HNIL := hid hnil
  have zi : (ba i).size ≤ 140737488351232 := by rw [ba_size]; exact hi
  have zg : (ba g).size ≤ 140737488351232 := by rw [ba_size]; exact hg
  have HSI := hid (ba_size i)
  have HSG := hid (ba_size g)
  obtain ⟨m0, hm0, G0⟩ := gap_any x0 w
  obtain ⟨m1, hm1, G1⟩ := gap_any x1 w
  obtain ⟨m2, hm2, G2⟩ := gap_any x2 w
  have HG0 := hid G0
  have HG1 := hid G1
  have HG2 := hid G2
  have HM := hid (show m0 ≤ 20 ∧ m1 ≤ 20 ∧ m2 ≤ 20 by omega)
  obtain ⟨a0, a1, a2⟩ := HX.out.three'
  obtain ⟨b0, b1, b2⟩ := HY.out.three'
  have hl1 := HX.out.lt
  have hl2 := HY.out.lt
  have hqI := ba_nil (ba i)
  have hqG := ba_nil (ba g)
  rw [show (ba i).data.toList = i from rfl] at hqI
  rw [show (ba g).data.toList = g from rfl] at hqG
  have HQI := hid hqI
  have HQG := hid hqG
  clear hB hnil hi hg G0 G1 G2 hm0 hm1 hm2 hqI hqG
  go_enter Tryd.func3, Tryd.ntmps3
  have hW0' := hW0.symm
  clear hW0
  by_cases h1 : (200 : Int) < ((ba i).size : Int)
  · have d1 : decide ((200 : Int) < ((ba i).size : Int)) = true := decide_eq_true h1
    go_wp2_with fail
    refine (works21_any _).mono ?_
    rintro e' wz ⟨rfl, hbz⟩
    have HBZ := hid (bthen HB0.out hbz)
    clear hbz
    go_wp2_with fail
    go_ret
    exact ⟨rfl, HBZ.out⟩
  have d1 : decide ((200 : Int) < ((ba i).size : Int)) = false := decide_eq_false h1
  by_cases h2 : (200 : Int) < ((ba g).size : Int)
  · have d2 : decide ((200 : Int) < ((ba g).size : Int)) = true := decide_eq_true h2
    go_wp2_with fail
    refine (works21_any _).mono ?_
    rintro e' wz ⟨rfl, hbz⟩
    have HBZ := hid (bthen HB0.out hbz)
    clear hbz
    go_wp2_with fail
    go_ret
    exact ⟨rfl, HBZ.out⟩
  have d2 : decide ((200 : Int) < ((ba g).size : Int)) = false := decide_eq_false h2
  by_cases h3 : (4096 : Int) < (m : Int)
  · have d3 : decide ((4096 : Int) < (m : Int)) = true := decide_eq_true h3
    go_wp2_with fail
    refine (works21_any _).mono ?_
    rintro e' wz ⟨rfl, hbz⟩
    have HBZ := hid (bthen HB0.out hbz)
    clear hbz
    go_wp2_with fail
    go_ret
    exact ⟨rfl, HBZ.out⟩
  have d3 : decide ((4096 : Int) < (m : Int)) = false := decide_eq_false h3
  have HMM := hid (show m ≤ 4096 by omega)
  have HLL := hid (show (lineW m0 m1 m2 i g).length ≤ 481 by have := lineW_len m0 m1 m2 i g; have := HM.out; have := HSI.out; have := HSG.out; omega)
  have zi2 : (ba i).size ≤ 200 := by omega
  have zg2 : (ba g).size ≤ 200 := by omega
  clear zi zg h1 h2 h3 hm
  by_cases hin : i = []
  · have hqI := HQI.out
    rw [decide_eq_true hin] at hqI
    clear hin
    go_wp2_with fail
    refine (works21_any _).mono ?_
    rintro e' wz ⟨rfl, hbz⟩
    have HBZ := hid (bthen HB0.out hbz)
    clear hbz
    go_wp2_with fail
    go_ret
    exact ⟨rfl, HBZ.out⟩
  have hqI := HQI.out
  rw [decide_eq_false hin] at hqI
  have HIN := hid hin
  clear hin
  have HO1 := hid (odd_any (ba i) true W0 (by omega))
  rw [show (ba i).data.toList = i from rfl] at HO1
  have HO2 := hid (odd_any (ba g) false W0 (by omega))
  rw [show (ba g).data.toList = g from rfl] at HO2
  go_wp2_with fail
  clear hW0'
  refine (HO1.out).mono ?_
  rintro e' w1 ⟨t1, rfl, hw1, ho1⟩
  subst hw1
  have HOI0 := hid ho1
  clear ho1
  cases t1
  rotate_left
  · go_wp2_with fail
    refine (works21_any _).mono ?_
    rintro e' wz ⟨rfl, hbz⟩
    have HBZ := hid (bthen HB0.out hbz)
    clear hbz
    go_wp2_with fail
    go_ret
    exact ⟨rfl, HBZ.out⟩
  have HOI := hid (HOI0.out rfl)
  go_wp2_with fail
  refine (HO2.out).mono ?_
  rintro e' w1 ⟨t2, rfl, hw1, ho2⟩
  subst hw1
  have HOG0 := hid ho2
  clear ho2
  cases t2
  rotate_left
  · go_wp2_with fail
    refine (works21_any _).mono ?_
    rintro e' wz ⟨rfl, hbz⟩
    have HBZ := hid (bthen HB0.out hbz)
    clear hbz
    go_wp2_with fail
    go_ret
    exact ⟨rfl, HBZ.out⟩
  have HOG := hid (HOG0.out rfl)
  have z0 : (ba (gapL m0)).size ≤ 20 := by rw [ba_size, gapL_len]; exact HM.out.1
  have z1 : (ba (gapL m1)).size ≤ 20 := by rw [ba_size, gapL_len]; exact HM.out.2.1
  have z2 : (ba (gapL m2)).size ≤ 20 := by rw [ba_size, gapL_len]; exact HM.out.2.2
  obtain ⟨Z0, hZ0⟩ : ∃ Z, Z = ba (gapL m0) := ⟨_, rfl⟩
  obtain ⟨Z1, hZ1⟩ : ∃ Z, Z = ba (gapL m1) := ⟨_, rfl⟩
  obtain ⟨Z2, hZ2⟩ : ∃ Z, Z = ba (gapL m2) := ⟨_, rfl⟩
  rw [← hZ0] at z0 HG0
  rw [← hZ1] at z1 HG1
  rw [← hZ2] at z2 HG2
  have HZ0 := hid hZ0
  have HZ1 := hid hZ1
  have HZ2 := hid hZ2
  clear hZ0 hZ1 hZ2
  have c1 : ¬ 9223372036854775807 < 2 + Z0.size := by omega
  have c2 : ¬ 9223372036854775807 < 2 + Z0.size + (ba i).size := by omega
  have c3 : ¬ 9223372036854775807 < 2 + Z0.size + (ba i).size + Z1.size := by omega
  go_wp2_with fail
  have A0 := rg_cell a0
  have A1 := rg_cell a1
  have B0 := rg_cell b0
  have B1 := rg_cell b1
  have cg0 := hid (fun (d : Nat) (os : Array Obj) => rg_same (HG0.out (rg W0 d os)))
  have cg1 := hid (fun (d : Nat) (os : Array Obj) => rg_same (HG1.out (rg W0 d os)))
  clear a0 a1 a2 b0 b1 b2
  refine region_rg (by kernel_rfl) (by kernel_rfl) ?_
  repeat (quiet_step (first | with_reducible exact cg0.out _ _ | with_reducible exact cg1.out _ _))
  refine wpQuiet_nil ?_
  intro _ hw'
  obtain ⟨⟨dq, osq⟩, hw''⟩ := hw'
  subst hw''
  have HBQ := hid (show Below W0.heap.size W0 (rg W0 dq osq) from rg_below _ _ _)
  obtain ⟨W1, hW1⟩ : ∃ W1, W1 = rg W0 dq osq := ⟨_, rfl⟩
  rw [← hW1] at HBQ
  try rw [← hW1]
  clear hW1 A0 A1 B0 B1 cg0 cg1
  obtain ⟨b0', b1', b2'⟩ := (HY.out.below HBQ.out HY.out.lt).three'
  obtain ⟨a0', a1', a2'⟩ := (HX.out.below HBQ.out HX.out.lt).three'
  have hl1' := (HX.out.below HBQ.out HX.out.lt).lt
  have hl2' := (HY.out.below HBQ.out HY.out.lt).lt
  by_cases hgn : g = []
  · have hqG := HQG.out
    rw [decide_eq_true hgn] at hqG
    have HBW := hid (bthen HB0.out HBQ.out)
    obtain ⟨S, hS⟩ : ∃ S, S = ByteArray.mk #[35, 33] ++ Z0 ++ ba i ++ Z1 := ⟨_, rfl⟩
    have HSL := hid (show S.data.toList = [35, 33] ++ lineW m0 m1 m2 i g by
      rw [hS, HZ0.out, HZ1.out, show ByteArray.mk #[35, 33] = ba [35, 33] from rfl, ba_append, ba_append, ba_append, ba_list]
      unfold lineW
      rw [if_pos hgn, List.append_nil]
      simp only [List.append_assoc])
    try rw [← hS]
    clear hS hgn
    have hsz : S.size = (lineW m0 m1 m2 i g).length + 2 := by rw [← size_list, HSL.out]; simp
    have hll : (lineW m0 m1 m2 i g).length ≤ 500 := by have := HLL.out; omega
    obtain ⟨n8, hn8⟩ : ∃ n8, n8 = (lineW m0 m1 m2 i g).length := ⟨_, rfl⟩
    rw [← hn8] at hsz hll
    have e8 : (S.size : Int) - 2 = (n8 : Int) := by omega
    have hzS : S.size ≤ 600 := by omega
    have HN8 := hid hn8
    have HSZ := hid hsz
    clear hn8 hsz
    obtain ⟨cap, WC, hcv, hrd⟩ := conv_ready (W1) (S ++ ByteArray.mk #[10])
    have hts : (S ++ ByteArray.mk #[10]).size = S.size + 1 := by rw [ByteArray.size_append]; rfl
    rw [hts] at hcv hrd
    clear hts
    have HRD := hid hrd
    have HTL := hid (show (S ++ ByteArray.mk #[10]).data.toList ++ l2 = [35, 33] ++ lineW m0 m1 m2 i g ++ [10] ++ l2 by rw [ByteArray.data_append, Array.toList_append, HSL.out])
    have HB5 := hid (show Byt WC ao m l2 from (HBY.out.below' (HBQ.out)).below' hrd.below)
    have HNB := hid (show S.size + 1 + m ≤ 1000000 by have := HMM.out; omega)
    have HPL := hid (lineW_par (a := m0) (b := m1) (c := m2) (behind := l2) HOI.out HIN.out HOG.out)
    rw [← HTL.out] at HPL
    have hnz : ¬ 9223372036854775807 < S.size + 1 := by omega
    have hbl : Below (W1).heap.size (W1) WC := hrd.below
    have HBL := hid hbl
    clear hrd hbl
    by_cases h127 : 127 < n8
    · have d8 : decide ((127 : Int) < (n8 : Int)) = true := by simp; omega
      rw [if_pos (by rw [← HN8.out]; exact h127)] at HPL
      clear h127
      go_wp2_with (at_builtin; go_must (refine wpList_app_ready rfl _ _ rfl _ _ cap _ HRD.out rfl ao m c l2 rfl HB5.out HNIL.out HNB.out ?_; intro a' c' w9 hby hle9 hbel9; have HBY9 := hid hby; have HLE9 := hid hle9; have HBEL9 := hid hbel9; clear hby hle9 hbel9))
      have HPA := hid (parse_any a' _ c' _ w9 HBY9.out HLE9.out HNB.out)
      unfold ParPost parV at HPA
      rw [HPL.out] at HPA
      refine (HPA.out).mono ?_
      rintro e' w10 ⟨rfl, hb10⟩
      have HB10 := hid (bthen (bthen HBW.out HBEL9.out) hb10)
      clear hb10
      go_wp2_with fail
      refine (works21_any _).mono ?_
      rintro e' wz ⟨rfl, hbz⟩
      have HBZ := hid (bthen HB10.out hbz)
      clear hbz
      go_wp2_with fail
      go_ret
      exact ⟨rfl, HBZ.out⟩
    · have d8 : decide ((127 : Int) < (n8 : Int)) = false := decide_eq_false (by omega)
      rw [if_neg (by rw [← HN8.out]; exact h127)] at HPL
      have hqi := ba_beq i i
      have hqg := ba_beq g g
      simp only [decide_true] at hqi hqg
      clear h127
      go_wp2_with (at_builtin; go_must (refine wpList_app_ready rfl _ _ rfl _ _ cap _ HRD.out rfl ao m c l2 rfl HB5.out HNIL.out HNB.out ?_; intro a' c' w9 hby hle9 hbel9; have HBY9 := hid hby; have HLE9 := hid hle9; have HBEL9 := hid hbel9; clear hby hle9 hbel9))
      have HPA := hid (parse_any a' _ c' _ w9 HBY9.out HLE9.out HNB.out)
      unfold ParPost parV at HPA
      rw [HPL.out] at HPA
      have HX9 := hid ((HX.out.below (HBQ.out) HX.out.lt).below HBEL9.out (Nat.lt_of_lt_of_le HX.out.lt (HBQ.out).size))
      obtain ⟨x0', x1', x2'⟩ := HX9.out.three'
      have hl9 := HX9.out.lt
      refine (HPA.out).mono ?_
      rintro e' w10 ⟨rfl, hb10⟩
      have HB10 := hid (bthen (bthen HBW.out HBEL9.out) hb10)
      have HX10 := hid (HX9.out.below hb10 HX9.out.lt)
      clear hb10 x0' x1' x2' hl9
      obtain ⟨x0', x1', x2'⟩ := HX10.out.three'
      have hl9 := HX10.out.lt
      go_wp2_with fail
      refine (works21_any _).mono ?_
      rintro e' wz ⟨rfl, hbz⟩
      have HBZ := hid (bthen HB10.out hbz)
      clear hbz
      go_wp2_with fail
      go_ret
      exact ⟨rfl, HBZ.out⟩
  · have hqG := HQG.out
    rw [decide_eq_false hgn] at hqG
    obtain ⟨R, hR⟩ : ∃ R, R = ByteArray.mk #[35, 33] ++ Z0 ++ ba i ++ Z1 := ⟨_, rfl⟩
    have hRz : R.size ≤ 300 := by
      rw [hR, ByteArray.size_append, ByteArray.size_append, ByteArray.size_append]
      have : (ByteArray.mk #[35, 33]).size = 2 := rfl
      omega
    try rw [← hR]
    have c4 : ¬ 9223372036854775807 < R.size + 1 := by omega
    have c5 : ¬ 9223372036854775807 < R.size + 1 + (ba g).size := by omega
    have c6 : ¬ 9223372036854775807 < R.size + 1 + (ba g).size + Z2.size := by omega
    have HRR := hid hR
    have HGN := hid hgn
    clear hR hgn
    go_wp2_with fail
    have A0 := rg_cell a0'
    have A1 := rg_cell a1'
    have B2 := rg_cell b2'
    have cg2 := hid (fun (d : Nat) (os : Array Obj) => rg_same (HG2.out (rg W1 d os)))
    clear a0' a1' a2' b0' b1' b2'
    refine region_rg (by kernel_rfl) (by kernel_rfl) ?_
    repeat (quiet_step (with_reducible exact cg2.out _ _))
    refine wpQuiet_nil ?_
    intro _ hw'
    obtain ⟨⟨dq, osq⟩, hw''⟩ := hw'
    subst hw''
    have HBQ2 := hid (show Below W0.heap.size W0 (rg W1 dq osq) from HBQ.out.trans ((rg_below _ _ _).mono HBQ.out.size))
    obtain ⟨W2, hW2⟩ : ∃ W2, W2 = rg W1 dq osq := ⟨_, rfl⟩
    rw [← hW2] at HBQ2
    try rw [← hW2]
    clear hW2 A0 A1 B2 cg2
    have HBW := hid (bthen HB0.out HBQ2.out)
    obtain ⟨S, hS⟩ : ∃ S, S = R ++ ByteArray.mk #[32] ++ ba g ++ Z2 := ⟨_, rfl⟩
    have HSL := hid (show S.data.toList = [35, 33] ++ lineW m0 m1 m2 i g by
      rw [hS, HRR.out, HZ0.out, HZ1.out, HZ2.out, show ByteArray.mk #[35, 33] = ba [35, 33] from rfl, show ByteArray.mk #[32] = ba [32] from rfl, ba_append, ba_append, ba_append, ba_append, ba_append, ba_append, ba_list]
      unfold lineW
      rw [if_neg HGN.out]
      simp only [List.append_assoc])
    try rw [← hS]
    clear hS hl1' hl2'
    have hsz : S.size = (lineW m0 m1 m2 i g).length + 2 := by rw [← size_list, HSL.out]; simp
    have hll : (lineW m0 m1 m2 i g).length ≤ 500 := by have := HLL.out; omega
    obtain ⟨n8, hn8⟩ : ∃ n8, n8 = (lineW m0 m1 m2 i g).length := ⟨_, rfl⟩
    rw [← hn8] at hsz hll
    have e8 : (S.size : Int) - 2 = (n8 : Int) := by omega
    have hzS : S.size ≤ 600 := by omega
    have HN8 := hid hn8
    have HSZ := hid hsz
    clear hn8 hsz
    obtain ⟨cap, WC, hcv, hrd⟩ := conv_ready (W2) (S ++ ByteArray.mk #[10])
    have hts : (S ++ ByteArray.mk #[10]).size = S.size + 1 := by rw [ByteArray.size_append]; rfl
    rw [hts] at hcv hrd
    clear hts
    have HRD := hid hrd
    have HTL := hid (show (S ++ ByteArray.mk #[10]).data.toList ++ l2 = [35, 33] ++ lineW m0 m1 m2 i g ++ [10] ++ l2 by rw [ByteArray.data_append, Array.toList_append, HSL.out])
    have HB5 := hid (show Byt WC ao m l2 from (HBY.out.below' (HBQ2.out)).below' hrd.below)
    have HNB := hid (show S.size + 1 + m ≤ 1000000 by have := HMM.out; omega)
    have HPL := hid (lineW_par (a := m0) (b := m1) (c := m2) (behind := l2) HOI.out HIN.out HOG.out)
    rw [← HTL.out] at HPL
    have hnz : ¬ 9223372036854775807 < S.size + 1 := by omega
    have hbl : Below (W2).heap.size (W2) WC := hrd.below
    have HBL := hid hbl
    clear hrd hbl
    by_cases h127 : 127 < n8
    · have d8 : decide ((127 : Int) < (n8 : Int)) = true := by simp; omega
      rw [if_pos (by rw [← HN8.out]; exact h127)] at HPL
      clear h127
      go_wp2_with (at_builtin; go_must (refine wpList_app_ready rfl _ _ rfl _ _ cap _ HRD.out rfl ao m c l2 rfl HB5.out HNIL.out HNB.out ?_; intro a' c' w9 hby hle9 hbel9; have HBY9 := hid hby; have HLE9 := hid hle9; have HBEL9 := hid hbel9; clear hby hle9 hbel9))
      have HPA := hid (parse_any a' _ c' _ w9 HBY9.out HLE9.out HNB.out)
      unfold ParPost parV at HPA
      rw [HPL.out] at HPA
      refine (HPA.out).mono ?_
      rintro e' w10 ⟨rfl, hb10⟩
      have HB10 := hid (bthen (bthen HBW.out HBEL9.out) hb10)
      clear hb10
      go_wp2_with fail
      refine (works21_any _).mono ?_
      rintro e' wz ⟨rfl, hbz⟩
      have HBZ := hid (bthen HB10.out hbz)
      clear hbz
      go_wp2_with fail
      go_ret
      exact ⟨rfl, HBZ.out⟩
    · have d8 : decide ((127 : Int) < (n8 : Int)) = false := decide_eq_false (by omega)
      rw [if_neg (by rw [← HN8.out]; exact h127)] at HPL
      have hqi := ba_beq i i
      have hqg := ba_beq g g
      simp only [decide_true] at hqi hqg
      clear h127
      go_wp2_with (at_builtin; go_must (refine wpList_app_ready rfl _ _ rfl _ _ cap _ HRD.out rfl ao m c l2 rfl HB5.out HNIL.out HNB.out ?_; intro a' c' w9 hby hle9 hbel9; have HBY9 := hid hby; have HLE9 := hid hle9; have HBEL9 := hid hbel9; clear hby hle9 hbel9))
      have HPA := hid (parse_any a' _ c' _ w9 HBY9.out HLE9.out HNB.out)
      unfold ParPost parV at HPA
      rw [HPL.out] at HPA
      have HX9 := hid ((HX.out.below (HBQ2.out) HX.out.lt).below HBEL9.out (Nat.lt_of_lt_of_le HX.out.lt (HBQ2.out).size))
      obtain ⟨x0', x1', x2'⟩ := HX9.out.three'
      have hl9 := HX9.out.lt
      refine (HPA.out).mono ?_
      rintro e' w10 ⟨rfl, hb10⟩
      have HB10 := hid (bthen (bthen HBW.out HBEL9.out) hb10)
      have HX10 := hid (HX9.out.below hb10 HX9.out.lt)
      clear hb10 x0' x1' x2' hl9
      obtain ⟨x0', x1', x2'⟩ := HX10.out.three'
      have hl9 := HX10.out.lt
      go_wp2_with fail
      refine (works21_any _).mono ?_
      rintro e' wz ⟨rfl, hbz⟩
      have HBZ := hid (bthen HB10.out hbz)
      clear hbz
      go_wp2_with fail
      go_ret
      exact ⟨rfl, HBZ.out⟩
end Go.Proofs.YthamfhenadaapaaDoor
