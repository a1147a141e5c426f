
/- hostellaw09: led: down the words alone. -/
import Derived.Test.YtncikcllhjhjmaaGreatDoorGu0
namespace Go.Proofs.YtncikcllhjhjmaaGreatDoor
open Go.RowKit Go.Sort Go.WideMaps Go.Maps Go.WideShapes Go.WideElems Go.MapKept Go.ChangeMaps
attribute [local go_sem] Oper.semAt_some

section
variable {w0 : World} {F : Nat} {t : FT} {p g h c m tb root : Nat} {s : CC} {ws : List Nat} {fr : Bool} {w : World}
theorem nodes_child {k f i : Nat} {kids : Nat → Tr} (hi : i < 512) {q : Nat} (h : q ∈ nodesT k (kids i)) : q ∈ nodesT (k + 1) (.nd f kids) := by
  show q ∈ f :: (List.range 512).flatMap fun i => nodesT k (kids i)
  exact List.mem_cons_of_mem _ (List.mem_flatMap.2 ⟨i, List.mem_range.2 hi, h⟩)
theorem nodes_self {k f : Nat} {kids : Nat → Tr} : f ∈ nodesT (k + 1) (.nd f kids) := by
  show f ∈ f :: (List.range 512).flatMap fun i => nodesT k (kids i)
  exact List.mem_cons_self ..
/-- What leads down: the leaf, and whether it is there. -/
def ledV (x : Tr) : Value := .tuple #[ldV x, .bool (!isNo x)]
theorem nd_bits (g : Nat) (hg : g < 1048576) : bits BinOp.and .u64 ((g * 4096 + 1 : Nat) : Int) 1 = 1 ∧ ((g * 4096 + 1 : Nat) : Int) / 4096 = (g : Int) ∧ bits BinOp.and .u64 ((g * 4096 + 1 : Nat) : Int) 4094 = 0 := by
  refine ⟨?_, by omega, ?_⟩
  · rw [show (1 : Int) = ((1 : Nat) : Int) from rfl, bits_and_u64_nat _ _ (by omega) (by omega)]
    congr 1
    rw [show (1 : Nat) = 2 ^ 1 - 1 from rfl, Nat.and_two_pow_sub_one_eq_mod]
    omega
  · rw [show (4094 : Int) = ((4094 : Nat) : Int) from rfl, bits_and_u64_nat _ _ (by omega) (by omega)]
    have e : (g * 4096 + 1) &&& 4094 = ((g * 4096 + 1) &&& 4095) &&& 4094 := by rw [Nat.and_assoc]; rfl
    rw [e, show (4095 : Nat) = 2 ^ 12 - 1 from rfl, Nat.and_two_pow_sub_one_eq_mod, show (g * 4096 + 1) % 2 ^ 12 = 1 by omega]
    rfl
theorem lf_bits (f pr : Nat) (cp : Bool) (hf : f < 1048576) (hp : pr ≤ 7) : bits BinOp.and .u64 ((wdT (.lf f pr cp) : Nat) : Int) 1 = 1 ∧ ((wdT (.lf f pr cp) : Nat) : Int) / 4096 = (f : Int) ∧ bits BinOp.and .u64 (((wdT (.lf f pr cp) : Nat) : Int) / 2) 7 = (pr : Int) ∧ bits BinOp.and .u64 ((wdT (.lf f pr cp) : Nat) : Int) 16 = (if cp then 16 else 0) ∧ bits BinOp.and .u64 (((wdT (.lf f pr cp) : Nat) : Int) / 32) 127 = 0 := by
  have hx := wdT_lt (cp := cp) hf hp
  have h1 : wdT (.lf f pr cp) / 4096 = f := by rw [wdT_lf]; cases cp <;> simp <;> omega
  have h2 : wdT (.lf f pr cp) / 2 % 8 = pr := by rw [wdT_lf]; cases cp <;> simp <;> omega
  have h3 : wdT (.lf f pr cp) / 16 % 2 = if cp then 1 else 0 := by rw [wdT_lf]; cases cp <;> simp <;> omega
  have h4 : wdT (.lf f pr cp) % 2 = 1 := by rw [wdT_lf]; cases cp <;> simp <;> omega
  have h5 : wdT (.lf f pr cp) / 32 % 128 = 0 := by rw [wdT_lf]; cases cp <;> simp <;> omega
  generalize wdT (.lf f pr cp) = x at *
  refine ⟨?_, by omega, ?_, ?_, ?_⟩
  · rw [show (1 : Int) = ((1 : Nat) : Int) from rfl, bits_and_u64_nat _ _ (by omega) (by omega)]
    congr 1
    rw [show (1 : Nat) = 2 ^ 1 - 1 from rfl, Nat.and_two_pow_sub_one_eq_mod]
    omega
  · rw [show (x : Int) / 2 = ((x / 2 : Nat) : Int) by omega, show (7 : Int) = ((7 : Nat) : Int) from rfl, bits_and_u64_nat _ _ (by omega) (by omega)]
    congr 1
    rw [show (7 : Nat) = 2 ^ 3 - 1 from rfl, Nat.and_two_pow_sub_one_eq_mod]
    exact h2
  · rw [show (16 : Int) = ((16 : Nat) : Int) from rfl, bits_and_u64_nat _ _ (by omega) (by omega), and16, h3]
    cases cp <;> rfl
  · rw [show (x : Int) / 32 = ((x / 32 : Nat) : Int) by omega, show (127 : Int) = ((127 : Nat) : Int) from rfl, bits_and_u64_nat _ _ (by omega) (by omega)]
    rw [show (127 : Nat) = 2 ^ 7 - 1 from rfl, Nat.and_two_pow_sub_one_eq_mod]
    rw [show x / 32 % 2 ^ 7 = 0 from h5]
    rfl
set_option maxRecDepth 100000 in
set_option maxHeartbeats 8000000 in
theorem led_any (H : TW w0 F t p g h c m tb s ws root fr w) (kids3 : Nat → Tr) (hh3 : Holds s.fs 4 (.nd root kids3)) (hn3 : ∀ q ∈ nodesT 4 (.nd root kids3), TakenF q s) (ad : Nat) (had : ad < 18446744073709551616) :
    Calls Tryz.prog 14 #[.pointer (some ⟨p, 0, none⟩), .int .i64 (root : Int), .int .u64 (ad : Int)] w fun e w' => e = .returned (ledV (lookT (ixOf ad) 3 kids3)) ∧ Below w.heap.size w w' := by
  have f0 : (((ad : Int) / 4096)).tmod 512 = (ixOf ad 0 : Int) := by rw [Int.tmod_eq_emod_of_nonneg (by omega)]; unfold ixOf; omega
  have f1 : (((ad : Int) / 2097152)).tmod 512 = (ixOf ad 1 : Int) := by rw [Int.tmod_eq_emod_of_nonneg (by omega)]; unfold ixOf; omega
  have f2 : (((ad : Int) / 1073741824)).tmod 512 = (ixOf ad 2 : Int) := by rw [Int.tmod_eq_emod_of_nonneg (by omega)]; unfold ixOf; omega
  have f3 : (((ad : Int) / 549755813888)).tmod 512 = (ixOf ad 3 : Int) := by rw [Int.tmod_eq_emod_of_nonneg (by omega)]; unfold ixOf; omega
  have l0 := ixOf_lt ad 0
  have l1 := ixOf_lt ad 1
  have l2 := ixOf_lt ad 2
  have l3 := ixOf_lt ad 3
  have HFL := hid (show s.fs.length ≤ 1024 from H.cw.pool.n2)
  obtain ⟨w1, hw1⟩ : ∃ w1, w1 = w.alloc (.cells #[.int .i64 0, .int .u8 0, .bool false] 39) := ⟨_, rfl⟩
  have HB3 := hid (show Below w.heap.size w w1 by rw [hw1]; exact bal _)
  have HR3 := hid (show Row w1 w.heap.size 39 [.int .i64 0, .int .u8 0, .bool false] by rw [hw1]; exact Row.new w _ _)
  have H3 := hid (H.below HB3.out)
  have HW1 := hid hw1
  clear H hw1
  go_enter Tryz.func14, Tryz.ntmps14
  go_wp2_with fail
  refine wp_loop_rounds 5 ?_
  rw [rounds_succ]
  go_wp2_with fail
  rw [← HW1.out]
  have hc3 := hh3 (ixOf ad 3) l3
  have ht3 := hn3 root nodes_self
  have HCK := hid (fun x (e : wdT (kids3 (ixOf ad 3)) = x) (hx : x < 18446744073709551616) => wordAt_any H3.out root (ixOf ad 3) x (by rw [← e]; exact hc3.1) (fun hf => ht3.2) l3 hx)
  cases hk3 : kids3 (ixOf ad 3) with
  | no =>
    have HC := hid (HCK.out 0 (by rw [hk3]; rfl) (by omega))
    have HLK := hid (show lookT (ixOf ad) 3 kids3 = .no from by rw [lookT_no hk3])
    refine (HC.out).mono ?_
    rintro e wz ⟨rfl, hbz⟩
    have HRZ := hid (HR3.out.below hbz HR3.out.lt)
    have HBZ := hid (bthen HB3.out hbz)
    have a1 : bits BinOp.and .u64 ((0 : Nat) : Int) 1 = 0 := by decide
    have a2 : bits BinOp.and .u64 0 1 = 0 := by decide
    have c0 := HRZ.out.cell 0 (by simp)
    have c1 := HRZ.out.cell 1 (by simp)
    have c2 := HRZ.out.cell 2 (by simp)
    have k0 := HRZ.out.frozen 0
    have k1 := HRZ.out.frozen 1
    have k2 := HRZ.out.frozen 2
    have cl := HRZ.out.lt
    simp only [List.getElem_cons_zero, List.getElem_cons_succ] at c0 c1 c2
    clear hbz
    go_wp2_with fail
    refine bodyPost_ret (v := .tuple #[.agg #[.int .i64 0, .int .u8 0, .bool false], .bool false]) (by simp [results, Tryz.results14, Tryz.f14, go_sem, c0, c1, c2, cl]) rfl ⟨by rw [HLK.out]; rfl, ?_⟩
    exact bset (bset (bset HBZ.out (Nat.le_refl _) _) (Nat.le_refl _) _) (Nat.le_refl _) _
  | lf a q b => rw [hk3] at hc3; exact hc3.2.elim
  | nd g3 kids2 =>
    have hg3 : g3 < 1048576 := by
      obtain ⟨hq, _⟩ := hn3 g3 (nodes_child l3 (by rw [hk3]; exact nodes_self))
      have := HFL.out
      omega
    have hh2 : Holds s.fs 3 (.nd g3 kids2) := by have := hc3.2; rw [hk3] at this; exact this
    have hn2 : ∀ q ∈ nodesT 3 (.nd g3 kids2), TakenF q s := fun q hq => hn3 q (nodes_child l3 (by rw [hk3]; exact hq))
    obtain ⟨a1, a2, a3⟩ := nd_bits g3 hg3
    obtain ⟨X, hX⟩ : ∃ X, X = g3 * 4096 + 1 := ⟨_, rfl⟩
    have HC := hid (HCK.out X (by rw [hk3, hX]; rfl) (by omega))
    rw [← hX] at a1 a2 a3
    have a4 : IntKind.i64.wrap (g3 : Int) = (g3 : Int) := IntWalk.i64_in _ (by omega)
    clear HCK
    refine (HC.out).mono ?_
    rintro e wz ⟨rfl, hbz⟩
    have HR2 := hid (HR3.out.below hbz HR3.out.lt)
    have HB2 := hid (bthen HB3.out hbz)
    have H2 := hid (H3.out.below hbz)
    clear hbz hX
    go_wp2_with fail
    rw [rounds_succ]
    go_wp2_with fail
    clear a1 a2 a3 a4 HC
    rename World => w2
    have hc2 := hh2 (ixOf ad 2) l2
    have ht2 := hn2 g3 nodes_self
    have HCK := hid (fun x (e : wdT (kids2 (ixOf ad 2)) = x) (hx : x < 18446744073709551616) => wordAt_any H2.out g3 (ixOf ad 2) x (by rw [← e]; exact hc2.1) (fun hf => ht2.2) l2 hx)
    cases hk2 : kids2 (ixOf ad 2) with
    | no =>
      have HC := hid (HCK.out 0 (by rw [hk2]; rfl) (by omega))
      have HLK := hid (show lookT (ixOf ad) 3 kids3 = .no from by rw [lookT_nd hk3, lookT_no hk2])
      refine (HC.out).mono ?_
      rintro e wz ⟨rfl, hbz⟩
      have HRZ := hid (HR2.out.below hbz HR2.out.lt)
      have HBZ := hid (bthen HB2.out hbz)
      have a1 : bits BinOp.and .u64 ((0 : Nat) : Int) 1 = 0 := by decide
      have a2 : bits BinOp.and .u64 0 1 = 0 := by decide
      have c0 := HRZ.out.cell 0 (by simp)
      have c1 := HRZ.out.cell 1 (by simp)
      have c2 := HRZ.out.cell 2 (by simp)
      have k0 := HRZ.out.frozen 0
      have k1 := HRZ.out.frozen 1
      have k2 := HRZ.out.frozen 2
      have cl := HRZ.out.lt
      simp only [List.getElem_cons_zero, List.getElem_cons_succ] at c0 c1 c2
      clear hbz
      go_wp2_with fail
      refine bodyPost_ret (v := .tuple #[.agg #[.int .i64 0, .int .u8 0, .bool false], .bool false]) (by simp [results, Tryz.results14, Tryz.f14, go_sem, c0, c1, c2, cl]) rfl ⟨by rw [HLK.out]; rfl, ?_⟩
      exact bset (bset (bset HBZ.out (Nat.le_refl _) _) (Nat.le_refl _) _) (Nat.le_refl _) _
    | lf a q b => rw [hk2] at hc2; exact hc2.2.elim
    | nd g2 kids1 =>
      have hg2 : g2 < 1048576 := by
        obtain ⟨hq, _⟩ := hn2 g2 (nodes_child l2 (by rw [hk2]; exact nodes_self))
        have := HFL.out
        omega
      have hh1 : Holds s.fs 2 (.nd g2 kids1) := by have := hc2.2; rw [hk2] at this; exact this
      have hn1 : ∀ q ∈ nodesT 2 (.nd g2 kids1), TakenF q s := fun q hq => hn2 q (nodes_child l2 (by rw [hk2]; exact hq))
      obtain ⟨a1, a2, a3⟩ := nd_bits g2 hg2
      obtain ⟨X, hX⟩ : ∃ X, X = g2 * 4096 + 1 := ⟨_, rfl⟩
      have HC := hid (HCK.out X (by rw [hk2, hX]; rfl) (by omega))
      rw [← hX] at a1 a2 a3
      have a4 : IntKind.i64.wrap (g2 : Int) = (g2 : Int) := IntWalk.i64_in _ (by omega)
      clear HCK
      refine (HC.out).mono ?_
      rintro e wz ⟨rfl, hbz⟩
      have HR1 := hid (HR2.out.below hbz HR2.out.lt)
      have HB1 := hid (bthen HB2.out hbz)
      have H1 := hid (H2.out.below hbz)
      clear hbz hX
      go_wp2_with fail
      rw [rounds_succ]
      go_wp2_with fail
      clear a1 a2 a3 a4 HC
      rename World => w3
      have hc1 := hh1 (ixOf ad 1) l1
      have ht1 := hn1 g2 nodes_self
      have HCK := hid (fun x (e : wdT (kids1 (ixOf ad 1)) = x) (hx : x < 18446744073709551616) => wordAt_any H1.out g2 (ixOf ad 1) x (by rw [← e]; exact hc1.1) (fun hf => ht1.2) l1 hx)
      cases hk1 : kids1 (ixOf ad 1) with
      | no =>
        have HC := hid (HCK.out 0 (by rw [hk1]; rfl) (by omega))
        have HLK := hid (show lookT (ixOf ad) 3 kids3 = .no from by rw [lookT_nd hk3, lookT_nd hk2, lookT_no hk1])
        refine (HC.out).mono ?_
        rintro e wz ⟨rfl, hbz⟩
        have HRZ := hid (HR1.out.below hbz HR1.out.lt)
        have HBZ := hid (bthen HB1.out hbz)
        have a1 : bits BinOp.and .u64 ((0 : Nat) : Int) 1 = 0 := by decide
        have a2 : bits BinOp.and .u64 0 1 = 0 := by decide
        have c0 := HRZ.out.cell 0 (by simp)
        have c1 := HRZ.out.cell 1 (by simp)
        have c2 := HRZ.out.cell 2 (by simp)
        have k0 := HRZ.out.frozen 0
        have k1 := HRZ.out.frozen 1
        have k2 := HRZ.out.frozen 2
        have cl := HRZ.out.lt
        simp only [List.getElem_cons_zero, List.getElem_cons_succ] at c0 c1 c2
        clear hbz
        go_wp2_with fail
        refine bodyPost_ret (v := .tuple #[.agg #[.int .i64 0, .int .u8 0, .bool false], .bool false]) (by simp [results, Tryz.results14, Tryz.f14, go_sem, c0, c1, c2, cl]) rfl ⟨by rw [HLK.out]; rfl, ?_⟩
        exact bset (bset (bset HBZ.out (Nat.le_refl _) _) (Nat.le_refl _) _) (Nat.le_refl _) _
      | lf a q b => rw [hk1] at hc1; exact hc1.2.elim
      | nd g1 kids0 =>
        have hg1 : g1 < 1048576 := by
          obtain ⟨hq, _⟩ := hn1 g1 (nodes_child l1 (by rw [hk1]; exact nodes_self))
          have := HFL.out
          omega
        have hh0 : Holds s.fs 1 (.nd g1 kids0) := by have := hc1.2; rw [hk1] at this; exact this
        have hn0 : ∀ q ∈ nodesT 1 (.nd g1 kids0), TakenF q s := fun q hq => hn1 q (nodes_child l1 (by rw [hk1]; exact hq))
        obtain ⟨a1, a2, a3⟩ := nd_bits g1 hg1
        obtain ⟨X, hX⟩ : ∃ X, X = g1 * 4096 + 1 := ⟨_, rfl⟩
        have HC := hid (HCK.out X (by rw [hk1, hX]; rfl) (by omega))
        rw [← hX] at a1 a2 a3
        have a4 : IntKind.i64.wrap (g1 : Int) = (g1 : Int) := IntWalk.i64_in _ (by omega)
        clear HCK
        refine (HC.out).mono ?_
        rintro e wz ⟨rfl, hbz⟩
        have HR0 := hid (HR1.out.below hbz HR1.out.lt)
        have HB0 := hid (bthen HB1.out hbz)
        have H0 := hid (H1.out.below hbz)
        clear hbz hX
        go_wp2_with fail
        rw [rounds_succ]
        go_wp2_with fail
        clear a1 a2 a3 a4 HC
        rename World => w4
        have hc0 := hh0 (ixOf ad 0) l0
        have ht0 := hn0 g1 nodes_self
        have HCK := hid (fun x (e : wdT (kids0 (ixOf ad 0)) = x) (hx : x < 18446744073709551616) => wordAt_any H0.out g1 (ixOf ad 0) x (by rw [← e]; exact hc0.1) (fun hf => ht0.2) l0 hx)
        cases hk0 : kids0 (ixOf ad 0) with
        | no =>
          have HC := hid (HCK.out 0 (by rw [hk0]; rfl) (by omega))
          have HLK := hid (show lookT (ixOf ad) 3 kids3 = .no from by rw [lookT_nd hk3, lookT_nd hk2, lookT_nd hk1, show lookT (ixOf ad) 0 kids0 = kids0 (ixOf ad 0) from rfl, hk0])
          refine (HC.out).mono ?_
          rintro e wz ⟨rfl, hbz⟩
          have HRZ := hid (HR0.out.below hbz HR0.out.lt)
          have HBZ := hid (bthen HB0.out hbz)
          have a1 : bits BinOp.and .u64 ((0 : Nat) : Int) 1 = 0 := by decide
          have a2 : bits BinOp.and .u64 0 1 = 0 := by decide
          have c0 := HRZ.out.cell 0 (by simp)
          have c1 := HRZ.out.cell 1 (by simp)
          have c2 := HRZ.out.cell 2 (by simp)
          have k0 := HRZ.out.frozen 0
          have k1 := HRZ.out.frozen 1
          have k2 := HRZ.out.frozen 2
          have cl := HRZ.out.lt
          simp only [List.getElem_cons_zero, List.getElem_cons_succ] at c0 c1 c2
          clear hbz
          go_wp2_with fail
          refine bodyPost_ret (v := .tuple #[.agg #[.int .i64 0, .int .u8 0, .bool false], .bool false]) (by simp [results, Tryz.results14, Tryz.f14, go_sem, c0, c1, c2, cl]) rfl ⟨by rw [HLK.out]; rfl, ?_⟩
          exact bset (bset (bset HBZ.out (Nat.le_refl _) _) (Nat.le_refl _) _) (Nat.le_refl _) _
        | nd g kk => rw [hk0] at hc0; exact hc0.2.elim
        | lf a q b =>
          have hab : a < s.fs.length ∧ q ≤ 7 := by have := hc0.2; rw [hk0] at this; exact this
          have ha : a < 1048576 := by have := HFL.out; omega
          obtain ⟨a1, a2, a3, a5, a6⟩ := lf_bits a q b ha hab.2
          have hlt := wdT_lt (cp := b) ha hab.2
          obtain ⟨X, hX⟩ : ∃ X, X = wdT (.lf a q b) := ⟨_, rfl⟩
          have HC := hid (HCK.out X (by rw [hk0, hX]) (by omega))
          rw [← hX] at a1 a2 a3 a5 a6
          have a4 : IntKind.i64.wrap (a : Int) = (a : Int) := IntWalk.i64_in _ (by omega)
          have a7 : IntKind.u8.wrap (q : Int) = (q : Int) := by rw [IntKind.wrap_u8]; omega
          have HLK := hid (show lookT (ixOf ad) 3 kids3 = .lf a q b from by rw [lookT_nd hk3, lookT_nd hk2, lookT_nd hk1, show lookT (ixOf ad) 0 kids0 = kids0 (ixOf ad 0) from rfl, hk0])
          clear HCK
          refine (HC.out).mono ?_
          rintro e wz ⟨rfl, hbz⟩
          have HRZ := hid (HR0.out.below hbz HR0.out.lt)
          have HBZ := hid (bthen HB0.out hbz)
          have c0 := HRZ.out.cell 0 (by simp)
          have c1 := HRZ.out.cell 1 (by simp)
          have c2 := HRZ.out.cell 2 (by simp)
          have k0 := HRZ.out.frozen 0
          have k1 := HRZ.out.frozen 1
          have k2 := HRZ.out.frozen 2
          have cl := HRZ.out.lt
          simp only [List.getElem_cons_zero, List.getElem_cons_succ] at c0 c1 c2
          clear hbz hX
          cases b
          · simp only [Bool.false_eq_true, if_false] at a5
            go_wp2_with fail
            refine bodyPost_ret (v := .tuple #[.agg #[.int .i64 (a : Int), .int .u8 (q : Int), .bool false], .bool true]) (by simp [results, Tryz.results14, Tryz.f14, go_sem, c0, c1, c2, cl]) rfl ⟨by rw [HLK.out]; rfl, ?_⟩
            exact bset (bset (bset HBZ.out (Nat.le_refl _) _) (Nat.le_refl _) _) (Nat.le_refl _) _
          · simp only [if_true] at a5
            go_wp2_with fail
            refine bodyPost_ret (v := .tuple #[.agg #[.int .i64 (a : Int), .int .u8 (q : Int), .bool true], .bool true]) (by simp [results, Tryz.results14, Tryz.f14, go_sem, c0, c1, c2, cl]) rfl ⟨by rw [HLK.out]; rfl, ?_⟩
            exact bset (bset (bset HBZ.out (Nat.le_refl _) _) (Nat.le_refl _) _) (Nat.le_refl _) _
end
end Go.Proofs.YtncikcllhjhjmaaGreatDoor
