
/- stack.Lay. -/
import Derived.Test.YtihaakcfegelkaaDoorTl3
import Derived.Test.YtihaakcfegelkaaDoorSK
namespace Go.Proofs.YtihaakcfegelkaaDoor
open Go.RowKit Go.Sort
attribute [local go_sem] Oper.semAt_some

def LPost (w : World) (argv env : List BL) (aux : List (Nat × Nat)) (path : BL) (e : Ending) (w' : World) : Prop :=
  (layE argv env aux path ≠ 0 ∧ e = .returned (.tuple #[.slice none 0 0, .int .u64 0, .int .i64 (layE argv env aux path)]) ∧ Below w.heap.size w w') ∨
  (layE argv env aux path = 0 ∧ ∃ g, e = .returned (.tuple #[.slice (some ⟨g, 0, none⟩) (allN argv env aux path) (allN argv env aux path), .int .u64 ((top20 - allN argv env aux path : Nat) : Int), .int .i64 0]) ∧ w.heap.size ≤ g ∧ Row w' g 5 ((layB argv env aux path).map B8) ∧ Below w.heap.size w w')
theorem layE_chk {argv env : List BL} {aux : List (Nat × Nat)} {path : BL} (h : chkS argv env aux path ≠ 0) : layE argv env aux path = chkS argv env aux path := by unfold layE; rw [if_pos h]
theorem layE_big {argv env : List BL} {aux : List (Nat × Nat)} {path : BL} (h : chkS argv env aux path = 0) (h2 : 16384 < allN argv env aux path) : layE argv env aux path = 12 := by unfold layE; rw [if_neg (by simpa using h), if_pos h2]
theorem layE_ok {argv env : List BL} {aux : List (Nat × Nat)} {path : BL} (h : chkS argv env aux path = 0) (h2 : ¬ 16384 < allN argv env aux path) : layE argv env aux path = 0 := by unfold layE; rw [if_neg (by simpa using h), if_neg h2]
theorem lb_start {w2 : World} {c2 c3 g n sp : Nat} {v2 v3 : Value} (r2 : Row w2 c2 29 [v2]) (r3 : Row w2 c3 30 [v3]) (rg : Row w2 g 5 (List.replicate n (.int .u8 0))) (hn : 8 ≤ n) :
    LB (((w2.setCell ⟨c2, 0, none⟩ (.slice (some ⟨g, 0, none⟩) n n)).setCell ⟨c3, 0, none⟩ (.int .u64 (sp : Int))).alloc (.cells #[.int .i64 ((n - 8 : Nat) : Int)] 3)) w2.heap.size c2 c3 g n sp (n - 8) (List.replicate 8 0) := by
  have n23 := rows_ne2 r2 r3 (by decide)
  have n2g := rows_ne2 r2 rg (by decide)
  have n3g := rows_ne2 r3 rg (by decide)
  have hz : ((w2.setCell ⟨c2, 0, none⟩ (.slice (some ⟨g, 0, none⟩) n n)).setCell ⟨c3, 0, none⟩ (.int .u64 (sp : Int))).heap.size = w2.heap.size := by simp [World.setCell]
  refine ⟨?_, ?_, ?_, ?_, by simp; omega⟩
  · have := Row.new ((w2.setCell ⟨c2, 0, none⟩ (.slice (some ⟨g, 0, none⟩) n n)).setCell ⟨c3, 0, none⟩ (.int .u64 (sp : Int))) 3 [.int .i64 ((n - 8 : Nat) : Int)]
    rwa [hz] at this
  · exact ((r2.set1 _).other (by exact n23) _).alloc _
  · exact ((r3.other (by exact n23.symm) _).set1 _).alloc _
  · have := ((rg.other (a := ⟨c2, 0, none⟩) (by exact n2g.symm) (.slice (some ⟨g, 0, none⟩) n n)).other (a := ⟨c3, 0, none⟩) (by exact n3g.symm) (.int .u64 (sp : Int))).alloc (.cells #[.int .i64 ((n - 8 : Nat) : Int)] 3)
    rw [rep_b8] at this
    rw [show List.replicate (n - 8) (0 : UInt8) ++ List.replicate 8 0 = List.replicate n 0 by rw [List.replicate_append_replicate, Nat.sub_add_cancel hn]]
    exact this
/-- How Lay ends: what its boxes hold. -/
theorem two_boxes {w : World} {c2 c3 : Nat} {v2 v3 : Value} (r2 : Row w c2 29 [v2]) (r3 : Row w c3 30 [v3]) : w.cell? ⟨c2, 0, none⟩ = some v2 ∧ w.cell? ⟨c3, 0, none⟩ = some v3 := ⟨r2.cell 0 (by simp), r3.cell 0 (by simp)⟩
theorem lP_no {w w' : World} {argv env : List BL} {aux : List (Nat × Nat)} {path : BL} {er : Int} (h : layE argv env aux path = er) (he : er ≠ 0) (hb : Below w.heap.size w w') : LPost w argv env aux path (.returned (.tuple #[.slice none 0 0, .int .u64 0, .int .i64 er])) w' :=
  .inl ⟨by rw [h]; exact he, by rw [h], hb⟩
def PutPost (w6 : World) (l : BL) (e : Ending) (w'' : World) : Prop := ∃ v', e = .returned v' ∧ OwnBy w'' w6.heap.size v' l ∧ Below w6.heap.size w6 w''
/-- put, in worlds behind w6; what it writes lies behind w6. -/
theorem put_at {w6 : World} (hs : Sizes w6) (w' : World) (v : Value) (l : BL) (G n c : Nat) (xs : List Nat) (m : BL) (hb : Below w6.heap.size w6 w') (hv : OwnBy w' w6.heap.size v l) (hX : Row w' G 30 (u64s xs)) (hn : xs.length = n) (hm : m = l ++ numsB xs) (h1 : n ≤ 100) (h2 : l.length ≤ 100000) :
    Calls Tryd.prog 23 #[v, .slice (some ⟨G, 0, none⟩) n c] w' (PutPost w6 m) := by
  subst hn; subst hm
  have hg := World.block_lt_of_cell? w6 _ hs.c0
  refine (put_any w6.heap.size v l G c xs w' (hs.below hb) hv hX hb.size (by omega) (by omega) hg).mono ?_
  rintro e w'' ⟨v', rfl, ho, hb2⟩
  exact ⟨v', rfl, ho, hb.trans hb2⟩
theorem u64s_new (w : World) (xs : List Nat) : Row (w.alloc (.cells (u64s xs).toArray 30)) w.heap.size 30 (u64s xs) := Row.new w 30 (u64s xs)
/-- The numbers ahead of the pairs. -/
def headN (argv env : List BL) (path : BL) : List Nat := [argv.length] ++ atsL (top20 - (txtB argv env path).length) argv ++ [0] ++ atsL (top20 - (txtB argv env path).length + (catZ argv).length) env ++ [0]
theorem vecN_eq (argv env : List BL) (aux : List (Nat × Nat)) (path : BL) : vecN argv env aux path = headN argv env path ++ auxN aux ++ [31, top20 - (path.length + 9), 0, 0] := rfl
theorem auxN_take {aux : List (Nat × Nat)} {k : Nat} (hk : k < aux.length) : auxN (aux.take (k + 1)) = auxN (aux.take k) ++ [aux[k].1, aux[k].2] := by
  unfold auxN
  rw [List.take_succ_eq_append_getElem hk, List.flatMap_append]; rfl
/-- What the copy leaves. -/
theorem layB_row {argv env : List BL} {aux : List (Nat × Nat)} {path : BL} {N low : Nat} (hN : N = allN argv env aux path) (hlow : low = N - (txtB argv env path).length) :
    ((((List.replicate low (0 : UInt8) ++ txtB argv env path).map B8).toArray.toList.take 0 ++ (numsB (vecN argv env aux path)).map B8 ++ (((List.replicate low 0 ++ txtB argv env path).map B8).toArray.toList.drop (0 + ((numsB (vecN argv env aux path)).map B8).length))).toArray) = ((layB argv env aux path).map B8).toArray := by
  have h1 := allN_ge argv env aux path
  subst hN
  have e : ((numsB (vecN argv env aux path)).map B8).length = numN argv env aux * 8 := by rw [List.length_map, numsB_len, vecN_len]; omega
  rw [e, List.take_zero, List.nil_append, Nat.zero_add, List.toList_toArray, ← List.map_drop, List.drop_append_of_le_length (by rw [List.length_replicate]; omega), List.drop_replicate]
  unfold layB
  simp only [List.map_append]
  rw [show low - numN argv env aux * 8 = allN argv env aux path - (numN argv env aux * 8 + (txtB argv env path).length) by omega]
theorem Row.setRow {w : World} {g : Nat} {E : TypeId} {cs : List Value} (h : Row w g E cs) (ds : Array Value) (es : List Value) (he : ds = es.toArray) : Row (w.setRow g ds) g E es := ⟨by subst he; exact setRow_heap w g _ _ E _ h.heap⟩
theorem Row.setRowOther {w : World} {g k : Nat} {E : TypeId} {cs : List Value} (h : Row w g E cs) (hne : g ≠ k) (ds : Array Value) : Row (w.setRow k ds) g E cs := ⟨by rw [setRow_other w k g ds hne]; exact h.heap⟩

set_option maxRecDepth 100000 in
set_option maxHeartbeats 8000000 in
theorem lay20_any (a b c : Option Addr) (ac bc cc : Nat) (argv env : List BL) (aux : List (Nat × Nat)) (path : BL) (w : World) (hs : Sizes w) (hA : Cel w a argv.length (strs argv)) (hB : Cel w b env.length (strs env)) (hC : Axs w c aux.length aux)
    (ha : argv.length ≤ 140737488351232) (hb : env.length ≤ 140737488351232) (hc : aux.length ≤ 140737488351232) (hsa : ∀ p ∈ argv, p.length ≤ 140737488351232) (hsb : ∀ p ∈ env, p.length ≤ 140737488351232) :
    Calls Tryd.prog 10 #[.slice a argv.length ac, .slice b env.length bc, .slice c aux.length cc, .string (ba path)] w (LPost w argv env aux path) := by
  have HA := hid hA
  have HB := hid hB
  have HC := hid hC
  have HS := hid hs
  have HCK := hid (fun (w' : World) (h : Below w.heap.size w w') => check20_any a b c ac bc cc argv env aux path w' (hA.below' h) (hB.below' h) (hC.below' h) ha hb hc hsa hsb)
  obtain ⟨W0, hW0⟩ : ∃ W0, W0 = (w.alloc (.cells #[.slice none 0 0] 29)).alloc (.cells #[.int .u64 0] 30) := ⟨_, rfl⟩
  have hb0 : Below w.heap.size w W0 := by rw [hW0]; exact (bal _).alloc (by simp) _
  have hr2 : Row W0 w.heap.size 29 [.slice none 0 0] := by rw [hW0]; exact (Row.new w 29 [.slice none 0 0]).alloc _
  have hr3 : Row W0 (w.heap.size + 1) 30 [.int .u64 0] := by
    have := Row.new (w.alloc (.cells #[.slice none 0 0] 29)) 30 [.int .u64 0]
    rw [World.size_alloc] at this
    rw [hW0]; exact this
  have HB0 := hid hb0
  have HR2 := hid hr2
  have HR3 := hid hr3
  clear hs hA hB hC ha hb hc hsa hsb hb0 hr2 hr3
  by_cases hck : chkS argv env aux path = 0
  · have HCK0 := hid hck
    obtain ⟨hca, hcb, hct⟩ := chkS_0 hck
    have hsa := chkL_small hca
    have hsb := chkL_small hcb
    obtain ⟨hp, hx, _, _⟩ := chkT_0 hct
    have HSZ := hid (fun (w' : World) (h : Below w.heap.size w w') => size20_any a b c ac bc cc argv env aux path w' (HA.out.below' h) (HB.out.below' h) hsa hsb hx hp)
    have HSA := hid hsa
    have HSB := hid hsb
    have HPX := hid (And.intro hp hx)
    rw [hck] at HCK
    clear hca hcb hct hsa hsb hp hx hck
    by_cases hbig : 16384 < allN argv env aux path
    · have HE := hid (layE_big HCK0.out hbig)
      have d1 : decide ((16384 : Int) < (allN argv env aux path : Int)) = true := by simp; omega
      have d1n : decide (16384 < allN argv env aux path) = true := by simp; omega
      clear hbig
      generalize allN argv env aux path = N at *
      go_enter Tryd.func10, Tryd.ntmps10
      go_wp2_with fail
      rw [← hW0]
      clear hW0
      refine (HCK.out W0 HB0.out).mono ?_
      rintro e' w1 ⟨rfl, hb1⟩
      have HB1 := hid (bthen HB0.out hb1)
      have HR2a := hid (HR2.out.below hb1 HR2.out.lt)
      have HR3a := hid (HR3.out.below hb1 HR3.out.lt)
      clear hb1 HCK
      go_wp2_with fail
      refine (HSZ.out w1 HB1.out).mono ?_
      rintro e' w2 ⟨rfl, hw⟩
      subst hw
      have x2 := HR2a.out.cell 0 (by simp)
      have x3 := HR3a.out.cell 0 (by simp)
      have f2 := HR2a.out.frozen 0
      have f3 := HR3a.out.frozen 0
      have l2 := HR2a.out.lt
      have l3 := HR3a.out.lt
      go_wp2_with fail
      have hn23 := rows_ne2 HR2a.out HR3a.out (by decide)
      obtain ⟨q2, q3⟩ := two_boxes ((HR2a.out.set1 (.slice none 0 0)).other (a := ⟨w.heap.size + 1, 0, none⟩) (by exact hn23) (.int .u64 0)) ((HR3a.out.other (a := ⟨w.heap.size, 0, none⟩) (by exact hn23.symm) (.slice none 0 0)).set1 (.int .u64 0))
      refine bodyPost_ret (v := .tuple #[.slice none 0 0, .int .u64 0, .int .i64 12]) (by simp [results, Tryd.results10, Tryd.f10, go_sem, q2, q3]) rfl ?_
      exact lP_no HE.out (by decide) (bset (bset HB1.out (Nat.le_refl _) _) (by omega) _)
    · have HE := hid (layE_ok HCK0.out hbig)
      have HBIG := hid hbig
      have HGE := hid (allN_ge argv env aux path)
      have HTL := hid (txtB_len argv env path)
      have h9 : 8 ≤ allN argv env aux path := by have := HGE.out; have := HTL.out; omega
      have H9 := hid h9
      obtain ⟨N, hN⟩ : ∃ N, N = allN argv env aux path := ⟨_, rfl⟩
      have HNN := hid hN
      rw [← hN] at HSZ hbig h9 H9 HBIG HGE
      have d1 : decide ((16384 : Int) < (N : Int)) = false := by simp; omega
      have d1n : decide (16384 < N) = false := by simp; omega
      have e1 : IntKind.u64.wrap (N : Int) = (N : Int) := IntWalk.u64_in _ (by omega)
      have e2 : IntKind.u64.wrap (140737488351232 - (N : Int)) = ((top20 - N : Nat) : Int) := by rw [IntWalk.u64_in _ (by omega)]; unfold top20; omega
      have e3 : IntKind.i64.wrap ((N : Int) - 8) = ((N - 8 : Nat) : Int) := by rw [IntWalk.i64_in _ (by omega)]; omega
      clear hN hbig h9
      go_enter Tryd.func10, Tryd.ntmps10
      go_wp2_with fail
      rw [← hW0]
      clear hW0
      refine (HCK.out W0 HB0.out).mono ?_
      rintro e' w1 ⟨rfl, hb1⟩
      have HB1 := hid (bthen HB0.out hb1)
      have HR2a := hid (HR2.out.below hb1 HR2.out.lt)
      have HR3a := hid (HR3.out.below hb1 HR3.out.lt)
      clear hb1 HCK
      go_wp2_with fail
      refine (HSZ.out w1 HB1.out).mono ?_
      rintro e' w1b ⟨rfl, hw⟩
      subst hw
      have x2 := HR2a.out.cell 0 (by simp)
      have x3 := HR3a.out.cell 0 (by simp)
      have f2 := HR2a.out.frozen 0
      have f3 := HR3a.out.frozen 0
      have l2 := HR2a.out.lt
      have l3 := HR3a.out.lt
      have HNa := hid (show 1 * N ≤ 281474976710656 by have := HBIG.out; omega)
      have HNb := hid (show N ≤ 9223372036854775807 by have := HBIG.out; omega)
      go_wp2_with (at_make; refine wpList_make_row _ rfl _ _ 29 rfl 5 (.int .u8 0) 1 Tryd.underlying29 infoBy rfl .i64 .i64 _ _ N rfl rfl rfl rfl HNa.out HNb.out ?_; intro w2 hr1 hb1 hs1; have HRG := hid hr1; have HB2 := hid hb1; have HR2b := hid (HR2a.out.below hb1 HR2a.out.lt); have HR3b := hid (HR3a.out.below hb1 HR3a.out.lt); have x2 := HR2b.out.cell 0 (by simp); have x3 := HR3b.out.cell 0 (by simp); have f2 := HR2b.out.frozen 0; have f3 := HR3b.out.frozen 0; have l2 := HR2b.out.lt; have l3 := HR3b.out.lt; clear hr1 hb1 hs1)
      obtain ⟨W3, hW3⟩ : ∃ W3, W3 = ((w2.setCell ⟨w.heap.size, 0, none⟩ (.slice (some ⟨w1.heap.size, 0, none⟩) N N)).setCell ⟨w.heap.size + 1, 0, none⟩ (.int .u64 ((top20 - N : Nat) : Int))).alloc (.cells #[.int .i64 ((N - 8 : Nat) : Int)] 3) := ⟨_, rfl⟩
      have HLB3 := hid (show LB W3 w2.heap.size w.heap.size (w.heap.size + 1) w1.heap.size N (top20 - N) (N - 8) (List.replicate 8 0) by rw [hW3]; exact lb_start HR2b.out HR3b.out HRG.out H9.out)
      have HB2w := hid (bthen HB1.out HB2.out)
      have HB3 := hid (show Below w.heap.size w W3 by rw [hW3]; exact (bset (bset HB2w.out (Nat.le_refl _) _) (by omega) _).alloc (by simp only [World.setCell, Array.size_setIfInBounds]; first | exact HB2w.out.size | (simp [World.setCell]; exact HB2w.out.size)) _)
      have HG := hid HB1.out.size
      have HG2 := hid HB2w.out.size
      rw [← hW3]
      clear hW3 x2 x3 f2 f3 l2 l3 d1 d1n e1 e2 e3 HR2a HR3a HR2b HR3b HRG HR2 HR3
      have HNLEN := hid (show path.length + 1 + (tbN env + tbN argv) ≤ N - 8 by have := HGE.out; have := HTL.out; omega)
      have HNT := hid (show (txtB argv env path).length ≤ N by have := HGE.out; omega)
      refine (lay_any w2.heap.size w.heap.size (w.heap.size + 1) w1.heap.size N (top20 - N) (N - 8) (List.replicate 8 0) path W3 HLB3.out (by have := HNLEN.out; omega) (by have := HBIG.out; omega) (by unfold top20; have := HBIG.out; omega)).mono ?_
      rintro e' w4 ⟨rfl, hlb4, hx4⟩
      have HLB4 := hid hlb4
      have HB4 := hid (show Below w.heap.size w w4 from HB3.out.trans (hx4.below (by have := HG2.out; omega) (by have := HG.out; omega) HB3.out.size))
      clear hlb4 hx4
      have HEX := hid (show top20 - N + (N - 8 - (path.length + 1)) = top20 - (path.length + 9) by have := HNLEN.out; have := HBIG.out; unfold top20; omega)
      rw [HEX.out]
      go_wp2_with fail
      refine (layAll_any w2.heap.size w.heap.size (w.heap.size + 1) w1.heap.size N (top20 - N) (N - 8 - (path.length + 1)) (path ++ [0] ++ List.replicate 8 0) b bc env w4 HLB4.out (HB.out.below' HB4.out) (by have := HNLEN.out; omega) (by have := HBIG.out; omega) (by unfold top20; have := HBIG.out; omega) HSB.out.1 ?_).mono ?_
      · intro hpos b0 hb0
        obtain ⟨bb, off, he, hcc⟩ := HB.out.some_of (by simp [strs]; omega)
        have h1 := World.block_lt_of_cell? w _ (hcc 0 (by simp [strs]; omega))
        rw [hb0] at he; cases he
        have := HG.out; have := HG2.out
        constructor <;> (simp only at h1 ⊢; omega)
      rintro e' w5 ⟨G1, rfl, hG1, hr5, hlb5, hx5⟩
      have HLB5 := hid hlb5
      have HB5 := hid (show Below w.heap.size w w5 from HB4.out.trans (hx5.below (by have := HG2.out; omega) (by have := HG.out; omega) HB4.out.size))
      have HRE5 := hid hr5
      have HG1 := hid hG1
      clear hlb5 hx5 hr5
      go_wp2_with fail
      refine (layAll_any w2.heap.size w.heap.size (w.heap.size + 1) w1.heap.size N (top20 - N) (N - 8 - (path.length + 1) - tbN env) (catZ env ++ (path ++ [0] ++ List.replicate 8 0)) a ac argv w5 HLB5.out (HA.out.below' HB5.out) (by have := HNLEN.out; omega) (by have := HBIG.out; omega) (by unfold top20; have := HBIG.out; omega) HSA.out.1 ?_).mono ?_
      · intro hpos b0 hb0
        obtain ⟨bb, off, he, hcc⟩ := HA.out.some_of (by simp [strs]; omega)
        have h1 := World.block_lt_of_cell? w _ (hcc 0 (by simp [strs]; omega))
        rw [hb0] at he; cases he
        have := HG.out; have := HG2.out
        constructor <;> (simp only at h1 ⊢; omega)
      rintro e' w6 ⟨G2, rfl, hG2, hr6, hlb6, hx6⟩
      have HB6 := hid (show Below w.heap.size w w6 from HB5.out.trans (hx6.below (by have := HG2.out; omega) (by have := HG.out; omega) HB5.out.size))
      have HRE6 := hid (show Row w6 G1 30 (u64s (atsL (top20 - (txtB argv env path).length + (catZ argv).length) env)) by
        have h1 := hx6.row HRE5.out (rows_ne2 HRE5.out HLB5.out.r1 (by decide)) (rows_ne2 HRE5.out HLB5.out.rg (by decide))
        have h2 : top20 - N + (N - 8 - (path.length + 1) - tbN env) = top20 - (txtB argv env path).length + (catZ argv).length := by
          have := HNLEN.out; have := HBIG.out; rw [HTL.out, catZ_len]; unfold top20; omega
        unfold layAt at h1
        rw [h2] at h1
        exact h1)
      have HRA6 := hid (show Row w6 G2 30 (u64s (atsL (top20 - (txtB argv env path).length) argv)) by
        have h2 : top20 - N + (N - 8 - (path.length + 1) - tbN env - tbN argv) = top20 - (txtB argv env path).length := by
          have := HNLEN.out; have := HBIG.out; rw [HTL.out]; unfold top20; omega
        have h1 := hr6
        unfold layAt at h1
        rw [h2] at h1
        exact h1)
      have HLB6 := hid (show LB w6 w2.heap.size w.heap.size (w.heap.size + 1) w1.heap.size N (top20 - N) (N - (txtB argv env path).length) (txtB argv env path) by
        have h1 := hlb6
        rw [show N - 8 - (path.length + 1) - tbN env - tbN argv = N - (txtB argv env path).length by rw [HTL.out]; omega] at h1
        exact h1)
      have HCK1 := hid HCK0.out
      have HPUT := hid (@put_at w6 (HS.out.below HB6.out))
      have HOW := hid (fun (w' : World) (hb : Below w6.heap.size w6 w') (v : Value) (l : BL) (ho : OwnBy w' w6.heap.size v l) (o : Obj) => own_below ho (@bal w' o))
      have HBL := hid (fun (w' : World) (hb : Below w6.heap.size w6 w') (o : Obj) => (hb.alloc hb.size o : Below w6.heap.size w6 (w'.alloc o)))
      have HN1 := hid HSA.out.1
      have HN2 := hid HSB.out.1
      have e4 : IntKind.u64.wrap (argv.length : Int) = (argv.length : Int) := IntWalk.u64_in _ (by have := HN1.out; omega)
      clear hlb6 hx6 hr6 HLB3 HLB4 HLB5 HRE5 HPX hG1 hG2 HSZ HCK0
      go_wp2_with fail
      refine (HPUT.out _ (.slice none 0 0) [] w6.heap.size 1 1 [argv.length] (numsB [argv.length]) (HBL.out _ (Below.refl _ _) _) (ownBy_nil _ _) (u64s_new w6 [argv.length]) rfl rfl (by decide) (by decide)).mono ?_
      rintro e' w7 ⟨v7, rfl, ho7, hb7⟩
      have HO7 := hid ho7
      have HB7 := hid hb7
      clear ho7 hb7 e4
      go_wp2_with fail
      refine (HPUT.out w7 v7 _ G2 argv.length argv.length (atsL (top20 - (txtB argv env path).length) argv) (numsB ([argv.length] ++ atsL (top20 - (txtB argv env path).length) argv)) HB7.out HO7.out (HRA6.out.below HB7.out HRA6.out.lt) (atsL_len _ _) (by rw [numsB_app]) (by have := HN1.out; omega) (by rw [numsB_len]; simp)).mono ?_
      rintro e' w8 ⟨v8, rfl, ho8, hb8⟩
      have HO8 := hid ho8
      have HB8 := hid hb8
      clear ho8 hb8
      go_wp2_with fail
      refine (HPUT.out _ v8 _ w8.heap.size 1 1 [0] (numsB ([argv.length] ++ atsL (top20 - (txtB argv env path).length) argv ++ [0])) (HBL.out _ HB8.out _) (HOW.out _ HB8.out _ _ HO8.out _) (u64s_new w8 [0]) rfl (by rw [numsB_app _ [0]]) (by decide) (by have := HN1.out; rw [numsB_len, List.length_append, atsL_len]; simp; omega)).mono ?_
      rintro e' w9 ⟨v9, rfl, ho9, hb9⟩
      have HO9 := hid ho9
      have HB9 := hid hb9
      clear ho9 hb9
      go_wp2_with fail
      refine (HPUT.out w9 v9 _ G1 env.length env.length (atsL (top20 - (txtB argv env path).length + (catZ argv).length) env) (numsB ([argv.length] ++ atsL (top20 - (txtB argv env path).length) argv ++ [0] ++ atsL (top20 - (txtB argv env path).length + (catZ argv).length) env)) HB9.out HO9.out (HRE6.out.below HB9.out HRE6.out.lt) (atsL_len _ _) (by rw [numsB_app _ (atsL _ env)]) (by have := HN2.out; omega) (by have := HN1.out; rw [numsB_len, List.length_append, List.length_append, atsL_len]; simp; omega)).mono ?_
      rintro e' w10 ⟨v10, rfl, ho10, hb10⟩
      have HO10 := hid ho10
      have HB10 := hid hb10
      clear ho10 hb10
      go_wp2_with fail
      have HHL := hid (show (headN argv env path).length ≤ 67 by have := HN1.out; have := HN2.out; unfold headN; simp only [List.length_append, atsL_len, List.length_cons, List.length_nil]; omega)
      refine (HPUT.out _ v10 _ w10.heap.size 1 1 [0] (numsB (headN argv env path)) (HBL.out _ HB10.out _) (HOW.out _ HB10.out _ _ HO10.out _) (u64s_new w10 [0]) rfl (by rw [← numsB_app]; rfl) (by decide) (by have := HN1.out; have := HN2.out; rw [numsB_len, List.length_append, List.length_append, List.length_append, atsL_len, atsL_len]; simp; omega)).mono ?_
      rintro e' w11 ⟨v11, rfl, ho11, hb11⟩
      have HO11 := hid ho11
      have HB11 := hid hb11
      clear ho11 hb11 HO7 HB7 HO8 HB8 HO9 HB9 HO10 HB10
      go_wp2_with fail
      have HXL := hid (show aux.length ≤ 16 from (chkT_0 (chkS_0 HCK1.out).2.2).2.1)
      clear x2 x3 f2 f3 l2 l3
      go_loopw [18, 70] (fun v i wr => ∃ k : Nat, k ≤ aux.length ∧ i = .int .i64 k ∧ OwnBy wr w6.heap.size v (numsB (headN argv env path ++ auxN (aux.take k))) ∧ Below w6.heap.size w6 wr) (fun _ i _ => aux.length - (intOf i).toNat)
      case atStart => exact ⟨0, Nat.zero_le _, rfl, by rw [List.take_zero]; show OwnBy _ _ _ (numsB (headN argv env path ++ [])); rw [List.append_nil]; exact HO11.out, HB11.out⟩
      case round =>
        obtain ⟨k, hk, rfl, hown, hbw⟩ := hrel
        have HO := hid hown
        have HBW := hid hbw
        clear hown hbw
        by_cases hlt : k < aux.length
        · have d1 : decide ((k : Int) < (aux.length : Int)) = true := by simp; omega
          have d1n : decide (k < aux.length) = true := by simp; omega
          obtain ⟨cb, co, rfl, hx0, hx1⟩ := axs_at (HC.out.below' (bthen HB6.out HBW.out)) hlt
          have HAT := hid (auxN_take hlt)
          have HLN := hid (show (numsB (headN argv env path ++ auxN (aux.take k))).length ≤ 100000 by have := HHL.out; have := HXL.out; rw [numsB_len, List.length_append, auxN_len, List.length_take]; omega)
          generalize aux[k] = p at *
          obtain ⟨pk, pv⟩ := p
          simp only at hx0 hx1
          have hk16 : k < 16 := by have := HXL.out; omega
          have y0 := (Row.new wr 43 [.int .u64 (pk : Int), .int .u64 (pv : Int)]).cell 0 (by simp)
          have y1 := (Row.new wr 43 [.int .u64 (pk : Int), .int .u64 (pv : Int)]).cell 1 (by simp)
          simp only [List.getElem_cons_zero, List.getElem_cons_succ] at y0 y1
          go_wp2_with fail
          refine (HPUT.out _ _ _ (wr.heap.size + 1) 2 2 [pk, pv] (numsB (headN argv env path ++ auxN (aux.take (k + 1)))) (HBL.out _ (HBL.out _ HBW.out _) _) (HOW.out _ (HBL.out _ HBW.out _) _ _ (HOW.out _ HBW.out _ _ HO.out _) _) (by have h9 := u64s_new (wr.alloc (.cells #[.int .u64 (pk : Int), .int .u64 (pv : Int)] 43)) [pk, pv]; rw [World.size_alloc] at h9; exact h9) rfl (by rw [HAT.out, ← List.append_assoc, numsB_app _ [pk, pv]]) (by decide) HLN.out).mono ?_
          rintro e' wz ⟨vz, rfl, hoz, hbz⟩
          have HOZ := hid hoz
          have HBZ := hid hbz
          clear hoz hbz y0 y1 hx0 hx1
          go_wp2_with fail
          go_roundw
          case rel => exact ⟨k + 1, by omega, by go_num, HOZ.out, HBZ.out⟩
          case measure => simp [intOf]; omega
        · have d1 : decide ((k : Int) < (aux.length : Int)) = false := by simp; omega
          have d1n : decide (k < aux.length) = false := by simp; omega
          have HTK := hid (show aux.take k = aux by rw [List.take_of_length_le (by omega)])
          rw [HTK.out] at HO
          have HLBk := hid (show LB wr w2.heap.size w.heap.size (w.heap.size + 1) w1.heap.size N (top20 - N) (N - (txtB argv env path).length) (txtB argv env path) from ⟨HLB6.out.r1.below HBW.out HLB6.out.r1.lt, HLB6.out.r2.below HBW.out HLB6.out.r2.lt, HLB6.out.r3.below HBW.out HLB6.out.r3.lt, HLB6.out.rg.below HBW.out HLB6.out.rg.lt, HLB6.out.len⟩)
          have HLN := hid (show (numsB (headN argv env path ++ auxN aux)).length ≤ 100000 by have := HHL.out; have := HXL.out; rw [numsB_len, List.length_append, auxN_len]; omega)
          have s2 : ∀ ww, Below w6.heap.size w6 ww → ww.cell? ⟨w.heap.size, 0, none⟩ = some (.slice (some ⟨w1.heap.size, 0, none⟩) N N) := fun ww h => (HLB6.out.r2.below h HLB6.out.r2.lt).cell 0 (by simp)
          have sl : ∀ ww, Below w6.heap.size w6 ww → w.heap.size < ww.heap.size := fun ww h => (HLB6.out.r2.below h HLB6.out.r2.lt).lt
          have hS : Below w6.heap.size w6 wr.drew := HBW.out.drew
          go_wp2_with fail
          refine region_sk 5 (fun ww => Below w6.heap.size w6 ww) (by kernel_rfl) (fun inv => ?_)
          refine sk_take (i := 0) (v := ?_) (some 82) rfl rfl (by kernel_rfl) (by kernel_rfl) (by decide) (by decide) inv (by kernel_rfl) (by kernel_rfl) (fun _ _ _ h => h) (Or.inl ⟨by rfl, ?_⟩) hS (fun inv => ?_)
          rotate_left
          · intro ww hSw
            go_simp
            try with_reducible rfl
          simp only [Act.put, List.setIfInBounds_toArray, List.set_cons_zero, List.set_cons_succ]
          refine sk_take (i := 1) (v := ?_) (some 83) rfl rfl (by kernel_rfl) (by kernel_rfl) (by decide) (by decide) inv (by kernel_rfl) (by kernel_rfl) (fun _ _ _ h => h) (Or.inl ⟨by rfl, ?_⟩) hS (fun inv => ?_)
          rotate_left
          · intro ww hSw
            go_simp
            try with_reducible rfl
          simp only [Act.put, List.setIfInBounds_toArray, List.set_cons_zero, List.set_cons_succ]
          refine sk_take (i := 2) (v := ?_) (some 84) rfl rfl (by kernel_rfl) (by kernel_rfl) (by decide) (by decide) inv (by kernel_rfl) (by kernel_rfl) (fun _ _ _ h => h) (Or.inl ⟨by rfl, ?_⟩) hS (fun inv => ?_)
          rotate_left
          · intro ww hSw
            go_simp
            try with_reducible rfl
          simp only [Act.put, List.setIfInBounds_toArray, List.set_cons_zero, List.set_cons_succ]
          refine sk_one (i := 3) (by kernel_rfl) rfl inv (fun K hK => ?_)
          rw [if_pos (by rfl)]
          go_simp
          have hS3 : Below w6.heap.size w6 (wr.alloc (.cells #[.int .u64 31, .int .u64 ((top20 - (path.length + 9) : Nat) : Int), .int .u64 0, .int .u64 0] 30)).drew := (HBL.out _ HBW.out _).drew
          refine hK.out _ _ (fun _ => hS3) (fun inv => ?_)
          have inv := inv (by decide)
          clear hK K
          try simp only [Act.put, List.setIfInBounds_toArray, List.set_cons_zero, List.set_cons_succ]
          have HRN := hid (show Row (wr.alloc (.cells #[.int .u64 31, .int .u64 ((top20 - (path.length + 9) : Nat) : Int), .int .u64 0, .int .u64 0] 30)).drew wr.heap.size 30 (u64s [31, top20 - (path.length + 9), 0, 0]) from (u64s_new wr [31, top20 - (path.length + 9), 0, 0]).drew)
          have HOD := hid (own_below (HOW.out _ HBW.out _ _ HO.out (.cells #[.int .u64 31, .int .u64 ((top20 - (path.length + 9) : Nat) : Int), .int .u64 0, .int .u64 0] 30)) (Below.refl _ _).drew)
          refine sk_one (i := 4) (by kernel_rfl) rfl inv (fun K hK => ?_)
          rw [if_pos (by rfl)]
          go_simp
          refine (HPUT.out _ _ _ wr.heap.size 4 4 [31, top20 - (path.length + 9), 0, 0] (numsB (vecN argv env aux path)) hS3 HOD.out HRN.out rfl (by rw [vecN_eq, numsB_app (headN argv env path ++ auxN aux)]) (by decide) HLN.out).mono ?_
          rintro e' wz ⟨vz, rfl, hoz, hbz⟩
          have hoz2 := own_ext hoz (show (numsB (vecN argv env aux path)).length = numN argv env aux * 8 by rw [numsB_len, vecN_len]; omega) rfl
          obtain ⟨Z, zc, rfl, hzc, hZb, hZl, _⟩ := own_open hoz2 (by unfold numN; omega)
          obtain ⟨za, zc', he, hcel, _⟩ := own_cel hoz2
          simp only [Value.slice.injEq, true_and] at he
          obtain ⟨rfl, rfl⟩ := he
          have HBZ := hid hbz
          have HLBz := hid (show LB wz w2.heap.size w.heap.size (w.heap.size + 1) w1.heap.size N (top20 - N) (N - (txtB argv env path).length) (txtB argv env path) from ⟨HLB6.out.r1.below hbz HLB6.out.r1.lt, HLB6.out.r2.below hbz HLB6.out.r2.lt, HLB6.out.r3.below hbz HLB6.out.r3.lt, HLB6.out.rg.below hbz HLB6.out.rg.lt, HLB6.out.len⟩)
          have hcp := run_copy_row (P := Tryd.prog) wz 29 29 3 5 w1.heap.size 0 N N ⟨Z, 0, none⟩ (numN argv env aux * 8) zc _ 5 ((numsB (vecN argv env aux path)).map B8) Tryd.underlying29 (by kernel_rfl) HLBz.out.rg.heap (by rw [List.length_map, numsB_len, vecN_len]; have := HGE.out; show _ = min _ _; omega) hcel.news (by have := HGE.out; have := HLBz.out.len; rw [List.length_map, numsB_len, vecN_len]; simp; omega) (b8_ones _)
          rw [layB_row HNN.out rfl] at hcp
          have HRZ := hid (HLBz.out.rg.setRow ((layB argv env aux path).map B8).toArray ((layB argv env aux path).map B8) rfl)
          have n2g := rows_ne2 HLBz.out.r2 HLBz.out.rg (by decide)
          have n3g := rows_ne2 HLBz.out.r3 HLBz.out.rg (by decide)
          have hr2 := HLBz.out.r2.setRowOther n2g ((layB argv env aux path).map B8).toArray
          have hr3 := HLBz.out.r3.setRowOther n3g ((layB argv env aux path).map B8).toArray
          have HR2z := hid hr2
          have HR3z := hid hr3
          have HBF := hid (show Below w.heap.size w (wz.setRow w1.heap.size ((layB argv env aux path).map B8).toArray) from below_setRow (bthen HB6.out hbz) HG.out _)
          refine hK.out _ _ (fun _ => hbz) (fun inv => ?_)
          have inv := inv (by decide)
          clear hK K hoz hoz2 hcel hbz hr2 hr3
          try simp only [Act.put, List.setIfInBounds_toArray, List.set_cons_zero, List.set_cons_succ]
          refine sk_one (i := 5) (by kernel_rfl) rfl inv (fun K hK => ?_)
          rw [if_pos (by rfl)]
          go_simp
          refine hK.out _ _ (fun h => absurd h (by decide)) (fun _ => ?_)
          clear hK K
          refine sk_done (by kernel_rfl) ?_ _
          have q2 := HR2z.out.cell 0 (by simp)
          have q3 := HR3z.out.cell 0 (by simp)
          have f2 := HR2z.out.frozen 0
          have f3 := HR3z.out.frozen 0
          have l2 := HR2z.out.lt
          have l3 := HR3z.out.lt
          simp only [List.getElem_cons_zero] at q2 q3
          clear s2 sl hS hS3 inv hcp
          obtain ⟨WF, hWF⟩ : ∃ WF, WF = wz.setRow w1.heap.size ((layB argv env aux path).map B8).toArray := ⟨_, rfl⟩
          rw [← hWF] at q2 q3 f2 f3 l2 l3 HRZ HR2z HR3z HBF ⊢
          clear hWF
          go_wp2_with fail
          go_region
          have hn23 := rows_ne2 HR2z.out HR3z.out (by decide)
          obtain ⟨p2, p3⟩ := two_boxes ((HR2z.out.set1 (.slice (some ⟨w1.heap.size, 0, none⟩) N N)).other (a := ⟨w.heap.size + 1, 0, none⟩) (by exact hn23) (.int .u64 ((top20 - N : Nat) : Int))).drew ((HR3z.out.other (a := ⟨w.heap.size, 0, none⟩) (by exact hn23.symm) (.slice (some ⟨w1.heap.size, 0, none⟩) N N)).set1 (.int .u64 ((top20 - N : Nat) : Int))).drew
          have hg2 := rows_ne2 HRZ.out HR2z.out (by decide)
          have hg3 := rows_ne2 HRZ.out HR3z.out (by decide)
          have HRF := hid ((HRZ.out.other (a := ⟨w.heap.size, 0, none⟩) (by exact hg2) (.slice (some ⟨w1.heap.size, 0, none⟩) N N)).other (a := ⟨w.heap.size + 1, 0, none⟩) (by exact hg3) (.int .u64 ((top20 - N : Nat) : Int))).drew
          go_wp2_with fail
          refine bodyPost_ret (v := .tuple #[.slice (some ⟨w1.heap.size, 0, none⟩) N N, .int .u64 ((top20 - N : Nat) : Int), .int .i64 0]) (by simp [results, Tryd.results10, Tryd.f10, go_sem, p2, p3]) rfl ?_
          exact .inr ⟨HE.out, w1.heap.size, by rw [← HNN.out], HG.out, HRF.out, (bset (bset HBF.out (Nat.le_refl _) _) (by omega) _).drew⟩
  · have hne : (chkS argv env aux path != 0) = true := by simpa using hck
    have HE := hid (layE_chk hck)
    have HN := hid hck
    clear hck
    generalize chkS argv env aux path = er at *
    go_enter Tryd.func10, Tryd.ntmps10
    go_wp2_with fail
    rw [← hW0]
    clear hW0
    refine (HCK.out W0 HB0.out).mono ?_
    rintro e' w1 ⟨rfl, hb1⟩
    have HB1 := hid (bthen HB0.out hb1)
    have HR2a := hid (HR2.out.below hb1 HR2.out.lt)
    have HR3a := hid (HR3.out.below hb1 HR3.out.lt)
    clear hb1 HCK
    have x2 := HR2a.out.cell 0 (by simp)
    have x3 := HR3a.out.cell 0 (by simp)
    have f2 := HR2a.out.frozen 0
    have f3 := HR3a.out.frozen 0
    have l2 := HR2a.out.lt
    have l3 := HR3a.out.lt
    go_wp2_with fail
    have hn23 := rows_ne2 HR2a.out HR3a.out (by decide)
    obtain ⟨q2, q3⟩ := two_boxes ((HR2a.out.set1 (.slice none 0 0)).other (a := ⟨w.heap.size + 1, 0, none⟩) (by exact hn23) (.int .u64 0)) ((HR3a.out.other (a := ⟨w.heap.size, 0, none⟩) (by exact hn23.symm) (.slice none 0 0)).set1 (.int .u64 0))
    refine bodyPost_ret (v := .tuple #[.slice none 0 0, .int .u64 0, .int .i64 er]) (by simp [results, Tryd.results10, Tryd.f10, go_sem, q2, q3]) rfl ?_
    exact lP_no HE.out HN.out (bset (bset HB1.out (Nat.le_refl _) _) (by omega) _)
end Go.Proofs.YtihaakcfegelkaaDoor
