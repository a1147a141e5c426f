
/- DynamicNone: its walk. -/
import Derived.Test.YtkkadknijjninaaDoorQc3
import Derived.Test.YtkkadknijjninaaDoorSK
namespace Go.Proofs.YtkkadknijjninaaDoor
open Go.RowKit Go.Sort Go.Shelf Go.Proofs.YtkkadknijjninaaDoor.Ap
attribute [local go_sem] Oper.semAt_some

def ndB (s : SG) : Bool := !decide (s.kind = 2)
theorem nd_none (sg : List SG) : dynS (sg.filter ndB) = none := by
  unfold dynS
  rw [List.find?_eq_none]
  intro x hx
  have := (List.mem_filter.1 hx).2
  unfold ndB at this
  simpa using this
theorem nd_take {sg : List SG} {k : Nat} (hk : k < sg.length) : (sg.take (k + 1)).filter ndB = if ndB sg[k] = true then (sg.take k).filter ndB ++ [sg[k]] else (sg.take k).filter ndB := by
  rw [List.take_succ_eq_append_getElem hk, List.filter_append]
  by_cases h : ndB sg[k] = true
  · rw [if_pos h, List.filter_cons_of_pos h, List.filter_nil]
  · rw [if_neg h, List.filter_cons_of_neg h, List.filter_nil, List.append_nil]
theorem ndB_eq (s : SG) : ndB s = (s.kind != 2) := by
  unfold ndB
  by_cases h : s.kind = 2 <;> simp [h, bne]
/-- All blocks of W stand but one. -/
structure SN (W : World) (ob : Option Nat) (w : World) : Prop where
  size : W.heap.size ≤ w.heap.size
  keep : ∀ b, b < W.heap.size → some b ≠ ob → w.heap[b]? = W.heap[b]?
theorem SN.of {W : World} {ob : Option Nat} {w : World} (h : Below W.heap.size W w) : SN W ob w := ⟨h.size, fun b hb _ => h.block b hb⟩
theorem SN.step {W : World} {ob : Option Nat} {w w' : World} (h : SN W ob w) (hb : Below w.heap.size w w') : SN W ob w' :=
  ⟨Nat.le_trans h.size hb.size, fun b h1 h3 => by rw [hb.block b (Nat.lt_of_lt_of_le h1 h.size), h.keep b h1 h3]⟩
theorem SN.read {W : World} {ob : Option Nat} {w : World} {b o : Nat} {v : Value} (h : SN W ob w) (hc : W.cell? ⟨b, o, none⟩ = some v) (h2 : some b ≠ ob) : w.cell? ⟨b, o, none⟩ = some v := by
  rw [World.cell?_of_block (a := ⟨b, o, none⟩) (h.keep b (World.block_lt_of_cell? W _ hc) h2)]
  exact hc
theorem lookZ (nm : BL) : lookR (.inr obZ) nm = (0, false) := rfl
theorem rightZ : rightR (.inr obZ) = true := rfl
theorem fin7_z {W w : World} {z : Z7} {er : Int} (h : Fin7 (.inr obZ) W w z er) : er = 0 ∧ z.n0 = 0 ∧ z.n3 = 0 ∧ z.n4 = 0 ∧ z.s1 = ba [] ∧ z.s2 = ba [] := by
  rcases h with ⟨h, _⟩ | ⟨o, ho, he, h1, h2, k0, k3, k4, k5, k6⟩
  · cases h
  · cases ho
    obtain ⟨a0, c0, e0⟩ := own_hd2 k0
    obtain ⟨a3, c3, e3⟩ := own_hd2 k3
    obtain ⟨a4, c4, e4⟩ := own_hd2 k4
    exact ⟨he, (Value.slice.inj e0).2.1, (Value.slice.inj e3).2.1, (Value.slice.inj e4).2.1, h1, h2⟩
def gh0 (v : Value) : List Value := [.int .u16 0, .int .u64 0, .int .u64 0, v]
set_option maxRecDepth 100000 in
set_option maxHeartbeats 16000000 in
theorem dynamicNone_walk (ab : Option Addr) (len cap : Nat) (l : BL) (typ entry phoff : Int) (a : Option Addr) (n c : Nat) (sg : List SG) (nm : BL) (w : World) (hs : Sizes w) (hB : Byt w ab len l) (hlc : len ≤ cap) (hS : Sgs w a n sg) (hok : ∀ s ∈ sg, SGok s) :
    Calls Tryd.prog 6 #[.slice ab len cap, .agg #[.int .u16 typ, .int .u64 entry, .int .u64 phoff, .slice a n c], .string (ba nm)] w fun e w' => e = .returned (.bool true) ∧ Below w.heap.size w w' := by
  obtain rfl := hB.hlen
  obtain rfl := hS.hlen
  have HSZ := hid (fun (W : World) (hb : Below w.heap.size w W) => hs.below hb)
  have HWK := hid (fun (W : World) (hb : Below w.heap.size w W) => works13_any W (hs.below hb))
  have HBY := hid (fun (W : World) (hb : Below w.heap.size w W) => hB.below' hb)
  obtain ⟨W, hW⟩ : ∃ W, W = w.alloc (.cells #[.int .u16 typ, .int .u64 entry, .int .u64 phoff, .slice a sg.length c] 27) := ⟨_, rfl⟩
  have HW := hid hW
  have HLOW := hid (show Below w.heap.size w W by rw [hW]; exact bal _)
  have HROW := hid (show Row W w.heap.size 27 [.int .u16 typ, .int .u64 entry, .int .u64 phoff, .slice a sg.length c] by rw [hW]; exact Row.new _ _ _)
  have HS := hid (hS.below' HLOW.out)
  have HOK := hid hok
  have HLC := hid hlc
  have HLA := hid (large_any ab l.length cap typ entry phoff a sg.length c W)
  obtain ⟨y0, y1, y2, y3⟩ := HROW.out.four
  clear hW hS hok hs hB hlc
  cases hlg : largeB l.length sg.length
  rotate_left
  · rw [hlg] at HLA
    clear hlg
    go_enter Tryd.func6, Tryd.ntmps6
    go_wp2_with fail
    rw [← HW.out]
    go_wp2_with fail
    refine HLA.out.mono ?_
    rintro e' w1 ⟨rfl, hb1⟩
    have HL1 := hid (HLOW.out.trans (hb1.mono HLOW.out.size))
    clear hb1
    go_wp2_with fail
    refine (HWK.out w1 HL1.out).mono ?_
    rintro e' w5 ⟨rfl, hb5⟩
    have HL5 := hid (HL1.out.trans (hb5.mono HL1.out.size))
    clear hb5
    go_wp2_with fail
    go_ret
    exact ⟨rfl, HL5.out⟩
  rw [hlg] at HLA
  have hlen : l.length ≤ 131072 ∧ sg.length ≤ 256 := by
    unfold largeB at hlg
    simp only [Bool.or_eq_false_iff, decide_eq_false_iff_not] at hlg
    omega
  have HLEN := hid hlen
  clear hlg hlen
  by_cases hnm : 65536 < nm.length
  · have d1 : decide ((65536 : Int) < ((ba nm).size : Int)) = true := by rw [ba_size]; simp; omega
    have d1n : decide (65536 < (ba nm).size) = true := by rw [ba_size]; simp; omega
    clear hnm
    go_enter Tryd.func6, Tryd.ntmps6
    go_wp2_with fail
    rw [← HW.out]
    go_wp2_with fail
    refine HLA.out.mono ?_
    rintro e' w1 ⟨rfl, hb1⟩
    have HL1 := hid (HLOW.out.trans (hb1.mono HLOW.out.size))
    clear hb1
    go_wp2_with fail
    refine (HWK.out w1 HL1.out).mono ?_
    rintro e' w5 ⟨rfl, hb5⟩
    have HL5 := hid (HL1.out.trans (hb5.mono HL1.out.size))
    clear hb5
    go_wp2_with fail
    go_ret
    exact ⟨rfl, HL5.out⟩
  have d1 : decide ((65536 : Int) < ((ba nm).size : Int)) = false := by rw [ba_size]; simp; omega
  have d1n : decide (65536 < (ba nm).size) = false := by rw [ba_size]; simp; omega
  have HNM := hid (show nm.length ≤ 65536 by omega)
  clear hnm
  go_enter Tryd.func6, Tryd.ntmps6
  go_wp2_with fail
  rw [← HW.out]
  go_wp2_with fail
  refine HLA.out.mono ?_
  rintro e' w1 ⟨rfl, hb1⟩
  have HL1 := hid (HLOW.out.trans (hb1.mono HLOW.out.size))
  have HR1 := hid (HROW.out.below hb1 HROW.out.lt)
  have HS1 := hid (HS.out.below' hb1)
  obtain ⟨W2, hW2⟩ : ∃ W2, W2 = w1.alloc (.cells #[.int .u16 0, .int .u64 0, .int .u64 0, .slice none 0 0] 27) := ⟨_, rfl⟩
  have HW2 := hid hW2
  have HG2 := hid (show Row W2 w1.heap.size 27 (gh0 (.slice none 0 0)) by rw [hW2]; exact Row.new _ _ _)
  have HL2 := hid (show Below w1.heap.size w1 W2 by rw [hW2]; exact bal _)
  clear hW2 hb1 y0 y1 y2 y3
  go_wp2_with fail
  rw [← HW2.out]
  clear d1 d1n
  go_loopw [8] (fun i wr => ∃ (k : Nat) (v : Value), k ≤ sg.length ∧ i = .int .i64 k ∧ Row wr w1.heap.size 27 (gh0 v) ∧ OwnG wr (w1.heap.size + 1) v ((sg.take k).filter ndB) ∧ Below w1.heap.size w1 wr) (fun i _ => sg.length - (intOf i).toNat)
  case atStart => exact ⟨0, _, Nat.zero_le _, rfl, HG2.out, ownG_nil _ _, HL2.out⟩
  case round =>
    obtain ⟨k, v, hk, rfl, hrow, hown, hbel⟩ := hrel
    have HG := hid hrow
    have HO := hid hown
    have HB := hid hbel
    have HRA := hid (HR1.out.below hbel HR1.out.lt)
    have HSA := hid (HS1.out.below' hbel)
    have hsl := HLEN.out.2
    clear hrow hown hbel
    obtain ⟨y0, y1, y2, y3⟩ := HRA.out.four
    have hrl := HRA.out.lt
    by_cases hlt : k < sg.length
    · have d1 : decide ((k : Int) < (sg.length : Int)) = true := by simp; omega
      have d1n : decide (k < sg.length) = true := by simp; omega
      obtain ⟨b, off, rfl, z0, z1, z2, z3, z4, z5⟩ := HSA.out.cells hlt
      have hbl := World.block_lt_of_cell? wr _ z3
      have HT := hid (nd_take hlt)
      have HKE := hid (ndB_eq sg[k])
      generalize sg[k] = s at *
      cases hnd : ndB s
      · have e1 : (s.kind != 2) = false := by rw [← HKE.out, hnd]
        have HT2 := hid (show (sg.take (k + 1)).filter ndB = (sg.take k).filter ndB by rw [HT.out, hnd]; rfl)
        clear hnd
        go_wp2_with fail
        go_roundw
        case rel => exact ⟨k + 1, v, by omega, by go_num, HG.out, by rw [HT2.out]; exact HO.out, HB.out⟩
        case measure => simp [intOf]; omega
      have e1 : (s.kind != 2) = true := by rw [← HKE.out, hnd]
      have HT2 := hid (show (sg.take (k + 1)).filter ndB = (sg.take k).filter ndB ++ [s] by rw [HT.out, hnd]; rfl)
      clear hnd
      go_wp2_with fail
      have HOB := hid (own_block HO.out)
      have hob : ∀ q, q ≤ w1.heap.size → some q ≠ v.ownBlock := fun q hq e => by
        rcases HOB.out with h | ⟨g, h, h1, _⟩
        · rw [h] at e; cases e
        · rw [h] at e; cases e; omega
      have HGO := hid (hob _ (Nat.le_refl _))
      have hg3 := HG.out.cell 3 (by simp [gh0])
      simp only [gh0, List.getElem_cons_zero, List.getElem_cons_succ] at hg3
      have hbw : b < w1.heap.size := by
        obtain ⟨b', o', e, hq, _⟩ := HS1.out.cells hlt
        cases e
        exact World.block_lt_of_cell? w1 _ hq
      have hww : w.heap.size < w1.heap.size := HR1.out.lt
      have s0 := (fun (ww : World) (h : SN wr v.ownBlock ww) => h.read hg3 HGO.out)
      have s1 := (fun (ww : World) (h : SN wr v.ownBlock ww) => h.read y3 (hob _ (by omega)))
      have t0 := (fun (ww : World) (h : SN wr v.ownBlock ww) => h.read z0 (hob _ (by omega)))
      have t1 := (fun (ww : World) (h : SN wr v.ownBlock ww) => h.read z1 (hob _ (by omega)))
      have t2 := (fun (ww : World) (h : SN wr v.ownBlock ww) => h.read z2 (hob _ (by omega)))
      have t3 := (fun (ww : World) (h : SN wr v.ownBlock ww) => h.read z3 (hob _ (by omega)))
      have t4 := (fun (ww : World) (h : SN wr v.ownBlock ww) => h.read z4 (hob _ (by omega)))
      have t5 := (fun (ww : World) (h : SN wr v.ownBlock ww) => h.read z5 (hob _ (by omega)))
      have hS : SN wr v.ownBlock wr.drew := SN.of (Below.refl _ _).drew
      have hk0 : (0 : Int) ≤ (k : Int) := by omega
      have hk1 : (k : Int) < (sg.length : Int) := by omega
      have HLK := hid hlt
      clear y0 y1 y2 y3 z0 z1 z2 z3 z4 z5 hg3 hbw hww hob hrl hbl hsl hk hlt
      refine region_sk 10 (SN wr v.ownBlock) (by kernel_rfl) (fun inv => ?_)
      refine sk_take (i := 0) (v := ?_) (some 36) rfl rfl (by kernel_rfl) (by kernel_rfl) (by decide) (by decide) inv (by kernel_rfl) (by kernel_rfl) (fun _ _ _ h => h) (Or.inl ⟨by rfl, ?_⟩) hS (fun inv => ?_)
      rotate_left
      · intro ww hSw
        go_simp
        try with_reducible rfl
      simp only [Act.put, List.setIfInBounds_toArray, List.set_cons_zero, List.set_cons_succ]
      refine sk_take (i := 1) (v := ?_) (some 37) rfl rfl (by kernel_rfl) (by kernel_rfl) (by decide) (by decide) inv (by kernel_rfl) (by kernel_rfl) (fun _ _ _ h => h) (Or.inl ⟨by rfl, ?_⟩) hS (fun inv => ?_)
      rotate_left
      · intro ww hSw
        go_simp
        try with_reducible rfl
      simp only [Act.put, List.setIfInBounds_toArray, List.set_cons_zero, List.set_cons_succ]
      refine sk_take (i := 2) (v := ?_) (some 38) rfl rfl (by kernel_rfl) (by kernel_rfl) (by decide) (by decide) inv (by kernel_rfl) (by kernel_rfl) (fun _ _ _ h => h) (Or.inl ⟨by rfl, ?_⟩) hS (fun inv => ?_)
      rotate_left
      · intro ww hSw
        go_simp
        try with_reducible rfl
      simp only [Act.put, List.setIfInBounds_toArray, List.set_cons_zero, List.set_cons_succ]
      refine sk_take (i := 3) (v := ?_) (some 39) rfl rfl (by kernel_rfl) (by kernel_rfl) (by decide) (by decide) inv (by kernel_rfl) (by kernel_rfl) (fun _ _ _ h => h) (Or.inl ⟨by rfl, ?_⟩) hS (fun inv => ?_)
      rotate_left
      · intro ww hSw
        go_simp
        try with_reducible rfl
      simp only [Act.put, List.setIfInBounds_toArray, List.set_cons_zero, List.set_cons_succ]
      refine sk_take (i := 4) (v := ?_) (some 40) rfl rfl (by kernel_rfl) (by kernel_rfl) (by decide) (by decide) inv (by kernel_rfl) (by kernel_rfl) (fun _ _ _ h => h) (Or.inl ⟨by rfl, ?_⟩) hS (fun inv => ?_)
      rotate_left
      · intro ww hSw
        go_simp
        try with_reducible rfl
      simp only [Act.put, List.setIfInBounds_toArray, List.set_cons_zero, List.set_cons_succ]
      refine sk_take (i := 5) (v := ?_) (some 41) rfl rfl (by kernel_rfl) (by kernel_rfl) (by decide) (by decide) inv (by kernel_rfl) (by kernel_rfl) (fun _ _ _ h => h) (Or.inl ⟨by rfl, ?_⟩) hS (fun inv => ?_)
      rotate_left
      · intro ww hSw
        go_simp
        try with_reducible rfl
      simp only [Act.put, List.setIfInBounds_toArray, List.set_cons_zero, List.set_cons_succ]
      refine sk_take (i := 6) (v := ?_) (some 42) rfl rfl (by kernel_rfl) (by kernel_rfl) (by decide) (by decide) inv (by kernel_rfl) (by kernel_rfl) (fun _ _ _ h => h) (Or.inl ⟨by rfl, ?_⟩) hS (fun inv => ?_)
      rotate_left
      · intro ww hSw
        go_simp
        try with_reducible rfl
      simp only [Act.put, List.setIfInBounds_toArray, List.set_cons_zero, List.set_cons_succ]
      obtain ⟨i0, hi0, hz0, hz1, hz2⟩ := info_parts infoSeg
      refine sk_one (i := 7) (by kernel_rfl) rfl inv (fun K hK => ?_)
      rw [if_pos (by rfl)]
      go_simp
      have hS : SN wr v.ownBlock ((wr.alloc (.cells #[.int .u32 s.kind, .int .u8 s.flags, .int .u64 s.off, .int .u64 s.addr, .int .u64 s.fsz, .int .u64 s.msz] 52)).drew) := SN.of ((bal _).drew)
      have HOW5 := hid (show World.ownsRow ((wr.alloc (.cells #[.int .u32 s.kind, .int .u8 s.flags, .int .u64 s.off, .int .u64 s.addr, .int .u64 s.fsz, .int .u64 s.msz] 52)).drew) (w1.heap.size + 1) 52 6 v ((sg.take k).filter ndB).length (((sg.take k).filter ndB).map sgC).flatten from by
        have h := own_below (HO.out.alloc (.cells #[.int .u32 s.kind, .int .u8 s.flags, .int .u64 s.off, .int .u64 s.addr, .int .u64 s.fsz, .int .u64 s.msz] 52)) ((Below.refl _ _).drew)
        rw [List.length_map] at h
        exact h)
      have HL5 := hid (show (sgC s).length = 1 * 6 from rfl)
      have HN5 := hid (show ∀ q u, (sgC s)[q]? = some u → World.cell? ((wr.alloc (.cells #[.int .u32 s.kind, .int .u8 s.flags, .int .u64 s.off, .int .u64 s.addr, .int .u64 s.fsz, .int .u64 s.msz] 52)).drew) ((⟨wr.heap.size, 0, none⟩ : Addr).add q) = some u by
        have h5 := (row_rk (k := 6) ((Row.new wr 52 (sgC s)).drew) rfl).news (by omega)
        intro q u hq
        exact h5 q u (by simpa using hq))
      have HO5 := hid (show ∀ u ∈ sgC s, u.oneCell' = true by
        intro u hu
        simp only [sgC, List.mem_cons, List.not_mem_nil, or_false] at hu
        rcases hu with rfl | rfl | rfl | rfl | rfl | rfl <;> rfl)
      have HFL := hid (show ((sg.take k).filter ndB).length ≤ 256 by
        have h1 := List.length_filter_le ndB (sg.take k)
        rw [List.length_take] at h1
        have := HLEN.out.2
        omega)
      have HM5 := hid (show ((sg.take k).filter ndB).length + 1 ≤ maxLen by unfold maxLen; have := HFL.out; omega)
      have HM6 := hid (show (((sg.take k).filter ndB).length + 1) * 40 ≤ 140737488355328 by have := HFL.out; omega)
      have HZ5 := hid (show w1.heap.size + 1 ≤ (World.heap ((wr.alloc (.cells #[.int .u32 s.kind, .int .u8 s.flags, .int .u64 s.off, .int .u64 s.addr, .int .u64 s.fsz, .int .u64 s.msz] 52)).drew)).size by have := HG.out.lt; show _ ≤ (wr.alloc _).heap.size; rw [World.size_alloc]; omega)
      refine hK.out _ _ (fun _ => hS) (fun inv => ?_)
      have inv := inv (by decide)
      clear hK K
      try simp only [Act.put, List.setIfInBounds_toArray, List.set_cons_zero, List.set_cons_succ]
      refine sk_one (i := 8) (by kernel_rfl) rfl inv (fun K hK => ?_)
      refine step_append_lies _ (by rfl) _ _ 25 (by rfl) (w1.heap.size + 1) 52 i0 _ 6 40 Tryd.underlying25 hi0 hz0 hz1 hz2 rfl (by decide) v ((sg.take k).filter ndB).length (((sg.take k).filter ndB).map sgC).flatten (by rfl) HOW5.out ⟨wr.heap.size, 0, none⟩ 1 1 (sgC s) (by rfl) HL5.out HN5.out HO5.out (by decide) HM5.out HM6.out HZ5.out _ rfl ?_
      intro gg cap w7 hown hgrow hat hlt7
      have hrA := (HG.out.alloc (.cells #[.int .u32 s.kind, .int .u8 s.flags, .int .u64 s.off, .int .u64 s.addr, .int .u64 s.fsz, .int .u64 s.msz] 52)).drew
      have hr7 := hrA.grown hgrow HGO.out
      have g7 := hr7.cell 3 (by simp [gh0])
      simp only [gh0, List.getElem_cons_zero, List.getElem_cons_succ] at g7
      have f7 := hr7.frozen 3
      have l7 := hr7.lt
      have hS : SN wr v.ownBlock w7 := ⟨Nat.le_trans hS.size hgrow.size, fun b h1 h3 => by rw [hgrow.block b (Nat.lt_of_lt_of_le h1 hS.size) h3, hS.keep b h1 h3]⟩
      have HB7 := hid (show Below w1.heap.size w1 w7 from by
        have h2 := (HB.out.alloc HB.out.size (.cells #[.int .u32 s.kind, .int .u8 s.flags, .int .u64 s.off, .int .u64 s.addr, .int .u64 s.fsz, .int .u64 s.msz] 52)).drew
        exact h2.grown hgrow h2.size (fun q e => by have := own_low HOW5.out (Nat.le_refl _) q e; omega))
      have HR7 := hid hr7
      have HO7 := hid hown
      refine hK.out _ _ (fun _ => hS) (fun inv => ?_)
      have inv := inv (by decide)
      clear hK K hown hgrow hat hrA hr7
      try simp only [Act.put, List.setIfInBounds_toArray, List.set_cons_zero, List.set_cons_succ]
      refine sk_take (i := 9) (v := ?_) (some 45) rfl rfl (by kernel_rfl) (by kernel_rfl) (by decide) (by decide) inv (by kernel_rfl) (by kernel_rfl) (fun _ _ _ h => h) (Or.inl ⟨by rfl, ?_⟩) hS (fun inv => ?_)
      rotate_left
      · intro ww hSw
        go_simp
        try with_reducible rfl
      simp only [Act.put, List.setIfInBounds_toArray, List.set_cons_zero, List.set_cons_succ]
      refine sk_one (i := 10) (by kernel_rfl) rfl inv (fun K hK => ?_)
      rw [if_pos (by rfl)]
      go_simp
      refine hK.out _ _ (fun h => absurd h (by decide)) (fun _ => ?_)
      clear hK K
      refine sk_done (by kernel_rfl) ?_ _
      clear s0 s1 t0 t1 t2 t3 t4 t5 hS inv g7 f7 l7 hlt7
      have hkk : k < sg.length := HLK.out
      have hsl := HLEN.out.2
      go_wp2_with fail
      go_roundw
      case rel => exact ⟨k + 1, _, HLK.out, by go_num, HR7.out.set 3 _, by
        rw [HT2.out]
        refine own_setLow (own_ext HO7.out ?_ ?_) (Nat.lt_succ_self _) _
        · rw [List.length_map, List.length_append]; rfl
        · rw [List.map_append, List.flatten_append]; rfl, HB7.out.setCell (Nat.le_refl _) _⟩
      case measure => simp [intOf]; omega
    · have d1 : decide ((k : Int) < (sg.length : Int)) = false := by simp; omega
      have d1n : decide (k < sg.length) = false := by simp; omega
      have HO9 := hid (show OwnG wr (w1.heap.size + 1) v (sg.filter ndB) by
        have := HO.out
        rw [List.take_of_length_le (by omega)] at this
        exact this)
      obtain ⟨a9, c9, rfl, hs9, _⟩ := ownG_open HO9.out
      have hl9 : (sg.filter ndB).length ≤ 256 := Nat.le_trans (List.length_filter_le _ _) hsl
      have HOK9 := hid (show ∀ x ∈ sg.filter ndB, SGok x from fun x hx => HOK.out x (List.mem_filter.1 hx).1)
      have HPZ := hid (show parseO l (sg.filter ndB) = .inr obZ from parseO_none (nd_none sg))
      generalize sg.filter ndB = sg9 at *
      have HS9 := hid hs9
      have HL9 := hid (show sg9.length ≤ 1000000000 by omega)
      have HLL := hid (show l.length ≤ 1000000000 by have := HLEN.out.1; omega)
      have HNL := hid (show nm.length ≤ 1000000000 by have := HNM.out; omega)
      have HWR := hid (HL1.out.trans (HB.out.mono HL1.out.size))
      have HST := hid (fun (wx : World) (hx : St wr wx) => HWR.out.trans (Below.mono hx HWR.out.size))
      have HPA := hid (show Calls Tryd.prog 17 #[.slice ab l.length cap, .agg #[.int .u16 0, .int .u64 0, .int .u64 0, .slice a9 sg9.length c9]] wr (ParP (.inr obZ) wr) from by
        have k9 := Parse_any ab cap l 0 0 0 a9 c9 sg9 wr (HSZ.out _ HWR.out) (HBY.out _ HWR.out) HLC.out HLL.out HS9.out HL9.out HOK9.out
        rw [HPZ.out] at k9
        exact k9)
      have HLK := hid (fun (wx : World) (hx : St wr wx) => show Calls Tryd.prog 10 #[.slice ab l.length cap, .agg #[.int .u16 0, .int .u64 0, .int .u64 0, .slice a9 sg9.length c9], .string (ba nm)] wx (fun e w' => e = .returned (.tuple #[.int .i64 0, .bool false]) ∧ Below wx.heap.size wx w') from by
        have k9 := Look_any ab cap l 0 0 0 a9 c9 sg9 nm wx (HSZ.out _ (HST.out wx hx)) (HBY.out _ (HST.out wx hx)) HLC.out HLL.out (HS9.out.below' hx) HL9.out HOK9.out HNL.out
        rw [HPZ.out, lookZ] at k9
        exact k9)
      have HRI := hid (fun (wx : World) (hx : St wr wx) => show Calls Tryd.prog 14 #[.slice ab l.length cap, .agg #[.int .u16 0, .int .u64 0, .int .u64 0, .slice a9 sg9.length c9]] wx (fun e w' => e = .returned (.bool true) ∧ Below wx.heap.size wx w') from by
        have k9 := Right_any ab cap l 0 0 0 a9 c9 sg9 wx (HSZ.out _ (HST.out wx hx)) (HBY.out _ (HST.out wx hx)) HLC.out HLL.out (HS9.out.below' hx) HL9.out HOK9.out
        rw [HPZ.out, rightZ] at k9
        exact k9)
      clear hs9 hl9 hsl hk hlt
      obtain ⟨g0, g1, g2, g3⟩ := Row.four HG.out
      have hgl := HG.out.lt
      go_wp2_with fail
      refine HPA.out.mono ?_
      intro e2 w2 h2
      obtain ⟨⟨z, er, rfl, hfin⟩, hb2⟩ := (show ParP _ _ _ _ from h2)
      obtain ⟨rfl, e0, e3, e4, e1, e5⟩ := fin7_z hfin
      obtain ⟨z0, zn0, zk0, zs1, zs2, z3, zn3, zk3, z4, zn4, zk4, z5, zn5, zk5, z6, zn6, zk6⟩ := z
      simp only at e0 e1 e3 e4 e5
      subst e0 e1 e3 e4 e5
      have HX2 := hid (show St wr w2 from hb2)
      have HG2 := hid (HG.out.below hb2 HG.out.lt)
      obtain ⟨W3, hW3⟩ : ∃ W3, W3 = w2.alloc (.cells #[.slice z0 0 zk0, .string (ba []), .string (ba []), .slice z3 0 zk3, .slice z4 0 zk4] 41) := ⟨_, rfl⟩
      have HW3 := hid hW3
      have HX3 := hid (show St wr W3 by rw [hW3]; exact HX2.out.step (bal _))
      have HD3 := hid (show Row W3 w2.heap.size 41 [.slice z0 0 zk0, .string (ba []), .string (ba []), .slice z3 0 zk3, .slice z4 0 zk4] by rw [hW3]; exact Row.new _ _ _)
      clear h2 hfin hb2 y0 y1 y2 y3 hrl hW3 g0 g1 g2 g3 hgl
      obtain ⟨y0, y1, y2, y3⟩ := Row.four HG2.out
      have hrl := HG2.out.lt
      go_wp2_with fail
      rw [← HW3.out]
      refine (HLK.out W3 HX3.out).mono ?_
      rintro e4 w4 ⟨rfl, hb4⟩
      have HX4 := hid (St.step HX3.out hb4)
      have HG4 := hid (HG.out.below HX4.out HG.out.lt)
      have HD4 := hid (HD3.out.below hb4 HD3.out.lt)
      clear y0 y1 y2 y3 hrl hb4
      obtain ⟨y0, y1, y2, y3⟩ := Row.four HG4.out
      have hrl := HG4.out.lt
      obtain ⟨q0, q1, q2, q3, q4⟩ := HD4.out.five
      have hdl := HD4.out.lt
      go_wp2_with fail
      refine (same0_any z0 z3 z4 zk0 zk3 zk4 w4).mono ?_
      rintro e5 w5 ⟨rfl, hb5⟩
      have HX5 := hid (St.step HX4.out hb5)
      have HG5 := hid (HG.out.below HX5.out HG.out.lt)
      clear y0 y1 y2 y3 hrl hb5 q0 q1 q2 q3 q4 hdl
      obtain ⟨y0, y1, y2, y3⟩ := Row.four HG5.out
      have hrl := HG5.out.lt
      go_wp2_with fail
      refine (HRI.out w5 HX5.out).mono ?_
      rintro e6 w6 ⟨rfl, hb6⟩
      have HX6 := hid (St.step HX5.out hb6)
      clear y0 y1 y2 y3 hrl hb6
      go_wp2_with fail
      refine (HWK.out w6 (HST.out _ HX6.out)).mono ?_
      rintro e7 w7 ⟨rfl, hb7⟩
      have HL7 := hid ((HST.out _ HX6.out).trans (hb7.mono (HST.out _ HX6.out).size))
      clear hb7
      go_wp2_with fail
      go_ret
      exact ⟨rfl, HL7.out⟩
end Go.Proofs.YtkkadknijjninaaDoor
