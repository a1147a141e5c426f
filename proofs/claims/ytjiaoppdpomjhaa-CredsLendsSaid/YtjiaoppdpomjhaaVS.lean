/- Contracts of hostellaw04.roomy and kept. -/
import Derived.Test.YtjiaoppdpomjhaaVM
import Derived.Test.YtjiaoppdpomjhaaVR
import Derived.Test.YtjiaoppdpomjhaaB3
import Derived.Deep.DeepMust
namespace Go.Proofs.Ytjiaoppdpomjhaa
open Go.RowKit Go.Sort

set_option maxHeartbeats 2000000 in
theorem roomy_any (u e s g : Int) (a : Option Addr) (len cap : Nat) (l : List Int) (w : World) (hB : Nums w .u32 a len l) (hcap : a = none → cap = 0) (hl : len ≤ 65536) :
    Calls Try.prog 10 #[credV u e s g a len cap] w fun e' w' => ∃ G c, e' = .returned (credV u e s g (some ⟨G, 0, none⟩) len c) ∧ w'.ownsRow w.heap.size 22 1 (.slice (some ⟨G, 0, none⟩) (len + 1) c) (len + 1) ((l ++ [77]).map (Value.int .u32)) ∧ Below w.heap.size w w' := by
  obtain rfl := hB.hlen
  obtain ⟨i0, hi, hz0, hz1, hz2⟩ := info_parts infoU32
  have HB := hid (fun o1 o2 => hB.below' (b2a o1 o2))
  have HW := hid (@b2a w)
  clear hB
  go_enter Try.func10, Try.ntmps10
  go_wp2_with fail
  refine (copy_any _ _ _ _ _ _ _ l _ (HB.out _ _) hcap (by omega)).mono ?_
  rintro e' w1 ⟨v, rfl, ho, hb⟩
  obtain ⟨a9, c9, rfl, hN9⟩ := own_nums ho
  have r0 := ((Row.new w 25 [.int .u32 u, .int .u32 e, .int .u32 s, .int .u32 g, .slice a l.length cap]).alloc (.cells #[.int .u32 0, .int .u32 0, .int .u32 0, .int .u32 0, .slice none 0 0] 25)).below hb (by simp; omega)
  have r1 := (Row.new (w.alloc (.cells #[.int .u32 u, .int .u32 e, .int .u32 s, .int .u32 g, .slice a l.length cap] 25)) 25 [.int .u32 0, .int .u32 0, .int .u32 0, .int .u32 0, .slice none 0 0]).below hb (by simp)
  simp only [World.size_alloc] at r1 ho hb
  have hb1 := bthen (b2a _ _) (show Below ((w.alloc (.cells #[.int .u32 u, .int .u32 e, .int .u32 s, .int .u32 g, .slice a l.length cap] 25)).alloc (.cells #[.int .u32 0, .int .u32 0, .int .u32 0, .int .u32 0, .slice none 0 0] 25)).heap.size _ w1 by simpa using hb)
  have hsz := hb.size
  simp only [World.size_alloc] at hsz
  obtain ⟨x0, x1, x2, x3, x4⟩ := r0.five
  obtain ⟨z0, z1, z2, z3, z4⟩ := r1.five
  obtain ⟨f0, f1, f2, f3, f4⟩ := r1.fiveF
  have n0 : w.heap.size < w1.heap.size := by omega
  have n1 : w.heap.size + 1 < w1.heap.size := by omega
  have R0 := hid r0
  have R1 := hid r1
  have HO := hid ho
  have HB1 := hid hb1
  clear r0 r1 ho hb hb1 hN9 HB HW
  have HLa := hid (show w.heap.size < w.heap.size + 1 + 1 by omega)
  have HLb := hid (show w.heap.size + 1 < w.heap.size + 1 + 1 by omega)
  have HLc := hid (show w.heap.size ≤ w.heap.size + 1 + 1 by omega)
  have HLd := hid (fun o1 o2 => show w.heap.size ≤ ((w1.alloc o1).alloc o2).heap.size by simp only [World.size_alloc]; omega)
  have HL1 := hid (show l.length + 1 ≤ maxLen by unfold maxLen; omega)
  have HL2 := hid (show (l.length + 1) * 4 ≤ 140737488355328 by omega)
  have HL3 := hid (fun o1 o2 => show w.heap.size + 1 + 1 ≤ ((w1.alloc o1).alloc o2).heap.size by simp only [World.size_alloc]; omega)
  have HN1 := hid (fun o => (by have h := news_one (w1.alloc o) (.int .u32 77) 22; rwa [World.size_alloc] at h : ∀ j u, [Value.int .u32 77][j]? = some u → ((w1.alloc o).alloc (.cells #[.int .u32 77] 22)).cell? ((Addr.mk (w1.heap.size + 1) 0 none).add j) = some u))
  have HO2 := hid (fun o1 o2 => (HO.out.alloc o1).alloc o2)
  have R2 := hid (fun o => (Row.new w1 25 [.int .u32 u, .int .u32 e, .int .u32 s, .int .u32 g, .slice a9 l.length c9]).alloc o)
  have R0' := hid (fun o1 o2 => (R0.out.alloc o1).alloc o2)
  have R1' := hid (fun o1 o2 => (R1.out.alloc o1).alloc o2)
  have HB1' := hid (fun o1 o2 => bthen HB1.out (b2a o1 o2))
  go_wp2_with (at_builtin; go_must (refine wpList_append_own _ rfl _ _ 23 rfl (w.heap.size + 1 + 1) 22 i0 (.int .u32 0) 1 4 Try.underlying23 hi hz0 hz1 hz2 rfl (by decide) (.slice a9 l.length c9) l.length (l.map (Value.int .u32)) rfl (HO2.out _ _) ⟨w1.heap.size + 1, 0, none⟩ 1 1 [.int .u32 77] rfl rfl (HN1.out _) (ones_one _ _) HL1.out HL2.out (HL3.out _ _) ?_; intro v' w2 hown' hgrow _; have r0 := (R0'.out _ _).grown hgrow (own_ne HO.out (.inl HLa.out)); have r1 := (R1'.out _ _).grown hgrow (own_ne HO.out (.inl HLb.out)); have r2 := (R2.out _).grown hgrow (own_ne HO.out (.inr (Nat.le_refl _))); have hb2 := (HB1'.out _ _).grown hgrow (HLd.out _ _) (fun k hk => own_low HO.out HLc.out k hk); obtain ⟨G, c, rfl, hc1, hc2, hc3, hc4⟩ := own_open hown' (Nat.succ_pos _); have HO3 := hid hown'; have HB2 := hid hb2; have HN3 := hid (own_row_ne hown' r2 (by decide)); clear hown' hgrow hb2 x0 x1 x2 x3 x4 z0 z1 z2 z3 z4 f0 f1 f2 f3 f4; obtain ⟨x0, x1, x2, x3, x4⟩ := r0.five; obtain ⟨z0, z1, z2, z3, z4⟩ := r1.five; obtain ⟨f0, f1, f2, f3, f4⟩ := r1.fiveF; obtain ⟨t0, t1, t2, t3, t4⟩ := r2.five; obtain ⟨g0, g1, g2, g3, g4⟩ := r2.fiveF; clear r0 r1 r2))
  have ne1 : ¬ w1.heap.size = w.heap.size + 1 := by omega
  have ne2 : ¬ w.heap.size + 1 = w1.heap.size := by omega
  refine bodyPost_ret (v := credV u e s g (some ⟨G, 0, none⟩) l.length c) (by simp [results, Try.results10, go_sem, z0, z1, z2, z3, z4, ne1, ne2]) rfl ⟨G, c, rfl, ?_, ?_⟩
  · refine own_from ?_ HLc.out
    repeat (with_reducible refine own_setLow ?_ HLb.out _)
    repeat (with_reducible refine own_setOther ?_ HN3.out _)
    exact own_ext HO3.out rfl (by simp)
  · repeat (with_reducible refine bset ?_ (by omega) _)
    exact HB2.out

set_option maxHeartbeats 2000000 in
theorem kept_any (u e s g : Int) (G c : Nat) (a : Option Addr) (len cap : Nat) (l : List Int) (w : World) (hN : Nums w .u32 (some ⟨G, 0, none⟩) (len + 1) (l ++ [77])) (hc : len + 1 ≤ c) (hcm : c ≤ maxLen) (hB : Nums w .u32 a len l) (hl : len ≤ 65536) :
    Calls Try.prog 17 #[credV u e s g (some ⟨G, 0, none⟩) len c, credV u e s g a len cap] w fun e' w' => e' = .returned (.bool true) ∧ Below w.heap.size w w' := by
  obtain rfl := hB.hlen
  unfold maxLen at hcm
  obtain ⟨b, off, e1, hcell⟩ := hN.some_of (by simp)
  cases e1
  have h77 : w.cell? ⟨G, l.length, none⟩ = some (.int .u32 77) := by
    have := hcell l.length (by simp)
    simpa using this
  have HN : Hid (Nums w .u32 (some ⟨G, 0, none⟩) l.length l) := hid ⟨rfl, fun i hi => ⟨G, 0, rfl, by
    have := hcell i (by simp; omega)
    rw [List.getElem_append_left hi] at this
    exact this⟩⟩
  have HB := hid (fun o1 o2 => hB.below' (b2a o1 o2))
  have HNN := hid (fun o1 o2 => HN.out.below' (b2a o1 o2))
  have HW := hid (@b2a w)
  have H77 := hid (fun o1 o2 => keepC (b2a o1 o2) h77)
  clear hB hN hcell h77
  go_enter Try.func17, Try.ntmps17
  go_wp2_with fail
  refine (rsame_any _ _ _ _ _ _ _ _ _ _ _ l _ _ _ l _ (HNN.out _ _) (HB.out _ _) (by omega) (by omega)).mono ?_
  rintro e' w1 ⟨rfl, hb⟩
  rw [show sameB u e s g u e s g l l = true by simp [sameB, eqN]]
  have r0 := ((Row.new w 25 [.int .u32 u, .int .u32 e, .int .u32 s, .int .u32 g, .slice (some ⟨G, 0, none⟩) l.length c]).alloc (.cells #[.int .u32 u, .int .u32 e, .int .u32 s, .int .u32 g, .slice a l.length cap] 25)).below hb (by simp; omega)
  have h77 := keepC hb (H77.out _ _)
  have HB1 := hid (bthen (HW.out _ _) hb)
  obtain ⟨x0, x1, x2, x3, x4⟩ := r0.five
  clear r0 hb
  go_wp2_with fail
  go_ret
  exact ⟨rfl, HB1.out⟩
end Go.Proofs.Ytjiaoppdpomjhaa
