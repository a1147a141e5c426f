
/- hostellaw20.works. -/
import Derived.Test.YtihaakcfegelkaaDoorTm0
namespace Go.Proofs.YtihaakcfegelkaaDoor
open Go.RowKit Go.Sort
attribute [local go_sem] Oper.semAt_some

def lw20 : BL := layB [[97]] [] [(6, 4096)] [47, 97]
theorem lw20_e : layE [[97]] [] [(6, 4096)] [47, 97] = 0 := by decide +kernel
theorem lw20_n : allN [[97]] [] [(6, 4096)] [47, 97] = 96 := by decide +kernel
theorem lw20_r : readR lw20 (top20 - 96) = (0, [[97]], [], [(6, 4096), (31, 140737488351221)]) := by decide +kernel
theorem lw20_len : lw20.length = 96 := by decide +kernel

theorem axs_own {w : World} {base : Nat} {v : Value} {l : List (Nat × Nat)} (h : OwnA w base v l) : ∃ a c, v = .slice a l.length c ∧ Axs w a l.length l ∧ (a = none → c = 0) ∧ l.length ≤ c ∧ c ≤ maxLen := by
  obtain ⟨a, c, e, hr, h1, h2, h3, _⟩ := own_rk h (axC_len l) (by decide)
  exact ⟨a, c, e, hr, h1, h2, h3⟩

set_option maxRecDepth 100000 in
set_option maxHeartbeats 4000000 in
theorem works20_any (w : World) (hs : Sizes w) : Calls Tryd.prog 7 #[] w fun e w' => e = .returned (.bool true) ∧ Below w.heap.size w w' := by
  obtain ⟨W0, hW0⟩ : ∃ W0, W0 = (w.alloc (.cells #[.string ⟨#[97]⟩] 9)).alloc (.cells #[.int .u64 6, .int .u64 4096] 43) := ⟨_, rfl⟩
  have hb0 : Below w.heap.size w W0 := by rw [hW0]; exact (bal _).alloc (by simp) _
  have hr1 : Row W0 w.heap.size 9 [.string (ba [97])] := by rw [hW0]; exact (Row.new w 9 [.string (ba [97])]).alloc _
  have hr2 : Row W0 (w.heap.size + 1) 43 (axC (6, 4096)) := by
    have := Row.new (w.alloc (.cells #[.string ⟨#[97]⟩] 9)) 43 (axC (6, 4096))
    rw [World.size_alloc] at this
    rw [hW0]; exact this
  have hc1 : Cel W0 (some ⟨w.heap.size, 0, none⟩) 1 (strs [[97]]) := Row.cel (cs := [.string (ba [97])]) (rest := []) hr1
  have hc2 : Axs W0 (some ⟨w.heap.size + 1, 0, none⟩) 1 [(6, 4096)] := ⟨rfl, fun i hi => by
    obtain rfl : i = 0 := by simp at hi; omega
    refine ⟨rfl, w.heap.size + 1, 0, rfl, fun j hj => ?_⟩
    rw [Nat.zero_mul, Nat.zero_add]; exact hr2.cell j hj⟩
  have HLY := hid (lay20_any (some ⟨w.heap.size, 0, none⟩) none (some ⟨w.heap.size + 1, 0, none⟩) 1 0 1 [[97]] [] [(6, 4096)] [47, 97] W0 (hs.below hb0) hc1 (Cel.nil _ _) hc2 (by decide) (by decide) (by decide) (by intro p hp; rw [List.mem_singleton.1 hp]; decide) (by intro p hp; cases hp))
  have HB0 := hid hb0
  have HS := hid hs
  clear hs hb0 hr1 hr2 hc1 hc2
  go_enter Tryd.func7, Tryd.ntmps7
  go_wp2_with fail
  rw [← hW0]
  clear hW0
  refine (HLY.out).mono ?_
  intro e' w1 hp
  rcases hp with ⟨h1, _⟩ | ⟨_, g, rfl, hg, hrow, hb⟩
  · exact absurd lw20_e h1
  rw [lw20_n] at *
  have HB1 := hid (bthen HB0.out hb)
  have HBY := hid (show Byt w1 (some ⟨g, 0, none⟩) 96 lw20 from Row.byt (l := lw20) (rest := []) (by rw [List.append_nil]; exact hrow) lw20_len)
  have HRD := hid (read20_any (some ⟨g, 0, none⟩) 96 96 (top20 - 96) lw20 w1 (HS.out.below HB1.out) HBY.out (by decide) (by decide) (by unfold maxLen; decide) (by decide))
  rw [lw20_r] at HRD
  clear hrow hb hg HLY
  go_wp2_with fail
  refine (HRD.out).mono ?_
  rintro e' w2 ⟨v1, v2, v3, rfl, ho1, ho2, ho3, hb2⟩
  have HB2 := hid (bthen HB1.out hb2)
  obtain ⟨a1, c1, rfl, hc1, _⟩ := own_cel ho1
  obtain ⟨a2, c2, rfl, hc2, _⟩ := own_cel ho2
  obtain ⟨a3, c3, rfl, hc3, _⟩ := axs_own ho3
  obtain ⟨b1, o1, rfl, hx1⟩ := hc1.some_of (by decide)
  obtain ⟨b3, o3, rfl, hx3, hx4⟩ := axs_at hc3 (k := 0) (by decide)
  have hy1 := hx1 0 (by decide)
  have hy1' : w2.cell? ⟨b1, o1, none⟩ = some (.string (ba [97])) := hy1
  have hy4' : w2.cell? ⟨b3, o3 + 1, none⟩ = some (.int .u64 4096) := by
    have := hx4
    rw [Nat.zero_mul, Nat.add_zero] at this
    exact this
  have ht : ((top20 - 96 : Nat) : Int) = 140737488351136 := by decide
  have hq : ((ba [97]).toList == [97]) = true := by rw [Lib.toList_data]; rfl
  clear hx1 hx3 hx4 hc1 hc2 hc3 ho1 ho2 ho3 hb2 hy1
  rw [ht] at *
  go_wp2_with fail
  go_ret
  exact ⟨rfl, HB2.out⟩
end Go.Proofs.YtihaakcfegelkaaDoor
