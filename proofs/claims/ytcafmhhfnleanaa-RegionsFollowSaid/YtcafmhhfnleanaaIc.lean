/- hostellaw10.works. -/
import Derived.Test.YtcafmhhfnleanaaIb
import Derived.Test.YtcafmhhfnleanaaI5
namespace Go.Proofs.Ytcafmhhfnleanaa
open Go.RowKit Go.Sort

def wF : RG := ⟨16384, 32768, 5, 2, 0⟩
def wR : RG := ⟨20480, 24576, 6, -1, 0⟩
def wL : List RG := [⟨16384, 20480, 5, 2, 0⟩, ⟨20480, 24576, 6, -1, 0⟩, ⟨24576, 32768, 5, 2, 8192⟩]
theorem w_put : putE [wF] wR = 0 ∧ putL [wF] wR = wL := ⟨by kernel_rfl, by kernel_rfl⟩
theorem w_find : findR wL 28672 = some ⟨24576, 32768, 5, 2, 8192⟩ := by kernel_rfl
theorem w_gap : gapV wL 4096 16384 = 32768 ∧ gapE wL 4096 16384 = 0 := ⟨by kernel_rfl, by kernel_rfl⟩
theorem w_right : rightB wL = true := by kernel_rfl
theorem w_okF : RGok wF := by constructor <;> decide
theorem w_okR : RGok wR := by constructor <;> decide
theorem w_okL : ∀ x ∈ wL, RGok x := by
  intro x hx
  simp only [wL, List.mem_cons, List.not_mem_nil, or_false] at hx
  rcases hx with rfl | rfl | rfl <;> constructor <;> decide

set_option maxHeartbeats 4000000 in
theorem works_any (w : World) :
    Calls Try.prog 10 #[] w fun e w' => e = .returned (.bool true) ∧ Below w.heap.size w w' := by
  have HF := hid (Row.new w 25 (rgc wF))
  have HW := hid (@b2a w)
  have HS := hid (show Rgs ((w.alloc (.cells (rgc wF).toArray 25)).alloc (.cells (rgc wF).toArray 25)) (some ⟨w.heap.size + 1, 0, none⟩) 1 [wF] from ⟨rfl, fun i hi => ⟨w.heap.size + 1, 0, rfl, by
    simp only [List.length_cons, List.length_nil] at hi
    obtain rfl : i = 0 := by omega
    have := Row.rg (Row.new (w.alloc (.cells (rgc wF).toArray 25)) 25 (rgc wF))
    rw [World.size_alloc] at this
    exact this⟩⟩)
  go_enter Try.func10, Try.ntmps10
  go_wp2_with fail
  refine (put_any _ _ _ [wF] wR _ HS.out (by omega) (fun x hx => by simp only [List.mem_singleton] at hx; subst hx; exact w_okF) w_okR).mono ?_
  rintro e' w1 ⟨v, rfl, ho, hb⟩
  rw [w_put.1]
  rw [w_put.2] at ho
  obtain ⟨a2, c2, rfl, hg, _⟩ := own_rgs ho
  have HG := hid hg
  have HB1 := hid (bthen (HW.out _ _) hb)
  clear ho hg hb
  go_wp2_with fail
  refine (find_any _ _ _ wL 28672 _ HG.out (by decide)).mono ?_
  rintro e' w2 ⟨rfl, hb⟩
  rw [w_find]
  have HG2 := hid (HG.out.below hb)
  have HB2 := hid (bthen HB1.out hb)
  clear hb
  have HN := hid (fun o => HG2.out.below (bal o))
  have HNB := hid (fun o => bal2 HB2.out o)
  have HC := hid (Row.new w2 25 (rgc ⟨24576, 32768, 5, 2, 8192⟩))
  go_wp2_with fail
  refine (gap_any _ _ _ wL 4096 16384 _ (HN.out _) (by decide) w_okL (by omega) (by omega) (by omega) (by omega)).mono ?_
  rintro e' w3 ⟨rfl, hb⟩
  rw [w_gap.1, w_gap.2]
  have HG3 := hid ((HN.out _).below hb)
  have HB3 := hid (bthen (HNB.out _) hb)
  have HC3 := hid (HC.out.bel hb)
  obtain ⟨c0, c1, c2, c3, c4⟩ := HC3.out.c5
  have hlc := HC3.out.lt
  clear hb
  go_wp2_with fail
  refine (right_any _ _ _ wL _ HG3.out (by decide) w_okL).mono ?_
  rintro e' w4 ⟨rfl, hb⟩
  rw [w_right]
  have HB4 := hid (bthen HB3.out hb)
  clear hb
  go_wp2_with fail
  go_ret
  exact ⟨rfl, HB4.out⟩
end Go.Proofs.Ytcafmhhfnleanaa
