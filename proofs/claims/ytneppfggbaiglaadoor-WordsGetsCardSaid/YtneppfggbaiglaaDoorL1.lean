/- The walks of stage 1's statements. -/
import Derived.Test.YtneppfggbaiglaaDoorK1
import Derived.Test.YtneppfggbaiglaaDoorH1
namespace Go.Proofs.YtneppfggbaiglaaDoor
open Go.RowKit

set_option maxHeartbeats 1000000 in
theorem wordsAdds_walk (a b c : Int) (w : World) (hs : Sizes w) (hb : 0 ≤ b) (hc : c ≤ 18446744073709551615) :
    Calls Tryd.prog 5 #[.int .u64 a, .int .u64 b, .int .u64 c] w fun e w' => e = .returned (.bool true) ∧ Below w.heap.size w w' := by
  go_enter Tryd.func5, Tryd.ntmps5
  go_wp2_with (first
    | (go_at_call 18; refine (add_any _ _ _).mono ?_; rintro e w' ⟨rfl, rfl⟩)
    | (go_at_call 19; refine (radd_any _ _ _).mono ?_; rintro e w' ⟨rfl, rfl⟩)
    | (go_at_call 20; refine (inside_any _ _ _ _ hb hc).mono ?_; rintro e w' ⟨rfl, rfl⟩)
    | (go_at_call 21; refine (rinside_any _ _ _ _ hb hc).mono ?_; rintro e w' ⟨rfl, rfl⟩)
    | (go_at_call 9; refine (works_any _ hs).mono ?_; rintro e w' ⟨rfl, hw⟩))
  go_ret
  exact ⟨rfl, hw⟩

set_option maxHeartbeats 1000000 in
theorem wordsPages_walk (a b : Int) (w : World) (hs : Sizes w) (ha : 0 ≤ a) (hb : 0 ≤ b) (ha' : a ≤ 18446744073709551615) (hb' : b ≤ 18446744073709551615) :
    Calls Tryd.prog 6 #[.int .u64 a, .int .u64 b] w fun e w' => e = .returned (.bool true) ∧ Below w.heap.size w w' := by
  go_enter Tryd.func6, Tryd.ntmps6
  go_wp2_with (first
    | (go_at_call 22; refine (up_any _ _ ha ha').mono ?_; rintro e w' ⟨rfl, rfl⟩)
    | (go_at_call 23; refine (rup_any _ _ ha ha').mono ?_; rintro e w' ⟨rfl, rfl⟩)
    | (go_at_call 24; refine (pages_any _ _ _ ha hb ha' hb').mono ?_; rintro e w' ⟨rfl, rfl⟩)
    | (go_at_call 25; refine (rpages_any _ _ _ ha hb ha' hb').mono ?_; rintro e w' ⟨rfl, rfl⟩)
    | (go_at_call 26; refine (down_any _ _ ha ha').mono ?_; rintro e w' ⟨rfl, rfl⟩)
    | (go_at_call 27; refine (rdown_any _ _ ha ha').mono ?_; rintro e w' ⟨rfl, rfl⟩)
    | (go_at_call 9; refine (works_any _ hs).mono ?_; rintro e w' ⟨rfl, hw⟩))
  go_ret
  exact ⟨rfl, hw⟩

set_option maxHeartbeats 1000000 in
theorem wordsGets_walk (a : Option Addr) (len cap : Nat) (p n : Int) (l : List UInt8) (w : World) (hs : Sizes w) (hB : Byt w a len l) (hl : len ≤ 140737488351232) (hp : 0 ≤ p) :
    Calls Tryd.prog 3 #[.slice a len cap, .int .u64 p, .int .i64 n] w fun e w' => e = .returned (.bool true) ∧ Below w.heap.size w w' := by
  by_cases h : len ≤ 131072
  · go_enter Tryd.func3, Tryd.ntmps3
    go_wp2_with fail
    refine (roomy_any a len cap l w hB hl).mono ?_
    rintro e w1 ⟨rfl, hr, hb⟩
    have hlen := hB.hlen
    have hB1 : Byt w1 (some ⟨w.heap.size, 0, none⟩) len l := by unfold room at hr; exact hr.byt hlen
    have hB2 := hB.below' hb
    have hs1 := hs.below hb
    have HL := hid hlen
    clear hlen
    go_wp2_with fail
    refine (get_any _ _ _ _ _ l _ hs1 (by omega) hB1 hp).mono ?_
    rintro e w2 ⟨rfl, rfl⟩
    go_wp2_with fail
    refine (rget_any _ _ _ _ _ l _ (by omega) hB2 hp).mono ?_
    rintro e w2 ⟨rfl, rfl⟩
    go_wp2_with fail
    refine (kept_any _ _ _ _ _ _ l l _ HL.out rfl hr hB2 hl hl).mono ?_
    rintro e w2 ⟨rfl, nq, rfl⟩
    rw [eqB_self]
    go_wp2_with fail
    refine (works_any _ (hs1.below (bdN (Below.refl _ _) nq))).mono ?_
    rintro e w2 ⟨rfl, hw⟩
    go_wp2
    go_ret
    exact ⟨rfl, bthenN hb hw⟩
  · go_enter Tryd.func3, Tryd.ntmps3
    go_wp2_with (go_at_call 9; refine (works_any _ hs).mono ?_; rintro e w' ⟨rfl, hw⟩)
    go_ret
    exact ⟨rfl, hw⟩
end Go.Proofs.YtneppfggbaiglaaDoor
