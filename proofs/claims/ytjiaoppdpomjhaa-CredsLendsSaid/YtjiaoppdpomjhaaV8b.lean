/- Contract of creds.Same, some number another. -/
import Derived.Test.YtjiaoppdpomjhaaV8
import Derived.Laws.StructEq
import Derived.Deep.RegionWith
namespace Go.Proofs.Ytjiaoppdpomjhaa
open Go.RowKit

set_option maxHeartbeats 2000000 in
theorem same_ne (u e s g u' e2 s' g' : Int) (a : Option Addr) (len cap : Nat) (l : List Int) (a' : Option Addr) (len' cap' : Nat) (l' : List Int) (w : World) (hB : Nums w .u32 a len l) (hC : Nums w .u32 a' len' l') (hne : (u == u' && (e == e2 && (s == s' && g == g'))) = false) :
    Calls Try.prog 21 #[credV u e s g a len cap, credV u' e2 s' g' a' len' cap'] w fun e' w' => e' = .returned (.bool (sameB u e s g u' e2 s' g' l l')) ∧ Below w.heap.size w w' := by
  have hB2 : ∀ o1 o2, Nums ((w.alloc o1).alloc o2) .u32 a len l := fun o1 o2 => hB.below' (b2a o1 o2)
  have hC2 : ∀ o1 o2, Nums ((w.alloc o1).alloc o2) .u32 a' len' l' := fun o1 o2 => hC.below' (b2a o1 o2)
  have HB := hid hB2
  have HC := hid hC2
  have HW := hid (@b2a w)
  have HE := hid who_eql
  clear hB2 hB hC2 hC
  go_enter Try.func21, Try.ntmps21
  go_wp2_with fail
  obtain ⟨W2, hW2⟩ : ∃ W2, W2 = (w.alloc (.cells #[.int .u32 u, .int .u32 e, .int .u32 s, .int .u32 g, .slice a len cap] 25)).alloc (.cells #[.int .u32 u', .int .u32 e2, .int .u32 s', .int .u32 g', .slice a' len' cap'] 25) := ⟨_, rfl⟩
  rw [← hW2]
  have hBW : Nums W2 .u32 a len l := by rw [hW2]; exact HB.out _ _
  have hCW : Nums W2 .u32 a' len' l' := by rw [hW2]; exact HC.out _ _
  have hbW : Below w.heap.size w W2 := by rw [hW2]; exact HW.out _ _
  obtain ⟨x0, x1, x2, x3, x4, y0, y1, y2, y3, y4⟩ : W2.cell? ⟨w.heap.size, 0, none⟩ = some (.int .u32 u) ∧ W2.cell? ⟨w.heap.size, 1, none⟩ = some (.int .u32 e) ∧ W2.cell? ⟨w.heap.size, 2, none⟩ = some (.int .u32 s) ∧ W2.cell? ⟨w.heap.size, 3, none⟩ = some (.int .u32 g) ∧ W2.cell? ⟨w.heap.size, 4, none⟩ = some (.slice a len cap) ∧
      W2.cell? ⟨w.heap.size + 1, 0, none⟩ = some (.int .u32 u') ∧ W2.cell? ⟨w.heap.size + 1, 1, none⟩ = some (.int .u32 e2) ∧ W2.cell? ⟨w.heap.size + 1, 2, none⟩ = some (.int .u32 s') ∧ W2.cell? ⟨w.heap.size + 1, 3, none⟩ = some (.int .u32 g') ∧ W2.cell? ⟨w.heap.size + 1, 4, none⟩ = some (.slice a' len' cap') := by
    rw [hW2]; refine ⟨?_, ?_, ?_, ?_, ?_, ?_, ?_, ?_, ?_, ?_⟩ <;> simp
  have HNB := hid (fun w' (hb : Below W2.heap.size W2 w') => hBW.below' hb)
  have HNC := hid (fun w' (hb : Below W2.heap.size W2 w') => hCW.below' hb)
  have HBW := hid hbW
  clear hW2 HB HC HW hBW hCW hbW
  have HS := hid (show sameB u e s g u' e2 s' g' l l' = ((u == u' && (e == e2 && (s == s' && g == g'))) && eqN l l') from rfl)
  clear HE
  by_cases h1 : u = u'
  · subst h1
    by_cases h2 : e = e2
    · subst h2
      by_cases h3 : s = s'
      · subst h3
        by_cases h4 : g = g'
        · subst h4
          exact absurd hne (by simp)
        · have hb4 : (g == g') = false := by simpa using h4
          clear h4
          first | (go_region_with (go_at_call 26; refine (whoIs_any _ _ _ _ _ _ _ _).mono ?_; rintro e' wx ⟨rfl, hbx⟩; obtain ⟨x0, x1, x2, x3, x4⟩ := five_keep hbx x0 x1 x2 x3 x4; obtain ⟨y0, y1, y2, y3, y4⟩ := five_keep hbx y0 y1 y2 y3 y4; have HBW := hid (show Below w.heap.size w wx from bthen HBW.out (by first | exact hbx | exact bdl hbx)))) | fail
          all_goals (
            go_wp2_with fail
            go_ret
            exact ⟨ret_bool (show false = _ by rw [HS.out, hb4]; simp), HBW.out⟩)
      · have hb3 : (s == s') = false := by simpa using h3
        clear h3
        first | (go_region_with (go_at_call 26; refine (whoIs_any _ _ _ _ _ _ _ _).mono ?_; rintro e' wx ⟨rfl, hbx⟩; obtain ⟨x0, x1, x2, x3, x4⟩ := five_keep hbx x0 x1 x2 x3 x4; obtain ⟨y0, y1, y2, y3, y4⟩ := five_keep hbx y0 y1 y2 y3 y4; have HBW := hid (show Below w.heap.size w wx from bthen HBW.out (by first | exact hbx | exact bdl hbx)))) | fail
        all_goals (
          go_wp2_with fail
          go_ret
          exact ⟨ret_bool (show false = _ by rw [HS.out, hb3]; simp), HBW.out⟩)
    · have hb2 : (e == e2) = false := by simpa using h2
      clear h2
      first | (go_region_with (go_at_call 26; refine (whoIs_any _ _ _ _ _ _ _ _).mono ?_; rintro e' wx ⟨rfl, hbx⟩; obtain ⟨x0, x1, x2, x3, x4⟩ := five_keep hbx x0 x1 x2 x3 x4; obtain ⟨y0, y1, y2, y3, y4⟩ := five_keep hbx y0 y1 y2 y3 y4; have HBW := hid (show Below w.heap.size w wx from bthen HBW.out (by first | exact hbx | exact bdl hbx)))) | fail
      all_goals (
        go_wp2_with fail
        go_ret
        exact ⟨ret_bool (show false = _ by rw [HS.out, hb2]; simp), HBW.out⟩)
  · have hb1 : (u == u') = false := by simpa using h1
    clear h1
    first | (go_region_with (go_at_call 26; refine (whoIs_any _ _ _ _ _ _ _ _).mono ?_; rintro e' wx ⟨rfl, hbx⟩; obtain ⟨x0, x1, x2, x3, x4⟩ := five_keep hbx x0 x1 x2 x3 x4; obtain ⟨y0, y1, y2, y3, y4⟩ := five_keep hbx y0 y1 y2 y3 y4; have HBW := hid (show Below w.heap.size w wx from bthen HBW.out (by first | exact hbx | exact bdl hbx)))) | fail
    all_goals (
      go_wp2_with fail
      go_ret
      exact ⟨ret_bool (show false = _ by rw [HS.out, hb1]; simp), HBW.out⟩)
end Go.Proofs.Ytjiaoppdpomjhaa
