/- Contract of creds.Same, all numbers the same. -/
import Derived.Test.YtjiaoppdpomjhaaV8
import Derived.Laws.StructEq
import Derived.Deep.RegionWith
namespace Go.Proofs.Ytjiaoppdpomjhaa
open Go.RowKit

set_option maxHeartbeats 2000000 in
theorem same_eq (u e s g : Int) (a : Option Addr) (len cap : Nat) (l : List Int) (a' : Option Addr) (len' cap' : Nat) (l' : List Int) (w : World) (hB : Nums w .u32 a len l) (hC : Nums w .u32 a' len' l') (hl : len ≤ 1048576) (hl' : len' ≤ 1048576) :
    Calls Try.prog 21 #[credV u e s g a len cap, credV u e s g a' len' cap'] w fun e' w' => e' = .returned (.bool (sameB u e s g u e s g l l')) ∧ Below w.heap.size w w' := by
  have hB2 : ∀ o1 o2, Nums ((w.alloc o1).alloc o2) .u32 a len l := fun o1 o2 => hB.below' (b2a o1 o2)
  have hC2 : ∀ o1 o2, Nums ((w.alloc o1).alloc o2) .u32 a' len' l' := fun o1 o2 => hC.below' (b2a o1 o2)
  have HB := hid hB2
  have HC := hid hC2
  have HW := hid (@b2a w)
  have HE := hid who_eql
  clear hB2 hB hC2 hC
  go_enter Try.func21, Try.ntmps21
  go_wp2_with fail
  obtain ⟨W2, hW2⟩ : ∃ W2, W2 = (w.alloc (.cells #[.int .u32 u, .int .u32 e, .int .u32 s, .int .u32 g, .slice a len cap] 25)).alloc (.cells #[.int .u32 u, .int .u32 e, .int .u32 s, .int .u32 g, .slice a' len' cap'] 25) := ⟨_, rfl⟩
  rw [← hW2]
  have hBW : Nums W2 .u32 a len l := by rw [hW2]; exact HB.out _ _
  have hCW : Nums W2 .u32 a' len' l' := by rw [hW2]; exact HC.out _ _
  have hbW : Below w.heap.size w W2 := by rw [hW2]; exact HW.out _ _
  obtain ⟨x0, x1, x2, x3, x4, y0, y1, y2, y3, y4⟩ : W2.cell? ⟨w.heap.size, 0, none⟩ = some (.int .u32 u) ∧ W2.cell? ⟨w.heap.size, 1, none⟩ = some (.int .u32 e) ∧ W2.cell? ⟨w.heap.size, 2, none⟩ = some (.int .u32 s) ∧ W2.cell? ⟨w.heap.size, 3, none⟩ = some (.int .u32 g) ∧ W2.cell? ⟨w.heap.size, 4, none⟩ = some (.slice a len cap) ∧
      W2.cell? ⟨w.heap.size + 1, 0, none⟩ = some (.int .u32 u) ∧ W2.cell? ⟨w.heap.size + 1, 1, none⟩ = some (.int .u32 e) ∧ W2.cell? ⟨w.heap.size + 1, 2, none⟩ = some (.int .u32 s) ∧ W2.cell? ⟨w.heap.size + 1, 3, none⟩ = some (.int .u32 g) ∧ W2.cell? ⟨w.heap.size + 1, 4, none⟩ = some (.slice a' len' cap') := by
    rw [hW2]; refine ⟨?_, ?_, ?_, ?_, ?_, ?_, ?_, ?_, ?_, ?_⟩ <;> simp
  have HNB := hid (fun w' (hb : Below W2.heap.size W2 w') => hBW.below' hb)
  have HNC := hid (fun w' (hb : Below W2.heap.size W2 w') => hCW.below' hb)
  have HBW := hid hbW
  clear hW2 HB HC HW hBW hCW hbW
  have HS := hid (show sameB u e s g u e s g l l' = ((u == u && (e == e && (s == s && g == g))) && eqN l l') from rfl)
  clear HE
  go_region_held3 (fun w' => w'.cell? ⟨w.heap.size, 0, none⟩ = some (.int .u32 u) ∧ w'.cell? ⟨w.heap.size, 1, none⟩ = some (.int .u32 e) ∧ w'.cell? ⟨w.heap.size, 2, none⟩ = some (.int .u32 s) ∧ w'.cell? ⟨w.heap.size, 3, none⟩ = some (.int .u32 g) ∧ w'.cell? ⟨w.heap.size, 4, none⟩ = some (.slice a len cap) ∧
      w'.cell? ⟨w.heap.size + 1, 0, none⟩ = some (.int .u32 u) ∧ w'.cell? ⟨w.heap.size + 1, 1, none⟩ = some (.int .u32 e) ∧ w'.cell? ⟨w.heap.size + 1, 2, none⟩ = some (.int .u32 s) ∧ w'.cell? ⟨w.heap.size + 1, 3, none⟩ = some (.int .u32 g) ∧ w'.cell? ⟨w.heap.size + 1, 4, none⟩ = some (.slice a' len' cap'))
    (first | go_keep | (refine ⟨keepC hbx ?_, keepC hbx ?_, keepC hbx ?_, keepC hbx ?_, keepC hbx ?_, keepC hbx ?_, keepC hbx ?_, keepC hbx ?_, keepC hbx ?_, keepC hbx ?_⟩ <;> go_keep))
    (first | (go_at_call 26; refine (whoIs_any _ _ _ _ _ _ _ _).mono ?_; rintro e' wx ⟨rfl, hbx⟩) | (go_at_call 27; refine (equal_any _ _ _ _ _ _ l l' _ (HNB.out _ (bthen (bdl (by assumption)) hbx)) (HNC.out _ (bthen (bdl (by assumption)) hbx)) (by omega) (by omega)).mono ?_; rintro e' wx ⟨rfl, nx, rfl⟩))
  all_goals (
    go_wp2_with fail
    go_ret
    exact ⟨ret_bool (by rw [HS.out]; simp), bdN (bthen HBW.out (bthen (bdl (by assumption)) hbx)) _⟩)
end Go.Proofs.Ytjiaoppdpomjhaa
