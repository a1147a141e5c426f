/- Contracts of package hostelref00: marked, Apart. -/
import Derived.Test.YtneppfggbaiglaaDoorS2
namespace Go.Proofs.YtneppfggbaiglaaDoor
open Go.RowKit

set_option maxHeartbeats 1000000 in
theorem marked_any (g n cap : Nat) (c : UInt8) (l : List UInt8) (w : World) (hn : n = l.length + 40) (hl : l.length ≤ 140737488351232)
    (hc : ∀ i (h : i < n), w.cell? ⟨g, i, none⟩ = some (.int .u8 (((l ++ List.replicate 40 c)[i]'(by simp; omega)).toNat : Int))) :
    Calls Tryd.prog 32 #[.slice (some ⟨g, 0, none⟩) n cap, .int .u8 (c.toNat : Int)] w fun e w' => e = .returned (.int .i64 40) ∧ w = w' := by
  subst hn
  have hcc : ∀ k, k < 40 → w.cell? ⟨g, l.length + 39 - k, none⟩ = some (.int .u8 (c.toNat : Int)) := by
    intro k hk
    have h1 := hc (l.length + 39 - k) (by omega)
    rw [List.getElem_append_right (by omega), List.getElem_replicate] at h1
    exact h1
  have H := hid hcc
  clear hcc hc
  go_enter Tryd.func32, Tryd.ntmps32
  go_wp2
  go_loop [5, 6] (fun x i => ∃ k : Nat, k ≤ 40 ∧ x = .int .i64 k ∧ i = .int .i64 ((l.length : Int) + 39 - k)) (fun x _ => 40 - (intOf x).toNat)
  case atStart => exact ⟨0, by omega, rfl, by congr 1; omega⟩
  case round =>
    obtain ⟨k, hk, rfl, rfl⟩ := hrel
    by_cases h40 : k < 40
    · have hx := H.out k h40
      obtain ⟨j, e1, hj, hkj⟩ : ∃ j : Nat, ((l.length : Int) + 39 - k) = (j : Int) ∧ j < l.length + 40 ∧ l.length + 39 - k = j := ⟨l.length + 39 - k, by omega, by omega, rfl⟩
      have HJ := hid e1
      rw [hkj] at hx
      rw [e1]
      clear e1 hkj
      go_wp2
      refine ⟨⟨k + 1, by omega, by go_num, by have := HJ.out; congr 1; omega⟩, by simp [intOf]; omega⟩
    · have e : k = 40 := by omega
      subst e
      have hge : (0 : Int) ≤ (l.length : Int) + 39 - 40 ∨ (l.length : Int) + 39 - 40 < 0 := by omega
      rcases hge with hge | hge
      all_goals
        go_wp2
        go_ret
        exact ⟨rfl, rfl⟩

theorem marked_at (g n cap : Nat) (cm : Int) (c : UInt8) (l : List UInt8) (w : World) (hcm : cm = (c.toNat : Int)) (hn : n = l.length + 40) (hl : l.length ≤ 140737488351232)
    (hc : ∀ i (h : i < n), w.cell? ⟨g, i, none⟩ = some (.int .u8 (((l ++ List.replicate 40 c)[i]'(by simp; omega)).toNat : Int))) :
    Calls Tryd.prog 32 #[.slice (some ⟨g, 0, none⟩) n cap, .int .u8 cm] w fun e w' => e = .returned (.int .i64 40) ∧ w' = w := by
  subst hcm
  exact (marked_any g n cap c l w hn hl hc).mono fun _ _ h => ⟨h.1, h.2.symm⟩
end Go.Proofs.YtneppfggbaiglaaDoor
