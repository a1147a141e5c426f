
/- TableWords, plain: each leaf that is told is looked up at its address. -/
import Derived.Test.YtncikcllhjhjmaaGreatDoorGu2
namespace Go.Proofs.YtncikcllhjhjmaaGreatDoor
open Go.RowKit Go.Sort

theorem digit_mid {M c i r : Nat} (hr : r < M) (hi : i < 512) : (M * 512 * c + i * M + r) / M % 512 = i := by
  have hM : 0 < M := by omega
  have e : M * 512 * c + i * M + r = r + M * (512 * c + i) := by rw [Nat.mul_add, Nat.mul_comm i M, Nat.mul_assoc]; omega
  rw [e, Nat.add_mul_div_left _ _ hM, Nat.div_eq_of_lt hr]
  omega
theorem pow_next (k : Nat) : (2 : Nat) ^ (12 + 9 * (k + 1)) = 2 ^ (12 + 9 * k) * 512 := by rw [show 12 + 9 * (k + 1) = (12 + 9 * k) + 9 by omega, Nat.pow_add]
theorem leaf_look : ∀ (k c f : Nat) (kids : Nat → Tr) (y : LF), Shp (k + 1) (.nd f kids) → y ∈ leavesT (k + 1) (2 ^ (12 + 9 * (k + 1)) * c) (.nd f kids) →
    2 ^ (12 + 9 * (k + 1)) * c ≤ y.1 ∧ y.1 < 2 ^ (12 + 9 * (k + 1)) * c + 2 ^ (12 + 9 * (k + 1)) ∧ lookT (ixOf y.1) k kids = .lf y.2.1 y.2.2.1 y.2.2.2
  | 0, c, f, kids, y, H, h => by
    rw [leavesT_nd] at h
    obtain ⟨i, hi, hy⟩ := List.mem_flatMap.1 h
    have hi := List.mem_range.1 hi
    have hs := H i hi
    cases hk : kids i with
    | no => rw [hk] at hy; cases hy
    | nd g kk => rw [hk] at hs; exact hs.elim
    | lf a q b =>
      rw [hk] at hy
      have e : y = (2 ^ (12 + 9 * (0 + 1)) * c + i * 2 ^ (12 + 9 * 0), a, q, b) := List.mem_singleton.1 hy
      subst e
      have e1 : ixOf (2 ^ (12 + 9 * (0 + 1)) * c + i * 2 ^ (12 + 9 * 0)) 0 = i := by
        unfold ixOf
        rw [pow_next 0]
        have := digit_mid (M := 2 ^ (12 + 9 * 0)) (c := c) (i := i) (r := 0) (by decide) hi
        simpa using this
      refine ⟨Nat.le_add_right _ _, ?_, ?_⟩
      · show 2 ^ (12 + 9 * (0 + 1)) * c + i * 2 ^ (12 + 9 * 0) < _
        rw [show (2 : Nat) ^ (12 + 9 * (0 + 1)) = 2097152 by rfl, show (2 : Nat) ^ (12 + 9 * 0) = 4096 by rfl]
        omega
      · show kids (ixOf _ 0) = _
        rw [e1, hk]
  | k + 1, c, f, kids, y, H, h => by
    rw [leavesT_nd] at h
    obtain ⟨i, hi, hy⟩ := List.mem_flatMap.1 h
    have hi := List.mem_range.1 hi
    have hs := H i hi
    cases hk : kids i with
    | no => rw [hk] at hy; cases hy
    | lf a q b => rw [hk] at hs; exact hs.elim
    | nd g kk =>
      rw [hk] at hy hs
      obtain ⟨M, hM⟩ : ∃ M, M = 2 ^ (12 + 9 * (k + 1)) := ⟨_, rfl⟩
      have hp : (2 : Nat) ^ (12 + 9 * (k + 1 + 1)) = M * 512 := by rw [pow_next (k + 1), hM]
      have hc : 2 ^ (12 + 9 * (k + 1 + 1)) * c + i * 2 ^ (12 + 9 * (k + 1)) = 2 ^ (12 + 9 * (k + 1)) * (512 * c + i) := by
        rw [hp, ← hM, Nat.mul_add, Nat.mul_comm i M, Nat.mul_assoc]
      rw [hc] at hy
      obtain ⟨h1, h2, h3⟩ := leaf_look k (512 * c + i) g kk y hs hy
      rw [← hM] at h1 h2
      have e0 : M * (512 * c + i) = M * 512 * c + i * M := by rw [Nat.mul_add, Nat.mul_comm i M, Nat.mul_assoc]
      rw [e0] at h1 h2
      obtain ⟨r, hr⟩ : ∃ r, y.1 = M * 512 * c + i * M + r := ⟨y.1 - (M * 512 * c + i * M), by omega⟩
      have hrM : r < M := by omega
      have hd := digit_mid (c := c) hrM hi
      rw [← hr] at hd
      have e1 : ixOf y.1 (k + 1) = i := by unfold ixOf; rw [← hM]; exact hd
      rw [hp]
      have hiM : i * M + M ≤ M * 512 := by
        have : (i + 1) * M ≤ 512 * M := Nat.mul_le_mul_right M (by omega)
        rw [Nat.add_mul, Nat.one_mul, Nat.mul_comm 512 M] at this
        exact this
      refine ⟨by omega, by omega, ?_⟩
      rw [lookT_nd (g := g) (kk := kk) (by rw [e1]; exact hk)]
      exact h3
theorem all_look {root : Nat} {kids : Nat → Tr} {y : LF} (H : Shp 4 (.nd root kids)) (h : y ∈ allL root kids) : y.1 < 281474976710656 ∧ lookT (ixOf y.1) 3 kids = .lf y.2.1 y.2.2.1 y.2.2.2 := by
  have := leaf_look 3 0 root kids y H (by rw [Nat.mul_zero]; exact h)
  refine ⟨?_, this.2.2⟩
  have h2 := this.2.1
  rw [show (2 : Nat) ^ (12 + 9 * (3 + 1)) = 281474976710656 by rfl] at h2
  omega
end Go.Proofs.YtncikcllhjhjmaaGreatDoor
