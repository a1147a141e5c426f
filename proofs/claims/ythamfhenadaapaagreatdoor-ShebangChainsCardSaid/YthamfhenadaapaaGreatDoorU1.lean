
/- Runes beyond ASCII: what is decoded, and how it is written. No program is named. -/
import Derived.Test.YthamfhenadaapaaGreatDoorKA
namespace Go.Proofs.YthamfhenadaapaaGreatDoor
open Go.RowKit

theorem cont_hi (c : UInt8) (h : c.toNat / 64 = 2) : 128 ≤ c.toNat := by omega
/-- Where a byte beyond ASCII begins, all bytes of what is decoded are beyond ASCII. -/
theorem decode_hi (s : ByteArray) (k : Nat) (h : k < s.size) (ha : 128 ≤ (s[k]'h).toNat) : k + (Utf8.decode s k).2 ≤ s.size ∧ ∀ j (hj : j < s.size), k ≤ j → j < k + (Utf8.decode s k).2 → 128 ≤ s[j].toNat := by
  have key : ∀ n, ((Utf8.decode s k).2 = n) → (∀ i, 1 ≤ i → i < n → k + i < s.size ∧ (s.get! (k + i)).toNat / 64 = 2) → k + (Utf8.decode s k).2 ≤ s.size ∧ ∀ j (hj : j < s.size), k ≤ j → j < k + (Utf8.decode s k).2 → 128 ≤ s[j].toNat := by
    intro n hn hi
    rw [hn]
    constructor
    · by_cases h1 : n ≤ 1
      · omega
      · have := (hi (n - 1) (by omega) (by omega)).1; omega
    · intro j hj h1 h2
      by_cases e : j = k
      · subst e; exact ha
      · have := (hi (j - k) (by omega) (by omega)).2
        rw [show k + (j - k) = j by omega, get_at' s j hj] at this
        exact cont_hi _ this
  have hn : ¬ (s[k]'h).toNat < 128 := by omega
  have gk : s.get! (k + 0) = s[k]'h := get_at s k h
  have two : ∀ i n, 1 ≤ i → i < n → n ≤ 2 → i = 1 := by intros; omega
  have three : ∀ i n, 1 ≤ i → i < n → n ≤ 3 → i = 1 ∨ i = 2 := by intros; omega
  have four : ∀ i n, 1 ≤ i → i < n → n ≤ 4 → i = 1 ∨ i = 2 ∨ i = 3 := by intros; omega
  have one : ∀ i, 1 ≤ i → i < 1 → False := by intros; omega
  refine key _ rfl ?_
  unfold Utf8.decode
  simp only [gk, hn, if_false]
  split
  · rename_i hc
    simp only [Bool.and_eq_true, beq_iff_eq, decide_eq_true_eq] at hc
    split
    · intro i h1 h2
      obtain rfl := two i 2 h1 h2 (by omega)
      exact hc.2
    · intro i h1 h2; exact (one i h1 h2).elim
  · split
    · rename_i hc
      simp only [Bool.and_eq_true, beq_iff_eq, decide_eq_true_eq] at hc
      split
      · intro i h1 h2
        rcases three i 3 h1 h2 (by omega) with rfl | rfl
        · exact hc.1.2
        · exact hc.2
      · intro i h1 h2; exact (one i h1 h2).elim
    · split
      · rename_i hc
        simp only [Bool.and_eq_true, beq_iff_eq, decide_eq_true_eq] at hc
        split
        · intro i h1 h2
          rcases four i 4 h1 h2 (by omega) with rfl | rfl | rfl
          · exact hc.1.1.2
          · exact hc.1.2
          · exact hc.2
        · intro i h1 h2; exact (one i h1 h2).elim
      · intro i h1 h2; exact (one i h1 h2).elim

theorem enc_byte (n a : Nat) (h1 : 128 ≤ a) (h2 : n < 256 - a) : 128 ≤ (UInt8.ofNat (a + n)).toNat := by simp; omega
/-- A rune beyond ASCII is written by two to four bytes beyond ASCII. -/
theorem encode_hi (r : Int) (h : 128 ≤ r) : ∃ l : List UInt8, Utf8.encode r = ba l ∧ (l.length = 2 ∨ l.length = 3 ∨ l.length = 4) ∧ ∀ c ∈ l, 128 ≤ c.toNat := by
  unfold Utf8.encode
  simp only
  obtain ⟨c, hc⟩ : ∃ c, c = (if Utf8.valid r = true then r.toNat else Utf8.runeError) := ⟨_, rfl⟩
  rw [← hc]
  have h1 : 128 ≤ c := by
    rw [hc]
    split
    · omega
    · unfold Utf8.runeError; omega
  have h2 : c ≤ 1114111 := by
    rw [hc]
    split
    · rename_i hv
      unfold Utf8.valid at hv
      simp only [Bool.or_eq_true, Bool.and_eq_true, decide_eq_true_eq] at hv
      omega
    · unfold Utf8.runeError; omega
  clear hc
  rw [if_neg (by omega)]
  split
  · refine ⟨[_, _], rfl, .inl rfl, ?_⟩
    intro x hx
    simp only [List.mem_cons, List.not_mem_nil, or_false] at hx
    rcases hx with rfl | rfl
    · exact enc_byte _ 192 (by omega) (by omega)
    · exact enc_byte _ 128 (by omega) (by omega)
  · split
    · refine ⟨[_, _, _], rfl, .inr (.inl rfl), ?_⟩
      intro x hx
      simp only [List.mem_cons, List.not_mem_nil, or_false] at hx
      rcases hx with rfl | rfl | rfl
      · exact enc_byte _ 224 (by omega) (by omega)
      · exact enc_byte _ 128 (by omega) (by omega)
      · exact enc_byte _ 128 (by omega) (by omega)
    · refine ⟨[_, _, _, _], rfl, .inr (.inr rfl), ?_⟩
      intro x hx
      simp only [List.mem_cons, List.not_mem_nil, or_false] at hx
      rcases hx with rfl | rfl | rfl | rfl
      · exact enc_byte _ 240 (by omega) (by omega)
      · exact enc_byte _ 128 (by omega) (by omega)
      · exact enc_byte _ 128 (by omega) (by omega)
      · exact enc_byte _ 128 (by omega) (by omega)
end Go.Proofs.YthamfhenadaapaaGreatDoor
