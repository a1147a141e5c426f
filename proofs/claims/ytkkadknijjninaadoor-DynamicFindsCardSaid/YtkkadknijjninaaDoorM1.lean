
/- Plain facts on the numbers that bytes say. -/
import Derived.WalkKit
import Derived.Laws.Bits64b
namespace Go.Proofs.YtkkadknijjninaaDoor
open Go.RowKit

/-- The number that bytes say, the lowest first. -/
def le : List UInt8 → Nat
  | [] => 0
  | b :: r => b.toNat + 256 * le r

theorem le_snoc (l : List UInt8) (c : UInt8) : le (l ++ [c]) = le l + 256 ^ l.length * c.toNat := by
  induction l with
  | nil => simp [le]
  | cons b r ih => simp only [List.cons_append, le, ih, List.length_cons, Nat.pow_succ]; rw [Nat.mul_add, ← Nat.add_assoc, ← Nat.mul_assoc, Nat.mul_comm 256 (256 ^ r.length)]

theorem le_lt (l : List UInt8) : le l < 256 ^ l.length := by
  induction l with
  | nil => simp [le]
  | cons b r ih =>
    simp only [le, List.length_cons, Nat.pow_succ]
    have := b.toNat_lt
    omega

theorem take_snoc' (l : List UInt8) (q k : Nat) (h : q + k < l.length) : (l.drop q).take (k + 1) = (l.drop q).take k ++ [l[q + k]] := by
  rw [List.take_succ_eq_append_getElem (by simp; omega)]
  simp

theorem le_take (l : List UInt8) (q k : Nat) (h : q + k < l.length) : le ((l.drop q).take (k + 1)) = le ((l.drop q).take k) + 256 ^ k * l[q + k].toNat := by
  rw [take_snoc' l q k h, le_snoc]
  rw [List.length_take, List.length_drop, Nat.min_eq_left (by omega)]

theorem le_take_lt (l : List UInt8) (q k : Nat) (h : q + k ≤ l.length) : le ((l.drop q).take k) < 256 ^ k := by
  have := le_lt ((l.drop q).take k)
  rwa [List.length_take, List.length_drop, Nat.min_eq_left (by omega)] at this

theorem or_byte (x c k : Nat) (hk : k < 8) (hx : x < 256 ^ k) (hc : c < 256) : bits BinOp.or .u64 (x : Int) (IntKind.u64.wrap (IntKind.u64.wrap (c : Int) * 2 ^ (8 * k))) = ((x + 256 ^ k * c : Nat) : Int) := by
  have e1 : (256 : Nat) ^ k = 2 ^ (8 * k) := by rw [Nat.pow_mul]
  have e2 : IntKind.u64.wrap (c : Int) = c := IntWalk.u64_in _ (by omega)
  rw [e2]
  have e3 : ((c : Int) * 2 ^ (8 * k)) = ((2 ^ (8 * k) * c : Nat) : Int) := by rw [Int.natCast_mul, Int.mul_comm]; simp
  rw [e3]
  have hp : (2 : Nat) ^ (8 * k) ≤ 2 ^ 56 := Nat.pow_le_pow_right (by omega) (by omega)
  have hp' : (2 : Nat) ^ (8 * k) * c ≤ 2 ^ 56 * 255 := Nat.mul_le_mul hp (by omega)
  rw [IntWalk.u64_in _ (by omega)]
  rw [e1] at hx ⊢
  rw [bits_or_u64_nat _ _ (by omega) (by omega)]
  rw [Nat.or_comm, ← Nat.two_pow_add_eq_or_of_lt hx, Nat.add_comm]

theorem le_drop (l : List UInt8) (q k m : Nat) (h : q + k < l.length) (hk : k < m) : le ((l.drop (q + k)).take (m - k)) = l[q + k].toNat + 256 * le ((l.drop (q + (k + 1))).take (m - (k + 1))) := by
  rw [List.drop_eq_getElem_cons h]
  obtain ⟨j, hj⟩ : ∃ j, m - k = j + 1 := ⟨m - k - 1, by omega⟩
  rw [hj, List.take_succ_cons]
  have : m - (k + 1) = j := by omega
  rw [this]
  rfl

theorem le_small (l : List UInt8) (j : Nat) (hj : j ≤ 7) : le (l.take j) < 72057594037927936 := by
  have h := le_lt (l.take j)
  have h2 : (256 : Nat) ^ (l.take j).length ≤ 256 ^ 7 := Nat.pow_le_pow_right (by omega) (by simp; omega)
  omega

theorem push_byte (x c : Nat) (hx : x < 72057594037927936) (hc : c < 256) : IntKind.u64.wrap (256 * (x : Int) + IntKind.u64.wrap (c : Int)) = ((c + 256 * x : Nat) : Int) := by
  rw [IntWalk.u64_in (c : Int) (by omega), IntWalk.u64_in _ (by omega)]
  omega

/-- The i-th byte of a number, the lowest first. -/
def byteAt (x i : Nat) : UInt8 := UInt8.ofNat (x / 256 ^ i)
/-- The first k bytes of a number. -/
def leB (x k : Nat) : List UInt8 := (List.range k).map (byteAt x)
/-- A list with the first k bytes of a number laid at q. -/
def putB (l : List UInt8) (q x k : Nat) : List UInt8 := l.take q ++ (leB x k ++ l.drop (q + k))

theorem leB_len (x k : Nat) : (leB x k).length = k := by simp [leB]
theorem leB_succ (x k : Nat) : leB x (k + 1) = leB x k ++ [byteAt x k] := by simp [leB, List.range_succ]
theorem putB_zero (l : List UInt8) (q x : Nat) : putB l q x 0 = l := by simp [putB, leB]
theorem putB_len (l : List UInt8) (q x k : Nat) (h : q + k ≤ l.length) : (putB l q x k).length = l.length := by simp [putB, leB_len]; omega
theorem putB_set (l : List UInt8) (q x k : Nat) (h : q + k < l.length) : (putB l q x k).set (q + k) (byteAt x k) = putB l q x (k + 1) := by
  unfold putB
  rw [List.set_append_right _ _ (by simp; omega), List.set_append_right _ _ (by simp [leB_len]; omega)]
  have e : q + k - (List.take q l).length - (leB x k).length = 0 := by simp [leB_len]; omega
  rw [e, List.drop_eq_getElem_cons h, List.set_cons_zero, leB_succ, List.append_assoc]
  rfl
theorem byteAt_toNat (x i : Nat) : (byteAt x i).toNat = x / 256 ^ i % 256 := by simp [byteAt]
theorem div_step (x k : Nat) : x / 256 ^ k / 256 = x / 256 ^ (k + 1) := by rw [Nat.div_div_eq_div_mul, Nat.pow_succ]
theorem le_leB (x k : Nat) : le (leB x k) = x % 256 ^ k := by
  induction k with
  | zero => simp [leB, le, Nat.mod_one]
  | succ k ih =>
    rw [leB_succ, le_snoc, ih, leB_len, byteAt_toNat, Nat.pow_succ, Nat.mod_mul]

theorem shr_byte (y k : Nat) : ((y : Int) / 2 ^ (8 * k) % 256) = ((byteAt y k).toNat : Int) := by
  rw [byteAt_toNat]
  have e : (256 : Nat) ^ k = 2 ^ (8 * k) := by rw [Nat.pow_mul]
  rw [e]
  simp
theorem mod_byte (y k : Nat) : (((y / 256 ^ k : Nat) : Int) % 256) = ((byteAt y k).toNat : Int) := by
  rw [byteAt_toNat]
  simp

theorem putB_out (l : List UInt8) (q x k i : Nat) (h : q + k ≤ l.length) (hi : i < l.length) (ho : i < q ∨ q + k ≤ i) : (putB l q x k)[i]'(by rw [putB_len _ _ _ _ h]; exact hi) = l[i] := by
  unfold putB
  rcases ho with ho | ho
  · rw [List.getElem_append_left (by simp; omega)]
    simp
  · rw [List.getElem_append_right (by simp; omega), List.getElem_append_right (by simp [leB_len]; omega)]
    simp [leB_len]
    congr 1
    omega
theorem putB_mid (l : List UInt8) (q x k : Nat) (h : q + k ≤ l.length) : ((putB l q x k).drop q).take k = leB x k := by
  unfold putB
  rw [List.drop_append_of_le_length (by simp; omega)]
  rw [List.drop_eq_nil_of_le (by simp; omega), List.nil_append, List.take_append_of_le_length (by rw [leB_len]; exact Nat.le_refl _)]
  rw [List.take_of_length_le (by rw [leB_len]; exact Nat.le_refl _)]
theorem leB_le (l : List UInt8) : leB (le l) l.length = l := by
  induction l with
  | nil => rfl
  | cons b r ih =>
    have hstep : ∀ x k, leB x (k + 1) = byteAt x 0 :: leB (x / 256) k := by
      intro x k
      unfold leB
      rw [List.range_succ_eq_map, List.map_cons, List.map_map]
      congr 1
      apply List.map_congr_left
      intro i _
      simp only [Function.comp, byteAt]
      rw [Nat.div_div_eq_div_mul, Nat.succ_eq_add_one, Nat.pow_succ, Nat.mul_comm]
    rw [List.length_cons, hstep]
    have hb := b.toNat_lt
    have e1 : le (b :: r) / 256 = le r := by simp only [le]; omega
    have e2 : byteAt (le (b :: r)) 0 = b := by
      apply UInt8.toNat_inj.1
      rw [byteAt_toNat]
      simp only [le, Nat.pow_zero, Nat.div_one]
      omega
    rw [e1, e2, ih]
theorem putB_back (l : List UInt8) (q x k : Nat) (h : q + k ≤ l.length) : putB (putB l q x k) q (le ((l.drop q).take k)) k = l := by
  have hlen : ((l.drop q).take k).length = k := by simp; omega
  have e := leB_le ((l.drop q).take k)
  rw [hlen] at e
  unfold putB
  rw [e]
  have e1 : List.take q (List.take q l ++ (leB x k ++ List.drop (q + k) l)) = l.take q := by
    rw [List.take_append_of_le_length (by simp; omega), List.take_take, Nat.min_self]
  have e2 : List.drop (q + k) (List.take q l ++ (leB x k ++ List.drop (q + k) l)) = l.drop (q + k) := by
    rw [List.drop_append, List.drop_eq_nil_of_le (by simp; omega), List.nil_append, List.drop_append, List.drop_eq_nil_of_le (by simp [leB_len]; omega), List.nil_append]
    have : q + k - (List.take q l).length - (leB x k).length = 0 := by simp [leB_len]; omega
    rw [this, List.drop_zero]
  rw [e1, e2]
  have e3 : l.drop (q + k) = (l.drop q).drop k := by rw [List.drop_drop]
  rw [e3, List.take_append_drop, List.take_append_drop]

theorem wrap_pow (m : Nat) (h : m < 8) : IntKind.u64.wrap (2 ^ (8 * m)) = 256 ^ m := by
  have e : ((2 : Int) ^ (8 * m)) = ((2 ^ (8 * m) : Nat) : Int) := by simp
  have e2 : ((256 : Int) ^ m) = ((2 ^ (8 * m) : Nat) : Int) := by rw [Nat.pow_mul]; simp
  have hp : (2 : Nat) ^ (8 * m) ≤ 2 ^ 56 := Nat.pow_le_pow_right (by omega) (by omega)
  rw [e, e2]
  generalize 2 ^ (8 * m) = z at hp ⊢
  rw [IntWalk.u64_in _ (by omega)]
theorem pow_ne (m : Nat) : ¬ (256 : Int) ^ m = 0 := by
  have e2 : ((256 : Int) ^ m) = ((256 ^ m : Nat) : Int) := by simp
  have hp : 0 < 256 ^ m := Nat.pow_pos (by omega)
  rw [e2]
  generalize 256 ^ m = z at hp ⊢
  omega
end Go.Proofs.YtkkadknijjninaaDoor
