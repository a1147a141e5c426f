
/- Words of free bits: setting and striking a bit, the lowest one, how many there are. No program is named. -/
import Derived.Test.YtllkeeeajlgkpaaDoorJ0
import Derived.Lib.TrailingZeros
namespace Go.Proofs.YtllkeeeajlgkpaaDoor
open Go.RowKit Go.Sort

def upd (fr : Nat → Bool) (f : Nat) (b : Bool) : Nat → Bool := fun g => if g = f then b else fr g
/-- Bit j of word i says fr (i * 64 + j). -/
def WB (fr : Nat → Bool) (ws : List Nat) : Prop := ∀ i (h : i < ws.length), ws[i] < 18446744073709551616 ∧ ∀ j, j < 64 → ws[i].testBit j = fr (i * 64 + j)
theorem wb_set {fr : Nat → Bool} {ws : List Nat} (h : WB fr ws) (f : Nat) (b : Bool) (u : Nat) (hu : u < 18446744073709551616) (hb : ∀ (h1 : f / 64 < ws.length) j, j < 64 → u.testBit j = if j = f % 64 then b else ws[f / 64].testBit j) : WB (upd fr f b) (ws.set (f / 64) u) := by
  intro i hi
  have hi' : i < ws.length := by simpa using hi
  rw [List.getElem_set]
  by_cases c : f / 64 = i
  · subst c
    simp only [if_true]
    refine ⟨hu, fun j hj => ?_⟩
    rw [hb hi' j hj, (h _ hi').2 j hj]
    unfold upd
    by_cases e : j = f % 64
    · rw [if_pos e, if_pos (by omega)]
    · rw [if_neg e, if_neg (by omega)]
  · rw [if_neg c]
    refine ⟨(h i hi').1, fun j hj => ?_⟩
    rw [(h i hi').2 j hj]
    unfold upd
    rw [if_neg (by omega)]
theorem wb_mark {fr : Nat → Bool} {ws : List Nat} (h : WB fr ws) (f : Nat) (h1 : f / 64 < ws.length) : WB (upd fr f true) (ws.set (f / 64) (ws[f / 64] ||| 2 ^ (f % 64))) := by
  have hm : f % 64 < 64 := Nat.mod_lt _ (by omega)
  refine wb_set h f true _ ?_ fun h2 j hj => ?_
  · exact Nat.or_lt_two_pow (n := 64) (h _ h1).1 (Nat.pow_lt_pow_right (by omega) hm)
  · rw [Nat.testBit_or, Nat.testBit_two_pow]
    by_cases e : j = f % 64
    · rw [if_pos e]; simp [e]
    · rw [if_neg e]
      have : ¬ f % 64 = j := fun h => e h.symm
      simp [this]
theorem wb_unmark {fr : Nat → Bool} {ws : List Nat} (h : WB fr ws) (f : Nat) (h1 : f / 64 < ws.length) : WB (upd fr f false) (ws.set (f / 64) (ws[f / 64] &&& (18446744073709551615 - 2 ^ (f % 64)))) := by
  have hm : f % 64 < 64 := Nat.mod_lt _ (by omega)
  have hp : 2 ^ (f % 64) < 2 ^ 64 := Nat.pow_lt_pow_right (by omega) hm
  refine wb_set h f false _ (Nat.lt_of_le_of_lt Nat.and_le_left (h _ h1).1) fun h2 j hj => ?_
  have e0 : 18446744073709551615 - 2 ^ (f % 64) = 2 ^ 64 - (2 ^ (f % 64) + 1) := by omega
  rw [Nat.testBit_and, e0, Nat.testBit_two_pow_sub_succ hp, Nat.testBit_two_pow]
  by_cases e : j = f % 64
  · rw [if_pos e]; simp [e]
  · rw [if_neg e]
    have : ¬ f % 64 = j := fun h => e h.symm
    simp [this, hj]

/-- The lowest bit of a word. -/
theorem ctz_low (x : Nat) (h0 : x ≠ 0) (h : x < 18446744073709551616) : Lib.ctz 64 x < 64 ∧ x.testBit (Lib.ctz 64 x) = true ∧ ∀ j, j < Lib.ctz 64 x → x.testBit j = false := by
  unfold Lib.ctz
  rw [if_neg h0]
  obtain ⟨m, hm, hk⟩ := Lib.ctzFrom_spec 64 x (by omega) h
  generalize Lib.ctzFrom 64 x = t at *
  subst hm
  refine ⟨hk, ?_, fun j hj => ?_⟩
  · rw [Nat.testBit_two_pow_mul]; simp
  · rw [Nat.testBit_two_pow_mul]; simp; omega
theorem zero_bits {fr : Nat → Bool} {ws : List Nat} (h : WB fr ws) (i : Nat) (hi : i < ws.length) (h0 : ws[i] = 0) : ∀ g, i * 64 ≤ g → g < (i + 1) * 64 → fr g = false := by
  intro g h1 h2
  have := (h i hi).2 (g - i * 64) (by omega)
  rw [h0, Nat.zero_testBit, show i * 64 + (g - i * 64) = g by omega] at this
  exact this.symm
theorem low_find {fr : Nat → Bool} (n f : Nat) (hf : f < n) (h : fr f = true) (hl : ∀ g, g < f → fr g = false) : (List.range n).find? fr = some f := by
  rw [List.find?_eq_some_iff_getElem]
  refine ⟨h, f, by simpa using hf, by simp, fun j hj => ?_⟩
  simp [hl j hj]
theorem low_none {fr : Nat → Bool} (n : Nat) (hl : ∀ g, g < n → fr g = false) : (List.range n).find? fr = none := by
  rw [List.find?_eq_none]
  intro x hx
  rw [hl x (List.mem_range.1 hx)]
  simp

/-! How many bits there are. -/
def popc : Nat → Nat → Nat
  | 0, _ => 0
  | n + 1, x => x % 2 + popc n (x / 2)
def cntT (fr : Nat → Bool) (n : Nat) : Nat := (List.range n).countP fr
theorem popc_bits : ∀ (n x : Nat), popc n x = (List.range n).countP x.testBit
  | 0, _ => rfl
  | n + 1, x => by
    rw [popc, popc_bits n, List.range_succ_eq_map, List.countP_cons, List.countP_map, Nat.add_comm]
    have e1 : x.testBit 0 = decide (x % 2 = 1) := Nat.testBit_zero x
    have e2 : (x.testBit ∘ Nat.succ) = (x / 2).testBit := by
      funext j
      simp [Nat.testBit_succ]
    rw [e1, e2]
    rcases Nat.mod_two_eq_zero_or_one x with h | h <;> simp [h]
theorem popc_app (m n x : Nat) : popc (m + n) x = popc m x + popc n (x / 2 ^ m) := by
  induction m generalizing x with
  | zero => simp [popc]
  | succ m ih =>
    rw [Nat.add_right_comm, popc, ih, popc, Nat.div_div_eq_div_mul, Nat.pow_succ, Nat.mul_comm 2]
    omega
theorem popc_mod (m x y : Nat) : popc m (x + 2 ^ m * y) = popc m x := by
  induction m generalizing x y with
  | zero => rfl
  | succ m ih =>
    rw [popc, popc, Nat.pow_succ]
    have e1 : (x + 2 ^ m * 2 * y) % 2 = x % 2 := by rw [Nat.mul_right_comm]; omega
    have e2 : (x + 2 ^ m * 2 * y) / 2 = x / 2 + 2 ^ m * y := by rw [Nat.mul_right_comm]; omega
    rw [e1, e2, ih]
theorem cnt_more (fr : Nat → Bool) (n m : Nat) : cntT fr (n + m) = cntT fr n + (List.range m).countP (fun j => fr (n + j)) := by
  unfold cntT
  rw [List.range_add, List.countP_append, List.countP_map]
  rfl
theorem cnt_word {fr : Nat → Bool} {ws : List Nat} (h : WB fr ws) (i : Nat) (hi : i < ws.length) : cntT fr ((i + 1) * 64) = cntT fr (i * 64) + popc 64 ws[i] := by
  rw [Nat.succ_mul, cnt_more, popc_bits]
  congr 1
  refine List.countP_congr fun j hj => ?_
  rw [(h i hi).2 j (List.mem_range.1 hj)]

theorem and_split (a b c m : Nat) (ha : a < 256) (hc : c < 256) : (a + 256 * b) &&& (c + 256 * m) = (a &&& c) + 256 * (b &&& m) := by
  have e : ∀ x y : Nat, x + 256 * y = 2 ^ 8 * y + x := by intro x y; omega
  have hac : a &&& c < 2 ^ 8 := Nat.lt_of_le_of_lt Nat.and_le_left ha
  rw [e a b, e c m, e _ (b &&& m)]
  apply Nat.eq_of_testBit_eq
  intro j
  rw [Nat.testBit_and, Nat.testBit_two_pow_mul_add _ ha, Nat.testBit_two_pow_mul_add _ hc, Nat.testBit_two_pow_mul_add _ hac]
  split
  · rw [Nat.testBit_and]
  · rw [Nat.testBit_and]
def rep (c : Nat) : Nat → Nat
  | 0 => 0
  | n + 1 => c + 256 * rep c n
def f1 (n x : Nat) : Nat := ((x / 2) &&& rep 85 n) + (x &&& rep 85 n)
def f2 (n x : Nat) : Nat := ((x / 4) &&& rep 51 n) + (x &&& rep 51 n)
def f3 (n x : Nat) : Nat := (x / 16 + x) &&& rep 15 n
def b1 (a : Nat) : Nat := ((a / 2) &&& 85) + (a &&& 85)
def b2 (a : Nat) : Nat := ((a / 4) &&& 51) + (a &&& 51)
def b3 (a : Nat) : Nat := (a / 16 + a) &&& 15
theorem low1 : ∀ a, a < 256 → ∀ r, r < 2 → (a / 2 + 128 * r) &&& 85 = (a / 2) &&& 85 := by decide +kernel
theorem low2 : ∀ a, a < 256 → ∀ r, r < 4 → (a / 4 + 64 * r) &&& 51 = (a / 4) &&& 51 := by decide +kernel
theorem low3 : ∀ a, a < 256 → ∀ r, r < 16 → (a / 16 + 16 * r + a) &&& 15 = (a / 16 + a) &&& 15 := by decide +kernel
theorem byte1 : ∀ a, a < 256 → b1 a < 256 ∧ b2 (b1 a) < 256 ∧ b2 (b1 a) / 16 ≤ 4 ∧ b2 (b1 a) % 16 ≤ 4 ∧ b3 (b2 (b1 a)) = popc 8 a ∧ popc 8 a ≤ 8 := by decide +kernel
theorem f1_step (n a b : Nat) (ha : a < 256) : f1 (n + 1) (a + 256 * b) = b1 a + 256 * f1 n b := by
  have e : (a + 256 * b) / 2 = (a / 2 + 128 * (b % 2)) + 256 * (b / 2) := by omega
  have hr : b % 2 < 2 := Nat.mod_lt _ (by omega)
  unfold f1 b1
  rw [e, rep, and_split _ _ _ _ (by omega) (by omega), and_split _ _ _ _ ha (by omega), low1 a ha _ hr]
  omega
theorem f2_step (n a b : Nat) (ha : a < 256) : f2 (n + 1) (a + 256 * b) = b2 a + 256 * f2 n b := by
  have e : (a + 256 * b) / 4 = (a / 4 + 64 * (b % 4)) + 256 * (b / 4) := by omega
  have hr : b % 4 < 4 := Nat.mod_lt _ (by omega)
  unfold f2 b2
  rw [e, rep, and_split _ _ _ _ (by omega) (by omega), and_split _ _ _ _ ha (by omega), low2 a ha _ hr]
  omega
theorem f3_step (n a b : Nat) (ha : a < 256) (h1 : a / 16 ≤ 4) (h2 : a % 16 ≤ 4) (h3 : b % 16 ≤ 4) : f3 (n + 1) (a + 256 * b) = b3 a + 256 * f3 n b := by
  have e : (a + 256 * b) / 16 + (a + 256 * b) = (a / 16 + 16 * (b % 16) + a) + 256 * (b / 16 + b) := by omega
  unfold f3 b3
  rw [e, rep, and_split _ _ _ _ (by omega) (by omega), low3 a ha _ (by omega)]
theorem f_all (n x : Nat) (h : x < 256 ^ n) : f2 n (f1 n x) % 16 ≤ 4 ∧ ∀ m b, x = m + 256 * b → m < 256 → 0 < n → f3 n (f2 n (f1 n x)) = popc 8 m + 256 * f3 (n - 1) (f2 (n - 1) (f1 (n - 1) b)) := by
  induction n generalizing x with
  | zero =>
    refine ⟨?_, fun m b _ _ h => by omega⟩
    simp [f2, f1, rep]
  | succ n ih =>
    have key : ∀ m b, x = m + 256 * b → m < 256 → b < 256 ^ n → f2 (n + 1) (f1 (n + 1) x) = b2 (b1 m) + 256 * f2 n (f1 n b) := by
      intro m b e hm hb
      rw [e, f1_step n m b hm, f2_step n _ _ (byte1 m hm).1]
    have hx : x / 256 < 256 ^ n := by rw [Nat.pow_succ] at h; omega
    constructor
    · rw [key (x % 256) (x / 256) (by omega) (by omega) hx]
      have := (byte1 (x % 256) (by omega)).2.2.2.1
      omega
    · intro m b e hm _
      have hb : b < 256 ^ n := by rw [Nat.pow_succ] at h; omega
      have hB := byte1 m hm
      rw [key m b e hm hb, f3_step n _ _ hB.2.1 hB.2.2.1 hB.2.2.2.1 (ih b hb).1, hB.2.2.2.2.1]
      rfl
theorem f_next (n m b : Nat) (hm : m < 256) (hb : b < 256 ^ n) : f3 (n + 1) (f2 (n + 1) (f1 (n + 1) (m + 256 * b))) = popc 8 m + 256 * f3 n (f2 n (f1 n b)) :=
  (f_all (n + 1) (m + 256 * b) (by rw [Nat.pow_succ]; omega)).2 m b rfl hm (by omega)
theorem ones_eq (x : Nat) (h : x < 18446744073709551616) :
    ∃ p0 p1 p2 p3 p4 p5 p6 p7 : Nat, p0 ≤ 8 ∧ p1 ≤ 8 ∧ p2 ≤ 8 ∧ p3 ≤ 8 ∧ p4 ≤ 8 ∧ p5 ≤ 8 ∧ p6 ≤ 8 ∧ p7 ≤ 8 ∧ f3 8 (f2 8 (f1 8 x)) = p0 + 256 * (p1 + 256 * (p2 + 256 * (p3 + 256 * (p4 + 256 * (p5 + 256 * (p6 + 256 * p7)))))) ∧ popc 64 x = p0 + (p1 + (p2 + (p3 + (p4 + (p5 + (p6 + p7)))))) := by
  obtain ⟨a0, y0, e0, h0, l0⟩ : ∃ a y, x = a + 256 * y ∧ a < 256 ∧ y < 256 ^ 7 := ⟨x % 256, x / 256, by omega, by omega, by omega⟩
  obtain ⟨a1, y1, e1, h1, l1⟩ : ∃ a y, y0 = a + 256 * y ∧ a < 256 ∧ y < 256 ^ 6 := ⟨y0 % 256, y0 / 256, by omega, by omega, by omega⟩
  obtain ⟨a2, y2, e2, h2, l2⟩ : ∃ a y, y1 = a + 256 * y ∧ a < 256 ∧ y < 256 ^ 5 := ⟨y1 % 256, y1 / 256, by omega, by omega, by omega⟩
  obtain ⟨a3, y3, e3, h3, l3⟩ : ∃ a y, y2 = a + 256 * y ∧ a < 256 ∧ y < 256 ^ 4 := ⟨y2 % 256, y2 / 256, by omega, by omega, by omega⟩
  obtain ⟨a4, y4, e4, h4, l4⟩ : ∃ a y, y3 = a + 256 * y ∧ a < 256 ∧ y < 256 ^ 3 := ⟨y3 % 256, y3 / 256, by omega, by omega, by omega⟩
  obtain ⟨a5, y5, e5, h5, l5⟩ : ∃ a y, y4 = a + 256 * y ∧ a < 256 ∧ y < 256 ^ 2 := ⟨y4 % 256, y4 / 256, by omega, by omega, by omega⟩
  obtain ⟨a6, y6, e6, h6, l6⟩ : ∃ a y, y5 = a + 256 * y ∧ a < 256 ∧ y < 256 ^ 1 := ⟨y5 % 256, y5 / 256, by omega, by omega, by omega⟩
  refine ⟨popc 8 a0, popc 8 a1, popc 8 a2, popc 8 a3, popc 8 a4, popc 8 a5, popc 8 a6, popc 8 y6, (byte1 _ h0).2.2.2.2.2, (byte1 _ h1).2.2.2.2.2, (byte1 _ h2).2.2.2.2.2, (byte1 _ h3).2.2.2.2.2, (byte1 _ h4).2.2.2.2.2, (byte1 _ h5).2.2.2.2.2, (byte1 _ h6).2.2.2.2.2, (byte1 _ (by omega)).2.2.2.2.2, ?_, ?_⟩
  · have hz : f3 0 (f2 0 (f1 0 0)) = 0 := rfl
    have e7 := f_next 0 y6 0 (by omega) (by decide)
    simp only [Nat.mul_zero, Nat.add_zero] at e7
    rw [e0, f_next 7 a0 y0 h0 l0, e1, f_next 6 a1 y1 h1 l1, e2, f_next 5 a2 y2 h2 l2, e3, f_next 4 a3 y3 h3 l3, e4, f_next 3 a4 y4 h4 l4, e5, f_next 2 a5 y5 h5 l5, e6, f_next 1 a6 y6 h6 l6, e7, hz, Nat.mul_zero, Nat.add_zero]
  · have step : ∀ n a y, a < 256 → popc (8 + n) (a + 256 * y) = popc 8 a + popc n y := by
      intro n a y ha
      rw [popc_app, show (a + 256 * y) / 2 ^ 8 = y by omega, popc_mod 8 a y]
    rw [e0, step 56 a0 y0 h0, e1, step 48 a1 y1 h1, e2, step 40 a2 y2 h2, e3, step 32 a3 y3 h3, e4, step 24 a4 y4 h4, e5, step 16 a5 y5 h5, e6, step 8 a6 y6 h6]
def fold (x : Nat) : Nat :=
  let x4 := x + x / 256
  let x5 := x4 + x4 / 65536
  let x6 := x5 + x5 / 4294967296
  x6 % 128
theorem fold_sum (p0 p1 p2 p3 p4 p5 p6 p7 X0 X1 X2 X3 X4 X5 X6 : Nat) (h0 : p0 ≤ 8) (h1 : p1 ≤ 8) (h2 : p2 ≤ 8) (h3 : p3 ≤ 8) (h4 : p4 ≤ 8) (h5 : p5 ≤ 8) (h6 : p6 ≤ 8) (h7 : p7 ≤ 8)
    (e0 : X0 = p0 + 256 * X1) (e1 : X1 = p1 + 256 * X2) (e2 : X2 = p2 + 256 * X3) (e3 : X3 = p3 + 256 * X4) (e4 : X4 = p4 + 256 * X5) (e5 : X5 = p5 + 256 * X6) (e6 : X6 = p6 + 256 * p7) :
    fold X0 = p0 + (p1 + (p2 + (p3 + (p4 + (p5 + (p6 + p7)))))) := by
  unfold fold
  have d1 : X0 / 256 = X1 := by omega
  have d2 : (X0 + X1) / 65536 = X2 + X3 := by omega
  have d3 : (X0 + X1 + (X2 + X3)) / 4294967296 = X4 + X5 + (X6 + p7) := by omega
  simp only [d1, d2, d3]
  omega
theorem ones_all (x : Nat) (h : x < 18446744073709551616) : fold (f3 8 (f2 8 (f1 8 x))) = popc 64 x ∧ f3 8 (f2 8 (f1 8 x)) ≤ 578721382704613384 ∧ popc 64 x ≤ 64 := by
  obtain ⟨p0, p1, p2, p3, p4, p5, p6, p7, h0, h1, h2, h3, h4, h5, h6, h7, e, e'⟩ := ones_eq x h
  rw [e, e']
  refine ⟨fold_sum p0 p1 p2 p3 p4 p5 p6 p7 _ _ _ _ _ _ _ h0 h1 h2 h3 h4 h5 h6 h7 rfl rfl rfl rfl rfl rfl rfl, by omega, by omega⟩
end Go.Proofs.YtllkeeeajlgkpaaDoor
