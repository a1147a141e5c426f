/- Contracts of creds.Check, Same, Lend and of their references. -/
import Derived.Test.YtjiaoppdpomjhaaV4
namespace Go.Proofs.Ytjiaoppdpomjhaa
open Go.RowKit

def chkN (n : Int) : Int := if n ≤ 8 then 0 else 15

set_option maxHeartbeats 1000000 in
theorem ccheck_any (u e s g : Int) (a : Option Addr) (len cap : Nat) (w : World) (hl : len ≤ 1048576) :
    Calls Try.prog 11 #[credV u e s g a len cap] w fun e' w' => e' = .returned (.int .i64 (chkN len)) ∧ Below w.heap.size w w' := by
  have HW := hid (@bal w)
  by_cases h : (len : Int) ≤ 8
  all_goals
    go_enter Try.func11, Try.ntmps11
    go_wp2_with fail
    go_ret
    exact ⟨ret_i64 (by unfold chkN; simp [h]), HW.out _⟩

set_option maxHeartbeats 1000000 in
theorem rcheck_any (u e s g : Int) (a : Option Addr) (len cap : Nat) (w : World) (hl : len ≤ 1048576) :
    Calls Try.prog 12 #[credV u e s g a len cap] w fun e' w' => e' = .returned (.int .i64 (chkN len)) ∧ Below w.heap.size w w' := by
  have HW := hid (@bal w)
  by_cases h : (len : Int) ≤ 8
  all_goals
    go_enter Try.func12, Try.ntmps12
    go_wp2_with fail
    go_ret
    exact ⟨ret_i64 (by unfold chkN; simp [h]), HW.out _⟩

set_option maxHeartbeats 1000000 in
theorem large_any (u e s g : Int) (a : Option Addr) (len cap : Nat) (w : World) (hl : len ≤ 140737488351232) :
    Calls Try.prog 8 #[credV u e s g a len cap] w fun e' w' => e' = .returned (.bool (decide (65536 < (len : Int)))) ∧ Below w.heap.size w w' := by
  have HW := hid (@bal w)
  by_cases h : 65536 < (len : Int)
  all_goals
    go_enter Try.func8, Try.ntmps8
    go_wp2_with fail
    go_ret
    exact ⟨ret_bool (by simp [h]), HW.out _⟩

set_option maxHeartbeats 1000000 in
theorem whoIs_any (u e s g : Int) (a : Option Addr) (len cap : Nat) (w : World) :
    Calls Try.prog 26 #[credV u e s g a len cap] w fun e' w' => e' = .returned (.agg #[.int .u32 u, .int .u32 e, .int .u32 s, .int .u32 g]) ∧ Below w.heap.size w w' := by
  have HW := hid (@b2a w)
  go_enter Try.func26, Try.ntmps26
  go_wp2_with fail
  exact bodyPost_ret (v := .agg #[.int .u32 u, .int .u32 e, .int .u32 s, .int .u32 g]) (by simp [results, Try.results26, go_sem]) rfl ⟨rfl, HW.out _ _⟩

def lendE (k m e uid : Int) : Int := if k = 1 ∧ ¬ bits .and .u16 m 2048 = 0 then uid else e

theorem two_rows {w w1 : World} {T : TypeId} {a b c d e a' b' c' d' e' : Value} {r : Option Nat} (h : ((w.alloc (.cells #[a, b, c, d, e] T)).alloc (.cells #[a', b', c', d', e'] T)).grownBy w1 r) (hr : r = none) : Row w1 w.heap.size T [a, b, c, d, e] ∧ Row w1 (w.heap.size + 1) T [a', b', c', d', e'] := by
  subst hr
  refine ⟨((Row.new w T [a, b, c, d, e]).alloc _).grown h (by simp), ?_⟩
  have := (Row.new (w.alloc (.cells #[a, b, c, d, e] T)) T [a', b', c', d', e']).grown h (by simp)
  rw [World.size_alloc] at this
  exact this

set_option maxHeartbeats 1000000 in
theorem copy_any (u e s g : Int) (a : Option Addr) (len cap : Nat) (l : List Int) (w : World) (hB : Nums w .u32 a len l) (hcap : a = none → cap = 0) (hl : len ≤ 1048576) :
    Calls Try.prog 22 #[credV u e s g a len cap] w fun e' w' => ∃ v', e' = .returned (.agg #[.int .u32 u, .int .u32 e, .int .u32 s, .int .u32 g, v']) ∧ OwnN w' w.heap.size v' l ∧ Below w.heap.size w w' := by
  obtain rfl := hB.hlen
  obtain ⟨i0, hi, hz0, hz1, hz2⟩ := info_parts infoU32
  have HW := hid (@b2a w)
  cases a with
  | none =>
    have e0 : l = [] := by
      rcases Nat.eq_zero_or_pos l.length with h | h
      · exact List.length_eq_zero_iff.1 h
      · obtain ⟨b, off, e, _⟩ := hB.some_of h; cases e
    have HE := hid e0
    obtain rfl := hcap rfl
    have hl0 : l.length = 0 := by rw [e0]; rfl
    rw [hl0]
    clear e0 hl0 hl
    go_enter Try.func22, Try.ntmps22
    go_wp2_with (at_builtin; refine wpList_append_own_none rfl _ _ 23 rfl w.heap.size 22 i0 1 Try.underlying23 hi (.slice none 0 0) 0 [] rfl (World.ownsRow_nil _ _ _ _) rfl ?_)
    refine bodyPost_ret (v := .agg #[.int .u32 u, .int .u32 e, .int .u32 s, .int .u32 g, .slice none 0 0]) (by simp [results, Try.results22, go_sem]) rfl ⟨_, rfl, ?_, HW.out _ _⟩
    rw [HE.out]
    exact World.ownsRow_nil _ _ _ _
  | some ad =>
    have hn := (fun o1 o2 => (hB.below' (b2a o1 o2)).news)
    have HN := hid hn
    clear hn hB
    go_enter Try.func22, Try.ntmps22
    go_wp2_with (at_builtin; refine wpList_append_own _ rfl _ _ 23 rfl (w.heap.size + 2) 22 i0 (.int .u32 0) 1 4 Try.underlying23 hi hz0 hz1 hz2 rfl (by decide) (.slice none 0 0) 0 [] rfl (World.ownsRow_nil _ _ _ _) ad l.length cap (l.map (Value.int .u32)) rfl (by simp) (HN.out _ _) (nums_one _ _) (by unfold maxLen; omega) (by omega) (by simp) ?_; intro v' w1 hown' hgrow _; obtain ⟨a9, c9, rfl, hN9⟩ := own_nums hown'; obtain ⟨r0, r1⟩ := two_rows hgrow rfl; obtain ⟨x0, x1, x2, x3, x4⟩ := r0.five; obtain ⟨y0, y1, y2, y3, y4⟩ := r1.five; obtain ⟨f0, f1, f2, f3, f4⟩ := r0.fiveF; obtain ⟨g0, g1, g2, g3, g4⟩ := r1.fiveF; have R0 := hid r0; have R1 := hid r1; have HG := hid hgrow; have HO := hid hown'; clear r0 r1 hgrow hown' hN9)
    have ho1 : OwnN w1 (w.heap.size + 2) (.slice a9 l.length c9) l := own_ext (by simpa using HO.out) rfl rfl
    have hb1 : Below w.heap.size w w1 := (HW.out _ _).grown HG.out (by simp; omega) (fun k hk => by simp [Value.ownBlock] at hk)
    refine bodyPost_ret (v := .agg #[.int .u32 u, .int .u32 e, .int .u32 s, .int .u32 g, .slice a9 l.length c9]) (by simp [results, Try.results22, go_sem, x0, x1, x2, x3, x4, y0, y1, y2, y3, y4]) rfl ⟨_, rfl, ?_, ?_⟩
    · exact own_from (own_setLow (own_setLow (own_setLow (own_setLow (own_setLow (own_setLow ho1 (by omega) _) (by omega) _) (by omega) _) (by omega) _) (by omega) _) (by omega) _) (by omega)
    · exact bset (bset (bset (bset (bset (bset hb1 (by omega) _) (by omega) _) (by omega) _) (by omega) _) (by omega) _) (by omega) _
end Go.Proofs.Ytjiaoppdpomjhaa
