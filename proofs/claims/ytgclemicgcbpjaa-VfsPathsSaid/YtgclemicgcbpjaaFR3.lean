/- vfs: the copy of credentials; entries as arguments. -/
import Derived.Test.YtgclemicgcbpjaaFR1
import Derived.Test.YtgclemicgcbpjaaFR2
import Derived.Test.YtgclemicgcbpjaaFN
namespace Go.Proofs.Ytgclemicgcbpjaa
open Go.ChangeShapes Go.WideShapes Go.ChangeAt Go.RowKit Go.Sort

theorem infoU32 : (Try.prog.info? 22).map (fun i => (i.zero, i.size, i.bytes)) = some (some (.int .u32 0), 1, 4) := by kernel_rfl
abbrev OwnN (w : World) (base : Nat) (v : Value) (l : List Int) : Prop := w.ownsRow base 22 1 v l.length (l.map (Value.int .u32))
theorem two_rows {w w1 : World} {T : TypeId} {a b c d e a' b' c' d' e' : Value} {r : Option Nat} (h : ((w.alloc (.cells #[a, b, c, d, e] T)).alloc (.cells #[a', b', c', d', e'] T)).grownBy w1 r) (hr : r = none) : Row w1 w.heap.size T [a, b, c, d, e] ∧ Row w1 (w.heap.size + 1) T [a', b', c', d', e'] := by
  subst hr
  refine ⟨((Row.new w T [a, b, c, d, e]).alloc _).grown h (by simp), ?_⟩
  have := (Row.new (w.alloc (.cells #[a, b, c, d, e] T)) T [a', b', c', d', e']).grown h (by simp)
  rw [World.size_alloc] at this
  exact this

set_option maxHeartbeats 1000000 in
theorem cpc_any (u e s g : Int) (a : Option Addr) (len cap : Nat) (l : List Int) (w : World) (hB : Nums w .u32 a len l) (hcap : a = none → cap = 0) (hl : len ≤ 1048576) :
    Calls Try.prog 20 #[credV u e s g a len cap] w fun e' w' => ∃ v', e' = .returned (.agg #[.int .u32 u, .int .u32 e, .int .u32 s, .int .u32 g, v']) ∧ OwnN w' w.heap.size v' l ∧ Below w.heap.size w w' := by
  obtain rfl := hB.hlen
  obtain ⟨i0, hi, hz0, hz1, hz2⟩ := info_parts infoU32
  have HW := hid (@b2a w)
  cases a with
  | none =>
    have e0 : l = [] := by
      rcases Nat.eq_zero_or_pos l.length with h | h
      · exact List.length_eq_zero_iff.1 h
      · obtain ⟨b, off, e, _⟩ := hB.some_of h; cases e
    have HE := hid e0
    obtain rfl := hcap rfl
    have hl0 : l.length = 0 := by rw [e0]; rfl
    rw [hl0]
    clear e0 hl0 hl
    go_enter Try.func20, Try.ntmps20
    go_wp2_with (at_builtin; refine wpList_append_own_none rfl _ _ 23 rfl w.heap.size 22 i0 1 Try.underlying23 hi (.slice none 0 0) 0 [] rfl (World.ownsRow_nil _ _ _ _) rfl ?_)
    refine bodyPost_ret (v := .agg #[.int .u32 u, .int .u32 e, .int .u32 s, .int .u32 g, .slice none 0 0]) (by simp [results, Try.results20, go_sem]) rfl ⟨_, rfl, ?_, HW.out _ _⟩
    rw [HE.out]
    exact World.ownsRow_nil _ _ _ _
  | some ad =>
    have hn := (fun o1 o2 => (hB.below' (b2a o1 o2)).news)
    have HN := hid hn
    clear hn hB
    go_enter Try.func20, Try.ntmps20
    go_wp2_with (at_builtin; refine wpList_append_own _ rfl _ _ 23 rfl (w.heap.size + 2) 22 i0 (.int .u32 0) 1 4 Try.underlying23 hi hz0 hz1 hz2 rfl (by decide) (.slice none 0 0) 0 [] rfl (World.ownsRow_nil _ _ _ _) ad l.length cap (l.map (Value.int .u32)) rfl (by simp) (HN.out _ _) (nums_one _ _) (by unfold maxLen; omega) (by omega) (by simp) ?_; intro v' w1 hown' hgrow _; obtain ⟨a9, c9, rfl, hN9⟩ := own_nums hown'; obtain ⟨r0, r1⟩ := two_rows hgrow rfl; obtain ⟨x0, x1, x2, x3, x4⟩ := r0.five; obtain ⟨y0, y1, y2, y3, y4⟩ := r1.five; obtain ⟨f0, f1, f2, f3, f4⟩ := r0.fiveF; obtain ⟨g0, g1, g2, g3, g4⟩ := r1.fiveF; have R0 := hid r0; have R1 := hid r1; have HG := hid hgrow; have HO := hid hown'; clear r0 r1 hgrow hown' hN9)
    have ho1 : OwnN w1 (w.heap.size + 2) (.slice a9 l.length c9) l := own_ext (by simpa using HO.out) rfl rfl
    have hb1 : Below w.heap.size w w1 := (HW.out _ _).grown HG.out (by simp; omega) (fun k hk => by simp [Value.ownBlock] at hk)
    refine bodyPost_ret (v := .agg #[.int .u32 u, .int .u32 e, .int .u32 s, .int .u32 g, .slice a9 l.length c9]) (by simp [results, Try.results20, go_sem, x0, x1, x2, x3, x4, y0, y1, y2, y3, y4]) rfl ⟨_, rfl, ?_, ?_⟩
    · exact own_from (own_setLow (own_setLow (own_setLow (own_setLow (own_setLow (own_setLow ho1 (by omega) _) (by omega) _) (by omega) _) (by omega) _) (by omega) _) (by omega) _) (by omega)
    · exact bset (bset (bset (bset (bset (bset hb1 (by omega) _) (by omega) _) (by omega) _) (by omega) _) (by omega) _) (by omega) _

theorem list_of {α : Type} (P : Nat → α → Prop) : ∀ n, (∀ i, i < n → ∃ x, P i x) → ∃ l : List α, l.length = n ∧ ∀ i (hi : i < l.length), P i l[i]
  | 0, _ => ⟨[], rfl, fun i hi => by simp at hi⟩
  | n + 1, h => by
    obtain ⟨l, hl, hp⟩ := list_of P n (fun i hi => h i (by omega))
    obtain ⟨x, hx⟩ := h n (by omega)
    refine ⟨l ++ [x], by simp [hl], fun i hi => ?_⟩
    by_cases e : i < l.length
    · rw [List.getElem_append_left e]; exact hp i e
    · have : i = n := by simp at hi; omega
      subst this
      rw [List.getElem_append_right (by omega)]
      simp [hl]
      exact hx
theorem leavesEnt : leaves Try.prog 2 54 = [(0, 9), (1, 5), (2, 35), (3, 22), (4, 22), (5, 40), (6, 9)] := by kernel_rfl
theorem cellsEnt : Try.prog.cellsOf 54 = 7 := by kernel_rfl
theorem bytesEnt : Try.prog.bytesOf 54 = 72 := by kernel_rfl
section
variable {H : Type} {enc : TypeId × Value → H} {w : World} {held : Bool}
theorem open_data {m : Nat} {v : Value} {y : DataW H × List MemPlace} (h : DataW.trod enc Try.prog w 0 (fun _ => true) held m 40 [v] = some y) (hs : Small Try.prog reachBytes 40 y.1) :
    ∃ a c, ∃ l : BL, v = .slice a l.length c ∧ Byt w a l.length l ∧ (a = none → c = 0) ∧ l.length ≤ 140737488351232 := by
  obtain ⟨d, ps⟩ := y
  obtain ⟨a, n, c, l, rfl, hb, hnc, _, hw⟩ := open_bytes (e := 5) Try.underlying40 Try.underlying5 (by kernel_rfl) ⟨m, h⟩
  obtain ⟨a', n', c', e, _, _, hcn, _⟩ := open_rows (n := 0) Try.underlying40 h hs (by rw [show Try.prog.cellsOf 5 = 1 by kernel_rfl]; omega)
  cases e
  obtain rfl := hb.hlen
  have hw2 : ∀ R, (∀ q ∈ d.weights Try.prog 40, q ≤ R) → c * Try.prog.bytesOf 5 ≤ R := fun R h => hw R (by rw [List.all_eq_true]; intro n hn; exact decide_eq_true (h n hn))
  have := hw2 reachBytes hs
  rw [show Try.prog.bytesOf 5 = 1 by kernel_rfl, reach_is] at this
  exact ⟨a, c, l, rfl, hb, hcn, by omega⟩
set_option maxRecDepth 100000 in
set_option maxHeartbeats 2000000 in
theorem open_ents {r : Reach} {b0 : Nat} {v : Value} {d : DataW H} {ps : List MemPlace} (hv : Value.okWide Try.prog w r b0 45 v) (h : DataW.Trod enc Try.prog w 0 (fun _ => true) held 45 v d ps) (hz : (d.weights Try.prog 45).all (· ≤ reachBytes) = true) :
    ∃ a c, ∃ xs : List EN, v = .slice a xs.length c ∧ EntsIn w a xs.length xs ∧ xs.length ≤ 140737488351232 := by
  obtain ⟨a, n, c, rfl, hnc, _, hcn, hby, hrow⟩ := open_rows_arg (n := 2) Try.underlying45 hv h (small_of hz) (by rw [cellsEnt]; omega)
  rw [bytesEnt, reach_is] at hby
  rw [leavesEnt, cellsEnt] at hrow
  obtain ⟨xs, hl, hp⟩ := list_of (fun i (x : EN) => EnIn w x ∧ ∃ b off, a = some ⟨b, off, none⟩ ∧ ∀ j (hj : j < x.cs.length), w.cell? ⟨b, off + i * 7 + j, none⟩ = some x.cs[j]) n (fun i hi => by
    obtain ⟨b, off, rfl, hc⟩ := hrow i hi
    obtain ⟨v0, m0, y0, c0, t0, s0⟩ := hc 0 9 (by simp) (by kernel_rfl) (by omega)
    obtain ⟨v1, m1, y1, c1, t1, s1⟩ := hc 1 5 (by simp) (by kernel_rfl) (by omega)
    obtain ⟨v2, m2, y2, c2, t2, s2⟩ := hc 2 35 (by simp) (by kernel_rfl) (by omega)
    obtain ⟨v3, m3, y3, c3, t3, s3⟩ := hc 3 22 (by simp) (by kernel_rfl) (by omega)
    obtain ⟨v4, m4, y4, c4, t4, s4⟩ := hc 4 22 (by simp) (by kernel_rfl) (by omega)
    obtain ⟨v5, m5, y5, c5, t5, s5⟩ := hc 5 40 (by simp) (by kernel_rfl) (by omega)
    obtain ⟨v6, m6, y6, c6, t6, s6⟩ := hc 6 9 (by simp) (by kernel_rfl) (by omega)
    obtain ⟨x0, rfl, hx0⟩ := leaf_string Try.underlying9 t0 s0
    obtain ⟨x1, rfl, _⟩ := leaf_int Try.underlying5 t1
    obtain ⟨x2, rfl, hx2⟩ := leaf_int Try.underlying35 t2
    obtain ⟨x3, rfl, _⟩ := leaf_int Try.underlying22 t3
    obtain ⟨x4, rfl, _⟩ := leaf_int Try.underlying22 t4
    obtain ⟨xa, xc, xl, rfl, hx5, hx5n, hx5l⟩ := open_data t5 s5
    obtain ⟨x6, rfl, hx6⟩ := leaf_string Try.underlying9 t6 s6
    have hm := bounds_u16 hx2
    rw [reach_is] at hx0 hx6
    refine ⟨⟨x0, x1, x2, x3, x4, xa, xc, xl, x6⟩, ⟨hx5, hx5n, hx0, hx6, hx5l, hm⟩, b, off, rfl, fun j hj => ?_⟩
    have hj' : j < 7 := hj
    rcases j with _ | _ | _ | _ | _ | _ | _ | j
    · exact c0
    · exact c1
    · exact c2
    · exact c3
    · exact c4
    · exact c5
    · exact c6
    · omega)
  subst hl
  refine ⟨a, c, xs, rfl, ⟨⟨by simp, fun i hi => ?_⟩, fun x hx => ?_⟩, by omega⟩
  · have hi' : i < xs.length := by simpa using hi
    obtain ⟨_, b, off, rfl, hc⟩ := hp i hi'
    have e : (xs.map EN.cs)[i] = xs[i].cs := by simp
    rw [e]
    exact ⟨rfl, b, off, rfl, hc⟩
  · obtain ⟨i, hi, rfl⟩ := List.mem_iff_getElem.1 hx
    exact (hp i hi).1
end
end Go.Proofs.Ytgclemicgcbpjaa
