
/- Merged: Ce0 Ce1 Ce2 Ce3 Ce5. -/
import Derived.Test.YtcbkikioapdbbaaDoorKC4
import Derived.Test.YtcbkikioapdbbaaDoorLG
import Derived.Test.YtcbkikioapdbbaaDoorKO
import Derived.Test.YtcbkikioapdbbaaDoorKC2
import Derived.Test.YtcbkikioapdbbaaDoorKS
import Derived.Test.YtcbkikioapdbbaaDoorZA0
namespace Go.Proofs.YtcbkikioapdbbaaDoor
open Go.ChangeShapes Go.WideShapes Go.ChangeAt Go.RowKit Go.Sort

theorem leavesCall : leaves Tryd.prog 2 26 = [(0, 5), (1, 22), (2, 22), (3, 22), (4, 22), (5, 22), (6, 9), (7, 23), (8, 23), (9, 24)] := by kernel_rfl
theorem cellsCall : Tryd.prog.cellsOf 26 = 10 := by kernel_rfl
theorem leavesStep : leaves Tryd.prog 3 49 = [(0, 3), (1, 5), (2, 22), (3, 22), (4, 22), (5, 22), (6, 22), (7, 9), (8, 23), (9, 23), (10, 24)] := by kernel_rfl
theorem cellsStep : Tryd.prog.cellsOf 49 = 11 := by kernel_rfl
theorem bytesStep : Tryd.prog.bytesOf 49 = 144 := by kernel_rfl
theorem reach_is25 : reachBytes = 140737488351232 := rfl

section
variable {H : Type} {enc : TypeId × Value → H} {w : World}
theorem lf_n64 {m : Nat} {v : Value} {y : DataW H × List MemPlace} (h : DataW.trod enc Tryd.prog w 0 (fun _ => true) true m 22 [v] = some y) : ∃ i : Nat, v = .int .u64 (i : Int) ∧ i < 18446744073709551616 := by
  obtain ⟨x, rfl, hw⟩ := lf_int Tryd.underlying22 h
  have := bounds_u64 hw
  obtain ⟨i, rfl⟩ := Int.eq_ofNat_of_zero_le this.1
  exact ⟨i, rfl, by have := this.2; omega⟩
theorem lf_n8 {m : Nat} {v : Value} {y : DataW H × List MemPlace} (h : DataW.trod enc Tryd.prog w 0 (fun _ => true) true m 5 [v] = some y) : ∃ i : Nat, v = .int .u8 (i : Int) ∧ i < 256 := by
  obtain ⟨x, rfl, hw⟩ := lf_int Tryd.underlying5 h
  have := bounds_u8 hw
  obtain ⟨i, rfl⟩ := Int.eq_ofNat_of_zero_le this.1
  exact ⟨i, rfl, by have := this.2; omega⟩
theorem lf_by {m : Nat} {v : Value} {y : DataW H × List MemPlace} (h : DataW.trod enc Tryd.prog w 0 (fun _ => true) true m 24 [v] = some y) (hs : Small Tryd.prog reachBytes 24 y.1) :
    ∃ a c, ∃ l : BL, v = .slice a l.length c ∧ Byt w a l.length l ∧ (a = none → c = 0) ∧ l.length ≤ 140737488351232 := by
  obtain ⟨d, ps⟩ := y
  obtain ⟨a, n, c, l, rfl, hb, hnc, _, hw⟩ := open_bytes (e := 5) Tryd.underlying24 Tryd.underlying5 (by kernel_rfl) ⟨m, h⟩
  obtain ⟨a', n', c', e, _, _, hcn, _⟩ := open_rows (n := 0) Tryd.underlying24 h hs (by rw [show Tryd.prog.cellsOf 5 = 1 by kernel_rfl]; omega)
  cases e
  obtain rfl := hb.hlen
  have hw2 : ∀ R, (∀ q ∈ d.weights Tryd.prog 24, q ≤ R) → c * Tryd.prog.bytesOf 5 ≤ R := fun R h => hw R (by rw [List.all_eq_true]; intro n hn; exact decide_eq_true (h n hn))
  have := hw2 reachBytes hs
  rw [show Tryd.prog.bytesOf 5 = 1 by kernel_rfl, reach_is25] at this
  exact ⟨a, c, l, rfl, hb, hcn, by omega⟩
/-- The leaves of a call. -/
theorem leaves_call {q : Nat → Value} (hq : (∃ m y, DataW.trod enc Tryd.prog w 0 (fun _ => true) true m 5 [q 0] = some y) ∧ (∃ m y, DataW.trod enc Tryd.prog w 0 (fun _ => true) true m 22 [q 1] = some y) ∧ (∃ m y, DataW.trod enc Tryd.prog w 0 (fun _ => true) true m 22 [q 2] = some y) ∧ (∃ m y, DataW.trod enc Tryd.prog w 0 (fun _ => true) true m 22 [q 3] = some y) ∧ (∃ m y, DataW.trod enc Tryd.prog w 0 (fun _ => true) true m 22 [q 4] = some y) ∧ (∃ m y, DataW.trod enc Tryd.prog w 0 (fun _ => true) true m 22 [q 5] = some y) ∧ (∃ m y, DataW.trod enc Tryd.prog w 0 (fun _ => true) true m 9 [q 6] = some y ∧ Small Tryd.prog reachBytes 9 y.1) ∧ (∃ m y, DataW.trod enc Tryd.prog w 0 (fun _ => true) true m 23 [q 7] = some y ∧ Small Tryd.prog reachBytes 23 y.1) ∧ (∃ m y, DataW.trod enc Tryd.prog w 0 (fun _ => true) true m 23 [q 8] = some y ∧ Small Tryd.prog reachBytes 23 y.1) ∧ (∃ m y, DataW.trod enc Tryd.prog w 0 (fun _ => true) true m 24 [q 9] = some y ∧ Small Tryd.prog reachBytes 24 y.1)) :
    ∃ x : CG, CGok w x ∧ q 0 = .int .u8 x.kind ∧ q 1 = .int .u64 x.a ∧ q 2 = .int .u64 x.b ∧ q 3 = .int .u64 x.c ∧ q 4 = .int .u64 x.d ∧ q 5 = .int .u64 x.e ∧ q 6 = .string (ba x.path) ∧ q 7 = .slice x.va x.argv.length x.vc ∧ q 8 = .slice x.ea x.env.length x.ec ∧ q 9 = .slice x.ya x.bytes.length x.yc := by
  obtain ⟨⟨_, _, h0⟩, ⟨_, _, h1⟩, ⟨_, _, h2⟩, ⟨_, _, h3⟩, ⟨_, _, h4⟩, ⟨_, _, h5⟩, ⟨_, _, h6, s6⟩, ⟨_, _, h7, s7⟩, ⟨_, _, h8, s8⟩, ⟨_, _, h9, s9⟩⟩ := hq
  obtain ⟨k, e0, b0⟩ := lf_n8 h0
  obtain ⟨n1, e1, b1⟩ := lf_n64 h1
  obtain ⟨n2, e2, b2⟩ := lf_n64 h2
  obtain ⟨n3, e3, b3⟩ := lf_n64 h3
  obtain ⟨n4, e4, b4⟩ := lf_n64 h4
  obtain ⟨n5, e5, b5⟩ := lf_n64 h5
  obtain ⟨t6, e6, b6⟩ := lf_str Tryd.underlying9 h6 s6
  obtain ⟨a7, l7, c7, d7, e7, hc7, hl7, hn7, hm7, ht7⟩ := lf_txts Tryd.underlying23 Tryd.underlying9 (by kernel_rfl) (by kernel_rfl) h7 s7
  obtain ⟨a8, l8, c8, d8, e8, hc8, hl8, hn8, hm8, ht8⟩ := lf_txts Tryd.underlying23 Tryd.underlying9 (by kernel_rfl) (by kernel_rfl) h8 s8
  obtain ⟨a9, c9, d9, e9, hb9, hn9, hm9⟩ := lf_by h9 s9
  have q7 := hc7.hlen
  have q8 := hc8.hlen
  simp only [strs, List.length_map] at q7 q8
  subst q7; subst q8
  exact ⟨⟨k, n1, n2, n3, n4, n5, t6, a7, c7, d7, a8, c8, d8, a9, c9, d9⟩, ⟨hc7, hc8, hb9, b0, b1, b2, b3, b4, b5, by show d7.length ≤ _; omega, by show d8.length ≤ _; omega, hm9, ht7, ht8, by rw [reach_is25] at b6; exact b6, hn7, hn8, hn9⟩, e0, e1, e2, e3, e4, e5, e6, e7, e8, e9⟩
theorem open_call {r : Reach} {b0 : Nat} {v : Value} {d : DataW H} {ps : List MemPlace} (hv : Value.okWide Tryd.prog w r b0 26 v) (h : DataW.Trod enc Tryd.prog w 0 (fun _ => true) true 26 v d ps) (hz : (d.weights Tryd.prog 26).all (· ≤ reachBytes) = true) :
    ∃ x : CG, v = cgV x ∧ CGok w x := by
  obtain ⟨cs, rfl, hsz, hc⟩ := open_agg (n := 2) Tryd.underlying26 hv h (small_of hz)
  rw [cellsCall] at hsz
  rw [leavesCall] at hc
  obtain ⟨m0, y0, t0, s0⟩ := hc 0 5 (by simp) (by kernel_rfl) (by omega)
  obtain ⟨m1, y1, t1, s1⟩ := hc 1 22 (by simp) (by kernel_rfl) (by omega)
  obtain ⟨m2, y2, t2, s2⟩ := hc 2 22 (by simp) (by kernel_rfl) (by omega)
  obtain ⟨m3, y3, t3, s3⟩ := hc 3 22 (by simp) (by kernel_rfl) (by omega)
  obtain ⟨m4, y4, t4, s4⟩ := hc 4 22 (by simp) (by kernel_rfl) (by omega)
  obtain ⟨m5, y5, t5, s5⟩ := hc 5 22 (by simp) (by kernel_rfl) (by omega)
  obtain ⟨m6, y6, t6, s6⟩ := hc 6 9 (by simp) (by kernel_rfl) (by omega)
  obtain ⟨m7, y7, t7, s7⟩ := hc 7 23 (by simp) (by kernel_rfl) (by omega)
  obtain ⟨m8, y8, t8, s8⟩ := hc 8 23 (by simp) (by kernel_rfl) (by omega)
  obtain ⟨m9, y9, t9, s9⟩ := hc 9 24 (by simp) (by kernel_rfl) (by omega)
  obtain ⟨x, hx, e0, e1, e2, e3, e4, e5, e6, e7, e8, e9⟩ := leaves_call (q := fun i => cs[i]?.getD (.int .u8 0)) ⟨⟨m0, y0, by simpa [hsz] using t0⟩, ⟨m1, y1, by simpa [hsz] using t1⟩, ⟨m2, y2, by simpa [hsz] using t2⟩, ⟨m3, y3, by simpa [hsz] using t3⟩, ⟨m4, y4, by simpa [hsz] using t4⟩, ⟨m5, y5, by simpa [hsz] using t5⟩, ⟨m6, y6, by simpa [hsz] using t6, s6⟩, ⟨m7, y7, by simpa [hsz] using t7, s7⟩, ⟨m8, y8, by simpa [hsz] using t8, s8⟩, ⟨m9, y9, by simpa [hsz] using t9, s9⟩⟩
  refine ⟨x, ?_, hx⟩
  congr 1
  apply Array.ext_getElem?
  intro i
  have hi : ∀ j, j < 10 → cs[j]? = some (cs[j]?.getD (.int .u8 0)) := fun j hj => by rw [Array.getElem?_eq_getElem (by omega)]; rfl
  rcases i with _ | _ | _ | _ | _ | _ | _ | _ | _ | _ | i
  · rw [hi 0 (by omega)]; simp only [e0]; rfl
  · rw [hi 1 (by omega)]; simp only [e1]; rfl
  · rw [hi 2 (by omega)]; simp only [e2]; rfl
  · rw [hi 3 (by omega)]; simp only [e3]; rfl
  · rw [hi 4 (by omega)]; simp only [e4]; rfl
  · rw [hi 5 (by omega)]; simp only [e5]; rfl
  · rw [hi 6 (by omega)]; simp only [e6]; rfl
  · rw [hi 7 (by omega)]; simp only [e7]; rfl
  · rw [hi 8 (by omega)]; simp only [e8]; rfl
  · rw [hi 9 (by omega)]; simp only [e9]; rfl
  · rw [Array.getElem?_eq_none (by omega), Array.getElem?_eq_none (by simp)]
theorem open_by {r : Reach} {b0 : Nat} {v : Value} {d : DataW H} {ps : List MemPlace} (hv : Value.okWide Tryd.prog w r b0 24 v) (h : DataW.Trod enc Tryd.prog w 0 (fun _ => true) true 24 v d ps) (hz : (d.weights Tryd.prog 24).all (· ≤ reachBytes) = true) :
    ∃ a c, ∃ l : BL, v = .slice a l.length c ∧ Byt w a l.length l ∧ (a = none → c = 0) ∧ l.length ≤ 140737488351232 := by
  obtain ⟨a, n, c, rfl⟩ := okWide_slice Tryd.underlying24 hv
  obtain ⟨m, hm⟩ := h
  exact lf_by hm (small_of hz)
end
end Go.Proofs.YtcbkikioapdbbaaDoor
namespace Go.Proofs.YtcbkikioapdbbaaDoor
open Go.RowKit Go.Sort
attribute [local go_sem] Oper.semAt_some

def xWk : CG := ⟨10, 1, 0, 0, 0, 0, [97], none, 0, [], none, 0, [], none, 0, []⟩
theorem xWk_ok (w : World) : CGok w xWk := ⟨Cel.nil _ _, Cel.nil _ _, Byt.nil _ _, by decide, by decide, by decide, by decide, by decide, by decide, by decide, by decide, by decide, (fun _ h => by cases h), (fun _ h => by cases h), by decide, fun _ => rfl, fun _ => rfl, fun _ => rfl⟩
theorem xWk_chk : chkC xWk = 0 := by decide
theorem xWk_form : formB xWk = [10, 1, 0, 97, 1, 0, 0, 0, 0, 0, 0, 0] := by decide
def lWk : BL := [7, 10, 1, 0, 97, 1, 0, 0, 0, 0, 0, 0, 0, 1, 2]
theorem lWk_steps : (stepsC lWk).2 = (0, 0) ∧ (stepsC lWk).1.map (fun x => (x.1, x.2.path, x.2.kind)) = [(7, [97], 10), (1, [], 2)] := by decide
/-- Steps that were made anew, in memory. -/
theorem own_steps {w : World} {base : Nat} {v : Value} {xs : List (Nat × CG)} (h : w.ownsRow base 49 11 v xs.length (xs.map stR).flatten) :
    ∃ a c, v = .slice a xs.length c ∧ Rk w 11 a xs.length (xs.map stR) := by
  obtain ⟨a, c, rfl, hr, _⟩ := own_rk h (stR_k xs) (by decide)
  exact ⟨a, c, rfl, hr⟩
/-- Steps that can be read. -/
structure StIn (w : World) (a : Option Addr) (xs : List (Nat × CG)) : Prop where
  rows : Rk w 11 a xs.length (xs.map stR)
  ok : ∀ x ∈ xs, CGok w x.2
theorem StIn.below {w w' : World} {a : Option Addr} {xs : List (Nat × CG)} (h : StIn w a xs) (hb : Below w.heap.size w w') : StIn w' a xs := ⟨h.rows.below' hb, fun x hx => (h.ok x hx).below hb⟩
theorem StIn.cells {w : World} {a : Option Addr} {xs : List (Nat × CG)} (h : StIn w a xs) {i : Nat} (hi : i < xs.length) : ∃ b off, a = some ⟨b, off, none⟩ ∧ ∀ j (hj : j < 11), w.cell? ⟨b, off + i * 11 + j, none⟩ = (stR xs[i])[j]? := by
  obtain ⟨_, b, off, e, hc⟩ := h.rows.row i (by simpa using hi)
  refine ⟨b, off, e, fun j hj => ?_⟩
  have hl : ((xs.map stR)[i]'(by simpa using hi)).length = 11 := stR_k xs _ (List.getElem_mem _)
  rw [hc j (by omega)]
  simp only [List.getElem_map]
  rw [List.getElem?_eq_getElem]
theorem StepsP.st {l : BL} {w w' : World} {e : Ending} (h : StepsP l w e w') (hl : l.length ≤ 1000000) : ∃ a c xs, e = .returned (.tuple #[.slice a xs.length c, .int .i64 (stepsC l).2.1, .int .i64 ((stepsC l).2.2 : Nat)]) ∧ StIn w' a xs ∧ xs.map (fun x => (x.1, pcOf x.2)) = (stepsC l).1 ∧ Below w.heap.size w w' := by
  obtain ⟨⟨v, xs, rfl, ho, hm, hk⟩, hb⟩ := h
  obtain ⟨a, c, rfl, hr⟩ := own_steps ho
  exact ⟨a, c, xs, rfl, ⟨hr, fun x hx => by
    obtain ⟨h1, h2, h3, _⟩ := hk x hx
    exact h1.ok h2 hl (by omega)⟩, hm, hb⟩
theorem cel_byt {w : World} {a : Option Addr} {n : Nat} {l : BL} (h : Cel w a n (l.map B8)) : Byt w a n l :=
  ⟨by simpa using h.hlen, fun i hi => by
    obtain ⟨b, off, e, hc⟩ := h.cell i (by rw [List.length_map]; exact hi)
    exact ⟨b, off, e, by rw [hc, List.getElem_map]; rfl⟩⟩
theorem two_of {α β : Type} {f : α → β} {xs : List α} {p q : β} (h : xs.map f = [p, q]) : ∃ x y, xs = [x, y] ∧ f x = p ∧ f y = q := by
  match xs, h with
  | [x, y], h => simp at h; exact ⟨x, y, rfl, h.1, h.2⟩

set_option maxRecDepth 100000 in
set_option maxHeartbeats 4000000 in
theorem works25_any (w : World) (hs : Sizes w) (hg : 0 < w.heap.size) :
    Calls Tryd.prog 11 #[] w fun e w' => e = .returned (.bool true) ∧ Below w.heap.size w w' := by
  have HF := hid (show Calls Tryd.prog 16 #[.agg #[.int .u8 10, .int .u64 1, .int .u64 0, .int .u64 0, .int .u64 0, .int .u64 0, .string { data := #[97] }, .slice none 0 0, .slice none 0 0, .slice none 0 0]] w (FormP xWk w) from form25_any xWk w hs (xWk_ok w) (by decide) hg)
  have HST := hid (fun (a : Option Addr) (c : Nat) (w' : World) (hb : Below w.heap.size w w') (hB : Byt w' a 15 lWk) (hc : 15 ≤ c) => show Calls Tryd.prog 24 #[.slice a 15 c] w' (StepsP lWk w') from steps25_any a c lWk w' (hs.belowB hb hg) (Nat.lt_of_lt_of_le hg hb.size) hB (by decide) hc)
  clear hs
  go_enter Tryd.func11, Tryd.ntmps11
  go_wp2_with fail
  refine HF.out.mono ?_
  rintro e' w1 ⟨hb1, hif⟩
  rw [if_pos xWk_chk, xWk_form] at hif
  obtain ⟨v1, rfl, ho1⟩ := hif
  obtain ⟨a1, c1, rfl⟩ := own_hd2 ho1
  have HB1 := hid hb1
  obtain ⟨w2, hw2⟩ : ∃ w2, w2 = w1.alloc (.cells #[.int .u8 7] 5) := ⟨_, rfl⟩
  have hb2 : Below w1.heap.size w1 w2 := by rw [hw2]; exact bal _
  have HO2 := hid (show w2.ownsRow w.heap.size 5 1 (.slice (some ⟨w1.heap.size, 0, none⟩) 1 1) 1 ([(7 : UInt8)].map B8) from by
    rw [hw2]
    exact own_from (own_kind 7 (by decide) w1) hb1.size)
  have HC2 := hid (show Cel w2 a1 12 (([10, 1, 0, 97, 1, 0, 0, 0, 0, 0, 0, 0] : BL).map B8) from by
    obtain ⟨a, c, e, hc, _⟩ := own_cel ho1
    cases e
    exact hc.below' hb2)
  have HN1 := hid (show a1 = none → c1 = 0 from by
    obtain ⟨a, c, e, hc, hn, _⟩ := own_cel ho1
    cases e
    exact hn)
  have HB2 := hid (hb1.trans (hb2.mono hb1.size))
  have HZ2 := hid (HB2.out.size)
  have HW2 := hid hw2
  clear ho1 hb1 hb2 hw2
  have HKD := hid (fun (w3 : World) (a3 : Option Addr) (c3 : Nat) (h : w3.ownsRow w.heap.size 5 1 (.slice a3 13 c3) 13 ([(7 : UInt8)].map B8 ++ ([10, 1, 0, 97, 1, 0, 0, 0, 0, 0, 0, 0] : BL).map B8)) => own_below h (@bal w3 (.cells #[.int .u8 1, .int .u8 2] 5)))
  have HCD := hid (fun (w3 : World) => show Cel (w3.alloc (.cells #[.int .u8 1, .int .u8 2] 5)) (some ⟨w3.heap.size, 0, none⟩) 2 (([1, 2] : BL).map B8) from Row.celB (Row.new w3 5 (([1, 2] : BL).map B8)))
  have HBD := hid (fun (w3 : World) (h : Below w.heap.size w w3) => show Below w.heap.size w (w3.alloc (.cells #[.int .u8 1, .int .u8 2] 5)) from bal2' h _)
  go_wp2_with (first | (at_builtin; rw [← HW2.out]; refine wpList_ap1 Tryd.underlying24 infoBy rfl rfl _ _ rfl w.heap.size (.slice (some ⟨w1.heap.size, 0, none⟩) 1 1) 1 ([(7 : UInt8)].map B8) (([10, 1, 0, 97, 1, 0, 0, 0, 0, 0, 0, 0] : BL).map B8) rfl a1 12 c1 rfl HO2.out HC2.out (b8_ones _) HN1.out (by decide) (by decide) HZ2.out ?_; intro v3 w3 hown hgrow hb3; obtain ⟨a3, c3, rfl⟩ := own_hd2 hown; have HO3 := hid (HKD.out w3 a3 c3 hown); have HB3 := hid (HBD.out w3 (HB2.out.trans hb3)); have HC3 := hid (HCD.out w3); clear hown hgrow hb3) | (at_builtin; refine wpList_ap1 Tryd.underlying24 infoBy rfl rfl _ _ rfl w.heap.size (.slice a3 13 c3) 13 ([(7 : UInt8)].map B8 ++ ([10, 1, 0, 97, 1, 0, 0, 0, 0, 0, 0, 0] : BL).map B8) (([1, 2] : BL).map B8) rfl (some ⟨w3.heap.size, 0, none⟩) 2 2 rfl HO3.out HC3.out (b8_ones _) (fun h => by cases h) (by decide) (by decide) HB3.out.size ?_; intro v4 w4 hown hgrow hb4; have HO4 := hid hown; have HB4 := hid (HB3.out.trans hb4); obtain ⟨a4, c4, rfl⟩ := own_hd2 hown; clear hown hgrow hb4))
  obtain ⟨a5, c5, e5, hc5, hn5, hle5, _⟩ := own_cel HO4.out
  cases e5
  have hm : ([(7 : UInt8)].map B8 ++ ([10, 1, 0, 97, 1, 0, 0, 0, 0, 0, 0, 0] : BL).map B8 ++ ([1, 2] : BL).map B8) = lWk.map B8 := rfl
  rw [hm] at hc5
  refine (HST.out a4 c4 w4 HB4.out (cel_byt hc5) hle5).mono ?_
  intro e' w5 h5
  obtain ⟨a6, c6, xs, rfl, hst, hmap, hb5⟩ := h5.st (by decide)
  obtain ⟨q1, q2⟩ := lWk_steps
  have hm2 : xs.map (fun x => (x.1, (pcOf x.2).path, (pcOf x.2).kind)) = [(7, [97], 10), (1, [], 2)] := by
    rw [← q2, ← hmap, List.map_map]
    rfl
  obtain ⟨x, y, rfl, hx, hy⟩ := two_of hm2
  obtain ⟨b, off, rfl, k0⟩ := hst.cells (i := 0) (Nat.zero_lt_succ _)
  obtain ⟨b', off', e, k1⟩ := hst.cells (i := 1) (Nat.lt_succ_self _)
  cases e
  have p0 : w5.cell? ⟨b, off, none⟩ = some (.int .i64 7) := by
    have := k0 0 (by decide)
    simp only [Nat.zero_mul, Nat.add_zero, List.getElem_cons_zero] at this
    rw [this]
    have : x.1 = 7 := (Prod.mk.inj hx).1
    simp [this]
  have p1 : w5.cell? ⟨b, off + 1 + 6, none⟩ = some (.string (ba [97])) := by
    have := k0 7 (by decide)
    simp only [Nat.zero_mul, Nat.add_zero, List.getElem_cons_zero] at this
    rw [show off + 1 + 6 = off + 7 by omega, this]
    have : x.2.path = [97] := (Prod.mk.inj (Prod.mk.inj hx).2).1
    simp [this]
  have p2 : w5.cell? ⟨b, off + 1 * 11 + 1, none⟩ = some (.int .u8 2) := by
    have := k1 1 (by decide)
    simp only [List.getElem_cons_succ, List.getElem_cons_zero] at this
    rw [this]
    have : y.2.kind = 2 := (Prod.mk.inj (Prod.mk.inj hy).2).2
    simp [this]
  have HB5 := hid (HB4.out.trans (hb5.mono HB4.out.size))
  have hba : (ba [97]).toList = [97] := by have h := ba_beq [97] [97]; simpa using h
  rw [show (stepsC lWk).2.1 = 0 by rw [q1], show (stepsC lWk).2.2 = 0 by rw [q1]]
  clear hst hmap hb5 q1 q2 hm2 hx hy k0 k1 h5
  go_wp2_with fail
  go_ret
  exact ⟨rfl, HB5.out⟩
def LargeL (n : Nat) (w : World) (e : Ending) (w' : World) : Prop := ∃ b, e = .returned (.bool b) ∧ (b = false → n ≤ 131072) ∧ w' = w

set_option maxRecDepth 100000 in
set_option maxHeartbeats 4000000 in
theorem large25_any (a : Option Addr) (cap : Nat) (ds : List BL) (w : World) (hB : Cel w a ds.length (strs ds)) (hl : ds.length ≤ 8796093022207) (ht : ∀ p ∈ ds, p.length ≤ 140737488351232) :
    Calls Tryd.prog 27 #[.slice a ds.length cap] w (LargeL ds.length w) := by
  have HB := hid hB
  have HT := hid ht
  clear hB ht
  go_enter Tryd.func27, Tryd.ntmps27
  go_wp2_with fail
  go_loopw [3, 4] (fun x i wr => ∃ k n : Nat, k ≤ ds.length ∧ i = .int .i64 k ∧ x = .int .i64 n ∧ ds.length ≤ n ∧ n ≤ ds.length + k * 262144 ∧ n ≤ 8796093022207 + 400000 ∧ wr = w) (fun _ i _ => ds.length - (intOf i).toNat)
  case atStart => exact ⟨0, ds.length, Nat.zero_le _, rfl, rfl, Nat.le_refl _, by omega, by omega, rfl⟩
  case round =>
    obtain ⟨k, n, hk, rfl, rfl, hn, hn2, hn3, rfl⟩ := hrel
    by_cases hlt : k < ds.length
    · have d1 : decide ((k : Int) < (ds.length : Int)) = true := by simp; omega
      have d1n : decide (k < ds.length) = true := by simp; omega
      by_cases hs : n ≤ 131072
      · have d2 : decide ((n : Int) ≤ 131072) = true := by simp; omega
        have d2n : decide (n ≤ 131072) = true := by simp; omega
        obtain ⟨b, off, rfl, hc⟩ := HB.out.some_of (by rw [strsS_len]; omega)
        have hx := strs_at hc hlt
        have hz : ((ba ds[k]).size : Int) = (ds[k].length : Int) := by rw [ba_size]
        have htl := HT.out _ (List.getElem_mem hlt)
        generalize ds[k] = t at *
        obtain ⟨m, hm⟩ : ∃ m : Nat, m = min t.length 262144 := ⟨_, rfl⟩
        have hmn : min (t.length : Int) 262144 = (m : Int) := by omega
        have hm2 : m ≤ 262144 := by omega
        clear hm hc
        go_wp2_with fail
        go_roundw
        case rel => exact ⟨k + 1, n + m, by omega, by go_num, by go_num, by omega, by omega, by omega, by trivial⟩
        case measure => simp [intOf]; omega
      · have d2 : decide ((n : Int) ≤ 131072) = false := by simp; omega
        have d2n : decide (n ≤ 131072) = false := by simp; omega
        have d3 : decide ((131072 : Int) < (n : Int)) = true := by simp; omega
        have d3n : decide (131072 < n) = true := by simp; omega
        go_wp2_with fail
        go_ret
        exact ⟨_, rfl, (fun h => by cases h), rfl⟩
    · have d1 : decide ((k : Int) < (ds.length : Int)) = false := by simp; omega
      have d1n : decide (k < ds.length) = false := by simp; omega
      by_cases hs : n ≤ 131072
      · have d3 : decide ((131072 : Int) < (n : Int)) = false := by simp; omega
        have d3n : decide (131072 < n) = false := by simp; omega
        have HN := hid (show ds.length ≤ 131072 by omega)
        go_wp2_with fail
        go_ret
        exact ⟨_, rfl, fun _ => HN.out, rfl⟩
      · have d3 : decide ((131072 : Int) < (n : Int)) = true := by simp; omega
        have d3n : decide (131072 < n) = true := by simp; omega
        go_wp2_with fail
        go_ret
        exact ⟨_, rfl, (fun h => by cases h), rfl⟩
structure NotL (x : CG) : Prop where
  an : x.argv.length ≤ 131072
  en : x.env.length ≤ 131072
  pn : x.path.length ≤ 131072
  yn : x.bytes.length ≤ 131072
def LargeC (x : CG) (w : World) (e : Ending) (w' : World) : Prop := ∃ b, e = .returned (.bool b) ∧ (b = false → NotL x) ∧ Below w.heap.size w w'
theorem largeC_yes {x : CG} {w w' : World} (h : Below w.heap.size w w') : LargeC x w (.returned (.bool true)) w' := ⟨true, rfl, (fun e => by cases e), h⟩

set_option maxRecDepth 100000 in
set_option maxHeartbeats 4000000 in
theorem largeC_any (x : CG) (w : World) (hx : CGok w x) :
    Calls Tryd.prog 10 #[cgV x] w (LargeC x w) := by
  have hbox := box_cg x
  obtain ⟨w1, hw1⟩ : ∃ w1, w1 = w.alloc (.cells (cgC x).toArray 26) := ⟨_, rfl⟩
  have HC := hid (show CBx w w1 w.heap.size x by rw [hw1]; exact CBx.new hx)
  have HW := hid hw1
  have HX := hid hx
  have HL := hid HC.out.low
  clear hw1 hx
  obtain ⟨c0, c1, c2, c3, c4, c5, c6, c7, c8, c9⟩ := HC.out.cells
  have hz : ((ba x.path).size : Int) = (x.path.length : Int) := by rw [ba_size]
  have HA := hid (large25_any x.va x.vc x.argv w1 HC.out.ok.argv HX.out.an HX.out.at')
  have HE := hid (large25_any x.ea x.ec x.env w1 HC.out.ok.env HX.out.en HX.out.et)
  go_enter Tryd.func10, Tryd.ntmps10
  go_wp2_with fail
  rw [← HW.out]
  refine HA.out.mono ?_
  rintro e' w2 ⟨ba1, rfl, h1, rfl⟩
  cases ba1
  · have H1 := hid (h1 rfl)
    clear h1
    go_wp2_with fail
    refine HE.out.mono ?_
    rintro e' w3 ⟨be1, rfl, h2, rfl⟩
    cases be1
    · have H2 := hid (h2 rfl)
      clear h2
      by_cases hp : 131072 < x.path.length
      · have d1 : decide ((131072 : Int) < (x.path.length : Int)) = true := by simp; omega
        go_wp2_with fail
        go_ret
        exact largeC_yes HL.out
      · have d1 : decide ((131072 : Int) < (x.path.length : Int)) = false := by simp; omega
        have H3 := hid hp
        by_cases hy : 131072 < x.bytes.length
        · have d2 : decide ((131072 : Int) < (x.bytes.length : Int)) = true := by simp; omega
          go_wp2_with fail
          go_ret
          exact largeC_yes HL.out
        · have d2 : decide ((131072 : Int) < (x.bytes.length : Int)) = false := by simp; omega
          have H4 := hid hy
          clear hp hy
          go_wp2_with fail
          go_ret
          exact ⟨false, rfl, fun _ => ⟨H1.out, H2.out, by have := H3.out; omega, by have := H4.out; omega⟩, HL.out⟩
    · clear h2
      go_wp2_with fail
      go_ret
      exact largeC_yes HL.out
  · clear h1
    go_wp2_with fail
    go_ret
    exact largeC_yes HL.out
end Go.Proofs.YtcbkikioapdbbaaDoor
namespace Go.Proofs.YtcbkikioapdbbaaDoor
open Go.RowKit Go.Sort
attribute [local go_sem] Oper.semAt_some

structure CopyC (x : CG) (w : World) (e : Ending) (w' : World) : Prop where
  ex : ∃ y : CG, e = .returned (cgV y) ∧ pcOf y = pcOf x ∧ CGok w' y ∧ Ap.OwnB w' w.heap.size (.slice y.ya y.bytes.length y.yc) y.bytes
  low : Below w.heap.size w w'

set_option maxRecDepth 100000 in
set_option maxHeartbeats 4000000 in
theorem copyC_any (x : CG) (w : World) (hx : CGok w x) (hn : NotL x) :
    Calls Tryd.prog 12 #[cgV x] w (CopyC x w) := by
  have hbox := box_cg x
  obtain ⟨w1, hw1⟩ : ∃ w1, w1 = (w.alloc (.cells (cgC x).toArray 26)).alloc (.cells #[.int .u8 0, .int .u64 0, .int .u64 0, .int .u64 0, .int .u64 0, .int .u64 0, .string { data := #[] }, .slice none 0 0, .slice none 0 0, .slice none 0 0] 26) := ⟨_, rfl⟩
  have HB1 := hid (show Below w.heap.size w w1 by rw [hw1]; exact bal2' (bal _) _)
  have hsz1 : w1.heap.size = w.heap.size + 2 := by rw [hw1, World.size_alloc, World.size_alloc]
  have HX1 := hid (show Row w1 w.heap.size 26 (cgC x) by rw [hw1]; exact (Row.new w _ _).alloc _)
  have HR1 := hid (show Row w1 (w.heap.size + 1) 26 (cgC (cgOf (pc0 0))) by
    rw [hw1]
    have h := Row.new (w.alloc (.cells (cgC x).toArray 26)) 26 (cgC (cgOf (pc0 0)))
    rw [World.size_alloc] at h; exact h)
  have HW := hid hw1
  have HX := hid hx
  have HN := hid hn
  have HSZ1 := hid hsz1
  have c7 : w1.cell? ⟨w.heap.size, 7, none⟩ = some (.slice x.va x.argv.length x.vc) := HX1.out.cell' 7
  have hl1 := HX1.out.lt
  have z7 := HX1.out.frozen 7
  clear hw1 hx hn hsz1
  go_enter Tryd.func12, Tryd.ntmps12
  go_wp2_with fail
  rw [← HW.out]
  refine (copyTexts_any x.va x.argv.length x.vc x.argv w1 ((HX.out.below HB1.out).argv) (by have := HN.out.an; omega)).mono ?_
  rintro e' w2 ⟨v7, rfl, ho7, hb2⟩
  obtain ⟨a7, n7, rfl⟩ := own_hd2 ho7
  have HB2 := hid (HB1.out.trans (hb2.mono HB1.out.size))
  have HX2 := hid (HX1.out.below hb2 HX1.out.lt)
  have HR2 := hid (HR1.out.below hb2 HR1.out.lt)
  have HO7 := hid (own_from (base' := w.heap.size + 2) ho7 (by rw [HSZ1.out]; exact Nat.le_refl _))
  have HS2 := hid (show w.heap.size + 2 ≤ w2.heap.size by have := hb2.size; have := HSZ1.out; omega)
  clear hb2 ho7 c7 hl1 z7
  have c7 : w2.cell? ⟨w.heap.size, 7, none⟩ = some (.slice x.va x.argv.length x.vc) := HX2.out.cell' 7
  have c8 : w2.cell? ⟨w.heap.size, 8, none⟩ = some (.slice x.ea x.env.length x.ec) := HX2.out.cell' 8
  have hl2 := HX2.out.lt
  have z7 := HX2.out.frozen 7
  go_wp2_with fail
  obtain ⟨w3, hw3⟩ : ∃ w3, w3 = w2.setCell ⟨w.heap.size, 7, none⟩ (.slice a7 x.argv.length n7) := ⟨_, rfl⟩
  have HX3 := hid (show Row w3 w.heap.size 26 (cgC { x with va := a7, vc := n7 }) by rw [hw3]; exact HX2.out.set 7 _)
  have HR3 := hid (show Row w3 (w.heap.size + 1) 26 (cgC (cgOf (pc0 0))) by rw [hw3]; exact HR2.out.other (by simp only [ne_eq]; omega) _)
  have HB3 := hid (show Below w.heap.size w w3 by rw [hw3]; exact bset HB2.out (Nat.le_refl _) _)
  have HO73 := hid (show w3.ownsRow (w.heap.size + 2) 9 1 (.slice a7 x.argv.length n7) x.argv.length (strs x.argv) by rw [hw3]; exact own_setLow HO7.out (by omega) _)
  have HS3 := hid (show w.heap.size + 2 ≤ w3.heap.size by rw [hw3, size_set1]; exact HS2.out)
  rw [← hw3]
  clear hw3 c7 c8 hl2 z7
  refine (copyTexts_any x.ea x.env.length x.ec x.env w3 ((HX.out.below HB3.out).env) (by have := HN.out.en; omega)).mono ?_
  rintro e' w4 ⟨v8, rfl, ho8, hb4⟩
  obtain ⟨a8, n8, rfl⟩ := own_hd2 ho8
  have HB4 := hid (HB3.out.trans (hb4.mono HB3.out.size))
  have HX4 := hid (HX3.out.below hb4 HX3.out.lt)
  have HR4 := hid (HR3.out.below hb4 HR3.out.lt)
  have HO74 := hid (own_below HO73.out hb4)
  have HO8 := hid (own_from (base' := w.heap.size + 2) ho8 HS3.out)
  have HS4 := hid (Nat.le_trans HS3.out hb4.size)
  clear hb4 ho8
  have c8 : w4.cell? ⟨w.heap.size, 8, none⟩ = some (.slice x.ea x.env.length x.ec) := HX4.out.cell' 8
  have c9 : w4.cell? ⟨w.heap.size, 9, none⟩ = some (.slice x.ya x.bytes.length x.yc) := HX4.out.cell' 9
  have hl4 := HX4.out.lt
  have z8 := HX4.out.frozen 8
  go_wp2_with fail
  obtain ⟨w5, hw5⟩ : ∃ w5, w5 = w4.setCell ⟨w.heap.size, 8, none⟩ (.slice a8 x.env.length n8) := ⟨_, rfl⟩
  have HX5 := hid (show Row w5 w.heap.size 26 (cgC { x with va := a7, vc := n7, ea := a8, ec := n8 }) by rw [hw5]; exact HX4.out.set 8 _)
  have HR5 := hid (show Row w5 (w.heap.size + 1) 26 (cgC (cgOf (pc0 0))) by rw [hw5]; exact HR4.out.other (by simp only [ne_eq]; omega) _)
  have HB5 := hid (show Below w.heap.size w w5 by rw [hw5]; exact bset HB4.out (Nat.le_refl _) _)
  have HO75 := hid (show w5.ownsRow (w.heap.size + 2) 9 1 (.slice a7 x.argv.length n7) x.argv.length (strs x.argv) by rw [hw5]; exact own_setLow HO74.out (by omega) _)
  have HO85 := hid (show w5.ownsRow (w.heap.size + 2) 9 1 (.slice a8 x.env.length n8) x.env.length (strs x.env) by rw [hw5]; exact own_setLow HO8.out (by omega) _)
  have HS5 := hid (show w.heap.size + 2 ≤ w5.heap.size by rw [hw5, size_set1]; exact HS4.out)
  rw [← hw5]
  clear hw5 c8 c9 hl4 z8
  refine (Ap.copyBytes_any x.ya x.bytes.length x.yc x.bytes w5 ((HX.out.below HB5.out).bytes) (by have := HX.out.yn; omega)).mono ?_
  rintro e' w6 ⟨v9, rfl, hnb, hb6⟩
  have ho9 := hnb.own (by have := HX.out.yn; unfold maxLen; omega)
  obtain ⟨a9, n9, rfl⟩ := own_hd2 ho9
  have HB6 := hid (HB5.out.trans (hb6.mono HB5.out.size))
  have HX6 := hid (HX5.out.below hb6 HX5.out.lt)
  have HR6 := hid (HR5.out.below hb6 HR5.out.lt)
  have HO76 := hid (own_below HO75.out hb6)
  have HO86 := hid (own_below HO85.out hb6)
  have HO9 := hid (own_from (base' := w.heap.size + 2) ho9 HS5.out)
  clear hb6 ho9 hnb
  obtain ⟨y, hy⟩ : ∃ y : CG, y = { x with va := a7, vc := n7, ea := a8, ec := n8, ya := a9, yc := n9 } := ⟨_, rfl⟩
  have HPY := hid (show pcOf y = pcOf x by rw [hy]; rfl)
  have HOK := hid (show ∀ (W : World), W.ownsRow (w.heap.size + 2) 9 1 (.slice a7 x.argv.length n7) x.argv.length (strs x.argv) → W.ownsRow (w.heap.size + 2) 9 1 (.slice a8 x.env.length n8) x.env.length (strs x.env) → Ap.OwnB W (w.heap.size + 2) (.slice a9 x.bytes.length n9) x.bytes → CGok W y ∧ Ap.OwnB W w.heap.size (.slice y.ya y.bytes.length y.yc) y.bytes from fun W h7 h8 h9 => by
    obtain ⟨b7, m7, q7, k7, i7, _⟩ := own_cel h7
    obtain ⟨b8, m8, q8, k8, i8, _⟩ := own_cel h8
    obtain ⟨b9, m9, q9, k9, i9, _⟩ := own_cel h9
    cases q7; cases q8; cases q9
    rw [hy]
    exact ⟨{ HX.out with argv := k7, env := k8, bytes := cel_byt k9, ani := i7, eni := i8, yni := i9 }, own_from h9 (by omega)⟩)
  have HV9 := hid (show Value.slice y.ya y.bytes.length y.yc = .slice a9 x.bytes.length n9 by rw [hy])
  have HY7 := hid (show (cgC y) = (cgC { x with va := a7, vc := n7, ea := a8, ec := n8 }).set 9 (.slice a9 x.bytes.length n9) by rw [hy]; rfl)
  have hyk : y.kind = x.kind ∧ y.a = x.a ∧ y.b = x.b ∧ y.c = x.c ∧ y.d = x.d ∧ y.e = x.e ∧ y.path = x.path := by rw [hy]; exact ⟨rfl, rfl, rfl, rfl, rfl, rfl, rfl⟩
  obtain ⟨k0, k1, k2, k3, k4, k5, k6, k7, k8, k9⟩ := HX6.out.ten
  obtain ⟨r0, r1, r2, r3, r4, r5, r6, r7, r8, r9⟩ := HR6.out.ten
  obtain ⟨z0, z1, z2, z3, z4, z5, z6, z7, z8, z9⟩ := HR6.out.tenF
  have zx := HX6.out.frozen 9
  have hlx := HX6.out.lt
  have hlr := HR6.out.lt
  clear hyk
  go_wp2_with fail
  generalize hW10 : World.setCell _ ⟨w.heap.size + 1, 9, none⟩ _ = W10
  have hr : Row W10 (w.heap.size + 1) 26 (cgC y) := by
    rw [← hW10, hy]
    exact Row.set10 (HR6.out.other (a := ⟨w.heap.size, 9, none⟩) (by simp only [ne_eq]; omega) _) { x with va := a7, vc := n7, ea := a8, ec := n8, ya := a9, yc := n9 }
  have hb : Below w.heap.size w W10 := by rw [← hW10]; exact set10 (bset HB6.out (Nat.le_refl _) _) (w.heap.size + 1) (by omega) _ _ _ _ _ _ _ _ _ _
  have hok : CGok W10 y ∧ Ap.OwnB W10 w.heap.size (.slice y.ya y.bytes.length y.yc) y.bytes := by
    rw [← hW10]
    exact HOK.out _ (set10own (own_setLow HO76.out (by omega) _) (w.heap.size + 1) (by omega) _ _ _ _ _ _ _ _ _ _) (set10own (own_setLow HO86.out (by omega) _) (w.heap.size + 1) (by omega) _ _ _ _ _ _ _ _ _ _) (set10own (own_setLow HO9.out (by omega) _) (w.heap.size + 1) (by omega) _ _ _ _ _ _ _ _ _ _)
  clear hW10 k0 k1 k2 k3 k4 k5 k6 k7 k8 k9 r0 r1 r2 r3 r4 r5 r6 r7 r8 r9 z0 z1 z2 z3 z4 z5 z6 z7 z8 z9
  obtain ⟨k0, k1, k2, k3, k4, k5, k6, k7, k8, k9⟩ := hr.ten
  refine bodyPost_ret (v := cgV y) (by simp [results, Tryd.results12, go_sem, k0, k1, k2, k3, k4, k5, k6, k7, k8, k9]) rfl ⟨⟨y, rfl, HPY.out, hok.1, hok.2⟩, hb⟩
end Go.Proofs.YtcbkikioapdbbaaDoor
namespace Go.Proofs.YtcbkikioapdbbaaDoor
open Go.RowKit Go.Sort
attribute [local go_sem] Oper.semAt_some

theorem Row.ten_rg {w : World} {g : Nat} {E : TypeId} {x : CG} (h : Row w g E (cgC x)) : (∀ d os, (rg w d os).cell? ⟨g, 0, none⟩ = some (.int .u8 x.kind)) ∧ (∀ d os, (rg w d os).cell? ⟨g, 1, none⟩ = some (.int .u64 x.a)) ∧ (∀ d os, (rg w d os).cell? ⟨g, 2, none⟩ = some (.int .u64 x.b)) ∧ (∀ d os, (rg w d os).cell? ⟨g, 3, none⟩ = some (.int .u64 x.c)) ∧ (∀ d os, (rg w d os).cell? ⟨g, 4, none⟩ = some (.int .u64 x.d)) ∧ (∀ d os, (rg w d os).cell? ⟨g, 5, none⟩ = some (.int .u64 x.e)) ∧ (∀ d os, (rg w d os).cell? ⟨g, 6, none⟩ = some (.string (ba x.path))) ∧ (∀ d os, (rg w d os).cell? ⟨g, 7, none⟩ = some (.slice x.va x.argv.length x.vc)) ∧ (∀ d os, (rg w d os).cell? ⟨g, 8, none⟩ = some (.slice x.ea x.env.length x.ec)) ∧ (∀ d os, (rg w d os).cell? ⟨g, 9, none⟩ = some (.slice x.ya x.bytes.length x.yc)) := by
  obtain ⟨h0, h1, h2, h3, h4, h5, h6, h7, h8, h9⟩ := h.ten
  exact ⟨rg_cell h0, rg_cell h1, rg_cell h2, rg_cell h3, rg_cell h4, rg_cell h5, rg_cell h6, rg_cell h7, rg_cell h8, rg_cell h9⟩
theorem Sizes.lt {w : World} (hs : Sizes w) : 0 < w.heap.size := World.block_lt_of_cell? w _ hs.c0
/-- Equal calls are told the same. -/
theorem same_eq {x y : CG} (w : World) (hx : CGok w x) (hy : CGok w y) (h : pcOf x = pcOf y) : Calls Tryd.prog 15 #[cgV x, cgV y] w fun e w' => e = .returned (.bool true) ∧ Below w.heap.size w w' :=
  (same25_any x y w hx hy).mono fun e w' ⟨b, h1, h2, h3⟩ => ⟨by rw [h1, h2.2 h], h3⟩
theorem chkC_eq {x y : CG} (h : pcOf y = pcOf x) : chkC y = chkC x := by rw [chk_pc, chk_pc, h]
theorem path_eq {x y : CG} (h : pcOf y = pcOf x) : y.path = x.path := by
  have := congrArg PC.path h
  exact this

set_option maxRecDepth 100000 in
set_option maxHeartbeats 4000000 in
theorem callsChecks_walk (x : CG) (w : World) (hs : Sizes w) (hx : CGok w x) :
    Calls Tryd.prog 3 #[cgV x] w fun e w' => e = .returned (.bool true) ∧ Below w.heap.size w w' := by
  have hbox := box_cg x
  obtain ⟨w1, hw1⟩ : ∃ w1, w1 = w.alloc (.cells (cgC x).toArray 26) := ⟨_, rfl⟩
  have HC := hid (show CBx w w1 w.heap.size x by rw [hw1]; exact CBx.new hx)
  have HW := hid hw1
  have HX := hid hx
  have HS := hid hs
  have HG := hid hs.lt
  clear hw1 hx hs
  obtain ⟨c0, c1, c2, c3, c4, c5, c6, c7, c8, c9⟩ := HC.out.cells
  go_enter Tryd.func3, Tryd.ntmps3
  go_wp2_with fail
  rw [← HW.out]
  refine (largeC_any x w1 HC.out.ok).mono ?_
  rintro e' w2 ⟨bl, rfl, hbl, hb2⟩
  have HC2 := hid (HC.out.below hb2)
  clear c0 c1 c2 c3 c4 c5 c6 c7 c8 c9 hb2
  cases bl
  · have HN := hid (hbl rfl)
    clear hbl
    obtain ⟨c0, c1, c2, c3, c4, c5, c6, c7, c8, c9⟩ := HC2.out.cells
    go_wp2_with fail
    refine (copyC_any x w2 HC2.out.ok HN.out).mono ?_
    rintro e' w3 ⟨⟨y, rfl, hpy, hoy, _⟩, hb3⟩
    have HC3 := hid (HC2.out.below hb3)
    obtain ⟨w4, hw4⟩ : ∃ w4, w4 = w3.alloc (.cells (cgC y).toArray 26) := ⟨_, rfl⟩
    have HC4 := hid (show CBx w w4 w.heap.size x by rw [hw4]; exact HC3.out.below (bal _))
    have HY4 := hid (show CBx w w4 w3.heap.size y by rw [hw4]; exact ⟨Row.new w3 _ _, hoy.below (bal _), HC3.out.low.alloc HC3.out.low.size _⟩)
    have HW4 := hid hw4
    have HPY := hid hpy
    have HPL := hid (show x.path.length ≤ 1000000 by have := HN.out.pn; omega)
    clear c0 c1 c2 c3 c4 c5 c6 c7 c8 c9 hb3 hoy hpy hw4
    have cc1 := hid (fun (d : Nat) (os : Array Obj) => rg_call (v := .int .i64 (chkC x)) ((check25_any y (rg w4 d os) (HY4.out.ok.below (rg_below w4 d os)) (by rw [path_eq HPY.out]; exact HPL.out)).mono fun e w' h => ⟨by rw [h.1, chkC_eq HPY.out], h.2⟩))
    have cc2 := hid (fun (d : Nat) (os : Array Obj) => rg_call (rcheck25_any x (rg w4 d os) (HC4.out.ok.below (rg_below w4 d os)) HPL.out))
    have cc3 := hid (fun (d : Nat) (os : Array Obj) => rg_call (same_eq (rg w4 d os) (HY4.out.ok.below (rg_below w4 d os)) (HC4.out.ok.below (rg_below w4 d os)) HPY.out))
    have cc4 := hid (fun (d : Nat) (os : Array Obj) => rg_call (works25_any (rg w4 d os) (HS.out.below (HC4.out.low.trans ((rg_below w4 d os).mono HC4.out.low.size))) (Nat.lt_of_lt_of_le HG.out (HC4.out.low.trans ((rg_below w4 d os).mono HC4.out.low.size)).size)))
    have hbe : (chkC x == chkC x) = true := by simp
    have HT1 := hid HY4.out.row.ten_rg
    have HT2 := hid HC4.out.row.ten_rg
    obtain ⟨p0, p1, p2, p3, p4, p5, p6, p7, p8, p9⟩ := HT1.out
    obtain ⟨q0, q1, q2, q3, q4, q5, q6, q7, q8, q9⟩ := HT2.out
    generalize chkC x = r at *
    clear HT1 HT2
    go_wp2_with fail
    rw [← HW4.out]
    refine region_rg (by kernel_rfl) (by kernel_rfl) ?_
    repeat (quiet_step (with_reducible (first | exact cc1.out _ _ | exact cc2.out _ _ | exact cc3.out _ _ | exact cc4.out _ _)))
    refine wpQuiet_nil ?_
    intro _ hw'
    obtain ⟨⟨dq, osq⟩, hw''⟩ := hw'
    subst hw''
    have HL := hid (HC4.out.low.trans ((rg_below w4 dq osq).mono HC4.out.low.size))
    clear p0 p1 p2 p3 p4 p5 p6 p7 p8 p9 q0 q1 q2 q3 q4 q5 q6 q7 q8 q9 cc1 cc2 cc3 cc4
    go_wp2_with fail
    go_ret
    exact ⟨rfl, HL.out⟩
  · have HL := hid HC2.out.low
    have HWK := hid (works25_any w2 (HS.out.below HL.out) (Nat.lt_of_lt_of_le HG.out HL.out.size))
    clear hbl
    go_wp2_with fail
    refine HWK.out.mono ?_
    rintro e' w5 ⟨rfl, hb5⟩
    have HL5 := hid (HL.out.trans (hb5.mono HL.out.size))
    go_wp2_with fail
    go_ret
    exact ⟨rfl, HL5.out⟩
end Go.Proofs.YtcbkikioapdbbaaDoor
namespace Go.Proofs.YtcbkikioapdbbaaDoor
open Go.RowKit Go.Sort
attribute [local go_sem] Oper.semAt_some

theorem StIn.ten {w : World} {a : Option Addr} {xs : List (Nat × CG)} (h : StIn w a xs) {i : Nat} (hi : i < xs.length) {b off : Nat} (ha : a = some ⟨b, off, none⟩) : w.cell? ⟨b, off + i * 11, none⟩ = some (.int .i64 xs[i].1) ∧ w.cell? ⟨b, off + i * 11 + 1, none⟩ = some (.int .u8 xs[i].2.kind) ∧ w.cell? ⟨b, off + i * 11 + 1 + 1, none⟩ = some (.int .u64 xs[i].2.a) ∧ w.cell? ⟨b, off + i * 11 + 1 + 2, none⟩ = some (.int .u64 xs[i].2.b) ∧ w.cell? ⟨b, off + i * 11 + 1 + 3, none⟩ = some (.int .u64 xs[i].2.c) ∧ w.cell? ⟨b, off + i * 11 + 1 + 4, none⟩ = some (.int .u64 xs[i].2.d) ∧ w.cell? ⟨b, off + i * 11 + 1 + 5, none⟩ = some (.int .u64 xs[i].2.e) ∧ w.cell? ⟨b, off + i * 11 + 1 + 6, none⟩ = some (.string (ba xs[i].2.path)) ∧ w.cell? ⟨b, off + i * 11 + 1 + 7, none⟩ = some (.slice xs[i].2.va xs[i].2.argv.length xs[i].2.vc) ∧ w.cell? ⟨b, off + i * 11 + 1 + 8, none⟩ = some (.slice xs[i].2.ea xs[i].2.env.length xs[i].2.ec) ∧ w.cell? ⟨b, off + i * 11 + 1 + 9, none⟩ = some (.slice xs[i].2.ya xs[i].2.bytes.length xs[i].2.yc) := by
  obtain ⟨b', off', e, hc⟩ := h.cells hi
  rw [ha] at e
  cases e
  exact ⟨hc 0 (by decide), hc 1 (by decide), hc 2 (by decide), hc 3 (by decide), hc 4 (by decide), hc 5 (by decide), hc 6 (by decide), hc 7 (by decide), hc 8 (by decide), hc 9 (by decide), hc 10 (by decide)⟩

set_option maxRecDepth 100000 in
set_option maxHeartbeats 4000000 in
theorem eq25_any (a c : Option Addr) (cap cap2 : Nat) (xs ys : List (Nat × CG)) (w : World) (hX : StIn w a xs) (hY : StIn w c ys) (he : xs.map (fun x => (x.1, pcOf x.2)) = ys.map (fun x => (x.1, pcOf x.2))) (hl : xs.length ≤ 1000000) :
    Calls Tryd.prog 26 #[.slice a xs.length cap, .slice c ys.length cap2] w fun e w' => e = .returned (.bool true) ∧ Below w.heap.size w w' := by
  have hlen : ys.length = xs.length := by have := congrArg List.length he; simpa using this.symm
  have HX := hid hX
  have HY := hid hY
  have HE := hid he
  have HLEN := hid hlen
  clear hX hY he
  rw [hlen]
  clear hlen
  have hne : ((xs.length : Int) != (xs.length : Int)) = false := by simp
  go_enter Tryd.func26, Tryd.ntmps26
  go_wp2_with fail
  go_loopw [5] (fun i wr => ∃ k : Nat, k ≤ xs.length ∧ i = .int .i64 k ∧ Below w.heap.size w wr) (fun i _ => xs.length - (intOf i).toNat)
  case atStart => exact ⟨0, Nat.zero_le _, rfl, Below.refl _ _⟩
  case round =>
    obtain ⟨k, hk, rfl, hb⟩ := hrel
    rename World => wA
    have HB := hid hb
    by_cases hlt : k < xs.length
    · have d1 : decide ((k : Int) < (xs.length : Int)) = true := by simp; omega
      have d1n : decide (k < xs.length) = true := by simp; omega
      have hlt2 : k < ys.length := by rw [HLEN.out]; exact hlt
      have hXr := HX.out.below hb
      have hYr := HY.out.below hb
      have heq : (xs[k].1, pcOf xs[k].2) = (ys[k].1, pcOf ys[k].2) := by
        have h1 : (xs.map (fun x => (x.1, pcOf x.2)))[k]? = (ys.map (fun x => (x.1, pcOf x.2)))[k]? := by rw [HE.out]
        rw [List.getElem?_map, List.getElem?_map, List.getElem?_eq_getElem hlt, List.getElem?_eq_getElem hlt2] at h1
        exact Option.some.inj h1
      obtain ⟨h1, h2⟩ := Prod.mk.inj heq
      obtain ⟨b1, o1, rfl, _⟩ := hXr.cells hlt
      obtain ⟨b2, o2, rfl, _⟩ := hYr.cells hlt2
      obtain ⟨x0, x1, x2, x3, x4, x5, x6, x7, x8, x9, x10⟩ := hXr.ten hlt rfl
      obtain ⟨y0, y1, y2, y3, y4, y5, y6, y7, y8, y9, y10⟩ := hYr.ten hlt2 rfl
      have hc1 := hXr.ok _ (List.getElem_mem hlt)
      have hc2 := hYr.ok _ (List.getElem_mem hlt2)
      rw [← h1] at y0
      clear hb hXr hYr h1 heq
      generalize xs[k].1 = pid at *
      generalize xs[k].2 = x at *
      generalize ys[k].2 = y at *
      have cc := hid (fun (d : Nat) (os : Array Obj) => rg_call (same_eq (rg wA d os) (hc1.below (rg_below wA d os)) (hc2.below (rg_below wA d os)) h2))
      have hpe : ((pid : Int) != (pid : Int)) = false := by simp
      replace x0 := rg_cell x0
      replace x1 := rg_cell x1
      replace x2 := rg_cell x2
      replace x3 := rg_cell x3
      replace x4 := rg_cell x4
      replace x5 := rg_cell x5
      replace x6 := rg_cell x6
      replace x7 := rg_cell x7
      replace x8 := rg_cell x8
      replace x9 := rg_cell x9
      replace x10 := rg_cell x10
      replace y0 := rg_cell y0
      replace y1 := rg_cell y1
      replace y2 := rg_cell y2
      replace y3 := rg_cell y3
      replace y4 := rg_cell y4
      replace y5 := rg_cell y5
      replace y6 := rg_cell y6
      replace y7 := rg_cell y7
      replace y8 := rg_cell y8
      replace y9 := rg_cell y9
      replace y10 := rg_cell y10
      clear h2 hc1 hc2
      go_wp2_with fail
      refine region_rg (by kernel_rfl) (by kernel_rfl) ?_
      repeat (quiet_step (with_reducible (first | exact cc.out _ _)))
      refine wpQuiet_nil ?_
      intro _ hw'
      obtain ⟨⟨dq, osq⟩, hw''⟩ := hw'
      subst hw''
      have HL := hid (HB.out.trans ((rg_below wA dq osq).mono HB.out.size))
      clear x0 x1 x2 x3 x4 x5 x6 x7 x8 x9 x10 y0 y1 y2 y3 y4 y5 y6 y7 y8 y9 y10 cc
      go_wp2_with fail
      go_roundw
      case rel => exact ⟨k + 1, by omega, by go_num, HL.out⟩
      case measure => simp [intOf]; omega
    · have d1 : decide ((k : Int) < (xs.length : Int)) = false := by simp; omega
      have d1n : decide (k < xs.length) = false := by simp; omega
      go_wp2_with fail
      go_ret
      exact ⟨rfl, HB.out⟩

set_option maxRecDepth 100000 in
set_option maxHeartbeats 4000000 in
theorem callsSteps_walk (a : Option Addr) (len cap : Nat) (l : BL) (w : World) (hs : Sizes w) (hB : Byt w a len l) (hlc : len ≤ cap) (hcm : cap ≤ maxLen) :
    Calls Tryd.prog 6 #[.slice a len cap] w fun e w' => e = .returned (.bool true) ∧ Below w.heap.size w w' := by
  obtain rfl := hB.hlen
  have HS := hid hs
  have HG := hid hs.lt
  have HB := hid hB
  have HLC := hid hlc
  have HWK := hid (fun (w' : World) (hb : Below w.heap.size w w') => works25_any w' (hs.below hb) (Nat.lt_of_lt_of_le hs.lt hb.size))
  have hm : cap ≤ 9223372036854775807 := hcm
  clear hs hB
  by_cases hlg : 65536 < l.length
  · have d1 : decide ((65536 : Int) < (l.length : Int)) = true := by simp; omega
    have d1n : decide (65536 < l.length) = true := by simp; omega
    go_enter Tryd.func6, Tryd.ntmps6
    go_wp2_with fail
    refine (HWK.out w (Below.refl _ _)).mono ?_
    rintro e' w5 ⟨rfl, hb5⟩
    have HL5 := hid hb5
    clear hb5
    go_wp2_with fail
    go_ret
    exact ⟨rfl, HL5.out⟩
  · have d1 : decide ((65536 : Int) < (l.length : Int)) = false := by simp; omega
    have d1n : decide (65536 < l.length) = false := by simp; omega
    have HLG := hid hlg
    go_enter Tryd.func6, Tryd.ntmps6
    go_wp2_with fail
    refine (roomy_any a l.length cap l w HB.out (by omega)).mono ?_
    rintro e' w2 ⟨rfl, hr2, hb2⟩
    have HR2 := hid hr2
    have HB2 := hid hb2
    have HBI := hid (show Byt w2 (some ⟨w.heap.size, 0, none⟩) l.length l from Row.byt hr2 rfl)
    clear hr2 hb2
    go_wp2_with fail
    refine (steps25_any (some ⟨w.heap.size, 0, none⟩) (l.length + 7) l w2 (HS.out.below HB2.out) (Nat.lt_of_lt_of_le HG.out HB2.out.size) HBI.out (by omega) (by omega)).mono ?_
    intro e' w3 h3
    obtain ⟨a3, c3, xs, rfl, hst3, hm3, hb3⟩ := h3.st (by omega)
    have HB3 := hid (HB2.out.trans (hb3.mono HB2.out.size))
    have HR3 := hid (HR2.out.below hb3 HR2.out.lt)
    have HST3 := hid hst3
    have HM3 := hid hm3
    clear h3 hst3 hm3 hb3
    go_wp2_with fail
    refine (rsteps25_any a cap l w3 (HS.out.below HB3.out) (Nat.lt_of_lt_of_le HG.out HB3.out.size) (HB.out.below' HB3.out) (by omega) HLC.out).mono ?_
    intro e' w4 h4
    obtain ⟨a4, c4, ys, rfl, hst4, hm4, hb4⟩ := h4.st (by omega)
    have HB4 := hid (HB3.out.trans (hb4.mono HB3.out.size))
    have HR4 := hid (HR3.out.below hb4 HR3.out.lt)
    have HST4 := hid hst4
    have HST34 := hid (HST3.out.below hb4)
    have HM4 := hid hm4
    have hxl : xs.length ≤ 1000000 := by
      have h1 := congrArg List.length HM3.out
      rw [List.length_map] at h1
      have h2 := (stC_b l (l.length + 1) 0 [] (Nat.zero_le _) (Nat.zero_le _)).1
      have h3 : (stepsC l).1 = (stC l (l.length + 1) 0 []).1 := rfl
      rw [h1, h3]
      omega
    have HXL := hid hxl
    have hq1 : ((stepsC l).2.1 == (stepsC l).2.1) = true := by simp
    have hq2 : ((((stepsC l).2.2 : Nat) : Int) == (((stepsC l).2.2 : Nat) : Int)) = true := by simp
    clear h4 hst4 hm4 hb4 hxl
    generalize (stepsC l).2.1 = r1 at *
    generalize (stepsC l).2.2 = r2 at *
    go_wp2_with fail
    refine (eq25_any a3 a4 c3 c4 xs ys w4 HST34.out HST4.out (HM3.out.trans HM4.out.symm) HXL.out).mono ?_
    rintro e' w5 ⟨rfl, hb5⟩
    have HB5 := hid (HB4.out.trans (hb5.mono HB4.out.size))
    have HR5 := hid (HR4.out.below hb5 HR4.out.lt)
    clear hb5
    go_wp2_with fail
    refine (kept_any w.heap.size a l.length (l.length + 7) l.length cap l l w5 rfl rfl HR5.out (HB.out.below' HB5.out) (by omega) (by omega)).mono ?_
    rintro e' w6 ⟨rfl, n6, rfl⟩
    rw [eqB_self]
    have HB6 := hid (bdN HB5.out n6)
    go_wp2_with fail
    refine (HWK.out _ HB6.out).mono ?_
    rintro e' w7 ⟨rfl, hb7⟩
    have HL7 := hid (HB6.out.trans (hb7.mono HB6.out.size))
    clear hb7
    go_wp2_with fail
    go_ret
    exact ⟨rfl, HL7.out⟩
end Go.Proofs.YtcbkikioapdbbaaDoor
