
/- hostellaw08.does: the walk. -/
import Derived.Test.YtlfgogjjnekfpaaDoorBcF
namespace Go.Proofs.YtlfgogjjnekfpaaDoor
open Go.RowKit Go.Sort Go.Shelf Go.WideMaps Go.Maps Go.WideShapes Go.WideElems Go.MapKept Go.ChangeMaps
attribute [local go_sem] Oper.semAt_some

theorem own_hdI {w : World} {base E n : Nat} {v : Value} {xs : List Value} (h : w.ownsRow base E 1 v n xs) : ∃ a c, v = .slice a n c := by
  rcases h.2 with ⟨rfl, rfl⟩ | ⟨g, cap, cur, rfl, _⟩
  · exact ⟨_, _, rfl⟩
  · exact ⟨_, _, rfl⟩
def opV (o : O8) : Value := .agg #[.int .i64 o.kind, .int .i64 o.i, .int .i64 o.p, .int .i64 o.n]
/-- What does leaves. -/
def DoesP (K : KP) (w0 : World) (F : Nat) (t : FT) (p g h c m ob : Nat) (st' : S8) (e : Ending) (w' : World) : Prop := e = .returned (.tuple #[]) ∧ ∃ vl' vh' ws', OW K w0 F t p g h c m ob vl' vh' st' ws' w'
set_option maxRecDepth 100000 in
set_option maxHeartbeats 8000000 in
theorem does0_any (K : KP) (w0 : World) (F : Nat) (t : FT) (p g h c m ob : Nat) (vl vh : Value) (st : S8) (ex : List Nat) (ws : List Nat) (i pg n : Int) (w : World) (H : OW K w0 F t p g h c m ob vl vh st ws w) (G : Good (rdP16 t.L) st.s (st.h ++ ex)) (hi : I64 i) (hp : I64 pg)
    (hb1 : (st.h ++ ex).length ≤ 1000000) (hb2 : st.l.length ≤ 1000000) (hb3 : st.s.tn + 1 < 1000000000) :
    Calls Tryd.prog 21 #[.pointer (some ⟨ob, 0, none⟩), opV ⟨0, i, pg, n⟩] w (DoesP K w0 F t p g h c m ob (does8 (rdP16 t.L) st ⟨0, i, pg, n⟩)) := by
  obtain ⟨w1, hw1⟩ : ∃ w1, w1 = w.alloc (.cells #[.int .i64 0, .int .i64 i, .int .i64 pg, .int .i64 n] 50) := ⟨_, rfl⟩
  have H1 := hid (show OW K w0 F t p g h c m ob vl vh st ws w1 by rw [hw1]; exact H.below (bal _))
  have HP1 := hid (show Row w1 w.heap.size 50 [.int .i64 0, .int .i64 i, .int .i64 pg, .int .i64 n] by rw [hw1]; exact Row.new w _ _)
  have HW1 := hid hw1
  have HG := hid G
  have HNL3 := hid (show st.l.length + 1 ≤ 1000000000 by omega)
  have HGE := hid (get_any w0 F t p g h c m st.s ws (st.h ++ ex) i pg w1.drew (H1.out.cw.below (bdN (Below.refl _ _) 1)) G (by omega) hb3 hi hp)
  have HI := hid (⟨hi, hp⟩ : I64 i ∧ I64 pg)
  clear H hw1 hb1 hb2 hb3 G hi hp
  unfold opV
  obtain ⟨q0, q1, q2, q3, q4⟩ := H1.out.own.five
  obtain ⟨o0, o1, o2, o3⟩ := HP1.out.four
  have hobl := H1.out.own.lt
  have hopl := HP1.out.lt
  have hS1 : EX (cS g h c m) w1 w1.drew := EX.drew (EX.refl _)
  have hnP : ¬ cS g h c m w.heap.size := by
    rintro (e | e | e | e)
    · exact row_tys HP1.out H1.out.cw.cache (by decide) e
    · exact H1.out.cw.map.row HP1.out e.symm
    · exact row_tys HP1.out H1.out.cw.pool.frames (by decide) e
    · exact row_tys HP1.out H1.out.cw.pool.words (by decide) e
  have Q2 : ∀ w, EX (cS g h c m) w1 w → w.cell? ⟨ob, 2, none⟩ = some (.pointer (some ⟨c, 0, none⟩)) := fun w he => he.cell q2 H1.out.nS
  have O1 : ∀ ww, EX (cS g h c m) w1 ww → ww.cell? ⟨w.heap.size, 1, none⟩ = some (.int .i64 i) := fun ww he => he.cell o1 hnP
  have O2 : ∀ ww, EX (cS g h c m) w1 ww → ww.cell? ⟨w.heap.size, 2, none⟩ = some (.int .i64 pg) := fun ww he => he.cell o2 hnP
  obtain ⟨st', hst⟩ : ∃ st', st' = does8 (rdP16 t.L) st ⟨0, i, pg, n⟩ := ⟨_, rfl⟩
  rw [← hst]
  have HD := hid (hst.trans (show does8 (rdP16 t.L) st ⟨0, i, pg, n⟩ = (match getC (rdP16 t.L) st.s i pg with
    | (f, e, s') => if e = 0 then ⟨s', st.l ++ [f.toNat], st.h⟩ else ⟨s', st.l, st.h⟩) from rfl))
  clear hst
  go_enter Tryd.func21, Tryd.ntmps21
  go_wp2_with fail
  rw [← HW1.out]
  go_wp2_with fail
  clear q0 q1 q2 q3 q4 o0 o1 o2 o3
  go_region_held3 (EX (cS g h c m) w1) (first | exact EX.drew _ | exact EX.refl _ | assumption) ((go_at_call 10; refine (HGE.out).mono ?_; rintro e' w2 ⟨rfl, ⟨ws2, hc2⟩, he2⟩; have HC2 := hid hc2; have HE2 := hid he2; have hS2 : EX (cS g h c m) w1 w2 := hS1.trans he2))
  have H2 := hid (H1.out.call HC2.out hS2)
  clear HGE Q2 O1 O2 hS1 hS2 hnP
  rcases getC_case HG.out i pg (rdP16_len t.L) with ⟨e, h1, h2, h3⟩ | ⟨k, s', h1, h2⟩
  · rw [h1] at HD H2 ⊢
    have d1 : decide (e = 0) = false := decide_eq_false h2
    have d1b : (e == 0) = false := by simpa using h2
    simp only [if_neg h2] at HD
    clear h1 h2 h3
    go_wp2_with fail
    refine bodyPost_end (results_none rfl _ _ _) rfl ⟨rfl, ?_⟩
    rw [HD.out]
    exact ⟨_, _, _, H2.out⟩
  · rw [h1] at HD H2 ⊢
    simp only [if_true, Int.toNat_natCast] at HD
    clear h1 h2
    obtain ⟨q0, q1, q2, q3, q4⟩ := (H2.out).own.five
    have hobl := (H2.out).own.lt
    have HCE := hid (show Cel (w2.alloc (.cells #[.int .i64 (k : Int)] 3)) (some ⟨w2.heap.size, 0, none⟩) 1 [nI k] from by
      have hh := Row.new w2 3 [nI k]
      exact ⟨rfl, fun i hi => ⟨_, 0, rfl, by rw [Nat.zero_add]; exact hh.cell i hi⟩⟩)
    have HOA := hid (show (w2.alloc (.cells #[.int .i64 (k : Int)] 3)).ownsRow w0.heap.size 3 1 vl st.l.length (st.l.map nI) from ((H2.out).ll).alloc _)
    have HON := hid (show ∀ u ∈ [nI k], u.oneCell' = true from fun u hu => by rw [List.mem_singleton.1 hu]; rfl)
    have HBB := hid (show w0.heap.size ≤ (w2.alloc (.cells #[.int .i64 (k : Int)] 3)).heap.size by rw [World.size_alloc]; exact Nat.le_succ_of_le (H2.out).cw.low.size)
    have HOB := hid ((H2.out).below (bal (.cells #[.int .i64 (k : Int)] 3)))
    go_wp2_with (at_builtin; go_must (refine wpList_apI rfl _ _ rfl w0.heap.size vl st.l.length (st.l.map nI) [nI k] rfl ⟨w2.heap.size, 0, none⟩ 1 1 rfl HOA.out HCE.out HON.out HNL3.out HBB.out ?_; intro v' w3 hown hgrow hnew; obtain ⟨av, cv, rfl⟩ := own_hdI hown; have HOw3 := hid hown; have HGw3 := hid hgrow; have HNw3 := hid hnew; have hrw := HOB.out.own.grown hgrow (own_row_ne HOA.out HOB.out.own (by decide)); have hwl := hrw.lt; have hwf := hrw.frozen 3; have hwc := hrw.cell' 3; clear hown hgrow hnew))
    clear q0 q1 q2 q3 q4 hobl hrw hwl hwf hwc
    have H3 := hid (HOB.out.appL (x := k) HOw3.out HGw3.out HNw3.out)
    go_wp2_with fail
    refine bodyPost_end (results_none rfl _ _ _) rfl ⟨rfl, ?_⟩
    rw [HD.out]
    exact ⟨_, _, _, H3.out⟩
set_option maxRecDepth 100000 in
set_option maxHeartbeats 8000000 in
theorem does1_any (K : KP) (w0 : World) (F : Nat) (t : FT) (p g h c m ob : Nat) (vl vh : Value) (st : S8) (ex : List Nat) (ws : List Nat) (i pg n : Int) (w : World) (H : OW K w0 F t p g h c m ob vl vh st ws w) (G : Good (rdP16 t.L) st.s (st.h ++ ex))
    (hb1 : (st.h ++ ex).length ≤ 1000000) (hb2 : st.l.length ≤ 1000000) (hb3 : st.s.tn + 1 < 1000000000) :
    Calls Tryd.prog 21 #[.pointer (some ⟨ob, 0, none⟩), opV ⟨1, i, pg, n⟩] w (DoesP K w0 F t p g h c m ob (does8 (rdP16 t.L) st ⟨1, i, pg, n⟩)) := by
  obtain ⟨w1, hw1⟩ : ∃ w1, w1 = w.alloc (.cells #[.int .i64 1, .int .i64 i, .int .i64 pg, .int .i64 n] 50) := ⟨_, rfl⟩
  have H1 := hid (show OW K w0 F t p g h c m ob vl vh st ws w1 by rw [hw1]; exact H.below (bal _))
  have HP1 := hid (show Row w1 w.heap.size 50 [.int .i64 1, .int .i64 i, .int .i64 pg, .int .i64 n] by rw [hw1]; exact Row.new w _ _)
  have HW1 := hid hw1
  have HG := hid G
  have HNL3 := hid (show st.l.length + 1 ≤ 1000000000 by omega)
  have HNL4 := hid (show st.h.length + 1 ≤ 1000000000 by rw [List.length_append] at hb1; omega)
  have HHL := hid (show (st.h ++ ex).length ≤ 1000000000 by omega)
  have HUP := hid (show ∀ x ∈ st.s.fs, x.cnt < 9223372036854775807 from fun x hx => by have := G.small x hx; omega)
  obtain ⟨q0, q1, q2, q3, q4⟩ := H.own.five
  have hobl := H.own.lt
  clear H hw1 hb1 hb2 hb3 G
  unfold opV
  obtain ⟨st', hst⟩ : ∃ st', st' = does8 (rdP16 t.L) st ⟨1, i, pg, n⟩ := ⟨_, rfl⟩
  rw [← hst]
  have HD := hid (hst.trans (show does8 (rdP16 t.L) st ⟨1, i, pg, n⟩ = (match takC st.s with
    | (f, e, s') => if e = 0 then ⟨s', st.l ++ [f.toNat], st.h ++ [f.toNat]⟩ else ⟨s', st.l, st.h⟩) from rfl))
  have HTK := hid (ctake_any w0 F t p g h c m st.s ws (rdP16 t.L) (st.h ++ ex) w1 H1.out.cw HG.out HHL.out)
  clear hst
  go_enter Tryd.func21, Tryd.ntmps21
  go_wp2_with fail
  rw [← HW1.out]
  refine (HTK.out).mono ?_
  rintro e' w2 ⟨rfl, ⟨ws2, hc2⟩, he2⟩
  have H2 := hid (H1.out.call hc2 he2)
  clear hc2 he2 q0 q1 q2 q3 q4 hobl
  rcases takC_case HG.out with ⟨k, s', h1, T⟩ | ⟨h1, h2⟩
  · rw [h1] at HD H2 ⊢
    simp only [if_true, Int.toNat_natCast] at HD
    clear h1 T
    obtain ⟨q0, q1, q2, q3, q4⟩ := (H2.out).own.five
    have hobl := (H2.out).own.lt
    have HCE := hid (show Cel (w2.alloc (.cells #[.int .i64 (k : Int)] 3)) (some ⟨w2.heap.size, 0, none⟩) 1 [nI k] from by
      have hh := Row.new w2 3 [nI k]
      exact ⟨rfl, fun i hi => ⟨_, 0, rfl, by rw [Nat.zero_add]; exact hh.cell i hi⟩⟩)
    have HCF := hid (fun (W : World) (u : Value) => show Cel ((W.setCell ⟨ob, 3, none⟩ u).alloc (.cells #[.int .i64 (k : Int)] 3)) (some ⟨W.heap.size, 0, none⟩) 1 [nI k] from by
      have hh := Row.new (W.setCell ⟨ob, 3, none⟩ u) 3 [nI k]
      rw [show (W.setCell ⟨ob, 3, none⟩ u).heap.size = W.heap.size by simp] at hh
      exact ⟨rfl, fun i hi => ⟨_, 0, rfl, by rw [Nat.zero_add]; exact hh.cell i hi⟩⟩)
    have HOA := hid (show (w2.alloc (.cells #[.int .i64 (k : Int)] 3)).ownsRow w0.heap.size 3 1 vl st.l.length (st.l.map nI) from ((H2.out).ll).alloc _)
    have HON := hid (show ∀ u ∈ [nI k], u.oneCell' = true from fun u hu => by rw [List.mem_singleton.1 hu]; rfl)
    have HBB := hid (show w0.heap.size ≤ (w2.alloc (.cells #[.int .i64 (k : Int)] 3)).heap.size by rw [World.size_alloc]; exact Nat.le_succ_of_le (H2.out).cw.low.size)
    have HOB := hid ((H2.out).below (bal (.cells #[.int .i64 (k : Int)] 3)))
    go_wp2_with (at_builtin; go_must (first | (refine wpList_apI rfl _ _ rfl w0.heap.size vl st.l.length (st.l.map nI) [nI k] rfl ⟨w2.heap.size, 0, none⟩ 1 1 rfl HOA.out HCE.out HON.out HNL3.out HBB.out ?_; intro v' w3 hown hgrow hnew; obtain ⟨av, cv, rfl⟩ := own_hdI hown; have H3 := hid (HOB.out.appL (x := k) hown hgrow hnew); have hrw := HOB.out.own.grown hgrow (own_row_ne HOA.out HOB.out.own (by decide)); have hwl := hrw.lt; have hwf := hrw.frozen 3; have hwf4 := hrw.frozen 4; have hwc := hrw.cell' 3; have hwc4 := hrw.cell' 4; have HOA3 := hid (H3.out.hh.alloc (.cells #[.int .i64 (k : Int)] 3)); have HBB3 := hid (Nat.le_trans H3.out.cw.low.size (bal (.cells #[.int .i64 (k : Int)] 3)).size); have HOB3 := hid (H3.out.below (bal (.cells #[.int .i64 (k : Int)] 3))); clear hown hgrow hnew) | (refine wpList_apI rfl _ _ rfl w0.heap.size vh st.h.length (st.h.map nI) [nI k] rfl ⟨_, 0, none⟩ 1 1 rfl HOA3.out (HCF.out _ _) HON.out HNL4.out HBB3.out ?_; intro v'' w5 hown hgrow hnew; obtain ⟨av5, cv5, rfl⟩ := own_hdI hown; have HO5 := hid hown; have HG5 := hid hgrow; have HN5 := hid hnew; have hrw5 := HOB3.out.own.grown hgrow (own_row_ne HOA3.out HOB3.out.own (by decide)); have hwl5 := hrw5.lt; have hwf5 := hrw5.frozen 4; have hwc5 := hrw5.cell' 4; clear hown hgrow hnew)))
    have H5 := hid (HOB3.out.appH (hs := st.h ++ [k]) HOA3.out (Nat.le_refl _) HOB3.out.neH (own_ext HO5.out (by simp) (by simp)) HG5.out HN5.out)
    refine bodyPost_end (results_none rfl _ _ _) rfl ⟨rfl, ?_⟩
    rw [HD.out]
    exact ⟨_, _, _, H5.out⟩
  · rw [h1] at HD H2 ⊢
    simp only [show ¬ ((4 : Int) = 0) by decide, if_false] at HD
    clear h1 h2
    go_wp2_with fail
    refine bodyPost_end (results_none rfl _ _ _) rfl ⟨rfl, ?_⟩
    rw [HD.out]
    exact ⟨_, _, _, H2.out⟩
set_option maxRecDepth 100000 in
set_option maxHeartbeats 8000000 in
theorem does4_any (K : KP) (w0 : World) (F : Nat) (t : FT) (p g h c m ob : Nat) (vl vh : Value) (st : S8) (ex : List Nat) (ws : List Nat) (i pg n : Int) (w : World) (H : OW K w0 F t p g h c m ob vl vh st ws w) (G : Good (rdP16 t.L) st.s (st.h ++ ex))
    (hb1 : (st.h ++ ex).length ≤ 1000000) (hb2 : st.l.length ≤ 1000000) (hb3 : st.s.tn + 1 < 1000000000) :
    Calls Tryd.prog 21 #[.pointer (some ⟨ob, 0, none⟩), opV ⟨4, i, pg, n⟩] w (DoesP K w0 F t p g h c m ob (does8 (rdP16 t.L) st ⟨4, i, pg, n⟩)) := by
  obtain ⟨w1, hw1⟩ : ∃ w1, w1 = w.alloc (.cells #[.int .i64 4, .int .i64 i, .int .i64 pg, .int .i64 n] 50) := ⟨_, rfl⟩
  have H1 := hid (show OW K w0 F t p g h c m ob vl vh st ws w1 by rw [hw1]; exact H.below (bal _))
  have HP1 := hid (show Row w1 w.heap.size 50 [.int .i64 4, .int .i64 i, .int .i64 pg, .int .i64 n] by rw [hw1]; exact Row.new w _ _)
  have HW1 := hid hw1
  have HG := hid G
  have HNL3 := hid (show st.l.length + 1 ≤ 1000000000 by omega)
  have HNL4 := hid (show st.h.length + 1 ≤ 1000000000 by rw [List.length_append] at hb1; omega)
  have HHL := hid (show (st.h ++ ex).length ≤ 1000000000 by omega)
  have HUP := hid (show ∀ x ∈ st.s.fs, x.cnt < 9223372036854775807 from fun x hx => by have := G.small x hx; omega)
  obtain ⟨q0, q1, q2, q3, q4⟩ := H.own.five
  have hobl := H.own.lt
  clear H hw1 hb1 hb2 hb3 G
  unfold opV
  obtain ⟨st', hst⟩ : ∃ st', st' = does8 (rdP16 t.L) st ⟨4, i, pg, n⟩ := ⟨_, rfl⟩
  rw [← hst]
  have HDR := hid (drop_any w0 F t p g h c m st.s ws (rdP16 t.L) (st.h ++ ex) w1 H1.out.cw HG.out HHL.out)
  have HD := hid (hst.trans (show does8 (rdP16 t.L) st ⟨4, i, pg, n⟩ = ⟨drpC st.s, st.l, st.h⟩ from rfl))
  clear hst
  go_enter Tryd.func21, Tryd.ntmps21
  go_wp2_with fail
  rw [← HW1.out]
  refine (HDR.out).mono ?_
  rintro e' w2 ⟨rfl, ⟨ws2, hc2⟩, he2⟩
  have H2 := hid (H1.out.call hc2 he2)
  clear hc2 he2 q0 q1 q2 q3 q4 hobl
  go_wp2_with fail
  refine bodyPost_end (results_none rfl _ _ _) rfl ⟨rfl, ?_⟩
  rw [HD.out]
  exact ⟨_, _, _, H2.out⟩
set_option maxRecDepth 100000 in
set_option maxHeartbeats 8000000 in
theorem does5_any (K : KP) (w0 : World) (F : Nat) (t : FT) (p g h c m ob : Nat) (vl vh : Value) (st : S8) (ex : List Nat) (ws : List Nat) (k i pg n : Int) (w : World) (H : OW K w0 F t p g h c m ob vl vh st ws w) (G : Good (rdP16 t.L) st.s (st.h ++ ex))
    (hb1 : (st.h ++ ex).length ≤ 1000000) (hb2 : st.l.length ≤ 1000000) (hb3 : st.s.tn + 1 < 1000000000) (k0 : ¬ k = 0) (k1 : ¬ k = 1) (k2 : ¬ k = 2) (k3 : ¬ k = 3) (k4 : ¬ k = 4) :
    Calls Tryd.prog 21 #[.pointer (some ⟨ob, 0, none⟩), opV ⟨k, i, pg, n⟩] w (DoesP K w0 F t p g h c m ob (does8 (rdP16 t.L) st ⟨k, i, pg, n⟩)) := by
  obtain ⟨w1, hw1⟩ : ∃ w1, w1 = w.alloc (.cells #[.int .i64 k, .int .i64 i, .int .i64 pg, .int .i64 n] 50) := ⟨_, rfl⟩
  have H1 := hid (show OW K w0 F t p g h c m ob vl vh st ws w1 by rw [hw1]; exact H.below (bal _))
  have HP1 := hid (show Row w1 w.heap.size 50 [.int .i64 k, .int .i64 i, .int .i64 pg, .int .i64 n] by rw [hw1]; exact Row.new w _ _)
  have HW1 := hid hw1
  have HG := hid G
  have HNL3 := hid (show st.l.length + 1 ≤ 1000000000 by omega)
  have HNL4 := hid (show st.h.length + 1 ≤ 1000000000 by rw [List.length_append] at hb1; omega)
  have HHL := hid (show (st.h ++ ex).length ≤ 1000000000 by omega)
  have HUP := hid (show ∀ x ∈ st.s.fs, x.cnt < 9223372036854775807 from fun x hx => by have := G.small x hx; omega)
  obtain ⟨q0, q1, q2, q3, q4⟩ := H.own.five
  have hobl := H.own.lt
  clear H hw1 hb1 hb2 hb3 G
  unfold opV
  obtain ⟨st', hst⟩ : ∃ st', st' = does8 (rdP16 t.L) st ⟨k, i, pg, n⟩ := ⟨_, rfl⟩
  rw [← hst]
  have HD := hid (hst.trans (show does8 (rdP16 t.L) st ⟨k, i, pg, n⟩ = st by unfold does8; rw [if_neg k0, if_neg k1, if_neg k2, if_neg k3, if_neg k4]))
  have e0 : (k == 0) = false := by simpa using k0
  have e1 : (k == 1) = false := by simpa using k1
  have e2 : (k == 2) = false := by simpa using k2
  have e3 : (k == 3) = false := by simpa using k3
  have e4 : (k == 4) = false := by simpa using k4
  clear hst k0 k1 k2 k3 k4
  go_enter Tryd.func21, Tryd.ntmps21
  go_wp2_with fail
  rw [← HW1.out]
  refine bodyPost_end (results_none rfl _ _ _) rfl ⟨rfl, ?_⟩
  rw [HD.out]
  exact ⟨_, _, _, H1.out⟩
set_option maxRecDepth 100000 in
set_option maxHeartbeats 8000000 in
theorem does2_any (K : KP) (w0 : World) (F : Nat) (t : FT) (p g h c m ob : Nat) (vl vh : Value) (st : S8) (ex : List Nat) (ws : List Nat) (i pg n : Int) (w : World) (H : OW K w0 F t p g h c m ob vl vh st ws w) (G : Good (rdP16 t.L) st.s (st.h ++ ex))
    (hb1 : (st.h ++ ex).length ≤ 1000000) (hb2 : st.l.length ≤ 1000000) (hb3 : st.s.tn + 1 < 1000000000) :
    Calls Tryd.prog 21 #[.pointer (some ⟨ob, 0, none⟩), opV ⟨2, i, pg, n⟩] w (DoesP K w0 F t p g h c m ob (does8 (rdP16 t.L) st ⟨2, i, pg, n⟩)) := by
  obtain ⟨w1, hw1⟩ : ∃ w1, w1 = w.alloc (.cells #[.int .i64 2, .int .i64 i, .int .i64 pg, .int .i64 n] 50) := ⟨_, rfl⟩
  have H1 := hid (show OW K w0 F t p g h c m ob vl vh st ws w1 by rw [hw1]; exact H.below (bal _))
  have HP1 := hid (show Row w1 w.heap.size 50 [.int .i64 2, .int .i64 i, .int .i64 pg, .int .i64 n] by rw [hw1]; exact Row.new w _ _)
  have HW1 := hid hw1
  have HG := hid G
  have HNL3 := hid (show st.l.length + 1 ≤ 1000000000 by omega)
  have HNL4 := hid (show st.h.length + 1 ≤ 1000000000 by rw [List.length_append] at hb1; omega)
  have HHL := hid (show (st.h ++ ex).length ≤ 1000000000 by omega)
  have HUP := hid (show ∀ x ∈ st.s.fs, x.cnt < 9223372036854775807 from fun x hx => by have := G.small x hx; omega)
  obtain ⟨q0, q1, q2, q3, q4⟩ := H.own.five
  have hobl := H.own.lt
  clear H hw1 hb1 hb2 hb3 G
  obtain ⟨al, cl, rfl⟩ := own_hdI H1.out.ll
  have HCL := hid (show Cel w1 al st.l.length (st.l.map nI) from by
    obtain ⟨a2, c2, e, hc, _⟩ := own_cel H1.out.ll
    have i0 := Value.slice.inj e
    rw [i0.1]
    exact hc)
  unfold opV
  obtain ⟨st', hst⟩ : ∃ st', st' = does8 (rdP16 t.L) st ⟨2, i, pg, n⟩ := ⟨_, rfl⟩
  rw [← hst]
  have HD := hid (hst.trans (show does8 (rdP16 t.L) st ⟨2, i, pg, n⟩ = (match atP st.l n with
    | none => st
    | some f => if cntF st.s.fs (f : Int) = 0 then st else ⟨{ st.s with fs := upS st.s.fs (f : Int) }, st.l, st.h ++ [f]⟩) from rfl))
  have HAT := hid (fun q => at_any8 al cl st.l n (w1.drewN q) (HCL.out.below' (bdN (Below.refl _ _) q)))
  clear hst
  go_enter Tryd.func21, Tryd.ntmps21
  go_wp2_with fail
  rw [← HW1.out]
  clear q0 q1 q2 q3 q4 hobl
  obtain ⟨q0, q1, q2, q3, q4⟩ := H1.out.own.five
  obtain ⟨o0, o1, o2, o3⟩ := HP1.out.four
  have hobl := H1.out.own.lt
  have hopl := HP1.out.lt
  cases ha : atP st.l n with
  | none =>
    rw [ha] at HAT HD
    unfold atE at HAT
    clear ha
    go_wp2_with fail
    go_quiet ((go_at_call 44; exact Calls.quiet_of_same ((HAT.out _).mono (fun _ _ h => ⟨h.1, h.2.symm⟩))))
    go_wp2_with fail
    refine bodyPost_ret (v := .tuple #[]) (results_none rfl _ _ _) rfl ⟨rfl, ?_⟩
    rw [HD.out]
    exact ⟨_, _, _, H1.out.below (bdN (Below.refl _ _) nq)⟩
  | some f =>
    rw [ha] at HAT HD
    unfold atE at HAT
    clear ha
    go_wp2_with fail
    go_quiet ((go_at_call 44; exact Calls.quiet_of_same ((HAT.out _).mono (fun _ _ h => ⟨h.1, h.2.symm⟩))))
    have HUC := hid (up_any p g h st.s.fs ws (f : Int) (w1.drewN nq) (H1.out.below (bdN (Below.refl _ _) nq)).cw.pool HUP.out)
    have HW := hid (H1.out.below (bdN (Below.refl _ _) nq))
    go_wp2_with fail
    refine (HUC.out).mono ?_
    rintro e' w2 ⟨rfl, hp2, he2⟩
    have H2 := hid (show OW K w0 F t p g h c m ob (.slice al st.l.length cl) vh { st with s := { st.s with fs := upS st.s.fs (f : Int) } } ws w2 from HW.out.call (HW.out.cw.pool' hp2 he2) (ex_cS he2))
    clear hp2 he2 q0 q1 q2 q3 q4 hobl o0 o1 o2 o3 hopl
    by_cases hc : cntF st.s.fs (f : Int) = 0
    · have e1 : takE st.s.fs (f : Int) = 1 := by unfold takE; rw [if_pos hc]
      rw [e1]
      simp only [if_pos hc] at HD
      rw [upS_zero hc] at H2
      clear e1 hc
      go_wp2_with fail
      refine bodyPost_end (results_none rfl _ _ _) rfl ⟨rfl, ?_⟩
      rw [HD.out]
      exact ⟨_, _, _, H2.out⟩
    · have e1 : takE st.s.fs (f : Int) = 0 := by unfold takE; rw [if_neg hc]
      rw [e1]
      simp only [if_neg hc] at HD
      clear e1 hc
      obtain ⟨q0, q1, q2, q3, q4⟩ := (H2.out).own.five
      have hobl := (H2.out).own.lt
      have HCE := hid (show Cel (w2.alloc (.cells #[.int .i64 (f : Int)] 3)) (some ⟨w2.heap.size, 0, none⟩) 1 [nI f] from by
        have hh := Row.new w2 3 [nI f]
        exact ⟨rfl, fun i hi => ⟨_, 0, rfl, by rw [Nat.zero_add]; exact hh.cell i hi⟩⟩)
      have HOA := hid (show (w2.alloc (.cells #[.int .i64 (f : Int)] 3)).ownsRow w0.heap.size 3 1 vh st.h.length (st.h.map nI) from ((H2.out).hh).alloc _)
      have HON := hid (show ∀ u ∈ [nI f], u.oneCell' = true from fun u hu => by rw [List.mem_singleton.1 hu]; rfl)
      have HBB := hid (show w0.heap.size ≤ (w2.alloc (.cells #[.int .i64 (f : Int)] 3)).heap.size by rw [World.size_alloc]; exact Nat.le_succ_of_le (H2.out).cw.low.size)
      have HOB := hid ((H2.out).below (bal (.cells #[.int .i64 (f : Int)] 3)))
      go_wp2_with (at_builtin; go_must (refine wpList_apI rfl _ _ rfl w0.heap.size vh st.h.length (st.h.map nI) [nI f] rfl ⟨w2.heap.size, 0, none⟩ 1 1 rfl HOA.out HCE.out HON.out HNL4.out HBB.out ?_; intro v' w3 hown hgrow hnew; obtain ⟨av, cv, rfl⟩ := own_hdI hown; have HOw3 := hid hown; have HGw3 := hid hgrow; have HNw3 := hid hnew; have hrw := HOB.out.own.grown hgrow (own_row_ne HOA.out HOB.out.own (by decide)); have hwl := hrw.lt; have hwf := hrw.frozen 4; have hwc := hrw.cell' 4; clear hown hgrow hnew))
      clear q0 q1 q2 q3 q4 hobl hrw hwl hwf hwc
      have H3 := hid (HOB.out.appH (hs := st.h ++ [f]) HOA.out (Nat.le_refl _) HOB.out.neH (own_ext HOw3.out (by simp) (by simp)) HGw3.out HNw3.out)
      refine bodyPost_end (results_none rfl _ _ _) rfl ⟨rfl, ?_⟩
      rw [HD.out]
      exact ⟨_, _, _, H3.out⟩
set_option maxRecDepth 100000 in
set_option maxHeartbeats 8000000 in
theorem does3_any (K : KP) (w0 : World) (F : Nat) (t : FT) (p g h c m ob : Nat) (vl vh : Value) (st : S8) (ex : List Nat) (ws : List Nat) (i pg n : Int) (w : World) (H : OW K w0 F t p g h c m ob vl vh st ws w) (G : Good (rdP16 t.L) st.s (st.h ++ ex))
    (hb1 : (st.h ++ ex).length ≤ 1000000) (hb2 : st.l.length ≤ 1000000) (hb3 : st.s.tn + 1 < 1000000000) :
    Calls Tryd.prog 21 #[.pointer (some ⟨ob, 0, none⟩), opV ⟨3, i, pg, n⟩] w (DoesP K w0 F t p g h c m ob (does8 (rdP16 t.L) st ⟨3, i, pg, n⟩)) := by
  obtain ⟨w1, hw1⟩ : ∃ w1, w1 = w.alloc (.cells #[.int .i64 3, .int .i64 i, .int .i64 pg, .int .i64 n] 50) := ⟨_, rfl⟩
  have H1 := hid (show OW K w0 F t p g h c m ob vl vh st ws w1 by rw [hw1]; exact H.below (bal _))
  have HP1 := hid (show Row w1 w.heap.size 50 [.int .i64 3, .int .i64 i, .int .i64 pg, .int .i64 n] by rw [hw1]; exact Row.new w _ _)
  have HW1 := hid hw1
  have HG := hid G
  have HNL3 := hid (show st.l.length + 1 ≤ 1000000000 by omega)
  have HNL4 := hid (show st.h.length + 1 ≤ 1000000000 by rw [List.length_append] at hb1; omega)
  have HHL := hid (show (st.h ++ ex).length ≤ 1000000000 by omega)
  have HUP := hid (show ∀ x ∈ st.s.fs, x.cnt < 9223372036854775807 from fun x hx => by have := G.small x hx; omega)
  obtain ⟨q0, q1, q2, q3, q4⟩ := H.own.five
  have hobl := H.own.lt
  clear H hw1 hb1 hb2 hb3 G
  obtain ⟨ah, ch, rfl⟩ := own_hdI H1.out.hh
  have HCL := hid (show Cel w1 ah st.h.length (st.h.map nI) from by
    obtain ⟨a2, c2, e, hc, _⟩ := own_cel H1.out.hh
    have i0 := Value.slice.inj e
    rw [i0.1]
    exact hc)
  unfold opV
  obtain ⟨st', hst⟩ : ∃ st', st' = does8 (rdP16 t.L) st ⟨3, i, pg, n⟩ := ⟨_, rfl⟩
  rw [← hst]
  have HD := hid (hst.trans (show does8 (rdP16 t.L) st ⟨3, i, pg, n⟩ = (match atP st.h n with
    | none => st
    | some f => ⟨{ st.s with fs := downS st.s.fs (f : Int) }, st.l, st.h.eraseIdx (n.toNat % st.h.length)⟩) from rfl))
  have HAT := hid (fun q => at_any8 ah ch st.h n (w1.drewN q) (HCL.out.below' (bdN (Below.refl _ _) q)))
  clear hst
  go_enter Tryd.func21, Tryd.ntmps21
  go_wp2_with fail
  rw [← HW1.out]
  clear q0 q1 q2 q3 q4 hobl
  obtain ⟨q0, q1, q2, q3, q4⟩ := H1.out.own.five
  obtain ⟨o0, o1, o2, o3⟩ := HP1.out.four
  have hobl := H1.out.own.lt
  have hopl := HP1.out.lt
  cases ha : atP st.h n with
  | none =>
    rw [ha] at HAT HD
    unfold atE at HAT
    clear ha
    go_wp2_with fail
    go_quiet ((go_at_call 44; exact Calls.quiet_of_same ((HAT.out _).mono (fun _ _ h => ⟨h.1, h.2.symm⟩))))
    go_wp2_with fail
    refine bodyPost_ret (v := .tuple #[]) (results_none rfl _ _ _) rfl ⟨rfl, ?_⟩
    rw [HD.out]
    exact ⟨_, _, _, H1.out.below (bdN (Below.refl _ _) nq)⟩
  | some f =>
    rw [ha] at HAT HD
    unfold atE at HAT
    have hcn : ¬ (st.h = [] ∨ n < 0) := fun e => by unfold atP at ha; rw [if_pos e] at ha; cases ha
    obtain ⟨j, hj, hm, h2, hjj⟩ := atP_some hcn
    rw [ha] at h2
    have HF := hid (Option.some.inj h2)
    rw [← hjj] at HD
    obtain ⟨gh, cap, cur, e1, hb, hg, hnc, hcm, hcs, htake⟩ : ∃ g cap cur, Value.slice ah st.h.length ch = .slice (some ⟨g, 0, none⟩) st.h.length cap ∧ w0.heap.size ≤ g ∧ w1.heap[g]? = some (.cells cur 3 (0, 0)) ∧ st.h.length ≤ cap ∧ cap ≤ maxLen ∧ cur.size = cap * 1 ∧ cur.toList.take (st.h.length * 1) = st.h.map nI := by
      rcases H1.out.hh.2 with ⟨_, h0⟩ | h1
      · exact absurd (List.length_eq_zero_iff.1 h0) (fun e => hcn (.inl e))
      · exact h1
    have i0 := Value.slice.inj e1
    obtain ⟨rfl, _, rfl⟩ := i0
    have HJ := hid hj
    have HNC := hid hnc
    have hn0 : decide ((st.h.length : Int) = 0) = false := by simp; exact fun e => hcn (.inl e)
    have hn1 : ¬ (st.h.length : Int) = 0 := by intro e; exact hcn (.inl (List.length_eq_zero_iff.1 (by omega)))
    clear ha hcn h2 hjj e1 hb hg hcm hcs htake
    go_wp2_with fail
    go_quiet ((go_at_call 44; exact Calls.quiet_of_same ((HAT.out _).mono (fun _ _ h => ⟨h.1, h.2.symm⟩))))
    have H1A := hid (H1.out.below (bdN (Below.refl _ _) nq))
    have HP1A := hid (HP1.out.below (bdN (Below.refl w1.heap.size w1) nq) HP1.out.lt)
    generalize World.drewN w1 nq = wa at H1A HP1A ⊢
    clear q0 q1 q2 q3 q4 hobl o0 o1 o2 o3 hopl
    obtain ⟨q0, q1, q2, q3, q4⟩ := H1A.out.own.five
    obtain ⟨o0, o1, o2, o3⟩ := HP1A.out.four
    have hobl := H1A.out.own.lt
    have hopl := HP1A.out.lt
    go_wp2_with fail
    go_quiet (fail)
    have H2 := hid (H1A.out.below (bdN (Below.refl _ _) nq))
    generalize World.drewN wa nq = w2 at H2 ⊢
    clear q0 q1 q2 q3 q4 hobl o0 o1 o2 o3 hopl hm hn0 hn1
    obtain ⟨q0, q1, q2, q3, q4⟩ := H2.out.own.five
    have hobl := H2.out.own.lt
    have hj1 := HJ.out
    have hj2 := HNC.out
    obtain ⟨W3, hW3⟩ : ∃ W3, W3 = w2.alloc (.cells #[] 3) := ⟨_, rfl⟩
    have HW3 := hid hW3
    have HX3 := hid (show OW K w0 F t p g h c m ob vl (.slice (some ⟨gh, 0, none⟩) st.h.length ch) st ws W3 by rw [hW3]; exact H2.out.below (bal _))
    have HOE := hid (show W3.ownsRow w0.heap.size 3 1 (.slice (some ⟨w2.heap.size, 0, none⟩) 0 0) 0 [] by
      rw [hW3]
      exact ⟨rfl, .inr ⟨w2.heap.size, 0, #[], rfl, H2.out.cw.low.size, heap_alloc_new w2 _, Nat.le_refl _, Nat.zero_le _, rfl, rfl⟩⟩)
    have HOEX := hid (show (w2.alloc (.cells #[] 3)).ownsRow w0.heap.size 3 1 (.slice (some ⟨w2.heap.size, 0, none⟩) 0 0) 0 [] by rw [← hW3]; exact HOE.out)
    have HCC := hid (show Cel W3 (some ⟨gh, 0, none⟩) st.h.length (st.h.map nI) from by
      obtain ⟨a2, c2, e, hc, _⟩ := own_cel HX3.out.hh
      have i0 := Value.slice.inj e
      rw [i0.1]
      exact hc)
    have HCT := hid (show Cel (w2.alloc (.cells #[] 3)) (some ⟨gh, 0, none⟩) j ((st.h.take j).map nI) from by
      rw [← hW3]
      refine ⟨by simp; omega, fun i hi => ?_⟩
      obtain ⟨b, o, e, hc⟩ := HCC.out.cell i (by simp at hi ⊢; omega)
      refine ⟨b, o, e, ?_⟩
      rw [hc]
      simp)
    have HBW := hid (show w0.heap.size ≤ (w2.alloc (.cells #[] 3)).heap.size by rw [World.size_alloc]; exact Nat.le_succ_of_le H2.out.cw.low.size)
    have HONA := hid (show ∀ l : List Nat, ∀ u ∈ l.map nI, u.oneCell' = true from fun l u hu => by obtain ⟨x, _, rfl⟩ := List.mem_map.1 hu; rfl)
    have HNJ := hid (show 0 + j ≤ 1000000000 by have := HNL4.out; omega)
    have HUL := hid (show ∀ k, (Value.slice (some ⟨w2.heap.size, 0, none⟩) 0 0).ownBlock = some k → vl.ownBlock ≠ some k from fun k e1 e2 => by
      have h1 := (own_base_le H2.out.ll k e2).2
      have h2 := Option.some.inj e1
      simp only at h2
      omega)
    have HUH := hid (show ∀ k, (Value.slice (some ⟨w2.heap.size, 0, none⟩) 0 0).ownBlock = some k → (Value.slice (some ⟨gh, 0, none⟩) st.h.length ch).ownBlock ≠ some k from fun k e1 e2 => by
      have h1 := (own_base_le H2.out.hh k e2).2
      have h2 := Option.some.inj e1
      simp only at h2
      omega)
    clear hW3
    have hln := HNL4.out
    have HNJ2 := hid (show j + (st.h.length - (j + 1)) ≤ 1000000000 by have := HNL4.out; have := HJ.out; omega)
    have HCE := hid (fun (ww : World) (b0 n0 : Nat) (l0 : List Value) (hh : ww.ownsRow b0 3 1 (.slice (some ⟨gh, 0, none⟩) st.h.length ch) n0 l0) => show Cel ww (some ⟨gh, 0, none⟩) n0 l0 from by
      obtain ⟨a2, c2, e, hc, _⟩ := own_cel hh
      have i0 := Value.slice.inj e
      rw [i0.1]
      exact hc)
    have HNJ3 := hid (show j + 0 ≤ 1000000000 by have := HNL4.out; have := HJ.out; omega)
    by_cases hch : ch = j + 1
    · subst hch
      have HCD := hid (fun (ww : World) (hb : Cel ww (some ⟨gh, 0, none⟩) st.h.length (st.h.map nI)) => show Cel ww (some ⟨gh, 0, none⟩) 0 ((st.h.drop (j + 1)).map nI) from by
        refine ⟨by have := HJ.out; have := HNC.out; simp; omega, fun i hi => ?_⟩
        have := HJ.out; have := HNC.out; simp at hi; omega)
      go_wp2_with (at_builtin; go_must (first | (refine wpList_apI rfl _ _ rfl w0.heap.size (.slice (some ⟨w2.heap.size, 0, none⟩) 0 0) 0 [] ((st.h.take j).map nI) rfl ⟨gh, 0, none⟩ j _ rfl HOEX.out HCT.out (HONA.out _) HNJ.out HBW.out ?_; intro v' w3 hown0 hgrow hnew; have hown := own_ext hown0 (Nat.zero_add j) (List.nil_append _); clear hown0; obtain ⟨av, cv, rfl⟩ := own_hdI hown; rw [← HW3.out] at hgrow hnew; have H3 := hid (HX3.out.other HOE.out (Nat.le_refl _) HUL.out HUH.out hgrow); have HO3 := hid hown; have HG3 := hid hgrow; have HN3 := hid hnew; have hrw := H3.out.own; have hwl := hrw.lt; have hwc4 := hrw.cell' 4; clear hown hgrow hnew hrw) | (refine wpList_apI rfl _ _ rfl w0.heap.size (.slice _ j _) j ((st.h.take j).map nI) ((st.h.drop (j + 1)).map nI) rfl ⟨gh, 0, none⟩ 0 _ rfl HO3.out (HCD.out _ (HCE.out _ _ _ _ H3.out.hh)) (HONA.out _) HNJ3.out H3.out.cw.low.size ?_; intro v'' w5 hown hgrow hnew; obtain ⟨av5, cv5, rfl⟩ := own_hdI hown; have HO5 := hid hown; have HG5 := hid hgrow; have HN5 := hid hnew; have hrw5 := H3.out.own.grown hgrow (own_row_ne HO3.out H3.out.own (by decide)); have hwl5 := hrw5.lt; have hwf5 := hrw5.frozen 4; have hwc5 := hrw5.cell' 4; have hwc50 := hrw5.cell' 0; clear hown hgrow hnew hrw5)))
      have HUL3 := hid (show ∀ k, (Value.slice av j cv).ownBlock = some k → vl.ownBlock ≠ some k from fun k e1 e2 => by
        rcases HN3.out with e | e
        · rw [e] at e1; exact HUL.out k e1 e2
        · rw [e] at e1
          have h1 := (own_base_le HX3.out.ll k e2).2
          have h2 := Option.some.inj e1
          omega)
      have HER := hid (show (st.h.take j).map nI ++ (st.h.drop (j + 1)).map nI = (st.h.eraseIdx j).map nI by rw [List.eraseIdx_eq_take_drop_succ, List.map_append])
      have HEL := hid (show j + 0 = (st.h.eraseIdx j).length by
        have := HJ.out
        have := HNC.out
        rw [List.length_eraseIdx, if_pos HJ.out]
        omega)
      have H5 := hid (H3.out.appH (hs := st.h.eraseIdx j) HO3.out (Nat.le_refl _) HUL3.out (own_ext HO5.out HEL.out HER.out) HG5.out HN5.out)
      have HDN := hid (down_any p g h st.s.fs ws (f : Int) _ H5.out.cw.pool HUP.out)
      refine (HDN.out).mono ?_
      rintro e' w7 ⟨rfl, ⟨ws7, hp7⟩, he7⟩
      have H7 := hid (H5.out.call (H5.out.cw.pool' hp7 he7) (ex_cS he7))
      clear hp7 he7
      go_wp2_with fail
      refine bodyPost_end (results_none rfl _ _ _) rfl ⟨rfl, ?_⟩
      rw [HD.out]
      exact ⟨_, _, _, H7.out⟩
    · have hch2 : ¬ (ch : Int) = (j : Int) + 1 := by omega
      have HCD := hid (fun (ww : World) (hb : Cel ww (some ⟨gh, 0, none⟩) st.h.length (st.h.map nI)) => show Cel ww (some ⟨gh, j + 1, none⟩) (st.h.length - (j + 1)) ((st.h.drop (j + 1)).map nI) from by
        refine ⟨by simp, fun i hi => ?_⟩
        obtain ⟨b, o, e, hc⟩ := hb.cell (j + 1 + i) (by simp at hi ⊢; omega)
        cases e
        refine ⟨gh, j + 1, rfl, ?_⟩
        rw [Nat.zero_add] at hc
        rw [hc]
        simp)
      go_wp2_with (at_builtin; go_must (first | (refine wpList_apI rfl _ _ rfl w0.heap.size (.slice (some ⟨w2.heap.size, 0, none⟩) 0 0) 0 [] ((st.h.take j).map nI) rfl ⟨gh, 0, none⟩ j _ rfl HOEX.out HCT.out (HONA.out _) HNJ.out HBW.out ?_; intro v' w3 hown0 hgrow hnew; have hown := own_ext hown0 (Nat.zero_add j) (List.nil_append _); clear hown0; obtain ⟨av, cv, rfl⟩ := own_hdI hown; rw [← HW3.out] at hgrow hnew; have H3 := hid (HX3.out.other HOE.out (Nat.le_refl _) HUL.out HUH.out hgrow); have HO3 := hid hown; have HG3 := hid hgrow; have HN3 := hid hnew; have hrw := H3.out.own; have hwl := hrw.lt; have hwc4 := hrw.cell' 4; clear hown hgrow hnew hrw) | (refine wpList_apI rfl _ _ rfl w0.heap.size (.slice _ j _) j ((st.h.take j).map nI) ((st.h.drop (j + 1)).map nI) rfl ⟨gh, j + 1, none⟩ (st.h.length - (j + 1)) _ rfl HO3.out (HCD.out _ (HCE.out _ _ _ _ H3.out.hh)) (HONA.out _) HNJ2.out H3.out.cw.low.size ?_; intro v'' w5 hown hgrow hnew; obtain ⟨av5, cv5, rfl⟩ := own_hdI hown; have HO5 := hid hown; have HG5 := hid hgrow; have HN5 := hid hnew; have hrw5 := H3.out.own.grown hgrow (own_row_ne HO3.out H3.out.own (by decide)); have hwl5 := hrw5.lt; have hwf5 := hrw5.frozen 4; have hwc5 := hrw5.cell' 4; have hwc50 := hrw5.cell' 0; clear hown hgrow hnew hrw5)))
      have HUL3 := hid (show ∀ k, (Value.slice av j cv).ownBlock = some k → vl.ownBlock ≠ some k from fun k e1 e2 => by
        rcases HN3.out with e | e
        · rw [e] at e1; exact HUL.out k e1 e2
        · rw [e] at e1
          have h1 := (own_base_le HX3.out.ll k e2).2
          have h2 := Option.some.inj e1
          omega)
      have HER := hid (show (st.h.take j).map nI ++ (st.h.drop (j + 1)).map nI = (st.h.eraseIdx j).map nI by rw [List.eraseIdx_eq_take_drop_succ, List.map_append])
      have HEL := hid (show j + (st.h.length - (j + 1)) = (st.h.eraseIdx j).length by
        have := HJ.out
        have := HNC.out
        rw [List.length_eraseIdx, if_pos HJ.out]
        omega)
      have H5 := hid (H3.out.appH (hs := st.h.eraseIdx j) HO3.out (Nat.le_refl _) HUL3.out (own_ext HO5.out HEL.out HER.out) HG5.out HN5.out)
      have HDN := hid (down_any p g h st.s.fs ws (f : Int) _ H5.out.cw.pool HUP.out)
      refine (HDN.out).mono ?_
      rintro e' w7 ⟨rfl, ⟨ws7, hp7⟩, he7⟩
      have H7 := hid (H5.out.call (H5.out.cw.pool' hp7 he7) (ex_cS he7))
      clear hp7 he7
      go_wp2_with fail
      refine bodyPost_end (results_none rfl _ _ _) rfl ⟨rfl, ?_⟩
      rw [HD.out]
      exact ⟨_, _, _, H7.out⟩
end Go.Proofs.YtlfgogjjnekfpaaDoor
