
/- hostelref25.Same. -/
import Derived.Test.YtcbkikioapdbbaaDoorKC2
import Derived.Test.YtcbkikioapdbbaaDoorUR
namespace Go.Proofs.YtcbkikioapdbbaaDoor
open Go.RowKit Go.Sort
attribute [local go_sem] Oper.semAt_some

theorem pc_iff (x y : CG) : pcOf x = pcOf y ↔ (x.kind = y.kind ∧ x.a = y.a ∧ x.b = y.b ∧ x.c = y.c ∧ x.d = y.d ∧ x.e = y.e ∧ x.path = y.path ∧ x.argv = y.argv ∧ x.env = y.env ∧ x.bytes = y.bytes) := by
  unfold pcOf
  simp only [PC.mk.injEq, Prod.mk.injEq]
  constructor
  · rintro ⟨h1, ⟨h2, h3, h4, h5, h6⟩, h7, h8, h9, h10⟩
    exact ⟨h1, h2, h3, h4, h5, h6, h7, h8, h9, h10⟩
  · rintro ⟨h1, h2, h3, h4, h5, h6, h7, h8, h9, h10⟩
    exact ⟨h1, ⟨h2, h3, h4, h5, h6⟩, h7, h8, h9, h10⟩
def SameP (x y : CG) (w : World) (e : Ending) (w' : World) : Prop := ∃ b, e = .returned (.bool b) ∧ (b = true ↔ pcOf x = pcOf y) ∧ Below w.heap.size w w'
theorem same_no {x y : CG} {w w' : World} (h : ¬ pcOf x = pcOf y) (hb : Below w.heap.size w w') : SameP x y w (.returned (.bool false)) w' := ⟨false, rfl, ⟨fun e => (by cases e), fun e => absurd e h⟩, hb⟩
theorem same_yes {x y : CG} {w w' : World} (h : pcOf x = pcOf y) (hb : Below w.heap.size w w') : SameP x y w (.returned (.bool true)) w' := ⟨true, rfl, ⟨fun _ => h, fun _ => rfl⟩, hb⟩

set_option maxRecDepth 100000 in
set_option maxHeartbeats 8000000 in
theorem same25_any (x y : CG) (w : World) (hx : CGok w x) (hy : CGok w y) :
    Calls Tryd.prog 15 #[cgV x, cgV y] w (SameP x y w) := by
  have hbox1 := box_cg x
  have hbox2 := box_cg y
  obtain ⟨w1, hw1⟩ : ∃ w1, w1 = (w.alloc (.cells (cgC x).toArray 26)).alloc (.cells (cgC y).toArray 26) := ⟨_, rfl⟩
  have hsz : w1.heap.size = w.heap.size + 1 + 1 := by rw [hw1, World.size_alloc, World.size_alloc]
  have hrx : Row w1 w.heap.size 26 (cgC x) := by rw [hw1]; exact (Row.new w _ _).alloc _
  have hry : Row w1 (w.heap.size + 1) 26 (cgC y) := by
    rw [hw1]
    have := Row.new (w.alloc (.cells (cgC x).toArray 26)) 26 (cgC y)
    rwa [World.size_alloc] at this
  have hb1 : Below w.heap.size w w1 := by rw [hw1]; exact bal2' (bal _) _
  have HW1 := hid hw1
  have HB1 := hid hb1
  have HX := hid hx
  have HY := hid hy
  have HRX := hid hrx
  have HRY := hid hry
  have HIFF := hid (pc_iff x y)
  clear hw1 hsz hrx hry hb1 hx hy
  obtain ⟨p0, p1, p2, p3, p4, p5, p6, p7, p8, p9⟩ := HRX.out.ten
  obtain ⟨q0, q1, q2, q3, q4, q5, q6, q7, q8, q9⟩ := HRY.out.ten
  have HTA := hid (fun n => eqTexts_any x.va y.va x.argv.length x.vc y.argv.length y.vc x.argv y.argv (w1.drewN n) ((HX.out.argv.below' HB1.out).below' (drewN_below w1 n)) ((HY.out.argv.below' HB1.out).below' (drewN_below w1 n)) (by have := HX.out.an; omega) (by have := HY.out.an; omega))
  have HTE := hid (fun n => eqTexts_any x.ea y.ea x.env.length x.ec y.env.length y.ec x.env y.env (w1.drewN n) ((HX.out.env.below' HB1.out).below' (drewN_below w1 n)) ((HY.out.env.below' HB1.out).below' (drewN_below w1 n)) (by have := HX.out.en; omega) (by have := HY.out.en; omega))
  have HBY := hid (fun n => eqBytes_any x.ya y.ya x.bytes.length x.yc y.bytes.length y.yc x.bytes y.bytes (w1.drewN n) ((HX.out.bytes.below' HB1.out).below' (drewN_below w1 n)) ((HY.out.bytes.below' HB1.out).below' (drewN_below w1 n)) (by have := HX.out.yn; omega) (by have := HY.out.yn; omega))
  by_cases h0 : x.kind = y.kind
  rotate_left
  · have HNE := hid (show ¬ pcOf x = pcOf y from fun e => h0 (HIFF.out.1 e).1)
    have t0 : ((x.kind : Int) == (y.kind : Int)) = false := by simp; omega
    clear h0
    go_enter Tryd.func15, Tryd.ntmps15
    go_wp2_with fail
    all_goals (try rw [← HW1.out])
    go_ret
    exact same_no HNE.out HB1.out
  by_cases h1 : x.a = y.a
  rotate_left
  · have HNE := hid (show ¬ pcOf x = pcOf y from fun e => h1 (HIFF.out.1 e).2.1)
    have t0 : ((x.kind : Int) == (y.kind : Int)) = true := by simp; omega
    have t1 : ((x.a : Int) == (y.a : Int)) = false := by simp; omega
    clear h0 h1
    go_enter Tryd.func15, Tryd.ntmps15
    go_wp2_with fail
    all_goals (try rw [← HW1.out])
    go_ret
    exact same_no HNE.out HB1.out
  by_cases h2 : x.b = y.b
  rotate_left
  · have HNE := hid (show ¬ pcOf x = pcOf y from fun e => h2 (HIFF.out.1 e).2.2.1)
    have t0 : ((x.kind : Int) == (y.kind : Int)) = true := by simp; omega
    have t1 : ((x.a : Int) == (y.a : Int)) = true := by simp; omega
    have t2 : ((x.b : Int) == (y.b : Int)) = false := by simp; omega
    clear h0 h1 h2
    go_enter Tryd.func15, Tryd.ntmps15
    go_wp2_with fail
    all_goals (try rw [← HW1.out])
    go_ret
    exact same_no HNE.out HB1.out
  by_cases h3 : x.c = y.c
  rotate_left
  · have HNE := hid (show ¬ pcOf x = pcOf y from fun e => h3 (HIFF.out.1 e).2.2.2.1)
    have t0 : ((x.kind : Int) == (y.kind : Int)) = true := by simp; omega
    have t1 : ((x.a : Int) == (y.a : Int)) = true := by simp; omega
    have t2 : ((x.b : Int) == (y.b : Int)) = true := by simp; omega
    have t3 : ((x.c : Int) == (y.c : Int)) = false := by simp; omega
    clear h0 h1 h2 h3
    go_enter Tryd.func15, Tryd.ntmps15
    go_wp2_with fail
    all_goals (try rw [← HW1.out])
    go_ret
    exact same_no HNE.out HB1.out
  by_cases h4 : x.d = y.d
  rotate_left
  · have HNE := hid (show ¬ pcOf x = pcOf y from fun e => h4 (HIFF.out.1 e).2.2.2.2.1)
    have t0 : ((x.kind : Int) == (y.kind : Int)) = true := by simp; omega
    have t1 : ((x.a : Int) == (y.a : Int)) = true := by simp; omega
    have t2 : ((x.b : Int) == (y.b : Int)) = true := by simp; omega
    have t3 : ((x.c : Int) == (y.c : Int)) = true := by simp; omega
    have t4 : ((x.d : Int) == (y.d : Int)) = false := by simp; omega
    clear h0 h1 h2 h3 h4
    go_enter Tryd.func15, Tryd.ntmps15
    go_wp2_with fail
    all_goals (try rw [← HW1.out])
    go_ret
    exact same_no HNE.out HB1.out
  by_cases h5 : x.e = y.e
  rotate_left
  · have HNE := hid (show ¬ pcOf x = pcOf y from fun e => h5 (HIFF.out.1 e).2.2.2.2.2.1)
    have t0 : ((x.kind : Int) == (y.kind : Int)) = true := by simp; omega
    have t1 : ((x.a : Int) == (y.a : Int)) = true := by simp; omega
    have t2 : ((x.b : Int) == (y.b : Int)) = true := by simp; omega
    have t3 : ((x.c : Int) == (y.c : Int)) = true := by simp; omega
    have t4 : ((x.d : Int) == (y.d : Int)) = true := by simp; omega
    have t5 : ((x.e : Int) == (y.e : Int)) = false := by simp; omega
    clear h0 h1 h2 h3 h4 h5
    go_enter Tryd.func15, Tryd.ntmps15
    go_wp2_with fail
    all_goals (try rw [← HW1.out])
    go_ret
    exact same_no HNE.out HB1.out
  by_cases h6 : x.path = y.path
  rotate_left
  · have HNE := hid (show ¬ pcOf x = pcOf y from fun e => h6 (HIFF.out.1 e).2.2.2.2.2.2.1)
    have t0 : ((x.kind : Int) == (y.kind : Int)) = true := by simp; omega
    have t1 : ((x.a : Int) == (y.a : Int)) = true := by simp; omega
    have t2 : ((x.b : Int) == (y.b : Int)) = true := by simp; omega
    have t3 : ((x.c : Int) == (y.c : Int)) = true := by simp; omega
    have t4 : ((x.d : Int) == (y.d : Int)) = true := by simp; omega
    have t5 : ((x.e : Int) == (y.e : Int)) = true := by simp; omega
    have t6 : ((ba x.path).toList == (ba y.path).toList) = false := by rw [ba_beq2]; simp [h6]
    clear h0 h1 h2 h3 h4 h5 h6
    go_enter Tryd.func15, Tryd.ntmps15
    go_wp2_with fail
    all_goals (try rw [← HW1.out])
    go_ret
    exact same_no HNE.out HB1.out
  by_cases h7 : x.argv = y.argv
  rotate_left
  · have HNE := hid (show ¬ pcOf x = pcOf y from fun e => h7 (HIFF.out.1 e).2.2.2.2.2.2.2.1)
    have t0 : ((x.kind : Int) == (y.kind : Int)) = true := by simp; omega
    have t1 : ((x.a : Int) == (y.a : Int)) = true := by simp; omega
    have t2 : ((x.b : Int) == (y.b : Int)) = true := by simp; omega
    have t3 : ((x.c : Int) == (y.c : Int)) = true := by simp; omega
    have t4 : ((x.d : Int) == (y.d : Int)) = true := by simp; omega
    have t5 : ((x.e : Int) == (y.e : Int)) = true := by simp; omega
    have t6 : ((ba x.path).toList == (ba y.path).toList) = true := by rw [ba_beq2]; simp [h6]
    have t7 : eqT x.argv y.argv = false := by unfold eqT; simp [h7]
    clear h0 h1 h2 h3 h4 h5 h6 h7
    go_enter Tryd.func15, Tryd.ntmps15
    go_wp2_with fail
    all_goals (try rw [← HW1.out])
    refine (HTA.out (0)).mono ?_
    rintro e' w7 ⟨rfl, n7, rfl⟩
    rw [t7]
    go_wp2_with fail
    go_ret
    exact same_no HNE.out (bdN HB1.out _)
  by_cases h8 : x.env = y.env
  rotate_left
  · have HNE := hid (show ¬ pcOf x = pcOf y from fun e => h8 (HIFF.out.1 e).2.2.2.2.2.2.2.2.1)
    have t0 : ((x.kind : Int) == (y.kind : Int)) = true := by simp; omega
    have t1 : ((x.a : Int) == (y.a : Int)) = true := by simp; omega
    have t2 : ((x.b : Int) == (y.b : Int)) = true := by simp; omega
    have t3 : ((x.c : Int) == (y.c : Int)) = true := by simp; omega
    have t4 : ((x.d : Int) == (y.d : Int)) = true := by simp; omega
    have t5 : ((x.e : Int) == (y.e : Int)) = true := by simp; omega
    have t6 : ((ba x.path).toList == (ba y.path).toList) = true := by rw [ba_beq2]; simp [h6]
    have t7 : eqT x.argv y.argv = true := by unfold eqT; simp [h7]
    have t8 : eqT x.env y.env = false := by unfold eqT; simp [h8]
    clear h0 h1 h2 h3 h4 h5 h6 h7 h8
    go_enter Tryd.func15, Tryd.ntmps15
    go_wp2_with fail
    all_goals (try rw [← HW1.out])
    refine (HTA.out (0)).mono ?_
    rintro e' w7 ⟨rfl, n7, rfl⟩
    rw [t7]
    go_wp2_with fail
    refine (HTE.out (n7)).mono ?_
    rintro e' w8 ⟨rfl, n8, rfl⟩
    rw [t8]
    go_wp2_with fail
    go_ret
    exact same_no HNE.out (bdN HB1.out _)
  by_cases h9 : x.bytes = y.bytes
  rotate_left
  · have HNE := hid (show ¬ pcOf x = pcOf y from fun e => h9 (HIFF.out.1 e).2.2.2.2.2.2.2.2.2)
    have t0 : ((x.kind : Int) == (y.kind : Int)) = true := by simp; omega
    have t1 : ((x.a : Int) == (y.a : Int)) = true := by simp; omega
    have t2 : ((x.b : Int) == (y.b : Int)) = true := by simp; omega
    have t3 : ((x.c : Int) == (y.c : Int)) = true := by simp; omega
    have t4 : ((x.d : Int) == (y.d : Int)) = true := by simp; omega
    have t5 : ((x.e : Int) == (y.e : Int)) = true := by simp; omega
    have t6 : ((ba x.path).toList == (ba y.path).toList) = true := by rw [ba_beq2]; simp [h6]
    have t7 : eqT x.argv y.argv = true := by unfold eqT; simp [h7]
    have t8 : eqT x.env y.env = true := by unfold eqT; simp [h8]
    have t9 : eqB x.bytes y.bytes = false := by unfold eqB; simp [h9]
    clear h0 h1 h2 h3 h4 h5 h6 h7 h8 h9
    go_enter Tryd.func15, Tryd.ntmps15
    go_wp2_with fail
    all_goals (try rw [← HW1.out])
    refine (HTA.out (0)).mono ?_
    rintro e' w7 ⟨rfl, n7, rfl⟩
    rw [t7]
    go_wp2_with fail
    refine (HTE.out (n7)).mono ?_
    rintro e' w8 ⟨rfl, n8, rfl⟩
    rw [t8]
    go_wp2_with fail
    refine (HBY.out (n7 + n8)).mono ?_
    rintro e' w9 ⟨rfl, n9, rfl⟩
    rw [t9]
    go_wp2_with fail
    go_ret
    exact same_no HNE.out (bdN HB1.out _)
  have HEQ := hid (HIFF.out.2 ⟨h0, h1, h2, h3, h4, h5, h6, h7, h8, h9⟩)
  have t0 : ((x.kind : Int) == (y.kind : Int)) = true := by simp; omega
  have t1 : ((x.a : Int) == (y.a : Int)) = true := by simp; omega
  have t2 : ((x.b : Int) == (y.b : Int)) = true := by simp; omega
  have t3 : ((x.c : Int) == (y.c : Int)) = true := by simp; omega
  have t4 : ((x.d : Int) == (y.d : Int)) = true := by simp; omega
  have t5 : ((x.e : Int) == (y.e : Int)) = true := by simp; omega
  have t6 : ((ba x.path).toList == (ba y.path).toList) = true := by rw [ba_beq2]; simp [h6]
  have t7 : eqT x.argv y.argv = true := by unfold eqT; simp [h7]
  have t8 : eqT x.env y.env = true := by unfold eqT; simp [h8]
  have t9 : eqB x.bytes y.bytes = true := by unfold eqB; simp [h9]
  clear h0 h1 h2 h3 h4 h5 h6 h7 h8 h9
  go_enter Tryd.func15, Tryd.ntmps15
  go_wp2_with fail
  all_goals (try rw [← HW1.out])
  refine (HTA.out (0)).mono ?_
  rintro e' w7 ⟨rfl, n7, rfl⟩
  rw [t7]
  go_wp2_with fail
  refine (HTE.out (n7)).mono ?_
  rintro e' w8 ⟨rfl, n8, rfl⟩
  rw [t8]
  go_wp2_with fail
  refine (HBY.out (n7 + n8)).mono ?_
  rintro e' w9 ⟨rfl, n9, rfl⟩
  rw [t9]
  go_wp2_with fail
  go_ret
  exact same_yes HEQ.out (bdN HB1.out _)
end Go.Proofs.YtcbkikioapdbbaaDoor
