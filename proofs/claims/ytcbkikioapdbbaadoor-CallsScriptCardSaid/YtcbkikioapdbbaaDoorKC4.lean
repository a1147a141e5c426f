
/- Merged: Cd3 Cd4 Cd5 Cd6 Cd7 Cd8 Cd9 Cda. -/
import Derived.Test.YtcbkikioapdbbaaDoorCd2
import Derived.Test.YtcbkikioapdbbaaDoorP67
import Derived.Deep.RegionHeld3
import Derived.Test.YtcbkikioapdbbaaDoorWR
import Derived.BigQuiet
import Derived.Deep.QuietTactic
import Derived.Test.YtcbkikioapdbbaaDoorMK
import Derived.StillTailTactics
import Derived.Deep.AppendLies
namespace Go.Proofs.YtcbkikioapdbbaaDoor
open Go.RowKit Go.Sort
attribute [local go_sem] Oper.semAt_some

def bad9 (x : CG) (k : Nat) : Bool := (List.range 9).any fun f => !memF f (fsL k) && !isz x f
theorem badF_9 (x : CG) : badF x = bad9 x x.kind := rfl
theorem bad9_iff (x : CG) (k : Nat) : bad9 x k = false ↔ (memF 0 (fsL k) || decide (x.a = 0)) = true ∧ (memF 1 (fsL k) || decide (x.b = 0)) = true ∧ (memF 2 (fsL k) || decide (x.c = 0)) = true ∧ (memF 3 (fsL k) || decide (x.d = 0)) = true ∧ (memF 4 (fsL k) || decide (x.e = 0)) = true ∧ (memF 5 (fsL k) || decide (x.path = [])) = true ∧ (memF 6 (fsL k) || decide (x.argv = [])) = true ∧ (memF 7 (fsL k) || decide (x.env = [])) = true ∧ (memF 8 (fsL k) || decide (x.bytes = [])) = true := by
  unfold bad9
  rw [List.any_eq_false]
  have e : ∀ f, (¬ ((!memF f (fsL k) && !isz x f) = true)) ↔ (memF f (fsL k) || isz x f) = true := fun f => by cases memF f (fsL k) <;> cases isz x f <;> simp
  constructor
  · intro h
    exact ⟨(e 0).1 (h 0 (by simp)), (e 1).1 (h 1 (by simp)), (e 2).1 (h 2 (by simp)), (e 3).1 (h 3 (by simp)), (e 4).1 (h 4 (by simp)), (e 5).1 (h 5 (by simp)), (e 6).1 (h 6 (by simp)), (e 7).1 (h 7 (by simp)), (e 8).1 (h 8 (by simp))⟩
  · rintro ⟨h0, h1, h2, h3, h4, h5, h6, h7, h8⟩ f hf
    have hf := List.mem_range.1 hf
    have hc : f = 0 ∨ f = 1 ∨ f = 2 ∨ f = 3 ∨ f = 4 ∨ f = 5 ∨ f = 6 ∨ f = 7 ∨ f = 8 := by omega
    rcases hc with rfl | rfl | rfl | rfl | rfl | rfl | rfl | rfl | rfl
    · exact (e 0).2 h0
    · exact (e 1).2 h1
    · exact (e 2).2 h2
    · exact (e 3).2 h3
    · exact (e 4).2 h4
    · exact (e 5).2 h5
    · exact (e 6).2 h6
    · exact (e 7).2 h7
    · exact (e 8).2 h8
theorem only_any (x : CG) (w : World) (hx : CGok w x) (hk : 1 ≤ x.kind ∧ x.kind ≤ 12) :
    Calls Tryd.prog 36 #[cgV x] w (OnlyP x w) := by
  have hc : x.kind = 1 ∨ (x.kind = 2 ∨ x.kind = 4) ∨ (x.kind = 3 ∨ x.kind = 11) ∨ x.kind = 5 ∨ (x.kind = 6 ∨ x.kind = 8 ∨ x.kind = 12) ∨ x.kind = 7 ∨ x.kind = 9 ∨ x.kind = 10 := by omega
  have fin : ∀ {e : Ending} {w' : World} {yy : CG}, (pcOf x = pcOf yy ↔ badF x = false) → (∃ y, e = .returned (cgV y) ∧ y = yy ∧ CGok w' y ∧ Below w.heap.size w w') → OnlyP x w e w' := by
    rintro e w' yy hi ⟨y, h1, h2, h3, h4⟩
    subst h2
    exact ⟨y, h1, hi, h3, h4⟩
  rcases hc with h | h | h | h | h | h | h | h
  · refine (only_PV x w hx (by rw [h]; rfl) (by rw [h]; rfl) (by rw [h]; rfl) (by rw [h]; rfl) (by rw [h]; rfl) (by rw [h]; rfl) (by rw [h]; rfl)).mono (fun e w' => fin ?_)
    rw [pc_iff, badF_9, bad9_iff, h]; simp [kindC, memF, fsL]
  · refine (only_none x w hx (by rcases h with h | h <;> (rw [h]; rfl)) (by rcases h with h | h <;> (rw [h]; rfl)) (by rcases h with h | h <;> (rw [h]; rfl)) (by rcases h with h | h <;> (rw [h]; rfl)) (by rcases h with h | h <;> (rw [h]; rfl)) (by rcases h with h | h <;> (rw [h]; rfl)) (by rcases h with h | h <;> (rw [h]; rfl))).mono (fun e w' => fin ?_)
    rw [pc_iff, badF_9, bad9_iff]; rcases h with h | h <;> (rw [h]; simp [kindC, memF, fsL])
  · refine (only_A x w hx (by rcases h with h | h <;> (rw [h]; rfl)) (by rcases h with h | h <;> (rw [h]; rfl)) (by rcases h with h | h <;> (rw [h]; rfl)) (by rcases h with h | h <;> (rw [h]; rfl)) (by rcases h with h | h <;> (rw [h]; rfl)) (by rcases h with h | h <;> (rw [h]; rfl)) (by rcases h with h | h <;> (rw [h]; rfl))).mono (fun e w' => fin ?_)
    rw [pc_iff, badF_9, bad9_iff]; rcases h with h | h <;> (rw [h]; simp [kindC, memF, fsL])
  · refine (only_ABCD x w hx (by rw [h]; rfl) (by rw [h]; rfl) (by rw [h]; rfl) (by rw [h]; rfl) (by rw [h]; rfl) (by rw [h]; rfl) (by rw [h]; rfl)).mono (fun e w' => fin ?_)
    rw [pc_iff, badF_9, bad9_iff, h]; simp [kindC, memF, fsL]
  · refine (only_AB x w hx (by rcases h with h | h | h <;> (rw [h]; rfl)) (by rcases h with h | h | h <;> (rw [h]; rfl)) (by rcases h with h | h | h <;> (rw [h]; rfl)) (by rcases h with h | h | h <;> (rw [h]; rfl)) (by rcases h with h | h | h <;> (rw [h]; rfl)) (by rcases h with h | h | h <;> (rw [h]; rfl)) (by rcases h with h | h | h <;> (rw [h]; rfl))).mono (fun e w' => fin ?_)
    rw [pc_iff, badF_9, bad9_iff]; rcases h with h | h | h <;> (rw [h]; simp [kindC, memF, fsL])
  · refine (only_ABC x w hx (by rw [h]; rfl) (by rw [h]; rfl) (by rw [h]; rfl) (by rw [h]; rfl) (by rw [h]; rfl) (by rw [h]; rfl) (by rw [h]; rfl)).mono (fun e w' => fin ?_)
    rw [pc_iff, badF_9, bad9_iff, h]; simp [kindC, memF, fsL]
  · refine (only_AX x w hx (by rw [h]; rfl) (by rw [h]; rfl) (by rw [h]; rfl) (by rw [h]; rfl) (by rw [h]; rfl) (by rw [h]; rfl) (by rw [h]; rfl)).mono (fun e w' => fin ?_)
    rw [pc_iff, badF_9, bad9_iff, h]; simp [kindC, memF, fsL]
  · refine (only_PA x w hx (by rw [h]; rfl) (by rw [h]; rfl) (by rw [h]; rfl) (by rw [h]; rfl) (by rw [h]; rfl) (by rw [h]; rfl) (by rw [h]; rfl)).mono (fun e w' => fin ?_)
    rw [pc_iff, badF_9, bad9_iff, h]; simp [kindC, memF, fsL]
end Go.Proofs.YtcbkikioapdbbaaDoor
namespace Go.Proofs.YtcbkikioapdbbaaDoor
open Go.RowKit Go.Sort
attribute [local go_sem] Oper.semAt_some

set_option maxRecDepth 100000 in
set_option maxHeartbeats 8000000 in
theorem rcheck25_any (x : CG) (w : World) (hx : CGok w x) (hp : x.path.length ≤ 1000000) :
    Calls Tryd.prog 14 #[cgV x] w fun e w' => e = .returned (.int .i64 (chkC x)) ∧ Below w.heap.size w w' := by
  have hbox := box_cg x
  obtain ⟨w1, hw1⟩ : ∃ w1, w1 = w.alloc (.cells (cgC x).toArray 26) := ⟨_, rfl⟩
  have HC := hid (show CBx w w1 w.heap.size x by rw [hw1]; exact CBx.new hx)
  have HW := hid hw1
  have HX := hid hx
  clear hw1 hx
  have c0 := HC.out.c0
  by_cases hk : 1 ≤ x.kind ∧ x.kind ≤ 12
  · have HK := hid hk
    have l1 : decide ((x.kind : Int) < 1) = false := by simp; omega
    have l2 : decide ((12 : Int) < (x.kind : Int)) = false := by simp; omega
    have HON := hid (fun (w' : World) (hs : St w1 w') => show Calls Tryd.prog 36 #[cgV x] w' (fun e w2 => ∃ y, e = .returned (cgV y) ∧ (pcOf x = pcOf y ↔ badF x = false) ∧ CGok w2 y ∧ Below w'.heap.size w' w2) from only_any x w' (HC.out.ok.below hs) hk)
    have HSA := hid (fun (w' : World) (y : CG) (hs : St w1 w') (hy : CGok w' y) (hi : pcOf x = pcOf y ↔ badF x = false) => show Calls Tryd.prog 15 #[cgV x, cgV y] w' (fun e w2 => e = .returned (.bool (!badF x)) ∧ Below w'.heap.size w' w2) from (same25_any x y w' (HC.out.ok.below hs) hy).mono (fun e w2 ⟨b, h1, h2, h3⟩ => ⟨by
      rw [h1]
      have : b = !badF x := by cases hb : badF x <;> cases b <;> simp_all
      rw [this], h3⟩))
    clear hk
    have e0 : ∀ ww, St w1 ww → ww.cell? ⟨w.heap.size, 0, none⟩ = some (.int .u8 x.kind) := fun ww h => keepC h (HC.out.row.cell' 0)
    have e1 : ∀ ww, St w1 ww → ww.cell? ⟨w.heap.size, 1, none⟩ = some (.int .u64 x.a) := fun ww h => keepC h (HC.out.row.cell' 1)
    have e2 : ∀ ww, St w1 ww → ww.cell? ⟨w.heap.size, 2, none⟩ = some (.int .u64 x.b) := fun ww h => keepC h (HC.out.row.cell' 2)
    have e3 : ∀ ww, St w1 ww → ww.cell? ⟨w.heap.size, 3, none⟩ = some (.int .u64 x.c) := fun ww h => keepC h (HC.out.row.cell' 3)
    have e4 : ∀ ww, St w1 ww → ww.cell? ⟨w.heap.size, 4, none⟩ = some (.int .u64 x.d) := fun ww h => keepC h (HC.out.row.cell' 4)
    have e5 : ∀ ww, St w1 ww → ww.cell? ⟨w.heap.size, 5, none⟩ = some (.int .u64 x.e) := fun ww h => keepC h (HC.out.row.cell' 5)
    have e6 : ∀ ww, St w1 ww → ww.cell? ⟨w.heap.size, 6, none⟩ = some (.string (ba x.path)) := fun ww h => keepC h (HC.out.row.cell' 6)
    have e7 : ∀ ww, St w1 ww → ww.cell? ⟨w.heap.size, 7, none⟩ = some (.slice x.va x.argv.length x.vc) := fun ww h => keepC h (HC.out.row.cell' 7)
    have e8 : ∀ ww, St w1 ww → ww.cell? ⟨w.heap.size, 8, none⟩ = some (.slice x.ea x.env.length x.ec) := fun ww h => keepC h (HC.out.row.cell' 8)
    have e9 : ∀ ww, St w1 ww → ww.cell? ⟨w.heap.size, 9, none⟩ = some (.slice x.ya x.bytes.length x.yc) := fun ww h => keepC h (HC.out.row.cell' 9)
    go_enter Tryd.func14, Tryd.ntmps14
    go_wp2_with fail
    rw [← HW.out]
    go_region_held3 (St w1) (first | exact St.drew _ | exact St.step (by assumption) hbx | exact St.step HS11.out hby | assumption) (first | (go_at_call 36; with_reducible refine ((HON.out _ (by assumption)).mono ?_); rintro e' wx ⟨y, rfl, hiff, hoy, hbx⟩; have HS11 : Hid (St w1 wx) := hid (St.step (by assumption) hbx); have HSB := hid (HSA.out wx y HS11.out hoy hiff); clear hiff hoy) | (go_at_call 15; with_reducible refine (HSB.out.mono ?_); rintro e' wy ⟨rfl, hby⟩; have HS12 : Hid (St w1 wy) := hid (St.step HS11.out hby)))
    have HC2 := hid (HC.out.below HS12.out)
    clear c0 hby hbx HON HSA HSB HS11 HS12
    clear e0 e1 e2 e3 e4 e5 e6 e7 e8 e9
    by_cases hbad : badF x = true
    · have HFIN := hid (show chkC x = 1 by unfold chkC; rw [if_pos HK.out, if_pos hbad])
      rw [hbad]
      clear hbad
      have HL := hid HC2.out.low
      go_wp2_with fail
      go_ret
      exact ⟨ret_i64s HFIN.out, HL.out⟩
    have hbad : badF x = false := by simpa using hbad
    have HBAD := hid hbad
    rw [hbad]
    clear hbad
    have c0 := HC2.out.c0
    have HCC := hid (show chkC x = (if x.kind = 1 then chkX x else if x.kind = 8 ∨ x.kind = 12 then chkZ x.b else if x.kind = 9 then chkZ x.bytes.length else if x.kind = 10 then chkO x else 0) by unfold chkC; rw [if_pos HK.out, if_neg (by rw [HBAD.out]; simp)])
    by_cases h1 : x.kind = 1
    · have q1 : ((x.kind : Int) == 1) = true := by simp; omega
      have HCD := hid (show chkC x = chkX x by rw [HCC.out, if_pos h1])
      clear h1 HCC
      obtain ⟨_, c1, c2, c3, c4, c5, c6, c7, c8, c9⟩ := HC2.out.cells
      go_wp2_with fail
      refine (rcheck_any (ba x.path) _ (by rw [ba_size]; exact hp)).mono ?_
      rintro e' w3 ⟨rfl, hb3⟩
      rw [ba_list]
      have HC3 := hid (HC2.out.below hb3)
      clear c0 c1 c2 c3 c4 c5 c6 c7 c8 c9 hb3
      by_cases g1 : chkE x.path = 0
      · have HG := hid (show chkX x = if chkL x.argv = 0 then chkL x.env else chkL x.argv by unfold chkX; rw [if_pos g1])
        rw [g1]
        have c7 := HC3.out.c7
        go_wp2_with fail
        refine (rcheck3_any _ _ _ _ w3 HC3.out.ok.argv (by have := HX.out.an; omega) HX.out.at').mono ?_
        rintro e' w4 ⟨rfl, rfl⟩
        clear c7
        by_cases g2 : chkL x.argv = 0
        · have HH := hid (show chkX x = chkL x.env by rw [HG.out, if_pos g2])
          rw [g2]
          have c8 := HC3.out.c8
          go_wp2_with fail
          refine (rcheck3_any _ _ _ _ w3 HC3.out.ok.env (by have := HX.out.en; omega) HX.out.et).mono ?_
          rintro e' w4 ⟨rfl, rfl⟩
          have HL := hid HC3.out.low
          go_wp2_with fail
          go_ret
          exact ⟨ret_i64s (HCD.out.trans HH.out), HL.out⟩
        · have HH := hid (show chkX x = chkL x.argv by rw [HG.out, if_neg g2])
          have hn := bne_t g2
          have hn2 := beq_f g2
          have HL := hid HC3.out.low
          generalize chkL x.argv = r at *
          go_wp2_with fail
          go_ret
          exact ⟨ret_i64s (HCD.out.trans HH.out), HL.out⟩
      · have HH := hid (show chkX x = chkE x.path by unfold chkX; rw [if_neg g1])
        have hn := bne_t g1
        have hn2 := beq_f g1
        have HL := hid HC3.out.low
        generalize chkE x.path = r at *
        go_wp2_with fail
        go_ret
        exact ⟨ret_i64s (HCD.out.trans HH.out), HL.out⟩
    have q1 : ((x.kind : Int) == 1) = false := by simp; omega
    by_cases h8 : x.kind = 8
    · have q8 : ((x.kind : Int) == 8) = true := by simp; omega

      have HCD := hid (show chkC x = chkZ x.b by rw [HCC.out, if_neg h1, if_pos (.inl h8)])
      have HL := hid HC2.out.low
      have c2 := HC2.out.c2
      by_cases hz : 4096 < x.b
      · have q3 : decide ((4096 : Int) < (x.b : Int)) = true := by simp; omega
        have HZ := hid (show chkZ x.b = 12 by unfold chkZ; rw [if_pos hz])
        clear h1  h8 HCC hz
        go_wp2_with fail
        go_ret
        exact ⟨ret_i64s (HCD.out.trans HZ.out), HL.out⟩
      · have q3 : decide ((4096 : Int) < (x.b : Int)) = false := by simp; omega
        have HZ := hid (show chkZ x.b = 0 by unfold chkZ; rw [if_neg hz])
        clear h1  h8 HCC hz
        go_wp2_with fail
        go_ret
        exact ⟨ret_i64s (HCD.out.trans HZ.out), HL.out⟩
    by_cases h12 : x.kind = 12
    · have q12 : ((x.kind : Int) == 12) = true := by simp; omega
      have q8 : ((x.kind : Int) == 8) = false := by simp; omega
      have HCD := hid (show chkC x = chkZ x.b by rw [HCC.out, if_neg h1, if_pos (.inr h12)])
      have HL := hid HC2.out.low
      have c2 := HC2.out.c2
      by_cases hz : 4096 < x.b
      · have q3 : decide ((4096 : Int) < (x.b : Int)) = true := by simp; omega
        have HZ := hid (show chkZ x.b = 12 by unfold chkZ; rw [if_pos hz])
        clear h1 h8 h12 HCC hz
        go_wp2_with fail
        go_ret
        exact ⟨ret_i64s (HCD.out.trans HZ.out), HL.out⟩
      · have q3 : decide ((4096 : Int) < (x.b : Int)) = false := by simp; omega
        have HZ := hid (show chkZ x.b = 0 by unfold chkZ; rw [if_neg hz])
        clear h1 h8 h12 HCC hz
        go_wp2_with fail
        go_ret
        exact ⟨ret_i64s (HCD.out.trans HZ.out), HL.out⟩
    have q8 : ((x.kind : Int) == 8) = false := by simp; omega
    have q12 : ((x.kind : Int) == 12) = false := by simp; omega
    by_cases h9 : x.kind = 9
    · have q9 : ((x.kind : Int) == 9) = true := by simp; omega
      have HCD := hid (show chkC x = chkZ x.bytes.length by rw [HCC.out, if_neg h1, if_neg (by omega), if_pos h9])
      have HL := hid HC2.out.low
      have c9 := HC2.out.c9
      by_cases hz : 4096 < x.bytes.length
      · have q3 : decide ((4096 : Int) < (x.bytes.length : Int)) = true := by simp; omega
        have HZ := hid (show chkZ x.bytes.length = 12 by unfold chkZ; rw [if_pos hz])
        clear h1 h8 h9 h12 HCC hz
        go_wp2_with fail
        go_ret
        exact ⟨ret_i64s (HCD.out.trans HZ.out), HL.out⟩
      · have q3 : decide ((4096 : Int) < (x.bytes.length : Int)) = false := by simp; omega
        have HZ := hid (show chkZ x.bytes.length = 0 by unfold chkZ; rw [if_neg hz])
        clear h1 h8 h9 h12 HCC hz
        go_wp2_with fail
        go_ret
        exact ⟨ret_i64s (HCD.out.trans HZ.out), HL.out⟩
    have q9 : ((x.kind : Int) == 9) = false := by simp; omega
    by_cases h10 : x.kind = 10
    · have q10 : ((x.kind : Int) == 10) = true := by simp; omega
      have HCD := hid (show chkC x = chkO x by rw [HCC.out, if_neg h1, if_neg (by omega), if_neg h9, if_pos h10])
      have c6 := HC2.out.c6
      clear h1 h8 h9 h12 h10 HCC
      go_wp2_with fail
      refine (rcheck_any (ba x.path) _ (by rw [ba_size]; exact hp)).mono ?_
      rintro e' w3 ⟨rfl, hb3⟩
      rw [ba_list]
      have HC3 := hid (HC2.out.below hb3)
      have HL := hid HC3.out.low
      clear c6 hb3 c0
      by_cases g1 : chkE x.path = 0
      · rw [g1]
        have c1 := HC3.out.c1
        by_cases g2 : 1 < x.a
        · have HH := hid (show chkO x = 1 by unfold chkO; rw [if_pos g1, if_pos g2])
          have d2 : decide ((1 : Int) < (x.a : Int)) = true := by simp; omega
          clear g1
          go_wp2_with fail
          go_ret
          exact ⟨ret_i64s (HCD.out.trans HH.out), HL.out⟩
        · have HH := hid (show chkO x = 0 by unfold chkO; rw [if_pos g1, if_neg g2])
          have d2 : decide ((1 : Int) < (x.a : Int)) = false := by simp; omega
          clear g1
          go_wp2_with fail
          go_ret
          exact ⟨ret_i64s (HCD.out.trans HH.out), HL.out⟩
      · have HH := hid (show chkO x = chkE x.path by unfold chkO; rw [if_neg g1])
        have hn := bne_t g1
        have hn2 := beq_f g1
        generalize chkE x.path = r at *
        go_wp2_with fail
        go_ret
        exact ⟨ret_i64s (HCD.out.trans HH.out), HL.out⟩
    have q10 : ((x.kind : Int) == 10) = false := by simp; omega
    have HCD := hid (show chkC x = 0 by rw [HCC.out, if_neg h1, if_neg (by omega), if_neg h9, if_neg h10])
    have HL := hid HC2.out.low
    clear h1 h8 h9 h12 h10 HCC
    go_wp2_with fail
    go_ret
    exact ⟨ret_i64s HCD.out, HL.out⟩
  · have HFIN := hid (show chkC x = 23 by unfold chkC; rw [if_neg hk])
    have HL := hid HC.out.low
    by_cases h0 : x.kind < 1
    · have l1 : decide ((x.kind : Int) < 1) = true := by simp; omega
      clear h0 hk
      go_enter Tryd.func14, Tryd.ntmps14
      go_wp2_with fail
      go_ret
      exact ⟨ret_i64s HFIN.out, by rw [← HW.out]; exact HL.out⟩
    · have l1 : decide ((x.kind : Int) < 1) = false := by simp; omega
      have l2 : decide ((12 : Int) < (x.kind : Int)) = true := by simp; omega
      clear h0 hk
      go_enter Tryd.func14, Tryd.ntmps14
      go_wp2_with fail
      go_ret
      exact ⟨ret_i64s HFIN.out, by rw [← HW.out]; exact HL.out⟩
end Go.Proofs.YtcbkikioapdbbaaDoor
namespace Go.Proofs.YtcbkikioapdbbaaDoor
open Go.RowKit Go.Sort
attribute [local go_sem] Oper.semAt_some

theorem leB_one {n : Nat} (h : n < 256) : (leB n 1).map B8 = [.int .u8 (n : Nat)] := by
  simp [leB, B8, byteAt]
  omega

set_option maxRecDepth 100000 in
set_option maxHeartbeats 4000000 in
theorem rnumF_any (n x : Nat) (ni : Int) (hni : ni = (n : Nat)) (w : World) (hn : n = 1 ∨ n = 2 ∨ n = 4 ∨ n = 8) (hx : x < 18446744073709551616) :
    Calls Tryd.prog 45 #[.int .u64 (x : Nat), .int .i64 ni] w fun e w' => ∃ g, e = .returned (.slice (some ⟨g, 0, none⟩) n n) ∧ Row w' g 5 ((leB x n).map B8) ∧ Below w.heap.size w w' ∧ w.heap.size ≤ g := by
  subst hni
  have HSN := hid (fun (w1 : World) (g : Nat) (hB : Byt w1 (some ⟨g, 0, none⟩) n (List.replicate n 0)) => rset_new g n x w1 hn hx hB)
  have hn8 : n ≤ 8 := by omega
  clear hn
  go_enter Tryd.func45, Tryd.ntmps45
  go_wp2_with (at_make; refine wpList_make_row _ rfl _ _ 24 rfl 5 (.int .u8 0) 1 Tryd.underlying24 infoBy rfl .i64 .i64 _ _ n rfl rfl (by omega) (by omega) (by omega) (by omega) ?_; intro w1 hr1 hb1 hs1; have HR1 := hid hr1; have HB1 := hid hb1; clear hr1 hb1 hs1)
  refine (HSN.out w1 w.heap.size (Row.byt (l := List.replicate n 0) (rest := []) (by rw [List.append_nil, ← rep_b8]; exact HR1.out) (by simp))).mono ?_
  rintro e' w2 ⟨rfl, hr2, hb2⟩
  have HR2 := hid hr2
  have HB2 := hid (show Below w.heap.size w w2 from HB1.out.trans (hb2.mono HB1.out.size))
  clear hr2 hb2
  go_wp2_with fail
  go_ret
  exact ⟨_, rfl, HR2.out, HB2.out, HB1.out.size⟩

set_option maxRecDepth 100000 in
set_option maxHeartbeats 4000000 in
theorem rtextF_any (base : Nat) (v : Value) (l s : BL) (w : World) (hv : OwnBy w base v l) (hbase : base ≤ w.heap.size) (hl : l.length ≤ 10000000000) (hsl : s.length ≤ 10000000000) :
    Calls Tryd.prog 46 #[v, .string (ba s)] w (PutP base (l ++ txB s) w) := by
  obtain ⟨va, vc, rfl⟩ := own_hd2 hv
  have HBA := hid hbase
  have HV := hid hv
  have HPN := hid (rnumF_any 2 s.length 2 rfl w (by decide) (by omega))
  have hz : ((ba s).size : Int) = (s.length : Int) := by rw [ba_size]
  have hwr := IntWalk.u64_in (s.length : Int) (by omega)
  have HNa := hid (show (l.length + 2) * 1 ≤ 140737488355328 by omega)
  have HNb := hid (show l.length + 2 ≤ maxLen by unfold maxLen; omega)
  have HNc := hid (show l.length + 2 + s.length ≤ 140737488355328 by omega)
  clear hv hbase
  go_enter Tryd.func46, Tryd.ntmps46
  go_wp2_with fail
  refine HPN.out.mono ?_
  rintro e' w1 ⟨g, rfl, hr1, hb1, hg1⟩
  have HO1 := hid (own_below HV.out hb1)
  have HB1 := hid (hb1.mono HBA.out)
  have HK1 := hid (KeepR.of hb1)
  have HC1 := hid hr1.celB
  rw [leB_len] at HC1
  have HZ1 := hid (Nat.le_trans HBA.out hb1.size)
  clear hb1 hr1 hg1 hwr hz
  go_wp2_with (first | (at_builtin; refine wpList_ap1 Tryd.underlying24 infoBy rfl rfl _ _ rfl base (.slice va l.length vc) l.length (l.map B8) ((leB s.length 2).map B8) rfl (some ⟨g, 0, none⟩) 2 2 rfl HO1.out HC1.out (b8_ones _) (fun h => by cases h) HNa.out HNb.out HZ1.out ?_; intro v1 w2 hown hgrow hb2; have HO2 := hid hown; have HB2 := hid (HB1.out.trans hb2); have HK2 := hid (KeepR.trans HK1.out (KeepR.grown HO1.out hgrow)); have HZ2 := hid (Nat.le_trans HZ1.out hb2.size); obtain ⟨ga, gc, rfl⟩ := own_hd2 hown; clear hown hgrow hb2) | (at_builtin; refine wpList_apT rfl _ _ rfl base (.slice ga (l.length + 2) gc) (l.length + 2) _ s rfl rfl HO2.out HNc.out HZ2.out ?_; intro v3 w3 hown hgrow hb3; have HO3 := hid hown; have HB3 := hid (HB2.out.trans hb3); have HK3 := hid (KeepR.trans HK2.out (KeepR.grown HO2.out hgrow)); clear hown hgrow hb3))
  go_ret
  exact ⟨_, rfl, own_ext HO3.out (by unfold txB; simp [leB_len]; omega) (by unfold txB; simp [List.map_append]), HB3.out, HK3.out⟩

set_option maxRecDepth 100000 in
set_option maxHeartbeats 4000000 in
theorem rlistF_any (base : Nat) (v : Value) (l : BL) (a : Option Addr) (cap : Nat) (ds : List BL) (w : World) (hv : OwnBy w base v l) (hB : ∀ w', Below base w w' → Cel w' a ds.length (strs ds)) (hbase : base ≤ w.heap.size) (hl : l.length ≤ 100000000) (hn : ds.length ≤ 255) (ht : ∀ p ∈ ds, p.length ≤ 100000) :
    Calls Tryd.prog 47 #[v, .slice a ds.length cap] w (PutP base (l ++ lsB ds) w) := by
  obtain ⟨va, vc, rfl⟩ := own_hd2 hv
  have HBA := hid hbase
  have HV := hid hv
  have hwr := IntWalk.u8_in (ds.length : Int) (by omega)
  have HC := hid hB
  have HT := hid ht
  have HPT := hid (fun (w1 : World) (hb : Below base w w1) (v1 : Value) (l1 s : BL) (ho : OwnBy w1 base v1 l1) (h1 : l1.length ≤ 10000000000) (h2 : s.length ≤ 10000000000) => rtextF_any base v1 l1 s w1 ho (Nat.le_trans hbase hb.size) h1 h2)
  have HTB := hid (fun k (_ : k ≤ ds.length) => show (txsB (ds.take k)).length ≤ 1000 * 100002 from Nat.le_trans (txsB_len (M := 100000) (ds.take k) (fun s hs => ht s (List.mem_of_mem_take hs))) (Nat.mul_le_mul_right _ (by rw [List.length_take]; omega)))
  obtain ⟨w1, hw1⟩ : ∃ w1, w1 = w.alloc (.cells #[.int .u8 (ds.length : Nat)] 5) := ⟨_, rfl⟩
  have HB1 := hid (show Below w.heap.size w w1 by rw [hw1]; exact bal _)
  have HO1 := hid (show w1.ownsRow base 5 1 (.slice va l.length vc) l.length (l.map B8) from own_below hv HB1.out)
  have HC1 := hid (show Cel w1 (some ⟨w.heap.size, 0, none⟩) 1 ((leB ds.length 1).map B8) by rw [leB_one (by omega), hw1]; exact cel_one w _ _)
  have HBB1 := hid (HB1.out.mono hbase)
  have HZ1 := hid (Nat.le_trans hbase HB1.out.size)
  have HNa := hid (show (l.length + 1) * 1 ≤ 140737488355328 by omega)
  have HNb := hid (show l.length + 1 ≤ maxLen by unfold maxLen; omega)
  have HAPP := hid (fun (w' : World) (v' : Value) (h : w'.ownsRow base 5 1 v' (l.length + 1) (l.map B8 ++ (leB ds.length 1).map B8)) => show OwnBy w' base v' (l ++ leB ds.length 1) from own_ext h (by simp [leB_len]) (by rw [List.map_append]))
  have HW1 := hid hw1
  clear hv hbase hB ht hw1
  go_enter Tryd.func47, Tryd.ntmps47
  go_wp2_with (at_builtin; go_must (rw [← HW1.out]; refine wpList_ap1 Tryd.underlying24 infoBy rfl rfl _ _ rfl base (.slice va l.length vc) l.length (l.map B8) ((leB ds.length 1).map B8) rfl (some ⟨w.heap.size, 0, none⟩) 1 1 rfl HO1.out HC1.out (b8_ones _) (fun h => by cases h) HNa.out HNb.out HZ1.out ?_; intro v1 w2 hown hgrow hb2; have HO2 := hid (HAPP.out _ _ hown); have HB2 := hid (HBB1.out.trans hb2); have HK2 := hid (KeepR.trans (KeepR.of HB1.out) (KeepR.grown HO1.out hgrow)); obtain ⟨va1, vc1, rfl⟩ := own_hd2 hown; clear hown hgrow hb2))
  go_loopw [0, 5] (fun v i wr => ∃ k : Nat, k ≤ ds.length ∧ i = .int .i64 k ∧ OwnBy wr base v (l ++ leB ds.length 1 ++ txsB (ds.take k)) ∧ Below base w wr ∧ KeepR w wr) (fun _ i _ => ds.length - (intOf i).toNat)
  case atStart => exact ⟨0, Nat.zero_le _, rfl, by simpa [txsB] using HO2.out, HB2.out, HK2.out⟩
  case round =>
    obtain ⟨k, hk, rfl, hown, hbw, hkr⟩ := hrel
    rename World => wA
    have HO := hid hown
    have HBW := hid hbw
    have HKR := hid hkr
    clear hown hbw hkr
    by_cases hlt : k < ds.length
    · have d1 : decide ((k : Int) < (ds.length : Int)) = true := by simp; omega
      have d1n : decide (k < ds.length) = true := by simp; omega
      have hsl := HT.out _ (List.getElem_mem hlt)
      have hcB := HC.out wA HBW.out
      obtain ⟨b, off, rfl, hc⟩ := hcB.some_of (by rw [strsS_len]; omega)
      have hx := strs_at hc hlt
      have HNT := hid (txsB_take hlt)
      have hml := HTB.out k hk
      have HAS := hid (List.append_assoc (l ++ leB ds.length 1) (txsB (ds.take k)) (txB ds[k]))
      have hl1 : (l ++ leB ds.length 1 ++ txsB (ds.take k)).length ≤ 10000000000 := by rw [List.length_append, List.length_append, leB_len]; omega
      clear hc hcB
      generalize ds[k] = t at *
      generalize l ++ leB ds.length 1 ++ txsB (ds.take k) = l1 at *
      have HPX := hid (HPT.out wA HBW.out _ l1 t HO.out hl1 (by omega))
      clear hml hl1
      obtain ⟨ua, uc, rfl⟩ := own_hd2 HO.out
      go_wp2_with fail
      refine HPX.out.mono ?_
      rintro e' w5 ⟨v5, rfl, ho5, hb5, hk5⟩
      have HO5 := hid ho5
      have HB5 := hid hb5
      have HK5 := hid hk5
      obtain ⟨v5a, v5c, rfl⟩ := own_hd2 ho5
      clear ho5 hb5 hk5
      go_wp2_with fail
      go_roundw
      case rel => exact ⟨k + 1, by omega, by go_num, by rw [HNT.out, ← HAS.out, ← List.length_append]; exact HO5.out, HBW.out.trans HB5.out, HKR.out.trans HK5.out⟩
      case measure => simp [intOf]; omega
    · have d1 : decide ((k : Int) < (ds.length : Int)) = false := by simp; omega
      have d1n : decide (k < ds.length) = false := by simp; omega
      have HTT := hid (show ds.take k = ds by rw [List.take_of_length_le (by omega)])
      obtain ⟨ua, uc, rfl⟩ := own_hd2 HO.out
      go_wp2_with fail
      go_ret
      exact ⟨_, rfl, own_ext HO.out (by unfold lsB; rw [HTT.out, List.append_assoc]) (by unfold lsB; rw [HTT.out, List.append_assoc]), HBW.out, HKR.out⟩
end Go.Proofs.YtcbkikioapdbbaaDoor
namespace Go.Proofs.YtcbkikioapdbbaaDoor
open Go.RowKit Go.Sort
attribute [local go_sem] Oper.semAt_some

/-- The field that a letter names. -/
def letF (c : UInt8) : Nat := if c = 65 then 0 else if c = 66 then 1 else if c = 67 then 2 else if c = 68 then 3 else if c = 69 then 4 else if c = 80 then 5 else if c = 86 then 6 else if c = 87 then 7 else 8
theorem fds_let (k : Nat) : (fdsR k).map letF = fsL k := by
  by_cases h : k < 13
  · have hc : k = 0 ∨ k = 1 ∨ k = 2 ∨ k = 3 ∨ k = 4 ∨ k = 5 ∨ k = 6 ∨ k = 7 ∨ k = 8 ∨ k = 9 ∨ k = 10 ∨ k = 11 ∨ k = 12 := by omega
    rcases hc with rfl | rfl | rfl | rfl | rfl | rfl | rfl | rfl | rfl | rfl | rfl | rfl | rfl <;> rfl
  · rw [fdsR_no k h]
    unfold fsL
    split <;> first | omega | rfl
theorem fds_mem (k : Nat) : ∀ c ∈ fdsR k, c = 65 ∨ c = 66 ∨ c = 67 ∨ c = 68 ∨ c = 69 ∨ c = 80 ∨ c = 86 ∨ c = 87 ∨ c = 88 := by
  unfold fdsR
  split <;> decide
def letsB (x : CG) (l : BL) : BL := l.flatMap (fun c => fldB x (letF c))
theorem letsB_take {x : CG} {l : BL} {k : Nat} (h : k < l.length) : letsB x (l.take (k + 1)) = letsB x (l.take k) ++ fldB x (letF l[k]) := by
  unfold letsB
  rw [List.take_succ_eq_append_getElem h, List.flatMap_append]
  simp
theorem letsB_all (x : CG) (k : Nat) : letsB x (fdsR k) = fldsB x (fsL k) := by
  unfold letsB fldsB
  rw [← fds_let k, List.flatMap_map]
theorem letsB_eq (x : CG) (l : BL) : letsB x l = fldsB x (l.map letF) := by
  unfold letsB fldsB
  rw [List.flatMap_map]

set_option maxRecDepth 100000 in
set_option maxHeartbeats 8000000 in
theorem rform25_any (x : CG) (w : World) (hx : CGok w x) (hp : x.path.length ≤ 1000000) :
    Calls Tryd.prog 17 #[cgV x] w (FormP x w) := by
  have hbox := box_cg x
  obtain ⟨w1, hw1⟩ : ∃ w1, w1 = w.alloc (.cells (cgC x).toArray 26) := ⟨_, rfl⟩
  have HC := hid (show CBx w w1 w.heap.size x by rw [hw1]; exact CBx.new hx)
  have HW := hid hw1
  have HX := hid hx
  have HP := hid hp
  clear hw1 hx hp
  obtain ⟨c0, c1, c2, c3, c4, c5, c6, c7, c8, c9⟩ := HC.out.cells
  go_enter Tryd.func17, Tryd.ntmps17
  go_wp2_with fail
  rw [← HW.out]
  refine (rcheck25_any x w1 HC.out.ok HP.out).mono ?_
  rintro e' w2 ⟨rfl, hb2⟩
  have HB2 := hid hb2
  have HC2 := hid (HC.out.below hb2)
  clear hb2 c0 c1 c2 c3 c4 c5 c6 c7 c8 c9
  by_cases hc : chkC x = 0
  · have HCK := hid hc
    rw [hc]
    have c0 := HC2.out.c0
    obtain ⟨w3, hw3⟩ : ∃ w3, w3 = w2.alloc (.cells #[.int .u8 x.kind] 5) := ⟨_, rfl⟩
    have HW3 := hid hw3
    have HO3 := hid (show OwnBy w3 w2.heap.size (.slice (some ⟨w2.heap.size, 0, none⟩) 1 1) [UInt8.ofNat x.kind] by rw [hw3]; exact own_kind x.kind HX.out.kind w2)
    have HC3 := hid (show CBx w w3 w.heap.size x by rw [hw3]; exact HC2.out.below (bal _))
    have HOKF := hid (fun f hf => okF_of (x := x) (f := f) hc hf)
    have HFD := hid (fields_any x.kind w3 HX.out.kind)
    obtain ⟨B, hB⟩ : ∃ B, B = w2.heap.size := ⟨_, rfl⟩
    have HB := hid (show w.heap.size < B by rw [hB]; have := HC2.out.row.lt; exact this)
    have hlt2 := HC2.out.row.lt
    clear hw3 hc
    go_wp2_with fail
    rw [← HW3.out]
    refine HFD.out.mono ?_
    rintro e' wx ⟨rfl, hbx⟩
    have HCX := hid (HC3.out.below hbx)
    have HOX := hid (show OwnBy wx B _ _ by rw [hB]; exact own_below HO3.out hbx)
    have HFM := hid (fds_mem x.kind)
    have HFA := hid (letsB_all x x.kind)
    have HFO := hid (fun c hc => HOKF.out (letF c) (by rw [← fds_let]; exact List.mem_map.2 ⟨c, hc, rfl⟩))
    have HL5 := hid (fdsR_len x.kind)
    have hz : ((ba (fdsR x.kind)).size : Int) = ((fdsR x.kind).length : Int) := by rw [ba_size]
    have hzn : (ba (fdsR x.kind)).size = (fdsR x.kind).length := ba_size _
    generalize fdsR x.kind = L at *
    clear c0 hlt2 hbx HFD HOKF
    go_wp2_with fail
    go_loopw [5, 7] (fun v i wr => ∃ k : Nat, k ≤ L.length ∧ i = .int .i64 k ∧ OwnBy wr B v ([UInt8.ofNat x.kind] ++ letsB x (L.take k)) ∧ CBx w wr w.heap.size x) (fun _ i _ => L.length - (intOf i).toNat)
    case atStart => exact ⟨0, Nat.zero_le _, rfl, HOX.out, HCX.out⟩
    case round =>
      obtain ⟨k, hk, rfl, hown, hcx⟩ := hrel
      rename World => wA
      have HO := hid hown
      have HCA := hid hcx
      have HBz := hid (own_size hown (by simp))
      clear hown hcx
      have h5 := HL5.out
      by_cases hlt : k < L.length
      · have d1 : decide ((k : Int) < (L.length : Int)) = true := by simp; omega
        have d1n : decide (k < L.length) = true := by simp; omega
        have hx := idx_str L k hlt wA
        have HOK := hid (HFO.out _ (List.getElem_mem hlt))
        have HNT := hid (letsB_take (x := x) hlt)
        have hml : (letsB x (L.take k)).length ≤ 5 * 1000100 := by
          rw [letsB_eq]
          refine Nat.le_trans (fldsB_len _ (fun f hf => ?_)) (Nat.mul_le_mul_right _ (by rw [List.length_map, List.length_take]; omega))
          obtain ⟨c, hc, rfl⟩ := List.mem_map.1 hf
          exact fldB_len (HFO.out c (List.mem_of_mem_take hc)) HP.out
        have HAS := hid (List.append_assoc [UInt8.ofNat x.kind] (letsB x (L.take k)) (fldB x (letF L[k])))
        have hl8 : ([UInt8.ofNat x.kind] ++ letsB x (L.take k)).length ≤ 100000000 := by rw [List.length_append]; simp only [List.length_cons, List.length_nil]; omega
        have hcase := HFM.out _ (List.getElem_mem hlt)
        generalize L[k] = c at *
        generalize [UInt8.ofNat x.kind] ++ letsB x (L.take k) = l1 at *
        have HNa := hid (show (l1.length + 8) * 1 ≤ 140737488355328 by omega)
        have HNb := hid (show l1.length + 8 ≤ maxLen by unfold maxLen; omega)
        clear hml
        obtain ⟨ua, uc, rfl⟩ := own_hd2 HO.out
        rcases hcase with rfl | rfl | rfl | rfl | rfl | rfl | rfl | rfl | rfl
        · replace HNT := hid (show _ = _ ++ leB (x.a) 8 from HNT.out)
          replace HAS := hid (show _ ++ leB (x.a) 8 = _ ++ (_ ++ leB (x.a) 8) from HAS.out)
          replace hx : (Instr.index 9 (.string (ba L)) (.int .i64 k)).run Tryd.prog wA = .ok (.int .u8 65) wA := hx
          have HPX := hid (rnumF_any 8 (x.a) 8 rfl wA (by decide) (by have := HX.out.na; omega))
          have c1 := HCA.out.c1
          replace c1 : wA.cell? ⟨w.heap.size, 1, none⟩ = some (.int .u64 (x.a : Nat)) := c1
          clear hl8
          go_wp2_with fail
          refine HPX.out.mono ?_
          rintro e' w5 ⟨g, rfl, hr5, hb5, hg5⟩
          have HO5 := hid (own_below HO.out hb5)
          have HC5 := hid (HCA.out.below hb5)
          have HD5 := hid hr5.celB
          rw [leB_len] at HD5
          have HZ5 := hid (Nat.le_trans HBz.out hb5.size)
          clear hr5 hb5 hg5 c1
          go_wp2_with (at_builtin; go_must (refine wpList_ap1 Tryd.underlying24 infoBy rfl rfl _ _ rfl B (.slice ua l1.length uc) l1.length (l1.map B8) ((leB (x.a) 8).map B8) rfl (some ⟨g, 0, none⟩) 8 8 rfl HO5.out HD5.out (b8_ones _) (fun h => by cases h) HNa.out HNb.out HZ5.out ?_; intro v9 w9 hown hgrow hb9; have HO9 := hid (ownBy_app hown rfl); have HC9 := hid (HC5.out.move HX.out hb9 HB.out (Nat.le_of_lt HB.out)); obtain ⟨ga, gc, rfl⟩ := own_hd2 hown; clear hown hgrow hb9))
          go_roundw
          case rel => exact ⟨k + 1, by omega, by go_num, by rw [HNT.out, ← HAS.out]; exact own_ext HO9.out (by simp [leB_len]) rfl, HC9.out⟩
          case measure => simp [intOf]; omega
        · replace HNT := hid (show _ = _ ++ leB (x.b) 8 from HNT.out)
          replace HAS := hid (show _ ++ leB (x.b) 8 = _ ++ (_ ++ leB (x.b) 8) from HAS.out)
          replace hx : (Instr.index 9 (.string (ba L)) (.int .i64 k)).run Tryd.prog wA = .ok (.int .u8 66) wA := hx
          have HPX := hid (rnumF_any 8 (x.b) 8 rfl wA (by decide) (by have := HX.out.nb; omega))
          have c2 := HCA.out.c2
          replace c2 : wA.cell? ⟨w.heap.size, 2, none⟩ = some (.int .u64 (x.b : Nat)) := c2
          clear hl8
          go_wp2_with fail
          refine HPX.out.mono ?_
          rintro e' w5 ⟨g, rfl, hr5, hb5, hg5⟩
          have HO5 := hid (own_below HO.out hb5)
          have HC5 := hid (HCA.out.below hb5)
          have HD5 := hid hr5.celB
          rw [leB_len] at HD5
          have HZ5 := hid (Nat.le_trans HBz.out hb5.size)
          clear hr5 hb5 hg5 c2
          go_wp2_with (at_builtin; go_must (refine wpList_ap1 Tryd.underlying24 infoBy rfl rfl _ _ rfl B (.slice ua l1.length uc) l1.length (l1.map B8) ((leB (x.b) 8).map B8) rfl (some ⟨g, 0, none⟩) 8 8 rfl HO5.out HD5.out (b8_ones _) (fun h => by cases h) HNa.out HNb.out HZ5.out ?_; intro v9 w9 hown hgrow hb9; have HO9 := hid (ownBy_app hown rfl); have HC9 := hid (HC5.out.move HX.out hb9 HB.out (Nat.le_of_lt HB.out)); obtain ⟨ga, gc, rfl⟩ := own_hd2 hown; clear hown hgrow hb9))
          go_roundw
          case rel => exact ⟨k + 1, by omega, by go_num, by rw [HNT.out, ← HAS.out]; exact own_ext HO9.out (by simp [leB_len]) rfl, HC9.out⟩
          case measure => simp [intOf]; omega
        · replace HNT := hid (show _ = _ ++ leB (x.c) 8 from HNT.out)
          replace HAS := hid (show _ ++ leB (x.c) 8 = _ ++ (_ ++ leB (x.c) 8) from HAS.out)
          replace hx : (Instr.index 9 (.string (ba L)) (.int .i64 k)).run Tryd.prog wA = .ok (.int .u8 67) wA := hx
          have HPX := hid (rnumF_any 8 (x.c) 8 rfl wA (by decide) (by have := HX.out.nc; omega))
          have c3 := HCA.out.row.cell' 3
          replace c3 : wA.cell? ⟨w.heap.size, 3, none⟩ = some (.int .u64 (x.c : Nat)) := c3
          clear hl8
          go_wp2_with fail
          refine HPX.out.mono ?_
          rintro e' w5 ⟨g, rfl, hr5, hb5, hg5⟩
          have HO5 := hid (own_below HO.out hb5)
          have HC5 := hid (HCA.out.below hb5)
          have HD5 := hid hr5.celB
          rw [leB_len] at HD5
          have HZ5 := hid (Nat.le_trans HBz.out hb5.size)
          clear hr5 hb5 hg5 c3
          go_wp2_with (at_builtin; go_must (refine wpList_ap1 Tryd.underlying24 infoBy rfl rfl _ _ rfl B (.slice ua l1.length uc) l1.length (l1.map B8) ((leB (x.c) 8).map B8) rfl (some ⟨g, 0, none⟩) 8 8 rfl HO5.out HD5.out (b8_ones _) (fun h => by cases h) HNa.out HNb.out HZ5.out ?_; intro v9 w9 hown hgrow hb9; have HO9 := hid (ownBy_app hown rfl); have HC9 := hid (HC5.out.move HX.out hb9 HB.out (Nat.le_of_lt HB.out)); obtain ⟨ga, gc, rfl⟩ := own_hd2 hown; clear hown hgrow hb9))
          go_roundw
          case rel => exact ⟨k + 1, by omega, by go_num, by rw [HNT.out, ← HAS.out]; exact own_ext HO9.out (by simp [leB_len]) rfl, HC9.out⟩
          case measure => simp [intOf]; omega
        · replace HNT := hid (show _ = _ ++ leB (x.d) 8 from HNT.out)
          replace HAS := hid (show _ ++ leB (x.d) 8 = _ ++ (_ ++ leB (x.d) 8) from HAS.out)
          replace hx : (Instr.index 9 (.string (ba L)) (.int .i64 k)).run Tryd.prog wA = .ok (.int .u8 68) wA := hx
          have HPX := hid (rnumF_any 8 (x.d) 8 rfl wA (by decide) (by have := HX.out.nd; omega))
          have c4 := HCA.out.row.cell' 4
          replace c4 : wA.cell? ⟨w.heap.size, 4, none⟩ = some (.int .u64 (x.d : Nat)) := c4
          clear hl8
          go_wp2_with fail
          refine HPX.out.mono ?_
          rintro e' w5 ⟨g, rfl, hr5, hb5, hg5⟩
          have HO5 := hid (own_below HO.out hb5)
          have HC5 := hid (HCA.out.below hb5)
          have HD5 := hid hr5.celB
          rw [leB_len] at HD5
          have HZ5 := hid (Nat.le_trans HBz.out hb5.size)
          clear hr5 hb5 hg5 c4
          go_wp2_with (at_builtin; go_must (refine wpList_ap1 Tryd.underlying24 infoBy rfl rfl _ _ rfl B (.slice ua l1.length uc) l1.length (l1.map B8) ((leB (x.d) 8).map B8) rfl (some ⟨g, 0, none⟩) 8 8 rfl HO5.out HD5.out (b8_ones _) (fun h => by cases h) HNa.out HNb.out HZ5.out ?_; intro v9 w9 hown hgrow hb9; have HO9 := hid (ownBy_app hown rfl); have HC9 := hid (HC5.out.move HX.out hb9 HB.out (Nat.le_of_lt HB.out)); obtain ⟨ga, gc, rfl⟩ := own_hd2 hown; clear hown hgrow hb9))
          go_roundw
          case rel => exact ⟨k + 1, by omega, by go_num, by rw [HNT.out, ← HAS.out]; exact own_ext HO9.out (by simp [leB_len]) rfl, HC9.out⟩
          case measure => simp [intOf]; omega
        · replace HNT := hid (show _ = _ ++ leB (x.e) 8 from HNT.out)
          replace HAS := hid (show _ ++ leB (x.e) 8 = _ ++ (_ ++ leB (x.e) 8) from HAS.out)
          replace hx : (Instr.index 9 (.string (ba L)) (.int .i64 k)).run Tryd.prog wA = .ok (.int .u8 69) wA := hx
          have HPX := hid (rnumF_any 8 (x.e) 8 rfl wA (by decide) (by have := HX.out.ne; omega))
          have c5 := HCA.out.row.cell' 5
          replace c5 : wA.cell? ⟨w.heap.size, 5, none⟩ = some (.int .u64 (x.e : Nat)) := c5
          clear hl8
          go_wp2_with fail
          refine HPX.out.mono ?_
          rintro e' w5 ⟨g, rfl, hr5, hb5, hg5⟩
          have HO5 := hid (own_below HO.out hb5)
          have HC5 := hid (HCA.out.below hb5)
          have HD5 := hid hr5.celB
          rw [leB_len] at HD5
          have HZ5 := hid (Nat.le_trans HBz.out hb5.size)
          clear hr5 hb5 hg5 c5
          go_wp2_with (at_builtin; go_must (refine wpList_ap1 Tryd.underlying24 infoBy rfl rfl _ _ rfl B (.slice ua l1.length uc) l1.length (l1.map B8) ((leB (x.e) 8).map B8) rfl (some ⟨g, 0, none⟩) 8 8 rfl HO5.out HD5.out (b8_ones _) (fun h => by cases h) HNa.out HNb.out HZ5.out ?_; intro v9 w9 hown hgrow hb9; have HO9 := hid (ownBy_app hown rfl); have HC9 := hid (HC5.out.move HX.out hb9 HB.out (Nat.le_of_lt HB.out)); obtain ⟨ga, gc, rfl⟩ := own_hd2 hown; clear hown hgrow hb9))
          go_roundw
          case rel => exact ⟨k + 1, by omega, by go_num, by rw [HNT.out, ← HAS.out]; exact own_ext HO9.out (by simp [leB_len]) rfl, HC9.out⟩
          case measure => simp [intOf]; omega
        · replace HNT := hid (show _ = _ ++ txB x.path from HNT.out)
          replace HAS := hid (show _ ++ txB x.path = _ ++ (_ ++ txB x.path) from HAS.out)
          replace hx : (Instr.index 9 (.string (ba L)) (.int .i64 k)).run Tryd.prog wA = .ok (.int .u8 80) wA := hx
          have c6 := HCA.out.c6
          have HPX := hid (rtextF_any B _ _ x.path wA HO.out HBz.out (by omega) (by have := HP.out; omega))
          clear hl8
          go_wp2_with fail
          refine HPX.out.mono ?_
          rintro e' w5 ⟨v5, rfl, ho5, hb5, hk5⟩
          have HO5 := hid ho5
          have HC5 := hid (HCA.out.move HX.out hb5 HB.out (Nat.le_of_lt HB.out))
          obtain ⟨v5a, v5c, rfl⟩ := own_hd2 ho5
          clear ho5 hb5 hk5
          go_wp2_with fail
          go_roundw
          case rel => exact ⟨k + 1, by omega, by go_num, by rw [HNT.out, ← HAS.out, ← List.length_append]; exact HO5.out, HC5.out⟩
          case measure => simp [intOf]; omega
        · replace HNT := hid (show _ = _ ++ lsB x.argv from HNT.out)
          replace HAS := hid (show _ ++ lsB x.argv = _ ++ (_ ++ lsB x.argv) from HAS.out)
          replace hx : (Instr.index 9 (.string (ba L)) (.int .i64 k)).run Tryd.prog wA = .ok (.int .u8 86) wA := hx
          have c7 := HCA.out.c7
          have HPX := hid (rlistF_any B _ _ x.va x.vc x.argv wA HO.out (fun w' hb => (HX.out.below (HCA.out.low.trans (hb.mono (Nat.le_of_lt HB.out)))).argv) HBz.out hl8 (by have := (HOK.out.argv rfl).1; omega) (fun p hp => Nat.le_trans ((HOK.out.argv rfl).2 p hp) (by decide)))
          clear hl8
          go_wp2_with fail
          refine HPX.out.mono ?_
          rintro e' w5 ⟨v5, rfl, ho5, hb5, hk5⟩
          have HO5 := hid ho5
          have HC5 := hid (HCA.out.move HX.out hb5 HB.out (Nat.le_of_lt HB.out))
          obtain ⟨v5a, v5c, rfl⟩ := own_hd2 ho5
          clear ho5 hb5 hk5
          go_wp2_with fail
          go_roundw
          case rel => exact ⟨k + 1, by omega, by go_num, by rw [HNT.out, ← HAS.out, ← List.length_append]; exact HO5.out, HC5.out⟩
          case measure => simp [intOf]; omega
        · replace HNT := hid (show _ = _ ++ lsB x.env from HNT.out)
          replace HAS := hid (show _ ++ lsB x.env = _ ++ (_ ++ lsB x.env) from HAS.out)
          replace hx : (Instr.index 9 (.string (ba L)) (.int .i64 k)).run Tryd.prog wA = .ok (.int .u8 87) wA := hx
          have c8 := HCA.out.c8
          have HPX := hid (rlistF_any B _ _ x.ea x.ec x.env wA HO.out (fun w' hb => (HX.out.below (HCA.out.low.trans (hb.mono (Nat.le_of_lt HB.out)))).env) HBz.out hl8 (by have := (HOK.out.env rfl).1; omega) (fun p hp => Nat.le_trans ((HOK.out.env rfl).2 p hp) (by decide)))
          clear hl8
          go_wp2_with fail
          refine HPX.out.mono ?_
          rintro e' w5 ⟨v5, rfl, ho5, hb5, hk5⟩
          have HO5 := hid ho5
          have HC5 := hid (HCA.out.move HX.out hb5 HB.out (Nat.le_of_lt HB.out))
          obtain ⟨v5a, v5c, rfl⟩ := own_hd2 ho5
          clear ho5 hb5 hk5
          go_wp2_with fail
          go_roundw
          case rel => exact ⟨k + 1, by omega, by go_num, by rw [HNT.out, ← HAS.out, ← List.length_append]; exact HO5.out, HC5.out⟩
          case measure => simp [intOf]; omega
        · replace HNT := hid (show _ = _ ++ txB x.bytes from HNT.out)
          replace HAS := hid (show _ ++ txB x.bytes = _ ++ (_ ++ txB x.bytes) from HAS.out)
          replace hx : (Instr.index 9 (.string (ba L)) (.int .i64 k)).run Tryd.prog wA = .ok (.int .u8 88) wA := hx
          have c9 := HCA.out.c9
          have hcv : (convert 24 9 (.slice x.ya x.bytes.length x.yc)).run Tryd.prog wA = .ok (.string (ba x.bytes)) wA := HCA.out.ok.bytes.str 24 9 5 x.yc Tryd.underlying24 Tryd.underlying5 Tryd.underlying9
          have HPX := hid (rtextF_any B _ _ x.bytes wA HO.out HBz.out (by omega) (by have := HOK.out.bytes rfl; omega))
          clear hl8
          go_wp2_with fail
          refine HPX.out.mono ?_
          rintro e' w5 ⟨v5, rfl, ho5, hb5, hk5⟩
          have HO5 := hid ho5
          have HC5 := hid (HCA.out.move HX.out hb5 HB.out (Nat.le_of_lt HB.out))
          obtain ⟨v5a, v5c, rfl⟩ := own_hd2 ho5
          clear ho5 hb5 hk5
          go_wp2_with fail
          go_roundw
          case rel => exact ⟨k + 1, by omega, by go_num, by rw [HNT.out, ← HAS.out, ← List.length_append]; exact HO5.out, HC5.out⟩
          case measure => simp [intOf]; omega
      · have d1 : decide ((k : Int) < (L.length : Int)) = false := by simp; omega
        have d1n : decide (k < L.length) = false := by simp; omega
        have HTT := hid (show L.take k = L by rw [List.take_of_length_le (by omega)])
        have HFI := hid (show OwnBy wA w.heap.size _ (formB x) from own_ext (own_from HO.out (Nat.le_of_lt HB.out)) (by rw [HTT.out, HFA.out]; rfl) (by rw [HTT.out, HFA.out]; rfl))
        have HFP := hid (fun (u : Value) (h : OwnBy wA w.heap.size u (formB x)) => show FormP x w (.returned (.tuple #[u, .int .i64 0])) wA from ⟨HCA.out.low, by rw [if_pos HCK.out]; exact ⟨_, rfl, h⟩⟩)
        go_wp2_with fail
        go_ret2
        exact HFP.out _ HFI.out
  · have HCK := hid hc
    have HF := hid (show FormP x w (.returned (.tuple #[.slice none 0 0, .int .i64 (chkC x)])) w2 from ⟨HC2.out.low, by rw [if_neg hc]⟩)
    have hn := bne_t hc
    have hn2 := beq_f hc
    clear hc
    generalize hr : chkC x = r at *
    clear hr HCK
    go_wp2_with fail
    go_ret2
    exact HF.out
end Go.Proofs.YtcbkikioapdbbaaDoor
namespace Go.Proofs.YtcbkikioapdbbaaDoor
open Go.RowKit Go.Sort
attribute [local go_sem] Oper.semAt_some

/-- The reference's reader. -/
structure Rq (w : World) (r : Nat) (b off cap : Nat) (l : BL) (p : Nat) (sh : Bool) : Prop where
  row : Row w r 80 [.slice (some ⟨b, off, none⟩) l.length cap, .int .i64 p, .bool sh]
  byt : Byt w (some ⟨b, off, none⟩) l.length l
  ne : b ≠ r
theorem Rq.x1 {w w' : World} {r b off cap p k : Nat} {l : BL} {sh : Bool} (h : Rq w r b off cap l p sh) (hx : X1 w w' k) (hr : r ≠ k) (hne : b ≠ k) : Rq w' r b off cap l p sh := ⟨hx.row h.row hr, hx.byt h.byt (fun d e => by cases e; exact hne), h.ne⟩
theorem Rq.setP {w : World} {r b off cap p : Nat} {l : BL} {sh : Bool} (h : Rq w r b off cap l p sh) (q : Nat) : Rq (w.setCell ⟨r, 1, none⟩ (.int .i64 (q : Nat))) r b off cap l q sh :=
  ⟨h.row.set 1 _, ((X1.refl w r).set 1 _).byt h.byt (fun d e => by cases e; exact h.ne), h.ne⟩
theorem Rq.setS {w : World} {r b off cap p : Nat} {l : BL} {sh : Bool} (h : Rq w r b off cap l p sh) (q : Bool) : Rq (w.setCell ⟨r, 2, none⟩ (.bool q)) r b off cap l p q :=
  ⟨h.row.set 2 _, ((X1.refl w r).set 2 _).byt h.byt (fun d e => by cases e; exact h.ne), h.ne⟩
theorem Rq.below {w w' : World} {r b off cap p : Nat} {l : BL} {sh : Bool} (h : Rq w r b off cap l p sh) (hb : Below w.heap.size w w') : Rq w' r b off cap l p sh := ⟨h.row.below hb h.row.lt, h.byt.below' hb, h.ne⟩
theorem Rq.move {w w' : World} {B r b off cap p : Nat} {l : BL} {sh : Bool} (h : Rq w r b off cap l p sh) (hb : Below B w w') (hr : r < B) (hbB : b < B) : Rq w' r b off cap l p sh :=
  ⟨h.row.below hb hr, ⟨h.byt.hlen, fun i hi => by
    obtain ⟨b', off', e, hc⟩ := h.byt.cell i hi
    cases e
    exact ⟨b, off, rfl, (hb.cell (p := ⟨b, off + i, none⟩) hbB).trans hc⟩⟩, h.ne⟩
def tkS (l : BL) (p n : Nat) (sh : Bool) : Bool := sh || decide (l.length < p + n)
def tkB (l : BL) (p n : Nat) (sh : Bool) : BL := if tkS l p n sh then [] else (l.drop p).take n
def tkP (l : BL) (p n : Nat) (sh : Bool) : Nat := if tkS l p n sh then p else p + n
theorem tkP_le {l : BL} {p n : Nat} {sh : Bool} (hp : p ≤ l.length) : tkP l p n sh ≤ l.length := by
  unfold tkP
  split
  · exact hp
  · rename_i h
    unfold tkS at h
    simp at h
    omega
theorem tkB_len (l : BL) (p n : Nat) (sh : Bool) : (tkB l p n sh).length ≤ n ∧ (tkB l p n sh).length ≤ l.length := by
  unfold tkB
  split
  · exact ⟨Nat.zero_le _, Nat.zero_le _⟩
  · rw [List.length_take, List.length_drop]; omega
def TkP (r b off cap : Nat) (l : BL) (p n : Nat) (sh : Bool) (w : World) (e : Ending) (w' : World) : Prop := ∃ a' c', e = .returned (.slice a' (tkB l p n sh).length c') ∧ Byt w' a' (tkB l p n sh).length (tkB l p n sh) ∧ Rq w' r b off cap l (tkP l p n sh) (tkS l p n sh) ∧ X1 w w' r

set_option maxRecDepth 100000 in
set_option maxHeartbeats 4000000 in
theorem take_any (r b off cap : Nat) (l : BL) (p n : Nat) (ni : Int) (hni : ni = (n : Nat)) (sh : Bool) (w : World) (hr : Rq w r b off cap l p sh) (hl : l.length ≤ 1000000000) (hp : p ≤ l.length) (hcap : l.length ≤ cap) (hn : n ≤ 1000000) :
    Calls Tryd.prog 65 #[.pointer (some ⟨r, 0, none⟩), .int .i64 ni] w (TkP r b off cap l p n sh w) := by
  subst hni
  have HR := hid hr
  have c0 : w.cell? ⟨r, 0, none⟩ = some (.slice (some ⟨b, off, none⟩) l.length cap) := hr.row.cell' 0
  have c1 : w.cell? ⟨r, 1, none⟩ = some (.int .i64 p) := hr.row.cell' 1
  have c2 : w.cell? ⟨r, 2, none⟩ = some (.bool sh) := hr.row.cell' 2
  have hlt := hr.row.lt
  have z1 := hr.row.frozen 1
  have z2 := hr.row.frozen 2
  clear hr
  cases sh
  · by_cases hf : l.length < p + n
    · have HS := hid (show tkS l p n false = true by unfold tkS; simp; omega)
      have HB := hid (show tkB l p n false = [] by unfold tkB; rw [HS.out]; rfl)
      have HP := hid (show tkP l p n false = p by unfold tkP; rw [HS.out]; rfl)
      have d1 : decide ((l.length : Int) - (p : Int) < (n : Int)) = true := by simp; omega
      go_enter Tryd.func65, Tryd.ntmps65
      go_wp2_with fail
      go_quiet (fail)
      go_wp2_with fail
      go_ret
      refine ⟨none, 0, by rw [HB.out]; rfl, by rw [HB.out]; exact Byt.nil _ _, ?_, ?_⟩
      · rw [HS.out, HP.out]
        exact Rq.setS (HR.out.below (drewN_below w _)) true
      · exact (X1.of r (drewN_below w _)).set 2 _
    · have HS := hid (show tkS l p n false = false by unfold tkS; simp; omega)
      have HB := hid (show tkB l p n false = (l.drop p).take n by unfold tkB; rw [HS.out]; rfl)
      have HP := hid (show tkP l p n false = p + n by unfold tkP; rw [HS.out]; rfl)
      have HL := hid (show ((l.drop p).take n).length = n by rw [List.length_take, List.length_drop]; omega)
      have d1 : decide ((l.length : Int) - (p : Int) < (n : Int)) = false := by simp; omega
      obtain ⟨a', hsl, ha⟩ := slFTc .i64 .i64 b off l.length cap p (p + n) (p : Int) ((p : Int) + (n : Int)) rfl (by omega) (by omega) (by omega)
      rw [show p + n - p = n by omega] at hsl
      have HA := hid (fun (w' : World) (h : Byt w' (some ⟨b, off, none⟩) l.length l) => Byt.mid2 h (by omega : p + n ≤ l.length) hcap ha)
      clear ha hf
      go_enter Tryd.func65, Tryd.ntmps65
      go_wp2_with fail
      go_quiet (fail)
      go_wp2_with fail
      go_quiet (fail)
      go_wp2_with fail
      go_ret
      refine ⟨a', cap - p, by rw [HB.out, HL.out]; rfl, by rw [HB.out, HL.out]; exact HA.out _ (Rq.setP (HR.out.below (drewN_below w _)) (p + n)).byt, ?_, ?_⟩
      · rw [HS.out, HP.out]
        exact Rq.setP (HR.out.below (drewN_below w _)) (p + n)
      · exact (X1.of r (drewN_below w _)).set 1 _
  · have HS := hid (show tkS l p n true = true from rfl)
    have HB := hid (show tkB l p n true = [] from rfl)
    have HP := hid (show tkP l p n true = p from rfl)
    go_enter Tryd.func65, Tryd.ntmps65
    go_wp2_with fail
    go_quiet (fail)
    go_wp2_with fail
    go_ret
    refine ⟨none, 0, by rw [HB.out]; rfl, by rw [HB.out]; exact Byt.nil _ _, ?_, ?_⟩
    · rw [HS.out, HP.out]
      exact Rq.setS (HR.out.below (drewN_below w _)) true
    · exact (X1.of r (drewN_below w _)).set 2 _

/-- What a number that is read says, if it was there. -/
theorem tk_rd {l : BL} {p n : Nat} {sh : Bool} (h : tkS l p n sh = false) : le (tkB l p n sh) = rdN l p n ∧ tkP l p n sh = rdP l p n := by
  have hf : p + n ≤ l.length := by
    unfold tkS at h
    simp at h
    omega
  unfold tkB tkP rdN rdP
  simp [h, hf]
theorem tk_rdS (l : BL) (p n : Nat) (sh : Bool) : tkS l p n sh = rdS l p n sh := by
  unfold tkS rdS
  cases sh
  · split <;> simp <;> omega
  · simp
theorem le_dropC (B : BL) (j : Nat) (h : j < B.length) : le (B.drop j) = B[j].toNat + 256 * le (B.drop (j + 1)) := by
  rw [List.drop_eq_getElem_cons h]
  rfl
def NqP (r b off cap : Nat) (l : BL) (p n : Nat) (sh : Bool) (w : World) (e : Ending) (w' : World) : Prop := ∃ x p', e = .returned (.int .u64 (x : Nat)) ∧ Rq w' r b off cap l p' (rdS l p n sh) ∧ (rdS l p n sh = false → x = rdN l p n ∧ p' = rdP l p n) ∧ p' ≤ l.length ∧ x < 256 ^ n ∧ X1 w w' r

set_option maxRecDepth 100000 in
set_option maxHeartbeats 4000000 in
theorem rqnumber_any (r b off cap : Nat) (l : BL) (p n : Nat) (ni : Int) (hni : ni = (n : Nat)) (sh : Bool) (w : World) (hr : Rq w r b off cap l p sh) (hl : l.length ≤ 1000000000) (hp : p ≤ l.length) (hcap : l.length ≤ cap) (hn : n ≤ 8) :
    Calls Tryd.prog 51 #[.pointer (some ⟨r, 0, none⟩), .int .i64 ni] w (NqP r b off cap l p n sh w) := by
  have HT := hid (take_any r b off cap l p n ni hni sh w hr hl hp hcap (by omega))
  have hlen := (tkB_len l p n sh).1
  have HRD := hid (fun h => tk_rd (l := l) (p := p) (n := n) (sh := sh) h)
  have HRS := hid (tk_rdS l p n sh)
  have HPL := hid (tkP_le (l := l) (n := n) (sh := sh) hp)
  subst hni
  clear hr hcap
  go_enter Tryd.func51, Tryd.ntmps51
  go_wp2_with fail
  refine HT.out.mono ?_
  rintro e' w1 ⟨a', c', rfl, hb, hr1, hx1⟩
  rw [HRS.out] at hr1 HRD
  have HB := hid hb
  have HR1 := hid hr1
  have HX1 := hid hx1
  generalize tkB l p n sh = B at *
  generalize tkP l p n sh = p' at *
  clear hb hr1 hx1 HT HRS
  have hb8 : B.length ≤ 8 := by omega
  have HLT := hid (show le B < 256 ^ n from Nat.lt_of_lt_of_le (le_lt B) (Nat.pow_le_pow_right (by decide) hlen))
  go_wp2_with fail
  go_loopw [6, 7] (fun x i wr => ∃ (iv : Int) (k : Nat), k ≤ B.length ∧ Hid (iv = (k : Int) - 1) ∧ i = .int .i64 iv ∧ x = .int .u64 (le (B.drop k) : Nat) ∧ wr = w1) (fun _ i _ => (intOf i + 1).toNat)
  case atStart => exact ⟨_, B.length, Nat.le_refl _, hid rfl, rfl, by simp [le], rfl⟩
  case round =>
    obtain ⟨iv, k, hk, hiv, rfl, rfl, rfl⟩ := hrel
    cases k with
    | zero =>
      have e : iv = -1 := by have := hiv.out; omega
      subst e
      have d1 : decide ((0 : Int) ≤ -1) = false := by decide
      have HD := hid (show le (B.drop 0) = le B by simp)
      go_wp2_with fail
      go_ret
      exact ⟨_, _, rfl, HR1.out, fun h => ⟨by rw [HD.out]; exact (HRD.out h).1, (HRD.out h).2⟩, HPL.out, by rw [HD.out]; exact HLT.out, HX1.out⟩
    | succ j =>
      have e : iv = (j : Int) := by have := hiv.out; omega
      subst e
      have hj : j < B.length := by omega
      have d1 : decide ((0 : Int) ≤ (j : Int)) = true := by simp
      obtain ⟨b2, o2, rfl, hc⟩ := HB.out.some_of (by omega)
      have hx := hc j hj
      have HLE := hid (le_dropC B j hj)
      have hq := le_lt (B.drop (j + 1))
      have hq2 : 256 ^ (B.drop (j + 1)).length ≤ 256 ^ 7 := Nat.pow_le_pow_right (by decide) (by rw [List.length_drop]; omega)
      have hq3 : le (B.drop (j + 1)) < 72057594037927936 := Nat.lt_of_lt_of_le hq hq2
      have hc8 : B[j].toNat < 256 := UInt8.toNat_lt _
      generalize le (B.drop (j + 1)) = y at *
      generalize B[j].toNat = c8 at *
      have hw1 := IntWalk.u64_in (256 * (y : Int)) (by omega)
      have hw2 := IntWalk.u64_in (c8 : Int) (by omega)
      have hw3 := IntWalk.u64_in (256 * (y : Int) + (c8 : Int)) (by omega)
      have HV := hid (show (256 * (y : Int) + (c8 : Int)) = ((le (B.drop j) : Nat) : Int) by rw [HLE.out]; push_cast; omega)
      clear hq hq2 hc
      go_wp2_with fail
      go_roundw
      case rel => exact ⟨_, j, by omega, hid rfl, by go_num, by rw [HV.out], by first | rfl | trivial⟩
      case measure => simp [intOf]

def TqP (r b off cap : Nat) (l : BL) (p : Nat) (sh : Bool) (w : World) (e : Ending) (w' : World) : Prop := ∃ t p', e = .returned (.string (ba t)) ∧ Rq w' r b off cap l p' (txS l p sh) ∧ (txS l p sh = false → t = txT l p sh ∧ p' = txP l p sh) ∧ p' ≤ l.length ∧ t.length ≤ l.length ∧ X1 w w' r
theorem tx_tk {l : BL} {p p' n : Nat} {sh : Bool} (h1 : rdS l p 2 sh = false → n = rdN l p 2 ∧ p' = rdP l p 2) : tkS l p' n (rdS l p 2 sh) = txS l p sh ∧ (txS l p sh = false → tkB l p' n (rdS l p 2 sh) = txT l p sh ∧ tkP l p' n (rdS l p 2 sh) = txP l p sh) := by
  cases hs : rdS l p 2 sh
  · obtain ⟨rfl, rfl⟩ := h1 hs
    have e : tkS l (rdP l p 2) (rdN l p 2) false = txS l p sh := by
      unfold tkS txS txOk txN
      rw [hs]
      simp
      rw [Bool.eq_iff_iff]
      simp
    refine ⟨e, fun h => ?_⟩
    have ht : txOk l p sh = true := by
      unfold txS at h
      simpa using h
    unfold tkB tkP txT txP
    rw [e, h, ht]
    exact ⟨rfl, rfl⟩
  · have e : txS l p sh = true := by
      unfold txS txOk
      rw [hs]
      rfl
    rw [e]
    exact ⟨rfl, fun h => by cases h⟩

set_option maxRecDepth 100000 in
set_option maxHeartbeats 4000000 in
theorem rqtext_any (r b off cap : Nat) (l : BL) (p : Nat) (sh : Bool) (w : World) (hr : Rq w r b off cap l p sh) (hl : l.length ≤ 1000000000) (hp : p ≤ l.length) (hcap : l.length ≤ cap) :
    Calls Tryd.prog 52 #[.pointer (some ⟨r, 0, none⟩)] w (TqP r b off cap l p sh w) := by
  have HN := hid (rqnumber_any r b off cap l p 2 2 rfl sh w hr hl hp hcap (by decide))
  have HTK := hid (fun (p' n : Nat) (s : Bool) (w' : World) (h : Rq w' r b off cap l p' s) (hp' : p' ≤ l.length) (hn : n ≤ 1000000) => take_any r b off cap l p' n n rfl s w' h hl hp' hcap hn)
  clear hr hcap
  go_enter Tryd.func52, Tryd.ntmps52
  go_wp2_with fail
  refine HN.out.mono ?_
  rintro e' w1 ⟨n, p', rfl, hr1, h1, hp1, hn1, hx1⟩
  have hn1 : n < 65536 := hn1
  have hw := IntWalk.i64_in (n : Int) (by omega)
  have HX1 := hid hx1
  have HT := hid (HTK.out p' n _ w1 hr1 hp1 (by omega))
  have HTX := hid (tx_tk h1)
  have HPL := hid (tkP_le (l := l) (n := n) (sh := rdS l p 2 sh) hp1)
  have HBL := hid (tkB_len l p' n (rdS l p 2 sh)).2
  clear hr1 h1 hx1 HN
  go_wp2_with fail
  refine HT.out.mono ?_
  rintro e' w2 ⟨a', c', rfl, hb2, hr2, hx2⟩
  rw [HTX.out.1] at hr2
  have HR2 := hid hr2
  have HX2 := hid (HX1.out.trans hx2)
  have HTX2 := hid HTX.out.2
  have hcv : (convert 24 9 (.slice a' (tkB l p' n (rdS l p 2 sh)).length c')).run Tryd.prog w2 = .ok (.string (ba (tkB l p' n (rdS l p 2 sh)))) w2 := hb2.str 24 9 5 c' Tryd.underlying24 Tryd.underlying5 Tryd.underlying9
  clear hr2 hx2 hb2 HTX HT hw
  generalize tkB l p' n (rdS l p 2 sh) = t at *
  go_wp2_with fail
  go_ret
  exact ⟨t, _, rfl, HR2.out, HTX2.out, HPL.out, HBL.out, HX2.out⟩
end Go.Proofs.YtcbkikioapdbbaaDoor
namespace Go.Proofs.YtcbkikioapdbbaaDoor
open Go.RowKit Go.Sort
attribute [local go_sem] Oper.semAt_some

theorem txS_true (l : BL) (p : Nat) : txS l p true = true := by
  unfold txS txOk rdS
  split <;> rfl
theorem tsGo_up {l : BL} {q : Nat} {s : Bool} {k : Nat} (h : (tsGo l k q s).2.2 = true) : ∀ d, (tsGo l (k + d) q s).2.2 = true
  | 0 => h
  | d + 1 => by
    have := tsGo_up h d
    show txS l (tsGo l (k + d) q s).2.1 (tsGo l (k + d) q s).2.2 = true
    rw [this]
    exact txS_true _ _
theorem tsGo_mono {l : BL} {q : Nat} {s : Bool} {k m : Nat} (h : (tsGo l k q s).2.2 = true) (hm : k ≤ m) : (tsGo l m q s).2.2 = true := by
  obtain ⟨d, rfl⟩ := Nat.exists_eq_add_of_le hm
  exact tsGo_up h d
def LqP (r b off cap : Nat) (l : BL) (p : Nat) (sh : Bool) (w : World) (e : Ending) (w' : World) : Prop := ∃ v ds p', e = .returned v ∧ OwnS w' w.heap.size v ds ∧ Rq w' r b off cap l p' (tsS l p sh) ∧ (tsS l p sh = false → ds = tsT l p sh ∧ p' = tsP l p sh) ∧ p' ≤ l.length ∧ ds.length ≤ 255 ∧ (∀ t ∈ ds, t.length ≤ l.length) ∧ X1 w w' r

set_option maxRecDepth 100000 in
set_option maxHeartbeats 4000000 in
theorem rqlist_any (r b off cap : Nat) (l : BL) (p : Nat) (sh : Bool) (w : World) (hr : Rq w r b off cap l p sh) (hb : b < w.heap.size) (hl : l.length ≤ 1000000000) (hp : p ≤ l.length) (hcap : l.length ≤ cap) :
    Calls Tryd.prog 53 #[.pointer (some ⟨r, 0, none⟩)] w (LqP r b off cap l p sh w) := by
  have HN := hid (rqnumber_any r b off cap l p 1 1 rfl sh w hr hl hp hcap (by decide))
  have HRL := hid hr.row.lt
  have HBL := hid hb
  have HTK := hid (fun (p' : Nat) (s : Bool) (w' : World) (h : Rq w' r b off cap l p' s) (hp' : p' ≤ l.length) => rqtext_any r b off cap l p' s w' h hl hp' hcap)
  clear hr hcap hb
  go_enter Tryd.func53, Tryd.ntmps53
  go_wp2_with fail
  refine HN.out.mono ?_
  rintro e' w1 ⟨n, p0, rfl, hr1, h1, hp1, hn1, hx1⟩
  have hn1 : n < 256 := hn1
  have hw := IntWalk.i64_in (n : Int) (by omega)
  have HX1 := hid hx1
  have HR1 := hid hr1
  have H1 := hid h1
  obtain ⟨N, hN⟩ : ∃ N, N = rdN l p 1 := ⟨_, rfl⟩
  obtain ⟨q, hq⟩ : ∃ q, q = rdP l p 1 := ⟨_, rfl⟩
  obtain ⟨s, hs⟩ : ∃ s, s = rdS l p 1 sh := ⟨_, rfl⟩
  have HTS := hid (show tsS l p sh = (tsGo l N q s).2.2 ∧ tsT l p sh = (tsGo l N q s).1 ∧ tsP l p sh = (tsGo l N q s).2.1 by rw [hN, hq, hs]; exact ⟨rfl, rfl, rfl⟩)
  rw [← hN, ← hq, ← hs] at H1
  rw [← hs] at HR1
  clear hr1 h1 hx1 HN hN hq hs
  go_wp2_with fail
  go_loopw [3, 5] (fun v i wr => ∃ (k p' : Nat) (s' : Bool) (ds : List BL), k ≤ n ∧ i = .int .i64 k ∧ OwnS wr w.heap.size v ds ∧ Rq wr r b off cap l p' s' ∧ s' = (tsGo l k q s).2.2 ∧ (s' = false → ds = (tsGo l k q s).1 ∧ p' = (tsGo l k q s).2.1) ∧ p' ≤ l.length ∧ ds.length ≤ k ∧ (∀ t ∈ ds, t.length ≤ l.length) ∧ X1 w wr r) (fun _ i _ => n - (intOf i).toNat)
  case atStart => exact ⟨0, p0, s, [], Nat.zero_le _, rfl, ownS_nil _ _, HR1.out, rfl, fun h => ⟨rfl, (H1.out h).2⟩, hp1, Nat.zero_le _, (fun t h => by cases h), HX1.out⟩
  case round =>
    obtain ⟨k, p', s', ds, hk, rfl, hown, hrq, hs', heq, hp', hdk, hdt, hxr⟩ := hrel
    rename World => wA
    have HO := hid hown
    have HRQ := hid hrq
    have HS' := hid hs'
    have HEQ := hid heq
    have HDT := hid hdt
    have HX := hid hxr
    have c2 : wA.cell? ⟨r, 2, none⟩ = some (.bool s') := hrq.row.cell' 2
    clear hown hrq hs' heq hdt hxr
    obtain ⟨ua, uc, rfl⟩ := own_hd2 HO.out
    by_cases hlt : k < n
    · have d1 : decide ((k : Int) < (n : Int)) = true := by simp; omega
      have d1n : decide (k < n) = true := by simp; omega
      cases s'
      · have HT := hid (HTK.out p' false wA HRQ.out hp')
        have HDL := hid (show ds.length ≤ 8000000000000 by omega)
        go_wp2_with fail
        refine HT.out.mono ?_
        rintro e' w5 ⟨t, p5, rfl, hr5, h5, hp5, ht5, hx5⟩
        have HR5 := hid hr5
        have H5 := hid h5
        have HX5 := hid (HX.out.trans hx5)
        have HO5 := hid (hx5.own HO.out (own_ne HO.out (.inl HRL.out)))
        have HT5 := hid ht5
        have HZ := hid HX5.out.size
        clear hr5 h5 hx5 ht5 c2
        go_wp2_with (at_builtin; go_must (refine wpList_appS rfl _ _ rfl w.heap.size (.slice ua ds.length uc) ds (ba t) rfl rfl HO5.out HDL.out HZ.out ?_; intro v' w9 hown hgrow hb9 hsz9 _; have HO9 := hid hown; have HB9 := hid hb9; obtain ⟨ga, gc, rfl⟩ := own_hd2 hown; clear hown hgrow hb9))
        obtain ⟨e1, e2⟩ := HEQ.out (by trivial)
        go_roundw
        case rel => exact ⟨k + 1, p5, _, ds ++ [t], by omega, by go_num, own_ext HO9.out (by simp) (by rw [ba_list]), HR5.out.move HB9.out HRL.out HBL.out, by
          show txS l p' false = txS l (tsGo l k q s).2.1 (tsGo l k q s).2.2
          rw [← e2, ← HS'.out], fun h => by
          obtain ⟨h6, h7⟩ := H5.out h
          have e3 : (tsGo l (k + 1) q s).1 = (tsGo l k q s).1 ++ [txT l (tsGo l k q s).2.1 (tsGo l k q s).2.2] := rfl
          have e4 : (tsGo l (k + 1) q s).2.1 = txP l (tsGo l k q s).2.1 (tsGo l k q s).2.2 := rfl
          rw [e3, e4, ← e1, ← e2, ← HS'.out, h6]
          exact ⟨rfl, h7⟩, hp5, by rw [List.length_append]; simp; omega, (fun y hy => by
          rcases List.mem_append.1 hy with hy | hy
          · exact HDT.out y hy
          · rw [List.mem_singleton.1 hy]; exact HT5.out), HX5.out.then HB9.out⟩
        case measure => simp [intOf]; omega
      · have HFS := hid (show tsS l p sh = true by
          rw [HTS.out.1]
          cases s
          · exact tsGo_mono (k := k) HS'.out.symm (by have := (H1.out rfl).1; omega)
          · exact tsGo_mono (k := 0) (m := N) rfl (Nat.zero_le _))
        go_wp2_with fail
        go_ret
        exact ⟨_, ds, p', rfl, HO.out, by rw [HFS.out]; exact HRQ.out, fun h => (by rw [HFS.out] at h; cases h), hp', by omega, HDT.out, HX.out⟩
    · have d1 : decide ((k : Int) < (n : Int)) = false := by simp; omega
      have d1n : decide (k < n) = false := by simp; omega
      obtain rfl : k = n := by omega
      have HFS := hid (show s' = tsS l p sh ∧ (tsS l p sh = false → k = N) by
        rw [HTS.out.1]
        cases s
        · have := (H1.out rfl).1
          subst this
          exact ⟨HS'.out, fun _ => rfl⟩
        · have e1 := tsGo_mono (l := l) (q := q) (s := true) (k := 0) (m := N) rfl (Nat.zero_le _)
          have e2 := tsGo_mono (l := l) (q := q) (s := true) (k := 0) (m := k) rfl (Nat.zero_le _)
          rw [HS'.out, e1, e2]
          exact ⟨rfl, fun h => by cases h⟩)
      go_wp2_with fail
      go_ret
      refine ⟨_, ds, p', rfl, HO.out, by rw [← HFS.out.1]; exact HRQ.out, fun h => ?_, hp', by omega, HDT.out, HX.out⟩
      have e := HFS.out.2 h
      subst e
      rw [HTS.out.2.1, HTS.out.2.2]
      exact HEQ.out (by rw [HFS.out.1]; exact h)
end Go.Proofs.YtcbkikioapdbbaaDoor
namespace Go.Proofs.YtcbkikioapdbbaaDoor
open Go.RowKit Go.Sort
attribute [local go_sem] Oper.semAt_some

theorem fldR_up {l : BL} {f : Nat} {z : PC × Nat × Bool} (h : z.2.2 = true) : (fldR l f z).2.2 = true := by
  unfold fldR
  rw [h]
  have e1 : ∀ p n, rdS l p n true = true := fun p n => by unfold rdS; split <;> rfl
  have e2 : ∀ p, tsS l p true = true := fun p => by
    unfold tsS
    rw [e1]
    exact tsGo_mono (k := 0) rfl (Nat.zero_le _)
  split
  · exact txS_true _ _
  · split
    · exact e2 _
    · split
      · exact e2 _
      · split
        · exact txS_true _ _
        · exact e1 _ _
theorem OwnC.setC {w : World} {base cb j : Nat} {x y : CG} {u : Value} (h : OwnC w base x) (hb : cb < base) (h1 : OwnC w base y) : OwnC (w.setCell ⟨cb, j, none⟩ u) base y := by
  have hbl : ∀ k, k ≠ cb → (w.setCell ⟨cb, j, none⟩ u).heap[k]? = w.heap[k]? := fun k hk => heap_setCell_other w _ k u hk
  have hcell : ∀ d o v, d ≠ cb → w.cell? ⟨d, o, none⟩ = some v → (w.setCell ⟨cb, j, none⟩ u).cell? ⟨d, o, none⟩ = some v := fun d o v hd hc => by
    rw [World.cell?_of_block (a := ⟨d, o, none⟩) (hbl d hd)]
    exact hc
  have hl : ∀ {E : TypeId} {a : Option Addr}, Lies w base E a → Lies (w.setCell ⟨cb, j, none⟩ u) base E a := fun hL d e => by
    obtain ⟨g1, cs, m, hc⟩ := hL d e
    exact ⟨g1, cs, m, by rw [hbl _ (by omega)]; exact hc⟩
  have hcel : ∀ {E : TypeId} {a : Option Addr} {n : Nat} {cs : List Value}, Lies w base E a → Cel w a n cs → Cel (w.setCell ⟨cb, j, none⟩ u) a n cs := fun hL hC => ⟨hC.hlen, fun i hi => by
    obtain ⟨b, off, e, hc⟩ := hC.cell i hi
    have hq : base ≤ b := (hL _ e).1
    exact ⟨b, off, e, hcell b _ _ (by omega) hc⟩⟩
  have hbyt : ∀ {E : TypeId} {a : Option Addr} {n : Nat} {l : BL}, Lies w base E a → Byt w a n l → Byt (w.setCell ⟨cb, j, none⟩ u) a n l := fun hL hC => ⟨hC.hlen, fun i hi => by
    obtain ⟨b, off, e, hc⟩ := hC.cell i hi
    have hq : base ≤ b := (hL _ e).1
    exact ⟨b, off, e, hcell b _ _ (by omega) hc⟩⟩
  exact { h1 with argv := hcel h1.la h1.argv, env := hcel h1.le h1.env, bytes := hbyt h1.lb h1.bytes, la := hl h1.la, le := hl h1.le, lb := hl h1.lb }
theorem OwnC.x1 {w w' : World} {base r : Nat} {x : CG} (h : OwnC w base x) (hx : X1 w w' r) (hr : r < base) : OwnC w' base x := by
  have hbl : ∀ {E : TypeId} {a : Option Addr}, Lies w base E a → ∀ d, a = some d → w'.heap[d.block]? = w.heap[d.block]? := fun hL d e => hx.block _ (hL.lt e) (by have := (hL d e).1; omega)
  have hl : ∀ {E : TypeId} {a : Option Addr}, Lies w base E a → Lies w' base E a := fun hL d e => by
    have hq := hbl hL d e
    obtain ⟨g1, cs, m, hc⟩ := hL d e
    exact ⟨g1, cs, m, by rw [hq]; exact hc⟩
  exact { h with argv := hx.cel h.argv (fun d e => by have := (h.la d e).1; omega), env := hx.cel h.env (fun d e => by have := (h.le d e).1; omega), bytes := hx.byt h.bytes (fun d e => by have := (h.lb d e).1; omega), la := hl h.la, le := hl h.le, lb := hl h.lb }
theorem OwnC.nums {w : World} {base : Nat} {x y : CG} (h : OwnC w base x) (hy : y.va = x.va ∧ y.vc = x.vc ∧ y.argv = x.argv ∧ y.ea = x.ea ∧ y.ec = x.ec ∧ y.env = x.env ∧ y.ya = x.ya ∧ y.yc = x.yc ∧ y.bytes = x.bytes) : OwnC w base y := by
  obtain ⟨e1, e2, e3, e4, e5, e6, e7, e8, e9⟩ := hy
  obtain ⟨h1, h2, h3, h4, h5, h6, h7, h8, h9, h10, h11, h12⟩ := h
  exact ⟨by rw [e1, e3]; exact h1, by rw [e4, e6]; exact h2, by rw [e7, e9]; exact h3, by rw [e1]; exact h4, by rw [e4]; exact h5, by rw [e7]; exact h6, by rw [e1, e2]; exact h7, by rw [e4, e5]; exact h8, by rw [e7, e8]; exact h9, by rw [e2, e3]; exact h10, by rw [e5, e6]; exact h11, by rw [e8, e9]; exact h12⟩
theorem OwnC.withA {w : World} {base : Nat} {x : CG} (h : OwnC w base x) {a : Option Addr} {c : Nat} {ds : List BL} (ho : w.ownsRow base 9 1 (.slice a ds.length c) ds.length (strs ds)) : OwnC w base { x with va := a, vc := c, argv := ds } := by
  have l1 := lies_own ho
  obtain ⟨a1, c1, q1, k1, n1, m1, _⟩ := own_cel ho
  cases q1
  exact { h with argv := k1, la := l1, ani := n1, acp := m1 }
theorem OwnC.withE {w : World} {base : Nat} {x : CG} (h : OwnC w base x) {a : Option Addr} {c : Nat} {ds : List BL} (ho : w.ownsRow base 9 1 (.slice a ds.length c) ds.length (strs ds)) : OwnC w base { x with ea := a, ec := c, env := ds } := by
  have l1 := lies_own ho
  obtain ⟨a1, c1, q1, k1, n1, m1, _⟩ := own_cel ho
  cases q1
  exact { h with env := k1, le := l1, eni := n1, ecp := m1 }
theorem OwnC.withY {w : World} {base : Nat} {x : CG} (h : OwnC w base x) {a : Option Addr} {c n : Nat} {t : BL} (hn : n = t.length) (ho : OwnM w base 5 (.slice a n c) n (t.map B8)) : OwnC w base { x with ya := a, yc := c, bytes := t } := by
  subst hn
  have hl : Lies w base 5 a := by
    obtain ⟨_, g2, cap2, cur, f1, f2, e3, hb, hrow, _⟩ := ho
    cases e3
    exact fun d e => by cases e; exact ⟨hb, cur, (f1, f2), hrow⟩
  obtain ⟨g, cap, e, k3, _, _, m3, _⟩ := ho.cel
  cases e
  exact { h with bytes := ⟨rfl, fun i hi => by
    obtain ⟨b, off, e, hc⟩ := k3.cell i (by rw [List.length_map]; exact hi)
    exact ⟨b, off, e, by rw [hc, List.getElem_map]; rfl⟩⟩, lb := hl, yni := fun e => (by cases e), ycp := m3 }
/-- What has been read so far. -/
structure RQ (w wr : World) (b off cap : Nat) (l : BL) (z : PC × Nat × Bool) (x : CG) (p : Nat) (s : Bool) : Prop where
  row : Row wr (w.heap.size + 1) 26 (cgC x)
  res : Row wr w.heap.size 26 (cgC (cgOf (pc0 0)))
  rd : Rq wr (w.heap.size + 2) b off cap l p s
  own : OwnC wr (w.heap.size + 3) x
  sh : s = z.2.2
  eq : s = false → pcOf x = z.1 ∧ p = z.2.1
  p : p ≤ l.length
  low : Below w.heap.size w wr
  size : w.heap.size + 3 ≤ wr.heap.size
theorem RQ.below {w wr w' : World} {b off cap p : Nat} {l : BL} {z : PC × Nat × Bool} {x : CG} {s : Bool} (h : RQ w wr b off cap l z x p s) (hb : Below wr.heap.size wr w') : RQ w w' b off cap l z x p s :=
  ⟨h.row.below hb h.row.lt, h.res.below hb h.res.lt, h.rd.below hb, h.own.below hb, h.sh, h.eq, h.p, h.low.trans (hb.mono h.low.size), Nat.le_trans h.size hb.size⟩
theorem ownC10 {W : World} {base : Nat} {x : CG} (h : OwnC W base x) (g : Nat) (hg : g < base) (u0 u1 u2 u3 u4 u5 u6 u7 u8 u9 : Value) :
    OwnC ((((((((((W.setCell ⟨g, 0, none⟩ u0).setCell ⟨g, 1, none⟩ u1).setCell ⟨g, 2, none⟩ u2).setCell ⟨g, 3, none⟩ u3).setCell ⟨g, 4, none⟩ u4).setCell ⟨g, 5, none⟩ u5).setCell ⟨g, 6, none⟩ u6).setCell ⟨g, 7, none⟩ u7).setCell ⟨g, 8, none⟩ u8).setCell ⟨g, 9, none⟩ u9) base x := by
  have s1 : ∀ {W : World} (o : Nat) (u : Value), OwnC W base x → OwnC (W.setCell ⟨g, o, none⟩ u) base x := fun o u h => h.setC hg h
  exact s1 9 u9 (s1 8 u8 (s1 7 u7 (s1 6 u6 (s1 5 u5 (s1 4 u4 (s1 3 u3 (s1 2 u2 (s1 1 u1 (s1 0 u0 h)))))))))
theorem readQ_bad {l : BL} {w w' : World} {e : Int} (h : readC l = (pc0 0, 0, e)) (hb : Below w.heap.size w w') : ReadQ l w (.returned (.tuple #[cgV (cgOf (pc0 0)), .int .i64 0, .int .i64 e])) w' := by
  unfold ReadQ
  rw [h]
  exact ⟨cgOf (pc0 0), rfl, rfl, hb, ⟨Cel.nil _ _, Cel.nil _ _, Byt.nil _ _, (fun d e => by cases e), (fun d e => by cases e), (fun d e => by cases e), fun _ => rfl, fun _ => rfl, fun _ => rfl, Nat.le_refl _, Nat.le_refl _, Nat.le_refl _⟩⟩
theorem size_set1 (W : World) (g o : Nat) (u : Value) : (W.setCell ⟨g, o, none⟩ u).heap.size = W.heap.size := by simp [World.setCell]
section
variable {w wr : World} {b off cap p : Nat} {l : BL} {z : PC × Nat × Bool} {x : CG} {sh : Bool}
theorem rdS_fld (f : Nat) (hf : f < 5) (h : RQ w wr b off cap l z x p sh) : rdS l p 8 sh = (fldR l f z).2.2 := by
  have e : (fldR l f z).2.2 = rdS l z.2.1 8 z.2.2 := by
    unfold fldR
    rw [if_neg (by omega), if_neg (by omega), if_neg (by omega), if_neg (by omega)]
  cases hs : sh
  · rw [e, ← h.sh, ← (h.eq hs).2, hs]
  · rw [fldR_up (h.sh.symm.trans hs)]
    unfold rdS; split <;> rfl
theorem num_fld (f : Nat) (hf : f < 5) (h : RQ w wr b off cap l z x p sh) {v p5 : Nat} (h5 : rdS l p 8 sh = false → v = rdN l p 8 ∧ p5 = rdP l p 8) (hs : rdS l p 8 sh = false) : pcOf (setCm x f v) = (fldR l f z).1 ∧ p5 = (fldR l f z).2.1 := by
  have h0 : sh = false := by
    cases hh : sh
    · rfl
    · rw [hh] at hs; unfold rdS at hs; split at hs <;> cases hs
  obtain ⟨e1, e2⟩ := h5 hs
  obtain ⟨q1, q2⟩ := h.eq h0
  unfold fldR
  rw [if_neg (by omega), if_neg (by omega), if_neg (by omega), if_neg (by omega), (setCm_c x f v hf).2, q1, e1, e2, q2]
  exact ⟨rfl, rfl⟩
theorem txS_fld5 (h : RQ w wr b off cap l z x p sh) : txS l p sh = (fldR l 5 z).2.2 := by
  cases hs : sh
  · show _ = txS l z.2.1 z.2.2
    rw [← h.sh, ← (h.eq hs).2, hs]
  · rw [fldR_up (h.sh.symm.trans hs), txS_true]
theorem txS_fld8 (h : RQ w wr b off cap l z x p sh) : txS l p sh = (fldR l 8 z).2.2 := by
  cases hs : sh
  · show _ = txS l z.2.1 z.2.2
    rw [← h.sh, ← (h.eq hs).2, hs]
  · rw [fldR_up (h.sh.symm.trans hs), txS_true]
theorem tx_sh {s : Bool} (hs : txS l p s = false) : s = false := by
  cases s
  · rfl
  · rw [txS_true] at hs; cases hs
theorem txt_fld (h : RQ w wr b off cap l z x p sh) {v : BL} {p5 : Nat} (h5 : txS l p sh = false → v = txT l p sh ∧ p5 = txP l p sh) (hs : txS l p sh = false) : pcOf { x with path := v } = (fldR l 5 z).1 ∧ p5 = (fldR l 5 z).2.1 := by
  have h0 := tx_sh hs
  obtain ⟨e1, e2⟩ := h5 hs
  obtain ⟨q1, q2⟩ := h.eq h0
  show { pcOf x with path := v } = { z.1 with path := txT l z.2.1 z.2.2 } ∧ p5 = txP l z.2.1 z.2.2
  rw [q1, e1, e2, q2, h.sh]
  exact ⟨rfl, rfl⟩
theorem byt_fld (h : RQ w wr b off cap l z x p sh) (hz : z.1.bytes = []) {v : BL} {p5 : Nat} (h5 : txS l p sh = false → v = txT l p sh ∧ p5 = txP l p sh) (hs : txS l p sh = false) {a : Option Addr} {c : Nat} : pcOf { x with ya := a, yc := c, bytes := v } = (fldR l 8 z).1 ∧ p5 = (fldR l 8 z).2.1 := by
  have h0 := tx_sh hs
  obtain ⟨e1, e2⟩ := h5 hs
  obtain ⟨q1, q2⟩ := h.eq h0
  show { pcOf x with bytes := v } = { z.1 with bytes := z.1.bytes ++ txT l z.2.1 z.2.2 } ∧ p5 = txP l z.2.1 z.2.2
  rw [q1, e1, e2, q2, h.sh, hz]
  exact ⟨rfl, rfl⟩
theorem tsS_true (l : BL) (p : Nat) : tsS l p true = true := by
  unfold tsS
  have e1 : rdS l p 1 true = true := by unfold rdS; split <;> rfl
  rw [e1]
  exact tsGo_mono (k := 0) rfl (Nat.zero_le _)
theorem tsS_fld (f : Nat) (hf : f = 6 ∨ f = 7) (h : RQ w wr b off cap l z x p sh) : tsS l p sh = (fldR l f z).2.2 := by
  cases hs : sh
  · have e : (fldR l f z).2.2 = tsS l z.2.1 z.2.2 := by rcases hf with rfl | rfl <;> rfl
    rw [e, ← h.sh, ← (h.eq hs).2, hs]
  · rw [fldR_up (h.sh.symm.trans hs), tsS_true]
theorem ts_sh {s : Bool} (hs : tsS l p s = false) : s = false := by
  cases s
  · rfl
  · rw [tsS_true] at hs; cases hs
theorem ls6_fld (h : RQ w wr b off cap l z x p sh) {ds : List BL} {p5 : Nat} (h5 : tsS l p sh = false → ds = tsT l p sh ∧ p5 = tsP l p sh) (hs : tsS l p sh = false) {a : Option Addr} {c : Nat} : pcOf { x with va := a, vc := c, argv := ds } = (fldR l 6 z).1 ∧ p5 = (fldR l 6 z).2.1 := by
  have h0 := ts_sh hs
  obtain ⟨e1, e2⟩ := h5 hs
  obtain ⟨q1, q2⟩ := h.eq h0
  show { pcOf x with argv := ds } = { z.1 with argv := tsT l z.2.1 z.2.2 } ∧ p5 = tsP l z.2.1 z.2.2
  rw [q1, e1, e2, q2, h.sh]
  exact ⟨rfl, rfl⟩
theorem ls7_fld (h : RQ w wr b off cap l z x p sh) {ds : List BL} {p5 : Nat} (h5 : tsS l p sh = false → ds = tsT l p sh ∧ p5 = tsP l p sh) (hs : tsS l p sh = false) {a : Option Addr} {c : Nat} : pcOf { x with ea := a, ec := c, env := ds } = (fldR l 7 z).1 ∧ p5 = (fldR l 7 z).2.1 := by
  have h0 := ts_sh hs
  obtain ⟨e1, e2⟩ := h5 hs
  obtain ⟨q1, q2⟩ := h.eq h0
  show { pcOf x with env := ds } = { z.1 with env := tsT l z.2.1 z.2.2 } ∧ p5 = tsP l z.2.1 z.2.2
  rw [q1, e1, e2, q2, h.sh]
  exact ⟨rfl, rfl⟩
end
/-- Bytes are read once. -/
theorem rdAll_y (l : BL) : ∀ (fs : List Nat) (z : PC × Nat × Bool), 8 ∉ fs → (rdAll l fs z).1.bytes = z.1.bytes
  | [], _, _ => rfl
  | f :: fs, z, h => by
    have h1 : f ≠ 8 := fun e => h (by rw [e]; exact List.mem_cons_self ..)
    have e : rdAll l (f :: fs) z = rdAll l fs (fldR l f z) := rfl
    rw [e, rdAll_y l fs _ (fun hm => h (List.mem_cons_of_mem _ hm))]
    unfold fldR
    split
    · rfl
    · split
      · rfl
      · split
        · rfl
        · exact (setNm_b _ _ _).1
theorem fds_88 (K : Nat) : ∀ k (h : k < (fdsR K).length), (fdsR K)[k] = 88 → 8 ∉ (fsL K).take k := by
  rw [← fds_let K]
  unfold fdsR
  split <;> first | decide | (intro k h; exact absurd h (by simp))

set_option maxRecDepth 100000 in
set_option maxHeartbeats 16000000 in
theorem rread25_any (b off cap : Nat) (l : BL) (w : World) (hB : Byt w (some ⟨b, off, none⟩) l.length l) (hbw : b < w.heap.size) (hl : l.length ≤ 1000000) (hcap : l.length ≤ cap) :
    Calls Tryd.prog 22 #[.slice (some ⟨b, off, none⟩) l.length cap] w (ReadQ l w) := by
  cases hl0 : l with
  | nil =>
    have HF := hid (show readC [] = (pc0 0, 0, 24) from rfl)
    go_enter Tryd.func22, Tryd.ntmps22
    go_wp2_with fail
    refine bodyPost_ret (v := .tuple #[cgV (cgOf (pc0 0)), .int .i64 0, .int .i64 24]) (by simp [results, Tryd.results22, go_sem, cgOf, pc0]; rfl) rfl (readQ_bad HF.out (bal _))
  | cons c lt =>
    rw [← hl0]
    have d1 : (((l.length : Nat) : Int) == 0) = false := by rw [hl0]; simp; omega
    have d1n : decide (l.length = 0) = false := by rw [hl0]; simp
    have hpos : 0 < l.length := by rw [hl0]; simp
    have hc0 : w.cell? ⟨b, off, none⟩ = some (.int .u8 c.toNat) := by
      obtain ⟨b', off', e, hc⟩ := hB.cell 0 hpos
      cases e
      simpa [hl0] using hc
    have HL0 := hid hl0
    clear hl0
    by_cases hk : 1 ≤ c.toNat ∧ c.toNat ≤ 12
    · have l1 : decide ((c.toNat : Int) < 1) = false := by simp; omega
      have l2 : decide ((12 : Int) < (c.toNat : Int)) = false := by simp; omega
      have hbox : ∀ W, (Instr.box 80 (.agg #[.slice (some ⟨b, off, none⟩) l.length cap, .int .i64 1, .bool false])).run Tryd.prog W = .ok (.pointer (some ⟨W.heap.size, 0, none⟩)) (W.alloc (.cells #[.slice (some ⟨b, off, none⟩) l.length cap, .int .i64 1, .bool false] 80)) := fun _ => by kernel_rfl
      obtain ⟨w2, hw2⟩ : ∃ w2, w2 = ((w.alloc (.cells #[.int .u8 0, .int .u64 0, .int .u64 0, .int .u64 0, .int .u64 0, .int .u64 0, .string { data := #[] }, .slice none 0 0, .slice none 0 0, .slice none 0 0] 26)).alloc (.cells #[.int .u8 (c.toNat : Nat), .int .u64 0, .int .u64 0, .int .u64 0, .int .u64 0, .int .u64 0, .string { data := #[] }, .slice none 0 0, .slice none 0 0, .slice none 0 0] 26)).alloc (.cells #[.slice (some ⟨b, off, none⟩) l.length cap, .int .i64 1, .bool false] 80) := ⟨_, rfl⟩
      have hb2 : Below w.heap.size w w2 := by rw [hw2]; exact bal2' (bal2' (bal _) _) _
      have hs2 : w2.heap.size = w.heap.size + 3 := by rw [hw2, World.size_alloc, World.size_alloc, World.size_alloc]
      have HQ2 := hid (show RQ w w2 b off cap l (rdAll l ((fsL c.toNat).take 0) (pc0 c.toNat, 1, false)) (cgOf (pc0 c.toNat)) 1 false from ⟨by
        rw [hw2]
        have h := (Row.new (w.alloc (.cells #[.int .u8 0, .int .u64 0, .int .u64 0, .int .u64 0, .int .u64 0, .int .u64 0, .string { data := #[] }, .slice none 0 0, .slice none 0 0, .slice none 0 0] 26)) 26 (cgC (cgOf (pc0 c.toNat)))).alloc (.cells #[.slice (some ⟨b, off, none⟩) l.length cap, .int .i64 1, .bool false] 80)
        rw [World.size_alloc] at h
        exact h, by
        rw [hw2]
        exact ((Row.new w 26 (cgC (cgOf (pc0 0)))).alloc _).alloc _, ⟨by
        rw [hw2]
        have h := Row.new ((w.alloc (.cells #[.int .u8 0, .int .u64 0, .int .u64 0, .int .u64 0, .int .u64 0, .int .u64 0, .string { data := #[] }, .slice none 0 0, .slice none 0 0, .slice none 0 0] 26)).alloc (.cells #[.int .u8 (c.toNat : Nat), .int .u64 0, .int .u64 0, .int .u64 0, .int .u64 0, .int .u64 0, .string { data := #[] }, .slice none 0 0, .slice none 0 0, .slice none 0 0] 26)) 80 [.slice (some ⟨b, off, none⟩) l.length cap, .int .i64 1, .bool false]
        rw [World.size_alloc, World.size_alloc] at h
        exact h, hB.below' hb2, by omega⟩, ⟨Cel.nil _ _, Cel.nil _ _, Byt.nil _ _, (fun d e => by cases e), (fun d e => by cases e), (fun d e => by cases e), fun _ => rfl, fun _ => rfl, fun _ => rfl, Nat.le_refl _, Nat.le_refl _, Nat.le_refl _⟩, rfl, fun _ => ⟨rfl, rfl⟩, hpos, hb2, by omega⟩)
      have HW2 := hid hw2
      have HK := hid hk
      have HCAP := hid hcap
      have HBW := hid hbw
      have HFD := hid (fields_any c.toNat w2 (UInt8.toNat_lt _))
      clear hw2 hb2 hs2 hk hcap hB
      go_enter Tryd.func22, Tryd.ntmps22
      go_wp2_with fail
      rw [← HW2.out]
      refine HFD.out.mono ?_
      rintro e' wx ⟨rfl, hbx⟩
      have HQX := hid (HQ2.out.below hbx)
      have HFM := hid (fds_mem c.toNat)
      have HFA := hid (fds_let c.toNat)
      have HF88 := hid (fds_88 c.toNat)
      have HL5 := hid (fdsR_len c.toNat)
      have HRC := hid (show readC l = _ by rw [HL0.out, readC_cons, if_pos HK.out, ← HL0.out])
      have hok := PcB.all (l := l) (fsL c.toNat) (z := (pc0 c.toNat, 1, false)) (PcB.zero (UInt8.toNat_lt _) _)
      have HOK := hid hok
      have HAB := hid (rdAll_b l (fsL c.toNat) (pc0 c.toNat, 1, false) hpos).2.1
      have hz : ((ba (fdsR c.toNat)).size : Int) = ((fdsR c.toNat).length : Int) := by rw [ba_size]
      have hzn : (ba (fdsR c.toNat)).size = (fdsR c.toNat).length := ba_size _
      clear hbx HFD hok HQ2 HW2 hc0 d1 d1n l1 l2 hbox hbw
      generalize fdsR c.toNat = L at *
      generalize hKc : c.toNat = K at *
      clear hKc
      go_wp2_with fail
      go_loopw [8] (fun i wr => ∃ (k : Nat) (x : CG) (p : Nat) (sh : Bool), k ≤ L.length ∧ i = .int .i64 k ∧ RQ w wr b off cap l (rdAll l ((fsL K).take k) (pc0 K, 1, false)) x p sh) (fun i _ => L.length - (intOf i).toNat)
      case atStart => exact ⟨0, _, 1, false, Nat.zero_le _, rfl, HQX.out⟩
      case round =>
        obtain ⟨k, x, p, sh, hkn, rfl, hq⟩ := hrel
        rename World => wA
        have HQ := hid hq
        clear hq
        have h5 := HL5.out
        by_cases hlt : k < L.length
        · have d1 : decide ((k : Int) < (L.length : Int)) = true := by simp; omega
          have d1n : decide (k < L.length) = true := by simp; omega
          have hx := idx_str L k hlt wA
          have hlf : k < (fsL K).length := by rw [← HFA.out, List.length_map]; exact hlt
          have HST := hid (show rdAll l ((fsL K).take (k + 1)) (pc0 K, 1, false) = fldR l (letF L[k]) (rdAll l ((fsL K).take k) (pc0 K, 1, false)) by
            rw [rdAll_take hlf]
            have e : (fsL K)[k] = letF L[k] := by simp only [← HFA.out, List.getElem_map]
            rw [e])
          have HL88 := hid (HF88.out k hlt)
          have hzy : ∀ k' (h' : k' < L.length), (8 ∉ (fsL K).take k' → (rdAll l ((fsL K).take k') (pc0 K, 1, false)).1.bytes = []) := fun k' _ hm => rdAll_y l _ _ hm
          have HZY0 := hid hzy
          clear hzy
          have hcase := HFM.out _ (List.getElem_mem hlt)
          generalize L[k] = cc at *
          rcases hcase with rfl | rfl | rfl | rfl | rfl | rfl | rfl | rfl | rfl
          · have HST2 := hid (show rdAll l ((fsL K).take (k + 1)) (pc0 K, 1, false) = fldR l 0 (rdAll l ((fsL K).take k) (pc0 K, 1, false)) from HST.out)
            replace hx : (Instr.index 9 (.string (ba L)) (.int .i64 k)).run Tryd.prog wA = .ok (.int .u8 65) wA := hx
            clear HST
            generalize rdAll l ((fsL K).take k) (pc0 K, 1, false) = z at *
            have HN := hid (rqnumber_any (w.heap.size + 2) b off cap l p 8 8 rfl sh wA HQ.out.rd (by omega) HQ.out.p HCAP.out (by decide))
            go_wp2_with fail
            refine HN.out.mono ?_
            rintro e' w5 ⟨v, p5, rfl, hr5, h5, hp5, hv5, hx5⟩
            have HR5 := hid hr5
            have H5 := hid h5
            have hrow5 := hx5.row HQ.out.row (by omega)
            have HRW5 := hid hrow5
            have HRS5 := hid (hx5.row HQ.out.res (by omega))
            have HO5 := hid (HQ.out.own.x1 hx5 (by omega))
            have HB5 := hid (show Below w.heap.size w w5 from HQ.out.low.trans (hx5.below (by omega) HQ.out.low.size))
            have HS5 := hid (Nat.le_trans HQ.out.size hx5.size)
            have z9 := hrow5.frozen 1
            have o9 : w5.cell? ⟨w.heap.size + 1, 1, none⟩ = some (.int .u64 (x.a : Nat)) := hrow5.cell' 1
            have hlt5 := hrow5.lt
            clear hr5 h5 hx5 hrow5 HN
            go_wp2_with fail
            go_roundw
            case rel => exact ⟨k + 1, { x with a := v }, p5, rdS l p 8 sh, by omega, by go_num, ⟨HRW5.out.set 1 _, HRS5.out.other (a := ⟨w.heap.size + 1, 1, none⟩) (by simp only [ne_eq]; omega) _, HR5.out.x1 ((X1.refl _ (w.heap.size + 1)).set 1 _) (by omega) (by have := HBW.out; omega), HO5.out.setC (by omega) (HO5.out.nums ⟨rfl, rfl, rfl, rfl, rfl, rfl, rfl, rfl, rfl⟩), by rw [HST2.out]; exact rdS_fld 0 (by decide) HQ.out, fun h => by rw [HST2.out]; exact num_fld 0 (by decide) HQ.out H5.out h, hp5, bset HB5.out (by omega) _, by rw [size_set1]; exact HS5.out⟩⟩
            case measure => simp [intOf]; omega
          · have HST2 := hid (show rdAll l ((fsL K).take (k + 1)) (pc0 K, 1, false) = fldR l 1 (rdAll l ((fsL K).take k) (pc0 K, 1, false)) from HST.out)
            replace hx : (Instr.index 9 (.string (ba L)) (.int .i64 k)).run Tryd.prog wA = .ok (.int .u8 66) wA := hx
            clear HST
            generalize rdAll l ((fsL K).take k) (pc0 K, 1, false) = z at *
            have HN := hid (rqnumber_any (w.heap.size + 2) b off cap l p 8 8 rfl sh wA HQ.out.rd (by omega) HQ.out.p HCAP.out (by decide))
            go_wp2_with fail
            refine HN.out.mono ?_
            rintro e' w5 ⟨v, p5, rfl, hr5, h5, hp5, hv5, hx5⟩
            have HR5 := hid hr5
            have H5 := hid h5
            have hrow5 := hx5.row HQ.out.row (by omega)
            have HRW5 := hid hrow5
            have HRS5 := hid (hx5.row HQ.out.res (by omega))
            have HO5 := hid (HQ.out.own.x1 hx5 (by omega))
            have HB5 := hid (show Below w.heap.size w w5 from HQ.out.low.trans (hx5.below (by omega) HQ.out.low.size))
            have HS5 := hid (Nat.le_trans HQ.out.size hx5.size)
            have z9 := hrow5.frozen 2
            have o9 : w5.cell? ⟨w.heap.size + 1, 2, none⟩ = some (.int .u64 (x.b : Nat)) := hrow5.cell' 2
            have hlt5 := hrow5.lt
            clear hr5 h5 hx5 hrow5 HN
            go_wp2_with fail
            go_roundw
            case rel => exact ⟨k + 1, { x with b := v }, p5, rdS l p 8 sh, by omega, by go_num, ⟨HRW5.out.set 2 _, HRS5.out.other (a := ⟨w.heap.size + 1, 2, none⟩) (by simp only [ne_eq]; omega) _, HR5.out.x1 ((X1.refl _ (w.heap.size + 1)).set 2 _) (by omega) (by have := HBW.out; omega), HO5.out.setC (by omega) (HO5.out.nums ⟨rfl, rfl, rfl, rfl, rfl, rfl, rfl, rfl, rfl⟩), by rw [HST2.out]; exact rdS_fld 1 (by decide) HQ.out, fun h => by rw [HST2.out]; exact num_fld 1 (by decide) HQ.out H5.out h, hp5, bset HB5.out (by omega) _, by rw [size_set1]; exact HS5.out⟩⟩
            case measure => simp [intOf]; omega
          · have HST2 := hid (show rdAll l ((fsL K).take (k + 1)) (pc0 K, 1, false) = fldR l 2 (rdAll l ((fsL K).take k) (pc0 K, 1, false)) from HST.out)
            replace hx : (Instr.index 9 (.string (ba L)) (.int .i64 k)).run Tryd.prog wA = .ok (.int .u8 67) wA := hx
            clear HST
            generalize rdAll l ((fsL K).take k) (pc0 K, 1, false) = z at *
            have HN := hid (rqnumber_any (w.heap.size + 2) b off cap l p 8 8 rfl sh wA HQ.out.rd (by omega) HQ.out.p HCAP.out (by decide))
            go_wp2_with fail
            refine HN.out.mono ?_
            rintro e' w5 ⟨v, p5, rfl, hr5, h5, hp5, hv5, hx5⟩
            have HR5 := hid hr5
            have H5 := hid h5
            have hrow5 := hx5.row HQ.out.row (by omega)
            have HRW5 := hid hrow5
            have HRS5 := hid (hx5.row HQ.out.res (by omega))
            have HO5 := hid (HQ.out.own.x1 hx5 (by omega))
            have HB5 := hid (show Below w.heap.size w w5 from HQ.out.low.trans (hx5.below (by omega) HQ.out.low.size))
            have HS5 := hid (Nat.le_trans HQ.out.size hx5.size)
            have z9 := hrow5.frozen 3
            have o9 : w5.cell? ⟨w.heap.size + 1, 3, none⟩ = some (.int .u64 (x.c : Nat)) := hrow5.cell' 3
            have hlt5 := hrow5.lt
            clear hr5 h5 hx5 hrow5 HN
            go_wp2_with fail
            go_roundw
            case rel => exact ⟨k + 1, { x with c := v }, p5, rdS l p 8 sh, by omega, by go_num, ⟨HRW5.out.set 3 _, HRS5.out.other (a := ⟨w.heap.size + 1, 3, none⟩) (by simp only [ne_eq]; omega) _, HR5.out.x1 ((X1.refl _ (w.heap.size + 1)).set 3 _) (by omega) (by have := HBW.out; omega), HO5.out.setC (by omega) (HO5.out.nums ⟨rfl, rfl, rfl, rfl, rfl, rfl, rfl, rfl, rfl⟩), by rw [HST2.out]; exact rdS_fld 2 (by decide) HQ.out, fun h => by rw [HST2.out]; exact num_fld 2 (by decide) HQ.out H5.out h, hp5, bset HB5.out (by omega) _, by rw [size_set1]; exact HS5.out⟩⟩
            case measure => simp [intOf]; omega
          · have HST2 := hid (show rdAll l ((fsL K).take (k + 1)) (pc0 K, 1, false) = fldR l 3 (rdAll l ((fsL K).take k) (pc0 K, 1, false)) from HST.out)
            replace hx : (Instr.index 9 (.string (ba L)) (.int .i64 k)).run Tryd.prog wA = .ok (.int .u8 68) wA := hx
            clear HST
            generalize rdAll l ((fsL K).take k) (pc0 K, 1, false) = z at *
            have HN := hid (rqnumber_any (w.heap.size + 2) b off cap l p 8 8 rfl sh wA HQ.out.rd (by omega) HQ.out.p HCAP.out (by decide))
            go_wp2_with fail
            refine HN.out.mono ?_
            rintro e' w5 ⟨v, p5, rfl, hr5, h5, hp5, hv5, hx5⟩
            have HR5 := hid hr5
            have H5 := hid h5
            have hrow5 := hx5.row HQ.out.row (by omega)
            have HRW5 := hid hrow5
            have HRS5 := hid (hx5.row HQ.out.res (by omega))
            have HO5 := hid (HQ.out.own.x1 hx5 (by omega))
            have HB5 := hid (show Below w.heap.size w w5 from HQ.out.low.trans (hx5.below (by omega) HQ.out.low.size))
            have HS5 := hid (Nat.le_trans HQ.out.size hx5.size)
            have z9 := hrow5.frozen 4
            have o9 : w5.cell? ⟨w.heap.size + 1, 4, none⟩ = some (.int .u64 (x.d : Nat)) := hrow5.cell' 4
            have hlt5 := hrow5.lt
            clear hr5 h5 hx5 hrow5 HN
            go_wp2_with fail
            go_roundw
            case rel => exact ⟨k + 1, { x with d := v }, p5, rdS l p 8 sh, by omega, by go_num, ⟨HRW5.out.set 4 _, HRS5.out.other (a := ⟨w.heap.size + 1, 4, none⟩) (by simp only [ne_eq]; omega) _, HR5.out.x1 ((X1.refl _ (w.heap.size + 1)).set 4 _) (by omega) (by have := HBW.out; omega), HO5.out.setC (by omega) (HO5.out.nums ⟨rfl, rfl, rfl, rfl, rfl, rfl, rfl, rfl, rfl⟩), by rw [HST2.out]; exact rdS_fld 3 (by decide) HQ.out, fun h => by rw [HST2.out]; exact num_fld 3 (by decide) HQ.out H5.out h, hp5, bset HB5.out (by omega) _, by rw [size_set1]; exact HS5.out⟩⟩
            case measure => simp [intOf]; omega
          · have HST2 := hid (show rdAll l ((fsL K).take (k + 1)) (pc0 K, 1, false) = fldR l 4 (rdAll l ((fsL K).take k) (pc0 K, 1, false)) from HST.out)
            replace hx : (Instr.index 9 (.string (ba L)) (.int .i64 k)).run Tryd.prog wA = .ok (.int .u8 69) wA := hx
            clear HST
            generalize rdAll l ((fsL K).take k) (pc0 K, 1, false) = z at *
            have HN := hid (rqnumber_any (w.heap.size + 2) b off cap l p 8 8 rfl sh wA HQ.out.rd (by omega) HQ.out.p HCAP.out (by decide))
            go_wp2_with fail
            refine HN.out.mono ?_
            rintro e' w5 ⟨v, p5, rfl, hr5, h5, hp5, hv5, hx5⟩
            have HR5 := hid hr5
            have H5 := hid h5
            have hrow5 := hx5.row HQ.out.row (by omega)
            have HRW5 := hid hrow5
            have HRS5 := hid (hx5.row HQ.out.res (by omega))
            have HO5 := hid (HQ.out.own.x1 hx5 (by omega))
            have HB5 := hid (show Below w.heap.size w w5 from HQ.out.low.trans (hx5.below (by omega) HQ.out.low.size))
            have HS5 := hid (Nat.le_trans HQ.out.size hx5.size)
            have z9 := hrow5.frozen 5
            have o9 : w5.cell? ⟨w.heap.size + 1, 5, none⟩ = some (.int .u64 (x.e : Nat)) := hrow5.cell' 5
            have hlt5 := hrow5.lt
            clear hr5 h5 hx5 hrow5 HN
            go_wp2_with fail
            go_roundw
            case rel => exact ⟨k + 1, { x with e := v }, p5, rdS l p 8 sh, by omega, by go_num, ⟨HRW5.out.set 5 _, HRS5.out.other (a := ⟨w.heap.size + 1, 5, none⟩) (by simp only [ne_eq]; omega) _, HR5.out.x1 ((X1.refl _ (w.heap.size + 1)).set 5 _) (by omega) (by have := HBW.out; omega), HO5.out.setC (by omega) (HO5.out.nums ⟨rfl, rfl, rfl, rfl, rfl, rfl, rfl, rfl, rfl⟩), by rw [HST2.out]; exact rdS_fld 4 (by decide) HQ.out, fun h => by rw [HST2.out]; exact num_fld 4 (by decide) HQ.out H5.out h, hp5, bset HB5.out (by omega) _, by rw [size_set1]; exact HS5.out⟩⟩
            case measure => simp [intOf]; omega
          · have HST2 := hid (show rdAll l ((fsL K).take (k + 1)) (pc0 K, 1, false) = fldR l 5 (rdAll l ((fsL K).take k) (pc0 K, 1, false)) from HST.out)
            replace hx : (Instr.index 9 (.string (ba L)) (.int .i64 k)).run Tryd.prog wA = .ok (.int .u8 80) wA := hx
            clear HST
            generalize rdAll l ((fsL K).take k) (pc0 K, 1, false) = z at *
            have HN := hid (rqtext_any (w.heap.size + 2) b off cap l p sh wA HQ.out.rd (by omega) HQ.out.p HCAP.out)
            go_wp2_with fail
            refine HN.out.mono ?_
            rintro e' w5 ⟨v, p5, rfl, hr5, h5, hp5, hv5, hx5⟩
            have HR5 := hid hr5
            have H5 := hid h5
            have hrow5 := hx5.row HQ.out.row (by omega)
            have HRW5 := hid hrow5
            have HRS5 := hid (hx5.row HQ.out.res (by omega))
            have HO5 := hid (HQ.out.own.x1 hx5 (by omega))
            have HB5 := hid (show Below w.heap.size w w5 from HQ.out.low.trans (hx5.below (by omega) HQ.out.low.size))
            have HS5 := hid (Nat.le_trans HQ.out.size hx5.size)
            have z9 := hrow5.frozen 6
            have o9 : w5.cell? ⟨w.heap.size + 1, 6, none⟩ = some (.string (ba x.path)) := hrow5.cell' 6
            have hlt5 := hrow5.lt
            clear hr5 h5 hx5 hrow5 HN
            go_wp2_with fail
            go_roundw
            case rel => exact ⟨k + 1, { x with path := v }, p5, txS l p sh, by omega, by go_num, ⟨HRW5.out.set 6 _, HRS5.out.other (a := ⟨w.heap.size + 1, 6, none⟩) (by simp only [ne_eq]; omega) _, HR5.out.x1 ((X1.refl _ (w.heap.size + 1)).set 6 _) (by omega) (by have := HBW.out; omega), HO5.out.setC (by omega) (HO5.out.nums ⟨rfl, rfl, rfl, rfl, rfl, rfl, rfl, rfl, rfl⟩), by rw [HST2.out]; exact txS_fld5 HQ.out, fun h => by rw [HST2.out]; exact txt_fld HQ.out H5.out h, hp5, bset HB5.out (by omega) _, by rw [size_set1]; exact HS5.out⟩⟩
            case measure => simp [intOf]; omega
          · have HST2 := hid (show rdAll l ((fsL K).take (k + 1)) (pc0 K, 1, false) = fldR l 6 (rdAll l ((fsL K).take k) (pc0 K, 1, false)) from HST.out)
            replace hx : (Instr.index 9 (.string (ba L)) (.int .i64 k)).run Tryd.prog wA = .ok (.int .u8 86) wA := hx
            clear HST
            generalize rdAll l ((fsL K).take k) (pc0 K, 1, false) = z at *
            have HN := hid (rqlist_any (w.heap.size + 2) b off cap l p sh wA HQ.out.rd (by have := HBW.out; have := HQ.out.low.size; omega) (by omega) HQ.out.p HCAP.out)
            go_wp2_with fail
            refine HN.out.mono ?_
            rintro e' w5 ⟨v, ds, p5, rfl, hown5, hr5, h5, hp5, hn5, ht5, hx5⟩
            obtain ⟨ga, gc, rfl⟩ := own_hd2 hown5
            have HR5 := hid hr5
            have H5 := hid h5
            have HW5 := hid (own_from hown5 HQ.out.size)
            have hrow5 := hx5.row HQ.out.row (by omega)
            have HRW5 := hid hrow5
            have HRS5 := hid (hx5.row HQ.out.res (by omega))
            have HO5 := hid (HQ.out.own.x1 hx5 (by omega))
            have HB5 := hid (show Below w.heap.size w w5 from HQ.out.low.trans (hx5.below (by omega) HQ.out.low.size))
            have HS5 := hid (Nat.le_trans HQ.out.size hx5.size)
            have z9 := hrow5.frozen 7
            have o9 : w5.cell? ⟨w.heap.size + 1, 7, none⟩ = some (.slice x.va x.argv.length x.vc) := hrow5.cell' 7
            have hlt5 := hrow5.lt
            clear hr5 h5 hx5 hrow5 HN hown5 ht5
            go_wp2_with fail
            go_roundw
            case rel => exact ⟨k + 1, { x with va := ga, vc := gc, argv := ds }, p5, tsS l p sh, by omega, by go_num, ⟨HRW5.out.set 7 _, HRS5.out.other (a := ⟨w.heap.size + 1, 7, none⟩) (by simp only [ne_eq]; omega) _, HR5.out.x1 ((X1.refl _ (w.heap.size + 1)).set 7 _) (by omega) (by have := HBW.out; omega), HO5.out.setC (by omega) (HO5.out.withA HW5.out), by rw [HST2.out]; exact tsS_fld 6 (by decide) HQ.out, fun h => by rw [HST2.out]; exact ls6_fld HQ.out H5.out h, hp5, bset HB5.out (by omega) _, by rw [size_set1]; exact HS5.out⟩⟩
            case measure => simp [intOf]; omega
          · have HST2 := hid (show rdAll l ((fsL K).take (k + 1)) (pc0 K, 1, false) = fldR l 7 (rdAll l ((fsL K).take k) (pc0 K, 1, false)) from HST.out)
            replace hx : (Instr.index 9 (.string (ba L)) (.int .i64 k)).run Tryd.prog wA = .ok (.int .u8 87) wA := hx
            clear HST
            generalize rdAll l ((fsL K).take k) (pc0 K, 1, false) = z at *
            have HN := hid (rqlist_any (w.heap.size + 2) b off cap l p sh wA HQ.out.rd (by have := HBW.out; have := HQ.out.low.size; omega) (by omega) HQ.out.p HCAP.out)
            go_wp2_with fail
            refine HN.out.mono ?_
            rintro e' w5 ⟨v, ds, p5, rfl, hown5, hr5, h5, hp5, hn5, ht5, hx5⟩
            obtain ⟨ga, gc, rfl⟩ := own_hd2 hown5
            have HR5 := hid hr5
            have H5 := hid h5
            have HW5 := hid (own_from hown5 HQ.out.size)
            have hrow5 := hx5.row HQ.out.row (by omega)
            have HRW5 := hid hrow5
            have HRS5 := hid (hx5.row HQ.out.res (by omega))
            have HO5 := hid (HQ.out.own.x1 hx5 (by omega))
            have HB5 := hid (show Below w.heap.size w w5 from HQ.out.low.trans (hx5.below (by omega) HQ.out.low.size))
            have HS5 := hid (Nat.le_trans HQ.out.size hx5.size)
            have z9 := hrow5.frozen 8
            have o9 : w5.cell? ⟨w.heap.size + 1, 8, none⟩ = some (.slice x.ea x.env.length x.ec) := hrow5.cell' 8
            have hlt5 := hrow5.lt
            clear hr5 h5 hx5 hrow5 HN hown5 ht5
            go_wp2_with fail
            go_roundw
            case rel => exact ⟨k + 1, { x with ea := ga, ec := gc, env := ds }, p5, tsS l p sh, by omega, by go_num, ⟨HRW5.out.set 8 _, HRS5.out.other (a := ⟨w.heap.size + 1, 8, none⟩) (by simp only [ne_eq]; omega) _, HR5.out.x1 ((X1.refl _ (w.heap.size + 1)).set 8 _) (by omega) (by have := HBW.out; omega), HO5.out.setC (by omega) (HO5.out.withE HW5.out), by rw [HST2.out]; exact tsS_fld 7 (by decide) HQ.out, fun h => by rw [HST2.out]; exact ls7_fld HQ.out H5.out h, hp5, bset HB5.out (by omega) _, by rw [size_set1]; exact HS5.out⟩⟩
            case measure => simp [intOf]; omega
          · have HST2 := hid (show rdAll l ((fsL K).take (k + 1)) (pc0 K, 1, false) = fldR l 8 (rdAll l ((fsL K).take k) (pc0 K, 1, false)) from HST.out)
            replace hx : (Instr.index 9 (.string (ba L)) (.int .i64 k)).run Tryd.prog wA = .ok (.int .u8 88) wA := hx
            have HZY := hid (HZY0.out k hlt (HL88.out rfl))
            clear HST
            generalize rdAll l ((fsL K).take k) (pc0 K, 1, false) = z at *
            have HN := hid (rqtext_any (w.heap.size + 2) b off cap l p sh wA HQ.out.rd (by omega) HQ.out.p HCAP.out)
            go_wp2_with fail
            refine HN.out.mono ?_
            rintro e' w5 ⟨v, p5, rfl, hr5, h5, hp5, hv5, hx5⟩
            have hcv := run_bytes_of_string (P := Tryd.prog) w5 9 24 5 (ba v) Tryd.underlying9 Tryd.underlying24 Tryd.underlying5
            have ho := ownM_text w5 5 (ba v) w5.heap.size (Nat.le_refl _) (by rw [ba_size]; omega)
            have hb6 : Below w5.heap.size w5 (w5.drew.alloc (.cells (bytesRow (ba v) (grownCap w5 (ba v).size 0 5)) 5 ((bytesRow (ba v) (grownCap w5 (ba v).size 0 5)).size, (bytesRow (ba v) (grownCap w5 (ba v).size 0 5)).size + 1))) := (Below.refl _ w5).drew.alloc (Nat.le_refl _) _
            generalize w5.drew.alloc (.cells (bytesRow (ba v) (grownCap w5 (ba v).size 0 5)) 5 ((bytesRow (ba v) (grownCap w5 (ba v).size 0 5)).size, (bytesRow (ba v) (grownCap w5 (ba v).size 0 5)).size + 1)) = w6 at *
            rw [ba_size] at hcv ho
            generalize grownCap w5 v.length 0 5 = gcap at *
            rw [ba_list] at ho
            have hrow5 := (hx5.row HQ.out.row (by omega)).below hb6 (by have := (hx5.row HQ.out.row (by omega)).lt; exact this)
            have HRW5 := hid hrow5
            have HRS5 := hid ((hx5.row HQ.out.res (by omega)).below hb6 (hx5.row HQ.out.res (by omega)).lt)
            have HO5 := hid ((HQ.out.own.x1 hx5 (by omega)).below hb6)
            have HS5 := hid (Nat.le_trans (Nat.le_trans HQ.out.size hx5.size) hb6.size)
            have HM5 := hid (ho.from' (Nat.le_trans HQ.out.size hx5.size))
            have HR5 := hid (hr5.below hb6)
            have H5 := hid h5
            have HB5 := hid (show Below w.heap.size w w6 from (HQ.out.low.trans (hx5.below (by omega) HQ.out.low.size)).trans (hb6.mono (Nat.le_trans HQ.out.low.size hx5.size)))
            have z9 := hrow5.frozen 9
            have o9 : w6.cell? ⟨w.heap.size + 1, 9, none⟩ = some (.slice x.ya x.bytes.length x.yc) := hrow5.cell' 9
            have hlt5 := hrow5.lt
            clear hr5 h5 hx5 hrow5 HN ho hb6
            go_wp2_with fail
            go_roundw
            case rel => exact ⟨k + 1, { x with ya := some ⟨w5.heap.size, 0, none⟩, yc := gcap, bytes := v }, p5, txS l p sh, by omega, by go_num, ⟨HRW5.out.set 9 _, HRS5.out.other (a := ⟨w.heap.size + 1, 9, none⟩) (by simp only [ne_eq]; omega) _, HR5.out.x1 ((X1.refl _ (w.heap.size + 1)).set 9 _) (by omega) (by have := HBW.out; omega), HO5.out.setC (by omega) (HO5.out.withY rfl HM5.out), by rw [HST2.out]; exact txS_fld8 HQ.out, fun h => by rw [HST2.out]; exact byt_fld HQ.out HZY.out H5.out h, hp5, bset HB5.out (by omega) _, by rw [size_set1]; exact HS5.out⟩⟩
            case measure => simp [intOf]; omega
        · have d1 : decide ((k : Int) < (L.length : Int)) = false := by simp; omega
          have d1n : decide (k < L.length) = false := by simp; omega
          have htk : (fsL K).take k = fsL K := List.take_of_length_le (by rw [← HFA.out, List.length_map]; omega)
          have hQ := HQ.out
          rw [htk] at hQ
          have HRC := HRC
          generalize rdAll l (fsL K) (pc0 K, 1, false) = z at *
          obtain ⟨zp, zq, zs⟩ := z
          have HQ := hid hQ
          have c2 : wA.cell? ⟨w.heap.size + 2, 2, none⟩ = some (.bool sh) := hQ.rd.row.cell' 2
          have hse : sh = zs := hQ.sh
          clear htk
          cases sh
          · subst hse
            obtain ⟨hpx, hpq⟩ := hQ.eq rfl
            have hpx : pcOf x = zp := hpx
            have hpq : p = zq := hpq
            subst hpq
            have HRC2 := hid (show readC l = if chkP zp = 0 then (zp, p, 0) else (pc0 0, 0, chkP zp) from HRC.out)
            have hxb : x.bytes.length ≤ 100000000 := by
              have h1 : x.bytes = (pcOf x).bytes := rfl
              rw [h1, hpx]
              have h2 : _ ≤ 0 + _ := HAB.out
              have h4 : (fsL K).length * l.length ≤ 5 * l.length := Nat.mul_le_mul_right _ (fsL_le5 K)
              omega
            have hokx : PcB l.length (pcOf x) := by rw [hpx]; exact HOK.out
            have HOKX := hid (hQ.own.ok hokx hl hxb)
            have HXP := hid (show x.path.length ≤ 1000000 from Nat.le_trans hokx.path hl)
            have HPX := hid hpx
            clear hQ hxb hokx hpx HRC
            obtain ⟨k0, k1, k2, k3, k4, k5, k6, k7, k8, k9⟩ := HQ.out.row.ten
            go_wp2_with fail
            refine (rcheck25_any x wA HOKX.out HXP.out).mono ?_
            rintro e' w5 ⟨rfl, hb5⟩
            have HQ5 := hid (HQ.out.below hb5)
            rw [chk_pc, HPX.out]
            clear k0 k1 k2 k3 k4 k5 k6 k7 k8 k9 c2 hb5
            by_cases he : chkP zp = 0
            · have HFIN := hid (show readC l = (zp, p, 0) by rw [HRC2.out, if_pos he])
              have r1 : w5.cell? ⟨w.heap.size + 2, 1, none⟩ = some (.int .i64 p) := HQ5.out.rd.row.cell' 1
              rw [he]
              obtain ⟨k0, k1, k2, k3, k4, k5, k6, k7, k8, k9⟩ := HQ5.out.res.ten
              obtain ⟨z0, z1, z2, z3, z4, z5, z6, z7, z8, z9⟩ := HQ5.out.res.tenF
              have hltr := HQ5.out.res.lt
              obtain ⟨y0, y1, y2, y3, y4, y5, y6, y7, y8, y9⟩ := HQ5.out.row.ten
              go_wp2_with fail
              go_region_with (fail)
              all_goals go_wp2_with fail
              all_goals clear k0 k1 k2 k3 k4 k5 k6 k7 k8 k9 z0 z1 z2 z3 z4 z5 z6 z7 z8 z9 hltr y0 y1 y2 y3 y4 y5 y6 y7 y8 y9
              all_goals generalize hW10 : World.setCell _ ⟨w.heap.size, 9, none⟩ _ = W10
              all_goals have hr : Row W10 w.heap.size 26 (cgC x) := by rw [← hW10]; exact HQ5.out.res.set10 x
              all_goals have hb : Below w.heap.size w W10 := by rw [← hW10]; exact set10 HQ5.out.low w.heap.size (Nat.le_refl _) _ _ _ _ _ _ _ _ _ _
              all_goals have ho : OwnC W10 (w.heap.size + 3) x := by rw [← hW10]; exact ownC10 HQ5.out.own w.heap.size (by omega) _ _ _ _ _ _ _ _ _ _
              all_goals clear hW10
              all_goals obtain ⟨k0, k1, k2, k3, k4, k5, k6, k7, k8, k9⟩ := hr.ten
              all_goals refine bodyPost_ret (v := .tuple #[cgV x, .int .i64 p, .int .i64 0]) (by simp [results, Tryd.results22, go_sem, k0, k1, k2, k3, k4, k5, k6, k7, k8, k9]) rfl ⟨x, by rw [HFIN.out], by rw [HFIN.out]; exact HPX.out, hb.drew, (ho.from (by omega)).below (St.drew _)⟩
            · have HFIN := hid (show readC l = (pc0 0, 0, chkP zp) by rw [HRC2.out, if_neg he])
              have hn := bne_t he
              have hn2 := beq_f he
              generalize chkP zp = er at *
              clear he HRC2
              obtain ⟨k0, k1, k2, k3, k4, k5, k6, k7, k8, k9⟩ := HQ5.out.res.ten
              obtain ⟨z0, z1, z2, z3, z4, z5, z6, z7, z8, z9⟩ := HQ5.out.res.tenF
              have hltr := HQ5.out.res.lt
              go_wp2_with fail
              clear k0 k1 k2 k3 k4 k5 k6 k7 k8 k9 z0 z1 z2 z3 z4 z5 z6 z7 z8 z9 hltr
              generalize hW10 : World.setCell _ ⟨w.heap.size, 9, none⟩ _ = W10
              have hr : Row W10 w.heap.size 26 (cgC (cgOf (pc0 0))) := by rw [← hW10]; exact HQ5.out.res.set10 (cgOf (pc0 0))
              have hb : Below w.heap.size w W10 := by rw [← hW10]; exact set10 HQ5.out.low w.heap.size (Nat.le_refl _) _ _ _ _ _ _ _ _ _ _
              clear hW10
              obtain ⟨k0, k1, k2, k3, k4, k5, k6, k7, k8, k9⟩ := hr.ten
              refine bodyPost_ret (v := .tuple #[cgV (cgOf (pc0 0)), .int .i64 0, .int .i64 er]) (by simp [results, Tryd.results22, go_sem, k0, k1, k2, k3, k4, k5, k6, k7, k8, k9]) rfl (readQ_bad HFIN.out hb)
          · subst hse
            have HFIN := hid (show readC l = (pc0 0, 0, 24) from HRC.out)
            clear hQ
            obtain ⟨k0, k1, k2, k3, k4, k5, k6, k7, k8, k9⟩ := HQ.out.res.ten
            obtain ⟨z0, z1, z2, z3, z4, z5, z6, z7, z8, z9⟩ := HQ.out.res.tenF
            have hltr := HQ.out.res.lt
            go_wp2_with fail
            clear k0 k1 k2 k3 k4 k5 k6 k7 k8 k9 z0 z1 z2 z3 z4 z5 z6 z7 z8 z9 hltr
            generalize hW10 : World.setCell _ ⟨w.heap.size, 9, none⟩ _ = W10
            have hr : Row W10 w.heap.size 26 (cgC (cgOf (pc0 0))) := by rw [← hW10]; exact HQ.out.res.set10 (cgOf (pc0 0))
            have hb : Below w.heap.size w W10 := by rw [← hW10]; exact set10 HQ.out.low w.heap.size (Nat.le_refl _) _ _ _ _ _ _ _ _ _ _
            clear hW10
            obtain ⟨k0, k1, k2, k3, k4, k5, k6, k7, k8, k9⟩ := hr.ten
            refine bodyPost_ret (v := .tuple #[cgV (cgOf (pc0 0)), .int .i64 0, .int .i64 24]) (by simp [results, Tryd.results22, go_sem, k0, k1, k2, k3, k4, k5, k6, k7, k8, k9]) rfl (readQ_bad HFIN.out hb)
    · have HFIN := hid (show readC l = (pc0 0, 0, 23) by rw [HL0.out, readC_cons, if_neg hk])
      have hb : ∀ o o2, Below w.heap.size w ((w.alloc o).alloc o2) := fun o o2 => bal2' (bal o) o2
      by_cases h0 : c.toNat < 1
      · have l1 : decide ((c.toNat : Int) < 1) = true := by simp; omega
        clear h0 hk
        go_enter Tryd.func22, Tryd.ntmps22
        go_wp2_with fail
        refine bodyPost_ret (v := .tuple #[cgV (cgOf (pc0 0)), .int .i64 0, .int .i64 23]) (by simp [results, Tryd.results22, go_sem, cgOf, pc0]; rfl) rfl (readQ_bad HFIN.out (hb _ _))
      · have l1 : decide ((c.toNat : Int) < 1) = false := by simp; omega
        have l2 : decide ((12 : Int) < (c.toNat : Int)) = true := by simp; omega
        clear h0 hk
        go_enter Tryd.func22, Tryd.ntmps22
        go_wp2_with fail
        refine bodyPost_ret (v := .tuple #[cgV (cgOf (pc0 0)), .int .i64 0, .int .i64 23]) (by simp [results, Tryd.results22, go_sem, cgOf, pc0]; rfl) rfl (readQ_bad HFIN.out (hb _ _))
end Go.Proofs.YtcbkikioapdbbaaDoor
namespace Go.Proofs.YtcbkikioapdbbaaDoor
open Go.RowKit Go.Sort
attribute [local go_sem] Oper.semAt_some

theorem rread25_w (b off cap : Nat) (l : BL) (w : World) (_ : Sizes w) (_ : 0 < w.heap.size) (hB : Byt w (some ⟨b, off, none⟩) l.length l) (hbw : b < w.heap.size) (hl : l.length ≤ 1000000) (hcap : l.length ≤ cap) :
    Calls Tryd.prog 22 #[.slice (some ⟨b, off, none⟩) l.length cap] w (ReadQ l w) := rread25_any b off cap l w hB hbw hl hcap
set_option maxRecDepth 100000 in
set_option maxHeartbeats 4000000 in
theorem rsteps25_any (a : Option Addr) (cap : Nat) (l : BL) (w : World) (hs : Sizes w) (hg : 0 < w.heap.size) (hB : Byt w a l.length l) (hl : l.length ≤ 100000) (hcap : l.length ≤ cap) :
    Calls Tryd.prog 25 #[.slice a l.length cap] w (StepsP l w) := by
  have HSH := hid hs
  have HBH := hid hB
  have HCAP := hid hcap
  clear hs hB hcap
  go_enter Tryd.func25, Tryd.ntmps25
  go_wp2_with fail
  go_loopw [5, 6] (fun v i wr => ∃ (p f : Nat) (xs : List (Nat × CG)), p ≤ l.length ∧ i = .int .i64 p ∧ l.length < p + f ∧ stC l f p (xs.map (fun x => (x.1, pcOf x.2))) = stepsC l ∧ wr.ownsRow w.heap.size 49 11 v xs.length (xs.map stR).flatten ∧ (∀ x ∈ xs, OwnC wr w.heap.size x.2 ∧ PcB l.length (pcOf x.2) ∧ x.2.bytes.length ≤ 5 * l.length ∧ x.1 < 256) ∧ xs.length ≤ p ∧ Below w.heap.size w wr) (fun _ i _ => l.length - (intOf i).toNat)
  case atStart => exact ⟨0, l.length + 1, [], Nat.zero_le _, rfl, by omega, rfl, World.ownsRow_nil _ _ _ _, (fun x h => by cases h), Nat.le_refl _, Below.refl _ _⟩
  case round =>
    obtain ⟨p, f, xs, hp, rfl, hf, hst, hown, hok, hxl, hbr⟩ := hrel
    rename World => wA
    have HST := hid hst
    have HO := hid hown
    have HOK := hid hok
    have HBR := hid hbr
    have HF := hid hf
    clear hst hown hok hbr hf
    by_cases hlt : p < l.length
    · have d1 : decide ((p : Int) < (l.length : Int)) = true := by simp; omega
      have d1n : decide (p < l.length) = true := by simp; omega
      obtain ⟨f, rfl⟩ : ∃ g, f = g + 1 := ⟨f - 1, by have := HF.out; omega⟩
      obtain ⟨b, off, ra, hcells⟩ := HBH.out.some_of (by omega)
      have HBH2 : Hid (Byt w (some ⟨b, off, none⟩) l.length l) := hid (ra ▸ HBH.out)
      have hbw : b < w.heap.size := World.block_lt_of_cell? w _ (hcells 0 (by omega))
      subst ra
      have hx0 : wA.cell? ⟨b, off + p, none⟩ = some (.int .u8 (l[p].toNat : Int)) := keepC HBR.out (hcells p hlt)
      have hBA := HBH2.out.below' HBR.out
      obtain ⟨o2, hsl, hB2⟩ := slFromC .i64 b off l.length cap (p + 1) ((p : Int) + 1) (by omega) (by omega) HCAP.out wA hBA
      have hdl : (l.drop (p + 1)).length = l.length - (p + 1) := by simp
      have HST2 := hid (show (if (readC (l.drop (p + 1))).2.2 = 0 then stC l f (p + (1 + (readC (l.drop (p + 1))).2.1)) (xs.map (fun x => (x.1, pcOf x.2)) ++ [(l[p].toNat, (readC (l.drop (p + 1))).1)]) else ([], (readC (l.drop (p + 1))).2.2, p)) = stepsC l from by have h := HST.out; unfold stC at h; rwa [dif_pos hlt] at h)
      have HEQ := hid (rfl : l.drop (p + 1) = l.drop (p + 1))
      generalize l.drop (p + 1) = ld at hdl hB2 HST2 HEQ
      rw [← hdl] at hB2 hsl
      have HRD := hid (rread25_w b o2 (cap - (p + 1)) ld wA (HSH.out.belowB HBR.out hg) (Nat.lt_of_lt_of_le hg HBR.out.size) hB2 (Nat.lt_of_lt_of_le hbw HBR.out.size) (by omega) (by have := HCAP.out; omega))
      have HRB := hid (readC_b ld)
      have HDL := hid hdl
      have HHC := hid hcells
      obtain ⟨ua, uc, rfl⟩ := own_hd2 HO.out
      clear hBA hB2 hdl hcells
      go_wp2_with fail
      refine HRD.out.mono ?_
      intro e' w5 hrp
      obtain ⟨x, rfl, hpx, hb5, hox⟩ := (show ReadQ _ _ _ _ from hrp)
      have HPX := hid hpx
      have HB5 := hid hb5
      have HOX := hid (hox.from HBR.out.size)
      clear hrp hpx hb5 hox HRD
      have HHX := hid hx0
      clear hx0 hsl
      by_cases he : (readC ld).2.2 = 0
      · have HST3 := hid (show stC l f (p + (1 + (readC ld).2.1)) ((xs ++ [(l[p].toNat, x)]).map (fun x => (x.1, pcOf x.2))) = stepsC l by rw [← HST2.out, if_pos he, List.map_append, ← HPX.out]; rfl)
        clear HST2
        obtain ⟨W6, hW6⟩ : ∃ W, W = w5.alloc (.cells (cgC x).toArray 26) := ⟨_, rfl⟩
        have hb6 : Below w5.heap.size w5 W6 := by rw [hW6]; exact bal _
        have hs6 : W6.heap.size = w5.heap.size + 1 := by rw [hW6, World.size_alloc]
        have hr6 : Row W6 w5.heap.size 26 (cgC x) := by rw [hW6]; exact Row.new w5 _ _
        have hB6 := HBR.out.trans ((HB5.out.trans (hb6.mono HB5.out.size)).mono HBR.out.size)
        have HB6 := hid hB6
        have HSB := hid (show SBx b (off + p) w5.heap.size (.int .u8 (l[p].toNat : Int)) x W6 from ⟨hr6, keepC HB6.out (HHC.out p hlt)⟩)
        have HB57 := hid (show Below wA.heap.size wA W6 from HB5.out.trans (hb6.mono HB5.out.size))
        have hBN : ∀ o, Below w.heap.size w (W6.alloc o).drew := fun o => (hB6.alloc (Nat.le_trans (Nat.le_refl _) hB6.size) o).drew
        have HBN := hid hBN
        have HOW := hid (fun o => (own_below HO.out (HB57.out.alloc (HB57.out.size) o).drew))
        have HHe := hid (fun o => show ((W6.alloc o).drew).heap.size = W6.heap.size + 1 from by show (W6.alloc o).heap.size = _; simp)
        have hnr := ((rk_new W6 49 (k := 11) (stR (l[p].toNat, x)) rfl).below' (St.drew _)).news (by decide)
        have HNR := hid (show ∀ j u, (stR (l[p].toNat, x))[j]? = some u → ((W6.alloc (.cells (stR (l[p].toNat, x)).toArray 49)).drew).cell? ((Addr.mk W6.heap.size 0 none).add j) = some u from fun j u hj => hnr j u (by simpa using hj))
        have hl256 : l[p].toNat < 256 := UInt8.toNat_lt _
        have HL256 := hid hl256
        have hw8 := IntWalk.i64_in (l[p].toNat : Int) (by omega)
        clear hl256 hnr
        have HONE := hid (show ∀ u ∈ stR (l[p].toNat, x), u.oneCell' = true from fun u hu => by
          simp only [stR, cgC, List.mem_cons, List.not_mem_nil, or_false] at hu
          rcases hu with rfl | rfl | rfl | rfl | rfl | rfl | rfl | rfl | rfl | rfl | rfl <;> rfl)
        have HN1 := hid (show (xs.length + 1) * 144 ≤ 140737488355328 by omega)
        have HN2 := hid (show xs.length + 1 ≤ maxLen by unfold maxLen; omega)
        obtain ⟨i0, hi0, hz0, hz1, hz2⟩ := info_parts infoStep
        have HKEEP := hid (fun (o : Obj) (w' : World) (hg : ((W6.alloc o).drew).grownBy w' (Value.slice ua xs.length uc).ownBlock) => (HSB.out.alloc o).drew.kept hg (HOW.out o) hbw)
        have HBB := hid (fun (o : Obj) (w' : World) (hg : ((W6.alloc o).drew).grownBy w' (Value.slice ua xs.length uc).ownBlock) => (HBN.out o).grown hg (HBN.out o).size (fun q hq => ((HOW.out o).lt q hq).1))
        have HOXB := hid (fun (o : Obj) (w' : World) (hg : ((W6.alloc o).drew).grownBy w' (Value.slice ua xs.length uc).ownBlock) => ((HOX.out.below hb6).below ((bal o).drew)).kept hg (HOW.out o))
        have HOKB := hid (fun (o : Obj) (w' : World) (hg : ((W6.alloc o).drew).grownBy w' (Value.slice ua xs.length uc).ownBlock) (y : Nat × CG) (hy : y ∈ xs) => ((((HOK.out y hy).1.below HB57.out).below ((bal o).drew)).kept hg (HOW.out o)))
        have HR2 := hid HRB.out
        have HW6 := hid hW6
        have HS6 := hid hs6
        have e0 : ∀ ww, SBx b (off + p) w5.heap.size (.int .u8 (l[p].toNat : Int)) x ww → ww.cell? ⟨b, off + p, none⟩ = some (.int .u8 (l[p].toNat : Int)) := fun ww h => h.byt
        have e1 : ∀ ww, SBx b (off + p) w5.heap.size (.int .u8 (l[p].toNat : Int)) x ww → ww.cell? ⟨w5.heap.size, 0, none⟩ = some (.int .u8 x.kind) := fun ww h => h.row.cell' 0
        have e2 : ∀ ww, SBx b (off + p) w5.heap.size (.int .u8 (l[p].toNat : Int)) x ww → ww.cell? ⟨w5.heap.size, 1, none⟩ = some (.int .u64 x.a) := fun ww h => h.row.cell' 1
        have e3 : ∀ ww, SBx b (off + p) w5.heap.size (.int .u8 (l[p].toNat : Int)) x ww → ww.cell? ⟨w5.heap.size, 2, none⟩ = some (.int .u64 x.b) := fun ww h => h.row.cell' 2
        have e4 : ∀ ww, SBx b (off + p) w5.heap.size (.int .u8 (l[p].toNat : Int)) x ww → ww.cell? ⟨w5.heap.size, 3, none⟩ = some (.int .u64 x.c) := fun ww h => h.row.cell' 3
        have e5 : ∀ ww, SBx b (off + p) w5.heap.size (.int .u8 (l[p].toNat : Int)) x ww → ww.cell? ⟨w5.heap.size, 4, none⟩ = some (.int .u64 x.d) := fun ww h => h.row.cell' 4
        have e6 : ∀ ww, SBx b (off + p) w5.heap.size (.int .u8 (l[p].toNat : Int)) x ww → ww.cell? ⟨w5.heap.size, 5, none⟩ = some (.int .u64 x.e) := fun ww h => h.row.cell' 5
        have e7 : ∀ ww, SBx b (off + p) w5.heap.size (.int .u8 (l[p].toNat : Int)) x ww → ww.cell? ⟨w5.heap.size, 6, none⟩ = some (.string (ba x.path)) := fun ww h => h.row.cell' 6
        have e8 : ∀ ww, SBx b (off + p) w5.heap.size (.int .u8 (l[p].toNat : Int)) x ww → ww.cell? ⟨w5.heap.size, 7, none⟩ = some (.slice x.va x.argv.length x.vc) := fun ww h => h.row.cell' 7
        have e9 : ∀ ww, SBx b (off + p) w5.heap.size (.int .u8 (l[p].toNat : Int)) x ww → ww.cell? ⟨w5.heap.size, 8, none⟩ = some (.slice x.ea x.env.length x.ec) := fun ww h => h.row.cell' 8
        have e10 : ∀ ww, SBx b (off + p) w5.heap.size (.int .u8 (l[p].toNat : Int)) x ww → ww.cell? ⟨w5.heap.size, 9, none⟩ = some (.slice x.ya x.bytes.length x.yc) := fun ww h => h.row.cell' 9
        have hSB := HSB.out
        clear hW6 hb6 hr6 hB6 hBN hs6
        rw [he]
        go_wp2_with fail
        rw [← HW6.out]
        go_region_held3 (SBx b (off + p) w5.heap.size (.int .u8 (l[p].toNat : Int)) x) (first | exact SBx.drew (by assumption) | exact SBx.alloc (by assumption) _ | exact HSB9.out | assumption) (first | (refine step_append_lies _ (by rfl) _ _ 42 (by rfl) w.heap.size 49 i0 _ 11 144 Tryd.underlying42 hi0 hz0 hz1 hz2 rfl (by decide) (.slice ua xs.length uc) xs.length (xs.map stR).flatten (by rfl) (HOW.out _) ⟨W6.heap.size, 0, none⟩ 1 1 (stR (l[p].toNat, x)) (by rfl) (by rfl) HNR.out HONE.out (by decide) HN2.out HN1.out (HBN.out _).size (W6.heap.size + 1) (HHe.out _) ?_; intro gg gc w9 hown hgrow hat hlt9; have HO9 := hid hown; have HSB9 := hid (HKEEP.out _ _ hgrow); have HOX9 := hid (HOXB.out _ _ hgrow); have HOK9 := hid (HOKB.out _ _ hgrow); have HB9 := hid (HBB.out _ _ hgrow)))
        have hr3 := HR2.out.2.2
        have hdl := HDL.out
        have HPB := hid HR2.out.1
        have HYB := hid HR2.out.2.1
        rw [← HPX.out] at HPB HYB
        generalize (readC ld).2.1 = n at *
        clear e0 e1 e2 e3 e4 e5 e6 e7 e8 e9 e10 hSB HRB HR2
        go_wp2_with fail
        go_roundw
        case rel => exact ⟨p + (1 + n), f, xs ++ [(l[p].toNat, x)], by omega, by go_num, by have := HF.out; omega, HST3.out, own_ext HO9.out (by simp) (by simp), (fun y hy => by
          rcases List.mem_append.1 hy with hy | hy
          · exact ⟨HOK9.out y hy, (HOK.out y hy).2⟩
          · rw [List.mem_singleton.1 hy]
            exact ⟨HOX9.out, HPB.out.mono (by omega), Nat.le_trans HYB.out (by omega), HL256.out⟩), by rw [List.length_append]; simp; omega, HB9.out⟩
        case measure => simp [intOf]; omega
      · have HFIN := hid (show stepsC l = ([], (readC ld).2.2, p) by rw [← HST2.out, if_neg he])
        have hn := bne_t he
        have hn2 := beq_f he
        clear HST2
        generalize (readC ld).2.2 = er at *
        clear he
        go_wp2_with fail
        refine bodyPost_ret (v := .tuple #[.slice none 0 0, .int .i64 er, .int .i64 (p : Nat)]) (by simp [results, Tryd.results25, go_sem]) rfl ?_
        exact ⟨⟨_, [], by rw [HFIN.out], World.ownsRow_nil _ _ _ _, by rw [HFIN.out]; rfl, fun x h => by cases h⟩, (HBR.out.trans (HB5.out.mono HBR.out.size)).alloc (Nat.le_trans HBR.out.size HB5.out.size) _⟩
    · have d1 : decide ((p : Int) < (l.length : Int)) = false := by simp; omega
      have d1n : decide (p < l.length) = false := by simp; omega
      have HFIN := hid (show stepsC l = (xs.map (fun x => (x.1, pcOf x.2)), 0, 0) from by
        rw [← HST.out]
        cases f with
        | zero => rfl
        | succ f => unfold stC; rw [dif_neg hlt])
      obtain ⟨ua, uc, rfl⟩ := own_hd2 HO.out
      go_wp2_with fail
      refine bodyPost_ret (v := .tuple #[.slice ua xs.length uc, .int .i64 0, .int .i64 0]) (by simp [results, Tryd.results25, go_sem]) rfl ?_
      exact ⟨⟨_, xs, by rw [HFIN.out]; rfl, HO.out, by rw [HFIN.out], HOK.out⟩, HBR.out⟩
end Go.Proofs.YtcbkikioapdbbaaDoor
