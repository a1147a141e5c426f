/- FdsPlays: the walk. -/
import Derived.Test.YtjbclaplohankaaDX
import Derived.StillTailTactics
import Derived.Deep.DeepMust
import Derived.Deep.CutRange
namespace Go.Proofs.Ytjbclaplohankaa
open Go.RowKit Go.Sort

theorem pi_zero (base : Nat) (w : World) (P : Nat → PR) : PI base w 0 P := ⟨fun i hi => by omega, fun i hi => by omega, fun i hi => by omega, fun i j hi => by omega⟩

theorem st_size {W w : World} (h : St W w) : W.heap.size ≤ w.heap.size := h.size
theorem st_below {W w : World} (h : St W w) : Below W.heap.size W w := h
theorem new_pair {w wx : World} (hb : Below (w.alloc (.cells #[.pointer none, .pointer none] 28)).heap.size (w.alloc (.cells #[.pointer none, .pointer none] 28)) wx) : Row wx w.heap.size 28 [.pointer none, .pointer none] :=
  (Row.new w 28 [.pointer none, .pointer none]).below hb (by simp)

theorem new_pair_d {w wx : World} (hb : Below (w.alloc (.cells #[.pointer none, .pointer none] 28)).drew.heap.size (w.alloc (.cells #[.pointer none, .pointer none] 28)).drew wx) : Row wx w.heap.size 28 [.pointer none, .pointer none] :=
  (Row.new w 28 [.pointer none, .pointer none]).drew.below hb (by simp [World.drew])

theorem set_pair {w : World} {s b p q c : Nat} {ss : List SL} (x y : Value) (hr : Row w s 28 [.pointer none, .pointer none]) (ht : Tab w b 50 ss) (hR : RTab w p q c ss) :
    Row ((w.setCell ⟨s, 0, none⟩ x).setCell ⟨s, 1, none⟩ y) s 28 [x, y] ∧ Tab ((w.setCell ⟨s, 0, none⟩ x).setCell ⟨s, 1, none⟩ y) b 50 ss ∧ RTab ((w.setCell ⟨s, 0, none⟩ x).setCell ⟨s, 1, none⟩ y) p q c ss := by
  obtain ⟨rest, hq⟩ := hR.tab.row
  have n1 : b ≠ s := rows_ne ht.row hr (by decide)
  have n2 : p ≠ s := rows_ne hR.ptr hr (by decide)
  have n3 : q ≠ s := rows_ne hq hr (by decide)
  exact ⟨(hr.set 0 x).set 1 y, ⟨(ht.row.other (a := ⟨s, 0, none⟩) n1 _).other (a := ⟨s, 1, none⟩) n1 _, ht.len⟩, ⟨(hR.ptr.other (a := ⟨s, 0, none⟩) n2 _).other (a := ⟨s, 1, none⟩) n2 _, ⟨⟨rest, (hq.other (a := ⟨s, 0, none⟩) n3 _).other (a := ⟨s, 1, none⟩) n3 _⟩, hR.tab.len⟩, hR.ne⟩⟩

theorem infoPair : (Try.prog.info? 28).map (fun i => (i.zero, i.size, i.bytes)) = some (some (.agg #[.pointer none, .pointer none]), 2, 16) := by kernel_rfl
theorem news_two (w : World) (x y : Value) (T : TypeId) : ∀ j u, [x, y][j]? = some u → (w.alloc (.cells #[x, y] T)).cell? ((Addr.mk w.heap.size 0 none).add j) = some u := by
  intro j u h
  have hr := Row.new w T [x, y]
  have := (hr.cell' j).trans h
  by_cases e : j = 0
  · subst e; simpa [Addr.add] using this
  · simpa [Addr.add, e] using this
theorem ones_ptr (a b : Option Addr) : ∀ u ∈ [Value.pointer a, Value.pointer b], u.oneCell' = true := by
  intro u hu
  simp only [List.mem_cons, List.not_mem_nil, or_false] at hu
  rcases hu with rfl | rfl <;> rfl

theorem pi_append {base n j g : Nat} {w w2 : World} {P : Nat → PR} {r : PR} {v : Value} {cs : List Value} (hj : j < n) (hp : PI base w (n + 1) (fun i => if i = n then r else P i)) (hg : w.grownBy w2 (some g)) (hr : Row w g 28 cs)
    (ho : w2.ownsRow base 28 2 v (n + 1) (pc P n ++ [.pointer (some ⟨r.b, 0, none⟩), .pointer (some ⟨r.p, 0, none⟩)])) :
    ∃ P' : Nat → PR, P' j = P j ∧ PI base w2 (n + 1) P' ∧ w2.ownsRow base 28 2 v (n + 1) (pc P' (n + 1)) := by
  refine ⟨_, if_neg (by omega), hp.grown hg hr, ?_⟩
  rw [pc_succ, pc_congr (fun i => if i = n then r else P i) P n (fun i hi => by rw [if_neg (by omega)]; exact ⟨rfl, rfl⟩)]
  simpa using ho

set_option maxHeartbeats 4000000 in
set_option maxRecDepth 100000 in
theorem fdsPlays_walk (a : Option Addr) (len cap : Nat) (f : Nat → OpL) (w : World) (hA : OpsAt w a len f) (hlc : len ≤ 9223372036854775807) :
    Calls Try.prog 3 #[.slice a len cap] w fun e' w' => e' = .returned (.bool true) ∧ Below w.heap.size w w' := by
  have HA := hid hA
  clear hA
  go_enter Try.func3, Try.ntmps3
  go_wp2_with fail
  refine (new_any _).mono ?_
  rintro e' w1 ⟨rfl, ht, hb⟩
  have HT := hid ht
  have HB1 := hid hb
  have hz1 := hb.size
  have hlt1 := ht.row.lt
  clear ht hb
  go_wp2_with fail
  refine (rnew_any _).mono ?_
  rintro e' w2 ⟨rfl, hr, hb⟩
  have HP := hid ((pi_zero w.heap.size w (fun _ => ⟨w.heap.size, w1.heap.size + 1, w1.heap.size, 16, zero16⟩)).more (r := ⟨w.heap.size, w1.heap.size + 1, w1.heap.size, 16, zero16⟩) (bthen HB1.out hb) (HT.out.below hb) hr (Nat.le_refl _) hz1 (Nat.le_refl _))
  have HB2 := hid (bthen HB1.out hb)
  have hz2 := hb.size
  clear hr hb
  go_wp2_with fail
  have HO := hid (show (w2.alloc (.cells #[.pointer (some ⟨w.heap.size, 0, none⟩), .pointer (some ⟨w1.heap.size + 1, 0, none⟩)] 28)).ownsRow w.heap.size 28 2 (.slice (some ⟨w2.heap.size, 0, none⟩) 1 1) 1 (pc (fun i => if i = 0 then (⟨w.heap.size, w1.heap.size + 1, w1.heap.size, 16, zero16⟩ : PR) else ⟨w.heap.size, w1.heap.size + 1, w1.heap.size, 16, zero16⟩) 1) from
    ⟨rfl, .inr ⟨w2.heap.size, 1, _, rfl, by omega, (Row.new w2 28 [.pointer (some ⟨w.heap.size, 0, none⟩), .pointer (some ⟨w1.heap.size + 1, 0, none⟩)]).heap, Nat.le_refl _, by simp [maxLen], rfl, rfl⟩⟩)
  go_loopw [3, 4] (fun v i wr => ∃ (sv : Value) (k n : Nat) (P : Nat → PR), sv = v ∧ 0 < n ∧ n ≤ 6 ∧ k ≤ len ∧ k ≤ 200 ∧ i = .int .i64 k ∧ wr.ownsRow w.heap.size 28 2 sv n (pc P n) ∧ PI w.heap.size wr n P ∧ Below w.heap.size w wr) (fun _ i _ => 200 - (intOf i).toNat)
  case atStart => exact ⟨_, 0, 1, _, rfl, by omega, by omega, Nat.zero_le _, Nat.zero_le _, rfl, HO.out, HP.out.below (bal _), bthen HB2.out (bal _)⟩
  case round =>
    obtain ⟨sv, k, n, P, hsv, hn0, hn6, hk, hk2, rfl, ho, hp, hb⟩ := hrel
    subst hsv
    obtain ⟨g, c, rfl, ⟨cs, hrow⟩, hlg, hnc, hcm, hbg, hcell⟩ := own_pairs ho hn0
    have HO := hid ho
    have HP := hid hp
    have HB := hid hb
    have HRW := hid hrow
    have HC := hid hcell
    clear ho hp hrow hcell
    by_cases h1 : k < len ∧ k < 200
    · obtain ⟨h1, h2⟩ := h1
      have d1 : decide ((k : Int) < (len : Int)) = true := by simp; omega
      have d2 : decide ((k : Int) < 200) = true := by simp; omega
      obtain ⟨ba, off, rfl, hx⟩ := HA.out k h1
      have HX := hid hx
      have hx := hx.below hb
      have hxr := HX.out.below hb
      clear hb hx
      generalize f k = x at *
      obtain ⟨x0, x1, x2, x3, x4, x5⟩ := x
      obtain ⟨y0, y1, y2, y3, y4, y5⟩ := hxr
      have hba : ba < wr.heap.size := World.block_lt_of_cell? wr _ y0
      obtain ⟨j, hj, hidx⟩ := idx_ok x1 n hn0 hn6
      obtain ⟨z0, z1⟩ := HC.out j hj
      by_cases e6 : x0 = 6
      · by_cases e7 : n < 6
        · have q6 : decide ((n : Int) < 6) = true := by simp; omega
          have q7 : decide (n < 6) = true := by simp; omega
          subst e6
          have nr := Row.new wr 28 [.pointer (some ⟨(P j).b, 0, none⟩), .pointer (some ⟨(P j).p, 0, none⟩)]
          have n0 := nr.cell 0 (by simp)
          have n1 := nr.cell 1 (by simp)
          simp only [List.getElem_cons_zero, List.getElem_cons_succ] at n0 n1
          have hln := nr.lt
          have HOt := hid (HO.out.alloc (.cells #[.pointer (some ⟨(P j).b, 0, none⟩), .pointer (some ⟨(P j).p, 0, none⟩)] 28))
          have HPt := hid (HP.out.below (@bal wr (.cells #[.pointer (some ⟨(P j).b, 0, none⟩), .pointer (some ⟨(P j).p, 0, none⟩)] 28)))
          have HBt := hid (bthen HB.out (@bal wr (.cells #[.pointer (some ⟨(P j).b, 0, none⟩), .pointer (some ⟨(P j).p, 0, none⟩)] 28)))
          have m0 := keepC (@bal wr (.cells #[.pointer (some ⟨(P j).b, 0, none⟩), .pointer (some ⟨(P j).p, 0, none⟩)] 28)) y0
          have m1 := keepC (@bal wr (.cells #[.pointer (some ⟨(P j).b, 0, none⟩), .pointer (some ⟨(P j).p, 0, none⟩)] 28)) y1
          have m2 := keepC (@bal wr (.cells #[.pointer (some ⟨(P j).b, 0, none⟩), .pointer (some ⟨(P j).p, 0, none⟩)] 28)) y2
          have m3 := keepC (@bal wr (.cells #[.pointer (some ⟨(P j).b, 0, none⟩), .pointer (some ⟨(P j).p, 0, none⟩)] 28)) y3
          have m4 := keepC (@bal wr (.cells #[.pointer (some ⟨(P j).b, 0, none⟩), .pointer (some ⟨(P j).p, 0, none⟩)] 28)) y4
          have m5 := keepC (@bal wr (.cells #[.pointer (some ⟨(P j).b, 0, none⟩), .pointer (some ⟨(P j).p, 0, none⟩)] 28)) y5
          have HRA := hid (HRW.out.alloc (.cells #[.pointer (some ⟨(P j).b, 0, none⟩), .pointer (some ⟨(P j).p, 0, none⟩)] 28))
          have HNB := hid nr
          clear nr
          go_wp2_with fail
          generalize wr.alloc (.cells #[.pointer (some ⟨(P j).b, 0, none⟩), .pointer (some ⟨(P j).p, 0, none⟩)] 28) = wA at *
          go_cut [6] from 55 to 61 (fun s6 wc => ∃ (s b' p' q' c' : Nat), s6 = .pointer (some ⟨s, 0, none⟩) ∧ Row wc s 28 [.pointer (some ⟨b', 0, none⟩), .pointer (some ⟨p', 0, none⟩)] ∧ Tab wc b' 50 (P j).ss ∧ RTab wc p' q' c' (P j).ss ∧ wA.heap.size ≤ b' ∧ wA.heap.size ≤ q' ∧ Below wA.heap.size wA wc)
          case first =>
            rename_i J K' hJ hK'
            have HF1 := hid (fun (w' : World) (hs : St wA w') => fork_any (P j).b (P j).ss w' ((HPt.out.tab j hj).below hs))
            have HF2 := hid (fun (w' : World) (hs : St wA w') => rfork_any (P j).p (P j).q (P j).c (P j).ss w' ((HPt.out.ref j hj).below hs))
            have hz0 : ∀ w', St wA w' → w'.cell? ⟨wr.heap.size, 0, none⟩ = some (.pointer (some ⟨(P j).b, 0, none⟩)) := fun w' hs => keepC hs n0
            have hz1 : ∀ w', St wA w' → w'.cell? ⟨wr.heap.size, 1, none⟩ = some (.pointer (some ⟨(P j).p, 0, none⟩)) := fun w' hs => keepC hs n1
            go_region_held3 (St wA) (first | exact St.drew _ | exact St.step (by assumption) hbx | exact St.step (by assumption) (bal _) | exact St.step HSY.out (bal _) | exact (bset (bset (st_below HSY.out) (by omega) _) (by omega) _) | assumption) (first | (go_at_call 9; with_reducible refine ((HF1.out _ (by assumption)).mono ?_); rintro e' wx ⟨rfl, htx, hbx⟩; have HTX := hid htx; have HBX := hid hbx; have HSX : Hid (St wA wx) := hid (St.step (by assumption) hbx); have hzx := st_size HSX.out;  clear htx; (first | (have rw6 := (by first | exact new_pair hbx | exact new_pair_d hbx : Row _ _ 28 [.pointer none, .pointer none]); have c60 := rw6.cell 0 (by simp); have c61 := rw6.cell 1 (by simp); have f60 := rw6.frozen 0; have f61 := rw6.frozen 1; have l6 := rw6.lt; simp only [List.getElem_cons_zero, List.getElem_cons_succ] at c60 c61; have HRW6 := hid rw6; clear rw6) | skip)) | (go_at_call 10; with_reducible refine ((HF2.out _ (by assumption)).mono ?_); rintro e' wy ⟨Pn, Gn, cn, rfl, hPn, hGn, hry, hbx⟩; have HRY := hid hry; have HBY := hid hbx; have HSY : Hid (St wA wy) := hid (St.step (by assumption) hbx); have hzy := st_size HSY.out; have HTY := hid (by first | exact HTX.out.below hbx | exact (HTX.out.below (bal _)).below hbx : Tab wy _ 50 (P j).ss); have hgn : wA.heap.size ≤ Gn := (by first | omega | (simp only [World.size_alloc] at hGn; omega)); clear hry; (first | (have rw6 := HRW6.out.below hbx HRW6.out.lt;  have c60 := rw6.cell 0 (by simp); have c61 := rw6.cell 1 (by simp); have f60 := rw6.frozen 0; have f61 := rw6.frozen 1; have l6 := rw6.lt; simp only [List.getElem_cons_zero, List.getElem_cons_succ] at c60 c61; have HRW6 := hid rw6; clear rw6) | (have rw6 := (by first | exact new_pair hbx | exact new_pair_d hbx : Row _ _ 28 [.pointer none, .pointer none]); have c60 := rw6.cell 0 (by simp); have c61 := rw6.cell 1 (by simp); have f60 := rw6.frozen 0; have f61 := rw6.frozen 1; have l6 := rw6.lt; simp only [List.getElem_cons_zero, List.getElem_cons_succ] at c60 c61; have HRW6 := hid rw6; clear rw6) | skip)))
            all_goals (first | refine hJ _ _ ?_ | (refine Met.intro ?_; refine hJ _ _ ?_) | (refine Met.intro ?_; go_step; refine hJ _ _ ?_) | (go_step; refine hJ _ _ ?_))
            all_goals ((repeat apply Exists.intro); refine ⟨?_, rfl⟩)
            all_goals (first | exact ⟨_, _, Pn, Gn, cn, rfl, Row.new wy _ _, HTY.out.below (bal _), HRY.out.below (bal _), by simp [World.drew], hgn, by assumption⟩ | exact (have h := set_pair _ _ HRW6.out HTY.out HRY.out; ⟨_, _, Pn, Gn, cn, rfl, h.1, h.2.1, h.2.2, by simp [World.drew], hgn, by assumption⟩) | (have hT : Tab wy (wA.heap.size + 1) 50 (P j).ss := (by have h := HTY.out; simp only [World.drew, World.size_alloc] at h; exact h); have h := set_pair (.pointer (some ⟨wA.heap.size + 1, 0, none⟩)) (.pointer (some ⟨Pn, 0, none⟩)) HRW6.out hT HRY.out; exact ⟨_, _, Pn, Gn, cn, rfl, h.1, h.2.1, h.2.2, by omega, hgn, by assumption⟩))
          case rest =>
            obtain ⟨s, b', p', q', c', rfl, hrw, htb, hrt, hlb, hlq, hbc⟩ := hcut
            have c0 := hrw.cell 0 (by simp)
            have c1 := hrw.cell 1 (by simp)
            simp only [List.getElem_cons_zero, List.getElem_cons_succ] at c0 c1
            have hbw : ba < w.heap.size := World.block_lt_of_cell? w _ HX.out.1
            have hls := hrw.lt
            have HBc := hid (bthen HBt.out hbc)
            have HNc := hid (HPt.out.more (r := ⟨b', p', q', c', (P j).ss⟩) hbc htb hrt hlb hlq HBt.out.size)
            have HOc := hid (HOt.out.kept (grown_below hbc none) (by simp [Value.ownBlock]))
            have HSc := hid (show w.heap.size ≤ wc.heap.size from HBc.out.size)
            have HOa := hid (HOc.out.alloc (.cells #[.pointer (some ⟨b', 0, none⟩), .pointer (some ⟨p', 0, none⟩)] 28))
            have HNa := hid (HNc.out.below (@bal wc (.cells #[.pointer (some ⟨b', 0, none⟩), .pointer (some ⟨p', 0, none⟩)] 28)))
            have HBa := hid (bthen HBc.out (@bal wc (.cells #[.pointer (some ⟨b', 0, none⟩), .pointer (some ⟨p', 0, none⟩)] 28)))
            have HN1 := hid (news_two wc (.pointer (some ⟨b', 0, none⟩)) (.pointer (some ⟨p', 0, none⟩)) 28)
            have HL2 := hid (show n + 1 ≤ maxLen by unfold maxLen; omega)
            have HL3 := hid (show (n + 1) * 16 ≤ 140737488355328 by omega)
            have HL4 := hid (show w.heap.size ≤ (wc.alloc (.cells #[.pointer (some ⟨b', 0, none⟩), .pointer (some ⟨p', 0, none⟩)] 28)).heap.size by have := HSc.out; simp; omega)
            obtain ⟨i0, hi, hz0, hz1, hz2⟩ := info_parts infoPair
            clear n0 n1 m0 m1 m2 m3 m4 m5 y0 y1 y2 y3 y4 y5
            go_wp2_with (at_builtin; go_must (refine wpList_append_own _ rfl _ _ 29 rfl w.heap.size 28 i0 (.agg #[.pointer none, .pointer none]) 2 16 Try.underlying29 hi hz0 hz1 hz2 rfl (by decide) (.slice (some ⟨g, 0, none⟩) n c) n (pc P n) rfl HOa.out ⟨wc.heap.size, 0, none⟩ 1 1 [.pointer (some ⟨b', 0, none⟩), .pointer (some ⟨p', 0, none⟩)] rfl rfl HN1.out (ones_ptr _ _) HL2.out HL3.out HL4.out ?_; intro v' w2 hown' hgrow _; have HG := hid hgrow; have HO2 := hid hown'; clear hown' hgrow))
            have hxg : ba ≠ g := by omega
            have hwg : wr.heap.size ≠ g := by omega
            obtain ⟨P', hPj, hPI, hOW⟩ := pi_append (r := ⟨b', p', q', c', (P j).ss⟩) hj HNa.out HG.out ((HRA.out.below hbc HRA.out.lt).alloc (.cells #[.pointer (some ⟨b', 0, none⟩), .pointer (some ⟨p', 0, none⟩)] 28)) HO2.out
            obtain ⟨g2, c2, rfl, ⟨cs2, hrow2⟩, hlg2, hnc2, hcm2, hbg2, hcell2⟩ := own_pairs hOW (by omega)
            clear hcell2 hrow2
            have HO := hid hOW
            have HP := hid hPI
            have HB := hid (HBa.out.grown HG.out (by have := HSc.out; simp; omega) (fun k hk => by cases hk; exact hbg))
            have hr2 := ((HNB.out.below hbc HNB.out.lt).alloc (.cells #[.pointer (some ⟨b', 0, none⟩), .pointer (some ⟨p', 0, none⟩)] 28)).grown HG.out (by intro e; exact hwg (Option.some.inj e))
            have n0 := hr2.cell 0 (by simp)
            have n1 := hr2.cell 1 (by simp)
            simp only [List.getElem_cons_zero, List.getElem_cons_succ] at n0 n1
            have hln2 := hr2.lt
            have hxx := HX.out.below HB.out
            obtain ⟨y0, y1, y2, y3, y4, y5⟩ := hxx
            rw [← hPj] at n0 n1
            have hba2 : ba < w2.heap.size := World.block_lt_of_cell? w2 _ y0
            clear hr2 hPI hOW hPj hi hz0 hz1 hz2
            try clear c0 c1 hbc hrw htb hrt
            have HTd := hid ((HP.out.tab j (by omega)).below (show Below w2.heap.size w2 w2.drew from St.drew w2))
            have HRd := hid ((HP.out.ref j (by omega)).below (show Below w2.heap.size w2 w2.drew from St.drew w2))
            have HPd := hid (HP.out.below (show Below w2.heap.size w2 w2.drew from St.drew w2))
            have HOd := hid (HO.out.kept (grown_below (show Below w2.heap.size w2 w2.drew from St.drew w2) none) (by simp [Value.ownBlock]))
            have HBd := hid (bthen HB.out (show Below w2.heap.size w2 w2.drew from St.drew w2))
            go_still_tail 5, (by kernel_rfl)
            go_wp2_with fail
            refine (does_any _ _ _ _ _ (6, x1, x2, x3, x4, x5) _ HTd.out HRd.out (tab_ref HTd.out HRd.out).1 (tab_ref HTd.out HRd.out).2).mono ?_
            rintro e' w9 ⟨rfl, ss9, ht9, hr9, htw⟩
            have h9 := hid (pair_step (w0 := w) (by omega) HPd.out HOd.out HBd.out HBd.out.size (j := j) (by omega) (by first | exact htw | (rw [HPJ.out]; exact htw)) (by first | exact ht9 | (rw [HPJ.out]; exact ht9)) (by first | exact hr9 | (rw [HPJ.out]; exact hr9)))
            clear ht9 hr9 htw
            obtain ⟨P9, hp9, ho9, hb9⟩ := h9.out
            have HP9 := hid hp9
            have HO9 := hid ho9
            have HB9 := hid hb9
            clear hp9 ho9 hb9 h9
            go_wp2_with fail
            go_roundw
            case rel => exact ⟨_, k + 1, n + 1, P9, rfl, by omega, by omega, by omega, by omega, by go_num, HO9.out, HP9.out, HB9.out⟩
            case measure => simp [intOf]; omega
        · have q6 : decide ((n : Int) < 6) = false := by simp; omega
          have q7 : decide (n < 6) = false := by simp; omega
          subst e6
          have nr := Row.new wr 28 [.pointer (some ⟨(P j).b, 0, none⟩), .pointer (some ⟨(P j).p, 0, none⟩)]
          have n0 := nr.cell 0 (by simp)
          have n1 := nr.cell 1 (by simp)
          simp only [List.getElem_cons_zero, List.getElem_cons_succ] at n0 n1
          have hln := nr.lt
          have HOt := hid (HO.out.alloc (.cells #[.pointer (some ⟨(P j).b, 0, none⟩), .pointer (some ⟨(P j).p, 0, none⟩)] 28))
          have HPt := hid (HP.out.below (@bal wr (.cells #[.pointer (some ⟨(P j).b, 0, none⟩), .pointer (some ⟨(P j).p, 0, none⟩)] 28)))
          have HBt := hid (bthen HB.out (@bal wr (.cells #[.pointer (some ⟨(P j).b, 0, none⟩), .pointer (some ⟨(P j).p, 0, none⟩)] 28)))
          have m0 := keepC (@bal wr (.cells #[.pointer (some ⟨(P j).b, 0, none⟩), .pointer (some ⟨(P j).p, 0, none⟩)] 28)) y0
          have m1 := keepC (@bal wr (.cells #[.pointer (some ⟨(P j).b, 0, none⟩), .pointer (some ⟨(P j).p, 0, none⟩)] 28)) y1
          have m2 := keepC (@bal wr (.cells #[.pointer (some ⟨(P j).b, 0, none⟩), .pointer (some ⟨(P j).p, 0, none⟩)] 28)) y2
          have m3 := keepC (@bal wr (.cells #[.pointer (some ⟨(P j).b, 0, none⟩), .pointer (some ⟨(P j).p, 0, none⟩)] 28)) y3
          have m4 := keepC (@bal wr (.cells #[.pointer (some ⟨(P j).b, 0, none⟩), .pointer (some ⟨(P j).p, 0, none⟩)] 28)) y4
          have m5 := keepC (@bal wr (.cells #[.pointer (some ⟨(P j).b, 0, none⟩), .pointer (some ⟨(P j).p, 0, none⟩)] 28)) y5
          have HRA := hid (HRW.out.alloc (.cells #[.pointer (some ⟨(P j).b, 0, none⟩), .pointer (some ⟨(P j).p, 0, none⟩)] 28))
          have HNB := hid nr
          clear nr
          go_wp2_with fail
          generalize wr.alloc (.cells #[.pointer (some ⟨(P j).b, 0, none⟩), .pointer (some ⟨(P j).p, 0, none⟩)] 28) = wA at *
          have HTd := hid ((HPt.out.tab j (by omega)).below (show Below wA.heap.size wA wA.drew from St.drew wA))
          have HRd := hid ((HPt.out.ref j (by omega)).below (show Below wA.heap.size wA wA.drew from St.drew wA))
          have HPd := hid (HPt.out.below (show Below wA.heap.size wA wA.drew from St.drew wA))
          have HOd := hid (HOt.out.kept (grown_below (show Below wA.heap.size wA wA.drew from St.drew wA) none) (by simp [Value.ownBlock]))
          have HBd := hid (bthen HBt.out (show Below wA.heap.size wA wA.drew from St.drew wA))
          go_still_tail 5, (by kernel_rfl)
          go_wp2_with fail
          refine (does_any _ _ _ _ _ (6, x1, x2, x3, x4, x5) _ HTd.out HRd.out (tab_ref HTd.out HRd.out).1 (tab_ref HTd.out HRd.out).2).mono ?_
          rintro e' w9 ⟨rfl, ss9, ht9, hr9, htw⟩
          have h9 := hid (pair_step (w0 := w) (by omega) HPd.out HOd.out HBd.out HBd.out.size (j := j) (by omega) (by first | exact htw | (rw [HPJ.out]; exact htw)) (by first | exact ht9 | (rw [HPJ.out]; exact ht9)) (by first | exact hr9 | (rw [HPJ.out]; exact hr9)))
          clear ht9 hr9 htw
          obtain ⟨P9, hp9, ho9, hb9⟩ := h9.out
          have HP9 := hid hp9
          have HO9 := hid ho9
          have HB9 := hid hb9
          clear hp9 ho9 hb9 h9
          go_wp2_with fail
          go_roundw
          case rel => exact ⟨_, k + 1, n, P9, rfl, by omega, by omega, by omega, by omega, by go_num, HO9.out, HP9.out, HB9.out⟩
          case measure => simp [intOf]; omega
      · have q6 : (x0 == 6) = false := by rw [beq_eq_false_iff_ne]; exact e6
        have nr := Row.new wr 28 [.pointer (some ⟨(P j).b, 0, none⟩), .pointer (some ⟨(P j).p, 0, none⟩)]
        have n0 := nr.cell 0 (by simp)
        have n1 := nr.cell 1 (by simp)
        simp only [List.getElem_cons_zero, List.getElem_cons_succ] at n0 n1
        have hln := nr.lt
        have HOt := hid (HO.out.alloc (.cells #[.pointer (some ⟨(P j).b, 0, none⟩), .pointer (some ⟨(P j).p, 0, none⟩)] 28))
        have HPt := hid (HP.out.below (@bal wr (.cells #[.pointer (some ⟨(P j).b, 0, none⟩), .pointer (some ⟨(P j).p, 0, none⟩)] 28)))
        have HBt := hid (bthen HB.out (@bal wr (.cells #[.pointer (some ⟨(P j).b, 0, none⟩), .pointer (some ⟨(P j).p, 0, none⟩)] 28)))
        have m0 := keepC (@bal wr (.cells #[.pointer (some ⟨(P j).b, 0, none⟩), .pointer (some ⟨(P j).p, 0, none⟩)] 28)) y0
        have m1 := keepC (@bal wr (.cells #[.pointer (some ⟨(P j).b, 0, none⟩), .pointer (some ⟨(P j).p, 0, none⟩)] 28)) y1
        have m2 := keepC (@bal wr (.cells #[.pointer (some ⟨(P j).b, 0, none⟩), .pointer (some ⟨(P j).p, 0, none⟩)] 28)) y2
        have m3 := keepC (@bal wr (.cells #[.pointer (some ⟨(P j).b, 0, none⟩), .pointer (some ⟨(P j).p, 0, none⟩)] 28)) y3
        have m4 := keepC (@bal wr (.cells #[.pointer (some ⟨(P j).b, 0, none⟩), .pointer (some ⟨(P j).p, 0, none⟩)] 28)) y4
        have m5 := keepC (@bal wr (.cells #[.pointer (some ⟨(P j).b, 0, none⟩), .pointer (some ⟨(P j).p, 0, none⟩)] 28)) y5
        have HRA := hid (HRW.out.alloc (.cells #[.pointer (some ⟨(P j).b, 0, none⟩), .pointer (some ⟨(P j).p, 0, none⟩)] 28))
        have HNB := hid nr
        clear nr
        go_wp2_with fail
        generalize wr.alloc (.cells #[.pointer (some ⟨(P j).b, 0, none⟩), .pointer (some ⟨(P j).p, 0, none⟩)] 28) = wA at *
        have HTd := hid ((HPt.out.tab j (by omega)).below (show Below wA.heap.size wA wA.drew from St.drew wA))
        have HRd := hid ((HPt.out.ref j (by omega)).below (show Below wA.heap.size wA wA.drew from St.drew wA))
        have HPd := hid (HPt.out.below (show Below wA.heap.size wA wA.drew from St.drew wA))
        have HOd := hid (HOt.out.kept (grown_below (show Below wA.heap.size wA wA.drew from St.drew wA) none) (by simp [Value.ownBlock]))
        have HBd := hid (bthen HBt.out (show Below wA.heap.size wA wA.drew from St.drew wA))
        go_still_tail 5, (by kernel_rfl)
        go_wp2_with fail
        refine (does_any _ _ _ _ _ (x0, x1, x2, x3, x4, x5) _ HTd.out HRd.out (tab_ref HTd.out HRd.out).1 (tab_ref HTd.out HRd.out).2).mono ?_
        rintro e' w9 ⟨rfl, ss9, ht9, hr9, htw⟩
        have h9 := hid (pair_step (w0 := w) (by omega) HPd.out HOd.out HBd.out HBd.out.size (j := j) (by omega) (by first | exact htw | (rw [HPJ.out]; exact htw)) (by first | exact ht9 | (rw [HPJ.out]; exact ht9)) (by first | exact hr9 | (rw [HPJ.out]; exact hr9)))
        clear ht9 hr9 htw
        obtain ⟨P9, hp9, ho9, hb9⟩ := h9.out
        have HP9 := hid hp9
        have HO9 := hid ho9
        have HB9 := hid hb9
        clear hp9 ho9 hb9 h9
        go_wp2_with fail
        go_roundw
        case rel => exact ⟨_, k + 1, n, P9, rfl, by omega, by omega, by omega, by omega, by go_num, HO9.out, HP9.out, HB9.out⟩
        case measure => simp [intOf]; omega
    · clear hb
      rename World => wE
      have hcase : (decide ((k : Int) < (len : Int)) = false ∧ decide (k < len) = false ∧ ¬ k < len) ∨ (decide ((k : Int) < (len : Int)) = true ∧ decide ((k : Int) < 200) = false ∧ decide (k < 200) = false ∧ k < len ∧ decide (k < len) = true) := by
        by_cases h : k < len
        · exact .inr ⟨by simp; omega, by simp; omega, by simp; omega, h, by simp; omega⟩
        · exact .inl ⟨by simp; omega, by simp; omega, h⟩
      rcases hcase with ⟨d1, d2, d3⟩ | ⟨d1, d2, d3, d4, d5⟩
      · go_wp2_with fail
        go_loopw [7] (fun i wr => ∃ m : Nat, m ≤ n ∧ i = .int .i64 m ∧ Below wE.heap.size wE wr) (fun i _ => n - (intOf i).toNat)
        case atStart => exact ⟨0, Nat.zero_le _, rfl, Below.refl _ _⟩
        case round =>
          obtain ⟨m, hm, rfl, hbr⟩ := hrel
          by_cases hmn : m < n
          · have e1 : decide ((m : Int) < (n : Int)) = true := by simp; omega
            have e2 : decide (m < n) = true := by simp; omega
            obtain ⟨z0, z1⟩ := HC.out m hmn
            have z0' := keepC hbr z0
            have z1' := keepC hbr z1
            have HPr := hid (HP.out.below hbr)
            have HBr := hid hbr
            have hlr := Nat.lt_of_lt_of_le hlg hbr.size
            clear hbr z0 z1
            go_wp2_with fail
            refine (same_any _ _ _ _ _ _ (HPr.out.tab m hmn) (HPr.out.ref m hmn)).mono ?_
            rintro e' w8 ⟨rfl, hb8⟩
            have x0' := keepC hb8 z0'
            have x1' := keepC hb8 z1'
            have HP8 := hid (HPr.out.below hb8)
            have HB8 := hid (bthen HBr.out hb8)
            have hl8 := Nat.lt_of_lt_of_le hlr hb8.size
            clear hb8
            go_wp2_with fail
            refine (same_any _ _ _ _ _ _ (HP8.out.tab m hmn) (HP8.out.ref m hmn)).mono ?_
            rintro e' w9 ⟨rfl, hb9⟩
            have HB9 := hid (bthen HB8.out hb9)
            clear hb9
            go_wp2_with fail
            go_roundw
            case rel => exact ⟨m + 1, by omega, by go_num, HB9.out⟩
            case measure => simp [intOf]; omega
          · have e1 : decide ((m : Int) < (n : Int)) = false := by simp; omega
            have e2 : decide (m < n) = false := by simp; omega
            have HBF := hid (bthen HB.out hbr)
            clear hbr
            go_wp2_with (go_at_call 13; refine (works_any _).mono ?_; rintro e' w' ⟨rfl, hw⟩)
            go_ret
            exact ⟨rfl, bthen HBF.out hw⟩
      · go_wp2_with fail
        go_loopw [7] (fun i wr => ∃ m : Nat, m ≤ n ∧ i = .int .i64 m ∧ Below wE.heap.size wE wr) (fun i _ => n - (intOf i).toNat)
        case atStart => exact ⟨0, Nat.zero_le _, rfl, Below.refl _ _⟩
        case round =>
          obtain ⟨m, hm, rfl, hbr⟩ := hrel
          by_cases hmn : m < n
          · have e1 : decide ((m : Int) < (n : Int)) = true := by simp; omega
            have e2 : decide (m < n) = true := by simp; omega
            obtain ⟨z0, z1⟩ := HC.out m hmn
            have z0' := keepC hbr z0
            have z1' := keepC hbr z1
            have HPr := hid (HP.out.below hbr)
            have HBr := hid hbr
            have hlr := Nat.lt_of_lt_of_le hlg hbr.size
            clear hbr z0 z1
            go_wp2_with fail
            refine (same_any _ _ _ _ _ _ (HPr.out.tab m hmn) (HPr.out.ref m hmn)).mono ?_
            rintro e' w8 ⟨rfl, hb8⟩
            have x0' := keepC hb8 z0'
            have x1' := keepC hb8 z1'
            have HP8 := hid (HPr.out.below hb8)
            have HB8 := hid (bthen HBr.out hb8)
            have hl8 := Nat.lt_of_lt_of_le hlr hb8.size
            clear hb8
            go_wp2_with fail
            refine (same_any _ _ _ _ _ _ (HP8.out.tab m hmn) (HP8.out.ref m hmn)).mono ?_
            rintro e' w9 ⟨rfl, hb9⟩
            have HB9 := hid (bthen HB8.out hb9)
            clear hb9
            go_wp2_with fail
            go_roundw
            case rel => exact ⟨m + 1, by omega, by go_num, HB9.out⟩
            case measure => simp [intOf]; omega
          · have e1 : decide ((m : Int) < (n : Int)) = false := by simp; omega
            have e2 : decide (m < n) = false := by simp; omega
            have HBF := hid (bthen HB.out hbr)
            clear hbr
            go_wp2_with (go_at_call 13; refine (works_any _).mono ?_; rintro e' w' ⟨rfl, hw⟩)
            go_ret
            exact ⟨rfl, bthen HBF.out hw⟩
end Go.Proofs.Ytjbclaplohankaa
