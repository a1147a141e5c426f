
/- VfsWalks: the walk. -/
import Derived.Test.YtnepccjcjkeneaaG64
import Derived.Test.YtnepccjcjkeneaaG67
import Derived.Test.YtnepccjcjkeneaaKT
namespace Go.Proofs.Ytnepccjcjkeneaa
open Go.ChangeShapes Go.WideShapes Go.ChangeAt Go.RowKit Go.Sort

theorem stepL_cr8 {L : List ND} {c c' : CR} (he : c.e = c'.e) (hg : c.g = c'.g) (hl : c.l = c'.l) (i : Nat) (p : BL) : stepL L c i p = stepL L c' i p := by
  unfold stepL stepN mayX
  rw [he, hg, hl]
theorem followL_cr8 {L : List ND} {c c' : CR} (h : ∀ i p, stepL L c i p = stepL L c' i p) {last : Bool} (links at_ : Nat) (left : List BL) : followL L c last links at_ left = followL L c' last links at_ left := by
  induction links, at_, left using followL.induct (L := L) (c := c) (last := last) with
  | case1 links at_ => rw [followL, followL]
  | case2 links at_ p rest h1 h2 ih => rw [followL, if_pos h1, if_pos h2, ih, followL, ← h, if_pos h1, if_pos h2]
  | case3 links at_ p rest h1 h2 h3 => rw [followL, if_pos h1, if_neg h2, dif_pos h3, followL, ← h, if_pos h1, if_neg h2, dif_pos h3]
  | case4 links at_ p rest h1 h2 h3 ih => rw [followL, if_pos h1, if_neg h2, dif_neg h3, followL, ← h, if_pos h1, if_neg h2, dif_neg h3]; exact ih
  | case5 links at_ p rest h1 => rw [followL, if_neg h1, followL, ← h, if_neg h1]
theorem walkL_cr8 {L : List ND} {c c' : CR} (he : c.e = c'.e) (hg : c.g = c'.g) (hl : c.l = c'.l) (f : Int) (p : BL) (last : Bool) : walkL L c f p last = walkL L c' f p last := by
  unfold walkL
  simp only [followL_cr8 (stepL_cr8 he hg hl)]
set_option maxHeartbeats 4000000 in
set_option maxRecDepth 4000 in
theorem vfsWalks_walk (a : Option Addr) (cp : Nat) (xs : List EN) (u e s g : Int) (ca : Option Addr) (cn cc : Nat) (cl : List Int) (f : Int) (p : BL) (last : Bool) (w : World) (hX : EntsIn w a xs.length xs) (hxl : xs.length ≤ 140737488351232) (hN : Nums w .u32 ca cn cl) (hcn : ca = none → cc = 0) :
    Calls Try.prog 4 #[.slice a xs.length cp, credV u e s g ca cn cc, .agg #[.int .i64 f, .string (ba p), .bool last]] w fun e' w' => e' = .returned (.bool true) ∧ Below w.heap.size w w' := by
  obtain ⟨W0, hW0⟩ : ∃ W0, W0 = (w.alloc (.cells #[.int .u32 u, .int .u32 e, .int .u32 s, .int .u32 g, .slice ca cn cc] 44)).alloc (.cells #[.int .i64 f, .string (ba p), .bool last] 46) := ⟨_, rfl⟩
  have hb : Below w.heap.size w W0 := by rw [hW0]; exact (bal _).alloc (by simp) _
  have hr1 : Row W0 w.heap.size 44 [.int .u32 u, .int .u32 e, .int .u32 s, .int .u32 g, .slice ca cn cc] := by
    rw [hW0]; exact (Row.new w 44 [.int .u32 u, .int .u32 e, .int .u32 s, .int .u32 g, .slice ca cn cc]).alloc _
  have hr2 : Row W0 (w.heap.size + 1) 46 [.int .i64 f, .string (ba p), .bool last] := by
    have := Row.new (w.alloc (.cells #[.int .u32 u, .int .u32 e, .int .u32 s, .int .u32 g, .slice ca cn cc] 44)) 46 [.int .i64 f, .string (ba p), .bool last]
    rw [World.size_alloc] at this
    rw [hW0]; exact this
  have HB0 := hid hb
  have HR1 := hid hr1
  have HR2 := hid hr2
  have HX0 := hid (show EntsIn W0 a xs.length xs from ⟨hX.rows.below' hb, fun x hx => ⟨(hX.ok x hx).byt.below' hb, (hX.ok x hx).nil, (hX.ok x hx).path, (hX.ok x hx).to, (hX.ok x hx).data, (hX.ok x hx).mode⟩⟩)
  have HN0 := hid (hN.below' hb)
  have HC := hid hcn
  clear hb hr1 hr2 hX hN hcn
  go_enter Try.func4, Try.ntmps4
  go_wp2_with fail
  rw [← hW0]
  clear hW0
  refine (largeE_any _ _ _ xs W0 HX0.out hxl).mono ?_
  rintro e' w1 ⟨b, rfl, hb, hsm⟩
  have HB1 := hid (HB0.out.trans (hb.mono HB0.out.size))
  have HR1 := hid (HR1.out.below hb HR1.out.lt)
  have HR2 := hid (HR2.out.below hb HR2.out.lt)
  cases b
  · obtain ⟨hs1, hs2⟩ := hsm rfl
    have he := HX0.out.small hs2
    have HX1 := hid (he.below hb)
    have HN1 := hid (HN0.out.below' hb)
    have HS1 := hid hs1
    clear hsm hs1 hs2 he hb HX0 HN0
    obtain ⟨c0, c1, c2, c3, c4⟩ := HR1.out.five
    obtain ⟨d0, d1, d2⟩ := HR2.out.three
    have hl1 := HR1.out.lt
    have hl2 := HR2.out.lt
    go_wp2_with fail
    refine (small_any u e s g ca cn cc (ba p) w1).mono ?_
    rintro e' w2 ⟨rfl, hb⟩
    have HB2 := hid (bthen HB1.out hb)
    have HR1 := hid (HR1.out.below hb HR1.out.lt)
    have HR2 := hid (HR2.out.below hb HR2.out.lt)
    have HX2 := hid (HX1.out.below hb)
    have HN2 := hid (HN1.out.below' hb)
    clear hb c0 c1 c2 c3 c4 d0 d1 d2 hl1 hl2 HX1 HN1
    cases hsm : smallB cn (ba p)
    · clear hsm
      go_wp2_with fail
      refine (works06_any _).mono ?_
      rintro e' w3 ⟨rfl, hb⟩
      have HB3 := hid (bthen HB2.out hb)
      clear hb
      go_wp2_with fail
      go_ret
      exact ⟨rfl, HB3.out⟩
    · have hsz : cn ≤ 1024 ∧ p.length ≤ 4096 := by
        unfold smallB at hsm
        rw [ba_size] at hsm
        simpa using hsm
      have HSZ := hid hsz
      clear hsm hsz
      go_wp2_with fail
      refine (made_any a cp xs w2 HX2.out (by have := HS1.out; omega)).mono ?_
      rintro e' w4 ⟨hb, hp⟩
      have HB4 := hid (bthen HB2.out hb)
      have HR1 := hid (HR1.out.below hb HR1.out.lt)
      have HR2 := hid (HR2.out.below hb HR2.out.lt)
      have HN4 := hid (HN2.out.below' hb)
      clear hb HX2 HN2 HB0 HB1 HB2
      split at hp
      · obtain ⟨F, t, G, d, rfl, htl, hfs, hrf⟩ := hp
        have HF := hid hfs
        have HG := hid hrf
        clear hfs hrf htl
        have HQ0 := hid (St.five HR1.out.five)
        have HQ1 := hid (St.three HR2.out.three)
        obtain ⟨x0, x1, x2, x3, x4⟩ := HQ0.out
        obtain ⟨y0, y1, y2⟩ := HQ1.out
        have hlt1 : ∀ w', St w4 w' → w.heap.size < w'.heap.size := fun w' hs => Nat.lt_of_lt_of_le HR1.out.lt hs.size
        have hlt2 : ∀ w', St w4 w' → w.heap.size + 1 < w'.heap.size := fun w' hs => Nat.lt_of_lt_of_le HR2.out.lt hs.size
        have HCP := hid (fun (wr : World) (hs : St w4 wr) => cpc_any u e s g ca cn cc cl wr (HN4.out.below' hs) HC.out (by have := HSZ.out.1; omega))
        have HWK := hid (fun (wr : World) (hs : St w4 wr) (a' : Option Addr) (c' : Nat) (hn : Nums wr .u32 a' cl.length cl) => show Calls Try.prog 20 #[.pointer (some ⟨F, 0, none⟩), credV u e s g a' cl.length c', .int .i64 f, .string (ba p), .bool last] wr (fun er w' => er = .returned (walkV (walkL t.L ⟨u, e, s, g, ca, cn, cc, cl⟩ f p last)) ∧ Below wr.heap.size wr w') from by
          have h := walk_any F t ⟨u, e, s, g, a', cl.length, c', cl⟩ f p last wr (HF.out.below hs) ⟨hn, by have := HN4.out.hlen; have := HSZ.out.1; dsimp only; omega⟩ (by have := HSZ.out.2; omega)
          rw [walkL_cr8 (c := ⟨u, e, s, g, a', cl.length, c', cl⟩) (c' := ⟨u, e, s, g, ca, cn, cc, cl⟩) rfl rfl rfl] at h
          exact h)
        have HRW := hid (fun (wr : World) (hs : St w4 wr) => rwalk_any G t.L d ⟨u, e, s, g, ca, cn, cc, cl⟩ f p last wr (HG.out.below hs) ⟨HN4.out.below' hs, by have := HSZ.out.1; dsimp only; omega⟩ (by have := HSZ.out.2; omega))
        generalize walkL t.L ⟨u, e, s, g, ca, cn, cc, cl⟩ f p last = R at *
        obtain ⟨rm, rx⟩ := R
        simp only [walkV] at HWK HRW
        go_wp2_with fail
        go_region_held3 (St w4) (first | exact St.drew _ | exact St.step (by assumption) hbx | assumption) (first | (go_at_call 21; (with_reducible refine ((HCP.out _ (by assumption)).mono ?_)); rintro e' wx ⟨v', rfl, hoc, hbx⟩; obtain ⟨a11, c11, rfl, hN11⟩ := own_nums hoc; have HN11 := hid hN11; have HS11 : Hid (St w4 wx) := hid (St.step (by assumption) hbx); clear hoc hN11) | (go_at_call 20; (with_reducible refine ((HWK.out _ HS11.out _ _ HN11.out).mono ?_)); rintro e' wy ⟨rfl, hbx⟩; have HS12 : Hid (St w4 wy) := hid (St.step HS11.out hbx)))
        have HB12 := hid (bthen HB4.out HS12.out)
        have HR11 := hid (HR1.out.below HS12.out HR1.out.lt)
        have HR22 := hid (HR2.out.below HS12.out HR2.out.lt)
        have HW0 := hid (HRW.out wy HS12.out)
        clear HWK HRW HCP HQ0 HQ1 x0 x1 x2 x3 x4 y0 y1 y2 hlt1 hlt2 HS11 HN11 hbx
        obtain ⟨x0, x1, x2, x3, x4⟩ := HR11.out.five
        obtain ⟨y0, y1, y2⟩ := HR22.out.three
        have hlt1 := HR11.out.lt
        have hlt2 := HR22.out.lt
        go_wp2_with fail
        refine (HW0.out).mono ?_
        rintro e' w6 ⟨rfl, hb⟩
        have HB6 := hid (bthen HB12.out hb)
        have HWORK := hid (works06_any w6)
        have n0 : (rm == rm) = true := by simp
        have n1 : (rx == rx) = true := by simp
        clear hb x0 x1 x2 x3 x4 y0 y1 y2 hlt1 hlt2
        go_wp2_with fail
        refine (HWORK.out).mono ?_
        rintro e' w7 ⟨rfl, hb⟩
        have HB7 := hid (bthen HB6.out hb)
        clear hb
        go_wp2_with fail
        go_ret
        exact ⟨rfl, HB7.out⟩
      · obtain rfl := hp
        go_wp2_with fail
        refine (works06_any _).mono ?_
        rintro e' w5 ⟨rfl, hb⟩
        have HB5 := hid (bthen HB4.out hb)
        clear hb
        go_wp2_with fail
        go_ret
        exact ⟨rfl, HB5.out⟩
  · clear hsm
    go_wp2_with fail
    refine (works06_any _).mono ?_
    rintro e' w3 ⟨rfl, hb2⟩
    have HB3 := hid (bthen HB1.out hb2)
    clear hb2
    go_wp2_with fail
    go_ret
    exact ⟨rfl, HB3.out⟩
end Go.Proofs.Ytnepccjcjkeneaa
