/- VfsRights: the walk. -/
import Derived.Test.YtgclemicgcbpjaaFR3
import Derived.Test.YtgclemicgcbpjaaFR0
import Derived.Deep.RegionHeld3
namespace Go.Proofs.Ytgclemicgcbpjaa
open Go.RowKit Go.Sort

theorem St.five {W : World} {b : Nat} {v0 v1 v2 v3 v4 : Value} (h : W.cell? ⟨b, 0, none⟩ = some v0 ∧ W.cell? ⟨b, 1, none⟩ = some v1 ∧ W.cell? ⟨b, 2, none⟩ = some v2 ∧ W.cell? ⟨b, 3, none⟩ = some v3 ∧ W.cell? ⟨b, 4, none⟩ = some v4) :
    (∀ w, St W w → w.cell? ⟨b, 0, none⟩ = some v0) ∧ (∀ w, St W w → w.cell? ⟨b, 1, none⟩ = some v1) ∧ (∀ w, St W w → w.cell? ⟨b, 2, none⟩ = some v2) ∧ (∀ w, St W w → w.cell? ⟨b, 3, none⟩ = some v3) ∧ (∀ w, St W w → w.cell? ⟨b, 4, none⟩ = some v4) :=
  ⟨fun _ => St.cell h.1, fun _ => St.cell h.2.1, fun _ => St.cell h.2.2.1, fun _ => St.cell h.2.2.2.1, fun _ => St.cell h.2.2.2.2⟩
theorem St.three {W : World} {b : Nat} {v0 v1 v2 : Value} (h : W.cell? ⟨b, 0, none⟩ = some v0 ∧ W.cell? ⟨b, 1, none⟩ = some v1 ∧ W.cell? ⟨b, 2, none⟩ = some v2) :
    (∀ w, St W w → w.cell? ⟨b, 0, none⟩ = some v0) ∧ (∀ w, St W w → w.cell? ⟨b, 1, none⟩ = some v1) ∧ (∀ w, St W w → w.cell? ⟨b, 2, none⟩ = some v2) :=
  ⟨fun _ => St.cell h.1, fun _ => St.cell h.2.1, fun _ => St.cell h.2.2⟩
theorem St.size {W w : World} (h : St W w) : W.heap.size ≤ w.heap.size := Below.size h
theorem Cpe.ents {w0 w : World} {base k : Nat} {xs ys : List EN} {a : Option Addr} {n c : Nat} (h : Cpe w0 base xs k (.slice a n c) ys w) : n = ys.length ∧ Ents w a ys.length ys := by
  obtain ⟨a', c', e, hr, _⟩ := own_rk h.own (enC_len ys) (by omega)
  cases e
  exact ⟨rfl, hr, h.ok⟩

theorem walk_root (F : Nat) (t : FT) (c : CR) (from_ : Int) (p : BL) (last : Bool) (w : World) (h : FSat w F t) (hc : CrOk w c) (hp : p.length ≤ 1000000) :
    Calls Try.prog 13 #[.pointer (some ⟨F, 0, none⟩), c.v, .int .i64 from_, .string (ba p), .bool last] w fun e w' => ∃ rn re, e = .returned (.tuple #[.int .i64 rn, .int .i64 re]) ∧ ((rn = 0 ∧ re = 5) ∨ (rn = (walkL t.L rootC from_ p last).1 ∧ re = (walkL t.L rootC from_ p last).2)) ∧ Below w.heap.size w w' := by
  refine (walk_any F t c from_ p last w h hc hp).mono ?_
  rintro e w' ⟨rfl, hb⟩
  refine ⟨_, _, rfl, ?_, hb⟩
  rcases @root_walk t.L c from_ p last with h | h
  · left; rw [h]; exact ⟨rfl, rfl⟩
  · right; rw [h]; exact ⟨rfl, rfl⟩

set_option maxRecDepth 100000 in
set_option maxHeartbeats 8000000 in
theorem vfsRights_walk (a : Option Addr) (cp : Nat) (xs : List EN) (u e s g : Int) (ca : Option Addr) (cn cc : Nat) (cl : List Int) (f : Int) (p : BL) (last : Bool) (w : World) (hX : EntsIn w a xs.length xs) (hxl : xs.length ≤ 140737488351232) (hN : Nums w .u32 ca cn cl) (hcn : ca = none → cc = 0) :
    Calls Try.prog 4 #[.slice a xs.length cp, credV u e s g ca cn cc, .agg #[.int .i64 f, .string (ba p), .bool last]] w fun e' w' => e' = .returned (.bool true) ∧ Below w.heap.size w w' := by
  obtain ⟨W0, hW0⟩ : ∃ W0, W0 = (w.alloc (.cells #[.int .u32 u, .int .u32 e, .int .u32 s, .int .u32 g, .slice ca cn cc] 25)).alloc (.cells #[.int .i64 f, .string (ba p), .bool last] 27) := ⟨_, rfl⟩
  have hb : Below w.heap.size w W0 := by rw [hW0]; exact (bal _).alloc (by simp) _
  have hr1 : Row W0 w.heap.size 25 [.int .u32 u, .int .u32 e, .int .u32 s, .int .u32 g, .slice ca cn cc] := by
    rw [hW0]; exact (Row.new w 25 [.int .u32 u, .int .u32 e, .int .u32 s, .int .u32 g, .slice ca cn cc]).alloc _
  have hr2 : Row W0 (w.heap.size + 1) 27 [.int .i64 f, .string (ba p), .bool last] := by
    have := Row.new (w.alloc (.cells #[.int .u32 u, .int .u32 e, .int .u32 s, .int .u32 g, .slice ca cn cc] 25)) 27 [.int .i64 f, .string (ba p), .bool last]
    rw [World.size_alloc] at this
    rw [hW0]; exact this
  have HB0 := hid hb
  have HR1 := hid hr1
  have HR2 := hid hr2
  have HX0 := hid (show EntsIn W0 a xs.length xs from ⟨hX.rows.below' hb, fun x hx => ⟨(hX.ok x hx).byt.below' hb, (hX.ok x hx).nil, (hX.ok x hx).path, (hX.ok x hx).to, (hX.ok x hx).data, (hX.ok x hx).mode⟩⟩)
  have HN0 := hid (hN.below' hb)
  have HC := hid hcn
  clear hb hr1 hr2 hX hN hcn
  go_enter Try.func4, Try.ntmps4
  go_wp2_with fail
  rw [← hW0]
  clear hW0
  refine (largeE_any _ _ _ xs W0 HX0.out hxl).mono ?_
  rintro e' w1 ⟨b, rfl, hb, hsm⟩
  have HB1 := hid (HB0.out.trans (hb.mono HB0.out.size))
  have HR1 := hid (HR1.out.below hb HR1.out.lt)
  have HR2 := hid (HR2.out.below hb HR2.out.lt)
  cases b
  · obtain ⟨hs1, hs2⟩ := hsm rfl
    have he := HX0.out.small hs2
    have HX1 := hid (he.below hb)
    have HN1 := hid (HN0.out.below' hb)
    have HS1 := hid hs1
    clear hsm hs1 hs2 he hb HX0 HN0
    obtain ⟨c0, c1, c2, c3, c4⟩ := HR1.out.five
    obtain ⟨d0, d1, d2⟩ := HR2.out.three
    have hl1 := HR1.out.lt
    have hl2 := HR2.out.lt
    go_wp2_with fail
    refine (small_any u e s g ca cn cc (ba p) w1).mono ?_
    rintro e' w2 ⟨rfl, hb⟩
    have HB2 := hid (bthen HB1.out hb)
    have HR1 := hid (HR1.out.below hb HR1.out.lt)
    have HR2 := hid (HR2.out.below hb HR2.out.lt)
    have HX2 := hid (HX1.out.below hb)
    have HN2 := hid (HN1.out.below' hb)
    clear hb c0 c1 c2 c3 c4 d0 d1 d2 hl1 hl2 HX1 HN1
    cases hsm : smallB cn (ba p)
    · clear hsm
      go_wp2_with fail
      refine (works06_any _).mono ?_
      rintro e' w3 ⟨rfl, hb⟩
      have HB3 := hid (bthen HB2.out hb)
      clear hb
      go_wp2_with fail
      go_ret
      exact ⟨rfl, HB3.out⟩
    · have hsz : cn ≤ 1024 ∧ p.length ≤ 4096 := by
        unfold smallB at hsm
        rw [ba_size] at hsm
        simpa using hsm
      have HSZ := hid hsz
      clear hsm hsz
      go_wp2_with fail
      refine (copyE_any _ _ _ xs w2 HX2.out (by have := HS1.out; omega)).mono ?_
      rintro e' w3 ⟨v, ys, rfl, hC⟩
      obtain ⟨av, cv, rfl, _⟩ := own_rk hC.own (enC_len ys) (by omega)
      have hb := hC.below
      have HB3 := hid (bthen HB2.out hb)
      have HR1 := hid (HR1.out.below hb HR1.out.lt)
      have HR2 := hid (HR2.out.below hb HR2.out.lt)
      have HN3 := hid (HN2.out.below' hb)
      have HE := hid hC.ents.2
      have HYL := hid (show ys.length ≤ 1000000 by have := HS1.out; have := hC.len; omega)
      clear hb hC HX2 HN2
      go_wp2_with fail
      refine (new_any _ _ _ ys w3 HE.out HYL.out).mono ?_
      rintro e' w4 ⟨hb, hp⟩
      have HB4 := hid (bthen HB3.out hb)
      have HR1 := hid (HR1.out.below hb HR1.out.lt)
      have HR2 := hid (HR2.out.below hb HR2.out.lt)
      have HN4 := hid (HN3.out.below' hb)
      clear hb HE HN3 HB0 HB1 HB2 HB3
      split at hp
      · obtain rfl := hp
        go_wp2_with fail
        refine (works06_any _).mono ?_
        rintro e' w5 ⟨rfl, hb⟩
        have HB5 := hid (bthen HB4.out hb)
        clear hb
        go_wp2_with fail
        go_ret
        exact ⟨rfl, HB5.out⟩
      · split at hp
        · obtain ⟨F, t, rfl, _, hfs, _⟩ := hp
          have HF := hid hfs
          clear hfs
          have HQ0 := hid (St.five HR1.out.five)
          have HQ1 := hid (St.three HR2.out.three)
          obtain ⟨x0, x1, x2, x3, x4⟩ := HQ0.out
          obtain ⟨y0, y1, y2⟩ := HQ1.out
          have hlt1 : ∀ w', St w4 w' → w.heap.size < w'.heap.size := fun w' hs => Nat.lt_of_lt_of_le HR1.out.lt hs.size
          have hlt2 : ∀ w', St w4 w' → w.heap.size + 1 < w'.heap.size := fun w' hs => Nat.lt_of_lt_of_le HR2.out.lt hs.size
          have HCP := hid (fun (wr : World) (hs : St w4 wr) => cpc_any u e s g ca cn cc cl wr (HN4.out.below' hs) HC.out (by have := HSZ.out.1; omega))
          have HWK := hid (fun (wr : World) (hs : St w4 wr) (a' : Option Addr) (c' : Nat) (hn : Nums wr .u32 a' cl.length cl) => walk_root F t ⟨u, e, s, g, a', cl.length, c', cl⟩ f p last wr (HF.out.below hs) ⟨hn, by have := HN4.out.hlen; have := HSZ.out.1; dsimp only; omega⟩ (by have := HSZ.out.2; omega))
          go_wp2_with fail
          go_region_held3 (St w4) (first | exact St.drew _ | exact St.step (by assumption) hbx | assumption) (first | (go_at_call 20; with_reducible refine ((HCP.out _ (by assumption)).mono ?_); rintro e' wx ⟨v', rfl, hoc, hbx⟩; obtain ⟨a11, c11, rfl, hN11⟩ := own_nums hoc; have HN11 := hid hN11; have HS11 : Hid (St w4 wx) := hid (St.step (by assumption) hbx); clear hoc hN11) | (go_at_call 13; go_must (refine ((HWK.out _ HS11.out _ _ HN11.out).mono ?_)); rintro e' wy ⟨rn, re, rfl, hrr, hbx⟩; have HRR := hid hrr; have HS12 : Hid (St w4 wy) := hid (St.step HS11.out hbx); clear hrr))
          have HF12 := hid (HF.out.below HS12.out)
          have HB12 := hid (bthen HB4.out HS12.out)
          have HR22 := hid (HR2.out.below HS12.out HR2.out.lt)
          have h5 := @root_walk5 t.L f p last
          have HW0 := hid (walk_any F t rootC f p last wy HF12.out ⟨Nums.nil _ _ _, by show 0 ≤ _; omega⟩ (by have := HSZ.out.2; omega))
          clear HWK HCP HQ0 HQ1 x0 x1 x2 x3 x4 y0 y1 y2 hlt1 hlt2 HS11 HN11 hbx
          generalize walkL t.L rootC f p last = R at *
          obtain ⟨rm, rx⟩ := R
          have H5 := hid h5
          clear h5
          simp only [walkV] at HW0
          obtain ⟨y0, y1, y2⟩ := HR22.out.three
          have hlt2 := HR22.out.lt
          go_wp2_with fail
          refine (HW0.out).mono ?_
          rintro e' w6 ⟨rfl, hb⟩
          have HB6 := hid (bthen HB12.out hb)
          have HWORK := hid (works06_any w6)
          have n5 : (rx != 5) = true := by have := H5.out; simpa using this
          have n5' : (rx == 5) = false := by have := H5.out; simpa using this
          clear hb y0 y1 y2 hlt2
          rcases HRR.out with ⟨rfl, rfl⟩ | ⟨rfl, rfl⟩
          · go_wp2_with fail
            refine (HWORK.out).mono ?_
            rintro e' w7 ⟨rfl, hb⟩
            have HB7 := hid (bthen HB6.out hb)
            clear hb
            go_wp2_with fail
            go_ret
            exact ⟨rfl, HB7.out⟩
          · dsimp only
            go_wp2_with fail
            refine (HWORK.out).mono ?_
            rintro e' w7 ⟨rfl, hb⟩
            have HB7 := hid (bthen HB6.out hb)
            clear hb
            go_wp2_with fail
            go_ret
            exact ⟨rfl, HB7.out⟩
        · obtain rfl := hp
          go_wp2_with fail
          refine (works06_any _).mono ?_
          rintro e' w5 ⟨rfl, hb⟩
          have HB5 := hid (bthen HB4.out hb)
          clear hb
          go_wp2_with fail
          go_ret
          exact ⟨rfl, HB5.out⟩
  · clear hsm
    go_wp2_with fail
    refine (works06_any _).mono ?_
    rintro e' w3 ⟨rfl, hb2⟩
    have HB3 := hid (bthen HB1.out hb2)
    clear hb2
    go_wp2_with fail
    go_ret
    exact ⟨rfl, HB3.out⟩
end Go.Proofs.Ytgclemicgcbpjaa
