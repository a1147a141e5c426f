/- VfsLinks: the walk. -/
import Derived.Test.YtgclemicgcbpjaaFR4
import Derived.Test.YtgclemicgcbpjaaFL1
import Derived.Test.YtgclemicgcbpjaaP5a
namespace Go.Proofs.Ytgclemicgcbpjaa
open Go.RowKit Go.Sort

theorem EntsIn.below {w w' : World} {a : Option Addr} {n : Nat} {xs : List EN} (hX : EntsIn w a n xs) (hb : Below w.heap.size w w') : EntsIn w' a n xs := ⟨hX.rows.below' hb, fun x hx => ⟨(hX.ok x hx).byt.below' hb, (hX.ok x hx).nil, (hX.ok x hx).path, (hX.ok x hx).to, (hX.ok x hx).data, (hX.ok x hx).mode⟩⟩
/-- What is known of a file system that was made of copies. -/
structure Made (L : List ND) (xs : List EN) : Prop where
  lay : ∃ P, Lay L P
  len : L.length = xs.length + 1
  of : ∀ i (h : i < xs.length), (L.getD (i + 1) default).kind = xs[i].kind ∧ (L.getD (i + 1) default).to = xs[i].to ∧ (L.getD (i + 1) default).data = xs[i].data ∧ (xs[i].kind = 3 → chkE xs[i].to = 0)
theorem made_of {w0 w : World} {v : Value} {xs ys : List EN} (h : Cpe w0 w0.heap.size xs xs.length v ys w) (h2 : (newE [root0] 0 ys).1 = 0) : Made (newE [root0] 0 ys).2.2 xs := by
  obtain ⟨P, h3, h4, h5, h6⟩ := lay_new ys [root0] _ 0 lay0 h2
  refine ⟨⟨P, h3⟩, by rw [h4, h.len]; simp; omega, fun i hi => ?_⟩
  have hi' : i < ys.length := by rw [h.len]; exact hi
  have ho := h6 i hi'
  have ht := h.twin i hi' hi
  rw [show [root0].length + i = i + 1 by simp; omega] at ho
  have hk : ys[i].kind = xs[i].kind := by rw [ht]
  have hto : ys[i].to = xs[i].to := by rw [ht]
  have hda : ys[i].data = xs[i].data := by rw [ht]
  refine ⟨by rw [ho.kind, hk], by rw [ho.to, hto], by rw [ho.data, hda], fun h3 => ?_⟩
  have hr := ho.right
  unfold rightK at hr
  rw [hk, hto, if_neg (by omega), if_neg (by omega), if_pos h3, Bool.and_eq_true] at hr
  simpa using hr.2

set_option maxRecDepth 100000 in
set_option maxHeartbeats 8000000 in
theorem vfsLinks_walk (a : Option Addr) (cp : Nat) (xs : List EN) (u e s g : Int) (ca : Option Addr) (cn cc : Nat) (cl : List Int) (w : World) (hX : EntsIn w a xs.length xs) (hxl : xs.length ≤ 140737488351232) (hN : Nums w .u32 ca cn cl) (hcn : ca = none → cc = 0) :
    Calls Try.prog 6 #[.slice a xs.length cp, credV u e s g ca cn cc] w fun e' w' => e' = .returned (.bool true) ∧ Below w.heap.size w w' := by
  obtain ⟨W0, hW0⟩ : ∃ W0, W0 = w.alloc (.cells #[.int .u32 u, .int .u32 e, .int .u32 s, .int .u32 g, .slice ca cn cc] 25) := ⟨_, rfl⟩
  have hb : Below w.heap.size w W0 := by rw [hW0]; exact bal _
  have hr1 : Row W0 w.heap.size 25 [.int .u32 u, .int .u32 e, .int .u32 s, .int .u32 g, .slice ca cn cc] := by
    rw [hW0]; exact Row.new w 25 [.int .u32 u, .int .u32 e, .int .u32 s, .int .u32 g, .slice ca cn cc]
  have HB0 := hid hb
  have HR1 := hid hr1
  have HX0 := hid (hX.below hb)
  have HN0 := hid (hN.below' hb)
  have HC := hid hcn
  clear hb hr1 hX hN hcn
  go_enter Try.func6, Try.ntmps6
  go_wp2_with fail
  rw [← hW0]
  clear hW0
  refine (largeE_any _ _ _ xs W0 HX0.out hxl).mono ?_
  rintro e' w1 ⟨b, rfl, hb, hsm⟩
  have HB1 := hid (HB0.out.trans (hb.mono HB0.out.size))
  have HR1 := hid (HR1.out.below hb HR1.out.lt)
  cases b
  · obtain ⟨hs1, hs2⟩ := hsm rfl
    have he := HX0.out.small hs2
    have HX1 := hid (he.below hb)
    have HN1 := hid (HN0.out.below' hb)
    have HS1 := hid hs1
    clear hsm hs1 hs2 he hb HX0 HN0
    obtain ⟨c0, c1, c2, c3, c4⟩ := HR1.out.five
    have hl1 := HR1.out.lt
    by_cases hsz : cn ≤ 1024
    · have dsz : decide ((1024 : Int) < (cn : Int)) = false := by simp; omega
      have HSZ := hid hsz
      clear hsz
      go_wp2_with fail
      refine (copyE_any _ _ _ xs w1 HX1.out (by have := HS1.out; omega)).mono ?_
      rintro e' w3 ⟨v, ys, rfl, hC⟩
      obtain ⟨av, cv, rfl, _⟩ := own_rk hC.own (enC_len ys) (by omega)
      have hb := hC.below
      have HB3 := hid (bthen HB1.out hb)
      have HR1 := hid (HR1.out.below hb HR1.out.lt)
      have HN3 := hid (HN1.out.below' hb)
      have HX3 := hid (HX1.out.below hb)
      have HE := hid hC.ents.2
      have HYL := hid (show ys.length ≤ 1000000 by have := HS1.out; have := hC.len; omega)
      have HMD := hid (fun h => made_of hC h)
      clear hb hC HX1 HN1 c0 c1 c2 c3 c4 hl1
      go_wp2_with fail
      refine (new_any _ _ _ ys w3 HE.out HYL.out).mono ?_
      rintro e' w4 ⟨hb, hp⟩
      have HB4 := hid (bthen HB3.out hb)
      have HR1 := hid (HR1.out.below hb HR1.out.lt)
      have HN4 := hid (HN3.out.below' hb)
      have HX4 := hid (HX3.out.below hb)
      clear hb HE HN3 HX3 HB0 HB1 HB3 HYL
      split at hp
      · obtain rfl := hp
        go_wp2_with fail
        refine (works06_any _).mono ?_
        rintro e' w5 ⟨rfl, hb⟩
        have HB5 := hid (bthen HB4.out hb)
        clear hb
        go_wp2_with fail
        go_ret
        exact ⟨rfl, HB5.out⟩
      · split at hp
        · rename_i hok
          obtain ⟨F, t, rfl, htl, hfs, _⟩ := hp
          have HF := hid hfs
          have HM : Hid (Made t.L xs) := hid (by rw [htl]; exact HMD.out hok)
          clear hfs htl HMD hok
          go_wp2_with fail
          go_loopw [8] (fun i wr => Below w4.heap.size w4 wr ∧ ∃ k : Nat, k ≤ xs.length ∧ i = .int .i64 k) (fun i _ => xs.length - (intOf i).toNat)
          case atStart => exact ⟨Below.refl _ _, 0, Nat.zero_le _, rfl⟩
          case round =>
            obtain ⟨hbw, k, hk, rfl⟩ := hrel
            have HBW := hid hbw
            clear hbw
            by_cases hlt : k < xs.length
            · have d1 : decide ((k : Int) < (xs.length : Int)) = true := by simp; omega
              have d1n : decide (k < xs.length) = true := by simp; omega
              have hXr := HX4.out.below HBW.out
              obtain ⟨b, o, rfl, hcell⟩ := hXr.rows.some_of (by simp; omega)
              have gg := fun j hj => hcell k (by simpa using hlt) j hj
              have e9 : (xs.map EN.cs)[k]'(by simpa using hlt) = xs[k].cs := by simp
              rw [e9] at gg
              have g1 := gg 1 (by simp [EN.cs])
              have g6 := gg 6 (by simp [EN.cs])
              simp only [EN.cs, List.getElem_cons_zero, List.getElem_cons_succ, Nat.add_zero] at g1 g6
              have HOK := hid (hXr.ok _ (List.getElem_mem hlt))
              have HOF := hid (HM.out.of k hlt)
              have HLT := hid (show k + 1 < t.L.length by rw [HM.out.len]; omega)
              have hblt := World.block_lt_of_cell? _ _ g1
              dsimp only at hblt
              clear hcell gg e9 hXr
              generalize hx : xs[k] = x at *
              clear hx
              by_cases h3 : x.kind = 3
              · have d3 : (x.kind != 3) = false := by simp [h3]
                have H3 := hid h3
                clear h3
                go_wp2_with fail
                refine (rtail_any (ba x.to) wr (by rw [ba_size]; have := HOK.out.to; omega)).mono ?_
                rintro e' w5 ⟨rfl, rfl⟩
                rw [show (ba x.to).data.toList = x.to from rfl]
                cases htl : tailB x.to
                · have HTL := hid htl
                  clear htl
                  have hrow := HR1.out.below HBW.out HR1.out.lt
                  have HROW := hid hrow
                  have HNR := hid (HN4.out.below' HBW.out)
                  have HFR := hid (HF.out.below HBW.out)
                  have HWA := hid (fun (wx : World) (hs : Below wr.heap.size wr wx) (fr : Int) (pp : BL) (hpp : pp.length ≤ 1000000) => walk_any F t ⟨u, e, s, g, ca, cn, cc, cl⟩ fr pp true wx (HFR.out.below hs) ⟨HNR.out.below' hs, by have := HSZ.out; dsimp only; omega⟩ hpp)
                  have HPA := hid (fun (wx : World) (hs : Below wr.heap.size wr wx) => path_any F t (k + 1) wx (HFR.out.below hs) HLT.out)
                  have HPL := hid (HFR.out.fine.path (k + 1) HLT.out)
                  have HLW := hid (fun (hw : (walkL t.L ⟨u, e, s, g, ca, cn, cc, cl⟩ 0 (t.L.getD (k + 1) default).path true).2 = 0) => by
                    obtain ⟨P, hP⟩ := HM.out.lay
                    exact link_walk hP ⟨u, e, s, g, ca, cn, cc, cl⟩ HLT.out (by rw [HOF.out.1, H3.out]) (by rw [HOF.out.2.1]; exact HOF.out.2.2.2 H3.out) (by rw [HOF.out.2.1]; exact HTL.out) hw)
                  have HFP := hid HFR.out.fine.path
                  rw [HOF.out.2.1] at HLW
                  rw [show (((k + 1 : Nat)) : Int) = (k : Int) + 1 by omega] at HPA
                  have hw0 : wr = wr := rfl
                  clear HOF HM hrow hw0
                  simp only [CR.v] at HWA
                  rw [show (t.nd (k + 1)).path = (t.L.getD (k + 1) default).path from rfl] at HPA
                  generalize hpq : (t.L.getD (k + 1) default).path = pq at *
                  clear hpq
                  obtain ⟨q0, q1, q2, q3, q4⟩ := five_rg HROW.out.five
                  have pc := hid (fun (d : Nat) (os : Array Obj) => rg_same (HPA.out (rg wr d os) (rg_below _ _ _)))
                  have wc := hid (fun (d : Nat) (os : Array Obj) => rg_call (HWA.out (rg wr d os) (rg_below _ _ _) 0 pq HPL.out))
                  simp only [walkV] at wc
                  generalize hR1 : walkL t.L ⟨u, e, s, g, ca, cn, cc, cl⟩ 0 pq true = R1 at *
                  obtain ⟨n1, e1⟩ := R1
                  have HR9 := hid hR1
                  clear hR1
                  have hwk : IntKind.i64.wrap ((k : Int) + 1) = (k : Int) + 1 := IntWalk.i64_in _ ⟨by omega, by have := HS1.out; omega⟩
                  have hbl : ∀ d os, w.heap.size < (rg wr d os).heap.size := fun d os => World.block_lt_of_cell? _ _ (q0 d os)
                  go_wp2_with fail
                  refine region_rg (by kernel_rfl) (by kernel_rfl) ?_
                  repeat (quiet_step (first | with_reducible exact pc.out _ _ | with_reducible exact wc.out _ _))
                  refine wpQuiet_nil ?_
                  intro _ hw'
                  obtain ⟨⟨dq, osq⟩, hw''⟩ := hw'
                  subst hw''
                  have HB6 := hid (rg_below wr dq osq)
                  clear q0 q1 q2 q3 q4 pc wc hbl
                  generalize rg wr dq osq = W6 at *
                  by_cases he : e1 = 0
                  · obtain ⟨d, hd1, hd2, hd3, hd4⟩ := HLW.out he
                    subst he
                    have HD3 := hid hd3
                    have HD4 := hid hd4
                    have HDL := hid (show (dirL pq).length ≤ 1000000 by rw [hd2]; exact HFP.out d hd1)
                    clear hd1 hd2 hd3 hd4 HLW HFP
                    obtain ⟨q0, q1, q2, q3, q4⟩ := five_rg (HROW.out.below HB6.out HROW.out.lt).five
                    have pc := hid (fun (d : Nat) (os : Array Obj) => rg_same (HPA.out (rg W6 d os) (bthen HB6.out (rg_below _ _ _))))
                    have dc := hid (fun (d : Nat) (os : Array Obj) => rg_same (rdir_any (ba pq) (rg W6 d os) (by rw [ba_size]; exact HPL.out)))
                    have wc := hid (fun (d : Nat) (os : Array Obj) => rg_call (HWA.out (rg W6 d os) (bthen HB6.out (rg_below _ _ _)) 0 (dirL pq) HDL.out))
                    rw [show (ba pq).data.toList = pq from rfl] at dc
                    rw [HD3.out] at wc
                    simp only [walkV] at wc
                    have hbl : ∀ d os, w.heap.size < (rg W6 d os).heap.size := fun d os => World.block_lt_of_cell? _ _ (q0 d os)
                    go_wp2_with fail
                    refine region_rg (by kernel_rfl) (by kernel_rfl) ?_
                    repeat (quiet_step (first | with_reducible exact pc.out _ _ | with_reducible exact dc.out _ _ | with_reducible exact wc.out _ _))
                    refine wpQuiet_nil ?_
                    intro _ hw'
                    obtain ⟨⟨dq, osq⟩, hw''⟩ := hw'
                    subst hw''
                    have HB7 := hid (bthen HB6.out (rg_below W6 dq osq))
                    clear q0 q1 q2 q3 q4 pc dc wc hbl
                    generalize rg W6 dq osq = W7 at *
                    obtain ⟨q0, q1, q2, q3, q4⟩ := five_rg (HROW.out.below HB7.out HROW.out.lt).five
                    have z6 := rg_cell (keepC HB7.out g6)
                    have wc := hid (fun (dd : Nat) (os : Array Obj) => rg_call (HWA.out (rg W7 dd os) (bthen HB7.out (rg_below _ _ _)) (d : Int) x.to (by have := HOK.out.to; omega)))
                    rw [HD4.out] at wc
                    simp only [walkV] at wc
                    have hbl : ∀ d os, w.heap.size < (rg W7 d os).heap.size := fun d os => World.block_lt_of_cell? _ _ (q0 d os)
                    have hbl2 : ∀ d os, b < (rg W7 d os).heap.size := fun d os => World.block_lt_of_cell? _ _ (z6 d os)
                    go_wp2_with fail
                    refine region_rg (by kernel_rfl) (by kernel_rfl) ?_
                    repeat (quiet_step (first | with_reducible exact wc.out _ _))
                    refine wpQuiet_nil ?_
                    intro _ hw'
                    obtain ⟨⟨dq, osq⟩, hw''⟩ := hw'
                    subst hw''
                    have HB8 := hid (bthen HBW.out (bthen HB7.out (rg_below W7 dq osq)))
                    clear q0 q1 q2 q3 q4 wc hbl hbl2 z6
                    generalize rg W7 dq osq = W8 at *
                    have hbn : (n1 != n1) = false := by simp
                    go_wp2_with fail
                    go_roundw
                    case rel => exact ⟨HB8.out, k + 1, by omega, by go_num⟩
                    case measure => simp [intOf]; omega
                  · have hne : (e1 != 0) = true := by simpa using he
                    have HB7 := hid (bthen HBW.out HB6.out)
                    clear he HLW
                    go_wp2_with fail
                    go_roundw
                    case rel => exact ⟨HB7.out, k + 1, by omega, by go_num⟩
                    case measure => simp [intOf]; omega
                · clear htl
                  go_wp2_with fail
                  go_roundw
                  case rel => exact ⟨HBW.out, k + 1, by omega, by go_num⟩
                  case measure => simp [intOf]; omega
              · have d3 : (x.kind != 3) = true := by simpa using h3
                clear h3
                go_wp2_with fail
                go_roundw
                case rel => exact ⟨HBW.out, k + 1, by omega, by go_num⟩
                case measure => simp [intOf]; omega
            · have d1 : decide ((k : Int) < (xs.length : Int)) = false := by simp; omega
              have d1n : decide (k < xs.length) = false := by simp; omega
              go_wp2_with fail
              refine (works06_any _).mono ?_
              rintro e' w5 ⟨rfl, hb⟩
              have HB5 := hid (bthen (bthen HB4.out HBW.out) hb)
              clear hb
              go_wp2_with fail
              go_ret
              exact ⟨rfl, HB5.out⟩
        · obtain rfl := hp
          go_wp2_with fail
          refine (works06_any _).mono ?_
          rintro e' w5 ⟨rfl, hb⟩
          have HB5 := hid (bthen HB4.out hb)
          clear hb
          go_wp2_with fail
          go_ret
          exact ⟨rfl, HB5.out⟩
    · have dsz : decide ((1024 : Int) < (cn : Int)) = true := by simp; omega
      go_wp2_with fail
      refine (works06_any _).mono ?_
      rintro e' w3 ⟨rfl, hb⟩
      have HB3 := hid (bthen HB1.out hb)
      clear hb
      go_wp2_with fail
      go_ret
      exact ⟨rfl, HB3.out⟩
  · clear hsm
    go_wp2_with fail
    refine (works06_any _).mono ?_
    rintro e' w3 ⟨rfl, hb2⟩
    have HB3 := hid (bthen HB1.out hb2)
    clear hb2
    go_wp2_with fail
    go_ret
    exact ⟨rfl, HB3.out⟩
end Go.Proofs.Ytgclemicgcbpjaa
