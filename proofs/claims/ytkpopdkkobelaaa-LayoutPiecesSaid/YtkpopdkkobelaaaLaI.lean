
/- Stage 17: LayoutPieces' walk. -/
import Derived.Test.YtkpopdkkobelaaaLaT
import Derived.Test.YtkpopdkkobelaaaLaG
namespace Go.Proofs.Ytkpopdkkobelaaa
open Go.RowKit Go.Sort Go.Shelf
attribute [local go_sem] Oper.semAt_some

def pieP (x : LO) : List PC := if pieB x.ino x.typ x.base x.sg = true then pcsL x.base x.ino (lds x.sg) else []
def pieL (x : LO) : List (Int × Nat) := if pieB x.ino x.typ x.base x.sg = true then wrsL x.base (lds x.sg) else []
def pieE (x : LO) : Int := if pieB x.ino x.typ x.base x.sg = true then 0 else 1
/-- Writes in memory, of noughts. -/
def Nts (w : World) (qa : Option Addr) (L : List (Int × Nat)) : Prop := ∃ ws, wbL ws = L ∧ Rk w 2 qa L.length (ws.map wbC) ∧ ∀ x ∈ ws, Nought w x
theorem Nts.below {w w' : World} {qa : Option Addr} {L : List (Int × Nat)} (h : Nts w qa L) (hb : Below w.heap.size w w') : Nts w' qa L := by
  obtain ⟨ws, h1, h2, h3⟩ := h
  exact ⟨ws, h1, h2.below' hb, fun x hx => (h3 x hx).below hb⟩
theorem pie_gen {w w' : World} {x : LO} {e : Ending} (h : PiePost w x e w') : ∃ va vc qa qc, e = .returned (.tuple #[.slice va (pieP x).length vc, .slice qa (pieL x).length qc, .int .i64 (pieE x)]) ∧ Pcs w' va vc qa qc (pieP x) (pieL x) ∧ Nts w' qa (pieL x) ∧ Below w.heap.size w w' := by
  cases hp : pieB x.ino x.typ x.base x.sg
  · obtain ⟨rfl, hb⟩ := pie_not h hp
    unfold pieP pieL pieE
    rw [hp, if_neg (by simp), if_neg (by simp), if_neg (by simp)]
    exact ⟨none, 0, none, 0, rfl, ⟨Rk.nil _ _ _, [], rfl, Rk.nil _ _ _⟩, ⟨[], rfl, Rk.nil _ _ _, fun x hx => by cases hx⟩, hb⟩
  · obtain ⟨vp, vw, rfl, hop, hwo, hb⟩ := pie_yes h hp
    obtain ⟨va, vc, qa, qc, rfl, rfl, hpc⟩ := pcs_of hop hwo
    obtain ⟨ws, k1, k2, k3⟩ := hwo
    obtain ⟨qa', qc', hq, hqr, _⟩ := own_rk k2 (wbC_len _) (by decide)
    have e : ws.length = (wrsL x.base (lds x.sg)).length := by rw [← k1]; simp [wbL]
    rw [List.length_map, e] at hq hqr
    cases hq
    unfold pieP pieL pieE
    rw [hp, if_pos rfl, if_pos rfl, if_pos rfl]
    exact ⟨va, vc, qa, qc, rfl, hpc, ⟨ws, k1, hqr, k3⟩, hb⟩
theorem pie_len {sg : List SG} (hok : ∀ s ∈ sg, SGok s) (x : LO) (hx : x.sg = sg) : (pieP x).length ≤ 16 ∧ (pieL x).length ≤ 8 ∧ ∀ p ∈ pieL x, p.2 ≤ 4096 := by
  unfold pieP pieL
  cases hp : pieB x.ino x.typ x.base x.sg
  · simp
  · have h1 := pieB_of hp
    have h2 := (rightB_of h1.1).2.1
    have h3 := lds_len x.sg
    have h4 := pcsL_len x.base x.ino (lds x.sg)
    have h5 := wrsL_len x.base (lds x.sg)
    rw [if_pos rfl, if_pos rfl]
    refine ⟨by omega, by omega, fun p hpm => ?_⟩
    obtain ⟨s, hs, hpm⟩ := List.mem_flatMap.1 hpm
    unfold wrs1 at hpm
    split at hpm
    · rw [List.mem_singleton.1 hpm]
      unfold upI dn
      dsimp only
      omega
    · cases hpm

set_option maxRecDepth 100000 in
set_option maxHeartbeats 8000000 in
theorem layoutPieces_walk (x : LO) (w : World) (hx : LOk w x) :
    Calls Try.prog 5 #[loV x] w fun e w' => e = .returned (.bool true) ∧ Below w.heap.size w w' := by
  have hlen := hx.segs.hlen
  have HX := hid hx
  have HWK := hid works17_any
  obtain ⟨W0, hW0⟩ : ∃ W0, W0 = w.alloc (.cells (loC x).toArray 33) := ⟨_, rfl⟩
  have HB0 := hid (show Below w.heap.size w W0 by rw [hW0]; exact bal _)
  have HR := hid (show Row W0 w.heap.size 33 (loC x) by rw [hW0]; exact Row.new w 33 (loC x))
  have HR2 := hid (Row.new W0 33 (loC x))
  have HV := hid (vast_any (some ⟨W0.heap.size, 0, none⟩) 1 [x] _ (LOs.one HR2.out ((HX.out.below' HB0.out).below' (bal _))) (by simp) (fun i hi => by
    obtain rfl : i = 0 := by simpa using hi
    exact hx.gn))
  have hz0 : W0.heap.size = w.heap.size + 1 := by rw [hW0]; simp
  rw [hz0] at HV
  clear hz0
  have HB1 := hid (fun o => bthen HB0.out (bal (w := W0) o))
  obtain ⟨ino, base, typ, entry, phoff, ga, gn, gc, sg, na, nn, nc, soname, run, sa, sn, sc, ra, rn, rc⟩ := x
  obtain rfl : sg.length = gn := hlen
  have hb0 := hx.b0
  have HOKS := hid hx.ok
  dsimp only at HOKS
  have hb1 := hx.b1
  dsimp only at hb0 hb1
  clear hx
  unfold loC at HR HR2 HV hW0
  dsimp only [List.length_cons, List.length_nil, Nat.zero_add] at HR HR2 HV hW0
  unfold loV
  dsimp only
  obtain ⟨⟨x0, x1, x2, x3, x4, x5⟩, x6, x7, x8, x9, x10⟩ := HR.out.eleven
  have hl1 := HR.out.lt
  go_enter Try.func5, Try.ntmps5
  go_wp2_with fail
  try rw [← hW0]
  clear hW0
  go_wp2_with fail
  refine (HV.out).mono ?_
  rintro e' w1 ⟨rfl, b, rfl, hv⟩
  have HV1 := hid hv
  clear hv
  cases b
  · have HGN := hid ((HV1.out rfl).2 0 (by simp))
    simp only [List.getElem_cons_zero] at HGN
    clear HV1
    have HR4 := hid (HR.out.alloc (.cells (loC ⟨ino, base, typ, entry, phoff, ga, sg.length, gc, sg, na, nn, nc, soname, run, sa, sn, sc, ra, rn, rc⟩).toArray 33))
    have HX4 := hid ((HX.out.below' HB0.out).below' (bal (w := W0) (.cells (loC ⟨ino, base, typ, entry, phoff, ga, sg.length, gc, sg, na, nn, nc, soname, run, sa, sn, sc, ra, rn, rc⟩).toArray 33)))
    have HB4 := hid (HB1.out (.cells (loC ⟨ino, base, typ, entry, phoff, ga, sg.length, gc, sg, na, nn, nc, soname, run, sa, sn, sc, ra, rn, rc⟩).toArray 33))
    obtain ⟨W4, hW4⟩ : ∃ W4, W4 = W0.alloc (.cells (loC ⟨ino, base, typ, entry, phoff, ga, sg.length, gc, sg, na, nn, nc, soname, run, sa, sn, sc, ra, rn, rc⟩).toArray 33) := ⟨_, rfl⟩
    rw [← hW4] at HR4 HX4 HB4
    unfold loC at hW4
    dsimp only at hW4
    have HTW := hid (fun (wr : World) (hs : Below W4.heap.size W4 wr) => twin_any ⟨ino, base, typ, entry, phoff, ga, sg.length, gc, sg, na, nn, nc, soname, run, sa, sn, sc, ra, rn, rc⟩ wr (HX4.out.below' hs) (by have := HGN.out; show sg.length ≤ 1000000000; omega))
    have HPI := hid (fun (wr : World) (bs : Int) (a : Option Addr) (c : Nat) (hk : LOk wr { LO.moved ⟨ino, base, typ, entry, phoff, ga, sg.length, gc, sg, na, nn, nc, soname, run, sa, sn, sc, ra, rn, rc⟩ a c with base := bs }) => pieces_any _ wr hk)
    unfold loV LO.moved at HTW
    unfold LO.moved loV at HPI
    dsimp only at HTW HPI
    clear x0 x1 x2 x3 x4 x5 x6 x7 x8 x9 x10 hl1 HV
    try rw [← hW4]
    clear hW4
    obtain ⟨⟨x0, x1, x2, x3, x4, x5⟩, x6, x7, x8, x9, x10⟩ := HR4.out.eleven
    have hl1 := HR4.out.lt
    go_wp2_with fail
    try rw [← hW4]
    refine (HTW.out _ (Below.refl _ _)).mono ?_
    rintro e' w5 ⟨a5, c5, rfl, hk5, hb5⟩
    have HK5 := hid (HPI.out w5 base a5 c5 hk5)
    have HB5 := hid (bthen HB4.out hb5)
    have HS5 := hid hb5
    have HR5 := hid (HR4.out.below hb5 HR4.out.lt)
    clear hk5 hb5 x0 x1 x2 x3 x4 x5 x6 x7 x8 x9 x10 hl1
    obtain ⟨⟨x0, x1, x2, x3, x4, x5⟩, x6, x7, x8, x9, x10⟩ := HR5.out.eleven
    have hl1 := HR5.out.lt
    go_wp2_with fail
    refine (HK5.out).mono ?_
    rintro e' w6 hpp
    obtain ⟨va, vc, qa, qc, rfl, hp, hq, hb6⟩ := pie_gen hpp
    have HP6 := hid hp
    have HQ6 := hid hq
    have HS6 := hid (bthen HS5.out hb6)
    have HB6 := hid (bthen HB5.out hb6)
    have HR6 := hid (HR5.out.below hb6 HR5.out.lt)
    have HRP := hid (rpieces_any ⟨ino, base, typ, entry, phoff, ga, sg.length, gc, sg, na, nn, nc, soname, run, sa, sn, sc, ra, rn, rc⟩ w6 (HX4.out.below' HS6.out))
    clear hpp hp hq hb6 x0 x1 x2 x3 x4 x5 x6 x7 x8 x9 x10 hl1 HPI HTW HK5 HR2 HR4 HR5
    unfold loV at HRP
    dsimp only at HRP
    obtain ⟨⟨x0, x1, x2, x3, x4, x5⟩, x6, x7, x8, x9, x10⟩ := HR6.out.eleven
    have hl1 := HR6.out.lt
    go_wp2_with fail
    refine (HRP.out).mono ?_
    rintro e' w7 hpp
    obtain ⟨wa, wc, ra', rc', rfl, hp, hq, hb7⟩ := pie_gen hpp
    have HP7 := hid (HP6.out.below' hb7)
    have HQ7 := hid (HQ6.out.below hb7)
    have HP8 := hid hp
    have HQ8 := hid hq
    have HB7 := hid (bthen HB6.out hb7)
    have HEQ := hid (show pieP { LO.moved ⟨ino, base, typ, entry, phoff, ga, sg.length, gc, sg, na, nn, nc, soname, run, sa, sn, sc, ra, rn, rc⟩ a5 c5 with base := base } = pieP ⟨ino, base, typ, entry, phoff, ga, sg.length, gc, sg, na, nn, nc, soname, run, sa, sn, sc, ra, rn, rc⟩ ∧ pieL { LO.moved ⟨ino, base, typ, entry, phoff, ga, sg.length, gc, sg, na, nn, nc, soname, run, sa, sn, sc, ra, rn, rc⟩ a5 c5 with base := base } = pieL ⟨ino, base, typ, entry, phoff, ga, sg.length, gc, sg, na, nn, nc, soname, run, sa, sn, sc, ra, rn, rc⟩ ∧ pieE { LO.moved ⟨ino, base, typ, entry, phoff, ga, sg.length, gc, sg, na, nn, nc, soname, run, sa, sn, sc, ra, rn, rc⟩ a5 c5 with base := base } = pieE ⟨ino, base, typ, entry, phoff, ga, sg.length, gc, sg, na, nn, nc, soname, run, sa, sn, sc, ra, rn, rc⟩ from ⟨rfl, rfl, rfl⟩)
    have HLEN := hid (pie_len (HX.out.ok) ⟨ino, base, typ, entry, phoff, ga, sg.length, gc, sg, na, nn, nc, soname, run, sa, sn, sc, ra, rn, rc⟩ rfl)
    clear hpp hp hq hb7 x0 x1 x2 x3 x4 x5 x6 x7 x8 x9 x10 hl1 HRP HX HX4 HR HR6 HP6 HQ6
    unfold LO.moved at HEQ HP7 HQ7
    dsimp only at HEQ HP7 HQ7
    try unfold LO.moved
    try dsimp only
    rw [HEQ.out.1] at HP7 ⊢
    rw [HEQ.out.2.1] at HP7 HQ7 ⊢
    rw [HEQ.out.2.2]
    clear HEQ
    generalize pieP ⟨ino, base, typ, entry, phoff, ga, sg.length, gc, sg, na, nn, nc, soname, run, sa, sn, sc, ra, rn, rc⟩ = ps at *
    generalize pieL ⟨ino, base, typ, entry, phoff, ga, sg.length, gc, sg, na, nn, nc, soname, run, sa, sn, sc, ra, rn, rc⟩ = L at *
    generalize pieE ⟨ino, base, typ, entry, phoff, ga, sg.length, gc, sg, na, nn, nc, soname, run, sa, sn, sc, ra, rn, rc⟩ = E at *
    have hee : (E != E) = false := by simp
    go_wp2_with fail
    go_loopw [9] (fun i wr => ∃ k : Nat, k ≤ ps.length ∧ i = .int .i64 k ∧ ∃ n, wr = w7.drewN n) (fun i _ => ps.length - (intOf i).toNat)
    case atStart => exact ⟨0, Nat.zero_le _, rfl, 0, rfl⟩
    case round =>
      obtain ⟨k, hk, rfl, n0, rfl⟩ := hrel
      have hpl := HLEN.out.1
      by_cases hlt : k < ps.length
      · have d1 : decide ((k : Int) < (ps.length : Int)) = true := by simp; omega
        have d1n : decide (k < ps.length) = true := by simp; omega
        have HCP := hid (pc_cells HP7.out.p hlt)
        have HCQ := hid (pc_cells HP8.out.p hlt)
        obtain ⟨b1, o1, rfl, p0, p1, p2, p3, p4⟩ := HCP.out
        obtain ⟨b2, o2, rfl, q0, q1, q2, q3, q4⟩ := HCQ.out
        generalize ps[k] = p at *
        obtain ⟨pf, pt, pp, pi, po⟩ := p
        dsimp only at p0 p1 p2 p3 p4 q0 q1 q2 q3 q4
        clear HCP HCQ
        go_wp2_with fail
        go_quiet (fail)
        go_wp2_with fail
        go_roundw
        case rel => exact ⟨k + 1, by omega, by go_num, n0 + nq, by simp [World.drewN, Nat.add_assoc]⟩
        case measure => simp [intOf]; omega
      · have d1 : decide ((k : Int) < (ps.length : Int)) = false := by simp; omega
        have d1n : decide (k < ps.length) = false := by simp; omega
        clear hlt hk
        have hll := HLEN.out.2.1
        go_wp2_with fail
        go_loopw [10] (fun i wr => ∃ k : Nat, k ≤ L.length ∧ i = .int .i64 k ∧ ∃ n, wr = w7.drewN n) (fun i _ => L.length - (intOf i).toNat)
        case atStart => exact ⟨0, Nat.zero_le _, rfl, n0, rfl⟩
        case round =>
          obtain ⟨j, hj, rfl, n, rfl⟩ := hrel
          by_cases hlt : j < L.length
          · have d2 : decide ((j : Int) < (L.length : Int)) = true := by simp; omega
            have d2n : decide (j < L.length) = true := by simp; omega
            obtain ⟨ws, hws, hwr, hwn⟩ := HQ7.out
            obtain ⟨vs, hvs, hvr⟩ := HP8.out.q
            have HCQ := hid (wb_cells hvs hvr hlt)
            have hjw : j < ws.length := by rw [← hws] at hlt; simpa [wbL] using hlt
            obtain ⟨b1, o1, ea, hc1⟩ := Rk.some_of hwr (by simp; omega)
            have c0 := hc1 j (by simpa using hjw) 0 (by simp [wbC])
            have c1 := hc1 j (by simpa using hjw) 1 (by simp [wbC])
            obtain ⟨g, hg1, hg2, hg3⟩ := hwn ws[j] (List.getElem_mem _)
            have hLj : L[j] = (ws[j].addr, ws[j].n) := by simp only [← hws, wbL, List.getElem_map]
            have hpn := HLEN.out.2.2 L[j] (List.getElem_mem _)
            rw [hLj] at hpn HCQ
            simp only [List.getElem_map, wbC, List.getElem_cons_zero, List.getElem_cons_succ] at c0 c1
            generalize ws[j] = x at *
            obtain ⟨xa, xp, xn, xc⟩ := x
            dsimp only at c0 c1 hg1 hg2 hg3 hpn HCQ
            subst hg1 hg2 ea
            obtain ⟨b2, o2, rfl, q1, q2, q3, q4⟩ := HCQ.out
            try dsimp only at q3 q4
            have HN0 := hid hg3
            clear HCQ hws hwr hwn hvs hvr hLj hc1 hg3
            rw [Nat.add_zero] at c0
            go_wp2_with fail
            go_quiet (fail)
            go_wp2_with fail
            go_loopw [11] (fun i wr => ∃ k : Nat, k ≤ xn ∧ i = .int .i64 k ∧ ∃ n, wr = w7.drewN n) (fun i _ => xn - (intOf i).toNat)
            case atStart => exact ⟨0, Nat.zero_le _, rfl, n + nq, by simp [World.drewN, Nat.add_assoc]⟩
            case round =>
              obtain ⟨m, hm, rfl, n3, rfl⟩ := hrel
              by_cases hlm : m < xn
              · have d3 : decide ((m : Int) < (xn : Int)) = true := by simp; omega
                have d3n : decide (m < xn) = true := by simp; omega
                have e0 := HN0.out.cell m (by unfold nought; rw [List.length_replicate]; exact hlm)
                have e1 : (nought xn)[m]'(by unfold nought; rw [List.length_replicate]; exact hlm) = .int .u8 0 := by unfold nought; rw [List.getElem_replicate]
                rw [e1] at e0
                clear e1
                go_wp2_with fail
                go_roundw
                case rel => exact ⟨m + 1, by omega, by go_num, n3, rfl⟩
                case measure => simp [intOf]; omega
              · have d3 : decide ((m : Int) < (xn : Int)) = false := by simp; omega
                have d3n : decide (m < xn) = false := by simp; omega
                clear hlm hm
                go_wp2_with fail
                go_roundw
                case rel => exact ⟨j + 1, by omega, by go_num, n3, rfl⟩
                case measure => simp [intOf]; omega
          · have d2 : decide ((j : Int) < (L.length : Int)) = false := by simp; omega
            have d2n : decide (j < L.length) = false := by simp; omega
            have HB7n := hid (bdN HB7.out n)
            go_wp2_with fail
            refine (HWK.out _).mono ?_
            rintro e' w9 ⟨rfl, hb⟩
            have HB10 := hid (HB7n.out.trans (hb.mono HB7n.out.size))
            clear hb
            go_wp2_with fail
            go_ret
            exact ⟨rfl, HB10.out⟩
  · clear HV1
    go_wp2_with fail
    refine (HWK.out _).mono ?_
    rintro e' w2 ⟨rfl, hb⟩
    have HB2 := hid (bthen (HB1.out _) hb)
    clear hb
    go_wp2_with fail
    go_ret
    exact ⟨rfl, HB2.out⟩
end Go.Proofs.Ytkpopdkkobelaaa
