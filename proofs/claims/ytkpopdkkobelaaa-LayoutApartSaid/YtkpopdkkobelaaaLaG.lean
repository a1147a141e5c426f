
/- Stage 17: LayoutMoved's walk. -/
import Derived.Test.YtkpopdkkobelaaaLaE
import Derived.Test.YtkpopdkkobelaaaLaP
namespace Go.Proofs.Ytkpopdkkobelaaa
open Go.RowKit Go.Sort Go.Shelf
attribute [local go_sem] Oper.semAt_some

theorem LOs.one {w : World} {g : Nat} {x : LO} (h : Row w g 33 (loC x)) (hx : LOk w x) : LOs w (some ⟨g, 0, none⟩) 1 [x] :=
  ⟨row_rk h rfl, fun z hz => by rw [List.mem_singleton.1 hz]; exact hx⟩
/-- Pieces of a moved object, by the answer. -/
theorem pie_yes {w w' : World} {x : LO} {e : Ending} (h : PiePost w x e w') (hp : pieB x.ino x.typ x.base x.sg = true) : ∃ vp vw, e = .returned (.tuple #[vp, vw, .int .i64 0]) ∧ OwnP w' w.heap.size vp (pcsL x.base x.ino (lds x.sg)) ∧ WrOwn w' w.heap.size vw (wrsL x.base (lds x.sg)) ∧ Below w.heap.size w w' := by
  obtain ⟨hb, h⟩ := h
  rw [if_pos hp] at h
  obtain ⟨vp, vw, h1, h2, h3⟩ := h
  exact ⟨vp, vw, h1, h2, h3, hb⟩
theorem pie_not {w w' : World} {x : LO} {e : Ending} (h : PiePost w x e w') (hp : pieB x.ino x.typ x.base x.sg = false) : e = .returned (.tuple #[.slice none 0 0, .slice none 0 0, .int .i64 1]) ∧ Below w.heap.size w w' := by
  obtain ⟨hb, h⟩ := h
  rw [hp] at h
  exact ⟨h, hb⟩
/-- Pieces in memory, and writes. -/
structure Pcs (w : World) (va : Option Addr) (vc : Nat) (qa : Option Addr) (qc : Nat) (ps : List PC) (L : List (Int × Nat)) : Prop where
  p : Rk w 5 va ps.length (ps.map pcC)
  q : ∃ ws, wbL ws = L ∧ Rk w 2 qa L.length (ws.map wbC)
theorem Pcs.below' {w w' : World} {va qa : Option Addr} {vc qc : Nat} {ps : List PC} {L : List (Int × Nat)} (h : Pcs w va vc qa qc ps L) (hb : Below w.heap.size w w') : Pcs w' va vc qa qc ps L := by
  obtain ⟨ws, h1, h2⟩ := h.q
  exact ⟨h.p.below' hb, ws, h1, h2.below' hb⟩
theorem pcs_of {w : World} {B : Nat} {vp vw : Value} {ps : List PC} {L : List (Int × Nat)} (h : OwnP w B vp ps) (k : WrOwn w B vw L) : ∃ va vc qa qc, vp = .slice va ps.length vc ∧ vw = .slice qa L.length qc ∧ Pcs w va vc qa qc ps L := by
  obtain ⟨ws, k1, k2, k3⟩ := k
  obtain ⟨va, vc, hv, hr, _⟩ := own_rk h (pcC_len _) (by decide)
  obtain ⟨qa, qc, hq, hqr, _⟩ := own_rk k2 (wbC_len _) (by decide)
  rw [List.length_map] at hv hr hq hqr
  have e : ws.length = L.length := by rw [← k1]; simp [wbL]
  rw [e] at hq hqr
  exact ⟨va, vc, qa, qc, hv, hq, hr, ws, k1, hqr⟩
theorem pc_cells {w : World} {a : Option Addr} {n : Nat} {l : List PC} (h : Rk w 5 a n (l.map pcC)) {k : Nat} (hk : k < l.length) : ∃ b off, a = some ⟨b, off, none⟩ ∧
    w.cell? ⟨b, off + k * 5, none⟩ = some (.int .u64 l[k].fr) ∧ w.cell? ⟨b, off + k * 5 + 1, none⟩ = some (.int .u64 l[k].to) ∧ w.cell? ⟨b, off + k * 5 + 2, none⟩ = some (.int .u8 l[k].prot) ∧ w.cell? ⟨b, off + k * 5 + 3, none⟩ = some (.int .i64 l[k].ino) ∧ w.cell? ⟨b, off + k * 5 + 4, none⟩ = some (.int .u64 l[k].off) := by
  obtain ⟨b, off, rfl, hc⟩ := Rk.some_of h (by simp; omega)
  have hk' : k < (l.map pcC).length := by simpa using hk
  have e : (l.map pcC)[k] = pcC l[k] := by simp
  have g := fun j hj => hc k hk' j hj
  rw [e] at g
  exact ⟨b, off, rfl, g 0 (by simp [pcC]), g 1 (by simp [pcC]), g 2 (by simp [pcC]), g 3 (by simp [pcC]), g 4 (by simp [pcC])⟩
theorem wb_cells {w : World} {a : Option Addr} {n : Nat} {ws : List WB} {L : List (Int × Nat)} (hL : wbL ws = L) (h : Rk w 2 a n (ws.map wbC)) {k : Nat} (hk : k < L.length) : ∃ b off, a = some ⟨b, off, none⟩ ∧ ∃ ya yc,
    w.cell? ⟨b, off + k * 2, none⟩ = some (.int .u64 L[k].1) ∧ w.cell? ⟨b, off + k * 2 + 1, none⟩ = some (.slice ya L[k].2 yc) := by
  obtain rfl := hL
  have hk2 : k < ws.length := by simpa [wbL] using hk
  obtain ⟨b, off, rfl, hc⟩ := Rk.some_of h (by simp; omega)
  have hk' : k < (ws.map wbC).length := by simpa using hk2
  have e : (ws.map wbC)[k] = wbC ws[k] := by simp
  have e2 : (wbL ws)[k] = (ws[k].addr, ws[k].n) := by simp [wbL]
  have g := fun j hj => hc k hk' j hj
  rw [e] at g
  rw [e2]
  exact ⟨b, off, rfl, ws[k].a, ws[k].c, g 0 (by simp [wbC]), g 1 (by simp [wbC])⟩

set_option maxRecDepth 100000 in
set_option maxHeartbeats 8000000 in
theorem layoutMoved_walk (x : LO) (pg : Int) (w : World) (hx : LOk w x) (hp0 : 0 ≤ pg) (hp1 : pg ≤ 65535) :
    Calls Try.prog 8 #[loV x, .int .u16 pg] w fun e w' => e = .returned (.bool true) ∧ Below w.heap.size w w' := by
  have hlen := hx.segs.hlen
  have HX := hid hx
  have HWK := hid works17_any
  obtain ⟨W0, hW0⟩ : ∃ W0, W0 = w.alloc (.cells (loC x).toArray 33) := ⟨_, rfl⟩
  have HB0 := hid (show Below w.heap.size w W0 by rw [hW0]; exact bal _)
  have HR := hid (show Row W0 w.heap.size 33 (loC x) by rw [hW0]; exact Row.new w 33 (loC x))
  have HR2 := hid (Row.new W0 33 (loC x))
  have HV := hid (vast_any (some ⟨W0.heap.size, 0, none⟩) 1 [x] _ (LOs.one HR2.out ((HX.out.below' HB0.out).below' (bal _))) (by simp) (fun i hi => by
    obtain rfl : i = 0 := by simpa using hi
    exact hx.gn))
  have hz0 : W0.heap.size = w.heap.size + 1 := by rw [hW0]; simp
  rw [hz0] at HV
  clear hz0
  have HB1 := hid (fun o => bthen HB0.out (bal (w := W0) o))
  obtain ⟨ino, base, typ, entry, phoff, ga, gn, gc, sg, na, nn, nc, soname, run, sa, sn, sc, ra, rn, rc⟩ := x
  obtain rfl : sg.length = gn := hlen
  have hb0 := hx.b0
  have HOKS := hid hx.ok
  dsimp only at HOKS
  have hb1 := hx.b1
  dsimp only at hb0 hb1
  clear hx
  unfold loC at HR HR2 HV hW0
  dsimp only [List.length_cons, List.length_nil, Nat.zero_add] at HR HR2 HV hW0
  unfold loV
  dsimp only
  obtain ⟨⟨x0, x1, x2, x3, x4, x5⟩, x6, x7, x8, x9, x10⟩ := HR.out.eleven
  have hl1 := HR.out.lt
  go_enter Try.func8, Try.ntmps8
  go_wp2_with fail
  try rw [← hW0]
  clear hW0
  go_wp2_with fail
  refine (HV.out).mono ?_
  rintro e' w1 ⟨rfl, b, rfl, hv⟩
  have HV1 := hid hv
  clear hv
  cases b
  · have HGN := hid ((HV1.out rfl).2 0 (by simp))
    simp only [List.getElem_cons_zero] at HGN
    clear HV1
    have HR4 := hid (HR.out.alloc (.cells (loC ⟨ino, base, typ, entry, phoff, ga, sg.length, gc, sg, na, nn, nc, soname, run, sa, sn, sc, ra, rn, rc⟩).toArray 33))
    have HX4 := hid ((HX.out.below' HB0.out).below' (bal (w := W0) (.cells (loC ⟨ino, base, typ, entry, phoff, ga, sg.length, gc, sg, na, nn, nc, soname, run, sa, sn, sc, ra, rn, rc⟩).toArray 33)))
    have HB4 := hid (HB1.out (.cells (loC ⟨ino, base, typ, entry, phoff, ga, sg.length, gc, sg, na, nn, nc, soname, run, sa, sn, sc, ra, rn, rc⟩).toArray 33))
    obtain ⟨W4, hW4⟩ : ∃ W4, W4 = W0.alloc (.cells (loC ⟨ino, base, typ, entry, phoff, ga, sg.length, gc, sg, na, nn, nc, soname, run, sa, sn, sc, ra, rn, rc⟩).toArray 33) := ⟨_, rfl⟩
    rw [← hW4] at HR4 HX4 HB4
    unfold loC at hW4
    dsimp only at hW4
    have HTW := hid (fun (wr : World) (hs : Below W4.heap.size W4 wr) => twin_any ⟨ino, base, typ, entry, phoff, ga, sg.length, gc, sg, na, nn, nc, soname, run, sa, sn, sc, ra, rn, rc⟩ wr (HX4.out.below' hs) (by have := HGN.out; show sg.length ≤ 1000000000; omega))
    have HPI := hid (fun (wr : World) (bs : Int) (a : Option Addr) (c : Nat) (hk : LOk wr { LO.moved ⟨ino, base, typ, entry, phoff, ga, sg.length, gc, sg, na, nn, nc, soname, run, sa, sn, sc, ra, rn, rc⟩ a c with base := bs }) => pieces_any _ wr hk)
    unfold loV LO.moved at HTW
    unfold LO.moved loV at HPI
    dsimp only at HTW HPI
    clear x0 x1 x2 x3 x4 x5 x6 x7 x8 x9 x10 hl1 HV
    try rw [← hW4]
    clear hW4
    obtain ⟨⟨x0, x1, x2, x3, x4, x5⟩, x6, x7, x8, x9, x10⟩ := HR4.out.eleven
    have hl1 := HR4.out.lt
    go_wp2_with fail
    try rw [← hW4]
    refine (HTW.out _ (Below.refl _ _)).mono ?_
    rintro e' w5 ⟨a5, c5, rfl, hk5, hb5⟩
    have HK5 := hid (HPI.out w5 base a5 c5 hk5)
    have HB5 := hid (bthen HB4.out hb5)
    have HS5 := hid hb5
    have HR5 := hid (HR4.out.below hb5 HR4.out.lt)
    clear hk5 hb5 x0 x1 x2 x3 x4 x5 x6 x7 x8 x9 x10 hl1
    obtain ⟨⟨x0, x1, x2, x3, x4, x5⟩, x6, x7, x8, x9, x10⟩ := HR5.out.eleven
    have hl1 := HR5.out.lt
    go_wp2_with fail
    refine (HK5.out).mono ?_
    rintro e' w6 hpp
    by_cases hpb : pieB ino typ base sg = true
    · obtain ⟨vp, vw, rfl, hop, hwo, hb6⟩ := pie_yes hpp hpb
      obtain ⟨va, vc, qa, qc, rfl, rfl, hpc⟩ := pcs_of hop hwo
      have HP6 := hid hpc
      have HPB := hid hpb
      have HS6 := hid (bthen HS5.out hb6)
      have HB6 := hid (bthen HB5.out hb6)
      have HR6 := hid (HR5.out.below hb6 HR5.out.lt)
      clear hpp hop hwo hb6 hpc hpb x0 x1 x2 x3 x4 x5 x6 x7 x8 x9 x10 hl1
      obtain ⟨⟨x0, x1, x2, x3, x4, x5⟩, x6, x7, x8, x9, x10⟩ := HR6.out.eleven
      have hl1 := HR6.out.lt
      go_wp2_with fail
      refine (HTW.out _ HS6.out).mono ?_
      rintro e' w7 ⟨a7, c7, rfl, hk7, hb7⟩
      have HK7 := hid hk7
      have HB7 := hid (bthen HB6.out hb7)
      have HS7 := hid (bthen HS6.out hb7)
      have HP7 := hid (HP6.out.below' hb7)
      have HR7 := hid (HR6.out.below hb7 HR6.out.lt)
      clear hk7 hb7 x0 x1 x2 x3 x4 x5 x6 x7 x8 x9 x10 hl1
      obtain ⟨⟨x0, x1, x2, x3, x4, x5⟩, x6, x7, x8, x9, x10⟩ := HR7.out.eleven
      have hl1 := HR7.out.lt
      by_cases hlt : IntKind.u64.wrap (base + pg * 4096) < pg * 4096
      · have dlt : decide (IntKind.u64.wrap (base + pg * 4096) < pg * 4096) = true := decide_eq_true hlt
        clear hlt
        go_wp2_with fail
        refine (HWK.out _).mono ?_
        rintro e' w8 ⟨rfl, hb⟩
        have HB8 := hid (HB7.out.trans ((bal (w := w7) _).mono HB7.out.size) |>.trans (hb.mono (bthen HB7.out (bal _)).size))
        clear hb
        go_wp2_with fail
        go_ret
        exact ⟨rfl, HB8.out⟩
      have dlt : decide (IntKind.u64.wrap (base + pg * 4096) < pg * 4096) = false := decide_eq_false hlt
      have HNB := hid (show IntKind.u64.wrap (base + pg * 4096) = base + pg * 4096 by have := w64_def (base + pg * 4096); unfold w64 at this; omega)
      have HP8 := hid (fun o => HPI.out (w7.alloc o) (IntKind.u64.wrap (base + pg * 4096)) a7 c7 ⟨(HK7.out.below' (bal o)).segs, HK7.out.ok, HK7.out.gn, HK7.out.nil, (show (0 : Int) ≤ IntKind.u64.wrap (base + pg * 4096) by rw [HNB.out]; omega), (show IntKind.u64.wrap (base + pg * 4096) ≤ 18446744073709551615 by have := w64_u (base + pg * 4096); unfold w64 at this; exact this.2)⟩)
      have HB8 := hid (fun o => bthen HB7.out (bal (w := w7) o))
      have HP8p := hid (fun o => HP7.out.below' (bal (w := w7) o))
      clear hlt
      go_wp2_with fail
      refine (HP8.out _).mono ?_
      rintro e' w8 hpp
      simp only [HNB.out] at hpp
      clear HPI HTW HX HX4 HR HR4 HR5 HR6 HR7 HR2 HK5 HK7 HP8 HNB dlt x0 x1 x2 x3 x4 x5 x6 x7 x8 x9 x10 hl1
      cases hpq : pieB ino typ (base + pg * 4096) sg
      · obtain ⟨rfl, hb⟩ := pie_not hpp hpq
        have HB9 := hid (bthen (HB8.out _) hb)
        clear hpp hb hpq
        go_wp2_with fail
        refine (HWK.out _).mono ?_
        rintro e' w9 ⟨rfl, hb⟩
        have HB10 := hid (bthen HB9.out hb)
        clear hb
        go_wp2_with fail
        go_ret
        exact ⟨rfl, HB10.out⟩
      · obtain ⟨vp, vw, rfl, hop, hwo, hb⟩ := pie_yes hpp hpq
        obtain ⟨ya, yc, za, zc, rfl, rfl, hpc⟩ := pcs_of hop hwo
        have HB9 := hid (bthen (HB8.out _) hb)
        have HPP := hid ((HP8p.out _).below' hb)
        have HPQ := hid hpc
        have HD := hid (show (pg * 4096) % 4096 = 0 by omega)
        have HPM := hid (pcsL_move HD.out base ino (lds sg))
        have HWM := hid (wrsL_move HD.out base (lds sg))
        dsimp only at HPQ
        have HPOK := hid (pcsL_ok (ino := ino) (rightB_loads HOKS.out (pieB_of HPB.out).1) hb0 (pieB_of HPB.out).2.1 (pieB_of HPB.out).2.2)
        have HWOK := hid (wrsL_ok (rightB_loads HOKS.out (pieB_of HPB.out).1) hb0 (pieB_of HPB.out).2.2)
        have HPL := hid (show (pcsL base ino (lds sg)).length ≤ 16 by have := pcsL_len base ino (lds sg); have := lds_len sg; have := (rightB_of (pieB_of HPB.out).1).2.1; omega)
        have HWL := hid (show (wrsL base (lds sg)).length ≤ 8 by have := wrsL_len base (lds sg); have := lds_len sg; have := (rightB_of (pieB_of HPB.out).1).2.1; omega)
        clear hpp hop hwo hb hpq hpc HP8p HB8 HP7 HP6
        dsimp only
        rw [HPM.out, HWM.out] at HPQ ⊢
        clear HPM HWM
        generalize pcsL base ino (lds sg) = ps at *
        generalize wrsL base (lds sg) = L at *
        obtain ⟨Q, hQ⟩ : ∃ Q, Q = ps.map (mvP (pg * 4096)) := ⟨_, rfl⟩
        obtain ⟨R, hR⟩ : ∃ R, R = L.map (mvW (pg * 4096)) := ⟨_, rfl⟩
        rw [← hQ, ← hR] at HPQ ⊢
        have HQL := hid (show Q.length = ps.length by rw [hQ, List.length_map])
        have HRL := hid (show R.length = L.length by rw [hR, List.length_map])
        have HQK := hid (fun (k : Nat) (h : k < ps.length) => show Q[k]'(by rw [HQL.out]; exact h) = mvP (pg * 4096) ps[k] by simp only [hQ, List.getElem_map])
        have HRK := hid (fun (k : Nat) (h : k < L.length) => show R[k]'(by rw [HRL.out]; exact h) = mvW (pg * 4096) L[k] by simp only [hR, List.getElem_map])
        clear hQ hR
        rw [HQL.out, HRL.out]
        go_wp2_with fail
        go_loopw [13] (fun i wr => ∃ k : Nat, k ≤ ps.length ∧ i = .int .i64 k ∧ ∃ n, wr = w8.drewN n) (fun i _ => ps.length - (intOf i).toNat)
        case atStart => exact ⟨0, Nat.zero_le _, rfl, 0, rfl⟩
        case round =>
          obtain ⟨k, hk, rfl, n0, rfl⟩ := hrel
          by_cases hlt : k < ps.length
          · have d1 : decide ((k : Int) < (ps.length : Int)) = true := by simp; omega
            have d1n : decide (k < ps.length) = true := by simp; omega
            have HCP := hid (pc_cells HPP.out.p hlt)
            have HCQ := hid (pc_cells HPQ.out.p (k := k) (by rw [HQL.out]; exact hlt))
            rw [HQK.out k hlt] at HCQ
            obtain ⟨b1, o1, rfl, p0, p1, p2, p3, p4⟩ := HCP.out
            obtain ⟨b2, o2, rfl, q0, q1, q2, q3, q4⟩ := HCQ.out
            have hpk := HPOK.out ps[k] (List.getElem_mem _)
            generalize ps[k] = p at *
            dsimp only [mvP] at q0 q1 q2 q3 q4
            have g0 := hpk.f0
            have g1 := hpk.f1
            have g2 := hpk.t1
            have hl2 := HQL.out
            have hl3 := HPL.out
            clear HCP HCQ hpk
            have gw1 : IntKind.u64.wrap (p.fr + pg * 4096) = p.fr + pg * 4096 := w64_in (by omega) (by omega)
            have gw2 : IntKind.u64.wrap (p.to + pg * 4096) = p.to + pg * 4096 := w64_in (by omega) (by omega)
            go_wp2_with fail
            go_quiet (fail)
            clear gw1 gw2
            go_wp2_with fail
            go_roundw
            case rel => exact ⟨k + 1, by omega, by go_num, n0 + nq, by simp [World.drewN, Nat.add_assoc]⟩
            case measure => simp [intOf]; omega
          · have d1 : decide ((k : Int) < (ps.length : Int)) = false := by simp; omega
            have d1n : decide (k < ps.length) = false := by simp; omega
            clear hlt hk
            go_wp2_with fail
            go_loopw [14] (fun i wr => ∃ k : Nat, k ≤ L.length ∧ i = .int .i64 k ∧ ∃ n, wr = w8.drewN n) (fun i _ => L.length - (intOf i).toNat)
            case atStart => exact ⟨0, Nat.zero_le _, rfl, n0, rfl⟩
            case round =>
              obtain ⟨j, hj, rfl, n, rfl⟩ := hrel
              by_cases hlt : j < L.length
              · have d2 : decide ((j : Int) < (L.length : Int)) = true := by simp; omega
                have d2n : decide (j < L.length) = true := by simp; omega
                obtain ⟨ws, hws, hwr⟩ := HPP.out.q
                obtain ⟨vs, hvs, hvr⟩ := HPQ.out.q
                have HCP := hid (wb_cells hws hwr hlt)
                have HCQ := hid (wb_cells hvs hvr (k := j) (by rw [HRL.out]; exact hlt))
                rw [HRK.out j hlt] at HCQ
                obtain ⟨b1, o1, rfl, p1, p2, p3, p4⟩ := HCP.out
                obtain ⟨b2, o2, rfl, q1, q2, q3, q4⟩ := HCQ.out
                have hpk := HWOK.out L[j] (List.getElem_mem _)
                generalize L[j] = p at *
                obtain ⟨pa, pn⟩ := p
                dsimp only [mvW] at q3 q4 p3 p4 hpk
                have g0 := hpk.1
                have g1 := hpk.2.1
                have hl2 := HRL.out
                have hl3 := HWL.out
                clear HCP HCQ hpk hws hwr hvs hvr
                have gw : IntKind.u64.wrap (pa + pg * 4096) = pa + pg * 4096 := w64_in (by omega) (by omega)
                go_wp2_with fail
                go_quiet (fail)
                clear gw
                go_wp2_with fail
                go_roundw
                case rel => exact ⟨j + 1, by omega, by go_num, n + nq, by simp [World.drewN, Nat.add_assoc]⟩
                case measure => simp [intOf]; omega
              · have d2 : decide ((j : Int) < (L.length : Int)) = false := by simp; omega
                have d2n : decide (j < L.length) = false := by simp; omega
                have HB9n := hid (bdN HB9.out n)
                go_wp2_with fail
                refine (HWK.out _).mono ?_
                rintro e' w9 ⟨rfl, hb⟩
                have HB10 := hid (HB9n.out.trans (hb.mono HB9n.out.size))
                clear hb
                go_wp2_with fail
                go_ret
                exact ⟨rfl, HB10.out⟩
    · have hpb' : pieB ino typ base sg = false := by simpa using hpb
      obtain ⟨rfl, hb6⟩ := pie_not hpp hpb'
      have HPB := hid hpb'
      have HS6 := hid (bthen HS5.out hb6)
      have HB6 := hid (bthen HB5.out hb6)
      have HR6 := hid (HR5.out.below hb6 HR5.out.lt)
      clear hpp hb6 hpb hpb' x0 x1 x2 x3 x4 x5 x6 x7 x8 x9 x10 hl1
      obtain ⟨⟨x0, x1, x2, x3, x4, x5⟩, x6, x7, x8, x9, x10⟩ := HR6.out.eleven
      have hl1 := HR6.out.lt
      go_wp2_with fail
      refine (HTW.out _ HS6.out).mono ?_
      rintro e' w7 ⟨a7, c7, rfl, hk7, hb7⟩
      have HK7 := hid hk7
      have HB7 := hid (bthen HB6.out hb7)
      have HS7 := hid (bthen HS6.out hb7)
      have HR7 := hid (HR6.out.below hb7 HR6.out.lt)
      clear hk7 hb7 x0 x1 x2 x3 x4 x5 x6 x7 x8 x9 x10 hl1
      obtain ⟨⟨x0, x1, x2, x3, x4, x5⟩, x6, x7, x8, x9, x10⟩ := HR7.out.eleven
      have hl1 := HR7.out.lt
      by_cases hlt : IntKind.u64.wrap (base + pg * 4096) < pg * 4096
      · have dlt : decide (IntKind.u64.wrap (base + pg * 4096) < pg * 4096) = true := decide_eq_true hlt
        clear hlt
        go_wp2_with fail
        refine (HWK.out _).mono ?_
        rintro e' w8 ⟨rfl, hb⟩
        have HB8 := hid (HB7.out.trans ((bal (w := w7) _).mono HB7.out.size) |>.trans (hb.mono (bthen HB7.out (bal _)).size))
        clear hb
        go_wp2_with fail
        go_ret
        exact ⟨rfl, HB8.out⟩
      have dlt : decide (IntKind.u64.wrap (base + pg * 4096) < pg * 4096) = false := decide_eq_false hlt
      have HNB := hid (show IntKind.u64.wrap (base + pg * 4096) = base + pg * 4096 by have := w64_def (base + pg * 4096); unfold w64 at this; omega)
      have HP8 := hid (fun o => HPI.out (w7.alloc o) (IntKind.u64.wrap (base + pg * 4096)) a7 c7 ⟨(HK7.out.below' (bal o)).segs, HK7.out.ok, HK7.out.gn, HK7.out.nil, (show (0 : Int) ≤ IntKind.u64.wrap (base + pg * 4096) by rw [HNB.out]; omega), (show IntKind.u64.wrap (base + pg * 4096) ≤ 18446744073709551615 by have := w64_u (base + pg * 4096); unfold w64 at this; exact this.2)⟩)
      have HB8 := hid (fun o => bthen HB7.out (bal (w := w7) o))
      clear hlt
      go_wp2_with fail
      refine (HP8.out _).mono ?_
      rintro e' w8 hpp
      simp only [HNB.out] at hpp
      clear HPI HTW HX HX4 HR HR4 HR5 HR6 HR7 HR2 HK5 HK7 HP8 HNB dlt x0 x1 x2 x3 x4 x5 x6 x7 x8 x9 x10 hl1
      have hpq : pieB ino typ (base + pg * 4096) sg = false := by
        cases h : pieB ino typ (base + pg * 4096) sg
        · rfl
        · have := pieB_back (show 0 ≤ pg * 4096 by omega) (show (pg * 4096) % 4096 = 0 by omega) h
          rw [HPB.out] at this
          cases this
      obtain ⟨rfl, hb⟩ := pie_not hpp hpq
      have HB9 := hid (bthen (HB8.out _) hb)
      clear hpp hb hpq
      go_wp2_with fail
      refine (HWK.out _).mono ?_
      rintro e' w9 ⟨rfl, hb⟩
      have HB10 := hid (bthen HB9.out hb)
      clear hb
      go_wp2_with fail
      go_ret
      exact ⟨rfl, HB10.out⟩
  · clear HV1
    go_wp2_with fail
    refine (HWK.out _).mono ?_
    rintro e' w2 ⟨rfl, hb⟩
    have HB2 := hid (bthen (HB1.out _) hb)
    clear hb
    go_wp2_with fail
    go_ret
    exact ⟨rfl, HB2.out⟩
end Go.Proofs.Ytkpopdkkobelaaa
