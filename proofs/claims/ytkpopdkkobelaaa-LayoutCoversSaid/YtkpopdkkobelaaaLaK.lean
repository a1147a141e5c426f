
/- Stage 17: LayoutCovers' walk. -/
import Derived.Test.YtkpopdkkobelaaaLaR
import Derived.Deep.DeepCutAuto
namespace Go.Proofs.Ytkpopdkkobelaaa
open Go.RowKit Go.Sort Go.Shelf
attribute [local go_sem] Oper.semAt_some

set_option maxRecDepth 100000 in
set_option maxHeartbeats 8000000 in
theorem layoutCovers_walk (x : LO) (num byt : Int) (w : World) (hx : LOk w x) (hp0 : 0 ≤ byt) (hp1 : byt ≤ 18446744073709551615) :
    Calls Try.prog 7 #[loV x, .int .i64 num, .int .u64 byt] w fun e w' => e = .returned (.bool true) ∧ Below w.heap.size w w' := by
  have hlen := hx.segs.hlen
  have HX := hid hx
  have HWK := hid works17_any
  obtain ⟨W0, hW0⟩ : ∃ W0, W0 = w.alloc (.cells (loC x).toArray 33) := ⟨_, rfl⟩
  have HB0 := hid (show Below w.heap.size w W0 by rw [hW0]; exact bal _)
  have HR := hid (show Row W0 w.heap.size 33 (loC x) by rw [hW0]; exact Row.new w 33 (loC x))
  have HR2 := hid (Row.new W0 33 (loC x))
  have HV := hid (vast_any (some ⟨W0.heap.size, 0, none⟩) 1 [x] _ (LOs.one HR2.out ((HX.out.below' HB0.out).below' (bal _))) (by simp) (fun i hi => by
    obtain rfl : i = 0 := by simpa using hi
    exact hx.gn))
  have hz0 : W0.heap.size = w.heap.size + 1 := by rw [hW0]; simp
  rw [hz0] at HV
  clear hz0
  have HB1 := hid (fun o => bthen HB0.out (bal (w := W0) o))
  obtain ⟨ino, base, typ, entry, phoff, ga, gn, gc, sg, na, nn, nc, soname, run, sa, sn, sc, ra, rn, rc⟩ := x
  obtain rfl : sg.length = gn := hlen
  have hb0 := hx.b0
  have HOKS := hid hx.ok
  dsimp only at HOKS
  have hb1 := hx.b1
  dsimp only at hb0 hb1
  clear hx
  unfold loC at HR HR2 HV hW0
  dsimp only [List.length_cons, List.length_nil, Nat.zero_add] at HR HR2 HV hW0
  unfold loV
  dsimp only
  obtain ⟨⟨x0, x1, x2, x3, x4, x5⟩, x6, x7, x8, x9, x10⟩ := HR.out.eleven
  have hl1 := HR.out.lt
  go_enter Try.func7, Try.ntmps7
  go_wp2_with fail
  try rw [← hW0]
  clear hW0
  go_wp2_with fail
  refine (HV.out).mono ?_
  rintro e' w1 ⟨rfl, b, rfl, hv⟩
  have HV1 := hid hv
  clear hv
  cases b
  · have HGN := hid ((HV1.out rfl).2 0 (by simp))
    simp only [List.getElem_cons_zero] at HGN
    clear HV1
    have HR4 := hid (HR.out.alloc (.cells (loC ⟨ino, base, typ, entry, phoff, ga, sg.length, gc, sg, na, nn, nc, soname, run, sa, sn, sc, ra, rn, rc⟩).toArray 33))
    have HX4 := hid ((HX.out.below' HB0.out).below' (bal (w := W0) (.cells (loC ⟨ino, base, typ, entry, phoff, ga, sg.length, gc, sg, na, nn, nc, soname, run, sa, sn, sc, ra, rn, rc⟩).toArray 33)))
    have HB4 := hid (HB1.out (.cells (loC ⟨ino, base, typ, entry, phoff, ga, sg.length, gc, sg, na, nn, nc, soname, run, sa, sn, sc, ra, rn, rc⟩).toArray 33))
    obtain ⟨W4, hW4⟩ : ∃ W4, W4 = W0.alloc (.cells (loC ⟨ino, base, typ, entry, phoff, ga, sg.length, gc, sg, na, nn, nc, soname, run, sa, sn, sc, ra, rn, rc⟩).toArray 33) := ⟨_, rfl⟩
    rw [← hW4] at HR4 HX4 HB4
    unfold loC at hW4
    dsimp only at hW4
    have HTW := hid (fun (wr : World) (hs : Below W4.heap.size W4 wr) => twin_any ⟨ino, base, typ, entry, phoff, ga, sg.length, gc, sg, na, nn, nc, soname, run, sa, sn, sc, ra, rn, rc⟩ wr (HX4.out.below' hs) (by have := HGN.out; show sg.length ≤ 1000000000; omega))
    have HPI := hid (fun (wr : World) (bs : Int) (a : Option Addr) (c : Nat) (hk : LOk wr { LO.moved ⟨ino, base, typ, entry, phoff, ga, sg.length, gc, sg, na, nn, nc, soname, run, sa, sn, sc, ra, rn, rc⟩ a c with base := bs }) => pieces_any _ wr hk)
    unfold loV LO.moved at HTW
    unfold LO.moved loV at HPI
    dsimp only at HTW HPI
    clear x0 x1 x2 x3 x4 x5 x6 x7 x8 x9 x10 hl1 HV
    try rw [← hW4]
    clear hW4
    obtain ⟨⟨x0, x1, x2, x3, x4, x5⟩, x6, x7, x8, x9, x10⟩ := HR4.out.eleven
    have hl1 := HR4.out.lt
    go_wp2_with fail
    try rw [← hW4]
    refine (HTW.out _ (Below.refl _ _)).mono ?_
    rintro e' w5 ⟨a5, c5, rfl, hk5, hb5⟩
    have HK5 := hid (HPI.out w5 base a5 c5 hk5)
    have HB5 := hid (bthen HB4.out hb5)
    have HS5 := hid hb5
    have HR5 := hid (HR4.out.below hb5 HR4.out.lt)
    clear hk5 hb5 x0 x1 x2 x3 x4 x5 x6 x7 x8 x9 x10 hl1
    obtain ⟨⟨x0, x1, x2, x3, x4, x5⟩, x6, x7, x8, x9, x10⟩ := HR5.out.eleven
    have hl1 := HR5.out.lt
    go_wp2_with fail
    refine (HK5.out).mono ?_
    rintro e' w6 hpp
    by_cases hpb : pieB ino typ base sg = true
    · obtain ⟨vp, vw, rfl, hop, hwo, hb6⟩ := pie_yes hpp hpb
      obtain ⟨va, vc, qa, qc, rfl, rfl, hpc⟩ := pcs_of hop hwo
      dsimp only at hpc
      have HP6 := hid hpc
      have HPB := hid (pieB_of hpb)
      have HS6 := hid (bthen HS5.out hb6)
      have HB6 := hid (bthen HB5.out hb6)
      have HR6 := hid (HR5.out.below hb6 HR5.out.lt)
      have HLD := hid (lloads_any ⟨ino, base, typ, entry, phoff, ga, sg.length, gc, sg, na, nn, nc, soname, run, sa, sn, sc, ra, rn, rc⟩ w6 (HX4.out.below' HS6.out) (by have := HGN.out; show sg.length ≤ 1000000000; omega))
      have HNE := hid (rightB_of HPB.out.1).2.2.2.1
      have HLL := hid (rightB_loads HOKS.out HPB.out.1)
      have HLN := hid (show (lds sg).length ≤ 8 by have := lds_len sg; have := (rightB_of HPB.out.1).2.1; omega)
      unfold loV at HLD
      dsimp only at HLD ⊢
      clear hpp hop hwo hb6 hpc hpb x0 x1 x2 x3 x4 x5 x6 x7 x8 x9 x10 hl1
      obtain ⟨⟨x0, x1, x2, x3, x4, x5⟩, x6, x7, x8, x9, x10⟩ := HR6.out.eleven
      have hl1 := HR6.out.lt
      have HPL := hid (show (pcsL base ino (lds sg)).length ≤ 16 by have := pcsL_len base ino (lds sg); have := HLN.out; omega)
      have HWL := hid (show (wrsL base (lds sg)).length ≤ 8 by have := wrsL_len base (lds sg); have := HLN.out; omega)
      have HPOK := hid (pcsL_ok (ino := ino) HLL.out hb0 HPB.out.2.1 HPB.out.2.2)
      have HWOK := hid (wrsL_ok HLL.out hb0 HPB.out.2.2)
      go_wp2_with fail
      refine (HLD.out).mono ?_
      rintro e' w7 ⟨v7, rfl, ho7, hb7⟩
      obtain ⟨a7, c7, rfl, hs7, _⟩ := ownG_open ho7
      have HSG := hid hs7
      have HB7 := hid (bthen HB6.out hb7)
      have HP7 := hid (HP6.out.below' hb7)
      have HR7 := hid (HR6.out.below hb7 HR6.out.lt)
      clear ho7 hb7 hs7 x0 x1 x2 x3 x4 x5 x6 x7 x8 x9 x10 hl1 HPI HTW HX HX4 HR HR4 HR5 HR6 HR2 HK5 HP6 HLD
      have dne : (((lds sg).length : Int) == 0) = false := by
        rw [beq_eq_false_iff_ne]
        have := HNE.out
        intro h
        exact this (List.eq_nil_of_length_eq_zero (by omega))
      go_upto_region 9 with fail
      go_cut [57] from 50 to 56 (fun s57 wc => ∃ b : Bool, s57 = .bool b ∧ (b = false → 0 ≤ num ∧ num < ((lds sg).length : Int)) ∧ w7 = wc)
      case first =>
        by_cases n0 : num < 0
        · have dn0 : decide (num < 0) = true := decide_eq_true n0
          clear n0
          go_wp2_with fail
          go_meet
          exact ⟨true, rfl, (fun h => by cases h), rfl⟩
        · have dn0 : decide (num < 0) = false := decide_eq_false n0
          by_cases n1 : ((lds sg).length : Int) ≤ num
          · have dn1 : decide (((lds sg).length : Int) ≤ num) = true := decide_eq_true n1
            clear n0 n1
            go_wp2_with fail
            go_meet
            exact ⟨true, rfl, (fun h => by cases h), rfl⟩
          · have dn1 : decide (((lds sg).length : Int) ≤ num) = false := decide_eq_false n1
            have HNN := hid (show 0 ≤ num ∧ num < ((lds sg).length : Int) by omega)
            clear n0 n1
            go_wp2_with fail
            go_meet
            exact ⟨false, rfl, fun _ => HNN.out, rfl⟩
      case rest =>
        obtain ⟨b, rfl, hb57, rfl⟩ := hcut
        have HB57 := hid hb57
        clear hb57
        go_upto_if 57 with fail
        go_cut [1] (fun s1 wc => ∃ k : Nat, s1 = .int .i64 (k : Int) ∧ k < (lds sg).length ∧ w7 = wc)
        case first =>
          cases b
          · have h := HB57.out rfl
            obtain ⟨k, hk⟩ : ∃ k : Nat, num = (k : Int) := ⟨num.toNat, by omega⟩
            have HKL := hid (show k < (lds sg).length by omega)
            clear h
            subst hk
            go_wp2_with fail
            go_meet
            exact ⟨k, rfl, HKL.out, rfl⟩
          · have HKL := hid (show 0 < (lds sg).length from List.length_pos_iff.2 HNE.out)
            go_wp2_with fail
            go_meet
            exact ⟨0, rfl, HKL.out, rfl⟩
        case rest =>
          obtain ⟨k, rfl, hk, rfl⟩ := hcut
          obtain ⟨b1, o1, rfl, y0, y1, y2, y3, y4, y5⟩ := HSG.out.cells hk
          have hS1 := HLL.out.ok (lds sg)[k] (List.getElem_mem _)
          have hS2 := seg_at HLL.out (List.getElem_mem hk)
          have hS3 := of_decide_eq_true HPB.out.2.2
          have HFA := hid (fun (q : Int) (h0 : 0 ≤ q) (h1 : q < (lds sg)[k].msz) => found_at (ino := ino) HLL.out HPB.out.2.1 (rightB_of HPB.out.1).1 hk h0 h1)
          have HFP := hid (fun (q : Int) (h0 : 0 ≤ q) (h1 : q < (lds sg)[k].msz) => found_prot (ino := ino) HLL.out HPB.out.2.1 hk h0 h1)
          have HRI := hid (pcsL_rise (ino := ino) HPB.out.2.1 HLL.out)
          have hsO : (lds sg)[k].fsz ≤ (lds sg)[k].msz := hS1.2.2.2.1
          generalize (lds sg)[k] = s at *
          have t0 : 0 < s.msz := hS1.2.1
          have t1 : base + s.addr + s.msz ≤ 140737488355328 := by unfold upI dn at hS2; omega
          have t2 : 0 ≤ s.addr := hS1.2.2.2.2.2.2.2.1
          have t3 : 0 ≤ s.fsz := hS1.2.2.1
          have t4 : s.off ≤ 65536 := by omega
          have t5 : 0 ≤ s.off := by omega
          have t6 : s.fsz ≤ 65536 := by omega
          have dm0 : (s.msz == 0) = false := by rw [beq_eq_false_iff_ne]; omega
          clear hS1 hS2 hS3 hsO
          have q0 : 0 ≤ byt % s.msz := Int.emod_nonneg _ (by omega)
          have q1 : byt % s.msz < s.msz := Int.emod_lt_of_pos _ t0
          have HP8 := hid (fun o => HP7.out.below' (bal (w := w7) o))
          have HFD := hid (fun (o : Obj) (a : Int) (h0 : 0 ≤ a) (h1 : a ≤ 140737488355328) => found_any va vc qa qc _ _ a (w7.alloc o) (HP8.out o) HPL.out HWL.out HPOK.out HWOK.out h0 h1)
          generalize pcsL base ino (lds sg) = ps at *
          generalize wrsL base (lds sg) = L at *
          obtain ⟨⟨x0, x1, x2, x3, x4, x5⟩, x6, x7, x8, x9, x10⟩ := HR7.out.eleven
          have hl1 := HR7.out.lt
          have HB8 := hid (fun o => bthen HB7.out (bal (w := w7) o))
          have HSB := hid (Row.new w7 58 (sgC s))
          go_wp2_with fail
          refine (HFD.out _ (base + s.addr + byt % s.msz) (by omega) (by omega)).mono ?_
          rintro e' w8 ⟨rfl, n8, rfl⟩
          obtain ⟨hf1, hf2⟩ := HFA.out (byt % s.msz) q0 q1
          rw [hf1, hf2]
          have HFP2 := hid (HFP.out (byt % s.msz) q0 q1)
          clear HFA HFP hf1 hf2 HFD
          have HP9 := hid (HP8.out (.cells (sgC s).toArray 58))
          have HB9 := hid (HB8.out (.cells (sgC s).toArray 58))
          have hz8 : w7.heap.size < (w7.alloc (.cells (sgC s).toArray 58)).heap.size := by simp
          have hs9 : (w7.alloc (.cells (sgC s).toArray 58)) = (w7.alloc (.cells #[.int .u32 s.kind, .int .u8 s.flags, .int .u64 s.off, .int .u64 s.addr, .int .u64 s.fsz, .int .u64 s.msz] 58)) := rfl
          rw [← hs9]
          obtain ⟨W9, hW9⟩ : ∃ W9, W9 = w7.alloc (.cells (sgC s).toArray 58) := ⟨_, rfl⟩
          rw [← hW9] at HP9 HB9 hz8 HSB ⊢
          clear hW9 hs9 HP8 HB8 x0 x1 x2 x3 x4 x5 x6 x7 x8 x9 x10 hl1 y0 y1 y2 y3 y4 y5
          obtain ⟨y0, y1, y2, y3, y4, y5⟩ := (show Row W9 w7.heap.size 58 [_, _, _, _, _, _] from HSB.out).six
          obtain ⟨kk, hkk⟩ : ∃ kk, kk = byt % s.msz := ⟨_, rfl⟩
          rw [← hkk] at q0 q1 HFP2 ⊢
          clear hkk
          obtain ⟨AT, hAT⟩ : ∃ AT, AT = (if kk < s.fsz then s.off + kk else -1) := ⟨_, rfl⟩
          rw [← hAT]
          have HAT := hid hAT
          clear hAT
          have u1 : 0 ≤ base + s.addr + kk := by omega
          have u2 : base + s.addr + kk ≤ 140737488355328 := by omega
          obtain ⟨a, ha⟩ : ∃ a, a = base + s.addr + kk := ⟨_, rfl⟩
          rw [← ha] at u1 u2 HFP2 ⊢
          clear ha
          have hpl := HPL.out
          go_wp2_with fail
          go_loopw [16] (fun i wr => ∃ j : Nat, j ≤ ps.length ∧ i = .int .i64 j ∧ ∃ n, wr = W9.drewN n) (fun i _ => ps.length - (intOf i).toNat)
          case atStart => exact ⟨0, Nat.zero_le _, rfl, n8, rfl⟩
          case round =>
            obtain ⟨j, hj, rfl, n, rfl⟩ := hrel
            by_cases hlt : j < ps.length
            · have d1 : decide ((j : Int) < (ps.length : Int)) = true := by simp; omega
              have d1n : decide (j < ps.length) = true := by simp; omega
              have HCP := hid (pc_cells HP9.out.p hlt)
              obtain ⟨b2, o2, rfl, p0, p1, p2, p3, p4⟩ := HCP.out
              have hpk := HPOK.out ps[j] (List.getElem_mem _)
              have HIN := hid (HFP2.out ps[j] (List.getElem_mem _))
              have HPR := hid (fun (i : Nat) (hi : i + 1 = j) => show (ps[i]'(by omega)).to ≤ ps[j].fr from List.pairwise_iff_getElem.1 HRI.out i j (by omega) hlt (by omega))
              have HCQ := hid (fun (i : Nat) (hi : i + 1 = j) => pc_cells HP9.out.p (k := i) (by omega))
              generalize ps[j] = p at *
              have g0 := hpk.f0
              have g1 := hpk.f1
              have g2 := hpk.t1
              have g3 : p.fr % 4096 = 0 := hpk.fp
              have g4 : p.to % 4096 = 0 := hpk.tp
              have g5 : decide (p.to ≤ p.fr) = false := decide_eq_false (by omega)
              clear HCP hpk
              go_upto_region 22 with fail
              go_cut [137] from 91 to 136 (fun s137 wc => s137 = .bool false ∧ ∃ n, wc = W9.drewN n)
              case first =>
                rename_i J K' hJ hK'
                have g7 : p.fr.tmod 4096 = 0 := by rw [Int.tmod_eq_emod_of_nonneg g0]; exact g3
                have g8 : p.to.tmod 4096 = 0 := by rw [Int.tmod_eq_emod_of_nonneg (by omega)]; exact g4
                by_cases hpos : j = 0
                · have dj : decide ((0 : Int) < (j : Int)) = false := decide_eq_false (by omega)
                  have djn : decide (0 < j) = false := decide_eq_false (by omega)
                  clear hpos
                  go_quiet (fail)
                  first | refine hJ _ _ ?_ | (refine Met.intro ?_; refine hJ _ _ ?_) | (refine Met.intro ?_; go_step; refine hJ _ _ ?_) | (go_step; refine hJ _ _ ?_)
                  repeat apply Exists.intro
                  refine ⟨?_, rfl⟩
                  exact ⟨rfl, n + nq, by simp [World.drewN, Nat.add_assoc]⟩
                · have dj : decide ((0 : Int) < (j : Int)) = true := decide_eq_true (by omega)
                  have djn : decide (0 < j) = true := decide_eq_true (by omega)
                  obtain ⟨i, hij⟩ : ∃ i, i + 1 = j := ⟨j - 1, by omega⟩
                  have h1 := HPR.out i hij
                  have hlt2 : i < ps.length := by omega
                  obtain ⟨b3, o3, e3, r0, r1, r2, r3, r4⟩ := HCQ.out i hij
                  cases e3
                  generalize ps[i]'(by omega) = pp at *
                  have g6 : decide (p.fr < pp.to) = false := decide_eq_false (by omega)
                  have g9 : IntKind.i64.wrap ((j : Int) - 1) = (i : Int) := by rw [show ((j : Int) - 1) = (i : Int) by omega]; exact IntWalk.i64_in _ (by omega)
                  clear hij h1 hpos
                  go_quiet (fail)
                  first | refine hJ _ _ ?_ | (refine Met.intro ?_; refine hJ _ _ ?_) | (refine Met.intro ?_; go_step; refine hJ _ _ ?_) | (go_step; refine hJ _ _ ?_)
                  repeat apply Exists.intro
                  refine ⟨?_, rfl⟩
                  exact ⟨rfl, n + nq, by simp [World.drewN, Nat.add_assoc]⟩
              case rest =>
                obtain ⟨rfl, n1, rfl⟩ := hcut
                clear HCQ HPR
                cases c1 : decide (p.fr ≤ a)
                · clear HIN
                  go_wp2_with fail
                  go_quiet (fail)
                  go_wp2_with fail
                  go_roundw
                  case rel => exact ⟨j + 1, by omega, by go_num, n1 + nq, by simp [World.drewN, Nat.add_assoc]⟩
                  case measure => simp [intOf]; omega
                · cases c2 : decide (a < p.to)
                  · clear HIN
                    go_wp2_with fail
                    go_quiet (fail)
                    go_wp2_with fail
                    go_roundw
                    case rel => exact ⟨j + 1, by omega, by go_num, n1 + nq, by simp [World.drewN, Nat.add_assoc]⟩
                    case measure => simp [intOf]; omega
                  · have e9 : p.prot = s.flags := HIN.out (by unfold inP; rw [c1, c2]; rfl)
                    rw [e9] at p2
                    clear HIN e9
                    go_wp2_with fail
                    go_quiet (fail)
                    go_wp2_with fail
                    go_roundw
                    case rel => exact ⟨j + 1, by omega, by go_num, n1 + nq, by simp [World.drewN, Nat.add_assoc]⟩
                    case measure => simp [intOf]; omega
            · have d1 : decide ((j : Int) < (ps.length : Int)) = false := by simp; omega
              have d1n : decide (j < ps.length) = false := by simp; omega
              have HB9n := hid (bdN HB9.out n)
              cases ck : decide (kk < s.fsz)
              · have e9 : AT = -1 := by rw [HAT.out, if_neg (of_decide_eq_false ck)]
                subst e9
                clear hlt HAT
                go_wp2_with fail
                refine (HWK.out _).mono ?_
                rintro e' wv ⟨rfl, hb⟩
                have HBV := hid (HB9n.out.trans (hb.mono HB9n.out.size))
                clear hb
                go_wp2_with fail
                go_ret
                exact ⟨rfl, HBV.out⟩
              · have e9 : AT = s.off + kk := by rw [HAT.out, if_pos (of_decide_eq_true ck)]
                subst e9
                have e8 := of_decide_eq_true ck
                clear hlt HAT
                go_wp2_with fail
                refine (HWK.out _).mono ?_
                rintro e' wv ⟨rfl, hb⟩
                have HBV := hid (HB9n.out.trans (hb.mono HB9n.out.size))
                clear hb
                go_wp2_with fail
                go_ret
                exact ⟨rfl, HBV.out⟩
    · have hpb' : pieB ino typ base sg = false := by simpa using hpb
      obtain ⟨rfl, hb6⟩ := pie_not hpp hpb'
      have HB6 := hid (bthen HB5.out hb6)
      clear hpp hb6 hpb
      go_wp2_with fail
      refine (HWK.out _).mono ?_
      rintro e' w9 ⟨rfl, hb⟩
      have HB10 := hid (bthen HB6.out hb)
      clear hb
      go_wp2_with fail
      go_ret
      exact ⟨rfl, HB10.out⟩
  · clear HV1
    go_wp2_with fail
    refine (HWK.out _).mono ?_
    rintro e' w2 ⟨rfl, hb⟩
    have HB2 := hid (bthen (HB1.out _) hb)
    clear hb
    go_wp2_with fail
    go_ret
    exact ⟨rfl, HB2.out⟩
end Go.Proofs.Ytkpopdkkobelaaa
