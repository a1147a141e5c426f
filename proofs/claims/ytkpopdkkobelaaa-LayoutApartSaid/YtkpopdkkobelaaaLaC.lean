
/- Stage 17's reference: Right. -/
import Derived.Test.YtkpopdkkobelaaaLaB
import Derived.Test.YtkpopdkkobelaaaLaA
namespace Go.Proofs.Ytkpopdkkobelaaa
open Go.RowKit Go.Sort Go.Shelf
attribute [local go_sem] Oper.semAt_some

/-- From where on the load at i may lie. -/
def fAt (l : List SG) (i : Nat) : Int := if i = 0 then 0 else frU (l.getD (i - 1) default)
def OkTo (fin : Int) (l : List SG) (k : Nat) : Prop := ∀ i, i < k → okS (l.getD i default) (fAt l i) fin = true
theorem sg_getD {l : List SG} {k : Nat} (h : k < l.length) : l.getD k default = l[k] := by rw [List.getD_eq_getElem?_getD, List.getElem?_eq_getElem h]; rfl
theorem prs_at : ∀ (l : List SG) (f : Int) (i : Nat) (h : i < l.length), (prs f l)[i]'(by rw [prs_len]; exact h) = (if i = 0 then f else frU (l.getD (i - 1) default), l[i])
  | s :: r, f, 0, h => rfl
  | s :: r, f, i + 1, h => by
    have := prs_at r (frU s) i (by simpa using h)
    simp only [prs, List.getElem_cons_succ]
    rw [this]
    cases i with
    | zero => rfl
    | succ i => simp
theorem okTo_all {fin : Int} {l : List SG} (h : OkTo fin l l.length) : goR fin (prs 0 l) = true := by
  unfold goR
  rw [List.all_eq_true]
  intro p hp
  obtain ⟨i, hi, rfl⟩ := List.mem_iff_getElem.1 hp
  rw [prs_len] at hi
  rw [prs_at l 0 i hi]
  have := h i hi
  rw [sg_getD hi] at this
  exact this
theorem okTo_no {fin : Int} {l : List SG} {k : Nat} (hk : k < l.length) (h : okS l[k] (fAt l k) fin = false) : goR fin (prs 0 l) = false := by
  unfold goR
  rw [List.all_eq_false]
  refine ⟨(prs 0 l)[k]'(by rw [prs_len]; exact hk), List.getElem_mem _, ?_⟩
  rw [prs_at l 0 k hk]
  show ¬ okS l[k] (fAt l k) fin = true
  rw [h]
  simp
theorem right_eq {ino typ : Int} {sg : List SG} {fin : Int} (hf : finOf typ = fin ∧ (typ = 2 ∨ typ = 3)) (hi : 0 ≤ ino) (hl : sg.length ≤ 8) : rightB ino typ sg = (decide (0 < (lds sg).length) && goR fin (prs 0 (lds sg))) := by
  unfold rightB
  rw [hf.1]
  congr 1
  have := hf.2
  rw [decide_eq_decide]
  constructor
  · intro h; exact List.length_pos_iff.2 h.2.2.2
  · intro h; exact ⟨hi, hl, this, List.length_pos_iff.1 h⟩

set_option maxRecDepth 100000 in
set_option maxHeartbeats 16000000 in
theorem rright_any (x : LO) (w : World) (hx : LOk w x) :
    Calls Try.prog 13 #[loV x] w fun e w' => e = .returned (.bool (rightB x.ino x.typ x.sg)) ∧ Below w.heap.size w w' := by
  have HLD0 := hid (fun (wx : World) (hb : Below w.heap.size w wx) (hn : x.sg.length ≤ 1000000000) => rloads_any x wx (hx.below' hb) hn)
  have HOK := hid hx.ok
  obtain ⟨ino, base, typ, entry, phoff, ga, gn, gc, sg, na, nn, nc, soname, run, sa, sn, sc, ra, rn, rc⟩ := x
  obtain rfl : sg.length = gn := hx.segs.hlen
  clear hx
  dsimp only at HLD0 HOK ⊢
  unfold loV at HLD0 ⊢
  dsimp only at HLD0 ⊢
  obtain ⟨W0, hW0⟩ : ∃ W0, W0 = w.alloc (.cells #[.int .i64 ino, .int .u64 base, .int .u16 typ, .int .u64 entry, .int .u64 phoff, Value.slice ga sg.length gc, .slice na nn nc, .string (ba soname), .string (ba run), .slice sa sn sc, .slice ra rn rc] 33) := ⟨_, rfl⟩
  have HB0 := hid (show Below w.heap.size w W0 by rw [hW0]; exact bal _)
  have HX := hid (show Row W0 w.heap.size 33 [_, _, _, _, _, _, _, _, _, _, _] by rw [hW0]; exact Row.new w 33 [.int .i64 ino, .int .u64 base, .int .u16 typ, .int .u64 entry, .int .u64 phoff, Value.slice ga sg.length gc, .slice na nn nc, .string (ba soname), .string (ba run), .slice sa sn sc, .slice ra rn rc])
  obtain ⟨⟨x0, x1, x2, x3, x4, x5⟩, x6, x7, x8, x9, x10⟩ := HX.out.eleven
  have hl1 := HX.out.lt
  go_enter Try.func13, Try.ntmps13
  by_cases hi : ino < 0
  · have d1 : decide (ino < 0) = true := decide_eq_true hi
    have HF := hid (show rightB ino typ sg = false by unfold rightB; rw [decide_eq_false (by omega)]; rfl)
    go_wp2_with fail
    go_ret
    exact ⟨ret_bool HF.out.symm, by first | exact HB0.out | exact bal _⟩
  have d1 : decide (ino < 0) = false := decide_eq_false hi
  by_cases h8 : 8 < sg.length
  · have d2 : decide ((8 : Int) < (sg.length : Int)) = true := by simp; omega
    have d2n : decide (8 < sg.length) = true := decide_eq_true h8
    have HF := hid (show rightB ino typ sg = false by unfold rightB; rw [decide_eq_false (by omega)]; rfl)
    by_cases h2 : typ = 2
    · have t2 : (typ != 2) = false := by simp [h2]
      clear h2
      go_wp2_with fail
      go_ret
      exact ⟨ret_bool HF.out.symm, by first | exact HB0.out | exact bal _⟩
    · have t2 : (typ != 2) = true := by simpa using h2
      by_cases h3 : typ = 3
      · have t3 : (typ != 3) = false := by simp [h3]
        clear h2 h3
        go_wp2_with fail
        go_ret
        exact ⟨ret_bool HF.out.symm, by first | exact HB0.out | exact bal _⟩
      · have t3 : (typ != 3) = true := by simpa using h3
        clear h2 h3
        go_wp2_with fail
        go_ret
        exact ⟨ret_bool HF.out.symm, by first | exact HB0.out | exact bal _⟩
  have d2 : decide ((8 : Int) < (sg.length : Int)) = false := by simp; omega
  have d2n : decide (8 < sg.length) = false := by simp; omega
  have HLD := hid (fun wx hb => HLD0.out wx hb (by omega))
  clear HLD0
  by_cases h2 : typ = 2
  · subst h2
    have t2 : ((2 : Int) != 2) = false := by decide
    go_wp2_with fail
    try rw [← hW0]
    clear hW0
    go_wp2_with fail
    refine (HLD.out W0 HB0.out).mono ?_
    rintro e' w1 ⟨v, rfl, ho, hb⟩
    obtain ⟨a1, c1, rfl, hs1, _⟩ := ownG_open ho
    have HS1 := hid hs1
    have HB1 := hid (bthen HB0.out hb)
    clear ho hb hs1 HLD x0 x1 x2 x3 x4 x5 x6 x7 x8 x9 x10 hl1
    have HEQ := hid (show rightB ino 2 sg = (decide (0 < (lds sg).length) && goR 140737488355328 (prs 0 (lds sg))) from right_eq (by decide) (by omega) (by omega))
    have HLK := hid (lds_ok HOK.out)
    have hll : (lds sg).length ≤ 8 := by have := lds_len sg; omega
    generalize lds sg = l at *
    go_wp2_with fail
    go_loopw [5] (fun i wr => ∃ k : Nat, k ≤ l.length ∧ i = .int .i64 k ∧ OkTo 140737488355328 l k ∧ Below w1.heap.size w1 wr) (fun i _ => l.length - (intOf i).toNat)
    case atStart => exact ⟨0, Nat.zero_le _, rfl, fun i h => by omega, Below.refl _ _⟩
    case round =>
      obtain ⟨k, hk, rfl, hto, hb⟩ := hrel
      have HTO := hid hto
      have HB := hid hb
      clear hto hb
      by_cases hlt : k < l.length
      · have e1 : decide ((k : Int) < (l.length : Int)) = true := by simp; omega
        have e1n : decide (k < l.length) = true := by simp; omega
        have hsk := HLK.out _ (List.getElem_mem hlt)
        have HNO := hid (fun (h : okS l[k] (fAt l k) 140737488355328 = false) => show rightB ino 2 sg = false by rw [HEQ.out, okTo_no hlt h, Bool.and_false])
        have HOKS := hid (fun (h : okS l[k] (fAt l k) 140737488355328 = true) => show OkTo 140737488355328 l (k + 1) from fun i hi => by
          by_cases e : i = k
          · subst e; rw [sg_getD hlt]; exact h
          · exact HTO.out i (by omega))
        have HK : Hid (∀ j, k = j + 1 → ∃ hj : j < l.length, fAt l k = frU l[j]) := hid (fun j hj => ⟨by omega, by
          unfold fAt
          rw [if_neg (by omega), show k - 1 = j by omega, sg_getD (by omega)]⟩)
        have HF0 := hid (show k = 0 → fAt l k = 0 from fun h => by unfold fAt; rw [if_pos h])
        obtain ⟨b, off, hab, z0, z1, z2, z3, z4, z5⟩ := (HS1.out.below' HB.out).cells hlt
        have HSB := hid (HS1.out.below' HB.out)
        have hbl := World.block_lt_of_cell? wr _ z0
        subst hab
        generalize fAt l k = f at *
        generalize l[k] = s at *
        have o0 := hsk.o0; have o1 := hsk.o1; have q0 := hsk.a0; have q1 := hsk.a1; have q2 := hsk.z0; have q3 := hsk.z1; have q4 := hsk.m0; have q5 := hsk.m1; have q6 := hsk.f0
        have HBE := hid (fun o => HB1.out.trans ((HB.out.alloc HB.out.size o).mono HB1.out.size))
        have HRN := hid (Row.new wr 58 (sgC s))
        have HSK := hid hsk
        clear hsk
        by_cases h0 : 7 < s.flags
        · have d0 : decide (7 < s.flags) = true := decide_eq_true h0
          have HF := hid (HNO.out (by unfold okS; exact decide_eq_false (by omega)))
          clear HK HOKS
          go_wp2_with fail
          go_ret
          exact ⟨ret_bool HF.out.symm, HBE.out _⟩
        have d0 : decide (7 < s.flags) = false := decide_eq_false h0
        by_cases h1 : s.msz = 0
        · have d1 : (s.msz == 0) = true := by simpa using h1
          have HF := hid (HNO.out (by unfold okS; exact decide_eq_false (by omega)))
          clear HK HOKS
          go_wp2_with fail
          go_ret
          exact ⟨ret_bool HF.out.symm, HBE.out _⟩
        have d1 : (s.msz == 0) = false := by simpa using h1
        by_cases h2 : s.msz < s.fsz
        · have d2 : decide (s.msz < s.fsz) = true := decide_eq_true h2
          have HF := hid (HNO.out (by unfold okS; exact decide_eq_false (by omega)))
          clear HK HOKS
          go_wp2_with fail
          go_ret
          exact ⟨ret_bool HF.out.symm, HBE.out _⟩
        have d2 : decide (s.msz < s.fsz) = false := decide_eq_false h2
        by_cases h3 : 65536 < s.off
        · have d3 : decide (65536 < s.off) = true := decide_eq_true h3
          have HF := hid (HNO.out (by unfold okS; exact decide_eq_false (by omega)))
          clear HK HOKS
          go_wp2_with fail
          go_ret
          exact ⟨ret_bool HF.out.symm, HBE.out _⟩
        have d3 : decide (65536 < s.off) = false := decide_eq_false h3
        by_cases h4 : 65536 < s.fsz
        · have d4 : decide (65536 < s.fsz) = true := decide_eq_true h4
          have HF := hid (HNO.out (by unfold okS; exact decide_eq_false (by omega)))
          clear HK HOKS
          go_wp2_with fail
          go_ret
          exact ⟨ret_bool HF.out.symm, HBE.out _⟩
        have d4 : decide (65536 < s.fsz) = false := decide_eq_false h4
        have w5 : IntKind.u64.wrap (s.off + s.fsz) = s.off + s.fsz := by rw [IntKind.wrap_u64]; omega
        by_cases h5 : 65536 < s.off + s.fsz
        · have d5 : decide (65536 < s.off + s.fsz) = true := decide_eq_true h5
          have HF := hid (HNO.out (by unfold okS; exact decide_eq_false (by omega)))
          clear HK HOKS
          go_wp2_with fail
          go_ret
          exact ⟨ret_bool HF.out.symm, HBE.out _⟩
        have d5 : decide (65536 < s.off + s.fsz) = false := decide_eq_false h5
        by_cases h6 : ¬ s.off % 4096 = s.addr % 4096
        · have d6 : (s.off % 4096 != s.addr % 4096) = true := by simpa using h6
          have HF := hid (HNO.out (by unfold okS; exact decide_eq_false (by omega)))
          clear HK HOKS
          go_wp2_with fail
          go_ret
          exact ⟨ret_bool HF.out.symm, HBE.out _⟩
        have d6 : (s.off % 4096 != s.addr % 4096) = false := by simpa using h6
        by_cases h7 : 140737488355328 < s.addr
        · have d7 : decide (140737488355328 < s.addr) = true := decide_eq_true h7
          have HF := hid (HNO.out (by unfold okS; exact decide_eq_false (by omega)))
          clear HK HOKS
          go_wp2_with fail
          go_ret
          exact ⟨ret_bool HF.out.symm, HBE.out _⟩
        have d7 : decide (140737488355328 < s.addr) = false := decide_eq_false h7
        by_cases h8 : 140737488355328 < s.msz
        · have d8 : decide (140737488355328 < s.msz) = true := decide_eq_true h8
          have HF := hid (HNO.out (by unfold okS; exact decide_eq_false (by omega)))
          clear HK HOKS
          go_wp2_with fail
          go_ret
          exact ⟨ret_bool HF.out.symm, HBE.out _⟩
        have d8 : decide (140737488355328 < s.msz) = false := decide_eq_false h8
        have w9 : IntKind.u64.wrap (s.addr + s.msz) = s.addr + s.msz := by rw [IntKind.wrap_u64]; omega
        by_cases h9 : 140737488355328 < s.addr + s.msz
        · have d9 : decide (140737488355328 < s.addr + s.msz) = true := decide_eq_true h9
          have HF := hid (HNO.out (by unfold okS; exact decide_eq_false (by omega)))
          clear HK HOKS
          go_wp2_with fail
          go_ret
          exact ⟨ret_bool HF.out.symm, HBE.out _⟩
        have d9 : decide (140737488355328 < s.addr + s.msz) = false := decide_eq_false h9
        have HALL := hid (show okS s f 140737488355328 = decide (f ≤ dn s.addr) by
          unfold okS
          rw [decide_eq_decide]
          exact ⟨fun h => h.2.2.2.2.2.2.2.2, fun h => ⟨by omega, by omega, by omega, by omega, by omega, by omega, by omega, by omega, h⟩⟩)
        have hdn : 0 ≤ dn s.addr := by unfold dn; omega
        have HDN := hid hdn
        have HQ := hid (show 0 ≤ s.addr ∧ s.addr ≤ 18446744073709551615 from ⟨q0, q1⟩)
        clear h0 h1 h2 h3 h4 h5 h6 h7 h8 h9 hdn q2 q3 q4 q5 q6
        have HBS := hid (fun dq osq => show Below w1.heap.size w1 (rg (wr.alloc (.cells #[.int .u32 s.kind, .int .u8 s.flags, .int .u64 s.off, .int .u64 s.addr, .int .u64 s.fsz, .int .u64 s.msz] 58)) dq osq) from (HB.out.alloc HB.out.size _).trans ((rg_below _ _ _).mono (HB.out.alloc HB.out.size _).size))
        by_cases hk0 : k = 0
        · have g0 : decide ((0 : Int) < (k : Int)) = false := decide_eq_false (by omega)
          have g0n : decide (0 < k) = false := decide_eq_false (by omega)
          have HS2 := hid (HOKS.out (by rw [HALL.out, HF0.out hk0]; exact decide_eq_true HDN.out))
          clear hk0
          go_wp2_with fail
          refine region_rg (by kernel_rfl) (by kernel_rfl) ?_
          repeat (first | go_big_quiet_skip | quiet_step (fail))
          refine wpQuiet_nil ?_
          intro _ hw'
          obtain ⟨⟨dq, osq⟩, hw''⟩ := hw'
          subst hw''
          go_wp2_with fail
          go_roundw
          case rel => exact ⟨k + 1, by omega, by go_num, HS2.out, HBS.out dq osq⟩
          case measure => simp [intOf]; omega
        · have g0 : decide ((0 : Int) < (k : Int)) = true := decide_eq_true (by omega)
          have g0n : decide (0 < k) = true := decide_eq_true (by omega)
          obtain ⟨j, hj⟩ : ∃ j, k = j + 1 := ⟨k - 1, by omega⟩
          obtain ⟨hjl, hfj⟩ := HK.out j hj
          have hpk := HTO.out j (by omega)
          rw [sg_getD hjl] at hpk
          have hpo := HLK.out _ (List.getElem_mem hjl)
          have hfr := frU_ok hpo hpk (by decide)
          have hpb := okS_of hpk
          obtain ⟨b', off', hab', z0', z1', z2', z3', z4', z5'⟩ := HSB.out.cells hjl
          cases hab'
          have hp1 := hpo.a0; have hp2 := hpo.m0
          have HPB := hid (show 0 ≤ l[j].addr + l[j].msz ∧ l[j].addr + l[j].msz ≤ 140737488355328 by omega)
          have wp : IntKind.u64.wrap (l[j].addr + l[j].msz) = l[j].addr + l[j].msz := by rw [IntKind.wrap_u64]; omega
          rw [hfr] at hfj
          have hkj : (k : Int) - 1 = (j : Int) := by omega
          have ez : (0 : Int) ≤ (j : Int) := by omega
          have eb : (j : Int) < (l.length : Int) := by omega
          have HJ := hid hj
          rw [hfj] at HALL HNO HOKS
          clear hj hpk hpo hfr hpb hp1 hp2 hk0 hfj
          generalize l[j] = p at *
          obtain ⟨W2, hW2⟩ : ∃ W2, W2 = wr.alloc (.cells #[.int .u32 s.kind, .int .u8 s.flags, .int .u64 s.off, .int .u64 s.addr, .int .u64 s.fsz, .int .u64 s.msz] 58) := ⟨_, rfl⟩
          have y3 : W2.cell? ⟨wr.heap.size, 3, none⟩ = some (.int .u64 s.addr) := by
            rw [hW2]
            have := HRN.out.cell 3 (by simp [sgC])
            exact this
          have hbw : Below wr.heap.size wr W2 := by rw [hW2]; exact bal _
          have p3 : W2.cell? ⟨b, off + j * 6 + 3, none⟩ = some (.int .u64 p.addr) := keepC hbw z3'
          have p5 : W2.cell? ⟨b, off + j * 6 + 5, none⟩ = some (.int .u64 p.msz) := keepC hbw z5'
          have Y3 := rg_cell y3
          have P3 := rg_cell p3
          have P5 := rg_cell p5
          have cg0 := hid (fun (d : Nat) (os : Array Obj) => rg_same (rdown_any s.addr (rg W2 d os) HQ.out.1 HQ.out.2))
          have cg1 := hid (fun (d : Nat) (os : Array Obj) => rg_same (rup_any (p.addr + p.msz) (rg W2 d os) HPB.out.1 (by have := HPB.out.2; omega)))
          rw [← hW2] at HBS
          have HBEW := hid (fun dq osq => HB1.out.trans ((HBS.out dq osq).mono HB1.out.size))
          clear y3 p3 p5 z0' z1' z2' z3' z4' z5' hbw
          by_cases hlow : dn s.addr < upI (p.addr + p.msz)
          · have d10 : decide (dn s.addr < upI (p.addr + p.msz)) = true := decide_eq_true hlow
            have HF := hid (HNO.out (by rw [HALL.out]; exact decide_eq_false (by omega)))
            clear hlow
            generalize dn s.addr = D1 at *
            generalize upI (p.addr + p.msz) = U1 at *
            go_wp2_with fail
            rw [← hW2]
            clear hW2
            refine region_rg (by kernel_rfl) (by kernel_rfl) ?_
            repeat (go_big_quiet_step (first | with_reducible exact cg0.out _ _ | with_reducible exact cg1.out _ _))
            refine wpQuiet_nil ?_
            intro _ hw'
            obtain ⟨⟨dq, osq⟩, hw''⟩ := hw'
            subst hw''
            go_wp2_with fail
            go_ret
            exact ⟨ret_bool HF.out.symm, HBEW.out _ _⟩
          · have d10 : decide (dn s.addr < upI (p.addr + p.msz)) = false := decide_eq_false hlow
            have HS2 := hid (HOKS.out (by rw [HALL.out]; exact decide_eq_true (by omega)))
            clear hlow
            generalize dn s.addr = D1 at *
            generalize upI (p.addr + p.msz) = U1 at *
            go_wp2_with fail
            rw [← hW2]
            clear hW2
            refine region_rg (by kernel_rfl) (by kernel_rfl) ?_
            repeat (go_big_quiet_step (first | with_reducible exact cg0.out _ _ | with_reducible exact cg1.out _ _))
            refine wpQuiet_nil ?_
            intro _ hw'
            obtain ⟨⟨dq, osq⟩, hw''⟩ := hw'
            subst hw''
            go_wp2_with fail
            go_roundw
            case rel => exact ⟨k + 1, by omega, by go_num, HS2.out, HBS.out dq osq⟩
            case measure => simp [intOf]; omega

      · have e1 : decide ((k : Int) < (l.length : Int)) = false := by simp; omega
        have e1n : decide (k < l.length) = false := by simp; omega
        obtain rfl : k = l.length := by omega
        have HG := hid (show rightB ino 2 sg = decide (0 < l.length) by rw [HEQ.out, okTo_all HTO.out, Bool.and_true])
        have HBF := hid (HB1.out.trans (HB.out.mono HB1.out.size))
        by_cases hp : 0 < l.length
        · have e2 : decide ((0 : Int) < (l.length : Int)) = true := by simp; omega
          have e2n : decide (0 < l.length) = true := by simp; omega
          rw [e2n] at HG
          clear hp
          go_wp2_with fail
          go_ret
          exact ⟨ret_bool HG.out.symm, HBF.out⟩
        · have e2 : decide ((0 : Int) < (l.length : Int)) = false := decide_eq_false (by omega)
          have e2n : decide (0 < l.length) = false := decide_eq_false hp
          rw [e2n] at HG
          clear hp
          go_wp2_with fail
          go_ret
          exact ⟨ret_bool HG.out.symm, HBF.out⟩
  by_cases h3 : typ = 3
  · subst h3
    have t2 : ((3 : Int) != 2) = true := by decide
    have t3 : ((3 : Int) != 3) = false := by decide
    go_wp2_with fail
    try rw [← hW0]
    clear hW0
    go_wp2_with fail
    refine (HLD.out W0 HB0.out).mono ?_
    rintro e' w1 ⟨v, rfl, ho, hb⟩
    obtain ⟨a1, c1, rfl, hs1, _⟩ := ownG_open ho
    have HS1 := hid hs1
    have HB1 := hid (bthen HB0.out hb)
    clear ho hb hs1 HLD x0 x1 x2 x3 x4 x5 x6 x7 x8 x9 x10 hl1
    have HEQ := hid (show rightB ino 3 sg = (decide (0 < (lds sg).length) && goR 4294967296 (prs 0 (lds sg))) from right_eq (by decide) (by omega) (by omega))
    have HLK := hid (lds_ok HOK.out)
    have hll : (lds sg).length ≤ 8 := by have := lds_len sg; omega
    generalize lds sg = l at *
    go_wp2_with fail
    go_loopw [5] (fun i wr => ∃ k : Nat, k ≤ l.length ∧ i = .int .i64 k ∧ OkTo 4294967296 l k ∧ Below w1.heap.size w1 wr) (fun i _ => l.length - (intOf i).toNat)
    case atStart => exact ⟨0, Nat.zero_le _, rfl, fun i h => by omega, Below.refl _ _⟩
    case round =>
      obtain ⟨k, hk, rfl, hto, hb⟩ := hrel
      have HTO := hid hto
      have HB := hid hb
      clear hto hb
      by_cases hlt : k < l.length
      · have e1 : decide ((k : Int) < (l.length : Int)) = true := by simp; omega
        have e1n : decide (k < l.length) = true := by simp; omega
        have hsk := HLK.out _ (List.getElem_mem hlt)
        have HNO := hid (fun (h : okS l[k] (fAt l k) 4294967296 = false) => show rightB ino 3 sg = false by rw [HEQ.out, okTo_no hlt h, Bool.and_false])
        have HOKS := hid (fun (h : okS l[k] (fAt l k) 4294967296 = true) => show OkTo 4294967296 l (k + 1) from fun i hi => by
          by_cases e : i = k
          · subst e; rw [sg_getD hlt]; exact h
          · exact HTO.out i (by omega))
        have HK : Hid (∀ j, k = j + 1 → ∃ hj : j < l.length, fAt l k = frU l[j]) := hid (fun j hj => ⟨by omega, by
          unfold fAt
          rw [if_neg (by omega), show k - 1 = j by omega, sg_getD (by omega)]⟩)
        have HF0 := hid (show k = 0 → fAt l k = 0 from fun h => by unfold fAt; rw [if_pos h])
        obtain ⟨b, off, hab, z0, z1, z2, z3, z4, z5⟩ := (HS1.out.below' HB.out).cells hlt
        have HSB := hid (HS1.out.below' HB.out)
        have hbl := World.block_lt_of_cell? wr _ z0
        subst hab
        generalize fAt l k = f at *
        generalize l[k] = s at *
        have o0 := hsk.o0; have o1 := hsk.o1; have q0 := hsk.a0; have q1 := hsk.a1; have q2 := hsk.z0; have q3 := hsk.z1; have q4 := hsk.m0; have q5 := hsk.m1; have q6 := hsk.f0
        have HBE := hid (fun o => HB1.out.trans ((HB.out.alloc HB.out.size o).mono HB1.out.size))
        have HRN := hid (Row.new wr 58 (sgC s))
        have HSK := hid hsk
        clear hsk
        by_cases h0 : 7 < s.flags
        · have d0 : decide (7 < s.flags) = true := decide_eq_true h0
          have HF := hid (HNO.out (by unfold okS; exact decide_eq_false (by omega)))
          clear HK HOKS
          go_wp2_with fail
          go_ret
          exact ⟨ret_bool HF.out.symm, HBE.out _⟩
        have d0 : decide (7 < s.flags) = false := decide_eq_false h0
        by_cases h1 : s.msz = 0
        · have d1 : (s.msz == 0) = true := by simpa using h1
          have HF := hid (HNO.out (by unfold okS; exact decide_eq_false (by omega)))
          clear HK HOKS
          go_wp2_with fail
          go_ret
          exact ⟨ret_bool HF.out.symm, HBE.out _⟩
        have d1 : (s.msz == 0) = false := by simpa using h1
        by_cases h2 : s.msz < s.fsz
        · have d2 : decide (s.msz < s.fsz) = true := decide_eq_true h2
          have HF := hid (HNO.out (by unfold okS; exact decide_eq_false (by omega)))
          clear HK HOKS
          go_wp2_with fail
          go_ret
          exact ⟨ret_bool HF.out.symm, HBE.out _⟩
        have d2 : decide (s.msz < s.fsz) = false := decide_eq_false h2
        by_cases h3 : 65536 < s.off
        · have d3 : decide (65536 < s.off) = true := decide_eq_true h3
          have HF := hid (HNO.out (by unfold okS; exact decide_eq_false (by omega)))
          clear HK HOKS
          go_wp2_with fail
          go_ret
          exact ⟨ret_bool HF.out.symm, HBE.out _⟩
        have d3 : decide (65536 < s.off) = false := decide_eq_false h3
        by_cases h4 : 65536 < s.fsz
        · have d4 : decide (65536 < s.fsz) = true := decide_eq_true h4
          have HF := hid (HNO.out (by unfold okS; exact decide_eq_false (by omega)))
          clear HK HOKS
          go_wp2_with fail
          go_ret
          exact ⟨ret_bool HF.out.symm, HBE.out _⟩
        have d4 : decide (65536 < s.fsz) = false := decide_eq_false h4
        have w5 : IntKind.u64.wrap (s.off + s.fsz) = s.off + s.fsz := by rw [IntKind.wrap_u64]; omega
        by_cases h5 : 65536 < s.off + s.fsz
        · have d5 : decide (65536 < s.off + s.fsz) = true := decide_eq_true h5
          have HF := hid (HNO.out (by unfold okS; exact decide_eq_false (by omega)))
          clear HK HOKS
          go_wp2_with fail
          go_ret
          exact ⟨ret_bool HF.out.symm, HBE.out _⟩
        have d5 : decide (65536 < s.off + s.fsz) = false := decide_eq_false h5
        by_cases h6 : ¬ s.off % 4096 = s.addr % 4096
        · have d6 : (s.off % 4096 != s.addr % 4096) = true := by simpa using h6
          have HF := hid (HNO.out (by unfold okS; exact decide_eq_false (by omega)))
          clear HK HOKS
          go_wp2_with fail
          go_ret
          exact ⟨ret_bool HF.out.symm, HBE.out _⟩
        have d6 : (s.off % 4096 != s.addr % 4096) = false := by simpa using h6
        by_cases h7 : 4294967296 < s.addr
        · have d7 : decide (4294967296 < s.addr) = true := decide_eq_true h7
          have HF := hid (HNO.out (by unfold okS; exact decide_eq_false (by omega)))
          clear HK HOKS
          go_wp2_with fail
          go_ret
          exact ⟨ret_bool HF.out.symm, HBE.out _⟩
        have d7 : decide (4294967296 < s.addr) = false := decide_eq_false h7
        by_cases h8 : 4294967296 < s.msz
        · have d8 : decide (4294967296 < s.msz) = true := decide_eq_true h8
          have HF := hid (HNO.out (by unfold okS; exact decide_eq_false (by omega)))
          clear HK HOKS
          go_wp2_with fail
          go_ret
          exact ⟨ret_bool HF.out.symm, HBE.out _⟩
        have d8 : decide (4294967296 < s.msz) = false := decide_eq_false h8
        have w9 : IntKind.u64.wrap (s.addr + s.msz) = s.addr + s.msz := by rw [IntKind.wrap_u64]; omega
        by_cases h9 : 4294967296 < s.addr + s.msz
        · have d9 : decide (4294967296 < s.addr + s.msz) = true := decide_eq_true h9
          have HF := hid (HNO.out (by unfold okS; exact decide_eq_false (by omega)))
          clear HK HOKS
          go_wp2_with fail
          go_ret
          exact ⟨ret_bool HF.out.symm, HBE.out _⟩
        have d9 : decide (4294967296 < s.addr + s.msz) = false := decide_eq_false h9
        have HALL := hid (show okS s f 4294967296 = decide (f ≤ dn s.addr) by
          unfold okS
          rw [decide_eq_decide]
          exact ⟨fun h => h.2.2.2.2.2.2.2.2, fun h => ⟨by omega, by omega, by omega, by omega, by omega, by omega, by omega, by omega, h⟩⟩)
        have hdn : 0 ≤ dn s.addr := by unfold dn; omega
        have HDN := hid hdn
        have HQ := hid (show 0 ≤ s.addr ∧ s.addr ≤ 18446744073709551615 from ⟨q0, q1⟩)
        clear h0 h1 h2 h3 h4 h5 h6 h7 h8 h9 hdn q2 q3 q4 q5 q6
        have HBS := hid (fun dq osq => show Below w1.heap.size w1 (rg (wr.alloc (.cells #[.int .u32 s.kind, .int .u8 s.flags, .int .u64 s.off, .int .u64 s.addr, .int .u64 s.fsz, .int .u64 s.msz] 58)) dq osq) from (HB.out.alloc HB.out.size _).trans ((rg_below _ _ _).mono (HB.out.alloc HB.out.size _).size))
        by_cases hk0 : k = 0
        · have g0 : decide ((0 : Int) < (k : Int)) = false := decide_eq_false (by omega)
          have g0n : decide (0 < k) = false := decide_eq_false (by omega)
          have HS2 := hid (HOKS.out (by rw [HALL.out, HF0.out hk0]; exact decide_eq_true HDN.out))
          clear hk0
          go_wp2_with fail
          refine region_rg (by kernel_rfl) (by kernel_rfl) ?_
          repeat (first | go_big_quiet_skip | quiet_step (fail))
          refine wpQuiet_nil ?_
          intro _ hw'
          obtain ⟨⟨dq, osq⟩, hw''⟩ := hw'
          subst hw''
          go_wp2_with fail
          go_roundw
          case rel => exact ⟨k + 1, by omega, by go_num, HS2.out, HBS.out dq osq⟩
          case measure => simp [intOf]; omega
        · have g0 : decide ((0 : Int) < (k : Int)) = true := decide_eq_true (by omega)
          have g0n : decide (0 < k) = true := decide_eq_true (by omega)
          obtain ⟨j, hj⟩ : ∃ j, k = j + 1 := ⟨k - 1, by omega⟩
          obtain ⟨hjl, hfj⟩ := HK.out j hj
          have hpk := HTO.out j (by omega)
          rw [sg_getD hjl] at hpk
          have hpo := HLK.out _ (List.getElem_mem hjl)
          have hfr := frU_ok hpo hpk (by decide)
          have hpb := okS_of hpk
          obtain ⟨b', off', hab', z0', z1', z2', z3', z4', z5'⟩ := HSB.out.cells hjl
          cases hab'
          have hp1 := hpo.a0; have hp2 := hpo.m0
          have HPB := hid (show 0 ≤ l[j].addr + l[j].msz ∧ l[j].addr + l[j].msz ≤ 140737488355328 by omega)
          have wp : IntKind.u64.wrap (l[j].addr + l[j].msz) = l[j].addr + l[j].msz := by rw [IntKind.wrap_u64]; omega
          rw [hfr] at hfj
          have hkj : (k : Int) - 1 = (j : Int) := by omega
          have ez : (0 : Int) ≤ (j : Int) := by omega
          have eb : (j : Int) < (l.length : Int) := by omega
          have HJ := hid hj
          rw [hfj] at HALL HNO HOKS
          clear hj hpk hpo hfr hpb hp1 hp2 hk0 hfj
          generalize l[j] = p at *
          obtain ⟨W2, hW2⟩ : ∃ W2, W2 = wr.alloc (.cells #[.int .u32 s.kind, .int .u8 s.flags, .int .u64 s.off, .int .u64 s.addr, .int .u64 s.fsz, .int .u64 s.msz] 58) := ⟨_, rfl⟩
          have y3 : W2.cell? ⟨wr.heap.size, 3, none⟩ = some (.int .u64 s.addr) := by
            rw [hW2]
            have := HRN.out.cell 3 (by simp [sgC])
            exact this
          have hbw : Below wr.heap.size wr W2 := by rw [hW2]; exact bal _
          have p3 : W2.cell? ⟨b, off + j * 6 + 3, none⟩ = some (.int .u64 p.addr) := keepC hbw z3'
          have p5 : W2.cell? ⟨b, off + j * 6 + 5, none⟩ = some (.int .u64 p.msz) := keepC hbw z5'
          have Y3 := rg_cell y3
          have P3 := rg_cell p3
          have P5 := rg_cell p5
          have cg0 := hid (fun (d : Nat) (os : Array Obj) => rg_same (rdown_any s.addr (rg W2 d os) HQ.out.1 HQ.out.2))
          have cg1 := hid (fun (d : Nat) (os : Array Obj) => rg_same (rup_any (p.addr + p.msz) (rg W2 d os) HPB.out.1 (by have := HPB.out.2; omega)))
          rw [← hW2] at HBS
          have HBEW := hid (fun dq osq => HB1.out.trans ((HBS.out dq osq).mono HB1.out.size))
          clear y3 p3 p5 z0' z1' z2' z3' z4' z5' hbw
          by_cases hlow : dn s.addr < upI (p.addr + p.msz)
          · have d10 : decide (dn s.addr < upI (p.addr + p.msz)) = true := decide_eq_true hlow
            have HF := hid (HNO.out (by rw [HALL.out]; exact decide_eq_false (by omega)))
            clear hlow
            generalize dn s.addr = D1 at *
            generalize upI (p.addr + p.msz) = U1 at *
            go_wp2_with fail
            rw [← hW2]
            clear hW2
            refine region_rg (by kernel_rfl) (by kernel_rfl) ?_
            repeat (go_big_quiet_step (first | with_reducible exact cg0.out _ _ | with_reducible exact cg1.out _ _))
            refine wpQuiet_nil ?_
            intro _ hw'
            obtain ⟨⟨dq, osq⟩, hw''⟩ := hw'
            subst hw''
            go_wp2_with fail
            go_ret
            exact ⟨ret_bool HF.out.symm, HBEW.out _ _⟩
          · have d10 : decide (dn s.addr < upI (p.addr + p.msz)) = false := decide_eq_false hlow
            have HS2 := hid (HOKS.out (by rw [HALL.out]; exact decide_eq_true (by omega)))
            clear hlow
            generalize dn s.addr = D1 at *
            generalize upI (p.addr + p.msz) = U1 at *
            go_wp2_with fail
            rw [← hW2]
            clear hW2
            refine region_rg (by kernel_rfl) (by kernel_rfl) ?_
            repeat (go_big_quiet_step (first | with_reducible exact cg0.out _ _ | with_reducible exact cg1.out _ _))
            refine wpQuiet_nil ?_
            intro _ hw'
            obtain ⟨⟨dq, osq⟩, hw''⟩ := hw'
            subst hw''
            go_wp2_with fail
            go_roundw
            case rel => exact ⟨k + 1, by omega, by go_num, HS2.out, HBS.out dq osq⟩
            case measure => simp [intOf]; omega

      · have e1 : decide ((k : Int) < (l.length : Int)) = false := by simp; omega
        have e1n : decide (k < l.length) = false := by simp; omega
        obtain rfl : k = l.length := by omega
        have HG := hid (show rightB ino 3 sg = decide (0 < l.length) by rw [HEQ.out, okTo_all HTO.out, Bool.and_true])
        have HBF := hid (HB1.out.trans (HB.out.mono HB1.out.size))
        by_cases hp : 0 < l.length
        · have e2 : decide ((0 : Int) < (l.length : Int)) = true := by simp; omega
          have e2n : decide (0 < l.length) = true := by simp; omega
          rw [e2n] at HG
          clear hp
          go_wp2_with fail
          go_ret
          exact ⟨ret_bool HG.out.symm, HBF.out⟩
        · have e2 : decide ((0 : Int) < (l.length : Int)) = false := decide_eq_false (by omega)
          have e2n : decide (0 < l.length) = false := decide_eq_false hp
          rw [e2n] at HG
          clear hp
          go_wp2_with fail
          go_ret
          exact ⟨ret_bool HG.out.symm, HBF.out⟩
  have t2 : (typ != 2) = true := by simpa using h2
  have t3 : (typ != 3) = true := by simpa using h3
  have HF := hid (show rightB ino typ sg = false by unfold rightB; rw [decide_eq_false (by omega)]; rfl)
  clear h2 h3
  go_wp2_with fail
  go_ret
  exact ⟨ret_bool HF.out.symm, by first | exact HB0.out | exact bal _⟩
end Go.Proofs.Ytkpopdkkobelaaa
