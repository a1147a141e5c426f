
/- Stage 17: the law's loads, found. -/
import Derived.Test.YtkpopdkkobelaaaLaG
import Derived.Test.YtkpopdkkobelaaaLaQ
namespace Go.Proofs.Ytkpopdkkobelaaa
open Go.RowKit Go.Sort Go.Shelf
attribute [local go_sem] Oper.semAt_some

set_option maxRecDepth 100000 in
set_option maxHeartbeats 4000000 in
theorem lloads_any (x : LO) (w : World) (hx : LOk w x) (hn0 : x.sg.length ≤ 1000000000) :
    Calls Try.prog 21 #[loV x] w fun e w' => ∃ v, e = .returned v ∧ OwnG w' w.heap.size v (lds x.sg) ∧ Below w.heap.size w w' := by
  obtain ⟨ino, base, typ, entry, phoff, ga, gn, gc, sg, na, nn, nc, soname, run, sa, sn, sc, ra, rn, rc⟩ := x
  obtain rfl : sg.length = gn := hx.segs.hlen
  have hn : sg.length ≤ 1000000000 := hn0
  obtain ⟨W0, hW0⟩ : ∃ W0, W0 = w.alloc (.cells #[.int .i64 ino, .int .u64 base, .int .u16 typ, .int .u64 entry, .int .u64 phoff, Value.slice ga sg.length gc, .slice na nn nc, .string (ba soname), .string (ba run), .slice sa sn sc, .slice ra rn rc] 33) := ⟨_, rfl⟩
  have HB0 := hid (show Below w.heap.size w W0 by rw [hW0]; exact bal _)
  have HX := hid (show Row W0 w.heap.size 33 [_, _, _, _, _, _, _, _, _, _, _] by rw [hW0]; exact Row.new w 33 [.int .i64 ino, .int .u64 base, .int .u16 typ, .int .u64 entry, .int .u64 phoff, Value.slice ga sg.length gc, .slice na nn nc, .string (ba soname), .string (ba run), .slice sa sn sc, .slice ra rn rc])
  have HS := hid (show Sgs W0 ga sg.length sg from hx.segs.below' HB0.out)
  have HWL := hid (show w.heap.size < W0.heap.size from HX.out.lt)
  obtain ⟨⟨x0, x1, x2, x3, x4, x5⟩, x6, x7, x8, x9, x10⟩ := HX.out.eleven
  have hl1 := HX.out.lt
  clear hx
  unfold loV
  dsimp only
  go_enter Try.func21, Try.ntmps21
  go_wp2_with fail
  try rw [← hW0]
  clear hW0
  go_wp2_with fail
  go_loopw [3, 4] (fun v i wr => ∃ (k : Nat) (sv : Value), k ≤ sg.length ∧ sv = v ∧ i = .int .i64 k ∧ OwnG wr W0.heap.size sv (lds (sg.take k)) ∧ Below W0.heap.size W0 wr) (fun _ i _ => sg.length - (intOf i).toNat)
  case atStart => exact ⟨0, _, Nat.zero_le _, rfl, rfl, ownG_nil _ _, Below.refl _ _⟩
  case round =>
    obtain ⟨k, v, hk, rfl, rfl, hown, hb⟩ := hrel
    have HO := hid hown
    have HB := hid hb
    have HXr := hid (HX.out.below hb HX.out.lt)
    clear hown hb x0 x1 x2 x3 x4 x5 x6 x7 x8 x9 x10 hl1
    obtain ⟨⟨x0, x1, x2, x3, x4, x5⟩, x6, x7, x8, x9, x10⟩ := HXr.out.eleven
    have hl1 := HXr.out.lt
    by_cases hlt : k < sg.length
    · have d1 : decide ((k : Int) < (sg.length : Int)) = true := by simp; omega
      have d1n : decide (k < sg.length) = true := by simp; omega
      obtain ⟨b, off, rfl, z0, z1, z2, z3, z4, z5⟩ := (HS.out.below' HB.out).cells hlt
      have hbl := World.block_lt_of_cell? wr _ z0
      have HT := hid (lds_take hlt)
      have HLL := hid (show (lds (sg.take k)).length ≤ sg.length by have := lds_len (sg.take k); rw [List.length_take] at this; omega)
      generalize sg[k] = s at *
      by_cases hk1 : s.kind = 1
      · have d2 : (s.kind == 1) = true := by simp [hk1]
        rw [if_pos hk1] at HT
        have HOW := hid (fun o => show OwnG (wr.alloc o) W0.heap.size v (lds (sg.take k)) from HO.out.alloc _)
        have HNR := hid (row_rk (Row.new wr 58 (sgC s)) (rfl : (sgC s).length = 6))
        have HNB := hid (fun o => HB.out.alloc HB.out.size o)
        have HONE := hid (sgC_one [s])
        have HN1 := hid (show (((lds (sg.take k)).map sgC).length + 1) * 40 ≤ 140737488355328 by rw [List.length_map]; have := HLL.out; omega)
        have HN2 := hid (show ((lds (sg.take k)).map sgC).length + 1 ≤ maxLen by rw [List.length_map]; have := HLL.out; unfold maxLen; omega)
        clear hk1
        go_wp2_with (at_builtin; go_must (refine wpList_appKg Try.underlying24 infoSeg rfl (by decide) rfl _ _ rfl W0.heap.size v ((lds (sg.take k)).map sgC) [sgC s] rfl (some ⟨wr.heap.size, 0, none⟩) 1 1 rfl (HOW.out _) HNR.out HONE.out (fun h => by cases h) HN1.out HN2.out (HNB.out _).size ?_; intro v' w9 hown hgrow hb9; have HO9 := hid hown; have HB9 := hid ((HNB.out _).trans hb9); clear hown hgrow hb9))
        go_roundw
        case rel => exact ⟨k + 1, _, by omega, rfl, by go_num, by rw [HT.out]; exact own_ext HO9.out (by simp) (by simp), HB9.out⟩
        case measure => simp [intOf]; omega
      · have d2 : (s.kind == 1) = false := by simpa using hk1
        rw [if_neg hk1, List.append_nil] at HT
        clear hk1
        go_wp2_with fail
        go_roundw
        case rel => exact ⟨k + 1, _, by omega, rfl, by go_num, by rw [HT.out]; exact HO.out, HB.out⟩
        case measure => simp [intOf]; omega
    · have d1 : decide ((k : Int) < (sg.length : Int)) = false := by simp; omega
      have d1n : decide (k < sg.length) = false := by simp; omega
      obtain rfl : k = sg.length := by omega
      have HF := hid (show lds (sg.take sg.length) = lds sg by rw [List.take_length])
      go_wp2_with fail
      go_ret
      exact ⟨_, rfl, by rw [← HF.out]; exact own_from HO.out HB0.out.size, HB0.out.trans (HB.out.mono HB0.out.size)⟩

theorem fdN_take {a : Int} {ps : List PC} {k : Nat} (hk : k < ps.length) : fdN a (ps.take (k + 1)) = fdN a (ps.take k) + if inP a ps[k] = true then 1 else 0 := by
  unfold fdN
  rw [List.take_succ_eq_append_getElem hk, List.filter_append, List.length_append]
  cases h : inP a ps[k] <;> simp [h]
theorem fdA_take {a : Int} {ps : List PC} {k : Nat} (hk : k < ps.length) : fdA a (ps.take (k + 1)) = atP a (fdA a (ps.take k)) ps[k] := by
  unfold fdA
  rw [List.take_succ_eq_append_getElem hk, List.foldl_append]
  rfl
theorem fdW_take {a b : Int} {L : List (Int × Nat)} {k : Nat} (hk : k < L.length) : fdW a b (L.take (k + 1)) = atW a (fdW a b (L.take k)) L[k] := by
  unfold fdW
  rw [List.take_succ_eq_append_getElem hk, List.foldl_append]
  rfl
theorem fdN_le (a : Int) (ps : List PC) : fdN a ps ≤ ps.length := List.length_filter_le _ _
def FdPost (w : World) (a : Int) (ps : List PC) (L : List (Int × Nat)) (e : Ending) (w' : World) : Prop := e = .returned (.tuple #[.int .i64 (fdW a (fdA a ps) L), .bool (decide (fdN a ps = 1))]) ∧ ∃ n, w' = w.drewN n

set_option maxRecDepth 100000 in
set_option maxHeartbeats 8000000 in
theorem found_any (va : Option Addr) (vc : Nat) (qa : Option Addr) (qc : Nat) (ps : List PC) (L : List (Int × Nat)) (a : Int) (w : World) (hP : Pcs w va vc qa qc ps L) (hpl : ps.length ≤ 16) (hll : L.length ≤ 8) (hpo : ∀ p ∈ ps, PCok p) (hlo : ∀ x ∈ L, 0 ≤ x.1 ∧ x.1 ≤ 140737488355328 ∧ x.2 ≤ 4096) (h0 : 0 ≤ a) (h1 : a ≤ 140737488355328) :
    Calls Try.prog 22 #[.slice va ps.length vc, .slice qa L.length qc, .int .u64 a] w (FdPost w a ps L) := by
  have HP := hid hP
  have HPO := hid hpo
  have HLO := hid hlo
  have HLL := hid hll
  have HPL := hid hpl
  clear hP hpo hlo hll
  go_enter Try.func22, Try.ntmps22
  go_wp2_with fail
  go_loopw [8, 9, 10] (fun u v i wr => ∃ k : Nat, k ≤ ps.length ∧ u = .int .i64 (fdN a (ps.take k) : Int) ∧ v = .int .i64 (fdA a (ps.take k)) ∧ i = .int .i64 k ∧ ∃ n, wr = w.drewN n) (fun _ _ i _ => ps.length - (intOf i).toNat)
  case atStart => exact ⟨0, Nat.zero_le _, rfl, rfl, rfl, 0, rfl⟩
  case round =>
    obtain ⟨k, hk, rfl, rfl, rfl, n, rfl⟩ := hrel
    by_cases hlt : k < ps.length
    · have d1 : decide ((k : Int) < (ps.length : Int)) = true := by simp; omega
      have d1n : decide (k < ps.length) = true := by simp; omega
      have HCP := hid (pc_cells HP.out.p hlt)
      obtain ⟨b1, o1, rfl, p0, p1, p2, p3, p4⟩ := HCP.out
      have hpk := HPO.out ps[k] (List.getElem_mem _)
      have HN := hid (fdN_take (a := a) hlt)
      have HA := hid (fdA_take (a := a) hlt)
      have hfn := fdN_le a (ps.take k)
      rw [List.length_take] at hfn
      generalize ps[k] = p at *
      generalize fdN a (ps.take k) = FN at *
      generalize fdA a (ps.take k) = FA at *
      have g0 := hpk.f0
      have g1 := hpk.f1
      have g2 := hpk.t1
      have g3 := hpk.o0
      have g4 := hpk.o1
      clear HCP hpk
      unfold atP inP at HA
      unfold inP at HN
      cases c1 : decide (p.fr ≤ a)
      · rw [c1] at HN HA
        have HN2 := hid (show fdN a (ps.take (k + 1)) = FN from by rw [HN.out]; rfl)
        have HA2 := hid (show fdA a (ps.take (k + 1)) = FA from by rw [HA.out]; rfl)
        clear HN HA
        go_wp2_with fail
        go_roundw
        case rel => exact ⟨k + 1, by omega, by rw [HN2.out], by rw [HA2.out], by go_num, n, rfl⟩
        case measure => simp [intOf]; omega
      · cases c2 : decide (a < p.to)
        · rw [c1, c2] at HN HA
          have HN2 := hid (show fdN a (ps.take (k + 1)) = FN from by rw [HN.out]; rfl)
          have HA2 := hid (show fdA a (ps.take (k + 1)) = FA from by rw [HA.out]; rfl)
          clear HN HA
          go_wp2_with fail
          go_roundw
          case rel => exact ⟨k + 1, by omega, by rw [HN2.out], by rw [HA2.out], by go_num, n, rfl⟩
          case measure => simp [intOf]; omega
        · rw [c1, c2] at HN HA
          have HN2 := hid (show fdN a (ps.take (k + 1)) = FN + 1 from by rw [HN.out]; rfl)
          cases c3 : decide (0 ≤ p.ino)
          · have HA2 := hid (show fdA a (ps.take (k + 1)) = FA from by rw [HA.out, if_pos (show (true && true) = true from rfl), if_neg (by simpa using c3)])
            clear HN HA
            go_wp2_with fail
            go_roundw
            case rel => exact ⟨k + 1, by omega, by rw [HN2.out]; go_num, by rw [HA2.out], by go_num, n, rfl⟩
            case measure => simp [intOf]; omega
          · have HA2 := hid (show fdA a (ps.take (k + 1)) = p.off + a - p.fr from by rw [HA.out, if_pos (show (true && true) = true from rfl), if_pos (by simpa using c3)])
            have e1 : p.fr ≤ a := of_decide_eq_true c1
            clear HN HA
            have gw1 : IntKind.u64.wrap (p.off + a) = p.off + a := w64_in (by omega) (by omega)
            have gw2 : IntKind.u64.wrap (p.off + a - p.fr) = p.off + a - p.fr := w64_in (by omega) (by omega)
            have gw3 : IntKind.i64.wrap (p.off + a - p.fr) = p.off + a - p.fr := IntWalk.i64_in _ (by omega)
            go_wp2_with fail
            go_quiet (fail)
            clear gw1 gw2 gw3
            go_wp2_with fail
            go_roundw
            case rel => exact ⟨k + 1, by omega, by rw [HN2.out]; go_num, by rw [HA2.out], by go_num, n + nq, by simp [World.drewN, Nat.add_assoc]⟩
            case measure => simp [intOf]; omega
    · have d1 : decide ((k : Int) < (ps.length : Int)) = false := by simp; omega
      have d1n : decide (k < ps.length) = false := by simp; omega
      obtain rfl : k = ps.length := by omega
      rw [List.take_length]
      clear hlt hk
      generalize hFA : fdA a ps = FA at *
      have hFN := fdN_le a ps
      generalize hFE : fdN a ps = FN at *
      have HFA := hid hFA
      have HFE := hid hFE
      clear hFA hFE
      go_wp2_with fail
      go_loopw [9, 11] (fun v i wr => ∃ k : Nat, k ≤ L.length ∧ v = .int .i64 (fdW a FA (L.take k)) ∧ i = .int .i64 k ∧ ∃ n, wr = w.drewN n) (fun _ i _ => L.length - (intOf i).toNat)
      case atStart => exact ⟨0, Nat.zero_le _, rfl, rfl, n, rfl⟩
      case round =>
        obtain ⟨j, hj, rfl, rfl, n2, rfl⟩ := hrel
        by_cases hlt : j < L.length
        · have d2 : decide ((j : Int) < (L.length : Int)) = true := by simp; omega
          have d2n : decide (j < L.length) = true := by simp; omega
          obtain ⟨ws, hws, hwr⟩ := HP.out.q
          have HCP := hid (wb_cells hws hwr hlt)
          obtain ⟨b1, o1, rfl, p1, p2, p3, p4⟩ := HCP.out
          have hpk := HLO.out L[j] (List.getElem_mem _)
          have HW := hid (fdW_take (a := a) (b := FA) hlt)
          have hll := HLL.out
          generalize L[j] = p at *
          generalize fdW a FA (L.take j) = FW at *
          obtain ⟨pa, pn⟩ := p
          dsimp only at p3 p4 hpk
          have g0 := hpk.1
          have g1 := hpk.2.1
          have g2 := hpk.2.2
          clear HCP hpk hws hwr
          unfold atW inW at HW
          dsimp only at HW
          cases c1 : decide (pa ≤ a)
          · rw [c1] at HW
            have HW2 := hid (show fdW a FA (L.take (j + 1)) = FW from by rw [HW.out]; rfl)
            clear HW
            go_wp2_with fail
            go_quiet (fail)
            go_wp2_with fail
            go_roundw
            case rel => exact ⟨j + 1, by omega, by rw [HW2.out], by go_num, n2 + nq, by simp [World.drewN, Nat.add_assoc]⟩
            case measure => simp [intOf]; omega
          · have e1 : pa ≤ a := of_decide_eq_true c1
            cases c2 : decide (a - pa < (pn : Int))
            · rw [c1, c2] at HW
              have HW2 := hid (show fdW a FA (L.take (j + 1)) = FW from by rw [HW.out]; rfl)
              clear HW
              have gw1 : IntKind.u64.wrap (a - pa) = a - pa := w64_in (by omega) (by omega)
              have gw2 : IntKind.u64.wrap (pn : Int) = (pn : Int) := w64_in (by omega) (by omega)
              go_wp2_with fail
              go_quiet (fail)
              clear gw1 gw2
              go_wp2_with fail
              go_roundw
              case rel => exact ⟨j + 1, by omega, by rw [HW2.out], by go_num, n2 + nq, by simp [World.drewN, Nat.add_assoc]⟩
              case measure => simp [intOf]; omega
            · rw [c1, c2] at HW
              have HW2 := hid (show fdW a FA (L.take (j + 1)) = -1 from by rw [HW.out]; rfl)
              clear HW
              have gw1 : IntKind.u64.wrap (a - pa) = a - pa := w64_in (by omega) (by omega)
              have gw2 : IntKind.u64.wrap (pn : Int) = (pn : Int) := w64_in (by omega) (by omega)
              go_wp2_with fail
              go_quiet (fail)
              clear gw1 gw2
              go_wp2_with fail
              go_roundw
              case rel => exact ⟨j + 1, by omega, by rw [HW2.out], by go_num, n2 + nq, by simp [World.drewN, Nat.add_assoc]⟩
              case measure => simp [intOf]; omega
        · have d2 : decide ((j : Int) < (L.length : Int)) = false := by simp; omega
          have d2n : decide (j < L.length) = false := by simp; omega
          obtain rfl : j = L.length := by omega
          rw [List.take_length]
          cases c5 : decide (FN = 1)
          · have c6 : ((FN : Int) == 1) = false := by rw [beq_eq_false_iff_ne]; have := of_decide_eq_false c5; omega
            go_wp2_with fail
            go_ret2
            exact ⟨by rw [HFA.out, HFE.out, c5]; rfl, n2, rfl⟩
          · have c6 : ((FN : Int) == 1) = true := by rw [beq_iff_eq]; have := of_decide_eq_true c5; omega
            go_wp2_with fail
            go_ret2
            exact ⟨by rw [HFA.out, HFE.out, c5]; rfl, n2, rfl⟩
end Go.Proofs.Ytkpopdkkobelaaa
