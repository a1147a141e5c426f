
/- Stage 17's reference: meet, stacked, Bases. -/
import Derived.Test.YtkpopdkkobelaaaLaS
import Derived.Test.YtkpopdkkobelaaaLaC
import Derived.Test.YtkpopdkkobelaaaLaU
namespace Go.Proofs.Ytkpopdkkobelaaa
open Go.RowKit Go.Sort Go.Shelf
attribute [local go_sem] Oper.semAt_some

theorem rmeet_any (x y : EX) (w : World) :
    Calls Try.prog 36 #[.int .u64 x.1, .int .u64 x.2, .int .u64 y.1, .int .u64 y.2] w fun e w' => e = .returned (.bool (meetB x y)) ∧ w = w' := by
  obtain ⟨x1, x2⟩ := x
  obtain ⟨y1, y2⟩ := y
  unfold meetB
  dsimp only
  cases c1 : decide (x1 < y2)
  · go_enter Try.func36, Try.ntmps36
    go_wp2_with fail
    go_ret
    exact ⟨rfl, rfl⟩
  · go_enter Try.func36, Try.ntmps36
    go_wp2_with fail
    go_ret
    exact ⟨by simp, rfl⟩
theorem rstacked_any (x : EX) (w : World) :
    Calls Try.prog 35 #[.int .u64 x.1, .int .u64 x.2] w fun e w' => e = .returned (.bool (meetB x stackX)) ∧ w = w' := by
  have HM := hid (rmeet_any x stackX w)
  unfold stackX at HM ⊢
  obtain ⟨x1, x2⟩ := x
  dsimp only at HM ⊢
  go_enter Try.func35, Try.ntmps35
  go_wp2_with fail
  refine (HM.out).mono ?_
  rintro e' w1 ⟨rfl, rfl⟩
  go_wp2_with fail
  go_ret
  exact ⟨rfl, rfl⟩

theorem plAll_append : ∀ (xs ys : List LO) (i : Nat) (lib : Int), plAll (xs ++ ys) i lib = plAll xs i lib ++ plAll ys (i + xs.length) (plEnd xs i lib)
  | [], ys, i, lib => by simp [plAll, plEnd]
  | x :: r, ys, i, lib => by
    rw [List.cons_append, plAll, plAll, plAll_append r, plEnd, List.cons_append, List.length_cons, show i + 1 + r.length = i + (r.length + 1) by omega]
theorem plAll_get (xs : List LO) (i : Nat) (h : i < xs.length) : (plAll xs 0 139637976727552)[i]'(by rw [plAll_len]; exact h) = placedL xs[i] (decide (i = 0)) (plEnd (xs.take i) 0 139637976727552) := by
  have e : xs = xs.take i ++ xs[i] :: xs.drop (i + 1) := by rw [List.getElem_cons_drop, List.take_append_drop]
  have e2 : plAll xs 0 139637976727552 = plAll (xs.take i) 0 139637976727552 ++ (placedL xs[i] (decide (0 + (xs.take i).length = 0)) (plEnd (xs.take i) 0 139637976727552) :: plAll (xs.drop (i + 1)) (0 + (xs.take i).length + 1) (if 0 < 0 + (xs.take i).length then (exOf (placedL xs[i] (decide (0 + (xs.take i).length = 0)) (plEnd (xs.take i) 0 139637976727552))).2 + 4096 else plEnd (xs.take i) 0 139637976727552)) := by
    conv => lhs; rw [e]
    rw [plAll_append, plAll]
  have hl : (plAll (xs.take i) 0 139637976727552).length = i := by rw [plAll_len, List.length_take]; omega
  have hl2 : 0 + (xs.take i).length = i := by rw [List.length_take]; omega
  rw [hl2] at e2
  simp only [e2]
  rw [List.getElem_append_right (by omega)]
  simp only [hl, Nat.sub_self, List.getElem_cons_zero]
/-- What is known of the place that a prefix leaves. -/
theorem lib_ok {w : World} {xs : List LO} (hx : ∀ x ∈ xs, LOk w x) (hr : RtTo xs xs.length) (h8 : xs.length ≤ 8) (k : Nat) (hk : k ≤ xs.length) : 139637976727552 ≤ plEnd (xs.take k) 0 139637976727552 ∧ plEnd (xs.take k) 0 139637976727552 ≤ 139637976727552 + 8 * 4294971392 := by
  have h := plEnd_le (xs.take k) 0 139637976727552 0 (fun x hx' => hx x (List.mem_of_mem_take hx')) (fun j hj => by
    have hj2 : j < xs.length := by rw [List.length_take] at hj; omega
    have := hr j hj2
    rw [getD_lo hj2] at this
    rw [List.getElem_take, Nat.zero_add]
    exact this) (by rw [List.length_take]; omega) (Int.le_refl _) (by omega)
  have hl : (xs.take k).length ≤ 8 := by rw [List.length_take]; omega
  omega
theorem plAll_ok {w : World} {xs : List LO} (hx : ∀ x ∈ xs, LOk w x) (hr : RtTo xs xs.length) (h8 : xs.length ≤ 8) (i : Nat) (hi : i < (plAll xs 0 139637976727552).length) :
    LOk w (plAll xs 0 139637976727552)[i] ∧ rightB (plAll xs 0 139637976727552)[i].ino (plAll xs 0 139637976727552)[i].typ (plAll xs 0 139637976727552)[i].sg = true ∧ liesB (plAll xs 0 139637976727552)[i].base (lds (plAll xs 0 139637976727552)[i].sg) = true := by
  rw [plAll_len] at hi
  rw [plAll_get xs i hi]
  have hri := hr i hi
  rw [getD_lo hi] at hri
  unfold rtAt rtO at hri
  rw [Bool.and_eq_true, Bool.or_eq_true, decide_eq_true_eq, decide_eq_true_eq] at hri
  have hl := lib_ok hx hr h8 i (by omega)
  have hp := placed_ok (hx _ (List.getElem_mem hi)) hri.1 (decide (i = 0)) _ (fun hm => by
    rcases hri.2 with h | h
    · rw [decide_eq_false_iff_not] at hm; exact absurd h hm
    · exact h) hl.1 hl.2
  refine ⟨hp.1, hp.2.2.1, ?_⟩
  rw [hp.2.1]
  exact hp.2.2.2.1

def hitE (out : List LO) (j : Nat) : Bool := meetB (exOf (out.getD j default)) stackX || (List.range j).any fun k => meetB (exOf (out.getD j default)) (exOf (out.getD k default))
theorem hitE_at {out : List LO} {j : Nat} (h : j < out.length) : hitE out j = (stackX :: (([] : List EX) ++ (out.map exOf).take j)).any (meetB ((out.map exOf)[j]'(by rw [List.length_map]; exact h))) := by
  unfold hitE
  rw [getD_lo h, List.any_cons, List.nil_append, List.getElem_map]
  congr 1
  rw [Bool.eq_iff_iff, List.any_eq_true, List.any_eq_true]
  constructor
  · rintro ⟨k, hk, hm⟩
    have hk2 := List.mem_range.1 hk
    refine ⟨exOf out[k], ?_, by rw [getD_lo (by omega)] at hm; exact hm⟩
    rw [List.mem_iff_getElem]
    exact ⟨k, by rw [List.length_take, List.length_map]; omega, by rw [List.getElem_take, List.getElem_map]⟩
  · rintro ⟨e, he, hm⟩
    obtain ⟨k, hk, rfl⟩ := List.mem_iff_getElem.1 he
    rw [List.length_take, List.length_map] at hk
    refine ⟨k, List.mem_range.2 (by omega), ?_⟩
    rw [getD_lo (by omega)]
    rw [List.getElem_take, List.getElem_map] at hm
    exact hm
theorem hit_yes {out : List LO} {j : Nat} (h : j < out.length) (hh : hitE out j = true) : hitAll [] (out.map exOf) = true := by
  rw [hitE_at h] at hh
  exact hitAll_at _ _ j (by rw [List.length_map]; exact h) hh
theorem hit_no {out : List LO} (hh : ∀ j, j < out.length → hitE out j = false) : hitAll [] (out.map exOf) = false := by
  refine hitAll_no _ _ fun i hi => ?_
  have hi2 : i < out.length := by rw [List.length_map] at hi; exact hi
  have := hh i hi2
  rw [hitE_at hi2] at this
  exact this
theorem hitE_stack {out : List LO} {j : Nat} (h : j < out.length) (hm : meetB (exOf out[j]) stackX = true) : hitE out j = true := by
  unfold hitE; rw [getD_lo h, hm, Bool.true_or]
theorem hitE_meet {out : List LO} {j k : Nat} (h : j < out.length) (hk : k < j) (hm : meetB (exOf out[j]) (exOf (out[k]'(by omega))) = true) : hitE out j = true := by
  unfold hitE
  rw [getD_lo h, Bool.or_eq_true, List.any_eq_true]
  exact .inr ⟨k, List.mem_range.2 hk, by rw [getD_lo (by omega)]; exact hm⟩
theorem hitE_none {out : List LO} {j : Nat} (h : j < out.length) (hm : meetB (exOf out[j]) stackX = false) (hk : ∀ k (hk : k < j), meetB (exOf out[j]) (exOf (out[k]'(by omega))) = false) : hitE out j = false := by
  unfold hitE
  rw [getD_lo h, hm, Bool.false_or, List.any_eq_false]
  intro k hkm
  have := List.mem_range.1 hkm
  rw [getD_lo (by omega), hk k this]
  simp
theorem rlies_ex {y : LO} (h : liesB y.base (lds y.sg) = true) : rliesV y = .tuple #[.int .u64 (exOf y).1, .int .u64 (exOf y).2, .bool true] := by
  unfold rliesV; rw [if_pos h]; rfl

set_option maxRecDepth 100000 in
set_option maxHeartbeats 16000000 in
theorem rbases_any (a : Option Addr) (c : Nat) (xs : List LO) (w : World) (hX : LOs w a xs.length xs) (hl : xs.length ≤ 1000000000) :
    Calls Try.prog 16 #[.slice a xs.length c] w (BasPost w xs) := by
  have HX := hid hX
  clear hX
  by_cases h0 : xs.length = 0
  · have d0 : ((xs.length : Int) == 0) = true := by rw [beq_iff_eq]; omega
    have HF := hid (bas_no (w' := w) (show rightL xs = false by unfold rightL; rw [decide_eq_false (by omega)]; rfl) (Below.refl w.heap.size w))
    clear h0
    go_enter Try.func16, Try.ntmps16
    go_wp2_with fail
    go_ret2
    exact HF.out
  have d0 : ((xs.length : Int) == 0) = false := by rw [beq_eq_false_iff_ne]; omega
  by_cases h8 : 8 < xs.length
  · have d8 : decide ((8 : Int) < (xs.length : Int)) = true := by simp; omega
    have d8n : decide (8 < xs.length) = true := by simp; omega
    have HF := hid (bas_no (w' := w) (show rightL xs = false by unfold rightL; rw [decide_eq_false (by omega)]; rfl) (Below.refl w.heap.size w))
    clear h0 h8
    go_enter Try.func16, Try.ntmps16
    go_wp2_with fail
    go_ret2
    exact HF.out
  have d8 : decide ((8 : Int) < (xs.length : Int)) = false := by simp; omega
  have d8n : decide (8 < xs.length) = false := by simp; omega
  have H0 := hid h0
  have h8' : xs.length ≤ 8 := by omega
  clear h0 h8
  have HNO := hid (fun (wx : World) (h : rightL xs = false) (hb : Below w.heap.size w wx) => bas_no h hb)
  have HHIT := hid (fun (wx : World) (h : rightL xs = true) (hh : hitAll [] ((plAll xs 0 139637976727552).map exOf) = true) (hb : Below w.heap.size w wx) => bas_hit (w' := wx) h (show basGo xs 0 139637976727552 [] [] = none by rw [basGo_eq, if_pos hh]) hb)
  have HOUT := hid (fun (wx : World) (v : Value) (h : rightL xs = true) (hh : hitAll [] ((plAll xs 0 139637976727552).map exOf) = false) (hb : Below w.heap.size w wx) (ho : OwnK wx w.heap.size 33 11 v ((plAll xs 0 139637976727552).map loC)) => bas_ok (w' := wx) h (show basGo xs 0 139637976727552 [] [] = some (plAll xs 0 139637976727552) by rw [basGo_eq, if_neg (by rw [hh]; simp), List.nil_append]) hb ho)
  go_enter Try.func16, Try.ntmps16
  go_wp2_with fail
  go_loopw [4] (fun i wr => ∃ k : Nat, k ≤ xs.length ∧ i = .int .i64 k ∧ RtTo xs k ∧ Below w.heap.size w wr) (fun i _ => xs.length - (intOf i).toNat)
  case atStart => exact ⟨0, Nat.zero_le _, rfl, fun i h => by omega, Below.refl _ _⟩
  case round =>
    obtain ⟨k, hk, rfl, hto, hb⟩ := hrel
    have HTO := hid hto
    have HB := hid hb
    clear hto hb
    by_cases hlt : k < xs.length
    · have d1 : decide ((k : Int) < (xs.length : Int)) = true := by simp; omega
      have d1n : decide (k < xs.length) = true := by simp; omega
      have hXr := HX.out.below' HB.out
      have HCC := hid (fun (wx : World) (hb : Below wr.heap.size wr wx) => (hXr.below' hb).cells hlt)
      obtain ⟨b, off, ea, ⟨x0, x1, x2, x3, x4, x5⟩, x6, x7, x8, x9, x10⟩ := hXr.cells hlt
      have hbl := World.block_lt_of_cell? wr _ x0
      have HRT := hid (rright_any xs[k] wr (hXr.ok _ (List.getElem_mem hlt)))
      have HNR := hid (fun h => @rightL_no xs k hlt h)
      have HST := hid (fun (h : rtAt (xs.getD k default) k = true) => show RtTo xs (k + 1) from fun i hi => by
        by_cases e : i = k
        · subst e; exact h
        · exact HTO.out i (by omega))
      rw [getD_lo hlt] at HNR HST
      clear hXr
      generalize xs[k] = x at *
      subst ea
      have HAT : Hid (rtAt x k = (rightB x.ino x.typ x.sg && (decide (k = 0) || decide (x.typ = 3)))) := hid rfl
      unfold loV at HRT
      cases hr : rightB x.ino x.typ x.sg
      · rw [hr] at HRT HAT
        have HF := hid (HNR.out (by rw [HAT.out]; rfl))
        clear hr
        go_wp2_with fail
        refine (HRT.out).mono ?_
        rintro e' w2 ⟨rfl, hb⟩
        have HB2 := hid (bthen HB.out hb)
        clear hb x0 x1 x2 x3 x4 x5 x6 x7 x8 x9 x10 hbl
        go_wp2_with fail
        go_ret2
        exact HNO.out _ HF.out HB2.out
      · rw [hr] at HRT HAT
        clear hr
        by_cases hk0 : k = 0
        · have dk : decide (0 < k) = false := by simp; omega
          have dki : decide ((0 : Int) < (k : Int)) = false := by simp; omega
          rw [decide_eq_true hk0] at HAT
          have HS2 := hid (HST.out (by rw [HAT.out]; rfl))
          clear hk0
          go_wp2_with fail
          refine (HRT.out).mono ?_
          rintro e' w2 ⟨rfl, hb⟩
          have HB2 := hid (bthen HB.out hb)
          clear hb x0 x1 x2 x3 x4 x5 x6 x7 x8 x9 x10 hbl
          go_wp2_with fail
          go_roundw
          case rel => exact ⟨k + 1, by omega, by go_num, HS2.out, HB2.out⟩
          case measure => simp [intOf]; omega
        · have dk : decide (0 < k) = true := by simp; omega
          have dki : decide ((0 : Int) < (k : Int)) = true := by simp; omega
          rw [decide_eq_false hk0] at HAT
          clear hk0
          by_cases h3 : x.typ = 3
          · have d3 : (x.typ != 3) = false := by simp [h3]
            rw [decide_eq_true h3] at HAT
            have HS2 := hid (HST.out (by rw [HAT.out]; rfl))
            clear h3
            go_wp2_with fail
            refine (HRT.out).mono ?_
            rintro e' w2 ⟨rfl, hb⟩
            have HB2 := hid (bthen HB.out hb)
            clear x0 x1 x2 x3 x4 x5 x6 x7 x8 x9 x10 hbl
            obtain ⟨b9, off9, ea, ⟨x0, x1, x2, x3, x4, x5⟩, x6, x7, x8, x9, x10⟩ := HCC.out w2 hb
            cases ea
            have hbl := World.block_lt_of_cell? w2 _ x0
            clear hb
            go_wp2_with fail
            go_roundw
            case rel => exact ⟨k + 1, by omega, by go_num, HS2.out, HB2.out⟩
            case measure => simp [intOf]; omega
          · have d3 : (x.typ != 3) = true := by simpa using h3
            rw [decide_eq_false h3] at HAT
            have HF := hid (HNR.out (by rw [HAT.out]; rfl))
            clear h3
            go_wp2_with fail
            refine (HRT.out).mono ?_
            rintro e' w2 ⟨rfl, hb⟩
            have HB2 := hid (bthen HB.out hb)
            clear x0 x1 x2 x3 x4 x5 x6 x7 x8 x9 x10 hbl
            obtain ⟨b9, off9, ea, ⟨x0, x1, x2, x3, x4, x5⟩, x6, x7, x8, x9, x10⟩ := HCC.out w2 hb
            cases ea
            have hbl := World.block_lt_of_cell? w2 _ x0
            clear hb
            go_wp2_with fail
            go_ret2
            exact HNO.out _ HF.out HB2.out
    · have d1 : decide ((k : Int) < (xs.length : Int)) = false := by simp; omega
      have d1n : decide (k < xs.length) = false := by simp; omega
      obtain rfl : k = xs.length := by omega
      have HRL := hid (rightL_yes (by have := H0.out; omega) h8' HTO.out)
      have HXr := hid (HX.out.below' HB.out)
      have HLIB := hid (fun (k : Nat) (hk : k ≤ xs.length) => lib_ok HXr.out.ok HTO.out h8' k hk)
      have HPOK := hid (fun (i : Nat) (hi : i < (plAll xs 0 139637976727552).length) => plAll_ok HXr.out.ok HTO.out h8' i hi)
      rename World => wA
      clear hlt hk HNO
      have HRTO := hid HTO.out
      go_wp2_with fail
      go_loopw [5, 6, 7] (fun v5 v6 i wr => ∃ k : Nat, k ≤ xs.length ∧ i = .int .i64 k ∧ v6 = .int .u64 (plEnd (xs.take k) 0 139637976727552) ∧ OwnK wr wA.heap.size 33 11 v5 ((plAll (xs.take k) 0 139637976727552).map loC) ∧ Below wA.heap.size wA wr) (fun _ _ i _ => xs.length - (intOf i).toNat)
      case atStart => exact ⟨0, Nat.zero_le _, rfl, rfl, ⟨rfl, .inl ⟨rfl, rfl⟩⟩, Below.refl _ _⟩
      case round =>
        obtain ⟨k, hk, rfl, rfl, hown, hbA⟩ := hrel
        have HO := hid hown
        have HBA := hid hbA
        clear hown hbA
        by_cases hlt : k < xs.length
        · have d1 : decide ((k : Int) < (xs.length : Int)) = true := by simp; omega
          have d1n : decide (k < xs.length) = true := by simp; omega
          have hXr := HXr.out.below' HBA.out
          obtain ⟨b, off, rfl, ⟨x0, x1, x2, x3, x4, x5⟩, x6, x7, x8, x9, x10⟩ := hXr.cells hlt
          have hbl := World.block_lt_of_cell? wr _ x0
          have hLOk := hXr.ok _ (List.getElem_mem hlt)
          have hrt := HRTO.out k hlt
          rw [getD_lo hlt] at hrt
          have hlb := HLIB.out k (by omega)
          have HPLT := hid (show plAll (xs.take (k + 1)) 0 139637976727552 = plAll (xs.take k) 0 139637976727552 ++ [placedL xs[k] (decide (k = 0)) (plEnd (xs.take k) 0 139637976727552)] by
            rw [List.take_succ_eq_append_getElem hlt, plAll_snoc]
            have : 0 + (xs.take k).length = k := by rw [List.length_take]; omega
            rw [this])
          have HPE := hid (show plEnd (xs.take (k + 1)) 0 139637976727552 = if 0 < k then (exOf (placedL xs[k] (decide (k = 0)) (plEnd (xs.take k) 0 139637976727552))).2 + 4096 else plEnd (xs.take k) 0 139637976727552 by
            rw [List.take_succ_eq_append_getElem hlt, plEnd_snoc]
            have : 0 + (xs.take k).length = k := by rw [List.length_take]; omega
            rw [this])
          have HPN := hid (show (plAll (xs.take k) 0 139637976727552).length ≤ 8 by rw [plAll_len, List.length_take]; omega)
          generalize plAll (xs.take k) 0 139637976727552 = PA at *
          generalize plEnd (xs.take k) 0 139637976727552 = LB at *
          generalize xs[k] = x at *
          unfold rtAt rtO at hrt
          rw [Bool.and_eq_true, Bool.or_eq_true, decide_eq_true_eq, decide_eq_true_eq] at hrt
          have hr := hrt.1
          have hsp := hLOk.span hr
          have hty := (rightB_of hr).2.2.1
          have hfin := finOf_le x.typ
          have hfin3 : x.typ = 3 → finOf x.typ = 4294967296 := fun h => by rw [h]; rfl

          obtain ⟨W1, hW1⟩ : ∃ W1, W1 = wr.alloc (.cells (loC x).toArray 33) := ⟨_, rfl⟩
          have HB1 := hid (show Below wA.heap.size wA W1 by rw [hW1]; exact HBA.out.alloc HBA.out.size _)
          have HBX := hid (show Row W1 wr.heap.size 33 (loC x) by rw [hW1]; exact Row.new wr 33 (loC x))
          have HO1 := hid (show OwnK W1 wA.heap.size 33 11 u5 (PA.map loC) by rw [hW1]; exact own_below HO.out (bal _))
          have HSP := hid (rspan_any x W1 (by rw [hW1]; exact hLOk.below' (bal _)) hr)
          have HNE := hid (show some wr.heap.size ≠ u5.ownBlock from fun e => Nat.lt_irrefl _ (World.ownsRow.lt HO.out _ e.symm).2)
          have HNa := hid (show ((PA.map loC).length + 1) * 168 ≤ 140737488355328 by rw [List.length_map]; have := HPN.out; omega)
          have HNb := hid (show (PA.map loC).length + 1 ≤ maxLen by rw [List.length_map]; have := HPN.out; unfold maxLen; omega)
          have hsg := hLOk.segs.hlen
          obtain ⟨ino, base, typ, entry, phoff, ga, gn, gc, sg, na, nn, nc, soname, run, sa, sn, sc, ra, rn, rc⟩ := x
          dsimp only at hsg hr hrt hsp hty hfin hfin3
          obtain rfl := hsg
          unfold loC at HBX hW1
          unfold loV at HSP
          dsimp only at HBX HSP x0 x1 x2 x3 x4 x5 x6 x7 x8 x9 x10
          try dsimp only at hW1
          have HLO := hid (show lowS (lds sg) = lowS (lds sg) from rfl)
          have hex : ∀ nb : Int, (exOf ⟨ino, nb, typ, entry, phoff, ga, sg.length, gc, sg, na, nn, nc, soname, run, sa, sn, sc, ra, rn, rc⟩).2 = nb + highS (lds sg) := fun nb => rfl
          have HEX := hid hex
          have hpl0 : typ = 2 → placedL ⟨ino, base, typ, entry, phoff, ga, sg.length, gc, sg, na, nn, nc, soname, run, sa, sn, sc, ra, rn, rc⟩ true LB = ⟨ino, 0, typ, entry, phoff, ga, sg.length, gc, sg, na, nn, nc, soname, run, sa, sn, sc, ra, rn, rc⟩ := fun h => by
            unfold placedL
            rw [if_neg (by simp), if_neg (by dsimp only; omega)]
          have hpl1 : typ = 3 → placedL ⟨ino, base, typ, entry, phoff, ga, sg.length, gc, sg, na, nn, nc, soname, run, sa, sn, sc, ra, rn, rc⟩ true LB = ⟨ino, 93824992231424 - lowS (lds sg), typ, entry, phoff, ga, sg.length, gc, sg, na, nn, nc, soname, run, sa, sn, sc, ra, rn, rc⟩ := fun h => by
            unfold placedL atL
            rw [if_neg (by simp), if_pos h]
            have := hfin3 h
            rw [w64_in (by dsimp only; omega) (by dsimp only; omega)]
          have hpl2 : typ = 3 → placedL ⟨ino, base, typ, entry, phoff, ga, sg.length, gc, sg, na, nn, nc, soname, run, sa, sn, sc, ra, rn, rc⟩ false LB = ⟨ino, LB - lowS (lds sg), typ, entry, phoff, ga, sg.length, gc, sg, na, nn, nc, soname, run, sa, sn, sc, ra, rn, rc⟩ := fun h => by
            unfold placedL atL
            rw [if_pos rfl]
            have := hfin3 h
            rw [w64_in (by dsimp only; omega) (by dsimp only; omega)]
          clear HLO hex hXr hLOk
          generalize hLo : lowS (lds sg) = lo at *
          generalize hHi : highS (lds sg) = hi at *
          clear hLo hHi
          have bl0 : 0 ≤ lo := hsp.1
          have bl1 : lo ≤ 140737488355328 := by omega
          have bh0 : 0 ≤ hi := by omega
          have bh1 : hi ≤ 140737488355328 := by omega
          have bb0 := hlb.1
          have bb1 : LB ≤ 139672336498688 := by omega
          by_cases hk0 : k = 0
          · have dk : ((k : Int) == 0) = true := by rw [beq_iff_eq]; omega
            have dkd : decide (k = 0) = true := decide_eq_true hk0
            rw [dkd] at HPLT HPE
            have HPE2 := hid (show plEnd (xs.take (k + 1)) 0 139637976727552 = LB by rw [HPE.out, if_neg (by omega)])
            by_cases h2 : typ = 2
            · have dt : (typ == 2) = true := by rw [beq_iff_eq]; exact h2
              rw [hpl0 h2] at HPLT
              clear hpl0 hpl1 hpl2 hk0 h2 HPE hrt hty hsp hfin hfin3 hr hlb
              go_wp2_with fail
              try rw [← hW1]
              clear hW1 x0 x1 x2 x3 x4 x5 x6 x7 x8 x9 x10 hbl
              obtain ⟨⟨x0, x1, x2, x3, x4, x5⟩, x6, x7, x8, x9, x10⟩ := HBX.out.eleven
              have hl1 := HBX.out.lt
              go_wp2_with fail
              refine (HSP.out).mono ?_
              rintro e' w2 ⟨rfl, hb2⟩
              have HB2 := hid (HB1.out.trans (hb2.mono HB1.out.size))
              have HX2 := hid (HBX.out.below hb2 HBX.out.lt)
              have HO2 := hid (own_below HO1.out hb2)
              clear hb2 x0 x1 x2 x3 x4 x5 x6 x7 x8 x9 x10 hl1 HSP HBX HO1
              obtain ⟨⟨x0, x1, x2, x3, x4, x5⟩, x6, x7, x8, x9, x10⟩ := HX2.out.eleven
              have hl1 := HX2.out.lt
              have f1 := HX2.out.frozen 1
              have HWZ := hid (show wA.heap.size ≤ wr.heap.size from HBA.out.size)
              have HOA := hid (fun (o : Obj) => show OwnK ((w2.setCell ⟨wr.heap.size, 1, none⟩ (.int .u64 (0))).alloc o) wA.heap.size 33 11 u5 (PA.map loC) from own_below (own_setOther HO2.out HNE.out _) (bal o))
              have HBB := hid (fun (o : Obj) => show Below wA.heap.size wA ((w2.setCell ⟨wr.heap.size, 1, none⟩ (.int .u64 (0))).alloc o) from (bset HB2.out HWZ.out _).alloc (bset HB2.out HWZ.out _).size o)
              have HNR := hid (show Rk ((w2.setCell ⟨wr.heap.size, 1, none⟩ (.int .u64 (0))).alloc (.cells #[.int .i64 ino, .int .u64 (0), .int .u16 typ, .int .u64 entry, .int .u64 phoff, Value.slice ga sg.length gc, .slice na nn nc, .string (ba soname), .string (ba run), .slice sa sn sc, .slice ra rn rc] 33)) 11 (some ⟨w2.heap.size, 0, none⟩) 1 [loC ⟨ino, 0, typ, entry, phoff, ga, sg.length, gc, sg, na, nn, nc, soname, run, sa, sn, sc, ra, rn, rc⟩] from by
                have := row_rk (Row.new (w2.setCell ⟨wr.heap.size, 1, none⟩ (.int .u64 (0))) 33 (loC ⟨ino, 0, typ, entry, phoff, ga, sg.length, gc, sg, na, nn, nc, soname, run, sa, sn, sc, ra, rn, rc⟩)) (rfl : (loC ⟨ino, 0, typ, entry, phoff, ga, sg.length, gc, sg, na, nn, nc, soname, run, sa, sn, sc, ra, rn, rc⟩).length = 11)
                rw [World.size_setCell] at this
                exact this)
              have HONE := hid (loC_one [⟨ino, 0, typ, entry, phoff, ga, sg.length, gc, sg, na, nn, nc, soname, run, sa, sn, sc, ra, rn, rc⟩])
              go_wp2_with (at_builtin; go_must (refine wpList_appKg Try.underlying35 infoOb rfl (by decide) rfl _ _ rfl wA.heap.size u5 (PA.map loC) [loC ⟨ino, 0, typ, entry, phoff, ga, sg.length, gc, sg, na, nn, nc, soname, run, sa, sn, sc, ra, rn, rc⟩] rfl (some ⟨w2.heap.size, 0, none⟩) 1 1 rfl (HOA.out _) HNR.out HONE.out (fun h => by cases h) HNa.out HNb.out (HBB.out _).size ?_; intro v' w9 hown hgrow hb9; have HO9 := hid hown; have HB9 := hid ((HBB.out _).trans hb9); clear hown hgrow hb9))
              go_roundw
              case rel => exact ⟨k + 1, by omega, by go_num, by rw [HPE2.out], by rw [HPLT.out]; exact own_eq HO9.out (by simp), HB9.out⟩
              case measure => simp [intOf]; omega
            · have dt : (typ == 2) = false := by rw [beq_eq_false_iff_ne]; exact h2
              have h3 : typ = 3 := by omega
              rw [hpl1 h3] at HPLT
              have hfx := hfin3 h3
              have bl2 : lo ≤ 4294967296 := by omega
              clear hpl0 hpl1 hpl2 hk0 h2 HPE hrt hty hsp hfin hfin3 hr hlb h3 hfx
              go_wp2_with fail
              try rw [← hW1]
              clear hW1 x0 x1 x2 x3 x4 x5 x6 x7 x8 x9 x10 hbl
              obtain ⟨⟨x0, x1, x2, x3, x4, x5⟩, x6, x7, x8, x9, x10⟩ := HBX.out.eleven
              have hl1 := HBX.out.lt
              go_wp2_with fail
              refine (HSP.out).mono ?_
              rintro e' w2 ⟨rfl, hb2⟩
              have HB2 := hid (HB1.out.trans (hb2.mono HB1.out.size))
              have HX2 := hid (HBX.out.below hb2 HBX.out.lt)
              have HO2 := hid (own_below HO1.out hb2)
              clear hb2 x0 x1 x2 x3 x4 x5 x6 x7 x8 x9 x10 hl1 HSP HBX HO1
              obtain ⟨⟨x0, x1, x2, x3, x4, x5⟩, x6, x7, x8, x9, x10⟩ := HX2.out.eleven
              have hl1 := HX2.out.lt
              have f1 := HX2.out.frozen 1
              have HWZ := hid (show wA.heap.size ≤ wr.heap.size from HBA.out.size)
              have HOA := hid (fun (o : Obj) => show OwnK ((w2.setCell ⟨wr.heap.size, 1, none⟩ (.int .u64 (93824992231424 - lo))).alloc o) wA.heap.size 33 11 u5 (PA.map loC) from own_below (own_setOther HO2.out HNE.out _) (bal o))
              have HBB := hid (fun (o : Obj) => show Below wA.heap.size wA ((w2.setCell ⟨wr.heap.size, 1, none⟩ (.int .u64 (93824992231424 - lo))).alloc o) from (bset HB2.out HWZ.out _).alloc (bset HB2.out HWZ.out _).size o)
              have HNR := hid (show Rk ((w2.setCell ⟨wr.heap.size, 1, none⟩ (.int .u64 (93824992231424 - lo))).alloc (.cells #[.int .i64 ino, .int .u64 (93824992231424 - lo), .int .u16 typ, .int .u64 entry, .int .u64 phoff, Value.slice ga sg.length gc, .slice na nn nc, .string (ba soname), .string (ba run), .slice sa sn sc, .slice ra rn rc] 33)) 11 (some ⟨w2.heap.size, 0, none⟩) 1 [loC ⟨ino, 93824992231424 - lo, typ, entry, phoff, ga, sg.length, gc, sg, na, nn, nc, soname, run, sa, sn, sc, ra, rn, rc⟩] from by
                have := row_rk (Row.new (w2.setCell ⟨wr.heap.size, 1, none⟩ (.int .u64 (93824992231424 - lo))) 33 (loC ⟨ino, 93824992231424 - lo, typ, entry, phoff, ga, sg.length, gc, sg, na, nn, nc, soname, run, sa, sn, sc, ra, rn, rc⟩)) (rfl : (loC ⟨ino, 93824992231424 - lo, typ, entry, phoff, ga, sg.length, gc, sg, na, nn, nc, soname, run, sa, sn, sc, ra, rn, rc⟩).length = 11)
                rw [World.size_setCell] at this
                exact this)
              have HONE := hid (loC_one [⟨ino, 93824992231424 - lo, typ, entry, phoff, ga, sg.length, gc, sg, na, nn, nc, soname, run, sa, sn, sc, ra, rn, rc⟩])
              go_wp2_with (at_builtin; go_must (refine wpList_appKg Try.underlying35 infoOb rfl (by decide) rfl _ _ rfl wA.heap.size u5 (PA.map loC) [loC ⟨ino, 93824992231424 - lo, typ, entry, phoff, ga, sg.length, gc, sg, na, nn, nc, soname, run, sa, sn, sc, ra, rn, rc⟩] rfl (some ⟨w2.heap.size, 0, none⟩) 1 1 rfl (HOA.out _) HNR.out HONE.out (fun h => by cases h) HNa.out HNb.out (HBB.out _).size ?_; intro v' w9 hown hgrow hb9; have HO9 := hid hown; have HB9 := hid ((HBB.out _).trans hb9); clear hown hgrow hb9))
              go_roundw
              case rel => exact ⟨k + 1, by omega, by go_num, by rw [HPE2.out], by rw [HPLT.out]; exact own_eq HO9.out (by simp), HB9.out⟩
              case measure => simp [intOf]; omega
          · have dk : ((k : Int) == 0) = false := by rw [beq_eq_false_iff_ne]; omega
            have dkd : decide (k = 0) = false := decide_eq_false hk0
            have h3 : typ = 3 := by
              rcases hrt.2 with h | h
              · exact absurd h hk0
              · exact h
            rw [dkd, hpl2 h3] at HPLT HPE
            have HPE2 := hid (show plEnd (xs.take (k + 1)) 0 139637976727552 = LB - lo + hi + 4096 by rw [HPE.out, if_pos (by omega), HEX.out])
            have hfx := hfin3 h3
            have bl2 : lo ≤ 4294967296 := by omega
            have bh2 : hi ≤ 4294967296 := by omega
            clear hpl0 hpl1 hpl2 hk0 HPE hrt hty hsp hfin hfin3 hr hlb h3 hfx
            go_wp2_with fail
            try rw [← hW1]
            clear hW1 x0 x1 x2 x3 x4 x5 x6 x7 x8 x9 x10 hbl
            obtain ⟨⟨x0, x1, x2, x3, x4, x5⟩, x6, x7, x8, x9, x10⟩ := HBX.out.eleven
            have hl1 := HBX.out.lt
            go_wp2_with fail
            refine (HSP.out).mono ?_
            rintro e' w2 ⟨rfl, hb2⟩
            have HB2 := hid (HB1.out.trans (hb2.mono HB1.out.size))
            have HX2 := hid (HBX.out.below hb2 HBX.out.lt)
            have HO2 := hid (own_below HO1.out hb2)
            clear hb2 x0 x1 x2 x3 x4 x5 x6 x7 x8 x9 x10 hl1 HSP HBX HO1
            obtain ⟨⟨x0, x1, x2, x3, x4, x5⟩, x6, x7, x8, x9, x10⟩ := HX2.out.eleven
            have hl1 := HX2.out.lt
            have f1 := HX2.out.frozen 1
            have HWZ := hid (show wA.heap.size ≤ wr.heap.size from HBA.out.size)
            have HOA := hid (fun (o : Obj) => show OwnK ((w2.setCell ⟨wr.heap.size, 1, none⟩ (.int .u64 (LB - lo))).alloc o) wA.heap.size 33 11 u5 (PA.map loC) from own_below (own_setOther HO2.out HNE.out _) (bal o))
            have HBB := hid (fun (o : Obj) => show Below wA.heap.size wA ((w2.setCell ⟨wr.heap.size, 1, none⟩ (.int .u64 (LB - lo))).alloc o) from (bset HB2.out HWZ.out _).alloc (bset HB2.out HWZ.out _).size o)
            have HNR := hid (show Rk ((w2.setCell ⟨wr.heap.size, 1, none⟩ (.int .u64 (LB - lo))).alloc (.cells #[.int .i64 ino, .int .u64 (LB - lo), .int .u16 typ, .int .u64 entry, .int .u64 phoff, Value.slice ga sg.length gc, .slice na nn nc, .string (ba soname), .string (ba run), .slice sa sn sc, .slice ra rn rc] 33)) 11 (some ⟨w2.heap.size, 0, none⟩) 1 [loC ⟨ino, LB - lo, typ, entry, phoff, ga, sg.length, gc, sg, na, nn, nc, soname, run, sa, sn, sc, ra, rn, rc⟩] from by
              have := row_rk (Row.new (w2.setCell ⟨wr.heap.size, 1, none⟩ (.int .u64 (LB - lo))) 33 (loC ⟨ino, LB - lo, typ, entry, phoff, ga, sg.length, gc, sg, na, nn, nc, soname, run, sa, sn, sc, ra, rn, rc⟩)) (rfl : (loC ⟨ino, LB - lo, typ, entry, phoff, ga, sg.length, gc, sg, na, nn, nc, soname, run, sa, sn, sc, ra, rn, rc⟩).length = 11)
              rw [World.size_setCell] at this
              exact this)
            have HONE := hid (loC_one [⟨ino, LB - lo, typ, entry, phoff, ga, sg.length, gc, sg, na, nn, nc, soname, run, sa, sn, sc, ra, rn, rc⟩])
            go_wp2_with (at_builtin; go_must (refine wpList_appKg Try.underlying35 infoOb rfl (by decide) rfl _ _ rfl wA.heap.size u5 (PA.map loC) [loC ⟨ino, LB - lo, typ, entry, phoff, ga, sg.length, gc, sg, na, nn, nc, soname, run, sa, sn, sc, ra, rn, rc⟩] rfl (some ⟨w2.heap.size, 0, none⟩) 1 1 rfl (HOA.out _) HNR.out HONE.out (fun h => by cases h) HNa.out HNb.out (HBB.out _).size ?_; intro v' w9 hown hgrow hb9; have HO9 := hid hown; have HB9 := hid ((HBB.out _).trans hb9); clear hown hgrow hb9))
            go_roundw
            case rel => exact ⟨k + 1, by omega, by go_num, by rw [HPE2.out], by rw [HPLT.out]; exact own_eq HO9.out (by simp), HB9.out⟩
            case measure => simp [intOf]; omega
        · have d1 : decide ((k : Int) < (xs.length : Int)) = false := by simp; omega
          have d1n : decide (k < xs.length) = false := by simp; omega
          have hk2 : xs.take k = xs := List.take_of_length_le (by omega)
          rw [hk2] at HO
          rename World => wB
          have hab : Below wA.heap.size wA wB := HBA.out
          obtain ⟨a5, c5, hv5, hrk, _⟩ := own_rk HO.out (loC_len _) (by decide)
          rw [List.length_map] at hv5 hrk
          have HOWN := hid (own_from HO.out HB.out.size)
          have HBW := hid (HB.out.trans (HBA.out.mono HB.out.size))
          have HPL := hid (fun (i : Nat) (hi : i < (plAll xs 0 139637976727552).length) => (⟨(HPOK.out i hi).1.below' hab, (HPOK.out i hi).2.1, (HPOK.out i hi).2.2⟩ : LOk wB (plAll xs 0 139637976727552)[i] ∧ rightB (plAll xs 0 139637976727552)[i].ino (plAll xs 0 139637976727552)[i].typ (plAll xs 0 139637976727552)[i].sg = true ∧ liesB (plAll xs 0 139637976727552)[i].base (lds (plAll xs 0 139637976727552)[i].sg) = true))
          have hlo : (plAll xs 0 139637976727552).length ≤ 8 := by rw [plAll_len]; exact h8'
          clear hk2 hlt hk hab HPOK HLIB HRTO HX HXr HTO
          generalize plAll xs 0 139637976727552 = out at *
          have HOL := hid (show LOs wB a5 out.length out from ⟨hrk, fun y hy => by
            obtain ⟨i, hi, rfl⟩ := List.mem_iff_getElem.1 hy
            exact (HPL.out i hi).1⟩)
          subst hv5
          clear hrk HO
          go_wp2_with fail
          go_loopw [11] (fun i wr => ∃ k : Nat, k ≤ out.length ∧ i = .int .i64 k ∧ (∀ j, j < k → hitE out j = false) ∧ Below wB.heap.size wB wr) (fun i _ => out.length - (intOf i).toNat)
          case atStart => exact ⟨0, Nat.zero_le _, rfl, fun j hj => by omega, Below.refl _ _⟩
          case round =>
            obtain ⟨i, hi, rfl, hno, hbB⟩ := hrel
            have HN := hid hno
            have HBB := hid hbB
            clear hno hbB
            by_cases hlt : i < out.length
            · have d2 : decide ((i : Int) < (out.length : Int)) = true := by simp; omega
              have d2n : decide (i < out.length) = true := by simp; omega
              have hOr := HOL.out.below' HBB.out
              obtain ⟨b, off, rfl, ⟨x0, x1, x2, x3, x4, x5⟩, x6, x7, x8, x9, x10⟩ := hOr.cells hlt
              have hbl := World.block_lt_of_cell? wr _ x0
              have hpl := HPL.out i hlt
              have HLI := hid (rlies_any out[i] wr (hOr.ok _ (List.getElem_mem hlt)) hpl.2.1)
              rw [rlies_ex hpl.2.2] at HLI
              have HST := hid (fun wx => rstacked_any (exOf out[i]) wx)
              have HHS := hid (fun (h : meetB (exOf out[i]) stackX = true) => hit_yes hlt (hitE_stack hlt h))
              have HHM := hid (fun (k : Nat) (hk : k < i) (h : meetB (exOf out[i]) (exOf (out[k]'(by omega))) = true) => hit_yes hlt (hitE_meet hlt hk h))
              have HNX := hid (fun (hm : meetB (exOf out[i]) stackX = false) (hk : ∀ k (hk : k < i), meetB (exOf out[i]) (exOf (out[k]'(by omega))) = false) => show ∀ j, j < i + 1 → hitE out j = false from fun j hj => by
                by_cases e : j = i
                · subst e; exact hitE_none hlt hm hk
                · exact HN.out j (by omega))
              have HRM := hid (fun (z : EX) wx => rmeet_any (exOf out[i]) z wx)
              clear hOr hpl
              generalize exOf out[i] = E at *
              generalize out[i] = y at *
              unfold loV at HLI
              obtain ⟨e1, e2⟩ := E
              dsimp only at HLI HST HRM
              go_wp2_with fail
              refine (HLI.out).mono ?_
              rintro e' w2 ⟨rfl, hb2⟩
              have HB2 := hid (bthen HBB.out hb2)
              clear hb2 x0 x1 x2 x3 x4 x5 x6 x7 x8 x9 x10 hbl HLI
              go_wp2_with fail
              refine (HST.out _).mono ?_
              rintro e' wx ⟨rfl, rfl⟩
              cases hst : meetB (e1, e2) stackX
              · have HNX2 := hid (HNX.out hst)
                clear HNX hst HHS HST
                go_wp2_with fail
                go_loopw [15] (fun v wr => ∃ k : Nat, k ≤ i ∧ v = .int .i64 k ∧ (∀ k' (h : k' < k) (h2 : k' < out.length), meetB (e1, e2) (exOf out[k']) = false) ∧ Below wB.heap.size wB wr) (fun v _ => i - (intOf v).toNat)
                case atStart => exact ⟨0, Nat.zero_le _, rfl, fun j hj => by omega, HB2.out⟩
                case round =>
                  obtain ⟨k, hk, rfl, hnk, hbB⟩ := hrel
                  have HNK := hid hnk
                  have HBC := hid hbB
                  clear hnk hbB
                  by_cases hki : k < i
                  · have d3 : decide ((k : Int) < (i : Int)) = true := by simp; omega
                    have d3n : decide (k < i) = true := by simp; omega
                    have hko : k < out.length := by omega
                    have hOr := HOL.out.below' HBC.out
                    obtain ⟨b9, off9, ea, ⟨x0, x1, x2, x3, x4, x5⟩, x6, x7, x8, x9, x10⟩ := hOr.cells hko
                    cases ea
                    have hbl := World.block_lt_of_cell? wr _ x0
                    have hpl := HPL.out k hko
                    have HLI := hid (rlies_any out[k] wr (hOr.ok _ (List.getElem_mem hko)) hpl.2.1)
                    rw [rlies_ex hpl.2.2] at HLI
                    have HRM2 := hid (fun wx => HRM.out (exOf out[k]) wx)
                    have HHM2 := hid (HHM.out k hki)
                    have HSTEP := hid (fun (h : meetB (e1, e2) (exOf out[k]) = false) => show ∀ k' (h : k' < k + 1) (h2 : k' < out.length), meetB (e1, e2) (exOf out[k']) = false from fun k' hk' h2 => by
                      by_cases e : k' = k
                      · subst e; exact h
                      · exact HNK.out k' (by omega) h2)
                    clear hOr hpl
                    generalize exOf out[k] = F at *
                    generalize out[k] = z at *
                    unfold loV at HLI
                    obtain ⟨f1, f2⟩ := F
                    dsimp only at HLI HRM2
                    go_wp2_with fail
                    refine (HLI.out).mono ?_
                    rintro e' w3 ⟨rfl, hb2⟩
                    have HB3 := hid (bthen HBC.out hb2)
                    clear hb2 x0 x1 x2 x3 x4 x5 x6 x7 x8 x9 x10 hbl HLI
                    go_wp2_with fail
                    refine (HRM2.out _).mono ?_
                    rintro e' wx ⟨rfl, rfl⟩
                    cases hmt : meetB (e1, e2) (f1, f2)
                    · have HS2 := hid (HSTEP.out hmt)
                      clear hmt HSTEP HHM2
                      go_wp2_with fail
                      go_roundw
                      case rel => exact ⟨k + 1, by omega, by go_num, HS2.out, HB3.out⟩
                      case measure => simp [intOf]; omega
                    · have HF := hid (HHM2.out hmt)
                      clear hmt HSTEP HHM2
                      go_wp2_with fail
                      go_ret2
                      exact HHIT.out _ HRL.out HF.out (HBW.out.trans (HB3.out.mono HBW.out.size))
                  · have d3 : decide ((k : Int) < (i : Int)) = false := by simp; omega
                    have d3n : decide (k < i) = false := by simp; omega
                    have HS2 := hid (HNX2.out (fun k' hk' => HNK.out k' (by omega) (by omega)))
                    clear hki hk
                    go_wp2_with fail
                    go_roundw
                    case rel => exact ⟨i + 1, by omega, by go_num, HS2.out, HBC.out⟩
                    case measure => simp [intOf]; omega
              · have HF := hid (HHS.out hst)
                clear hst HNX HHS HST
                go_wp2_with fail
                go_ret2
                exact HHIT.out _ HRL.out HF.out (HBW.out.trans (HB2.out.mono HBW.out.size))
            · have d2 : decide ((i : Int) < (out.length : Int)) = false := by simp; omega
              have d2n : decide (i < out.length) = false := by simp; omega
              obtain rfl : i = out.length := by omega
              go_wp2_with fail
              go_ret2
              exact HOUT.out _ _ HRL.out (hit_no HN.out) (HBW.out.trans (HBB.out.mono HBW.out.size)) (own_below HOWN.out HBB.out)
end Go.Proofs.Ytkpopdkkobelaaa
