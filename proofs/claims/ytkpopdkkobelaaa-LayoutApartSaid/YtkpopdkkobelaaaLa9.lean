
/- layout.Bases. -/
import Derived.Test.YtkpopdkkobelaaaLa8
import Derived.Test.YtkpopdkkobelaaaLa6
import Derived.Deep.RegionHeld3
import Derived.Deep.DeepMust
namespace Go.Proofs.Ytkpopdkkobelaaa
open Go.RowKit Go.Sort Go.Shelf
attribute [local go_sem] Oper.semAt_some

theorem Row.twoL {w : World} {g : Nat} {E : TypeId} {a b : Value} (h : Row w g E [a, b]) : w.cell? ⟨g, 0, none⟩ = some a ∧ w.cell? ⟨g, 1, none⟩ = some b := ⟨h.cell 0 (by simp), h.cell 1 (by simp)⟩
def exOf (x : LO) : EX := (x.base + lowS (lds x.sg), x.base + highS (lds x.sg))
def basGo : List LO → Nat → Int → List EX → List LO → Option (List LO)
  | [], _, _, _, out => some out
  | x :: r, i, lib, tk, out => if (stackX :: tk).any (meetB (exOf (placedL x (decide (i = 0)) lib))) = true then none else basGo r (i + 1) (if 0 < i then (exOf (placedL x (decide (i = 0)) lib)).2 + 4096 else lib) (tk ++ [exOf (placedL x (decide (i = 0)) lib)]) (out ++ [placedL x (decide (i = 0)) lib])
theorem basGo_hit {x : LO} {r : List LO} {i : Nat} {lib : Int} {tk : List EX} {out : List LO} {y : LO} (hy : placedL x (decide (i = 0)) lib = y) (h : (stackX :: tk).any (meetB (exOf y)) = true) : basGo (x :: r) i lib tk out = none := by
  subst hy; unfold basGo; rw [if_pos h]
theorem basGo_go {x : LO} {r : List LO} {i : Nat} {lib : Int} {tk : List EX} {out : List LO} {y : LO} (hy : placedL x (decide (i = 0)) lib = y) (h : (stackX :: tk).any (meetB (exOf y)) = false) : basGo (x :: r) i lib tk out = basGo r (i + 1) (if 0 < i then (exOf y).2 + 4096 else lib) (tk ++ [exOf y]) (out ++ [y]) := by
  subst hy; rw [basGo, if_neg (by rw [h]; simp)]
/-- A placed object lies below the end of the users' addresses. -/
theorem placed_ok {w : World} {x : LO} (hx : LOk w x) (hr : rightB x.ino x.typ x.sg = true) (m : Bool) (lib : Int) (hm : m = false → x.typ = 3) (h0 : 139637976727552 ≤ lib) (h1 : lib ≤ 139637976727552 + 8 * 4294971392) :
    LOk w (placedL x m lib) ∧ (placedL x m lib).sg = x.sg ∧ rightB (placedL x m lib).ino (placedL x m lib).typ (placedL x m lib).sg = true ∧ liesB (placedL x m lib).base (lds x.sg) = true ∧ 0 ≤ (exOf (placedL x m lib)).2 ∧ (m = false → lib ≤ (exOf (placedL x m lib)).2 ∧ (exOf (placedL x m lib)).2 ≤ lib + 4294967296) := by
  obtain ⟨s0, s1, s2, s3, s4⟩ := hx.span hr
  have hf := finOf_le x.typ
  have key : ∀ b : Int, 0 ≤ b → b ≤ 18446744073709551615 → LOk w { x with base := b } := fun b k0 k1 => ⟨hx.segs, hx.ok, hx.gn, hx.nil, k0, k1⟩
  unfold placedL
  cases m
  · have h3 := hm rfl
    have hfin : finOf x.typ = 4294967296 := by rw [h3]; rfl
    rw [if_pos rfl]
    have hw : w64 (lib - lowS (lds x.sg)) = lib - lowS (lds x.sg) := w64_in (by omega) (by omega)
    unfold atL exOf
    dsimp only
    rw [hw]
    refine ⟨key _ (by omega) (by omega), rfl, hr, ?_, by omega, fun _ => ⟨by omega, by omega⟩⟩
    unfold liesB
    exact decide_eq_true (by omega)
  · rw [if_neg (by simp)]
    by_cases h3 : x.typ = 3
    · have hfin : finOf x.typ = 4294967296 := by rw [h3]; rfl
      rw [if_pos h3]
      have hw : w64 (93824992231424 - lowS (lds x.sg)) = 93824992231424 - lowS (lds x.sg) := w64_in (by omega) (by omega)
      unfold atL exOf
      dsimp only
      rw [hw]
      refine ⟨key _ (by omega) (by omega), rfl, hr, ?_, by omega, fun h => by cases h⟩
      unfold liesB
      exact decide_eq_true (by omega)
    · rw [if_neg h3]
      unfold exOf
      dsimp only
      refine ⟨key _ (by omega) (by omega), rfl, hr, ?_, by omega, fun h => by cases h⟩
      unfold liesB
      exact decide_eq_true (by omega)
theorem infoOb : (Try.prog.info? 33).map (fun i => (i.zero, i.size, i.bytes)) = some (some (.agg #[.int .i64 0, .int .u64 0, .int .u16 0, .int .u64 0, .int .u64 0, .slice none 0 0, .slice none 0 0, .string ByteArray.empty, .string ByteArray.empty, .slice none 0 0, .slice none 0 0]), 11, 168) := by kernel_rfl
theorem loC_len (l : List LO) : ∀ r ∈ l.map loC, r.length = 11 := by
  intro r hr
  obtain ⟨x, _, rfl⟩ := List.mem_map.1 hr
  rfl
theorem loC_one (l : List LO) : ∀ r ∈ l.map loC, ∀ u ∈ r, u.oneCell' = true := by
  intro r hr u hu
  obtain ⟨x, _, rfl⟩ := List.mem_map.1 hr
  simp only [loC, List.mem_cons, List.not_mem_nil, or_false] at hu
  rcases hu with rfl | rfl | rfl | rfl | rfl | rfl | rfl | rfl | rfl | rfl | rfl <;> rfl
def BasPost (w : World) (xs : List LO) (e : Ending) (w' : World) : Prop := Below w.heap.size w w' ∧ if rightL xs = true then (match basGo xs 0 139637976727552 [] [] with
  | none => e = .returned (.tuple #[.slice none 0 0, .int .i64 13])
  | some out => ∃ v, e = .returned (.tuple #[v, .int .i64 0]) ∧ OwnK w' w.heap.size 33 11 v (out.map loC)) else e = .returned (.tuple #[.slice none 0 0, .int .i64 1])
theorem bas_no {w w' : World} {xs : List LO} (h : rightL xs = false) (hb : Below w.heap.size w w') : BasPost w xs (.returned (.tuple #[.slice none 0 0, .int .i64 1])) w' := ⟨hb, by rw [h]; rfl⟩
theorem bas_hit {w w' : World} {xs : List LO} (h : rightL xs = true) (hg : basGo xs 0 139637976727552 [] [] = none) (hb : Below w.heap.size w w') : BasPost w xs (.returned (.tuple #[.slice none 0 0, .int .i64 13])) w' := ⟨hb, by rw [if_pos h, hg]⟩
theorem bas_ok {w w' : World} {xs out : List LO} {v : Value} (h : rightL xs = true) (hg : basGo xs 0 139637976727552 [] [] = some out) (hb : Below w.heap.size w w') (ho : OwnK w' w.heap.size 33 11 v (out.map loC)) : BasPost w xs (.returned (.tuple #[v, .int .i64 0])) w' := ⟨hb, by rw [if_pos h, hg]; exact ⟨v, rfl, ho⟩⟩
theorem rightL_of {xs : List LO} (h : rightL xs = true) : 0 < xs.length ∧ xs.length ≤ 8 ∧ RtTo xs xs.length := by
  unfold rightL at h
  rw [Bool.and_eq_true, decide_eq_true_eq, List.all_eq_true] at h
  exact ⟨h.1.1, h.1.2, fun i hi => h.2 i (List.mem_range.2 hi)⟩
set_option maxRecDepth 100000 in
set_option maxHeartbeats 16000000 in
theorem bases_any (a : Option Addr) (c : Nat) (xs : List LO) (w : World) (hX : LOs w a xs.length xs) (hl : xs.length ≤ 1000000000000) :
    Calls Try.prog 15 #[.slice a xs.length c] w (BasPost w xs) := by
  have HRL := hid (rightList_any a c xs w hX hl)
  have HX := hid hX
  clear hX
  cases hr : rightL xs
  · rw [hr] at HRL
    have HR := hid hr
    clear hr
    go_enter Try.func15, Try.ntmps15
    go_wp2_with fail
    refine (HRL.out).mono ?_
    rintro e' w1 ⟨rfl, hb⟩
    have HB := hid hb
    clear hb
    go_wp2_with fail
    go_ret2
    exact bas_no HR.out HB.out
  rw [hr] at HRL
  have HR := hid hr
  have hx8 := (rightL_of hr).2.1
  have HRT := hid (rightL_of hr).2.2
  clear hr
  go_enter Try.func15, Try.ntmps15
  go_wp2_with fail
  refine (HRL.out).mono ?_
  rintro e' w1 ⟨rfl, hb⟩
  have HB1 := hid hb
  clear hb
  go_wp2_with fail
  go_loopw [4, 5, 6, 16] (fun o t lb i wr => ∃ (k : Nat) (ov tv : Value) (lib : Int) (tk : List EX) (out : List LO), ov = o ∧ tv = t ∧ k ≤ xs.length ∧ i = .int .i64 k ∧ lb = .int .u64 lib ∧ OwnK wr w.heap.size 33 11 ov (out.map loC) ∧ OwnK wr w.heap.size 73 2 tv (tk.map exC) ∧ Below w.heap.size w wr ∧ out.length = k ∧ tk.length = k ∧ 139637976727552 ≤ lib ∧ lib ≤ 139637976727552 + k * 4294971392 ∧ basGo (xs.drop k) k lib tk out = basGo xs 0 139637976727552 [] []) (fun _ _ _ i _ => xs.length - (intOf i).toNat)
  case atStart => exact ⟨0, _, _, _, [], [], rfl, rfl, Nat.zero_le _, rfl, rfl, ⟨rfl, .inl ⟨rfl, rfl⟩⟩, ⟨rfl, .inl ⟨rfl, rfl⟩⟩, HB1.out, rfl, rfl, by omega, by omega, rfl⟩
  case round =>
    obtain ⟨k, ov, tv, lib, tk, out, rfl, rfl, hk, rfl, rfl, hown, htk, hb, hol, htl, hlb0, hlb1, hgo⟩ := hrel
    have HOW := hid hown
    have HB := hid hb
    have HGO := hid hgo
    by_cases hlt : k < xs.length
    · have d1 : decide ((k : Int) < (xs.length : Int)) = true := by simp; omega
      have d1n : decide (k < xs.length) = true := by simp; omega
      obtain ⟨oa, oc, hov, _⟩ := own_rk hown (loC_len out) (by decide)
      obtain ⟨ta, tc, htv, htr, htn, _⟩ := own_rk htk (exC_len tk) (by decide)
      rw [List.length_map, hol] at hov
      rw [List.length_map, htl] at htv
      rw [List.length_map, htl] at htr
      subst hov htv
      have HTK := hid htr
      have HTN := hid htn
      have HOT := hid htk
      have hXr := HX.out.below' HB.out
      obtain ⟨b, off, rfl, ⟨x0, x1, x2, x3, x4, x5⟩, x6, x7, x8, x9, x10⟩ := hXr.cells hlt
      have hbl := World.block_lt_of_cell? wr _ x0
      have hLO := hXr.ok _ (List.getElem_mem hlt)
      have hrt := HRT.out k hlt
      rw [getD_lo hlt] at hrt
      have HDR := hid (show xs.drop k = xs[k] :: xs.drop (k + 1) from List.drop_eq_getElem_cons hlt)
      clear hXr hown htk htr htn hb hgo
      generalize xs[k] = x at *
      have hr1 : rightB x.ino x.typ x.sg = true := by
        unfold rtAt rtO at hrt
        rw [Bool.and_eq_true] at hrt
        exact hrt.1
      have hm3 : decide (k = 0) = false → x.typ = 3 := by
        intro h
        unfold rtAt at hrt
        rw [Bool.and_eq_true, h] at hrt
        simpa using hrt.2
      obtain ⟨m, hm⟩ : ∃ m, m = decide (k = 0) := ⟨_, rfl⟩
      have dk : ((k : Int) == 0) = m := by
        rw [hm]
        by_cases e : k = 0
        · subst e; rfl
        · rw [decide_eq_false e, beq_eq_false_iff_ne]; omega
      rw [← hm] at hm3
      obtain ⟨q1, q2, q3, q4, q5, q6⟩ := placed_ok hLO hr1 m lib hm3 hlb0 (by omega)
      have HPL := hid (fun (o : Obj) => placed_any x m lib (wr.alloc o) (hLO.below' (bal o)) hr1)
      obtain ⟨y, hy⟩ : ∃ y, placedL x m lib = y := ⟨_, rfl⟩
      have HY := hid (show placedL x (decide (k = 0)) lib = y by rw [← hm]; exact hy)
      rw [hy] at q1 q2 q3 q4 q5 q6 HPL
      have HLY := hid q1
      have HRY := hid q3
      obtain ⟨e1, e2, he⟩ : ∃ e1 e2, exOf y = (e1, e2) := ⟨_, _, rfl⟩
      have HE := hid he
      have HLV := hid (show liesV y = .tuple #[.agg #[.int .u64 e1, .int .u64 e2], .bool true] by
        unfold liesV
        rw [q2, if_pos q4, ← q2]
        unfold exOf at he
        cases he
        rfl)
      rw [he] at q5 q6
      have HM := hid hm
      have hwl : m = false → IntKind.u64.wrap (e2 + 4096) = e2 + 4096 := fun h => by
        have := q6 h
        rw [IntKind.wrap_u64]
        omega
      have HWL := hid hwl
      have HQ5 := hid q5
      have HQ6 := hid q6
      have HLB := hid (show 139637976727552 ≤ lib ∧ lib ≤ 139637976727552 + k * 4294971392 from ⟨hlb0, hlb1⟩)
      clear hrt hLO hr1 hm3 hy he q1 q2 q3 q4 q5 q6 hwl hm hlb0 hlb1
      have HBA := hid (fun o => HB.out.alloc HB.out.size o)
      have HRN := hid (Row.new wr 33 (loC x))
      unfold loV at HPL
      go_wp2_with fail
      refine (HPL.out _).mono ?_
      rintro e' w2 ⟨rfl, hb⟩
      have HB2 := hid (bthen (HBA.out _) hb)
      have HW2 := hid (show Below wr.heap.size wr w2 from bthen (bal _) hb)
      have HX2 := hid (show Row w2 wr.heap.size 33 [_, _, _, _, _, _, _, _, _, _, _] from HRN.out.below hb HRN.out.lt)
      clear hb x0 x1 x2 x3 x4 x5 x6 x7 x8 x9 x10 hbl
      obtain ⟨⟨x0, x1, x2, x3, x4, x5⟩, x6, x7, x8, x9, x10⟩ := HX2.out.eleven
      have hbl := HX2.out.lt
      have g0 := HX2.out.frozen 0
      have g1 := HX2.out.frozen 1
      have g2 := HX2.out.frozen 2
      have g3 := HX2.out.frozen 3
      have g4 := HX2.out.frozen 4
      have g5 := HX2.out.frozen 5
      have g6 := HX2.out.frozen 6
      have g7 := HX2.out.frozen 7
      have g8 := HX2.out.frozen 8
      have g9 := HX2.out.frozen 9
      have g10 := HX2.out.frozen 10
      go_wp2_with fail
      have HF := (((((((((((HX2.out).set 0 (.int .i64 y.ino)).set 1 (.int .u64 y.base)).set 2 (.int .u16 y.typ)).set 3 (.int .u64 y.entry)).set 4 (.int .u64 y.phoff)).set 5 (Value.slice y.ga y.gn y.gc)).set 6 (.slice y.na y.nn y.nc)).set 7 (.string (ba y.soname))).set 8 (.string (ba y.run))).set 9 (.slice y.sa y.sn y.sc)).set 10 (.slice y.ra y.rn y.rc)
      simp only [List.set_cons_zero, List.set_cons_succ] at HF
      obtain ⟨W3, hR3, hB3, hW3⟩ : ∃ W3, Row W3 wr.heap.size 33 (loC y) ∧ (Below wr.heap.size wr W3 ∧ Below w.heap.size w W3) ∧ _ = W3 := ⟨_, HF, ⟨by (iterate 11 (with_reducible refine bset ?_ (by simp) _)); exact HW2.out, by (iterate 11 (with_reducible refine bset ?_ (by exact HB.out.size) _)); exact HB2.out⟩, rfl⟩
      rw [hW3]
      clear hW3 HF x0 x1 x2 x3 x4 x5 x6 x7 x8 x9 x10 hbl g0 g1 g2 g3 g4 g5 g6 g7 g8 g9 g10
      have HR3 := hid hR3
      have HB3 := hid hB3.2
      have HW3 := hid hB3.1
      have HLI := hid (lies_any y W3 (HLY.out.below' hB3.1) HRY.out)
      rw [HLV.out] at HLI
      unfold loV at HLI
      clear hR3 hB3
      obtain ⟨⟨x0, x1, x2, x3, x4, x5⟩, x6, x7, x8, x9, x10⟩ := (show Row W3 wr.heap.size 33 [_, _, _, _, _, _, _, _, _, _, _] from HR3.out).eleven
      have hbl := HR3.out.lt
      go_wp2_with fail
      refine (HLI.out).mono ?_
      rintro e' w4 ⟨rfl, hb⟩
      obtain ⟨W5, hW5⟩ : ∃ W5, W5 = w4.alloc (.cells #[.int .u64 e1, .int .u64 e2] 73) := ⟨_, rfl⟩
      have hb4 : Below W3.heap.size W3 W5 := by rw [hW5]; exact hb.alloc hb.size _
      have HB5 := hid (show Below w.heap.size w W5 from bthen HB3.out hb4)
      have HW5 := hid (show Below wr.heap.size wr W5 from bthen HW3.out hb4)
      have HR5 := hid (show Row W5 wr.heap.size 33 (loC y) from HR3.out.below hb4 HR3.out.lt)
      have HE5 := hid (show Row W5 w4.heap.size 73 [.int .u64 e1, .int .u64 e2] by rw [hW5]; exact Row.new _ _ _)
      clear hb hb4 x0 x1 x2 x3 x4 x5 x6 x7 x8 x9 x10 hbl HLI
      go_wp2_with fail
      rw [← hW5]
      clear hW5
      generalize w4.heap.size = ge at *
      clear w4
      have HMO := hid (fun (wz : World) (hs : St W5 wz) => show Calls Try.prog 32 #[.slice ta k tc] wz _ from by
        have h := meetsOne_any ta tc tk wz (show Rk wz 2 ta tk.length (tk.map exC) by rw [htl]; exact (HTK.out.below' HW5.out).below' hs) HTN.out (by omega)
        rw [htl] at h
        exact h)
      have HM1 := hid (fun (wz : World) (g : Nat) (a' : Option Addr) (c' : Nat) (hg : Row wz g 70 [.slice a' (stackX :: tk).length c']) (hk : Rk wz 2 a' (stackX :: tk).length ((stackX :: tk).map exC)) => meetsOne1_any (e1, e2) g a' c' (stackX :: tk) wz hg hk (by rw [List.length_cons]; omega))
      unfold exV at HM1
      dsimp only at HM1
      obtain ⟨bb, hbb⟩ : ∃ bb, (stackX :: tk).any (meetB (e1, e2)) = bb := ⟨_, rfl⟩
      rw [hbb] at HM1
      have HBB := hid hbb
      clear hbb
      have zz0 : ∀ wz, St W5 wz → wz.cell? ⟨ge, 0, none⟩ = some (.int .u64 e1) := fun _ => St.cell (HE5.out.cell 0 (by simp))
      have zz1 : ∀ wz, St W5 wz → wz.cell? ⟨ge, 1, none⟩ = some (.int .u64 e2) := fun _ => St.cell (HE5.out.cell 1 (by simp))
      have hltz : ∀ wz, St W5 wz → ge < wz.heap.size := fun wz hs => Nat.lt_of_lt_of_le HE5.out.lt (Below.size hs)
      have HOL := hid hol
      have HTL := hid htl
      clear hol htl
      go_region_held3 (St W5) (first | exact St.drew _ | exact St.step (by assumption) hbx | assumption) (first | (go_at_call 32; (with_reducible refine ((HMO.out _ (by assumption)).mono ?_)); rintro e' wx ⟨gg, aa, cc, rfl, hgr, hgk, hbx⟩; have HGR := hid hgr; have HGK := hid hgk; have HS11 : Hid (St W5 wx) := hid (St.step (by assumption) hbx); clear hgr hgk) | (go_at_call 45; (with_reducible refine ((HM1.out _ _ _ _ HGR.out HGK.out).mono ?_)); rintro e' wy ⟨rfl, hbx⟩; have HS12 : Hid (St W5 wy) := hid (St.step HS11.out hbx)))
      have HBY := hid (show Below w.heap.size w wy from bthen HB5.out HS12.out)
      have HWY := hid (show Below wr.heap.size wr wy from bthen HW5.out HS12.out)
      have HRYY := hid (HR5.out.below HS12.out HR5.out.lt)
      have HEY := hid (HE5.out.below HS12.out HE5.out.lt)
      clear zz0 zz1 hltz HMO HM1 HS11 hbx
      obtain ⟨y0, y1⟩ := HEY.out.twoL
      have hge := HEY.out.lt
      cases bb
      case true =>
        have HF := hid (show basGo xs 0 139637976727552 [] [] = none by
          rw [← HGO.out, HDR.out]
          exact basGo_hit HY.out (by rw [HE.out]; exact HBB.out))
        go_wp2_with fail
        go_ret2
        exact bas_hit HR.out HF.out HBY.out
      have HGN0 := hid (show basGo (xs.drop (k + 1)) (k + 1) (if 0 < k then e2 + 4096 else lib) (tk ++ [(e1, e2)]) (out ++ [y]) = basGo xs 0 139637976727552 [] [] by
        rw [← HGO.out, HDR.out, basGo_go HY.out (by rw [HE.out]; exact HBB.out), HE.out])
      have HD1 := hid (show 33 ≠ 73 by decide)
      have HD2 := hid (show 73 ≠ 33 by decide)
      have HTA := hid (fun o => own_below (own_below HOT.out HWY.out) (@bal wy o))
      have HOA := hid (fun o => own_below (own_below HOW.out HWY.out) (@bal wy o))
      have HRYA := hid (fun o => HRYY.out.alloc o)
      have HRA := hid (row_rk (Row.new wy 73 (exC (e1, e2))) (rfl : (exC (e1, e2)).length = 2))
      have HXO := hid (exC_one [(e1, e2)])
      have HYO := hid (loC_one [y])
      have LEN11 := hid (rfl : (loC y).length = 11)
      have HN1 := hid (show ((tk.map exC).length + 1) * 16 ≤ 140737488355328 by rw [List.length_map, HTL.out]; omega)
      have HN2 := hid (show (tk.map exC).length + 1 ≤ maxLen by rw [List.length_map, HTL.out]; unfold maxLen; omega)
      have HN3 := hid (show ((out.map loC).length + 1) * 168 ≤ 140737488355328 by rw [List.length_map, HOL.out]; omega)
      have HN4 := hid (show (out.map loC).length + 1 ≤ maxLen by rw [List.length_map, HOL.out]; unfold maxLen; omega)
      have HBYA := hid (fun o => HBY.out.alloc HBY.out.size o)
      obtain ⟨RTK, hRT⟩ : ∃ R, R = tk.map exC := ⟨_, rfl⟩
      obtain ⟨ROUT, hRO⟩ : ∃ R, R = out.map loC := ⟨_, rfl⟩
      have HRT2 := hid (show RTK ++ [exC (e1, e2)] = (tk ++ [(e1, e2)]).map exC by rw [hRT]; simp)
      have HRO := hid (show ROUT ++ [loC y] = (out ++ [y]).map loC by rw [hRO]; simp)
      rw [← hRT] at HTA HN1 HN2
      rw [← hRO] at HOA HN3 HN4
      clear hRT hRO
      have hlb := HLB.out
      cases m
      · have hk0 : ¬ k = 0 := fun e => by have := HM.out; rw [e] at this; cases this
        have hq := HQ6.out rfl
        have hwl := HWL.out rfl
        have d0 : decide ((0 : Int) < (k : Int)) = true := by simp; omega
        have d0n : decide (0 < k) = true := by simp; omega
        have HL1 := hid (show 139637976727552 ≤ e2 + 4096 by omega)
        have HL2 := hid (show e2 + 4096 ≤ 139637976727552 + ((k + 1 : Nat) : Int) * 4294971392 by omega)
        have HGN := hid (show basGo (xs.drop (k + 1)) (k + 1) (e2 + 4096) (tk ++ [(e1, e2)]) (out ++ [y]) = basGo xs 0 139637976727552 [] [] by have := HGN0.out; rwa [if_pos (by omega)] at this)
        clear hq hlb hk0
        go_wp2_with (first | (at_builtin; refine wpList_appKg Try.underlying70 infoEx rfl (by decide) rfl _ _ rfl w.heap.size (.slice ta k tc) RTK [exC (e1, e2)] rfl (some ⟨wy.heap.size, 0, none⟩) 1 1 rfl (HTA.out _) HRA.out HXO.out (fun h => by cases h) HN1.out HN2.out (HBYA.out _).size ?_; intro tv' w6 hown6 hgrow6 hb6; have HT6 := hid hown6; have HB6 := hid ((HBYA.out _).trans hb6); have HO6 := hid (own_other (HOA.out _) (HTA.out _) hgrow6 HD1.out); have HR6 := hid (row_other (HRYA.out _) (HTA.out _) hgrow6 HD1.out); obtain ⟨⟨z0, z1, z2, z3, z4, z5⟩, z6, z7, z8, z9, z10⟩ := Row.eleven HR6.out; have hlz := HR6.out.lt; have HO6A := hid (fun o => own_below HO6.out (@bal w6 o)); have HT6A := hid (fun o => own_below HT6.out (@bal w6 o)); have HR6A := hid (row_rk (Row.new w6 33 (loC y)) LEN11.out); have HB6A := hid (fun o => HB6.out.alloc HB6.out.size o); clear hown6 hgrow6 hb6) | (at_builtin; refine wpList_appKg Try.underlying35 infoOb rfl (by decide) rfl _ _ rfl w.heap.size (.slice oa k oc) ROUT [loC y] rfl (some ⟨w6.heap.size, 0, none⟩) 1 1 rfl (HO6A.out _) HR6A.out HYO.out (fun h => by cases h) HN3.out HN4.out (HB6A.out _).size ?_; intro ov' w7 hown7 hgrow7 hb7; have HO7 := hid (own_eq hown7 HRO.out); have HB7 := hid ((HB6A.out _).trans hb7); have HT7 := hid (own_eq (own_other (HT6A.out _) (HO6A.out _) hgrow7 HD2.out) HRT2.out); clear hown7 hgrow7 hb7))
        go_roundw
        case rel => exact ⟨k + 1, _, _, e2 + 4096, tk ++ [(e1, e2)], out ++ [y], rfl, rfl, by omega, by go_num, rfl, own_ext HO7.out (by simp) (by simp), own_ext HT7.out (by simp) (by simp), HB7.out, by simp [HOL.out], by simp [HTL.out], HL1.out, HL2.out, HGN.out⟩
        case measure => simp [intOf]; omega
      · have hk0 : k = 0 := by have := HM.out; exact of_decide_eq_true this.symm
        have d0 : decide ((0 : Int) < (k : Int)) = false := by simp; omega
        have d0n : decide (0 < k) = false := by simp; omega
        have HL1 := hid (show 139637976727552 ≤ lib by omega)
        have HL2 := hid (show lib ≤ 139637976727552 + ((k + 1 : Nat) : Int) * 4294971392 by omega)
        have HGN := hid (show basGo (xs.drop (k + 1)) (k + 1) lib (tk ++ [(e1, e2)]) (out ++ [y]) = basGo xs 0 139637976727552 [] [] by have := HGN0.out; rwa [if_neg (by omega)] at this)
        clear hlb hk0
        go_wp2_with (first | (at_builtin; refine wpList_appKg Try.underlying70 infoEx rfl (by decide) rfl _ _ rfl w.heap.size (.slice ta k tc) RTK [exC (e1, e2)] rfl (some ⟨wy.heap.size, 0, none⟩) 1 1 rfl (HTA.out _) HRA.out HXO.out (fun h => by cases h) HN1.out HN2.out (HBYA.out _).size ?_; intro tv' w6 hown6 hgrow6 hb6; have HT6 := hid hown6; have HB6 := hid ((HBYA.out _).trans hb6); have HO6 := hid (own_other (HOA.out _) (HTA.out _) hgrow6 HD1.out); have HR6 := hid (row_other (HRYA.out _) (HTA.out _) hgrow6 HD1.out); obtain ⟨⟨z0, z1, z2, z3, z4, z5⟩, z6, z7, z8, z9, z10⟩ := Row.eleven HR6.out; have hlz := HR6.out.lt; have HO6A := hid (fun o => own_below HO6.out (@bal w6 o)); have HT6A := hid (fun o => own_below HT6.out (@bal w6 o)); have HR6A := hid (row_rk (Row.new w6 33 (loC y)) LEN11.out); have HB6A := hid (fun o => HB6.out.alloc HB6.out.size o); clear hown6 hgrow6 hb6) | (at_builtin; refine wpList_appKg Try.underlying35 infoOb rfl (by decide) rfl _ _ rfl w.heap.size (.slice oa k oc) ROUT [loC y] rfl (some ⟨w6.heap.size, 0, none⟩) 1 1 rfl (HO6A.out _) HR6A.out HYO.out (fun h => by cases h) HN3.out HN4.out (HB6A.out _).size ?_; intro ov' w7 hown7 hgrow7 hb7; have HO7 := hid (own_eq hown7 HRO.out); have HB7 := hid ((HB6A.out _).trans hb7); have HT7 := hid (own_eq (own_other (HT6A.out _) (HO6A.out _) hgrow7 HD2.out) HRT2.out); clear hown7 hgrow7 hb7))
        go_roundw
        case rel => exact ⟨k + 1, _, _, lib, tk ++ [(e1, e2)], out ++ [y], rfl, rfl, by omega, by go_num, rfl, own_ext HO7.out (by simp) (by simp), own_ext HT7.out (by simp) (by simp), HB7.out, by simp [HOL.out], by simp [HTL.out], HL1.out, HL2.out, HGN.out⟩
        case measure => simp [intOf]; omega
    · have d1 : decide ((k : Int) < (xs.length : Int)) = false := by simp; omega
      have d1n : decide (k < xs.length) = false := by simp; omega
      have HF := hid (show basGo xs 0 139637976727552 [] [] = some out by
        rw [← HGO.out, List.drop_of_length_le (by omega)]
        rfl)
      go_wp2_with fail
      go_ret2
      exact bas_ok HR.out HF.out HB.out HOW.out
end Go.Proofs.Ytkpopdkkobelaaa
