
/- The reference's Take and Load. -/
import Derived.Test.YtllkeeeajlgkpaaDoorJQ
namespace Go.Proofs.YtllkeeeajlgkpaaDoor
open Go.RowKit Go.Sort

abbrev cnts (fs : List FR) : List Int := fs.map (·.cnt)
/-- What a taken frame holds: its bytes, and noughts. -/
def Holds (fs : List FR) (Ls : List (List Int)) : Prop := ∀ k (hk : k < fs.length) (h2 : k < Ls.length), fs[k].cnt ≠ 0 → fs[k].bs = Ls[k] ++ List.replicate (4096 - Ls[k].length) 0
def takeVs (fs : List FR) (vs : List Value) : List Value := match lowR fs with
  | some k => vs.set k (.slice none 0 0)
  | none => vs
def takeLs (fs : List FR) (Ls : List (List Int)) : List (List Int) := match lowR fs with
  | some k => Ls.set k []
  | none => Ls
set_option maxHeartbeats 1000000 in
theorem rtake_any (base p a b : Nat) (fs : List FR) (vs : List Value) (Ls : List (List Int)) (w : World) (H : RS w base p a b (cnts fs) vs Ls) :
    Calls Tryd.prog 16 #[.pointer (some ⟨p, 0, none⟩)] w fun e w' => e = .returned (.tuple #[.int .i64 (takeV fs), .int .i64 (takeE fs)]) ∧ RS w' base p a b (cnts (takeS fs)) (takeVs fs vs) (takeLs fs Ls) ∧ E3 w w' a b none := by
  have HH := hid H
  obtain ⟨p0, p1⟩ := H.rp.cells
  have hlp := H.rp.pool.lt
  have hla := H.rp.cnts.lt
  have hlb := H.rp.bys.lt
  have hcl : (cnts fs).length = fs.length := List.length_map _
  rw [hcl] at p0 p1
  have hn2 : fs.length ≤ 1024 := by have := H.rp.n2; rw [hcl] at this; exact this
  have HCL := hid hcl
  clear H hcl
  go_enter Tryd.func16, Tryd.ntmps16
  go_wp2_with fail
  go_loopw [4] (fun i wr => ∃ k : Nat, k ≤ fs.length ∧ i = .int .i64 k ∧ (∀ j, j < k → freeF fs j = false) ∧ wr = w) (fun i _ => fs.length - (intOf i).toNat)
  case atStart => exact ⟨0, Nat.zero_le _, rfl, fun j hj => by omega, rfl⟩
  case round =>
    obtain ⟨k, hk, rfl, hz, rfl⟩ := hrel
    have HZ := hid hz
    clear hz
    by_cases hlt : k < fs.length
    · have d1 : decide ((k : Int) < (fs.length : Int)) = true := by simp; omega
      have d1n : decide (k < fs.length) = true := by simp; omega
      have hkc : k < (cnts fs).length := by rw [HCL.out]; exact hlt
      have hc := HH.out.rp.cnt k hkc
      have he : (cnts fs)[k] = fs[k].cnt := List.getElem_map _
      rw [he] at hc
      have hfr := free_at fs k hlt
      have ez : (0 : Int) ≤ (k : Int) := by omega
      have eb : (k : Int) < (fs.length : Int) := by omega
      by_cases c0 : fs[k].cnt = 0
      · have q1 : (fs[k].cnt == 0) = true := by simpa using c0
        rw [q1] at hfr
        have HL := hid (low_some (fs := fs) (f := k) hfr HZ.out)
        have HV := hid (show takeV fs = (k : Int) ∧ takeE fs = 0 ∧ takeS fs = fs.set k one0 ∧ takeVs fs vs = vs.set k (.slice none 0 0) ∧ takeLs fs Ls = Ls.set k [] by unfold takeV takeE takeS takeVs takeLs; rw [HL.out]; exact ⟨rfl, rfl, rfl, rfl, rfl⟩)
        have hfa := HH.out.rp.cnts.frozen k
        have hvk : k < vs.length := by rw [HH.out.rp.vl]; exact hkc
        have hbc : wr.cell? ⟨b, k, none⟩ = some vs[k] := HH.out.rp.bys.cell k hvk
        have hfb := HH.out.rp.bys.frozen k
        obtain ⟨n1, n2, n3⟩ := HH.out.ne
        have HS1 := hid (HH.out.setCnt k 1 (by omega))
        have HS2 := hid (HS1.out.setBy k hvk (.slice none 0 0) [] own_nil_of (by simp) (fun j hj hne q hq => by cases hq))
        have HE := hid (show E3 wr ((wr.setCell ⟨a, k, none⟩ (.int .i64 1)).setCell ⟨b, k, none⟩ (.slice none 0 0)) a b none from (E3.of_ex (Ex.set wr a k _ (.inl rfl))).trans (E3.of_ex (Ex.set _ b k _ (.inr rfl))))
        have HC := hid (show cnts (fs.set k one0) = (cnts fs).set k 1 by unfold cnts; rw [List.map_set]; rfl)
        clear he q1 hfr
        rw [c0] at hc
        clear c0
        go_wp2_with fail
        go_ret2
        rw [HV.out.1, HV.out.2.1, HV.out.2.2.1, HV.out.2.2.2.1, HV.out.2.2.2.2, HC.out]
        exact ⟨rfl, HS2.out, HE.out⟩
      · have q1 : (fs[k].cnt == 0) = false := by simpa using c0
        rw [q1] at hfr
        have HFR := hid hfr
        generalize fs[k].cnt = x at *
        clear he hfr c0
        go_wp2_with fail
        go_roundw
        case rel => exact ⟨k + 1, by omega, by go_num, fun j hj => by
          by_cases e : j < k
          · exact HZ.out j e
          · obtain rfl : j = k := by omega
            exact HFR.out, by trivial⟩
        case measure => simp [intOf]; omega
    · have d1 : decide ((k : Int) < (fs.length : Int)) = false := by simp; omega
      have d1n : decide (k < fs.length) = false := by simp; omega
      have HL := hid (low_no (fs := fs) (fun j hj => HZ.out j (by omega)))
      have HV := hid (show takeV fs = 0 ∧ takeE fs = 4 ∧ takeS fs = fs ∧ takeVs fs vs = vs ∧ takeLs fs Ls = Ls by unfold takeV takeE takeS takeVs takeLs; rw [HL.out]; exact ⟨rfl, rfl, rfl, rfl, rfl⟩)
      go_wp2_with fail
      go_ret2
      rw [HV.out.1, HV.out.2.1, HV.out.2.2.1, HV.out.2.2.2.1, HV.out.2.2.2.2]
      exact ⟨rfl, HH.out, E3.refl _ _ _ _⟩

theorem rtk_tak {fs : List FR} (h0 : ∀ x ∈ fs, 0 ≤ x.cnt) (f : Int) : rtk (cnts fs) f = (takE fs f == 0) := by
  unfold rtk takE
  rw [show rcnt (cnts fs) f = cntF fs f from rcnt_map fs f]
  by_cases c : cntF fs f = 0
  · rw [c]; rfl
  · rw [if_neg c]
    obtain ⟨k, hk, _, e⟩ := cnt_is c
    have := h0 _ (List.getElem_mem hk)
    rw [e] at c ⊢
    simp
    omega
theorem load_bad {fs : List FR} {f off n : Int} (h : takE fs f ≠ 0 ∨ withinB off n = false) : loadE fs f off n = 1 ∧ loadL fs f off n = [] := by
  unfold loadE loadL
  by_cases c : takE fs f = 0
  · rcases h with h | h
    · exact absurd c h
    · rw [if_pos c, if_pos c, h]; exact ⟨rfl, rfl⟩
  · rw [if_neg c, if_neg c]; exact ⟨rfl, rfl⟩
theorem within_no {off n : Int} (h : off < 0 ∨ n < 0 ∨ 4096 < off ∨ 4096 - off < n) : withinB off n = false := by
  unfold withinB
  simp only [Bool.and_eq_false_iff, decide_eq_false_iff_not]
  omega

set_option maxRecDepth 100000 in
set_option maxHeartbeats 4000000 in
theorem rload_any (base p a b : Nat) (fs : List FR) (vs : List Value) (Ls : List (List Int)) (f off n : Int) (w : World) (H : RS w base p a b (cnts fs) vs Ls) (hok : FsOk fs) (h0 : ∀ x ∈ fs, 0 ≤ x.cnt) (hB : Holds fs Ls) :
    Calls Tryd.prog 22 #[.pointer (some ⟨p, 0, none⟩), .int .i64 f, .int .i64 off, .int .i64 n] w fun e w' => ∃ v, e = .returned (.tuple #[v, .int .i64 (loadE fs f off n)]) ∧ w'.ownsRow w.heap.size 5 1 v (loadL fs f off n).length ((loadL fs f off n).map (Value.int .u8)) ∧ Below w.heap.size w w' := by
  have HH := hid H
  have HL := hid (rtaken_any p a b (cnts fs) vs f w H.rp)
  rw [rtk_tak h0] at HL
  have HOK := hid hok
  have HBY := hid hB
  clear H hok hB
  by_cases ht : takE fs f = 0
  · have q1 : (takE fs f == 0) = true := by simpa using ht
    rw [q1] at HL
    clear q1
    by_cases hbad : off < 0 ∨ n < 0 ∨ 4096 < off ∨ 4096 - off < n
    · have HF := hid (load_bad (fs := fs) (f := f) (.inr (within_no hbad)))
      clear ht
      have fin : ∀ w' : World, w = w' → True := fun _ _ => trivial
      by_cases c1 : off < 0
      · clear hbad fin
        go_enter Tryd.func22, Tryd.ntmps22
        go_wp2_with fail
        refine (HL.out).mono ?_
        rintro e' w' ⟨rfl, rfl⟩
        go_wp2_with fail
        go_ret2
        rw [HF.out.1, HF.out.2]
        exact ⟨_, rfl, own_nil_of, Below.refl _ _⟩
      · by_cases c2 : n < 0
        · clear hbad fin
          go_enter Tryd.func22, Tryd.ntmps22
          go_wp2_with fail
          refine (HL.out).mono ?_
          rintro e' w' ⟨rfl, rfl⟩
          go_wp2_with fail
          go_ret2
          rw [HF.out.1, HF.out.2]
          exact ⟨_, rfl, own_nil_of, Below.refl _ _⟩
        · by_cases c3 : 4096 < off
          · clear hbad fin
            go_enter Tryd.func22, Tryd.ntmps22
            go_wp2_with fail
            refine (HL.out).mono ?_
            rintro e' w' ⟨rfl, rfl⟩
            go_wp2_with fail
            go_ret2
            rw [HF.out.1, HF.out.2]
            exact ⟨_, rfl, own_nil_of, Below.refl _ _⟩
          · have c4 : 4096 - off < n := by omega
            have ew := IntWalk.wrap64_in (4096 - off) ⟨by omega, by omega⟩
            clear hbad fin
            go_enter Tryd.func22, Tryd.ntmps22
            go_wp2_with fail
            refine (HL.out).mono ?_
            rintro e' w' ⟨rfl, rfl⟩
            go_wp2_with fail
            go_ret2
            rw [HF.out.1, HF.out.2]
            exact ⟨_, rfl, own_nil_of, Below.refl _ _⟩
    · obtain ⟨o, rfl⟩ := Int.eq_ofNat_of_zero_le (show 0 ≤ off by omega)
      obtain ⟨m, rfl⟩ := Int.eq_ofNat_of_zero_le (show 0 ≤ n by omega)
      have hom : o + m ≤ 4096 := by omega
      have hcz : cntF fs f ≠ 0 := fun e => by unfold takE at ht; rw [if_pos e] at ht; exact absurd ht (by decide)
      obtain ⟨k, hk, rfl, hc⟩ := cnt_is hcz
      have hcn : fs[k].cnt ≠ 0 := fun e => hcz (by rw [hc]; exact e)
      have hw : withinB (o : Int) (m : Int) = true := by unfold withinB; simp; omega
      have hcl : (cnts fs).length = fs.length := List.length_map _
      have hvl : vs.length = fs.length := by rw [HH.out.rp.vl]; exact hcl
      have hkv : k < vs.length := by omega
      have hkL : k < Ls.length := by have := HH.out.ll; omega
      have HF := hid (show loadE fs k o m = 0 ∧ loadL fs k o m = (fs[k].bs.drop o).take m by unfold loadE loadL; rw [ht, hw, Int.toNat_natCast, Int.toNat_natCast, Int.toNat_natCast, getF_at _ _ _ hk]; exact ⟨rfl, rfl⟩)
      have hbl := HOK.out _ (List.getElem_mem hk)
      have hbs := HBY.out k hk hkL hcn
      have HLM := hid (HH.out.lim _ (List.getElem_mem hkL))
      obtain ⟨va, vc, ev, hN⟩ := own_nums (HH.out.own k hkv hkL)
      have HT := hid (show ((fs[k].bs.drop o).take m).length = m by simp; omega)
      have HTi := hid (show ∀ i (hi : i < ((fs[k].bs.drop o).take m).length), ((fs[k].bs.drop o).take m)[i] = (Ls[k]).getD (o + i) 0 from fun i hi => by
        have h1 : ((fs[k].bs.drop o).take m)[i]? = fs[k].bs[o + i]? := by
          rw [List.getElem?_take, if_pos (by rw [HT.out] at hi; exact hi), List.getElem?_drop]
        rw [List.getElem?_eq_getElem hi] at h1
        have hi2 : i < m := by rw [HT.out] at hi; exact hi
        replace h1 := h1.trans (congrArg (fun l : List Int => l[o + i]?) hbs)
        by_cases c : o + i < Ls[k].length
        · rw [List.getElem?_append_left c, List.getElem?_eq_getElem c] at h1
          rw [getF_at _ _ _ c]
          exact Option.some.inj h1
        · rw [List.getElem?_append_right (by omega), List.getElem?_replicate, if_pos (by omega)] at h1
          rw [List.getD_eq_getElem?_getD, List.getElem?_eq_none (by omega)]
          exact Option.some.inj h1)
      generalize (fs[k].bs.drop o).take m = T at *
      have hbc := HH.out.rp.bys.cell k hkv
      rw [ev] at hbc
      have HBC := hid hbc
      have HN := hid hN
      obtain ⟨p0, p1⟩ := HH.out.rp.cells
      rw [hcl] at p0 p1
      have HP1 := hid p1
      have hlp := HH.out.rp.pool.lt
      have hlb := HH.out.rp.bys.lt
      have hn2 : fs.length ≤ 1024 := by have := HH.out.rp.n2; rw [hcl] at this; exact this
      generalize Ls[k] = L at *
      have ez : (0 : Int) ≤ (k : Int) := by omega
      have eb : (k : Int) < (fs.length : Int) := by omega
      have hm1 : 1 * m ≤ 281474976710656 := by omega
      have hm2 : m ≤ 9223372036854775807 := by omega
      have hno1 : decide ((o : Int) < 0) = false := by simp
      have hno2 : decide ((m : Int) < 0) = false := by simp
      have hno3 : decide ((4096 : Int) < (o : Int)) = false := by simp; omega
      have hno4 : decide ((4096 : Int) - (o : Int) < (m : Int)) = false := by simp; omega
      have ewo := IntWalk.wrap64_in (4096 - (o : Int)) ⟨by omega, by omega⟩
      clear hbad ht hcz hc hcn hw hcl hvl hkL hbl hbs ev hN hbc p0 p1
      go_enter Tryd.func22, Tryd.ntmps22
      go_wp2_with fail
      refine (HL.out).mono ?_
      rintro e' w' ⟨rfl, rfl⟩
      go_wp2_with (refine wpList_make_row _ rfl _ _ 30 rfl 5 (.int .u8 0) 1 Tryd.underlying30 infoU8 rfl .i64 .i64 m m m rfl rfl rfl rfl hm1 hm2 ?_; intro w2 hR hb hsz; have HR := hid hR; have HB := hid hb; clear hR hb)
      clear ewo
      go_loopw [11] (fun i wr => ∃ t : Nat, t ≤ m ∧ i = .int .i64 t ∧ Row wr w.heap.size 5 (fill (T.map (Value.int .u8)) (.int .u8 0) t) ∧ Below w.heap.size w wr) (fun i _ => m - (intOf i).toNat)
      case atStart => exact ⟨0, Nat.zero_le _, rfl, by rw [fill_zero, List.length_map, HT.out]; exact HR.out, HB.out⟩
      case round =>
        obtain ⟨t, ht, rfl, hr, hb⟩ := hrel
        have HRr := hid hr
        have HBr := hid hb
        have p1 := keepC hb HP1.out
        have hbc := keepC hb HBC.out
        have hNr := HN.out.below' hb
        have hlpr := World.block_lt_of_cell? _ _ p1
        have hlbr := World.block_lt_of_cell? _ _ hbc
        clear hr hb
        by_cases htm : t < m
        · have d1 : decide ((t : Int) < (m : Int)) = true := by simp; omega
          have d1n : decide (t < m) = true := by simp; omega
          by_cases htl : o + t < L.length
          · obtain ⟨vb, vo, rfl, hcv⟩ := hNr.cell (o + t) htl
            have hlv := World.block_lt_of_cell? _ _ hcv
            have htT : t < T.length := by rw [HT.out]; exact htm
            have hval := HTi.out t htT
            rw [getF_at _ _ _ htl] at hval
            have HFL := hid (HRr.out.fill (u := .int .u8 L[o + t]) (by rw [List.length_map]; exact htT) (by rw [List.getElem_map, hval]))
            have hfz := HRr.out.frozen t
            have hoc : (wr.cell? ⟨w.heap.size, t, none⟩).isSome = true := by
              rw [HRr.out.cell' t, List.getElem?_eq_getElem (by rw [fill_len _ _ _ (by rw [List.length_map]; omega), List.length_map]; exact htT)]
              rfl
            obtain ⟨ou, hou⟩ := Option.isSome_iff_exists.1 hoc
            have hlo := World.block_lt_of_cell? _ _ hou
            have d2 : decide ((o : Int) + (t : Int) < (L.length : Int)) = true := by simp; omega
            have ez2 : (0 : Int) ≤ (t : Int) := by omega
            have eb2 : (t : Int) < (m : Int) := by omega
            have ez3 : (0 : Int) ≤ (o : Int) + (t : Int) := by omega
            have eb3 : (o : Int) + (t : Int) < (L.length : Int) := by omega
            have etn : ((o : Int) + (t : Int)).toNat = o + t := by omega
            generalize L[o + t] = y at *
            have HBN := hid (bset HBr.out (b := w.heap.size) (o := t) (Nat.le_refl _) (.int .u8 y))
            clear hval hoc hNr
            go_wp2_with fail
            go_roundw
            case rel => exact ⟨t + 1, by omega, by go_num, HFL.out, HBN.out⟩
            case measure => simp [intOf]; omega
          · have HD := hid (show fill (T.map (Value.int .u8)) (.int .u8 0) t = T.map (Value.int .u8) by
              apply List.ext_getElem?
              intro i
              unfold fill
              by_cases c : i < t
              · rw [List.getElem?_append_left (by simp; have := HT.out; omega), List.getElem?_take, if_pos c]
              · by_cases c2 : i < m
                · have hiT : i < T.length := by rw [HT.out]; exact c2
                  rw [List.getElem?_append_right (by simp; omega), List.getElem?_replicate, if_pos (by simp; have := HT.out; omega), List.getElem?_map, List.getElem?_eq_getElem hiT, HTi.out i hiT, List.getD_eq_getElem?_getD, List.getElem?_eq_none (by omega)]
                  rfl
                · rw [List.getElem?_eq_none (by simp; have := HT.out; omega), List.getElem?_eq_none (by simp; have := HT.out; omega)])
            have d2 : decide ((o : Int) + (t : Int) < (L.length : Int)) = false := by simp; omega
            go_wp2_with fail
            go_ret2
            rw [HF.out.1, HF.out.2, HT.out]
            have hr := HRr.out
            rw [HD.out] at hr
            have := hr.owns (base := w.heap.size) (n := m) (cap := m) (Nat.le_refl _) (by rw [List.length_map, HT.out]) (Nat.le_refl _) (by unfold maxLen; omega)
            rw [List.take_of_length_le (by rw [List.length_map, HT.out]; exact Nat.le_refl _)] at this
            exact ⟨_, rfl, this, HBr.out⟩
        · have d1 : decide ((t : Int) < (m : Int)) = false := by simp; omega
          have d1n : decide (t < m) = false := by simp; omega
          have etm : t = m := by omega
          have HD := hid (show fill (T.map (Value.int .u8)) (.int .u8 0) t = T.map (Value.int .u8) by
            have := fill_full (T.map (Value.int .u8)) (.int .u8 0)
            rw [List.length_map, HT.out] at this
            rw [etm]; exact this)
          go_wp2_with fail
          go_ret2
          rw [HF.out.1, HF.out.2, HT.out]
          have hr := HRr.out
          rw [HD.out] at hr
          have := hr.owns (base := w.heap.size) (n := m) (cap := m) (Nat.le_refl _) (by rw [List.length_map, HT.out]) (Nat.le_refl _) (by unfold maxLen; omega)
          rw [List.take_of_length_le (by rw [List.length_map, HT.out]; exact Nat.le_refl _)] at this
          exact ⟨_, rfl, this, HBr.out⟩
  · have q1 : (takE fs f == 0) = false := by simpa using ht
    rw [q1] at HL
    have HF := hid (load_bad (fs := fs) (f := f) (off := off) (n := n) (.inl ht))
    clear q1 ht
    go_enter Tryd.func22, Tryd.ntmps22
    go_wp2_with fail
    refine (HL.out).mono ?_
    rintro e' w' ⟨rfl, rfl⟩
    go_wp2_with fail
    go_ret2
    rw [HF.out.1, HF.out.2]
    exact ⟨_, rfl, own_nil_of, Below.refl _ _⟩
end Go.Proofs.YtllkeeeajlgkpaaDoor
