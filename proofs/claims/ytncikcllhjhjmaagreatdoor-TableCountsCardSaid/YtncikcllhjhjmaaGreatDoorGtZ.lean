
/- TableCounts: more; the walk. -/
import Derived.Test.YtncikcllhjhjmaaGreatDoorGtW
import Derived.Test.YtncikcllhjhjmaaGreatDoorBcB
namespace Go.Proofs.YtncikcllhjhjmaaGreatDoor
open Go.RowKit Go.Sort Go.WideMaps Go.Maps Go.WideShapes Go.WideElems Go.MapKept Go.ChangeMaps
attribute [local go_sem] Oper.semAt_some

def addC (c : List Nat) (f : Nat) : List Nat := c.set f (c.getD f 0 + 1)
def tally (c l : List Nat) : List Nat := l.foldl addC c
theorem addC_len (c : List Nat) (f : Nat) : (addC c f).length = c.length := List.length_set
theorem tally_len : ∀ (l c : List Nat), (tally c l).length = c.length
  | [], _ => rfl
  | a :: l, c => (tally_len l (addC c a)).trans (addC_len c a)
theorem addC_at (c : List Nat) (f j : Nat) (hf : f < c.length) : (addC c f).getD j 0 = c.getD j 0 + (if f = j then 1 else 0) := by
  unfold addC
  rw [List.getD_eq_getElem?_getD, List.getElem?_set]
  by_cases e : f = j
  · subst e
    rw [if_pos rfl, if_pos hf, if_pos rfl]
    rfl
  · rw [if_neg e, if_neg e, List.getD_eq_getElem?_getD]
    omega
theorem tally_at : ∀ (l c : List Nat) (j : Nat), (∀ f ∈ l, f < c.length) → (tally c l).getD j 0 = c.getD j 0 + l.count j
  | [], c, j, _ => by simp [tally]
  | a :: l, c, j, h => by
    have h1 := tally_at l (addC c a) j (fun f hf => by rw [addC_len]; exact h f (List.mem_cons_of_mem _ hf))
    have h2 := addC_at c a j (h a (List.mem_cons_self ..))
    show (tally (addC c a) l).getD j 0 = _
    rw [h1, h2, List.count_cons]
    simp only [beq_iff_eq]
    omega
theorem tally_snoc (c l : List Nat) (a : Nat) : tally c (l ++ [a]) = addC (tally c l) a := by unfold tally; rw [List.foldl_append]; rfl
theorem tally_take (c P L : List Nat) (k : Nat) (hk : k < L.length) : tally c (P ++ L.take (k + 1)) = addC (tally c (P ++ L.take k)) L[k] := by
  rw [List.take_succ_eq_append_getElem hk, ← List.append_assoc, tally_snoc]
theorem tally_zero (n : Nat) (l : List Nat) (h : ∀ f ∈ l, f < n) (j : Nat) : (tally (List.replicate n 0) l).getD j 0 = l.count j := by
  rw [tally_at _ _ _ (fun f hf => by rw [List.length_replicate]; exact h f hf)]
  have : (List.replicate n 0).getD j 0 = 0 := by
    rw [List.getD_eq_getElem?_getD, List.getElem?_replicate]
    split <;> rfl
  omega
theorem infoI9 : (Tryz.prog.info? 3).map (fun i => (i.zero, i.size, i.bytes)) = some (some (.int .i64 0), 1, 8) := by kernel_rfl
set_option maxRecDepth 100000 in
set_option maxHeartbeats 2000000 in
theorem more_any (cb n : Nat) (c : List Nat) (f : Nat) (hc : c.length = n) (hf : f < n) (hn : n ≤ 2000) (hb : c.getD f 0 ≤ 8000000000) (w : World) (hr : Row w cb 3 (c.map nI9)) :
    Calls Tryz.prog 21 #[.slice (some ⟨cb, 0, none⟩) n n, .int .i64 (f : Int)] w fun e w' => e = .returned (.slice (some ⟨cb, 0, none⟩) n n) ∧ Row w' cb 3 ((addC c f).map nI9) ∧ EX (fun k => k = cb) w w' := by
  have hcf := hr.cell f (by rw [List.length_map, hc]; exact hf)
  rw [List.getElem_map] at hcf
  have hff := hr.frozen f
  have hlt := hr.lt
  have e1 : c.getD f 0 = c[f] := by rw [List.getD_eq_getElem?_getD, List.getElem?_eq_getElem (by omega)]; rfl
  have HR := hid (show ∀ x : Int, x = ((c.getD f 0 + 1 : Nat) : Int) → Row (w.setCell ⟨cb, f, none⟩ (.int .i64 x)) cb 3 ((addC c f).map nI9) from fun x e => by
    unfold addC
    rw [List.map_set, e]
    exact hr.set f _)
  rw [e1] at HR hb
  unfold nI9 at hcf
  have d0 : decide ((0 : Int) ≤ (f : Int)) = true := by simp
  have d1 : decide ((f : Int) < (n : Int)) = true := by simp; omega
  have d1n : decide (f < n) = true := by simp; omega
  have ew : wrap64 ((c[f] : Int) + 1) = ((c[f] + 1 : Nat) : Int) := by rw [IntWalk.wrap64_in _ ⟨by omega, by omega⟩]; omega
  have HEW := hid ew
  generalize c[f] = y at *
  have z0 : (0 : Int) ≤ (f : Int) := by omega
  have z1 : (f : Int) < (n : Int) := by omega
  clear hr hc e1 ew
  go_enter Tryz.func21, Tryz.ntmps21
  go_wp2_with fail
  go_ret
  exact ⟨rfl, HR.out _ (by omega), (EX.refl (S := fun k => k = cb) w).set (g := cb) (.inl rfl) f _⟩
def allS (root : Nat) (st : S9) : List LF := if st.fr then [] else allL root st.kids
def nodS (root : Nat) (st : S9) : List Nat := if st.fr then [] else nodL root st.kids
section
variable {w0 : World} {F : Nat} {t : FT} {p g h c m tb ob root : Nat} {rd : Int → Int → List UInt8 × Int}
theorem allU {vh : Value} {st : S9} {ws : List Nat} {w : World} (H : OW9 w0 F t p g h c m tb ob root vh st ws w) (I : Inv9 rd root st) :
    Calls Tryz.prog 13 #[.pointer (some ⟨tb, 0, none⟩)] w fun e w' => ∃ v, e = .returned v ∧ w'.ownsRow w.heap.size 43 4 v (allS root st).length ((allS root st).map putC).flatten ∧ Below w.heap.size w w' := by
  have hT := H.tw
  cases hf : st.fr with
  | false =>
    rw [hf] at hT
    have e : allS root st = allL root st.kids := by unfold allS; rw [hf]; rfl
    rw [e]
    exact all_any st.s st.kids st.h ws w hT (I.ti hf)
  | true =>
    rw [hf] at hT
    have e : allS root st = [] := by unfold allS; rw [hf]; rfl
    rw [e]
    refine (allG _ w hT.goneAt).mono ?_
    rintro e w' ⟨rfl, rfl⟩
    exact ⟨_, rfl, World.ownsRow_nil _ _ _ _, Below.refl _ _⟩
theorem nodU {vh : Value} {st : S9} {ws : List Nat} {w : World} (H : OW9 w0 F t p g h c m tb ob root vh st ws w) (I : Inv9 rd root st) :
    Calls Tryz.prog 12 #[.pointer (some ⟨tb, 0, none⟩)] w fun e w' => ∃ v, e = .returned v ∧ w'.ownsRow w.heap.size 3 1 v (nodS root st).length ((nodS root st).map nI9) ∧ Below w.heap.size w w' := by
  have hT := H.tw
  cases hf : st.fr with
  | false =>
    rw [hf] at hT
    have e : nodS root st = nodL root st.kids := by unfold nodS; rw [hf]; rfl
    rw [e]
    exact nodes_any st.s st.kids st.h ws w hT (I.ti hf)
  | true =>
    rw [hf] at hT
    have e : nodS root st = [] := by unfold nodS; rw [hf]; rfl
    rw [e]
    refine (nodesG _ w hT.goneAt).mono ?_
    rintro e w' ⟨rfl, rfl⟩
    exact ⟨_, rfl, World.ownsRow_nil _ _ _ _, Below.refl _ _⟩
theorem cnt9 {st : S9} (I : Inv9 rd root st) (hl : st.s.fs.length ≤ 1024) : ∃ hx : List Nat, Good rd st.s hx ∧ hx.length ≤ 2000000 + st.h.length ∧ (allS root st).length ≤ 1000000 ∧ (nodS root st).length ≤ 1000000 ∧ ∀ j, hx.count j = ((allS root st).map fun y => y.2.1).count j + (nodS root st).count j + st.h.count j := by
  cases hf : st.fr with
  | false =>
    have T := I.ti hf
    have hs := all_small T hl
    have e1 : allS root st = allL root st.kids := by unfold allS; rw [hf]; rfl
    have e2 : nodS root st = nodL root st.kids := by unfold nodS; rw [hf]; rfl
    rw [e1, e2]
    have hlf : (allL root st.kids).map (fun y => y.2.1) = lfT 4 (.nd root st.kids) := leaves_lf 4 0 (.nd root st.kids)
    refine ⟨_, T.good, ?_, hs.1, hs.2, fun j => ?_⟩
    · have h1 : (lfT 4 (.nd root st.kids)).length = (allL root st.kids).length := by rw [← hlf, List.length_map]
      have h2 : (hxT 3 root st.kids).length = (nodL root st.kids).length + (lfT 4 (.nd root st.kids)).length := List.length_append
      rw [List.length_append]
      have := hs.1
      have := hs.2
      omega
    · have h9 : (hxT 3 root st.kids).count j = (nodL root st.kids).count j + (lfT 4 (.nd root st.kids)).count j := hx_count 3 root st.kids j
      rw [List.count_append, h9, hlf]
      omega
  | true =>
    have e1 : allS root st = [] := by unfold allS; rw [hf]; rfl
    have e2 : nodS root st = [] := by unfold nodS; rw [hf]; rfl
    rw [e1, e2]
    exact ⟨_, I.gd hf, by omega, by simp, by simp, fun j => by simp⟩
end
theorem tally_step (c AL : List Nat) (m f : Nat) (h : AL[m]? = some f) : tally c (AL.take (m + 1)) = addC (tally c (AL.take m)) f := by
  obtain ⟨hm, rfl⟩ := List.getElem?_eq_some_iff.1 h
  rw [List.take_succ_eq_append_getElem hm, tally_snoc]
theorem more_step (cb nf : Nat) (AL : List Nat) (hn : nf ≤ 2000) (hbd : ∀ f ∈ AL, f < nf) (hl : AL.length ≤ 8000000000) (m f : Nat) (h : AL[m]? = some f) (w : World) (hr : Row w cb 3 ((tally (List.replicate nf 0) (AL.take m)).map nI9)) :
    Calls Tryz.prog 21 #[.slice (some ⟨cb, 0, none⟩) nf nf, .int .i64 (f : Int)] w fun e w' => e = .returned (.slice (some ⟨cb, 0, none⟩) nf nf) ∧ Row w' cb 3 ((tally (List.replicate nf 0) (AL.take (m + 1))).map nI9) ∧ EX (fun k => k = cb) w w' := by
  rw [tally_step _ _ _ _ h]
  refine more_any cb nf _ f (by rw [tally_len, List.length_replicate]) (hbd f (List.mem_of_getElem? h)) hn ?_ w hr
  rw [tally_zero nf _ (fun x hx => hbd x (List.mem_of_mem_take hx))]
  refine Nat.le_trans List.count_le_length ?_
  rw [List.length_take]
  omega
theorem get_second {A B : List Nat} {q f : Nat} (h : B[q]? = some f) : (A ++ B)[A.length + q]? = some f := by
  rw [List.getElem?_append_right (by omega)]
  simpa using h
theorem get_first {A B : List Nat} {q f : Nat} (h : A[q]? = some f) : (A ++ B)[q]? = some f := by
  obtain ⟨hq, rfl⟩ := List.getElem?_eq_some_iff.1 h
  rw [List.getElem?_append_left hq, List.getElem?_eq_getElem hq]
theorem own_base {w : World} {base E size n : Nat} {v : Value} {xs : List Value} (h : w.ownsRow base E size v n xs) : ∀ k, v.ownBlock = some k → base ≤ k := by
  intro k e
  rcases h.2 with ⟨rfl, _⟩ | ⟨g, cap, cur, rfl, hb, _⟩
  · cases e
  · simp only [Value.ownBlock, Option.some.injEq] at e
    omega
/-- All that counts a frame, in a list. -/
def AL9 (LA : List LF) (LN : List Nat) (SL : List SLO) (H : List Nat) : List Nat := LA.map (fun y => y.2.1) ++ (LN ++ (SL.map (fun x => x.f.toNat) ++ H))
theorem al_count {rd : Int → Int → List UInt8 × Int} {s : CC} {hx H : List Nat} {LA : List LF} {LN : List Nat} {SL : List SLO} (G : Good rd s hx) (hp : SL.Perm s.sl) (hc : ∀ j, hx.count j = (LA.map fun y => y.2.1).count j + LN.count j + H.count j) :
    (∀ j, j < s.fs.length → cntF s.fs (j : Int) = (((AL9 LA LN SL H).count j : Nat) : Int)) ∧ ∀ f ∈ AL9 LA LN SL H, f < s.fs.length := by
  have hs : ∀ j, (SL.map fun x => x.f.toNat).count j = s.sl.countP (fun x => decide (x.f = (j : Int))) := fun j => by
    rw [← hp.countP_eq, List.count_eq_countP, List.countP_map]
    refine List.countP_congr fun x hx => ?_
    obtain ⟨f, e, _⟩ := G.fr x (hp.subset hx)
    simp only [Function.comp_apply, beq_iff_eq, decide_eq_true_eq]
    omega
  constructor
  · intro j hj
    rw [cntF_at hj, G.cnt j hj, ← hs j, hc j]
    unfold AL9
    simp only [List.count_append]
    omega
  · intro f hf
    unfold AL9 at hf
    have h1 := List.count_pos_iff.2 hf
    simp only [List.count_append] at h1
    by_cases h2 : 0 < (SL.map fun x => x.f.toNat).count f
    · obtain ⟨x, hx, e⟩ := List.mem_map.1 (List.count_pos_iff.1 h2)
      obtain ⟨k, ek, hk⟩ := G.fr x (hp.subset hx)
      omega
    · have h3 := hc f
      have h4 : 0 < hx.count f := by omega
      exact G.hold f (List.count_pos_iff.1 h4)
set_option maxRecDepth 100000 in
set_option maxHeartbeats 8000000 in
theorem tableCounts_walk (N : Int) (oa : Option Addr) (oc : Nat) (l : List O9) (w : World) (hO : Ops9 w oa l) (hT : Tb w) (hZ : Wd.Sizes w) :
    Calls Tryz.prog 4 #[.int .i64 N, .slice oa l.length oc] w fun e w' => e = .returned (.bool true) ∧ Below w.heap.size w w' := by
  obtain ⟨wb, hwb⟩ : ∃ wb, wb = w := ⟨_, rfl⟩
  have HBB := hid (show Below w.heap.size w wb by rw [hwb]; exact Below.refl _ _)
  have HOP := hid (hO.below HBB.out)
  have HWK := hid (fun (W : World) (hb : Below w.heap.size w W) => works9_any W (fun j hj => St.cell (hT j hj) hb) (hZ.below hb))
  have HVA := hid (vast9_any N oa l.length oc wb)
  have HBH := hid (fun (h : N ≤ 96 ∧ l.length ≤ 120) => behind_any N (by omega) oa oc l wb (fun j hj => St.cell (hT j hj) HBB.out) (hZ.below HBB.out) HOP.out (by omega))
  have HMD := hid (fun (h : N ≤ 96 ∧ l.length ≤ 120) => made9_any N (by omega) wb (fun j hj => St.cell (hT j hj) HBB.out) (hZ.below HBB.out))
  have HWB := hid hwb
  clear hO hT hZ hwb
  go_enter Tryz.func4, Tryz.ntmps4
  go_wp2_with fail
  rw [← HWB.out]
  refine (HVA.out).mono ?_
  rintro e w1 ⟨⟨vb, rfl, hvs⟩, rfl⟩
  have HVS := hid hvs
  clear hvs
  rcases vb with _ | _
  rotate_left
  · go_wp2_with fail
    refine (HWK.out _ HBB.out).mono ?_
    rintro e wk ⟨rfl, hbk⟩
    have HBK := hid (bthen HBB.out hbk)
    clear hbk
    go_wp2_with fail
    go_ret
    exact ⟨rfl, HBK.out⟩
  have HVN := hid (HVS.out rfl)
  have HBN := hid (HBH.out HVN.out)
  have HMN := hid (HMD.out HVN.out)
  go_wp2_with fail
  refine (HMN.out).mono ?_
  rintro e w2 hm
  rcases hm with ⟨hn1, rfl, hb⟩ | ⟨w0, F, t, p, g, h, c, m, tb, ob, root, ws, k, st0, hnk, hk1, rfl, how, hfr, hb0⟩
  · have HB2 := hid (bthen HBB.out hb)
    clear hb
    go_wp2_with fail
    refine (HWK.out w2 HB2.out).mono ?_
    rintro e wk ⟨rfl, hbk⟩
    have HBK := hid (bthen HB2.out hbk)
    clear hbk
    go_wp2_with fail
    go_ret
    exact ⟨rfl, HBK.out⟩
  have HOW := hid how
  have HFR := hid hfr
  have HBW := hid (bthen HBB.out hb0)
  have HBY := hid hb0
  have HLOW := hid (fun (W : World) (hl : Below w0.heap.size w0 W) => show Below w.heap.size w W from HBW.out.trans (hl.mono HBW.out.size))
  have HKK := hid (show k ≤ 96 by have := HVN.out.1; omega)
  have HVL := hid HVN.out.2
  clear how hfr hb0
  go_wp2_with fail
  go_loopw [7] (fun i wr => ∃ (j : Nat) (vh : Value) (st : S9) (wsj : List Nat), j ≤ l.length ∧ i = .int .i64 j ∧ OW9 w0 F t p g h c m tb ob root vh st wsj wr ∧ Ran9 (rdP16 t.L) root k st j) (fun i _ => l.length - (intOf i).toNat)
  case atStart => exact ⟨0, _, st0, ws, Nat.zero_le _, rfl, HOW.out, ⟨HFR.out.inv, HFR.out.len, by rw [HFR.out.tn]; exact Nat.zero_le _, by rw [HFR.out.h]; exact Nat.zero_le _⟩⟩
  case round =>
    obtain ⟨j, vh, st, wsj, hj, rfl, how, hran⟩ := hrel
    have HOK := hid how
    have HRAN := hid hran
    have HOR := hid (HOP.out.below (HBY.out.trans (how.tw.cw.low.mono HBY.out.size)))
    have hol := HVL.out
    clear how hran
    by_cases hlt : j < l.length
    · have d1 : decide ((j : Int) < (l.length : Int)) = true := by simp; omega
      have d1n : decide (j < l.length) = true := by simp; omega
      have HOKJ := hid (HOR.out.ok _ (List.getElem_mem hlt))
      have HDO := hid (does9_any vh st wsj l[j] _ HOK.out HRAN.out.inv HOKJ.out (by have := HRAN.out.hh; omega) (by have := HRAN.out.tn; omega))
      have HST := hid (HRAN.out.step (o := l[j]) HOKJ.out.q0 (rdP16_len t.L))
      obtain ⟨b, o, rfl, hcell⟩ := HOR.out.rows.some_of (by simp; omega)
      have gq := fun q hq => hcell j (by simpa using hlt) q hq
      have e9 : (l.map opC9)[j]'(by simpa using hlt) = opC9 l[j] := by simp
      rw [e9] at gq
      have g0 := gq 0 (by simp [opC9])
      have g1 := gq 1 (by simp [opC9])
      have g2 := gq 2 (by simp [opC9])
      have g3 := gq 3 (by simp [opC9])
      have g4 := gq 4 (by simp [opC9])
      have g5 := gq 5 (by simp [opC9])
      simp only [opC9, List.getElem_cons_zero, List.getElem_cons_succ, Nat.add_zero] at g0 g1 g2 g3 g4 g5
      unfold opC9 at HDO
      clear gq e9 hcell
      obtain ⟨st7, hst7⟩ : ∃ st7, st7 = does9 (rdP16 t.L) root st l[j] := ⟨_, rfl⟩
      rw [← hst7] at HDO HST
      generalize l[j] = oo at *
      have hj0 : (0 : Int) ≤ (j : Int) := by omega
      have hj1 : (j : Int) < (l.length : Int) := by omega
      have HJL := hid hlt
      clear hst7 HOKJ
      go_wp2_with fail
      refine (HDO.out).mono ?_
      rintro e w7 ⟨⟨v7, rfl⟩, ⟨vh7, ws7, how⟩, _⟩
      have H7 := hid how
      have HNL := hid (show st7.s.fs.length = k from HST.out.len)
      clear how g0 g1 g2 g3 g4 g5 hlt
      obtain ⟨hx7, hG7, hxl, hla, hln, hcn⟩ := cnt9 HST.out.inv H7.out.tw.cw.pool.n2
      have HG7 := hid hG7
      have HCN7 := hid hcn
      have HLN7 := hid (⟨hxl, hla, hln⟩ : _ ∧ _ ∧ _)
      have HSLN := hid (show st7.s.sl.length ≤ 1000000000 by have := hG7.many; have := H7.out.tw.cw.few; omega)
      clear hG7 hxl hla hln hcn
      obtain ⟨nf, hnf⟩ : ∃ nf, nf = st7.s.fs.length := ⟨_, rfl⟩
      have HNF := hid hnf
      have hnk9 : nf ≤ 96 := by have := HNL.out; have := HKK.out; omega
      have HNK9 := hid hnk9
      have HSZ := hid (size_any p g h st7.s.fs ws7 w7 H7.out.tw.cw.pool)
      rw [← HNF.out] at HSZ
      clear hnf
      obtain ⟨q0, q1, q2, q3⟩ := H7.out.own.four
      have hol7 := H7.out.own.lt
      go_wp2_with fail
      refine (HSZ.out).mono ?_
      rintro e wx ⟨rfl, rfl⟩
      go_wp2_with (at_make; refine wpList_make_row _ rfl _ _ 29 rfl 3 (.int .i64 0) 8 Tryz.underlying29 infoI9 rfl .i64 .i64 _ _ nf rfl rfl (by omega) (by omega) (by omega) (by omega) ?_; intro wm hrm hbm hsm; have HRM := hid hrm; have HBM := hid hbm; have HWM := hid (H7.out.below hbm); clear hrm hbm hsm q0 q1 q2 q3 hol7; obtain ⟨q0, q1, q2, q3⟩ := HWM.out.own.four; have hol7 := HWM.out.own.lt)
      refine (allU HWM.out HST.out.inv).mono ?_
      rintro e w8 ⟨v8, rfl, ho8, hb8⟩
      obtain ⟨a8, c8, rfl, _⟩ := own_puts ho8 HLN7.out.2.1
      have HO8 := hid ho8
      have HB8 := hid hb8
      have HW8 := hid (HWM.out.below hb8)
      clear ho8 hb8 q0 q1 q2 q3 hol7
      obtain ⟨q0, q1, q2, q3⟩ := HW8.out.own.four
      have hol7 := HW8.out.own.lt
      go_wp2_with fail
      refine (nodU HW8.out HST.out.inv).mono ?_
      rintro e w9 ⟨v9, rfl, ho9, hb9⟩
      obtain ⟨a9, c9, rfl, _⟩ := own_cel ho9
      have HO9 := hid ho9
      have HB9 := hid hb9
      have HW9 := hid (HW8.out.below hb9)
      clear ho9 hb9 q0 q1 q2 q3 hol7
      obtain ⟨q0, q1, q2, q3⟩ := HW9.out.own.four
      have hol7 := HW9.out.own.lt
      have HSLO := hid (slots_any w0 F t p g h c m st7.s ws7 (rdP16 t.L) hx7 w9 HW9.out.tw.cw HG7.out)
      go_wp2_with fail
      refine (HSLO.out).mono ?_
      rintro e wA ⟨vA, SL, rfl, hpm, _, hoA, hbA⟩
      obtain ⟨aA, cA, rfl, _⟩ := own_rk hoA (by intro r hr; obtain ⟨x, _, rfl⟩ := List.mem_map.1 hr; rfl) (by omega)
      have HSF := hid (show ∀ x ∈ SL, ((x.f.toNat : Nat) : Int) = x.f from fun x hx => by
        obtain ⟨f, e, _⟩ := HG7.out.fr x (hpm.subset hx)
        omega)
      have HSLL := hid (show SL.length ≤ 1000000000 by have := hpm.length_eq; have := HSLN.out; omega)
      have HOA := hid hoA
      have HWA := hid (HW9.out.below hbA)
      have hal := al_count (LA := allS root st7) (LN := nodS root st7) (H := st7.h) HG7.out hpm HCN7.out
      rw [← HNF.out] at hal
      obtain ⟨cb, hcb⟩ : ∃ cb, cb = w7.heap.size := ⟨_, rfl⟩
      rw [← hcb] at HRM ⊢
      have HCB := hid hcb
      have hb8A : Below w8.heap.size w8 wA := bthen HB9.out hbA
      have hbmA : Below wm.heap.size wm wA := bthen HB8.out hb8A
      have HRCB := hid (HRM.out.below hbmA HRM.out.lt)
      have HO8A := hid (own_below HO8.out hb8A)
      have HO9A := hid (own_below HO9.out hbA)
      have HBA := hid (show Below w7.heap.size w7 wA from bthen HBM.out hbmA)
      have hcm : cb < wm.heap.size := HRM.out.lt
      have hcm8 : wm.heap.size ≤ w8.heap.size := HB8.out.size
      have HN9 := hid (show ∀ k, (Value.slice a9 (nodS root st7).length c9).ownBlock = some k → ¬ k = cb from fun k e => by
        have := own_base HO9A.out k e
        omega)
      have HN8 := hid (show ∀ k, (Value.slice a8 (allS root st7).length c8).ownBlock = some k → ¬ k = cb from ob_ne HO8A.out HRCB.out (by decide))
      have HNA := hid (show ∀ k, (Value.slice aA SL.length cA).ownBlock = some k → ¬ k = cb from ob_ne HOA.out HRCB.out (by decide))
      clear hpm hoA hbA hcb hb8A hbmA hcm hcm8 q0 q1 q2 q3 hol7 HSLO
      have HLEN := hid (show st7.h.length ≤ 200 by have := HST.out.hh; have := HJL.out; have := HVL.out; omega)
      generalize allS root st7 = LA at *
      generalize nodS root st7 = LN at *
      obtain ⟨AL, hAL⟩ : ∃ AL, AL = AL9 LA LN SL st7.h := ⟨_, rfl⟩
      rw [← hAL] at hal
      have HAL := hid hAL
      have HCNT := hid hal.1
      have HBD := hid hal.2
      have HLM := hid (show LA.length ≤ 1000000 ∧ LN.length ≤ 1000000 ∧ SL.length ≤ 1000000000 ∧ st7.h.length ≤ 200 from ⟨HLN7.out.2.1, HLN7.out.2.2, HSLL.out, HLEN.out⟩)
      have HMS := hid (more_step cb nf AL (by have := HNK9.out; omega) hal.2 (by
        rw [hAL]
        unfold AL9
        simp only [List.length_append, List.length_map]
        have := HLM.out
        omega))
      have hzz : (List.replicate nf (.int .i64 0) : List Value) = ((tally (List.replicate nf 0) (AL.take 0)).map nI9) := by
        rw [List.take_zero]
        show _ = (List.replicate nf 0).map nI9
        rw [List.map_replicate]
        rfl
      rw [hzz] at HRCB
      clear hzz hAL hal
      have HWW := hid (fun (W : World) (he : EX (fun k => k = cb) wA W) => show OW9 w0 F t p g h c m tb ob root vh7 st7 ws7 W from H7.out.below (he.below HBA.out (fun k e => by rw [e, HCB.out]; exact Nat.le_refl _) HBA.out.size))
      have HL8 := hid (fun (W : World) (he : EX (fun k => k = cb) wA W) => show Rk W 4 a8 LA.length (LA.map putC) from by
        obtain ⟨x1, x2, e9, hk, _⟩ := own_rk (he.own HO8A.out HN8.out) (by intro r hr; obtain ⟨x, _, rfl⟩ := List.mem_map.1 hr; rfl) (by omega)
        cases e9
        exact hk)
      have HL9 := hid (fun (W : World) (he : EX (fun k => k = cb) wA W) => show Cel W a9 LN.length (LN.map nI9) from by
        obtain ⟨x1, x2, e9, hk, _⟩ := own_cel (he.own HO9A.out HN9.out)
        cases e9
        exact hk)
      have HLA := hid (fun (W : World) (he : EX (fun k => k = cb) wA W) => show Rk W 3 aA SL.length (SL.map slC) from by
        obtain ⟨x1, x2, e9, hk, _⟩ := own_rk (he.own HOA.out HNA.out) (by intro r hr; obtain ⟨x, _, rfl⟩ := List.mem_map.1 hr; rfl) (by omega)
        cases e9
        exact hk)
      have HRC := HRCB
      have HEC := hid (EX.refl (S := fun k => k = cb) wA)
      go_wp2_with fail
      go_loopw [8, 12] (fun cv i wr => ∃ q : Nat, q ≤ LA.length ∧ i = .int .i64 q ∧ cv = .slice (some ⟨cb, 0, none⟩) nf nf ∧ Row wr cb 3 ((tally (List.replicate nf 0) (AL.take (q))).map nI9) ∧ EX (fun k => k = cb) wA wr) (fun _ i _ => LA.length - (intOf i).toNat)
      case atStart => exact ⟨0, Nat.zero_le _, rfl, rfl, HRC.out, HEC.out⟩
      case round =>
        obtain ⟨q, hq, rfl, rfl, hrw, hex⟩ := hrel
        have HRW := hid hrw
        have HEX := hid hex
        have hlim := HLM.out
        clear hrw hex HRC HEC
        by_cases hqt : q < LA.length
        · have d3 : decide ((q : Int) < (LA.length : Int)) = true := by simp; omega
          have d3n : decide (q < LA.length) = true := by simp; omega
          have z0 : (0 : Int) ≤ (q : Int) := by omega
          have z1 : (q : Int) < (LA.length : Int) := by omega
          obtain ⟨b, o, rfl, hcell⟩ := (HL8.out _ HEX.out).some_of (by simp; omega)
          have gq := fun j hj => hcell q (by simpa using hqt) j hj
          have e9 : (LA.map putC)[q]'(by simpa using hqt) = putC LA[q] := by simp
          rw [e9] at gq
          have g0 := gq 0 (by simp [putC])
          have g1 := gq 1 (by simp [putC])
          have g2 := gq 2 (by simp [putC])
          have g3 := gq 3 (by simp [putC])
          simp only [putC, List.getElem_cons_zero, List.getElem_cons_succ, Nat.add_zero] at g0 g1 g2 g3
          have hbl := World.block_lt_of_cell? _ _ g0
          clear gq e9 hcell g0 g2 g3
          have HMO := hid (HMS.out (q) (LA[q].2.1) (by rw [HAL.out]; unfold AL9; exact get_first (by rw [List.getElem?_map, List.getElem?_eq_getElem hqt]; rfl)) _ HRW.out)
          generalize LA[q].2.1 = ff at *
          clear hqt
          go_wp2_with fail
          refine (HMO.out).mono ?_
          rintro e w' ⟨rfl, hr', hx'⟩
          have HR' := hid hr'
          have HX' := hid (HEX.out.trans hx')
          clear hr' hx'
          go_wp2_with fail
          go_roundw
          case rel => exact ⟨q + 1, by omega, by go_num, rfl, HR'.out, HX'.out⟩
          case measure => simp [intOf]; omega
        · have d3 : decide ((q : Int) < (LA.length : Int)) = false := by simp; omega
          have d3n : decide (q < LA.length) = false := by simp; omega
          obtain rfl : q = LA.length := by omega
          rename World => wZ
          have HRC := HRW
          have HEC := HEX
          clear HRW HEX
          have HL1 := hid (show True from trivial)
          go_wp2_with fail
          go_loopw [8, 13] (fun cv i wr => ∃ q : Nat, q ≤ LN.length ∧ i = .int .i64 q ∧ cv = .slice (some ⟨cb, 0, none⟩) nf nf ∧ Row wr cb 3 ((tally (List.replicate nf 0) (AL.take (LA.length + q))).map nI9) ∧ EX (fun k => k = cb) wA wr) (fun _ i _ => LN.length - (intOf i).toNat)
          case atStart => exact ⟨0, Nat.zero_le _, rfl, rfl, HRC.out, HEC.out⟩
          case round =>
            obtain ⟨q, hq, rfl, rfl, hrw, hex⟩ := hrel
            have HRW := hid hrw
            have HEX := hid hex
            have hlim := HLM.out
            clear hrw hex HRC HEC
            by_cases hqt : q < LN.length
            · have d3 : decide ((q : Int) < (LN.length : Int)) = true := by simp; omega
              have d3n : decide (q < LN.length) = true := by simp; omega
              have z0 : (0 : Int) ≤ (q : Int) := by omega
              have z1 : (q : Int) < (LN.length : Int) := by omega
              obtain ⟨b, o, rfl, hcell⟩ := (HL9.out _ HEX.out).some_of (by simp; omega)
              have g0 := hcell q (by simpa using hqt)
              rw [List.getElem_map] at g0
              unfold nI9 at g0
              have hbl := World.block_lt_of_cell? _ _ g0
              clear hcell
              have HMO := hid (HMS.out (LA.length + q) (LN[q]) (by rw [HAL.out]; unfold AL9; have := get_second (A := LA.map (fun y => y.2.1)) (get_first (B := SL.map (fun x => x.f.toNat) ++ st7.h) (List.getElem?_eq_getElem hqt)); rwa [List.length_map] at this) _ HRW.out)
              generalize LN[q] = ff at *
              clear hqt
              go_wp2_with fail
              refine (HMO.out).mono ?_
              rintro e w' ⟨rfl, hr', hx'⟩
              have HR' := hid hr'
              have HX' := hid (HEX.out.trans hx')
              clear hr' hx'
              go_wp2_with fail
              go_roundw
              case rel => exact ⟨q + 1, by omega, by go_num, rfl, HR'.out, HX'.out⟩
              case measure => simp [intOf]; omega
            · have d3 : decide ((q : Int) < (LN.length : Int)) = false := by simp; omega
              have d3n : decide (q < LN.length) = false := by simp; omega
              obtain rfl : q = LN.length := by omega
              rename World => wZ
              have HRC := HRW
              have HEC := HEX
              clear HRW HEX
              go_wp2_with fail
              go_loopw [8, 14] (fun cv i wr => ∃ q : Nat, q ≤ SL.length ∧ i = .int .i64 q ∧ cv = .slice (some ⟨cb, 0, none⟩) nf nf ∧ Row wr cb 3 ((tally (List.replicate nf 0) (AL.take (LA.length + (LN.length + q)))).map nI9) ∧ EX (fun k => k = cb) wA wr) (fun _ i _ => SL.length - (intOf i).toNat)
              case atStart => exact ⟨0, Nat.zero_le _, rfl, rfl, HRC.out, HEC.out⟩
              case round =>
                obtain ⟨q, hq, rfl, rfl, hrw, hex⟩ := hrel
                have HRW := hid hrw
                have HEX := hid hex
                have hlim := HLM.out
                clear hrw hex HRC HEC
                by_cases hqt : q < SL.length
                · have d3 : decide ((q : Int) < (SL.length : Int)) = true := by simp; omega
                  have d3n : decide (q < SL.length) = true := by simp; omega
                  have z0 : (0 : Int) ≤ (q : Int) := by omega
                  have z1 : (q : Int) < (SL.length : Int) := by omega
                  obtain ⟨b, o, rfl, hcell⟩ := (HLA.out _ HEX.out).some_of (by simp; omega)
                  have gq := fun j hj => hcell q (by simpa using hqt) j hj
                  have e9 : (SL.map slC)[q]'(by simpa using hqt) = slC SL[q] := by simp
                  rw [e9] at gq
                  have g0 := gq 0 (by simp [slC])
                  have g1 := gq 1 (by simp [slC])
                  have g2 := gq 2 (by simp [slC])
                  simp only [slC, List.getElem_cons_zero, List.getElem_cons_succ, Nat.add_zero] at g0 g1 g2
                  have hbl := World.block_lt_of_cell? _ _ g0
                  clear gq e9 hcell g0 g1
                  have esf := HSF.out SL[q] (List.getElem_mem hqt)
                  rw [← esf] at g2
                  clear esf
                  have HMO := hid (HMS.out (LA.length + (LN.length + q)) (SL[q].f.toNat) (by rw [HAL.out]; unfold AL9; have := get_second (A := LA.map (fun y => y.2.1)) (get_second (A := LN) (get_first (B := st7.h) (show (SL.map (fun x => x.f.toNat))[q]? = some SL[q].f.toNat by rw [List.getElem?_map, List.getElem?_eq_getElem hqt]; rfl))); rwa [List.length_map] at this) _ HRW.out)
                  generalize SL[q].f.toNat = ff at *
                  clear hqt
                  go_wp2_with fail
                  refine (HMO.out).mono ?_
                  rintro e w' ⟨rfl, hr', hx'⟩
                  have HR' := hid hr'
                  have HX' := hid (HEX.out.trans hx')
                  clear hr' hx'
                  go_wp2_with fail
                  go_roundw
                  case rel => exact ⟨q + 1, by omega, by go_num, rfl, HR'.out, HX'.out⟩
                  case measure => simp [intOf]; omega
                · have d3 : decide ((q : Int) < (SL.length : Int)) = false := by simp; omega
                  have d3n : decide (q < SL.length) = false := by simp; omega
                  obtain rfl : q = SL.length := by omega
                  rename World => wZ
                  have HRC := HRW
                  have HEC := HEX
                  clear HRW HEX
                  obtain ⟨va, vc, e9, hcl7, _⟩ := own_cel (HWW.out _ HEC.out).hh
                  subst e9
                  have HCL7 := hid (fun (W : World) (he : EX (fun k => k = cb) wA W) => show Cel W va st7.h.length (st7.h.map nI9) from by
                    obtain ⟨x1, x2, e9, hk, _⟩ := own_cel (HWW.out W he).hh
                    cases e9
                    exact hk)
                  clear hcl7
                  go_wp2_with fail
                  go_loopw [8, 15] (fun cv i wr => ∃ q : Nat, q ≤ st7.h.length ∧ i = .int .i64 q ∧ cv = .slice (some ⟨cb, 0, none⟩) nf nf ∧ Row wr cb 3 ((tally (List.replicate nf 0) (AL.take (LA.length + (LN.length + (SL.length + q))))).map nI9) ∧ EX (fun k => k = cb) wA wr) (fun _ i _ => st7.h.length - (intOf i).toNat)
                  case atStart => exact ⟨0, Nat.zero_le _, rfl, rfl, HRC.out, HEC.out⟩
                  case round =>
                    obtain ⟨q, hq, rfl, rfl, hrw, hex⟩ := hrel
                    have HRW := hid hrw
                    have HEX := hid hex
                    have hlim := HLM.out
                    obtain ⟨q0, q1, q2, q3⟩ := (HWW.out _ HEX.out).own.four
                    have hol7 := (HWW.out _ HEX.out).own.lt
                    clear hrw hex HRC HEC
                    by_cases hqt : q < st7.h.length
                    · have d3 : decide ((q : Int) < (st7.h.length : Int)) = true := by simp; omega
                      have d3n : decide (q < st7.h.length) = true := by simp; omega
                      have z0 : (0 : Int) ≤ (q : Int) := by omega
                      have z1 : (q : Int) < (st7.h.length : Int) := by omega
                      obtain ⟨b, o, rfl, hcell⟩ := (HCL7.out _ HEX.out).some_of (by simp; omega)
                      have g0 := hcell q (by simpa using hqt)
                      rw [List.getElem_map] at g0
                      unfold nI9 at g0
                      have hbl := World.block_lt_of_cell? _ _ g0
                      clear hcell
                      have HMO := hid (HMS.out (LA.length + (LN.length + (SL.length + q))) (st7.h[q]) (by rw [HAL.out]; unfold AL9; have := get_second (A := LA.map (fun y => y.2.1)) (get_second (A := LN) (get_second (A := SL.map (fun x => x.f.toNat)) (List.getElem?_eq_getElem hqt))); rwa [List.length_map, List.length_map] at this) _ HRW.out)
                      generalize st7.h[q] = ff at *
                      clear hqt
                      go_wp2_with fail
                      refine (HMO.out).mono ?_
                      rintro e w' ⟨rfl, hr', hx'⟩
                      have HR' := hid hr'
                      have HX' := hid (HEX.out.trans hx')
                      clear hr' hx'
                      go_wp2_with fail
                      go_roundw
                      case rel => exact ⟨q + 1, by omega, by go_num, rfl, HR'.out, HX'.out⟩
                      case measure => simp [intOf]; omega
                    · have d3 : decide ((q : Int) < (st7.h.length : Int)) = false := by simp; omega
                      have d3n : decide (q < st7.h.length) = false := by simp; omega
                      obtain rfl : q = st7.h.length := by omega
                      rename World => wZ
                      have HRC := HRW
                      have HEC := HEX
                      clear HRW HEX
                      rw [show AL.take (LA.length + (LN.length + (SL.length + st7.h.length))) = AL from List.take_of_length_le (by rw [HAL.out]; unfold AL9; simp only [List.length_append, List.length_map]; omega)] at HRC
                      obtain ⟨wF, hwF⟩ : ∃ wF, wF = wZ := ⟨_, rfl⟩
                      rw [← hwF] at HRC HEC ⊢
                      clear hwF
                      have HWF := hid (HWW.out wF HEC.out)
                      clear q0 q1 q2 q3 hol7
                      obtain ⟨q0, q1, q2, q3⟩ := HWF.out.own.four
                      have hol7 := HWF.out.own.lt
                      go_wp2_with fail
                      go_loopw [16] (fun i wr => ∃ q : Nat, q ≤ nf ∧ i = .int .i64 q ∧ Below wF.heap.size wF wr) (fun i _ => nf - (intOf i).toNat)
                      case atStart => exact ⟨0, Nat.zero_le _, rfl, Below.refl _ _⟩
                      case round =>
                        obtain ⟨q, hq, rfl, hbr⟩ := hrel
                        have HBR := hid hbr
                        have HWR := hid (HWF.out.below hbr)
                        have HRR := hid (HRC.out.below hbr HRC.out.lt)
                        clear hbr
                        have hnk9 := HNK9.out
                        by_cases hqt : q < nf
                        · have d3 : decide ((q : Int) < (nf : Int)) = true := by simp; omega
                          have d3n : decide (q < nf) = true := by simp; omega
                          have z0 : (0 : Int) ≤ (q : Int) := by omega
                          have z1 : (q : Int) < (nf : Int) := by omega
                          have hcq := HCNT.out q hqt
                          have hql : q < (tally (List.replicate nf 0) AL).length := by rw [tally_len, List.length_replicate]; exact hqt
                          have g0 := HRR.out.cell q (by rw [List.length_map]; exact hql)
                          rw [List.getElem_map] at g0
                          have hgq : (tally (List.replicate nf 0) AL)[q] = AL.count q := by
                            have h1 := tally_zero nf AL (fun f hf => HBD.out f hf) q
                            rw [List.getD_eq_getElem?_getD, List.getElem?_eq_getElem hql] at h1
                            exact h1
                          rw [hgq] at g0
                          unfold nI9 at g0
                          have hgl := HRR.out.lt
                          clear q0 q1 q2 q3 hol7
                          obtain ⟨q0, q1, q2, q3⟩ := HWR.out.own.four
                          have hol7 := HWR.out.own.lt
                          have HCQ := hid (fun n9 => count_any p g h st7.s.fs ws7 (q : Int) (wr.drewN n9) (HWR.out.below (bdN (Below.refl _ _) n9)).tw.cw.pool)
                          rw [hcq] at HCQ
                          obtain ⟨cn, hcn⟩ : ∃ cn : Int, cn = ((AL.count q : Nat) : Int) := ⟨_, rfl⟩
                          rw [← hcn] at HCQ g0
                          have e1 : (cn != cn) = false := by simp
                          clear hcq hql hgq hcn
                          go_wp2_with fail
                          go_quiet ((go_at_call 22; exact Calls.quiet_of_same ((HCQ.out _).mono (fun _ _ h => ⟨h.1, h.2.symm⟩))))
                          go_wp2_with fail
                          go_roundw
                          case rel => exact ⟨q + 1, by omega, by go_num, bdN HBR.out _⟩
                          case measure => simp [intOf]; omega
                        · have d3 : decide ((q : Int) < (nf : Int)) = false := by simp; omega
                          have d3n : decide (q < nf) = false := by simp; omega
                          have H9 := HWR
                          have hjl := HJL.out
                          go_wp2_with fail
                          go_roundw
                          case rel => exact ⟨j + 1, _, st7, ws7, by omega, by go_num, H9.out, HST.out⟩
                          case measure => simp [intOf]; omega
    · have d1 : decide ((j : Int) < (l.length : Int)) = false := by simp; omega
      have d1n : decide (j < l.length) = false := by simp; omega
      have HBZ := hid (HLOW.out _ HOK.out.tw.cw.low)
      go_wp2_with fail
      refine (HWK.out _ HBZ.out).mono ?_
      rintro e wk ⟨rfl, hbk⟩
      have HBK := hid (bthen HBZ.out hbk)
      clear hbk
      go_wp2_with fail
      go_ret
      exact ⟨rfl, HBK.out⟩
end Go.Proofs.YtncikcllhjhjmaaGreatDoor
