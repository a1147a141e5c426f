
/- dynamic.Look, dynamic.Right. -/
import Derived.Test.YtkkadknijjninaaDoorQb5
import Derived.Test.YtkkadknijjninaaDoorKQ3
import Derived.Test.YtkkadknijjninaaDoorKE
import Derived.Deep.RegionHeld3
namespace Go.Proofs.YtkkadknijjninaaDoor
open Go.RowKit Go.Sort Go.Shelf Go.WideMaps Go.Maps
attribute [local go_sem] Oper.semAt_some

theorem lnk_flat : ∀ (xs : List Int), (xs.map lnkC).flatten = xs.map (Value.int .u64)
  | [] => rfl
  | x :: xs => by rw [List.map_cons, List.flatten_cons, lnk_flat xs]; rfl
theorem ownU_nums {W : World} {base n c : Nat} {a : Option Addr} {xs : List Int} (h : OwnU W base (.slice a n c) xs) : n = xs.length ∧ Nums W .u64 a xs.length xs := by
  have h' : W.ownsRow base 24 1 (.slice a n c) xs.length (xs.map (Value.int .u64)) := own_ext h (by rw [List.length_map]) (lnk_flat xs)
  obtain ⟨a1, c1, he, hn⟩ := own_nums h'
  cases he
  exact ⟨rfl, hn⟩
theorem ownD_rk {W : World} {base n c : Nat} {a : Option Addr} {xs : List SY} (h : OwnD W base (.slice a n c) xs) : n = xs.length ∧ Rk W 5 a xs.length (xs.map dsC) := by
  obtain ⟨a1, c1, he, hk, _⟩ := own_rk h (dsC_len xs) (by decide)
  cases he
  rw [List.length_map] at hk ⊢
  exact ⟨rfl, hk⟩
structure ORd (o : OBJ) (z : Z7) (W : World) : Prop where
  n3 : z.n3 = o.sy.length
  n5 : z.n5 = o.bs.length
  n6 : z.n6 = o.cs.length
  k3 : Rk W 5 z.b3 o.sy.length (o.sy.map dsC)
  u5 : Nums W .u64 z.b5 o.bs.length o.bs
  u6 : Nums W .u64 z.b6 o.cs.length o.cs
theorem ORd.below {o : OBJ} {z : Z7} {W W' : World} (h : ORd o z W) (hb : Below W.heap.size W W') : ORd o z W' := ⟨h.n3, h.n5, h.n6, h.k3.below' hb, h.u5.below' hb, h.u6.below' hb⟩
/-- What a lookup answers of an object that was read. -/
def lookF (o : OBJ) (s : BL) (x : Int) : Bool := decide ((o.sy.getD (x - 1).toNat default).name = s)
def lookO (o : OBJ) (s : BL) : Int × Bool := match (linksL o.bs o.cs s).1.find? (lookF o s) with
  | none => (0, false)
  | some x => (x - 1, true)
def lookR (R : Int ⊕ OBJ) (s : BL) : Int × Bool := match R with
  | .inl _ => (0, false)
  | .inr o => lookO o s
def rightQ (o : OBJ) (i : Nat) : Bool := decide ((o.sy.getD i default).name = []) || leadsB o.bs o.cs (o.sy.getD i default).name ((i : Int) + 1)
def rightR (R : Int ⊕ OBJ) : Bool := match R with
  | .inl _ => false
  | .inr o => (List.range o.sy.length).all (rightQ o)
theorem sy_at {o : OBJ} {i : Nat} (h : i < o.sy.length) : o.sy.getD i default = o.sy[i] := by rw [List.getD_eq_getElem?_getD, List.getElem?_eq_getElem h]; rfl
theorem ba_emp (s : BL) : (ba s).toList.isEmpty = decide (s = []) := ba_nil (ba s)
set_option maxRecDepth 100000 in
set_option maxHeartbeats 8000000 in
theorem Look_any (ab : Option Addr) (cap : Nat) (l : BL) (typ entry phoff : Int) (a : Option Addr) (c : Nat) (sg : List SG) (s : BL) (w : World) (hs : Sizes w) (hB : Byt w ab l.length l) (hlc : l.length ≤ cap) (hl : l.length ≤ 1000000000) (hS : Sgs w a sg.length sg) (hn : sg.length ≤ 1000000000) (hok : ∀ s ∈ sg, SGok s) (hsl : s.length ≤ 140737488351232) :
    Calls Tryd.prog 10 #[.slice ab l.length cap, .agg #[.int .u16 typ, .int .u64 entry, .int .u64 phoff, .slice a sg.length c], .string (ba s)] w (fun e w' => e = .returned (.tuple #[.int .i64 (lookR (parseO l sg) s).1, .bool (lookR (parseO l sg) s).2]) ∧ Below w.heap.size w w') := by
  obtain ⟨W, hW⟩ : ∃ W, W = w.alloc (.cells #[.int .u16 typ, .int .u64 entry, .int .u64 phoff, .slice a sg.length c] 27) := ⟨_, rfl⟩
  have HW := hid hW
  have HLOW := hid (show Below w.heap.size w W by rw [hW]; exact bal _)
  have HRA := hid (show Row W w.heap.size 27 [.int .u16 typ, .int .u64 entry, .int .u64 phoff, .slice a sg.length c] by rw [hW]; exact Row.new _ _ _)
  have HPA := hid ((parse_any ab cap l typ entry phoff a c sg W (hs.below HLOW.out) (hB.below' HLOW.out) hlc hl (hS.below' HLOW.out) hn hok).mono (fun e w' h => readP_flat h))
  have HPO := hid (fun o (h : parseO l sg = .inr o) => parseO_ok hl h)
  have HSL := hid hsl
  generalize parseO l sg = R at HPA HPO ⊢
  obtain ⟨D, hD⟩ : ∃ D, D = lookR R s := ⟨_, rfl⟩
  rw [← hD]
  have HD := hid hD
  obtain ⟨x0, x1, x2, x3⟩ := HRA.out.four
  clear hW hs hB hS hl hlc hn hok hsl hD
  go_enter Tryd.func10, Tryd.ntmps10
  go_wp2_with fail
  rw [← HW.out]
  go_wp2_with fail
  refine HPA.out.mono ?_
  rintro e' w1 ⟨z, er, rfl, hfin, hb1⟩
  have HLO1 := hid (HLOW.out.trans (hb1.mono HLOW.out.size))
  clear hb1 x0 x1 x2 x3
  rcases hfin with ⟨rfl, her, rfl⟩ | ⟨o, rfl, rfl, h3, h4, k0, k3, k4, k5, k6⟩
  · have e5 : (er != 0) = true := by simpa using her
    have e6 : (er == 0) = false := by simpa using her
    unfold z70
    go_wp2_with fail
    go_ret2
    exact ⟨by rw [HD.out]; rfl, HLO1.out.alloc HLO1.out.size _⟩
  have HRD := hid (show ORd o z w1 from ⟨(ownD_rk k3).1, (ownU_nums k5).1, (ownU_nums k6).1, (ownD_rk k3).2, (ownU_nums k5).2, (ownU_nums k6).2⟩)
  have HOK := hid (HPO.out o rfl)
  clear h3 h4 k0 k3 k4 k5 k6
  obtain ⟨z0, zn0, zk0, zs1, zs2, z3, zn3, zk3, z4, zn4, zk4, z5, zn5, zk5, z6, zn6, zk6⟩ := z
  obtain ⟨n3, n5, n6, k3, u5, u6⟩ := HRD.out
  simp only at n3 n5 n6 k3 u5 u6
  subst n3 n5 n6
  obtain ⟨W7, hW7⟩ : ∃ W7, W7 = w1.alloc (.cells #[.slice z0 zn0 zk0, .string zs1, .string zs2, .slice z3 o.sy.length zk3, .slice z4 zn4 zk4, .slice z5 o.bs.length zk5, .slice z6 o.cs.length zk6] 60) := ⟨_, rfl⟩
  have HW7 := hid hW7
  have HL7 := hid (show Below w1.heap.size w1 W7 by rw [hW7]; exact bal _)
  have HR7 := hid (show Row W7 w1.heap.size 60 [.slice z0 zn0 zk0, .string zs1, .string zs2, .slice z3 o.sy.length zk3, .slice z4 zn4 zk4, .slice z5 o.bs.length zk5, .slice z6 o.cs.length zk6] by rw [hW7]; exact Row.new _ _ _)
  have HLK := hid (links_any z5 z6 zk5 zk6 o.bs o.cs s W7 (u5.below' HL7.out) (u6.below' HL7.out) HOK.out.bl (Nat.le_trans HOK.out.cl (by decide)) HOK.out.cu HOK.out.bu HSL.out)
  have HK3 := hid (k3.below' HL7.out)
  have HLO7 := hid (HLO1.out.trans (HL7.out.mono HLO1.out.size))
  have HDD := hid (show D = (match (linksL o.bs o.cs s).1.find? (lookF o s) with | none => (0, false) | some x => (x - 1, true)) by rw [HD.out]; rfl)
  have HMEM := hid (linksL_mem (s := s) (fun x hx => (HOK.out.cu x hx).1) (fun x hx => (HOK.out.bu x hx).1))
  have HLL := hid (linksL_len o.bs o.cs s)
  generalize linksL o.bs o.cs s = LL at HDD HMEM HLL HLK
  obtain ⟨acc, ends⟩ := LL
  obtain ⟨y0, y1, y2, y3, y4, y5, y6⟩ := HR7.out.seven
  have hrl := HR7.out.lt
  clear hW7 k3 u5 u6
  go_wp2_with fail
  rw [← HW7.out]
  go_wp2_with fail
  refine HLK.out.mono ?_
  intro e2 w2 h2
  obtain ⟨⟨a9, c9, rfl, hn9⟩, hb2⟩ := (show LnkP _ _ _ _ from h2)
  have HN := hid hn9
  have HR8 := hid (HR7.out.below hb2 HR7.out.lt)
  have HK8 := hid (HK3.out.below' hb2)
  have HLO8 := hid (HLO7.out.trans (hb2.mono HLO7.out.size))
  clear h2 hn9 hb2 y0 y1 y2 y3 y4 y5 y6 hrl
  have y3 := HR8.out.seven.2.2.2.1
  have hrl := HR8.out.lt
  go_wp2_with fail
  go_loopw [31] (fun i wr => ∃ k : Nat, k ≤ acc.length ∧ i = .int .i64 k ∧ (acc.take k).any (lookF o s) = false ∧ w2 = wr) (fun i _ => acc.length - (intOf i).toNat)
  case atStart => exact ⟨0, Nat.zero_le _, rfl, by simp, rfl⟩
  case round =>
    obtain ⟨k, hk, rfl, hno, rfl⟩ := hrel
    have hll := (show acc.length ≤ o.cs.length from HLL.out)
    have hcl := HOK.out.cl
    have HNO := hid hno
    clear hno
    by_cases hlt : k < acc.length
    · have d2 : decide ((k : Int) < (acc.length : Int)) = true := by simp; omega
      have d2n : decide (k < acc.length) = true := by simp; omega
      obtain ⟨b9, o9, rfl, hcj⟩ := HN.out.cell k hlt
      have hm := HMEM.out acc[k] (List.getElem_mem hlt)
      have hcs := HOK.out.cs
      obtain ⟨j, hj⟩ : ∃ j : Nat, acc[k] = (j : Int) + 1 := ⟨(acc[k] - 1).toNat, by omega⟩
      have hjl : j < o.sy.length := by omega
      have hj0 : (0 : Int) ≤ (j : Int) := by omega
      have hj1 : (j : Int) < (o.sy.length : Int) := by omega
      have hsl := HOK.out.sl
      obtain ⟨b, off, rfl, hc⟩ := HK8.out.some_of (by simp; omega)
      have hcc := hc j (by simpa using hjl)
      rw [List.getElem_map] at hcc
      have x0 := hcc 0 (by simp [dsC])
      simp only [dsC, List.getElem_cons_zero, Nat.add_zero] at x0
      have ewa := IntWalk.u64_in ((j : Int) + 1 - 1) ⟨by omega, by omega⟩
      have ewb := IntWalk.u64_in (j : Int) ⟨by omega, by omega⟩
      have ewc := IntWalk.i64_in (j : Int) ⟨by omega, by omega⟩
      have ejj : (j : Int) + 1 - 1 = (j : Int) := by omega
      have HLF := hid (show lookF o s acc[k] = decide (o.sy[j].name = s) by unfold lookF; rw [hj, show ((j : Int) + 1 - 1).toNat = j by omega, sy_at hjl])
      rw [hj] at hcj
      have hq := ba_beq2 o.sy[j].name s
      by_cases he : o.sy[j].name = s
      · have HF := hid (show D = ((j : Int), true) by
          rw [HDD.out, find_hit hlt HNO.out (by rw [HLF.out]; simpa using he), hj]
          simp only [ejj])
        rw [decide_eq_true he] at hq
        generalize o.sy[j].name = nm at *
        clear he hm hcc hc
        go_wp2_with fail
        go_ret2
        exact ⟨by rw [HF.out]; rfl, HLO8.out⟩
      · have HT := hid (any_more hlt HNO.out (by rw [HLF.out]; simpa using he))
        rw [decide_eq_false he] at hq
        generalize o.sy[j].name = nm at *
        clear he hm hcc hc
        go_wp2_with fail
        go_roundw
        case rel => exact ⟨k + 1, by omega, by go_num, HT.out, trivial⟩
        case measure => simp [intOf]; omega
    · have d2 : decide ((k : Int) < (acc.length : Int)) = false := by simp; omega
      have d2n : decide (k < acc.length) = false := by simp; omega
      have HF := hid (show D = (0, false) by
        have hno := HNO.out
        rw [List.take_of_length_le (by omega)] at hno
        rw [HDD.out, find_miss hno])
      clear hlt hk
      go_wp2_with fail
      go_ret2
      exact ⟨by rw [HF.out]; rfl, HLO8.out⟩
set_option maxRecDepth 100000 in
set_option maxHeartbeats 8000000 in
theorem Right_any (ab : Option Addr) (cap : Nat) (l : BL) (typ entry phoff : Int) (a : Option Addr) (c : Nat) (sg : List SG) (w : World) (hs : Sizes w) (hB : Byt w ab l.length l) (hlc : l.length ≤ cap) (hl : l.length ≤ 1000000000) (hS : Sgs w a sg.length sg) (hn : sg.length ≤ 1000000000) (hok : ∀ s ∈ sg, SGok s) :
    Calls Tryd.prog 14 #[.slice ab l.length cap, .agg #[.int .u16 typ, .int .u64 entry, .int .u64 phoff, .slice a sg.length c]] w (fun e w' => e = .returned (.bool (rightR (parseO l sg))) ∧ Below w.heap.size w w') := by
  obtain ⟨W, hW⟩ : ∃ W, W = w.alloc (.cells #[.int .u16 typ, .int .u64 entry, .int .u64 phoff, .slice a sg.length c] 27) := ⟨_, rfl⟩
  have HW := hid hW
  have HLOW := hid (show Below w.heap.size w W by rw [hW]; exact bal _)
  have HRA := hid (show Row W w.heap.size 27 [.int .u16 typ, .int .u64 entry, .int .u64 phoff, .slice a sg.length c] by rw [hW]; exact Row.new _ _ _)
  have HPA := hid ((parse_any ab cap l typ entry phoff a c sg W (hs.below HLOW.out) (hB.below' HLOW.out) hlc hl (hS.below' HLOW.out) hn hok).mono (fun e w' h => readP_flat h))
  have HPO := hid (fun o (h : parseO l sg = .inr o) => parseO_ok hl h)
  generalize parseO l sg = R at HPA HPO ⊢
  obtain ⟨D, hD⟩ : ∃ D, D = rightR R := ⟨_, rfl⟩
  rw [← hD]
  have HDR := hid hD
  obtain ⟨x0, x1, x2, x3⟩ := HRA.out.four
  clear hW hs hB hS hl hlc hn hok hD
  go_enter Tryd.func14, Tryd.ntmps14
  go_wp2_with fail
  rw [← HW.out]
  go_wp2_with fail
  refine HPA.out.mono ?_
  rintro e' w1 ⟨z, er, rfl, hfin, hb1⟩
  have HLO1 := hid (HLOW.out.trans (hb1.mono HLOW.out.size))
  clear hb1 x0 x1 x2 x3
  rcases hfin with ⟨rfl, her, rfl⟩ | ⟨o, rfl, rfl, h3, h4, k0, k3, k4, k5, k6⟩
  · have e5 : (er != 0) = true := by simpa using her
    have e6 : (er == 0) = false := by simpa using her
    unfold z70
    go_wp2_with fail
    go_ret
    exact ⟨by rw [HDR.out]; rfl, HLO1.out.alloc HLO1.out.size _⟩
  have HRD := hid (show ORd o z w1 from ⟨(ownD_rk k3).1, (ownU_nums k5).1, (ownU_nums k6).1, (ownD_rk k3).2, (ownU_nums k5).2, (ownU_nums k6).2⟩)
  have HOK := hid (HPO.out o rfl)
  clear h3 h4 k0 k3 k4 k5 k6
  obtain ⟨z0, zn0, zk0, zs1, zs2, z3, zn3, zk3, z4, zn4, zk4, z5, zn5, zk5, z6, zn6, zk6⟩ := z
  obtain ⟨n3, n5, n6, k3, u5, u6⟩ := HRD.out
  simp only at n3 n5 n6 k3 u5 u6
  subst n3 n5 n6
  obtain ⟨W7, hW7⟩ : ∃ W7, W7 = w1.alloc (.cells #[.slice z0 zn0 zk0, .string zs1, .string zs2, .slice z3 o.sy.length zk3, .slice z4 zn4 zk4, .slice z5 o.bs.length zk5, .slice z6 o.cs.length zk6] 60) := ⟨_, rfl⟩
  have HW7 := hid hW7
  have HL7 := hid (show Below w1.heap.size w1 W7 by rw [hW7]; exact bal _)
  have HR7 := hid (show Row W7 w1.heap.size 60 [.slice z0 zn0 zk0, .string zs1, .string zs2, .slice z3 o.sy.length zk3, .slice z4 zn4 zk4, .slice z5 o.bs.length zk5, .slice z6 o.cs.length zk6] by rw [hW7]; exact Row.new _ _ _)
  have HU5 := hid (u5.below' HL7.out)
  have HU6 := hid (u6.below' HL7.out)
  have HK3 := hid (k3.below' HL7.out)
  have HLO7 := hid (HLO1.out.trans (HL7.out.mono HLO1.out.size))
  have HD := hid (show D = (List.range o.sy.length).all (rightQ o) by rw [HDR.out]; rfl)
  obtain ⟨y0, y1, y2, y3, y4, y5, y6⟩ := HR7.out.seven
  have hrl := HR7.out.lt
  clear hW7 k3 u5 u6
  go_wp2_with fail
  rw [← HW7.out]
  go_wp2_with fail
  clear y0 y1 y2 y3 y4 y5 y6 hrl
  go_loopw [21] (fun i wr => ∃ k : Nat, k ≤ o.sy.length ∧ i = .int .i64 k ∧ (∀ q, q < k → rightQ o q = true) ∧ St W7 wr) (fun i _ => o.sy.length - (intOf i).toNat)
  case atStart => exact ⟨0, Nat.zero_le _, rfl, fun q h => by omega, St.refl _⟩
  case round =>
    obtain ⟨k, hk, rfl, hno, hst⟩ := hrel
    have hsl := HOK.out.sl
    have HNO := hid hno
    have HST := hid hst
    clear hno hst
    by_cases hlt : k < o.sy.length
    · have d2 : decide ((k : Int) < (o.sy.length : Int)) = true := by simp; omega
      have d2n : decide (k < o.sy.length) = true := by simp; omega
      obtain ⟨b, off, rfl, hc⟩ := (HK3.out.below' HST.out).some_of (by simp; omega)
      have hcc := hc k (by simpa using hlt)
      rw [List.getElem_map] at hcc
      have x0 := hcc 0 (by simp [dsC])
      have x1 := hcc 1 (by simp [dsC])
      have x2 := hcc 2 (by simp [dsC])
      have x3 := hcc 3 (by simp [dsC])
      have x4 := hcc 4 (by simp [dsC])
      simp only [dsC, List.getElem_cons_zero, List.getElem_cons_succ, Nat.add_zero] at x0 x1 x2 x3 x4
      have HNM := hid (HOK.out.nm o.sy[k] (List.getElem_mem hlt))
      have HQ := hid (show rightQ o k = (decide (o.sy[k].name = []) || leadsB o.bs o.cs o.sy[k].name ((k : Int) + 1)) by unfold rightQ; rw [sy_at hlt])
      generalize o.sy[k] = y at *
      obtain ⟨nm, yv, ys, yb, yd⟩ := y
      simp only at x0 x1 x2 x3 x4 HNM HQ
      have hq := ba_emp nm
      obtain ⟨Wr, hWr⟩ : ∃ Wr, Wr = wr.alloc (.cells #[.string (ba nm), .int .u64 yv, .int .u64 ys, .int .u8 yb, .bool yd] 46) := ⟨_, rfl⟩
      have HWR := hid hWr
      have HSR := hid (show St W7 Wr by rw [hWr]; exact HST.out.step (bal _))
      have HRR := hid (show Row Wr wr.heap.size 46 [.string (ba nm), .int .u64 yv, .int .u64 ys, .int .u8 yb, .bool yd] by rw [hWr]; exact Row.new _ _ _)
      have HR8 := hid (HR7.out.below HSR.out HR7.out.lt)
      have HLE := hid (fun (wx : World) (hx : St Wr wx) => leads_any z5 z6 zk5 zk6 o.bs o.cs nm ((k : Int) + 1) wx (HU5.out.below' (HSR.out.step hx)) (HU6.out.below' (HSR.out.step hx)) HOK.out.bl (Nat.le_trans HOK.out.cl (by decide)) HOK.out.cu HOK.out.bu (Nat.le_trans HNM.out (by decide)))
      have HS0 := hid (St.refl Wr)
      clear hWr
      by_cases he : nm = []
      · have HT := hid (show rightQ o k = true by rw [HQ.out, decide_eq_true he]; rfl)
        rw [decide_eq_true he] at hq
        clear he hcc hc
        go_wp2_with fail
        rw [← HWR.out]
        go_roundw
        case rel => exact ⟨k + 1, by omega, by go_num, fun q h => by rcases Nat.lt_succ_iff_lt_or_eq.1 h with h | rfl; exact HNO.out q h; exact HT.out, HSR.out⟩
        case measure => simp [intOf]; omega
      rw [decide_eq_false he] at hq
      have HT := hid (show rightQ o k = leadsB o.bs o.cs nm ((k : Int) + 1) by rw [HQ.out, decide_eq_false he]; rfl)
      have HR9 := hid (HR7.out.below HST.out HR7.out.lt)
      have y5 := HR9.out.seven.2.2.2.2.2.1
      have y6 := HR9.out.seven.2.2.2.2.2.2
      have hrl := HR9.out.lt
      have ewa := IntWalk.i64_in ((k : Int) + 1) ⟨by omega, by omega⟩
      have ewb := IntWalk.u64_in ((k : Int) + 1) ⟨by omega, by omega⟩
      clear he hcc hc
      go_wp2_with fail
      rw [← HWR.out]
      refine (HLE.out Wr HS0.out).mono ?_
      rintro e' wx ⟨rfl, hbx⟩
      have HSX := hid (St.step HS0.out hbx)
      clear hbx y5 y6 hrl
      cases hle : leadsB o.bs o.cs nm ((k : Int) + 1)
      · have HF := hid (show D = false by
          rw [HD.out, List.all_eq_false]
          exact ⟨k, List.mem_range.2 hlt, by rw [HT.out, hle]; decide⟩)
        go_wp2_with fail
        go_ret
        exact ⟨by rw [HF.out]; rfl, HLO7.out.trans ((HSR.out.step HSX.out).mono HLO7.out.size)⟩
      · go_wp2_with fail
        go_roundw
        case rel => exact ⟨k + 1, by omega, by go_num, fun q h => by rcases Nat.lt_succ_iff_lt_or_eq.1 h with h | rfl; exact HNO.out q h; exact HT.out.trans hle, HSR.out.step HSX.out⟩
        case measure => simp [intOf]; omega
    · have d2 : decide ((k : Int) < (o.sy.length : Int)) = false := by simp; omega
      have d2n : decide (k < o.sy.length) = false := by simp; omega
      have HF := hid (show D = true by
        rw [HD.out, List.all_eq_true]
        exact fun q hq => HNO.out q (by have := List.mem_range.1 hq; omega))
      clear hlt hk
      go_wp2_with fail
      go_ret
      exact ⟨by rw [HF.out]; rfl, HLO7.out.trans (Below.mono HST.out HLO7.out.size)⟩
end Go.Proofs.YtkkadknijjninaaDoor
