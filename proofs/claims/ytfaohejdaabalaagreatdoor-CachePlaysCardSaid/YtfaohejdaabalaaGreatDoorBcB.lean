
/- cache.Slots: the list is sorted. -/
import Derived.Test.YtfaohejdaabalaaGreatDoorKB2
import Derived.Test.YtfaohejdaabalaaGreatDoorSQ
import Derived.Test.YtfaohejdaabalaaGreatDoorAP
import Derived.Test.YtfaohejdaabalaaGreatDoorSort
namespace Go.Proofs.YtfaohejdaabalaaGreatDoor
open Go.RowKit Go.Sort Go.Shelf Go.Lib Go.WideMaps Go.Maps Go.WideShapes Go.WideElems Go.MapKept Go.ChangeMaps
attribute [local go_sem] Oper.semAt_some

instance : Inhabited SLO := ⟨⟨0, 0, 0, 0⟩⟩
def slC (x : SLO) : List Value := [.int .i64 x.i, .int .i64 x.p, .int .i64 x.f]
def cfS (x y : SLO) : Int := orI (cmpI x.i y.i) (cmpI x.p y.p)
def befS (x y : SLO) : Prop := x.i < y.i ∨ x.i = y.i ∧ x.p < y.p
theorem lt_cfS (x y : SLO) : ltOf cfS x y = true ↔ befS x y := by
  unfold ltOf cfS orI cmpI befS
  rw [decide_eq_true_iff]
  by_cases h1 : x.i < y.i
  · simp [h1]
  · by_cases h2 : y.i < x.i
    · have h3 : ¬ x.i = y.i := by omega
      simp [h1, h2, h3]
    · have h3 : x.i = y.i := by omega
      rw [if_neg h1, if_neg h2, if_pos rfl]
      by_cases h4 : x.p < y.p
      · simp [h4, h3]
      · by_cases h5 : y.p < x.p
        · simp [h4, h5, h1]
        · simp [h4, h5, h1]
theorem lt_cfS' (x y : SLO) : ltOf cfS x y = false ↔ ¬ befS x y := by
  rw [← lt_cfS x y]
  simp
theorem swoS : SWO (ltOf cfS) where
  irrefl x := by rw [lt_cfS']; unfold befS; omega
  trans x y z h1 h2 := by rw [lt_cfS] at *; unfold befS at *; omega
  ntrans x y z h1 h2 := by rw [lt_cfS'] at *; unfold befS at *; omega
theorem slC_one (x : SLO) : ∀ v ∈ slC x, v.oneCell' = true := by
  intro v hv
  simp [slC] at hv
  rcases hv with rfl | rfl | rfl <;> rfl
theorem enters_less : ∀ args w, (callFunc 49 args).run Tryz.prog w = .ok (.enter 49 args) w := enters_of Tryz.func49 (by kernel_rfl) rfl
theorem isAgg_slot : ∀ w, (isAgg 59).run Tryz.prog w = .ok true w := Tryz.isAgg59
theorem sizeOf_slot : ∀ w, (Go.sizeOf 59).run Tryz.prog w = .ok 3 w := Tryz.sizeOf59
set_option maxHeartbeats 1000000 in
theorem sort_some (base g cap : Nat) (l : List SLO) (w : World) (h : w.ownsRow base 59 3 (.slice (some ⟨g, 0, none⟩) l.length cap) l.length (l.map slC).flatten) (hl : l.length < 4611686018427387904) :
    Calls Tryz.prog 48 #[.slice (some ⟨g, 0, none⟩) l.length cap, .func (.func 49) #[] #[]] w fun e w' => e = .returned (.tuple #[]) ∧ ∃ l' : List SLO, l'.Perm l ∧ l'.Pairwise (fun x y => ¬ befS y x) ∧ w'.ownsRow base 59 3 (.slice (some ⟨g, 0, none⟩) l.length cap) l'.length (l'.map slC).flatten ∧ w.grownBy w' (some g) := by
  obtain ⟨hH, hg⟩ := own_holds (enc := slC) (fun _ => rfl) h rfl
  have hcon := AnyQ.slices_SortFunc Tryz.sortSl 3 isAgg_slot sizeOf_slot slC (fun _ => rfl) slC_one cfS swoS 49 #[] g 0 cap l.toArray w enters_less
    (fun _ _ _ _ x y => less_any x.i x.p x.f y.i y.p y.f _) hH hg (by simpa using hl)
  refine hcon.mono ?_
  rintro e w' ⟨rfl, d', n, os, hp, hs, hw⟩
  have hsz : d'.size = l.length := by simpa using hp.1
  refine ⟨rfl, d'.toList, ?_, ?_, own_sorted (enc := slC) (fun _ => rfl) h rfl (by rw [Array.length_toList]; exact hsz) (by simpa using hw)⟩
  · have h2 := hp.2.2
    rw [List.size_toArray] at h2
    rw [Array.extract_eq_self_of_le (by omega), Array.extract_eq_self_of_le (by simp)] at h2
    simpa using h2
  · rw [List.pairwise_iff_getElem]
    intro i j hi hj hij
    have h3 := hs i j (Nat.zero_le _) hij (by simpa [hsz] using hj)
    rw [lt_cfS', getElem!_pos _ _ (by simpa using hj), getElem!_pos _ _ (by simpa using hi)] at h3
    simpa using h3
set_option maxRecDepth 100000 in
set_option maxHeartbeats 4000000 in
theorem ins_nil (f : Value) (w : World) : Calls Tryz.prog 86 #[.slice none 0 0, .int .i64 0, .int .i64 0, f] w fun e w' => e = .returned (.tuple #[]) ∧ w = w' := by
  go_enter Tryz.func86, Tryz.ntmps86
  go_wp2_with fail
  go_loopw [8] (fun i wr => w = wr ∧ i = .int .i64 1) (fun _ _ => 0)
  case atStart => exact ⟨rfl, rfl⟩
  case round =>
    obtain ⟨rfl, rfl⟩ := hrel
    go_wp2_with fail
    exact bodyPost_end (results_none rfl _ _ _) rfl ⟨rfl, rfl⟩
set_option maxRecDepth 100000 in
set_option maxHeartbeats 4000000 in
theorem pdq_nil (f lim : Value) (w : World) : Calls Tryz.prog 72 #[.slice none 0 0, .int .i64 0, .int .i64 0, lim, f] w fun e w' => e = .returned (.tuple #[]) ∧ w = w' := by
  have HI := hid (ins_nil f w)
  go_enter Tryz.func72, Tryz.ntmps72
  go_wp2_with fail
  go_loopw [1, 2] (fun va vb wr => w = wr ∧ va = .int .i64 0 ∧ vb = .int .i64 0) (fun _ _ _ => 0)
  case atStart => exact ⟨rfl, rfl, rfl⟩
  case round =>
    obtain ⟨rfl, rfl, rfl⟩ := hrel
    go_wp2_with fail
    refine (HI.out).mono ?_
    rintro e w1 ⟨rfl, rfl⟩
    go_wp2_with fail
    exact bodyPost_ret (v := .tuple #[]) (results_none rfl _ _ _) rfl ⟨rfl, rfl⟩
set_option maxRecDepth 100000 in
set_option maxHeartbeats 4000000 in
theorem sort_nil (f : Value) (w : World) : Calls Tryz.prog 48 #[.slice none 0 0, f] w fun e w' => e = .returned (.tuple #[]) ∧ w = w' := by
  have HL := hid (Tryz.bits_Len 0 w (by decide) (by decide))
  have HP := hid (fun lim => pdq_nil f lim w)
  go_enter Tryz.func48, Tryz.ntmps48
  go_wp2_with fail
  refine (HL.out).mono ?_
  rintro e w1 ⟨rfl, rfl⟩
  go_wp2_with fail
  refine (HP.out _).mono ?_
  rintro e w1 ⟨rfl, rfl⟩
  go_wp2_with fail
  go_end0
  exact ⟨rfl, rfl⟩
/-- A list of slots of the call's own, sorted. -/
theorem sort_own (base : Nat) (v : Value) (l : List SLO) (w : World) (h : w.ownsRow base 59 3 v l.length (l.map slC).flatten) (hl : l.length < 4611686018427387904) (hb : base ≤ w.heap.size) :
    Calls Tryz.prog 48 #[v, .func (.func 49) #[] #[]] w fun e w' => e = .returned (.tuple #[]) ∧ ∃ l' : List SLO, l'.Perm l ∧ l'.Pairwise (fun x y => ¬ befS y x) ∧ w'.ownsRow base 59 3 v l'.length (l'.map slC).flatten ∧ Below base w w' := by
  rcases h.2 with ⟨rfl, h0⟩ | ⟨g, cap, cur, rfl, hbg, hg, r⟩
  · obtain rfl := List.length_eq_zero_iff.1 h0
    refine (sort_nil _ w).mono ?_
    rintro e w' ⟨rfl, rfl⟩
    exact ⟨rfl, [], List.Perm.refl _, List.Pairwise.nil, h, Below.refl _ _⟩
  · refine (sort_some base g cap l w h hl).mono ?_
    rintro e w' ⟨rfl, l', h1, h2, h3, h4⟩
    exact ⟨rfl, l', h1, h2, h3, (Below.refl _ w).grown h4 hb (fun k hk => by cases hk; exact hbg)⟩
/-- What Slots keeps. -/
structure SI (w : World) (m rI N : Nat) (sl : List SLO) (D : DataW Unit) (v : Value) (l : List SLO) (left : Lit → Bool) (cnt : Nat) (W : World) : Prop where
  rg : W.ranges Tryz.prog 106 rdK m rI N D left cnt
  own : W.ownsRow (w.heap.size + 1) 59 3 v l.length (l.map slC).flatten
  low : Below w.heap.size w W
  hI : rI = w.heap.size
  seen : ∀ x ∈ sl, left (plL x.i x.p) = false ↔ x ∈ l
  sub : ∀ x ∈ l, x ∈ sl
  once : l.Nodup
theorem perm_of8 {l sl : List SLO} (h1 : l.Nodup) (h2 : sl.Nodup) (h : ∀ x, x ∈ l ↔ x ∈ sl) : l.Perm sl := by
  rw [List.perm_iff_count]
  intro x
  by_cases c : x ∈ l
  · rw [h1.count, h2.count, if_pos c, if_pos ((h x).1 c)]
  · rw [List.count_eq_zero.2 c, List.count_eq_zero.2 (fun e => c ((h x).2 e))]
theorem Good.nodup {rd : Int → Int → List UInt8 × Int} {s : CC} {hx : List Nat} (G : Good rd s hx) : s.sl.Nodup := by
  refine G.asked.imp fun h e => ?_
  rw [e] at h
  omega
theorem nodup_len8 : ∀ {l sl : List SLO}, l.Nodup → (∀ x ∈ l, x ∈ sl) → l.length ≤ sl.length
  | [], _, _, _ => Nat.zero_le _
  | x :: l, sl, h, hs => by
    rw [List.nodup_cons] at h
    have hx := hs x (by simp)
    have h1 := nodup_len8 (sl := sl.erase x) h.2 (fun y hy => by
      have hne : y ≠ x := fun e => by rw [e] at hy; exact h.1 hy
      exact (List.mem_erase_of_ne hne).2 (hs y (List.mem_cons_of_mem _ hy)))
    rw [List.length_erase_of_mem hx] at h1
    have h2 := List.length_pos_of_mem hx
    rw [List.length_cons]
    omega
theorem strict {l : List SLO} (h : l.Pairwise fun x y => ¬ befS y x) (hk : l.Pairwise fun x y => ¬ (x.i = y.i ∧ x.p = y.p)) : l.Pairwise befS :=
  (h.and hk).imp fun ⟨h1, h2⟩ => by unfold befS at *; omega
theorem infoSlot : (Tryz.prog.info? 59).map (fun i => (i.zero, i.size, i.bytes)) = some (some (.agg #[.int .i64 0, .int .i64 0, .int .i64 0]), 3, 24) := by kernel_rfl
set_option maxRecDepth 100000 in
set_option maxHeartbeats 8000000 in
theorem slots_any (w0 : World) (F : Nat) (t : FT) (p g h c m : Nat) (s : CC) (ws : List Nat) (rd : Int → Int → List UInt8 × Int) (hx : List Nat) (w : World) (H : CW w0 F t p g h c m s ws w) (G : Good rd s hx) :
    Calls Tryz.prog 18 #[.pointer (some ⟨c, 0, none⟩)] w fun e w' => ∃ (v : Value) (l : List SLO), e = .returned v ∧ l.Perm s.sl ∧ l.Pairwise befS ∧ w'.ownsRow w.heap.size 59 3 v l.length (l.map slC).flatten ∧ Below w.heap.size w w' := by
  obtain ⟨c0, c1, c2, c3⟩ := H.cells
  have hlc := H.cache.lt
  obtain ⟨D, hD, hv⟩ := H.map
  have HV := hid hv
  have HD := hid hD
  have HG := hid G
  have HH := hid H
  have HMZ := hid (show s.sl.length ≤ 1000000000 from Nat.le_trans G.many (Nat.le_of_lt H.few))
  obtain ⟨rI, hrI⟩ : ∃ rI, rI = w.heap.size := ⟨_, rfl⟩
  have HRI := hid hrI
  clear hD hv G H
  go_enter Tryz.func18, Tryz.ntmps18
  go_wp2_with (at_range; refine wpList_range_own _ rfl _ 101 rfl 106 108 keyedPl Tryz.underlying101 rdK m s.tn D rfl HD.out ?_; intro w1 hrg0 hg0 hs0)
  go_frame
  rw [← hrI] at hrg0 ⊢
  have HSI0 := hid (show SI w m rI s.tn s.sl D (.slice none 0 0) [] (Maps.has D) (Maps.size D) w1 from
    ⟨hrg0, World.ownsRow_nil _ _ _ _, ⟨hg0.os, hg0.tape, hg0.output, hg0.size, fun k hk => hg0.block k hk (by simp)⟩, hrI, fun y hy => by
      have h1 := HV.out.has (HV.out.ok y hy).1 (HV.out.ok y hy).2
      rw [look_of HG.out hy] at h1
      rw [h1]
      simp, fun x hx => (by cases hx), List.nodup_nil⟩)
  clear hrg0 hg0 hs0 hrI c0 c1 c2 c3 hlc
  go_loopw [3] (fun v wz => ∃ (l : List SLO) (left : Lit → Bool) (cnt : Nat) (vv : Value), vv = v ∧ SI w m rI s.tn s.sl D vv l left cnt wz) (fun _ wz => wz.rangeLeft m rI)
  case atStart => exact ⟨[], _, _, _, rfl, HSI0.out⟩
  case round =>
    obtain ⟨l, left, cnt, vv, rfl, hsi⟩ := hrel
    rename World => wz
    have HSI := hid hsi
    clear hsi
    go_wp2_with (at_next; refine wpList_next_cm rfl _ rfl m rI s.tn D s.sl HV.out left cnt rfl HSI.out.rg ?_ ?_)
    · intro hl0
      have HPM := hid (show l.Perm s.sl from perm_of8 HSI.out.once HG.out.nodup (fun x => ⟨HSI.out.sub x, fun hx => (HSI.out.seen x hx).1 (hl0 _)⟩))
      have HSO := hid (sort_own (w.heap.size + 1) vv l wz HSI.out.own (by have := HPM.out.length_eq; have := HMZ.out; omega) (by have := HSI.out.rg.lt; have := HSI.out.hI; omega))
      clear hl0
      go_wp2_with fail
      refine (HSO.out).mono ?_
      rintro e w2 ⟨rfl, l', hp, hs, ho, hb⟩
      have HP2 := hid hp
      have HS2 := hid hs
      have HO2 := hid ho
      have HB2 := hid hb
      clear hp hs ho hb
      go_wp2_with fail
      go_ret
      have hpp := HP2.out.trans HPM.out
      refine ⟨vv, l', rfl, hpp, strict HS2.out (hpp.symm.pairwise HG.out.keys (fun h1 e => h1 ⟨e.1.symm, e.2.symm⟩)), own_from HO2.out (by omega), HSI.out.low.trans (HB2.out.mono (by omega))⟩
    · intro x w8 cnt8 hxm hxl hlk hrg8 hlt8 hg8 hs8 hen
      have HXM := hid hxm
      have HLT8 := hid hlt8
      have HRG8 := hid hrg8
      have hnl : ¬ x ∈ l := fun e => by rw [(HSI.out.seen x hxm).2 e] at hlk; cases hlk
      have HNL := hid hnl
      have HLOW8 := hid (low_grown HSI.out.low hg8 (by have := HSI.out.hI; omega))
      have HOW8 := hid (show w8.ownsRow (w.heap.size + 1) 59 3 vv l.length (l.map slC).flatten from HSI.out.own.kept hg8 (by
        rcases HSI.out.own.2 with ⟨e, _⟩ | ⟨g', cap', cur, e, hb, _⟩
        · rw [e]; exact .inl rfl
        · rw [e]; exact .inr (fun e2 => by have e3 := Option.some.inj e2; have := HSI.out.hI; simp only at e3; omega)))
      clear hxm hxl hlk hrg8 hlt8 hg8 hs8 hnl
      unfold plK keV at hen ⊢
      obtain ⟨w9, hw9⟩ : ∃ w9, w9 = (w8.alloc (.cells #[.int .i64 x.i, .int .i64 x.p] 106)).alloc (.cells #[.int .i64 x.f, .int .u64 x.t] 108) := ⟨_, rfl⟩
      have HB9 := hid (show Below w8.heap.size w8 w9 by rw [hw9]; exact bthen (bal _) (bal _))
      have HP9 := hid (show Row w9 w8.heap.size 106 [.int .i64 x.i, .int .i64 x.p] by rw [hw9]; exact (Row.new w8 _ _).alloc _)
      have HK9 := hid (show Row w9 (w8.heap.size + 1) 108 [.int .i64 x.f, .int .u64 x.t] by rw [hw9]; exact Row.new1 w8 _ _ _)
      have HW9 := hid hw9
      clear hw9
      have HOW9 := hid (show (w9.alloc (.cells #[.int .i64 x.i, .int .i64 x.p, .int .i64 x.f] 59)).ownsRow (w.heap.size + 1) 59 3 vv l.length (l.map slC).flatten from (own_below HOW8.out HB9.out).alloc _)
      have HRK9 := hid (show Rk (w9.alloc (.cells #[.int .i64 x.i, .int .i64 x.p, .int .i64 x.f] 59)) 3 (some ⟨w9.heap.size, 0, none⟩) 1 [slC x] from rk_new w9 _ (slC x) rfl)
      have HLL := hid (show l.length + 1 ≤ 2000000000 by
        have h1 : l.length ≤ s.sl.length := nodup_len8 HSI.out.once (fun y hy => HSI.out.sub y hy)
        have := HMZ.out
        omega)
      have HON := hid (show ∀ r ∈ [slC x], ∀ u ∈ r, u.oneCell' = true from fun r hr => by rw [List.mem_singleton.1 hr]; exact slC_one x)
      have HN1 := hid (show (l.length + 1) * 24 ≤ 140737488355328 by have := HLL.out; omega)
      have HN2 := hid (show l.length + 1 ≤ maxLen by have := HLL.out; unfold maxLen; omega)
      have HN3 := hid (show w.heap.size + 1 ≤ (w9.alloc (.cells #[.int .i64 x.i, .int .i64 x.p, .int .i64 x.f] 59)).heap.size by rw [World.size_alloc]; have := HLOW8.out.size; have := HB9.out.size; omega)
      have HOWX := hid (show (((w8.alloc (.cells #[.int .i64 x.i, .int .i64 x.p] 106)).alloc (.cells #[.int .i64 x.f, .int .u64 x.t] 108)).alloc (.cells #[.int .i64 x.i, .int .i64 x.p, .int .i64 x.f] 59)).ownsRow (w.heap.size + 1) 59 3 vv l.length (l.map slC).flatten by rw [← HW9.out]; exact HOW9.out)
      have HRKX := hid (show Rk (((w8.alloc (.cells #[.int .i64 x.i, .int .i64 x.p] 106)).alloc (.cells #[.int .i64 x.f, .int .u64 x.t] 108)).alloc (.cells #[.int .i64 x.i, .int .i64 x.p, .int .i64 x.f] 59)) 3 (some ⟨w8.heap.size + 1 + 1, 0, none⟩) 1 [slC x] by
        have := HRK9.out
        rw [HW9.out, World.size_alloc, World.size_alloc] at this
        exact this)
      have HN3X := hid (show w.heap.size + 1 ≤ (((w8.alloc (.cells #[.int .i64 x.i, .int .i64 x.p] 106)).alloc (.cells #[.int .i64 x.f, .int .u64 x.t] 108)).alloc (.cells #[.int .i64 x.i, .int .i64 x.p, .int .i64 x.f] 59)).heap.size by rw [← HW9.out]; exact HN3.out)
      go_wp2_with (at_builtin; go_must (refine wpList_apK Tryz.underlying56 infoSlot rfl (by decide) rfl _ _ rfl (w.heap.size + 1) vv l.length (l.map slC) [slC x] rfl (some ⟨w8.heap.size + 1 + 1, 0, none⟩) 1 1 rfl HOWX.out HRKX.out HON.out (fun h => (by cases h)) HN1.out HN2.out HN3X.out ?_; intro v' w10 hown hgrow hb10; have HO10 := hid hown; have HB10 := hid hb10; clear hown hgrow hb10))
      have HBX := hid (show Below (w.heap.size + 1) w8 w10 from by
        have h1 : Below w8.heap.size w8 (((w8.alloc (.cells #[.int .i64 x.i, .int .i64 x.p] 106)).alloc (.cells #[.int .i64 x.f, .int .u64 x.t] 108)).alloc (.cells #[.int .i64 x.i, .int .i64 x.p, .int .i64 x.f] 59)) := bthen (bthen (bal _) (bal _)) (bal _)
        have h2 := HLOW8.out.size
        have h3 := HRG8.out.lt
        have h4 := HSI.out.hI
        exact (h1.mono (by omega)).trans HB10.out)
      have HRG10 := hid (show w10.ranges Tryz.prog 106 rdK m rI s.tn D (fun z => left z && !z.sameKey (plL x.i x.p)) cnt8 from
        cmr_same HRG8.out (HBX.out.block m (by have := HD.out.lt; omega)) (HBX.out.block rI (by have := HSI.out.hI; omega)))
      have HSI10 := hid (show SI w m rI s.tn s.sl D v' (l ++ [x]) (fun z => left z && !z.sameKey (plL x.i x.p)) cnt8 w10 from by
        refine ⟨HRG10.out, own_ext HO10.out (by simp) (by simp), HLOW8.out.trans (HBX.out.mono (by omega)), HSI.out.hI, fun y hy => ?_, fun y hy => ?_, ?_⟩
        · rw [List.mem_append, List.mem_singleton, Bool.and_eq_false_iff, HSI.out.seen y hy]
          refine or_congr Iff.rfl ⟨fun e => ?_, fun e => ?_⟩
          · rw [Bool.not_eq_false'] at e
            obtain ⟨e2, e3⟩ := plL_inj (HV.out.ok y hy).1 (HV.out.ok y hy).2 (HV.out.ok x HXM.out).1 (HV.out.ok x HXM.out).2 (WideAt.sameKey_eq e)
            have h1 := look_of HG.out hy
            rw [e2, e3, look_of HG.out HXM.out] at h1
            exact (Option.some.inj h1).symm
          · rw [e, WideAt.sameKey_self (show WideAt.IsKeyLit (plL x.i x.p) by trivial)]
            rfl
        · rcases List.mem_append.1 hy with h | h
          · exact HSI.out.sub y h
          · rw [List.mem_singleton.1 h]; exact HXM.out
        · rw [List.nodup_append]
          exact ⟨HSI.out.once, by simp, fun a ha b hb e => HNL.out (by rw [List.mem_singleton.1 hb] at e; exact e ▸ ha)⟩)
      go_roundw
      case rel => exact ⟨l ++ [x], _, _, _, rfl, HSI10.out⟩
      case measure => rw [HRG10.out.left_eq, HSI.out.rg.left_eq]; exact HLT8.out
end Go.Proofs.YtfaohejdaabalaaGreatDoor
