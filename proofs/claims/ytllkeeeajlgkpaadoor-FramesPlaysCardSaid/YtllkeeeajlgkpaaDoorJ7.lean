
/- Package frames: Load. -/
import Derived.Test.YtllkeeeajlgkpaaDoorJ6
namespace Go.Proofs.YtllkeeeajlgkpaaDoor
open Go.RowKit Go.Sort

def loadE (fs : List FR) (f off n : Int) : Int := if takE fs f = 0 then (if withinB off n then 0 else 1) else 1
def loadL (fs : List FR) (f off n : Int) : List Int := if takE fs f = 0 then (if withinB off n then ((fs.getD f.toNat default).bs.drop off.toNat).take n.toNat else []) else []
theorem within_is {off n : Int} (h : withinB off n = true) : ∃ o m : Nat, off = (o : Int) ∧ n = (m : Int) ∧ o + m ≤ 4096 := by
  unfold withinB at h
  simp only [Bool.and_eq_true, decide_eq_true_eq] at h
  obtain ⟨⟨⟨h1, h2⟩, h3⟩, h4⟩ := h
  obtain ⟨o, rfl⟩ := Int.eq_ofNat_of_zero_le h1
  obtain ⟨m, rfl⟩ := Int.eq_ofNat_of_zero_le h2
  exact ⟨o, m, rfl, rfl, by omega⟩
theorem infoU8 : (Tryd.prog.info? 5).map (fun i => (i.zero, i.size, i.bytes)) = some (some (.int .u8 0), 1, 1) := by kernel_rfl
theorem sizeU8 : (Tryd.prog.info? 5).map (·.size) = some 1 := by kernel_rfl

theorem at_dst {P : Program} {ops : Array Oper} {rest : List Oper} {o : Oper} {a : Act} {w : World} {Q : Exit → Act → World → Prop} (n : Nat) (_ : o.dst = some n) (h : wpList P ops Q (o :: rest) a w) : wpList P ops Q (o :: rest) a w := h
theorem arr_len : Tryd.prog.arrayLen 58 = 4096 := by kernel_rfl
theorem arr_el : Tryd.prog.elem 58 = 5 := by kernel_rfl
def cutA (g b o m : Nat) : Addr := if m = 0 then ⟨g, b, none⟩ else ⟨g, b + o, none⟩
/-- A piece of a frame's bytes. -/
theorem cut_at (w : World) (g b o m : Nat) (h : o + m ≤ 4096) :
    (Instr.sliceAt 58 (.pointer (some ⟨g, b, none⟩)) (some (.int .i64 (o : Int))) (some (.int .i64 ((o : Int) + (m : Int)))) (some (.int .i64 ((o : Int) + (m : Int))))).run Tryd.prog w = .ok (.slice (some (cutA g b o m)) m m) w := by
  have hs : (sizeOf (Tryd.prog.elem 58)).run Tryd.prog w = .ok 1 w := by rw [arr_el]; rfl
  rw [run_sliceAt_array_lhm (P := Tryd.prog) w 58 ⟨g, b, none⟩ (by kernel_rfl) .i64 .i64 .i64 (o : Int) ((o : Int) + (m : Int)) ((o : Int) + (m : Int)) (by omega) (by omega) (by omega) (by rw [arr_len]; omega), hs]
  have e : ((o : Int) + (m : Int)).toNat = o + m := by omega
  unfold slicedAt cutA
  rw [e, Int.toNat_natCast]
  simp only [Result.andThen, Result.ok.injEq, Value.slice.injEq, Option.some.injEq, and_true]
  by_cases c : m = 0
  · subst c; simp
  · rw [if_neg (by omega), if_neg c]
    refine ⟨?_, by omega, by omega⟩
    unfold Addr.add
    by_cases c2 : o * 1 = 0
    · have : o = 0 := by omega
      subst this; simp
    · rw [if_neg c2]; simp

set_option maxRecDepth 100000 in
set_option maxHeartbeats 1000000 in
theorem load_any (p g h : Nat) (fs : List FR) (ws : List Nat) (f off n : Int) (w : World) (H : Pl w p g h fs ws) :
    Calls Tryd.prog 21 #[.pointer (some ⟨p, 0, none⟩), .int .i64 f, .int .i64 off, .int .i64 n] w fun e w' => ∃ v, e = .returned (.tuple #[v, .int .i64 (loadE fs f off n)]) ∧ w'.ownsRow w.heap.size 5 1 v (loadL fs f off n).length ((loadL fs f off n).map (Value.int .u8)) ∧ Below w.heap.size w w' := by
  have HH := hid H
  have HL := hid (taken_any p g h fs ws f w H)
  have HWI := hid (within_any off n w)
  clear H
  go_enter Tryd.func21, Tryd.ntmps21
  go_wp2_with fail
  refine (HL.out).mono ?_
  rintro e' w' ⟨rfl, rfl⟩
  by_cases h0 : cntF fs f = 0
  · have HT := hid (show takE fs f = 1 by unfold takE; rw [h0]; rfl)
    have HF := hid (show loadE fs f off n = 1 ∧ loadL fs f off n = [] by unfold loadE loadL; rw [HT.out]; exact ⟨rfl, rfl⟩)
    rw [HT.out]
    clear h0
    go_wp2_with fail
    go_ret2
    rw [HF.out.1, HF.out.2]
    exact ⟨_, rfl, own_nil_of, Below.refl _ _⟩
  · have HT := hid (show takE fs f = 0 by unfold takE; rw [if_neg h0])
    rw [HT.out]
    go_wp2_with fail
    refine (HWI.out).mono ?_
    rintro e' w' ⟨rfl, rfl⟩
    cases hw : withinB off n with
    | false =>
      have HF := hid (show loadE fs f off n = 1 ∧ loadL fs f off n = [] by unfold loadE loadL; rw [HT.out, hw]; exact ⟨rfl, rfl⟩)
      clear h0
      go_wp2_with fail
      go_ret2
      rw [HF.out.1, HF.out.2]
      exact ⟨_, rfl, own_nil_of, Below.refl _ _⟩
    | true =>
      obtain ⟨o, m, rfl, rfl, hom⟩ := within_is hw
      obtain ⟨k, hk, rfl, hc⟩ := cnt_is h0
      have HF := hid (show loadE fs k o m = 0 ∧ loadL fs k o m = (fs[k].bs.drop o).take m by unfold loadE loadL; rw [HT.out, hw, Int.toNat_natCast, Int.toNat_natCast, Int.toNat_natCast, getF_at _ _ _ hk]; exact ⟨rfl, rfl⟩)
      have hlen := HH.out.ok _ (List.getElem_mem hk)
      have HLN := hid (show ((fs[k].bs.drop o).take m).length = m by simp; omega)
      have HBY := hid (fun (j : Nat) (hj : j < m) => show w.cell? ⟨g, k * 4097 + o + j, none⟩ = (((fs[k].bs.drop o).take m).map (Value.int .u8))[j]? from by
        rw [HH.out.frames.cell', Nat.add_assoc, flatF_byte HH.out.ok k (o + j) hk (by omega), List.getElem?_map, List.getElem?_take, if_pos hj, List.getElem?_drop])
      generalize (fs[k].bs.drop o).take m = L at *
      obtain ⟨p0, p1⟩ := HH.out.cells
      have hlp := HH.out.pool.lt
      have hlg := HH.out.frames.lt
      have HP := hid HH.out.pool
      have ez : (0 : Int) ≤ (k : Int) := by omega
      have eb : (k : Int) < (fs.length : Int) := by omega
      have hm1 : 1 * m ≤ 281474976710656 := by omega
      have hm2 : m ≤ 9223372036854775807 := by omega
      have ew := IntWalk.wrap64_in ((o : Int) + (m : Int)) ⟨by omega, by omega⟩
      have hcut := fun w => cut_at w g (k * 4097) o m hom
      clear h0 hc hw hlen
      have hmin : (L.map (Value.int .u8)).length = Nat.min m m := by rw [List.length_map, HLN.out]; simp [Nat.min_def]
      have HMIN := hid hmin
      have HFIT := hid (show 0 + (L.map (Value.int .u8)).length ≤ (List.replicate m (Value.int .u8 0)).length by simp [HLN.out])
      have HON := hid (nums_one .u8 L)
      have HSRC := hid (fun (w2 : World) (hb : Below w.heap.size w w2) => show 0 < (L.map (Value.int .u8)).length → ∃ ad, some (cutA g (k * 4097) o m) = some ad ∧ ∀ j v, (L.map (Value.int .u8))[j]? = some v → w2.cell? (ad.add j) = some v from fun hp => by
        rw [List.length_map, HLN.out] at hp
        refine ⟨⟨g, k * 4097 + o, none⟩, by unfold cutA; rw [if_neg (by omega)], fun j v hj => ?_⟩
        have hj1 : j < m := by have := (List.getElem?_eq_some_iff.1 hj).1; rw [List.length_map, HLN.out] at this; exact this
        have h2 := HBY.out j hj1
        rw [hj] at h2
        have h3 := keepC hb h2
        rw [Addr.add_mid]
        exact h3)
      have HE := hid (show splice (List.replicate m (Value.int .u8 0)) 0 (L.map (Value.int .u8)) = L.map (Value.int .u8) from splice_all _ _ (by simp [HLN.out]))
      clear hmin
      go_wp2_with (first | (refine wpList_make_row _ rfl _ _ 30 rfl 5 (.int .u8 0) 1 Tryd.underlying30 infoU8 rfl .i64 .i64 m m m rfl rfl rfl rfl hm1 hm2 ?_; intro w2 hR hb hsz; have HR := hid hR; have HB := hid hb; have p0 := hb.cell (p := ⟨p, 0, none⟩) hlp; clear hR hb) | (refine at_dst 40 rfl ?_; go_must (refine wpList_copy_splice rfl _ _ 30 30 rfl 5 Tryd.underlying30 sizeU8 (some ⟨w.heap.size, 0, none⟩) (some (cutA g (k * 4097) o m)) m m m m rfl rfl w.heap.size 0 (List.replicate m (Value.int .u8 0)) 5 HR.out.heap (L.map (Value.int .u8)) HMIN.out (fun hp => ⟨rfl, HSRC.out w2 HB.out hp⟩) HFIT.out HON.out w.heap.size w HB.out (Nat.le_refl _) ?_; intro w3 hw3 hb3; rw [HE.out] at hw3; have HR3 := hid (show Row w3 w.heap.size 5 (L.map (Value.int .u8)) from ⟨hw3.out⟩); have HB3 := hid hb3; clear hw3 hb3)))
      go_ret2
      rw [HF.out.1, HF.out.2]
      refine ⟨_, rfl, ?_, HB3.out⟩
      rw [HLN.out]
      have := HR3.out.owns (base := w.heap.size) (n := m) (cap := m) (Nat.le_refl _) (by rw [List.length_map, HLN.out]) (Nat.le_refl _) (by unfold maxLen; omega)
      rw [List.take_of_length_le (by rw [List.length_map, HLN.out]; exact Nat.le_refl _)] at this
      exact this
end Go.Proofs.YtllkeeeajlgkpaaDoor
