/- hostelref13.Copy. -/
import Derived.Test.YtblefgkhikfmhaaSyX
namespace Go.Proofs.Ytblefgkhikfmhaa
open Go.RowKit Go.Sort Go.Shelf
attribute [local go_sem] Oper.semAt_some

theorem Full.of {w : World} {x : OB} {b1 b2 b3 : Nat} {a3 a1 a2 : Option Addr} {m3 m1 m2 c3 c1 c2 n1 n2 : Nat} (h3 : w.ownsRow b3 9 1 (.slice a3 m3 c3) x.nd.length (strs x.nd)) (h1 : w.ownsRow b1 48 5 (.slice a1 m1 c1) n1 (x.sy.map syC).flatten) (h2 : w.ownsRow b2 69 4 (.slice a2 m2 c2) n2 (x.rl.map rlC).flatten)
    (nn : m3 ≤ 8796093022207) (sn : m1 ≤ 3518437208781) (rn : m2 ≤ 4398046511000) : Full w { x with na := a3, nn := m3, nc := c3, sa := a1, sn := m1, sc := c1, ra := a2, rn := m2, rc := c2 } := by
  obtain ⟨a1', c1', e1, hr1, hc1, _⟩ := own_rk h1 (syC_len _) (by omega)
  obtain ⟨a2', c2', e2, hr2, hc2, _⟩ := own_rk h2 (rlC_len _) (by omega)
  obtain ⟨a3', c3', e3, hr3, hc3, _⟩ := own_cel h3
  cases e1; cases e2; cases e3
  exact ⟨hr3, hr1, hr2, hc1, hc2, nn, sn, rn⟩

theorem lies_of {w : World} {x : OB} {lo b1 b2 b3 : Nat} {a3 a1 a2 : Option Addr} {m3 m1 m2 c3 c1 c2 n1 n2 n3 : Nat} (h3 : w.ownsRow b3 9 1 (.slice a3 m3 c3) n3 (strs x.nd)) (h1 : w.ownsRow b1 48 5 (.slice a1 m1 c1) n1 (x.sy.map syC).flatten) (h2 : w.ownsRow b2 69 4 (.slice a2 m2 c2) n2 (x.rl.map rlC).flatten)
    (l3 : lo ≤ b3) (l1 : lo ≤ b1) (l2 : lo ≤ b2) : Lies lo w.heap.size { x with na := a3, nn := m3, nc := c3, sa := a1, sn := m1, sc := c1, ra := a2, rn := m2, rc := c2 } := by
  obtain ⟨a1', c1', e1, _, _, _, _, k1⟩ := own_rk h1 (syC_len _) (by omega)
  obtain ⟨a2', c2', e2, _, _, _, _, k2⟩ := own_rk h2 (rlC_len _) (by omega)
  obtain ⟨a3', c3', e3, _, _, _, _, k3⟩ := own_cel2 h3
  cases e1; cases e2; cases e3
  rintro b (hb | hb | hb)
  · obtain ⟨G, rfl, h4, h5⟩ := k3 _ hb; exact ⟨Nat.le_trans l3 h4, h5⟩
  · obtain ⟨G, rfl, h4, h5⟩ := k1 _ hb; exact ⟨Nat.le_trans l1 h4, h5⟩
  · obtain ⟨G, rfl, h4, h5⟩ := k2 _ hb; exact ⟨Nat.le_trans l2 h4, h5⟩

set_option maxHeartbeats 4000000 in
theorem copy_any (x : OB) (w : World) (hF : Full w x) : Calls Try.prog 19 #[dynV x] w (CopyPost w x) := by
  have HF := hid hF
  clear hF
  have HB0 := hid (show Below w.heap.size w ((w.alloc (.cells #[.slice x.na x.nn x.nc, .string (ba x.soname), .string (ba x.run), .slice x.sa x.sn x.sc, .slice x.ra x.rn x.rc] 37)).alloc (.cells #[.slice none 0 0, .string ByteArray.empty, .string ByteArray.empty, .slice none 0 0, .slice none 0 0] 37)) from (bal _).alloc (by simp) _)
  have HR0 := hid ((Row.new w 37 [.slice x.na x.nn x.nc, .string (ba x.soname), .string (ba x.run), .slice x.sa x.sn x.sc, .slice x.ra x.rn x.rc]).alloc (.cells #[.slice none 0 0, .string ByteArray.empty, .string ByteArray.empty, .slice none 0 0, .slice none 0 0] 37))
  have HZ0 := Row.new (w.alloc (.cells #[.slice x.na x.nn x.nc, .string (ba x.soname), .string (ba x.run), .slice x.sa x.sn x.sc, .slice x.ra x.rn x.rc] 37)) 37 [.slice none 0 0, .string ByteArray.empty, .string ByteArray.empty, .slice none 0 0, .slice none 0 0]
  rw [World.size_alloc] at HZ0
  have HZ := hid HZ0
  have HS := hid (HF.out.below' HB0.out).syms
  have hl0 := HR0.out.lt
  have hl1 := HZ.out.lt
  have HL0 := hid hl0
  have HL1 := hid hl1
  have HSN := hid (show (([] : List (List Value)).length + x.sn) * 40 ≤ 140737488355328 by have := HF.out.sn; simp only [List.length_nil]; omega)
  have HSM := hid (show ([] : List (List Value)).length + x.sn ≤ maxLen by have := HF.out.sn; unfold maxLen; simp only [List.length_nil]; omega)
  have HRN := hid (show (([] : List (List Value)).length + x.rn) * 32 ≤ 140737488355328 by have := HF.out.rn; simp only [List.length_nil]; omega)
  have HRM := hid (show ([] : List (List Value)).length + x.rn ≤ maxLen by have := HF.out.rn; unfold maxLen; simp only [List.length_nil]; omega)
  have HSL := hid (show x.sy.length = x.sn by have := HF.out.syms.hlen; simpa using this)
  have HRL := hid (show x.rl.length = x.rn by have := HF.out.rels.hlen; simpa using this)
  have HND := hid (show x.nd.length = x.nn from (cel_str HF.out.need).1)
  clear hl0 hl1 HZ0
  unfold dynV
  go_enter Try.func19, Try.ntmps19
  go_wp2_with (at_builtin; (first
    | (refine wpList_appK Try.underlying34 infoSym rfl (by decide) rfl _ _ rfl _ (.slice none 0 0) [] (x.sy.map syC) rfl x.sa x.sn x.sc rfl (World.ownsRow_nil _ _ _ _) HS.out (syC_one _) HF.out.sc HSN.out HSM.out (Nat.le_refl _) ?_; intro v1 w1 hv1 hb1; have HV1 := hid hv1; have HB1 := hid hb1; have hr1 := HR0.out.below hb1 HL0.out; have hz1 := HZ.out.below hb1 HL1.out; have HR1 := hid hr1; have HZ1 := hid hz1; obtain ⟨q0, q1, q2, q3, q4⟩ := hr1.five; have hlr := hr1.lt; have HX1 := hid ((HF.out.below' (bthen HB0.out hb1)).rels); clear hv1 hb1 hr1 hz1)
    | (refine wpList_appK Try.underlying35 infoRela rfl (by decide) rfl _ _ rfl _ (.slice none 0 0) [] (x.rl.map rlC) rfl x.ra x.rn x.rc rfl (World.ownsRow_nil _ _ _ _) HX1.out (rlC_one _) HF.out.rc HRN.out HRM.out (Nat.le_refl _) ?_; intro v2 w2 hv2 hb2; clear q0 q1 q2 q3 q4 hlr; have HV2 := hid hv2; have HB2 := hid hb2; have hr2 := HR1.out.below hb2 HR1.out.lt; have hz2 := HZ1.out.below hb2 HZ1.out.lt; have HR2 := hid hr2; have HZ2 := hid hz2; obtain ⟨q0, q1, q2, q3, q4⟩ := hr2.five; have hlr := hr2.lt; clear hv2 hb2 hr2 hz2)))
  have HN2 := hid ((HF.out.below' (bthen (bthen HB0.out HB1.out) HB2.out)).need)
  refine (copyTexts_any x.na x.nn x.nc x.nd _ HN2.out HF.out.nn).mono ?_
  rintro e' w3 ⟨v3, rfl, hown, hb⟩
  clear q0 q1 q2 q3 q4 hlr
  have HR3 := hid (HR2.out.below hb HR2.out.lt)
  have HZ3 := hid (HZ2.out.below hb HZ2.out.lt)
  have HB3 := hid (bthen (bthen (bthen HB0.out HB1.out) HB2.out) hb)
  have HO3 := hid hown
  have HO1 := hid (own_below (own_below HV1.out HB2.out) hb)
  have HO2 := hid (own_below HV2.out hb)
  have hs3 := hb.size
  have hs2 := HB2.out.size
  have hs1 := HB1.out.size
  simp only [World.size_alloc] at hs1
  obtain ⟨a3, c3, rfl, _⟩ := own_cel hown
  obtain ⟨a1, c1, rfl, _⟩ := own_rk HO1.out (syC_len _) (by omega)
  obtain ⟨a2, c2, rfl, _⟩ := own_rk HO2.out (rlC_len _) (by omega)
  clear hown hb
  obtain ⟨q0, q1, q2, q3, q4⟩ := HR3.out.five
  obtain ⟨z0, z1, z2, z3, z4⟩ := HZ3.out.five
  obtain ⟨f0, f1, f2, f3, f4⟩ := HR3.out.fiveF
  obtain ⟨g0, g1, g2, g3, g4⟩ := HZ3.out.fiveF
  have hlr := HR3.out.lt
  have hlz := HZ3.out.lt
  go_wp2_with fail
  refine bodyPost_ret (v := dynV { x with na := a3, nn := x.nd.length, nc := c3, sa := a1, sn := ([] ++ x.sy.map syC).length, sc := c1, ra := a2, rn := ([] ++ x.rl.map rlC).length, rc := c2 }) (by simp [results, Try.results19, Try.f19, go_sem, dynV, q0, q1, q2, q3, q4, z0, z1, z2, z3, z4, hlr, hlz]) rfl ?_
  have g3 : OwnS _ w2.heap.size (.slice a3 x.nd.length c3) x.nd := HO3.out
  have e1 := own_from HO1.out (base' := w.heap.size + 2) (by simp)
  have e2 := own_from HO2.out (base' := w.heap.size + 2) (by omega)
  have e3 := own_from HO3.out (base' := w.heap.size + 2) (by omega)
  have key : ∀ wz, wz.ownsRow (w.heap.size + 2) 9 1 (.slice a3 x.nd.length c3) x.nd.length (strs x.nd) → wz.ownsRow (w.heap.size + 2) 48 5 (.slice a1 ([] ++ x.sy.map syC).length c1) ([] ++ x.sy.map syC).length (x.sy.map syC).flatten → wz.ownsRow (w.heap.size + 2) 69 4 (.slice a2 ([] ++ x.rl.map rlC).length c2) ([] ++ x.rl.map rlC).length (x.rl.map rlC).flatten → Below w.heap.size w wz → CopyPost w x (.returned (dynV { x with na := a3, nn := x.nd.length, nc := c3, sa := a1, sn := ([] ++ x.sy.map syC).length, sc := c1, ra := a2, rn := ([] ++ x.rl.map rlC).length, rc := c2 })) wz := by
    intro wz k3 k1 k2 hb
    exact ⟨_, rfl, Full.of k3 k1 k2 (by rw [HND.out]; exact HF.out.nn) (by rw [List.nil_append, List.length_map, HSL.out]; exact HF.out.sn) (by rw [List.nil_append, List.length_map, HRL.out]; exact HF.out.rn), ⟨rfl, rfl, rfl, rfl, rfl, rfl, rfl, rfl, rfl, rfl, rfl, rfl, rfl⟩, lies_of k3 k1 k2 (by omega) (by omega) (by omega), hb⟩
  refine key _ ?_ ?_ ?_ ?_
  · repeat (first | with_reducible refine own_setLow ?_ (by omega) _ | with_reducible refine World.ownsRow.drew ?_)
    exact e3
  · repeat (first | with_reducible refine own_setLow ?_ (by omega) _ | with_reducible refine World.ownsRow.drew ?_)
    exact e1
  · repeat (first | with_reducible refine own_setLow ?_ (by omega) _ | with_reducible refine World.ownsRow.drew ?_)
    exact e2
  · repeat (first | with_reducible refine bset ?_ (by omega) _)
    exact HB3.out
end Go.Proofs.Ytblefgkhikfmhaa
