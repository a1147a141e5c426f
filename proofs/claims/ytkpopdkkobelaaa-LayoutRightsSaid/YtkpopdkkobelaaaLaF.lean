
/- Stage 17: LayoutRights' walk. -/
import Derived.Test.YtkpopdkkobelaaaLaC
import Derived.Test.YtkpopdkkobelaaaLaE
namespace Go.Proofs.Ytkpopdkkobelaaa
open Go.RowKit Go.Sort Go.Shelf
attribute [local go_sem] Oper.semAt_some

theorem LOs.one {w : World} {g : Nat} {x : LO} (h : Row w g 33 (loC x)) (hx : LOk w x) : LOs w (some ⟨g, 0, none⟩) 1 [x] :=
  ⟨row_rk h rfl, fun z hz => by rw [List.mem_singleton.1 hz]; exact hx⟩
theorem St.eleven {W : World} {g : Nat} {E : TypeId} {x : LO} (h : Row W g E (loC x)) : ∀ w, St W w → (w.cell? ⟨g, 0, none⟩ = some (.int .i64 x.ino) ∧ w.cell? ⟨g, 1, none⟩ = some (.int .u64 x.base) ∧ w.cell? ⟨g, 2, none⟩ = some (.int .u16 x.typ) ∧ w.cell? ⟨g, 3, none⟩ = some (.int .u64 x.entry) ∧ w.cell? ⟨g, 4, none⟩ = some (.int .u64 x.phoff) ∧ w.cell? ⟨g, 5, none⟩ = some (.slice x.ga x.gn x.gc)) ∧
    (w.cell? ⟨g, 6, none⟩ = some (.slice x.na x.nn x.nc) ∧ w.cell? ⟨g, 7, none⟩ = some (.string (ba x.soname)) ∧ w.cell? ⟨g, 8, none⟩ = some (.string (ba x.run)) ∧ w.cell? ⟨g, 9, none⟩ = some (.slice x.sa x.sn x.sc) ∧ w.cell? ⟨g, 10, none⟩ = some (.slice x.ra x.rn x.rc)) ∧ g < w.heap.size := fun w hs =>
  have h' := h.below hs h.lt
  ⟨⟨h'.cell 0 (by simp [loC]), h'.cell 1 (by simp [loC]), h'.cell 2 (by simp [loC]), h'.cell 3 (by simp [loC]), h'.cell 4 (by simp [loC]), h'.cell 5 (by simp [loC])⟩, ⟨h'.cell 6 (by simp [loC]), h'.cell 7 (by simp [loC]), h'.cell 8 (by simp [loC]), h'.cell 9 (by simp [loC]), h'.cell 10 (by simp [loC])⟩, h'.lt⟩

set_option maxRecDepth 100000 in
set_option maxHeartbeats 8000000 in
theorem layoutRights_walk (x : LO) (w : World) (hx : LOk w x) :
    Calls Try.prog 3 #[loV x] w fun e w' => e = .returned (.bool true) ∧ Below w.heap.size w w' := by
  have hlen := hx.segs.hlen
  have HX := hid hx
  have HWK := hid works17_any
  obtain ⟨W0, hW0⟩ : ∃ W0, W0 = w.alloc (.cells (loC x).toArray 33) := ⟨_, rfl⟩
  have HB0 := hid (show Below w.heap.size w W0 by rw [hW0]; exact bal _)
  have HR := hid (show Row W0 w.heap.size 33 (loC x) by rw [hW0]; exact Row.new w 33 (loC x))
  have HR2 := hid (Row.new W0 33 (loC x))
  have HV := hid (vast_any (some ⟨W0.heap.size, 0, none⟩) 1 [x] _ (LOs.one HR2.out ((HX.out.below' HB0.out).below' (bal _))) (by simp) (fun i hi => by
    obtain rfl : i = 0 := by simpa using hi
    exact hx.gn))
  have hz0 : W0.heap.size = w.heap.size + 1 := by rw [hW0]; simp
  rw [hz0] at HV
  clear hz0
  have HB1 := hid (fun o => bthen HB0.out (bal (w := W0) o))
  have HQ := hid (St.eleven HR.out)
  obtain ⟨ino, base, typ, entry, phoff, ga, gn, gc, sg, na, nn, nc, soname, run, sa, sn, sc, ra, rn, rc⟩ := x
  obtain rfl : sg.length = gn := hlen
  clear hx
  unfold loC at HR HR2 HV hW0
  dsimp only [List.length_cons, List.length_nil, Nat.zero_add] at HR HR2 HV HQ hW0
  unfold loV
  dsimp only
  obtain ⟨⟨x0, x1, x2, x3, x4, x5⟩, x6, x7, x8, x9, x10⟩ := HR.out.eleven
  have hl1 := HR.out.lt
  go_enter Try.func3, Try.ntmps3
  go_wp2_with fail
  try rw [← hW0]
  clear hW0
  go_wp2_with fail
  refine (HV.out).mono ?_
  rintro e' w1 ⟨rfl, b, rfl, hv⟩
  have HV1 := hid hv
  clear hv
  cases b
  · have HGN := hid ((HV1.out rfl).2 0 (by simp))
    simp only [List.getElem_cons_zero] at HGN
    clear HV1
    have HR4 := hid (HR.out.alloc (.cells (loC ⟨ino, base, typ, entry, phoff, ga, sg.length, gc, sg, na, nn, nc, soname, run, sa, sn, sc, ra, rn, rc⟩).toArray 33))
    have HX4 := hid ((HX.out.below' HB0.out).below' (bal (w := W0) (.cells (loC ⟨ino, base, typ, entry, phoff, ga, sg.length, gc, sg, na, nn, nc, soname, run, sa, sn, sc, ra, rn, rc⟩).toArray 33)))
    have HB4 := hid (HB1.out (.cells (loC ⟨ino, base, typ, entry, phoff, ga, sg.length, gc, sg, na, nn, nc, soname, run, sa, sn, sc, ra, rn, rc⟩).toArray 33))
    obtain ⟨W4, hW4⟩ : ∃ W4, W4 = W0.alloc (.cells (loC ⟨ino, base, typ, entry, phoff, ga, sg.length, gc, sg, na, nn, nc, soname, run, sa, sn, sc, ra, rn, rc⟩).toArray 33) := ⟨_, rfl⟩
    rw [← hW4] at HR4 HX4 HB4
    unfold loC at hW4
    dsimp only at hW4
    have HTW := hid (fun (wr : World) (hs : St W4 wr) => twin_any ⟨ino, base, typ, entry, phoff, ga, sg.length, gc, sg, na, nn, nc, soname, run, sa, sn, sc, ra, rn, rc⟩ wr (HX4.out.below' hs) (by have := HGN.out; show sg.length ≤ 1000000000; omega))
    have HRT := hid (fun (wr : World) (a : Option Addr) (c : Nat) (hk : LOk wr (LO.moved ⟨ino, base, typ, entry, phoff, ga, sg.length, gc, sg, na, nn, nc, soname, run, sa, sn, sc, ra, rn, rc⟩ a c)) => right_any _ wr hk)
    have HRR := hid (fun (wr : World) (hs : St W4 wr) => rright_any ⟨ino, base, typ, entry, phoff, ga, sg.length, gc, sg, na, nn, nc, soname, run, sa, sn, sc, ra, rn, rc⟩ wr (HX4.out.below' hs))
    have HQ4 := hid (St.eleven (x := ⟨ino, base, typ, entry, phoff, ga, sg.length, gc, sg, na, nn, nc, soname, run, sa, sn, sc, ra, rn, rc⟩) HR4.out)
    unfold loV LO.moved at HTW
    unfold LO.moved loV at HRT
    unfold loV at HRR
    dsimp only at HTW HRT HRR HQ4
    clear x0 x1 x2 x3 x4 x5 x6 x7 x8 x9 x10 hl1 HV
    try rw [← hW4]
    clear hW4
    obtain ⟨y, hy⟩ : ∃ y, y = rightB ino typ sg := ⟨_, rfl⟩
    rw [← hy] at HRT HRR
    have dy : (y == y) = true := by simp
    clear hy
    go_wp2_with fail
    have q0 := fun w' hs => (HQ4.out w' hs).1.1
    have q1 := fun w' hs => (HQ4.out w' hs).1.2.1
    have q2 := fun w' hs => (HQ4.out w' hs).1.2.2.1
    have q3 := fun w' hs => (HQ4.out w' hs).1.2.2.2.1
    have q4 := fun w' hs => (HQ4.out w' hs).1.2.2.2.2.1
    have q5 := fun w' hs => (HQ4.out w' hs).1.2.2.2.2.2
    have q6 := fun w' hs => (HQ4.out w' hs).2.1.1
    have q7 := fun w' hs => (HQ4.out w' hs).2.1.2.1
    have q8 := fun w' hs => (HQ4.out w' hs).2.1.2.2.1
    have q9 := fun w' hs => (HQ4.out w' hs).2.1.2.2.2.1
    have q10 := fun w' hs => (HQ4.out w' hs).2.1.2.2.2.2
    have hlt1 := fun w' hs => (HQ4.out w' hs).2.2
    clear HQ4 HQ
    go_region_held3 (St W4) (first | exact St.drew _ | exact St.step (by assumption) hbx | assumption) (first | (go_at_call 12; with_reducible refine ((HTW.out _ (by assumption)).mono ?_); rintro e' wx ⟨a9, c9, rfl, hk9, hbx⟩; have HK9 := hid hk9; have HS11 : Hid (St W4 wx) := hid (St.step (by assumption) hbx); clear hk9) | (go_at_call 11; go_must (refine ((HRT.out _ _ _ HK9.out).mono ?_)); rintro e' wy ⟨rfl, hbx⟩; have HS12 : Hid (St W4 wy) := hid (St.step HS11.out hbx)) | (go_at_call 13; go_must (refine ((HRR.out _ HS12.out).mono ?_)); rintro e' wz ⟨rfl, hbx⟩; have HS13 : Hid (St W4 wz) := hid (St.step HS12.out hbx)) | (go_at_call 10; go_must (refine ((HWK.out _).mono ?_)); rintro e' wv ⟨rfl, hbx⟩; have HS14 : Hid (St W4 wv) := hid (St.step HS13.out hbx)))
    have HB14 := hid (bthen HB4.out HS14.out)
    go_wp2_with fail
    go_ret
    exact ⟨rfl, HB14.out⟩
  · clear HV1
    go_wp2_with fail
    refine (HWK.out _).mono ?_
    rintro e' w2 ⟨rfl, hb⟩
    have HB2 := hid (bthen (HB1.out _) hb)
    clear hb
    go_wp2_with fail
    go_ret
    exact ⟨rfl, HB2.out⟩
end Go.Proofs.Ytkpopdkkobelaaa
