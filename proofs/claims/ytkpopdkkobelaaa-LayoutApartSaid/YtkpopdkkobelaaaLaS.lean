
/- Stage 17's reference: Span, lies. -/
import Derived.Test.YtkpopdkkobelaaaLaB
import Derived.Test.YtkpopdkkobelaaaLaQ
import Derived.Deep.QuietTactic
import Derived.BigQuiet
import Derived.OwnWalk
namespace Go.Proofs.Ytkpopdkkobelaaa
open Go.RowKit Go.Sort Go.Shelf
attribute [local go_sem] Oper.semAt_some

set_option maxRecDepth 100000 in
set_option maxHeartbeats 4000000 in
theorem rspan_any (x : LO) (w : World) (hx : LOk w x) (hr : rightB x.ino x.typ x.sg = true) :
    Calls Try.prog 33 #[loV x] w fun e w' => e = .returned (.tuple #[.int .u64 (lowS (lds x.sg)), .int .u64 (highS (lds x.sg))]) ∧ Below w.heap.size w w' := by
  obtain ⟨ino, base, typ, entry, phoff, ga, gn, gc, sg, na, nn, nc, soname, run, sa, sn, sc, ra, rn, rc⟩ := x
  obtain rfl : sg.length = gn := hx.segs.hlen
  obtain ⟨W0, hW0⟩ : ∃ W0, W0 = w.alloc (.cells #[.int .i64 ino, .int .u64 base, .int .u16 typ, .int .u64 entry, .int .u64 phoff, Value.slice ga sg.length gc, .slice na nn nc, .string (ba soname), .string (ba run), .slice sa sn sc, .slice ra rn rc] 33) := ⟨_, rfl⟩
  have HB0 := hid (show Below w.heap.size w W0 by rw [hW0]; exact bal _)
  have HX := hid (show Row W0 w.heap.size 33 [_, _, _, _, _, _, _, _, _, _, _] by rw [hW0]; exact Row.new w 33 [.int .i64 ino, .int .u64 base, .int .u16 typ, .int .u64 entry, .int .u64 phoff, Value.slice ga sg.length gc, .slice na nn nc, .string (ba soname), .string (ba run), .slice sa sn sc, .slice ra rn rc])
  have HXO := hid hx
  have HHR := hid (show rightB ino typ sg = true from hr)
  obtain ⟨⟨x0, x1, x2, x3, x4, x5⟩, x6, x7, x8, x9, x10⟩ := HX.out.eleven
  have hl1 := HX.out.lt
  have hlen := (rightB_of HHR.out).2.1
  have HLD := hid (rloads_any ⟨ino, base, typ, entry, phoff, ga, sg.length, gc, sg, na, nn, nc, soname, run, sa, sn, sc, ra, rn, rc⟩ W0 (HXO.out.below' HB0.out) (show sg.length ≤ 1000000000 by omega))
  have HL := hid (rightB_loads HXO.out.ok HHR.out)
  dsimp only at HL
  have hne := (rightB_of HHR.out).2.2.2.1
  obtain ⟨q, hq⟩ : ∃ q, q + 1 = (lds sg).length := ⟨(lds sg).length - 1, by have := List.length_pos_iff.2 hne; omega⟩
  have hlq : (lds sg).length ≤ 8 := by have := lds_len sg; omega
  have HHI := hid (high_at hq)
  have HLO := hid (show lowS (lds sg) = dn ((lds sg)[0]'(by omega)).addr by obtain ⟨s, r, h1, h2⟩ := head_of hne; rw [h2]; simp only [h1, List.getElem_cons_zero])
  have hfin := (finOf_le typ).2
  unfold loV at HLD ⊢
  dsimp only at HLD ⊢
  clear hne hx hr hlen
  go_enter Try.func33, Try.ntmps33
  go_wp2_with fail
  try rw [← hW0]
  clear hW0
  go_wp2_with fail
  refine (HLD.out).mono ?_
  rintro e' w1 ⟨v1, rfl, ho1, hb1⟩
  obtain ⟨a1, c1, rfl, hs1, _⟩ := ownG_open ho1
  have HB1 := hid (bthen HB0.out hb1)
  have HBA := hid (fun o => bthen HB1.out (bal (w := w1) o))
  have HS1 := hid hs1
  obtain ⟨b1, o1, ea, y0, y1, y2, y3, y4, y5⟩ := HS1.out.cells (k := q) (by omega)
  obtain ⟨b0, o0, ea0, z0, z1, z2, z3, z4, z5⟩ := HS1.out.cells (k := 0) (by omega)
  subst ea
  cases ea0
  have hq1 := HL.out.ok ((lds sg)[q]'(by omega)) (List.getElem_mem _)
  have hq0 := HL.out.ok ((lds sg)[0]'(by omega)) (List.getElem_mem _)
  have hlb := World.block_lt_of_cell? w1 _ y0
  have hm : (((lds sg).length : Int) - 1) = (q : Int) := by omega
  have hqn : q < (lds sg).length := by omega
  have hq0n : 0 < (lds sg).length := by omega
  obtain ⟨z, hz⟩ : ∃ z, z = (lds sg)[q]'(by omega) := ⟨_, rfl⟩
  obtain ⟨s, hs⟩ : ∃ s, s = (lds sg)[0]'(by omega) := ⟨_, rfl⟩
  rw [← hz] at y0 y1 y2 y3 y4 y5 hq1 HHI
  rw [← hs] at z0 z1 z2 z3 z4 z5 hq0 HLO
  clear hz hs

  have t0 : 0 ≤ z.addr := hq1.2.2.2.2.2.2.2.1
  have t1 : 0 < z.msz := hq1.2.1
  have t2 : z.addr + z.msz ≤ finOf typ := hq1.2.2.2.2.2.2.2.2.1
  have t3 : 0 ≤ s.addr := hq0.2.2.2.2.2.2.2.1
  have t4 : 0 < s.msz := hq0.2.1
  have t5 : s.addr + s.msz ≤ finOf typ := hq0.2.2.2.2.2.2.2.2.1
  have HD := hid (fun (wx : World) => (rdown_any s.addr wx t3 (by omega)).mono (fun _ _ h => (⟨h.1, h.2.symm⟩ : _ ∧ _)))
  have HU := hid (fun (wx : World) => (rup_any (z.addr + z.msz) wx (by omega) (by omega)).mono (fun _ _ h => (⟨h.1, h.2.symm⟩ : _ ∧ _)))
  have gw : IntKind.u64.wrap (z.addr + z.msz) = z.addr + z.msz := w64_in (by omega) (by omega)
  clear ho1 hb1 hs1 hq1 hq0 HLD x0 x1 x2 x3 x4 x5 x6 x7 x8 x9 x10 hl1 HL
  go_wp2_with fail
  go_quiet ((first | (go_at_call 27; go_loud (exact Calls.quiet_of_same (HD.out _))) | (go_at_call 28; exact Calls.quiet_of_same (HU.out _))))
  clear gw
  go_wp2_with fail
  go_ret2
  exact ⟨by rw [HLO.out, HHI.out]; rfl, bdN (HBA.out _) _⟩

def rliesV (x : LO) : Value := if liesB x.base (lds x.sg) = true then .tuple #[.int .u64 (x.base + lowS (lds x.sg)), .int .u64 (x.base + highS (lds x.sg)), .bool true] else .tuple #[.int .u64 0, .int .u64 0, .bool false]
set_option maxRecDepth 100000 in
set_option maxHeartbeats 4000000 in
theorem rlies_any (x : LO) (w : World) (hx : LOk w x) (hr : rightB x.ino x.typ x.sg = true) :
    Calls Try.prog 34 #[loV x] w fun e w' => e = .returned (rliesV x) ∧ Below w.heap.size w w' := by
  obtain ⟨ino, base, typ, entry, phoff, ga, gn, gc, sg, na, nn, nc, soname, run, sa, sn, sc, ra, rn, rc⟩ := x
  obtain rfl : sg.length = gn := hx.segs.hlen
  obtain ⟨W0, hW0⟩ : ∃ W0, W0 = w.alloc (.cells #[.int .i64 ino, .int .u64 base, .int .u16 typ, .int .u64 entry, .int .u64 phoff, Value.slice ga sg.length gc, .slice na nn nc, .string (ba soname), .string (ba run), .slice sa sn sc, .slice ra rn rc] 33) := ⟨_, rfl⟩
  have HB0 := hid (show Below w.heap.size w W0 by rw [hW0]; exact bal _)
  have HX := hid (show Row W0 w.heap.size 33 [_, _, _, _, _, _, _, _, _, _, _] by rw [hW0]; exact Row.new w 33 [.int .i64 ino, .int .u64 base, .int .u16 typ, .int .u64 entry, .int .u64 phoff, Value.slice ga sg.length gc, .slice na nn nc, .string (ba soname), .string (ba run), .slice sa sn sc, .slice ra rn rc])
  have HXO := hid hx
  have HHR := hid (show rightB ino typ sg = true from hr)
  obtain ⟨⟨x0, x1, x2, x3, x4, x5⟩, x6, x7, x8, x9, x10⟩ := HX.out.eleven
  have hl1 := HX.out.lt
  have hsp := HXO.out.span HHR.out
  have hb0 := HXO.out.b0
  have hb1 := HXO.out.b1
  have HSP := hid (rspan_any ⟨ino, base, typ, entry, phoff, ga, sg.length, gc, sg, na, nn, nc, soname, run, sa, sn, sc, ra, rn, rc⟩ W0 (HXO.out.below' HB0.out) HHR.out)
  have hfin := (finOf_le typ).2
  unfold rliesV liesB
  unfold loV at HSP ⊢
  dsimp only at HSP hsp hb0 hb1 ⊢
  clear hx hr
  generalize lowS (lds sg) = lo at *
  generalize highS (lds sg) = hi at *
  have hhi : hi ≤ 140737488355328 := by omega
  have hlo : 0 ≤ lo := hsp.1
  have hlh : lo < hi := hsp.2.1
  have e1 := w64_def (base + lo)
  have e2 := w64_def (base + hi)
  unfold w64 at e1 e2
  by_cases hl : base + hi ≤ 140737488355328
  · have c1 : decide (base + lo < lo) = false := decide_eq_false (by omega)
    have c2 : decide (base + hi < hi) = false := decide_eq_false (by omega)
    have c3 : decide (140737488355328 < base + hi) = false := decide_eq_false (by omega)
    have g1 : IntKind.u64.wrap (base + lo) = base + lo := by omega
    have g2 : IntKind.u64.wrap (base + hi) = base + hi := by omega
    rw [decide_eq_true hl, if_pos rfl]
    clear e1 e2 hsp
    go_enter Try.func34, Try.ntmps34
    go_wp2_with fail
    try rw [← hW0]
    clear hW0
    go_wp2_with fail
    refine (HSP.out).mono ?_
    rintro e' w1 ⟨rfl, hb1'⟩
    have HB1 := hid (bthen HB0.out hb1')
    have HX1 := hid (HX.out.below hb1' HX.out.lt)
    clear hb1' x0 x1 x2 x3 x4 x5 x6 x7 x8 x9 x10 hl1
    obtain ⟨⟨x0, x1, x2, x3, x4, x5⟩, x6, x7, x8, x9, x10⟩ := HX1.out.eleven
    have hl1 := HX1.out.lt
    go_wp2_with fail
    go_quiet (fail)
    clear g1 g2
    go_wp2_with fail
    go_ret3
    exact ⟨rfl, bdN HB1.out _⟩
  · rw [decide_eq_false hl, if_neg (by simp)]
    cases c1 : decide (IntKind.u64.wrap (base + lo) < lo)
    · cases c2 : decide (IntKind.u64.wrap (base + hi) < hi)
      · have c3 : decide (140737488355328 < IntKind.u64.wrap (base + hi)) = true := decide_eq_true (by have := of_decide_eq_false c2; omega)
        clear e1 e2 hsp hl
        go_enter Try.func34, Try.ntmps34
        go_wp2_with fail
        try rw [← hW0]
        clear hW0
        go_wp2_with fail
        refine (HSP.out).mono ?_
        rintro e' w1 ⟨rfl, hb1'⟩
        have HB1 := hid (bthen HB0.out hb1')
        have HX1 := hid (HX.out.below hb1' HX.out.lt)
        clear hb1' x0 x1 x2 x3 x4 x5 x6 x7 x8 x9 x10 hl1
        obtain ⟨⟨x0, x1, x2, x3, x4, x5⟩, x6, x7, x8, x9, x10⟩ := HX1.out.eleven
        have hl1 := HX1.out.lt
        go_wp2_with fail
        go_ret3
        exact ⟨rfl, HB1.out⟩
      · clear e1 e2 hsp hl
        go_enter Try.func34, Try.ntmps34
        go_wp2_with fail
        try rw [← hW0]
        clear hW0
        go_wp2_with fail
        refine (HSP.out).mono ?_
        rintro e' w1 ⟨rfl, hb1'⟩
        have HB1 := hid (bthen HB0.out hb1')
        have HX1 := hid (HX.out.below hb1' HX.out.lt)
        clear hb1' x0 x1 x2 x3 x4 x5 x6 x7 x8 x9 x10 hl1
        obtain ⟨⟨x0, x1, x2, x3, x4, x5⟩, x6, x7, x8, x9, x10⟩ := HX1.out.eleven
        have hl1 := HX1.out.lt
        go_wp2_with fail
        go_ret3
        exact ⟨rfl, HB1.out⟩
    · clear e1 e2 hsp hl
      go_enter Try.func34, Try.ntmps34
      go_wp2_with fail
      try rw [← hW0]
      clear hW0
      go_wp2_with fail
      refine (HSP.out).mono ?_
      rintro e' w1 ⟨rfl, hb1'⟩
      have HB1 := hid (bthen HB0.out hb1')
      have HX1 := hid (HX.out.below hb1' HX.out.lt)
      clear hb1' x0 x1 x2 x3 x4 x5 x6 x7 x8 x9 x10 hl1
      obtain ⟨⟨x0, x1, x2, x3, x4, x5⟩, x6, x7, x8, x9, x10⟩ := HX1.out.eleven
      have hl1 := HX1.out.lt
      go_wp2_with fail
      go_ret3
      exact ⟨rfl, HB1.out⟩
end Go.Proofs.Ytkpopdkkobelaaa
