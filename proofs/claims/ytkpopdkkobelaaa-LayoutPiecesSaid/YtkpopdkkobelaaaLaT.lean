
/- Stage 17's reference: Pieces. -/
import Derived.Test.YtkpopdkkobelaaaLaS
import Derived.Test.YtkpopdkkobelaaaLaC
import Derived.Deep.DeepCutAuto
namespace Go.Proofs.Ytkpopdkkobelaaa
open Go.RowKit Go.Sort Go.Shelf
attribute [local go_sem] Oper.semAt_some

theorem row_ne {w : World} {g base k n : Nat} {E E' : TypeId} {v : Value} {xs cs : List Value} (hr : Row w g E cs) (ho : w.ownsRow base E' k v n xs) (hE : E ≠ E') : some g ≠ v.ownBlock := by
  intro e
  obtain ⟨cs', hc⟩ := own_type ho e.symm
  rw [hr.heap] at hc
  injection hc with hc
  injection hc with _ h2 _
  exact hE h2
/-- What a round of the reference's Pieces keeps. -/
structure PS (B S : Nat) (s : SG) (w0 W : World) (v8 v9 : Value) (ps : List PC) (L : List (Int × Nat)) : Prop where
  p : OwnP W B v8 ps
  q : WrOwn W B v9 L
  s : Row W S 58 (sgC s)
  b : Below B w0 W
  z : B ≤ W.heap.size
theorem PS.alloc {B S : Nat} {s : SG} {w0 W : World} {v8 v9 : Value} {ps : List PC} {L : List (Int × Nat)} (h : PS B S s w0 W v8 v9 ps L) (o : Obj) : PS B S s w0 (W.alloc o) v8 v9 ps L :=
  ⟨own_below h.p (bal o), h.q.below (bal o), h.s.alloc o, h.b.alloc h.z o, Nat.le_trans h.z (bal o).size⟩
theorem PS.drew {B S : Nat} {s : SG} {w0 W : World} {v8 v9 : Value} {ps : List PC} {L : List (Int × Nat)} (h : PS B S s w0 W v8 v9 ps L) : PS B S s w0 W.drew v8 v9 ps L :=
  ⟨own_below h.p (St.drew W), h.q.below (St.drew W), h.s.drew, h.b.drew, h.z⟩
theorem PS.piece {B S : Nat} {s : SG} {w0 W w9 : World} {v8 v9 v8' : Value} {ps : List PC} {L : List (Int × Nat)} {p : PC} (h : PS B S s w0 W v8 v9 ps L) (ho : OwnP w9 B v8' (ps ++ [p])) (hg : W.grownBy w9 v8.ownBlock) : PS B S s w0 w9 v8' v9 (ps ++ [p]) L :=
  ⟨ho, h.q.other h.p hg, row_other h.s h.p hg (by decide), h.b.grown hg h.z (fun k hk => own_low h.p (Nat.le_refl _) k hk), Nat.le_trans h.z hg.size⟩
theorem PS.write {B S : Nat} {s : SG} {w0 W w9 : World} {v8 v9 v9' : Value} {ps : List PC} {L : List (Int × Nat)} {ws : List WB} {x : WB} (h : PS B S s w0 W v8 v9 ps L) (h1 : wbL ws = L) (h2 : OwnK W B 52 2 v9 (ws.map wbC)) (h3 : ∀ y ∈ ws, Nought W y) (hx : Nought W x) (ho : OwnK w9 B 52 2 v9' (ws.map wbC ++ [wbC x])) (hg : W.grownBy w9 v9.ownBlock) : PS B S s w0 w9 v8 v9' ps (L ++ [(x.addr, x.n)]) :=
  ⟨own_other h.p h2 hg (by decide), ⟨ws ++ [x], by rw [← h1]; simp [wbL], by rw [List.map_append]; exact ho, fun y hy => by
    rcases List.mem_append.1 hy with hy | hy
    · exact (h3 y hy).other h2 hg (by decide)
    · rw [List.mem_singleton.1 hy]; exact hx.other h2 hg (by decide)⟩, row_other h.s h2 hg (by decide), h.b.grown hg h.z (fun k hk => own_low h2 (Nat.le_refl _) k hk), Nat.le_trans h.z hg.size⟩

theorem wrOwn_from {w : World} {B B' : Nat} {v : Value} {L : List (Int × Nat)} (h : WrOwn w B v L) (hb : B' ≤ B) : WrOwn w B' v L := by
  obtain ⟨ws, h1, h2, h3⟩ := h
  exact ⟨ws, h1, own_from h2 hb, h3⟩
set_option maxRecDepth 100000 in
set_option maxHeartbeats 16000000 in
theorem rpieces_any (x : LO) (w : World) (hx : LOk w x) :
    Calls Try.prog 19 #[loV x] w (PiePost w x) := by
  obtain ⟨ino, base, typ, entry, phoff, ga, gn, gc, sg, na, nn, nc, soname, run, sa, sn, sc, ra, rn, rc⟩ := x
  obtain rfl : sg.length = gn := hx.segs.hlen
  obtain ⟨W0, hW0⟩ : ∃ W0, W0 = w.alloc (.cells #[.int .i64 ino, .int .u64 base, .int .u16 typ, .int .u64 entry, .int .u64 phoff, Value.slice ga sg.length gc, .slice na nn nc, .string (ba soname), .string (ba run), .slice sa sn sc, .slice ra rn rc] 33) := ⟨_, rfl⟩
  have HB0 := hid (show Below w.heap.size w W0 by rw [hW0]; exact bal _)
  have HX := hid (show Row W0 w.heap.size 33 [_, _, _, _, _, _, _, _, _, _, _] by rw [hW0]; exact Row.new w 33 [.int .i64 ino, .int .u64 base, .int .u16 typ, .int .u64 entry, .int .u64 phoff, Value.slice ga sg.length gc, .slice na nn nc, .string (ba soname), .string (ba run), .slice sa sn sc, .slice ra rn rc])
  have HXO := hid hx
  have HRT := hid (rright_any ⟨ino, base, typ, entry, phoff, ga, sg.length, gc, sg, na, nn, nc, soname, run, sa, sn, sc, ra, rn, rc⟩ W0 (HXO.out.below' HB0.out))
  have HLI := hid (fun (wx : World) (hb : Below w.heap.size w wx) (hr : rightB ino typ sg = true) => rlies_any ⟨ino, base, typ, entry, phoff, ga, sg.length, gc, sg, na, nn, nc, soname, run, sa, sn, sc, ra, rn, rc⟩ wx (HXO.out.below' hb) hr)
  have HLD := hid (fun (wx : World) (hb : Below w.heap.size w wx) (hl : sg.length ≤ 8) => rloads_any ⟨ino, base, typ, entry, phoff, ga, sg.length, gc, sg, na, nn, nc, soname, run, sa, sn, sc, ra, rn, rc⟩ wx (HXO.out.below' hb) (show sg.length ≤ 1000000000 by omega))
  have HNO := hid (fun (wx : World) (h : pieB ino typ base sg = false) (hb : Below w.heap.size w wx) => show PiePost w ⟨ino, base, typ, entry, phoff, ga, sg.length, gc, sg, na, nn, nc, soname, run, sa, sn, sc, ra, rn, rc⟩ (.returned (.tuple #[.slice none 0 0, .slice none 0 0, .int .i64 1])) wx from pie_no h hb)
  have HPI : Hid (pieB ino typ base sg = (rightB ino typ sg && decide (base % 4096 = 0) && liesB base (lds sg))) := hid rfl
  have hb0 := HXO.out.b0
  have hb1 := HXO.out.b1
  dsimp only at hb0 hb1
  clear hx
  unfold loV at HRT HLI HLD ⊢
  dsimp only at HRT HLI HLD ⊢
  obtain ⟨⟨x0, x1, x2, x3, x4, x5⟩, x6, x7, x8, x9, x10⟩ := HX.out.eleven
  have hl1 := HX.out.lt
  go_enter Try.func19, Try.ntmps19
  go_wp2_with fail
  try rw [← hW0]
  clear hW0
  go_wp2_with fail
  refine (HRT.out).mono ?_
  rintro e' w1 ⟨rfl, hb⟩
  have HB1 := hid (bthen HB0.out hb)
  have HX1 := hid (HX.out.below hb HX.out.lt)
  clear hb x0 x1 x2 x3 x4 x5 x6 x7 x8 x9 x10 hl1
  obtain ⟨⟨x0, x1, x2, x3, x4, x5⟩, x6, x7, x8, x9, x10⟩ := HX1.out.eleven
  have hl1 := HX1.out.lt
  cases hr : rightB ino typ sg
  · rw [hr] at HPI
    clear hr
    go_wp2_with fail
    go_ret3
    exact HNO.out _ (by rw [HPI.out]; rfl) HB1.out
  rw [hr] at HPI
  have HRR := hid hr
  clear hr
  by_cases hm : base % 4096 = 0
  case neg =>
    have dm : (base % 4096 != 0) = true := by simpa using hm
    rw [decide_eq_false hm] at HPI
    clear hm
    go_wp2_with fail
    go_ret3
    exact HNO.out _ (by rw [HPI.out]; rfl) HB1.out
  have dm : (base % 4096 != 0) = false := by simpa using hm
  rw [decide_eq_true hm] at HPI
  clear hm
  go_wp2_with fail
  refine (HLI.out w1 HB1.out HRR.out).mono ?_
  rintro e' w2 ⟨rfl, hb⟩
  have HB2 := hid (bthen HB1.out hb)
  have HX2 := hid (HX1.out.below hb HX1.out.lt)
  clear hb x0 x1 x2 x3 x4 x5 x6 x7 x8 x9 x10 hl1
  obtain ⟨⟨x0, x1, x2, x3, x4, x5⟩, x6, x7, x8, x9, x10⟩ := HX2.out.eleven
  have hl1 := HX2.out.lt
  unfold rliesV
  dsimp only
  cases hli : liesB base (lds sg)
  · rw [hli] at HPI
    rw [if_neg (by simp)]
    clear hli
    go_wp2_with fail
    go_ret3
    exact HNO.out _ (by rw [HPI.out]; rfl) HB2.out
  rw [hli] at HPI
  rw [if_pos rfl]
  have HLL := hid hli
  clear hli
  have HYES := hid (show pieB ino typ base sg = true by rw [HPI.out]; rfl)
  have hs8 := (rightB_of HRR.out).2.1
  go_wp2_with fail
  refine (HLD.out w2 HB2.out hs8).mono ?_
  rintro e' w7 ⟨v7, rfl, ho7, hb⟩
  obtain ⟨a7, c7, rfl, hs7, _⟩ := ownG_open ho7
  have HSG := hid hs7
  have HB7 := hid (bthen HB2.out hb)
  have HX7 := hid (HX2.out.below hb HX2.out.lt)
  have HMP := hid (fun (s : SG) (hs : s ∈ lds sg) => mpOk_of HXO.out HRR.out HLL.out hs)
  have HL8 := hid (show (lds sg).length ≤ 8 by have := lds_len sg; omega)
  dsimp only at HMP
  clear hb ho7 hs7 hs8 x0 x1 x2 x3 x4 x5 x6 x7 x8 x9 x10 hl1 HLD HLI HNO HPI HRT HB0 HB1 HX HX1 HX2
  generalize hle : lds sg = l at *
  have HLE := hid hle
  clear hle
  go_wp2_with fail
  go_loopw [8, 9, 11] (fun s8 s9 i wr => ∃ k : Nat, k ≤ l.length ∧ i = .int .i64 k ∧ OwnP wr w7.heap.size s8 (pcsL base ino (l.take k)) ∧ WrOwn wr w7.heap.size s9 (wrsL base (l.take k)) ∧ Below w7.heap.size w7 wr) (fun _ _ i _ => l.length - (intOf i).toNat)
  case atStart => exact ⟨0, Nat.zero_le _, rfl, ownP_nil _ _, wrOwn_nil _ _, Below.refl _ _⟩
  case round =>
    obtain ⟨k, hk, rfl, hop, hwo, hb⟩ := hrel
    have HO := hid hop
    have HW := hid hwo
    have HB := hid hb
    have HXr := hid (HX7.out.below hb HX7.out.lt)
    clear hop hwo hb
    by_cases hlt : k < l.length
    · have d1 : decide ((k : Int) < (l.length : Int)) = true := by simp; omega
      have d1n : decide (k < l.length) = true := by simp; omega
      obtain ⟨b, off, rfl, z0, z1, z2, z3, z4, z5⟩ := (HSG.out.below' HB.out).cells hlt
      have hbl := World.block_lt_of_cell? wr _ z0
      have hM := HMP.out l[k] (List.getElem_mem _)
      have HPS := hid (show PS w7.heap.size wr.heap.size l[k] w7 (wr.alloc (.cells (sgC l[k]).toArray 58)) u8 u9 (pcsL base ino (l.take k)) (wrsL base (l.take k)) from ⟨own_below HO.out (bal _), HW.out.below (bal _), Row.new wr 58 (sgC l[k]), HB.out.alloc HB.out.size _, Nat.le_trans HB.out.size (bal _).size⟩)
      have HT1 := hid (show pcsL base ino (l.take (k + 1)) = pcsL base ino (l.take k) ++ pcs1 base ino l[k] by rw [List.take_succ_eq_append_getElem hlt, pcsL_snoc])
      have HT2 := hid (show wrsL base (l.take (k + 1)) = wrsL base (l.take k) ++ wrs1 base l[k] by rw [List.take_succ_eq_append_getElem hlt, wrsL_snoc])
      have HN1 := hid (show (pcsL base ino (l.take k)).length ≤ 16 by have h9 := pcsL_len base ino (l.take k); rw [List.length_take] at h9; have := HL8.out; omega)
      have HN2 := hid (show (wrsL base (l.take k)).length ≤ 8 by have h9 := wrsL_len base (l.take k); rw [List.length_take] at h9; have := HL8.out; omega)
      generalize pcsL base ino (l.take k) = ps at *
      generalize wrsL base (l.take k) = L at *
      generalize l[k] = s at *
      have HXa := hid (fun o => HXr.out.alloc o)
      clear HO HW
      obtain ⟨WA, hWA⟩ : ∃ WA, WA = wr.alloc (.cells (sgC s).toArray 58) := ⟨_, rfl⟩
      rw [← hWA] at HPS
      have HXA := hid (show Row WA w.heap.size 33 [_, _, _, _, _, _, _, _, _, _, _] by rw [hWA]; exact HXa.out _)
      unfold sgC at hWA
      try dsimp only at hWA
      obtain ⟨⟨x0, x1, x2, x3, x4, x5⟩, x6, x7, x8, x9, x10⟩ := HXr.out.eleven
      have hl1 := HXr.out.lt
      clear HXa HXr
      have ho := hM.ok
      have m0 := hM.m0
      have m1 := hM.fm
      have m2 := hM.end'
      have a0 := ho.a0; have a1 := ho.a1; have f0 := ho.z0; have o0 := ho.o0; have o1 := ho.o1
      have HD := hid (fun wx => rdown_any (base + s.addr) wx (by omega) (by omega))
      have HUE := hid (fun wx => rup_any (base + s.addr + s.msz) wx (by omega) (by omega))
      have HUF := hid (fun wx => rup_any (base + s.addr + s.fsz) wx (by omega) (by omega))
      have HDO := hid (fun wx => rdown_any s.off wx o0 o1)
      have HPA : Hid (pcsA base ino s = if 0 < s.fsz then [⟨dn (base + s.addr), upI (base + s.addr + s.fsz), s.flags, ino, dn s.off⟩] else []) := hid rfl
      have HFB : Hid (fromB base s = if 0 < s.fsz then upI (base + s.addr + s.fsz) else dn (base + s.addr)) := hid rfl
      have HPB : Hid (pcsB base s = if fromB base s < upI (base + s.addr + s.msz) then [⟨fromB base s, upI (base + s.addr + s.msz), s.flags, -1, 0⟩] else []) := hid rfl
      have HWR : Hid (wrs1 base s = if 0 < s.fsz ∧ s.fsz < s.msz ∧ ¬ (base + s.addr + s.fsz) % 4096 = 0 then [(base + s.addr + s.fsz, (upI (base + s.addr + s.fsz) - (base + s.addr + s.fsz)).toNat)] else []) := hid rfl
      have hUF : base + s.addr + s.fsz ≤ upI (base + s.addr + s.fsz) ∧ upI (base + s.addr + s.fsz) ≤ base + s.addr + s.fsz + 4095 := by unfold upI dn; omega
      have HP1 : Hid (pcs1 base ino s = pcsA base ino s ++ pcsB base s) := hid rfl
      have HPAL := hid (show (pcsA base ino s).length ≤ 1 by unfold pcsA; split <;> simp)
      generalize fromB base s = FB at *
      generalize pcs1 base ino s = PP1 at *
      generalize pcsA base ino s = PA at *
      generalize pcsB base s = PB at *
      generalize wrs1 base s = WR at *
      obtain ⟨D, hD⟩ : ∃ D, D = dn (base + s.addr) := ⟨_, rfl⟩
      obtain ⟨UE, hUE⟩ : ∃ UE, UE = upI (base + s.addr + s.msz) := ⟨_, rfl⟩
      obtain ⟨UF, hUFe⟩ : ∃ UF, UF = upI (base + s.addr + s.fsz) := ⟨_, rfl⟩
      obtain ⟨DO, hDO⟩ : ∃ DO, DO = dn s.off := ⟨_, rfl⟩
      rw [← hD] at HD HPA HFB
      rw [← hUE] at HUE HPB
      rw [← hUFe] at HUF HPA HFB HWR hUF
      rw [← hDO] at HDO HPA
      clear hD hUE hUFe hDO ho hM
      have HUFF := hid hUF
      clear hUF
      go_wp2_with fail
      try rw [← hWA]
      clear hWA z0 z1 z2 z3 z4 z5 hbl x0 x1 x2 x3 x4 x5 x6 x7 x8 x9 x10 hl1
      obtain ⟨⟨x0, x1, x2, x3, x4, x5⟩, x6, x7, x8, x9, x10⟩ := HXA.out.eleven
      have hl1 := HXA.out.lt
      obtain ⟨y0, y1, y2, y3, y4, y5⟩ := (show Row WA wr.heap.size 58 [_, _, _, _, _, _] from HPS.out.s).six
      have hl2 := HPS.out.s.lt
      refine (HD.out _).mono ?_
      rintro e' wx ⟨rfl, rfl⟩
      go_wp2_with fail
      refine (HUE.out _).mono ?_
      rintro e' wx ⟨rfl, rfl⟩
      go_upto_if 70 with fail
      go_cut [8, 9, 13] (fun s8 s9 s13 wc => s13 = .int .u64 FB ∧ PS w7.heap.size wr.heap.size s w7 wc s8 s9 (ps ++ PA) (L ++ WR))
      case first =>
        by_cases hz : 0 < s.fsz
        · have dz : decide (0 < s.fsz) = true := decide_eq_true hz
          rw [if_pos hz] at HPA HFB
          simp only [dz]
          go_wp2_with fail
          have HOd := hid (fun o => show ((WA.alloc o).drew).ownsRow w7.heap.size 49 5 u8 ps.length (ps.map pcC).flatten from by have := ((HPS.out.alloc o).drew).p; unfold OwnP OwnK at this; rw [List.length_map] at this; exact this)
          have HNW := hid (show ∀ j u, (pcC ⟨D, UF, s.flags, ino, DO⟩)[j]? = some u → ((WA.alloc (.cells #[.int .u64 D, .int .u64 UF, .int .u8 s.flags, .int .i64 ino, .int .u64 DO] 49)).drew).cell? ((Addr.mk WA.heap.size 0 none).add j) = some u from by
            have := (row_rk (Row.drew (Row.new WA 49 (pcC ⟨D, UF, s.flags, ino, DO⟩))) (k := 5) rfl).news (by omega)
            intro j u hj
            exact this j u (by simpa using hj))
          have HON1 := hid (show ∀ u ∈ pcC ⟨D, UF, s.flags, ino, DO⟩, u.oneCell' = true from pcC_one [⟨D, UF, s.flags, ino, DO⟩] _ (by simp))
          have HZd := hid (fun o => ((HPS.out.alloc o).drew).z)
          have HM1 := hid (show ps.length + 1 ≤ maxLen by have := HN1.out; unfold maxLen; omega)
          have HM2 := hid (show (ps.length + 1) * 40 ≤ 140737488355328 by have := HN1.out; omega)
          have HNS := hid (row_ne HPS.out.s HPS.out.p (by decide))
          have HNO := hid (row_ne HXA.out HPS.out.p (by decide))
          have HPC := hid (fun (o : Obj) (g cap : Nat) (w' : World) (h1 : w'.ownsRow w7.heap.size 49 5 (.slice (some ⟨g, 0, none⟩) (ps.length + 1) cap) (ps.length + 1) ((ps.map pcC).flatten ++ pcC ⟨D, UF, s.flags, ino, DO⟩)) (hg : ((WA.alloc o).drew).grownBy w' u8.ownBlock) => ((HPS.out.alloc o).drew).piece (show OwnP w' w7.heap.size _ (ps ++ [⟨D, UF, s.flags, ino, DO⟩]) from own_ext h1 (by simp) (by simp)) hg)
          obtain ⟨i0, hi0, hz0, hz1, hz2⟩ := info_parts infoPc
          have hHe : ∀ o, ((WA.alloc o).drew).heap.size = WA.heap.size + 1 := fun o => by show (WA.alloc o).heap.size = _; simp
          go_region_held3 (fun w' => w'.cell? ⟨wr.heap.size, 1, none⟩ = some (.int .u8 s.flags) ∧ w'.cell? ⟨w.heap.size, 0, none⟩ = some (.int .i64 ino) ∧ w'.cell? ⟨wr.heap.size, 2, none⟩ = some (.int .u64 s.off)) (first | go_keep | (go_split_ands; exact ⟨hgrow.cell (by assumption) HNS.out, hgrow.cell (by assumption) HNO.out, hgrow.cell (by assumption) HNS.out⟩)) (first | (go_at_call 28; (with_reducible refine ((HUF.out _).mono ?_)); rintro e' wx ⟨rfl, rfl⟩) | (go_at_call 27; (with_reducible refine ((HDO.out _).mono ?_)); rintro e' wx ⟨rfl, rfl⟩) | (refine step_append_lies _ (by rfl) _ _ 44 (by rfl) w7.heap.size 49 i0 _ 5 40 Try.underlying44 hi0 hz0 hz1 hz2 rfl (by decide) u8 ps.length (ps.map pcC).flatten (by rfl) (HOd.out _) ⟨WA.heap.size, 0, none⟩ 1 1 (pcC ⟨D, UF, s.flags, ino, DO⟩) (by rfl) (by rfl) HNW.out HON1.out (by decide) HM1.out HM2.out (HZd.out _) (WA.heap.size + 1) (hHe _) ?_; intro gg cap w1 hown1 hgrow hat hlt9; have HP2 := hid (HPC.out _ _ _ _ hown1 hgrow)))
          clear HOd HNW HON1 HZd HM1 HM2 HNS HNO HPC x0 x1 x2 x3 x4 x5 x6 x7 x8 x9 x10 y0 y1 y2 y3 y4 y5 hl1 hl2 hHe
          obtain ⟨y0, y1, y2, y3, y4, y5⟩ := (show Row w1 wr.heap.size 58 [_, _, _, _, _, _] from HP2.out.s).six
          have hl2 := HP2.out.s.lt
          go_wp2_with fail
          refine (HUF.out _).mono ?_
          rintro e' wx ⟨rfl, rfl⟩
          by_cases h2 : s.fsz < s.msz ∧ ¬ (base + s.addr + s.fsz) % 4096 = 0
          · have d2 : decide (s.fsz < s.msz) = true := decide_eq_true h2.1
            have d3 : ((base + s.addr + s.fsz) % 4096 != 0) = true := by simpa using h2.2
            rw [if_pos ⟨hz, h2⟩] at HWR
            clear h2
            obtain ⟨nn, hnn⟩ : ∃ nn : Nat, UF - (base + s.addr + s.fsz) = (nn : Int) := ⟨(UF - (base + s.addr + s.fsz)).toNat, by have := HUFF.out; omega⟩
            have hsub : IntKind.u64.wrap (UF - (base + s.addr + s.fsz)) = (nn : Int) := by rw [hnn, IntKind.wrap_u64]; have := HUFF.out; omega
            have hnt : (UF - (base + s.addr + s.fsz)).toNat = nn := by omega
            rw [hnt] at HWR
            have hn4 : nn ≤ 4096 := by have := HUFF.out; omega
            have hmk := fun w => mk_nought nn hn4 w
            obtain ⟨ws, hws1, hws2, hws3⟩ := HP2.out.q
            have HWL := hid (show (ws.map wbC).length ≤ 8 by have := HN2.out; rw [← hws1] at this; simpa [wbL] using this)
            have HNW := hid (show Rk ((w1.alloc (.cells (nought nn).toArray 5)).alloc (.cells #[.int .u64 (base + s.addr + s.fsz), .slice (some ⟨w1.heap.size, 0, none⟩) nn nn] 52)) 2 (some ⟨w1.heap.size + 1, 0, none⟩) 1 [wbC ⟨(base + s.addr + s.fsz), some ⟨w1.heap.size, 0, none⟩, nn, nn⟩] from by
              have := Row.new (w1.alloc (.cells (nought nn).toArray 5)) 52 (wbC ⟨(base + s.addr + s.fsz), some ⟨w1.heap.size, 0, none⟩, nn, nn⟩)
              rw [World.size_alloc] at this
              exact row_rk this rfl)
            have HNN := hid (fun o => show Nought ((w1.alloc (.cells (nought nn).toArray 5)).alloc o) ⟨(base + s.addr + s.fsz), some ⟨w1.heap.size, 0, none⟩, nn, nn⟩ from ⟨w1.heap.size, rfl, rfl, (Row.new w1 5 (nought nn)).alloc _⟩)
            have HONW := hid (fun o o2 => show OwnK ((w1.alloc o).alloc o2) w7.heap.size 52 2 u9 (ws.map wbC) from own_below (own_below hws2 (bal o)) (bal o2))
            have HPW := hid (fun (o2 : Obj) (v' : Value) (w' : World) (h1 : OwnK w' w7.heap.size 52 2 v' (ws.map wbC ++ [wbC ⟨(base + s.addr + s.fsz), some ⟨w1.heap.size, 0, none⟩, nn, nn⟩])) (hg : ((w1.alloc (.cells (nought nn).toArray 5)).alloc o2).grownBy w' u9.ownBlock) => ((HP2.out.alloc (.cells (nought nn).toArray 5)).alloc o2).write hws1 (HONW.out _ _) (fun y hy => ((hws3 y hy).below (bal _)).below (bal _)) (HNN.out o2) h1 hg)
            have HZW := hid (fun o o2 => ((HP2.out.alloc o).alloc o2).z)
            have HONEW := hid (wbC_one [⟨(base + s.addr + s.fsz), some ⟨w1.heap.size, 0, none⟩, nn, nn⟩])
            have HNa := hid (show ((ws.map wbC).length + 1) * 32 ≤ 140737488355328 by have := HWL.out; omega)
            have HNb := hid (show (ws.map wbC).length + 1 ≤ maxLen by have := HWL.out; unfold maxLen; omega)
            clear hws1 hws2 hws3 hnn hnt
            go_wp2_with fail
            refine (HUF.out _).mono ?_
            rintro e' wx ⟨rfl, rfl⟩
            go_wp2_with (at_builtin; go_must (refine wpList_appKg Try.underlying45 infoWr rfl (by decide) rfl _ _ rfl w7.heap.size u9 (ws.map wbC) [wbC ⟨(base + s.addr + s.fsz), some ⟨w1.heap.size, 0, none⟩, nn, nn⟩] rfl (some ⟨w1.heap.size + 1, 0, none⟩) 1 1 rfl (HONW.out _ _) HNW.out HONEW.out (fun h => by cases h) HNa.out HNb.out (HZW.out _ _) ?_; intro vw w2 hown hgrow3 hb9; have HP3 := hid (HPW.out _ _ _ hown hgrow3); clear hown hgrow3 hb9))
            go_meet
            exact ⟨by rw [HFB.out], by rw [HPA.out, HWR.out]; exact HP3.out⟩
          · rw [if_neg (fun h => h2 h.2)] at HWR
            by_cases h3 : s.fsz < s.msz
            · have d2 : decide (s.fsz < s.msz) = true := decide_eq_true h3
              have d3 : ((base + s.addr + s.fsz) % 4096 != 0) = false := by
                have : (base + s.addr + s.fsz) % 4096 = 0 := Classical.byContradiction fun h4 => h2 ⟨h3, h4⟩
                simp [this]
              clear h2 h3
              go_wp2_with fail
              go_meet
              exact ⟨by rw [HFB.out], by rw [HPA.out, HWR.out, List.append_nil]; exact HP2.out⟩
            · have d2 : decide (s.fsz < s.msz) = false := decide_eq_false h3
              clear h2 h3
              go_wp2_with fail
              go_meet
              exact ⟨by rw [HFB.out], by rw [HPA.out, HWR.out, List.append_nil]; exact HP2.out⟩
        · have dz : decide (0 < s.fsz) = false := decide_eq_false hz
          rw [if_neg hz] at HPA HFB
          rw [if_neg (fun h => hz h.1)] at HWR
          clear hz
          simp only [dz]
          go_wp2_with fail
          go_meet
          exact ⟨by rw [HFB.out], by rw [HPA.out, HWR.out, List.append_nil, List.append_nil]; exact HPS.out⟩
      case rest =>
        obtain ⟨rfl, hps⟩ := hcut
        have hl8 := HL8.out
        have HPS := hid hps
        clear hps x0 x1 x2 x3 x4 x5 x6 x7 x8 x9 x10 hl1 y0 y1 y2 y3 y4 y5 hl2 HXA HD HUE HUF HDO HPA HFB HWR HUFF
        obtain ⟨y0, y1, y2, y3, y4, y5⟩ := (show Row wc wr.heap.size 58 [_, _, _, _, _, _] from HPS.out.s).six
        have hl2 := HPS.out.s.lt
        by_cases hf : FB < UE
        · have df : decide (FB < UE) = true := decide_eq_true hf
          rw [if_pos hf] at HPB
          clear hf
          have HOP := hid (fun o => ((HPS.out.alloc o)).p)
          have HNW := hid (row_rk (Row.new wc 49 (pcC ⟨FB, UE, s.flags, -1, 0⟩)) (rfl : (pcC ⟨FB, UE, s.flags, -1, 0⟩).length = 5))
          have HONE := hid (pcC_one [⟨FB, UE, s.flags, -1, 0⟩])
          have HNa := hid (show (((ps ++ PA).map pcC).length + 1) * 40 ≤ 140737488355328 by have := HN1.out; have := HPAL.out; simp; omega)
          have HNb := hid (show ((ps ++ PA).map pcC).length + 1 ≤ maxLen by have := HN1.out; have := HPAL.out; unfold maxLen; simp; omega)
          have HZW := hid (fun o => (HPS.out.alloc o).z)
          have HPC := hid (fun (o : Obj) (v' : Value) (w' : World) (h1 : OwnK w' w7.heap.size 49 5 v' ((ps ++ PA).map pcC ++ [pcC ⟨FB, UE, s.flags, -1, 0⟩])) (hg : (wc.alloc o).grownBy w' u8.ownBlock) => (HPS.out.alloc o).piece (p := ⟨FB, UE, s.flags, -1, 0⟩) (own_eq h1 (by simp)) hg)
          go_wp2_with (at_builtin; go_must (refine wpList_appKg Try.underlying44 infoPc rfl (by decide) rfl _ _ rfl w7.heap.size u8 ((ps ++ PA).map pcC) [pcC ⟨FB, UE, s.flags, -1, 0⟩] rfl (some ⟨wc.heap.size, 0, none⟩) 1 1 rfl (HOP.out _) HNW.out HONE.out (fun h => by cases h) HNa.out HNb.out (HZW.out _) ?_; intro vw w2 hown hgrow3 hb9; have HP3 := hid (HPC.out _ _ _ hown hgrow3); clear hown hgrow3 hb9))
          go_roundw
          case rel => exact ⟨k + 1, by omega, by go_num, by rw [HT1.out, HP1.out, ← List.append_assoc, HPB.out]; exact HP3.out.p, by rw [HT2.out]; exact HP3.out.q, HP3.out.b⟩
          case measure => simp [intOf]; omega
        · have df : decide (FB < UE) = false := decide_eq_false hf
          rw [if_neg hf] at HPB
          clear hf
          go_wp2_with fail
          go_roundw
          case rel => exact ⟨k + 1, by omega, by go_num, by rw [HT1.out, HP1.out, ← List.append_assoc, HPB.out, List.append_nil]; exact HPS.out.p, by rw [HT2.out]; exact HPS.out.q, HPS.out.b⟩
          case measure => simp [intOf]; omega
    · have d1 : decide ((k : Int) < (l.length : Int)) = false := by simp; omega
      have d1n : decide (k < l.length) = false := by simp; omega
      obtain rfl : k = l.length := by omega
      rw [List.take_length] at HO HW
      clear hlt hk
      go_wp2_with fail
      go_ret3
      refine ⟨HB7.out.trans (HB.out.mono HB7.out.size), ?_⟩
      rw [if_pos HYES.out]
      exact ⟨_, _, rfl, own_from (by rw [HLE.out]; exact HO.out) HB7.out.size, by rw [HLE.out]; exact wrOwn_from HW.out HB7.out.size⟩
end Go.Proofs.Ytkpopdkkobelaaa
