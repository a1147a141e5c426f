
/- SearchFirst: the walk. -/
import Derived.Test.YtnepccjcjkeneaaSe
import Derived.Test.YtnepccjcjkeneaaKT
import Derived.BigQuiet
import Derived.Test.YtnepccjcjkeneaaVr
import Derived.Test.YtnepccjcjkeneaaOT
namespace Go.Proofs.Ytnepccjcjkeneaa
open Go.ChangeShapes Go.WideShapes Go.ChangeAt Go.RowKit Go.Sort
attribute [local go_sem] Oper.semAt_some

def AskL (w : World) (ps : List BL) (e : Ending) (w' : World) : Prop := ∃ b, e = .returned (.bool b) ∧ Below w.heap.size w w' ∧ (b = false → ps.length ≤ 8192 ∧ ∀ p ∈ ps, p.length ≤ 8192)

set_option maxRecDepth 100000 in
set_option maxHeartbeats 4000000 in
theorem asklarge_any (cwd : Int) (a : Option Addr) (c : Nat) (ps : List BL) (w : World) (hP : Cel w a ps.length (strs ps)) (hl : ps.length ≤ 8796093022207) (hs : ∀ p ∈ ps, p.length ≤ 140737488351232) :
    Calls Try.prog 31 #[.agg #[.int .i64 cwd, .slice a ps.length c]] w (AskL w ps) := by
  obtain ⟨W0, hW0⟩ : ∃ W0, W0 = w.alloc (.cells #[.int .i64 cwd, .slice a ps.length c] 64) := ⟨_, rfl⟩
  have hb : Below w.heap.size w W0 := by rw [hW0]; exact bal _
  have HR := hid (show Row W0 w.heap.size 64 [.int .i64 cwd, .slice a ps.length c] by rw [hW0]; exact Row.new w 64 [.int .i64 cwd, .slice a ps.length c])
  have HB0 := hid hb
  have HP := hid (hP.below' hb)
  have HS := hid hs
  clear hP hs hb
  go_enter Try.func31, Try.ntmps31
  go_wp2_with fail
  rw [← hW0]
  clear hW0
  go_loopw [3, 4] (fun n i wr => Below W0.heap.size W0 wr ∧ ∃ k m : Nat, k ≤ ps.length ∧ i = .int .i64 k ∧ n = .int .i64 m ∧ ps.length ≤ m ∧ m ≤ ps.length + 8192 + 16384 ∧ ∀ j (hj : j < ps.length), j < k → min ps[j].length 16384 ≤ m) (fun _ i _ => ps.length - (intOf i).toNat)
  case atStart => exact ⟨Below.refl _ _, 0, ps.length, Nat.zero_le _, rfl, rfl, Nat.le_refl _, by omega, fun j _ h => by omega⟩
  case round =>
    obtain ⟨hbw, k, m, hk, rfl, rfl, h1, h2, h3⟩ := hrel
    have H3 := hid h3
    have HBW := hid hbw
    have HR1 := hid (HR.out.below hbw HR.out.lt)
    obtain ⟨x0, x1⟩ := HR1.out.two
    have l0 := HR1.out.lt
    clear h3 hbw
    by_cases hlt : k < ps.length
    · have d1 : decide ((k : Int) < (ps.length : Int)) = true := by simp; omega
      have d1n : decide (k < ps.length) = true := by simp; omega
      by_cases hn : m ≤ 8192
      · have d2 : decide ((m : Int) ≤ 8192) = true := by simp; omega
        obtain ⟨b, o, rfl, hcell⟩ := (HP.out.below' HBW.out).some_of (by simp [strs]; omega)
        have g := strs_at hcell hlt
        have HSTEP := hid (fun (m' : Nat) (hm : m ≤ m') (hx : min (ps[k].length) 16384 ≤ m') => show ∀ j (hj : j < ps.length), j < k + 1 → min ps[j].length 16384 ≤ m' from fun j hj hjk => by
          by_cases e : j = k
          · subst e; exact hx
          · exact Nat.le_trans (H3.out j hj (by omega)) hm)
        have hp := HS.out _ (List.getElem_mem hlt)
        clear hcell
        generalize ps[k] = p at *
        have e1 : (ba p).size = p.length := ba_size _
        generalize hmp : min p.length 16384 = mp at *
        have i1 : (if decide ((16384 : Int) < ((ba p).size : Int)) = true then (16384 : Int) else ((ba p).size : Int)) = (mp : Int) := by rw [e1]; split <;> simp_all <;> omega
        have hblt := World.block_lt_of_cell? _ _ g
        dsimp only at hblt
        go_wp2_with fail
        have HSUM := hid (show ((m + mp : Nat) : Int) = (m : Int) + min (p.length : Int) 16384 by omega)
        have HB := hid (show mp ≤ 16384 by omega)
        rw [← HSUM.out]
        clear hmp i1 e1 hp
        go_roundw
        case rel =>
          have := HB.out
          exact ⟨HBW.out, k + 1, m + mp, by omega, by go_num, rfl, by omega, by omega, HSTEP.out _ (by omega) (by omega)⟩
        case measure => simp [intOf]; omega
      · have d2 : decide ((m : Int) ≤ 8192) = false := by simp; omega
        have d3 : decide ((8192 : Int) < (m : Int)) = true := by simp; omega
        go_wp2_with fail
        go_ret
        exact ⟨true, rfl, bthen HB0.out HBW.out, fun h => by cases h⟩
    · have d1 : decide ((k : Int) < (ps.length : Int)) = false := by simp; omega
      have d1n : decide (k < ps.length) = false := by simp; omega
      have HLE := hid (show m ≤ 8192 → ∀ x ∈ ps, x.length ≤ 8192 from fun hm x hx => by
        obtain ⟨j, hj, rfl⟩ := List.getElem_of_mem hx
        have := H3.out j hj (by omega)
        omega)
      by_cases hn : m ≤ 8192
      · have d3 : decide ((8192 : Int) < (m : Int)) = false := by simp; omega
        go_wp2_with fail
        go_ret
        exact ⟨false, rfl, bthen HB0.out HBW.out, fun _ => ⟨by omega, HLE.out hn⟩⟩
      · have d3 : decide ((8192 : Int) < (m : Int)) = true := by simp; omega
        go_wp2_with fail
        go_ret
        exact ⟨true, rfl, bthen HB0.out HBW.out, fun h => by cases h⟩

section
variable {H : Type} {enc : TypeId × Value → H} {w : World}
set_option maxRecDepth 100000 in
theorem open_ask2 {r : Reach} {b0 : Nat} {v : Value} {d : DataW H} {ps : List MemPlace} (hv : Value.okWide Try.prog w r b0 64 v) (h : DataW.Trod enc Try.prog w 0 (fun _ => true) true 64 v d ps) (hz : (d.weights Try.prog 64).all (· ≤ reachBytes) = true) :
    ∃ (f : Int) (a : Option Addr) (c : Nat) (ds : List BL), v = .agg #[.int .i64 f, .slice a ds.length c] ∧ Cel w a ds.length (strs ds) ∧ ds.length ≤ 8796093022207 ∧ ds.length ≤ c ∧ (a = none → c = 0) ∧ ∀ p ∈ ds, p.length ≤ 140737488351232 := by
  obtain ⟨cs, rfl, hsz, hc⟩ := open_agg (n := 2) Try.underlying64 hv h (small_of hz)
  rw [cellsAsk] at hsz
  rw [leavesAsk] at hc
  obtain ⟨l, hl⟩ : ∃ l, cs = ⟨l⟩ := ⟨cs.toList, rfl⟩
  subst hl
  match l, hsz with
  | [v0, v1], _ =>
    obtain ⟨m0, y0, t0, s0⟩ := hc 0 3 (by simp) (by kernel_rfl) (by simp)
    obtain ⟨m1, y1, t1, s1⟩ := hc 1 58 (by simp) (by kernel_rfl) (by simp)
    obtain ⟨x0, rfl, _⟩ := leaf_int Try.underlying3 t0
    obtain ⟨a, n, c, ds, rfl, hC, hle, hnil, hcap, hds⟩ := leaf_txts t1 s1
    obtain rfl : ds.length = n := by simpa [strs] using hC.hlen
    exact ⟨x0, a, c, ds, rfl, hC, by omega, hle, hnil, hds⟩
end

theorem walk_nx {L : List ND} (hf : Fine L) (c : CR) (cwd : Int) (p : BL) (last : Bool) : ∃ nx : Nat, nx < L.length ∧ (walkL L c cwd p last).1 = nx := by
  by_cases h : (walkL L c cwd p last).2 = 0
  · exact walk_in hf rfl h
  · refine ⟨0, hf.pos, ?_⟩
    revert h
    unfold walkL
    repeat' split
    all_goals first | (intro _; rfl) | (intro h; exact absurd rfl h)

set_option maxRecDepth 100000 in
set_option maxHeartbeats 8000000 in
theorem searchFirst_walk (a : Option Addr) (cp : Nat) (xs : List EN) (u e s g : Int) (ca : Option Addr) (cn cc : Nat) (cl : List Int) (cwd : Int) (pa : Option Addr) (pc : Nat) (ps : List BL) (w : World) (hX : EntsIn w a xs.length xs) (hxl : xs.length ≤ 140737488351232) (hN : Nums w .u32 ca cn cl) (hP : Cel w pa ps.length (strs ps)) (hpl : ps.length ≤ 8796093022207) (hps : ∀ p ∈ ps, p.length ≤ 140737488351232) :
    Calls Try.prog 8 #[.slice a xs.length cp, credV u e s g ca cn cc, .agg #[.int .i64 cwd, .slice pa ps.length pc]] w fun e' w' => e' = .returned (.bool true) ∧ Below w.heap.size w w' := by
  obtain ⟨W0, hW0⟩ : ∃ W0, W0 = (w.alloc (.cells #[.int .u32 u, .int .u32 e, .int .u32 s, .int .u32 g, .slice ca cn cc] 44)).alloc (.cells #[.int .i64 cwd, .slice pa ps.length pc] 64) := ⟨_, rfl⟩
  have hb : Below w.heap.size w W0 := by rw [hW0]; exact (bal _).alloc (by simp) _
  have hr1 : Row W0 w.heap.size 44 [.int .u32 u, .int .u32 e, .int .u32 s, .int .u32 g, .slice ca cn cc] := by
    rw [hW0]; exact (Row.new w 44 [.int .u32 u, .int .u32 e, .int .u32 s, .int .u32 g, .slice ca cn cc]).alloc _
  have hr2 : Row W0 (w.heap.size + 1) 64 [.int .i64 cwd, .slice pa ps.length pc] := by
    have := Row.new (w.alloc (.cells #[.int .u32 u, .int .u32 e, .int .u32 s, .int .u32 g, .slice ca cn cc] 44)) 64 [.int .i64 cwd, .slice pa ps.length pc]
    rw [World.size_alloc] at this
    rw [hW0]; exact this
  have HB0 := hid hb
  have HR1 := hid hr1
  have HR2 := hid hr2
  have HX0 := hid (show EntsIn W0 a xs.length xs from ⟨hX.rows.below' hb, fun x hx => ⟨(hX.ok x hx).byt.below' hb, (hX.ok x hx).nil, (hX.ok x hx).path, (hX.ok x hx).to, (hX.ok x hx).data, (hX.ok x hx).mode⟩⟩)
  have HN0 := hid (hN.below' hb)
  have HP0 := hid (hP.below' hb)
  have HPS := hid hps
  have HPL := hid hpl
  clear hb hr1 hr2 hX hN hP hps hpl
  go_enter Try.func8, Try.ntmps8
  go_wp2_with fail
  rw [← hW0]
  clear hW0
  refine (largeE_any _ _ _ xs W0 HX0.out hxl).mono ?_
  rintro e' w1 ⟨b, rfl, hb, hsm⟩
  have HB1 := hid (HB0.out.trans (hb.mono HB0.out.size))
  have HR1 := hid (HR1.out.below hb HR1.out.lt)
  have HR2 := hid (HR2.out.below hb HR2.out.lt)
  cases b
  · obtain ⟨hs1, hs2⟩ := hsm rfl
    have he := HX0.out.small hs2
    have HX1 := hid (he.below hb)
    have HN1 := hid (HN0.out.below' hb)
    have HP1 := hid (HP0.out.below' hb)
    have HS1 := hid hs1
    clear hsm hs1 hs2 he hb HX0 HN0 HP0
    obtain ⟨c0, c1, c2, c3, c4⟩ := HR1.out.five
    obtain ⟨d0, d1⟩ := HR2.out.two
    have hl1 := HR1.out.lt
    have hl2 := HR2.out.lt
    by_cases hsz : cn ≤ 1024
    · have dsz : decide ((1024 : Int) < (cn : Int)) = false := by simp; omega
      have HSZ := hid hsz
      clear hsz
      go_wp2_with fail
      refine (asklarge_any cwd pa pc ps w1 HP1.out HPL.out HPS.out).mono ?_
      rintro e' w2 ⟨bb, rfl, hb, hsm⟩
      have HB2 := hid (bthen HB1.out hb)
      have HR1 := hid (HR1.out.below hb HR1.out.lt)
      have HR2 := hid (HR2.out.below hb HR2.out.lt)
      have HX2 := hid (HX1.out.below hb)
      have HN2 := hid (HN1.out.below' hb)
      have HP2 := hid (HP1.out.below' hb)
      have HSM := hid hsm
      clear hb hsm c0 c1 c2 c3 c4 d0 d1 hl1 hl2 HX1 HN1 HP1 HPS HPL
      cases bb
      · obtain ⟨hs5, hs6⟩ := HSM.out rfl
        have HS5 := hid hs5
        have HS6 := hid hs6
        clear HSM hs5 hs6
        go_wp2_with fail
        refine (copyE_any _ _ _ xs w2 HX2.out (by have := HS1.out; omega)).mono ?_
        rintro e' w3 ⟨v, ys, rfl, hC⟩
        obtain ⟨av, cv, rfl, _⟩ := own_rk hC.own (enC_len ys) (by omega)
        have hb := hC.below
        have HB3 := hid (bthen HB2.out hb)
        have HR1 := hid (HR1.out.below hb HR1.out.lt)
        have HR2 := hid (HR2.out.below hb HR2.out.lt)
        have HN3 := hid (HN2.out.below' hb)
        have HP3 := hid (HP2.out.below' hb)
        have HE := hid hC.ents.2
        have HYL := hid (show ys.length ≤ 1000000 by have := HS1.out; have := hC.len; omega)
        clear hb hC HX2 HN2 HP2
        go_wp2_with fail
        refine (new_any _ _ _ ys w3 HE.out HYL.out).mono ?_
        rintro e' w4 ⟨hb, hp⟩
        have HB4 := hid (bthen HB3.out hb)
        have HR1 := hid (HR1.out.below hb HR1.out.lt)
        have HR2 := hid (HR2.out.below hb HR2.out.lt)
        have HN4 := hid (HN3.out.below' hb)
        have HP4 := hid (HP3.out.below' hb)
        clear hb HE HN3 HP3 HB0 HB1 HB2 HB3
        split at hp
        · obtain rfl := hp
          go_wp2_with fail
          refine (works15_any _).mono ?_
          rintro e' w5 ⟨rfl, hb⟩
          have HB5 := hid (bthen HB4.out hb)
          clear hb
          go_wp2_with fail
          go_ret
          exact ⟨rfl, HB5.out⟩
        · split at hp
          · obtain ⟨F, t, rfl, _, hfs, _⟩ := hp
            have HF := hid hfs
            clear hfs
            have HCR := hid (show CrOk w4 ⟨u, e, s, g, ca, cn, cc, cl⟩ from ⟨HN4.out, by have := HSZ.out; dsimp only; omega⟩)
            have HFD := hid (find_any F t ⟨u, e, s, g, ca, cn, cc, cl⟩ cwd pa pc ps w4 HF.out HCR.out HP4.out (fun p hp => by have := HS6.out p hp; omega) (by have := HS5.out; omega))
            obtain ⟨x0, x1, x2, x3, x4⟩ := HR1.out.five
            obtain ⟨y0, y1⟩ := HR2.out.two
            have hl1 := HR1.out.lt
            have hl2 := HR2.out.lt
            cases hR : firstL (leadB t.L ⟨u, e, s, g, ca, cn, cc, cl⟩ cwd) ps with
            | mk fn r =>
            obtain ⟨fp, fo⟩ := r
            rw [hR] at HFD
            have HR := hid hR
            obtain ⟨rn, rp, re, hfv, hfo⟩ : ∃ (rn : Int) (rp : BL) (re : Int), findV (fn, fp, fo) = .tuple #[.int .i64 rn, .string (ba rp), .int .i64 re] ∧ ((fo = true ∧ rn = fn ∧ rp = fp ∧ re = 0) ∨ (fo = false ∧ rn = 0 ∧ rp = [] ∧ re = 19)) := by
              cases fo
              · exact ⟨0, [], 19, rfl, .inr ⟨rfl, rfl, rfl, rfl⟩⟩
              · exact ⟨fn, fp, 0, rfl, .inl ⟨rfl, rfl, rfl, rfl⟩⟩
            rw [hfv] at HFD
            have HFO := hid hfo
            simp only [CR.v] at HFD
            clear hR hfv hfo
            go_wp2_with fail
            refine (HFD.out).mono ?_
            rintro e' w5 ⟨rfl, hb⟩
            have HB5 := hid (bthen HB4.out hb)
            have HR1 := hid (HR1.out.below hb HR1.out.lt)
            have HR2 := hid (HR2.out.below hb HR2.out.lt)
            have HN5 := hid (HN4.out.below' hb)
            have HP5 := hid (HP4.out.below' hb)
            have HF5 := hid (HF.out.below hb)
            clear hb HFD HCR x0 x1 x2 x3 x4 y0 y1 hl1 hl2 HN4 HP4 HF HB4
            go_wp2_with fail
            go_loopw [13] (fun i wr => Below w5.heap.size w5 wr ∧ ∃ k : Nat, k ≤ ps.length ∧ i = .int .i64 k ∧ firstL (leadB t.L ⟨u, e, s, g, ca, cn, cc, cl⟩ cwd) (ps.drop k) = (fn, fp, fo)) (fun i _ => ps.length - (intOf i).toNat)
            case atStart => exact ⟨Below.refl _ _, 0, Nat.zero_le _, rfl, HR.out⟩
            case round =>
              obtain ⟨hbw, k, hk, rfl, hfi⟩ := hrel
              have HBW := hid hbw
              have HFI := hid hfi
              have HRa := hid (HR1.out.below hbw HR1.out.lt)
              have HRb := hid (HR2.out.below hbw HR2.out.lt)
              clear hbw hfi
              obtain ⟨y0, y1⟩ := HRb.out.two
              have hl2 := HRb.out.lt
              have hp5 := HS5.out
              by_cases hlt : k < ps.length
              · have d1 : decide ((k : Int) < (ps.length : Int)) = true := by simp; omega
                have d1n : decide (k < ps.length) = true := by simp; omega
                have HPr := hid (HP5.out.below' HBW.out)
                have HNr := hid (HN5.out.below' HBW.out)
                have HFr := hid (HF5.out.below HBW.out)
                obtain ⟨b, o, rfl, hcell⟩ := HPr.out.some_of (by simp [strs]; omega)
                have g9 := strs_at hcell hlt
                have HDR := hid (List.drop_eq_getElem_cons hlt)
                have HPK := hid (HS6.out _ (List.getElem_mem hlt))
                generalize ps[k] = p at *
                have HG9 := hid g9
                clear hcell
                obtain ⟨nx, hnx, hn⟩ := walk_nx HFr.out.fine ⟨u, e, s, g, ca, cn, cc, cl⟩ cwd p true
                have HWA := hid (fun (wx : World) (hs : Below wr.heap.size wr wx) => walk_any F t ⟨u, e, s, g, ca, cn, cc, cl⟩ cwd p true wx (HFr.out.below hs) ⟨HNr.out.below' hs, by have := HSZ.out; dsimp only; omega⟩ (by have := HPK.out; omega))
                have HLD : Hid (leadB t.L ⟨u, e, s, g, ca, cn, cc, cl⟩ cwd p = if (walkL t.L ⟨u, e, s, g, ca, cn, cc, cl⟩ cwd p true).2 = 0 then ((walkL t.L ⟨u, e, s, g, ca, cn, cc, cl⟩ cwd p true).1, decide ((t.L.getD (walkL t.L ⟨u, e, s, g, ca, cn, cc, cl⟩ cwd p true).1.toNat default).kind = 1) && mayB e g cl (t.L.getD (walkL t.L ⟨u, e, s, g, ca, cn, cc, cl⟩ cwd p true).1.toNat default).kind (t.L.getD (walkL t.L ⟨u, e, s, g, ca, cn, cc, cl⟩ cwd p true).1.toNat default).mode (t.L.getD (walkL t.L ⟨u, e, s, g, ca, cn, cc, cl⟩ cwd p true).1.toNat default).uid (t.L.getD (walkL t.L ⟨u, e, s, g, ca, cn, cc, cl⟩ cwd p true).1.toNat default).gid 4) else (0, false)) := hid rfl
                generalize walkL t.L ⟨u, e, s, g, ca, cn, cc, cl⟩ cwd p true = R1 at *
                obtain ⟨n1, e1⟩ := R1
                simp only [walkV, CR.v] at HWA
                simp only at hn HLD
                subst hn
                rw [Int.toNat_natCast, show t.L.getD nx default = t.nd nx from rfl] at HLD
                have HNX := hid hnx
                have HMO := hid (HFr.out.fine.mode nx hnx)
                clear hnx
                obtain ⟨q0, q1, q2, q3, q4⟩ := five_rg HRa.out.five
                have z0 := rg_cell y0
                have z1 := rg_cell y1
                have zg := rg_cell g9
                have wc := hid (fun (d : Nat) (os : Array Obj) => rg_call (HWA.out (rg wr d os) (rg_below _ _ _)))
                have hbl : ∀ d os, w.heap.size < (rg wr d os).heap.size := fun d os => World.block_lt_of_cell? _ _ (q0 d os)
                have hbl2 : ∀ d os, w.heap.size + 1 < (rg wr d os).heap.size := fun d os => World.block_lt_of_cell? _ _ (z0 d os)
                have hbl3 : ∀ d os, b < (rg wr d os).heap.size := fun d os => World.block_lt_of_cell? _ _ (zg d os)
                go_wp2_with fail
                refine region_rg (by kernel_rfl) (by kernel_rfl) ?_
                repeat (quiet_step (first | with_reducible exact wc.out _ _))
                refine wpQuiet_nil ?_
                intro _ hw'
                obtain ⟨⟨dq, osq⟩, hw''⟩ := hw'
                subst hw''
                have HB6 := hid (rg_below wr dq osq)
                clear q0 q1 q2 q3 q4 z0 z1 zg wc hbl hbl2 hbl3 y0 y1 hl2 HWA g9
                generalize rg wr dq osq = W6 at *
                have HFx := hid (HFr.out.below HB6.out)
                go_wp2_with fail
                refine (meta_any F t nx W6 HFx.out HNX.out).mono ?_
                rintro e' w7 ⟨rfl, hb⟩
                have HB7 := hid (bthen HB6.out hb)
                clear hb HFx HB6
                have HMB := hid (@bal w7 (.cells #[.int .u8 (t.nd nx).kind, .int .u16 (t.nd nx).mode, .int .u32 (t.nd nx).uid, .int .u32 (t.nd nx).gid, .int .i64 (t.nd nx).size] 32))
                have HB8 := hid (bthen HB7.out HMB.out)
                by_cases he : e1 = 0
                · subst he
                  rw [if_pos rfl] at HLD
                  by_cases hk1 : (t.nd nx).kind = 1
                  · have dk : ((t.nd nx).kind == 1) = true := by simp [hk1]
                    rw [decide_eq_true hk1, Bool.true_and] at HLD
                    have HN8 := hid (HNr.out.below' HB8.out)
                    have HMAY := hid (rmay_any u e s g (t.nd nx).kind (t.nd nx).mode (t.nd nx).uid (t.nd nx).gid (t.nd nx).size 4 ca cn cc cl _ HN8.out (by have := HSZ.out; omega) HMO.out.1 HMO.out.2 (by omega))
                    obtain ⟨q0, q1, q2, q3, q4⟩ := (HRa.out.below HB7.out HRa.out.lt).five
                    have hl1 := (HRa.out.below HB7.out HRa.out.lt).lt
                    generalize mayB e g cl (t.nd nx).kind (t.nd nx).mode (t.nd nx).uid (t.nd nx).gid 4 = mb at *
                    clear hk1
                    go_wp2_with fail
                    refine (HMAY.out).mono ?_
                    rintro e' w9 ⟨rfl, hb⟩
                    have HB9 := hid (bthen HB8.out hb)
                    clear hb HMAY q0 q1 q2 q3 q4 hl1 HMB HB8 HB7 HN8
                    cases mb
                    · have HNXT := hid (show firstL (leadB t.L ⟨u, e, s, g, ca, cn, cc, cl⟩ cwd) (ps.drop (k + 1)) = (fn, fp, fo) by rw [← HFI.out, HDR.out, firstL_no (by rw [HLD.out])])
                      go_wp2_with fail
                      go_roundw
                      case rel => exact ⟨bthen HBW.out HB9.out, k + 1, by omega, by go_num, HNXT.out⟩
                      case measure => simp [intOf]; omega
                    · have hit : ((nx : Int), p, true) = (fn, fp, fo) := by rw [← HFI.out, HDR.out, firstL_yes (by rw [HLD.out]), HLD.out]
                      obtain ⟨rfl, rfl, rfl, rfl⟩ : fo = true ∧ rn = (nx : Int) ∧ rp = p ∧ re = 0 := by
                        cases hit
                        rcases HFO.out with ⟨_, h2, h3, h4⟩ | ⟨h1, _⟩
                        · exact ⟨rfl, h2, h3, h4⟩
                        · cases h1
                      have hq := ba_beq2 rp rp
                      rw [decide_eq_true rfl] at hq
                      have g9 := keepC HB9.out HG9.out
                      have hbl3 := World.block_lt_of_cell? _ _ g9
                      obtain ⟨y0, y1⟩ := (HRb.out.below HB9.out HRb.out.lt).two
                      have hl2 := (HRb.out.below HB9.out HRb.out.lt).lt
                      have heq : ((nx : Int) == (nx : Int)) = true := by simp
                      clear hit
                      go_wp2_with fail
                      refine (works15_any _).mono ?_
                      rintro e' w10 ⟨rfl, hb⟩
                      have HBX := hid (bthen HB5.out (bthen (bthen HBW.out HB9.out) hb))
                      clear hb
                      go_wp2_with fail
                      go_ret
                      exact ⟨rfl, HBX.out⟩
                  · have dk : ((t.nd nx).kind == 1) = false := by simpa using hk1
                    rw [decide_eq_false hk1, Bool.false_and] at HLD
                    have HNXT := hid (show firstL (leadB t.L ⟨u, e, s, g, ca, cn, cc, cl⟩ cwd) (ps.drop (k + 1)) = (fn, fp, fo) by rw [← HFI.out, HDR.out, firstL_no (by rw [HLD.out])])
                    clear hk1
                    go_wp2_with fail
                    go_roundw
                    case rel => exact ⟨bthen HBW.out HB8.out, k + 1, by omega, by go_num, HNXT.out⟩
                    case measure => simp [intOf]; omega
                · have hne : (e1 == 0) = false := by simpa using he
                  rw [if_neg he] at HLD
                  have HNXT := hid (show firstL (leadB t.L ⟨u, e, s, g, ca, cn, cc, cl⟩ cwd) (ps.drop (k + 1)) = (fn, fp, fo) by rw [← HFI.out, HDR.out, firstL_no (by rw [HLD.out])])
                  clear he
                  go_wp2_with fail
                  go_roundw
                  case rel => exact ⟨bthen HBW.out HB8.out, k + 1, by omega, by go_num, HNXT.out⟩
                  case measure => simp [intOf]; omega
              · have d1 : decide ((k : Int) < (ps.length : Int)) = false := by simp; omega
                have d1n : decide (k < ps.length) = false := by simp; omega
                have hend : ((0 : Int), ([] : BL), false) = (fn, fp, fo) := by rw [← HFI.out, List.drop_eq_nil_of_le (by omega)]; rfl
                obtain ⟨rfl, rfl, rfl, rfl⟩ : fo = false ∧ rn = 0 ∧ rp = [] ∧ re = 19 := by
                  cases hend
                  rcases HFO.out with ⟨h1, _⟩ | ⟨_, h2, h3, h4⟩
                  · cases h1
                  · exact ⟨rfl, h2, h3, h4⟩
                have hq := ba_beq [] []
                clear hend
                go_wp2_with fail
                refine (works15_any _).mono ?_
                rintro e' w10 ⟨rfl, hb⟩
                have HBX := hid (bthen HB5.out (bthen HBW.out hb))
                clear hb
                go_wp2_with fail
                go_ret
                exact ⟨rfl, HBX.out⟩
          · obtain rfl := hp
            go_wp2_with fail
            refine (works15_any _).mono ?_
            rintro e' w5 ⟨rfl, hb⟩
            have HB5 := hid (bthen HB4.out hb)
            clear hb
            go_wp2_with fail
            go_ret
            exact ⟨rfl, HB5.out⟩
      · clear HSM
        go_wp2_with fail
        refine (works15_any _).mono ?_
        rintro e' w5 ⟨rfl, hb⟩
        have HB5 := hid (bthen HB2.out hb)
        clear hb
        go_wp2_with fail
        go_ret
        exact ⟨rfl, HB5.out⟩
    · have dsz : decide ((1024 : Int) < (cn : Int)) = true := by simp; omega
      clear hsz
      go_wp2_with fail
      refine (works15_any _).mono ?_
      rintro e' w3 ⟨rfl, hb2⟩
      have HB3 := hid (bthen HB1.out hb2)
      clear hb2
      go_wp2_with fail
      go_ret
      exact ⟨rfl, HB3.out⟩
  · clear hsm
    go_wp2_with fail
    refine (works15_any _).mono ?_
    rintro e' w3 ⟨rfl, hb2⟩
    have HB3 := hid (bthen HB1.out hb2)
    clear hb2
    go_wp2_with fail
    go_ret
    exact ⟨rfl, HB3.out⟩
end Go.Proofs.Ytnepccjcjkeneaa
