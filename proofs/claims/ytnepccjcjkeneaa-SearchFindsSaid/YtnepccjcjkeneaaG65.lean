
/- hostelref15.Find; SearchFinds: the walk. -/
import Derived.Test.YtnepccjcjkeneaaG63
import Derived.Test.YtnepccjcjkeneaaG64
import Derived.Test.YtnepccjcjkeneaaSe6
import Derived.Test.YtnepccjcjkeneaaZA0
namespace Go.Proofs.Ytnepccjcjkeneaa
open Go.ChangeShapes Go.WideShapes Go.ChangeAt Go.RowKit Go.Sort
attribute [local go_sem] Oper.semAt_some

theorem addE_twin (L : List ND) (x : EN) (a : Option Addr) (c : Nat) : addE L { x with a := a, c := c } = addE L x := rfl
theorem newE_twin : ∀ (ys xs : List EN) (L : List ND) (k : Nat), ys.length = xs.length → (∀ i (h : i < ys.length) (h' : i < xs.length), ys[i] = { xs[i] with a := ys[i].a, c := ys[i].c }) → newE L k ys = newE L k xs
  | [], [], _, _, _, _ => rfl
  | [], x :: xs, _, _, h, _ => by simp at h
  | y :: ys, [], _, _, h, _ => by simp at h
  | y :: ys, x :: xs, L, k, h, ht => by
    have h0 : y = { x with a := y.a, c := y.c } := ht 0 (by simp) (by simp)
    have he : addE L y = addE L x := by rw [h0]; exact addE_twin L x _ _
    have hr : ∀ L' k', newE L' k' ys = newE L' k' xs := fun L' k' => newE_twin ys xs L' k' (by simpa using h) (fun i h1 h2 => ht (i + 1) (by simpa using h1) (by simpa using h2))
    by_cases hx : (addE L x).1 = 0
    · rw [newE_go hx, newE_go (by rw [he]; exact hx), he, hr]
    · rw [newE_no hx, newE_no (by rw [he]; exact hx), he]
theorem cpe_new {w0 w : World} {base : Nat} {v : Value} {xs ys : List EN} (h : Cpe w0 base xs xs.length v ys w) (L : List ND) (k : Nat) : newE L k ys = newE L k xs := newE_twin ys xs L k h.len h.twin

set_option maxRecDepth 100000 in
set_option maxHeartbeats 8000000 in
theorem rfind_any (G : Nat) (L : List ND) (d : Nat → Option Addr × Nat) (c : CR) (cwd : Int) (a : Option Addr) (cap : Nat) (ps : List BL) (w : World) (h : RF w G L d) (hc : CrOk w c) (hP : Cel w a ps.length (strs ps)) (hp : ∀ p ∈ ps, p.length ≤ 1000000) (hl : ps.length ≤ 1000000) :
    Calls Try.prog 37 #[.pointer (some ⟨G, 0, none⟩), c.v, .int .i64 cwd, .slice a ps.length cap] w fun e w' => e = .returned (findV (firstL (leadB L c cwd) ps)) ∧ Below w.heap.size w w' := by
  obtain ⟨W0, hW0⟩ : ∃ W0, W0 = w.alloc (.cells #[.int .u32 c.u, .int .u32 c.e, .int .u32 c.s, .int .u32 c.g, .slice c.a c.n c.c] 44) := ⟨_, rfl⟩
  have hb0 : Below w.heap.size w W0 := by rw [hW0]; exact bal _
  have HX := hid (show Row W0 w.heap.size 44 [.int .u32 c.u, .int .u32 c.e, .int .u32 c.s, .int .u32 c.g, .slice c.a c.n c.c] by rw [hW0]; exact Row.new w 44 [.int .u32 c.u, .int .u32 c.e, .int .u32 c.s, .int .u32 c.g, .slice c.a c.n c.c])
  have HB0 := hid hb0
  have HR0 := hid (h.below hb0)
  have HC0 := hid (hc.below hb0)
  have HP0 := hid (hP.below' hb0)
  have HPP := hid hp
  clear hb0 h hc hP hp
  unfold CR.v
  obtain ⟨R, hR⟩ : ∃ R, firstL (leadB L c cwd) ps = R := ⟨_, rfl⟩
  rw [hR]
  have HRR := hid hR
  clear hR
  go_enter Try.func37, Try.ntmps37
  go_wp2_with fail
  rw [← hW0]
  clear hW0
  go_loopw [11] (fun i wr => Below W0.heap.size W0 wr ∧ ∃ k : Nat, k ≤ ps.length ∧ i = .int .i64 k ∧ firstL (leadB L c cwd) (ps.drop k) = R) (fun i _ => ps.length - (intOf i).toNat)
  case atStart => exact ⟨Below.refl _ _, 0, Nat.zero_le _, rfl, HRR.out⟩
  case round =>
    obtain ⟨hbw, k, hk, rfl, hfi⟩ := hrel
    have HBW := hid hbw
    have HFI := hid hfi
    have HRa := hid (HX.out.below hbw HX.out.lt)
    clear hbw hfi
    by_cases hlt : k < ps.length
    · have d1 : decide ((k : Int) < (ps.length : Int)) = true := by simp; omega
      have d1n : decide (k < ps.length) = true := by simp; omega
      have HPr := hid (HP0.out.below' HBW.out)
      have HCr := hid (HC0.out.below HBW.out)
      have HFr := hid (HR0.out.below HBW.out)
      obtain ⟨b, o, rfl, hcell⟩ := HPr.out.some_of (by simp [strs]; omega)
      have g9 := strs_at hcell hlt
      have HDR := hid (List.drop_eq_getElem_cons hlt)
      have HPK := hid (HPP.out _ (List.getElem_mem hlt))
      generalize ps[k] = p at *
      have HG9 := hid g9
      clear hcell
      obtain ⟨nx, hnx, hn⟩ := walk_nx HFr.out.fine c cwd p true
      have HWA := hid (fun (wx : World) (hs : Below wr.heap.size wr wx) => rwalk_any G L d c cwd p true wx (HFr.out.below hs) (HCr.out.below hs) HPK.out)
      have HLD : Hid (leadB L c cwd p = if (walkL L c cwd p true).2 = 0 then ((walkL L c cwd p true).1, decide ((L.getD (walkL L c cwd p true).1.toNat default).kind = 1) && mayB c.e c.g c.l (L.getD (walkL L c cwd p true).1.toNat default).kind (L.getD (walkL L c cwd p true).1.toNat default).mode (L.getD (walkL L c cwd p true).1.toNat default).uid (L.getD (walkL L c cwd p true).1.toNat default).gid 4) else (0, false)) := hid rfl
      generalize walkL L c cwd p true = R1 at *
      obtain ⟨n1, e1⟩ := R1
      simp only [walkV, CR.v] at HWA
      simp only at hn HLD
      subst hn
      rw [Int.toNat_natCast] at HLD
      have HNX := hid hnx
      have HMO := hid (HFr.out.fine.mode nx hnx)
      have HME := hid (fun (wx : World) (hs : Below wr.heap.size wr wx) => rmeta_in G L d nx wx (HFr.out.below hs) hnx)
      clear hnx
      generalize L.getD nx default = X at *
      obtain ⟨q0, q1, q2, q3, q4⟩ := five_rg HRa.out.five
      have zg := rg_cell g9
      have wc := hid (fun (d : Nat) (os : Array Obj) => rg_call (HWA.out (rg wr d os) (rg_below _ _ _)))
      have hbl : ∀ d os, w.heap.size < (rg wr d os).heap.size := fun d os => World.block_lt_of_cell? _ _ (q0 d os)
      have hbl3 : ∀ d os, b < (rg wr d os).heap.size := fun d os => World.block_lt_of_cell? _ _ (zg d os)
      go_wp2_with fail
      refine region_rg (by kernel_rfl) (by kernel_rfl) ?_
      repeat (quiet_step (first | with_reducible exact wc.out _ _))
      refine wpQuiet_nil ?_
      intro _ hw'
      obtain ⟨⟨dq, osq⟩, hw''⟩ := hw'
      subst hw''
      have HB6 := hid (rg_below wr dq osq)
      clear q0 q1 q2 q3 q4 zg wc hbl hbl3 HWA g9
      generalize rg wr dq osq = W6 at *
      by_cases he : e1 = 0
      · subst he
        rw [if_pos rfl] at HLD
        go_wp2_with fail
        refine (HME.out W6 HB6.out).mono ?_
        rintro e' w7 ⟨rfl, hb⟩
        have HB7 := hid (bthen HB6.out hb)
        clear hb HB6
        have HMB := hid (@bal w7 (.cells #[.int .u8 X.kind, .int .u16 X.mode, .int .u32 X.uid, .int .u32 X.gid, .int .i64 X.size] 32))
        have HB8 := hid (bthen HB7.out HMB.out)
        by_cases hk1 : X.kind = 1
        · have dk : (X.kind == 1) = true := by simp [hk1]
          rw [decide_eq_true hk1, Bool.true_and] at HLD
          have HN8 := hid (HCr.out.below HB8.out)
          have HMAY := hid (rmay_any c.u c.e c.s c.g X.kind X.mode X.uid X.gid X.size 4 c.a c.n c.c c.l _ HN8.out.nums HN8.out.most HMO.out.1 HMO.out.2 (by omega))
          obtain ⟨q0, q1, q2, q3, q4⟩ := (HRa.out.below HB7.out HRa.out.lt).five
          have hl1 := (HRa.out.below HB7.out HRa.out.lt).lt
          generalize mayB c.e c.g c.l X.kind X.mode X.uid X.gid 4 = mb at *
          clear hk1
          go_wp2_with fail
          refine (HMAY.out).mono ?_
          rintro e' w9 ⟨rfl, hb⟩
          have HB9 := hid (bthen HB8.out hb)
          clear hb HMAY q0 q1 q2 q3 q4 hl1 HMB HB8 HB7 HN8
          cases mb
          · have HNXT := hid (show firstL (leadB L c cwd) (ps.drop (k + 1)) = R by rw [← HFI.out, HDR.out, firstL_no (by rw [HLD.out])])
            go_wp2_with fail
            go_roundw
            case rel => exact ⟨bthen HBW.out HB9.out, k + 1, by omega, by go_num, HNXT.out⟩
            case measure => simp [intOf]; omega
          · have HIT := hid (show R = ((nx : Int), p, true) by rw [← HFI.out, HDR.out, firstL_yes (by rw [HLD.out]), HLD.out])
            have g9 := keepC HB9.out HG9.out
            have hbl3 := World.block_lt_of_cell? _ _ g9
            go_wp2_with fail
            go_quiet (fail)
            go_wp2_with fail
            refine bodyPost_ret (v := .tuple #[.int .i64 nx, .string (ba p), .int .i64 0]) (by simp [results, Try.results37, Try.f37, go_sem]) rfl ⟨by rw [HIT.out]; rfl, bdN (bthen HB0.out (bthen HBW.out HB9.out)) _⟩
        · have dk : (X.kind == 1) = false := by simpa using hk1
          rw [decide_eq_false hk1, Bool.false_and] at HLD
          have HNXT := hid (show firstL (leadB L c cwd) (ps.drop (k + 1)) = R by rw [← HFI.out, HDR.out, firstL_no (by rw [HLD.out])])
          clear hk1
          go_wp2_with fail
          go_roundw
          case rel => exact ⟨bthen HBW.out HB8.out, k + 1, by omega, by go_num, HNXT.out⟩
          case measure => simp [intOf]; omega
      · have hne : (e1 != 0) = true := by simpa using he
        rw [if_neg he] at HLD
        have HNXT := hid (show firstL (leadB L c cwd) (ps.drop (k + 1)) = R by rw [← HFI.out, HDR.out, firstL_no (by rw [HLD.out])])
        clear he
        go_wp2_with fail
        go_roundw
        case rel => exact ⟨bthen HBW.out HB6.out, k + 1, by omega, by go_num, HNXT.out⟩
        case measure => simp [intOf]; omega
    · have d1 : decide ((k : Int) < (ps.length : Int)) = false := by simp; omega
      have d1n : decide (k < ps.length) = false := by simp; omega
      have HEND := hid (show R = (0, [], false) by rw [← HFI.out, List.drop_eq_nil_of_le (by omega)]; rfl)
      go_wp2_with fail
      refine bodyPost_ret (v := .tuple #[.int .i64 0, .string (ba []), .int .i64 19]) (by simp [results, Try.results37, Try.f37, go_sem]; rfl) rfl ⟨by rw [HEND.out]; rfl, bthen HB0.out HBW.out⟩
theorem rfind_none (u e s g : Int) (ca : Option Addr) (cn cc : Nat) (cwd : Int) (a : Option Addr) (n c : Nat) (w : World) :
    Calls Try.prog 37 #[.pointer none, credV u e s g ca cn cc, .int .i64 cwd, .slice a n c] w fun e' w' => e' = .returned (.tuple #[.int .i64 0, .string (ba []), .int .i64 2]) ∧ Below w.heap.size w w' := by
  have HB := hid (@bal w (.cells #[.int .u32 u, .int .u32 e, .int .u32 s, .int .u32 g, .slice ca cn cc] 44))
  go_enter Try.func37, Try.ntmps37
  go_wp2_with fail
  refine bodyPost_ret (v := .tuple #[.int .i64 0, .string (ba []), .int .i64 2]) (by simp [results, Try.results37, Try.f37, go_sem]; rfl) rfl ⟨rfl, HB.out⟩
end Go.Proofs.Ytnepccjcjkeneaa
