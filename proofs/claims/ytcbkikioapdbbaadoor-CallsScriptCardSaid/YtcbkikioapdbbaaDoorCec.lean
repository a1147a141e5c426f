
/- CallsScript: its first loop's round. -/
import Derived.Test.YtcbkikioapdbbaaDoorCeb
namespace Go.Proofs.YtcbkikioapdbbaaDoor
open Go.RowKit Go.Sort
attribute [local go_sem] Oper.semAt_some

/-- The facts that four appends want. -/
structure ScrIn (w W : World) (vb vg vw : Value) (xs : List (Nat × CG)) (k : Nat) : Prop where
  scr : Scr w W vb vg vw (scrB xs) (begs xs) xs xs.length
  ok : ∀ x ∈ xs, StepOk x ∧ CGok w x.2
  len : (scrB xs).length ≤ 65537
  le : xs.length ≤ k

theorem slToS (a : Option Addr) (len cap m : Nat) (x : Int) (hx : x = (m : Int)) (hm : m ≤ cap) (w : World) :
    (Instr.slice 42 (.slice a len cap) none (some (.int .i64 x)) none).run Tryd.prog w = .ok (.slice a m cap) w := by
  subst hx
  have hz : ∀ w, (sizeOf (Tryd.prog.elem 42)).run Tryd.prog w = .ok 11 w := fun w => by kernel_rfl
  rw [run_slice_h w 42 _ _ _ (by kernel_rfl) .i64 m (by omega) (by omega), hz]
  have e : a.map (·.add 0) = a := by cases a <;> simp [Addr.add]
  simp only [Result.andThen, sliced, Int.toNat_natCast, Nat.zero_mul, e, Nat.sub_zero]
  split <;> rfl
theorem StIn.upto {w : World} {a : Option Addr} {xs : List (Nat × CG)} (h : StIn w a xs) {m : Nat} (hm : m ≤ xs.length) : StIn w a (xs.take m) :=
  ⟨by
    have := Rk.prefix h.rows hm
    rw [← List.map_take] at this
    rwa [show (xs.take m).length = m by rw [List.length_take]; omega], fun x hx => h.ok x (List.mem_of_mem_take hx)⟩

set_option maxRecDepth 100000 in
set_option maxHeartbeats 16000000 in
theorem callsScript_walk (a : Option Addr) (cap : Nat) (ls : List (Int × CG)) (cut : Int) (w : World) (hs : Sizes w) (hA : StArg w a ls) (hln : ls.length ≤ 8796093022207) (hcut : -9223372036854775808 ≤ cut ∧ cut ≤ 9223372036854775807) :
    Calls Tryd.prog 9 #[.slice a ls.length cap, .int .i64 cut] w fun e w' => e = .returned (.bool true) ∧ Below w.heap.size w w' := by
  have HS := hid (fun (w' : World) (hb : Below w.heap.size w w') => hs.below hb)
  have HG := hid (fun (w' : World) (hb : Below w.heap.size w w') => Nat.lt_of_lt_of_le hs.lt hb.size)
  have HWK := hid (fun (w' : World) (hb : Below w.heap.size w w') => works25_any w' (hs.below hb) (Nat.lt_of_lt_of_le hs.lt hb.size))
  have HA := hid hA
  clear hs hA
  by_cases hlg : 100 < ls.length
  · have d1 : decide ((100 : Int) < (ls.length : Int)) = true := by simp; omega
    have d1n : decide (100 < ls.length) = true := by simp; omega
    go_enter Tryd.func9, Tryd.ntmps9
    go_wp2_with fail
    refine (HWK.out w (Below.refl _ _)).mono ?_
    rintro e' w5 ⟨rfl, hb5⟩
    have HL5 := hid hb5
    clear hb5
    go_wp2_with fail
    go_ret
    exact ⟨rfl, HL5.out⟩
  have d1 : decide ((100 : Int) < (ls.length : Int)) = false := by simp; omega
  have d1n : decide (100 < ls.length) = false := by simp; omega
  have hl100 : ls.length ≤ 100 := by omega
  clear hlg hln
  go_enter Tryd.func9, Tryd.ntmps9
  go_wp2_with fail
  go_loopw [5, 6, 7, 8] (fun vb vg vw i wr => ∃ (k : Nat) (xs : List (Nat × CG)), k ≤ ls.length ∧ i = .int .i64 k ∧ ScrIn w wr vb vg vw xs k) (fun _ _ _ i _ => ls.length - (intOf i).toNat)
  case atStart => exact ⟨0, [], Nat.zero_le _, rfl, ⟨World.ownsRow_nil _ _ _ _, World.ownsRow_nil _ _ _ _, World.ownsRow_nil _ _ _ _, Below.refl _ _⟩, (fun x h => by cases h), Nat.zero_le _, Nat.zero_le _⟩
  case round =>
    obtain ⟨k, xs, hk, rfl, hin⟩ := hrel
    rename World => wA
    have HIN := hid hin
    obtain ⟨ba0, bc0, eb⟩ := own_hd2 hin.scr.b
    obtain ⟨ga0, gc0, eg⟩ := own_hd2 hin.scr.g
    obtain ⟨sa0, sc0, es⟩ := own_hd2 hin.scr.s
    subst eb; subst eg; subst es
    clear hin
    by_cases hlt : k < ls.length
    · have d2 : decide ((k : Int) < (ls.length : Int)) = true := by simp; omega
      have d2n : decide (k < ls.length) = true := by simp; omega
      obtain ⟨b, off, ra, hbw, hbig⟩ := HA.out.big hlt
      have HBIG := hid hbig
      have HELV := hid (fun (W : World) (hW : Below w.heap.size w W) => HA.out.elev hlt ra hW)
      have HOKX := hid (HA.out.ok _ (List.getElem_mem hlt))
      generalize ls[k].1 = pid at *
      generalize ls[k].2 = x at *
      obtain ⟨x0, x1, x2, x3, x4, x5, x6, x7, x8, x9, x10⟩ := HBIG.out wA HIN.out.scr.low
      subst ra
      clear hbig
      go_wp2_with fail
      refine (largeC_any x wA (HOKX.out.1.below HIN.out.scr.low)).mono ?_
      rintro e' w2 ⟨bl, rfl, hbl, hb2⟩
      have HSC2 := hid (HIN.out.scr.below hb2)
      have HSC2Z := hid hb2.size
      have HSTAY := hid (fun (W : World) (hsc : Scr w W (.slice ba0 (scrB xs).length bc0) (.slice ga0 xs.length gc0) (.slice sa0 xs.length sc0) (scrB xs) (begs xs) xs xs.length) => show ScrIn w W _ _ _ xs (k + 1) from ⟨hsc, HIN.out.ok, HIN.out.len, Nat.le_succ_of_le HIN.out.le⟩)
      clear x0 x1 x2 x3 x4 x5 x6 x7 x8 x9 x10 hb2
      cases bl
      · have HNL := hid (hbl rfl)
        clear hbl
        obtain ⟨x0, x1, x2, x3, x4, x5, x6, x7, x8, x9, x10⟩ := HBIG.out w2 HSC2.out.low
        by_cases hp0 : pid < 0
        · have e1 : decide (pid < 0) = true := by simpa using hp0
          clear hp0
          go_wp2_with fail
          go_roundw
          case rel => exact ⟨k + 1, xs, by omega, by go_num, HSTAY.out _ HSC2.out⟩
          case measure => simp [intOf]; omega
        have e1 : decide (pid < 0) = false := by simp; omega
        by_cases hp1 : 255 < pid
        · have e2 : decide (255 < pid) = true := by simpa using hp1
          clear hp0 hp1
          go_wp2_with fail
          go_roundw
          case rel => exact ⟨k + 1, xs, by omega, by go_num, HSTAY.out _ HSC2.out⟩
          case measure => simp [intOf]; omega
        have e2 : decide (255 < pid) = false := by simp; omega
        obtain ⟨p, rfl⟩ := Int.eq_ofNat_of_zero_le (show 0 ≤ pid by omega)
        have HP := hid (show p < 256 by omega)
        have HF := hid (show Calls Tryd.prog 16 #[cgV x] w2 (FormQ x w2) from (form25_any x w2 (HS.out w2 HSC2.out.low) (HOKX.out.1.below HSC2.out.low) (Nat.le_trans HNL.out.pn (by decide)) (HG.out w2 HSC2.out.low)).mono fun _ _ h => h.q)
        clear hp0 hp1
        go_wp2_with fail
        refine HF.out.mono ?_
        rintro e' w3 ⟨a5, n5, rfl, ho3, hb3⟩
        have HSC3 := hid (HSC2.out.below hb3)
        have HS23 := hid hb3.size
        have HX3 := hid ho3
        have HFL := hid (frmB_len HNL.out.pn)
        clear x0 x1 x2 x3 x4 x5 x6 x7 x8 x9 x10 hb3 ho3 HF
        by_cases hce : chkC x = 0
        rotate_left
        · have hn := bne_t hce
          have hn2 := beq_f hce
          generalize chkC x = er at *
          clear hce
          go_wp2_with fail
          go_roundw
          case rel => exact ⟨k + 1, xs, by omega, by go_num, HSTAY.out _ HSC3.out⟩
          case measure => simp [intOf]; omega
        have HCE := hid hce
        have HFB := hid (show frmB x = formB x from if_pos hce)
        rw [hce]
        rw [HFB.out] at HX3 HFL ⊢
        clear hce
        obtain ⟨fb, hfb⟩ : ∃ fb, fb = formB x := ⟨_, rfl⟩
        have HFE := hid hfb
        rw [← hfb] at HX3 HFL ⊢
        clear hfb
        obtain ⟨N, hN⟩ : ∃ N, N = (scrB xs).length := ⟨_, rfl⟩
        have HNE := hid hN
        have hN5 : N ≤ 65537 := by rw [hN]; exact HIN.out.len
        have hM5 : fb.length ≤ 655371 := HFL.out
        rw [← hN]
        clear hN
        have ew := IntWalk.wrap64_in ((N : Int) + (fb.length : Int)) ⟨by omega, by omega⟩
        by_cases htl : 65536 < N + fb.length
        · have e3 : decide ((65536 : Int) < (N : Int) + (fb.length : Int)) = true := by simp; omega
          have e3n : decide (65536 < N + fb.length) = true := by simp; omega
          clear htl
          go_wp2_with fail
          go_roundw
          case rel => exact ⟨k + 1, xs, by omega, by go_num, by rw [HNE.out]; exact HSTAY.out _ HSC3.out⟩
          case measure => simp [intOf]; omega
        have e3 : decide ((65536 : Int) < (N : Int) + (fb.length : Int)) = false := by simp; omega
        have e3n : decide (65536 < N + fb.length) = false := by simp; omega
        have HTL := hid htl
        clear htl
        obtain ⟨G, hG⟩ : ∃ G, G = (Value.int .i64 (N : Int)) := ⟨_, rfl⟩
        have HGE := hid hG
        obtain ⟨w4, hw4⟩ : ∃ w4, w4 = w3.alloc (.cells #[.int .i64 N] 3) := ⟨_, rfl⟩
        have hb34 : Below w3.heap.size w3 w4 := by rw [hw4]; exact bal _
        have HSC4 := hid (HSC3.out.below hb34)
        have HX4 := hid (own_below HX3.out hb34)
        have HC4 := hid (show Cel w4 (some ⟨w3.heap.size, 0, none⟩) 1 [.int .i64 N] by rw [hw4]; exact cel_one w3 _ _)
        have HW4 := hid hw4
        have HONEI := hid (show ∀ u ∈ [Value.int .i64 (N : Int)], u.oneCell' = true from fun u hu => by rw [List.mem_singleton.1 hu]; rfl)
        have hxl : xs.length ≤ 100 := by have := HIN.out.le; omega
        have HN1 := hid (show (xs.length + 1) * 8 ≤ 140737488355328 by omega)
        have HN2 := hid (show xs.length + 1 ≤ maxLen by unfold maxLen; omega)
        have HN3 := hid (show (N + 1) * 1 ≤ 140737488355328 by omega)
        have HN4 := hid (show N + 1 ≤ maxLen by unfold maxLen; omega)
        have HN5 := hid (show (N + 1 + fb.length) * 1 ≤ 140737488355328 by omega)
        have HN6 := hid (show N + 1 + fb.length ≤ maxLen by unfold maxLen; omega)
        have HN7 := hid (show (xs.length + 1) * 144 ≤ 140737488355328 by omega)
        have HXN := hid (show a5 = none → n5 = 0 from by
          obtain ⟨a, c, e, _, hn, _⟩ := own_cel HX3.out
          cases e
          exact hn)
        have hw8 := IntWalk.u8_in (p : Int) (by have := HP.out; omega)
        rw [← HNE.out] at HSC4
        have A1 := hid (fun (v5 : Value) (w5 : World) (ho : w5.ownsRow w.heap.size 3 1 v5 (xs.length + 1) (begs xs ++ [.int .i64 N])) (hg : w4.grownBy w5 (Value.slice ga0 xs.length gc0).ownBlock) =>
          show (Scr w (w5.alloc (.cells #[.int .u8 p] 5)) (.slice ba0 N bc0) v5 (.slice sa0 xs.length sc0) (scrB xs) (begs xs ++ [.int .i64 N]) xs (xs.length + 1)) ∧ (w5.alloc (.cells #[.int .u8 p] 5)).ownsRow w2.heap.size 5 1 (.slice a5 fb.length n5) fb.length (fb.map B8) ∧ Cel (w5.alloc (.cells #[.int .u8 p] 5)) (some ⟨w5.heap.size, 0, none⟩) 1 [.int .u8 p] ∧ Below w.heap.size w w5 ∧ (w5.alloc (.cells #[.int .u8 p] 5)).ownsRow w.heap.size 5 1 (.slice ba0 N bc0) N ((scrB xs).map B8) from
          ⟨(HSC4.out.addG hg ho).below (bal _), own_below (HX4.out.kept hg (own_two_ne HX4.out HSC4.out.g (by decide))) (bal _), cel_one w5 _ _, (HSC4.out.addG hg ho).low, own_ext ((HSC4.out.addG hg ho).below (bal _)).b HNE.out.symm rfl⟩)
        have HONEP := hid (show ∀ u ∈ [Value.int .u8 (p : Int)], u.oneCell' = true from fun u hu => by rw [List.mem_singleton.1 hu]; rfl)
        have HBP := hid (show B8 (UInt8.ofNat p) = .int .u8 p by unfold B8; rw [UInt8.toNat_ofNat_of_lt' (by simpa using HP.out)])
        have A2 := hid (fun (W6 : World) (v5 v7 : Value) (w7 : World) (H : Scr w W6 (.slice ba0 N bc0) v5 (.slice sa0 xs.length sc0) (scrB xs) (begs xs ++ [.int .i64 N]) xs (xs.length + 1)) (HX : W6.ownsRow w2.heap.size 5 1 (.slice a5 fb.length n5) fb.length (fb.map B8)) (ho : w7.ownsRow w.heap.size 5 1 v7 (N + 1) ((scrB xs).map B8 ++ [.int .u8 p])) (hg : W6.grownBy w7 (Value.slice ba0 N bc0).ownBlock) =>
          show Scr w w7 v7 v5 (.slice sa0 xs.length sc0) (scrB xs ++ [UInt8.ofNat p]) (begs xs ++ [.int .i64 N]) xs (xs.length + 1) ∧ Cel w7 a5 fb.length (fb.map B8) ∧ w7.ownsRow w.heap.size 5 1 v7 (N + 1) ((scrB xs ++ [UInt8.ofNat p]).map B8) ∧ Below w.heap.size w w7 from by
          have h1 := H.addB (lb' := scrB xs ++ [UInt8.ofNat p]) hg (own_ext ho (by rw [List.length_append, ← HNE.out]; rfl) (by rw [List.map_append, List.map_cons, List.map_nil, HBP.out]))
          have h2 : w7.ownsRow w2.heap.size 5 1 (.slice a5 fb.length n5) fb.length (fb.map B8) := HX.kept hg (own_older (W := wA) (W' := w3) (v := Value.slice ba0 N bc0) (by rw [HNE.out]; exact HIN.out.scr.b) HX3.out (HSC2Z.out)).2
          obtain ⟨a, c, e, hc, _⟩ := own_cel h2
          cases e
          exact ⟨h1, hc, own_ext ho rfl (by rw [List.map_append, List.map_cons, List.map_nil, HBP.out]), h1.low⟩)
        have A3 := hid (fun (W7 : World) (v5 v7 v9 : Value) (w9 : World) (H : Scr w W7 v7 v5 (.slice sa0 xs.length sc0) (scrB xs ++ [UInt8.ofNat p]) (begs xs ++ [.int .i64 N]) xs (xs.length + 1)) (ho : w9.ownsRow w.heap.size 5 1 v9 (N + 1 + fb.length) ((scrB xs ++ [UInt8.ofNat p]).map B8 ++ fb.map B8)) (hg : W7.grownBy w9 v7.ownBlock) =>
          show Scr w w9 v9 v5 (.slice sa0 xs.length sc0) (scrB (xs ++ [(p, x)])) (begs (xs ++ [(p, x)])) xs (xs.length + 1) from by
          have e : scrB (xs ++ [(p, x)]) = scrB xs ++ [UInt8.ofNat p] ++ fb := by
            rw [scrB_app, HFE.out]
            simp [scrB, stpB]
          rw [e, begs_snoc, ← HNE.out]
          exact H.addB hg (own_ext ho (by rw [List.length_append, List.length_append, ← HNE.out]; rfl) (by simp [List.map_append])))
        have HK9 := hid (fun (w9 : World) (v9 v5 : Value) (H : Scr w w9 v9 v5 (.slice sa0 xs.length sc0) (scrB (xs ++ [(p, x)])) (begs (xs ++ [(p, x)])) xs (xs.length + 1)) =>
          show Scr w (w9.alloc (.cells (stR (p, x)).toArray 49)) v9 v5 (.slice sa0 xs.length sc0) (scrB (xs ++ [(p, x)])) (begs (xs ++ [(p, x)])) xs (xs.length + 1) ∧ Rk (w9.alloc (.cells (stR (p, x)).toArray 49)) 11 (some ⟨w9.heap.size, 0, none⟩) 1 [stR (p, x)] from ⟨H.below (bal _), rk_new w9 49 (k := 11) (stR (p, x)) rfl⟩)
        have HONES := hid (show ∀ r ∈ [stR (p, x)], ∀ u ∈ r, u.oneCell' = true from fun r hr u hu => by
          rw [List.mem_singleton.1 hr] at hu
          simp only [stR, cgC, List.mem_cons, List.not_mem_nil, or_false] at hu
          rcases hu with rfl | rfl | rfl | rfl | rfl | rfl | rfl | rfl | rfl | rfl | rfl <;> rfl)
        clear hw4 hb34 hG hxl hN5 hM5
        have HELV9 := hid (fun (W : World) (hW : Below w.heap.size w W) => (HBIG.out W hW).2.1)
        go_wp2_with (first | (at_builtin; rw [← HW4.out]; refine wpList_ap1 Tryd.underlying47 infoInt rfl rfl _ _ rfl w.heap.size (.slice ga0 xs.length gc0) xs.length (begs xs) [.int .i64 N] rfl (some ⟨w3.heap.size, 0, none⟩) 1 1 rfl HSC4.out.g HC4.out HONEI.out (fun h => by cases h) HN1.out HN2.out HSC4.out.low.size ?_; intro v5 w5 hown hgrow hb5; have q1 := A1.out v5 w5 hown hgrow; have HA1 := hid q1.1; have HX6 := hid q1.2.1; have HC6 := hid q1.2.2.1; have p5 := (HBIG.out w5 q1.2.2.2.1).1; have HB6 := hid q1.2.2.2.2; obtain ⟨ga1, gc1, rfl⟩ := own_hd2 hown; clear q1 hown hgrow hb5) | (at_builtin; refine wpList_ap1 Tryd.underlying24 infoBy rfl rfl _ _ rfl w.heap.size (.slice ba0 N bc0) N ((scrB xs).map B8) [.int .u8 p] rfl (some ⟨w5.heap.size, 0, none⟩) 1 1 rfl HB6.out HC6.out HONEP.out (fun h => by cases h) HN3.out HN4.out HA1.out.low.size ?_; intro v7 w7 hown hgrow hb7; have q2 := A2.out _ _ v7 w7 HA1.out HX6.out hown hgrow; have HA2 := hid q2.1; have HC7 := hid q2.2.1; have HB7 := hid q2.2.2.1; clear p5; obtain ⟨ba1, bc1, rfl⟩ := own_hd2 hown; clear q2 hown hgrow hb7) | (at_builtin; refine wpList_ap1 Tryd.underlying24 infoBy rfl rfl _ _ rfl w.heap.size (.slice ba1 (N + 1) bc1) (N + 1) ((scrB xs ++ [UInt8.ofNat p]).map B8) (fb.map B8) rfl a5 fb.length n5 rfl HB7.out HC7.out (b8_ones _) HXN.out HN5.out HN6.out HA2.out.low.size ?_; intro v9 w9 hown hgrow hb9; have HA3 := hid (A3.out _ _ _ v9 w9 HA2.out hown hgrow); have y0 := (HBIG.out w9 HA3.out.low).1; have y1 := HELV9.out w9 HA3.out.low; have y2 := (HELV.out w9 HA3.out.low).1; have y3 := (HELV.out w9 HA3.out.low).2.1; have y4 := (HELV.out w9 HA3.out.low).2.2.1; have y5 := (HELV.out w9 HA3.out.low).2.2.2.1; have y6 := (HELV.out w9 HA3.out.low).2.2.2.2.1; have y7 := (HELV.out w9 HA3.out.low).2.2.2.2.2.1; have y8 := (HELV.out w9 HA3.out.low).2.2.2.2.2.2.1; have y9 := (HELV.out w9 HA3.out.low).2.2.2.2.2.2.2.1; have y10 := (HELV.out w9 HA3.out.low).2.2.2.2.2.2.2.2; have q3 := HK9.out w9 _ _ HA3.out; have HA9 := hid q3.1; have HR9 := hid q3.2; obtain ⟨ba2, bc2, rfl⟩ := own_hd2 hown; clear q3 hown hgrow hb9) | (at_builtin; refine wpList_apK Tryd.underlying42 infoStep rfl (by decide) rfl _ _ rfl w.heap.size (.slice sa0 xs.length sc0) xs.length (xs.map stR) [stR (p, x)] rfl (some ⟨w9.heap.size, 0, none⟩) 1 1 rfl HA9.out.s HR9.out HONES.out (fun h => by cases h) HN7.out HN2.out HA9.out.low.size ?_; intro v11 w11 hown hgrow hb11; have HO11 := hid hown; have HG11 := hid hgrow; obtain ⟨sa1, sc1, rfl⟩ := own_hd2 hown; clear hown hgrow hb11 y0 y1 y2 y3 y4 y5 y6 y7 y8 y9 y10))
        go_roundw
        case rel =>
          have el : (xs ++ [(p, x)]).length = xs.length + 1 := by simp
          have e : (scrB (xs ++ [(p, x)])).length = N + 1 + fb.length := by
            rw [scrB_app, List.length_append, HNE.out, HFE.out]
            simp [scrB, stpB]
            omega
          have hsc := HA9.out.addS (xs' := xs ++ [(p, x)]) HG11.out (by rw [el, List.map_append]; exact HO11.out)
          have hok := HOKX.out.1
          refine ⟨k + 1, xs ++ [(p, x)], by omega, by go_num, ⟨?_, ?_, ?_, ?_⟩⟩
          · rw [el]; exact hsc
          · intro y hy
            rcases List.mem_append.1 hy with hy | hy
            · exact HIN.out.ok y hy
            · rw [List.mem_singleton.1 hy]
              exact ⟨⟨HP.out, ⟨hok.na, hok.nb, hok.nc, hok.nd, hok.ne⟩, HCE.out⟩, hok⟩
          · rw [e]; have := HTL.out; omega
          · rw [el]; have := HIN.out.le; omega
        case measure => simp [intOf]; omega
      · clear hbl
        go_wp2_with fail
        go_roundw
        case rel => exact ⟨k + 1, xs, by omega, by go_num, HSTAY.out _ HSC2.out⟩
        case measure => simp [intOf]; omega
    · have d2 : decide ((k : Int) < (ls.length : Int)) = false := by simp; omega
      have d2n : decide (k < ls.length) = false := by simp; omega
      have HOKS := hid (fun y hy => (HIN.out.ok y hy).1)
      have HXL := hid (show xs.length ≤ 100 by have := HIN.out.le; omega)
      have HWANT := hid (show StIn wA sa0 xs from by
        obtain ⟨a, c, e, hr⟩ := own_steps HIN.out.scr.s
        cases e
        exact ⟨hr, fun y hy => (HIN.out.ok y hy).2.below HIN.out.scr.low⟩)
      obtain ⟨lb, hlb⟩ : ∃ lb, lb = scrB xs := ⟨_, rfl⟩
      have HLB := hid hlb
      have HBY := hid (show Byt wA ba0 lb.length lb ∧ lb.length ≤ bc0 ∧ lb.length ≤ 65537 from by
        obtain ⟨a, c, e, hc, _, hlc, _⟩ := own_cel HIN.out.scr.b
        cases e
        rw [hlb]
        exact ⟨cel_byt hc, hlc, HIN.out.len⟩)
      have HGS := hid (show Cel wA ga0 xs.length (begs xs) from by
        obtain ⟨a, c, e, hc, _⟩ := own_cel HIN.out.scr.g
        cases e
        exact hc)
      have HSC := hid (show xs.length ≤ sc0 from by
        obtain ⟨a, c, e, _, _, hlc, _⟩ := own_rk HIN.out.scr.s (stR_k xs) (by decide)
        cases e
        exact hlc)
      have HLW := hid HIN.out.scr.low
      have HST := hid (show stepsC lb = (xs.map stP, 0, 0) by rw [hlb]; exact steps_scr HOKS.out)
      rw [← hlb]
      clear hlb
      go_wp2_with fail
      refine (steps25_any ba0 bc0 lb wA (HS.out wA HLW.out) (HG.out wA HLW.out) HBY.out.1 (by have := HBY.out.2.2; omega) HBY.out.2.1).mono ?_
      intro e' w2 h2
      obtain ⟨a2, c2, ys, rfl, hst2, hm2, hb2⟩ := h2.st (by have := HBY.out.2.2; omega)
      rw [show (stepsC lb).2.1 = 0 by rw [HST.out], show (((stepsC lb).2.2 : Nat) : Int) = 0 by rw [HST.out]; rfl]
      have HB2 := hid (HLW.out.trans (hb2.mono HLW.out.size))
      have HST2 := hid hst2
      have HM2 := hid (show ys.map (fun x => (x.1, pcOf x.2)) = xs.map (fun x => (x.1, pcOf x.2)) by rw [hm2, HST.out])
      have HYL := hid (show ys.length = xs.length by have := congrArg List.length HM2.out; simpa using this)
      have HW2 := hid (HWANT.out.below hb2)
      have HB2A := hid hb2
      clear h2 hst2 hm2 hb2
      go_wp2_with fail
      refine (eq25_any a2 sa0 c2 sc0 ys xs w2 HST2.out HW2.out HM2.out (by have := HYL.out; have := HXL.out; omega)).mono ?_
      rintro e' w3 ⟨rfl, hb3⟩
      have HB3 := hid (HB2.out.trans (hb3.mono HB2.out.size))
      have HA3 := hid (HB2A.out.trans (hb3.mono HB2A.out.size))
      clear hb3
      by_cases hc0 : cut < 0
      · have e1 : decide (cut < 0) = true := by simp; omega
        clear hc0
        go_wp2_with fail
        refine (HWK.out _ HB3.out).mono ?_
        rintro e' w11 ⟨rfl, hb11⟩
        have HL11 := hid (HB3.out.trans (hb11.mono HB3.out.size))
        clear hb11
        go_wp2_with fail
        go_ret
        exact ⟨rfl, HL11.out⟩
      have e1 : decide (cut < 0) = false := by simp; omega
      by_cases hc1 : (lb.length : Int) ≤ cut
      · have e2 : decide ((lb.length : Int) ≤ cut) = true := by simp; omega
        clear hc0 hc1
        go_wp2_with fail
        refine (HWK.out _ HB3.out).mono ?_
        rintro e' w11 ⟨rfl, hb11⟩
        have HL11 := hid (HB3.out.trans (hb11.mono HB3.out.size))
        clear hb11
        go_wp2_with fail
        go_ret
        exact ⟨rfl, HL11.out⟩
      obtain ⟨c, rfl⟩ := Int.eq_ofNat_of_zero_le (show 0 ≤ cut by omega)
      have HC := hid (show c < lb.length by omega)
      have e2 : decide ((lb.length : Int) ≤ (c : Int)) = false := by simp; omega
      have e2n : decide (lb.length ≤ c) = false := by simp; omega
      have HTL := hid (show (lb.take c).length = c by rw [List.length_take]; have := HC.out; omega)
      have hsl := slTo .i64 ba0 lb.length bc0 c (c : Int) rfl (by have := HC.out; have := HBY.out.2.1; omega)
      have HRD := hid (show Calls Tryd.prog 24 #[.slice ba0 c bc0] w3 (StepsP (lb.take c) w3) from by
        have h := steps25_any ba0 bc0 (lb.take c) w3 (HS.out w3 HB3.out) (HG.out w3 HB3.out) (by rw [HTL.out]; exact (HBY.out.1.below' HA3.out).upto (Nat.le_of_lt HC.out)) (by rw [HTL.out]; have := HC.out; have := HBY.out.2.2; omega) (by rw [HTL.out]; have := HC.out; have := HBY.out.2.1; omega)
        rw [HTL.out] at h
        exact h)
      clear hc0 hc1
      go_wp2_with fail
      refine HRD.out.mono ?_
      intro e' w4 h4
      obtain ⟨a4, c4, zs, rfl, hst4, hm4, hb4⟩ := h4.st (by rw [HTL.out]; have := HC.out; have := HBY.out.2.2; omega)
      have HB4 := hid (HB3.out.trans (hb4.mono HB3.out.size))
      have HA4 := hid (HA3.out.trans (hb4.mono HA3.out.size))
      have HST4 := hid hst4
      have HM4 := hid hm4
      have hxp : 0 < xs.length := by
        rcases Nat.eq_zero_or_pos xs.length with h0 | h0
        · have h1 := HC.out
          rw [HLB.out, List.length_eq_zero_iff.1 h0] at h1
          exact absurd h1 (Nat.not_lt_zero _)
        · exact h0
      obtain ⟨gb, go, rfl, hgc⟩ := HGS.out.some_of (by rw [begs_len]; exact hxp)
      have HGC := hid (fun (W : World) (hW : Below w4.heap.size w4 W) (q : Nat) (hq : q < xs.length) => show W.cell? ⟨gb, go + q, none⟩ = some (.int .i64 (begL xs q : Nat)) from by
        refine keepC hW (keepC HA4.out ?_)
        rw [hgc q (by rw [begs_len]; exact hq)]
        have := begs_at xs hq
        rw [List.getElem?_eq_getElem (by rw [begs_len]; exact hq)] at this
        exact this)
      have HXP := hid hxp
      obtain ⟨r1, hr1⟩ : ∃ r, r = (stepsC (lb.take c)).2.1 := ⟨_, rfl⟩
      obtain ⟨r2, hr2⟩ : ∃ r, r = (stepsC (lb.take c)).2.2 := ⟨_, rfl⟩
      have HR1 := hid hr1
      have HR2 := hid hr2
      rw [← hr1, ← hr2]
      clear h4 hst4 hm4 hb4 hgc hr1 hr2 hsl
      go_wp2_with fail
      go_loopw [14] (fun i wr => ∃ q : Nat, q ≤ xs.length ∧ i = .int .i64 q ∧ (∀ j, j < q → begL xs j < c) ∧ Below w4.heap.size w4 wr) (fun i _ => xs.length - (intOf i).toNat)
      case atStart => exact ⟨0, Nat.zero_le _, rfl, (fun j h => absurd h (Nat.not_lt_zero _)), Below.refl _ _⟩
      case round =>
        obtain ⟨q, hq, rfl, hj, hb⟩ := hrel
        rename World => wC
        have HBC := hid hb
        have HJ := hid hj
        clear hb hj
        have HQ := hid hq
        have hxl := HXL.out
        by_cases hqx : q < xs.length
        · have d3 : decide ((q : Int) < (xs.length : Int)) = true := by simp; omega
          have d3n : decide (q < xs.length) = true := by simp; omega
          have HQX := hid hqx
          obtain ⟨m, hm⟩ : ∃ m, m = begL xs q := ⟨_, rfl⟩
          have HM := hid hm
          have g0 : wC.cell? ⟨gb, go + q, none⟩ = some (.int .i64 (m : Nat)) := by rw [hm]; exact HGC.out wC HBC.out q hqx
          clear hm
          by_cases hbl : m < c
          · have d4 : decide ((m : Int) < (c : Int)) = true := by simp; omega
            have d4n : decide (m < c) = true := by simp; omega
            have HBL := hid hbl
            clear hbl
            go_wp2_with fail
            go_roundw
            case rel => exact ⟨q + 1, HQX.out, by go_num, (fun j hj => by
              rcases Nat.lt_or_ge j q with h | h
              · exact HJ.out j h
              · obtain rfl : j = q := by omega
                rw [← HM.out]; exact HBL.out), HBC.out⟩
            case measure => simp [intOf]; have := HQX.out; omega
          · have d4 : decide ((m : Int) < (c : Int)) = false := by simp; omega
            have d4n : decide (m < c) = false := by simp; omega
            by_cases hme : m = c
            · have HAT := hid (show stepsC (lb.take c) = ((xs.take q).map stP, 0, 0) from by
                rw [HLB.out, ← hme, HM.out, scr_take]
                exact steps_scr (fun y hy => HOKS.out y (List.mem_of_mem_take hy)))
              have e5 : ((m : Int) == (c : Int)) = true := by simp; omega
              have e5n : (m == c) = true := by simp; omega
              have e6 : r1 = 0 := by rw [HR1.out, HAT.out]
              have HZL := hid (show zs.length = (xs.take q).length by
                have h := congrArg List.length HM4.out
                rw [HAT.out] at h
                simpa using h)
              have HTQ := hid (show (xs.take q).length = q by rw [List.length_take]; have := HQ.out; omega)
              have hs2 := slToS sa0 xs.length sc0 q (q : Int) rfl (by have := HSC.out; have := HQ.out; omega)
              have HEQ := hid (show Calls Tryd.prog 26 #[.slice a4 zs.length c4, .slice sa0 q sc0] wC (fun e w' => e = .returned (.bool true) ∧ Below wC.heap.size wC w') from by
                have h := eq25_any a4 sa0 c4 sc0 zs (xs.take q) wC (HST4.out.below HBC.out) (((HWANT.out.below HA4.out).below HBC.out).upto HQ.out) (by rw [HM4.out, HAT.out]) (by rw [HZL.out, HTQ.out]; have := HQ.out; have := HXL.out; omega)
                rw [HTQ.out] at h
                exact h)
              subst e6
              clear hme
              go_wp2_with fail
              refine HEQ.out.mono ?_
              rintro e' w5 ⟨rfl, hb5⟩
              have HB5 := hid (HB4.out.trans ((HBC.out.trans (hb5.mono HBC.out.size)).mono HB4.out.size))
              clear hb5
              go_wp2_with fail
              refine (HWK.out _ HB5.out).mono ?_
              rintro e' w11 ⟨rfl, hb11⟩
              have HL11 := hid (HB5.out.trans (hb11.mono HB5.out.size))
              clear hb11
              go_wp2_with fail
              go_ret
              exact ⟨rfl, HL11.out⟩
            · have e5 : ((m : Int) == (c : Int)) = false := by simp; omega
              have e5n : (m == c) = false := by simp; omega
              have hq0 : 0 < q := by
                rcases Nat.eq_zero_or_pos q with h0 | h0
                · have h1 := HM.out
                  rw [h0] at h1
                  have h2 : begL xs 0 = 0 := by simp [begL, scrB]
                  omega
                · exact h0
              obtain ⟨p, rfl⟩ : ∃ p, q = p + 1 := ⟨q - 1, by omega⟩
              have HCUT := hid (show stepsC (lb.take c) = ([], 24, begL xs p) from by
                rw [HLB.out]
                exact scr_cut (by have := HQX.out; omega) (HJ.out p (by omega)) (by rw [← HM.out]; omega) HOKS.out)
              have g1 := HGC.out wC HBC.out p (by have := HQX.out; omega)
              have e7 : r1 = 24 := by rw [HR1.out, HCUT.out]
              have e8 : begL xs p = r2 := by rw [HR2.out, HCUT.out]
              have HZ0 := hid (show zs.length = 0 by
                have h := congrArg List.length HM4.out
                rw [HCUT.out] at h
                simpa using h)
              have hz0 := HZ0.out
              rw [e8] at g1
              subst e7
              have HBW := hid (HB4.out.trans (HBC.out.mono HB4.out.size))
              clear hme hbl e8
              go_wp2_with fail
              refine (HWK.out _ HBW.out).mono ?_
              rintro e' w11 ⟨rfl, hb11⟩
              have HL11 := hid (HBW.out.trans (hb11.mono HBW.out.size))
              clear hb11
              go_wp2_with fail
              go_ret
              exact ⟨rfl, HL11.out⟩
        · have d3 : decide ((q : Int) < (xs.length : Int)) = false := by simp; omega
          have d3n : decide (q < xs.length) = false := by simp; omega
          obtain ⟨p, rfl⟩ : ∃ p, q = p + 1 := ⟨q - 1, by have := HXP.out; omega⟩
          have HQE := hid (show p + 1 = xs.length by omega)
          have HCUT := hid (show stepsC (lb.take c) = ([], 24, begL xs p) from by
            rw [HLB.out]
            exact scr_cut (by have := HQE.out; omega) (HJ.out p (by omega)) (by rw [HQE.out, begL_all, ← HLB.out]; exact HC.out) HOKS.out)
          have g1 := HGC.out wC HBC.out p (by have := HQE.out; omega)
          have e7 : r1 = 24 := by rw [HR1.out, HCUT.out]
          have e8 : begL xs p = r2 := by rw [HR2.out, HCUT.out]
          have HZ0 := hid (show zs.length = 0 by
            have h := congrArg List.length HM4.out
            rw [HCUT.out] at h
            simpa using h)
          have hz0 := HZ0.out
          rw [e8] at g1
          subst e7
          have d5 : decide ((p : Int) + 1 < (xs.length : Int)) = false := by simp; omega
          have HBW := hid (HB4.out.trans (HBC.out.mono HB4.out.size))
          clear e8 hqx
          go_wp2_with fail
          refine (HWK.out _ HBW.out).mono ?_
          rintro e' w11 ⟨rfl, hb11⟩
          have HL11 := hid (HBW.out.trans (hb11.mono HBW.out.size))
          clear hb11
          go_wp2_with fail
          go_ret
          exact ⟨rfl, HL11.out⟩
end Go.Proofs.YtcbkikioapdbbaaDoor
