
/- hostellaw20.StackBack. -/
import Derived.Test.YtihaakcfegelkaaDoorTm3
namespace Go.Proofs.YtihaakcfegelkaaDoor
open Go.RowKit Go.Sort
attribute [local go_sem] Oper.semAt_some

theorem layB_path (argv env : List BL) (aux : List (Nat × Nat)) (path : BL) : ∃ pre, layB argv env aux path = pre ++ (path ++ ([0] ++ List.replicate 8 0)) ∧ pre.length + (path.length + 9) = allN argv env aux path := by
  refine ⟨numsB (vecN argv env aux path) ++ (List.replicate (allN argv env aux path - (numN argv env aux * 8 + (txtB argv env path).length)) 0 ++ (catZ argv ++ catZ env)), ?_, ?_⟩
  · unfold layB txtB; simp
  · have h1 := allN_ge argv env aux path
    have h2 := txtB_len argv env path
    simp only [List.length_append, numsB_len, vecN_len, List.length_replicate, catZ_len]
    omega
theorem layB_mid {argv env : List BL} {aux : List (Nat × Nat)} {path : BL} {N A : Nat} (hN : N = allN argv env aux path) (hA : A + (path.length + 9) = N) : ((layB argv env aux path).drop A).take path.length = path ∧ (layB argv env aux path)[A + path.length]? = some 0 := by
  obtain ⟨pre, h1, h2⟩ := layB_path argv env aux path
  have hp : pre.length = A := by omega
  constructor
  · rw [h1, List.drop_append_of_le_length (by omega), List.drop_eq_nil_of_le (by omega), List.nil_append, List.take_left]
  · rw [h1, List.getElem?_append_right (by omega), List.getElem?_append_right (by omega), show A + path.length - pre.length - path.length = 0 by omega]
    rfl
theorem chkL_vals (l : List BL) : chkL l = 0 ∨ chkL l = 12 ∨ chkL l = 1 := by
  unfold chkL
  split
  · exact .inr (.inl rfl)
  · split
    · exact .inr (.inl rfl)
    · split
      · exact .inr (.inr rfl)
      · exact .inl rfl
theorem layE_vals (argv env : List BL) (aux : List (Nat × Nat)) (path : BL) : layE argv env aux path = 0 ∨ layE argv env aux path = 12 ∨ layE argv env aux path = 1 := by
  have h1 : chkS argv env aux path = 0 ∨ chkS argv env aux path = 12 ∨ chkS argv env aux path = 1 := by
    rw [chkS_eq]
    split
    · exact chkL_vals argv
    · split
      · exact chkL_vals env
      · unfold chkT
        split
        · exact .inr (.inl rfl)
        · split
          · exact .inr (.inr rfl)
          · split
            · exact .inr (.inr rfl)
            · exact .inl rfl
  by_cases h : chkS argv env aux path = 0
  · by_cases h2 : 16384 < allN argv env aux path
    · exact .inr (.inl (layE_big h h2))
    · exact .inl (layE_ok h h2)
  · rw [layE_chk h]; exact h1
theorem layE_0 {argv env : List BL} {aux : List (Nat × Nat)} {path : BL} (h : layE argv env aux path = 0) : chkS argv env aux path = 0 ∧ ¬ 16384 < allN argv env aux path := by
  by_cases h1 : chkS argv env aux path = 0
  · refine ⟨h1, fun h2 => ?_⟩
    rw [layE_big h1 h2] at h; exact absurd h (by decide)
  · rw [layE_chk h1] at h; exact absurd h h1
theorem slToA (a : Option Addr) (len cap m : Nat) (x : Int) (hx : x = (m : Int)) (hm : m ≤ cap) (w : World) :
    (Instr.slice 23 (.slice a len cap) none (some (.int .i64 x)) none).run Tryd.prog w = .ok (.slice a m cap) w := by
  subst hx
  have hz : ∀ w, (sizeOf (Tryd.prog.elem 23)).run Tryd.prog w = .ok 2 w := fun w => by kernel_rfl
  rw [run_slice_h w 23 _ _ _ (by kernel_rfl) .i64 m (by omega) (by omega), hz]
  have e : a.map (·.add 0) = a := by cases a <;> simp [Addr.add]
  simp only [Result.andThen, sliced, Int.toNat_natCast, Nat.zero_mul, e, Nat.sub_zero]
  split <;> rfl
theorem Axs.upto {w : World} {a : Option Addr} {n m : Nat} {l : List (Nat × Nat)} (h : Axs w a n l) (hm : m ≤ n) : Axs w a m (l.take m) := by
  have := Rk.prefix h hm
  rwa [← List.map_take] at this

set_option maxRecDepth 100000 in
set_option maxHeartbeats 8000000 in
theorem stackBack_walk (x : BG) (w : World) (hs : Sizes w) (hx : BGok w x) :
    Calls Tryd.prog 4 #[bgV x] w fun e w' => e = .returned (.bool true) ∧ Below w.heap.size w w' := by
  obtain ⟨W0, hW0⟩ : ∃ W0, W0 = w.alloc (.cells (bgC x).toArray 25) := ⟨_, rfl⟩
  have hb0 : Below w.heap.size w W0 := by rw [hW0]; exact bal _
  have hr0 : Row W0 w.heap.size 25 (bgC x) := by rw [hW0]; exact Row.new w 25 (bgC x)
  have HWK := hid (fun (w' : World) (hb : Below w.heap.size w w') => works20_any w' (hs.below hb))
  have HLG := hid (begunLarge_any x W0 (hx.below hb0))
  have HB0 := hid hb0
  have HR0 := hid hr0
  have HX := hid hx
  have HS := hid hs
  obtain ⟨c0, c1, c2, c3⟩ := hr0.bg
  have hl := hr0.lt
  clear hs hx hb0 hr0
  go_enter Tryd.func4, Tryd.ntmps4
  go_wp2_with fail
  rw [← hW0]
  clear hW0
  go_wp2_with fail
  refine (HLG.out).mono ?_
  rintro e' w1 ⟨b, rfl, hb1, hlim⟩
  have HB1 := hid (bthen HB0.out hb1)
  have HR1 := hid (HR0.out.below hb1 HR0.out.lt)
  have HLIM := hid hlim
  obtain ⟨c0, c1, c2, c3⟩ := HR1.out.bg
  have hl := HR1.out.lt
  clear hb1 hlim HLG
  cases b
  · have hlm := HLIM.out rfl
    have HLM := hid hlm
    have HLY := hid (lay20_any x.aa x.ea x.xa x.ac x.ec x.xc x.argv x.env x.aux x.path w1 (HS.out.below HB1.out) (HX.out.argv.below' HB1.out) (HX.out.env.below' HB1.out) (Rk.below' HX.out.aux HB1.out) (by omega) (by omega) (by omega) HX.out.at' HX.out.et)
    clear hlm HLIM
    go_wp2_with fail
    refine (HLY.out).mono ?_
    intro e' w2 hp
    clear HLY
    rcases hp with ⟨hne, rfl, hb2⟩ | ⟨h0, g, rfl, hg, hrow, hb2⟩
    · have HB2 := hid (bthen HB1.out hb2)
      have hv := layE_vals x.argv x.env x.aux x.path
      generalize layE x.argv x.env x.aux x.path = er at *
      clear hb2 c0 c1 c2 c3 hl
      rcases hv with h | h | h
      · exact absurd h hne
      · subst h
        clear hne
        go_wp2_with fail
        refine (HWK.out w2 HB2.out).mono ?_
        rintro e' w3 ⟨rfl, hb3⟩
        have HB3 := hid (bthen HB2.out hb3)
        clear hb3
        go_wp2_with fail
        go_ret
        exact ⟨rfl, HB3.out⟩
      · subst h
        clear hne
        go_wp2_with fail
        refine (HWK.out w2 HB2.out).mono ?_
        rintro e' w3 ⟨rfl, hb3⟩
        have HB3 := hid (bthen HB2.out hb3)
        clear hb3
        go_wp2_with fail
        go_ret
        exact ⟨rfl, HB3.out⟩
    · obtain ⟨hck, hbig⟩ := layE_0 h0
      have hrd := readR_layB x.argv x.env x.aux x.path hck hbig HX.out.u64
      have h16 : allN x.argv x.env x.aux x.path % 16 = 0 := by unfold allN; omega
      have hlen := layB_len x.argv x.env x.aux x.path
      have hge := allN_ge x.argv x.env x.aux x.path
      have htl := txtB_len x.argv x.env x.path
      have hx16 := (chkT_0 (chkS_0 hck).2.2).2.1
      obtain ⟨N, hN⟩ : ∃ N, N = allN x.argv x.env x.aux x.path := ⟨_, rfl⟩
      rw [← hN] at hrd h16 hlen hbig hge
      rw [← hN]
      obtain ⟨A, hA⟩ : ∃ A, A + (x.path.length + 9) = N := ⟨N - (x.path.length + 9), by omega⟩
      obtain ⟨SP, hSP⟩ : ∃ SP, SP = top20 - N := ⟨_, rfl⟩
      rw [← hSP] at hrd
      rw [← hSP]
      have hsv : SP + N = 140737488351232 := by unfold top20 at hSP; omega
      have HSV := hid hsv
      obtain ⟨VL, hVL⟩ : ∃ VL, VL = top20 - (x.path.length + 9) := ⟨_, rfl⟩
      have hvl : VL = SP + A := by unfold top20 at hSP hVL; omega
      have HVL := hid hvl
      have hmid := layB_mid hN hA
      obtain ⟨L, hL⟩ : ∃ L, L = layB x.argv x.env x.aux x.path := ⟨_, rfl⟩
      rw [← hL] at hrd hlen hmid hrow
      unfold auxX at hrd
      rw [← hVL] at hrd
      have HBY := hid (show Byt w2 (some ⟨g, 0, none⟩) N L from Row.byt (l := L) (rest := []) (by rw [List.append_nil]; exact hrow) hlen)
      have HB2 := hid (bthen HB1.out hb2)
      have HR2 := hid (HR1.out.below hb2 HR1.out.lt)
      have HRD := hid (read20_any (some ⟨g, 0, none⟩) N N SP L w2 (HS.out.below HB2.out) HBY.out (by omega) (Nat.le_refl _) (by unfold maxLen; omega) (by omega))
      rw [hrd] at HRD
      have HMID := hid hmid
      have HA := hid hA
      have HBIG := hid (show N ≤ 16384 by omega)
      have HX16 := hid hx16
      have dm : (((SP : Int) % 16) != 0) = false := by simp; omega
      have dm2 : (((SP : Int).tmod 16) != 0) = false := by rw [Int.tmod_eq_emod_of_nonneg (by omega)]; simp; omega
      have d1 : decide ((16384 : Int) < (N : Int)) = false := by simp; omega
      have d1n : decide (16384 < N) = false := by simp; omega
      have e1 : IntKind.u64.wrap (N : Int) = (N : Int) := IntWalk.u64_in _ (by omega)
      have e2 : IntKind.u64.wrap ((SP : Int) + (N : Int)) = 140737488351232 := by rw [IntWalk.u64_in _ (by omega)]; omega
      clear hrd h16 hlen hbig hge htl hN hSP hsv hvl hVL hmid hL hrow hb2 hg h0 hck c0 c1 c2 c3 hl hx16 hA
      go_wp2_with fail
      refine (HRD.out).mono ?_
      rintro e' w3 ⟨v1, v2, v3, rfl, ho1, ho2, ho3, hb3⟩
      have HB3 := hid (bthen HB2.out hb3)
      have HR3 := hid (HR2.out.below hb3 HR2.out.lt)
      have HBY3 := hid (HBY.out.below' hb3)
      obtain ⟨a1, k1, rfl, hc1, _⟩ := own_cel ho1
      obtain ⟨a2, k2, rfl, hc2, _⟩ := own_cel ho2
      obtain ⟨a3, k3, rfl, hc3, _, hk3, _⟩ := axs_own ho3
      have HC1 := hid hc1
      have HC2 := hid hc2
      have e3 : (x.aux ++ [(31, VL)]).length = x.aux.length + 1 := by simp
      simp only [e3] at hc3 hk3
      rw [e3]
      have HC3 := hid hc3
      have HK3 := hid hk3
      clear ho1 ho2 ho3 hb3 hc1 hc2 hc3 hk3 e3 HRD
      have hr3 := HR3.out.bg
      obtain ⟨c0, c1, c2, c3⟩ := hr3
      have q0 := rg_cell c0
      have q1 := rg_cell c1
      have q2 := rg_cell c2
      have q3 := rg_cell c3
      have hbl : ∀ d os, w.heap.size < (rg w3 d os).heap.size := fun d os => World.block_lt_of_cell? _ _ (q0 d os)
      have T1 := hid (fun (d : Nat) (os : Array Obj) => rg_drew (eqTexts_any a1 x.aa x.argv.length k1 x.argv.length x.ac x.argv x.argv (rg w3 d os) (HC1.out.rg d os) ((HX.out.argv.below' HB3.out).rg d os) (by have := HLM.out.1; omega) (by have := HLM.out.1; omega)))
      have T2 := hid (fun (d : Nat) (os : Array Obj) => rg_drew (eqTexts_any a2 x.ea x.env.length k2 x.env.length x.ec x.env x.env (rg w3 d os) (HC2.out.rg d os) ((HX.out.env.below' HB3.out).rg d os) (by have := HLM.out.2.1; omega) (by have := HLM.out.2.1; omega)))
      have hax : Axs w3 a3 x.aux.length x.aux := by
        have := Axs.upto HC3.out (m := x.aux.length) (by omega)
        rwa [List.take_left] at this
      have HAX := hid hax
      have T3 := hid (fun (d : Nat) (os : Array Obj) => rg_call (eq20_same a3 x.xa x.aux.length k3 x.xc x.aux (rg w3 d os) (Rk.below' HAX.out (rg_below w3 d os)) (Rk.below' (Rk.below' HX.out.aux HB3.out) (rg_below w3 d os)) (by have := HX16.out; omega)))
      have hT : ∀ l : List BL, eqT l l = true := fun l => by unfold eqT; simp
      simp only [hT] at T1 T2
      have hsl := fun (d : Nat) (os : Array Obj) => slToA a3 (x.aux.length + 1) k3 x.aux.length (x.aux.length : Int) rfl (by have := HK3.out; omega) (rg w3 d os)
      have ew : IntKind.i64.wrap ((x.aux.length : Int) + 1) = (x.aux.length : Int) + 1 := IntWalk.i64_in _ (by have := HX16.out; omega)
      have hk3n : x.aux.length ≤ k3 := by have := HK3.out; omega
      clear hax hT c0 c1 c2 c3
      go_wp2_with fail
      refine region_rg (by kernel_rfl) (by kernel_rfl) ?_
      repeat (quiet_step (first | with_reducible exact T1.out _ _ | with_reducible exact T2.out _ _ | with_reducible exact T3.out _ _))
      refine wpQuiet_nil ?_
      intro _ hw'
      obtain ⟨⟨dq, osq⟩, hw''⟩ := hw'
      subst hw''
      have HB4 := hid (bthen HB3.out (rg_below w3 dq osq))
      have HR4 := hid (HR3.out.below (rg_below w3 dq osq) HR3.out.lt)
      have HBY4 := hid (HBY3.out.below' (rg_below w3 dq osq))
      have HC4 := hid (Rk.below' HC3.out (rg_below w3 dq osq))
      clear q0 q1 q2 q3 T1 T2 T3 hsl hbl
      generalize rg w3 dq osq = W4 at *
      obtain ⟨c0, c1, c2, c3⟩ := HR4.out.bg
      have hl := HR4.out.lt
      obtain ⟨b3, o3, rfl, y0, y1⟩ := axs_at HC4.out (k := x.aux.length) (by simp)
      have ey : (x.aux ++ [(31, VL)])[x.aux.length]'(by simp) = (31, VL) := by simp
      rw [ey] at y0 y1
      simp only at y0 y1
      have hz : ((ba x.path).size : Int) = (x.path.length : Int) := by rw [ba_size]
      have hAV := HA.out
      have hsp := HSV.out
      obtain ⟨P, hP⟩ : ∃ P, P = x.path.length := ⟨_, rfl⟩
      rw [← hP] at hAV
      have HPP := hid hP
      obtain ⟨Q9, hQ9⟩ : ∃ Q, Q = P + 9 := ⟨_, rfl⟩
      obtain ⟨Q1, hQ1⟩ : ∃ Q, Q = P + 1 := ⟨_, rfl⟩
      obtain ⟨AP, hAP⟩ : ∃ Q, Q = A + P := ⟨_, rfl⟩
      have hvl := HVL.out
      have HAP := hid hAP
      have f1 : IntKind.u64.wrap (x.path.length : Int) = (P : Int) := by rw [IntWalk.u64_in _ (by omega)]; omega
      have f2 : decide ((VL : Int) < (SP : Int)) = false := by simp; omega
      have f2n : decide (VL < SP) = false := by simp; omega
      have f3 : IntKind.u64.wrap ((VL : Int) - (SP : Int)) = (A : Int) := by rw [IntWalk.u64_in _ (by omega)]; omega
      have f4 : decide ((N : Int) < (A : Int)) = false := by simp; omega
      have f4n : decide (N < A) = false := by simp; omega
      have f5 : IntKind.u64.wrap ((N : Int) - (A : Int)) = (Q9 : Int) := by rw [IntWalk.u64_in _ (by omega)]; omega
      have f6 : IntKind.u64.wrap ((P : Int) + 1) = (Q1 : Int) := by rw [IntWalk.u64_in _ (by omega)]; omega
      have f7 : decide ((Q9 : Int) < (Q1 : Int)) = false := by simp; omega
      have f7n : decide (Q9 < Q1) = false := by simp; omega
      have f8 : IntKind.u64.wrap ((A : Int) + (P : Int)) = (AP : Int) := by rw [IntWalk.u64_in _ (by omega)]; omega
      have HQ := hid (And.intro hQ9 hQ1)
      clear hvl hQ9 hQ1 hAP
      clear hAV hsp hP ey dm dm2 e2
      go_wp2_with fail
      have hb5 : Below w.heap.size w (W4.alloc (.cells #[.int .u64 31, .int .u64 (VL : Int)] 43)) := HB4.out.alloc HB4.out.size _
      have hr5 := HR4.out.alloc (.cells #[.int .u64 31, .int .u64 (VL : Int)] 43)
      have hby5 := HBY4.out.below' (@bal W4 (.cells #[.int .u64 31, .int .u64 (VL : Int)] 43))
      generalize W4.alloc (.cells #[.int .u64 31, .int .u64 (VL : Int)] 43) = W5 at *
      have HB5 := hid hb5
      have q3 := rg_cell hr5.bg.2.2.2
      have hbl : ∀ d os, w.heap.size < (rg W5 d os).heap.size := fun d os => World.block_lt_of_cell? _ _ (q3 d os)
      have hl0 : L[A + x.path.length]? = some 0 := HMID.out.2
      have ha : A + P = AP := HAP.out.symm
      have q9 : ∀ d os, (rg W5 d os).cell? ⟨g, AP, none⟩ = some (.int .u8 0) := by
        intro d os
        rw [← HPP.out, ha] at hl0
        obtain ⟨h1, h2⟩ := List.getElem?_eq_some_iff.1 hl0
        obtain ⟨b9, o9, e9, h9⟩ := (hby5.below' (rg_below W5 d os)).cell AP h1
        cases e9
        rw [Nat.zero_add, h2] at h9
        exact h9
      have hg9 : ∀ d os, g < (rg W5 d os).heap.size := fun d os => World.block_lt_of_cell? _ _ (q9 d os)
      have hAN : A + (P + 9) = N := by rw [HPP.out]; exact HA.out
      have hNA : ¬ N = A := by omega
      have hNA2 : ¬ A = N := by omega
      have hcv : ∀ d os, (convert 29 9 (.slice (some ⟨g, A, none⟩) (AP - A) (N - A))).run Tryd.prog (rg W5 d os) = .ok (.string (ba x.path)) (rg W5 d os) := by
        intro d os
        rw [show AP - A = P by omega]
        have := ((hby5.below' (rg_below W5 d os)).mid (f := A) (n := P) (by omega)).str (P := Tryd.prog) 29 9 5 (N - A) Tryd.underlying29 Tryd.underlying5 Tryd.underlying9
        rw [Nat.zero_add] at this
        have e := HMID.out.1
        rw [← HPP.out] at e
        rw [e] at this
        exact this
      have T4 := hid (fun (d : Nat) (os : Array Obj) => rg_call (HWK.out (rg W5 d os) (bthen HB5.out (rg_below W5 d os))))
      have g1 : (A : Int) ≤ (AP : Int) := by omega
      have g2 : (AP : Int) ≤ (N : Int) := by omega
      have g3 : (AP : Int) < (N : Int) := by omega
      have g4 : AP < N := by omega
      clear hb5 hr5 hby5 hl0 ha hAN c0 c1 c2 c3 hl y0 y1 f1 f2 f2n f3 f4 f4n f5 f6 f7 f7n hz
      refine region_rg (by kernel_rfl) (by kernel_rfl) ?_
      repeat (quiet_step (first | with_reducible exact T4.out _ _))
      refine wpQuiet_nil ?_
      intro _ hw'
      obtain ⟨⟨dq, osq⟩, hw''⟩ := hw'
      subst hw''
      go_wp2_with fail
      go_ret
      exact ⟨rfl, bthen HB5.out (rg_below W5 dq osq)⟩
  · go_wp2_with fail
    refine (HWK.out w1 HB1.out).mono ?_
    rintro e' w2 ⟨rfl, hb⟩
    have HB := hid (bthen HB1.out hb)
    clear hb
    go_wp2_with fail
    go_ret
    exact ⟨rfl, HB.out⟩
end Go.Proofs.YtihaakcfegelkaaDoor
