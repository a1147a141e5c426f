
/- stack.Read. -/
import Derived.Test.YtihaakcfegelkaaDoorTk5
namespace Go.Proofs.YtihaakcfegelkaaDoor
open Go.RowKit Go.Sort
attribute [local go_sem] Oper.semAt_some

def ReadPost (w : World) (R : Int × List BL × List BL × List (Nat × Nat)) (e : Ending) (w' : World) : Prop :=
  ∃ v1 v2 v3, e = .returned (.tuple #[v1, v2, v3, .int .i64 R.1]) ∧ OwnS w' w.heap.size v1 R.2.1 ∧ OwnS w' w.heap.size v2 R.2.2.1 ∧ OwnA w' w.heap.size v3 R.2.2.2 ∧ Below w.heap.size w w'
theorem readP_no {w w' : World} {R : Int × List BL × List BL × List (Nat × Nat)} {er : Int} (h : R = (er, [], [], [])) (hb : Below w.heap.size w w') : ReadPost w R (.returned (.tuple #[.slice none 0 0, .slice none 0 0, .slice none 0 0, .int .i64 er])) w' := by
  subst h; exact ⟨_, _, _, rfl, ownS_nil _ _, ownS_nil _ _, ownA_nil _ _, hb⟩
theorem readR_1 {l : List UInt8} {sp : Nat} (c1 : sp % 16 ≠ 0 ∨ sp + l.length ≠ 140737488351232) : readR l sp = (25, [], [], []) := by unfold readR; rw [if_pos c1]
theorem readR_2 {l : List UInt8} {sp : Nat} (c1 : ¬ (sp % 16 ≠ 0 ∨ sp + l.length ≠ 140737488351232)) (c2 : (argsR l).1 ≠ 0) : readR l sp = ((argsR l).1, [], [], []) := by unfold readR; rw [if_neg c1, if_pos c2]
theorem readR_3 {l : List UInt8} {sp p : Nat} (c1 : ¬ (sp % 16 ≠ 0 ∨ sp + l.length ≠ 140737488351232)) (c2 : (argsR l).1 = 0) (hp : (argsR l).2.2 = p) (c3 : (envR l 33 p 0).1 ≠ 0) : readR l sp = ((envR l 33 p 0).1, [], [], []) := by
  subst hp; unfold readR; rw [if_neg c1, if_neg (by simpa using c2), if_pos c3]
theorem readR_4 {l : List UInt8} {sp p q : Nat} (c1 : ¬ (sp % 16 ≠ 0 ∨ sp + l.length ≠ 140737488351232)) (c2 : (argsR l).1 = 0) (hp : (argsR l).2.2 = p) (c3 : (envR l 33 p 0).1 = 0) (hq : (envR l 33 p 0).2.2 = q) (c4 : (pairsR l 18 q 0).1 ≠ 0) : readR l sp = ((pairsR l 18 q 0).1, [], [], []) := by
  subst hp; subst hq; unfold readR; rw [if_neg c1, if_neg (by simpa using c2), if_neg (by simpa using c3), if_pos c4]
theorem readR_5 {l : List UInt8} {sp p q : Nat} (c1 : ¬ (sp % 16 ≠ 0 ∨ sp + l.length ≠ 140737488351232)) (c2 : (argsR l).1 = 0) (hp : (argsR l).2.2 = p) (c3 : (envR l 33 p 0).1 = 0) (hq : (envR l 33 p 0).2.2 = q) (c4 : (pairsR l 18 q 0).1 = 0) (c5 : (textsR l sp (argsR l).2.1).1 ≠ 0) : readR l sp = ((textsR l sp (argsR l).2.1).1, [], [], []) := by
  subst hp; subst hq; unfold readR; rw [if_neg c1, if_neg (by simpa using c2), if_neg (by simpa using c3), if_neg (by simpa using c4), if_pos c5]
theorem readR_6 {l : List UInt8} {sp p q : Nat} (c1 : ¬ (sp % 16 ≠ 0 ∨ sp + l.length ≠ 140737488351232)) (c2 : (argsR l).1 = 0) (hp : (argsR l).2.2 = p) (c3 : (envR l 33 p 0).1 = 0) (hq : (envR l 33 p 0).2.2 = q) (c4 : (pairsR l 18 q 0).1 = 0) (c5 : (textsR l sp (argsR l).2.1).1 = 0) (c6 : (textsR l sp (envR l 33 p 0).2.1).1 ≠ 0) : readR l sp = ((textsR l sp (envR l 33 p 0).2.1).1, [], [], []) := by
  subst hp; subst hq; unfold readR; rw [if_neg c1, if_neg (by simpa using c2), if_neg (by simpa using c3), if_neg (by simpa using c4), if_neg (by simpa using c5), if_pos c6]
theorem readR_7 {l : List UInt8} {sp p q : Nat} (c1 : ¬ (sp % 16 ≠ 0 ∨ sp + l.length ≠ 140737488351232)) (c2 : (argsR l).1 = 0) (hp : (argsR l).2.2 = p) (c3 : (envR l 33 p 0).1 = 0) (hq : (envR l 33 p 0).2.2 = q) (c4 : (pairsR l 18 q 0).1 = 0) (c5 : (textsR l sp (argsR l).2.1).1 = 0) (c6 : (textsR l sp (envR l 33 p 0).2.1).1 = 0) :
    readR l sp = (0, (textsR l sp (argsR l).2.1).2, (textsR l sp (envR l 33 p 0).2.1).2, (pairsR l 18 q 0).2) := by
  subst hp; subst hq; unfold readR; rw [if_neg c1, if_neg (by simpa using c2), if_neg (by simpa using c3), if_neg (by simpa using c4), if_neg (by simpa using c5), if_neg (by simpa using c6)]
theorem ns8_64 (l : List UInt8) (p k : Nat) (h : p + 8 * k ≤ l.length) : ∀ x ∈ ns8 l p k, x < 18446744073709551616 := by
  induction k generalizing p with
  | zero => intro x hx; cases hx
  | succ k ih =>
    intro x hx
    rcases List.mem_cons.1 hx with rfl | hx
    · exact n8_lt l p (by omega)
    · exact ih (p + 8) (by omega) x hx
theorem args64 (l : List UInt8) : ∀ x ∈ (argsR l).2.1, x < 18446744073709551616 := by
  unfold argsR
  by_cases c1 : l.length < 8
  · simp [c1]
  · by_cases c2 : 32 < n8 l 0
    · simp [c1, c2]
    · by_cases c3 : l.length < 16 + 8 * n8 l 0
      · simp [c1, c2, c3]
      · by_cases c4 : n8 l (8 + 8 * n8 l 0) ≠ 0
        · simp [c1, c2, c3, c4]
        · rw [if_neg c1, if_neg c2, if_neg c3, if_neg c4]
          exact ns8_64 l 8 _ (by omega)
theorem env64 (l : List UInt8) (f p k : Nat) : ∀ x ∈ (envR l f p k).2.1, x < 18446744073709551616 := by
  induction f generalizing p k with
  | zero => intro x hx; cases hx
  | succ f ih =>
    unfold envR
    by_cases c1 : l.length < p + 8
    · rw [if_pos c1]; intro x hx; cases hx
    · rw [if_neg c1]
      by_cases c2 : n8 l p = 0
      · rw [if_pos c2]; intro x hx; cases hx
      · rw [if_neg c2]
        by_cases c3 : k = 32
        · rw [if_pos c3]; intro x hx; cases hx
        · rw [if_neg c3]
          intro x hx
          replace hx : x ∈ (if _ then _ else _ : List Nat) := hx
          split at hx
          · rcases List.mem_cons.1 hx with rfl | hx
            · exact n8_lt l p (by omega)
            · exact ih _ _ x hx
          · cases hx

set_option maxRecDepth 100000 in
set_option maxHeartbeats 4000000 in
theorem read20_any (a : Option Addr) (len cap sp : Nat) (l : List UInt8) (w : World) (hs : Sizes w) (hB : Byt w a len l) (hl : len ≤ 140737488351232) (hcap : len ≤ cap) (hcm : cap ≤ maxLen) (hsp : sp < 18446744073709551616) :
    Calls Tryd.prog 16 #[.slice a len cap, .int .u64 sp] w (ReadPost w (readR l sp)) := by
  have hlen := hB.hlen
  have ew : IntKind.u64.wrap (len : Int) = (len : Int) := IntWalk.u64_in _ (by omega)
  by_cases c1 : sp % 16 ≠ 0 ∨ sp + l.length ≠ 140737488351232
  · have HE := hid (readR_1 c1)
    have hadd : (sp % 16 ≠ 0) ∨ addB (sp : Int) (len : Int) = false ∨ (addV (sp : Int) (len : Int) ≠ 140737488351232) := by
      rcases c1 with h | h
      · exact .inl h
      · right
        rw [addB_eq (by omega) (by omega) (by omega) (by omega), addV_eq (by omega) (by omega) (by omega) (by omega)]
        by_cases h2 : (sp : Int) + len ≤ 18446744073709551615
        · right; rw [if_pos h2]; omega
        · left; simpa using h2
    clear c1 hlen hB hs
    generalize hab : addB (sp : Int) (len : Int) = ab at *
    generalize hav : addV (sp : Int) (len : Int) = av at *
    have HAB := hid hab
    have HAV := hid hav
    clear hab hav
    by_cases c2 : sp % 16 = 0
    · have dm : (((sp : Int) % 16) != 0) = false := by simp; omega
      have dm2 : (((sp : Int).tmod 16) != 0) = false := by rw [Int.tmod_eq_emod_of_nonneg (by omega)]; simp; omega
      cases ab
      · clear hadd c2
        go_enter Tryd.func16, Tryd.ntmps16
        go_wp2_with (go_at_call 30; refine (add_any _ _ _).mono ?_; rw [HAB.out, HAV.out]; rintro e w' ⟨rfl, rfl⟩)
        refine bodyPost_ret (v := .tuple #[.slice none 0 0, .slice none 0 0, .slice none 0 0, .int .i64 25]) (by simp [results, Tryd.results16, Tryd.f16, go_sem]) rfl ?_
        exact readP_no HE.out (Below.refl _ _)
      · have d3 : (av != 140737488351232) = true := by simp; rcases hadd with h | h | h <;> simp_all
        clear hadd c2
        go_enter Tryd.func16, Tryd.ntmps16
        go_wp2_with (go_at_call 30; refine (add_any _ _ _).mono ?_; rw [HAB.out, HAV.out]; rintro e w' ⟨rfl, rfl⟩)
        refine bodyPost_ret (v := .tuple #[.slice none 0 0, .slice none 0 0, .slice none 0 0, .int .i64 25]) (by simp [results, Tryd.results16, Tryd.f16, go_sem]) rfl ?_
        exact readP_no HE.out (Below.refl _ _)
    · have dm : (((sp : Int) % 16) != 0) = true := by simp; omega
      have dm2 : (((sp : Int).tmod 16) != 0) = true := by rw [Int.tmod_eq_emod_of_nonneg (by omega)]; simp; omega
      clear hadd c2
      go_enter Tryd.func16, Tryd.ntmps16
      go_wp2_with (go_at_call 30; refine (add_any _ _ _).mono ?_; rw [HAB.out, HAV.out]; rintro e w' ⟨rfl, rfl⟩)
      refine bodyPost_ret (v := .tuple #[.slice none 0 0, .slice none 0 0, .slice none 0 0, .int .i64 25]) (by simp [results, Tryd.results16, Tryd.f16, go_sem]) rfl ?_
      exact readP_no HE.out (Below.refl _ _)
  · have HC1 := hid c1
    have dm : (((sp : Int) % 16) != 0) = false := by simp; omega
    have dm2 : (((sp : Int).tmod 16) != 0) = false := by rw [Int.tmod_eq_emod_of_nonneg (by omega)]; simp; omega
    have HAB := hid (show addB (sp : Int) (len : Int) = true by rw [addB_eq (by omega) (by omega) (by omega) (by omega)]; simp; omega)
    have HAV := hid (show addV (sp : Int) (len : Int) = 140737488351232 by rw [addV_eq (by omega) (by omega) (by omega) (by omega), if_pos (by omega)]; omega)
    have HRD := hid (show RD w (w.alloc (.cells #[.slice a len cap, .int .u64 (sp : Int), .int .u64 ((0 : Nat) : Int)] 65)) w.heap.size a len cap sp l 0 from ⟨hs, hB, hl, bal _, Nat.le_refl _, Row.new w 65 [.slice a len cap, .int .u64 (sp : Int), .int .u64 ((0 : Nat) : Int)]⟩)
    have HCAP := hid hcap
    have HCM := hid hcm
    have HSP := hid hsp
    clear c1 hlen hB hs hl hcap hcm hsp
    go_enter Tryd.func16, Tryd.ntmps16
    go_wp2_with (go_at_call 30; refine (add_any _ _ _).mono ?_; rw [HAB.out, HAV.out]; rintro e w' ⟨rfl, rfl⟩)
    refine (arguments_any w _ w.heap.size a len cap sp l HRD.out).mono ?_
    rintro e' w1 ⟨v1, p1, rfl, ho1, hx1, hd1, hp1⟩
    have HB1 := hid (show Below w.heap.size w w1 from (bal _).trans (hx1.below (Nat.le_refl _) (by simp)))
    have HD1 := hid hd1
    have HP1 := hid hp1
    have HA64 := hid (args64 l)
    obtain ⟨va1, vc1, rfl⟩ := own_hd2 ho1
    have HO1 := hid ho1
    clear ho1 hx1 hd1 hp1
    by_cases c2 : (argsR l).1 = 0
    · have HC2 := hid c2
      have hp := HP1.out c2
      have HP := hid hp
      clear hp HP1
      rw [c2]
      clear c2
      go_wp2_with fail
      refine (environment_any w w1 w.heap.size a len cap sp l p1 HD1.out).mono ?_
      rintro e' w2 ⟨v2, p2, rfl, ho2, hx2, hd2, hp2⟩
      have HB2 := hid (show Below w.heap.size w w2 from HB1.out.trans (hx2.below (Nat.le_refl _) HB1.out.size))
      have HD2 := hid hd2
      have HP2 := hid hp2
      have HO1b := hid (hx2.own HO1.out (own_ne_row HO1.out HD1.out.row (by decide)))
      obtain ⟨va2, vc2, rfl⟩ := own_hd2 ho2
      have HO2 := hid ho2
      have HE64 := hid (env64 l 33 p1 0)
      have HPP := hid HP.out.symm
      clear ho2 hx2 hd2 hp2
      by_cases c3 : (envR l 33 p1 0).1 = 0
      · have HC3 := hid c3
        have HQ := hid (HP2.out c3).symm
        rw [c3]
        clear c3 HP2
        go_wp2_with fail
        refine (pairs_any w w2 w.heap.size a len cap sp l p2 HD2.out).mono ?_
        rintro e' w3 ⟨v3, p3, rfl, ho3, hx3, hd3⟩
        have HB3 := hid (show Below w.heap.size w w3 from HB2.out.trans (hx3.below (Nat.le_refl _) HB2.out.size))
        have HD3 := hid hd3
        have HO1c := hid (hx3.own HO1b.out (own_ne_row HO1b.out HD2.out.row (by decide)))
        have HO2c := hid (hx3.own HO2.out (own_ne_row HO2.out HD2.out.row (by decide)))
        obtain ⟨va3, vc3, rfl⟩ := own_hd2 ho3
        have HO3 := hid ho3
        clear ho3 hx3 hd3
        by_cases c4 : (pairsR l 18 p2 0).1 = 0
        · have HC4 := hid c4
          rw [c4]
          clear c4
          have HL1 := hid (argsR_fb l).2
          have HL2 := hid (envR_fb l 33 p1 0 (by omega)).2
          have HT1 := hid (fun (w' : World) (hb : Below w3.heap.size w3 w') (aa : Option Addr) (ac : Nat) (h : Cel w' aa (argsR l).2.1.length (u64s (argsR l).2.1)) => texts_any w w' w.heap.size a len cap sp p3 l aa ac (argsR l).2.1 (HD3.out.still hb) HSP.out HCAP.out HCM.out h (by have := HL1.out; omega) HA64.out)
          have HT2 := hid (fun (w' : World) (hb : Below w3.heap.size w3 w') (aa : Option Addr) (ac : Nat) (h : Cel w' aa (envR l 33 p1 0).2.1.length (u64s (envR l 33 p1 0).2.1)) => texts_any w w' w.heap.size a len cap sp p3 l aa ac (envR l 33 p1 0).2.1 (HD3.out.still hb) HSP.out HCAP.out HCM.out h (by have := HL2.out; omega) HE64.out)
          obtain ⟨ca1, cc1, he1, hcl1, _⟩ := own_cel HO1c.out
          simp only [Value.slice.injEq, true_and] at he1
          obtain ⟨rfl, rfl⟩ := he1
          obtain ⟨ca2, cc2, he2, hcl2, _⟩ := own_cel HO2c.out
          simp only [Value.slice.injEq, true_and] at he2
          obtain ⟨rfl, rfl⟩ := he2
          have HCL1 := hid hcl1
          have HCL2 := hid hcl2
          clear hcl1 hcl2
          go_wp2_with fail
          refine (HT1.out w3 (Below.refl _ _) va1 vc1 HCL1.out).mono ?_
          rintro e' w4 ⟨v4, rfl, ho4, hb4⟩
          have HB4 := hid hb4
          have HB4w := hid (bthen HB3.out hb4)
          obtain ⟨va4, vc4, rfl⟩ := own_hd2 ho4
          have HO4 := hid ho4
          clear ho4 hb4
          by_cases c5 : (textsR l sp (argsR l).2.1).1 = 0
          · have HC5 := hid c5
            rw [c5]
            clear c5
            go_wp2_with fail
            refine (HT2.out w4 HB4.out va2 vc2 (HCL2.out.below' HB4.out)).mono ?_
            rintro e' w5 ⟨v5, rfl, ho5, hb5⟩
            have HB5 := hid hb5
            have HB5w := hid (bthen HB4w.out hb5)
            obtain ⟨va5, vc5, rfl⟩ := own_hd2 ho5
            have HO5 := hid ho5
            clear ho5 hb5
            by_cases c6 : (textsR l sp (envR l 33 p1 0).2.1).1 = 0
            · have HE := hid (readR_7 HC1.out HC2.out HPP.out HC3.out HQ.out HC4.out HC5.out c6)
              rw [c6]
              clear c6
              go_wp2_with fail
              refine bodyPost_ret (v := .tuple #[.slice va4 (textsR l sp (argsR l).2.1).2.length vc4, .slice va5 (textsR l sp (envR l 33 p1 0).2.1).2.length vc5, .slice va3 (pairsR l 18 p2 0).2.length vc3, .int .i64 0]) (by simp [results, Tryd.results16, Tryd.f16, go_sem]) rfl ?_
              exact ⟨_, _, _, by rw [HE.out], by rw [HE.out]; exact own_from (own_below HO4.out HB5.out) HB3.out.size, by rw [HE.out]; exact own_from HO5.out HB4w.out.size, by rw [HE.out]; exact own_from (own_below (own_below HO3.out HB4.out) HB5.out) HB2.out.size, HB5w.out⟩
            · have HE := hid (readR_6 HC1.out HC2.out HPP.out HC3.out HQ.out HC4.out HC5.out c6)
              have d6 : ((textsR l sp (envR l 33 p1 0).2.1).1 != 0) = true := by simpa using c6
              clear c6
              generalize (textsR l sp (envR l 33 p1 0).2.1).1 = er at *
              go_wp2_with fail
              refine bodyPost_ret (v := .tuple #[.slice none 0 0, .slice none 0 0, .slice none 0 0, .int .i64 er]) (by simp [results, Tryd.results16, Tryd.f16, go_sem]) rfl ?_
              exact readP_no HE.out HB5w.out
          · have HE := hid (readR_5 HC1.out HC2.out HPP.out HC3.out HQ.out HC4.out c5)
            have d6 : ((textsR l sp (argsR l).2.1).1 != 0) = true := by simpa using c5
            clear c5
            generalize (textsR l sp (argsR l).2.1).1 = er at *
            go_wp2_with fail
            refine bodyPost_ret (v := .tuple #[.slice none 0 0, .slice none 0 0, .slice none 0 0, .int .i64 er]) (by simp [results, Tryd.results16, Tryd.f16, go_sem]) rfl ?_
            exact readP_no HE.out HB4w.out
        · have HE := hid (readR_4 HC1.out HC2.out HPP.out HC3.out HQ.out c4)
          have d6 : ((pairsR l 18 p2 0).1 != 0) = true := by simpa using c4
          clear c4
          generalize (pairsR l 18 p2 0).1 = er at *
          go_wp2_with fail
          refine bodyPost_ret (v := .tuple #[.slice none 0 0, .slice none 0 0, .slice none 0 0, .int .i64 er]) (by simp [results, Tryd.results16, Tryd.f16, go_sem]) rfl ?_
          exact readP_no HE.out HB3.out
      · have HE := hid (readR_3 HC1.out HC2.out HPP.out c3)
        have d6 : ((envR l 33 p1 0).1 != 0) = true := by simpa using c3
        clear c3
        generalize (envR l 33 p1 0).1 = er at *
        go_wp2_with fail
        refine bodyPost_ret (v := .tuple #[.slice none 0 0, .slice none 0 0, .slice none 0 0, .int .i64 er]) (by simp [results, Tryd.results16, Tryd.f16, go_sem]) rfl ?_
        exact readP_no HE.out HB2.out
    · have HE := hid (readR_2 HC1.out c2)
      have d6 : ((argsR l).1 != 0) = true := by simpa using c2
      clear c2
      generalize (argsR l).1 = er at *
      go_wp2_with fail
      refine bodyPost_ret (v := .tuple #[.slice none 0 0, .slice none 0 0, .slice none 0 0, .int .i64 er]) (by simp [results, Tryd.results16, Tryd.f16, go_sem]) rfl ?_
      exact readP_no HE.out HB1.out
end Go.Proofs.YtihaakcfegelkaaDoor
