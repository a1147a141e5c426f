
/- hostellaw20.StackTells. -/
import Derived.Test.YtihaakcfegelkaaDoorTm1
namespace Go.Proofs.YtihaakcfegelkaaDoor
open Go.RowKit Go.Sort
attribute [local go_sem] Oper.semAt_some

set_option maxRecDepth 100000 in
set_option maxHeartbeats 4000000 in
theorem stackTells_walk (a : Option Addr) (len cap sp : Nat) (l : List UInt8) (w : World) (hs : Sizes w) (hB : Byt w a len l) (hcap : len ≤ cap) (hcm : cap ≤ maxLen) (hsp : sp < 18446744073709551616) :
    Calls Tryd.prog 5 #[.slice a len cap, .int .u64 sp] w fun e w' => e = .returned (.bool true) ∧ Below w.heap.size w w' := by
  have HWK := hid (fun (w' : World) (hb : Below w.heap.size w w') => works20_any w' (hs.below hb))
  by_cases hbig : 65536 < len
  · have d1 : decide ((65536 : Int) < (len : Int)) = true := by simp; omega
    have d1n : decide (65536 < len) = true := by simp; omega
    clear hs hB hbig
    go_enter Tryd.func5, Tryd.ntmps5
    go_wp2_with fail
    refine (HWK.out w (Below.refl _ _)).mono ?_
    rintro e' w1 ⟨rfl, hb⟩
    have HB := hid hb
    clear hb
    go_wp2_with fail
    go_ret
    exact ⟨rfl, HB.out⟩
  · have d1 : decide ((65536 : Int) < (len : Int)) = false := by simp; omega
    have d1n : decide (65536 < len) = false := by simp; omega
    have HRD := hid (read20_any a len cap sp l w hs hB (by omega) hcap hcm hsp)
    have hbl : len ≤ 65536 := by omega
    have HWI := hid (fun (w' : World) (hb : Below w.heap.size w w') (s : BL) (hin : InB l s) => within_any a len cap l s w' (hB.below' hb) hbl hcap hin)
    obtain ⟨t1, t2, t3, t4, t5, t6, t7, t8⟩ := readR_tells l sp
    generalize readR l sp = R at *
    obtain ⟨er, A, E, X⟩ := R
    simp only at t1 t2 t3 t4 t5 t6 t7 t8
    have HT6 := hid t6
    have HT7 := hid t7
    have HT8 := hid t8
    clear hs hB hbig hbl hcap hcm hsp t6 t7 t8
    go_enter Tryd.func5, Tryd.ntmps5
    go_wp2_with fail
    refine (HRD.out).mono ?_
    rintro e' w1 ⟨v1, v2, v3, rfl, ho1, ho2, ho3, hb1⟩
    have HB1 := hid hb1
    obtain ⟨a1, c1, rfl, hc1, hn1, hl1, hm1⟩ := own_cel ho1
    obtain ⟨a2, c2, rfl, hc2, hn2, hl2, hm2⟩ := own_cel ho2
    obtain ⟨a3, c3, rfl, hc3, _⟩ := axs_own ho3
    have HC1 := hid hc1
    have HC2 := hid hc2
    have HC3 := hid hc3
    have HN1 := hid hn1
    have HN2 := hid hn2
    clear hb1 hc1 hc2 hc3 ho1 ho2 ho3 HRD hn1 hn2 hl1 hl2 hm1 hm2
    by_cases her : er = 0
    · subst her
      clear t1 t2
      have q1 : decide ((32 : Int) < (A.length : Int)) = false := by simp; omega
      have q1n : decide (32 < A.length) = false := by simp; omega
      have q2 : decide ((32 : Int) < (E.length : Int)) = false := by simp; omega
      have q2n : decide (32 < E.length) = false := by simp; omega
      have q3 : decide ((17 : Int) < (X.length : Int)) = false := by simp; omega
      have q3n : decide (17 < X.length) = false := by simp; omega
      have HLA := hid t3
      have HLE := hid t4
      clear t3 t4 t5
      obtain ⟨i0, hi0, hz0, hz1, hz2⟩ := info_parts infoS
      have HNa := hid (show (0 + A.length) * 16 ≤ 140737488355328 by have := HLA.out; omega)
      have HNb := hid (show 0 + A.length ≤ maxLen by have := HLA.out; unfold maxLen; omega)
      have HNc := hid (show (0 + A.length + E.length) * 16 ≤ 140737488355328 by have := HLA.out; have := HLE.out; omega)
      have HNd := hid (show 0 + A.length + E.length ≤ maxLen by have := HLA.out; have := HLE.out; unfold maxLen; omega)
      have HNil := hid (show w1.ownsRow w1.heap.size 9 1 (.slice none 0 0) 0 [] from World.ownsRow_nil _ _ _ _)
      go_wp2_with (first | (at_builtin; refine wpList_ap1 Tryd.underlying22 infoS rfl rfl _ _ rfl w1.heap.size (.slice none 0 0) 0 [] (strs A) rfl a1 A.length c1 rfl HNil.out HC1.out (strsS_one A) HN1.out HNa.out HNb.out (Nat.le_refl _) ?_; intro v4 w2 hown2 hgrow2 hb2; have HO2 := hid hown2; have HB2 := hid hb2; have HC2b := hid (HC2.out.below' hb2); have HZ2 := hid hb2.size; clear hown2 hgrow2 hb2) | (at_builtin; refine wpList_ap1 Tryd.underlying22 infoS rfl rfl _ _ rfl w1.heap.size v4 (0 + A.length) ([] ++ strs A) (strs E) rfl a2 E.length c2 rfl HO2.out HC2b.out (strsS_one E) HN2.out HNc.out HNd.out HZ2.out ?_; intro v5 w3 hown3 hgrow3 hb3; have HO3 := hid hown3; have HB3 := hid hb3; clear hown3 hgrow3 hb3))
      obtain ⟨ALL, hALL⟩ : ∃ ALL, ALL = A ++ E := ⟨_, rfl⟩
      have hlen : 0 + A.length + E.length = ALL.length := by rw [hALL]; simp
      have ho3 := own_ext HO3.out hlen (show ([] ++ strs A) ++ strs E = strs ALL by rw [hALL, strsS_app]; rfl)
      obtain ⟨a5, c5, he5, hc5, _⟩ := own_cel ho3
      subst he5
      have hall : ∀ s ∈ ALL, s.length ≤ 256 ∧ InB l s := by
        intro s hs
        rw [hALL] at hs
        rcases List.mem_append.1 hs with h | h
        · exact HT6.out s h
        · exact HT7.out s h
      have HAL := hid hall
      have HL5 := hid (show ALL.length ≤ 64 by have := HLA.out; have := HLE.out; omega)
      have HC5 := hid hc5
      have HB3w := hid (bthen HB1.out (HB2.out.trans HB3.out))
      have HC3c := hid (Rk.below' HC3.out (HB2.out.trans HB3.out))
      clear hall hALL hlen ho3 hc5 HO3 HO2 HC1 HC2 HC2b HC3
      go_loopw [10] (fun i wr => ∃ k : Nat, k ≤ ALL.length ∧ i = .int .i64 k ∧ Below w3.heap.size w3 wr) (fun i _ => ALL.length - (intOf i).toNat)
      case atStart => exact ⟨0, Nat.zero_le _, rfl, Below.refl _ _⟩
      case round =>
        obtain ⟨k, hk, rfl, hbw⟩ := hrel
        have HBW := hid hbw
        clear hbw
        by_cases hlt : k < ALL.length
        · have p1 : decide ((k : Int) < (ALL.length : Int)) = true := by simp; omega
          have p1n : decide (k < ALL.length) = true := by simp; omega
          obtain ⟨b, off, rfl, hcell⟩ := (HC5.out.below' HBW.out).some_of (by simp [strs]; omega)
          have hx := strs_at hcell hlt
          have h5 := HAL.out ALL[k] (List.getElem_mem hlt)
          have hk64 : k < 64 := by have := HL5.out; omega
          generalize ALL[k] = t at *
          have hz : ((ba t).size : Int) = (t.length : Int) := by rw [ba_size]
          have HIN := hid (HWI.out wr (bthen HB3w.out HBW.out) t h5.2)
          have p2 : decide ((256 : Int) < (t.length : Int)) = false := by simp; omega
          have p2n : decide (256 < t.length) = false := by simp; omega
          clear hcell h5
          go_wp2_with fail
          refine (HIN.out).mono ?_
          rintro e' w4 ⟨rfl, hb4⟩
          have HBW4 := hid (bthen HBW.out hb4)
          clear hb4 hx
          go_wp2_with fail
          go_roundw
          case rel => exact ⟨k + 1, by omega, by go_num, HBW4.out⟩
          case measure => simp [intOf]; omega
        · have p1 : decide ((k : Int) < (ALL.length : Int)) = false := by simp; omega
          have p1n : decide (k < ALL.length) = false := by simp; omega
          have HCX := hid (Rk.below' HC3c.out HBW.out)
          have HBX := hid (bthen HB3w.out HBW.out)
          have HXL := hid (show X.length ≤ 17 by simpa using q3n)
          go_wp2_with fail
          rename World => wA
          go_loopw [11] (fun i wr => ∃ k : Nat, k ≤ X.length ∧ i = .int .i64 k ∧ wr = wA) (fun i _ => X.length - (intOf i).toNat)
          case atStart => exact ⟨0, Nat.zero_le _, rfl, by simp⟩
          case round =>
            obtain ⟨j, hj, rfl, rfl⟩ := hrel
            by_cases hlt2 : j < X.length
            · have r1 : decide ((j : Int) < (X.length : Int)) = true := by simp; omega
              have r1n : decide (j < X.length) = true := by simp; omega
              obtain ⟨b3, o3, rfl, hx3, hx4⟩ := axs_at HCX.out hlt2
              have h8 := HT8.out X[j] (List.getElem_mem hlt2)
              have hj17 : j < 17 := by have := HXL.out; omega
              generalize X[j] = x at *
              have q8 : ((x.1 : Int) == 0) = false := by simpa using h8
              clear h8
              go_wp2_with fail
              go_roundw
              case rel => exact ⟨j + 1, by omega, by go_num, by simp⟩
              case measure => simp [intOf]; omega
            · have r1 : decide ((j : Int) < (X.length : Int)) = false := by simp; omega
              have r1n : decide (j < X.length) = false := by simp; omega
              go_wp2_with fail
              refine (HWK.out _ HBX.out).mono ?_
              rintro e' w5 ⟨rfl, hb5⟩
              have HB5 := hid (bthen HBX.out hb5)
              clear hb5
              go_wp2_with fail
              go_ret
              exact ⟨rfl, HB5.out⟩
    · have hne : (er != 0) = true := by simpa using her
      obtain ⟨rfl, rfl, rfl⟩ : A = [] ∧ E = [] ∧ X = [] := by
        have := t2 her
        simp only [Prod.mk.injEq] at this
        exact this
      clear t2 t3 t4 t5 HT6 HT7 HT8
      rcases t1 with h | h | h
      · exact absurd h her
      · subst h
        clear hne her
        go_wp2_with fail
        refine (HWK.out w1 HB1.out).mono ?_
        rintro e' w2 ⟨rfl, hb⟩
        have HB := hid (bthen HB1.out hb)
        clear hb
        go_wp2_with fail
        go_ret
        exact ⟨rfl, HB.out⟩
      · subst h
        clear hne her
        go_wp2_with fail
        refine (HWK.out w1 HB1.out).mono ?_
        rintro e' w2 ⟨rfl, hb⟩
        have HB := hid (bthen HB1.out hb)
        clear hb
        go_wp2_with fail
        go_ret
        exact ⟨rfl, HB.out⟩
end Go.Proofs.YtihaakcfegelkaaDoor
