
/- ElfCut: its walk. -/
import Derived.Test.YtaaohcpiideaaaaDoorNaB
namespace Go.Proofs.YtaaohcpiideaaaaDoor
open Go.RowKit Go.Sort Go.Shelf
attribute [local go_sem] Oper.semAt_some

theorem wget_take {l : List UInt8} {m : Nat} {p n : Int} (hs : isSz n = true) (h0 : 0 ≤ p) (hm : m ≤ l.length) (h : p + n ≤ m) : wgetV l p n = wgetV (l.take m) p n := by
  refine wgetV_same hs h0 (by omega) (by rw [List.length_take, Nat.min_eq_left hm]; exact h) (fun i h1 h2 => ?_)
  rw [List.getElem?_take_of_lt (by omega)]
theorem cut_like {l : List UInt8} {m : Nat} {x : HD} (hm : m ≤ l.length) (h : ps12 (l.take m) = some x) : Like (l.take m) l ∧ 64 ≤ m ∧ hdB (l.take m) = true := by
  have hlen : (l.take m).length = m := by rw [List.length_take, Nat.min_eq_left hm]
  have hc : hdB (l.take m) = true ∧ insB (wgetV (l.take m) 32 8) (wgetV (l.take m) 56 2 * 56) (l.take m).length = true := by
    unfold ps12 at h
    split at h
    · assumption
    · cases h
  have h64 : 64 ≤ m := by
    have := hc.1
    unfold hdB at this
    rw [Bool.and_eq_true, Bool.and_eq_true, decide_eq_true_eq, hlen] at this
    exact this.1.1
  have hin := hc.2
  rw [hlen] at hin
  unfold insB at hin
  simp only [decide_eq_true_eq] at hin
  have hp0 : 0 ≤ wgetV (l.take m) 32 8 := wgetV_u
  have hp : ∀ k : Nat, (k : Int) < wgetV (l.take m) 56 2 → wgetV (l.take m) 32 8 + 56 * k + 56 ≤ m := fun k hk => by omega
  refine ⟨⟨by omega, by rw [List.take_take, Nat.min_eq_left (by omega)], wget_take rfl (by omega) hm (by omega), wget_take rfl (by omega) hm (by omega), wget_take rfl (by omega) hm (by omega), wget_take rfl (by omega) hm (by omega), wget_take rfl (by omega) hm (by omega), wget_take rfl (by omega) hm (by omega), wget_take rfl (by omega) hm (by omega), fun k hk => ?_⟩, h64, hc.1⟩
  have hk2 := hp k hk
  generalize wgetV (l.take m) 32 8 = ph at *
  refine ⟨?_, wget_take rfl (by omega) hm (by omega)⟩
  unfold segL
  rw [wget_take (p := ph + 56 * k) rfl (by omega) hm (by omega), wget_take (p := ph + 56 * k + 4) rfl (by omega) hm (by omega), wget_take (p := ph + 56 * k + 8) rfl (by omega) hm (by omega), wget_take (p := ph + 56 * k + 16) rfl (by omega) hm (by omega), wget_take (p := ph + 56 * k + 32) rfl (by omega) hm (by omega), wget_take (p := ph + 56 * k + 40) rfl (by omega) hm (by omega)]
theorem psE_zero {l : List UInt8} (h : psE l = 0) : ∃ x, ps12 l = some x := by
  unfold psE at h
  cases hx : ps12 l with
  | some x => exact ⟨x, rfl⟩
  | none =>
    rw [hx] at h
    split at h
    · omega
    · simp at h
theorem psE_some {l : List UInt8} {x : HD} (h : ps12 l = some x) (hh : hdB l = true) : psE l = 0 := by
  unfold psE
  rw [if_neg (by rw [hh]; decide), h]
  rfl
theorem psH_len (l : List UInt8) : (psH l).sg.length ≤ 1000000000 := by
  unfold psH ps12
  split
  · rename_i hc
    cases hs : segsL l (wgetV l 32 8) (finOf (wgetV l 16 2)) (wgetV l 56 2).toNat with
    | none => simp [noHD]
    | some x =>
      have hl : ∀ n (y : List SG × Int), segsL l (wgetV l 32 8) (finOf (wgetV l 16 2)) n = some y → y.1.length = n := by
        intro n
        induction n with
        | zero => intro y hy; cases hy; rfl
        | succ n ih =>
          intro y hy
          rw [segsL] at hy
          cases hz : segsL l (wgetV l 32 8) (finOf (wgetV l 16 2)) n with
          | none => rw [hz] at hy; cases hy
          | some z =>
            rw [hz] at hy
            simp only at hy
            split at hy
            · cases hy
              simp [ih z hz]
            · cases hy
      have := hl _ x hs
      have h2 : wgetV l 56 2 ≤ 65535 := wget2
      simp only
      split
      · simp only [Option.getD_some]; omega
      · simp [noHD]
  · simp [noHD]
set_option maxRecDepth 100000 in
set_option maxHeartbeats 8000000 in
theorem elfCut_walk (a : Option Addr) (len cap : Nat) (l : List UInt8) (n : Int) (w : World) (hs : Sizes w) (hB : Byt w a len l) (hlc : len ≤ cap) (hcm : cap ≤ maxLen) :
    Calls Tryd.prog 6 #[.slice a len cap, .int .i64 n] w fun e w' => e = .returned (.bool true) ∧ Below w.heap.size w w' := by
  obtain rfl := hB.hlen
  have HS := hid (fun (W : World) (hb : Below w.heap.size w W) => hs.below hb)
  have HB := hid (fun (W : World) (hb : Below w.heap.size w W) => hB.below' hb)
  have HWK := hid (fun (W : World) (hb : Below w.heap.size w W) => works12_any W (hs.below hb))
  have HLC := hid hlc
  have hm : cap ≤ 9223372036854775807 := hcm
  clear hs hB
  by_cases hlg : 65536 < l.length
  · have d1 : decide ((65536 : Int) < (l.length : Int)) = true := by simp; omega
    have d1n : decide (65536 < l.length) = true := by simp; omega
    go_enter Tryd.func6, Tryd.ntmps6
    go_wp2_with fail
    refine (HWK.out w (Below.refl _ _)).mono ?_
    rintro e' w5 ⟨rfl, hb5⟩
    have HL5 := hid hb5
    clear hb5
    go_wp2_with fail
    go_ret
    exact ⟨rfl, HL5.out⟩
  have d1 : decide ((65536 : Int) < (l.length : Int)) = false := by simp; omega
  have d1n : decide (65536 < l.length) = false := by simp; omega
  have HLG := hid hlg
  by_cases hn0 : n < 0
  · have d2 : decide (n < 0) = true := by simp; omega
    clear hn0
    go_enter Tryd.func6, Tryd.ntmps6
    go_wp2_with fail
    refine (HWK.out w (Below.refl _ _)).mono ?_
    rintro e' w5 ⟨rfl, hb5⟩
    have HL5 := hid hb5
    clear hb5
    go_wp2_with fail
    go_ret
    exact ⟨rfl, HL5.out⟩
  obtain ⟨m, rfl⟩ := Int.eq_ofNat_of_zero_le (show 0 ≤ n by omega)
  have d2 : decide ((m : Int) < 0) = false := by simp
  by_cases hnl : l.length < m
  · have d3 : decide ((l.length : Int) < (m : Int)) = true := by simp; omega
    have d3n : decide (l.length < m) = true := by simp; omega
    clear hn0 hnl
    go_enter Tryd.func6, Tryd.ntmps6
    go_wp2_with fail
    refine (HWK.out w (Below.refl _ _)).mono ?_
    rintro e' w5 ⟨rfl, hb5⟩
    have HL5 := hid hb5
    clear hb5
    go_wp2_with fail
    go_ret
    exact ⟨rfl, HL5.out⟩
  have d3 : decide ((l.length : Int) < (m : Int)) = false := by simp; omega
  have d3n : decide (l.length < m) = false := by simp; omega
  have HM := hid (show m ≤ l.length by omega)
  have HP := hid (parse12_any a cap l w (HS.out w (Below.refl _ _)) (HB.out w (Below.refl _ _)) (by omega) hlc)
  have HP2 := hid (fun (W : World) (hb : Below w.heap.size w W) => show Calls Tryd.prog 21 #[.slice a m cap] W (ParseP (l.take m) W) from by
    have e : (l.take m).length = m := by rw [List.length_take]; omega
    have h := parse12_any a cap (l.take m) W (HS.out W hb) (by rw [e]; exact (HB.out W hb).upto (by omega)) (by rw [e]; omega) (by rw [e]; omega)
    rw [e] at h
    exact h)
  have hsl := slTo .i64 a l.length cap m (m : Int) rfl (by omega)
  clear hn0 hnl
  go_enter Tryd.func6, Tryd.ntmps6
  go_wp2_with fail
  refine HP.out.mono ?_
  intro e2 w2 h2
  obtain ⟨⟨a2, c2, rfl, hS2⟩, hb2⟩ := (show ParseP _ _ _ _ from h2)
  have HB2 := hid hb2
  obtain ⟨W3, hW3⟩ : ∃ W3, W3 = w2.alloc (.cells #[.int .u16 (psH l).typ, .int .u64 (psH l).entry, .int .u64 (psH l).phoff, .slice a2 (psH l).sg.length c2] 26) := ⟨_, rfl⟩
  have HR3 := hid (show Row W3 w2.heap.size 26 [.int .u16 (psH l).typ, .int .u64 (psH l).entry, .int .u64 (psH l).phoff, .slice a2 (psH l).sg.length c2] by rw [hW3]; exact Row.new _ _ _)
  have HS3 := hid (show Sgs W3 a2 (psH l).sg.length (psH l).sg by rw [hW3]; exact hS2.below' (bal _))
  have HB3 := hid (show Below w.heap.size w W3 by rw [hW3]; exact hb2.alloc hb2.size _)
  have HW3 := hid hW3
  clear h2 hS2 hb2 hW3
  go_wp2_with fail
  rw [← HW3.out]
  refine (HP2.out W3 HB3.out).mono ?_
  intro e4 w4 h4
  obtain ⟨⟨a4, c4, rfl, hS4⟩, hb4⟩ := (show ParseP _ _ _ _ from h4)
  have HB4 := hid (HB3.out.trans (hb4.mono HB3.out.size))
  have HR4 := hid (HR3.out.below hb4 HR3.out.lt)
  have HS4 := hid (HS3.out.below' hb4)
  have HT4 := hid hS4
  clear h4 hS4 hb4 hsl
  by_cases he : psE (l.take m) = 0
  · obtain ⟨x, hx⟩ := psE_zero he
    obtain ⟨hlk, h64, hhd⟩ := cut_like HM.out hx
    have e1 : psE l = 0 := psE_some (hlk.parse hx) (hlk.hd hhd)
    have e2 : psH (l.take m) = x := by unfold psH; rw [hx]; rfl
    have e3 : psH l = x := by unfold psH; rw [hlk.parse hx]; rfl
    have hxl := psH_len l
    rw [e3] at hxl HR3 HS3 HW3 HR4 HS4 ⊢
    rw [e2] at HT4 ⊢
    rw [he, e1]
    have d5 : decide ((64 : Int) ≤ (m : Int)) = true := by simp; omega
    have d5n : decide (64 ≤ m) = true := by simp; omega
    have HXL := hid hxl
    clear he hx hlk h64 hhd e1 e2 e3 hxl
    have y0 := HR4.out.cell' 0
    have y1 := HR4.out.cell' 1
    have y2 := HR4.out.cell' 2
    have y3 := HR4.out.cell' 3
    have hlt := HR4.out.lt
    have HSM := hid (fun o => same12_any x.typ x.entry x.phoff a2 a4 c2 c4 x.sg (w4.alloc o) (HS4.out.below' (bal o)) (HT4.out.below' (bal o)) HXL.out)
    have HBA := hid (fun o => show Below w.heap.size w (w4.alloc o) from HB4.out.alloc HB4.out.size o)
    go_wp2_with fail
    refine (HSM.out _).mono ?_
    rintro e6 w6 ⟨rfl, hb6⟩
    have HB6 := hid ((HBA.out _).trans (hb6.mono (HBA.out _).size))
    clear hb6 y0 y1 y2 y3 hlt
    go_wp2_with fail
    refine (HWK.out _ HB6.out).mono ?_
    rintro e' w7 ⟨rfl, hb7⟩
    have HL7 := hid (HB6.out.trans (hb7.mono HB6.out.size))
    clear hb7
    go_wp2_with fail
    go_ret
    exact ⟨rfl, HL7.out⟩
  have e5 : (psE (l.take m) == 0) = false := by simpa using he
  have HBA := hid (fun o => show Below w.heap.size w (w4.alloc o) from HB4.out.alloc HB4.out.size o)
  have H13 := hid (show m < 64 → psE (l.take m) = 13 from fun h => by
    unfold psE
    rw [if_pos (hdB_no (by rintro ⟨h1, _⟩; rw [List.length_take] at h1; omega))])
  clear he
  by_cases h64 : 64 ≤ m
  · have d5 : decide ((64 : Int) ≤ (m : Int)) = true := by simp; omega
    have d5n : decide (64 ≤ m) = true := by simp; omega
    generalize psE (l.take m) = er at *
    generalize psH (l.take m) = hd at *
    clear h64
    go_wp2_with fail
    refine (HWK.out _ (HBA.out _)).mono ?_
    rintro e' w7 ⟨rfl, hb7⟩
    have HL7 := hid ((HBA.out _).trans (hb7.mono (HBA.out _).size))
    clear hb7
    go_wp2_with fail
    go_ret
    exact ⟨rfl, HL7.out⟩
  · have d5 : decide ((64 : Int) ≤ (m : Int)) = false := by simp; omega
    have d5n : decide (64 ≤ m) = false := by simp; omega
    rw [H13.out (by omega)]
    generalize psH (l.take m) = hd at *
    clear h64 e5
    go_wp2_with fail
    refine (HWK.out _ (HBA.out _)).mono ?_
    rintro e' w7 ⟨rfl, hb7⟩
    have HL7 := hid ((HBA.out _).trans (hb7.mono (HBA.out _).size))
    clear hb7
    go_wp2_with fail
    go_ret
    exact ⟨rfl, HL7.out⟩
end Go.Proofs.YtaaohcpiideaaaaDoor
