
/- ElfFree: its walk. -/
import Derived.Test.YtaaohcpiideaaaaDoorNaE
import Derived.Test.YtaaohcpiideaaaaDoorKS
import Derived.Deep.QuietTactic
import Derived.BigQuiet
import Derived.StillTailTactics
namespace Go.Proofs.YtaaohcpiideaaaaDoor
open Go.RowKit Go.Sort Go.Shelf
attribute [local go_sem] Oper.semAt_some

theorem ps12_len {l : List UInt8} {x : HD} (h : ps12 l = some x) : (x.sg.length : Int) = wgetV l 56 2 ∧ x.sg.length ≤ 8 := by
  unfold ps12 at h
  split at h
  · rename_i hc
    have hl : ∀ n (y : List SG × Int), segsL l (wgetV l 32 8) (finOf (wgetV l 16 2)) n = some y → y.1.length = n := by
      intro n
      induction n with
      | zero => intro y hy; cases hy; rfl
      | succ n ih =>
        intro y hy
        rw [segsL] at hy
        cases hz : segsL l (wgetV l 32 8) (finOf (wgetV l 16 2)) n with
        | none => rw [hz] at hy; cases hy
        | some z =>
          rw [hz] at hy
          simp only at hy
          split at hy
          · cases hy
            simp [ih z hz]
          · cases hy
    cases hs : segsL l (wgetV l 32 8) (finOf (wgetV l 16 2)) (wgetV l 56 2).toNat with
    | none => rw [hs] at h; cases h
    | some y =>
      rw [hs] at h
      simp only at h
      split at h
      · cases h
        have := hl _ y hs
        have h0 : 0 ≤ wgetV l 56 2 := wgetV_u
        have hh := hc.1
        unfold hdB at hh
        rw [Bool.and_eq_true, Bool.and_eq_true, decide_eq_true_eq, decide_eq_true_eq, decide_eq_true_eq] at hh
        simp only
        omega
      · cases h
  · cases h
theorem add8 (x : UInt8) (t : Int) : ∃ y : UInt8, (y.toNat : Int) = IntKind.u8.wrap ((x.toNat : Int) + t) := by
  refine ⟨UInt8.ofNat (IntKind.u8.wrap ((x.toNat : Int) + t)).toNat, ?_⟩
  have h0 : 0 ≤ IntKind.u8.wrap ((x.toNat : Int) + t) ∧ IntKind.u8.wrap ((x.toNat : Int) + t) < 256 := by
    rw [IntKind.wrap_u8]; omega
  rw [UInt8.toNat_ofNat_of_lt' (by simp [UInt8.size]; omega)]
  omega
/-- What the loop keeps: the copy's bytes are those of the file where they are looked at. -/
structure FL (W3 : World) (l cs : List UInt8) (ph many : Int) (W : World) : Prop where
  row : Row W W3.heap.size 5 (cs.map B8)
  len : cs.length = l.length
  like : ∀ i : Nat, lookB i ph many = true → cs[i]? = l[i]?
  low : Below W3.heap.size W3 W
theorem FL.drewN {W3 : World} {l cs : List UInt8} {ph many : Int} {W : World} (h : FL W3 l cs ph many W) (n : Nat) : FL W3 l cs ph many (W.drewN n) := ⟨h.row.drewN n, h.len, h.like, bdN h.low n⟩
theorem FL.set {W3 : World} {l cs : List UInt8} {ph many : Int} {W : World} (h : FL W3 l cs ph many W) {j : Nat} (hj : lookB j ph many = false) (y : UInt8) : FL W3 l (cs.set j y) ph many (W.setCell ⟨W3.heap.size, j, none⟩ (.int .u8 (y.toNat : Int))) := by
  refine ⟨?_, by rw [List.length_set]; exact h.len, fun i hi => ?_, bset h.low (Nat.le_refl _) _⟩
  · have := h.row.set j (.int .u8 (y.toNat : Int))
    rw [List.map_set]
    exact this
  · rw [List.getElem?_set_ne (by rintro rfl; rw [hj] at hi; cases hi)]
    exact h.like i hi
set_option maxRecDepth 100000 in
set_option maxHeartbeats 8000000 in
theorem elfFree_walk (a : Option Addr) (len cap : Nat) (l : List UInt8) (b : Option Addr) (zn zc : Nat) (z : List Int) (t : Int) (w : World) (hs : Sizes w) (hB : Byt w a len l) (hlc : len ≤ cap) (hcm : cap ≤ maxLen) (hZ : Nums w .i64 b zn z) :
    Calls Tryd.prog 5 #[.slice a len cap, .slice b zn zc, .int .u8 t] w fun e w' => e = .returned (.bool true) ∧ Below w.heap.size w w' := by
  obtain rfl := hB.hlen
  obtain rfl := hZ.hlen
  have HS := hid (fun (W : World) (hb : Below w.heap.size w W) => hs.below hb)
  have HB := hid (fun (W : World) (hb : Below w.heap.size w W) => hB.below' hb)
  have HZ := hid (fun (W : World) (hb : Below w.heap.size w W) => hZ.below' hb)
  have HWK := hid (fun (W : World) (hb : Below w.heap.size w W) => works12_any W (hs.below hb))
  have HLC := hid hlc
  have hm : cap ≤ 9223372036854775807 := hcm
  clear hs hB hZ
  by_cases hlg : 65536 < l.length
  · have d1 : decide ((65536 : Int) < (l.length : Int)) = true := by simp; omega
    have d1n : decide (65536 < l.length) = true := by simp; omega
    go_enter Tryd.func5, Tryd.ntmps5
    go_wp2_with fail
    refine (HWK.out w (Below.refl _ _)).mono ?_
    rintro e' w5 ⟨rfl, hb5⟩
    have HL5 := hid hb5
    clear hb5
    go_wp2_with fail
    go_ret
    exact ⟨rfl, HL5.out⟩
  have d1 : decide ((65536 : Int) < (l.length : Int)) = false := by simp; omega
  have d1n : decide (65536 < l.length) = false := by simp; omega
  by_cases hzg : 300 < z.length
  · have d2 : decide ((300 : Int) < (z.length : Int)) = true := by simp; omega
    have d2n : decide (300 < z.length) = true := by simp; omega
    go_enter Tryd.func5, Tryd.ntmps5
    go_wp2_with fail
    refine (HWK.out w (Below.refl _ _)).mono ?_
    rintro e' w5 ⟨rfl, hb5⟩
    have HL5 := hid hb5
    clear hb5
    go_wp2_with fail
    go_ret
    exact ⟨rfl, HL5.out⟩
  have d2 : decide ((300 : Int) < (z.length : Int)) = false := by simp; omega
  have d2n : decide (300 < z.length) = false := by simp; omega
  have HLG := hid (show l.length ≤ 65536 by omega)
  have HZG := hid (show z.length ≤ 300 by omega)
  have HP := hid (parse12_any a cap l w (HS.out w (Below.refl _ _)) (HB.out w (Below.refl _ _)) (by omega) hlc)
  clear hlg hzg
  go_enter Tryd.func5, Tryd.ntmps5
  go_wp2_with fail
  refine HP.out.mono ?_
  intro e2 w2 h2
  obtain ⟨⟨a2, c2, rfl, hS2⟩, hb2⟩ := (show ParseP _ _ _ _ from h2)
  obtain ⟨W3, hW3⟩ : ∃ W3, W3 = w2.alloc (.cells #[.int .u16 (psH l).typ, .int .u64 (psH l).entry, .int .u64 (psH l).phoff, .slice a2 (psH l).sg.length c2] 26) := ⟨_, rfl⟩
  have HR3 := hid (show Row W3 w2.heap.size 26 [.int .u16 (psH l).typ, .int .u64 (psH l).entry, .int .u64 (psH l).phoff, .slice a2 (psH l).sg.length c2] by rw [hW3]; exact Row.new _ _ _)
  have HS3 := hid (show Sgs W3 a2 (psH l).sg.length (psH l).sg by rw [hW3]; exact hS2.below' (bal _))
  have HB3 := hid (show Below w.heap.size w W3 by rw [hW3]; exact hb2.alloc hb2.size _)
  have HW3 := hid hW3
  clear h2 hS2 hb2 hW3
  have y0 := HR3.out.cell' 0
  have y1 := HR3.out.cell' 1
  have y2 := HR3.out.cell' 2
  have y3 := HR3.out.cell' 3
  by_cases he : psE l = 0
  rotate_left
  · have e5 : (psE l != 0) = true := by simpa using he
    generalize psE l = er at *
    generalize psH l = hd at *
    clear he
    go_wp2_with fail
    rw [← HW3.out]
    go_wp2_with fail
    refine (HWK.out _ HB3.out).mono ?_
    rintro e' w7 ⟨rfl, hb7⟩
    have HL7 := hid (HB3.out.trans (hb7.mono HB3.out.size))
    clear hb7
    go_wp2_with fail
    go_ret
    exact ⟨rfl, HL7.out⟩
  obtain ⟨x, hx⟩ := psE_zero he
  obtain ⟨hhd, hin, h64, hph⟩ := ps12_in hx
  obtain ⟨hsl, hs8⟩ := ps12_len hx
  have e3 : psH l = x := by unfold psH; rw [hx]; rfl
  rw [e3] at HR3 HS3 HW3 y0 y1 y2 y3 ⊢
  have HX := hid (show ps12 l = some x from hx)
  have HPH := hid (show 0 ≤ x.phoff ∧ x.phoff ≤ 65536 by rw [hph]; exact ⟨wgetV_u, by have := HLG.out; have : 0 ≤ wgetV l 56 2 := wgetV_u; omega⟩)
  have HS8 := hid hs8
  have HPHE := hid (show x.phoff = wgetV l 32 8 ∧ (x.sg.length : Int) = wgetV l 56 2 from ⟨hph, hsl⟩)
  have HNE := hid (show l ≠ [] by rintro rfl; simp at h64)
  rw [he]
  clear he hx hhd hin h64 hph hsl hs8 e3
  by_cases hpf : x.phoff < 64
  · have d3 : decide (x.phoff < 64) = true := by simp; omega
    clear hpf
    go_wp2_with fail
    rw [← HW3.out]
    go_wp2_with fail
    refine (HWK.out _ HB3.out).mono ?_
    rintro e' w7 ⟨rfl, hb7⟩
    have HL7 := hid (HB3.out.trans (hb7.mono HB3.out.size))
    clear hb7
    go_wp2_with fail
    go_ret
    exact ⟨rfl, HL7.out⟩
  have d3 : decide (x.phoff < 64) = false := by simp; omega
  have HPF := hid (show 64 ≤ x.phoff by omega)
  have HCP := hid (Ap.copyBytes_any a l.length cap l W3 (HB.out _ HB3.out) (by have := HLG.out; omega))
  clear hpf
  go_wp2_with fail
  rw [← HW3.out]
  go_wp2_with fail
  refine HCP.out.mono ?_
  rintro e' w4 ⟨v, rfl, hN, hb4⟩
  rcases hN with ⟨h0, _⟩ | ⟨_, rfl, hrow⟩
  · exact absurd h0 HNE.out
  have HF4 := hid (show FL W3 l l x.phoff x.sg.length w4 from ⟨hrow, rfl, fun _ _ => rfl, hb4⟩)
  clear hrow hb4 y0 y1 y2 y3 HCP
  go_wp2_with fail
  go_loopw [10] (fun i wr => ∃ k : Nat, k ≤ z.length ∧ i = .int .i64 k ∧ ∃ cs, FL W3 l cs x.phoff x.sg.length wr) (fun i _ => z.length - (intOf i).toNat)
  case atStart => exact ⟨0, Nat.zero_le _, rfl, l, HF4.out⟩
  case round =>
    obtain ⟨k, hk, rfl, cs, hF⟩ := hrel
    have HF := hid hF
    have hzg := HZG.out
    have HRR := hid (HR3.out.below hF.low HR3.out.lt)
    have y0 := HRR.out.cell' 0
    have y1 := HRR.out.cell' 1
    have y2 := HRR.out.cell' 2
    have y3 := HRR.out.cell' 3
    by_cases hlt : k < z.length
    · have d4 : decide ((k : Int) < (z.length : Int)) = true := by simp; omega
      have d4n : decide (k < z.length) = true := by simp; omega
      obtain ⟨bz, oz, rfl, hcz⟩ := (HZ.out _ HB3.out).cell k hlt
      have hcz2 := keepC hF.low hcz
      clear hcz
      have hslb := HRR.out.lt
      generalize z[k] = q at *
      by_cases hq0 : q < 0
      · have d5 : decide ((0 : Int) ≤ q) = false := by simp; omega
        clear hF hq0
        go_wp2_with fail
        go_quiet (fail)
        go_wp2_with fail
        go_roundw
        case rel => exact ⟨k + 1, by omega, by go_num, cs, HF.out.drewN _⟩
        case measure => simp [intOf]; omega
      obtain ⟨j, rfl⟩ := Int.eq_ofNat_of_zero_le (show 0 ≤ q by omega)
      have d5 : decide ((0 : Int) ≤ (j : Int)) = true := by simp
      by_cases hjl : j < l.length
      rotate_left
      · have d6 : decide ((j : Int) < (l.length : Int)) = false := by simp; omega
        have d6n : decide (j < l.length) = false := by simp; omega
        clear hF hq0 hjl
        go_wp2_with fail
        go_quiet (fail)
        go_wp2_with fail
        go_roundw
        case rel => exact ⟨k + 1, by omega, by go_num, cs, HF.out.drewN _⟩
        case measure => simp [intOf]; omega
      have d6 : decide ((j : Int) < (l.length : Int)) = true := by simp; omega
      have d6n : decide (j < l.length) = true := by simp; omega
      have HLK := hid (fun wx => looked_any (j : Int) x.phoff x.sg.length wx (by omega) (by have := HLG.out; omega) HPH.out.1 (by have := HPH.out; omega) (by omega) (by have := HS8.out; omega))
      have ewp := IntWalk.i64_in x.phoff ⟨by have := HPH.out; omega, by have := HPH.out; omega⟩
      cases hlk : lookB j x.phoff x.sg.length
      · have HJ := hid hlk
        rw [hlk] at HLK
        have hcj := HF.out.row.cell j (by rw [List.length_map, HF.out.len]; exact hjl)
        have hcs := HF.out.len
        have hfr := HF.out.row.frozen j
        rw [List.getElem_map] at hcj
        obtain ⟨y, hy⟩ := add8 (cs[j]'(by omega)) t
        have HSET := hid (fun n => (HF.out.drewN n).set HJ.out y)
        have hy2 := hy.symm
        unfold B8 at hcj
        generalize cs[j]'(by omega) = cj at *
        clear hF hq0 hlk hy
        go_wp2_with fail
        go_quiet ((go_at_call 23; exact Calls.quiet_of_same ((HLK.out _).mono (fun _ _ h => ⟨h.1, h.2.symm⟩))))
        go_wp2_with fail
        generalize hWQ : World.drewN wr nq = WQ at *
        have hcj3 : WQ.cell? ⟨W3.heap.size, j, none⟩ = some (.int .u8 (cj.toNat : Int)) := by rw [← hWQ]; exact hcj
        have hfr3 : WQ.frozen? ⟨W3.heap.size, j, none⟩ = false := by rw [← hWQ]; exact hfr
        have hcz3 : WQ.cell? ⟨bz, oz + k, none⟩ = some (.int .i64 (j : Int)) := by rw [← hWQ]; exact hcz2
        have HSQ := hid (HSET.out nq)
        rw [hWQ] at HSQ
        clear hWQ
        have ez : (0 : Int) ≤ (k : Int) := by omega
        have eb : (k : Int) < (z.length : Int) := by omega
        have ej : (0 : Int) ≤ (j : Int) := by omega
        have ejl : (j : Int) < (l.length : Int) := by omega
        go_still_tail 15, (by kernel_rfl)
        go_wp2_with fail
        go_roundw
        case rel => exact ⟨k + 1, by omega, by go_num, _, HSQ.out.drewN 1⟩
        case measure => simp [intOf]; omega
      · rw [hlk] at HLK
        clear hF hq0 hlk
        go_wp2_with fail
        go_quiet ((go_at_call 23; exact Calls.quiet_of_same ((HLK.out _).mono (fun _ _ h => ⟨h.1, h.2.symm⟩))))
        go_wp2_with fail
        go_roundw
        case rel => exact ⟨k + 1, by omega, by go_num, cs, HF.out.drewN _⟩
        case measure => simp [intOf]; omega
    · have d4 : decide ((k : Int) < (z.length : Int)) = false := by simp; omega
      have d4n : decide (k < z.length) = false := by simp; omega
      have HB5 := hid (HB3.out.trans (hF.low.mono HB3.out.size))
      have HP5 := hid (parse12_any (some ⟨W3.heap.size, 0, none⟩) l.length cs wr (HS.out wr HB5.out) (by rw [hF.len]; exact Row.byt (rest := []) (by rw [List.append_nil]; exact hF.row) hF.len) (by rw [hF.len]; have := HLG.out; omega) (by rw [hF.len]; exact Nat.le_refl _))
      rw [hF.len] at HP5
      have hp : ps12 cs = some x := (free_like HX.out HPF.out hF.len (by rw [← HPHE.out.1, ← HPHE.out.2]; exact hF.like)).parse HX.out
      have hh : hdB cs = true := (free_like HX.out HPF.out hF.len (by rw [← HPHE.out.1, ← HPHE.out.2]; exact hF.like)).hd (ps12_in HX.out).1
      have ee : psE cs = 0 := psE_some hp hh
      have eh : psH cs = x := by unfold psH; rw [hp]; rfl
      have HSR := hid (HS3.out.below' hF.low)
      clear hF hp hh
      go_wp2_with fail
      refine HP5.out.mono ?_
      intro e6 w6 h6
      obtain ⟨⟨a6, c6, rfl, hS6⟩, hb6⟩ := (show ParseP _ _ _ _ from h6)
      rw [ee, eh] at *
      have HB6 := hid (HB5.out.trans (hb6.mono HB5.out.size))
      have HR6 := hid (HRR.out.below hb6 HRR.out.lt)
      have HS6 := hid (HSR.out.below' hb6)
      have HT6 := hid hS6
      have HSM := hid (fun o => same12_any x.typ x.entry x.phoff a2 a6 c2 c6 x.sg (w6.alloc o) (HS6.out.below' (bal o)) (HT6.out.below' (bal o)) (by have := HS8.out; omega))
      have HBA := hid (fun o => show Below w.heap.size w (w6.alloc o) from HB6.out.alloc HB6.out.size o)
      clear h6 hS6 hb6 y0 y1 y2 y3
      have y0 := HR6.out.cell' 0
      have y1 := HR6.out.cell' 1
      have y2 := HR6.out.cell' 2
      have y3 := HR6.out.cell' 3
      have hlt6 := HR6.out.lt
      go_wp2_with fail
      refine (HSM.out _).mono ?_
      rintro e8 w8 ⟨rfl, hb8⟩
      have HB8 := hid ((HBA.out _).trans (hb8.mono (HBA.out _).size))
      clear hb8 y0 y1 y2 y3 hlt6
      go_wp2_with fail
      refine (HWK.out _ HB8.out).mono ?_
      rintro e' w9 ⟨rfl, hb9⟩
      have HL9 := hid (HB8.out.trans (hb9.mono HB8.out.size))
      clear hb9
      go_wp2_with fail
      go_ret
      exact ⟨rfl, HL9.out⟩
end Go.Proofs.YtaaohcpiideaaaaDoor
