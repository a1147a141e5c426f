
/- ElfHolds: its walk. -/
import Derived.Test.YtaaohcpiideaaaaDoorNaF
import Derived.Test.YtaaohcpiideaaaaDoorNaG
namespace Go.Proofs.YtaaohcpiideaaaaDoor
open Go.RowKit Go.Sort Go.Shelf
attribute [local go_sem] Oper.semAt_some

theorem any_next {α : Type} {p : α → Bool} {l : List α} {k : Nat} (hk : k < l.length) : (l.take (k + 1)).any p = ((l.take k).any p || p l[k]) := by
  rw [List.take_succ_eq_append_getElem hk, List.any_append]
  simp
theorem psE_no {l : List UInt8} (h : psE l ≠ 0) : (psE l = 13 ∨ psE l = 25) ∧ psH l = noHD := by
  unfold psE at *
  cases hx : ps12 l with
  | some x =>
    rw [hx] at h
    split
    · refine ⟨.inl rfl, ?_⟩
      rename_i hh
      rw [(ps12_in hx).1] at hh
      cases hh
    · rename_i hh
      rw [if_neg hh] at h
      exact absurd rfl h
  | none =>
    refine ⟨?_, psH_none hx⟩
    split
    · exact .inl rfl
    · exact .inr rfl
set_option maxRecDepth 100000 in
set_option maxHeartbeats 8000000 in
theorem elfHolds_walk (a : Option Addr) (len cap : Nat) (l : List UInt8) (w : World) (hs : Sizes w) (hB : Byt w a len l) (hlc : len ≤ cap) (hcm : cap ≤ maxLen) :
    Calls Tryd.prog 4 #[.slice a len cap] w fun e w' => e = .returned (.bool true) ∧ Below w.heap.size w w' := by
  obtain rfl := hB.hlen
  have HS := hid (fun (W : World) (hb : Below w.heap.size w W) => hs.below hb)
  have HB := hid (fun (W : World) (hb : Below w.heap.size w W) => hB.below' hb)
  have HWK := hid (fun (W : World) (hb : Below w.heap.size w W) => works12_any W (hs.below hb))
  have HLC := hid hlc
  have hm : cap ≤ 9223372036854775807 := hcm
  clear hs hB
  by_cases hlg : 262144 < l.length
  · have d1 : decide ((262144 : Int) < (l.length : Int)) = true := by simp; omega
    have d1n : decide (262144 < l.length) = true := by simp; omega
    go_enter Tryd.func4, Tryd.ntmps4
    go_wp2_with fail
    refine (HWK.out w (Below.refl _ _)).mono ?_
    rintro e' w5 ⟨rfl, hb5⟩
    have HL5 := hid hb5
    clear hb5
    go_wp2_with fail
    go_ret
    exact ⟨rfl, HL5.out⟩
  have d1 : decide ((262144 : Int) < (l.length : Int)) = false := by simp; omega
  have d1n : decide (262144 < l.length) = false := by simp; omega
  have HLG := hid (show l.length ≤ 262144 by omega)
  have HP := hid (parse12_any a cap l w (HS.out w (Below.refl _ _)) (HB.out w (Below.refl _ _)) (by omega) hlc)
  clear hlg
  go_enter Tryd.func4, Tryd.ntmps4
  go_wp2_with fail
  refine HP.out.mono ?_
  intro e2 w2 h2
  obtain ⟨⟨a2, c2, rfl, hS2⟩, hb2⟩ := (show ParseP _ _ _ _ from h2)
  obtain ⟨W3, hW3⟩ : ∃ W3, W3 = w2.alloc (.cells #[.int .u16 (psH l).typ, .int .u64 (psH l).entry, .int .u64 (psH l).phoff, .slice a2 (psH l).sg.length c2] 26) := ⟨_, rfl⟩
  have HR3 := hid (show Row W3 w2.heap.size 26 [.int .u16 (psH l).typ, .int .u64 (psH l).entry, .int .u64 (psH l).phoff, .slice a2 (psH l).sg.length c2] by rw [hW3]; exact Row.new _ _ _)
  have HS3 := hid (show Sgs W3 a2 (psH l).sg.length (psH l).sg by rw [hW3]; exact hS2.below' (bal _))
  have HB3 := hid (show Below w.heap.size w W3 by rw [hW3]; exact hb2.alloc hb2.size _)
  have HW3 := hid hW3
  have HB2 := hid hb2
  clear h2 hS2 hb2 hW3
  by_cases he : psE l = 0
  rotate_left
  · obtain ⟨hec, hen⟩ := psE_no he
    rw [hen] at HR3 HS3 HW3 ⊢
    have HBA := hid (fun o => show Below w.heap.size w (w2.alloc o) from HB2.out.alloc HB2.out.size o)
    clear hen he
    rcases hec with h13 | h25
    · rw [h13]
      clear h13
      go_wp2_with fail
      refine (HWK.out _ (HBA.out _)).mono ?_
      rintro e' w7 ⟨rfl, hb7⟩
      have HL7 := hid ((HBA.out _).trans (hb7.mono (HBA.out _).size))
      clear hb7
      go_wp2_with fail
      go_ret
      exact ⟨rfl, HL7.out⟩
    · rw [h25]
      clear h25
      go_wp2_with fail
      refine (HWK.out _ (HBA.out _)).mono ?_
      rintro e' w7 ⟨rfl, hb7⟩
      have HL7 := hid ((HBA.out _).trans (hb7.mono (HBA.out _).size))
      clear hb7
      go_wp2_with fail
      go_ret
      exact ⟨rfl, HL7.out⟩
  obtain ⟨x, hx⟩ := psE_zero he
  obtain ⟨hLH, hL0, hent, htyp, hen0, hen1, hsok⟩ := ps12_loads hx
  obtain ⟨_, hs8⟩ := ps12_len hx
  have e3 : psH l = x := by unfold psH; rw [hx]; rfl
  rw [e3] at HR3 HS3 HW3 ⊢
  rw [he]
  have HS8 := hid hs8
  have HLK := hid (fun W (hS : Sgs W a2 x.sg.length x.sg) => loads12_any x.typ x.entry x.phoff a2 c2 x.sg W hS (by omega))
  have HSP := hid (fun W (hS : Sgs W a2 x.sg.length x.sg) => spanG_any x.typ x.entry x.phoff a2 c2 x.sg W hS (by omega) hsok)
  have hspan := hLH.span hL0 (finOf_le _).2
  have HLL := hid (show (lds x.sg).length ≤ 8 from Nat.le_trans (lds_len _) hs8)
  rw [hspan] at HSP
  unfold entB at hent
  generalize lds x.sg = L at *
  have hzO := hLH.ok _ (List.getElem_mem (show L.length - 1 < L.length by omega))
  have hfO := hLH.ok _ (List.getElem_mem hL0)
  have hfin := finOf_le x.typ
  obtain ⟨lo, hlo⟩ : ∃ lo, lo = dn L[0].addr := ⟨_, rfl⟩
  obtain ⟨hi, hhi⟩ : ∃ hi, hi = upI (L[L.length - 1].addr + L[L.length - 1].msz) := ⟨_, rfl⟩
  rw [← hlo, ← hhi] at HSP
  have hloM : lo % 4096 = 0 := by rw [hlo]; unfold dn; omega
  have hhiM : hi % 4096 = 0 := by rw [hhi]; unfold upI dn; omega
  have hlo0 : 0 ≤ lo := by rw [hlo]; unfold dn; omega
  have hhi0 : 0 ≤ hi := by rw [hhi]; unfold upI dn; omega
  have hloF : lo ≤ L[0].addr := by rw [hlo]; unfold dn; omega
  have hhiF : hi ≤ finOf x.typ ∧ finOf x.typ % 4096 = 0 := by
    have : finOf x.typ % 4096 = 0 := by unfold finOf; split <;> rfl
    refine ⟨?_, this⟩
    rw [hhi]; unfold upI dn; omega
  have HLAST := hid (show ∀ s, L[L.length - 1]? = some s → (s.addr + s.msz - 1) / 4096 * 4096 < hi from fun s h => by
    rw [List.getElem?_eq_getElem (by omega)] at h
    cases h
    rw [hhi]; unfold upI dn; omega)
  have m1 : ((hi == 0) = (hi == 0)) := rfl
  have t1 : decide (140737488355328 < hi) = false := by simp; omega
  have t2 : (x.typ == 3) = true → decide (4294967296 < hi) = false := fun h => by
    have h3 : x.typ = 3 := by simpa using h
    have : finOf x.typ = 4294967296 := by rw [h3]; rfl
    simp; omega
  have HHI := hid (show 0 ≤ hi ∧ hi ≤ 140737488355328 by omega)
  have HENT := hid hent
  have HTYP := hid htyp
  have HLH := hid hLH
  have HEN := hid (And.intro hen0 hen1)
  have t3 : decide (L[0].addr < lo) = false := by simp; omega
  have HL0 := hid hL0
  have lz : ((L.length : Int) == 0) = false := by rw [beq_eq_false_iff_ne]; omega
  have lzn : (L.length == 0) = false := by rw [beq_eq_false_iff_ne]; omega
  have T2 := hid t2
  clear hx hLH hent htyp hen0 hen1 hsok hs8 e3 he hspan hzO hfO hfin hlo hhi hhiF m1 t2
  go_wp2_with fail
  rw [← HW3.out]
  have y0 := HR3.out.cell' 0
  have y1 := HR3.out.cell' 1
  have y2 := HR3.out.cell' 2
  have y3 := HR3.out.cell' 3
  go_wp2_with fail
  refine (HLK.out _ HS3.out).mono ?_
  rintro e' w4 ⟨v, rfl, ho, hb4⟩
  obtain ⟨a4, c4, rfl, hs4, _⟩ := ownG_open ho
  have HB4 := hid (HB3.out.trans (hb4.mono HB3.out.size))
  have HR4 := hid (HR3.out.below hb4 HR3.out.lt)
  have HS4 := hid (HS3.out.below' hb4)
  have HT4 := hid hs4
  clear ho hb4 hs4 y0 y1 y2 y3
  have y0 := HR4.out.cell' 0
  have y1 := HR4.out.cell' 1
  have y2 := HR4.out.cell' 2
  have y3 := HR4.out.cell' 3
  go_wp2_with fail
  refine (HSP.out _ HS4.out).mono ?_
  rintro e' w5 ⟨rfl, hb5⟩
  have HB5 := hid (HB4.out.trans (hb5.mono HB4.out.size))
  have HR5 := hid (HR4.out.below hb5 HR4.out.lt)
  have HT5 := hid (HT4.out.below' hb5)
  clear hb5 y0 y1 y2 y3
  have y0 := HR5.out.cell' 0
  have y1 := HR5.out.cell' 1
  obtain ⟨b, off, rfl, z0, z1, z2, z3, z4, z5⟩ := HT5.out.cells hL0
  simp only [Nat.zero_mul, Nat.add_zero] at z0 z1 z2 z3 z4 z5
  have HF0 := hid (show L[0]? = some L[0] from List.getElem?_eq_getElem _)
  generalize L[0] = f0 at *
  have mm1 : (lo % 4096 != 0) = false := by simpa using hloM
  have mm2 : (hi % 4096 != 0) = false := by simpa using hhiM
  have HLOM := hid hloM
  have HHIM := hid hhiM
  clear hloM hhiM hL0
  obtain ⟨tB, htB⟩ : ∃ tB, (x.typ == 3) = tB := ⟨_, rfl⟩
  obtain ⟨nB, hnB⟩ : ∃ nB, (x.entry == 0) = nB := ⟨_, rfl⟩
  have HE0 := hid (show ((tB && nB) || L.any (inExec x.entry)) = true by
    have := HENT.out
    rw [← htB, ← hnB, ← this]
    congr 1
    rw [Bool.eq_iff_iff]
    simp
    omega)
  have HT2 := hid (show tB = true → decide (4294967296 < hi) = false from fun h => T2.out (by rw [htB, h]))
  clear T2
  cases tB
  · go_wp2_with fail
    go_loopw [8, 9, 10] (fun e la i wr => ∃ k : Nat, k ≤ L.length ∧ i = .int .i64 k ∧ (∃ la' : Int, la = .int .u64 la' ∧ 0 ≤ la' ∧ la' ≤ 140737488355328 ∧ ∀ s, 0 < k → L[k - 1]? = some s → la' = (s.addr + s.msz - 1) / 4096) ∧ e = .bool (false || (L.take k).any (inExec x.entry)) ∧ Below w5.heap.size w5 wr) (fun _ _ i _ => L.length - (intOf i).toNat)
    case atStart => exact ⟨0, Nat.zero_le _, rfl, ⟨0, rfl, by omega, by omega, fun s h => absurd h (Nat.lt_irrefl _)⟩, by simp, Below.refl _ _⟩
    case round =>
      obtain ⟨k, hk, rfl, ⟨la', rfl, hla0, hla1, hla⟩, rfl, hb⟩ := hrel
      have HB := hid hb
      have hll := HLL.out
      by_cases hlt : k < L.length
      · have d2 : decide ((k : Int) < (L.length : Int)) = true := by simp; omega
        have d2n : decide (k < L.length) = true := by simp; omega
        obtain ⟨b2, off2, e9, x0, x1, x2, x3, x4, x5⟩ := (HT5.out.below' hb).cells hlt
        cases e9
        have HRR := hid (HR5.out.below hb HR5.out.lt)
        have y0 := HRR.out.cell' 0
        have y1 := HRR.out.cell' 1
        have hbl := World.block_lt_of_cell? wr _ x0
        have hsl := World.block_lt_of_cell? wr _ y1
        have hok := HLH.out.ok _ (List.getElem_mem hlt)
        have HNX := hid (show 0 < k → ∃ s, L[k - 1]? = some s ∧ upI (s.addr + s.msz) ≤ L[k].addr ∧ 0 ≤ s.addr ∧ 0 < s.msz from fun hp => by
          obtain ⟨j, rfl⟩ : ∃ j, k = j + 1 := ⟨k - 1, by omega⟩
          have h1 := HLH.out.ok L[j] (List.getElem_mem (by omega))
          exact ⟨L[j], by rw [Nat.add_sub_cancel]; exact List.getElem?_eq_getElem (by omega), HLH.out.next j hlt, by omega, by omega⟩)
        have HANY := hid (any_next (p := inExec x.entry) hlt)
        have HSQ := hid (show L[k + 1 - 1]? = some L[k] from by rw [Nat.add_sub_cancel]; exact List.getElem?_eq_getElem hlt)
        have hfz := finOf_le x.typ
        generalize L[k] = s at *
        have r1 : (s.msz == 0) = false := by rw [beq_eq_false_iff_ne]; omega
        have r2 : decide (s.msz < s.fsz) = false := by simp; omega
        have ewl := IntWalk.u64_in (l.length : Int) ⟨by omega, by have := HLG.out; omega⟩
        have r3 : decide ((l.length : Int) < s.off) = false := by simp; omega
        have ewd := IntWalk.u64_in ((l.length : Int) - s.off) ⟨by omega, by have := HLG.out; omega⟩
        have r4 : decide ((l.length : Int) - s.off < s.fsz) = false := by simp; omega
        have r5 : (s.addr.tmod 4096 != s.off.tmod 4096) = false := by rw [Int.tmod_eq_emod_of_nonneg (by omega), Int.tmod_eq_emod_of_nonneg (by omega)]; simp; omega
        have ewe := IntWalk.u64_in (s.addr + s.msz) ⟨by omega, by omega⟩
        have ewf := IntWalk.u64_in (s.addr + s.msz - 1) ⟨by omega, by omega⟩
        have ewq := IntWalk.u64_in ((s.addr + s.msz - 1) / 4096) ⟨by omega, by omega⟩
        have ewr : IntKind.u64.wrap (s.addr.tdiv 4096) = s.addr / 4096 := by rw [Int.tdiv_eq_ediv_of_nonneg (by omega)]; exact IntWalk.u64_in (s.addr / 4096) ⟨by omega, by omega⟩
        have hnew0 : 0 ≤ (s.addr + s.msz - 1) / 4096 := by omega
        have hnew1 : (s.addr + s.msz - 1) / 4096 ≤ 140737488355328 := by omega
        have HBA := hid (fun o => HB.out.alloc HB.out.size o)
        have HAND := hid (and_one s.flags hok.1 (by omega))
        have hen := HEN.out
        have HRC := hid (show 0 < k → decide (s.addr / 4096 ≤ la') = false from fun hp => by
          obtain ⟨t, ht, h1, h2, h3⟩ := HNX.out hp
          have h4 := hla t hp ht
          simp
          unfold upI dn at h1
          omega)
        have hok2 := HRC.out
        have HIN := hid (show ∀ b1 b2 b3 : Bool, decide (s.flags % 2 = 1) = b1 → decide (s.addr ≤ x.entry) = b2 → decide (x.entry < s.addr + s.msz) = b3 → inExec x.entry s = (b1 && (b2 && b3)) from by
          rintro _ _ _ rfl rfl rfl
          unfold inExec
          rw [Bool.eq_iff_iff]
          simp
          omega)
        obtain ⟨eB, heB⟩ : ∃ eB, (false || (L.take k).any (inExec x.entry)) = eB := ⟨_, rfl⟩
        have HEB := hid (show ∀ b, (false || ((L.take k).any (inExec x.entry) || b)) = (eB || b) from fun b => by rw [← heB, Bool.or_assoc])
        rw [heB]
        by_cases hp : 0 < k
        rotate_left
        · have r0 : decide ((0 : Int) < (k : Int)) = false := by simp; omega
          have r0n : decide (0 < k) = false := by simp; omega
          clear hp
          cases eB
          · by_cases h1 : s.flags % 2 = 1
            rotate_left
            · have e1 := HAND.out
              rw [show s.flags % 2 = 0 by omega] at e1
              have HF := hid (show inExec x.entry s = false by rw [HIN.out _ _ _ (decide_eq_false h1) rfl rfl]; rfl)
              clear h1
              clear heB hok hfz hok2 hen hla
              go_wp2_with fail
              go_roundw
              case rel => exact ⟨k + 1, by omega, by go_num, ⟨_, rfl, hnew0, hnew1, fun s' _ h' => by rw [HSQ.out] at h'; cases h'; rfl⟩, by rw [HANY.out, HEB.out, HF.out]; rfl, HBA.out _⟩
              case measure => simp [intOf]; omega
            have e1 := HAND.out
            rw [h1] at e1
            by_cases h2 : s.addr ≤ x.entry
            rotate_left
            · have e2 : decide (s.addr ≤ x.entry) = false := by simp; omega
              have HF := hid (show inExec x.entry s = false by rw [HIN.out _ _ _ rfl (decide_eq_false h2) rfl]; simp)
              clear h1 h2
              clear heB hok hfz hok2 hen hla
              go_wp2_with fail
              go_roundw
              case rel => exact ⟨k + 1, by omega, by go_num, ⟨_, rfl, hnew0, hnew1, fun s' _ h' => by rw [HSQ.out] at h'; cases h'; rfl⟩, by rw [HANY.out, HEB.out, HF.out]; rfl, HBA.out _⟩
              case measure => simp [intOf]; omega
            have e2 : decide (s.addr ≤ x.entry) = true := by simp; omega
            by_cases h3 : x.entry < s.addr + s.msz
            · have e3 : decide (x.entry < s.addr + s.msz) = true := by simp; omega
              have HF := hid (show inExec x.entry s = true by rw [HIN.out _ _ _ (decide_eq_true h1) (decide_eq_true h2) (decide_eq_true h3)]; rfl)
              clear h1 h2 h3
              clear heB hok hfz hok2 hen hla
              go_wp2_with fail
              go_roundw
              case rel => exact ⟨k + 1, by omega, by go_num, ⟨_, rfl, hnew0, hnew1, fun s' _ h' => by rw [HSQ.out] at h'; cases h'; rfl⟩, by rw [HANY.out, HEB.out, HF.out]; rfl, HBA.out _⟩
              case measure => simp [intOf]; omega
            · have e3 : decide (x.entry < s.addr + s.msz) = false := by simp; omega
              have HF := hid (show inExec x.entry s = false by rw [HIN.out _ _ _ rfl rfl (decide_eq_false h3)]; simp)
              clear h1 h2 h3
              clear heB hok hfz hok2 hen hla
              go_wp2_with fail
              go_roundw
              case rel => exact ⟨k + 1, by omega, by go_num, ⟨_, rfl, hnew0, hnew1, fun s' _ h' => by rw [HSQ.out] at h'; cases h'; rfl⟩, by rw [HANY.out, HEB.out, HF.out]; rfl, HBA.out _⟩
              case measure => simp [intOf]; omega
          · have HF := hid (show True from trivial)
            clear heB hok hfz hok2 hen hla
            go_wp2_with fail
            go_roundw
            case rel => exact ⟨k + 1, by omega, by go_num, ⟨_, rfl, hnew0, hnew1, fun s' _ h' => by rw [HSQ.out] at h'; cases h'; rfl⟩, by rw [HANY.out, HEB.out, Bool.true_or], HBA.out _⟩
            case measure => simp [intOf]; omega
        have r0 : decide ((0 : Int) < (k : Int)) = true := by simp; omega
        have r0n : decide (0 < k) = true := by simp; omega
        have r6 := hok2 hp
        clear hp
        cases eB
        · by_cases h1 : s.flags % 2 = 1
          rotate_left
          · have e1 := HAND.out
            rw [show s.flags % 2 = 0 by omega] at e1
            have HF := hid (show inExec x.entry s = false by rw [HIN.out _ _ _ (decide_eq_false h1) rfl rfl]; rfl)
            clear h1
            clear heB hok hfz hok2 hen hla
            go_wp2_with fail
            go_roundw
            case rel => exact ⟨k + 1, by omega, by go_num, ⟨_, rfl, hnew0, hnew1, fun s' _ h' => by rw [HSQ.out] at h'; cases h'; rfl⟩, by rw [HANY.out, HEB.out, HF.out]; rfl, HBA.out _⟩
            case measure => simp [intOf]; omega
          have e1 := HAND.out
          rw [h1] at e1
          by_cases h2 : s.addr ≤ x.entry
          rotate_left
          · have e2 : decide (s.addr ≤ x.entry) = false := by simp; omega
            have HF := hid (show inExec x.entry s = false by rw [HIN.out _ _ _ rfl (decide_eq_false h2) rfl]; simp)
            clear h1 h2
            clear heB hok hfz hok2 hen hla
            go_wp2_with fail
            go_roundw
            case rel => exact ⟨k + 1, by omega, by go_num, ⟨_, rfl, hnew0, hnew1, fun s' _ h' => by rw [HSQ.out] at h'; cases h'; rfl⟩, by rw [HANY.out, HEB.out, HF.out]; rfl, HBA.out _⟩
            case measure => simp [intOf]; omega
          have e2 : decide (s.addr ≤ x.entry) = true := by simp; omega
          by_cases h3 : x.entry < s.addr + s.msz
          · have e3 : decide (x.entry < s.addr + s.msz) = true := by simp; omega
            have HF := hid (show inExec x.entry s = true by rw [HIN.out _ _ _ (decide_eq_true h1) (decide_eq_true h2) (decide_eq_true h3)]; rfl)
            clear h1 h2 h3
            clear heB hok hfz hok2 hen hla
            go_wp2_with fail
            go_roundw
            case rel => exact ⟨k + 1, by omega, by go_num, ⟨_, rfl, hnew0, hnew1, fun s' _ h' => by rw [HSQ.out] at h'; cases h'; rfl⟩, by rw [HANY.out, HEB.out, HF.out]; rfl, HBA.out _⟩
            case measure => simp [intOf]; omega
          · have e3 : decide (x.entry < s.addr + s.msz) = false := by simp; omega
            have HF := hid (show inExec x.entry s = false by rw [HIN.out _ _ _ rfl rfl (decide_eq_false h3)]; simp)
            clear h1 h2 h3
            clear heB hok hfz hok2 hen hla
            go_wp2_with fail
            go_roundw
            case rel => exact ⟨k + 1, by omega, by go_num, ⟨_, rfl, hnew0, hnew1, fun s' _ h' => by rw [HSQ.out] at h'; cases h'; rfl⟩, by rw [HANY.out, HEB.out, HF.out]; rfl, HBA.out _⟩
            case measure => simp [intOf]; omega
        · have HF := hid (show True from trivial)
          clear heB hok hfz hok2 hen hla
          go_wp2_with fail
          go_roundw
          case rel => exact ⟨k + 1, by omega, by go_num, ⟨_, rfl, hnew0, hnew1, fun s' _ h' => by rw [HSQ.out] at h'; cases h'; rfl⟩, by rw [HANY.out, HEB.out, Bool.true_or], HBA.out _⟩
          case measure => simp [intOf]; omega
      · have d2 : decide ((k : Int) < (L.length : Int)) = false := by simp; omega
        have d2n : decide (k < L.length) = false := by simp; omega
        obtain rfl : k = L.length := by omega
        have HLE := hid (show la' * 4096 < hi from by
          have h0 := HL0.out
          have h1 := hla L[L.length - 1] h0 (List.getElem?_eq_getElem _)
          rw [h1]
          exact HLAST.out _ (List.getElem?_eq_getElem _))
        have hent : (false || (L.take L.length).any (inExec x.entry)) = true := by rw [List.take_length]; exact HE0.out
        rw [hent]
        have hle := HLE.out
        have hh := HHI.out
        have ewl := IntWalk.u64_in (la' * 4096) ⟨by omega, by omega⟩
        have r1 : decide (la' * 4096 < hi) = true := by simpa using hle
        have HB6 := hid (HB5.out.trans (hb.mono HB5.out.size))
        clear hent hle hla hb
        go_wp2_with fail
        refine (HWK.out _ HB6.out).mono ?_
        rintro e' w7 ⟨rfl, hb7⟩
        have HL7 := hid (HB6.out.trans (hb7.mono HB6.out.size))
        clear hb7
        go_wp2_with fail
        go_ret
        exact ⟨rfl, HL7.out⟩
  · have t2 := HT2.out rfl
    go_wp2_with fail
    go_loopw [8, 9, 10] (fun e la i wr => ∃ k : Nat, k ≤ L.length ∧ i = .int .i64 k ∧ (∃ la' : Int, la = .int .u64 la' ∧ 0 ≤ la' ∧ la' ≤ 140737488355328 ∧ ∀ s, 0 < k → L[k - 1]? = some s → la' = (s.addr + s.msz - 1) / 4096) ∧ e = .bool (nB || (L.take k).any (inExec x.entry)) ∧ Below w5.heap.size w5 wr) (fun _ _ i _ => L.length - (intOf i).toNat)
    case atStart => exact ⟨0, Nat.zero_le _, rfl, ⟨0, rfl, by omega, by omega, fun s h => absurd h (Nat.lt_irrefl _)⟩, by simp, Below.refl _ _⟩
    case round =>
      obtain ⟨k, hk, rfl, ⟨la', rfl, hla0, hla1, hla⟩, rfl, hb⟩ := hrel
      have HB := hid hb
      have hll := HLL.out
      by_cases hlt : k < L.length
      · have d2 : decide ((k : Int) < (L.length : Int)) = true := by simp; omega
        have d2n : decide (k < L.length) = true := by simp; omega
        obtain ⟨b2, off2, e9, x0, x1, x2, x3, x4, x5⟩ := (HT5.out.below' hb).cells hlt
        cases e9
        have HRR := hid (HR5.out.below hb HR5.out.lt)
        have y0 := HRR.out.cell' 0
        have y1 := HRR.out.cell' 1
        have hbl := World.block_lt_of_cell? wr _ x0
        have hsl := World.block_lt_of_cell? wr _ y1
        have hok := HLH.out.ok _ (List.getElem_mem hlt)
        have HNX := hid (show 0 < k → ∃ s, L[k - 1]? = some s ∧ upI (s.addr + s.msz) ≤ L[k].addr ∧ 0 ≤ s.addr ∧ 0 < s.msz from fun hp => by
          obtain ⟨j, rfl⟩ : ∃ j, k = j + 1 := ⟨k - 1, by omega⟩
          have h1 := HLH.out.ok L[j] (List.getElem_mem (by omega))
          exact ⟨L[j], by rw [Nat.add_sub_cancel]; exact List.getElem?_eq_getElem (by omega), HLH.out.next j hlt, by omega, by omega⟩)
        have HANY := hid (any_next (p := inExec x.entry) hlt)
        have HSQ := hid (show L[k + 1 - 1]? = some L[k] from by rw [Nat.add_sub_cancel]; exact List.getElem?_eq_getElem hlt)
        have hfz := finOf_le x.typ
        generalize L[k] = s at *
        have r1 : (s.msz == 0) = false := by rw [beq_eq_false_iff_ne]; omega
        have r2 : decide (s.msz < s.fsz) = false := by simp; omega
        have ewl := IntWalk.u64_in (l.length : Int) ⟨by omega, by have := HLG.out; omega⟩
        have r3 : decide ((l.length : Int) < s.off) = false := by simp; omega
        have ewd := IntWalk.u64_in ((l.length : Int) - s.off) ⟨by omega, by have := HLG.out; omega⟩
        have r4 : decide ((l.length : Int) - s.off < s.fsz) = false := by simp; omega
        have r5 : (s.addr.tmod 4096 != s.off.tmod 4096) = false := by rw [Int.tmod_eq_emod_of_nonneg (by omega), Int.tmod_eq_emod_of_nonneg (by omega)]; simp; omega
        have ewe := IntWalk.u64_in (s.addr + s.msz) ⟨by omega, by omega⟩
        have ewf := IntWalk.u64_in (s.addr + s.msz - 1) ⟨by omega, by omega⟩
        have ewq := IntWalk.u64_in ((s.addr + s.msz - 1) / 4096) ⟨by omega, by omega⟩
        have ewr : IntKind.u64.wrap (s.addr.tdiv 4096) = s.addr / 4096 := by rw [Int.tdiv_eq_ediv_of_nonneg (by omega)]; exact IntWalk.u64_in (s.addr / 4096) ⟨by omega, by omega⟩
        have hnew0 : 0 ≤ (s.addr + s.msz - 1) / 4096 := by omega
        have hnew1 : (s.addr + s.msz - 1) / 4096 ≤ 140737488355328 := by omega
        have HBA := hid (fun o => HB.out.alloc HB.out.size o)
        have HAND := hid (and_one s.flags hok.1 (by omega))
        have hen := HEN.out
        have HRC := hid (show 0 < k → decide (s.addr / 4096 ≤ la') = false from fun hp => by
          obtain ⟨t, ht, h1, h2, h3⟩ := HNX.out hp
          have h4 := hla t hp ht
          simp
          unfold upI dn at h1
          omega)
        have hok2 := HRC.out
        have HIN := hid (show ∀ b1 b2 b3 : Bool, decide (s.flags % 2 = 1) = b1 → decide (s.addr ≤ x.entry) = b2 → decide (x.entry < s.addr + s.msz) = b3 → inExec x.entry s = (b1 && (b2 && b3)) from by
          rintro _ _ _ rfl rfl rfl
          unfold inExec
          rw [Bool.eq_iff_iff]
          simp
          omega)
        obtain ⟨eB, heB⟩ : ∃ eB, (nB || (L.take k).any (inExec x.entry)) = eB := ⟨_, rfl⟩
        have HEB := hid (show ∀ b, (nB || ((L.take k).any (inExec x.entry) || b)) = (eB || b) from fun b => by rw [← heB, Bool.or_assoc])
        rw [heB]
        by_cases hp : 0 < k
        rotate_left
        · have r0 : decide ((0 : Int) < (k : Int)) = false := by simp; omega
          have r0n : decide (0 < k) = false := by simp; omega
          clear hp
          cases eB
          · by_cases h1 : s.flags % 2 = 1
            rotate_left
            · have e1 := HAND.out
              rw [show s.flags % 2 = 0 by omega] at e1
              have HF := hid (show inExec x.entry s = false by rw [HIN.out _ _ _ (decide_eq_false h1) rfl rfl]; rfl)
              clear h1
              clear heB hok hfz hok2 hen hla
              go_wp2_with fail
              go_roundw
              case rel => exact ⟨k + 1, by omega, by go_num, ⟨_, rfl, hnew0, hnew1, fun s' _ h' => by rw [HSQ.out] at h'; cases h'; rfl⟩, by rw [HANY.out, HEB.out, HF.out]; rfl, HBA.out _⟩
              case measure => simp [intOf]; omega
            have e1 := HAND.out
            rw [h1] at e1
            by_cases h2 : s.addr ≤ x.entry
            rotate_left
            · have e2 : decide (s.addr ≤ x.entry) = false := by simp; omega
              have HF := hid (show inExec x.entry s = false by rw [HIN.out _ _ _ rfl (decide_eq_false h2) rfl]; simp)
              clear h1 h2
              clear heB hok hfz hok2 hen hla
              go_wp2_with fail
              go_roundw
              case rel => exact ⟨k + 1, by omega, by go_num, ⟨_, rfl, hnew0, hnew1, fun s' _ h' => by rw [HSQ.out] at h'; cases h'; rfl⟩, by rw [HANY.out, HEB.out, HF.out]; rfl, HBA.out _⟩
              case measure => simp [intOf]; omega
            have e2 : decide (s.addr ≤ x.entry) = true := by simp; omega
            by_cases h3 : x.entry < s.addr + s.msz
            · have e3 : decide (x.entry < s.addr + s.msz) = true := by simp; omega
              have HF := hid (show inExec x.entry s = true by rw [HIN.out _ _ _ (decide_eq_true h1) (decide_eq_true h2) (decide_eq_true h3)]; rfl)
              clear h1 h2 h3
              clear heB hok hfz hok2 hen hla
              go_wp2_with fail
              go_roundw
              case rel => exact ⟨k + 1, by omega, by go_num, ⟨_, rfl, hnew0, hnew1, fun s' _ h' => by rw [HSQ.out] at h'; cases h'; rfl⟩, by rw [HANY.out, HEB.out, HF.out]; rfl, HBA.out _⟩
              case measure => simp [intOf]; omega
            · have e3 : decide (x.entry < s.addr + s.msz) = false := by simp; omega
              have HF := hid (show inExec x.entry s = false by rw [HIN.out _ _ _ rfl rfl (decide_eq_false h3)]; simp)
              clear h1 h2 h3
              clear heB hok hfz hok2 hen hla
              go_wp2_with fail
              go_roundw
              case rel => exact ⟨k + 1, by omega, by go_num, ⟨_, rfl, hnew0, hnew1, fun s' _ h' => by rw [HSQ.out] at h'; cases h'; rfl⟩, by rw [HANY.out, HEB.out, HF.out]; rfl, HBA.out _⟩
              case measure => simp [intOf]; omega
          · have HF := hid (show True from trivial)
            clear heB hok hfz hok2 hen hla
            go_wp2_with fail
            go_roundw
            case rel => exact ⟨k + 1, by omega, by go_num, ⟨_, rfl, hnew0, hnew1, fun s' _ h' => by rw [HSQ.out] at h'; cases h'; rfl⟩, by rw [HANY.out, HEB.out, Bool.true_or], HBA.out _⟩
            case measure => simp [intOf]; omega
        have r0 : decide ((0 : Int) < (k : Int)) = true := by simp; omega
        have r0n : decide (0 < k) = true := by simp; omega
        have r6 := hok2 hp
        clear hp
        cases eB
        · by_cases h1 : s.flags % 2 = 1
          rotate_left
          · have e1 := HAND.out
            rw [show s.flags % 2 = 0 by omega] at e1
            have HF := hid (show inExec x.entry s = false by rw [HIN.out _ _ _ (decide_eq_false h1) rfl rfl]; rfl)
            clear h1
            clear heB hok hfz hok2 hen hla
            go_wp2_with fail
            go_roundw
            case rel => exact ⟨k + 1, by omega, by go_num, ⟨_, rfl, hnew0, hnew1, fun s' _ h' => by rw [HSQ.out] at h'; cases h'; rfl⟩, by rw [HANY.out, HEB.out, HF.out]; rfl, HBA.out _⟩
            case measure => simp [intOf]; omega
          have e1 := HAND.out
          rw [h1] at e1
          by_cases h2 : s.addr ≤ x.entry
          rotate_left
          · have e2 : decide (s.addr ≤ x.entry) = false := by simp; omega
            have HF := hid (show inExec x.entry s = false by rw [HIN.out _ _ _ rfl (decide_eq_false h2) rfl]; simp)
            clear h1 h2
            clear heB hok hfz hok2 hen hla
            go_wp2_with fail
            go_roundw
            case rel => exact ⟨k + 1, by omega, by go_num, ⟨_, rfl, hnew0, hnew1, fun s' _ h' => by rw [HSQ.out] at h'; cases h'; rfl⟩, by rw [HANY.out, HEB.out, HF.out]; rfl, HBA.out _⟩
            case measure => simp [intOf]; omega
          have e2 : decide (s.addr ≤ x.entry) = true := by simp; omega
          by_cases h3 : x.entry < s.addr + s.msz
          · have e3 : decide (x.entry < s.addr + s.msz) = true := by simp; omega
            have HF := hid (show inExec x.entry s = true by rw [HIN.out _ _ _ (decide_eq_true h1) (decide_eq_true h2) (decide_eq_true h3)]; rfl)
            clear h1 h2 h3
            clear heB hok hfz hok2 hen hla
            go_wp2_with fail
            go_roundw
            case rel => exact ⟨k + 1, by omega, by go_num, ⟨_, rfl, hnew0, hnew1, fun s' _ h' => by rw [HSQ.out] at h'; cases h'; rfl⟩, by rw [HANY.out, HEB.out, HF.out]; rfl, HBA.out _⟩
            case measure => simp [intOf]; omega
          · have e3 : decide (x.entry < s.addr + s.msz) = false := by simp; omega
            have HF := hid (show inExec x.entry s = false by rw [HIN.out _ _ _ rfl rfl (decide_eq_false h3)]; simp)
            clear h1 h2 h3
            clear heB hok hfz hok2 hen hla
            go_wp2_with fail
            go_roundw
            case rel => exact ⟨k + 1, by omega, by go_num, ⟨_, rfl, hnew0, hnew1, fun s' _ h' => by rw [HSQ.out] at h'; cases h'; rfl⟩, by rw [HANY.out, HEB.out, HF.out]; rfl, HBA.out _⟩
            case measure => simp [intOf]; omega
        · have HF := hid (show True from trivial)
          clear heB hok hfz hok2 hen hla
          go_wp2_with fail
          go_roundw
          case rel => exact ⟨k + 1, by omega, by go_num, ⟨_, rfl, hnew0, hnew1, fun s' _ h' => by rw [HSQ.out] at h'; cases h'; rfl⟩, by rw [HANY.out, HEB.out, Bool.true_or], HBA.out _⟩
          case measure => simp [intOf]; omega
      · have d2 : decide ((k : Int) < (L.length : Int)) = false := by simp; omega
        have d2n : decide (k < L.length) = false := by simp; omega
        obtain rfl : k = L.length := by omega
        have HLE := hid (show la' * 4096 < hi from by
          have h0 := HL0.out
          have h1 := hla L[L.length - 1] h0 (List.getElem?_eq_getElem _)
          rw [h1]
          exact HLAST.out _ (List.getElem?_eq_getElem _))
        have hent : (nB || (L.take L.length).any (inExec x.entry)) = true := by rw [List.take_length]; exact HE0.out
        rw [hent]
        have hle := HLE.out
        have hh := HHI.out
        have ewl := IntWalk.u64_in (la' * 4096) ⟨by omega, by omega⟩
        have r1 : decide (la' * 4096 < hi) = true := by simpa using hle
        have HB6 := hid (HB5.out.trans (hb.mono HB5.out.size))
        clear hent hle hla hb
        go_wp2_with fail
        refine (HWK.out _ HB6.out).mono ?_
        rintro e' w7 ⟨rfl, hb7⟩
        have HL7 := hid (HB6.out.trans (hb7.mono HB6.out.size))
        clear hb7
        go_wp2_with fail
        go_ret
        exact ⟨rfl, HL7.out⟩
end Go.Proofs.YtaaohcpiideaaaaDoor
