/- SymbolsLooks: the walk. -/
import Derived.Test.YtblefgkhikfmhaaSy3
namespace Go.Proofs.Ytblefgkhikfmhaa
open Go.RowKit Go.Sort Go.Shelf
attribute [local go_sem] Oper.semAt_some

theorem Cps.objs {w0 w : World} {base : Nat} {xs ys : List OB} {v : Value} (h : Cps w0 base xs xs.length v ys w) : ∃ a c, v = .slice a xs.length c ∧ Objs w a xs.length ys := by
  obtain ⟨a, c, e, ho, _⟩ := ownO_objs h.len h.own (fun y hy => (h.full y hy).syms)
  exact ⟨a, c, e, ho⟩
theorem Cps.os {w0 w : World} {base : Nat} {xs ys : List OB} {v : Value} (h : Cps w0 base xs xs.length v ys w) : osL ys = osL xs := by
  unfold osL
  apply List.ext_getElem
  · simp [h.len]
  · intro i h1 h2
    rw [List.getElem_map, List.getElem_map]
    have t := h.twin i (by simpa using h1) (by simpa using h2)
    unfold toOS
    rw [t.base, t.sy]
theorem Cps.sns {w0 w : World} {base : Nat} {xs ys : List OB} {v : Value} (h : Cps w0 base xs xs.length v ys w) : ∀ y ∈ ys, y.sn ≤ 4000000000000 := fun y hy => by have := (h.full y hy).sn; omega
theorem Cps.nms {w0 w : World} {base : Nat} {xs ys : List OB} {v : Value} (h : Cps w0 base xs xs.length v ys w) (hn : ∀ x ∈ xs, ∀ s ∈ x.sy, s.name.length ≤ 140737488351232) : ∀ y ∈ ys, ∀ s ∈ y.sy, s.name.length ≤ 140737488351232 := by
  intro y hy s hs
  obtain ⟨i, hi, rfl⟩ := List.getElem_of_mem hy
  have hl := h.len
  rw [(h.twin i hi (by omega)).sy] at hs
  exact hn _ (List.getElem_mem (by omega)) s hs

set_option maxRecDepth 100000 in
set_option maxHeartbeats 4000000 in
theorem symbolsLooks_walk (a : Option Addr) (len cap : Nat) (xs : List OB) (nm : BL) (w : World) (hO : Objs w a len xs) (hF : ∀ x ∈ xs, Full w x) (hl : len ≤ 1000000000000) (hnm : ∀ x ∈ xs, ∀ s ∈ x.sy, s.name.length ≤ 140737488351232) (hn : nm.length ≤ 140737488351232) :
    Calls Try.prog 3 #[.slice a len cap, .string (ba nm)] w fun e' w' => e' = .returned (.bool true) ∧ Below w.heap.size w w' := by
  obtain rfl := hO.hlen
  have HO := hid hO
  have HF := hid hF
  have HSN := hid (fun (x : OB) (hx : x ∈ xs) => show x.sn ≤ 4000000000000 by have := (hF x hx).sn; omega)
  have HNM := hid hnm
  have HL2 := hid (show xs.length ≤ 1000000000000 by omega)
  have hz : (ba nm).size ≤ 140737488351232 := by rw [ba_size]; exact hn
  have HZ := hid hz
  have hL := hid (large_any a xs.length cap xs w hO HL2.out HSN.out hnm)
  clear hO hF hnm hn
  go_enter Try.func3, Try.ntmps3
  go_wp2_with fail
  refine (hL.out).mono ?_
  rintro e' w' ⟨b, rfl, rfl, hb⟩
  clear hL
  cases b
  · obtain ⟨hb1, hb2⟩ := hb rfl
    have HD := hid (defs_len rfl hb1 hb2 (fun x hx => HO.out.sn hx))
    have H8 := hid (show xs.length ≤ 800000000000 by omega)
    clear hb hb2
    by_cases hbig : 65536 < (ba nm).size
    · have d1 : decide ((65536 : Int) < ((ba nm).size : Int)) = true := by simp; omega
      go_wp2_with fail
      refine (works_any _).mono ?_
      rintro e' w1 ⟨rfl, hb⟩
      have HB := hid hb
      clear hb
      go_wp2_with fail
      go_ret
      exact ⟨rfl, HB.out⟩
    · have d1 : decide ((65536 : Int) < ((ba nm).size : Int)) = false := by simp; omega
      clear hbig
      go_wp2_with fail
      refine (copied_any a xs.length cap xs _ HO.out HF.out H8.out).mono ?_
      rintro e' w1 ⟨v, ys, rfl, hC⟩
      obtain ⟨a1, c1, rfl, hO1⟩ := hC.objs
      have HC := hid hC
      have HO1 := hid hO1
      have HOS := hid hC.os
      have HB1 := hid hC.below
      have HYN := hid hC.sns
      have HYM := hid (hC.nms HNM.out)
      clear hC hO1
      go_wp2_with fail
      refine (lookup_any a1 xs.length c1 ys (ba nm) _ HO1.out HL2.out HYN.out).mono ?_
      rintro e' w2 ⟨rfl, hb⟩
      have HB2 := hid hb
      have HT2 := hid (bthen HB1.out hb)
      clear hb
      rw [HOS.out, show (ba nm).data.toList = nm from rfl]
      have HLE := hid (show lookL (osL xs) nm = lookL (osL xs) nm from rfl)
      have key : ∀ o : Option DF, ∃ i j c, lkV o = .tuple #[.int .i64 i, .int .i64 j, .bool c] := by
        intro o
        cases o with
        | none => exact ⟨_, _, _, rfl⟩
        | some d => exact ⟨_, _, _, rfl⟩
      obtain ⟨ri, rj, rc, hk⟩ := key (lookL (osL xs) nm)
      have HK := hid hk
      clear key
      rw [hk]
      clear hk
      go_wp2_with fail
      refine (rlookup_any a xs.length cap xs nm _ (HO.out.below' HT2.out) HL2.out HSN.out).mono ?_
      rintro e' w3 ⟨rfl, hb⟩
      have HB3 := hid (HB2.out.trans (hb.mono HB2.out.size))
      have HT3 := hid (bthen HB1.out HB3.out)
      clear hb
      rw [HK.out]
      go_wp2_with fail
      refine (all_any a1 xs.length c1 ys _ (HO1.out.below' HB3.out) HL2.out HYN.out (by rw [HOS.out]; exact HD.out) HYM.out).mono ?_
      rintro e' w4 ⟨v4, rfl, hown, hb⟩
      have HS34 := hid hb.size
      have HB4 := hid (HB3.out.trans (hb.mono HB3.out.size))
      have HT4 := hid (bthen HB1.out HB4.out)
      have HS14 := hid (show w1.heap.size ≤ w3.heap.size from HB3.out.size)
      rw [HOS.out] at hown
      obtain ⟨a4, c4, rfl, hc4, _⟩ := own_cel hown
      have HW4 := hid hown
      have HC4 := hid hc4
      have HNL := hid (show (allL (osL xs)).length ≤ 1000000000 from Nat.le_trans (allOf_len _) HD.out)
      have HEQ := hid (show eqT (allL (osL xs)) (allL (osL xs)) = true by simp [eqT])
      clear hown hb hc4
      go_wp2_with fail
      refine (rall_any a xs.length cap xs _ (HO.out.below' HT4.out) HL2.out HSN.out HD.out).mono ?_
      rintro e' w5 ⟨v5, rfl, hown, hb⟩
      have HB5 := hid (HB4.out.trans (hb.mono HB4.out.size))
      have HT5 := hid (bthen HB1.out HB5.out)
      have HB45 := hid hb
      have HC45 := hid (HC4.out.below' hb)
      have HW45 := hid (own_below HW4.out hb)
      obtain ⟨a5, c5, rfl, hc5, _⟩ := own_cel hown
      have HC5 := hid hc5
      clear hown hb hc5
      have HALL := hid (show allL (osL xs) = allL (osL xs) from rfl)
      go_wp2_with fail
      refine (eqTexts_any _ _ _ _ _ _ (allL (osL xs)) (allL (osL xs)) _ HC45.out HC5.out (by have := HNL.out; omega) (by have := HNL.out; omega)).mono ?_
      rintro e' w6 ⟨rfl, n6, rfl⟩
      rw [HEQ.out]
      have HB6 := hid (bdN HB5.out n6)
      have HW6 := hid (own_below HW45.out (drewN_below w5 n6))
      have HLB := hid (show w3.heap.size ≤ (w5.drewN n6).heap.size by have h1 := HS34.out; have h2 := HB45.out.size; have h3 : (w5.drewN n6).heap.size = w5.heap.size := rfl; rw [h3]; omega)
      have HNL2 := hid (show (allL (osL xs)).length ≤ 8000000000000 by have := HNL.out; omega)
      generalize hW6 : w5.drewN n6 = W6 at *
      generalize hns : allL (osL xs) = ns at *
      have HNS := hid hns
      clear hns hW6 HALL HLE
      clear HC4 HC45 HW45 HW4
      go_wp2_with (at_builtin; go_must (refine wpList_appS rfl _ _ rfl w3.heap.size (.slice a4 ns.length c4) ns (ByteArray.mk #[33]) rfl rfl HW6.out HNL2.out HLB.out ?_; intro v7 w7 hown hgrow hb7 hz7 _; obtain ⟨G, c7, rfl, hc71, hc72, hc73, hc74⟩ := own_open hown (Nat.succ_pos _); have HW7 := hid hown; have HB7 := hid hb7; have HG := hid hc72; clear hown hgrow hb7 hz7))
      have hnl := HNL.out
      go_loopw [13] (fun i wr => ∃ k : Nat, k ≤ ns.length + 1 ∧ i = .int .i64 k ∧ (∃ cs, wr.ownsRow w3.heap.size 9 1 (.slice (some ⟨G, 0, none⟩) (ns.length + 1) c7) (ns.length + 1) cs) ∧ Below w3.heap.size W6 wr) (fun i _ => ns.length + 1 - (intOf i).toNat)
      case atStart => exact ⟨0, Nat.zero_le _, rfl, ⟨_, HW7.out⟩, HB7.out⟩
      case round =>
        clear HW7
        rename World => wr
        obtain ⟨k, hk, rfl, ⟨cs, ho⟩, hb⟩ := hrel
        have HOW := hid ho
        have HBR := hid hb
        clear hb
        by_cases hlt : k < ns.length + 1
        · have d2 : decide ((k : Int) < (ns.length : Int) + 1) = true := by simp; omega
          have hcl : cs.length = ns.length + 1 := by have := ho.1; simpa using this
          have hx0 := ho.cellAt k (by omega)
          obtain ⟨old, hx⟩ : ∃ old, wr.cell? ⟨G, k, none⟩ = some old := ⟨_, hx0.trans (List.getElem?_eq_getElem (by omega))⟩
          clear hx0
          have hf := ho.frozenAt k
          have hlb := World.block_lt_of_cell? wr _ hx
          dsimp only at hlb
          clear ho hcl
          go_wp2_with fail
          go_roundw
          case rel => exact ⟨k + 1, by omega, by go_num, ⟨_, (HOW.out.stored k _).1⟩, bset HBR.out HG.out _⟩
          case measure => simp [intOf]; omega
        · have d2 : decide ((k : Int) < (ns.length : Int) + 1) = false := by simp; omega
          have HB8 := hid (show Below w1.heap.size w1 wr from HB6.out.trans (HBR.out.mono HS14.out))
          have HT8 := hid (bthen HB1.out HB8.out)
          clear ho
          go_wp2_with fail
          refine (same_any a a1 xs.length cap c1 xs ys _ (HO.out.below' HT8.out) (HO1.out.below' HB8.out) (fun x hx => (HF.out x hx).below' HT8.out) (fun y hy => (HC.out.full y hy).below' HB8.out) HC.out.twin H8.out).mono ?_
          rintro e' w9 ⟨rfl, hb⟩
          have HB9 := hid (HB8.out.trans (hb.mono HB8.out.size))
          have HT9 := hid (bthen HB1.out HB9.out)
          clear hb
          go_wp2_with fail
          refine (all_any a1 xs.length c1 ys _ (HO1.out.below' HB9.out) HL2.out HYN.out (by rw [HOS.out]; exact HD.out) HYM.out).mono ?_
          rintro e' w10 ⟨v10, rfl, hown, hb⟩
          have HB10 := hid (HB9.out.trans (hb.mono HB9.out.size))
          have HT10 := hid (bthen HB1.out HB10.out)
          rw [HOS.out, HNS.out] at hown
          obtain ⟨a10, c10, rfl, hc10, _⟩ := own_cel hown
          have HC10 := hid hc10
          clear hown hb hc10
          go_wp2_with fail
          refine (rall_any a xs.length cap xs _ (HO.out.below' HT10.out) HL2.out HSN.out HD.out).mono ?_
          rintro e' w11 ⟨v11, rfl, hown, hb⟩
          have HB11 := hid (HB10.out.trans (hb.mono HB10.out.size))
          have HT11 := hid (bthen HB1.out HB11.out)
          have HC1011 := hid (HC10.out.below' hb)
          rw [HNS.out] at hown
          obtain ⟨a11, c11, rfl, hc11, _⟩ := own_cel hown
          have HC11 := hid hc11
          clear hown hb hc11
          go_wp2_with fail
          refine (eqTexts_any _ _ _ _ _ _ ns ns _ HC1011.out HC11.out (by have := HNL.out; omega) (by have := HNL.out; omega)).mono ?_
          rintro e' w12 ⟨rfl, n12, rfl⟩
          rw [HEQ.out]
          go_wp2_with fail
          refine (works_any _).mono ?_
          rintro e' w13 ⟨rfl, hb⟩
          have HT13 := hid (bthenN HT11.out hb)
          clear hb
          go_wp2_with fail
          go_ret
          exact ⟨rfl, HT13.out⟩
  · clear hb
    go_wp2_with fail
    refine (works_any _).mono ?_
    rintro e' w1 ⟨rfl, hb⟩
    have HB := hid hb
    clear hb
    go_wp2_with fail
    go_ret
    exact ⟨rfl, HB.out⟩
end Go.Proofs.Ytblefgkhikfmhaa
