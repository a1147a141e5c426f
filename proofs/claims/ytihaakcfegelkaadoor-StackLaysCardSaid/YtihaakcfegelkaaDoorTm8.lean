
/- hostellaw20.StackLays. -/
import Derived.Test.YtihaakcfegelkaaDoorTp4
import Derived.Test.YtihaakcfegelkaaDoorTm3
import Derived.Test.YtihaakcfegelkaaDoorKS
import Derived.Test.YtihaakcfegelkaaDoorZA0
namespace Go.Proofs.YtihaakcfegelkaaDoor
open Go.RowKit Go.Sort
attribute [local go_sem] Oper.semAt_some

theorem lists_two {w : World} {base A : Nat} {v0 v1 : Value} {l0 l1 : List UInt8} (row : Row w A 29 [v0, v1]) (o0 : OwnBy w base v0 l0) (o1 : OwnBy w base v1 l1)
    (d01 : v0.ownBlock = none ∨ v0.ownBlock ≠ v1.ownBlock) (d10 : v1.ownBlock = none ∨ v1.ownBlock ≠ v0.ownBlock) (n0 : v0.ownBlock ≠ some A) (n1 : v1.ownBlock ≠ some A) (s0 : l0.length ≤ 1048576) (s1 : l1.length ≤ 1048576) : Ap.Lists w base A [v0, v1] [l0, l1] := by
  refine ⟨rfl, row, ?_, ?_, ?_, ?_⟩
  · intro j h
    match j, h with
    | 0, _ => exact o0
    | 1, _ => exact o1
  · intro i j hi hj hij
    match i, j, hi, hj, hij with
    | 0, 1, _, _, _ => exact d01
    | 1, 0, _, _, _ => exact d10
    | 0, 0, _, _, h => exact absurd rfl h
    | 1, 1, _, _, h => exact absurd rfl h
  · intro j h
    match j, h with
    | 0, _ => exact n0
    | 1, _ => exact n1
  · intro j h
    match j, h with
    | 0, _ => exact s0
    | 1, _ => exact s1
theorem layE_z {argv env : List BL} {aux : List (Nat × Nat)} {path : BL} (h : layE argv env aux path = 0) : chkS argv env aux path = 0 ∧ ¬ 16384 < allN argv env aux path := by
  by_cases h1 : chkS argv env aux path = 0
  · refine ⟨h1, fun h2 => ?_⟩
    rw [layE_big h1 h2] at h; exact absurd h (by decide)
  · rw [layE_chk h1] at h; exact absurd h h1
def CpAPost (w : World) (l : List (Nat × Nat)) (e : Ending) (w' : World) : Prop := ∃ v, e = .returned v ∧ OwnA w' w.heap.size v l ∧ Below w.heap.size w w'

set_option maxRecDepth 100000 in
set_option maxHeartbeats 4000000 in
theorem copied20_any (a : Option Addr) (cap : Nat) (l : List (Nat × Nat)) (w : World) (hB : Axs w a l.length l) (hl : l.length ≤ 100000) (hn : a = none → cap = 0) :
    Calls Tryd.prog 9 #[.slice a l.length cap] w (CpAPost w l) := by
  have HB := hid hB
  have HNL := hid hn
  have HNa := hid (show (0 + l.length) * 16 ≤ 140737488355328 by omega)
  have HNb := hid (show 0 + l.length ≤ maxLen by unfold maxLen; omega)
  have HO := hid (show w.ownsRow w.heap.size 43 2 (.slice none 0 0) 0 ([] : List (List Value)).flatten from World.ownsRow_nil _ _ _ _)
  clear hB hn
  go_enter Tryd.func9, Tryd.ntmps9
  go_wp2_with (at_builtin; go_must (refine wpList_apK Tryd.underlying23 infoAx rfl (by decide) rfl _ _ rfl w.heap.size (.slice none 0 0) 0 [] (l.map axC) rfl a l.length cap rfl HO.out HB.out (axC_one l) HNL.out HNa.out HNb.out (Nat.le_refl _) ?_; intro v' w9 hown hgrow hb9; have HO9 := hid hown; have HB9 := hid hb9; clear hown hgrow hb9))
  go_ret
  exact ⟨v', rfl, own_ext HO9.out (by omega) (by simp), HB9.out⟩
/-- What Lay told, as a list of the call's own. -/
theorem lP_own {w w' : World} {argv env : List BL} {aux : List (Nat × Nat)} {path : BL} {e : Ending} (h : LPost w argv env aux path e w') :
    ∃ v L sp, e = .returned (.tuple #[v, .int .u64 sp, .int .i64 (layE argv env aux path)]) ∧ OwnBy w' w.heap.size v L ∧ L.length ≤ 16384 ∧ L = (if layE argv env aux path = 0 then layB argv env aux path else []) ∧ sp = (if layE argv env aux path = 0 then ((top20 - allN argv env aux path : Nat) : Int) else 0) ∧ Below w.heap.size w w' ∧ ∃ a c, v = .slice a L.length c := by
  rcases h with ⟨hne, rfl, hb⟩ | ⟨h0, g, rfl, hg, hr, hb⟩
  · exact ⟨.slice none 0 0, [], 0, rfl, ownBy_nil _ _, by simp, by rw [if_neg hne], by rw [if_neg hne], hb, none, 0, rfl⟩
  · have hl := layB_len argv env aux path
    have hN := (layE_z h0).2
    refine ⟨_, layB argv env aux path, _, by rw [h0], ?_, by omega, by rw [if_pos h0], by rw [if_pos h0], hb, _, _, by rw [hl]⟩
    have := hr.ownBy hg (by omega)
    rwa [hl] at this
theorem rlP_byt {w w' : World} {argv env : List BL} {aux : List (Nat × Nat)} {path : BL} {e : Ending} (h : RLPost w argv env aux path e w') :
    ∃ a c L sp, e = .returned (.tuple #[.slice a L.length c, .int .u64 sp, .int .i64 (layE argv env aux path)]) ∧ Byt w' a L.length L ∧ L.length ≤ 16384 ∧ L = (if layE argv env aux path = 0 then layB argv env aux path else []) ∧ sp = (if layE argv env aux path = 0 then ((top20 - allN argv env aux path : Nat) : Int) else 0) ∧ Below w.heap.size w w' := by
  rcases h with ⟨hne, rfl, hb⟩ | ⟨h0, a, c, rfl, hr, hb⟩
  · exact ⟨none, 0, [], 0, rfl, Byt.nil _ _, by simp, by rw [if_neg hne], by rw [if_neg hne], hb⟩
  · have hl := layB_len argv env aux path
    have hN := (layE_z h0).2
    exact ⟨a, c, layB argv env aux path, _, by rw [h0, hl], by rw [hl]; exact hr, by omega, by rw [if_pos h0], by rw [if_pos h0], hb⟩

set_option maxRecDepth 100000 in
set_option maxHeartbeats 8000000 in
theorem stackLays_walk (x : BG) (w : World) (hs : Sizes w) (hx : BGok w x) :
    Calls Tryd.prog 3 #[bgV x] w fun e w' => e = .returned (.bool true) ∧ Below w.heap.size w w' := by
  obtain ⟨W0, hW0⟩ : ∃ W0, W0 = w.alloc (.cells (bgC x).toArray 25) := ⟨_, rfl⟩
  have hb0 : Below w.heap.size w W0 := by rw [hW0]; exact bal _
  have hr0 : Row W0 w.heap.size 25 (bgC x) := by rw [hW0]; exact Row.new w 25 (bgC x)
  have HWK := hid (fun (w' : World) (hb : Below w.heap.size w w') => works20_any w' (hs.below hb))
  have HLG := hid (begunLarge_any x W0 (hx.below hb0))
  have HB0 := hid hb0
  have HR0 := hid hr0
  have HX := hid hx
  have HS := hid hs
  obtain ⟨c0, c1, c2, c3⟩ := hr0.bg
  have hl := hr0.lt
  clear hs hx hb0 hr0
  go_enter Tryd.func3, Tryd.ntmps3
  go_wp2_with fail
  rw [← hW0]
  clear hW0
  go_wp2_with fail
  refine (HLG.out).mono ?_
  rintro e' w1 ⟨b, rfl, hb1, hlim⟩
  have HB1 := hid (bthen HB0.out hb1)
  have HR1 := hid (HR0.out.below hb1 HR0.out.lt)
  have HLIM := hid hlim
  obtain ⟨c0, c1, c2, c3⟩ := HR1.out.bg
  have hl := HR1.out.lt
  clear hb1 hlim HLG
  cases b
  · have HLM := hid (HLIM.out rfl)
    clear HLIM
    go_wp2_with fail
    refine (copyTexts_any x.aa x.argv.length x.ac x.argv w1 (HX.out.argv.below' HB1.out) (by have := HLM.out.1; omega)).mono ?_
    rintro e' w2 ⟨v1, rfl, ho1, hb2⟩
    obtain ⟨a1, k1, rfl, hc1, _⟩ := own_cel ho1
    have HB2 := hid (bthen HB1.out hb2)
    have HR2 := hid (HR1.out.below hb2 HR1.out.lt)
    have HC1 := hid hc1
    obtain ⟨c0, c1, c2, c3⟩ := HR2.out.bg
    have hl := HR2.out.lt
    clear hb2 ho1 hc1
    go_wp2_with fail
    refine (copyTexts_any x.ea x.env.length x.ec x.env w2 (HX.out.env.below' HB2.out) (by have := HLM.out.2.1; omega)).mono ?_
    rintro e' w3 ⟨v2, rfl, ho2, hb3⟩
    obtain ⟨a2, k2, rfl, hc2, _⟩ := own_cel ho2
    have HB3 := hid (bthen HB2.out hb3)
    have HR3 := hid (HR2.out.below hb3 HR2.out.lt)
    have HC1b := hid (HC1.out.below' hb3)
    have HC2 := hid hc2
    obtain ⟨c0, c1, c2, c3⟩ := HR3.out.bg
    have hl := HR3.out.lt
    clear hb3 ho2 hc2 HC1
    go_wp2_with fail
    refine (copied20_any x.xa x.xc x.aux w3 (Rk.below' HX.out.aux HB3.out) (by have := HLM.out.2.2.1; omega) HX.out.xni).mono ?_
    rintro e' w4 ⟨v3, rfl, ho3, hb4⟩
    obtain ⟨a3, k3, rfl, hc3, _⟩ := axs_own ho3
    have HB4 := hid (bthen HB3.out hb4)
    have HR4 := hid (HR3.out.below hb4 HR3.out.lt)
    have HA4 := hid (HC1b.out.below' hb4)
    have HE4 := hid (HC2.out.below' hb4)
    have HX4 := hid hc3
    obtain ⟨c0, c1, c2, c3⟩ := HR4.out.bg
    have hl := HR4.out.lt
    clear hb4 ho3 hc3 HC1b HC2
    have HLY := hid (fun (w' : World) (hb : Below w4.heap.size w4 w') => lay20_any a1 a2 a3 k1 k2 k3 x.argv x.env x.aux x.path w' (HS.out.below (bthen HB4.out hb)) (HA4.out.below' hb) (HE4.out.below' hb) (Rk.below' HX4.out hb) (by have := HLM.out.1; omega) (by have := HLM.out.2.1; omega) (by have := HLM.out.2.2.1; omega) HX.out.at' HX.out.et)
    have HRL := hid (fun (w' : World) (hb : Below w4.heap.size w4 w') => rlay20_any x.aa x.ea x.xa x.ac x.ec x.xc x.argv x.env x.aux x.path w' (HX.out.argv.below' (bthen HB4.out hb)) (HX.out.env.below' (bthen HB4.out hb)) (Rk.below' HX.out.aux (bthen HB4.out hb)) (by have := HLM.out.1; omega) (by have := HLM.out.2.1; omega) (by have := HLM.out.2.2.1; omega) HX.out.at' HX.out.et HX.out.pn HX.out.u64)
    go_wp2_with fail
    refine (HLY.out w4 (Below.refl _ _)).mono ?_
    intro e' w5 hp
    obtain ⟨va, La, spa, rfl, hoa, hla, hLa, hsa, hb5, ga, ka, rfl⟩ := lP_own hp
    have HB5 := hid hb5
    have HR5 := hid (HR4.out.below hb5 HR4.out.lt)
    have HOA5 := hid hoa
    have HLA := hid (And.intro hLa hsa)
    obtain ⟨c0, c1, c2, c3⟩ := HR5.out.bg
    have hl := HR5.out.lt
    clear hp hoa hb5 hLa hsa
    go_wp2_with fail
    refine (HRL.out w5 HB5.out).mono ?_
    intro e' w6 hp
    obtain ⟨gb, kb, Lb, spb, rfl, hby, hlb, hLb, hsb, hb6⟩ := rlP_byt hp
    have HB6 := hid (bthen HB5.out hb6)
    have HR6 := hid (HR5.out.below hb6 HR5.out.lt)
    have HOA6 := hid (own_below HOA5.out hb6)
    have hLL : Lb = La := by rw [HLA.out.1, hLb]
    have hSS : spb = spa := by rw [HLA.out.2, hsb]
    have HZ6 := hid hb6.size
    subst hLL hSS
    obtain ⟨gz, kz, hez, hcz, _⟩ := own_cel HOA6.out
    simp only [Value.slice.injEq, true_and] at hez
    obtain ⟨rfl, rfl⟩ := hez
    have HBA := hid (show Byt w6 ga Lb.length Lb from ⟨rfl, fun i hi => by
      obtain ⟨b9, o9, e9, h9⟩ := hcz.cell i (by simpa using hi)
      exact ⟨b9, o9, e9, by rw [h9]; simp [B8]⟩⟩)
    have HBB := hid hby
    have HLEN := hid hlb
    obtain ⟨c0, c1, c2, c3⟩ := HR6.out.bg
    have hl := HR6.out.lt
    clear hp hby hb6 hcz hla hlb hLb hsb HLA HOA5
    generalize layE x.argv x.env x.aux x.path = er at *
    have ee : (er != er) = false := by simp
    have e2 : (spb != spb) = false := by simp
    go_wp2_with fail
    have HTr := hid (show ∀ l : List UInt8, Ap.eqB l l = true from fun l => by unfold Ap.eqB; simp)
    have HTt := hid (show ∀ l : List BL, eqT l l = true from fun l => by unfold eqT; simp)
    refine (Ap.eqBytes_any ga gb Lb.length ka Lb.length kb Lb Lb w6 HBA.out HBB.out (by have := HLEN.out; omega) (by have := HLEN.out; omega)).mono ?_
    rintro e' w7 ⟨rfl, n7, hw7⟩
    rw [HTr.out]
    have hb7 : Below w6.heap.size w6 w7 := by rw [hw7]; exact bdN (Below.refl _ _) _
    have HB7 := hid (bthen HB6.out hb7)
    have HR7 := hid (HR6.out.below hb7 HR6.out.lt)
    have HOA7 := hid (own_below HOA6.out hb7)
    obtain ⟨c0, c1, c2, c3⟩ := HR7.out.bg
    have hl := HR7.out.lt
    clear hw7 hb7 HOA6 HBA HBB
    go_wp2_with fail
    refine (eqTexts_any a1 x.aa x.argv.length k1 x.argv.length x.ac x.argv x.argv w7 (HA4.out.below' HB7.out) (HX.out.argv.below' (bthen HB4.out HB7.out)) (by have := HLM.out.1; omega) (by have := HLM.out.1; omega)).mono ?_
    rintro e' w8 ⟨rfl, n8, hw8⟩
    rw [HTt.out]
    have hb8 : Below w7.heap.size w7 w8 := by rw [hw8]; exact bdN (Below.refl _ _) _
    have HB8 := hid (bthen HB7.out hb8)
    have HR8 := hid (HR7.out.below hb8 HR7.out.lt)
    have HOA8 := hid (own_below HOA7.out hb8)
    obtain ⟨c0, c1, c2, c3⟩ := HR8.out.bg
    have hl := HR8.out.lt
    clear hw8 hb8 HOA7
    go_wp2_with fail
    refine (eqTexts_any a2 x.ea x.env.length k2 x.env.length x.ec x.env x.env w8 (HE4.out.below' HB8.out) (HX.out.env.below' (bthen HB4.out HB8.out)) (by have := HLM.out.2.1; omega) (by have := HLM.out.2.1; omega)).mono ?_
    rintro e' w9 ⟨rfl, n9, hw9⟩
    rw [HTt.out]
    have hb9 : Below w8.heap.size w8 w9 := by rw [hw9]; exact bdN (Below.refl _ _) _
    have HB9 := hid (bthen HB8.out hb9)
    have HR9 := hid (HR8.out.below hb9 HR8.out.lt)
    have HOA9 := hid (own_below HOA8.out hb9)
    obtain ⟨c0, c1, c2, c3⟩ := HR9.out.bg
    have hl := HR9.out.lt
    clear hw9 hb9 HOA8
    go_wp2_with fail
    refine (eq20_same a3 x.xa x.aux.length k3 x.xc x.aux w9 (Rk.below' HX4.out HB9.out) (Rk.below' HX.out.aux (bthen HB4.out HB9.out)) (by have := HLM.out.2.2.1; omega)).mono ?_
    rintro e' wa ⟨rfl, hba⟩
    have HBa := hid (bthen HB9.out hba)
    have HRa := hid (HR9.out.below hba HR9.out.lt)
    have HOAa := hid (own_below HOA9.out hba)
    obtain ⟨c0, c1, c2, c3⟩ := HRa.out.bg
    have hl := HRa.out.lt
    clear hba HOA9
    go_wp2_with fail
    refine (HLY.out wa HBa.out).mono ?_
    intro e' wb hp
    obtain ⟨vc, Lc, spc, rfl, hoc, hlc, hLc, hsc, hbb, gc, kc, rfl⟩ := lP_own hp
    have HBb := hid (bthen HBa.out hbb)
    have HOAb := hid (own_below HOAa.out hbb)
    have HLA := hid (own_block HOAa.out)
    have HOCb := hid hoc
    have HLC := hid (own_block hoc)
    have HLENc := hid hlc
    have HZb := hid hbb.size
    have HZa := hid HBa.out.size
    clear hp hoc hbb hLc hsc hlc c0 c1 c2 c3 hl HOAa
    go_wp2_with fail
    have hL : Ap.Lists (wb.alloc (.cells #[.slice ga Lb.length ka, .slice gc Lc.length kc] 29)) w4.heap.size wb.heap.size [.slice ga Lb.length ka, .slice gc Lc.length kc] [Lb, Lc] := by
      have hA := HLA.out
      have hC := HLC.out
      have h1 := HZa.out
      have h2 := HZb.out
      refine lists_two (Row.new wb 29 [.slice ga Lb.length ka, .slice gc Lc.length kc]) (own_below HOAb.out (bal _)) (own_below (own_from HOCb.out h1) (bal _)) ?_ ?_ ?_ ?_ (by have := HLEN.out; omega) (by have := HLENc.out; omega)
      · rcases hA with h | ⟨p, h, h3, h4⟩
        · exact .inl h
        · right; rcases hC with k | ⟨q, k, k3, k4⟩
          · rw [h, k]; simp
          · rw [h, k]; intro e; cases e; omega
      · rcases hC with h | ⟨p, h, h3, h4⟩
        · exact .inl h
        · right; rcases hA with k | ⟨q, k, k3, k4⟩
          · rw [h, k]; simp
          · rw [h, k]; intro e; cases e; omega
      · rcases hA with h | ⟨p, h, h3, h4⟩
        · rw [h]; simp
        · rw [h]; intro e; cases e; omega
      · rcases hC with h | ⟨p, h, h3, h4⟩
        · rw [h]; simp
        · rw [h]; intro e; cases e; omega
    have hK := HBb.out.alloc HBb.out.size (.cells #[.slice ga Lb.length ka, .slice gc Lc.length kc] 29)
    refine (Ap.apart_any 2 wb.heap.size w4.heap.size _ _ _ hL rfl (by omega) HBb.out.size (by have := HBb.out.size; simp only [World.size_alloc]; omega)).mono ?_
    rintro e' wc ⟨rfl, hbc⟩
    have HBc := hid (bthen HB4.out (hK.trans hbc))
    clear hL hK hbc
    go_wp2_with fail
    refine (HWK.out wc HBc.out).mono ?_
    rintro e' wd ⟨rfl, hbd⟩
    have HBd := hid (bthen HBc.out hbd)
    clear hbd
    go_wp2_with fail
    go_ret
    exact ⟨rfl, HBd.out⟩
  · go_wp2_with fail
    refine (HWK.out w1 HB1.out).mono ?_
    rintro e' w2 ⟨rfl, hb⟩
    have HB := hid (bthen HB1.out hb)
    clear hb
    go_wp2_with fail
    go_ret
    exact ⟨rfl, HB.out⟩
end Go.Proofs.YtihaakcfegelkaaDoor
