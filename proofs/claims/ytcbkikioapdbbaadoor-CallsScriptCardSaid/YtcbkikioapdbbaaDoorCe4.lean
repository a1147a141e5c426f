
/- CallsForms: its walk. -/
import Derived.Test.YtcbkikioapdbbaaDoorKC5
namespace Go.Proofs.YtcbkikioapdbbaaDoor
open Go.RowKit Go.Sort
attribute [local go_sem] Oper.semAt_some

theorem own_older {W W' : World} {base base2 e e' k k' n n' : Nat} {v v' : Value} {xs xs' : List Value} (h : W.ownsRow base e k v n xs) (h' : W'.ownsRow base2 e' k' v' n' xs') (hle : W.heap.size ≤ base2) :
    (v.ownBlock = none ∨ v.ownBlock ≠ v'.ownBlock) ∧ (v'.ownBlock = none ∨ v'.ownBlock ≠ v.ownBlock) := by
  rcases h.2 with ⟨rfl, _⟩ | ⟨g, cap, cur, rfl, _, hg, _⟩
  · refine ⟨.inl rfl, ?_⟩
    rcases h'.2 with ⟨rfl, _⟩ | ⟨g2, cap2, cur2, rfl, _⟩
    · exact .inl rfl
    · exact .inr (fun e => by cases e)
  · rcases h'.2 with ⟨rfl, _⟩ | ⟨g2, cap2, cur2, rfl, hb2, _⟩
    · exact ⟨.inr (fun e => by cases e), .inl rfl⟩
    · have h1 := (Array.getElem?_eq_some_iff.1 hg).1
      have : g ≠ g2 := by omega
      exact ⟨.inr (fun e => this (Option.some.inj e)), .inr (fun e => this (Option.some.inj e).symm)⟩
theorem fldB_len2 {x : CG} {f : Nat} (h : OkF x f) (hp : x.path.length ≤ 131072) : (fldB x f).length ≤ 131074 := by
  have hls : ∀ {ds : List BL}, (ds.length ≤ 32 ∧ ∀ s ∈ ds, s.length ≤ 256) → (lsB ds).length ≤ 131074 := fun {ds} h => by
    unfold lsB
    have h1 := txsB_len (M := 256) ds h.2
    have h2 : ds.length * (256 + 2) ≤ 32 * 258 := Nat.mul_le_mul_right _ h.1
    rw [List.length_append, leB_len]
    omega
  unfold fldB
  split
  · rw [txB_len]; omega
  · split
    · rename_i h6; exact hls (h.argv h6)
    · split
      · rename_i h7; exact hls (h.env h7)
      · split
        · rename_i h8; have := h.bytes h8; rw [txB_len]; omega
        · rw [leB_len]; omega
theorem flds_len2 {x : CG} : ∀ l : List Nat, (∀ f ∈ l, (fldB x f).length ≤ 131074) → (fldsB x l).length ≤ l.length * 131074
  | [], _ => by simp [fldsB]
  | f :: l, h => by
    have h1 := flds_len2 l (fun y hy => h y (List.mem_cons_of_mem _ hy))
    have h2 := h f (List.mem_cons_self ..)
    have e : fldsB x (f :: l) = fldB x f ++ fldsB x l := by simp [fldsB]
    rw [e, List.length_append, List.length_cons, Nat.add_mul]
    omega
/-- What Form answers: bytes, or none. -/
def frmB (x : CG) : BL := if chkC x = 0 then formB x else []
theorem frmB_len {x : CG} (hp : x.path.length ≤ 131072) : (frmB x).length ≤ 655371 := by
  unfold frmB
  split
  · rename_i h
    unfold formB
    have h1 := flds_len2 (x := x) (fsL x.kind) (fun f hf => fldB_len2 (okF_of h hf) hp)
    have h2 : (fsL x.kind).length * 131074 ≤ 5 * 131074 := Nat.mul_le_mul_right _ (fsL_le5 _)
    rw [List.length_append]
    simp only [List.length_cons, List.length_nil]
    omega
  · exact Nat.zero_le _
def FormQ (x : CG) (w : World) (e : Ending) (w' : World) : Prop := ∃ a c, e = .returned (.tuple #[.slice a (frmB x).length c, .int .i64 (chkC x)]) ∧ OwnBy w' w.heap.size (.slice a (frmB x).length c) (frmB x) ∧ Below w.heap.size w w'
theorem FormP.q {x : CG} {w w' : World} {e : Ending} (h : FormP x w e w') : FormQ x w e w' := by
  obtain ⟨hb, hif⟩ := h
  by_cases hc : chkC x = 0
  · rw [if_pos hc] at hif
    obtain ⟨v, rfl, ho⟩ := hif
    obtain ⟨a, c, rfl⟩ := own_hd2 ho
    have e : frmB x = formB x := if_pos hc
    exact ⟨a, c, by rw [e, hc], by rw [e]; exact ho, hb⟩
  · rw [if_neg hc] at hif
    have e : frmB x = [] := if_neg hc
    exact ⟨none, 0, by rw [e]; exact hif, by rw [e]; exact World.ownsRow_nil _ _ _ _, hb⟩
theorem form_eq {x y : CG} (h : pcOf y = pcOf x) : frmB y = frmB x := by
  unfold frmB
  rw [chkC_eq h]
  obtain ⟨h1, h2, h3, h4, h5, h6, h7, h8, h9, h10⟩ := (pc_iff y x).1 h
  have e : ∀ f, fldB y f = fldB x f := fun f => by
    unfold fldB
    rw [h7, h8, h9, h10]
    have : nmN y f = nmN x f := by unfold nmN; split <;> assumption
    rw [this]
  unfold formB fldsB
  rw [h1, show fldB y = fldB x from funext e]

set_option maxRecDepth 100000 in
set_option maxHeartbeats 4000000 in
theorem callsForms_walk (x : CG) (w : World) (hs : Sizes w) (hx : CGok w x) :
    Calls Tryd.prog 4 #[cgV x] w fun e w' => e = .returned (.bool true) ∧ Below w.heap.size w w' := by
  have hbox := box_cg x
  obtain ⟨w1, hw1⟩ : ∃ w1, w1 = w.alloc (.cells (cgC x).toArray 26) := ⟨_, rfl⟩
  have HC := hid (show CBx w w1 w.heap.size x by rw [hw1]; exact CBx.new hx)
  have HW := hid hw1
  have HX := hid hx
  have HS := hid (fun (w' : World) (hb : Below w.heap.size w w') => hs.below hb)
  have HG := hid (fun (w' : World) (hb : Below w.heap.size w w') => Nat.lt_of_lt_of_le hs.lt hb.size)
  clear hw1 hx hs
  obtain ⟨c0, c1, c2, c3, c4, c5, c6, c7, c8, c9⟩ := HC.out.cells
  go_enter Tryd.func4, Tryd.ntmps4
  go_wp2_with fail
  rw [← HW.out]
  refine (largeC_any x w1 HC.out.ok).mono ?_
  rintro e' w2 ⟨bl, rfl, hbl, hb2⟩
  have HC2 := hid (HC.out.below hb2)
  clear c0 c1 c2 c3 c4 c5 c6 c7 c8 c9 hb2
  cases bl
  · have HN := hid (hbl rfl)
    clear hbl
    obtain ⟨c0, c1, c2, c3, c4, c5, c6, c7, c8, c9⟩ := HC2.out.cells
    go_wp2_with fail
    refine (copyC_any x w2 HC2.out.ok HN.out).mono ?_
    rintro e' w3 ⟨⟨y, rfl, hpy, hoy, hoB⟩, hb3⟩
    have HC3 := hid (HC2.out.below hb3)
    obtain ⟨w4, hw4⟩ : ∃ w4, w4 = w3.alloc (.cells (cgC y).toArray 26) := ⟨_, rfl⟩
    have HC4 := hid (show CBx w w4 w.heap.size x by rw [hw4]; exact HC3.out.below (bal _))
    have HY4 := hid (show CBx w w4 w3.heap.size y by rw [hw4]; exact ⟨Row.new w3 _ _, hoy.below (bal _), HC3.out.low.alloc HC3.out.low.size _⟩)
    have HOB4 := hid (show w4.ownsRow w.heap.size 5 1 (.slice y.ya y.bytes.length y.yc) y.bytes.length (y.bytes.map B8) from by
      rw [hw4]
      exact own_from (own_below hoB (bal _)) HC2.out.low.size)
    have HS34 := hid (show w3.heap.size + 1 = w4.heap.size by rw [hw4, World.size_alloc])
    have HW4 := hid hw4
    have HPY := hid hpy
    have HPL := hid (show x.path.length ≤ 131072 from HN.out.pn)
    have HPL2 := hid (show y.path.length ≤ 131072 by rw [path_eq hpy]; exact HN.out.pn)
    clear c0 c1 c2 c3 c4 c5 c6 c7 c8 c9 hb3 hoy hpy hw4 hoB
    have HF1 := hid (show Calls Tryd.prog 16 #[cgV y] w4 (FormQ y w4) from (form25_any y w4 (HS.out w4 HY4.out.low) HY4.out.ok (Nat.le_trans HPL2.out (by decide)) (HG.out w4 HY4.out.low)).mono fun _ _ h => h.q)
    go_wp2_with fail
    rw [← HW4.out]
    refine HF1.out.mono ?_
    rintro e' w5 ⟨a5, n5, rfl, ho5, hb5⟩
    have HC5 := hid (HC4.out.below hb5)
    have HY5 := hid (HY4.out.below hb5)
    have HO5 := hid ho5
    have HS45 := hid hb5.size
    have HOB5 := hid (own_below HOB4.out hb5)
    clear hb5 ho5 HF1
    obtain ⟨c0, c1, c2, c3, c4, c5, c6, c7, c8, c9⟩ := HC5.out.cells
    have HF2 := hid (show Calls Tryd.prog 17 #[cgV x] w5 (FormQ x w5) from (rform25_any x w5 HC5.out.ok (Nat.le_trans HPL.out (by decide))).mono fun _ _ h => h.q)
    go_wp2_with fail
    refine HF2.out.mono ?_
    rintro e' w6 ⟨a6, n6, rfl, ho6, hb6⟩
    have HC6 := hid (HC5.out.below hb6)
    have HY6 := hid (HY5.out.below hb6)
    have HO56 := hid (own_below HO5.out hb6)
    have HO6 := hid ho6
    have HOB6 := hid (own_below HOB5.out hb6)
    have HS56 := hid hb6.size
    clear hb6 ho6 HF2 c0 c1 c2 c3 c4 c5 c6 c7 c8 c9
    rw [form_eq HPY.out] at HO56 ⊢
    rw [chkC_eq HPY.out]
    have HML := hid (frmB_len HPL.out)
    have hne : (chkC x != chkC x) = false := by simp
    have HEB := hid (show Calls Tryd.prog 18 #[.slice a5 (frmB x).length n5, .slice a6 (frmB x).length n6] w6 (fun e w' => e = .returned (.bool true) ∧ ∃ n, w' = w6.drewN n) from by
      obtain ⟨b1, m1, q1, k1, _⟩ := own_cel HO56.out
      obtain ⟨b2, m2, q2, k2, _⟩ := own_cel HO6.out
      cases q1; cases q2
      have h := eqBytes_any a5 a6 (frmB x).length n5 (frmB x).length n6 (frmB x) (frmB x) w6 (cel_byt k1) (cel_byt k2) (by have := HML.out; omega) (by have := HML.out; omega)
      rw [eqB_self] at h
      exact h)
    have HFN := hid (form_eq HPY.out)
    generalize frmB x = fb at *
    generalize chkC x = fr at *
    go_wp2_with fail
    refine HEB.out.mono ?_
    rintro e' w7 ⟨rfl, n7, rfl⟩
    have HC7 := hid (HC6.out.below (drewN_below w6 n7))
    have HY7 := hid (HY6.out.below (drewN_below w6 n7))
    have HO57 := hid (own_below HO56.out (drewN_below w6 n7))
    have HOB7 := hid (own_below HOB6.out (drewN_below w6 n7))
    obtain ⟨c0, c1, c2, c3, c4, c5, c6, c7, c8, c9⟩ := HC7.out.cells
    obtain ⟨y0, y1, y2, y3, y4, y5, y6, y7, y8, y9⟩ := HY7.out.cells
    go_wp2_with fail
    refine (same_eq (w6.drewN n7) HY7.out.ok HC7.out.ok HPY.out).mono ?_
    rintro e' w8 ⟨rfl, hb8⟩
    have HY8 := hid (HY7.out.below hb8)
    have HO58 := hid (own_below HO57.out hb8)
    have HOB8 := hid (own_below HOB7.out hb8)
    have HS8 := hid (show w5.heap.size ≤ w8.heap.size from Nat.le_trans HS56.out hb8.size)
    clear c0 c1 c2 c3 c4 c5 c6 c7 c8 c9 y0 y1 y2 y3 y4 y5 y6 y7 y8 y9 hb8 HEB
    obtain ⟨y0, y1, y2, y3, y4, y5, y6, y7, y8, y9⟩ := HY8.out.cells
    have HF3 := hid (show Calls Tryd.prog 16 #[cgV y] w8 (FormQ y w8) from (form25_any y w8 (HS.out w8 HY8.out.low) HY8.out.ok (Nat.le_trans HPL2.out (by decide)) (HG.out w8 HY8.out.low)).mono fun _ _ h => h.q)
    go_wp2_with fail
    refine HF3.out.mono ?_
    rintro e' w9 ⟨a9, n9, rfl, ho9, hb9⟩
    rw [HFN.out] at ho9 ⊢
    have HY9 := hid (HY8.out.below hb9)
    have HO59 := hid (own_below HO58.out hb9)
    have HOB9 := hid (own_below HOB8.out hb9)
    have HO9 := hid ho9
    have HS9 := hid hb9.size
    clear y0 y1 y2 y3 y4 y5 y6 y7 y8 y9 hb9 ho9 HF3
    have y9 := HY9.out.c9
    rw [HFN.out] at HO5
    have D12 := hid (own_older HO5.out HO9.out HS8.out)
    have D20 := hid (own_older HOB4.out HO5.out (Nat.le_refl _))
    have D21 := hid (own_older HOB4.out HO9.out (Nat.le_trans HS45.out HS8.out))
    have hL : Ap.Lists (w9.alloc (.cells #[.slice a5 fb.length n5, .slice a9 fb.length n9, .slice y.ya y.bytes.length y.yc] 24)) w.heap.size w9.heap.size [.slice a5 fb.length n5, .slice a9 fb.length n9, .slice y.ya y.bytes.length y.yc] [fb, fb, y.bytes] :=
      Ap.Lists.three (Row.new w9 24 [.slice a5 fb.length n5, .slice a9 fb.length n9, .slice y.ya y.bytes.length y.yc]) (own_from (HO59.out.alloc _) HY4.out.low.size) (own_from (HO9.out.alloc _) HY8.out.low.size) (HOB9.out.alloc _)
        D12.out.1 D20.out.2 D12.out.2 D21.out.2 D20.out.1 D21.out.1
        (own_ne HO59.out (.inr (Nat.le_refl _))).symm (own_ne HO9.out (.inr (Nat.le_refl _))).symm (own_ne HOB9.out (.inr (Nat.le_refl _))).symm (Nat.le_trans HML.out (by decide)) (Nat.le_trans HML.out (by decide)) (by
          have h1 : y.bytes = x.bytes := ((pc_iff y x).1 HPY.out).2.2.2.2.2.2.2.2.2
          rw [h1]
          exact Nat.le_trans HN.out.yn (by decide))
    have HAP := hid (Ap.apart_any 3 w9.heap.size w.heap.size _ _ _ hL rfl (by omega) HY9.out.low.size (by simp only [World.size_alloc]; have := HY9.out.low.size; omega))
    have HB9 := hid (HY9.out.low.alloc HY9.out.low.size (.cells #[.slice a5 fb.length n5, .slice a9 fb.length n9, .slice y.ya y.bytes.length y.yc] 24))
    clear hL
    go_wp2_with fail
    refine HAP.out.mono ?_
    rintro e' w10 ⟨rfl, hb10⟩
    have HB10 := hid (HB9.out.trans hb10)
    clear hb10
    go_wp2_with fail
    refine (works25_any w10 (HS.out w10 HB10.out) (HG.out w10 HB10.out)).mono ?_
    rintro e' w11 ⟨rfl, hb11⟩
    have HB11 := hid (HB10.out.trans (hb11.mono HB10.out.size))
    go_wp2_with fail
    go_ret
    exact ⟨rfl, HB11.out⟩
  · have HL := hid HC2.out.low
    have HWK := hid (works25_any w2 (HS.out w2 HL.out) (HG.out w2 HL.out))
    clear hbl
    go_wp2_with fail
    refine HWK.out.mono ?_
    rintro e' w5 ⟨rfl, hb5⟩
    have HL5 := hid (HL.out.trans (hb5.mono HL.out.size))
    go_wp2_with fail
    go_ret
    exact ⟨rfl, HL5.out⟩
end Go.Proofs.YtcbkikioapdbbaaDoor
