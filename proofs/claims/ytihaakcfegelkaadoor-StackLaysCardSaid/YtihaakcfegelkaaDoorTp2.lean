
/- hostelref20: (*Texts).put. -/
import Derived.Test.YtihaakcfegelkaaDoorTp1
namespace Go.Proofs.YtihaakcfegelkaaDoor
open Go.RowKit Go.Sort
attribute [local go_sem] Oper.semAt_some

/-- The texts that grow downwards. -/
structure TB (w : World) (t base : Nat) (S : BL) : Prop where
  has : ∃ g c, Row w t 55 [.slice (some ⟨g, 0, none⟩) S.length c, .slice none 0 0] ∧ OwnM w base 5 (.slice (some ⟨g, 0, none⟩) S.length c) S.length (S.map B8)
theorem TB.below {w w' : World} {t base B : Nat} {S : BL} (h : TB w t base S) (hb : Below B w w') (hB : w.heap.size ≤ B) : TB w' t base S := by
  obtain ⟨g, c, hr, ho⟩ := h.has
  exact ⟨g, c, hr.below hb (by have := hr.lt; omega), ho.below hb hB⟩
theorem OwnM.ne {w : World} {base n : Nat} {e : TypeId} {v : Value} {xs : List Value} (h : OwnM w base e v n xs) {b T : Nat} {cs : List Value} (hr : Row w b T cs) (hT : T ≠ e) : v.ownBlock ≠ some b := by
  obtain ⟨hl, g, cap, cur, f1, f2, rfl, hbg, hg, r⟩ := h
  intro e1
  simp only [Value.ownBlock, Option.some.injEq] at e1
  subst e1
  have := hr.heap
  rw [hg] at this
  simp at this
  exact hT this.2.1.symm
theorem TB.setOther {w : World} {t base : Nat} {S : BL} (h : TB w t base S) {b T : Nat} {cs : List Value} (hr : Row w b T cs) (h1 : T ≠ 55) (h2 : T ≠ 5) (o : Nat) (u : Value) : TB (w.setCell ⟨b, o, none⟩ u) t base S := by
  obtain ⟨g, c, hr2, ho⟩ := h.has
  exact ⟨g, c, hr2.other (by exact rows_ne2 hr2 hr (Ne.symm h1)) u, ho.setOther (ho.ne hr h2) u⟩
def TPutPost (w : World) (t base : Nat) (S : BL) (l : List BL) (e : Ending) (w' : World) : Prop :=
  ∃ G, e = .returned (.slice (some ⟨G, 0, none⟩) l.length l.length) ∧ w.heap.size ≤ G ∧ Row w' G 30 (u64s (atsL (top20 - (S.length + tbN l)) l)) ∧ TB w' t base (catZ l ++ S) ∧ X1 w w' t

set_option maxRecDepth 100000 in
set_option maxHeartbeats 4000000 in
theorem tput_any (t base : Nat) (S : BL) (a : Option Addr) (ac : Nat) (l : List BL) (w : World) (h : TB w t base S) (hA : Cel w a l.length (strs l)) (hs : ∀ s ∈ l, s.length ≤ 300) (hl : l.length ≤ 32) (hS : S.length + tbN l ≤ 100000) (hbase : base ≤ w.heap.size) :
    Calls Tryd.prog 25 #[.pointer (some ⟨t, 0, none⟩), .slice a l.length ac] w (TPutPost w t base S l) := by
  have H := hid h
  have HA := hid hA
  have HS := hid hs
  have HT := hid hS
  have HBA := hid hbase
  have htl : t < w.heap.size := by obtain ⟨_, _, hr, _⟩ := h.has; exact hr.lt
  have HTL := hid htl
  clear h hA hs hS hbase htl
  go_enter Tryd.func25, Tryd.ntmps25
  go_wp2_with (at_make; refine wpList_make_row _ rfl _ _ 50 rfl 30 (.int .u64 0) 8 Tryd.underlying50 infoU64 rfl .i64 .i64 _ _ l.length rfl rfl rfl rfl (by omega) (by omega) ?_; intro w1 hr1 hb1 hs1; have HR1 := hid hr1; have HB1 := hid hb1; clear hr1 hb1 hs1)
  go_loopw [6] (fun i wr => ∃ k : Nat, k ≤ l.length ∧ i = .int .i64 ((k : Int) - 1) ∧ Row wr w.heap.size 30 (List.replicate k (Value.int .u64 0) ++ (u64s (atsL (top20 - (S.length + tbN l)) l)).drop k) ∧ TB wr t base (catZ (l.drop k) ++ S) ∧ X1 w wr t) (fun i _ => (intOf i + 1).toNat)
  case atStart =>
    refine ⟨l.length, Nat.le_refl _, rfl, ?_, ?_, X1.of t HB1.out⟩
    · rw [List.drop_eq_nil_of_le (by simp [atsL_len]), List.append_nil]; exact HR1.out
    · rw [List.drop_eq_nil_of_le (Nat.le_refl _)]
      exact H.out.below HB1.out (Nat.le_refl _)
  case round =>
    obtain ⟨k, hk, rfl, hrow, htb, hx⟩ := hrel
    have HR := hid hrow
    have HTB := hid htb
    have HX := hid hx
    clear hrow htb hx
    match k, hk, HR, HTB with
    | 0, hk, HR, HTB =>
      have d1 : decide ((0 : Int) ≤ ((0 : Nat) : Int) - 1) = false := rfl
      go_wp2_with fail
      go_ret
      exact ⟨w.heap.size, rfl, Nat.le_refl _, by simpa using HR.out, by simpa using HTB.out, HX.out⟩
    | j + 1, hk, HR, HTB =>
      have hj : j < l.length := by omega
      rw [show (((j + 1 : Nat) : Int) - 1) = (j : Int) by omega]
      have d1 : decide ((0 : Int) ≤ (j : Int)) = true := by simp
      have ej : IntKind.i64.wrap ((j : Int) - 1) = (j : Int) - 1 := IntWalk.i64_in _ (by omega)
      obtain ⟨b, off, rfl, hc⟩ := HA.out.some_of (by simp [strs]; omega)
      have hx : wr.cell? ⟨b, off + j, none⟩ = some (.string (ba l[j])) := by
        have h1 := strs_at hc hj
        have h2 := World.block_lt_of_cell? w _ h1
        have h3 : b ≠ t := by
          rintro rfl
          obtain ⟨_, _, hr9, _⟩ := H.out.has
          have := hr9.cell' (off + j)
          rw [h1] at this
          match off + j, this with
          | 0, this => simp at this
          | 1, this => simp at this
          | n + 2, this => simp at this
        have h4 := HX.out.block b h2 h3
        unfold World.cell? at h1 ⊢
        rw [h4]; exact h1
      have HTD := hid (tbN_drop hj)
      have HCL := hid (catZ_drop hj)
      have HTX := hid (text_any l[j] wr (HS.out _ (List.getElem_mem hj)))
      have HAT := hid (show (atsL (top20 - (S.length + tbN l)) l)[j]'(by rw [atsL_len]; exact hj) = top20 - (tbN (l.drop j) + S.length) by
        rw [atsL_get]; have := tbN_split l j; have := HT.out; unfold top20; omega)
      have HSJ := hid (show tbN (l.drop j) + S.length ≤ 100000 by have := tbN_split l j; have := HT.out; omega)
      have HLJ := hid (HS.out _ (List.getElem_mem hj))
      clear hc
      generalize l[j] = s at *
      go_wp2_with fail
      refine (HTX.out).mono ?_
      rintro e' w2 ⟨v2, rfl, ho2, hb2⟩
      obtain ⟨g2, c2, rfl, _⟩ := ho2.cel
      have HO2 := hid ho2
      have HB2 := hid hb2
      have HTB2 := hid (HTB.out.below hb2 (Nat.le_refl _))
      obtain ⟨g, c, hrt, hot⟩ := HTB2.out.has
      obtain ⟨x0, x1⟩ := (show w2.cell? ⟨t, 0, none⟩ = some (.slice (some ⟨g, 0, none⟩) (catZ (l.drop (j + 1)) ++ S).length c) ∧ True from ⟨hrt.cell 0 (by simp), trivial⟩)
      obtain ⟨g9, c9, he9, hcel9, _⟩ := hot.cel
      simp only [Value.slice.injEq, Option.some.injEq, Addr.mk.injEq, and_true, true_and] at he9
      obtain ⟨rfl, rfl⟩ := he9
      have hlt2 := hrt.lt
      obtain ⟨S1, hS1⟩ : ∃ S1, S1 = catZ (l.drop (j + 1)) ++ S := ⟨_, rfl⟩
      have HS1 := hid hS1
      rw [← hS1] at hcel9 x0
      have HCE := hid hcel9
      have HRT := hid hrt
      have HLS := hid (show S1.length = tbN (l.drop (j + 1)) + S.length by rw [hS1, List.length_append, catZ_len])
      obtain ⟨L1, hL1⟩ : ∃ L1, L1 = S1.length := ⟨_, rfl⟩
      rw [← hL1] at x0 HCE HLS
      have HL1 := hid hL1
      have HNa := hid (show (s.length + 1 + L1) * 1 ≤ 140737488355328 by have := HLS.out; have := HSJ.out; have := HTD.out; omega)
      have HNb := hid (show s.length + 1 + L1 ≤ maxLen by have := HLS.out; have := HSJ.out; have := HTD.out; unfold maxLen; omega)
      obtain ⟨AD, hAD⟩ : ∃ AD, AD = top20 - (s.length + 1 + L1) := ⟨_, rfl⟩
      have HADE := hid (show AD = top20 - (tbN (l.drop j) + S.length) by have := HLS.out; have := HTD.out; rw [hAD]; unfold top20; omega)
      have w1e : IntKind.u64.wrap ((s.length : Int) + 1 + (L1 : Int)) = (s.length : Int) + 1 + (L1 : Int) := IntWalk.u64_in _ (by have := HLS.out; have := HSJ.out; have := HTD.out; omega)
      have w2e : IntKind.u64.wrap (140737488351232 - ((s.length : Int) + 1 + (L1 : Int))) = (AD : Int) := by rw [IntWalk.u64_in _ (by have := HLS.out; have := HSJ.out; have := HTD.out; omega)]; have := HLS.out; have := HSJ.out; have := HTD.out; unfold top20 at hAD; omega
      clear hAD
      have HZ2 := hid hb2.size
      have HON := hid (b8_ones S1)
      clear hb2 ho2 hot hcel9 hrt hS1 hL1 hx
      go_wp2_with (at_builtin; go_must (refine wpList_apM Tryd.underlying29 infoBy rfl rfl _ _ rfl wr.heap.size (.slice (some ⟨g2, 0, none⟩) (s.length + 1) c2) (s.length + 1) ((s ++ [0]).map B8) (S1.map B8) rfl ⟨g, 0, none⟩ L1 c rfl HO2.out HCE.out HON.out HNa.out HNb.out HZ2.out ?_; intro v3 w3 hown hgrow hb3; have HO3 := hid hown; have HB3 := hid hb3; have HG3 := hid hgrow; obtain ⟨g3, c3, rfl, _⟩ := hown.cel; have HRT3 := hid (HRT.out.grown hgrow (fun e => (HO2.out.ne HRT.out (by decide)) e.symm)); have x0 := HRT3.out.cell 0 (by simp); have fz := HRT3.out.frozen 0; have hlt3 := HRT3.out.lt; have hro := ((HR.out.below HB2.out HR.out.lt).below hb3 HR.out.lt).other (a := ⟨t, 0, none⟩) (by have := HTL.out; simp only [ne_eq]; omega) (.slice (some ⟨g3, 0, none⟩) (s.length + 1 + L1) c3); have HRO := hid hro; have oc := hro.cell j (by simp; omega); have of := hro.frozen j; have ol := hro.lt; clear hown hgrow hb3 hro))
      go_roundw
      case rel =>
        have e1 : catZ (l.drop j) ++ S = s ++ [0] ++ S1 := by rw [HCL.out, HS1.out, List.append_assoc]
        have e2 : (s ++ [0] ++ S1).length = s.length + 1 + L1 := by rw [List.length_append, List.length_append, ← HL1.out]; rfl
        refine ⟨j, by omega, rfl, ?_, ?_, ?_⟩
        · have hlj : j < (u64s (atsL (top20 - (S.length + tbN l)) l)).length := by rw [u64s_len, atsL_len]; exact hj
          exact Row.fillD (cs := u64s (atsL (top20 - (S.length + tbN l)) l)) (z := .int .u64 0) (k := j) HRO.out hlj (by rw [List.getElem_map, HAT.out, ← HADE.out])
        · rw [e1]
          refine TB.setOther (T := 30) ⟨g3, c3, ?_, ?_⟩ HRO.out (by decide) (by decide) _ _
          · rw [e2]; exact HRT3.out.set 0 _
          · have h9 := HO3.out.from' (Nat.le_trans HBA.out HX.out.size)
            rw [e2, List.map_append]
            exact h9.setOther (h9.ne HRT3.out (by decide)) _
        · exact (((HX.out.trans (X1.of t HB2.out)).then (HB3.out.mono HX.out.size)).set 0 _).setNew (Nat.le_refl _) _ _
      case measure => simp [intOf]
end Go.Proofs.YtihaakcfegelkaaDoor
