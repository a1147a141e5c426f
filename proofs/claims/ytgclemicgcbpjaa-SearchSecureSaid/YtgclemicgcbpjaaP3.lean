/- Contracts of paths.Check and Parts. -/
import Derived.Test.YtgclemicgcbpjaaP2a
import Derived.Test.YtgclemicgcbpjaaE0
namespace Go.Proofs.Ytgclemicgcbpjaa
open Go.RowKit Go.Sort

def anyLong (ds : List BL) : Bool := ds.any fun p => decide (32 < p.length)
def chkJ (g : Nat) (w0 : World) (ds : List BL) (w : World) : Prop := Row w g 32 [.int .i64 (if anyLong ds then 11 else 0)] ∧ Below w0.heap.size w0 w ∧ w0.heap.size ≤ g

theorem anyLong_snoc (ds : List BL) (x : BL) : anyLong (ds ++ [x]) = (anyLong ds || decide (32 < x.length)) := by simp [anyLong]

set_option maxHeartbeats 1000000 in
theorem check1_any (x : BL) (g : Nat) (ds : List BL) (w0 w : World) (hx : x.length ≤ 1000000) (hJ : chkJ g w0 ds w) :
    Calls Try.prog 67 #[.string (ba x), .pointer (some ⟨g, 0, none⟩)] w fun e w' => e = .returned (.tuple #[]) ∧ chkJ g w0 (ds ++ [x]) w' ∧ (∀ b, b ≠ g → w'.heap[b]? = w.heap[b]?) := by
  obtain ⟨hr, hb, hg⟩ := hJ
  have HR := hid hr
  have hf := hr.frozen 0
  have hc := hr.cell 0 (by simp)
  have hlt := hr.lt
  have HB := hid hb
  have HS := hid (anyLong_snoc ds x)
  have hsz := ba_size x
  have hsz1 : (ba x).size ≤ 1000000 := by omega
  have HSZ := hid hsz
  clear hr hb hsz
  by_cases h : 32 < x.length
  · have hd : 32 < ((ba x).size : Int) := by rw [HSZ.out]; omega
    go_enter Try.func67, Try.ntmps67
    go_wp2_with fail
    refine bodyPost_end (results_none rfl _ _ _) rfl ⟨rfl, ⟨?_, ?_, hg⟩, ?_⟩
    · have := HR.out.set 0 (.int .i64 11)
      rw [HS.out]
      simpa [h] using this
    · exact bset HB.out hg _
    · intro b hb; exact heap_setCell_other _ _ _ _ (by simpa using hb)
  · have hd : ¬ 32 < ((ba x).size : Int) := by rw [HSZ.out]; omega
    go_enter Try.func67, Try.ntmps67
    go_wp2_with fail
    refine bodyPost_end (results_none rfl _ _ _) rfl ⟨rfl, ⟨?_, ?_, hg⟩, ?_⟩
    · rw [HS.out]
      simpa [h] using HR.out
    · exact HB.out
    · intro b hb; rfl

theorem chk_eq (l : BL) (h1 : l ≠ []) (h2 : ¬ 0 ∈ l) (h3 : l.length ≤ 200) : chkE l = if anyLong (cuts 47 l) then 11 else 0 := by
  unfold chkE
  rw [if_neg h1, if_neg h2, if_neg (by omega)]
  rfl

set_option maxHeartbeats 1000000 in
theorem check_any (s : ByteArray) (w : World) (hs : s.size ≤ 1000000) :
    Calls Try.prog 53 #[.string s] w fun e' w' => e' = .returned (.int .i64 (chkE s.data.toList)) ∧ Below w.heap.size w w' := by
  have hne := ba_nil s
  have HE := hid (show chkE s.data.toList = if s.data.toList = [] then 3 else if 0 ∈ s.data.toList then 1 else if 200 < s.data.toList.length then 11 else if tooLong s.data.toList then 11 else 0 from rfl)
  have HRF := hid (Below.refl w.heap.size w)
  by_cases h1 : s.data.toList = []
  · rw [decide_eq_true h1] at hne
    have HF := hid (show chkE s.data.toList = 3 by rw [HE.out, if_pos h1])
    clear h1
    go_enter Try.func53, Try.ntmps53
    go_wp2_with fail
    go_ret
    exact ⟨ret_i64 HF.out.symm, HRF.out⟩
  · rw [decide_eq_false h1] at hne
    have H1 := hid h1
    clear h1
    have hix := index_nul s.data.toList
    have hge := Lib.indexByte_ge s.data.toList 0
    by_cases h2 : 0 ∈ s.data.toList
    · have h0 : 0 ≤ Lib.indexByte s.data.toList 0 := hix.2 h2
      have HF := hid (show chkE s.data.toList = 1 by rw [HE.out, if_neg H1.out, if_pos h2])
      clear h2 hix
      go_enter Try.func53, Try.ntmps53
      go_wp2_with fail
      refine (Try.strings_IndexByte _ _ _).mono ?_
      rintro e' w1 ⟨rfl, rfl⟩
      rw [show (0 : Int).toNat.toUInt8 = 0 from rfl]
      generalize Lib.indexByte s.data.toList 0 = x at *
      go_wp2_with fail
      go_ret
      exact ⟨ret_i64 HF.out.symm, HRF.out⟩
    · have h0 : Lib.indexByte s.data.toList 0 < 0 := by
        rcases Int.lt_or_le (Lib.indexByte s.data.toList 0) 0 with h | h
        · exact h
        · exact absurd (hix.1 h) h2
      have H2 := hid h2
      clear h2 hix
      by_cases h3 : 200 < s.size
      · have HF := hid (show chkE s.data.toList = 11 by rw [HE.out, if_neg H1.out, if_neg H2.out, if_pos (by rw [size_list]; exact h3)])
        have h3' : 200 < (s.size : Int) := by omega
        go_enter Try.func53, Try.ntmps53
        go_wp2_with fail
        refine (Try.strings_IndexByte _ _ _).mono ?_
        rintro e' w1 ⟨rfl, rfl⟩
        rw [show (0 : Int).toNat.toUInt8 = 0 from rfl]
        generalize Lib.indexByte s.data.toList 0 = x at *
        go_wp2_with fail
        go_ret
        exact ⟨ret_i64 HF.out.symm, HRF.out⟩
      · have HF := hid (chk_eq s.data.toList H1.out H2.out (by rw [size_list]; omega))
        have h3' : ¬ 200 < (s.size : Int) := by omega
        go_enter Try.func53, Try.ntmps53
        go_wp2_with fail
        refine (Try.strings_IndexByte _ _ _).mono ?_
        rintro e' w1 ⟨rfl, rfl⟩
        rw [show (0 : Int).toNat.toUInt8 = 0 from rfl]
        generalize Lib.indexByte s.data.toList 0 = x at *
        go_wp2_with fail
        refine (piecesC_any s w1.heap.size (chkJ w1.heap.size w1) _ hs ?_ ?_ ?_).mono ?_
        · exact ⟨(Row.new w1 32 [.int .i64 0]).alloc _, (bal _).alloc (by simp) _, Nat.le_refl _⟩
        · rintro ds wr q q' ⟨hr, hb, hg⟩ hit
          exact ⟨mvIter_row hr hit q', mvIter_below hb (by simp) q', hg⟩
        · intro ds x' wr hJ hx _
          refine (check1_any x' _ ds w1 wr (by omega) hJ).mono ?_
          rintro e w2 ⟨rfl, hJ2, hfr⟩
          refine ⟨rfl, hJ2, fun q hq => ?_⟩
          rw [hfr]
          · exact hq
          · intro e
            have := hJ.1.heap
            rw [← e, hq] at this
            cases this
        · rintro e' w2 ⟨rfl, hr, hb, _⟩
          have hc := hr.cell 0 (by simp)
          have HB := hid hb
          clear hr hb
          simp only [List.getElem_cons_zero] at hc
          rw [← HF.out] at hc
          go_wp2_with fail
          go_ret
          exact ⟨rfl, HB.out⟩

abbrev OwnT (w : World) (base : Nat) (v : Value) (ds : List BL) : Prop := w.ownsRow base 9 1 v ds.length (strs ds)
theorem strs_snoc (ds : List BL) (x : BL) : strs (ds ++ [x]) = strs ds ++ [.string (ba x)] := by simp [strs]
theorem infoStr : (Try.prog.info? 9).map (fun i => (i.zero, i.size, i.bytes)) = some (some (.string ByteArray.empty), 1, 16) := by kernel_rfl
theorem strs_len (ds : List BL) : (strs ds).length = ds.length := by simp [strs]

/-- What Parts' closure keeps: the variable holds the pieces that count. -/
def parJ (g base : Nat) (w0 : World) (ds : List BL) (w : World) : Prop := ∃ v, Row w g 59 [v] ∧ OwnT w base v (ds.filter goodP) ∧ Below w0.heap.size w0 w ∧ w0.heap.size ≤ g ∧ g < base ∧ base ≤ w.heap.size ∧ (ds.filter goodP = [] → v = .slice none 0 0)

theorem good_cases (x : BL) : (x = [] ∧ goodP x = false) ∨ (x ≠ [] ∧ x = [46] ∧ goodP x = false) ∨ (x ≠ [] ∧ x ≠ [46] ∧ goodP x = true) := by
  by_cases h1 : x = []
  · left; exact ⟨h1, by simp [goodP, h1]⟩
  · by_cases h2 : x = [46]
    · right; left; exact ⟨h1, h2, by simp [goodP, h2]⟩
    · right; right; exact ⟨h1, h2, by simp [goodP, h1, h2]⟩
theorem filt_snoc (ds : List BL) (x : BL) : (ds ++ [x]).filter goodP = if goodP x then ds.filter goodP ++ [x] else ds.filter goodP := by
  rw [List.filter_append]
  cases h : goodP x <;> simp [List.filter_cons, h]
theorem ba_beq (x y : BL) : ((ba x).toList == y) = decide (x = y) := by
  rw [Lib.toList_data, ba_list, Bool.eq_iff_iff, beq_iff_eq, decide_eq_true_eq]
theorem str_one (x : ByteArray) : ∀ u ∈ [Value.string x], u.oneCell' = true := by
  intro u hu
  simp at hu
  subst hu
  rfl

set_option maxHeartbeats 1000000 in
theorem parts1_any (x : BL) (g base : Nat) (ds : List BL) (w0 w : World) (hx : ds.length ≤ 1000000) (hJ : parJ g base w0 ds w) :
    Calls Try.prog 55 #[.string (ba x), .pointer (some ⟨g, 0, none⟩)] w fun e w' => e = .returned (.tuple #[]) ∧ parJ g base w0 (ds ++ [x]) w' ∧ (∀ (b : Nat) (s : ByteArray) (q : Nat), w.heap[b]? = some (Obj.stringIter s q) → w'.heap[b]? = some (Obj.stringIter s q)) := by
  obtain ⟨v, hr, ho, hb, hg, hgb, hbz, hnil⟩ := hJ
  have HNIL := hid hnil
  clear hnil
  have HFS := hid (filt_snoc ds x)
  have HR := hid hr
  have HO := hid ho
  have HB := hid hb
  have e1 : ((ba x).toList.isEmpty) = decide (x = []) := ba_nil (ba x)
  have e2 : ((ba x).toList == [46]) = decide (x = [46]) := ba_beq x [46]
  rcases good_cases x with ⟨h1, hgd⟩ | ⟨h1, h2, hgd⟩ | ⟨h1, h2, hgd⟩
  · rw [hgd] at HFS
    rw [decide_eq_true h1] at e1
    clear hr ho hb h1 hgd
    go_enter Try.func55, Try.ntmps55
    go_wp2_with fail
    refine bodyPost_end (results_none rfl _ _ _) rfl ⟨rfl, ⟨v, HR.out, ?_, HB.out, hg, hgb, hbz, ?_⟩, fun _ _ _ h => h⟩
    · rw [HFS.out]; exact HO.out
    · rw [HFS.out]; exact HNIL.out
  · rw [hgd] at HFS
    rw [decide_eq_false h1] at e1
    rw [decide_eq_true h2] at e2
    clear hr ho hb h1 hgd h2
    go_enter Try.func55, Try.ntmps55
    go_wp2_with fail
    refine bodyPost_end (results_none rfl _ _ _) rfl ⟨rfl, ⟨v, HR.out, ?_, HB.out, hg, hgb, hbz, ?_⟩, fun _ _ _ h => h⟩
    · rw [HFS.out]; exact HO.out
    · rw [HFS.out]; exact HNIL.out
  · rw [hgd] at HFS
    rw [decide_eq_false h1] at e1
    rw [decide_eq_false h2] at e2
    obtain ⟨i0, hi, hz0, hz1, hz2⟩ := info_parts infoStr
    have hc := hr.cell 0 (by simp)
    simp only [List.getElem_cons_zero] at hc
    have hlt := hr.lt
    obtain ⟨a9, c9, rfl, hC9, hn9, hnc, hcm⟩ := own_cel ho
    have HLn : Hid ((ds.filter goodP).length ≤ 1000000) := hid (Nat.le_trans (List.length_filter_le _ _) hx)
    have HL1 := hid (show (ds.filter goodP).length + 1 ≤ maxLen by have := HLn.out; unfold maxLen; omega)
    have HL2 := hid (show ((ds.filter goodP).length + 1) * 16 ≤ 140737488355328 by have := HLn.out; omega)
    have HL3 := hid (fun o => show base ≤ (w.alloc o).heap.size by simp only [World.size_alloc]; omega)
    have HN1 := hid (news_one w (.string (ba x)) 9)
    have HO2 := hid (fun o => ho.alloc o)
    have HR2 := hid (fun o => hr.alloc o)
    have HU2 := hid (fun o => hb.alloc hb.size o)
    have HNE := hid (own_ne ho (.inl hgb))
    have HAL := hid (fun (o : Obj) (b : Nat) (h : b < w.heap.size) => heap_alloc_old w o h)
    clear hr ho hb h1 hgd h2 hC9 hn9 hnc hcm
    go_enter Try.func55, Try.ntmps55
    go_wp2_with (at_builtin; go_must (refine wpList_append_own _ rfl _ _ 59 rfl base 9 i0 (.string ByteArray.empty) 1 16 Try.underlying59 hi hz0 hz1 hz2 rfl (by decide) (.slice a9 (ds.filter goodP).length c9) (ds.filter goodP).length (strs (ds.filter goodP)) rfl (HO2.out _) ⟨w.heap.size, 0, none⟩ 1 1 [.string (ba x)] rfl rfl HN1.out (str_one _) HL1.out HL2.out (HL3.out _) ?_; intro v' w9 hown' hgrow _; have r8 := (HR2.out _).grown hgrow HNE.out; have hb2 := (HU2.out _).grown hgrow (by simp; omega) (fun k hk => own_low HO.out (by omega) k hk); have HO3 := hid hown'; have HB2 := hid hb2; have HNE2 := hid (own_ne hown' (.inl hgb)); obtain ⟨G, c', rfl, hc1, hc2, hc3, hc4⟩ := own_open hown' (Nat.succ_pos _); have HR9 := hid r8; have HG := hid hgrow; have hf := r8.frozen 0; have hc := r8.cell 0 (by simp); have hlt9 := r8.lt; clear hown' hgrow hb2 r8))
    refine bodyPost_end (results_none rfl _ _ _) rfl ⟨rfl, ⟨_, HR9.out.set 0 _, ?_, bset HB2.out hg _, hg, hgb, by simp; omega, ?_⟩, ?_⟩
    · rw [HFS.out]
      simp only [if_true]
      exact own_ext (own_setOther HO3.out HNE2.out _) (by simp) (by rw [strs_snoc])
    · rw [HFS.out]
      simp
    · intro b s q h
      have hb := (Array.getElem?_eq_some_iff.1 h).1
      have hbg : b ≠ g := by
        rintro rfl
        have := HR.out.heap
        rw [h] at this
        cases this
      rw [heap_setCell_other _ _ _ _ (by simpa using hbg), HG.out.block b (by simp; omega) ?_, HAL.out _ _ hb]
      · exact h
      · intro e
        rcases own_block HO.out with h1 | ⟨g2, h1, h2, h3⟩
        · rw [h1] at e; cases e
        · rw [h1] at e
          cases e
          rcases HO.out.2 with ⟨h4, _⟩ | ⟨g3, cap, cur, h4, _, h5, _⟩
          · rw [h4] at h1; cases h1
          · rw [h4] at h1
            cases h1
            rw [h] at h5
            cases h5
end Go.Proofs.Ytgclemicgcbpjaa
