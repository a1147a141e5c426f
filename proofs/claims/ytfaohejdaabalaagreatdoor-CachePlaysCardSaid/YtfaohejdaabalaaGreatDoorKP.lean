
/- Merged: P1 P2a P3 P4. -/
import Derived.Test.YtfaohejdaabalaaGreatDoorRows
import Derived.Test.YtfaohejdaabalaaGreatDoorKA
import Derived.Test.YtfaohejdaabalaaGreatDoorShelf
import Derived.Deep.DeepMust
import Derived.Test.YtfaohejdaabalaaGreatDoorKE
import Derived.Deep.RegionWith
namespace Go.Proofs.YtfaohejdaabalaaGreatDoor
open Go.RowKit Go.Sort

theorem drop_take_self (l : List UInt8) (k : Nat) : (l.take k).drop k = [] := by simp
theorem take_more (l : List UInt8) (k n : Nat) : l.take (k + n) = l.take k ++ (l.drop k).take n := by rw [List.take_add]

theorem cfold_len (x : UInt8) (l : List UInt8) : ∀ st : List (List UInt8) × List UInt8, (l.foldl (cstep x) st).1.length ≤ st.1.length + l.length := by
  induction l with
  | nil => intro st; simp
  | cons c l ih =>
    intro st
    have h := ih (cstep x st c)
    have h2 : (cstep x st c).1.length ≤ st.1.length + 1 := by unfold cstep; split <;> simp
    simp only [List.foldl_cons, List.length_cons]
    omega
theorem cst_len (x : UInt8) (l : List UInt8) : (cst x l).1.length ≤ l.length := by
  have := cfold_len x l ([], [])
  simpa [cst] using this

theorem hit_at {s : ByteArray} {k f : Nat} (hk : k < s.size) (h47 : s[k] = 47) (hc : (cst 47 (s.data.toList.take k)).2 = (s.data.toList.take k).drop f) :
    cst 47 (s.data.toList.take (k + 1)) = ((cst 47 (s.data.toList.take k)).1 ++ [(s.data.toList.take k).drop f], []) := by
  have hl : k < s.data.toList.length := by rw [size_list]; exact hk
  have e : s.data.toList.take (k + 1) = s.data.toList.take k ++ [47] := by
    rw [List.take_succ_eq_append_getElem hl]
    congr 2
  rw [e, cst_hit, hc]

theorem miss_at {s : ByteArray} {k f n : Nat} (hf : f ≤ k) (hk : k + n ≤ s.size) (hno : ∀ j (hj : j < s.size), k ≤ j → j < k + n → s[j] ≠ 47) (hc : (cst 47 (s.data.toList.take k)).2 = (s.data.toList.take k).drop f) :
    cst 47 (s.data.toList.take (k + n)) = ((cst 47 (s.data.toList.take k)).1, (s.data.toList.take (k + n)).drop f) := by
  have hl : k + n ≤ s.data.toList.length := by rw [size_list]; exact hk
  rw [take_more, cst_miss, hc]
  · rw [List.drop_append_of_le_length (by simp; omega)]
  · intro c hcm
    obtain ⟨i, hi, e⟩ := List.getElem_of_mem hcm
    simp only [List.length_take, List.length_drop] at hi
    rw [List.getElem_take, List.getElem_drop] at e
    rw [← e]
    exact hno (k + i) (by omega) (by omega) (by omega)

set_option maxHeartbeats 1000000 in
theorem piecesP_any (s : ByteArray) (p : Nat) (J : List (List UInt8) → World → Prop) (w : World) (hs : s.size ≤ 1000000) (h0 : J [] (w.iter s 0))
    (hmv : ∀ ds wr q q', J ds wr → wr.heap[w.heap.size]? = some (.stringIter s q) → J ds (mvIter wr w.heap.size s q'))
    (hstep : ∀ ds (x : List UInt8) wr, J ds wr → x.length ≤ s.size → ds.length ≤ s.size → Calls Tryz.prog 100 #[.string (ba x), .pointer (some ⟨p, 0, none⟩)] wr fun e w' => e = .returned (.tuple #[]) ∧ J (ds ++ [x]) w' ∧ ∀ q, wr.heap[w.heap.size]? = some (.stringIter s q) → w'.heap[w.heap.size]? = some (.stringIter s q)) :
    Calls Tryz.prog 99 #[.string s, .func (.func 100) #[] #[.pointer (some ⟨p, 0, none⟩)]] w fun e' w' => e' = .returned (.tuple #[]) ∧ J (cuts 47 s.data.toList) w' := by
  have HMV := hid hmv
  have HST := hid hstep
  have H0 := hid h0
  clear hmv hstep h0
  go_enter Tryz.func99, Tryz.ntmps99
  go_wp2_with fail
  have hit0 := World.iter_heap w s 0
  obtain ⟨w0, hw0⟩ : ∃ w0, w0 = w.iter s 0 := ⟨_, rfl⟩
  rw [← hw0] at hit0 H0
  rw [← hw0]
  clear hw0
  generalize w.heap.size = g at *
  go_loopw [4] (fun v wr => ∃ k f : Nat, f ≤ k ∧ k ≤ s.size ∧ v = .int .i64 f ∧ (cst 47 (s.data.toList.take k)).2 = (s.data.toList.take k).drop f ∧ J (cst 47 (s.data.toList.take k)).1 wr ∧ wr.heap[g]? = some (.stringIter s k)) (fun _ wr => s.size - wr.iterPos g)
  case atStart => exact ⟨0, 0, Nat.le_refl _, Nat.zero_le _, rfl, rfl, H0.out, hit0⟩
  case round =>
    clear hit0 H0
    obtain ⟨k, f, hfk, hk, rfl, hc, hJ, hg⟩ := hrel
    have HIP : Hid (wr.iterPos g = k) := hid (by unfold World.iterPos; rw [hg])
    have HC := hid hc
    have HJ := hid hJ
    have HCL : Hid ((cst 47 (s.data.toList.take k)).1.length ≤ s.size) := hid (by have := cst_len 47 (s.data.toList.take k); simp at this; have h2 : s.data.size = s.size := rfl; omega)
    have HG := hid hg
    clear hc hJ hg
    by_cases hlt : k < s.size
    · rcases decode_47 s k hlt with ⟨h47, hd1, hd2⟩ | ⟨hd1, hd2, hd3, hno⟩
      · have hnx := fun ty => run_next_at (P := Tryz.prog) ty HG.out hlt
        rw [hd1, hd2] at hnx
        have HG2 := hid (mvIter_at (k + 1) HG.out)
        have HJ2 := hid (HMV.out _ _ _ (k + 1) HJ.out HG.out)
        have HCC := hid (hit_at hlt h47 HC.out)
        have hseg : s.extract f k = ba ((s.data.toList.take k).drop f) := ba_extract s f k
        have HSEG := hid hseg
        have HLEN : Hid (((s.data.toList.take k).drop f).length ≤ s.size) := hid (by simp; omega)
        clear hseg hd1 hd2 h47
        generalize mvIter wr g s (k + 1) = wn at *
        go_wp2_with fail
        rw [HSEG.out]
        refine (HST.out _ _ _ HJ2.out HLEN.out HCL.out).mono ?_
        rintro e' w2 ⟨rfl, hJ3, hG3⟩
        have HJ3 := hid hJ3
        have HG3 := hid (hG3 _ HG2.out)
        clear hJ3 hG3 hnx
        go_wp2_with fail
        go_roundw
        case rel => exact ⟨k + 1, k + 1, Nat.le_refl _, by omega, by go_num, by rw [HCC.out]; simp, by rw [HCC.out]; exact HJ3.out, HG3.out⟩
        case measure =>
          have e1 : w2.iterPos g = k + 1 := by unfold World.iterPos; rw [HG3.out]
          rw [e1, HIP.out]; omega
      · have hnx := fun ty => run_next_at (P := Tryz.prog) ty HG.out hlt
        have HG2 := hid (mvIter_at (k + (Utf8.decode s k).2) HG.out)
        have HJ2 := hid (HMV.out _ _ _ (k + (Utf8.decode s k).2) HJ.out HG.out)
        have HCC := hid (miss_at hfk hd3 hno HC.out)
        have hb : (((Utf8.decode s k).1 : Int) == 47) = false := by simp; omega
        clear hd1 hno
        generalize mvIter wr g s (k + (Utf8.decode s k).2) = wn at *
        generalize (Utf8.decode s k).1 = r at *
        generalize (Utf8.decode s k).2 = n at *
        go_wp2_with fail
        go_roundw
        case rel => exact ⟨k + n, f, by omega, by omega, rfl, by rw [HCC.out], by rw [HCC.out]; exact HJ2.out, HG2.out⟩
        case measure =>
          have e1 : wn.iterPos g = k + n := by unfold World.iterPos; rw [HG2.out]
          rw [e1, HIP.out]; omega
    · have hnx := fun ty => run_next_no (P := Tryz.prog) ty HG.out hlt
      have hk2 : k = s.size := by omega
      have HK2 := hid hk2
      have HSEG : Hid (s.extract f s.size = ba (s.data.toList.drop f)) := hid (by rw [ba_extract, List.take_of_length_le (by rw [size_list]; exact Nat.le_refl _)])
      have HCC := hid (show cuts 47 s.data.toList = (cst 47 (s.data.toList.take k)).1 ++ [s.data.toList.drop f] by
        have e : s.data.toList.take k = s.data.toList := List.take_of_length_le (by rw [size_list]; omega)
        unfold cuts
        have := HC.out
        rw [e] at this ⊢
        rw [this])
      have HLEN : Hid ((s.data.toList.drop f).length ≤ s.size) := hid (by simp)
      clear hk2
      go_wp2_with fail
      rw [HSEG.out]
      refine (HST.out _ _ _ HJ.out HLEN.out HCL.out).mono ?_
      rintro e' w2 ⟨rfl, hJ3, hG3⟩
      have HJ3 := hid hJ3
      clear hJ3 hG3 hnx
      go_wp2_with fail
      refine bodyPost_end (results_none rfl _ _ _) rfl ⟨rfl, ?_⟩
      rw [HCC.out]
      exact HJ3.out

set_option maxHeartbeats 1000000 in
theorem piecesC_any (s : ByteArray) (p : Nat) (J : List (List UInt8) → World → Prop) (w : World) (hs : s.size ≤ 1000000) (h0 : J [] (w.iter s 0))
    (hmv : ∀ ds wr q q', J ds wr → wr.heap[w.heap.size]? = some (.stringIter s q) → J ds (mvIter wr w.heap.size s q'))
    (hstep : ∀ ds (x : List UInt8) wr, J ds wr → x.length ≤ s.size → ds.length ≤ s.size → Calls Tryz.prog 111 #[.string (ba x), .pointer (some ⟨p, 0, none⟩)] wr fun e w' => e = .returned (.tuple #[]) ∧ J (ds ++ [x]) w' ∧ ∀ q, wr.heap[w.heap.size]? = some (.stringIter s q) → w'.heap[w.heap.size]? = some (.stringIter s q)) :
    Calls Tryz.prog 99 #[.string s, .func (.func 111) #[] #[.pointer (some ⟨p, 0, none⟩)]] w fun e' w' => e' = .returned (.tuple #[]) ∧ J (cuts 47 s.data.toList) w' := by
  have HMV := hid hmv
  have HST := hid hstep
  have H0 := hid h0
  clear hmv hstep h0
  go_enter Tryz.func99, Tryz.ntmps99
  go_wp2_with fail
  have hit0 := World.iter_heap w s 0
  obtain ⟨w0, hw0⟩ : ∃ w0, w0 = w.iter s 0 := ⟨_, rfl⟩
  rw [← hw0] at hit0 H0
  rw [← hw0]
  clear hw0
  generalize w.heap.size = g at *
  go_loopw [4] (fun v wr => ∃ k f : Nat, f ≤ k ∧ k ≤ s.size ∧ v = .int .i64 f ∧ (cst 47 (s.data.toList.take k)).2 = (s.data.toList.take k).drop f ∧ J (cst 47 (s.data.toList.take k)).1 wr ∧ wr.heap[g]? = some (.stringIter s k)) (fun _ wr => s.size - wr.iterPos g)
  case atStart => exact ⟨0, 0, Nat.le_refl _, Nat.zero_le _, rfl, rfl, H0.out, hit0⟩
  case round =>
    clear hit0 H0
    obtain ⟨k, f, hfk, hk, rfl, hc, hJ, hg⟩ := hrel
    have HIP : Hid (wr.iterPos g = k) := hid (by unfold World.iterPos; rw [hg])
    have HC := hid hc
    have HJ := hid hJ
    have HCL : Hid ((cst 47 (s.data.toList.take k)).1.length ≤ s.size) := hid (by have := cst_len 47 (s.data.toList.take k); simp at this; have h2 : s.data.size = s.size := rfl; omega)
    have HG := hid hg
    clear hc hJ hg
    by_cases hlt : k < s.size
    · rcases decode_47 s k hlt with ⟨h47, hd1, hd2⟩ | ⟨hd1, hd2, hd3, hno⟩
      · have hnx := fun ty => run_next_at (P := Tryz.prog) ty HG.out hlt
        rw [hd1, hd2] at hnx
        have HG2 := hid (mvIter_at (k + 1) HG.out)
        have HJ2 := hid (HMV.out _ _ _ (k + 1) HJ.out HG.out)
        have HCC := hid (hit_at hlt h47 HC.out)
        have hseg : s.extract f k = ba ((s.data.toList.take k).drop f) := ba_extract s f k
        have HSEG := hid hseg
        have HLEN : Hid (((s.data.toList.take k).drop f).length ≤ s.size) := hid (by simp; omega)
        clear hseg hd1 hd2 h47
        generalize mvIter wr g s (k + 1) = wn at *
        go_wp2_with fail
        rw [HSEG.out]
        refine (HST.out _ _ _ HJ2.out HLEN.out HCL.out).mono ?_
        rintro e' w2 ⟨rfl, hJ3, hG3⟩
        have HJ3 := hid hJ3
        have HG3 := hid (hG3 _ HG2.out)
        clear hJ3 hG3 hnx
        go_wp2_with fail
        go_roundw
        case rel => exact ⟨k + 1, k + 1, Nat.le_refl _, by omega, by go_num, by rw [HCC.out]; simp, by rw [HCC.out]; exact HJ3.out, HG3.out⟩
        case measure =>
          have e1 : w2.iterPos g = k + 1 := by unfold World.iterPos; rw [HG3.out]
          rw [e1, HIP.out]; omega
      · have hnx := fun ty => run_next_at (P := Tryz.prog) ty HG.out hlt
        have HG2 := hid (mvIter_at (k + (Utf8.decode s k).2) HG.out)
        have HJ2 := hid (HMV.out _ _ _ (k + (Utf8.decode s k).2) HJ.out HG.out)
        have HCC := hid (miss_at hfk hd3 hno HC.out)
        have hb : (((Utf8.decode s k).1 : Int) == 47) = false := by simp; omega
        clear hd1 hno
        generalize mvIter wr g s (k + (Utf8.decode s k).2) = wn at *
        generalize (Utf8.decode s k).1 = r at *
        generalize (Utf8.decode s k).2 = n at *
        go_wp2_with fail
        go_roundw
        case rel => exact ⟨k + n, f, by omega, by omega, rfl, by rw [HCC.out], by rw [HCC.out]; exact HJ2.out, HG2.out⟩
        case measure =>
          have e1 : wn.iterPos g = k + n := by unfold World.iterPos; rw [HG2.out]
          rw [e1, HIP.out]; omega
    · have hnx := fun ty => run_next_no (P := Tryz.prog) ty HG.out hlt
      have hk2 : k = s.size := by omega
      have HK2 := hid hk2
      have HSEG : Hid (s.extract f s.size = ba (s.data.toList.drop f)) := hid (by rw [ba_extract, List.take_of_length_le (by rw [size_list]; exact Nat.le_refl _)])
      have HCC := hid (show cuts 47 s.data.toList = (cst 47 (s.data.toList.take k)).1 ++ [s.data.toList.drop f] by
        have e : s.data.toList.take k = s.data.toList := List.take_of_length_le (by rw [size_list]; omega)
        unfold cuts
        have := HC.out
        rw [e] at this ⊢
        rw [this])
      have HLEN : Hid ((s.data.toList.drop f).length ≤ s.size) := hid (by simp)
      clear hk2
      go_wp2_with fail
      rw [HSEG.out]
      refine (HST.out _ _ _ HJ.out HLEN.out HCL.out).mono ?_
      rintro e' w2 ⟨rfl, hJ3, hG3⟩
      have HJ3 := hid hJ3
      clear hJ3 hG3 hnx
      go_wp2_with fail
      refine bodyPost_end (results_none rfl _ _ _) rfl ⟨rfl, ?_⟩
      rw [HCC.out]
      exact HJ3.out
end Go.Proofs.YtfaohejdaabalaaGreatDoor
namespace Go.Proofs.YtfaohejdaabalaaGreatDoor
open Go.RowKit Go.Sort

theorem ba_eta (s : ByteArray) : ba s.data.toList = s := rfl

theorem begins_any (s : ByteArray) (w : World) :
    Calls Tryz.prog 101 #[.string s] w fun e' w' => e' = .returned (.bool (begB s.data.toList)) ∧ w = w' := by
  go_enter Tryz.func101, Tryz.ntmps101
  go_wp2_with fail
  refine (Tryz.strings_HasPrefix _ _ _).mono ?_
  rintro e' w1 ⟨rfl, rfl⟩
  rw [show Lib.hasPrefix s.data.toList (ByteArray.mk #[47]).data.toList = begB s.data.toList from hasPrefix_47 _]
  go_wp2_with fail
  go_ret
  exact ⟨rfl, rfl⟩

theorem tail_any (s : ByteArray) (w : World) (hs : s.size ≤ 1000000) :
    Calls Tryz.prog 83 #[.string s] w fun e' w' => e' = .returned (.bool (tailB s.data.toList)) ∧ w = w' := by
  go_enter Tryz.func83, Tryz.ntmps83
  go_wp2_with fail
  refine (Tryz.strings_HasSuffix _ _ _ (by omega)).mono ?_
  rintro e' w1 ⟨rfl, rfl⟩
  rw [show Lib.hasSuffix s.data.toList (ByteArray.mk #[47]).data.toList = tailB s.data.toList from hasSuffix_47 _]
  go_wp2_with fail
  go_ret
  exact ⟨rfl, rfl⟩

theorem str_eq {a b : ByteArray} (h : a = b) : Ending.returned (.string a) = .returned (.string b) := by rw [h]
end Go.Proofs.YtfaohejdaabalaaGreatDoor
namespace Go.Proofs.YtfaohejdaabalaaGreatDoor
open Go.RowKit Go.Sort

def anyLong (ds : List BL) : Bool := ds.any fun p => decide (32 < p.length)
def chkJ (g : Nat) (w0 : World) (ds : List BL) (w : World) : Prop := Row w g 36 [.int .i64 (if anyLong ds then 11 else 0)] ∧ Below w0.heap.size w0 w ∧ w0.heap.size ≤ g

theorem anyLong_snoc (ds : List BL) (x : BL) : anyLong (ds ++ [x]) = (anyLong ds || decide (32 < x.length)) := by simp [anyLong]

set_option maxHeartbeats 1000000 in
theorem check1_any (x : BL) (g : Nat) (ds : List BL) (w0 w : World) (hx : x.length ≤ 1000000) (hJ : chkJ g w0 ds w) :
    Calls Tryz.prog 111 #[.string (ba x), .pointer (some ⟨g, 0, none⟩)] w fun e w' => e = .returned (.tuple #[]) ∧ chkJ g w0 (ds ++ [x]) w' ∧ (∀ b, b ≠ g → w'.heap[b]? = w.heap[b]?) := by
  obtain ⟨hr, hb, hg⟩ := hJ
  have HR := hid hr
  have hf := hr.frozen 0
  have hc := hr.cell 0 (by simp)
  have hlt := hr.lt
  have HB := hid hb
  have HS := hid (anyLong_snoc ds x)
  have hsz := ba_size x
  have hsz1 : (ba x).size ≤ 1000000 := by omega
  have HSZ := hid hsz
  clear hr hb hsz
  by_cases h : 32 < x.length
  · have hd : 32 < ((ba x).size : Int) := by rw [HSZ.out]; omega
    go_enter Tryz.func111, Tryz.ntmps111
    go_wp2_with fail
    refine bodyPost_end (results_none rfl _ _ _) rfl ⟨rfl, ⟨?_, ?_, hg⟩, ?_⟩
    · have := HR.out.set 0 (.int .i64 11)
      rw [HS.out]
      simpa [h] using this
    · exact bset HB.out hg _
    · intro b hb; exact heap_setCell_other _ _ _ _ (by simpa using hb)
  · have hd : ¬ 32 < ((ba x).size : Int) := by rw [HSZ.out]; omega
    go_enter Tryz.func111, Tryz.ntmps111
    go_wp2_with fail
    refine bodyPost_end (results_none rfl _ _ _) rfl ⟨rfl, ⟨?_, ?_, hg⟩, ?_⟩
    · rw [HS.out]
      simpa [h] using HR.out
    · exact HB.out
    · intro b hb; rfl

theorem chk_eq (l : BL) (h1 : l ≠ []) (h2 : ¬ 0 ∈ l) (h3 : l.length ≤ 200) : chkE l = if anyLong (cuts 47 l) then 11 else 0 := by
  unfold chkE
  rw [if_neg h1, if_neg h2, if_neg (by omega)]
  rfl

set_option maxHeartbeats 1000000 in
theorem check_any (s : ByteArray) (w : World) (hs : s.size ≤ 1000000) :
    Calls Tryz.prog 97 #[.string s] w fun e' w' => e' = .returned (.int .i64 (chkE s.data.toList)) ∧ Below w.heap.size w w' := by
  have hne := ba_nil s
  have HE := hid (show chkE s.data.toList = if s.data.toList = [] then 3 else if 0 ∈ s.data.toList then 1 else if 200 < s.data.toList.length then 11 else if tooLong s.data.toList then 11 else 0 from rfl)
  have HRF := hid (Below.refl w.heap.size w)
  by_cases h1 : s.data.toList = []
  · rw [decide_eq_true h1] at hne
    have HF := hid (show chkE s.data.toList = 3 by rw [HE.out, if_pos h1])
    clear h1
    go_enter Tryz.func97, Tryz.ntmps97
    go_wp2_with fail
    go_ret
    exact ⟨ret_i64 HF.out.symm, HRF.out⟩
  · rw [decide_eq_false h1] at hne
    have H1 := hid h1
    clear h1
    have hix := index_nul s.data.toList
    have hge := Lib.indexByte_ge s.data.toList 0
    by_cases h2 : 0 ∈ s.data.toList
    · have h0 : 0 ≤ Lib.indexByte s.data.toList 0 := hix.2 h2
      have HF := hid (show chkE s.data.toList = 1 by rw [HE.out, if_neg H1.out, if_pos h2])
      clear h2 hix
      go_enter Tryz.func97, Tryz.ntmps97
      go_wp2_with fail
      refine (Tryz.strings_IndexByte _ _ _).mono ?_
      rintro e' w1 ⟨rfl, rfl⟩
      rw [show (0 : Int).toNat.toUInt8 = 0 from rfl]
      generalize Lib.indexByte s.data.toList 0 = x at *
      go_wp2_with fail
      go_ret
      exact ⟨ret_i64 HF.out.symm, HRF.out⟩
    · have h0 : Lib.indexByte s.data.toList 0 < 0 := by
        rcases Int.lt_or_le (Lib.indexByte s.data.toList 0) 0 with h | h
        · exact h
        · exact absurd (hix.1 h) h2
      have H2 := hid h2
      clear h2 hix
      by_cases h3 : 200 < s.size
      · have HF := hid (show chkE s.data.toList = 11 by rw [HE.out, if_neg H1.out, if_neg H2.out, if_pos (by rw [size_list]; exact h3)])
        have h3' : 200 < (s.size : Int) := by omega
        go_enter Tryz.func97, Tryz.ntmps97
        go_wp2_with fail
        refine (Tryz.strings_IndexByte _ _ _).mono ?_
        rintro e' w1 ⟨rfl, rfl⟩
        rw [show (0 : Int).toNat.toUInt8 = 0 from rfl]
        generalize Lib.indexByte s.data.toList 0 = x at *
        go_wp2_with fail
        go_ret
        exact ⟨ret_i64 HF.out.symm, HRF.out⟩
      · have HF := hid (chk_eq s.data.toList H1.out H2.out (by rw [size_list]; omega))
        have h3' : ¬ 200 < (s.size : Int) := by omega
        go_enter Tryz.func97, Tryz.ntmps97
        go_wp2_with fail
        refine (Tryz.strings_IndexByte _ _ _).mono ?_
        rintro e' w1 ⟨rfl, rfl⟩
        rw [show (0 : Int).toNat.toUInt8 = 0 from rfl]
        generalize Lib.indexByte s.data.toList 0 = x at *
        go_wp2_with fail
        refine (piecesC_any s w1.heap.size (chkJ w1.heap.size w1) _ hs ?_ ?_ ?_).mono ?_
        · exact ⟨(Row.new w1 36 [.int .i64 0]).alloc _, (bal _).alloc (by simp) _, Nat.le_refl _⟩
        · rintro ds wr q q' ⟨hr, hb, hg⟩ hit
          exact ⟨mvIter_row hr hit q', mvIter_below hb (by simp) q', hg⟩
        · intro ds x' wr hJ hx _
          refine (check1_any x' _ ds w1 wr (by omega) hJ).mono ?_
          rintro e w2 ⟨rfl, hJ2, hfr⟩
          refine ⟨rfl, hJ2, fun q hq => ?_⟩
          rw [hfr]
          · exact hq
          · intro e
            have := hJ.1.heap
            rw [← e, hq] at this
            cases this
        · rintro e' w2 ⟨rfl, hr, hb, _⟩
          have hc := hr.cell 0 (by simp)
          have HB := hid hb
          clear hr hb
          simp only [List.getElem_cons_zero] at hc
          rw [← HF.out] at hc
          go_wp2_with fail
          go_ret
          exact ⟨rfl, HB.out⟩

abbrev OwnT (w : World) (base : Nat) (v : Value) (ds : List BL) : Prop := w.ownsRow base 9 1 v ds.length (strs ds)
theorem strs_snoc (ds : List BL) (x : BL) : strs (ds ++ [x]) = strs ds ++ [.string (ba x)] := by simp [strs]
theorem infoStr : (Tryz.prog.info? 9).map (fun i => (i.zero, i.size, i.bytes)) = some (some (.string ByteArray.empty), 1, 16) := by kernel_rfl
theorem strs_len (ds : List BL) : (strs ds).length = ds.length := by simp [strs]

/-- What Parts' closure keeps: the variable holds the pieces that count. -/
def parJ (g base : Nat) (w0 : World) (ds : List BL) (w : World) : Prop := ∃ v, Row w g 125 [v] ∧ OwnT w base v (ds.filter goodP) ∧ Below w0.heap.size w0 w ∧ w0.heap.size ≤ g ∧ g < base ∧ base ≤ w.heap.size ∧ (ds.filter goodP = [] → v = .slice none 0 0)

theorem good_cases (x : BL) : (x = [] ∧ goodP x = false) ∨ (x ≠ [] ∧ x = [46] ∧ goodP x = false) ∨ (x ≠ [] ∧ x ≠ [46] ∧ goodP x = true) := by
  by_cases h1 : x = []
  · left; exact ⟨h1, by simp [goodP, h1]⟩
  · by_cases h2 : x = [46]
    · right; left; exact ⟨h1, h2, by simp [goodP, h2]⟩
    · right; right; exact ⟨h1, h2, by simp [goodP, h1, h2]⟩
theorem filt_snoc (ds : List BL) (x : BL) : (ds ++ [x]).filter goodP = if goodP x then ds.filter goodP ++ [x] else ds.filter goodP := by
  rw [List.filter_append]
  cases h : goodP x <;> simp [List.filter_cons, h]
theorem ba_beq (x y : BL) : ((ba x).toList == y) = decide (x = y) := by
  rw [Lib.toList_data, ba_list, Bool.eq_iff_iff, beq_iff_eq, decide_eq_true_eq]
theorem str_one (x : ByteArray) : ∀ u ∈ [Value.string x], u.oneCell' = true := by
  intro u hu
  simp at hu
  subst hu
  rfl

set_option maxHeartbeats 1000000 in
theorem parts1_any (x : BL) (g base : Nat) (ds : List BL) (w0 w : World) (hx : ds.length ≤ 1000000) (hJ : parJ g base w0 ds w) :
    Calls Tryz.prog 100 #[.string (ba x), .pointer (some ⟨g, 0, none⟩)] w fun e w' => e = .returned (.tuple #[]) ∧ parJ g base w0 (ds ++ [x]) w' ∧ (∀ (b : Nat) (s : ByteArray) (q : Nat), w.heap[b]? = some (Obj.stringIter s q) → w'.heap[b]? = some (Obj.stringIter s q)) := by
  obtain ⟨v, hr, ho, hb, hg, hgb, hbz, hnil⟩ := hJ
  have HNIL := hid hnil
  clear hnil
  have HFS := hid (filt_snoc ds x)
  have HR := hid hr
  have HO := hid ho
  have HB := hid hb
  have e1 : ((ba x).toList.isEmpty) = decide (x = []) := ba_nil (ba x)
  have e2 : ((ba x).toList == [46]) = decide (x = [46]) := ba_beq x [46]
  rcases good_cases x with ⟨h1, hgd⟩ | ⟨h1, h2, hgd⟩ | ⟨h1, h2, hgd⟩
  · rw [hgd] at HFS
    rw [decide_eq_true h1] at e1
    clear hr ho hb h1 hgd
    go_enter Tryz.func100, Tryz.ntmps100
    go_wp2_with fail
    refine bodyPost_end (results_none rfl _ _ _) rfl ⟨rfl, ⟨v, HR.out, ?_, HB.out, hg, hgb, hbz, ?_⟩, fun _ _ _ h => h⟩
    · rw [HFS.out]; exact HO.out
    · rw [HFS.out]; exact HNIL.out
  · rw [hgd] at HFS
    rw [decide_eq_false h1] at e1
    rw [decide_eq_true h2] at e2
    clear hr ho hb h1 hgd h2
    go_enter Tryz.func100, Tryz.ntmps100
    go_wp2_with fail
    refine bodyPost_end (results_none rfl _ _ _) rfl ⟨rfl, ⟨v, HR.out, ?_, HB.out, hg, hgb, hbz, ?_⟩, fun _ _ _ h => h⟩
    · rw [HFS.out]; exact HO.out
    · rw [HFS.out]; exact HNIL.out
  · rw [hgd] at HFS
    rw [decide_eq_false h1] at e1
    rw [decide_eq_false h2] at e2
    obtain ⟨i0, hi, hz0, hz1, hz2⟩ := info_parts infoStr
    have hc := hr.cell 0 (by simp)
    simp only [List.getElem_cons_zero] at hc
    have hlt := hr.lt
    obtain ⟨a9, c9, rfl, hC9, hn9, hnc, hcm⟩ := own_cel ho
    have HLn : Hid ((ds.filter goodP).length ≤ 1000000) := hid (Nat.le_trans (List.length_filter_le _ _) hx)
    have HL1 := hid (show (ds.filter goodP).length + 1 ≤ maxLen by have := HLn.out; unfold maxLen; omega)
    have HL2 := hid (show ((ds.filter goodP).length + 1) * 16 ≤ 140737488355328 by have := HLn.out; omega)
    have HL3 := hid (fun o => show base ≤ (w.alloc o).heap.size by simp only [World.size_alloc]; omega)
    have HN1 := hid (news_one w (.string (ba x)) 9)
    have HO2 := hid (fun o => ho.alloc o)
    have HR2 := hid (fun o => hr.alloc o)
    have HU2 := hid (fun o => hb.alloc hb.size o)
    have HNE := hid (own_ne ho (.inl hgb))
    have HAL := hid (fun (o : Obj) (b : Nat) (h : b < w.heap.size) => heap_alloc_old w o h)
    clear hr ho hb h1 hgd h2 hC9 hn9 hnc hcm
    go_enter Tryz.func100, Tryz.ntmps100
    go_wp2_with (at_builtin; go_must (refine wpList_append_own _ rfl _ _ 125 rfl base 9 i0 (.string ByteArray.empty) 1 16 Tryz.underlying125 hi hz0 hz1 hz2 rfl (by decide) (.slice a9 (ds.filter goodP).length c9) (ds.filter goodP).length (strs (ds.filter goodP)) rfl (HO2.out _) ⟨w.heap.size, 0, none⟩ 1 1 [.string (ba x)] rfl rfl HN1.out (str_one _) HL1.out HL2.out (HL3.out _) ?_; intro v' w9 hown' hgrow _; have r8 := (HR2.out _).grown hgrow HNE.out; have hb2 := (HU2.out _).grown hgrow (by simp; omega) (fun k hk => own_low HO.out (by omega) k hk); have HO3 := hid hown'; have HB2 := hid hb2; have HNE2 := hid (own_ne hown' (.inl hgb)); obtain ⟨G, c', rfl, hc1, hc2, hc3, hc4⟩ := own_open hown' (Nat.succ_pos _); have HR9 := hid r8; have HG := hid hgrow; have hf := r8.frozen 0; have hc := r8.cell 0 (by simp); have hlt9 := r8.lt; clear hown' hgrow hb2 r8))
    refine bodyPost_end (results_none rfl _ _ _) rfl ⟨rfl, ⟨_, HR9.out.set 0 _, ?_, bset HB2.out hg _, hg, hgb, by simp; omega, ?_⟩, ?_⟩
    · rw [HFS.out]
      simp only [if_true]
      exact own_ext (own_setOther HO3.out HNE2.out _) (by simp) (by rw [strs_snoc])
    · rw [HFS.out]
      simp
    · intro b s q h
      have hb := (Array.getElem?_eq_some_iff.1 h).1
      have hbg : b ≠ g := by
        rintro rfl
        have := HR.out.heap
        rw [h] at this
        cases this
      rw [heap_setCell_other _ _ _ _ (by simpa using hbg), HG.out.block b (by simp; omega) ?_, HAL.out _ _ hb]
      · exact h
      · intro e
        rcases own_block HO.out with h1 | ⟨g2, h1, h2, h3⟩
        · rw [h1] at e; cases e
        · rw [h1] at e
          cases e
          rcases HO.out.2 with ⟨h4, _⟩ | ⟨g3, cap, cur, h4, _, h5, _⟩
          · rw [h4] at h1; cases h1
          · rw [h4] at h1
            cases h1
            rw [h] at h5
            cases h5
end Go.Proofs.YtfaohejdaabalaaGreatDoor
namespace Go.Proofs.YtfaohejdaabalaaGreatDoor
open Go.RowKit Go.Sort

theorem parts_bad {l : BL} (h : ¬ chkE l = 0) : partsF l = [] ∧ rootF l = false := by
  unfold partsF rootF
  rw [if_neg h]
  simp [h]
theorem parts_good {l : BL} (h : chkE l = 0) : partsF l = (cuts 47 l).filter goodP ∧ rootF l = begB l := by
  unfold partsF rootF partsL
  rw [if_pos h]
  simp [h]

set_option maxHeartbeats 1000000 in
theorem parts2_any (s : ByteArray) (w : World) (hs : s.size ≤ 1000000) :
    Calls Tryz.prog 84 #[.string s] w fun e' w' => ∃ v, e' = .returned (.tuple #[v, .bool (rootF s.data.toList), .int .i64 (chkE s.data.toList)]) ∧ OwnT w' w.heap.size v (partsF s.data.toList) ∧ Below w.heap.size w w' ∧ (partsF s.data.toList = [] → v = .slice none 0 0) := by
  go_enter Tryz.func84, Tryz.ntmps84
  go_wp2_with fail
  refine (check_any s _ hs).mono ?_
  rintro e' w1 ⟨rfl, hb⟩
  have hb0 := bthen (bal _) hb
  have hr := (Row.new w 125 [.slice none 0 0]).below hb (by simp)
  have hz := hb.size
  simp only [World.size_alloc] at hz
  have HB := hid hb0
  have HR := hid hr
  have hc := hr.cell 0 (by simp)
  have hf := hr.frozen 0
  simp only [List.getElem_cons_zero] at hc
  have hlt : w.heap.size < w1.heap.size := by omega
  clear hb hb0 hr
  by_cases h : chkE s.data.toList = 0
  · have HP := hid (parts_good h)
    have HH := hid h
    rw [h]
    clear h
    go_wp2_with fail
    refine (piecesP_any s w.heap.size (parJ w.heap.size (w.heap.size + 1) w) _ hs ?_ ?_ ?_).mono ?_
    · exact ⟨_, HR.out.alloc _, World.ownsRow_nil _ _ _ _, HB.out.alloc (by omega) _, Nat.le_refl _, by omega, by show w.heap.size + 1 ≤ (w1.alloc _).heap.size; rw [World.size_alloc]; omega, fun _ => rfl⟩
    · rintro ds wr q q' ⟨v, hr, ho, hb, hg, hgb, hbz, hnil⟩ hit
      exact ⟨v, mvIter_row hr hit q', mvIter_own ho hit q', mvIter_below hb (by omega) q', hg, hgb, by rw [mvIter_size]; exact hbz, hnil⟩
    · intro ds x' wr hJ hx hds
      refine (parts1_any x' _ _ ds w wr (by omega) hJ).mono ?_
      rintro e w2 ⟨rfl, hJ2, hfr⟩
      exact ⟨rfl, hJ2, fun q hq => hfr _ _ _ hq⟩
    · rintro e' w2 ⟨rfl, v, hr, ho, hb, _, hgb, hbz, hnil⟩
      have HNIL := hid hnil
      clear hnil
      have HB2 := hid hb
      have HR2 := hid hr
      have HO2 := hid ho
      obtain ⟨a9, c9, rfl, _⟩ := own_cel ho
      have hc2 := hr.cell 0 (by simp)
      have hf2 := hr.frozen 0
      have hlt2 := hr.lt
      simp only [List.getElem_cons_zero] at hc2
      have HNE := hid (own_ne ho (.inl hgb))
      clear hb hr ho hc hf hlt HR HB
      go_wp2_with fail
      go_region_with (go_at_call 101; refine (begins_any _ _).mono ?_; rintro e' wx ⟨rfl, rfl⟩)
      all_goals (
        go_wp2_with fail
        refine bodyPost_ret (v := .tuple #[.slice a9 ((cuts 47 s.data.toList).filter goodP).length c9, .bool (begB s.data.toList), .int .i64 0]) (by simp [results, Tryz.results84, go_sem, hc2]) rfl ⟨_, by rw [HP.out.2, HH.out], ?_, ?_, ?_⟩
        · rw [HP.out.1]
          exact own_from (own_setOther HO2.out HNE.out _) (by omega)
        · repeat (first | with_reducible refine bset ?_ (Nat.le_refl _) _ | with_reducible refine Below.drew ?_)
          exact HB2.out
        · rw [HP.out.1]; exact HNIL.out)
  · have HP := hid (parts_bad h)
    have hn : (chkE s.data.toList != 0) = true := by simpa using h
    clear h
    go_wp2_with fail
    refine bodyPost_ret (v := .tuple #[.slice none 0 0, .bool false,   .int .i64 (chkE s.data.toList)]) (by simp [results, Tryz.results84, go_sem, hc]) rfl ⟨_, by rw [HP.out.2], ?_, bset HB.out (Nat.le_refl _) _, fun _ => rfl⟩
    rw [HP.out.1]
    exact World.ownsRow_nil _ _ _ _

theorem parts_any (s : ByteArray) (w : World) (hs : s.size ≤ 1000000) :
    Calls Tryz.prog 84 #[.string s] w fun e' w' => ∃ v, e' = .returned (.tuple #[v, .bool (rootF s.data.toList), .int .i64 (chkE s.data.toList)]) ∧ OwnT w' w.heap.size v (partsF s.data.toList) ∧ Below w.heap.size w w' :=
  (parts2_any s w hs).mono fun _ _ ⟨v, h1, h2, h3, _⟩ => ⟨v, h1, h2, h3⟩
end Go.Proofs.YtfaohejdaabalaaGreatDoor
