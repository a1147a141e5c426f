/- Contracts of package paths: pieces, handed each of the two closures. -/
import Derived.Test.YtgclemicgcbpjaaRows
import Derived.Test.YtgclemicgcbpjaaT
import Derived.Test.YtgclemicgcbpjaaQ
import Derived.Test.YtgclemicgcbpjaaShelf
import Derived.Deep.DeepMust
namespace Go.Proofs.Ytgclemicgcbpjaa
open Go.RowKit Go.Sort

theorem drop_take_self (l : List UInt8) (k : Nat) : (l.take k).drop k = [] := by simp
theorem take_more (l : List UInt8) (k n : Nat) : l.take (k + n) = l.take k ++ (l.drop k).take n := by rw [List.take_add]

theorem cfold_len (x : UInt8) (l : List UInt8) : ∀ st : List (List UInt8) × List UInt8, (l.foldl (cstep x) st).1.length ≤ st.1.length + l.length := by
  induction l with
  | nil => intro st; simp
  | cons c l ih =>
    intro st
    have h := ih (cstep x st c)
    have h2 : (cstep x st c).1.length ≤ st.1.length + 1 := by unfold cstep; split <;> simp
    simp only [List.foldl_cons, List.length_cons]
    omega
theorem cst_len (x : UInt8) (l : List UInt8) : (cst x l).1.length ≤ l.length := by
  have := cfold_len x l ([], [])
  simpa [cst] using this

theorem hit_at {s : ByteArray} {k f : Nat} (hk : k < s.size) (h47 : s[k] = 47) (hc : (cst 47 (s.data.toList.take k)).2 = (s.data.toList.take k).drop f) :
    cst 47 (s.data.toList.take (k + 1)) = ((cst 47 (s.data.toList.take k)).1 ++ [(s.data.toList.take k).drop f], []) := by
  have hl : k < s.data.toList.length := by rw [size_list]; exact hk
  have e : s.data.toList.take (k + 1) = s.data.toList.take k ++ [47] := by
    rw [List.take_succ_eq_append_getElem hl]
    congr 2
  rw [e, cst_hit, hc]

theorem miss_at {s : ByteArray} {k f n : Nat} (hf : f ≤ k) (hk : k + n ≤ s.size) (hno : ∀ j (hj : j < s.size), k ≤ j → j < k + n → s[j] ≠ 47) (hc : (cst 47 (s.data.toList.take k)).2 = (s.data.toList.take k).drop f) :
    cst 47 (s.data.toList.take (k + n)) = ((cst 47 (s.data.toList.take k)).1, (s.data.toList.take (k + n)).drop f) := by
  have hl : k + n ≤ s.data.toList.length := by rw [size_list]; exact hk
  rw [take_more, cst_miss, hc]
  · rw [List.drop_append_of_le_length (by simp; omega)]
  · intro c hcm
    obtain ⟨i, hi, e⟩ := List.getElem_of_mem hcm
    simp only [List.length_take, List.length_drop] at hi
    rw [List.getElem_take, List.getElem_drop] at e
    rw [← e]
    exact hno (k + i) (by omega) (by omega) (by omega)

set_option maxHeartbeats 1000000 in
theorem piecesP_any (s : ByteArray) (p : Nat) (J : List (List UInt8) → World → Prop) (w : World) (hs : s.size ≤ 1000000) (h0 : J [] (w.iter s 0))
    (hmv : ∀ ds wr q q', J ds wr → wr.heap[w.heap.size]? = some (.stringIter s q) → J ds (mvIter wr w.heap.size s q'))
    (hstep : ∀ ds (x : List UInt8) wr, J ds wr → x.length ≤ s.size → ds.length ≤ s.size → Calls Try.prog 55 #[.string (ba x), .pointer (some ⟨p, 0, none⟩)] wr fun e w' => e = .returned (.tuple #[]) ∧ J (ds ++ [x]) w' ∧ ∀ q, wr.heap[w.heap.size]? = some (.stringIter s q) → w'.heap[w.heap.size]? = some (.stringIter s q)) :
    Calls Try.prog 54 #[.string s, .func (.func 55) #[] #[.pointer (some ⟨p, 0, none⟩)]] w fun e' w' => e' = .returned (.tuple #[]) ∧ J (cuts 47 s.data.toList) w' := by
  have HMV := hid hmv
  have HST := hid hstep
  have H0 := hid h0
  clear hmv hstep h0
  go_enter Try.func54, Try.ntmps54
  go_wp2_with fail
  have hit0 := World.iter_heap w s 0
  obtain ⟨w0, hw0⟩ : ∃ w0, w0 = w.iter s 0 := ⟨_, rfl⟩
  rw [← hw0] at hit0 H0
  rw [← hw0]
  clear hw0
  generalize w.heap.size = g at *
  go_loopw [4] (fun v wr => ∃ k f : Nat, f ≤ k ∧ k ≤ s.size ∧ v = .int .i64 f ∧ (cst 47 (s.data.toList.take k)).2 = (s.data.toList.take k).drop f ∧ J (cst 47 (s.data.toList.take k)).1 wr ∧ wr.heap[g]? = some (.stringIter s k)) (fun _ wr => s.size - wr.iterPos g)
  case atStart => exact ⟨0, 0, Nat.le_refl _, Nat.zero_le _, rfl, rfl, H0.out, hit0⟩
  case round =>
    clear hit0 H0
    obtain ⟨k, f, hfk, hk, rfl, hc, hJ, hg⟩ := hrel
    have HIP : Hid (wr.iterPos g = k) := hid (by unfold World.iterPos; rw [hg])
    have HC := hid hc
    have HJ := hid hJ
    have HCL : Hid ((cst 47 (s.data.toList.take k)).1.length ≤ s.size) := hid (by have := cst_len 47 (s.data.toList.take k); simp at this; have h2 : s.data.size = s.size := rfl; omega)
    have HG := hid hg
    clear hc hJ hg
    by_cases hlt : k < s.size
    · rcases decode_47 s k hlt with ⟨h47, hd1, hd2⟩ | ⟨hd1, hd2, hd3, hno⟩
      · have hnx := fun ty => run_next_at (P := Try.prog) ty HG.out hlt
        rw [hd1, hd2] at hnx
        have HG2 := hid (mvIter_at (k + 1) HG.out)
        have HJ2 := hid (HMV.out _ _ _ (k + 1) HJ.out HG.out)
        have HCC := hid (hit_at hlt h47 HC.out)
        have hseg : s.extract f k = ba ((s.data.toList.take k).drop f) := ba_extract s f k
        have HSEG := hid hseg
        have HLEN : Hid (((s.data.toList.take k).drop f).length ≤ s.size) := hid (by simp; omega)
        clear hseg hd1 hd2 h47
        generalize mvIter wr g s (k + 1) = wn at *
        go_wp2_with fail
        rw [HSEG.out]
        refine (HST.out _ _ _ HJ2.out HLEN.out HCL.out).mono ?_
        rintro e' w2 ⟨rfl, hJ3, hG3⟩
        have HJ3 := hid hJ3
        have HG3 := hid (hG3 _ HG2.out)
        clear hJ3 hG3 hnx
        go_wp2_with fail
        go_roundw
        case rel => exact ⟨k + 1, k + 1, Nat.le_refl _, by omega, by go_num, by rw [HCC.out]; simp, by rw [HCC.out]; exact HJ3.out, HG3.out⟩
        case measure =>
          have e1 : w2.iterPos g = k + 1 := by unfold World.iterPos; rw [HG3.out]
          rw [e1, HIP.out]; omega
      · have hnx := fun ty => run_next_at (P := Try.prog) ty HG.out hlt
        have HG2 := hid (mvIter_at (k + (Utf8.decode s k).2) HG.out)
        have HJ2 := hid (HMV.out _ _ _ (k + (Utf8.decode s k).2) HJ.out HG.out)
        have HCC := hid (miss_at hfk hd3 hno HC.out)
        have hb : (((Utf8.decode s k).1 : Int) == 47) = false := by simp; omega
        clear hd1 hno
        generalize mvIter wr g s (k + (Utf8.decode s k).2) = wn at *
        generalize (Utf8.decode s k).1 = r at *
        generalize (Utf8.decode s k).2 = n at *
        go_wp2_with fail
        go_roundw
        case rel => exact ⟨k + n, f, by omega, by omega, rfl, by rw [HCC.out], by rw [HCC.out]; exact HJ2.out, HG2.out⟩
        case measure =>
          have e1 : wn.iterPos g = k + n := by unfold World.iterPos; rw [HG2.out]
          rw [e1, HIP.out]; omega
    · have hnx := fun ty => run_next_no (P := Try.prog) ty HG.out hlt
      have hk2 : k = s.size := by omega
      have HK2 := hid hk2
      have HSEG : Hid (s.extract f s.size = ba (s.data.toList.drop f)) := hid (by rw [ba_extract, List.take_of_length_le (by rw [size_list]; exact Nat.le_refl _)])
      have HCC := hid (show cuts 47 s.data.toList = (cst 47 (s.data.toList.take k)).1 ++ [s.data.toList.drop f] by
        have e : s.data.toList.take k = s.data.toList := List.take_of_length_le (by rw [size_list]; omega)
        unfold cuts
        have := HC.out
        rw [e] at this ⊢
        rw [this])
      have HLEN : Hid ((s.data.toList.drop f).length ≤ s.size) := hid (by simp)
      clear hk2
      go_wp2_with fail
      rw [HSEG.out]
      refine (HST.out _ _ _ HJ.out HLEN.out HCL.out).mono ?_
      rintro e' w2 ⟨rfl, hJ3, hG3⟩
      have HJ3 := hid hJ3
      clear hJ3 hG3 hnx
      go_wp2_with fail
      refine bodyPost_end (results_none rfl _ _ _) rfl ⟨rfl, ?_⟩
      rw [HCC.out]
      exact HJ3.out

set_option maxHeartbeats 1000000 in
theorem piecesC_any (s : ByteArray) (p : Nat) (J : List (List UInt8) → World → Prop) (w : World) (hs : s.size ≤ 1000000) (h0 : J [] (w.iter s 0))
    (hmv : ∀ ds wr q q', J ds wr → wr.heap[w.heap.size]? = some (.stringIter s q) → J ds (mvIter wr w.heap.size s q'))
    (hstep : ∀ ds (x : List UInt8) wr, J ds wr → x.length ≤ s.size → ds.length ≤ s.size → Calls Try.prog 67 #[.string (ba x), .pointer (some ⟨p, 0, none⟩)] wr fun e w' => e = .returned (.tuple #[]) ∧ J (ds ++ [x]) w' ∧ ∀ q, wr.heap[w.heap.size]? = some (.stringIter s q) → w'.heap[w.heap.size]? = some (.stringIter s q)) :
    Calls Try.prog 54 #[.string s, .func (.func 67) #[] #[.pointer (some ⟨p, 0, none⟩)]] w fun e' w' => e' = .returned (.tuple #[]) ∧ J (cuts 47 s.data.toList) w' := by
  have HMV := hid hmv
  have HST := hid hstep
  have H0 := hid h0
  clear hmv hstep h0
  go_enter Try.func54, Try.ntmps54
  go_wp2_with fail
  have hit0 := World.iter_heap w s 0
  obtain ⟨w0, hw0⟩ : ∃ w0, w0 = w.iter s 0 := ⟨_, rfl⟩
  rw [← hw0] at hit0 H0
  rw [← hw0]
  clear hw0
  generalize w.heap.size = g at *
  go_loopw [4] (fun v wr => ∃ k f : Nat, f ≤ k ∧ k ≤ s.size ∧ v = .int .i64 f ∧ (cst 47 (s.data.toList.take k)).2 = (s.data.toList.take k).drop f ∧ J (cst 47 (s.data.toList.take k)).1 wr ∧ wr.heap[g]? = some (.stringIter s k)) (fun _ wr => s.size - wr.iterPos g)
  case atStart => exact ⟨0, 0, Nat.le_refl _, Nat.zero_le _, rfl, rfl, H0.out, hit0⟩
  case round =>
    clear hit0 H0
    obtain ⟨k, f, hfk, hk, rfl, hc, hJ, hg⟩ := hrel
    have HIP : Hid (wr.iterPos g = k) := hid (by unfold World.iterPos; rw [hg])
    have HC := hid hc
    have HJ := hid hJ
    have HCL : Hid ((cst 47 (s.data.toList.take k)).1.length ≤ s.size) := hid (by have := cst_len 47 (s.data.toList.take k); simp at this; have h2 : s.data.size = s.size := rfl; omega)
    have HG := hid hg
    clear hc hJ hg
    by_cases hlt : k < s.size
    · rcases decode_47 s k hlt with ⟨h47, hd1, hd2⟩ | ⟨hd1, hd2, hd3, hno⟩
      · have hnx := fun ty => run_next_at (P := Try.prog) ty HG.out hlt
        rw [hd1, hd2] at hnx
        have HG2 := hid (mvIter_at (k + 1) HG.out)
        have HJ2 := hid (HMV.out _ _ _ (k + 1) HJ.out HG.out)
        have HCC := hid (hit_at hlt h47 HC.out)
        have hseg : s.extract f k = ba ((s.data.toList.take k).drop f) := ba_extract s f k
        have HSEG := hid hseg
        have HLEN : Hid (((s.data.toList.take k).drop f).length ≤ s.size) := hid (by simp; omega)
        clear hseg hd1 hd2 h47
        generalize mvIter wr g s (k + 1) = wn at *
        go_wp2_with fail
        rw [HSEG.out]
        refine (HST.out _ _ _ HJ2.out HLEN.out HCL.out).mono ?_
        rintro e' w2 ⟨rfl, hJ3, hG3⟩
        have HJ3 := hid hJ3
        have HG3 := hid (hG3 _ HG2.out)
        clear hJ3 hG3 hnx
        go_wp2_with fail
        go_roundw
        case rel => exact ⟨k + 1, k + 1, Nat.le_refl _, by omega, by go_num, by rw [HCC.out]; simp, by rw [HCC.out]; exact HJ3.out, HG3.out⟩
        case measure =>
          have e1 : w2.iterPos g = k + 1 := by unfold World.iterPos; rw [HG3.out]
          rw [e1, HIP.out]; omega
      · have hnx := fun ty => run_next_at (P := Try.prog) ty HG.out hlt
        have HG2 := hid (mvIter_at (k + (Utf8.decode s k).2) HG.out)
        have HJ2 := hid (HMV.out _ _ _ (k + (Utf8.decode s k).2) HJ.out HG.out)
        have HCC := hid (miss_at hfk hd3 hno HC.out)
        have hb : (((Utf8.decode s k).1 : Int) == 47) = false := by simp; omega
        clear hd1 hno
        generalize mvIter wr g s (k + (Utf8.decode s k).2) = wn at *
        generalize (Utf8.decode s k).1 = r at *
        generalize (Utf8.decode s k).2 = n at *
        go_wp2_with fail
        go_roundw
        case rel => exact ⟨k + n, f, by omega, by omega, rfl, by rw [HCC.out], by rw [HCC.out]; exact HJ2.out, HG2.out⟩
        case measure =>
          have e1 : wn.iterPos g = k + n := by unfold World.iterPos; rw [HG2.out]
          rw [e1, HIP.out]; omega
    · have hnx := fun ty => run_next_no (P := Try.prog) ty HG.out hlt
      have hk2 : k = s.size := by omega
      have HK2 := hid hk2
      have HSEG : Hid (s.extract f s.size = ba (s.data.toList.drop f)) := hid (by rw [ba_extract, List.take_of_length_le (by rw [size_list]; exact Nat.le_refl _)])
      have HCC := hid (show cuts 47 s.data.toList = (cst 47 (s.data.toList.take k)).1 ++ [s.data.toList.drop f] by
        have e : s.data.toList.take k = s.data.toList := List.take_of_length_le (by rw [size_list]; omega)
        unfold cuts
        have := HC.out
        rw [e] at this ⊢
        rw [this])
      have HLEN : Hid ((s.data.toList.drop f).length ≤ s.size) := hid (by simp)
      clear hk2
      go_wp2_with fail
      rw [HSEG.out]
      refine (HST.out _ _ _ HJ.out HLEN.out HCL.out).mono ?_
      rintro e' w2 ⟨rfl, hJ3, hG3⟩
      have HJ3 := hid hJ3
      clear hJ3 hG3 hnx
      go_wp2_with fail
      refine bodyPost_end (results_none rfl _ _ _) rfl ⟨rfl, ?_⟩
      rw [HCC.out]
      exact HJ3.out
end Go.Proofs.Ytgclemicgcbpjaa
