
/- envs.pieces: the iterator and its contract. -/
import Derived.Test.YtnepccjcjkeneaaYJ
import Derived.Test.YtnepccjcjkeneaaZM
import Derived.Test.YtnepccjcjkeneaaShelf
import Derived.Test.YtnepccjcjkeneaaRF
import Derived.Test.YtnepccjcjkeneaaKE
namespace Go.Proofs.Ytnepccjcjkeneaa
open Go.RowKit Go.Sort Go.Shelf
attribute [local go_sem] Oper.semAt_some

theorem grown_below {w w' : World} (h : Below w.heap.size w w') (row : Option Nat) : w.grownBy w' row := ⟨h.os, h.tape, h.output, h.size, fun k hk _ => h.block k hk⟩
theorem grown_trans {w w1 w2 : World} {row : Option Nat} (h : w.grownBy w1 row) (h2 : w1.grownBy w2 row) : w.grownBy w2 row :=
  ⟨h2.os.trans h.os, h2.tape.trans h.tape, h2.output.trans h.output, Nat.le_trans h.size h2.size, fun k hk hne => by rw [h2.block k (Nat.lt_of_lt_of_le hk h.size) hne, h.block k hk hne]⟩
theorem grown_setX {w w' : World} {row : Option Nat} {G : Nat} (h : w.grownBy w' row) (hG : row = some G ∨ w.heap.size ≤ G) (o : Nat) (u : Value) : w.grownBy (w'.setCell ⟨G, o, none⟩ u) row :=
  ⟨h.os, h.tape, h.output, by rw [World.size_setCell]; exact h.size, fun k hk hne => by
    rw [heap_setCell_other _ _ _ _ (by
      intro e
      rcases hG with h1 | h1
      · apply hne; rw [h1]; exact congrArg some e
      · simp only at e; omega)]
    exact h.block k hk hne⟩
theorem pieces_any (v : ByteArray) (w : World) :
    Calls Try.prog 73 #[.string v] w fun e' w' => e' = .returned (.func (.func 84) #[] #[.pointer (some ⟨w.heap.size, 0, none⟩)]) ∧ w' = w.alloc (.cells #[.string v] 9) := by
  go_enter Try.func73, Try.ntmps73
  go_wp2_with fail
  go_ret
  exact ⟨rfl, rfl⟩

def lenC (B : Nat) (w : World) : Nat := match w.cell? ⟨B, 0, none⟩ with | some (.string s) => s.size | _ => 0
theorem lenC_row {B : Nat} {w : World} {s : ByteArray} (h : Row w B 9 [.string s]) : lenC B w = s.size := by
  unfold lenC; rw [h.cell 0 (by simp)]; rfl

theorem cuts_pos (x : UInt8) (l : BL) : 0 < (cuts x l).length := by simp [cuts]

set_option maxHeartbeats 2000000 in
theorem pieces_seq (v : BL) (B : Nat) (w : World) (hv : v.length ≤ 1000000) (hr : Row w B 9 [.string (ba v)]) :
    SeqMine Try.prog 84 #[.pointer (some ⟨B, 0, none⟩)] (fun x : BL => #[Value.string (ba x)]) (some B) (fun A C => C.heap[B]? = A.heap[B]?) (fun xs => xs = cuts 58 v) (fun _ => True) (cuts 58 v).length w := by
  intro l J Jx W hW hJ hJx hY h0
  have HJ := hid hJ
  have HY := hid hY
  have H0 := hid h0
  have HR := hid (hr.below hW hr.lt)
  clear hJ hJx hY h0 hr
  refine callsIn_of_wp Try.func84 rfl trivial ?_ rfl
  simp only [Try.ntmps84, List.size_toArray, List.length_cons, List.length_nil, Nat.reduceAdd, Nat.reduceSub, Array.replicate_succ, Array.replicate_zero, List.push_toArray, List.append_toArray, List.nil_append, List.cons_append]
  gi_wp2
  gi_loopw [3] (fun _ wr => ∃ (pre : List BL) (rest : BL), Row wr B 9 [.string (ba rest)] ∧ cuts 58 v = pre ++ cuts 58 rest ∧ rest.length ≤ 1000000 ∧ J pre wr) (fun _ wr => lenC B wr)
  case atStart => exact ⟨[], v, HR.out, rfl, hv, H0.out⟩
  case round =>
    obtain ⟨pre, rest, hr, hx, hl, hj⟩ := hrel
    have hc := hr.cell 0 (by simp)
    simp only [List.getElem_cons_zero] at hc
    have HX := hid hx
    have HRR := hid hr
    have HLC := hid (lenC_row hr)
    have hN : pre.length < (cuts 58 v).length := by rw [hx, List.length_append]; have := cuts_pos 58 rest; omega
    have HN := hid hN
    clear hx hr hN
    gi_wp2_with fail
    refine ⟨trivial, (callsIn_wide.2 (Try.strings_IndexByte _ _ _)).mono ?_⟩
    rintro e' w1 ⟨rfl, hw⟩
    obtain rfl := hw.symm
    rw [show (58 : Int).toNat.toUInt8 = 58 from rfl, ba_list]
    by_cases h : 58 ∈ rest
    · rw [idx_mem h]
      obtain ⟨m, h3, h4⟩ := upTo_split h
      have hlt := upTo_len_lt h
      have HC := hid (show cuts 58 rest = [upTo 58 rest] ++ cuts 58 (rest.drop ((upTo 58 rest).length + 1)) by
        rw [h4]
        conv => lhs; rw [h3]
        rw [cuts_mid, cuts_no (fun c hc => (upTo_mem hc).1)])
      have hseg : (ba rest).extract 0 (upTo 58 rest).length = ba (upTo 58 rest) := by
        rw [ba_extract, ba_list]
        generalize upTo 58 rest = q at *
        rw [h3, List.append_assoc, List.take_left]; rfl
      have HSG2 := hid (show (ba rest).extract ((upTo 58 rest).length + 1) (ba rest).size = ba (rest.drop ((upTo 58 rest).length + 1)) by
        rw [ba_extract, ba_list, List.take_of_length_le (by rw [ba_size]; exact Nat.le_refl _)])
      obtain ⟨fn, tmps, assign, body, hy, hR⟩ := HY.out pre (upTo 58 rest) wr hj HN.out
      rw [← hseg] at hy
      have HRD := hid hR
      have hz : (ba rest).size = rest.length := ba_size _
      have hz2 : (upTo 58 rest).length < (ba rest).size := by omega
      have HZ := hid hz
      clear h h3 h4 hseg hR hj hz
      generalize hn : (upTo 58 rest).length = n at *
      have hd : decide ((n : Int) < 0) = false := by simp
      have hn1 : (ba rest).size ≤ 1000000 := by have := HZ.out; omega
      clear hlt hn
      gi_wp2_with fail
      refine (HRD.out).mono ?_
      rintro e' w3 (⟨rfl, hj3, hk3⟩ | ⟨rfl, hjx⟩)
      · have hr3 : Row w3 B 9 [.string (ba rest)] := ⟨by rw [hk3]; exact HRR.out.heap⟩
        have hc3 := hr3.cell 0 (by simp)
        simp only [List.getElem_cons_zero] at hc3
        have hf3 := hr3.frozen 0
        have hl3 := hr3.lt
        have HR3 := hid hr3
        have HJ3 := hid hj3
        clear hr3 hj3 hk3 hc hy
        gi_wp2_with fail
        go_roundw
        case rel =>
          have h5 := HR3.out.set 0 (.string ((ba rest).extract (n + 1) (ba rest).size))
          rw [HSG2.out] at h5 ⊢
          refine ⟨pre ++ [upTo 58 rest], rest.drop (n + 1), h5, by rw [HX.out, HC.out, List.append_assoc], by rw [List.length_drop]; omega, HJ.out _ _ _ HJ3.out (grown_setX (grown_below (Below.refl _ _) _) (.inl rfl) 0 _)⟩
        case measure =>
          have h5 := HR3.out.set 0 (.string ((ba rest).extract (n + 1) (ba rest).size))
          rw [lenC_row h5, HLC.out]
          have := HZ.out
          rw [HSG2.out, ba_size, List.length_drop]
          omega
      · have HJX := hid hjx
        clear hjx hy
        gi_wp2_with fail
        refine bodyPost_ret (results_none rfl _ _ _) rfl ?_
        exact ⟨⟨_, rfl⟩, .inr ⟨_, trivial, HJX.out⟩⟩
    · rw [idx_no h]
      have HC := hid (show cuts 58 rest = [rest] from cuts_no (fun c hc => by rintro rfl; exact h hc))
      obtain ⟨fn, tmps, assign, body, hy, hR⟩ := HY.out pre rest wr hj HN.out
      have HRD := hid hR
      clear h hR hj
      gi_wp2_with fail
      refine (HRD.out).mono ?_
      rintro e' w3 (⟨rfl, hj3, hk3⟩ | ⟨rfl, hjx⟩)
      · have HJ3 := hid hj3
        clear hj3 hk3 hc hy
        gi_wp2_with fail
        refine bodyPost_ret (results_none rfl _ _ _) rfl ?_
        exact ⟨⟨_, rfl⟩, .inl ⟨_, by rw [HX.out, HC.out], HJ3.out⟩⟩
      · have HJX := hid hjx
        clear hjx hy
        gi_wp2_with fail
        refine bodyPost_ret (results_none rfl _ _ _) rfl ?_
        exact ⟨⟨_, rfl⟩, .inr ⟨_, trivial, HJX.out⟩⟩
end Go.Proofs.Ytnepccjcjkeneaa
