/- Contracts of packages envs and hostelref03: one text. -/
import Derived.Test.YtoikoljadgnebaaRows
import Derived.Test.YtoikoljadgnebaaZM
import Derived.Test.YtoikoljadgnebaaQ
import Derived.Test.YtoikoljadgnebaaE
import Derived.Test.YtoikoljadgnebaaShelf
import Derived.Deep.DeepMust
namespace Go.Proofs.Ytoikoljadgnebaa
open Go.RowKit Go.Sort

theorem ba_eta (s : ByteArray) : ba s.data.toList = s := rfl
theorem byte_eq (s : ByteArray) (k : Nat) (h : k < s.size) (c : UInt8) (n : Int) (hn : (c.toNat : Int) = n) : ((s[k].toNat : Int) == n) = decide (s[k] = c) := by
  rw [Bool.eq_iff_iff, beq_iff_eq, decide_eq_true_eq, ← hn]
  constructor
  · intro h; exact UInt8.toNat_inj.1 (by omega)
  · intro h; rw [h]
theorem take_snoc2 (s : ByteArray) (k : Nat) (h : k < s.size) : s.data.toList.take (k + 1) = s.data.toList.take k ++ [s[k]] := by
  rw [List.take_succ_eq_append_getElem (by simpa using h)]; rfl
theorem take_all (s : ByteArray) (k : Nat) (h : s.size ≤ k) : s.data.toList.take k = s.data.toList := List.take_of_length_le (by rw [size_list]; exact h)

theorem hasNought_any (s : ByteArray) (w : World) :
    Calls Try.prog 34 #[.string s] w fun e' w' => e' = .returned (.bool (has0 s.data.toList)) ∧ w = w' := by
  go_enter Try.func34, Try.ntmps34
  go_wp2_with fail
  refine (Try.strings_IndexByte _ _ _).mono ?_
  rintro e' w1 ⟨rfl, rfl⟩
  rw [show (0 : Int).toNat.toUInt8 = 0 from rfl]
  by_cases h : 0 ∈ s.data.toList
  · rw [idx_mem h]
    have HF := hid (show true = has0 s.data.toList by unfold has0; rw [decide_eq_true h])
    clear h
    go_wp2_with fail
    go_ret
    exact ⟨ret_bool HF.out, rfl⟩
  · rw [idx_no h]
    have HF := hid (show false = has0 s.data.toList by unfold has0; rw [decide_eq_false h])
    clear h
    go_wp2_with fail
    go_ret
    exact ⟨ret_bool HF.out, rfl⟩

def SplitPost (s : ByteArray) (w : World) (e : Ending) (w' : World) : Prop := e = .returned (.tuple #[.string (ba (nmS s.data.toList)), .string (ba (vlS s.data.toList)), .bool (okS s.data.toList)]) ∧ ∃ n, w' = w.drewN n
theorem split_ret {s : ByteArray} {a b : ByteArray} {c : Bool} {w w' : World} {n : Nat} (h1 : a = ba (nmS s.data.toList)) (h2 : b = ba (vlS s.data.toList)) (h3 : c = okS s.data.toList) (hw : w' = w.drewN n) : SplitPost s w (.returned (.tuple #[.string a, .string b, .bool c])) w' := by
  subst h1 h2 h3; exact ⟨rfl, n, hw⟩
theorem splitE_any (s : ByteArray) (w : World) (hs : s.size ≤ 140737488351232) :
    Calls Try.prog 12 #[.string s] w (SplitPost s w) := by
  go_enter Try.func12, Try.ntmps12
  go_wp2_with fail
  refine (Try.strings_IndexByte _ _ _).mono ?_
  rintro e' w1 ⟨rfl, rfl⟩
  rw [show (61 : Int).toNat.toUInt8 = 61 from rfl]
  by_cases h : 61 ∈ s.data.toList
  · rw [idx_mem h]
    have hlt := upTo_len_lt h
    rw [size_list] at hlt
    by_cases h0 : upTo 61 s.data.toList = []
    · have hok : okS s.data.toList = false := by unfold okS; rw [h0]; simp
      have HN := hid (nmS_no hok)
      have HO := hid hok
      have hz : (upTo 61 s.data.toList).length = 0 := by rw [h0]; rfl
      rw [hz]
      clear h h0 hok hz hlt
      go_wp2_with fail
      go_ret3
      exact split_ret (n := 0) (by rw [HN.out.1]; rfl) (by rw [HN.out.2]; rfl) HO.out.symm rfl
    · have hok : okS s.data.toList = true := by unfold okS; simp [h, h0]
      have hpos : 0 < (upTo 61 s.data.toList).length := List.length_pos_iff.2 h0
      have HE1 := hid (show s.extract 0 (upTo 61 s.data.toList).length = ba (nmS s.data.toList) by
        rw [(nmS_ok hok).1, ba_extract]
        obtain ⟨m, h3, _⟩ := upTo_split h
        generalize upTo 61 s.data.toList = q at *
        rw [h3, List.append_assoc, List.take_left]; rfl)
      have HE2 := hid (show s.extract ((upTo 61 s.data.toList).length + 1) s.size = ba (vlS s.data.toList) by
        rw [(nmS_ok hok).2, ba_extract, take_all _ _ (Nat.le_refl _)])
      have HO := hid hok
      clear h h0 hok
      generalize (upTo 61 s.data.toList).length = n at *
      have hd : decide ((n : Int) ≤ 0) = false := by simp; omega
      go_wp2_with fail
      go_quiet (fail)
      go_wp2_with fail
      go_ret3
      exact split_ret (n := nq) HE1.out HE2.out HO.out.symm rfl
  · rw [idx_no h]
    have hok : okS s.data.toList = false := by unfold okS; rw [decide_eq_false h]; rfl
    have HN := hid (nmS_no hok)
    have HO := hid hok
    clear h hok
    go_wp2_with fail
    go_ret3
    exact split_ret (n := 0) (by rw [HN.out.1]; rfl) (by rw [HN.out.2]; rfl) HO.out.symm rfl

theorem names_any (s n : ByteArray) (w : World) (hs : s.size ≤ 140737488351232) :
    Calls Try.prog 32 #[.string s, .string n] w fun e' w' => e' = .returned (.bool (named s.data.toList n.data.toList)) ∧ ∃ k, w' = w.drewN k := by
  go_enter Try.func32, Try.ntmps32
  go_wp2_with fail
  refine (splitE_any _ _ hs).mono ?_
  rintro e' w1 ⟨rfl, k, rfl⟩
  have HN := hid (show named s.data.toList n.data.toList = (okS s.data.toList && decide (nmS s.data.toList = n.data.toList)) from rfl)
  have hq := ba_beq2 (nmS s.data.toList) n.data.toList
  rw [ba_eta] at hq
  cases ho : okS s.data.toList
  · rw [ho] at HN
    have HF := hid (show false = named s.data.toList n.data.toList by rw [HN.out]; rfl)
    clear HN ho hq
    go_wp2_with fail
    go_ret
    exact ⟨ret_bool HF.out, k, rfl⟩
  · rw [ho] at HN
    have HF := hid (show decide (nmS s.data.toList = n.data.toList) = named s.data.toList n.data.toList by rw [HN.out]; rfl)
    clear HN ho
    go_wp2_with fail
    go_ret
    exact ⟨ret_bool HF.out, k, rfl⟩
end Go.Proofs.Ytoikoljadgnebaa
