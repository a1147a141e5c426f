
/- The reference: blank, trimmed, Parse. -/
import Derived.Test.YthamfhenadaapaaDoorU0
import Derived.Test.YthamfhenadaapaaDoorUC
namespace Go.Proofs.YthamfhenadaapaaDoor
open Go.RowKit Go.Sort

theorem blk_or (c : UInt8) : blk c = (decide (c = 32) || decide (c = 9)) := by
  unfold blk cs2
  rw [List.contains_eq_mem]
  simp
theorem byte_eq2 (c d : UInt8) (n : Int) (hn : (d.toNat : Int) = n) : ((c.toNat : Int) == n) = decide (c = d) := by
  rw [← hn]
  by_cases h : c = d
  · subst h; simp
  · rw [decide_eq_false h, beq_eq_false_iff_ne]
    intro e
    exact h (UInt8.toNat_inj.1 (by omega))
theorem ba_eta' (s : ByteArray) : ba s.data.toList = s := rfl
def lenT : Value → Nat
  | .string s => s.size
  | _ => 0
theorem str_cons (S : ByteArray) (h : 0 < S.size) : S.data.toList = S[0]'h :: (S.extract 1 S.size).data.toList := by
  have h1 := take_snoc2 S 0 h
  have e : (S.extract 1 S.size).data.toList = S.data.toList.drop 1 := by
    rw [ba_extract, ba_list, take_all _ _ (Nat.le_refl _)]
  rw [e]
  have := List.take_append_drop 1 S.data.toList
  rw [h1] at this
  simpa using this.symm
theorem str_snoc (S : ByteArray) (k : Nat) (h : k < S.size) (hk : S.size = k + 1) : S.data.toList = (S.extract 0 k).data.toList ++ [S[k]'h] := by
  have h1 := take_snoc2 S k h
  have e : (S.extract 0 k).data.toList = S.data.toList.take k := by
    rw [ba_extract, ba_list]; rfl
  rw [e, ← h1, take_all _ _ (by omega)]

end Go.Proofs.YthamfhenadaapaaDoor
