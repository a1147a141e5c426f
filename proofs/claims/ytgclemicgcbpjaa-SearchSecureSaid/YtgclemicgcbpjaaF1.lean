/- vfs: the node of a number; whether it is a directory. -/
import Derived.Test.YtgclemicgcbpjaaF0
import Derived.Laws.EntriesVeiled
namespace Go.Proofs.Ytgclemicgcbpjaa
open Go.RowKit Go.Sort

theorem ndV_kind (k : Int) (b : Nat) : ndV (ndT k, b) = if k = 2 then .iface 81 (.pointer (some ⟨b, 0, none⟩)) else if k = 3 then .iface 116 (.pointer (some ⟨b, 0, none⟩)) else .iface 91 (.pointer (some ⟨b, 0, none⟩)) := by
  unfold ndV ndT
  split
  · rfl
  · split <;> rfl

theorem me_d (n b : Nat) (w : World) : (method (n + 1) 81 (.pointer (some ⟨b, 0, none⟩)) "hostel/vfs.self").run Try.prog w = .ok (106, .pointer (some ⟨b, 0, none⟩)) w := by kernel_rfl
theorem me_l (n b : Nat) (w : World) : (method (n + 1) 116 (.pointer (some ⟨b, 0, none⟩)) "hostel/vfs.self").run Try.prog w = .ok (106, .pointer (some ⟨b, 0, none⟩)) w := by kernel_rfl
theorem me_f (n b : Nat) (w : World) : (method (n + 1) 91 (.pointer (some ⟨b, 0, none⟩)) "hostel/vfs.self").run Try.prog w = .ok (106, .pointer (some ⟨b, 0, none⟩)) w := by kernel_rfl
theorem ta_dd (b : Nat) (w : World) : (Instr.typeAssert (.iface 81 (.pointer (some ⟨b, 0, none⟩))) 75 81 true).run Try.prog w = .ok (.tuple #[.pointer (some ⟨b, 0, none⟩), .bool true]) w := by kernel_rfl
theorem ta_dl (b : Nat) (w : World) : (Instr.typeAssert (.iface 116 (.pointer (some ⟨b, 0, none⟩))) 75 81 true).run Try.prog w = .ok (.tuple #[.pointer none, .bool false]) w := by kernel_rfl
theorem ta_df (b : Nat) (w : World) : (Instr.typeAssert (.iface 91 (.pointer (some ⟨b, 0, none⟩))) 75 81 true).run Try.prog w = .ok (.tuple #[.pointer none, .bool false]) w := by kernel_rfl
theorem ta_ld (b : Nat) (w : World) : (Instr.typeAssert (.iface 81 (.pointer (some ⟨b, 0, none⟩))) 75 116 true).run Try.prog w = .ok (.tuple #[.pointer none, .bool false]) w := by kernel_rfl
theorem ta_ll (b : Nat) (w : World) : (Instr.typeAssert (.iface 116 (.pointer (some ⟨b, 0, none⟩))) 75 116 true).run Try.prog w = .ok (.tuple #[.pointer (some ⟨b, 0, none⟩), .bool true]) w := by kernel_rfl
theorem ta_lf (b : Nat) (w : World) : (Instr.typeAssert (.iface 91 (.pointer (some ⟨b, 0, none⟩))) 75 116 true).run Try.prog w = .ok (.tuple #[.pointer none, .bool false]) w := by kernel_rfl
theorem ta_fd (b : Nat) (w : World) : (Instr.typeAssert (.iface 81 (.pointer (some ⟨b, 0, none⟩))) 75 91 true).run Try.prog w = .ok (.tuple #[.pointer none, .bool false]) w := by kernel_rfl
theorem ta_fl (b : Nat) (w : World) : (Instr.typeAssert (.iface 116 (.pointer (some ⟨b, 0, none⟩))) 75 91 true).run Try.prog w = .ok (.tuple #[.pointer none, .bool false]) w := by kernel_rfl
theorem ta_ff (b : Nat) (w : World) : (Instr.typeAssert (.iface 91 (.pointer (some ⟨b, 0, none⟩))) 75 91 true).run Try.prog w = .ok (.tuple #[.pointer (some ⟨b, 0, none⟩), .bool true]) w := by kernel_rfl

theorem isDir_any (k : Int) (b : Nat) (w : World) :
    Calls Try.prog 35 #[ndV (ndT k, b)] w fun e w' => e = .returned (.bool (decide (k = 2))) ∧ w = w' := by
  rw [ndV_kind]
  by_cases h2 : k = 2
  · rw [if_pos h2, decide_eq_true h2]
    clear h2
    have ht := ta_dd b
    go_enter Try.func35, Try.ntmps35
    go_wp2_with fail
    go_ret
    exact ⟨rfl, rfl⟩
  · rw [if_neg h2, decide_eq_false h2]
    clear h2
    by_cases h3 : k = 3
    · rw [if_pos h3]
      clear h3
      have ht := ta_dl b
      go_enter Try.func35, Try.ntmps35
      go_wp2_with fail
      go_ret
      exact ⟨rfl, rfl⟩
    · rw [if_neg h3]
      clear h3
      have ht := ta_df b
      go_enter Try.func35, Try.ntmps35
      go_wp2_with fail
      go_ret
      exact ⟨rfl, rfl⟩

theorem self_any (b : Nat) (w : World) :
    Calls Try.prog 106 #[.pointer (some ⟨b, 0, none⟩)] w fun e w' => e = .returned (.pointer (some ⟨b, 0, none⟩)) ∧ w = w' := by
  go_enter Try.func106, Try.ntmps106
  go_wp2_with fail
  go_ret
  exact ⟨rfl, rfl⟩

def nodeE (t : FT) (i : Int) : Value := if 0 ≤ i ∧ i < (t.L.length : Int) then .tuple #[ndV (t.pt i.toNat), .bool true] else .tuple #[.nilIface, .bool false]

theorem node_any (F : Nat) (t : FT) (i : Int) (w : World) (h : FSat w F t) :
    Calls Try.prog 34 #[.pointer (some ⟨F, 0, none⟩), .int .i64 i] w fun e w' => e = .returned (nodeE t i) ∧ w = w' := by
  obtain ⟨a, c, c0, c1, hF, b, off, rfl, hbz, hat⟩ := h.at
  have HAT := hid hat
  clear hat h
  by_cases h0 : i < 0
  · have HN := hid (show nodeE t i = .tuple #[.nilIface, .bool false] by unfold nodeE; rw [if_neg (by omega)])
    have d0 : decide (i < 0) = true := by simpa using h0
    clear h0
    go_enter Try.func34, Try.ntmps34
    go_wp2_with fail
    go_ret2
    exact ⟨by rw [HN.out]; rfl, rfl⟩
  · have d0 : decide (i < 0) = false := by simpa using h0
    by_cases h1 : i < (t.L.length : Int)
    · obtain ⟨k, rfl⟩ : ∃ k : Nat, i = (k : Int) := ⟨i.toNat, by omega⟩
      have HN := hid (show nodeE t (k : Int) = .tuple #[ndV (t.pt k), .bool true] by unfold nodeE; rw [if_pos (by omega)]; rfl)
      have d1 : decide ((t.L.length : Int) ≤ (k : Int)) = false := by simp; omega
      have d1n : decide (t.L.length ≤ k) = false := by simp; omega
      have hk : k < t.L.length := by omega
      have hx := HAT.out k hk
      clear h0 h1
      generalize ndV (t.pt k) = v at *
      go_enter Try.func34, Try.ntmps34
      go_wp2_with fail
      go_ret2
      exact ⟨by rw [HN.out]; rfl, rfl⟩
    · have HN := hid (show nodeE t i = .tuple #[.nilIface, .bool false] by unfold nodeE; rw [if_neg (by omega)])
      have d1 : decide ((t.L.length : Int) ≤ i) = true := by simp; omega
      clear h0 h1
      go_enter Try.func34, Try.ntmps34
      go_wp2_with fail
      go_ret2
      exact ⟨by rw [HN.out]; rfl, rfl⟩
end Go.Proofs.Ytgclemicgcbpjaa
