/- own once more, with what it leaves alone. -/
import Derived.Test.YtcafmhhfnleanaaIl
namespace Go.Proofs.Ytcafmhhfnleanaa
open Go.RowKit Go.Sort

theorem grown_below {w w' : World} (h : Below w.heap.size w w') (row : Option Nat) : w.grownBy w' row := ⟨h.os, h.tape, h.output, h.size, fun k hk _ => h.block k hk⟩
theorem grown_trans {w w1 w2 : World} {row : Option Nat} (h : w.grownBy w1 row) (h2 : w1.grownBy w2 row) : w.grownBy w2 row :=
  ⟨h2.os.trans h.os, h2.tape.trans h.tape, h2.output.trans h.output, Nat.le_trans h.size h2.size, fun k hk hne => by rw [h2.block k (Nat.lt_of_lt_of_le hk h.size) hne, h.block k hk hne]⟩
theorem grown_setX {w w' : World} {row : Option Nat} {G : Nat} (h : w.grownBy w' row) (hG : row = some G ∨ w.heap.size ≤ G) (o : Nat) (u : Value) : w.grownBy (w'.setCell ⟨G, o, none⟩ u) row :=
  ⟨h.os, h.tape, h.output, by rw [World.size_setCell]; exact h.size, fun k hk hne => by
    rw [heap_setCell_other _ _ _ _ (by
      intro e
      rcases hG with h1 | h1
      · apply hne; rw [h1]; exact congrArg some e
      · simp only at e; omega)]
    exact h.block k hk hne⟩
theorem at_two {w : World} {o : Obj} {row : Option Nat} {G n c : Nat} (h : (Value.slice (some ⟨G, 0, none⟩) n c).ownBlock = row ∨ (Value.slice (some ⟨G, 0, none⟩) n c).ownBlock = some (w.alloc o).heap.size) : row = some G ∨ w.heap.size ≤ G := by
  rcases h with h | h
  · exact .inl h.symm
  · right
    have := Option.some.inj h
    simp only [World.size_alloc] at this
    omega

set_option maxHeartbeats 4000000 in
theorem own2_any (v : Value) (lo : List RG) (G c : Nat) (a : Option Addr) (len cap : Nat) (l : List RG) (B : Nat) (w : World) (ho : w.ownsRow B 25 5 v lo.length (flat5 lo)) (hlo : lo.length ≤ 100000) (hBw : B ≤ w.heap.size)
    (hN : Rgs w (some ⟨G, 0, none⟩) (len + 1) (l ++ [rg77])) (hc : len + 1 ≤ c) (hcm : c ≤ maxLen) (hA : Rgs w a len l) (hl : len ≤ 300) (hG : G < B) (hAl : 0 < len → ∀ b, a = some b → b.block < B) :
    Calls Try.prog 22 #[v, .slice (some ⟨G, 0, none⟩) len c, .slice a len cap] w fun e w' => e = .returned (.bool true) ∧ Below B w w' ∧ w.grownBy w' v.ownBlock := by
  have HN := hid hN
  have HA := hid hA
  have HO1 := hid (fun o => ho.alloc o)
  have HB1 := hid (fun o => (Below.refl B w).alloc hBw o)
  have hlB := hid (fun o => show B ≤ (w.alloc o).heap.size by simp only [World.size_alloc]; omega)
  have HN5 := hid (new_rg w 25 ⟨5, 0, 0, 0, 0⟩)
  have hon : lo.length ≤ 1000000 := by omega
  clear hN hA ho
  go_enter Try.func22, Try.ntmps22
  go_wp2_with (at_builtin; go_must (refine wpList_app5 _ rfl _ _ 22 rfl B 25 Try.underlying22 infoReg v lo.length lo rfl (HO1.out _) w.heap.size ⟨5, 0, 0, 0, 0⟩ rfl HN5.out hon (hlB.out _) ?_; intro v2 w2 hown' hgrow hat; have HB2 := hid (grown_low (HO1.out _) hgrow (HB1.out _) (Nat.le_refl _) (hlB.out _)); obtain ⟨G2, c2, rfl, hc1, hc2, hc3, hc4⟩ := own_some5 hown' (Nat.succ_pos _); have HGR := hid (grown_trans (grown_below (bal _) v.ownBlock) hgrow); have HAT := hid (at_two hat); have HO2 := hid hown'; clear hown' hgrow hat))
  go_wp2_with fail
  go_loopw [7] (fun i wr => ∃ k : Nat, k ≤ lo.length + 1 ∧ i = .int .i64 k ∧ (∃ xs, wr.ownsRow B 25 5 (.slice (some ⟨G2, 0, none⟩) (lo.length + 1) c2) (lo.length + 1) xs) ∧ Below B w wr ∧ w.grownBy wr v.ownBlock) (fun i _ => lo.length + 1 - (intOf i).toNat)
  case atStart => exact ⟨0, Nat.zero_le _, rfl, ⟨_, HO2.out⟩, HB2.out, HGR.out⟩
  case round =>
    obtain ⟨k, hk, rfl, ⟨xs, hox⟩, hb, hgr⟩ := hrel
    have HGB := hid hgr
    clear hgr
    have HB := hid hb
    have HX := hid hox
    by_cases hlt : k < lo.length + 1
    · have d1 : decide ((k : Int) < (lo.length : Int) + 1) = true := by simp; omega
      have d1n : decide (k < lo.length + 1) = true := by simp; omega
      obtain ⟨⟨v0, v1, v2, v3, v4, y0, y1, y2, y3, y4⟩, hf, hlG, hbG⟩ := own_spots hox k hlt
      have f0 := hf (k * 5)
      have f1 := hf (k * 5 + 1)
      have f2 := hf (k * 5 + 2)
      have f3 := hf (k * 5 + 3)
      have f4 := hf (k * 5 + 4)
      clear hf hox hb
      go_wp2_with fail
      go_roundw
      case rel => exact ⟨k + 1, by omega, by go_num, ⟨_, ((((((HX.out.stored (k * 5) (.int .u64 0)).1.stored (k * 5 + 1) (.int .u64 9)).1.stored (k * 5 + 2) (.int .u8 0)).1.stored (k * 5 + 3) (.int .i64 0)).1.stored (k * 5 + 4) (.int .u64 0)).1)⟩, bset (bset (bset (bset (bset HB.out hbG _) hbG _) hbG _) hbG _) hbG _, grown_setX (grown_setX (grown_setX (grown_setX (grown_setX HGB.out HAT.out _ _) HAT.out _ _) HAT.out _ _) HAT.out _ _) HAT.out _ _⟩
      case measure => simp [intOf]; omega
    · have d1 : decide ((k : Int) < (lo.length : Int) + 1) = false := by simp; omega
      have d1n : decide (k < lo.length + 1) = false := by simp; omega
      clear hox hb
      go_wp2_with fail
      refine (kept_any _ _ _ _ _ l _ (HN.out.low HB.out (fun _ b hb' => by cases hb'; exact hG)) hc hcm (HA.out.low HB.out hAl) hl).mono ?_
      rintro e' w3 ⟨rfl, hb3⟩
      have HB3 := hid (HB.out.trans (hb3.mono (Nat.le_trans hBw HB.out.size)))
      have HG3 := hid (grown_trans HGB.out (grown_below hb3 v.ownBlock))
      clear hb3
      go_wp2_with fail
      go_ret
      exact ⟨rfl, HB3.out, HG3.out⟩
end Go.Proofs.Ytcafmhhfnleanaa
