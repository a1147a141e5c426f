/- The reference's joined and few. -/
import Derived.Test.YtcafmhhfnleanaaIa
namespace Go.Proofs.Ytcafmhhfnleanaa
open Go.RowKit Go.Sort

set_option maxHeartbeats 4000000 in
theorem joined_any (a : Option Addr) (len cap : Nat) (l : List RG) (w : World) (hA : Rgs w a len l) (hl : len ≤ 2000) :
    Calls Try.prog 40 #[.slice a len cap] w fun e w' => ∃ v, e = .returned v ∧ w'.ownsRow w.heap.size 25 5 v (joinR l).length (flat5 (joinR l)) ∧ Below w.heap.size w w' := by
  obtain rfl := hA.hlen
  have HA := hid hA
  clear hA
  go_enter Try.func40, Try.ntmps40
  go_wp2_with fail
  go_loopw [3, 4] (fun v i wr => ∃ (sv : Value) (k : Nat), sv = v ∧ k ≤ l.length ∧ i = .int .i64 k ∧ wr.ownsRow w.heap.size 25 5 sv (joinR (l.take k)).length (flat5 (joinR (l.take k))) ∧ Below w.heap.size w wr) (fun _ i _ => l.length - (intOf i).toNat)
  case atStart => exact ⟨_, 0, rfl, Nat.zero_le _, rfl, own_rgs_nil, Below.refl _ _⟩
  case round =>
    obtain ⟨sv, k, hsv, hk, rfl, ho, hb⟩ := hrel
    subst hsv
    have HB := hid hb
    have hsz := hb.size
    by_cases hlt : k < l.length
    · have d1 : decide ((k : Int) < (l.length : Int)) = true := by simp; omega
      have d1n : decide (k < l.length) = true := by simp; omega
      obtain ⟨b, off, rfl, hcell⟩ := HA.out.some_of (by omega)
      have HY := hid ((hcell k hlt).below hb)
      have hlb := HY.out.lt
      have hbw := hid (show b < w.heap.size from (hcell k hlt).lt)
      have HT := hid (joinR_take l k hlt)
      have hln := joinR_len (l.take k)
      have hlk : (l.take k).length ≤ 2000 := by simp; omega
      have ez : (0 : Int) ≤ (k : Int) := by omega
      have eb : (k : Int) < (l.length : Int) := by omega
      clear hb hcell
      generalize l[k] = x at *
      generalize joinR (l.take k) = out at *
      rcases List.eq_nil_or_concat out with rfl | ⟨init, z, rfl⟩
      · have HJ := hid (HT.out.trans (joinStep_nil x))
        obtain ⟨a2, c2, rfl, _, hn2, _, _, _⟩ := own_rgs ho
        have HO0 := hid ho
        simp only [List.length_nil] at *
        obtain ⟨y0, y1, y2, y3, y4⟩ := HY.out
        clear ho hn2
        go_wp2_with fail
        go_quiet (fail)
        have HOq := hid (own_below HO0.out (bdN (Below.refl wr.heap.size wr) nq))
        have HBq := hid (bthen HB.out (bdN (Below.refl wr.heap.size wr) nq))
        have HYq := hid (HY.out.below (bdN (Below.refl wr.heap.size wr) nq))
        have hBW := hid (show w.heap.size ≤ (wr.drewN nq).heap.size from HBq.out.size)
        clear y0 y1 y2 y3 y4 hlb
        generalize wr.drewN nq = wq at *
        obtain ⟨q0, q1, q2, q3, q4⟩ := HYq.out
        have hlq := HYq.out.lt
        have HNx := hid (new_rg wq 25 x)
        have HO1 := hid (fun o => HOq.out.alloc o)
        have hlB := hid (fun o => show w.heap.size ≤ (wq.alloc o).heap.size by have := hBW.out; simp only [World.size_alloc]; omega)
        go_wp2_with (at_builtin; go_must (refine wpList_app5 _ rfl _ _ 22 rfl w.heap.size 25 Try.underlying22 infoReg (.slice a2 0 c2) 0 [] rfl (HO1.out _) wq.heap.size x rfl HNx.out (Nat.zero_le _) (hlB.out _) ?_; intro v2 w2 hown' hgrow hat; have HO2 := hid hown'; have HG2 := hid hgrow; clear hown' hgrow hat))
        have HBF := hid (grown_low (HO1.out _) HG2.out (bal2 HBq.out _) (Nat.le_refl _) (hlB.out _))
        go_wp2_with fail
        go_roundw
        case rel => exact ⟨_, k + 1, rfl, by omega, by go_num, by rw [HJ.out]; simpa using HO2.out, HBF.out⟩
        case measure => simp [intOf]; omega
      · rw [List.concat_eq_append] at *
        have HJ := hid (HT.out.trans (joinStep_some init z x))
        obtain ⟨G, c2, rfl, hnc, hcm, hbG, hlG⟩ := own_some5 ho (by simp)
        obtain ⟨_, _, e9, hrg, _⟩ := own_rgs ho
        cases e9
        have HZ0 : Hid (rgCells wr G (init.length * 5) z) := hid (by
          obtain ⟨b9, o9, e9, hc9⟩ := hrg.cell init.length (by simp)
          cases e9
          simpa using hc9)
        have hil : init.length ≤ 2000 := by have := hln; simp at this; omega
        have HO0 := hid ho
        clear ho hrg hln
        unfold maxLen at hcm
        simp only [List.length_append, List.length_cons, List.length_nil, Nat.zero_add] at *
        have em : ((init.length : Int) + 1) - 1 = (init.length : Int) := by omega
        have e0 : decide ((0 : Int) < (init.length : Int) + 1) = true := decide_eq_true (by omega)
        have ez2 : (0 : Int) ≤ (init.length : Int) := by omega
        have eb2 : (init.length : Int) < (init.length : Int) + 1 := by omega
        have hon : init.length + 1 ≤ 1000000 := by omega
        have HEW := hid (IntWalk.i64_in (init.length : Int) ⟨by omega, by omega⟩)
        have HEW2 := hid (IntWalk.wrap64_in (init.length : Int) ⟨by omega, by omega⟩)
        have ew := HEW.out
        have ew2 := HEW2.out
        go_wp2_with fail
        clear hlb
        obtain ⟨n0, n1, n2, n3, n4⟩ := rg_cells HY.out
        obtain ⟨z0, z1, z2, z3, z4⟩ := rg_cells HZ0.out
        have hlb1 : ∀ d os, b < (rg wr d os).heap.size := fun d os => World.block_lt_of_cell? _ _ (n0 d os)
        have hlb2 : ∀ d os, G < (rg wr d os).heap.size := fun d os => World.block_lt_of_cell? _ _ (z0 d os)
        have cc1 := hid (fun (d : Nat) (os : Array Obj) => rg_call (rjoins_any z x (rg wr d os)))
        refine region_rg (by kernel_rfl) (by kernel_rfl) ?_
        repeat (quiet_step (with_reducible exact cc1.out _ _))
        refine wpQuiet_nil ?_
        intro _ hw'
        obtain ⟨⟨dq, osq⟩, hw''⟩ := hw'
        subst hw''
        have HOq := hid (own_below HO0.out (rg_below wr dq osq))
        have HBq := hid (bthen HB.out (rg_below wr dq osq))
        have HYq := hid (HY.out.below (rg_below wr dq osq))
        have HZq := hid (HZ0.out.below (rg_below wr dq osq))
        clear n0 n1 n2 n3 n4 z0 z1 z2 z3 z4 hlb1 hlb2 cc1 ew ew2
        generalize rg wr dq osq = wq at *
        obtain ⟨q0, q1, q2, q3, q4⟩ := HYq.out
        have hlq := HYq.out.lt
        have hlG2 := HZq.out.lt
        cases hj : joinB z x
        · rw [hj] at HJ
          have HNx := hid (new_rg wq 25 x)
          have HO1 := hid (fun o => HOq.out.alloc o)
          have hBW := HBq.out.size
          have hlB := hid (fun o => show w.heap.size ≤ (wq.alloc o).heap.size by simp only [World.size_alloc]; omega)
          clear hj
          go_wp2_with (at_builtin; go_must (refine wpList_app5 _ rfl _ _ 22 rfl w.heap.size 25 Try.underlying22 infoReg (.slice (some ⟨G, 0, none⟩) (init.length + 1) c2) (init.length + 1) (init ++ [z]) rfl (HO1.out _) wq.heap.size x rfl HNx.out hon (hlB.out _) ?_; intro v2 w2 hown' hgrow hat; have HO2 := hid hown'; have HG2 := hid hgrow; clear hown' hgrow hat))
          have HBF := hid (grown_low (HO1.out _) HG2.out (bal2 HBq.out _) (Nat.le_refl _) (hlB.out _))
          go_wp2_with fail
          go_roundw
          case rel => exact ⟨_, k + 1, rfl, by omega, by go_num, by rw [HJ.out]; simpa using HO2.out, HBF.out⟩
          case measure => simp [intOf]; omega
        · rw [hj] at HJ
          obtain ⟨z0, z1, z2, z3, z4⟩ := HZq.out
          have hfz : wq.frozen? ⟨G, init.length * 5 + 1, none⟩ = false := by
            obtain ⟨_, _, _, _, _, _, _, h8⟩ := own_rgs HOq.out
            rename_i e8 _ _ _ _
            cases e8
            obtain ⟨G', e7, _, _, cs, hr, _⟩ := h8 _ rfl
            cases e7
            exact hr.frozen _
          have HS := hid (HOq.out.stored (init.length * 5 + 1) (.int .u64 x.to))
          clear hj
          have ew2 := HEW2.out
          go_wp2_with fail
          clear ew2
          go_roundw
          case rel =>
            refine ⟨_, k + 1, rfl, by omega, by go_num, ?_, ?_⟩
            · rw [HJ.out, if_pos rfl, ← flat5_setTo]
              simpa using HS.out.1
            · exact HBq.out.grown HS.out.2 HBq.out.size (fun k hk => by cases hk; exact hbG)
          case measure => simp [intOf]; omega
    · have d1 : decide ((k : Int) < (l.length : Int)) = false := by simp; omega
      have d1n : decide (k < l.length) = false := by simp; omega
      obtain rfl : k = l.length := by omega
      rw [List.take_length] at ho
      have HO := hid ho
      clear hb ho
      go_wp2_with fail
      go_ret
      exact ⟨_, rfl, HO.out, HB.out⟩

theorem few_any (a : Option Addr) (cap : Nat) (l : List RG) (base : Nat) (w : World) (ho : w.ownsRow base 25 5 (.slice a l.length cap) l.length (flat5 l)) :
    Calls Try.prog 39 #[.slice a l.length cap] w fun e w' => ∃ v, e = .returned (.tuple #[v, .int .i64 (fewE l)]) ∧ w'.ownsRow base 25 5 v (fewL l).length (flat5 (fewL l)) ∧ w = w' := by
  have HO := hid ho
  clear ho
  by_cases h64 : 64 < l.length
  · have d2 : decide ((64 : Int) < (l.length : Int)) = true := by simp; omega
    have d2n : decide (64 < l.length) = true := by simp; omega
    have hf := hid (few_pos h64)
    go_enter Try.func39, Try.ntmps39
    go_wp2_with fail
    go_ret2
    rw [hf.out.1, hf.out.2]
    exact ⟨_, rfl, own_rgs_nil, rfl⟩
  · have d2 : decide ((64 : Int) < (l.length : Int)) = false := by simp; omega
    have d2n : decide (64 < l.length) = false := by simp; omega
    have hf := hid (few_neg h64)
    go_enter Try.func39, Try.ntmps39
    go_wp2_with fail
    go_ret2
    rw [hf.out.1, hf.out.2]
    exact ⟨_, rfl, HO.out, rfl⟩
end Go.Proofs.Ytcafmhhfnleanaa
