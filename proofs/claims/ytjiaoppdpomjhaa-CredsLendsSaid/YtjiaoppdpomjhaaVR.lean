/- Contract of hostelref04.Same. -/
import Derived.Test.YtjiaoppdpomjhaaV8
import Derived.Test.YtjiaoppdpomjhaaQ
namespace Go.Proofs.Ytjiaoppdpomjhaa
open Go.RowKit Go.Sort

theorem take_eqN {l m : List Int} (hle : l.length = m.length) {k : Nat} (hk : k ≤ l.length) (hn : ¬ k < l.length) (h : l.take k = m.take k) : eqN l m = true := by
  unfold eqN
  rw [decide_eq_true_eq]
  have e : k = l.length := by omega
  rwa [e, List.take_length, hle, List.take_length] at h

set_option maxHeartbeats 1000000 in
theorem rsame_any (u e s g u' e2 s' g' : Int) (a : Option Addr) (len cap : Nat) (l : List Int) (a' : Option Addr) (len' cap' : Nat) (l' : List Int) (w : World) (hB : Nums w .u32 a len l) (hC : Nums w .u32 a' len' l') (hl : len ≤ 1048576) (hl' : len' ≤ 1048576) :
    Calls Try.prog 20 #[credV u e s g a len cap, credV u' e2 s' g' a' len' cap'] w fun e' w' => e' = .returned (.bool (sameB u e s g u' e2 s' g' l l')) ∧ Below w.heap.size w w' := by
  obtain rfl := hB.hlen
  obtain rfl := hC.hlen
  have HB := hid (fun o1 o2 => hB.below' (b2a o1 o2))
  have HC := hid (fun o1 o2 => hC.below' (b2a o1 o2))
  have HW := hid (@b2a w)
  have HS := hid (show sameB u e s g u' e2 s' g' l l' = ((u == u' && (e == e2 && (s == s' && g == g'))) && eqN l l') from rfl)
  clear hB hC
  have c1 : (u != u') = true ∨ u = u' := by by_cases h : u = u' <;> simp [h]
  have c2 : (e != e2) = true ∨ e = e2 := by by_cases h : e = e2 <;> simp [h]
  have c3 : (s != s') = true ∨ s = s' := by by_cases h : s = s' <;> simp [h]
  have c4 : (g != g') = true ∨ g = g' := by by_cases h : g = g' <;> simp [h]
  have neF : ∀ x y : Int, (x != y) = true → (x == y) = false := by intro x y h; cases hxy : (x == y) <;> simp_all [bne]
  have NF := hid neF
  clear neF
  rcases c1 with c1 | rfl
  · have HF := hid (NF.out _ _ c1)
    go_enter Try.func20, Try.ntmps20
    go_wp2_with fail
    go_ret
    exact ⟨ret_bool (by rw [HS.out, HF.out]; simp), HW.out _ _⟩
  · have d1 : (u != u) = false := by simp
    rcases c2 with c2 | rfl
    · have HF := hid (NF.out _ _ c2)
      go_enter Try.func20, Try.ntmps20
      go_wp2_with fail
      go_ret
      exact ⟨ret_bool (by rw [HS.out, HF.out]; simp), HW.out _ _⟩
    · have d2 : (e != e) = false := by simp
      rcases c3 with c3 | rfl
      · have HF := hid (NF.out _ _ c3)
        go_enter Try.func20, Try.ntmps20
        go_wp2_with fail
        go_ret
        exact ⟨ret_bool (by rw [HS.out, HF.out]; simp), HW.out _ _⟩
      · have d3 : (s != s) = false := by simp
        rcases c4 with c4 | rfl
        · have HF := hid (NF.out _ _ c4)
          go_enter Try.func20, Try.ntmps20
          go_wp2_with fail
          go_ret
          exact ⟨ret_bool (by rw [HS.out, HF.out]; simp), HW.out _ _⟩
        · have d4 : (g != g) = false := by simp
          have HS2 := hid (show sameB u e s g u e s g l l' = eqN l l' by rw [HS.out]; simp)
          clear HS
          by_cases hle : l.length = l'.length
          · have hd : ((l.length : Int) != (l'.length : Int)) = false := by simp; omega
            have HLE := hid hle
            clear hle
            go_enter Try.func20, Try.ntmps20
            go_wp2_with fail
            obtain ⟨W2, hW2⟩ : ∃ W2, W2 = (w.alloc (.cells #[.int .u32 u, .int .u32 e, .int .u32 s, .int .u32 g, .slice a l.length cap] 25)).alloc (.cells #[.int .u32 u, .int .u32 e, .int .u32 s, .int .u32 g, .slice a' l'.length cap'] 25) := ⟨_, rfl⟩
            rw [← hW2]
            have hBW : Nums W2 .u32 a l.length l := by rw [hW2]; exact HB.out _ _
            have hCW : Nums W2 .u32 a' l'.length l' := by rw [hW2]; exact HC.out _ _
            have hbW : Below w.heap.size w W2 := by rw [hW2]; exact HW.out _ _
            have x4 : W2.cell? ⟨w.heap.size, 4, none⟩ = some (.slice a l.length cap) := by rw [hW2]; simp
            have y4 : W2.cell? ⟨w.heap.size + 1, 4, none⟩ = some (.slice a' l'.length cap') := by rw [hW2]; simp
            have HBW := hid hbW
            clear hW2 HB HC HW hbW hd
            go_loopw [5] (fun i wr => ∃ k n : Nat, k ≤ l.length ∧ i = .int .i64 k ∧ l.take k = l'.take k ∧ wr = W2.drewN n) (fun i _ => l.length - (intOf i).toNat)
            case atStart => exact ⟨0, 0, Nat.zero_le _, rfl, by simp, rfl⟩
            case round =>
              obtain ⟨k, n, hk, rfl, he, rfl⟩ := hrel
              have HE := hid he; clear he
              by_cases h1 : k < l.length
              · have h2 : k < l'.length := by rw [← HLE.out]; exact h1
                obtain ⟨b1, o1, rfl, hc1⟩ := hBW.some_of (by omega)
                obtain ⟨b2, o2, rfl, hc2⟩ := hCW.some_of (by omega)
                have hx := hc1 k h1
                have hy := hc2 k h2
                clear hBW hCW hc1 hc2
                by_cases h3 : l[k] = l'[k]
                · have HT := hid (show l.take (k + 1) = l'.take (k + 1) by rw [List.take_succ_eq_append_getElem h1, List.take_succ_eq_append_getElem h2, HE.out, h3])
                  go_wp2_with fail
                  go_quiet (fail)
                  go_wp2_with fail
                  go_roundw
                  case rel => exact ⟨k + 1, n + nq, by omega, by go_num, HT.out, by simp [World.drewN, Nat.add_assoc]⟩
                  case measure => simp [intOf]; omega
                · have h4 : (l[k] != l'[k]) = true := by simpa using h3
                  have HF := hid (show false = eqN l l' by
                    unfold eqN; rw [eq_comm, decide_eq_false_iff_not]; intro e; subst e; exact h3 rfl)
                  clear h3
                  go_wp2_with fail
                  go_quiet (fail)
                  go_wp2_with fail
                  go_ret
                  exact ⟨ret_bool (by rw [HS2.out]; exact HF.out), bdN (bdN HBW.out n) nq⟩
              · have HF := hid (take_eqN HLE.out hk h1 HE.out)
                go_wp2_with fail
                go_ret
                exact ⟨ret_bool (by rw [HS2.out, HF.out]), bdN HBW.out n⟩
          · have hd : ((l.length : Int) != (l'.length : Int)) = true := by simp; omega
            have HF := hid (show false = eqN l l' by
                    unfold eqN; rw [eq_comm, decide_eq_false_iff_not]; intro e; subst e; exact hle rfl)
            clear hle
            go_enter Try.func20, Try.ntmps20
            go_wp2_with fail
            go_ret
            exact ⟨ret_bool (by rw [HS2.out]; exact HF.out), HW.out _ _⟩
end Go.Proofs.Ytjiaoppdpomjhaa
