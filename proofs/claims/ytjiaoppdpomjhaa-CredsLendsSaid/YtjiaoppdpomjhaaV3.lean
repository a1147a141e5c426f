/- Contracts of package creds and of its reference. -/
import Derived.Test.YtjiaoppdpomjhaaV2
namespace Go.Proofs.Ytjiaoppdpomjhaa
open Go.RowKit

abbrev credV (u e s g : Int) (a : Option Addr) (len cap : Nat) : Value := .agg #[.int .u32 u, .int .u32 e, .int .u32 s, .int .u32 g, .slice a len cap]
abbrev nodeV (k m u g z : Int) : Value := .agg #[.int .u8 k, .int .u16 m, .int .u32 u, .int .u32 g, .int .i64 z]

def clsOf (e g : Int) (l : List Int) (uid gid : Int) : Int := if e = uid then 0 else if g = gid ∨ gid ∈ l then 1 else 2

theorem b2a {w : World} (o1 o2 : Obj) : Below w.heap.size w ((w.alloc o1).alloc o2) := (bal o1).alloc (by simp) o2

set_option maxHeartbeats 1000000 in
theorem class_any (u e s g k m uid gid z : Int) (a : Option Addr) (len cap : Nat) (l : List Int) (w : World) (hB : Nums w .u32 a len l) (hl : len ≤ 1048576) :
    Calls Try.prog 13 #[credV u e s g a len cap, nodeV k m uid gid z] w fun e' w' => e' = .returned (.int .i64 (clsOf e g l uid gid)) ∧ Below w.heap.size w w' := by
  have hB2 : ∀ o1 o2, Nums ((w.alloc o1).alloc o2) .u32 a len l := fun o1 o2 => hB.below' (b2a o1 o2)
  have HB := hid hB2
  have HW := hid (@b2a w)
  clear hB2 hB
  by_cases h1 : e = uid
  · have hb1 : (e == uid) = true := by simpa using h1
    have H1 := hid h1
    clear h1
    go_enter Try.func13, Try.ntmps13
    go_wp2_with fail
    go_ret
    exact ⟨ret_i64 (by unfold clsOf; rw [if_pos H1.out]), HW.out _ _⟩
  · have hb1 : (e == uid) = false := by simpa using h1
    have H1 := hid h1
    clear h1
    by_cases h2 : g = gid
    · have hb2 : (g == gid) = true := by simpa using h2
      have H2 := hid h2
      clear h2
      go_enter Try.func13, Try.ntmps13
      go_wp2_with fail
      go_ret
      exact ⟨ret_i64 (by unfold clsOf; rw [if_neg H1.out, if_pos (.inl H2.out)]), HW.out _ _⟩
    · have hb2 : (g == gid) = false := by simpa using h2
      have H2 := hid h2
      clear h2
      go_enter Try.func13, Try.ntmps13
      go_wp2_with fail
      refine (contains_any _ _ _ _ l _ (HB.out _ _) (by omega)).mono ?_
      rintro e' w' ⟨rfl, rfl⟩
      by_cases h3 : gid ∈ l
      · rw [show memB gid l = true by unfold memB; simpa using h3]
        have H3 := hid h3
        clear h3
        go_wp2_with fail
        go_ret
        exact ⟨ret_i64 (by unfold clsOf; rw [if_neg H1.out, if_pos (.inr H3.out)]), HW.out _ _⟩
      · rw [show memB gid l = false by unfold memB; simpa using h3]
        have H3 := hid h3
        clear h3
        go_wp2_with fail
        go_ret
        exact ⟨ret_i64 (by unfold clsOf; rw [if_neg H1.out, if_neg (by rintro (h | h); exact H2.out h; exact H3.out h)]), HW.out _ _⟩

set_option maxHeartbeats 1000000 in
theorem rclass_any (u e s g k m uid gid z : Int) (a : Option Addr) (len cap : Nat) (l : List Int) (w : World) (hB : Nums w .u32 a len l) (hl : len ≤ 1048576) :
    Calls Try.prog 14 #[credV u e s g a len cap, nodeV k m uid gid z] w fun e' w' => e' = .returned (.int .i64 (clsOf e g l uid gid)) ∧ Below w.heap.size w w' := by
  have hB2 : ∀ o1 o2, Nums ((w.alloc o1).alloc o2) .u32 a len l := fun o1 o2 => hB.below' (b2a o1 o2)
  have HB := hid hB2
  have HW := hid (@b2a w)
  clear hB2
  by_cases h1 : e = uid
  · have hb1 : (e == uid) = true := by simpa using h1
    have H1 := hid h1
    clear h1
    go_enter Try.func14, Try.ntmps14
    go_wp2_with fail
    go_ret
    exact ⟨ret_i64 (by unfold clsOf; rw [if_pos H1.out]), HW.out _ _⟩
  · have hb1 : (e == uid) = false := by simpa using h1
    have H1 := hid h1
    clear h1
    by_cases h2 : g = gid
    · have hb2 : (g == gid) = true := by simpa using h2
      have H2 := hid h2
      clear h2
      go_enter Try.func14, Try.ntmps14
      go_wp2_with fail
      go_ret
      exact ⟨ret_i64 (by unfold clsOf; rw [if_neg H1.out, if_pos (.inl H2.out)]), HW.out _ _⟩
    · have hb2 : (g == gid) = false := by simpa using h2
      have H2 := hid h2
      clear h2
      obtain rfl := hB.hlen
      go_enter Try.func14, Try.ntmps14
      go_wp2_with fail
      obtain ⟨W2, hW2⟩ : ∃ W2, W2 = (w.alloc (.cells #[.int .u32 u, .int .u32 e, .int .u32 s, .int .u32 g, .slice a l.length cap] 25)).alloc (.cells #[.int .u8 k, .int .u16 m, .int .u32 uid, .int .u32 gid, .int .i64 z] 28) := ⟨_, rfl⟩
      rw [← hW2]
      have hBW : Nums W2 .u32 a l.length l := by rw [hW2]; exact HB.out _ _
      have hbW : Below w.heap.size w W2 := by rw [hW2]; exact HW.out _ _
      have x4 : W2.cell? ⟨w.heap.size, 4, none⟩ = some (.slice a l.length cap) := by rw [hW2]; simp
      have x3 : W2.cell? ⟨w.heap.size + 1, 3, none⟩ = some (.int .u32 gid) := by rw [hW2]; simp
      clear hW2 HB hB HW
      go_loopw [5] (fun i wr => ∃ k n : Nat, k ≤ l.length ∧ i = .int .i64 k ∧ (∀ j (h : j < l.length), j < k → l[j] ≠ gid) ∧ wr = W2.drewN n) (fun i _ => l.length - (intOf i).toNat)
      case atStart => exact ⟨0, 0, Nat.zero_le _, rfl, fun j h hj => by omega, rfl⟩
      case round =>
        obtain ⟨k, n, hk, rfl, hno, rfl⟩ := hrel
        have HNO := hid hno
        clear hno
        by_cases hlt : k < l.length
        · obtain ⟨b, off, rfl, hcell⟩ := hBW.some_of (by omega)
          have hx := hcell k hlt
          clear hBW hcell
          by_cases h : l[k] = gid
          · have hb : (l[k] == gid) = true := by simpa using h
            have HH := hid (show gid ∈ l by rw [← h]; exact List.getElem_mem _)
            clear h
            go_wp2_with fail
            go_quiet (fail)
            go_wp2_with fail
            go_ret
            exact ⟨ret_i64 (by unfold clsOf; rw [if_neg H1.out, if_pos (.inr HH.out)]), bdN (bdN hbW n) nq⟩
          · have hb : (l[k] == gid) = false := by simpa using h
            have HH := hid h
            clear h
            go_wp2_with fail
            go_quiet (fail)
            go_wp2_with fail
            go_roundw
            case rel =>
              refine ⟨k + 1, n + nq, by omega, by go_num, fun j h hj => ?_, by simp [World.drewN, Nat.add_assoc]⟩
              by_cases e : j = k
              · subst e; exact HH.out
              · exact HNO.out j h (by omega)
            case measure => simp [intOf]; omega
        · have hnm : ¬ gid ∈ l := by
            intro h
            obtain ⟨j, hj, e⟩ := List.getElem_of_mem h
            exact HNO.out j hj (by omega) e
          have HM := hid hnm
          clear hnm
          go_wp2_with fail
          go_ret
          exact ⟨ret_i64 (by unfold clsOf; rw [if_neg H1.out, if_neg (by rintro (h | h); exact H2.out h; exact HM.out h)]), bdN hbW n⟩
end Go.Proofs.Ytjiaoppdpomjhaa
