
/- stack's reader: the environment's addresses, and the pairs. -/
import Derived.Test.YtihaakcfegelkaaDoorTk2
namespace Go.Proofs.YtihaakcfegelkaaDoor
open Go.RowKit Go.Sort
attribute [local go_sem] Oper.semAt_some

/-- Where the reading stands behind k addresses. -/
def EnvAt (l : List UInt8) (p0 k : Nat) : Prop :=
  (envR l 33 p0 0).1 = (envR l (33 - k) (p0 + 8 * k) k).1 ∧
  ((envR l (33 - k) (p0 + 8 * k) k).1 = 0 → (envR l 33 p0 0).2.1 = ns8 l p0 k ++ (envR l (33 - k) (p0 + 8 * k) k).2.1 ∧ (envR l 33 p0 0).2.2 = (envR l (33 - k) (p0 + 8 * k) k).2.2) ∧
  ((envR l (33 - k) (p0 + 8 * k) k).1 ≠ 0 → (envR l 33 p0 0).2.1 = (if k = 0 then (envR l 33 p0 0).2.1 else []))
theorem envR_no (l : List UInt8) (f p k : Nat) (h : (envR l f p k).1 ≠ 0) : (envR l f p k).2.1 = [] := by
  cases f with
  | zero => rfl
  | succ f =>
    unfold envR at h ⊢
    by_cases c1 : l.length < p + 8
    · rw [if_pos c1]
    · rw [if_neg c1] at h ⊢
      by_cases c2 : n8 l p = 0
      · rw [if_pos c2]
      · rw [if_neg c2] at h ⊢
        by_cases c3 : k = 32
        · rw [if_pos c3]
        · rw [if_neg c3] at h ⊢
          exact if_neg h
theorem pairsR_no (l : List UInt8) (f p k : Nat) (h : (pairsR l f p k).1 ≠ 0) : (pairsR l f p k).2 = [] := by
  cases f with
  | zero => rfl
  | succ f =>
    unfold pairsR at h ⊢
    by_cases c1 : l.length < p + 16
    · rw [if_pos c1]
    · rw [if_neg c1] at h ⊢
      by_cases c2 : n8 l p = 0
      · rw [if_pos c2]
      · rw [if_neg c2] at h ⊢
        by_cases c3 : k = 17
        · rw [if_pos c3]
        · rw [if_neg c3] at h ⊢
          exact if_neg h
/-- One more. -/
structure EnvK (l : List UInt8) (p0 k : Nat) : Prop where
  err : (envR l 33 p0 0).1 = (envR l (33 - k) (p0 + 8 * k) k).1
  val : (envR l (33 - k) (p0 + 8 * k) k).1 = 0 → (envR l 33 p0 0).2.1 = ns8 l p0 k ++ (envR l (33 - k) (p0 + 8 * k) k).2.1
  pos : (envR l (33 - k) (p0 + 8 * k) k).1 = 0 → (envR l 33 p0 0).2.2 = (envR l (33 - k) (p0 + 8 * k) k).2.2
theorem EnvK.zero (l : List UInt8) (p0 : Nat) : EnvK l p0 0 := ⟨rfl, fun _ => rfl, fun _ => rfl⟩
theorem EnvK.succ {l : List UInt8} {p0 k : Nat} (h : EnvK l p0 k) (c1 : ¬ l.length < p0 + 8 * k + 8) (c2 : ¬ n8 l (p0 + 8 * k) = 0) (c3 : k < 32) : EnvK l p0 (k + 1) := by
  have e : envR l (33 - k) (p0 + 8 * k) k = ((envR l (33 - (k + 1)) (p0 + 8 * (k + 1)) (k + 1)).1, if (envR l (33 - (k + 1)) (p0 + 8 * (k + 1)) (k + 1)).1 = 0 then n8 l (p0 + 8 * k) :: (envR l (33 - (k + 1)) (p0 + 8 * (k + 1)) (k + 1)).2.1 else [], (envR l (33 - (k + 1)) (p0 + 8 * (k + 1)) (k + 1)).2.2) := by
    rw [show 33 - k = (33 - (k + 1)) + 1 by omega]
    conv => lhs; unfold envR
    rw [if_neg c1, if_neg c2, if_neg (by omega), show p0 + 8 * k + 8 = p0 + 8 * (k + 1) by omega]
  refine ⟨by rw [h.err, e], fun h0 => ?_, fun h0 => ?_⟩
  · rw [h.val (by rw [e]; exact h0), e]
    simp only [if_pos h0]
    rw [ns8_snoc, List.append_assoc, List.singleton_append]
  · rw [h.pos (by rw [e]; exact h0), e]
theorem EnvK.short {l : List UInt8} {p0 k : Nat} (h : EnvK l p0 k) (hk : k ≤ 32) (c1 : l.length < p0 + 8 * k + 8) : (envR l 33 p0 0).1 = 25 := by
  rw [h.err, show 33 - k = (32 - k) + 1 by omega]; unfold envR; rw [if_pos c1]
theorem EnvK.many {l : List UInt8} {p0 : Nat} (h : EnvK l p0 32) (c1 : ¬ l.length < p0 + 8 * 32 + 8) (c2 : ¬ n8 l (p0 + 8 * 32) = 0) : (envR l 33 p0 0).1 = 12 := by
  rw [h.err]; show (envR l 1 (p0 + 8 * 32) 32).1 = 12; unfold envR; rw [if_neg c1, if_neg c2, if_pos rfl]
theorem EnvK.fin {l : List UInt8} {p0 k : Nat} (h : EnvK l p0 k) (hk : k ≤ 32) (c1 : ¬ l.length < p0 + 8 * k + 8) (c2 : n8 l (p0 + 8 * k) = 0) : (envR l 33 p0 0).1 = 0 ∧ (envR l 33 p0 0).2.1 = ns8 l p0 k ∧ (envR l 33 p0 0).2.2 = p0 + 8 * k + 8 := by
  have e : envR l (33 - k) (p0 + 8 * k) k = (0, [], p0 + 8 * k + 8) := by
    rw [show 33 - k = (32 - k) + 1 by omega]; unfold envR; rw [if_neg c1, if_pos c2]
  have e1 := h.err
  have e2 := h.val
  have e3 := h.pos
  rw [e] at e1 e2 e3
  exact ⟨e1, by have := e2 rfl; rw [List.append_nil] at this; exact this, e3 rfl⟩

def EnvPost (W0 w : World) (r : Nat) (a : Option Addr) (len cap sp : Nat) (l : List UInt8) (p0 : Nat) (e : Ending) (w' : World) : Prop :=
  ∃ v p', e = .returned (.tuple #[v, .int .i64 (envR l 33 p0 0).1]) ∧ OwnU w' w.heap.size v (envR l 33 p0 0).2.1 ∧ X1 w w' r ∧ RD W0 w' r a len cap sp l p' ∧ ((envR l 33 p0 0).1 = 0 → p' = (envR l 33 p0 0).2.2)
theorem envP_no {W0 w w' : World} {r : Nat} {a : Option Addr} {len cap sp p er p0 : Nat} {l : List UInt8} (h : (envR l 33 p0 0).1 = (er : Int)) (he : (er : Int) ≠ 0) (hx : X1 w w' r) (hd : RD W0 w' r a len cap sp l p) : EnvPost W0 w r a len cap sp l p0 (.returned (.tuple #[.slice none 0 0, .int .i64 (er : Int)])) w' := by
  refine ⟨.slice none 0 0, p, by rw [h], by rw [envR_no _ _ _ _ (by rw [h]; exact he)]; exact ownU_nil _ _, hx, hd, fun h0 => ?_⟩
  rw [h] at h0
  exact absurd h0 he
theorem envP_yes {W0 w w' : World} {r : Nat} {a : Option Addr} {len cap sp p q p0 : Nat} {l : List UInt8} {v : Value} {ys : List Nat} (h : (envR l 33 p0 0).1 = 0 ∧ (envR l 33 p0 0).2.1 = ys ∧ (envR l 33 p0 0).2.2 = q) (ho : OwnU w' w.heap.size v ys) (hx : X1 w w' r) (hd : RD W0 w' r a len cap sp l p) (hp : p = q) : EnvPost W0 w r a len cap sp l p0 (.returned (.tuple #[v, .int .i64 0])) w' :=
  ⟨v, p, by rw [h.1], by rw [h.2.1]; exact ho, hx, hd, fun _ => by rw [h.2.2]; exact hp⟩

set_option maxRecDepth 100000 in
set_option maxHeartbeats 4000000 in
theorem environment_any (W0 w : World) (r : Nat) (a : Option Addr) (len cap sp : Nat) (l : List UInt8) (p0 : Nat) (h : RD W0 w r a len cap sp l p0) :
    Calls Tryd.prog 32 #[.pointer (some ⟨r, 0, none⟩)] w (EnvPost W0 w r a len cap sp l p0) := by
  have HD := hid h
  clear h
  go_enter Tryd.func32, Tryd.ntmps32
  go_wp2_with fail
  go_loopw [4] (fun v wr => ∃ k : Nat, k ≤ 32 ∧ OwnU wr w.heap.size v (ns8 l p0 k) ∧ X1 w wr r ∧ RD W0 wr r a len cap sp l (p0 + 8 * k) ∧ EnvK l p0 k) (fun v _ => 33 - lenV v)
  case atStart => exact ⟨0, Nat.zero_le _, ownU_nil _ _, X1.refl _ _, HD.out, EnvK.zero _ _⟩
  case round =>
    obtain ⟨k, hk, hown, hx, hd, hek⟩ := hrel
    have hown2 := own_ext hown (ns8_len l p0 k) rfl
    clear hown
    obtain ⟨va, vc, rfl⟩ := own_hd2 hown2
    have HO := hid hown2
    have HX := hid hx
    have HDR := hid hd
    have HEK := hid hek
    have HLK := hid (ns8_len l p0 k)
    clear hown2 hx hd hek
    by_cases hin : l.length < p0 + 8 * k + 8
    · have HE := hid (show (envR l 33 p0 0).1 = ((25 : Nat) : Int) from HEK.out.short hk hin)
      go_wp2_with fail
      refine (nextR_no W0 wr r a len cap sp (p0 + 8 * k) l HDR.out (by omega)).mono ?_
      rintro e' w2 ⟨rfl, hb⟩
      have HB := hid hb
      clear hb hin
      go_wp2_with fail
      go_ret2
      exact envP_no HE.out (by decide) (HX.out.trans (X1.of r HB.out)) (HDR.out.still HB.out)
    · have HIN := hid hin
      go_wp2_with fail
      refine (nextR_yes W0 wr r a len cap sp (p0 + 8 * k) l HDR.out (by omega)).mono ?_
      rintro e' w2 ⟨rfl, hx, hd⟩
      have HX2 := hid (HX.out.trans hx)
      have HD2 := hid hd
      have HO2 := hid (hx.own HO.out (own_ne_row HO.out HDR.out.row (by decide)))
      have HN8 := hid (n8_lt l (p0 + 8 * k) (by omega))
      obtain ⟨z, hz⟩ : ∃ z, z = n8 l (p0 + 8 * k) := ⟨_, rfl⟩
      have HZZ := hid hz
      rw [← hz]
      clear hx hd hin hz
      by_cases h0 : z = 0
      · have HE := hid (HEK.out.fin hk HIN.out (by rw [← HZZ.out]; exact h0))
        subst h0
        go_wp2_with fail
        go_ret2
        exact envP_yes HE.out (own_ext HO2.out HLK.out.symm rfl) HX2.out HD2.out rfl
      · have d0 : ((z : Int) == 0) = false := by simp; omega
        have H0 := hid h0
        clear h0
        by_cases h32 : k = 32
        · subst h32
          have HE := hid (show (envR l 33 p0 0).1 = ((12 : Nat) : Int) from HEK.out.many HIN.out (by rw [← HZZ.out]; exact H0.out))
          go_wp2_with fail
          go_ret2
          exact envP_no HE.out (by decide) HX2.out HD2.out
        · have d32 : ((k : Int) == 32) = false := by simp; omega
          have HK1 := hid (HEK.out.succ HIN.out (by rw [← HZZ.out]; exact H0.out) (by omega))
          have HSN := hid (show ns8 l p0 (k + 1) = ns8 l p0 k ++ [z] by rw [ns8_snoc, HZZ.out])
          have HZ0 := hid HD.out.low.size
          have HO3 := hid (fun o => own_below HO2.out (@bal w2 o))
          have HZ3 := hid (show w.heap.size ≤ w2.heap.size + 1 by have := HX2.out.size; omega)
          have HC := hid (cel_one w2 30 (.int .u64 (z : Int)))
          have HNa := hid (show (k + 1) * 8 ≤ 140737488355328 by omega)
          have HNb := hid (show k + 1 ≤ maxLen by unfold maxLen; omega)
          have K32 := hid (show k + 1 ≤ 32 by omega)
          clear h32
          go_wp2_with (at_builtin; go_must (refine wpList_ap1 Tryd.underlying50 infoU64 rfl rfl _ _ rfl w.heap.size _ k (u64s (ns8 l p0 k)) [.int .u64 (z : Int)] rfl (some ⟨w2.heap.size, 0, none⟩) 1 1 rfl (HO3.out _) HC.out (one_u64 _) (fun h => by cases h) HNa.out HNb.out (by rw [World.size_alloc]; exact HZ3.out) ?_; intro v' w9 hown hgrow hb9; have HO9 := hid hown; obtain ⟨v9a, v9c, rfl⟩ := own_hd2 hown; have HG9 := hid hgrow; have HB9 := hid hb9; clear hown hgrow hb9))
          go_roundw
          case rel => exact ⟨k + 1, K32.out, ownU_snoc HO9.out HSN.out, (HX2.out.alloc _).then HB9.out, HD2.out.app (HO3.out _) (by decide) HG9.out HZ0.out, HK1.out⟩
          case measure => simp [lenV]; omega
end Go.Proofs.YtihaakcfegelkaaDoor
