
/- Layout, plain: pieces that lie farther; their bounds. -/
import Derived.Test.YtkpopdkkobelaaaLa6
namespace Go.Proofs.Ytkpopdkkobelaaa
open Go.RowKit

def mvP (d : Int) (p : PC) : PC := ⟨p.fr + d, p.to + d, p.prot, p.ino, p.off⟩
def mvW (d : Int) (x : Int × Nat) : Int × Nat := (x.1 + d, x.2)
theorem pcs1_move {d : Int} (hd : d % 4096 = 0) (base ino : Int) (s : SG) : pcs1 (base + d) ino s = (pcs1 base ino s).map (mvP d) := by
  have e1 : dn (base + d + s.addr) = dn (base + s.addr) + d := by unfold dn; omega
  have e2 : upI (base + d + s.addr + s.fsz) = upI (base + s.addr + s.fsz) + d := by unfold upI dn; omega
  have e3 : upI (base + d + s.addr + s.msz) = upI (base + s.addr + s.msz) + d := by unfold upI dn; omega
  have e4 : fromB (base + d) s = fromB base s + d := by unfold fromB; split <;> assumption
  have e5 : (fromB base s + d < upI (base + s.addr + s.msz) + d) ↔ (fromB base s < upI (base + s.addr + s.msz)) := by omega
  unfold pcs1 pcsA pcsB
  rw [e1, e2, e3, e4]
  simp only [e5]
  split <;> split <;> simp [mvP]
theorem pcsL_move {d : Int} (hd : d % 4096 = 0) (base ino : Int) : ∀ l : List SG, pcsL (base + d) ino l = (pcsL base ino l).map (mvP d)
  | [] => rfl
  | s :: r => by
    have h := pcsL_move hd base ino r
    unfold pcsL at h ⊢
    rw [List.flatMap_cons, List.flatMap_cons, List.map_append, h, pcs1_move hd]
theorem wrs1_move {d : Int} (hd : d % 4096 = 0) (base : Int) (s : SG) : wrs1 (base + d) s = (wrs1 base s).map (mvW d) := by
  have e1 : base + d + s.addr + s.fsz = base + s.addr + s.fsz + d := by omega
  have e2 : upI (base + s.addr + s.fsz + d) = upI (base + s.addr + s.fsz) + d := by unfold upI dn; omega
  have e3 : (base + s.addr + s.fsz + d) % 4096 = (base + s.addr + s.fsz) % 4096 := by omega
  have e4 : upI (base + s.addr + s.fsz) + d - (base + s.addr + s.fsz + d) = upI (base + s.addr + s.fsz) - (base + s.addr + s.fsz) := by omega
  unfold wrs1
  rw [e1, e2, e3, e4]
  split <;> simp [mvW]
theorem wrsL_move {d : Int} (hd : d % 4096 = 0) (base : Int) : ∀ l : List SG, wrsL (base + d) l = (wrsL base l).map (mvW d)
  | [] => rfl
  | s :: r => by
    have h := wrsL_move hd base r
    unfold wrsL at h ⊢
    rw [List.flatMap_cons, List.flatMap_cons, List.map_append, h, wrs1_move hd]
/-- The bounds of a piece's numbers. -/
structure PCok (p : PC) : Prop where
  f0 : 0 ≤ p.fr
  f1 : p.fr < p.to
  t1 : p.to ≤ 140737488355328
  fp : p.fr % 4096 = 0
  tp : p.to % 4096 = 0
  o0 : 0 ≤ p.off
  o1 : p.off ≤ 65536
  p0 : 0 ≤ p.prot
  p1 : p.prot ≤ 7
theorem seg_at {fin : Int} {l : List SG} (hL : Loads fin l) {s : SG} (hs : s ∈ l) : upI (s.addr + s.msz) ≤ highS l := by
  obtain ⟨i, hi, rfl⟩ := List.mem_iff_getElem.1 hs
  obtain ⟨q, hq⟩ : ∃ q, q + 1 = l.length := ⟨l.length - 1, by omega⟩
  rw [high_at hq]
  by_cases e : i = q
  · subst e; omega
  · have h4 := hL.rise (i := i) (j := q) (by omega) (by omega)
    have h5 := hL.ok (l[q]'(by omega)) (List.getElem_mem _)
    unfold upI dn at h4 ⊢
    omega
theorem pcs1_ok {base ino fin : Int} {l : List SG} (hL : Loads fin l) (h0 : 0 ≤ base) (hb : base % 4096 = 0) (hl : liesB base l = true) {s : SG} (hs : s ∈ l) : ∀ p ∈ pcs1 base ino s, PCok p := by
  have h1 := hL.ok s hs
  have h2 := seg_at hL hs
  have h3 := of_decide_eq_true hl
  intro p hp
  unfold pcs1 at hp
  rcases List.mem_append.1 hp with hp | hp
  · unfold pcsA at hp
    split at hp
    · rw [List.mem_singleton.1 hp]
      constructor <;> (unfold upI dn at *; dsimp only; omega)
    · cases hp
  · unfold pcsB at hp
    split at hp
    · rename_i hlt
      rw [List.mem_singleton.1 hp]
      unfold fromB at hlt ⊢
      split at hlt
      · rename_i hz
        simp only [if_pos hz]
        constructor <;> (unfold upI dn at *; dsimp only; omega)
      · rename_i hz
        simp only [if_neg hz]
        constructor <;> (unfold upI dn at *; dsimp only; omega)
    · cases hp
theorem pcsL_ok {base ino fin : Int} {l : List SG} (hL : Loads fin l) (h0 : 0 ≤ base) (hb : base % 4096 = 0) (hl : liesB base l = true) : ∀ p ∈ pcsL base ino l, PCok p := by
  intro p hp
  obtain ⟨s, hs, hp⟩ := List.mem_flatMap.1 hp
  exact pcs1_ok hL h0 hb hl hs p hp
theorem wrsL_ok {base fin : Int} {l : List SG} (hL : Loads fin l) (h0 : 0 ≤ base) (hl : liesB base l = true) : ∀ x ∈ wrsL base l, 0 ≤ x.1 ∧ x.1 ≤ 140737488355328 ∧ x.2 ≤ 4096 := by
  intro x hx
  obtain ⟨s, hs, hx⟩ := List.mem_flatMap.1 hx
  have h1 := hL.ok s hs
  have h2 := seg_at hL hs
  have h3 := of_decide_eq_true hl
  unfold wrs1 at hx
  split at hx
  · rw [List.mem_singleton.1 hx]
    unfold upI dn at *
    dsimp only
    omega
  · cases hx
/-- Which of an object's two places has pieces. -/
theorem pieB_of {ino typ base : Int} {sg : List SG} (h : pieB ino typ base sg = true) : rightB ino typ sg = true ∧ base % 4096 = 0 ∧ liesB base (lds sg) = true := by
  unfold pieB at h
  rw [Bool.and_eq_true, Bool.and_eq_true, decide_eq_true_eq] at h
  exact ⟨h.1.1, h.1.2, h.2⟩
theorem pieB_back {ino typ base d : Int} {sg : List SG} (h0 : 0 ≤ d) (hd : d % 4096 = 0) (h : pieB ino typ (base + d) sg = true) : pieB ino typ base sg = true := by
  obtain ⟨h1, h2, h3⟩ := pieB_of h
  have h4 := of_decide_eq_true h3
  unfold pieB
  rw [h1, decide_eq_true (show base % 4096 = 0 by omega)]
  unfold liesB
  rw [decide_eq_true (by omega)]
  rfl
end Go.Proofs.Ytkpopdkkobelaaa
