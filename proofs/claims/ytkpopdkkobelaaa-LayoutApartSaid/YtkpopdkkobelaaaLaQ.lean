
/- Layout, plain: where an address of a load is found. -/
import Derived.Test.YtkpopdkkobelaaaLaP
namespace Go.Proofs.Ytkpopdkkobelaaa
open Go.RowKit

def inP (a : Int) (p : PC) : Bool := decide (p.fr ≤ a) && decide (a < p.to)
def inW (a : Int) (x : Int × Nat) : Bool := decide (x.1 ≤ a) && decide (a - x.1 < (x.2 : Int))
/-- What lies at an address, by the pieces, then by the writes. -/
def atP (a : Int) (at0 : Int) (p : PC) : Int := if inP a p = true then (if 0 ≤ p.ino then p.off + a - p.fr else at0) else at0
def atW (a : Int) (at0 : Int) (x : Int × Nat) : Int := if inW a x = true then -1 else at0
def fdN (a : Int) (ps : List PC) : Nat := (ps.filter (inP a)).length
def fdA (a : Int) (ps : List PC) : Int := ps.foldl (atP a) (-1)
def fdW (a : Int) (at0 : Int) (L : List (Int × Nat)) : Int := L.foldl (atW a) at0
theorem foldl_filter {α β : Type} (f : β → α → β) (q : α → Bool) (h : ∀ b x, q x = false → f b x = b) : ∀ (l : List α) (b : β), l.foldl f b = (l.filter q).foldl f b
  | [], _ => rfl
  | x :: l, b => by
    rw [List.foldl_cons, List.filter_cons]
    cases hq : q x
    · rw [h b x hq, if_neg (by simp)]; exact foldl_filter f q h l b
    · rw [if_pos rfl, List.foldl_cons]; exact foldl_filter f q h l (f b x)
theorem fdA_filter (a : Int) (ps : List PC) : fdA a ps = (ps.filter (inP a)).foldl (atP a) (-1) := foldl_filter _ _ (fun b x h => by unfold atP; rw [h]; rfl) ps _
theorem fdW_filter (a at0 : Int) (L : List (Int × Nat)) : fdW a at0 L = (L.filter (inW a)).foldl (atW a) at0 := foldl_filter _ _ (fun b x h => by unfold atW; rw [h]; rfl) L _
theorem fdW_neg (a : Int) : ∀ L : List (Int × Nat), L.foldl (atW a) (-1) = -1
  | [] => rfl
  | x :: L => by
    rw [List.foldl_cons]
    have : atW a (-1) x = -1 := by unfold atW; split <;> rfl
    rw [this]
    exact fdW_neg a L
/-- A piece or a write of a load lies on the load's pages. -/
theorem pcs1_in {base ino fin : Int} {l : List SG} (hL : Loads fin l) {s : SG} (hs : s ∈ l) : ∀ p ∈ pcs1 base ino s, dn (base + s.addr) ≤ p.fr ∧ p.to ≤ upI (base + s.addr + s.msz) ∧ p.prot = s.flags := by
  have h1 := hL.ok s hs
  intro p hp
  unfold pcs1 at hp
  rcases List.mem_append.1 hp with hp | hp
  · unfold pcsA at hp
    split at hp
    · rw [List.mem_singleton.1 hp]
      unfold upI dn at *; dsimp only; omega
    · cases hp
  · unfold pcsB at hp
    split at hp
    · rw [List.mem_singleton.1 hp]
      unfold fromB
      split <;> (unfold upI dn at *; dsimp only; omega)
    · cases hp
theorem wrs1_in {base fin : Int} {l : List SG} (hL : Loads fin l) {s : SG} (hs : s ∈ l) : ∀ x ∈ wrs1 base s, dn (base + s.addr) ≤ x.1 ∧ x.1 + (x.2 : Int) ≤ upI (base + s.addr + s.msz) := by
  have h1 := hL.ok s hs
  intro x hx
  unfold wrs1 at hx
  split at hx
  · rw [List.mem_singleton.1 hx]
    unfold upI dn at *; dsimp only; omega
  · cases hx
theorem flat_other {α : Type} (q : α → Bool) (f : SG → List α) : ∀ (l : List SG), (∀ s ∈ l, ∀ x ∈ f s, q x = false) → (l.flatMap f).filter q = []
  | [], _ => rfl
  | s :: l, h => by
    rw [List.flatMap_cons, List.filter_append, flat_other q f l (fun t ht => h t (List.mem_cons_of_mem _ ht)), List.append_nil, List.filter_eq_nil_iff]
    intro x hx
    rw [h s (List.mem_cons_self ..) x hx]
    simp
/-- Of all pieces just those of the load itself hold its addresses. -/
theorem flat_one {α : Type} (q : α → Bool) (f : SG → List α) {l : List SG} {i : Nat} (hi : i < l.length) (h : ∀ j (hj : j < l.length), j ≠ i → ∀ x ∈ f l[j], q x = false) : (l.flatMap f).filter q = (f l[i]).filter q := by
  have e : l = l.take i ++ l[i] :: l.drop (i + 1) := by rw [List.getElem_cons_drop, List.take_append_drop]
  have h1 : ((l.take i).flatMap f).filter q = [] := flat_other q f _ (fun s hs => by
    obtain ⟨j, hj, rfl⟩ := List.mem_iff_getElem.1 hs
    have hj2 : j < i := by simp at hj; omega
    rw [List.getElem_take]
    exact h j (by omega) (by omega))
  have h2 : ((l.drop (i + 1)).flatMap f).filter q = [] := flat_other q f _ (fun s hs => by
    obtain ⟨j, hj, rfl⟩ := List.mem_iff_getElem.1 hs
    have hj2 : i + 1 + j < l.length := by simp at hj; omega
    rw [List.getElem_drop]
    exact h (i + 1 + j) hj2 (by omega))
  have e2 : (l.flatMap f).filter q = ((l.take i ++ l[i] :: l.drop (i + 1)).flatMap f).filter q := by rw [← e]
  rw [e2, List.flatMap_append, List.flatMap_cons, List.filter_append, List.filter_append, h1, h2, List.nil_append, List.append_nil]
theorem seg_far {base fin : Int} {l : List SG} (hL : Loads fin l) (hb : base % 4096 = 0) {i j : Nat} (hi : i < l.length) (hj : j < l.length) (hne : j ≠ i) {a : Int} (h0 : base + l[i].addr ≤ a) (h1 : a < base + l[i].addr + l[i].msz) : a < dn (base + l[j].addr) ∨ upI (base + l[j].addr + l[j].msz) ≤ a := by
  rcases Nat.lt_or_ge j i with h | h
  · right
    have := hL.rise h hi
    unfold upI dn at *; omega
  · left
    have := hL.rise (i := i) (j := j) (by omega) hj
    unfold upI dn at *; omega
theorem pcs_in {base ino fin : Int} {l : List SG} (hL : Loads fin l) (hb : base % 4096 = 0) {i : Nat} (hi : i < l.length) {a : Int} (h0 : base + l[i].addr ≤ a) (h1 : a < base + l[i].addr + l[i].msz) : (pcsL base ino l).filter (inP a) = (pcs1 base ino l[i]).filter (inP a) :=
  flat_one _ _ hi (fun j hj hne x hx => by
    have := seg_far hL hb hi hj hne h0 h1
    have hx2 := pcs1_in hL (List.getElem_mem hj) x hx
    unfold inP
    rw [Bool.and_eq_false_iff, decide_eq_false_iff_not, decide_eq_false_iff_not]
    omega)
theorem wrs_in {base fin : Int} {l : List SG} (hL : Loads fin l) (hb : base % 4096 = 0) {i : Nat} (hi : i < l.length) {a : Int} (h0 : base + l[i].addr ≤ a) (h1 : a < base + l[i].addr + l[i].msz) : (wrsL base l).filter (inW a) = (wrs1 base l[i]).filter (inW a) :=
  flat_one _ _ hi (fun j hj hne x hx => by
    have := seg_far hL hb hi hj hne h0 h1
    have hx2 := wrs1_in hL (List.getElem_mem hj) x hx
    unfold inW
    rw [Bool.and_eq_false_iff, decide_eq_false_iff_not, decide_eq_false_iff_not]
    omega)
/-- What is found at byte k of a load. -/
theorem found_at {base ino fin : Int} {l : List SG} (hL : Loads fin l) (hb : base % 4096 = 0) (hn : 0 ≤ ino) {i : Nat} (hi : i < l.length) {k : Int} (h0 : 0 ≤ k) (h1 : k < l[i].msz) :
    fdN (base + l[i].addr + k) (pcsL base ino l) = 1 ∧ fdW (base + l[i].addr + k) (fdA (base + l[i].addr + k) (pcsL base ino l)) (wrsL base l) = if k < l[i].fsz then l[i].off + k else -1 := by
  have hs := hL.ok l[i] (List.getElem_mem hi)
  have e1 := pcs_in (ino := ino) hL hb hi (a := base + l[i].addr + k) (by omega) (by omega)
  have e2 := wrs_in hL hb hi (a := base + l[i].addr + k) (by omega) (by omega)
  unfold fdN
  rw [fdA_filter, fdW_filter, e1, e2]
  clear e1 e2
  generalize l[i] = s at *
  by_cases hz : 0 < s.fsz
  · have hA : pcsA base ino s = [⟨dn (base + s.addr), upI (base + s.addr + s.fsz), s.flags, ino, dn s.off⟩] := if_pos hz
    have hF : fromB base s = upI (base + s.addr + s.fsz) := if_pos hz
    by_cases hka : base + s.addr + k < upI (base + s.addr + s.fsz)
    · have hi1 : inP (base + s.addr + k) ⟨dn (base + s.addr), upI (base + s.addr + s.fsz), s.flags, ino, dn s.off⟩ = true := by
        unfold inP
        rw [Bool.and_eq_true, decide_eq_true_eq, decide_eq_true_eq]
        unfold upI dn at *; dsimp only at *; omega
      have hB : (pcsB base s).filter (inP (base + s.addr + k)) = [] := by
        rw [List.filter_eq_nil_iff]
        intro x hx
        unfold pcsB at hx
        split at hx
        · rw [List.mem_singleton.1 hx, hF]
          unfold inP
          simp
          omega
        · cases hx
      have e3 : (pcs1 base ino s).filter (inP (base + s.addr + k)) = [⟨dn (base + s.addr), upI (base + s.addr + s.fsz), s.flags, ino, dn s.off⟩] := by
        unfold pcs1
        rw [List.filter_append, hB, hA, List.filter_cons, if_pos hi1]
        rfl
      rw [e3]
      refine ⟨rfl, ?_⟩
      rw [List.foldl_cons, List.foldl_nil]
      have ea : atP (base + s.addr + k) (-1) ⟨dn (base + s.addr), upI (base + s.addr + s.fsz), s.flags, ino, dn s.off⟩ = s.off + k := by
        unfold atP
        rw [if_pos hi1, if_pos hn]
        unfold dn; dsimp only; omega
      rw [ea]
      by_cases hkf : k < s.fsz
      · rw [if_pos hkf]
        have e4 : (wrs1 base s).filter (inW (base + s.addr + k)) = [] := by
          rw [List.filter_eq_nil_iff]
          intro x hx
          unfold wrs1 at hx
          split at hx
          · rw [List.mem_singleton.1 hx]
            unfold inW
            simp
            omega
          · cases hx
        rw [e4]
        rfl
      · rw [if_neg hkf]
        have e4 : (wrs1 base s).filter (inW (base + s.addr + k)) = [(base + s.addr + s.fsz, (upI (base + s.addr + s.fsz) - (base + s.addr + s.fsz)).toNat)] := by
          unfold wrs1
          rw [if_pos ⟨hz, by omega, by unfold upI dn at hka; omega⟩, List.filter_cons, if_pos]
          · rfl
          · unfold inW
            rw [Bool.and_eq_true, decide_eq_true_eq, decide_eq_true_eq]
            dsimp only
            omega
        rw [e4, List.foldl_cons, List.foldl_nil]
        unfold atW
        split
        · rfl
        · rename_i hw
          exfalso
          apply hw
          unfold inW
          rw [Bool.and_eq_true, decide_eq_true_eq, decide_eq_true_eq]
          dsimp only
          omega
    · have hi1 : inP (base + s.addr + k) ⟨dn (base + s.addr), upI (base + s.addr + s.fsz), s.flags, ino, dn s.off⟩ = false := by
        unfold inP
        rw [Bool.and_eq_false_iff, decide_eq_false_iff_not, decide_eq_false_iff_not]
        dsimp only
        omega
      have hlt : fromB base s < upI (base + s.addr + s.msz) := by rw [hF]; unfold upI dn at *; omega
      have hB : pcsB base s = [⟨upI (base + s.addr + s.fsz), upI (base + s.addr + s.msz), s.flags, -1, 0⟩] := by unfold pcsB; rw [if_pos hlt, hF]
      have hi2 : inP (base + s.addr + k) ⟨upI (base + s.addr + s.fsz), upI (base + s.addr + s.msz), s.flags, -1, 0⟩ = true := by
        unfold inP
        rw [Bool.and_eq_true, decide_eq_true_eq, decide_eq_true_eq]
        unfold upI dn at *; dsimp only at *; omega
      have e3 : (pcs1 base ino s).filter (inP (base + s.addr + k)) = [⟨upI (base + s.addr + s.fsz), upI (base + s.addr + s.msz), s.flags, -1, 0⟩] := by
        unfold pcs1
        rw [List.filter_append, hA, hB, List.filter_cons, if_neg (by rw [hi1]; simp), List.filter_cons, if_pos hi2]
        rfl
      rw [e3, if_neg (by unfold upI dn at hka; omega)]
      refine ⟨rfl, ?_⟩
      have ea : List.foldl (atP (base + s.addr + k)) (-1) [⟨upI (base + s.addr + s.fsz), upI (base + s.addr + s.msz), s.flags, -1, 0⟩] = -1 := by
        rw [List.foldl_cons, List.foldl_nil]
        unfold atP
        rw [if_pos hi2]
        rfl
      rw [ea]
      exact fdW_neg _ _
  · have hA : pcsA base ino s = [] := if_neg hz
    have hF : fromB base s = dn (base + s.addr) := if_neg hz
    have hlt : fromB base s < upI (base + s.addr + s.msz) := by rw [hF]; unfold upI dn at *; omega
    have hB : pcsB base s = [⟨dn (base + s.addr), upI (base + s.addr + s.msz), s.flags, -1, 0⟩] := by unfold pcsB; rw [if_pos hlt, hF]
    have hi2 : inP (base + s.addr + k) ⟨dn (base + s.addr), upI (base + s.addr + s.msz), s.flags, -1, 0⟩ = true := by
      unfold inP
      rw [Bool.and_eq_true, decide_eq_true_eq, decide_eq_true_eq]
      unfold upI dn at *; dsimp only at *; omega
    have e3 : (pcs1 base ino s).filter (inP (base + s.addr + k)) = [⟨dn (base + s.addr), upI (base + s.addr + s.msz), s.flags, -1, 0⟩] := by
      unfold pcs1
      rw [hA, hB, List.nil_append, List.filter_cons, if_pos hi2]
      rfl
    rw [e3, if_neg (by omega)]
    refine ⟨rfl, ?_⟩
    have ea : List.foldl (atP (base + s.addr + k)) (-1) [⟨dn (base + s.addr), upI (base + s.addr + s.msz), s.flags, -1, 0⟩] = -1 := by
      rw [List.foldl_cons, List.foldl_nil]
      unfold atP
      rw [if_pos hi2]
      rfl
    rw [ea]
    exact fdW_neg _ _
/-- Whichever piece holds the address permits what the load does. -/
theorem found_prot {base ino fin : Int} {l : List SG} (hL : Loads fin l) (hb : base % 4096 = 0) {i : Nat} (hi : i < l.length) {k : Int} (h0 : 0 ≤ k) (h1 : k < l[i].msz) : ∀ p ∈ pcsL base ino l, inP (base + l[i].addr + k) p = true → p.prot = l[i].flags := by
  intro p hp hin
  have e1 := pcs_in (ino := ino) hL hb hi (a := base + l[i].addr + k) (by omega) (by omega)
  have hm : p ∈ (pcsL base ino l).filter (inP (base + l[i].addr + k)) := List.mem_filter.2 ⟨hp, hin⟩
  rw [e1] at hm
  exact (pcs1_in hL (List.getElem_mem hi) p (List.mem_filter.1 hm).1).2.2
/-- Pieces rise. -/
theorem pcsL_rise {base ino fin : Int} (hb : base % 4096 = 0) : ∀ {l : List SG}, Loads fin l → (pcsL base ino l).Pairwise (fun p q => p.to ≤ q.fr)
  | [], _ => List.Pairwise.nil
  | s :: r, hL => by
    have hL2 : Loads fin r := ⟨fun x hx => hL.ok x (List.mem_cons_of_mem _ hx), fun i hi => by have := hL.next (i + 1) (by simpa using hi); simpa using this⟩
    have ih := pcsL_rise (ino := ino) hb hL2
    have hs := hL.ok s (List.mem_cons_self ..)
    unfold pcsL at ih ⊢
    rw [List.flatMap_cons, List.pairwise_append]
    refine ⟨?_, ih, fun p hp q hq => ?_⟩
    · unfold pcs1 pcsA pcsB fromB
      split <;> split <;> simp
    · have h1 := pcs1_in hL (List.mem_cons_self ..) p hp
      obtain ⟨t, ht, hq2⟩ := List.mem_flatMap.1 hq
      have h2 := pcs1_in hL (List.mem_cons_of_mem _ ht) q hq2
      obtain ⟨j, hj, rfl⟩ := List.mem_iff_getElem.1 ht
      have h3 := hL.rise (i := 0) (j := j + 1) (by omega) (by simpa using hj)
      simp only [List.getElem_cons_zero, List.getElem_cons_succ] at h3
      unfold upI dn at *
      omega
end Go.Proofs.Ytkpopdkkobelaaa
