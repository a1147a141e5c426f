
/- ElfHolds: what holds of the loads of what is parsed. -/
import Derived.Test.YtaaohcpiideaaaaDoorNaD
namespace Go.Proofs.YtaaohcpiideaaaaDoor
open Go.RowKit

/-- What is known of the loads of what was parsed of a file of n bytes. -/
structure LH (n fin : Int) (L : List SG) : Prop where
  ok : ∀ s ∈ L, 0 ≤ s.flags ∧ s.flags ≤ 7 ∧ 0 < s.msz ∧ 0 ≤ s.fsz ∧ s.fsz ≤ s.msz ∧ 0 ≤ s.off ∧ s.off + s.fsz ≤ n ∧ s.addr % 4096 = s.off % 4096 ∧ 0 ≤ s.addr ∧ s.addr + s.msz ≤ fin
  next : ∀ i (h : i + 1 < L.length), upI (L[i].addr + L[i].msz) ≤ L[i + 1].addr
theorem LH.nil {n fin : Int} : LH n fin [] := ⟨fun s h => (nomatch h), fun i h => absurd h (Nat.not_lt_zero _)⟩
theorem LH.snoc {n fin : Int} {L : List SG} {s : SG} (h : LH n fin L) (hs : 0 ≤ s.flags ∧ s.flags ≤ 7 ∧ 0 < s.msz ∧ 0 ≤ s.fsz ∧ s.fsz ≤ s.msz ∧ 0 ≤ s.off ∧ s.off + s.fsz ≤ n ∧ s.addr % 4096 = s.off % 4096 ∧ 0 ≤ s.addr ∧ s.addr + s.msz ≤ fin)
    (hn : ∀ h : 0 < L.length, upI (L[L.length - 1].addr + L[L.length - 1].msz) ≤ s.addr) : LH n fin (L ++ [s]) := by
  refine ⟨fun x hx => ?_, fun i hi => ?_⟩
  · rcases List.mem_append.1 hx with hx | hx
    · exact h.ok x hx
    · rw [List.mem_singleton.1 hx]; exact hs
  · rw [List.length_append, List.length_singleton] at hi
    by_cases h1 : i + 1 < L.length
    · rw [List.getElem_append_left (by omega), List.getElem_append_left (by omega)]
      exact h.next i h1
    · have e : i = L.length - 1 := by omega
      subst e
      rw [List.getElem_append_left (by omega), List.getElem_append_right (by omega)]
      have := hn (by omega)
      simpa using this
theorem okSeg_load {l : List UInt8} {p fin free : Int} (h : okSeg l p fin free = true) (hk : (segL l p).kind = 1) (hf : fin ≤ 140737488355328) :
    (0 ≤ (segL l p).flags ∧ (segL l p).flags ≤ 7 ∧ 0 < (segL l p).msz ∧ 0 ≤ (segL l p).fsz ∧ (segL l p).fsz ≤ (segL l p).msz ∧ 0 ≤ (segL l p).off ∧ (segL l p).off + (segL l p).fsz ≤ l.length ∧ (segL l p).addr % 4096 = (segL l p).off % 4096 ∧ 0 ≤ (segL l p).addr ∧ (segL l p).addr + (segL l p).msz ≤ fin) ∧ free ≤ (segL l p).addr ∧ frU (segL l p) = upI ((segL l p).addr + (segL l p).msz) := by
  unfold okSeg at h
  rw [Bool.and_eq_true, Bool.and_eq_true, decide_eq_true_eq] at h
  have h1 := h.1.1
  have hok := segL_ok h1
  have h2 := h.1.2
  have h3 := h.2
  generalize segL l p = s at *
  unfold ckS at h2
  unfold ckL at h3
  rw [hk] at h2 h3
  rw [show knownB 1 = true from rfl] at h2
  unfold insB at h2
  simp at h2 h3
  have := hok.f0; have := hok.o0; have := hok.a0; have := hok.z0; have := hok.m0; have := hok.m1
  have hm : s.addr + s.msz ≤ fin := by omega
  refine ⟨⟨by omega, by omega, by omega, by omega, by omega, by omega, by omega, by omega, by omega, by omega⟩, by omega, ?_⟩
  unfold frU
  rw [w64_in (by omega) (by omega), upV_in (by omega) (by omega)]
/-- Loads that are right, and where their pages end. -/
structure LHf (n fin : Int) (L : List SG) (free : Int) : Prop where
  lh : LH n fin L
  fr : ∀ h : 0 < L.length, free = upI (L[L.length - 1].addr + L[L.length - 1].msz)
theorem segsL_loads {l : List UInt8} {ph fin : Int} (hf : fin ≤ 140737488355328) : ∀ {k : Nat} {xs : List SG} {free : Int}, segsL l ph fin k = some (xs, free) → LHf l.length fin (lds xs) free
  | 0, _, _, h => by
    cases h
    exact ⟨LH.nil, fun h => absurd h (Nat.lt_irrefl _)⟩
  | k + 1, xs, free, h => by
    rw [segsL] at h
    cases hy : segsL l ph fin k with
    | none => rw [hy] at h; cases h
    | some y =>
      rw [hy] at h
      simp only at h
      obtain ⟨ys, fr⟩ := y
      obtain ⟨i1, i2⟩ := segsL_loads hf hy
      split at h
      · rename_i hok
        simp only [Option.some.injEq, Prod.mk.injEq] at h
        obtain ⟨rfl, rfl⟩ := h
        rw [lds_snoc]
        by_cases hk : (segL l (ph + 56 * k)).kind = 1
        · rw [if_pos hk, show nextF (segL l (ph + 56 * k)) fr = frU (segL l (ph + 56 * k)) from if_pos hk]
          obtain ⟨g1, g2, g3⟩ := okSeg_load hok hk hf
          simp only at g2
          refine ⟨i1.snoc g1 (fun h0 => by rw [← i2 h0]; exact g2), fun h0 => ?_⟩
          rw [g3]
          simp
        · rw [if_neg hk, List.append_nil, show nextF (segL l (ph + 56 * k)) fr = fr from if_neg hk]
          exact ⟨i1, i2⟩
      · cases h
theorem ps12_loads {l : List UInt8} {x : HD} (h : ps12 l = some x) : LH l.length (finOf x.typ) (lds x.sg) ∧ 0 < (lds x.sg).length ∧ entB x.typ x.entry x.sg = true ∧ (x.typ = 2 ∨ x.typ = 3) ∧ 0 ≤ x.entry ∧ x.entry ≤ 18446744073709551615 ∧ (∀ s ∈ x.sg, SGok s) := by
  unfold ps12 at h
  split at h
  · rename_i hc
    cases hs : segsL l (wgetV l 32 8) (finOf (wgetV l 16 2)) (wgetV l 56 2).toNat with
    | none => rw [hs] at h; cases h
    | some y =>
      rw [hs] at h
      simp only at h
      split at h
      · rename_i hte
        cases h
        obtain ⟨ys, fr⟩ := y
        have hh := hc.1
        unfold hdB at hh
        rw [Bool.and_eq_true, Bool.and_eq_true, decide_eq_true_eq, decide_eq_true_eq, decide_eq_true_eq] at hh
        have hne := hte.1
        unfold togB at hne
        simp only [Bool.and_eq_true, decide_eq_true_eq] at hne
        have hl := segsL_loads (finOf_le _).2 hs
        refine ⟨hl.lh, ?_, hte.2, hh.2.1, wgetV_u, wget8, ?_⟩
        · have := hne.1.1.1
          rcases Nat.eq_zero_or_pos (lds ys).length with h0 | h0
          · exact absurd (List.length_eq_zero_iff.1 h0) this
          · exact h0
        · have hok : ∀ k (ys : List SG) (fr : Int), segsL l (wgetV l 32 8) (finOf (wgetV l 16 2)) k = some (ys, fr) → ∀ s ∈ ys, SGok s := by
            intro k
            induction k with
            | zero => intro ys fr h; cases h; intro s h; cases h
            | succ k ih =>
              intro ys fr h
              rw [segsL] at h
              cases hy : segsL l (wgetV l 32 8) (finOf (wgetV l 16 2)) k with
              | none => rw [hy] at h; cases h
              | some z =>
                rw [hy] at h
                simp only at h
                split at h
                · rename_i hk
                  simp only [Option.some.injEq, Prod.mk.injEq] at h
                  obtain ⟨rfl, rfl⟩ := h
                  intro s hm
                  rcases List.mem_append.1 hm with hm | hm
                  · exact ih z.1 z.2 hy s hm
                  · rw [List.mem_singleton.1 hm]
                    unfold okSeg at hk
                    rw [Bool.and_eq_true, Bool.and_eq_true, decide_eq_true_eq] at hk
                    exact segL_ok hk.1.1
                · cases h
          exact hok _ ys fr hs
      · cases h
  · cases h
/-- Where what is parsed begins and ends. -/
theorem LH.span {n fin : Int} {L : List SG} (h : LH n fin L) (hL : 0 < L.length) (hf : fin ≤ 140737488355328) : spanG L = (dn L[0].addr, upI (L[L.length - 1].addr + L[L.length - 1].msz)) := by
  have hz := h.ok _ (List.getElem_mem (show L.length - 1 < L.length by omega))
  unfold spanG
  rw [dif_pos hL]
  generalize L[L.length - 1] = z at *
  have hv : addV z.addr z.msz = z.addr + z.msz := by rw [addV_eq (by omega) (by omega) (by omega) (by omega), if_pos (by omega)]
  have e1 : endOk z = true := by
    unfold endOk
    rw [hv, Bool.and_eq_true]
    refine ⟨?_, ?_⟩
    · unfold addB
      rw [show IntKind.u64.wrap (z.addr + z.msz) = z.addr + z.msz from w64_in (by omega) (by omega)]
      exact decide_eq_true (by omega)
    · unfold upB
      split
      · rfl
      · unfold addB
        rw [show IntKind.u64.wrap (z.addr + z.msz - (z.addr + z.msz) % 4096 + 4096) = z.addr + z.msz - (z.addr + z.msz) % 4096 + 4096 from w64_in (by omega) (by omega)]
        exact decide_eq_true (by omega)
  rw [if_pos e1, hv, upV_in (by omega) (by omega)]
  rfl
end Go.Proofs.YtaaohcpiideaaaaDoor
