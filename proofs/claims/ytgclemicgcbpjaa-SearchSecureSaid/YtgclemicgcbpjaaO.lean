/- Opening arguments: slices of bytes. No program is named. -/
import Derived.Test.YtgclemicgcbpjaaB
import Derived.Test.YtgclemicgcbpjaaF
namespace Go.Proofs.Ytgclemicgcbpjaa
open Go.ChangeShapes Go.WideShapes Go.ChangeAt Go.RowKit Go.ChangeMaps

theorem lits_len (k : IntKind) (l : List Int) {H : Type} : (lits (H := H) k l).length = l.length := by simp [lits]

theorem open_bytes {H : Type} {enc : TypeId × Value → H} {P : Program} {W : World} {t e : TypeId} {v : Value} {d : DataW H} {ps : List MemPlace} {held : Bool}
    (ht : P.underlying t = some (.slice e)) (he : P.underlying e = some (.int .u8)) (hc : P.cellsOf e = 1)
    (h : ∃ fuel, DataW.trod enc P W 0 (fun _ => true) held fuel t [v] = some (d, ps)) :
    ∃ a len cap l, v = .slice a len cap ∧ Byt W a len l ∧ len ≤ cap ∧ cap ≤ maxLen ∧ (∀ n, (d.weights P t).all (· ≤ n) = true → cap * P.bytesOf e ≤ n) := by
  obtain ⟨fuel, hf⟩ := h
  rcases open_ints ht he hc hf with ⟨hcs, hx⟩ | ⟨a, len, cap, zs, hcs, _, hl, hm, hz, hx, hcell, hwz⟩
  · simp only [List.cons.injEq, and_true] at hcs
    subst hcs
    exact ⟨none, 0, 0, [], rfl, Byt.nil _ _, Nat.le_refl _, by simp [maxLen], fun n _ => by simp⟩
  · simp only [List.cons.injEq, and_true] at hcs
    subst hcs
    simp only [if_true] at hz
    have hlen : (zs.take len).length = len := by simp; omega
    refine ⟨some a, len, cap, (zs.take len).map (fun z => UInt8.ofNat z.toNat), rfl, ⟨by simp; omega, fun i hi => ?_⟩, hl, hm, fun n hn => ?_⟩
    · have hi' : i < len := by simp at hi; omega
      have h1 := hcell i (by omega)
      have hzi : zs.getD i 0 = zs[i]'(by omega) := by rw [List.getD_eq_getElem?_getD, List.getElem?_eq_getElem (by omega)]; rfl
      have hw := bounds_u8 (hwz (zs[i]'(by omega)) (List.getElem_mem _))
      have hval : (((zs.take len).map (fun z => UInt8.ofNat z.toNat))[i]'hi).toNat = (zs[i]'(by omega)).toNat := by
        simp only [List.getElem_map, List.getElem_take, UInt8.toNat_ofNat']
        omega
      rw [hzi] at h1
      obtain ⟨b, off, spot⟩ := a
      have hs : spot = none ∨ i ≠ 0 := by
        by_cases e0 : i = 0
        · left
          subst e0
          simp only [Addr.add, if_true] at h1
          unfold World.cell? at h1
          split at h1
          · cases spot with
            | none => rfl
            | some s => simp at h1
          · cases h1
        · exact .inr e0
      have h0 := hcell 0 (by omega)
      have hsp : spot = none := by
        simp only [Addr.add, if_true] at h0
        unfold World.cell? at h0
        split at h0
        · cases spot with
          | none => rfl
          | some s => simp at h0
        · cases h0
      subst hsp
      refine ⟨b, off, rfl, ?_⟩
      have e2 : (Addr.mk b off none).add i = ⟨b, off + i, none⟩ := by
        unfold Addr.add
        split
        · subst_vars; simp
        · rfl
      rw [e2] at h1
      rw [h1, hval]
      congr 2
      omega
    · simp only [Prod.mk.injEq] at hx
      obtain ⟨rfl, _⟩ := hx
      simp only [DataW.weights, ht, lits_len, List.all_cons, Bool.and_eq_true, decide_eq_true_eq, List.length_take, List.length_drop] at hn
      have h3 := hn.1
      have e3 : min len zs.length + (zs.length - len) = cap := by omega
      rw [e3] at h3
      exact h3

/-- An argument that is a slice of bytes. -/
theorem open_bytes_arg {H : Type} {enc : TypeId × Value → H} {P : Program} {W : World} {t e : TypeId} {v : Value} {d : DataW H} {ps : List MemPlace} {held : Bool} {r : Reach} {base : Nat}
    (ht : P.underlying t = some (.slice e)) (he : P.underlying e = some (.int .u8)) (hc : P.cellsOf e = 1) (hv : Value.okWide P W r base t v)
    (h : DataW.Trod enc P W 0 (fun _ => true) held t v d ps) :
    ∃ a len cap l, v = .slice a len cap ∧ Byt W a len l ∧ len ≤ cap ∧ cap ≤ maxLen ∧ (∀ n, (d.weights P t).all (· ≤ n) = true → cap * P.bytesOf e ≤ n) := by
  obtain ⟨a, len, cap, rfl⟩ := okWide_slice ht hv
  exact open_bytes ht he hc h

/-- A field's cell that reads as a slice is one. -/
theorem field_slice {H : Type} {enc : TypeId × Value → H} {P : Program} {W : World} {t e : TypeId} {v : Value} {y : DataW H × List MemPlace} {sp : Nat → Bool} {held : Bool} {m : Nat}
    (ht : P.underlying t = some (.slice e)) (h : DataW.trod enc P W 0 sp held m t [v] = some y) : ∃ a len cap, v = .slice a len cap := by
  rcases DataW.trod_slice ht h with ⟨h0, _⟩ | ⟨a, len, cap, elems, rest, n, _, h0, _⟩
  · simp only [List.cons.injEq, and_true] at h0
    exact ⟨_, _, _, h0⟩
  · simp only [List.cons.injEq, and_true] at h0
    exact ⟨_, _, _, h0⟩
end Go.Proofs.Ytgclemicgcbpjaa
