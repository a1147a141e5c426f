
/- Lists of texts as arguments. -/
import Derived.Test.YtkkadknijjninaaDoorKE
import Derived.Test.YtkkadknijjninaaDoorKO
import Derived.Test.YtkkadknijjninaaDoorRows
import Derived.SliceStrings
import Derived.SizedLaws
namespace Go.Proofs.YtkkadknijjninaaDoor
open Go.ChangeShapes Go.WideShapes Go.ChangeAt Go.RowKit

theorem own : ownKnob Tryd.prog.godebug = none := by kernel_rfl
theorem laidOut : laidOutB Tryd.prog = true := by kernel_rfl

theorem weightsAll_in {H : Type} {P : Program} {e : TypeId} : ∀ {l : List (DataW H)} {d : DataW H}, d ∈ l → ∀ n ∈ d.weights P e, n ∈ DataW.weightsAll P e l
  | [], _, h, _, _ => by simp at h
  | x :: l, d, h, n, hn => by
    simp only [DataW.weightsAll, List.mem_append]
    rcases List.mem_cons.1 h with rfl | h
    · exact .inl hn
    · exact .inr (weightsAll_in h n hn)

theorem open_txts {H : Type} {enc : TypeId × Value → H} {P : Program} {W : World} {t e : TypeId} {v : Value} {d : DataW H} {ps : List MemPlace}
    (ht : P.underlying t = some (.slice e)) (he : P.underlying e = some .string) (hc : P.cellsOf e = 1) (hby : P.bytesOf e = 16)
    (h : ∃ fuel, DataW.trod enc P W 0 (fun _ => true) true fuel t [v] = some (d, ps)) (hz : (d.weights P t).all (· ≤ reachBytes) = true) :
    ∃ a len cap ds, v = .slice a len cap ∧ Cel W a len (strs ds) ∧ len ≤ cap ∧ (a = none → cap = 0) ∧ cap ≤ 8796093022207 ∧ ∀ p ∈ ds, p.length ≤ 140737488351232 := by
  obtain ⟨fuel, hf⟩ := h
  rcases open_strings ht he hc hf with ⟨hcs, hx⟩ | ⟨a, len, cap, ss, hcs, _, hl, hm, hz', hx, hcell, hwz⟩
  · simp only [List.cons.injEq, and_true] at hcs
    subst hcs
    exact ⟨none, 0, 0, [], rfl, Cel.nil _ _, Nat.le_refl _, fun _ => rfl, by omega, fun p hp => by simp at hp⟩
  · simp only [List.cons.injEq, and_true] at hcs
    subst hcs
    simp only [if_true] at hz'
    simp only [Prod.mk.injEq] at hx
    obtain ⟨rfl, _⟩ := hx
    have hz2 := hz
    have hr : reachBytes = 140737488351232 - 1 + 1 := rfl
    simp only [DataW.weights, ht, List.all_cons, Bool.and_eq_true, decide_eq_true_eq] at hz
    obtain ⟨hz3, hz4⟩ := hz
    rw [hby] at hz3
    simp only [Go.ChangeShapes.strs, List.length_map, List.length_take, List.length_drop] at hz3
    refine ⟨some a, len, cap, (ss.take len).map (fun s => s.data.toList), rfl, ⟨by simp [strs]; omega, fun i hi => ?_⟩, hl, (fun h => by cases h), by omega, fun p hp => ?_⟩
    · have hi' : i < len := by simp [strs] at hi; omega
      have h1 := hcell i (by omega)
      have h0 := hcell 0 (by omega)
      have hzi : ss.getD i ByteArray.empty = ss[i]'(by omega) := by rw [List.getD_eq_getElem?_getD, List.getElem?_eq_getElem (by omega)]; rfl
      rw [hzi] at h1
      obtain ⟨b, off, spot⟩ := a
      have hsp : spot = none := by
        simp only [Addr.add, if_true] at h0
        unfold World.cell? at h0
        split at h0
        · cases spot with
          | none => rfl
          | some s => simp at h0
        · cases h0
      subst hsp
      refine ⟨b, off, rfl, ?_⟩
      have e2 : (Addr.mk b off none).add i = ⟨b, off + i, none⟩ := by
        unfold Addr.add
        split
        · subst_vars; simp
        · rfl
      rw [e2] at h1
      rw [h1]
      simp [strs]
      rfl
    · obtain ⟨s, hs, rfl⟩ := List.mem_map.1 hp
      rw [List.all_append, Bool.and_eq_true] at hz4
      have := List.all_eq_true.1 hz4.1 s.data.toList.length (weightsAll_in (d := .lit (.string s.data.toList)) (by simp only [Go.ChangeShapes.strs]; exact List.mem_map.2 ⟨s, hs, rfl⟩) _ (by simp [DataW.weights]))
      have h2 := of_decide_eq_true this
      rw [hr] at h2
      omega
theorem open_txts_arg {H : Type} {enc : TypeId × Value → H} {P : Program} {W : World} {r : Reach} {b0 : Nat} {t e : TypeId} {v : Value} {d : DataW H} {ps : List MemPlace}
    (ht : P.underlying t = some (.slice e)) (he : P.underlying e = some .string) (hc : P.cellsOf e = 1) (hby : P.bytesOf e = 16) (hv : Value.okWide P W r b0 t v)
    (h : DataW.Trod enc P W 0 (fun _ => true) true t v d ps) (hz : (d.weights P t).all (· ≤ reachBytes) = true) :
    ∃ a len cap ds, v = .slice a len cap ∧ Cel W a len (strs ds) ∧ len ≤ cap ∧ (a = none → cap = 0) ∧ cap ≤ 8796093022207 ∧ ∀ p ∈ ds, p.length ≤ 140737488351232 := by
  obtain ⟨a, len, cap, rfl⟩ := okWide_slice ht hv
  obtain ⟨fuel, hf⟩ := h
  exact open_txts ht he hc hby ⟨fuel, hf⟩ hz
end Go.Proofs.YtkkadknijjninaaDoor
