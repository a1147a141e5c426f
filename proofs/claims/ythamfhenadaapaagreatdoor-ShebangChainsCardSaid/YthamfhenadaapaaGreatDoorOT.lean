
/- Lists of texts as arguments, also inside structs. -/
import Derived.Test.YthamfhenadaapaaGreatDoorKE
import Derived.Test.YthamfhenadaapaaGreatDoorKO
import Derived.SliceStrings
import Derived.SizedLaws
namespace Go.Proofs.YthamfhenadaapaaGreatDoor
open Go.ChangeShapes Go.WideShapes Go.ChangeAt Go.RowKit

theorem open_txts {H : Type} {enc : TypeId × Value → H} {P : Program} {W : World} {t e : TypeId} {v : Value} {d : DataW H} {ps : List MemPlace}
    (ht : P.underlying t = some (.slice e)) (he : P.underlying e = some .string) (hc : P.cellsOf e = 1) (hby : P.bytesOf e = 16)
    (h : ∃ fuel, DataW.trod enc P W 0 (fun _ => true) true fuel t [v] = some (d, ps)) (hz : (d.weights P t).all (· ≤ reachBytes) = true) :
    ∃ a len cap ds, v = .slice a len cap ∧ Cel W a len (strs ds) ∧ len ≤ cap ∧ (a = none → cap = 0) ∧ cap ≤ 8796093022207 ∧ ∀ p ∈ ds, p.length ≤ 140737488351232 := by
  obtain ⟨fuel, hf⟩ := h
  rcases open_strings ht he hc hf with ⟨hcs, hx⟩ | ⟨a, len, cap, ss, hcs, _, hl, hm, hz', hx, hcell, hwz⟩
  · simp only [List.cons.injEq, and_true] at hcs
    subst hcs
    exact ⟨none, 0, 0, [], rfl, Cel.nil _ _, Nat.le_refl _, fun _ => rfl, by omega, fun p hp => by simp at hp⟩
  · simp only [List.cons.injEq, and_true] at hcs
    subst hcs
    simp only [if_true] at hz'
    simp only [Prod.mk.injEq] at hx
    obtain ⟨rfl, _⟩ := hx
    have hz2 := hz
    have hr : reachBytes = 140737488351232 - 1 + 1 := rfl
    simp only [DataW.weights, ht, List.all_cons, Bool.and_eq_true, decide_eq_true_eq] at hz
    obtain ⟨hz3, hz4⟩ := hz
    rw [hby] at hz3
    simp only [Go.ChangeShapes.strs, List.length_map, List.length_take, List.length_drop] at hz3
    refine ⟨some a, len, cap, (ss.take len).map (fun s => s.data.toList), rfl, ⟨by simp [strs]; omega, fun i hi => ?_⟩, hl, (fun h => by cases h), by omega, fun p hp => ?_⟩
    · have hi' : i < len := by simp [strs] at hi; omega
      have h1 := hcell i (by omega)
      have h0 := hcell 0 (by omega)
      have hzi : ss.getD i ByteArray.empty = ss[i]'(by omega) := by rw [List.getD_eq_getElem?_getD, List.getElem?_eq_getElem (by omega)]; rfl
      rw [hzi] at h1
      obtain ⟨b, off, spot⟩ := a
      have hsp : spot = none := by
        simp only [Addr.add, if_true] at h0
        unfold World.cell? at h0
        split at h0
        · cases spot with
          | none => rfl
          | some s => simp at h0
        · cases h0
      subst hsp
      refine ⟨b, off, rfl, ?_⟩
      have e2 : (Addr.mk b off none).add i = ⟨b, off + i, none⟩ := by
        unfold Addr.add
        split
        · subst_vars; simp
        · rfl
      rw [e2] at h1
      rw [h1]
      simp [strs]
      rfl
    · obtain ⟨s, hs, rfl⟩ := List.mem_map.1 hp
      rw [List.all_append, Bool.and_eq_true] at hz4
      have := List.all_eq_true.1 hz4.1 s.data.toList.length (weightsAll_mem (d := .lit (.string s.data.toList)) (by simp only [Go.ChangeShapes.strs]; exact List.mem_map.2 ⟨s, hs, rfl⟩) _ (by simp [DataW.weights]))
      have h2 := of_decide_eq_true this
      rw [hr] at h2
      omega
theorem small_all {H : Type} {P : Program} {t : TypeId} {d : DataW H} (h : Small P reachBytes t d) : (d.weights P t).all (· ≤ reachBytes) = true := by
  rw [List.all_eq_true]
  intro n hn
  exact decide_eq_true (h n hn)
theorem leaf_txts {H : Type} {enc : TypeId × Value → H} {W : World} {m : Nat} {v : Value} {y : DataW H × List MemPlace} (h : DataW.trod enc Tryz.prog W 0 (fun _ => true) true m 27 [v] = some y) (hs : Small Tryz.prog reachBytes 27 y.1) :
    ∃ a len cap ds, v = .slice a len cap ∧ Cel W a len (strs ds) ∧ len ≤ cap ∧ (a = none → cap = 0) ∧ cap ≤ 8796093022207 ∧ ∀ p ∈ ds, p.length ≤ 140737488351232 := by
  obtain ⟨d, ps⟩ := y
  exact open_txts Tryz.underlying27 Tryz.underlying9 (by kernel_rfl) (by kernel_rfl) ⟨m, h⟩ (small_all hs)
end Go.Proofs.YthamfhenadaapaaGreatDoor
