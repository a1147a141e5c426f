
/- Leaves of structs, opened: numbers, texts, lists of texts; lists of what is known of each place. No program is named. -/
import Derived.Test.YtcbkikioapdbbaaDoorKO
import Derived.Test.YtcbkikioapdbbaaDoorKE
import Derived.SliceStrings
import Derived.SizedLaws
namespace Go.Proofs.YtcbkikioapdbbaaDoor
open Go.ChangeShapes Go.WideShapes Go.ChangeAt Go.RowKit Go.Sort

theorem lst_of {α : Type} (P : Nat → α → Prop) : ∀ n, (∀ i, i < n → ∃ x, P i x) → ∃ l : List α, l.length = n ∧ ∀ i (hi : i < l.length), P i l[i]
  | 0, _ => ⟨[], rfl, fun i hi => by simp at hi⟩
  | n + 1, h => by
    obtain ⟨l, hl, hp⟩ := lst_of P n (fun i hi => h i (by omega))
    obtain ⟨x, hx⟩ := h n (by omega)
    refine ⟨l ++ [x], by simp [hl], fun i hi => ?_⟩
    by_cases e : i < l.length
    · rw [List.getElem_append_left e]; exact hp i e
    · have : i = n := by simp at hi; omega
      subst this
      rw [List.getElem_append_right (by omega)]
      simp [hl]
      exact hx
theorem lf_txts0 {H : Type} {enc : TypeId × Value → H} {P : Program} {W : World} {t e : TypeId} {v : Value} {d : DataW H} {ps : List MemPlace}
    (ht : P.underlying t = some (.slice e)) (he : P.underlying e = some .string) (hc : P.cellsOf e = 1) (hby : P.bytesOf e = 16)
    (h : ∃ fuel, DataW.trod enc P W 0 (fun _ => true) true fuel t [v] = some (d, ps)) (hz : (d.weights P t).all (· ≤ reachBytes) = true) :
    ∃ a len cap ds, v = .slice a len cap ∧ Cel W a len (strs ds) ∧ len ≤ cap ∧ (a = none → cap = 0) ∧ cap ≤ 8796093022207 ∧ ∀ p ∈ ds, p.length ≤ 140737488351232 := by
  obtain ⟨fuel, hf⟩ := h
  rcases open_strings ht he hc hf with ⟨hcs, hx⟩ | ⟨a, len, cap, ss, hcs, _, hl, hm, hz', hx, hcell, hwz⟩
  · simp only [List.cons.injEq, and_true] at hcs
    subst hcs
    exact ⟨none, 0, 0, [], rfl, Cel.nil _ _, Nat.le_refl _, fun _ => rfl, by omega, fun p hp => by simp at hp⟩
  · simp only [List.cons.injEq, and_true] at hcs
    subst hcs
    simp only [if_true] at hz'
    simp only [Prod.mk.injEq] at hx
    obtain ⟨rfl, _⟩ := hx
    have hz2 := hz
    have hr : reachBytes = 140737488351232 - 1 + 1 := rfl
    simp only [DataW.weights, ht, List.all_cons, Bool.and_eq_true, decide_eq_true_eq] at hz
    obtain ⟨hz3, hz4⟩ := hz
    rw [hby] at hz3
    simp only [Go.ChangeShapes.strs, List.length_map, List.length_take, List.length_drop] at hz3
    refine ⟨some a, len, cap, (ss.take len).map (fun s => s.data.toList), rfl, ⟨by simp [strs]; omega, fun i hi => ?_⟩, hl, (fun h => by cases h), by omega, fun p hp => ?_⟩
    · have hi' : i < len := by simp [strs] at hi; omega
      have h1 := hcell i (by omega)
      have h0 := hcell 0 (by omega)
      have hzi : ss.getD i ByteArray.empty = ss[i]'(by omega) := by rw [List.getD_eq_getElem?_getD, List.getElem?_eq_getElem (by omega)]; rfl
      rw [hzi] at h1
      obtain ⟨b, off, spot⟩ := a
      have hsp : spot = none := by
        simp only [Addr.add, if_true] at h0
        unfold World.cell? at h0
        split at h0
        · cases spot with
          | none => rfl
          | some s => simp at h0
        · cases h0
      subst hsp
      refine ⟨b, off, rfl, ?_⟩
      have e2 : (Addr.mk b off none).add i = ⟨b, off + i, none⟩ := by
        unfold Addr.add
        split
        · subst_vars; simp
        · rfl
      rw [e2] at h1
      rw [h1]
      simp [strs]
      rfl
    · obtain ⟨s, hs, rfl⟩ := List.mem_map.1 hp
      rw [List.all_append, Bool.and_eq_true] at hz4
      have := List.all_eq_true.1 hz4.1 s.data.toList.length (weightsAll_mem (d := .lit (.string s.data.toList)) (by simp only [Go.ChangeShapes.strs]; exact List.mem_map.2 ⟨s, hs, rfl⟩) _ (by simp [DataW.weights]))
      have h2 := of_decide_eq_true this
      rw [hr] at h2
      omega

section
variable {H : Type} {enc : TypeId × Value → H} {P : Program} {w : World} {held : Bool}
theorem lf_int {sp : Nat → Bool} {m : Nat} {u : TypeId} {k : IntKind} {v : Value} {y : DataW H × List MemPlace} (ht : P.underlying u = some (.int k)) (h : DataW.trod enc P w 0 sp held m u [v] = some y) : ∃ i, v = .int k i ∧ (Lit.int k i).wf = true := by
  obtain ⟨x, e, _, hw⟩ := DataW.trod_int ht h
  simp only [List.cons.injEq, and_true] at e
  exact ⟨x, e, hw⟩
theorem lf_str {sp : Nat → Bool} {N m : Nat} {u : TypeId} {v : Value} {y : DataW H × List MemPlace} (ht : P.underlying u = some .string) (h : DataW.trod enc P w 0 sp held m u [v] = some y) (hs : Small P N u y.1) : ∃ l : List UInt8, v = .string (ba l) ∧ l.length ≤ N := by
  obtain ⟨s, e, hx, _⟩ := DataW.trod_string ht h
  simp only [List.cons.injEq, and_true] at e
  refine ⟨s.data.toList, e, ?_⟩
  subst hx
  exact hs _ (by simp [DataW.weights])
theorem lf_txts {m : Nat} {t e : TypeId} {v : Value} {y : DataW H × List MemPlace} (ht : P.underlying t = some (.slice e)) (he : P.underlying e = some .string) (hc : P.cellsOf e = 1) (hby : P.bytesOf e = 16)
    (h : DataW.trod enc P w 0 (fun _ => true) true m t [v] = some y) (hs : Small P reachBytes t y.1) :
    ∃ a len cap ds, v = .slice a len cap ∧ Cel w a len (strs ds) ∧ len ≤ cap ∧ (a = none → cap = 0) ∧ cap ≤ 8796093022207 ∧ ∀ p ∈ ds, p.length ≤ 140737488351232 :=
  lf_txts0 ht he hc hby (d := y.1) (ps := y.2) ⟨m, h⟩ (List.all_eq_true.2 fun n hn => decide_eq_true (hs n hn))
end
end Go.Proofs.YtcbkikioapdbbaaDoor
