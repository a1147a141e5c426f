
/- ElfFree: what is looked at. -/
import Derived.Test.YtaaohcpiideaaaaDoorNaC
namespace Go.Proofs.YtaaohcpiideaaaaDoor
open Go.RowKit Go.Sort Go.Shelf
attribute [local go_sem] Oper.semAt_some

/-- Is the byte at that place looked at? -/
def lookB (i ph many : Int) : Bool := if i < 64 then decide (i < 7 ∨ (16 ≤ i ∧ i < 40) ∨ (54 ≤ i ∧ i < 58)) else if i < ph ∨ ph + 56 * many ≤ i then false else decide ((i - ph) % 56 < 24 ∨ 32 ≤ (i - ph) % 56)
theorem look_head {i ph many : Int} (h0 : i < 64) (h : i < 7 ∨ (16 ≤ i ∧ i < 40) ∨ (54 ≤ i ∧ i < 58)) : lookB i ph many = true := by
  unfold lookB
  rw [if_pos h0, decide_eq_true h]
theorem look_seg {i ph many k o : Int} (hp : 64 ≤ ph) (hk0 : 0 ≤ k) (hk : k < many) (hi : i = ph + 56 * k + o) (ho0 : 0 ≤ o) (ho : o < 24 ∨ (32 ≤ o ∧ o < 56)) : lookB i ph many = true := by
  unfold lookB
  rw [if_neg (by omega), if_neg (by omega)]
  exact decide_eq_true (by omega)
theorem wget_look {l c : List UInt8} {ph many : Int} (hlen : c.length = l.length) (h : ∀ i : Nat, lookB i ph many = true → c[i]? = l[i]?) {p n : Int} (hs : isSz n = true) (h0 : 0 ≤ p) (hl : p + n ≤ l.length) (hk : ∀ i : Nat, p ≤ i → (i : Int) < p + n → lookB i ph many = true) : wgetV c p n = wgetV l p n :=
  wgetV_same hs h0 (by rw [hlen]; exact hl) hl (fun i h1 h2 => h i (hk i h1 h2))
theorem ps12_in {l : List UInt8} {x : HD} (h : ps12 l = some x) : hdB l = true ∧ wgetV l 32 8 + wgetV l 56 2 * 56 ≤ l.length ∧ 64 ≤ l.length ∧ x.phoff = wgetV l 32 8 := by
  unfold ps12 at h
  split at h
  · rename_i hc
    have hin := hc.2
    unfold insB at hin
    simp only [decide_eq_true_eq] at hin
    have h64 := hc.1
    unfold hdB at h64
    rw [Bool.and_eq_true, Bool.and_eq_true, decide_eq_true_eq] at h64
    refine ⟨hc.1, by omega, h64.1.1, ?_⟩
    split at h
    · cases h
    · split at h
      · cases h; rfl
      · cases h
  · cases h
theorem free_like {l c : List UInt8} {x : HD} (hx : ps12 l = some x) (hp : 64 ≤ x.phoff) (hlen : c.length = l.length) (h : ∀ i : Nat, lookB i (wgetV l 32 8) (wgetV l 56 2) = true → c[i]? = l[i]?) : Like l c := by
  obtain ⟨hh, hin, h64, hph⟩ := ps12_in hx
  rw [hph] at hp
  have hw := @wget_look l c _ _ hlen h
  refine ⟨by omega, ?_, hw rfl (by omega) (by omega) (fun i h1 h2 => look_head (by omega) (by omega)), hw rfl (by omega) (by omega) (fun i h1 h2 => look_head (by omega) (by omega)), hw rfl (by omega) (by omega) (fun i h1 h2 => look_head (by omega) (by omega)), hw rfl (by omega) (by omega) (fun i h1 h2 => look_head (by omega) (by omega)), hw rfl (by omega) (by omega) (fun i h1 h2 => look_head (by omega) (by omega)), hw rfl (by omega) (by omega) (fun i h1 h2 => look_head (by omega) (by omega)), hw rfl (by omega) (by omega) (fun i h1 h2 => look_head (by omega) (by omega)), fun k hk => ?_⟩
  · apply List.ext_getElem?
    intro i
    rw [List.getElem?_take, List.getElem?_take]
    split
    · exact h i (look_head (by omega) (by omega))
    · rfl
  · have hs : ∀ (o n : Int), 0 ≤ o → isSz n = true → (o + n ≤ 24 ∨ (32 ≤ o ∧ o + n ≤ 56)) → 0 ≤ n → wgetV c (wgetV l 32 8 + 56 * k + o) n = wgetV l (wgetV l 32 8 + 56 * k + o) n := fun o n ho hz hr hn => hw hz (by omega) (by omega) (fun i h1 h2 => look_seg (k := k) (o := (i : Int) - (wgetV l 32 8 + 56 * k)) hp (by omega) hk (by omega) (by omega) (by omega))
    refine ⟨?_, hs 48 8 (by omega) rfl (by omega) (by omega)⟩
    have h0 := hs 0 4 (by omega) rfl (by omega) (by omega)
    rw [Int.add_zero] at h0
    unfold segL
    rw [h0, hs 4 4 (by omega) rfl (by omega) (by omega), hs 8 8 (by omega) rfl (by omega) (by omega), hs 16 8 (by omega) rfl (by omega) (by omega), hs 32 8 (by omega) rfl (by omega) (by omega), hs 40 8 (by omega) rfl (by omega) (by omega)]
end Go.Proofs.YtaaohcpiideaaaaDoor
