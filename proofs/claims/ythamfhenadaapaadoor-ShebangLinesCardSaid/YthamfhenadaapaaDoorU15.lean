
/- []byte(s), and bytes appended to it. -/
import Derived.Test.YthamfhenadaapaaDoorU5
import Derived.Laws.IdiomStrings
import Derived.ArgAppend
import Derived.Test.YthamfhenadaapaaDoorAN
namespace Go.Proofs.YthamfhenadaapaaDoor
open Go.RowKit Go.Sort

theorem frozen_marked (w : World) (g j N : Nat) (cs : Array Value) (t : TypeId) (hg : w.heap[g]? = some (.cells cs t (N, N + 1))) (hj : j < N) : w.frozen? ⟨g, j, none⟩ = false := by
  unfold World.frozen?
  rw [hg]
  simp
  omega
theorem below_setCellsU {B b : Nat} {a : World} (hb : B ≤ b) : ∀ (vs : List Value) (o : Nat) (w : World), Below B a w → Below B a (w.setCells b o vs)
  | [], _, _, h => h
  | v :: r, o, w, h => below_setCellsU hb r (o + 1) _ (h.setCell (by exact hb) v)
/-- The bytes of a text, in a row of their own with room behind them. -/
structure Ready (w W : World) (B n cap : Nat) (l : BL) : Prop where
  byt : Byt W (some ⟨B, 0, none⟩) n l
  le : n ≤ cap
  free : ∀ j, j < cap → (W.cell? ⟨B, j, none⟩).isSome = true ∧ W.frozen? ⟨B, j, none⟩ = false
  below : Below w.heap.size w W
  at_ : w.heap.size ≤ B
theorem cel_bytV {w : World} {a : Option Addr} {n : Nat} {l : BL} (h : Cel w a n (l.map B8)) : Byt w a n l :=
  ⟨by have := h.hlen; rwa [List.length_map] at this, fun i hi => by
    obtain ⟨b, o, e, hc⟩ := h.cell i (by simpa using hi)
    exact ⟨b, o, e, by rw [hc]; simp [B8]⟩⟩
theorem conv_ready (w : World) (S : ByteArray) : ∃ cap W', (convert 9 25 (.string S)).run Tryd.prog w = .ok (.slice (some ⟨w.heap.size, 0, none⟩) S.size cap) W' ∧ Ready w W' w.heap.size S.size cap S.data.toList := by
  have hrun := run_bytes_of_string (P := Tryd.prog) w 9 25 5 S Tryd.underlying9 Tryd.underlying25 Tryd.underlying5
  have hge := grownCap_ge w S.size 0 5
  refine ⟨_, _, hrun, ?_⟩
  generalize grownCap w S.size 0 5 = cap at *
  have hsz : (bytesRow S cap).size = cap := by
    unfold bytesRow
    simp
    have : S.data.size = S.size := rfl
    omega
  rw [hsz]
  have hh : (w.drew.alloc (.cells (bytesRow S cap) 5 (cap, cap + 1))).heap[w.heap.size]? = some (.cells (bytesRow S cap) 5 (cap, cap + 1)) := heap_alloc_new w.drew _
  refine ⟨⟨by simp, fun i hi => ⟨w.heap.size, 0, rfl, ?_⟩⟩, hge, fun j hj => ⟨?_, frozen_marked _ _ _ _ _ _ hh hj⟩, ((Below.refl _ w).drew).alloc (Nat.le_refl _) _, Nat.le_refl _⟩
  · rw [Nat.zero_add, cell_of_row _ w.heap.size i _ 5 (cap, cap + 1) hh]
    unfold bytesRow
    have hi2 : i < S.data.size := by simpa using hi
    rw [Array.getElem?_append_left (by simpa using hi2)]
    simp
    exact ⟨_, Array.getElem?_eq_getElem hi2, rfl⟩
  · rw [cell_of_row _ w.heap.size j _ 5 (cap, cap + 1) hh, Array.getElem?_eq_getElem (by rw [hsz]; exact hj)]
    rfl

theorem wpList_app_ready {w W : World} {ops : Array Oper} {rest : List Oper} {o : Oper} {a : Act} {Q : Exit → Act → World → Prop} (hgd : o.guard = none) (s x : Operand)
    (ho : o.op = .call { callee := .builtin .append, args := #[s, x], argTypes := #[25, 25] })
    (B n cap : Nat) (l : BL) (hR : Ready w W B n cap l) (hs : a.eval s = .slice (some ⟨B, 0, none⟩) n cap) (ao : Option Addr) (m c : Nat) (l2 : BL) (hx : a.eval x = .slice ao m c) (hB : Byt W ao m l2) (hnil : ao = none → m = 0 ∧ c = 0) (hn : n + m ≤ 1000000)
    (h : ∀ a' c' w', Byt w' a' (n + m) (l ++ l2) → n + m ≤ c' → Below w.heap.size w w' → wpList Tryd.prog ops Q rest (a.put o.dst (.slice a' (n + m) c')) w') : wpList Tryd.prog ops Q (o :: rest) a W := by
  have hinfo : (Tryd.prog.info? 5).map (fun i => (i.zero, i.size, i.bytes)) = some (some (.int .u8 0), 1, 1) := by kernel_rfl
  obtain ⟨i0, hi0, hz0, hz1, hz2⟩ := info_parts hinfo
  have hll := hR.byt.hlen
  refine wpList_plain hgd fun K hK => ?_
  have key : ∃ a' c' w', (Builtin.append_ #[25, 25] o.type #[.slice (some ⟨B, 0, none⟩) n cap, .slice ao m c]).run Tryd.prog W = .ok (.slice a' (n + m) c') w' ∧ Byt w' a' (n + m) (l ++ l2) ∧ n + m ≤ c' ∧ Below w.heap.size w w' := by
    cases ao with
    | none =>
      obtain ⟨rfl, rfl⟩ := hnil rfl
      have e2 : l2 = [] := List.eq_nil_of_length_eq_zero hB.hlen
      subst e2
      refine ⟨some ⟨B, 0, none⟩, cap, W, ?_, by simpa using hR.byt, hR.le, hR.below⟩
      have hle := hR.le
      simp [Builtin.append_, run_underlying Tryd.underlying25, sizeOf, typeInfo, hi0, Builtin.lenOf, Builtin.firstCells, storeCells, hle]
    | some ad =>
      have hnews := hB.news ad rfl
      have hl2 := hB.hlen
      have hl2m : (l2.map B8).length = m * 1 := by rw [List.length_map]; omega
      by_cases hroom : n + m ≤ cap
      · have hrun := run_append_room_cells (P := Tryd.prog) (w := W) 25 o.type 5 i0 Tryd.underlying25 hi0 B 0 n cap ad m c (l2.map B8) (by rw [hz1]; exact hl2m) hnews (b8_one l2) hroom
          (fun j hj => by rw [hz1, Nat.zero_add, Nat.mul_one]; exact (hR.free (n + j) (by rw [List.length_map] at hj; omega)).1)
          (fun j hj => by rw [hz1, Nat.zero_add, Nat.mul_one]; exact (hR.free (n + j) (by rw [List.length_map] at hj; omega)).2)
        rw [hz1, Nat.mul_one, Nat.zero_add] at hrun
        refine ⟨some ⟨B, 0, none⟩, cap, _, hrun, ⟨by simp; omega, fun i hi => ⟨B, 0, rfl, ?_⟩⟩, hroom, below_setCellsU hR.at_ _ _ _ hR.below⟩
        rw [Nat.zero_add]
        by_cases hin : i < n
        · rw [World.cell?_setCells_out B _ _ _ _ (fun _ _ => .inl hin)]
          obtain ⟨b', o', e', hc'⟩ := hR.byt.cell i (by omega)
          cases e'
          rw [Nat.zero_add] at hc'
          rw [hc', List.getElem_append_left (by omega)]
        · obtain ⟨j, rfl⟩ : ∃ j, i = n + j := ⟨i - n, by omega⟩
          have hj : j < (l2.map B8).length := by simp at hi ⊢; omega
          rw [World.cell?_setCells_in B _ n W (fun j hj => (hR.free (n + j) (by rw [List.length_map] at hj; omega)).1) j hj]
          rw [List.getElem_append_right (by omega)]
          simp [B8, hll]
      · obtain ⟨v', w', hrun, hown, hgr⟩ := run_append_arg_grows (P := Tryd.prog) (w := W) 25 o.type 5 i0 (.int .u8 0) 1 1 Tryd.underlying25 hi0 hz0 hz1 hz2 rfl (by decide) ⟨B, 0, none⟩ n cap (l.map B8) (by rw [List.length_map]; omega) (hR.byt.news _ rfl) ad m c (l2.map B8) hl2m hnews (by omega) (by unfold maxLen; omega) (by omega)
        obtain ⟨a', c', rfl, hcel, _, hle, _⟩ := own_cel hown
        refine ⟨a', c', w', hrun, ?_, hle, hR.below.trans (((Below.refl _ W).grown hgr (Nat.le_refl _) (fun k hk => by cases hk)).mono hR.below.size)⟩
        exact cel_bytV (by rw [List.map_append]; exact hcel)
  obtain ⟨a', c', w', hrun, h1, h2, h3⟩ := key
  unfold Oper.wp
  simp [execOp, ho, resolve, invoke, builtin, hs, hx, hrun, Result.andThen]
  exact hK _ _ (h a' c' w' h1 h2 h3)
end Go.Proofs.YthamfhenadaapaaDoor
