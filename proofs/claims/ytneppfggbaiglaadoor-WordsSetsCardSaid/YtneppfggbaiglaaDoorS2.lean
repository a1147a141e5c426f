/- Contracts of package hostelref00: whose memory an answer has. -/
import Derived.Test.YtneppfggbaiglaaDoorS1
import Derived.Test.YtneppfggbaiglaaDoorB2
import Derived.Deep.AppendLies
namespace Go.Proofs.YtneppfggbaiglaaDoor
open Go.RowKit

/-- A slice of bytes of somebody's own, from block base on. -/
abbrev OwnB (w : World) (base : Nat) (v : Value) (l : List UInt8) : Prop := w.ownsRow base 5 1 v l.length (l.map B8)

theorem own_ext {w : World} {base e size n n' : Nat} {v : Value} {xs xs' : List Value} (h : w.ownsRow base e size v n xs) (hn : n = n') (hx : xs = xs') : w.ownsRow base e size v n' xs' := by
  subst hn; subst hx; exact h

/-- What gone on with turns: blocks that are not v's stay. -/
structure Only (w w' : World) (r : Option Nat) : Prop where
  os : w'.os = w.os
  tape : w'.tape = w.tape
  output : w'.output = w.output
  size : w.heap.size ≤ w'.heap.size
  block : ∀ k, k < w.heap.size → some k ≠ r → w'.heap[k]? = w.heap[k]?

theorem Only.refl (w : World) (r : Option Nat) : Only w w r := ⟨rfl, rfl, rfl, Nat.le_refl _, fun _ _ _ => rfl⟩
theorem Only.trans {a b c : World} {r : Option Nat} (h : Only a b r) (k : Only b c r) : Only a c r :=
  ⟨k.os.trans h.os, k.tape.trans h.tape, k.output.trans h.output, Nat.le_trans h.size k.size, fun i hi hr => (k.block i (Nat.lt_of_lt_of_le hi h.size) hr).trans (h.block i hi hr)⟩
theorem Only.grows {a w w' : World} {r r2 : Option Nat} (h : Only a w r) (hg : w.grownBy w' r2) (hr : r2 = none ∨ r2 = r ∨ ∃ k, r2 = some k ∧ a.heap.size ≤ k) : Only a w' r :=
  ⟨hg.os.trans h.os, hg.tape.trans h.tape, hg.output.trans h.output, Nat.le_trans h.size hg.size, fun i hi hir => by
    rw [hg.block i (Nat.lt_of_lt_of_le hi h.size) ?_]
    · exact h.block i hi hir
    · rcases hr with rfl | rfl | ⟨k, rfl, hk⟩
      · simp
      · exact hir
      · intro e; cases e; omega⟩
theorem Only.alloc {a w : World} {r : Option Nat} (h : Only a w r) (o : Obj) : Only a (w.alloc o) r :=
  h.grows (w.grownBy_alloc o none) (.inl rfl)
theorem Only.below {w w' : World} {r : Option Nat} {B : Nat} (h : Only w w' r) (hr : ∀ k, r = some k → B ≤ k) (hB : B ≤ w.heap.size) : Below B w w' :=
  ⟨h.os, h.tape, h.output, h.size, fun k hk => h.block k (by omega) (fun e => by have := hr k e.symm; omega)⟩
theorem Only.of_below {w w' : World} {r : Option Nat} (h : Below w.heap.size w w') : Only w w' r := ⟨h.os, h.tape, h.output, h.size, fun k hk _ => h.block k hk⟩

theorem ob_slice (ao : Option Addr) (n c : Nat) : (Value.slice ao n c).ownBlock = ao.map (·.block) := by cases ao <;> rfl

/-- Whoever owns a row whose block stays still owns it. -/
theorem own_only {w w' : World} {base e size n : Nat} {v : Value} {xs : List Value} {r : Option Nat} (h : w.ownsRow base e size v n xs) (ho : Only w w' r) (hne : v.ownBlock = none ∨ v.ownBlock ≠ r) : w'.ownsRow base e size v n xs :=
  h.kept ⟨ho.os, ho.tape, ho.output, ho.size, ho.block⟩ hne

theorem own_prefix {w w1 : World} {base e size n m : Nat} {v b : Value} {xs ys : List Value} (h : w.ownsRow base e size v n xs) (hb : w.ownsRow base e size b m (xs ++ ys)) (hb1 : w1.ownsRow base e size b m (xs ++ ys)) (hs : b.ownBlock = v.ownBlock) : w1.ownsRow base e size v n xs := by
  refine ⟨h.1, ?_⟩
  rcases h.2 with hn | ⟨g, cap, cur, rfl, hbg, hg, hnc, hcm, hcs, htake⟩
  · exact .inl hn
  · rcases hb.2 with ⟨rfl, _⟩ | ⟨g', cap', cur', rfl, _, hg', _, _, hcs', _⟩
    · simp [Value.ownBlock] at hs
    · simp only [Value.ownBlock, Option.some.injEq] at hs
      subst hs
      rcases hb1.2 with ⟨h1, _⟩ | ⟨g2, cap2, cur2, h1, _, hg2, _, _, hcs2, htake2⟩
      · cases h1
      · simp only [Value.slice.injEq, Option.some.injEq, Addr.mk.injEq, and_true, true_and] at h1
        obtain ⟨rfl, rfl⟩ := h1
        rw [hg] at hg'
        simp only [Option.some.injEq, Obj.cells.injEq, and_true, true_and] at hg'
        subst hg'
        refine .inr ⟨g', cap, cur2, rfl, hbg, hg2, hnc, hcm, by rw [hcs2, ← hcs', hcs], ?_⟩
        have hle : n * size ≤ m * size := by
          have := hb.1
          rw [List.length_append, h.1] at this
          omega
        have e1 : cur2.toList.take (n * size) = (cur2.toList.take (m * size)).take (n * size) := by
          rw [List.take_take, Nat.min_eq_left hle]
        rw [e1, htake2, List.take_append_of_le_length (by rw [h.1]; exact Nat.le_refl _), List.take_of_length_le (by rw [h.1]; exact Nat.le_refl _)]

set_option maxHeartbeats 1000000 in
theorem goneOn_any (v : Value) (c : UInt8) (l : List UInt8) (base : Nat) (w : World) (hv : OwnB w base v l) (hbase : base ≤ w.heap.size) (hl : l.length ≤ 140737488351232) :
    Calls Tryd.prog 31 #[v, .int .u8 (c.toNat : Int)] w fun e w' => ∃ v', e = .returned v' ∧ OwnB w' base v' (l ++ List.replicate 40 c) ∧ OwnB w' base v l ∧ Only w w' v.ownBlock ∧ ((v'.ownBlock = v.ownBlock ∧ v.ownBlock ≠ none) ∨ ∃ g, v'.ownBlock = some g ∧ w.heap.size ≤ g) := by
  obtain ⟨i0, hi, hz0, hz1, hz2⟩ := info_parts info5
  have H : ∀ k : Nat, k = 0 → OwnB w base v (l ++ List.replicate k c) := fun k e => by subst e; simpa [OwnB] using hv
  go_enter Tryd.func31, Tryd.ntmps31
  go_wp2
  go_loopw [0, 5] (fun b i wr => ∃ k : Nat, k ≤ 40 ∧ i = .int .i64 ((40 : Int) - k) ∧ OwnB wr base b (l ++ List.replicate k c) ∧ OwnB wr base v l ∧ Only w wr v.ownBlock ∧ (b.ownBlock = v.ownBlock ∨ ∃ g, b.ownBlock = some g ∧ w.heap.size ≤ g) ∧ (0 < k → b.ownBlock ≠ none)) (fun _ i _ => (intOf i).toNat)
  case atStart => exact ⟨0, by omega, rfl, H 0 rfl, hv, Only.refl _ _, .inl rfl, fun h => by omega⟩
  case round =>
    obtain ⟨k, hk, rfl, hb, hvo, ho, hbl, hnn⟩ := hrel
    by_cases h40 : k < 40
    · have hlen : (l ++ List.replicate k c).length = l.length + k := by simp
      have hsz := ho.size
      go_wp2_with (at_builtin; refine wpList_append_keep _ rfl _ _ 22 rfl base 5 i0 (.int .u8 0) 1 1 Tryd.underlying22 hi hz0 hz1 hz2 rfl (by decide) u0 _ _ rfl (hb.alloc _) ⟨wr.heap.size, 0, none⟩ 1 1 [.int .u8 (c.toNat : Int)] rfl rfl (by decide) (World.news_of_block (cs := #[.int .u8 (c.toNat : Int)]) (fr := (0, 0)) (heap_alloc_new wr _)) (by simp [Value.oneCell']) (by rw [hlen]; unfold maxLen; omega) (by rw [hlen]; omega) (by simp only [World.size_alloc]; omega) ?_; intro v' w1 hown' hgrow hold hcase)
      have hvo1 : OwnB w1 base v l := by
        rcases hbl with hsame | ⟨g, hg, hgw⟩
        · exact own_prefix (xs := l.map B8) (ys := (List.replicate k c).map B8) hvo (own_ext hb rfl (by simp)) (own_ext hold rfl (by simp)) hsame
        · refine (hvo.alloc _).kept hgrow ?_
          cases hvb : v.ownBlock with
          | none => exact .inl rfl
          | some g0 =>
            have := (hv.lt g0 hvb).2
            exact .inr (by rw [hg]; intro e; cases e; omega)
      have ho1 : Only w w1 v.ownBlock := (ho.alloc _).grows hgrow (by
        rcases hbl with hsame | ⟨g, hg, hgw⟩
        · exact .inr (.inl hsame)
        · exact .inr (.inr ⟨g, hg, hgw⟩))
      have hbl1 : v'.ownBlock = v.ownBlock ∨ ∃ g, v'.ownBlock = some g ∧ w.heap.size ≤ g := by
        rcases hcase with ⟨h1, _⟩ | ⟨_, g, h1, h2⟩
        · rw [h1]; exact hbl
        · exact .inr ⟨g, h1, by simp only [World.size_alloc] at h2; omega⟩
      have hnn1 : v'.ownBlock ≠ none := by
        rcases hcase with ⟨h1, h2⟩ | ⟨_, g, h1, h2⟩
        · rw [h1]; exact h2
        · rw [h1]; simp
      refine ⟨⟨k + 1, by omega, by congr 1; omega, own_ext hown' (by simp; omega) (by simp [B8, List.replicate_succ']), hvo1, ho1, hbl1, fun _ => hnn1⟩, by simp [intOf]; omega⟩
    · have e : k = 40 := by omega
      subst e
      go_wp2
      go_ret
      refine ⟨_, rfl, hb, hvo, ho, ?_⟩
      rcases hbl with hsame | hnew
      · exact .inl ⟨hsame, by rw [← hsame]; exact hnn (by omega)⟩
      · exact .inr hnew

theorem goneOn_at (v : Value) (cm : Int) (c : UInt8) (l : List UInt8) (base : Nat) (w : World) (hcm : cm = (c.toNat : Int)) (hv : OwnB w base v l) (hbase : base ≤ w.heap.size) (hl : l.length ≤ 140737488351232) :
    Calls Tryd.prog 31 #[v, .int .u8 cm] w fun e w' => ∃ v', e = .returned v' ∧ OwnB w' base v' (l ++ List.replicate 40 c) ∧ OwnB w' base v l ∧ Only w w' v.ownBlock ∧ ((v'.ownBlock = v.ownBlock ∧ v.ownBlock ≠ none) ∨ ∃ g, v'.ownBlock = some g ∧ w.heap.size ≤ g) := by
  subst hcm
  exact goneOn_any v c l base w hv hbase hl
end Go.Proofs.YtneppfggbaiglaaDoor
