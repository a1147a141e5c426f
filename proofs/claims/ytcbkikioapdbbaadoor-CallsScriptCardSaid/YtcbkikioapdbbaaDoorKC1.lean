
/- Merged: Ca0 Ca1 Ca2 Ca3 Ca4 Ca5 Ca6 Ca7 Ca8 Ca9. -/
import Derived.Test.YtcbkikioapdbbaaDoorX1
import Derived.Test.YtcbkikioapdbbaaDoorRows
import Derived.Maps.OwnSet
import Derived.Maps.Views
import Derived.Test.YtcbkikioapdbbaaDoorUC
import Derived.BigQuiet
import Derived.Test.YtcbkikioapdbbaaDoorKP
import Derived.Deep.RegionHeld3
import Derived.Test.YtcbkikioapdbbaaDoorWS
import Derived.Lib.AppendStr
namespace Go.Proofs.YtcbkikioapdbbaaDoor
open Go.RowKit Go.Sort Go.WideMaps Go.Maps Go.WideShapes

def rdF {H : Type} (v : Value) : Option (DataW H × List MemPlace) := match v with
  | .slice (some ⟨b, 0, none⟩) n c => if n = c then some (.agg [.lit (.int .i64 (b : Nat)), .lit (.int .i64 (n : Nat))], []) else none
  | .slice none 0 0 => some (.lit (.bool false), [])
  | _ => none
/-- Fields as a value: their block, how many. -/
def fdV (p : Nat × Nat) : Value := .slice (some ⟨p.1, 0, none⟩) p.2 p.2
def fdD {H : Type} (p : Nat × Nat) : DataW H := .agg [.lit (.int .i64 (p.1 : Nat)), .lit (.int .i64 (p.2 : Nat))]
theorem rdF_fd {H : Type} (p : Nat × Nat) : rdF (H := H) (fdV p) = some (fdD p, []) := by unfold rdF fdV fdD; simp
theorem rdF_nil {H : Type} : rdF (H := H) (.slice none 0 0) = some (.lit (.bool false), []) := rfl
theorem rdF_inv {H : Type} {v : Value} {p : Nat × Nat} {ps : List MemPlace} (h : rdF (H := H) v = some (fdD p, ps)) : v = fdV p := by
  unfold rdF at h
  split at h
  · rename_i b n c
    split at h
    · rename_i e
      subst e
      simp only [fdD, Option.some.injEq, Prod.mk.injEq, DataW.agg.injEq, List.cons.injEq, DataW.lit.injEq, Lit.int.injEq, true_and, and_true] at h
      obtain ⟨⟨h1, h2⟩, _⟩ := h
      have e1 : b = p.1 := by exact_mod_cast h1
      have e2 : n = p.2 := by exact_mod_cast h2
      subst e1 e2
      rfl
    · cases h
  · simp [fdD] at h
  · cases h
theorem rdF_nil_inv {H : Type} {v : Value} {ps : List MemPlace} (h : rdF (H := H) v = some (.lit (.bool false), ps)) : v = .slice none 0 0 := by
  unfold rdF at h
  split at h
  · split at h
    · simp at h
    · cases h
  · rfl
  · cases h

abbrev FL := List (Nat × (Nat × Nat))
def putF {H : Type} (D : DataW H) (x : Nat × (Nat × Nat)) : DataW H := D.put (.int .u8 (x.1 : Nat)) (fdD x.2)
def mapF {H : Type} (l : FL) : DataW H := l.foldl putF (.map [])
def lookF (l : FL) (n : Nat) : Option (Nat × Nat) := (l.reverse.find? fun x => decide (x.1 = n)).map (·.2)
theorem lookF_snoc (l : FL) (x : Nat × (Nat × Nat)) (n : Nat) : lookF (l ++ [x]) n = if x.1 = n then some x.2 else lookF l n := by
  unfold lookF
  rw [List.reverse_append, List.reverse_singleton, List.singleton_append, List.find?_cons]
  by_cases h : x.1 = n
  · simp [h]
  · simp [h]
theorem mapF_snoc {H : Type} (l : FL) (x : Nat × (Nat × Nat)) : mapF (H := H) (l ++ [x]) = (mapF l).put (.int .u8 (x.1 : Nat)) (fdD x.2) := by simp [mapF, putF, List.foldl_append]
theorem mapF_is {H : Type} (l : FL) : IsMap (mapF (H := H) l) := by
  rcases l.eq_nil_or_concat with rfl | ⟨e, s, rfl⟩
  · exact ⟨[], rfl⟩
  · rw [List.concat_eq_append, mapF_snoc]; exact (mapF_is (H := H) e).put _ _
termination_by l.length
theorem mapF_at {H : Type} (n : Nat) (z : DataW H) (l : FL) : (mapF (H := H) l).atKey (.int .u8 (n : Nat)) z = (match lookF l n with | some p => fdD p | none => z) := by
  rcases l.eq_nil_or_concat with rfl | ⟨e, s, rfl⟩
  · rfl
  · have ih := mapF_at (H := H) n z e
    rw [List.concat_eq_append, mapF_snoc, lookF_snoc]
    by_cases h : s.1 = n
    · rw [if_pos h, ← h, atKey_put_same (mapF_is e) (by trivial)]
    · rw [if_neg h, atKey_put_other (by intro e; simp only [Lit.int.injEq, true_and] at e; exact h (by exact_mod_cast e.symm)), ih]
termination_by l.length
theorem mapF_has {H : Type} (n : Nat) (l : FL) : Maps.has (mapF (H := H) l) (.int .u8 (n : Nat)) = (lookF l n).isSome := by
  rcases l.eq_nil_or_concat with rfl | ⟨e, s, rfl⟩
  · rfl
  · have ih := mapF_has (H := H) n e
    rw [List.concat_eq_append, mapF_snoc, lookF_snoc]
    by_cases h : s.1 = n
    · rw [if_pos h, ← h, has_put_same (mapF_is e) (by trivial)]; rfl
    · rw [if_neg h, has_put_other (by intro e; simp only [Lit.int.injEq, true_and] at e; exact h (by exact_mod_cast e.symm)), ih]
termination_by l.length

theorem keyedU : Keyed Tryd.prog 5 := int_keyed Tryd.underlying5
theorem zeroF (w : World) : (zeroValue 53).run Tryd.prog w = .ok (.slice none 0 0) w := by kernel_rfl
theorem keyU (n : Nat) (h : n < 256) : keyOf Tryd.prog 5 (.int .u8 (n : Nat)) = some (.int .u8 (n : Nat)) := keyOf_int_mk Tryd.underlying5 (by simp [Lit.wf, IntKind.min, IntKind.max, IntKind.signed, IntKind.bits]; omega)
end Go.Proofs.YtcbkikioapdbbaaDoor
namespace Go.Proofs.YtcbkikioapdbbaaDoor
open Go.RowKit Go.Sort Go.WideMaps Go.Maps Go.WideShapes
attribute [local go_sem] Oper.semAt_some

/-- The fields of a kind, in their order. -/
def fsL : Nat → List Nat
  | 1 => [5, 6, 7]
  | 2 => []
  | 3 => [0]
  | 4 => []
  | 5 => [0, 1, 2, 3, 4]
  | 6 => [0, 1]
  | 7 => [0, 1, 2]
  | 8 => [0, 1]
  | 9 => [0, 8]
  | 10 => [5, 0]
  | 11 => [0]
  | 12 => [0, 1]
  | _ => []
abbrev fv (n : Nat) : Value := .int .i64 (n : Int)
structure KM (w0 W : World) (m : Nat) (L : FL) : Prop where
  map : W.ownsMap Tryd.prog 5 (rdF (H := Unit)) m L.length (mapF L)
  rows : ∀ x ∈ L, Row W x.2.1 57 ((fsL x.1).map fv) ∧ x.2.2 = (fsL x.1).length ∧ x.2.1 ≠ m ∧ w0.heap.size ≤ x.2.1
  low : Below w0.heap.size w0 W
  hm : w0.heap.size ≤ m
theorem KM.start (w : World) : KM w (w.alloc (.map #[] 0)) w.heap.size [] := ⟨World.ownsMap_made _ _ _ _, (fun x hx => by cases hx), bal _, Nat.le_refl _⟩
theorem KM.below {w0 W W' : World} {m : Nat} {L : FL} (h : KM w0 W m L) (hb : Below W.heap.size W W') : KM w0 W' m L := by
  refine ⟨?_, fun x hx => ?_, h.low.trans (hb.mono h.low.size), h.hm⟩
  · have hlt := h.map.lt
    obtain ⟨es, clock, hm, F, hs, hD⟩ := h.map
    exact ⟨es, clock, (hb.block m hlt).trans hm, F, hs, hD⟩
  · obtain ⟨h1, h2, h3, h4⟩ := h.rows x hx
    exact ⟨h1.below hb h1.lt, h2, h3, h4⟩
/-- One kind more. -/
theorem KM.step {w0 W : World} {m : Nat} {L : FL} (h : KM w0 W m L) (k n : Nat) (ki : Int) (cs : Array Value) (hki : ki = (k : Nat)) (hk : k < 256) (hL : L.length < 100) (hcs : cs = ((fsL k).map fv).toArray) (hn : n = (fsL k).length) :
    ∃ W', (Instr.mapUpdate 55 (.map (some m)) (.int .u8 ki) (.slice (some ⟨W.heap.size, 0, none⟩) n n)).run Tryd.prog (W.alloc (.cells cs 57)) = .ok () W' ∧ KM w0 W' m (L ++ [(k, (W.heap.size, n))]) := by
  subst hcs hki
  have hA := h.below (@bal W (.cells ((fsL k).map fv).toArray 57))
  have hrow := Row.new W 57 ((fsL k).map fv)
  have hmlt := h.map.lt
  obtain ⟨W', h1, h2, h3⟩ := World.ownsMap.update hA.map keyedU Tryd.underlying55 (by unfold maxLen; omega) (keyU k hk) (rdF_fd (W.heap.size, n))
  refine ⟨W', h1, ?_, fun x hx => ?_, hA.low.grown h3 hA.low.size (fun q hq => by cases hq; exact hA.hm), h.hm⟩
  · rw [mapF_snoc, List.length_append]
    exact h2
  · rcases List.mem_append.1 hx with hx | hx
    · obtain ⟨r1, r2, r3, r4⟩ := hA.rows x hx
      exact ⟨r1.grown h3 (by simp [r3]), r2, r3, r4⟩
    · rw [List.mem_singleton.1 hx]
      exact ⟨hrow.grown h3 (by simp only [ne_eq, Option.some.injEq]; omega), hn, by simp only [ne_eq]; omega, h.low.size⟩
def lkF (o : Option (Nat × Nat)) : Value := match o with
  | some p => fdV p
  | none => .slice none 0 0
theorem KM.look {w0 W : World} {m : Nat} {L : FL} (h : KM w0 W m L) (k : Nat) (hk : k < 256) :
    (Instr.lookup 55 (.map (some m)) (.int .u8 (k : Nat)) true).run Tryd.prog W = .ok (.tuple #[lkF (lookF L k), .bool (lookF L k).isSome]) W := by
  obtain ⟨v, ps, hrun, hv⟩ := World.ownsMap.look_ok h.map keyedU Tryd.underlying55 (zeroF W) rdF_nil (keyU k hk)
  rw [hrun, mapF_has]
  rw [mapF_at] at hv
  cases hl : lookF L k with
  | none =>
    rw [hl] at hv
    rw [rdF_nil_inv hv]
    rfl
  | some p =>
    rw [hl] at hv
    rw [rdF_inv hv]
    rfl

set_option maxRecDepth 100000 in
set_option maxHeartbeats 4000000 in
theorem kinds_any (w : World) : Calls Tryd.prog 30 #[] w fun e w' => ∃ m L, e = .returned (.map (some m)) ∧ KM w w' m L ∧ L.map (·.1) = [1, 2, 3, 4, 5, 6, 7, 8, 9, 10, 11, 12] := by
  have hmm := @run_makeMap Tryd.prog
  obtain ⟨W0, hW0⟩ : ∃ W0, W0 = w.alloc (.map #[] 0) := ⟨_, rfl⟩
  have HM := hid (show KM w W0 w.heap.size [] by rw [hW0]; exact KM.start w)
  have HL := hid (show (List.map (·.1) ([] : FL)) = [] from rfl)
  obtain ⟨W1, hrun1, hm1⟩ := HM.out.step 1 3 1 #[.int .i64 5, .int .i64 6, .int .i64 7] rfl (by decide) (by simp) rfl rfl
  have HL := hid (show List.map (·.1) (_ ++ [(1, (W0.heap.size, 3))]) = _ from (List.map_append).trans (congrArg (· ++ [1]) HL.out))
  have HM := hid hm1
  clear hm1
  obtain ⟨W2, hrun2, hm2⟩ := HM.out.step 2 0 2 #[] rfl (by decide) (by simp) rfl rfl
  have HL := hid (show List.map (·.1) (_ ++ [(2, (W1.heap.size, 0))]) = _ from (List.map_append).trans (congrArg (· ++ [2]) HL.out))
  have HM := hid hm2
  clear hm2
  obtain ⟨W3, hrun3, hm3⟩ := HM.out.step 3 1 3 #[.int .i64 0] rfl (by decide) (by simp) rfl rfl
  have HL := hid (show List.map (·.1) (_ ++ [(3, (W2.heap.size, 1))]) = _ from (List.map_append).trans (congrArg (· ++ [3]) HL.out))
  have HM := hid hm3
  clear hm3
  obtain ⟨W4, hrun4, hm4⟩ := HM.out.step 4 0 4 #[] rfl (by decide) (by simp) rfl rfl
  have HL := hid (show List.map (·.1) (_ ++ [(4, (W3.heap.size, 0))]) = _ from (List.map_append).trans (congrArg (· ++ [4]) HL.out))
  have HM := hid hm4
  clear hm4
  obtain ⟨W5, hrun5, hm5⟩ := HM.out.step 5 5 5 #[.int .i64 0, .int .i64 1, .int .i64 2, .int .i64 3, .int .i64 4] rfl (by decide) (by simp) rfl rfl
  have HL := hid (show List.map (·.1) (_ ++ [(5, (W4.heap.size, 5))]) = _ from (List.map_append).trans (congrArg (· ++ [5]) HL.out))
  have HM := hid hm5
  clear hm5
  obtain ⟨W6, hrun6, hm6⟩ := HM.out.step 6 2 6 #[.int .i64 0, .int .i64 1] rfl (by decide) (by simp) rfl rfl
  have HL := hid (show List.map (·.1) (_ ++ [(6, (W5.heap.size, 2))]) = _ from (List.map_append).trans (congrArg (· ++ [6]) HL.out))
  have HM := hid hm6
  clear hm6
  obtain ⟨W7, hrun7, hm7⟩ := HM.out.step 7 3 7 #[.int .i64 0, .int .i64 1, .int .i64 2] rfl (by decide) (by simp) rfl rfl
  have HL := hid (show List.map (·.1) (_ ++ [(7, (W6.heap.size, 3))]) = _ from (List.map_append).trans (congrArg (· ++ [7]) HL.out))
  have HM := hid hm7
  clear hm7
  obtain ⟨W8, hrun8, hm8⟩ := HM.out.step 8 2 8 #[.int .i64 0, .int .i64 1] rfl (by decide) (by simp) rfl rfl
  have HL := hid (show List.map (·.1) (_ ++ [(8, (W7.heap.size, 2))]) = _ from (List.map_append).trans (congrArg (· ++ [8]) HL.out))
  have HM := hid hm8
  clear hm8
  obtain ⟨W9, hrun9, hm9⟩ := HM.out.step 9 2 9 #[.int .i64 0, .int .i64 8] rfl (by decide) (by simp) rfl rfl
  have HL := hid (show List.map (·.1) (_ ++ [(9, (W8.heap.size, 2))]) = _ from (List.map_append).trans (congrArg (· ++ [9]) HL.out))
  have HM := hid hm9
  clear hm9
  obtain ⟨W10, hrun10, hm10⟩ := HM.out.step 10 2 10 #[.int .i64 5, .int .i64 0] rfl (by decide) (by simp) rfl rfl
  have HL := hid (show List.map (·.1) (_ ++ [(10, (W9.heap.size, 2))]) = _ from (List.map_append).trans (congrArg (· ++ [10]) HL.out))
  have HM := hid hm10
  clear hm10
  obtain ⟨W11, hrun11, hm11⟩ := HM.out.step 11 1 11 #[.int .i64 0] rfl (by decide) (by simp) rfl rfl
  have HL := hid (show List.map (·.1) (_ ++ [(11, (W10.heap.size, 1))]) = _ from (List.map_append).trans (congrArg (· ++ [11]) HL.out))
  have HM := hid hm11
  clear hm11
  obtain ⟨W12, hrun12, hm12⟩ := HM.out.step 12 2 12 #[.int .i64 0, .int .i64 1] rfl (by decide) (by simp) rfl rfl
  have HL := hid (show List.map (·.1) (_ ++ [(12, (W11.heap.size, 2))]) = _ from (List.map_append).trans (congrArg (· ++ [12]) HL.out))
  have HM := hid hm12
  clear hm12
  have hsz : W0.heap.size = w.heap.size + 1 := by rw [hW0, World.size_alloc]
  rw [hsz, hW0] at hrun1
  go_enter Tryd.func30, Tryd.ntmps30
  go_wp2_with fail
  go_ret
  exact ⟨_, _, rfl, HM.out, HL.out⟩

theorem lookF_mem {L : FL} {k : Nat} {p : Nat × Nat} (h : lookF L k = some p) : (k, p) ∈ L := by
  unfold lookF at h
  obtain ⟨x, hx, he⟩ := Option.map_eq_some_iff.1 h
  have h1 := List.mem_of_find?_eq_some hx
  have h2 := List.find?_some hx
  rw [List.mem_reverse] at h1
  have h3 : x.1 = k := by simpa using h2
  rw [← h3, ← he]
  exact h1
theorem lookF_some (L : FL) (k : Nat) : (lookF L k).isSome = true ↔ k ∈ L.map (·.1) := by
  unfold lookF
  rw [Option.isSome_map, List.find?_isSome]
  constructor
  · rintro ⟨x, hx, he⟩
    exact List.mem_map.2 ⟨x, List.mem_reverse.1 hx, by simpa using he⟩
  · intro h
    obtain ⟨x, hx, he⟩ := List.mem_map.1 h
    exact ⟨x, List.mem_reverse.2 hx, by simpa using he⟩

/-- What a lookup in the kinds' map answers. -/
theorem KM.kind {w0 W : World} {m : Nat} {L : FL} (h : KM w0 W m L) (hL : L.map (·.1) = [1, 2, 3, 4, 5, 6, 7, 8, 9, 10, 11, 12]) (k : Nat) :
    (if 1 ≤ k ∧ k ≤ 12 then ∃ b, lookF L k = some (b, (fsL k).length) ∧ Row W b 57 ((fsL k).map fv) ∧ w0.heap.size ≤ b ∧ b < W.heap.size else lookF L k = none) := by
  have hs := lookF_some L k
  rw [hL] at hs
  by_cases hk : 1 ≤ k ∧ k ≤ 12
  · rw [if_pos hk]
    have hm : k ∈ [1, 2, 3, 4, 5, 6, 7, 8, 9, 10, 11, 12] := by
      simp only [List.mem_cons, List.not_mem_nil, or_false]; omega
    obtain ⟨⟨b, n⟩, hp⟩ := Option.isSome_iff_exists.1 (hs.2 hm)
    obtain ⟨r1, r2, r3, r4⟩ := h.rows _ (lookF_mem hp)
    have r2 : n = (fsL k).length := r2
    subst r2
    exact ⟨b, hp, r1, r4, r1.lt⟩
  · rw [if_neg hk]
    cases hl : lookF L k with
    | none => rfl
    | some p =>
      exfalso
      rw [hl] at hs
      have hm := hs.1 rfl
      simp only [List.mem_cons, List.not_mem_nil, or_false] at hm
      omega
end Go.Proofs.YtcbkikioapdbbaaDoor
namespace Go.Proofs.YtcbkikioapdbbaaDoor
open Go.RowKit Go.Sort
attribute [local go_sem] Oper.semAt_some

/-- A call. -/
structure CG where
  kind : Nat
  a : Nat
  b : Nat
  c : Nat
  d : Nat
  e : Nat
  path : BL
  va : Option Addr
  vc : Nat
  argv : List BL
  ea : Option Addr
  ec : Nat
  env : List BL
  ya : Option Addr
  yc : Nat
  bytes : BL
abbrev cgV (x : CG) : Value := .agg #[.int .u8 x.kind, .int .u64 x.a, .int .u64 x.b, .int .u64 x.c, .int .u64 x.d, .int .u64 x.e, .string (ba x.path), .slice x.va x.argv.length x.vc, .slice x.ea x.env.length x.ec, .slice x.ya x.bytes.length x.yc]
abbrev cgC (x : CG) : List Value := [.int .u8 x.kind, .int .u64 x.a, .int .u64 x.b, .int .u64 x.c, .int .u64 x.d, .int .u64 x.e, .string (ba x.path), .slice x.va x.argv.length x.vc, .slice x.ea x.env.length x.ec, .slice x.ya x.bytes.length x.yc]
structure CGok (w : World) (x : CG) : Prop where
  argv : Cel w x.va x.argv.length (strs x.argv)
  env : Cel w x.ea x.env.length (strs x.env)
  bytes : Byt w x.ya x.bytes.length x.bytes
  kind : x.kind < 256
  na : x.a < 18446744073709551616
  nb : x.b < 18446744073709551616
  nc : x.c < 18446744073709551616
  nd : x.d < 18446744073709551616
  ne : x.e < 18446744073709551616
  an : x.argv.length ≤ 8796093022207
  en : x.env.length ≤ 8796093022207
  yn : x.bytes.length ≤ 140737488351232
  at' : ∀ p ∈ x.argv, p.length ≤ 140737488351232
  et : ∀ p ∈ x.env, p.length ≤ 140737488351232
  pn : x.path.length ≤ 140737488351232
  ani : x.va = none → x.vc = 0
  eni : x.ea = none → x.ec = 0
  yni : x.ya = none → x.yc = 0
/-- The numbers of a call. -/
def nmN (x : CG) : Nat → Nat
  | 0 => x.a
  | 1 => x.b
  | 2 => x.c
  | 3 => x.d
  | _ => x.e

theorem number_at (p f : Nat) (fi : Int) (hf : (f = 0 ∧ fi = 0) ∨ (f = 1 ∧ fi = 1) ∨ (f = 2 ∧ fi = 2) ∨ (f = 3 ∧ fi = 3) ∨ (f = 4 ∧ fi = 4)) (w : World) :
    Calls Tryd.prog 43 #[.pointer (some ⟨p, 0, none⟩), .int .i64 fi] w fun e w' => e = .returned (.pointer (some ⟨p, 1 + f, none⟩)) ∧ ∃ n, w' = w.drewN n := by
  have hix : ∀ w, (Instr.index 89 (.agg #[.pointer (some ⟨p, 1, none⟩), .pointer (some ⟨p, 2, none⟩), .pointer (some ⟨p, 3, none⟩), .pointer (some ⟨p, 4, none⟩), .pointer (some ⟨p, 5, none⟩)]) (.int .i64 fi)).run Tryd.prog w = .ok (.pointer (some ⟨p, 1 + f, none⟩)) w := by
    intro w
    rcases hf with ⟨rfl, rfl⟩ | ⟨rfl, rfl⟩ | ⟨rfl, rfl⟩ | ⟨rfl, rfl⟩ | ⟨rfl, rfl⟩ <;> kernel_rfl
  clear hf
  go_enter Tryd.func43, Tryd.ntmps43
  go_wp2_with fail
  go_quiet (fail)
  go_wp2_with fail
  go_ret
  exact ⟨rfl, _, rfl⟩
theorem number_any (p f : Nat) (hf : f < 5) (w : World) :
    Calls Tryd.prog 43 #[.pointer (some ⟨p, 0, none⟩), .int .i64 (f : Nat)] w fun e w' => e = .returned (.pointer (some ⟨p, 1 + f, none⟩)) ∧ ∃ n, w' = w.drewN n := by
  refine number_at p f _ ?_ w
  omega
end Go.Proofs.YtcbkikioapdbbaaDoor
namespace Go.Proofs.YtcbkikioapdbbaaDoor
open Go.RowKit Go.Sort
attribute [local go_sem] Oper.semAt_some

def isz (x : CG) (f : Nat) : Bool := if f = 5 then decide (x.path = []) else if f = 6 then decide (x.argv = []) else if f = 7 then decide (x.env = []) else if f = 8 then decide (x.bytes = []) else decide (nmN x f = 0)
theorem ret_bools {a b : Bool} (h : b = a) : Ending.returned (.bool a) = .returned (.bool b) := by rw [h]
theorem len0 {α : Type} (l : List α) : decide ((l.length : Int) = 0) = decide (l = []) := by
  rw [decide_eq_decide]
  exact ⟨fun h => List.eq_nil_of_length_eq_zero (by omega), fun h => by rw [h]; rfl⟩
theorem dec_beq (a b : Int) : decide (a = b) = (a == b) := by rw [Bool.eq_iff_iff]; simp
theorem isz_5 {x : CG} : isz x 5 = decide (x.path = []) := rfl
theorem isz_6 {x : CG} : isz x 6 = decide (x.argv = []) := rfl
theorem isz_7 {x : CG} : isz x 7 = decide (x.env = []) := rfl
theorem isz_8 {x : CG} : isz x 8 = decide (x.bytes = []) := rfl
theorem isz_n {x : CG} {f : Nat} (h : f < 5) : isz x f = decide (nmN x f = 0) := by
  unfold isz
  rw [if_neg (by omega), if_neg (by omega), if_neg (by omega), if_neg (by omega)]
theorem nm_cell (x : CG) (f : Nat) (h : f < 5) : (cgC x)[1 + f]? = some (.int .u64 (nmN x f)) := by
  have hcase : f = 0 ∨ f = 1 ∨ f = 2 ∨ f = 3 ∨ f = 4 := by omega
  rcases hcase with rfl | rfl | rfl | rfl | rfl <;> rfl

set_option maxRecDepth 100000 in
set_option maxHeartbeats 4000000 in
theorem isZero_any (x : CG) (f : Nat) (hf : f < 9) (w : World) :
    Calls Tryd.prog 32 #[cgV x, .int .i64 (f : Nat)] w fun e w' => e = .returned (.bool (isz x f)) ∧ Below w.heap.size w w' := by
  obtain ⟨w1, hw1⟩ : ∃ w1, w1 = w.alloc (.cells (cgC x).toArray 26) := ⟨_, rfl⟩
  have hbox : ∀ w, (Instr.box 26 (cgV x)).run Tryd.prog w = .ok (.pointer (some ⟨w.heap.size, 0, none⟩)) (w.alloc (.cells (cgC x).toArray 26)) := fun _ => by kernel_rfl
  have HR := hid (show Row w1 w.heap.size 26 (cgC x) by rw [hw1]; exact Row.new w _ _)
  have HB := hid (show Below w.heap.size w w1 by rw [hw1]; exact bal _)
  have c6 : w1.cell? ⟨w.heap.size, 6, none⟩ = some (.string (ba x.path)) := HR.out.cell' 6
  have c7 : w1.cell? ⟨w.heap.size, 7, none⟩ = some (.slice x.va x.argv.length x.vc) := HR.out.cell' 7
  have c8 : w1.cell? ⟨w.heap.size, 8, none⟩ = some (.slice x.ea x.env.length x.ec) := HR.out.cell' 8
  have c9 : w1.cell? ⟨w.heap.size, 9, none⟩ = some (.slice x.ya x.bytes.length x.yc) := HR.out.cell' 9
  have HW := hid hw1
  clear hw1
  by_cases h5 : f = 5
  · subst h5
    clear HW HR HB c6 c7 c8 c9
    go_enter Tryd.func32, Tryd.ntmps32
    go_wp2_with fail
    go_ret
    refine ⟨ret_bools ?_, bal _⟩
    rw [isz_5]; exact (show _ = decide (x.path = []) from ba_nil (ba x.path)).symm
  by_cases h6 : f = 6
  · subst h6
    clear HW HR HB c6 c7 c8 c9
    go_enter Tryd.func32, Tryd.ntmps32
    go_wp2_with fail
    go_ret
    refine ⟨ret_bools ?_, bal _⟩
    rw [isz_6]; exact (len0 _).symm.trans (dec_beq _ _)
  by_cases h7 : f = 7
  · subst h7
    clear HW HR HB c6 c7 c8 c9
    go_enter Tryd.func32, Tryd.ntmps32
    go_wp2_with fail
    go_ret
    refine ⟨ret_bools ?_, bal _⟩
    rw [isz_7]; exact (len0 _).symm.trans (dec_beq _ _)
  by_cases h8 : f = 8
  · subst h8
    clear HW HR HB c6 c7 c8 c9
    go_enter Tryd.func32, Tryd.ntmps32
    go_wp2_with fail
    go_ret
    refine ⟨ret_bools ?_, bal _⟩
    rw [isz_8]; exact (len0 _).symm.trans (dec_beq _ _)
  have hf5 : f < 5 := by omega
  have d5 : decide ((f : Int) = 5) = false := by simp; omega
  have d6 : decide ((f : Int) = 6) = false := by simp; omega
  have d7 : decide ((f : Int) = 7) = false := by simp; omega
  have d8 : decide ((f : Int) = 8) = false := by simp; omega
  have cf : ∀ n, (w1.drewN n).cell? ⟨w.heap.size, 1 + f, none⟩ = some (.int .u64 (nmN x f)) := fun n => by
    exact (HR.out.cell' (1 + f)).trans (nm_cell x f hf5)
  go_enter Tryd.func32, Tryd.ntmps32
  go_wp2_with fail
  rw [← HW.out]
  refine (number_any _ _ hf5 w1).mono ?_
  rintro e' w2 ⟨rfl, n, rfl⟩
  have hcf := cf n
  go_wp2_with fail
  go_ret
  refine ⟨ret_bools ?_, bdN HB.out n⟩
  rw [isz_n hf5, ← dec_beq, decide_eq_decide]
  omega
end Go.Proofs.YtcbkikioapdbbaaDoor
namespace Go.Proofs.YtcbkikioapdbbaaDoor
open Go.RowKit Go.Sort
attribute [local go_sem] Oper.semAt_some

def IdfPost (x : Nat) (l : List Nat) (w : World) (e : Ending) (w' : World) : Prop := ∃ r : Int, e = .returned (.int .i64 r) ∧ ((0 ≤ r) ↔ x ∈ l) ∧ w = w'
def memF (x : Nat) (l : List Nat) : Bool := decide (x ∈ l)

set_option maxRecDepth 100000 in
set_option maxHeartbeats 1000000 in
theorem indexF_any (g x : Nat) (l : List Nat) (w : World) (hB : Row w g 57 (l.map fv)) (hl : l.length ≤ 1000) :
    Calls Tryd.prog 54 #[.slice (some ⟨g, 0, none⟩) l.length l.length, .int .i64 (x : Nat)] w (IdfPost x l w) := by
  have HB := hid hB
  clear hB
  go_enter Tryd.func54, Tryd.ntmps54
  go_wp2
  go_loop [8] (fun i => ∃ k : Nat, k ≤ l.length ∧ i = .int .i64 k ∧ ∀ j (h : j < l.length), j < k → x ≠ l[j]) (fun i => l.length - (intOf i).toNat)
  case atStart => exact ⟨0, Nat.zero_le _, rfl, fun j h hj => by omega⟩
  case round =>
    obtain ⟨k, hk, rfl, hno⟩ := hrel
    have HNO := hid hno
    clear hno
    by_cases hlt : k < l.length
    · have d1 : decide ((k : Int) < (l.length : Int)) = true := by simp; omega
      have d1n : decide (k < l.length) = true := by simp; omega
      have hx : w.cell? ⟨g, k, none⟩ = some (fv l[k]) := by rw [HB.out.cell' k]; simp [hlt]
      have HD := hid (show ∀ y, l[k] = y → y ∈ l from fun y e => e ▸ List.getElem_mem hlt)
      have HN := hid (show ∀ y, l[k] = y → x ≠ y → ∀ j (h : j < l.length), j < k + 1 → x ≠ l[j] from fun y e hn j h hj => by
        by_cases ej : j = k
        · subst ej; rw [e]; exact hn
        · exact HNO.out j h (by omega))
      by_cases h : x = l[k]
      · have hb : ((x : Int) == (l[k] : Int)) = true := by rw [← h]; simp
        have hM := hid (show x ∈ l by rw [h]; exact List.getElem_mem hlt)
        clear h
        generalize l[k] = y at *
        go_wp2
        go_ret
        exact ⟨k, rfl, ⟨fun _ => hM.out, fun _ => by omega⟩, rfl⟩
      · have hb : ((x : Int) == (l[k] : Int)) = false := by simp; omega
        have HR := hid (HN.out _ rfl h)
        clear h
        generalize l[k] = y at *
        go_wp2
        go_round
        case rel => exact ⟨k + 1, by omega, by go_num, HR.out⟩
        case measure => simp [intOf]; omega
    · have d1 : decide ((k : Int) < (l.length : Int)) = false := by simp; omega
      have d1n : decide (k < l.length) = false := by simp; omega
      go_wp2
      go_ret
      refine ⟨-1, rfl, ⟨fun h => by omega, fun h => ?_⟩, rfl⟩
      obtain ⟨j, hj, e⟩ := List.getElem_of_mem h
      exact absurd e.symm (HNO.out j hj (by omega))

set_option maxRecDepth 100000 in
set_option maxHeartbeats 1000000 in
theorem containsF_any (g x : Nat) (l : List Nat) (w : World) (hB : Row w g 57 (l.map fv)) (hl : l.length ≤ 1000) :
    Calls Tryd.prog 31 #[.slice (some ⟨g, 0, none⟩) l.length l.length, .int .i64 (x : Nat)] w fun e w' => e = .returned (.bool (memF x l)) ∧ w = w' := by
  go_enter Tryd.func31, Tryd.ntmps31
  go_wp2_with fail
  refine (indexF_any _ _ _ _ hB hl).mono ?_
  rintro e w' ⟨r, rfl, hm, rfl⟩
  have HM := hid hm
  clear hm
  go_wp2
  go_ret
  refine ⟨ret_bools ?_, rfl⟩
  unfold memF
  rw [decide_eq_decide]
  exact HM.out.symm
end Go.Proofs.YtcbkikioapdbbaaDoor
namespace Go.Proofs.YtcbkikioapdbbaaDoor
open Go.RowKit Go.Sort
attribute [local go_sem] Oper.semAt_some

def chkX (x : CG) : Int := if chkE x.path = 0 then (if chkL x.argv = 0 then chkL x.env else chkL x.argv) else chkE x.path
def chkZ (n : Nat) : Int := if 4096 < n then 12 else 0
def chkO (x : CG) : Int := if chkE x.path = 0 then (if 1 < x.a then 1 else 0) else chkE x.path
def eeB (x y : Int) : Bool := x == y

theorem checkSize_any (n : Nat) (w : World) : Calls Tryd.prog 34 #[.int .u64 (n : Nat)] w fun e w' => e = .returned (.int .i64 (chkZ n)) ∧ w = w' := by
  by_cases h : 4096 < n
  · have d1 : decide ((4096 : Int) < (n : Int)) = true := by simp; omega
    have HF := hid (show chkZ n = 12 by unfold chkZ; rw [if_pos h])
    go_enter Tryd.func34, Tryd.ntmps34
    go_wp2_with fail
    go_ret
    exact ⟨ret_i64s HF.out, rfl⟩
  · have d1 : decide ((4096 : Int) < (n : Int)) = false := by simp; omega
    have HF := hid (show chkZ n = 0 by unfold chkZ; rw [if_neg h])
    go_enter Tryd.func34, Tryd.ntmps34
    go_wp2_with fail
    go_ret
    exact ⟨ret_i64s HF.out, rfl⟩

/-- A call in a box. -/
structure CBx (w0 w : World) (b : Nat) (x : CG) : Prop where
  row : Row w b 26 (cgC x)
  ok : CGok w x
  low : Below w0.heap.size w0 w
theorem CGok.below {w w' : World} {x : CG} (h : CGok w x) (hb : Below w.heap.size w w') : CGok w' x :=
  { h with argv := h.argv.below' hb, env := h.env.below' hb, bytes := h.bytes.below' hb }
theorem CBx.new {w : World} {x : CG} (h : CGok w x) : CBx w (w.alloc (.cells (cgC x).toArray 26)) w.heap.size x := ⟨Row.new w _ _, h.below (bal _), bal _⟩
theorem CBx.below {w0 w w' : World} {b : Nat} {x : CG} (h : CBx w0 w b x) (hb : Below w.heap.size w w') : CBx w0 w' b x := ⟨h.row.below hb h.row.lt, h.ok.below hb, h.low.trans (hb.mono h.low.size)⟩
theorem CBx.c0 {w0 w : World} {b : Nat} {x : CG} (h : CBx w0 w b x) : w.cell? ⟨b, 0, none⟩ = some (.int .u8 x.kind) := h.row.cell' 0
theorem CBx.c1 {w0 w : World} {b : Nat} {x : CG} (h : CBx w0 w b x) : w.cell? ⟨b, 1, none⟩ = some (.int .u64 x.a) := h.row.cell' 1
theorem CBx.c2 {w0 w : World} {b : Nat} {x : CG} (h : CBx w0 w b x) : w.cell? ⟨b, 2, none⟩ = some (.int .u64 x.b) := h.row.cell' 2
theorem CBx.c6 {w0 w : World} {b : Nat} {x : CG} (h : CBx w0 w b x) : w.cell? ⟨b, 6, none⟩ = some (.string (ba x.path)) := h.row.cell' 6
theorem CBx.c7 {w0 w : World} {b : Nat} {x : CG} (h : CBx w0 w b x) : w.cell? ⟨b, 7, none⟩ = some (.slice x.va x.argv.length x.vc) := h.row.cell' 7
theorem CBx.c8 {w0 w : World} {b : Nat} {x : CG} (h : CBx w0 w b x) : w.cell? ⟨b, 8, none⟩ = some (.slice x.ea x.env.length x.ec) := h.row.cell' 8
theorem CBx.c9 {w0 w : World} {b : Nat} {x : CG} (h : CBx w0 w b x) : w.cell? ⟨b, 9, none⟩ = some (.slice x.ya x.bytes.length x.yc) := h.row.cell' 9
theorem box_cg (x : CG) : ∀ w, (Instr.box 26 (cgV x)).run Tryd.prog w = .ok (.pointer (some ⟨w.heap.size, 0, none⟩)) (w.alloc (.cells (cgC x).toArray 26)) := fun _ => by kernel_rfl
theorem bne_t {a : Int} (h : a ≠ 0) : (a != 0) = true := by simpa using h
theorem beq_f {a : Int} (h : a ≠ 0) : (a == 0) = false := by simpa using h

set_option maxRecDepth 100000 in
set_option maxHeartbeats 4000000 in
theorem checkExec_any (x : CG) (w : World) (hx : CGok w x) (hp : x.path.length ≤ 1000000) :
    Calls Tryd.prog 33 #[cgV x] w fun e w' => e = .returned (.int .i64 (chkX x)) ∧ Below w.heap.size w w' := by
  have hbox := box_cg x
  obtain ⟨w1, hw1⟩ : ∃ w1, w1 = w.alloc (.cells (cgC x).toArray 26) := ⟨_, rfl⟩
  have HC := hid (show CBx w w1 w.heap.size x by rw [hw1]; exact CBx.new hx)
  have HW := hid hw1
  have HX := hid hx
  clear hw1 hx
  have HF : Hid (chkX x = _) := hid rfl
  go_enter Tryd.func33, Tryd.ntmps33
  go_wp2_with fail
  rw [← HW.out]
  refine (check_any (ba x.path) w1 (by rw [ba_size]; exact hp)).mono ?_
  rintro e' w2 ⟨rfl, hb2⟩
  rw [ba_list]
  have HC2 := hid (HC.out.below hb2)
  clear hb2
  by_cases h1 : chkE x.path = 0
  · have HG := hid (show chkX x = if chkL x.argv = 0 then chkL x.env else chkL x.argv by unfold chkX; rw [if_pos h1])
    rw [h1]
    have c7 := HC2.out.c7
    go_wp2_with fail
    refine (checkE_any _ _ _ _ w2 HC2.out.ok.argv (by have := HX.out.an; omega) HX.out.at').mono ?_
    rintro e' w3 ⟨rfl, rfl⟩
    clear c7
    by_cases h2 : chkL x.argv = 0
    · have HH := hid (show chkX x = chkL x.env by rw [HG.out, if_pos h2])
      rw [h2]
      have c8 := HC2.out.c8
      go_wp2_with fail
      refine (checkE_any _ _ _ _ w2 HC2.out.ok.env (by have := HX.out.en; omega) HX.out.et).mono ?_
      rintro e' w3 ⟨rfl, rfl⟩
      clear c8
      go_wp2_with fail
      go_ret
      exact ⟨ret_i64s HH.out, HC2.out.low⟩
    · have HH := hid (show chkX x = chkL x.argv by rw [HG.out, if_neg h2])
      have hn := bne_t h2
      have hn2 := beq_f h2
      generalize chkL x.argv = r at *
      go_wp2_with fail
      go_ret
      exact ⟨ret_i64s HH.out, HC2.out.low⟩
  · have HH := hid (show chkX x = chkE x.path by unfold chkX; rw [if_neg h1])
    have hn := bne_t h1
    have hn2 := beq_f h1
    generalize chkE x.path = r at *
    go_wp2_with fail
    go_ret
    exact ⟨ret_i64s HH.out, HC2.out.low⟩

set_option maxRecDepth 100000 in
set_option maxHeartbeats 4000000 in
theorem checkOpen_any (x : CG) (w : World) (hx : CGok w x) (hp : x.path.length ≤ 1000000) :
    Calls Tryd.prog 35 #[cgV x] w fun e w' => e = .returned (.int .i64 (chkO x)) ∧ Below w.heap.size w w' := by
  have hbox := box_cg x
  obtain ⟨w1, hw1⟩ : ∃ w1, w1 = w.alloc (.cells (cgC x).toArray 26) := ⟨_, rfl⟩
  have HC := hid (show CBx w w1 w.heap.size x by rw [hw1]; exact CBx.new hx)
  have HW := hid hw1
  have HX := hid hx
  clear hw1 hx
  go_enter Tryd.func35, Tryd.ntmps35
  go_wp2_with fail
  rw [← HW.out]
  refine (check_any (ba x.path) w1 (by rw [ba_size]; exact hp)).mono ?_
  rintro e' w2 ⟨rfl, hb2⟩
  rw [ba_list]
  have HC2 := hid (HC.out.below hb2)
  clear hb2
  by_cases h1 : chkE x.path = 0
  · rw [h1]
    have c1 := HC2.out.c1
    by_cases h2 : 1 < x.a
    · have HH := hid (show chkO x = 1 by unfold chkO; rw [if_pos h1, if_pos h2])
      have d2 : decide ((1 : Int) < (x.a : Int)) = true := by simp; omega
      go_wp2_with fail
      go_ret
      exact ⟨ret_i64s HH.out, HC2.out.low⟩
    · have HH := hid (show chkO x = 0 by unfold chkO; rw [if_pos h1, if_neg h2])
      have d2 : decide ((1 : Int) < (x.a : Int)) = false := by simp; omega
      go_wp2_with fail
      go_ret
      exact ⟨ret_i64s HH.out, HC2.out.low⟩
  · have HH := hid (show chkO x = chkE x.path by unfold chkO; rw [if_neg h1])
    have hn := bne_t h1
    have hn2 := beq_f h1
    generalize chkE x.path = r at *
    go_wp2_with fail
    go_ret
    exact ⟨ret_i64s HH.out, HC2.out.low⟩
end Go.Proofs.YtcbkikioapdbbaaDoor
namespace Go.Proofs.YtcbkikioapdbbaaDoor
open Go.RowKit Go.Sort Go.WideMaps Go.Maps
attribute [local go_sem] Oper.semAt_some

theorem KM.lookV {w0 W : World} {m : Nat} {L : FL} (h : KM w0 W m L) (k : Nat) (hk : k < 256) :
    (Instr.lookup 55 (.map (some m)) (.int .u8 (k : Nat)) false).run Tryd.prog W = .ok (lkF (lookF L k)) W := by
  obtain ⟨v, ps, hrun, hv⟩ := World.ownsMap.lookup h.map keyedU Tryd.underlying55 (zeroF W) rdF_nil (keyU k hk)
  rw [hrun]
  rw [mapF_at] at hv
  cases hl : lookF L k with
  | none =>
    rw [hl] at hv
    rw [rdF_nil_inv hv]
    rfl
  | some p =>
    rw [hl] at hv
    rw [rdF_inv hv]
    rfl

structure KYes (w : World) (k m b : Nat) (w' : World) : Prop where
  low : Below w.heap.size w w'
  row : Row w' b 57 ((fsL k).map fv)
  new : w.heap.size ≤ b
  look : (Instr.lookup 55 (.map (some m)) (.int .u8 (k : Nat)) true).run Tryd.prog w' = .ok (.tuple #[.slice (some ⟨b, 0, none⟩) (fsL k).length (fsL k).length, .bool true]) w'
  lookV : (Instr.lookup 55 (.map (some m)) (.int .u8 (k : Nat)) false).run Tryd.prog w' = .ok (.slice (some ⟨b, 0, none⟩) (fsL k).length (fsL k).length) w'
theorem kinds_yes (k : Nat) (hk : 1 ≤ k ∧ k ≤ 12) (w : World) : Calls Tryd.prog 30 #[] w fun e w' => ∃ m b, e = .returned (.map (some m)) ∧ KYes w k m b w' := by
  refine (kinds_any w).mono ?_
  rintro e w' ⟨m, L, rfl, hkm, hL⟩
  have hkk := hkm.kind hL k
  rw [if_pos hk] at hkk
  obtain ⟨b, hl, hrow, hb, _⟩ := hkk
  have h1 := hkm.look k (by omega)
  have h2 := hkm.lookV k (by omega)
  rw [hl] at h1 h2
  exact ⟨m, b, rfl, ⟨hkm.low, hrow, hb, h1, h2⟩⟩
structure KNo (w : World) (k m : Nat) (w' : World) : Prop where
  low : Below w.heap.size w w'
  look : (Instr.lookup 55 (.map (some m)) (.int .u8 (k : Nat)) true).run Tryd.prog w' = .ok (.tuple #[.slice none 0 0, .bool false]) w'
theorem kinds_no (k : Nat) (hk : ¬ (1 ≤ k ∧ k ≤ 12)) (hk2 : k < 256) (w : World) : Calls Tryd.prog 30 #[] w fun e w' => ∃ m, e = .returned (.map (some m)) ∧ KNo w k m w' := by
  refine (kinds_any w).mono ?_
  rintro e w' ⟨m, L, rfl, hkm, hL⟩
  have hkk := hkm.kind hL k
  rw [if_neg hk] at hkk
  have h1 := hkm.look k (by omega)
  rw [hkk] at h1
  exact ⟨m, rfl, ⟨hkm.low, h1⟩⟩
/-- The cells of a box at every world that follows. -/
theorem CBx.ten {w0 W : World} {b : Nat} {x : CG} (h : CBx w0 W b x) : ∀ w, St W w → w.cell? ⟨b, 0, none⟩ = some (.int .u8 x.kind) := fun w hs => keepC hs h.c0

def badF (x : CG) : Bool := (List.range 9).any fun f => !memF f (fsL x.kind) && !isz x f
def chkC (x : CG) : Int := if 1 ≤ x.kind ∧ x.kind ≤ 12 then (if badF x then 1 else if x.kind = 1 then chkX x else if x.kind = 8 ∨ x.kind = 12 then chkZ x.b else if x.kind = 9 then chkZ x.bytes.length else if x.kind = 10 then chkO x else 0) else 23

theorem badF_yes {x : CG} {k : Nat} (hk : k < 9) (h1 : memF k (fsL x.kind) = false) (h2 : isz x k = false) : badF x = true := by
  unfold badF
  exact List.any_eq_true.2 ⟨k, List.mem_range.2 hk, by rw [h1, h2]; rfl⟩
theorem badF_no {x : CG} (h : ∀ j, j < 9 → (memF j (fsL x.kind) || isz x j) = true) : badF x = false := by
  unfold badF
  rw [List.any_eq_false]
  intro j hj
  have := h j (List.mem_range.1 hj)
  cases h1 : memF j (fsL x.kind) <;> cases h2 : isz x j <;> simp_all
theorem fsL_le (k : Nat) : (fsL k).length ≤ 1000 := by unfold fsL; split <;> decide
theorem CBx.cells {w0 w : World} {b : Nat} {x : CG} (h : CBx w0 w b x) : w.cell? ⟨b, 0, none⟩ = some (.int .u8 x.kind) ∧ w.cell? ⟨b, 1, none⟩ = some (.int .u64 x.a) ∧ w.cell? ⟨b, 2, none⟩ = some (.int .u64 x.b) ∧ w.cell? ⟨b, 3, none⟩ = some (.int .u64 x.c) ∧ w.cell? ⟨b, 4, none⟩ = some (.int .u64 x.d) ∧ w.cell? ⟨b, 5, none⟩ = some (.int .u64 x.e) ∧ w.cell? ⟨b, 6, none⟩ = some (.string (ba x.path)) ∧ w.cell? ⟨b, 7, none⟩ = some (.slice x.va x.argv.length x.vc) ∧ w.cell? ⟨b, 8, none⟩ = some (.slice x.ea x.env.length x.ec) ∧ w.cell? ⟨b, 9, none⟩ = some (.slice x.ya x.bytes.length x.yc) :=
  ⟨h.row.cell' 0, h.row.cell' 1, h.row.cell' 2, h.row.cell' 3, h.row.cell' 4, h.row.cell' 5, h.row.cell' 6, h.row.cell' 7, h.row.cell' 8, h.row.cell' 9⟩

set_option maxRecDepth 100000 in
set_option maxHeartbeats 4000000 in
theorem check25_any (x : CG) (w : World) (hx : CGok w x) (hp : x.path.length ≤ 1000000) :
    Calls Tryd.prog 13 #[cgV x] w fun e w' => e = .returned (.int .i64 (chkC x)) ∧ Below w.heap.size w w' := by
  have hbox := box_cg x
  obtain ⟨w1, hw1⟩ : ∃ w1, w1 = w.alloc (.cells (cgC x).toArray 26) := ⟨_, rfl⟩
  have HC := hid (show CBx w w1 w.heap.size x by rw [hw1]; exact CBx.new hx)
  have HW := hid hw1
  have HX := hid hx
  clear hw1 hx
  have h0 := HC.out.ten
  by_cases hk : 1 ≤ x.kind ∧ x.kind ≤ 12
  · have HKD := hid (fun w' => kinds_yes x.kind hk w')
    have HK := hid hk
    clear hk
    go_enter Tryd.func13, Tryd.ntmps13
    go_wp2_with fail
    rw [← HW.out]
    go_region_held3 (St w1) (first | exact St.drew _ | exact St.step (by assumption) hbx | assumption) ((go_at_call 30; with_reducible refine ((HKD.out _).mono ?_); rintro e' wx ⟨m, g, rfl, hbx, hrow, hg, hlk, hlk2⟩; have HROW := hid hrow; have HG := hid hg; have HS11 : Hid (St w1 wx) := hid (St.step (by assumption) hbx); clear hrow hg hlk2))
    have HCX := hid (HC.out.below (HS11.out))
    clear h0 hlk hbx HKD HS11 HG
    go_wp2_with fail
    go_loopw [15] (fun i wr => ∃ k : Nat, k ≤ 9 ∧ i = .int .i64 k ∧ (∀ j, j < k → (memF j (fsL x.kind) || isz x j) = true) ∧ CBx w wr w.heap.size x ∧ Row wr g 57 ((fsL x.kind).map fv)) (fun i _ => 9 - (intOf i).toNat)
    case atStart => exact ⟨0, by omega, rfl, fun j hj => by omega, HCX.out, HROW.out⟩
    case round =>
      obtain ⟨k, hk9, rfl, hall, hcx, hrow⟩ := hrel
      rename World => wA
      have HALL := hid hall
      have HC3 := hid hcx
      have HR3 := hid hrow
      clear hall hcx hrow
      by_cases hlt : k < 9
      · have d1 : decide ((k : Int) < 9) = true := by simp; omega
        have d1n : decide (k < 9) = true := by simp; omega
        have HCELL := hid HC3.out.cells
        go_wp2_with fail
        refine (containsF_any g k (fsL x.kind) wA HR3.out (fsL_le _)).mono ?_
        rintro e' w4 ⟨rfl, rfl⟩
        cases hm : memF k (fsL x.kind)
        · obtain ⟨c0, c1, c2, c3, c4, c5, c6, c7, c8, c9⟩ := HCELL.out
          go_wp2_with fail
          refine (isZero_any x k hlt wA).mono ?_
          rintro e' w5 ⟨rfl, hb5⟩
          have HC5 := hid (HC3.out.below hb5)
          have HR5 := hid (HR3.out.below hb5 HR3.out.lt)
          clear c0 c1 c2 c3 c4 c5 c6 c7 c8 c9 hb5
          cases hz : isz x k
          · have HBAD := hid (badF_yes hlt hm hz)
            have HFIN := hid (show chkC x = 1 by unfold chkC; rw [if_pos HK.out, if_pos HBAD.out])
            go_wp2_with fail
            go_ret
            exact ⟨ret_i64s HFIN.out, HC5.out.low⟩
          · go_wp2_with fail
            go_roundw
            case rel => exact ⟨k + 1, by omega, by go_num, fun j hj => by
              by_cases ej : j = k
              · rw [ej, hz, Bool.or_true]
              · exact HALL.out j (by omega), HC5.out, HR5.out⟩
            case measure => simp [intOf]; omega
        · go_wp2_with fail
          go_roundw
          case rel => exact ⟨k + 1, by omega, by go_num, fun j hj => by
            by_cases ej : j = k
            · rw [ej, hm]; rfl
            · exact HALL.out j (by omega), HC3.out, HR3.out⟩
          case measure => simp [intOf]; omega
      · have d1 : decide ((k : Int) < 9) = false := by simp; omega
        have d1n : decide (k < 9) = false := by simp; omega
        obtain rfl : k = 9 := by omega
        have HBAD := hid (badF_no HALL.out)
        clear HALL
        have c0 := HC3.out.c0
        by_cases h1 : x.kind = 1
        · have e1 : ((x.kind : Int) == 1) = true := by simp; omega
          have HFIN := hid (show chkC x = chkX x by unfold chkC; rw [if_pos HK.out, if_neg (by rw [HBAD.out]; simp)]; rw [if_pos h1])
          clear h1
          obtain ⟨_, c1, c2, c3, c4, c5, c6, c7, c8, c9⟩ := HC3.out.cells
          go_wp2_with fail
          refine (checkExec_any x wA HC3.out.ok hp).mono ?_
          rintro e' w5 ⟨rfl, hb5⟩
          have HL5 := hid (HC3.out.below hb5).low
          go_wp2_with fail
          go_ret
          exact ⟨ret_i64s HFIN.out, HL5.out⟩
        by_cases h8 : x.kind = 8
        · have e1 : ((x.kind : Int) == 1) = false := by simp; omega
          have e8 : ((x.kind : Int) == 8) = true := by simp; omega
          have HFIN := hid (show chkC x = chkZ x.b by unfold chkC; rw [if_pos HK.out, if_neg (by rw [HBAD.out]; simp)]; rw [if_neg (by omega), if_pos (.inl h8)])
          clear h8
          have c2 := HC3.out.c2
          go_wp2_with fail
          refine (checkSize_any x.b wA).mono ?_
          rintro e' w5 ⟨rfl, rfl⟩
          have HL5 := hid HC3.out.low
          go_wp2_with fail
          go_ret
          exact ⟨ret_i64s HFIN.out, HL5.out⟩
        by_cases h12 : x.kind = 12
        · have e1 : ((x.kind : Int) == 1) = false := by simp; omega
          have e8 : ((x.kind : Int) == 8) = false := by simp; omega
          have e12 : ((x.kind : Int) == 12) = true := by simp; omega
          have HFIN := hid (show chkC x = chkZ x.b by unfold chkC; rw [if_pos HK.out, if_neg (by rw [HBAD.out]; simp)]; rw [if_neg (by omega), if_pos (.inr h12)])
          clear h12
          have c2 := HC3.out.c2
          go_wp2_with fail
          refine (checkSize_any x.b wA).mono ?_
          rintro e' w5 ⟨rfl, rfl⟩
          have HL5 := hid HC3.out.low
          go_wp2_with fail
          go_ret
          exact ⟨ret_i64s HFIN.out, HL5.out⟩
        by_cases h9 : x.kind = 9
        · have e1 : ((x.kind : Int) == 1) = false := by simp; omega
          have e8 : ((x.kind : Int) == 8) = false := by simp; omega
          have e12 : ((x.kind : Int) == 12) = false := by simp; omega
          have e9 : ((x.kind : Int) == 9) = true := by simp; omega
          have HFIN := hid (show chkC x = chkZ x.bytes.length by unfold chkC; rw [if_pos HK.out, if_neg (by rw [HBAD.out]; simp)]; rw [if_neg (by omega), if_neg (by omega), if_pos h9])
          clear h9
          have c9 := HC3.out.c9
          have hyn := HX.out.yn
          have hwr := hid (IntWalk.u64_in (x.bytes.length : Int) (by omega))
          have hwr := hwr.out
          go_wp2_with fail
          refine (checkSize_any x.bytes.length wA).mono ?_
          rintro e' w5 ⟨rfl, rfl⟩
          have HL5 := hid HC3.out.low
          go_wp2_with fail
          go_ret
          exact ⟨ret_i64s HFIN.out, HL5.out⟩
        by_cases h10 : x.kind = 10
        · have e1 : ((x.kind : Int) == 1) = false := by simp; omega
          have e8 : ((x.kind : Int) == 8) = false := by simp; omega
          have e12 : ((x.kind : Int) == 12) = false := by simp; omega
          have e9 : ((x.kind : Int) == 9) = false := by simp; omega
          have e10 : ((x.kind : Int) == 10) = true := by simp; omega
          have HFIN := hid (show chkC x = chkO x by unfold chkC; rw [if_pos HK.out, if_neg (by rw [HBAD.out]; simp)]; rw [if_neg (by omega), if_neg (by omega), if_neg (by omega), if_pos h10])
          clear h10
          obtain ⟨_, c1, c2, c3, c4, c5, c6, c7, c8, c9⟩ := HC3.out.cells
          go_wp2_with fail
          refine (checkOpen_any x wA HC3.out.ok hp).mono ?_
          rintro e' w5 ⟨rfl, hb5⟩
          have HL5 := hid (HC3.out.below hb5).low
          go_wp2_with fail
          go_ret
          exact ⟨ret_i64s HFIN.out, HL5.out⟩
        have e1 : ((x.kind : Int) == 1) = false := by simp; omega
        have e8 : ((x.kind : Int) == 8) = false := by simp; omega
        have e12 : ((x.kind : Int) == 12) = false := by simp; omega
        have e9 : ((x.kind : Int) == 9) = false := by simp; omega
        have e10 : ((x.kind : Int) == 10) = false := by simp; omega
        have HFIN := hid (show chkC x = 0 by unfold chkC; rw [if_pos HK.out, if_neg (by rw [HBAD.out]; simp), if_neg h1, if_neg (by omega), if_neg h9, if_neg h10])
        have HL5 := hid HC3.out.low
        go_wp2_with fail
        go_ret
        exact ⟨ret_i64s HFIN.out, HL5.out⟩
  · have HKD := hid (fun w' => kinds_no x.kind hk HX.out.kind w')
    have HFIN := hid (show chkC x = 23 by unfold chkC; rw [if_neg hk])
    clear hk
    go_enter Tryd.func13, Tryd.ntmps13
    go_wp2_with fail
    rw [← HW.out]
    go_region_held3 (St w1) (first | exact St.drew _ | exact St.step (by assumption) hbx | assumption) ((go_at_call 30; with_reducible refine ((HKD.out _).mono ?_); rintro e' wx ⟨m, rfl, hbx, hlk⟩; have HS11 : Hid (St w1 wx) := hid (St.step (by assumption) hbx)))
    have HCX := hid (HC.out.below (HS11.out))
    clear h0 hlk hbx HKD HS11
    go_wp2_with fail
    go_ret
    exact ⟨ret_i64s HFIN.out, HCX.out.low⟩
end Go.Proofs.YtcbkikioapdbbaaDoor
namespace Go.Proofs.YtcbkikioapdbbaaDoor
open Go.RowKit Go.Sort
attribute [local go_sem] Oper.semAt_some

abbrev OwnBy (w : World) (base : Nat) (v : Value) (l : BL) : Prop := w.ownsRow base 5 1 v l.length (l.map B8)
theorem b8_ones (l : BL) : ∀ u ∈ l.map B8, u.oneCell' = true := by
  intro u hu
  obtain ⟨x, _, rfl⟩ := List.mem_map.1 hu
  rfl
theorem Row.celB {w : World} {g : Nat} {E : TypeId} {l : BL} (h : Row w g E (l.map B8)) : Cel w (some ⟨g, 0, none⟩) l.length (l.map B8) := by
  have := Row.cel (cs := l.map B8) (rest := []) (by rw [List.append_nil]; exact h)
  rwa [List.length_map] at this
theorem ownBy_app {w : World} {base n : Nat} {v : Value} {a b c : BL} (h : w.ownsRow base 5 1 v n (a.map B8 ++ b.map B8)) (hc : c = a ++ b) : OwnBy w base v c := by
  subst hc
  refine own_ext h ?_ (by simp)
  have := h.1
  simp at this ⊢
  omega
theorem Sizes.belowB {w w' : World} {B : Nat} (h : Sizes w) (hb : Below B w w') (hg : 0 < B) : Sizes w' := by
  have e : ∀ o, w'.cell? ⟨0, o, none⟩ = w.cell? ⟨0, o, none⟩ := fun o => hb.cell (p := ⟨0, o, none⟩) hg
  exact ⟨(e 0).trans h.c0, (e 1).trans h.c1, (e 2).trans h.c2, (e 3).trans h.c3⟩
theorem infoBy : (Tryd.prog.info? 5).map (fun i => (i.zero, i.size, i.bytes)) = some (some (.int .u8 0), 1, 1) := by kernel_rfl
theorem rep_b8 (n : Nat) : List.replicate n (Value.int .u8 0) = (List.replicate n (0 : UInt8)).map B8 := by simp [B8]

/-- Rows of other elements than bytes stand. -/
def KeepR (w w' : World) : Prop := ∀ g T cs, T ≠ 5 → Row w g T cs → Row w' g T cs
theorem KeepR.refl (w : World) : KeepR w w := fun _ _ _ _ h => h
theorem KeepR.trans {a b c : World} (h : KeepR a b) (k : KeepR b c) : KeepR a c := fun g T cs hT hr => k g T cs hT (h g T cs hT hr)
theorem KeepR.of {w w' : World} (h : Below w.heap.size w w') : KeepR w w' := fun _ _ _ _ hr => hr.below h hr.lt
theorem KeepR.grown {w w' : World} {base n : Nat} {v : Value} {xs : List Value} (hown : w.ownsRow base 5 1 v n xs) (hg : w.grownBy w' v.ownBlock) : KeepR w w' := fun _ _ _ hT hr => row_grown hr hown hT hg

/-- What a function that puts bytes behind bytes answers. -/
def PutP (base : Nat) (l : BL) (w : World) (e : Ending) (w' : World) : Prop := ∃ v', e = .returned v' ∧ OwnBy w' base v' l ∧ Below base w w' ∧ KeepR w w'

set_option maxRecDepth 100000 in
set_option maxHeartbeats 4000000 in
theorem putNumber_any (base : Nat) (v : Value) (l : BL) (n x : Nat) (ni : Int) (hni : ni = (n : Nat)) (w : World) (hs : Sizes w) (hv : OwnBy w base v l) (hbase : base ≤ w.heap.size) (hn : n = 1 ∨ n = 2 ∨ n = 4 ∨ n = 8) (hl : l.length ≤ 100000000000)
    (hg : 0 < base) :
    Calls Tryd.prog 42 #[v, .int .i64 ni, .int .u64 (x : Nat)] w (PutP base (l ++ leB x n) w) := by
  subst hni
  obtain ⟨va, vc, rfl⟩ := own_hd2 hv
  obtain ⟨N, hN⟩ : ∃ N, N = l.length := ⟨_, rfl⟩
  have HV := hid (show w.ownsRow base 5 1 (.slice va N vc) N (l.map B8) by rw [hN]; exact hv)
  rw [← hN] at hl
  have HBA := hid hbase
  have HSN := hid (fun (w1 : World) (hb : Below base w w1) (g : Nat) (hB : Byt w1 (some ⟨g, 0, none⟩) n (List.replicate n 0)) => set_new g n x w1 (hs.belowB hb hg) hn hB)
  have hn8 : n ≤ 8 := by omega
  have HNa := hid (show (N + n) * 1 ≤ 140737488355328 by omega)
  have HNb := hid (show N + n ≤ maxLen by unfold maxLen; omega)
  have HNN := hid hN
  clear hs hv hbase hg hl hn
  rw [← hN]
  clear hN
  go_enter Tryd.func42, Tryd.ntmps42
  go_wp2_with (at_make; refine wpList_make_row _ rfl _ _ 24 rfl 5 (.int .u8 0) 1 Tryd.underlying24 infoBy rfl .i64 .i64 _ _ n rfl rfl (by omega) (by omega) (by omega) (by omega) ?_; intro w1 hr1 hb1 hs1; have HR1 := hid hr1; have HB1 := hid hb1; clear hr1 hb1 hs1)
  have HBW1 := hid (show Below base w w1 from HB1.out.mono HBA.out)
  refine (HSN.out w1 HBW1.out w.heap.size (Row.byt (l := List.replicate n 0) (rest := []) (by rw [List.append_nil, ← rep_b8]; exact HR1.out) (by simp))).mono ?_
  rintro e' w2 ⟨rfl, hr2, hb2⟩
  have HR2 := hid hr2
  have HB2 := hid hb2
  have HBW2 := hid (show Below base w w2 from HBW1.out.trans (HB2.out.mono (Nat.le_trans HBA.out HBW1.out.size)))
  have HO2 := hid (own_below (own_below HV.out HB1.out) HB2.out)
  have HC2 := hid (HR2.out.celB)
  rw [leB_len] at HC2
  have HZ2 := hid (Nat.le_trans HBA.out HBW2.out.size)
  have HK2 := hid (KeepR.trans (KeepR.of HB1.out) (KeepR.of HB2.out))
  clear hr2 hb2
  go_wp2_with (at_builtin; go_must (refine wpList_ap1 Tryd.underlying24 infoBy rfl rfl _ _ rfl base (.slice va N vc) N (l.map B8) ((leB x n).map B8) rfl (some ⟨w1.heap.size, 0, none⟩) n n rfl HO2.out HC2.out (b8_ones _) (fun h => by cases h) HNa.out HNb.out HZ2.out ?_; intro v' w9 hown hgrow hb9; have HO9 := hid hown; have HB9 := hid hb9; have HK9 := hid (KeepR.trans HK2.out (KeepR.grown HO2.out hgrow)); obtain ⟨ga, gc, rfl⟩ := own_hd2 hown; clear hown hgrow hb9))
  go_ret
  exact ⟨_, rfl, ownBy_app HO9.out rfl, HBW2.out.trans HB9.out, HK9.out⟩

theorem strCells_ba (s : BL) : Go.Lib.strCells (ba s) = s.map B8 := by simp [Go.Lib.strCells, ba, B8]
theorem info_u8 : ∃ i, Tryd.prog.info? 5 = some i ∧ i.zero = some (.int .u8 0) ∧ i.size = 1 ∧ i.bytes = 1 := by
  obtain ⟨i, h1, h2, h3, h4⟩ := info_parts infoBy
  exact ⟨i, h1, h2, h3, h4⟩
/-- append(v, s...), s a text. -/
theorem wpList_apT {w : World} {ops : Array Oper} {rest : List Oper} {o : Oper} {a : Act} {Q : Exit → Act → World → Prop} (hgd : o.guard = none) (s x : Operand)
    (ho : o.op = .call { callee := .builtin .append, args := #[s, x], argTypes := #[24, 9] })
    (base : Nat) (v : Value) (n : Nat) (xs : List Value) (l : BL) (hs : a.eval s = v) (hx : a.eval x = .string (ba l)) (hown : w.ownsRow base 5 1 v n xs) (hn : n + l.length ≤ 140737488355328) (hbase : base ≤ w.heap.size)
    (h : ∀ v' w', w'.ownsRow base 5 1 v' (n + l.length) (xs ++ l.map B8) → w.grownBy w' v.ownBlock → Below base w w' → wpList Tryd.prog ops Q rest (a.put o.dst v') w') :
    wpList Tryd.prog ops Q (o :: rest) a w := by
  obtain ⟨i, h1, h2, h3, h4⟩ := info_u8
  refine Go.Lib.wpList_append_own_string w hgd s x _ _ ho base _ i Tryd.underlying24 Tryd.underlying9 h1 h2 h3 h4 v n xs hs hown (ba l) hx (by rw [ba_size]; unfold maxLen; omega) (by rw [ba_size]; omega) hbase ?_
  intro v' w' g1 g2 _
  rw [ba_size, strCells_ba] at g1
  exact h v' w' g1 g2 ((Below.refl _ w).grown g2 hbase (fun k hk => (hown.lt k hk).1))

def txB (s : BL) : BL := leB s.length 2 ++ s
set_option maxRecDepth 100000 in
set_option maxHeartbeats 4000000 in
theorem putText_any (base : Nat) (v : Value) (l s : BL) (w : World) (hs : Sizes w) (hv : OwnBy w base v l) (hbase : base ≤ w.heap.size) (hl : l.length ≤ 10000000000) (hsl : s.length ≤ 10000000000)
    (hg : 0 < base) :
    Calls Tryd.prog 40 #[v, .string (ba s)] w (PutP base (l ++ txB s) w) := by
  obtain ⟨va, vc, rfl⟩ := own_hd2 hv
  have HBA := hid hbase
  have HPN := hid (putNumber_any base _ l 2 s.length 2 rfl w hs hv hbase (by decide) (by omega) hg)
  have hz : ((ba s).size : Int) = (s.length : Int) := by rw [ba_size]
  have hwr := IntWalk.u64_in (s.length : Int) (by omega)
  have HNa := hid (show (l ++ leB s.length 2).length + s.length ≤ 140737488355328 by rw [List.length_append, leB_len]; omega)
  clear hs hv hg hbase
  go_enter Tryd.func40, Tryd.ntmps40
  go_wp2_with fail
  refine HPN.out.mono ?_
  rintro e' w1 ⟨v1, rfl, ho1, hb1, hk1⟩
  have HO1 := hid ho1
  have HB1 := hid hb1
  have HK1 := hid hk1
  have HZ1 := hid (Nat.le_trans HBA.out HB1.out.size)
  clear ho1 hb1 hk1 hwr hz
  go_wp2_with (at_builtin; go_must (refine wpList_apT rfl _ _ rfl base v1 _ _ s rfl rfl HO1.out HNa.out HZ1.out ?_; intro v' w9 hown hgrow hb9; have HO9 := hid hown; have HB9 := hid hb9; have HK9 := hid (KeepR.trans HK1.out (KeepR.grown HO1.out hgrow)); clear hown hgrow hb9))
  go_ret
  exact ⟨_, rfl, ownBy_app HO9.out (by unfold txB; rw [List.append_assoc]), HB1.out.trans HB9.out, HK9.out⟩

def txsB (ds : List BL) : BL := ds.flatMap txB
theorem txsB_take {ds : List BL} {k : Nat} (h : k < ds.length) : txsB (ds.take (k + 1)) = txsB (ds.take k) ++ txB ds[k] := by
  unfold txsB
  rw [List.take_succ_eq_append_getElem h, List.flatMap_append]
  simp
theorem txB_len (s : BL) : (txB s).length = 2 + s.length := by unfold txB; rw [List.length_append, leB_len]
theorem txsB_len {M : Nat} : ∀ ds : List BL, (∀ s ∈ ds, s.length ≤ M) → (txsB ds).length ≤ ds.length * (M + 2)
  | [], _ => by simp [txsB]
  | s :: ds, h => by
    have h1 := txsB_len ds (fun x hx => h x (List.mem_cons_of_mem _ hx))
    have h2 := h s (List.mem_cons_self ..)
    have e : txsB (s :: ds) = txB s ++ txsB ds := by simp [txsB]
    rw [e, List.length_append, txB_len, List.length_cons, Nat.add_mul]
    omega
end Go.Proofs.YtcbkikioapdbbaaDoor
namespace Go.Proofs.YtcbkikioapdbbaaDoor
open Go.RowKit Go.Sort
attribute [local go_sem] Oper.semAt_some

def lsB (ds : List BL) : BL := leB ds.length 1 ++ txsB ds

set_option maxRecDepth 100000 in
set_option maxHeartbeats 4000000 in
theorem putTexts_any (base : Nat) (v : Value) (l : BL) (a : Option Addr) (cap : Nat) (ds : List BL) (w : World) (hs : Sizes w) (hv : OwnBy w base v l) (hB : ∀ w', Below base w w' → Cel w' a ds.length (strs ds)) (hbase : base ≤ w.heap.size) (hl : l.length ≤ 100000000) (hn : ds.length ≤ 1000) (ht : ∀ p ∈ ds, p.length ≤ 100000)
    (hg : 0 < base) :
    Calls Tryd.prog 41 #[v, .slice a ds.length cap] w (PutP base (l ++ lsB ds) w) := by
  obtain ⟨va, vc, rfl⟩ := own_hd2 hv
  have HBA := hid hbase
  have HPN := hid (putNumber_any base _ l 1 ds.length 1 rfl w hs hv hbase (by decide) (by omega) hg)
  have hwr := IntWalk.u64_in (ds.length : Int) (by omega)
  have HC := hid hB
  have HT := hid ht
  have HPT := hid (fun (w1 : World) (hb : Below base w w1) (v1 : Value) (l1 s : BL) (ho : OwnBy w1 base v1 l1) (h1 : l1.length ≤ 10000000000) (h2 : s.length ≤ 10000000000) => putText_any base v1 l1 s w1 (hs.belowB hb hg) ho (Nat.le_trans hbase hb.size) h1 h2 hg)
  have HTB := hid (fun k (_ : k ≤ ds.length) => show (txsB (ds.take k)).length ≤ 1000 * 100002 from Nat.le_trans (txsB_len (M := 100000) (ds.take k) (fun s hs => ht s (List.mem_of_mem_take hs))) (Nat.mul_le_mul_right _ (by rw [List.length_take]; omega)))
  clear hs hv hg hbase hB ht
  go_enter Tryd.func41, Tryd.ntmps41
  go_wp2_with fail
  refine HPN.out.mono ?_
  rintro e' w1 ⟨v1, rfl, ho1, hb1, hk1⟩
  have HO1 := hid ho1
  have HB1 := hid hb1
  have HK1 := hid hk1
  obtain ⟨va1, vc1, rfl⟩ := own_hd2 ho1
  clear ho1 hb1 hk1 hwr
  go_wp2_with fail
  go_loopw [0, 14] (fun v i wr => ∃ k : Nat, k ≤ ds.length ∧ i = .int .i64 k ∧ OwnBy wr base v (l ++ leB ds.length 1 ++ txsB (ds.take k)) ∧ Below base w wr ∧ KeepR w wr) (fun _ i _ => ds.length - (intOf i).toNat)
  case atStart => exact ⟨0, Nat.zero_le _, rfl, by simpa [txsB] using HO1.out, HB1.out, HK1.out⟩
  case round =>
    obtain ⟨k, hk, rfl, hown, hbw, hkr⟩ := hrel
    rename World => wA
    have HO := hid hown
    have HBW := hid hbw
    have HKR := hid hkr
    clear hown hbw hkr
    by_cases hlt : k < ds.length
    · have d1 : decide ((k : Int) < (ds.length : Int)) = true := by simp; omega
      have d1n : decide (k < ds.length) = true := by simp; omega
      have hsl := HT.out _ (List.getElem_mem hlt)
      have hcB := HC.out wA HBW.out
      obtain ⟨b, off, rfl, hc⟩ := hcB.some_of (by rw [strsS_len]; omega)
      have hx := strs_at hc hlt
      have HNT := hid (txsB_take hlt)
      have hml := HTB.out k hk
      have HAS := hid (List.append_assoc (l ++ leB ds.length 1) (txsB (ds.take k)) (txB ds[k]))
      have hl1 : (l ++ leB ds.length 1 ++ txsB (ds.take k)).length ≤ 10000000000 := by rw [List.length_append, List.length_append, leB_len]; omega
      clear hc hcB
      generalize ds[k] = t at *
      generalize l ++ leB ds.length 1 ++ txsB (ds.take k) = l1 at *
      have HPX := hid (HPT.out wA HBW.out _ l1 t HO.out hl1 (by omega))
      clear hml hl1
      obtain ⟨ua, uc, rfl⟩ := own_hd2 HO.out
      go_wp2_with fail
      refine HPX.out.mono ?_
      rintro e' w5 ⟨v5, rfl, ho5, hb5, hk5⟩
      have HO5 := hid ho5
      have HB5 := hid hb5
      have HK5 := hid hk5
      obtain ⟨v5a, v5c, rfl⟩ := own_hd2 ho5
      clear ho5 hb5 hk5
      go_wp2_with fail
      go_roundw
      case rel => exact ⟨k + 1, by omega, by go_num, by rw [HNT.out, ← HAS.out, ← List.length_append]; exact HO5.out, HBW.out.trans HB5.out, HKR.out.trans HK5.out⟩
      case measure => simp [intOf]; omega
    · have d1 : decide ((k : Int) < (ds.length : Int)) = false := by simp; omega
      have d1n : decide (k < ds.length) = false := by simp; omega
      have HTT := hid (show ds.take k = ds by rw [List.take_of_length_le (by omega)])
      obtain ⟨ua, uc, rfl⟩ := own_hd2 HO.out
      go_wp2_with fail
      go_ret
      exact ⟨_, rfl, own_ext HO.out (by unfold lsB; rw [HTT.out, List.append_assoc]) (by unfold lsB; rw [HTT.out, List.append_assoc]), HBW.out, HKR.out⟩
end Go.Proofs.YtcbkikioapdbbaaDoor
namespace Go.Proofs.YtcbkikioapdbbaaDoor
open Go.RowKit Go.Sort Go.WideMaps Go.Maps
attribute [local go_sem] Oper.semAt_some

/-- A field's bytes. -/
def fldB (x : CG) (f : Nat) : BL := if f = 5 then txB x.path else if f = 6 then lsB x.argv else if f = 7 then lsB x.env else if f = 8 then txB x.bytes else leB (nmN x f) 8
def fldsB (x : CG) (l : List Nat) : BL := l.flatMap (fldB x)
/-- A call's bytes. -/
def formB (x : CG) : BL := [UInt8.ofNat x.kind] ++ fldsB x (fsL x.kind)
theorem fldsB_take {x : CG} {l : List Nat} {k : Nat} (h : k < l.length) : fldsB x (l.take (k + 1)) = fldsB x (l.take k) ++ fldB x l[k] := by
  unfold fldsB
  rw [List.take_succ_eq_append_getElem h, List.flatMap_append]
  simp
theorem fldB_5 (x : CG) : fldB x 5 = txB x.path := rfl
theorem fldB_6 (x : CG) : fldB x 6 = lsB x.argv := rfl
theorem fldB_7 (x : CG) : fldB x 7 = lsB x.env := rfl
theorem fldB_8 (x : CG) : fldB x 8 = txB x.bytes := rfl
theorem fldB_n {x : CG} {f : Nat} (h : f < 5) : fldB x f = leB (nmN x f) 8 := by
  unfold fldB
  rw [if_neg (by omega), if_neg (by omega), if_neg (by omega), if_neg (by omega)]
theorem chkL_ok {ds : List BL} (h : chkL ds = 0) : ds.length ≤ 32 ∧ ∀ s ∈ ds, s.length ≤ 256 := by
  unfold chkL at h
  split at h
  · cases h
  · rename_i h1
    split at h
    · cases h
    · rename_i h2
      refine ⟨by omega, fun s hs => ?_⟩
      have := List.any_eq_false.1 (by simpa using h2) s hs
      unfold longB at this
      simpa using this
/-- What is known of the fields of a call that may be. -/
structure OkF (x : CG) (f : Nat) : Prop where
  lt : f < 9
  argv : f = 6 → x.argv.length ≤ 32 ∧ ∀ s ∈ x.argv, s.length ≤ 256
  env : f = 7 → x.env.length ≤ 32 ∧ ∀ s ∈ x.env, s.length ≤ 256
  bytes : f = 8 → x.bytes.length ≤ 4096
theorem okF_of {x : CG} (h : chkC x = 0) {f : Nat} (hf : f ∈ fsL x.kind) : OkF x f := by
  unfold chkC at h
  split at h
  · rename_i hk
    split at h
    · cases h
    · have hc : x.kind = 1 ∨ x.kind = 2 ∨ x.kind = 3 ∨ x.kind = 4 ∨ x.kind = 5 ∨ x.kind = 6 ∨ x.kind = 7 ∨ x.kind = 8 ∨ x.kind = 9 ∨ x.kind = 10 ∨ x.kind = 11 ∨ x.kind = 12 := by omega
      rcases hc with e | e | e | e | e | e | e | e | e | e | e | e
      · rw [if_pos e] at h
        unfold chkX at h
        split at h
        · split at h
          · rename_i h1 h2
            refine ⟨?_, fun _ => chkL_ok h2, fun _ => chkL_ok h, fun h8 => ?_⟩ <;> (rw [e] at hf; simp [fsL] at hf; omega)
          · rename_i h1 h2; exact absurd h h2
        · rename_i h1; exact absurd h h1
      all_goals try (first | (exfalso; rw [e] at hf; simp [fsL] at hf; done) | (refine ⟨?_, fun h8 => ?_, fun h8 => ?_, fun h8 => ?_⟩ <;> (rw [e] at hf; simp [fsL] at hf; omega)))
      · rw [if_neg (by omega), if_neg (by omega), if_pos e] at h
        unfold chkZ at h
        refine ⟨?_, fun h8 => ?_, fun h8 => ?_, fun h8 => ?_⟩
        · rw [e] at hf; simp [fsL] at hf; omega
        · rw [e] at hf; simp [fsL] at hf; omega
        · rw [e] at hf; simp [fsL] at hf; omega
        · split at h
          · cases h
          · omega
  · cases h
theorem CBx.move {w w1 w2 : World} {b B : Nat} {x : CG} (h : CBx w w1 b x) (hx : CGok w x) (hb : Below B w1 w2) (hB : b < B) (hw : w.heap.size ≤ B) : CBx w w2 b x :=
  ⟨h.row.below hb hB, hx.below (h.low.trans (hb.mono hw)), h.low.trans (hb.mono hw)⟩

theorem fsL_le5 (k : Nat) : (fsL k).length ≤ 5 := by unfold fsL; split <;> decide
theorem lsB_len {ds : List BL} (h : ds.length ≤ 32 ∧ ∀ s ∈ ds, s.length ≤ 256) : (lsB ds).length ≤ 1000100 := by
  unfold lsB
  have h1 := txsB_len (M := 256) ds h.2
  have h2 : ds.length * (256 + 2) ≤ 32 * 258 := Nat.mul_le_mul_right _ h.1
  rw [List.length_append, leB_len]
  omega
theorem fldB_len {x : CG} {f : Nat} (h : OkF x f) (hp : x.path.length ≤ 1000000) : (fldB x f).length ≤ 1000100 := by
  unfold fldB
  split
  · rw [txB_len]; omega
  · split
    · rename_i h6; exact lsB_len (h.argv h6)
    · split
      · rename_i h7; exact lsB_len (h.env h7)
      · split
        · rename_i h8; have := h.bytes h8; rw [txB_len]; omega
        · rw [leB_len]; omega
theorem fldsB_len {x : CG} : ∀ l : List Nat, (∀ f ∈ l, (fldB x f).length ≤ 1000100) → (fldsB x l).length ≤ l.length * 1000100
  | [], _ => by simp [fldsB]
  | f :: l, h => by
    have h1 := fldsB_len l (fun y hy => h y (List.mem_cons_of_mem _ hy))
    have h2 := h f (List.mem_cons_self ..)
    have e : fldsB x (f :: l) = fldB x f ++ fldsB x l := by simp [fldsB]
    rw [e, List.length_append, List.length_cons, Nat.add_mul]
    omega
theorem own_kind (k : Nat) (hk : k < 256) (w : World) : OwnBy (w.alloc (.cells #[.int .u8 k] 5)) w.heap.size (.slice (some ⟨w.heap.size, 0, none⟩) 1 1) [UInt8.ofNat k] := by
  have h := World.ownsRow_lit (base := w.heap.size) (e := 5) (size := 1) w #[.int .u8 k] 1 (Nat.le_refl _) (by unfold maxLen; omega) rfl
  have e : B8 (UInt8.ofNat k) = .int .u8 k := by unfold B8; rw [UInt8.toNat_ofNat_of_lt' (by simpa using hk)]
  show World.ownsRow _ _ _ _ _ 1 [B8 (UInt8.ofNat k)]
  rw [e]
  exact h
theorem own_size {w : World} {base n : Nat} {E : TypeId} {v : Value} {xs : List Value} (h : w.ownsRow base E 1 v n xs) (hn : 0 < n) : base ≤ w.heap.size := by
  obtain ⟨G, c, _, _, h1, h2, _⟩ := own_open h hn
  omega
theorem own_form {w : World} {base : Nat} {v : Value} {x : CG} {l : List Nat} (h : OwnBy w base v ([UInt8.ofNat x.kind] ++ fldsB x l)) (e : l = fsL x.kind) : OwnBy w base v (formB x) := by
  subst e
  exact h
def FormP (x : CG) (w : World) (e : Ending) (w' : World) : Prop := Below w.heap.size w w' ∧ (if chkC x = 0 then ∃ v, e = .returned (.tuple #[v, .int .i64 0]) ∧ OwnBy w' w.heap.size v (formB x) else e = .returned (.tuple #[.slice none 0 0, .int .i64 (chkC x)]))

set_option maxRecDepth 100000 in
set_option maxHeartbeats 4000000 in
theorem form25_any (x : CG) (w : World) (hs : Sizes w) (hx : CGok w x) (hp : x.path.length ≤ 1000000) (hg : 0 < w.heap.size) :
    Calls Tryd.prog 16 #[cgV x] w (FormP x w) := by
  have hbox := box_cg x
  obtain ⟨w1, hw1⟩ : ∃ w1, w1 = w.alloc (.cells (cgC x).toArray 26) := ⟨_, rfl⟩
  have HC := hid (show CBx w w1 w.heap.size x by rw [hw1]; exact CBx.new hx)
  have hsz1 : w1.heap.size = w.heap.size + 1 := by rw [hw1, World.size_alloc]
  have HSZ := hid hsz1
  have HW := hid hw1
  have HX := hid hx
  have HS := hid hs
  have HG := hid hg
  have HP := hid hp
  clear hw1 hx hs hg hp hsz1
  obtain ⟨c0, c1, c2, c3, c4, c5, c6, c7, c8, c9⟩ := HC.out.cells
  go_enter Tryd.func16, Tryd.ntmps16
  go_wp2_with fail
  rw [← HW.out]
  refine (check25_any x w1 HC.out.ok HP.out).mono ?_
  rintro e' w2 ⟨rfl, hb2⟩
  have HB2 := hid hb2
  have HC2 := hid (HC.out.below hb2)
  clear hb2 c0 c1 c2 c3 c4 c5 c6 c7 c8 c9
  by_cases hc : chkC x = 0
  · have HCK := hid hc
    rw [hc]
    have c0 := HC2.out.c0
    obtain ⟨w3, hw3⟩ : ∃ w3, w3 = w2.alloc (.cells #[.int .u8 x.kind] 5) := ⟨_, rfl⟩
    have HW3 := hid hw3
    have HO3 := hid (show OwnBy w3 w2.heap.size (.slice (some ⟨w2.heap.size, 0, none⟩) 1 1) [UInt8.ofNat x.kind] by rw [hw3]; exact own_kind x.kind HX.out.kind w2)
    have HC3 := hid (show CBx w w3 w.heap.size x by rw [hw3]; exact HC2.out.below (bal _))
    have hsz3 : w3.heap.size = w2.heap.size + 1 := by rw [hw3, World.size_alloc]
    have HSZ3 := hid hsz3
    have hkk : 1 ≤ x.kind ∧ x.kind ≤ 12 := by
      unfold chkC at hc
      split at hc
      · assumption
      · cases hc
    have HKD := hid (fun w' => kinds_yes x.kind hkk w')
    have h0 := HC3.out.ten
    have HOKF := hid (fun f hf => okF_of (x := x) (f := f) hc hf)
    obtain ⟨B, hB⟩ : ∃ B, B = w2.heap.size := ⟨_, rfl⟩
    have HB := hid (show w.heap.size < B by rw [hB]; have := HC2.out.row.lt; exact this)
    clear hw3 hc hkk hsz3
    go_wp2_with fail
    rw [← HW3.out]
    go_region_held3 (St w3) (first | exact St.drew _ | exact St.step (by assumption) hbx | assumption) ((go_at_call 30; with_reducible refine ((HKD.out _).mono ?_); rintro e' wx ⟨m, g, rfl, hbx, hrow, hg, hlk2, hlk⟩; have HROW := hid hrow; have HS11 : Hid (St w3 wx) := hid (St.step (by assumption) hbx); clear hrow hg hlk2))
    have HCX := hid (HC3.out.below (HS11.out))
    have HOX := hid (show OwnBy wx B _ _ by rw [hB]; exact own_below HO3.out HS11.out)
    have HBX := hid (show Below w.heap.size w wx from HCX.out.low)
    clear h0 hlk hbx HKD HS11
    go_wp2_with fail
    go_loopw [5, 21] (fun v i wr => ∃ k : Nat, k ≤ (fsL x.kind).length ∧ i = .int .i64 k ∧ OwnBy wr B v ([UInt8.ofNat x.kind] ++ fldsB x ((fsL x.kind).take k)) ∧ CBx w wr w.heap.size x ∧ Row wr g 57 ((fsL x.kind).map fv)) (fun _ i _ => (fsL x.kind).length - (intOf i).toNat)
    case atStart => exact ⟨0, Nat.zero_le _, rfl, HOX.out, HCX.out, HROW.out⟩
    case round =>
      obtain ⟨k, hk, rfl, hown, hcx, hrow⟩ := hrel
      rename World => wA
      have HO := hid hown
      have HCA := hid hcx
      have HRA := hid hrow
      have HBz := hid (own_size hown (by simp))
      clear hown hcx hrow
      have h5 := fsL_le5 x.kind
      by_cases hlt : k < (fsL x.kind).length
      · have d1 : decide ((k : Int) < ((fsL x.kind).length : Int)) = true := by simp; omega
        have d1n : decide (k < (fsL x.kind).length) = true := by simp; omega
        have hx : wA.cell? ⟨g, k, none⟩ = some (fv (fsL x.kind)[k]) := by rw [HRA.out.cell' k]; simp [hlt]
        have HOK := hid (HOKF.out _ (List.getElem_mem hlt))
        have HNT := hid (fldsB_take (x := x) hlt)
        have hml : (fldsB x ((fsL x.kind).take k)).length ≤ 5 * 1000100 := Nat.le_trans (fldsB_len _ (fun f hf => fldB_len (HOKF.out f (List.mem_of_mem_take hf)) HP.out)) (Nat.mul_le_mul_right _ (by rw [List.length_take]; omega))
        have HAS := hid (List.append_assoc [UInt8.ofNat x.kind] (fldsB x ((fsL x.kind).take k)) (fldB x (fsL x.kind)[k]))
        have hl8 : ([UInt8.ofNat x.kind] ++ fldsB x ((fsL x.kind).take k)).length ≤ 100000000 := by rw [List.length_append]; simp only [List.length_cons, List.length_nil]; omega
        have hl10 : ([UInt8.ofNat x.kind] ++ fldsB x ((fsL x.kind).take k)).length ≤ 10000000000 := by omega
        generalize (fsL x.kind)[k] = f at *
        generalize [UInt8.ofNat x.kind] ++ fldsB x ((fsL x.kind).take k) = l1 at *
        clear hml
        by_cases e5 : f = 5
        · subst e5
          rw [fldB_5] at HNT HAS
          have HPX := hid (putText_any B _ _ x.path wA (HS.out.belowB HCA.out.low HG.out) HO.out HBz.out hl10 (by have := HP.out; omega) (Nat.lt_trans HG.out HB.out))
          have c6 := HCA.out.c6
          clear hl8 hl10
          obtain ⟨ua, uc, rfl⟩ := own_hd2 HO.out
          go_wp2_with fail
          refine HPX.out.mono ?_
          rintro e' w5 ⟨v5, rfl, ho5, hb5, hk5⟩
          have HO5 := hid ho5
          have HC5 := hid (HCA.out.move HX.out hb5 HB.out (Nat.le_of_lt HB.out))
          have HR5 := hid (hk5 _ _ _ (by decide) HRA.out)
          obtain ⟨v5a, v5c, rfl⟩ := own_hd2 ho5
          clear ho5 hb5 hk5
          go_wp2_with fail
          go_roundw
          case rel => exact ⟨k + 1, by omega, by go_num, by rw [HNT.out, ← HAS.out, ← List.length_append]; exact HO5.out, HC5.out, HR5.out⟩
          case measure => simp [intOf]; omega
        by_cases e6 : f = 6
        · subst e6
          rw [fldB_6] at HNT HAS
          have HPX := hid (putTexts_any B _ _ x.va x.vc x.argv wA (HS.out.belowB HCA.out.low HG.out) HO.out (fun w' hb => (HX.out.below (HCA.out.low.trans (hb.mono (Nat.le_of_lt HB.out)))).argv) HBz.out hl8 (by have := (HOK.out.argv rfl).1; omega) (fun p hp => Nat.le_trans ((HOK.out.argv rfl).2 p hp) (by decide)) (Nat.lt_trans HG.out HB.out))
          have c7 := HCA.out.c7
          clear hl8 hl10
          obtain ⟨ua, uc, rfl⟩ := own_hd2 HO.out
          go_wp2_with fail
          refine HPX.out.mono ?_
          rintro e' w5 ⟨v5, rfl, ho5, hb5, hk5⟩
          have HO5 := hid ho5
          have HC5 := hid (HCA.out.move HX.out hb5 HB.out (Nat.le_of_lt HB.out))
          have HR5 := hid (hk5 _ _ _ (by decide) HRA.out)
          obtain ⟨v5a, v5c, rfl⟩ := own_hd2 ho5
          clear ho5 hb5 hk5
          go_wp2_with fail
          go_roundw
          case rel => exact ⟨k + 1, by omega, by go_num, by rw [HNT.out, ← HAS.out, ← List.length_append]; exact HO5.out, HC5.out, HR5.out⟩
          case measure => simp [intOf]; omega
        by_cases e7 : f = 7
        · subst e7
          rw [fldB_7] at HNT HAS
          have HPX := hid (putTexts_any B _ _ x.ea x.ec x.env wA (HS.out.belowB HCA.out.low HG.out) HO.out (fun w' hb => (HX.out.below (HCA.out.low.trans (hb.mono (Nat.le_of_lt HB.out)))).env) HBz.out hl8 (by have := (HOK.out.env rfl).1; omega) (fun p hp => Nat.le_trans ((HOK.out.env rfl).2 p hp) (by decide)) (Nat.lt_trans HG.out HB.out))
          have c8 := HCA.out.c8
          clear hl8 hl10
          obtain ⟨ua, uc, rfl⟩ := own_hd2 HO.out
          go_wp2_with fail
          refine HPX.out.mono ?_
          rintro e' w5 ⟨v5, rfl, ho5, hb5, hk5⟩
          have HO5 := hid ho5
          have HC5 := hid (HCA.out.move HX.out hb5 HB.out (Nat.le_of_lt HB.out))
          have HR5 := hid (hk5 _ _ _ (by decide) HRA.out)
          obtain ⟨v5a, v5c, rfl⟩ := own_hd2 ho5
          clear ho5 hb5 hk5
          go_wp2_with fail
          go_roundw
          case rel => exact ⟨k + 1, by omega, by go_num, by rw [HNT.out, ← HAS.out, ← List.length_append]; exact HO5.out, HC5.out, HR5.out⟩
          case measure => simp [intOf]; omega
        by_cases e8 : f = 8
        · subst e8
          rw [fldB_8] at HNT HAS
          have HPX := hid (putText_any B _ _ x.bytes wA (HS.out.belowB HCA.out.low HG.out) HO.out HBz.out hl10 (by have := HOK.out.bytes rfl; omega) (Nat.lt_trans HG.out HB.out))
          have c9 := HCA.out.c9
          have hcv : (convert 24 9 (.slice x.ya x.bytes.length x.yc)).run Tryd.prog wA = .ok (.string (ba x.bytes)) wA := HCA.out.ok.bytes.str 24 9 5 x.yc Tryd.underlying24 Tryd.underlying5 Tryd.underlying9
          clear hl8 hl10
          obtain ⟨ua, uc, rfl⟩ := own_hd2 HO.out
          go_wp2_with fail
          refine HPX.out.mono ?_
          rintro e' w5 ⟨v5, rfl, ho5, hb5, hk5⟩
          have HO5 := hid ho5
          have HC5 := hid (HCA.out.move HX.out hb5 HB.out (Nat.le_of_lt HB.out))
          have HR5 := hid (hk5 _ _ _ (by decide) HRA.out)
          obtain ⟨v5a, v5c, rfl⟩ := own_hd2 ho5
          clear ho5 hb5 hk5
          go_wp2_with fail
          go_roundw
          case rel => exact ⟨k + 1, by omega, by go_num, by rw [HNT.out, ← HAS.out, ← List.length_append]; exact HO5.out, HC5.out, HR5.out⟩
          case measure => simp [intOf]; omega
        have hf5 : f < 5 := by have := HOK.out.lt; omega
        rw [fldB_n hf5] at HNT HAS
        have b5 : decide ((f : Int) = 5) = false := by simp; omega
        have b6 : decide ((f : Int) = 6) = false := by simp; omega
        have b7 : decide ((f : Int) = 7) = false := by simp; omega
        have b8 : decide ((f : Int) = 8) = false := by simp; omega
        have HPX := hid (fun n => putNumber_any B _ _ 8 (nmN x f) 8 rfl (wA.drewN n) (HS.out.belowB (bdN HCA.out.low n) HG.out) (own_below HO.out (bdN (Below.refl _ wA) n)) HBz.out (by decide) (by omega) (Nat.lt_trans HG.out HB.out))
        have HCF := hid (fun n => show (wA.drewN n).cell? ⟨w.heap.size, 1 + f, none⟩ = some (.int .u64 (nmN x f)) from (HCA.out.row.cell' (1 + f)).trans (nm_cell x f hf5))
        clear hl8 hl10
        obtain ⟨ua, uc, rfl⟩ := own_hd2 HO.out
        go_wp2_with fail
        refine (number_any _ _ hf5 wA).mono ?_
        rintro e' w2 ⟨rfl, n, rfl⟩
        have hcf := HCF.out n
        go_wp2_with fail
        refine (HPX.out n).mono ?_
        rintro e' w5 ⟨v5, rfl, ho5, hb5, hk5⟩
        have HO5 := hid ho5
        have HC5 := hid (HCA.out.move HX.out (show Below B wA _ from ⟨hb5.os, hb5.tape, hb5.output, hb5.size, hb5.block⟩) HB.out (Nat.le_of_lt HB.out))
        have HR5 := hid (hk5 _ _ _ (by decide) (show Row (wA.drewN n) _ _ _ from ⟨HRA.out.heap⟩))
        obtain ⟨v5a, v5c, rfl⟩ := own_hd2 ho5
        clear ho5 hb5 hk5
        go_wp2_with fail
        go_roundw
        case rel => exact ⟨k + 1, by omega, by go_num, by rw [HNT.out, ← HAS.out, ← List.length_append]; exact HO5.out, HC5.out, HR5.out⟩
        case measure => simp [intOf]; omega
      · have d1 : decide ((k : Int) < ((fsL x.kind).length : Int)) = false := by simp; omega
        have d1n : decide (k < (fsL x.kind).length) = false := by simp; omega
        have HTT := hid (show (fsL x.kind).take k = fsL x.kind by rw [List.take_of_length_le (by omega)])
        have HFM := hid (own_form (own_from HO.out (Nat.le_of_lt HB.out)) HTT.out)
        have HFI := hid (fun (u : Value) (h : OwnBy wA w.heap.size u (formB x)) => show FormP x w (.returned (.tuple #[u, .int .i64 0])) wA from ⟨HCA.out.low, by rw [if_pos HCK.out]; exact ⟨_, rfl, h⟩⟩)
        go_wp2_with fail
        go_ret2
        exact HFI.out _ HFM.out
  · have HCK := hid hc
    have HF := hid (show FormP x w (.returned (.tuple #[.slice none 0 0, .int .i64 (chkC x)])) w2 from ⟨HC2.out.low, by rw [if_neg hc]⟩)
    have hn := bne_t hc
    have hn2 := beq_f hc
    clear hc
    generalize hr : chkC x = r at *
    clear hr HCK
    go_wp2_with fail
    go_ret2
    exact HF.out
end Go.Proofs.YtcbkikioapdbbaaDoor
