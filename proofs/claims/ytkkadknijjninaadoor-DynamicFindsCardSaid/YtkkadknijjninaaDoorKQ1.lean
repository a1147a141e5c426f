
/- Merged: Qa0 Qa1 Qa3. -/
import Derived.Test.YtkkadknijjninaaDoorLa1
import Derived.Test.YtkkadknijjninaaDoorG1
import Derived.Test.YtkkadknijjninaaDoorKE
import Derived.Maps.OwnSet
import Derived.Maps.Views
namespace Go.Proofs.YtkkadknijjninaaDoor
open Go.RowKit Go.Sort Go.WideMaps Go.Maps Go.WideShapes

/-- The last element under a key. -/
def lk {α : Type} (l : List (Int × α)) (k : Int) : Option α := (l.reverse.find? fun x => decide (x.1 = k)).map (·.2)
theorem lk_snoc {α : Type} (l : List (Int × α)) (x : Int × α) (k : Int) : lk (l ++ [x]) k = if x.1 = k then some x.2 else lk l k := by
  unfold lk
  rw [List.reverse_append, List.reverse_singleton, List.singleton_append, List.find?_cons]
  by_cases h : x.1 = k
  · simp [h]
  · simp [h]
theorem lk_mem {α : Type} {l : List (Int × α)} {k : Int} {a : α} (h : lk l k = some a) : (k, a) ∈ l := by
  unfold lk at h
  cases hf : l.reverse.find? (fun x => decide (x.1 = k)) with
  | none => rw [hf] at h; cases h
  | some x =>
    rw [hf] at h
    have h1 := List.find?_some hf
    have h2 := List.mem_of_find?_eq_some hf
    simp only [Option.map_some, Option.some.injEq, decide_eq_true_eq] at h h1
    rw [List.mem_reverse] at h2
    rw [← h1, ← h]
    exact h2

structure PU where
  several : Bool
  must : Int
  goes : Int
def puC (p : PU) : Value := .agg #[.bool p.several, .int .u64 p.must, .int .u64 p.goes]
def puZ : PU := ⟨false, 0, 0⟩
def puL : List (Int × PU) := [(1, ⟨true, 0, 0⟩), (2, ⟨false, 0, 23⟩), (4, ⟨false, 0, 6⟩), (5, ⟨false, 0, 10⟩), (6, ⟨false, 0, 4⟩), (7, ⟨false, 0, 8⟩), (8, ⟨false, 0, 7⟩), (9, ⟨false, 24, 0⟩), (10, ⟨false, 0, 5⟩), (11, ⟨false, 24, 0⟩), (14, puZ), (15, puZ), (20, ⟨false, 7, 0⟩), (23, ⟨false, 0, 2⟩), (29, puZ)]

/-- How elements lie in a map: as values, as data. -/
structure ME (α : Type) where
  rd : Value → Option (DataW Unit × List MemPlace)
  v : α → Value
  d : α → DataW Unit
  ok : ∀ a, rd (v a) = some (d a, [])
  inv : ∀ x a ps, rd x = some (d a, ps) → x = v a
def rdU (x : Value) : Option (DataW Unit × List MemPlace) := match x with
  | .int .u64 a => some (.lit (.int .u64 a), [])
  | _ => none
def meU : ME Int := ⟨rdU, fun a => .int .u64 a, fun a => .lit (.int .u64 a), fun a => rfl, fun x a ps h => by
  unfold rdU at h
  split at h
  · simp only [Option.some.injEq, Prod.mk.injEq, DataW.lit.injEq, Lit.int.injEq, true_and] at h
    rw [h.1]
  · cases h⟩
def rdP3 (l : List Value) : Option (DataW Unit × List MemPlace) := match l with
  | [.bool s, .int .u64 m, .int .u64 g] => some (.agg [.lit (.bool s), .lit (.int .u64 m), .lit (.int .u64 g)], [])
  | _ => none
def rdP (x : Value) : Option (DataW Unit × List MemPlace) := match x with
  | .agg cs => rdP3 cs.toList
  | _ => none
def meP : ME PU := ⟨rdP, puC, fun p => .agg [.lit (.bool p.several), .lit (.int .u64 p.must), .lit (.int .u64 p.goes)], fun a => rfl, fun x a ps h => by
  unfold rdP at h
  split at h
  · rename_i cs
    obtain ⟨l⟩ := cs
    simp only at h
    unfold rdP3 at h
    split at h
    · simp only [Option.some.injEq, Prod.mk.injEq, DataW.agg.injEq, List.cons.injEq, DataW.lit.injEq, Lit.int.injEq, Lit.bool.injEq, true_and, and_true] at h
      obtain ⟨⟨h1, h2, h3⟩, _⟩ := h
      rw [h1, h2, h3]
      rfl
    · cases h
  · cases h⟩
section
variable {α : Type} (E : ME α)
def mapM (l : List (Int × α)) : DataW Unit := l.foldl (fun D x => D.put (.int .u64 x.1) (E.d x.2)) (.map [])
theorem mapM_snoc (l : List (Int × α)) (x : Int × α) : mapM E (l ++ [x]) = (mapM E l).put (.int .u64 x.1) (E.d x.2) := by simp [mapM, List.foldl_append]
theorem mapM_is (l : List (Int × α)) : IsMap (mapM E l) := by
  rcases l.eq_nil_or_concat with rfl | ⟨e, s, rfl⟩
  · exact ⟨[], rfl⟩
  · rw [List.concat_eq_append, mapM_snoc]; exact (mapM_is e).put _ _
termination_by l.length
theorem mapM_at (n : Int) (z : DataW Unit) (l : List (Int × α)) : (mapM E l).atKey (.int .u64 n) z = (match lk l n with | some p => E.d p | none => z) := by
  rcases l.eq_nil_or_concat with rfl | ⟨e, s, rfl⟩
  · rfl
  · have ih := mapM_at n z e
    rw [List.concat_eq_append, mapM_snoc, lk_snoc]
    by_cases h : s.1 = n
    · rw [if_pos h, ← h, atKey_put_same (mapM_is E e) (by trivial)]
    · rw [if_neg h, atKey_put_other (by intro e; cases e; exact h rfl), ih]
termination_by l.length
theorem mapM_has (n : Int) (l : List (Int × α)) : Maps.has (mapM E l) (.int .u64 n) = (lk l n).isSome := by
  rcases l.eq_nil_or_concat with rfl | ⟨e, s, rfl⟩
  · rfl
  · have ih := mapM_has n e
    rw [List.concat_eq_append, mapM_snoc, lk_snoc]
    by_cases h : s.1 = n
    · rw [if_pos h, ← h, has_put_same (mapM_is E e) (by trivial)]; rfl
    · rw [if_neg h, has_put_other (by intro e; cases e; exact h rfl), ih]
termination_by l.length
end
theorem keyed64 : Keyed Tryd.prog 24 := int_keyed Tryd.underlying24
theorem key64 (n : Int) (h0 : 0 ≤ n) (h1 : n ≤ 18446744073709551615) : keyOf Tryd.prog 24 (.int .u64 n) = some (.int .u64 n) := keyOf_int_mk Tryd.underlying24 (by simp [Lit.wf, IntKind.min, IntKind.max, IntKind.signed, IntKind.bits]; omega)

/-- A map in memory. -/
def MM {α : Type} (E : ME α) (w : World) (m : Nat) (l : List (Int × α)) : Prop := w.ownsMap Tryd.prog 24 E.rd m l.length (mapM E l)
section
variable {α : Type} {E : ME α} {w w' : World} {m : Nat} {l : List (Int × α)}
theorem MM.made (w : World) : MM E (w.alloc (.map #[] 0)) w.heap.size [] := World.ownsMap_made _ _ _ _
theorem MM.lt (h : MM E w m l) : m < w.heap.size := World.ownsMap.lt h
theorem MM.same (h : MM E w m l) (e : w'.heap[m]? = w.heap[m]?) : MM E w' m l := by
  obtain ⟨es, clock, hm, F, hs, hD⟩ := h
  exact ⟨es, clock, e.trans hm, F, hs, hD⟩
theorem MM.below (h : MM E w m l) (hb : Below w.heap.size w w') : MM E w' m l := h.same (hb.block m h.lt)
theorem MM.put {tM tE : TypeId} (h : MM E w m l) (ht : Tryd.prog.underlying tM = some (.map 24 tE)) (n : Int) (h0 : 0 ≤ n) (h1 : n ≤ 18446744073709551615) (hl : l.length < maxLen) (p : α) :
    ∃ w', (Instr.mapUpdate tM (.map (some m)) (.int .u64 n) (E.v p)).run Tryd.prog w = .ok () w' ∧ MM E w' m (l ++ [(n, p)]) ∧ w.grownBy w' (some m) := by
  obtain ⟨w', g1, g2, g3⟩ := World.ownsMap.update h keyed64 ht hl (key64 n h0 h1) (E.ok p)
  refine ⟨w', g1, ?_, g3⟩
  unfold MM
  rw [mapM_snoc, List.length_append]
  exact g2
theorem MM.look {tM tE : TypeId} (h : MM E w m l) (ht : Tryd.prog.underlying tM = some (.map 24 tE)) (z : α) (hz : (zeroValue tE).run Tryd.prog w = .ok (E.v z) w) (n : Int) (h0 : 0 ≤ n) (h1 : n ≤ 18446744073709551615) :
    (Instr.lookup tM (.map (some m)) (.int .u64 n) true).run Tryd.prog w = .ok (.tuple #[E.v ((lk l n).getD z), .bool (lk l n).isSome]) w := by
  obtain ⟨v, ps, hrun, hv⟩ := World.ownsMap.look_ok h keyed64 ht hz (E.ok z) (key64 n h0 h1)
  rw [hrun, mapM_has]
  rw [mapM_at] at hv
  cases hl : lk l n with
  | none =>
    rw [hl] at hv
    rw [E.inv _ _ _ hv]
    rfl
  | some p =>
    rw [hl] at hv
    rw [E.inv _ _ _ hv]
    rfl
theorem MM.get {tM tE : TypeId} (h : MM E w m l) (ht : Tryd.prog.underlying tM = some (.map 24 tE)) (z : α) (hz : (zeroValue tE).run Tryd.prog w = .ok (E.v z) w) (n : Int) (h0 : 0 ≤ n) (h1 : n ≤ 18446744073709551615) :
    (Instr.lookup tM (.map (some m)) (.int .u64 n) false).run Tryd.prog w = .ok (E.v ((lk l n).getD z)) w := by
  obtain ⟨v, ps, hrun, hv⟩ := World.ownsMap.lookup h keyed64 ht hz (E.ok z) (key64 n h0 h1)
  rw [hrun]
  rw [mapM_at] at hv
  cases hl : lk l n with
  | none =>
    rw [hl] at hv
    rw [E.inv _ _ _ hv]
    rfl
  | some p =>
    rw [hl] at hv
    rw [E.inv _ _ _ hv]
    rfl
end
theorem zeroU (w : World) : (zeroValue 24).run Tryd.prog w = .ok (meU.v 0) w := by kernel_rfl
theorem zeroP (w : World) : (zeroValue 118).run Tryd.prog w = .ok (meP.v puZ) w := by kernel_rfl

/-- A stretch of addresses in a load. -/
def inL (addr size : Int) (x : SG) : Bool := decide (x.addr ≤ addr) && insB (addr - x.addr) size x.fsz
def laidX (n size : Int) (addr : Int) (x : SG) : Option Int := if addB x.off (addr - x.addr) = true ∧ insB (addV x.off (addr - x.addr)) size n = true then some (addV x.off (addr - x.addr)) else none
/-- Where a stretch of addresses lies in a file of n bytes. -/
def laidO (n : Int) (L : List SG) (addr size : Int) : Option Int := match L.find? (inL addr size) with
  | none => none
  | some x => laidX n size addr x
theorem laidO_in {n addr size at' : Int} {L : List SG} (h : laidO n L addr size = some at') : 0 ≤ at' ∧ at' + size ≤ n := by
  unfold laidO at h
  split at h
  · cases h
  · unfold laidX at h
    split at h
    · rename_i hc
      cases h
      have h2 := hc.2
      unfold insB at h2
      simp only [decide_eq_true_eq] at h2
      refine ⟨?_, by omega⟩
      unfold addV
      split
      · omega
      · rw [IntKind.wrap_u64]; omega
    · cases h
end Go.Proofs.YtkkadknijjninaaDoor
namespace Go.Proofs.YtkkadknijjninaaDoor
open Go.RowKit Go.Sort Go.Shelf
attribute [local go_sem] Oper.semAt_some

theorem dl (w : World) {o : Obj} : Below w.heap.size w (w.alloc o) := bal o
theorem find_hit {α : Type} {p : α → Bool} {l : List α} {k : Nat} (hk : k < l.length) (h : (l.take k).any p = false) (hp : p l[k] = true) : l.find? p = some l[k] := by
  have e : l = l.take k ++ (l[k] :: l.drop (k + 1)) := by rw [← List.drop_eq_getElem_cons hk, List.take_append_drop]
  have hn : (l.take k).find? p = none := by
    rw [List.find?_eq_none]
    intro x hx
    rw [List.any_eq_false] at h
    exact h x hx
  rw [show l.find? p = (l.take k ++ (l[k] :: l.drop (k + 1))).find? p by rw [← e], List.find?_append, hn, List.find?_cons_of_pos hp]
  rfl
theorem find_miss {α : Type} {p : α → Bool} {l : List α} (h : l.any p = false) : l.find? p = none := by
  rw [List.find?_eq_none]
  intro x hx
  rw [List.any_eq_false] at h
  exact h x hx
theorem any_more {α : Type} {p : α → Bool} {l : List α} {k : Nat} (hk : k < l.length) (h : (l.take k).any p = false) (hp : p l[k] = false) : (l.take (k + 1)).any p = false := by
  rw [List.take_succ_eq_append_getElem hk, List.any_append, h]
  simp [hp]
def lres (R : Option Int) : Ending := .returned (.tuple #[.int .u64 (R.getD 0), .bool R.isSome])
set_option maxRecDepth 100000 in
set_option maxHeartbeats 8000000 in
theorem laid_any (ab : Option Addr) (len cap : Nat) (la : Option Addr) (lc : Nat) (L : List SG) (addr size : Int) (w : World) (hl : len ≤ 1000000000) (hS : Sgs w la L.length L) (hn : L.length ≤ 1000000000) (hok : ∀ s ∈ L, SGok s) (ha0 : 0 ≤ addr) (ha1 : addr ≤ 18446744073709551615) (hs0 : 0 ≤ size) :
    Calls Tryd.prog 64 #[.agg #[.slice ab len cap, .slice la L.length lc], .int .u64 addr, .int .u64 size] w fun e w' => e = lres (laidO len L addr size) ∧ Below w.heap.size w w' := by
  obtain ⟨W, hW⟩ : ∃ W, W = w.alloc (.cells #[.slice ab len cap, .slice la L.length lc] 90) := ⟨_, rfl⟩
  have HW := hid hW
  have HLOW := hid (show Below w.heap.size w W by rw [hW]; exact bal _)
  have HROW := hid (show Row W w.heap.size 90 [.slice ab len cap, .slice la L.length lc] by rw [hW]; exact Row.new _ _ _)
  have HS := hid (hS.below' HLOW.out)
  have HOK := hid hok
  have HA := hid (show 0 ≤ addr ∧ addr ≤ 18446744073709551615 from ⟨ha0, ha1⟩)
  have HZ := hid hs0
  have HN := hid hn
  obtain ⟨R, hR⟩ : ∃ R, R = laidO len L addr size := ⟨_, rfl⟩
  rw [← hR]
  have HR := hid hR
  have w0 := HROW.out.cell' 0
  have w1 := HROW.out.cell' 1
  clear hW hS hok hR ha0 ha1 hs0
  have ewl := IntWalk.u64_in (len : Int) ⟨by omega, by omega⟩
  go_enter Tryd.func64, Tryd.ntmps64
  go_wp2_with fail
  rw [← HW.out]
  go_wp2_with fail
  clear w0 w1
  go_loopw [15] (fun i wr => ∃ k : Nat, k ≤ L.length ∧ i = .int .i64 k ∧ (L.take k).any (inL addr size) = false ∧ Below W.heap.size W wr) (fun i _ => L.length - (intOf i).toNat)
  case atStart => exact ⟨0, Nat.zero_le _, rfl, rfl, Below.refl _ _⟩
  case round =>
    obtain ⟨k, hk, rfl, hno, hb⟩ := hrel
    have HB := hid hb
    have HNO := hid hno
    clear hno
    by_cases hlt : k < L.length
    rotate_left
    · have d1 : decide ((k : Int) < (L.length : Int)) = false := by simp; omega
      have d1n : decide (k < L.length) = false := by simp; omega
      have HF := hid (show R = none by
        obtain rfl : k = L.length := by omega
        have := HNO.out
        rw [List.take_length] at this
        rw [HR.out]
        unfold laidO
        rw [find_miss this])
      go_wp2_with fail
      go_ret2
      exact ⟨by rw [HF.out]; rfl, HLOW.out.trans (HB.out.mono HLOW.out.size)⟩
    have d1 : decide ((k : Int) < (L.length : Int)) = true := by simp; omega
    have d1n : decide (k < L.length) = true := by simp; omega
    obtain ⟨b, off, rfl, x0, x1, x2, x3, x4, x5⟩ := (HS.out.below' hb).cells hlt
    have HRR := hid (HROW.out.below hb HROW.out.lt)
    have y0 := HRR.out.cell' 0
    have y1 := HRR.out.cell' 1
    have hbl := World.block_lt_of_cell? wr _ x0
    have hsl := World.block_lt_of_cell? wr _ y1
    have HXO := hid (HOK.out _ (List.getElem_mem hlt))
    have HANY := hid (fun (h : inL addr size L[k] = true) => show R = laidX len size addr L[k] by rw [HR.out]; unfold laidO; rw [find_hit hlt HNO.out h])
    have HNXT := hid (fun (h : inL addr size L[k] = false) => any_more hlt HNO.out h)
    generalize L[k] = x at *
    have HBA := hid (fun o => HB.out.alloc HB.out.size o)
    have HFB := hid (fun o => HLOW.out.trans ((HBA.out o).mono HLOW.out.size))
    have xa0 := HXO.out.a0
    have ha := HA.out
    clear hb
    by_cases h1 : x.addr ≤ addr
    rotate_left
    · have e1 : decide (x.addr ≤ addr) = false := by simp; omega
      have HF := hid (show inL addr size x = false by unfold inL; rw [e1]; rfl)
      clear h1
      go_wp2_with fail
      go_roundw
      case rel => exact ⟨k + 1, by omega, by go_num, HNXT.out HF.out, HBA.out _⟩
      case measure => simp [intOf]; omega
    have e1 : decide (x.addr ≤ addr) = true := by simp; omega
    have ew := IntWalk.u64_in (addr - x.addr) ⟨by omega, by omega⟩
    have HI := hid (fun wx => inside_any (addr - x.addr) size x.fsz wx HZ.out HXO.out.z1)
    have HIN := hid (show ∀ b2, insB (addr - x.addr) size x.fsz = b2 → inL addr size x = b2 from by
      intro b2 h2
      unfold inL
      rw [e1, h2]
      rfl)
    clear h1
    go_wp2_with fail
    refine (HI.out _).mono ?_
    rintro e' w6 ⟨rfl, rfl⟩
    cases h2 : insB (addr - x.addr) size x.fsz
    · have H2 := hid h2
      clear h2
      go_wp2_with fail
      go_roundw
      case rel => exact ⟨k + 1, by omega, by go_num, HNXT.out (HIN.out _ H2.out), HBA.out _⟩
      case measure => simp [intOf]; omega
    have HT := hid (HANY.out (HIN.out _ h2))
    clear h2
    go_wp2_with fail
    refine (add_any x.off (addr - x.addr) _).mono ?_
    rintro e' w7 ⟨rfl, rfl⟩
    cases h3 : addB x.off (addr - x.addr)
    · have HF := hid (show R = none by rw [HT.out]; unfold laidX; rw [h3]; simp)
      clear h3
      go_wp2_with fail
      go_ret2
      exact ⟨by rw [HF.out]; rfl, HFB.out _⟩
    have H3 := hid h3
    have HI2 := hid (fun wx => inside_any (addV x.off (addr - x.addr)) size (len : Int) wx HZ.out (by omega))
    generalize hv : addV x.off (addr - x.addr) = v at *
    have HV := hid hv
    clear h3 hv
    go_wp2_with fail
    refine (HI2.out _).mono ?_
    rintro e' w8 ⟨rfl, rfl⟩
    cases h4 : insB v size (len : Int)
    · have HF := hid (show R = none by rw [HT.out]; unfold laidX; rw [HV.out, h4]; simp)
      clear h4
      go_wp2_with fail
      go_ret2
      exact ⟨by rw [HF.out]; rfl, HFB.out _⟩
    have HF := hid (show R = some v by rw [HT.out]; unfold laidX; rw [HV.out, h4, H3.out]; simp)
    clear h4
    go_wp2_with fail
    go_ret2
    exact ⟨by rw [HF.out]; rfl, HFB.out _⟩
theorem number_any (a : Option Addr) (len cap : Nat) (p n : Int) (l : BL) (w : World) (hs : Sizes w) (hl : len ≤ 9223372036854775807) (hB : Byt w a len l) (hp : 0 ≤ p) :
    Calls Tryd.prog 63 #[.slice a len cap, .int .u64 p, .int .i64 n] w fun e w' => e = .returned (.int .u64 (wgetV l p n)) ∧ w = w' := by
  have HG := hid (get_any a len cap p n l w hs hl hB hp)
  clear hs hB hl
  go_enter Tryd.func63, Tryd.ntmps63
  go_wp2_with fail
  refine HG.out.mono ?_
  rintro e' w1 ⟨rfl, rfl⟩
  go_wp2_with fail
  go_ret
  exact ⟨rfl, rfl⟩
end Go.Proofs.YtkkadknijjninaaDoor
namespace Go.Proofs.YtkkadknijjninaaDoor
open Go.RowKit Go.Sort Go.Shelf
attribute [local go_sem] Oper.semAt_some

theorem wget1 {l : BL} {p : Int} : wgetV l p 1 ≤ 255 := by
  unfold wgetV
  split
  · have h1 := le_lt ((l.drop p.toNat).take (1 : Int).toNat)
    have h2 : ((l.drop p.toNat).take (1 : Int).toNat).length ≤ 1 := by rw [List.length_take]; omega
    have h3 : 256 ^ ((l.drop p.toNat).take (1 : Int).toNat).length ≤ 256 ^ 1 := Nat.pow_le_pow_right (by omega) h2
    omega
  · omega
theorem wget_u {l : BL} {p n : Int} : 0 ≤ wgetV l p n := by
  unfold wgetV
  split <;> omega
theorem wget_lt {l : BL} {p n : Int} : wgetV l p n < 256 ^ n.toNat := by
  unfold wgetV
  split
  · have h1 := le_lt ((l.drop p.toNat).take n.toNat)
    have h2 : 256 ^ ((l.drop p.toNat).take n.toNat).length ≤ 256 ^ n.toNat := Nat.pow_le_pow_right (by omega) (by rw [List.length_take]; omega)
    have h3 : ((le ((l.drop p.toNat).take n.toNat) : Nat) : Int) < ((256 ^ n.toNat : Nat) : Int) := by omega
    simpa using h3
  · have : 0 < 256 ^ n.toNat := Nat.pos_of_ne_zero (by simp)
    have h3 : (0 : Int) < ((256 ^ n.toNat : Nat) : Int) := by omega
    simpa using h3
theorem wg8 {l : BL} {p : Int} : wgetV l p 8 ≤ 18446744073709551615 := by have := @wget_lt l p 8; simp at this; omega
theorem wg4 {l : BL} {p : Int} : wgetV l p 4 ≤ 4294967295 := by have := @wget_lt l p 4; simp at this; omega

/-- An entry, as bytes say it. -/
def entG (l : BL) (p : Int) : Int × Int := (wgetV l p 8, wgetV l (p + 8) 8)
def entC (x : Int × Int) : List Value := [.int .u64 x.1, .int .u64 x.2]
set_option maxHeartbeats 1000000 in
theorem entryAt_any (a : Option Addr) (len cap : Nat) (p : Int) (l : BL) (w : World) (hs : Sizes w) (hl : len ≤ 9223372036854775807) (hB : Byt w a len l) (hp : 0 ≤ p) (hp2 : p ≤ 1000000000000) :
    Calls Tryd.prog 49 #[.slice a len cap, .int .u64 p] w fun e w' => e = .returned (.agg #[.int .u64 (entG l p).1, .int .u64 (entG l p).2]) ∧ Below w.heap.size w w' := by
  obtain ⟨W, hW⟩ : ∃ W, W = w.alloc (.cells #[.int .u64 0, .int .u64 0] 113) := ⟨_, rfl⟩
  have HW := hid hW
  have HLOW := hid (show Below w.heap.size w W by rw [hW]; exact bal _)
  have HROW := hid (show Row W w.heap.size 113 [.int .u64 0, .int .u64 0] by rw [hW]; exact Row.new _ _ _)
  have HN := hid (fun q (hq : 0 ≤ q) => number_any a len cap q 8 l W (hs.below HLOW.out) hl (hB.below' HLOW.out) hq)
  have HP := hid hp
  have ew := IntWalk.u64_in (p + 8) ⟨by omega, by omega⟩
  have y0 := HROW.out.cell' 0
  have y1 := HROW.out.cell' 1
  have f0 := HROW.out.frozen 0
  have f1 := HROW.out.frozen 1
  have hlt := HROW.out.lt
  have HX := hid (show entG l p = (wgetV l p 8, wgetV l (p + 8) 8) from rfl)
  rw [HX.out]
  clear hW hs hB hl
  go_enter Tryd.func49, Tryd.ntmps49
  go_wp2_with fail
  rw [← HW.out]
  refine (HN.out p HP.out).mono ?_
  rintro e' w1 ⟨rfl, rfl⟩
  generalize hx0 : wgetV l p 8 = x0
  have HX0 := hid hx0
  clear hx0
  go_wp2_with fail
  refine (HN.out (p + 8) (by have := HP.out; omega)).mono ?_
  rintro e' w1 ⟨rfl, rfl⟩
  generalize hx1 : wgetV l (p + 8) 8 = x1
  have HX1 := hid hx1
  clear hx1
  go_wp2_with fail
  refine bodyPost_ret (v := .agg #[.int .u64 x0, .int .u64 x1]) (by simp [results, Tryd.results49, Tryd.f49, go_sem, y0, y1, hlt]) rfl ⟨by rw [HX0.out, HX1.out], ?_⟩
  exact bset (bset HLOW.out (Nat.le_refl _) _) (Nat.le_refl _) _
theorem linkAt_any (a : Option Addr) (len cap : Nat) (p : Int) (l : BL) (w : World) (hs : Sizes w) (hl : len ≤ 9223372036854775807) (hB : Byt w a len l) (hp : 0 ≤ p) :
    Calls Tryd.prog 66 #[.slice a len cap, .int .u64 p] w fun e w' => e = .returned (.int .u64 (wgetV l p 4)) ∧ Below w.heap.size w w' := by
  have HN := hid (number_any a len cap p 4 l w hs hl hB hp)
  clear hs hB hl
  go_enter Tryd.func66, Tryd.ntmps66
  go_wp2_with fail
  refine HN.out.mono ?_
  rintro e' w1 ⟨rfl, rfl⟩
  go_wp2_with fail
  go_ret
  exact ⟨rfl, Below.refl _ _⟩
structure RSY where
  name : Int
  value : Int
  size : Int
  bind : Int
  deff : Bool
/-- A symbol, as bytes say it. -/
def symG (l : BL) (p : Int) : RSY := ⟨wgetV l p 4, wgetV l (p + 8) 8, wgetV l (p + 16) 8, wgetV l (p + 4) 1 / 16, wgetV l (p + 6) 2 != 0⟩
def symC (x : RSY) : List Value := [.int .u64 x.name, .string ⟨#[]⟩, .int .u64 x.value, .int .u64 x.size, .int .u8 x.bind, .bool x.deff]
set_option maxHeartbeats 2000000 in
theorem symAt_any (a : Option Addr) (len cap : Nat) (p : Int) (l : BL) (w : World) (hs : Sizes w) (hl : len ≤ 9223372036854775807) (hB : Byt w a len l) (hp : 0 ≤ p) (hp2 : p ≤ 1000000000000) :
    Calls Tryd.prog 68 #[.slice a len cap, .int .u64 p] w fun e w' => e = .returned (.agg (symC (symG l p)).toArray) ∧ Below w.heap.size w w' := by
  obtain ⟨W, hW⟩ : ∃ W, W = w.alloc (.cells #[.int .u64 0, .string ⟨#[]⟩, .int .u64 0, .int .u64 0, .int .u8 0, .bool false] 142) := ⟨_, rfl⟩
  have HW := hid hW
  have HLOW := hid (show Below w.heap.size w W by rw [hW]; exact bal _)
  have HROW := hid (show Row W w.heap.size 142 [.int .u64 0, .string ⟨#[]⟩, .int .u64 0, .int .u64 0, .int .u8 0, .bool false] by rw [hW]; exact Row.new _ _ _)
  have HN := hid (fun q n (hq : 0 ≤ q) => number_any a len cap q n l W (hs.below HLOW.out) hl (hB.below' HLOW.out) hq)
  have HP := hid hp
  have ew4 := IntWalk.u64_in (p + 4) ⟨by omega, by omega⟩
  have ew6 := IntWalk.u64_in (p + 6) ⟨by omega, by omega⟩
  have ew8 := IntWalk.u64_in (p + 8) ⟨by omega, by omega⟩
  have ew16 := IntWalk.u64_in (p + 16) ⟨by omega, by omega⟩
  obtain ⟨y0, y1, y2, y3, y4, y5⟩ := HROW.out.six
  have f0 := HROW.out.frozen 0
  have f1 := HROW.out.frozen 1
  have f2 := HROW.out.frozen 2
  have f3 := HROW.out.frozen 3
  have f4 := HROW.out.frozen 4
  have f5 := HROW.out.frozen 5
  have hlt := HROW.out.lt
  have HX := hid (show symG l p = ⟨wgetV l p 4, wgetV l (p + 8) 8, wgetV l (p + 16) 8, wgetV l (p + 4) 1 / 16, wgetV l (p + 6) 2 != 0⟩ from rfl)
  rw [HX.out]
  clear hW hs hB hl
  go_enter Tryd.func68, Tryd.ntmps68
  go_wp2_with fail
  rw [← HW.out]
  refine (HN.out p 4 HP.out).mono ?_
  rintro e' w1 ⟨rfl, rfl⟩
  generalize hx0 : wgetV l p 4 = x0
  have HX0 := hid hx0
  clear hx0
  go_wp2_with fail
  refine (HN.out (p + 4) 1 (by have := HP.out; omega)).mono ?_
  rintro e' w1 ⟨rfl, rfl⟩
  have hb0 : 0 ≤ wgetV l (p + 4) 1 := wget_u
  have hb1 : wgetV l (p + 4) 1 ≤ 255 := wget1
  generalize hx1 : wgetV l (p + 4) 1 = x1 at hb0 hb1 ⊢
  have HX1 := hid hx1
  clear hx1
  have eb := IntWalk.u8_in (x1 / 16) ⟨by omega, by omega⟩
  go_wp2_with fail
  refine (HN.out (p + 6) 2 (by have := HP.out; omega)).mono ?_
  rintro e' w1 ⟨rfl, rfl⟩
  generalize hx2 : wgetV l (p + 6) 2 = x2
  have HX2 := hid hx2
  clear hx2
  go_wp2_with fail
  refine (HN.out (p + 8) 8 (by have := HP.out; omega)).mono ?_
  rintro e' w1 ⟨rfl, rfl⟩
  generalize hx3 : wgetV l (p + 8) 8 = x3
  have HX3 := hid hx3
  clear hx3
  go_wp2_with fail
  refine (HN.out (p + 16) 8 (by have := HP.out; omega)).mono ?_
  rintro e' w1 ⟨rfl, rfl⟩
  generalize hx4 : wgetV l (p + 16) 8 = x4
  have HX4 := hid hx4
  clear hx4
  go_wp2_with fail
  refine bodyPost_ret (v := .agg (symC ⟨x0, x3, x4, x1 / 16, x2 != 0⟩).toArray) (by simp [results, Tryd.results68, Tryd.f68, go_sem, symC, y0, y1, y2, y3, y4, y5, hlt]) rfl ⟨by rw [HX0.out, HX1.out, HX2.out, HX3.out, HX4.out], ?_⟩
  exact bset (bset (bset (bset (bset (bset HLOW.out (Nat.le_refl _) _) (Nat.le_refl _) _) (Nat.le_refl _) _) (Nat.le_refl _) _) (Nat.le_refl _) _) (Nat.le_refl _) _
structure RLA where
  off : Int
  typ : Int
  sym : Int
  add : Int
/-- A relocation, as bytes say it. -/
def relG (l : BL) (p : Int) : RLA := ⟨wgetV l p 8, wgetV l (p + 8) 4, wgetV l (p + 12) 4, wrap64 (wgetV l (p + 16) 8)⟩
def relC (x : RLA) : List Value := [.int .u64 x.off, .int .u32 x.typ, .int .i64 x.sym, .int .i64 x.add]
set_option maxHeartbeats 2000000 in
theorem relaAt_any (a : Option Addr) (len cap : Nat) (p : Int) (l : BL) (w : World) (hs : Sizes w) (hl : len ≤ 9223372036854775807) (hB : Byt w a len l) (hp : 0 ≤ p) (hp2 : p ≤ 1000000000000) :
    Calls Tryd.prog 70 #[.slice a len cap, .int .u64 p] w fun e w' => e = .returned (.agg (relC (relG l p)).toArray) ∧ Below w.heap.size w w' := by
  obtain ⟨W, hW⟩ : ∃ W, W = w.alloc (.cells #[.int .u64 0, .int .u32 0, .int .i64 0, .int .i64 0] 49) := ⟨_, rfl⟩
  have HW := hid hW
  have HLOW := hid (show Below w.heap.size w W by rw [hW]; exact bal _)
  have HROW := hid (show Row W w.heap.size 49 [.int .u64 0, .int .u32 0, .int .i64 0, .int .i64 0] by rw [hW]; exact Row.new _ _ _)
  have HN := hid (fun q n (hq : 0 ≤ q) => number_any a len cap q n l W (hs.below HLOW.out) hl (hB.below' HLOW.out) hq)
  have HP := hid hp
  have ew8 := IntWalk.u64_in (p + 8) ⟨by omega, by omega⟩
  have ew12 := IntWalk.u64_in (p + 12) ⟨by omega, by omega⟩
  have ew16 := IntWalk.u64_in (p + 16) ⟨by omega, by omega⟩
  obtain ⟨y0, y1, y2, y3⟩ := HROW.out.four
  have f0 := HROW.out.frozen 0
  have f1 := HROW.out.frozen 1
  have f2 := HROW.out.frozen 2
  have f3 := HROW.out.frozen 3
  have hlt := HROW.out.lt
  have HX := hid (show relG l p = ⟨wgetV l p 8, wgetV l (p + 8) 4, wgetV l (p + 12) 4, wrap64 (wgetV l (p + 16) 8)⟩ from rfl)
  rw [HX.out]
  clear hW hs hB hl
  go_enter Tryd.func70, Tryd.ntmps70
  go_wp2_with fail
  rw [← HW.out]
  refine (HN.out p 8 HP.out).mono ?_
  rintro e' w1 ⟨rfl, rfl⟩
  generalize hx0 : wgetV l p 8 = x0
  have HX0 := hid hx0
  clear hx0
  go_wp2_with fail
  refine (HN.out (p + 8) 4 (by have := HP.out; omega)).mono ?_
  rintro e' w1 ⟨rfl, rfl⟩
  have ha0 : 0 ≤ wgetV l (p + 8) 4 := wget_u
  have ha1 : wgetV l (p + 8) 4 ≤ 4294967295 := wg4
  generalize hx1 : wgetV l (p + 8) 4 = x1 at ha0 ha1 ⊢
  have HX1 := hid hx1
  clear hx1
  have ea := IntWalk.u32_in x1 ⟨by omega, by omega⟩
  go_wp2_with fail
  refine (HN.out (p + 12) 4 (by have := HP.out; omega)).mono ?_
  rintro e' w1 ⟨rfl, rfl⟩
  have hb0 : 0 ≤ wgetV l (p + 12) 4 := wget_u
  have hb1 : wgetV l (p + 12) 4 ≤ 4294967295 := wg4
  generalize hx2 : wgetV l (p + 12) 4 = x2 at hb0 hb1 ⊢
  have HX2 := hid hx2
  clear hx2
  have eb := IntWalk.i64_in x2 ⟨by omega, by omega⟩
  go_wp2_with fail
  refine (HN.out (p + 16) 8 (by have := HP.out; omega)).mono ?_
  rintro e' w1 ⟨rfl, rfl⟩
  generalize hx3 : wgetV l (p + 16) 8 = x3
  have HX3 := hid hx3
  clear hx3
  go_wp2_with fail
  refine bodyPost_ret (v := .agg (relC ⟨x0, x1, x2, wrap64 x3⟩).toArray) (by simp [results, Tryd.results70, Tryd.f70, go_sem, relC, y0, y1, y2, y3, hlt]) rfl ⟨by rw [HX0.out, HX1.out, HX2.out, HX3.out], ?_⟩
  exact bset (bset (bset (bset HLOW.out (Nat.le_refl _) _) (Nat.le_refl _) _) (Nat.le_refl _) _) (Nat.le_refl _) _
end Go.Proofs.YtkkadknijjninaaDoor
