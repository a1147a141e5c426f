/- Rows: blocks of the call's own whose cells are all known; plain facts on bytes in memory. No program is named. -/
import Derived.WalkKit
import Derived.WalkSpells
import Derived.WalkLawsBesides
import Derived.Laws.CopyOwn
import Derived.Laws.IdiomStrings
namespace Go.Proofs.Ytgclemicgcbpjaa
open Go.RowKit

theorem hid {p : Prop} (h : p) : Hid p := h

theorem bdN {B : Nat} {a w : World} (h : Below B a w) (n : Nat) : Below B a (w.drewN n) := h.trans ⟨rfl, rfl, rfl, Nat.le_refl _, fun _ _ => rfl⟩
/-- Two steps, the second from the first's end. -/
theorem bthen {w w1 w2 : World} (h : Below w.heap.size w w1) (k : Below w1.heap.size w1 w2) : Below w.heap.size w w2 := h.trans (k.mono h.size)
theorem bthenN {w w1 w2 : World} {n : Nat} (h : Below w.heap.size w w1) (k : Below (w1.drewN n).heap.size (w1.drewN n) w2) : Below w.heap.size w w2 := (bdN h n).trans (k.mono h.size)

/-- Block g is a row of elements of type E, one cell each, with just these contents. -/
structure Row (w : World) (g : Nat) (E : TypeId) (cs : List Value) : Prop where
  heap : w.heap[g]? = some (.cells cs.toArray E (0, 0))

section
variable {w w' : World} {g : Nat} {E : TypeId} {cs : List Value}

theorem Row.lt (h : Row w g E cs) : g < w.heap.size := (Array.getElem?_eq_some_iff.1 h.heap).1
theorem Row.cell (h : Row w g E cs) (j : Nat) (hj : j < cs.length) : w.cell? ⟨g, j, none⟩ = some cs[j] := by
  rw [cell_of_row w g j _ E (0, 0) h.heap]
  simp [hj]
theorem Row.cell' (h : Row w g E cs) (j : Nat) : w.cell? ⟨g, j, none⟩ = cs[j]? := by
  rw [cell_of_row w g j _ E (0, 0) h.heap]
  simp
theorem Row.frozen (h : Row w g E cs) (j : Nat) : w.frozen? ⟨g, j, none⟩ = false := frozen_of_row w g j _ E h.heap
theorem Row.set (h : Row w g E cs) (j : Nat) (u : Value) : Row (w.setCell ⟨g, j, none⟩ u) g E (cs.set j u) := by
  refine ⟨?_⟩
  rw [heap_setCell_same w g j _ E u h.heap]
  simp
theorem Row.other (h : Row w g E cs) {a : Addr} (ha : g ≠ a.block) (u : Value) : Row (w.setCell a u) g E cs := ⟨by rw [heap_setCell_other w a g u ha]; exact h.heap⟩
theorem Row.below {B : Nat} (h : Row w g E cs) (hb : Below B w w') (hg : g < B) : Row w' g E cs := ⟨by rw [hb.block g hg]; exact h.heap⟩
theorem Row.alloc (h : Row w g E cs) (o : Obj) : Row (w.alloc o) g E cs := ⟨by rw [heap_alloc_old w o h.lt]; exact h.heap⟩
theorem Row.drew (h : Row w g E cs) : Row w.drew g E cs := ⟨h.heap⟩
theorem Row.drewN (h : Row w g E cs) (n : Nat) : Row (w.drewN n) g E cs := ⟨h.heap⟩
theorem Row.grown {row : Option Nat} (h : Row w g E cs) (hg : w.grownBy w' row) (hne : some g ≠ row) : Row w' g E cs := ⟨by rw [hg.block g h.lt hne]; exact h.heap⟩
theorem Row.new (w : World) (E : TypeId) (cs : List Value) : Row (w.alloc (.cells cs.toArray E)) w.heap.size E cs := ⟨heap_alloc_new w _⟩
theorem Row.owns (h : Row w g E cs) {base n cap : Nat} (hb : base ≤ g) (hc : cs.length = cap) (hn : n ≤ cap) (hm : cap ≤ maxLen) : w.ownsRow base E 1 (.slice (some ⟨g, 0, none⟩) n cap) n (cs.take n) :=
  ⟨by simp; omega, .inr ⟨g, cap, cs.toArray, rfl, hb, h.heap, hn, hm, by simp [hc], by simp⟩⟩
theorem Row.of_owns {base n : Nat} {xs : List Value} (h : w.ownsRow base E 1 (.slice (some ⟨g, 0, none⟩) n n) n xs) : Row w g E xs := by
  rcases h.2 with ⟨h', _⟩ | ⟨g', cap', cur, h', _, hg, _, _, hs, ht⟩
  · simp at h'
  · simp only [Value.slice.injEq, Option.some.injEq, Addr.mk.injEq, and_true, true_and] at h'
    obtain ⟨rfl, rfl⟩ := h'
    refine ⟨?_⟩
    rw [hg, ← ht, List.take_of_length_le (by simp [hs])]
end

/-- make([]T, n) for elements of one cell: a new row of n zeros; nothing else. -/
theorem wpList_make_row {P : Program} (w : World) {ops : Array Oper} {rest : List Oper} {o : Oper} {a : Act} {Q : Exit → Act → World → Prop}
    (hg : o.guard = none) (l c : Operand) (t : TypeId) (hop : o.op = Op.makeSlice t l c)
    (e : TypeId) (z : Value) (bytes : Nat) (h1 : P.underlying t = some (.slice e)) (h2 : (P.info? e).map (fun i => (i.zero, i.size, i.bytes)) = some (some z, 1, bytes)) (hz : z.cells = #[z])
    (kl kc : IntKind) (L C : Int) (n : Nat) (hl : a.eval l = .int kl L) (hc : a.eval c = .int kc C) (hL : L = (n : Int)) (hC : C = (n : Int)) (b2 : bytes * n ≤ 281474976710656) (b3 : n ≤ 9223372036854775807)
    (hK : ∀ w', Row w' w.heap.size e (List.replicate n z) → Below w.heap.size w w' → w'.heap.size > w.heap.size → wpList P ops Q rest (a.put o.dst (.slice (some ⟨w.heap.size, 0, none⟩) n n)) w') :
    wpList P ops Q (o :: rest) a w := by
  obtain ⟨i, hi, hi1, hi2, hi3⟩ := info_parts h2
  refine wpList_make_full w hg l c t hop w.heap.size e i z 1 h1 hi hi1 hi2 kl kc L C n hl hc hL hC (by rw [hi3]; exact b2) (by unfold maxLen; exact b3) (Nat.le_refl _) ?_
  intro w' hown hgr
  have hr := Row.of_owns hown
  rw [hz, Nat.mul_one, toList_madeCells_one] at hr
  exact hK w' hr ((Below.refl _ w).grown hgr (Nat.le_refl _) (fun k hk => by cases hk)) hr.lt

/-- The value of a letter. -/
def B8 (c : UInt8) : Value := .int .u8 (c.toNat : Int)

/-- A slice of bytes that lies in memory: its letters are l. -/
structure Byt (w : World) (a : Option Addr) (len : Nat) (l : List UInt8) : Prop where
  hlen : l.length = len
  cell : ∀ i (h : i < l.length), ∃ b off, a = some ⟨b, off, none⟩ ∧ w.cell? ⟨b, off + i, none⟩ = some (.int .u8 (l[i].toNat : Int))

theorem Byt.some_of {w : World} {a : Option Addr} {len : Nat} {l : List UInt8} (h : Byt w a len l) (hl : 0 < l.length) :
    ∃ b off, a = some ⟨b, off, none⟩ ∧ ∀ i (h : i < l.length), w.cell? ⟨b, off + i, none⟩ = some (.int .u8 (l[i].toNat : Int)) := by
  obtain ⟨b, off, rfl, _⟩ := h.cell 0 hl
  refine ⟨b, off, rfl, fun i hi => ?_⟩
  obtain ⟨b', off', e, hc⟩ := h.cell i hi
  cases e
  exact hc

theorem Byt.nil (w : World) (a : Option Addr) : Byt w a 0 [] := ⟨rfl, fun i h => by simp at h⟩

theorem Row.byt {w : World} {g : Nat} {E : TypeId} {l : List UInt8} {n : Nat} {rest : List Value} (h : Row w g E (l.map B8 ++ rest)) (hn : l.length = n) : Byt w (some ⟨g, 0, none⟩) n l :=
  ⟨hn, fun i hi => ⟨g, 0, rfl, by
    rw [Nat.zero_add, h.cell i (by simp; omega), List.getElem_append_left (by simpa using hi)]
    simp [B8]⟩⟩

/-- What was read is read in every world that has the same blocks below. -/
theorem Byt.below {w w' : World} {a : Option Addr} {len B : Nat} {l : List UInt8} (h : Byt w a len l) (hb : Below B w w') (ha : ∀ b, a = some b → b.block < B) : Byt w' a len l :=
  ⟨h.hlen, fun i hi => by
    obtain ⟨b, off, e, hc⟩ := h.cell i hi
    refine ⟨b, off, e, ?_⟩
    rw [hb.cell (by have := ha _ e; exact this)]
    exact hc⟩
theorem Byt.below' {w w' : World} {a : Option Addr} {len : Nat} {l : List UInt8} (h : Byt w a len l) (hb : Below w.heap.size w w') : Byt w' a len l :=
  ⟨h.hlen, fun i hi => by
    obtain ⟨b, off, e, hc⟩ := h.cell i hi
    refine ⟨b, off, e, ?_⟩
    have := World.block_lt_of_cell? w _ hc
    rw [hb.cell this]
    exact hc⟩

theorem ret_bool {a b : Bool} (h : a = b) : Ending.returned (.bool a) = .returned (.bool b) := by rw [h]
theorem ret_i64 {a b : Int} (h : a = b) : Ending.returned (.int .i64 a) = .returned (.int .i64 b) := by rw [h]

/-- The first k of some contents, zeros behind. -/
def fill (cs : List Value) (z : Value) (k : Nat) : List Value := cs.take k ++ List.replicate (cs.length - k) z
theorem fill_zero (cs : List Value) (z : Value) : fill cs z 0 = List.replicate cs.length z := by simp [fill]
theorem fill_full (cs : List Value) (z : Value) : fill cs z cs.length = cs := by simp [fill]
theorem fill_len (cs : List Value) (z : Value) (k : Nat) (h : k ≤ cs.length) : (fill cs z k).length = cs.length := by simp [fill]; omega
theorem fill_set (cs : List Value) (z : Value) (k : Nat) (h : k < cs.length) : (fill cs z k).set k cs[k] = fill cs z (k + 1) := by
  unfold fill
  rw [List.set_append_right _ _ (by simp; omega)]
  obtain ⟨m, hm⟩ : ∃ m, cs.length - k = m + 1 := ⟨cs.length - k - 1, by omega⟩
  have e : k - (List.take k cs).length = 0 := by simp; omega
  rw [e, hm, List.replicate_succ, List.set_cons_zero, List.take_succ_eq_append_getElem h, List.append_assoc]
  have : cs.length - (k + 1) = m := by omega
  rw [this]
  rfl

theorem Row.fill {w : World} {g : Nat} {E : TypeId} {cs : List Value} {z u : Value} {k : Nat} (h : Row w g E (fill cs z k)) (hk : k < cs.length) (hu : u = cs[k]) : Row (w.setCell ⟨g, k, none⟩ u) g E (fill cs z (k + 1)) := by
  subst hu
  rw [← fill_set cs z k hk]
  exact h.set k _

/-- Zeros up to k, the contents from there on. -/
def fillD (cs : List Value) (z : Value) (k : Nat) : List Value := List.replicate k z ++ cs.drop k
theorem fillD_full (cs : List Value) (z : Value) : fillD cs z cs.length = List.replicate cs.length z := by simp [fillD]
theorem fillD_zero (cs : List Value) (z : Value) : fillD cs z 0 = cs := by simp [fillD]
theorem fillD_len (cs : List Value) (z : Value) (k : Nat) (h : k ≤ cs.length) : (fillD cs z k).length = cs.length := by simp [fillD]; omega
theorem fillD_set (cs : List Value) (z : Value) (k : Nat) (h : k < cs.length) : (fillD cs z (k + 1)).set k cs[k] = fillD cs z k := by
  unfold fillD
  rw [List.set_append_left _ _ (by simp), List.replicate_succ', List.set_append_right _ _ (by simp)]
  simp
theorem Row.fillD {w : World} {g : Nat} {E : TypeId} {cs : List Value} {z u : Value} {k : Nat} (h : Row w g E (fillD cs z (k + 1))) (hk : k < cs.length) (hu : u = cs[k]) : Row (w.setCell ⟨g, k, none⟩ u) g E (fillD cs z k) := by
  subst hu
  rw [← fillD_set cs z k hk]
  exact h.set k _
theorem map_at (l : List UInt8) (k : Nat) (h : k < l.length) : Value.int .u8 (l[k].toNat : Int) = (l.map B8)[k]'(by simpa using h) := by simp [B8]

/-- copy(out, b), both of one length, out a row of the call's own: it holds what b holds. -/
theorem wpList_copy_row {P : Program} {w : World} {ops : Array Oper} {rest : List Oper} {o : Oper} {a : Act} {Q : Exit → Act → World → Prop} (hgd : o.guard = none) (d s : Operand) (dT sT : TypeId)
    (ho : o.op = .call { callee := .builtin .copy, args := #[d, s], argTypes := #[dT, sT] }) (elem : TypeId) (hu : P.underlying dT = some (.slice elem)) (hsz : (P.info? elem).map (·.size) = some 1)
    (n dCap sCap : Nat) (g : Nat) (sp : Option Addr) (hd : a.eval d = .slice (some ⟨g, 0, none⟩) n dCap) (hs : a.eval s = .slice sp n sCap)
    (l : List UInt8) (cur : List Value) (E : TypeId) (hg : Row w g E cur) (hcur : cur.length = n) (hsrc : Byt w sp n l) (B : Nat) (w0 : World) (hb : Below B w0 w) (hBg : B ≤ g)
    (h : ∀ w', Row w' g E (l.map B8) → Below B w0 w' → wpList P ops Q rest (a.put o.dst (goInt n)) w') :
    wpList P ops Q (o :: rest) a w := by
  have hl := hsrc.hlen
  refine wpList_copy_splice hgd d s dT sT ho elem hu hsz (some ⟨g, 0, none⟩) sp n dCap n sCap hd hs g 0 cur E hg.heap (l.map B8) (by simp [hl, Nat.min_def]) (fun hp => ⟨rfl, ?_⟩) (by simp; omega) (fun v hv => ?_) B w0 hb hBg (fun w' hw' hb' => ?_)
  · obtain ⟨b, off, rfl, hc⟩ := hsrc.some_of (by simpa using hp)
    refine ⟨_, rfl, fun j v hj => ?_⟩
    obtain ⟨hj1, rfl⟩ := List.getElem?_eq_some_iff.1 hj
    have hj2 : j < l.length := by simpa using hj1
    have := hc j hj2
    unfold Addr.add
    by_cases e : j = 0
    · subst e; simpa [B8] using this
    · simpa [B8, e] using this
  · obtain ⟨c, _, rfl⟩ := List.mem_map.1 hv
    rfl
  · have e : splice cur 0 (l.map B8) = l.map B8 := by
      unfold splice; simp; omega
    rw [e] at hw'
    have hr : Row w' g E (l.map B8) := ⟨hw'.out⟩
    have := h w' hr hb'
    simpa [hl] using this

/-- string(b): the letters. -/
theorem Byt.str {P : Program} {w : World} {a : Option Addr} {len : Nat} {l : List UInt8} (h : Byt w a len l) (src dst e : TypeId) (cap : Nat) (hs : P.underlying src = some (.slice e)) (he : P.underlying e = some (.int .u8)) (hd : P.underlying dst = some .string) :
    (convert src dst (.slice a len cap)).run P w = .ok (.string ⟨l.toArray⟩) w := by
  obtain rfl := h.hlen
  by_cases h0 : 0 < l.length
  · obtain ⟨b, off, rfl, hc⟩ := h.some_of h0
    refine run_convert_bytes_back w src dst e _ cap l hs he hd (fun j hj => ?_)
    unfold Addr.add
    split
    · subst_vars; simpa using hc 0 hj
    · simpa using hc j hj
  · obtain rfl : l = [] := List.length_eq_zero_iff.1 (by omega)
    cases a with
    | some b => exact run_convert_bytes_back w src dst e b cap [] hs he hd (fun j hj => by simp at hj)
    | none =>
      rw [run_convert_bytes_string w src dst e none _ cap hs he hd]
      rfl

theorem Row.four {w : World} {g : Nat} {E : TypeId} {a b c d : Value} (h : Row w g E [a, b, c, d]) : w.cell? ⟨g, 0, none⟩ = some a ∧ w.cell? ⟨g, 1, none⟩ = some b ∧ w.cell? ⟨g, 2, none⟩ = some c ∧ w.cell? ⟨g, 3, none⟩ = some d :=
  ⟨h.cell 0 (by simp), h.cell 1 (by simp), h.cell 2 (by simp), h.cell 3 (by simp)⟩

theorem Row.five {w : World} {g : Nat} {E : TypeId} {a b c d e : Value} (h : Row w g E [a, b, c, d, e]) : w.cell? ⟨g, 0, none⟩ = some a ∧ w.cell? ⟨g, 1, none⟩ = some b ∧ w.cell? ⟨g, 2, none⟩ = some c ∧ w.cell? ⟨g, 3, none⟩ = some d ∧ w.cell? ⟨g, 4, none⟩ = some e :=
  ⟨h.cell 0 (by simp), h.cell 1 (by simp), h.cell 2 (by simp), h.cell 3 (by simp), h.cell 4 (by simp)⟩

theorem Row.fiveF {w : World} {g : Nat} {E : TypeId} {cs : List Value} (h : Row w g E cs) : w.frozen? ⟨g, 0, none⟩ = false ∧ w.frozen? ⟨g, 1, none⟩ = false ∧ w.frozen? ⟨g, 2, none⟩ = false ∧ w.frozen? ⟨g, 3, none⟩ = false ∧ w.frozen? ⟨g, 4, none⟩ = false :=
  ⟨h.frozen 0, h.frozen 1, h.frozen 2, h.frozen 3, h.frozen 4⟩
end Go.Proofs.Ytgclemicgcbpjaa
