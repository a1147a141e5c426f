
/- layout: loads and their iterator. -/
import Derived.Test.YtkkadknijjninaaDoorLa0
import Derived.Test.YtkkadknijjninaaDoorRK
import Derived.Test.YtkkadknijjninaaDoorRF
import Derived.Test.YtkkadknijjninaaDoorRH
import Derived.Deep.DeepMust
namespace Go.Proofs.YtkkadknijjninaaDoor
open Go.RowKit Go.Sort Go.Shelf
attribute [local go_sem] Oper.semAt_some

/-- Segments in memory. -/
def Sgs (w : World) (a : Option Addr) (n : Nat) (l : List SG) : Prop := Rk w 6 a n (l.map sgC)
theorem Sgs.hlen {w : World} {a : Option Addr} {n : Nat} {l : List SG} (h : Sgs w a n l) : l.length = n := by have := Rk.hlen h; simpa using this
theorem Sgs.below' {w w' : World} {a : Option Addr} {n : Nat} {l : List SG} (h : Sgs w a n l) (hb : Below w.heap.size w w') : Sgs w' a n l := Rk.below' h hb
theorem Sgs.cells {w : World} {a : Option Addr} {n : Nat} {l : List SG} (h : Sgs w a n l) {k : Nat} (hk : k < l.length) : ∃ b off, a = some ⟨b, off, none⟩ ∧
    w.cell? ⟨b, off + k * 6, none⟩ = some (.int .u32 l[k].kind) ∧ w.cell? ⟨b, off + k * 6 + 1, none⟩ = some (.int .u8 l[k].flags) ∧ w.cell? ⟨b, off + k * 6 + 2, none⟩ = some (.int .u64 l[k].off) ∧ w.cell? ⟨b, off + k * 6 + 3, none⟩ = some (.int .u64 l[k].addr) ∧ w.cell? ⟨b, off + k * 6 + 4, none⟩ = some (.int .u64 l[k].fsz) ∧ w.cell? ⟨b, off + k * 6 + 5, none⟩ = some (.int .u64 l[k].msz) := by
  obtain ⟨b, off, rfl, hc⟩ := Rk.some_of h (by simp; omega)
  have hk' : k < (l.map sgC).length := by simpa using hk
  have e : (l.map sgC)[k] = sgC l[k] := by simp
  have g := fun j hj => hc k hk' j hj
  rw [e] at g
  exact ⟨b, off, rfl, g 0 (by simp [sgC]), g 1 (by simp [sgC]), g 2 (by simp [sgC]), g 3 (by simp [sgC]), g 4 (by simp [sgC]), g 5 (by simp [sgC])⟩
theorem Row.six {w : World} {g : Nat} {E : TypeId} {a b c d e f : Value} (h : Row w g E [a, b, c, d, e, f]) : w.cell? ⟨g, 0, none⟩ = some a ∧ w.cell? ⟨g, 1, none⟩ = some b ∧ w.cell? ⟨g, 2, none⟩ = some c ∧ w.cell? ⟨g, 3, none⟩ = some d ∧ w.cell? ⟨g, 4, none⟩ = some e ∧ w.cell? ⟨g, 5, none⟩ = some f :=
  ⟨h.cell 0 (by simp), h.cell 1 (by simp), h.cell 2 (by simp), h.cell 3 (by simp), h.cell 4 (by simp), h.cell 5 (by simp)⟩

theorem prs_prefix : ∀ {l m : List SG} (f : Int), l <+: m → prs f l <+: prs f m
  | [], _, _, _ => List.nil_prefix
  | s :: l, m, f, h => by
    obtain ⟨t, rfl⟩ := h
    rw [List.cons_append, prs, prs]
    exact (List.cons_prefix_cons).2 ⟨rfl, prs_prefix (frU s) (List.prefix_append l t)⟩
/-- What the iterator tells of the first k segments, and from where on the next may lie. -/
def told (sg : List SG) (k : Nat) : List (Int × SG) := prs 0 (lds (sg.take k))
def freeAt (sg : List SG) (k : Nat) : Int := (((lds (sg.take k)).getLast?).map frU).getD 0
theorem freeAt_u (sg : List SG) (k : Nat) : 0 ≤ freeAt sg k ∧ freeAt sg k ≤ 18446744073709551615 := by
  unfold freeAt
  cases (lds (sg.take k)).getLast? with
  | none => exact ⟨by decide, by decide⟩
  | some s => exact frU_u s
theorem lds_take {sg : List SG} {k : Nat} (hk : k < sg.length) : lds (sg.take (k + 1)) = lds (sg.take k) ++ if sg[k].kind = 1 then [sg[k]] else [] := by
  rw [← lds_snoc, List.take_succ_eq_append_getElem hk]
theorem told_no {sg : List SG} {k : Nat} (hk : k < sg.length) (h : ¬ sg[k].kind = 1) : told sg (k + 1) = told sg k ∧ freeAt sg (k + 1) = freeAt sg k := by
  unfold told freeAt
  rw [lds_take hk, if_neg h, List.append_nil]
  exact ⟨rfl, rfl⟩
theorem told_yes {sg : List SG} {k : Nat} (hk : k < sg.length) (h : sg[k].kind = 1) : told sg (k + 1) = told sg k ++ [(freeAt sg k, sg[k])] ∧ freeAt sg (k + 1) = frU sg[k] := by
  unfold told freeAt
  rw [lds_take hk, if_pos h, prs_snoc, List.getLast?_append]
  exact ⟨rfl, rfl⟩
theorem told_prefix (sg : List SG) (k : Nat) : told sg k <+: prs 0 (lds sg) := by
  refine prs_prefix 0 ?_
  unfold lds
  exact (List.take_prefix k sg).filter _
theorem told_full (sg : List SG) : told sg sg.length = prs 0 (lds sg) := by unfold told; rw [List.take_length]

def prV (p : Int × SG) : Array Value := #[.int .u64 p.1, sgV p.2]

end Go.Proofs.YtkkadknijjninaaDoor
