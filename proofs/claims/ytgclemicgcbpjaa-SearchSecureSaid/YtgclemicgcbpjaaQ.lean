/- A region that draws its order, reads, and calls what makes memory alone: walked once, in the text's order. No program is named. -/
import Derived.Test.YtgclemicgcbpjaaN
import Derived.Lib.QuietBelow
import Derived.BigQuiet
namespace Go.Proofs.Ytgclemicgcbpjaa
open Go.RowKit Go.Sort

/-- A world of the class: w, drawn on, with blocks behind it. -/
def rg (w : World) (d : Nat) (os : Array Obj) : World := grow (redrawn w d) os
theorem rg_below (w : World) (d : Nat) (os : Array Obj) : Below w.heap.size w (rg w d os) := below_regrown w d os
theorem rg_of {w w' : World} (h : Below w.heap.size w w') : ∃ p : Regrown, w' = rg w p.d p.os := regrown_of_below h
theorem rg_cell {w : World} {a : Addr} {v : Value} (h : w.cell? a = some v) (d : Nat) (os : Array Obj) : (rg w d os).cell? a = some v := cell_regrown h d os

theorem region_rg {P : Program} {id : Nat} {Q : Exit → Act → World → Prop} {a : Act} {w : World} {l : List Oper} (hm : P.follows .mixedOrders = true) (hB : Region.lexB .any l.toArray = true)
    (h : wpQuiet P l.toArray (fun w' => ∃ p : Regrown, w' = rg w p.d p.os) (fun a' => ∀ w', (∃ p : Regrown, w' = rg w p.d p.os) → Q .normal a' w') l a) : (Code.region id l.toArray true).wp P Q a w :=
  wp_region_quiet (C := fun w' => ∃ p : Regrown, w' = rg w p.d p.os) hm hB ⟨⟨w.drawn + 1, #[]⟩, by unfold rg; rw [grow_empty]; rfl⟩ (by simpa using h)

/-- A callee that makes memory alone. -/
theorem rg_call {P : Program} {f : FuncId} {args : Array Value} {w : World} {d : Nat} {os : Array Obj} {v : Value}
    (h : Calls P f args (rg w d os) fun e w' => e = .returned v ∧ Below (rg w d os).heap.size (rg w d os) w') : Calls P f args (rg w d os) fun e w'' => e = .returned v ∧ ∃ p : Regrown, w'' = rg w p.d p.os :=
  h.mono fun _ _ ⟨he, hb⟩ => ⟨he, rg_of (bthen (rg_below w d os) hb)⟩
theorem rg_same {P : Program} {f : FuncId} {args : Array Value} {w : World} {d : Nat} {os : Array Obj} {v : Value}
    (h : Calls P f args (rg w d os) fun e w' => e = .returned v ∧ rg w d os = w') : Calls P f args (rg w d os) fun e w'' => e = .returned v ∧ ∃ p : Regrown, w'' = rg w p.d p.os :=
  h.mono fun _ _ ⟨he, hb⟩ => ⟨he, ⟨d, os⟩, hb.symm⟩
theorem rg_drew {P : Program} {f : FuncId} {args : Array Value} {w : World} {d : Nat} {os : Array Obj} {v : Value}
    (h : Calls P f args (rg w d os) fun e w' => e = .returned v ∧ ∃ n, w' = (rg w d os).drewN n) : Calls P f args (rg w d os) fun e w'' => e = .returned v ∧ ∃ p : Regrown, w'' = rg w p.d p.os :=
  h.mono fun _ _ ⟨he, n, hb⟩ => ⟨he, rg_of (by rw [hb]; exact bdN (rg_below w d os) n)⟩
theorem nums_rg {w : World} {k : IntKind} {a : Option Addr} {len : Nat} {l : List Int} (h : Nums w k a len l) (d : Nat) (os : Array Obj) : Nums (rg w d os) k a len l := h.below' (rg_below w d os)
theorem byt_rg {w : World} {a : Option Addr} {len : Nat} {l : List UInt8} (h : Byt w a len l) (d : Nat) (os : Array Obj) : Byt (rg w d os) a len l := h.below' (rg_below w d os)
theorem five_rg {w : World} {b : Nat} {v0 v1 v2 v3 v4 : Value} (h : w.cell? ⟨b, 0, none⟩ = some v0 ∧ w.cell? ⟨b, 1, none⟩ = some v1 ∧ w.cell? ⟨b, 2, none⟩ = some v2 ∧ w.cell? ⟨b, 3, none⟩ = some v3 ∧ w.cell? ⟨b, 4, none⟩ = some v4) :
    (∀ d os, (rg w d os).cell? ⟨b, 0, none⟩ = some v0) ∧ (∀ d os, (rg w d os).cell? ⟨b, 1, none⟩ = some v1) ∧ (∀ d os, (rg w d os).cell? ⟨b, 2, none⟩ = some v2) ∧ (∀ d os, (rg w d os).cell? ⟨b, 3, none⟩ = some v3) ∧ (∀ d os, (rg w d os).cell? ⟨b, 4, none⟩ = some v4) :=
  ⟨rg_cell h.1, rg_cell h.2.1, rg_cell h.2.2.1, rg_cell h.2.2.2.1, rg_cell h.2.2.2.2⟩
end Go.Proofs.Ytgclemicgcbpjaa
