/- hostellaw05: (pair).does. -/
import Derived.Test.YtjbclaplohankaaDT
import Derived.Test.YtjbclaplohankaaC
import Derived.Deep.RegionHeld3
namespace Go.Proofs.Ytjbclaplohankaa
open Go.RowKit Go.Sort

/-- What was there is there, the blocks b and q perhaps turned. -/
structure Two (w w' : World) (b q : Nat) : Prop where
  os : w'.os = w.os
  tape : w'.tape = w.tape
  output : w'.output = w.output
  size : w.heap.size ≤ w'.heap.size
  block : ∀ k < w.heap.size, k ≠ b → k ≠ q → w'.heap[k]? = w.heap[k]?
theorem Two.of1 {w w' : World} {b q : Nat} (h : w.grownBy w' (some b)) : Two w w' b q := ⟨h.os, h.tape, h.output, h.size, fun k hk h1 _ => h.block k hk (by simpa using h1)⟩
theorem Two.of2 {w w' : World} {b q : Nat} (h : w.grownBy w' (some q)) : Two w w' b q := ⟨h.os, h.tape, h.output, h.size, fun k hk _ h2 => h.block k hk (by simpa using h2)⟩
theorem Two.below {w w' : World} {b q : Nat} (h : Below w.heap.size w w') : Two w w' b q := ⟨h.os, h.tape, h.output, h.size, fun k hk _ _ => h.block k hk⟩
theorem Two.trans {w w1 w2 : World} {b q : Nat} (h : Two w w1 b q) (h2 : Two w1 w2 b q) : Two w w2 b q :=
  ⟨h2.os.trans h.os, h2.tape.trans h.tape, h2.output.trans h.output, Nat.le_trans h.size h2.size, fun k hk n1 n2 => by rw [h2.block k (Nat.lt_of_lt_of_le hk h.size) n1 n2, h.block k hk n1 n2]⟩

theorem slot_eql (w : World) (u : Bool) (n p : Int) (c u' : Bool) (n' p' : Int) (c' : Bool) : (binOp .eql 44 (.agg #[.bool u, .int .i64 n, .int .i64 p, .bool c]) (.agg #[.bool u', .int .i64 n', .int .i64 p', .bool c'])).run Try.prog w = .ok (.bool (eqS (u, n, p, c) (u', n', p', c'))) w := by
  rw [run_eql_struct, run_equalIn_agg w 9999 _ _ _ (by kernel_rfl) (by kernel_rfl)]
  simp [go_sem, Try.underlying44, Try.underlying3, Try.underlying4, Program.fieldsOf, eqS]
  repeat' split
  all_goals simp_all

/-- The two boxes of does: the pair and the op. -/
def Bx (g b p : Nat) (x : OpL) (w : World) : Prop :=
  Row w g 28 [.pointer (some ⟨b, 0, none⟩), .pointer (some ⟨p, 0, none⟩)] ∧
  Row w (g + 1) 31 [.int .i64 x.1, .int .i64 x.2.1, .int .i64 x.2.2.1, .int .i64 x.2.2.2.1, .int .i64 x.2.2.2.2.1, .bool x.2.2.2.2.2]
theorem Bx.grown {g b p k : Nat} {x : OpL} {w w' : World} (h : Bx g b p x w) (hg : w.grownBy w' (some k)) (hk : k < g) : Bx g b p x w' :=
  ⟨h.1.grown hg (by simp; omega), h.2.grown hg (by simp; omega)⟩
theorem Bx.below {g b p : Nat} {x : OpL} {w w' : World} (h : Bx g b p x w) (hb : Below w.heap.size w w') : Bx g b p x w' :=
  ⟨h.1.below hb h.1.lt, h.2.below hb h.2.lt⟩
theorem Bx.drewN {g b p : Nat} {x : OpL} {w : World} (h : Bx g b p x w) (n : Nat) : Bx g b p x (w.drewN n) := ⟨h.1.drewN n, h.2.drewN n⟩
theorem Bx.drew {g b p : Nat} {x : OpL} {w : World} (h : Bx g b p x w) : Bx g b p x w.drew := ⟨h.1.drew, h.2.drew⟩
theorem Bx.c0 {g b p : Nat} {x : OpL} {w : World} (h : Bx g b p x w) : w.cell? ⟨g, 0, none⟩ = some (.pointer (some ⟨b, 0, none⟩)) ∧ w.cell? ⟨g, 1, none⟩ = some (.pointer (some ⟨p, 0, none⟩)) :=
  ⟨h.1.cell 0 (by simp), h.1.cell 1 (by simp)⟩
theorem Bx.c1 {g b p : Nat} {x : OpL} {w : World} (h : Bx g b p x w) : w.cell? ⟨g + 1, 0, none⟩ = some (.int .i64 x.1) ∧ w.cell? ⟨g + 1, 2, none⟩ = some (.int .i64 x.2.2.1) ∧ w.cell? ⟨g + 1, 3, none⟩ = some (.int .i64 x.2.2.2.1) ∧ w.cell? ⟨g + 1, 4, none⟩ = some (.int .i64 x.2.2.2.2.1) ∧ w.cell? ⟨g + 1, 5, none⟩ = some (.bool x.2.2.2.2.2) :=
  ⟨h.2.cell 0 (by simp), h.2.cell 2 (by simp), h.2.cell 3 (by simp), h.2.cell 4 (by simp), h.2.cell 5 (by simp)⟩
theorem Bx.new (w : World) (b p : Nat) (x : OpL) : Bx w.heap.size b p x ((w.alloc (.cells #[.pointer (some ⟨b, 0, none⟩), .pointer (some ⟨p, 0, none⟩)] 28)).alloc (.cells #[.int .i64 x.1, .int .i64 x.2.1, .int .i64 x.2.2.1, .int .i64 x.2.2.2.1, .int .i64 x.2.2.2.2.1, .bool x.2.2.2.2.2] 31)) := by
  refine ⟨(Row.new w 28 [.pointer (some ⟨b, 0, none⟩), .pointer (some ⟨p, 0, none⟩)]).alloc _, ?_⟩
  have := Row.new (w.alloc (.cells #[.pointer (some ⟨b, 0, none⟩), .pointer (some ⟨p, 0, none⟩)] 28)) 31 [.int .i64 x.1, .int .i64 x.2.1, .int .i64 x.2.2.1, .int .i64 x.2.2.2.1, .int .i64 x.2.2.2.2.1, .bool x.2.2.2.2.2]
  rwa [World.size_alloc] at this

def DoesPost (w : World) (b p q c : Nat) (e' : Ending) (w' : World) : Prop := e' = .returned (.bool true) ∧ ∃ ss', Tab w' b 50 ss' ∧ RTab w' p q c ss' ∧ Two w w' b q

set_option maxHeartbeats 4000000 in
set_option maxRecDepth 100000 in
theorem does_any (b p q c : Nat) (ss : List SL) (x : OpL) (w : World) (ht : Tab w b 50 ss) (hr : RTab w p q c ss) (hbp : p ≠ b) (hbq : q ≠ b) :
    Calls Try.prog 11 #[.agg #[.pointer (some ⟨b, 0, none⟩), .pointer (some ⟨p, 0, none⟩)], .agg #[.int .i64 x.1, .int .i64 x.2.1, .int .i64 x.2.2.1, .int .i64 x.2.2.2.1, .int .i64 x.2.2.2.2.1, .bool x.2.2.2.2.2]] w fun e' w' => DoesPost w b p q c e' w' := by
  have hlb := ht.row.lt
  have hlp := hr.ptr.lt
  have hlq := hr.tab.lt
  obtain ⟨W, hW⟩ : ∃ W, W = ((w.alloc (.cells #[.pointer (some ⟨b, 0, none⟩), .pointer (some ⟨p, 0, none⟩)] 28)).alloc (.cells #[.int .i64 x.1, .int .i64 x.2.1, .int .i64 x.2.2.1, .int .i64 x.2.2.2.1, .int .i64 x.2.2.2.2.1, .bool x.2.2.2.2.2] 31)) := ⟨_, rfl⟩
  have HX := hid (by rw [hW]; exact Bx.new w b p x : Bx w.heap.size b p x W)
  have hB : Below w.heap.size w W := by rw [hW]; exact bthen (bal _) (bal _)
  have HB := hid hB
  have HT := hid (ht.below hB)
  have HR := hid (hr.below hB)
  have hsz : W.heap.size = w.heap.size + 2 := by rw [hW]; simp
  clear ht hr hB
  obtain ⟨x0, x1, x2, x3, x4, x5⟩ := x
  obtain ⟨z0, z1⟩ := HX.out.c0
  obtain ⟨y0, y2, y3, y4, y5⟩ := HX.out.c1
  go_enter Try.func11, Try.ntmps11
  by_cases c1 : x0 = 1
  · subst c1
    go_wp2_with fail
    rw [← hW]
    clear hW
    refine (open_any _ _ _ _ _ HT.out).mono ?_
    rintro e' w2 ⟨rfl, ht, hg⟩
    have HT2 := hid ht
    have HG2 := hid hg
    have hx2 := HX.out.grown hg hlb
    have HX2 := hid hx2
    have HR2 := hid (HR.out.grown hg hbp hbq)
    obtain ⟨z0, z1⟩ := hx2.c0
    obtain ⟨y0, y2, y3, y4, y5⟩ := hx2.c1
    have hsz2 := hg.size
    clear ht hg hx2
    go_wp2_with fail
    refine (ropen_any _ _ _ _ _ _ _ HR2.out).mono ?_
    rintro e' w3 ⟨rfl, hr, hg⟩
    have HR3 := hid hr
    have HT3 := hid (tab_grown HT2.out hg (Ne.symm hbq))
    have HTW := hid ((Two.below HB.out).trans ((Two.of1 (q := q) HG2.out).trans (Two.of2 hg)))
    clear hr hg
    go_wp2_with fail
    go_ret
    exact ⟨by simp, _, HT3.out, HR3.out, HTW.out⟩
  have q1 : (x0 == 1) = false := by rw [beq_eq_false_iff_ne]; exact c1
  by_cases c2 : x0 = 2
  · subst c2
    go_wp2_with fail
    have hz0 : ∀ w', Bx w.heap.size b p (2, x1, x2, x3, x4, x5) w' → w'.cell? ⟨w.heap.size, 0, none⟩ = some (.pointer (some ⟨b, 0, none⟩)) := fun _ h => h.c0.1
    have hz1 : ∀ w', Bx w.heap.size b p (2, x1, x2, x3, x4, x5) w' → w'.cell? ⟨w.heap.size, 1, none⟩ = some (.pointer (some ⟨p, 0, none⟩)) := fun _ h => h.c0.2
    have hy2 : ∀ w', Bx w.heap.size b p (2, x1, x2, x3, x4, x5) w' → w'.cell? ⟨w.heap.size + 1, 2, none⟩ = some (.int .i64 x2) := fun _ h => h.c1.2.1
    have hy4 : ∀ w', Bx w.heap.size b p (2, x1, x2, x3, x4, x5) w' → w'.cell? ⟨w.heap.size + 1, 4, none⟩ = some (.int .i64 x4) := fun _ h => h.c1.2.2.2.1
    rw [← hW]
    clear hW
    have HXD := hid HX.out.drew
    have HTD := hid (HT.out.below (show Below W.heap.size W W.drew from St.drew W))
    have HRD := hid (HR.out.below (show Below W.heap.size W W.drew from St.drew W))
    have HBD := hid (bthen HB.out (show Below W.heap.size W W.drew from St.drew W))
    go_region_held3 (Bx w.heap.size b p (2, x1, x2, x3, x4, x5)) (first | exact HXD.out | exact HX2.out | exact HX3.out) (first | (go_at_call 15; refine (close_any _ _ _ _ HTD.out).mono ?_; rintro e' w2 ⟨rfl, ht, hg⟩; have HT2 := hid ht; have HG2 := hid hg; have HX2 := hid (HXD.out.grown hg hlb); have HR2 := hid (HRD.out.grown hg hbp hbq); clear ht hg) | (go_at_call 23; refine (rclose_any _ _ _ _ _ _ HR2.out).mono ?_; rintro e' w3 ⟨rfl, hr, hg⟩; have HR3 := hid hr; have HT3 := hid (tab_grown HT2.out hg (Ne.symm hbq)); have HX3 := hid (HX2.out.grown hg hlq); have HTW := hid ((Two.below HBD.out).trans ((Two.of1 (q := q) HG2.out).trans (Two.of2 hg))); clear hr hg))
    go_wp2_with fail
    go_ret
    exact ⟨by simp, _, HT3.out, HR3.out, HTW.out⟩
  have q2 : (x0 == 2) = false := by rw [beq_eq_false_iff_ne]; exact c2
  by_cases c3 : x0 = 3
  · subst c3
    go_wp2_with fail
    rw [← hW]
    refine (at_any _ _ _ _ HT.out).mono ?_
    rintro e' w2 ⟨rfl, hb⟩
    have HT2 := hid (fun o => (HT.out.below hb).below (@bal w2 o))
    have HR2 := hid (fun o => (HR.out.below hb).below (@bal w2 o))
    have HB2 := hid (fun o => bthen (bthen HB.out hb) (@bal w2 o))
    have hx2 := HX.out.below hb
    have HX2 := hid (fun o => hx2.below (@bal w2 o))
    obtain ⟨z0, z1⟩ := hx2.c0
    obtain ⟨y0, y2, y3, y4, y5⟩ := hx2.c1
    have hsz2 := hb.size
    have l0 : w.heap.size < w2.heap.size := by omega
    have l1 : w.heap.size + 1 < w2.heap.size := by omega
    clear hb hx2 hsz
    obtain ⟨sv, hsv⟩ : ∃ sv, atS ss x2 = sv := ⟨_, rfl⟩
    rw [hsv]
    obtain ⟨u, n, ps, ce⟩ := sv
    have HSV := hid hsv
    clear hsv
    have heq := slot_eql
    go_wp2_with fail
    have HT3 := hid (HT2.out (.cells #[.bool u, .int .i64 n, .int .i64 ps, .bool ce] 44))
    have HR3 := hid (HR2.out (.cells #[.bool u, .int .i64 n, .int .i64 ps, .bool ce] 44))
    have HB3 := hid (HB2.out (.cells #[.bool u, .int .i64 n, .int .i64 ps, .bool ce] 44))
    have HS := hid (Row.new w2 44 [.bool u, .int .i64 n, .int .i64 ps, .bool ce])
    generalize w2.alloc (.cells #[.bool u, .int .i64 n, .int .i64 ps, .bool ce] 44) = w3 at *
    refine (rat_any _ _ _ _ _ _ HR3.out).mono ?_
    rintro e' w4 ⟨rfl, hb⟩
    rw [HSV.out]
    have hs4 := HS.out.below hb HS.out.lt
    obtain ⟨a0, a1, a2, a3⟩ := hs4.four
    have hla := hs4.lt
    have HT4 := hid (fun o => (HT3.out.below hb).below (@bal w4 o))
    have HR4 := hid (fun o => (HR3.out.below hb).below (@bal w4 o))
    have HB4 := hid (fun o => bthen (bthen HB3.out hb) (@bal w4 o))
    have s1 : eqS (u, n, ps, ce) (u, n, ps, ce) = true := eqS_self _
    clear hb hs4
    go_wp2_with fail
    go_ret
    exact ⟨by simp, _, HT4.out _, HR4.out _, Two.below (HB4.out _)⟩
  have q3 : (x0 == 3) = false := by rw [beq_eq_false_iff_ne]; exact c3
  by_cases c4 : x0 = 4
  · subst c4
    go_wp2_with fail
    have hz0 : ∀ w', Bx w.heap.size b p (4, x1, x2, x3, x4, x5) w' → w'.cell? ⟨w.heap.size, 0, none⟩ = some (.pointer (some ⟨b, 0, none⟩)) := fun _ h => h.c0.1
    have hz1 : ∀ w', Bx w.heap.size b p (4, x1, x2, x3, x4, x5) w' → w'.cell? ⟨w.heap.size, 1, none⟩ = some (.pointer (some ⟨p, 0, none⟩)) := fun _ h => h.c0.2
    have hy2 : ∀ w', Bx w.heap.size b p (4, x1, x2, x3, x4, x5) w' → w'.cell? ⟨w.heap.size + 1, 2, none⟩ = some (.int .i64 x2) := fun _ h => h.c1.2.1
    have hy4 : ∀ w', Bx w.heap.size b p (4, x1, x2, x3, x4, x5) w' → w'.cell? ⟨w.heap.size + 1, 4, none⟩ = some (.int .i64 x4) := fun _ h => h.c1.2.2.2.1
    rw [← hW]
    clear hW
    have HXD := hid HX.out.drew
    have HTD := hid (HT.out.below (show Below W.heap.size W W.drew from St.drew W))
    have HRD := hid (HR.out.below (show Below W.heap.size W W.drew from St.drew W))
    have HBD := hid (bthen HB.out (show Below W.heap.size W W.drew from St.drew W))
    go_region_held3 (Bx w.heap.size b p (4, x1, x2, x3, x4, x5)) (first | exact HXD.out | exact HX2.out | exact HX3.out) (first | (go_at_call 16; refine (move_any _ _ _ _ _ HTD.out).mono ?_; rintro e' w2 ⟨rfl, ht, hg⟩; have HT2 := hid ht; have HG2 := hid hg; have HX2 := hid (HXD.out.grown hg hlb); have HR2 := hid (HRD.out.grown hg hbp hbq); clear ht hg) | (go_at_call 25; refine (rmove_any _ _ _ _ _ _ _ HR2.out).mono ?_; rintro e' w3 ⟨rfl, hr, hg⟩; have HR3 := hid hr; have HT3 := hid (tab_grown HT2.out hg (Ne.symm hbq)); have HX3 := hid (HX2.out.grown hg hlq); have HTW := hid ((Two.below HBD.out).trans ((Two.of1 (q := q) HG2.out).trans (Two.of2 hg))); clear hr hg))
    go_wp2_with fail
    go_ret
    exact ⟨by simp, _, HT3.out, HR3.out, HTW.out⟩
  have q4 : (x0 == 4) = false := by rw [beq_eq_false_iff_ne]; exact c4
  by_cases c5 : x0 = 5
  · subst c5
    go_wp2_with fail
    rw [← hW]
    clear hW
    refine (sweep_any _ _ _ HT.out).mono ?_
    rintro e' w2 ⟨rfl, ht, hg⟩
    have HT2 := hid ht
    have HG2 := hid hg
    have hx2 := HX.out.grown hg hlb
    have HX2 := hid hx2
    have HR2 := hid (HR.out.grown hg hbp hbq)
    obtain ⟨z0, z1⟩ := hx2.c0
    obtain ⟨y0, y2, y3, y4, y5⟩ := hx2.c1
    have hsz2 := hg.size
    clear ht hg hx2
    go_wp2_with fail
    refine (rsweep_any _ _ _ _ _ HR2.out).mono ?_
    rintro e' w3 ⟨rfl, hr, hg⟩
    have HR3 := hid hr
    have HT3 := hid (tab_grown HT2.out hg (Ne.symm hbq))
    have HTW := hid ((Two.below HB.out).trans ((Two.of1 (q := q) HG2.out).trans (Two.of2 hg)))
    clear hr hg
    go_wp2_with fail
    go_ret
    exact ⟨by simp, _, HT3.out, HR3.out, HTW.out⟩
  have q5 : (x0 == 5) = false := by rw [beq_eq_false_iff_ne]; exact c5
  go_wp2_with fail
  go_ret
  exact ⟨rfl, ss, by rw [← hW]; exact HT.out, by rw [← hW]; exact HR.out, by rw [← hW]; exact Two.below HB.out⟩
end Go.Proofs.Ytjbclaplohankaa
