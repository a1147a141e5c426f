
/- Merged: Cb0 Cb1 Cb2 Cb3 Cb5 Cb4 Cb6 Cc0 Cb7 Cc1 Cc2. -/
import Derived.Test.YtcbkikioapdbbaaDoorKC1
import Derived.Test.YtcbkikioapdbbaaDoorSL
import Derived.Test.YtcbkikioapdbbaaDoorX2
import Derived.Test.YtcbkikioapdbbaaDoorSK
import Derived.StillTailTactics
import Derived.Deep.RegionHeld3
import Derived.Deep.AppendLies
namespace Go.Proofs.YtcbkikioapdbbaaDoor
open Go.RowKit Go.Sort
attribute [local go_sem] Oper.semAt_some

/-- A reader of bytes: where it is, whether it fell short. -/
structure Rd (w : World) (r : Nat) (a : Option Addr) (cap : Nat) (l : BL) (p : Nat) (sh : Bool) : Prop where
  row : Row w r 76 [.slice a l.length cap, .int .u64 p, .bool sh]
  byt : Byt w a l.length l
  ne : ∀ b, a = some b → b.block ≠ r
def rdN (l : BL) (p n : Nat) : Nat := if p + n ≤ l.length then le ((l.drop p).take n) else 0
def rdP (l : BL) (p n : Nat) : Nat := if p + n ≤ l.length then p + n else p
def rdS (l : BL) (p n : Nat) (sh : Bool) : Bool := if p + n ≤ l.length then sh else true
theorem X1.byt {w w' : World} {r len : Nat} {a : Option Addr} {l : BL} (h : X1 w w' r) (hc : Byt w a len l) (hne : ∀ b, a = some b → b.block ≠ r) : Byt w' a len l :=
  ⟨hc.hlen, fun i hi => by
    obtain ⟨b, off, e, h1⟩ := hc.cell i hi
    refine ⟨b, off, e, ?_⟩
    have hlt := World.block_lt_of_cell? w _ h1
    have := h.block b hlt (by have := hne _ e; exact this)
    unfold World.cell? at h1 ⊢
    rw [this]; exact h1⟩
theorem chk_fits {L p n : Nat} (hn : n = 1 ∨ n = 2 ∨ n = 4 ∨ n = 8) (h : p + n ≤ L) : chk L p n = 0 := by
  have hz : isSz (n : Int) = true := by unfold isSz; rcases hn with rfl | rfl | rfl | rfl <;> rfl
  unfold chk
  rw [if_pos hz, if_pos (by unfold insB; simp; omega)]
theorem chk_not {L p n : Nat} (hn : n = 1 ∨ n = 2 ∨ n = 4 ∨ n = 8) (h : ¬ p + n ≤ L) : chk L p n ≠ 0 := by
  have hz : isSz (n : Int) = true := by unfold isSz; rcases hn with rfl | rfl | rfl | rfl <;> rfl
  unfold chk
  rw [if_pos hz, if_neg (by unfold insB; simp; omega)]
  decide

def RdP (w : World) (r : Nat) (a : Option Addr) (cap : Nat) (l : BL) (v : Value) (p : Nat) (sh : Bool) (e : Ending) (w' : World) : Prop := e = .returned v ∧ Rd w' r a cap l p sh ∧ X1 w w' r

theorem Rd.below {w w' : World} {r cap p : Nat} {a : Option Addr} {l : BL} {sh : Bool} (h : Rd w r a cap l p sh) (hb : Below w.heap.size w w') : Rd w' r a cap l p sh := ⟨h.row.below hb h.row.lt, h.byt.below' hb, h.ne⟩
/-- A place and a mark are stored. -/
theorem Rd.setP {w : World} {r cap p : Nat} {a : Option Addr} {l : BL} {sh : Bool} (h : Rd w r a cap l p sh) (q : Nat) : Rd (w.setCell ⟨r, 1, none⟩ (.int .u64 (q : Nat))) r a cap l q sh :=
  ⟨h.row.set 1 _, ((X1.refl w r).set 1 _).byt h.byt h.ne, h.ne⟩
theorem Rd.setS {w : World} {r cap p : Nat} {a : Option Addr} {l : BL} {sh : Bool} (h : Rd w r a cap l p sh) (q : Bool) : Rd (w.setCell ⟨r, 2, none⟩ (.bool q)) r a cap l p q :=
  ⟨h.row.set 2 _, ((X1.refl w r).set 2 _).byt h.byt h.ne, h.ne⟩

set_option maxRecDepth 100000 in
set_option maxHeartbeats 4000000 in
theorem rnumber_any (r : Nat) (a : Option Addr) (cap : Nat) (l : BL) (p n : Nat) (ni : Int) (hni : ni = (n : Nat)) (sh : Bool) (w : World) (hs : Sizes w) (hr : Rd w r a cap l p sh) (hn : n = 1 ∨ n = 2 ∨ n = 4 ∨ n = 8) (hl : l.length ≤ 1000000000) (hp : p ≤ 1000000000) :
    Calls Tryd.prog 64 #[.pointer (some ⟨r, 0, none⟩), .int .i64 ni] w (RdP w r a cap l (.int .u64 (rdN l p n)) (rdP l p n) (rdS l p n sh)) := by
  subst hni
  have c0 : w.cell? ⟨r, 0, none⟩ = some (.slice a l.length cap) := hr.row.cell' 0
  have c1 : w.cell? ⟨r, 1, none⟩ = some (.int .u64 p) := hr.row.cell' 1
  have c2 : w.cell? ⟨r, 2, none⟩ = some (.bool sh) := hr.row.cell' 2
  have HR := hid hr
  have hcc := fun d os => rg_same (d := d) (os := os) (get_any a l.length cap (p : Int) (n : Int) l (rg w d os) (hs.below (rg_below w d os)) (by omega) (byt_rg hr.byt d os) (by omega))
  replace c0 := rg_cell c0
  replace c1 := rg_cell c1
  replace c2 := rg_cell c2
  clear hs hr
  by_cases h : p + n ≤ l.length
  · have hck := chk_fits hn h
    have hval : wgetV l (p : Int) (n : Int) = ((rdN l p n : Nat) : Int) := by
      unfold wgetV rdN
      rw [if_pos hck, if_pos h, Int.toNat_natCast, Int.toNat_natCast]
    have HP := hid (show rdP l p n = p + n by unfold rdP; rw [if_pos h])
    have HSH := hid (show rdS l p n sh = sh by unfold rdS; rw [if_pos h])
    rw [hck, hval] at hcc
    have cc := hid hcc
    have hw1 := IntWalk.u64_in (n : Int) (by omega)
    have hw2 := IntWalk.u64_in ((p : Int) + (n : Int)) (by omega)
    clear hck hval h hn hcc
    generalize rdN l p n = x at *
    go_enter Tryd.func64, Tryd.ntmps64
    go_wp2_with fail
    refine region_rg (by kernel_rfl) (by kernel_rfl) ?_
    repeat (quiet_step (with_reducible exact cc.out _ _))
    refine wpQuiet_nil ?_
    intro _ hw'
    obtain ⟨⟨dq, osq⟩, hw''⟩ := hw'
    subst hw''
    have HW2 := hid (rg_below w dq osq)
    have HR2 := hid (HR.out.below HW2.out)
    have k1 := c1 dq osq
    have z1 := HR2.out.row.frozen 1
    clear c0 c1 c2 cc
    generalize rg w dq osq = W2 at *
    have hlt := HR2.out.row.lt
    go_wp2_with fail
    go_ret
    refine ⟨rfl, ?_, (X1.of r HW2.out).set 1 _⟩
    rw [HP.out, HSH.out]
    exact HR2.out.setP (p + n)
  · have hck := chk_not hn h
    have hval : wgetV l (p : Int) (n : Int) = 0 := by
      unfold wgetV
      rw [if_neg hck]
    have HX := hid (show rdN l p n = 0 by unfold rdN; rw [if_neg h])
    have HP := hid (show rdP l p n = p by unfold rdP; rw [if_neg h])
    have HSH := hid (show rdS l p n sh = true by unfold rdS; rw [if_neg h])
    have hb := bne_t hck
    have hb2 := beq_f hck
    rw [hval] at hcc
    generalize chk (l.length : Int) (p : Int) (n : Int) = er at *
    have cc := hid hcc
    clear hck hval h hn hcc
    go_enter Tryd.func64, Tryd.ntmps64
    go_wp2_with fail
    refine region_rg (by kernel_rfl) (by kernel_rfl) ?_
    repeat (quiet_step (with_reducible exact cc.out _ _))
    refine wpQuiet_nil ?_
    intro _ hw'
    obtain ⟨⟨dq, osq⟩, hw''⟩ := hw'
    subst hw''
    have HW2 := hid (rg_below w dq osq)
    have HR2 := hid (HR.out.below HW2.out)
    have k2 := c2 dq osq
    have z2 := HR2.out.row.frozen 2
    clear c0 c1 c2 cc
    generalize rg w dq osq = W2 at *
    have hlt := HR2.out.row.lt
    go_wp2_with fail
    go_ret
    refine ⟨by rw [HX.out]; rfl, ?_, (X1.of r HW2.out).set 2 _⟩
    rw [HP.out, HSH.out]
    exact HR2.out.setS true
end Go.Proofs.YtcbkikioapdbbaaDoor
namespace Go.Proofs.YtcbkikioapdbbaaDoor
open Go.RowKit Go.Sort
attribute [local go_sem] Oper.semAt_some

theorem slFTc (k1 k2 : IntKind) (b off len cap f t : Nat) (x y : Int) (hx : x = (f : Int)) (hy : y = (t : Int)) (hft : f ≤ t) (ht : t ≤ cap) :
    ∃ a', (∀ w : World, (Instr.slice 24 (.slice (some ⟨b, off, none⟩) len cap) (some (.int k1 x)) (some (.int k2 y)) none).run Tryd.prog w = .ok (.slice a' (t - f) (cap - f)) w) ∧ (f < cap → a' = some ⟨b, off + f, none⟩) := by
  subst hx; subst hy
  have hz : ∀ w, (sizeOf (Tryd.prog.elem 24)).run Tryd.prog w = .ok 1 w := fun w => by kernel_rfl
  have hsl : ∀ w : World, (Instr.slice 24 (.slice (some ⟨b, off, none⟩) len cap) (some (.int k1 (f : Int))) (some (.int k2 (t : Int))) none).run Tryd.prog w = .ok (.slice (if cap = f then some ⟨b, off, none⟩ else (some (⟨b, off, none⟩ : Addr)).map (·.add (f * 1))) (t - f) (cap - f)) w := by
    intro w
    rw [run_slice_lh w 24 _ _ _ (by kernel_rfl) k1 k2 f t (by omega) (by omega) (by omega), hz]
    simp only [Result.andThen, sliced, Int.toNat_natCast]
  refine ⟨_, hsl, fun hlt => ?_⟩
  rw [if_neg (by omega)]
  simp only [Option.map_some, Addr.add, Nat.mul_one]
  split
  · rename_i h; rw [h]; rfl
  · rfl
theorem Byt.mid2 {w : World} {b off len f n cap : Nat} {l : List UInt8} {a' : Option Addr} (h : Byt w (some ⟨b, off, none⟩) len l) (hf : f + n ≤ len) (hc : len ≤ cap) (ha : f < cap → a' = some ⟨b, off + f, none⟩) : Byt w a' n ((l.drop f).take n) := by
  by_cases hlt : f < cap
  · rw [ha hlt]
    exact (h.from (f := f) (by omega)).upto (by omega)
  · have h0 : n = 0 := by omega
    subst h0
    exact ⟨by simp, fun i hi => by simp at hi⟩

/-- A text that is read. -/
def txN (l : BL) (p : Nat) : Nat := rdN l p 2
theorem txN_le (l : BL) (p : Nat) : txN l p ≤ 65535 := by
  unfold txN rdN
  split
  · have h := le_take_lt l p 2 (by omega)
    have e : (256 : Nat) ^ 2 = 65536 := rfl
    omega
  · omega
def txOk (l : BL) (p : Nat) (sh : Bool) : Bool := !rdS l p 2 sh && decide (rdP l p 2 + txN l p ≤ l.length)
def txT (l : BL) (p : Nat) (sh : Bool) : BL := if txOk l p sh then (l.drop (rdP l p 2)).take (txN l p) else []
def txP (l : BL) (p : Nat) (sh : Bool) : Nat := if txOk l p sh then rdP l p 2 + txN l p else rdP l p 2
def txS (l : BL) (p : Nat) (sh : Bool) : Bool := !txOk l p sh
theorem rdP_le {l : BL} {p n : Nat} (hp : p ≤ l.length) : rdP l p n ≤ l.length := by unfold rdP; split <;> omega

set_option maxRecDepth 100000 in
set_option maxHeartbeats 4000000 in
theorem rtext_any (r b off cap : Nat) (l : BL) (p : Nat) (sh : Bool) (w : World) (hs : Sizes w) (hr : Rd w r (some ⟨b, off, none⟩) cap l p sh) (hl : l.length ≤ 1000000000) (hp : p ≤ l.length) (hcap : l.length ≤ cap) :
    Calls Tryd.prog 62 #[.pointer (some ⟨r, 0, none⟩)] w (RdP w r (some ⟨b, off, none⟩) cap l (.string (ba (txT l p sh))) (txP l p sh) (txS l p sh)) := by
  have HN := hid (rnumber_any r (some ⟨b, off, none⟩) cap l p 2 2 rfl sh w hs hr (by decide) hl (by omega))
  have hpl := rdP_le (n := 2) hp
  have HCAP := hid hcap
  clear hs hr hcap
  go_enter Tryd.func62, Tryd.ntmps62
  go_wp2_with fail
  refine HN.out.mono ?_
  rintro e' w1 ⟨rfl, hr1, hx1⟩
  have HR1 := hid hr1
  have HX1 := hid hx1
  have c0 := rg_cell (show w1.cell? ⟨r, 0, none⟩ = some (.slice (some ⟨b, off, none⟩) l.length cap) from hr1.row.cell' 0)
  have c1 := rg_cell (show w1.cell? ⟨r, 1, none⟩ = some (.int .u64 (rdP l p 2)) from hr1.row.cell' 1)
  have c2 := rg_cell (show w1.cell? ⟨r, 2, none⟩ = some (.bool (rdS l p 2 sh)) from hr1.row.cell' 2)
  have HT := hid (show txT l p sh = if txOk l p sh then (l.drop (rdP l p 2)).take (txN l p) else [] from rfl)
  have HPP := hid (show txP l p sh = if txOk l p sh then rdP l p 2 + txN l p else rdP l p 2 from rfl)
  have HSS := hid (show txS l p sh = !txOk l p sh from rfl)
  have HOK := hid (show txOk l p sh = (!rdS l p 2 sh && decide (rdP l p 2 + txN l p ≤ l.length)) from rfl)
  have hn16 : txN l p ≤ 65535 := txN_le l p
  rw [show rdN l p 2 = txN l p from rfl]
  clear hr1 hx1 HN
  generalize rdP l p 2 = q at *
  generalize txN l p = n at *
  generalize txOk l p sh = ok at *
  cases hsh : rdS l p 2 sh
  · rw [hsh] at HOK HR1 c2
    clear hsh
    have cc := hid (fun d os => rg_same (d := d) (os := os) (inside_any (q : Int) (n : Int) (l.length : Int) (rg w1 d os) (by omega) (by omega)))
    have hwl := IntWalk.u64_in (l.length : Int) (by omega)
    by_cases hfit : q + n ≤ l.length
    · have hin : insB (q : Int) (n : Int) (l.length : Int) = true := by unfold insB; simp; omega
      rw [hin] at cc
      obtain rfl : ok = true := by rw [HOK.out]; simpa using hfit
      clear hin
      go_wp2_with fail
      refine region_rg (by kernel_rfl) (by kernel_rfl) ?_
      repeat (quiet_step (with_reducible exact cc.out _ _))
      refine wpQuiet_nil ?_
      intro _ hw'
      obtain ⟨⟨dq, osq⟩, hw''⟩ := hw'
      subst hw''
      have HW2 := hid (rg_below w1 dq osq)
      have HR2 := hid (HR1.out.below HW2.out)
      have k1 := c1 dq osq
      have z1 := HR2.out.row.frozen 1
      clear c0 c1 c2 cc
      generalize rg w1 dq osq = W2 at *
      have hlt := HR2.out.row.lt
      have hw2 := IntWalk.u64_in ((q : Int) + (n : Int)) (by omega)
      go_wp2_with fail
      have HR3 := hid (HR2.out.setP (q + n))
      have HX3 := hid (((HX1.out.then (HW2.out.mono HX1.out.size)).set 1 (.int .u64 ((q + n : Nat) : Int))))
      rw [show ((q : Int) + (n : Int)) = ((q + n : Nat) : Int) by omega]
      generalize W2.setCell ⟨r, 1, none⟩ (.int .u64 ((q + n : Nat) : Int)) = W3 at *
      have d0 := rg_cell (show W3.cell? ⟨r, 0, none⟩ = some (.slice (some ⟨b, off, none⟩) l.length cap) from HR3.out.row.cell' 0)
      have d1 := rg_cell (show W3.cell? ⟨r, 1, none⟩ = some (.int .u64 ((q + n : Nat) : Int)) from HR3.out.row.cell' 1)
      have hw3 : IntKind.u64.wrap (q : Int) = (q : Int) := IntWalk.u64_in _ (by omega)
      obtain ⟨a', hsl, ha'⟩ := slFTc .u64 .u64 b off l.length cap q (q + n) (q : Int) ((q : Int) + (n : Int)) rfl (by omega) (by omega) (by have := HCAP.out; omega)
      rw [show q + n - q = n by omega] at hsl
      have HBY := hid (fun d os => Byt.mid2 (f := q) (n := n) (byt_rg HR3.out.byt d os) hfit HCAP.out ha')
      have hcv : ∀ d os, (convert 24 9 (.slice a' n (cap - q))).run Tryd.prog (rg W3 d os) = .ok (.string (ba ((l.drop q).take n))) (rg W3 d os) := fun d os => (HBY.out d os).str 24 9 5 (cap - q) Tryd.underlying24 Tryd.underlying5 Tryd.underlying9
      have HT2 := hid (show txT l p sh = (l.drop q).take n by simpa using HT.out)
      have HP2 := hid (show txP l p sh = q + n by simpa using HPP.out)
      have HS2 := hid (show txS l p sh = false by simpa using HSS.out)
      clear HT HPP HSS HOK ha' hw2 hwl hfit
      refine region_rg (by kernel_rfl) (by kernel_rfl) ?_
      repeat (quiet_step (fail))
      refine wpQuiet_nil ?_
      intro _ hw'
      obtain ⟨⟨dq3, osq3⟩, hw''⟩ := hw'
      subst hw''
      have HR4 := hid (HR3.out.below (rg_below W3 dq3 osq3))
      have HX4 := hid (HX3.out.then ((rg_below W3 dq3 osq3).mono HX3.out.size))
      clear d0 d1 hsl hcv
      generalize rg W3 dq3 osq3 = W4 at *
      go_wp2_with fail
      go_ret
      refine ⟨by rw [HT2.out]; rfl, ?_, HX4.out⟩
      rw [HP2.out, HS2.out]
      exact HR4.out
    · have hin : insB (q : Int) (n : Int) (l.length : Int) = false := by unfold insB; simp; omega
      rw [hin] at cc
      obtain rfl : ok = false := by rw [HOK.out]; simp; omega
      clear hin hfit
      go_wp2_with fail
      refine region_rg (by kernel_rfl) (by kernel_rfl) ?_
      repeat (quiet_step (with_reducible exact cc.out _ _))
      refine wpQuiet_nil ?_
      intro _ hw'
      obtain ⟨⟨dq, osq⟩, hw''⟩ := hw'
      subst hw''
      have HW2 := hid (rg_below w1 dq osq)
      have HR2 := hid (HR1.out.below HW2.out)
      have k2 := c2 dq osq
      have z2 := HR2.out.row.frozen 2
      have HX2 := hid (HX1.out.then (HW2.out.mono HX1.out.size))
      have HT2 := hid (show txT l p sh = [] by simpa using HT.out)
      have HP2 := hid (show txP l p sh = q by simpa using HPP.out)
      have HS2 := hid (show txS l p sh = true by simpa using HSS.out)
      clear c0 c1 c2 cc HT HPP HSS HOK
      generalize rg w1 dq osq = W2 at *
      have hlt := HR2.out.row.lt
      go_wp2_with fail
      go_ret
      refine ⟨by rw [HT2.out]; rfl, ?_, HX2.out.set 2 _⟩
      rw [HP2.out, HS2.out]
      exact HR2.out.setS true
  · rw [hsh] at HOK HR1 c2
    clear hsh
    obtain rfl : ok = false := by rw [HOK.out]; rfl
    go_wp2_with fail
    refine region_rg (by kernel_rfl) (by kernel_rfl) ?_
    repeat (first | go_big_quiet_skip | quiet_step (fail))
    refine wpQuiet_nil ?_
    intro _ hw'
    obtain ⟨⟨dq, osq⟩, hw''⟩ := hw'
    subst hw''
    have HW2 := hid (rg_below w1 dq osq)
    have HR2 := hid (HR1.out.below HW2.out)
    have k2 := c2 dq osq
    have z2 := HR2.out.row.frozen 2
    have HX2 := hid (HX1.out.then (HW2.out.mono HX1.out.size))
    have HT2 := hid (show txT l p sh = [] by simpa using HT.out)
    have HP2 := hid (show txP l p sh = q by simpa using HPP.out)
    have HS2 := hid (show txS l p sh = true by simpa using HSS.out)
    clear c0 c1 c2 HT HPP HSS HOK
    generalize rg w1 dq osq = W2 at *
    have hlt := HR2.out.row.lt
    go_wp2_with fail
    go_ret
    refine ⟨by rw [HT2.out]; rfl, ?_, HX2.out.set 2 _⟩
    rw [HP2.out, HS2.out]
    exact HR2.out.setS true
end Go.Proofs.YtcbkikioapdbbaaDoor
namespace Go.Proofs.YtcbkikioapdbbaaDoor
open Go.RowKit Go.Sort
attribute [local go_sem] Oper.semAt_some

/-- Texts that are read, one behind the other. -/
def tsGo (l : BL) : Nat → Nat → Bool → List BL × Nat × Bool
  | 0, p, sh => ([], p, sh)
  | n + 1, p, sh => let z := tsGo l n p sh; (z.1 ++ [txT l z.2.1 z.2.2], txP l z.2.1 z.2.2, txS l z.2.1 z.2.2)
def tsT (l : BL) (p : Nat) (sh : Bool) : List BL := (tsGo l (rdN l p 1) (rdP l p 1) (rdS l p 1 sh)).1
def tsP (l : BL) (p : Nat) (sh : Bool) : Nat := (tsGo l (rdN l p 1) (rdP l p 1) (rdS l p 1 sh)).2.1
def tsS (l : BL) (p : Nat) (sh : Bool) : Bool := (tsGo l (rdN l p 1) (rdP l p 1) (rdS l p 1 sh)).2.2
theorem txP_le {l : BL} {p : Nat} {sh : Bool} (hp : p ≤ l.length) : txP l p sh ≤ l.length := by
  unfold txP
  split
  · rename_i h
    unfold txOk at h
    simp only [Bool.and_eq_true, decide_eq_true_eq] at h
    exact h.2
  · exact rdP_le hp
theorem tsGo_le {l : BL} {p : Nat} {sh : Bool} (hp : p ≤ l.length) : ∀ n, (tsGo l n p sh).2.1 ≤ l.length
  | 0 => hp
  | n + 1 => txP_le (tsGo_le hp n)
theorem tsGo_len (l : BL) (p : Nat) (sh : Bool) : ∀ n, (tsGo l n p sh).1.length = n
  | 0 => rfl
  | n + 1 => by
    have := tsGo_len l p sh n
    simp only [tsGo, List.length_append, List.length_cons, List.length_nil, this]
theorem rdN1_le (l : BL) (p : Nat) : rdN l p 1 ≤ 255 := by
  unfold rdN
  split
  · have h := le_take_lt l p 1 (by omega)
    have e : (256 : Nat) ^ 1 = 256 := rfl
    omega
  · omega
theorem Rd.move {w w' : World} {B r b off cap p : Nat} {l : BL} {sh : Bool} (h : Rd w r (some ⟨b, off, none⟩) cap l p sh) (hb : Below B w w') (hr : r < B) (hbB : b < B) : Rd w' r (some ⟨b, off, none⟩) cap l p sh :=
  ⟨h.row.below hb hr, ⟨h.byt.hlen, fun i hi => by
    obtain ⟨b', off', e, hc⟩ := h.byt.cell i hi
    cases e
    exact ⟨b, off, rfl, (hb.cell (p := ⟨b, off + i, none⟩) hbB).trans hc⟩⟩, h.ne⟩

def RdsP (w : World) (r : Nat) (a : Option Addr) (cap : Nat) (l : BL) (ds : List BL) (p : Nat) (sh : Bool) (e : Ending) (w' : World) : Prop := ∃ v, e = .returned v ∧ OwnS w' w.heap.size v ds ∧ Rd w' r a cap l p sh ∧ X1 w w' r

set_option maxRecDepth 100000 in
set_option maxHeartbeats 4000000 in
theorem rtexts_any (r b off cap : Nat) (l : BL) (p : Nat) (sh : Bool) (w : World) (hs : Sizes w) (hg : 0 < w.heap.size) (hgr : 0 ≠ r) (hr : Rd w r (some ⟨b, off, none⟩) cap l p sh) (hb : b < w.heap.size) (hl : l.length ≤ 1000000000) (hp : p ≤ l.length) (hcap : l.length ≤ cap) :
    Calls Tryd.prog 63 #[.pointer (some ⟨r, 0, none⟩)] w (RdsP w r (some ⟨b, off, none⟩) cap l (tsT l p sh) (tsP l p sh) (tsS l p sh)) := by
  have HN := hid (rnumber_any r (some ⟨b, off, none⟩) cap l p 1 1 rfl sh w hs hr (by decide) hl (by omega))
  have hpl := rdP_le (n := 1) hp
  have hn1 := rdN1_le l p
  have HRL := hid hr.row.lt
  have HBL := hid hb
  have HSZ := hid (fun (w' : World) (hx : X1 w w' r) => show Sizes w' from by
    have e : ∀ o, w'.cell? ⟨0, o, none⟩ = w.cell? ⟨0, o, none⟩ := fun o => by
      unfold World.cell?
      rw [hx.block _ hg hgr]
    exact ⟨(e 0).trans hs.c0, (e 1).trans hs.c1, (e 2).trans hs.c2, (e 3).trans hs.c3⟩)
  have HT := hid (fun (w' : World) (hx : X1 w w' r) (q : Nat) (s : Bool) (hq : q ≤ l.length) (h : Rd w' r (some ⟨b, off, none⟩) cap l q s) => rtext_any r b off cap l q s w' (HSZ.out w' hx) h hl hq hcap)
  have HFIN := hid (show (tsT l p sh = (tsGo l (rdN l p 1) (rdP l p 1) (rdS l p 1 sh)).1) ∧ (tsP l p sh = (tsGo l (rdN l p 1) (rdP l p 1) (rdS l p 1 sh)).2.1) ∧ tsS l p sh = (tsGo l (rdN l p 1) (rdP l p 1) (rdS l p 1 sh)).2.2 from ⟨rfl, rfl, rfl⟩)
  clear hs hr hg hgr hb hcap
  go_enter Tryd.func63, Tryd.ntmps63
  go_wp2_with fail
  refine HN.out.mono ?_
  rintro e' w1 ⟨rfl, hr1, hx1⟩
  have HR1 := hid hr1
  have HX1 := hid hx1
  clear hr1 hx1 HN
  generalize rdP l p 1 = q at *
  generalize rdN l p 1 = n at *
  generalize rdS l p 1 sh = s at *
  go_wp2_with fail
  go_loopw [3, 6] (fun v i wr => ∃ k : Nat, k ≤ n ∧ i = .int .u64 k ∧ OwnS wr w.heap.size v (tsGo l k q s).1 ∧ Rd wr r (some ⟨b, off, none⟩) cap l (tsGo l k q s).2.1 (tsGo l k q s).2.2 ∧ X1 w wr r) (fun _ i _ => n - (intOf i).toNat)
  case atStart => exact ⟨0, Nat.zero_le _, rfl, ownS_nil _ _, HR1.out, HX1.out⟩
  case round =>
    obtain ⟨k, hk, rfl, hown, hrd, hxr⟩ := hrel
    rename World => wA
    have HO := hid hown
    have HRD := hid hrd
    have HX := hid hxr
    have hzl := tsGo_len l q s k
    clear hown hrd hxr
    by_cases hlt : k < n
    · have d1 : decide ((k : Int) < (n : Int)) = true := by simp; omega
      have d1n : decide (k < n) = true := by simp; omega
      have HTX := hid (HT.out wA HX.out _ _ (tsGo_le hpl k) HRD.out)
      have HST := hid (show (tsGo l (k + 1) q s) = ((tsGo l k q s).1 ++ [txT l (tsGo l k q s).2.1 (tsGo l k q s).2.2], txP l (tsGo l k q s).2.1 (tsGo l k q s).2.2, txS l (tsGo l k q s).2.1 (tsGo l k q s).2.2) from rfl)
      have hdl : (tsGo l k q s).1.length ≤ 8000000000000 := by omega
      generalize txT l (tsGo l k q s).2.1 (tsGo l k q s).2.2 = t at *
      generalize txP l (tsGo l k q s).2.1 (tsGo l k q s).2.2 = q2 at *
      generalize txS l (tsGo l k q s).2.1 (tsGo l k q s).2.2 = s2 at *
      have HDL := hid hdl
      clear hdl hzl
      generalize (tsGo l k q s).1 = ds at *
      obtain ⟨ua, uc, rfl⟩ := own_hd2 HO.out
      go_wp2_with fail
      refine HTX.out.mono ?_
      rintro e' w5 ⟨rfl, hr5, hx5⟩
      have HR5 := hid hr5
      have HX5 := hid (HX.out.trans hx5)
      have HO5 := hid (hx5.own HO.out (own_ne HO.out (.inl HRL.out)))
      clear hr5 hx5
      have HZ := hid HX5.out.size
      go_wp2_with (at_builtin; go_must (refine wpList_appS rfl _ _ rfl w.heap.size (.slice ua ds.length uc) ds (ba t) rfl rfl HO5.out HDL.out HZ.out ?_; intro v' w9 hown hgrow hb9 hsz9 _; have HO9 := hid hown; have HB9 := hid hb9; obtain ⟨ga, gc, rfl⟩ := own_hd2 hown; clear hown hgrow hb9))
      go_roundw
      case rel => exact ⟨k + 1, by omega, by go_num, by rw [HST.out]; exact own_ext HO9.out (by simp) (by rw [ba_list]), by rw [HST.out]; exact HR5.out.move HB9.out HRL.out HBL.out, HX5.out.then HB9.out⟩
      case measure => simp [intOf]; omega
    · have d1 : decide ((k : Int) < (n : Int)) = false := by simp; omega
      have d1n : decide (k < n) = false := by simp; omega
      obtain rfl : k = n := by omega
      obtain ⟨ua, uc, rfl⟩ := own_hd2 HO.out
      go_wp2_with fail
      go_ret
      obtain ⟨f1, f2, f3⟩ := HFIN.out
      refine ⟨_, rfl, ?_, ?_, HX.out⟩
      · rw [f1]; exact HO.out
      · rw [f2, f3]; exact HRD.out
end Go.Proofs.YtcbkikioapdbbaaDoor
namespace Go.Proofs.YtcbkikioapdbbaaDoor
open Go.RowKit Go.Sort
attribute [local go_sem] Oper.semAt_some

/-- A call that is being read: its box, its own lists. -/
structure CIn (w : World) (base cb : Nat) (x : CG) : Prop where
  row : Row w cb 26 (cgC x)
  argv : w.ownsRow base 9 1 (.slice x.va x.argv.length x.vc) x.argv.length (strs x.argv)
  env : w.ownsRow base 9 1 (.slice x.ea x.env.length x.ec) x.env.length (strs x.env)
  bytes : w.ownsRow base 5 1 (.slice x.ya x.bytes.length x.yc) x.bytes.length (x.bytes.map B8)
theorem CIn.x1 {w w' : World} {base cb r : Nat} {x : CG} (h : CIn w base cb x) (hx : X1 w w' r) (hr : r < base) (hne : cb ≠ r) : CIn w' base cb x :=
  ⟨hx.row h.row hne, hx.own h.argv (own_ne h.argv (.inl hr)), hx.own h.env (own_ne h.env (.inl hr)), hx.own h.bytes (own_ne h.bytes (.inl hr))⟩
theorem CIn.setC {w : World} {base cb j : Nat} {x y : CG} {u : Value} (h : CIn w base cb x) (hb : cb < base) (hy : (cgC x).set j u = cgC y)
    (h1 : w.ownsRow base 9 1 (.slice y.va y.argv.length y.vc) y.argv.length (strs y.argv)) (h2 : w.ownsRow base 9 1 (.slice y.ea y.env.length y.ec) y.env.length (strs y.env)) (h3 : w.ownsRow base 5 1 (.slice y.ya y.bytes.length y.yc) y.bytes.length (y.bytes.map B8)) :
    CIn (w.setCell ⟨cb, j, none⟩ u) base cb y :=
  ⟨by rw [← hy]; exact h.row.set j u, own_setLow h1 hb u, own_setLow h2 hb u, own_setLow h3 hb u⟩
/-- The data of a call, without where its lists lie. -/
structure PC where
  kind : Nat
  nums : Nat × Nat × Nat × Nat × Nat
  path : BL
  argv : List BL
  env : List BL
  bytes : BL
def pcOf (x : CG) : PC := ⟨x.kind, (x.a, x.b, x.c, x.d, x.e), x.path, x.argv, x.env, x.bytes⟩
def setNm (x : PC) (f v : Nat) : PC := match f with
  | 0 => { x with nums := (v, x.nums.2) }
  | 1 => { x with nums := (x.nums.1, v, x.nums.2.2) }
  | 2 => { x with nums := (x.nums.1, x.nums.2.1, v, x.nums.2.2.2) }
  | 3 => { x with nums := (x.nums.1, x.nums.2.1, x.nums.2.2.1, v, x.nums.2.2.2.2) }
  | _ => { x with nums := (x.nums.1, x.nums.2.1, x.nums.2.2.1, x.nums.2.2.2.1, v) }
def setCm (x : CG) (f v : Nat) : CG := match f with
  | 0 => { x with a := v }
  | 1 => { x with b := v }
  | 2 => { x with c := v }
  | 3 => { x with d := v }
  | _ => { x with e := v }
theorem setCm_c (x : CG) (f v : Nat) (hf : f < 5) : (cgC x).set (1 + f) (.int .u64 (v : Nat)) = cgC (setCm x f v) ∧ pcOf (setCm x f v) = setNm (pcOf x) f v := by
  have hcase : f = 0 ∨ f = 1 ∨ f = 2 ∨ f = 3 ∨ f = 4 := by omega
  rcases hcase with rfl | rfl | rfl | rfl | rfl <;> exact ⟨rfl, rfl⟩
theorem setCm_l (x : CG) (f v : Nat) (hf : f < 5) : (setCm x f v).va = x.va ∧ (setCm x f v).vc = x.vc ∧ (setCm x f v).argv = x.argv ∧ (setCm x f v).ea = x.ea ∧ (setCm x f v).ec = x.ec ∧ (setCm x f v).env = x.env ∧ (setCm x f v).ya = x.ya ∧ (setCm x f v).yc = x.yc ∧ (setCm x f v).bytes = x.bytes := by
  have hcase : f = 0 ∨ f = 1 ∨ f = 2 ∨ f = 3 ∨ f = 4 := by omega
  rcases hcase with rfl | rfl | rfl | rfl | rfl <;> exact ⟨rfl, rfl, rfl, rfl, rfl, rfl, rfl, rfl, rfl⟩
/-- A field that is read: the call, the place, the mark. -/
def fldR (l : BL) (f : Nat) (z : PC × Nat × Bool) : PC × Nat × Bool :=
  if f = 5 then ({ z.1 with path := txT l z.2.1 z.2.2 }, txP l z.2.1 z.2.2, txS l z.2.1 z.2.2)
  else if f = 6 then ({ z.1 with argv := tsT l z.2.1 z.2.2 }, tsP l z.2.1 z.2.2, tsS l z.2.1 z.2.2)
  else if f = 7 then ({ z.1 with env := tsT l z.2.1 z.2.2 }, tsP l z.2.1 z.2.2, tsS l z.2.1 z.2.2)
  else if f = 8 then ({ z.1 with bytes := z.1.bytes ++ txT l z.2.1 z.2.2 }, txP l z.2.1 z.2.2, txS l z.2.1 z.2.2)
  else (setNm z.1 f (rdN l z.2.1 8), rdP l z.2.1 8, rdS l z.2.1 8 z.2.2)
theorem CIn.setNum {w : World} {base cb f v : Nat} {x : CG} (h : CIn w base cb x) (hb : cb < base) (hf : f < 5) : CIn (w.setCell ⟨cb, 1 + f, none⟩ (.int .u64 (v : Nat))) base cb (setCm x f v) := by
  obtain ⟨e1, e2, e3, e4, e5, e6, e7, e8, e9⟩ := setCm_l x f v hf
  refine h.setC hb (setCm_c x f v hf).1 ?_ ?_ ?_
  · rw [e1, e2, e3]; exact h.argv
  · rw [e4, e5, e6]; exact h.env
  · rw [e7, e8, e9]; exact h.bytes
theorem CIn.setPath {w : World} {base cb : Nat} {x : CG} (h : CIn w base cb x) (hb : cb < base) (t : BL) : CIn (w.setCell ⟨cb, 6, none⟩ (.string (ba t))) base cb { x with path := t } :=
  h.setC hb rfl h.argv h.env h.bytes
end Go.Proofs.YtcbkikioapdbbaaDoor
namespace Go.Proofs.YtcbkikioapdbbaaDoor
open Go.RowKit Go.Sort

theorem step_apT {ops : Array Oper} {o : Oper} {a : Act} {w : World} {K : Act → World → Prop} {Q : Exit → Act → World → Prop} {E : Prop} (hgd : o.guard = none) (s x : Operand)
    (ho : o.op = .call { callee := .builtin .append, args := #[s, x], argTypes := #[24, 9] })
    (base : Nat) (v : Value) (n : Nat) (xs : List Value) (l : BL) (hs : a.eval s = v) (hx : a.eval x = .string (ba l)) (hown : w.ownsRow base 5 1 v n xs) (hn : n + l.length ≤ 140737488355328) (hbase : base ≤ w.heap.size)
    (h : ∀ ga gc w', w'.ownsRow base 5 1 (.slice ga (n + l.length) gc) (n + l.length) (xs ++ l.map B8) → w.grownBy w' v.ownBlock → Below base w w' → K (a.put o.dst (.slice ga (n + l.length) gc)) w') :
    if Region.wanted o (yielded ops a.tmps) = true then Oper.wp Tryd.prog o a w K Q else E := by
  have hw : Region.wanted o (yielded ops a.tmps) = true := by simp [Region.wanted, hgd]
  rw [if_pos hw]
  obtain ⟨i, h1, h2, h3, h4⟩ := info_u8
  obtain ⟨v', w', hr, g1, g2, _⟩ := Go.Lib.run_append_own_string (P := Tryd.prog) w base 24 9 o.type _ i Tryd.underlying24 Tryd.underlying9 h1 h2 h3 h4 v n xs hown (ba l) (by rw [ba_size]; unfold maxLen; omega) (by rw [ba_size]; omega) hbase
  rw [ba_size, strCells_ba] at g1
  obtain ⟨ga, gc, rfl⟩ := own_hd2 g1
  have hk := h ga gc w' g1 g2 ((Below.refl _ w).grown g2 hbase (fun k hk => (hown.lt k hk).1))
  unfold Oper.wp execOp
  simp only [ho, resolve, invoke, builtin, Sem.run_bind, Sem.run_pure, Result.andThen_ok, List.map_toArray, List.map_cons, List.map_nil, hs, hx, hr]
  exact hk
end Go.Proofs.YtcbkikioapdbbaaDoor
namespace Go.Proofs.YtcbkikioapdbbaaDoor
open Go.RowKit Go.Sort
attribute [local go_sem] Oper.semAt_some

theorem Rd.x1 {w w' : World} {r cap p k : Nat} {a : Option Addr} {l : BL} {sh : Bool} (h : Rd w r a cap l p sh) (hx : X1 w w' k) (hr : r ≠ k) (hne : ∀ b, a = some b → b.block ≠ k) : Rd w' r a cap l p sh := ⟨hx.row h.row hr, hx.byt h.byt hne, h.ne⟩
/-- Below base all blocks stand but two. -/
structure XB (base : Nat) (w w' : World) (r s : Nat) : Prop where
  os : w'.os = w.os
  tape : w'.tape = w.tape
  output : w'.output = w.output
  size : w.heap.size ≤ w'.heap.size
  block : ∀ k, k < base → k ≠ r → k ≠ s → w'.heap[k]? = w.heap[k]?
theorem XB.ofL {base : Nat} {w w' : World} {r s : Nat} (h : X1 w w' r) (hb : base ≤ w.heap.size) : XB base w w' r s := ⟨h.os, h.tape, h.output, h.size, fun k hk h1 _ => h.block k (by omega) h1⟩
theorem XB.then {base : Nat} {w w1 w2 : World} {r s : Nat} (h : XB base w w1 r s) (k : Below base w1 w2) : XB base w w2 r s :=
  ⟨k.os.trans h.os, k.tape.trans h.tape, k.output.trans h.output, Nat.le_trans h.size k.size, fun i hi h1 h2 => (k.block i hi).trans (h.block i hi h1 h2)⟩
theorem XB.set {base : Nat} {w w' : World} {r s : Nat} (h : XB base w w' r s) (o : Nat) (u : Value) : XB base w (w'.setCell ⟨s, o, none⟩ u) r s := by
  have hs : (w'.setCell ⟨s, o, none⟩ u).heap.size = w'.heap.size := by simp [World.setCell]
  exact ⟨h.os, h.tape, h.output, by rw [hs]; exact h.size, fun k hk h1 h2 => by rw [heap_setCell_other w' _ k u (by simpa using h2)]; exact h.block k hk h1 h2⟩
theorem own_two_ne {w : World} {base base' E E' n n' : Nat} {v v' : Value} {xs xs' : List Value} (h : w.ownsRow base E 1 v n xs) (h' : w.ownsRow base' E' 1 v' n' xs') (hE : E ≠ E') : v.ownBlock = none ∨ v.ownBlock ≠ v'.ownBlock := by
  rcases h'.2 with ⟨h1, _⟩ | ⟨g, cap, cur, rfl, _, hg, _⟩
  · rcases h.2 with ⟨h2, _⟩ | ⟨g2, cap2, cur2, rfl, _⟩
    · exact .inl (by rw [h2]; rfl)
    · exact .inr (by rw [h1]; exact fun e => by cases e)
  · right
    have hr : Row w g E' cur.toList := ⟨by simpa using hg⟩
    exact fun e => own_row_ne h hr hE.symm e.symm
theorem CIn.setBytes {w : World} {base cb : Nat} {x : CG} {ga : Option Addr} {gc : Nat} {t : BL} (hr : Row w cb 26 (cgC x)) (h1 : w.ownsRow base 9 1 (.slice x.va x.argv.length x.vc) x.argv.length (strs x.argv)) (h2 : w.ownsRow base 9 1 (.slice x.ea x.env.length x.ec) x.env.length (strs x.env))
    (h3 : w.ownsRow base 5 1 (.slice ga (x.bytes.length + t.length) gc) (x.bytes.length + t.length) (x.bytes.map B8 ++ t.map B8)) (hb : cb < base) :
    CIn (w.setCell ⟨cb, 9, none⟩ (.slice ga (x.bytes.length + t.length) gc)) base cb { x with ya := ga, yc := gc, bytes := x.bytes ++ t } := by
  have e : x.bytes.length + t.length = (x.bytes ++ t).length := by rw [List.length_append]
  rw [e] at h3 ⊢
  exact ⟨hr.set 9 _, own_setLow h1 hb _, own_setLow h2 hb _, own_setLow (own_ext h3 rfl (by rw [List.map_append])) hb _⟩
def FldP (w : World) (base r cb : Nat) (a : Option Addr) (cap : Nat) (l : BL) (z : PC × Nat × Bool) (e : Ending) (w' : World) : Prop :=
  e = .returned (.tuple #[]) ∧ ∃ x, CIn w' base cb x ∧ pcOf x = z.1 ∧ Rd w' r a cap l z.2.1 z.2.2 ∧ XB base w w' r cb

set_option maxRecDepth 100000 in
set_option maxHeartbeats 4000000 in
theorem rfield_any (base r cb b off cap f : Nat) (l : BL) (p : Nat) (sh : Bool) (x : CG) (w : World) (hf : f < 9) (hs : Sizes w) (hg : 0 < w.heap.size) (hgr : 0 ≠ r) (hr : Rd w r (some ⟨b, off, none⟩) cap l p sh) (hbb : b < base) (hl : l.length ≤ 1000000000) (hp : p ≤ l.length) (hcap : l.length ≤ cap)
    (hc : CIn w base cb x) (hrb : r < base) (hcb : cb < base) (hbase : base ≤ w.heap.size) (hbc : b ≠ cb) (hrc : r ≠ cb) (hxb : x.bytes.length ≤ 1000000000) :
    Calls Tryd.prog 50 #[.pointer (some ⟨r, 0, none⟩), .pointer (some ⟨cb, 0, none⟩), .int .i64 (f : Nat)] w (FldP w base r cb (some ⟨b, off, none⟩) cap l (fldR l f (pcOf x, p, sh))) := by
  have hb : b < w.heap.size := by omega
  have HT := hid (rtext_any r b off cap l p sh w hs hr hl hp hcap)
  have HTS := hid (rtexts_any r b off cap l p sh w hs hg hgr hr hb hl hp hcap)
  have HC := hid hc
  have HNE := hid (show ∀ d : Addr, some ⟨b, off, none⟩ = some d → d.block ≠ cb by intro d e; cases e; exact hbc)
  by_cases h5 : f = 5
  · subst h5
    clear hs hr hc
    go_enter Tryd.func50, Tryd.ntmps50
    go_wp2_with fail
    refine HT.out.mono ?_
    rintro e' w1 ⟨rfl, hr1, hx1⟩
    have HR1 := hid hr1
    have HX1 := hid hx1
    have HC1 := hid (HC.out.x1 hx1 hrb hrc.symm)
    clear hr1 hx1
    have z6 := HC1.out.row.frozen 6
    have k6 : w1.cell? ⟨cb, 6, none⟩ = some (.string (ba x.path)) := HC1.out.row.cell' 6
    have hlt := HC1.out.row.lt
    go_wp2_with fail
    exact bodyPost_end (results_none rfl _ _ _) rfl ⟨rfl, _, HC1.out.setPath hcb _, rfl, HR1.out.x1 ((X1.refl _ cb).set 6 _) hrc HNE.out, (XB.ofL HX1.out hbase).set 6 _⟩
  by_cases h6 : f = 6
  · subst h6
    clear hs hr hc
    go_enter Tryd.func50, Tryd.ntmps50
    go_wp2_with fail
    refine HTS.out.mono ?_
    rintro e' w1 ⟨v, rfl, ho1, hr1, hx1⟩
    have HR1 := hid hr1
    have HX1 := hid hx1
    have HC1 := hid (HC.out.x1 hx1 hrb hrc.symm)
    obtain ⟨ga, gc, rfl⟩ := own_hd2 ho1
    have HO1 := hid (own_from ho1 hbase)
    clear hr1 hx1 ho1
    have z7 := HC1.out.row.frozen 7
    have k7 : w1.cell? ⟨cb, 7, none⟩ = some (.slice x.va x.argv.length x.vc) := HC1.out.row.cell' 7
    have hlt := HC1.out.row.lt
    go_wp2_with fail
    exact bodyPost_end (results_none rfl _ _ _) rfl ⟨rfl, { x with va := ga, vc := gc, argv := tsT l p sh }, HC1.out.setC hcb rfl HO1.out HC1.out.env HC1.out.bytes, rfl, HR1.out.x1 ((X1.refl _ cb).set 7 _) hrc HNE.out, (XB.ofL HX1.out hbase).set 7 _⟩
  by_cases h7 : f = 7
  · subst h7
    clear hs hr hc
    go_enter Tryd.func50, Tryd.ntmps50
    go_wp2_with fail
    refine HTS.out.mono ?_
    rintro e' w1 ⟨v, rfl, ho1, hr1, hx1⟩
    have HR1 := hid hr1
    have HX1 := hid hx1
    have HC1 := hid (HC.out.x1 hx1 hrb hrc.symm)
    obtain ⟨ga, gc, rfl⟩ := own_hd2 ho1
    have HO1 := hid (own_from ho1 hbase)
    clear hr1 hx1 ho1
    have z8 := HC1.out.row.frozen 8
    have k8 : w1.cell? ⟨cb, 8, none⟩ = some (.slice x.ea x.env.length x.ec) := HC1.out.row.cell' 8
    have hlt := HC1.out.row.lt
    go_wp2_with fail
    exact bodyPost_end (results_none rfl _ _ _) rfl ⟨rfl, { x with ea := ga, ec := gc, env := tsT l p sh }, HC1.out.setC hcb rfl HC1.out.argv HO1.out HC1.out.bytes, rfl, HR1.out.x1 ((X1.refl _ cb).set 8 _) hrc HNE.out, (XB.ofL HX1.out hbase).set 8 _⟩
  by_cases h8 : f = 8
  · subst h8
    have HT8 := hid (rtext_any r b off cap l p sh w.drew (hs.below (drewN_below w 1)) (hr.below (drewN_below w 1)) hl hp hcap)
    have hcd : CIn w.drew base cb x := ⟨⟨hc.row.heap⟩, hc.argv.drew, hc.env.drew, hc.bytes.drew⟩
    have HCD := hid hcd
    have hS : w.drew.cell? ⟨cb, 9, none⟩ = some (.slice x.ya x.bytes.length x.yc) := hcd.row.cell' 9
    have hyl : x.bytes.length + (txT l p sh).length ≤ 140737488355328 := by
      have h1 : (txT l p sh).length ≤ l.length := by
        unfold txT
        split
        · rw [List.length_take, List.length_drop]; omega
        · simp
      omega
    have HYL := hid hyl
    clear hs hr hc hcd hyl
    go_enter Tryd.func50, Tryd.ntmps50
    go_wp2_with fail
    refine region_sk 10 (fun ww : World => ww.cell? ⟨cb, 9, none⟩ = some (.slice x.ya x.bytes.length x.yc)) (by kernel_rfl) (fun inv => ?_)
    refine sk_take (i := 0) (v := ?_) (some 36) rfl rfl (by kernel_rfl) (by kernel_rfl) (by decide) (by decide) inv (by kernel_rfl) (by kernel_rfl) (fun _ _ _ h => h) (Or.inl ⟨by rfl, ?_⟩) hS (fun inv => ?_)
    rotate_left
    · intro ww hSw
      go_simp
      try with_reducible rfl
    simp only [Act.put, List.setIfInBounds_toArray, List.set_cons_zero, List.set_cons_succ]
    refine sk_take (i := 1) (v := ?_) (some 37) rfl rfl (by kernel_rfl) (by kernel_rfl) (by decide) (by decide) inv (by kernel_rfl) (by kernel_rfl) (fun _ _ _ h => h) (Or.inl ⟨by rfl, ?_⟩) hS (fun inv => ?_)
    rotate_left
    · intro ww hSw
      go_simp
      try with_reducible rfl
    simp only [Act.put, List.setIfInBounds_toArray, List.set_cons_zero, List.set_cons_succ]
    refine sk_take (i := 2) (v := ?_) (some 38) rfl rfl (by kernel_rfl) (by kernel_rfl) (by decide) (by decide) inv (by kernel_rfl) (by kernel_rfl) (fun _ _ _ h => h) (Or.inl ⟨by rfl, ?_⟩) hS (fun inv => ?_)
    rotate_left
    · intro ww hSw
      go_simp
      try with_reducible rfl
    simp only [Act.put, List.setIfInBounds_toArray, List.set_cons_zero, List.set_cons_succ]
    refine sk_take (i := 3) (v := ?_) (some 39) rfl rfl (by kernel_rfl) (by kernel_rfl) (by decide) (by decide) inv (by kernel_rfl) (by kernel_rfl) (fun _ _ _ h => h) (Or.inl ⟨by rfl, ?_⟩) hS (fun inv => ?_)
    rotate_left
    · intro ww hSw
      go_simp
      try with_reducible rfl
    simp only [Act.put, List.setIfInBounds_toArray, List.set_cons_zero, List.set_cons_succ]
    refine sk_take (i := 4) (v := ?_) (some 40) rfl rfl (by kernel_rfl) (by kernel_rfl) (by decide) (by decide) inv (by kernel_rfl) (by kernel_rfl) (fun _ _ _ h => h) (Or.inl ⟨by rfl, ?_⟩) hS (fun inv => ?_)
    rotate_left
    · intro ww hSw
      go_simp
      try with_reducible rfl
    simp only [Act.put, List.setIfInBounds_toArray, List.set_cons_zero, List.set_cons_succ]
    refine sk_take (i := 5) (v := ?_) (some 41) rfl rfl (by kernel_rfl) (by kernel_rfl) (by decide) (by decide) inv (by kernel_rfl) (by kernel_rfl) (fun _ _ _ h => h) (Or.inl ⟨by rfl, ?_⟩) hS (fun inv => ?_)
    rotate_left
    · intro ww hSw
      go_simp
      try with_reducible rfl
    simp only [Act.put, List.setIfInBounds_toArray, List.set_cons_zero, List.set_cons_succ]
    refine sk_one (i := 6) (by kernel_rfl) rfl inv (fun K hK => ?_)
    rw [if_pos (by rfl)]
    go_simp
    refine HT8.out.mono ?_
    rintro e' w1 ⟨rfl, hr1, hx1⟩
    have hx2 : X1 w w1 r := (X1.of r (drewN_below w 1)).trans hx1
    have HR1 := hid hr1
    have HX1 := hid hx2
    have HC1 := hid (HCD.out.x1 hx1 hrb hrc.symm)
    have hS : w1.cell? ⟨cb, 9, none⟩ = some (.slice x.ya x.bytes.length x.yc) := HC1.out.row.cell' 9
    have HZ1 := hid (Nat.le_trans hbase HX1.out.size)
    clear hr1 hx1 hx2
    refine hK.out _ _ (fun _ => hS) (fun inv => ?_)
    have inv := inv (by decide)
    clear hK K
    try simp only [Act.put, List.setIfInBounds_toArray, List.set_cons_zero, List.set_cons_succ]
    refine sk_one (i := 7) (by kernel_rfl) rfl inv (fun K hK => ?_)
    refine step_apT (by rfl) _ _ (by rfl) base (.slice x.ya x.bytes.length x.yc) x.bytes.length (x.bytes.map B8) (txT l p sh) (by rfl) (by rfl) HC1.out.bytes HYL.out HZ1.out ?_
    intro ga gc w7 hown hgrow hb7
    have HB7 := hid hb7
    have HO7 := hid hown
    have hr7 := HC1.out.row.below hb7 hcb
    have z7 := hr7.frozen 9
    have l7 := hr7.lt
    have hS : w7.cell? ⟨cb, 9, none⟩ = some (.slice x.ya x.bytes.length x.yc) := hr7.cell' 9
    have HA7 := hid (HC1.out.argv.kept hgrow (own_two_ne HC1.out.argv HC1.out.bytes (by decide)))
    have HE7 := hid (HC1.out.env.kept hgrow (own_two_ne HC1.out.env HC1.out.bytes (by decide)))
    have HR7 := hid (HR1.out.move HB7.out hrb hbb)
    have HROW7 := hid hr7
    refine hK.out _ _ (fun _ => hS) (fun inv => ?_)
    have inv := inv (by decide)
    clear hK K hown hgrow hb7 hr7
    try simp only [Act.put, List.setIfInBounds_toArray, List.set_cons_zero, List.set_cons_succ]
    refine sk_take (i := 8) (v := ?_) (some 44) rfl rfl (by kernel_rfl) (by kernel_rfl) (by decide) (by decide) inv (by kernel_rfl) (by kernel_rfl) (fun _ _ _ h => h) (Or.inl ⟨by rfl, ?_⟩) hS (fun inv => ?_)
    rotate_left
    · intro ww hSw
      go_simp
      try with_reducible rfl
    simp only [Act.put, List.setIfInBounds_toArray, List.set_cons_zero, List.set_cons_succ]
    refine sk_take (i := 9) (v := ?_) (some 45) rfl rfl (by kernel_rfl) (by kernel_rfl) (by decide) (by decide) inv (by kernel_rfl) (by kernel_rfl) (fun _ _ _ h => h) (Or.inl ⟨by rfl, ?_⟩) hS (fun inv => ?_)
    rotate_left
    · intro ww hSw
      go_simp
      try with_reducible rfl
    simp only [Act.put, List.setIfInBounds_toArray, List.set_cons_zero, List.set_cons_succ]
    refine sk_one (i := 10) (by kernel_rfl) rfl inv (fun K hK => ?_)
    rw [if_pos (by rfl)]
    go_simp
    refine hK.out _ _ (fun h => absurd h (by decide)) (fun _ => ?_)
    clear hK K
    refine sk_done (by kernel_rfl) ?_ _
    go_wp2_with fail
    exact bodyPost_end (results_none rfl _ _ _) rfl ⟨rfl, _, CIn.setBytes HROW7.out HA7.out HE7.out HO7.out hcb, rfl, HR7.out.x1 ((X1.refl _ cb).set 9 _) hrc HNE.out, ((XB.ofL HX1.out hbase).then HB7.out).set 9 _⟩
  have hf5 : f < 5 := by omega
  have HFL := hid (show fldR l f (pcOf x, p, sh) = (setNm (pcOf x) f (rdN l p 8), rdP l p 8, rdS l p 8 sh) by unfold fldR; rw [if_neg h5, if_neg h6, if_neg h7, if_neg h8])
  have b5 : decide ((f : Int) = 5) = false := by simp; omega
  have b6 : decide ((f : Int) = 6) = false := by simp; omega
  have b7 : decide ((f : Int) = 7) = false := by simp; omega
  have b8 : decide ((f : Int) = 8) = false := by simp; omega
  have HN := hid (fun n => rnumber_any r (some ⟨b, off, none⟩) cap l p 8 8 rfl sh (w.drewN n) (hs.below (drewN_below w n)) (hr.below (drewN_below w n)) (by decide) hl (by omega))
  clear hs hr hc
  go_enter Tryd.func50, Tryd.ntmps50
  go_wp2_with fail
  refine (number_any _ _ hf5 w).mono ?_
  rintro e' w2 ⟨rfl, n, rfl⟩
  go_wp2_with fail
  refine (HN.out n).mono ?_
  rintro e' w1 ⟨rfl, hr1, hx1⟩
  have hx2 : X1 w w1 r := (X1.of r (drewN_below w n)).trans hx1
  have HR1 := hid hr1
  have HX1 := hid hx2
  have HC1 := hid (HC.out.x1 hx2 hrb hrc.symm)
  clear hr1 hx1 hx2
  have z9 := HC1.out.row.frozen (1 + f)
  have hlt := HC1.out.row.lt
  have hcf : w1.cell? ⟨cb, 1 + f, none⟩ = some (.int .u64 (nmN x f)) := (HC1.out.row.cell' (1 + f)).trans (nm_cell x f hf5)
  go_wp2_with fail
  exact bodyPost_end (results_none rfl _ _ _) rfl ⟨rfl, _, HC1.out.setNum hcb hf5, by rw [HFL.out]; exact (setCm_c x f _ hf5).2, by rw [HFL.out]; exact HR1.out.x1 ((X1.refl _ cb).set _ _) hrc HNE.out, (XB.ofL HX1.out hbase).set _ _⟩
end Go.Proofs.YtcbkikioapdbbaaDoor
namespace Go.Proofs.YtcbkikioapdbbaaDoor
open Go.RowKit Go.Sort

def cgOf (z : PC) : CG := ⟨z.kind, z.nums.1, z.nums.2.1, z.nums.2.2.1, z.nums.2.2.2.1, z.nums.2.2.2.2, z.path, none, 0, z.argv, none, 0, z.env, none, 0, z.bytes⟩
def chkP (z : PC) : Int := chkC (cgOf z)
theorem chk_pc (x : CG) : chkC x = chkP (pcOf x) := rfl
/-- Fields that are read, in their order. -/
def rdAll (l : BL) (fs : List Nat) (z : PC × Nat × Bool) : PC × Nat × Bool := fs.foldl (fun z f => fldR l f z) z
theorem rdAll_take {l : BL} {fs : List Nat} {k : Nat} (h : k < fs.length) (z : PC × Nat × Bool) : rdAll l (fs.take (k + 1)) z = fldR l fs[k] (rdAll l (fs.take k) z) := by
  unfold rdAll
  rw [List.take_succ_eq_append_getElem h, List.foldl_append]
  rfl
theorem txT_le (l : BL) (p : Nat) (sh : Bool) : (txT l p sh).length ≤ l.length := by
  unfold txT
  split
  · rw [List.length_take, List.length_drop]; omega
  · simp
theorem fldR_p {l : BL} {f : Nat} {z : PC × Nat × Bool} (h : z.2.1 ≤ l.length) : (fldR l f z).2.1 ≤ l.length := by
  unfold fldR
  split
  · exact txP_le h
  · split
    · exact tsGo_le (rdP_le h) _
    · split
      · exact tsGo_le (rdP_le h) _
      · split
        · exact txP_le h
        · exact rdP_le h
theorem setNm_b (x : PC) (f v : Nat) : (setNm x f v).bytes = x.bytes ∧ (setNm x f v).path = x.path ∧ (setNm x f v).kind = x.kind := by
  unfold setNm
  split <;> exact ⟨rfl, rfl, rfl⟩
theorem fldR_b (l : BL) (f : Nat) (z : PC × Nat × Bool) : (fldR l f z).1.bytes.length ≤ z.1.bytes.length + l.length ∧ ((fldR l f z).1.path.length ≤ max z.1.path.length l.length) ∧ (fldR l f z).1.kind = z.1.kind := by
  have h := txT_le l z.2.1 z.2.2
  unfold fldR
  split
  · exact ⟨by simp, by simp only; omega, rfl⟩
  · split
    · exact ⟨by simp, by simp only; omega, rfl⟩
    · split
      · exact ⟨by simp, by simp only; omega, rfl⟩
      · split
        · exact ⟨by simp only [List.length_append]; omega, by simp only; omega, rfl⟩
        · obtain ⟨e1, e2, e3⟩ := setNm_b z.1 f (rdN l z.2.1 8)
          exact ⟨by simp only [e1]; omega, by simp only [e2]; omega, e3⟩
theorem rdAll_b (l : BL) : ∀ (fs : List Nat) (z : PC × Nat × Bool), z.2.1 ≤ l.length → (rdAll l fs z).2.1 ≤ l.length ∧ (rdAll l fs z).1.bytes.length ≤ z.1.bytes.length + fs.length * l.length ∧ (rdAll l fs z).1.path.length ≤ max z.1.path.length l.length ∧ (rdAll l fs z).1.kind = z.1.kind
  | [], z, h => ⟨h, by simp [rdAll], by simp only [rdAll, List.foldl_nil]; omega, rfl⟩
  | f :: fs, z, h => by
    obtain ⟨h1, h2, h3⟩ := fldR_b l f z
    obtain ⟨g1, g2, g3, g4⟩ := rdAll_b l fs (fldR l f z) (fldR_p h)
    have e : rdAll l (f :: fs) z = rdAll l fs (fldR l f z) := rfl
    rw [e]
    refine ⟨g1, ?_, ?_, g4.trans h3⟩
    · rw [List.length_cons, Nat.add_mul]; omega
    · omega
def pc0 (k : Nat) : PC := ⟨k, (0, 0, 0, 0, 0), [], [], [], []⟩
/-- What is read: the call, how many bytes; else the error. -/
def readC (l : BL) : PC × Nat × Int :=
  match l with
  | [] => (pc0 0, 0, 24)
  | c :: _ =>
    if 1 ≤ c.toNat ∧ c.toNat ≤ 12 then
      let z := rdAll l (fsL c.toNat) (pc0 c.toNat, 1, false)
      if z.2.2 then (pc0 0, 0, 24) else if chkP z.1 = 0 then (z.1, z.2.1, 0) else (pc0 0, 0, chkP z.1)
    else (pc0 0, 0, 23)
end Go.Proofs.YtcbkikioapdbbaaDoor
namespace Go.Proofs.YtcbkikioapdbbaaDoor
open Go.RowKit Go.Sort

structure PcB (L : Nat) (z : PC) : Prop where
  kind : z.kind < 256
  na : z.nums.1 < 18446744073709551616
  nb : z.nums.2.1 < 18446744073709551616
  nc : z.nums.2.2.1 < 18446744073709551616
  nd : z.nums.2.2.2.1 < 18446744073709551616
  ne : z.nums.2.2.2.2 < 18446744073709551616
  path : z.path.length ≤ L
  an : z.argv.length ≤ 255
  at' : ∀ p ∈ z.argv, p.length ≤ L
  en : z.env.length ≤ 255
  et : ∀ p ∈ z.env, p.length ≤ L
theorem rdN8_lt (l : BL) (p : Nat) : rdN l p 8 < 18446744073709551616 := by
  unfold rdN
  split
  · exact le_take_lt l p 8 (by omega)
  · omega
theorem tsGo_txt (l : BL) (p : Nat) (sh : Bool) : ∀ n, ∀ t ∈ (tsGo l n p sh).1, t.length ≤ l.length
  | 0 => fun t h => by cases h
  | n + 1 => fun t h => by
    simp only [tsGo] at h
    rcases List.mem_append.1 h with h | h
    · exact tsGo_txt l p sh n t h
    · rw [List.mem_singleton.1 h]; exact txT_le _ _ _
theorem PcB.fld {l : BL} {z : PC × Nat × Bool} (h : PcB l.length z.1) (f : Nat) : PcB l.length (fldR l f z).1 := by
  have h1 := rdN8_lt l z.2.1
  have h2 : (tsT l z.2.1 z.2.2).length ≤ 255 := by unfold tsT; rw [tsGo_len]; exact rdN1_le _ _
  have h3 : ∀ t ∈ tsT l z.2.1 z.2.2, t.length ≤ l.length := tsGo_txt _ _ _ _
  unfold fldR
  split
  · exact { h with path := txT_le _ _ _ }
  · split
    · exact { h with an := h2, at' := h3 }
    · split
      · exact { h with en := h2, et := h3 }
      · split
        · exact { h with }
        · unfold setNm
          split
          · exact { h with na := h1 }
          · exact { h with nb := h1 }
          · exact { h with nc := h1 }
          · exact { h with nd := h1 }
          · exact { h with ne := h1 }
theorem PcB.all {l : BL} : ∀ (fs : List Nat) {z : PC × Nat × Bool}, PcB l.length z.1 → PcB l.length (rdAll l fs z).1
  | [], _, h => h
  | f :: fs, z, h => PcB.all fs (z := fldR l f z) (h.fld f)
theorem PcB.zero {k : Nat} (hk : k < 256) (L : Nat) : PcB L (pc0 k) := ⟨hk, Nat.zero_lt_succ _, Nat.zero_lt_succ _, Nat.zero_lt_succ _, Nat.zero_lt_succ _, Nat.zero_lt_succ _, Nat.zero_le _, Nat.zero_le _, (fun _ h => by cases h), Nat.zero_le _, fun _ h => by cases h⟩
/-- A call that was read, where it lies. -/
theorem CIn.ok {w : World} {base cb L : Nat} {x : CG} (h : CIn w base cb x) (hb : PcB L (pcOf x)) (hL : L ≤ 1000000) (hy : x.bytes.length ≤ 100000000) : CGok w x := by
  obtain ⟨a1, c1, q1, k1, n1, _, _⟩ := own_cel h.argv
  obtain ⟨a2, c2, q2, k2, n2, _, _⟩ := own_cel h.env
  obtain ⟨a3, c3, q3, k3, n3, _, _⟩ := own_cel h.bytes
  cases q1; cases q2; cases q3
  have g1 : x.argv.length ≤ 255 := hb.an
  have g2 : x.env.length ≤ 255 := hb.en
  have g3 : x.path.length ≤ L := hb.path
  have k3b : Byt w x.ya x.bytes.length x.bytes := ⟨rfl, fun i hi => by
    obtain ⟨b, off, e, hc⟩ := k3.cell i (by rw [List.length_map]; exact hi)
    exact ⟨b, off, e, by rw [hc, List.getElem_map]; rfl⟩⟩
  exact ⟨k1, k2, k3b, hb.kind, hb.na, hb.nb, hb.nc, hb.nd, hb.ne, by omega, by omega, by omega, fun p hp => by have := hb.at' p hp; omega, fun p hp => by have := hb.et p hp; omega, by omega, n1, n2, n3⟩
end Go.Proofs.YtcbkikioapdbbaaDoor
namespace Go.Proofs.YtcbkikioapdbbaaDoor
open Go.RowKit Go.Sort Go.WideMaps Go.Maps
attribute [local go_sem] Oper.semAt_some

def ReadP (l : BL) (w : World) (e : Ending) (w' : World) : Prop := ∃ x, e = .returned (.tuple #[cgV x, .int .i64 ((readC l).2.1 : Nat), .int .i64 (readC l).2.2]) ∧ pcOf x = (readC l).1 ∧ Below w.heap.size w w' ∧
  w'.ownsRow w.heap.size 9 1 (.slice x.va x.argv.length x.vc) x.argv.length (strs x.argv) ∧ w'.ownsRow w.heap.size 9 1 (.slice x.ea x.env.length x.ec) x.env.length (strs x.env) ∧ w'.ownsRow w.heap.size 5 1 (.slice x.ya x.bytes.length x.yc) x.bytes.length (x.bytes.map B8)
theorem readC_cons (c : UInt8) (lt : BL) : readC (c :: lt) = if 1 ≤ c.toNat ∧ c.toNat ≤ 12 then (if (rdAll (c :: lt) (fsL c.toNat) (pc0 c.toNat, 1, false)).2.2 then (pc0 0, 0, 24) else if chkP (rdAll (c :: lt) (fsL c.toNat) (pc0 c.toNat, 1, false)).1 = 0 then ((rdAll (c :: lt) (fsL c.toNat) (pc0 c.toNat, 1, false)).1, (rdAll (c :: lt) (fsL c.toNat) (pc0 c.toNat, 1, false)).2.1, 0) else (pc0 0, 0, chkP (rdAll (c :: lt) (fsL c.toNat) (pc0 c.toNat, 1, false)).1)) else (pc0 0, 0, 23) := rfl
theorem set10 {w W : World} {B : Nat} (h : Below B w W) (g : Nat) (hg : B ≤ g) (u0 u1 u2 u3 u4 u5 u6 u7 u8 u9 : Value) :
    Below B w ((((((((((W.setCell ⟨g, 0, none⟩ u0).setCell ⟨g, 1, none⟩ u1).setCell ⟨g, 2, none⟩ u2).setCell ⟨g, 3, none⟩ u3).setCell ⟨g, 4, none⟩ u4).setCell ⟨g, 5, none⟩ u5).setCell ⟨g, 6, none⟩ u6).setCell ⟨g, 7, none⟩ u7).setCell ⟨g, 8, none⟩ u8).setCell ⟨g, 9, none⟩ u9) :=
  bset (bset (bset (bset (bset (bset (bset (bset (bset (bset h hg u0) hg u1) hg u2) hg u3) hg u4) hg u5) hg u6) hg u7) hg u8) hg u9
theorem set10own {W : World} {base e n : Nat} {v : Value} {xs : List Value} (h : W.ownsRow base e 1 v n xs) (g : Nat) (hg : g < base) (u0 u1 u2 u3 u4 u5 u6 u7 u8 u9 : Value) :
    ((((((((((W.setCell ⟨g, 0, none⟩ u0).setCell ⟨g, 1, none⟩ u1).setCell ⟨g, 2, none⟩ u2).setCell ⟨g, 3, none⟩ u3).setCell ⟨g, 4, none⟩ u4).setCell ⟨g, 5, none⟩ u5).setCell ⟨g, 6, none⟩ u6).setCell ⟨g, 7, none⟩ u7).setCell ⟨g, 8, none⟩ u8).setCell ⟨g, 9, none⟩ u9).ownsRow base e 1 v n xs :=
  own_setLow (own_setLow (own_setLow (own_setLow (own_setLow (own_setLow (own_setLow (own_setLow (own_setLow (own_setLow h hg u0) hg u1) hg u2) hg u3) hg u4) hg u5) hg u6) hg u7) hg u8) hg u9
theorem Row.set10 {W : World} {g : Nat} {E : TypeId} {x : CG} (h : Row W g E (cgC x)) (y : CG) :
    Row ((((((((((W.setCell ⟨g, 0, none⟩ (.int .u8 y.kind)).setCell ⟨g, 1, none⟩ (.int .u64 y.a)).setCell ⟨g, 2, none⟩ (.int .u64 y.b)).setCell ⟨g, 3, none⟩ (.int .u64 y.c)).setCell ⟨g, 4, none⟩ (.int .u64 y.d)).setCell ⟨g, 5, none⟩ (.int .u64 y.e)).setCell ⟨g, 6, none⟩ (.string (ba y.path))).setCell ⟨g, 7, none⟩ (.slice y.va y.argv.length y.vc)).setCell ⟨g, 8, none⟩ (.slice y.ea y.env.length y.ec)).setCell ⟨g, 9, none⟩ (.slice y.ya y.bytes.length y.yc)) g E (cgC y) :=
  ((((((((((h.set 0 (.int .u8 y.kind)).set 1 (.int .u64 y.a)).set 2 (.int .u64 y.b)).set 3 (.int .u64 y.c)).set 4 (.int .u64 y.d)).set 5 (.int .u64 y.e)).set 6 (.string (ba y.path))).set 7 (.slice y.va y.argv.length y.vc)).set 8 (.slice y.ea y.env.length y.ec)).set 9 (.slice y.ya y.bytes.length y.yc))
theorem bal2' {B : Nat} {w w' : World} (h : Below B w w') (o : Obj) (hB : B ≤ w.heap.size := by exact Nat.le_refl _) : Below B w (w'.alloc o) := h.alloc (Nat.le_trans hB h.size) o
theorem fsL_lt9 (k : Nat) : ∀ f ∈ fsL k, f < 9 := by unfold fsL; split <;> decide
theorem CIn.below {w w' : World} {base cb : Nat} {x : CG} (h : CIn w base cb x) (hb : Below w.heap.size w w') : CIn w' base cb x :=
  ⟨h.row.below hb h.row.lt, own_below h.argv hb, own_below h.env hb, own_below h.bytes hb⟩
theorem readP_bad {l : BL} {w w' : World} {e : Int} (h : readC l = (pc0 0, 0, e)) (hb : Below w.heap.size w w') : ReadP l w (.returned (.tuple #[cgV (cgOf (pc0 0)), .int .i64 0, .int .i64 e])) w' := by
  unfold ReadP
  rw [h]
  exact ⟨cgOf (pc0 0), rfl, rfl, hb, World.ownsRow_nil _ _ _ _, World.ownsRow_nil _ _ _ _, World.ownsRow_nil _ _ _ _⟩
theorem Row.ten {w : World} {g : Nat} {E : TypeId} {x : CG} (h : Row w g E (cgC x)) : w.cell? ⟨g, 0, none⟩ = some (.int .u8 x.kind) ∧ w.cell? ⟨g, 1, none⟩ = some (.int .u64 x.a) ∧ w.cell? ⟨g, 2, none⟩ = some (.int .u64 x.b) ∧ w.cell? ⟨g, 3, none⟩ = some (.int .u64 x.c) ∧ w.cell? ⟨g, 4, none⟩ = some (.int .u64 x.d) ∧ w.cell? ⟨g, 5, none⟩ = some (.int .u64 x.e) ∧ w.cell? ⟨g, 6, none⟩ = some (.string (ba x.path)) ∧ w.cell? ⟨g, 7, none⟩ = some (.slice x.va x.argv.length x.vc) ∧ w.cell? ⟨g, 8, none⟩ = some (.slice x.ea x.env.length x.ec) ∧ w.cell? ⟨g, 9, none⟩ = some (.slice x.ya x.bytes.length x.yc) :=
  ⟨h.cell' 0, h.cell' 1, h.cell' 2, h.cell' 3, h.cell' 4, h.cell' 5, h.cell' 6, h.cell' 7, h.cell' 8, h.cell' 9⟩
theorem Row.tenF {w : World} {g : Nat} {E : TypeId} {cs : List Value} (h : Row w g E cs) : w.frozen? ⟨g, 0, none⟩ = false ∧ w.frozen? ⟨g, 1, none⟩ = false ∧ w.frozen? ⟨g, 2, none⟩ = false ∧ w.frozen? ⟨g, 3, none⟩ = false ∧ w.frozen? ⟨g, 4, none⟩ = false ∧ w.frozen? ⟨g, 5, none⟩ = false ∧ w.frozen? ⟨g, 6, none⟩ = false ∧ w.frozen? ⟨g, 7, none⟩ = false ∧ w.frozen? ⟨g, 8, none⟩ = false ∧ w.frozen? ⟨g, 9, none⟩ = false :=
  ⟨h.frozen 0, h.frozen 1, h.frozen 2, h.frozen 3, h.frozen 4, h.frozen 5, h.frozen 6, h.frozen 7, h.frozen 8, h.frozen 9⟩

set_option maxRecDepth 100000 in
set_option maxHeartbeats 4000000 in
theorem read25_any (b off cap : Nat) (l : BL) (w : World) (hs : Sizes w) (hg : 0 < w.heap.size) (hB : Byt w (some ⟨b, off, none⟩) l.length l) (hbw : b < w.heap.size) (hl : l.length ≤ 1000000) (hcap : l.length ≤ cap) :
    Calls Tryd.prog 21 #[.slice (some ⟨b, off, none⟩) l.length cap] w (ReadP l w) := by
  cases hl0 : l with
  | nil =>
    have HF := hid (show readC [] = (pc0 0, 0, 24) from rfl)
    go_enter Tryd.func21, Tryd.ntmps21
    go_wp2_with fail
    refine bodyPost_ret (v := .tuple #[cgV (cgOf (pc0 0)), .int .i64 0, .int .i64 24]) (by simp [results, Tryd.results21, go_sem, cgOf, pc0]; rfl) rfl (readP_bad HF.out (bal _))
  | cons c lt =>
    rw [← hl0]
    have d1 : (((l.length : Nat) : Int) == 0) = false := by rw [hl0]; simp; omega
    have d1n : decide (l.length = 0) = false := by rw [hl0]; simp
    have hpos : 0 < l.length := by rw [hl0]; simp
    have hc0 : w.cell? ⟨b, off, none⟩ = some (.int .u8 c.toNat) := by
      obtain ⟨b', off', e, hc⟩ := hB.cell 0 hpos
      cases e
      simpa [hl0] using hc
    obtain ⟨w2, hw2⟩ : ∃ w2, w2 = w.alloc (.cells #[.int .u8 (c.toNat : Nat), .int .u64 0, .int .u64 0, .int .u64 0, .int .u64 0, .int .u64 0, .string { data := #[] }, .slice none 0 0, .slice none 0 0, .slice none 0 0] 26) := ⟨_, rfl⟩
    have hrow2 : Row w2 w.heap.size 26 (cgC (cgOf (pc0 c.toNat))) := by
      rw [hw2]
      exact Row.new w _ (cgC (cgOf (pc0 c.toNat)))
    have hb2 : Below w.heap.size w w2 := by
      rw [hw2]
      exact bal _
    have HW2 := hid hw2
    have HB2 := hid hb2
    have HR2 := hid hrow2
    have HL0 := hid hl0
    clear hw2 hrow2 hb2 hl0
    go_enter Tryd.func21, Tryd.ntmps21
    go_wp2_with fail
    rw [← HW2.out]
    have h0 : ∀ w', St w2 w' → w'.cell? ⟨w.heap.size, 0, none⟩ = some (.int .u8 c.toNat) := fun w' hs => keepC hs (HR2.out.cell' 0)
    by_cases hk : 1 ≤ c.toNat ∧ c.toNat ≤ 12
    · have HKD := hid (fun w' => kinds_yes c.toNat hk w')
      have HK := hid hk
      clear hk
      go_region_held3 (St w2) (first | exact St.drew _ | exact St.step (by assumption) hbx | assumption) ((go_at_call 30; with_reducible refine ((HKD.out _).mono ?_); rintro e' wx ⟨m, g, rfl, hbx, hrow, hg, hlk, hlk2⟩; have HROW := hid hrow; have HG := hid hg; have HS11 : Hid (St w2 wx) := hid (St.step (by assumption) hbx); clear hrow hg hlk2))
      have hbox : ∀ W, (Instr.box 76 (.agg #[.slice (some ⟨b, off, none⟩) l.length cap, .int .u64 1, .bool false])).run Tryd.prog W = .ok (.pointer (some ⟨W.heap.size, 0, none⟩)) (W.alloc (.cells #[.slice (some ⟨b, off, none⟩) l.length cap, .int .u64 1, .bool false] 76)) := fun _ => by kernel_rfl
      have HRX := hid (HR2.out.below HS11.out HR2.out.lt)
      have HBX := hid (HB2.out.trans (HS11.out.mono HB2.out.size))
      obtain ⟨wq, hwq⟩ : ∃ wq, wq = wx.alloc (.cells #[.slice (some ⟨b, off, none⟩) l.length cap, .int .u64 1, .bool false] 76) := ⟨_, rfl⟩
      have HWQ := hid hwq
      have hlt2 := HR2.out.lt
      have hg2 : w2.heap.size ≤ g := HG.out
      have hgx := HROW.out.lt
      have hwx : w2.heap.size ≤ wx.heap.size := HS11.out.size
      have hszq : wq.heap.size = wx.heap.size + 1 := by rw [hwq, World.size_alloc]
      have HSZQ := hid hszq
      have HGC := hid (show g ≠ w.heap.size ∧ g ≠ wx.heap.size ∧ g < wx.heap.size + 1 ∧ w.heap.size < wx.heap.size ∧ w.heap.size ≤ wx.heap.size from ⟨by omega, by omega, by omega, by omega, by omega⟩)
      have HCQ := hid (show CIn wq (wx.heap.size + 1) w.heap.size (cgOf (pc0 c.toNat)) from ⟨by rw [hwq]; exact HRX.out.alloc _, World.ownsRow_nil _ _ _ _, World.ownsRow_nil _ _ _ _, World.ownsRow_nil _ _ _ _⟩)
      have HRQ := hid (show Rd wq wx.heap.size (some ⟨b, off, none⟩) cap l 1 false from ⟨by rw [hwq]; exact Row.new wx _ _, hB.below' (by rw [hwq]; exact bal2' HBX.out _), by intro d e; cases e; have := HBX.out.size; simp only [ne_eq]; omega⟩)
      have HGQ := hid (show Row wq g 57 ((fsL c.toNat).map fv) by rw [hwq]; exact HROW.out.alloc _)
      have HBQ := hid (show Below w.heap.size w wq by rw [hwq]; exact bal2' HBX.out _)
      have HZ0 := hid (show pcOf (cgOf (pc0 c.toNat)) = (rdAll l ((fsL c.toNat).take 0) (pc0 c.toNat, 1, false)).1 from rfl)
      have HCAP := hid hcap
      have HHS := hid hs
      have HBW := hid hbw
      have HLP := hid hpos
      clear h0 hlk hbx HKD HS11 hc0 hwq HROW HRX HBX hgx hwx hg2 hlt2 hszq hB hs hcap hbw d1 d1n
      go_wp2_with fail
      rw [← HWQ.out]
      go_loopw [34] (fun i wr => ∃ (k : Nat) (x : CG), k ≤ (fsL c.toNat).length ∧ i = .int .i64 k ∧ CIn wr (wx.heap.size + 1) w.heap.size x ∧ pcOf x = (rdAll l ((fsL c.toNat).take k) (pc0 c.toNat, 1, false)).1 ∧ Rd wr wx.heap.size (some ⟨b, off, none⟩) cap l (rdAll l ((fsL c.toNat).take k) (pc0 c.toNat, 1, false)).2.1 (rdAll l ((fsL c.toNat).take k) (pc0 c.toNat, 1, false)).2.2 ∧ Row wr g 57 ((fsL c.toNat).map fv) ∧ Below w.heap.size w wr ∧ wx.heap.size + 1 ≤ wr.heap.size) (fun i _ => (fsL c.toNat).length - (intOf i).toNat)
      case atStart => exact ⟨0, cgOf (pc0 c.toNat), Nat.zero_le _, rfl, HCQ.out, HZ0.out, HRQ.out, HGQ.out, HBQ.out, by rw [HSZQ.out]; exact Nat.le_refl _⟩
      case round =>
        obtain ⟨k, x, hkn, rfl, hci, hpx, hrd, hgr, hbr, hsr⟩ := hrel
        rename World => wA
        have HB0 := hid (rdAll_b l ((fsL c.toNat).take k) (pc0 c.toNat, 1, false) HLP.out)
        have HPX := hid hpx
        have HC := hid hci
        have HRD := hid hrd
        have HGR := hid hgr
        have HBR := hid hbr
        have HSR := hid hsr
        clear hci hpx hrd hgr hbr hsr
        by_cases hlt : k < (fsL c.toNat).length
        · have d1 : decide ((k : Int) < ((fsL c.toNat).length : Int)) = true := by simp; omega
          have d1n : decide (k < (fsL c.toNat).length) = true := by simp; omega
          have hn5 := fsL_le5 c.toNat
          have hfl := fsL_lt9 c.toNat _ (List.getElem_mem hlt)
          have hcell : wA.cell? ⟨g, k, none⟩ = some (.int .i64 ((fsL c.toNat)[k] : Nat)) := by
            rw [HGR.out.cell' k, List.getElem?_map, List.getElem?_eq_getElem hlt]
            rfl
          have hxb : x.bytes.length ≤ 1000000000 := by
            have h1 : x.bytes = (pcOf x).bytes := rfl
            rw [h1, HPX.out]
            have h2 : _ ≤ 0 + _ := HB0.out.2.1
            have h3 : ((fsL c.toNat).take k).length ≤ 5 := Nat.le_trans (by simp; omega) (fsL_le5 c.toNat)
            have h4 : ((fsL c.toNat).take k).length * l.length ≤ 5 * l.length := Nat.mul_le_mul_right _ h3
            omega
          have HF := hid (rfield_any (wx.heap.size + 1) wx.heap.size w.heap.size b off cap (fsL c.toNat)[k] l _ _ x wA hfl (HHS.out.belowB HBR.out hg) (Nat.lt_of_lt_of_le hg HBR.out.size) (by have := HGC.out; omega) HRD.out (by have := HGC.out; have := HBW.out; omega) (by omega) HB0.out.1 HCAP.out HC.out (by omega) (by have := HGC.out; omega) HSR.out (by have := HBW.out; omega) (by have := HGC.out; omega) hxb)
          have HST := hid (rdAll_take hlt (pc0 c.toNat, 1, false) (l := l))
          have HPX2 := hid (show fldR l (fsL c.toNat)[k] (pcOf x, (rdAll l ((fsL c.toNat).take k) (pc0 c.toNat, 1, false)).2.1, (rdAll l ((fsL c.toNat).take k) (pc0 c.toNat, 1, false)).2.2) = rdAll l ((fsL c.toNat).take (k + 1)) (pc0 c.toNat, 1, false) by rw [HST.out, HPX.out])
          clear hxb hfl
          go_wp2_with fail
          refine HF.out.mono ?_
          rintro e' w5 ⟨rfl, x', hc5, hp5, hr5, hx5⟩
          rw [HPX2.out] at hp5 hr5
          have HC5 := hid hc5
          have HP5 := hid hp5
          have HR5 := hid hr5
          have HB5 := hid (show Below w.heap.size w w5 from ⟨hx5.os.trans HBR.out.os, hx5.tape.trans HBR.out.tape, hx5.output.trans HBR.out.output, Nat.le_trans HBR.out.size hx5.size, fun i hi => (hx5.block i (by have := HGC.out; omega) (by have := HGC.out; omega) (by omega)).trans (HBR.out.block i hi)⟩)
          have HS5 := hid (Nat.le_trans HSR.out hx5.size)
          have HG5 := hid (show Row w5 g 57 ((fsL c.toNat).map fv) from ⟨by rw [hx5.block g (by have := HGC.out; omega) (by have := HGC.out; omega) (by have := HGC.out; omega)]; exact HGR.out.heap⟩)
          clear hc5 hp5 hr5 hx5 hcell
          go_wp2_with fail
          go_roundw
          case rel => exact ⟨k + 1, x', by omega, by go_num, HC5.out, HP5.out, HR5.out, HG5.out, HB5.out, HS5.out⟩
          case measure => simp [intOf]; omega
        · have d1 : decide ((k : Int) < ((fsL c.toNat).length : Int)) = false := by simp; omega
          have d1n : decide (k < (fsL c.toNat).length) = false := by simp; omega
          have htk : (fsL c.toNat).take k = fsL c.toNat := List.take_of_length_le (by omega)
          have hok := PcB.all (l := l) (fsL c.toNat) (z := (pc0 c.toNat, 1, false)) (PcB.zero (UInt8.toNat_lt _) _)
          have HRC := hid (show readC l = _ by rw [HL0.out, readC_cons, if_pos HK.out, ← HL0.out])
          have hB0 := HB0.out
          have hPX := HPX.out
          have hRD := HRD.out
          rw [htk] at hB0 hPX hRD
          have hxb : x.bytes.length ≤ 100000000 := by
            have h1 : x.bytes = (pcOf x).bytes := rfl
            rw [h1, hPX]
            have h2 : _ ≤ 0 + _ := hB0.2.1
            have h4 : (fsL c.toNat).length * l.length ≤ 5 * l.length := Nat.mul_le_mul_right _ (fsL_le5 c.toNat)
            omega
          clear htk HB0 HPX HRD
          generalize rdAll l (fsL c.toNat) (pc0 c.toNat, 1, false) = z at *
          obtain ⟨zp, q, sh⟩ := z
          rw [← hPX] at hok
          have HOK := hid (HC.out.ok hok (by omega) hxb)
          have HXP := hid (show x.path.length ≤ 1000000 from Nat.le_trans hok.path (by omega))
          have HPX := hid hPX
          have HRD := hid hRD
          have HQ := hid hB0.1
          have c2 : wA.cell? ⟨wx.heap.size, 2, none⟩ = some (.bool sh) := hRD.row.cell' 2
          clear hok hxb hB0 hPX hRD
          cases sh
          · have HRC2 := hid (show readC l = if chkP zp = 0 then (zp, q, 0) else (pc0 0, 0, chkP zp) from HRC.out)
            clear HRC
            obtain ⟨k0, k1, k2, k3, k4, k5, k6, k7, k8, k9⟩ := HC.out.row.ten
            go_wp2_with fail
            refine (check25_any x wA HOK.out HXP.out).mono ?_
            rintro e' w5 ⟨rfl, hb5⟩
            have HC5 := hid (HC.out.below hb5)
            have HB5 := hid (HBR.out.trans (hb5.mono HBR.out.size))
            have HR5 := hid (HRD.out.below hb5)
            rw [chk_pc, HPX.out]
            clear k0 k1 k2 k3 k4 k5 k6 k7 k8 k9 c2 hb5
            obtain ⟨k0, k1, k2, k3, k4, k5, k6, k7, k8, k9⟩ := HC5.out.row.ten
            obtain ⟨z0, z1, z2, z3, z4, z5, z6, z7, z8, z9⟩ := HC5.out.row.tenF
            have hlt := HC5.out.row.lt
            by_cases he : chkP zp = 0
            · have HFIN := hid (show readC l = (zp, q, 0) by rw [HRC2.out, if_pos he])
              have r1 : w5.cell? ⟨wx.heap.size, 1, none⟩ = some (.int .u64 q) := HR5.out.row.cell' 1
              rw [he]
              go_wp2_with fail
              have hq2 := HQ.out
              have hwq := IntWalk.i64_in (q : Int) (by omega)
              go_region_with (fail)
              all_goals go_wp2_with fail
              all_goals clear k0 k1 k2 k3 k4 k5 k6 k7 k8 k9 z0 z1 z2 z3 z4 z5 z6 z7 z8 z9 hlt
              all_goals generalize hW10 : World.setCell _ ⟨w.heap.size, 9, none⟩ _ = W10
              all_goals have hr : Row W10 w.heap.size 26 (cgC x) := by rw [← hW10]; exact HC5.out.row.set10 x
              all_goals have hb : Below w.heap.size w W10 := by rw [← hW10]; exact set10 HB5.out w.heap.size (Nat.le_refl _) _ _ _ _ _ _ _ _ _ _
              all_goals have ho : ∀ {e v n xs}, w5.ownsRow (wx.heap.size + 1) e 1 v n xs → W10.ownsRow w.heap.size e 1 v n xs := fun h => by rw [← hW10]; exact own_from (set10own h w.heap.size (by have := HGC.out; omega) _ _ _ _ _ _ _ _ _ _) (by have := HGC.out; omega)
              all_goals clear hW10
              all_goals obtain ⟨k0, k1, k2, k3, k4, k5, k6, k7, k8, k9⟩ := hr.ten
              all_goals refine bodyPost_ret (v := .tuple #[cgV x, .int .i64 q, .int .i64 0]) (by simp [results, Tryd.results21, go_sem, k0, k1, k2, k3, k4, k5, k6, k7, k8, k9]) rfl ⟨x, by rw [HFIN.out], by rw [HFIN.out]; exact HPX.out, hb.drew, (ho HC5.out.argv).drew, (ho HC5.out.env).drew, (ho HC5.out.bytes).drew⟩
            · have HFIN := hid (show readC l = (pc0 0, 0, chkP zp) by rw [HRC2.out, if_neg he])
              have hn := bne_t he
              have hn2 := beq_f he
              generalize chkP zp = er at *
              clear he HRC2
              go_wp2_with fail
              clear k0 k1 k2 k3 k4 k5 k6 k7 k8 k9 z0 z1 z2 z3 z4 z5 z6 z7 z8 z9 hlt
              generalize hW10 : World.setCell _ ⟨w.heap.size, 9, none⟩ _ = W10
              have hr : Row W10 w.heap.size 26 (cgC (cgOf (pc0 0))) := by rw [← hW10]; exact HC5.out.row.set10 (cgOf (pc0 0))
              have hb : Below w.heap.size w W10 := by rw [← hW10]; exact set10 HB5.out w.heap.size (Nat.le_refl _) _ _ _ _ _ _ _ _ _ _
              clear hW10
              obtain ⟨k0, k1, k2, k3, k4, k5, k6, k7, k8, k9⟩ := hr.ten
              refine bodyPost_ret (v := .tuple #[cgV (cgOf (pc0 0)), .int .i64 0, .int .i64 er]) (by simp [results, Tryd.results21, go_sem, k0, k1, k2, k3, k4, k5, k6, k7, k8, k9]) rfl (readP_bad HFIN.out hb)
          · have HFIN := hid (show readC l = (pc0 0, 0, 24) from HRC.out)
            obtain ⟨k0, k1, k2, k3, k4, k5, k6, k7, k8, k9⟩ := HC.out.row.ten
            obtain ⟨z0, z1, z2, z3, z4, z5, z6, z7, z8, z9⟩ := HC.out.row.tenF
            have hlt := HC.out.row.lt
            go_wp2_with fail
            clear k0 k1 k2 k3 k4 k5 k6 k7 k8 k9 z0 z1 z2 z3 z4 z5 z6 z7 z8 z9 hlt
            generalize hW10 : World.setCell _ ⟨w.heap.size, 9, none⟩ _ = W10
            have hr : Row W10 w.heap.size 26 (cgC (cgOf (pc0 0))) := by rw [← hW10]; exact HC.out.row.set10 (cgOf (pc0 0))
            have hb : Below w.heap.size w W10 := by rw [← hW10]; exact set10 HBR.out w.heap.size (Nat.le_refl _) _ _ _ _ _ _ _ _ _ _
            clear hW10
            obtain ⟨k0, k1, k2, k3, k4, k5, k6, k7, k8, k9⟩ := hr.ten
            refine bodyPost_ret (v := .tuple #[cgV (cgOf (pc0 0)), .int .i64 0, .int .i64 24]) (by simp [results, Tryd.results21, go_sem, k0, k1, k2, k3, k4, k5, k6, k7, k8, k9]) rfl (readP_bad HFIN.out hb)
    · have HKD := hid (fun w' => kinds_no c.toNat hk (UInt8.toNat_lt _) w')
      have HFIN := hid (show readC l = (pc0 0, 0, 23) by rw [HL0.out, readC_cons, if_neg hk])
      clear hk
      go_region_held3 (St w2) (first | exact St.drew _ | exact St.step (by assumption) hbx | assumption) ((go_at_call 30; with_reducible refine ((HKD.out _).mono ?_); rintro e' wx ⟨m, rfl, hbx, hlk⟩; have HS11 : Hid (St w2 wx) := hid (St.step (by assumption) hbx)))
      have HRX := hid (HR2.out.below HS11.out HR2.out.lt)
      have HBX := hid (HB2.out.trans (HS11.out.mono HB2.out.size))
      clear h0 hlk hbx HKD HS11 hc0
      obtain ⟨z0, z1, z2, z3, z4, z5, z6, z7, z8, z9⟩ := HRX.out.tenF
      obtain ⟨k0, k1, k2, k3, k4, k5, k6, k7, k8, k9⟩ := HRX.out.ten
      have hlt := HRX.out.lt
      go_wp2_with fail
      clear k0 k1 k2 k3 k4 k5 k6 k7 k8 k9 z0 z1 z2 z3 z4 z5 z6 z7 z8 z9 hlt
      generalize hW10 : World.setCell _ ⟨w.heap.size, 9, none⟩ _ = W10
      have hr : Row W10 w.heap.size 26 (cgC (cgOf (pc0 0))) := by rw [← hW10]; exact HRX.out.set10 (cgOf (pc0 0))
      have hb : Below w.heap.size w W10 := by rw [← hW10]; exact set10 HBX.out w.heap.size (Nat.le_refl _) _ _ _ _ _ _ _ _ _ _
      clear hW10
      obtain ⟨k0, k1, k2, k3, k4, k5, k6, k7, k8, k9⟩ := hr.ten
      refine bodyPost_ret (v := .tuple #[cgV (cgOf (pc0 0)), .int .i64 0, .int .i64 23]) (by simp [results, Tryd.results21, go_sem, k0, k1, k2, k3, k4, k5, k6, k7, k8, k9]) rfl (readP_bad HFIN.out hb)
end Go.Proofs.YtcbkikioapdbbaaDoor
namespace Go.Proofs.YtcbkikioapdbbaaDoor
open Go.RowKit Go.Sort
attribute [local go_sem] Oper.semAt_some

/-- A list whose block is new and of one type. -/
def Lies (w : World) (base : Nat) (E : TypeId) (a : Option Addr) : Prop := ∀ d, a = some d → base ≤ d.block ∧ ∃ cs m, w.heap[d.block]? = some (Obj.cells cs E m)
theorem Lies.lt {w : World} {base : Nat} {E : TypeId} {a : Option Addr} (h : Lies w base E a) {d : Addr} (e : a = some d) : d.block < w.heap.size := by
  obtain ⟨_, cs, m, hc⟩ := h d e
  exact (Array.getElem?_eq_some_iff.1 hc).1
theorem Lies.below {w w' : World} {base : Nat} {E : TypeId} {a : Option Addr} (h : Lies w base E a) (hb : Below w.heap.size w w') : Lies w' base E a := fun d e => by
  have hl := h.lt e
  obtain ⟨h1, cs, m, hc⟩ := h d e
  exact ⟨h1, cs, m, by rw [hb.block _ hl]; exact hc⟩
theorem Lies.from {w : World} {base b : Nat} {E : TypeId} {a : Option Addr} (h : Lies w base E a) (hb : b ≤ base) : Lies w b E a := fun d e => ⟨Nat.le_trans hb (h d e).1, (h d e).2⟩
theorem Lies.ne {w : World} {base B e k n : Nat} {E : TypeId} {a : Option Addr} {v : Value} {ys : List Value} (h : Lies w base E a) (hv : w.ownsRow B e k v n ys) (hE : E ≠ e) {d : Addr} (ed : a = some d) : some d.block ≠ v.ownBlock := by
  obtain ⟨_, cs, m, hc⟩ := h d ed
  rcases hv.2 with ⟨h1, _⟩ | ⟨g, cap, cur, rfl, _, hg, _⟩
  · rw [h1]; exact fun e => by cases e
  · intro e1
    simp only [Value.ownBlock, Option.some.injEq] at e1
    rw [e1, hg] at hc
    cases hc
    exact hE rfl
theorem Lies.kept {w w' : World} {base B e k n : Nat} {E : TypeId} {a : Option Addr} {v : Value} {ys : List Value} (h : Lies w base E a) (hg : w.grownBy w' v.ownBlock) (hv : w.ownsRow B e k v n ys) (hE : E ≠ e) : Lies w' base E a := fun d ed => by
  have hl := h.lt ed
  have hn := h.ne hv hE ed
  obtain ⟨h1, cs, m, hc⟩ := h d ed
  exact ⟨h1, cs, m, by rw [hg.block _ hl hn]; exact hc⟩
theorem lies_own {w : World} {base e k n c m : Nat} {a : Option Addr} {ys : List Value} (h : w.ownsRow base e k (.slice a m c) n ys) : Lies w base e a := fun d ed => by
  subst ed
  rcases h.2 with ⟨h1, _⟩ | ⟨g, cap, cur, h1, h2, hg, _⟩
  · cases h1
  · cases h1
    exact ⟨h2, _, _, hg⟩
theorem cel_kept {w w' : World} {len : Nat} {a : Option Addr} {cs : List Value} {row : Option Nat} (h : Cel w a len cs) (hg : w.grownBy w' row) (hne : ∀ d, a = some d → some d.block ≠ row) : Cel w' a len cs :=
  ⟨h.hlen, fun i hi => by
    obtain ⟨b, off, e, hc⟩ := h.cell i hi
    exact ⟨b, off, e, hg.cell hc (hne ⟨b, off, none⟩ e)⟩⟩
theorem byt_kept {w w' : World} {len : Nat} {a : Option Addr} {l : BL} {row : Option Nat} (h : Byt w a len l) (hg : w.grownBy w' row) (hne : ∀ d, a = some d → some d.block ≠ row) : Byt w' a len l :=
  ⟨h.hlen, fun i hi => by
    obtain ⟨b, off, e, hc⟩ := h.cell i hi
    exact ⟨b, off, e, hg.cell hc (hne ⟨b, off, none⟩ e)⟩⟩
/-- The lists of a call that was made anew. -/
structure OwnC (w : World) (base : Nat) (x : CG) : Prop where
  argv : Cel w x.va x.argv.length (strs x.argv)
  env : Cel w x.ea x.env.length (strs x.env)
  bytes : Byt w x.ya x.bytes.length x.bytes
  la : Lies w base 9 x.va
  le : Lies w base 9 x.ea
  lb : Lies w base 5 x.ya
  ani : x.va = none → x.vc = 0
  eni : x.ea = none → x.ec = 0
  yni : x.ya = none → x.yc = 0
  acp : x.argv.length ≤ x.vc
  ecp : x.env.length ≤ x.ec
  ycp : x.bytes.length ≤ x.yc
theorem OwnC.below {w w' : World} {base : Nat} {x : CG} (h : OwnC w base x) (hb : Below w.heap.size w w') : OwnC w' base x := { h with argv := h.argv.below' hb, env := h.env.below' hb, bytes := h.bytes.below' hb, la := h.la.below hb, le := h.le.below hb, lb := h.lb.below hb }
theorem OwnC.from {w : World} {B b : Nat} {x : CG} (h : OwnC w B x) (hb : b ≤ B) : OwnC w b x := { h with la := h.la.from hb, le := h.le.from hb, lb := h.lb.from hb }
theorem OwnC.kept {w w' : World} {base B k n : Nat} {v : Value} {ys : List Value} {x : CG} (h : OwnC w base x) (hg : w.grownBy w' v.ownBlock) (hv : w.ownsRow B 49 k v n ys) : OwnC w' base x :=
  { h with argv := cel_kept h.argv hg (fun _ e => h.la.ne hv (by decide) e), env := cel_kept h.env hg (fun _ e => h.le.ne hv (by decide) e), bytes := byt_kept h.bytes hg (fun _ e => h.lb.ne hv (by decide) e), la := h.la.kept hg hv (by decide), le := h.le.kept hg hv (by decide), lb := h.lb.kept hg hv (by decide) }
theorem OwnC.ok {w : World} {base L : Nat} {x : CG} (h : OwnC w base x) (hb : PcB L (pcOf x)) (hL : L ≤ 1000000) (hy : x.bytes.length ≤ 100000000) : CGok w x := by
  have g1 : x.argv.length ≤ 255 := hb.an
  have g2 : x.env.length ≤ 255 := hb.en
  have g3 : x.path.length ≤ L := hb.path
  exact ⟨h.argv, h.env, h.bytes, hb.kind, hb.na, hb.nb, hb.nc, hb.nd, hb.ne, by omega, by omega, by omega, fun p hp => by have := hb.at' p hp; omega, fun p hp => by have := hb.et p hp; omega, by omega, h.ani, h.eni, h.yni⟩
def ReadQ (l : BL) (w : World) (e : Ending) (w' : World) : Prop := ∃ x, e = .returned (.tuple #[cgV x, .int .i64 ((readC l).2.1 : Nat), .int .i64 (readC l).2.2]) ∧ pcOf x = (readC l).1 ∧ Below w.heap.size w w' ∧ OwnC w' w.heap.size x
theorem ReadP.q {l : BL} {w w' : World} {e : Ending} (h : ReadP l w e w') : ReadQ l w e w' := by
  obtain ⟨x, h1, h2, h3, h4, h5, h6⟩ := h
  refine ⟨x, h1, h2, h3, ?_⟩
  have l1 := lies_own h4
  have l2 := lies_own h5
  have l3 := lies_own h6
  obtain ⟨a1, c1, q1, k1, n1, m1, _⟩ := own_cel h4
  obtain ⟨a2, c2, q2, k2, n2, m2, _⟩ := own_cel h5
  obtain ⟨a3, c3, q3, k3, n3, m3, _⟩ := own_cel h6
  cases q1; cases q2; cases q3
  exact ⟨k1, k2, ⟨rfl, fun i hi => by
    obtain ⟨b, off, e, hc⟩ := k3.cell i (by rw [List.length_map]; exact hi)
    exact ⟨b, off, e, by rw [hc, List.getElem_map]; rfl⟩⟩, l1, l2, l3, n1, n2, n3, m1, m2, m3⟩
/-- What was read keeps to bounds. -/
theorem readC_b (l : BL) : PcB l.length (readC l).1 ∧ (readC l).1.bytes.length ≤ 5 * l.length ∧ (readC l).2.1 ≤ l.length := by
  cases l with
  | nil => exact ⟨PcB.zero (by decide) _, Nat.zero_le _, Nat.zero_le _⟩
  | cons c lt =>
    rw [readC_cons]
    have h0 : ∀ L, PcB L (pc0 0) := fun L => PcB.zero (by decide) L
    split
    · have h1 := PcB.all (l := c :: lt) (fsL c.toNat) (z := (pc0 c.toNat, 1, false)) (PcB.zero (UInt8.toNat_lt _) _)
      obtain ⟨h2, h3, _, _⟩ := rdAll_b (c :: lt) (fsL c.toNat) (pc0 c.toNat, 1, false) (by simp)
      split
      · exact ⟨h0 _, Nat.zero_le _, Nat.zero_le _⟩
      · split
        · refine ⟨h1, ?_, h2⟩
          have h4 : (fsL c.toNat).length * (c :: lt).length ≤ 5 * (c :: lt).length := Nat.mul_le_mul_right _ (fsL_le5 c.toNat)
          have h3 : _ ≤ 0 + _ := h3
          exact Nat.le_trans h3 (by omega)
        · exact ⟨h0 _, Nat.zero_le _, Nat.zero_le _⟩
    · exact ⟨h0 _, Nat.zero_le _, Nat.zero_le _⟩
theorem PcB.mono {L M : Nat} {z : PC} (h : PcB L z) (hm : L ≤ M) : PcB M z := { h with path := Nat.le_trans h.path hm, at' := fun p hp => Nat.le_trans (h.at' p hp) hm, et := fun p hp => Nat.le_trans (h.et p hp) hm }
/-- The steps that bytes say, from a place on. -/
def stC (l : BL) : Nat → Nat → List (Nat × PC) → List (Nat × PC) × Int × Nat
  | 0, _, acc => (acc, 0, 0)
  | f + 1, p, acc => if h : p < l.length then (if (readC (l.drop (p + 1))).2.2 = 0 then stC l f (p + (1 + (readC (l.drop (p + 1))).2.1)) (acc ++ [(l[p].toNat, (readC (l.drop (p + 1))).1)]) else ([], (readC (l.drop (p + 1))).2.2, p)) else (acc, 0, 0)
def stepsC (l : BL) : List (Nat × PC) × Int × Nat := stC l (l.length + 1) 0 []
abbrev stR (x : Nat × CG) : List Value := .int .i64 x.1 :: cgC x.2
theorem stR_k (xs : List (Nat × CG)) : ∀ r ∈ xs.map stR, r.length = 11 := fun r hr => by
  obtain ⟨x, _, rfl⟩ := List.mem_map.1 hr
  rfl
structure StepsP (l : BL) (w : World) (e : Ending) (w' : World) : Prop where
  ex : ∃ (v : Value) (xs : List (Nat × CG)), e = .returned (.tuple #[v, .int .i64 (stepsC l).2.1, .int .i64 ((stepsC l).2.2 : Nat)]) ∧ w'.ownsRow w.heap.size 49 11 v xs.length (xs.map stR).flatten ∧ xs.map (fun x => (x.1, pcOf x.2)) = (stepsC l).1 ∧ (∀ x ∈ xs, OwnC w' w.heap.size x.2 ∧ PcB l.length (pcOf x.2) ∧ x.2.bytes.length ≤ 5 * l.length ∧ x.1 < 256)
  low : Below w.heap.size w w'
theorem infoStep : (Tryd.prog.info? 49).map (fun i => (i.zero, i.size, i.bytes)) = some (some (.agg #[.int .i64 0, .int .u8 0, .int .u64 0, .int .u64 0, .int .u64 0, .int .u64 0, .int .u64 0, .string ByteArray.empty, .slice none 0 0, .slice none 0 0, .slice none 0 0]), 11, 144) := by kernel_rfl
theorem slFromC (k : IntKind) (b off len cap f : Nat) (x : Int) (hx : x = (f : Int)) (hf : f ≤ len) (hc : len ≤ cap) (w : World) {l : BL} (hB : Byt w (some ⟨b, off, none⟩) len l) :
    ∃ o2, (∀ w, (Instr.slice 24 (.slice (some ⟨b, off, none⟩) len cap) (some (.int k x)) none none).run Tryd.prog w = .ok (.slice (some ⟨b, o2, none⟩) (len - f) (cap - f)) w) ∧ Byt w (some ⟨b, o2, none⟩) (len - f) (l.drop f) := by
  by_cases hlt : f < cap
  · exact ⟨off + f, fun w => slFrom k b off len cap f x hx hf hc hlt w, hB.from hf⟩
  · subst hx
    obtain rfl : f = len := by omega
    obtain rfl : f = cap := by omega
    have hz : ∀ w, (sizeOf (Tryd.prog.elem 24)).run Tryd.prog w = .ok 1 w := fun w => by kernel_rfl
    refine ⟨off, fun w => ?_, ?_⟩
    · rw [run_slice_l w 24 _ _ _ (by kernel_rfl) k f (by omega) (by omega), hz]
      simp only [Result.andThen, sliced, Int.toNat_natCast]
      rw [if_pos (by trivial)]
    · rw [List.drop_of_length_le (by have := hB.hlen; omega), Nat.sub_self]
      exact Byt.nil _ _
theorem stC_b (l : BL) : ∀ (f p : Nat) (acc : List (Nat × PC)), acc.length ≤ p → p ≤ l.length → (stC l f p acc).1.length ≤ l.length ∧ (stC l f p acc).2.2 ≤ l.length
  | 0, p, acc, h, hp => ⟨Nat.le_trans h hp, Nat.zero_le _⟩
  | f + 1, p, acc, h, hp => by
    unfold stC
    split
    · rename_i hlt
      split
      · have hb := (readC_b (l.drop (p + 1))).2.2
        rw [List.length_drop] at hb
        exact stC_b l f _ _ (by rw [List.length_append]; simp; omega) (by omega)
      · exact ⟨Nat.zero_le _, hp⟩
    · exact ⟨Nat.le_trans h hp, Nat.zero_le _⟩
/-- What a round of Steps loads. -/
structure SBx (b o g : Nat) (u : Value) (x : CG) (ww : World) : Prop where
  row : Row ww g 26 (cgC x)
  byt : ww.cell? ⟨b, o, none⟩ = some u
theorem SBx.drew {b o g : Nat} {u : Value} {x : CG} {w : World} (h : SBx b o g u x w) : SBx b o g u x w.drew := ⟨h.row.drew, h.byt⟩
theorem SBx.alloc {b o g : Nat} {u : Value} {x : CG} {w : World} (h : SBx b o g u x w) (ob : Obj) : SBx b o g u x (w.alloc ob) := ⟨h.row.alloc ob, keepC (bal ob) h.byt⟩
theorem SBx.kept {b o g : Nat} {u : Value} {x : CG} {w w' : World} {B n k : Nat} {v : Value} {ys : List Value} (h : SBx b o g u x w) (hg : w.grownBy w' v.ownBlock) (hv : w.ownsRow B 49 k v n ys) (hb : b < B) : SBx b o g u x w' :=
  ⟨h.row.grown hg (own_ne_row hv h.row (by decide)), hg.cell h.byt (own_ne hv (.inl hb))⟩
theorem SBx.ten {b o g : Nat} {u : Value} {x : CG} {ww : World} (h : SBx b o g u x ww) : ww.cell? ⟨g, 0, none⟩ = some (.int .u8 x.kind) ∧ ww.cell? ⟨g, 1, none⟩ = some (.int .u64 x.a) ∧ ww.cell? ⟨g, 2, none⟩ = some (.int .u64 x.b) ∧ ww.cell? ⟨g, 3, none⟩ = some (.int .u64 x.c) ∧ ww.cell? ⟨g, 4, none⟩ = some (.int .u64 x.d) ∧ ww.cell? ⟨g, 5, none⟩ = some (.int .u64 x.e) ∧ ww.cell? ⟨g, 6, none⟩ = some (.string (ba x.path)) ∧ ww.cell? ⟨g, 7, none⟩ = some (.slice x.va x.argv.length x.vc) ∧ ww.cell? ⟨g, 8, none⟩ = some (.slice x.ea x.env.length x.ec) ∧ ww.cell? ⟨g, 9, none⟩ = some (.slice x.ya x.bytes.length x.yc) := h.row.ten
end Go.Proofs.YtcbkikioapdbbaaDoor
namespace Go.Proofs.YtcbkikioapdbbaaDoor
open Go.RowKit Go.Sort
attribute [local go_sem] Oper.semAt_some

set_option maxRecDepth 100000 in
set_option maxHeartbeats 4000000 in
theorem steps25_any (a : Option Addr) (cap : Nat) (l : BL) (w : World) (hs : Sizes w) (hg : 0 < w.heap.size) (hB : Byt w a l.length l) (hl : l.length ≤ 100000) (hcap : l.length ≤ cap) :
    Calls Tryd.prog 24 #[.slice a l.length cap] w (StepsP l w) := by
  have HSH := hid hs
  have HBH := hid hB
  have HCAP := hid hcap
  clear hs hB hcap
  go_enter Tryd.func24, Tryd.ntmps24
  go_wp2_with fail
  go_loopw [5, 6] (fun v i wr => ∃ (p f : Nat) (xs : List (Nat × CG)), p ≤ l.length ∧ i = .int .i64 p ∧ l.length < p + f ∧ stC l f p (xs.map (fun x => (x.1, pcOf x.2))) = stepsC l ∧ wr.ownsRow w.heap.size 49 11 v xs.length (xs.map stR).flatten ∧ (∀ x ∈ xs, OwnC wr w.heap.size x.2 ∧ PcB l.length (pcOf x.2) ∧ x.2.bytes.length ≤ 5 * l.length ∧ x.1 < 256) ∧ xs.length ≤ p ∧ Below w.heap.size w wr) (fun _ i _ => l.length - (intOf i).toNat)
  case atStart => exact ⟨0, l.length + 1, [], Nat.zero_le _, rfl, by omega, rfl, World.ownsRow_nil _ _ _ _, (fun x h => by cases h), Nat.le_refl _, Below.refl _ _⟩
  case round =>
    obtain ⟨p, f, xs, hp, rfl, hf, hst, hown, hok, hxl, hbr⟩ := hrel
    rename World => wA
    have HST := hid hst
    have HO := hid hown
    have HOK := hid hok
    have HBR := hid hbr
    have HF := hid hf
    clear hst hown hok hbr hf
    by_cases hlt : p < l.length
    · have d1 : decide ((p : Int) < (l.length : Int)) = true := by simp; omega
      have d1n : decide (p < l.length) = true := by simp; omega
      obtain ⟨f, rfl⟩ : ∃ g, f = g + 1 := ⟨f - 1, by have := HF.out; omega⟩
      obtain ⟨b, off, ra, hcells⟩ := HBH.out.some_of (by omega)
      have HBH2 : Hid (Byt w (some ⟨b, off, none⟩) l.length l) := hid (ra ▸ HBH.out)
      have hbw : b < w.heap.size := World.block_lt_of_cell? w _ (hcells 0 (by omega))
      subst ra
      have hx0 : wA.cell? ⟨b, off + p, none⟩ = some (.int .u8 (l[p].toNat : Int)) := keepC HBR.out (hcells p hlt)
      have hBA := HBH2.out.below' HBR.out
      obtain ⟨o2, hsl, hB2⟩ := slFromC .i64 b off l.length cap (p + 1) ((p : Int) + 1) (by omega) (by omega) HCAP.out wA hBA
      have hdl : (l.drop (p + 1)).length = l.length - (p + 1) := by simp
      have HST2 := hid (show (if (readC (l.drop (p + 1))).2.2 = 0 then stC l f (p + (1 + (readC (l.drop (p + 1))).2.1)) (xs.map (fun x => (x.1, pcOf x.2)) ++ [(l[p].toNat, (readC (l.drop (p + 1))).1)]) else ([], (readC (l.drop (p + 1))).2.2, p)) = stepsC l from by have h := HST.out; unfold stC at h; rwa [dif_pos hlt] at h)
      have HEQ := hid (rfl : l.drop (p + 1) = l.drop (p + 1))
      generalize l.drop (p + 1) = ld at hdl hB2 HST2 HEQ
      rw [← hdl] at hB2 hsl
      have HRD := hid (read25_any b o2 (cap - (p + 1)) ld wA (HSH.out.belowB HBR.out hg) (Nat.lt_of_lt_of_le hg HBR.out.size) hB2 (Nat.lt_of_lt_of_le hbw HBR.out.size) (by omega) (by have := HCAP.out; omega))
      have HRB := hid (readC_b ld)
      have HDL := hid hdl
      have HHC := hid hcells
      obtain ⟨ua, uc, rfl⟩ := own_hd2 HO.out
      clear hBA hB2 hdl hcells
      go_wp2_with fail
      refine HRD.out.mono ?_
      intro e' w5 hrp
      obtain ⟨x, rfl, hpx, hb5, hox⟩ := hrp.q
      have HPX := hid hpx
      have HB5 := hid hb5
      have HOX := hid (hox.from HBR.out.size)
      clear hrp hpx hb5 hox HRD
      have HHX := hid hx0
      clear hx0 hsl
      by_cases he : (readC ld).2.2 = 0
      · have HST3 := hid (show stC l f (p + (1 + (readC ld).2.1)) ((xs ++ [(l[p].toNat, x)]).map (fun x => (x.1, pcOf x.2))) = stepsC l by rw [← HST2.out, if_pos he, List.map_append, ← HPX.out]; rfl)
        clear HST2
        obtain ⟨W6, hW6⟩ : ∃ W, W = w5.alloc (.cells (cgC x).toArray 26) := ⟨_, rfl⟩
        have hb6 : Below w5.heap.size w5 W6 := by rw [hW6]; exact bal _
        have hs6 : W6.heap.size = w5.heap.size + 1 := by rw [hW6, World.size_alloc]
        have hr6 : Row W6 w5.heap.size 26 (cgC x) := by rw [hW6]; exact Row.new w5 _ _
        have hB6 := HBR.out.trans ((HB5.out.trans (hb6.mono HB5.out.size)).mono HBR.out.size)
        have HB6 := hid hB6
        have HSB := hid (show SBx b (off + p) w5.heap.size (.int .u8 (l[p].toNat : Int)) x W6 from ⟨hr6, keepC HB6.out (HHC.out p hlt)⟩)
        have HB57 := hid (show Below wA.heap.size wA W6 from HB5.out.trans (hb6.mono HB5.out.size))
        have hBN : ∀ o, Below w.heap.size w (W6.alloc o).drew := fun o => (hB6.alloc (Nat.le_trans (Nat.le_refl _) hB6.size) o).drew
        have HBN := hid hBN
        have HOW := hid (fun o => (own_below HO.out (HB57.out.alloc (HB57.out.size) o).drew))
        have HHe := hid (fun o => show ((W6.alloc o).drew).heap.size = W6.heap.size + 1 from by show (W6.alloc o).heap.size = _; simp)
        have hnr := ((rk_new W6 49 (k := 11) (stR (l[p].toNat, x)) rfl).below' (St.drew _)).news (by decide)
        have HNR := hid (show ∀ j u, (stR (l[p].toNat, x))[j]? = some u → ((W6.alloc (.cells (stR (l[p].toNat, x)).toArray 49)).drew).cell? ((Addr.mk W6.heap.size 0 none).add j) = some u from fun j u hj => hnr j u (by simpa using hj))
        have hl256 : l[p].toNat < 256 := UInt8.toNat_lt _
        have HL256 := hid hl256
        have hw8 := IntWalk.i64_in (l[p].toNat : Int) (by omega)
        clear hl256 hnr
        have HONE := hid (show ∀ u ∈ stR (l[p].toNat, x), u.oneCell' = true from fun u hu => by
          simp only [stR, cgC, List.mem_cons, List.not_mem_nil, or_false] at hu
          rcases hu with rfl | rfl | rfl | rfl | rfl | rfl | rfl | rfl | rfl | rfl | rfl <;> rfl)
        have HN1 := hid (show (xs.length + 1) * 144 ≤ 140737488355328 by omega)
        have HN2 := hid (show xs.length + 1 ≤ maxLen by unfold maxLen; omega)
        obtain ⟨i0, hi0, hz0, hz1, hz2⟩ := info_parts infoStep
        have HKEEP := hid (fun (o : Obj) (w' : World) (hg : ((W6.alloc o).drew).grownBy w' (Value.slice ua xs.length uc).ownBlock) => (HSB.out.alloc o).drew.kept hg (HOW.out o) hbw)
        have HBB := hid (fun (o : Obj) (w' : World) (hg : ((W6.alloc o).drew).grownBy w' (Value.slice ua xs.length uc).ownBlock) => (HBN.out o).grown hg (HBN.out o).size (fun q hq => ((HOW.out o).lt q hq).1))
        have HOXB := hid (fun (o : Obj) (w' : World) (hg : ((W6.alloc o).drew).grownBy w' (Value.slice ua xs.length uc).ownBlock) => ((HOX.out.below hb6).below ((bal o).drew)).kept hg (HOW.out o))
        have HOKB := hid (fun (o : Obj) (w' : World) (hg : ((W6.alloc o).drew).grownBy w' (Value.slice ua xs.length uc).ownBlock) (y : Nat × CG) (hy : y ∈ xs) => ((((HOK.out y hy).1.below HB57.out).below ((bal o).drew)).kept hg (HOW.out o)))
        have HR2 := hid HRB.out
        have HW6 := hid hW6
        have HS6 := hid hs6
        have e0 : ∀ ww, SBx b (off + p) w5.heap.size (.int .u8 (l[p].toNat : Int)) x ww → ww.cell? ⟨b, off + p, none⟩ = some (.int .u8 (l[p].toNat : Int)) := fun ww h => h.byt
        have e1 : ∀ ww, SBx b (off + p) w5.heap.size (.int .u8 (l[p].toNat : Int)) x ww → ww.cell? ⟨w5.heap.size, 0, none⟩ = some (.int .u8 x.kind) := fun ww h => h.row.cell' 0
        have e2 : ∀ ww, SBx b (off + p) w5.heap.size (.int .u8 (l[p].toNat : Int)) x ww → ww.cell? ⟨w5.heap.size, 1, none⟩ = some (.int .u64 x.a) := fun ww h => h.row.cell' 1
        have e3 : ∀ ww, SBx b (off + p) w5.heap.size (.int .u8 (l[p].toNat : Int)) x ww → ww.cell? ⟨w5.heap.size, 2, none⟩ = some (.int .u64 x.b) := fun ww h => h.row.cell' 2
        have e4 : ∀ ww, SBx b (off + p) w5.heap.size (.int .u8 (l[p].toNat : Int)) x ww → ww.cell? ⟨w5.heap.size, 3, none⟩ = some (.int .u64 x.c) := fun ww h => h.row.cell' 3
        have e5 : ∀ ww, SBx b (off + p) w5.heap.size (.int .u8 (l[p].toNat : Int)) x ww → ww.cell? ⟨w5.heap.size, 4, none⟩ = some (.int .u64 x.d) := fun ww h => h.row.cell' 4
        have e6 : ∀ ww, SBx b (off + p) w5.heap.size (.int .u8 (l[p].toNat : Int)) x ww → ww.cell? ⟨w5.heap.size, 5, none⟩ = some (.int .u64 x.e) := fun ww h => h.row.cell' 5
        have e7 : ∀ ww, SBx b (off + p) w5.heap.size (.int .u8 (l[p].toNat : Int)) x ww → ww.cell? ⟨w5.heap.size, 6, none⟩ = some (.string (ba x.path)) := fun ww h => h.row.cell' 6
        have e8 : ∀ ww, SBx b (off + p) w5.heap.size (.int .u8 (l[p].toNat : Int)) x ww → ww.cell? ⟨w5.heap.size, 7, none⟩ = some (.slice x.va x.argv.length x.vc) := fun ww h => h.row.cell' 7
        have e9 : ∀ ww, SBx b (off + p) w5.heap.size (.int .u8 (l[p].toNat : Int)) x ww → ww.cell? ⟨w5.heap.size, 8, none⟩ = some (.slice x.ea x.env.length x.ec) := fun ww h => h.row.cell' 8
        have e10 : ∀ ww, SBx b (off + p) w5.heap.size (.int .u8 (l[p].toNat : Int)) x ww → ww.cell? ⟨w5.heap.size, 9, none⟩ = some (.slice x.ya x.bytes.length x.yc) := fun ww h => h.row.cell' 9
        have hSB := HSB.out
        clear hW6 hb6 hr6 hB6 hBN hs6
        rw [he]
        go_wp2_with fail
        rw [← HW6.out]
        go_region_held3 (SBx b (off + p) w5.heap.size (.int .u8 (l[p].toNat : Int)) x) (first | exact SBx.drew (by assumption) | exact SBx.alloc (by assumption) _ | exact HSB9.out | assumption) (first | (refine step_append_lies _ (by rfl) _ _ 42 (by rfl) w.heap.size 49 i0 _ 11 144 Tryd.underlying42 hi0 hz0 hz1 hz2 rfl (by decide) (.slice ua xs.length uc) xs.length (xs.map stR).flatten (by rfl) (HOW.out _) ⟨W6.heap.size, 0, none⟩ 1 1 (stR (l[p].toNat, x)) (by rfl) (by rfl) HNR.out HONE.out (by decide) HN2.out HN1.out (HBN.out _).size (W6.heap.size + 1) (HHe.out _) ?_; intro gg gc w9 hown hgrow hat hlt9; have HO9 := hid hown; have HSB9 := hid (HKEEP.out _ _ hgrow); have HOX9 := hid (HOXB.out _ _ hgrow); have HOK9 := hid (HOKB.out _ _ hgrow); have HB9 := hid (HBB.out _ _ hgrow)))
        have hr3 := HR2.out.2.2
        have hdl := HDL.out
        have HPB := hid HR2.out.1
        have HYB := hid HR2.out.2.1
        rw [← HPX.out] at HPB HYB
        generalize (readC ld).2.1 = n at *
        clear e0 e1 e2 e3 e4 e5 e6 e7 e8 e9 e10 hSB HRB HR2
        go_wp2_with fail
        go_roundw
        case rel => exact ⟨p + (1 + n), f, xs ++ [(l[p].toNat, x)], by omega, by go_num, by have := HF.out; omega, HST3.out, own_ext HO9.out (by simp) (by simp), (fun y hy => by
          rcases List.mem_append.1 hy with hy | hy
          · exact ⟨HOK9.out y hy, (HOK.out y hy).2⟩
          · rw [List.mem_singleton.1 hy]
            exact ⟨HOX9.out, HPB.out.mono (by omega), Nat.le_trans HYB.out (by omega), HL256.out⟩), by rw [List.length_append]; simp; omega, HB9.out⟩
        case measure => simp [intOf]; omega
      · have HFIN := hid (show stepsC l = ([], (readC ld).2.2, p) by rw [← HST2.out, if_neg he])
        have hn := bne_t he
        have hn2 := beq_f he
        clear HST2
        generalize (readC ld).2.2 = er at *
        clear he
        go_wp2_with fail
        refine bodyPost_ret (v := .tuple #[.slice none 0 0, .int .i64 er, .int .i64 (p : Nat)]) (by simp [results, Tryd.results24, go_sem]) rfl ?_
        exact ⟨⟨_, [], by rw [HFIN.out], World.ownsRow_nil _ _ _ _, by rw [HFIN.out]; rfl, fun x h => by cases h⟩, (HBR.out.trans (HB5.out.mono HBR.out.size)).alloc (Nat.le_trans HBR.out.size HB5.out.size) _⟩
    · have d1 : decide ((p : Int) < (l.length : Int)) = false := by simp; omega
      have d1n : decide (p < l.length) = false := by simp; omega
      have HFIN := hid (show stepsC l = (xs.map (fun x => (x.1, pcOf x.2)), 0, 0) from by
        rw [← HST.out]
        cases f with
        | zero => rfl
        | succ f => unfold stC; rw [dif_neg hlt])
      obtain ⟨ua, uc, rfl⟩ := own_hd2 HO.out
      go_wp2_with fail
      refine bodyPost_ret (v := .tuple #[.slice ua xs.length uc, .int .i64 0, .int .i64 0]) (by simp [results, Tryd.results24, go_sem]) rfl ?_
      exact ⟨⟨_, xs, by rw [HFIN.out]; rfl, HO.out, by rw [HFIN.out], HOK.out⟩, HBR.out⟩
end Go.Proofs.YtcbkikioapdbbaaDoor
