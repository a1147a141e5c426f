
/- dynamic.gather. -/
import Derived.Test.YtkkadknijjninaaDoorKQ2
import Derived.Test.YtkkadknijjninaaDoorAP
import Derived.Maps.RangeWalk
namespace Go.Proofs.YtkkadknijjninaaDoor
open Go.RowKit Go.Sort Go.Shelf Go.WideMaps Go.Maps
attribute [local go_sem] Oper.semAt_some

abbrev EL := List (Int × Int)
def gstep (s : List Int × EL) (x : Int × Int) : Option (List Int × EL) := match lk puL x.1 with
  | none => some s
  | some p => if p.several = true then some (s.1 ++ [x.2], s.2) else if (lk s.2 x.1).isSome = true ∨ (¬ p.must = 0 ∧ ¬ x.2 = p.must) then none else some (s.1, s.2 ++ [x])
def gathK (xs : EL) : Option (List Int × EL) := xs.foldl (fun o x => o.bind fun s => gstep s x) (some ([], []))
theorem gathK_snoc (xs : EL) (x : Int × Int) : gathK (xs ++ [x]) = (gathK xs).bind fun s => gstep s x := by simp [gathK, List.foldl_append]
theorem gathK_none {xs : EL} {k : Nat} (h : gathK (xs.take k) = none) : gathK xs = none := by
  have e : xs = xs.take k ++ xs.drop k := (List.take_append_drop k xs).symm
  have key : ∀ (ys : EL), ys.foldl (fun (o : Option (List Int × EL)) x => o.bind fun s => gstep s x) none = none := by
    intro ys
    induction ys with
    | nil => rfl
    | cons y ys ih => exact ih
  rw [e]
  unfold gathK at *
  rw [List.foldl_append, h]
  exact key _
theorem gstep_len {s s' : List Int × EL} {x : Int × Int} (h : gstep s x = some s') : s'.1.length ≤ s.1.length + 1 ∧ s'.2.length ≤ s.2.length + 1 := by
  unfold gstep at h
  split at h
  · cases h; omega
  · split at h
    · cases h; simp
    · split at h
      · cases h
      · cases h; simp
theorem gathK_len {xs : EL} {s : List Int × EL} (h : gathK xs = some s) : s.1.length ≤ xs.length ∧ s.2.length ≤ xs.length := by
  rcases xs.eq_nil_or_concat with rfl | ⟨e, x, rfl⟩
  · cases h; simp
  · rw [List.concat_eq_append, gathK_snoc] at h
    cases hg : gathK e with
    | none => rw [hg] at h; cases h
    | some t =>
      rw [hg] at h
      have h1 := gathK_len hg
      have h2 := gstep_len (show gstep t x = some s from h)
      rw [List.concat_eq_append, List.length_append, List.length_singleton]
      omega
termination_by xs.length
decreasing_by simp_all
def okT (vals : EL) (t : Int) : Bool := match lk puL t with
  | none => true
  | some p => decide (p.goes = 0) || (lk vals p.goes).isSome
def withOk (vals : EL) : Bool := vals.all fun x => okT vals x.1
def gathR (xs : EL) : Int ⊕ (List Int × EL) := match gathK xs with
  | none => .inl 25
  | some s => if withOk s.2 = false then .inl 25 else if 8 < s.1.length then .inl 12 else .inr s
structure GatP (R : Int ⊕ (List Int × EL)) (w : World) (e : Ending) (w' : World) : Prop where
  ex : (∃ er, R = .inl er ∧ e = .returned (.tuple #[.agg #[.slice none 0 0, .map none], .int .i64 er])) ∨ (∃ s v mv, R = .inr s ∧ e = .returned (.tuple #[.agg #[v, .map (some mv)], .int .i64 0]) ∧ w'.ownsRow w.heap.size 24 1 v s.1.length (s.1.map (Value.int .u64)) ∧ MM meU w' mv s.2)
  low : Below w.heap.size w w'

theorem bset2al {w w' : World} (h : Below w.heap.size w w') {b : Nat} (hb : w.heap.size ≤ b) (u0 u1 : Value) (o o' : Obj) : Below w.heap.size w ((((w'.setCell ⟨b, 0, none⟩ u0).setCell ⟨b, 1, none⟩ u1).alloc o).alloc o') :=
  have h2 := bset (bset h hb u0 (o := 0)) hb u1 (o := 1)
  (h2.alloc h2.size o).alloc (h2.alloc h2.size o).size o'
theorem grown_below {w w' : World} (h : w.grownBy w' none) : Below w.heap.size w w' := ⟨h.os, h.tape, h.output, h.size, fun k hk => h.block k hk (by simp)⟩
theorem row_mm {α : Type} {E : ME α} {w : World} {g m : Nat} {T : TypeId} {cs : List Value} {l : List (Int × α)} (h : Row w g T cs) (hm : MM E w m l) : g ≠ m := by
  rintro rfl
  obtain ⟨es, clock, hb, _⟩ := hm
  have := h.heap
  rw [hb] at this
  cases this
theorem own_mm {α : Type} {E : ME α} {w : World} {m base e size n : Nat} {v : Value} {xs : List Value} {l : List (Int × α)} (h : w.ownsRow base e size v n xs) (hm : MM E w m l) : some m ≠ v.ownBlock := by
  rcases h.2 with ⟨h1, _⟩ | ⟨g, cap, cur, rfl, hb, hg, _⟩
  · rw [h1]; exact fun e => by cases e
  · intro e1
    simp only [Value.ownBlock, Option.some.injEq] at e1
    subst e1
    obtain ⟨es, clock, hb, _⟩ := hm
    rw [hb] at hg
    cases hg
theorem MM.grown {α : Type} {E : ME α} {w w' : World} {m : Nat} {l : List (Int × α)} {row : Option Nat} (h : MM E w m l) (hg : w.grownBy w' row) (hne : some m ≠ row) : MM E w' m l := h.same (hg.block m h.lt hne)
theorem MM.setCell {α : Type} {E : ME α} {w : World} {m b o : Nat} {l : List (Int × α)} (h : MM E w m l) (hne : m ≠ b) (u : Value) : MM E (w.setCell ⟨b, o, none⟩ u) m l := h.same (heap_setCell_other w _ m u (by simpa using hne))
theorem own_grown {w w' : World} {base e size n : Nat} {v : Value} {xs : List Value} {row : Option Nat} (h : w.ownsRow base e size v n xs) (hg : w.grownBy w' row) (hne : ∀ g, v.ownBlock = some g → some g ≠ row) : w'.ownsRow base e size v n xs := by
  refine ⟨h.1, ?_⟩
  rcases h.2 with hn | ⟨g, cap, cur, hv, hb, hh, r⟩
  · exact .inl hn
  · exact .inr ⟨g, cap, cur, hv, hb, by rw [hg.block g (Array.getElem?_eq_some_iff.1 hh).1 (hne g (by rw [hv]; rfl))]; exact hh, r⟩

/-- What the first loop has gathered. -/
structure GA (w : World) (rb mk mv sb : Nat) (sv : Value) (s : List Int × EL) (W : World) : Prop where
  res : Row W rb 85 [.slice none 0 0, .map none]
  pu : MM meP W mk puL
  sec : Row W sb 85 [sv, .map (some mv)]
  own : W.ownsRow w.heap.size 24 1 sv s.1.length (s.1.map (Value.int .u64))
  val : MM meU W mv s.2
  low : Below w.heap.size w W
  mm : mk ≠ mv
  hr : w.heap.size ≤ rb
  hs : w.heap.size ≤ sb
  hv : w.heap.size ≤ mv
  ne : rb ≠ sb
section
variable {w W W' : World} {rb mk mv sb : Nat} {sv : Value} {s : List Int × EL}
theorem GA.below (h : GA w rb mk mv sb sv s W) (hb : Below W.heap.size W W') : GA w rb mk mv sb sv s W' :=
  ⟨h.res.below hb h.res.lt, h.pu.below hb, h.sec.below hb h.sec.lt, own_below h.own hb, h.val.below hb, h.low.trans (hb.mono h.low.size), h.mm, h.hr, h.hs, h.hv, h.ne⟩
theorem GA.put (h : GA w rb mk mv sb sv s W) (x : Int × Int) (hm : MM meU W' mv (s.2 ++ [x])) (hg : W.grownBy W' (some mv)) : GA w rb mk mv sb sv (s.1, s.2 ++ [x]) W' :=
  ⟨h.res.grown hg (by simp only [ne_eq, Option.some.injEq]; exact row_mm h.res h.val), h.pu.grown hg (by simp only [ne_eq, Option.some.injEq]; exact h.mm), h.sec.grown hg (by simp only [ne_eq, Option.some.injEq]; exact row_mm h.sec h.val),
    own_grown h.own hg (fun g e => by
      have := own_mm h.own h.val
      rw [e] at this
      exact fun e2 => this e2.symm), hm, h.low.grown hg h.low.size (fun k hk => by cases hk; exact h.hv), h.mm, h.hr, h.hs, h.hv, h.ne⟩
theorem GA.app (h : GA w rb mk mv sb sv s W) (x : Int) {v' : Value} (ho : W'.ownsRow w.heap.size 24 1 v' (s.1.length + 1) (s.1.map (Value.int .u64) ++ [.int .u64 x])) (hg : W.grownBy W' sv.ownBlock) :
    GA w rb mk mv sb v' (s.1 ++ [x], s.2) (W'.setCell ⟨sb, 0, none⟩ v') := by
  have r1 := h.res.grown hg (own_row_ne h.own h.res (by decide))
  have r2 := h.sec.grown hg (own_row_ne h.own h.sec (by decide))
  have m1 := h.pu.grown hg (own_mm h.own h.pu)
  have m2 := h.val.grown hg (own_mm h.own h.val)
  refine ⟨r1.other (by simpa using h.ne) _, m1.setCell (Ne.symm (row_mm r2 m1)) _, r2.set 0 _, ?_, m2.setCell (Ne.symm (row_mm r2 m2)) _, bset (h.low.grown hg h.low.size (fun k hk => own_low h.own (Nat.le_refl _) k hk)) h.hs _, h.mm, h.hr, h.hs, h.hv, h.ne⟩
  have := own_setOther ho (own_row_ne ho r2 (by decide)) v' (o := 0)
  exact own_ext this (by simp) (by simp)
end
theorem it_heap {w : World} {R : Value → Option (DataW Unit × List MemPlace)} {b r n : Nat} {D : DataW Unit} {left : Lit → Bool} {cnt : Nat} (h : w.ranges Tryd.prog 24 R b r n D left cnt) : ∃ x : Option Nat × Nat × Array Nat × Nat, w.heap[r]? = some (.mapIter x.1 x.2.1 x.2.2.1 x.2.2.2) := by
  obtain ⟨es, clock, since, seen, c0, hb, _, _, _, hr, _⟩ := h
  exact ⟨(some b, since, seen, c0), hr⟩
theorem below_grown {w w' : World} (h : Below w.heap.size w w') : w.grownBy w' none := ⟨h.os, h.tape, h.output, h.size, fun k hk _ => h.block k hk⟩
theorem at_has {l : EL} {x : Int} {yd : DataW Unit} (h : ∀ zd, (mapM meU l).atKey (.int .u64 x) zd = yd) : ∃ c, lk l x = some c := by
  cases hl : lk l x with
  | some c => exact ⟨c, rfl⟩
  | none =>
    have h1 := h (.lit (.bool true))
    have h2 := h (.lit (.bool false))
    rw [mapM_at, hl] at h1 h2
    rw [← h1] at h2
    simp at h2
theorem same_int {a b : Int} (h : (Lit.int .u64 a).sameKey (.int .u64 b) = true) : a = b := by
  simpa [Lit.sameKey] using h
theorem GA.turn {w W W' : World} {rb mk mv sb rI : Nat} {sv : Value} {s : List Int × EL} (h : GA w rb mk mv sb sv s W) {x : Option Nat × Nat × Array Nat × Nat} (hi : W.heap[rI]? = some (.mapIter x.1 x.2.1 x.2.2.1 x.2.2.2)) (hg : W.grownBy W' (some rI)) (hI : w.heap.size ≤ rI) : GA w rb mk mv sb sv s W' := by
  have nr : ∀ {g : Nat} {T : TypeId} {cs : List Value}, Row W g T cs → some g ≠ some rI := fun hr e => by
    cases e
    have := hr.heap
    rw [hi] at this
    cases this
  have nm : ∀ {α : Type} {E : ME α} {m : Nat} {l : List (Int × α)}, MM E W m l → some m ≠ some rI := fun hm e => by
    cases e
    obtain ⟨es, clock, hb, _⟩ := hm
    rw [hi] at hb
    cases hb
  refine ⟨h.res.grown hg (nr h.res), h.pu.grown hg (nm h.pu), h.sec.grown hg (nr h.sec), own_grown h.own hg (fun g e e2 => ?_), h.val.grown hg (nm h.val), h.low.grown hg h.low.size (fun k hk => by cases hk; exact hI), h.mm, h.hr, h.hs, h.hv, h.ne⟩
  cases e2
  rcases h.own.2 with ⟨h1, _⟩ | ⟨g, cap, cur, hv, hb, hh, _⟩
  · rw [h1] at e; cases e
  · rw [hv] at e
    cases e
    rw [hi] at hh
    cases hh
theorem at_slot {P : Program} {ops : Array Oper} {rest : List Oper} {o : Oper} {a : Act} {w : World} {Q : Exit → Act → World → Prop} (n : Nat) (_ : o.dst = some n) (h : wpList P ops Q (o :: rest) a w) : wpList P ops Q (o :: rest) a w := h
theorem wpList_field {P : Program} {ops : Array Oper} {rest : List Oper} {o : Oper} {a : Act} {w : World} {Q : Exit → Act → World → Prop} (hg : o.guard = none) (t : TypeId) (x : Operand) (f : Nat) (hop : o.op = Op.field t x f) (v u : Value) (hx : a.eval x = v) (hrun : (Instr.field t v f).run P w = .ok u w)
    (h : wpList P ops Q rest (a.put o.dst u) w) : wpList P ops Q (o :: rest) a w := by
  refine wpList_plain hg fun K hK => ?_
  unfold Oper.wp
  simp [execOp, hop, hx, hrun, Result.andThen]
  exact hK _ _ h
theorem fld_goes (s : Bool) (m g : Int) (w : World) : (Instr.field 118 (.agg #[.bool s, .int .u64 m, .int .u64 g]) 2).run Tryd.prog w = .ok (.int .u64 g) w := by kernel_rfl
theorem infoU64 : (Tryd.prog.info? 24).map (fun i => (i.zero, i.size, i.bytes)) = some (some (.int .u64 0), 1, 8) := by kernel_rfl
theorem puL_ok {t : Int} {p : PU} (h : lk puL t = some p) : 0 ≤ p.goes ∧ p.goes ≤ 18446744073709551615 := by
  have hm := lk_mem h
  have key : ∀ x ∈ puL, 0 ≤ x.2.goes ∧ x.2.goes ≤ 18446744073709551615 := by
    intro x hx
    simp only [puL, puZ, List.mem_cons, List.not_mem_nil, or_false] at hx
    rcases hx with rfl | rfl | rfl | rfl | rfl | rfl | rfl | rfl | rfl | rfl | rfl | rfl | rfl | rfl | rfl <;> exact ⟨by decide, by decide⟩
  exact key _ hm
theorem lk_some {α : Type} {l : List (Int × α)} {x : Int × α} (h : x ∈ l) : (lk l x.1).isSome = true := by
  unfold lk
  rw [Option.isSome_map, List.find?_isSome]
  exact ⟨x, List.mem_reverse.2 h, by simp⟩
set_option maxRecDepth 100000 in
set_option maxHeartbeats 16000000 in
theorem gather_any (a : Option Addr) (c : Nat) (xs : EL) (w : World) (hK : Rk w 2 a xs.length (xs.map entC)) (hn : xs.length ≤ 1000000000) (hx : ∀ x ∈ xs, 0 ≤ x.1 ∧ x.1 ≤ 18446744073709551615 ∧ 0 ≤ x.2 ∧ x.2 ≤ 18446744073709551615) :
    Calls Tryd.prog 33 #[.slice a xs.length c] w (GatP (gathR xs) w) := by
  have hmm := @run_makeMap Tryd.prog
  obtain ⟨W0, hW0⟩ : ∃ W0, W0 = w.alloc (.cells #[.slice none 0 0, .map none] 85) := ⟨_, rfl⟩
  have HW0 := hid hW0
  have HB0 := hid (show Below w.heap.size w W0 by rw [hW0]; exact bal _)
  have HR0 := hid (show Row W0 w.heap.size 85 [.slice none 0 0, .map none] by rw [hW0]; exact Row.new _ _ _)
  have HKX := hid (fun (W : World) (hb : Below w.heap.size w W) => hK.below' hb)
  have HX := hid hx
  have HN := hid hn
  obtain ⟨R, hR⟩ : ∃ R, R = gathR xs := ⟨_, rfl⟩
  rw [← hR]
  have HR := hid hR
  clear hW0 hR hK hx hn
  go_enter Tryd.func33, Tryd.ntmps33
  go_wp2_with fail
  rw [← HW0.out]
  refine (purposes_any W0).mono ?_
  rintro e' w1 ⟨rfl, hpu, hb1⟩
  obtain ⟨mk, hmk⟩ : ∃ mk, mk = W0.heap.size := ⟨_, rfl⟩
  rw [← hmk] at hpu ⊢
  obtain ⟨W2, hW2⟩ : ∃ W2, W2 = (w1.alloc (.map #[] 0)).alloc (.cells #[.slice none 0 0, .map (some w1.heap.size)] 85) := ⟨_, rfl⟩
  have HW2 := hid hW2
  have HW2Z := hid (show W2.heap.size = w1.heap.size + 2 by rw [hW2, World.size_alloc, World.size_alloc])
  have HGA := hid (show GA w w.heap.size mk w1.heap.size (w1.heap.size + 1) (.slice none 0 0) ([], []) W2 from by
    have hb2 : Below w1.heap.size w1 W2 := by rw [hW2]; exact (bal _).alloc (bal (w := w1) _).size _
    have h01 := HB0.out.trans (hb1.mono HB0.out.size)
    have hlt : w.heap.size < w1.heap.size := Nat.lt_of_lt_of_le HR0.out.lt hb1.size
    refine ⟨(HR0.out.below hb1 HR0.out.lt).below hb2 hlt, hpu.below hb2, ?_, ⟨rfl, .inl ⟨rfl, rfl⟩⟩, ?_, h01.trans (hb2.mono h01.size), ?_, Nat.le_refl _, by omega, by omega, by omega⟩
    · rw [hW2]
      have := Row.new (w1.alloc (.map #[] 0)) 85 [.slice none 0 0, .map (some w1.heap.size)]
      rw [World.size_alloc] at this
      exact this
    · rw [hW2]
      exact (MM.made w1).below (bal _)
    · have := hpu.lt
      omega)
  clear hpu hb1 hmk hW2
  go_wp2_with fail
  rw [← HW2.out]
  obtain ⟨rb, hrb⟩ : ∃ rb, rb = w.heap.size := ⟨_, rfl⟩
  have HRB := hid hrb
  obtain ⟨sb, hsb⟩ : ∃ sb, sb = w1.heap.size + 1 := ⟨_, rfl⟩
  have HSB := hid hsb
  rw [← hsb] at HGA ⊢
  obtain ⟨mv, hmv⟩ : ∃ mv, mv = w1.heap.size := ⟨_, rfl⟩
  have HMV := hid hmv
  rw [← hmv] at HGA ⊢
  rw [← hrb] at HGA ⊢
  clear hrb hmv hsb
  go_wp2_with fail
  have INVK := hid (show ∀ key kl, keyOf Tryd.prog 24 key = some kl → ∃ x, key = Value.int .u64 x from fun key kl h => by obtain ⟨x, rfl, _⟩ := Maps.keyOf_int_inv Tryd.underlying24 h; exact ⟨x, rfl⟩)
  have INVV := hid (show ∀ v y, rdU v = some y → ∃ c, v = Value.int .u64 c from fun v y h => by unfold rdU at h; split at h; exact ⟨_, rfl⟩; cases h)
  go_loopw [19] (fun i wr => ∃ (k : Nat) (sv : Value) (s : List Int × EL), k ≤ xs.length ∧ i = .int .i64 k ∧ gathK (xs.take k) = some s ∧ GA w rb mk mv sb sv s wr) (fun i _ => xs.length - (intOf i).toNat)
  case atStart => exact ⟨0, _, _, Nat.zero_le _, rfl, rfl, HGA.out⟩
  case round =>
    obtain ⟨k, sv, s, hk, rfl, hgs, hG⟩ := hrel
    have HG := hid hG
    have HGS := hid hgs
    have hn := HN.out
    clear hgs
    by_cases hlt : k < xs.length
    rotate_left
    · have d1 : decide ((k : Int) < (xs.length : Int)) = false := by simp; omega
      have d1n : decide (k < xs.length) = false := by simp; omega
      have HT := hid (show gathK xs = some s by
        obtain rfl : k = xs.length := by omega
        have := HGS.out
        rwa [List.take_length] at this)
      clear hlt hn hk hG
      have HVAL := hid (show wr.ownsMap Tryd.prog 24 rdU mv s.2.length (mapM meU s.2) from HG.out.val)
      have hs1 := HG.out.sec.cell' 1
      have HA := hid (fun w' (hg : wr.grownBy w' none) => HG.out.below (grown_below hg))
      obtain ⟨rI, hrI⟩ : ∃ rI, rI = wr.heap.size := ⟨_, rfl⟩
      have HRI := hid hrI
      go_wp2_with (at_range; refine wpList_range_own _ rfl _ 83 rfl 24 24 keyed64 undM rdU mv s.2.length (mapM meU s.2) rfl HVAL.out ?_; intro w0 hrg0 hg0 hs0)
      go_frame
      rw [← hrI] at hrg0 ⊢
      have HA0 := hid (HA.out w0 hg0)
      have HRIL := hid (show w.heap.size ≤ rI by rw [HRI.out]; exact HG.out.low.size)
      have HRG0 := hid hrg0
      clear hrI hs1 hg0 hs0 hrg0
      go_loopw [12] (fun _ wz => ∃ (left : Lit → Bool) (cnt : Nat), wz.ranges Tryd.prog 24 rdU mv rI s.2.length (mapM meU s.2) left cnt ∧ GA w rb mk mv sb sv s wz ∧ ∀ t c, (t, c) ∈ s.2 → left (.int .u64 t) = false → okT s.2 t = true) (fun _ wz => wz.rangeLeft mv rI)
      case atStart => exact ⟨_, _, HRG0.out, HA0.out, fun t c hm hl => by rw [mapM_has, lk_some hm] at hl; cases hl⟩
      case round =>
        obtain ⟨left, cnt, hrg, hG2, hinv⟩ := hrel
        have HINV := hid hinv
        have HG2 := hid hG2
        have HRG := hid hrg
        clear hinv hG2 hrg
        go_wp2_with (at_next; refine wpList_next_ranges _ rfl _ rfl 24 keyed64 rdU (Value.int .u64) (Value.int .u64) INVK.out INVV.out mv rI s.2.length (mapM meU s.2) left cnt rfl HRG.out ?_ ?_)
        · intro hc0 hl0
          have HWO := hid (show withOk s.2 = true from List.all_eq_true.2 (fun z hm => HINV.out z.1 z.2 hm (hl0 _)))
          obtain ⟨a9, c9, hsv, _⟩ := own_cel HG2.out.own
          have HOWN := hid HG2.out.own
          have HVM := hid HG2.out.val
          have HRES := hid HG2.out.res
          have HSEC := hid HG2.out.sec
          have HLO := hid HG2.out.low
          have HRBL := hid (show w.heap.size ≤ rb from HG2.out.hr)
          have HNE := hid HG2.out.ne
          rw [hsv] at HOWN HSEC
          have c0 := HSEC.out.cell' 0
          have c1 := HSEC.out.cell' 1
          have q0 := HRES.out.cell' 0
          have q1 := HRES.out.cell' 1
          have hfr0 := HRES.out.frozen 0
          have hfr1 := HRES.out.frozen 1
          have hrl : rb < wr.heap.size := HRES.out.lt
          have hsl : sb < wr.heap.size := HSEC.out.lt
          have hne := HNE.out
          have hne2 : ¬ sb = rb := fun e => hne e.symm
          clear hc0 hl0 hsv
          by_cases hbig : 8 < s.1.length
          · have d2 : decide ((8 : Int) < (s.1.length : Int)) = true := by simp; omega
            have d2n : decide (8 < s.1.length) = true := by simp; omega
            have HF := hid (show R = .inl 12 by rw [HR.out]; unfold gathR; rw [HT.out]; simp only; rw [HWO.out, if_neg (by decide), if_pos hbig])
            clear hbig
            go_wp2_with fail
            refine bodyPost_ret (v := .tuple #[.agg #[.slice none 0 0, .map none], .int .i64 12]) (by simp [results, Tryd.results33, Tryd.f33, go_sem, q0, q1, hrl]) rfl ⟨.inl ⟨12, HF.out, rfl⟩, ?_⟩
            exact bset (bset HLO.out HRBL.out _) HRBL.out _
          · have d2 : decide ((8 : Int) < (s.1.length : Int)) = false := by simp; omega
            have d2n : decide (8 < s.1.length) = false := by simp; omega
            have HF := hid (show R = .inr s by rw [HR.out]; unfold gathR; rw [HT.out]; simp only; rw [HWO.out, if_neg (by decide), if_neg hbig])
            clear hbig
            go_wp2_with fail
            refine bodyPost_ret (v := .tuple #[.agg #[.slice a9 s.1.length c9, .map (some mv)], .int .i64 0]) (by simp [results, Tryd.results33, Tryd.f33, go_sem, q0, q1, hrl]) rfl ⟨.inr ⟨s, _, mv, HF.out, rfl, ?_, ?_⟩, ?_⟩
            · have n1 := own_row_ne HOWN.out HRES.out (by decide)
              exact own_setOther (own_setOther HOWN.out n1 _) n1 _
            · have n1 := Ne.symm (row_mm HRES.out HVM.out)
              exact (HVM.out.setCell n1 _).setCell n1 _
            · exact bset (bset HLO.out HRBL.out _) HRBL.out _
        · intro x c kl yd yp w8 cnt8 hkey hlk hv hat hrg8 hlt8 hg8 hs8 hen
          obtain ⟨x', ex, rfl, hwx⟩ := Maps.keyOf_int_inv Tryd.underlying24 hkey
          cases ex
          have bx := bounds_u64 hwx
          have HBX := hid (show 0 ≤ x ∧ x ≤ 18446744073709551615 by omega)
          obtain ⟨itc, hit⟩ := it_heap HRG.out
          have HG8 := hid (HG2.out.turn hit hg8 HRIL.out)
          have HRG8 := hid hrg8
          have HLT8 := hid hlt8
          have HRGO := hid HRG.out
          obtain ⟨cx, hcx⟩ := at_has hat
          have HMEM := hid (lk_mem hcx)
          have HNI := hid (show okT s.2 x = true → ∀ t c, (t, c) ∈ s.2 → (left (.int .u64 t) && !(Lit.int .u64 t).sameKey (.int .u64 x)) = false → okT s.2 t = true from by
            intro ho t c hm hl
            rw [Bool.and_eq_false_iff] at hl
            rcases hl with hl | hl
            · exact HINV.out t c hm hl
            · have : t = x := by
                by_cases e : t = x
                · exact e
                · exfalso
                  rw [Bool.not_eq_false'] at hl
                  exact e (same_int hl)
              rw [this]; exact ho)
          have hget := HG8.out.pu.getP x HBX.out.1 HBX.out.2
          have HSEC := hid HG8.out.sec
          have HRES := hid HG8.out.res
          have c0 := HSEC.out.cell' 0
          have c1 := HSEC.out.cell' 1
          have q0 := HRES.out.cell' 0
          have q1 := HRES.out.cell' 1
          obtain ⟨a9, c9, hsv, _⟩ := own_cel HG8.out.own
          have HSV := hid hsv
          clear hkey hlk hv hat hrg8 hlt8 hg8 hs8 bx hwx hit hcx hsv
          cases hp : lk puL x
          · have HOT := hid (show okT s.2 x = true by unfold okT; rw [hp])
            rw [hp] at hget
            simp only [Option.getD_none, puC, puZ] at hget
            clear hp
            go_wp2_with (refine at_slot 80 rfl ?_; go_must (refine wpList_field rfl 118 _ 2 rfl (.agg #[.bool false, .int .u64 0, .int .u64 0]) (.int .u64 0) rfl (fld_goes _ _ _ _) ?_))
            go_roundw
            case rel => exact ⟨_, _, HRG8.out, HG8.out, HNI.out HOT.out⟩
            case measure => rw [HRG8.out.left_eq, HRGO.out.left_eq]; exact HLT8.out
          rename_i p
          have HP := hid hp
          have HPO := hid (puL_ok hp)
          rw [hp] at hget
          simp only [Option.getD_some, puC] at hget
          obtain ⟨several, must, goes⟩ := p
          simp only at hget
          have HPG := hid (show 0 ≤ goes ∧ goes ≤ 18446744073709551615 from HPO.out)
          clear hp
          by_cases hgz : goes = 0
          · have e1 : (goes != 0) = false := by simpa using hgz
            have HOT := hid (show okT s.2 x = true by unfold okT; rw [HP.out]; simp [hgz])
            clear hgz
            go_wp2_with (refine at_slot 80 rfl ?_; go_must (refine wpList_field rfl 118 _ 2 rfl (.agg #[.bool several, .int .u64 must, .int .u64 goes]) (.int .u64 goes) rfl (fld_goes _ _ _ _) ?_))
            go_roundw
            case rel => exact ⟨_, _, HRG8.out, HG8.out, HNI.out HOT.out⟩
            case measure => rw [HRG8.out.left_eq, HRGO.out.left_eq]; exact HLT8.out
          have e1 : (goes != 0) = true := by simpa using hgz
          have HOV := hid (show okT s.2 x = (lk s.2 goes).isSome by unfold okT; rw [HP.out]; simp [hgz])
          have HHAS := hid (has_any sv mv s.2 goes w8 HG8.out.val HPG.out.1 HPG.out.2 a9 _ c9 HSV.out)
          clear hgz
          go_wp2_with (refine at_slot 80 rfl ?_; go_must (refine wpList_field rfl 118 _ 2 rfl (.agg #[.bool several, .int .u64 must, .int .u64 goes]) (.int .u64 goes) rfl (fld_goes _ _ _ _) ?_))
          refine HHAS.out.mono ?_
          rintro e' w9 ⟨rfl, hb9⟩
          have HG9 := hid (HG8.out.below hb9)
          have HRG9 := hid (HRG8.out.kept (below_grown hb9) (by simp) (by simp))
          clear hb9 c0 c1 q0 q1
          cases hh : (lk s.2 goes).isSome
          · have HF := hid (show R = .inl 25 by
              rw [HR.out]; unfold gathR; rw [HT.out]; simp only
              rw [if_pos (by
                unfold withOk
                rw [List.all_eq_false]
                exact ⟨_, HMEM.out, by rw [HOV.out, hh]; decide⟩)])
            have q0 := HG9.out.res.cell' 0
            have q1 := HG9.out.res.cell' 1
            have hfr0 := HG9.out.res.frozen 0
            have hfr1 := HG9.out.res.frozen 1
            have hrl : rb < w9.heap.size := HG9.out.res.lt
            have HRBL := hid (show w.heap.size ≤ rb from HG9.out.hr)
            clear hh
            go_wp2_with fail
            refine bodyPost_ret (v := .tuple #[.agg #[.slice none 0 0, .map none], .int .i64 25]) (by simp [results, Tryd.results33, Tryd.f33, go_sem, q0, q1, hrl]) rfl ⟨.inl ⟨25, HF.out, rfl⟩, ?_⟩
            exact bset (bset HG9.out.low HRBL.out _) HRBL.out _
          · have HOT := hid (show okT s.2 x = true by rw [HOV.out, hh])
            clear hh
            go_wp2_with fail
            go_roundw
            case rel => exact ⟨_, _, HRG9.out, HG9.out, HNI.out HOT.out⟩
            case measure => rw [HRG9.out.left_eq, HRGO.out.left_eq]; exact HLT8.out
    have d1 : decide ((k : Int) < (xs.length : Int)) = true := by simp; omega
    have d1n : decide (k < xs.length) = true := by simp; omega
    obtain ⟨b, off, rfl, hc⟩ := (HKX.out wr hG.low).some_of (by simp; omega)
    have hcc := hc k (by simpa using hlt)
    rw [List.getElem_map] at hcc
    have x0 := hcc 0 (by simp [entC])
    have x1 := hcc 1 (by simp [entC])
    simp only [entC, List.getElem_cons_zero, List.getElem_cons_succ, Nat.add_zero] at x0 x1
    have hbl := World.block_lt_of_cell? wr _ x0
    have HXX := hid (HX.out xs[k] (List.getElem_mem hlt))
    have HSN := hid (show gathK (xs.take (k + 1)) = gstep s xs[k] by rw [List.take_succ_eq_append_getElem hlt, gathK_snoc, HGS.out]; rfl)
    have HSL := hid (show s.1.length ≤ k ∧ s.2.length ≤ k from by
      have := gathK_len HGS.out
      rw [List.length_take] at this
      omega)
    generalize xs[k] = x at *
    have HBA := hid (fun o => show Below wr.heap.size wr (wr.alloc o) from bal o)
    have HBB := hid (fun o o' => show Below wr.heap.size wr ((wr.alloc o).alloc o') from (bal o).alloc (bal (w := wr) o).size o')
    have hlk := fun o => ((HG.out.below (HBA.out o)).pu).lookP x.1 HXX.out.1 HXX.out.2.1
    clear hc hcc
    cases hp : lk puL x.1
    · have HNX := hid (show gathK (xs.take (k + 1)) = some s by rw [HSN.out]; unfold gstep; rw [hp])
      rw [hp] at hlk
      simp only [Option.getD_none, Option.isSome_none, puC, puZ] at hlk
      clear hp hG
      go_wp2_with fail
      go_roundw
      case rel => exact ⟨k + 1, _, _, by omega, by go_num, HNX.out, HG.out.below (HBB.out _ _)⟩
      case measure => simp [intOf]; omega
    rename_i p
    have HP := hid hp
    rw [hp] at hlk
    simp only [Option.getD_some, Option.isSome_some, puC] at hlk
    obtain ⟨several, must, goes⟩ := p
    simp only at hlk
    cases several
    rotate_left
    · have HNX := hid (show gathK (xs.take (k + 1)) = some (s.1 ++ [x.2], s.2) by rw [HSN.out]; unfold gstep; rw [HP.out]; rfl)
      have HG2 := hid (fun o o' => HG.out.below (HBB.out o o'))
      have hs0 := HG.out.sec.cell' 0
      have hfz := HG.out.sec.frozen 0
      have hsl2 : sb < wr.heap.size := HG.out.sec.lt
      obtain ⟨W5, hW5⟩ : ∃ W5, W5 = ((wr.alloc (.cells #[.int .u64 x.1, .int .u64 x.2] 113)).alloc (.cells #[.bool true, .int .u64 must, .int .u64 goes] 118)).alloc (.cells #[.int .u64 x.2] 24) := ⟨_, rfl⟩
      have HG3 := hid (show GA w rb mk mv sb sv s W5 by rw [hW5]; exact (HG2.out _ _).below (bal _))
      have HOW := hid HG3.out.own
      have HCE := hid (show Cel W5 (some ⟨wr.heap.size + 1 + 1, 0, none⟩) 1 [.int .u64 x.2] from by
        rw [hW5]
        have h := Row.new ((wr.alloc (.cells #[.int .u64 x.1, .int .u64 x.2] 113)).alloc (.cells #[.bool true, .int .u64 must, .int .u64 goes] 118)) 24 [.int .u64 x.2]
        rw [World.size_alloc, World.size_alloc] at h
        exact ⟨rfl, fun i hi => ⟨_, 0, rfl, by simpa using h.cell i hi⟩⟩)
      have HONE := hid (show ∀ u ∈ [Value.int .u64 x.2], u.oneCell' = true from fun u hu => by rw [List.mem_singleton.1 hu]; rfl)
      have HNO := hid (show (some (Addr.mk (wr.heap.size + 1 + 1) 0 none)) = none → 1 = 0 from fun h => by cases h)
      have HN1 := hid (show (s.1.length + 1) * 8 ≤ 140737488355328 by have := HSL.out; omega)
      have HN2 := hid (show s.1.length + 1 ≤ maxLen by have := HSL.out; unfold maxLen; omega)
      have HNZ := hid (show w.heap.size ≤ W5.heap.size from HG3.out.low.size)
      have HNE := hid (show some sb ≠ sv.ownBlock from own_row_ne HG3.out.own HG3.out.sec (by decide))
      have HAP := hid (fun (v' : Value) (w9 : World) (hown : w9.ownsRow w.heap.size 24 1 v' (s.1.length + 1) (s.1.map (Value.int .u64) ++ [.int .u64 x.2])) (hgrow : W5.grownBy w9 sv.ownBlock) => show GA w rb mk mv sb v' (s.1 ++ [x.2], s.2) (w9.setCell ⟨sb, 0, none⟩ v') from HG3.out.app x.2 hown hgrow)
      have HRG := hid (fun w9 (hgrow : W5.grownBy w9 sv.ownBlock) => HG3.out.sec.grown hgrow HNE.out)
      subst hW5
      clear hp hG
      go_wp2_with (at_builtin; go_must (refine wpList_ap1 Tryd.underlying56 infoU64 rfl rfl _ _ rfl w.heap.size sv s.1.length (s.1.map (Value.int .u64)) [.int .u64 x.2] rfl (some ⟨wr.heap.size + 1 + 1, 0, none⟩) 1 1 rfl HOW.out HCE.out HONE.out HNO.out HN1.out HN2.out HNZ.out ?_; intro v' w9 hown hgrow hb9; have HAPP := hid (HAP.out v' w9 hown hgrow); have hr9 := HRG.out w9 hgrow; have c9 := hr9.cell' 0; have f9 := hr9.frozen 0; have l9 := hr9.lt; obtain ⟨a9, c9', hv9, _⟩ := own_cel hown; subst hv9; clear hown hgrow hb9 hr9))
      go_roundw
      case rel => exact ⟨k + 1, _, _, by omega, by go_num, HNX.out, HAPP.out⟩
      case measure => simp [intOf]; omega
    have HG2 := hid (fun o o' => HG.out.below (HBB.out o o'))
    have hs1 := HG.out.sec.cell' 1
    have hsl2 : sb < wr.heap.size := HG.out.sec.lt
    have hlv := fun o o' => (HG2.out o o').val.lookU x.1 HXX.out.1 HXX.out.2.1
    have q0 := HG.out.res.cell' 0
    have q1 := HG.out.res.cell' 1
    have hfr0 := HG.out.res.frozen 0
    have hfr1 := HG.out.res.frozen 1
    have hrl : rb < wr.heap.size := HG.out.res.lt
    have HRBL := hid (show w.heap.size ≤ rb from HG.out.hr)
    cases htw : (lk s.2 x.1).isSome
    rotate_left
    · have HF := hid (show R = .inl 25 by
        rw [HR.out]
        unfold gathR
        rw [gathK_none (k := k + 1) (by rw [HSN.out]; unfold gstep; rw [HP.out]; simp [htw])])
      rw [htw] at hlv
      clear hp hG htw
      go_wp2_with fail
      refine bodyPost_ret (v := .tuple #[.agg #[.slice none 0 0, .map none], .int .i64 25]) (by simp [results, Tryd.results33, Tryd.f33, go_sem, q0, q1, hrl]) rfl ⟨.inl ⟨25, HF.out, rfl⟩, ?_⟩
      exact bset2al HG.out.low HRBL.out _ _ _ _
    have HNN := hid (show gstep s x = if ¬ must = 0 ∧ ¬ x.2 = must then none else some (s.1, s.2 ++ [x]) by unfold gstep; rw [HP.out]; simp [htw])
    have HTW := hid htw
    rw [htw] at hlv
    clear hp hG htw
    by_cases hmu : ¬ must = 0 ∧ ¬ x.2 = must
    · have e1 : (must != 0) = true := by simpa using hmu.1
      have e2 : (x.2 != must) = true := by simpa using hmu.2
      have HF := hid (show R = .inl 25 by
        rw [HR.out]
        unfold gathR
        rw [gathK_none (k := k + 1) (by rw [HSN.out, HNN.out, if_pos hmu])])
      clear hmu
      go_wp2_with fail
      refine bodyPost_ret (v := .tuple #[.agg #[.slice none 0 0, .map none], .int .i64 25]) (by simp [results, Tryd.results33, Tryd.f33, go_sem, q0, q1, hrl]) rfl ⟨.inl ⟨25, HF.out, rfl⟩, ?_⟩
      exact bset2al HG.out.low HRBL.out _ _ _ _
    have HNX := hid (show gathK (xs.take (k + 1)) = some (s.1, s.2 ++ [x]) by rw [HSN.out, HNN.out, if_neg hmu])
    have HPUT := hid (fun o o' => (HG2.out o o').val.put undM x.1 HXX.out.1 HXX.out.2.1 (by have := HSL.out; unfold maxLen; omega) x.2)
    obtain ⟨W9, hrun9, hm9, hg9⟩ := HPUT.out (.cells #[.int .u64 x.1, .int .u64 x.2] 113) (.cells #[.bool false, .int .u64 must, .int .u64 goes] 118)
    have HG9 := hid ((HG2.out _ _).put x hm9 hg9)
    have hrun9' : (Instr.mapUpdate 83 (.map (some mv)) (.int .u64 x.1) (.int .u64 x.2)).run Tryd.prog _ = .ok () W9 := hrun9
    clear hrun9 hm9 hg9
    by_cases hmz : must = 0
    · have e1 : (must != 0) = false := by simpa using hmz
      clear hmu hmz
      go_wp2_with fail
      go_roundw
      case rel => exact ⟨k + 1, _, _, by omega, by go_num, HNX.out, HG9.out⟩
      case measure => simp [intOf]; omega
    have e1 : (must != 0) = true := by simpa using hmz
    have e2 : (x.2 != must) = false := by
      rw [bne_eq_false_iff_eq]
      by_cases h : x.2 = must
      · exact h
      · exact absurd ⟨hmz, h⟩ hmu
    clear hmu hmz
    go_wp2_with fail
    go_roundw
    case rel => exact ⟨k + 1, _, _, by omega, by go_num, HNX.out, HG9.out⟩
    case measure => simp [intOf]; omega
end Go.Proofs.YtkkadknijjninaaDoor
