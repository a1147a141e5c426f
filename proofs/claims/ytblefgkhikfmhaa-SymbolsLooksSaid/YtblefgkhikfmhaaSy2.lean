/- Copied: the objects in new memory. -/
import Derived.Test.YtblefgkhikfmhaaSy1
import Derived.Test.YtblefgkhikfmhaaSyJ
namespace Go.Proofs.Ytblefgkhikfmhaa
open Go.RowKit Go.Sort Go.Shelf
attribute [local go_sem] Oper.semAt_some

theorem Rk.same {w w' : World} {k n : Nat} {a : Option Addr} {rows : List (List Value)} (h : Rk w k a n rows) (hk : ∀ b, a = some b → w'.heap[b.block]? = w.heap[b.block]?) : Rk w' k a n rows :=
  ⟨h.hlen, fun i hi => by
    obtain ⟨h1, b, off, e, hc⟩ := h.row i hi
    refine ⟨h1, b, off, e, fun j hj => ?_⟩
    rw [World.cell?_of_block (a := ⟨b, off + i * k + j, none⟩) (hk ⟨b, off, none⟩ e)]
    exact hc j hj⟩
theorem Cel.same {w w' : World} {n : Nat} {a : Option Addr} {cs : List Value} (h : Cel w a n cs) (hk : ∀ b, a = some b → w'.heap[b.block]? = w.heap[b.block]?) : Cel w' a n cs :=
  ⟨h.hlen, fun i hi => by
    obtain ⟨b, off, e, hc⟩ := h.cell i hi
    refine ⟨b, off, e, ?_⟩
    rw [World.cell?_of_block (a := ⟨b, off + i, none⟩) (hk ⟨b, off, none⟩ e)]
    exact hc⟩
theorem Full.same {w w' : World} {y : OB} (h : Full w y) (hk : ∀ b, (y.na = some b ∨ y.sa = some b ∨ y.ra = some b) → w'.heap[b.block]? = w.heap[b.block]?) : Full w' y :=
  ⟨h.need.same fun b e => hk b (.inl e), h.syms.same fun b e => hk b (.inr (.inl e)), h.rels.same fun b e => hk b (.inr (.inr e)), h.sc, h.rc, h.nn, h.sn, h.rn⟩
def putD (w : World) (B : Nat) (y : OB) : World := ((((w.setCell ⟨B, 6, none⟩ (.slice y.na y.nn y.nc)).setCell ⟨B, 7, none⟩ (.string (ba y.soname))).setCell ⟨B, 8, none⟩ (.string (ba y.run))).setCell ⟨B, 9, none⟩ (.slice y.sa y.sn y.sc)).setCell ⟨B, 10, none⟩ (.slice y.ra y.rn y.rc)
theorem put_heap (w : World) (B : Nat) (y : OB) {b : Nat} (h : b ≠ B) : (putD w B y).heap[b]? = w.heap[b]? := by
  unfold putD
  rw [heap_setCell_other _ _ _ _ (by exact h), heap_setCell_other _ _ _ _ (by exact h), heap_setCell_other _ _ _ _ (by exact h), heap_setCell_other _ _ _ _ (by exact h), heap_setCell_other _ _ _ _ (by exact h)]
theorem put_below {w0 w : World} {lo B : Nat} (y : OB) (h : Below lo w0 w) (hB : lo ≤ B) : Below lo w0 (putD w B y) := bset (bset (bset (bset (bset h hB _) hB _) hB _) hB _) hB _
theorem put_size (w : World) (B : Nat) (y : OB) : (putD w B y).heap.size = w.heap.size := by simp [putD]
theorem put_own {w : World} {B base E k n : Nat} {v : Value} {xs : List Value} (y : OB) (h : w.ownsRow base E k v n xs) (hB : some B ≠ v.ownBlock) : (putD w B y).ownsRow base E k v n xs :=
  own_setOther (own_setOther (own_setOther (own_setOther (own_setOther h hB _) hB _) hB _) hB _) hB _

/-- The copies so far. -/
structure Cps (w0 : World) (base : Nat) (xs : List OB) (k : Nat) (v : Value) (ys : List OB) (w : World) : Prop where
  own : OwnO w base v ys
  len : ys.length = k
  full : ∀ y ∈ ys, Full w y
  far : ∀ y ∈ ys, ∀ b, (y.na = some b ∨ y.sa = some b ∨ y.ra = some b) → b.block < w.heap.size ∧ some b.block ≠ v.ownBlock
  twin : ∀ i (h : i < ys.length) (h' : i < xs.length), Twin xs[i] ys[i]
  below : Below base w0 w

/-- One more. -/
theorem Cps.step {w0 wr w1 w2 w9 : World} {xs ys : List OB} {k : Nat} {v v' : Value} {x y : OB} {o : Obj} (h : Cps w0 w0.heap.size xs k v ys wr) (hk : k < xs.length) (hx : xs[k] = x) (hb : Below wr.heap.size wr w2) (hw1 : wr.heap.size < w1.heap.size) (hF : Full w2 y) (hT : Twin x y) (hL : Lies w1.heap.size w2.heap.size y)
    (hown : OwnO w9 w0.heap.size v' (ys ++ [y])) (hg : ((putD w2 wr.heap.size y).alloc o).grownBy w9 v.ownBlock) (hat : v'.ownBlock = v.ownBlock ∨ v'.ownBlock = some ((putD w2 wr.heap.size y).alloc o).heap.size) (hw12 : w1.heap.size ≤ w2.heap.size) : Cps w0 w0.heap.size xs (k + 1) v' (ys ++ [y]) w9 := by
  have hz : w2.heap.size + 1 = ((putD w2 wr.heap.size y).alloc o).heap.size := by rw [World.size_alloc, put_size]
  have hsz := hg.size
  have hvb := own_block h.own
  have hv : ∀ g, v.ownBlock = some g → w0.heap.size ≤ g ∧ g < wr.heap.size := by
    intro g e
    rcases hvb with h1 | ⟨g', h1, h2, h3⟩
    · rw [h1] at e; cases e
    · rw [h1] at e; cases e; exact ⟨h2, h3⟩
  have hkeep : ∀ b, b < w2.heap.size → b ≠ wr.heap.size → some b ≠ v.ownBlock → w9.heap[b]? = w2.heap[b]? := by
    intro b h1 h2 h3
    rw [hg.block b (by rw [← hz]; omega) h3, heap_alloc_old _ _ (by rw [put_size]; exact h1), put_heap _ _ _ h2]
  have hold : ∀ y' ∈ ys, ∀ b, (y'.na = some b ∨ y'.sa = some b ∨ y'.ra = some b) → w9.heap[b.block]? = wr.heap[b.block]? := by
    intro y' hy b hbb
    obtain ⟨h1, h2⟩ := h.far y' hy b hbb
    have := hb.size
    rw [hkeep _ (by omega) (by omega) h2, hb.block _ h1]
  have hnew : ∀ b, (y.na = some b ∨ y.sa = some b ∨ y.ra = some b) → some b.block ≠ v.ownBlock := by
    intro b hbb e
    have h1 := hL b hbb
    have h2 := hv _ e.symm
    omega
  refine ⟨hown, by simp [h.len], ?_, ?_, ?_, ?_⟩
  · intro y' hy
    rcases List.mem_append.1 hy with hy | hy
    · exact (h.full y' hy).same (hold y' hy)
    · rw [List.mem_singleton.1 hy]
      refine hF.same fun b hbb => ?_
      have := hL b hbb
      exact hkeep _ (by omega) (by omega) (hnew b hbb)
  · intro y' hy b hbb
    have hs2 := hb.size
    rcases List.mem_append.1 hy with hy | hy
    · obtain ⟨h1, h2⟩ := h.far y' hy b hbb
      refine ⟨by omega, ?_⟩
      rcases hat with h3 | h3
      · rw [h3]; exact h2
      · rw [h3, ← hz]; intro e
        have e2 : b.block = w2.heap.size + 1 := Option.some.inj e
        omega
    · rw [List.mem_singleton.1 hy] at hbb
      have h1 := hL b hbb
      refine ⟨by omega, ?_⟩
      rcases hat with h3 | h3
      · rw [h3]; exact hnew b hbb
      · rw [h3, ← hz]; intro e
        have e2 : b.block = w2.heap.size + 1 := Option.some.inj e
        omega
  · intro i hi hi'
    by_cases e : i < ys.length
    · rw [List.getElem_append_left e]
      exact h.twin i e hi'
    · have : i = k := by simp at hi; have := h.len; omega
      subst this
      rw [List.getElem_append_right (by omega)]
      simp only [List.getElem_singleton]
      rw [hx]; exact hT
  · have h1 : Below w0.heap.size w0 (putD w2 wr.heap.size y) := put_below y (h.below.trans (hb.mono h.below.size)) h.below.size
    exact (h1.alloc h1.size o).grown hg (Nat.le_trans h1.size (by rw [World.size_alloc]; omega)) (fun g e => (hv g e).1)

theorem wpList_app11 {w : World} {ops : Array Oper} {rest : List Oper} {o : Oper} {a : Act} {Q : Exit → Act → World → Prop} (hgd : o.guard = none) (s x : Operand)
    (ho : o.op = .call { callee := .builtin .append, args := #[s, x], argTypes := #[22, 22] })
    (base : Nat) (v : Value) (ys : List OB) (y : OB) (hs : a.eval s = v) (g : Nat) (hgs : g = w.heap.size) (hx : a.eval x = .slice (some ⟨g, 0, none⟩) 1 1) (hown : OwnO w base v ys) (hn : ys.length ≤ 800000000000) (hbase : base ≤ w.heap.size)
    (h : ∀ v' w', OwnO w' base v' (ys ++ [y]) → (w.alloc (.cells (obC y).toArray 44)).grownBy w' v.ownBlock → (v'.ownBlock = v.ownBlock ∨ v'.ownBlock = some (w.alloc (.cells (obC y).toArray 44)).heap.size) → wpList Try.prog ops Q rest (a.put o.dst v') w') :
    wpList Try.prog ops Q (o :: rest) a (w.alloc (.cells (obC y).toArray 44)) := by
  subst hgs
  obtain ⟨i0, hi0, hz0, hz1, hz2⟩ := info_parts infoObj
  have hR : Rk (w.alloc (.cells (obC y).toArray 44)) 11 (some ⟨w.heap.size, 0, none⟩) 1 ([y].map obC) := Row.rk (k := 11) (rows := [obC y]) (by simpa using Row.new w 44 (obC y)) (by intro r hr; rw [List.mem_singleton.1 hr]; rfl)
  refine wpList_append_own_at _ hgd s x _ ho base _ i0 _ 11 168 Try.underlying22 hi0 hz0 hz1 hz2 rfl (by omega) v ys.length _ hs (hown.alloc _) ⟨w.heap.size, 0, none⟩ 1 1 (([y].map obC).flatten) hx (by rw [flat_len (obC_len [y])]; rfl) (hR.news (by omega)) (rk_one (obC_one [y])) (by unfold maxLen; omega) (by omega) (by simp only [World.size_alloc]; omega) ?_
  intro v' w' h1 h2 _ h4
  exact h v' w' (own_ext h1 (by simp) (by simp)) h2 h4

def CopiedPost (w : World) (xs : List OB) (e : Ending) (w' : World) : Prop := ∃ v ys, e = .returned v ∧ Cps w w.heap.size xs xs.length v ys w'

set_option maxRecDepth 100000 in
set_option maxHeartbeats 4000000 in
theorem copied_any (a : Option Addr) (len cap : Nat) (xs : List OB) (w : World) (hO : Objs w a len xs) (hF : ∀ x ∈ xs, Full w x) (hl : len ≤ 800000000000) :
    Calls Try.prog 10 #[.slice a len cap] w (CopiedPost w xs) := by
  obtain rfl := hO.hlen
  have HO := hid hO
  have HF := hid hF
  clear hO hF
  go_enter Try.func10, Try.ntmps10
  go_wp2_with fail
  go_loopw [3, 4] (fun v i wr => ∃ k : Nat, ∃ ys, k ≤ xs.length ∧ i = .int .i64 k ∧ Cps w w.heap.size xs k v ys wr) (fun _ i _ => xs.length - (intOf i).toNat)
  case atStart => exact ⟨0, [], Nat.zero_le _, rfl, ⟨ownO_nil _ _, rfl, fun y hy => by simp at hy, fun y hy => by simp at hy, fun i hi => by simp at hi, Below.refl _ _⟩⟩
  case round =>
    obtain ⟨k, ys, hk, rfl, hC⟩ := hrel
    have HC := hid hC
    obtain ⟨av, cv, rfl, _⟩ := own_rk hC.own (obC_len ys) (by omega)
    clear hC
    by_cases hlt : k < xs.length
    · have d1 : decide ((k : Int) < (xs.length : Int)) = true := by simp; omega
      have HOB := hid (bthen (Below.refl _ _) HC.out.below)
      obtain ⟨bo, oo, rfl, ⟨x0, x1, x2, x3, x4, x5⟩, x6, x7, x8, x9, x10⟩ := (HO.out.below' HC.out.below).cells hlt
      have HX := hid (show xs[k] = xs[k] from rfl)
      have HFX := hid ((HF.out _ (List.getElem_mem hlt)).below' HC.out.below)
      have hbo := World.block_lt_of_cell? wr _ x0
      dsimp only at hbo
      have HLT := hid hlt
      generalize hx : xs[k] = x at *
      have HXX := hid hx
      clear hx HX
      have HBA := hid (@bal wr (.cells (obC x).toArray 44))
      have HRW := hid (Row.new wr 44 (obC x))
      have HFA := hid (HFX.out.below' HBA.out)
      have HZ := hid (World.size_alloc wr (.cells (obC x).toArray 44))
      simp only [obC] at HBA HRW HFA HZ
      go_wp2_with fail
      refine (copy_any x _ HFA.out).mono ?_
      rintro e' w2 ⟨y, rfl, hFy, hT, hL, hb⟩
      obtain ⟨na, nn, nc, sa, sn, sc, ra, rn, rc, rfl⟩ : ∃ na nn nc sa sn sc ra rn rc, y = { x with na := na, nn := nn, nc := nc, sa := sa, sn := sn, sc := sc, ra := ra, rn := rn, rc := rc } := ⟨_, _, _, _, _, _, _, _, _, hT.eq⟩
      have hr2 := HRW.out.below hb (by simp)
      have HT := hid hT
      have HL := hid hL
      have HFY := hid hFy
      have HB2 := hid (bthen HBA.out hb)
      have HW12 := hid hb.size
      have HW1 := hid (show wr.heap.size < (wr.alloc (.cells (obC x).toArray 44)).heap.size by simp)
      simp only [obC] at HW1
      have s0 := hr2.cell 0 (by simp)
      have s1 := hr2.cell 1 (by simp)
      have s2 := hr2.cell 2 (by simp)
      have s3 := hr2.cell 3 (by simp)
      have s4 := hr2.cell 4 (by simp)
      have s5 := hr2.cell 5 (by simp)
      have s6 := hr2.cell 6 (by simp)
      have s7 := hr2.cell 7 (by simp)
      have s8 := hr2.cell 8 (by simp)
      have s9 := hr2.cell 9 (by simp)
      have s10 := hr2.cell 10 (by simp)
      simp only [List.getElem_cons_zero, List.getElem_cons_succ] at s0 s1 s2 s3 s4 s5 s6 s7 s8 s9 s10
      have f6 := hr2.frozen 6
      have f7 := hr2.frozen 7
      have f8 := hr2.frozen 8
      have f9 := hr2.frozen 9
      have f10 := hr2.frozen 10
      have hlB := hr2.lt
      have HV := hid (own_ne HC.out.own (.inr (Nat.le_refl _)))
      have HO3 := hid (put_own { x with na := na, nn := nn, nc := nc, sa := sa, sn := sn, sc := sc, ra := ra, rn := rn, rc := rc } (own_below HC.out.own HB2.out) HV.out)
      have HG := hid (show w2.heap.size = (putD w2 wr.heap.size { x with na := na, nn := nn, nc := nc, sa := sa, sn := sn, sc := sc, ra := ra, rn := rn, rc := rc }).heap.size from (put_size _ _ _).symm)
      have HLN := hid (show ys.length ≤ 800000000000 by have := HC.out.len; omega)
      have HZ3 := hid (show w.heap.size ≤ (putD w2 wr.heap.size { x with na := na, nn := nn, nc := nc, sa := sa, sn := sn, sc := sc, ra := ra, rn := rn, rc := rc }).heap.size by rw [put_size]; exact Nat.le_trans HC.out.below.size HB2.out.size)
      unfold putD at HO3 HG HZ3
      dsimp only at HO3 HG HZ3
      clear hr2 hT hL hFy hb x0 x1 x2 x3 x4 x5 x6 x7 x8 x9 x10
      simp only [dynV]
      go_wp2_with (at_builtin; go_must (refine wpList_app11 rfl _ _ rfl w.heap.size (.slice av ys.length cv) ys { x with na := na, nn := nn, nc := nc, sa := sa, sn := sn, sc := sc, ra := ra, rn := rn, rc := rc } rfl w2.heap.size HG.out rfl HO3.out HLN.out HZ3.out ?_; intro v' w9 hown hgrow hat; have HC9 := hid (Cps.step HC.out HLT.out HXX.out HB2.out HW1.out HFY.out HT.out HL.out hown hgrow hat HW12.out); clear hown hgrow hat))
      go_roundw
      case rel => exact ⟨k + 1, ys ++ [{ x with na := na, nn := nn, nc := nc, sa := sa, sn := sn, sc := sc, ra := ra, rn := rn, rc := rc }], by omega, by go_num, HC9.out⟩
      case measure => simp [intOf]; omega
    · have d1 : decide ((k : Int) < (xs.length : Int)) = false := by simp; omega
      have d1n : decide (k < xs.length) = false := by simp; omega
      obtain rfl : k = xs.length := by omega
      go_wp2_with fail
      go_ret
      exact ⟨_, ys, rfl, HC.out⟩
end Go.Proofs.Ytblefgkhikfmhaa
