/- vfs: CopyEntries. -/
import Derived.Test.YtgclemicgcbpjaaFC
import Derived.Laws.AppendOwnNone
namespace Go.Proofs.Ytgclemicgcbpjaa
open Go.RowKit Go.Sort
attribute [local go_sem] Oper.semAt_some

theorem infoB : (Try.prog.info? 5).map (fun i => (i.zero, i.size, i.bytes)) = some (some (.int .u8 0), 1, 1) := by kernel_rfl
/-- A list of bytes of the call's own: nothing, or a new row. -/
def NewB (w w' : World) (v : Value) (l : List UInt8) : Prop :=
  (l = [] ∧ v = .slice none 0 0) ∨ (l ≠ [] ∧ v = .slice (some ⟨w.heap.size, 0, none⟩) l.length l.length ∧ Row w' w.heap.size 5 (l.map B8))

set_option maxHeartbeats 1000000 in
theorem cpb_any (a : Option Addr) (len cap : Nat) (l : List UInt8) (w : World) (hB : Byt w a len l) (hl : len ≤ 140737488351232) :
    Calls Try.prog 41 #[.slice a len cap] w fun e w' => ∃ v, e = .returned v ∧ NewB w w' v l ∧ Below w.heap.size w w' := by
  obtain rfl := hB.hlen
  by_cases h0 : l.length = 0
  · have hb0 : ((l.length : Int) == 0) = true := by rw [beq_iff_eq]; omega
    have hnil : l = [] := List.length_eq_zero_iff.1 h0
    have HN := hid hnil
    clear hnil h0
    go_enter Try.func41, Try.ntmps41
    go_wp2
    go_ret
    exact ⟨_, rfl, .inl ⟨HN.out, rfl⟩, Below.refl _ _⟩
  · have hb0 : ((l.length : Int) == 0) = false := by rw [beq_eq_false_iff_ne]; omega
    obtain ⟨bb, off, rfl, hcell⟩ := hB.some_of (by omega)
    go_enter Try.func41, Try.ntmps41
    go_wp2_with (at_make; refine wpList_make_row _ rfl _ _ 40 rfl 5 (.int .u8 0) 1 Try.underlying40 infoB rfl .i64 .i64 _ _ l.length rfl rfl (by omega) (by omega) (by omega) (by omega) ?_; intro w1 hr1 hb1 hs1)
    have hfz := fillD_full (l.map B8) (.int .u8 0)
    rw [List.length_map] at hfz
    rw [← hfz] at hr1
    clear hfz
    go_loopw [4] (fun i wr => ∃ k : Nat, k ≤ l.length ∧ i = .int .i64 ((k : Int) - 1) ∧ Row wr w.heap.size 5 (fillD (l.map B8) (.int .u8 0) k) ∧ Below w.heap.size w wr) (fun i _ => (intOf i + 1).toNat)
    case atStart => exact ⟨l.length, Nat.le_refl _, rfl, hr1, hb1⟩
    case round =>
      obtain ⟨k, hk, rfl, hr, hb⟩ := hrel
      rcases Nat.eq_zero_or_pos k with rfl | hpos
      · go_wp2
        go_ret
        rw [fillD_zero] at hr
        exact ⟨_, rfl, .inr ⟨by intro e; subst e; simp at hb0, rfl, hr⟩, hb⟩
      · obtain ⟨j, rfl⟩ : ∃ j, k = j + 1 := ⟨k - 1, by omega⟩
        have hj : j < l.length := by omega
        have hx := hcell j hj
        have hold := World.block_lt_of_cell? w _ hx
        have hx' : _ = _ := (hb.cell hold).trans hx
        have hfr := hr.frozen j
        have hc := hr.cell j (by rw [fillD_len _ _ _ (by simp; omega)]; simpa using hj)
        clear hx hold
        go_wp2
        go_roundw
        case rel => exact ⟨j, by omega, by go_num, hr.fillD (by simpa using hj) (map_at l j hj), hb.setCell (Nat.le_refl _) _⟩
        case measure => simp [intOf]

theorem NewB.byt {w w' : World} {v : Value} {l : List UInt8} (h : NewB w w' v l) : ∃ a cap, v = .slice a l.length cap ∧ Byt w' a l.length l := by
  rcases h with ⟨rfl, rfl⟩ | ⟨_, rfl, hr⟩
  · exact ⟨none, 0, rfl, Byt.nil _ _⟩
  · exact ⟨_, _, rfl, Row.byt (rest := []) (by simpa using hr) rfl⟩

theorem cpb_byt (a : Option Addr) (len cap : Nat) (l : List UInt8) (w : World) (hB : Byt w a len l) (hl : len ≤ 140737488351232) :
    Calls Try.prog 41 #[.slice a len cap] w fun e w' => ∃ a' c', e = .returned (.slice a' l.length c') ∧ Byt w' a' l.length l ∧ (a' = none → c' = 0) ∧ (∀ b, a' = some b → w.heap.size ≤ b.block ∧ b.block < w'.heap.size) ∧ Below w.heap.size w w' := by
  refine (cpb_any a len cap l w hB hl).mono ?_
  rintro e w' ⟨v, rfl, hv, hb⟩
  rcases hv with ⟨rfl, rfl⟩ | ⟨_, rfl, hr⟩
  · exact ⟨none, 0, rfl, Byt.nil _ _, fun _ => rfl, fun b h => (by cases h), hb⟩
  · exact ⟨_, _, rfl, Row.byt (rest := []) (by simpa using hr) rfl, fun h => (by cases h), fun b h => by cases h; exact ⟨Nat.le_refl _, hr.lt⟩, hb⟩
theorem Byt.same {w w' : World} {n : Nat} {a : Option Addr} {l : List UInt8} (h : Byt w a n l) (hk : ∀ b, a = some b → w'.heap[b.block]? = w.heap[b.block]?) : Byt w' a n l :=
  ⟨h.hlen, fun i hi => by
    obtain ⟨b, off, e, hc⟩ := h.cell i hi
    refine ⟨b, off, e, ?_⟩
    rw [World.cell?_of_block (a := ⟨b, off + i, none⟩) (hk ⟨b, off, none⟩ e)]
    exact hc⟩
theorem EnOk.same {w w' : World} {x : EN} (h : EnOk w x) (hk : ∀ b, x.a = some b → w'.heap[b.block]? = w.heap[b.block]?) : EnOk w' x := ⟨h.byt.same hk, h.nil, h.path, h.to, h.data, h.mode⟩
theorem enC_len (l : List EN) : ∀ r ∈ l.map EN.cs, r.length = 7 := by
  intro r hr
  obtain ⟨x, _, rfl⟩ := List.mem_map.1 hr
  rfl
theorem enC_one (l : List EN) : ∀ r ∈ l.map EN.cs, ∀ u ∈ r, u.oneCell' = true := by
  intro r hr u hu
  obtain ⟨x, _, rfl⟩ := List.mem_map.1 hr
  simp only [EN.cs, List.mem_cons, List.not_mem_nil, or_false] at hu
  rcases hu with rfl | rfl | rfl | rfl | rfl | rfl | rfl <;> rfl
theorem infoEnt : (Try.prog.info? 54).map (fun i => (i.zero, i.size, i.bytes)) = some (some (.agg #[.string ByteArray.empty, .int .u8 0, .int .u16 0, .int .u32 0, .int .u32 0, .slice none 0 0, .string ByteArray.empty]), 7, 72) := by kernel_rfl
abbrev OwnE (w : World) (base : Nat) (v : Value) (ys : List EN) : Prop := w.ownsRow base 54 7 v ys.length (ys.map EN.cs).flatten
theorem ownE_nil (w : World) (base : Nat) : OwnE w base (.slice none 0 0) [] := World.ownsRow_nil _ _ _ _

/-- The copies so far. -/
structure Cpe (w0 : World) (base : Nat) (xs : List EN) (k : Nat) (v : Value) (ys : List EN) (w : World) : Prop where
  own : OwnE w base v ys
  len : ys.length = k
  ok : ∀ y ∈ ys, EnOk w y
  far : ∀ y ∈ ys, ∀ b, y.a = some b → b.block < w.heap.size ∧ some b.block ≠ v.ownBlock
  twin : ∀ i (h : i < ys.length) (h' : i < xs.length), ys[i] = { xs[i] with a := ys[i].a, c := ys[i].c }
  low : ∀ y ∈ ys, ∀ b, y.a = some b → base ≤ b.block
  below : Below base w0 w

/-- One more. -/
theorem Cpe.step {w0 wr w2 w9 : World} {xs ys : List EN} {k : Nat} {v v' V : Value} {x y : EN} {o : Obj} (h : Cpe w0 w0.heap.size xs k v ys wr) (hk : k < xs.length) (hx : xs[k] = x) (hb : Below wr.heap.size wr w2) (hF : EnOk w2 y) (hT : y = { x with a := y.a, c := y.c }) (hL : ∀ b, y.a = some b → wr.heap.size + 1 ≤ b.block ∧ b.block < w2.heap.size)
    (hown : OwnE w9 w0.heap.size v' (ys ++ [y])) (hg : ((w2.setCell ⟨wr.heap.size, 5, none⟩ V).alloc o).grownBy w9 v.ownBlock) (hat : v'.ownBlock = v.ownBlock ∨ v'.ownBlock = some ((w2.setCell ⟨wr.heap.size, 5, none⟩ V).alloc o).heap.size) : Cpe w0 w0.heap.size xs (k + 1) v' (ys ++ [y]) w9 := by
  have hz : w2.heap.size + 1 = ((w2.setCell ⟨wr.heap.size, 5, none⟩ V).alloc o).heap.size := by rw [World.size_alloc]; simp
  have hsz := hg.size
  have hvb := own_block h.own
  have hv : ∀ g, v.ownBlock = some g → w0.heap.size ≤ g ∧ g < wr.heap.size := by
    intro g e
    rcases hvb with h1 | ⟨g', h1, h2, h3⟩
    · rw [h1] at e; cases e
    · rw [h1] at e; cases e; exact ⟨h2, h3⟩
  have hkeep : ∀ b, b < w2.heap.size → b ≠ wr.heap.size → some b ≠ v.ownBlock → w9.heap[b]? = w2.heap[b]? := by
    intro b h1 h2 h3
    rw [hg.block b (by rw [← hz]; omega) h3, heap_alloc_old _ _ (by simp; exact h1), heap_setCell_other _ _ _ _ (by exact h2)]
  have hs2 := hb.size
  have hs0 := h.below.size
  have hold : ∀ y' ∈ ys, ∀ b, y'.a = some b → w9.heap[b.block]? = wr.heap[b.block]? := by
    intro y' hy b hbb
    obtain ⟨h1, h2⟩ := h.far y' hy b hbb
    rw [hkeep _ (by omega) (by omega) h2, hb.block _ h1]
  have hnew : ∀ b, y.a = some b → some b.block ≠ v.ownBlock := by
    intro b hbb e
    have h1 := hL b hbb
    have h2 := hv _ e.symm
    omega
  refine ⟨hown, by simp [h.len], ?_, ?_, ?_, ?_, ?_⟩
  · intro y' hy
    rcases List.mem_append.1 hy with hy | hy
    · exact (h.ok y' hy).same (hold y' hy)
    · rw [List.mem_singleton.1 hy]
      refine hF.same fun b hbb => ?_
      have := hL b hbb
      exact hkeep _ (by omega) (by omega) (hnew b hbb)
  · intro y' hy b hbb
    rcases List.mem_append.1 hy with hy | hy
    · obtain ⟨h1, h2⟩ := h.far y' hy b hbb
      refine ⟨by omega, ?_⟩
      rcases hat with h3 | h3
      · rw [h3]; exact h2
      · rw [h3, ← hz]; intro e
        have e2 : b.block = w2.heap.size + 1 := Option.some.inj e
        omega
    · rw [List.mem_singleton.1 hy] at hbb
      have h1 := hL b hbb
      refine ⟨by omega, ?_⟩
      rcases hat with h3 | h3
      · rw [h3]; exact hnew b hbb
      · rw [h3, ← hz]; intro e
        have e2 : b.block = w2.heap.size + 1 := Option.some.inj e
        omega
  · intro i hi hi'
    by_cases e : i < ys.length
    · rw [List.getElem_append_left e]
      exact h.twin i e hi'
    · have : i = k := by simp at hi; have := h.len; omega
      subst this
      rw [List.getElem_append_right (by omega)]
      simp only [List.getElem_singleton]
      rw [hx]; exact hT
  · intro y' hy b hbb
    rcases List.mem_append.1 hy with hy | hy
    · exact h.low y' hy b hbb
    · rw [List.mem_singleton.1 hy] at hbb
      have := hL b hbb
      omega
  · have h1 : Below w0.heap.size w0 (w2.setCell ⟨wr.heap.size, 5, none⟩ V) := bset (h.below.trans (hb.mono h.below.size)) h.below.size _
    exact (h1.alloc h1.size o).grown hg (Nat.le_trans h1.size (by rw [World.size_alloc]; omega)) (fun g e => (hv g e).1)

theorem wpList_app7 {w : World} {ops : Array Oper} {rest : List Oper} {o : Oper} {a : Act} {Q : Exit → Act → World → Prop} (hgd : o.guard = none) (s x : Operand)
    (ho : o.op = .call { callee := .builtin .append, args := #[s, x], argTypes := #[45, 45] })
    (base : Nat) (v : Value) (ys : List EN) (y : EN) (hs : a.eval s = v) (g : Nat) (hgs : g = w.heap.size) (hx : a.eval x = .slice (some ⟨g, 0, none⟩) 1 1) (hown : OwnE w base v ys) (hn : ys.length ≤ 1000000000000) (hbase : base ≤ w.heap.size)
    (h : ∀ v' w', OwnE w' base v' (ys ++ [y]) → (w.alloc (.cells (EN.cs y).toArray 54)).grownBy w' v.ownBlock → (v'.ownBlock = v.ownBlock ∨ v'.ownBlock = some (w.alloc (.cells (EN.cs y).toArray 54)).heap.size) → wpList Try.prog ops Q rest (a.put o.dst v') w') :
    wpList Try.prog ops Q (o :: rest) a (w.alloc (.cells (EN.cs y).toArray 54)) := by
  subst hgs
  obtain ⟨i0, hi0, hz0, hz1, hz2⟩ := info_parts infoEnt
  have hR : Rk (w.alloc (.cells (EN.cs y).toArray 54)) 7 (some ⟨w.heap.size, 0, none⟩) 1 ([y].map EN.cs) := by
    refine ⟨rfl, fun i hi => ?_⟩
    have hi0 : i = 0 := by simp at hi; omega
    subst hi0
    refine ⟨rfl, w.heap.size, 0, rfl, fun j hj => ?_⟩
    have hr := Row.new w 54 (EN.cs y)
    rw [Nat.zero_mul, Nat.zero_add]
    exact hr.cell j hj
  refine wpList_append_own_at _ hgd s x _ ho base _ i0 _ 7 72 Try.underlying45 hi0 hz0 hz1 hz2 rfl (by omega) v ys.length _ hs (hown.alloc _) ⟨w.heap.size, 0, none⟩ 1 1 (([y].map EN.cs).flatten) hx (by rw [flat_len (enC_len [y])]; rfl) (hR.news (by omega)) (rk_one (enC_one [y])) (by unfold maxLen; omega) (by omega) (by simp only [World.size_alloc]; omega) ?_
  intro v' w' h1 h2 _ h4
  exact h v' w' (own_ext h1 (by simp) (by simp)) h2 h4

def CopyEPost (w : World) (xs : List EN) (e : Ending) (w' : World) : Prop := ∃ v ys, e = .returned v ∧ Cpe w w.heap.size xs xs.length v ys w'

set_option maxRecDepth 100000 in
set_option maxHeartbeats 4000000 in
theorem copyE_any (a : Option Addr) (len cap : Nat) (xs : List EN) (w : World) (hX : Ents w a len xs) (hl : len ≤ 1000000) :
    Calls Try.prog 19 #[.slice a len cap] w (CopyEPost w xs) := by
  obtain rfl : xs.length = len := by have := hX.rows.hlen; simpa using this
  have HX := hid hX
  clear hX
  go_enter Try.func19, Try.ntmps19
  go_wp2_with fail
  go_loopw [3, 4] (fun v i wr => ∃ k : Nat, ∃ ys, k ≤ xs.length ∧ i = .int .i64 k ∧ Cpe w w.heap.size xs k v ys wr) (fun _ i _ => xs.length - (intOf i).toNat)
  case atStart => exact ⟨0, [], Nat.zero_le _, rfl, ⟨ownE_nil _ _, rfl, fun y hy => by simp at hy, fun y hy => by simp at hy, fun i hi => by simp at hi, fun y hy => by simp at hy, Below.refl _ _⟩⟩
  case round =>
    obtain ⟨k, ys, hk, rfl, hC⟩ := hrel
    have HC := hid hC
    obtain ⟨av, cv, rfl, _⟩ := own_rk hC.own (enC_len ys) (by omega)
    clear hC
    by_cases hlt : k < xs.length
    · have d1 : decide ((k : Int) < (xs.length : Int)) = true := by simp; omega
      have d1n : decide (k < xs.length) = true := by simp; omega
      obtain ⟨b, o, rfl, hcell⟩ := (HX.out.rows.below' (bthen (Below.refl _ _) HC.out.below)).some_of (by simp; omega)
      have g := fun j hj => hcell k (by simpa using hlt) j hj
      have e9 : (xs.map EN.cs)[k]'(by simpa using hlt) = xs[k].cs := by simp
      rw [e9] at g
      have g0 := g 0 (by simp [EN.cs])
      have g1 := g 1 (by simp [EN.cs])
      have g2 := g 2 (by simp [EN.cs])
      have g3 := g 3 (by simp [EN.cs])
      have g4 := g 4 (by simp [EN.cs])
      have g5 := g 5 (by simp [EN.cs])
      have g6 := g 6 (by simp [EN.cs])
      simp only [EN.cs, List.getElem_cons_zero, List.getElem_cons_succ, Nat.add_zero] at g0 g1 g2 g3 g4 g5 g6
      have hblt := World.block_lt_of_cell? _ _ g0
      dsimp only at hblt
      have HOK := hid ((HX.out.ok _ (List.getElem_mem hlt)).below HC.out.below)
      have HLT := hid hlt
      clear hcell g e9
      generalize hx : xs[k] = x at *
      have HXX := hid hx
      clear hx
      have HBA := hid (@bal wr (.cells (EN.cs x).toArray 54))
      have HRW := hid (Row.new wr 54 (EN.cs x))
      have HFA := hid (HOK.out.below HBA.out)
      have HZ := hid (World.size_alloc wr (.cells (EN.cs x).toArray 54))
      unfold EN.cs at HBA HRW HFA HZ
      have hr1 := HRW.out
      have hz1 := HRW.out.cell 5 (by simp)
      simp only [List.getElem_cons_zero, List.getElem_cons_succ] at hz1
      have hl1 := HRW.out.lt
      go_wp2_with fail
      refine (cpb_byt _ _ _ x.data _ HFA.out.byt (by have := HFA.out.data; omega)).mono ?_
      rintro e' w2 ⟨na, nc, rfl, hby, hnil, hli, hb⟩
      have hr2 := HRW.out.below hb (by simp)
      have HB2 := hid (bthen HBA.out hb)
      have HL := hid (show ∀ b, na = some b → wr.heap.size + 1 ≤ b.block ∧ b.block < w2.heap.size by rw [HZ.out] at hli; exact hli)
      have HFY := hid (show EnOk w2 { x with a := na, c := nc } from ⟨hby, hnil, HFA.out.path, HFA.out.to, HFA.out.data, HFA.out.mode⟩)
      have s0 := hr2.cell 0 (by simp)
      have s1 := hr2.cell 1 (by simp)
      have s2 := hr2.cell 2 (by simp)
      have s3 := hr2.cell 3 (by simp)
      have s4 := hr2.cell 4 (by simp)
      have s5 := hr2.cell 5 (by simp)
      have s6 := hr2.cell 6 (by simp)
      simp only [List.getElem_cons_zero, List.getElem_cons_succ] at s0 s1 s2 s3 s4 s5 s6
      have f5 := hr2.frozen 5
      have hlB := hr2.lt
      have HV := hid (own_ne HC.out.own (.inr (Nat.le_refl _)))
      have HO3 := hid (own_setOther (own_below HC.out.own HB2.out) HV.out (.slice na x.data.length nc) (o := 5))
      have HG := hid (show w2.heap.size = (w2.setCell ⟨wr.heap.size, 5, none⟩ (.slice na x.data.length nc)).heap.size by simp)
      have HLN := hid (show ys.length ≤ 1000000000000 by have := HC.out.len; omega)
      have HZ3 := hid (show w.heap.size ≤ (w2.setCell ⟨wr.heap.size, 5, none⟩ (.slice na x.data.length nc)).heap.size by have h1 := HC.out.below.size; have h2 := HB2.out.size; simp; omega)
      clear hr2 hby hnil hli hb g0 g1 g2 g3 g4 g5 g6 hr1 hz1 hl1
      go_wp2_with (at_builtin; go_must (refine wpList_app7 rfl _ _ rfl w.heap.size (.slice av ys.length cv) ys { x with a := na, c := nc } rfl w2.heap.size HG.out rfl HO3.out HLN.out HZ3.out ?_; intro v' w9 hown hgrow hat; have HC9 := hid (Cpe.step HC.out HLT.out HXX.out HB2.out HFY.out rfl HL.out hown hgrow hat); clear hown hgrow hat))
      go_roundw
      case rel => exact ⟨k + 1, ys ++ [{ x with a := na, c := nc }], by omega, by go_num, HC9.out⟩
      case measure => simp [intOf]; omega
    · have d1 : decide ((k : Int) < (xs.length : Int)) = false := by simp; omega
      have d1n : decide (k < xs.length) = false := by simp; omega
      obtain rfl : k = xs.length := by omega
      go_wp2_with fail
      go_ret
      exact ⟨_, ys, rfl, HC.out⟩
end Go.Proofs.Ytgclemicgcbpjaa
