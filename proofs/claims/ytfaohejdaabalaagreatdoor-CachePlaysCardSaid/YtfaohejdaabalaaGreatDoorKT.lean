
/- Merged: FR0 FR1 FR2 FR3 FR4. -/
import Derived.Test.YtfaohejdaabalaaGreatDoorF5
import Derived.Test.YtfaohejdaabalaaGreatDoorFC
import Derived.Laws.AppendOwnNone
import Derived.BigQuiet
import Derived.IntWalk
import Derived.Test.YtfaohejdaabalaaGreatDoorKN
import Derived.Deep.RegionHeld3
namespace Go.Proofs.YtfaohejdaabalaaGreatDoor
open Go.RowKit Go.Sort

def rootC : CR := ⟨0, 0, 0, 0, none, 0, 0, []⟩
theorem root_may {x : ND} (h : x.kind = 2) : mayX rootC x = true := by
  unfold mayX mayB mayE
  rw [h, if_neg (by decide), if_pos (show rootC.e = 0 from rfl)]
  simp
theorem root_stepN {c : CR} {x : ND} {p : BL} (h : ¬ (stepN c x p).1 = 5) : stepN rootC x p = stepN c x p := by
  by_cases h2 : x.kind = 2
  · have hr := root_may h2
    by_cases hm : mayX c x = false
    · rw [stepN_2 h2 hm] at h; exact absurd rfl h
    · have hm := eq_true_of_ne_false hm
      by_cases h3 : p = dotdot
      · rw [stepN_3 h2 hm h3, stepN_3 h2 hr h3]
      · cases h4 : lookI x.names p with
        | none => rw [stepN_4 h2 hm h3 h4, stepN_4 h2 hr h3 h4]
        | some j => rw [stepN_5 h2 hm h3 h4, stepN_5 h2 hr h3 h4]
  · rw [stepN_1 h2, stepN_1 h2]
theorem root_stepN5 {x : ND} {p : BL} : ¬ (stepN rootC x p).1 = 5 := by
  by_cases h2 : x.kind = 2
  · have hr := root_may h2
    by_cases h3 : p = dotdot
    · rw [stepN_3 h2 hr h3]; simp
    · cases h4 : lookI x.names p with
      | none => rw [stepN_4 h2 hr h3 h4]; simp
      | some j => rw [stepN_5 h2 hr h3 h4]; simp
  · rw [stepN_1 h2]; simp
theorem root_step {L : List ND} {c : CR} {i : Nat} {p : BL} (h : ¬ (stepL L c i p).1 = 5) : stepL L rootC i p = stepL L c i p := root_stepN h
theorem root_step5 {L : List ND} {i : Nat} {p : BL} : ¬ (stepL L rootC i p).1 = 5 := root_stepN5
theorem root_follow {L : List ND} {c : CR} {last : Bool} : ∀ {links at_ : Nat} {left : List BL}, ¬ (followL L c last links at_ left).1 = 5 → followL L rootC last links at_ left = followL L c last links at_ left := by
  intro links at_ left
  fun_induction followL L c last links at_ left with
  | case1 links at_ => intro _; rw [followL_nil]
  | case2 links at_ p rest h1 h2 ih =>
    intro h
    have e := root_step (L := L) (c := c) (i := at_) (p := p) (by rw [h1]; decide)
    rw [followL, e, if_pos h1, if_pos h2]
    exact ih h
  | case3 links at_ p rest h1 h2 h3 =>
    intro h
    have e := root_step (L := L) (c := c) (i := at_) (p := p) (by rw [h1]; decide)
    rw [followL, e, if_pos h1, if_neg h2, dif_pos h3]
  | case4 links at_ p rest h1 h2 h3 ih =>
    intro h
    have e := root_step (L := L) (c := c) (i := at_) (p := p) (by rw [h1]; decide)
    rw [followL, e, if_pos h1, if_neg h2, dif_neg h3]
    exact ih h
  | case5 links at_ p rest h1 =>
    intro h
    have e := root_step (L := L) (c := c) (i := at_) (p := p) h
    rw [followL, e, if_neg h1]
theorem root_follow5 {L : List ND} {last : Bool} : ∀ {links at_ : Nat} {left : List BL}, ¬ (followL L rootC last links at_ left).1 = 5 := by
  intro links at_ left
  fun_induction followL L rootC last links at_ left with
  | case1 links at_ => simp
  | case2 links at_ p rest h1 h2 ih => exact ih
  | case3 links at_ p rest h1 h2 h3 => simp
  | case4 links at_ p rest h1 h2 h3 ih => exact ih
  | case5 links at_ p rest h1 => exact root_step5
theorem chk5 (p : BL) : ¬ chkE p = 5 := by
  unfold chkE
  split
  · decide
  · split
    · decide
    · split
      · decide
      · split <;> decide
theorem root_walk5 {L : List ND} {from_ : Int} {p : BL} {last : Bool} : ¬ (walkL L rootC from_ p last).2 = 5 := by
  have hf := @root_follow5 L (last || tailB p) 0 (if rootF p = true then 0 else from_.toNat) (partsF p)
  have hc := chk5 p
  unfold walkL
  generalize followL L rootC (last || tailB p) 0 (if rootF p = true then 0 else from_.toNat) (partsF p) = r at *
  by_cases h1 : 0 ≤ from_ ∧ from_ < (L.length : Int) ∧ (L.getD from_.toNat default).kind = 2
  · rw [if_pos h1]
    by_cases h2 : chkE p = 0
    · rw [if_pos h2]
      by_cases h3 : r.1 = 0
      · rw [if_pos h3]
        by_cases h4 : tailB p = true ∧ (L.getD r.2 default).kind ≠ 2
        · rw [if_pos h4]; simp
        · rw [if_neg h4]; simp
      · rw [if_neg h3]; exact hf
    · rw [if_neg h2]; exact hc
  · rw [if_neg h1]; simp
theorem root_walk {L : List ND} {c : CR} {from_ : Int} {p : BL} {last : Bool} : walkL L c from_ p last = (0, 5) ∨ walkL L c from_ p last = walkL L rootC from_ p last := by
  by_cases h5 : (followL L c (last || tailB p) 0 (if rootF p = true then 0 else from_.toNat) (partsF p)).1 = 5
  · by_cases h1 : 0 ≤ from_ ∧ from_ < (L.length : Int) ∧ (L.getD from_.toNat default).kind = 2
    · by_cases h2 : chkE p = 0
      · left
        unfold walkL
        rw [if_pos h1, if_pos h2, h5, if_neg (by decide)]
      · right
        rw [walkL_chk h1 h2, walkL_chk h1 h2]
    · right
      rw [walkL_from h1, walkL_from h1]
  · right
    unfold walkL
    rw [root_follow h5]
end Go.Proofs.YtfaohejdaabalaaGreatDoor
namespace Go.Proofs.YtfaohejdaabalaaGreatDoor
open Go.RowKit Go.Sort
attribute [local go_sem] Oper.semAt_some

theorem infoB : (Tryz.prog.info? 5).map (fun i => (i.zero, i.size, i.bytes)) = some (some (.int .u8 0), 1, 1) := by kernel_rfl
/-- A list of bytes of the call's own: nothing, or a new row. -/
def NewB (w w' : World) (v : Value) (l : List UInt8) : Prop :=
  (l = [] ∧ v = .slice none 0 0) ∨ (l ≠ [] ∧ v = .slice (some ⟨w.heap.size, 0, none⟩) l.length l.length ∧ Row w' w.heap.size 5 (l.map B8))

set_option maxHeartbeats 1000000 in
theorem cpb_any (a : Option Addr) (len cap : Nat) (l : List UInt8) (w : World) (hB : Byt w a len l) (hl : len ≤ 140737488351232) :
    Calls Tryz.prog 55 #[.slice a len cap] w fun e w' => ∃ v, e = .returned v ∧ NewB w w' v l ∧ Below w.heap.size w w' := by
  obtain rfl := hB.hlen
  by_cases h0 : l.length = 0
  · have hb0 : ((l.length : Int) == 0) = true := by rw [beq_iff_eq]; omega
    have hnil : l = [] := List.length_eq_zero_iff.1 h0
    have HN := hid hnil
    clear hnil h0
    go_enter Tryz.func55, Tryz.ntmps55
    go_wp2
    go_ret
    exact ⟨_, rfl, .inl ⟨HN.out, rfl⟩, Below.refl _ _⟩
  · have hb0 : ((l.length : Int) == 0) = false := by rw [beq_eq_false_iff_ne]; omega
    obtain ⟨bb, off, rfl, hcell⟩ := hB.some_of (by omega)
    go_enter Tryz.func55, Tryz.ntmps55
    go_wp2_with (at_make; refine wpList_make_row _ rfl _ _ 40 rfl 5 (.int .u8 0) 1 Tryz.underlying40 infoB rfl .i64 .i64 _ _ l.length rfl rfl (by omega) (by omega) (by omega) (by omega) ?_; intro w1 hr1 hb1 hs1)
    have hfz := fillD_full (l.map B8) (.int .u8 0)
    rw [List.length_map] at hfz
    rw [← hfz] at hr1
    clear hfz
    go_loopw [4] (fun i wr => ∃ k : Nat, k ≤ l.length ∧ i = .int .i64 ((k : Int) - 1) ∧ Row wr w.heap.size 5 (fillD (l.map B8) (.int .u8 0) k) ∧ Below w.heap.size w wr) (fun i _ => (intOf i + 1).toNat)
    case atStart => exact ⟨l.length, Nat.le_refl _, rfl, hr1, hb1⟩
    case round =>
      obtain ⟨k, hk, rfl, hr, hb⟩ := hrel
      rcases Nat.eq_zero_or_pos k with rfl | hpos
      · go_wp2
        go_ret
        rw [fillD_zero] at hr
        exact ⟨_, rfl, .inr ⟨by intro e; subst e; simp at hb0, rfl, hr⟩, hb⟩
      · obtain ⟨j, rfl⟩ : ∃ j, k = j + 1 := ⟨k - 1, by omega⟩
        have hj : j < l.length := by omega
        have hx := hcell j hj
        have hold := World.block_lt_of_cell? w _ hx
        have hx' : _ = _ := (hb.cell hold).trans hx
        have hfr := hr.frozen j
        have hc := hr.cell j (by rw [fillD_len _ _ _ (by simp; omega)]; simpa using hj)
        clear hx hold
        go_wp2
        go_roundw
        case rel => exact ⟨j, by omega, by go_num, hr.fillD (by simpa using hj) (map_at l j hj), hb.setCell (Nat.le_refl _) _⟩
        case measure => simp [intOf]

theorem NewB.byt {w w' : World} {v : Value} {l : List UInt8} (h : NewB w w' v l) : ∃ a cap, v = .slice a l.length cap ∧ Byt w' a l.length l := by
  rcases h with ⟨rfl, rfl⟩ | ⟨_, rfl, hr⟩
  · exact ⟨none, 0, rfl, Byt.nil _ _⟩
  · exact ⟨_, _, rfl, Row.byt (rest := []) (by simpa using hr) rfl⟩

theorem cpb_byt (a : Option Addr) (len cap : Nat) (l : List UInt8) (w : World) (hB : Byt w a len l) (hl : len ≤ 140737488351232) :
    Calls Tryz.prog 55 #[.slice a len cap] w fun e w' => ∃ a' c', e = .returned (.slice a' l.length c') ∧ Byt w' a' l.length l ∧ (a' = none → c' = 0) ∧ (∀ b, a' = some b → w.heap.size ≤ b.block ∧ b.block < w'.heap.size) ∧ Below w.heap.size w w' := by
  refine (cpb_any a len cap l w hB hl).mono ?_
  rintro e w' ⟨v, rfl, hv, hb⟩
  rcases hv with ⟨rfl, rfl⟩ | ⟨_, rfl, hr⟩
  · exact ⟨none, 0, rfl, Byt.nil _ _, fun _ => rfl, fun b h => (by cases h), hb⟩
  · exact ⟨_, _, rfl, Row.byt (rest := []) (by simpa using hr) rfl, fun h => (by cases h), fun b h => by cases h; exact ⟨Nat.le_refl _, hr.lt⟩, hb⟩
theorem cpb_row (a : Option Addr) (len cap : Nat) (l : List UInt8) (w : World) (hB : Byt w a len l) (hl : len ≤ 140737488351232) :
    Calls Tryz.prog 55 #[.slice a len cap] w fun e w' => ∃ a' c', e = .returned (.slice a' l.length c') ∧ Byt w' a' l.length l ∧ (a' = none → c' = 0) ∧ (∀ b, a' = some b → w.heap.size ≤ b.block ∧ b.block < w'.heap.size) ∧ (∀ b, a' = some b → ∃ cs, w'.heap[b.block]? = some (Obj.cells cs 5 (0, 0))) ∧ Below w.heap.size w w' := by
  refine (cpb_any a len cap l w hB hl).mono ?_
  rintro e w' ⟨v, rfl, hv, hb⟩
  rcases hv with ⟨rfl, rfl⟩ | ⟨_, rfl, hr⟩
  · exact ⟨none, 0, rfl, Byt.nil _ _, fun _ => rfl, fun b h => (by cases h), fun b h => (by cases h), hb⟩
  · exact ⟨_, _, rfl, Row.byt (rest := []) (by simpa using hr) rfl, fun h => (by cases h), fun b h => by cases h; exact ⟨Nat.le_refl _, hr.lt⟩, fun b h => by cases h; exact ⟨_, hr.heap⟩, hb⟩
theorem Byt.same {w w' : World} {n : Nat} {a : Option Addr} {l : List UInt8} (h : Byt w a n l) (hk : ∀ b, a = some b → w'.heap[b.block]? = w.heap[b.block]?) : Byt w' a n l :=
  ⟨h.hlen, fun i hi => by
    obtain ⟨b, off, e, hc⟩ := h.cell i hi
    refine ⟨b, off, e, ?_⟩
    rw [World.cell?_of_block (a := ⟨b, off + i, none⟩) (hk ⟨b, off, none⟩ e)]
    exact hc⟩
theorem EnOk.same {w w' : World} {x : EN} (h : EnOk w x) (hk : ∀ b, x.a = some b → w'.heap[b.block]? = w.heap[b.block]?) : EnOk w' x := ⟨h.byt.same hk, h.nil, h.path, h.to, h.data, h.mode⟩
theorem enC_len (l : List EN) : ∀ r ∈ l.map EN.cs, r.length = 7 := by
  intro r hr
  obtain ⟨x, _, rfl⟩ := List.mem_map.1 hr
  rfl
theorem enC_one (l : List EN) : ∀ r ∈ l.map EN.cs, ∀ u ∈ r, u.oneCell' = true := by
  intro r hr u hu
  obtain ⟨x, _, rfl⟩ := List.mem_map.1 hr
  simp only [EN.cs, List.mem_cons, List.not_mem_nil, or_false] at hu
  rcases hu with rfl | rfl | rfl | rfl | rfl | rfl | rfl <;> rfl
theorem infoEnt : (Tryz.prog.info? 43).map (fun i => (i.zero, i.size, i.bytes)) = some (some (.agg #[.string ByteArray.empty, .int .u8 0, .int .u16 0, .int .u32 0, .int .u32 0, .slice none 0 0, .string ByteArray.empty]), 7, 72) := by kernel_rfl
abbrev OwnE (w : World) (base : Nat) (v : Value) (ys : List EN) : Prop := w.ownsRow base 43 7 v ys.length (ys.map EN.cs).flatten
theorem ownE_nil (w : World) (base : Nat) : OwnE w base (.slice none 0 0) [] := World.ownsRow_nil _ _ _ _

/-- The copies so far. -/
structure Cpe (w0 : World) (base : Nat) (xs : List EN) (k : Nat) (v : Value) (ys : List EN) (w : World) : Prop where
  own : OwnE w base v ys
  len : ys.length = k
  ok : ∀ y ∈ ys, EnOk w y
  far : ∀ y ∈ ys, ∀ b, y.a = some b → b.block < w.heap.size ∧ some b.block ≠ v.ownBlock
  twin : ∀ i (h : i < ys.length) (h' : i < xs.length), ys[i] = { xs[i] with a := ys[i].a, c := ys[i].c }
  low : ∀ y ∈ ys, ∀ b, y.a = some b → base ≤ b.block
  below : Below base w0 w
  objs : ∀ y ∈ ys, ∀ b, y.a = some b → ∃ cs, w.heap[b.block]? = some (Obj.cells cs 5 (0, 0))
  apart : ∀ i j (hi : i < ys.length) (hj : j < ys.length), i ≠ j → ∀ b b', ys[i].a = some b → ys[j].a = some b' → b.block ≠ b'.block

/-- One more. -/
theorem Cpe.step {w0 wr w2 w9 : World} {xs ys : List EN} {k : Nat} {v v' V : Value} {x y : EN} {o : Obj} (h : Cpe w0 w0.heap.size xs k v ys wr) (hk : k < xs.length) (hx : xs[k] = x) (hb : Below wr.heap.size wr w2) (hF : EnOk w2 y) (hT : y = { x with a := y.a, c := y.c }) (hL : ∀ b, y.a = some b → wr.heap.size + 1 ≤ b.block ∧ b.block < w2.heap.size) (hO : ∀ b, y.a = some b → ∃ cs, w2.heap[b.block]? = some (Obj.cells cs 5 (0, 0)))
    (hown : OwnE w9 w0.heap.size v' (ys ++ [y])) (hg : ((w2.setCell ⟨wr.heap.size, 5, none⟩ V).alloc o).grownBy w9 v.ownBlock) (hat : v'.ownBlock = v.ownBlock ∨ v'.ownBlock = some ((w2.setCell ⟨wr.heap.size, 5, none⟩ V).alloc o).heap.size) : Cpe w0 w0.heap.size xs (k + 1) v' (ys ++ [y]) w9 := by
  have hz : w2.heap.size + 1 = ((w2.setCell ⟨wr.heap.size, 5, none⟩ V).alloc o).heap.size := by rw [World.size_alloc]; simp
  have hsz := hg.size
  have hvb := own_block h.own
  have hv : ∀ g, v.ownBlock = some g → w0.heap.size ≤ g ∧ g < wr.heap.size := by
    intro g e
    rcases hvb with h1 | ⟨g', h1, h2, h3⟩
    · rw [h1] at e; cases e
    · rw [h1] at e; cases e; exact ⟨h2, h3⟩
  have hkeep : ∀ b, b < w2.heap.size → b ≠ wr.heap.size → some b ≠ v.ownBlock → w9.heap[b]? = w2.heap[b]? := by
    intro b h1 h2 h3
    rw [hg.block b (by rw [← hz]; omega) h3, heap_alloc_old _ _ (by simp; exact h1), heap_setCell_other _ _ _ _ (by exact h2)]
  have hs2 := hb.size
  have hs0 := h.below.size
  have hold : ∀ y' ∈ ys, ∀ b, y'.a = some b → w9.heap[b.block]? = wr.heap[b.block]? := by
    intro y' hy b hbb
    obtain ⟨h1, h2⟩ := h.far y' hy b hbb
    rw [hkeep _ (by omega) (by omega) h2, hb.block _ h1]
  have hnew : ∀ b, y.a = some b → some b.block ≠ v.ownBlock := by
    intro b hbb e
    have h1 := hL b hbb
    have h2 := hv _ e.symm
    omega
  refine ⟨hown, by simp [h.len], ?_, ?_, ?_, ?_, ?_, ?_, ?_⟩
  · intro y' hy
    rcases List.mem_append.1 hy with hy | hy
    · exact (h.ok y' hy).same (hold y' hy)
    · rw [List.mem_singleton.1 hy]
      refine hF.same fun b hbb => ?_
      have := hL b hbb
      exact hkeep _ (by omega) (by omega) (hnew b hbb)
  · intro y' hy b hbb
    rcases List.mem_append.1 hy with hy | hy
    · obtain ⟨h1, h2⟩ := h.far y' hy b hbb
      refine ⟨by omega, ?_⟩
      rcases hat with h3 | h3
      · rw [h3]; exact h2
      · rw [h3, ← hz]; intro e
        have e2 : b.block = w2.heap.size + 1 := Option.some.inj e
        omega
    · rw [List.mem_singleton.1 hy] at hbb
      have h1 := hL b hbb
      refine ⟨by omega, ?_⟩
      rcases hat with h3 | h3
      · rw [h3]; exact hnew b hbb
      · rw [h3, ← hz]; intro e
        have e2 : b.block = w2.heap.size + 1 := Option.some.inj e
        omega
  · intro i hi hi'
    by_cases e : i < ys.length
    · rw [List.getElem_append_left e]
      exact h.twin i e hi'
    · have : i = k := by simp at hi; have := h.len; omega
      subst this
      rw [List.getElem_append_right (by omega)]
      simp only [List.getElem_singleton]
      rw [hx]; exact hT
  · intro y' hy b hbb
    rcases List.mem_append.1 hy with hy | hy
    · exact h.low y' hy b hbb
    · rw [List.mem_singleton.1 hy] at hbb
      have := hL b hbb
      omega
  · have h1 : Below w0.heap.size w0 (w2.setCell ⟨wr.heap.size, 5, none⟩ V) := bset (h.below.trans (hb.mono h.below.size)) h.below.size _
    exact (h1.alloc h1.size o).grown hg (Nat.le_trans h1.size (by rw [World.size_alloc]; omega)) (fun g e => (hv g e).1)
  · intro y' hy b hbb
    rcases List.mem_append.1 hy with hy | hy
    · rw [hold y' hy b hbb]; exact h.objs y' hy b hbb
    · rw [List.mem_singleton.1 hy] at hbb
      have := hL b hbb
      rw [hkeep _ (by omega) (by omega) (hnew b hbb)]
      exact hO b hbb
  · intro i j hi hj hij b b' hb1 hb2
    have hlen : (ys ++ [y]).length = ys.length + 1 := by simp
    have old : ∀ q (hq : q < ys.length) (b : Addr), ys[q].a = some b → b.block < wr.heap.size := fun q hq b hbb => (h.far _ (List.getElem_mem hq) b hbb).1
    by_cases ei : i < ys.length
    · rw [List.getElem_append_left ei] at hb1
      by_cases ej : j < ys.length
      · rw [List.getElem_append_left ej] at hb2
        exact h.apart i j ei ej hij b b' hb1 hb2
      · rw [List.getElem_append_right (by omega)] at hb2
        simp only [List.getElem_singleton] at hb2
        have h1 := old i ei b hb1
        have h2 := hL b' hb2
        omega
    · rw [List.getElem_append_right (by omega)] at hb1
      simp only [List.getElem_singleton] at hb1
      by_cases ej : j < ys.length
      · rw [List.getElem_append_left ej] at hb2
        have h1 := old j ej b' hb2
        have h2 := hL b hb1
        omega
      · omega

theorem wpList_app7 {w : World} {ops : Array Oper} {rest : List Oper} {o : Oper} {a : Act} {Q : Exit → Act → World → Prop} (hgd : o.guard = none) (s x : Operand)
    (ho : o.op = .call { callee := .builtin .append, args := #[s, x], argTypes := #[22, 22] })
    (base : Nat) (v : Value) (ys : List EN) (y : EN) (hs : a.eval s = v) (g : Nat) (hgs : g = w.heap.size) (hx : a.eval x = .slice (some ⟨g, 0, none⟩) 1 1) (hown : OwnE w base v ys) (hn : ys.length ≤ 1000000000000) (hbase : base ≤ w.heap.size)
    (h : ∀ v' w', OwnE w' base v' (ys ++ [y]) → (w.alloc (.cells (EN.cs y).toArray 43)).grownBy w' v.ownBlock → (v'.ownBlock = v.ownBlock ∨ v'.ownBlock = some (w.alloc (.cells (EN.cs y).toArray 43)).heap.size) → wpList Tryz.prog ops Q rest (a.put o.dst v') w') :
    wpList Tryz.prog ops Q (o :: rest) a (w.alloc (.cells (EN.cs y).toArray 43)) := by
  subst hgs
  obtain ⟨i0, hi0, hz0, hz1, hz2⟩ := info_parts infoEnt
  have hR : Rk (w.alloc (.cells (EN.cs y).toArray 43)) 7 (some ⟨w.heap.size, 0, none⟩) 1 ([y].map EN.cs) := by
    refine ⟨rfl, fun i hi => ?_⟩
    have hi0 : i = 0 := by simp at hi; omega
    subst hi0
    refine ⟨rfl, w.heap.size, 0, rfl, fun j hj => ?_⟩
    have hr := Row.new w 43 (EN.cs y)
    rw [Nat.zero_mul, Nat.zero_add]
    exact hr.cell j hj
  refine wpList_append_own_at _ hgd s x _ ho base _ i0 _ 7 72 Tryz.underlying22 hi0 hz0 hz1 hz2 rfl (by omega) v ys.length _ hs (hown.alloc _) ⟨w.heap.size, 0, none⟩ 1 1 (([y].map EN.cs).flatten) hx (by rw [flat_len (enC_len [y])]; rfl) (hR.news (by omega)) (rk_one (enC_one [y])) (by unfold maxLen; omega) (by omega) (by simp only [World.size_alloc]; omega) ?_
  intro v' w' h1 h2 _ h4
  exact h v' w' (own_ext h1 (by simp) (by simp)) h2 h4

def CopyEPost (w : World) (xs : List EN) (e : Ending) (w' : World) : Prop := ∃ v ys, e = .returned v ∧ Cpe w w.heap.size xs xs.length v ys w'

end Go.Proofs.YtfaohejdaabalaaGreatDoor
namespace Go.Proofs.YtfaohejdaabalaaGreatDoor
open Go.RowKit Go.Sort

/-- An entry as an argument. -/
structure EnIn (w : World) (x : EN) : Prop where
  byt : Byt w x.a x.data.length x.data
  nil : x.a = none → x.c = 0
  path : x.path.length ≤ 140737488351232
  to : x.to.length ≤ 140737488351232
  data : x.data.length ≤ 140737488351232
  mode : 0 ≤ x.mode ∧ x.mode ≤ 65535
structure EntsIn (w : World) (a : Option Addr) (n : Nat) (xs : List EN) : Prop where
  rows : Rk w 7 a n (xs.map EN.cs)
  ok : ∀ x ∈ xs, EnIn w x
def smallE (x : EN) : Prop := x.path.length ≤ 262144 ∧ x.to.length ≤ 262144 ∧ x.data.length ≤ 262144
def LargeE (w : World) (xs : List EN) (e : Ending) (w' : World) : Prop := ∃ b, e = .returned (.bool b) ∧ Below w.heap.size w w' ∧ (b = false → xs.length ≤ 262144 ∧ ∀ x ∈ xs, smallE x)
theorem EntsIn.small {w : World} {a : Option Addr} {n : Nat} {xs : List EN} (h : EntsIn w a n xs) (hs : ∀ x ∈ xs, smallE x) : Ents w a n xs :=
  ⟨h.rows, fun x hx => by
    obtain ⟨h1, h2, h3, h4, h5, h6⟩ := h.ok x hx
    obtain ⟨s1, s2, s3⟩ := hs x hx
    exact ⟨h1, h2, by omega, by omega, by omega, h6⟩⟩

end Go.Proofs.YtfaohejdaabalaaGreatDoor
namespace Go.Proofs.YtfaohejdaabalaaGreatDoor
open Go.ChangeShapes Go.WideShapes Go.ChangeAt Go.RowKit Go.Sort

theorem infoU32 : (Tryz.prog.info? 41).map (fun i => (i.zero, i.size, i.bytes)) = some (some (.int .u32 0), 1, 4) := by kernel_rfl
abbrev OwnN (w : World) (base : Nat) (v : Value) (l : List Int) : Prop := w.ownsRow base 41 1 v l.length (l.map (Value.int .u32))
theorem two_rows {w w1 : World} {T : TypeId} {a b c d e a' b' c' d' e' : Value} {r : Option Nat} (h : ((w.alloc (.cells #[a, b, c, d, e] T)).alloc (.cells #[a', b', c', d', e'] T)).grownBy w1 r) (hr : r = none) : Row w1 w.heap.size T [a, b, c, d, e] ∧ Row w1 (w.heap.size + 1) T [a', b', c', d', e'] := by
  subst hr
  refine ⟨((Row.new w T [a, b, c, d, e]).alloc _).grown h (by simp), ?_⟩
  have := (Row.new (w.alloc (.cells #[a, b, c, d, e] T)) T [a', b', c', d', e']).grown h (by simp)
  rw [World.size_alloc] at this
  exact this

theorem list_of {α : Type} (P : Nat → α → Prop) : ∀ n, (∀ i, i < n → ∃ x, P i x) → ∃ l : List α, l.length = n ∧ ∀ i (hi : i < l.length), P i l[i]
  | 0, _ => ⟨[], rfl, fun i hi => by simp at hi⟩
  | n + 1, h => by
    obtain ⟨l, hl, hp⟩ := list_of P n (fun i hi => h i (by omega))
    obtain ⟨x, hx⟩ := h n (by omega)
    refine ⟨l ++ [x], by simp [hl], fun i hi => ?_⟩
    by_cases e : i < l.length
    · rw [List.getElem_append_left e]; exact hp i e
    · have : i = n := by simp at hi; omega
      subst this
      rw [List.getElem_append_right (by omega)]
      simp [hl]
      exact hx
theorem leavesEnt : leaves Tryz.prog 2 43 = [(0, 9), (1, 5), (2, 39), (3, 41), (4, 41), (5, 40), (6, 9)] := by kernel_rfl
theorem cellsEnt : Tryz.prog.cellsOf 43 = 7 := by kernel_rfl
theorem bytesEnt : Tryz.prog.bytesOf 43 = 72 := by kernel_rfl
section
variable {H : Type} {enc : TypeId × Value → H} {w : World} {held : Bool}
theorem open_data {m : Nat} {v : Value} {y : DataW H × List MemPlace} (h : DataW.trod enc Tryz.prog w 0 (fun _ => true) held m 40 [v] = some y) (hs : Small Tryz.prog reachBytes 40 y.1) :
    ∃ a c, ∃ l : BL, v = .slice a l.length c ∧ Byt w a l.length l ∧ (a = none → c = 0) ∧ l.length ≤ 140737488351232 := by
  obtain ⟨d, ps⟩ := y
  obtain ⟨a, n, c, l, rfl, hb, hnc, _, hw⟩ := open_bytes (e := 5) Tryz.underlying40 Tryz.underlying5 (by kernel_rfl) ⟨m, h⟩
  obtain ⟨a', n', c', e, _, _, hcn, _⟩ := open_rows (n := 0) Tryz.underlying40 h hs (by rw [show Tryz.prog.cellsOf 5 = 1 by kernel_rfl]; omega)
  cases e
  obtain rfl := hb.hlen
  have hw2 : ∀ R, (∀ q ∈ d.weights Tryz.prog 40, q ≤ R) → c * Tryz.prog.bytesOf 5 ≤ R := fun R h => hw R (by rw [List.all_eq_true]; intro n hn; exact decide_eq_true (h n hn))
  have := hw2 reachBytes hs
  rw [show Tryz.prog.bytesOf 5 = 1 by kernel_rfl, reach_is] at this
  exact ⟨a, c, l, rfl, hb, hcn, by omega⟩
set_option maxRecDepth 100000 in
set_option maxHeartbeats 2000000 in
theorem open_ents {r : Reach} {b0 : Nat} {v : Value} {d : DataW H} {ps : List MemPlace} (hv : Value.okWide Tryz.prog w r b0 22 v) (h : DataW.Trod enc Tryz.prog w 0 (fun _ => true) held 22 v d ps) (hz : (d.weights Tryz.prog 22).all (· ≤ reachBytes) = true) :
    ∃ a c, ∃ xs : List EN, v = .slice a xs.length c ∧ EntsIn w a xs.length xs ∧ xs.length ≤ 140737488351232 := by
  obtain ⟨a, n, c, rfl, hnc, _, hcn, hby, hrow⟩ := open_rows_arg (n := 2) Tryz.underlying22 hv h (small_of hz) (by rw [cellsEnt]; omega)
  rw [bytesEnt, reach_is] at hby
  rw [leavesEnt, cellsEnt] at hrow
  obtain ⟨xs, hl, hp⟩ := list_of (fun i (x : EN) => EnIn w x ∧ ∃ b off, a = some ⟨b, off, none⟩ ∧ ∀ j (hj : j < x.cs.length), w.cell? ⟨b, off + i * 7 + j, none⟩ = some x.cs[j]) n (fun i hi => by
    obtain ⟨b, off, rfl, hc⟩ := hrow i hi
    obtain ⟨v0, m0, y0, c0, t0, s0⟩ := hc 0 9 (by simp) (by kernel_rfl) (by omega)
    obtain ⟨v1, m1, y1, c1, t1, s1⟩ := hc 1 5 (by simp) (by kernel_rfl) (by omega)
    obtain ⟨v2, m2, y2, c2, t2, s2⟩ := hc 2 39 (by simp) (by kernel_rfl) (by omega)
    obtain ⟨v3, m3, y3, c3, t3, s3⟩ := hc 3 41 (by simp) (by kernel_rfl) (by omega)
    obtain ⟨v4, m4, y4, c4, t4, s4⟩ := hc 4 41 (by simp) (by kernel_rfl) (by omega)
    obtain ⟨v5, m5, y5, c5, t5, s5⟩ := hc 5 40 (by simp) (by kernel_rfl) (by omega)
    obtain ⟨v6, m6, y6, c6, t6, s6⟩ := hc 6 9 (by simp) (by kernel_rfl) (by omega)
    obtain ⟨x0, rfl, hx0⟩ := leaf_string Tryz.underlying9 t0 s0
    obtain ⟨x1, rfl, _⟩ := leaf_int Tryz.underlying5 t1
    obtain ⟨x2, rfl, hx2⟩ := leaf_int Tryz.underlying39 t2
    obtain ⟨x3, rfl, _⟩ := leaf_int Tryz.underlying41 t3
    obtain ⟨x4, rfl, _⟩ := leaf_int Tryz.underlying41 t4
    obtain ⟨xa, xc, xl, rfl, hx5, hx5n, hx5l⟩ := open_data t5 s5
    obtain ⟨x6, rfl, hx6⟩ := leaf_string Tryz.underlying9 t6 s6
    have hm := bounds_u16 hx2
    rw [reach_is] at hx0 hx6
    refine ⟨⟨x0, x1, x2, x3, x4, xa, xc, xl, x6⟩, ⟨hx5, hx5n, hx0, hx6, hx5l, hm⟩, b, off, rfl, fun j hj => ?_⟩
    have hj' : j < 7 := hj
    rcases j with _ | _ | _ | _ | _ | _ | _ | j
    · exact c0
    · exact c1
    · exact c2
    · exact c3
    · exact c4
    · exact c5
    · exact c6
    · omega)
  subst hl
  refine ⟨a, c, xs, rfl, ⟨⟨by simp, fun i hi => ?_⟩, fun x hx => ?_⟩, by omega⟩
  · have hi' : i < xs.length := by simpa using hi
    obtain ⟨_, b, off, rfl, hc⟩ := hp i hi'
    have e : (xs.map EN.cs)[i] = xs[i].cs := by simp
    rw [e]
    exact ⟨rfl, b, off, rfl, hc⟩
  · obtain ⟨i, hi, rfl⟩ := List.mem_iff_getElem.1 hx
    exact (hp i hi).1
end
end Go.Proofs.YtfaohejdaabalaaGreatDoor
namespace Go.Proofs.YtfaohejdaabalaaGreatDoor
open Go.RowKit Go.Sort

theorem St.five {W : World} {b : Nat} {v0 v1 v2 v3 v4 : Value} (h : W.cell? ⟨b, 0, none⟩ = some v0 ∧ W.cell? ⟨b, 1, none⟩ = some v1 ∧ W.cell? ⟨b, 2, none⟩ = some v2 ∧ W.cell? ⟨b, 3, none⟩ = some v3 ∧ W.cell? ⟨b, 4, none⟩ = some v4) :
    (∀ w, St W w → w.cell? ⟨b, 0, none⟩ = some v0) ∧ (∀ w, St W w → w.cell? ⟨b, 1, none⟩ = some v1) ∧ (∀ w, St W w → w.cell? ⟨b, 2, none⟩ = some v2) ∧ (∀ w, St W w → w.cell? ⟨b, 3, none⟩ = some v3) ∧ (∀ w, St W w → w.cell? ⟨b, 4, none⟩ = some v4) :=
  ⟨fun _ => St.cell h.1, fun _ => St.cell h.2.1, fun _ => St.cell h.2.2.1, fun _ => St.cell h.2.2.2.1, fun _ => St.cell h.2.2.2.2⟩
theorem St.three {W : World} {b : Nat} {v0 v1 v2 : Value} (h : W.cell? ⟨b, 0, none⟩ = some v0 ∧ W.cell? ⟨b, 1, none⟩ = some v1 ∧ W.cell? ⟨b, 2, none⟩ = some v2) :
    (∀ w, St W w → w.cell? ⟨b, 0, none⟩ = some v0) ∧ (∀ w, St W w → w.cell? ⟨b, 1, none⟩ = some v1) ∧ (∀ w, St W w → w.cell? ⟨b, 2, none⟩ = some v2) :=
  ⟨fun _ => St.cell h.1, fun _ => St.cell h.2.1, fun _ => St.cell h.2.2⟩
theorem St.size {W w : World} (h : St W w) : W.heap.size ≤ w.heap.size := Below.size h
theorem Cpe.ents {w0 w : World} {base k : Nat} {xs ys : List EN} {a : Option Addr} {n c : Nat} (h : Cpe w0 base xs k (.slice a n c) ys w) : n = ys.length ∧ Ents w a ys.length ys := by
  obtain ⟨a', c', e, hr, _⟩ := own_rk h.own (enC_len ys) (by omega)
  cases e
  exact ⟨rfl, hr, h.ok⟩

end Go.Proofs.YtfaohejdaabalaaGreatDoor
