
/- hostelref06.New. -/
import Derived.Test.YthamfhenadaapaaGreatDoorG62
import Derived.Test.YthamfhenadaapaaGreatDoorSK
import Derived.Maps.AppendAt
import Derived.IntWalk
namespace Go.Proofs.YthamfhenadaapaaGreatDoor
open Go.RowKit Go.Sort

theorem own_row_neK {w : World} {base e size n b T : Nat} {v : Value} {xs cs : List Value} (h : w.ownsRow base e size v n xs) (hr : Row w b T cs) (hT : T ≠ e) : some b ≠ v.ownBlock := by
  rcases h.2 with ⟨h1, _⟩ | ⟨g, cap, cur, rfl, hb, hg, _⟩
  · rw [h1]; exact fun e => by cases e
  · intro e1
    simp only [Value.ownBlock, Option.some.injEq] at e1
    subst e1
    have := hr.heap
    rw [hg] at this
    simp at this
    exact hT this.2.symm
theorem infoRN : (Tryz.prog.info? 70).map (fun i => (i.zero, i.size, i.bytes)) = some (some (.agg #[.int .u8 0, .int .u16 0, .int .u32 0, .int .u32 0, .int .i64 0, .int .i64 0, .string ByteArray.empty, .slice none 0 0, .string ByteArray.empty]), 9, 88) := by kernel_rfl
theorem one_rk (w : World) (T : TypeId) (r : List Value) {k : Nat} (hr : r.length = k) : Rk (w.alloc (.cells r.toArray T)) k (some ⟨w.heap.size, 0, none⟩) 1 [r] := by
  refine ⟨rfl, fun i hi => ?_⟩
  have hi0 : i = 0 := by simp at hi; omega
  subst hi0
  refine ⟨hr, w.heap.size, 0, rfl, fun j hj => ?_⟩
  rw [Nat.zero_mul, Nat.zero_add]
  exact (Row.new w T r).cell j hj
theorem wpList_app9 {w : World} {ops : Array Oper} {rest : List Oper} {o : Oper} {a : Act} {Q : Exit → Act → World → Prop} (hgd : o.guard = none) (s x : Operand)
    (ho : o.op = .call { callee := .builtin .append, args := #[s, x], argTypes := #[66, 66] })
    (base : Nat) (v : Value) (rows : List (List Value)) (r : List Value) (hs : a.eval s = v) (g : Nat) (hgs : g = w.heap.size) (hx : a.eval x = .slice (some ⟨g, 0, none⟩) 1 1) (hown : w.ownsRow base 70 9 v rows.length rows.flatten) (hr : r.length = 9) (h1 : ∀ u ∈ r, u.oneCell' = true) (hn : rows.length ≤ 1000000000) (hbase : base ≤ w.heap.size)
    (h : ∀ v' w', w'.ownsRow base 70 9 v' (rows.length + 1) (rows ++ [r]).flatten → (w.alloc (.cells r.toArray 70)).grownBy w' v.ownBlock → (v'.ownBlock = v.ownBlock ∨ v'.ownBlock = some (w.alloc (.cells r.toArray 70)).heap.size) → wpList Tryz.prog ops Q rest (a.put o.dst v') w') :
    wpList Tryz.prog ops Q (o :: rest) a (w.alloc (.cells r.toArray 70)) := by
  subst hgs
  obtain ⟨i0, hi0, hz0, hz1, hz2⟩ := info_parts infoRN
  refine wpList_append_own_at _ hgd s x _ ho base _ i0 _ 9 88 Tryz.underlying66 hi0 hz0 hz1 hz2 rfl (by omega) v rows.length _ hs (hown.alloc _) ⟨w.heap.size, 0, none⟩ 1 1 [r].flatten hx (by simp [hr]) ((one_rk w _ r hr).news (by omega)) (rk_one (fun q hq => by rw [List.mem_singleton.1 hq]; exact h1)) (by unfold maxLen; omega) (by omega) (by simp only [World.size_alloc]; omega) ?_
  intro v' w' k1 k2 _ k4
  exact h v' w' (own_ext k1 rfl (by simp)) k2 k4

/-- The reference's file system that is being made. -/
structure RB (w0 w : World) (G : Nat) (v : Value) (L : List ND) (d : Nat → Option Addr × Nat) : Prop where
  row : Row w G 68 [v]
  own : w.ownsRow w0.heap.size 70 9 v L.length (rrs L d).flatten
  data : ∀ i, i < L.length → Byt w (d i).1 (L.getD i default).data.length (L.getD i default).data ∧ (((d i).1 = none → (d i).2 = 0) ∧ (L.getD i default).data.length ≤ (d i).2) ∧ ∀ b, (d i).1 = some b → w0.heap.size ≤ b.block ∧ b.block < w.heap.size ∧ some b.block ≠ v.ownBlock ∧ b.block ≠ G
  low : w0.heap.size ≤ G
  below : Below w0.heap.size w0 w
theorem RB.step1 {w0 w w' : World} {G : Nat} {v : Value} {L : List ND} {d : Nat → Option Addr × Nat} (h : RB w0 w G v L d) (hb : Below w.heap.size w w') : RB w0 w' G v L d :=
  ⟨h.row.below hb h.row.lt, own_below h.own hb, fun i hi => by
    obtain ⟨h1, h2, h3⟩ := h.data i hi
    exact ⟨h1.below' hb, h2, fun b e => by
      obtain ⟨k1, k2, k3⟩ := h3 b e
      exact ⟨k1, Nat.lt_of_lt_of_le k2 hb.size, k3⟩⟩, h.low, bthen h.below hb⟩
theorem RB.rf {w0 w : World} {G : Nat} {v : Value} {L : List ND} {d : Nat → Option Addr × Nat} (h : RB w0 w G v L d) (hf : Fine L) (hL : ∃ P, Lay L P) (hK : Kid L) : RF w G L d :=
  ⟨hf, hL, hK, by
    obtain ⟨a, c, rfl, h1, _⟩ := own_rk h.own (rrs_nine L d) (by omega)
    exact ⟨a, c, h.row, h1⟩, fun i hi => ⟨(h.data i hi).1, (h.data i hi).2.1⟩⟩
theorem RB.lt {w0 w : World} {G : Nat} {v : Value} {L : List ND} {d : Nat → Option Addr × Nat} (h : RB w0 w G v L d) : ∀ g, v.ownBlock = some g → w0.heap.size ≤ g ∧ g < w.heap.size := by
  intro g e
  rcases own_block h.own with h1 | ⟨g', h1, h2, h3⟩
  · rw [h1] at e; cases e
  · rw [h1] at e; cases e; exact ⟨h2, h3⟩

def upD (d : Nat → Option Addr × Nat) (n : Nat) (q : Option Addr × Nat) : Nat → Option Addr × Nat := fun i => if i = n then q else d i
/-- A new node's cells. -/
def rnew (ds : List BL) (j : Nat) (x : EN) (na : Option Addr) (nc : Nat) : List Value := [.int .u8 x.kind, .int .u16 x.mode, .int .u32 x.uid, .int .u32 x.gid, .int .i64 (x.data.length : Nat), .int .i64 (j : Nat), .string (ba (ds.getLastD [])), .slice na x.data.length nc, .string (ba x.to)]
theorem rrs_add {L : List ND} {d : Nat → Option Addr × Nat} {j : Nat} {x : EN} {ds : List BL} {na : Option Addr} {nc : Nat} (hG : GoodD ds) : rrs (addN L j (ds.getLastD []) (newN ds j x)) (upD d L.length (na, nc)) = rrs L d ++ [rnew ds j x na nc] := by
  unfold rrs
  rw [addN_len, List.range_succ, List.map_append]
  congr 1
  · apply List.map_congr_left
    intro i hi
    have hi' := List.mem_range.1 hi
    obtain ⟨ns, e, _⟩ := addN_same L j (ds.getLastD []) (newN ds j x) hi'
    unfold rcs nmL pr upD
    rw [e, if_neg (by omega)]
  · simp only [List.map_cons, List.map_nil]
    congr 1
    unfold rcs nmL pr upD rnew
    rw [addN_new, if_pos rfl]
    show [_, _, _, _, _, _, Value.string (ba ((partsF (pathJ ds)).getLastD [])), _, _] = _
    rw [(goodD_chk hG).2.1]
    rfl
theorem RB.step {w0 wr w2 w4 : World} {G j nc : Nat} {v v' : Value} {L : List ND} {d : Nat → Option Addr × Nat} {x : EN} {ds : List BL} {na : Option Addr} {o : Obj} (h : RB w0 wr G v L d) (hG : GoodD ds) (hb : Below wr.heap.size wr w2) (hby : Byt w2 na x.data.length x.data) (hnil : (na = none → nc = 0) ∧ x.data.length ≤ nc) (hli : ∀ b, na = some b → wr.heap.size ≤ b.block ∧ b.block < w2.heap.size)
    (hown : w4.ownsRow w0.heap.size 70 9 v' (L.length + 1) (rrs L d ++ [rnew ds j x na nc]).flatten) (hg : (w2.alloc o).grownBy w4 v.ownBlock) (hat : v'.ownBlock = v.ownBlock ∨ v'.ownBlock = some (w2.alloc o).heap.size) :
    RB w0 (w4.setCell ⟨G, 0, none⟩ v') G v' (addN L j (ds.getLastD []) (newN ds j x)) (upD d L.length (na, nc)) := by
  have h2 := h.step1 hb
  have hlt := h.lt
  have hGl := h.row.lt
  have hGo : some G ≠ v.ownBlock := own_row_neK h.own h.row (by decide)
  have hz := hb.size
  have hsz := hg.size
  rw [World.size_alloc] at hsz hat
  have hr4 : Row w4 G 68 [v] := (h2.row.alloc o).grown hg hGo
  have hGo' : some G ≠ v'.ownBlock := own_row_neK hown hr4 (by decide)
  have keep : ∀ b, b < w2.heap.size → b ≠ G → some b ≠ v.ownBlock → (w4.setCell ⟨G, 0, none⟩ v').heap[b]? = w2.heap[b]? := fun b h1 h3 h4 => by
    rw [heap_setCell_other _ _ _ _ (by exact h3), hg.block b (by rw [World.size_alloc]; omega) h4, heap_alloc_old _ _ h1]
  have hl := addN_len L j (ds.getLastD []) (newN ds j x)
  refine ⟨hr4.set 0 v', ?_, fun i hi => ?_, h.low, ?_⟩
  · rw [hl, rrs_add hG]
    exact own_setOther hown hGo' v'
  · rw [hl] at hi
    have hs' : (w4.setCell ⟨G, 0, none⟩ v').heap.size = w4.heap.size := by simp
    by_cases hil : i = L.length
    · subst hil
      rw [addN_new]
      unfold upD
      rw [if_pos rfl]
      have hne : ∀ b, na = some b → b.block ≠ G ∧ some b.block ≠ v.ownBlock := fun b e => by
        have k := hli b e
        exact ⟨by omega, fun q => by have := (hlt _ q.symm).2; omega⟩
      refine ⟨hby.same (fun b e => keep _ (hli b e).2 (hne b e).1 (hne b e).2), hnil, fun b e => ?_⟩
      have k := hli b e
      have k0 := h.below.size
      refine ⟨by omega, by rw [hs']; omega, ?_, (hne b e).1⟩
      rcases hat with q | q
      · rw [q]; exact (hne b e).2
      · rw [q]; intro e2; have := Option.some.inj e2; omega
    · have hi' : i < L.length := by omega
      obtain ⟨ns, e, _⟩ := addN_same L j (ds.getLastD []) (newN ds j x) hi'
      obtain ⟨k1, k2, k3⟩ := h.data i hi'
      rw [e]
      unfold upD
      rw [if_neg hil]
      refine ⟨(k1.below' hb).same (fun b e => keep _ (by have := (k3 b e).2.1; omega) (k3 b e).2.2.2 (k3 b e).2.2.1), k2, fun b e => ?_⟩
      obtain ⟨q1, q2, q3, q4⟩ := k3 b e
      refine ⟨q1, by rw [hs']; omega, ?_, q4⟩
      rcases hat with q | q
      · rw [q]; exact q3
      · rw [q]; intro e2; have := Option.some.inj e2; omega
  · have k0 := h2.below
    have k1 := k0.alloc k0.size o
    exact bset (k1.grown hg (by have := k0.size; rw [World.size_alloc]; omega) (fun g e => (hlt g e).1)) h.low _

def d0 : Nat → Option Addr × Nat := fun _ => (none, 0)
def row0 : List Value := [.int .u8 2, .int .u16 493, .int .u32 0, .int .u32 0, .int .i64 0, .int .i64 0, .string (ba []), .slice none 0 0, .string (ba [])]
theorem rrs0 : rrs [root0] d0 = [row0] := by
  have : nmL [root0] 0 = [] := by decide +kernel
  unfold rrs row0
  simp only [List.length_singleton, List.range_one, List.map_cons, List.map_nil, rcs, this]
  rfl
def RNews (w : World) (xs : List EN) (e : Ending) (w' : World) : Prop := Below w.heap.size w w' ∧
  if 64 < xs.length then e = .returned (.tuple #[.pointer none, .int .i64 15, .int .i64 (-1)])
  else if (newE [root0] 0 xs).1 = 0 then ∃ G v d, e = .returned (.tuple #[.pointer (some ⟨G, 0, none⟩), .int .i64 0, .int .i64 0]) ∧ RB w w' G v (newE [root0] 0 xs).2.2 d ∧ Fine (newE [root0] 0 xs).2.2
  else e = .returned (.tuple #[.pointer none, .int .i64 (newE [root0] 0 xs).1, .int .i64 ((newE [root0] 0 xs).2.1 : Nat)])
theorem addE_may {L : List ND} {x : EN} (h : ¬ mayR x = 0) : addE L x = (mayR x, L) := by
  unfold mayR at h ⊢
  cases he : entP x with
  | none => rw [addE_1 he]
  | some ds =>
    rw [he] at h
    by_cases hb : 65536 < x.data.length
    · rw [addE_12 he hb]; simp [hb]
    · simp [hb] at h
theorem may_zero {x : EN} (h : mayR x = 0) : ∃ ds, entP x = some ds ∧ ¬ 65536 < x.data.length := by
  unfold mayR at h
  cases he : entP x with
  | none => rw [he] at h; cases h
  | some ds =>
    rw [he] at h
    by_cases hb : 65536 < x.data.length
    · simp [hb] at h
    · exact ⟨ds, rfl, hb⟩
theorem atV_none {L : List ND} {ds : List BL} (h : atL L 0 ds = none) : atV L ds = -1 := by unfold atV; rw [h]
theorem atV_some {L : List ND} {ds : List BL} {j : Nat} (h : atL L 0 ds = some j) : atV L ds = (j : Int) := by unfold atV; rw [h]

set_option maxRecDepth 100000 in
set_option maxHeartbeats 16000000 in
theorem rnew_any (a : Option Addr) (n c : Nat) (xs : List EN) (w : World) (hX : Ents w a n xs) (hn : n ≤ 1000000) :
    Calls Tryz.prog 9 #[.slice a n c] w (RNews w xs) := by
  have hxl : xs.length = n := by have := hX.rows.hlen; simpa using this
  have HX := hid hX
  have HXL := hid hxl
  clear hX
  by_cases hbig : 64 < n
  · have d1 : decide ((64 : Int) < (n : Int)) = true := by simp; omega
    have HG := hid (show 64 < xs.length by omega)
    clear hbig hxl
    go_enter Tryz.func9, Tryz.ntmps9
    go_wp2_with fail
    refine bodyPost_ret (v := .tuple #[.pointer none, .int .i64 15, .int .i64 (-1)]) (by simp [results, Tryz.results9, Tryz.f9, go_sem]) rfl ⟨Below.refl _ _, ?_⟩
    rw [if_pos HG.out]
  · have d1 : decide ((64 : Int) < (n : Int)) = false := by simp; omega
    have HG := hid (show ¬ 64 < xs.length by omega)
    have hn64 : n ≤ 64 := by omega
    have hf0 := Row.new w 68 [.slice none 0 0]
    have hb0 := @bal w (.cells #[.slice none 0 0] 68)
    have x0 := hf0.cell 0 (by simp)
    simp only [List.getElem_cons_zero] at x0
    have HF0 := hid hf0
    have HB0 := hid hb0
    have HOW0 := hid (show (w.alloc (.cells #[.slice none 0 0] 68)).ownsRow w.heap.size 70 9 (.slice none 0 0) ([] : List (List Value)).length ([] : List (List Value)).flatten from World.ownsRow_nil _ _ _ _)
    have HGS0 := hid (show w.heap.size + 1 = (w.alloc (.cells #[.slice none 0 0] 68)).heap.size by simp)
    have HR9 := hid (show row0.length = 9 from rfl)
    have HR1 := hid (show ∀ u ∈ row0, u.oneCell' = true by decide)
    have HL0 := hid (show ([] : List (List Value)).length ≤ 1000000000 by simp)
    have HZ0 := hid hb0.size
    clear hbig hxl hf0 hb0 x0
    go_enter Tryz.func9, Tryz.ntmps9
    go_wp2_with (at_builtin; go_must (refine wpList_app9 rfl _ _ rfl w.heap.size (.slice none 0 0) [] row0 rfl (w.heap.size + 1) HGS0.out rfl HOW0.out HR9.out HR1.out HL0.out HZ0.out ?_; intro v4 w4 hown hgrow hat; obtain ⟨va, vc, rfl, _⟩ := own_rk (rows := [row0]) hown (by intro r hr; rw [List.mem_singleton.1 hr]; rfl) (by omega); have hr4 := (HF0.out.alloc (.cells row0.toArray 70)).grown hgrow (by simp [Value.ownBlock]); have g0 := hr4.cell 0 (by simp); have f0 := hr4.frozen 0; have l4 := hr4.lt; have HR4 := hid hr4; have HOWN := hid hown; have HGR := hid hgrow; have HAT := hid hat; clear hown hgrow hat hr4))
    have hown4 := own_below HOWN.out (show Below w4.heap.size w4 w4 from Below.refl _ _)
    have HRB0 := hid (show RB w (w4.setCell ⟨w.heap.size, 0, none⟩ (.slice va 1 vc)) w.heap.size (.slice va 1 vc) [root0] d0 from by
      have hne : some w.heap.size ≠ (Value.slice va 1 vc).ownBlock := own_row_neK HOWN.out HR4.out (by decide)
      refine ⟨HR4.out.set 0 _, ?_, fun i hi => ?_, Nat.le_refl _, ?_⟩
      · rw [rrs0]; exact own_setOther HOWN.out hne _
      · obtain rfl : i = 0 := by simp at hi; omega
        exact ⟨Byt.nil _ _, ⟨fun _ => rfl, Nat.le_refl 0⟩, fun b e => by cases e⟩
      · have h1 := HB0.out.alloc HZ0.out (.cells row0.toArray 70)
        exact bset (h1.grown HGR.out (by have := h1.size; simp only [World.size_alloc] at this ⊢; omega) (fun g e => by cases e)) (Nat.le_refl _) _)
    clear hown4 g0 f0 l4
    go_loopw [6] (fun i wr => ∃ (k : Nat) (L : List ND) (v : Value) (d : Nat → Option Addr × Nat), k ≤ n ∧ i = .int .i64 k ∧ newE L k (xs.drop k) = newE [root0] 0 xs ∧ L.length = k + 1 ∧ Fine L ∧ (∃ P, Lay L P) ∧ Kid L ∧ RB w wr w.heap.size v L d) (fun i _ => n - (intOf i).toNat)
    case atStart => exact ⟨0, [root0], _, d0, Nat.zero_le _, rfl, rfl, rfl, fine0, ⟨_, lay0⟩, kid0, HRB0.out⟩
    case round =>
      obtain ⟨k, L, v, d, hk, rfl, hne, hll, hfi, hla, hki, hrb⟩ := hrel
      have HNE := hid hne
      have HLL := hid hll
      have HFI := hid hfi
      have HLA := hid hla
      have HKI := hid hki
      have HRB := hid hrb
      clear hne hll hfi hla hki hrb HRB0 HOWN HGR HAT HR4
      by_cases hlt : k < n
      · have d2 : decide ((k : Int) < (n : Int)) = true := by simp; omega
        have d2n : decide (k < n) = true := by simp; omega
        have hkx : k < xs.length := by rw [HXL.out]; exact hlt
        obtain ⟨b, o, rfl, hcell⟩ := (HX.out.below HRB.out.below).rows.some_of (by simp; omega)
        have g := fun j hj => hcell k (by simpa using hkx) j hj
        have e9 : (xs.map EN.cs)[k]'(by simpa using hkx) = xs[k].cs := by simp
        rw [e9] at g
        have g0 := g 0 (by simp [EN.cs])
        have g1 := g 1 (by simp [EN.cs])
        have g2 := g 2 (by simp [EN.cs])
        have g3 := g 3 (by simp [EN.cs])
        have g4 := g 4 (by simp [EN.cs])
        have g5 := g 5 (by simp [EN.cs])
        have g6 := g 6 (by simp [EN.cs])
        simp only [EN.cs, List.getElem_cons_zero, List.getElem_cons_succ, Nat.add_zero] at g0 g1 g2 g3 g4 g5 g6
        have hblt := World.block_lt_of_cell? _ _ g0
        dsimp only at hblt
        have HOK := hid ((HX.out.ok _ (List.getElem_mem hkx)).below HRB.out.below)
        have HDR := hid (List.drop_eq_getElem_cons hkx)
        generalize xs[k] = x at *
        have HBA := hid (@bal wr (.cells x.cs.toArray 51))
        have HRX := hid (Row.new wr 51 x.cs)
        have HOA := hid (HOK.out.below HBA.out)
        have HMAY := hid (rmay6_any x _ HOA.out)
        have HPA := hid HOK.out.path
        have hnx := HRX.out.seven
        unfold EN.cs at HBA HRX HOA HMAY hnx
        clear hcell g e9
        go_wp2_with fail
        refine (HMAY.out).mono ?_
        rintro e' w1 ⟨rfl, hb⟩
        have HB1 := hid (bthen HBA.out hb)
        have HRX1 := hid (HRX.out.below hb HRX.out.lt)
        have HBB := hid hb
        clear hb HMAY hnx g0 g1 g2 g3 g4 g5 g6 hblt
        by_cases hm0 : mayR x = 0
        · rw [hm0]
          obtain ⟨ds, hen, hsz⟩ := may_zero hm0
          obtain ⟨hds, hent⟩ := entP_is hen
          have HEN := hid hen
          have HSZ := hid hsz
          have HGD := hid (show GoodD ds by rw [hds]; exact goodD_of hent.2.2.2.1 hent.2.2.2.2.1)
          have HNE2 := hid (show ds ≠ [] by rw [hds]; exact hent.2.2.2.2.2.1)
          have hdl : ds.length ≤ 201 := by rw [hds]; exact parts_count _
          have HTO := hid (rightK_to hent.1)
          have HDS := hid hds
          obtain ⟨m, hm⟩ : ∃ m, ds.length = m + 1 := ⟨ds.length - 1, by have := List.length_pos_iff.2 HNE2.out; omega⟩
          have HM := hid hm
          clear hm0 hen hsz hds hent hm
          obtain ⟨c0, c1, c2, c3, c4, c5, c6⟩ := HRX1.out.seven
          have hl0 := HRX1.out.lt
          go_wp2_with fail
          refine (rparts_any (ba x.path) w1 (by rw [ba_size]; exact HPA.out)).mono ?_
          rintro e' w2 ⟨pv, rfl, ho, hb⟩
          rw [show (ba x.path).data.toList = x.path from rfl, ← HDS.out] at ho
          have HB2 := hid (bthen HB1.out hb)
          have HRX2 := hid (HRX1.out.below hb HRX1.out.lt)
          obtain ⟨pa, pc, rfl, hcel, _, hpc, _, hpb⟩ := own_cel2 ho
          have HC2 := hid hcel
          have HPB := hid hpb
          have HBB2 := hid (bthen HBB.out hb)
          clear ho hb hcel hpb c0 c1 c2 c3 c4 c5 c6 hl0
          have HRB2 := hid (HRB.out.step1 HB2.out)
          have HRF2 := hid (HRB2.out.rf HFI.out HLA.out HKI.out)
          rw [HM.out] at HC2 hpc ⊢
          have HAT1 := hid (rat_any w.heap.size L d pa (m + 1) pc ds w2 HRF2.out HC2.out HM.out (by have := HM.out; omega))
          have hlk : atL L 0 ds = lookK L (pathJ ds) := by obtain ⟨P, hP⟩ := HLA.out; exact at_look hP HKI.out HGD.out
          have HLK := hid hlk
          clear hlk
          cases hl1 : lookK L (pathJ ds) with
          | some j0 =>
            rw [atV_some (HLK.out.trans hl1)] at HAT1
            have HE := hid (addE_7 HEN.out HSZ.out hl1)
            have HNO := hid (show newE [root0] 0 xs = (7, k, L) by rw [← HNE.out, HDR.out, newE_no (by rw [HE.out]; simp), HE.out])
            clear hl1
            go_wp2_with fail
            refine (HAT1.out).mono ?_
            rintro e' w3 ⟨rfl, rfl⟩
            go_wp2_with fail
            refine bodyPost_ret (v := .tuple #[.pointer none, .int .i64 7, .int .i64 (k : Int)]) (by simp [results, Tryz.results9, Tryz.f9, go_sem]) rfl ⟨HRB2.out.below, ?_⟩
            rw [if_neg HG.out, HNO.out, if_neg (by simp)]
          | none =>
            rw [atV_none (HLK.out.trans hl1)] at HAT1
            have HL1 := hid hl1
            obtain ⟨dl, nm, hdn⟩ : ∃ dl nm, ds = dl ++ [nm] := by
              rcases ds.eq_nil_or_concat with h | ⟨l, q, h⟩
              · exact absurd h HNE2.out
              · exact ⟨l, q, by simpa using h⟩
            have hdl2 : dl.length = m := by have := HM.out; rw [hdn] at this; simpa using this
            have hc3 : Cel w2 pa m (strs dl) := by
              have := HC2.out.prefix (n := m) (by omega)
              rwa [hdn, strs_app, List.take_left' (by simp [strs, hdl2])] at this
            obtain ⟨pb, po, rfl, hcell⟩ := HC2.out.some_of (by simp [strs]; rw [hdn]; simp)
            have hnm : w2.cell? ⟨pb, po + m, none⟩ = some (.string (ba (ds.getLastD []))) := by
              have := hcell m (by simp [strs, HM.out])
              rw [this]
              simp only [hdn, strs, List.map_append, List.map_cons, List.map_nil, List.getLastD_concat]
              rw [List.getElem_append_right (by simp [hdl2])]
              simp [hdl2]
            have HAT2 := hid (rat_any w.heap.size L d (some ⟨pb, po, none⟩) m pc dl w2 HRF2.out hc3 hdl2 (by have := HM.out; omega))
            have hlk2 : atL L 0 dl = lookK L (pathJ ds.dropLast) := by
              have hG : GoodD dl := by have := HGD.out; rw [hdn] at this; exact goodD_init this
              obtain ⟨P, hP⟩ := HLA.out
              rw [at_look hP HKI.out hG, hdn, List.dropLast_concat]
            have HLK2 := hid hlk2
            have HNM := hid hnm
            have hsl := cut_slice pb po pc m (by omega) (by omega)
            have hmb : m ≤ 201 := by have := HM.out; omega
            clear hl1 hc3 hcell hlk2 hnm hdl2 hdn hdl
            cases hl2 : lookK L (pathJ ds.dropLast) with
            | none =>
              rw [atV_none (HLK2.out.trans hl2)] at HAT2
              have HE := hid (addE_3 HEN.out HSZ.out HL1.out hl2)
              have HNO := hid (show newE [root0] 0 xs = (3, k, L) by rw [← HNE.out, HDR.out, newE_no (by rw [HE.out]; simp), HE.out])
              clear hl2
              go_wp2_with fail
              refine (HAT1.out).mono ?_
              rintro e' w3 ⟨rfl, rfl⟩
              go_wp2_with fail
              refine (HAT2.out).mono ?_
              rintro e' w3 ⟨rfl, rfl⟩
              go_wp2_with fail
              refine bodyPost_ret (v := .tuple #[.pointer none, .int .i64 3, .int .i64 (k : Int)]) (by simp [results, Tryz.results9, Tryz.f9, go_sem]) rfl ⟨HRB2.out.below, ?_⟩
              rw [if_neg HG.out, HNO.out, if_neg (by simp)]
            | some j =>
              rw [atV_some (HLK2.out.trans hl2)] at HAT2
              have hjl : j < L.length := lookK_in hl2
              have HJL := hid hjl
              obtain ⟨rb, ro, rc, y0, hlG, hlb, hat⟩ := HRF2.out.at
              obtain ⟨⟨k0, _⟩, _⟩ := hat j hjl
              have hmost := HFI.out.most
              have q1 : decide ((j : Int) < (L.length : Int)) = true := by simp; omega
              have q1n : decide (j < L.length) = true := by simp; omega
              clear hat hjl
              by_cases hk2 : (L.getD j default).kind = 2
              · rw [hk2] at k0
                have HE := hid (addE_0 HEN.out HSZ.out HL1.out hl2 hk2)
                have HK2 := hid hk2
                clear hl2 hk2
                go_wp2_with fail
                refine (HAT1.out).mono ?_
                rintro e' w3 ⟨rfl, rfl⟩
                go_wp2_with fail
                refine (HAT2.out).mono ?_
                rintro e' w3 ⟨rfl, rfl⟩
                go_wp2_with fail
                clear k0 y0 hlG hlb hsl
                obtain ⟨nmv, hnmv⟩ : ∃ q, q = ds.getLastD [] := ⟨_, rfl⟩
                rw [← hnmv] at HNM
                have HNMV := hid hnmv
                clear hnmv
                have hGx : wr.heap.size ≠ w.heap.size := by have := HRB.out.row.lt; omega
                have hox : some wr.heap.size ≠ v.ownBlock := fun e => by have := (HRB.out.lt _ e.symm).2; omega
                have hwz : wr.heap.size < w1.heap.size := HRX1.out.lt
                obtain ⟨pg, epb, hpg, _⟩ := HPB.out _ rfl
                have hGp : pb ≠ w.heap.size := by have := HRB.out.row.lt; cases epb; omega
                have hop : some pb ≠ v.ownBlock := fun e => by have := (HRB.out.lt _ e.symm).2; cases epb; omega
                have hc0 := HRB2.out.row.cell 0 (by simp)
                simp only [List.getElem_cons_zero] at hc0
                obtain ⟨c0, c1, c2, c3, c4, c5, c6⟩ := HRX2.out.seven
                have s0 := (fun (ww : World) (h : StG w2 w.heap.size v.ownBlock v ww) => h.read c0 hGx hox)
                have s1 := (fun (ww : World) (h : StG w2 w.heap.size v.ownBlock v ww) => h.read c1 hGx hox)
                have s2 := (fun (ww : World) (h : StG w2 w.heap.size v.ownBlock v ww) => h.read c2 hGx hox)
                have s3 := (fun (ww : World) (h : StG w2 w.heap.size v.ownBlock v ww) => h.read c3 hGx hox)
                have s4 := (fun (ww : World) (h : StG w2 w.heap.size v.ownBlock v ww) => h.read c4 hGx hox)
                have s5 := (fun (ww : World) (h : StG w2 w.heap.size v.ownBlock v ww) => h.read c5 hGx hox)
                have s6 := (fun (ww : World) (h : StG w2 w.heap.size v.ownBlock v ww) => h.read c6 hGx hox)
                have sp := (fun (ww : World) (h : StG w2 w.heap.size v.ownBlock v ww) => h.read HNM.out hGp hop)
                have sg := (fun (ww : World) (h : StG w2 w.heap.size v.ownBlock v ww) => h.cell)
                have hS : StG w2 w.heap.size v.ownBlock v w2.drew := StG.of (Below.refl _ _).drew hc0
                have HC0 := hid hc0
                clear c0 c1 c2 c3 c4 c5 c6 hc0 hGx hox hwz hpg hGp hop epb
                have hml1 : (m : Int) < (m : Int) + 1 := by omega
                have hm0' : (0 : Int) ≤ (m : Int) := by omega
                have hmw : IntKind.i64.wrap (m : Int) = (m : Int) := IntWalk.i64_in _ ⟨by omega, by omega⟩
                refine region_sk 34 (StG w2 w.heap.size v.ownBlock v) (by kernel_rfl) (fun inv => ?_)
                refine sk_take (i := 0) (v := ?_) (some 78) rfl rfl (by kernel_rfl) (by kernel_rfl) (by decide) (by decide) inv (by kernel_rfl) (by kernel_rfl) (fun _ _ _ h => h) (Or.inl ⟨by rfl, ?_⟩) hS (fun inv => ?_)
                rotate_left
                · intro ww hSw
                  go_simp
                  try with_reducible rfl
                simp only [Act.put, List.setIfInBounds_toArray, List.set_cons_zero, List.set_cons_succ]
                refine sk_take (i := 1) (v := ?_) (some 79) rfl rfl (by kernel_rfl) (by kernel_rfl) (by decide) (by decide) inv (by kernel_rfl) (by kernel_rfl) (fun _ _ _ h => h) (Or.inl ⟨by rfl, ?_⟩) hS (fun inv => ?_)
                rotate_left
                · intro ww hSw
                  go_simp
                  try with_reducible rfl
                simp only [Act.put, List.setIfInBounds_toArray, List.set_cons_zero, List.set_cons_succ]
                refine sk_take (i := 2) (v := ?_) (some 80) rfl rfl (by kernel_rfl) (by kernel_rfl) (by decide) (by decide) inv (by kernel_rfl) (by kernel_rfl) (fun _ _ _ h => h) (Or.inl ⟨by rfl, ?_⟩) hS (fun inv => ?_)
                rotate_left
                · intro ww hSw
                  go_simp
                  try with_reducible rfl
                simp only [Act.put, List.setIfInBounds_toArray, List.set_cons_zero, List.set_cons_succ]
                refine sk_take (i := 3) (v := ?_) (some 81) rfl rfl (by kernel_rfl) (by kernel_rfl) (by decide) (by decide) inv (by kernel_rfl) (by kernel_rfl) (fun _ _ _ h => h) (Or.inl ⟨by rfl, ?_⟩) hS (fun inv => ?_)
                rotate_left
                · intro ww hSw
                  go_simp
                  try with_reducible rfl
                simp only [Act.put, List.setIfInBounds_toArray, List.set_cons_zero, List.set_cons_succ]
                refine sk_take (i := 4) (v := ?_) (some 82) rfl rfl (by kernel_rfl) (by kernel_rfl) (by decide) (by decide) inv (by kernel_rfl) (by kernel_rfl) (fun _ _ _ h => h) (Or.inl ⟨by rfl, ?_⟩) hS (fun inv => ?_)
                rotate_left
                · intro ww hSw
                  go_simp
                  try with_reducible rfl
                simp only [Act.put, List.setIfInBounds_toArray, List.set_cons_zero, List.set_cons_succ]
                refine sk_take (i := 5) (v := ?_) (some 83) rfl rfl (by kernel_rfl) (by kernel_rfl) (by decide) (by decide) inv (by kernel_rfl) (by kernel_rfl) (fun _ _ _ h => h) (Or.inl ⟨by rfl, ?_⟩) hS (fun inv => ?_)
                rotate_left
                · intro ww hSw
                  go_simp
                  try with_reducible rfl
                simp only [Act.put, List.setIfInBounds_toArray, List.set_cons_zero, List.set_cons_succ]
                refine sk_take (i := 6) (v := ?_) (some 84) rfl rfl (by kernel_rfl) (by kernel_rfl) (by decide) (by decide) inv (by kernel_rfl) (by kernel_rfl) (fun _ _ _ h => h) (Or.inl ⟨by rfl, ?_⟩) hS (fun inv => ?_)
                rotate_left
                · intro ww hSw
                  go_simp
                  try with_reducible rfl
                simp only [Act.put, List.setIfInBounds_toArray, List.set_cons_zero, List.set_cons_succ]
                refine sk_take (i := 7) (v := ?_) (some 85) rfl rfl (by kernel_rfl) (by kernel_rfl) (by decide) (by decide) inv (by kernel_rfl) (by kernel_rfl) (fun _ _ _ h => h) (Or.inl ⟨by rfl, ?_⟩) hS (fun inv => ?_)
                rotate_left
                · intro ww hSw
                  go_simp
                  try with_reducible rfl
                simp only [Act.put, List.setIfInBounds_toArray, List.set_cons_zero, List.set_cons_succ]
                refine sk_take (i := 8) (v := ?_) (some 86) rfl rfl (by kernel_rfl) (by kernel_rfl) (by decide) (by decide) inv (by kernel_rfl) (by kernel_rfl) (fun _ _ _ h => h) (Or.inl ⟨by rfl, ?_⟩) hS (fun inv => ?_)
                rotate_left
                · intro ww hSw
                  go_simp
                  try with_reducible rfl
                simp only [Act.put, List.setIfInBounds_toArray, List.set_cons_zero, List.set_cons_succ]
                refine sk_take (i := 9) (v := ?_) (some 87) rfl rfl (by kernel_rfl) (by kernel_rfl) (by decide) (by decide) inv (by kernel_rfl) (by kernel_rfl) (fun _ _ _ h => h) (Or.inl ⟨by rfl, ?_⟩) hS (fun inv => ?_)
                rotate_left
                · intro ww hSw
                  go_simp
                  try with_reducible rfl
                simp only [Act.put, List.setIfInBounds_toArray, List.set_cons_zero, List.set_cons_succ]
                refine sk_take (i := 10) (v := ?_) (some 88) rfl rfl (by kernel_rfl) (by kernel_rfl) (by decide) (by decide) inv (by kernel_rfl) (by kernel_rfl) (fun _ _ _ h => h) (Or.inl ⟨by rfl, ?_⟩) hS (fun inv => ?_)
                rotate_left
                · intro ww hSw
                  go_simp
                  try with_reducible rfl
                simp only [Act.put, List.setIfInBounds_toArray, List.set_cons_zero, List.set_cons_succ]
                refine sk_take (i := 11) (v := ?_) (some 89) rfl rfl (by kernel_rfl) (by kernel_rfl) (by decide) (by decide) inv (by kernel_rfl) (by kernel_rfl) (fun _ _ _ h => h) (Or.inl ⟨by rfl, ?_⟩) hS (fun inv => ?_)
                rotate_left
                · intro ww hSw
                  go_simp
                  try with_reducible rfl
                simp only [Act.put, List.setIfInBounds_toArray, List.set_cons_zero, List.set_cons_succ]
                refine sk_take (i := 12) (v := ?_) (some 90) rfl rfl (by kernel_rfl) (by kernel_rfl) (by decide) (by decide) inv (by kernel_rfl) (by kernel_rfl) (fun _ _ _ h => h) (Or.inl ⟨by rfl, ?_⟩) hS (fun inv => ?_)
                rotate_left
                · intro ww hSw
                  go_simp
                  try with_reducible rfl
                simp only [Act.put, List.setIfInBounds_toArray, List.set_cons_zero, List.set_cons_succ]
                refine sk_take (i := 13) (v := ?_) (some 91) rfl rfl (by kernel_rfl) (by kernel_rfl) (by decide) (by decide) inv (by kernel_rfl) (by kernel_rfl) (fun _ _ _ h => h) (Or.inl ⟨by rfl, ?_⟩) hS (fun inv => ?_)
                rotate_left
                · intro ww hSw
                  go_simp
                  try with_reducible rfl
                simp only [Act.put, List.setIfInBounds_toArray, List.set_cons_zero, List.set_cons_succ]
                refine sk_take (i := 14) (v := ?_) (some 92) rfl rfl (by kernel_rfl) (by kernel_rfl) (by decide) (by decide) inv (by kernel_rfl) (by kernel_rfl) (fun _ _ _ h => h) (Or.inl ⟨by rfl, ?_⟩) hS (fun inv => ?_)
                rotate_left
                · intro ww hSw
                  go_simp
                  try with_reducible rfl
                simp only [Act.put, List.setIfInBounds_toArray, List.set_cons_zero, List.set_cons_succ]
                refine sk_take (i := 15) (v := ?_) (some 93) rfl rfl (by kernel_rfl) (by kernel_rfl) (by decide) (by decide) inv (by kernel_rfl) (by kernel_rfl) (fun _ _ _ h => h) (Or.inl ⟨by rfl, ?_⟩) hS (fun inv => ?_)
                rotate_left
                · intro ww hSw
                  go_simp
                  try with_reducible rfl
                simp only [Act.put, List.setIfInBounds_toArray, List.set_cons_zero, List.set_cons_succ]
                refine sk_take (i := 16) (v := ?_) (some 94) rfl rfl (by kernel_rfl) (by kernel_rfl) (by decide) (by decide) inv (by kernel_rfl) (by kernel_rfl) (fun _ _ _ h => h) (Or.inl ⟨by rfl, ?_⟩) hS (fun inv => ?_)
                rotate_left
                · intro ww hSw
                  go_simp
                  try with_reducible rfl
                simp only [Act.put, List.setIfInBounds_toArray, List.set_cons_zero, List.set_cons_succ]
                refine sk_take (i := 17) (v := ?_) (some 95) rfl rfl (by kernel_rfl) (by kernel_rfl) (by decide) (by decide) inv (by kernel_rfl) (by kernel_rfl) (fun _ _ _ h => h) (Or.inl ⟨by rfl, ?_⟩) hS (fun inv => ?_)
                rotate_left
                · intro ww hSw
                  go_simp
                  try with_reducible rfl
                simp only [Act.put, List.setIfInBounds_toArray, List.set_cons_zero, List.set_cons_succ]
                refine sk_take (i := 18) (v := ?_) (some 96) rfl rfl (by kernel_rfl) (by kernel_rfl) (by decide) (by decide) inv (by kernel_rfl) (by kernel_rfl) (fun _ _ _ h => h) (Or.inl ⟨by rfl, ?_⟩) hS (fun inv => ?_)
                rotate_left
                · intro ww hSw
                  go_simp
                  try with_reducible rfl
                simp only [Act.put, List.setIfInBounds_toArray, List.set_cons_zero, List.set_cons_succ]
                refine sk_take (i := 19) (v := ?_) (some 97) rfl rfl (by kernel_rfl) (by kernel_rfl) (by decide) (by decide) inv (by kernel_rfl) (by kernel_rfl) (fun _ _ _ h => h) (Or.inl ⟨by rfl, ?_⟩) hS (fun inv => ?_)
                rotate_left
                · intro ww hSw
                  go_simp
                  try with_reducible rfl
                simp only [Act.put, List.setIfInBounds_toArray, List.set_cons_zero, List.set_cons_succ]
                refine sk_take (i := 20) (v := ?_) (some 98) rfl rfl (by kernel_rfl) (by kernel_rfl) (by decide) (by decide) inv (by kernel_rfl) (by kernel_rfl) (fun _ _ _ h => h) (Or.inl ⟨by rfl, ?_⟩) hS (fun inv => ?_)
                rotate_left
                · intro ww hSw
                  go_simp
                  try with_reducible rfl
                simp only [Act.put, List.setIfInBounds_toArray, List.set_cons_zero, List.set_cons_succ]
                refine sk_take (i := 21) (v := ?_) (some 99) rfl rfl (by kernel_rfl) (by kernel_rfl) (by decide) (by decide) inv (by kernel_rfl) (by kernel_rfl) (fun _ _ _ h => h) (Or.inl ⟨by rfl, ?_⟩) hS (fun inv => ?_)
                rotate_left
                · intro ww hSw
                  go_simp
                  try with_reducible rfl
                simp only [Act.put, List.setIfInBounds_toArray, List.set_cons_zero, List.set_cons_succ]
                refine sk_take (i := 22) (v := ?_) (some 100) rfl rfl (by kernel_rfl) (by kernel_rfl) (by decide) (by decide) inv (by kernel_rfl) (by kernel_rfl) (fun _ _ _ h => h) (Or.inl ⟨by rfl, ?_⟩) hS (fun inv => ?_)
                rotate_left
                · intro ww hSw
                  go_simp
                  try with_reducible rfl
                simp only [Act.put, List.setIfInBounds_toArray, List.set_cons_zero, List.set_cons_succ]
                refine sk_take (i := 23) (v := ?_) (some 101) rfl rfl (by kernel_rfl) (by kernel_rfl) (by decide) (by decide) inv (by kernel_rfl) (by kernel_rfl) (fun _ _ _ h => h) (Or.inl ⟨by rfl, ?_⟩) hS (fun inv => ?_)
                rotate_left
                · intro ww hSw
                  go_simp
                  try with_reducible rfl
                simp only [Act.put, List.setIfInBounds_toArray, List.set_cons_zero, List.set_cons_succ]
                refine sk_take (i := 24) (v := ?_) (some 102) rfl rfl (by kernel_rfl) (by kernel_rfl) (by decide) (by decide) inv (by kernel_rfl) (by kernel_rfl) (fun _ _ _ h => h) (Or.inl ⟨by rfl, ?_⟩) hS (fun inv => ?_)
                rotate_left
                · intro ww hSw
                  go_simp
                  try with_reducible rfl
                simp only [Act.put, List.setIfInBounds_toArray, List.set_cons_zero, List.set_cons_succ]
                refine sk_take (i := 25) (v := ?_) (some 103) rfl rfl (by kernel_rfl) (by kernel_rfl) (by decide) (by decide) inv (by kernel_rfl) (by kernel_rfl) (fun _ _ _ h => h) (Or.inl ⟨by rfl, ?_⟩) hS (fun inv => ?_)
                rotate_left
                · intro ww hSw
                  go_simp
                  try with_reducible rfl
                simp only [Act.put, List.setIfInBounds_toArray, List.set_cons_zero, List.set_cons_succ]
                refine sk_take (i := 27) (v := ?_) (some 105) rfl rfl (by kernel_rfl) (by kernel_rfl) (by decide) (by decide) inv (by kernel_rfl) (by kernel_rfl) (fun _ _ _ h => h) (Or.inl ⟨by rfl, ?_⟩) hS (fun inv => ?_)
                rotate_left
                · intro ww hSw
                  go_simp
                  try with_reducible rfl
                simp only [Act.put, List.setIfInBounds_toArray, List.set_cons_zero, List.set_cons_succ]
                refine sk_take (i := 28) (v := ?_) (some 106) rfl rfl (by kernel_rfl) (by kernel_rfl) (by decide) (by decide) inv (by kernel_rfl) (by kernel_rfl) (fun _ _ _ h => h) (Or.inl ⟨by rfl, ?_⟩) hS (fun inv => ?_)
                rotate_left
                · intro ww hSw
                  go_simp
                  try with_reducible rfl
                simp only [Act.put, List.setIfInBounds_toArray, List.set_cons_zero, List.set_cons_succ]
                clear hmw hml1 hm0'
                have HCB := hid (fun (wx : World) (hs : Below w2.heap.size w2 wx) => cpb_cap x.a x.data.length x.c x.data wx ((HOA.out.byt.below' HBB2.out).below' hs) (by have := HOA.out.data; omega))
                obtain ⟨i0, hi0, hz0, hz1, hz2⟩ := info_parts infoRN
                refine sk_one (i := 26) (by kernel_rfl) rfl inv (fun K hK => ?_)
                rw [if_pos (by rfl)]
                go_simp
                refine (HCB.out _ (Below.refl _ _).drew).mono ?_
                rintro e' w5 ⟨na, nc, rfl, hby, hnil, hli, hb⟩
                have hb5 : Below w2.heap.size w2 w5 := bdl hb
                have HB5 := hid hb5
                have HBY := hid hby
                have HNIL := hid hnil
                have HLI := hid (show ∀ b, na = some b → w2.heap.size ≤ b.block ∧ b.block < w5.heap.size from hli)
                have hS : StG w2 w.heap.size v.ownBlock v w5 := StG.of hb5 HC0.out
                clear hby hnil hli hb hb5
                refine hK.out _ _ (fun _ => hS) (fun inv => ?_)
                have inv := inv (by decide)
                clear hK K
                try simp only [Act.put, List.setIfInBounds_toArray, List.set_cons_zero, List.set_cons_succ]
                refine sk_take (i := 29) (v := ?_) (some 107) rfl rfl (by kernel_rfl) (by kernel_rfl) (by decide) (by decide) inv (by kernel_rfl) (by kernel_rfl) (fun _ _ _ h => h) (Or.inl ⟨by rfl, ?_⟩) hS (fun inv => ?_)
                rotate_left
                · intro ww hSw
                  go_simp
                  try with_reducible rfl
                simp only [Act.put, List.setIfInBounds_toArray, List.set_cons_zero, List.set_cons_succ]
                refine sk_one (i := 30) (by kernel_rfl) rfl inv (fun K hK => ?_)
                rw [if_pos (by rfl)]
                go_simp
                have hS : StG w2 w.heap.size v.ownBlock v (w5.alloc (.cells [Value.int .u8 x.kind, .int .u16 x.mode, .int .u32 x.uid, .int .u32 x.gid, .int .i64 (x.data.length : Nat), .int .i64 (j : Nat), .string (ba nmv), .slice na x.data.length nc, .string (ba x.to)].toArray 70)) := hS.step (bal _)
                have HRB5 := hid (HRB2.out.step1 HB5.out)
                have HOW5 := hid (HRB5.out.own.alloc (.cells [Value.int .u8 x.kind, .int .u16 x.mode, .int .u32 x.uid, .int .u32 x.gid, .int .i64 (x.data.length : Nat), .int .i64 (j : Nat), .string (ba nmv), .slice na x.data.length nc, .string (ba x.to)].toArray 70))
                have HL5 := hid (show [Value.int .u8 x.kind, .int .u16 x.mode, .int .u32 x.uid, .int .u32 x.gid, .int .i64 (x.data.length : Nat), .int .i64 (j : Nat), .string (ba nmv), .slice na x.data.length nc, .string (ba x.to)].length = 1 * 9 from rfl)
                have HN5 := hid (show ∀ q u, [Value.int .u8 x.kind, .int .u16 x.mode, .int .u32 x.uid, .int .u32 x.gid, .int .i64 (x.data.length : Nat), .int .i64 (j : Nat), .string (ba nmv), .slice na x.data.length nc, .string (ba x.to)][q]? = some u → (w5.alloc (.cells [Value.int .u8 x.kind, .int .u16 x.mode, .int .u32 x.uid, .int .u32 x.gid, .int .i64 (x.data.length : Nat), .int .i64 (j : Nat), .string (ba nmv), .slice na x.data.length nc, .string (ba x.to)].toArray 70)).cell? ((⟨w5.heap.size, 0, none⟩ : Addr).add q) = some u by
                  have := (one_rk w5 70 [Value.int .u8 x.kind, .int .u16 x.mode, .int .u32 x.uid, .int .u32 x.gid, .int .i64 (x.data.length : Nat), .int .i64 (j : Nat), .string (ba nmv), .slice na x.data.length nc, .string (ba x.to)] (k := 9) rfl).news (by omega)
                  simpa using this)
                have HO5 := hid (show ∀ u ∈ [Value.int .u8 x.kind, .int .u16 x.mode, .int .u32 x.uid, .int .u32 x.gid, .int .i64 (x.data.length : Nat), .int .i64 (j : Nat), .string (ba nmv), .slice na x.data.length nc, .string (ba x.to)], u.oneCell' = true by
                  intro u hu
                  simp only [List.mem_cons, List.not_mem_nil, or_false] at hu
                  rcases hu with rfl | rfl | rfl | rfl | rfl | rfl | rfl | rfl | rfl <;> rfl)
                have HM5 := hid (show L.length + 1 ≤ maxLen by unfold maxLen; omega)
                have HM6 := hid (show (L.length + 1) * 88 ≤ 140737488355328 by omega)
                have HZ5 := hid (show w.heap.size ≤ (w5.alloc (.cells [Value.int .u8 x.kind, .int .u16 x.mode, .int .u32 x.uid, .int .u32 x.gid, .int .i64 (x.data.length : Nat), .int .i64 (j : Nat), .string (ba nmv), .slice na x.data.length nc, .string (ba x.to)].toArray 70)).heap.size by have := HRB5.out.below.size; rw [World.size_alloc]; omega)
                refine hK.out _ _ (fun _ => hS) (fun inv => ?_)
                have inv := inv (by decide)
                clear hK K
                try simp only [Act.put, List.setIfInBounds_toArray, List.set_cons_zero, List.set_cons_succ]
                refine sk_one (i := 31) (by kernel_rfl) rfl inv (fun K hK => ?_)
                refine step_append_lies _ (by rfl) _ _ 66 (by rfl) w.heap.size 70 i0 _ 9 88 Tryz.underlying66 hi0 hz0 hz1 hz2 rfl (by decide) v L.length (rrs L d).flatten (by rfl) HOW5.out ⟨w5.heap.size, 0, none⟩ 1 1 [Value.int .u8 x.kind, .int .u16 x.mode, .int .u32 x.uid, .int .u32 x.gid, .int .i64 (x.data.length : Nat), .int .i64 (j : Nat), .string (ba nmv), .slice na x.data.length nc, .string (ba x.to)] (by rfl) HL5.out HN5.out HO5.out (by decide) HM5.out HM6.out HZ5.out _ rfl ?_
                intro gg cap w7 hown hgrow hat hlt7
                have hGo : some w.heap.size ≠ v.ownBlock := own_row_neK HRB5.out.own HRB5.out.row (by decide)
                have hr7 := (HRB5.out.row.alloc (.cells [Value.int .u8 x.kind, .int .u16 x.mode, .int .u32 x.uid, .int .u32 x.gid, .int .i64 (x.data.length : Nat), .int .i64 (j : Nat), .string (ba nmv), .slice na x.data.length nc, .string (ba x.to)].toArray 70)).grown hgrow hGo
                have g7 := hr7.cell 0 (by simp)
                simp only [List.getElem_cons_zero] at g7
                have f7 := hr7.frozen 0
                have l7 := hr7.lt
                have hS : StG w2 w.heap.size v.ownBlock v w7 := ⟨Nat.le_trans hS.size hgrow.size, fun b h1 h2 h3 => by rw [hgrow.block b (Nat.lt_of_lt_of_le h1 hS.size) h3, hS.keep b h1 h2 h3], g7⟩
                have HSTEP := hid (RB.step (j := j) (v' := .slice (some ⟨gg, 0, none⟩) (L.length + 1) cap) HRB2.out HGD.out HB5.out HBY.out HNIL.out HLI.out (own_ext hown rfl (by rw [show rnew ds j x na nc = [Value.int .u8 x.kind, .int .u16 x.mode, .int .u32 x.uid, .int .u32 x.gid, .int .i64 (x.data.length : Nat), .int .i64 (j : Nat), .string (ba nmv), .slice na x.data.length nc, .string (ba x.to)] by unfold rnew; rw [← HNMV.out]]; simp)) hgrow (by
                  rcases hat with h | h
                  · exact .inl h.symm
                  · right; rw [h]; rfl))
                refine hK.out _ _ (fun _ => hS) (fun inv => ?_)
                have inv := inv (by decide)
                clear hK K hown hgrow hat
                try simp only [Act.put, List.setIfInBounds_toArray, List.set_cons_zero, List.set_cons_succ]
                refine sk_take (i := 32) (v := ?_) (some 110) rfl rfl (by kernel_rfl) (by kernel_rfl) (by decide) (by decide) inv (by kernel_rfl) (by kernel_rfl) (fun _ _ _ h => h) (Or.inl ⟨by rfl, ?_⟩) hS (fun inv => ?_)
                rotate_left
                · intro ww hSw
                  go_simp
                  try with_reducible rfl
                simp only [Act.put, List.setIfInBounds_toArray, List.set_cons_zero, List.set_cons_succ]
                refine sk_take (i := 33) (v := ?_) (some 111) rfl rfl (by kernel_rfl) (by kernel_rfl) (by decide) (by decide) inv (by kernel_rfl) (by kernel_rfl) (fun _ _ _ h => h) (Or.inl ⟨by rfl, ?_⟩) hS (fun inv => ?_)
                rotate_left
                · intro ww hSw
                  go_simp
                  try with_reducible rfl
                simp only [Act.put, List.setIfInBounds_toArray, List.set_cons_zero, List.set_cons_succ]
                refine sk_one (i := 34) (by kernel_rfl) rfl inv (fun K hK => ?_)
                rw [if_pos (by rfl)]
                go_simp
                refine hK.out _ _ (fun h => absurd h (by decide)) (fun _ => ?_)
                clear hK K
                refine sk_done (by kernel_rfl) ?_ _
                clear s0 s1 s2 s3 s4 s5 s6 sp sg hS inv g7 f7 l7 hlt7 hGo hr7
                have HLN := hid (addN_len L j (ds.getLastD []) (newN ds j x))
                have HNX := hid (show newE (addN L j (ds.getLastD []) (newN ds j x)) (k + 1) (xs.drop (k + 1)) = newE [root0] 0 xs by
                  have h9 := newE_go (L := L) (i := k) (x := x) (xs := xs.drop (k + 1)) (by rw [HE.out])
                  rw [HE.out] at h9
                  rw [← h9, ← HDR.out]; exact HNE.out)
                have HFX := hid (show Fine (addN L j (ds.getLastD []) (newN ds j x)) from Fine.add HFI.out HJL.out HK2.out (by have := HLL.out; omega) rfl rfl ⟨by have := HSZ.out; show x.data.length ≤ _; omega, rfl⟩ HOA.out.mode (by
                  show (pathJ ds).length ≤ 1000000
                  have := HGD.out.len
                  omega) HTO.out)
                have HLX := hid (show ∃ P, Lay (addN L j (ds.getLastD []) (newN ds j x)) P by
                  obtain ⟨P, hP⟩ := HLA.out
                  obtain ⟨P', h1, _⟩ := lay_add (x := x) hP (by rw [HE.out])
                  rw [HE.out] at h1
                  exact ⟨P', h1⟩)
                have HKX := hid (show Kid (addN L j (ds.getLastD []) (newN ds j x)) by
                  obtain ⟨P, hP⟩ := HLA.out
                  have h1 := kid_add (x := x) hP HKI.out (by rw [HE.out])
                  rwa [HE.out] at h1)
                go_wp2_with fail
                go_roundw
                case rel => exact ⟨k + 1, _, _, _, by omega, by go_num, HNX.out, by rw [HLN.out, HLL.out], HFX.out, HLX.out, HKX.out, HSTEP.out⟩
                case measure => simp [intOf]; omega
              · have dk : ((L.getD j default).kind != 2) = true := by simpa using hk2
                have HE := hid (addE_8 HEN.out HSZ.out HL1.out hl2 hk2)
                have HNO := hid (show newE [root0] 0 xs = (8, k, L) by rw [← HNE.out, HDR.out, newE_no (by rw [HE.out]; simp), HE.out])
                clear hl2 hk2
                generalize (L.getD j default).kind = kd at *
                go_wp2_with fail
                refine (HAT1.out).mono ?_
                rintro e' w3 ⟨rfl, rfl⟩
                go_wp2_with fail
                refine (HAT2.out).mono ?_
                rintro e' w3 ⟨rfl, rfl⟩
                go_wp2_with fail
                refine bodyPost_ret (v := .tuple #[.pointer none, .int .i64 8, .int .i64 (k : Int)]) (by simp [results, Tryz.results9, Tryz.f9, go_sem]) rfl ⟨HRB2.out.below, ?_⟩
                rw [if_neg HG.out, HNO.out, if_neg (by simp)]
        · have HE := hid (addE_may (L := L) hm0)
          have HNO := hid (show newE [root0] 0 xs = (mayR x, k, L) by rw [← HNE.out, HDR.out, newE_no (by rw [HE.out]; exact hm0), HE.out])
          have HM0 := hid hm0
          have dm : (mayR x != 0) = true := by simpa using hm0
          clear hm0
          generalize mayR x = er at *
          go_wp2_with fail
          refine bodyPost_ret (v := .tuple #[.pointer none, .int .i64 er, .int .i64 (k : Int)]) (by simp [results, Tryz.results9, Tryz.f9, go_sem]) rfl ⟨(HRB.out.step1 HB1.out).below, ?_⟩
          rw [if_neg HG.out, HNO.out, if_neg HM0.out]
      · have d2 : decide ((k : Int) < (n : Int)) = false := by simp; omega
        have d2n : decide (k < n) = false := by simp; omega
        have HFIN := hid (show newE [root0] 0 xs = (0, 0, L) by rw [← HNE.out, List.drop_eq_nil_of_le (by rw [HXL.out]; omega), newE])
        clear hlt hk
        go_wp2_with fail
        refine bodyPost_ret (v := .tuple #[.pointer (some ⟨w.heap.size, 0, none⟩), .int .i64 0, .int .i64 0]) (by simp [results, Tryz.results9, Tryz.f9, go_sem]) rfl ⟨HRB.out.below, ?_⟩
        rw [if_neg HG.out, HFIN.out, if_pos rfl]
        exact ⟨w.heap.size, v, d, rfl, HRB.out, HFI.out⟩
end Go.Proofs.YthamfhenadaapaaGreatDoor
