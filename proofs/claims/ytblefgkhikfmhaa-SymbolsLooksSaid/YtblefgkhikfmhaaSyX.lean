/- Whole objects: what is known of needed names, symbols and relocations; the reference's Copy and Same of dynamic sections. -/
import Derived.Test.YtblefgkhikfmhaaSyV
import Derived.Deep.QuietTactic
import Derived.BigQuiet
import Derived.Laws.StructEq
import Derived.Laws.AppendOwnNone
namespace Go.Proofs.Ytblefgkhikfmhaa
open Go.RowKit Go.Sort Go.Shelf
attribute [local go_sem] Oper.semAt_some

/-- append(v, l...), l a slice of elements of k cells, any type. -/
theorem wpList_appK {P : Program} {tS tE : TypeId} {k bytes : Nat} {z : Value} (hund : P.underlying tS = some (.slice tE)) (hinfo : (P.info? tE).map (fun i => (i.zero, i.size, i.bytes)) = some (some z, k, bytes)) (hzc : z.cells.size = k) (hkp : 0 < k)
    {w : World} {ops : Array Oper} {rest : List Oper} {o : Oper} {a : Act} {Q : Exit → Act → World → Prop} (hgd : o.guard = none) (s x : Operand)
    (ho : o.op = .call { callee := .builtin .append, args := #[s, x], argTypes := #[tS, tS] })
    (base : Nat) (v : Value) (rows news : List (List Value)) (hs : a.eval s = v) (ad : Option Addr) (m c : Nat) (hx : a.eval x = .slice ad m c) (hown : w.ownsRow base tE k v rows.length rows.flatten) (hy : Rk w k ad m news) (hone : ∀ r ∈ news, ∀ u ∈ r, u.oneCell' = true) (hc : ad = none → c = 0) (hn : (rows.length + m) * bytes ≤ 140737488355328) (hm : rows.length + m ≤ maxLen) (hbase : base ≤ w.heap.size)
    (h : ∀ v' w', w'.ownsRow base tE k v' (rows ++ news).length (rows ++ news).flatten → Below base w w' → wpList P ops Q rest (a.put o.dst v') w') :
    wpList P ops Q (o :: rest) a w := by
  have hm' : news.length = m := hy.hlen
  obtain ⟨i0, hi0, hz0, hz1, hz2⟩ := info_parts hinfo
  cases ad with
  | none =>
    obtain rfl : news = [] := by
      cases news with
      | nil => rfl
      | cons x l => obtain ⟨_, _, h, _⟩ := hy.some_of (by simp); cases h
    obtain rfl := hc rfl
    obtain rfl : m = 0 := hm'.symm
    refine wpList_append_own_none hgd s x _ ho base _ i0 k hund hi0 v rows.length _ hs hown hx ?_
    exact h v w (by rw [List.append_nil]; exact hown) (Below.refl _ _)
  | some ad =>
    have hk : ∀ r ∈ news, r.length = k := fun r hr => by
      obtain ⟨i, hi, rfl⟩ := List.getElem_of_mem hr
      exact hy.klen hi
    refine wpList_append_own w hgd s x _ ho base _ i0 _ k bytes hund hi0 hz0 hz1 hz2 hzc hkp v rows.length _ hs hown ad m c news.flatten hx (by rw [flat_len hk, hm']) (hy.news hkp) (rk_one hone) hm hn hbase ?_
    intro v' w' h1 h2 _
    refine h v' w' (own_ext h1 (by simp [hm']) (by simp)) ((Below.refl _ w).grown h2 hbase (fun k hk => (hown.lt k hk).1))

theorem infoSym : (Try.prog.info? 48).map (fun i => (i.zero, i.size, i.bytes)) = some (some (.agg #[.string ByteArray.empty, .int .u64 0, .int .u64 0, .int .u8 0, .bool false]), 5, 40) := by kernel_rfl
theorem infoRela : (Try.prog.info? 69).map (fun i => (i.zero, i.size, i.bytes)) = some (some (.agg #[.int .u64 0, .int .u32 0, .int .i64 0, .int .i64 0]), 4, 32) := by kernel_rfl
theorem syC_one (l : List SY) : ∀ r ∈ l.map syC, ∀ u ∈ r, u.oneCell' = true := by
  intro r hr u hu
  obtain ⟨x, _, rfl⟩ := List.mem_map.1 hr
  simp only [syC, List.mem_cons, List.not_mem_nil, or_false] at hu
  rcases hu with rfl | rfl | rfl | rfl | rfl <;> rfl
theorem rlC_one (l : List RL) : ∀ r ∈ l.map rlC, ∀ u ∈ r, u.oneCell' = true := by
  intro r hr u hu
  obtain ⟨x, _, rfl⟩ := List.mem_map.1 hr
  simp only [rlC, List.mem_cons, List.not_mem_nil, or_false] at hu
  rcases hu with rfl | rfl | rfl | rfl <;> rfl
theorem syC_len (l : List SY) : ∀ r ∈ l.map syC, r.length = 5 := by
  intro r hr
  obtain ⟨x, _, rfl⟩ := List.mem_map.1 hr
  rfl
theorem rlC_len (l : List RL) : ∀ r ∈ l.map rlC, r.length = 4 := by
  intro r hr
  obtain ⟨x, _, rfl⟩ := List.mem_map.1 hr
  rfl

/-- All that is known of an object in memory. -/
structure Full (w : World) (x : OB) : Prop where
  need : Cel w x.na x.nn (strs x.nd)
  syms : Rk w 5 x.sa x.sn (x.sy.map syC)
  rels : Rk w 4 x.ra x.rn (x.rl.map rlC)
  sc : x.sa = none → x.sc = 0
  rc : x.ra = none → x.rc = 0
  nn : x.nn ≤ 8796093022207
  sn : x.sn ≤ 3518437208781
  rn : x.rn ≤ 4398046511000
theorem Full.below' {w w' : World} {x : OB} (h : Full w x) (hb : Below w.heap.size w w') : Full w' x := ⟨h.need.below' hb, h.syms.below' hb, h.rels.below' hb, h.sc, h.rc, h.nn, h.sn, h.rn⟩
/-- The same but for where its lists lie. -/
structure Twin (x y : OB) : Prop where
  ino : y.ino = x.ino
  base : y.base = x.base
  typ : y.typ = x.typ
  entry : y.entry = x.entry
  phoff : y.phoff = x.phoff
  ga : y.ga = x.ga
  gn : y.gn = x.gn
  gc : y.gc = x.gc
  nd : y.nd = x.nd
  soname : y.soname = x.soname
  run : y.run = x.run
  sy : y.sy = x.sy
  rl : y.rl = x.rl
def dynV (x : OB) : Value := .agg #[.slice x.na x.nn x.nc, .string (ba x.soname), .string (ba x.run), .slice x.sa x.sn x.sc, .slice x.ra x.rn x.rc]
/-- Where an object's lists lie: from lo on, below hi. -/
def Lies (lo hi : Nat) (y : OB) : Prop := ∀ b, (y.na = some b ∨ y.sa = some b ∨ y.ra = some b) → lo ≤ b.block ∧ b.block < hi
def CopyPost (w : World) (x : OB) (e : Ending) (w' : World) : Prop := ∃ y, e = .returned (dynV y) ∧ Full w' y ∧ Twin x y ∧ Lies w.heap.size w'.heap.size y ∧ Below w.heap.size w w'

theorem own_txt {w : World} {base : Nat} {v : Value} {ds : List BL} (h : OwnS w base v ds) : ∃ a c, v = .slice a ds.length c ∧ Cel w a ds.length (strs ds) := by
  obtain ⟨a, c, e, hc, _⟩ := own_cel h
  exact ⟨a, c, e, hc⟩

theorem copyTexts_any (a : Option Addr) (len cap : Nat) (ds : List BL) (w : World) (hB : Cel w a len (strs ds)) (hl : len ≤ 8796093022207) :
    Calls Try.prog 27 #[.slice a len cap] w (OwnPost w ds) := by
  obtain ⟨rfl, hat⟩ := cel_str hB
  have HAT := hid hat
  clear hB hat
  by_cases h0 : ds.length = 0
  · have hnil := List.length_eq_zero_iff.1 h0
    have HN := hid hnil
    have hb0 : ((ds.length : Int) == 0) = true := by rw [beq_iff_eq]; omega
    clear h0 hnil
    go_enter Try.func27, Try.ntmps27
    go_wp2_with fail
    go_ret
    exact ⟨_, rfl, by rw [HN.out]; exact ownS_nil _ _, Below.refl _ _⟩
  · have hb0 : ((ds.length : Int) == 0) = false := by rw [beq_eq_false_iff_ne]; omega
    have hpos0 : 0 < ds.length := by omega
    obtain ⟨bb, off, rfl, hcell⟩ := HAT.out hpos0
    have HCELL := hid hcell
    clear hcell h0
    go_enter Try.func27, Try.ntmps27
    go_wp2_with (at_make; refine wpList_make_row _ rfl _ _ 28 rfl 9 (.string ByteArray.empty) 16 Try.underlying28 infoS rfl .i64 .i64 _ _ ds.length rfl rfl (by omega) (by omega) (by omega) (by omega) ?_; intro w1 hr1 hb1 hs1)
    have hfz := fillD_full (strs ds) (.string ByteArray.empty)
    rw [strsS_len] at hfz
    rw [← hfz] at hr1
    clear hfz
    go_loopw [4] (fun i wr => ∃ k : Nat, k ≤ ds.length ∧ i = .int .i64 ((k : Int) - 1) ∧ Row wr w.heap.size 9 (fillD (strs ds) (.string ByteArray.empty) k) ∧ Below w.heap.size w wr) (fun i _ => (intOf i + 1).toNat)
    case atStart => exact ⟨ds.length, Nat.le_refl _, rfl, hr1, hb1⟩
    case round =>
      obtain ⟨k, hk, rfl, hr, hb⟩ := hrel
      rcases Nat.eq_zero_or_pos k with rfl | hpos
      · go_wp2
        go_ret
        rw [fillD_zero] at hr
        have ho := hr.owns (base := w.heap.size) (n := ds.length) (cap := ds.length) (Nat.le_refl _) (strsS_len ds) (Nat.le_refl _) (by unfold maxLen; omega)
        exact ⟨_, rfl, own_ext ho rfl (by rw [List.take_of_length_le (by rw [strsS_len]; exact Nat.le_refl _)]), hb⟩
      · obtain ⟨j, rfl⟩ : ∃ j, k = j + 1 := ⟨k - 1, by omega⟩
        have hj : j < ds.length := by omega
        have hx' := keepC hb (HCELL.out j hj)
        have hfr := hr.frozen j
        have hc := hr.cell j (by rw [fillD_len _ _ _ (by rw [strsS_len]; omega), strsS_len]; exact hj)
        go_wp2
        go_roundw
        case rel => exact ⟨j, by omega, by go_num, hr.fillD (by rw [strsS_len]; exact hj) (by simp [strs]), hb.setCell (Nat.le_refl _) _⟩
        case measure => simp [intOf]

end Go.Proofs.Ytblefgkhikfmhaa
