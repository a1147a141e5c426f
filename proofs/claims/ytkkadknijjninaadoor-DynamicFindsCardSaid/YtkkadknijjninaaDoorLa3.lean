
/- elf.Loads, elf.Span; layout.lies, at. -/
import Derived.Test.YtkkadknijjninaaDoorLa2
import Derived.Test.YtkkadknijjninaaDoorKE
import Derived.Laws.AppendOwnNone
namespace Go.Proofs.YtkkadknijjninaaDoor
open Go.RowKit Go.Sort Go.Shelf
attribute [local go_sem] Oper.semAt_some

abbrev OwnK (w : World) (base : Nat) (E : TypeId) (k : Nat) (v : Value) (rows : List (List Value)) : Prop := w.ownsRow base E k v rows.length rows.flatten
/-- append(v, l...), l a slice of elements of k cells, any type; nothing old is touched but v's block. -/
theorem wpList_appKg {P : Program} {tS tE : TypeId} {k bytes : Nat} {z : Value} (hund : P.underlying tS = some (.slice tE)) (hinfo : (P.info? tE).map (fun i => (i.zero, i.size, i.bytes)) = some (some z, k, bytes)) (hzc : z.cells.size = k) (hkp : 0 < k)
    {w : World} {ops : Array Oper} {rest : List Oper} {o : Oper} {a : Act} {Q : Exit → Act → World → Prop} (hgd : o.guard = none) (s x : Operand)
    (ho : o.op = .call { callee := .builtin .append, args := #[s, x], argTypes := #[tS, tS] })
    (base : Nat) (v : Value) (rows news : List (List Value)) (hs : a.eval s = v) (ad : Option Addr) (m c : Nat) (hx : a.eval x = .slice ad m c) (hown : OwnK w base tE k v rows) (hy : Rk w k ad m news) (hone : ∀ r ∈ news, ∀ u ∈ r, u.oneCell' = true) (hc : ad = none → c = 0) (hn : (rows.length + m) * bytes ≤ 140737488355328) (hm : rows.length + m ≤ maxLen) (hbase : base ≤ w.heap.size)
    (h : ∀ v' w', OwnK w' base tE k v' (rows ++ news) → w.grownBy w' v.ownBlock → Below base w w' → wpList P ops Q rest (a.put o.dst v') w') :
    wpList P ops Q (o :: rest) a w := by
  have hm' : news.length = m := hy.hlen
  obtain ⟨i0, hi0, hz0, hz1, hz2⟩ := info_parts hinfo
  cases ad with
  | none =>
    obtain rfl : news = [] := by
      cases news with
      | nil => rfl
      | cons x l => obtain ⟨_, _, h, _⟩ := hy.some_of (by simp); cases h
    obtain rfl := hc rfl
    obtain rfl : m = 0 := hm'.symm
    refine wpList_append_own_none hgd s x _ ho base _ i0 k hund hi0 v rows.length _ hs hown hx ?_
    exact h v w (by rw [List.append_nil]; exact hown) (World.grownBy.refl w _) (Below.refl _ _)
  | some ad =>
    have hk : ∀ r ∈ news, r.length = k := fun r hr => by
      obtain ⟨i, hi, rfl⟩ := List.getElem_of_mem hr
      exact hy.klen hi
    refine wpList_append_own w hgd s x _ ho base _ i0 _ k bytes hund hi0 hz0 hz1 hz2 hzc hkp v rows.length _ hs hown ad m c news.flatten hx (by rw [flat_len hk, hm']) (hy.news hkp) (rk_one hone) hm hn hbase ?_
    intro v' w' h1 h2 _
    refine h v' w' (own_ext h1 (by simp [hm']) (by simp)) h2 (((Below.refl _ w).grown h2 hbase (fun k hk => (hown.lt k hk).1)))

theorem infoSeg : (Tryd.prog.info? 52).map (fun i => (i.zero, i.size, i.bytes)) = some (some (.agg #[.int .u32 0, .int .u8 0, .int .u64 0, .int .u64 0, .int .u64 0, .int .u64 0]), 6, 40) := by kernel_rfl
theorem sgC_one (l : List SG) : ∀ r ∈ l.map sgC, ∀ u ∈ r, u.oneCell' = true := by
  intro r hr u hu
  obtain ⟨x, _, rfl⟩ := List.mem_map.1 hr
  simp only [sgC, List.mem_cons, List.not_mem_nil, or_false] at hu
  rcases hu with rfl | rfl | rfl | rfl | rfl | rfl <;> rfl
theorem sgC_len (l : List SG) : ∀ r ∈ l.map sgC, r.length = 6 := by
  intro r hr
  obtain ⟨x, _, rfl⟩ := List.mem_map.1 hr
  rfl
theorem row_rk {w : World} {g k : Nat} {E : TypeId} {r : List Value} (h : Row w g E r) (hk : r.length = k) : Rk w k (some ⟨g, 0, none⟩) 1 [r] :=
  ⟨rfl, fun i hi => by
    obtain rfl : i = 0 := by simpa using hi
    refine ⟨hk, g, 0, rfl, fun j hj => ?_⟩
    have := h.cell j hj
    simpa using this⟩
abbrev OwnG (w : World) (base : Nat) (v : Value) (l : List SG) : Prop := OwnK w base 52 6 v (l.map sgC)
theorem ownG_nil (w : World) (base : Nat) : OwnG w base (.slice none 0 0) [] := ⟨rfl, .inl ⟨rfl, rfl⟩⟩
theorem ownG_open {w : World} {base : Nat} {v : Value} {l : List SG} (h : OwnG w base v l) : ∃ a c, v = .slice a l.length c ∧ Sgs w a l.length l ∧ (a = none → c = 0) := by
  obtain ⟨a, c, hv, hr, hn, _⟩ := own_rk h (sgC_len l) (by decide)
  rw [List.length_map] at hv hr
  exact ⟨a, c, hv, hr, hn⟩

set_option maxRecDepth 100000 in
set_option maxHeartbeats 4000000 in
theorem ofKind_any (typ entry phoff : Int) (a : Option Addr) (c : Nat) (sg : List SG) (w : World) (hS : Sgs w a sg.length sg) (hn : sg.length ≤ 1000000000) :
    Calls Tryd.prog 52 #[.agg #[.int .u16 typ, .int .u64 entry, .int .u64 phoff, .slice a sg.length c], .int .u32 1] w fun e w' => ∃ v, e = .returned v ∧ OwnG w' w.heap.size v (lds sg) ∧ Below w.heap.size w w' := by
  have HS := hid hS
  clear hS
  go_enter Tryd.func52, Tryd.ntmps52
  go_wp2_with fail
  go_loopw [5, 11] (fun v i wr => ∃ (k : Nat) (sv : Value), k ≤ sg.length ∧ sv = v ∧ i = .int .i64 k ∧ OwnG wr w.heap.size sv (lds (sg.take k)) ∧ Below w.heap.size w wr) (fun _ i _ => sg.length - (intOf i).toNat)
  case atStart => exact ⟨0, _, Nat.zero_le _, rfl, rfl, ownG_nil _ _, bal _⟩
  case round =>
    obtain ⟨k, v, hk, rfl, rfl, hown, hb⟩ := hrel
    have HO := hid hown
    have HB := hid hb
    clear hown hb
    by_cases hlt : k < sg.length
    · have d1 : decide ((k : Int) < (sg.length : Int)) = true := by simp; omega
      obtain ⟨b, off, rfl, x0, x1, x2, x3, x4, x5⟩ := (HS.out.below' HB.out).cells hlt
      have HT := hid (lds_take hlt)
      have HLL := hid (show (lds (sg.take k)).length ≤ sg.length by have := lds_len (sg.take k); rw [List.length_take] at this; omega)
      generalize sg[k] = s at *
      have HBB := hid (fun o => show Below w.heap.size w (wr.alloc o) from HB.out.alloc HB.out.size _)
      have HOB := hid (fun o => show OwnG (wr.alloc o) w.heap.size v (lds (sg.take k)) from HO.out.alloc _)
      by_cases hk1 : s.kind = 1
      · have d2 : (s.kind == 1) = true := by simp [hk1]
        rw [if_pos hk1] at HT
        have HOW := hid (fun o1 o2 => show OwnG ((wr.alloc o1).alloc o2) w.heap.size v (lds (sg.take k)) from (HOB.out o1).alloc o2)
        have HNR := hid (fun o => show Rk ((wr.alloc o).alloc (.cells #[.int .u32 s.kind, .int .u8 s.flags, .int .u64 s.off, .int .u64 s.addr, .int .u64 s.fsz, .int .u64 s.msz] 52)) 6 (some ⟨wr.heap.size + 1, 0, none⟩) 1 [sgC s] from by
          have := Row.new (wr.alloc o) 52 (sgC s)
          rw [World.size_alloc] at this
          exact row_rk this rfl)
        have HNB := hid (fun o1 o2 => (HBB.out o1).alloc (HBB.out o1).size o2)
        have HNZ := hid (fun o1 o2 => show w.heap.size ≤ ((wr.alloc o1).alloc o2).heap.size from (HNB.out o1 o2).size)
        have HONE := hid (sgC_one [s])
        have HN1 := hid (show (((lds (sg.take k)).map sgC).length + 1) * 40 ≤ 140737488355328 by rw [List.length_map]; have := HLL.out; omega)
        have HN2 := hid (show ((lds (sg.take k)).map sgC).length + 1 ≤ maxLen by rw [List.length_map]; have := HLL.out; unfold maxLen; omega)
        clear hk1
        go_wp2_with (at_builtin; go_must (refine wpList_appKg Tryd.underlying25 infoSeg rfl (by decide) rfl _ _ rfl w.heap.size v ((lds (sg.take k)).map sgC) [sgC s] rfl (some ⟨wr.heap.size + 1, 0, none⟩) 1 1 rfl (HOW.out _ _) (HNR.out _) HONE.out (fun h => by cases h) HN1.out HN2.out (HNZ.out _ _) ?_; intro v' w9 hown hgrow hb9; have HO9 := hid hown; have HB9 := hid ((HNB.out _ _).trans hb9); clear hown hgrow hb9))
        go_roundw
        case rel => exact ⟨k + 1, _, by omega, rfl, by go_num, by rw [HT.out]; exact own_ext HO9.out (by simp) (by simp), HB9.out⟩
        case measure => simp [intOf]; omega
      · have d2 : (s.kind == 1) = false := by simpa using hk1
        rw [if_neg hk1, List.append_nil] at HT
        clear hk1
        go_wp2_with fail
        go_roundw
        case rel => exact ⟨k + 1, _, by omega, rfl, by go_num, by rw [HT.out]; exact HOB.out _, HBB.out _⟩
        case measure => simp [intOf]; omega
    · have d1 : decide ((k : Int) < (sg.length : Int)) = false := by simp; omega
      obtain rfl : k = sg.length := by omega
      have HF := hid (show lds (sg.take sg.length) = lds sg by rw [List.take_length])
      go_wp2_with fail
      go_ret
      exact ⟨_, rfl, by rw [← HF.out]; exact HO.out, HB.out⟩

theorem loads12_any (typ entry phoff : Int) (a : Option Addr) (c : Nat) (sg : List SG) (w : World) (hS : Sgs w a sg.length sg) (hn : sg.length ≤ 1000000000) :
    Calls Tryd.prog 34 #[.agg #[.int .u16 typ, .int .u64 entry, .int .u64 phoff, .slice a sg.length c]] w fun e w' => ∃ v, e = .returned v ∧ OwnG w' w.heap.size v (lds sg) ∧ Below w.heap.size w w' := by
  have HK := hid (fun o => ofKind_any typ entry phoff a c sg (w.alloc o) (hS.below' (bal o)) hn)
  have HB := hid (@bal w)
  clear hS
  go_enter Tryd.func34, Tryd.ntmps34
  go_wp2_with fail
  refine (HK.out _).mono ?_
  rintro e' w1 ⟨v, rfl, ho, hb⟩
  have HO := hid ho
  have HB1 := hid (bthen (HB.out _) hb)
  clear ho hb
  go_wp2_with fail
  go_ret
  exact ⟨v, rfl, own_from HO.out (by simp), HB1.out⟩

theorem low_at {l : List SG} (h : 0 < l.length) : lowS l = dn l[0].addr := by
  cases l with
  | nil => simp at h
  | cons s r => rfl
theorem high_at {l : List SG} {q : Nat} (h : q + 1 = l.length) : highS l = upI (l[q].addr + l[q].msz) := by
  unfold highS
  have e : l.getLast? = some l[q] := by
    rw [List.getLast?_eq_getElem?, show l.length - 1 = q by omega, List.getElem?_eq_getElem (by omega)]
  rw [e]
  rfl

end Go.Proofs.YtkkadknijjninaaDoor
