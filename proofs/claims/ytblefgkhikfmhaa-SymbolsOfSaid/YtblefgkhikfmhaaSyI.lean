/- SymbolsOne: the walk. -/
import Derived.Test.YtblefgkhikfmhaaSyH
namespace Go.Proofs.Ytblefgkhikfmhaa
open Go.RowKit Go.Sort Go.Shelf
attribute [local go_sem] Oper.semAt_some

abbrev OwnU (w : World) (base : Nat) (v : Value) (ds : List Int) : Prop := w.ownsRow base 38 1 v ds.length (ds.map (Value.int .u64))
theorem infoU64 : (Try.prog.info? 38).map (fun i => (i.zero, i.size, i.bytes)) = some (some (.int .u64 0), 1, 8) := by kernel_rfl
/-- append(v, x), x a number that lies in a new block of its own. -/
theorem wpList_appU {w : World} {ops : Array Oper} {rest : List Oper} {o : Oper} {a : Act} {Q : Exit → Act → World → Prop} (hgd : o.guard = none) (s x : Operand)
    (ho : o.op = .call { callee := .builtin .append, args := #[s, x], argTypes := #[50, 50] })
    (base : Nat) (v : Value) (ds : List Int) (t : Int) (hs : a.eval s = v) (hx : a.eval x = .slice (some ⟨w.heap.size, 0, none⟩) 1 1) (hown : OwnU w base v ds) (hn : ds.length ≤ 8000000000000) (hbase : base ≤ w.heap.size)
    (h : ∀ v' w', w'.ownsRow base 38 1 v' (ds.length + 1) ((ds ++ [t]).map (Value.int .u64)) → (w.alloc (.cells #[.int .u64 t] 38)).grownBy w' v.ownBlock → Below base w w' → w.heap.size ≤ w'.heap.size → (v'.ownBlock = v.ownBlock ∨ v'.ownBlock = some (w.heap.size + 1)) → wpList Try.prog ops Q rest (a.put o.dst v') w') :
    wpList Try.prog ops Q (o :: rest) a (w.alloc (.cells #[.int .u64 t] 38)) := by
  obtain ⟨i0, hi, hz0, hz1, hz2⟩ := info_parts infoU64
  refine wpList_append_own_at _ hgd s x 50 ho base 38 i0 (.int .u64 0) 1 8 Try.underlying50 hi hz0 hz1 hz2 rfl (by decide) v ds.length (ds.map (Value.int .u64)) hs (hown.alloc _) ⟨w.heap.size, 0, none⟩ 1 1 [.int .u64 t] hx rfl (news_one w (.int .u64 t) 38) (by intro u hu; rw [List.mem_singleton.1 hu]; rfl)
    (by unfold maxLen; omega) (by omega) (by simp only [World.size_alloc]; omega) ?_
  intro v' w' hown' hgrow _ hat
  refine h v' w' (own_ext hown' rfl (by simp)) hgrow (((Below.refl _ w).alloc hbase _).grown hgrow (by simp only [World.size_alloc]; omega) (fun k hk => own_low hown (Nat.le_refl _) k hk)) (by have := hgrow.size; simp only [World.size_alloc] at this; omega) ?_
  rcases hat with h1 | h1
  · exact .inl h1
  · right; rw [h1]; simp

theorem own_apart {w : World} {b1 b2 e1 e2 n1 n2 : Nat} {v1 v2 : Value} {x1 x2 : List Value} (h1 : w.ownsRow b1 e1 1 v1 n1 x1) (h2 : w.ownsRow b2 e2 1 v2 n2 x2) (he : e1 ≠ e2) : v1.ownBlock = none ∨ v1.ownBlock ≠ v2.ownBlock := by
  rcases h1.2 with ⟨rfl, _⟩ | ⟨g, cap, cur, rfl, _, hg, _⟩
  · exact .inl rfl
  · right
    rcases h2.2 with ⟨rfl, _⟩ | ⟨g2, cap2, cur2, rfl, _, hg2, _⟩
    · intro e; cases e
    · intro e
      cases e
      rw [hg] at hg2
      cases hg2
      exact he rfl
theorem _root_.Go.World.ownsRow.cel {w : World} {base n : Nat} {E : TypeId} {a : Option Addr} {m c : Nat} {cs : List Value} (h : w.ownsRow base E 1 (.slice a m c) n cs) : Cel w a m cs := by
  obtain ⟨a', c', e, hc, _⟩ := own_cel h
  cases e
  exact hc
theorem own_nums_at {w : World} {base n : Nat} {E : TypeId} {a : Option Addr} {m c : Nat} {l : List Int} (h : w.ownsRow base E 1 (.slice a m c) n (l.map (Value.int .u64))) (hp : 0 < l.length) : ∃ b off, a = some ⟨b, off, none⟩ ∧ ∀ i (hi : i < l.length), w.cell? ⟨b, off + i, none⟩ = some (.int .u64 l[i]) := by
  obtain ⟨b, off, e, hc⟩ := h.cel.some_of (by simpa using hp)
  refine ⟨b, off, e, fun i hi => ?_⟩
  have := hc i (by simpa using hi)
  simpa using this

def refV (os : List OS) (n : BL) : Int := match lookL os n with
  | some d => valL os d.1.1 d.1.2
  | none => 0
theorem of_loc {os : List OS} {i k : Int} {s : SY} (h : findL os i k = some s) (h1 : s.bind = 0) (h2 : s.dfn = true) : ofL os i k = (valL os i k, 0) := by
  unfold ofL; rw [h]; simp [h1, h2]
theorem of_oth {os : List OS} {i k : Int} {s : SY} (h : findL os i k = some s) (h1 : ¬ (s.bind = 0 ∧ s.dfn = true)) : ofL os i k = (refV os s.name, 0) ∨ (s.bind ≠ 2 ∧ ofL os i k = (0, 21)) := by
  unfold ofL refV
  rw [h]
  simp only [if_neg h1]
  cases lookL os s.name with
  | some d => exact .inl rfl
  | none =>
    by_cases h2 : s.bind = 2
    · left; simp [h2]
    · right; exact ⟨h2, by simp [h2]⟩

set_option maxRecDepth 100000 in
set_option maxHeartbeats 8000000 in
theorem symbolsOne_walk (a : Option Addr) (len cap : Nat) (xs : List OB) (w : World) (hO : Objs w a len xs) (hl : len ≤ 1000000000000) (hsn : ∀ x ∈ xs, x.sn ≤ 4000000000000) (hnm : ∀ x ∈ xs, ∀ s ∈ x.sy, s.name.length ≤ 140737488351232) :
    Calls Try.prog 7 #[.slice a len cap] w fun e' w' => e' = .returned (.bool true) ∧ Below w.heap.size w w' := by
  have HO := hid hO
  have hlen := hO.hlen
  have hol : (osL xs).length = len := by rw [← hlen]; simp [osL]
  have HSN := hid hsn
  have hL := hid (large_any a len cap xs w hO hl hsn hnm)
  clear hO hsn hnm
  go_enter Try.func7, Try.ntmps7
  go_wp2_with fail
  refine (hL.out).mono ?_
  rintro e' w' ⟨b, rfl, hw, hb⟩
  obtain rfl := hw.symm
  clear hL hw
  cases b
  · obtain ⟨hb1, hb2⟩ := hb rfl
    have HB2 := hid hb2
    clear hb hb2
    go_wp2_with fail
    go_loopw [3, 4, 5] (fun nv vv i wr => ∃ k : Nat, ∃ ns : List BL, k ≤ len ∧ i = .int .i64 k ∧ OwnS wr w.heap.size nv ns ∧ OwnU wr w.heap.size vv (ns.map (refV (osL xs))) ∧ ns.length ≤ k * 300 ∧ Below w.heap.size w wr) (fun _ _ i _ => len - (intOf i).toNat)
    case atStart => exact ⟨0, [], Nat.zero_le _, rfl, ownS_nil _ _, World.ownsRow_nil _ _ _ _, by simp, Below.refl _ _⟩
    case round =>
      obtain ⟨k, ns, hk, rfl, hn, hv, hnl, hb⟩ := hrel
      have HN := hid hn
      have HV := hid hv
      have HB := hid hb
      clear hn hv hb
      by_cases hlt : k < len
      · have d1 : decide ((k : Int) < (len : Int)) = true := by simp; omega
        have hkx : k < xs.length := by rw [hlen]; exact hlt
        have HOS := hid (show (osL xs)[k]'(by rw [hol]; exact hlt) = toOS xs[k] by simp [osL])
        have hs3 := HB2.out _ (List.getElem_mem hkx)
        have HSL := hid (HO.out.sn (List.getElem_mem hkx))
        have HFL := hid (fun q => show findL (osL xs) (k : Int) (q : Nat) = xs[k].sy[q]? by rw [findL_at (by rw [hol]; exact hlt), HOS.out]; rfl)
        have HVL := hid (fun (q : Nat) s (h : xs[k].sy[q]? = some s) => show valL (osL xs) (k : Int) (q : Int) = addU xs[k].base s.value by
          unfold valL; rw [HFL.out q, h]; simp [osL, toOS, hkx])
        have HCE := hid (fun wz (hz : Below w.heap.size w wz) => (HO.out.below' hz).cells hkx)
        have HSY := hid (fun wz (hz : Below w.heap.size w wz) => (HO.out.below' hz).syms _ (List.getElem_mem hkx))
        generalize xs[k] = x at *
        go_wp2_with fail
        go_loopw [3, 4, 6] (fun nv vv i wr => ∃ q : Nat, ∃ ns : List BL, q ≤ x.sn ∧ i = .int .i64 q ∧ OwnS wr w.heap.size nv ns ∧ OwnU wr w.heap.size vv (ns.map (refV (osL xs))) ∧ ns.length ≤ k * 300 + q ∧ Below w.heap.size w wr) (fun _ _ i _ => x.sn - (intOf i).toNat)
        case atStart => exact ⟨0, ns, Nat.zero_le _, rfl, HN.out, HV.out, by omega, HB.out⟩
        case round =>
          clear HN HV HB
          rename World => wr
          clear hnl
          clear ns
          obtain ⟨q, ns, hq, rfl, hn, hv, hnl, hb⟩ := hrel
          have HN := hid hn
          have HV := hid hv
          have HB := hid hb
          obtain ⟨bo, oo, rfl, ⟨_, x1, _⟩, x6, x7, x8, x9, x10⟩ := HCE.out _ hb
          replace x9 : wr.cell? ⟨bo, oo + k * 11 + 6 + 3, none⟩ = _ := x9
          clear x6 x7 x8 x10
          have hbo := World.block_lt_of_cell? wr _ x9
          dsimp only at hbo
          obtain ⟨an, cn, rfl, _⟩ := own_cel hn
          obtain ⟨av, cv, e9, _⟩ := own_cel hv
          rw [List.length_map] at e9
          subst e9
          clear hn hv
          by_cases hqt : q < x.sn
          · have d2 : decide ((q : Int) < (x.sn : Int)) = true := by simp; omega
            have hql : q < x.sy.length := by rw [HSL.out]; exact hqt
            obtain ⟨bs, os, es, y0, y1, y2, y3, y4⟩ := sy_cells (HSY.out _ hb) hql
            have hbs := World.block_lt_of_cell? wr _ y0
            dsimp only at hbs
            have hxq : x.sy[q]? = some x.sy[q] := List.getElem?_eq_getElem hql
            have HF := hid ((HFL.out q).trans hxq)
            have HVV := hid (HVL.out q _ hxq)
            generalize x.sy[q] = s at *
            clear hxq hql hb
            obtain ⟨nm, vl, sz, bd, df⟩ := s
            dsimp only at y0 y1 y2 y3 y4
            rw [es] at x9
            have HBA := hid (HB.out.alloc HB.out.size (.cells #[.string (ba nm), .int .u64 vl, .int .u64 sz, .int .u8 bd, .bool df] 48))
            have HOW := hid (HO.out.below' HBA.out)
            have HRW := hid (Row.new wr 48 [.string (ba nm), .int .u64 vl, .int .u64 sz, .int .u8 bd, .bool df])
            have HNA := hid (HN.out.alloc (.cells #[.string (ba nm), .int .u64 vl, .int .u64 sz, .int .u8 bd, .bool df] 48))
            have HVA := hid (HV.out.alloc (.cells #[.string (ba nm), .int .u64 vl, .int .u64 sz, .int .u8 bd, .bool df] 48))
            have HXA := hid (keepC (bal (.cells #[.string (ba nm), .int .u64 vl, .int .u64 sz, .int .u8 bd, .bool df] 48)) x1)
            go_wp2_with fail
            refine (of_any _ len cap xs (k : Int) (q : Int) _ HOW.out hl HSN.out).mono ?_
            rintro e' w3 ⟨rfl, hb⟩
            have HB3 := hid (HBA.out.trans (hb.mono HBA.out.size))
            have HN3 := hid (own_below HNA.out hb)
            have HV3 := hid (own_below HVA.out hb)
            have hr3 := HRW.out.below hb (by simp)
            have s0 := hr3.cell 0 (by simp)
            have s1 := hr3.cell 1 (by simp)
            have s3 := hr3.cell 3 (by simp)
            have s4 := hr3.cell 4 (by simp)
            simp only [List.getElem_cons_zero, List.getElem_cons_succ] at s0 s1 s3 s4
            have hl3 := hr3.lt
            have x3 := keepC hb HXA.out
            have hbo3 := World.block_lt_of_cell? w3 _ x3
            dsimp only at hbo3
            clear hb hr3 y0 y1 y2 y3 y4 x1 x9 hbs hbo HBA HOW HRW HNA HVA HXA HN HV
            clear HB
            by_cases hA : bd = 0 ∧ df = true
            · obtain ⟨rfl, rfl⟩ := hA
              rw [of_loc HF.out rfl rfl, HVV.out]
              simp only [ofV, addU]
              go_wp2_with fail
              go_quiet (fail)
              go_wp2_with fail
              go_roundw
              case rel => exact ⟨q + 1, ns, by omega, by go_num, own_below HN3.out (drewN_below _ _), own_below HV3.out (drewN_below _ _), by omega, bdN HB3.out _⟩
              case measure => simp [intOf]; omega
            · rcases of_oth HF.out hA with hof | ⟨hb2, hof⟩
              · rw [hof]
                clear hof
                simp only [ofV]
                by_cases hb0 : bd = 0
                · subst hb0
                  cases df
                  · clear hA
                    go_wp2_with fail
                    go_loopw [10] (fun i w4 => ∃ p : Nat, p ≤ ns.length ∧ i = .int .i64 p ∧ Below w3.heap.size w3 w4) (fun i _ => ns.length - (intOf i).toNat)
                    case atStart => exact ⟨0, Nat.zero_le _, rfl, Below.refl _ _⟩
                    case round =>
                      rename World => w4
                      obtain ⟨p, hp, rfl, hb⟩ := hrel
                      have HB4 := hid hb
                      have hs0 := keepC hb s0
                      have hbl4 := World.block_lt_of_cell? w4 _ hs0
                      dsimp only at hbl4
                      clear hb
                      by_cases hpl : p < ns.length
                      · have d4 : decide ((p : Int) < (ns.length : Int)) = true := by simp; omega
                        obtain ⟨_, hat⟩ := cel_str ((own_below HN3.out HB4.out).cel)
                        obtain ⟨bn, on, rfl, hcn⟩ := hat (by omega)
                        have hn4 := hcn p hpl
                        have hbn4 := World.block_lt_of_cell? w4 _ hn4
                        dsimp only at hbn4
                        obtain ⟨bv, ov, rfl, hcv⟩ := (own_nums_at (own_below HV3.out HB4.out)) (by rw [List.length_map]; omega)
                        have hv4 := hcv p (by rw [List.length_map]; exact hpl)
                        have hbv4 := World.block_lt_of_cell? w4 _ hv4
                        dsimp only at hbv4
                        rw [List.getElem_map] at hv4
                        have hqb := ba_beq2 ns[p] nm
                        clear hat hcn hcv
                        by_cases hkn : ns[p] = nm
                        · rw [decide_eq_true hkn] at hqb
                          rw [hkn] at hv4
                          clear hkn
                          have HX := hid HB4.out
                          go_wp2_with fail
                          go_quiet (fail)
                          go_wp2_with fail
                          go_roundw
                          case rel => exact ⟨p + 1, by omega, by go_num, bdN HX.out _⟩
                          case measure => simp [intOf]; omega
                        · rw [decide_eq_false hkn] at hqb
                          clear hkn
                          have HX := hid HB4.out
                          go_wp2_with fail
                          go_quiet (fail)
                          go_wp2_with fail
                          go_roundw
                          case rel => exact ⟨p + 1, by omega, by go_num, bdN HX.out _⟩
                          case measure => simp [intOf]; omega
                      · have d4 : decide ((p : Int) < (ns.length : Int)) = false := by simp; omega
                        have HN4 := hid (own_below HN3.out HB4.out)
                        have HV4 := hid (own_below HV3.out HB4.out)
                        have hz4 : w.heap.size ≤ w4.heap.size := Nat.le_trans HB3.out.size HB4.out.size
                        have HBW4 := hid (bthen HB3.out HB4.out)
                        have HNE := hid (show (38 : Nat) ≠ 9 by decide)
                        have HNE2 := hid (show (9 : Nat) ≠ 38 by decide)
                        have HNL := hid (show ns.length ≤ 8000000000000 by omega)
                        have HNL2 := hid (show (ns.map (refV (osL xs))).length ≤ 8000000000000 by rw [List.length_map]; omega)
                        go_wp2_with (at_builtin; (first
                          | (refine wpList_appS rfl _ _ rfl w.heap.size (.slice an ns.length cn) ns (ba nm) rfl rfl HN4.out HNL.out hz4 ?_; intro v' w9 hown hgrow hb9 hz9 _; have HN9 := hid (show OwnS w9 w.heap.size v' (ns ++ [nm]) from ownS_of hown rfl); have HV9 := hid ((HV4.out.alloc (.cells #[.string (ba nm)] 9)).kept hgrow (own_apart (HV4.out.alloc (.cells #[.string (ba nm)] 9)) (HN4.out.alloc (.cells #[.string (ba nm)] 9)) HNE.out)); have HB9 := hid (HBW4.out.trans hb9); have hz10 : w.heap.size ≤ w9.heap.size := Nat.le_trans hz4 hz9; clear hown hgrow hb9 hz9)
                          | (refine wpList_appU rfl _ _ rfl w.heap.size (.slice av ns.length cv) (ns.map (refV (osL xs))) (refV (osL xs) nm) rfl rfl HV9.out HNL2.out hz10 ?_; intro v'' w10 hown hgrow hb10 hz11 _; have HV10 := hid hown; have HN10 := hid ((HN9.out.alloc (.cells #[.int .u64 (refV (osL xs) nm)] 38)).kept hgrow (own_apart (HN9.out.alloc (.cells #[.int .u64 (refV (osL xs) nm)] 38)) (HV9.out.alloc (.cells #[.int .u64 (refV (osL xs) nm)] 38)) HNE2.out)); have HB10 := hid (HB9.out.trans hb10); clear hown hgrow hb10 hz11)))
                        go_roundw
                        case rel => exact ⟨q + 1, ns ++ [nm], by omega, by go_num, HN10.out, own_ext HV10.out (by simp) (by simp), by simp; omega, HB10.out⟩
                        case measure => simp [intOf]; omega
                  · exact absurd ⟨rfl, rfl⟩ hA
                · clear hA
                  have hb00 : (bd == 0) = false := by simpa using hb0
                  go_wp2_with fail
                  go_loopw [10] (fun i w4 => ∃ p : Nat, p ≤ ns.length ∧ i = .int .i64 p ∧ Below w3.heap.size w3 w4) (fun i _ => ns.length - (intOf i).toNat)
                  case atStart => exact ⟨0, Nat.zero_le _, rfl, Below.refl _ _⟩
                  case round =>
                    rename World => w4
                    obtain ⟨p, hp, rfl, hb⟩ := hrel
                    have HB4 := hid hb
                    have hs0 := keepC hb s0
                    have hbl4 := World.block_lt_of_cell? w4 _ hs0
                    dsimp only at hbl4
                    clear hb
                    by_cases hpl : p < ns.length
                    · have d4 : decide ((p : Int) < (ns.length : Int)) = true := by simp; omega
                      obtain ⟨_, hat⟩ := cel_str ((own_below HN3.out HB4.out).cel)
                      obtain ⟨bn, on, rfl, hcn⟩ := hat (by omega)
                      have hn4 := hcn p hpl
                      have hbn4 := World.block_lt_of_cell? w4 _ hn4
                      dsimp only at hbn4
                      obtain ⟨bv, ov, rfl, hcv⟩ := (own_nums_at (own_below HV3.out HB4.out)) (by rw [List.length_map]; omega)
                      have hv4 := hcv p (by rw [List.length_map]; exact hpl)
                      have hbv4 := World.block_lt_of_cell? w4 _ hv4
                      dsimp only at hbv4
                      rw [List.getElem_map] at hv4
                      have hqb := ba_beq2 ns[p] nm
                      clear hat hcn hcv
                      by_cases hkn : ns[p] = nm
                      · rw [decide_eq_true hkn] at hqb
                        rw [hkn] at hv4
                        clear hkn
                        have HX := hid HB4.out
                        go_wp2_with fail
                        go_quiet (fail)
                        go_wp2_with fail
                        go_roundw
                        case rel => exact ⟨p + 1, by omega, by go_num, bdN HX.out _⟩
                        case measure => simp [intOf]; omega
                      · rw [decide_eq_false hkn] at hqb
                        clear hkn
                        have HX := hid HB4.out
                        go_wp2_with fail
                        go_quiet (fail)
                        go_wp2_with fail
                        go_roundw
                        case rel => exact ⟨p + 1, by omega, by go_num, bdN HX.out _⟩
                        case measure => simp [intOf]; omega
                    · have d4 : decide ((p : Int) < (ns.length : Int)) = false := by simp; omega
                      have HN4 := hid (own_below HN3.out HB4.out)
                      have HV4 := hid (own_below HV3.out HB4.out)
                      have hz4 : w.heap.size ≤ w4.heap.size := Nat.le_trans HB3.out.size HB4.out.size
                      have HBW4 := hid (bthen HB3.out HB4.out)
                      have HNE := hid (show (38 : Nat) ≠ 9 by decide)
                      have HNE2 := hid (show (9 : Nat) ≠ 38 by decide)
                      have HNL := hid (show ns.length ≤ 8000000000000 by omega)
                      have HNL2 := hid (show (ns.map (refV (osL xs))).length ≤ 8000000000000 by rw [List.length_map]; omega)
                      go_wp2_with (at_builtin; (first
                        | (refine wpList_appS rfl _ _ rfl w.heap.size (.slice an ns.length cn) ns (ba nm) rfl rfl HN4.out HNL.out hz4 ?_; intro v' w9 hown hgrow hb9 hz9 _; have HN9 := hid (show OwnS w9 w.heap.size v' (ns ++ [nm]) from ownS_of hown rfl); have HV9 := hid ((HV4.out.alloc (.cells #[.string (ba nm)] 9)).kept hgrow (own_apart (HV4.out.alloc (.cells #[.string (ba nm)] 9)) (HN4.out.alloc (.cells #[.string (ba nm)] 9)) HNE.out)); have HB9 := hid (HBW4.out.trans hb9); have hz10 : w.heap.size ≤ w9.heap.size := Nat.le_trans hz4 hz9; clear hown hgrow hb9 hz9)
                        | (refine wpList_appU rfl _ _ rfl w.heap.size (.slice av ns.length cv) (ns.map (refV (osL xs))) (refV (osL xs) nm) rfl rfl HV9.out HNL2.out hz10 ?_; intro v'' w10 hown hgrow hb10 hz11 _; have HV10 := hid hown; have HN10 := hid ((HN9.out.alloc (.cells #[.int .u64 (refV (osL xs) nm)] 38)).kept hgrow (own_apart (HN9.out.alloc (.cells #[.int .u64 (refV (osL xs) nm)] 38)) (HV9.out.alloc (.cells #[.int .u64 (refV (osL xs) nm)] 38)) HNE2.out)); have HB10 := hid (HB9.out.trans hb10); clear hown hgrow hb10 hz11)))
                      go_roundw
                      case rel => exact ⟨q + 1, ns ++ [nm], by omega, by go_num, HN10.out, own_ext HV10.out (by simp) (by simp), by simp; omega, HB10.out⟩
                      case measure => simp [intOf]; omega
              · rw [hof]
                clear hof hA
                have hb22 : (bd == 2) = false := by simpa using hb2
                simp only [ofV]
                go_wp2_with fail
                go_roundw
                case rel => exact ⟨q + 1, ns, by omega, by go_num, HN3.out, HV3.out, by omega, HB3.out⟩
                case measure => simp [intOf]; omega
          · have d2 : decide ((q : Int) < (x.sn : Int)) = false := by simp; omega
            clear hb
            go_wp2_with fail
            go_roundw
            case rel => exact ⟨k + 1, ns, by omega, by go_num, HN.out, HV.out, by omega, HB.out⟩
            case measure => simp [intOf]; omega
      · have d1 : decide ((k : Int) < (len : Int)) = false := by simp; omega
        go_wp2_with fail
        refine (works_any _).mono ?_
        rintro e' w3 ⟨rfl, hb⟩
        have HB3 := hid (HB.out.trans (hb.mono HB.out.size))
        clear hb
        go_wp2_with fail
        go_ret
        exact ⟨rfl, HB3.out⟩
  · clear hb
    go_wp2_with fail
    refine (works_any _).mono ?_
    rintro e' w1 ⟨rfl, hb⟩
    have HB := hid hb
    clear hb
    go_wp2_with fail
    go_ret
    exact ⟨rfl, HB.out⟩
end Go.Proofs.Ytblefgkhikfmhaa
