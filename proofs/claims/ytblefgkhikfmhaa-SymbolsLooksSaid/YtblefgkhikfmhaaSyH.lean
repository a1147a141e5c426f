/- SymbolsAll: the walk. -/
import Derived.Test.YtblefgkhikfmhaaSyF
import Derived.Test.YtblefgkhikfmhaaSyG
import Derived.Deep.QuietTactic
import Derived.BigQuiet
namespace Go.Proofs.Ytblefgkhikfmhaa
open Go.RowKit Go.Sort Go.Shelf
attribute [local go_sem] Oper.semAt_some

theorem cel_str {w : World} {a : Option Addr} {len : Nat} {ds : List BL} (h : Cel w a len (strs ds)) : ds.length = len ∧ (0 < ds.length → ∃ b off, a = some ⟨b, off, none⟩ ∧ ∀ i (hi : i < ds.length), w.cell? ⟨b, off + i, none⟩ = some (.string (ba ds[i]))) := by
  refine ⟨by simpa [strs] using h.hlen, fun hp => ?_⟩
  obtain ⟨b, off, e, hc⟩ := h.some_of (by simpa [strs] using hp)
  exact ⟨b, off, e, fun i hi => strs_at hc hi⟩

theorem look_mem {os : List OS} {n : BL} {d : DF} (h : lookL os n = some d) : d ∈ defsL os ∧ d.2.name = n := by
  unfold lookL at h
  exact ⟨List.mem_of_find?_eq_some h, by simpa using List.find?_some h⟩
theorem look_iff (os : List OS) (n : BL) : (lookL os n).isSome = decide (n ∈ allL os) := by
  rw [Bool.eq_iff_iff, decide_eq_true_eq]
  unfold allL lookL
  rw [mem_allOf, List.find?_isSome]
  simp
theorem look_told {os : List OS} {n : BL} (h : n ∈ allL os) : ∃ d, lookL os n = some d := by
  have := look_iff os n
  rw [decide_eq_true h] at this
  exact Option.isSome_iff_exists.1 this
theorem look_not {os : List OS} {n : BL} (h : n ∉ allL os) : lookL os n = none := by
  have := look_iff os n
  rw [decide_eq_false h] at this
  simpa using this

theorem defs_len {xs : List OB} {len : Nat} (h1 : xs.length = len) (h2 : len ≤ 300) (h3 : ∀ x ∈ xs, x.sn ≤ 300) (h4 : ∀ x ∈ xs, x.sy.length = x.sn) : (defsL (osL xs)).length ≤ 1000000000 := by
  have hk : ∀ k, k ≤ xs.length → (defsAt (osL xs) k).length ≤ k * 300 := by
    intro k
    induction k with
    | zero => intro _; simp [defsAt_zero]
    | succ k ih =>
      intro hk
      have hk' : k < (osL xs).length := by simp [osL]; omega
      rw [defsAt_succ _ hk', List.length_append]
      have e : (osL xs)[k] = toOS xs[k] := by simp [osL]
      have h5 : (defsOne k (osL xs)[k].sy).length ≤ 300 := by
        rw [e]
        show (defsOne k xs[k].sy).length ≤ 300
        have h6 := h3 _ (List.getElem_mem (n := k) (by omega))
        have h7 := h4 _ (List.getElem_mem (n := k) (by omega))
        have h8 : (defsOne k xs[k].sy).length ≤ xs[k].sy.length := by
          unfold defsOne
          rw [List.length_map]
          have := List.length_filter_le (fun j => (xs[k].sy.getD j default).is) (List.range xs[k].sy.length)
          rwa [List.length_range] at this
        omega
      have := ih (by omega)
      omega
  have h9 := hk xs.length (Nat.le_refl _)
  have h10 : defsAt (osL xs) xs.length = defsL (osL xs) := by
    have := defsAt_full (osL xs)
    rwa [show (osL xs).length = xs.length by simp [osL]] at this
  rw [h10] at h9
  omega

theorem take_in {ns : List BL} {k : Nat} (hk : k < ns.length) (n : BL) : decide (n ∈ ns.take (k + 1)) = (decide (n ∈ ns.take k) || decide (ns[k] = n)) := by
  rw [Bool.eq_iff_iff, Bool.or_eq_true, decide_eq_true_eq, decide_eq_true_eq, decide_eq_true_eq, List.take_add_one, List.mem_append, List.getElem?_eq_getElem hk]
  simp [eq_comm]

set_option maxRecDepth 100000 in
set_option maxHeartbeats 4000000 in
theorem symbolsAll_walk (a : Option Addr) (len cap : Nat) (xs : List OB) (nm : BL) (w : World) (hO : Objs w a len xs) (hl : len ≤ 1000000000000) (hsn : ∀ x ∈ xs, x.sn ≤ 4000000000000) (hnm : ∀ x ∈ xs, ∀ s ∈ x.sy, s.name.length ≤ 140737488351232) (hn : nm.length ≤ 140737488351232) :
    Calls Try.prog 5 #[.slice a len cap, .string (ba nm)] w fun e' w' => e' = .returned (.bool true) ∧ Below w.heap.size w w' := by
  have HO := hid hO
  have hlen := hO.hlen
  have HSN := hid hsn
  have HNM := hid hnm
  have hz : (ba nm).size ≤ 140737488351232 := by rw [ba_size]; exact hn
  have HZ := hid hz
  have hL := hid (large_any a len cap xs w hO hl hsn hnm)
  clear hO hsn hnm hn
  go_enter Try.func5, Try.ntmps5
  go_wp2_with fail
  refine (hL.out).mono ?_
  rintro e' w' ⟨b, rfl, rfl, hb⟩
  clear hL
  cases b
  · obtain ⟨hb1, hb2⟩ := hb rfl
    have HD := hid (defs_len hlen hb1 hb2 (fun x hx => HO.out.sn hx))
    clear hb hb2
    by_cases hbig : 65536 < (ba nm).size
    · have d1 : decide ((65536 : Int) < ((ba nm).size : Int)) = true := by simp; omega
      go_wp2_with fail
      refine (works_any _).mono ?_
      rintro e' w1 ⟨rfl, hb⟩
      have HB := hid hb
      clear hb
      go_wp2_with fail
      go_ret
      exact ⟨rfl, HB.out⟩
    · have d1 : decide ((65536 : Int) < ((ba nm).size : Int)) = false := by simp; omega
      clear hbig
      go_wp2_with fail
      refine (all_any a len cap xs _ HO.out hl HSN.out HD.out HNM.out).mono ?_
      rintro e' w1 ⟨v, rfl, hown, hb⟩
      have HB1 := hid hb
      obtain ⟨a9, c9, rfl, hcel, _⟩ := own_cel hown
      have HC := hid hcel
      have HND := hid (show (allL (osL xs)).Nodup from allOf_nodup _)
      have HLK := hid (fun n (h : n ∈ allL (osL xs)) => look_told h)
      have HNL := hid (show (allL (osL xs)).length ≤ 1000000000 from Nat.le_trans (allOf_len _) HD.out)
      have HEND := hid (look_iff (osL xs) nm)
      generalize allL (osL xs) = ns at *
      have hnlb := HNL.out
      clear hb hown hcel
      go_wp2_with fail
      go_loopw [6, 7] (fun t i wr => ∃ k : Nat, k ≤ ns.length ∧ i = .int .i64 k ∧ t = .bool (decide (nm ∈ ns.take k)) ∧ Below w1.heap.size w1 wr) (fun _ i _ => ns.length - (intOf i).toNat)
      case atStart => exact ⟨0, Nat.zero_le _, rfl, by simp, Below.refl _ _⟩
      case round =>
        obtain ⟨k, hk, rfl, rfl, hb⟩ := hrel
        have HB := hid hb
        have HBW := hid (bthen HB1.out hb)
        clear hb
        by_cases hlt : k < ns.length
        · have d2 : decide ((k : Int) < (ns.length : Int)) = true := by simp; omega
          obtain ⟨_, hat⟩ := cel_str HC.out
          obtain ⟨b, off, rfl, hc⟩ := hat (by omega)
          have HCC := hid hc
          have hck := keepC HB.out (hc k hlt)
          have hbk := World.block_lt_of_cell? wr _ hck
          dsimp only at hbk
          have HOW := hid (HO.out.below' HBW.out)
          obtain ⟨d, hd⟩ := HLK.out ns[k] (List.getElem_mem hlt)
          have HLD := hid hd
          clear hat hc hd
          go_wp2_with fail
          refine (lookup_any a len cap xs (ba ns[k]) _ HOW.out hl HSN.out).mono ?_
          rintro e' w2 ⟨rfl, hb⟩
          have HB2 := hid (HB.out.trans (hb.mono HB.out.size))
          have HBW2 := hid (bthen HB1.out HB2.out)
          clear hb
          rw [show (ba ns[k]).data.toList = ns[k] from rfl, HLD.out]
          obtain ⟨hdm, hdn⟩ := look_mem HLD.out
          obtain ⟨hi, hj, hs, his⟩ := mem_defsL hdm
          have hi' : d.1.1 < xs.length := by simpa [osL] using hi
          have e9 : (osL xs)[d.1.1] = toOS xs[d.1.1] := by simp [osL]
          obtain ⟨bo, oo, rfl, _, x6, x7, x8, x9, x10⟩ := (HO.out.below' HBW2.out).cells hi'
          replace x9 : w2.cell? ⟨bo, oo + d.1.1 * 11 + 6 + 3, none⟩ = _ := x9
          have hbo := World.block_lt_of_cell? w2 _ x9
          dsimp only at hbo
          have hsl := HO.out.sn (List.getElem_mem hi')
          have hsy := ((HO.out.below' HBW2.out).syms _ (List.getElem_mem hi'))
          have hj' : d.1.2 < xs[d.1.1].sy.length := by
            have : (osL xs)[d.1.1].sy = xs[d.1.1].sy := by rw [e9]; rfl
            rwa [this] at hj
          have hs' : xs[d.1.1].sy[d.1.2] = d.2 := by
            rw [← hs]
            congr 1
            rw [e9]; rfl
          obtain ⟨bs, os, es, y0, y1, y2, y3, y4⟩ := sy_cells hsy hj'
          rw [hs'] at y0 y1 y2 y3 y4
          have hbs := World.block_lt_of_cell? w2 _ y0
          dsimp only at hbs
          rw [hsl] at hj'
          have hsb := HSN.out _ (List.getElem_mem hi')
          generalize xs[d.1.1] = x at *
          obtain ⟨⟨i, j⟩, ⟨sn, sv, sz, sb, sd⟩⟩ := d
          simp only at hdn his hi' hj' x9 y0 y1 y2 y3 y4
          have h7 : sd = true ∧ sb ≠ 0 := by
            have : (sd && decide (sb ≠ 0)) = true := his
            simpa using this
          obtain ⟨rfl, hsb0⟩ := h7
          have z1 : decide (((i : Nat) : Int) < 0) = false := by simp
          have z2 : decide ((len : Int) ≤ (i : Int)) = false := by simp; omega
          have z3 : decide (((j : Nat) : Int) < 0) = false := by simp
          have z4 : decide ((x.sn : Int) ≤ (j : Int)) = false := by simp; omega
          clear HLD hdm hi hj hs his e9 x6 x7 x8 x10 hsl hsy hs'
          rw [es] at x9
          subst hdn
          have hck2 := keepC HB2.out (HCC.out k hlt)
          have hb2 := World.block_lt_of_cell? w2 _ hck2
          dsimp only at hb2
          have HTK := hid (take_in hlt nm)
          have hbne : (sb == 0) = false := by simpa using hsb0
          simp only [lkV]
          go_wp2_with fail
          go_quiet (fail)
          go_wp2_with fail
          go_loopw [12] (fun i w4 => ∃ q : Nat, q ≤ k ∧ i = .int .i64 q ∧ Below w2.heap.size w2 w4) (fun i _ => k - (intOf i).toNat)
          case atStart => exact ⟨0, Nat.zero_le _, rfl, bdN (bal _) _⟩
          case round =>
            rename World => w4
            obtain ⟨q, hq, rfl, hb⟩ := hrel
            have HB4 := hid (bthen HB2.out hb)
            have hk4 := keepC HB4.out (HCC.out k hlt)
            have hb4 := World.block_lt_of_cell? w4 _ hk4
            dsimp only at hb4
            by_cases hql : q < k
            · have d3 : decide ((q : Int) < (k : Int)) = true := by simp; omega
              have hj4 := keepC HB4.out (HCC.out q (by omega))
              have hne : ns[q] ≠ ns[k] := List.pairwise_iff_getElem.1 HND.out q k (by omega) hlt hql
              have hqb := (ba_beq2 ns[q] ns[k]).trans (decide_eq_false hne)
              have HQ := hid hqb
              have HBX := hid (HB4.out)
              have HB2X := hid hb
              clear hb
              go_wp2_with fail
              go_quiet (fail)
              go_wp2_with fail
              go_roundw
              case rel => exact ⟨q + 1, by omega, by go_num, bdN HB2X.out _⟩
              case measure => simp [intOf]; omega
            · have d3 : decide ((q : Int) < (k : Int)) = false := by simp; omega
              clear hb
              cases ht : decide (nm ∈ ns.take k)
              · rw [ht] at HTK
                have hqb := ba_beq2 ns[k] nm
                by_cases hkn : ns[k] = nm
                · rw [decide_eq_true hkn] at HTK hqb
                  clear hkn ht
                  go_wp2_with fail
                  go_roundw
                  case rel => exact ⟨k + 1, by omega, by go_num, by rw [HTK.out]; rfl, HB4.out⟩
                  case measure => simp [intOf]; omega
                · rw [decide_eq_false hkn] at HTK hqb
                  clear hkn ht
                  go_wp2_with fail
                  go_roundw
                  case rel => exact ⟨k + 1, by omega, by go_num, by rw [HTK.out]; rfl, HB4.out⟩
                  case measure => simp [intOf]; omega
              · rw [ht] at HTK
                clear ht
                go_wp2_with fail
                go_roundw
                case rel => exact ⟨k + 1, by omega, by go_num, by rw [HTK.out]; rfl, HB4.out⟩
                case measure => simp [intOf]; omega
        · have d2 : decide ((k : Int) < (ns.length : Int)) = false := by simp; omega
          obtain rfl : k = ns.length := by omega
          go_wp2_with fail
          refine (lookup_any a len cap xs (ba nm) _ (HO.out.below' HBW.out) hl HSN.out).mono ?_
          rintro e' w2 ⟨rfl, hb⟩
          have HB2 := hid (HBW.out.trans (hb.mono HBW.out.size))
          clear hb
          rw [show (ba nm).data.toList = nm from rfl, List.take_length]
          have he := HEND.out
          by_cases hin : nm ∈ ns
          · rw [decide_eq_true hin] at he ⊢
            obtain ⟨d, hd⟩ := Option.isSome_iff_exists.1 he
            rw [hd]
            clear he hd hin HEND
            simp only [lkV]
            go_wp2_with fail
            refine (works_any _).mono ?_
            rintro e' w3 ⟨rfl, hb⟩
            have HB3 := hid (HB2.out.trans (hb.mono HB2.out.size))
            clear hb
            go_wp2_with fail
            go_ret
            exact ⟨rfl, HB3.out⟩
          · rw [decide_eq_false hin] at he ⊢
            have hd : lookL (osL xs) nm = none := by simpa using he
            rw [hd]
            clear he hd hin HEND
            simp only [lkV]
            go_wp2_with fail
            refine (works_any _).mono ?_
            rintro e' w3 ⟨rfl, hb⟩
            have HB3 := hid (HB2.out.trans (hb.mono HB2.out.size))
            clear hb
            go_wp2_with fail
            go_ret
            exact ⟨rfl, HB3.out⟩
  · clear hb
    go_wp2_with fail
    refine (works_any _).mono ?_
    rintro e' w1 ⟨rfl, hb⟩
    have HB := hid hb
    clear hb
    go_wp2_with fail
    go_ret
    exact ⟨rfl, HB.out⟩
end Go.Proofs.Ytblefgkhikfmhaa
