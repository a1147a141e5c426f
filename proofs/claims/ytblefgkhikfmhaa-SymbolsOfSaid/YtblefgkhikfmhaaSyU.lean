/- The reference: All. -/
import Derived.Test.YtblefgkhikfmhaaSyT
namespace Go.Proofs.Ytblefgkhikfmhaa
open Go.RowKit Go.Sort Go.Shelf
attribute [local go_sem] Oper.semAt_some

/-- A definition is told just where it is the first of its name. -/
theorem first_iff {os : List OS} {e : List DF} {d : DF} (hp : e ++ [d] <+: defsL os) : lookL os d.2.name = some d ↔ d.2.name ∉ allOf e := by
  have h1 := allOf_first hp
  have h2 : ¬ ∃ x ∈ e, x = d := by
    rintro ⟨x, hx, rfl⟩
    obtain ⟨t, ht⟩ := hp
    have hr := defsL_rise os
    rw [← ht, List.append_assoc, List.pairwise_append] at hr
    exact before_irrefl x (hr.2.2 x hx x (by simp))
  unfold lookL
  constructor
  · intro h hm
    rcases h1.1 hm with h3 | h3
    · exact h3 h
    · exact h2 h3
  · intro h
    by_cases h3 : (defsL os).find? (fun x => decide (x.2.name = d.2.name)) = some d
    · exact h3
    · exact absurd (h1.2 (.inl h3)) h
/-- Where the symbol is no definition, what its name comes to lies elsewhere. -/
theorem look_else {os : List OS} {i k : Nat} (hi : i < os.length) (hk : k < os[i].sy.length) (hs : os[i].sy[k].is = false) {n : BL} {d : DF} (h : lookL os n = some d) : ¬ (d.1.1 = i ∧ d.1.2 = k) := by
  rintro ⟨rfl, rfl⟩
  obtain ⟨_, _, h3, h4⟩ := mem_defsL (look_mem h).1
  rw [← h3, hs] at h4
  cases h4
theorem look_place {os : List OS} {d d' : DF} (h1 : d ∈ defsL os) (h2 : d' ∈ defsL os) (e1 : d'.1.1 = d.1.1) (e2 : d'.1.2 = d.1.2) : d' = d := by
  obtain ⟨⟨i, k⟩, s⟩ := d
  obtain ⟨⟨i', k'⟩, s'⟩ := d'
  obtain ⟨_, _, h3, _⟩ := mem_defsL h1
  obtain ⟨_, _, h5, _⟩ := mem_defsL h2
  dsimp only at e1 e2 h3 h5
  subst e1 e2
  rw [h3] at h5
  rw [h5]

set_option maxHeartbeats 4000000 in
theorem rall_any (a : Option Addr) (len cap : Nat) (xs : List OB) (w : World) (hO : Objs w a len xs) (hl : len ≤ 1000000000000) (hsn : ∀ x ∈ xs, x.sn ≤ 4000000000000) (hD : (defsL (osL xs)).length ≤ 1000000000) :
    Calls Try.prog 15 #[.slice a len cap] w (OwnPost w (allL (osL xs))) := by
  have HO := hid hO
  obtain rfl := hO.hlen
  have hol : (osL xs).length = xs.length := by simp [osL]
  have HSN := hid hsn
  have HD := hid hD
  clear hO hsn hD
  go_enter Try.func15, Try.ntmps15
  go_wp2_with fail
  go_loopw [3, 4] (fun v i wr => ∃ k : Nat, k ≤ xs.length ∧ i = .int .i64 k ∧ OwnS wr w.heap.size v (allOf (defsAt (osL xs) k)) ∧ Below w.heap.size w wr) (fun _ i _ => xs.length - (intOf i).toNat)
  case atStart => exact ⟨0, Nat.zero_le _, rfl, ownS_nil _ _, Below.refl _ _⟩
  case round =>
    obtain ⟨k, hk, rfl, hno, hb⟩ := hrel
    have HN := hid hno
    have HB := hid hb
    clear hno
    by_cases hlt : k < xs.length
    · have d1 : decide ((k : Int) < (xs.length : Int)) = true := by simp; omega
      have HOS := hid (show (osL xs)[k]'(by rw [hol]; exact hlt) = toOS xs[k] by simp [osL])
      have hs3 := HSN.out _ (List.getElem_mem hlt)
      have HSL := hid (HO.out.sn (List.getElem_mem hlt))
      have HCE := hid (fun wz (hz : Below w.heap.size w wz) => (HO.out.below' hz).cells hlt)
      have HSY := hid (fun wz (hz : Below w.heap.size w wz) => (HO.out.below' hz).syms _ (List.getElem_mem hlt))
      have HDS := hid (show defsAt (osL xs) (k + 1) = defsAt (osL xs) k ++ defsOne k xs[k].sy by rw [defsAt_succ _ (by rw [hol]; exact hlt), HOS.out]; rfl)
      have HPR := hid (fun q (hq : q ≤ xs[k].sy.length) => show defsAt (osL xs) k ++ defsTo k xs[k].sy q <+: defsL (osL xs) from by
        have := defs_prefix (os := osL xs) (i := k) (k := q) (by rw [hol]; exact hlt) (by rw [HOS.out]; exact hq)
        rw [HOS.out] at this
        exact this)
      generalize xs[k] = x at *
      clear hb
      go_wp2_with fail
      go_loopw [3, 5] (fun v i wr => ∃ q : Nat, q ≤ x.sn ∧ i = .int .i64 q ∧ OwnS wr w.heap.size v (allOf (defsAt (osL xs) k ++ defsTo k x.sy q)) ∧ Below w.heap.size w wr) (fun _ i _ => x.sn - (intOf i).toNat)
      case atStart => exact ⟨0, Nat.zero_le _, rfl, by rw [defsTo_zero, List.append_nil]; exact HN.out, HB.out⟩
      case round =>
        rename World => wr
        obtain ⟨q, hq, rfl, hno, hb⟩ := hrel
        have HN := hid hno
        have HB := hid hb
        clear hno
        obtain ⟨bo, oo, rfl, _, x6, x7, x8, x9, x10⟩ := HCE.out _ hb
        replace x9 : wr.cell? ⟨bo, oo + k * 11 + 6 + 3, none⟩ = _ := x9
        clear x6 x7 x8 x10
        have hbo := World.block_lt_of_cell? wr _ x9
        dsimp only at hbo
        by_cases hqt : q < x.sn
        · have d2 : decide ((q : Int) < (x.sn : Int)) = true := by simp; omega
          have hql : q < x.sy.length := by rw [HSL.out]; exact hqt
          obtain ⟨bs, os, es, y0, y1, y2, y3, y4⟩ := sy_cells (HSY.out _ hb) hql
          have hbs := World.block_lt_of_cell? wr _ y0
          dsimp only at hbs
          have HTS := hid (defsTo_succ k x.sy hql)
          have HPQ := hid (HPR.out (q + 1) hql)
          have HIO := hid (fun d (hs : x.sy[q].is = false) (h : lookL (osL xs) x.sy[q].name = some d) => look_else (os := osL xs) (i := k) (k := q) (by rw [hol]; exact hlt) (by rw [HOS.out]; exact hql) (by simp only [HOS.out]; exact hs) h)
          generalize x.sy[q] = s at *
          rw [es] at x9
          obtain ⟨nm, vl, sz, bd, df⟩ := s
          dsimp only at y0 y1 y2 y3 y4 HIO
          have hpl : (allOf (defsAt (osL xs) k ++ defsTo k x.sy q)).length ≤ 1000000000 := by
            have h1 := allOf_len (defsAt (osL xs) k ++ defsTo k x.sy q)
            have h2 := (HPR.out q (by omega)).length_le
            have h3 := HD.out
            omega
          have HKEY := hid (show (lookL (osL xs) nm = some ((k, q), ⟨nm, vl, sz, bd, df⟩) ∧ allOf (defsAt (osL xs) k ++ defsTo k x.sy (q + 1)) = allOf (defsAt (osL xs) k ++ defsTo k x.sy q) ++ [nm]) ∨ ((∀ d, lookL (osL xs) nm = some d → ¬ (d.1.1 = k ∧ d.1.2 = q)) ∧ allOf (defsAt (osL xs) k ++ defsTo k x.sy (q + 1)) = allOf (defsAt (osL xs) k ++ defsTo k x.sy q)) by
            have hts := HTS.out
            cases his : SY.is ⟨nm, vl, sz, bd, df⟩
            · right
              refine ⟨fun d hd => HIO.out d his hd, ?_⟩
              rw [hts, his]; simp
            · rw [his] at hts
              have hp : (defsAt (osL xs) k ++ defsTo k x.sy q) ++ [((k, q), (⟨nm, vl, sz, bd, df⟩ : SY))] <+: defsL (osL xs) := by
                have := HPQ.out
                rw [hts] at this
                simpa using this
              have hnx : allOf (defsAt (osL xs) k ++ defsTo k x.sy (q + 1)) = addOnce (allOf (defsAt (osL xs) k ++ defsTo k x.sy q)) ((k, q), ⟨nm, vl, sz, bd, df⟩) := by
                rw [← allOf_snoc, hts]; simp
              have hfi := first_iff hp
              by_cases hm : nm ∈ allOf (defsAt (osL xs) k ++ defsTo k x.sy q)
              · right
                refine ⟨fun d hd hpk => ?_, by rw [hnx]; exact addOnce_in hm⟩
                have hdd := look_place (d := ((k, q), ⟨nm, vl, sz, bd, df⟩)) (d' := d) (hp.subset (by simp)) (look_mem hd).1 hpk.1 hpk.2
                rw [hdd] at hd
                exact hfi.1 hd hm
              · left
                exact ⟨hfi.2 hm, by rw [hnx]; exact addOnce_out hm⟩)
          generalize hpd : allOf (defsAt (osL xs) k ++ defsTo k x.sy q) = pd at *
          obtain ⟨a9, c9, rfl, _⟩ := own_cel HN.out
          have HNA := hid (HN.out.alloc (.cells #[.string (ba nm), .int .u64 vl, .int .u64 sz, .int .u8 bd, .bool df] 48))
          have HBA := hid (HB.out.alloc HB.out.size (.cells #[.string (ba nm), .int .u64 vl, .int .u64 sz, .int .u8 bd, .bool df] 48))
          have HRW := hid (Row.new wr 48 [.string (ba nm), .int .u64 vl, .int .u64 sz, .int .u8 bd, .bool df])
          clear hb hpd HIO HTS HPQ
          go_wp2_with fail
          refine (rlookup_any _ xs.length cap xs nm _ (HO.out.below' HBA.out) hl HSN.out).mono ?_
          rintro e' w3 ⟨rfl, hb3⟩
          have HB3 := hid (HBA.out.trans (hb3.mono HBA.out.size))
          have HN3 := hid (own_below HNA.out hb3)
          have hr3 := HRW.out.below hb3 (by simp)
          have s0 := hr3.cell 0 (by simp)
          simp only [List.getElem_cons_zero] at s0
          have hl3 := hr3.lt
          have hz3 := HB3.out.size
          have HPL := hid (show pd.length ≤ 8000000000000 by omega)
          clear hb3 hr3 y0 y1 y2 y3 y4 x9
          rcases HKEY.out with ⟨hlk, hnx⟩ | ⟨hlk, hnx⟩
          · have HX := hid hnx
            rw [hlk]
            clear hlk hnx HKEY
            simp only [lkV]
            go_wp2_with (at_builtin; go_must (refine wpList_appS rfl _ _ rfl w.heap.size (.slice a9 pd.length c9) pd (ba nm) rfl rfl HN3.out HPL.out hz3 ?_; intro v' w9 hown hgrow hb9 hz9 _; have HN9 := hid hown; have HB9 := hid (HB3.out.trans hb9); clear hown hgrow hb9 hz9))
            go_roundw
            case rel => exact ⟨q + 1, by omega, by go_num, by rw [HX.out]; exact ownS_of HN9.out rfl, HB9.out⟩
            case measure => simp [intOf]; omega
          · have HX := hid hnx
            clear hnx HKEY
            cases hd : lookL (osL xs) nm with
            | none =>
              clear hlk hd
              simp only [lkV]
              go_wp2_with fail
              go_roundw
              case rel => exact ⟨q + 1, by omega, by go_num, by rw [HX.out]; exact HN3.out, HB3.out⟩
              case measure => simp [intOf]; omega
            | some d =>
              have hne := hlk d hd
              clear hlk hd
              obtain ⟨⟨i', k'⟩, s'⟩ := d
              dsimp only at hne
              simp only [lkV]
              by_cases hi : i' = k
              · subst hi
                have hk2 : ¬ k' = q := fun e => hne ⟨rfl, e⟩
                clear hne
                have hq2 : (((k' : Nat) : Int) == (q : Int)) = false := by simp; omega
                go_wp2_with fail
                go_roundw
                case rel => exact ⟨q + 1, by omega, by go_num, by rw [HX.out]; exact HN3.out, HB3.out⟩
                case measure => simp [intOf]; omega
              · clear hne
                have hq2 : (((i' : Nat) : Int) == (k : Int)) = false := by simp; omega
                go_wp2_with fail
                go_roundw
                case rel => exact ⟨q + 1, by omega, by go_num, by rw [HX.out]; exact HN3.out, HB3.out⟩
                case measure => simp [intOf]; omega
        · have d2 : decide ((q : Int) < (x.sn : Int)) = false := by simp; omega
          obtain rfl : q = x.sn := by omega
          clear hb
          go_wp2_with fail
          go_roundw
          case rel => exact ⟨k + 1, by omega, by go_num, by have := HN.out; rwa [← HSL.out, defsTo_full, ← HDS.out] at this, HB.out⟩
          case measure => simp [intOf]; omega
    · have d1 : decide ((k : Int) < (xs.length : Int)) = false := by simp; omega
      obtain rfl : k = xs.length := by omega
      have HF := hid (show allOf (defsAt (osL xs) xs.length) = allL (osL xs) by rw [← hol, defsAt_full]; rfl)
      go_wp2_with fail
      refine bodyPost_ret (results_tmp rfl _ _ _) rfl ⟨_, rfl, ?_, HB.out⟩
      rw [← HF.out]; exact HN.out
end Go.Proofs.Ytblefgkhikfmhaa
