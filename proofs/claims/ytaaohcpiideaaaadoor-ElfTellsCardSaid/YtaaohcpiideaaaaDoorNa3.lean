
/- elf: segments of a kind, isLoaded, rightEntry. -/
import Derived.Test.YtaaohcpiideaaaaDoorNa2
namespace Go.Proofs.YtaaohcpiideaaaaDoor
open Go.RowKit Go.Sort Go.Shelf
attribute [local go_sem] Oper.semAt_some

theorem knd_one (sg : List SG) : knd 1 sg = lds sg := rfl
theorem knd_len (q : Int) (l : List SG) : (knd q l).length ≤ l.length := List.length_filter_le _ _
theorem knd_snoc (q : Int) (l : List SG) (s : SG) : knd q (l ++ [s]) = knd q l ++ if s.kind = q then [s] else [] := by
  unfold knd
  rw [List.filter_append]
  congr 1
  by_cases h : s.kind = q <;> simp [h]
theorem knd_take {q : Int} {sg : List SG} {k : Nat} (hk : k < sg.length) : knd q (sg.take (k + 1)) = knd q (sg.take k) ++ if sg[k].kind = q then [sg[k]] else [] := by
  rw [← knd_snoc, List.take_succ_eq_append_getElem hk]
theorem knd_ok {q : Int} {l : List SG} (h : ∀ s ∈ l, SGok s) : ∀ s ∈ knd q l, SGok s := fun s hs => h s (List.mem_filter.1 hs).1
set_option maxRecDepth 100000 in
set_option maxHeartbeats 4000000 in
theorem ofKindG_any (q typ entry phoff : Int) (a : Option Addr) (c : Nat) (sg : List SG) (w : World) (hS : Sgs w a sg.length sg) (hn : sg.length ≤ 1000000000) :
    Calls Tryd.prog 25 #[.agg #[.int .u16 typ, .int .u64 entry, .int .u64 phoff, .slice a sg.length c], .int .u32 q] w fun e w' => ∃ v, e = .returned v ∧ OwnG w' w.heap.size v (knd q sg) ∧ Below w.heap.size w w' := by
  have HS := hid hS
  clear hS
  go_enter Tryd.func25, Tryd.ntmps25
  go_wp2_with fail
  go_loopw [5, 11] (fun v i wr => ∃ (k : Nat) (sv : Value), k ≤ sg.length ∧ sv = v ∧ i = .int .i64 k ∧ OwnG wr w.heap.size sv (knd q (sg.take k)) ∧ Below w.heap.size w wr) (fun _ i _ => sg.length - (intOf i).toNat)
  case atStart => exact ⟨0, _, Nat.zero_le _, rfl, rfl, ownG_nil _ _, bal _⟩
  case round =>
    obtain ⟨k, v, hk, rfl, rfl, hown, hb⟩ := hrel
    have HO := hid hown
    have HB := hid hb
    clear hown hb
    by_cases hlt : k < sg.length
    · have d1 : decide ((k : Int) < (sg.length : Int)) = true := by simp; omega
      obtain ⟨b, off, rfl, x0, x1, x2, x3, x4, x5⟩ := (HS.out.below' HB.out).cells hlt
      have HT := hid (knd_take (q := q) hlt)
      have HLL := hid (show (knd q (sg.take k)).length ≤ sg.length by have := knd_len q (sg.take k); rw [List.length_take] at this; omega)
      generalize sg[k] = s at *
      have HBB := hid (fun o => show Below w.heap.size w (wr.alloc o) from HB.out.alloc HB.out.size _)
      have HOB := hid (fun o => show OwnG (wr.alloc o) w.heap.size v (knd q (sg.take k)) from HO.out.alloc _)
      by_cases hk1 : s.kind = q
      · have d2 : (s.kind == q) = true := by simpa using hk1
        rw [if_pos hk1] at HT
        have HOW := hid (fun o1 o2 => show OwnG ((wr.alloc o1).alloc o2) w.heap.size v (knd q (sg.take k)) from (HOB.out o1).alloc o2)
        have HNR := hid (fun o => show Rk ((wr.alloc o).alloc (.cells #[.int .u32 s.kind, .int .u8 s.flags, .int .u64 s.off, .int .u64 s.addr, .int .u64 s.fsz, .int .u64 s.msz] 41)) 6 (some ⟨wr.heap.size + 1, 0, none⟩) 1 [sgC s] from by
          have := Row.new (wr.alloc o) 41 (sgC s)
          rw [World.size_alloc] at this
          exact row_rk this rfl)
        have HNB := hid (fun o1 o2 => (HBB.out o1).alloc (HBB.out o1).size o2)
        have HNZ := hid (fun o1 o2 => show w.heap.size ≤ ((wr.alloc o1).alloc o2).heap.size from (HNB.out o1 o2).size)
        have HONE := hid (sgC_one [s])
        have HN1 := hid (show (((knd q (sg.take k)).map sgC).length + 1) * 40 ≤ 140737488355328 by rw [List.length_map]; have := HLL.out; omega)
        have HN2 := hid (show ((knd q (sg.take k)).map sgC).length + 1 ≤ maxLen by rw [List.length_map]; have := HLL.out; unfold maxLen; omega)
        clear hk1
        go_wp2_with (at_builtin; go_must (refine wpList_appKg Tryd.underlying24 infoSeg rfl (by decide) rfl _ _ rfl w.heap.size v ((knd q (sg.take k)).map sgC) [sgC s] rfl (some ⟨wr.heap.size + 1, 0, none⟩) 1 1 rfl (HOW.out _ _) (HNR.out _) HONE.out (fun h => by cases h) HN1.out HN2.out (HNZ.out _ _) ?_; intro v' w9 hown hgrow hb9; have HO9 := hid hown; have HB9 := hid ((HNB.out _ _).trans hb9); clear hown hgrow hb9))
        go_roundw
        case rel => exact ⟨k + 1, _, by omega, rfl, by go_num, by rw [HT.out]; exact own_ext HO9.out (by simp) (by simp), HB9.out⟩
        case measure => simp [intOf]; omega
      · have d2 : (s.kind == q) = false := by simpa using hk1
        rw [if_neg hk1, List.append_nil] at HT
        clear hk1
        go_wp2_with fail
        go_roundw
        case rel => exact ⟨k + 1, _, by omega, rfl, by go_num, by rw [HT.out]; exact HOB.out _, HBB.out _⟩
        case measure => simp [intOf]; omega
    · have d1 : decide ((k : Int) < (sg.length : Int)) = false := by simp; omega
      obtain rfl : k = sg.length := by omega
      have HF := hid (show knd q (sg.take sg.length) = knd q sg by rw [List.take_length])
      go_wp2_with fail
      go_ret
      exact ⟨_, rfl, by rw [← HF.out]; exact HO.out, HB.out⟩


theorem and_one (x : Int) (h0 : 0 ≤ x) (h1 : x ≤ 255) : bits BinOp.and .u8 x 1 = x % 2 := by
  obtain ⟨n, rfl⟩ := Int.eq_ofNat_of_zero_le h0
  have h : ∀ n : Fin 256, bits BinOp.and .u8 ((n.val : Nat) : Int) 1 = ((n.val : Nat) : Int) % 2 := by decide +kernel
  exact h ⟨n, by omega⟩
theorem any_take {α : Type} {p : α → Bool} {l : List α} {k : Nat} (hk : k < l.length) (h : (l.take k).any p = false) (hp : p l[k] = false) : (l.take (k + 1)).any p = false := by
  rw [List.take_succ_eq_append_getElem hk, List.any_append, h]
  simp [hp]
theorem any_at {α : Type} {p : α → Bool} {l : List α} {k : Nat} (hk : k < l.length) (hp : p l[k] = true) : l.any p = true := List.any_eq_true.2 ⟨l[k], List.getElem_mem _, hp⟩
set_option maxRecDepth 100000 in
set_option maxHeartbeats 4000000 in
theorem isLoaded_any (typ entry phoff : Int) (a : Option Addr) (c : Nat) (sg : List SG) (s : SG) (w : World) (hS : Sgs w a sg.length sg) (hn : sg.length ≤ 1000000000) (hok : ∀ s ∈ sg, SGok s) (hs : SGok s) :
    Calls Tryd.prog 55 #[.agg #[.int .u16 typ, .int .u64 entry, .int .u64 phoff, .slice a sg.length c], sgV s] w fun e w' => e = .returned (.bool (isLoadedB sg s)) ∧ Below w.heap.size w w' := by
  obtain ⟨W, hW⟩ : ∃ W, W = (w.alloc (.cells #[.int .u16 typ, .int .u64 entry, .int .u64 phoff, .slice a sg.length c] 26)).alloc (.cells #[.int .u32 s.kind, .int .u8 s.flags, .int .u64 s.off, .int .u64 s.addr, .int .u64 s.fsz, .int .u64 s.msz] 41) := ⟨_, rfl⟩
  have HW := hid hW
  have HLOW := hid (show Below w.heap.size w W by rw [hW]; exact (bal _).alloc (bal (w := w) _).size _)
  have HROW := hid (show Row W (w.heap.size + 1) 41 (sgC s) by rw [hW]; have := Row.new (w.alloc (.cells #[.int .u16 typ, .int .u64 entry, .int .u64 phoff, .slice a sg.length c] 26)) 41 (sgC s); rw [World.size_alloc] at this; exact this)
  have HWZ := hid (show W.heap.size = w.heap.size + 2 by rw [hW, World.size_alloc, World.size_alloc])
  have HK := hid (loads12_any typ entry phoff a c sg W (hS.below' HLOW.out) hn)
  have HOK := hid (lds_ok hok)
  have HLL := hid (show (lds sg).length ≤ 1000000000 from Nat.le_trans (lds_len sg) hn)
  have HSO := hid hs
  obtain ⟨l, hl⟩ : ∃ l, l = lds sg := ⟨_, rfl⟩
  have HRES := hid (show isLoadedB sg s = l.any (inLoad s) by rw [hl]; rfl)
  rw [← hl] at HK HOK HLL
  clear hW hS hok hs hl
  show Calls Tryd.prog 55 #[.agg #[.int .u16 typ, .int .u64 entry, .int .u64 phoff, .slice a sg.length c], .agg #[.int .u32 s.kind, .int .u8 s.flags, .int .u64 s.off, .int .u64 s.addr, .int .u64 s.fsz, .int .u64 s.msz]] w fun e w' => e = .returned (.bool (isLoadedB sg s)) ∧ Below w.heap.size w w'
  go_enter Tryd.func55, Tryd.ntmps55
  go_wp2_with fail
  rw [← HW.out]
  refine HK.out.mono ?_
  rintro e' w1 ⟨v, rfl, ho, hb⟩
  obtain ⟨a1, c1, rfl, hs1, _⟩ := ownG_open ho
  have HS1 := hid hs1
  have HB1 := hid (HLOW.out.trans (hb.mono HLOW.out.size))
  have HR1 := hid (HROW.out.below hb (by rw [HWZ.out]; omega))
  have HZ1 := hid (show w.heap.size + 2 ≤ w1.heap.size by rw [← HWZ.out]; exact hb.size)
  clear ho hb hs1 HK
  go_wp2_with fail
  go_loopw [10] (fun i wr => ∃ k : Nat, k ≤ l.length ∧ i = .int .i64 k ∧ (l.take k).any (inLoad s) = false ∧ Below w1.heap.size w1 wr) (fun i _ => l.length - (intOf i).toNat)
  case atStart => exact ⟨0, Nat.zero_le _, rfl, rfl, Below.refl _ _⟩
  case round =>
    obtain ⟨k, hk, rfl, hno, hb⟩ := hrel
    have HB := hid hb
    have HNO := hid hno
    clear hno
    have hll := HLL.out
    by_cases hlt : k < l.length
    · have d1 : decide ((k : Int) < (l.length : Int)) = true := by simp; omega
      have d1n : decide (k < l.length) = true := by simp; omega
      obtain ⟨b, off, rfl, x0, x1, x2, x3, x4, x5⟩ := (HS1.out.below' hb).cells hlt
      obtain ⟨y0, y1, y2, y3, y4, y5⟩ := (HR1.out.below hb (by have := HZ1.out; omega)).six
      have hbl := World.block_lt_of_cell? wr _ x0
      have hsl := World.block_lt_of_cell? wr _ y0
      have HXO := hid (HOK.out _ (List.getElem_mem hlt))
      have HANY := hid (fun (h : inLoad s l[k] = true) => show isLoadedB sg s = true by rw [HRES.out]; exact any_at hlt h)
      have HNXT := hid (fun (h : inLoad s l[k] = false) => any_take hlt HNO.out h)
      generalize l[k] = x at *
      have HBA := hid (fun o => HB.out.alloc HB.out.size o)
      have so1 := HSO.out.o1
      have so0 := HSO.out.o0
      have sa1 := HSO.out.a1
      have sa0 := HSO.out.a0
      have xa1 := HXO.out.a1
      have xa0 := HXO.out.a0
      have xo1 := HXO.out.o1
      have xo0 := HXO.out.o0
      clear hb
      by_cases h1 : x.addr ≤ s.addr
      rotate_left
      · have e1 : decide (x.addr ≤ s.addr) = false := by simp; omega
        have HF := hid (show inLoad s x = false by unfold inLoad; rw [e1]; rfl)
        clear h1
        go_wp2_with fail
        go_roundw
        case rel => exact ⟨k + 1, by omega, by go_num, HNXT.out HF.out, HBA.out _⟩
        case measure => simp [intOf]; omega
      have e1 : decide (x.addr ≤ s.addr) = true := by simp; omega
      have ew := IntWalk.u64_in (s.addr - x.addr) ⟨by omega, by omega⟩
      have HI := hid (fun wx => inside_any (s.addr - x.addr) s.fsz x.fsz wx HSO.out.z0 HXO.out.z1)
      have HIN := hid (show ∀ b2 b3, insB (s.addr - x.addr) s.fsz x.fsz = b2 → decide (w64 (s.off - x.off) = s.addr - x.addr) = b3 → inLoad s x = (b2 && b3) from by
        intro b2 b3 h2 h3
        unfold inLoad
        rw [e1, h2, h3]
        rfl)
      clear h1
      go_wp2_with fail
      refine (HI.out _).mono ?_
      rintro e' w2 ⟨rfl, rfl⟩
      cases h2 : insB (s.addr - x.addr) s.fsz x.fsz
      · have H2 := hid h2
        clear h2
        go_wp2_with fail
        go_roundw
        case rel => exact ⟨k + 1, by omega, by go_num, HNXT.out (HIN.out _ _ H2.out rfl), HBA.out _⟩
        case measure => simp [intOf]; omega
      have H2 := hid h2
      clear h2
      by_cases h3 : w64 (s.off - x.off) = s.addr - x.addr
      · have e3 : (IntKind.u64.wrap (s.off - x.off) == s.addr - x.addr) = true := by simpa [w64] using h3
        have HT := hid (HANY.out ((HIN.out _ _ H2.out (decide_eq_true h3))))
        clear h3
        go_wp2_with fail
        go_ret
        exact ⟨by rw [HT.out]; rfl, HB1.out.trans ((HBA.out _).mono HB1.out.size)⟩
      · have e3 : (IntKind.u64.wrap (s.off - x.off) == s.addr - x.addr) = false := by simpa [w64] using h3
        have HF := hid ((HIN.out _ _ H2.out (decide_eq_false h3)))
        clear h3
        go_wp2_with fail
        go_roundw
        case rel => exact ⟨k + 1, by omega, by go_num, HNXT.out HF.out, HBA.out _⟩
        case measure => simp [intOf]; omega
    · have d1 : decide ((k : Int) < (l.length : Int)) = false := by simp; omega
      have d1n : decide (k < l.length) = false := by simp; omega
      have HF := hid (show isLoadedB sg s = false by
        obtain rfl : k = l.length := by omega
        have := HNO.out
        rw [List.take_length] at this
        rw [HRES.out, this])
      go_wp2_with fail
      go_ret
      exact ⟨by rw [HF.out]; rfl, HB1.out.trans (HB.out.mono HB1.out.size)⟩

set_option maxRecDepth 100000 in
set_option maxHeartbeats 4000000 in
theorem rightEntry_any (typ entry phoff : Int) (a : Option Addr) (c : Nat) (sg : List SG) (w : World) (hS : Sgs w a sg.length sg) (hn : sg.length ≤ 1000000000) (hok : ∀ s ∈ sg, SGok s) (he0 : 0 ≤ entry) (he1 : entry ≤ 18446744073709551615) :
    Calls Tryd.prog 46 #[.agg #[.int .u16 typ, .int .u64 entry, .int .u64 phoff, .slice a sg.length c]] w fun e w' => e = .returned (.bool (entB typ entry sg)) ∧ Below w.heap.size w w' := by
  obtain ⟨W, hW⟩ : ∃ W, W = w.alloc (.cells #[.int .u16 typ, .int .u64 entry, .int .u64 phoff, .slice a sg.length c] 26) := ⟨_, rfl⟩
  have HW := hid hW
  have HLOW := hid (show Below w.heap.size w W by rw [hW]; exact bal _)
  have HROW := hid (show Row W w.heap.size 26 [.int .u16 typ, .int .u64 entry, .int .u64 phoff, .slice a sg.length c] by rw [hW]; exact Row.new _ _ _)
  have HWZ := hid (show W.heap.size = w.heap.size + 1 by rw [hW, World.size_alloc])
  have HK := hid (loads12_any typ entry phoff a c sg W (hS.below' HLOW.out) hn)
  have HOK := hid (lds_ok hok)
  have HLL := hid (show (lds sg).length ≤ 1000000000 from Nat.le_trans (lds_len sg) hn)
  have HE := hid (show 0 ≤ entry ∧ entry ≤ 18446744073709551615 from ⟨he0, he1⟩)
  obtain ⟨l, hl⟩ : ∃ l, l = lds sg := ⟨_, rfl⟩
  have HRES := hid (show entB typ entry sg = (decide (entry = 0 ∧ typ = 3) || l.any (inExec entry)) by rw [hl]; rfl)
  rw [← hl] at HK HOK HLL
  have w0 := HROW.out.cell' 0
  have w1 := HROW.out.cell' 1
  clear hW hS hok hl
  by_cases hz : entry = 0 ∧ typ = 3
  · have e1 : (entry == 0) = true := by simpa using hz.1
    have e2 : (typ == 3) = true := by simpa using hz.2
    have HT := hid (show entB typ entry sg = true by rw [HRES.out, decide_eq_true hz]; rfl)
    clear hz
    go_enter Tryd.func46, Tryd.ntmps46
    go_wp2_with fail
    rw [← HW.out]
    go_wp2_with fail
    go_ret
    exact ⟨by rw [HT.out]; rfl, HLOW.out⟩
  have HZ := hid (show entB typ entry sg = l.any (inExec entry) by rw [HRES.out, decide_eq_false hz]; rfl)
  have key : ∀ b1 b2, (entry == 0) = b1 → (typ == 3) = b2 → (b1 && b2) = false → True := fun _ _ _ _ _ => trivial
  clear key
  suffices hmain : ∀ (b1 b2 : Bool), (entry == 0) = b1 → (typ == 3) = b2 → (b1 = true → b2 = false) → Calls Tryd.prog 46 #[.agg #[.int .u16 typ, .int .u64 entry, .int .u64 phoff, .slice a sg.length c]] w fun e w' => e = .returned (.bool (entB typ entry sg)) ∧ Below w.heap.size w w' from
    hmain _ _ rfl rfl (fun h => by
      rw [beq_eq_false_iff_ne]
      intro h2
      exact hz ⟨by simpa using h, h2⟩)
  clear hz
  intro b1 b2 e1 e2 hbb
  cases b1
  · clear hbb
    go_enter Tryd.func46, Tryd.ntmps46
    go_wp2_with fail
    rw [← HW.out]
    go_wp2_with fail
    refine HK.out.mono ?_
    rintro e' w2 ⟨v, rfl, ho, hb⟩
    obtain ⟨a1, c1, rfl, hs1, _⟩ := ownG_open ho
    have HS1 := hid hs1
    have HB1 := hid (HLOW.out.trans (hb.mono HLOW.out.size))
    have HR1 := hid (HROW.out.below hb (by rw [HWZ.out]; omega))
    have HZ1 := hid (show w.heap.size + 1 ≤ w2.heap.size by rw [← HWZ.out]; exact hb.size)
    clear ho hb hs1 HK w0 w1
    go_wp2_with fail
    go_loopw [16] (fun i wr => ∃ k : Nat, k ≤ l.length ∧ i = .int .i64 k ∧ (l.take k).any (inExec entry) = false ∧ Below w2.heap.size w2 wr) (fun i _ => l.length - (intOf i).toNat)
    case atStart => exact ⟨0, Nat.zero_le _, rfl, rfl, Below.refl _ _⟩
    case round =>
      obtain ⟨k, hk, rfl, hno, hb⟩ := hrel
      have HB := hid hb
      have HNO := hid hno
      clear hno
      have hll := HLL.out
      by_cases hlt : k < l.length
      · have d1 : decide ((k : Int) < (l.length : Int)) = true := by simp; omega
        have d1n : decide (k < l.length) = true := by simp; omega
        obtain ⟨b, off, rfl, x0, x1, x2, x3, x4, x5⟩ := (HS1.out.below' hb).cells hlt
        have HRR := hid (HR1.out.below hb (by have := HZ1.out; omega))
        have y1 := HRR.out.cell' 1
        have hbl := World.block_lt_of_cell? wr _ x0
        have hsl := World.block_lt_of_cell? wr _ y1
        have HXO := hid (HOK.out _ (List.getElem_mem hlt))
        have HANY := hid (fun (h : inExec entry l[k] = true) => show entB typ entry sg = true by rw [HZ.out]; exact any_at hlt h)
        have HNXT := hid (fun (h : inExec entry l[k] = false) => any_take hlt HNO.out h)
        generalize l[k] = x at *
        have HBA := hid (fun o => HB.out.alloc HB.out.size o)
        have xa1 := HXO.out.a1
        have xa0 := HXO.out.a0
        have xf0 := HXO.out.f0
        have xf1 := HXO.out.f1
        have he := HE.out
        have HAND := hid (and_one x.flags xf0 xf1)
        clear hb
        by_cases h1 : x.flags % 2 = 1
        rotate_left
        · have HF := hid (show inExec entry x = false by unfold inExec; exact decide_eq_false (fun h => h1 h.1))
          have e3 := HAND.out
          rw [show x.flags % 2 = 0 by omega] at e3
          clear h1
          go_wp2_with fail
          go_roundw
          case rel => exact ⟨k + 1, by omega, by go_num, HNXT.out HF.out, HBA.out _⟩
          case measure => simp [intOf]; omega
        have e3 := HAND.out
        rw [h1] at e3
        have H1 := hid h1
        clear h1
        by_cases h2 : x.addr ≤ entry
        rotate_left
        · have e4 : decide (x.addr ≤ entry) = false := by simp; omega
          have HF := hid (show inExec entry x = false by unfold inExec; exact decide_eq_false (fun h => h2 h.2.1))
          clear h2
          go_wp2_with fail
          go_roundw
          case rel => exact ⟨k + 1, by omega, by go_num, HNXT.out HF.out, HBA.out _⟩
          case measure => simp [intOf]; omega
        have e4 : decide (x.addr ≤ entry) = true := by simp; omega
        have ew := IntWalk.u64_in (entry - x.addr) ⟨by omega, by omega⟩
        have H2 := hid h2
        clear h2
        by_cases h3 : entry - x.addr < x.msz
        · have e5 : decide (entry - x.addr < x.msz) = true := by simp; omega
          have HT := hid (HANY.out (show inExec entry x = true from decide_eq_true ⟨H1.out, H2.out, h3⟩))
          clear h3
          go_wp2_with fail
          go_ret
          exact ⟨by rw [HT.out]; rfl, HB1.out.trans ((HBA.out _).mono HB1.out.size)⟩
        · have e5 : decide (entry - x.addr < x.msz) = false := by simp; omega
          have HF := hid (show inExec entry x = false by unfold inExec; exact decide_eq_false (fun h => h3 h.2.2))
          clear h3
          go_wp2_with fail
          go_roundw
          case rel => exact ⟨k + 1, by omega, by go_num, HNXT.out HF.out, HBA.out _⟩
          case measure => simp [intOf]; omega
      · have d1 : decide ((k : Int) < (l.length : Int)) = false := by simp; omega
        have d1n : decide (k < l.length) = false := by simp; omega
        have HF := hid (show entB typ entry sg = false by
          obtain rfl : k = l.length := by omega
          have := HNO.out
          rw [List.take_length] at this
          rw [HZ.out, this])
        go_wp2_with fail
        go_ret
        exact ⟨by rw [HF.out]; rfl, HB1.out.trans (HB.out.mono HB1.out.size)⟩
  · obtain rfl := hbb rfl
    clear hbb
    go_enter Tryd.func46, Tryd.ntmps46
    go_wp2_with fail
    rw [← HW.out]
    go_wp2_with fail
    refine HK.out.mono ?_
    rintro e' w2 ⟨v, rfl, ho, hb⟩
    obtain ⟨a1, c1, rfl, hs1, _⟩ := ownG_open ho
    have HS1 := hid hs1
    have HB1 := hid (HLOW.out.trans (hb.mono HLOW.out.size))
    have HR1 := hid (HROW.out.below hb (by rw [HWZ.out]; omega))
    have HZ1 := hid (show w.heap.size + 1 ≤ w2.heap.size by rw [← HWZ.out]; exact hb.size)
    clear ho hb hs1 HK w0 w1
    go_wp2_with fail
    go_loopw [16] (fun i wr => ∃ k : Nat, k ≤ l.length ∧ i = .int .i64 k ∧ (l.take k).any (inExec entry) = false ∧ Below w2.heap.size w2 wr) (fun i _ => l.length - (intOf i).toNat)
    case atStart => exact ⟨0, Nat.zero_le _, rfl, rfl, Below.refl _ _⟩
    case round =>
      obtain ⟨k, hk, rfl, hno, hb⟩ := hrel
      have HB := hid hb
      have HNO := hid hno
      clear hno
      have hll := HLL.out
      by_cases hlt : k < l.length
      · have d1 : decide ((k : Int) < (l.length : Int)) = true := by simp; omega
        have d1n : decide (k < l.length) = true := by simp; omega
        obtain ⟨b, off, rfl, x0, x1, x2, x3, x4, x5⟩ := (HS1.out.below' hb).cells hlt
        have HRR := hid (HR1.out.below hb (by have := HZ1.out; omega))
        have y1 := HRR.out.cell' 1
        have hbl := World.block_lt_of_cell? wr _ x0
        have hsl := World.block_lt_of_cell? wr _ y1
        have HXO := hid (HOK.out _ (List.getElem_mem hlt))
        have HANY := hid (fun (h : inExec entry l[k] = true) => show entB typ entry sg = true by rw [HZ.out]; exact any_at hlt h)
        have HNXT := hid (fun (h : inExec entry l[k] = false) => any_take hlt HNO.out h)
        generalize l[k] = x at *
        have HBA := hid (fun o => HB.out.alloc HB.out.size o)
        have xa1 := HXO.out.a1
        have xa0 := HXO.out.a0
        have xf0 := HXO.out.f0
        have xf1 := HXO.out.f1
        have he := HE.out
        have HAND := hid (and_one x.flags xf0 xf1)
        clear hb
        by_cases h1 : x.flags % 2 = 1
        rotate_left
        · have HF := hid (show inExec entry x = false by unfold inExec; exact decide_eq_false (fun h => h1 h.1))
          have e3 := HAND.out
          rw [show x.flags % 2 = 0 by omega] at e3
          clear h1
          go_wp2_with fail
          go_roundw
          case rel => exact ⟨k + 1, by omega, by go_num, HNXT.out HF.out, HBA.out _⟩
          case measure => simp [intOf]; omega
        have e3 := HAND.out
        rw [h1] at e3
        have H1 := hid h1
        clear h1
        by_cases h2 : x.addr ≤ entry
        rotate_left
        · have e4 : decide (x.addr ≤ entry) = false := by simp; omega
          have HF := hid (show inExec entry x = false by unfold inExec; exact decide_eq_false (fun h => h2 h.2.1))
          clear h2
          go_wp2_with fail
          go_roundw
          case rel => exact ⟨k + 1, by omega, by go_num, HNXT.out HF.out, HBA.out _⟩
          case measure => simp [intOf]; omega
        have e4 : decide (x.addr ≤ entry) = true := by simp; omega
        have ew := IntWalk.u64_in (entry - x.addr) ⟨by omega, by omega⟩
        have H2 := hid h2
        clear h2
        by_cases h3 : entry - x.addr < x.msz
        · have e5 : decide (entry - x.addr < x.msz) = true := by simp; omega
          have HT := hid (HANY.out (show inExec entry x = true from decide_eq_true ⟨H1.out, H2.out, h3⟩))
          clear h3
          go_wp2_with fail
          go_ret
          exact ⟨by rw [HT.out]; rfl, HB1.out.trans ((HBA.out _).mono HB1.out.size)⟩
        · have e5 : decide (entry - x.addr < x.msz) = false := by simp; omega
          have HF := hid (show inExec entry x = false by unfold inExec; exact decide_eq_false (fun h => h3 h.2.2))
          clear h3
          go_wp2_with fail
          go_roundw
          case rel => exact ⟨k + 1, by omega, by go_num, HNXT.out HF.out, HBA.out _⟩
          case measure => simp [intOf]; omega
      · have d1 : decide ((k : Int) < (l.length : Int)) = false := by simp; omega
        have d1n : decide (k < l.length) = false := by simp; omega
        have HF := hid (show entB typ entry sg = false by
          obtain rfl : k = l.length := by omega
          have := HNO.out
          rw [List.take_length] at this
          rw [HZ.out, this])
        go_wp2_with fail
        go_ret
        exact ⟨by rw [HF.out]; rfl, HB1.out.trans (HB.out.mono HB1.out.size)⟩
end Go.Proofs.YtaaohcpiideaaaaDoor
