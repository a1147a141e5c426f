
/- strings.IndexRune and IndexAny at a set of two blanks, of any text. -/
import Derived.Test.YthamfhenadaapaaGreatDoorU0
import Derived.Test.YthamfhenadaapaaGreatDoorU1
import Derived.Test.YthamfhenadaapaaGreatDoorUC
import Derived.Shelf.Strings.SlTrimAscii
import Derived.Laws.Runes
import Derived.WalkMore
namespace Go.Proofs.YthamfhenadaapaaGreatDoor
open Go.RowKit Go.Sort

set_option maxRecDepth 100000 in
set_option maxHeartbeats 8000000 in
theorem rune_hi (S : ByteArray) (h2 : S.size = 2) (hA : ∀ k (h : k < S.size), (S[k]'h).toNat < 128) (r : Int) (h : 128 ≤ r) (hr : r ≤ 2147483647) (w : World) :
    Calls Tryz.prog 73 #[.string S, .int .i32 r] w fun e w' => e = .returned (.int .i64 (-1)) ∧ Below w.heap.size w w' := by
  have d1 : decide ((0 : Int) ≤ r) = true := by simp; omega
  have d2 : decide (r < 128) = false := by simp; omega
  have HA := hid hA
  have H2 := hid h2
  clear hA
  by_cases h3 : r = 65533
  · have d3 : (r == 65533) = true := by simp [h3]
    clear h3 h2
    go_enter Tryz.func73, Tryz.ntmps73
    go_wp2_with fail
    go_loopg [5, 6] S.size (fun g _ _ wx => ∃ i : Nat, i + g = S.size ∧ wx = w.iter S i)
    case atStart => exact ⟨0, by omega, rfl⟩
    case round =>
      obtain ⟨i, hig, rfl⟩ := hrel
      cases gk with
      | zero =>
        obtain rfl : i = S.size := by omega
        have hnx := run_next_end (P := Tryz.prog) w S S.size
        go_wp2_with fail
        go_ret
        exact ⟨rfl, bal _⟩
      | succ g =>
        have hi : i < S.size := by omega
        have hx := HA.out i hi
        have hnx := fun ty => run_next_ascii (P := Tryz.prog) w S i ty hi hx
        have d4 : (((S[i]'hi).toNat : Int) == 65533) = false := by rw [beq_eq_false_iff_ne]; omega
        clear hx
        go_wp2_with fail
        go_roundg g
        case measure => omega
        case rel => exact ⟨i + 1, by omega, rfl⟩
  · have d3 : (r == 65533) = false := by simp [h3]
    clear h3
    cases hv : Lib.validRune r
    · go_enter Tryz.func73, Tryz.ntmps73
      go_wp2_with fail
      refine (Tryz.utf8_ValidRune _ _).mono ?_
      rintro e' w1 ⟨rfl, rfl⟩
      rw [hv]
      go_wp2_with fail
      go_ret
      exact ⟨rfl, Below.refl _ _⟩
    · obtain ⟨l, hl, hlen, hall⟩ := encode_hi r h
      rcases Nat.lt_or_ge 2 l.length with h3 | h3
      · have hz1 : (2 : Int) ≤ ((ba l).size : Int) - 1 := by rw [ba_size]; omega
        have hz2 : (ba l).size ≤ 4 := by rw [ba_size]; omega
        obtain ⟨z, hz⟩ : ∃ z : Int, z = ((ba l).size : Int) - 1 := ⟨_, rfl⟩
        rw [← hz] at hz1
        have hz4 : z ≤ 3 := by omega
        have d5 : decide (z < (S.size : Int)) = false := by simp; omega
        have HV := hid hv
        rw [← hl] at hz hz2
        clear hl hall hlen h3 hv
        go_enter Tryz.func73, Tryz.ntmps73
        go_wp2_with fail
        refine (Tryz.utf8_ValidRune _ _).mono ?_
        rintro e' w1 ⟨rfl, rfl⟩
        rw [HV.out]
        go_wp2_with fail
        go_step3
        go_wp2_with fail
        go_loopg [9] 0 (fun g v wx => v = .int .i64 z ∧ wx = w1)
        case atStart => exact ⟨by rw [hz], rfl⟩
        case round =>
          obtain ⟨rfl, rfl⟩ := hrel
          go_wp2_with fail
          rw [Exit.noGoto_ret]
          go_ret
          exact ⟨rfl, Below.refl _ _⟩
      · have hz : (Utf8.encode r).size = 2 := by rw [hl, ba_size]; omega
        have hz1 : ((Utf8.encode r).size : Int) - 1 = 1 := by omega
        have h1S : 1 < S.size := by omega
        have h1R : 1 < (Utf8.encode r).size := by omega
        have key : ∀ (E : ByteArray), E = ba l → ∀ (h : 1 < E.size), 128 ≤ (E[1]'h).toNat := by
          rintro _ rfl h
          exact hall _ (List.getElem_mem _)
        have hB := key _ hl h1R
        have hne : (((S[1]'h1S).toNat : Int) != (((Utf8.encode r)[1]'h1R).toNat : Int)) = true := by
          have := HA.out 1 h1S
          rw [bne_iff_ne]
          omega
        have hwr : IntKind.i64.wrap 2 = 2 := by decide
        have d5 : decide ((1 : Int) < (S.size : Int)) = true := by simp; omega
        have HV := hid hv
        clear hall hlen h3 hv hB hl key
        go_enter Tryz.func73, Tryz.ntmps73
        go_wp2_with fail
        refine (Tryz.utf8_ValidRune _ _).mono ?_
        rintro e' w1 ⟨rfl, rfl⟩
        rw [HV.out]
        go_wp2_with fail
        go_step3
        go_wp2_with fail
        go_loopg [9] 0 (fun g v wx => v = .int .i64 1 ∧ wx = w1)
        case atStart => exact ⟨by first | rfl | rw [hz1] | go_num, rfl⟩
        case round =>
          obtain ⟨rfl, rfl⟩ := hrel
          go_wp2_with fail
          go_step3
          go_wp2_with fail
          go_quiet (fail)
          go_wp2_with fail
          go_quiet ((go_at_call 76; exact (Tryz.strings_IndexByte _ _ _).mono (fun _ _ h => ⟨h.1.trans (show _ = Ending.returned (Value.int .i64 (-1)) from rfl), ⟨_, h.2⟩⟩)))
          go_wp2_with fail
          simp only [Exit.inBlock, Exit.then, Exit.noGoto_ret]
          go_ret
          exact ⟨rfl, by first | exact Below.refl _ _ | exact drewN_below _ _⟩
theorem anyc (c : UInt8) : ([32, 9] : List UInt8).contains c = blk c := rfl
theorem blk_low {c : UInt8} (h : 128 ≤ c.toNat) : blk c = false := by
  cases hb : blk c
  · rfl
  · exfalso
    unfold blk cs2 at hb
    rw [List.contains_eq_mem] at hb
    simp at hb
    rcases hb with rfl | rfl <;> revert h <;> decide
def blanksS : ByteArray := ⟨#[32, 9]⟩
theorem blanksS_low : ∀ k (h : k < blanksS.size), (blanksS[k]'h).toNat < 128 := by
  intro k h
  have h2 : k < 2 := h
  rcases (show k = 0 ∨ k = 1 by omega) with rfl | rfl
  · show (32 : UInt8).toNat < 128; decide
  · show (9 : UInt8).toNat < 128; decide
/-- What IndexRune says of a blank, or of what is none. -/
theorem rune_low (c : UInt8) (h : c.toNat < 128) (w : World) : ∃ v : Int, decide (0 ≤ v) = blk c ∧ Calls Tryz.prog 73 #[.string blanksS, .int .i32 (c.toNat : Int)] w fun e w' => e = .returned (.int .i64 v) ∧ Below w.heap.size w w' := by
  refine ⟨Lib.indexByte [32, 9] c, ?_, ?_⟩
  · rw [← Lib.contains_iff_indexByte]; rfl
  · refine (Tryz.strings_IndexRune_ascii blanksS (c.toNat : Int) w (by omega) (by omega)).mono ?_
    rintro e w' ⟨rfl, rfl⟩
    refine ⟨?_, Below.refl _ _⟩
    have : ((c.toNat : Int)).toNat.toUInt8 = c := by simp
    rw [this]
    rfl

set_option maxRecDepth 100000 in
set_option maxHeartbeats 8000000 in
theorem idxShort_any (s : ByteArray) (w : World) (h8 : s.size ≤ 8) :
    Calls Tryz.prog 48 #[.string s, .string blanksS] w fun e w' => e = .returned (.int .i64 (Lib.indexAny s.data.toList cs2)) ∧ Below w.heap.size w w' := by
  have h8z : decide ((8 : Int) < (s.size : Int)) = false := decide_eq_false (by omega)
  have hemp : blanksS.toList.isEmpty = false := by decide +kernel
  have hn1 : ((blanksS.size : Int) == 1) = false := by decide +kernel
  have HIX := hid (show ∀ r : Int, 128 ≤ r → r ≤ 2147483647 → ∀ w, Calls Tryz.prog 73 #[.string blanksS, .int .i32 r] w fun e w' => e = .returned (.int .i64 (-1)) ∧ Below w.heap.size w w' from fun r h1 h2 w => rune_hi blanksS rfl blanksS_low r h1 h2 w)
  have HIL := hid rune_low
  generalize blanksS = B at *
  go_enter Tryz.func48, Tryz.ntmps48
  go_wp2_with fail
  refine (Tryz.strings_shouldUseASCIISet _ _).mono ?_
  rintro e' w1 ⟨rfl, hw⟩
  rw [hw, h8z]
  clear hw
  go_wp2_with fail
  have hit0 := World.iter_heap w s 0
  have hb0 : Below w.heap.size w (w.iter s 0) := bal _
  obtain ⟨w0, hw0⟩ : ∃ w0, w0 = w.iter s 0 := ⟨_, rfl⟩
  rw [← hw0] at hit0 hb0
  rw [← hw0]
  clear hw0
  have HB0 := hid hb0
  have HWB : Hid (∀ wx : World, Below w.heap.size w wx → w.heap.size ≤ wx.heap.size) := hid (fun wx h => h.size)
  have hlt0 : w.heap.size < w0.heap.size := (Array.getElem?_eq_some_iff.1 hit0).1
  clear hb0
  obtain ⟨g, hg⟩ : ∃ g, g = w.heap.size := ⟨_, rfl⟩
  rw [← hg] at hit0 hlt0 ⊢
  have HG := hid hg
  clear hg
  go_loopg [9, 10] s.size (fun k _ _ wx => ∃ i : Nat, i ≤ s.size ∧ s.size ≤ i + k ∧ wx.heap[g]? = some (.stringIter s i) ∧ Below w.heap.size w wx ∧ Lib.NoAny s.data.toList cs2 i)
  case atStart => exact ⟨0, by omega, by omega, hit0, HB0.out, Lib.NoAny.zero _ _⟩
  case round =>
    clear hit0 hlt0
    obtain ⟨i, hi, hik, hgi, hbw, hno⟩ := hrel
    have HN := hid hno
    have HGI := hid hgi
    have HBW := hid hbw
    clear hno hgi hbw
    by_cases hlt : i < s.size
    · obtain ⟨k, rfl⟩ : ∃ k, gk = k + 1 := ⟨gk - 1, by omega⟩
      have hnx := fun ty => run_next_at (P := Tryz.prog) ty HGI.out hlt
      obtain ⟨wn, hwn⟩ : ∃ wn, wn = mvIter wr g s (i + (Utf8.decode s i).2) := ⟨_, rfl⟩
      have HGN := hid (show wn.heap[g]? = some (.stringIter s (i + (Utf8.decode s i).2)) by rw [hwn]; exact mvIter_at _ HGI.out)
      have HBN := hid (show Below w.heap.size w wn by rw [hwn]; exact mvIter_below HBW.out (Nat.le_of_eq HG.out.symm) _)
      rw [← hwn] at hnx
      clear hwn
      have hcl : s.data.toList[i]? = some (s[i]'hlt) := Lib.data_getElem? s i hlt
      by_cases ha : (s[i]'hlt).toNat < 128
      · rw [decode_ascii s i hlt ha] at hnx HGN
        simp only at hnx HGN
        obtain ⟨v, hv, hC⟩ := HIL.out (s[i]'hlt) ha wn
        have HC := hid hC
        clear hC ha
        cases hb : blk (s[i]'hlt)
        · rw [hb] at hv
          have hv2 : decide ((0 : Int) ≤ v) = false := hv
          have HNX := hid (HN.out.succ hcl hb)
          clear hb hv hcl
          go_wp2_with fail
          refine (HC.out).mono ?_
          rintro e' w3 ⟨rfl, hb3⟩
          have HB3 := hid (bthen HBN.out hb3)
          have HG3 := hid (show w3.heap[g]? = some (.stringIter s (i + 1)) by rw [hb3.block g (Array.getElem?_eq_some_iff.1 HGN.out).1]; exact HGN.out)
          clear hb3
          go_wp2_with fail
          go_roundg k
          case measure => omega
          case rel => exact ⟨i + 1, by omega, by omega, HG3.out, HB3.out, HNX.out⟩
        · rw [hb] at hv
          have hv2 : decide ((0 : Int) ≤ v) = true := hv
          have HNX := hid (Lib.indexAny_hit HN.out hcl hb)
          clear hb hv hcl
          go_wp2_with fail
          refine (HC.out).mono ?_
          rintro e' w3 ⟨rfl, hb3⟩
          have HB3 := hid (bthen HBN.out hb3)
          clear hb3
          go_wp2_with fail
          go_ret
          exact ⟨by rw [HNX.out]; rfl, HB3.out⟩
      · have hdh := decode_high s i hlt (by omega)
        have hdl := decode_le s i
        obtain ⟨hd2, hd3⟩ := decode_hi s i hlt (by omega)
        have HNX := hid (show Lib.NoAny s.data.toList cs2 (i + (Utf8.decode s i).2) from by
          intro j b hj hb
          by_cases hji : j < i
          · exact HN.out j b hji hb
          · have hjs : j < s.size := by omega
            have e := Lib.data_getElem? s j hjs
            rw [e] at hb
            cases hb
            exact blk_low (hd3 j hjs (by omega) hj))
        have HC := hid (HIX.out ((Utf8.decode s i).1 : Int) (by omega) (by omega) wn)
        clear hd3 ha hcl
        generalize (Utf8.decode s i).1 = r at *
        generalize (Utf8.decode s i).2 = n at *
        go_wp2_with fail
        refine (HC.out).mono ?_
        rintro e' w3 ⟨rfl, hb3⟩
        have HB3 := hid (bthen HBN.out hb3)
        have HG3 := hid (show w3.heap[g]? = some (.stringIter s (i + n)) by rw [hb3.block g (Array.getElem?_eq_some_iff.1 HGN.out).1]; exact HGN.out)
        clear hb3
        go_wp2_with fail
        go_roundg k
        case measure => omega
        case rel => exact ⟨i + n, by omega, by omega, HG3.out, HB3.out, HNX.out⟩
    · have hnx := fun ty => run_next_no (P := Tryz.prog) ty HGI.out hlt
      have HF := hid (show Lib.indexAny s.data.toList cs2 = -1 from Lib.indexAny_none (by rw [size_list, show s.size = i by omega]; exact HN.out))
      go_wp2_with fail
      go_ret
      exact ⟨by rw [HF.out]; rfl, HBW.out⟩

theorem idxAny_any (s : ByteArray) (w : World) (hs : s.size ≤ 1000000) :
    Calls Tryz.prog 48 #[.string s, .string ⟨#[32, 9]⟩] w fun e w' => e = .returned (.int .i64 (Lib.indexAny s.data.toList cs2)) ∧ Below w.heap.size w w' := by
  by_cases h8 : s.size ≤ 8
  · exact idxShort_any s w h8
  · refine (Tryz.strings_IndexAny_long (by intro w; kernel_rfl) s ⟨#[32, 9]⟩ w (by decide) (by omega) (by omega) (by decide) (ascii_of_all (by decide))).mono ?_
    rintro e w' ⟨h1, h2⟩
    refine ⟨h1, ?_⟩
    rw [h2]
    exact (bal _).alloc (by simp) _
theorem trim_any (s : ByteArray) (w : World) (hs : s.size ≤ 1000000) :
    Calls Tryz.prog 47 #[.string s, .string ⟨#[32, 9]⟩] w fun e w' => e = .returned (.string (ba (trS s.data.toList))) ∧ Below w.heap.size w w' := by
  refine (Any.strings_Trim_laid Tryz.lays160 (by kernel_rfl) s ⟨#[32, 9]⟩ w (by omega) (by decide) (ascii_of_all (by decide))).mono ?_
  rintro e w' ⟨h1, h2⟩
  refine ⟨h1.trans ?_, h2⟩
  rw [show (ByteArray.mk #[32, 9]).data.toList = cs2 from rfl, trS_lib]
  rfl
theorem trimL_any (s : ByteArray) (w : World) :
    Calls Tryz.prog 49 #[.string s, .string ⟨#[32, 9]⟩] w fun e w' => e = .returned (.string (ba (trL s.data.toList))) ∧ Below w.heap.size w w' := by
  refine (Any.strings_TrimLeft_laid Tryz.lays161 (by kernel_rfl) s ⟨#[32, 9]⟩ w (by decide) (ascii_of_all (by decide))).mono ?_
  rintro e w' ⟨h1, h2⟩
  exact ⟨h1, h2⟩
end Go.Proofs.YthamfhenadaapaaGreatDoor
