
/- stack.Lay's closure, and layAll. -/
import Derived.Test.YtihaakcfegelkaaDoorTl2
import Derived.Test.YtihaakcfegelkaaDoorX2
import Derived.Lib.BufferWrite
import Derived.Lib.SlBuf
namespace Go.Proofs.YtihaakcfegelkaaDoor
open Go.RowKit Go.Sort
attribute [local go_sem] Oper.semAt_some

/-- The stack at g that is laid from above: S lies above low. -/
structure LB (w : World) (c1 c2 c3 g n sp low : Nat) (S : BL) : Prop where
  r1 : Row w c1 3 [.int .i64 (low : Int)]
  r2 : Row w c2 29 [.slice (some ⟨g, 0, none⟩) n n]
  r3 : Row w c3 30 [.int .u64 (sp : Int)]
  rg : Row w g 5 ((List.replicate low 0 ++ S).map B8)
  len : low + S.length = n
theorem lay_splice (low m : Nat) (s S : BL) (h : s.length + 1 + m = low) : (List.replicate low (0 : UInt8) ++ S).take m ++ s ++ (List.replicate low (0 : UInt8) ++ S).drop (m + s.length) = List.replicate m 0 ++ (s ++ [0] ++ S) := by
  subst h
  rw [List.take_append_of_le_length (by simp), List.take_replicate, Nat.min_eq_left (by omega)]
  rw [List.drop_append_of_le_length (by simp; omega), List.drop_replicate]
  rw [show s.length + 1 + m - (m + s.length) = 1 by omega]
  simp
theorem ret_u64 {a b : Int} (h : a = b) : Ending.returned (.int .u64 a) = .returned (.int .u64 b) := by rw [h]
def LayPost (w : World) (c1 c2 c3 g n sp low : Nat) (S s : BL) (e : Ending) (w' : World) : Prop :=
  e = .returned (.int .u64 ((sp + (low - (s.length + 1)) : Nat) : Int)) ∧ LB w' c1 c2 c3 g n sp (low - (s.length + 1)) (s ++ [0] ++ S) ∧ X2 w w' c1 g

set_option maxRecDepth 100000 in
set_option maxHeartbeats 4000000 in
theorem lay_any (c1 c2 c3 g n sp low : Nat) (S s : BL) (w : World) (h : LB w c1 c2 c3 g n sp low S) (hs : s.length + 1 ≤ low) (hn : n ≤ 16384) (hsp : sp + n < 18446744073709551616) :
    Calls Tryd.prog 21 #[.string (ba s), .pointer (some ⟨c1, 0, none⟩), .pointer (some ⟨c2, 0, none⟩), .pointer (some ⟨c3, 0, none⟩)] w (LayPost w c1 c2 c3 g n sp low S s) := by
  have H := hid h
  obtain ⟨m, hm⟩ : ∃ m, m = low - (s.length + 1) := ⟨_, rfl⟩
  have n12 := rows_ne2 h.r1 h.r2 (by decide)
  have n13 := rows_ne2 h.r1 h.r3 (by decide)
  have n1g := rows_ne2 h.r1 h.rg (by decide)
  have n2g := rows_ne2 h.r2 h.rg (by decide)
  have n3g := rows_ne2 h.r3 h.rg (by decide)
  have HL := hid h.len
  have x1 := h.r1.cell 0 (by simp)
  have x2 := h.r2.cell 0 (by simp)
  have x3 := h.r3.cell 0 (by simp)
  have f1 := h.r1.frozen 0
  have hl1 := h.r1.lt
  have hl2 := h.r2.lt
  have hl3 := h.r3.lt
  simp only [List.getElem_cons_zero] at x1 x2 x3
  have hz : ((ba s).size : Int) = (s.length : Int) := by rw [ba_size]
  have HM := hid hm
  have hlow := h.len
  have e1 : IntKind.i64.wrap ((low : Int) - ((s.length : Int) + 1)) = (m : Int) := by rw [IntWalk.i64_in _ (by omega)]; omega
  have e0 : IntKind.i64.wrap ((s.length : Int) + 1) = (s.length : Int) + 1 := IntWalk.i64_in _ (by omega)
  have e2 : IntKind.u64.wrap (m : Int) = (m : Int) := IntWalk.u64_in _ (by omega)
  have e3 : IntKind.u64.wrap ((sp : Int) + (m : Int)) = ((sp + m : Nat) : Int) := by rw [IntWalk.u64_in _ (by omega)]; omega
  obtain ⟨W1, hW1⟩ : ∃ W1, W1 = w.setCell ⟨c1, 0, none⟩ (.int .i64 (m : Int)) := ⟨_, rfl⟩
  have hr1 : Row W1 c1 3 [.int .i64 (m : Int)] := by rw [hW1]; exact h.r1.set1 _
  have hr2 : Row W1 c2 29 [.slice (some ⟨g, 0, none⟩) n n] := by rw [hW1]; exact h.r2.other (by exact fun e => n12 e.symm) _
  have hr3 : Row W1 c3 30 [.int .u64 (sp : Int)] := by rw [hW1]; exact h.r3.other (by exact fun e => n13 e.symm) _
  have hrg : Row W1 g 5 ((List.replicate low 0 ++ S).map B8) := by rw [hW1]; exact h.rg.other (by exact fun e => n1g e.symm) _
  have y1 := hr1.cell 0 (by simp)
  have y2 := hr2.cell 0 (by simp)
  have y3 := hr3.cell 0 (by simp)
  have k1 := hr1.lt
  have k2 := hr2.lt
  have k3 := hr3.lt
  simp only [List.getElem_cons_zero] at y1 y2 y3
  have hsl := slFrom .i64 g 0 n n m (m : Int) rfl (by omega) (Nat.le_refl _) (by omega) W1
  rw [Nat.zero_add] at hsl
  have hcp := Lib.run_copy_row_string (P := Tryd.prog) W1 29 9 3 5 g m (n - m) (n - m) (ba s) _ 5 Tryd.underlying29 (by kernel_rfl) hrg.heap (by rw [ba_size]; omega) (by rw [ba_size]; simp; omega)
  obtain ⟨W2, hW2⟩ : ∃ W2, W2 = W1.setRow g ((((List.replicate low 0 ++ S).map B8).toArray.toList.take m ++ Lib.byteCells (ba s).data.toList ++ (((List.replicate low 0 ++ S).map B8).toArray.toList.drop (m + (ba s).size))).toArray) := ⟨_, rfl⟩
  rw [← hW2] at hcp
  have q1 : Row W2 c1 3 [.int .i64 (m : Int)] := by rw [hW2]; exact ⟨by rw [setRow_other W1 g c1 _ n1g]; exact hr1.heap⟩
  have q2 : Row W2 c2 29 [.slice (some ⟨g, 0, none⟩) n n] := by rw [hW2]; exact ⟨by rw [setRow_other W1 g c2 _ n2g]; exact hr2.heap⟩
  have q3 : Row W2 c3 30 [.int .u64 (sp : Int)] := by rw [hW2]; exact ⟨by rw [setRow_other W1 g c3 _ n3g]; exact hr3.heap⟩
  have qg : Row W2 g 5 ((List.replicate m 0 ++ (s ++ [0] ++ S)).map B8) := by
    rw [hW2]
    refine ⟨?_⟩
    have := setRow_heap W1 g _ ((((List.replicate low 0 ++ S).map B8).toArray.toList.take m ++ Lib.byteCells (ba s).data.toList ++ (((List.replicate low 0 ++ S).map B8).toArray.toList.drop (m + (ba s).size))).toArray) 5 _ hrg.heap
    rw [this, ← lay_splice low m s S (by omega), ba_size, ba_list]
    congr 2
    simp [Lib.byteCells, B8]
  have HLB := hid (show LB W2 c1 c2 c3 g n sp m (s ++ [0] ++ S) from ⟨q1, q2, q3, qg, by simp; omega⟩)
  have HX := hid (show X2 w W2 c1 g by rw [hW2, hW1]; exact ((X2.refl w c1 g).set (.inl rfl) 0 _).setRow (.inr (.inl rfl)) _)
  have z1 := q1.cell 0 (by simp)
  have z3 := q3.cell 0 (by simp)
  simp only [List.getElem_cons_zero] at z1 z3
  have m1 := q1.lt
  have m3 := q3.lt
  have HW1 := hid hW1
  have HW2 := hid hW2
  clear h q1 q2 q3 qg hr1 hr2 hr3 hrg hW2 n1g n2g n3g hm hlow hs
  have n21 := n12.symm
  have n31 := n13.symm
  rw [hW1] at y1 y2 y3 k1 k2 k3 hsl hcp
  clear hW1
  go_enter Tryd.func21, Tryd.ntmps21
  go_wp2_with fail
  go_ret
  exact ⟨ret_u64 (by rw [← HM.out]; omega), by rw [← HM.out]; exact HLB.out, HX.out⟩

theorem X2.lbStill {w w' : World} {c1 c2 c3 g n sp low : Nat} {S : BL} (_x : X2 w w' c1 g) (h : LB w c1 c2 c3 g n sp low S) (hb : Below w.heap.size w w') : LB w' c1 c2 c3 g n sp low S :=
  ⟨h.r1.below hb h.r1.lt, h.r2.below hb h.r2.lt, h.r3.below hb h.r3.lt, h.rg.below hb h.rg.lt, h.len⟩
theorem LB.setOther {w : World} {c1 c2 c3 g n sp low : Nat} {S : BL} (h : LB w c1 c2 c3 g n sp low S) {b : Nat} (h1 : c1 ≠ b) (hg : g ≠ b) (h2 : c2 ≠ b) (h3 : c3 ≠ b) {o : Nat} (u : Value) : LB (w.setCell ⟨b, o, none⟩ u) c1 c2 c3 g n sp low S :=
  ⟨h.r1.other h1 u, h.r2.other h2 u, h.r3.other h3 u, h.rg.other hg u, h.len⟩
/-- The addresses that layAll tells. -/
def layAt (sp low : Nat) (l : List BL) : List Nat := atsL (sp + (low - tbN l)) l
theorem layAt_len (sp low : Nat) (l : List BL) : (layAt sp low l).length = l.length := atsL_len _ _
theorem layAt_get {sp low : Nat} {l : List BL} {i : Nat} (h : i < l.length) : (layAt sp low l)[i]'(by rw [layAt_len]; exact h) = sp + (low - tbN l) + tbN (l.take i) := atsL_get _ _ _ _
def LayAllPost (w : World) (c1 c2 c3 g n sp low : Nat) (S : BL) (l : List BL) (e : Ending) (w' : World) : Prop :=
  ∃ G, e = .returned (.slice (some ⟨G, 0, none⟩) l.length l.length) ∧ w.heap.size ≤ G ∧ Row w' G 30 (u64s (layAt sp low l)) ∧ LB w' c1 c2 c3 g n sp (low - tbN l) (catZ l ++ S) ∧ X2 w w' c1 g
theorem catZ_drop {l : List BL} {k : Nat} (h : k < l.length) : catZ (l.drop k) = l[k] ++ [0] ++ catZ (l.drop (k + 1)) := by rw [List.drop_eq_getElem_cons h, catZ_cons]
theorem tbN_drop {l : List BL} {k : Nat} (h : k < l.length) : tbN (l.drop k) = (l[k].length + 1) + tbN (l.drop (k + 1)) := by
  have e : ∀ (s : BL) (r : List BL), tbN (s :: r) = (s.length + 1) + tbN r := fun s r => by unfold tbN; rw [List.map_cons, List.sum_cons]
  rw [List.drop_eq_getElem_cons h, e]

set_option maxRecDepth 100000 in
set_option maxHeartbeats 4000000 in
theorem layAll_any (c1 c2 c3 g n sp low : Nat) (S : BL) (a : Option Addr) (ac : Nat) (l : List BL) (w : World) (h : LB w c1 c2 c3 g n sp low S) (hA : Cel w a l.length (strs l)) (hs : tbN l ≤ low) (hn : n ≤ 16384) (hsp : sp + n < 18446744073709551616) (hl : l.length ≤ 32)
    (hne : 0 < l.length → ∀ b, a = some b → b.block ≠ c1 ∧ b.block ≠ g) :
    Calls Tryd.prog 22 #[.slice a l.length ac, .func (.func 21) #[] #[.pointer (some ⟨c1, 0, none⟩), .pointer (some ⟨c2, 0, none⟩), .pointer (some ⟨c3, 0, none⟩)]] w (LayAllPost w c1 c2 c3 g n sp low S l) := by
  have H := hid h
  have HA := hid hA
  have HS := hid hs
  have HNE := hid hne
  have hg1 := h.rg.lt
  have hc1 := h.r1.lt
  have HL2 := hid h.r2.lt
  have HL3 := hid h.r3.lt
  have HLG := hid hg1
  have HLC := hid hc1
  clear h hA hs hne hg1 hc1
  go_enter Tryd.func22, Tryd.ntmps22
  go_wp2_with (at_make; refine wpList_make_row _ rfl _ _ 50 rfl 30 (.int .u64 0) 8 Tryd.underlying50 infoU64 rfl .i64 .i64 _ _ l.length rfl rfl rfl rfl (by omega) (by omega) ?_; intro w1 hr1 hb1 hs1; have HR1 := hid hr1; have HB1 := hid hb1; clear hr1 hb1 hs1)
  go_loopw [6] (fun i wr => ∃ k : Nat, k ≤ l.length ∧ i = .int .i64 ((k : Int) - 1) ∧ Row wr w.heap.size 30 (List.replicate k (Value.int .u64 0) ++ (u64s (layAt sp low l)).drop k) ∧ LB wr c1 c2 c3 g n sp (low - tbN (l.drop k)) (catZ (l.drop k) ++ S) ∧ X2 w wr c1 g) (fun i _ => (intOf i + 1).toNat)
  case atStart =>
    refine ⟨l.length, Nat.le_refl _, rfl, ?_, ?_, X2.of c1 g HB1.out⟩
    · rw [List.drop_eq_nil_of_le (by simp [layAt_len]), List.append_nil]; exact HR1.out
    · have e : tbN ([] : List BL) = 0 := rfl
      rw [List.drop_eq_nil_of_le (Nat.le_refl _), e, Nat.sub_zero]
      exact (X2.of c1 g HB1.out).lbStill H.out HB1.out
  case round =>
    obtain ⟨k, hk, rfl, hrow, hlb, hx⟩ := hrel
    have HR := hid hrow
    have HLB := hid hlb
    have HX := hid hx
    clear hrow hlb hx
    match k, hk, HR, HLB with
    | 0, hk, HR, HLB =>
      have d1 : decide ((0 : Int) ≤ ((0 : Nat) : Int) - 1) = false := rfl
      go_wp2_with fail
      go_ret
      exact ⟨w.heap.size, rfl, Nat.le_refl _, by simpa using HR.out, by simpa using HLB.out, HX.out⟩
    | j + 1, hk, HR, HLB =>
      have hj : j < l.length := by omega
      rw [show (((j + 1 : Nat) : Int) - 1) = (j : Int) by omega]
      have d1 : decide ((0 : Int) ≤ (j : Int)) = true := by simp
      have ej : IntKind.i64.wrap ((j : Int) - 1) = (j : Int) - 1 := IntWalk.i64_in _ (by omega)
      obtain ⟨b, off, rfl, hc⟩ := HA.out.some_of (by simp [strs]; omega)
      have hx : wr.cell? ⟨b, off + j, none⟩ = some (.string (ba l[j])) := by
        have h1 := strs_at hc hj
        have h2 := World.block_lt_of_cell? w _ h1
        have h3 := HNE.out (by omega) _ rfl
        have h4 := HX.out.block b h2 h3.1 h3.2
        unfold World.cell? at h1 ⊢
        rw [h4]; exact h1
      have htd := tbN_drop hj
      have hle : tbN (l.drop j) ≤ low := by have := tbN_split l j; have := HS.out; omega
      have HCL := hid (lay_any c1 c2 c3 g n sp (low - tbN (l.drop (j + 1))) (catZ (l.drop (j + 1)) ++ S) l[j] wr HLB.out (by omega) hn hsp)
      have HLL := hid (show low - tbN (l.drop (j + 1)) - (l[j].length + 1) = low - tbN (l.drop j) by omega)
      have HCC := hid (show l[j] ++ [0] ++ (catZ (l.drop (j + 1)) ++ S) = catZ (l.drop j) ++ S by rw [catZ_drop hj, List.append_assoc, List.append_assoc, List.append_assoc])
      have HAT := hid (show (layAt sp low l)[j]'(by rw [layAt_len]; exact hj) = sp + (low - tbN (l.drop j)) by rw [layAt_get hj]; have := tbN_split l j; have := HS.out; omega)
      clear hc htd hle
      generalize l[j] = t at *
      go_wp2_with fail
      refine (HCL.out).mono ?_
      rintro e' w2 ⟨rfl, hlb2, hx2⟩
      have HLB2 := hid hlb2
      have HX2 := hid hx2
      have hr2 := hx2.row HR.out (by have := HLC.out; omega) (by have := HLG.out; omega)
      have hfz := hr2.frozen j
      have hlt2 := hr2.lt
      have hlj : j < (u64s (layAt sp low l)).length := by rw [u64s_len, layAt_len]; exact hj
      have HSET := hid (Row.fillD (cs := u64s (layAt sp low l)) (z := .int .u64 0) (k := j) (u := .int .u64 ((sp + (low - tbN (l.drop (j + 1)) - (t.length + 1)) : Nat) : Int)) hr2 hlj (by rw [HLL.out, List.getElem_map, HAT.out]))
      have hcx := hr2.cell j (by simp; omega)
      have HNX := hid (show LB (w2.setCell ⟨w.heap.size, j, none⟩ (.int .u64 ((sp + (low - tbN (l.drop (j + 1)) - (t.length + 1)) : Nat) : Int))) c1 c2 c3 g n sp (low - tbN (l.drop j)) (catZ (l.drop j) ++ S) by
        have h5 := hlb2
        rw [HLL.out, HCC.out] at h5
        exact h5.setOther (by have := HLC.out; omega) (by have := HLG.out; omega) (by have := HL2.out; omega) (by have := HL3.out; omega) _)
      clear hr2 hlb2 hx2
      go_wp2_with fail
      go_roundw
      case rel => exact ⟨j, by omega, rfl, HSET.out, HNX.out, (HX.out.trans HX2.out).set (.inr (.inr (Nat.le_refl _))) _ _⟩
      case measure => simp [intOf]
end Go.Proofs.YtihaakcfegelkaaDoor
