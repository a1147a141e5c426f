
/- layout: meets, meetsOne. -/
import Derived.Test.YtkpopdkkobelaaaLa4
namespace Go.Proofs.Ytkpopdkkobelaaa
open Go.RowKit Go.Sort Go.Shelf
attribute [local go_sem] Oper.semAt_some

abbrev EX := Int × Int
def exC (e : EX) : List Value := [.int .u64 e.1, .int .u64 e.2]
def exV (e : EX) : Value := .agg #[.int .u64 e.1, .int .u64 e.2]
theorem exC_len (l : List EX) : ∀ r ∈ l.map exC, r.length = 2 := by
  intro r hr
  obtain ⟨x, _, rfl⟩ := List.mem_map.1 hr
  rfl
theorem exC_one (l : List EX) : ∀ r ∈ l.map exC, ∀ u ∈ r, u.oneCell' = true := by
  intro r hr u hu
  obtain ⟨x, _, rfl⟩ := List.mem_map.1 hr
  simp only [exC, List.mem_cons, List.not_mem_nil, or_false] at hu
  rcases hu with rfl | rfl <;> rfl
theorem infoEx : (Try.prog.info? 73).map (fun i => (i.zero, i.size, i.bytes)) = some (some (.agg #[.int .u64 0, .int .u64 0]), 2, 16) := by kernel_rfl
def meetB (x y : EX) : Bool := decide (x.1 < y.2) && decide (y.1 < x.2)

set_option maxHeartbeats 2000000 in
theorem meets_any (x y : EX) (w : World) :
    Calls Try.prog 47 #[exV x, exV y] w fun e w' => e = .returned (.bool (meetB x y)) ∧ Below w.heap.size w w' := by
  have HB := hid (show Below w.heap.size w ((w.alloc (.cells #[.int .u64 x.1, .int .u64 x.2] 73)).alloc (.cells #[.int .u64 y.1, .int .u64 y.2] 73)) from (bal _).alloc (by simp) _)
  have HM : Hid (meetB x y = (decide (x.1 < y.2) && decide (y.1 < x.2))) := hid rfl
  unfold exV
  cases h1 : decide (x.1 < y.2)
  · rw [h1] at HM
    go_enter Try.func47, Try.ntmps47
    go_wp2_with fail
    go_ret
    exact ⟨ret_bool HM.out.symm, HB.out⟩
  · rw [h1] at HM
    cases h2 : decide (y.1 < x.2)
    · rw [h2] at HM
      go_enter Try.func47, Try.ntmps47
      go_wp2_with fail
      go_ret
      exact ⟨ret_bool HM.out.symm, HB.out⟩
    · rw [h2] at HM
      go_enter Try.func47, Try.ntmps47
      go_wp2_with fail
      go_ret
      exact ⟨ret_bool HM.out.symm, HB.out⟩

theorem ex_cells {w : World} {a : Option Addr} {n : Nat} {l : List EX} (h : Rk w 2 a n (l.map exC)) {k : Nat} (hk : k < l.length) : ∃ b off, a = some ⟨b, off, none⟩ ∧ w.cell? ⟨b, off + k * 2, none⟩ = some (.int .u64 l[k].1) ∧ w.cell? ⟨b, off + k * 2 + 1, none⟩ = some (.int .u64 l[k].2) := by
  obtain ⟨b, off, rfl, hc⟩ := h.some_of (by simp; omega)
  have hk' : k < (l.map exC).length := by simpa using hk
  have e : (l.map exC)[k] = exC l[k] := by simp
  have g := fun j hj => hc k hk' j hj
  rw [e] at g
  exact ⟨b, off, rfl, g 0 (by simp [exC]), g 1 (by simp [exC])⟩

set_option maxRecDepth 100000 in
set_option maxHeartbeats 4000000 in
theorem indexF_any (x : EX) (a : Option Addr) (c : Nat) (l : List EX) (w : World) (hR : Rk w 2 a l.length (l.map exC)) (hl : l.length ≤ 1000000) :
    Calls Try.prog 50 #[.slice a l.length c, .func (.func 47) #[exV x] #[]] w fun e w' => (∃ v : Int, e = .returned (.int .i64 v) ∧ decide (0 ≤ v) = l.any (meetB x)) ∧ Below w.heap.size w w' := by
  have HR := hid hR
  have hent : ∀ args w, (callFunc 47 args).run Try.prog w = .ok (.enter 47 args) w := fun _ _ => by kernel_rfl
  have HM := hid (fun y wx => meets_any x y wx)
  unfold exV at HM ⊢
  clear hR
  go_enter Try.func50, Try.ntmps50
  go_wp2_with fail
  go_loopw [8] (fun i wr => ∃ k : Nat, k ≤ l.length ∧ i = .int .i64 k ∧ (l.take k).any (meetB x) = false ∧ Below w.heap.size w wr) (fun i _ => l.length - (intOf i).toNat)
  case atStart => exact ⟨0, Nat.zero_le _, rfl, rfl, Below.refl _ _⟩
  case round =>
    obtain ⟨k, hk, rfl, hno, hb⟩ := hrel
    have HNO := hid hno
    have HB := hid hb
    clear hno hb
    by_cases hlt : k < l.length
    · have d1 : decide ((k : Int) < (l.length : Int)) = true := by simp; omega
      have d1n : decide (k < l.length) = true := by simp; omega
      obtain ⟨b, off, rfl, x0, x1⟩ := ex_cells (HR.out.below' HB.out) hlt
      have HT := hid (show (l.take (k + 1)).any (meetB x) = ((l.take k).any (meetB x) || meetB x l[k]) by rw [List.take_succ_eq_append_getElem hlt, List.any_append]; simp)
      have HA := hid (show meetB x l[k] = true → l.any (meetB x) = true from fun h => List.any_eq_true.2 ⟨_, List.getElem_mem hlt, h⟩)
      have HMK := hid (HM.out l[k] wr)
      have hbl := World.block_lt_of_cell? wr _ x0
      generalize l[k] = y at *
      cases hm : meetB x y
      · rw [hm] at HMK HT
        clear hm
        go_wp2_with fail
        refine (HMK.out).mono ?_
        rintro e' w2 ⟨rfl, hb⟩
        have HB2 := hid (bthen HB.out hb)
        clear hb x0 x1 hbl
        go_wp2_with fail
        go_roundw
        case rel => exact ⟨k + 1, by omega, by go_num, by rw [HT.out, HNO.out]; rfl, HB2.out⟩
        case measure => simp [intOf]; omega
      · rw [hm] at HMK
        have HF := hid (HA.out hm)
        clear hm
        go_wp2_with fail
        refine (HMK.out).mono ?_
        rintro e' w2 ⟨rfl, hb⟩
        have HB2 := hid (bthen HB.out hb)
        clear hb x0 x1 hbl
        go_wp2_with fail
        go_ret
        exact ⟨⟨_, rfl, by rw [HF.out]; simp⟩, HB2.out⟩
    · have d1 : decide ((k : Int) < (l.length : Int)) = false := by simp; omega
      have d1n : decide (k < l.length) = false := by simp; omega
      have HF := hid (show l.any (meetB x) = false by have := HNO.out; rwa [List.take_of_length_le (by omega)] at this)
      go_wp2_with fail
      go_ret
      exact ⟨⟨_, rfl, by rw [HF.out]; rfl⟩, HB.out⟩
theorem containsF_any (x : EX) (a : Option Addr) (c : Nat) (l : List EX) (w : World) (hR : Rk w 2 a l.length (l.map exC)) (hl : l.length ≤ 1000000) :
    Calls Try.prog 46 #[.slice a l.length c, .func (.func 47) #[exV x] #[]] w fun e w' => e = .returned (.bool (l.any (meetB x))) ∧ Below w.heap.size w w' := by
  have HI := hid (indexF_any x a c l w hR hl)
  unfold exV at HI ⊢
  clear hR
  go_enter Try.func46, Try.ntmps46
  go_wp2_with fail
  refine (HI.out).mono ?_
  rintro e' w2 ⟨⟨v, rfl, hv⟩, hb⟩
  have HV := hid hv
  have HB := hid hb
  clear hv hb
  go_wp2_with fail
  go_ret
  exact ⟨ret_bool HV.out, HB.out⟩

theorem Row.ownsK {w : World} {g E : Nat} {cs : List Value} (h : Row w g E cs) {base k : Nat} (hb : base ≤ g) (hk : cs.length = k) : w.ownsRow base E k (.slice (some ⟨g, 0, none⟩) 1 1) 1 cs :=
  ⟨by omega, .inr ⟨g, 1, cs.toArray, rfl, hb, h.heap, Nat.le_refl _, by unfold maxLen; omega, by simp [hk], by simp [← hk]⟩⟩
def stackX : EX := (140737488334848, 140737488351232)
set_option maxRecDepth 100000 in
set_option maxHeartbeats 4000000 in
theorem meetsOne_any (a : Option Addr) (c : Nat) (l : List EX) (w : World) (hR : Rk w 2 a l.length (l.map exC)) (hn : a = none → c = 0) (hl : l.length ≤ 1000000) :
    Calls Try.prog 32 #[.slice a l.length c] w fun e w' => ∃ g a' c', e = .returned (.func (.func 45) #[] #[.pointer (some ⟨g, 0, none⟩)]) ∧ Row w' g 70 [.slice a' (stackX :: l).length c'] ∧ Rk w' 2 a' (stackX :: l).length ((stackX :: l).map exC) ∧ Below w.heap.size w w' := by
  have HR := hid (fun (o : Obj) => hR.below' (bal o))
  have HO := hid (show OwnK (w.alloc (.cells #[.int .u64 140737488334848, .int .u64 140737488351232] 73)) w.heap.size 73 2 (.slice (some ⟨w.heap.size, 0, none⟩) 1 1) ([stackX].map exC) from own_ext ((Row.new w 73 (exC stackX)).ownsK (k := 2) (base := w.heap.size) (Nat.le_refl _) rfl) rfl (by simp))
  have HONE := hid (exC_one l)
  have HN1 := hid (show (([stackX].map exC).length + l.length) * 16 ≤ 140737488355328 by simp; omega)
  have HN2 := hid (show ([stackX].map exC).length + l.length ≤ maxLen by unfold maxLen; simp; omega)
  have HB := hid (@bal w)
  have HNN := hid hn
  clear hR hn
  go_enter Try.func32, Try.ntmps32
  go_wp2_with (at_builtin; go_must (refine wpList_appKg Try.underlying70 infoEx rfl (by decide) rfl _ _ rfl w.heap.size (.slice (some ⟨w.heap.size, 0, none⟩) 1 1) ([stackX].map exC) (l.map exC) rfl a l.length c rfl HO.out (HR.out _) HONE.out HNN.out HN1.out HN2.out (HB.out _).size ?_; intro v' w2 hown hgrow hb; have HO2 := hid (show OwnK w2 w.heap.size 73 2 v' ((stackX :: l).map exC) from hown); have HB2 := hid ((HB.out _).trans hb); have HBA := hid (fun o => HB2.out.alloc HB2.out.size o); obtain ⟨a', c', rfl, hrk, _⟩ := own_rk hown (by simpa using exC_len (stackX :: l)) (by decide); have HRK := hid hrk; clear hrk; clear hown hgrow hb))
  go_ret
  refine ⟨_, a', c', rfl, Row.new w2 70 [.slice a' (l.length + 1) c'], ?_, HBA.out _⟩
  have := HRK.out.below' (bal (.cells #[.slice a' (l.length + 1) c'] 70))
  simpa using this
set_option maxHeartbeats 4000000 in
theorem meetsOne1_any (x : EX) (g : Nat) (a : Option Addr) (c : Nat) (l : List EX) (w : World) (hg : Row w g 70 [.slice a l.length c]) (hR : Rk w 2 a l.length (l.map exC)) (hl : l.length ≤ 1000000) :
    Calls Try.prog 45 #[exV x, .pointer (some ⟨g, 0, none⟩)] w fun e w' => e = .returned (.bool (l.any (meetB x))) ∧ Below w.heap.size w w' := by
  have HC := hid (fun (o : Obj) => containsF_any x a c l (w.alloc o) (hR.below' (bal o)) hl)
  have HB := hid (@bal w)
  have hc := hg.cell 0 (by simp)
  simp only [List.getElem_cons_zero] at hc
  have hl := hg.lt
  unfold exV at HC ⊢
  clear hg hR
  go_enter Try.func45, Try.ntmps45
  go_wp2_with fail
  refine (HC.out _).mono ?_
  rintro e' w2 ⟨rfl, hb⟩
  have HB2 := hid (bthen (HB.out _) hb)
  clear hb
  go_wp2_with fail
  go_ret
  exact ⟨rfl, HB2.out⟩
end Go.Proofs.Ytkpopdkkobelaaa
