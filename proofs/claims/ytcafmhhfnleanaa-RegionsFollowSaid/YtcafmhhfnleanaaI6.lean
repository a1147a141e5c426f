/- Comparing regions; the reference's Eq and Copy; Large, roomy, kept. -/
import Derived.Test.YtcafmhhfnleanaaI3
import Derived.Deep.DeepMust
import Derived.Laws.AppendOwnNone
namespace Go.Proofs.Ytcafmhhfnleanaa
open Go.RowKit Go.Sort

def eqR (x y : RG) : Bool := x.fr == y.fr && (x.to == y.to && (x.pr == y.pr && (x.ino == y.ino && x.off == y.off)))
theorem eqR_self (x : RG) : eqR x x = true := by simp [eqR]
theorem eqR_of {x y : RG} (h : eqR x y = true) : x = y := by
  unfold eqR at h
  simp only [Bool.and_eq_true, beq_iff_eq] at h
  exact RG.same h.1 h.2.1 h.2.2.1 h.2.2.2.1 h.2.2.2.2
theorem rg_neq (w : World) (x y : RG) : (binOp .neq 25 (rgV x) (rgV y)).run Try.prog w = .ok (.bool (!eqR x y)) w := by
  rw [run_neq_struct, run_equalIn_agg w 9999 _ _ _ (by kernel_rfl) (by kernel_rfl)]
  simp [go_sem, Try.underlying25, Try.underlying3, Try.underlying23, Try.underlying5, Program.fieldsOf, eqR]
  repeat' split
  all_goals simp_all
theorem rg_eql (w : World) (x y : RG) : (binOp .eql 25 (rgV x) (rgV y)).run Try.prog w = .ok (.bool (eqR x y)) w := by
  rw [run_eql_struct, run_equalIn_agg w 9999 _ _ _ (by kernel_rfl) (by kernel_rfl)]
  simp [go_sem, Try.underlying25, Try.underlying3, Try.underlying23, Try.underlying5, Program.fieldsOf, eqR]
  repeat' split
  all_goals simp_all

set_option maxHeartbeats 2000000 in
theorem eqRegs_any (a b : Option Addr) (len capa capb : Nat) (l : List RG) (w : World) (hA : Rgs w a len l) (hB : Rgs w b len l) (hl : len ≤ 9223372036854775807) :
    Calls Try.prog 21 #[.slice a len capa, .slice b len capb] w fun e w' => e = .returned (.bool true) ∧ ∃ n, w' = w.drewN n := by
  obtain rfl := hA.hlen
  have HA := hid hA
  have HB := hid hB
  clear hA hB
  have hne : ∀ (w : World) (f t p i o : Int), (binOp .neq 25 (.agg #[.int .u64 f, .int .u64 t, .int .u8 p, .int .i64 i, .int .u64 o]) (.agg #[.int .u64 f, .int .u64 t, .int .u8 p, .int .i64 i, .int .u64 o])).run Try.prog w = .ok (.bool false) w := fun w f t p i o => by
    have h := rg_neq w ⟨f, t, p, i, o⟩ ⟨f, t, p, i, o⟩
    rw [eqR_self] at h
    exact h
  go_enter Try.func21, Try.ntmps21
  go_wp2_with fail
  go_loopw [5] (fun i wr => ∃ k : Nat, k ≤ l.length ∧ i = .int .i64 k ∧ ∃ n, wr = w.drewN n) (fun i _ => l.length - (intOf i).toNat)
  case atStart => exact ⟨0, Nat.zero_le _, rfl, 0, rfl⟩
  case round =>
    obtain ⟨k, hk, rfl, n, rfl⟩ := hrel
    by_cases h1 : k < l.length
    · have d1 : decide ((k : Int) < (l.length : Int)) = true := by simp; omega
      have d1n : decide (k < l.length) = true := by simp; omega
      obtain ⟨ba, oa, rfl, hca⟩ := HA.out.cell k h1
      obtain ⟨bb, ob, rfl, hcb⟩ := HB.out.cell k h1
      have hlb := World.block_lt_of_cell? _ _ hca.1
      have hlb2 := World.block_lt_of_cell? _ _ hcb.1
      obtain ⟨x0, x1, x2, x3, x4⟩ := hca
      obtain ⟨y0, y1, y2, y3, y4⟩ := hcb
      generalize l[k] = sk at *
      obtain ⟨f, t, p, i, o⟩ := sk
      go_wp2_with fail
      go_quiet (fail)
      go_wp2_with fail
      go_roundw
      case rel => exact ⟨k + 1, by omega, by go_num, n + nq, by simp [World.drewN, Nat.add_assoc]⟩
      case measure => simp [intOf]; omega
    · have d1 : decide ((k : Int) < (l.length : Int)) = false := by simp; omega
      have d1n : decide (k < l.length) = false := by simp; omega
      go_wp2_with fail
      go_ret
      exact ⟨rfl, n, rfl⟩

theorem infoReg : (Try.prog.info? 25).map (fun i => (i.zero, i.size, i.bytes)) = some (some (.agg #[.int .u64 0, .int .u64 0, .int .u8 0, .int .i64 0, .int .u64 0]), 5, 40) := by kernel_rfl

theorem large_any (a : Option Addr) (len cap : Nat) (w : World) :
    Calls Try.prog 9 #[.slice a len cap] w fun e w' => e = .returned (.bool (decide (300 < (len : Int)))) ∧ w = w' := by
  go_enter Try.func9, Try.ntmps9
  go_wp2_with fail
  go_ret
  exact ⟨rfl, rfl⟩

set_option maxHeartbeats 2000000 in
theorem copyRegs_any (a : Option Addr) (len cap : Nat) (l : List RG) (w : World) (hA : Rgs w a len l) (hcap : a = none → cap = 0) (hl : len ≤ 1000000) :
    Calls Try.prog 31 #[.slice a len cap] w fun e w' => ∃ v, e = .returned v ∧ w'.ownsRow w.heap.size 25 5 v len (flat5 l) ∧ Below w.heap.size w w' := by
  obtain rfl := hA.hlen
  go_enter Try.func31, Try.ntmps31
  obtain ⟨i0, hi, hz0, hz1, hz2⟩ := info_parts infoReg
  cases a with
  | none =>
    obtain rfl : l = [] := by
      cases l with
      | nil => rfl
      | cons x l => obtain ⟨_, _, h, _⟩ := hA.some_of (by simp); cases h
    obtain rfl := hcap rfl
    go_wp2_with (at_builtin; go_must (refine wpList_append_own_none rfl _ _ 22 rfl w.heap.size 25 i0 5 Try.underlying22 hi (.slice none 0 0) 0 (flat5 []) rfl own_rgs_nil rfl ?_))
    go_ret
    exact ⟨_, rfl, own_rgs_nil, Below.refl _ _⟩
  | some ad =>
    go_wp2_with (at_builtin; go_must (refine wpList_apps5 _ rfl _ _ 22 rfl w.heap.size 25 Try.underlying22 infoReg (.slice none 0 0) 0 [] rfl own_rgs_nil ad l.length cap l rfl hA (by omega) hl (Nat.le_refl _) ?_; intro v' w2 hown' hgrow))
    go_ret
    exact ⟨_, rfl, by simpa using hown', grown_low (E := 25) own_rgs_nil hgrow (Below.refl _ _) (Nat.le_refl _) (Nat.le_refl _)⟩

def rg77 : RG := ⟨77, 0, 0, 0, 0⟩
/-- A list of the call's own with at least one element has an address. -/
theorem own_some5 {w : World} {base n : Nat} {E : TypeId} {v : Value} {l : List RG} (h : w.ownsRow base E 5 v n (flat5 l)) (hn : 0 < n) : ∃ G c, v = .slice (some ⟨G, 0, none⟩) n c ∧ n ≤ c ∧ c ≤ maxLen ∧ base ≤ G ∧ G < w.heap.size := by
  obtain ⟨a, cap, rfl, _, h1, h2, h3, h4⟩ := own_rgs h
  cases a with
  | none => have := (h1 rfl).2; omega
  | some b =>
    obtain ⟨G, rfl, h5, h6, _⟩ := h4 b rfl
    exact ⟨G, cap, rfl, h2, h3, h5, h6⟩

set_option maxHeartbeats 2000000 in
theorem roomy_any (a : Option Addr) (len cap : Nat) (l : List RG) (w : World) (hA : Rgs w a len l) (hcap : a = none → cap = 0) (hl : len ≤ 300) :
    Calls Try.prog 11 #[.slice a len cap] w fun e w' => ∃ G c, e = .returned (.slice (some ⟨G, 0, none⟩) len c) ∧ w'.ownsRow w.heap.size 25 5 (.slice (some ⟨G, 0, none⟩) (len + 1) c) (len + 1) (flat5 (l ++ [rg77])) ∧ Below w.heap.size w w' := by
  go_enter Try.func11, Try.ntmps11
  go_wp2_with fail
  refine (copyRegs_any _ _ _ l _ hA hcap (by omega)).mono ?_
  rintro e' w1 ⟨v, rfl, ho, hb⟩
  have HO := hid (fun o => ho.alloc o)
  have HB := hid (fun o => bal2 hb o)
  have HL := hid (fun o => (by have := hb.size; simp; omega : w.heap.size ≤ (w1.alloc o).heap.size))
  have HN := hid (new_rg w1 25 rg77)
  clear ho hb
  go_wp2_with (at_builtin; go_must (refine wpList_app5 _ rfl _ _ 22 rfl w.heap.size 25 Try.underlying22 infoReg v len l rfl (HO.out _) w1.heap.size rg77 rfl HN.out (by omega) (HL.out _) ?_; intro v' w2 hown' hgrow _; have hb2 := hid (grown_low (HO.out _) hgrow (HB.out _) (Nat.le_refl _) (HL.out _)); obtain ⟨G, c, rfl, hc1, hc2, hc3, hc4⟩ := own_some5 hown' (Nat.succ_pos _); have HO2 := hid hown'; clear hown' hgrow))
  go_ret
  exact ⟨G, c, rfl, HO2.out, hb2.out⟩

set_option maxHeartbeats 2000000 in
theorem kept_any (G c : Nat) (a : Option Addr) (len cap : Nat) (l : List RG) (w : World) (hN : Rgs w (some ⟨G, 0, none⟩) (len + 1) (l ++ [rg77])) (hc : len + 1 ≤ c) (hcm : c ≤ maxLen) (hB : Rgs w a len l) (hl : len ≤ 300) :
    Calls Try.prog 18 #[.slice (some ⟨G, 0, none⟩) len c, .slice a len cap] w fun e w' => e = .returned (.bool true) ∧ Below w.heap.size w w' := by
  obtain rfl := hB.hlen
  unfold maxLen at hcm
  have HN1 : Rgs w (some ⟨G, 0, none⟩) l.length l := ⟨rfl, fun i hi => by
    obtain ⟨b, off, e, h⟩ := hN.cell i (by simp; omega)
    rw [List.getElem_append_left hi] at h
    exact ⟨b, off, e, h⟩⟩
  have H77 : rgCells w G (l.length * 5) rg77 := by
    obtain ⟨b, off, e, h⟩ := hN.cell l.length (by simp)
    cases e
    simpa using h
  have heq : ∀ w : World, (binOp .eql 25 (.agg #[.int .u64 77, .int .u64 0, .int .u8 0, .int .i64 0, .int .u64 0]) (.agg #[.int .u64 77, .int .u64 0, .int .u8 0, .int .i64 0, .int .u64 0])).run Try.prog w = .ok (.bool true) w := fun w => by
    have h := rg_eql w rg77 rg77
    rw [eqR_self] at h
    exact h
  go_enter Try.func18, Try.ntmps18
  go_wp2_with fail
  refine (eqRegs_any _ _ _ _ _ l _ HN1 hB (by omega)).mono ?_
  rintro e' w1 ⟨rfl, n, rfl⟩
  have h7 := H77.below (bdN (Below.refl w.heap.size w) n)
  obtain ⟨y0, y1, y2, y3, y4⟩ := h7
  simp only [rg77] at y0 y1 y2 y3 y4
  have hlb := World.block_lt_of_cell? _ _ y0
  clear HN1 H77 hN hB
  go_wp2_with fail
  go_ret
  exact ⟨rfl, bdN (Below.refl _ _) n⟩
end Go.Proofs.Ytcafmhhfnleanaa
