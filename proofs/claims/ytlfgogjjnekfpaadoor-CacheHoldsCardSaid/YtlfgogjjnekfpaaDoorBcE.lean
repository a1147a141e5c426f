
/- hostellaw08: at, held; a world in which things are done. -/
import Derived.Test.YtlfgogjjnekfpaaDoorBcD
import Derived.Maps.AppendAt
namespace Go.Proofs.YtlfgogjjnekfpaaDoor
open Go.RowKit Go.Sort Go.Shelf Go.WideMaps Go.Maps Go.WideShapes Go.WideElems Go.MapKept Go.ChangeMaps
attribute [local go_sem] Oper.semAt_some

def nI (k : Nat) : Value := .int .i64 (k : Int)
/-- The frame at a place, counted round. -/
def atP (l : List Nat) (n : Int) : Option Nat := if l = [] ∨ n < 0 then none else l[n.toNat % l.length]?
def atE (o : Option Nat) : Value := match o with
  | some k => .tuple #[.int .i64 (k : Int), .bool true]
  | none => .tuple #[.int .i64 0, .bool false]
theorem atP_some {l : List Nat} {n : Int} (h : ¬ (l = [] ∨ n < 0)) : ∃ j, ∃ hj : j < l.length, n.tmod (l.length : Int) = (j : Int) ∧ atP l n = some l[j] ∧ j = n.toNat % l.length := by
  have hl : 0 < l.length := List.length_pos_iff.2 (fun e => h (.inl e))
  obtain ⟨q, rfl⟩ := Int.eq_ofNat_of_zero_le (show 0 ≤ n by omega)
  refine ⟨(q : Int).toNat % l.length, Nat.mod_lt _ hl, ?_, ?_, rfl⟩
  · rw [Int.tmod_eq_emod_of_nonneg (by omega), Int.toNat_natCast]
    exact (Int.natCast_emod q l.length).symm
  · unfold atP
    rw [if_neg h, List.getElem?_eq_getElem]
set_option maxRecDepth 100000 in
set_option maxHeartbeats 4000000 in
theorem at_any8 (a : Option Addr) (cap : Nat) (l : List Nat) (n : Int) (w : World) (h : Cel w a l.length (l.map nI)) :
    Calls Tryd.prog 44 #[.slice a l.length cap, .int .i64 n] w fun e w' => e = .returned (atE (atP l n)) ∧ w = w' := by
  by_cases hc : l = [] ∨ n < 0
  · have hR := hid (show atP l n = none by unfold atP; rw [if_pos hc])
    rw [hR.out]
    by_cases h0 : l = []
    · subst h0
      clear hc hR
      go_enter Tryd.func44, Tryd.ntmps44
      go_wp2_with fail
      go_ret2
      exact ⟨rfl, rfl⟩
    · have hn : n < 0 := hc.resolve_left h0
      have e1 : decide (n < 0) = true := decide_eq_true hn
      have hp : 0 < l.length := List.length_pos_iff.2 h0
      have e2 : ((l.length : Int) == 0) = false := by simp; exact h0
      have e3 : decide ((l.length : Int) = 0) = false := by simp; exact h0
      clear hc hR h0 hn
      go_enter Tryd.func44, Tryd.ntmps44
      go_wp2_with fail
      go_ret2
      exact ⟨rfl, rfl⟩
  · obtain ⟨j, hj, hm, hR, hjj⟩ := atP_some hc
    clear hjj
    have e1 : decide (n < 0) = false := decide_eq_false (fun e => hc (.inr e))
    have e2 : ((l.length : Int) == 0) = false := by simp; exact fun e => hc (.inl e)
    have e3 : decide ((l.length : Int) = 0) = false := by simp; exact fun e => hc (.inl e)
    obtain ⟨b, off, rfl, hat⟩ := h.some_of (by simp; omega)
    have x0 := hat j (by simpa using hj)
    rw [List.getElem_map] at x0
    unfold nI at x0
    have hj0 : (0 : Int) ≤ (j : Int) := by omega
    have hj1 : (j : Int) < (l.length : Int) := by omega
    rw [hR]
    unfold atE
    have hnz : ¬ (l.length : Int) = 0 := by omega
    generalize l[j] = y at *
    clear hc hR hat h
    go_enter Tryd.func44, Tryd.ntmps44
    go_wp2_with fail
    go_ret2
    exact ⟨rfl, rfl⟩
/-- How often a frame is held. -/
def ownW : TypeId := 53
set_option maxRecDepth 100000 in
set_option maxHeartbeats 4000000 in
theorem held_any (ob : Nat) (v0 v1 v2 v3 : Value) (a : Option Addr) (cap : Nat) (l : List Nat) (f : Int) (w : World) (hr : Row w ob 53 [v0, v1, v2, v3, .slice a l.length cap]) (h : Cel w a l.length (l.map nI)) (hl : l.length ≤ 1000000000) :
    Calls Tryd.prog 23 #[.pointer (some ⟨ob, 0, none⟩), .int .i64 f] w fun e w' => e = .returned (.int .i64 ((l.countP fun (k : Nat) => decide ((k : Int) = f) : Nat) : Int)) ∧ w = w' := by
  obtain ⟨c0, c1, c2, c3, c4⟩ := hr.five
  have hol := hr.lt
  have HL := hid hl
  clear hr hl
  go_enter Tryd.func23, Tryd.ntmps23
  go_wp2_with fail
  go_loopw [5, 6] (fun v i wr => w = wr ∧ ∃ k : Nat, k ≤ l.length ∧ i = .int .i64 k ∧ v = .int .i64 (((l.take k).countP fun (k : Nat) => decide ((k : Int) = f) : Nat) : Int)) (fun _ i _ => l.length - (intOf i).toNat)
  case atStart => exact ⟨rfl, 0, Nat.zero_le _, rfl, by simp⟩
  case round =>
    obtain ⟨rfl, k, hk, rfl, rfl⟩ := hrel
    have hl := HL.out
    by_cases hlt : k < l.length
    · have d1 : decide ((k : Int) < (l.length : Int)) = true := by simp; omega
      have d1n : decide (k < l.length) = true := by simp; omega
      obtain ⟨b, off, rfl, hat⟩ := h.some_of (by simp; omega)
      have x0 := hat k (by simpa using hlt)
      rw [List.getElem_map] at x0
      unfold nI at x0
      have hk0 : (0 : Int) ≤ (k : Int) := by omega
      have hk1 : (k : Int) < (l.length : Int) := by omega
      have HT := hid (show (l.take (k + 1)).countP (fun (k : Nat) => decide ((k : Int) = f)) = (l.take k).countP (fun (k : Nat) => decide ((k : Int) = f)) + (if ((l[k] : Nat) : Int) = f then 1 else 0) by
        rw [List.take_succ_eq_append_getElem hlt, List.countP_append, List.countP_singleton]
        simp)
      have hcl : (l.take k).countP (fun (k : Nat) => decide ((k : Int) = f)) ≤ l.length := Nat.le_trans List.countP_le_length (by rw [List.length_take]; omega)
      generalize (l.take k).countP (fun (k : Nat) => decide ((k : Int) = f)) = q at *
      generalize l[k] = y at *
      clear hat
      by_cases hy : (y : Int) = f
      · have d2 : decide ((y : Int) = f) = true := decide_eq_true hy
        have d2b : ((y : Int) == f) = true := by simpa using hy
        rw [if_pos hy] at HT
        clear hy
        go_wp2_with fail
        go_roundw
        case rel => exact ⟨trivial, k + 1, by omega, by go_num, by rw [HT.out]; go_num⟩
        case measure => simp [intOf]; omega
      · have d2 : decide ((y : Int) = f) = false := decide_eq_false hy
        have d2b : ((y : Int) == f) = false := by simpa using hy
        rw [if_neg hy] at HT
        clear hy
        go_wp2_with fail
        go_roundw
        case rel => exact ⟨trivial, k + 1, by omega, by go_num, by rw [HT.out]; rfl⟩
        case measure => simp [intOf]; omega
    · have d1 : decide ((k : Int) < (l.length : Int)) = false := by simp; omega
      have d1n : decide (k < l.length) = false := by simp; omega
      obtain rfl : k = l.length := by omega
      rw [List.take_length]
      go_wp2_with fail
      go_ret
      exact ⟨rfl, rfl⟩
end Go.Proofs.YtlfgogjjnekfpaaDoor
