
/- creds.May, with what it needs. -/
import Derived.Test.YthamfhenadaapaaGreatDoorRows
import Derived.Test.YthamfhenadaapaaGreatDoorKA
import Derived.Deep.QuietTactic
import Derived.BigQuiet
import Derived.Laws.AppendOwnNone
import Derived.Lib.SliceRun
import Derived.Laws.BitsAllLaws
import Derived.Deep.RegionHeld3
namespace Go.Proofs.YthamfhenadaapaaGreatDoor
open Go.RowKit

def IdxPost (x : Int) (l : List Int) (w : World) (e : Ending) (w' : World) : Prop := ∃ r : Int, e = .returned (.int .i64 r) ∧ -1 ≤ r ∧ ((0 ≤ r) ↔ x ∈ l) ∧ w = w'

set_option maxHeartbeats 1000000 in
theorem index_any (a : Option Addr) (len cap : Nat) (x : Int) (l : List Int) (w : World) (hB : Nums w .u32 a len l) (hl : len ≤ 140737488351232) :
    Calls Tryz.prog 103 #[.slice a len cap, .int .u32 x] w (IdxPost x l w) := by
  obtain rfl := hB.hlen
  go_enter Tryz.func103, Tryz.ntmps103
  go_wp2
  go_loop [8] (fun i => ∃ k : Nat, k ≤ l.length ∧ i = .int .i64 k ∧ ∀ j (h : j < l.length), j < k → x ≠ l[j]) (fun i => l.length - (intOf i).toNat)
  case atStart => exact ⟨0, Nat.zero_le _, rfl, fun j h hj => by omega⟩
  case round =>
    obtain ⟨k, hk, rfl, hno⟩ := hrel
    by_cases hlt : k < l.length
    · obtain ⟨b, off, rfl, hcell⟩ := hB.some_of (by omega)
      have hx := hcell k hlt
      have HNO := hid hno
      clear hno hB hcell
      by_cases h : x = l[k]
      · have hb : (x == l[k]) = true := by simpa using h
        have HH := hid h
        clear h
        go_wp2
        go_ret
        exact ⟨k, rfl, by omega, ⟨fun _ => by rw [HH.out]; exact List.getElem_mem _, fun _ => by omega⟩, rfl⟩
      · have hb : (x == l[k]) = false := by simpa using h
        have HH := hid h
        clear h
        go_wp2
        go_round
        case rel =>
          refine ⟨k + 1, by omega, by go_num, fun j h hj => ?_⟩
          by_cases e : j = k
          · subst e; exact HH.out
          · exact HNO.out j h (by omega)
        case measure => simp [intOf]; omega
    · have HNO := hid hno
      clear hno
      go_wp2
      go_ret
      refine ⟨-1, rfl, by omega, ⟨fun h => by omega, fun h => ?_⟩, rfl⟩
      obtain ⟨j, hj, e⟩ := List.getElem_of_mem h
      exact absurd e.symm (HNO.out j hj (by omega))

def memB (x : Int) (l : List Int) : Bool := decide (x ∈ l)

set_option maxHeartbeats 1000000 in
theorem contains_any (a : Option Addr) (len cap : Nat) (x : Int) (l : List Int) (w : World) (hB : Nums w .u32 a len l) (hl : len ≤ 140737488351232) :
    Calls Tryz.prog 86 #[.slice a len cap, .int .u32 x] w fun e w' => e = .returned (.bool (memB x l)) ∧ w = w' := by
  go_enter Tryz.func86, Tryz.ntmps86
  go_wp2_with fail
  refine (index_any _ _ _ _ l _ hB hl).mono ?_
  rintro e w' ⟨r, rfl, hr, hm, rfl⟩
  have HM := hid hm
  clear hm
  go_wp2
  go_ret
  refine ⟨ret_bool ?_, rfl⟩
  unfold memB
  rw [decide_eq_decide]
  exact HM.out

abbrev credV (u e s g : Int) (a : Option Addr) (len cap : Nat) : Value := .agg #[.int .u32 u, .int .u32 e, .int .u32 s, .int .u32 g, .slice a len cap]
abbrev nodeV (k m u g z : Int) : Value := .agg #[.int .u8 k, .int .u16 m, .int .u32 u, .int .u32 g, .int .i64 z]

def clsOf (e g : Int) (l : List Int) (uid gid : Int) : Int := if e = uid then 0 else if g = gid ∨ gid ∈ l then 1 else 2

theorem b2a {w : World} (o1 o2 : Obj) : Below w.heap.size w ((w.alloc o1).alloc o2) := (bal o1).alloc (by simp) o2

set_option maxHeartbeats 1000000 in
theorem class_any (u e s g k m uid gid z : Int) (a : Option Addr) (len cap : Nat) (l : List Int) (w : World) (hB : Nums w .u32 a len l) (hl : len ≤ 1048576) :
    Calls Tryz.prog 63 #[credV u e s g a len cap, nodeV k m uid gid z] w fun e' w' => e' = .returned (.int .i64 (clsOf e g l uid gid)) ∧ Below w.heap.size w w' := by
  have hB2 : ∀ o1 o2, Nums ((w.alloc o1).alloc o2) .u32 a len l := fun o1 o2 => hB.below' (b2a o1 o2)
  have HB := hid hB2
  have HW := hid (@b2a w)
  clear hB2 hB
  by_cases h1 : e = uid
  · have hb1 : (e == uid) = true := by simpa using h1
    have H1 := hid h1
    clear h1
    go_enter Tryz.func63, Tryz.ntmps63
    go_wp2_with fail
    go_ret
    exact ⟨ret_i64 (by unfold clsOf; rw [if_pos H1.out]), HW.out _ _⟩
  · have hb1 : (e == uid) = false := by simpa using h1
    have H1 := hid h1
    clear h1
    by_cases h2 : g = gid
    · have hb2 : (g == gid) = true := by simpa using h2
      have H2 := hid h2
      clear h2
      go_enter Tryz.func63, Tryz.ntmps63
      go_wp2_with fail
      go_ret
      exact ⟨ret_i64 (by unfold clsOf; rw [if_neg H1.out, if_pos (.inl H2.out)]), HW.out _ _⟩
    · have hb2 : (g == gid) = false := by simpa using h2
      have H2 := hid h2
      clear h2
      go_enter Tryz.func63, Tryz.ntmps63
      go_wp2_with fail
      refine (contains_any _ _ _ _ l _ (HB.out _ _) (by omega)).mono ?_
      rintro e' w' ⟨rfl, rfl⟩
      by_cases h3 : gid ∈ l
      · rw [show memB gid l = true by unfold memB; simpa using h3]
        have H3 := hid h3
        clear h3
        go_wp2_with fail
        go_ret
        exact ⟨ret_i64 (by unfold clsOf; rw [if_neg H1.out, if_pos (.inr H3.out)]), HW.out _ _⟩
      · rw [show memB gid l = false by unfold memB; simpa using h3]
        have H3 := hid h3
        clear h3
        go_wp2_with fail
        go_ret
        exact ⟨ret_i64 (by unfold clsOf; rw [if_neg H1.out, if_neg (by rintro (h | h); exact H2.out h; exact H3.out h)]), HW.out _ _⟩

theorem and7_u16 (x : Int) (h0 : 0 ≤ x) (h1 : x ≤ 65535) : bits .and .u16 x 7 = x % 8 := by
  obtain ⟨n, rfl⟩ := Int.eq_ofNat_of_zero_le h0
  have h := u16_and_nat n 7 (by omega) (by omega)
  rw [show ((7 : Nat) : Int) = 7 from rfl] at h
  rw [h]
  have e := Nat.and_two_pow_sub_one_eq_mod n 3
  rw [show 2 ^ 3 - 1 = 7 from rfl] at e
  rw [e]
  rfl

theorem and7_u8 (x : Int) (h0 : 0 ≤ x) (h1 : x ≤ 255) : bits .and .u8 x 7 = x % 8 := by
  obtain ⟨n, rfl⟩ := Int.eq_ofNat_of_zero_le h0
  have h := u8_and_nat n 7 (by omega) (by omega)
  rw [show ((7 : Nat) : Int) = 7 from rfl] at h
  rw [h]
  have e := Nat.and_two_pow_sub_one_eq_mod n 3
  rw [show 2 ^ 3 - 1 = 7 from rfl] at e
  rw [e]
  rfl

set_option maxHeartbeats 1000000 in
theorem classBits_any (m : Int) (w : World) (h0 : 0 ≤ m) (h1 : m ≤ 65535) :
    Calls Tryz.prog 62 #[.int .u16 m] w fun e' w' => e' = .returned (.agg #[.int .u8 (m / 64 % 8), .int .u8 (m / 8 % 8), .int .u8 (m % 8)]) ∧ Below w.heap.size w w' := by
  have b1 := hid (and7_u16 (m / 64) (by omega) (by omega))
  have b2 := hid (and7_u16 (m / 8) (by omega) (by omega))
  have b3 := hid (and7_u16 m (by omega) (by omega))
  go_enter Tryz.func62, Tryz.ntmps62
  go_wp2_with fail
  refine bodyPost_ret (v := .agg #[.int .u8 (bits .and .u16 (m / 64) 7 % 256), .int .u8 (bits .and .u16 (m / 8) 7 % 256), .int .u8 (bits .and .u16 m 7 % 256)]) (by simp [results, Tryz.results62, go_sem]) rfl ⟨?_, bal _⟩
  rw [b1.out, b2.out, b3.out]
  have e1 : m / 64 % 8 % 256 = m / 64 % 8 := by omega
  have e2 : m / 8 % 8 % 256 = m / 8 % 8 := by omega
  have e3 : m % 8 % 256 = m % 8 := by omega
  rw [e1, e2, e3]

def clsBits (m c : Int) : Int := if c = 0 then m / 64 % 8 else if c = 1 then m / 8 % 8 else m % 8
def mayE (want k m : Int) : Bool := (bits .and .u8 want 1 == 0) || (k == 2) || (bits .and .u16 m 73 != 0)
def mayB (e g : Int) (l : List Int) (k m uid gid want : Int) : Bool :=
  if 7 < want then false else if e = 0 then mayE want k m else bits .andNot .u8 want (clsBits m (clsOf e g l uid gid)) == 0

theorem cls_cases (e g : Int) (l : List Int) (uid gid : Int) : clsOf e g l uid gid = 0 ∨ clsOf e g l uid gid = 1 ∨ clsOf e g l uid gid = 2 := by
  unfold clsOf; split
  · exact .inl rfl
  · split
    · exact .inr (.inl rfl)
    · exact .inr (.inr rfl)

set_option maxHeartbeats 2000000 in
theorem may_any (u e s g k m uid gid z want : Int) (a : Option Addr) (len cap : Nat) (l : List Int) (w : World) (hB : Nums w .u32 a len l) (hl : len ≤ 1048576) (h0 : 0 ≤ m) (h1 : m ≤ 65535) :
    Calls Tryz.prog 42 #[credV u e s g a len cap, nodeV k m uid gid z, .int .u8 want] w fun e' w' => e' = .returned (.bool (mayB e g l k m uid gid want)) ∧ Below w.heap.size w w' := by
  have hB2 : ∀ o1 o2, Nums ((w.alloc o1).alloc o2) .u32 a len l := fun o1 o2 => hB.below' (b2a o1 o2)
  have HB := hid hB2
  have HW := hid (@b2a w)
  clear hB2 hB
  by_cases hw : 7 < want
  · go_enter Tryz.func42, Tryz.ntmps42
    go_wp2_with fail
    go_ret
    exact ⟨ret_bool (by unfold mayB; rw [if_pos hw]), HW.out _ _⟩
  · by_cases he : e = 0
    · have hb : (e == 0) = true := by simpa using he
      have HE := hid he
      clear he
      have HM : Hid (mayB e g l k m uid gid want = mayE want k m) := hid (by unfold mayB; rw [if_neg hw, if_pos HE.out])
      cases c1 : (bits .and .u8 want 1 == 0) <;> cases c2 : (k == 2) <;> cases c3 : (bits .and .u16 m 73 != 0)
      all_goals
        have HC := hid (show _ = mayE want k m by unfold mayE; rw [c1, c2, c3])
        go_enter Tryz.func42, Tryz.ntmps42
        go_wp2_with fail
        go_ret
        exact ⟨ret_bool (by rw [HM.out, ← HC.out]; rfl), HW.out _ _⟩
    · have hb : (e == 0) = false := by simpa using he
      have HE := hid he
      clear he
      have HM : Hid (mayB e g l k m uid gid want = (bits .andNot .u8 want (clsBits m (clsOf e g l uid gid)) == 0)) := hid (by unfold mayB; rw [if_neg hw, if_neg HE.out])
      go_enter Tryz.func42, Tryz.ntmps42
      go_wp2_with fail
      obtain ⟨W2, hW2⟩ : ∃ W2, W2 = (w.alloc (.cells #[.int .u32 u, .int .u32 e, .int .u32 s, .int .u32 g, .slice a len cap] 26)).alloc (.cells #[.int .u8 k, .int .u16 m, .int .u32 uid, .int .u32 gid, .int .i64 z] 58) := ⟨_, rfl⟩
      rw [← hW2]
      have hBW : Nums W2 .u32 a len l := by rw [hW2]; exact HB.out _ _
      have hbW : Below w.heap.size w W2 := by rw [hW2]; exact HW.out _ _
      obtain ⟨x0, x1, x2, x3, x4, y0, y1, y2, y3, y4⟩ : W2.cell? ⟨w.heap.size, 0, none⟩ = some (.int .u32 u) ∧ W2.cell? ⟨w.heap.size, 1, none⟩ = some (.int .u32 e) ∧ W2.cell? ⟨w.heap.size, 2, none⟩ = some (.int .u32 s) ∧ W2.cell? ⟨w.heap.size, 3, none⟩ = some (.int .u32 g) ∧ W2.cell? ⟨w.heap.size, 4, none⟩ = some (.slice a len cap) ∧
          W2.cell? ⟨w.heap.size + 1, 0, none⟩ = some (.int .u8 k) ∧ W2.cell? ⟨w.heap.size + 1, 1, none⟩ = some (.int .u16 m) ∧ W2.cell? ⟨w.heap.size + 1, 2, none⟩ = some (.int .u32 uid) ∧ W2.cell? ⟨w.heap.size + 1, 3, none⟩ = some (.int .u32 gid) ∧ W2.cell? ⟨w.heap.size + 1, 4, none⟩ = some (.int .i64 z) := by
        rw [hW2]; refine ⟨?_, ?_, ?_, ?_, ?_, ?_, ?_, ?_, ?_, ?_⟩ <;> simp
      have hNW : ∀ w', Below W2.heap.size W2 w' → Nums w' .u32 a len l := fun w' hb => hBW.below' hb
      have HNW := hid hNW
      have HBW := hid hbW
      clear hW2 HB HW hBW hbW hNW
      have hidx : ∀ w, (Instr.index 127 (.agg #[.int .u8 (m / 64 % 8), .int .u8 (m / 8 % 8), .int .u8 (m % 8)]) (.int .i64 (clsOf e g l uid gid))).run Tryz.prog w = .ok (.int .u8 (clsBits m (clsOf e g l uid gid))) w := by
        intro w
        rcases cls_cases e g l uid gid with h | h | h <;> rw [h] <;> kernel_rfl
      go_region_held3 (fun w' => w'.cell? ⟨w.heap.size, 0, none⟩ = some (.int .u32 u) ∧ w'.cell? ⟨w.heap.size, 1, none⟩ = some (.int .u32 e) ∧ w'.cell? ⟨w.heap.size, 2, none⟩ = some (.int .u32 s) ∧ w'.cell? ⟨w.heap.size, 3, none⟩ = some (.int .u32 g) ∧ w'.cell? ⟨w.heap.size, 4, none⟩ = some (.slice a len cap) ∧
          w'.cell? ⟨w.heap.size + 1, 0, none⟩ = some (.int .u8 k) ∧ w'.cell? ⟨w.heap.size + 1, 1, none⟩ = some (.int .u16 m) ∧ w'.cell? ⟨w.heap.size + 1, 2, none⟩ = some (.int .u32 uid) ∧ w'.cell? ⟨w.heap.size + 1, 3, none⟩ = some (.int .u32 gid) ∧ w'.cell? ⟨w.heap.size + 1, 4, none⟩ = some (.int .i64 z))
        (first | go_keep | (refine ⟨keepC hbx ?_, keepC hbx ?_, keepC hbx ?_, keepC hbx ?_, keepC hbx ?_, keepC hbx ?_, keepC hbx ?_, keepC hbx ?_, keepC hbx ?_, keepC hbx ?_⟩ <;> go_keep))
        (first | (go_at_call 62; refine (classBits_any _ _ h0 h1).mono ?_; rintro e' wx ⟨rfl, hbx⟩) | (go_at_call 63; refine (class_any _ _ _ _ _ _ _ _ _ _ _ _ l _ (HNW.out _ (by first | exact Below.refl _ _ | exact (Below.refl _ _).drew | exact bdl hbx | exact hbx)) hl).mono ?_; rintro e' wx ⟨rfl, hbx⟩))
      go_wp2_with fail
      go_ret
      exact ⟨ret_bool HM.out.symm, HBW.out.trans ((bthen (bdl (by assumption)) hbx).mono HBW.out.size)⟩
end Go.Proofs.YthamfhenadaapaaGreatDoor
