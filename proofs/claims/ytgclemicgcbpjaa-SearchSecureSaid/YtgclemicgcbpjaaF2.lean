/- vfs: Meta, Path, Read. -/
import Derived.Test.YtgclemicgcbpjaaF1
import Derived.Laws.AppendOwnNone
namespace Go.Proofs.Ytgclemicgcbpjaa
open Go.RowKit Go.Sort

abbrev metaV (x : ND) : Value := .agg #[.int .u8 x.kind, .int .u16 x.mode, .int .u32 x.uid, .int .u32 x.gid, .int .i64 x.size]
theorem node_in (F : Nat) (t : FT) (i : Nat) (w : World) (h : FSat w F t) (hi : i < t.L.length) :
    Calls Try.prog 34 #[.pointer (some ⟨F, 0, none⟩), .int .i64 i] w fun e w' => e = .returned (.tuple #[if (t.nd i).kind = 2 then .iface 81 (.pointer (some ⟨t.bk i, 0, none⟩)) else if (t.nd i).kind = 3 then .iface 116 (.pointer (some ⟨t.bk i, 0, none⟩)) else .iface 91 (.pointer (some ⟨t.bk i, 0, none⟩)), .bool true]) ∧ w = w' := by
  refine (node_any F t i w h).mono ?_
  rintro e w' ⟨rfl, rfl⟩
  refine ⟨?_, rfl⟩
  unfold nodeE
  rw [if_pos (by omega), ← ndV_kind]
  rfl
theorem node_out (F : Nat) (t : FT) (i : Int) (w : World) (h : FSat w F t) (hi : ¬ (0 ≤ i ∧ i < (t.L.length : Int))) :
    Calls Try.prog 34 #[.pointer (some ⟨F, 0, none⟩), .int .i64 i] w fun e w' => e = .returned (.tuple #[.nilIface, .bool false]) ∧ w = w' := by
  refine (node_any F t i w h).mono ?_
  rintro e w' ⟨rfl, rfl⟩
  refine ⟨?_, rfl⟩
  unfold nodeE
  rw [if_neg hi]

set_option maxHeartbeats 1000000 in
theorem path_any (F : Nat) (t : FT) (i : Nat) (w : World) (h : FSat w F t) (hi : i < t.L.length) :
    Calls Try.prog 16 #[.pointer (some ⟨F, 0, none⟩), .int .i64 i] w fun e w' => e = .returned (.string (ba (t.nd i).path)) ∧ w = w' := by
  obtain ⟨v, hr⟩ := (h.node i hi).head
  obtain ⟨⟨c0, c1, c2, c3, c4⟩, c5, c6, c7, c8⟩ := hd_cells hr
  have hl := hr.lt
  have HN := hid (node_in F t i w h hi)
  clear hr h
  go_enter Try.func16, Try.ntmps16
  go_wp2_with fail
  refine (HN.out).mono ?_
  rintro e' w1 ⟨rfl, rfl⟩
  by_cases h2 : (t.nd i).kind = 2
  · rw [if_pos h2]
    clear h2
    have hm := me_d
    go_wp2_with fail
    refine (self_any _ _).mono ?_
    rintro e' w2 ⟨rfl, rfl⟩
    go_wp2_with fail
    go_ret
    exact ⟨rfl, rfl⟩
  · rw [if_neg h2]
    by_cases h3 : (t.nd i).kind = 3
    · rw [if_pos h3]
      clear h3 h2
      have hm := me_l
      go_wp2_with fail
      refine (self_any _ _).mono ?_
      rintro e' w2 ⟨rfl, rfl⟩
      go_wp2_with fail
      go_ret
      exact ⟨rfl, rfl⟩
    · rw [if_neg h3]
      clear h3 h2
      have hm := me_f
      go_wp2_with fail
      refine (self_any _ _).mono ?_
      rintro e' w2 ⟨rfl, rfl⟩
      go_wp2_with fail
      go_ret
      exact ⟨rfl, rfl⟩

theorem path_none (i : Int) (w : World) : Calls Try.prog 16 #[.pointer none, .int .i64 i] w fun e w' => e = .returned (.string ByteArray.empty) ∧ w = w' := by
  go_enter Try.func16, Try.ntmps16
  go_wp2_with fail
  go_ret
  exact ⟨rfl, rfl⟩

set_option maxHeartbeats 1000000 in
theorem meta_any (F : Nat) (t : FT) (i : Nat) (w : World) (h : FSat w F t) (hi : i < t.L.length) :
    Calls Try.prog 14 #[.pointer (some ⟨F, 0, none⟩), .int .i64 i] w fun e w' => e = .returned (.tuple #[metaV (t.nd i), .int .i64 0]) ∧ Below w.heap.size w w' := by
  have HB0 := hid (@bal w)
  have HN := hid (node_in F t i _ (h.below (HB0.out (.cells #[.int .u8 0, .int .u16 0, .int .u32 0, .int .u32 0, .int .i64 0] 37))) hi)
  obtain ⟨v, hr⟩ := (h.node i hi).head
  obtain ⟨⟨c0, c1, c2, c3, c4⟩, c5, c6, c7, c8⟩ := hd_cells hr
  have hl := hr.lt
  clear hr h
  go_enter Try.func14, Try.ntmps14
  go_wp2_with fail
  refine (HN.out).mono ?_
  rintro e' w1 ⟨rfl, rfl⟩
  by_cases h2 : (t.nd i).kind = 2
  · rw [if_pos h2]
    clear h2
    have hm := me_d
    go_wp2_with fail
    refine (self_any _ _).mono ?_
    rintro e' w2 ⟨rfl, rfl⟩
    go_wp2_with fail
    refine bodyPost_ret (v := .tuple #[metaV (t.nd i), .int .i64 0]) (by simp [results, Try.results14, Try.f14, go_sem]) rfl ⟨rfl, ?_⟩
    first | exact HB0.out _ | (repeat (first | with_reducible refine bset ?_ (by omega) _)); exact HB0.out _
  · rw [if_neg h2]
    by_cases h3 : (t.nd i).kind = 3
    · rw [if_pos h3]
      clear h3 h2
      have hm := me_l
      go_wp2_with fail
      refine (self_any _ _).mono ?_
      rintro e' w2 ⟨rfl, rfl⟩
      go_wp2_with fail
      refine bodyPost_ret (v := .tuple #[metaV (t.nd i), .int .i64 0]) (by simp [results, Try.results14, Try.f14, go_sem]) rfl ⟨rfl, ?_⟩
      first | exact HB0.out _ | (repeat (first | with_reducible refine bset ?_ (by omega) _)); exact HB0.out _
    · rw [if_neg h3]
      clear h3 h2
      have hm := me_f
      go_wp2_with fail
      refine (self_any _ _).mono ?_
      rintro e' w2 ⟨rfl, rfl⟩
      go_wp2_with fail
      refine bodyPost_ret (v := .tuple #[metaV (t.nd i), .int .i64 0]) (by simp [results, Try.results14, Try.f14, go_sem]) rfl ⟨rfl, ?_⟩
      first | exact HB0.out _ | (repeat (first | with_reducible refine bset ?_ (by omega) _)); exact HB0.out _

theorem meta_none (i : Int) (w : World) : Calls Try.prog 14 #[.pointer none, .int .i64 i] w fun e w' => e = .returned (.tuple #[.agg #[.int .u8 0, .int .u16 0, .int .u32 0, .int .u32 0, .int .i64 0], .int .i64 2]) ∧ Below w.heap.size w w' := by
  have HB0 := hid (@bal w)
  go_enter Try.func14, Try.ntmps14
  go_wp2_with fail
  refine bodyPost_ret (v := .tuple #[.agg #[.int .u8 0, .int .u16 0, .int .u32 0, .int .u32 0, .int .i64 0], .int .i64 2]) (by simp [results, Try.results14, Try.f14, go_sem]) rfl ⟨rfl, ?_⟩
  exact HB0.out _

theorem read_none (i a b : Int) (w : World) : Calls Try.prog 15 #[.pointer none, .int .i64 i, .int .i64 a, .int .i64 b] w fun e w' => e = .returned (.tuple #[.slice none 0 0, .int .i64 2]) ∧ w = w' := by
  go_enter Try.func15, Try.ntmps15
  go_wp2_with fail
  go_ret2
  exact ⟨rfl, rfl⟩

theorem walk_none (u e s g i : Int) (a : Option Addr) (len cap : Nat) (p : ByteArray) (l : Bool) (w : World) : Calls Try.prog 13 #[.pointer none, credV u e s g a len cap, .int .i64 i, .string p, .bool l] w fun e w' => e = .returned (.tuple #[.int .i64 0, .int .i64 2]) ∧ Below w.heap.size w w' := by
  have HB0 := hid (@bal w)
  go_enter Try.func13, Try.ntmps13
  go_wp2_with fail
  go_ret2
  exact ⟨rfl, HB0.out _⟩
end Go.Proofs.Ytgclemicgcbpjaa
