
/- Package frames: New. -/
import Derived.Test.YtllkeeeajlgkpaaDoorJ9
import Derived.Laws.MakeOwn
import Derived.Deep.RegionWith
namespace Go.Proofs.YtllkeeeajlgkpaaDoor
open Go.RowKit Go.Sort

theorem fr0_len : fr0.bs.length = 4096 := List.length_replicate
theorem ok0 (n : Nat) : FsOk (List.replicate n fr0) := fun x hx => by rw [List.eq_of_mem_replicate hx]; exact fr0_len
theorem made_frames (n : Nat) : madeCells zFr (n * 4097) = (flatF (List.replicate n fr0)).toArray := by
  have hl : (flatF (List.replicate n fr0)).length = n * 4097 := by rw [flatF_len (ok0 n), List.length_replicate]
  apply Array.ext
  · rw [size_madeCells, List.size_toArray, hl]
  · intro i h1 h2
    rw [size_madeCells] at h1
    have hq : i / 4097 < n := by rw [Nat.div_lt_iff_lt_mul (by omega)]; exact h1
    have hr : i % 4097 < 4097 := Nat.mod_lt _ (by omega)
    have hi : i / 4097 * 4097 + i % 4097 = i := by omega
    have hf := flatF_at (ok0 n) (i / 4097) (i % 4097) (by rw [List.length_replicate]; exact hq) hr
    rw [hi, List.getElem_replicate] at hf
    have e1 : (madeCells zFr (n * 4097))[i]'(by rw [size_madeCells]; exact h1) = zFr[i % zFr.size]! := by simp [madeCells]
    rw [e1, zFr_size]
    have hz : i % 4097 < zFr.size := by rw [zFr_size]; exact hr
    rw [getElem!_pos zFr (i % 4097) hz]
    have e2 : (flatF (List.replicate n fr0)).toArray[i]? = (frC fr0)[i % 4097]? := by rw [List.getElem?_toArray]; exact hf
    rw [Array.getElem?_eq_getElem (by rw [List.size_toArray, hl]; exact h1)] at e2
    have e3 : (frC fr0)[i % 4097]? = some (zFr[i % 4097]) := by
      rw [← List.getElem?_toArray]
      exact Array.getElem?_eq_getElem hz
    rw [e3] at e2
    exact (Option.some.inj e2).symm
theorem infoFr : (Tryd.prog.info? 60).map (fun i => (i.zero, i.size, i.bytes)) = some (some (.agg zFr), 4097, 4104) := by kernel_rfl
theorem made_words (m : Nat) : madeCells #[.int .u64 0] m = ((List.replicate m 0).map W8).toArray := by
  apply Array.ext
  · simp [size_madeCells]
  · intro i h1 h2
    have e : i % 1 = 0 := Nat.mod_one i
    simp [madeCells, W8, e]
theorem mk_frames (n : Nat) (hn : n ≤ 1024) (w : World) : (Instr.makeSlice 51 (.int .i64 (n : Int)) (.int .i64 (n : Int))).run Tryd.prog w = .ok (.slice (some ⟨w.heap.size, 0, none⟩) n n) (w.alloc (.cells (flatF (List.replicate n fr0)).toArray 60)) := by
  obtain ⟨i0, hi, hz0, hz1, hz2⟩ := info_parts infoFr
  have := run_make (P := Tryd.prog) w 51 60 i0 (.agg zFr) Tryd.underlying51 hi hz0 .i64 .i64 (n : Int) (n : Int) (by omega) (by omega) (by rw [hz2]; omega) (by omega)
  rw [this, hz1]
  simp only [Int.toNat_natCast]
  rw [show (Value.agg zFr).cells = zFr from rfl, made_frames]
theorem infoW : (Tryd.prog.info? 61).map (fun i => (i.zero, i.size, i.bytes)) = some (some (.int .u64 0), 1, 8) := by kernel_rfl
def wZ (m : Nat) : List Value := (List.replicate m 0).map W8
theorem mk_words (m : Nat) (hm : m ≤ 1024) (w : World) : (Instr.makeSlice 52 (.int .i64 (m : Int)) (.int .i64 (m : Int))).run Tryd.prog w = .ok (.slice (some ⟨w.heap.size, 0, none⟩) m m) (w.alloc (.cells (wZ m).toArray 61)) := by
  obtain ⟨i0, hi, hz0, hz1, hz2⟩ := info_parts infoW
  have := run_make (P := Tryd.prog) w 52 61 i0 (.int .u64 0) Tryd.underlying52 hi hz0 .i64 .i64 (m : Int) (m : Int) (by omega) (by omega) (by rw [hz2]; omega) (by omega)
  rw [this, hz1]
  simp only [Int.toNat_natCast, Nat.mul_one]
  rw [show (Value.int .u64 0).cells = #[.int .u64 0] from rfl, made_words]
  rfl

/-- The pool while frames are being marked: the first k are. -/
structure Half (w : World) (p g h n k : Nat) (ws : List Nat) : Prop where
  pool : Row w p 54 (poolC g h n ws.length)
  frames : Row w g 60 (flatF (List.replicate n fr0))
  words : Row w h 61 (ws.map W8)
  wl : ws.length = (n + 63) / 64
  wb : WB (fun j => decide (j < k)) ws
theorem half_done {w : World} {p g h n : Nat} {ws : List Nat} (H : Half w p g h n n ws) (h1 : 1 ≤ n) (h2 : n ≤ 1024) : Pl w p g h (List.replicate n fr0) ws := by
  refine ⟨by rw [List.length_replicate]; exact H.pool, H.frames, H.words, ok0 n, by rw [List.length_replicate]; exact h1, by rw [List.length_replicate]; exact h2, by rw [List.length_replicate]; exact H.wl, ?_, fun x hx => by rw [List.eq_of_mem_replicate hx]; exact Int.le_refl _⟩
  have : freeF (List.replicate n fr0) = fun j => decide (j < n) := by
    funext j
    unfold freeF
    by_cases c : j < n
    · rw [List.getElem?_replicate, if_pos c, decide_eq_true c]; rfl
    · rw [List.getElem?_replicate, if_neg c, decide_eq_false c]
  rw [this]
  exact H.wb
theorem half_zero (m : Nat) : WB (fun j => decide (j < 0)) (List.replicate m 0) := fun i hi => by
  simp
theorem half_step {k : Nat} {ws : List Nat} (h : WB (fun j => decide (j < k)) ws) (h1 : k / 64 < ws.length) : WB (fun j => decide (j < k + 1)) (ws.set (k / 64) (ws[k / 64] ||| 2 ^ (k % 64))) := by
  have := wb_mark h k h1
  have e : upd (fun j => decide (j < k)) k true = fun j => decide (j < k + 1) := by
    funext j
    unfold upd
    by_cases c : j = k
    · subst c; simp
    · by_cases c2 : j < k
      · simp [c, c2]; omega
      · simp [c, c2]; omega
  rw [e] at this
  exact this

theorem half_mark {w : World} {p g h n k : Nat} {ws : List Nat} (H : Half w p g h n k ws) (hk : k / 64 < ws.length) : Half (w.drew.setCell ⟨h, k / 64, none⟩ (.int .u64 ((ws[k / 64] ||| 2 ^ (k % 64) : Nat) : Int))) p g h n (k + 1) (ws.set (k / 64) (ws[k / 64] ||| 2 ^ (k % 64))) :=
  ⟨by rw [List.length_set]; exact H.pool.drew.other (row_tys H.pool H.words (by decide)) _, H.frames.drew.other (row_tys H.frames H.words (by decide)) _, row_set_word H.words.drew _ _, by rw [List.length_set]; exact H.wl, half_step H.wb hk⟩
theorem bal2 {w w' : World} (h : Below w.heap.size w w') (o : Obj) : Below w.heap.size w (w'.alloc o) := bthen h (bal o)
theorem Row.new1 (w : World) (o : Obj) (E : TypeId) (cs : List Value) : Row ((w.alloc o).alloc (.cells cs.toArray E)) (w.heap.size + 1) E cs := by
  have := Row.new (w.alloc o) E cs
  rwa [World.size_alloc] at this
theorem Row.new2 (w : World) (o1 o2 : Obj) (E : TypeId) (cs : List Value) : Row (((w.alloc o1).alloc o2).alloc (.cells cs.toArray E)) (w.heap.size + 1 + 1) E cs := by
  have := Row.new ((w.alloc o1).alloc o2) E cs
  rwa [World.size_alloc, World.size_alloc] at this

set_option maxRecDepth 100000 in
set_option maxHeartbeats 1000000 in
theorem new_any (n : Nat) (w : World) (h1 : 1 ≤ n) (h2 : n ≤ 1024) :
    Calls Tryd.prog 10 #[.int .i64 (n : Int)] w fun e w' => ∃ p g h ws, e = .returned (.tuple #[.pointer (some ⟨p, 0, none⟩), .int .i64 0]) ∧ Pl w' p g h (List.replicate n fr0) ws ∧ w.heap.size ≤ p ∧ w.heap.size ≤ g ∧ w.heap.size ≤ h ∧ Below w.heap.size w w' := by
  obtain ⟨m, hm⟩ : ∃ m, m = (n + 63) / 64 := ⟨_, rfl⟩
  have hm16 : m ≤ 16 := by omega
  have b1 : decide ((n : Int) < 1) = false := by simp; omega
  have b2 : decide (1024 < (n : Int)) = false := by simp; omega
  have hmk := mk_frames n h2
  have hmw := mk_words m (by omega)
  have HM := hid hm
  have HZ := hid (show (List.replicate m 0 : List Nat).length = m from List.length_replicate)
  have HB := hid (fun o1 o2 o3 => (bdN (bal2 (bal2 (@bal w o1) o2) o3) 1))
  have HA1 := hid (show Half ((((w.alloc (.cells (flatF (List.replicate n fr0)).toArray 60)).alloc (.cells (wZ m).toArray 61)).alloc (.cells #[.slice (some ⟨w.heap.size, 0, none⟩) n n, .slice (some ⟨w.heap.size + 1, 0, none⟩) m m] 54)).drew) (w.heap.size + 1 + 1) w.heap.size (w.heap.size + 1) n 0 (List.replicate m 0) from
    ⟨Row.drew (by rw [List.length_replicate]; exact Row.new2 _ _ _ _ _), Row.drew (((Row.new _ _ _).alloc _).alloc _), Row.drew ((Row.new1 _ _ _ _).alloc _), by rw [List.length_replicate]; exact hm, half_zero m⟩)
  have HA2 := hid (show Half ((((w.alloc (.cells (wZ m).toArray 61)).alloc (.cells (flatF (List.replicate n fr0)).toArray 60)).alloc (.cells #[.slice (some ⟨w.heap.size + 1, 0, none⟩) n n, .slice (some ⟨w.heap.size, 0, none⟩) m m] 54)).drew) (w.heap.size + 1 + 1) (w.heap.size + 1) w.heap.size n 0 (List.replicate m 0) from
    ⟨Row.drew (by rw [List.length_replicate]; exact Row.new2 _ _ _ _ _), Row.drew ((Row.new1 _ _ _ _).alloc _), Row.drew (((Row.new _ _ _).alloc _).alloc _), by rw [List.length_replicate]; exact hm, half_zero m⟩)
  have q1 : IntKind.i64.wrap ((n : Int) + 64) = (n : Int) + 64 := IntWalk.i64_in _ ⟨by omega, by omega⟩
  have q2 : IntKind.i64.wrap ((n : Int) + 64 - 1) = (n : Int) + 63 := by rw [IntWalk.i64_in _ ⟨by omega, by omega⟩]; omega
  have q3 : IntKind.i64.wrap (((n : Int) + 63) / 64) = (m : Int) := by rw [IntWalk.i64_in _ ⟨by omega, by omega⟩]; omega
  have q4 : IntKind.i64.wrap (((n : Int) + 63).tdiv 64) = (m : Int) := by rw [Int.tdiv_eq_ediv_of_nonneg (by omega)]; exact q3
  clear hm
  go_enter Tryd.func10, Tryd.ntmps10
  go_wp2_with fail
  go_region_with (fail)
  · clear q1 q2 q3 q4 hmk hmw
    go_wp2_with fail
    go_loopw [22] (fun i wr => ∃ (k : Nat) (ws : List Nat), k ≤ n ∧ i = .int .i64 k ∧ Half wr (w.heap.size + 1 + 1) w.heap.size (w.heap.size + 1) n k ws ∧ Below w.heap.size w wr) (fun i _ => n - (intOf i).toNat)
    case atStart => exact ⟨0, _, Nat.zero_le _, rfl, HA1.out, HB.out _ _ _⟩
    case round =>
      obtain ⟨k, ws, hk, rfl, hh, hb⟩ := hrel
      have HH := hid hh
      have HBr := hid hb
      have hwl := hh.wl
      by_cases hlt : k < n
      · have d1 : decide ((k : Int) < (n : Int)) = true := by simp; omega
        have d1n : decide (k < n) = true := by simp; omega
        have hk64 : k / 64 < ws.length := by omega
        have HMK := hid (mark_at (w.heap.size + 1 + 1) w.heap.size (w.heap.size + 1) n ws k (k / 64) (k % 64) wr hh.pool hh.words (by omega) (Nat.mod_lt _ (by omega)) hk64 (hh.wb _ hk64).1 (by omega))
        have HN := hid (half_mark hh hk64)
        have HBN := hid (bset (bdN hb 1) (b := (w.heap.size + 1)) (o := k / 64) (by omega) (.int .u64 ((ws[k / 64] ||| 2 ^ (k % 64) : Nat) : Int)))
        clear hh hb hwl
        go_wp2_with fail
        refine (HMK.out).mono ?_
        rintro e' w2 ⟨rfl, rfl⟩
        have HN2 := hid (show Half ((wr.drewN 1).setCell ⟨(w.heap.size + 1), k / 64, none⟩ (.int .u64 ((ws[k / 64] ||| 2 ^ (k % 64) : Nat) : Int))) (w.heap.size + 1 + 1) w.heap.size (w.heap.size + 1) n (k + 1) _ from HN.out)
        generalize ws.set (k / 64) (ws[k / 64] ||| 2 ^ (k % 64)) = ws2 at *
        go_wp2_with fail
        go_roundw
        case rel => exact ⟨k + 1, ws2, by omega, by go_num, HN.out, HBN.out⟩
        case measure => simp [intOf]; omega
      · have d1 : decide ((k : Int) < (n : Int)) = false := by simp; omega
        have d1n : decide (k < n) = false := by simp; omega
        obtain rfl : k = n := by omega
        clear hh hb hwl
        go_wp2_with fail
        go_ret2
        exact ⟨_, _, _, ws, rfl, half_done HH.out h1 h2, by omega, by omega, by omega, HBr.out⟩
  · clear q1 q2 q3 q4 hmk hmw
    go_wp2_with fail
    go_loopw [22] (fun i wr => ∃ (k : Nat) (ws : List Nat), k ≤ n ∧ i = .int .i64 k ∧ Half wr (w.heap.size + 1 + 1) (w.heap.size + 1) w.heap.size n k ws ∧ Below w.heap.size w wr) (fun i _ => n - (intOf i).toNat)
    case atStart => exact ⟨0, _, Nat.zero_le _, rfl, HA2.out, HB.out _ _ _⟩
    case round =>
      obtain ⟨k, ws, hk, rfl, hh, hb⟩ := hrel
      have HH := hid hh
      have HBr := hid hb
      have hwl := hh.wl
      by_cases hlt : k < n
      · have d1 : decide ((k : Int) < (n : Int)) = true := by simp; omega
        have d1n : decide (k < n) = true := by simp; omega
        have hk64 : k / 64 < ws.length := by omega
        have HMK := hid (mark_at (w.heap.size + 1 + 1) (w.heap.size + 1) w.heap.size n ws k (k / 64) (k % 64) wr hh.pool hh.words (by omega) (Nat.mod_lt _ (by omega)) hk64 (hh.wb _ hk64).1 (by omega))
        have HN := hid (half_mark hh hk64)
        have HBN := hid (bset (bdN hb 1) (b := w.heap.size) (o := k / 64) (by omega) (.int .u64 ((ws[k / 64] ||| 2 ^ (k % 64) : Nat) : Int)))
        clear hh hb hwl
        go_wp2_with fail
        refine (HMK.out).mono ?_
        rintro e' w2 ⟨rfl, rfl⟩
        have HN2 := hid (show Half ((wr.drewN 1).setCell ⟨w.heap.size, k / 64, none⟩ (.int .u64 ((ws[k / 64] ||| 2 ^ (k % 64) : Nat) : Int))) (w.heap.size + 1 + 1) (w.heap.size + 1) w.heap.size n (k + 1) _ from HN.out)
        generalize ws.set (k / 64) (ws[k / 64] ||| 2 ^ (k % 64)) = ws2 at *
        go_wp2_with fail
        go_roundw
        case rel => exact ⟨k + 1, ws2, by omega, by go_num, HN.out, HBN.out⟩
        case measure => simp [intOf]; omega
      · have d1 : decide ((k : Int) < (n : Int)) = false := by simp; omega
        have d1n : decide (k < n) = false := by simp; omega
        obtain rfl : k = n := by omega
        clear hh hb hwl
        go_wp2_with fail
        go_ret2
        exact ⟨_, _, _, ws, rfl, half_done HH.out h1 h2, by omega, by omega, by omega, HBr.out⟩
end Go.Proofs.YtllkeeeajlgkpaaDoor
