
/- Package frames: marking, striking and finding free frames in a pool's words. -/
import Derived.Test.YtllkeeeajlgkpaaDoorJ2
import Derived.StillTailTactics
import Derived.BigRegion
namespace Go.Proofs.YtllkeeeajlgkpaaDoor
open Go.RowKit Go.Sort

def W8 (x : Nat) : Value := .int .u64 (x : Int)
abbrev poolC (g h n m : Nat) : List Value := [.slice (some ⟨g, 0, none⟩) n n, .slice (some ⟨h, 0, none⟩) m m]
theorem row_word {w : World} {h : Nat} {E : TypeId} {ws : List Nat} (hw : Row w h E (ws.map W8)) (i : Nat) (hi : i < ws.length) : w.cell? ⟨h, i, none⟩ = some (.int .u64 (ws[i] : Int)) := by
  have := hw.cell i (by simpa using hi)
  simpa [W8] using this
theorem row_set_word {w : World} {h : Nat} {E : TypeId} {ws : List Nat} (hw : Row w h E (ws.map W8)) (i u : Nat) : Row (w.setCell ⟨h, i, none⟩ (.int .u64 (u : Int))) h E ((ws.set i u).map W8) := by
  rw [List.map_set]
  exact hw.set i _

set_option maxHeartbeats 1000000 in
theorem mark_at (p g h n : Nat) (ws : List Nat) (f i j : Nat) (w : World) (hp : Row w p 54 (poolC g h n ws.length)) (hw : Row w h 61 (ws.map W8)) (hfi : f = i * 64 + j) (hj : j < 64) (hf : i < ws.length) (hb : ws[i] < 18446744073709551616) (hm : ws.length ≤ 1000000) :
    Calls Tryd.prog 32 #[.pointer (some ⟨p, 0, none⟩), .int .i64 (f : Int)] w fun e w' => e = .returned (.tuple #[]) ∧ w' = w.drew.setCell ⟨h, i, none⟩ (.int .u64 ((ws[i] ||| 2 ^ j : Nat) : Int)) := by
  have p0 := hp.cell 0 (by simp)
  have p1 := hp.cell 1 (by simp)
  simp only [poolC, List.getElem_cons_zero, List.getElem_cons_succ] at p0 p1
  have hc := row_word hw _ hf
  have hfz := hw.frozen i
  have hlp := hp.lt
  have hlh := hw.lt
  have hp2 : 2 ^ j < 18446744073709551616 := Nat.pow_lt_pow_right (n := 64) (by omega) hj
  have ez : (0 : Int) ≤ (i : Int) := by omega
  have eb : (i : Int) < (ws.length : Int) := by omega
  have q7 := u64_or_nat ws[i] (2 ^ j) hb hp2
  generalize ws[i] = u at *
  have q1 : IntKind.i64.wrap ((f : Int) / 64) = (i : Int) := by rw [IntWalk.i64_in _ (by omega)]; omega
  have q2 : (f : Int).tmod 64 = (j : Int) := by rw [Int.tmod_eq_emod_of_nonneg (by omega)]; omega
  have q5 : (0 : Int) ≤ (j : Int) := by omega
  have q6 : (2 : Int) ^ j = ((2 ^ j : Nat) : Int) := by simp
  have q8 : min j 64 = j := by omega
  generalize 2 ^ j = P at *
  have q4 : IntKind.u64.wrap (2 ^ min j 64) = (P : Int) := by rw [q8, q6, IntKind.wrap_u64]; omega
  clear hp hw hfi hb hp2 hj q6 q8
  go_enter Tryd.func32, Tryd.ntmps32
  go_wp2_with fail
  go_still_tail 13, (by kernel_rfl)
  go_wp2_with fail
  exact bodyPost_end (results_none rfl _ _ _) rfl ⟨rfl, rfl⟩
set_option maxHeartbeats 1000000 in
theorem unmark_at (p g h n : Nat) (ws : List Nat) (f i j : Nat) (w : World) (hp : Row w p 54 (poolC g h n ws.length)) (hw : Row w h 61 (ws.map W8)) (hfi : f = i * 64 + j) (hj : j < 64) (hf : i < ws.length) (hb : ws[i] < 18446744073709551616) (hm : ws.length ≤ 1000000) :
    Calls Tryd.prog 34 #[.pointer (some ⟨p, 0, none⟩), .int .i64 (f : Int)] w fun e w' => e = .returned (.tuple #[]) ∧ w' = w.drew.setCell ⟨h, i, none⟩ (.int .u64 ((ws[i] &&& (18446744073709551615 - 2 ^ j) : Nat) : Int)) := by
  have p0 := hp.cell 0 (by simp)
  have p1 := hp.cell 1 (by simp)
  simp only [poolC, List.getElem_cons_zero, List.getElem_cons_succ] at p0 p1
  have hc := row_word hw _ hf
  have hfz := hw.frozen i
  have hlp := hp.lt
  have hlh := hw.lt
  have hp2 : 2 ^ j < 18446744073709551616 := Nat.pow_lt_pow_right (n := 64) (by omega) hj
  have ez : (0 : Int) ≤ (i : Int) := by omega
  have eb : (i : Int) < (ws.length : Int) := by omega
  have q7 := u64_andNot_nat ws[i] (2 ^ j) hb hp2
  generalize ws[i] = u at *
  have q1 : IntKind.i64.wrap ((f : Int) / 64) = (i : Int) := by rw [IntWalk.i64_in _ (by omega)]; omega
  have q2 : (f : Int).tmod 64 = (j : Int) := by rw [Int.tmod_eq_emod_of_nonneg (by omega)]; omega
  have q5 : (0 : Int) ≤ (j : Int) := by omega
  have q6 : (2 : Int) ^ j = ((2 ^ j : Nat) : Int) := by simp
  have q8 : min j 64 = j := by omega
  generalize 2 ^ j = P at *
  have q4 : IntKind.u64.wrap (2 ^ min j 64) = (P : Int) := by rw [q8, q6, IntKind.wrap_u64]; omega
  clear hp hw hfi hb hp2 hj q6 q8
  go_enter Tryd.func34, Tryd.ntmps34
  go_wp2_with fail
  go_still_tail 13, (by kernel_rfl)
  go_wp2_with fail
  exact bodyPost_end (results_none rfl _ _ _) rfl ⟨rfl, rfl⟩

/-- Is f a free frame? -/
def freeF (fs : List FR) (f : Nat) : Bool := match fs[f]? with
  | some x => x.cnt == 0
  | none => false
/-- A pool: the struct in block p, its frames in g, its words in h. -/
structure Pl (w : World) (p g h : Nat) (fs : List FR) (ws : List Nat) : Prop where
  pool : Row w p 54 (poolC g h fs.length ws.length)
  frames : Row w g 60 (flatF fs)
  words : Row w h 61 (ws.map W8)
  ok : FsOk fs
  n1 : 1 ≤ fs.length
  n2 : fs.length ≤ 1024
  wl : ws.length = (fs.length + 63) / 64
  wb : WB (freeF fs) ws
  c0 : ∀ x ∈ fs, 0 ≤ x.cnt
theorem Pl.below {w w' : World} {p g h : Nat} {fs : List FR} {ws : List Nat} (H : Pl w p g h fs ws) (hb : Below w.heap.size w w') : Pl w' p g h fs ws :=
  ⟨H.pool.below hb H.pool.lt, H.frames.below hb H.frames.lt, H.words.below hb H.words.lt, H.ok, H.n1, H.n2, H.wl, H.wb, H.c0⟩
theorem Pl.drew {w : World} {p g h : Nat} {fs : List FR} {ws : List Nat} (H : Pl w p g h fs ws) : Pl w.drew p g h fs ws := ⟨H.pool.drew, H.frames.drew, H.words.drew, H.ok, H.n1, H.n2, H.wl, H.wb, H.c0⟩
theorem Pl.cells {w : World} {p g h : Nat} {fs : List FR} {ws : List Nat} (H : Pl w p g h fs ws) : w.cell? ⟨p, 0, none⟩ = some (.slice (some ⟨g, 0, none⟩) fs.length fs.length) ∧ w.cell? ⟨p, 1, none⟩ = some (.slice (some ⟨h, 0, none⟩) ws.length ws.length) := by
  have p0 := H.pool.cell 0 (by simp)
  have p1 := H.pool.cell 1 (by simp)
  simpa [poolC] using ⟨p0, p1⟩
theorem Pl.count {w : World} {p g h : Nat} {fs : List FR} {ws : List Nat} (H : Pl w p g h fs ws) (f : Nat) (hf : f < fs.length) : w.cell? ⟨g, f * 4097 + 4096, none⟩ = some (.int .i64 fs[f].cnt) := by
  rw [H.frames.cell', flatF_cnt H.ok f hf]
theorem row_tys {w : World} {a b : Nat} {A B : TypeId} {cs ds : List Value} (h : Row w a A cs) (k : Row w b B ds) (hT : A ≠ B) : a ≠ b := by
  rintro rfl
  have := h.heap
  rw [k.heap] at this
  simp at this
  exact hT this.2.symm
theorem Pl.ne {w : World} {p g h : Nat} {fs : List FR} {ws : List Nat} (H : Pl w p g h fs ws) : p ≠ g ∧ p ≠ h ∧ g ≠ h :=
  ⟨row_tys H.pool H.frames (by decide), row_tys H.pool H.words (by decide), row_tys H.frames H.words (by decide)⟩

def lowR (fs : List FR) : Option Nat := (List.range fs.length).find? (freeF fs)
theorem free_lt {fs : List FR} {f : Nat} (h : freeF fs f = true) : f < fs.length := by
  unfold freeF at h
  split at h
  · rename_i x hx; exact (List.getElem?_eq_some_iff.1 hx).1
  · cases h
theorem low_some {fs : List FR} {f : Nat} (h : freeF fs f = true) (hl : ∀ j, j < f → freeF fs j = false) : lowR fs = some f := low_find _ f (free_lt h) h hl
theorem low_no {fs : List FR} (h : ∀ j, j < fs.length → freeF fs j = false) : lowR fs = none := low_none _ h

set_option maxHeartbeats 1000000 in
theorem lowest_any (p g h : Nat) (fs : List FR) (ws : List Nat) (w : World) (H : Pl w p g h fs ws) (hT : Tb w) :
    Calls Tryd.prog 33 #[.pointer (some ⟨p, 0, none⟩)] w fun e w' => e = .returned (.tuple #[.int .i64 (((lowR fs).getD 0 : Nat) : Int), .bool (lowR fs).isSome]) ∧ w = w' := by
  obtain ⟨p0, p1⟩ := H.cells
  have hlp := H.pool.lt
  have hlh := H.words.lt
  have HH := hid H
  have HT := hid hT
  have hwn : ws.length ≤ 16 := by have := H.wl; have := H.n2; omega
  clear H hT
  go_enter Tryd.func33, Tryd.ntmps33
  go_wp2_with fail
  go_loopw [11] (fun i wr => ∃ k : Nat, k ≤ ws.length ∧ i = .int .i64 k ∧ (∀ j, j < k * 64 → freeF fs j = false) ∧ wr = w) (fun i _ => ws.length - (intOf i).toNat)
  case atStart => exact ⟨0, Nat.zero_le _, rfl, fun j hj => by omega, rfl⟩
  case round =>
    obtain ⟨k, hk, rfl, hz, rfl⟩ := hrel
    have HZ := hid hz
    clear hz
    by_cases hlt : k < ws.length
    · have d1 : decide ((k : Int) < (ws.length : Int)) = true := by simp; omega
      have d1n : decide (k < ws.length) = true := by simp; omega
      have hc := row_word HH.out.words k hlt
      have hwb := HH.out.wb k hlt
      have HW := hid hwb
      have HZB := hid (fun h0 => zero_bits HH.out.wb k hlt h0)
      have hu := hwb.1
      clear hwb
      generalize ws[k] = u at *
      by_cases h0 : u = 0
      · subst h0
        go_wp2_with fail
        go_roundw
        case rel => exact ⟨k + 1, by omega, by go_num, fun j hj => by
          by_cases c : j < k * 64
          · exact HZ.out j c
          · exact HZB.out rfl j (by omega) hj, trivial⟩
        case measure => simp [intOf]; omega
      · obtain ⟨h1, h2, h3⟩ := ctz_low u h0 hu
        have HC := hid (tz_any u _ hu h0 HT.out)
        have q1 : ((u : Int) != 0) = true := by rw [bne_iff_ne]; omega
        have HL := hid (low_some (fs := fs) (f := k * 64 + Lib.ctz 64 u) (by rw [← HW.out.2 _ h1]; exact h2) (fun j hj => by
          by_cases c : j < k * 64
          · exact HZ.out j c
          · have := HW.out.2 (j - k * 64) (by omega)
            rw [show k * 64 + (j - k * 64) = j by omega] at this
            rw [← this]
            exact h3 _ (by omega)))
        generalize Lib.ctz 64 u = t at *
        have ew := IntWalk.wrap64_in ((k : Int) * 64) ⟨by omega, by omega⟩
        have ew2 := IntWalk.wrap64_in ((k : Int) * 64 + (t : Int)) ⟨by omega, by omega⟩
        clear h2 h3 hu h0
        go_wp2_with fail
        refine (HC.out).mono ?_
        rintro e' w' ⟨rfl, rfl⟩
        go_wp2_with fail
        go_ret2
        rw [HL.out]
        exact ⟨by simp, rfl⟩
    · have d1 : decide ((k : Int) < (ws.length : Int)) = false := by simp; omega
      have d1n : decide (k < ws.length) = false := by simp; omega
      have HL := hid (low_no (fs := fs) (fun j hj => HZ.out j (by have := HH.out.wl; omega)))
      go_wp2_with fail
      go_ret2
      rw [HL.out]
      exact ⟨rfl, rfl⟩
end Go.Proofs.YtllkeeeajlgkpaaDoor
