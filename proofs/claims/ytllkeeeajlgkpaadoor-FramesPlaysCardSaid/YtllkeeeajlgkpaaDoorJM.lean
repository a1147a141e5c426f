
/- The reference's pool: New, Free, Size, Count; begun, alike. -/
import Derived.Test.YtllkeeeajlgkpaaDoorJB
namespace Go.Proofs.YtllkeeeajlgkpaaDoor
open Go.RowKit Go.Sort

abbrev rpC (a b n : Nat) : List Value := [.slice (some ⟨a, 0, none⟩) n n, .slice (some ⟨b, 0, none⟩) n n]
/-- The reference's pool: the struct in block p, the counts in a, the bytes' slices in b. -/
structure RP (w : World) (p a b : Nat) (cs : List Int) (vs : List Value) : Prop where
  pool : Row w p 66 (rpC a b cs.length)
  cnts : Row w a 3 (cs.map (Value.int .i64))
  bys : Row w b 30 vs
  vl : vs.length = cs.length
  n2 : cs.length ≤ 1024
theorem RP.below {w w' : World} {p a b : Nat} {cs : List Int} {vs : List Value} (H : RP w p a b cs vs) (hb : Below w.heap.size w w') : RP w' p a b cs vs :=
  ⟨H.pool.below hb H.pool.lt, H.cnts.below hb H.cnts.lt, H.bys.below hb H.bys.lt, H.vl, H.n2⟩
theorem RP.ex {w w' : World} {p a b g h : Nat} {cs : List Int} {vs : List Value} (H : RP w p a b cs vs) (hx : Ex w w' g h) (h1 : p ≠ g ∧ p ≠ h) (h2 : a ≠ g ∧ a ≠ h) (h3 : b ≠ g ∧ b ≠ h) : RP w' p a b cs vs :=
  ⟨hx.row H.pool h1.1 h1.2, hx.row H.cnts h2.1 h2.2, hx.row H.bys h3.1 h3.2, H.vl, H.n2⟩
theorem RP.cells {w : World} {p a b : Nat} {cs : List Int} {vs : List Value} (H : RP w p a b cs vs) : w.cell? ⟨p, 0, none⟩ = some (.slice (some ⟨a, 0, none⟩) cs.length cs.length) ∧ w.cell? ⟨p, 1, none⟩ = some (.slice (some ⟨b, 0, none⟩) cs.length cs.length) := by
  have p0 := H.pool.cell 0 (by simp)
  have p1 := H.pool.cell 1 (by simp)
  simpa [rpC] using ⟨p0, p1⟩
theorem RP.cnt {w : World} {p a b : Nat} {cs : List Int} {vs : List Value} (H : RP w p a b cs vs) (k : Nat) (hk : k < cs.length) : w.cell? ⟨a, k, none⟩ = some (.int .i64 cs[k]) := by
  have := H.cnts.cell k (by simpa using hk)
  simpa using this
def rcnt (cs : List Int) (f : Int) : Int := if 0 ≤ f ∧ f < cs.length then cs.getD f.toNat 0 else 0
def rfree (cs : List Int) : Nat := cs.countP (fun c => c == 0)
theorem rfree_take (cs : List Int) (k : Nat) (h : k < cs.length) : rfree (cs.take (k + 1)) = rfree (cs.take k) + (if cs[k] == 0 then 1 else 0) := by
  unfold rfree
  rw [List.take_succ_eq_append_getElem h, List.countP_append]
  simp [List.countP_cons]
theorem rfree_le (cs : List Int) : rfree cs ≤ cs.length := List.countP_le_length
theorem rfree_map (fs : List FR) : rfree (fs.map (·.cnt)) = freeN fs := by unfold rfree freeN; rw [List.countP_map]; rfl
theorem rcnt_map (fs : List FR) (f : Int) : rcnt (fs.map (·.cnt)) f = cntF fs f := by
  unfold rcnt cntF
  rw [List.length_map]
  by_cases c : 0 ≤ f ∧ f < fs.length
  · rw [if_pos c, if_pos c]
    have hk : f.toNat < fs.length := by omega
    rw [getF_at _ _ _ hk, getF_at _ _ _ (by rw [List.length_map]; exact hk), List.getElem_map]
  · rw [if_neg c, if_neg c]

set_option maxHeartbeats 1000000 in
theorem rfree_any (p a b : Nat) (cs : List Int) (vs : List Value) (w : World) (H : RP w p a b cs vs) :
    Calls Tryd.prog 29 #[.pointer (some ⟨p, 0, none⟩)] w fun e w' => e = .returned (.int .i64 ((rfree cs : Nat) : Int)) ∧ w = w' := by
  obtain ⟨p0, p1⟩ := H.cells
  have hlp := H.pool.lt
  have hla := H.cnts.lt
  have hn := H.n2
  have HH := hid H
  clear H
  go_enter Tryd.func29, Tryd.ntmps29
  go_wp2_with fail
  go_loopw [3, 4] (fun m i wr => ∃ k : Nat, k ≤ cs.length ∧ i = .int .i64 k ∧ m = .int .i64 ((rfree (cs.take k) : Nat) : Int) ∧ wr = w) (fun _ i _ => cs.length - (intOf i).toNat)
  case atStart => exact ⟨0, Nat.zero_le _, rfl, rfl, rfl⟩
  case round =>
    obtain ⟨k, hk, rfl, rfl, rfl⟩ := hrel
    by_cases hlt : k < cs.length
    · have d1 : decide ((k : Int) < (cs.length : Int)) = true := by simp; omega
      have d1n : decide (k < cs.length) = true := by simp; omega
      have hc := HH.out.cnt k hlt
      have HT := hid (rfree_take cs k hlt)
      have hle := rfree_le (cs.take k)
      have hl2 : (cs.take k).length = k := by simp; omega
      generalize cs[k] = x at *
      generalize rfree (cs.take k) = r at *
      have ez : (0 : Int) ≤ (k : Int) := by omega
      have eb : (k : Int) < (cs.length : Int) := by omega
      by_cases c0 : x = 0
      · have q1 : (x == 0) = true := by simpa using c0
        rw [q1] at HT
        have ew := IntWalk.wrap64_in ((r : Int) + 1) ⟨by omega, by omega⟩
        clear c0
        go_wp2_with fail
        clear ew
        go_roundw
        case rel => exact ⟨k + 1, by omega, by go_num, by rw [HT.out]; simp, by trivial⟩
        case measure => simp [intOf]; omega
      · have q1 : (x == 0) = false := by simpa using c0
        rw [q1] at HT
        clear c0
        go_wp2_with fail
        go_roundw
        case rel => exact ⟨k + 1, by omega, by go_num, by rw [HT.out]; simp, by trivial⟩
        case measure => simp [intOf]; omega
    · have d1 : decide ((k : Int) < (cs.length : Int)) = false := by simp; omega
      have d1n : decide (k < cs.length) = false := by simp; omega
      have HE := hid (show cs.take k = cs from List.take_of_length_le (by omega))
      rw [HE.out]
      go_wp2_with fail
      go_ret
      exact ⟨rfl, rfl⟩
theorem rsize_any (p a b : Nat) (cs : List Int) (vs : List Value) (w : World) (H : RP w p a b cs vs) :
    Calls Tryd.prog 30 #[.pointer (some ⟨p, 0, none⟩)] w fun e w' => e = .returned (.int .i64 (cs.length : Int)) ∧ w = w' := by
  obtain ⟨p0, p1⟩ := H.cells
  have hlp := H.pool.lt
  clear H
  go_enter Tryd.func30, Tryd.ntmps30
  go_wp2_with fail
  go_ret
  exact ⟨rfl, rfl⟩
theorem rcount_any (p a b : Nat) (cs : List Int) (vs : List Value) (f : Int) (w : World) (H : RP w p a b cs vs) :
    Calls Tryd.prog 31 #[.pointer (some ⟨p, 0, none⟩), .int .i64 f] w fun e w' => e = .returned (.int .i64 (rcnt cs f)) ∧ w = w' := by
  obtain ⟨p0, p1⟩ := H.cells
  have hlp := H.pool.lt
  have hla := H.cnts.lt
  by_cases c0 : 0 ≤ f
  · by_cases c1 : f < cs.length
    · obtain ⟨k, rfl⟩ := Int.eq_ofNat_of_zero_le c0
      have hk : k < cs.length := by omega
      have hc := H.cnt k hk
      have HE := hid (show rcnt cs (k : Int) = cs[k] by unfold rcnt; rw [if_pos ⟨c0, c1⟩, Int.toNat_natCast, getF_at _ _ _ hk])
      generalize cs[k] = x at *
      have b1 : decide ((k : Int) < 0) = false := by simp
      have b2 : decide ((cs.length : Int) ≤ (k : Int)) = false := by simp; omega
      have b3 : decide (cs.length ≤ k) = false := by simp; omega
      clear H
      go_enter Tryd.func31, Tryd.ntmps31
      go_wp2_with fail
      go_ret
      rw [HE.out]
      exact ⟨rfl, rfl⟩
    · have HE := hid (show rcnt cs f = 0 by unfold rcnt; rw [if_neg (fun h => c1 h.2)])
      have b1 : decide (f < 0) = false := by simp; omega
      have b2 : decide ((cs.length : Int) ≤ f) = true := by simp; omega
      clear H
      go_enter Tryd.func31, Tryd.ntmps31
      go_wp2_with fail
      go_ret
      rw [HE.out]
      exact ⟨rfl, rfl⟩
  · have HE := hid (show rcnt cs f = 0 by unfold rcnt; rw [if_neg (fun h => c0 h.1)])
    have b1 : decide (f < 0) = true := by simp; omega
    clear H
    go_enter Tryd.func31, Tryd.ntmps31
    go_wp2_with fail
    go_ret
    rw [HE.out]
    exact ⟨rfl, rfl⟩

theorem new_no (n : Int) (w : World) (hn : ¬ (1 ≤ n ∧ n ≤ 1024)) :
    Calls Tryd.prog 10 #[.int .i64 n] w fun e w' => e = .returned (.tuple #[.pointer none, .int .i64 1]) ∧ w = w' := by
  by_cases c : n < 1
  · go_enter Tryd.func10, Tryd.ntmps10
    go_wp2_with fail
    go_ret2
    exact ⟨rfl, rfl⟩
  · have c2 : 1024 < n := by omega
    clear hn
    go_enter Tryd.func10, Tryd.ntmps10
    go_wp2_with fail
    go_ret2
    exact ⟨rfl, rfl⟩
theorem rnew_no (n : Int) (w : World) (hn : ¬ (1 ≤ n ∧ n ≤ 1024)) :
    Calls Tryd.prog 15 #[.int .i64 n] w fun e w' => e = .returned (.tuple #[.pointer none, .int .i64 1]) ∧ w = w' := by
  by_cases c : n < 1
  · go_enter Tryd.func15, Tryd.ntmps15
    go_wp2_with fail
    go_ret2
    exact ⟨rfl, rfl⟩
  · have c2 : 1024 < n := by omega
    clear hn
    go_enter Tryd.func15, Tryd.ntmps15
    go_wp2_with fail
    go_ret2
    exact ⟨rfl, rfl⟩

def iZ (n : Nat) : List Value := (List.replicate n 0).map (Value.int .i64)
def sZ (n : Nat) : List Value := List.replicate n (.slice none 0 0)
theorem made_one (z : Value) (n : Nat) : madeCells #[z] n = (List.replicate n z).toArray := by
  apply Array.ext
  · simp [size_madeCells]
  · intro i h1 h2
    have e : i % 1 = 0 := Nat.mod_one i
    simp [madeCells, e]
theorem infoI : (Tryd.prog.info? 3).map (fun i => (i.zero, i.size, i.bytes)) = some (some (.int .i64 0), 1, 8) := by kernel_rfl
theorem infoS : (Tryd.prog.info? 30).map (fun i => (i.zero, i.size, i.bytes)) = some (some (.slice none 0 0), 1, 24) := by kernel_rfl
theorem mk_ints (m : Nat) (hm : m ≤ 1024) (w : World) : (Instr.makeSlice 63 (.int .i64 (m : Int)) (.int .i64 (m : Int))).run Tryd.prog w = .ok (.slice (some ⟨w.heap.size, 0, none⟩) m m) (w.alloc (.cells (iZ m).toArray 3)) := by
  obtain ⟨i0, hi, hz0, hz1, hz2⟩ := info_parts infoI
  have := run_make (P := Tryd.prog) w 63 3 i0 (.int .i64 0) Tryd.underlying63 hi hz0 .i64 .i64 (m : Int) (m : Int) (by omega) (by omega) (by rw [hz2]; omega) (by omega)
  rw [this, hz1]
  simp only [Int.toNat_natCast, Nat.mul_one]
  rw [show (Value.int .i64 0).cells = #[.int .i64 0] from rfl, made_one]
  unfold iZ
  rw [List.map_replicate]
theorem mk_bys (m : Nat) (hm : m ≤ 1024) (w : World) : (Instr.makeSlice 64 (.int .i64 (m : Int)) (.int .i64 (m : Int))).run Tryd.prog w = .ok (.slice (some ⟨w.heap.size, 0, none⟩) m m) (w.alloc (.cells (sZ m).toArray 30)) := by
  obtain ⟨i0, hi, hz0, hz1, hz2⟩ := info_parts infoS
  have := run_make (P := Tryd.prog) w 64 30 i0 (.slice none 0 0) Tryd.underlying64 hi hz0 .i64 .i64 (m : Int) (m : Int) (by omega) (by omega) (by rw [hz2]; omega) (by omega)
  rw [this, hz1]
  simp only [Int.toNat_natCast, Nat.mul_one]
  rw [show (Value.slice none 0 0).cells = #[.slice none 0 0] from rfl, made_one]
  rfl

set_option maxRecDepth 100000 in
set_option maxHeartbeats 1000000 in
theorem rnew_any (n : Nat) (w : World) (h1 : 1 ≤ n) (h2 : n ≤ 1024) :
    Calls Tryd.prog 15 #[.int .i64 (n : Int)] w fun e w' => ∃ p a b, e = .returned (.tuple #[.pointer (some ⟨p, 0, none⟩), .int .i64 0]) ∧ RP w' p a b (List.replicate n 0) (sZ n) ∧ w.heap.size ≤ p ∧ w.heap.size ≤ a ∧ w.heap.size ≤ b ∧ Below w.heap.size w w' := by
  have b1 : decide ((n : Int) < 1) = false := by simp; omega
  have b2 : decide (1024 < (n : Int)) = false := by simp; omega
  have hmk := mk_ints n h2
  have hmw := mk_bys n h2
  have HB := hid (fun o1 o2 o3 => (bdN (bal2 (bal2 (@bal w o1) o2) o3) 1))
  have HA1 := hid (show RP ((((w.alloc (.cells (iZ n).toArray 3)).alloc (.cells (sZ n).toArray 30)).alloc (.cells #[.slice (some ⟨w.heap.size, 0, none⟩) n n, .slice (some ⟨w.heap.size + 1, 0, none⟩) n n] 66)).drew) (w.heap.size + 1 + 1) w.heap.size (w.heap.size + 1) (List.replicate n 0) (sZ n) from
    ⟨Row.drew (by rw [List.length_replicate]; exact Row.new2 _ _ _ _ _), Row.drew (((Row.new _ _ _).alloc _).alloc _), Row.drew ((Row.new1 _ _ _ _).alloc _), by simp [sZ], by simpa using h2⟩)
  have HA2 := hid (show RP ((((w.alloc (.cells (sZ n).toArray 30)).alloc (.cells (iZ n).toArray 3)).alloc (.cells #[.slice (some ⟨w.heap.size + 1, 0, none⟩) n n, .slice (some ⟨w.heap.size, 0, none⟩) n n] 66)).drew) (w.heap.size + 1 + 1) (w.heap.size + 1) w.heap.size (List.replicate n 0) (sZ n) from
    ⟨Row.drew (by rw [List.length_replicate]; exact Row.new2 _ _ _ _ _), Row.drew ((Row.new1 _ _ _ _).alloc _), Row.drew (((Row.new _ _ _).alloc _).alloc _), by simp [sZ], by simpa using h2⟩)
  go_enter Tryd.func15, Tryd.ntmps15
  go_wp2_with fail
  go_region_with (fail)
  · clear hmk hmw
    go_wp2_with fail
    go_ret2
    exact ⟨_, _, _, rfl, HA1.out, by omega, by omega, by omega, HB.out _ _ _⟩
  · clear hmk hmw
    go_wp2_with fail
    go_ret2
    exact ⟨_, _, _, rfl, HA2.out, by omega, by omega, by omega, HB.out _ _ _⟩
end Go.Proofs.YtllkeeeajlgkpaaDoor
