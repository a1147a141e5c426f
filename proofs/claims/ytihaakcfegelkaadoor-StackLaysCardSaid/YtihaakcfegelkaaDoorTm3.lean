
/- hostellaw20: what a program begins with, in memory; large, eq. -/
import Derived.Test.YtihaakcfegelkaaDoorTm1
import Derived.Test.YtihaakcfegelkaaDoorTn0
import Derived.Laws.StructEq
import Derived.Deep.QuietTactic
import Derived.BigQuiet
namespace Go.Proofs.YtihaakcfegelkaaDoor
open Go.RowKit Go.Sort
attribute [local go_sem] Oper.semAt_some

/-- What a program begins with. -/
structure BG where
  aa : Option Addr
  ac : Nat
  argv : List BL
  ea : Option Addr
  ec : Nat
  env : List BL
  xa : Option Addr
  xc : Nat
  aux : List (Nat × Nat)
  path : BL
abbrev bgV (x : BG) : Value := .agg #[.slice x.aa x.argv.length x.ac, .slice x.ea x.env.length x.ec, .slice x.xa x.aux.length x.xc, .string (ba x.path)]
abbrev bgC (x : BG) : List Value := [.slice x.aa x.argv.length x.ac, .slice x.ea x.env.length x.ec, .slice x.xa x.aux.length x.xc, .string (ba x.path)]
structure BGok (w : World) (x : BG) : Prop where
  argv : Cel w x.aa x.argv.length (strs x.argv)
  env : Cel w x.ea x.env.length (strs x.env)
  aux : Axs w x.xa x.aux.length x.aux
  an : x.argv.length ≤ 8796093022207
  en : x.env.length ≤ 8796093022207
  xn : x.aux.length ≤ 8796093022207
  at' : ∀ p ∈ x.argv, p.length ≤ 140737488351232
  et : ∀ p ∈ x.env, p.length ≤ 140737488351232
  pn : x.path.length ≤ 140737488351232
  u64 : ∀ p ∈ x.aux, U64 p.1 ∧ U64 p.2
  ani : x.aa = none → x.ac = 0
  eni : x.ea = none → x.ec = 0
  xni : x.xa = none → x.xc = 0
theorem BGok.below {w w' : World} {x : BG} (h : BGok w x) (hb : Below w.heap.size w w') : BGok w' x :=
  ⟨h.argv.below' hb, h.env.below' hb, Rk.below' h.aux hb, h.an, h.en, h.xn, h.at', h.et, h.pn, h.u64, h.ani, h.eni, h.xni⟩

def LgPost (l : List BL) (w : World) (e : Ending) (w' : World) : Prop := ∃ b, e = .returned (.bool b) ∧ w = w' ∧ (b = false → l.length ≤ 65536 ∧ ∀ s ∈ l, s.length ≤ 65536)
theorem lgP_yes {l : List BL} {w : World} : LgPost l w (.returned (.bool true)) w := ⟨true, rfl, rfl, fun h => by cases h⟩

set_option maxRecDepth 100000 in
set_option maxHeartbeats 4000000 in
theorem large20_any (a : Option Addr) (cap : Nat) (l : List BL) (w : World) (hB : Cel w a l.length (strs l)) (hn : l.length ≤ 8796093022207) (ht : ∀ p ∈ l, p.length ≤ 140737488351232) :
    Calls Tryd.prog 18 #[.slice a l.length cap] w (LgPost l w) := by
  have HB := hid hB
  have HT := hid ht
  clear hB ht
  go_enter Tryd.func18, Tryd.ntmps18
  go_wp2_with fail
  go_loop [3, 4] (fun n i => ∃ k m : Nat, k ≤ l.length ∧ i = .int .i64 k ∧ n = .int .i64 m ∧ l.length ≤ m ∧ m ≤ 8796093222207 ∧ (m ≤ 65536 → ∀ s ∈ l.take k, s.length ≤ 65536)) (fun _ i => l.length - (intOf i).toNat)
  case atStart => exact ⟨0, l.length, Nat.zero_le _, rfl, rfl, Nat.le_refl _, by omega, fun _ s hs => by simp at hs⟩
  case round =>
    obtain ⟨k, m, hk, rfl, rfl, hm, hm2, hall⟩ := hrel
    have HALL := hid hall
    clear hall
    by_cases hlt : k < l.length
    · have d1 : decide ((k : Int) < (l.length : Int)) = true := by simp; omega
      have d1n : decide (k < l.length) = true := by simp; omega
      by_cases hbig : m ≤ 65536
      · have d2 : decide ((m : Int) ≤ (65536 : Int)) = true := by simp; omega
        have d2n : decide (m ≤ 65536) = true := by simp; omega
        obtain ⟨b, off, rfl, hc⟩ := HB.out.some_of (by simp [strs]; omega)
        have hx := strs_at hc hlt
        have h1 := HT.out _ (List.getElem_mem hlt)
        have hz : ((ba l[k]).size : Int) = (l[k].length : Int) := by rw [ba_size]
        have HTK := hid (show l.take (k + 1) = l.take k ++ [l[k]] from List.take_succ_eq_append_getElem hlt)
        have hk2 : k < 65536 := by omega
        generalize l[k] = t at *
        clear hc
        by_cases hmn : t.length ≤ 131072
        · have HR := hid (show m + t.length ≤ 65536 → ∀ s ∈ l.take (k + 1), s.length ≤ 65536 by
            intro h9 s hs
            rw [HTK.out] at hs
            rcases List.mem_append.1 hs with hs | hs
            · exact HALL.out hbig s hs
            · rw [List.mem_singleton.1 hs]; omega)
          have em : min (t.length : Int) 131072 = (t.length : Int) := by omega
          have es : IntKind.i64.wrap ((m : Int) + (t.length : Int)) = ((m + t.length : Nat) : Int) := by rw [IntWalk.i64_in _ (by omega)]; omega
          have hm9 : m ≤ 65536 := hbig
          clear hbig
          go_wp2_with fail
          clear em es
          go_round
          case rel => exact ⟨k + 1, m + t.length, by omega, by go_num, by go_num, by omega, by omega, HR.out⟩
          case measure => simp [intOf]; omega
        · have em : min (t.length : Int) 131072 = 131072 := by omega
          have es : IntKind.i64.wrap ((m : Int) + 131072) = (m : Int) + 131072 := IntWalk.i64_in _ (by omega)
          have hm9 : m ≤ 65536 := hbig
          clear hbig
          go_wp2_with fail
          clear em es
          go_round
          case rel => exact ⟨k + 1, m + 131072, by omega, by go_num, by go_num, by omega, by omega, fun h => by omega⟩
          case measure => simp [intOf]; omega
      · have d2 : decide ((m : Int) ≤ (65536 : Int)) = false := by simp; omega
        have d2n : decide (m ≤ 65536) = false := by simp; omega
        have d3 : decide ((65536 : Int) < (m : Int)) = true := by simp; omega
        have d3n : decide (65536 < m) = true := by simp; omega
        clear hbig
        go_wp2_with fail
        go_ret
        exact lgP_yes
    · have d1 : decide ((k : Int) < (l.length : Int)) = false := by simp; omega
      have d1n : decide (k < l.length) = false := by simp; omega
      by_cases hbig : m ≤ 65536
      · have d3 : decide ((65536 : Int) < (m : Int)) = false := by simp; omega
        have d3n : decide (65536 < m) = false := by simp; omega
        have HF := hid (show l.length ≤ 65536 ∧ ∀ s ∈ l, s.length ≤ 65536 from ⟨by omega, fun s hs => HALL.out hbig s (by rw [List.take_of_length_le (by omega)]; exact hs)⟩)
        clear hbig
        go_wp2_with fail
        go_ret
        exact ⟨false, rfl, rfl, fun _ => HF.out⟩
      · have d3 : decide ((65536 : Int) < (m : Int)) = true := by simp; omega
        have d3n : decide (65536 < m) = true := by simp; omega
        clear hbig
        go_wp2_with fail
        go_ret
        exact lgP_yes

def BgPost (x : BG) (w : World) (e : Ending) (w' : World) : Prop := ∃ b, e = .returned (.bool b) ∧ Below w.heap.size w w' ∧ (b = false → x.argv.length ≤ 65536 ∧ x.env.length ≤ 65536 ∧ x.aux.length ≤ 1024 ∧ x.path.length ≤ 65536 ∧ (∀ s ∈ x.argv, s.length ≤ 65536) ∧ ∀ s ∈ x.env, s.length ≤ 65536)
theorem bgP_yes {x : BG} {w w' : World} (h : Below w.heap.size w w') : BgPost x w (.returned (.bool true)) w' := ⟨true, rfl, h, fun h => by cases h⟩
theorem Row.bg {w : World} {g : Nat} {E : TypeId} {x : BG} (h : Row w g E (bgC x)) : w.cell? ⟨g, 0, none⟩ = some (.slice x.aa x.argv.length x.ac) ∧ w.cell? ⟨g, 1, none⟩ = some (.slice x.ea x.env.length x.ec) ∧ w.cell? ⟨g, 2, none⟩ = some (.slice x.xa x.aux.length x.xc) ∧ w.cell? ⟨g, 3, none⟩ = some (.string (ba x.path)) :=
  ⟨h.cell 0 (by simp), h.cell 1 (by simp), h.cell 2 (by simp), h.cell 3 (by simp)⟩

set_option maxRecDepth 100000 in
set_option maxHeartbeats 4000000 in
theorem begunLarge_any (x : BG) (w : World) (hx : BGok w x) : Calls Tryd.prog 6 #[bgV x] w (BgPost x w) := by
  have HRW := hid (Row.new w 25 (bgC x))
  have HB := hid (@bal w (.cells (bgC x).toArray 25))
  have HX := hid (hx.below HB.out)
  obtain ⟨c0, c1, c2, c3⟩ := HRW.out.bg
  have hl := HRW.out.lt
  have HA := hid (large20_any x.aa x.ac x.argv _ HX.out.argv HX.out.an HX.out.at')
  have HE := hid (large20_any x.ea x.ec x.env _ HX.out.env HX.out.en HX.out.et)
  have hz : ((ba x.path).size : Int) = (x.path.length : Int) := by rw [ba_size]
  clear hx
  go_enter Tryd.func6, Tryd.ntmps6
  go_wp2_with fail
  refine (HA.out).mono ?_
  rintro e' w1 ⟨b1, rfl, hw, h1⟩
  subst hw
  have H1 := hid h1
  clear h1 HA
  cases b1
  · go_wp2_with fail
    refine (HE.out).mono ?_
    rintro e' w1 ⟨b2, rfl, hw, h2⟩
    subst hw
    have H2 := hid h2
    clear h2 HE
    cases b2
    · by_cases hxl : 1024 < x.aux.length
      · have d1 : decide ((1024 : Int) < (x.aux.length : Int)) = true := by simp; omega
        have d1n : decide (1024 < x.aux.length) = true := by simp; omega
        clear hxl
        go_wp2_with fail
        go_ret
        exact bgP_yes HB.out
      · have d1 : decide ((1024 : Int) < (x.aux.length : Int)) = false := by simp; omega
        have d1n : decide (1024 < x.aux.length) = false := by simp; omega
        by_cases hp : 65536 < x.path.length
        · have d2 : decide ((65536 : Int) < (x.path.length : Int)) = true := by simp; omega
          have d2n : decide (65536 < x.path.length) = true := by simp; omega
          clear hxl hp
          go_wp2_with fail
          go_ret
          exact bgP_yes HB.out
        · have d2 : decide ((65536 : Int) < (x.path.length : Int)) = false := by simp; omega
          have d2n : decide (65536 < x.path.length) = false := by simp; omega
          have HF := hid (show x.argv.length ≤ 65536 ∧ x.env.length ≤ 65536 ∧ x.aux.length ≤ 1024 ∧ x.path.length ≤ 65536 ∧ (∀ s ∈ x.argv, s.length ≤ 65536) ∧ ∀ s ∈ x.env, s.length ≤ 65536 from ⟨(H1.out (by simp)).1, (H2.out (by simp)).1, by omega, by omega, (H1.out (by simp)).2, (H2.out (by simp)).2⟩)
          clear hxl hp
          go_wp2_with fail
          go_ret
          exact ⟨false, rfl, HB.out, fun _ => HF.out⟩
    · go_wp2_with fail
      go_ret
      exact bgP_yes HB.out
  · go_wp2_with fail
    go_ret
    exact bgP_yes HB.out

def eqX (s t : Nat × Nat) : Bool := (s.1 : Int) == (t.1 : Int) && ((s.2 : Int) == (t.2 : Int))
theorem eqX_self (s : Nat × Nat) : eqX s s = true := by simp [eqX]
theorem aux_neq (w : World) (a b c d : Nat) : (binOp .neq 43 (.agg #[.int .u64 (a : Int), .int .u64 (b : Int)]) (.agg #[.int .u64 (c : Int), .int .u64 (d : Int)])).run Tryd.prog w = .ok (.bool (!eqX (a, b) (c, d))) w := by
  rw [run_neq_struct, run_equalIn_agg w 9999 _ _ _ (by kernel_rfl) (by kernel_rfl)]
  simp [go_sem, Tryd.underlying43, Tryd.underlying30, Program.fieldsOf, eqX]
  repeat' split
  all_goals simp_all
set_option maxRecDepth 100000 in
set_option maxHeartbeats 4000000 in
/-- The same pairs. -/
theorem eq20_same (a c : Option Addr) (n cap cap2 : Nat) (l : List (Nat × Nat)) (w : World) (hB : Axs w a n l) (hC : Axs w c n l) (hl : n ≤ 100000) :
    Calls Tryd.prog 14 #[.slice a n cap, .slice c n cap2] w fun e w' => e = .returned (.bool true) ∧ Below w.heap.size w w' := by
  obtain rfl := axs_len hB
  have HB := hid hB
  have HC := hid hC
  have hne := aux_neq
  clear hB hC
  go_enter Tryd.func14, Tryd.ntmps14
  go_wp2_with fail
  go_loopw [5] (fun i wr => ∃ k : Nat, k ≤ l.length ∧ i = .int .i64 k ∧ ∃ n, wr = w.drewN n) (fun i _ => l.length - (intOf i).toNat)
  case atStart => exact ⟨0, Nat.zero_le _, rfl, 0, rfl⟩
  case round =>
    obtain ⟨k, hk, rfl, n, rfl⟩ := hrel
    by_cases h1 : k < l.length
    · have d1 : decide ((k : Int) < (l.length : Int)) = true := by simp; omega
      have d1n : decide (k < l.length) = true := by simp; omega
      obtain ⟨b1, o1, rfl, hx0, hx1⟩ := axs_at HB.out h1
      obtain ⟨b2, o2, rfl, hy0, hy1⟩ := axs_at HC.out h1
      have hq := eqX_self l[k]
      generalize l[k] = p at *
      obtain ⟨p, q⟩ := p
      simp only at hx0 hx1 hy0 hy1
      go_wp2_with fail
      go_quiet (fail)
      go_wp2_with fail
      go_roundw
      case rel => exact ⟨k + 1, by omega, by go_num, n + nq, by simp [World.drewN, Nat.add_assoc]⟩
      case measure => simp [intOf]; omega
    · have d1 : decide ((k : Int) < (l.length : Int)) = false := by simp; omega
      have d1n : decide (k < l.length) = false := by simp; omega
      go_wp2_with fail
      go_ret
      exact ⟨rfl, bdN (Below.refl _ _) _⟩
end Go.Proofs.YtihaakcfegelkaaDoor
