/- Package regions: split and run. -/
import Derived.Test.YtcafmhhfnleanaaI7
import Derived.Laws.EntriesVeiled
namespace Go.Proofs.Ytcafmhhfnleanaa
open Go.RowKit Go.Sort

def stayV : Value := .func (.func 52) #[] #[]
def stepC (f t : Int) (g : Value) : List Value := [.int .u64 0, .int .u64 f, .func (.func 52) #[] #[], .int .u64 f, .int .u64 t, g, .int .u64 t, .int .u64 140737488355328, .func (.func 52) #[] #[]]

theorem split_any (f t : Int) (F : Nat) (caps : Array Value) (w : World) :
    Calls Try.prog 37 #[.int .u64 f, .int .u64 t, .func (.func F) #[] caps] w fun e w' => e = .returned (.slice (some ⟨w.heap.size, 0, none⟩) 3 3) ∧ Row w' w.heap.size 66 (stepC f t (.func (.func F) #[] caps)) ∧ Below w.heap.size w w' := by
  have HR := hid (Row.new w 66 (stepC f t (.func (.func F) #[] caps)))
  have HW := hid (@bal w)
  go_enter Try.func37, Try.ntmps37
  go_wp2_with fail
  go_ret
  exact ⟨rfl, HR.out, HW.out _⟩

/-- What becomes of the part of a region between two addresses. -/
def piece (x : RG) (f t : Int) (g : RG → RG) : List RG :=
  if eqR (partR x f t) rg0 then [] else if eqR (g (partR x f t)) rg0 then [] else [g (partR x f t)]
def pieces (x : RG) (f t : Int) (g : RG → RG) : List RG := piece x 0 f id ++ (piece x f t g ++ piece x t 140737488355328 id)
def runR (l : List RG) (f t : Int) (g : RG → RG) : List RG := l.flatMap fun x => pieces x f t g
theorem piece_len (x : RG) (f t : Int) (g : RG → RG) : (piece x f t g).length ≤ 1 := by
  unfold piece
  split
  · simp
  · split <;> simp
theorem pieces_len (x : RG) (f t : Int) (g : RG → RG) : (pieces x f t g).length ≤ 3 := by
  unfold pieces
  have h1 := piece_len x 0 f id
  have h2 := piece_len x f t g
  have h3 := piece_len x t 140737488355328 id
  simp only [List.length_append]
  omega
theorem runR_len (l : List RG) (f t : Int) (g : RG → RG) : (runR l f t g).length ≤ 3 * l.length := by
  induction l with
  | nil => simp [runR]
  | cons x l ih =>
    have := pieces_len x f t g
    simp only [runR, List.flatMap_cons, List.length_append, List.length_cons] at *
    omega
theorem runR_take (l : List RG) (f t : Int) (g : RG → RG) (k : Nat) (h : k < l.length) : runR (l.take (k + 1)) f t g = runR (l.take k) f t g ++ pieces l[k] f t g := by
  unfold runR
  rw [List.take_succ_eq_append_getElem h, List.flatMap_append]
  simp
/-- The pieces of the first j steps. -/
def some3 (x : RG) (f t : Int) (g : RG → RG) : Nat → List RG
  | 0 => []
  | 1 => piece x 0 f id
  | 2 => piece x 0 f id ++ piece x f t g
  | _ => pieces x f t g
theorem some3_len (x : RG) (f t : Int) (g : RG → RG) (j : Nat) : (some3 x f t g j).length ≤ 3 := by
  have h1 := piece_len x 0 f id
  have h2 := piece_len x f t g
  match j with
  | 0 => simp [some3]
  | 1 => simp only [some3]; omega
  | 2 => simp only [some3, List.length_append]; omega
  | j + 3 => exact pieces_len x f t g

/-- The list of the call's own, and what it is not. -/
structure RunI (w : World) (base : Nat) (avoid : Nat → Prop) (v : Value) (l : List RG) : Prop where
  own : w.ownsRow base 25 5 v l.length (flat5 l)
  ne : ∀ b, avoid b → v.ownBlock ≠ some b
theorem RunI.bel {w w' : World} {base : Nat} {av : Nat → Prop} {v : Value} {l : List RG} (h : RunI w base av v l) (hb : Below w.heap.size w w') : RunI w' base av v l := ⟨own_below h.own hb, h.ne⟩

/-- A function that is there is entered. -/
def Enters (F : Nat) : Prop := ∀ (args : Array Value) (w : World), (callFunc F args).run Try.prog w = .ok (.enter F args) w
theorem enters_stay : Enters 52 := fun _ _ => by kernel_rfl
theorem enters_none : Enters 38 := fun _ _ => by kernel_rfl
theorem enters_prot : Enters 46 := fun _ _ => by kernel_rfl
/-- One of the three steps. -/
theorem step_at (x : RG) (f t : Int) (g : RG → RG) (S F : Nat) (caps : Array Value) (w wr : World) (hS : Row wr S 66 (stepC f t (.func (.func F) #[] caps)))
    (hen : Enters F) (hq : ∀ (x : RG) (wr : World), Below w.heap.size w wr → Calls Try.prog F (#[rgV x] ++ caps) wr fun e w' => e = .returned (rgV (g x)) ∧ Below wr.heap.size wr w') (j : Nat) (hj : j < 3) :
    ∃ (sf st : Int) (F' : Nat) (caps' : Array Value) (gg : RG → RG), wr.cell? ⟨S, j * 3, none⟩ = some (.int .u64 sf) ∧ wr.cell? ⟨S, j * 3 + 1, none⟩ = some (.int .u64 st) ∧ wr.cell? ⟨S, j * 3 + 2, none⟩ = some (.func (.func F') #[] caps') ∧
      (∀ (x : RG) (wr : World), Below w.heap.size w wr → Calls Try.prog F' (#[rgV x] ++ caps') wr fun e w' => e = .returned (rgV (gg x)) ∧ Below wr.heap.size wr w') ∧ Enters F' ∧ some3 x f t g (j + 1) = some3 x f t g j ++ piece x sf st gg := by
  match j, hj with
  | 0, _ => exact ⟨0, f, _, #[], id, hS.cell 0 (by simp [stepC]), hS.cell 1 (by simp [stepC]), hS.cell 2 (by simp [stepC]), fun x wr _ => stays_any x wr, enters_stay, rfl⟩
  | 1, _ => exact ⟨f, t, F, caps, g, hS.cell 3 (by simp [stepC]), hS.cell 4 (by simp [stepC]), hS.cell 5 (by simp [stepC]), hq, hen, rfl⟩
  | 2, _ => exact ⟨t, 140737488355328, _, #[], id, hS.cell 6 (by simp [stepC]), hS.cell 7 (by simp [stepC]), hS.cell 8 (by simp [stepC]), fun x wr _ => stays_any x wr, enters_stay, by simp [some3, pieces]⟩

set_option maxHeartbeats 4000000 in
theorem run_any (a : Option Addr) (len cap : Nat) (l : List RG) (f t : Int) (g : RG → RG) (S : Nat) (F : Nat) (caps : Array Value) (w : World) (hA : Rgs w a len l) (hl : len ≤ 300) (hS : Row w S 66 (stepC f t (.func (.func F) #[] caps)))
    (hen : Enters F) (hq : ∀ (x : RG) (wr : World), Below w.heap.size w wr → Calls Try.prog F (#[rgV x] ++ caps) wr fun e w' => e = .returned (rgV (g x)) ∧ Below wr.heap.size wr w') :
    Calls Try.prog 36 #[.slice a len cap, .slice (some ⟨S, 0, none⟩) 3 3] w fun e w' => ∃ v, e = .returned v ∧ w'.ownsRow w.heap.size 25 5 v (runR l f t g).length (flat5 (runR l f t g)) ∧ Below w.heap.size w w' := by
  obtain rfl := hA.hlen
  have HA := hid hA
  have HS := hid hS
  have HQ := hid hq
  have HE := hid hen
  have hSl := hS.lt
  have HZ := hid (Row.new w 25 (rgc rg0))
  have HW := hid (@bal w)
  clear hA hS hq hen
  go_enter Try.func36, Try.ntmps36
  go_wp2_with fail
  go_loopw [5, 16] (fun v i wr => ∃ (sv : Value) (k : Nat), sv = v ∧ k ≤ l.length ∧ i = .int .i64 k ∧ wr.ownsRow (w.heap.size + 1) 25 5 sv (runR (l.take k) f t g).length (flat5 (runR (l.take k) f t g)) ∧ Row wr w.heap.size 25 (rgc rg0) ∧ Below w.heap.size w wr) (fun _ i _ => l.length - (intOf i).toNat)
  case atStart => exact ⟨_, 0, rfl, Nat.zero_le _, rfl, own_rgs_nil, HZ.out, HW.out _⟩
  case round =>
    obtain ⟨sv, k, hsv, hk, rfl, ho, hz, hb⟩ := hrel
    subst hsv
    have HO := hid ho
    have HZR := hid hz
    have HB := hid hb
    clear ho hz
    by_cases hlt : k < l.length
    · have d1 : decide ((k : Int) < (l.length : Int)) = true := by simp; omega
      have d1n : decide (k < l.length) = true := by simp; omega
      obtain ⟨b, off, rfl, hcell⟩ := HA.out.some_of (by omega)
      obtain ⟨y0, y1, y2, y3, y4⟩ := (hcell k hlt).below hb
      have hlb := World.block_lt_of_cell? _ _ y0
      have ht := hid (runR_take l f t g k hlt)
      have hln := hid (runR_len (l.take k) f t g)
      clear hb hcell
      generalize l[k] = x at *
      have HX := hid (Row.new wr 25 (rgc x))
      go_wp2_with fail
      generalize hacc : runR (l.take k) f t g = acc at *
      have hal : acc.length ≤ 900 := by have := hln.out; simp at this; omega
      clear hacc
      rename World => wA
      go_loopw [5, 22] (fun v i wv => ∃ (sv : Value) (j : Nat), sv = v ∧ j ≤ 3 ∧ i = .int .i64 j ∧ RunI wv (w.heap.size + 1) (fun b => b = wA.heap.size) sv (acc ++ some3 x f t g j) ∧ Row wv wA.heap.size 25 (rgc x) ∧ Row wv w.heap.size 25 (rgc rg0) ∧ Below w.heap.size w wv) (fun _ i _ => 3 - (intOf i).toNat)
      case atStart => exact ⟨_, 0, rfl, by omega, rfl, ⟨by simpa [some3] using HO.out.alloc _, fun b hb hc => by have := (HO.out.lt _ hc).2; omega⟩, HX.out, HZR.out.alloc _, bal2 HB.out _⟩
      case round =>
        obtain ⟨sv2, j, hsv2, hj, rfl, hr, hx, hz, hb⟩ := hrel
        subst hsv2
        obtain ⟨x0, x1, x2, x3, x4⟩ := hx.c5
        obtain ⟨z0, z1, z2, z3, z4⟩ := hz.c5
        have hlx := hx.lt
        have hlz := hz.lt
        have HR2 := hid hr
        have HX2 := hid hx
        have HZ2 := hid hz
        have HB2 := hid hb
        by_cases hj3 : j < 3
        · have e1 : decide ((j : Int) < 3) = true := by simp; omega
          have e2 : decide (j < 3) = true := by simp; omega
          obtain ⟨sf, st, F', caps', gg, c0, c1, c2, hcall, hent, hsome⟩ := step_at x f t g S F caps w wr (HS.out.bel hb) HE.out HQ.out j hj3
          unfold Enters at hent
          have hlS : S < wr.heap.size := World.block_lt_of_cell? _ _ c0
          have HC := hid hcall
          have HSO := hid hsome
          clear hb hr hx hz hcall hsome
          have HBS := hid (fun o => bal2 HB2.out o)
          have HXS := hid (fun o => HX2.out.alloc o)
          have HZS := hid (fun o => HZ2.out.alloc o)
          have HRS := hid (fun o => HR2.out.bel (bal o))
          have HTS := hid (Row.new wr 66 [.int .u64 sf, .int .u64 st, .func (.func F') #[] caps'])
          go_wp2_with fail
          refine (part_any x sf st _).mono ?_
          rintro e' w2 ⟨rfl, hb2⟩
          have HB3 := hid (bthen (HBS.out _) hb2)
          have HX3 := hid ((HXS.out _).bel hb2)
          have HZ3 := hid ((HZS.out _).bel hb2)
          have HR3 := hid ((HRS.out _).bel hb2)
          have HT3 := hid (HTS.out.bel hb2)
          have hsz2 := hb2.size
          simp only [World.size_alloc] at hsz2
          clear hb2 x0 x1 x2 x3 x4 z0 z1 z2 z3 z4 c0 c1 c2 HBS HXS HZS HRS HTS
          obtain ⟨x0, x1, x2, x3, x4⟩ := HX3.out.c5
          obtain ⟨z0, z1, z2, z3, z4⟩ := HZ3.out.c5
          have t0 := HT3.out.cell 0 (by simp)
          have t1 := HT3.out.cell 1 (by simp)
          have t2 := HT3.out.cell 2 (by simp)
          simp only [List.getElem_cons_zero, List.getElem_cons_succ] at t0 t1 t2
          have hlx3 := HX3.out.lt
          have hlz3 := HZ3.out.lt
          have hlt3 := HT3.out.lt
          have hpc := hid (show piece x sf st gg = if eqR (partR x sf st) rg0 then [] else if eqR (gg (partR x sf st)) rg0 then [] else [gg (partR x sf st)] from rfl)
          generalize partR x sf st = p at *
          have heq := fun w' => rg_eql w' p rg0
          cases hz0 : eqR p rg0
          · rw [hz0] at heq hpc
            have hpc2 := hid (show piece x sf st gg = if eqR (gg p) rg0 then [] else [gg p] from by rw [hpc.out]; simp)
            have HQ3 := hid (fun o => HC.out p (w2.alloc o) (bal2 HB3.out o))
            have HBS := hid (fun o => bal2 HB3.out o)
            have HXS := hid (fun o => HX3.out.alloc o)
            have HZS := hid (fun o => HZ3.out.alloc o)
            have HRS := hid (fun o => HR3.out.bel (bal o))
            clear hz0 hpc
            go_wp2_with fail
            refine (HQ3.out _).mono ?_
            rintro e' w3 ⟨rfl, hb3⟩
            have HB4 := hid (bthen (HBS.out _) hb3)
            have HX4 := hid ((HXS.out _).bel hb3)
            have HZ4 := hid ((HZS.out _).bel hb3)
            have HR4 := hid ((HRS.out _).bel hb3)
            have hsz3 := hb3.size
            simp only [World.size_alloc] at hsz3
            clear hb3 x0 x1 x2 x3 x4 z0 z1 z2 z3 z4 t0 t1 t2 HBS HXS HZS HRS heq hlx3 hlz3 hlt3
            obtain ⟨x0, x1, x2, x3, x4⟩ := HX4.out.c5
            obtain ⟨z0, z1, z2, z3, z4⟩ := HZ4.out.c5
            have hlx4 := HX4.out.lt
            have hlz4 := HZ4.out.lt
            generalize gg p = q at *
            have hneq := fun w' => rg_neq w' q rg0
            have HBS := hid (fun o => bal2 HB4.out o)
            have HXS := hid (fun o => HX4.out.alloc o)
            have HZS := hid (fun o => HZ4.out.alloc o)
            have HRS := hid (fun o => HR4.out.bel (bal o))
            cases hz1 : eqR q rg0
            · rw [hz1] at hneq hpc2
              have HN := hid (fun o => (new_rg (w3.alloc o) 25 q))
              have hl2 := some3_len x f t g j
              have HLN := hid (show (acc ++ some3 x f t g j).length ≤ 1000000 by simp only [List.length_append]; omega)
              have HLB := hid (fun o1 o2 => show w.heap.size + 1 ≤ ((w3.alloc o1).alloc o2).heap.size by simp only [World.size_alloc]; omega)
              have HO5 := hid (fun o1 o2 => ((HRS.out o1).bel (bal o2)).own)
              clear hz1 hl2
              go_wp2_with (at_builtin; go_must (refine wpList_app5 _ rfl _ _ 22 rfl (w.heap.size + 1) 25 Try.underlying22 infoReg sv2 (acc ++ some3 x f t g j).length (acc ++ some3 x f t g j) rfl (HO5.out _ _) (w3.heap.size + 1) q rfl (by have := HN.out; simpa using this _) HLN.out (HLB.out _ _) ?_; intro v' w4 hown' hgrow hat; have HO6 := hid hown'; have HG6 := hid hgrow; have HAT := hid hat; clear hown' hgrow hat))
              have hne1 : sv2.ownBlock ≠ some wA.heap.size := HR2.out.ne _ rfl
              have hne0 : sv2.ownBlock ≠ some w.heap.size := fun h => by have := (HR2.out.own.lt _ h).1; omega
              have HXF := hid (((HXS.out _).alloc _).grown HG6.out (fun h => hne1 h.symm))
              have HZF := hid (((HZS.out _).alloc _).grown HG6.out (fun h => hne0 h.symm))
              have HBF := hid (grown_low (HO5.out _ _) HG6.out (bal2 (HBS.out _) _) (by omega) (by simp only [World.size_alloc]; omega))
              have HRF : Hid (RunI w4 (w.heap.size + 1) (fun b => b = wA.heap.size) v' (acc ++ some3 x f t g (j + 1))) := hid ⟨by
                rw [HSO.out, hpc2.out]
                simpa [Nat.add_assoc] using HO6.out, fun b hb h => by
                subst hb
                rcases HAT.out with h1 | h1
                · exact hne1 (h1.symm.trans h)
                · rw [h] at h1
                  have := Option.some.inj h1
                  simp only [World.size_alloc] at this
                  omega⟩
              go_wp2_with fail
              go_roundw
              case rel => exact ⟨_, j + 1, rfl, by omega, by go_num, HRF.out, HXF.out, HZF.out, HBF.out⟩
              case measure => simp [intOf]; omega
            · rw [hz1] at hneq hpc2
              have HSF : Hid (some3 x f t g (j + 1) = some3 x f t g j) := hid (by rw [HSO.out, hpc2.out]; simp)
              clear hz1
              go_wp2_with fail
              go_roundw
              case rel => exact ⟨_, j + 1, rfl, by omega, by go_num, by rw [HSF.out]; exact HRS.out _, HXS.out _, HZS.out _, HBS.out _⟩
              case measure => simp [intOf]; omega
          · rw [hz0] at heq hpc
            have HSF : Hid (some3 x f t g (j + 1) = some3 x f t g j) := hid (by rw [HSO.out, hpc.out]; simp)
            clear hz0
            have HBS := hid (fun o => bal2 HB3.out o)
            have HXS := hid (fun o => HX3.out.alloc o)
            have HZS := hid (fun o => HZ3.out.alloc o)
            have HRS := hid (fun o => HR3.out.bel (bal o))
            go_wp2_with fail
            go_roundw
            case rel => exact ⟨_, j + 1, rfl, by omega, by go_num, by rw [HSF.out]; exact HRS.out _, HXS.out _, HZS.out _, HBS.out _⟩
            case measure => simp [intOf]; omega
        · have e1 : decide ((j : Int) < 3) = false := by simp; omega
          have e2 : decide (j < 3) = false := by simp; omega
          obtain rfl : j = 3 := by omega
          have HF := hid (show wr.ownsRow (w.heap.size + 1) 25 5 sv2 (runR (l.take (k + 1)) f t g).length (flat5 (runR (l.take (k + 1)) f t g)) from by rw [ht.out]; exact HR2.out.own)
          clear hr hx hz hb
          go_wp2_with fail
          go_roundw
          case rel => exact ⟨_, k + 1, rfl, by omega, by go_num, HF.out, HZ2.out, HB2.out⟩
          case measure => simp [intOf]; omega
    · have d1 : decide ((k : Int) < (l.length : Int)) = false := by simp; omega
      have d1n : decide (k < l.length) = false := by simp; omega
      obtain rfl : k = l.length := by omega
      clear hb
      go_wp2_with fail
      go_ret
      have ho := HO.out
      rw [List.take_length] at ho
      exact ⟨_, rfl, own_from ho (by omega), HB.out⟩
end Go.Proofs.Ytcafmhhfnleanaa
