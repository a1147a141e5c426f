/- Package regions: join. -/
import Derived.Test.YtcafmhhfnleanaaI9
namespace Go.Proofs.Ytcafmhhfnleanaa
open Go.RowKit Go.Sort

def withTo (z : RG) (t : Int) : RG := ⟨z.fr, t, z.pr, z.ino, z.off⟩
def joinStep (out : List RG) (r : RG) : List RG :=
  match out.getLast? with
  | none => out ++ [r]
  | some z => if joinB z r then out.dropLast ++ [withTo z r.to] else out ++ [r]
def joinR (l : List RG) : List RG := l.foldl joinStep []
theorem joinStep_nil (r : RG) : joinStep [] r = [r] := rfl
theorem joinStep_some (init : List RG) (z r : RG) : joinStep (init ++ [z]) r = if joinB z r then init ++ [withTo z r.to] else (init ++ [z]) ++ [r] := by
  unfold joinStep
  simp
theorem joinR_take (l : List RG) (k : Nat) (h : k < l.length) : joinR (l.take (k + 1)) = joinStep (joinR (l.take k)) l[k] := by
  unfold joinR
  rw [List.take_succ_eq_append_getElem h, List.foldl_append]
  rfl
theorem joinStep_len (out : List RG) (r : RG) : (joinStep out r).length ≤ out.length + 1 := by
  rcases List.eq_nil_or_concat out with rfl | ⟨init, z, rfl⟩
  · simp [joinStep_nil]
  · rw [List.concat_eq_append, joinStep_some]
    split <;> simp
theorem joinR_len (l : List RG) : (joinR l).length ≤ l.length := by
  have key : ∀ (l acc : List RG), (l.foldl joinStep acc).length ≤ acc.length + l.length := by
    intro l
    induction l with
    | nil => intro acc; simp
    | cons x l ih =>
      intro acc
      have h1 := ih (joinStep acc x)
      have h2 := joinStep_len acc x
      simp only [List.foldl_cons, List.length_cons]
      omega
  have := key l []
  simpa [joinR] using this
theorem flat5_setTo (init : List RG) (z : RG) (t : Int) : (flat5 (init ++ [z])).set (init.length * 5 + 1) (.int .u64 t) = flat5 (init ++ [withTo z t]) := by
  rw [flat5_app, flat5_app, List.set_append_right _ _ (by rw [flat5_len]; omega), flat5_len]
  have : init.length * 5 + 1 - init.length * 5 = 1 := by omega
  rw [this, flat5_one, flat5_one]
  rfl

/-- Unless there are too many. -/
def fewE (l : List RG) : Int := if 64 < l.length then 15 else 0
def fewL (l : List RG) : List RG := if 64 < l.length then [] else l
theorem few_pos {l : List RG} (h : 64 < l.length) : fewE l = 15 ∧ fewL l = [] := ⟨by unfold fewE; rw [if_pos h], by unfold fewL; rw [if_pos h]⟩
theorem few_neg {l : List RG} (h : ¬ 64 < l.length) : fewE l = 0 ∧ fewL l = l := ⟨by unfold fewE; rw [if_neg h], by unfold fewL; rw [if_neg h]⟩

set_option maxHeartbeats 4000000 in
theorem join_any (a : Option Addr) (len cap : Nat) (l : List RG) (w : World) (hA : Rgs w a len l) (hl : len ≤ 2000) :
    Calls Try.prog 34 #[.slice a len cap] w fun e w' => ∃ v, e = .returned (.tuple #[v, .int .i64 (fewE (joinR l))]) ∧ w'.ownsRow w.heap.size 25 5 v (fewL (joinR l)).length (flat5 (fewL (joinR l))) ∧ Below w.heap.size w w' := by
  obtain rfl := hA.hlen
  have HA := hid hA
  clear hA
  go_enter Try.func34, Try.ntmps34
  go_wp2_with fail
  go_loopw [4, 10] (fun v i wr => ∃ (sv : Value) (k : Nat), sv = v ∧ k ≤ l.length ∧ i = .int .i64 k ∧ wr.ownsRow w.heap.size 25 5 sv (joinR (l.take k)).length (flat5 (joinR (l.take k))) ∧ Below w.heap.size w wr) (fun _ i _ => l.length - (intOf i).toNat)
  case atStart => exact ⟨_, 0, rfl, Nat.zero_le _, rfl, own_rgs_nil, Below.refl _ _⟩
  case round =>
    obtain ⟨sv, k, hsv, hk, rfl, ho, hb⟩ := hrel
    subst hsv
    have HB := hid hb
    have hsz := hb.size
    by_cases hlt : k < l.length
    · have d1 : decide ((k : Int) < (l.length : Int)) = true := by simp; omega
      have d1n : decide (k < l.length) = true := by simp; omega
      obtain ⟨b, off, rfl, hcell⟩ := HA.out.some_of (by omega)
      obtain ⟨y0, y1, y2, y3, y4⟩ := (hcell k hlt).below hb
      have hlb := World.block_lt_of_cell? _ _ y0
      have HT := hid (joinR_take l k hlt)
      have hln := joinR_len (l.take k)
      have hlk : (l.take k).length ≤ 2000 := by simp; omega
      clear hb hcell
      generalize l[k] = x at *
      generalize joinR (l.take k) = out at *
      have HX := hid (Row.new wr 25 (rgc x))
      rcases List.eq_nil_or_concat out with rfl | ⟨init, z, rfl⟩
      · have HJ := hid (HT.out.trans (joinStep_nil x))
        obtain ⟨a2, c2, rfl, _, hn2, _, _, _⟩ := own_rgs ho
        have HO0 := hid ho
        simp only [List.length_nil] at *
        clear ho hn2
        go_wp2_with fail
        go_quiet (fail)
        have HOq := hid (own_below (HO0.out.alloc (.cells #[.int .u64 x.fr, .int .u64 x.to, .int .u8 x.pr, .int .i64 x.ino, .int .u64 x.off] 25)) (bdN (Below.refl _ _) nq))
        have HBq := hid (bdN (bal2 HB.out (.cells #[.int .u64 x.fr, .int .u64 x.to, .int .u8 x.pr, .int .i64 x.ino, .int .u64 x.off] 25)) nq)
        have HXq := hid (HX.out.drewN nq)
        have hBW := hid (show w.heap.size ≤ ((wr.alloc (.cells #[.int .u64 x.fr, .int .u64 x.to, .int .u8 x.pr, .int .i64 x.ino, .int .u64 x.off] 25)).drewN nq).heap.size from HBq.out.size)
        simp only [rgc] at HXq
        generalize (wr.alloc (.cells #[.int .u64 x.fr, .int .u64 x.to, .int .u8 x.pr, .int .i64 x.ino, .int .u64 x.off] 25)).drewN nq = wq at *
        obtain ⟨q0, q1, q2, q3, q4⟩ := (show Row wq wr.heap.size 25 (rgc x) from HXq.out).c5
        have hlq := HXq.out.lt
        have HNx := hid (new_rg wq 25 x)
        have HO1 := hid (fun o => HOq.out.alloc o)
        have hlB := hid (fun o => show w.heap.size ≤ (wq.alloc o).heap.size by have := hBW.out; simp only [World.size_alloc]; omega)
        go_wp2_with (at_builtin; go_must (refine wpList_app5 _ rfl _ _ 22 rfl w.heap.size 25 Try.underlying22 infoReg (.slice a2 0 c2) 0 [] rfl (HO1.out _) wq.heap.size x rfl HNx.out (Nat.zero_le _) (hlB.out _) ?_; intro v2 w2 hown' hgrow hat; have HO2 := hid hown'; have HG2 := hid hgrow; clear hown' hgrow hat))
        have HBF := hid (grown_low (HO1.out _) HG2.out (bal2 HBq.out _) (Nat.le_refl _) (hlB.out _))
        go_wp2_with fail
        go_roundw
        case rel => exact ⟨_, k + 1, rfl, by omega, by go_num, by rw [HJ.out]; simpa using HO2.out, HBF.out⟩
        case measure => simp [intOf]; omega
      · rw [List.concat_eq_append] at *
        have HJ := hid (HT.out.trans (joinStep_some init z x))
        obtain ⟨G, c2, rfl, hnc, hcm, hbG, hlG⟩ := own_some5 ho (by simp)
        obtain ⟨_, _, e9, hrg, _⟩ := own_rgs ho
        cases e9
        have HZ0 : Hid (rgCells wr G (init.length * 5) z) := hid (by
          obtain ⟨b9, o9, e9, hc9⟩ := hrg.cell init.length (by simp)
          cases e9
          simpa using hc9)
        have hil : init.length ≤ 2000 := by have := hln; simp at this; omega
        have HO0 := hid ho
        clear ho hrg hln
        unfold maxLen at hcm
        simp only [List.length_append, List.length_cons, List.length_nil, Nat.zero_add] at *
        have em : ((init.length : Int) + 1) - 1 = (init.length : Int) := by omega
        have e0 : decide ((0 : Int) < (init.length : Int) + 1) = true := decide_eq_true (by omega)
        have ez : (0 : Int) ≤ (init.length : Int) := by omega
        have eb : (init.length : Int) < (init.length : Int) + 1 := by omega
        have hon : init.length + 1 ≤ 1000000 := by omega
        have ew : IntKind.i64.wrap (init.length : Int) = (init.length : Int) := IntWalk.i64_in _ ⟨by omega, by omega⟩
        have ew2 : wrap64 (init.length : Int) = (init.length : Int) := IntWalk.wrap64_in _ ⟨by clear ew; omega, by clear ew; omega⟩
        go_wp2_with fail
        have HOW := hid (HO0.out.alloc (.cells #[.int .u64 x.fr, .int .u64 x.to, .int .u8 x.pr, .int .i64 x.ino, .int .u64 x.off] 25))
        have HBW := hid (bal2 HB.out (.cells #[.int .u64 x.fr, .int .u64 x.to, .int .u8 x.pr, .int .i64 x.ino, .int .u64 x.off] 25))
        have HZW := hid (HZ0.out.below (bal (.cells #[.int .u64 x.fr, .int .u64 x.to, .int .u8 x.pr, .int .i64 x.ino, .int .u64 x.off] 25)))
        have HXW := hid (show Row (wr.alloc (.cells #[.int .u64 x.fr, .int .u64 x.to, .int .u8 x.pr, .int .i64 x.ino, .int .u64 x.off] 25)) wr.heap.size 25 (rgc x) from HX.out)
        have hlw : wr.heap.size < (wr.alloc (.cells #[.int .u64 x.fr, .int .u64 x.to, .int .u8 x.pr, .int .i64 x.ino, .int .u64 x.off] 25)).heap.size := HXW.out.lt
        clear y0 y1 y2 y3 y4
        generalize (wr.alloc (.cells #[.int .u64 x.fr, .int .u64 x.to, .int .u8 x.pr, .int .i64 x.ino, .int .u64 x.off] 25)) = W at *
        obtain ⟨n0, n1, n2, n3, n4⟩ := rg_cells HXW.out.rg
        obtain ⟨z0, z1, z2, z3, z4⟩ := rg_cells HZW.out
        simp only [Nat.zero_add] at n1 n2 n3 n4
        have hlb1 : ∀ d os, wr.heap.size < (rg W d os).heap.size := fun d os => World.block_lt_of_cell? _ _ (n0 d os)
        have hlb2 : ∀ d os, G < (rg W d os).heap.size := fun d os => World.block_lt_of_cell? _ _ (z0 d os)
        have cc1 := hid (fun (d : Nat) (os : Array Obj) => rg_call (joins_any z x (rg W d os)))
        refine region_rg (by kernel_rfl) (by kernel_rfl) ?_
        repeat (quiet_step (with_reducible exact cc1.out _ _))
        refine wpQuiet_nil ?_
        intro _ hw'
        obtain ⟨⟨dq, osq⟩, hw''⟩ := hw'
        subst hw''
        have HOq := hid (own_below HOW.out (rg_below W dq osq))
        have HBq := hid (bthen HBW.out (rg_below W dq osq))
        have HXq := hid (HXW.out.bel (rg_below W dq osq))
        have HZq := hid (HZW.out.below (rg_below W dq osq))
        clear n0 n1 n2 n3 n4 z0 z1 z2 z3 z4 hlb1 hlb2 cc1 hlw ew
        have EW2 := hid ew2
        clear ew2
        generalize rg W dq osq = wq at *
        obtain ⟨q0, q1, q2, q3, q4⟩ := HXq.out.c5
        have hlq := HXq.out.lt
        have hlG2 := HZq.out.lt
        cases hj : joinB z x
        · rw [hj] at HJ
          have HNx := hid (new_rg wq 25 x)
          have HO1 := hid (fun o => HOq.out.alloc o)
          have hBW := HBq.out.size
          have hlB := hid (fun o => show w.heap.size ≤ (wq.alloc o).heap.size by simp only [World.size_alloc]; omega)
          clear hj
          go_wp2_with (at_builtin; go_must (refine wpList_app5 _ rfl _ _ 22 rfl w.heap.size 25 Try.underlying22 infoReg (.slice (some ⟨G, 0, none⟩) (init.length + 1) c2) (init.length + 1) (init ++ [z]) rfl (HO1.out _) wq.heap.size x rfl HNx.out hon (hlB.out _) ?_; intro v2 w2 hown' hgrow hat; have HO2 := hid hown'; have HG2 := hid hgrow; clear hown' hgrow hat))
          have HBF := hid (grown_low (HO1.out _) HG2.out (bal2 HBq.out _) (Nat.le_refl _) (hlB.out _))
          go_wp2_with fail
          go_roundw
          case rel => exact ⟨_, k + 1, rfl, by omega, by go_num, by rw [HJ.out]; simpa using HO2.out, HBF.out⟩
          case measure => simp [intOf]; omega
        · rw [hj] at HJ
          obtain ⟨z0, z1, z2, z3, z4⟩ := HZq.out
          have hfz : wq.frozen? ⟨G, init.length * 5 + 1, none⟩ = false := by
            obtain ⟨_, _, _, _, _, _, _, h8⟩ := own_rgs HOq.out
            rename_i e8 _ _ _ _
            cases e8
            obtain ⟨G', e7, _, _, cs, hr, _⟩ := h8 _ rfl
            cases e7
            exact hr.frozen _
          have HS := hid (HOq.out.stored (init.length * 5 + 1) (.int .u64 x.to))
          clear hj
          have ew2 := EW2.out
          go_wp2_with fail
          clear ew2
          go_roundw
          case rel =>
            refine ⟨_, k + 1, rfl, by omega, by go_num, ?_, ?_⟩
            · rw [HJ.out, if_pos rfl, ← flat5_setTo]
              simpa using HS.out.1
            · exact HBq.out.grown HS.out.2 HBq.out.size (fun k hk => by cases hk; exact hbG)
          case measure => simp [intOf]; omega
    · have d1 : decide ((k : Int) < (l.length : Int)) = false := by simp; omega
      have d1n : decide (k < l.length) = false := by simp; omega
      obtain rfl : k = l.length := by omega
      rw [List.take_length] at ho
      obtain ⟨a2, c2, rfl, _, hn2, _, _, _⟩ := own_rgs ho
      have HO := hid ho
      clear hb ho hn2
      by_cases h64 : 64 < (joinR l).length
      · have d2 : decide ((64 : Int) < ((joinR l).length : Int)) = true := by simp; omega
        have d2n : decide (64 < (joinR l).length) = true := by simp; omega
        have hf := hid (few_pos h64)
        go_wp2_with fail
        go_ret2
        rw [hf.out.1, hf.out.2]
        exact ⟨_, rfl, own_rgs_nil, HB.out⟩
      · have d2 : decide ((64 : Int) < ((joinR l).length : Int)) = false := by simp; omega
        have d2n : decide (64 < (joinR l).length) = false := by simp; omega
        have hf := hid (few_neg h64)
        go_wp2_with fail
        go_ret2
        rw [hf.out.1, hf.out.2]
        exact ⟨_, rfl, HO.out, HB.out⟩
end Go.Proofs.Ytcafmhhfnleanaa
