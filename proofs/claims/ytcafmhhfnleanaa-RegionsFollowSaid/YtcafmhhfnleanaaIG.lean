/- RegionsFollow: addresses at, ahead of and behind each boundary. -/
import Derived.Test.YtcafmhhfnleanaaID
import Derived.Test.YtcafmhhfnleanaaIg
import Derived.Deep.RegionHeld3
import Derived.Deep.AppendLies
namespace Go.Proofs.Ytcafmhhfnleanaa
open Go.RowKit Go.Sort

/-- A whole list, or none, behind a list of the call's own. -/
theorem wpList_aps5 {P : Program} (w : World) {ops : Array Oper} {rest : List Oper} {o : Oper} {a : Act} {Q : Exit → Act → World → Prop} (hgd : o.guard = none) (s x : Operand) (t : TypeId)
    (ho : o.op = .call { callee := .builtin .append, args := #[s, x], argTypes := #[t, t] })
    (base : Nat) (e : TypeId) (ht : P.underlying t = some (.slice e)) (hi : (P.info? e).map (fun i => (i.zero, i.size, i.bytes)) = some (some (.agg #[.int .u64 0, .int .u64 0, .int .u8 0, .int .i64 0, .int .u64 0]), 5, 40))
    (v : Value) (n : Nat) (l : List RG) (hs : a.eval s = v) (hown : w.ownsRow base e 5 v n (flat5 l)) (ad : Option Addr) (m c : Nat) (ys : List RG) (hx : a.eval x = .slice ad m c) (hc : ad = none → c = 0) (hy : Rgs w ad m ys) (hn : n ≤ 1000000) (hm : m ≤ 1000000) (hbase : base ≤ w.heap.size)
    (h : ∀ v' w', w'.ownsRow base e 5 v' (n + m) (flat5 (l ++ ys)) → Below base w w' → wpList P ops Q rest (a.put o.dst v') w') : wpList P ops Q (o :: rest) a w := by
  cases ad with
  | none =>
    obtain rfl : ys = [] := by
      cases ys with
      | nil => rfl
      | cons x l => obtain ⟨_, _, h, _⟩ := hy.some_of (by simp); cases h
    obtain rfl := hc rfl
    have hm0 : m = 0 := by have := hy.hlen; simpa using this.symm
    subst hm0
    obtain ⟨i0, hi0, hz0, hz1, hz2⟩ := info_parts hi
    refine wpList_append_own_none hgd s x t ho base e i0 5 ht hi0 v n (flat5 l) hs hown hx ?_
    exact h v w (by rw [List.append_nil, Nat.add_zero]; exact hown) (Below.refl _ _)
  | some ad =>
    refine wpList_apps5 w hgd s x t ho base e ht hi v n l hs hown ad m c ys hx hy hn hm hbase fun v' w' h1 h2 => h v' w' h1 ?_
    exact grown_low hown h2 (Below.refl _ _) (Nat.le_refl _) hbase

theorem news_row {w : World} {g : Nat} {E : TypeId} {cs : List Value} (h : Row w g E cs) : ∀ j u, cs[j]? = some u → w.cell? ((Addr.mk g 0 none).add j) = some u := by
  intro j u hj
  have := h.cell' j
  rw [hj] at this
  unfold Addr.add
  by_cases e : j = 0
  · subst e; simpa using this
  · simpa [e] using this

def edge4 (y : RG) : List Int := [y.fr, wU (y.fr - 1), y.to, wU (y.to - 1)]
theorem edge4_bd (y : RG) (hy : RGok y) : ∀ t ∈ edge4 y, 0 ≤ t ∧ t ≤ 18446744073709551615 := by
  intro t ht
  have h1 := hy.f0
  have h2 := hy.f1
  have h3 := hy.t0
  have h4 := hy.t1
  simp only [edge4, List.mem_cons, List.not_mem_nil, or_false] at ht
  rcases ht with rfl | rfl | rfl | rfl
  · exact ⟨h1, h2⟩
  · unfold wU; rw [wu_def]; omega
  · exact ⟨h3, h4⟩
  · unfold wU; rw [wu_def]; omega

set_option maxHeartbeats 4000000 in
theorem edges_any (a b : Option Addr) (la lb ca cb : Nat) (l m : List RG) (r : RG) (w : World) (hA : Rgs w a la l) (hB : Rgs w b lb m) (hca : a = none → ca = 0) (hcb : b = none → cb = 0) (h1 : la ≤ 64) (h2 : lb ≤ 64) (hl : ∀ x ∈ l, RGok x) (hm : ∀ x ∈ m, RGok x) (hr : RGok r) :
    Calls Try.prog 30 #[.slice a la ca, .slice b lb cb, rgV r] w fun e w' => ∃ (v : Value) (ts : List Int), e = .returned v ∧ w'.ownsRow w.heap.size 23 1 v ts.length (ts.map (Value.int .u64)) ∧ (∀ t ∈ ts, 0 ≤ t ∧ t ≤ 18446744073709551615) ∧ ts.length ≤ 2000 ∧ Below w.heap.size w w' := by
  have hla := hA.hlen
  have hlb := hB.hlen
  have HA := hid (fun o => hA.below (bal o))
  have HB := hid hB
  have HCA := hid hca
  have HCB := hid hcb
  have HOK := hid (show ∀ x ∈ (l ++ m) ++ [r], RGok x from fun x hx => by
    rcases List.mem_append.1 hx with hx | hx
    · rcases List.mem_append.1 hx with hx | hx
      · exact hl x hx
      · exact hm x hx
    · simp only [List.mem_singleton] at hx; subst hx; exact hr)
  have HZ := hid (Row.new w 25 (rgc r))
  have HW := hid (@bal w)
  have hn1 : la ≤ 1000000 := by omega
  have hn2 : lb ≤ 1000000 := by omega
  have hn3 : 0 + la ≤ 1000000 := by omega
  have hn4 : 0 + la + lb ≤ 1000000 := by omega
  have HL0 := hid (fun o => show w.heap.size + 1 ≤ (w.alloc o).heap.size by simp only [World.size_alloc]; omega)
  clear hA hB hca hcb hl hm hr
  go_enter Try.func30, Try.ntmps30
  go_wp2_with (first | (at_builtin; refine wpList_aps5 _ rfl _ _ 22 rfl (w.heap.size + 1) 25 Try.underlying22 infoReg (.slice none 0 0) 0 [] rfl own_rgs_nil a la ca l rfl HCA.out (HA.out _) (Nat.zero_le _) hn1 (HL0.out _) ?_; intro v1 w1 ho hb; have HO1 := hid ho; have HZ1 := hid (HZ.out.below hb (Nat.lt_succ_self _)); have HB1 := hid ((HW.out _).trans (hb.mono (Nat.le_succ _))); have HBb1 := hid (HB.out.below HB1.out); have HL1 := hid (Nat.le_trans (HL0.out _) hb.size); clear ho hb) | (at_builtin; refine wpList_aps5 _ rfl _ _ 22 rfl (w.heap.size + 1) 25 Try.underlying22 infoReg v1 (0 + la) ([] ++ l) rfl HO1.out b lb cb m rfl HCB.out HBb1.out hn3 hn2 HL1.out ?_; intro v2 w2 ho hb; have HO2 := hid (fun o => ho.alloc o); have HZ2 := hid (HZ1.out.below hb (Nat.lt_succ_self _)); obtain ⟨z0, z1, z2, z3, z4⟩ := HZ2.out.c5; have hlz := HZ2.out.lt; have HB2 := hid (fun o => bal2 (HB1.out.trans (hb.mono (Nat.le_succ _))) o); have HL2 := hid (fun o => show w.heap.size + 1 ≤ (w2.alloc o).heap.size from Nat.le_trans (Nat.le_trans HL1.out hb.size) (by simp only [World.size_alloc]; omega)); have HNr := hid (new_rg w2 25 r); clear ho hb) | (at_builtin; refine wpList_app5 _ rfl _ _ 22 rfl (w.heap.size + 1) 25 Try.underlying22 infoReg v2 (0 + la + lb) (([] ++ l) ++ m) rfl (HO2.out _) w2.heap.size r rfl HNr.out hn4 (HL2.out _) ?_; intro v3 w3 ho hg hat; have HO3 := hid ho; have HB3 := hid (grown_low (HO2.out _) hg (HB2.out _) (Nat.le_succ _) (Nat.le_of_succ_le (HL2.out _))); clear ho hg hat))
  rw [List.nil_append] at HO3
  obtain ⟨a3, c3, rfl, hrg, _⟩ := own_rgs HO3.out
  have hLl := hrg.hlen
  obtain ⟨b9, off, rfl, hcell⟩ := hrg.some_of (by rw [hLl]; omega)
  have HCELL := hid hcell
  generalize hLd : (l ++ m) ++ [r] = L at *
  clear hcell hrg hLd
  obtain ⟨i0, hi, hz0, hz1, hz2⟩ := info_parts infoU64
  rw [← hLl]
  have hLn : L.length ≤ 129 := by omega
  have hL0 : 0 < L.length := by omega
  clear hLl HO3
  have HBw := HB3.out
  rename World => wA
  have hsA := HB3.out.size
  go_wp2_with fail
  go_loopw [8, 9] (fun v i wr => ∃ (sv : Value) (k : Nat) (ts : List Int), sv = v ∧ k ≤ L.length ∧ i = .int .i64 k ∧ wr.ownsRow wA.heap.size 23 1 sv ts.length (ts.map (Value.int .u64)) ∧ (∀ t ∈ ts, 0 ≤ t ∧ t ≤ 18446744073709551615) ∧ ts.length = k * 4 ∧ Below wA.heap.size wA wr) (fun _ i _ => L.length - (intOf i).toNat)
  case atStart => exact ⟨_, 0, [], rfl, Nat.zero_le _, rfl, own_nil_of, (fun t h => by cases h), rfl, Below.refl _ _⟩
  case round =>
    obtain ⟨sv, k, ts, hsv, hk, rfl, ho, hts, htl, hb⟩ := hrel
    subst hsv
    have hLpos : 0 < L.length := hL0
    have HOw := hid ho
    have HTS := hid hts
    have HBr := hid hb
    by_cases hlt : k < L.length
    · have d1 : decide ((k : Int) < (L.length : Int)) = true := by simp; omega
      have d1n : decide (k < L.length) = true := by simp; omega
      have hy := (HCELL.out k hlt).below hb
      obtain ⟨y0, y1, y2, y3, y4⟩ := hy
      have hlb9 := World.block_lt_of_cell? _ _ y0
      have HE := hid (edge4_bd _ (HOK.out _ (List.getElem_mem hlt)))
      generalize L[k] = y at *
      have ez : (0 : Int) ≤ (k : Int) := by omega
      have eb : (k : Int) < (L.length : Int) := by omega
      have HL1 := hid (show ts.length + 4 ≤ maxLen by unfold maxLen; omega)
      have HL2 := hid (show (ts.length + 4) * 8 ≤ 140737488355328 by omega)
      have HOd := hid (fun o => World.ownsRow.drew (HOw.out.alloc o))
      have HLb := hid (fun o => show wA.heap.size ≤ (wr.alloc o).drew.heap.size by have := HBr.out.size; show _ ≤ (wr.alloc o).heap.size; simp only [World.size_alloc]; exact Nat.le_trans this (Nat.le_succ _))
      have HBd := hid (fun o => bdN (bal2 HBr.out o) 1)
      have HN1 := hid (news_row (Row.drew (Row.new wr 23 ((edge4 y).map (Value.int .u64)))))
      have HNE := hid (show sv.ownBlock ≠ some b9 from fun h => by have := (ho.lt _ h).1; have := (HCELL.out 0 (by omega)).lt; omega)
      have HTL := hid htl
      clear hb ho hts y2 y3 y4 htl
      go_wp2_with fail
      go_region_held3 (fun w' => w'.cell? ⟨b9, off + k * 5, none⟩ = some (.int .u64 y.fr) ∧ w'.cell? ⟨b9, off + k * 5 + 1, none⟩ = some (.int .u64 y.to)) (first | go_keep | (go_split_ands; refine ⟨?_, ?_⟩ <;> (rw [hgrow.cell_far _ (by simp; omega) (fun h => HNE.out h.symm)]; assumption))) ((refine step_append_lies _ (by rfl) _ _ 51 (by rfl) wA.heap.size 23 i0 (.int .u64 0) 1 8 Try.underlying51 hi hz0 hz1 hz2 rfl (by decide) sv ts.length (ts.map (Value.int .u64)) (by rfl) (HOd.out _) ⟨wr.heap.size, 0, none⟩ 4 4 ((edge4 y).map (Value.int .u64)) (by rfl) (by rfl) HN1.out (nums_one _ _) (by decide) HL1.out HL2.out (HLb.out _) (wr.heap.size + 1) (by simp) ?_; intro gg cap w1 hown1 hgrow hat hlt; have HO2 := hid hown1; have HB2 := hid (grown_low1 (HOd.out _) hgrow (HBd.out _) (Nat.le_refl _) (HLb.out _))))
      go_wp2_with fail
      go_roundw
      case rel => exact ⟨_, k + 1, ts ++ edge4 y, rfl, by omega, by go_num, by simpa [edge4] using HO2.out, (fun t ht => by
        rcases List.mem_append.1 ht with h | h
        · exact HTS.out t h
        · exact HE.out t h), by have := HTL.out; simp [edge4]; omega, HB2.out⟩
      case measure => simp [intOf]; omega
    · have d1 : decide ((k : Int) < (L.length : Int)) = false := by simp; omega
      have d1n : decide (k < L.length) = false := by simp; omega
      have HTL := hid (show ts.length ≤ 2000 by omega)
      clear hb ho hts htl
      go_wp2_with fail
      go_ret
      exact ⟨_, ts, rfl, own_from HOw.out hsA, HTS.out, HTL.out, bthen HBw HBr.out⟩
end Go.Proofs.Ytcafmhhfnleanaa
