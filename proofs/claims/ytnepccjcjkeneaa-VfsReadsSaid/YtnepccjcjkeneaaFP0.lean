
/- vfs: a node's path leads to it; pieces of a file. -/
import Derived.Test.YtnepccjcjkeneaaFL2
namespace Go.Proofs.Ytnepccjcjkeneaa
open Go.RowKit Go.Sort

/-- The two lists, held against one another by EqBytes. -/
def eqB (l m : List UInt8) : Bool := decide (l = m)

set_option maxHeartbeats 1000000 in
theorem eqBytes_any (a c : Option Addr) (len cap len2 cap2 : Nat) (l m : List UInt8) (w : World) (hB : Byt w a len l) (hC : Byt w c len2 m) (hl : len ≤ 140737488351232) (hl2 : len2 ≤ 140737488351232) :
    Calls Try.prog 16 #[.slice a len cap, .slice c len2 cap2] w fun e w' => e = .returned (.bool (eqB l m)) ∧ ∃ n, w' = w.drewN n := by
  obtain rfl := hB.hlen
  obtain rfl := hC.hlen
  go_enter Try.func16, Try.ntmps16
  go_wp2
  go_loopw [5] (fun i wr => ∃ k : Nat, k ≤ l.length ∧ k ≤ m.length ∧ i = .int .i64 k ∧ l.take k = m.take k ∧ ∃ n, wr = w.drewN n) (fun i _ => l.length - (intOf i).toNat)
  case atStart => exact ⟨0, Nat.zero_le _, Nat.zero_le _, rfl, by simp, 0, rfl⟩
  case round =>
    obtain ⟨k, hk, hk2, rfl, he, n, rfl⟩ := hrel
    have HE := hid he; clear he
    by_cases h1 : k < l.length
    · by_cases h2 : k < m.length
      · obtain ⟨b1, o1, rfl, hc1⟩ := hB.some_of (by omega)
        obtain ⟨b2, o2, rfl, hc2⟩ := hC.some_of (by omega)
        have hx := hc1 k h1
        have hy := hc2 k h2
        clear hB hC hc1 hc2
        by_cases h3 : l[k] = m[k]
        · have HT := hid (show l.take (k + 1) = m.take (k + 1) by rw [List.take_succ_eq_append_getElem h1, List.take_succ_eq_append_getElem h2, HE.out, h3])
          go_wp2
          go_quiet (fail)
          go_wp2
          go_roundw
          case rel => exact ⟨k + 1, by omega, by omega, by go_num, HT.out, n + nq, by simp [World.drewN, Nat.add_assoc]⟩
          case measure => simp [intOf]; omega
        · have h4 : ((l[k].toNat : Int) == (m[k].toNat : Int)) = false := by
            rw [beq_eq_false_iff_ne]
            intro e
            exact h3 (UInt8.toNat_inj.1 (by omega))
          have h5 : ((k : Int) == (l.length : Int)) = false := by rw [beq_eq_false_iff_ne]; omega
          have HF := hid (show false = eqB l m by
            unfold eqB; rw [eq_comm, decide_eq_false_iff_not]; intro e; subst e; exact h3 rfl)
          clear h3
          go_wp2
          go_quiet (fail)
          go_wp2
          go_ret
          exact ⟨ret_bool HF.out, n + nq, by simp [World.drewN, Nat.add_assoc]⟩
      · have h5 : ((k : Int) == (l.length : Int)) = false := by rw [beq_eq_false_iff_ne]; omega
        have h6 : decide ((k : Int) < (m.length : Int)) = false := by simp; omega
        have HF := hid (show false = eqB l m by
            unfold eqB; rw [eq_comm, decide_eq_false_iff_not]; intro e; subst e; omega)
        go_wp2
        go_quiet (fail)
        go_wp2
        go_ret
        exact ⟨ret_bool HF.out, n + nq, by simp [World.drewN, Nat.add_assoc]⟩
    · have e : k = l.length := by omega
      subst e
      by_cases h2 : l.length = m.length
      · have HF := hid (show true = eqB l m by
            unfold eqB; rw [eq_comm, decide_eq_true_eq]
            have := HE.out
            rwa [List.take_length, h2, List.take_length] at this)
        have h6 : ((l.length : Int) == (m.length : Int)) = true := by rw [beq_iff_eq]; omega
        have h7 : decide ((l.length : Int) < (l.length : Int)) = false := by simp
        clear h2
        go_wp2
        go_quiet (fail)
        go_wp2
        go_ret
        exact ⟨ret_bool HF.out, n + nq, by simp [World.drewN, Nat.add_assoc]⟩
      · have HF := hid (show false = eqB l m by
            unfold eqB; rw [eq_comm, decide_eq_false_iff_not]; intro e; subst e; omega)
        have h6 : ((l.length : Int) == (m.length : Int)) = false := by rw [beq_eq_false_iff_ne]; omega
        have h7 : decide ((l.length : Int) < (l.length : Int)) = false := by simp
        clear h2
        go_wp2
        go_quiet (fail)
        go_wp2
        go_ret
        exact ⟨ret_bool HF.out, n + nq, by simp [World.drewN, Nat.add_assoc]⟩
theorem eqB_me (l : List UInt8) : eqB l l = true := by simp [eqB]
theorem path_split (ds : List BL) (p : BL) : ∃ X, pathJ (ds ++ [p]) = X ++ [47] ++ p := by
  by_cases he : ds = []
  · subst he; exact ⟨[], by rw [pathJ_is]; rfl⟩
  · exact ⟨pathJ ds, by rw [pathJ_is, jn_snoc he, pathJ_is]; simp⟩
theorem path_tail {ds : List BL} {p : BL} (h : GoodD (ds ++ [p])) : tailB (pathJ (ds ++ [p])) = false := by
  obtain ⟨X, e⟩ := path_split ds p
  obtain ⟨h1, _, h2⟩ := h.each p (by simp)
  rw [e]
  unfold tailB
  rw [cst_split X p (fun c hc => (h2 c hc).1)]
  have : p ≠ [] := by rintro rfl; revert h1; decide
  simp [this]
theorem path_walk {L : List ND} {P : Nat → List BL} (hL : Lay L P) {i : Nat} (hi : i < L.length) : walkL L rootC 0 (L.getD i default).path false = ((i : Int), 0) := by
  have hpos := hL.pos
  have hG := hL.good i hi
  obtain ⟨g1, g2, g3⟩ := goodD_chk hG
  have hbase : (0 : Int) ≤ 0 ∧ (0 : Int) < (L.length : Int) ∧ (L.getD (0 : Int).toNat default).kind = 2 := ⟨by omega, by omega, hL.root⟩
  have w1 := walkL_is (L := L) (c := rootC) (from_ := 0) (p := pathJ (P i)) (last := false) (st := 0) hbase g1 (by rw [g3]; rfl)
  rw [hL.path i hi, w1, g2]
  rcases Nat.eq_zero_or_pos i with rfl | h0
  · rw [hL.zero, followL_nil, if_pos rfl, if_neg (fun h => h.2 hL.root)]
  · obtain ⟨s1, s2, nm, s3, s4, s5⟩ := hL.step i h0 hi
    rw [s3] at hG ⊢
    rw [path_tail hG]
    have e : stepL L rootC (L.getD i default).up nm = (0, i) := stepN_5 s2 (root_may s2) s4 s5
    rcases follow_lay hL rootC _ (L.getD i default).up (Nat.le_refl _) (by omega) (by rw [s2]; decide) with h1 | h1
    · exact absurd (congrArg Prod.fst (h1 false 0 [])) root_follow5
    · rw [Bool.false_or, h1, followL_step e (.inr ⟨rfl, rfl⟩), followL_nil, if_pos rfl, if_neg (by simp)]
theorem piece_ok (x : Int) : ∃ j : Nat, j < 5000 ∧ (wrap64 (x.tmod 5000 + 5000)).tmod 5000 = (j : Int) := by
  have h1 : -5000 < x.tmod 5000 := Int.lt_tmod_of_pos x (by omega)
  have h2 : x.tmod 5000 < 5000 := Int.tmod_lt_of_pos x (by omega)
  have hw : wrap64 (x.tmod 5000 + 5000) = x.tmod 5000 + 5000 := Go.IntWalk.wrap64_in _ (by omega)
  rw [hw]
  have h3 := Int.tmod_lt_of_pos (x.tmod 5000 + 5000) (b := 5000) (by omega)
  have h4 := Int.tmod_nonneg (a := x.tmod 5000 + 5000) 5000 (by omega)
  obtain ⟨j, hj⟩ := Int.eq_ofNat_of_zero_le h4
  exact ⟨j, by omega, hj⟩

abbrev OwnB (w : World) (base : Nat) (v : Value) (l : BL) : Prop := w.ownsRow base 5 1 v l.length (l.map B8)
theorem ownB_nil (w : World) (base : Nat) : OwnB w base (.slice none 0 0) [] := World.ownsRow_nil _ _ _ _
theorem wpList_appB {w : World} {ops : Array Oper} {rest : List Oper} {o : Oper} {a : Act} {Q : Exit → Act → World → Prop} (hgd : o.guard = none) (s x : Operand)
    (ho : o.op = .call { callee := .builtin .append, args := #[s, x], argTypes := #[36, 36] })
    (base : Nat) (v : Value) (l1 l2 : BL) (hs : a.eval s = v) (ad : Option Addr) (c : Nat) (hx : a.eval x = .slice ad l2.length c) (hown : OwnB w base v l1) (hy : Cel w ad l2.length (l2.map B8)) (hc : ad = none → c = 0) (hn : l1.length + l2.length ≤ 1000000) (hbase : base ≤ w.heap.size)
    (h : ∀ v' w', OwnB w' base v' (l1 ++ l2) → Below base w w' → wpList Try.prog ops Q rest (a.put o.dst v') w') :
    wpList Try.prog ops Q (o :: rest) a w := by
  obtain ⟨i0, hi0, hz0, hz1, hz2⟩ := info_parts infoB
  cases ad with
  | none =>
    obtain rfl : l2 = [] := by
      rcases l2 with _ | ⟨y, l⟩
      · rfl
      · obtain ⟨_, _, h, _⟩ := hy.some_of (by simp); cases h
    obtain rfl := hc rfl
    refine wpList_append_own_none hgd s x _ ho base _ i0 1 Try.underlying36 hi0 v l1.length _ hs hown hx ?_
    exact h v w (by rw [List.append_nil]; exact hown) (Below.refl _ _)
  | some ad =>
    refine wpList_append_own w hgd s x _ ho base _ i0 _ 1 1 Try.underlying36 hi0 hz0 hz1 hz2 rfl (by omega) v l1.length _ hs hown ad l2.length c (l2.map B8) hx (by simp) hy.news (b8_one l2) (by unfold maxLen; omega) (by omega) hbase ?_
    intro v' w' h1 h2 _
    refine h v' w' (own_ext h1 (by simp) (by simp)) ((Below.refl _ w).grown h2 hbase (fun k hk => (hown.lt k hk).1))
end Go.Proofs.Ytnepccjcjkeneaa
