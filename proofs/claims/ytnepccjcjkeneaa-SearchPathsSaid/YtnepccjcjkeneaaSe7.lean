
/- SearchPaths: the reference's Dirs and Paths, and the walk. -/
import Derived.Test.YtnepccjcjkeneaaSe
import Derived.Test.YtnepccjcjkeneaaSe5
import Derived.Test.YtnepccjcjkeneaaZG0
import Derived.Test.YtnepccjcjkeneaaP5j
import Derived.Test.YtnepccjcjkeneaaKT
import Derived.Laws.AppendOwnNone
namespace Go.Proofs.Ytnepccjcjkeneaa
open Go.ChangeShapes Go.WideShapes Go.ChangeAt Go.RowKit Go.Sort
attribute [local go_sem] Oper.semAt_some

theorem wpList_appSS {w : World} {ops : Array Oper} {rest : List Oper} {o : Oper} {a : Act} {Q : Exit → Act → World → Prop} (hgd : o.guard = none) (s x : Operand)
    (ho : o.op = .call { callee := .builtin .append, args := #[s, x], argTypes := #[58, 58] })
    (base : Nat) (v : Value) (l1 l2 : List BL) (hs : a.eval s = v) (ad : Option Addr) (c : Nat) (hx : a.eval x = .slice ad l2.length c) (hown : OwnS w base v l1) (hy : Cel w ad l2.length (strs l2)) (hc : ad = none → c = 0) (hn : l1.length + l2.length ≤ 1000000) (hbase : base ≤ w.heap.size)
    (h : ∀ v' w' l3, l3 = l1 ++ l2 → OwnS w' base v' l3 → Below base w w' → wpList Try.prog ops Q rest (a.put o.dst v') w') :
    wpList Try.prog ops Q (o :: rest) a w := by
  obtain ⟨i0, hi0, hz0, hz1, hz2⟩ := info_parts infoS
  cases ad with
  | none =>
    obtain rfl : l2 = [] := by
      rcases l2 with _ | ⟨y, l⟩
      · rfl
      · obtain ⟨_, _, h, _⟩ := hy.some_of (by simp [strs]); cases h
    obtain rfl := hc rfl
    refine wpList_append_own_none hgd s x _ ho base _ i0 1 Try.underlying58 hi0 v l1.length _ hs hown hx ?_
    exact h v w _ rfl (by rw [List.append_nil]; exact hown) (Below.refl _ _)
  | some ad =>
    refine wpList_append_own w hgd s x _ ho base _ i0 _ 1 16 Try.underlying58 hi0 hz0 hz1 hz2 rfl (by omega) v l1.length _ hs hown ad l2.length c (strs l2) hx (by simp [strs]) hy.news (strs_one2 l2) (by unfold maxLen; omega) (by omega) hbase ?_
    intro v' w' h1 h2 _
    refine h v' w' _ rfl (own_ext h1 (by simp) (by simp [strs])) ((Below.refl _ w).grown h2 hbase (fun k hk => (hown.lt k hk).1))

set_option maxRecDepth 100000 in
set_option maxHeartbeats 4000000 in
theorem rdirs_any (run lib : BL) (sec : Bool) (w : World) (hr : run.length ≤ 100000) (hl : lib.length ≤ 100000) :
    Calls Try.prog 29 #[.string (ba run), .string (ba lib), .bool sec] w (OwnPost w (dirsL run lib sec)) := by
  have HL1 := hid (listL_many run)
  have HL2 := hid (listL_many lib)
  have HLB := hid (fun (wr : World) => rlist_any (ba lib) wr (by rw [ba_size]; omega))
  rw [show (ba lib).data.toList = lib from rfl] at HLB
  go_enter Try.func29, Try.ntmps29
  go_wp2_with fail
  refine (rlist_any (ba run) w (by rw [ba_size]; omega)).mono ?_
  rintro e' w1 ⟨v, rfl, ho, hb⟩
  rw [show (ba run).data.toList = run from rfl] at ho
  obtain ⟨a1, c1, rfl, _⟩ := own_cel ho
  have HO1 := hid ho
  have HB1 := hid hb
  have HZ1 := hid hb.size
  clear ho hb
  cases sec
  · have HD : Hid (dirsL run lib false = listL run ++ listL lib ++ libs) := hid rfl
    generalize listL run = D1 at *
    generalize listL lib = D2 at *
    have HM1 := hid (show D1.length + D2.length ≤ 1000000 by have := HL1.out; have := HL2.out; omega)
    go_wp2_with fail
    refine (HLB.out _).mono ?_
    rintro e' w2 ⟨v, rfl, ho, hb⟩
    obtain ⟨a2, c2, rfl, hc2, hn2, _⟩ := own_cel ho
    have HC2 := hid hc2
    have HN2 := hid hn2
    have HO2 := hid (own_below HO1.out hb)
    have HB2 := hid (bthen HB1.out hb)
    have HZ2 := hid HB2.out.size
    have HN3 := hid (show ∀ g : Addr, some g = none → (2 : Nat) = 0 from fun g h => by cases h)
    have HLL := hid (show ∀ D3 : List BL, D3 = D1 ++ D2 → D3.length + libs.length ≤ 1000000 from fun D3 h => by rw [h, List.length_append]; have := HL1.out; have := HL2.out; show _ + 2 ≤ _; omega)
    have HNW := hid (fun (w3 : World) => show Cel (w3.alloc (.cells (strs libs).toArray 9)) (some ⟨w3.heap.size, 0, none⟩) libs.length (strs libs) from ⟨by simp [strs], fun i hi => ⟨w3.heap.size, 0, rfl, by rw [Nat.zero_add]; exact (Row.new w3 9 (strs libs)).cell i hi⟩⟩)
    have HAL := hid (fun (w3 : World) => @bal w3 (.cells (strs libs).toArray 9))
    clear ho hb hc2 hn2
    go_wp2_with (at_builtin; go_must (first | (refine wpList_appSS rfl _ _ rfl w.heap.size (.slice a1 D1.length c1) D1 D2 rfl a2 c2 rfl HO2.out HC2.out HN2.out HM1.out HZ2.out ?_; intro v3 w3 D3 hD3 ho3 hb3; obtain ⟨a3, c3, rfl, _⟩ := own_cel ho3; have HO3 := hid (own_below ho3 (HAL.out w3)); have HD3 := hid hD3; have HC3 := hid (HNW.out w3); have HB3 := hid ((HB2.out.trans hb3).trans ((HAL.out w3).mono (HB2.out.trans hb3).size)); have HZ3 := hid HB3.out.size; have HG3 := hid (HN3.out ⟨w3.heap.size, 0, none⟩); have HM3 := hid (HLL.out D3 hD3); clear ho3 hb3 hD3) | (refine wpList_appSS rfl _ _ rfl w.heap.size (.slice a3 D3.length c3) D3 libs rfl (some ⟨w3.heap.size, 0, none⟩) 2 rfl HO3.out HC3.out HG3.out HM3.out HZ3.out ?_; intro v4 w4 D4 hD4 ho4 hb4; obtain ⟨a4, c4, rfl, _⟩ := own_cel ho4; have HO4 := hid ho4; have HD4 := hid hD4; have HB4 := hid (HB3.out.trans hb4); clear ho4 hb4 hD4)))
    go_ret
    refine ⟨_, rfl, ?_, HB4.out⟩
    rw [HD.out, ← HD3.out, ← HD4.out]
    exact HO4.out
  · have HDD : Hid (dirsL run lib true = listL run ++ libs) := hid (by simp [dirsL])
    generalize listL run = D3 at *
    have HN3 := hid (show some (⟨w1.heap.size, 0, none⟩ : Addr) = none → (2 : Nat) = 0 from fun h => by cases h)
    have HM3 := hid (show D3.length + libs.length ≤ 1000000 by have := HL1.out; show _ + 2 ≤ _; omega)
    have HC3 := hid (show Cel (w1.alloc (.cells (strs libs).toArray 9)) (some ⟨w1.heap.size, 0, none⟩) libs.length (strs libs) from ⟨by simp [strs], fun i hi => ⟨w1.heap.size, 0, rfl, by rw [Nat.zero_add]; exact (Row.new w1 9 (strs libs)).cell i hi⟩⟩)
    have HAL := hid (@bal w1 (.cells (strs libs).toArray 9))
    have HO3 := hid (own_below HO1.out HAL.out)
    have HB3 := hid (bthen HB1.out HAL.out)
    have HZ3 := hid HB3.out.size
    go_wp2_with (at_builtin; go_must (refine wpList_appSS rfl _ _ rfl w.heap.size (.slice a1 D3.length c1) D3 libs rfl (some ⟨w1.heap.size, 0, none⟩) 2 rfl HO3.out HC3.out HN3.out HM3.out HZ3.out ?_; intro v4 w4 D4 hD4 ho4 hb4; obtain ⟨a4, c4, rfl, _⟩ := own_cel ho4; have HO4 := hid ho4; have HD4 := hid hD4; have HB4 := hid (HB3.out.trans hb4); clear ho4 hb4 hD4))
    go_ret
    refine ⟨_, rfl, ?_, HB4.out⟩
    rw [HDD.out, ← HD4.out]
    exact HO4.out

theorem hasS_iff (l : BL) : hasS l = true ↔ 47 ∈ l := by
  unfold hasS
  rw [decide_eq_true_eq]
  have hg := Lib.indexByte_ge l 47
  constructor
  · intro h
    obtain ⟨o, ho⟩ := Int.eq_ofNat_of_zero_le h
    exact List.mem_of_getElem? (Lib.indexByte_some ho).1
  · intro h
    by_cases h1 : Lib.indexByte l 47 = -1
    · obtain ⟨i, hi, e⟩ := List.getElem_of_mem h
      exact absurd (by rw [List.getElem?_eq_getElem hi, e]) (Lib.indexByte_none h1 i)
    · omega
theorem drew_belS {w w' : World} {k : Nat} (h : w' = w.drewN k) : Below w.heap.size w w' := by rw [h]; exact drewN_below _ _
/-- A store into a list of the call's own. -/
theorem own_upd {w : World} {base : Nat} {v : Value} {ds : List BL} (h : OwnS w base v ds) {k : Nat} (hk : k < ds.length) : ∃ G c, v = .slice (some ⟨G, 0, none⟩) ds.length c ∧ base ≤ G ∧ G < w.heap.size ∧ w.cell? ⟨G, k, none⟩ = some (.string (ba ds[k])) ∧ w.frozen? ⟨G, k, none⟩ = false ∧
    ∀ x : BL, OwnS (w.setCell ⟨G, k, none⟩ (.string (ba x))) base v (ds.set k x) := by
  obtain ⟨G, c, rfl, h1, h2, h3, h4⟩ := own_open h (by omega)
  have hx := h.cellAt k (by omega)
  rw [List.getElem?_eq_getElem (by rw [strsS_len]; omega)] at hx
  refine ⟨G, c, rfl, h2, h3, by rw [hx]; simp [strs], ?_, fun x => ?_⟩
  · rcases h.2 with ⟨h1, _⟩ | ⟨g, cap', cur, h1, _, h3, _⟩
    · cases h1
    · simp only [Value.slice.injEq, Option.some.injEq, Addr.mk.injEq, and_true, true_and] at h1
      obtain ⟨rfl, rfl⟩ := h1
      exact frozen_of_row _ _ _ _ _ h3
  · have := (h.stored k (.string (ba x))).1
    exact own_ext this (by simp) (by simp [strs, List.map_set])
def midL (D : List BL) (f : BL → BL) (k : Nat) : List BL := (D.take k).map f ++ D.drop k
theorem midL_len (D : List BL) (f : BL → BL) (k : Nat) : (midL D f k).length = D.length := by unfold midL; simp; omega
theorem midL_at (D : List BL) (f : BL → BL) (k : Nat) (h : k < D.length) : (midL D f k)[k]'(by rw [midL_len]; exact h) = D[k] := by
  unfold midL
  rw [List.getElem_append_right (by simp; omega)]
  simp [Nat.min_eq_left (Nat.le_of_lt h)]
theorem midL_set (D : List BL) (f : BL → BL) (k : Nat) (h : k < D.length) : (midL D f k).set k (f D[k]) = midL D f (k + 1) := by
  unfold midL
  rw [List.set_append_right _ _ (by simp; omega), List.take_succ_eq_append_getElem h, List.map_append, List.append_assoc]
  congr 1
  have e : k - (List.map f (List.take k D)).length = 0 := by simp; omega
  rw [e, List.drop_eq_getElem_cons h, List.set_cons_zero]
  rfl
theorem midL_zero (D : List BL) (f : BL → BL) : midL D f 0 = D := by simp [midL]
theorem midL_full (D : List BL) (f : BL → BL) {k : Nat} (h : D.length ≤ k) : midL D f k = D.map f := by unfold midL; rw [List.take_of_length_le h, List.drop_eq_nil_of_le h, List.append_nil]

set_option maxRecDepth 100000 in
set_option maxHeartbeats 4000000 in
theorem rpaths_any (name run lib : BL) (sec : Bool) (w : World) (hn : name.length ≤ 100000) (hr : run.length ≤ 100000) (hl : lib.length ≤ 100000) :
    Calls Try.prog 30 #[.string (ba name), .string (ba run), .string (ba lib), .bool sec] w (OwnPost w (pathsN name run lib sec)) := by
  have HDI := hid (rdirs_any run lib sec w hr hl)
  have HDM := hid (dirsL_many run lib sec)
  have HDL := hid (fun p (h : p ∈ dirsL run lib sec) => dirsL_len h)
  have HRB := hid (show run.length + lib.length ≤ 200000 by omega)
  have HPN : Hid (pathsN name run lib sec = if hasS name then [name] else (dirsL run lib sec).map fun d => joinL d name) := hid rfl
  have e1 : (ba name).size = name.length := ba_size _
  generalize hS : ba name = s at *
  have hsl : s.data.toList = name := by rw [← hS]; rfl
  have HSL := hid hsl
  have HR1 := hid (Row.new w 9 [.string s])
  have HB1 := hid (@bal w (.cells #[.string s] 9))
  clear hsl hS hr hl
  go_enter Try.func30, Try.ntmps30
  go_wp2_with fail
  go_loop [9] (fun i => ∃ k : Nat, k ≤ s.size ∧ i = .int .i64 k ∧ ∀ j (h : j < s.size), j < k → s[j] ≠ 47) (fun i => s.size - (intOf i).toNat)
  case atStart => exact ⟨0, Nat.zero_le _, rfl, fun j h hj => by omega⟩
  case round =>
    obtain ⟨k, hk, rfl, hno⟩ := hrel
    have HNO := hid hno
    clear hno
    by_cases hlt : k < s.size
    · have hb := byte_eq s k hlt 47 47 rfl
      by_cases h : s[k] = 47
      · rw [decide_eq_true h] at hb
        have HT := hid (show pathsN name run lib sec = [s.data.toList] by
          rw [HSL.out, HPN.out, if_pos]
          rw [hasS_iff, ← HSL.out]
          have h9 : s.data.toList[k]? = some 47 := by
            rw [List.getElem?_eq_getElem (by rw [size_list]; exact hlt)]
            exact congrArg some h
          exact List.mem_of_getElem? h9)
        clear h
        go_wp2_with fail
        go_ret
        refine ⟨_, rfl, ?_, HB1.out⟩
        rw [HT.out]
        exact HR1.out.owns (base := w.heap.size) (n := 1) (cap := 1) (Nat.le_refl _) rfl (Nat.le_refl _) (by unfold maxLen; omega)
      · rw [decide_eq_false h] at hb
        have HN := hid (show ∀ j (h : j < s.size), j < k + 1 → s[j] ≠ 47 from fun j hj hjk => by
          by_cases e : j = k
          · subst e; exact h
          · exact HNO.out j hj (by omega))
        clear h
        go_wp2_with fail
        go_round
        case rel => exact ⟨k + 1, by omega, by go_num, HN.out⟩
        case measure => simp [intOf]; omega
    · have HT := hid (show pathsN name run lib sec = (dirsL run lib sec).map fun d => joinL d name by
        rw [HPN.out, if_neg]
        rw [hasS_iff, ← HSL.out]
        intro h
        obtain ⟨i, hi, e⟩ := List.getElem_of_mem h
        rw [size_list] at hi
        exact HNO.out i hi (by omega) e)
      clear HNO
      generalize dirsL run lib sec = D at *
      go_wp2_with fail
      refine (HDI.out).mono ?_
      rintro e' w1 ⟨v, rfl, ho, hb⟩
      obtain ⟨a1, c1, rfl, _⟩ := own_cel ho
      have HO1 := hid ho
      have HB2 := hid hb
      have hdm : D.length ≤ 300000 := by have := HDM.out; have := HRB.out; omega
      clear ho hb hlt hk
      go_wp2_with fail
      go_loopw [11] (fun i wr => ∃ k : Nat, k ≤ D.length ∧ i = .int .i64 k ∧ OwnS wr w.heap.size (.slice a1 D.length c1) (midL D (fun d => joinL d name) k) ∧ Below w.heap.size w wr) (fun i _ => D.length - (intOf i).toNat)
      case atStart => exact ⟨0, Nat.zero_le _, rfl, by rw [midL_zero]; exact HO1.out, HB2.out⟩
      case round =>
        obtain ⟨k, hk, rfl, hown, hbw⟩ := hrel
        have HBW := hid hbw
        by_cases hlt : k < D.length
        · have d1 : decide ((k : Int) < (D.length : Int)) = true := by simp; omega
          have d1n : decide (k < D.length) = true := by simp; omega
          obtain ⟨G, c, e9, hG1, hG2, hcell, hfr, hset⟩ := own_upd hown (k := k) (by rw [midL_len]; exact hlt)
          rw [midL_len] at e9
          cases e9
          rw [midL_at D _ k hlt] at hcell
          have HSET := hid (hset (joinL D[k] name))
          rw [midL_set D (fun d => joinL d name) k hlt] at HSET
          have HJ := hid (rjoin_any (ba D[k]) s wr (by rw [ba_size]; have := HDL.out _ (List.getElem_mem hlt); have := HRB.out; omega) (by omega))
          rw [show (ba D[k]).data.toList = D[k] from rfl, HSL.out] at HJ
          have HG := hid hG1
          generalize joinL D[k] name = jt at *
          generalize D[k] = dk at *
          clear hown hbw hset hG1
          go_wp2_with fail
          refine (HJ.out).mono ?_
          rintro e' w3 ⟨rfl, rfl⟩
          go_wp2_with fail
          go_roundw
          case rel => exact ⟨k + 1, by omega, by go_num, HSET.out, bset HBW.out HG.out _⟩
          case measure => simp [intOf]; omega
        · have d1 : decide ((k : Int) < (D.length : Int)) = false := by simp; omega
          have d1n : decide (k < D.length) = false := by simp; omega
          rw [midL_full D _ (by omega)] at hown
          have HO := hid hown
          clear hown hbw
          go_wp2_with fail
          go_ret
          refine ⟨_, rfl, ?_, HBW.out⟩
          rw [HT.out]
          exact own_ext HO.out (by simp) rfl
set_option maxRecDepth 100000 in
set_option maxHeartbeats 8000000 in
theorem searchPaths_walk (nm run lib : BL) (sec : Bool) (w : World) (h1 : nm.length ≤ 140737488351232) (h2 : run.length ≤ 140737488351232) (h3 : lib.length ≤ 140737488351232) :
    Calls Try.prog 6 #[.agg #[.string (ba nm), .string (ba run), .string (ba lib)], .bool sec] w fun e' w' => e' = .returned (.bool true) ∧ Below w.heap.size w w' := by
  obtain ⟨W0, hW0⟩ : ∃ W0, W0 = w.alloc (.cells #[.string (ba nm), .string (ba run), .string (ba lib)] 57) := ⟨_, rfl⟩
  have hb : Below w.heap.size w W0 := by rw [hW0]; exact bal _
  have hr : Row W0 w.heap.size 57 [.string (ba nm), .string (ba run), .string (ba lib)] := by rw [hW0]; exact Row.new w 57 [.string (ba nm), .string (ba run), .string (ba lib)]
  have HB0 := hid hb
  have HR0 := hid hr
  obtain ⟨x0, x1, x2⟩ := hr.three
  have l0 := hr.lt
  clear hb hr
  go_enter Try.func6, Try.ntmps6
  go_wp2_with fail
  rw [← hW0]
  clear hW0
  refine (nlarge_any nm run lib W0 h1 h2 h3).mono ?_
  rintro e' w1 ⟨b, rfl, hb, hsm⟩
  have HB1 := hid (HB0.out.trans (hb.mono HB0.out.size))
  have HR1 := hid (HR0.out.below hb HR0.out.lt)
  have HSM := hid hsm
  clear hsm hb x0 x1 x2 l0
  cases b
  · obtain ⟨s1, s2, s3⟩ := HSM.out rfl
    clear h1 h2 h3
    have HDA := hid (fun (wr : World) => dirs_any run lib sec wr (by omega) (by omega))
    have HPA := hid (fun (wr : World) => paths_any nm run lib sec wr (by omega) (by omega) (by omega))
    have HDR := hid (fun (wr : World) => rdirs_any run lib sec wr (by omega) (by omega))
    have HPR := hid (fun (wr : World) => rpaths_any nm run lib sec wr (by omega) (by omega) (by omega))
    have hA : (dirsL run lib sec).length ≤ 20000 := by have := dirsL_many run lib sec; omega
    have hP : (pathsN nm run lib sec).length ≤ 20000 := by have := pathsN_many nm run lib sec; omega
    have HEQ := hid (fun (l : List BL) (hl : l.length ≤ 20000) (a c : Option Addr) (n m : Nat) (wx : World) (q1 : Cel wx a l.length (strs l)) (q2 : Cel wx c l.length (strs l)) => show Calls Try.prog 28 #[.slice a l.length n, .slice c l.length m] wx (fun e w' => e = .returned (.bool true) ∧ ∃ n, w' = wx.drewN n) by
      have := eqTexts_any a c l.length n l.length m l l wx q1 q2 (by omega) (by omega)
      rwa [eqT_me] at this)
    generalize dirsL run lib sec = A at *
    generalize pathsN nm run lib sec = P at *
    have HAL := hid hA
    have HPL := hid hP
    clear hA hP s1 s2 s3 HSM
    obtain ⟨x0, x1, x2⟩ := HR1.out.three
    have l0 := HR1.out.lt
    go_wp2_with fail
    refine (HDA.out w1).mono ?_
    rintro e' w2 ⟨v, rfl, ho, hb⟩
    obtain ⟨aa, ac, rfl, hca, _⟩ := own_cel ho
    have HOA := hid ho
    have HCA := hid hca
    have HAB := hid (show ∀ g, (Value.slice aa A.length ac).ownBlock = some g → g < w2.heap.size from fun g e => by
      rcases own_block ho with h | ⟨g', h, _, h3⟩
      · rw [h] at e; cases e
      · rw [h] at e; cases e; exact h3)
    have HB2 := hid (bthen HB1.out hb)
    have HR2 := hid (HR1.out.below hb HR1.out.lt)
    have HZ1 := hid HB1.out.size
    clear ho hb hca x0 x1 x2 l0
    obtain ⟨x0, x1, x2⟩ := HR2.out.three
    have l0 := HR2.out.lt
    go_wp2_with fail
    refine (HPA.out w2).mono ?_
    rintro e' w3 ⟨v, rfl, ho, hb⟩
    obtain ⟨pa, pc, rfl, hca, _⟩ := own_cel ho
    have HOA := hid (own_below HOA.out hb)
    have HOP := hid ho
    have HCP := hid hca
    have HCA := hid (HCA.out.below' hb)
    have HB3 := hid (bthen HB2.out hb)
    have HR3 := hid (HR2.out.below hb HR2.out.lt)
    have HZ2 := hid HB2.out.size
    clear ho hb hca x0 x1 x2 l0
    obtain ⟨x0, x1, x2⟩ := HR3.out.three
    have l0 := HR3.out.lt
    go_wp2_with fail
    refine (HDR.out w3).mono ?_
    rintro e' w4 ⟨v, rfl, ho, hb⟩
    obtain ⟨ra, rc, rfl, hca, _⟩ := own_cel ho
    have HOA := hid (own_below HOA.out hb)
    have HOP := hid (own_below HOP.out hb)
    have HCR := hid hca
    have HCA := hid (HCA.out.below' hb)
    have HCP := hid (HCP.out.below' hb)
    have HB4 := hid (bthen HB3.out hb)
    have HR4 := hid (HR3.out.below hb HR3.out.lt)
    clear ho hb hca x0 x1 x2 l0
    go_wp2_with fail
    refine (HEQ.out A HAL.out _ _ _ _ w4 HCA.out HCR.out).mono ?_
    rintro e' w5 ⟨rfl, n5, hw5⟩
    have hb5 : Below w4.heap.size w4 w5 := by rw [hw5]; exact drewN_below _ _
    have HOA := hid (own_below HOA.out hb5)
    have HOP := hid (own_below HOP.out hb5)
    have HCP := hid (HCP.out.below' hb5)
    have HB5 := hid (bthen HB4.out hb5)
    have HR5 := hid (HR4.out.below hb5 HR4.out.lt)
    clear hb5 hw5 HCA HCR
    obtain ⟨x0, x1, x2⟩ := HR5.out.three
    have l0 := HR5.out.lt
    go_wp2_with fail
    refine (HPR.out w5).mono ?_
    rintro e' w6 ⟨v, rfl, ho, hb⟩
    obtain ⟨ra, rc, rfl, hca, _⟩ := own_cel ho
    have HOA := hid (own_below HOA.out hb)
    have HOP := hid (own_below HOP.out hb)
    have HCR := hid hca
    have HCP := hid (HCP.out.below' hb)
    have HB6 := hid (bthen HB5.out hb)
    have HR6 := hid (HR5.out.below hb HR5.out.lt)
    clear ho hb hca x0 x1 x2 l0
    go_wp2_with fail
    refine (HEQ.out P HPL.out _ _ _ _ w6 HCP.out HCR.out).mono ?_
    rintro e' w7 ⟨rfl, n7, hw7⟩
    have hb7 : Below w6.heap.size w6 w7 := by rw [hw7]; exact drewN_below _ _
    have HOA := hid (own_below HOA.out hb7)
    have HOP := hid (own_below HOP.out hb7)
    have HB7 := hid (bthen HB6.out hb7)
    have HR7 := hid (HR6.out.below hb7 HR6.out.lt)
    clear hb7 hw7 HCP HCR HPA HPR
    have hal := HAL.out
    have hpl := HPL.out
    go_wp2_with fail
    go_loopw [7] (fun i wr => ∃ k : Nat, k ≤ A.length ∧ i = .int .i64 k ∧ OwnS wr w1.heap.size (.slice aa A.length ac) (midL A (fun _ => [33]) k) ∧ OwnS wr w2.heap.size (.slice pa P.length pc) P ∧ Row wr w.heap.size 57 [.string (ba nm), .string (ba run), .string (ba lib)] ∧ Below w.heap.size w wr) (fun i _ => A.length - (intOf i).toNat)
    case atStart => exact ⟨0, Nat.zero_le _, rfl, by rw [midL_zero]; exact HOA.out, HOP.out, HR7.out, HB7.out⟩
    case round =>
      obtain ⟨k, hk, rfl, hoa, hop, hrw, hbw⟩ := hrel
      have HOPr := hid hop
      have HRWr := hid hrw
      have HBW := hid hbw
      by_cases hlt : k < A.length
      · have d1 : decide ((k : Int) < (A.length : Int)) = true := by simp; omega
        have d1n : decide (k < A.length) = true := by simp; omega
        obtain ⟨G, c, e9, hG1, hG2, hcell, hfr, hset⟩ := own_upd hoa (k := k) (by rw [midL_len]; exact hlt)
        rw [midL_len] at e9
        cases e9
        have HSET := hid (hset [33])
        rw [midL_set A (fun _ => [33]) k hlt] at HSET
        have HG := hid (show w.heap.size < G by have := HZ1.out; have := HR1.out.lt; omega)
        have HG3 := hid (HAB.out G rfl)
        clear hoa hop hrw hbw hset hG1
        go_wp2_with fail
        go_roundw
        case rel => exact ⟨k + 1, by omega, by go_num, HSET.out, own_setLow HOPr.out HG3.out _, HRWr.out.other (by have := HG.out; simp only; omega) _, bset HBW.out (by have := HG.out; omega) _⟩
        case measure => simp [intOf]; omega
      · have d1 : decide ((k : Int) < (A.length : Int)) = false := by simp; omega
        have d1n : decide (k < A.length) = false := by simp; omega
        clear hoa hop hrw hbw HOA HOP
        go_wp2_with fail
        rename World => wA
        go_loopw [8] (fun i wr => ∃ k : Nat, k ≤ P.length ∧ i = .int .i64 k ∧ OwnS wr w2.heap.size (.slice pa P.length pc) (midL P (fun _ => [33]) k) ∧ Row wr w.heap.size 57 [.string (ba nm), .string (ba run), .string (ba lib)] ∧ Below w.heap.size w wr) (fun i _ => P.length - (intOf i).toNat)
        case atStart => exact ⟨0, Nat.zero_le _, rfl, by rw [midL_zero]; exact HOPr.out, HRWr.out, HBW.out⟩
        case round =>
          obtain ⟨j, hj, rfl, hop, hrw, hbw⟩ := hrel
          have HRWs := hid hrw
          have HBWs := hid hbw
          by_cases hjl : j < P.length
          · have e1 : decide ((j : Int) < (P.length : Int)) = true := by simp; omega
            have e1n : decide (j < P.length) = true := by simp; omega
            obtain ⟨G, c, e9, hG1, hG2, hcell, hfr, hset⟩ := own_upd hop (k := j) (by rw [midL_len]; exact hjl)
            rw [midL_len] at e9
            cases e9
            have HSET := hid (hset [33])
            rw [midL_set P (fun _ => [33]) j hjl] at HSET
            have HG := hid (show w.heap.size < G by have := HZ2.out; have := HR2.out.lt; have := HR1.out.lt; have := HZ1.out; have := HR3.out.lt; omega)
            clear hop hrw hbw hset hG1
            go_wp2_with fail
            go_roundw
            case rel => exact ⟨j + 1, by omega, by go_num, HSET.out, HRWs.out.other (by have := HG.out; simp only; omega) _, bset HBWs.out (by have := HG.out; omega) _⟩
            case measure => simp [intOf]; omega
          · have e1 : decide ((j : Int) < (P.length : Int)) = false := by simp; omega
            have e1n : decide (j < P.length) = false := by simp; omega
            have HQ := hid (St.three hrw.three)
            obtain ⟨q0, q1, q2⟩ := HQ.out
            have hlt2 : ∀ w', St wr w' → w.heap.size < w'.heap.size := fun w' hs => Nat.lt_of_lt_of_le HRWs.out.lt hs.size
            have HWK := hid (fun (wx : World) (_ : St wr wx) => works15_any wx)
            have HD1 := hid (fun (wx : World) (_ : St wr wx) => HDA.out wx)
            have HD2 := hid (fun (wx : World) (_ : St wr wx) => HDR.out wx)
            have HEA := hid (HEQ.out A HAL.out)
            clear hop hrw hbw HOPr
            go_wp2_with fail
            go_region_held3 (St wr) (first | exact St.drew _ | exact St.step (by assumption) hbx | exact St.step (by assumption) (drewN_below _ _) | assumption) (first | (go_at_call 26; (with_reducible refine ((HD1.out _ (by assumption)).mono ?_)); rintro e' wx ⟨vx, rfl, hox, hbx⟩; obtain ⟨ax, cx, rfl, hCX, _⟩ := own_cel hox; have HCX := hid hCX; have HSX : Hid (St wr wx) := hid (St.step (by assumption) hbx); clear hox hCX) | (go_at_call 29; (with_reducible refine ((HD2.out _ HSX.out).mono ?_)); rintro e' wy ⟨vy, rfl, hoy, hbx⟩; obtain ⟨ay, cy, rfl, hCY, _⟩ := own_cel hoy; have HCY := hid hCY; have HCX := hid (HCX.out.below' hbx); have HSY : Hid (St wr wy) := hid (St.step HSX.out hbx); clear hoy hCY) | (go_at_call 28; (with_reducible refine ((HEA.out _ _ _ _ _ HCX.out HCY.out).mono ?_)); rintro e' wz ⟨rfl, nz, rfl⟩; have hbx := drewN_below wy nz; have HSZ : Hid (St wr (wy.drewN nz)) := hid (St.step HSY.out hbx)) | (go_at_call 25; (with_reducible refine ((HWK.out _ HSZ.out).mono ?_)); rintro e' wv ⟨rfl, hbx⟩; have HSV : Hid (St wr wv) := hid (St.step HSZ.out hbx)))
            have HBX := hid (bthen HBWs.out HSV.out)
            go_wp2_with fail
            go_ret
            exact ⟨rfl, HBX.out⟩
  · clear HSM
    go_wp2_with fail
    refine (works15_any _).mono ?_
    rintro e' w3 ⟨rfl, hb2⟩
    have HB3 := hid (bthen HB1.out hb2)
    clear hb2
    go_wp2_with fail
    go_ret
    exact ⟨rfl, HB3.out⟩
end Go.Proofs.Ytnepccjcjkeneaa
