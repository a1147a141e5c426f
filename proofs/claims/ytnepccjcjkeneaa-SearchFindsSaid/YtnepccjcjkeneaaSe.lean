
/- search: Dirs, Paths, first, Find; works; SearchNil's walk (one text: a claim has at most 60 files). -/
import Derived.Test.YtnepccjcjkeneaaZE0
import Derived.Test.YtnepccjcjkeneaaAN
import Derived.Test.YtnepccjcjkeneaaKP
import Derived.Test.YtnepccjcjkeneaaShelf
import Derived.Test.YtnepccjcjkeneaaKL
import Derived.Test.YtnepccjcjkeneaaKN
import Derived.Deep.RegionHeld3
import Derived.Deep.RegionLawGrows
namespace Go.Proofs.Ytnepccjcjkeneaa
section
open Go.RowKit Go.Sort
attribute [local go_sem] Oper.semAt_some

def libs : List BL := [[47, 108, 105, 98], [47, 117, 115, 114, 47, 108, 105, 98]]
def dirsL (run lib : BL) (sec : Bool) : List BL := listL run ++ (if sec then [] else listL lib) ++ libs

/-- append(s[:n:n], x...), x nil or not empty. -/
theorem step_append_full {P : Program} {ops : Array Oper} {o : Oper} {a : Act} {w : World} {K : Act → World → Prop} {Q : Exit → Act → World → Prop} {E : Prop}
    (hg : o.guard = none) (s x : Operand) (t : TypeId) (hop : o.op = Op.call { callee := Callee.builtin Builtin.append, args := #[s, x], argTypes := #[t, t] })
    (e : TypeId) (i : TypeInfo) (z : Value) (bytes : Nat) (h1 : P.underlying t = some (.slice e)) (h2 : P.info? e = some i) (h3 : i.zero = some z) (h4 : i.size = 1) (h5 : i.bytes = bytes) (h6 : z.cells.size = 1)
    (ao : Option Addr) (n : Nat) (olds : List Value) (hs : a.eval s = .slice ao n n) (hC : Cel w ao n olds) (hnone : ao = none → n = 0)
    (ad : Option Addr) (m c : Nat) (news : List Value) (hx : a.eval x = .slice ad m c) (hD : Cel w ad m news) (hdn : ad = none → m = 0 ∧ c = 0) (hm0 : m = 0 → ad = none) (h1c : ∀ u ∈ news, u.oneCell' = true)
    (b1 : n + m ≤ maxLen) (b2 : (n + m) * bytes ≤ 140737488355328)
    (hK : ∀ a' c' w', Cel w' a' (n + m) (olds ++ news) → (a' = none → c' = 0 ∧ n + m = 0) → n + m ≤ c' → Below w.heap.size w w' → K (a.put o.dst (.slice a' (n + m) c')) w') :
    if Region.wanted o (yielded ops a.tmps) = true then Oper.wp P o a w K Q else E := by
  cases ad with
  | some ad =>
    have hm : 0 < m := by
      rcases Nat.eq_zero_or_pos m with h | h
      · have := hm0 h; cases this
      · exact h
    refine step_append_grows hg s x t hop e i z 1 bytes h1 h2 h3 h4 h5 h6 (by omega) ao n n olds hs (fun h => ⟨hnone h, hnone h⟩) (by rw [hC.hlen]; omega) (fun b hb => by subst hb; exact hC.news) ad m c news hx (by rw [hD.hlen]; omega) hD.news h1c (by omega) b1 b2 ?_
    intro v' w' hown hgrow
    obtain ⟨a', c', rfl, hc, hn, hle, _⟩ := own_cel2 hown
    exact hK a' c' w' hc hn hle ((Below.refl _ w).grown hgrow (Nat.le_refl _) (fun k hk => by cases hk))
  | none =>
    obtain ⟨rfl, rfl⟩ := hdn rfl
    have hnews : news = [] := List.eq_nil_of_length_eq_zero hD.hlen
    subst hnews
    have hw : Region.wanted o (yielded ops a.tmps) = true := by simp [Region.wanted, hg]
    rw [if_pos hw]
    have hrun : (Builtin.append_ #[t, t] o.type #[.slice ao n n, .slice none 0 0]).run P w = .ok (.slice ao n n) w := by
      cases ao with
      | none =>
        obtain rfl := hnone rfl
        simp [Builtin.append_, run_underlying h1, sizeOf, typeInfo, h2, Builtin.lenOf, Builtin.firstCells]
      | some b => simp [Builtin.append_, run_underlying h1, sizeOf, typeInfo, h2, Builtin.lenOf, Builtin.firstCells, storeCells]
    unfold Oper.wp
    simp [execOp, hop, resolve, invoke, builtin, hs, hx, hrun, Result.andThen]
    exact hK ao n w (by simpa using hC) (fun h => ⟨hnone h, by simpa using hnone h⟩) (by simp) (Below.refl _ _)

/-- envs.List: nil of nothing. -/
abbrev LstPost (w : World) (ds : List BL) (e : Ending) (w' : World) : Prop := ∃ a c, e = .returned (.slice a ds.length c) ∧ Cel w' a ds.length (strs ds) ∧ (a = none → ds.length = 0 ∧ c = 0) ∧ (ds.length = 0 → a = none) ∧ ds.length ≤ c ∧ Below w.heap.size w w'
theorem lst_any (v : BL) (w : World) (hv : v.length ≤ 1000000) : Calls Try.prog 51 #[.string (ba v)] w (LstPost w (listL v)) := by
  by_cases h : v = []
  · subst h
    have q : (ba []).toList.isEmpty = true := by rw [ba_nil]; rfl
    go_enter Try.func51, Try.ntmps51
    go_wp2_with fail
    go_ret
    exact ⟨none, 0, rfl, Cel.nil _ _, fun _ => ⟨rfl, rfl⟩, fun _ => rfl, Nat.le_refl _, Below.refl _ _⟩
  · refine (list_any1 (ba v) w (by rw [ba_size]; exact hv) h).mono ?_
    rintro e w' ⟨v', rfl, ho, hb⟩
    rw [show (ba v).data.toList = v from rfl] at ho
    obtain ⟨a, c, rfl, h1, h2, h3, _⟩ := own_cel2 ho
    refine ⟨a, c, rfl, h1, fun h => ⟨(h2 h).2, (h2 h).1⟩, fun h0 => ?_, h3, hb⟩
    exfalso
    unfold listL at h0
    rw [if_neg h, List.length_map] at h0
    have := cuts_pos 58 v
    omega
abbrev AlwPost (w : World) (e : Ending) (w' : World) : Prop := ∃ g, e = .returned (.slice (some ⟨g, 0, none⟩) 2 2) ∧ Cel w' (some ⟨g, 0, none⟩) 2 (strs libs) ∧ Below w.heap.size w w'
theorem always_any (w : World) : Calls Try.prog 52 #[] w (AlwPost w) := by
  have hr := Row.new w 9 (strs libs)
  have HR := hid hr
  have HB := hid (@bal w (.cells (strs libs).toArray 9))
  clear hr
  go_enter Try.func52, Try.ntmps52
  go_wp2_with fail
  go_ret
  refine ⟨_, rfl, ⟨rfl, fun i hi => ⟨w.heap.size, 0, rfl, ?_⟩⟩, HB.out⟩
  have := HR.out.cell i hi
  rw [Nat.zero_add]
  exact this

theorem slice_full (a : Option Addr) (n c : Nat) (h : n ≤ c) : ∀ w, (Instr.slice 58 (.slice a n c) none (some (.int .i64 n)) (some (.int .i64 n))).run Try.prog w = .ok (.slice a n n) w := by
  intro w
  have hz : (sizeOf (Try.prog.elem 58)).run Try.prog w = .ok 1 w := by kernel_rfl
  rw [run_slice_hm w 58 _ _ _ (by kernel_rfl) .i64 .i64 n n (by omega) (by omega) (by omega), hz]
  simp only [Result.andThen, sliced, Int.toNat_natCast, Nat.sub_zero, Nat.zero_mul]
  split
  · rfl
  · cases a <;> rfl
theorem strs_one2 (ds : List BL) : ∀ u ∈ strs ds, u.oneCell' = true := by
  intro u hu
  unfold strs at hu
  obtain ⟨x, _, rfl⟩ := List.mem_map.1 hu
  rfl

set_option maxRecDepth 100000 in
set_option maxHeartbeats 4000000 in
theorem dirs_any (run lib : BL) (sec : Bool) (w : World) (hr : run.length ≤ 100000) (hl : lib.length ≤ 100000) :
    Calls Try.prog 26 #[.string (ba run), .string (ba lib), .bool sec] w (OwnPost w (dirsL run lib sec)) := by
  obtain ⟨i0, hi0, hz0, hz1, hz2⟩ := info_parts infoS
  have hlen : ∀ v : BL, v.length ≤ 100000 → (listL v).length ≤ 100001 := by
    intro v hv
    unfold listL
    split
    · simp
    · have := cst_len58 v
      unfold cuts
      simp only [List.length_map, List.length_append, List.length_singleton]
      omega
  have HL1 := hid (hlen run hr)
  have HL2 := hid (hlen lib hl)
  clear hlen
  go_enter Try.func26, Try.ntmps26
  go_wp2_with fail
  refine (lst_any run w (by omega)).mono ?_
  rintro e' w1 ⟨a1, c1, rfl, hc1, hn1, hz1', hle1, hb1⟩
  have HB1 := hid hb1
  cases sec
  · have HD : Hid (dirsL run lib false = listL run ++ listL lib ++ libs) := hid rfl
    have HC1 := hid (fun (wr : World) (hs : St w1 wr) => hc1.below' hs)
    have HN1 := hid hn1
    have hsl := slice_full a1 _ c1 hle1
    have HLS := hid (fun (wr : World) (hs : St w1 wr) => lst_any lib wr (by omega))
    generalize listL run = D1 at *
    generalize listL lib = D2 at *
    have HM1 := hid (show D1.length + D2.length ≤ maxLen by have := HL1.out; have := HL2.out; unfold maxLen; omega)
    have HM2 := hid (show (D1.length + D2.length) * 16 ≤ 140737488355328 by have := HL1.out; have := HL2.out; omega)
    have HO2 := hid (strs_one2 D2)
    have HA1 := hid (fun h => (HN1.out h).1)
    clear hc1 hn1 hz1' hle1 hb1 hr hl
    go_wp2_with fail
    go_region_held3 (St w1) (first | exact St.drew _ | exact St.step (by assumption) hbx | exact St.step HS2.out hb3 | assumption) (first | (go_at_call 51; with_reducible refine ((HLS.out _ (by assumption)).mono ?_); rintro e' wx ⟨a2, c2, rfl, hc2, hn2, hz2', hle2, hbx⟩; have HC2 := hid hc2; have HN2 := hid hn2; have HZ2 := hid hz2'; have HS2 : Hid (St w1 wx) := hid (St.step (by assumption) hbx); clear hc2 hn2 hz2' hle2) | (refine step_append_full rfl _ _ 58 rfl 9 i0 (.string ByteArray.empty) 16 Try.underlying58 hi0 hz0 hz1 hz2 rfl a1 D1.length (strs D1) rfl (HC1.out _ HS2.out) HA1.out a2 D2.length c2 (strs D2) rfl HC2.out HN2.out HZ2.out HO2.out HM1.out HM2.out ?_; intro a3 c3 w3 hc3 hn3 hle3 hb3))
    have HS3 := hid (bthen HB1.out (St.step HS2.out hb3))
    obtain ⟨D, hD⟩ : ∃ D, D = D1 ++ D2 := ⟨_, rfl⟩
    have hDl : D1.length + D2.length = D.length := by rw [hD, List.length_append]
    rw [show strs D1 ++ strs D2 = strs (D1 ++ D2) by simp [strs], ← hD] at hc3
    rw [hDl] at hc3 hn3 hle3 ⊢
    have HDD := hid (show dirsL run lib false = D ++ libs by rw [HD.out, hD])
    have HDL := hid (show D.length ≤ 200002 by have := HL1.out; have := HL2.out; omega)
    clear hD hDl hsl HC1 HM1 HM2 HO2 HA1 HLS HC2 HN2 HZ2 hbx hb3 HN1
    have HCD := hid (fun (wr : World) (hs : St w3 wr) => hc3.below' hs)
    have HNL := hid (fun wr (hs : St w3 wr) b (hb : a3 = some b) j u (hj : (strs D)[j]? = some u) => Cel.news (hb ▸ HCD.out wr hs) j u hj)
    have HND := hid (show a3 = none → D.length = 0 ∧ D.length = 0 from fun h => ⟨(hn3 h).2, (hn3 h).2⟩)
    have hsl := slice_full a3 D.length c3 hle3
    have HAL := hid (fun (wr : World) (_ : St w3 wr) => always_any wr)
    have HSD := hid (show (strs D).length = D.length by simp [strs])
    have HN1 := hid (show (strs D).length = D.length * 1 by rw [HSD.out, Nat.mul_one])
    have HN3 := hid (show D.length < D.length + 2 by omega)
    have HM1 := hid (show D.length + 2 ≤ maxLen by have := HDL.out; unfold maxLen; omega)
    have HM2 := hid (show (D.length + 2) * 16 ≤ 140737488355328 by have := HDL.out; omega)
    have HO2 := hid (strs_one2 libs)
    have HPO := hid (show 0 < 1 by omega)
    have HLL := hid (show (strs libs).length = 2 * 1 from rfl)
    go_wp2_with fail
    go_region_held3 (St w3) (first | exact St.drew _ | exact St.step (by assumption) hbx | exact St.step HS4.out hb4 | assumption) (first | (go_at_call 52; with_reducible refine ((HAL.out _ (by assumption)).mono ?_); rintro e' wx ⟨g, rfl, hg4, hbx⟩; have HG4 := hid hg4.news; have HS4 : Hid (St w3 wx) := hid (St.step (by assumption) hbx); clear hg4) | (refine step_append_grows rfl _ _ 58 rfl 9 i0 (.string ByteArray.empty) 1 16 Try.underlying58 hi0 hz0 hz1 hz2 rfl HPO.out a3 D.length D.length (strs D) rfl HND.out HN1.out (HNL.out _ HS4.out) ⟨g, 0, none⟩ 2 2 (strs libs) rfl HLL.out HG4.out HO2.out HN3.out HM1.out HM2.out ?_; intro v4 w4 hown4 hgrow4; obtain ⟨a4, c4, rfl, hc4⟩ := own_cel hown4; have HOW := hid hown4; have hb4 := (Below.refl _ wx).grown hgrow4 (Nat.le_refl _) (fun k hk => by cases hk); clear hc4 hown4))
    have HB5 := hid (bthen HS3.out (St.step HS4.out hb4))
    have HZ5 := hid (show w.heap.size ≤ wx.heap.size from Nat.le_trans HS3.out.size HS4.out.size)
    clear hb4 hgrow4 hbx
    go_wp2_with fail
    go_ret
    refine ⟨_, rfl, ?_, HB5.out⟩
    rw [HDD.out]
    exact own_from (own_ext HOW.out (by simp [libs]) (by simp [strs])) HZ5.out
  · have HDD : Hid (dirsL run lib true = listL run ++ libs) := hid (by simp [dirsL])
    have HDL := hid (show (listL run).length ≤ 200002 by have := HL1.out; omega)
    have HS3 := HB1
    generalize listL run = D at *
    clear hr hl
    have HCD := hid (fun (wr : World) (hs : St w1 wr) => hc1.below' hs)
    have HNL := hid (fun wr (hs : St w1 wr) b (hb : a1 = some b) j u (hj : (strs D)[j]? = some u) => Cel.news (hb ▸ HCD.out wr hs) j u hj)
    have HND := hid (show a1 = none → D.length = 0 ∧ D.length = 0 from fun h => ⟨(hn1 h).1, (hn1 h).1⟩)
    have hsl := slice_full a1 D.length c1 hle1
    have HAL := hid (fun (wr : World) (_ : St w1 wr) => always_any wr)
    have HSD := hid (show (strs D).length = D.length by simp [strs])
    have HN1 := hid (show (strs D).length = D.length * 1 by rw [HSD.out, Nat.mul_one])
    have HN3 := hid (show D.length < D.length + 2 by omega)
    have HM1 := hid (show D.length + 2 ≤ maxLen by have := HDL.out; unfold maxLen; omega)
    have HM2 := hid (show (D.length + 2) * 16 ≤ 140737488355328 by have := HDL.out; omega)
    have HO2 := hid (strs_one2 libs)
    have HPO := hid (show 0 < 1 by omega)
    have HLL := hid (show (strs libs).length = 2 * 1 from rfl)
    go_wp2_with fail
    go_region_held3 (St w1) (first | exact St.drew _ | exact St.step (by assumption) hbx | exact St.step HS4.out hb4 | assumption) (first | (go_at_call 52; with_reducible refine ((HAL.out _ (by assumption)).mono ?_); rintro e' wx ⟨g, rfl, hg4, hbx⟩; have HG4 := hid hg4.news; have HS4 : Hid (St w1 wx) := hid (St.step (by assumption) hbx); clear hg4) | (refine step_append_grows rfl _ _ 58 rfl 9 i0 (.string ByteArray.empty) 1 16 Try.underlying58 hi0 hz0 hz1 hz2 rfl HPO.out a1 D.length D.length (strs D) rfl HND.out HN1.out (HNL.out _ HS4.out) ⟨g, 0, none⟩ 2 2 (strs libs) rfl HLL.out HG4.out HO2.out HN3.out HM1.out HM2.out ?_; intro v4 w4 hown4 hgrow4; obtain ⟨a4, c4, rfl, hc4⟩ := own_cel hown4; have HOW := hid hown4; have hb4 := (Below.refl _ wx).grown hgrow4 (Nat.le_refl _) (fun k hk => by cases hk); clear hc4 hown4))
    have HB5 := hid (bthen HS3.out (St.step HS4.out hb4))
    have HZ5 := hid (show w.heap.size ≤ wx.heap.size from Nat.le_trans HS3.out.size HS4.out.size)
    clear hb4 hgrow4 hbx
    go_wp2_with fail
    go_ret
    refine ⟨_, rfl, ?_, HB5.out⟩
    rw [HDD.out]
    exact own_from (own_ext HOW.out (by simp [libs]) (by simp [strs])) HZ5.out
end
section
open Go.RowKit Go.Sort

theorem join_any (d p : ByteArray) (w : World) (hd : d.size ≤ 1000000) (hp : p.size ≤ 1000000) :
    Calls Try.prog 54 #[.string d, .string p] w fun e' w' => e' = .returned (.string (ba (joinL d.data.toList p.data.toList))) ∧ w = w' := by
  go_enter Try.func54, Try.ntmps54
  go_wp2_with fail
  refine (begins_any _ _).mono ?_
  rintro e' w1 ⟨rfl, rfl⟩
  have HJ := hid (show joinL d.data.toList p.data.toList = if begB p.data.toList || decide (d.data.toList = []) then p.data.toList else if tailB d.data.toList then d.data.toList ++ p.data.toList else d.data.toList ++ [47] ++ p.data.toList from rfl)
  cases hb : begB p.data.toList
  · rw [hb] at HJ
    have hne := ba_nil d
    cases hdn : decide (d.data.toList = [])
    · rw [hdn] at hne HJ
      have HJ2 := hid (show joinL d.data.toList p.data.toList = if tailB d.data.toList then d.data.toList ++ p.data.toList else d.data.toList ++ [47] ++ p.data.toList by rw [HJ.out]; simp)
      clear HJ hdn hb
      go_wp2_with fail
      refine (tail_any _ _ (by omega)).mono ?_
      rintro e' w1 ⟨rfl, rfl⟩
      cases ht : tailB d.data.toList
      · have HF := hid (show d ++ (ByteArray.mk #[47]) ++ p = ba (joinL d.data.toList p.data.toList) by
          rw [HJ2.out, ht, ← ba_eta d, ← ba_eta p, show ByteArray.mk #[47] = ba [47] from rfl, ba_append, ba_append]; rfl)
        clear HJ2 ht hne
        go_wp2_with fail
        go_ret
        exact ⟨str_eq HF.out, rfl⟩
      · have HF := hid (show d ++ p = ba (joinL d.data.toList p.data.toList) by
          rw [HJ2.out, ht, ← ba_eta d, ← ba_eta p, ba_append]; rfl)
        clear HJ2 ht hne
        go_wp2_with fail
        go_ret
        exact ⟨str_eq HF.out, rfl⟩
    · rw [hdn] at hne HJ
      have HF := hid (show p = ba (joinL d.data.toList p.data.toList) by rw [HJ.out]; simp [ba_eta])
      clear HJ hdn hb
      go_wp2_with fail
      go_ret
      exact ⟨str_eq HF.out, rfl⟩
  · rw [hb] at HJ
    have HF := hid (show p = ba (joinL d.data.toList p.data.toList) by rw [HJ.out]; simp [ba_eta])
    clear HJ hb
    go_wp2_with fail
    go_ret
    exact ⟨str_eq HF.out, rfl⟩

end
section
open Go.RowKit Go.Sort
attribute [local go_sem] Oper.semAt_some

def hasS (l : BL) : Bool := decide (0 ≤ Lib.indexByte l 47)
def pathsN (name run lib : BL) (sec : Bool) : List BL := if hasS name then [name] else (dirsL run lib sec).map fun d => joinL d name
theorem mem_tot {ds : List BL} {p : BL} (h : p ∈ ds) : p.length + 1 ≤ tot ds := by
  induction ds with
  | nil => simp at h
  | cons q ds ih =>
    unfold tot at ih ⊢
    simp only [List.map_cons, List.sum_cons]
    rcases List.mem_cons.1 h with rfl | h
    · omega
    · have := ih h; omega
theorem listL_len {v p : BL} (h : p ∈ listL v) : p.length ≤ v.length + 1 := by
  unfold listL at h
  split at h
  · simp at h
  · obtain ⟨q, hq, rfl⟩ := List.mem_map.1 h
    have h1 := mem_tot hq
    have h2 := tot_cuts 58 v
    unfold dotP
    split
    · simp
    · omega
theorem dirsL_len {run lib p : BL} {sec : Bool} (h : p ∈ dirsL run lib sec) : p.length ≤ run.length + lib.length + 8 := by
  unfold dirsL at h
  rcases List.mem_append.1 h with h | h
  · rcases List.mem_append.1 h with h | h
    · have := listL_len h; omega
    · cases sec
      · have := listL_len (by simpa using h); omega
      · simp at h
  · simp only [libs, List.mem_cons, List.not_mem_nil, or_false] at h
    rcases h with rfl | rfl <;> simp <;> omega
theorem listL_many (v : BL) : (listL v).length ≤ v.length + 1 := by
  unfold listL
  split
  · simp
  · have := cst_len58 v
    unfold cuts
    simp only [List.length_map, List.length_append, List.length_singleton]
    omega
theorem dirsL_many (run lib : BL) (sec : Bool) : (dirsL run lib sec).length ≤ run.length + lib.length + 8 := by
  have h1 := listL_many run
  have h2 := listL_many lib
  unfold dirsL
  rw [List.length_append, List.length_append]
  have h3 : (if sec then [] else listL lib).length ≤ lib.length + 1 := by cases sec <;> simp <;> omega
  have h4 : libs.length = 2 := rfl
  omega

set_option maxRecDepth 100000 in
set_option maxHeartbeats 4000000 in
theorem paths_any (name run lib : BL) (sec : Bool) (w : World) (hn : name.length ≤ 100000) (hr : run.length ≤ 100000) (hl : lib.length ≤ 100000) :
    Calls Try.prog 27 #[.string (ba name), .string (ba run), .string (ba lib), .bool sec] w (OwnPost w (pathsN name run lib sec)) := by
  have HCT := hid (Try.strings_Contains_one (ba name) 47 w)
  have hbs : decide (0 ≤ Lib.indexByte (ba name).data.toList 47) = hasS name := rfl
  rw [hbs] at HCT
  clear hbs
  have HR1 := hid (Row.new w 9 [.string (ba name)])
  have HB1 := hid (@bal w (.cells #[.string (ba name)] 9))
  go_enter Try.func27, Try.ntmps27
  go_wp2_with fail
  refine (HCT.out).mono ?_
  rintro e' w1 ⟨rfl, hw⟩
  obtain rfl := hw.symm
  cases hs : hasS name
  · have HP := hid (show pathsN name run lib sec = (dirsL run lib sec).map fun d => joinL d name by unfold pathsN; rw [hs]; rfl)
    have HDL := hid (fun p (h : p ∈ dirsL run lib sec) => dirsL_len h)
    have HDM := hid (dirsL_many run lib sec)
    clear hs HR1 HB1 HCT hw
    go_wp2_with fail
    refine (dirs_any run lib sec w hr hl).mono ?_
    rintro e' w2 ⟨v, rfl, ho, hb⟩
    obtain ⟨da, dc, rfl, hdc, _⟩ := own_cel ho
    have HB2 := hid hb
    have HDC := hid hdc
    have HRB := hid (show run.length + lib.length ≤ 200000 by omega)
    generalize dirsL run lib sec = D at *
    clear ho hb hdc hr hl
    have hdm : D.length ≤ 300000 := by have := HDM.out; have := HRB.out; omega
    go_wp2_with fail
    go_loopw [9, 21] (fun v i wr => ∃ (k : Nat) (pd : List BL), k ≤ D.length ∧ i = .int .i64 k ∧ pd = (D.take k).map (fun d => joinL d name) ∧ OwnS wr w2.heap.size v pd ∧ Below w2.heap.size w2 wr) (fun _ i _ => D.length - (intOf i).toNat)
    case atStart => exact ⟨0, [], Nat.zero_le _, rfl, rfl, ownS_nil _ _, Below.refl _ _⟩
    case round =>
      obtain ⟨k, pd, hk, rfl, hpd, hown, hbw⟩ := hrel
      have HPD := hid hpd
      have HOWN := hid hown
      have HBW := hid hbw
      have HPL := hid (show pd.length ≤ 8000000000000 by rw [hpd, List.length_map, List.length_take]; have := HDM.out; have := HRB.out; omega)
      obtain ⟨va, vc, rfl, _⟩ := own_cel hown
      by_cases hlt : k < D.length
      · have d1 : decide ((k : Int) < (D.length : Int)) = true := by simp; omega
        have d1n : decide (k < D.length) = true := by simp; omega
        obtain ⟨b, o, rfl, hcell⟩ := (HDC.out.below' hbw).some_of (by simp [strs]; omega)
        have g := strs_at hcell hlt
        have HJ := hid (join_any (ba D[k]) (ba name) wr (by rw [ba_size]; have := HDL.out _ (List.getElem_mem hlt); have := HRB.out; omega) (by rw [ba_size]; omega))
        rw [show (ba D[k]).data.toList = D[k] from rfl, show (ba name).data.toList = name from rfl] at HJ
        have HNX := hid (show (D.take (k + 1)).map (fun d => joinL d name) = pd ++ [joinL D[k] name] by rw [hpd, List.take_succ_eq_append_getElem hlt, List.map_append]; rfl)
        have HZ := hid (show w2.heap.size ≤ wr.heap.size from hbw.size)
        generalize joinL D[k] name = jt at *
        generalize D[k] = dk at *
        clear hpd hown hbw hcell
        go_wp2_with fail
        refine (HJ.out).mono ?_
        rintro e' w3 ⟨rfl, rfl⟩
        go_wp2_with (at_builtin; go_must (refine wpList_appS rfl _ _ rfl w2.heap.size (.slice va pd.length vc) pd (ba jt) rfl rfl HOWN.out HPL.out HZ.out ?_; intro v' w9 hown hgrow hb9 hz9 _; have HN9 := hid hown; have HB9 := hid (HBW.out.trans hb9); clear hown hgrow hb9 hz9))
        go_roundw
        case rel => exact ⟨k + 1, pd ++ [jt], by omega, by go_num, HNX.out.symm, ownS_of HN9.out rfl, HB9.out⟩
        case measure => simp [intOf]; omega
      · have d1 : decide ((k : Int) < (D.length : Int)) = false := by simp; omega
        have d1n : decide (k < D.length) = false := by simp; omega
        clear hpd hown hbw
        go_wp2_with fail
        go_ret
        refine ⟨_, rfl, ?_, HB2.out.trans (HBW.out.mono HB2.out.size)⟩
        have e : pd = pathsN name run lib sec := by rw [HP.out, HPD.out, List.take_of_length_le (by omega)]
        rw [← e]
        exact own_from HOWN.out HB2.out.size
  · have HP := hid (show pathsN name run lib sec = [name] by unfold pathsN; rw [hs]; rfl)
    clear hs HCT hw
    go_wp2_with fail
    go_ret
    refine ⟨_, rfl, ?_, HB1.out⟩
    rw [HP.out]
    exact HR1.out.owns (base := w.heap.size) (n := 1) (cap := 1) (Nat.le_refl _) rfl (Nat.le_refl _) (by unfold maxLen; omega)
end
section
open Go.RowKit Go.Sort
attribute [local go_sem] Oper.semAt_some

theorem walk_in {L : List ND} (hf : Fine L) {c : CR} {cwd : Int} {p : BL} {last : Bool} {r : Int × Int} (hw : walkL L c cwd p last = r) (h : r.2 = 0) : ∃ nx : Nat, nx < L.length ∧ r.1 = nx := by
  subst hw
  by_cases h1 : 0 ≤ cwd ∧ cwd < (L.length : Int) ∧ (L.getD cwd.toNat default).kind = 2
  · by_cases h2 : chkE p = 0
    · rw [walkL_is (st := if rootF p = true then 0 else cwd.toNat) h1 h2 rfl] at h ⊢
      cases hF : followL L c (last || tailB p) 0 (if rootF p = true then 0 else cwd.toNat) (partsF p) with
      | mk er nx =>
        rw [hF] at h
        by_cases he : er = 0
        · subst he
          rw [if_pos rfl] at h ⊢
          by_cases h8 : tailB p = true ∧ (L.getD nx default).kind ≠ 2
          · rw [if_pos h8] at h; cases h
          · rw [if_neg h8]
            refine ⟨nx, follow_in hf hF ?_, rfl⟩
            split
            · exact hf.pos
            · omega
        · rw [if_neg he] at h; exact absurd h he
    · rw [walkL_chk h1 h2] at h; exact absurd h h2
  · rw [walkL_from h1] at h; cases h
def leadB (L : List ND) (c : CR) (cwd : Int) (p : BL) : Int × Bool :=
  if (walkL L c cwd p true).2 = 0 then ((walkL L c cwd p true).1, decide ((L.getD (walkL L c cwd p true).1.toNat default).kind = 1) && mayB c.e c.g c.l (L.getD (walkL L c cwd p true).1.toNat default).kind (L.getD (walkL L c cwd p true).1.toNat default).mode (L.getD (walkL L c cwd p true).1.toNat default).uid (L.getD (walkL L c cwd p true).1.toNat default).gid 4) else (0, false)
/-- The boxes of the closure. -/
structure Boxes (w : World) (F : Nat) (c : CR) (cwd : Int) (b1 b2 b3 : Nat) : Prop where
  r1 : Row w b1 25 [.pointer (some ⟨F, 0, none⟩)]
  r2 : Row w b2 44 [.int .u32 c.u, .int .u32 c.e, .int .u32 c.s, .int .u32 c.g, .slice c.a c.n c.c]
  r3 : Row w b3 3 [.int .i64 cwd]
theorem Boxes.below {w w' : World} {F : Nat} {c : CR} {cwd : Int} {b1 b2 b3 : Nat} (h : Boxes w F c cwd b1 b2 b3) (hb : Below w.heap.size w w') : Boxes w' F c cwd b1 b2 b3 := ⟨h.r1.below hb h.r1.lt, h.r2.below hb h.r2.lt, h.r3.below hb h.r3.lt⟩
theorem Row.one {w : World} {g : Nat} {E : TypeId} {a : Value} (h : Row w g E [a]) : w.cell? ⟨g, 0, none⟩ = some a := h.cell 0 (by simp)

set_option maxRecDepth 100000 in
set_option maxHeartbeats 4000000 in
theorem lead_any (F : Nat) (t : FT) (c : CR) (cwd : Int) (p : BL) (b1 b2 b3 : Nat) (w : World) (h : FSat w F t) (hc : CrOk w c) (hb : Boxes w F c cwd b1 b2 b3) (hp : p.length ≤ 1000000) :
    Calls Try.prog 62 #[.string (ba p), .pointer (some ⟨b1, 0, none⟩), .pointer (some ⟨b2, 0, none⟩), .pointer (some ⟨b3, 0, none⟩)] w fun e w' => e = .returned (.tuple #[.int .i64 (leadB t.L c cwd p).1, .bool (leadB t.L c cwd p).2]) ∧ Below w.heap.size w w' := by
  have HWA := hid (walk_any F t c cwd p true w h hc hp)
  have HIN := hid (fun r hr hz => @walk_in t.L h.fine c cwd p true r hr hz)
  have HF := hid h
  have HC := hid hc
  have HB := hid hb
  have x0 := hb.r1.one
  obtain ⟨y0, y1, y2, y3, y4⟩ := hb.r2.five
  have z0 := hb.r3.one
  have l1 := hb.r1.lt
  have l2 := hb.r2.lt
  have l3 := hb.r3.lt
  clear h hc hb
  cases hR : walkL t.L c cwd p true with
  | mk n er =>
    rw [hR] at HWA
    have HR := hid hR
    clear hR
    simp only [walkV, CR.v] at HWA
    by_cases he : er = 0
    · subst he
      obtain ⟨nx, hnx, hn⟩ := HIN.out _ HR.out rfl
      simp only at hn
      subst hn
      have HNX := hid hnx
      have hmode := HF.out.fine.mode nx hnx
      have HMO := hid hmode
      clear hnx hmode HIN
      go_enter Try.func62, Try.ntmps62
      go_wp2_with fail
      refine (HWA.out).mono ?_
      rintro e' w1 ⟨rfl, hb⟩
      have HB1 := hid hb
      have HF1 := hid (HF.out.below hb)
      have HX1 := hid (HB.out.below hb)
      have x0 := HX1.out.r1.one
      have l1 := HX1.out.r1.lt
      clear hb HWA y0 y1 y2 y3 y4 z0 l2 l3
      go_wp2_with fail
      refine (meta_any F t nx w1 HF1.out HNX.out).mono ?_
      rintro e' w2 ⟨rfl, hb⟩
      have HB2 := hid (bthen HB1.out hb)
      have HX2 := hid (HX1.out.below hb)
      have HC2 := hid (HC.out.below HB2.out)
      have HMB := hid (@bal w2 (.cells #[.int .u8 (t.nd nx).kind, .int .u16 (t.nd nx).mode, .int .u32 (t.nd nx).uid, .int .u32 (t.nd nx).gid, .int .i64 (t.nd nx).size] 32))
      have HX3 := hid (HX2.out.below HMB.out)
      have HC3 := hid (HC2.out.below HMB.out)
      have HB3 := hid (bthen HB2.out HMB.out)
      have hx3 := HX3.out.r2.five
      obtain ⟨y0, y1, y2, y3, y4⟩ := hx3
      have l2 := HX3.out.r2.lt
      have HMAY := hid (may_any c.u c.e c.s c.g (t.nd nx).kind (t.nd nx).mode (t.nd nx).uid (t.nd nx).gid (t.nd nx).size 4 c.a c.n c.c c.l _ HC3.out.nums HC3.out.most HMO.out.1 HMO.out.2)
      have HLL : Hid (leadB t.L c cwd p = ((nx : Int), decide ((t.nd nx).kind = 1) && mayB c.e c.g c.l (t.nd nx).kind (t.nd nx).mode (t.nd nx).uid (t.nd nx).gid 4)) := hid (by unfold leadB; rw [HR.out, if_pos rfl]; rfl)
      clear hb x0 l1
      generalize mayB c.e c.g c.l (t.nd nx).kind (t.nd nx).mode (t.nd nx).uid (t.nd nx).gid 4 = mb at *
      by_cases hk : (t.nd nx).kind = 1
      · have dk : ((t.nd nx).kind == 1) = true := by simp [hk]
        have HK := hid hk
        clear hk
        have HLL2 : Hid (leadB t.L c cwd p = ((nx : Int), mb)) := hid (by rw [HLL.out, decide_eq_true HK.out]; rfl)
        go_wp2_with fail
        refine (HMAY.out).mono ?_
        rintro e' w4 ⟨rfl, hb4⟩
        have HB4 := hid (bthen HB3.out hb4)
        clear hb4 y0 y1 y2 y3 y4 l2 HMAY
        go_wp2_with fail
        refine bodyPost_ret (v := .tuple #[.int .i64 nx, .bool mb]) (by simp [results, Try.results62, Try.f62, go_sem]) rfl ⟨by rw [HLL2.out], HB4.out⟩
      · have dk : ((t.nd nx).kind == 1) = false := by simpa using hk
        have HK := hid hk
        clear hk
        go_wp2_with fail
        refine bodyPost_ret (v := .tuple #[.int .i64 nx, .bool false]) (by simp [results, Try.results62, Try.f62, go_sem]) rfl ⟨by rw [HLL.out, decide_eq_false HK.out]; rfl, HB3.out⟩
    · have hne : (er != 0) = true := by simpa using he
      have HLL : Hid (leadB t.L c cwd p = (0, false)) := hid (by unfold leadB; rw [HR.out, if_neg he])
      clear he HIN
      go_enter Try.func62, Try.ntmps62
      go_wp2_with fail
      refine (HWA.out).mono ?_
      rintro e' w1 ⟨rfl, hb⟩
      have HB1 := hid hb
      clear hb x0 y0 y1 y2 y3 y4 z0 l1 l2 l3
      go_wp2_with fail
      refine bodyPost_ret (v := .tuple #[.int .i64 0, .bool false]) (by simp [results, Try.results62, Try.f62, go_sem]) rfl ⟨by rw [HLL.out], HB1.out⟩
end
section
open Go.RowKit Go.Sort
attribute [local go_sem] Oper.semAt_some

def firstL (g : BL → Int × Bool) : List BL → Int × BL × Bool
  | [] => (0, [], false)
  | p :: r => if (g p).2 = true then ((g p).1, p, true) else firstL g r
theorem firstL_yes {g : BL → Int × Bool} {p : BL} {r : List BL} (h : (g p).2 = true) : firstL g (p :: r) = ((g p).1, p, true) := by rw [firstL, if_pos h]
theorem firstL_no {g : BL → Int × Bool} {p : BL} {r : List BL} (h : (g p).2 = false) : firstL g (p :: r) = firstL g r := by rw [firstL, if_neg (by rw [h]; simp)]

set_option maxRecDepth 100000 in
set_option maxHeartbeats 4000000 in
theorem first_any (F : Nat) (t : FT) (c : CR) (cwd : Int) (b1 b2 b3 : Nat) (a : Option Addr) (cap : Nat) (ps : List BL) (w : World) (h : FSat w F t) (hc : CrOk w c) (hb : Boxes w F c cwd b1 b2 b3) (hP : Cel w a ps.length (strs ps)) (hp : ∀ p ∈ ps, p.length ≤ 1000000) (hl : ps.length ≤ 1000000) :
    Calls Try.prog 61 #[.slice a ps.length cap, .func (.func 62) #[] #[.pointer (some ⟨b1, 0, none⟩), .pointer (some ⟨b2, 0, none⟩), .pointer (some ⟨b3, 0, none⟩)]] w fun e w' =>
      e = .returned (.tuple #[.int .i64 (firstL (leadB t.L c cwd) ps).1, .string (ba (firstL (leadB t.L c cwd) ps).2.1), .bool (firstL (leadB t.L c cwd) ps).2.2]) ∧ Below w.heap.size w w' := by
  have HLD := hid (fun (wr : World) (hs : Below w.heap.size w wr) (p : BL) (hp : p.length ≤ 1000000) => lead_any F t c cwd p b1 b2 b3 wr (h.below hs) (hc.below hs) (hb.below hs) hp)
  have HCE := hid hP
  have HPP := hid hp
  generalize leadB t.L c cwd = g at *
  clear h hc hb hP hp
  go_enter Try.func61, Try.ntmps61
  go_wp2_with fail
  go_loopw [13] (fun i wr => Below w.heap.size w wr ∧ ∃ k : Nat, k ≤ ps.length ∧ i = .int .i64 k ∧ firstL g (ps.drop k) = firstL g ps) (fun i _ => ps.length - (intOf i).toNat)
  case atStart => exact ⟨Below.refl _ _, 0, Nat.zero_le _, rfl, rfl⟩
  case round =>
    obtain ⟨hbw, k, hk, rfl, hf⟩ := hrel
    have HBW := hid hbw
    have HFI := hid hf
    clear hf
    by_cases hlt : k < ps.length
    · have d1 : decide ((k : Int) < (ps.length : Int)) = true := by simp; omega
      have d1n : decide (k < ps.length) = true := by simp; omega
      obtain ⟨b, o, rfl, hcell⟩ := (HCE.out.below' hbw).some_of (by simp [strs]; omega)
      have hg := strs_at hcell hlt
      have HDR := hid (List.drop_eq_getElem_cons hlt)
      have HC := hid (HLD.out wr hbw ps[k] (HPP.out _ (List.getElem_mem hlt)))
      generalize ps[k] = p at *
      clear hcell hbw
      cases hr : g p with
      | mk n ok =>
        rw [hr] at HC
        have HGR := hid hr
        clear hr
        go_wp2_with fail
        refine (HC.out).mono ?_
        rintro e' w3 ⟨rfl, hb3⟩
        have HB3 := hid (bthen HBW.out hb3)
        clear hb3 HC hg
        cases ok
        · have HNX := hid (show firstL g (ps.drop (k + 1)) = firstL g ps by rw [← HFI.out, HDR.out, firstL_no (by rw [HGR.out])])
          go_wp2_with fail
          go_roundw
          case rel => exact ⟨HB3.out, k + 1, by omega, by go_num, HNX.out⟩
          case measure => simp [intOf]; omega
        · have HNX := hid (show firstL g ps = (n, p, true) by rw [← HFI.out, HDR.out, firstL_yes (by rw [HGR.out]), HGR.out])
          go_wp2_with fail
          refine bodyPost_ret (v := .tuple #[.int .i64 n, .string (ba p), .bool true]) (by simp [results, Try.results61, Try.f61, go_sem]) rfl ⟨by rw [HNX.out], HB3.out⟩
    · have d1 : decide ((k : Int) < (ps.length : Int)) = false := by simp; omega
      have d1n : decide (k < ps.length) = false := by simp; omega
      have HNX := hid (show firstL g ps = (0, [], false) by rw [← HFI.out, List.drop_eq_nil_of_le (by omega)]; rfl)
      clear hbw
      go_wp2_with fail
      refine bodyPost_ret (v := .tuple #[.int .i64 0, .string (ba []), .bool false]) (by simp [results, Try.results61, Try.f61, go_sem]; rfl) rfl ⟨by rw [HNX.out], HBW.out⟩

def findV (r : Int × BL × Bool) : Value := if r.2.2 = true then .tuple #[.int .i64 r.1, .string (ba r.2.1), .int .i64 0] else .tuple #[.int .i64 0, .string (ba []), .int .i64 19]
set_option maxRecDepth 100000 in
set_option maxHeartbeats 4000000 in
theorem find_any (F : Nat) (t : FT) (c : CR) (cwd : Int) (a : Option Addr) (cap : Nat) (ps : List BL) (w : World) (h : FSat w F t) (hc : CrOk w c) (hP : Cel w a ps.length (strs ps)) (hp : ∀ p ∈ ps, p.length ≤ 1000000) (hl : ps.length ≤ 1000000) :
    Calls Try.prog 36 #[.pointer (some ⟨F, 0, none⟩), c.v, .int .i64 cwd, .slice a ps.length cap] w fun e w' => e = .returned (findV (firstL (leadB t.L c cwd) ps)) ∧ Below w.heap.size w w' := by
  obtain ⟨W0, hW0⟩ : ∃ W0, W0 = ((w.alloc (.cells #[.pointer (some ⟨F, 0, none⟩)] 25)).alloc (.cells #[.int .u32 c.u, .int .u32 c.e, .int .u32 c.s, .int .u32 c.g, .slice c.a c.n c.c] 44)).alloc (.cells #[.int .i64 cwd] 3) := ⟨_, rfl⟩
  have hb : Below w.heap.size w W0 := by rw [hW0]; exact ((bal _).alloc (by simp) _).alloc (by simp; omega) _
  have hx : Boxes W0 F c cwd w.heap.size (w.heap.size + 1) (w.heap.size + 1 + 1) := by
    refine ⟨?_, ?_, ?_⟩
    · rw [hW0]; exact ((Row.new w 25 [.pointer (some ⟨F, 0, none⟩)]).alloc _).alloc _
    · have := (Row.new (w.alloc (.cells #[.pointer (some ⟨F, 0, none⟩)] 25)) 44 [.int .u32 c.u, .int .u32 c.e, .int .u32 c.s, .int .u32 c.g, .slice c.a c.n c.c]).alloc (.cells #[.int .i64 cwd] 3)
      rw [World.size_alloc] at this
      rw [hW0]; exact this
    · have := Row.new ((w.alloc (.cells #[.pointer (some ⟨F, 0, none⟩)] 25)).alloc (.cells #[.int .u32 c.u, .int .u32 c.e, .int .u32 c.s, .int .u32 c.g, .slice c.a c.n c.c] 44)) 3 [.int .i64 cwd]
      rw [World.size_alloc, World.size_alloc] at this
      rw [hW0]; exact this
  have HFI := hid (first_any F t c cwd _ _ _ a cap ps W0 (h.below hb) (hc.below hb) hx (hP.below' hb) hp hl)
  have HB := hid hb
  have x0 := hx.r1.one
  have l1 := hx.r1.lt
  generalize firstL (leadB t.L c cwd) ps = R at *
  obtain ⟨n, p, ok⟩ := R
  unfold CR.v
  clear hb hx h hc hP hp
  go_enter Try.func36, Try.ntmps36
  go_wp2_with fail
  rw [← hW0]
  clear hW0
  go_wp2_with fail
  refine (HFI.out).mono ?_
  rintro e' w1 ⟨rfl, hb1⟩
  have HB1 := hid (bthen HB.out hb1)
  clear hb1 x0 l1 HFI
  cases ok
  · go_wp2_with fail
    refine bodyPost_ret (v := .tuple #[.int .i64 0, .string (ba []), .int .i64 19]) (by simp [results, Try.results36, Try.f36, go_sem]; rfl) rfl ⟨rfl, HB1.out⟩
  · go_wp2_with fail
    refine bodyPost_ret (v := .tuple #[.int .i64 n, .string (ba p), .int .i64 0]) (by simp [results, Try.results36, Try.f36, go_sem]) rfl ⟨rfl, HB1.out⟩
end
section
open Go.RowKit Go.Sort
attribute [local go_sem] Oper.semAt_some
open Go.ChangeShapes Go.WideShapes Go.ChangeAt

def xs15 : List EN := [⟨[47, 108, 105, 98], 2, 493, 0, 0, none, 0, [], []⟩, ⟨[47, 108, 105, 98, 47, 120], 1, 420, 0, 0, none, 0, [], []⟩]
def L15 : List ND := [⟨[47], 0, 2, 493, 0, 0, 0, [([108, 105, 98], 1)], [], []⟩, ⟨[47, 108, 105, 98], 0, 2, 493, 0, 0, 0, [([120], 2)], [], []⟩, ⟨[47, 108, 105, 98, 47, 120], 1, 1, 420, 0, 0, 0, [], [], []⟩]
theorem new15 : newE [root0] 0 xs15 = (0, 0, L15) := by kernel_rfl
def ps15 : List BL := [[47, 97, 47, 120], [47, 108, 105, 98, 47, 120], [47, 117, 115, 114, 47, 108, 105, 98, 47, 120]]
theorem paths15 : pathsN [120] [47, 97] [] false = ps15 := by decide +kernel
theorem dirs15 : (dirsL [47, 97, 58] [47, 98] true).length = 4 := by decide +kernel
theorem lead15a : (leadB L15 (cW 0) 0 [47, 97, 47, 120]).2 = false := by
  have hw : walkL L15 (cW 0) 0 [47, 97, 47, 120] true = (0, 3) := walkL_bad (st := 0) (nx := 0) ⟨by decide, by decide, by decide⟩ (by decide +kernel) (by decide +kernel) (by
    rw [show partsF [47, 97, 47, 120] = [[97], [120]] by decide +kernel, followL_bad (by decide +kernel)]
    decide +kernel) (by decide)
  unfold leadB
  rw [hw, if_neg (by decide)]
theorem lead15b : leadB L15 (cW 0) 0 [47, 108, 105, 98, 47, 120] = (2, true) := by
  have hw : walkL L15 (cW 0) 0 [47, 108, 105, 98, 47, 120] true = (2, 0) := walkL_ok (st := 0) (nx := 2) ⟨by decide, by decide, by decide⟩ (by decide +kernel) (by decide +kernel) (by
    rw [show partsF [47, 108, 105, 98, 47, 120] = [[108, 105, 98], [120]] by decide +kernel]
    rw [followL_step (nx := 1) (by decide +kernel) (.inl (by decide +kernel)), followL_step (nx := 2) (by decide +kernel) (.inl (by decide +kernel)), followL_nil]) (.inl (by decide +kernel))
  unfold leadB
  rw [hw, if_pos rfl]
  decide +kernel
theorem first15 : firstL (leadB L15 (cW 0) 0) ps15 = (2, [47, 108, 105, 98, 47, 120], true) := by
  unfold ps15
  rw [firstL_no lead15a, firstL_yes (by rw [lead15b]), lead15b]

set_option maxRecDepth 100000 in
set_option maxHeartbeats 4000000 in
theorem works15_any (w : World) : Calls Try.prog 25 #[] w fun e w' => e = .returned (.bool true) ∧ Below w.heap.size w w' := by
  have b1 : Below w.heap.size w (w.alloc (.cells ((xs15.map EN.cs).flatten).toArray 77)) := bal _
  have hr := Row.new w 77 ((xs15.map EN.cs).flatten)
  have hents := ents_of hr (by
    intro x hx
    simp only [xs15, List.mem_cons, List.not_mem_nil, or_false] at hx
    rcases hx with rfl | rfl
    · exact ⟨Byt.nil _ _, fun _ => rfl, by decide, by decide, by decide, by decide⟩
    · exact ⟨Byt.nil _ _, fun _ => rfl, by decide, by decide, by decide, by decide⟩)
  have HN := hid (new_any _ 2 2 xs15 _ hents (by omega))
  have HB := hid b1
  clear b1 hr hents
  go_enter Try.func25, Try.ntmps25
  go_wp2_with fail
  refine (HN.out).mono ?_
  rintro e' w1 ⟨hb, hp⟩
  rw [if_neg (by show ¬ 64 < 2; omega), new15, if_pos rfl] at hp
  obtain ⟨F, t, rfl, htl, hfs, hF⟩ := hp
  obtain ⟨L, bs, ms⟩ := t
  obtain rfl : L = L15 := htl
  have HB1 := hid (HB.out.trans (hb.mono HB.out.size))
  have HF1 := hid hfs
  clear hb hfs HN HB hF
  have HPA := hid (paths_any [120] [47, 97] [] false w1 (by decide) (by decide) (by decide))
  rw [paths15] at HPA
  go_wp2_with fail
  refine (HPA.out).mono ?_
  rintro e' w2 ⟨v, rfl, ho, hb⟩
  have HB2 := hid (bthen HB1.out hb)
  have HF2 := hid (HF1.out.below hb)
  obtain ⟨pa, pc, rfl, hpc, _⟩ := own_cel ho
  have HFD := hid (find_any F ⟨L15, bs, ms⟩ (cW 0) 0 pa pc ps15 w2 HF2.out ⟨Nums.nil _ _ _, by show 0 ≤ _; omega⟩ hpc (by decide) (by decide))
  rw [show (FT.mk L15 bs ms).L = L15 from rfl, first15] at HFD
  clear ho hb hpc HPA
  go_wp2_with fail
  refine (HFD.out).mono ?_
  rintro e' w3 ⟨rfl, hb⟩
  have HB3 := hid (bthen HB2.out hb)
  have HDI := hid (dirs_any [47, 97, 58] [47, 98] true w3 (by decide) (by decide))
  have HDL := hid dirs15
  have hq2 := ba_beq [47, 108, 105, 98, 47, 120] [47, 108, 105, 98, 47, 120]
  simp only [findV, if_true]
  generalize dirsL [47, 97, 58] [47, 98] true = D at *
  clear hb HFD
  go_wp2_with fail
  refine (HDI.out).mono ?_
  rintro e' w4 ⟨v, rfl, ho, hb⟩
  have HB4 := hid (bthen HB3.out hb)
  obtain ⟨da, dc, rfl, _⟩ := own_cel ho
  rw [HDL.out]
  clear ho hb HDI
  go_wp2_with fail
  go_ret
  exact ⟨rfl, HB4.out⟩

theorem find_none (u e s g : Int) (ca : Option Addr) (cn cc : Nat) (cwd : Int) (a : Option Addr) (n c : Nat) (w : World) :
    Calls Try.prog 36 #[.pointer none, credV u e s g ca cn cc, .int .i64 cwd, .slice a n c] w fun e' w' => e' = .returned (.tuple #[.int .i64 0, .string (ba []), .int .i64 2]) ∧ Below w.heap.size w w' := by
  have HB := hid (show Below w.heap.size w (((w.alloc (.cells #[.pointer none] 25)).alloc (.cells #[.int .u32 u, .int .u32 e, .int .u32 s, .int .u32 g, .slice ca cn cc] 44)).alloc (.cells #[.int .i64 cwd] 3)) from ((bal _).alloc (by simp) _).alloc (by simp; omega) _)
  go_enter Try.func36, Try.ntmps36
  go_wp2_with fail
  refine bodyPost_ret (v := .tuple #[.int .i64 0, .string (ba []), .int .i64 2]) (by simp [results, Try.results36, Try.f36, go_sem]; rfl) rfl ⟨rfl, HB.out⟩

theorem leavesAsk : leaves Try.prog 2 64 = [(0, 3), (1, 58)] := by kernel_rfl
theorem cellsAsk : Try.prog.cellsOf 64 = 2 := by kernel_rfl
section
variable {H : Type} {enc : TypeId × Value → H} {w : World} {held : Bool}
set_option maxRecDepth 100000 in
theorem open_ask {r : Reach} {b0 : Nat} {v : Value} {d : DataW H} {ps : List MemPlace} (hv : Value.okWide Try.prog w r b0 64 v) (h : DataW.Trod enc Try.prog w 0 (fun _ => true) held 64 v d ps) (hz : (d.weights Try.prog 64).all (· ≤ reachBytes) = true) :
    ∃ (f : Int) (a : Option Addr) (n c : Nat), v = .agg #[.int .i64 f, .slice a n c] := by
  obtain ⟨cs, rfl, hsz, hc⟩ := open_agg (n := 2) Try.underlying64 hv h (small_of hz)
  rw [cellsAsk] at hsz
  rw [leavesAsk] at hc
  obtain ⟨l, hl⟩ : ∃ l, cs = ⟨l⟩ := ⟨cs.toList, rfl⟩
  subst hl
  match l, hsz with
  | [v0, v1], _ =>
    obtain ⟨m0, y0, t0, s0⟩ := hc 0 3 (by simp) (by kernel_rfl) (by simp)
    obtain ⟨m1, y1, t1, s1⟩ := hc 1 58 (by simp) (by kernel_rfl) (by simp)
    obtain ⟨x0, rfl, _⟩ := leaf_int Try.underlying3 t0
    obtain ⟨a, n, c, rfl, _⟩ := open_rows (n := 0) Try.underlying58 t1 s1 (by rw [show Try.prog.cellsOf 9 = 1 by kernel_rfl]; omega)
    exact ⟨x0, a, n, c, rfl⟩
end
end
end Go.Proofs.Ytnepccjcjkeneaa
