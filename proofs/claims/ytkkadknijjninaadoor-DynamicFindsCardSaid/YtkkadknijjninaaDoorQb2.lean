
/- dynamic: the symbols with their names. -/
import Derived.Test.YtkkadknijjninaaDoorQb1
import Derived.Test.YtkkadknijjninaaDoorSyM
namespace Go.Proofs.YtkkadknijjninaaDoor
open Go.RowKit Go.Sort Go.Shelf Go.WideMaps Go.Maps
attribute [local go_sem] Oper.semAt_some

def dsC (s : SY) : List Value := [.string (ba s.name), .int .u64 s.value, .int .u64 s.size, .int .u8 s.bind, .bool s.dfn]
def symJ (t : BL) (ts : List SY) (x : RSY) : Option (List SY) := if 2 < x.bind then none else (textO t x.name).map fun n => ts ++ [⟨n, x.value, x.size, x.bind, x.deff⟩]
def symS (t : BL) (xs : List RSY) : Option (List SY) := xs.foldl (fun o x => o.bind fun ts => symJ t ts x) (some [])
theorem symS_snoc (t : BL) (xs : List RSY) (x : RSY) : symS t (xs ++ [x]) = (symS t xs).bind fun ts => symJ t ts x := by simp [symS, List.foldl_append]
theorem symS_none {t : BL} {xs ys : List RSY} (h : symS t xs = none) : symS t (xs ++ ys) = none := by
  have key : ∀ (ys : List RSY), ys.foldl (fun (o : Option (List SY)) x => o.bind fun ts => symJ t ts x) none = none := by
    intro ys
    induction ys with
    | nil => rfl
    | cons y ys ih => exact ih
  unfold symS at *
  rw [List.foldl_append, h]
  exact key _
theorem symS_len {t : BL} {xs : List RSY} {ts : List SY} (h : symS t xs = some ts) : ts.length = xs.length := by
  rcases xs.eq_nil_or_concat with rfl | ⟨e, x, rfl⟩
  · cases h; rfl
  · rw [List.concat_eq_append, symS_snoc] at h
    cases hg : symS t e with
    | none => rw [hg] at h; cases h
    | some us =>
      rw [hg] at h
      have h1 := symS_len hg
      have h2 : symJ t us x = some ts := h
      unfold symJ at h2
      split at h2
      · cases h2
      · cases hx : textO t x.name with
        | none => rw [hx] at h2; cases h2
        | some y =>
          rw [hx] at h2
          cases h2
          rw [List.concat_eq_append, List.length_append, List.length_append, h1]
          rfl
termination_by xs.length
decreasing_by simp_all
abbrev OwnD (W : World) (base : Nat) (v : Value) (xs : List SY) : Prop := OwnK W base 46 5 v (xs.map dsC)
theorem dsC_one (xs : List SY) : ∀ r ∈ xs.map dsC, ∀ u ∈ r, u.oneCell' = true := by
  intro r hr u hu
  obtain ⟨x, _, rfl⟩ := List.mem_map.1 hr
  unfold dsC at hu
  simp only [List.mem_cons, List.not_mem_nil, or_false] at hu
  rcases hu with rfl | rfl | rfl | rfl | rfl <;> rfl
theorem dsC_len (xs : List SY) : ∀ r ∈ xs.map dsC, r.length = 5 := by
  intro r hr
  obtain ⟨x, _, rfl⟩ := List.mem_map.1 hr
  rfl
theorem infoRowD : (Tryd.prog.info? 46).map (fun i => (i.zero, i.size, i.bytes)) = some (some (.agg #[.string ByteArray.empty, .int .u64 0, .int .u64 0, .int .u8 0, .bool false]), 5, 40) := by kernel_rfl
structure SysP (R : Option (List SY)) (w : World) (e : Ending) (w' : World) : Prop where
  ex : (R = none ∧ e = .returned (.tuple #[.slice none 0 0, .int .i64 25])) ∨ (∃ xs v, R = some xs ∧ e = .returned (.tuple #[v, .int .i64 0]) ∧ OwnD w' w.heap.size v xs)
  low : Below w.heap.size w w'
theorem drop_take {α : Type} {l : List α} {k : Nat} (hk : k < l.length) (h1 : 0 < k) : (l.take (k + 1)).drop 1 = (l.take k).drop 1 ++ [l[k]] := by
  rw [List.take_succ_eq_append_getElem hk, List.drop_append_of_le_length (by rw [List.length_take]; omega)]
set_option maxRecDepth 100000 in
set_option maxHeartbeats 16000000 in
theorem syms_any (ra : Option Addr) (rc : Nat) (raw : List RSY) (ta : Option Addr) (tn tc : Nat) (t : BL) (w : World) (hK : Rk w 6 ra raw.length (raw.map symC)) (hrl : raw.length ≤ 1000) (hrn : ∀ x ∈ raw, 0 ≤ x.name ∧ x.name ≤ 18446744073709551615)
    (hT : Byt w ta tn t) (htc : tn ≤ tc) (htn : tn ≤ 1000000000) :
    Calls Tryd.prog 57 #[.slice ra raw.length rc, .slice ta tn tc] w (SysP (symS t (raw.drop 1)) w) := by
  have HKX := hid (fun (W : World) (hb : Below w.heap.size w W) => hK.below' hb)
  have HTX := hid (fun (W : World) (hb : Below w.heap.size w W) (p : Int) (h0 : 0 ≤ p) (h1 : p ≤ 18446744073709551615) => text_any ta tn tc t p W (hT.below' hb) htc htn h0 h1)
  have HRL := hid hrl
  have HRN := hid hrn
  obtain ⟨R, hR⟩ : ∃ R, R = symS t (raw.drop 1) := ⟨_, rfl⟩
  rw [← hR]
  have HR := hid hR
  clear hK hT htc htn hR hrl hrn
  go_enter Tryd.func57, Tryd.ntmps57
  go_wp2_with fail
  go_loopw [6, 13] (fun v i wr => ∃ (k : Nat) (sv : Value) (ts : List SY), k ≤ raw.length ∧ sv = v ∧ i = .int .i64 k ∧ symS t ((raw.take k).drop 1) = some ts ∧ OwnD wr w.heap.size sv ts ∧ Below w.heap.size w wr) (fun _ i _ => raw.length - (intOf i).toNat)
  case atStart => exact ⟨0, _, [], Nat.zero_le _, rfl, rfl, rfl, ⟨rfl, .inl ⟨rfl, rfl⟩⟩, Below.refl _ _⟩
  case round =>
    obtain ⟨k, sv, ts, hk, rfl, rfl, hts, hown, hb⟩ := hrel
    have HO := hid hown
    have HB := hid hb
    have HTS := hid hts
    have hrl := HRL.out
    clear hts hown
    by_cases hlt : k < raw.length
    rotate_left
    · have d1 : decide ((k : Int) < (raw.length : Int)) = false := by simp; omega
      have d1n : decide (k < raw.length) = false := by simp; omega
      have HK := hid (show R = some ts by
        obtain rfl : k = raw.length := by omega
        have := HTS.out
        rw [List.take_length] at this
        rw [HR.out, this])
      clear hrl hlt hk hb
      go_wp2_with fail
      go_ret2
      exact ⟨.inr ⟨ts, _, HK.out, rfl, HO.out⟩, HB.out⟩
    have d1 : decide ((k : Int) < (raw.length : Int)) = true := by simp; omega
    have d1n : decide (k < raw.length) = true := by simp; omega
    obtain ⟨b, off, rfl, hc⟩ := (HKX.out wr hb).some_of (by simp; omega)
    have hcc := hc k (by simpa using hlt)
    rw [List.getElem_map] at hcc
    have x0 := hcc 0 (by simp [symC])
    have x1 := hcc 1 (by simp [symC])
    have x2 := hcc 2 (by simp [symC])
    have x3 := hcc 3 (by simp [symC])
    have x4 := hcc 4 (by simp [symC])
    have x5 := hcc 5 (by simp [symC])
    simp only [symC, List.getElem_cons_zero, List.getElem_cons_succ, Nat.add_zero] at x0 x1 x2 x3 x4 x5
    have hbl := World.block_lt_of_cell? wr _ x0
    have HXX := hid (HRN.out raw[k] (List.getElem_mem hlt))
    have HSN := hid (fun (h1 : 0 < k) => show symS t ((raw.take (k + 1)).drop 1) = symJ t ts raw[k] by rw [drop_take hlt h1, symS_snoc, HTS.out]; rfl)
    have HS0 := hid (fun (h1 : k = 0) => show symS t ((raw.take (k + 1)).drop 1) = some ts by
      subst h1
      rw [← HTS.out]
      simp)
    have HFL := hid (fun (h1 : 0 < k) (h : symJ t ts raw[k] = none) => show R = none by
      rw [HR.out, show raw.drop 1 = (raw.take (k + 1)).drop 1 ++ raw.drop (k + 1) by
        rw [← List.drop_append_of_le_length (by rw [List.length_take]; omega), List.take_append_drop]]
      exact symS_none (by rw [HSN.out h1]; exact h))
    have HTL := hid (show ts.length ≤ 1000 by
      have := symS_len HTS.out
      rw [List.length_drop, List.length_take] at this
      omega)
    generalize raw[k] = x at *
    have HBA := hid (fun o => show Below w.heap.size w (wr.alloc o) from HB.out.alloc HB.out.size o)
    clear hc hcc hb
    by_cases hk0 : k = 0
    · have e0 : ((k : Int) == 0) = true := by rw [beq_iff_eq]; omega
      have e0n : (k == 0) = true := by rw [beq_iff_eq]; omega
      have HG := hid (HS0.out hk0)
      clear hk0
      go_wp2_with fail
      go_roundw
      case rel => exact ⟨k + 1, _, ts, by omega, rfl, by go_num, HG.out, HO.out.alloc _, HBA.out _⟩
      case measure => simp [intOf]; omega
    have e0 : ((k : Int) == 0) = false := by rw [beq_eq_false_iff_ne]; omega
    have e0n : (k == 0) = false := by rw [beq_eq_false_iff_ne]; omega
    have HK1 := hid (show 0 < k by omega)
    have HTXT := hid (fun o => HTX.out (wr.alloc o) (HBA.out o) x.name HXX.out.1 HXX.out.2)
    obtain ⟨T, hT⟩ : ∃ T, T = textO t x.name := ⟨_, rfl⟩
    have HT := hid hT
    rw [← hT] at HTXT
    clear hT hk0
    go_wp2_with fail
    refine (HTXT.out _).mono ?_
    rintro e' w2 ⟨rfl, rfl⟩
    unfold tres
    cases T
    · have HF := hid (HFL.out HK1.out (by unfold symJ; rw [← HT.out]; split <;> rfl))
      clear hrl
      go_wp2_with fail
      go_ret2
      exact ⟨.inl ⟨HF.out, rfl⟩, HBA.out _⟩
    rename_i nm
    by_cases hbd : 2 < x.bind
    · have d2 : decide (2 < x.bind) = true := by simp; omega
      have HF := hid (HFL.out HK1.out (by unfold symJ; rw [if_pos hbd]))
      clear hbd hrl
      go_wp2_with fail
      go_ret2
      exact ⟨.inl ⟨HF.out, rfl⟩, HBA.out _⟩
    have d2 : decide (2 < x.bind) = false := by simp; omega
    have HG := hid (show symS t ((raw.take (k + 1)).drop 1) = some (ts ++ [⟨nm, x.value, x.size, x.bind, x.deff⟩]) by rw [HSN.out HK1.out]; unfold symJ; rw [if_neg hbd, ← HT.out]; rfl)
    obtain ⟨y, hy⟩ : ∃ y : SY, y = ⟨nm, x.value, x.size, x.bind, x.deff⟩ := ⟨_, rfl⟩
    have HY := hid hy
    obtain ⟨W5, hW5⟩ : ∃ W5, W5 = (wr.alloc (.cells #[.int .u64 x.name, .string (ba nm), .int .u64 x.value, .int .u64 x.size, .int .u8 x.bind, .bool x.deff] 142)).alloc (.cells #[.string (ba nm), .int .u64 x.value, .int .u64 x.size, .int .u8 x.bind, .bool x.deff] 46) := ⟨_, rfl⟩
    have HB5 := hid (show Below w.heap.size w W5 by rw [hW5]; exact (HBA.out _).alloc (HBA.out _).size _)
    have HO5 := hid (show OwnD W5 w.heap.size sv ts by rw [hW5]; exact (HO.out.alloc _).alloc _)
    have HK5 := hid (show Rk W5 5 (some ⟨wr.heap.size + 1, 0, none⟩) 1 [dsC y] from by
      rw [hW5, hy]
      have h := Row.new (wr.alloc (.cells #[.int .u64 x.name, .string (ba nm), .int .u64 x.value, .int .u64 x.size, .int .u8 x.bind, .bool x.deff] 142)) 46 (dsC ⟨nm, x.value, x.size, x.bind, x.deff⟩)
      rw [World.size_alloc] at h
      exact row_rk h rfl)
    have HONE := hid (show ∀ r ∈ [dsC y], ∀ u ∈ r, u.oneCell' = true from dsC_one [y])
    have HNO := hid (show (some (Addr.mk (wr.heap.size + 1) 0 none)) = none → 1 = 0 from fun h => by cases h)
    have HN1 := hid (show ((ts.map dsC).length + 1) * 40 ≤ 140737488355328 by rw [List.length_map]; have := HTL.out; omega)
    have HN2 := hid (show (ts.map dsC).length + 1 ≤ maxLen by rw [List.length_map]; have := HTL.out; unfold maxLen; omega)
    have HNZ := hid (show w.heap.size ≤ W5.heap.size from HB5.out.size)
    have HFI := hid (fun (w9 : World) (h : Below w.heap.size W5 w9) => HB5.out.trans h)
    subst hW5
    clear hbd hy
    go_wp2_with (at_builtin; go_must (refine wpList_appKg Tryd.underlying38 infoRowD rfl (by decide) rfl _ _ rfl w.heap.size sv (ts.map dsC) [dsC y] rfl (some ⟨wr.heap.size + 1, 0, none⟩) 1 1 rfl HO5.out HK5.out HONE.out HNO.out HN1.out HN2.out HNZ.out ?_; intro v' w9 hown hgrow hb9; have HO9 := hid hown; have HB9 := hid (HFI.out w9 hb9); clear hown hgrow hb9))
    go_roundw
    case rel => exact ⟨k + 1, _, ts ++ [y], by omega, rfl, by go_num, by rw [HG.out, HY.out], by unfold OwnD; rw [List.map_append]; exact HO9.out, HB9.out⟩
    case measure => simp [intOf]; omega
end Go.Proofs.YtkkadknijjninaaDoor
