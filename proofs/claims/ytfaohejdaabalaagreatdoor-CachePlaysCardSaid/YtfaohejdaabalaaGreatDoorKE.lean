
/- Merged: E0 E PM Y PN. -/
import Derived.Test.YtfaohejdaabalaaGreatDoorRows
import Derived.Test.YtfaohejdaabalaaGreatDoorKA
import Derived.Deep.QuietTactic
import Derived.BigQuiet
import Derived.Lib.Strings
import Derived.Lib.LastIndexByte
import Derived.Lib.IndexLaws
import Derived.Maps.AppendAt
namespace Go.Proofs.YtfaohejdaabalaaGreatDoor
open Go.RowKit Go.Sort

def strs (ds : List (List UInt8)) : List Value := ds.map fun l => .string (ba l)
def eqT (l m : List (List UInt8)) : Bool := decide (l = m)
theorem strs_at {w : World} {b off : Nat} {l : List (List UInt8)} (hc : ∀ i (h : i < (strs l).length), w.cell? ⟨b, off + i, none⟩ = some (strs l)[i]) {k : Nat} (hk : k < l.length) : w.cell? ⟨b, off + k, none⟩ = some (.string (ba l[k])) := by
  have := hc k (by simpa [strs] using hk)
  rw [this]
  simp [strs]
theorem ba_beq2 (x y : List UInt8) : ((ba x).toList == (ba y).toList) = decide (x = y) := by
  rw [Lib.toList_data, Lib.toList_data, ba_list, ba_list, Bool.eq_iff_iff, beq_iff_eq, decide_eq_true_eq]
end Go.Proofs.YtfaohejdaabalaaGreatDoor
namespace Go.Proofs.YtfaohejdaabalaaGreatDoor
open Go.RowKit Go.Sort

end Go.Proofs.YtfaohejdaabalaaGreatDoor
namespace Go.Proofs.YtfaohejdaabalaaGreatDoor
open Go.RowKit

abbrev BL := List UInt8
def strV (l : BL) : Value := .string (ba l)
def tooLong (l : BL) : Bool := (cuts 47 l).any fun p => decide (32 < p.length)
def chkE (l : BL) : Int := if l = [] then 3 else if 0 ∈ l then 1 else if 200 < l.length then 11 else if tooLong l then 11 else 0
def goodP (p : BL) : Bool := decide (p ≠ []) && decide (p ≠ [46])
def partsL (l : BL) : List BL := (cuts 47 l).filter goodP
def begB (l : BL) : Bool := decide (l.head? = some 47)
def tailB (l : BL) : Bool := decide (l ≠ []) && decide ((cst 47 l).2 = [])
def partsF (l : BL) : List BL := if chkE l = 0 then partsL l else []
def rootF (l : BL) : Bool := decide (chkE l = 0) && begB l
def lastI (l : BL) : Int := if (cst 47 l).1 = [] then -1 else (l.length : Int) - (cst 47 l).2.length - 1
def baseL (l : BL) : BL := (cst 47 l).2
def dirL (l : BL) : BL := if lastI l = -1 then [46] else if lastI l = 0 then [47] else l.take (lastI l).toNat
def joinL (d p : BL) : BL := if begB p || decide (d = []) then p else if tailB d then d ++ p else d ++ [47] ++ p

theorem cst_no {x : UInt8} {l : BL} (h : ∀ c ∈ l, c ≠ x) : cst x l = ([], l) := by
  have := cst_miss x [] l h
  simpa [cst_nil] using this
theorem cst_split {x : UInt8} (a m : BL) (h : ∀ c ∈ m, c ≠ x) : cst x (a ++ [x] ++ m) = (cuts x a, m) := by
  rw [cst_miss x (a ++ [x]) m h, cst_hit]
  simp [cuts]

/-- Either there is no such letter, or the last one parts the text. -/
theorem last_split (x : UInt8) (l : BL) : (∀ c ∈ l, c ≠ x) ∨ ∃ a m, l = a ++ [x] ++ m ∧ ∀ c ∈ m, c ≠ x := by
  induction l with
  | nil => left; simp
  | cons c l ih =>
    rcases ih with h | ⟨a, m, rfl, h⟩
    · by_cases e : c = x
      · subst e; right; exact ⟨[], l, by simp, h⟩
      · left
        intro d hd
        rcases List.mem_cons.1 hd with rfl | hd
        · exact e
        · exact h d hd
    · right; exact ⟨c :: a, m, by simp, h⟩

theorem cuts_ne (x : UInt8) (l : BL) : cuts x l ≠ [] := by simp [cuts]
theorem lastI_no {l : BL} (h : ∀ c ∈ l, c ≠ 47) : lastI l = -1 ∧ baseL l = l := by
  unfold lastI baseL
  rw [cst_no h]
  simp
theorem lastI_at {a m : BL} (h : ∀ c ∈ m, c ≠ 47) : lastI (a ++ [47] ++ m) = a.length ∧ baseL (a ++ [47] ++ m) = m := by
  unfold lastI baseL
  rw [cst_split a m h]
  rw [if_neg (cuts_ne 47 a)]
  simp
  omega

theorem lastI_rng (l : BL) : -1 ≤ lastI l ∧ lastI l < l.length := by
  rcases last_split 47 l with h | ⟨a, m, rfl, h⟩
  · rw [(lastI_no h).1]; omega
  · rw [(lastI_at h).1]; simp; omega

theorem base_drop (l : BL) : l.drop (lastI l + 1).toNat = baseL l := by
  rcases last_split 47 l with h | ⟨a, m, rfl, h⟩
  · rw [(lastI_no h).1, (lastI_no h).2]; rfl
  · rw [(lastI_at h).1, (lastI_at h).2]
    have e : ((a.length : Int) + 1).toNat = (a ++ [47]).length := by simp
    rw [e, List.drop_left]

/-- What LastIndexByte tells. -/
theorem lastIdx_47 (s : ByteArray) : Lib.lastIndexByte s 47 = lastI s.data.toList := by
  unfold Lib.lastIndexByte
  rcases last_split 47 s.data.toList with h | ⟨a, m, e, h⟩
  · rw [(lastI_no h).1]
    rcases Lib.lastIdx_spec s 47 s.size with ⟨h1, _⟩ | ⟨i, hi, h1, h2, _⟩
    · exact h1
    · exfalso
      have hi' : i < s.data.size := hi
      have hl : i < s.data.toList.length := by simpa using hi'
      have hm : s.data.toList[i] ∈ s.data.toList := List.getElem_mem _
      apply h _ hm
      apply UInt8.toNat_inj.1
      have h3 : (s.data[i]).toNat = 47 := by
        rw [getElem!_pos s.data i hi'] at h2
        omega
      simpa using h3
  · rw [e, (lastI_at h).1]
    have hsz : s.size = a.length + 1 + m.length := by
      have := congrArg List.length e
      rw [size_list] at this
      simp at this
      omega
    have hat : s.data.toList[a.length]? = some 47 := by
      rw [e]; simp
    have hbeh : ∀ j, a.length < j → j < s.size → s.data.toList[j]? ≠ some 47 := by
      intro j h1 h2 h3
      rw [e] at h3
      rw [List.getElem?_append_right (by simp; omega)] at h3
      have := List.mem_of_getElem? h3
      exact h _ this rfl
    have back : ∀ j, j < s.size → ((s.data[j]!).toNat : Int) = 47 → s.data.toList[j]? = some 47 := by
      intro j hj h1
      have hj' : j < s.data.size := hj
      rw [getElem!_pos s.data j hj'] at h1
      have : s.data[j] = 47 := UInt8.toNat_inj.1 (by have : (47 : UInt8).toNat = 47 := rfl; omega)
      rw [Array.getElem?_toList, Array.getElem?_eq_getElem hj', this]
    have forth : ∀ j, j < s.size → s.data.toList[j]? = some 47 → ((s.data[j]!).toNat : Int) = 47 := by
      intro j hj h1
      have hj' : j < s.data.size := hj
      rw [getElem!_pos s.data j hj']
      have : s.data[j] = 47 := by rw [Array.getElem?_toList, Array.getElem?_eq_getElem hj'] at h1; exact Option.some.inj h1
      rw [this]; rfl
    rcases Lib.lastIdx_spec s 47 s.size with ⟨_, h2⟩ | ⟨i, hi, h1, h2, h3⟩
    · exact absurd (forth _ (by omega) hat) (h2 _ (by omega))
    · rw [h1]
      have hia : i = a.length := by
        rcases Nat.lt_trichotomy i a.length with hlt | heq | hgt
        · exact absurd (forth _ (by omega) hat) (h3 _ hlt (by omega))
        · exact heq
        · exact absurd (back i hi h2) (hbeh i hgt hi)
      rw [hia]

theorem lastI_snoc (l : BL) (c : UInt8) : lastI (l ++ [c]) = if c = 47 then (l.length : Int) else lastI l := by
  by_cases h : c = 47
  · subst h
    rw [if_pos rfl]
    have := (lastI_at (a := l) (m := []) (by simp)).1
    simpa using this
  · rw [if_neg h]
    have hm : ∀ d ∈ [c], d ≠ 47 := by simpa using h
    unfold lastI
    rw [cst_miss 47 l [c] hm]
    simp only []
    split
    · rfl
    · simp; omega

theorem hasPrefix_47 (l : BL) : Lib.hasPrefix l [47] = begB l := by
  rw [Bool.eq_iff_iff]
  unfold begB Lib.hasPrefix
  rw [List.isPrefixOf_iff_prefix, decide_eq_true_eq]
  cases l with
  | nil => simp
  | cons c l => simp [List.cons_prefix_cons, eq_comm]
theorem tail_iff (l : BL) : tailB l = true ↔ ∃ a, l = a ++ [47] := by
  unfold tailB
  rw [Bool.and_eq_true, decide_eq_true_eq, decide_eq_true_eq]
  rcases last_split 47 l with h | ⟨a, m, rfl, h⟩
  · rw [cst_no h]
    constructor
    · rintro ⟨h1, h2⟩; exact absurd h2 h1
    · rintro ⟨a, rfl⟩
      exact absurd rfl (h 47 (by simp))
  · rw [cst_split a m h]
    constructor
    · rintro ⟨_, h2⟩
      simp only [] at h2
      subst h2
      exact ⟨a, by simp⟩
    · rintro ⟨b, hb⟩
      refine ⟨by simp, ?_⟩
      rcases List.eq_nil_or_concat m with rfl | ⟨m', c, rfl⟩
      · rfl
      · exfalso
        have : c = 47 := by
          rw [List.concat_eq_append, ← List.append_assoc] at hb
          have h2 := List.append_inj_right' hb rfl
          simpa using h2
        exact h c (by simp) this
theorem hasSuffix_47 (l : BL) : Lib.hasSuffix l [47] = tailB l := by
  rw [Bool.eq_iff_iff, tail_iff]
  unfold Lib.hasSuffix
  rw [List.isSuffixOf_iff_suffix]
  constructor
  · rintro ⟨a, h⟩; exact ⟨a, h.symm⟩
  · rintro ⟨a, h⟩; exact ⟨a, h.symm⟩
theorem index_nul (l : BL) : (0 ≤ Lib.indexByte l 0) ↔ 0 ∈ l := by
  have hg := Lib.indexByte_ge l 0
  constructor
  · intro h
    obtain ⟨o, ho⟩ := Int.eq_ofNat_of_zero_le h
    exact List.mem_of_getElem? (Lib.indexByte_some ho).1
  · intro h
    by_cases h1 : Lib.indexByte l 0 = -1
    · obtain ⟨i, hi, e⟩ := List.getElem_of_mem h
      exact absurd (by rw [List.getElem?_eq_getElem hi, e]) (Lib.indexByte_none h1 i)
    · omega
theorem lastI_cases (l : BL) : (lastI l = -1 ∧ baseL l = l) ∨ ∃ i : Nat, lastI l = i ∧ i < l.length ∧ baseL l = l.drop (i + 1) := by
  have h := base_drop l
  obtain ⟨h1, h2⟩ := lastI_rng l
  by_cases e : lastI l = -1
  · left; rw [e] at h; exact ⟨e, h.symm⟩
  · right
    obtain ⟨i, hi⟩ := Int.eq_ofNat_of_zero_le (show 0 ≤ lastI l by omega)
    rw [hi] at h
    exact ⟨i, hi, by omega, by rw [← h]; congr 1⟩
theorem ba_nil (s : ByteArray) : s.toList.isEmpty = decide (s.data.toList = []) := by
  rw [Lib.toList_data]
  cases s.data.toList <;> rfl
theorem ba_append (a b : BL) : ba a ++ ba b = ba (a ++ b) := by
  apply ByteArray.ext
  apply Array.ext'
  simp [ba]
end Go.Proofs.YtfaohejdaabalaaGreatDoor
namespace Go.Proofs.YtfaohejdaabalaaGreatDoor
open Go.RowKit Go.Sort

abbrev OwnS (w : World) (base : Nat) (v : Value) (ds : List BL) : Prop := w.ownsRow base 9 1 v ds.length (strs ds)
theorem strsS_snoc (ds : List BL) (x : BL) : strs (ds ++ [x]) = strs ds ++ [.string (ba x)] := by simp [strs]
theorem strsS_app (a b : List BL) : strs (a ++ b) = strs a ++ strs b := by simp [strs]
theorem infoS : (Tryz.prog.info? 9).map (fun i => (i.zero, i.size, i.bytes)) = some (some (.string ByteArray.empty), 1, 16) := by kernel_rfl
theorem strsS_len (ds : List BL) : (strs ds).length = ds.length := by simp [strs]
theorem strsS_one (ds : List BL) : ∀ u ∈ strs ds, u.oneCell' = true := by
  intro u hu
  unfold strs at hu
  obtain ⟨x, _, rfl⟩ := List.mem_map.1 hu
  rfl
theorem ownS_nil (w : World) (base : Nat) : OwnS w base (.slice none 0 0) [] := World.ownsRow_nil _ _ _ _
theorem ownS_of {w : World} {base n : Nat} {v : Value} {ds ds' : List BL} (h : w.ownsRow base 9 1 v n (strs ds)) (e : ds = ds') : OwnS w base v ds' := by
  subst e
  have := h.1
  rw [strsS_len] at this
  exact own_ext h (by omega) rfl
theorem drewN_below (w : World) (n : Nat) : Below w.heap.size w (w.drewN n) := bdN (Below.refl _ w) n

/-- append(v, x), x a text that lies in a new block of its own. -/
theorem wpList_appS {w : World} {ops : Array Oper} {rest : List Oper} {o : Oper} {a : Act} {Q : Exit → Act → World → Prop} (hgd : o.guard = none) (s x : Operand)
    (ho : o.op = .call { callee := .builtin .append, args := #[s, x], argTypes := #[125, 125] })
    (base : Nat) (v : Value) (ds : List BL) (t : ByteArray) (hs : a.eval s = v) (hx : a.eval x = .slice (some ⟨w.heap.size, 0, none⟩) 1 1) (hown : OwnS w base v ds) (hn : ds.length ≤ 8000000000000) (hbase : base ≤ w.heap.size)
    (h : ∀ v' w', w'.ownsRow base 9 1 v' (ds.length + 1) (strs (ds ++ [t.data.toList])) → (w.alloc (.cells #[.string t] 9)).grownBy w' v.ownBlock → Below base w w' → w.heap.size ≤ w'.heap.size → (v'.ownBlock = v.ownBlock ∨ v'.ownBlock = some (w.heap.size + 1)) → wpList Tryz.prog ops Q rest (a.put o.dst v') w') :
    wpList Tryz.prog ops Q (o :: rest) a (w.alloc (.cells #[.string t] 9)) := by
  obtain ⟨i0, hi, hz0, hz1, hz2⟩ := info_parts infoS
  refine wpList_append_own_at _ hgd s x 125 ho base 9 i0 (.string ByteArray.empty) 1 16 Tryz.underlying125 hi hz0 hz1 hz2 rfl (by decide) v ds.length (strs ds) hs (hown.alloc _) ⟨w.heap.size, 0, none⟩ 1 1 [.string t] hx rfl (news_one w (.string t) 9) (by intro u hu; rw [List.mem_singleton.1 hu]; rfl)
    (by unfold maxLen; omega) (by omega) (by simp only [World.size_alloc]; omega) ?_
  intro v' w' hown' hgrow _ hat
  refine h v' w' (own_ext hown' rfl (by rw [strsS_snoc]; rfl)) hgrow (((Below.refl _ w).alloc hbase _).grown hgrow (by simp only [World.size_alloc]; omega) (fun k hk => own_low hown (Nat.le_refl _) k hk)) (by have := hgrow.size; simp only [World.size_alloc] at this; omega) ?_
  rcases hat with h1 | h1
  · exact .inl h1
  · right; rw [h1]; simp
end Go.Proofs.YtfaohejdaabalaaGreatDoor
namespace Go.Proofs.YtfaohejdaabalaaGreatDoor
open Go.RowKit

theorem cfold_shift (x : UInt8) (D : List BL) : ∀ (m : BL) (st : List BL × BL), m.foldl (cstep x) (D ++ st.1, st.2) = (D ++ (m.foldl (cstep x) st).1, (m.foldl (cstep x) st).2)
  | [], st => rfl
  | c :: m, st => by
    have h : cstep x (D ++ st.1, st.2) c = (D ++ (cstep x st c).1, (cstep x st c).2) := by unfold cstep; split <;> simp
    rw [List.foldl_cons, List.foldl_cons, h, cfold_shift x D m]
theorem cuts_mid (x : UInt8) (a m : BL) : cuts x (a ++ [x] ++ m) = cuts x a ++ cuts x m := by
  have h : cst x (a ++ [x] ++ m) = (cuts x a ++ (cst x m).1, (cst x m).2) := by
    have h1 : cst x (a ++ [x] ++ m) = m.foldl (cstep x) (cst x (a ++ [x])) := by unfold cst; rw [List.foldl_append]
    rw [h1, cst_hit]
    have := cfold_shift x (cuts x a) m ([], [])
    simpa [cuts, cst] using this
  unfold cuts at h ⊢
  rw [h]
  simp
theorem cuts_no {x : UInt8} {m : BL} (h : ∀ c ∈ m, c ≠ x) : cuts x m = [m] := by unfold cuts; rw [cst_no h]; rfl
theorem parts_mid (a m : BL) : partsL (a ++ [47] ++ m) = partsL a ++ partsL m := by unfold partsL; rw [cuts_mid, List.filter_append]
theorem long_mid (a m : BL) : tooLong (a ++ [47] ++ m) = (tooLong a || tooLong m) := by unfold tooLong; rw [cuts_mid, List.any_append]
theorem parts_nil : partsL [] = [] := by decide
theorem parts_dot : partsL [46] = [] := by decide

theorem chk0 (l : BL) : chkE l = 0 ↔ l ≠ [] ∧ ¬ 0 ∈ l ∧ l.length ≤ 200 ∧ tooLong l = false := by
  unfold chkE
  constructor
  · intro h
    by_cases h1 : l = []
    · rw [if_pos h1] at h; omega
    · rw [if_neg h1] at h
      by_cases h2 : 0 ∈ l
      · rw [if_pos h2] at h; omega
      · rw [if_neg h2] at h
        by_cases h3 : 200 < l.length
        · rw [if_pos h3] at h; omega
        · rw [if_neg h3] at h
          cases h4 : tooLong l
          · exact ⟨h1, h2, by omega, rfl⟩
          · rw [h4] at h; simp at h
  · rintro ⟨h1, h2, h3, h4⟩
    rw [if_neg h1, if_neg h2, if_neg (by omega), h4]
    rfl

theorem beg_app {a m : BL} (h : a ≠ []) : begB (a ++ m) = begB a := by
  unfold begB
  cases a with
  | nil => exact absurd rfl h
  | cons c a => rfl

/-- The parts of what is joined. -/
theorem joins_math {d p : BL} (hd : chkE d = 0) (hb : begB p = false) : partsL (joinL d p) = partsL d ++ partsL p ∧ begB (joinL d p) = begB d := by
  obtain ⟨h1, _⟩ := (chk0 d).1 hd
  unfold joinL
  rw [hb, decide_eq_false h1]
  simp only [Bool.or_self, Bool.false_eq_true, if_false]
  cases ht : tailB d
  · simp only [Bool.false_eq_true, if_false]
    refine ⟨parts_mid d p, ?_⟩
    rw [List.append_assoc, beg_app h1]
  · simp only [if_true]
    obtain ⟨a, rfl⟩ := (tail_iff d).1 ht
    refine ⟨?_, beg_app h1⟩
    have h2 := parts_mid a []
    rw [parts_nil, List.append_nil, List.append_nil] at h2
    rw [parts_mid, h2]
theorem join_beg {d p : BL} (hb : begB p = true) : joinL d p = p := by unfold joinL; rw [hb]; simp

theorem beg_no {m : BL} (h : ∀ c ∈ m, c ≠ 47) : begB m = false := by
  unfold begB
  cases m with
  | nil => rfl
  | cons c m => simpa using h c (by simp)

/-- A directory and a base are the path again. -/
theorem back_math (l : BL) (h : chkE l = 0) : (chkE (joinL (dirL l) (baseL l)) = 0 → partsL (joinL (dirL l) (baseL l)) = partsL l ∧ begB (joinL (dirL l) (baseL l)) = begB l) ∧ (chkE (joinL (dirL l) (baseL l)) ≠ 0 → 200 < l.length + 2) := by
  obtain ⟨h1, h2, h3, h4⟩ := (chk0 l).1 h
  rcases last_split 47 l with hn | ⟨a, m, rfl, hn⟩
  · obtain ⟨e1, e2⟩ := lastI_no hn
    have ed : dirL l = [46] := by unfold dirL; rw [e1]; rfl
    have eq : joinL (dirL l) (baseL l) = [46] ++ [47] ++ l := by
      rw [ed, e2]
      unfold joinL
      rw [beg_no hn]
      rfl
    rw [eq]
    constructor
    · intro _
      refine ⟨?_, ?_⟩
      · rw [parts_mid, parts_dot]; rfl
      · rw [beg_no hn]; rfl
    · intro hc
      rcases Nat.lt_or_ge 200 (l.length + 2) with h5 | h5
      · exact h5
      · exfalso
        apply hc
        rw [chk0]
        refine ⟨by simp, ?_, by simp; omega, ?_⟩
        · simp only [List.mem_append, List.mem_singleton]
          rintro ((h6 | h6) | h6)
          · exact absurd h6 (by decide)
          · exact absurd h6 (by decide)
          · exact h2 h6
        · rw [long_mid, h4]; rfl
  · obtain ⟨e1, e2⟩ := lastI_at (a := a) (m := m) hn
    have eb : begB m = false := beg_no hn
    by_cases ha : a = []
    · subst ha
      have ed : dirL ([] ++ [47] ++ m) = [47] := by unfold dirL; rw [e1]; rfl
      have eq : joinL (dirL ([] ++ [47] ++ m)) (baseL ([] ++ [47] ++ m)) = [] ++ [47] ++ m := by
        rw [ed, e2]
        unfold joinL
        rw [eb]
        rfl
      rw [eq]
      exact ⟨fun _ => ⟨rfl, rfl⟩, fun hc => absurd h hc⟩
    · have hal : 0 < a.length := List.length_pos_iff.2 ha
      have ed : dirL (a ++ [47] ++ m) = a := by
        unfold dirL
        rw [e1, if_neg (by omega), if_neg (by omega), List.append_assoc]
        simp
      have hj : joinL a m = if tailB a then a ++ m else a ++ [47] ++ m := by
        unfold joinL
        rw [eb, decide_eq_false ha]
        rfl
      rw [ed, e2, hj]
      cases ht : tailB a
      · simp only [Bool.false_eq_true, if_false]
        refine ⟨fun _ => ?_, fun hc => absurd h hc⟩
        simp
      · simp only [if_true]
        obtain ⟨b, rfl⟩ := (tail_iff a).1 ht
        have hp := parts_mid b []
        rw [parts_nil, List.append_nil, List.append_nil] at hp
        have hl := long_mid b []
        rw [List.append_nil, show tooLong [] = false from rfl, Bool.or_false] at hl
        have hlm := h4
        rw [long_mid, hl] at hlm
        constructor
        · intro _
          refine ⟨?_, ?_⟩
          · rw [parts_mid, parts_mid, hp]
          · rw [beg_app ha, List.append_assoc, beg_app ha]
        · intro hc
          exfalso
          apply hc
          rw [chk0]
          refine ⟨by simp, fun h6 => h2 ?_, ?_, ?_⟩
          · simp only [List.mem_append, List.mem_singleton] at h6 ⊢
            rcases h6 with (h6 | h6) | h6
            · exact .inl (.inl (.inl h6))
            · exact .inl (.inl (.inr h6))
            · exact .inr h6
          · simp only [List.length_append, List.length_singleton] at h3 ⊢; omega
          · rw [long_mid]; exact hlm

/-! What is taken apart, and joined by slashes. -/
def jn : List BL → BL
  | [] => []
  | [p] => p
  | p :: q :: r => p ++ [47] ++ jn (q :: r)
def tot (ds : List BL) : Nat := (ds.map fun p => p.length + 1).sum
theorem jn_len : ∀ ds : List BL, ds ≠ [] → (jn ds).length + 1 = tot ds
  | [], h => absurd rfl h
  | [p], _ => by simp [jn, tot]
  | p :: q :: r, _ => by
    have := jn_len (q :: r) (by simp)
    simp only [jn, tot, List.map_cons, List.sum_cons, List.length_append, List.length_singleton] at this ⊢
    omega
def gl (ds : List BL) : BL := (ds.map fun p => p ++ [47]).flatten
theorem gl_snoc (ds : List BL) (p : BL) : gl (ds ++ [p]) = gl ds ++ p ++ [47] := by simp [gl]
theorem gl_jn : ∀ ds : List BL, ds ≠ [] → gl ds = jn ds ++ [47]
  | [], h => absurd rfl h
  | [p], _ => by simp [gl, jn]
  | p :: q :: r, _ => by
    have := gl_jn (q :: r) (by simp)
    simp only [gl, List.map_cons, List.flatten_cons] at this ⊢
    rw [this]
    simp [jn]
theorem cuts_jn : ∀ ds : List BL, ds ≠ [] → (∀ p ∈ ds, ∀ c ∈ p, c ≠ 47) → cuts 47 (jn ds) = ds
  | [], h, _ => absurd rfl h
  | [p], _, hn => cuts_no (hn p (by simp))
  | p :: q :: r, _, hn => by
    rw [jn, cuts_mid, cuts_jn (q :: r) (by simp) (fun p' hp' => hn p' (List.mem_cons_of_mem _ hp')), cuts_no (hn p (by simp))]
    rfl
theorem mem_jn : ∀ (ds : List BL) (c : UInt8), c ∈ jn ds → c = 47 ∨ ∃ p ∈ ds, c ∈ p
  | [], c, h => by simp [jn] at h
  | [p], c, h => .inr ⟨p, by simp, h⟩
  | p :: q :: r, c, h => by
    simp only [jn, List.mem_append, List.mem_singleton] at h
    rcases h with (h | h) | h
    · exact .inr ⟨p, by simp, h⟩
    · exact .inl h
    · rcases mem_jn (q :: r) c h with h | ⟨p', h1, h2⟩
      · exact .inl h
      · exact .inr ⟨p', List.mem_cons_of_mem _ h1, h2⟩

theorem cfold_tot (x : UInt8) : ∀ (m : BL) (st : List BL × BL), tot (m.foldl (cstep x) st).1 + (m.foldl (cstep x) st).2.length = tot st.1 + st.2.length + m.length
  | [], st => rfl
  | c :: m, st => by
    rw [List.foldl_cons, cfold_tot x m]
    have : tot (cstep x st c).1 + (cstep x st c).2.length = tot st.1 + st.2.length + 1 := by
      unfold cstep
      split
      · simp [tot]; omega
      · simp; omega
    simp only [List.length_cons]
    omega
theorem tot_cuts (x : UInt8) (l : BL) : tot (cuts x l) = l.length + 1 := by
  have := cfold_tot x l ([], [])
  unfold cuts cst
  simp only [tot, List.map_append, List.sum_append, List.map_nil, List.sum_nil, List.length_nil, List.map_cons, List.sum_cons] at this ⊢
  omega
theorem tot_filter (f : BL → Bool) : ∀ ds : List BL, tot (ds.filter f) ≤ tot ds
  | [] => Nat.le_refl _
  | p :: ds => by
    have := tot_filter f ds
    simp only [tot, List.filter_cons, List.map_cons, List.sum_cons] at this ⊢
    split
    · simp only [List.map_cons, List.sum_cons]; omega
    · omega
theorem cfold_mem (x : UInt8) (L : BL) : ∀ (m : BL) (st : List BL × BL), (∀ c ∈ m, c ∈ L) → (∀ p ∈ st.1 ++ [st.2], ∀ c ∈ p, c ≠ x ∧ c ∈ L) → ∀ p ∈ (m.foldl (cstep x) st).1 ++ [(m.foldl (cstep x) st).2], ∀ c ∈ p, c ≠ x ∧ c ∈ L
  | [], st, _, h => h
  | d :: m, st, hm, h => by
    rw [List.foldl_cons]
    refine cfold_mem x L m _ (fun c hc => hm c (List.mem_cons_of_mem _ hc)) ?_
    unfold cstep
    split
    · intro p hp c hc
      simp only [List.mem_append, List.mem_singleton] at hp
      rcases hp with hp | hp
      · exact h p (by simpa using hp) c hc
      · subst hp; simp at hc
    · rename_i hdx
      intro p hp c hc
      simp only [List.mem_append, List.mem_singleton] at hp
      rcases hp with hp | hp
      · exact h p (by simp [hp]) c hc
      · subst hp
        rcases List.mem_append.1 hc with hc | hc
        · exact h st.2 (by simp) c hc
        · simp at hc
          subst hc
          exact ⟨hdx, hm _ (by simp)⟩
theorem cuts_mem (x : UInt8) (l : BL) : ∀ p ∈ cuts x l, ∀ c ∈ p, c ≠ x ∧ c ∈ l := by
  have := cfold_mem x l l ([], []) (fun c hc => hc) (by simp)
  exact this

/-- The parts of parts that are joined are the parts again. -/
theorem again_math (l : BL) (h : chkE l = 0) (hne : partsL l ≠ []) : chkE (jn (partsL l)) = 0 ∧ begB (jn (partsL l)) = false ∧ partsL (jn (partsL l)) = partsL l ∧ (jn (partsL l)).length ≤ 200 ∧ gl (partsL l) = jn (partsL l) ++ [47] := by
  obtain ⟨h1, h2, h3, h4⟩ := (chk0 l).1 h
  have hin : ∀ p ∈ partsL l, p ∈ cuts 47 l ∧ goodP p = true := fun p hp => by
    unfold partsL at hp
    exact List.mem_filter.1 hp
  have hns : ∀ p ∈ partsL l, ∀ c ∈ p, c ≠ 47 := fun p hp c hc => (cuts_mem 47 l p (hin p hp).1 c hc).1
  have hc := cuts_jn (partsL l) hne hns
  have hlen : (jn (partsL l)).length ≤ l.length := by
    have a1 := jn_len (partsL l) hne
    have a2 := tot_filter goodP (cuts 47 l)
    have a3 := tot_cuts 47 l
    unfold partsL at a1 ⊢
    omega
  have hp : partsL (jn (partsL l)) = partsL l := by
    show (cuts 47 (jn (partsL l))).filter goodP = partsL l
    rw [hc]
    exact List.filter_eq_self.2 fun p hp => (hin p hp).2
  have hjne : jn (partsL l) ≠ [] := by
    intro e
    rw [e] at hp
    rw [parts_nil] at hp
    exact hne hp.symm
  refine ⟨?_, ?_, hp, by omega, gl_jn _ hne⟩
  · rw [chk0]
    refine ⟨hjne, ?_, by omega, ?_⟩
    · intro h0
      rcases mem_jn _ _ h0 with h5 | ⟨p, h5, h6⟩
      · exact absurd h5 (by decide)
      · exact h2 (cuts_mem 47 l p (hin p h5).1 0 h6).2
    · unfold tooLong at h4 ⊢
      rw [hc]
      rw [List.any_eq_false] at h4 ⊢
      exact fun p hp => h4 p (hin p hp).1
  · cases hd : partsL l with
    | nil => exact absurd hd hne
    | cons p r =>
      have hpm := hin p (by rw [hd]; simp)
      have hpn : p ≠ [] := by have := hpm.2; simp [goodP] at this; exact this.1
      have hpb : begB p = false := beg_no (hns p (by rw [hd]; simp))
      cases r with
      | nil => exact hpb
      | cons q r => rw [jn, List.append_assoc, beg_app hpn]; exact hpb
end Go.Proofs.YtfaohejdaabalaaGreatDoor
