/- symbols.All. -/
import Derived.Test.YtblefgkhikfmhaaSyD
import Derived.Test.YtblefgkhikfmhaaYI
import Derived.Maps.OwnOps
import Derived.Maps.OwnSet
import Derived.Deep.DeepMust
namespace Go.Proofs.Ytblefgkhikfmhaa
open Go.RowKit Go.Sort Go.Shelf Go.WideMaps Go.Maps
attribute [local go_sem] Oper.semAt_some

theorem _root_.Go.World.ownsMap.lookup_bool {H : Type} {P : Program} {w : World} {k t e : TypeId} {b n : Nat} {D : DataW H} (h : w.ownsMap P k (plainElem P e) b n D) (K : Keyed P k) (ht : P.underlying t = some (.map k e)) (he : P.underlying e = some .bool) (hz : (zeroValue e).run P w = .ok (.bool false) w)
    {key : Value} {kl : Lit} (hkey : keyOf P k key = some kl) : ∃ c, (Instr.lookup t (.map (some b)) key false).run P w = .ok (.bool c) w ∧ D.atKey kl (.lit (.bool false)) = .lit (.bool c) := by
  obtain ⟨v, ps, hrun, hv⟩ := h.lookup K ht hz (plainElem_bool he false) hkey
  unfold plainElem at hv
  rw [he] at hv
  cases v <;> simp at hv
  rename_i c
  exact ⟨c, hrun, hv.1.symm⟩

def addN {H : Type} (D : DataW H) (n : BL) : DataW H := D.put (.string n) (.lit (.bool true))
def mapN {H : Type} (ns : List BL) : DataW H := ns.foldl addN (.map [])
theorem mapN_snoc {H : Type} (ns : List BL) (n : BL) : mapN (H := H) (ns ++ [n]) = (mapN ns).put (.string n) (.lit (.bool true)) := by simp [mapN, addN, List.foldl_append]
theorem mapN_is {H : Type} (ns : List BL) : IsMap (mapN (H := H) ns) := by
  rcases ns.eq_nil_or_concat with rfl | ⟨e, s, rfl⟩
  · exact ⟨[], rfl⟩
  · rw [List.concat_eq_append, mapN_snoc]; obtain ⟨x, hx⟩ := mapN_is (H := H) e; rw [hx]; exact ⟨_, rfl⟩
termination_by ns.length
theorem mapN_at {H : Type} (n : BL) (ns : List BL) : (mapN (H := H) ns).atKey (.string n) (.lit (.bool false)) = .lit (.bool (decide (n ∈ ns))) := by
  rcases ns.eq_nil_or_concat with rfl | ⟨e, s, rfl⟩
  · rfl
  · have ih := mapN_at (H := H) n e
    rw [List.concat_eq_append, mapN_snoc]
    by_cases h : n = s
    · subst h
      rw [atKey_put_same (mapN_is e) (by trivial)]
      simp
    · rw [atKey_put_other (by simpa using h), ih]
      simp [h]
termination_by ns.length

theorem keyedS : Keyed Try.prog 9 := string_keyed Try.underlying9
theorem zeroB (w : World) : (zeroValue 4).run Try.prog w = .ok (.bool false) w := by kernel_rfl
theorem keyS (l : BL) (h : l.length ≤ maxLen) : keyOf Try.prog 9 (.string (ba l)) = some (.string l) := by
  have := keyOf_string_mk (P := Try.prog) Try.underlying9 (s := ba l) (by rw [ba_size]; exact h)
  exact this
def Told (w : World) (b n : Nat) (ns : List BL) : Prop := w.ownsMap Try.prog 9 (plainElem (H := Unit) Try.prog 4) b n (mapN ns)
theorem Told.lt {w : World} {b n : Nat} {ns : List BL} (h : Told w b n ns) : b < w.heap.size := by
  unfold Told at h; exact h.lt
theorem Told.kept {w w' : World} {b n : Nat} {ns : List BL} {row : Option Nat} (h : Told w b n ns) (hg : w.grownBy w' row) (hne : some b ≠ row) : Told w' b n ns := by
  unfold Told at *; exact h.kept hg hne
theorem Told.look {w : World} {b n : Nat} {ns : List BL} (h : Told w b n ns) (l : BL) (hl : l.length ≤ maxLen) : (Instr.lookup 60 (.map (some b)) (.string (ba l)) false).run Try.prog w = .ok (.bool (decide (l ∈ ns))) w := by
  obtain ⟨c, hrun, hat⟩ := World.ownsMap.lookup_bool (P := Try.prog) h keyedS Try.underlying60 Try.underlying4 (zeroB w) (keyS l hl)
  rw [mapN_at] at hat
  rw [hrun]
  have : decide (l ∈ ns) = c := by simpa using hat
  rw [this]
theorem Told.put {w : World} {b n : Nat} {ns : List BL} (h : Told w b n ns) (l : BL) (hl : l.length ≤ maxLen) (hn : n < maxLen) : ∃ w', (Instr.mapUpdate 60 (.map (some b)) (.string (ba l)) (.bool true)).run Try.prog w = .ok () w' ∧ Told w' b (n + 1) (ns ++ [l]) ∧ w.grownBy w' (some b) := by
  obtain ⟨W1, hrun1, ho1, hg1⟩ := World.ownsMap.update h keyedS Try.underlying60 hn (keyS l hl) (plainElem_bool Try.underlying4 true)
  exact ⟨W1, hrun1, by unfold Told; rw [mapN_snoc]; exact ho1, hg1⟩

/-- What All's loop keeps. -/
structure AlI (M : Nat) (ns : List BL) (w0 W : World) : Prop where
  tb : Row W (M + 1) 60 [.map (some M)]
  mp : Told W M ns.length ns
  ob : ∃ v, Row W (M + 1 + 1) 28 [v] ∧ OwnS W (M + 4) v ns
  b : Below M w0 W
  z : M + 4 ≤ W.heap.size
theorem AlI.turn {M : Nat} {ns : List BL} {w0 W W' : World} {row : Option Nat} (h : AlI M ns w0 W) (hg : W.grownBy W' row) (hr : ∀ r, row = some r → M + 4 ≤ r ∧ ∃ o : Obj, W.heap[r]? = some o ∧ o.isCells = false) (hM : M ≤ w0.heap.size) : AlI M ns w0 W' := by
  obtain ⟨v, h1, h2⟩ := h.ob
  exact ⟨row_turn h.tb hg (fun r e => (hr r e).2), h.mp.kept hg (fun e => by have := (hr M e.symm).1; omega), ⟨v, row_turn h1 hg (fun r e => (hr r e).2), own_turn h2 hg (fun r e => (hr r e).2)⟩, h.b.grown hg (Nat.le_trans hM h.b.size) (fun k e => by have := (hr k e).1; omega), Nat.le_trans h.z hg.size⟩

theorem addOnce_in {acc : List BL} {d : DF} (h : d.2.name ∈ acc) : addOnce acc d = acc := by unfold addOnce; rw [if_pos h]
theorem addOnce_out {acc : List BL} {d : DF} (h : d.2.name ∉ acc) : addOnce acc d = acc ++ [d.2.name] := by unfold addOnce; rw [if_neg h]

theorem Told.block {w w' : World} {b n : Nat} {ns : List BL} (h : Told w b n ns) (e : w'.heap[b]? = w.heap[b]?) : Told w' b n ns := by
  unfold Told at *
  obtain ⟨es, clock, hm, F, hs, hD⟩ := h
  exact ⟨es, clock, e.trans hm, F, hs, hD⟩
theorem al_round {w w2 W W1 w9 : World} {M n c9 c8 G8 : Nat} {a9 : Option Addr} {pre : List DF} {x : DF} {pd : List BL} {t : BL} {o : Obj} {ac : Act} (hM : M = w.heap.size) (hs2 : w2.heap.size = M + 4) (hi : AlI M pd w W) (hm1 : Told W1 M (pd.length + 1) (pd ++ [t])) (hg1 : W.grownBy W1 (some M))
    (ho : OwnS W1 (M + 4) (.slice a9 pd.length c9) pd) (ho9 : w9.ownsRow (M + 4) 9 1 (.slice (some ⟨G8, 0, none⟩) n c8) n (strs (pd ++ [t]))) (hg9 : (W1.alloc o).grownBy w9 (Value.slice a9 pd.length c9).ownBlock) (hb9 : Below (M + 4) W1 w9) (he : allOf (pre ++ [x]) = pd ++ [t]) :
    ownPostG w2.heap.size (Below w.heap.size) (fun pre W => AlI M (allOf pre) w W) (fun _ _ _ => False) (pre ++ [x]) W .normal ac (w9.setCell ⟨M + 1 + 1, 0, none⟩ (.slice (some ⟨G8, 0, none⟩) n c8)) := by
  subst hM
  have hz := hi.z
  have hz1 := hg1.size
  have hz9 := hb9.size
  obtain ⟨v, hv, _⟩ := hi.ob
  have r9 : Row w9 (w.heap.size + 1 + 1) 28 [v] := (hv.grown hg1 (by simp; omega)).below hb9 (by omega)
  have hB : Below w.heap.size W (w9.setCell ⟨w.heap.size + 1 + 1, 0, none⟩ (.slice (some ⟨G8, 0, none⟩) n c8)) :=
    bset (((Below.refl w.heap.size W).grown hg1 (by omega) (fun k e => by cases e; exact Nat.le_refl _)).trans (hb9.mono (by omega))) (by omega) _
  refine ⟨?_, hB, ?_⟩
  · exact (KeepsFrom.of_grownBy hg1 (fun j e => by cases e; omega)).trans ((((KeepsOthers.alloc W1 o).trans (KeepsOthers.of_grownBy hg9 (fun j q ej hj => own_cells (ho.alloc o) j q ej hj))).trans (KeepsOthers.setCell _ _ _)).from _)
  · show AlI w.heap.size (allOf (pre ++ [x])) w _
    rw [he]
    refine ⟨?_, ?_, ⟨_, r9.set 0 _, ?_⟩, hi.b.trans hB, ?_⟩
    · exact ((hi.tb.grown hg1 (by simp)).below hb9 (by omega)).other (a := ⟨w.heap.size + 1 + 1, 0, none⟩) (by simp) _
    · refine Told.block (w := w9) ?_ (heap_setCell_other _ ⟨w.heap.size + 1 + 1, 0, none⟩ _ _ (by show w.heap.size ≠ w.heap.size + 1 + 1; omega))
      rw [List.length_append]
      exact hm1.block (hb9.block _ (by omega))
    · exact own_setOther (ownS_of ho9 rfl) (own_row_ne ho9 r9 (by decide)) _
    · rw [World.size_setCell]; omega

def alA (a : Option Addr) (len cap M B2 : Nat) (d : DF) : Act := { tmps := #[.slice a len cap, undef, .slice none 0 0, .pointer (some ⟨M + 1, 0, none⟩), .pointer (some ⟨M + 1 + 1, 0, none⟩), undef, .pointer (some ⟨B2, 0, none⟩), .map (some M), .slice a len cap, .func (.func 28) #[] #[.pointer (some ⟨M + 1 + 1 + 1, 0, none⟩)], .agg #[.int .i64 (d.1.1 : Int), .int .i64 (d.1.2 : Int)], syV d.2, undef, undef, undef, undef, undef, undef, undef, undef, undef, undef, undef, undef, undef, undef], defers := [] }
structure AlX (a : Option Addr) (len cap M : Nat) (d : DF) (a' : Act) (W : World) : Prop where
  ex : ∃ B2, M + 4 ≤ B2 ∧ Row W B2 48 (syC d.2) ∧ a' = alA a len cap M B2 d

theorem names_len {xs : List OB} (hnm : ∀ x ∈ xs, ∀ s ∈ x.sy, s.name.length ≤ 140737488351232) {pre : List DF} {x : DF} (h : pre ++ [x] <+: defsL (osL xs)) : x.2.name.length ≤ 140737488351232 := by
  have hx : x ∈ defsL (osL xs) := h.subset (by simp)
  obtain ⟨hi, hk, h3, _⟩ := mem_defsL hx
  rw [← h3]
  have hi' : x.1.1 < xs.length := by simpa [osL] using hi
  have e : (osL xs)[x.1.1] = toOS xs[x.1.1] := by simp [osL]
  refine hnm xs[x.1.1] (List.getElem_mem hi') _ ?_
  have : (osL xs)[x.1.1].sy = xs[x.1.1].sy := by rw [e]; rfl
  rw [← this]
  exact List.getElem_mem hk

set_option maxHeartbeats 4000000 in
theorem all_any (a : Option Addr) (len cap : Nat) (xs : List OB) (w : World) (hO : Objs w a len xs) (hl : len ≤ 1000000000000) (hsn : ∀ x ∈ xs, x.sn ≤ 4000000000000) (hD : (defsL (osL xs)).length ≤ 1000000000) (hnm : ∀ x ∈ xs, ∀ s ∈ x.sy, s.name.length ≤ 140737488351232) :
    Calls Try.prog 13 #[.slice a len cap] w (OwnPost w (allL (osL xs))) := by
  have hmm := @run_makeMap Try.prog
  refine (callsIn_wide (n := 9)).1 ?_
  refine callsIn_of_wp_marks Try.func13 rfl trivial ?_ rfl
  simp only [Try.ntmps13, List.size_toArray, List.length_cons, List.length_nil, Nat.reduceAdd, Nat.reduceSub, Array.replicate_succ, Array.replicate_zero, List.push_toArray, List.append_toArray, List.nil_append, List.cons_append]
  refine wpIn_wide.2 ?_
  go_wp2_with fail
  refine (definitions_any _ _ rfl ⟨_, _, _, rfl⟩).mono ?_
  rintro e' w2 ⟨rfl, hw2⟩
  have hM : Below w.heap.size w w2 := by rw [hw2]; exact (((bal _).alloc (by simp) _).alloc (by simp; omega) _).alloc (by simp; omega) _
  have hs2 : w2.heap.size = w.heap.size + 4 := by rw [hw2]; simp
  have hI0 : AlI w.heap.size [] w w2 := by
    refine ⟨?_, ?_, ⟨.slice none 0 0, ?_, ownS_nil _ _⟩, hM, by omega⟩
    · rw [hw2]
      have := Row.new (w.alloc (.map #[] 0)) 60 [.map (some w.heap.size)]
      simp only [World.size_alloc] at this
      exact (this.alloc _).alloc _
    · rw [hw2]
      have h0 : Told (w.alloc (.map #[] 0)) w.heap.size 0 [] := World.ownsMap_made _ _ _ _
      refine ((h0.kept (World.grownBy_alloc _ _ none) (by simp)).kept (World.grownBy_alloc _ _ none) (by simp)).kept (World.grownBy_alloc _ _ none) (by simp)
    · rw [hw2]
      have := Row.new ((w.alloc (.map #[] 0)).alloc (.cells #[.map (some w.heap.size)] 60)) 28 [.slice none 0 0]
      simp only [World.size_alloc] at this
      exact this.alloc _
  have hrB : Row w2 (w.heap.size + 1 + 1 + 1) 22 [.slice a len cap] := by
    rw [hw2]
    have := Row.new (((w.alloc (.map #[] 0)).alloc (.cells #[.map (some w.heap.size)] 60)).alloc (.cells #[.slice none 0 0] 28)) 22 [.slice a len cap]
    simp only [World.size_alloc] at this
    exact this
  simp only [World.size_alloc]
  clear hw2
  go_wp2_with fail
  refine wp_range_in (α := DF) (gf := 28) (lb := #[.pointer (some ⟨w.heap.size + 1 + 1 + 1, 0, none⟩)]) rfl (enters_of Try.func28 (by kernel_rfl) rfl)
    (definitions_seq a len cap xs _ w w2 hO hl hsn hM hrB) (fun r e => by cases e) (fun A B C h k => h.trans k) (fun W l o' h1 h2 => below_put W l o' (by omega) h2) (fun _ => rfl)
    (fun pre W => AlI w.heap.size (allOf pre) w W)
    (fun _ _ _ => False)
    (AlX a len cap w.heap.size) ?hI ?hIx ?hIr ?hIxr ?hAx hI0 ?assign ?body ?done ?stop
  case hI =>
    rintro s A C row hi hg hr
    exact hi.turn hg (fun r e => ⟨by have := (hr r e).1; omega, (hr r e).2⟩) (Nat.le_refl _)
  case hIx => exact fun _ _ _ _ _ h _ _ => h
  case hIr =>
    rintro s A C hi hg
    exact hi.turn hg (fun r e => by cases e) (Nat.le_refl _)
  case hIxr => exact fun _ _ _ _ h _ => h
  case hAx =>
    rintro x a' s A C row ⟨B2, h2, r2, e⟩ hg hr
    exact ⟨B2, h2, row_turn r2 hg (fun r e => (hr r e).2), e⟩
  case assign =>
    intro l pre x W K hi hN hK
    simp only [dfV, syV]
    gi_wp2
    refine hK _ _ ((KeepsOthers.alloc W _).from _) ((Below.refl w.heap.size W).alloc (by have := hi.z; omega) _) (hi.turn (World.grownBy_alloc W _ none) (fun r e => by cases e) (Nat.le_refl _)) ⟨W.heap.size, by have := hi.z; omega, ?_, rfl⟩
    exact Row.new W _ _
  case body =>
    rintro l pre x a' W hi ⟨B2, h2, r2, rfl⟩ hN
    have hnl := names_len hnm hN
    have hpl : (allOf pre).length ≤ 1000000000 := by
      have h1 := allOf_len pre
      have h2 := hN.length_le
      rw [List.length_append, List.length_singleton] at h2
      omega
    have HSN := hid (allOf_snoc pre x)
    generalize hpd : allOf pre = pd at *
    have c1 := r2.cell 0 (by simp [syC])
    have c2 := hi.tb.cell 0 (by simp)
    simp only [syC, List.getElem_cons_zero, List.getElem_cons_succ] at c1 c2
    have hlook := hi.mp.look x.2.name (by unfold maxLen; omega)
    obtain ⟨v, hr0, ho0⟩ := hi.ob
    have HI := hid hi
    have HR2 := hid r2
    have HO := hid ho0
    have HR := hid hr0
    have HPL := hid hpl
    have HNL := hid hnl
    clear hpl hnl hpd hN
    unfold alA
    by_cases hn : x.2.name ∈ pd
    · rw [decide_eq_true hn] at hlook
      have HX := hid (HSN.out.trans (addOnce_in hn))
      clear hn hi r2 hI0 hrB ho0 hr0
      simp only [syV]
      gi_wp2_with fail
      refine ⟨KeepsFrom.refl _ _, Below.refl _ _, ?_⟩
      show AlI w.heap.size (allOf (pre ++ [x])) w W
      rw [HX.out]
      exact HI.out
    · rw [decide_eq_false hn] at hlook
      have HX := hid (HSN.out.trans (addOnce_out hn))
      obtain ⟨W1, hupd, hm1, hg1⟩ := hi.mp.put x.2.name (by have := HNL.out; unfold maxLen; omega) (by have := HPL.out; unfold maxLen; omega)
      obtain ⟨a9, c9, rfl, _⟩ := own_cel ho0
      have hz := hi.z
      have ho1 : OwnS W1 (w.heap.size + 4) (.slice a9 pd.length c9) pd := ho0.kept hg1 (.inr (own_ne ho0 (b := w.heap.size) (.inl (by omega))).symm)
      have HO1 := hid ho1
      have HR1 := hid (hr0.grown hg1 (by simp; omega))
      have hk1 := HR1.out.cell 0 (by simp)
      have hk2 := (r2.grown hg1 (by simp; omega)).cell 0 (by simp [syC])
      simp only [syC, List.getElem_cons_zero, List.getElem_cons_succ] at hk1 hk2
      have hl1 := HR1.out.lt
      have hl2 := (r2.grown hg1 (by simp; omega)).lt
      have hz1 : w.heap.size + 4 ≤ W1.heap.size := Nat.le_trans hz hg1.size
      have HM1 := hid hm1
      have HG1 := hid hg1
      have HPQ := hid (show pd.length ≤ 8000000000000 by have := HPL.out; omega)
      clear hn hi r2 hI0 hrB ho0 hr0 ho1 hm1 hg1
      simp only [syV]
      gi_wp2_with (gi_at_builtin; go_must (refine wpListIn_appS rfl _ _ rfl (w.heap.size + 4) (.slice a9 pd.length c9) pd (ba x.2.name) rfl rfl HO1.out HPQ.out hz1 ?_; intro v' w9 hown hgrow hb9 hz9 _; have HO9 := hid hown; have HG9 := hid hgrow; have HR9 := hid (HR1.out.below hb9 (by omega)); have hc9 := HR9.out.cell 0 (by simp); have hf9 := HR9.out.frozen 0; have hl9 := HR9.out.lt; have HB9 := hid hb9; obtain ⟨G8, c8, rfl, hq1, hq2, hq3, hq4⟩ := own_open hown (by omega); clear hown hgrow hb9 hz9; simp only [List.getElem_cons_zero] at hc9))
      exact al_round rfl hs2 HI.out HM1.out HG1.out HO1.out HO9.out HG9.out HB9.out HX.out
  case done =>
    rintro ys W rfl hi hK
    obtain ⟨v, hr0, ho0⟩ := hi.ob
    have k4 := hr0.cell 0 (by simp)
    simp only [List.getElem_cons_zero] at k4
    have HI := hid hi
    have HO := hid ho0
    have HK := hid hK
    clear hI0 hrB hi ho0 hr0
    go_wp2_with fail
    refine ⟨by simp, .inl ⟨_, _, rfl, run_takeDeferred HK.out, ?_⟩⟩
    refine ⟨_, results_tmp rfl _ _ _, v, rfl, ?_, ?_⟩
    · exact own_from (own_turn HO.out (grownBy_putObj' W _ _) (fun r e => by cases e; exact ⟨_, HK.out, rfl⟩)) (by omega)
    · exact HI.out.b.grown (grownBy_putObj' W _ _) HI.out.b.size (fun k e => by cases e; omega)
  case stop => exact fun c pre W _ h _ => h.elim
end Go.Proofs.Ytblefgkhikfmhaa
