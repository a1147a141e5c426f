
/- envs.List. -/
import Derived.Test.YtnepccjcjkeneaaZC0
import Derived.Maps.OwnIn
namespace Go.Proofs.Ytnepccjcjkeneaa
open Go.RowKit Go.Sort Go.Shelf
attribute [local go_sem] Oper.semAt_some

/-- What List's loop keeps: its variable's box at g; the pieces so far. -/
def liJ (g base : Nat) (w0 : World) (pre : List BL) (w : World) : Prop := ∃ v, Row w g 58 [v] ∧ OwnS w base v (pre.map dotP) ∧ Below w0.heap.size w0 w ∧ w0.heap.size ≤ g ∧ g < base ∧ base ≤ w.heap.size
theorem liJ_own {g base M : Nat} {w0 : World} (hM : base ≤ M) : OwnFrom M (liJ g base w0) := by
  rintro s W W' row ⟨v, hr, ho, hb, h1, h2, h3⟩ hg hrow
  refine ⟨v, hr.grown hg (fun e => ?_), own_turnG ho hg (fun r e => (hrow r e).2), hb.grown hg hb.size (fun k e => ?_), h1, h2, Nat.le_trans h3 hg.size⟩
  · have := (hrow g e.symm).1; omega
  · have := (hrow k e).1; omega
theorem liJ_step {g base B : Nat} {w0 : World} (hgB : g ≠ B) (hB : B < base) (hw : w0.heap.size ≤ B) : ∀ s A C, liJ g base w0 s A → A.grownBy C (some B) → liJ g base w0 s C := by
  rintro s A C ⟨v, hr, ho, hb, h1, h2, h3⟩ hg
  refine ⟨v, hr.grown hg (fun e => hgB (Option.some.inj e)), ho.kept hg ?_, hb.grown hg hb.size (fun k e => ?_), h1, h2, Nat.le_trans h3 hg.size⟩
  · right; exact fun e => own_ne ho (.inl hB) e.symm
  · cases e; exact hw

/-- What a round of List's loop has done. -/
theorem li_round {w w2 W w9 : World} {g base n c9 c8 G8 : Nat} {a9 : Option Addr} {pre pd : List BL} {x t : BL} {o : Obj} (hpd : pre.map dotP = pd) (ho : OwnS W base (.slice a9 pd.length c9) pd) (hr : Row W g 58 [.slice a9 pd.length c9])
    (hnb : some (g + 1) ≠ (Value.slice a9 pd.length c9).ownBlock) (hne : some g ≠ (Value.slice a9 pd.length c9).ownBlock)
    (ho9 : w9.ownsRow base 9 1 (.slice (some ⟨G8, 0, none⟩) n c8) n (strs (pd ++ [t]))) (hg : (W.alloc o).grownBy w9 (Value.slice a9 pd.length c9).ownBlock) (hr9 : Row w9 g 58 [.slice a9 pd.length c9])
    (hb : Below w.heap.size w w9) (hgW : g + 1 < W.heap.size) (h1 : w.heap.size ≤ g) (h2 : g < base) (h3 : base ≤ w9.heap.size) (hs2 : w2.heap.size = g + 2) (hgg : g + 2 ≤ base + 2) (ht : t = dotP x) :
    ownPostG w2.heap.size (fun A C => C.heap[g + 1]? = A.heap[g + 1]?) (liJ g base w) (fun _ _ _ => False) (pre ++ [x]) W .normal { tmps := #[], defers := [] } (w9.setCell ⟨g, 0, none⟩ (.slice (some ⟨G8, 0, none⟩) n c8)) := by
  subst ht
  refine ⟨?_, ?_, ⟨_, hr9.set 0 _, ?_, bset hb h1 _, h1, h2, by rw [World.size_setCell]; exact h3⟩⟩
  · exact (((KeepsOthers.alloc W o).trans (KeepsOthers.of_grownBy hg (fun j q ej hj => own_isCells (ho.alloc o) j q ej hj))).trans (KeepsOthers.setCell _ _ _)).from _
  · show (w9.setCell ⟨g, 0, none⟩ _).heap[g + 1]? = W.heap[g + 1]?
    rw [heap_setCell_other _ ⟨g, 0, none⟩ _ _ (by simp), hg.block _ (by rw [World.size_alloc]; omega) hnb, heap_alloc_old W o hgW]
  · have e : (pre ++ [x]).map dotP = pd ++ [dotP x] := by rw [← hpd]; simp
    rw [e]
    refine own_setOther (ownS_of ho9 rfl) ?_ _
    exact own_row_ne ho9 hr9 (by decide)

theorem cst_len58 (l : BL) : (cst 58 l).1.length ≤ l.length := by
  have h := tot_cuts 58 l
  have h2 : ∀ ds : List BL, ds.length ≤ tot ds := by
    intro ds
    induction ds with
    | nil => simp [tot]
    | cons q ds ih => unfold tot at ih ⊢; simp only [List.map_cons, List.sum_cons, List.length_cons]; omega
  have h3 := h2 (cuts 58 l)
  unfold cuts at h3 h
  rw [List.length_append, List.length_singleton] at h3
  omega

theorem list_nil (w : World) :
    Calls Try.prog 51 #[.string (ba [])] w (OwnPost w (listL [])) := by
  have q : (ba []).toList.isEmpty = true := by rw [ba_nil]; rfl
  go_enter Try.func51, Try.ntmps51
  go_wp2_with fail
  go_ret
  exact ⟨_, rfl, ownS_nil _ _, Below.refl _ _⟩

theorem list_any1 (v : ByteArray) (w : World) (hv : v.size ≤ 1000000) (hne : v.data.toList ≠ []) :
    Calls Try.prog 51 #[.string v] w (OwnPost w (listL v.data.toList)) := by
  have q : v.toList.isEmpty = false := by rw [ba_nil]; exact decide_eq_false hne
  refine (callsIn_wide (n := 9)).1 ?_
  refine callsIn_of_wp_marks Try.func51 rfl trivial ?_ rfl
  simp only [Try.ntmps51, List.size_toArray, List.length_cons, List.length_nil, Nat.reduceAdd, Nat.reduceSub, Array.replicate_succ, Array.replicate_zero, List.push_toArray, List.append_toArray, List.nil_append, List.cons_append]
  refine wpIn_wide.2 ?_
  go_wp2_with fail
  refine (pieces_any _ _).mono ?_
  rintro e' w2 ⟨rfl, hw2⟩
  have hr0 : Row w2 w.heap.size 58 [.slice none 0 0] := by rw [hw2]; exact (Row.new w _ _).alloc _
  have hrB : Row w2 (w.heap.size + 1) 9 [.string v] := by
    rw [hw2]
    have := Row.new (w.alloc (.cells #[.slice none 0 0] 58)) 9 [.string v]
    rwa [World.size_alloc] at this
  have hb2 : Below w.heap.size w w2 := by rw [hw2]; exact (bal _).alloc (by simp only [World.size_alloc]; omega) _
  have hs2 : w2.heap.size = w.heap.size + 2 := by rw [hw2]; simp only [World.size_alloc]
  rw [World.size_alloc]
  clear hw2
  go_wp2_with fail
  have HLV := hid (show (cuts 58 v.data.toList).length ≤ 1000001 by
    have := cst_len58 v.data.toList
    rw [size_list] at this
    unfold cuts; rw [List.length_append, List.length_singleton]; omega)
  have HLI := hid (show listL v.data.toList = (cuts 58 v.data.toList).map dotP by unfold listL; rw [if_neg hne])
  refine wp_range_mine (α := BL) (gf := 84) (lb := #[.pointer (some ⟨w.heap.size + 1, 0, none⟩)]) rfl (enters_of Try.func84 (by kernel_rfl) rfl)
    (pieces_seq v.data.toList (w.heap.size + 1) w2 (by rw [size_list]; exact hv) hrB) (fun r e => by cases e; omega) (fun A B C h k => k.trans h) (fun W l o' h1 _ => World.putObj_heap_other (by omega)) (fun _ => rfl)
    (liJ w.heap.size (w.heap.size + 2) w) (fun _ _ _ => False) (liJ_own (by omega)) (fun _ _ _ _ _ h _ _ => h) (liJ_step (by omega) (by omega) (by omega)) (fun _ _ _ _ h _ => h)
    ⟨_, hr0, ownS_nil _ _, hb2, Nat.le_refl _, by omega, by omega⟩
    (fun x => { tmps := #[.string v, undef, .slice none 0 0, .pointer (some ⟨w.heap.size, 0, none⟩), .string (ba x), .string v, .bool false, .string v, .func (.func 84) #[] #[.pointer (some ⟨w.heap.size + 1, 0, none⟩)], .string (ba x), undef, undef, undef, undef, undef, undef, undef], defers := [] }) ?assign ?body ?done ?stop
  case assign =>
    intro l x W K hK
    gi_wp2
    exact hK
  case stop => exact fun c pre W _ h _ => h.elim
  case body =>
    rintro l pre x W ⟨v', hr, ho, hb, h1, h2, h3⟩ hN
    have HLP := hid (show (pre.map dotP).length ≤ 8000000000000 by have := HLV.out; rw [List.length_map]; omega)
    generalize hpd : pre.map dotP = pd at *
    have HPD := hid hpd
    have HO := hid ho
    have HR := hid hr
    have HB := hid hb
    have hc := hr.cell 0 (by simp)
    simp only [List.getElem_cons_zero] at hc
    have hlt := hr.lt
    have e1 : (ba x).toList.isEmpty = decide (x = []) := ba_nil (ba x)
    obtain ⟨a9, c9, rfl, _⟩ := own_cel ho
    have HNE := hid (own_row_ne ho hr (by decide))
    have HNB := hid (own_ne ho (b := w.heap.size + 1) (.inl (by omega)))
    have HE := hid (show dotP x = if x = [] then [46] else x from rfl)
    clear hr ho hb hr0 hrB hpd
    by_cases hx : x = []
    · rw [decide_eq_true hx] at e1
      have HTX := hid (show (ba [46]).data.toList = dotP x by rw [HE.out, if_pos hx]; rfl)
      clear hx HE
      gi_wp2_with (gi_at_builtin; go_must (refine wpListIn_appS rfl _ _ rfl (w.heap.size + 2) (.slice a9 pd.length c9) pd (ba [46]) rfl rfl HO.out HLP.out h3 ?_; intro v' w9 hown hgrow hb9 hz9 _; have HO9 := hid hown; have HG9 := hid hgrow; have HR9 := hid (((HR.out.alloc _).grown hgrow HNE.out)); have hc9 := HR9.out.cell 0 (by simp); have hf9 := HR9.out.frozen 0; have hl9 := HR9.out.lt; have HB9 := hid (HB.out.trans (hb9.mono (by omega))); have HZ9 := hid hz9; obtain ⟨G8, c8, rfl, hq1, hq2, hq3, hq4⟩ := own_open hown (by omega); clear hown hgrow hb9 hz9; simp only [List.getElem_cons_zero] at hc9))
      exact li_round HPD.out HO.out HR.out HNB.out HNE.out HO9.out HG9.out HR9.out HB9.out (by omega) h1 h2 (by have := HZ9.out; omega) hs2 (by omega) HTX.out
    · rw [decide_eq_false hx] at e1
      have HTX := hid (show (ba x).data.toList = dotP x by rw [HE.out, if_neg hx]; rfl)
      clear hx HE
      gi_wp2_with (gi_at_builtin; go_must (refine wpListIn_appS rfl _ _ rfl (w.heap.size + 2) (.slice a9 pd.length c9) pd (ba x) rfl rfl HO.out HLP.out h3 ?_; intro v' w9 hown hgrow hb9 hz9 _; have HO9 := hid hown; have HG9 := hid hgrow; have HR9 := hid (((HR.out.alloc _).grown hgrow HNE.out)); have hc9 := HR9.out.cell 0 (by simp); have hf9 := HR9.out.frozen 0; have hl9 := HR9.out.lt; have HB9 := hid (HB.out.trans (hb9.mono (by omega))); have HZ9 := hid hz9; obtain ⟨G8, c8, rfl, hq1, hq2, hq3, hq4⟩ := own_open hown (by omega); clear hown hgrow hb9 hz9; simp only [List.getElem_cons_zero] at hc9))
      exact li_round HPD.out HO.out HR.out HNB.out HNE.out HO9.out HG9.out HR9.out HB9.out (by omega) h1 h2 (by have := HZ9.out; omega) hs2 (by omega) HTX.out
  case done =>
    rintro xs W rfl ⟨v', hr, ho, hb, h1, h2, h3⟩ hK
    have hc := hr.cell 0 (by simp)
    simp only [List.getElem_cons_zero] at hc
    have HO := hid ho
    have HB := hid hb
    have HK := hid hK
    clear ho hb hr0 hrB hr
    go_wp2_with fail
    refine ⟨by simp, .inl ⟨_, _, rfl, run_takeDeferred HK.out, ?_⟩⟩
    refine ⟨_, results_tmp rfl _ _ _, v', rfl, ?_, ?_⟩
    · rw [HLI.out]
      exact own_from (own_turnG HO.out (grownBy_putObj' W _ _) (fun r e => by cases e; exact ⟨_, HK.out, rfl⟩)) (by omega)
    · exact HB.out.grown (grownBy_putObj' W _ _) HB.out.size (fun k e => by cases e; omega)
end Go.Proofs.Ytnepccjcjkeneaa
