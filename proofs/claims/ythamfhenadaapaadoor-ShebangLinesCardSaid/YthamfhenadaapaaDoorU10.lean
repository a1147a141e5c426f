
/- Stage 21: what is too large; the reference's Argv. -/
import Derived.Test.YthamfhenadaapaaDoorU2
import Derived.Test.YthamfhenadaapaaDoorUC
namespace Go.Proofs.YthamfhenadaapaaDoor
open Go.RowKit Go.Sort
attribute [local go_sem] Oper.semAt_some

def totN (ds : List BL) : Nat := (ds.map fun p => p.length + 1).sum
theorem totN_snoc (ds : List BL) (p : BL) : totN (ds ++ [p]) = totN ds + (p.length + 1) := by simp [totN]
theorem totN_mem {ds : List BL} {p : BL} (h : p ∈ ds) : p.length + 1 ≤ totN ds := by
  induction ds with
  | nil => simp at h
  | cons q ds ih =>
    unfold totN at ih ⊢
    simp only [List.map_cons, List.sum_cons]
    rcases List.mem_cons.1 h with rfl | h
    · omega
    · have := ih h; omega
theorem totN_len (ds : List BL) : ds.length ≤ totN ds := by
  induction ds with
  | nil => simp [totN]
  | cons q ds ih => unfold totN at ih ⊢; simp only [List.map_cons, List.sum_cons, List.length_cons]; omega
theorem totN_sub {ds es : List BL} (h : ds.Sublist es) : totN ds ≤ totN es := by
  induction h with
  | slnil => simp
  | cons a _ ih => unfold totN at ih ⊢; simp only [List.map_cons, List.sum_cons]; omega
  | cons_cons a _ ih => unfold totN at ih ⊢; simp only [List.map_cons, List.sum_cons]; omega
def LargePost (ds : List BL) (w : World) (e : Ending) (w' : World) : Prop := w = w' ∧ ∃ b, e = .returned (.bool b) ∧ (b = false → totN ds ≤ 65536)
theorem large_ret {ds : List BL} {w : World} {b : Bool} (h : b = false → totN ds ≤ 65536) : LargePost ds w (.returned (.bool b)) w := ⟨rfl, b, rfl, h⟩

theorem wpList_appSN {w : World} {ops : Array Oper} {rest : List Oper} {o : Oper} {a : Act} {Q : Exit → Act → World → Prop} (hgd : o.guard = none) (s x : Operand)
    (ho : o.op = .call { callee := .builtin .append, args := #[s, x], argTypes := #[41, 41] }) (N : Nat) (hN : w.heap.size = N)
    (base : Nat) (v : Value) (ds : List BL) (t : ByteArray) (hs : a.eval s = v) (hx : a.eval x = .slice (some ⟨N, 0, none⟩) 1 1) (hown : OwnS w base v ds) (hn : ds.length ≤ 8000000000000) (hbase : base ≤ w.heap.size)
    (h : ∀ v' w', w'.ownsRow base 9 1 v' (ds.length + 1) (strs (ds ++ [t.data.toList])) → (w.alloc (.cells #[.string t] 9)).grownBy w' v.ownBlock → Below base w w' → w.heap.size ≤ w'.heap.size → (v'.ownBlock = v.ownBlock ∨ v'.ownBlock = some (w.heap.size + 1)) → wpList Tryd.prog ops Q rest (a.put o.dst v') w') :
    wpList Tryd.prog ops Q (o :: rest) a (w.alloc (.cells #[.string t] 9)) := by
  subst hN
  exact wpList_appS hgd s x ho base v ds t hs hx hown hn hbase h

end Go.Proofs.YthamfhenadaapaaDoor
