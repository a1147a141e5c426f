/- Lists of texts of the call's own at this program: one text appended. -/
import Derived.Test.YtgclemicgcbpjaaE
import Derived.Test.YtgclemicgcbpjaaPM
import Derived.Maps.AppendAt
namespace Go.Proofs.Ytgclemicgcbpjaa
open Go.RowKit Go.Sort

abbrev OwnS (w : World) (base : Nat) (v : Value) (ds : List BL) : Prop := w.ownsRow base 9 1 v ds.length (strs ds)
theorem strsS_snoc (ds : List BL) (x : BL) : strs (ds ++ [x]) = strs ds ++ [.string (ba x)] := by simp [strs]
theorem strsS_app (a b : List BL) : strs (a ++ b) = strs a ++ strs b := by simp [strs]
theorem infoS : (Try.prog.info? 9).map (fun i => (i.zero, i.size, i.bytes)) = some (some (.string ByteArray.empty), 1, 16) := by kernel_rfl
theorem strsS_len (ds : List BL) : (strs ds).length = ds.length := by simp [strs]
theorem strsS_one (ds : List BL) : ∀ u ∈ strs ds, u.oneCell' = true := by
  intro u hu
  unfold strs at hu
  obtain ⟨x, _, rfl⟩ := List.mem_map.1 hu
  rfl
theorem ownS_nil (w : World) (base : Nat) : OwnS w base (.slice none 0 0) [] := World.ownsRow_nil _ _ _ _
theorem ownS_of {w : World} {base n : Nat} {v : Value} {ds ds' : List BL} (h : w.ownsRow base 9 1 v n (strs ds)) (e : ds = ds') : OwnS w base v ds' := by
  subst e
  have := h.1
  rw [strsS_len] at this
  exact own_ext h (by omega) rfl
theorem drewN_below (w : World) (n : Nat) : Below w.heap.size w (w.drewN n) := bdN (Below.refl _ w) n

/-- append(v, x), x a text that lies in a new block of its own. -/
theorem wpList_appS {w : World} {ops : Array Oper} {rest : List Oper} {o : Oper} {a : Act} {Q : Exit → Act → World → Prop} (hgd : o.guard = none) (s x : Operand)
    (ho : o.op = .call { callee := .builtin .append, args := #[s, x], argTypes := #[59, 59] })
    (base : Nat) (v : Value) (ds : List BL) (t : ByteArray) (hs : a.eval s = v) (hx : a.eval x = .slice (some ⟨w.heap.size, 0, none⟩) 1 1) (hown : OwnS w base v ds) (hn : ds.length ≤ 8000000000000) (hbase : base ≤ w.heap.size)
    (h : ∀ v' w', w'.ownsRow base 9 1 v' (ds.length + 1) (strs (ds ++ [t.data.toList])) → (w.alloc (.cells #[.string t] 9)).grownBy w' v.ownBlock → Below base w w' → w.heap.size ≤ w'.heap.size → (v'.ownBlock = v.ownBlock ∨ v'.ownBlock = some (w.heap.size + 1)) → wpList Try.prog ops Q rest (a.put o.dst v') w') :
    wpList Try.prog ops Q (o :: rest) a (w.alloc (.cells #[.string t] 9)) := by
  obtain ⟨i0, hi, hz0, hz1, hz2⟩ := info_parts infoS
  refine wpList_append_own_at _ hgd s x 59 ho base 9 i0 (.string ByteArray.empty) 1 16 Try.underlying59 hi hz0 hz1 hz2 rfl (by decide) v ds.length (strs ds) hs (hown.alloc _) ⟨w.heap.size, 0, none⟩ 1 1 [.string t] hx rfl (news_one w (.string t) 9) (by intro u hu; rw [List.mem_singleton.1 hu]; rfl)
    (by unfold maxLen; omega) (by omega) (by simp only [World.size_alloc]; omega) ?_
  intro v' w' hown' hgrow _ hat
  refine h v' w' (own_ext hown' rfl (by rw [strsS_snoc]; rfl)) hgrow (((Below.refl _ w).alloc hbase _).grown hgrow (by simp only [World.size_alloc]; omega) (fun k hk => own_low hown (Nat.le_refl _) k hk)) (by have := hgrow.size; simp only [World.size_alloc] at this; omega) ?_
  rcases hat with h1 | h1
  · exact .inl h1
  · right; rw [h1]; simp
end Go.Proofs.Ytgclemicgcbpjaa
