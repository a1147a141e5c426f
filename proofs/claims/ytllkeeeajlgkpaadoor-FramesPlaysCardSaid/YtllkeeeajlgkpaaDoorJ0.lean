
/- Frames in memory: their bytes, and how often each is pointed to; what stands while two blocks turn. No program is named. -/
import Derived.Test.YtllkeeeajlgkpaaDoorKA
import Derived.Deep.MidRow
import Derived.Laws.BitsAllLaws
import Derived.Laws.CopyOwn
namespace Go.Proofs.YtllkeeeajlgkpaaDoor
open Go.RowKit Go.Sort

/-- All but two blocks stand. -/
structure Ex (w w' : World) (a b : Nat) : Prop where
  os : w'.os = w.os
  tape : w'.tape = w.tape
  output : w'.output = w.output
  size : w.heap.size ≤ w'.heap.size
  block : ∀ k, k < w.heap.size → k ≠ a → k ≠ b → w'.heap[k]? = w.heap[k]?
section
variable {w w' w2 : World} {a b : Nat}
theorem Ex.refl (w : World) (a b : Nat) : Ex w w a b := ⟨rfl, rfl, rfl, Nat.le_refl _, fun _ _ _ _ => rfl⟩
theorem Ex.trans (h : Ex w w' a b) (k : Ex w' w2 a b) : Ex w w2 a b :=
  ⟨k.os.trans h.os, k.tape.trans h.tape, k.output.trans h.output, Nat.le_trans h.size k.size, fun j hj h1 h2 => (k.block j (Nat.lt_of_lt_of_le hj h.size) h1 h2).trans (h.block j hj h1 h2)⟩
theorem Ex.of_below (h : Below w.heap.size w w') : Ex w w' a b := ⟨h.os, h.tape, h.output, h.size, fun k hk _ _ => h.block k hk⟩
theorem Ex.below {B : Nat} {w0 : World} (h : Ex w w' a b) (hb : Below B w0 w) (ha : B ≤ a) (hb' : B ≤ b) (hB : B ≤ w.heap.size) : Below B w0 w' :=
  hb.trans ⟨h.os, h.tape, h.output, h.size, fun k hk => h.block k (by omega) (by omega) (by omega)⟩
theorem Ex.drewN (h : Ex w w' a b) (n : Nat) : Ex w (w'.drewN n) a b := h.trans (Ex.of_below (bdN (Below.refl _ _) n))
theorem Ex.alloc (h : Ex w w' a b) (o : Obj) : Ex w (w'.alloc o) a b := h.trans (Ex.of_below (bal o))
theorem Ex.row {g : Nat} {E : TypeId} {cs : List Value} (h : Ex w w' a b) (hr : Row w g E cs) (h1 : g ≠ a) (h2 : g ≠ b) : Row w' g E cs := ⟨by rw [h.block g hr.lt h1 h2]; exact hr.heap⟩
theorem Ex.cell {x : Addr} {v : Value} (h : Ex w w' a b) (hc : w.cell? x = some v) (h1 : x.block ≠ a) (h2 : x.block ≠ b) : w'.cell? x = some v := by
  have hl := World.block_lt_of_cell? w x hc
  unfold World.cell? at hc ⊢
  rw [h.block _ hl h1 h2]
  exact hc
theorem Ex.own {base E size n : Nat} {v : Value} {xs : List Value} (h : Ex w w' a b) (ho : w.ownsRow base E size v n xs) (h1 : v.ownBlock ≠ some a) (h2 : v.ownBlock ≠ some b) : w'.ownsRow base E size v n xs := by
  refine ⟨ho.1, ?_⟩
  rcases ho.2 with hn | ⟨g, cap, cur, rfl, hb, hg, r⟩
  · exact .inl hn
  · exact .inr ⟨g, cap, cur, rfl, hb, by rw [h.block g (Array.getElem?_eq_some_iff.1 hg).1 (by rintro rfl; exact h1 rfl) (by rintro rfl; exact h2 rfl)]; exact hg, r⟩
theorem Ex.byt {ad : Option Addr} {len : Nat} {l : List UInt8} (h : Ex w w' a b) (hb : Byt w ad len l) (hn : ∀ x, ad = some x → x.block ≠ a ∧ x.block ≠ b) : Byt w' ad len l :=
  ⟨hb.hlen, fun i hi => by
    obtain ⟨g, off, e, hc⟩ := hb.cell i hi
    exact ⟨g, off, e, h.cell hc (hn _ e).1 (hn _ e).2⟩⟩
theorem Ex.cel {ad : Option Addr} {len : Nat} {l : List Value} (h : Ex w w' a b) (hb : Cel w ad len l) (hn : ∀ x, ad = some x → x.block ≠ a ∧ x.block ≠ b) : Cel w' ad len l :=
  ⟨hb.hlen, fun i hi => by
    obtain ⟨g, off, e, hc⟩ := hb.cell i hi
    exact ⟨g, off, e, h.cell hc (hn _ e).1 (hn _ e).2⟩⟩
theorem Ex.nums {k : IntKind} {ad : Option Addr} {len : Nat} {l : List Int} (h : Ex w w' a b) (hb : Nums w k ad len l) (hn : ∀ x, ad = some x → x.block ≠ a ∧ x.block ≠ b) : Nums w' k ad len l :=
  ⟨hb.hlen, fun i hi => by
    obtain ⟨g, off, e, hc⟩ := hb.cell i hi
    exact ⟨g, off, e, h.cell hc (hn _ e).1 (hn _ e).2⟩⟩
theorem Ex.set (w : World) (g o : Nat) (u : Value) (h : g = a ∨ g = b) : Ex w (w.setCell ⟨g, o, none⟩ u) a b :=
  ⟨rfl, rfl, rfl, by simp, fun k _ h1 h2 => heap_setCell_other w _ k u (by rcases h with rfl | rfl <;> assumption)⟩
theorem Ex.setRow (w : World) (g : Nat) (cs : Array Value) (h : g = a ∨ g = b) : Ex w (w.setRow g cs) a b :=
  ⟨rfl, rfl, rfl, by simp [World.setRow], fun k _ h1 h2 => setRow_other w g k cs (by rcases h with rfl | rfl <;> assumption)⟩
end

theorem Row.setRow {w : World} {g : Nat} {E : TypeId} {cs cs' : List Value} (h : Row w g E cs) : Row (w.setRow g cs'.toArray) g E cs' := ⟨setRow_heap w g _ _ E _ h.heap⟩

theorem splice_get {α : Type} (L vs : List α) (o i : Nat) (h : o + vs.length ≤ L.length) : (splice L o vs)[i]? = if i < o then L[i]? else if i < o + vs.length then vs[i - o]? else L[i]? := by
  unfold splice
  have h1 : (L.take o).length = o := by simp; omega
  by_cases c1 : i < o
  · rw [if_pos c1, List.getElem?_append_left (by omega), List.getElem?_take, if_pos c1]
  · rw [if_neg c1, List.getElem?_append_right (by omega), h1]
    by_cases c2 : i < o + vs.length
    · rw [if_pos c2, List.getElem?_append_left (by omega)]
    · rw [if_neg c2, List.getElem?_append_right (by omega), List.getElem?_drop]
      congr 1
      omega
theorem set_splice {α : Type} (L : List α) (k : Nat) (v : α) (h : k < L.length) : L.set k v = splice L k [v] := by
  apply List.ext_getElem?
  intro i
  rw [splice_get L [v] k i (by simp; omega), List.getElem?_set]
  by_cases c : k = i
  · subst c; simp [h]
  · by_cases c1 : i < k
    · simp [c, c1]
    · have : ¬ i < k + 1 := by omega
      simp [c, c1, this]
theorem splice_cons {α : Type} (L : List α) (o : Nat) (v : α) (vs : List α) (h : o + (v :: vs).length ≤ L.length) : splice (L.set o v) (o + 1) vs = splice L o (v :: vs) := by
  simp only [List.length_cons] at h
  apply List.ext_getElem?
  intro i
  rw [splice_get _ vs (o + 1) i (by simp; omega), splice_get L (v :: vs) o i (by simp; omega), List.getElem?_set]
  simp only [List.length_cons]
  by_cases c0 : i < o
  · have : ¬ o = i := by omega
    simp [c0, this, Nat.lt_succ_of_lt c0]
  · by_cases c1 : i = o
    · subst c1
      simp
      omega
    · have e1 : ¬ i < o + 1 := by omega
      have e3 : ¬ o = i := by omega
      have e4 : i - o = (i - (o + 1)) + 1 := by omega
      by_cases c2 : i < o + 1 + vs.length
      · have : i < o + (vs.length + 1) := by omega
        simp [c0, e1, c2, this, e4]
      · have : ¬ i < o + (vs.length + 1) := by omega
        simp [c0, e1, c2, this, e3]
theorem splice_nil {α : Type} (L : List α) (o : Nat) : splice L o [] = L := by unfold splice; simp
theorem splice_mid {α : Type} (A M B vs : List α) (o : Nat) (h : o + vs.length ≤ M.length) : splice (A ++ (M ++ B)) (A.length + o) vs = A ++ (splice M o vs ++ B) := by
  apply List.ext_getElem?
  intro i
  rw [splice_get _ _ _ _ (by simp; omega)]
  by_cases c1 : i < A.length
  · rw [if_pos (by omega), List.getElem?_append_left c1, List.getElem?_append_left c1]
  · rw [List.getElem?_append_right (l₁ := A) (l₂ := M ++ B) (by omega), List.getElem?_append_right (l₁ := A) (l₂ := splice M o vs ++ B) (by omega)]
    have hl : (splice M o vs).length = M.length := length_splice M o vs h
    by_cases c2 : i - A.length < M.length
    · rw [List.getElem?_append_left c2, List.getElem?_append_left (by omega), splice_get M vs o _ h]
      by_cases c3 : i < A.length + o
      · rw [if_pos c3, if_pos (by omega)]
      · rw [if_neg c3, if_neg (show ¬ i - A.length < o by omega)]
        by_cases c4 : i < A.length + o + vs.length
        · rw [if_pos c4, if_pos (show i - A.length < o + vs.length by omega)]
          congr 1
          omega
        · rw [if_neg c4, if_neg (show ¬ i - A.length < o + vs.length by omega)]
    · rw [List.getElem?_append_right (l₁ := M) (by omega), List.getElem?_append_right (l₁ := splice M o vs) (by omega), if_neg (by omega), if_neg (by omega), hl]

/-- Many cells of a row written. -/
theorem setCells_block (w : World) (g k : Nat) (h : k ≠ g) : ∀ (vs : List Value) (o : Nat) (w : World), (w.setCells g o vs).heap[k]? = w.heap[k]?
  | [], _, _ => rfl
  | v :: vs, o, w => by
    rw [World.setCells, setCells_block w g k h vs]
    exact heap_setCell_other w _ k v h
theorem setCells_size (g : Nat) : ∀ (vs : List Value) (o : Nat) (w : World), (w.setCells g o vs).heap.size = w.heap.size
  | [], _, _ => rfl
  | v :: vs, o, w => by rw [World.setCells, setCells_size g vs]; simp
theorem Row.setCells {g : Nat} {E : TypeId} : ∀ (vs : List Value) (o : Nat) (w : World) (cs : List Value), Row w g E cs → o + vs.length ≤ cs.length → Row (w.setCells g o vs) g E (splice cs o vs)
  | [], o, w, cs, h, _ => by rw [splice_nil]; exact h
  | v :: vs, o, w, cs, h, hl => by
    rw [World.setCells, ← splice_cons cs o v vs hl]
    exact Row.setCells vs (o + 1) _ _ (h.set o v) (by simp at hl ⊢; omega)
theorem setCells_rest (g : Nat) : ∀ (vs : List Value) (o : Nat) (w : World), (w.setCells g o vs).os = w.os ∧ (w.setCells g o vs).tape = w.tape ∧ (w.setCells g o vs).output = w.output
  | [], _, _ => ⟨rfl, rfl, rfl⟩
  | v :: vs, o, w => by rw [World.setCells]; exact setCells_rest g vs (o + 1) _
theorem Ex.setCells {a b : Nat} (w : World) (g o : Nat) (vs : List Value) (h : g = a ∨ g = b) : Ex w (w.setCells g o vs) a b := by
  obtain ⟨h1, h2, h3⟩ := setCells_rest g vs o w
  exact ⟨h1, h2, h3, by rw [setCells_size]; exact Nat.le_refl _, fun k _ k1 k2 => setCells_block w g k (by rcases h with rfl | rfl <;> assumption) vs o w⟩

structure FR where
  bs : List Int
  cnt : Int
instance : Inhabited FR := ⟨⟨[], 0⟩⟩
def fr0 : FR := ⟨List.replicate 4096 0, 0⟩
def frC (x : FR) : List Value := x.bs.map (Value.int .u8) ++ [.int .i64 x.cnt]
def FsOk (fs : List FR) : Prop := ∀ x ∈ fs, x.bs.length = 4096
theorem frC_len {x : FR} (h : x.bs.length = 4096) : (frC x).length = 4097 := by simp [frC, h]
def flatF (fs : List FR) : List Value := fs.flatMap frC
theorem flatF_cons (x : FR) (l : List FR) : flatF (x :: l) = frC x ++ flatF l := rfl
theorem flatF_app (a b : List FR) : flatF (a ++ b) = flatF a ++ flatF b := by simp [flatF]
theorem flatF_len : ∀ {fs : List FR}, FsOk fs → (flatF fs).length = fs.length * 4097
  | [], _ => rfl
  | x :: fs, h => by
    rw [flatF_cons, List.length_append, frC_len (h x (by simp)), flatF_len (fun y hy => h y (List.mem_cons_of_mem _ hy)), List.length_cons]
    omega
theorem flatF_split (fs : List FR) (f : Nat) (hf : f < fs.length) : flatF fs = flatF (fs.take f) ++ (frC fs[f] ++ flatF (fs.drop (f + 1))) := by
  have e : fs = fs.take f ++ (fs[f] :: fs.drop (f + 1)) := by simp
  calc flatF fs = flatF (fs.take f ++ (fs[f] :: fs.drop (f + 1))) := by rw [← e]
    _ = _ := by rw [flatF_app, flatF_cons]
theorem flatF_set (fs : List FR) (f : Nat) (y : FR) (hf : f < fs.length) : flatF (fs.set f y) = flatF (fs.take f) ++ (frC y ++ flatF (fs.drop (f + 1))) := by
  rw [List.set_eq_take_append_cons_drop, if_pos hf, flatF_app, flatF_cons]
theorem FsOk.take {fs : List FR} (h : FsOk fs) (k : Nat) : FsOk (fs.take k) := fun x hx => h x (List.mem_of_mem_take hx)
theorem FsOk.set {fs : List FR} (h : FsOk fs) (k : Nat) {y : FR} (hy : y.bs.length = 4096) : FsOk (fs.set k y) := fun x hx => by
  rcases List.mem_or_eq_of_mem_set hx with hx | rfl
  · exact h x hx
  · exact hy
theorem flatF_pre {fs : List FR} (h : FsOk fs) (f : Nat) (hf : f < fs.length) : (flatF (fs.take f)).length = f * 4097 := by
  rw [flatF_len (h.take f)]; simp; omega
theorem flatF_at {fs : List FR} (h : FsOk fs) (f j : Nat) (hf : f < fs.length) (hj : j < 4097) : (flatF fs)[f * 4097 + j]? = (frC fs[f])[j]? := by
  have h1 := flatF_pre h f hf
  have h2 := frC_len (h _ (List.getElem_mem hf))
  rw [flatF_split fs f hf, List.getElem?_append_right (by omega), h1, List.getElem?_append_left (by omega)]
  congr 1
  omega
theorem flatF_cnt {fs : List FR} (h : FsOk fs) (f : Nat) (hf : f < fs.length) : (flatF fs)[f * 4097 + 4096]? = some (.int .i64 fs[f].cnt) := by
  rw [flatF_at h f 4096 hf (by omega)]
  have := h _ (List.getElem_mem hf)
  simp [frC, this]
theorem flatF_byte {fs : List FR} (h : FsOk fs) (f j : Nat) (hf : f < fs.length) (hj : j < 4096) : (flatF fs)[f * 4097 + j]? = (fs[f].bs[j]?).map (Value.int .u8) := by
  rw [flatF_at h f j hf (by omega)]
  have := h _ (List.getElem_mem hf)
  simp only [frC]
  rw [List.getElem?_append_left (by simp [this]; omega), List.getElem?_map]
theorem flatF_splice {fs : List FR} (h : FsOk fs) (f o : Nat) (vs : List Value) (hf : f < fs.length) (ho : o + vs.length ≤ 4097) : splice (flatF fs) (f * 4097 + o) vs = flatF (fs.take f) ++ (splice (frC fs[f]) o vs ++ flatF (fs.drop (f + 1))) := by
  have h2 := frC_len (h _ (List.getElem_mem hf))
  rw [flatF_split fs f hf, ← flatF_pre h f hf]
  exact splice_mid _ _ _ _ _ (by omega)
theorem splice_cnt (x : FR) (h : x.bs.length = 4096) (c : Int) : splice (frC x) 4096 [.int .i64 c] = frC ⟨x.bs, c⟩ := by
  unfold splice frC
  have : (x.bs.map (Value.int .u8)).length = 4096 := by simp [h]
  rw [List.take_append_of_le_length (by omega), List.take_of_length_le (by omega)]
  simp [this, h]
theorem splice_bytes (x : FR) (h : x.bs.length = 4096) (o : Nat) (l : List Int) (ho : o + l.length ≤ 4096) : splice (frC x) o (l.map (Value.int .u8)) = frC ⟨splice x.bs o l, x.cnt⟩ := by
  have h1 : (x.bs.map (Value.int .u8)).length = 4096 := by simp [h]
  unfold frC
  have := splice_mid [] (x.bs.map (Value.int .u8)) [.int .i64 x.cnt] (l.map (Value.int .u8)) o (by simp [h]; exact ho)
  simp only [List.nil_append, List.length_nil, Nat.zero_add] at this
  rw [this]
  congr 1
  unfold splice
  simp [List.map_take, List.map_drop]
theorem splice_all {α : Type} (L vs : List α) (h : L.length = vs.length) : splice L 0 vs = vs := by
  unfold splice; simp [← h]
/-- A frame turned. -/
theorem flatF_count {fs : List FR} (h : FsOk fs) (f : Nat) (c : Int) (hf : f < fs.length) : (flatF fs).set (f * 4097 + 4096) (.int .i64 c) = flatF (fs.set f ⟨fs[f].bs, c⟩) := by
  have hl := flatF_len h
  have h2 := h _ (List.getElem_mem hf)
  have : f * 4097 + 4096 < (flatF fs).length := by rw [hl]; have : (f + 1) * 4097 ≤ fs.length * 4097 := Nat.mul_le_mul_right _ hf; omega
  rw [set_splice _ _ _ this, flatF_splice h f 4096 _ hf (by simp), splice_cnt _ h2, flatF_set fs f _ hf]
theorem flatF_frame {fs : List FR} (h : FsOk fs) (f : Nat) (y : FR) (hy : y.bs.length = 4096) (hf : f < fs.length) : splice (flatF fs) (f * 4097) (frC y) = flatF (fs.set f y) := by
  have := flatF_splice h f 0 (frC y) hf (by rw [frC_len hy]; omega)
  rw [Nat.add_zero] at this
  rw [this, splice_all _ _ (by rw [frC_len hy, frC_len (h _ (List.getElem_mem hf))]), flatF_set fs f _ hf]
theorem flatF_bytes {fs : List FR} (h : FsOk fs) (f o : Nat) (l : List Int) (ho : o + l.length ≤ 4096) (hf : f < fs.length) : splice (flatF fs) (f * 4097 + o) (l.map (Value.int .u8)) = flatF (fs.set f ⟨splice fs[f].bs o l, fs[f].cnt⟩) := by
  rw [flatF_splice h f o _ hf (by simp; omega), splice_bytes _ (h _ (List.getElem_mem hf)) o l ho, flatF_set fs f _ hf]
end Go.Proofs.YtllkeeeajlgkpaaDoor
