
/- Merged: Fm F0 F1 F2 F3 F4. -/
import Derived.Test.YthamfhenadaapaaGreatDoorKA
import Derived.Test.YthamfhenadaapaaGreatDoorRows
import Derived.Test.YthamfhenadaapaaGreatDoorKE
import Derived.Maps.OwnSet
import Derived.Maps.Views
import Derived.Test.YthamfhenadaapaaGreatDoorKP
import Derived.Test.YthamfhenadaapaaGreatDoorVm
import Derived.Laws.EntriesVeiled
import Derived.Laws.AppendOwnNone
import Derived.BigQuiet
namespace Go.Proofs.YthamfhenadaapaaGreatDoor
open Go.RowKit Go.Sort Go.WideMaps Go.Maps Go.WideShapes

def rdN {H : Type} (v : Value) : Option (DataW H × List MemPlace) := match v with
  | .iface T (.pointer (some ⟨b, 0, none⟩)) => some (.agg [.lit (.int .i64 (T : Nat)), .lit (.int .i64 (b : Nat))], [])
  | .nilIface => some (.lit (.bool false), [])
  | _ => none
/-- A node as a value: the type of the pointer, the block. -/
def ndV (p : Nat × Nat) : Value := .iface p.1 (.pointer (some ⟨p.2, 0, none⟩))
def ndD {H : Type} (p : Nat × Nat) : DataW H := .agg [.lit (.int .i64 (p.1 : Nat)), .lit (.int .i64 (p.2 : Nat))]
theorem rdN_nd {H : Type} (p : Nat × Nat) : rdN (H := H) (ndV p) = some (ndD p, []) := rfl
theorem rdN_nil {H : Type} : rdN (H := H) .nilIface = some (.lit (.bool false), []) := rfl
theorem rdN_inv {H : Type} {v : Value} {p : Nat × Nat} {ps : List MemPlace} (h : rdN (H := H) v = some (ndD p, ps)) : v = ndV p := by
  unfold rdN at h
  split at h
  · rename_i T b
    simp only [ndD, Option.some.injEq, Prod.mk.injEq, DataW.agg.injEq, List.cons.injEq, DataW.lit.injEq, Lit.int.injEq, true_and, and_true] at h
    obtain ⟨⟨h1, h2⟩, _⟩ := h
    have e1 : T = p.1 := by exact_mod_cast h1
    have e2 : b = p.2 := by exact_mod_cast h2
    subst e1 e2
    rfl
  · simp [ndD] at h
  · cases h
theorem rdN_nil_inv {H : Type} {v : Value} {ps : List MemPlace} (h : rdN (H := H) v = some (.lit (.bool false), ps)) : v = .nilIface := by
  unfold rdN at h
  split at h
  · simp at h
  · rfl
  · cases h

abbrev NL := List (BL × (Nat × Nat))
def putN {H : Type} (D : DataW H) (x : BL × (Nat × Nat)) : DataW H := D.put (.string x.1) (ndD x.2)
def mapD {H : Type} (l : NL) : DataW H := l.foldl putN (.map [])
def lookN (l : NL) (n : BL) : Option (Nat × Nat) := (l.reverse.find? fun x => decide (x.1 = n)).map (·.2)
theorem lookN_nil (n : BL) : lookN [] n = none := rfl
theorem lookN_snoc (l : NL) (x : BL × (Nat × Nat)) (n : BL) : lookN (l ++ [x]) n = if x.1 = n then some x.2 else lookN l n := by
  unfold lookN
  rw [List.reverse_append, List.reverse_singleton, List.singleton_append, List.find?_cons]
  by_cases h : x.1 = n
  · simp [h]
  · simp [h]
theorem mapD_snoc {H : Type} (l : NL) (x : BL × (Nat × Nat)) : mapD (H := H) (l ++ [x]) = (mapD l).put (.string x.1) (ndD x.2) := by simp [mapD, putN, List.foldl_append]
theorem mapD_is {H : Type} (l : NL) : IsMap (mapD (H := H) l) := by
  rcases l.eq_nil_or_concat with rfl | ⟨e, s, rfl⟩
  · exact ⟨[], rfl⟩
  · rw [List.concat_eq_append, mapD_snoc]; exact (mapD_is (H := H) e).put _ _
termination_by l.length
theorem mapD_at {H : Type} (n : BL) (z : DataW H) (l : NL) : (mapD (H := H) l).atKey (.string n) z = (match lookN l n with | some p => ndD p | none => z) := by
  rcases l.eq_nil_or_concat with rfl | ⟨e, s, rfl⟩
  · rfl
  · have ih := mapD_at (H := H) n z e
    rw [List.concat_eq_append, mapD_snoc, lookN_snoc]
    by_cases h : s.1 = n
    · rw [if_pos h, ← h, atKey_put_same (mapD_is e) (by trivial)]
    · rw [if_neg h, atKey_put_other (by intro e; cases e; exact h rfl), ih]
termination_by l.length
theorem mapD_has {H : Type} (n : BL) (l : NL) : Maps.has (mapD (H := H) l) (.string n) = (lookN l n).isSome := by
  rcases l.eq_nil_or_concat with rfl | ⟨e, s, rfl⟩
  · rfl
  · have ih := mapD_has (H := H) n e
    rw [List.concat_eq_append, mapD_snoc, lookN_snoc]
    by_cases h : s.1 = n
    · rw [if_pos h, ← h, has_put_same (mapD_is e) (by trivial)]; rfl
    · rw [if_neg h, has_put_other (by intro e; cases e; exact h rfl), ih]
termination_by l.length

theorem keyedS : Keyed Tryz.prog 9 := string_keyed Tryz.underlying9
theorem zeroN (w : World) : (zeroValue 91).run Tryz.prog w = .ok .nilIface w := by kernel_rfl
theorem keyS (l : BL) (h : l.length ≤ maxLen) : keyOf Tryz.prog 9 (.string (ba l)) = some (.string l) := by
  have := keyOf_string_mk (P := Tryz.prog) Tryz.underlying9 (s := ba l) (by rw [ba_size]; exact h)
  exact this

/-- A map in memory from texts to nodes. -/
def NMap (w : World) (m : Nat) (l : NL) : Prop := w.ownsMap Tryz.prog 9 (rdN (H := Unit)) m l.length (mapD l)
theorem NMap.made (w : World) : NMap (w.alloc (.map #[] 0)) w.heap.size [] := World.ownsMap_made _ _ _ _
theorem NMap.lt {w : World} {m : Nat} {l : NL} (h : NMap w m l) : m < w.heap.size := World.ownsMap.lt h
theorem NMap.same {w w' : World} {m : Nat} {l : NL} (h : NMap w m l) (e : w'.heap[m]? = w.heap[m]?) : NMap w' m l := by
  obtain ⟨es, clock, hm, F, hs, hD⟩ := h
  exact ⟨es, clock, e.trans hm, F, hs, hD⟩
theorem NMap.below {w w' : World} {m : Nat} {l : NL} (h : NMap w m l) (hb : Below w.heap.size w w') : NMap w' m l := h.same (hb.block m h.lt)
def lkNV (o : Option (Nat × Nat)) : Value := match o with
  | some p => ndV p
  | none => .nilIface
theorem NMap.look {w : World} {m : Nat} {l : NL} (h : NMap w m l) (n : BL) (hn : n.length ≤ maxLen) :
    (Instr.lookup 61 (.map (some m)) (.string (ba n)) true).run Tryz.prog w = .ok (.tuple #[lkNV (lookN l n), .bool (lookN l n).isSome]) w := by
  obtain ⟨v, ps, hrun, hv⟩ := World.ownsMap.look_ok h keyedS Tryz.underlying61 (zeroN w) rdN_nil (keyS n hn)
  rw [hrun, mapD_has]
  rw [mapD_at] at hv
  cases hl : lookN l n with
  | none =>
    rw [hl] at hv
    rw [rdN_nil_inv hv]
    rfl
  | some p =>
    rw [hl] at hv
    rw [rdN_inv hv]
    rfl
theorem NMap.put {w : World} {m : Nat} {l : NL} (h : NMap w m l) (n : BL) (hn : n.length ≤ maxLen) (hl : l.length < maxLen) (p : Nat × Nat) :
    ∃ w', (Instr.mapUpdate 61 (.map (some m)) (.string (ba n)) (ndV p)).run Tryz.prog w = .ok () w' ∧ NMap w' m (l ++ [(n, p)]) ∧ w.grownBy w' (some m) := by
  obtain ⟨w', h1, h2, h3⟩ := World.ownsMap.update h keyedS Tryz.underlying61 hl (keyS n hn) (rdN_nd p)
  refine ⟨w', h1, ?_, h3⟩
  unfold NMap
  rw [mapD_snoc, List.length_append]
  exact h2
end Go.Proofs.YthamfhenadaapaaGreatDoor
namespace Go.Proofs.YthamfhenadaapaaGreatDoor
open Go.RowKit Go.Sort

/-- A node: what is known of it, and what is in it. -/
structure ND where
  path : BL
  up : Nat
  kind : Int
  mode : Int
  uid : Int
  gid : Int
  size : Int
  names : List (BL × Nat)
  data : BL
  to : BL
deriving Inhabited, DecidableEq

def ndT (k : Int) : Nat := if k = 2 then 52 else if k = 3 then 120 else 101
def ndR (k : Int) : Nat := if k = 2 then 63 else if k = 3 then 122 else 104
/-- The nodes, and the blocks in which they lie (and their maps). -/
structure FT where
  L : List ND
  bs : List Nat
  ms : List Nat
def FT.nd (t : FT) (i : Nat) : ND := t.L.getD i default
def FT.bk (t : FT) (i : Nat) : Nat := t.bs.getD i 0
def FT.mp (t : FT) (i : Nat) : Nat := t.ms.getD i 0
def FT.pt (t : FT) (i : Nat) : Nat × Nat := (ndT (t.nd i).kind, t.bk i)
def FT.nl (t : FT) (i : Nat) : NL := (t.nd i).names.map fun p => (p.1, t.pt p.2)
def FT.hd (t : FT) (i : Nat) : List Value := [.int .i64 (i : Nat), .string (ba (t.nd i).path), .pointer (some ⟨t.bk (t.nd i).up, 0, none⟩), .int .u8 (t.nd i).kind, .int .u16 (t.nd i).mode, .int .u32 (t.nd i).uid, .int .u32 (t.nd i).gid, .int .i64 (t.nd i).size]

/-- A node in memory. -/
structure NodeAt (w : World) (t : FT) (i : Nat) : Prop where
  dir : (t.nd i).kind = 2 → Row w (t.bk i) 63 (t.hd i ++ [.map (some (t.mp i))]) ∧ NMap w (t.mp i) (t.nl i)
  link : (t.nd i).kind = 3 → Row w (t.bk i) 122 (t.hd i ++ [.string (ba (t.nd i).to)])
  file : (t.nd i).kind ≠ 2 → (t.nd i).kind ≠ 3 → ∃ v, Row w (t.bk i) 104 (t.hd i ++ [v]) ∧ w.ownsRow 0 5 1 v (t.nd i).data.length ((t.nd i).data.map B8)

/-- What holds of the nodes, whatever memory is. -/
structure Fine (L : List ND) : Prop where
  pos : 0 < L.length
  most : L.length ≤ 65
  root : (L.getD 0 default).kind = 2
  up : ∀ i, i < L.length → (L.getD i default).up < L.length ∧ (L.getD (L.getD i default).up default).kind = 2
  names : ∀ i, i < L.length → ∀ p ∈ (L.getD i default).names, p.2 < L.length
  many : ∀ i, i < L.length → (L.getD i default).names.length ≤ L.length
  data : ∀ i, i < L.length → (L.getD i default).data.length ≤ 65536 ∧ (L.getD i default).size = ((L.getD i default).data.length : Nat)
  mode : ∀ i, i < L.length → 0 ≤ (L.getD i default).mode ∧ (L.getD i default).mode ≤ 65535
  path : ∀ i, i < L.length → (L.getD i default).path.length ≤ 1000000
  to : ∀ i, i < L.length → (L.getD i default).to.length ≤ 200

/-- A file system in memory. -/
structure FSat (w : World) (F : Nat) (t : FT) : Prop where
  fine : Fine t.L
  top : ∃ v, Row w F 56 [.pointer (some ⟨t.bk 0, 0, none⟩), v] ∧ w.ownsRow 0 91 1 v t.L.length ((List.range t.L.length).map fun i => ndV (t.pt i))
  node : ∀ i, i < t.L.length → NodeAt w t i

theorem own_same {w w' : World} {base e size n : Nat} {v : Value} {xs : List Value} (h : w.ownsRow base e size v n xs) (hk : ∀ (b : Nat) (cs : Array Value), w.heap[b]? = some (Obj.cells cs e (0, 0)) → w'.heap[b]? = w.heap[b]?) : w'.ownsRow base e size v n xs := by
  refine ⟨h.1, ?_⟩
  rcases h.2 with hn | ⟨g, cap, cur, hv, hbg, hg, r⟩
  · exact .inl hn
  · exact .inr ⟨g, cap, cur, hv, hbg, by rw [hk g cur hg]; exact hg, r⟩
theorem Row.same {w w' : World} {g : Nat} {E : TypeId} {cs : List Value} (h : Row w g E cs) (hk : w'.heap[g]? = w.heap[g]?) : Row w' g E cs := ⟨by rw [hk]; exact h.heap⟩
theorem NodeAt.below {w w' : World} {t : FT} {i : Nat} (h : NodeAt w t i) (hb : Below w.heap.size w w') : NodeAt w' t i :=
  ⟨fun k => ⟨(h.dir k).1.below hb (h.dir k).1.lt, (h.dir k).2.below hb⟩, fun k => (h.link k).below hb (h.link k).lt, fun k k' => by
    obtain ⟨v, h1, h2⟩ := h.file k k'
    exact ⟨v, h1.below hb h1.lt, own_below h2 hb⟩⟩
theorem FSat.below {w w' : World} {F : Nat} {t : FT} (h : FSat w F t) (hb : Below w.heap.size w w') : FSat w' F t :=
  ⟨h.fine, by
    obtain ⟨v, h1, h2⟩ := h.top
    exact ⟨v, h1.below hb h1.lt, own_below h2 hb⟩, fun i hi => (h.node i hi).below hb⟩

/-- The eight cells that every node has. -/
theorem NodeAt.head {w : World} {t : FT} {i : Nat} (h : NodeAt w t i) : ∃ v, Row w (t.bk i) (ndR (t.nd i).kind) (t.hd i ++ [v]) := by
  unfold ndR
  by_cases k2 : (t.nd i).kind = 2
  · rw [if_pos k2]; exact ⟨_, (h.dir k2).1⟩
  · rw [if_neg k2]
    by_cases k3 : (t.nd i).kind = 3
    · rw [if_pos k3]; exact ⟨_, h.link k3⟩
    · rw [if_neg k3]
      obtain ⟨v, h1, _⟩ := h.file k2 k3
      exact ⟨v, h1⟩
theorem hd_cells {w : World} {t : FT} {i b : Nat} {E : TypeId} {v : Value} (h : Row w b E (t.hd i ++ [v])) :
    (w.cell? ⟨b, 0, none⟩ = some (.int .i64 (i : Nat)) ∧ w.cell? ⟨b, 1, none⟩ = some (.string (ba (t.nd i).path)) ∧ w.cell? ⟨b, 2, none⟩ = some (.pointer (some ⟨t.bk (t.nd i).up, 0, none⟩)) ∧ w.cell? ⟨b, 3, none⟩ = some (.int .u8 (t.nd i).kind) ∧ w.cell? ⟨b, 4, none⟩ = some (.int .u16 (t.nd i).mode)) ∧
    (w.cell? ⟨b, 5, none⟩ = some (.int .u32 (t.nd i).uid) ∧ w.cell? ⟨b, 6, none⟩ = some (.int .u32 (t.nd i).gid) ∧ w.cell? ⟨b, 7, none⟩ = some (.int .i64 (t.nd i).size) ∧ w.cell? ⟨b, 8, none⟩ = some v) :=
  ⟨⟨h.cell 0 (by simp [FT.hd]), h.cell 1 (by simp [FT.hd]), h.cell 2 (by simp [FT.hd]), h.cell 3 (by simp [FT.hd]), h.cell 4 (by simp [FT.hd])⟩, h.cell 5 (by simp [FT.hd]), h.cell 6 (by simp [FT.hd]), h.cell 7 (by simp [FT.hd]), h.cell 8 (by simp [FT.hd])⟩

/-- The node's value in the slice of nodes. -/
theorem FSat.at {w : World} {F : Nat} {t : FT} (h : FSat w F t) : ∃ a c, w.cell? ⟨F, 0, none⟩ = some (.pointer (some ⟨t.bk 0, 0, none⟩)) ∧ w.cell? ⟨F, 1, none⟩ = some (.slice a t.L.length c) ∧ F < w.heap.size ∧ ∃ b off, a = some ⟨b, off, none⟩ ∧ b < w.heap.size ∧ ∀ i, i < t.L.length → w.cell? ⟨b, off + i, none⟩ = some (ndV (t.pt i)) := by
  obtain ⟨v, h1, h2⟩ := h.top
  obtain ⟨a, c, rfl, hc, _⟩ := own_cel h2
  obtain ⟨b, off, rfl, hat⟩ := hc.some_of (by simp; exact h.fine.pos)
  have hz := World.block_lt_of_cell? w _ (hat 0 (by simp; exact h.fine.pos))
  exact ⟨_, c, h1.cell 0 (by simp), h1.cell 1 (by simp), h1.lt, b, off, rfl, hz, fun i hi => by
    have := hat i (by simpa using hi)
    simpa using this⟩
end Go.Proofs.YthamfhenadaapaaGreatDoor
namespace Go.Proofs.YthamfhenadaapaaGreatDoor
open Go.RowKit Go.Sort

theorem ndV_kind (k : Int) (b : Nat) : ndV (ndT k, b) = if k = 2 then .iface 52 (.pointer (some ⟨b, 0, none⟩)) else if k = 3 then .iface 120 (.pointer (some ⟨b, 0, none⟩)) else .iface 101 (.pointer (some ⟨b, 0, none⟩)) := by
  unfold ndV ndT
  split
  · rfl
  · split <;> rfl

theorem me_d (n b : Nat) (w : World) : (method (n + 1) 52 (.pointer (some ⟨b, 0, none⟩)) "hostel/vfs.self").run Tryz.prog w = .ok (130, .pointer (some ⟨b, 0, none⟩)) w := by kernel_rfl
theorem me_l (n b : Nat) (w : World) : (method (n + 1) 120 (.pointer (some ⟨b, 0, none⟩)) "hostel/vfs.self").run Tryz.prog w = .ok (130, .pointer (some ⟨b, 0, none⟩)) w := by kernel_rfl
theorem me_f (n b : Nat) (w : World) : (method (n + 1) 101 (.pointer (some ⟨b, 0, none⟩)) "hostel/vfs.self").run Tryz.prog w = .ok (130, .pointer (some ⟨b, 0, none⟩)) w := by kernel_rfl
theorem ta_dd (b : Nat) (w : World) : (Instr.typeAssert (.iface 52 (.pointer (some ⟨b, 0, none⟩))) 91 52 true).run Tryz.prog w = .ok (.tuple #[.pointer (some ⟨b, 0, none⟩), .bool true]) w := by kernel_rfl
theorem ta_dl (b : Nat) (w : World) : (Instr.typeAssert (.iface 120 (.pointer (some ⟨b, 0, none⟩))) 91 52 true).run Tryz.prog w = .ok (.tuple #[.pointer none, .bool false]) w := by kernel_rfl
theorem ta_df (b : Nat) (w : World) : (Instr.typeAssert (.iface 101 (.pointer (some ⟨b, 0, none⟩))) 91 52 true).run Tryz.prog w = .ok (.tuple #[.pointer none, .bool false]) w := by kernel_rfl
theorem ta_ld (b : Nat) (w : World) : (Instr.typeAssert (.iface 52 (.pointer (some ⟨b, 0, none⟩))) 91 120 true).run Tryz.prog w = .ok (.tuple #[.pointer none, .bool false]) w := by kernel_rfl
theorem ta_ll (b : Nat) (w : World) : (Instr.typeAssert (.iface 120 (.pointer (some ⟨b, 0, none⟩))) 91 120 true).run Tryz.prog w = .ok (.tuple #[.pointer (some ⟨b, 0, none⟩), .bool true]) w := by kernel_rfl
theorem ta_lf (b : Nat) (w : World) : (Instr.typeAssert (.iface 101 (.pointer (some ⟨b, 0, none⟩))) 91 120 true).run Tryz.prog w = .ok (.tuple #[.pointer none, .bool false]) w := by kernel_rfl
theorem ta_fd (b : Nat) (w : World) : (Instr.typeAssert (.iface 52 (.pointer (some ⟨b, 0, none⟩))) 91 101 true).run Tryz.prog w = .ok (.tuple #[.pointer none, .bool false]) w := by kernel_rfl
theorem ta_fl (b : Nat) (w : World) : (Instr.typeAssert (.iface 120 (.pointer (some ⟨b, 0, none⟩))) 91 101 true).run Tryz.prog w = .ok (.tuple #[.pointer none, .bool false]) w := by kernel_rfl
theorem ta_ff (b : Nat) (w : World) : (Instr.typeAssert (.iface 101 (.pointer (some ⟨b, 0, none⟩))) 91 101 true).run Tryz.prog w = .ok (.tuple #[.pointer (some ⟨b, 0, none⟩), .bool true]) w := by kernel_rfl

theorem isDir_any (k : Int) (b : Nat) (w : World) :
    Calls Tryz.prog 44 #[ndV (ndT k, b)] w fun e w' => e = .returned (.bool (decide (k = 2))) ∧ w = w' := by
  rw [ndV_kind]
  by_cases h2 : k = 2
  · rw [if_pos h2, decide_eq_true h2]
    clear h2
    have ht := ta_dd b
    go_enter Tryz.func44, Tryz.ntmps44
    go_wp2_with fail
    go_ret
    exact ⟨rfl, rfl⟩
  · rw [if_neg h2, decide_eq_false h2]
    clear h2
    by_cases h3 : k = 3
    · rw [if_pos h3]
      clear h3
      have ht := ta_dl b
      go_enter Tryz.func44, Tryz.ntmps44
      go_wp2_with fail
      go_ret
      exact ⟨rfl, rfl⟩
    · rw [if_neg h3]
      clear h3
      have ht := ta_df b
      go_enter Tryz.func44, Tryz.ntmps44
      go_wp2_with fail
      go_ret
      exact ⟨rfl, rfl⟩

theorem self_any (b : Nat) (w : World) :
    Calls Tryz.prog 130 #[.pointer (some ⟨b, 0, none⟩)] w fun e w' => e = .returned (.pointer (some ⟨b, 0, none⟩)) ∧ w = w' := by
  go_enter Tryz.func130, Tryz.ntmps130
  go_wp2_with fail
  go_ret
  exact ⟨rfl, rfl⟩

def nodeE (t : FT) (i : Int) : Value := if 0 ≤ i ∧ i < (t.L.length : Int) then .tuple #[ndV (t.pt i.toNat), .bool true] else .tuple #[.nilIface, .bool false]

theorem node_any (F : Nat) (t : FT) (i : Int) (w : World) (h : FSat w F t) :
    Calls Tryz.prog 43 #[.pointer (some ⟨F, 0, none⟩), .int .i64 i] w fun e w' => e = .returned (nodeE t i) ∧ w = w' := by
  obtain ⟨a, c, c0, c1, hF, b, off, rfl, hbz, hat⟩ := h.at
  have HAT := hid hat
  clear hat h
  by_cases h0 : i < 0
  · have HN := hid (show nodeE t i = .tuple #[.nilIface, .bool false] by unfold nodeE; rw [if_neg (by omega)])
    have d0 : decide (i < 0) = true := by simpa using h0
    clear h0
    go_enter Tryz.func43, Tryz.ntmps43
    go_wp2_with fail
    go_ret2
    exact ⟨by rw [HN.out]; rfl, rfl⟩
  · have d0 : decide (i < 0) = false := by simpa using h0
    by_cases h1 : i < (t.L.length : Int)
    · obtain ⟨k, rfl⟩ : ∃ k : Nat, i = (k : Int) := ⟨i.toNat, by omega⟩
      have HN := hid (show nodeE t (k : Int) = .tuple #[ndV (t.pt k), .bool true] by unfold nodeE; rw [if_pos (by omega)]; rfl)
      have d1 : decide ((t.L.length : Int) ≤ (k : Int)) = false := by simp; omega
      have d1n : decide (t.L.length ≤ k) = false := by simp; omega
      have hk : k < t.L.length := by omega
      have hx := HAT.out k hk
      clear h0 h1
      generalize ndV (t.pt k) = v at *
      go_enter Tryz.func43, Tryz.ntmps43
      go_wp2_with fail
      go_ret2
      exact ⟨by rw [HN.out]; rfl, rfl⟩
    · have HN := hid (show nodeE t i = .tuple #[.nilIface, .bool false] by unfold nodeE; rw [if_neg (by omega)])
      have d1 : decide ((t.L.length : Int) ≤ i) = true := by simp; omega
      clear h0 h1
      go_enter Tryz.func43, Tryz.ntmps43
      go_wp2_with fail
      go_ret2
      exact ⟨by rw [HN.out]; rfl, rfl⟩
end Go.Proofs.YthamfhenadaapaaGreatDoor
namespace Go.Proofs.YthamfhenadaapaaGreatDoor
open Go.RowKit Go.Sort

abbrev metaV (x : ND) : Value := .agg #[.int .u8 x.kind, .int .u16 x.mode, .int .u32 x.uid, .int .u32 x.gid, .int .i64 x.size]
theorem node_in (F : Nat) (t : FT) (i : Nat) (w : World) (h : FSat w F t) (hi : i < t.L.length) :
    Calls Tryz.prog 43 #[.pointer (some ⟨F, 0, none⟩), .int .i64 i] w fun e w' => e = .returned (.tuple #[if (t.nd i).kind = 2 then .iface 52 (.pointer (some ⟨t.bk i, 0, none⟩)) else if (t.nd i).kind = 3 then .iface 120 (.pointer (some ⟨t.bk i, 0, none⟩)) else .iface 101 (.pointer (some ⟨t.bk i, 0, none⟩)), .bool true]) ∧ w = w' := by
  refine (node_any F t i w h).mono ?_
  rintro e w' ⟨rfl, rfl⟩
  refine ⟨?_, rfl⟩
  unfold nodeE
  rw [if_pos (by omega), ← ndV_kind]
  rfl
theorem node_out (F : Nat) (t : FT) (i : Int) (w : World) (h : FSat w F t) (hi : ¬ (0 ≤ i ∧ i < (t.L.length : Int))) :
    Calls Tryz.prog 43 #[.pointer (some ⟨F, 0, none⟩), .int .i64 i] w fun e w' => e = .returned (.tuple #[.nilIface, .bool false]) ∧ w = w' := by
  refine (node_any F t i w h).mono ?_
  rintro e w' ⟨rfl, rfl⟩
  refine ⟨?_, rfl⟩
  unfold nodeE
  rw [if_neg hi]

set_option maxHeartbeats 1000000 in
theorem meta_any (F : Nat) (t : FT) (i : Nat) (w : World) (h : FSat w F t) (hi : i < t.L.length) :
    Calls Tryz.prog 41 #[.pointer (some ⟨F, 0, none⟩), .int .i64 i] w fun e w' => e = .returned (.tuple #[metaV (t.nd i), .int .i64 0]) ∧ Below w.heap.size w w' := by
  have HB0 := hid (@bal w)
  have HN := hid (node_in F t i _ (h.below (HB0.out (.cells #[.int .u8 0, .int .u16 0, .int .u32 0, .int .u32 0, .int .i64 0] 58))) hi)
  obtain ⟨v, hr⟩ := (h.node i hi).head
  obtain ⟨⟨c0, c1, c2, c3, c4⟩, c5, c6, c7, c8⟩ := hd_cells hr
  have hl := hr.lt
  clear hr h
  go_enter Tryz.func41, Tryz.ntmps41
  go_wp2_with fail
  refine (HN.out).mono ?_
  rintro e' w1 ⟨rfl, rfl⟩
  by_cases h2 : (t.nd i).kind = 2
  · rw [if_pos h2]
    clear h2
    have hm := me_d
    go_wp2_with fail
    refine (self_any _ _).mono ?_
    rintro e' w2 ⟨rfl, rfl⟩
    go_wp2_with fail
    refine bodyPost_ret (v := .tuple #[metaV (t.nd i), .int .i64 0]) (by simp [results, Tryz.results41, Tryz.f41, go_sem]) rfl ⟨rfl, ?_⟩
    first | exact HB0.out _ | (repeat (first | with_reducible refine bset ?_ (by omega) _)); exact HB0.out _
  · rw [if_neg h2]
    by_cases h3 : (t.nd i).kind = 3
    · rw [if_pos h3]
      clear h3 h2
      have hm := me_l
      go_wp2_with fail
      refine (self_any _ _).mono ?_
      rintro e' w2 ⟨rfl, rfl⟩
      go_wp2_with fail
      refine bodyPost_ret (v := .tuple #[metaV (t.nd i), .int .i64 0]) (by simp [results, Tryz.results41, Tryz.f41, go_sem]) rfl ⟨rfl, ?_⟩
      first | exact HB0.out _ | (repeat (first | with_reducible refine bset ?_ (by omega) _)); exact HB0.out _
    · rw [if_neg h3]
      clear h3 h2
      have hm := me_f
      go_wp2_with fail
      refine (self_any _ _).mono ?_
      rintro e' w2 ⟨rfl, rfl⟩
      go_wp2_with fail
      refine bodyPost_ret (v := .tuple #[metaV (t.nd i), .int .i64 0]) (by simp [results, Tryz.results41, Tryz.f41, go_sem]) rfl ⟨rfl, ?_⟩
      first | exact HB0.out _ | (repeat (first | with_reducible refine bset ?_ (by omega) _)); exact HB0.out _

theorem meta_none (i : Int) (w : World) : Calls Tryz.prog 41 #[.pointer none, .int .i64 i] w fun e w' => e = .returned (.tuple #[.agg #[.int .u8 0, .int .u16 0, .int .u32 0, .int .u32 0, .int .i64 0], .int .i64 2]) ∧ Below w.heap.size w w' := by
  have HB0 := hid (@bal w)
  go_enter Tryz.func41, Tryz.ntmps41
  go_wp2_with fail
  refine bodyPost_ret (v := .tuple #[.agg #[.int .u8 0, .int .u16 0, .int .u32 0, .int .u32 0, .int .i64 0], .int .i64 2]) (by simp [results, Tryz.results41, Tryz.f41, go_sem]) rfl ⟨rfl, ?_⟩
  exact HB0.out _

theorem read_none (i a b : Int) (w : World) : Calls Tryz.prog 22 #[.pointer none, .int .i64 i, .int .i64 a, .int .i64 b] w fun e w' => e = .returned (.tuple #[.slice none 0 0, .int .i64 2]) ∧ w = w' := by
  go_enter Tryz.func22, Tryz.ntmps22
  go_wp2_with fail
  go_ret2
  exact ⟨rfl, rfl⟩

theorem walk_none (u e s g i : Int) (a : Option Addr) (len cap : Nat) (p : ByteArray) (l : Bool) (w : World) : Calls Tryz.prog 40 #[.pointer none, credV u e s g a len cap, .int .i64 i, .string p, .bool l] w fun e w' => e = .returned (.tuple #[.int .i64 0, .int .i64 2]) ∧ Below w.heap.size w w' := by
  have HB0 := hid (@bal w)
  go_enter Tryz.func40, Tryz.ntmps40
  go_wp2_with fail
  go_ret2
  exact ⟨rfl, HB0.out _⟩
end Go.Proofs.YthamfhenadaapaaGreatDoor
namespace Go.Proofs.YthamfhenadaapaaGreatDoor
open Go.RowKit Go.Sort

/-- Who goes. -/
structure CR where
  u : Int
  e : Int
  s : Int
  g : Int
  a : Option Addr
  n : Nat
  c : Nat
  l : List Int
def CR.v (c : CR) : Value := .agg #[.int .u32 c.u, .int .u32 c.e, .int .u32 c.s, .int .u32 c.g, .slice c.a c.n c.c]
structure CrOk (w : World) (c : CR) : Prop where
  nums : Nums w .u32 c.a c.n c.l
  most : c.n ≤ 1048576
theorem CrOk.below {w w' : World} {c : CR} (h : CrOk w c) (hb : Below w.heap.size w w') : CrOk w' c := ⟨h.nums.below' hb, h.most⟩
def mayX (c : CR) (x : ND) : Bool := mayB c.e c.g c.l x.kind x.mode x.uid x.gid 1
def lookI (l : List (BL × Nat)) (n : BL) : Option Nat := (l.reverse.find? fun x => decide (x.1 = n)).map (·.2)
theorem lookI_map (f : Nat → Nat × Nat) (l : List (BL × Nat)) (n : BL) : lookN (l.map fun p => (p.1, f p.2)) n = (lookI l n).map f := by
  unfold lookN lookI
  rw [← List.map_reverse, List.find?_map]
  simp only [Option.map_map]
  rfl
theorem lookI_mem {l : List (BL × Nat)} {n : BL} {j : Nat} (h : lookI l n = some j) : (n, j) ∈ l := by
  unfold lookI at h
  obtain ⟨⟨m, j'⟩, h1, rfl⟩ := Option.map_eq_some_iff.1 h
  have h2 := List.find?_some h1
  have h3 := List.mem_of_find?_eq_some h1
  simp only [decide_eq_true_eq] at h2
  subst h2
  simpa using h3
def dotdot : BL := [46, 46]
def stepN (c : CR) (x : ND) (p : BL) : Int × Nat :=
  if x.kind ≠ 2 then (8, 0) else if mayX c x = false then (5, 0) else if p = dotdot then (0, x.up) else
    match lookI x.names p with
    | some j => (0, j)
    | none => (3, 0)
def stepL (L : List ND) (c : CR) (i : Nat) (p : BL) : Int × Nat := stepN c (L.getD i default) p
theorem stepN_1 {c : CR} {x : ND} {p : BL} (h : ¬ x.kind = 2) : stepN c x p = (8, 0) := by unfold stepN; rw [if_pos h]
theorem stepN_2 {c : CR} {x : ND} {p : BL} (h : x.kind = 2) (h2 : mayX c x = false) : stepN c x p = (5, 0) := by unfold stepN; rw [if_neg (by simpa using h), if_pos h2]
theorem stepN_3 {c : CR} {x : ND} {p : BL} (h : x.kind = 2) (h2 : mayX c x = true) (h3 : p = dotdot) : stepN c x p = (0, x.up) := by unfold stepN; rw [if_neg (by simpa using h), if_neg (by rw [h2]; simp), if_pos h3]
theorem stepN_4 {c : CR} {x : ND} {p : BL} (h : x.kind = 2) (h2 : mayX c x = true) (h3 : ¬ p = dotdot) (h4 : lookI x.names p = none) : stepN c x p = (3, 0) := by unfold stepN; rw [if_neg (by simpa using h), if_neg (by rw [h2]; simp), if_neg h3, h4]
theorem stepN_5 {c : CR} {x : ND} {p : BL} {j : Nat} (h : x.kind = 2) (h2 : mayX c x = true) (h3 : ¬ p = dotdot) (h4 : lookI x.names p = some j) : stepN c x p = (0, j) := by unfold stepN; rw [if_neg (by simpa using h), if_neg (by rw [h2]; simp), if_neg h3, h4]
def resV (t : FT) (r : Int × Nat) : Value := .tuple #[if r.1 = 0 then ndV (t.pt r.2) else .nilIface, .int .i64 r.1]

set_option maxRecDepth 100000 in
set_option maxHeartbeats 2000000 in
theorem step_any (F : Nat) (t : FT) (c : CR) (i : Nat) (p : BL) (w : World) (h : FSat w F t) (hi : i < t.L.length) (hc : CrOk w c) (hp : p.length ≤ 1000000) :
    Calls Tryz.prog 85 #[c.v, ndV (t.pt i), .string (ba p)] w fun e w' => e = .returned (resV t (stepL t.L c i p)) ∧ Below w.heap.size w w' := by
  have HB0 := hid (@bal w)
  have HK := hid (ndV_kind (t.nd i).kind (t.bk i))
  rw [show ndV (t.pt i) = ndV (ndT (t.nd i).kind, t.bk i) from rfl, HK.out]
  have hd := h.node i hi
  have HS := hid (show stepL t.L c i p = stepN c (t.nd i) p from rfl)
  rw [HS.out]
  clear HS
  by_cases h2 : (t.nd i).kind = 2
  · obtain ⟨hr, hm⟩ := hd.dir h2
    rw [if_pos h2]
    have HK2 := hid h2
    have HUP := hid (show ndV (t.pt (t.nd i).up) = .iface 52 (.pointer (some ⟨t.bk (t.nd i).up, 0, none⟩)) by
      have hku : (t.nd (t.nd i).up).kind = 2 := (h.fine.up i hi).2
      rw [show ndV (t.pt (t.nd i).up) = ndV (ndT (t.nd (t.nd i).up).kind, t.bk (t.nd i).up) from rfl, ndV_kind, if_pos hku])
    have hmode := h.fine.mode i hi
    have HMAY := hid (fun (wr : World) (hb : Below w.heap.size w wr) => may_any c.u c.e c.s c.g (t.nd i).kind (t.nd i).mode (t.nd i).uid (t.nd i).gid (t.nd i).size 1 c.a c.n c.c c.l wr (hc.nums.below' hb) hc.most hmode.1 hmode.2)
    have HROW := hid (fun (wr : World) (hb : Below w.heap.size w wr) => hr.below hb hr.lt)
    have HMAP := hid (fun (wr : World) (hb : Below w.heap.size w wr) => (hm.below hb).look p (by unfold maxLen; omega))
    have HLK := hid (lookI_map t.pt (t.nd i).names p)
    have hta := ta_dd (t.bk i)
    have hbox := Row.new w 26 [.int .u32 c.u, .int .u32 c.e, .int .u32 c.s, .int .u32 c.g, .slice c.a c.n c.c]
    have HBX := hid hbox
    clear hr hm hmode h2 hd h hc HK hbox
    unfold CR.v
    go_enter Tryz.func85, Tryz.ntmps85
    go_wp2_with fail
    obtain ⟨W1, hW1⟩ : ∃ W1, W1 = w.alloc (.cells #[.int .u32 c.u, .int .u32 c.e, .int .u32 c.s, .int .u32 c.g, .slice c.a c.n c.c] 26) := ⟨_, rfl⟩
    have HW1 := hid (show Below w.heap.size w W1 by rw [hW1]; exact HB0.out _)
    rw [show w.alloc (.cells [.int .u32 c.u, .int .u32 c.e, .int .u32 c.s, .int .u32 c.g, .slice c.a c.n c.c].toArray 26) = W1 from hW1.symm] at HBX
    rw [← hW1]
    clear hW1
    obtain ⟨q0, q1, q2, q3, q4⟩ := five_rg HBX.out.five
    obtain ⟨⟨k0, k1, k2, k3, k4⟩, k5, k6, k7, k8⟩ := hd_cells (HROW.out W1 HW1.out)
    replace k0 := rg_cell k0
    replace k1 := rg_cell k1
    replace k2 := rg_cell k2
    replace k3 := rg_cell k3
    replace k4 := rg_cell k4
    replace k5 := rg_cell k5
    replace k6 := rg_cell k6
    replace k7 := rg_cell k7
    replace k8 := rg_cell k8
    have cc := hid (fun (d : Nat) (os : Array Obj) => rg_call (HMAY.out (rg W1 d os) (bthen HW1.out (rg_below _ _ _))))
    have hbl : ∀ d os, t.bk i < (rg W1 d os).heap.size := fun d os => World.block_lt_of_cell? _ _ (k0 d os)
    rw [show mayB c.e c.g c.l (t.nd i).kind (t.nd i).mode (t.nd i).uid (t.nd i).gid 1 = mayX c (t.nd i) from rfl] at cc
    cases hmx : mayX c (t.nd i)
    · rw [hmx] at cc
      have HS3 := hid (stepN_2 (p := p) HK2.out hmx)
      clear hmx HMAY HMAP HLK HROW
      refine region_rg (by kernel_rfl) (by kernel_rfl) ?_
      repeat (quiet_step (with_reducible exact cc.out _ _))
      refine wpQuiet_nil ?_
      intro _ hw'
      obtain ⟨⟨dq, osq⟩, hw''⟩ := hw'
      subst hw''
      go_wp2_with fail
      go_ret2
      exact ⟨by rw [HS3.out]; rfl, bthen HW1.out (rg_below _ _ _)⟩
    · rw [hmx] at cc
      have HMX := hid hmx
      clear hmx HMAY
      refine region_rg (by kernel_rfl) (by kernel_rfl) ?_
      repeat (quiet_step (with_reducible exact cc.out _ _))
      refine wpQuiet_nil ?_
      intro _ hw'
      obtain ⟨⟨dq, osq⟩, hw''⟩ := hw'
      subst hw''
      have HW2 := hid (bthen HW1.out (rg_below W1 dq osq))
      obtain ⟨⟨g0, g1, g2, g3, g4⟩, g5, g6, g7, g8⟩ := hd_cells (HROW.out _ HW2.out)
      have hbl2 := hbl dq osq
      have hlk := HMAP.out _ HW2.out
      have hdd := ba_beq p [46, 46]
      clear k0 k1 k2 k3 k4 k5 k6 k7 k8 q0 q1 q2 q3 q4 cc hbl HMAP HROW
      generalize rg W1 dq osq = W2 at *
      rw [show lookN (t.nl i) p = (lookI (t.nd i).names p).map t.pt from HLK.out] at hlk
      by_cases hpd : p = dotdot
      · have HS4 := hid (stepN_3 HK2.out HMX.out hpd)
        rw [decide_eq_true (show p = [46, 46] from hpd)] at hdd
        clear hpd HLK hlk
        go_wp2_with fail
        go_ret2
        refine ⟨?_, HW2.out⟩
        rw [HS4.out]
        unfold resV
        rw [if_pos rfl, HUP.out]
        rfl
      · have HPD := hid hpd
        rw [decide_eq_false (show ¬ p = [46, 46] from hpd)] at hdd
        clear hpd HLK
        cases hl : lookI (t.nd i).names p with
        | none =>
          rw [hl] at hlk
          have HS4 := hid (stepN_4 HK2.out HMX.out HPD.out hl)
          simp only [Option.map_none, Option.isSome_none, lkNV] at hlk
          clear hl
          go_wp2_with fail
          go_ret2
          exact ⟨by rw [HS4.out]; rfl, HW2.out⟩
        | some j =>
          rw [hl] at hlk
          have HS4 := hid (stepN_5 HK2.out HMX.out HPD.out hl)
          simp only [Option.map_some, Option.isSome_some, lkNV] at hlk
          clear hl
          generalize hnd : ndV (t.pt j) = nv at *
          have HND := hid hnd
          clear hnd
          go_wp2_with fail
          go_ret2
          exact ⟨by rw [HS4.out, ← HND.out]; rfl, HW2.out⟩
  · rw [if_neg h2]
    have HS2 := hid (stepN_1 (c := c) (p := p) h2)
    by_cases h3 : (t.nd i).kind = 3
    · rw [if_pos h3]
      have hta := ta_dl (t.bk i)
      clear h2 h3 hd h hc HK
      unfold CR.v
      go_enter Tryz.func85, Tryz.ntmps85
      go_wp2_with fail
      go_ret2
      exact ⟨by rw [HS2.out]; rfl, HB0.out _⟩
    · rw [if_neg h3]
      have hta := ta_df (t.bk i)
      clear h2 h3 hd h hc HK
      unfold CR.v
      go_enter Tryz.func85, Tryz.ntmps85
      go_wp2_with fail
      go_ret2
      exact ⟨by rw [HS2.out]; rfl, HB0.out _⟩
end Go.Proofs.YthamfhenadaapaaGreatDoor
namespace Go.Proofs.YthamfhenadaapaaGreatDoor
open Go.RowKit Go.Sort

def followL (L : List ND) (c : CR) (last : Bool) (links at_ : Nat) : List BL → Int × Nat
  | [] => (0, at_)
  | p :: rest =>
    if (stepL L c at_ p).1 = 0 then
      if (L.getD (stepL L c at_ p).2 default).kind ≠ 3 ∨ (rest = [] ∧ last = false) then followL L c last links (stepL L c at_ p).2 rest
      else if h : 8 ≤ links then (10, 0)
      else followL L c last (links + 1) (if rootF (L.getD (stepL L c at_ p).2 default).to = true then 0 else at_) (partsF (L.getD (stepL L c at_ p).2 default).to ++ rest)
    else ((stepL L c at_ p).1, 0)
termination_by left => (9 - links, left.length)
decreasing_by
  all_goals simp_wf
  · right; omega
  · left; omega

section
variable {L : List ND} {c : CR} {last : Bool} {links at_ nx : Nat} {p : BL} {rest : List BL}
theorem followL_nil : followL L c last links at_ [] = (0, at_) := by rw [followL]
theorem followL_bad (h : ¬ (stepL L c at_ p).1 = 0) : followL L c last links at_ (p :: rest) = ((stepL L c at_ p).1, 0) := by rw [followL, if_neg h]
theorem followL_step (h : stepL L c at_ p = (0, nx)) (h2 : (L.getD nx default).kind ≠ 3 ∨ (rest = [] ∧ last = false)) : followL L c last links at_ (p :: rest) = followL L c last links nx rest := by
  rw [followL, h, if_pos rfl, if_pos h2]
theorem followL_loop (h : stepL L c at_ p = (0, nx)) (hk : (L.getD nx default).kind = 3) (h2 : ¬ (rest = [] ∧ last = false)) (h8 : 8 ≤ links) : followL L c last links at_ (p :: rest) = (10, 0) := by
  rw [followL, h, if_pos rfl, if_neg (fun h => h.elim (fun h => h hk) h2), dif_pos h8]
theorem followL_link (h : stepL L c at_ p = (0, nx)) (hk : (L.getD nx default).kind = 3) (h2 : ¬ (rest = [] ∧ last = false)) (h8 : ¬ 8 ≤ links) : followL L c last links at_ (p :: rest) = followL L c last (links + 1) (if rootF (L.getD nx default).to = true then 0 else at_) (partsF (L.getD nx default).to ++ rest) := by
  rw [followL, h, if_pos rfl, if_neg (fun h => h.elim (fun h => h hk) h2), dif_neg h8]
end
theorem step_in {L : List ND} {c : CR} {i nx : Nat} {p : BL} (hf : Fine L) (hi : i < L.length) (h : stepL L c i p = (0, nx)) : nx < L.length := by
  unfold stepL stepN at h
  split at h
  · cases h
  · split at h
    · cases h
    · split at h
      · cases h; exact (hf.up i hi).1
      · split at h
        · rename_i j hj
          cases h
          exact hf.names i hi _ (lookI_mem hj)
        · cases h

theorem strs_one1 (ds : List BL) : ∀ u ∈ strs ds, u.oneCell' = true := by
  intro u hu
  unfold strs at hu
  obtain ⟨x, _, rfl⟩ := List.mem_map.1 hu
  rfl
theorem strs_app (a b : List BL) : strs (a ++ b) = strs a ++ strs b := by simp [strs]
theorem cuts_len (l : BL) : (cuts 47 l).length ≤ l.length + 1 := by
  have := cst_len 47 l
  unfold cuts
  simp only [List.length_append, List.length_singleton]
  omega
theorem parts_count (l : BL) : (partsF l).length ≤ 201 := by
  unfold partsF
  split
  · rename_i h
    have h1 : l.length ≤ 200 := by
      unfold chkE at h
      split at h
      · cases h
      · split at h
        · cases h
        · split at h
          · cases h
          · omega
    have h2 := cuts_len l
    have h3 := List.length_filter_le goodP (cuts 47 l)
    unfold partsL
    omega
  · simp
theorem parts_small (l : BL) : ∀ p ∈ partsF l, p.length ≤ 1000 := by
  unfold partsF
  split
  · rename_i h
    intro p hp
    have h1 : tooLong l = false := by
      unfold chkE at h
      split at h
      · cases h
      · split at h
        · cases h
        · split at h
          · cases h
          · split at h
            · cases h
            · rename_i h5; simpa using h5
    unfold tooLong at h1
    rw [List.any_eq_false] at h1
    have := h1 p (List.mem_filter.1 hp).1
    simp at this
    omega
  · simp
theorem app_small {a b : List BL} {n : Nat} (ha : ∀ p ∈ a, p.length ≤ n) (hb : ∀ p ∈ b, p.length ≤ n) : ∀ p ∈ a ++ b, p.length ≤ n := by
  intro p hp
  rcases List.mem_append.1 hp with h | h
  · exact ha p h
  · exact hb p h

/-- x[1:]. -/
theorem tail_slice (b o c n : Nat) (hn : n + 1 ≤ c) : ∃ aR : Addr, (∀ w, (Instr.slice 27 (.slice (some ⟨b, o, none⟩) (n + 1) c) (some (.int .i64 1)) none none).run Tryz.prog w = .ok (.slice (some aR) n (c - 1)) w) ∧ ∀ (w : World) (x : Value) (cs : List Value), Cel w (some ⟨b, o, none⟩) (n + 1) (x :: cs) → Cel w (some aR) n cs := by
  have hz : ∀ w, (sizeOf (Tryz.prog.elem 27)).run Tryz.prog w = .ok 1 w := fun w => by kernel_rfl
  refine ⟨if c = 1 then ⟨b, o, none⟩ else ⟨b, o + 1, none⟩, fun w => ?_, fun w x cs h => ?_⟩
  · rw [run_slice_l w 27 _ _ _ (by kernel_rfl) .i64 1 (by omega) (by omega), hz]
    simp only [Result.andThen, sliced]
    by_cases h1 : c = 1
    · subst h1; simp
    · have : ¬ c = (1 : Int).toNat := h1
      rw [if_neg this, if_neg h1]
      simp [Addr.add]
  · have hl : cs.length = n := by have := h.hlen; simpa using this
    refine ⟨hl, fun i hi => ?_⟩
    rw [if_neg (by omega)]
    obtain ⟨b', o', e, hc⟩ := h.cell (i + 1) (by simp; omega)
    cases e
    refine ⟨b, o + 1, rfl, ?_⟩
    rw [show o + 1 + i = o + (i + 1) by omega, hc]
    simp

theorem _root_.Go.RowKit.Below.below_of_own {W2 w3 w4 : World} {e size n : Nat} {v : Value} {xs : List Value} (_ : Below w3.heap.size w3 w3) (hg : w3.grownBy w4 v.ownBlock) (ho : w3.ownsRow W2.heap.size e size v n xs) (hz : W2.heap.size ≤ w3.heap.size) (hb : Below W2.heap.size W2 w3) : Below W2.heap.size W2 w4 :=
  hb.grown hg hz (fun k hk => own_low ho (Nat.le_refl _) k hk)
def lenS : Value → Nat
  | .slice _ n _ => n
  | _ => 0

set_option maxRecDepth 100000 in
set_option maxHeartbeats 8000000 in
theorem follow_any (F : Nat) (t : FT) (c : CR) (i : Nat) (left0 : List BL) (aL0 : Option Addr) (cL0 : Nat) (last : Bool) (w : World) (h : FSat w F t) (hi : i < t.L.length) (hc : CrOk w c) (hC : Cel w aL0 left0.length (strs left0)) (hcap : left0.length ≤ cL0) (hlen : left0.length ≤ 201) (hsm : ∀ p ∈ left0, p.length ≤ 1000) :
    Calls Tryz.prog 61 #[.pointer (some ⟨F, 0, none⟩), c.v, ndV (t.pt i), .slice aL0 left0.length cL0, .bool last] w fun e w' => e = .returned (resV t (followL t.L c last 0 i left0)) ∧ Below w.heap.size w w' := by
  have hb0 : Below w.heap.size w (w.alloc (.cells #[.int .u32 c.u, .int .u32 c.e, .int .u32 c.s, .int .u32 c.g, .slice c.a c.n c.c] 26)) := bal _
  have HX := hid (Row.new w 26 [.int .u32 c.u, .int .u32 c.e, .int .u32 c.s, .int .u32 c.g, .slice c.a c.n c.c])
  have HW0 := hid hb0
  have HFS := hid (h.below hb0)
  have HCR0 := hid (hc.below hb0)
  have HC0 := hid (hC.below' hb0)
  have HSM := hid hsm
  clear hb0 h hc hC hsm
  generalize hR : followL t.L c last 0 i left0 = R
  unfold CR.v
  go_enter Tryz.func61, Tryz.ntmps61
  go_wp2_with fail
  obtain ⟨W0, hW0⟩ : ∃ W0, W0 = w.alloc (.cells #[.int .u32 c.u, .int .u32 c.e, .int .u32 c.s, .int .u32 c.g, .slice c.a c.n c.c] 26) := ⟨_, rfl⟩
  rw [show w.alloc (.cells [.int .u32 c.u, .int .u32 c.e, .int .u32 c.s, .int .u32 c.g, .slice c.a c.n c.c].toArray 26) = W0 from hW0.symm] at HX
  rw [← hW0] at HW0 HFS HCR0 HC0 ⊢
  clear hW0
  go_loopw [2, 3, 12] (fun s2 s3 s12 wr => ∃ (links at_ : Nat) (left : List BL) (aL : Option Addr) (cL : Nat), at_ < t.L.length ∧ links ≤ 8 ∧ s2 = ndV (t.pt at_) ∧ s3 = .slice aL left.length cL ∧ s12 = .int .i64 links ∧ Cel wr aL left.length (strs left) ∧ left.length ≤ cL ∧ left.length ≤ 201 * (links + 1) ∧ (∀ p ∈ left, p.length ≤ 1000) ∧ Below W0.heap.size W0 wr ∧ followL t.L c last links at_ left = R) (fun _ s3 s12 _ => (9 - (intOf s12).toNat) * 100000 + lenS s3)
  case atStart => exact ⟨0, i, left0, aL0, cL0, hi, by omega, rfl, rfl, rfl, HC0.out, hcap, by omega, HSM.out, Below.refl _ _, hR⟩
  case round =>
    clear hR hcap hlen hi
    obtain ⟨links, at_, left, aL, cL, hat, hlk, hs2, rfl, rfl, hC, hcap, hlen, hsm, hb, hfl⟩ := hrel
    have HAT := hid hat
    have HB := hid hb
    have HWW := hid (bthen HW0.out hb)
    have HFL := hid hfl
    clear hfl
    cases left with
    | nil =>
      have HR2 := hid (HFL.out.symm.trans followL_nil)
      subst hs2
      clear hb hC hsm hcap hlen hlk
      go_wp2_with fail
      go_ret2
      exact ⟨by rw [HR2.out]; unfold resV; rw [if_pos rfl]; rfl, HWW.out⟩
    | cons p rest =>
      obtain ⟨b, o, rfl, hcell⟩ := hC.some_of (by simp [strs])
      have hc0 : wr.cell? ⟨b, o + 0, none⟩ = some (.string (ba p)) := hcell 0 (by simp [strs])
      rw [Nat.add_zero] at hc0
      obtain ⟨aR, hsl, hcr⟩ := tail_slice b o cL rest.length (by simpa using hcap)
      have HCC := hid (fun (wz : World) (hz : Below wr.heap.size wr wz) => hcr wz _ _ (hC.below' hz))
      have HSM2 := hid (fun p' (hp : p' ∈ rest) => hsm p' (List.mem_cons_of_mem _ hp))
      have hpl := hsm p (List.mem_cons_self ..)
      have hbox := HX.out.below hb HX.out.lt
      have HSTEP := hid (fun (wz : World) (hz : Below wr.heap.size wr wz) => step_any F t c at_ p wz (HFS.out.below (bthen hb hz)) hat (HCR0.out.below (bthen hb hz)) (by omega))
      have HBXX := hid hb
      simp only [List.length_cons] at hcap hlen
      clear hC hcr hsm hb
      subst hs2
      obtain ⟨q0, q1, q2, q3, q4⟩ := five_rg hbox.five
      have hq0 := rg_cell hc0
      have hbl : ∀ d os, b < (rg wr d os).heap.size := fun d os => World.block_lt_of_cell? _ _ (hq0 d os)
      clear hbox hcell hc0
      simp only [List.length_cons]
      cases hst : stepL t.L c at_ p with
      | mk er nx =>
        by_cases her : er = 0
        · subst her
          have HST := hid hst
          have HNX := hid (step_in HFS.out.fine hat hst)
          have cc := hid (fun (d : Nat) (os : Array Obj) => rg_call (HSTEP.out (rg wr d os) (rg_below _ _ _)))
          rw [hst] at cc
          simp only [resV, if_true] at cc
          have HKV := hid (ndV_kind (t.nd nx).kind (t.bk nx))
          rw [show ndV (ndT (t.nd nx).kind, t.bk nx) = ndV (t.pt nx) from rfl] at HKV
          unfold CR.v at cc
          clear hst HSTEP
          go_wp2_with fail
          refine region_rg (by kernel_rfl) (by kernel_rfl) ?_
          repeat (quiet_step (with_reducible exact cc.out _ _))
          refine wpQuiet_nil ?_
          intro _ hw'
          obtain ⟨⟨dq, osq⟩, hw''⟩ := hw'
          subst hw''
          have HBX := hid (HBXX.out.trans ((rg_below wr dq osq).mono HBXX.out.size))
          have HWW2 := hid (bthen HWW.out (rg_below wr dq osq))
          have HCR := hid (HCC.out _ (rg_below wr dq osq))
          have HFS2 := hid (HFS.out.below HBX.out)
          clear q0 q1 q2 q3 q4 hq0 hbl cc HCC
          generalize rg wr dq osq = W2 at *
          rw [HKV.out]
          by_cases hk3 : (t.nd nx).kind = 3
          · have hk2 : ¬ (t.nd nx).kind = 2 := by omega
            rw [if_neg hk2, if_pos hk3] at HKV ⊢
            have HKN := hid hk3
            have hta := ta_ll (t.bk nx)
            clear hk2 hk3
            by_cases hre : rest = []
            · have hq : ((rest.length : Int) == 0) = true := by rw [hre]; rfl
              cases last
              · have HLA := hid (show (t.nd nx).kind ≠ 3 ∨ (rest = [] ∧ false = false) from .inr ⟨hre, rfl⟩)
                clear hre
                have HR2 := hid (HFL.out.symm.trans (followL_step HST.out HLA.out))
                go_wp2_with fail
                go_roundw
                case rel => exact ⟨links, nx, rest, some aR, cL - 1, HNX.out, by omega, HKV.out.symm, rfl, rfl, HCR.out, by omega, by omega, HSM2.out, HBX.out, HR2.out.symm⟩
                case measure => simp only [intOf, lenS]; omega
              · have HLA := hid (show ¬ (rest = [] ∧ true = false) by simp)
                clear hre
                by_cases h8 : 8 ≤ links
                · have HR2 := hid (HFL.out.symm.trans (followL_loop HST.out HKN.out HLA.out h8))
                  have d8 : decide ((8 : Int) < (links : Int) + 1) = true := by simp; omega
                  clear h8
                  go_wp2_with fail
                  go_ret2
                  exact ⟨by rw [HR2.out]; rfl, HWW2.out⟩
                · have HR2 := hid (HFL.out.symm.trans (followL_link HST.out HKN.out HLA.out h8))
                  have d8 : decide ((8 : Int) < (links : Int) + 1) = false := by simp; omega
                  have h8' : links < 8 := by omega
                  have hdl := (HFS2.out.node _ HNX.out).link HKN.out
                  obtain ⟨_, _, _, _, k8⟩ := hd_cells hdl
                  have hkl := hdl.lt
                  have HTO := hid (HFS2.out.fine.to _ HNX.out)
                  clear h8 hdl
                  go_wp2_with fail
                  refine (parts_any (ba (t.nd nx).to) W2 (by rw [ba_size]; have h200 : (t.nd nx).to.length ≤ 200 := HTO.out; omega)).mono ?_
                  rintro e' w3 ⟨v3, rfl, ho3, hb3⟩
                  rw [show (ba (t.nd nx).to).data.toList = (t.nd nx).to from rfl] at ho3 ⊢
                  have HO3 := hid ho3
                  have HB3 := hid hb3
                  have HZ3 := hid hb3.size
                  have HC3 := hid (HCR.out.below' hb3)
                  have HP1 := hid (parts_count (t.nd nx).to)
                  have HP2 := hid (parts_small (t.nd nx).to)
                  have HF3 := hid (HFS2.out.below hb3)
                  have HWW3 := hid (HWW2.out.trans (hb3.mono HWW2.out.size))
                  obtain ⟨ia, hia, hza0, hza1, hza2⟩ := info_parts infoStr
                  have hp1 := HP1.out
                  have HM1 := hid (show (partsF (t.nd nx).to).length + rest.length ≤ maxLen by unfold maxLen; omega)
                  have HM2 := hid (show ((partsF (t.nd nx).to).length + rest.length) * 16 ≤ 140737488355328 by omega)
                  have HRL := hid (show (strs rest).length = rest.length * 1 by simp [strs])
                  have HR1 := hid (strs_one1 rest)
                  clear ho3 hb3 k8 hkl
                  cases hrt : rootF (t.nd nx).to
                  · have hrt' : ¬ rootF (t.L.getD nx default).to = true := by intro e; have e2 : rootF (t.nd nx).to = true := e; rw [hrt] at e2; cases e2
                    rw [if_neg hrt'] at HR2
                    clear hrt hrt'
                    go_wp2_with (at_builtin; go_must (refine wpList_append_own _ rfl _ _ 27 rfl W2.heap.size 9 ia (.string ByteArray.empty) 1 16 Tryz.underlying27 hia hza0 hza1 hza2 rfl (by decide) v3 (partsF (t.nd nx).to).length (strs (partsF (t.nd nx).to)) rfl HO3.out aR rest.length (cL - 1) (strs rest) rfl HRL.out (HC3.out.news) HR1.out HM1.out HM2.out HZ3.out ?_; intro v4 w4 hown hgrow _; have HO4 := hid hown; have HB4 := hid ((Below.refl w3.heap.size w3).below_of_own hgrow HO3.out HZ3.out HB3.out); clear hown hgrow))
                    obtain ⟨a4, c4, rfl, hc4, _, hcc4, _⟩ := own_cel HO4.out
                    rw [← strs_app] at hc4
                    have HC4 := hid hc4
                    have HCC4 := hid hcc4
                    have HB24 := hid (HBX.out.trans (HB4.out.mono HBX.out.size))
                    clear hc4 hcc4
                    go_roundw
                    case rel => exact ⟨links + 1, at_, partsF (t.nd nx).to ++ rest, a4, c4, HAT.out, by omega, rfl, by rw [List.length_append], by go_num, by rw [List.length_append]; exact HC4.out, by rw [List.length_append]; exact HCC4.out, by rw [List.length_append]; omega, app_small HP2.out HSM2.out, HB24.out, HR2.out.symm⟩
                    case measure => simp only [intOf, lenS]; omega
                  · have hrt' : rootF (t.L.getD nx default).to = true := hrt
                    rw [if_pos hrt'] at HR2
                    clear hrt hrt'
                    obtain ⟨a9, c9, z0, z1, hFz, _⟩ := HFS2.out.at
                    have HZ0 := hid z0
                    have HK0 := hid (show ndV (t.pt 0) = .iface 52 (.pointer (some ⟨t.bk 0, 0, none⟩)) by
                      have hk0 : (t.nd 0).kind = 2 := HFS2.out.fine.root
                      rw [show ndV (t.pt 0) = ndV (ndT (t.nd 0).kind, t.bk 0) from rfl, ndV_kind, if_pos hk0])
                    have HPOS := hid HFS2.out.fine.pos
                    clear z0 z1 hFz
                    go_wp2_with (at_builtin; go_must (refine wpList_append_own _ rfl _ _ 27 rfl W2.heap.size 9 ia (.string ByteArray.empty) 1 16 Tryz.underlying27 hia hza0 hza1 hza2 rfl (by decide) v3 (partsF (t.nd nx).to).length (strs (partsF (t.nd nx).to)) rfl HO3.out aR rest.length (cL - 1) (strs rest) rfl HRL.out (HC3.out.news) HR1.out HM1.out HM2.out HZ3.out ?_; intro v4 w4 hown hgrow _; have HO4 := hid hown; have HB4 := hid ((Below.refl w3.heap.size w3).below_of_own hgrow HO3.out HZ3.out HB3.out); have hz0 := keepC HB4.out HZ0.out; clear hown hgrow))
                    obtain ⟨a4, c4, rfl, hc4, _, hcc4, _⟩ := own_cel HO4.out
                    rw [← strs_app] at hc4
                    have HC4 := hid hc4
                    have HCC4 := hid hcc4
                    have HB24 := hid (HBX.out.trans (HB4.out.mono HBX.out.size))
                    clear hc4 hcc4
                    go_roundw
                    case rel => exact ⟨links + 1, 0, partsF (t.nd nx).to ++ rest, a4, c4, HPOS.out, by omega, HK0.out.symm, by rw [List.length_append], by go_num, by rw [List.length_append]; exact HC4.out, by rw [List.length_append]; exact HCC4.out, by rw [List.length_append]; omega, app_small HP2.out HSM2.out, HB24.out, HR2.out.symm⟩
                    case measure => simp only [intOf, lenS]; omega
            · have hq : ((rest.length : Int) == 0) = false := by
                rw [beq_eq_false_iff_ne]
                intro e
                exact hre (List.length_eq_zero_iff.1 (by omega))
              have HLA := hid (show ¬ (rest = [] ∧ last = false) from fun h => hre h.1)
              clear hre
              by_cases h8 : 8 ≤ links
              · have HR2 := hid (HFL.out.symm.trans (followL_loop HST.out HKN.out HLA.out h8))
                have d8 : decide ((8 : Int) < (links : Int) + 1) = true := by simp; omega
                clear h8
                go_wp2_with fail
                go_ret2
                exact ⟨by rw [HR2.out]; rfl, HWW2.out⟩
              · have HR2 := hid (HFL.out.symm.trans (followL_link HST.out HKN.out HLA.out h8))
                have d8 : decide ((8 : Int) < (links : Int) + 1) = false := by simp; omega
                have h8' : links < 8 := by omega
                have hdl := (HFS2.out.node _ HNX.out).link HKN.out
                obtain ⟨_, _, _, _, k8⟩ := hd_cells hdl
                have hkl := hdl.lt
                have HTO := hid (HFS2.out.fine.to _ HNX.out)
                clear h8 hdl
                go_wp2_with fail
                refine (parts_any (ba (t.nd nx).to) W2 (by rw [ba_size]; have h200 : (t.nd nx).to.length ≤ 200 := HTO.out; omega)).mono ?_
                rintro e' w3 ⟨v3, rfl, ho3, hb3⟩
                rw [show (ba (t.nd nx).to).data.toList = (t.nd nx).to from rfl] at ho3 ⊢
                have HO3 := hid ho3
                have HB3 := hid hb3
                have HZ3 := hid hb3.size
                have HC3 := hid (HCR.out.below' hb3)
                have HP1 := hid (parts_count (t.nd nx).to)
                have HP2 := hid (parts_small (t.nd nx).to)
                have HF3 := hid (HFS2.out.below hb3)
                have HWW3 := hid (HWW2.out.trans (hb3.mono HWW2.out.size))
                obtain ⟨ia, hia, hza0, hza1, hza2⟩ := info_parts infoStr
                have hp1 := HP1.out
                have HM1 := hid (show (partsF (t.nd nx).to).length + rest.length ≤ maxLen by unfold maxLen; omega)
                have HM2 := hid (show ((partsF (t.nd nx).to).length + rest.length) * 16 ≤ 140737488355328 by omega)
                have HRL := hid (show (strs rest).length = rest.length * 1 by simp [strs])
                have HR1 := hid (strs_one1 rest)
                clear ho3 hb3 k8 hkl
                cases hrt : rootF (t.nd nx).to
                · have hrt' : ¬ rootF (t.L.getD nx default).to = true := by intro e; have e2 : rootF (t.nd nx).to = true := e; rw [hrt] at e2; cases e2
                  rw [if_neg hrt'] at HR2
                  clear hrt hrt'
                  go_wp2_with (at_builtin; go_must (refine wpList_append_own _ rfl _ _ 27 rfl W2.heap.size 9 ia (.string ByteArray.empty) 1 16 Tryz.underlying27 hia hza0 hza1 hza2 rfl (by decide) v3 (partsF (t.nd nx).to).length (strs (partsF (t.nd nx).to)) rfl HO3.out aR rest.length (cL - 1) (strs rest) rfl HRL.out (HC3.out.news) HR1.out HM1.out HM2.out HZ3.out ?_; intro v4 w4 hown hgrow _; have HO4 := hid hown; have HB4 := hid ((Below.refl w3.heap.size w3).below_of_own hgrow HO3.out HZ3.out HB3.out); clear hown hgrow))
                  obtain ⟨a4, c4, rfl, hc4, _, hcc4, _⟩ := own_cel HO4.out
                  rw [← strs_app] at hc4
                  have HC4 := hid hc4
                  have HCC4 := hid hcc4
                  have HB24 := hid (HBX.out.trans (HB4.out.mono HBX.out.size))
                  clear hc4 hcc4
                  go_roundw
                  case rel => exact ⟨links + 1, at_, partsF (t.nd nx).to ++ rest, a4, c4, HAT.out, by omega, rfl, by rw [List.length_append], by go_num, by rw [List.length_append]; exact HC4.out, by rw [List.length_append]; exact HCC4.out, by rw [List.length_append]; omega, app_small HP2.out HSM2.out, HB24.out, HR2.out.symm⟩
                  case measure => simp only [intOf, lenS]; omega
                · have hrt' : rootF (t.L.getD nx default).to = true := hrt
                  rw [if_pos hrt'] at HR2
                  clear hrt hrt'
                  obtain ⟨a9, c9, z0, z1, hFz, _⟩ := HFS2.out.at
                  have HZ0 := hid z0
                  have HK0 := hid (show ndV (t.pt 0) = .iface 52 (.pointer (some ⟨t.bk 0, 0, none⟩)) by
                    have hk0 : (t.nd 0).kind = 2 := HFS2.out.fine.root
                    rw [show ndV (t.pt 0) = ndV (ndT (t.nd 0).kind, t.bk 0) from rfl, ndV_kind, if_pos hk0])
                  have HPOS := hid HFS2.out.fine.pos
                  clear z0 z1 hFz
                  go_wp2_with (at_builtin; go_must (refine wpList_append_own _ rfl _ _ 27 rfl W2.heap.size 9 ia (.string ByteArray.empty) 1 16 Tryz.underlying27 hia hza0 hza1 hza2 rfl (by decide) v3 (partsF (t.nd nx).to).length (strs (partsF (t.nd nx).to)) rfl HO3.out aR rest.length (cL - 1) (strs rest) rfl HRL.out (HC3.out.news) HR1.out HM1.out HM2.out HZ3.out ?_; intro v4 w4 hown hgrow _; have HO4 := hid hown; have HB4 := hid ((Below.refl w3.heap.size w3).below_of_own hgrow HO3.out HZ3.out HB3.out); have hz0 := keepC HB4.out HZ0.out; clear hown hgrow))
                  obtain ⟨a4, c4, rfl, hc4, _, hcc4, _⟩ := own_cel HO4.out
                  rw [← strs_app] at hc4
                  have HC4 := hid hc4
                  have HCC4 := hid hcc4
                  have HB24 := hid (HBX.out.trans (HB4.out.mono HBX.out.size))
                  clear hc4 hcc4
                  go_roundw
                  case rel => exact ⟨links + 1, 0, partsF (t.nd nx).to ++ rest, a4, c4, HPOS.out, by omega, HK0.out.symm, by rw [List.length_append], by go_num, by rw [List.length_append]; exact HC4.out, by rw [List.length_append]; exact HCC4.out, by rw [List.length_append]; omega, app_small HP2.out HSM2.out, HB24.out, HR2.out.symm⟩
                  case measure => simp only [intOf, lenS]; omega
          · have HLA := hid (show (t.nd nx).kind ≠ 3 ∨ (rest = [] ∧ last = false) from .inl hk3)
            by_cases hk2 : (t.nd nx).kind = 2
            · rw [if_pos hk2] at HKV ⊢
              have hta := ta_ld (t.bk nx)
              clear hk2 hk3
              have HR2 := hid (HFL.out.symm.trans (followL_step HST.out HLA.out))
              go_wp2_with fail
              go_roundw
              case rel => exact ⟨links, nx, rest, some aR, cL - 1, HNX.out, by omega, HKV.out.symm, rfl, rfl, HCR.out, by omega, by omega, HSM2.out, HBX.out, HR2.out.symm⟩
              case measure => simp only [intOf, lenS]; omega
            · rw [if_neg hk2, if_neg hk3] at HKV ⊢
              have hta := ta_lf (t.bk nx)
              clear hk2 hk3
              have HR2 := hid (HFL.out.symm.trans (followL_step HST.out HLA.out))
              go_wp2_with fail
              go_roundw
              case rel => exact ⟨links, nx, rest, some aR, cL - 1, HNX.out, by omega, HKV.out.symm, rfl, rfl, HCR.out, by omega, by omega, HSM2.out, HBX.out, HR2.out.symm⟩
              case measure => simp only [intOf, lenS]; omega
        · have HR2 := hid (HFL.out.symm.trans (followL_bad (by rw [hst]; exact her)))
          have cc := hid (fun (d : Nat) (os : Array Obj) => rg_call (HSTEP.out (rg wr d os) (rg_below _ _ _)))
          rw [hst] at cc HR2
          simp only [resV, if_neg her] at cc
          have her' : (er == 0) = false := by simpa using her
          unfold CR.v at cc
          have HER := hid her
          clear hst HSTEP her
          go_wp2_with fail
          refine region_rg (by kernel_rfl) (by kernel_rfl) ?_
          repeat (quiet_step (with_reducible exact cc.out _ _))
          refine wpQuiet_nil ?_
          intro _ hw'
          obtain ⟨⟨dq, osq⟩, hw''⟩ := hw'
          subst hw''
          go_wp2_with fail
          go_ret2
          exact ⟨by rw [HR2.out]; unfold resV; rw [if_neg HER.out]; rfl, bthen HWW.out (rg_below wr dq osq)⟩
end Go.Proofs.YthamfhenadaapaaGreatDoor
