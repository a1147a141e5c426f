/- A file system in plain words, and as it lies in memory. -/
import Derived.Test.YtgclemicgcbpjaaFm
import Derived.Test.YtgclemicgcbpjaaC
import Derived.Test.YtgclemicgcbpjaaE0
import Derived.Test.YtgclemicgcbpjaaP4
import Derived.Test.YtgclemicgcbpjaaVm
namespace Go.Proofs.Ytgclemicgcbpjaa
open Go.RowKit Go.Sort

/-- A node: what is known of it, and what is in it. -/
structure ND where
  path : BL
  up : Nat
  kind : Int
  mode : Int
  uid : Int
  gid : Int
  size : Int
  names : List (BL × Nat)
  data : BL
  to : BL
deriving Inhabited, DecidableEq

def ndT (k : Int) : Nat := if k = 2 then 81 else if k = 3 then 116 else 91
def ndR (k : Int) : Nat := if k = 2 then 98 else if k = 3 then 119 else 94
/-- The nodes, and the blocks in which they lie (and their maps). -/
structure FT where
  L : List ND
  bs : List Nat
  ms : List Nat
def FT.nd (t : FT) (i : Nat) : ND := t.L.getD i default
def FT.bk (t : FT) (i : Nat) : Nat := t.bs.getD i 0
def FT.mp (t : FT) (i : Nat) : Nat := t.ms.getD i 0
def FT.pt (t : FT) (i : Nat) : Nat × Nat := (ndT (t.nd i).kind, t.bk i)
def FT.nl (t : FT) (i : Nat) : NL := (t.nd i).names.map fun p => (p.1, t.pt p.2)
def FT.hd (t : FT) (i : Nat) : List Value := [.int .i64 (i : Nat), .string (ba (t.nd i).path), .pointer (some ⟨t.bk (t.nd i).up, 0, none⟩), .int .u8 (t.nd i).kind, .int .u16 (t.nd i).mode, .int .u32 (t.nd i).uid, .int .u32 (t.nd i).gid, .int .i64 (t.nd i).size]

/-- A node in memory. -/
structure NodeAt (w : World) (t : FT) (i : Nat) : Prop where
  dir : (t.nd i).kind = 2 → Row w (t.bk i) 98 (t.hd i ++ [.map (some (t.mp i))]) ∧ NMap w (t.mp i) (t.nl i)
  link : (t.nd i).kind = 3 → Row w (t.bk i) 119 (t.hd i ++ [.string (ba (t.nd i).to)])
  file : (t.nd i).kind ≠ 2 → (t.nd i).kind ≠ 3 → ∃ v, Row w (t.bk i) 94 (t.hd i ++ [v]) ∧ w.ownsRow 0 5 1 v (t.nd i).data.length ((t.nd i).data.map B8)

/-- What holds of the nodes, whatever memory is. -/
structure Fine (L : List ND) : Prop where
  pos : 0 < L.length
  most : L.length ≤ 65
  root : (L.getD 0 default).kind = 2
  up : ∀ i, i < L.length → (L.getD i default).up < L.length ∧ (L.getD (L.getD i default).up default).kind = 2
  names : ∀ i, i < L.length → ∀ p ∈ (L.getD i default).names, p.2 < L.length
  many : ∀ i, i < L.length → (L.getD i default).names.length ≤ L.length
  data : ∀ i, i < L.length → (L.getD i default).data.length ≤ 65536 ∧ (L.getD i default).size = ((L.getD i default).data.length : Nat)
  mode : ∀ i, i < L.length → 0 ≤ (L.getD i default).mode ∧ (L.getD i default).mode ≤ 65535
  path : ∀ i, i < L.length → (L.getD i default).path.length ≤ 1000000
  to : ∀ i, i < L.length → (L.getD i default).to.length ≤ 200

/-- A file system in memory. -/
structure FSat (w : World) (F : Nat) (t : FT) : Prop where
  fine : Fine t.L
  top : ∃ v, Row w F 84 [.pointer (some ⟨t.bk 0, 0, none⟩), v] ∧ w.ownsRow 0 75 1 v t.L.length ((List.range t.L.length).map fun i => ndV (t.pt i))
  node : ∀ i, i < t.L.length → NodeAt w t i

theorem own_same {w w' : World} {base e size n : Nat} {v : Value} {xs : List Value} (h : w.ownsRow base e size v n xs) (hk : ∀ (b : Nat) (cs : Array Value), w.heap[b]? = some (Obj.cells cs e (0, 0)) → w'.heap[b]? = w.heap[b]?) : w'.ownsRow base e size v n xs := by
  refine ⟨h.1, ?_⟩
  rcases h.2 with hn | ⟨g, cap, cur, hv, hbg, hg, r⟩
  · exact .inl hn
  · exact .inr ⟨g, cap, cur, hv, hbg, by rw [hk g cur hg]; exact hg, r⟩
theorem Row.same {w w' : World} {g : Nat} {E : TypeId} {cs : List Value} (h : Row w g E cs) (hk : w'.heap[g]? = w.heap[g]?) : Row w' g E cs := ⟨by rw [hk]; exact h.heap⟩
theorem NodeAt.below {w w' : World} {t : FT} {i : Nat} (h : NodeAt w t i) (hb : Below w.heap.size w w') : NodeAt w' t i :=
  ⟨fun k => ⟨(h.dir k).1.below hb (h.dir k).1.lt, (h.dir k).2.below hb⟩, fun k => (h.link k).below hb (h.link k).lt, fun k k' => by
    obtain ⟨v, h1, h2⟩ := h.file k k'
    exact ⟨v, h1.below hb h1.lt, own_below h2 hb⟩⟩
theorem FSat.below {w w' : World} {F : Nat} {t : FT} (h : FSat w F t) (hb : Below w.heap.size w w') : FSat w' F t :=
  ⟨h.fine, by
    obtain ⟨v, h1, h2⟩ := h.top
    exact ⟨v, h1.below hb h1.lt, own_below h2 hb⟩, fun i hi => (h.node i hi).below hb⟩

/-- The eight cells that every node has. -/
theorem NodeAt.head {w : World} {t : FT} {i : Nat} (h : NodeAt w t i) : ∃ v, Row w (t.bk i) (ndR (t.nd i).kind) (t.hd i ++ [v]) := by
  unfold ndR
  by_cases k2 : (t.nd i).kind = 2
  · rw [if_pos k2]; exact ⟨_, (h.dir k2).1⟩
  · rw [if_neg k2]
    by_cases k3 : (t.nd i).kind = 3
    · rw [if_pos k3]; exact ⟨_, h.link k3⟩
    · rw [if_neg k3]
      obtain ⟨v, h1, _⟩ := h.file k2 k3
      exact ⟨v, h1⟩
theorem hd_cells {w : World} {t : FT} {i b : Nat} {E : TypeId} {v : Value} (h : Row w b E (t.hd i ++ [v])) :
    (w.cell? ⟨b, 0, none⟩ = some (.int .i64 (i : Nat)) ∧ w.cell? ⟨b, 1, none⟩ = some (.string (ba (t.nd i).path)) ∧ w.cell? ⟨b, 2, none⟩ = some (.pointer (some ⟨t.bk (t.nd i).up, 0, none⟩)) ∧ w.cell? ⟨b, 3, none⟩ = some (.int .u8 (t.nd i).kind) ∧ w.cell? ⟨b, 4, none⟩ = some (.int .u16 (t.nd i).mode)) ∧
    (w.cell? ⟨b, 5, none⟩ = some (.int .u32 (t.nd i).uid) ∧ w.cell? ⟨b, 6, none⟩ = some (.int .u32 (t.nd i).gid) ∧ w.cell? ⟨b, 7, none⟩ = some (.int .i64 (t.nd i).size) ∧ w.cell? ⟨b, 8, none⟩ = some v) :=
  ⟨⟨h.cell 0 (by simp [FT.hd]), h.cell 1 (by simp [FT.hd]), h.cell 2 (by simp [FT.hd]), h.cell 3 (by simp [FT.hd]), h.cell 4 (by simp [FT.hd])⟩, h.cell 5 (by simp [FT.hd]), h.cell 6 (by simp [FT.hd]), h.cell 7 (by simp [FT.hd]), h.cell 8 (by simp [FT.hd])⟩

/-- The node's value in the slice of nodes. -/
theorem FSat.at {w : World} {F : Nat} {t : FT} (h : FSat w F t) : ∃ a c, w.cell? ⟨F, 0, none⟩ = some (.pointer (some ⟨t.bk 0, 0, none⟩)) ∧ w.cell? ⟨F, 1, none⟩ = some (.slice a t.L.length c) ∧ F < w.heap.size ∧ ∃ b off, a = some ⟨b, off, none⟩ ∧ b < w.heap.size ∧ ∀ i, i < t.L.length → w.cell? ⟨b, off + i, none⟩ = some (ndV (t.pt i)) := by
  obtain ⟨v, h1, h2⟩ := h.top
  obtain ⟨a, c, rfl, hc, _⟩ := own_cel h2
  obtain ⟨b, off, rfl, hat⟩ := hc.some_of (by simp; exact h.fine.pos)
  have hz := World.block_lt_of_cell? w _ (hat 0 (by simp; exact h.fine.pos))
  exact ⟨_, c, h1.cell 0 (by simp), h1.cell 1 (by simp), h1.lt, b, off, rfl, hz, fun i hi => by
    have := hat i (by simpa using hi)
    simpa using this⟩
end Go.Proofs.Ytgclemicgcbpjaa
