/- Objects in memory. -/
import Derived.Test.YtblefgkhikfmhaaRows
import Derived.Test.YtblefgkhikfmhaaSyM
import Derived.Test.YtblefgkhikfmhaaRK
import Derived.Test.YtblefgkhikfmhaaY
import Derived.Test.YtblefgkhikfmhaaRF
namespace Go.Proofs.Ytblefgkhikfmhaa
open Go.RowKit Go.Sort

structure RL where
  off : Int
  typ : Int
  sym : Int
  add : Int
deriving Inhabited, DecidableEq
structure OB where
  ino : Int
  base : Int
  typ : Int
  entry : Int
  phoff : Int
  ga : Option Addr
  gn : Nat
  gc : Nat
  na : Option Addr
  nn : Nat
  nc : Nat
  nd : List BL
  soname : BL
  run : BL
  sa : Option Addr
  sn : Nat
  sc : Nat
  sy : List SY
  ra : Option Addr
  rn : Nat
  rc : Nat
  rl : List RL
instance : Inhabited OB := ⟨⟨0, 0, 0, 0, 0, none, 0, 0, none, 0, 0, [], [], [], none, 0, 0, [], none, 0, 0, []⟩⟩
def syC (s : SY) : List Value := [.string (ba s.name), .int .u64 s.value, .int .u64 s.size, .int .u8 s.bind, .bool s.dfn]
def rlC (r : RL) : List Value := [.int .u64 r.off, .int .u32 r.typ, .int .i64 r.sym, .int .i64 r.add]
def obC (x : OB) : List Value := [.int .i64 x.ino, .int .u64 x.base, .int .u16 x.typ, .int .u64 x.entry, .int .u64 x.phoff, Value.slice x.ga x.gn x.gc, .slice x.na x.nn x.nc, .string (ba x.soname), .string (ba x.run), .slice x.sa x.sn x.sc, .slice x.ra x.rn x.rc]
def toOS (x : OB) : OS := ⟨x.base, x.sy⟩
def osL (xs : List OB) : List OS := xs.map toOS
def syV (s : SY) : Value := .agg #[.string (ba s.name), .int .u64 s.value, .int .u64 s.size, .int .u8 s.bind, .bool s.dfn]

structure Objs (w : World) (a : Option Addr) (len : Nat) (xs : List OB) : Prop where
  rows : Rk w 11 a len (xs.map obC)
  syms : ∀ x ∈ xs, Rk w 5 x.sa x.sn (x.sy.map syC)
theorem Objs.below' {w w' : World} {a : Option Addr} {len : Nat} {xs : List OB} (h : Objs w a len xs) (hb : Below w.heap.size w w') : Objs w' a len xs := ⟨h.rows.below' hb, fun x hx => (h.syms x hx).below' hb⟩
theorem Objs.hlen {w : World} {a : Option Addr} {len : Nat} {xs : List OB} (h : Objs w a len xs) : xs.length = len := by have := h.rows.hlen; simpa using this
theorem Objs.sn {w : World} {a : Option Addr} {len : Nat} {xs : List OB} (h : Objs w a len xs) {x : OB} (hx : x ∈ xs) : x.sy.length = x.sn := by have := (h.syms x hx).hlen; simpa using this

/-- The eleven cells of an object. -/
theorem Objs.cells {w : World} {a : Option Addr} {len : Nat} {xs : List OB} (h : Objs w a len xs) {i : Nat} (hi : i < xs.length) : ∃ b off, a = some ⟨b, off, none⟩ ∧
    (w.cell? ⟨b, off + i * 11, none⟩ = some (.int .i64 xs[i].ino) ∧ w.cell? ⟨b, off + i * 11 + 1, none⟩ = some (.int .u64 xs[i].base) ∧ w.cell? ⟨b, off + i * 11 + 2, none⟩ = some (.int .u16 xs[i].typ) ∧ w.cell? ⟨b, off + i * 11 + 3, none⟩ = some (.int .u64 xs[i].entry) ∧
     w.cell? ⟨b, off + i * 11 + 4, none⟩ = some (.int .u64 xs[i].phoff) ∧ w.cell? ⟨b, off + i * 11 + 5, none⟩ = some (.slice xs[i].ga xs[i].gn xs[i].gc)) ∧
    (w.cell? ⟨b, off + i * 11 + 6, none⟩ = some (.slice xs[i].na xs[i].nn xs[i].nc) ∧ w.cell? ⟨b, off + i * 11 + 7, none⟩ = some (.string (ba xs[i].soname)) ∧ w.cell? ⟨b, off + i * 11 + 8, none⟩ = some (.string (ba xs[i].run)) ∧ w.cell? ⟨b, off + i * 11 + 9, none⟩ = some (.slice xs[i].sa xs[i].sn xs[i].sc) ∧
     w.cell? ⟨b, off + i * 11 + 10, none⟩ = some (.slice xs[i].ra xs[i].rn xs[i].rc)) := by
  obtain ⟨b, off, rfl, hc⟩ := h.rows.some_of (by simp; omega)
  have hi' : i < (xs.map obC).length := by simpa using hi
  have e : (xs.map obC)[i] = obC xs[i] := by simp
  have g := fun j hj => hc i hi' j hj
  rw [e] at g
  exact ⟨b, off, rfl, ⟨g 0 (by simp [obC]), g 1 (by simp [obC]), g 2 (by simp [obC]), g 3 (by simp [obC]), g 4 (by simp [obC]), g 5 (by simp [obC])⟩, g 6 (by simp [obC]), g 7 (by simp [obC]), g 8 (by simp [obC]), g 9 (by simp [obC]), g 10 (by simp [obC])⟩
/-- The five cells of a symbol. -/
theorem sy_cells {w : World} {a : Option Addr} {n : Nat} {l : List SY} (h : Rk w 5 a n (l.map syC)) {k : Nat} (hk : k < l.length) : ∃ b off, a = some ⟨b, off, none⟩ ∧
    w.cell? ⟨b, off + k * 5, none⟩ = some (.string (ba l[k].name)) ∧ w.cell? ⟨b, off + k * 5 + 1, none⟩ = some (.int .u64 l[k].value) ∧ w.cell? ⟨b, off + k * 5 + 2, none⟩ = some (.int .u64 l[k].size) ∧ w.cell? ⟨b, off + k * 5 + 3, none⟩ = some (.int .u8 l[k].bind) ∧ w.cell? ⟨b, off + k * 5 + 4, none⟩ = some (.bool l[k].dfn) := by
  obtain ⟨b, off, rfl, hc⟩ := h.some_of (by simp; omega)
  have hk' : k < (l.map syC).length := by simpa using hk
  have e : (l.map syC)[k] = syC l[k] := by simp
  have g := fun j hj => hc k hk' j hj
  rw [e] at g
  exact ⟨b, off, rfl, g 0 (by simp [syC]), g 1 (by simp [syC]), g 2 (by simp [syC]), g 3 (by simp [syC]), g 4 (by simp [syC])⟩

theorem defs_prefix {os : List OS} {i k : Nat} (hi : i < os.length) (hk : k ≤ os[i].sy.length) : (defsAt os i ++ defsTo i os[i].sy k) <+: defsL os := by
  have h1 : defsTo i os[i].sy k <+: defsTo i os[i].sy os[i].sy.length := by
    have : ∀ m, k + m ≤ os[i].sy.length → defsTo i os[i].sy k <+: defsTo i os[i].sy (k + m) := by
      intro m
      induction m with
      | zero => intro _; exact List.prefix_refl _
      | succ m ih =>
        intro hm
        rw [← Nat.add_assoc, defsTo_succ i os[i].sy (k := k + m) (by omega)]
        exact (ih (by omega)).trans (List.prefix_append _ _)
    have h := this (os[i].sy.length - k) (by omega)
    rwa [show k + (os[i].sy.length - k) = os[i].sy.length by omega] at h
  have h2 : defsAt os (i + 1) <+: defsL os := by
    have : ∀ m, i + 1 + m ≤ os.length → defsAt os (i + 1) <+: defsAt os (i + 1 + m) := by
      intro m
      induction m with
      | zero => intro _; exact List.prefix_refl _
      | succ m ih =>
        intro hm
        rw [← Nat.add_assoc, defsAt_succ os (i := i + 1 + m) (by omega)]
        exact (ih (by omega)).trans (List.prefix_append _ _)
    have h := this (os.length - (i + 1)) (by omega)
    rwa [show i + 1 + (os.length - (i + 1)) = os.length by omega, defsAt_full] at h
  refine List.IsPrefix.trans ?_ h2
  rw [defsAt_succ os hi, ← defsTo_full]
  exact List.prefix_append_right_inj _ |>.2 h1
end Go.Proofs.Ytblefgkhikfmhaa
