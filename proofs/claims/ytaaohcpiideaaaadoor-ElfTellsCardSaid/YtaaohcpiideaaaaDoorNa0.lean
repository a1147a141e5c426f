
/- elf.Parse, plain. -/
import Derived.Test.YtaaohcpiideaaaaDoorLa0
import Derived.Test.YtaaohcpiideaaaaDoorG1
namespace Go.Proofs.YtaaohcpiideaaaaDoor
open Go.RowKit

structure HD where
  typ : Int
  entry : Int
  phoff : Int
  sg : List SG
deriving Inhabited, DecidableEq
def elfMagic : List UInt8 := [0x7f, 0x45, 0x4c, 0x46, 2, 1, 1]
/-- The header may be that of a program. -/
def hdB (l : List UInt8) : Bool := decide (64 ≤ l.length) && decide (l.take 7 = elfMagic) && decide ((wgetV l 16 2 = 2 ∨ wgetV l 16 2 = 3) ∧ wgetV l 18 2 = 62 ∧ wgetV l 20 4 = 1 ∧ wgetV l 54 2 = 56 ∧ ¬ wgetV l 56 2 = 0 ∧ wgetV l 56 2 ≤ 8)
def segL (l : List UInt8) (p : Int) : SG := ⟨wgetV l p 4, wgetV l (p + 4) 4, wgetV l (p + 8) 8, wgetV l (p + 16) 8, wgetV l (p + 32) 8, wgetV l (p + 40) 8⟩
def knownB (k : Int) : Bool := decide (k = 1 ∨ k = 2 ∨ k = 3 ∨ k = 6)
def ckS (s : SG) (size fin : Int) : Bool := decide (s.fsz ≤ s.msz) && insB s.off s.fsz size && (!knownB s.kind || insB s.addr s.msz fin)
def ckL (s : SG) (align free : Int) : Bool := decide (align = 4096 ∧ s.off % 4096 = s.addr % 4096 ∧ ¬ s.msz = 0 ∧ free ≤ s.addr)
/-- May a segment stand at p, behind loads that end at free? -/
def okSeg (l : List UInt8) (p fin free : Int) : Bool := decide ((segL l p).flags ≤ 7) && ckS (segL l p) l.length fin && (!decide ((segL l p).kind = 1) || ckL (segL l p) (wgetV l (p + 48) 8) free)
def nextF (s : SG) (free : Int) : Int := if s.kind = 1 then frU s else free
def segsL (l : List UInt8) (ph fin : Int) : Nat → Option (List SG × Int)
  | 0 => some ([], 0)
  | k + 1 => match segsL l ph fin k with
    | none => none
    | some x => if okSeg l (ph + 56 * k) fin x.2 = true then some (x.1 ++ [segL l (ph + 56 * k)], nextF (segL l (ph + 56 * k)) x.2) else none
def knd (k : Int) (sg : List SG) : List SG := sg.filter fun s => decide (s.kind = k)
def inLoad (s x : SG) : Bool := decide (x.addr ≤ s.addr) && insB (s.addr - x.addr) s.fsz x.fsz && decide (w64 (s.off - x.off) = s.addr - x.addr)
def isLoadedB (sg : List SG) (s : SG) : Bool := (lds sg).any (inLoad s)
def kindOk (sg : List SG) (k : Int) (s : SG) : Bool := if k = 3 then decide (¬ s.fsz = 0 ∧ s.fsz ≤ 201) else isLoadedB sg s
def kindsOk (sg : List SG) (k : Int) : Bool := decide ((knd k sg).length ≤ 1) && (knd k sg).all (kindOk sg k)
def togB (sg : List SG) : Bool := decide (¬ lds sg = []) && kindsOk sg 2 && kindsOk sg 3 && kindsOk sg 6
def inExec (entry : Int) (x : SG) : Bool := decide (x.flags % 2 = 1 ∧ x.addr ≤ entry ∧ entry - x.addr < x.msz)
def entB (typ entry : Int) (sg : List SG) : Bool := decide (entry = 0 ∧ typ = 3) || (lds sg).any (inExec entry)
/-- What Parse answers. -/
def ps12 (l : List UInt8) : Option HD :=
  if hdB l = true ∧ insB (wgetV l 32 8) (wgetV l 56 2 * 56) l.length = true then
    match segsL l (wgetV l 32 8) (finOf (wgetV l 16 2)) (wgetV l 56 2).toNat with
    | none => none
    | some x => if togB x.1 = true ∧ entB (wgetV l 16 2) (wgetV l 24 8) x.1 = true then some ⟨wgetV l 16 2, wgetV l 24 8, wgetV l 32 8, x.1⟩ else none
  else none
def noHD : HD := ⟨0, 0, 0, []⟩
def psH (l : List UInt8) : HD := (ps12 l).getD noHD
def psE (l : List UInt8) : Int := if hdB l = false then 13 else if (ps12 l).isSome = true then 0 else 25
theorem chk_in {len p n : Int} (hs : isSz n = true) (h0 : 0 ≤ p) (h : p + n ≤ len) : chk len p n = 0 := by
  unfold chk
  rw [if_pos hs, if_pos (by unfold insB; simp; have := isSz_cases hs; omega)]
theorem wgetV_u {l : List UInt8} {p n : Int} : 0 ≤ wgetV l p n := by
  unfold wgetV
  split <;> omega
theorem wgetV_lt {l : List UInt8} {p n : Int} : wgetV l p n < 256 ^ n.toNat := by
  unfold wgetV
  split
  · have h1 := le_lt ((l.drop p.toNat).take n.toNat)
    have h2 : 256 ^ ((l.drop p.toNat).take n.toNat).length ≤ 256 ^ n.toNat := Nat.pow_le_pow_right (by omega) (by rw [List.length_take]; omega)
    have h3 : ((le ((l.drop p.toNat).take n.toNat) : Nat) : Int) < ((256 ^ n.toNat : Nat) : Int) := by omega
    simpa using h3
  · have : 0 < 256 ^ n.toNat := Nat.pos_of_ne_zero (by simp)
    have h3 : (0 : Int) < ((256 ^ n.toNat : Nat) : Int) := by omega
    simpa using h3
theorem wget8 {l : List UInt8} {p : Int} : wgetV l p 8 ≤ 18446744073709551615 := by have := @wgetV_lt l p 8; simp at this; omega
theorem wget4 {l : List UInt8} {p : Int} : wgetV l p 4 ≤ 4294967295 := by have := @wgetV_lt l p 4; simp at this; omega
theorem wget2 {l : List UInt8} {p : Int} : wgetV l p 2 ≤ 65535 := by have := @wgetV_lt l p 2; simp at this; omega
theorem segL_ok {l : List UInt8} {p : Int} (h : (segL l p).flags ≤ 7) : SGok (segL l p) :=
  ⟨wgetV_u, wgetV_u, by omega, wgetV_u, wget8, wgetV_u, wget8, wgetV_u, wget8, wgetV_u, wget8⟩
/-- A number of bytes that stand the same in both. -/
theorem wgetV_same {l c : List UInt8} {p n : Int} (hs : isSz n = true) (h0 : 0 ≤ p) (hl : p + n ≤ l.length) (hc : p + n ≤ c.length) (h : ∀ i : Nat, p ≤ i → (i : Int) < p + n → l[i]? = c[i]?) : wgetV l p n = wgetV c p n := by
  unfold wgetV
  rw [if_pos (chk_in hs h0 hl), if_pos (chk_in hs h0 hc)]
  congr 2
  apply List.ext_getElem?
  intro j
  rw [List.getElem?_take, List.getElem?_take]
  split
  · rw [List.getElem?_drop, List.getElem?_drop]
    exact h _ (by omega) (by omega)
  · rfl
theorem insB_mono {a b c d : Int} (h : insB a b c = true) (hcd : c ≤ d) : insB a b d = true := by
  unfold insB at *
  simp at *
  omega
theorem ckS_mono {s : SG} {c d fin : Int} (h : ckS s c fin = true) (hcd : c ≤ d) : ckS s d fin = true := by
  unfold ckS at *
  rw [Bool.and_eq_true, Bool.and_eq_true] at *
  exact ⟨⟨h.1.1, insB_mono h.1.2 hcd⟩, h.2⟩
/-- All that is looked at stands the same. -/
structure Like (l c : List UInt8) : Prop where
  len : l.length ≤ c.length
  magic : c.take 7 = l.take 7
  g16 : wgetV c 16 2 = wgetV l 16 2
  g18 : wgetV c 18 2 = wgetV l 18 2
  g20 : wgetV c 20 4 = wgetV l 20 4
  g24 : wgetV c 24 8 = wgetV l 24 8
  g32 : wgetV c 32 8 = wgetV l 32 8
  g54 : wgetV c 54 2 = wgetV l 54 2
  g56 : wgetV c 56 2 = wgetV l 56 2
  segs : ∀ k : Nat, (k : Int) < wgetV l 56 2 → segL c (wgetV l 32 8 + 56 * k) = segL l (wgetV l 32 8 + 56 * k) ∧ wgetV c (wgetV l 32 8 + 56 * k + 48) 8 = wgetV l (wgetV l 32 8 + 56 * k + 48) 8
theorem Like.hd {l c : List UInt8} (h : Like l c) (hh : hdB l = true) : hdB c = true := by
  unfold hdB at *
  rw [h.magic, h.g16, h.g18, h.g20, h.g54, h.g56]
  simp only [Bool.and_eq_true, decide_eq_true_eq] at *
  exact ⟨⟨by have := h.len; omega, hh.1.2⟩, hh.2⟩
theorem Like.go {l c : List UInt8} (h : Like l c) {fin : Int} : ∀ {n : Nat} {x : List SG × Int}, (n : Int) ≤ wgetV l 56 2 → segsL l (wgetV l 32 8) fin n = some x → segsL c (wgetV l 32 8) fin n = some x
  | 0, _, _, hx => hx
  | n + 1, x, hn, hx => by
    rw [segsL] at hx ⊢
    cases hy : segsL l (wgetV l 32 8) fin n with
    | none => rw [hy] at hx; cases hx
    | some y =>
      rw [hy] at hx
      rw [h.go (by omega) hy]
      simp only at hx ⊢
      obtain ⟨e1, e2⟩ := h.segs n (by omega)
      rw [e1]
      split at hx
      · rename_i hok
        rw [if_pos (by
          unfold okSeg at hok ⊢
          rw [e1, e2]
          rw [Bool.and_eq_true, Bool.and_eq_true] at *
          exact ⟨⟨hok.1.1, ckS_mono hok.1.2 (by have := h.len; omega)⟩, hok.2⟩)]
        exact hx
      · cases hx
theorem Like.parse {l c : List UInt8} (h : Like l c) {x : HD} (hx : ps12 l = some x) : ps12 c = some x := by
  unfold ps12 at *
  rw [h.g16, h.g24, h.g32, h.g56]
  split at hx
  · rename_i hb
    rw [if_pos ⟨h.hd hb.1, insB_mono hb.2 (by have := h.len; omega)⟩]
    cases hy : segsL l (wgetV l 32 8) (finOf (wgetV l 16 2)) (wgetV l 56 2).toNat with
    | none => rw [hy] at hx; cases hx
    | some y =>
      rw [hy] at hx
      rw [h.go (by have := @wgetV_u l 56 2; omega) hy]
      exact hx
  · cases hx
end Go.Proofs.YtaaohcpiideaaaaDoor
