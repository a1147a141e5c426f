
/- Layout, plain: segments, right objects, spans, pieces. -/
import Derived.Test.YtkkadknijjninaaDoorW1
namespace Go.Proofs.YtkkadknijjninaaDoor
open Go.RowKit

structure SG where
  kind : Int
  flags : Int
  off : Int
  addr : Int
  fsz : Int
  msz : Int
deriving Inhabited, DecidableEq
/-- The ranges of a segment's numbers. -/
structure SGok (s : SG) : Prop where
  k0 : 0 ≤ s.kind
  f0 : 0 ≤ s.flags
  f1 : s.flags ≤ 255
  o0 : 0 ≤ s.off
  o1 : s.off ≤ 18446744073709551615
  a0 : 0 ≤ s.addr
  a1 : s.addr ≤ 18446744073709551615
  z0 : 0 ≤ s.fsz
  z1 : s.fsz ≤ 18446744073709551615
  m0 : 0 ≤ s.msz
  m1 : s.msz ≤ 18446744073709551615
def sgC (s : SG) : List Value := [.int .u32 s.kind, .int .u8 s.flags, .int .u64 s.off, .int .u64 s.addr, .int .u64 s.fsz, .int .u64 s.msz]
def sgV (s : SG) : Value := .agg #[.int .u32 s.kind, .int .u8 s.flags, .int .u64 s.off, .int .u64 s.addr, .int .u64 s.fsz, .int .u64 s.msz]
def dn (a : Int) : Int := a - a % 4096
def upI (a : Int) : Int := dn (a + 4095)
def w64 (a : Int) : Int := IntKind.u64.wrap a
theorem w64_def (a : Int) : w64 a = a % 18446744073709551616 := IntKind.wrap_u64 a
theorem w64_in {a : Int} (h0 : 0 ≤ a) (h1 : a ≤ 18446744073709551615) : w64 a = a := by rw [w64_def]; omega
theorem upV_in {a : Int} (h0 : 0 ≤ a) (h1 : a ≤ 18446744073709547520) : upV a = upI a := by
  unfold upV upI dn
  by_cases h : a % 4096 = 0
  · rw [if_pos h]; omega
  · rw [if_neg h, addV_eq (by omega) (by omega) (by omega) (by omega), if_pos (by omega)]; omega
theorem upV_u {a : Int} (h0 : 0 ≤ a) (h1 : a ≤ 18446744073709551615) : 0 ≤ upV a ∧ upV a ≤ 18446744073709551615 := by
  unfold upV
  by_cases h : a % 4096 = 0
  · rw [if_pos h]; omega
  · rw [if_neg h, addV_eq (by omega) (by omega) (by omega) (by omega)]; split <;> omega

/-- The end of a load's pages. -/
def frU (s : SG) : Int := upV (w64 (s.addr + s.msz))
theorem w64_u (a : Int) : 0 ≤ w64 a ∧ w64 a ≤ 18446744073709551615 := by rw [w64_def]; omega
theorem frU_u (s : SG) : 0 ≤ frU s ∧ frU s ≤ 18446744073709551615 := upV_u (w64_u _).1 (w64_u _).2
def lds (l : List SG) : List SG := l.filter fun s => decide (s.kind = 1)
theorem lds_ok {l : List SG} (h : ∀ s ∈ l, SGok s) : ∀ s ∈ lds l, SGok s := fun s hs => h s (List.mem_filter.1 hs).1
theorem lds_len (l : List SG) : (lds l).length ≤ l.length := List.length_filter_le _ _
theorem lds_snoc (l : List SG) (s : SG) : lds (l ++ [s]) = lds l ++ if s.kind = 1 then [s] else [] := by
  unfold lds
  rw [List.filter_append]
  congr 1
  by_cases h : s.kind = 1 <;> simp [h]
def prs : Int → List SG → List (Int × SG)
  | _, [] => []
  | f, s :: r => (f, s) :: prs (frU s) r
theorem prs_len : ∀ (l : List SG) (f : Int), (prs f l).length = l.length
  | [], _ => rfl
  | s :: r, f => by simp [prs, prs_len r]
theorem prs_snd : ∀ (l : List SG) (f : Int), (prs f l).map (·.2) = l
  | [], _ => rfl
  | s :: r, f => by simp [prs, prs_snd r]
theorem prs_snoc : ∀ (l : List SG) (f : Int) (s : SG), prs f (l ++ [s]) = prs f l ++ [(((l.getLast?).map frU).getD f, s)]
  | [], _, _ => rfl
  | a :: [], f, s => rfl
  | a :: b :: r, f, s => by
    rw [List.cons_append, prs, prs_snoc (b :: r) (frU a) s, List.getLast?_cons_cons]
    have : ∃ z, (b :: r).getLast? = some z := ⟨_, List.getLast?_eq_some_getLast (by simp)⟩
    obtain ⟨z, hz⟩ := this
    rw [hz]
    rfl
def okS (s : SG) (free fin : Int) : Bool := decide (s.flags ≤ 7 ∧ ¬ s.msz = 0 ∧ s.fsz ≤ s.msz ∧ s.off % 4096 = s.addr % 4096 ∧ s.fsz ≤ 65536 ∧ s.off ≤ 65536 - s.fsz ∧ s.msz ≤ fin ∧ s.addr ≤ fin - s.msz ∧ free ≤ dn s.addr)
def goR (fin : Int) (l : List (Int × SG)) : Bool := l.all fun p => okS p.2 p.1 fin
def finOf (typ : Int) : Int := if typ = 2 then 140737488355328 else 4294967296
theorem finOf_le (typ : Int) : 4294967296 ≤ finOf typ ∧ finOf typ ≤ 140737488355328 := by unfold finOf; split <;> omega
def rightB (ino typ : Int) (sg : List SG) : Bool := decide (0 ≤ ino ∧ sg.length ≤ 8 ∧ (typ = 2 ∨ typ = 3) ∧ ¬ lds sg = []) && goR (finOf typ) (prs 0 (lds sg))

theorem okS_of {s : SG} {f fin : Int} (h : okS s f fin = true) : s.flags ≤ 7 ∧ ¬ s.msz = 0 ∧ s.fsz ≤ s.msz ∧ s.off % 4096 = s.addr % 4096 ∧ s.fsz ≤ 65536 ∧ s.off ≤ 65536 - s.fsz ∧ s.msz ≤ fin ∧ s.addr ≤ fin - s.msz ∧ f ≤ dn s.addr := of_decide_eq_true h
theorem frU_ok {s : SG} {f fin : Int} (hs : SGok s) (h : okS s f fin = true) (hf : fin ≤ 140737488355328) : frU s = upI (s.addr + s.msz) := by
  obtain ⟨h1, h2, h3, h4, h5, h6, h7, h8, h9⟩ := okS_of h
  have := hs.a0
  have := hs.m0
  unfold frU
  rw [w64_in (by omega) (by omega), upV_in (by omega) (by omega)]

/-- What is known of the loads of a right object. -/
structure Loads (fin : Int) (l : List SG) : Prop where
  ok : ∀ s ∈ l, s.flags ≤ 7 ∧ 0 < s.msz ∧ 0 ≤ s.fsz ∧ s.fsz ≤ s.msz ∧ s.off % 4096 = s.addr % 4096 ∧ s.fsz ≤ 65536 ∧ s.off ≤ 65536 - s.fsz ∧ 0 ≤ s.addr ∧ s.addr + s.msz ≤ fin ∧ 0 ≤ s.off ∧ 0 ≤ s.flags
  next : ∀ i (h : i + 1 < l.length), upI (l[i].addr + l[i].msz) ≤ dn l[i + 1].addr
theorem goR_loads {fin : Int} (hf : fin ≤ 140737488355328) : ∀ {l : List SG} {f : Int}, (∀ s ∈ l, SGok s) → goR fin (prs f l) = true → Loads fin l
  | [], _, _, _ => ⟨fun s h => (nomatch h), fun i h => absurd h (Nat.not_lt_zero _)⟩
  | s :: r, f, hs, h => by
    unfold goR at h
    rw [prs, List.all_cons, Bool.and_eq_true] at h
    have h1 := okS_of (show okS s f fin = true from h.1)
    have hk := hs s (List.mem_cons_self ..)
    have ih := goR_loads hf (fun x hx => hs x (List.mem_cons_of_mem _ hx)) (show goR fin (prs (frU s) r) = true from h.2)
    refine ⟨fun x hx => ?_, fun i hi => ?_⟩
    · rcases List.mem_cons.1 hx with rfl | hx
      · have := hk.a0; have := hk.m0; have := hk.o0; have := hk.z0; have := hk.f0
        refine ⟨h1.1, by omega, by omega, h1.2.2.1, h1.2.2.2.1, h1.2.2.2.2.1, h1.2.2.2.2.2.1, by omega, by omega, by omega, by omega⟩
      · exact ih.ok x hx
    · cases i with
      | zero =>
        cases r with
        | nil => simp at hi
        | cons t r =>
          have h2 := h.2
          rw [prs, List.all_cons, Bool.and_eq_true] at h2
          have h3 := (okS_of (show okS t (frU s) fin = true from h2.1)).2.2.2.2.2.2.2.2
          rw [frU_ok hk (show okS s f fin = true from h.1) hf] at h3
          exact h3
      | succ i => exact ih.next i (by simpa using hi)
theorem rightB_of {ino typ : Int} {sg : List SG} (h : rightB ino typ sg = true) : 0 ≤ ino ∧ sg.length ≤ 8 ∧ (typ = 2 ∨ typ = 3) ∧ ¬ lds sg = [] ∧ goR (finOf typ) (prs 0 (lds sg)) = true := by
  unfold rightB at h
  rw [Bool.and_eq_true, decide_eq_true_eq] at h
  exact ⟨h.1.1, h.1.2.1, h.1.2.2.1, h.1.2.2.2, h.2⟩
theorem rightB_loads {ino typ : Int} {sg : List SG} (hs : ∀ s ∈ sg, SGok s) (h : rightB ino typ sg = true) : Loads (finOf typ) (lds sg) := goR_loads (finOf_le typ).2 (lds_ok hs) (rightB_of h).2.2.2.2
/-- Behind the first load of two nothing lies lower. -/
theorem Loads.rise {fin : Int} {l : List SG} (h : Loads fin l) : ∀ {i j : Nat}, (hij : i < j) → (hj : j < l.length) → upI (l[i].addr + l[i].msz) ≤ dn l[j].addr := by
  intro i j hij
  induction j with
  | zero => omega
  | succ j ih =>
    intro hj
    have h1 := h.next j hj
    by_cases e : i = j
    · subst e; exact h1
    · have h2 := ih (by omega) (by omega)
      have := (h.ok l[j] (List.getElem_mem _)).2.1
      unfold upI dn at *
      omega

def lowS (l : List SG) : Int := dn (l.head?.getD default).addr
def highS (l : List SG) : Int := upI ((l.getLast?.getD default).addr + (l.getLast?.getD default).msz)
theorem head_of {l : List SG} (h : ¬ l = []) : ∃ s r, l = s :: r ∧ lowS l = dn s.addr := by
  cases l with
  | nil => exact absurd rfl h
  | cons s r => exact ⟨s, r, rfl, rfl⟩
theorem last_of {l : List SG} (h : ¬ l = []) : ∃ r z, l = r ++ [z] ∧ highS l = upI (z.addr + z.msz) := by
  rcases List.eq_nil_or_concat l with rfl | ⟨r, z, rfl⟩
  · exact absurd rfl h
  · refine ⟨r, z, List.concat_eq_append .., ?_⟩
    unfold highS
    rw [List.concat_eq_append, List.getLast?_append]
    rfl
theorem Loads.span {fin : Int} {l : List SG} (h : Loads fin l) (hf : fin ≤ 140737488355328) (hfin : fin % 4096 = 0) (hn : ¬ l = []) : 0 ≤ lowS l ∧ lowS l < highS l ∧ highS l ≤ fin ∧ lowS l % 4096 = 0 ∧ highS l % 4096 = 0 := by
  obtain ⟨s, r, rfl, h1⟩ := head_of hn
  obtain ⟨q, z, hz, h2⟩ := last_of hn
  rw [h1, h2]
  have hs := h.ok s (List.mem_cons_self ..)
  have hzz := h.ok z (by rw [hz]; simp)
  have hle : dn s.addr ≤ dn z.addr := by
    rcases Nat.eq_zero_or_pos q.length with e | e
    · have : q = [] := List.eq_nil_of_length_eq_zero e
      subst this
      simp at hz
      rw [hz.1]
      omega
    · have hl : q.length < (s :: r).length := by rw [hz]; simp
      have h3 := h.rise (i := 0) (j := q.length) e hl
      have e1 : (s :: r)[q.length] = z := by simp only [hz]; simp
      rw [e1] at h3
      simp only [List.getElem_cons_zero] at h3
      unfold upI dn at *
      omega
  unfold upI dn at *
  omega
theorem finOf_page (typ : Int) : finOf typ % 4096 = 0 := by unfold finOf; split <;> rfl

/-- What is mapped: pieces of five numbers. -/
structure PC where
  fr : Int
  to : Int
  prot : Int
  ino : Int
  off : Int
deriving Inhabited, DecidableEq
def pcC (p : PC) : List Value := [.int .u64 p.fr, .int .u64 p.to, .int .u8 p.prot, .int .i64 p.ino, .int .u64 p.off]
def pcV (p : PC) : Value := .agg #[.int .u64 p.fr, .int .u64 p.to, .int .u8 p.prot, .int .i64 p.ino, .int .u64 p.off]
def pcsA (base ino : Int) (s : SG) : List PC := if 0 < s.fsz then [⟨dn (base + s.addr), upI (base + s.addr + s.fsz), s.flags, ino, dn s.off⟩] else []
def fromB (base : Int) (s : SG) : Int := if 0 < s.fsz then upI (base + s.addr + s.fsz) else dn (base + s.addr)
def pcsB (base : Int) (s : SG) : List PC := if fromB base s < upI (base + s.addr + s.msz) then [⟨fromB base s, upI (base + s.addr + s.msz), s.flags, -1, 0⟩] else []
def pcs1 (base ino : Int) (s : SG) : List PC := pcsA base ino s ++ pcsB base s
/-- What is written over it: where, and how many noughts. -/
def wrs1 (base : Int) (s : SG) : List (Int × Nat) := if 0 < s.fsz ∧ s.fsz < s.msz ∧ ¬ (base + s.addr + s.fsz) % 4096 = 0 then [(base + s.addr + s.fsz, (upI (base + s.addr + s.fsz) - (base + s.addr + s.fsz)).toNat)] else []
def pcsL (base ino : Int) (l : List SG) : List PC := l.flatMap (pcs1 base ino)
def wrsL (base : Int) (l : List SG) : List (Int × Nat) := l.flatMap (wrs1 base)
/-- Whether an object has pieces, and where it lies. -/
def liesB (base : Int) (l : List SG) : Bool := decide (base + highS l ≤ 140737488355328)
def pieB (ino typ base : Int) (sg : List SG) : Bool := rightB ino typ sg && decide (base % 4096 = 0) && liesB base (lds sg)
end Go.Proofs.YtkkadknijjninaaDoor
