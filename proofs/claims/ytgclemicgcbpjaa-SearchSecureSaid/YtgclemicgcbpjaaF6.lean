/- vfs: an entry by itself. -/
import Derived.Test.YtgclemicgcbpjaaF0
import Derived.Test.YtgclemicgcbpjaaShelf
namespace Go.Proofs.Ytgclemicgcbpjaa
open Go.RowKit Go.Sort

/-- An entry. -/
structure EN where
  path : BL
  kind : Int
  mode : Int
  uid : Int
  gid : Int
  a : Option Addr
  c : Nat
  data : BL
  to : BL
def EN.cs (x : EN) : List Value := [.string (ba x.path), .int .u8 x.kind, .int .u16 x.mode, .int .u32 x.uid, .int .u32 x.gid, .slice x.a x.data.length x.c, .string (ba x.to)]
structure EnOk (w : World) (x : EN) : Prop where
  byt : Byt w x.a x.data.length x.data
  nil : x.a = none → x.c = 0
  path : x.path.length ≤ 1000000
  to : x.to.length ≤ 1000000
  data : x.data.length ≤ 1000000
  mode : 0 ≤ x.mode ∧ x.mode ≤ 65535
theorem EnOk.below {w w' : World} {x : EN} (h : EnOk w x) (hb : Below w.heap.size w w') : EnOk w' x := ⟨h.byt.below' hb, h.nil, h.path, h.to, h.data, h.mode⟩
theorem Row.seven {w : World} {g : Nat} {E : TypeId} {a b c d e f i : Value} (h : Row w g E [a, b, c, d, e, f, i]) : w.cell? ⟨g, 0, none⟩ = some a ∧ w.cell? ⟨g, 1, none⟩ = some b ∧ w.cell? ⟨g, 2, none⟩ = some c ∧ w.cell? ⟨g, 3, none⟩ = some d ∧ w.cell? ⟨g, 4, none⟩ = some e ∧ w.cell? ⟨g, 5, none⟩ = some f ∧ w.cell? ⟨g, 6, none⟩ = some i :=
  ⟨h.cell 0 (by simp), h.cell 1 (by simp), h.cell 2 (by simp), h.cell 3 (by simp), h.cell 4 (by simp), h.cell 5 (by simp), h.cell 6 (by simp)⟩

def rightK (x : EN) : Bool := if x.kind = 1 then decide (x.to = []) else if x.kind = 2 then decide (x.to = []) && decide (x.data = []) else if x.kind = 3 then decide (x.data = []) && decide (chkE x.to = 0) else false

theorem len_zero {α : Type} [DecidableEq α] (l : List α) : ((l.length : Int) == 0) = decide (l = []) := by
  cases l with
  | nil => rfl
  | cons a l => simp; omega

set_option maxHeartbeats 2000000 in
theorem rightKind_any (x : EN) (w : World) (hx : EnOk w x) :
    Calls Try.prog 70 #[.agg x.cs.toArray] w fun e w' => e = .returned (.bool (rightK x)) ∧ Below w.heap.size w w' := by
  have HB0 := hid (show Below w.heap.size w (w.alloc (.cells x.cs.toArray 54)) from bal _)
  have ht := ba_nil (ba x.to)
  rw [show (ba x.to).data.toList = x.to from rfl] at ht
  have hl := len_zero x.data
  have HT := hid hx.to
  obtain ⟨path, kind, mode, uid, gid, a, c, data, to⟩ := x
  unfold EN.cs at HB0 ⊢
  dsimp only at ht hl HT HB0 ⊢
  by_cases h1 : kind = 1
  · subst h1
    have HR := hid (show rightK ⟨path, 1, mode, uid, gid, a, c, data, to⟩ = decide (to = []) from rfl)
    clear hl hx
    generalize decide (to = []) = tb at *
    go_enter Try.func70, Try.ntmps70
    go_wp2_with fail
    go_ret
    exact ⟨ret_bool HR.out.symm, HB0.out⟩
  · have k1 : (kind == 1) = false := by simpa using h1
    by_cases h2 : kind = 2
    · subst h2
      have HR := hid (show rightK ⟨path, 2, mode, uid, gid, a, c, data, to⟩ = (decide (to = []) && decide (data = [])) from rfl)
      clear h1 hx
      generalize decide (data = []) = db at *
      cases htb : decide (to = [])
      · rw [htb] at ht HR
        clear htb
        go_enter Try.func70, Try.ntmps70
        go_wp2_with fail
        go_ret
        exact ⟨ret_bool HR.out.symm, HB0.out⟩
      · rw [htb] at ht HR
        clear htb
        go_enter Try.func70, Try.ntmps70
        go_wp2_with fail
        go_ret
        exact ⟨ret_bool (by rw [HR.out]; simp), HB0.out⟩
    · have k2 : (kind == 2) = false := by simpa using h2
      by_cases h3 : kind = 3
      · subst h3
        have HR := hid (show rightK ⟨path, 3, mode, uid, gid, a, c, data, to⟩ = (decide (data = []) && decide (chkE to = 0)) from rfl)
        have HCK := hid (fun (wr : World) => check_any (ba to) wr (by rw [ba_size]; exact HT.out))
        clear h1 h2 hx ht
        cases hdb : decide (data = [])
        · rw [hdb] at hl HR
          clear hdb
          go_enter Try.func70, Try.ntmps70
          go_wp2_with fail
          go_ret
          exact ⟨ret_bool HR.out.symm, HB0.out⟩
        · rw [hdb] at hl HR
          clear hdb
          go_enter Try.func70, Try.ntmps70
          go_wp2_with fail
          refine (HCK.out _).mono ?_
          rintro e' w1 ⟨rfl, hb⟩
          rw [show (ba to).data.toList = to from rfl]
          have HB1 := hid (bthen HB0.out hb)
          clear hb
          by_cases hc : chkE to = 0
          · rw [hc]
            have HD := hid (decide_eq_true hc)
            clear hc
            go_wp2_with fail
            go_ret
            exact ⟨ret_bool (by rw [HR.out, HD.out]; rfl), HB1.out⟩
          · have hc' : (chkE to == 0) = false := by simpa using hc
            have HD := hid (decide_eq_false hc)
            clear hc
            go_wp2_with fail
            go_ret
            exact ⟨ret_bool (by rw [HR.out, HD.out]; rfl), HB1.out⟩
      · have k3 : (kind == 3) = false := by simpa using h3
        have HR := hid (show rightK ⟨path, kind, mode, uid, gid, a, c, data, to⟩ = false by unfold rightK; dsimp only; rw [if_neg h1, if_neg h2, if_neg h3])
        clear h1 h2 h3 hx ht hl
        go_enter Try.func70, Try.ntmps70
        go_wp2_with fail
        go_ret
        exact ⟨ret_bool HR.out.symm, HB0.out⟩

def pathJ (ds : List BL) : BL := 47 :: Lib.join ds [47]
theorem join_len (ds : List BL) (h : ∀ p ∈ ds, p.length ≤ 1000) : (Lib.join ds [47]).length ≤ ds.length * 1001 := by
  induction ds with
  | nil => simp [Lib.join]
  | cons x l ih =>
    have h1 := h x (List.mem_cons_self ..)
    have h2 := ih (fun p hp => h p (List.mem_cons_of_mem _ hp))
    cases l with
    | nil => simp [Lib.join]; omega
    | cons y l =>
      rw [Lib.join_cons] at h2 ⊢
      simp only [Lib.joinTail, List.map_cons, List.flatten_cons, List.length_append, List.length_cons, List.length_nil] at h2 ⊢
      omega

theorem pathOf_any (a : Option Addr) (ds : List BL) (c : Nat) (w : World) (hC : Cel w a ds.length (strs ds)) (hc : ds.length ≤ c) (hn : ds.length ≤ 1000) (hs : ∀ p ∈ ds, p.length ≤ 1000) :
    Calls Try.prog 60 #[.slice a ds.length c] w fun e w' => e = .returned (.string (ba (pathJ ds))) ∧ Below w.heap.size w w' := by
  cases hd : ds with
  | nil =>
    subst hd
    have hj := Try.strings_Join_none a c (ByteArray.mk #[47])
    go_enter Try.func60, Try.ntmps60
    go_wp2_with fail
    refine (hj _).mono ?_
    rintro e' w1 ⟨rfl, rfl⟩
    clear hj
    go_wp2_with fail
    go_ret
    exact ⟨rfl, Below.refl _ _⟩
  | cons p l =>
    rw [← hd]
    obtain ⟨b, o, rfl, hcell⟩ := hC.some_of (by rw [hd]; simp [strs])
    have hat : ∀ (j : Nat) x, (ds.map ba)[j]? = some x → w.cell? ⟨b, o + j, none⟩ = some (.string x) := by
      intro j x hj
      obtain ⟨hj1, rfl⟩ := List.getElem?_eq_some_iff.1 hj
      have := hcell j (by simpa [strs] using hj1)
      rw [this]; simp [strs]
    have hlt := World.block_lt_of_cell? w _ (hcell 0 (by rw [hd]; simp [strs]))
    have e1 : (ds.map ba).map (fun s : ByteArray => s.data.toList) = ds := by rw [List.map_map]; exact List.map_id'' (fun _ => rfl) ds
    have hjl := join_len ds hs
    have hj := Try.strings_Join b o c (ds.map ba) (ByteArray.mk #[47]) w hat hlt (by simp; omega) (by simpa using hc) (by
      rw [e1]; show (Lib.join ds [47]).length ≤ _
      have : ds.length * 1001 ≤ 1000 * 1001 := Nat.mul_le_mul_right _ hn
      omega)
    rw [e1, show (ByteArray.mk #[47]).data.toList = [47] from rfl, List.length_map] at hj
    have HJ := hid hj
    clear hj hat e1 hcell hC hd
    go_enter Try.func60, Try.ntmps60
    go_wp2_with fail
    refine (HJ.out).mono ?_
    rintro e' w1 ⟨rfl, hb⟩
    have HB := hid hb
    clear hb
    go_wp2_with fail
    go_ret
    exact ⟨by unfold pathJ; rfl, HB.out⟩
end Go.Proofs.Ytgclemicgcbpjaa
