
/- Stage 17: one, works. -/
import Derived.Test.YtkpopdkkobelaaaLa9
namespace Go.Proofs.Ytkpopdkkobelaaa
open Go.RowKit Go.Sort Go.Shelf
attribute [local go_sem] Oper.semAt_some

def sg1 : SG := ⟨1, 6, 564, 4660, 256, 8192⟩
def ob1 (typ : Int) (g : Nat) : LO := ⟨3, 0, typ, 0, 0, some ⟨g, 0, none⟩, 1, 1, [sg1], none, 0, 0, [], [], none, 0, 0, none, 0, 0⟩
theorem sg1_ok : ∀ s ∈ [sg1], SGok s := by
  intro s hs
  rw [List.mem_singleton.1 hs]
  constructor <;> decide
set_option maxRecDepth 100000 in
set_option maxHeartbeats 4000000 in
theorem one_any (typ : Int) (w : World) :
    Calls Try.prog 23 #[.int .u16 typ] w fun e w' => ∃ g, e = .returned (loV (ob1 typ g)) ∧ LOk w' (ob1 typ g) ∧ Below w.heap.size w w' := by
  unfold loV ob1
  dsimp only
  go_enter Try.func23, Try.ntmps23
  go_wp2_with fail
  obtain ⟨W, hW⟩ : ∃ W, W = (w.alloc (.cells #[.int .i64 3, .int .u64 0, .int .u16 typ, .int .u64 0, .int .u64 0, .slice (some ⟨w.heap.size + 1, 0, none⟩) 1 1, .slice none 0 0, .string (ByteArray.mk #[]), .string (ByteArray.mk #[]), .slice none 0 0, .slice none 0 0] 33)).alloc (.cells #[.int .u32 1, .int .u8 6, .int .u64 564, .int .u64 4660, .int .u64 256, .int .u64 8192] 58) := ⟨_, rfl⟩
  rw [← hW]
  have hr : Row W w.heap.size 33 [.int .i64 3, .int .u64 0, .int .u16 typ, .int .u64 0, .int .u64 0, .slice (some ⟨w.heap.size + 1, 0, none⟩) 1 1, .slice none 0 0, .string (ByteArray.mk #[]), .string (ByteArray.mk #[]), .slice none 0 0, .slice none 0 0] := by rw [hW]; exact (Row.new w 33 [.int .i64 3, .int .u64 0, .int .u16 typ, .int .u64 0, .int .u64 0, .slice (some ⟨w.heap.size + 1, 0, none⟩) 1 1, .slice none 0 0, .string (ByteArray.mk #[]), .string (ByteArray.mk #[]), .slice none 0 0, .slice none 0 0]).alloc _
  have hs : Row W (w.heap.size + 1) 58 (sgC sg1) := by
    rw [hW]
    have := Row.new (w.alloc (.cells #[.int .i64 3, .int .u64 0, .int .u16 typ, .int .u64 0, .int .u64 0, .slice (some ⟨w.heap.size + 1, 0, none⟩) 1 1, .slice none 0 0, .string (ByteArray.mk #[]), .string (ByteArray.mk #[]), .slice none 0 0, .slice none 0 0] 33)) 58 (sgC sg1)
    rw [World.size_alloc] at this
    exact this
  have hb : Below w.heap.size w W := by rw [hW]; exact (bal _).alloc (by simp) _
  clear hW
  obtain ⟨⟨c0, c1, c2, c3, c4, c5⟩, c6, c7, c8, c9, c10⟩ := hr.eleven
  refine bodyPost_ret (v := .agg #[.int .i64 3, .int .u64 0, .int .u16 typ, .int .u64 0, .int .u64 0, .slice (some ⟨w.heap.size + 1, 0, none⟩) 1 1, .slice none 0 0, .string (ByteArray.mk #[]), .string (ByteArray.mk #[]), .slice none 0 0, .slice none 0 0]) (by simp [results, Try.f23, Try.results23, go_sem, c0, c1, c2, c3, c4, c5, c6, c7, c8, c9, c10]) rfl ⟨w.heap.size + 1, rfl, ⟨row_rk hs rfl, sg1_ok, (show (1 : Nat) ≤ 4000000000000 by decide), (fun h => by cases h), (show (0 : Int) ≤ 0 by decide), (show (0 : Int) ≤ 18446744073709551615 by decide)⟩, hb⟩

def obB (typ : Int) (g : Nat) (b : Int) : LO := { ob1 typ g with base := b }
theorem right_ob1 (typ : Int) (g : Nat) : rightL [ob1 3 g] = true := by kernel_rfl
theorem rightL2 (g h : Nat) : rightL [ob1 3 g, ob1 3 h] = true := by kernel_rfl
theorem basGo2 (g h : Nat) : basGo [ob1 3 g, ob1 3 h] 0 139637976727552 [] [] = some [obB 3 g 93824992227328, obB 3 h 139637976723456] := by kernel_rfl
theorem pieB2 (g : Nat) : pieB (ob1 2 g).ino (ob1 2 g).typ (ob1 2 g).base (ob1 2 g).sg = true := by kernel_rfl
theorem pcsL2 (g : Nat) : pcsL (ob1 2 g).base (ob1 2 g).ino (lds (ob1 2 g).sg) = [⟨4096, 8192, 6, 3, 0⟩, ⟨8192, 16384, 6, -1, 0⟩] := by kernel_rfl
theorem wrsL2 (g : Nat) : wrsL (ob1 2 g).base (lds (ob1 2 g).sg) = [(4916, 3276)] := by kernel_rfl
theorem rightB2 (g : Nat) : rightB (ob1 2 g).ino (ob1 2 g).typ (ob1 2 g).sg = true := by kernel_rfl
theorem LOs.two {w : World} {g : Nat} {x y : LO} (h : Row w g 33 (loC x ++ loC y)) (hx : LOk w x) (hy : LOk w y) : LOs w (some ⟨g, 0, none⟩) 2 [x, y] :=
  ⟨⟨rfl, fun i hi => by
    have hi2 : i < 2 := by simpa using hi
    have hl : (loC x).length = 11 := rfl
    refine ⟨by rcases i with _ | _ | i <;> first | rfl | omega, g, 0, rfl, fun j hj => ?_⟩
    rcases i with _ | _ | i
    · have hj' : j < 11 := hj
      have := h.cell j (by rw [List.length_append]; omega)
      rw [List.getElem_append_left (by omega)] at this
      simpa using this
    · have hj' : j < 11 := hj
      have := h.cell (11 + j) (by rw [List.length_append, hl]; show 11 + j < 11 + 11; omega)
      rw [List.getElem_append_right (by omega)] at this
      simpa [hl] using this
    · omega⟩, fun z hz => by
    simp only [List.mem_cons, List.not_mem_nil, or_false] at hz
    rcases hz with rfl | rfl <;> assumption⟩

theorem bas2 (g1 g2 : Nat) (a : Option Addr) (wx : World) (h : LOs wx a 2 [ob1 3 g1, ob1 3 g2]) :
    Calls Try.prog 15 #[.slice a 2 2] wx fun e w' => ∃ v, e = .returned (.tuple #[v, .int .i64 0]) ∧ OwnK w' wx.heap.size 33 11 v ([obB 3 g1 93824992227328, obB 3 g2 139637976723456].map loC) ∧ Below wx.heap.size wx w' := by
  refine (bases_any a 2 [ob1 3 g1, ob1 3 g2] wx h (show 2 ≤ 1000000000000 by decide)).mono ?_
  rintro e w' ⟨hb, h⟩
  rw [rightL2, if_pos rfl, basGo2] at h
  obtain ⟨v, h1, h2⟩ := h
  exact ⟨v, h1, h2, hb⟩
theorem pie2 (g : Nat) (wx : World) (h : LOk wx (ob1 2 g)) :
    Calls Try.prog 18 #[loV (ob1 2 g)] wx fun e w' => ∃ vp vw, e = .returned (.tuple #[vp, vw, .int .i64 0]) ∧ OwnP w' wx.heap.size vp [⟨4096, 8192, 6, 3, 0⟩, ⟨8192, 16384, 6, -1, 0⟩] ∧ WrOwn w' wx.heap.size vw [(4916, 3276)] ∧ Below wx.heap.size wx w' := by
  refine (pieces_any (ob1 2 g) wx h).mono ?_
  rintro e w' ⟨hb, h⟩
  rw [pieB2, if_pos rfl, pcsL2, wrsL2] at h
  obtain ⟨vp, vw, h1, h2, h3⟩ := h
  exact ⟨vp, vw, h1, h2, h3, hb⟩
theorem rgt2 (g : Nat) (wx : World) (h : LOk wx (ob1 2 g)) :
    Calls Try.prog 11 #[loV (ob1 2 g)] wx fun e w' => e = .returned (.bool true) ∧ Below wx.heap.size wx w' := by
  have := right_any (ob1 2 g) wx h
  rwa [rightB2] at this

set_option maxRecDepth 100000 in
set_option maxHeartbeats 8000000 in
theorem works17_any (w : World) : Calls Try.prog 10 #[] w fun e w' => e = .returned (.bool true) ∧ Below w.heap.size w w' := by
  have HO3 := hid (fun wx => one_any 3 wx)
  have HO2 := hid (fun wx => one_any 2 wx)
  have HPI := hid pie2
  have HRI := hid rgt2
  unfold loV ob1 at HO3 HO2
  go_enter Try.func10, Try.ntmps10
  go_wp2_with fail
  refine (HO3.out _).mono ?_
  rintro e' w1 ⟨g1, rfl, hk1, hb⟩
  have HB1 := hid hb
  have HK1 := hid (show LOk w1 (ob1 3 g1) from hk1)
  clear hb hk1
  go_wp2_with fail
  refine (HO3.out _).mono ?_
  rintro e' w2 ⟨g2, rfl, hk2, hb⟩
  have HB2 := hid (bthen HB1.out hb)
  have HK1 := hid (HK1.out.below' hb)
  have HK2 := hid (show LOk w2 (ob1 3 g2) from hk2)
  clear hb hk2
  have HR2 := hid (Row.new w2 33 (loC (ob1 3 g1) ++ loC (ob1 3 g2)))
  have HBS := hid (bas2 g1 g2 (some ⟨w2.heap.size, 0, none⟩) _ (LOs.two HR2.out (HK1.out.below' (bal _)) (HK2.out.below' (bal _))))
  have HBA := hid (fun o => HB2.out.alloc HB2.out.size o)
  go_wp2_with fail
  refine (HBS.out).mono ?_
  rintro e' w3 ⟨v, rfl, ho, hb⟩
  obtain ⟨va, vc, hv, hrk, _⟩ := own_rk ho (loC_len _) (by decide)
  rw [show ([obB 3 g1 93824992227328, obB 3 g2 139637976723456].map loC).length = 2 from rfl] at hv hrk
  subst hv
  have HB3 := hid (bthen (HBA.out _) hb)
  have HRK := hid hrk
  clear ho hb hrk HBS
  go_wp2_with fail
  refine (HO2.out _).mono ?_
  rintro e' w4 ⟨g4, rfl, hk4, hb⟩
  have HB4 := hid (bthen HB3.out hb)
  have HRK4 := hid (HRK.out.below' hb)
  have HP4 := hid (HPI.out g4 w4 (show LOk w4 (ob1 2 g4) from hk4))
  unfold loV ob1 at HP4
  clear hb hk4
  go_wp2_with fail
  refine (HP4.out).mono ?_
  rintro e' w5 ⟨vp, vw, rfl, hop, ⟨ws, hws1, hws2, hws3⟩, hb⟩
  have HB5 := hid (bthen HB4.out hb)
  have HRK5 := hid (HRK4.out.below' hb)
  obtain ⟨pa, pc, hpv, hpr, _⟩ := own_rk hop (pcC_len _) (by decide)
  obtain ⟨qa, qc, hqv, hqr, _⟩ := own_rk hws2 (wbC_len _) (by decide)
  obtain ⟨z, rfl⟩ : ∃ z, ws = [z] := by
    cases ws with
    | nil => simp [wbL] at hws1
    | cons z r => cases r with
      | nil => exact ⟨z, rfl⟩
      | cons _ _ => simp [wbL] at hws1
  simp only [wbL, List.map_cons, List.map_nil, List.cons.injEq, Prod.mk.injEq, and_true] at hws1
  obtain ⟨hz1, hz2⟩ := hws1
  simp only [List.map_cons, List.map_nil, List.length_cons, List.length_nil] at hpv hpr hqv hqr
  subst hpv hqv
  obtain ⟨b1, o1, rfl, k1⟩ := HRK5.out.some_of (by simp)
  have x1 := k1 0 (by simp) 1 (by simp [loC])
  have x2 := k1 1 (by simp) 1 (by simp [loC])
  obtain ⟨b2, o2, rfl, k2⟩ := hpr.some_of (by simp)
  have y1 := k2 0 (by simp) 1 (by simp [pcC])
  have y2 := k2 1 (by simp) 1 (by simp [pcC])
  obtain ⟨b3, o3, rfl, k3⟩ := hqr.some_of (by simp)
  have u1 := k3 0 (by simp) 0 (by simp [wbC])
  have u2 := k3 0 (by simp) 1 (by simp [wbC])
  simp only [wbC, pcC, loC, obB, ob1, List.map_cons, List.map_nil, List.getElem_cons_zero, List.getElem_cons_succ, hz1, hz2] at x1 x2 y1 y2 u1 u2
  simp only [Nat.zero_mul, Nat.add_zero, Nat.one_mul] at x1 x2 y1 y2 u1 u2
  have l1 := World.block_lt_of_cell? w5 _ x1
  have l2 := World.block_lt_of_cell? w5 _ y1
  have l3 := World.block_lt_of_cell? w5 _ u1
  clear k1 k2 k3 hb hop hws2 hws3 hpr hqr
  go_wp2_with fail
  refine (HO2.out _).mono ?_
  rintro e' w6 ⟨g6, rfl, hk6, hb⟩
  have HB6 := hid (bthen HB5.out hb)
  have HR6 := hid (HRI.out g6 w6 (show LOk w6 (ob1 2 g6) from hk6))
  unfold loV ob1 at HR6
  clear hb hk6 x1 x2 y1 y2 u1 u2 l1 l2 l3
  go_wp2_with fail
  refine (HR6.out).mono ?_
  rintro e' w7 ⟨rfl, hb⟩
  have HB7 := hid (bthen HB6.out hb)
  clear hb
  go_wp2_with fail
  go_ret
  exact ⟨rfl, HB7.out⟩
end Go.Proofs.Ytkpopdkkobelaaa
