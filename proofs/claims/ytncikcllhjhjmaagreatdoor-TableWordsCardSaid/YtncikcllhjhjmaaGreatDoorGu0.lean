
/- hostellaw09: wordAt: a frame's word, byte by byte. -/
import Derived.Test.YtncikcllhjhjmaaGreatDoorKY5
namespace Go.Proofs.YtncikcllhjhjmaaGreatDoor
open Go.RowKit Go.Sort Go.WideMaps Go.Maps Go.WideShapes Go.WideElems Go.MapKept Go.ChangeMaps
attribute [local go_sem] Oper.semAt_some

section
variable {w0 : World} {F : Nat} {t : FT} {p g h c m tb root : Nat} {s : CC} {ws : List Nat} {fr : Bool} {w : World}
theorem word_step (x k : Nat) : x / 256 ^ (k + 1) * 256 + x / 256 ^ k % 256 = x / 256 ^ k := by
  have : x / 256 ^ (k + 1) = x / 256 ^ k / 256 := by rw [Nat.pow_succ, Nat.div_div_eq_div_mul]
  rw [this]
  omega
theorem byte_small (x k : Nat) : x / 256 ^ k % 256 < 256 := Nat.mod_lt _ (by omega)
theorem or_low (a b : Nat) (ha : a < 72057594037927936) (hb : b < 256) : bits BinOp.or .u64 (IntKind.u64.wrap ((a : Int) * 256)) (b : Int) = ((a * 256 + b : Nat) : Int) := by
  have e1 : IntKind.u64.wrap ((a : Int) * 256) = ((a * 256 : Nat) : Int) := by rw [IntWalk.u64_in _ (by omega)]; simp
  rw [e1, bits_or_u64_nat _ _ (by omega) (by omega)]
  have := Nat.two_pow_add_eq_or_of_lt (i := 8) (b := b) (by omega) a
  rw [Nat.mul_comm a 256]
  rw [show (2 : Nat) ^ 8 = 256 from rfl] at this
  rw [this]
set_option maxRecDepth 100000 in
set_option maxHeartbeats 4000000 in
theorem wordAt_any (H : TW w0 F t p g h c m tb s ws root fr w) (f i x : Nat) (hw : WdAt s.fs f i x) (h0 : ∀ hf : f < s.fs.length, s.fs[f].cnt ≠ 0) (hi : i < 512) (hx : x < 18446744073709551616) :
    Calls Tryz.prog 16 #[.pointer (some ⟨p, 0, none⟩), .int .i64 (f : Int), .int .i64 (i : Int)] w fun e w' => e = .returned (.tuple #[.int .u64 (x : Int), .bool true]) ∧ Below w.heap.size w w' := by
  obtain ⟨hf, hbs⟩ := hw
  have hT : takE s.fs (f : Int) = 0 := by unfold takE; rw [cntF_at hf, if_neg (h0 hf)]
  have hW : withinB (8 * (i : Int)) 8 = true := by unfold withinB; simp; omega
  have hE : loadE s.fs (f : Int) (8 * (i : Int)) 8 = 0 := by unfold loadE; rw [hT, hW]; rfl
  have hL : loadL s.fs (f : Int) (8 * (i : Int)) 8 = le8 x := by
    unfold loadL
    rw [hT, hW, Int.toNat_natCast, show (8 * (i : Int)).toNat = 8 * i by omega, show (8 : Int).toNat = 8 from rfl, getF_at _ _ _ hf]
    exact hbs
  have HLD := hid (load_any p g h s.fs ws (f : Int) (8 * (i : Int)) 8 w H.cw.pool)
  rw [hE, hL, le8_len] at HLD
  unfold le8 at HLD
  rw [b2i_map] at HLD
  have ew := IntWalk.wrap64_in (8 * (i : Int)) ⟨by omega, by omega⟩
  have HX := hid hx
  clear H hbs h0 hT hW hE hL hf hx
  go_enter Tryz.func16, Tryz.ntmps16
  go_wp2_with fail
  refine (HLD.out).mono ?_
  rintro e w1 ⟨v, rfl, ho, hb⟩
  obtain ⟨a, ca, rfl, hcl, _⟩ := own_cel ho
  have HCL := hid hcl
  have HB := hid hb
  clear ho hcl hb ew
  go_wp2_with fail
  go_loopw [10, 11] (fun X i wr => w1 = wr ∧ ∃ (r : Nat) (z : Int), r ≤ 8 ∧ i = .int .i64 z ∧ z + 1 = (r : Int) ∧ X = .int .u64 ((x / 256 ^ r : Nat) : Int)) (fun _ i _ => (intOf i + 1).toNat)
  case atStart =>
    refine ⟨rfl, 8, 7, by omega, rfl, by omega, ?_⟩
    have : x / 256 ^ 8 = 0 := Nat.div_eq_of_lt (by have := HX.out; omega)
    rw [this]
    rfl
  case round =>
    obtain ⟨rfl, r, z, hr, rfl, hz, rfl⟩ := hrel
    by_cases hlt : 0 ≤ z
    · obtain ⟨k, rfl⟩ := Int.eq_ofNat_of_zero_le hlt
      obtain rfl : r = k + 1 := by omega
      have d1 : decide ((0 : Int) ≤ (k : Int)) = true := by simp
      have hk : k < 8 := by omega
      obtain ⟨b, o, rfl, hcell⟩ := HCL.out.some_of (by simp [Wd.leB_len])
      have g0 := hcell k (by simp [Wd.leB_len]; exact hk)
      have hgl := World.block_lt_of_cell? _ _ g0
      have eb : ((Wd.leB x 8).map B8)[k]'(by simp [Wd.leB_len]; exact hk) = .int .u8 ((x / 256 ^ k % 256 : Nat) : Int) := by
        rw [List.getElem_map]
        unfold Wd.leB B8
        rw [List.getElem_map, List.getElem_range]
        rw [Wd.byteAt_toNat]
      rw [eb] at g0
      have HS := hid (word_step x k)
      have hby := byte_small x k
      have HLT := hid (show x / 256 ^ (k + 1) < 72057594037927936 from Nat.lt_of_le_of_lt (Nat.div_le_div_left (show 256 ≤ 256 ^ (k + 1) by rw [Nat.pow_succ]; have : 0 < 256 ^ k := Nat.pow_pos (by omega); omega) (by omega)) (by have := HX.out; omega))
      have HO := hid (or_low _ _ HLT.out hby)
      rw [HS.out] at HO
      have eo := HO.out
      generalize x / 256 ^ k % 256 = bb at *
      obtain ⟨X1, hX1⟩ : ∃ X1, X1 = x / 256 ^ (k + 1) := ⟨_, rfl⟩
      obtain ⟨X0, hX0⟩ : ∃ X0, X0 = x / 256 ^ k := ⟨_, rfl⟩
      have HX0 := hid hX0
      rw [← hX1] at eo ⊢
      rw [← hX0] at eo
      have z1 : (k : Int) < 8 := by omega
      clear hX1 hX0 hcell eb hlt
      go_wp2_with fail
      go_roundw
      case rel => exact ⟨trivial, k, (k : Int) - 1, by omega, by go_num, by omega, by rw [HX0.out]⟩
      case measure => first | (simp [intOf]; done) | (simp [intOf]; omega)
    · have d1 : decide ((0 : Int) ≤ z) = false := by simp; omega
      obtain rfl : r = 0 := by omega
      have e0 : x / 256 ^ 0 = x := by rw [Nat.pow_zero, Nat.div_one]
      rw [e0]
      go_wp2_with fail
      go_ret2
      exact ⟨rfl, HB.out⟩
end
end Go.Proofs.YtncikcllhjhjmaaGreatDoor
