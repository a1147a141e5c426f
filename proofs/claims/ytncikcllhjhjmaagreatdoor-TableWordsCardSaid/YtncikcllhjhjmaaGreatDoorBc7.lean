
/- cache.fill. -/
import Derived.Test.YtncikcllhjhjmaaGreatDoorBc6
namespace Go.Proofs.YtncikcllhjhjmaaGreatDoor
open Go.RowKit Go.Sort Go.WideMaps Go.Maps Go.WideShapes Go.WideElems Go.MapKept Go.ChangeMaps
attribute [local go_sem] Oper.semAt_some

theorem EX.nums {S : Nat → Prop} {w w' : World} {k : IntKind} {ad : Option Addr} {len : Nat} {l : List Int} (h : EX S w w') (hb : Nums w k ad len l) (hn : ∀ x, ad = some x → ¬ S x.block) : Nums w' k ad len l :=
  ⟨hb.hlen, fun i hi => by
    obtain ⟨g, off, e, hc⟩ := hb.cell i hi
    exact ⟨g, off, e, h.cell hc (show ¬ S g from hn _ e)⟩⟩
set_option maxRecDepth 100000 in
set_option maxHeartbeats 8000000 in
theorem fill_any (w0 : World) (F : Nat) (t : FT) (p g h c m : Nat) (s : CC) (ws : List Nat) (rd : Int → Int → List UInt8 × Int) (hx : List Nat) (w : World) (H : CW w0 F t p g h c m s ws w) (G : Good rd s hx) (hs : hx.length ≤ 1000000000)
    (b : List UInt8) (ba : Option Addr) (cap : Nat) (hB : Nums w .u8 ba b.length (b2i b)) (hA : ∀ x, ba = some x → ¬ cS g h c m x.block) (hb : b.length ≤ 4096) :
    Calls Tryz.prog 81 #[.pointer (some ⟨c, 0, none⟩), .slice ba b.length cap] w fun e w' => e = .returned (.tuple #[.int .i64 (filC s b).1, .int .i64 (filC s b).2.1]) ∧ (∃ ws', CW w0 F t p g h c m (filC s b).2.2 ws' w') ∧ EX (cS g h c m) w w' := by
  have HTK := hid (ctake_any w0 F t p g h c m s ws rd hx w H G hs)
  have HBY := hid hB
  have HA := hid hA
  have HBL := hid hb
  obtain ⟨T, hT⟩ : ∃ T, T = filC s b := ⟨_, rfl⟩
  rw [← hT]
  have HT := hid hT
  rcases takC_case G with ⟨k, s1, ht, TT⟩ | ⟨ht, h0⟩
  · have hf := filC_ok ht TT b hb
    rw [ht] at HTK
    have HTT := hid TT
    have HF := hid (hT.trans hf)
    clear H G hB hA hb hT ht hf TT
    go_enter Tryz.func81, Tryz.ntmps81
    go_wp2_with fail
    refine (HTK.out).mono ?_
    rintro e w1 ⟨rfl, ⟨ws1, hc1⟩, he1⟩
    have HC1 := hid hc1
    have HE1 := hid he1
    have HB1 := hid (he1.nums HBY.out HA.out)
    obtain ⟨c0, c1, c2, c3⟩ := hc1.cells
    have hlc := hc1.cache.lt
    have hk : k < s1.fs.length := by rw [HTT.out.fs, List.length_set]; exact HTT.out.lt
    have e1 : s1.fs[k] = one0 := by simp only [HTT.out.fs]; rw [List.getElem_set_self]
    have hL : loadE s1.fs (k : Int) 0 b.length = 0 := by
      have ec : cntF s1.fs (k : Int) = 1 := by rw [cntF_at hk, e1]; rfl
      have := HBL.out
      unfold loadE takE withinB
      rw [ec]
      simp
      omega
    have HST := hid (store_any p g h s1.fs ws1 (k : Int) 0 ba b.length cap (b2i b) w1 hc1.pool HB1.out (by have := HBL.out; omega))
    have hL2 : loadE s1.fs (k : Int) 0 (b2i b).length = 0 := by rw [b2i_len]; exact hL
    have hS : storeS s1.fs (k : Int) 0 (b2i b) = s1.fs.set k ⟨b2i b ++ List.replicate (4096 - b.length) 0, 1⟩ := by
      have e2 : splice one0.bs (Int.toNat 0) (b2i b) = b2i b ++ List.replicate (4096 - b.length) 0 := by
        show List.take 0 one0.bs ++ (b2i b ++ one0.bs.drop (0 + (b2i b).length)) = _
        rw [List.take_zero, List.nil_append, Nat.zero_add, b2i_len, one0_bs, List.drop_replicate]
      unfold storeS
      rw [if_pos hL2, Int.toNat_natCast, getF_at _ _ _ hk, e1, e2]
      rfl
    rw [hL, hS] at HST
    clear hc1 he1 hk e1 hL hL2 hS
    go_wp2_with fail
    refine (HST.out).mono ?_
    rintro e w2 ⟨rfl, hp2, he2⟩
    have HP2 := hid hp2
    have HE2 := hid he2
    clear hp2 he2
    go_wp2_with fail
    go_ret2
    rw [HF.out]
    exact ⟨rfl, ⟨ws1, HC1.out.pool' HP2.out HE2.out⟩, HE1.out.trans (ex_cS HE2.out)⟩
  · rw [ht] at HTK
    have hf : T = (0, 4, s) := by
      rw [hT]
      unfold filC
      rw [ht]
      rfl
    have HF := hid hf
    clear H G hB hA hb hT ht hf
    go_enter Tryz.func81, Tryz.ntmps81
    go_wp2_with fail
    refine (HTK.out).mono ?_
    rintro e w1 ⟨rfl, hc1, he1⟩
    have HC1 := hid hc1
    have HE1 := hid he1
    clear hc1 he1
    go_wp2_with fail
    go_ret2
    rw [HF.out]
    exact ⟨rfl, HC1.out, HE1.out⟩
end Go.Proofs.YtncikcllhjhjmaaGreatDoor
