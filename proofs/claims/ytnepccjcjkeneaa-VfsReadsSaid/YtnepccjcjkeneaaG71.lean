
/- VfsReads: the walk. -/
import Derived.Test.YtnepccjcjkeneaaG70
import Derived.Test.YtnepccjcjkeneaaKS
namespace Go.Proofs.Ytnepccjcjkeneaa
open Go.ChangeShapes Go.WideShapes Go.ChangeAt Go.RowKit Go.Sort
attribute [local go_sem] Oper.semAt_some

theorem blk_ne {u v : Value} {A B C D : Nat} (h1 : u.ownBlock = none ∨ ∃ g, u.ownBlock = some g ∧ A ≤ g ∧ g < B) (h2 : v.ownBlock = none ∨ ∃ g, v.ownBlock = some g ∧ C ≤ g ∧ g < D) (hBC : B ≤ C) : (u.ownBlock = none ∨ u.ownBlock ≠ v.ownBlock) ∧ (v.ownBlock = none ∨ v.ownBlock ≠ u.ownBlock) := by
  rcases h1 with h1 | ⟨g, h1, _, h3⟩
  · refine ⟨.inl h1, ?_⟩
    rcases h2 with h2 | ⟨k, h2, _, _⟩
    · exact .inl h2
    · exact .inr (by rw [h1, h2]; simp)
  · rcases h2 with h2 | ⟨k, h2, h4, _⟩
    · exact ⟨.inr (by rw [h1, h2]; simp), .inl h2⟩
    · have hne : g ≠ k := by omega
      exact ⟨.inr (by rw [h1, h2]; simpa using hne), .inr (by rw [h1, h2]; simpa using hne.symm)⟩
theorem blk_lt {u : Value} {A B X : Nat} (h1 : u.ownBlock = none ∨ ∃ g, u.ownBlock = some g ∧ A ≤ g ∧ g < B) (h : B ≤ X) : u.ownBlock ≠ some X := by
  rcases h1 with h1 | ⟨g, h1, _, h3⟩
  · rw [h1]; simp
  · rw [h1]; simp; omega

set_option maxRecDepth 100000 in
set_option maxHeartbeats 8000000 in
theorem vfsReads_walk (a : Option Addr) (cp : Nat) (xs : List EN) (ino p q : Int) (w : World) (hX : EntsIn w a xs.length xs) (hxl : xs.length ≤ 140737488351232) :
    Calls Try.prog 5 #[.slice a xs.length cp, .int .i64 ino, .agg #[.int .i64 p, .int .i64 q]] w fun e' w' => e' = .returned (.bool true) ∧ Below w.heap.size w w' := by
  obtain ⟨W0, hW0⟩ : ∃ W0, W0 = w.alloc (.cells #[.int .i64 p, .int .i64 q] 52) := ⟨_, rfl⟩
  have hb : Below w.heap.size w W0 := by rw [hW0]; exact bal _
  have hr : Row W0 w.heap.size 52 [.int .i64 p, .int .i64 q] := by rw [hW0]; exact Row.new w 52 [.int .i64 p, .int .i64 q]
  have HB0 := hid hb
  have HR0 := hid hr
  have HX0 := hid (show EntsIn W0 a xs.length xs from ⟨hX.rows.below' hb, fun x hx => ⟨(hX.ok x hx).byt.below' hb, (hX.ok x hx).nil, (hX.ok x hx).path, (hX.ok x hx).to, (hX.ok x hx).data, (hX.ok x hx).mode⟩⟩)
  clear hX hb hr
  go_enter Try.func5, Try.ntmps5
  go_wp2_with fail
  rw [← hW0]
  clear hW0
  refine (largeE_any _ _ _ xs W0 HX0.out hxl).mono ?_
  rintro e' w1 ⟨b, rfl, hb, hsm⟩
  have HB1 := hid (HB0.out.trans (hb.mono HB0.out.size))
  have HR1 := hid (HR0.out.below hb HR0.out.lt)
  cases b
  · obtain ⟨hs1, hs2⟩ := hsm rfl
    have he := HX0.out.small hs2
    have HX1 := hid (he.below hb)
    have HS1 := hid hs1
    clear hsm hs1 hs2 he hb HX0 HR0
    go_wp2_with fail
    refine (made_any a cp xs w1 HX1.out (by have := HS1.out; omega)).mono ?_
    rintro e' w4 ⟨hb, hp⟩
    have HB4 := hid (bthen HB1.out hb)
    have HR4 := hid (HR1.out.below hb HR1.out.lt)
    clear hb HX1 HB1 HR1
    split at hp
    · obtain ⟨F, t, G, d, rfl, htl, hfs, hrf⟩ := hp
      have HRD := hid (fun (i off n : Int) (wr : World) (hs : Below w4.heap.size w4 wr) => read_any F t i off n wr (hfs.below hs))
      have HRR := hid (fun (i off n : Int) (wr : World) (hs : Below w4.heap.size w4 wr) => rread_any G t.L d i off n wr (hrf.below hs))
      have HRL := hid (fun (i off n : Int) => readL_len hfs.fine i off n)
      have HEQ := hid (fun (l : BL) (hl : l.length ≤ 1000000) (p q : Option Addr) (n m : Nat) (wx : World) (q1 : Cel wx p l.length (l.map B8)) (q2 : Cel wx q l.length (l.map B8)) => show Calls Try.prog 16 #[.slice p l.length n, .slice q l.length m] wx (fun e w' => e = .returned (.bool true) ∧ ∃ n, w' = wx.drewN n) from by
        have := eqBytes_any p q l.length n l.length m l l wx (cel_byt q1) (cel_byt q2) (by omega) (by omega)
        rwa [eqB_me] at this)
      clear hfs hrf htl
      have HD1 := hid (HRD.out ino p q)
      have HD2 := hid (HRR.out ino p q)
      have HD3 := hid (HRD.out ino 0 131072)
      have HL1 := hid (HRL.out ino p q)
      have HL3 := hid (HRL.out ino 0 131072)
      unfold RdPost at HD1 HD2 HD3
      generalize (readL t.L ino p q).1 = R at *
      generalize (readL t.L ino p q).2 = re at *
      generalize (readL t.L ino 0 131072).1 = S at *
      generalize (readL t.L ino 0 131072).2 = se at *
      clear HRD HRR HRL
      obtain ⟨x0, x1⟩ := HR4.out.two
      have l0 := HR4.out.lt
      go_wp2_with fail
      refine (HD1.out _ (Below.refl _ _)).mono ?_
      rintro e' w5 ⟨v, rfl, ho, hb⟩
      obtain ⟨pa, pc, rfl, hca, _⟩ := own_cel ho
      have HB5 := hid hb
      have HR5 := hid (HR4.out.below hb HR4.out.lt)
      have HCA := hid hca
      have HOA := hid ho
      clear ho hca hb x0 x1 l0
      obtain ⟨x0, x1⟩ := HR5.out.two
      have l0 := HR5.out.lt
      go_wp2_with fail
      refine (HD2.out _ HB5.out).mono ?_
      rintro e' w6 ⟨v, rfl, ho, hb⟩
      obtain ⟨qa, qc, rfl, hcb, _⟩ := own_cel ho
      have HB6 := hid (bthen HB5.out hb)
      have HR6 := hid (HR5.out.below hb HR5.out.lt)
      have HCA := hid (HCA.out.below' hb)
      have HCB := hid hcb
      have HOA6 := hid (own_below HOA.out hb)
      clear ho hcb hb x0 x1 l0 HOA
      have n7 : (re != re) = false := by simp
      go_wp2_with fail
      refine (HEQ.out R HL1.out pa qa pc qc w6 HCA.out HCB.out).mono ?_
      rintro e' w7 ⟨rfl, n, rfl⟩
      obtain ⟨W7, hW7⟩ : ∃ W7, W7 = w6.drewN n := ⟨_, rfl⟩
      rw [← hW7]
      have HB7 := hid (show Below w4.heap.size w4 W7 from by rw [hW7]; exact bdN HB6.out n)
      have h67 : Below w6.heap.size w6 W7 := by rw [hW7]; exact bdN (Below.refl _ _) n
      have HR7 := hid (HR6.out.below h67 HR6.out.lt)
      have HOA7 := hid (own_below HOA6.out h67)
      clear hW7 h67 HOA6 HCA HCB
      obtain ⟨x0, x1⟩ := HR7.out.two
      have l0 := HR7.out.lt
      go_wp2_with fail
      refine (HD1.out _ HB7.out).mono ?_
      rintro e' w8 ⟨v, rfl, ho, hb⟩
      obtain ⟨ra, rc, rfl, _⟩ := own_cel ho
      have HB8 := hid (bthen HB7.out hb)
      have HR8 := hid (HR7.out.below hb HR7.out.lt)
      have HOA8 := hid (own_below HOA7.out hb)
      have HLA := hid (own_block HOA7.out)
      have HZ8 := hid hb.size
      have HOC8 := hid ho
      clear ho hb x0 x1 l0 HOA7
      go_wp2_with fail
      refine (HD3.out _ HB8.out).mono ?_
      rintro e' w9 ⟨v, rfl, ho, hb⟩
      obtain ⟨sa, sc, rfl, _⟩ := own_cel ho
      have HB9 := hid (bthen HB8.out hb)
      have HOA9 := hid (own_below HOA8.out hb)
      have HOC9 := hid (own_below HOC8.out hb)
      have HLC := hid (own_block HOC8.out)
      have HOD9 := hid ho
      have HLD := hid (own_block ho)
      have HZ9 := hid hb.size
      clear ho hb HOA8
      have h4 := HB5.out.size
      have h7 := HB7.out.size
      have h8 := HB8.out.size
      have h9 := HB9.out.size
      go_wp2_with fail
      have hL : Ap.Lists (w9.alloc (.cells #[.slice pa R.length pc, .slice ra R.length rc, .slice sa S.length sc] 36)) w4.heap.size w9.heap.size [.slice pa R.length pc, .slice ra R.length rc, .slice sa S.length sc] [R, R, S] :=
        Ap.Lists.three (Row.new w9 36 [.slice pa R.length pc, .slice ra R.length rc, .slice sa S.length sc]) (HOA9.out.alloc _) ((Ap.own_base HOC9.out h7).alloc _) ((Ap.own_base HOD9.out h8).alloc _)
          (blk_ne HLA.out HLC.out (Nat.le_refl _)).1 (blk_ne HLA.out HLD.out HZ8.out).1 (blk_ne HLA.out HLC.out (Nat.le_refl _)).2 (blk_ne HLC.out HLD.out (Nat.le_refl _)).1 (blk_ne HLA.out HLD.out HZ8.out).2 (blk_ne HLC.out HLD.out (Nat.le_refl _)).2
          (blk_lt HLA.out (Nat.le_trans HZ8.out HZ9.out)) (blk_lt HLC.out HZ9.out) (blk_lt HLD.out (Nat.le_refl _)) (by have := HL1.out; omega) (by have := HL1.out; omega) (by have := HL3.out; omega)
      have K9 := HB9.out.alloc HB9.out.size (.cells #[.slice pa R.length pc, .slice ra R.length rc, .slice sa S.length sc] 36)
      refine (Ap.apart_any 3 w9.heap.size w4.heap.size _ _ _ hL rfl (by omega) h9 (by simp only [World.size_alloc]; omega)).mono ?_
      rintro e' w10 ⟨rfl, hb⟩
      have HB10 := hid (K9.trans hb)
      clear hL K9 hb h4 h7 h8 h9
      go_wp2_with fail
      refine (works06_any _).mono ?_
      rintro e' w11 ⟨rfl, hb⟩
      have HB11 := hid (bthen (bthen HB4.out HB10.out) hb)
      clear hb
      go_wp2_with fail
      go_ret
      exact ⟨rfl, HB11.out⟩
    · obtain rfl := hp
      go_wp2_with fail
      refine (works06_any _).mono ?_
      rintro e' w5 ⟨rfl, hb⟩
      have HB5 := hid (bthen HB4.out hb)
      clear hb
      go_wp2_with fail
      go_ret
      exact ⟨rfl, HB5.out⟩
  · clear hsm
    go_wp2_with fail
    refine (works06_any _).mono ?_
    rintro e' w3 ⟨rfl, hb2⟩
    have HB3 := hid (bthen HB1.out hb2)
    clear hb2
    go_wp2_with fail
    go_ret
    exact ⟨rfl, HB3.out⟩
end Go.Proofs.Ytnepccjcjkeneaa
