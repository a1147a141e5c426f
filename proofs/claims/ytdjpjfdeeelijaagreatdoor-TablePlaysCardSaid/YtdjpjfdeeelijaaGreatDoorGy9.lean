/- hostellaw09: alike, whole. -/
import Derived.Test.YtdjpjfdeeelijaaGreatDoorGy7
import Derived.Test.YtdjpjfdeeelijaaGreatDoorW06
namespace Go.Proofs.YtdjpjfdeeelijaaGreatDoor
open Go.RowKit Go.Sort Go.Shelf Go.WideMaps Go.Maps Go.WideShapes Go.WideElems Go.MapKept Go.ChangeMaps
attribute [local go_sem] Oper.semAt_some
section
variable {base tb d root:Nat}{vL vP:Value}{L:List ND9}{P:List LF}
set_option maxRecDepth 100000 in
set_option maxHeartbeats 2000000 in
theorem all9G_any (w:World)(H:T9 w base tb d root vL vP L P true):
 Calls Tryz.prog 43 #[.pointer (some ⟨tb,0,none⟩)] w fun e w'=>e=.returned (.slice none 0 0)∧Below w.heap.size w w':=by
 have HG:=hid (gone9_any w H)
 clear H
 go_enter Tryz.func43,Tryz.ntmps43
 go_wp2_with fail
 refine (HG.out).mono ?_
 rintro e w1 ⟨rfl,rfl⟩
 go_wp2_with fail
 go_ret
 exact ⟨rfl,Below.refl _ _⟩
set_option maxRecDepth 100000 in
set_option maxHeartbeats 2000000 in
theorem nodes9G_any (w:World)(H:T9 w base tb d root vL vP L P true):
 Calls Tryz.prog 46 #[.pointer (some ⟨tb,0,none⟩)] w fun e w'=>e=.returned (.slice none 0 0)∧Below w.heap.size w w':=by
 have HG:=hid (gone9_any w H)
 clear H
 go_enter Tryz.func46,Tryz.ntmps46
 go_wp2_with fail
 refine (HG.out).mono ?_
 rintro e w1 ⟨rfl,rfl⟩
 go_wp2_with fail
 go_ret
 exact ⟨rfl,Below.refl _ _⟩
end
section
variable {w0:World}{F:Nat}{t:FT}{p g h c m tb ob root:Nat}{wm w4:World}{q a b G d tr oq:Nat}{v4:Value}{dd:Nat→Option Addr × Nat}{vh vr:Value}{st:S9}{ws:List Nat}{vS vL vP:Value}{vs:List Value}{Ls:List (List Int)}{L:List ND9}{P:List LF}{w:World}
def PutsP (w:World)(l:List LF)(e:Ending)(w':World):Prop:=∃ v,e=.returned v∧w'.ownsRow w.heap.size 166 4 v l.length (l.map putC).flatten∧Below w.heap.size w w'
/-- The lists that both tell. -/
structure Lists9 (tb tr:Nat)(PL:List LF)(NL:List Nat)(w:World):Prop where
 a1:∀ ww,Below w.heap.size w ww→Calls Tryz.prog 42 #[.pointer (some ⟨tb,0,none⟩)] ww (PutsP ww PL)
 a2:∀ ww,Below w.heap.size w ww→Calls Tryz.prog 43 #[.pointer (some ⟨tr,0,none⟩)] ww (PutsP ww PL)
 n1:∀ ww,Below w.heap.size w ww→Calls Tryz.prog 45 #[.pointer (some ⟨tb,0,none⟩)] ww (BelP ww NL)
 n2:∀ ww,Below w.heap.size w ww→Calls Tryz.prog 46 #[.pointer (some ⟨tr,0,none⟩)] ww (BelP ww NL)
 pl:PL.length≤1000000
 nl:NL.length≤1000000
set_option maxRecDepth 100000 in
theorem lists9 (H:PW9 w0 F t p g h c m tb ob root wm w4 q a b G d tr oq v4 dd vh vr st st ws vS vL vP vs Ls L P w)(I:Inv9 (rdP16 t.L) root st):∃ PL NL,Lists9 tb tr PL NL w:=by
 have hT:=H.tw
 have h9:=H.t9
 have hlr:=H.lr
 cases hf:st.fr with
 | false=>
  rw [hf] at hT h9
  obtain ⟨hL,rfl⟩:=hlr hf
  have TT:=I.ti hf
  have BN:=bnd9 TT hL H.tw.cw.pool.n2
  have hnd:=nodes_doc (root:=root) TT.holds.shp hL
  refine ⟨allL root st.kids,nodL root st.kids,⟨fun ww hb=>?_,fun ww hb=>?_,fun ww hb=>?_,fun ww hb=>?_,BN.p,?_⟩⟩
  ·exact all_any st.s st.kids st.h ws ww (hT.below hb) TT
  ·exact all9R_any ww (h9.below hb) (by have:=BN.p;omega)
  ·exact nodes_any st.s st.kids st.h ws ww (hT.below hb) TT
  ·have:=nodes9R_any BN.pt BN.l BN.b ww (h9.below hb)
   rw [if_neg (by decide),hnd] at this
   exact this
  ·rw [← hnd,List.length_cons]
   have:=BN.b
   omega
 | true=>
  rw [hf] at hT h9
  refine ⟨[],[],⟨fun ww hb=>?_,fun ww hb=>?_,fun ww hb=>?_,fun ww hb=>?_,by simp,by simp⟩⟩
  ·refine (allG _ ww ((hT.below hb).goneAt)).mono ?_
   rintro e w' ⟨rfl,rfl⟩
   exact ⟨_,rfl,World.ownsRow_nil _ _ _ _,Below.refl _ _⟩
  ·refine (all9G_any ww (h9.below hb)).mono ?_
   rintro e w' ⟨rfl,hb'⟩
   exact ⟨_,rfl,World.ownsRow_nil _ _ _ _,hb'⟩
  ·refine (nodesG _ ww ((hT.below hb).goneAt)).mono ?_
   rintro e w' ⟨rfl,rfl⟩
   exact ⟨_,rfl,World.ownsRow_nil _ _ _ _,Below.refl _ _⟩
  ·refine (nodes9G_any ww (h9.below hb)).mono ?_
   rintro e w' ⟨rfl,hb'⟩
   exact ⟨_,rfl,World.ownsRow_nil _ _ _ _,hb'⟩
theorem putsRk {w _w':World}{B:Nat}{v:Value}{l:List LF}(h:w.ownsRow B 166 4 v l.length (l.map putC).flatten):∃ av cv,v=.slice av l.length cv∧Rk w 4 av l.length (l.map putC):=by
 obtain ⟨av,cv,e,h1,_⟩:=put_rk (B:=B) h
 exact ⟨av,cv,e,h1⟩
theorem numsCel {w:World}{B:Nat}{v:Value}{l:List Nat}(h:OwnN9 w B v l):∃ av cv,v=.slice av l.length cv∧Cel w av l.length (l.map nI9):=by
 obtain ⟨av,cv,e,h1,_⟩:=own_cel h
 have h2:Cel w av l.length (l.map nI9):=h1
 exact ⟨av,cv,e,h2⟩
set_option maxRecDepth 100000 in
set_option maxHeartbeats 16000000 in
theorem alike9_any (H:PW9 w0 F t p g h c m tb ob root wm w4 q a b G d tr oq v4 dd vh vr st st ws vS vL vP vs Ls L P w)(I:Inv9 (rdP16 t.L) root st):
 Calls Tryz.prog 10 #[.pointer (some ⟨ob,0,none⟩),.pointer (some ⟨oq,0,none⟩)] w fun e w'=>e=.returned (.bool true)∧Below w.heap.size w w':=by
 obtain ⟨PL,NL,hLS⟩:=lists9 H I
 have HLS:=hid hLS
 have HH:=hid H
 have Q2:∀ ww,Below w.heap.size w ww→ww.cell? ⟨ob,2,none⟩=some (.pointer (some ⟨tb,0,none⟩)):=fun ww hb=>(HH.out.ow.below hb).own.cell 2 (by simp)
 have R2:∀ ww,Below w.heap.size w ww→ww.cell? ⟨oq,2,none⟩=some (.pointer (some ⟨tr,0,none⟩)):=fun ww hb=>(HH.out.od.below hb).own.cell 2 (by simp)
 have HCL:=hid (show (cnts st.s.fs).length=st.s.fs.length from List.length_map _)
 clear H I hLS
 have hS0:Below w.heap.size w w.drew:=bdN (Below.refl _ _) 1
 go_enter Tryz.func10,Tryz.ntmps10
 go_wp2_with fail
 go_region_held3 (fun ww:World=>Below w.heap.size w ww) (first|assumption|exact bdN (by assumption) 1) ((first|(go_at_call 42;refine (HLS.out.a1 _ (by assumption)).mono ?_;rintro e' wa ⟨va,rfl,hoa,hba⟩;have hSa:Below w.heap.size w wa:=Below.trans (by assumption) (hba.mono (Below.size (by assumption)));have HOA:=hid hoa;clear hoa hba)|(go_at_call 43;refine (HLS.out.a2 _ (by assumption)).mono ?_;rintro e' wb ⟨vb,rfl,hob,hbb⟩;have hSb:Below w.heap.size w wb:=Below.trans (by assumption) (hbb.mono (Below.size (by assumption)));obtain ⟨a1,c1,rfl,hk1⟩:=putsRk (_w':=w) (own_below HOA.out hbb);obtain ⟨a2,c2,rfl,hk2⟩:=putsRk (_w':=w) hob;have HK1:=hid hk1;have HK2:=hid hk2;clear hob hbb hk1 hk2)|(go_at_call 41;refine (samePuts_any _ _ _ _ PL _ HK1.out HK2.out HLS.out.pl).mono ?_;rintro e' wc ⟨rfl,kc,rfl⟩;have hSc:Below w.heap.size w (wb.drewN kc):=bdN hSb kc)|(go_at_call 45;refine (HLS.out.n1 _ (by assumption)).mono ?_;rintro e' wd ⟨vd,rfl,hod,hbd⟩;have hSd:Below w.heap.size w wd:=Below.trans (by assumption) (hbd.mono (Below.size (by assumption)));have HOD:=hid hod;clear hod hbd)|(go_at_call 46;refine (HLS.out.n2 _ (by assumption)).mono ?_;rintro e' we ⟨ve,rfl,hoe,hbe⟩;have hSe:Below w.heap.size w we:=Below.trans (by assumption) (hbe.mono (Below.size (by assumption)));obtain ⟨a4,c4,rfl,hk4⟩:=numsCel (own_below HOD.out hbe);obtain ⟨a5,c5,rfl,hk5⟩:=numsCel hoe;have HK4:=hid hk4;have HK5:=hid hk5;clear hoe hbe hk4 hk5)|(go_at_call 44;refine (sameInts_any _ _ _ _ NL _ HK4.out HK5.out HLS.out.nl).mono ?_;rintro e' wf ⟨rfl,kf,rfl⟩;have hSf:Below w.heap.size w (we.drewN kf):=bdN hSe kf)))
 generalize hw1:we.drewN kf=w1 at hSf ⊢
 have HB1:=hid hSf
 clear hw1 hS0 hSa hSb hSc hSd hSe hSf HOA HOD HK1 HK2 HK4 HK5 Q2 R2
 have H1:=hid (HH.out.below HB1.out)
 have hn2:st.s.fs.length≤1024:=HH.out.tw.cw.pool.n2
 go_wp2_with fail
 go_loopw [5,6] (fun v i wr=>∃ k:Nat,k≤st.s.fs.length∧v=.bool true∧i=.int .i64 k∧Below w.heap.size w wr∧Below w1.heap.size w1 wr) (fun _ i _=>st.s.fs.length-(intOf i).toNat)
 case atStart=>exact ⟨0,Nat.zero_le _,rfl,rfl,HB1.out,Below.refl _ _⟩
 case round=>
  obtain ⟨k,hk,rfl,rfl,hb8,hb9⟩:=hrel
  have HB8:=hid hb8
  have HB9:=hid hb9
  have H5:=hid (H1.out.below hb9)
  have HS:=hid (rsize_any q a b (cnts st.s.fs) vs wr H5.out.rc.rs.rp)
  rw [HCL.out] at HS
  clear hb8 hb9
  obtain ⟨q0,q1,q2,q3⟩:=(show wr.cell? ⟨ob,0,none⟩=some (.pointer (some ⟨p,0,none⟩))∧ob<wr.heap.size∧wr.cell? ⟨oq,0,none⟩=some (.pointer (some ⟨q,0,none⟩))∧oq<wr.heap.size from ⟨H5.out.ow.own.cell 0 (by simp),H5.out.ow.own.lt,H5.out.od.own.cell 0 (by simp),H5.out.od.own.lt⟩)
  have HCP:=hid (fun n=>count_any p g h st.s.fs ws (k:Int) (wr.drewN n) (H5.out.tw.cw.pool.below (bdN (Below.refl _ _) n)))
  have HCR:=hid (fun n=>rcount_any q a b (cnts st.s.fs) vs (k:Int) (wr.drewN n) (H5.out.rc.rs.rp.below (bdN (Below.refl _ _) n)))
  rw [show rcnt (cnts st.s.fs) (k:Int)=cntF st.s.fs (k:Int) from rcnt_map _ _] at HCR
  have d8:((cntF st.s.fs (k:Int))==(cntF st.s.fs (k:Int)))=true:=by simp
  have HD8:=hid d8
  generalize cntF st.s.fs (k:Int)=cf at *
  by_cases hlt:k<st.s.fs.length
  ·have d1:decide ((k:Int)<(st.s.fs.length:Int))=true:=by simp;omega
   have d1n:decide (k<st.s.fs.length)=true:=by simp;omega
   go_wp2_with (go_at_call 47;refine (HS.out).mono ?_;rintro e' w' ⟨rfl,rfl⟩)
   go_quiet (((first|(go_at_call 15;exact Calls.quiet_of_same ((HCP.out _).mono (fun _ _ h=>⟨h.1,h.2.symm⟩)))|(go_at_call 48;exact Calls.quiet_of_same ((HCR.out _).mono (fun _ _ h=>⟨h.1,h.2.symm⟩))))))
   go_wp2_with fail
   go_roundw
   case rel=>exact ⟨k+1,by omega,by first|rfl|simp,by go_num,bdN HB8.out nq,bdN HB9.out nq⟩
   case measure=>simp [intOf];omega
  ·have d1:decide ((k:Int)<(st.s.fs.length:Int))=false:=by simp;omega
   have d1n:decide (k<st.s.fs.length)=false:=by simp;omega
   go_wp2_with (go_at_call 47;refine (HS.out).mono ?_;rintro e' w' ⟨rfl,rfl⟩)
   go_ret
   exact ⟨rfl,HB8.out⟩
theorem load_len9 (fs:List FR)(hok:FsOk fs)(f off n:Int):(loadL fs f off n).length≤4096:=by
 unfold loadL
 split
 ·split
  case isFalse=>simp
  rw [List.length_take,List.length_drop]
  by_cases c:f.toNat<fs.length
  ·have:=hok _ (List.getElem_mem c)
   rw [getF_at _ _ _ c];omega
  ·rw [List.getD_eq_getElem?_getD,List.getElem?_eq_none (by omega)]
   show min _ (([]:List Int).length-_)≤_
   simp
 ·simp
set_option maxRecDepth 100000 in
set_option maxHeartbeats 16000000 in
theorem whole9_any (H:PW9 w0 F t p g h c m tb ob root wm w4 q a b G d tr oq v4 dd vh vr st st ws vS vL vP vs Ls L P w):
 Calls Tryz.prog 11 #[.pointer (some ⟨ob,0,none⟩),.pointer (some ⟨oq,0,none⟩)] w fun e w'=>e=.returned (.bool true)∧Below w.heap.size w w':=by
 have HH:=hid H
 have hn2:st.s.fs.length≤1024:=H.tw.cw.pool.n2
 have HCL:=hid (show (cnts st.s.fs).length=st.s.fs.length from List.length_map _)
 clear H
 go_enter Tryz.func11,Tryz.ntmps11
 go_wp2_with fail
 go_loopw [5] (fun i wr=>∃ k:Nat,k≤st.s.fs.length∧i=.int .i64 k∧Below w.heap.size w wr) (fun i _=>st.s.fs.length-(intOf i).toNat)
 case atStart=>exact ⟨0,Nat.zero_le _,rfl,Below.refl _ _⟩
 case round=>
  obtain ⟨k,hk,rfl,hb⟩:=hrel
  have HB:=hid hb
  have HM:=hid (HH.out.below hb)
  have HS:=hid (rsize_any q a b (cnts st.s.fs) vs wr HM.out.rc.rs.rp)
  rw [HCL.out] at HS
  have HL:=hid (load_any p g h st.s.fs ws (k:Int) 0 4096 wr HM.out.tw.cw.pool)
  have hll:=load_len9 st.s.fs HM.out.tw.cw.pool.ok (k:Int) 0 4096
  obtain ⟨q0,q1,q2,q3⟩:=(show wr.cell? ⟨ob,0,none⟩=some (.pointer (some ⟨p,0,none⟩))∧ob<wr.heap.size∧wr.cell? ⟨oq,0,none⟩=some (.pointer (some ⟨q,0,none⟩))∧oq<wr.heap.size from ⟨HM.out.ow.own.cell 0 (by simp),HM.out.ow.own.lt,HM.out.od.own.cell 0 (by simp),HM.out.od.own.lt⟩)
  clear hb
  by_cases hlt:k<st.s.fs.length
  ·have d1:decide ((k:Int)<(st.s.fs.length:Int))=true:=by simp;omega
   have d1n:decide (k<st.s.fs.length)=true:=by simp;omega
   go_wp2_with (go_at_call 47;refine (HS.out).mono ?_;rintro e' w' ⟨rfl,rfl⟩)
   refine (HL.out).mono ?_
   rintro e' w2 ⟨v,rfl,hv,hb⟩
   have HM2:=hid (HM.out.below hb)
   have HB2:=hid (bthen HB.out hb)
   have HV:=hid hv
   clear hv hb q0 q1 q2 q3
   obtain ⟨q0,q1,q2,q3⟩:=(show w2.cell? ⟨ob,0,none⟩=some (.pointer (some ⟨p,0,none⟩))∧ob<w2.heap.size∧w2.cell? ⟨oq,0,none⟩=some (.pointer (some ⟨q,0,none⟩))∧oq<w2.heap.size from ⟨HM2.out.ow.own.cell 0 (by simp),HM2.out.ow.own.lt,HM2.out.od.own.cell 0 (by simp),HM2.out.od.own.lt⟩)
   go_wp2_with fail
   refine (rload_any w4.heap.size q a b st.s.fs vs Ls (k:Int) 0 4096 w2 HM2.out.rc.rs HM2.out.tw.cw.pool.ok HM2.out.rc.h0 HM2.out.rc.hd).mono ?_
   rintro e' w3 ⟨v2,rfl,hv,hb⟩
   have HB3:=hid (bthen HB2.out hb)
   have HV3:=hid (own_below HV.out hb)
   obtain ⟨ta,tc,rfl,hn1,_⟩:=own_cel HV3.out
   obtain ⟨ua,uc,rfl,hn2',_⟩:=own_cel hv
   have HN1:=hid hn1
   have HN2:=hid hn2'
   have d8:((loadE st.s.fs (k:Int) 0 4096) != (loadE st.s.fs (k:Int) 0 4096))=false:=by simp
   have HD8:=hid d8
   clear hv hb hn1 hn2' d8 q0 q1 q2 q3
   generalize (loadL st.s.fs (k:Int) 0 4096)=LL at *
   generalize loadE st.s.fs (k:Int) 0 4096=le at *
   have d8:=HD8.out
   have d9:((LL.length:Int) != (LL.length:Int))=false:=by simp
   go_wp2_with fail
   go_loopw [10] (fun i wr=>∃ j n:Nat,j≤LL.length∧i=.int .i64 j∧wr=w3.drewN n) (fun i _=>LL.length-(intOf i).toNat)
   case atStart=>exact ⟨0,0,Nat.zero_le _,rfl,rfl⟩
   case round=>
    obtain ⟨j,n,hj,rfl,rfl⟩:=hrel
    by_cases hjl:j<LL.length
    ·have e1:decide ((j:Int)<(LL.length:Int))=true:=by simp;omega
     have e1n:decide (j<LL.length)=true:=by simp;omega
     have i1:(0:Int)≤(j:Int):=by omega
     have i2:(j:Int)<(LL.length:Int):=by omega
     obtain ⟨ba,oa,rfl,ga⟩:=HN1.out.cell j (by simpa using hjl)
     obtain ⟨bb,ob2,rfl,gb⟩:=HN2.out.cell j (by simpa using hjl)
     have hla:=World.block_lt_of_cell? _ _ ga
     have hlb:=World.block_lt_of_cell? _ _ gb
     simp only [List.getElem_map] at ga gb
     obtain ⟨y,hy⟩:∃ y,y=LL[j]:=⟨_,rfl⟩
     rw [← hy] at ga gb
     have z0:(y != y)=false:=by simp
     clear hy
     go_wp2_with fail
     go_quiet (fail)
     go_wp2_with fail
     go_roundw
     case rel=>exact ⟨j+1,n+nq,by omega,by go_num,rfl⟩
     case measure=>simp [intOf];omega
    ·have e1:decide ((j:Int)<(LL.length:Int))=false:=by simp;omega
     have e1n:decide (j<LL.length)=false:=by simp;omega
     go_wp2_with fail
     go_roundw
     case rel=>exact ⟨k+1,by omega,by go_num,bdN HB3.out _⟩
     case measure=>simp [intOf];omega
  ·have d1:decide ((k:Int)<(st.s.fs.length:Int))=false:=by simp;omega
   have d1n:decide (k<st.s.fs.length)=false:=by simp;omega
   go_wp2_with (go_at_call 47;refine (HS.out).mono ?_;rintro e' w' ⟨rfl,rfl⟩)
   go_ret
   exact ⟨rfl,HB.out⟩
end
end Go.Proofs.YtdjpjfdeeelijaaGreatDoor
