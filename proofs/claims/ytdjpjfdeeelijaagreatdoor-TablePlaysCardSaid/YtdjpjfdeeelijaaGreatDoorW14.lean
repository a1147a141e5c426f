/- TablePlays: what one thing done leaves of both. TablePlays. -/
import Derived.Test.YtdjpjfdeeelijaaGreatDoorGy9
import Derived.Test.YtdjpjfdeeelijaaGreatDoorGy8
namespace Go.Proofs.YtdjpjfdeeelijaaGreatDoor
open Go.RowKit Go.Sort Go.Shelf Go.WideMaps Go.Maps Go.WideShapes Go.WideElems Go.MapKept Go.ChangeMaps
attribute [local go_sem] Oper.semAt_some
theorem toldF_td (rd:Int→Int→List UInt8 × Int)(root:Nat)(st:S9)(o:O9):∃ x0 x1 x2 x3 x4,toldF rd root st o=tdC x0 x1 x2 x3 x4:=by
 unfold toldF
 repeat' split
 all_goals exact ⟨_,_,_,_,_,rfl⟩
theorem neq_told (x0 x1 x2:Int)(x3:Bool)(x4:Int)(w:World):(binOp .neq 34 (.agg #[.int .i64 x0,.int .i64 x1,.int .u8 x2,.bool x3,.int .i64 x4]) (.agg #[.int .i64 x0,.int .i64 x1,.int .u8 x2,.bool x3,.int .i64 x4])).run Tryz.prog w=.ok (.bool false) w:=by
 simp [go_sem]
theorem prR_noK:prR noK=[]:=List.flatMap_eq_nil_iff.2 fun i _=>prT_no 3 i
theorem allL_noK (root:Nat):allL root noK=[]:=by
 show leavesT 4 0 (.nd root noK)=[]
 rw [leavesT_nd]
 exact List.flatMap_eq_nil_iff.2 fun i _=>leavesT_no 3 _
section
variable {w0:World}{F:Nat}{t:FT}{p g h c m tb ob root:Nat}{wm w4:World}{q a b G d tr oq:Nat}{v4:Value}{dd:Nat→Option Addr × Nat}{vh vr:Value}{st:S9}{ws:List Nat}{vS vL vP:Value}{vs:List Value}{Ls:List (List Int)}{L:List ND9}{P:List LF}{w:World}
/-- The program's. -/
def StepP (w0:World)(F:Nat)(t:FT)(p g h c m tb ob root:Nat)(wm w4:World)(q a b G d tr oq:Nat)(v4:Value)(dd:Nat→Option Addr × Nat)(vr:Value)(st st':S9)(vS vL vP:Value)(vs:List Value)(Ls:List (List Int))(L:List ND9)(P:List LF)(v:List Value)(e:Ending)(w':World):Prop:=
 e=.returned (.agg v.toArray)∧∃ vh' ws',PW9 w0 F t p g h c m tb ob root wm w4 q a b G d tr oq v4 dd vh' vr st' st ws' vS vL vP vs Ls L P w'
theorem stepP_any (o:O9)(H:PW9 w0 F t p g h c m tb ob root wm w4 q a b G d tr oq v4 dd vh vr st st ws vS vL vP vs Ls L P w)(I:Inv9 (rdP16 t.L) root st)(ho:Op9Ok o)(hh:st.h.length≤1000000)(htn:st.s.tn+1<900000000):
 Calls Tryz.prog 8 #[.pointer (some ⟨ob,0,none⟩),.agg (opC9 o).toArray] w (StepP w0 F t p g h c m tb ob root wm w4 q a b G d tr oq v4 dd vr st (does9 (rdP16 t.L) root st o) vS vL vP vs Ls L P (toldF (rdP16 t.L) root st o)):=by
 refine (doesP9_any o H.ow H.tw I ho hh (by omega)).mono ?_
 rintro e w' ⟨h1,vh',ws',hx,hT,he,hn⟩
 exact ⟨h1,vh',ws',H.prog he hx hT hn⟩
/-- The document's. -/
def StepD (w0:World)(F:Nat)(t:FT)(p g h c m tb ob root:Nat)(wm w4:World)(q a b G d tr oq:Nat)(v4:Value)(dd:Nat→Option Addr × Nat)(vh:Value)(st':S9)(ws:List Nat)(v:List Value)(w:World)(e:Ending)(w':World):Prop:=
 e=.returned (.agg v.toArray)∧(∀ x cs,Row w x 34 cs→Row w' x 34 cs)∧∃ vr' vS' vL' vP' vs' Ls' L' P',PW9 w0 F t p g h c m tb ob root wm w4 q a b G d tr oq v4 dd vh vr' st' st' ws vS' vL' vP' vs' Ls' L' P' w'
theorem stepD_any (o:O9){st':S9}(hst:st'=does9 (rdP16 t.L) root st o)(H:PW9 w0 F t p g h c m tb ob root wm w4 q a b G d tr oq v4 dd vh vr st' st ws vS vL vP vs Ls L P w)(I:Inv9 (rdP16 t.L) root st)(ho:Op9Ok o)(hh:st.h.length≤1000000)(htn:st.s.tn+1<900000000):
 Calls Tryz.prog 9 #[.pointer (some ⟨oq,0,none⟩),.agg (opC9 o).toArray] w (StepD w0 F t p g h c m tb ob root wm w4 q a b G d tr oq v4 dd vh st' ws (toldF (rdP16 t.L) root st o) w):=by
 refine (doesD9_any (rd:=rdP16 t.L) o H.od H.rc H.t9 H.lr H.na I ho hh htn H.le.2.2 (fun W R hoff hR hG hLim=>?_)).mono ?_
 ·obtain ⟨Z,he,hZ⟩:=hoff
  have hBW:w4.heap.size≤W.heap.size:=Nat.le_trans H.le.2.2 he.size
  have hrf:RF (cutW W w4.heap.size) G t.L dd:=H.rb.rfk H.fl.1 H.fl.2.1 H.fl.2.2 fun k h1 h2=>by
   rw [cutW_at h2,he.block k (Nat.lt_of_lt_of_le h2 H.le.2.2) (fun e=>by have:=(hZ k e).1;omega)]
   exact H.kp k h1 h2
  have:=rcget_any (hx:=R) (cutW W w4.heap.size) q a b G d t.L dd vS st.s vs Ls 1 o.n W (by rw [cutW_size hBW];exact hR) hrf (cutW_below hBW) hG hG.lens (by have:=hG.many;omega) hLim
  rw [cutW_size hBW] at this
  exact this
 ·rintro e w' ⟨h1,vr',hx,⟨vS',vs',Ls',vL',vP',L',P',hR,hT,hl⟩,he,hn⟩
  subst hst
  exact ⟨h1,fun x cs hr=>he.row hr (H.nD hr (by decide) (by decide) (by decide) (by decide) (by decide) (by decide) (by decide) (by decide) (fun e=>absurd e (by decide))),vr',vS',vL',vP',vs',Ls',L',P',H.refr he hx hR hT hl hn⟩
end
section
variable {w0:World}{F:Nat}{t:FT}{p g h c m tb ob root:Nat}{wm w4 w2 w3:World}{q a b G d tr oq k:Nat}{v4:Value}{dd:Nat→Option Addr × Nat}{st:S9}{ws:List Nat}{vS:Value}{vs:List Value}{Ls:List (List Int)}
theorem pw9_new (how:OW9 w0 F t p g h c m tb ob root (.slice none 0 0) st ws w2)(hfr:Fresh9 (rdP16 t.L) root k st)(htl:t.L=nodes9)(hb:Below w2.heap.size w2 w3)(h1:w2.heap.size≤wm.heap.size)(h2:wm.heap.size≤w4.heap.size)(hrb:RB wm w4 G v4 nodes9 dd)(hfi:Fine nodes9)
 (hR:RCW w3 w4.heap.size q a b G d vS st.s vs Ls) (hT:T9 w3 w4.heap.size tr d root (.slice none 0 0) (.slice none 0 0) [] [] false) (hO:OX9 76 w4.heap.size oq q d tr (.slice none 0 0) [] w3) (h43:Below w4.heap.size w4 w3):
 PW9 w0 F t p g h c m tb ob root wm w4 q a b G d tr oq v4 dd (.slice none 0 0) (.slice none 0 0) st st ws vS (.slice none 0 0) (.slice none 0 0) vs Ls [] [] w3:=by
 have hh:st.h=[]:=hfr.h
 have hf:st.fr=false:=hfr.fr
 have hlow:=how.tw.cw.low.size
 refine ⟨⟨how.own.below hb how.own.lt,by rw [hh];exact World.ownsRow_nil _ _ _ _,how.lo⟩,how.tw.below hb,by rw [hh];exact hO,hR,by rw [hf];exact hT,fun _=>by rw [hfr.kids,prR_noK,allL_noK];exact ⟨List.Perm.refl _,rfl⟩,?_,⟨by omega,h2,h43.size⟩,fun k _ hk=>h43.block k hk,by rw [htl];exact hrb,by rw [htl];exact ⟨hfi,lay9.1,lay9.2⟩,fun k e=>(by cases e),fun k e=>(by cases e),fun k e=>(by cases e)⟩
 have l1:=how.tw.cw.pool.frames.lt
 have l2:=how.tw.cw.pool.words.lt
 have l3:=how.tw.cw.cache.lt
 have l4:=how.tw.cw.map.lt
 have l5:=how.tw.tab.lt
 have l6:=how.own.lt
 omega
end
/-- Both tables behind so many things done. -/
def Run9 (w0:World)(F:Nat)(t:FT)(p g h c m tb ob root:Nat)(wm w4:World)(q a b G d tr oq:Nat)(v4:Value)(dd:Nat→Option Addr × Nat)(n j:Nat)(w:World):Prop:=
 ∃ vh vr st ws vS vL vP vs Ls L P,PW9 w0 F t p g h c m tb ob root wm w4 q a b G d tr oq v4 dd vh vr st st ws vS vL vP vs Ls L P w∧Ran9 (rdP16 t.L) root n st j
set_option maxRecDepth 100000 in
set_option maxHeartbeats 16000000 in
theorem tablePlays_walk (N:Int)(oa:Option Addr)(oc:Nat)(l:List O9)(w:World)(hO:Ops9 w oa l)(hT:Tb w)(hZ:Wd.Sizes w):
 Calls Tryz.prog 3 #[.int .i64 N,.slice oa l.length oc] w fun e w'=>e=.returned (.bool true)∧Below w.heap.size w w':=by
 have HWK:=hid (fun (W:World) (hb:Below w.heap.size w W)=>works9_any W (fun j hj=>St.cell (hT j hj) hb) (hZ.below hb))
 have HVA:=hid (vast9_any N oa l.length oc w)
 have HMD:=hid (fun (h:N≤96∧l.length≤120)=>madeX_any N (by omega) w hT hZ)
 have HOP:=hid hO
 clear hO hT hZ
 go_enter Tryz.func3,Tryz.ntmps3
 go_wp2_with fail
 refine (HVA.out).mono ?_
 rintro e w1 ⟨⟨vb,rfl,hvs⟩,rfl⟩
 have HVS:=hid hvs
 clear hvs
 rcases vb with _|_
 rotate_left
 ·go_wp2_with fail
  refine (HWK.out _ (Below.refl _ _)).mono ?_
  rintro e wk ⟨rfl,hbk⟩
  have HBK:=hid hbk
  clear hbk
  go_wp2_with fail
  go_ret
  exact ⟨rfl,HBK.out⟩
 have HVN:=hid (HVS.out rfl)
 have HMN:=hid (HMD.out HVN.out)
 go_wp2_with fail
 refine (HMN.out).mono ?_
 rintro e w2 hm
 rcases hm with ⟨hn1,rfl,hb⟩|⟨w0,F,t,p,g,h,c,m,tb,ob,root,ws,k,st,hnk,hk1,rfl,how,hfr,hb0,htl,htc⟩
 ·have HB2:=hid hb
  clear hb
  go_wp2_with fail
  refine (HWK.out w2 HB2.out).mono ?_
  rintro e wk ⟨rfl,hbk⟩
  have HBK:=hid (bthen HB2.out hbk)
  clear hbk
  go_wp2_with fail
  go_ret
  exact ⟨rfl,HBK.out⟩
 ·subst hnk
  have HOW:=hid how
  have HFR:=hid hfr
  have HTL:=hid htl
  have HTC:=hid htc
  have HLOW:=hid (fun (W:World) (hl:Below w0.heap.size w0 W)=>show Below w.heap.size w W from hb0.trans (hl.mono hb0.size))
  have HME:=hid (meant9_any k hk1 (by have:=HVN.out.1;omega) w2)
  clear how hfr htl htc hb0
  go_wp2_with fail
  refine (HME.out).mono ?_
  rintro e w3 ⟨wm,w4,q,a,b,G,d,tr,root',oq,v4,dd,vS,vs,Ls,s',rfl,hm1,hm2,hrb,hfi,htc',hR,hTT,hOO,h43,hb3⟩
  have hrs:root=root'∧st.s=s':=by
   have e1:=HTC.out.symm.trans htc'
   injection e1 with e2 e3
   injection e3 with e3 e4
   exact ⟨by omega,e4⟩
  obtain ⟨hr1,hr2⟩:=hrs
  subst hr1
  subst hr2
  have HPW:=hid (pw9_new HOW.out HFR.out HTL.out hb3 hm1 hm2 hrb hfi hR hTT hOO h43)
  have HRN:=hid (show Ran9 (rdP16 t.L) root k st 0 from ⟨HFR.out.inv,HFR.out.len,by rw [HFR.out.tn];exact Nat.le_refl _,by rw [HFR.out.h];exact Nat.le_refl _⟩)
  clear hm1 hm2 hrb hfi htc' hR hTT hOO h43 hb3 HOW HFR HTC HME
  have hl9:l.length≤120:=HVN.out.2
  go_wp2_with fail
  go_loopw [8] (fun i wr=>∃ j:Nat,j≤l.length∧i=.int .i64 j∧Run9 w0 F t p g h c m tb ob root wm w4 q a b G d tr oq v4 dd k j wr) (fun i _=>l.length-(intOf i).toNat)
  case atStart=>exact ⟨0,Nat.zero_le _,rfl,_,_,st,ws,_,_,_,_,_,_,_,HPW.out,HRN.out⟩
  case round=>
   obtain ⟨j,hj,rfl,vh,vr,st,ws,vS,vL,vP,vs,Ls,L,P,hpw,hrn⟩:=hrel
   have HP:=hid hpw
   have HR:=hid hrn
   have HLW:=hid (HLOW.out _ hpw.tw.cw.low)
   clear hpw hrn
   by_cases hlt:j<l.length
   ·have d1:decide ((j:Int)<(l.length:Int))=true:=by simp;omega
    have d1n:decide (j<l.length)=true:=by simp;omega
    have i1:(0:Int)≤(j:Int):=by omega
    have i2:(j:Int)<(l.length:Int):=by omega
    have HAT:=hid (fun (W:World) (hb:Below w.heap.size w W)=>by
     obtain ⟨bb,oo,e,hc⟩:=(HOP.out.below hb).rows.some_of (by simp;omega)
     have e9:(l.map opC9)[j]'(by simpa using hlt)=opC9 l[j]:=by simp
     have gq:=fun m hm=>hc j (by simpa using hlt) m hm
     rw [e9] at gq
     exact (⟨bb,oo,e,gq 0 (by simp),gq 1 (by simp),gq 2 (by simp),gq 3 (by simp),gq 4 (by simp),gq 5 (by simp)⟩:∃ bb oo,oa=some ⟨bb,oo,none⟩∧W.cell? ⟨bb,oo+j*6+0,none⟩=some (.int .i64 l[j].kind)∧W.cell? ⟨bb,oo+j*6+1,none⟩=some (.int .u64 (l[j].ad:Int))∧W.cell? ⟨bb,oo+j*6+2,none⟩=some (.int .i64 l[j].f)∧W.cell? ⟨bb,oo+j*6+3,none⟩=some (.int .u8 l[j].q)∧W.cell? ⟨bb,oo+j*6+4,none⟩=some (.bool l[j].b)∧W.cell? ⟨bb,oo+j*6+5,none⟩=some (.int .i64 l[j].n)))
    have HOK:=hid (HOP.out.ok _ (List.getElem_mem hlt))
    obtain ⟨o,ho⟩:∃ o,o=l[j]:=⟨_,rfl⟩
    rw [← ho] at HAT HOK
    clear ho
    have HSP:=hid (stepP_any o HP.out HR.out.inv HOK.out (by have:=HR.out.hh;omega) (by have:=HR.out.tn;omega))
    have HSD:=hid (fun (vh':Value) (ws':List Nat) (W:World) (H':PW9 w0 F t p g h c m tb ob root wm w4 q a b G d tr oq v4 dd vh' vr (does9 (rdP16 t.L) root st o) st ws' vS vL vP vs Ls L P W)=>stepD_any o rfl H' HR.out.inv HOK.out (by have:=HR.out.hh;omega) (by have:=HR.out.tn;omega))
    have HRS:=hid (HR.out.step (o:=o) HOK.out.q0 (rdP16_len t.L))
    obtain ⟨st',hst'⟩:∃ st',st'=does9 (rdP16 t.L) root st o:=⟨_,rfl⟩
    rw [← hst'] at HSP HSD HRS
    obtain ⟨x0,x1,x2,x3,x4,htd⟩:=toldF_td (rdP16 t.L) root st o
    rw [htd] at HSP HSD
    clear htd hst'
    have hneq:=neq_told x0 x1 x2 x3 x4
    obtain ⟨bo,oo,rfl,g0,g1,g2,g3,g4,g5⟩:=HAT.out wr HLW.out
    have hbl:=World.block_lt_of_cell? _ _ g0
    simp only [Nat.add_zero] at g0
    obtain ⟨okd,oad,oof,oq9,obb,on9⟩:=o
    simp only at g0 g1 g2 g3 g4 g5
    have HNEQ:=hid hneq
    clear hneq
    go_wp2_with fail
    refine (HSP.out).mono ?_
    rintro e w5 ⟨rfl,vh',ws',hp5⟩
    have HP5:=hid hp5
    have HLW5:=hid (HLOW.out _ hp5.tw.cw.low)
    clear hp5 g0 g1 g2 g3 g4 g5 hbl HSP
    obtain ⟨bo',oo',e,g0,g1,g2,g3,g4,g5⟩:=HAT.out w5 HLW5.out
    cases e
    have hbl:=World.block_lt_of_cell? _ _ g0
    simp only [Nat.add_zero] at g0
    go_wp2_with fail
    obtain ⟨w6,hw6⟩:∃ w6,w6=w5.alloc (.cells #[.int .i64 x0,.int .i64 x1,.int .u8 x2,.bool x3,.int .i64 x4] 34):=⟨_,rfl⟩
    have HRX:=hid (show Row w6 w5.heap.size 34 (tdC x0 x1 x2 x3 x4) by rw [hw6];exact Row.new w5 _ _)
    have HP6:=hid (HP5.out.below (show Below w5.heap.size w5 w6 by rw [hw6];exact bal _))
    rw [← hw6]
    obtain ⟨bx,hbx⟩:∃ bx,bx=w5.heap.size:=⟨_,rfl⟩
    rw [← hbx] at HRX ⊢
    clear hw6 hbx g0 g1 g2 g3 g4 g5 hbl
    refine (HSD.out vh' ws' w6 HP6.out).mono ?_
    rintro e w7 ⟨rfl,hrow,vr',vS',vL',vP',vs',Ls',L',P',hp7⟩
    have HP7:=hid hp7
    have HRX7:=hid (hrow _ _ HRX.out)
    clear hp7 hrow HSD
    obtain ⟨w8,hw8⟩:∃ w8,w8=w7.alloc (.cells #[.int .i64 x0,.int .i64 x1,.int .u8 x2,.bool x3,.int .i64 x4] 34):=⟨_,rfl⟩
    have HB78:=hid (show Below w7.heap.size w7 w8 by rw [hw8];exact bal _)
    have HP8:=hid (HP7.out.below HB78.out)
    have HAL:=hid (alike9_any HP8.out HRS.out.inv)
    have HW8:=hid hw8
    have r0:=HRX7.out.cell 0 (by simp)
    have r1:=HRX7.out.cell 1 (by simp)
    have r2:=HRX7.out.cell 2 (by simp)
    have r3:=HRX7.out.cell 3 (by simp)
    have r4:=HRX7.out.cell 4 (by simp)
    have rl:=HRX7.out.lt
    simp only [List.getElem_cons_zero,List.getElem_cons_succ] at r0 r1 r2 r3 r4
    have hneq:=HNEQ.out
    clear hw8
    go_wp2_with fail
    rw [← HW8.out]
    refine (HAL.out).mono ?_
    rintro e w9 ⟨rfl,hb9⟩
    have HP9:=hid (HP8.out.below hb9)
    clear hb9 r0 r1 r2 r3 r4 rl hneq HAL
    go_wp2_with fail
    go_roundw
    case rel=>exact ⟨j+1,by omega,by go_num,vh',vr',st',ws',vS',vL',vP',vs',Ls',L',P',HP9.out,HRS.out⟩
    case measure=>simp [intOf];omega
   ·have d1:decide ((j:Int)<(l.length:Int))=false:=by simp;omega
    have d1n:decide (j<l.length)=false:=by simp;omega
    have HWH:=hid (whole9_any HP.out)
    go_wp2_with fail
    refine (HWH.out).mono ?_
    rintro e w9 ⟨rfl,hb9⟩
    have HB9:=hid (bthen HLW.out hb9)
    clear hb9
    go_wp2_with fail
    go_ret
    exact ⟨rfl,HB9.out⟩
end Go.Proofs.YtdjpjfdeeelijaaGreatDoor
