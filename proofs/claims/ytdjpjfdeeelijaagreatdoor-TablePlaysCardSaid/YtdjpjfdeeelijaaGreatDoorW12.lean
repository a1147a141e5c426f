/- hostelref09: New. hostelref09: the table stands where the cache's calls turn. hostelref09: Free: counts stay small. hostelref09: Free. hostelref09: below; plain. -/
import Derived.Test.YtdjpjfdeeelijaaGreatDoorW11
import Derived.Test.YtdjpjfdeeelijaaGreatDoorW05
import Derived.Test.YtdjpjfdeeelijaaGreatDoorW02
namespace Go.Proofs.YtdjpjfdeeelijaaGreatDoor
open Go.RowKit Go.Sort Go.Shelf Go.WideMaps Go.Maps Go.WideShapes Go.WideElems Go.MapKept Go.ChangeMaps
attribute [local go_sem] Oper.semAt_some
section
variable {base q a b G d:Nat}{vS:Value}{s:CC}{vs:List Value}{Ls:List (List Int)}{hx:List Nat}{rd:Int→Int→List UInt8 × Int}
set_option maxRecDepth 100000 in
set_option maxHeartbeats 4000000 in
theorem new9R_any (w:World)(_R:RCW w base q a b G d vS s vs Ls)(k:Nat)(s':CC)(ht:takC s=((k:Int),0,s'))(hbs:base≤w.heap.size)
 (HT:Calls Tryz.prog 37 #[.pointer (some ⟨d,0,none⟩)] w fun e w'=>e=.returned (.tuple #[.int .i64 (takC s).1,.int .i64 (takC s).2.1])∧∃ vS' vs' Ls',RSt base q a b G d vS vs w (takC s).2.2 vS' vs' Ls' w'):
 Calls Tryz.prog 24 #[.pointer (some ⟨d,0,none⟩)] w fun e w'=>∃ tb vS' vs' Ls',e=.returned (.tuple #[.pointer (some ⟨tb,0,none⟩),.int .i64 0])∧RSt base q a b G d vS vs w s' vS' vs' Ls' w'∧T9 w' base tb d k (.slice none 0 0) (.slice none 0 0) [] [] false∧w.heap.size≤tb:=by
 rw [ht] at HT
 have HTT:=hid HT
 have HBS:=hid hbs
 clear HT ht
 go_enter Tryz.func24,Tryz.ntmps24
 go_wp2_with fail
 refine (HTT.out).mono ?_
 rintro e w1 ⟨rfl,vS',vs',Ls',hr⟩
 have HR:=hid hr
 clear hr
 go_wp2_with fail
 go_ret2
 exact ⟨_,vS',vs',Ls',rfl,HR.out.still (bal _),⟨Row.new _ _ _,World.ownsRow_nil _ _ _ _,World.ownsRow_nil _ _ _ _,Nat.le_trans HBS.out HR.out.ex.size⟩,HR.out.ex.size⟩
end
section
variable {w w':World}{base q a b G d tb root:Nat}{vS vS' vL vP:Value}{s s':CC}{vs vs':List Value}{Ls Ls':List (List Int)}{L:List ND9}{P:List LF}{fr:Bool}
theorem T9.refr (H:T9 w base tb d root vL vP L P fr)(R:RCW w base q a b G d vS s vs Ls)(h:RSt base q a b G d vS vs w s' vS' vs' Ls' w'):T9 w' base tb d root vL vP L P fr:=
 ⟨h.ex.row H.row (R.nR H.row (by decide) (by decide) (by decide) (by decide) (by decide)),
  h.ex.own H.ln (fun k e=>by obtain ⟨ds,hr⟩:=own_rowK H.ln k e;exact R.nR hr (by decide) (by decide) (by decide) (by decide) (by decide)),
  h.ex.own H.pn (fun k e=>by obtain ⟨ds,hr⟩:=own_rowK H.pn k e;exact R.nR hr (by decide) (by decide) (by decide) (by decide) (by decide)),H.lo⟩
theorem rdn9_any (f:Nat)(w:World)(R:RCW w base q a b G d vS s vs Ls)(hM:∀ c∈cnts s.fs,c<9223372036854775807):
 Calls Tryz.prog 39 #[.pointer (some ⟨q,0,none⟩),.int .i64 (f:Int)] w fun e w'=>e=.returned (.int .i64 (takE s.fs (f:Int)))∧RSt base q a b G d vS vs w (dnC s f) vS vs Ls w':=by
 refine (rdown_any base q a b (cnts s.fs) vs Ls (f:Int) w R.rs hM).mono ?_
 rintro e w' ⟨rfl,hrs,he⟩
 rw [rtk_zero R.h0]
 rw [cnts_down R.h0] at hrs
 exact ⟨rfl,R.pool hrs (holds_down R.hd (f:Int)) he (fun x e=>by cases e) (fun i h x e=>.inl ⟨i,h,e⟩) (dnC s f) rfl rfl⟩
theorem rup9_any (f:Nat)(w:World)(R:RCW w base q a b G d vS s vs Ls)(hM:∀ c∈cnts s.fs,c<9223372036854775807):
 Calls Tryz.prog 82 #[.pointer (some ⟨q,0,none⟩),.int .i64 (f:Int)] w fun e w'=>e=.returned (.int .i64 (takE s.fs (f:Int)))∧RSt base q a b G d vS vs w (upC s f) vS vs Ls w':=by
 refine (rup_any base q a b (cnts s.fs) vs Ls (f:Int) w R.rs hM).mono ?_
 rintro e w' ⟨rfl,hrs,he⟩
 rw [rtk_zero R.h0]
 rw [cnts_up R.h0] at hrs
 exact ⟨rfl,R.pool hrs (holds_up R.hd (f:Int)) he (fun x e=>by cases e) (fun i h x e=>.inl ⟨i,h,e⟩) (upC s f) rfl rfl⟩
end
def Lim (s:CC):Prop:=∀ c∈cnts s.fs,c<9223372036854775807
theorem Lim.down {s:CC}(h:Lim s)(f:Nat):Lim (dnC s f):=by
 intro c hc
 obtain ⟨r,hr,rfl⟩:=List.mem_map.1 hc
 have hr:r∈downS s.fs (f:Int):=hr
 unfold downS at hr
 by_cases h0:cntF s.fs (f:Int)=0
 ·rw [if_pos h0] at hr
  exact h _ (List.mem_map_of_mem hr)
 ·rw [if_neg h0] at hr
  obtain ⟨k,hk,_,e2⟩:=cnt_is h0
  have:=h _ (List.mem_map_of_mem (List.getElem_mem hk))
  rcases List.mem_or_eq_of_mem_set hr with hr|rfl
  ·exact h _ (List.mem_map_of_mem hr)
  ·show cntF s.fs (f:Int)-1<_
   rw [e2]
   omega
section
variable {base q a b G d tb root:Nat}{vS vL vP:Value}{s:CC}{vs:List Value}{Ls:List (List Int)}{L:List ND9}{P:List LF}
set_option maxRecDepth 100000 in
set_option maxHeartbeats 8000000 in
theorem free9R_any (w:World)(H:T9 w base tb d root vL vP L P false)(R:RCW w base q a b G d vS s vs Ls)(hM:Lim s)(hP:P.length≤1000000000)(hL:L.length≤1000000000):
 Calls Tryz.prog 40 #[.pointer (some ⟨tb,0,none⟩)] w fun e w'=>e=.returned (.tuple #[])∧∃ w2,RSt base q a b G d vS vs w (dnC (L.foldl (fun z x=>dnC z x.f) (P.foldl (fun z y=>dnC z y.2.1) s)) root) vS vs Ls w2∧w'=w2.setCell ⟨tb,4,none⟩ (.bool true):=by
 have HG:=hid (gone9_any w H)
 have HH:=hid H
 have HR:=hid R
 have HMM:=hid hM
 have HPL:=hid hP
 have HLL:=hid hL
 obtain ⟨ap,cp,rfl,hrkp,_⟩:=own_rk H.pn (by intro r hr;obtain ⟨x,_,rfl⟩:=List.mem_map.1 hr;rfl) (by omega)
 obtain ⟨al,cl,rfl,hrkl,_⟩:=own_rk H.ln (by intro r hr;obtain ⟨x,_,rfl⟩:=List.mem_map.1 hr;rfl) (by omega)
 clear H R hM hP hL hrkp hrkl
 go_enter Tryz.func40,Tryz.ntmps40
 go_wp2_with fail
 refine (HG.out).mono ?_
 rintro e w1 ⟨rfl,rfl⟩
 go_wp2_with fail
 go_loopw [2] (fun v wr=>∃ k:Nat,k≤P.length∧v=.int .i64 k∧Lim ((P.take k).foldl (fun z y=>dnC z y.2.1) s)∧RSt base q a b G d vS vs w ((P.take k).foldl (fun z y=>dnC z y.2.1) s) vS vs Ls wr) (fun v _=>P.length-(intOf v).toNat)
 case atStart=>exact ⟨0,Nat.zero_le _,rfl,HMM.out,RSt.refl HR.out⟩
 case round=>
  obtain ⟨k,hk,rfl,hlim,hst⟩:=hrel
  have HS:=hid hst
  have HLI:=hid hlim
  have HT:=hid (HH.out.refr HR.out hst)
  have hpl:=HPL.out
  clear hlim hst
  obtain ⟨c0,c1,c2,c3,c4⟩:=HT.out.five
  have htl:=HT.out.row.lt
  by_cases hlt:k<P.length
  ·have d1:decide ((k:Int)<(P.length:Int))=true:=by simp;omega
   have d1n:decide (k<P.length)=true:=by simp;omega
   have i1:(0:Int)≤(k:Int):=by omega
   have i2:(k:Int)<(P.length:Int):=by omega
   have hfd:(P.take (k+1)).foldl (fun z y=>dnC z y.2.1) s=dnC ((P.take k).foldl (fun z y=>dnC z y.2.1) s) P[k].2.1:=by rw [List.take_succ_eq_append_getElem hlt,List.foldl_append];rfl
   have HFD:=hid hfd
   have HTd:=hid (fun ww (he:EX (R8 a b d vs vS) wr ww)=>show T9 ww base tb d root _ _ L P false from ⟨he.row HT.out.row (HS.out.rc.nR HT.out.row (by decide) (by decide) (by decide) (by decide) (by decide)),he.own HT.out.ln (fun k e=>by obtain ⟨ds,hr⟩:=own_rowK HT.out.ln k e;exact HS.out.rc.nR hr (by decide) (by decide) (by decide) (by decide) (by decide)),he.own HT.out.pn (fun k e=>by obtain ⟨ds,hr⟩:=own_rowK HT.out.pn k e;exact HS.out.rc.nR hr (by decide) (by decide) (by decide) (by decide) (by decide)),HT.out.lo⟩)
   have HRd:=hid (HS.out.rc.below (bdN (Below.refl wr.heap.size wr) 1))
   have hS1:EX (R8 a b d vs vS) wr wr.drew:=EX.drew (EX.refl _)
   have C0:∀ ww,EX (R8 a b d vs vS) wr ww→ww.cell? ⟨tb,0,none⟩=some (.pointer (some ⟨d,0,none⟩)):=fun ww he=>(HTd.out ww he).five.1
   have C3:∀ ww,EX (R8 a b d vs vS) wr ww→ww.cell? ⟨tb,3,none⟩=some (.slice ap P.length cp):=fun ww he=>(HTd.out ww he).five.2.2.2.1
   obtain ⟨ap',cp',e9,hrk,_⟩:=own_rk HT.out.pn (by intro r hr;obtain ⟨x,_,rfl⟩:=List.mem_map.1 hr;rfl) (by omega)
   injection e9 with e9 _ _
   subst e9
   obtain ⟨bb,o,rfl,hcell⟩:=hrk.some_of (by simp;omega)
   have gq:=fun m hm=>hcell k (by simpa using hlt) m hm
   have e9:(P.map putC)[k]'(by simpa using hlt)=putC P[k]:=by simp
   rw [e9] at gq
   have g1:=gq 1 (by simp [putC])
   simp only [putC,List.getElem_cons_zero,List.getElem_cons_succ] at g1
   have hbl:=World.block_lt_of_cell? _ _ g1
   have D0:=HS.out.rc.row.three.1
   have hdl:=HS.out.rc.row.lt
   have HDN:=hid (rdn9_any P[k].2.1 wr.drew HRd.out HLI.out)
   clear gq e9 hcell hrk hfd c1 c2 c4
   obtain ⟨y,hy⟩:∃ y,y=P[k].2.1:=⟨_,rfl⟩
   rw [← hy] at g1 HDN HFD
   clear hy
   go_wp2_with fail
   go_still_tail 16,(by kernel_rfl)
   show wpList _ _ _ _ _ wr.drew
   go_wp2_with fail
   refine (HDN.out).mono ?_
   rintro e w3 ⟨rfl,hr3⟩
   have HR3:=hid (((HS.out.still (bdN (Below.refl wr.heap.size wr) 1))).andThen hr3)
   clear hr3 HDN
   generalize takE (List.foldl (fun z y=>dnC z y.2.1) s (List.take k P)).fs (y:Int)=te9
   go_wp2_with fail
   go_roundw
   case rel=>exact ⟨k+1,by omega,by go_num,by rw [HFD.out];exact HLI.out.down _,by rw [HFD.out];exact HR3.out⟩
   case measure=>simp [intOf];omega
  ·have d1:decide ((k:Int)<(P.length:Int))=false:=by simp;omega
   have d1n:decide (k<P.length)=false:=by simp;omega
   obtain rfl:k=P.length:=by omega
   rw [List.take_length] at HS HLI
   obtain ⟨s1,hs1⟩:∃ s1,s1=P.foldl (fun z y=>dnC z y.2.1) s:=⟨_,rfl⟩
   rw [← hs1] at HS HLI
   have HS1:=hid hs1
   clear hs1
   have hll:=HLL.out
   go_wp2_with fail
   clear c0 c1 c2 c3 c4 htl
   go_loopw [3] (fun v wr=>∃ k:Nat,k≤L.length∧v=.int .i64 k∧Lim ((L.take k).foldl (fun z x=>dnC z x.f) s1)∧RSt base q a b G d vS vs w ((L.take k).foldl (fun z x=>dnC z x.f) s1) vS vs Ls wr) (fun v _=>L.length-(intOf v).toNat)
   case atStart=>exact ⟨0,Nat.zero_le _,rfl,HLI.out,HS.out⟩
   case round=>
    obtain ⟨k,hk,rfl,hlim,hst⟩:=hrel
    have HS:=hid hst
    have HLI:=hid hlim
    have HT:=hid (HH.out.refr HR.out hst)
    clear hlim hst
    obtain ⟨c0,c1,c2,c3,c4⟩:=HT.out.five
    have htl:=HT.out.row.lt
    by_cases hlt:k<L.length
    ·have d1:decide ((k:Int)<(L.length:Int))=true:=by simp;omega
     have d1n:decide (k<L.length)=true:=by simp;omega
     have i1:(0:Int)≤(k:Int):=by omega
     have i2:(k:Int)<(L.length:Int):=by omega
     have hfd:(L.take (k+1)).foldl (fun z x=>dnC z x.f) s1=dnC ((L.take k).foldl (fun z x=>dnC z x.f) s1) L[k].f:=by rw [List.take_succ_eq_append_getElem hlt,List.foldl_append];rfl
     have HFD:=hid hfd
     have HTd:=hid (fun ww (he:EX (R8 a b d vs vS) wr ww)=>show T9 ww base tb d root _ _ L P false from ⟨he.row HT.out.row (HS.out.rc.nR HT.out.row (by decide) (by decide) (by decide) (by decide) (by decide)),he.own HT.out.ln (fun k e=>by obtain ⟨ds,hr⟩:=own_rowK HT.out.ln k e;exact HS.out.rc.nR hr (by decide) (by decide) (by decide) (by decide) (by decide)),he.own HT.out.pn (fun k e=>by obtain ⟨ds,hr⟩:=own_rowK HT.out.pn k e;exact HS.out.rc.nR hr (by decide) (by decide) (by decide) (by decide) (by decide)),HT.out.lo⟩)
     have HRd:=hid (HS.out.rc.below (bdN (Below.refl wr.heap.size wr) 1))
     have hS1:EX (R8 a b d vs vS) wr wr.drew:=EX.drew (EX.refl _)
     have C0:∀ ww,EX (R8 a b d vs vS) wr ww→ww.cell? ⟨tb,0,none⟩=some (.pointer (some ⟨d,0,none⟩)):=fun ww he=>(HTd.out ww he).five.1
     have C2:∀ ww,EX (R8 a b d vs vS) wr ww→ww.cell? ⟨tb,2,none⟩=some (.slice al L.length cl):=fun ww he=>(HTd.out ww he).five.2.2.1
     obtain ⟨al',cl',e9,hrk,_⟩:=own_rk HT.out.ln (by intro r hr;obtain ⟨x,_,rfl⟩:=List.mem_map.1 hr;rfl) (by omega)
     injection e9 with e9 _ _
     subst e9
     obtain ⟨bb,o,rfl,hcell⟩:=hrk.some_of (by simp;omega)
     have gq:=fun m hm=>hcell k (by simpa using hlt) m hm
     have e9:(L.map nd9C)[k]'(by simpa using hlt)=nd9C L[k]:=by simp
     rw [e9] at gq
     have g2:=gq 2 (by simp [nd9C])
     simp only [nd9C,List.getElem_cons_zero,List.getElem_cons_succ] at g2
     have hbl:=World.block_lt_of_cell? _ _ g2
     have D0:=HS.out.rc.row.three.1
     have hdl:=HS.out.rc.row.lt
     have HDN:=hid (rdn9_any L[k].f wr.drew HRd.out HLI.out)
     clear gq e9 hcell hrk hfd c1 c3 c4
     obtain ⟨y,hy⟩:∃ y,y=L[k].f:=⟨_,rfl⟩
     rw [← hy] at g2 HDN HFD
     clear hy
     go_wp2_with fail
     go_still_tail 15,(by kernel_rfl)
     show wpList _ _ _ _ _ wr.drew
     go_wp2_with fail
     refine (HDN.out).mono ?_
     rintro e w3 ⟨rfl,hr3⟩
     have HR3:=hid (((HS.out.still (bdN (Below.refl wr.heap.size wr) 1))).andThen hr3)
     clear hr3 HDN
     generalize takE (List.foldl (fun z x=>dnC z x.f) s1 (List.take k L)).fs (y:Int)=te9
     go_wp2_with fail
     go_roundw
     case rel=>exact ⟨k+1,by omega,by go_num,by rw [HFD.out];exact HLI.out.down _,by rw [HFD.out];exact HR3.out⟩
     case measure=>simp [intOf];omega
    ·have d1:decide ((k:Int)<(L.length:Int))=false:=by simp;omega
     have d1n:decide (k<L.length)=false:=by simp;omega
     obtain rfl:k=L.length:=by omega
     rw [List.take_length] at HS HLI
     obtain ⟨s2,hs2⟩:∃ s2,s2=L.foldl (fun z x=>dnC z x.f) s1:=⟨_,rfl⟩
     rw [← hs2] at HS HLI
     have HS2:=hid hs2
     clear hs2
     have HRd:=hid (HS.out.rc.below (bdN (Below.refl wr.heap.size wr) 1))
     have HDN:=hid (rdn9_any root wr.drew HRd.out HLI.out)
     have D0:=HS.out.rc.row.three.1
     have hdl:=HS.out.rc.row.lt
     go_wp2_with fail
     go_still_tail 11,(by kernel_rfl)
     show wpList _ _ _ _ _ wr.drew
     go_wp2_with fail
     refine (HDN.out).mono ?_
     rintro e w3 ⟨rfl,hr3⟩
     have HR3:=hid ((HS.out.still (bdN (Below.refl wr.heap.size wr) 1)).andThen hr3)
     clear hr3 HDN
     have HT3:=hid (HH.out.refr HR.out HR3.out)
     obtain ⟨t0,t1,t2,t3,t4⟩:=HT3.out.five
     have htl3:=HT3.out.row.lt
     have hf4:=HT3.out.row.frozen 4
     generalize takE s2.fs (root:Int)=te9
     go_wp2_with fail
     exact bodyPost_end (results_none rfl _ _ _) rfl ⟨rfl,w3,by rw [← HS1.out,← HS2.out];exact HR3.out,rfl⟩
end
theorem flat_part {α:Type}(R:Nat→List α)(m:Nat){n:Nat}(h:n<m):∃ Z,(List.range m).flatMap R=(List.range n).flatMap R++(R n++Z):=by
 refine ⟨((List.range m).drop (n+1)).flatMap R,?_⟩
 have h1:List.range m=List.range n++(n::(List.range m).drop (n+1)):=by
  have:=(List.take_append_drop n (List.range m)).symm
  rw [List.take_range,Nat.min_eq_left (by omega),List.drop_eq_getElem_cons (by simpa),List.getElem_range] at this
  exact this
 conv=>lhs;rw [h1]
 rw [List.flatMap_append,List.flatMap_cons]
theorem flat_part2 {α β:Type}(g:α→List β){L:List α}{i:Nat}(h:i<L.length):L.flatMap g=(L.take i).flatMap g++(g L[i]++(L.drop (i+1)).flatMap g):=by
 have h1:L=L.take i++(L[i]::L.drop (i+1)):=by
  rw [← List.drop_eq_getElem_cons h,List.take_append_drop]
 conv=>lhs;rw [h1]
 rw [List.flatMap_append,List.flatMap_cons]
/-- What one node adds. -/
def belG (L:List ND9)(k ab n:Nat)(x:ND9):List Nat:=if x.lv=k+1∧x.pt=ab*512+n then x.f::belowF L k x.pt else []
theorem belowF_succ (L:List ND9)(k ab:Nat):belowF L (k+1) ab=(List.range 512).flatMap fun n=>L.flatMap (belG L k ab n):=rfl
/-- What stands when n numbers are done, and i nodes at the next. -/
def belA (L:List ND9)(k ab n i:Nat):List Nat:=((List.range n).flatMap fun n=>L.flatMap (belG L k ab n))++(L.take i).flatMap (belG L k ab n)
theorem belA_next (L:List ND9)(k ab n:Nat):belA L k ab n L.length=belA L k ab (n+1) 0:=by
 unfold belA
 rw [List.take_length,List.range_succ,List.flatMap_append,List.take_zero,List.flatMap_nil,List.append_nil,List.flatMap_singleton]
theorem belA_step (L:List ND9)(k ab n:Nat){i:Nat}(h:i<L.length):belA L k ab n (i+1)=belA L k ab n i++belG L k ab n L[i]:=by
 unfold belA
 rw [List.take_succ_eq_append_getElem h,List.flatMap_append,List.flatMap_singleton,List.append_assoc]
theorem belA_le (L:List ND9)(k ab:Nat){n i:Nat}(hn:n<512)(hi:i<L.length):(belA L k ab n i).length+(belG L k ab n L[i]).length≤(belowF L (k+1) ab).length:=by
 obtain ⟨Z,hZ⟩:=flat_part (fun n=>L.flatMap (belG L k ab n)) 512 hn
 rw [belowF_succ,hZ,flat_part2 (belG L k ab n) hi]
 unfold belA
 simp only [List.length_append]
 omega
def nR1 (l:List Nat):List (List Value):=l.map fun k=>[nI9 k]
theorem nR1_flat (l:List Nat):(nR1 l).flatten=l.map nI9:=by
 unfold nR1
 induction l with
 | nil=>rfl
 | cons x l ih=>rw [List.map_cons,List.flatten_cons,ih];rfl
theorem nR1_app (l m:List Nat):nR1 l++nR1 m=nR1 (l++m):=(List.map_append ..).symm
theorem nR1_one (l:List Nat):∀ r∈nR1 l,∀ u∈r,u.oneCell'=true:=by
 intro r hr u hu
 obtain ⟨k,_,rfl⟩:=List.mem_map.1 hr
 rw [List.mem_singleton.1 hu]
 rfl
/-- An own list of numbers. -/
abbrev OwnN9 (w:World)(base:Nat)(v:Value)(l:List Nat):Prop:=w.ownsRow base 3 1 v l.length (l.map nI9)
theorem own9_app {w:World}{base n m:Nat}{v:Value}{l x:List Nat}(h:w.ownsRow base 3 1 v (n+m) (nR1 l++nR1 x).flatten)(hn:n=l.length)(hm:m=x.length):OwnN9 w base v (l++x):=by
 subst hn;subst hm
 rw [nR1_app,nR1_flat] at h
 exact own_ext h (List.length_append ..).symm rfl
/-- append to one's own, of some or none, at an operation of a region that draws its order. -/
theorem step_apO {P:Program}{ops:Array Oper}{o:Oper}{a:Act}{w:World}{K:Act→World→Prop}{Q:Exit→Act→World→Prop}{E:Prop}
 (hg:o.guard=none) (s x:Operand) (t:TypeId) (hop:o.op=Op.call { callee:=Callee.builtin Builtin.append,args:=#[s,x],argTypes:=#[t,t] })
 (base:Nat) (e:TypeId) (i:TypeInfo) (z:Value) (size bytes:Nat) (ht:P.underlying t=some (.slice e)) (hi:P.info? e=some i) (hz:i.zero=some z) (hsize:i.size=size) (hby:i.bytes=bytes) (hzs:z.cells.size=size) (hsz:0<size)
 (v:Value) (n:Nat) (xs:List Value) (hs:a.eval s=v) (hown:w.ownsRow base e size v n xs) (src:Option Addr) (m c:Nat) (hx:a.eval x=.slice src m c) (news:List Value) (hl:news.length=m*size) (hnews:∀ ad,src=some ad→∀ j u,news[j]?=some u→w.cell? (ad.add j)=some u) (hnil:src=none→m=0∧c=0) (h1:∀ u∈news,u.oneCell'=true) (h63:n+m≤maxLen) (hbytes:(n+m)*bytes≤140737488355328) (hbase:base≤w.heap.size)
 (hK:∀ v' w',w'.ownsRow base e size v' (n+m) (xs++news)→w.grownBy w' v.ownBlock→K (a.put o.dst v') w'):
 if Region.wanted o (yielded ops a.tmps)=true then Oper.wp P o a w K Q else E:=by
 have hw:Region.wanted o (yielded ops a.tmps)=true:=by simp [Region.wanted,hg]
 rw [if_pos hw]
 cases src with
 | none=>
  obtain ⟨rfl,rfl⟩:=hnil rfl
  obtain rfl:news=[]:=List.eq_nil_of_length_eq_zero (by simpa using hl)
  have hrun:=run_append_owned_none (P:=P) (w:=w) base t o.type e i size ht hi v n xs hown
  unfold Oper.wp
  simp [execOp,hop,resolve,invoke,builtin,hs,hx,hrun,Result.andThen]
  exact hK v w (by simpa using hown) (World.grownBy.refl w _)
 | some ad=>
  obtain ⟨v',w',hrun,r1,r2,_⟩:=run_append_own (P:=P) w base t o.type e i z size bytes ht hi hz hsize hby hzs hsz v n xs hown ad m c news hl (hnews ad rfl) h1 h63 hbytes hbase
  unfold Oper.wp
  simp [execOp,hop,resolve,invoke,builtin,hs,hx,hrun,Result.andThen]
  exact hK v' w' r1 r2
end Go.Proofs.YtdjpjfdeeelijaaGreatDoor
