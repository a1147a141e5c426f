/- Merged: GtN GtO GtP GtQ GtR GtS GtT. hostellaw09: wordAt: a frame's word, byte by byte. hostellaw09: led: down the words alone. TableWords, plain: each leaf that is told is looked up at its address. -/
import Derived.Test.YtdjpjfdeeelijaaGreatDoorKY4
import Derived.BigQuiet
namespace Go.Proofs.YtdjpjfdeeelijaaGreatDoor
open Go.RowKit Go.Sort Go.WideMaps Go.Maps Go.WideShapes Go.WideElems Go.MapKept Go.ChangeMaps
attribute [local go_sem] Oper.semAt_some
abbrev opC9 (o:O9):List Value:=[.int .i64 o.kind,.int .u64 (o.ad:Int),.int .i64 o.f,.int .u8 o.q,.bool o.b,.int .i64 o.n]
abbrev tdC (x0 x1 x2:Int)(x3:Bool)(x4:Int):List Value:=[.int .i64 x0,.int .i64 x1,.int .u8 x2,.bool x3,.int .i64 x4]
section
variable {w0:World}{F:Nat}{t:FT}{p g h c m tb ob root:Nat}
theorem OW9.nS {w:World}{vh:Value}{st:S9}{ws:List Nat}(H:OW9 w0 F t p g h c m tb ob root vh st ws w):¬ cS g h c m ob∧ob≠tb:=
 ⟨H.tw.cw.nR H.own (by decide) (by decide) (by decide),row_tys H.own H.tw.tab (by decide)⟩
theorem told_set {w:World}{b:Nat}{x0 x1 x2:Int}{x3:Bool}{x4:Int}(h:Row w b 34 (tdC x0 x1 x2 x3 x4))(y:Int):Row (w.setCell ⟨b,4,none⟩ (.int .i64 y)) b 34 (tdC x0 x1 x2 x3 y):=h.set 4 _
end
section
variable {w0:World}{F:Nat}{t:FT}{p g h c m tb ob root:Nat}
theorem TW.offP {w w':World}{fr:Bool}{s:CC}{ws:List Nat}{S:Nat→Prop}(H:TW w0 F t p g h c m tb s ws root fr w)(he:EX S w w')(h1:¬ S c)(h2:¬ S p)(h3:¬ S g)(h4:¬ S h)(h5:¬ S m)(h6:¬ S tb)(hb:∀ k,S k→w0.heap.size≤k):TW w0 F t p g h c m tb s ws root fr w':=
 ⟨⟨he.row H.cw.cache h1,⟨he.row H.cw.pool.pool h2,he.row H.cw.pool.frames h3,he.row H.cw.pool.words h4,H.cw.pool.ok,H.cw.pool.n1,H.cw.pool.n2,H.cw.pool.wl,H.cw.pool.wb,H.cw.pool.c0⟩,H.cw.map.ex he h5,H.cw.files,he.below H.cw.low hb H.cw.low.size,H.cw.lg,H.cw.lh,H.cw.lc,H.cw.lm,H.cw.few,H.cw.tb⟩,he.row H.tab h6,H.sz,H.lt⟩
end
structure Op9Ok (o:O9):Prop where
 ad:o.ad<18446744073709551616
 q0:0≤o.q
 q1:o.q≤255
 n:I64 o.n
structure Ops9 (w:World)(a:Option Addr)(l:List O9):Prop where
 rows:Rk w 6 a l.length (l.map opC9)
 ok:∀ o∈l,Op9Ok o
theorem Ops9.below {w w':World}{a:Option Addr}{l:List O9}(h:Ops9 w a l)(hb:Below w.heap.size w w'):Ops9 w' a l:=⟨h.rows.below' hb,h.ok⟩
section
variable {w0:World}{F:Nat}{t:FT}{p g h c m tb ob root:Nat}
theorem ti_room {rd:Int→Int→List UInt8 × Int}{st:S9}(T:TI rd st.s 3 root st.kids st.h)(hl:st.s.fs.length≤1024)(hh:st.h.length≤1000000):(hxT 3 root st.kids++st.h).length+4≤3000000:=by
 have:=T.len
 rw [List.length_append]
 omega
end
/-- What behind leaves. -/
structure Ran9 (rd:Int→Int→List UInt8 × Int)(root n:Nat)(st:S9)(k:Nat):Prop where
 inv:Inv9 rd root st
 len:st.s.fs.length=n
 tn:st.s.tn≤k
 hh:st.h.length≤k
theorem Ran9.step {rd:Int→Int→List UInt8 × Int}{root n k:Nat}{st:S9}{o:O9}(R:Ran9 rd root n st k)(hq:0≤o.q)(hr:∀ i p,(rd i p).1.length≤4096):Ran9 rd root n (does9 rd root st o) (k+1):=by
 have D:=does9_did o hq R.inv hr
 exact ⟨D.inv,D.len.trans R.len,by have:=D.tn;have:=R.tn;omega,by have:=D.hh;have:=R.hh;omega⟩
theorem ixOf_page {a b:Nat}(h:a/4096=b/4096):ixOf a=ixOf b:=by
 funext k
 unfold ixOf
 have e:∀ x:Nat,x/2 ^ (12+9*k)=x/4096/2 ^ (9*k):=fun x=>by
  rw [Nat.div_div_eq_div_mul,show 4096*2 ^ (9*k)=2 ^ (12+9*k) by rw [Nat.pow_add]]
 rw [e a,e b,h]
section
variable {rd:Int→Int→List UInt8 × Int}{root:Nat}
/-- What a Map that succeeds did. -/
structure MapD (rd:Int→Int→List UInt8 × Int)(s:CC)(root:Nat)(kids:Nat→Tr)(R:List Nat)(ad:Nat)(a q:Int)(b:Bool)(k r:Nat)(D:RES):Prop where
 ka:a=(k:Int)
 qr:q=(r:Int)
 r7:r≤7
 tk:TakenF k s
 lo:ad<140737488355328
 pg:ad%4096=0
 no:lookT (ixOf ad) 3 kids=.no
 dp:DPr (mapV k r b) rd [k] (mapB k) (upC s k) 3 root kids R D
 e0:D.2.2=0
 lf:lookT (ixOf ad) 3 D.2.1=.lf k r b
 pm:(lfT 4 (.nd root D.2.1)).Perm (k::lfT 4 (.nd root kids))
 un:∀ s',(downT unmapV (ixOf ad) 3 s' root D.2.1).2=(kids,0)
 ti:TI rd D.1 3 root D.2.1 R
theorem okA_is {s:CC}{ad:Nat}{a q:Int}(h:okA s ad a q=true)(hq:0≤q):∃ k r:Nat,a=(k:Int)∧q=(r:Int)∧r≤7∧TakenF k s∧ad<140737488355328∧ad%4096=0:=by
 unfold okA at h
 rw [Bool.and_eq_true,Bool.and_eq_true,decide_eq_true_eq,decide_eq_true_eq] at h
 obtain ⟨k,r,h1,h2,h3,h4⟩:=rightB_is h.2.2 hq
 exact ⟨k,r,h1,h2,h3,h4,h.1,h.2.1⟩
theorem isNo_no {t:Tr}(h:isNo t=true):t=.no:=by
 cases t with
 | no=>rfl
 | lf a b c=>cases h
 | nd a b=>cases h
theorem mapR_zero {s:CC}{kids:Nat→Tr}{R:List Nat}{ad:Nat}{a q:Int}{b:Bool}(T:TI rd s 3 root kids R)(hq:0≤q)(h:(mapR s root kids ad a q b).2.2=0):∃ k r:Nat,MapD rd s root kids R ad a q b k r (mapR s root kids ad a q b):=by
 have hT:=(mapR_ti T ad a q b hq).1
 revert h hT
 unfold mapR
 split
 ·intro h;cases h
 ·rename_i hok
  split
  ·intro h;cases h
  ·rename_i hno
   intro h hT
   obtain ⟨k,r,rfl,rfl,h7,hTK,hlo,hpg⟩:=okA_is (by simpa using hok) hq
   have hlk:=isNo_no (by simpa using hno)
   rw [Int.toNat_natCast,Int.toNat_natCast] at h hT ⊢
   have D:=downT_ok (mapOk (b:=b) h7) (ixOf_lt ad) 3 (upC s k) root kids R trivial hlk (T.up hTK)
   have hm:=down_map (a:=k) (p:=r) (b:=b) (ixOf_lt ad) 3 (upC s k) root kids T.holds.shp T.full hlk
   split at h
   ·rename_i he
    rw [if_pos he] at hT ⊢
    obtain ⟨m1,m2,m3⟩:=hm he
    exact ⟨k,r,⟨rfl,rfl,h7,hTK,hlo,hpg,hlk,D,he,m1,m2,m3,hT⟩⟩
   ·rename_i he
    exact absurd h he
theorem up_free {s:CC}{hx:List Nat}{k:Nat}(G:Good rd s hx)(h:TakenF k s):freeN (upC s k).fs=freeN s.fs:=by
 obtain ⟨hk,h0⟩:=h
 have e:(upC s k).fs=s.fs.set k ⟨(s.fs.getD k default).bs,cntF s.fs k+1⟩:=by
  unfold upC upS
  simp only
  rw [cntF_at hk,if_neg h0,Int.toNat_natCast]
 rw [e]
 have h1:=G.cnt k hk
 have:=freeN_set s.fs k ⟨(s.fs.getD k default).bs,cntF s.fs k+1⟩ hk
 rw [cntF_at hk] at this ⊢
 generalize s.fs[k].cnt=n at *
 have h2:¬ n+1=0:=by omega
 rw [if_neg (by simpa using h0),if_neg (by simpa using h2)] at this
 simpa using this
theorem mapR_room {s:CC}{kids:Nat→Tr}{R:List Nat}{ad:Nat}{a q:Int}{b:Bool}(T:TI rd s 3 root kids R)(hq:0≤q)(hok:okA s ad a q=true)(hno:lookT (ixOf ad) 3 kids=.no)(hsl:s.sl=[])(hf:3≤freeN s.fs):(mapR s root kids ad a q b).2.2=0:=by
 unfold mapR
 rw [hok,if_neg (by simp),hno,if_neg (by simp [isNo])]
 obtain ⟨k,r,rfl,rfl,h7,hTK,hlo,hpg⟩:=okA_is hok hq
 rw [Int.toNat_natCast,Int.toNat_natCast]
 have D:=downT_ok (mapOk (b:=b) h7) (ixOf_lt ad) 3 (upC s k) root kids R trivial hno (T.up hTK)
 have he:=D.room rfl (by show s.sl=[];exact hsl) (by rw [up_free T.good hTK];exact hf)
 rw [if_pos he]
 exact he
/-- How often a frame is counted that was mapped. -/
theorem MapD.cnt {s:CC}{kids:Nat→Tr}{R:List Nat}{ad:Nat}{a q:Int}{b:Bool}{k r:Nat}{D:RES}(M:MapD rd s root kids R ad a q b k r D)(hk:k<D.1.fs.length):D.1.fs[k].cnt=(((nodesT 4 (.nd root D.2.1)).count k+(lfT 4 (.nd root kids)).count k+1+R.count k+D.1.sl.countP (fun x=>decide (x.f=(k:Int))):Nat):Int):=by
 have h1:=M.ti.good.cnt k hk
 have h2:(hxT 3 root D.2.1++R).count k=(nodesT 4 (.nd root D.2.1)).count k+(lfT 4 (.nd root D.2.1)).count k+R.count k:=by
  rw [List.count_append,hx_count]
 have h3:=M.pm.count_eq k
 rw [List.count_cons] at h3
 simp only [beq_self_eq_true,if_true] at h3
 rw [h1,h2]
 omega
theorem take_fresh {s:CC}{hx:List Nat}(G:Good rd s hx)(hsl:s.sl=[])(hf:0<freeN s.fs):∃ k:Nat,takeV s.fs=(k:Int)∧takeE s.fs=0∧takC s=((k:Int),0,{ s with fs:=takeS s.fs })∧Taken s { s with fs:=takeS s.fs } hx k:=by
 rcases takC_case G with ⟨k,s',h1,h2⟩|⟨_,h⟩
 ·cases hl:lowR s.fs with
  | none=>
   unfold takC at h1
   rw [hl,hsl] at h1
   simp at h1
  | some j=>
   have e2:takeV s.fs=(j:Int):=by unfold takeV;rw [hl]
   have e3:takeE s.fs=0:=by unfold takeE;rw [hl]
   have e4:takeS s.fs=s.fs.set j one0:=by unfold takeS;rw [hl]
   rw [takC_free hl] at h1
   have e5:(j:Int)=(k:Int):=congrArg Prod.fst h1
   have e6:({ s with fs:=s.fs.set j one0 }:CC)=s':=congrArg (fun x:Int × Int × CC=>x.2.2) h1
   obtain rfl:j=k:=by omega
   rw [e2,e3,e4,e6]
   exact ⟨j,rfl,rfl,by rw [takC_free hl,e6],h2⟩
 ·omega
/-- The table of works. -/
theorem works9_is {s:CC}(T:TI rd s 3 root noK [])(hsl:s.sl=[])(hf:freeN s.fs=7):∃ k:Nat,takeV s.fs=(k:Int)∧takeE s.fs=0∧∃ s1:CC,s1={ s with fs:=takeS s.fs }∧TI rd s1 3 root noK [k]∧
 ∃ D:RES,D=mapR s1 root noK 4096 (k:Int) 6 false∧D.2.2=0∧TI rd D.1 3 root D.2.1 [k]∧lookT (ixOf 5000) 3 D.2.1=.lf k 6 false∧cntF D.1.fs (k:Int)=2:=by
 obtain ⟨k,h1,h2,h3,K⟩:=take_fresh T.good hsl (by omega)
 have T1:=T.take K
 rw [List.nil_append] at T1
 refine ⟨k,h1,h2,_,rfl,T1,_,rfl,?_⟩
 have hfree:=takC_sum T.good h3
 generalize ({ s with fs:=takeS s.fs }:CC)=s1 at *
 have hs1:s1.sl=[]:=by
  have:=K.sub
  rw [hsl] at this
  exact List.sublist_nil.1 this
 rw [hs1,hsl] at hfree
 simp only [List.length_nil] at hfree
 have hkm:k∈hxT 3 root noK++[k]:=by simp
 have hTK:TakenF k s1:=T1.good.at_ hkm
 obtain ⟨hk,hk0⟩:=T1.good.at_ hkm
 have hok:okA s1 4096 (k:Int) 6=true:=by
  unfold okA rightB
  rw [cntF_at hk]
  have:=T1.good.cnt k hk
  have:0<s1.fs[k].cnt:=by omega
  simp [this]
 have he:=mapR_room (b:=false) T1 (by omega) hok (lookT_noK _ 3) hs1 (by omega)
 obtain ⟨k',r',M⟩:=mapR_zero T1 (by omega) he
 have hkk:=M.ka
 have hrr:=M.qr
 obtain rfl:k'=k:=by omega
 obtain rfl:r'=6:=by omega
 generalize mapR s1 root noK 4096 (k':Int) 6 false=D at *
 have hlen:D.1.fs.length=s1.fs.length:=M.dp.len.trans up_len
 refine ⟨he,M.ti,by rw [ixOf_page (show 5000/4096=4096/4096 by decide)];exact M.lf,?_⟩
 have hkD:k'<D.1.fs.length:=by omega
 rw [cntF_at hkD,M.cnt hkD]
 have hsl2:D.1.sl=[]:=by
  have h5:D.1.sl.Sublist (upC s1 k').sl:=M.dp.sub
  have h6:(upC s1 k').sl=[]:=hs1
  rw [h6] at h5
  exact List.sublist_nil.1 h5
 have hnr:k'∉nodesT 4 (.nd root noK):=by
  have h5:=K.held
  rw [List.append_nil] at h5
  intro h6
  have h7:(hxT 3 root noK).count k'=(nodesT 4 (.nd root noK)).count k'+(lfT 4 (.nd root noK)).count k':=hx_count 3 root noK k'
  have h8:=List.count_pos_iff.2 h6
  omega
 have hnd:=(M.dp.keep k' (by simp) hnr).2
 rw [hsl2,lfT_bare bare_noK,List.count_eq_zero.2 hnd]
 simp
end
set_option maxRecDepth 100000 in
set_option maxHeartbeats 8000000 in
theorem works9_any (w:World)(hT:Tb w)(hZ:Wd.Sizes w):Calls Tryz.prog 5 #[] w fun e w'=>e=.returned (.bool true)∧Below w.heap.size w w':=by
 have HM:=hid (made9_any 8 (by omega) w hT hZ)
 clear hT hZ
 go_enter Tryz.func5,Tryz.ntmps5
 go_wp2_with fail
 refine (HM.out).mono ?_
 rintro e w1 hm
 rcases hm with ⟨hn1,_⟩|⟨w0,F,t,p,g,h,c,m,tb,ob,root,ws,k,st,hnk,hk1,rfl,how,hfr,hb0⟩
 ·exact absurd hn1 (by omega)
 ·obtain rfl:k=8:=by omega
  have hti:=hfr.inv.ti hfr.fr
  rw [hfr.kids,hfr.h] at hti
  have htw:=how.tw
  rw [hfr.fr] at htw
  obtain ⟨f,tv,te,s1,hs1,T1,D,hD,he,T2,hlk,hct⟩:=works9_is hti hfr.sl (by have:=hfr.room;omega)
  have HTK:=hid (take_any p g h st.s.fs ws w1 htw.cw.pool htw.cw.tbl)
  rw [tv,te] at HTK
  have HTW:=hid htw
  have HOWN:=hid how.own
  have HNS:=hid how.nS
  have HLW:=hid how.tw.cw.low
  have HSS:=hid (fun k (e:cS g h c m k)=>show w0.heap.size≤k by
   have h1:=htw.cw.lg
   have h2:=htw.cw.lh
   have h3:=htw.cw.lc
   have h4:=htw.cw.lm
   rcases e with rfl|rfl|rfl|rfl <;> assumption)
  have HB0:=hid hb0
  have HLO:=hid how.lo
  have HS1:=hid hs1
  have HMA:=hid (fun W ws' (H:TW w0 F t p g h c m tb s1 ws' root false W)=>map_any s1 noK [f] ws' 4096 (by omega) (f:Int) 6 false (by omega) W H T1 (by
   have:=T1.len
   have hl:s1.fs.length≤1024:=H.cw.pool.n2
   rw [List.length_append]
   simp only [List.length_cons,List.length_nil]
   omega))
  unfold TabP at HMA
  rw [← hD,he] at HMA
  have HFI:=hid (fun W ws' (H:TW w0 F t p g h c m tb D.1 ws' root false W)=>find_any D.1 D.2.1 [f] ws' 5000 (by omega) W H T2 (by
   have:=T2.len
   have hl:D.1.fs.length≤1024:=H.cw.pool.n2
   rw [List.length_append]
   simp only [List.length_cons,List.length_nil]
   omega))
  have hfn:fndL 5000 (lookT (ixOf 5000) 3 D.2.1)=.lf f 6 false:=by unfold fndL;rw [if_pos (by omega),hlk]
  have hfe:fndE 5000 (lookT (ixOf 5000) 3 D.2.1)=0:=by unfold fndE;rw [if_pos (by omega),hlk];rfl
  rw [hfn,hfe] at HFI
  have HCT:=hid (fun W ws' (H:TW w0 F t p g h c m tb D.1 ws' root false W)=>count_any p g h D.1.fs ws' (f:Int) W H.cw.pool)
  rw [hct] at HCT
  clear hti how htw hfr hb0 hs1 T1 T2 hD he hlk hct tv te hfn hfe
  obtain ⟨q0,q1,q2,q3⟩:=HOWN.out.four
  have hol:=HOWN.out.lt
  go_wp2_with fail
  refine (HTK.out).mono ?_
  rintro e w2 ⟨rfl,⟨ws2,hp2⟩,hex⟩
  have HT2:=hid (show TW w0 F t p g h c m tb s1 ws2 root false w2 from HTW.out.call (by rw [HS1.out];exact HTW.out.cw.pool' hp2 hex) (ex_cS hex))
  have HE2:=hid (ex_cS (c:=c) (m:=m) hex)
  have HR2:=hid ((ex_cS (c:=c) (m:=m) hex).row HOWN.out HNS.out.1)
  clear hp2 hex q0 q1 q2 q3
  obtain ⟨q0,q1,q2,q3⟩:=HR2.out.four
  have hol:=HR2.out.lt
  go_wp2_with fail
  refine (HMA.out w2 ws2 HT2.out).mono ?_
  rintro e w3 ⟨rfl,⟨ws3,ht3⟩,he3⟩
  have HT3:=hid ht3
  have HE3:=hid (HE2.out.trans he3)
  have HR3:=hid (he3.row HR2.out HNS.out.1)
  clear ht3 he3 q0 q1 q2 q3
  obtain ⟨q0,q1,q2,q3⟩:=HR3.out.four
  have hol:=HR3.out.lt
  go_wp2_with fail
  refine (HFI.out w3 ws3 HT3.out).mono ?_
  rintro e w4 ⟨rfl,⟨ws4,ht4⟩,he4⟩
  have HT4:=hid ht4
  have HE4:=hid (HE3.out.trans he4)
  have HR4:=hid (he4.row HR3.out HNS.out.1)
  have HC5:=hid (HCT.out (w4.alloc (.cells #[.int .i64 (f:Int),.int .u8 6,.bool false] 31)) ws4 (ht4.below (bal _)))
  clear ht4 he4 q0 q1 q2 q3
  obtain ⟨q0,q1,q2,q3⟩:=HR4.out.four
  have hol:=HR4.out.lt
  have e1:((f:Int)==(f:Int))=true:=by simp
  unfold ldV lfV
  go_wp2_with fail
  refine (HC5.out).mono ?_
  rintro e w6 ⟨rfl,rfl⟩
  go_wp2_with fail
  go_ret
  exact ⟨rfl,HB0.out.trans (((HE4.out.trans (EX.of_below (bal _))).below HLW.out HSS.out HLW.out.size).mono HB0.out.size)⟩
set_option maxHeartbeats 1000000 in
theorem sameInts_any (a b:Option Addr)(ca cb:Nat)(l:List Nat)(w:World)(hA:Cel w a l.length (l.map nI9))(hB:Cel w b l.length (l.map nI9))(hl:l.length≤1000000):
 Calls Tryz.prog 44 #[.slice a l.length ca,.slice b l.length cb] w fun e w'=>e=.returned (.bool true)∧∃ k,w'=w.drewN k:=by
 have HA:=hid hA
 have HB:=hid hB
 clear hA hB
 go_enter Tryz.func44,Tryz.ntmps44
 go_wp2_with fail
 go_loopw [5] (fun i wr=>∃ k q:Nat,k≤l.length∧i=.int .i64 k∧wr=w.drewN q) (fun i _=>l.length-(intOf i).toNat)
 case atStart=>exact ⟨0,0,Nat.zero_le _,rfl,rfl⟩
 case round=>
  obtain ⟨k,q,hk,rfl,rfl⟩:=hrel
  by_cases hlt:k<l.length
  ·have d1:decide ((k:Int)<(l.length:Int))=true:=by simp;omega
   have d1n:decide (k<l.length)=true:=by simp;omega
   obtain ⟨ba,oa,rfl,hat⟩:=HA.out.some_of (by simp;omega)
   obtain ⟨bb,ob,rfl,hbt⟩:=HB.out.some_of (by simp;omega)
   have hca:=hat k (by simpa using hlt)
   have hcb:=hbt k (by simpa using hlt)
   rw [List.getElem_map] at hca hcb
   unfold nI9 at hca hcb
   have hla:=World.block_lt_of_cell? _ _ hca
   have hlb:=World.block_lt_of_cell? _ _ hcb
   clear hat hbt
   generalize l[k]=y at *
   have ez:(0:Int)≤(k:Int):=by omega
   have eb:(k:Int)<(l.length:Int):=by omega
   go_wp2_with fail
   go_quiet (fail)
   go_wp2_with fail
   go_roundw
   case rel=>exact ⟨k+1,q+nq,by omega,by go_num,rfl⟩
   case measure=>simp [intOf];omega
  ·have d1:decide ((k:Int)<(l.length:Int))=false:=by simp;omega
   have d1n:decide (k<l.length)=false:=by simp;omega
   go_wp2_with fail
   go_ret
   exact ⟨rfl,q,rfl⟩
set_option maxHeartbeats 1000000 in
theorem samePuts_any (a b:Option Addr)(ca cb:Nat)(l:List LF)(w:World)(hA:Rk w 4 a l.length (l.map putC))(hB:Rk w 4 b l.length (l.map putC))(hl:l.length≤1000000):
 Calls Tryz.prog 41 #[.slice a l.length ca,.slice b l.length cb] w fun e w'=>e=.returned (.bool true)∧∃ k,w'=w.drewN k:=by
 have HA:=hid hA
 have HB:=hid hB
 clear hA hB
 go_enter Tryz.func41,Tryz.ntmps41
 go_wp2_with fail
 go_loopw [5] (fun i wr=>∃ k q:Nat,k≤l.length∧i=.int .i64 k∧wr=w.drewN q) (fun i _=>l.length-(intOf i).toNat)
 case atStart=>exact ⟨0,0,Nat.zero_le _,rfl,rfl⟩
 case round=>
  obtain ⟨k,q,hk,rfl,rfl⟩:=hrel
  by_cases hlt:k<l.length
  ·have d1:decide ((k:Int)<(l.length:Int))=true:=by simp;omega
   have d1n:decide (k<l.length)=true:=by simp;omega
   obtain ⟨ba,oa,rfl,hat⟩:=HA.out.some_of (by simp;omega)
   obtain ⟨bb,ob,rfl,hbt⟩:=HB.out.some_of (by simp;omega)
   have e9:(l.map putC)[k]'(by simpa using hlt)=putC l[k]:=by simp
   have gq:=fun q hq=>hat k (by simpa using hlt) q hq
   have fq:=fun q hq=>hbt k (by simpa using hlt) q hq
   rw [e9] at gq fq
   have g0:=gq 0 (by simp [putC])
   have g1:=gq 1 (by simp [putC])
   have g2:=gq 2 (by simp [putC])
   have g3:=gq 3 (by simp [putC])
   have f0:=fq 0 (by simp [putC])
   have f1:=fq 1 (by simp [putC])
   have f2:=fq 2 (by simp [putC])
   have f3:=fq 3 (by simp [putC])
   simp only [putC,List.getElem_cons_zero,List.getElem_cons_succ,Nat.add_zero] at g0 g1 g2 g3 f0 f1 f2 f3
   have hla:=World.block_lt_of_cell? _ _ g0
   have hlb:=World.block_lt_of_cell? _ _ f0
   generalize l[k]=y at *
   obtain ⟨y0,y1,y2,y3⟩:=y
   simp only at g0 g1 g2 g3 f0 f1 f2 f3
   clear gq fq e9 hat hbt
   have ez:(0:Int)≤(k:Int):=by omega
   have eb:(k:Int)<(l.length:Int):=by omega
   go_wp2_with fail
   go_quiet (fail)
   go_wp2_with fail
   go_roundw
   case rel=>exact ⟨k+1,q+nq,by omega,by go_num,rfl⟩
   case measure=>simp [intOf];omega
  ·have d1:decide ((k:Int)<(l.length:Int))=false:=by simp;omega
   have d1n:decide (k<l.length)=false:=by simp;omega
   go_wp2_with fail
   go_ret
   exact ⟨rfl,q,rfl⟩
end Go.Proofs.YtdjpjfdeeelijaaGreatDoor
namespace Go.Proofs.YtdjpjfdeeelijaaGreatDoor
open Go.RowKit Go.Sort
theorem digit_mid {M c i r:Nat}(hr:r<M)(hi:i<512):(M*512*c+i*M+r)/M%512=i:=by
 have hM:0<M:=by omega
 have e:M*512*c+i*M+r=r+M*(512*c+i):=by rw [Nat.mul_add,Nat.mul_comm i M,Nat.mul_assoc];omega
 rw [e,Nat.add_mul_div_left _ _ hM,Nat.div_eq_of_lt hr]
 omega
theorem pow_next (k:Nat):(2:Nat) ^ (12+9*(k+1))=2 ^ (12+9*k)*512:=by rw [show 12+9*(k+1)=(12+9*k)+9 by omega,Nat.pow_add]
theorem leaf_look:∀ (k c f:Nat) (kids:Nat→Tr) (y:LF),Shp (k+1) (.nd f kids)→y∈leavesT (k+1) (2 ^ (12+9*(k+1))*c) (.nd f kids)→
 2 ^ (12+9*(k+1))*c≤y.1∧y.1<2 ^ (12+9*(k+1))*c+2 ^ (12+9*(k+1))∧lookT (ixOf y.1) k kids=.lf y.2.1 y.2.2.1 y.2.2.2
 | 0,c,f,kids,y,H,h=>by
  rw [leavesT_nd] at h
  obtain ⟨i,hi,hy⟩:=List.mem_flatMap.1 h
  have hi:=List.mem_range.1 hi
  have hs:=H i hi
  cases hk:kids i with
  | no=>rw [hk] at hy;cases hy
  | nd g kk=>rw [hk] at hs;exact hs.elim
  | lf a q b=>
   rw [hk] at hy
   have e:y=(2 ^ (12+9*(0+1))*c+i*2 ^ (12+9*0),a,q,b):=List.mem_singleton.1 hy
   subst e
   have e1:ixOf (2 ^ (12+9*(0+1))*c+i*2 ^ (12+9*0)) 0=i:=by
    unfold ixOf
    rw [pow_next 0]
    have:=digit_mid (M:=2 ^ (12+9*0)) (c:=c) (i:=i) (r:=0) (by decide) hi
    simpa using this
   refine ⟨Nat.le_add_right _ _,?_,?_⟩
   ·show 2 ^ (12+9*(0+1))*c+i*2 ^ (12+9*0)<_
    rw [show (2:Nat) ^ (12+9*(0+1))=2097152 by rfl,show (2:Nat) ^ (12+9*0)=4096 by rfl]
    omega
   ·show kids (ixOf _ 0)=_
    rw [e1,hk]
 | k+1,c,f,kids,y,H,h=>by
  rw [leavesT_nd] at h
  obtain ⟨i,hi,hy⟩:=List.mem_flatMap.1 h
  have hi:=List.mem_range.1 hi
  have hs:=H i hi
  cases hk:kids i with
  | no=>rw [hk] at hy;cases hy
  | lf a q b=>rw [hk] at hs;exact hs.elim
  | nd g kk=>
   rw [hk] at hy hs
   obtain ⟨M,hM⟩:∃ M,M=2 ^ (12+9*(k+1)):=⟨_,rfl⟩
   have hp:(2:Nat) ^ (12+9*(k+1+1))=M*512:=by rw [pow_next (k+1),hM]
   have hc:2 ^ (12+9*(k+1+1))*c+i*2 ^ (12+9*(k+1))=2 ^ (12+9*(k+1))*(512*c+i):=by
    rw [hp,← hM,Nat.mul_add,Nat.mul_comm i M,Nat.mul_assoc]
   rw [hc] at hy
   obtain ⟨h1,h2,h3⟩:=leaf_look k (512*c+i) g kk y hs hy
   rw [← hM] at h1 h2
   have e0:M*(512*c+i)=M*512*c+i*M:=by rw [Nat.mul_add,Nat.mul_comm i M,Nat.mul_assoc]
   rw [e0] at h1 h2
   obtain ⟨r,hr⟩:∃ r,y.1=M*512*c+i*M+r:=⟨y.1-(M*512*c+i*M),by omega⟩
   have hrM:r<M:=by omega
   have hd:=digit_mid (c:=c) hrM hi
   rw [← hr] at hd
   have e1:ixOf y.1 (k+1)=i:=by unfold ixOf;rw [← hM];exact hd
   rw [hp]
   have hiM:i*M+M≤M*512:=by
    have:(i+1)*M≤512*M:=Nat.mul_le_mul_right M (by omega)
    rw [Nat.add_mul,Nat.one_mul,Nat.mul_comm 512 M] at this
    exact this
   refine ⟨by omega,by omega,?_⟩
   rw [lookT_nd (g:=g) (kk:=kk) (by rw [e1];exact hk)]
   exact h3
theorem all_look {root:Nat}{kids:Nat→Tr}{y:LF}(H:Shp 4 (.nd root kids))(h:y∈allL root kids):y.1<281474976710656∧lookT (ixOf y.1) 3 kids=.lf y.2.1 y.2.2.1 y.2.2.2:=by
 have:=leaf_look 3 0 root kids y H (by rw [Nat.mul_zero];exact h)
 refine ⟨?_,this.2.2⟩
 have h2:=this.2.1
 rw [show (2:Nat) ^ (12+9*(3+1))=281474976710656 by rfl] at h2
 omega
end Go.Proofs.YtdjpjfdeeelijaaGreatDoor
