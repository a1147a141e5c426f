/- Merged: GtG GtH GtI. -/
import Derived.Test.YtdjpjfdeeelijaaGreatDoorKY2
import Derived.Test.YtdjpjfdeeelijaaGreatDoorW05
namespace Go.Proofs.YtdjpjfdeeelijaaGreatDoor
open Go.RowKit Go.Sort Go.WideMaps Go.Maps Go.WideShapes Go.WideElems Go.MapKept Go.ChangeMaps
attribute [local go_sem] Oper.semAt_some
/-- What one comes to on the way through: a node; a leaf with its address. -/
abbrev EV:=Nat ⊕ (Nat × Nat × Nat × Bool)
def evT:Nat→Nat→Tr→List EV
 | 0,ad,.lf a q b=>[.inr (ad,a,q,b)]
 | 0,_,_=>[]
 | k+1,ad,.nd f kids=>.inl f::(List.range 512).flatMap fun i=>evT k (ad+i*2 ^ (12+9*k)) (kids i)
 | _+1,_,_=>[]
theorem evT_no (k ad:Nat):evT k ad .no=[]:=by cases k <;> rfl
theorem node_bytes {fs:List FR}{f:Nat}{kids:Nat→Tr}(hf:f<fs.length)(hl:fs[f].bs.length=4096)(hw:∀ i,i<512→WdAt fs f i (wdT (kids i))):
 ∃ L:List UInt8,fs[f].bs=b2i L∧L.length=4096∧∀ i,i<512→(L.drop (8*i)).take 8=Wd.leB (wdT (kids i)) 8:=by
 have hg:∀ i q,(hi:i<512)→(hq:q<8)→fs[f].bs[8*i+q]?=(le8 (wdT (kids i)))[q]?:=fun i q hi hq=>by
  obtain ⟨_,e⟩:=hw i hi
  rw [← e,List.getElem?_take,if_pos hq,List.getElem?_drop]
 have hb:fs[f].bs=b2i (fs[f].bs.map fun x=>UInt8.ofNat x.toNat):=by
  unfold b2i
  rw [List.map_map]
  refine List.ext_getElem (by simp) fun k h1 h2=>?_
  rw [List.getElem_map]
  have e:=hg (k/8) (k%8) (by omega) (Nat.mod_lt _ (by omega))
  rw [show 8*(k/8)+k%8=k by omega,List.getElem?_eq_getElem h1] at e
  unfold le8 b2i at e
  rw [List.getElem?_map,List.getElem?_eq_getElem (by rw [Wd.leB_len];exact Nat.mod_lt _ (by omega))] at e
  have e2:=Option.some.inj e
  rw [e2]
  simp
 refine ⟨_,hb,by simp [hl],fun i hi=>?_⟩
 obtain ⟨_,e⟩:=hw i hi
 refine List.ext_getElem? fun q=>?_
 by_cases hq:q<8
 ·rw [List.getElem?_take,if_pos hq,List.getElem?_drop,List.getElem?_map,hg i q hi hq]
  unfold le8 b2i
  rw [List.getElem?_map,List.getElem?_eq_getElem (by rw [Wd.leB_len];exact hq)]
  simp
 ·rw [List.getElem?_take,if_neg hq,List.getElem?_eq_none (by rw [Wd.leB_len];omega)]
theorem flat_mono {α:Type}(h:Nat→List α){j n:Nat}(hj:j≤n):((List.range j).flatMap h).length≤((List.range n).flatMap h).length:=by
 obtain ⟨d,rfl⟩:=Nat.exists_eq_add_of_le hj
 rw [List.range_add,List.flatMap_append,List.length_append]
 omega
/-- A step of one who writes a list of its own. -/
structure SP (bo:Nat)(P:List EV→Option Nat→World→Prop)(o:Option Nat)(W:World)(l':List EV)(w':World):Prop where
 next:∃ o',P l' o' w'∧(o'=o∨∀ k,o'=some k→W.heap.size≤k)
 ex:EX (fun k=>k=bo∨o=some k) W w'
theorem SP.trans {bo:Nat}{P:List EV→Option Nat→World→Prop}{o o1:Option Nat}{W w1 w2:World}{l2:List EV}(h1:o1=o∨∀ k,o1=some k→W.heap.size≤k)(he:EX (fun k=>k=bo∨o=some k) W w1)(h:SP bo P o1 w1 l2 w2):SP bo P o W l2 w2:=by
 obtain ⟨o2,h3,h4⟩:=h.next
 refine ⟨⟨o2,h3,?_⟩,⟨h.ex.os.trans he.os,h.ex.tape.trans he.tape,h.ex.output.trans he.output,Nat.le_trans he.size h.ex.size,fun k hk hn=>?_⟩⟩
 ·rcases h4 with rfl|h4
  ·exact h1
  ·exact .inr fun k e=>Nat.le_trans he.size (h4 k e)
 ·refine (h.ex.block k (Nat.lt_of_lt_of_le hk he.size) ?_).trans (he.block k hk hn)
  rintro (e|e)
  ·exact hn (.inl e)
  ·rcases h1 with rfl|h1
   ·exact hn (.inr e)
   ·have:=h1 k e
    omega
theorem SP.next_of {o o1 o3:Option Nat}{W w1:World}(h3:o3=o1∨∀ k,o3=some k→w1.heap.size≤k)(h1:o1=o∨∀ k,o1=some k→W.heap.size≤k)(hs:W.heap.size≤w1.heap.size):o3=o∨∀ k,o3=some k→W.heap.size≤k:=by
 rcases h3 with rfl|h3
 ·exact h1
 ·exact .inr fun k e=>Nat.le_trans hs (h3 k e)
theorem Byt.sp {w w':World}{G len bo:Nat}{o:Option Nat}{l:List UInt8}(h:Byt w (some ⟨G,0,none⟩) len l)(he:EX (fun k=>k=bo∨o=some k) w w')(_hG:G<w.heap.size)(hb:bo≠G)(ho:o≠some G):Byt w' (some ⟨G,0,none⟩) len l:=
 ⟨h.hlen,fun i hi=>by
  obtain ⟨b,off,e,hc⟩:=h.cell i hi
  refine ⟨b,off,e,?_⟩
  cases e
  refine he.cell hc ?_
  rintro (e|e)
  ·exact hb e.symm
  ·exact ho e⟩
/-- What the list's owner holds: its blocks lie at B or above. -/
structure OK (B bo:Nat)(P:List EV→Option Nat→World→Prop):Prop where
 far:B≤bo
 lo:∀ l o w,P l o w→∀ k,o=some k→B≤k∧k<w.heap.size
 box:∀ l o w,P l o w→bo<w.heap.size
 below:∀ l o w w',P l o w→Below w.heap.size w w'→P l o w'
theorem SP.low {B bo:Nat}{P:List EV→Option Nat→World→Prop}(K:OK B bo P){o:Option Nat}{wb W w':World}{l l':List EV}(hp:P l o W)(hB:wb.heap.size=B)(hb:Below B wb W)(h:SP bo P o W l' w'):Below B wb w':=by
 refine h.ex.below hb (fun k e=>?_) (by have:=hb.size;omega)
 rcases e with rfl|e
 ·exact K.far
 ·exact (K.lo _ _ _ hp k e).1
def SeenGo (B bo:Nat)(P:List EV→Option Nat→World→Prop)(wb:World)(fn:Nat)(caps:Array Value):Prop:=
 ∀ (f:Nat) (l:List EV) (o:Option Nat) (W:World),P l o W→Below B wb W→l.length≤1000000→Calls Tryz.prog fn (#[.int .i64 (f:Int)]++caps) W fun e w'=>e=.returned (.tuple #[])∧SP bo P o W (l++[.inl f]) w'
def LeafAt (B bo:Nat)(P:List EV→Option Nat→World→Prop)(wb:World)(fn:Nat)(caps:Array Value):Prop:=
 ∀ (ad a q:Nat) (b:Bool) (l:List EV) (o:Option Nat) (W:World),P l o W→Below B wb W→l.length≤1000000→a<1048576→q≤7→Calls Tryz.prog fn (#[.int .u64 (ad:Int),.int .u64 ((wdT (.lf a q b):Nat):Int)]++caps) W fun e w'=>e=.returned (.tuple #[])∧SP bo P o W (l++[.inr (ad,a,q,b)]) w'
section
variable {w0 wb:World}{F:Nat}{t:FT}{p g h c m tb root:Nat}{fr:Bool}{s:CC}{ws:List Nat}{B bo:Nat}{P:List EV→Option Nat→World→Prop}{fS fL:Nat}{cS' cL:Array Value}
set_option maxRecDepth 100000 in
set_option maxHeartbeats 8000000 in
theorem through_step (H:TW w0 F t p g h c m tb s ws root fr wb)(hB:wb.heap.size=B)(K:OK B bo P)(hS:Enters fS)(hL:Enters fL)(SG:SeenGo B bo P wb fS cS')(LG:LeafAt B bo P wb fL cL)(k:Nat)(hk:k≤3)
 (IH:∀ (lv:Int) (ad g1:Nat) (kk:Nat→Tr) (l:List EV) (o:Option Nat) (W:World),lv=(k:Int)→1≤k→Holds s.fs k (.nd g1 kk)→(∀ q∈nodesT k (.nd g1 kk),TakenF q s)→ad%2 ^ (12+9*k)=0→ad+2 ^ (12+9*k)≤281474976710656→P l o W→Below B wb W→l.length+(evT k ad (.nd g1 kk)).length≤1000000→
  Calls Tryz.prog 96 #[.pointer (some ⟨tb,0,none⟩),.int .i64 (g1:Int),.int .i64 lv,.int .u64 (ad:Int),.func (.func fS) #[] cS',.func (.func fL) #[] cL] W fun e w'=>e=.returned (.tuple #[])∧SP bo P o W (l++evT k ad (.nd g1 kk)) w')
 (lv:Int) (ad f:Nat) (kids:Nat→Tr) (l:List EV) (o:Option Nat) (W:World) (hlv:lv=(k:Int)+1) (hh:Holds s.fs (k+1) (.nd f kids)) (hT:∀ q∈nodesT (k+1) (.nd f kids),TakenF q s) (had0:ad%2 ^ (12+9*(k+1))=0) (had:ad+2 ^ (12+9*(k+1))≤281474976710656) (hp:P l o W) (hb:Below B wb W) (hl:l.length+(evT (k+1) ad (.nd f kids)).length≤1000000):
 Calls Tryz.prog 96 #[.pointer (some ⟨tb,0,none⟩),.int .i64 (f:Int),.int .i64 lv,.int .u64 (ad:Int),.func (.func fS) #[] cS',.func (.func fL) #[] cL] W fun e w'=>e=.returned (.tuple #[])∧SP bo P o W (l++evT (k+1) ad (.nd f kids)) w':=by
 obtain ⟨hf,hf0⟩:=hT f (List.mem_cons_self ..)
 have hlen:=H.cw.pool.ok _ (List.getElem_mem hf)
 obtain ⟨L,hLb,hL4,hLw⟩:=node_bytes hf hlen (fun i hi=>(hh i hi).1)
 have hTk:takE s.fs (f:Int)=0:=by unfold takE;rw [cntF_at hf,if_neg hf0]
 have hE:loadE s.fs (f:Int) 0 4096=0:=by unfold loadE;rw [hTk];rfl
 have hLL:loadL s.fs (f:Int) 0 4096=b2i L:=by
  unfold loadL
  rw [hTk,Int.toNat_natCast,show (0:Int).toNat=0 from rfl,show (4096:Int).toNat=4096 from rfl,getF_at _ _ _ hf,List.drop_zero,List.take_of_length_le (by omega)]
  exact hLb
 have HLD:=hid (fun (W':World) (hb':Below B wb W')=>load_any p g h s.fs ws (f:Int) 0 4096 W' (H.below (hB▸hb')).cw.pool)
 simp only [hE,hLL,b2i_len,hL4,b2i_map] at HLD
 have HPO:=hid (fun (W':World) (hb':Below B wb W')=>tpool_any w0 F t p g h c m tb s ws root fr W' (H.below (hB▸hb')))
 have HSE:=hid (SG f l o W hp hb (by omega))
 have hentS:=hS
 have hentL:=hL
 unfold Enters at hentS hentL
 have HK:=hid K
 have HP:=hid hp
 have HB:=hid hb
 have HBs:=hid hB
 have HSZ:=hid (fun (W':World) (hb':Below B wb W')=>(H.below (hB▸hb')).sizes)
 have HLW:=hid hLw
 have HL4:=hid hL4
 have HHH:=hid hh
 have HTT:=hid hT
 have HFL:=hid H.cw.pool.n2
 have HLG:=hid LG
 have HIH:=hid IH
 have HLL:=hid hl
 have hM:2 ^ (12+9*(k+1))=2 ^ (12+9*k)*512:=by rw [show 12+9*(k+1)=12+9*k+9 by omega,Nat.pow_add]
 have hM0:0<2 ^ (12+9*k):=Nat.pow_pos (by decide)
 have HMU:=hid (fun (j:Nat) (hj:j<512)=>show (ad+j*2 ^ (12+9*k))%2 ^ (12+9*k)=0∧ad+j*2 ^ (12+9*k)+2 ^ (12+9*k)≤281474976710656 by
  refine ⟨?_,?_⟩
  ·rw [Nat.add_mul_mod_self_right]
   rw [hM] at had0
   exact Nat.mod_eq_zero_of_dvd (Nat.dvd_trans (Nat.dvd_mul_right _ 512) (Nat.dvd_of_mod_eq_zero had0))
  ·have h1:(j+1)*2 ^ (12+9*k)≤512*2 ^ (12+9*k):=Nat.mul_le_mul_right _ hj
   rw [Nat.add_mul,Nat.one_mul] at h1
   rw [hM] at had
   omega)
 have HAD:=hid (fun (j:Nat) (hj:j<512)=>show bits BinOp.or .u64 (ad:Int) (IntKind.u64.wrap ((j:Int)*2 ^ (12+9*k)))=((ad+j*2 ^ (12+9*k):Nat):Int) by
  have h1:=(HMU.out j hj).2
  have e1:((j:Int)*2 ^ (12+9*k))=((j*2 ^ (12+9*k):Nat):Int):=by rw [Int.natCast_mul];simp
  rw [e1,IntWalk.u64_in _ (by omega),bits_or_u64_nat _ _ (by omega) (by omega)]
  congr 1
  have hlt:j*2 ^ (12+9*k)<2 ^ (12+9*(k+1)):=by
   rw [hM,Nat.mul_comm]
   exact Nat.mul_lt_mul_of_pos_left hj hM0
  have hd:=Nat.div_add_mod ad (2 ^ (12+9*(k+1)))
  rw [had0,Nat.add_zero] at hd
  rw [← hd,← Nat.two_pow_add_eq_or_of_lt hlt])
 clear had0 had hM hM0
 clear hf hf0 hlen hLb hTk hE hLL hp hb hB K SG LG hh hT H hLw hL4 IH
 go_enter Tryz.func96,Tryz.ntmps96
 go_wp2_with fail
 refine (HSE.out).mono ?_
 rintro e w1 ⟨rfl,hsp⟩
 have HSP:=hid hsp
 have HB1:=hid (hsp.low HK.out HP.out HBs.out HB.out)
 clear hsp
 go_wp2_with fail
 refine (HPO.out w1 HB1.out).mono ?_
 rintro e w2 ⟨rfl,rfl⟩
 go_wp2_with fail
 refine (HLD.out w1 HB1.out).mono ?_
 rintro e w2 ⟨v,rfl,ho,hb2⟩
 obtain ⟨a,ca,rfl,hcl,_,_,_,hG⟩:=own_cel2 ho
 obtain ⟨G0,off,rfl,hcc⟩:=hcl.some_of (by rw [List.length_map,HL4.out];omega)
 obtain ⟨G,hGe,hG1,hG2⟩:=hG _ rfl
 obtain ⟨rfl,rfl⟩:G0=G∧off=0:=by cases hGe;exact ⟨rfl,rfl⟩
 have HBY:=hid (show Byt w2 (some ⟨G0,0,none⟩) 4096 L from ⟨HL4.out,fun i hi=>⟨G0,0,rfl,by rw [hcc i (by simpa using hi),List.getElem_map];rfl⟩⟩)
 have HG:=hid (⟨hG1,hG2⟩:w1.heap.size≤G0∧G0<w2.heap.size)
 have HB2:=hid (show Below B wb w2 from HB1.out.trans (hb2.mono (by have:=HB1.out.size;have:=HBs.out;omega)))
 have HSP2:=hid (show ∃ o',P (l++[.inl f]) o' w2∧o'≠some G0∧(o'=o∨∀ k,o'=some k→W.heap.size≤k)∧EX (fun k=>k=bo∨o=some k) W w2 from by
  obtain ⟨o',h1,h2⟩:=HSP.out.next
  refine ⟨o',HK.out.below _ _ _ _ h1 hb2,fun e=>?_,h2,HSP.out.ex.trans (EX.of_below hb2)⟩
  have:=(HK.out.lo _ _ _ h1 G0 e).2
  omega)
 have HBO:=hid (show bo≠G0 from fun e=>by
  have h1:=HK.out.box _ _ _ HP.out
  have h2:=HSP.out.ex.size
  omega)
 clear ho hcl hcc hG hGe hG1 hG2 hb2 HSP
 go_wp2_with fail
 go_loopw [28] (fun i wr=>∃ j:Nat,j≤512∧i=.int .u64 j∧Byt wr (some ⟨G0,0,none⟩) 4096 L∧Below B wb wr∧G0<wr.heap.size∧∃ o',P (l++[.inl f]++(List.range j).flatMap fun i=>evT k (ad+i*2 ^ (12+9*k)) (kids i)) o' wr∧o'≠some G0∧(o'=o∨∀ k,o'=some k→W.heap.size≤k)∧EX (fun k=>k=bo∨o=some k) W wr) (fun i _=>512-(intOf i).toNat)
 case atStart=>exact ⟨0,by omega,rfl,HBY.out,HB2.out,HG.out.2,by simpa using HSP2.out⟩
 case round=>
  obtain ⟨j,hj,rfl,hby,hbw,hgw,o',hpo,hne,hoo,hex⟩:=hrel
  have HBYR:=hid hby
  have HBW:=hid hbw
  have HGW:=hid hgw
  have HPO':=hid hpo
  have HNE:=hid hne
  have HOO:=hid hoo
  have HEX:=hid hex
  clear hby hbw hgw hpo hne hoo hex
  by_cases hlt:j<512
  ·have d1:decide ((j:Int)<512)=true:=by simp;omega
   have d1n:decide (j<512)=true:=by simp;omega
   have ew1:IntKind.u64.wrap ((j:Int)*8)=(j:Int)*8:=IntWalk.u64_in _ (by omega)
   have HGT:=hid (Wd.get_any (some ⟨G0,0,none⟩) 4096 ca ((j:Int)*8) 8 L wr (HSZ.out wr HBW.out) (by omega) HBYR.out (by omega))
   have hchk:Wd.chk ((4096:Nat):Int) ((j:Int)*8) 8=0:=by
    unfold Wd.chk
    rw [if_pos (by decide),show Wd.insB ((j:Int)*8) 8 ((4096:Nat):Int)=true by unfold Wd.insB;simp;omega,if_pos rfl]
   have hwg:Wd.wgetV L ((j:Int)*8) 8=((wdT (kids j)%18446744073709551616:Nat):Int):=by
    unfold Wd.wgetV
    rw [HL4.out,hchk,if_pos rfl,show ((j:Int)*8).toNat=8*j by omega,show (8:Int).toNat=8 from rfl,HLW.out j hlt,Wd.le_leB]
   rw [hchk,hwg] at HGT
   clear hchk hwg
   obtain ⟨A,hA⟩:∃ A,A=ad+j*2 ^ (12+9*k):=⟨_,rfl⟩
   have eadr:bits BinOp.or .u64 (ad:Int) (IntKind.u64.wrap ((j:Int)*2 ^ (12+9*k)))=(A:Int):=by rw [hA];exact HAD.out j hlt
   have HEV:=hid (show (List.range (j+1)).flatMap (fun i=>evT k (ad+i*2 ^ (12+9*k)) (kids i))=(List.range j).flatMap (fun i=>evT k (ad+i*2 ^ (12+9*k)) (kids i))++evT k A (kids j) by
    rw [List.range_succ,List.flatMap_append,hA]
    simp)
   have HLN:=hid (show (l++[Sum.inl f]++(List.range j).flatMap fun i=>evT k (ad+i*2 ^ (12+9*k)) (kids i)).length+(evT k A (kids j)).length≤1000000 by
    have h1:=HLL.out
    have h2:(evT (k+1) ad (.nd f kids)).length=1+((List.range 512).flatMap fun i=>evT k (ad+i*2 ^ (12+9*k)) (kids i)).length:=by
     show (Sum.inl f::(List.range 512).flatMap fun i=>evT k (ad+i*2 ^ (12+9*k)) (kids i)).length=_
     rw [List.length_cons];omega
    have h3:=flat_mono (fun i=>evT k (ad+i*2 ^ (12+9*k)) (kids i)) (show j+1≤512 by omega)
    rw [HEV.out,List.length_append] at h3
    simp only [List.length_append,List.length_cons,List.length_nil]
    omega)
   have HAM:=hid (HMU.out j hlt)
   rw [← hA] at HAM
   have HHJ:=hid (HHH.out j hlt).2
   have HTJ:=hid (fun q (hq:q∈nodesT k (kids j))=>HTT.out q (kid_nodes hlt hq))
   obtain ⟨l2,hl2⟩:∃ l2,l2=(l++[Sum.inl f]++(List.range j).flatMap fun i=>evT k (ad+i*2 ^ (12+9*k)) (kids i)):=⟨_,rfl⟩
   have HL2:=hid hl2
   rw [← hl2] at HPO' HLN
   clear hA hl2
   cases hkj:kids j with
   | no=>
    rw [hkj] at HGT HEV
    simp only [wdT] at HGT
    clear hkj HLN HHJ HTJ
    go_wp2_with fail
    refine (HGT.out).mono ?_
    rintro e w3 ⟨rfl,rfl⟩
    go_wp2_with fail
    go_roundw
    case rel=>exact ⟨j+1,by omega,by go_num,HBYR.out,HBW.out,HGW.out,o',by rw [HEV.out,evT_no,List.append_nil,← HL2.out];exact HPO'.out,HNE.out,HOO.out,HEX.out⟩
    case measure=>simp [intOf];omega
   | lf a q b=>
    rw [hkj] at HGT HEV HLN HHJ
    have hk0:k=0:=by
     cases k with
     | zero=>rfl
     | succ k=>exact HHJ.out.elim
    have hq8:a<s.fs.length∧q≤7:=by
     cases k with
     | zero=>exact HHJ.out
     | succ k=>exact HHJ.out.elim
    have hev:evT k A (.lf a q b)=[.inr (A,a,q,b)]:=by rw [hk0];rfl
    rw [hev] at HEV HLN
    have d3:(((k:Int)+1)==(1:Int))=true:=by simp;omega
    have hq7:=hq8.2
    have ha:a<1048576:=by have:=hq8.1;have:=HFL.out;omega
    have hxl:=wdT_lt (cp:=b) ha hq7
    have hxp:0<wdT (.lf a q b):=by rw [wdT_lf];omega
    have HLGJ:=hid (HLG.out A a q b l2 o' wr HPO'.out HBW.out (by have:=HLN.out;omega) ha hq7)
    rw [Nat.mod_eq_of_lt (by omega)] at HGT
    have d2:(((wdT (.lf a q b):Nat):Int)==(0:Int))=false:=by simp;omega
    generalize wdT (.lf a q b)=X at *
    clear hkj HHJ HTJ hq7 ha hxl hxp hk0 hq8 hev
    go_wp2_with fail
    refine (HGT.out).mono ?_
    rintro e w3 ⟨rfl,rfl⟩
    go_wp2_with fail
    refine (HLGJ.out).mono ?_
    rintro e w3 ⟨rfl,hsp⟩
    have HSP3:=hid hsp
    clear hsp
    go_wp2_with fail
    go_roundw
    case rel=>
     obtain ⟨o3,hp3,ho3⟩:=HSP3.out.next
     refine ⟨j+1,by omega,by go_num,HBYR.out.sp HSP3.out.ex HGW.out HBO.out HNE.out,HSP3.out.low HK.out HPO'.out HBs.out HBW.out,Nat.lt_of_lt_of_le HGW.out HSP3.out.ex.size,o3,?_,?_,SP.next_of ho3 HOO.out HEX.out.size,(SP.trans HOO.out HEX.out HSP3.out).ex⟩
     ·rw [HEV.out,← List.append_assoc,← HL2.out];exact hp3
     ·intro e
      rcases ho3 with rfl|ho3
      ·exact HNE.out e
      ·have:=ho3 G0 e
       have:=HGW.out
       omega
    case measure=>simp [intOf];omega
   | nd g1 kk=>
    rw [hkj] at HGT HEV HLN HHJ HTJ
    have hk1:1≤k:=by
     cases k with
     | zero=>exact HHJ.out.elim
     | succ k=>omega
    have hg1:g1<1024:=by
     cases k with
     | zero=>omega
     | succ k=>
      obtain ⟨h1,_⟩:=HTJ.out g1 (List.mem_cons_self ..)
      have:=HFL.out
      omega
    have HIHJ:=hid (HIH.out (k:Int) A g1 kk l2 o' wr rfl hk1 HHJ.out HTJ.out HAM.out.1 HAM.out.2 HPO'.out HBW.out HLN.out)
    have HFO:=hid (frameOf_any (g1*4096+1) (by omega) wr)
    rw [show (g1*4096+1)/4096=g1 by omega] at HFO
    rw [show wdT (.nd g1 kk)=g1*4096+1 from rfl,Nat.mod_eq_of_lt (by omega)] at HGT
    obtain ⟨X,hX⟩:∃ X,X=g1*4096+1:=⟨_,rfl⟩
    rw [← hX] at HGT HFO
    have d2:((X:Int)==(0:Int))=false:=by simp;omega
    have d3:(((k:Int)+1)==(1:Int))=false:=by simp;omega
    clear hkj HHJ HTJ hk1 hg1 hX
    go_wp2_with fail
    refine (HGT.out).mono ?_
    rintro e w3 ⟨rfl,rfl⟩
    go_wp2_with fail
    refine (HFO.out).mono ?_
    rintro e w3 ⟨rfl,rfl⟩
    go_wp2_with fail
    refine (HIHJ.out).mono ?_
    rintro e w3 ⟨rfl,hsp⟩
    have HSP3:=hid hsp
    clear hsp
    go_wp2_with fail
    go_roundw
    case rel=>
     obtain ⟨o3,hp3,ho3⟩:=HSP3.out.next
     refine ⟨j+1,by omega,by go_num,HBYR.out.sp HSP3.out.ex HGW.out HBO.out HNE.out,HSP3.out.low HK.out HPO'.out HBs.out HBW.out,Nat.lt_of_lt_of_le HGW.out HSP3.out.ex.size,o3,?_,?_,SP.next_of ho3 HOO.out HEX.out.size,(SP.trans HOO.out HEX.out HSP3.out).ex⟩
     ·rw [HEV.out,← List.append_assoc,← HL2.out];exact hp3
     ·intro e
      rcases ho3 with rfl|ho3
      ·exact HNE.out e
      ·have:=ho3 G0 e
       have:=HGW.out
       omega
    case measure=>simp [intOf];omega
  ·have d1:decide ((j:Int)<512)=false:=by simp;omega
   have d1n:decide (j<512)=false:=by simp;omega
   obtain rfl:j=512:=by omega
   go_wp2_with fail
   refine bodyPost_end (results_none rfl _ _ _) rfl ⟨rfl,⟨o',?_,HOO.out⟩,HEX.out⟩
   have:=HPO'.out
   rw [List.append_assoc] at this
   exact this
set_option maxRecDepth 100000 in
set_option maxHeartbeats 2000000 in
theorem through_any (H:TW w0 F t p g h c m tb s ws root fr wb)(hB:wb.heap.size=B)(K:OK B bo P)(hS:Enters fS)(hL:Enters fL)(SG:SeenGo B bo P wb fS cS')(LG:LeafAt B bo P wb fL cL):∀ (k:Nat),k≤3→
 ∀ (lv:Int) (ad f:Nat) (kids:Nat→Tr) (l:List EV) (o:Option Nat) (W:World),lv=(k:Int)+1→Holds s.fs (k+1) (.nd f kids)→(∀ q∈nodesT (k+1) (.nd f kids),TakenF q s)→ad%2 ^ (12+9*(k+1))=0→ad+2 ^ (12+9*(k+1))≤281474976710656→P l o W→Below B wb W→l.length+(evT (k+1) ad (.nd f kids)).length≤1000000→
 Calls Tryz.prog 96 #[.pointer (some ⟨tb,0,none⟩),.int .i64 (f:Int),.int .i64 lv,.int .u64 (ad:Int),.func (.func fS) #[] cS',.func (.func fL) #[] cL] W fun e w'=>e=.returned (.tuple #[])∧SP bo P o W (l++evT (k+1) ad (.nd f kids)) w':=by
 intro k
 induction k with
 | zero=>
  intro hk lv ad f kids l o W hlv hh hT h1 h2 hp hb hl
  exact through_step H hB K hS hL SG LG 0 hk (fun _ _ _ _ _ _ _ _ h=>absurd h (Nat.not_succ_le_zero 0)) lv ad f kids l o W hlv hh hT h1 h2 hp hb hl
 | succ k ih=>
  intro hk lv ad f kids l o W hlv hh hT h1 h2 hp hb hl
  have ih':=ih (Nat.le_of_succ_le hk)
  exact through_step H hB K hS hL SG LG (k+1) hk (fun lv' ad' g1 kk l' o' W' e _ hh' hT' h1' h2' hp' hb' hl'=>ih' lv' ad' g1 kk l' o' W' (e.trans (Int.natCast_succ k)) hh' hT' h1' h2' hp' hb' hl') lv ad f kids l o W hlv hh hT h1 h2 hp hb hl
end
abbrev LF:=Nat × Nat × Nat × Bool
def evN (l:List EV):List Nat:=l.filterMap fun x=>match x with
 | .inl f=>some f
 | .inr _=>none
def evL (l:List EV):List LF:=l.filterMap fun x=>match x with
 | .inl _=>none
 | .inr y=>some y
theorem evN_app (l m:List EV):evN (l++m)=evN l++evN m:=List.filterMap_append
theorem evL_app (l m:List EV):evL (l++m)=evL l++evL m:=List.filterMap_append
theorem evN_flat (h:Nat→List EV):∀ l:List Nat,evN (l.flatMap h)=l.flatMap fun i=>evN (h i)
 | []=>rfl
 | i::l=>by rw [List.flatMap_cons,evN_app,evN_flat h l,List.flatMap_cons]
theorem evL_flat (h:Nat→List EV):∀ l:List Nat,evL (l.flatMap h)=l.flatMap fun i=>evL (h i)
 | []=>rfl
 | i::l=>by rw [List.flatMap_cons,evL_app,evL_flat h l,List.flatMap_cons]
theorem evN_is:∀ (k ad:Nat) (tr:Tr),evN (evT k ad tr)=nodesT k tr
 | 0,_,.no=>rfl
 | 0,_,.lf _ _ _=>rfl
 | 0,_,.nd _ _=>rfl
 | _+1,_,.no=>rfl
 | _+1,_,.lf _ _ _=>rfl
 | k+1,ad,.nd f kids=>by
  show f::evN ((List.range 512).flatMap _)=f::_
  rw [evN_flat]
  congr 2
  funext i
  exact evN_is k _ _
/-- The leaves of a tree, each with its address. -/
def leavesT (k ad:Nat)(tr:Tr):List LF:=evL (evT k ad tr)
theorem leavesT_nd (k ad f:Nat)(kids:Nat→Tr):leavesT (k+1) ad (.nd f kids)=(List.range 512).flatMap fun i=>leavesT k (ad+i*2 ^ (12+9*k)) (kids i):=by
 have h:evT (k+1) ad (.nd f kids)=[Sum.inl f]++(List.range 512).flatMap fun i=>evT k (ad+i*2 ^ (12+9*k)) (kids i):=by rw [evT,List.singleton_append]
 have h2:evL [Sum.inl f]=[]:=rfl
 unfold leavesT
 rw [h,evL_app,evL_flat,h2,List.nil_append]
theorem leaves_lf:∀ (k ad:Nat) (tr:Tr),(leavesT k ad tr).map (fun y=>y.2.1)=lfT k tr
 | 0,_,.no=>rfl
 | 0,_,.lf _ _ _=>rfl
 | 0,_,.nd _ _=>rfl
 | _+1,_,.no=>rfl
 | _+1,_,.lf _ _ _=>rfl
 | k+1,ad,.nd f kids=>by
  rw [leavesT_nd,List.map_flatMap]
  show _=(List.range 512).flatMap fun i=>lfT k (kids i)
  congr 1
  funext i
  exact leaves_lf k _ _
theorem ev_split:∀ l:List EV,l.length=(evN l).length+(evL l).length
 | []=>rfl
 | .inl _::l=>by
  have:=ev_split l
  show l.length+1=((evN l).length+1)+(evL l).length
  omega
 | .inr _::l=>by
  have:=ev_split l
  show l.length+1=(evN l).length+((evL l).length+1)
  omega
theorem ev_len (k ad:Nat)(tr:Tr):(evT k ad tr).length=(nodesT k tr).length+(lfT k tr).length:=by
 rw [ev_split,evN_is,← leaves_lf k ad tr,List.length_map]
 rfl
def putC (y:LF):List Value:=[.int .u64 (y.1:Int),.int .i64 (y.2.1:Int),.int .u8 (y.2.2.1:Int),.bool y.2.2.2]
def nI9 (k:Nat):Value:=.int .i64 (k:Int)
/-- The list of leaves of the call's own, in its box. -/
def PA (B bo:Nat)(l:List EV)(o:Option Nat)(w:World):Prop:=
 ∃ ga gc,Row w bo 84 [.slice ga (evL l).length gc]∧w.ownsRow B 166 4 (.slice ga (evL l).length gc) (evL l).length ((evL l).map putC).flatten∧o=(Value.slice ga (evL l).length gc).ownBlock∧B≤bo∧(∀ k,o=some k→k≠bo)
def PN (B bo:Nat)(l:List EV)(o:Option Nat)(w:World):Prop:=
 ∃ ga gc,Row w bo 44 [.slice ga (evN l).length gc]∧w.ownsRow B 3 1 (.slice ga (evN l).length gc) (evN l).length ((evN l).map nI9)∧o=(Value.slice ga (evN l).length gc).ownBlock∧B≤bo∧(∀ k,o=some k→k≠bo)
theorem PA.ok {B bo:Nat}(h:B≤bo):OK B bo (PA B bo):=by
 refine ⟨h,?_,?_,?_⟩
 ·rintro l o w ⟨ga,gc,hr,ho,rfl,_,_⟩ k e
  exact ho.lt k e
 ·rintro l o w ⟨ga,gc,hr,_⟩
  exact hr.lt
 ·rintro l o w w' ⟨ga,gc,hr,ho,e,h1,h2⟩ hb
  exact ⟨ga,gc,hr.below hb hr.lt,own_below ho hb,e,h1,h2⟩
theorem PN.ok {B bo:Nat}(h:B≤bo):OK B bo (PN B bo):=by
 refine ⟨h,?_,?_,?_⟩
 ·rintro l o w ⟨ga,gc,hr,ho,rfl,_,_⟩ k e
  exact ho.lt k e
 ·rintro l o w ⟨ga,gc,hr,_⟩
  exact hr.lt
 ·rintro l o w w' ⟨ga,gc,hr,ho,e,h1,h2⟩ hb
  exact ⟨ga,gc,hr.below hb hr.lt,own_below ho hb,e,h1,h2⟩
theorem SP.same {bo:Nat}{P:List EV→Option Nat→World→Prop}{o:Option Nat}{W w':World}{l':List EV}(hp:P l' o w')(hb:Below W.heap.size W w'):SP bo P o W l' w':=⟨⟨o,hp,.inl rfl⟩,EX.of_below hb⟩
theorem enters_all1:Enters 97:=fun _ _=>by kernel_rfl
theorem enters_all2:Enters 98:=fun _ _=>by kernel_rfl
theorem enters_nod1:Enters 99:=fun _ _=>by kernel_rfl
theorem enters_nod2:Enters 100:=fun _ _=>by kernel_rfl
set_option maxRecDepth 100000 in
theorem all1_any (B bo:Nat)(wb:World):SeenGo B bo (PA B bo) wb 97 #[]:=by
 intro f l o W hp _ _
 have HP:=hid (show PA B bo (l++[.inl f]) o W from by
  obtain ⟨ga,gc,h1,h2,h3⟩:=hp
  have e:evL (l++[.inl f])=evL l:=by rw [evL_app];exact List.append_nil _
  unfold PA
  rw [e]
  exact ⟨ga,gc,h1,h2,h3⟩)
 clear hp
 show Calls _ _ #[.int .i64 (f:Int)] _ _
 go_enter Tryz.func97,Tryz.ntmps97
 go_wp2_with fail
 exact bodyPost_end (results_none rfl _ _ _) rfl ⟨rfl,SP.same HP.out (Below.refl _ _)⟩
set_option maxRecDepth 100000 in
theorem nod2_any (B bo:Nat)(wb:World):LeafAt B bo (PN B bo) wb 100 #[]:=by
 intro ad a q b l o W hp _ _ _ _
 have HP:=hid (show PN B bo (l++[.inr (ad,a,q,b)]) o W from by
  obtain ⟨ga,gc,h1,h2,h3⟩:=hp
  have e:evN (l++[.inr (ad,a,q,b)])=evN l:=by rw [evN_app];exact List.append_nil _
  unfold PN
  rw [e]
  exact ⟨ga,gc,h1,h2,h3⟩)
 clear hp
 generalize wdT (.lf a q b)=X
 show Calls _ _ #[.int .u64 (ad:Int),.int .u64 (X:Int)] _ _
 go_enter Tryz.func100,Tryz.ntmps100
 go_wp2_with fail
 exact bodyPost_end (results_none rfl _ _ _) rfl ⟨rfl,SP.same HP.out (Below.refl _ _)⟩
theorem info_int9:(Tryz.prog.info? 3).map (fun i=>(i.zero,i.size,i.bytes))=some (some (.int .i64 0),1,8):=by kernel_rfl
theorem info_put9:(Tryz.prog.info? 166).map (fun i=>(i.zero,i.size,i.bytes))=some (some (.agg #[.int .u64 0,.int .i64 0,.int .u8 0,.bool false]),4,24):=by kernel_rfl
/-- append(v, x), numbers. -/
theorem wpList_apI9 {w:World}{ops:Array Oper}{rest:List Oper}{o:Oper}{a:Act}{Q:Exit→Act→World→Prop}(hgd:o.guard=none)(s x:Operand)
 (ho:o.op=.call { callee:=.builtin .append,args:=#[s,x],argTypes:=#[44,44] })
 (base:Nat) (v:Value) (n:Nat) (xs news:List Value) (hs:a.eval s=v) (ad:Addr) (m c:Nat) (hx:a.eval x=.slice (some ad) m c) (hown:w.ownsRow base 3 1 v n xs) (hy:Cel w (some ad) m news) (hone:∀ u∈news,u.oneCell'=true) (hn:n+m≤1000000000) (hbase:base≤w.heap.size)
 (h:∀ v' w',w'.ownsRow base 3 1 v' (n+m) (xs++news)→w.grownBy w' v.ownBlock→(v'.ownBlock=v.ownBlock∨v'.ownBlock=some w.heap.size)→wpList Tryz.prog ops Q rest (a.put o.dst v') w'):
 wpList Tryz.prog ops Q (o::rest) a w:=by
 obtain ⟨i0,hi0,hz0,hz1,hz2⟩:=info_parts info_int9
 refine wpList_append_own_at w hgd s x _ ho base _ i0 _ 1 8 Tryz.underlying44 hi0 hz0 hz1 hz2 rfl (by decide) v n _ hs hown ad m c news hx (by have:=hy.hlen;omega) hy.news hone (by unfold maxLen;omega) (by omega) hbase ?_
 intro v' w' h1 h2 _ h4
 exact h v' w' h1 h2 h4
theorem own_hd9 {w:World}{base E size n:Nat}{v:Value}{xs:List Value}(h:w.ownsRow base E size v n xs):∃ a c,v=.slice a n c:=by
 rcases h.2 with ⟨rfl,rfl⟩|⟨g,cap,cur,rfl,_⟩
 ·exact ⟨_,_,rfl⟩
 ·exact ⟨_,_,rfl⟩
theorem own_row_neK2 {w:World}{base e size n b T:Nat}{v:Value}{xs cs:List Value}(h:w.ownsRow base e size v n xs)(hr:Row w b T cs)(hT:T≠e):some b≠v.ownBlock:=by
 rcases h.2 with ⟨rfl,_⟩|⟨g,cap,cur,rfl,_,hg,_⟩
 ·exact fun e=>by cases e
 ·intro e
  simp only [Value.ownBlock,Option.some.injEq] at e
  subst e
  have:=hr.heap
  rw [hg] at this
  simp at this
  exact hT this.2.symm
theorem ob_ne {w:World}{base E size n b T:Nat}{v:Value}{xs cs:List Value}(h:w.ownsRow base E size v n xs)(hr:Row w b T cs)(hT:T≠E):∀ k,v.ownBlock=some k→k≠b:=by
 rintro k e rfl
 rcases h.2 with ⟨rfl,_⟩|⟨g,cap,cur,rfl,_,hg,_⟩
 ·cases e
 ·simp only [Value.ownBlock,Option.some.injEq] at e
  subst e
  have:=hr.heap
  rw [hg] at this
  simp at this
  exact hT this.2.symm
set_option maxRecDepth 100000 in
set_option maxHeartbeats 4000000 in
theorem nod1_any (B bo:Nat)(wb:World)(hbB:B≤bo)(hwB:wb.heap.size=B):SeenGo B bo (PN B bo) wb 99 #[.pointer (some ⟨bo,0,none⟩)]:=by
 intro f l o W hp hbW hl
 obtain ⟨ga,gc,hr,ho,rfl,hb0,hne⟩:=hp
 have hn:(evN l).length≤1000000:=by have:=ev_split l;omega
 have HB:=hid (⟨hbB,by have:=hbW.size;omega⟩:B≤bo∧B≤W.heap.size)
 have e:evN (l++[.inl f])=evN l++[f]:=by rw [evN_app];rfl
 have HE:=hid (show PN B bo (l++[.inl f])=PN B bo (l++[.inl f]) from rfl)
 have HEV:=hid e
 generalize evN l=L at *
 have hc:=hr.cell 0 (by simp)
 simp only [List.getElem_cons_zero] at hc
 have hbl:=hr.lt
 have hfz:=hr.frozen 0
 have HCE:=hid (show Cel (W.alloc (.cells #[.int .i64 (f:Int)] 3)) (some ⟨W.heap.size,0,none⟩) 1 [nI9 f] from by
  have hh:=Row.new W 3 [nI9 f]
  exact ⟨rfl,fun i hi=>⟨_,0,rfl,by rw [Nat.zero_add];exact hh.cell i hi⟩⟩)
 have HOA:=hid (show (W.alloc (.cells #[.int .i64 (f:Int)] 3)).ownsRow B 3 1 (.slice ga L.length gc) L.length (L.map nI9) from ho.alloc _)
 have HON:=hid (show ∀ u∈[nI9 f],u.oneCell'=true from fun u hu=>by rw [List.mem_singleton.1 hu];rfl)
 have HBB:=hid (show B≤(W.alloc (.cells #[.int .i64 (f:Int)] 3)).heap.size by rw [World.size_alloc];have:=HB.out.2;omega)
 have HRR:=hid hr
 have HNE:=hid hne
 have HNL:=hid hn
 clear hr ho hn hne hb0 hbB hbW e hl HE
 show Calls _ _ #[.int .i64 (f:Int),.pointer (some ⟨bo,0,none⟩)] _ _
 go_enter Tryz.func99,Tryz.ntmps99
 go_wp2_with (at_builtin;go_must (refine wpList_apI9 rfl _ _ rfl B (.slice ga L.length gc) L.length (L.map nI9) [nI9 f] rfl ⟨W.heap.size,0,none⟩ 1 1 rfl HOA.out HCE.out HON.out (by have:=HNL.out;omega) HBB.out ?_;intro v' w3 hown hgrow hnew;obtain ⟨av,cv,rfl⟩:=own_hd9 hown;have HOw3:=hid hown;have HGw3:=hid hgrow;have HNw3:=hid hnew;have hrw:=(HRR.out.alloc (.cells #[.int .i64 (f:Int)] 3)).grown hgrow (own_row_ne HOA.out (HRR.out.alloc (.cells #[.int .i64 (f:Int)] 3)) (by decide));have hwl:=hrw.lt;have hwf:=hrw.frozen 0;have hwc:=hrw.cell' 0;have HRW:=hid hrw;clear hown hgrow hnew hrw))
 have hne3:=ob_ne HOw3.out HRW.out (by decide)
 have hbo:=HRR.out.lt
 refine bodyPost_end (results_none rfl _ _ _) rfl ⟨rfl,⟨(Value.slice av (L.length+1) cv).ownBlock,?_,?_⟩,?_⟩
 ·unfold PN
  rw [HEV.out,List.length_append,List.length_singleton,List.map_append]
  refine ⟨av,cv,HRW.out.set 0 _,own_setOther HOw3.out (fun e=>hne3 bo e.symm rfl) _,rfl,HB.out.1,hne3⟩
 ·rcases HNw3.out with e|e
  ·exact .inl e
  ·refine .inr fun k hk=>?_
   rw [e,World.size_alloc] at hk
   have:=Option.some.inj hk
   omega
 ·refine ((EX.of_below (bal _)).trans (EX.of_grown HGw3.out fun k e _=>.inr e)).set (g:=bo) (.inl (.inl rfl)) 0 _
set_option maxRecDepth 100000 in
set_option maxHeartbeats 4000000 in
theorem all2_any (B bo:Nat)(wb:World)(hbB:B≤bo)(hwB:wb.heap.size=B):LeafAt B bo (PA B bo) wb 98 #[.pointer (some ⟨bo,0,none⟩)]:=by
 intro ad a q b l o W hp hbW hl ha hq
 obtain ⟨ga,gc,hr,ho,rfl,hb0,hne⟩:=hp
 have hn:(evL l).length≤1000000:=by have:=ev_split l;omega
 have HB:=hid (⟨hbB,by have:=hbW.size;omega⟩:B≤bo∧B≤W.heap.size)
 have e:evL (l++[.inr (ad,a,q,b)])=evL l++[(ad,a,q,b)]:=by rw [evL_app];rfl
 have HEV:=hid e
 generalize evL l=L at *
 have HLO:=hid (leafOf_any a q b ha hq W.drew)
 generalize wdT (.lf a q b)=X at *
 obtain ⟨i0,hi0,hz0,hz1,hz2⟩:=info_parts info_put9
 have HI0:=hid (⟨hi0,hz0,hz1,hz2⟩:_∧_∧_∧_)
 have hS:W.drew.cell? ⟨bo,0,none⟩=some (.slice ga L.length gc):=hr.cell 0 (by simp)
 have HRR:=hid hr
 have HOW:=hid ho
 have HNE:=hid hne
 have HNL:=hid hn
 clear hr ho hn hne hb0 hbB hbW e hl ha hq hi0 hz0 hz1 hz2
 show Calls _ _ #[.int .u64 (ad:Int),.int .u64 (X:Int),.pointer (some ⟨bo,0,none⟩)] _ _
 go_enter Tryz.func98,Tryz.ntmps98
 go_wp2_with fail
 refine region_sk 7 (fun ww:World=>ww.cell? ⟨bo,0,none⟩=some (.slice ga L.length gc)) (by kernel_rfl) (fun inv=>?_)
 refine sk_take (i:=0) (v:=?_) (some 5) rfl rfl (by kernel_rfl) (by kernel_rfl) (by decide) (by decide) inv (by kernel_rfl) (by kernel_rfl) (fun _ _ _ h=>h) (Or.inl ⟨by rfl,?_⟩) hS (fun inv=>?_)
 rotate_left
 ·intro ww hSw
  go_simp
  try with_reducible rfl
 simp only [Act.put,List.setIfInBounds_toArray,List.set_cons_zero,List.set_cons_succ]
 refine sk_take (i:=1) (v:=?_) (some 6) rfl rfl (by kernel_rfl) (by kernel_rfl) (by decide) (by decide) inv (by kernel_rfl) (by kernel_rfl) (fun _ _ _ h=>h) (Or.inl ⟨by rfl,?_⟩) hS (fun inv=>?_)
 rotate_left
 ·intro ww hSw
  go_simp
  try with_reducible rfl
 simp only [Act.put,List.setIfInBounds_toArray,List.set_cons_zero,List.set_cons_succ]
 refine sk_take (i:=2) (v:=?_) (some 7) rfl rfl (by kernel_rfl) (by kernel_rfl) (by decide) (by decide) inv (by kernel_rfl) (by kernel_rfl) (fun _ _ _ h=>h) (Or.inl ⟨by rfl,?_⟩) hS (fun inv=>?_)
 rotate_left
 ·intro ww hSw
  go_simp
  try with_reducible rfl
 simp only [Act.put,List.setIfInBounds_toArray,List.set_cons_zero,List.set_cons_succ]
 refine sk_one (i:=3) (by kernel_rfl) rfl inv (fun K hK=>?_)
 rw [if_pos (by rfl)]
 go_simp
 refine HLO.out.mono ?_
 rintro e' w1 ⟨rfl,hb1⟩
 have HB1:=hid (St.step (St.drew W) hb1)
 have HR1:=hid (HRR.out.below HB1.out HRR.out.lt)
 have hS:w1.cell? ⟨bo,0,none⟩=some (.slice ga L.length gc):=HR1.out.cell 0 (by simp)
 clear hb1
 refine hK.out _ _ (fun _=>hS) (fun inv=>?_)
 have inv:=inv (by decide)
 clear hK K
 try simp only [Act.put,List.setIfInBounds_toArray,List.set_cons_zero,List.set_cons_succ]
 refine sk_one (i:=4) (by kernel_rfl) rfl inv (fun K hK=>?_)
 rw [if_pos (by rfl)]
 go_simp
 refine hK.out _ _ (fun _=>hS) (fun inv=>?_)
 have inv:=inv (by decide)
 clear hK K
 try simp only [Act.put,List.setIfInBounds_toArray,List.set_cons_zero,List.set_cons_succ]
 refine sk_one (i:=5) (by kernel_rfl) rfl inv (fun K hK=>?_)
 rw [if_pos (by rfl)]
 go_simp
 obtain ⟨w2,hw2⟩:∃ w2,w2=w1.alloc (.cells #[.int .u64 (ad:Int),.int .i64 (a:Int),.int .u8 (q:Int),.bool b] 166):=⟨_,rfl⟩
 have HB2:=hid (show Below w1.heap.size w1 w2 by rw [hw2];exact bal _)
 have HNB:=hid (show w2.heap[w1.heap.size]?=some (.cells #[.int .u64 (ad:Int),.int .i64 (a:Int),.int .u8 (q:Int),.bool b] 166) by rw [hw2];exact (Row.new w1 166 [.int .u64 (ad:Int),.int .i64 (a:Int),.int .u8 (q:Int),.bool b]).heap)
 have HR2:=hid (HR1.out.below HB2.out HR1.out.lt)
 have HW2:=hid hw2
 have hS:w2.cell? ⟨bo,0,none⟩=some (.slice ga L.length gc):=HR2.out.cell 0 (by simp)
 clear hw2
 rw [← HW2.out]
 refine hK.out _ _ (fun _=>hS) (fun inv=>?_)
 have inv:=inv (by decide)
 clear hK K
 try simp only [Act.put,List.setIfInBounds_toArray,List.set_cons_zero,List.set_cons_succ]
 have HB12:=hid (show Below W.heap.size W w2 from HB1.out.trans (HB2.out.mono HB1.out.size))
 have HOW2:=hid (own_below HOW.out HB12.out)
 refine sk_one (i:=6) (by kernel_rfl) rfl inv (fun K hK=>?_)
 refine step_append_lies _ (by rfl) _ _ 84 (by rfl) B 166 i0 _ 4 24 Tryz.underlying84 HI0.out.1 HI0.out.2.1 HI0.out.2.2.1 HI0.out.2.2.2 rfl (by decide) (.slice ga L.length gc) L.length (L.map putC).flatten (by rfl) HOW2.out ⟨w1.heap.size,0,none⟩ 1 1 (putC (ad,a,q,b)) (by rfl) (by rfl) (World.news_of_block HNB.out) (fun u hu=>by
  simp only [putC,List.mem_cons,List.not_mem_nil,or_false] at hu
  rcases hu with rfl|rfl|rfl|rfl <;> rfl) (by decide) (by have:=HNL.out;unfold maxLen;omega) (by have:=HNL.out;omega) (Nat.le_trans HB.out.2 HB12.out.size) w2.heap.size rfl ?_
 intro gg cap w3 hown hgrow hat hlt
 have HOw3:=hid hown
 have HGw3:=hid hgrow
 have HAT:=hid hat
 have HRW:=hid (HR2.out.grown hgrow (own_row_neK2 HOW2.out HR2.out (by decide)))
 have hS:w3.cell? ⟨bo,0,none⟩=some (.slice ga L.length gc):=HRW.out.cell 0 (by simp)
 have hwl:=HRW.out.lt
 have hwf:=HRW.out.frozen 0
 refine hK.out _ _ (fun _=>hS) (fun inv=>?_)
 have inv:=inv (by decide)
 clear hK K hown hgrow hat hlt
 try simp only [Act.put,List.setIfInBounds_toArray]
 refine sk_one (i:=7) (by kernel_rfl) rfl inv (fun K hK=>?_)
 rw [if_pos (by rfl)]
 go_simp
 refine hK.out _ _ (fun h=>absurd h (by decide)) (fun _=>?_)
 clear hK K
 refine sk_done (by kernel_rfl) ?_ _
 go_wp2_with fail
 have hne3:=ob_ne HOw3.out HRW.out (by decide)
 refine bodyPost_end (results_none rfl _ _ _) rfl ⟨rfl,⟨(Value.slice (some ⟨gg,0,none⟩) (L.length+1) cap).ownBlock,?_,?_⟩,?_⟩
 ·unfold PA
  rw [HEV.out,List.length_append,List.length_singleton,List.map_append,List.flatten_append]
  refine ⟨_,cap,HRW.out.set 0 _,own_setOther (by simpa using HOw3.out) (fun e=>hne3 bo e.symm rfl) _,rfl,HB.out.1,hne3⟩
 ·rcases HAT.out with e|e
  ·exact .inl e.symm
  ·refine .inr fun k hk=>?_
   have h1:=HB12.out.size
   have h2:gg=k:=Option.some.inj hk
   omega
 ·exact ((EX.of_below HB12.out).trans (EX.of_grown HGw3.out fun k e _=>.inr e)).set (g:=bo) (.inl (.inl rfl)) 0 _
section
variable {w0:World}{F:Nat}{t:FT}{p g h c m tb root:Nat}{rd:Int→Int→List UInt8 × Int}
abbrev allL (root:Nat)(kids:Nat→Tr):List LF:=leavesT 4 0 (.nd root kids)
abbrev nodL (root:Nat)(kids:Nat→Tr):List Nat:=nodesT 4 (.nd root kids)
theorem TI.evs {s:CC}{kids:Nat→Tr}{R:List Nat}(T:TI rd s 3 root kids R)(hl:s.fs.length≤1024):(evT 4 0 (.nd root kids)).length≤1000000:=by
 have h1:=T.len
 have h2:=ev_len 4 0 (.nd root kids)
 unfold hxT at h1
 rw [List.length_append] at h1
 have h3:(nodesT 4 (.nd root kids)).length+(lfT 4 (.nd root kids)).length≤513*s.fs.length:=h1
 omega
theorem TI.tk {s:CC}{kids:Nat→Tr}{R:List Nat}(T:TI rd s 3 root kids R):∀ q∈nodesT (3+1) (.nd root kids),TakenF q s:=fun _q hq=>T.good.at_ (List.mem_append_left _ (List.mem_append_left _ hq))
set_option maxRecDepth 100000 in
set_option maxHeartbeats 4000000 in
theorem all_any (s:CC)(kids:Nat→Tr)(R ws:List Nat)(w:World)(H:TW w0 F t p g h c m tb s ws root false w)(T:TI rd s 3 root kids R):
 Calls Tryz.prog 42 #[.pointer (some ⟨tb,0,none⟩)] w fun e w'=>∃ v,e=.returned v∧w'.ownsRow w.heap.size 166 4 v (allL root kids).length ((allL root kids).map putC).flatten∧Below w.heap.size w w':=by
 have HGO:=hid (tgone_any w0 F t p g h c m tb s ws root false w H)
 obtain ⟨w1,hw1⟩:∃ w1,w1=w.alloc (.cells #[.slice none 0 0] 84):=⟨_,rfl⟩
 have HB1:=hid (show Below w.heap.size w w1 by rw [hw1];exact bal _)
 have HR1:=hid (show Row w1 w.heap.size 84 [.slice none 0 0] by rw [hw1];exact Row.new w _ _)
 have H1:=hid (H.below HB1.out)
 have HW1:=hid hw1
 have HPA:=hid (show PA w.heap.size w.heap.size [] none w1 from ⟨none,0,HR1.out,World.ownsRow_nil _ _ _ _,rfl,Nat.le_refl _,fun k e=>by cases e⟩)
 have HTH:=hid (through_any (bo:=w.heap.size) (P:=PA w.heap.size w.heap.size) (cS':=#[]) (cL:=#[.pointer (some ⟨w.heap.size,0,none⟩)]) H rfl (PA.ok (Nat.le_refl _)) enters_all1 enters_all2 (all1_any _ _ w) (all2_any _ _ w (Nat.le_refl _) rfl) 3 (by omega) 4 0 root kids [] none w1 (by omega) T.holds T.tk (by omega) (by omega) HPA.out HB1.out (by have:=T.evs H.cw.pool.n2;simpa using this))
 rw [List.nil_append] at HTH
 obtain ⟨q0,q1,q2⟩:=H.cells
 have hql:=H.tab.lt
 clear hw1 H T
 go_enter Tryz.func42,Tryz.ntmps42
 go_wp2_with fail
 refine (HGO.out).mono ?_
 rintro e wx ⟨rfl,rfl⟩
 go_wp2_with fail
 rw [← HW1.out]
 refine (HTH.out).mono ?_
 rintro e w2 ⟨rfl,hsp⟩
 obtain ⟨o',⟨ga,gc,hr,ho,_⟩,_⟩:=hsp.next
 have HLOW:=hid (hsp.low (PA.ok (Nat.le_refl _)) HPA.out rfl HB1.out)
 have HO:=hid ho
 have hb2:=hr.cell 0 (by simp)
 have hb2l:=hr.lt
 simp only [List.getElem_cons_zero] at hb2
 clear hsp hr ho q0 q1 q2 hql
 go_wp2_with fail
 go_ret
 exact ⟨_,rfl,HO.out,HLOW.out⟩
set_option maxRecDepth 100000 in
set_option maxHeartbeats 4000000 in
theorem nodes_any (s:CC)(kids:Nat→Tr)(R ws:List Nat)(w:World)(H:TW w0 F t p g h c m tb s ws root false w)(T:TI rd s 3 root kids R):
 Calls Tryz.prog 45 #[.pointer (some ⟨tb,0,none⟩)] w fun e w'=>∃ v,e=.returned v∧w'.ownsRow w.heap.size 3 1 v (nodL root kids).length ((nodL root kids).map nI9)∧Below w.heap.size w w':=by
 have HGO:=hid (tgone_any w0 F t p g h c m tb s ws root false w H)
 obtain ⟨w1,hw1⟩:∃ w1,w1=w.alloc (.cells #[.slice none 0 0] 44):=⟨_,rfl⟩
 have HB1:=hid (show Below w.heap.size w w1 by rw [hw1];exact bal _)
 have HR1:=hid (show Row w1 w.heap.size 44 [.slice none 0 0] by rw [hw1];exact Row.new w _ _)
 have H1:=hid (H.below HB1.out)
 have HW1:=hid hw1
 have HPA:=hid (show PN w.heap.size w.heap.size [] none w1 from ⟨none,0,HR1.out,World.ownsRow_nil _ _ _ _,rfl,Nat.le_refl _,fun k e=>by cases e⟩)
 have HTH:=hid (through_any (bo:=w.heap.size) (P:=PN w.heap.size w.heap.size) (cS':=#[.pointer (some ⟨w.heap.size,0,none⟩)]) (cL:=#[]) H rfl (PN.ok (Nat.le_refl _)) enters_nod1 enters_nod2 (nod1_any _ _ w (Nat.le_refl _) rfl) (nod2_any _ _ w) 3 (by omega) 4 0 root kids [] none w1 (by omega) T.holds T.tk (by omega) (by omega) HPA.out HB1.out (by have:=T.evs H.cw.pool.n2;simpa using this))
 rw [List.nil_append] at HTH
 have HN:=hid (evN_is 4 0 (.nd root kids))
 obtain ⟨q0,q1,q2⟩:=H.cells
 have hql:=H.tab.lt
 clear hw1 H T
 go_enter Tryz.func45,Tryz.ntmps45
 go_wp2_with fail
 refine (HGO.out).mono ?_
 rintro e wx ⟨rfl,rfl⟩
 go_wp2_with fail
 rw [← HW1.out]
 refine (HTH.out).mono ?_
 rintro e w2 ⟨rfl,hsp⟩
 obtain ⟨o',⟨ga,gc,hr,ho,_⟩,_⟩:=hsp.next
 have HLOW:=hid (hsp.low (PN.ok (Nat.le_refl _)) HPA.out rfl HB1.out)
 rw [HN.out] at hr ho
 have HO:=hid ho
 have hb2:=hr.cell 0 (by simp)
 have hb2l:=hr.lt
 simp only [List.getElem_cons_zero] at hb2
 clear hsp hr ho q0 q1 q2 hql
 go_wp2_with fail
 go_ret
 exact ⟨_,rfl,HO.out,HLOW.out⟩
theorem CW.nOwn {w:World}{s:CC}{ws:List Nat}{base E size n:Nat}{v:Value}{xs:List Value}(H:CW w0 F t p g h c m s ws w)(ho:w.ownsRow base E size v n xs)(h1:135≠E)(h2:96≠E)(h3:36≠E):∀ k,v.ownBlock=some k→¬ cS g h c m k:=by
 intro k e hk
 rcases hk with rfl|rfl|rfl|rfl
 ·exact ob_ne ho H.cache h1 k e rfl
 ·rcases ho.2 with ⟨rfl,_⟩|⟨q,cap,cur,rfl,_,hg,_⟩
  ·cases e
  ·simp only [Value.ownBlock,Option.some.injEq] at e
   subst e
   obtain ⟨D,⟨es,clock,hb,_⟩,_⟩:=H.map
   rw [hb] at hg
   cases hg
 ·exact ob_ne ho H.pool.frames h2 k e rfl
 ·exact ob_ne ho H.pool.words h3 k e rfl
/-- Frames are given up. -/
def dnL (s:CC)(l:List Nat):CC:=l.foldl dnC s
theorem dnL_good:∀ (l:List Nat) (s:CC) (R:List Nat),Good rd s (l++R)→Good rd (dnL s l) R
 | [],_,_,G=>G
 | a::l,s,R,G=>dnL_good l (dnC s a) R (Good.down G)
theorem dnL_snoc (s:CC)(l:List Nat)(a:Nat):dnL s (l++[a])=dnC (dnL s l) a:=by unfold dnL;rw [List.foldl_append];rfl
theorem dnL_take (s:CC)(l:List Nat)(k:Nat)(hk:k<l.length):dnL s (l.take (k+1))=dnC (dnL s (l.take k)) l[k]:=by
 rw [List.take_succ_eq_append_getElem hk,dnL_snoc]
theorem TW.setFr {w:World}{s:CC}{ws:List Nat}{tb:Nat}(H:TW w0 F t p g h c m tb s ws root false w):TW w0 F t p g h c m tb s ws root true (w.setCell ⟨tb,2,none⟩ (.bool true)):=by
 have he:EX (fun k=>k=tb) w (w.setCell ⟨tb,2,none⟩ (.bool true)):=(EX.refl (S:=fun k=>k=tb) w).set (g:=tb) (.inl rfl) 2 _
 have h1:c≠tb:=row_tys H.cw.cache H.tab (by decide)
 have h2:p≠tb:=row_tys H.cw.pool.pool H.tab (by decide)
 have h3:g≠tb:=row_tys H.cw.pool.frames H.tab (by decide)
 have h4:h≠tb:=row_tys H.cw.pool.words H.tab (by decide)
 have h5:m≠tb:=H.cw.map.row H.tab
 exact ⟨⟨he.row H.cw.cache h1,⟨he.row H.cw.pool.pool h2,he.row H.cw.pool.frames h3,he.row H.cw.pool.words h4,H.cw.pool.ok,H.cw.pool.n1,H.cw.pool.n2,H.cw.pool.wl,H.cw.pool.wb,H.cw.pool.c0⟩,H.cw.map.ex he h5,H.cw.files,he.below H.cw.low (fun k e=>e▸H.lt) H.cw.low.size,H.cw.lg,H.cw.lh,H.cw.lc,H.cw.lm,H.cw.few,H.cw.tb⟩,H.tab.set 2 _,H.sz,H.lt⟩
set_option maxRecDepth 100000 in
set_option maxHeartbeats 8000000 in
theorem tfree_any (s:CC)(kids:Nat→Tr)(R ws:List Nat)(w:World)(H:TW w0 F t p g h c m tb s ws root false w)(T:TI rd s 3 root kids R)(hR:R.length≤1000000):
 Calls Tryz.prog 32 #[.pointer (some ⟨tb,0,none⟩)] w fun e w'=>e=.returned (.tuple #[])∧(∃ ws',TW w0 F t p g h c m tb (dnL s (lfT 4 (.nd root kids)++nodL root kids)) ws' root true w')∧EX (fun k=>cS g h c m k∨k=tb) w w':=by
 have HGO:=hid (tgone_any w0 F t p g h c m tb s ws root false w H)
 have HAL:=hid (all_any s kids R ws w H T)
 have HNO:=hid (fun W (hb:Below w.heap.size w W)=>nodes_any s kids R ws W (H.below hb) T)
 have HH:=hid H
 have HT:=hid T
 have HRL:=hid hR
 have hlen:=T.evs H.cw.pool.n2
 rw [ev_len] at hlen
 have HLF:=hid (show (allL root kids).map (fun y=>y.2.1)=lfT 4 (.nd root kids) from leaves_lf 4 0 (.nd root kids))
 have hLl:(allL root kids).length=(lfT 4 (.nd root kids)).length:=by rw [← HLF.out,List.length_map]
 have HLN:=hid (show (allL root kids).length≤1000000∧(nodL root kids).length≤1000000 from ⟨by omega,show (nodesT 4 (.nd root kids)).length≤1000000 by omega⟩)
 have HGD:=hid (show Good rd s (lfT 4 (.nd root kids)++(nodL root kids++R)) from T.good.perm (perm_of fun a=>by
  have h9:(hxT 3 root kids).count a=(nodL root kids).count a+(lfT 4 (.nd root kids)).count a:=hx_count 3 root kids a
  rw [List.count_append,List.count_append,List.count_append,h9]
  omega))
 obtain ⟨s9,hs9⟩:∃ s9,s9=dnL s (lfT 4 (.nd root kids)++nodL root kids):=⟨_,rfl⟩
 rw [← hs9]
 have HS9:=hid hs9
 clear H T hR hlen hLl hs9
 go_enter Tryz.func32,Tryz.ntmps32
 go_wp2_with fail
 refine (HGO.out).mono ?_
 rintro e wx ⟨rfl,rfl⟩
 go_wp2_with fail
 refine (HAL.out).mono ?_
 rintro e w1 ⟨v,rfl,ho,hb1⟩
 obtain ⟨va,vc,rfl,hrk,_⟩:=own_rk ho (by intro r hr;obtain ⟨x,_,rfl⟩:=List.mem_map.1 hr;rfl) (by omega)
 have HRK:=hid hrk
 have HB1:=hid hb1
 have HOA:=hid ho
 clear ho hb1 hrk
 go_wp2_with fail
 refine (HNO.out w1 HB1.out).mono ?_
 rintro e w2 ⟨v,rfl,ho,hb2⟩
 obtain ⟨na,nc,rfl⟩:=own_hd9 ho
 have HON:=hid ho
 have HB2:=hid hb2
 have HRK2:=hid (HRK.out.below' hb2)
 have H2:=hid (HH.out.below (HB1.out.trans (hb2.mono HB1.out.size)))
 have HOA2:=hid (own_below HOA.out hb2)
 clear ho hb2
 have HLFL:=HLF
 clear HLF HNO HAL
 generalize allL root kids=LL at *
 have HNA:=hid (H2.out.cw.nOwn HOA2.out (by decide) (by decide) (by decide))
 have HNN:=hid (H2.out.cw.nOwn HON.out (by decide) (by decide) (by decide))
 have HFL:=hid (show LL.length=(lfT 4 (.nd root kids)).length by rw [← HLFL.out,List.length_map])
 generalize lfT 4 (.nd root kids)=LF at *
 generalize nodL root kids=NL at *
 go_wp2_with fail
 go_loopw [16] (fun i wr=>∃ (j:Nat) (ws':List Nat),j≤LL.length∧i=.int .i64 j∧TW w0 F t p g h c m tb (dnL s (LF.take j)) ws' root false wr∧EX (cS g h c m) w2 wr) (fun i _=>LL.length-(intOf i).toNat)
 case atStart=>exact ⟨0,ws,Nat.zero_le _,rfl,by rw [List.take_zero];exact H2.out,EX.refl _⟩
 case round=>
  obtain ⟨j,wsj,hj,rfl,htj,hej⟩:=hrel
  have HTJ:=hid htj
  have HEJ:=hid hej
  have hln:=HLN.out.1
  clear htj hej
  by_cases hlt:j<LL.length
  ·have d1:decide ((j:Int)<(LL.length:Int))=true:=by simp;omega
   have d1n:decide (j<LL.length)=true:=by simp;omega
   obtain ⟨va',vc',e9,hrk,_⟩:=own_rk (HEJ.out.own HOA2.out HNA.out) (by intro r hr;obtain ⟨x,_,rfl⟩:=List.mem_map.1 hr;rfl) (by omega)
   cases e9
   obtain ⟨b,o,rfl,hcell⟩:=hrk.some_of (by simp;omega)
   have gq:=fun q hq=>hcell j (by simpa using hlt) q hq
   have e9:(LL.map putC)[j]'(by simpa using hlt)=putC LL[j]:=by simp
   rw [e9] at gq
   have g0:=gq 0 (by simp [putC])
   have g1:=gq 1 (by simp [putC])
   have g2:=gq 2 (by simp [putC])
   have g3:=gq 3 (by simp [putC])
   simp only [putC,List.getElem_cons_zero,List.getElem_cons_succ,Nat.add_zero] at g0 g1 g2 g3
   have hjf:j<LF.length:=by have:=HFL.out;omega
   have HY:=hid (show LL[j].2.1=LF[j] by
    have:=HLFL.out
    subst this
    simp)
   have HST:=hid (dnL_take s LF j hjf)
   have HGJ:=hid (show Good rd (dnL s (LF.take j)) ((LF.drop j)++(NL++R)) from dnL_good _ _ _ (by rw [← List.append_assoc,List.take_append_drop];exact HGD.out))
   have HLJ:=hid (show ((LF.drop j)++(NL++R)).length≤1000000000 by
    have:=HFL.out;have:=HLN.out;have:=HRL.out
    simp only [List.length_append,List.length_drop];omega)
   generalize LL[j]=y at *
   obtain ⟨y0,y1,y2,y3⟩:=y
   simp only at g0 g1 g2 g3 HY
   clear gq e9 hcell hrk
   have hj0:(0:Int)≤(j:Int):=by omega
   have hj1:(j:Int)<(LL.length:Int):=by omega
   obtain ⟨w4,hw4⟩:∃ w4,w4=wr.alloc (.cells #[.int .u64 (y0:Int),.int .i64 (y1:Int),.int .u8 (y2:Int),.bool y3] 166):=⟨_,rfl⟩
   have HB4:=hid (show Below wr.heap.size wr w4 by rw [hw4];exact bal _)
   have HR4:=hid (show Row w4 wr.heap.size 166 [.int .u64 (y0:Int),.int .i64 (y1:Int),.int .u8 (y2:Int),.bool y3] by rw [hw4];exact Row.new wr _ _)
   have HT4:=hid (HTJ.out.below HB4.out)
   have HW4:=hid hw4
   clear hw4
   go_wp2_with fail
   rw [← HW4.out]
   have L0:∀ ww,EX (cS g h c m) w4 ww→ww.cell? ⟨wr.heap.size,1,none⟩=some (.int .i64 (y1:Int)):=fun ww hs=>(hs.row HR4.out (HT4.out.cw.nR HR4.out (by decide) (by decide) (by decide))).cell 1 (by simp)
   have hS0:EX (cS g h c m) w4 w4.drew:=EX.drew (EX.refl _)
   have HT4D:=hid (HT4.out.below (bdN (Below.refl _ _) 1))
   have HPO1:=hid (tpool_any w0 F t p g h c m tb _ wsj root false w4.drew HT4D.out)
   have HDW:=hid (tdn_any _ y1 _ wsj w4.drew HT4D.out HGJ.out HLJ.out)
   clear g0 g1 g2 g3
   go_region_held3 (EX (cS g h c m) w4) (first|exact EX.drew _|exact EX.refl _|assumption) (first|(go_at_call 56;refine (HPO1.out).mono ?_;rintro e' wx ⟨rfl,rfl⟩)|(go_at_call 31;refine (HDW.out).mono ?_;rintro e' wy ⟨⟨er2,rfl⟩,hty,hey⟩;have HTZ:=hid hty;have hS2:EX (cS g h c m) w4 wy:=hS0.trans hey;clear hty hey))
   have HEZ:=hid (HEJ.out.trans ((EX.of_below HB4.out).trans hS2))
   clear L0 hS0 hS2
   obtain ⟨wsZ,hTZ⟩:=HTZ.out
   have HTV:=hid hTZ
   clear hTZ
   go_wp2_with fail
   go_roundw
   case rel=>exact ⟨j+1,wsZ,by omega,by go_num,by rw [HST.out,← HY.out];exact HTV.out,HEZ.out⟩
   case measure=>simp [intOf];omega
  ·have d1:decide ((j:Int)<(LL.length:Int))=false:=by simp;omega
   have d1n:decide (j<LL.length)=false:=by simp;omega
   have hjf:LF.length≤j:=by have:=HFL.out;omega
   rw [List.take_of_length_le hjf] at HTJ
   clear hjf
   have hnn:=HLN.out.2
   go_wp2_with fail
   rename World=>w5
   go_loopw [29] (fun i wr=>∃ (j:Nat) (ws':List Nat),j≤NL.length∧i=.int .i64 j∧TW w0 F t p g h c m tb (dnL s (LF++NL.take j)) ws' root false wr∧EX (cS g h c m) w2 wr) (fun i _=>NL.length-(intOf i).toNat)
   case atStart=>exact ⟨0,wsj,Nat.zero_le _,rfl,by rw [List.take_zero,List.append_nil];exact HTJ.out,HEJ.out⟩
   case round=>
    obtain ⟨k,wsk,hk,rfl,htk,hek⟩:=hrel
    have HTK:=hid htk
    have HEK:=hid hek
    clear htk hek
    have hnn:=HLN.out.2
    by_cases hlk:k<NL.length
    ·have d2:decide ((k:Int)<(NL.length:Int))=true:=by simp;omega
     have d2n:decide (k<NL.length)=true:=by simp;omega
     obtain ⟨na',nc',e9,hcl,_⟩:=own_cel (HEK.out.own HON.out HNN.out)
     cases e9
     obtain ⟨b,o,rfl,hcell⟩:=hcl.some_of (by simp;omega)
     have g0:=hcell k (by simpa using hlk)
     rw [List.getElem_map] at g0
     unfold nI9 at g0
     have HST:=hid (show dnL s (LF++NL.take (k+1))=dnC (dnL s (LF++NL.take k)) NL[k] by
      rw [List.take_succ_eq_append_getElem hlk,← List.append_assoc,dnL_snoc])
     have HGJ:=hid (show Good rd (dnL s (LF++NL.take k)) ((NL.drop k)++R) from dnL_good _ _ _ (by
      have:=HGD.out
      rw [← List.take_append_drop k NL] at this
      simpa only [List.append_assoc] using this))
     have HLJ:=hid (show ((NL.drop k)++R).length≤1000000000 by
      have:=HLN.out;have:=HRL.out
      simp only [List.length_append,List.length_drop];omega)
     have HPO1:=hid (tpool_any w0 F t p g h c m tb _ wsk root false _ HTK.out)
     have HDW:=hid (tdn_any _ NL[k] _ wsk _ HTK.out HGJ.out HLJ.out)
     have hk0:(0:Int)≤(k:Int):=by omega
     have hk1:(k:Int)<(NL.length:Int):=by omega
     generalize NL[k]=y at *
     clear hcl hcell
     go_wp2_with fail
     refine (HPO1.out).mono ?_
     rintro e wx ⟨rfl,rfl⟩
     go_wp2_with fail
     refine (HDW.out).mono ?_
     rintro e wy ⟨⟨er2,rfl⟩,⟨wsZ,hty⟩,hey⟩
     have HTV:=hid hty
     have HEZ:=hid (HEK.out.trans hey)
     clear hty hey g0
     go_wp2_with fail
     go_roundw
     case rel=>exact ⟨k+1,wsZ,by omega,by go_num,by rw [HST.out];exact HTV.out,HEZ.out⟩
     case measure=>simp [intOf];omega
    ·have d2:decide ((k:Int)<(NL.length:Int))=false:=by simp;omega
     have d2n:decide (k<NL.length)=false:=by simp;omega
     have hkf:NL.length≤k:=by omega
     rw [List.take_of_length_le hkf] at HTK
     have hz:=HTK.out.tab.frozen 2
     obtain ⟨q0,q1,q2⟩:=HTK.out.cells
     have hql:=HTK.out.tab.lt
     go_wp2_with fail
     refine bodyPost_end (results_none rfl _ _ _) rfl ⟨rfl,⟨wsk,by rw [HS9.out];exact HTK.out.setFr⟩,?_⟩
     have h1:EX (cS g h c m) w _:=(EX.of_below (HB1.out.trans (HB2.out.mono HB1.out.size))).trans HEK.out
     exact (h1.mono (T:=fun k=>cS g h c m k∨k=tb) fun _ _ h=>.inl h).set (g:=tb) (.inl (.inr rfl)) 2 _
end
end Go.Proofs.YtdjpjfdeeelijaaGreatDoor
