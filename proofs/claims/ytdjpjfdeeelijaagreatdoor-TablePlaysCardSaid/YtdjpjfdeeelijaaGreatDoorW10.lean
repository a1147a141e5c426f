/- Merged: FL0 FL1. hostelref02: Dir, Tail. hostelref02.Join. hostelref02: pieces, Check, Parts. -/
import Derived.Test.YtdjpjfdeeelijaaGreatDoorW04
import Derived.Test.YtdjpjfdeeelijaaGreatDoorW02
import Derived.Test.YtdjpjfdeeelijaaGreatDoorW03
namespace Go.Proofs.YtdjpjfdeeelijaaGreatDoor
open Go.RowKit Go.Sort
theorem jn_is:∀ ds:List BL,Lib.join ds [47]=jn ds
 | []=>rfl
 | [p]=>by simp [Lib.join,jn,List.intercalate]
 | p::q::r=>by
  have:=jn_is (q::r)
  unfold Lib.join at this ⊢
  rw [jn,← this]
  simp [List.intercalate,List.intersperse]
theorem pathJ_is (ds:List BL):pathJ ds=47::jn ds:=by unfold pathJ;rw [jn_is]
theorem pathJ_len (ds:List BL)(h:ds≠[]):(pathJ ds).length=tot ds:=by
 have:=jn_len ds h
 rw [pathJ_is,List.length_cons];omega
structure GoodD (ds:List BL):Prop where
 each:∀ p∈ds,goodP p=true∧p.length≤32∧∀ c∈p,c≠47∧c≠0
 len:(pathJ ds).length≤200
theorem pathJ_mid (ds:List BL):pathJ ds=[]++[47]++jn ds:=by rw [pathJ_is];rfl
theorem long_iff (l:BL):tooLong l=false↔∀ p∈cuts 47 l,p.length≤32:=by
 unfold tooLong
 rw [List.any_eq_false]
 constructor
 ·intro h p hp;have:=h p hp;simp at this;omega
 ·intro h p hp;have:=h p hp;simp;omega
theorem goodD_chk {ds:List BL}(h:GoodD ds):chkE (pathJ ds)=0∧partsF (pathJ ds)=ds∧rootF (pathJ ds)=true:=by
 have hc:chkE (pathJ ds)=0:=by
  by_cases he:ds=[]
  ·subst he;rw [pathJ_is];decide
  ·refine (chk0 _).2 ⟨by rw [pathJ_is];simp,?_,h.len,?_⟩
   ·rw [pathJ_is]
    intro h0
    rcases List.mem_cons.1 h0 with h1|h1
    ·cases h1
    ·rcases mem_jn ds 0 h1 with h2|⟨p,hp,h2⟩
     ·cases h2
     ·exact ((h.each p hp).2.2 0 h2).2 rfl
   ·rw [pathJ_mid,long_mid,show tooLong []=false by decide,Bool.false_or]
    rw [long_iff,cuts_jn ds he (fun p hp c hcc=>((h.each p hp).2.2 c hcc).1)]
    exact fun p hp=>(h.each p hp).2.1
 refine ⟨hc,?_,?_⟩
 ·unfold partsF
  rw [if_pos hc,pathJ_mid,parts_mid,parts_nil,List.nil_append]
  by_cases he:ds=[]
  ·subst he;exact parts_nil
  ·unfold partsL
   rw [cuts_jn ds he (fun p hp c hcc=>((h.each p hp).2.2 c hcc).1)]
   exact List.filter_eq_self.2 fun p hp=>(h.each p hp).1
 ·unfold rootF
  rw [decide_eq_true hc,pathJ_is]
  rfl
theorem tot_snoc (ds:List BL)(p:BL):tot (ds++[p])=tot ds+(p.length+1):=by simp [tot]
theorem goodD_nil:GoodD []:=⟨fun p hp=>by simp at hp,by rw [pathJ_is];decide⟩
theorem goodD_init {ds:List BL}{p:BL}(h:GoodD (ds++[p])):GoodD ds:=by
 refine ⟨fun q hq=>h.each q (List.mem_append_left _ hq),?_⟩
 by_cases he:ds=[]
 ·subst he;exact goodD_nil.len
 ·have h1:=pathJ_len ds he
  have h2:=pathJ_len (ds++[p]) (by simp)
  have h3:=h.len
  rw [tot_snoc] at h2
  omega
theorem goodD_of {l:BL}(h:chkE l=0)(hr:rootF l=true):GoodD (partsF l):=by
 obtain ⟨h1,h2,h3,h4⟩:=(chk0 l).1 h
 have hp:partsF l=partsL l:=by unfold partsF;rw [if_pos h]
 rw [hp]
 refine ⟨fun p hm=>?_,?_⟩
 ·unfold partsL at hm
  obtain ⟨m1,m2⟩:=List.mem_filter.1 hm
  refine ⟨m2,(long_iff l).1 h4 p m1,fun c hc=>?_⟩
  obtain ⟨c1,c2⟩:=cuts_mem 47 l p m1 c hc
  exact ⟨c1,fun e=>h2 (e▸c2)⟩
 ·by_cases he:partsL l=[]
  ·rw [he];exact goodD_nil.len
  ·rw [pathJ_len _ he]
   have hb:begB l=true:=by
    unfold rootF at hr
    rw [Bool.and_eq_true] at hr
    exact hr.2
   obtain ⟨r,rfl⟩:∃ r,l=[]++[47]++r:=by
    unfold begB at hb
    cases l with
    | nil=>exact absurd rfl h1
    | cons c r=>simp at hb;subst hb;exact ⟨r,rfl⟩
   rw [parts_mid,parts_nil,List.nil_append]
   have a2:=tot_filter goodP (cuts 47 r)
   have a3:=tot_cuts 47 r
   unfold partsL
   simp at h3
   omega
theorem goodD_inj {a b:List BL}(h1:GoodD a)(h2:GoodD b)(e:pathJ a=pathJ b):a=b:=by
 rw [← (goodD_chk h1).2.1,← (goodD_chk h2).2.1,e]
theorem lookI_snoc (l:List (BL × Nat))(nm:BL)(n:Nat)(q:BL):lookI (l++[(nm,n)]) q=if nm=q then some n else lookI l q:=by
 unfold lookI
 rw [List.reverse_append,List.reverse_singleton,List.singleton_append,List.find?_cons]
 by_cases h:nm=q
 ·simp [h]
 ·simp [h]
theorem lookI_none {l:List (BL × Nat)}{q:BL}(h:lookI l q=none):∀ x∈l,x.1≠q:=by
 unfold lookI at h
 rw [Option.map_eq_none_iff,List.find?_eq_none] at h
 intro x hx e
 exact h x (List.mem_reverse.2 hx) (decide_eq_true e)
theorem lookK_none {L:List ND}{q:BL}(h:lookK L q=none):∀ i,i<L.length→(L.getD i default).path≠q:=fun i hi=>
 lookI_none h ((L.getD i default).path,i) (List.mem_map.2 ⟨i,List.mem_range.2 hi,rfl⟩)
theorem lookK_path {L:List ND}{q:BL}{j:Nat}(h:lookK L q=some j):j<L.length∧(L.getD j default).path=q:=by
 obtain ⟨i,hi,e⟩:=List.mem_map.1 (lookI_mem h)
 cases e
 exact ⟨List.mem_range.1 hi,rfl⟩
/-- The tree: each node's parts. -/
structure Lay (L:List ND)(P:Nat→List BL):Prop where
 pos:0<L.length
 zero:P 0=[]
 root:(L.getD 0 default).kind=2
 path:∀ i,i<L.length→(L.getD i default).path=pathJ (P i)
 good:∀ i,i<L.length→GoodD (P i)
 step:∀ i,0<i→i<L.length→(L.getD i default).up<i∧(L.getD (L.getD i default).up default).kind=2∧∃ nm,P i=P (L.getD i default).up++[nm]∧nm≠dotdot∧lookI (L.getD (L.getD i default).up default).names nm=some i
theorem lay0:Lay [root0] (fun _=>[]):=by
 refine ⟨by simp,rfl,rfl,fun i hi=>?_,fun _ _=>goodD_nil,fun i h0 hi=>by simp at hi;omega⟩
 obtain rfl:i=0:=by simp at hi;omega
 rw [pathJ_is];rfl
/-- What is known of the node of an entry. -/
structure Of (nd:ND)(x:EN):Prop where
 kind:nd.kind=x.kind
 to:nd.to=x.to
 data:nd.data=x.data
 right:rightK x=true
theorem addE_ok {L:List ND}{x:EN}(h:(addE L x).1=0):∃ ds j,entP x=some ds∧lookK L (pathJ ds)=none∧lookK L (pathJ ds.dropLast)=some j∧(L.getD j default).kind=2∧(addE L x).2=addN L j (ds.getLastD []) (newN ds j x):=by
 cases he:entP x with
 | none=>rw [addE_1 he] at h;cases h
 | some ds=>
  by_cases hd:65536<x.data.length
  ·rw [addE_12 he hd] at h;cases h
  ·cases hk:lookK L (pathJ ds) with
   | some j=>rw [addE_7 he hd hk] at h;cases h
   | none=>
    cases hu:lookK L (pathJ ds.dropLast) with
    | none=>rw [addE_3 he hd hk hu] at h;cases h
    | some j=>
     by_cases h2:(L.getD j default).kind=2
     ·exact ⟨ds,j,rfl,hk,hu,h2,by rw [addE_0 he hd hk hu h2]⟩
     ·rw [addE_8 he hd hk hu h2] at h;cases h
theorem lay_add {L:List ND}{P:Nat→List BL}{x:EN}(hL:Lay L P)(h:(addE L x).1=0):
 ∃ P',Lay (addE L x).2 P'∧(∀ i,i<L.length→∃ ns,(addE L x).2.getD i default={ L.getD i default with names:=ns })∧Of ((addE L x).2.getD L.length default) x:=by
 obtain ⟨ds,j,he,hk,hu,h2,e⟩:=addE_ok h
 obtain ⟨rfl,hr,_,_,hch,hro,hne,hdd⟩:=entP_is he
 have hG:=goodD_of hch hro
 generalize partsF x.path=ds at *
 obtain ⟨l,nm,rfl⟩:∃ l nm,ds=l++[nm]:=by
  rcases ds.eq_nil_or_concat with h|⟨l,nm,h⟩
  ·exact absurd h hne
  ·exact ⟨l,nm,by simpa using h⟩
 rw [List.dropLast_concat] at hu
 rw [List.getLastD_concat] at e
 obtain ⟨hj,hjp⟩:=lookK_path hu
 have hPj:P j=l:=goodD_inj (hL.good j hj) (goodD_init hG) (by rw [← hL.path j hj,hjp])
 have hno:=lookK_none hk
 rw [e]
 have hnm:nm≠dotdot:=by
  unfold dotB at hdd
  rw [List.any_eq_false] at hdd
  have:=hdd nm (by simp)
  simpa [dotdot] using this
 have hnew:(addN L j nm (newN (l++[nm]) j x)).getD L.length default=newN (l++[nm]) j x:=addN_new ..
 have hup:∀ i,i<L.length→((addN L j nm (newN (l++[nm]) j x)).getD i default).up=(L.getD i default).up:=fun i hi=>by
  obtain ⟨ns,h1,_⟩:=addN_same L j nm (newN (l++[nm]) j x) hi;rw [h1]
 have hkd:∀ i,i<L.length→((addN L j nm (newN (l++[nm]) j x)).getD i default).kind=(L.getD i default).kind:=fun i hi=>by
  obtain ⟨ns,h1,_⟩:=addN_same L j nm (newN (l++[nm]) j x) hi;rw [h1]
 have hpa:∀ i,i<L.length→((addN L j nm (newN (l++[nm]) j x)).getD i default).path=(L.getD i default).path:=fun i hi=>by
  obtain ⟨ns,h1,_⟩:=addN_same L j nm (newN (l++[nm]) j x) hi;rw [h1]
 refine ⟨fun i=>if i=L.length then l++[nm] else P i,?_,fun i hi=>?_,?_⟩
 ·have hpos:=hL.pos
  refine ⟨by rw [addN_len];omega,?_,?_,fun i hi=>?_,fun i hi=>?_,fun i h0 hi=>?_⟩
  ·rw [if_neg (by omega)];exact hL.zero
  ·rw [hkd 0 hL.pos];exact hL.root
  ·rw [addN_len] at hi
   by_cases hil:i=L.length
   ·subst hil;rw [if_pos rfl,hnew];rfl
   ·rw [if_neg hil,hpa i (by omega)];exact hL.path i (by omega)
  ·rw [addN_len] at hi
   by_cases hil:i=L.length
   ·subst hil;rw [if_pos rfl];exact hG
   ·rw [if_neg hil];exact hL.good i (by omega)
  ·rw [addN_len] at hi
   by_cases hil:i=L.length
   ·subst hil
    have hupj:(newN (l++[nm]) j x).up=j:=rfl
    rw [hnew,hupj]
    refine ⟨hj,by rw [hkd j hj];exact h2,nm,by rw [if_pos rfl,if_neg (by omega),hPj],hnm,?_⟩
    rw [addN_at L j nm _ hj]
    rw [lookI_snoc,if_pos rfl]
   ·obtain ⟨s1,s2,nm',s3,s4,s5⟩:=hL.step i h0 (by omega)
    rw [hup i (by omega)]
    refine ⟨s1,by rw [hkd _ (by omega)];exact s2,nm',by rw [if_neg hil,if_neg (by omega)];exact s3,s4,?_⟩
    by_cases hij:(L.getD i default).up=j
    ·rw [hij,addN_at L j nm _ hj,lookI_snoc,if_neg,← hij]
     ·exact s5
     ·intro e2
      apply hno i (by omega)
      rw [hL.path i (by omega),s3,hij,hPj,e2]
    ·rw [addN_old L j nm _ (by omega) hij];exact s5
 ·obtain ⟨ns,h1,_⟩:=addN_same L j nm (newN (l++[nm]) j x) hi
  exact ⟨ns,h1⟩
 ·rw [hnew];exact ⟨rfl,rfl,rfl,hr⟩
theorem lay_new:∀ (xs:List EN) (L:List ND) (P:Nat→List BL) (k:Nat),Lay L P→(newE L k xs).1=0→
 ∃ P',Lay (newE L k xs).2.2 P'∧(newE L k xs).2.2.length=L.length+xs.length∧(∀ i,i<L.length→∃ ns,(newE L k xs).2.2.getD i default={ L.getD i default with names:=ns })∧∀ i (h:i<xs.length),Of ((newE L k xs).2.2.getD (L.length+i) default) xs[i]
 | [],L,P,k,hL,_=>⟨P,hL,rfl,fun i _=>⟨_,rfl⟩,fun i h=>by simp at h⟩
 | x::xs,L,P,k,hL,h=>by
  by_cases hx:(addE L x).1=0
  ·rw [newE_go hx] at h ⊢
   obtain ⟨P1,hL1,hs1,ho1⟩:=lay_add hL hx
   have hl1:=addE_len hx
   obtain ⟨P2,hL2,hl2,hs2,ho2⟩:=lay_new xs _ P1 (k+1) hL1 h
   refine ⟨P2,hL2,by rw [hl2,hl1,List.length_cons];omega,fun i hi=>?_,fun i hi=>?_⟩
   ·obtain ⟨ns,e1⟩:=hs1 i hi
    obtain ⟨ns2,e2⟩:=hs2 i (by omega)
    exact ⟨ns2,by rw [e2,e1]⟩
   ·cases i with
    | zero=>
     obtain ⟨ns,e1⟩:=hs2 L.length (by omega)
     show Of (List.getD _ L.length default) x
     rw [e1]
     exact ⟨ho1.kind,ho1.to,ho1.data,ho1.right⟩
    | succ i=>
     have:=ho2 i (by simpa using hi)
     rw [hl1] at this
     rw [show L.length+(i+1)=L.length+1+i by omega]
     exact this
  ·rw [newE_no hx] at h;exact absurd h hx
theorem byte_eq (s:ByteArray)(k:Nat)(h:k<s.size)(c:UInt8)(n:Int)(hn:(c.toNat:Int)=n):((s[k].toNat:Int)==n)=decide (s[k]=c):=by
 rw [Bool.eq_iff_iff,beq_iff_eq,decide_eq_true_eq,← hn]
 constructor
 ·intro h;exact UInt8.toNat_inj.1 (by omega)
 ·intro h;rw [h]
theorem take_snoc2 (s:ByteArray)(k:Nat)(h:k<s.size):s.data.toList.take (k+1)=s.data.toList.take k++[s[k]]:=by
 rw [List.take_succ_eq_append_getElem (by simpa using h)];rfl
theorem tail_at {s:ByteArray}{n:Nat}(h:s.size=n+1)(hlt:n<s.size):tailB s.data.toList=decide (s[n]=47):=by
 have e:s.data.toList=s.data.toList.take n++[s[n]]:=by
  rw [← take_snoc2 s n (by omega),List.take_of_length_le (by rw [size_list];omega)]
 rw [Bool.eq_iff_iff,tail_iff,decide_eq_true_eq]
 constructor
 ·rintro ⟨a,ha⟩
  rw [e] at ha
  have:=List.append_inj_right' ha rfl
  simpa using this
 ·intro h2
  exact ⟨_,by rw [e,h2]⟩
theorem rtail_any (s:ByteArray)(w:World)(hs:s.size≤1000000):
 Calls Tryz.prog 114 #[.string s] w fun e' w'=>e'=.returned (.bool (tailB s.data.toList))∧w=w':=by
 by_cases h:s.size=0
 ·have hd:¬ 0<(s.size:Int):=by omega
  have HF:=hid (show false=tailB s.data.toList by
   have:s.data.toList=[]:=List.length_eq_zero_iff.1 (by rw [size_list];exact h)
   rw [this];rfl)
  clear h
  go_enter Tryz.func114,Tryz.ntmps114
  go_wp2_with fail
  go_ret
  exact ⟨ret_bool HF.out,rfl⟩
 ·obtain ⟨n,hn⟩:∃ n,s.size=n+1:=⟨s.size-1,by omega⟩
  have hlt:n<s.size:=by omega
  have hd:0<(s.size:Int):=by omega
  have he:(s.size:Int)-1=n:=by omega
  have HT:=hid (tail_at hn hlt)
  have hb:=byte_eq s n hlt 47 47 rfl
  clear hn h
  go_enter Tryz.func114,Tryz.ntmps114
  go_wp2_with fail
  go_ret
  exact ⟨ret_bool (by rw [HT.out]),rfl⟩
theorem beg_at {s:ByteArray}(h:0<s.size):begB s.data.toList=decide (s[0]=47):=by
 have hl:0<s.data.toList.length:=by rw [size_list];exact h
 have e:s.data.toList.head?=some s[0]:=by
  rw [List.head?_eq_getElem?,List.getElem?_eq_getElem hl];rfl
 unfold begB
 rw [e]
 simp
theorem miss1 {s:ByteArray}{k f:Nat}(hf:f≤k)(hk:k<s.size)(h:s[k]≠47)(ds:List BL)(hc:cst 47 (s.data.toList.take k)=(ds,(s.data.toList.take k).drop f)):
 cst 47 (s.data.toList.take (k+1))=(ds,(s.data.toList.take (k+1)).drop f):=by
 have hno:∀ j (hj:j<s.size),k≤j→j<k+1→s[j]≠47:=by
  intro j hj h1 h2
  have e:j=k:=by omega
  subst e
  exact h
 have:=miss_at (s:=s) (k:=k) (f:=f) (n:=1) hf (by omega) hno (by rw [hc])
 rw [this,hc]
theorem hit1 {s:ByteArray}{k f:Nat}(hk:k<s.size)(h:s[k]=47)(ds:List BL)(hc:cst 47 (s.data.toList.take k)=(ds,(s.data.toList.take k).drop f)):
 cst 47 (s.data.toList.take (k+1))=(ds++[(s.data.toList.take k).drop f],(s.data.toList.take (k+1)).drop (k+1)):=by
 rw [hit_at (f:=f) hk h (by rw [hc]),hc]
 simp
def piR (s:ByteArray)(k f:Nat)(ds:List BL):Prop:=(k≤s.size→f≤k∧cst 47 (s.data.toList.take k)=(ds,(s.data.toList.take k).drop f))∧(k=s.size+1→ds=cuts 47 s.data.toList)
set_option maxRecDepth 100000 in
set_option maxHeartbeats 1000000 in
theorem rpieces_any (s:ByteArray)(w:World)(hs:s.size≤1000000):
 Calls Tryz.prog 116 #[.string s] w fun e' w'=>∃ v,e'=.returned v∧OwnT w' w.heap.size v (cuts 47 s.data.toList)∧Below w.heap.size w w':=by
 obtain ⟨i0,hi,hz0,hz1,hz2⟩:=info_parts infoStr
 go_enter Tryz.func116,Tryz.ntmps116
 go_wp2_with fail
 go_loopw [3,4,5] (fun v fr i wr=>∃ (sv:Value) (k f:Nat) (ds:List BL),sv=v∧k≤s.size+1∧i=.int .i64 k∧fr=.int .i64 f∧ds.length≤k∧piR s k f ds∧OwnT wr w.heap.size sv ds∧Below w.heap.size w wr) (fun _ _ i _=>s.size+1-(intOf i).toNat)
 case atStart=>exact ⟨_,0,0,[],rfl,Nat.zero_le _,rfl,rfl,Nat.le_refl _,⟨fun _=>⟨Nat.le_refl _,rfl⟩,fun h=>by omega⟩,World.ownsRow_nil _ _ _ _,Below.refl _ _⟩
 case round=>
  obtain ⟨sv,k,f,ds,rfl,hk,rfl,rfl,hdk,hp,ho,hb⟩:=hrel
  have HP:=hid hp
  have HO:=hid ho
  have HB:=hid hb
  have HL1:=hid (show ds.length+1≤maxLen by unfold maxLen;omega)
  have HL2:=hid (show (ds.length+1)*16≤140737488355328 by omega)
  have hbs:=hb.size
  have HL3:=hid (fun o=>show w.heap.size≤(wr.alloc o).heap.size by simp only [World.size_alloc];omega)
  have HN1:=hid (fun x=>news_one wr (.string x) 9)
  have HO2:=hid (fun o=>ho.alloc o)
  have HU2:=hid (fun o=>hb.alloc hb.size o)
  clear hp ho hb
  by_cases hlt:k<s.size
  ·have hle:decide ((k:Int)≤(s.size:Int))=true:=by simp;omega
   have hq:((k:Int)==(s.size:Int))=false:=by rw [beq_eq_false_iff_ne];omega
   have hb:=byte_eq s k hlt 47 47 rfl
   obtain ⟨hfk,hc⟩:=HP.out.1 (by omega)
   by_cases h:s[k]=47
   ·rw [decide_eq_true h] at hb
    have HT:=hid (hit1 hlt h ds hc)
    have HX:=hid (ba_extract s f k)
    clear h hc
    go_wp2_with (at_builtin;go_must (refine wpList_append_own _ rfl _ _ 142 rfl w.heap.size 9 i0 (.string ByteArray.empty) 1 16 Tryz.underlying142 hi hz0 hz1 hz2 rfl (by decide) sv ds.length (strs ds) rfl (HO2.out _) ⟨wr.heap.size,0,none⟩ 1 1 [.string (s.extract f k)] rfl rfl (HN1.out _) (str_one _) HL1.out HL2.out (HL3.out _) ?_;intro v' w9 hown' hgrow _;have hb2:=(HU2.out _).grown hgrow (HL3.out _) (fun k hk=>own_low HO.out (Nat.le_refl _) k hk);have HO3:=hid hown';have HB2:=hid hb2;clear hown' hgrow hb2))
    go_roundw
    case rel=>exact ⟨_,k+1,k+1,ds++[(s.data.toList.take k).drop f],rfl,by omega,by go_num,by go_num,by simp;omega,⟨fun _=>⟨Nat.le_refl _,HT.out⟩,fun h=>by omega⟩,own_ext HO3.out (by simp) (by rw [strs_snoc,HX.out]),HB2.out⟩
    case measure=>simp [intOf];omega
   ·rw [decide_eq_false h] at hb
    have HT:=hid (miss1 hfk hlt h ds hc)
    clear h hc
    go_wp2_with fail
    go_roundw
    case rel=>exact ⟨_,k+1,f,ds,rfl,by omega,by go_num,rfl,by omega,⟨fun _=>⟨by omega,HT.out⟩,fun h=>by omega⟩,HO.out,HB.out⟩
    case measure=>simp [intOf];omega
  ·by_cases he:k=s.size
   ·have hle:decide ((k:Int)≤(s.size:Int))=true:=by simp;omega
    have hq:((k:Int)==(s.size:Int))=true:=by rw [beq_iff_eq];omega
    obtain ⟨hfk,hc⟩:=HP.out.1 (by omega)
    have HT:=hid (show cuts 47 s.data.toList=ds++[(s.data.toList.take k).drop f] by
     have e1:s.data.toList.take k=s.data.toList:=List.take_of_length_le (by rw [size_list];omega)
     rw [e1] at hc ⊢
     unfold cuts
     rw [hc])
    have HX:=hid (ba_extract s f k)
    have HE:=hid he
    have hks:k≤s.size:=by omega
    clear hc he
    go_wp2_with (at_builtin;go_must (refine wpList_append_own _ rfl _ _ 142 rfl w.heap.size 9 i0 (.string ByteArray.empty) 1 16 Tryz.underlying142 hi hz0 hz1 hz2 rfl (by decide) sv ds.length (strs ds) rfl (HO2.out _) ⟨wr.heap.size,0,none⟩ 1 1 [.string (s.extract f k)] rfl rfl (HN1.out _) (str_one _) HL1.out HL2.out (HL3.out _) ?_;intro v' w9 hown' hgrow _;have hb2:=(HU2.out _).grown hgrow (HL3.out _) (fun k hk=>own_low HO.out (Nat.le_refl _) k hk);have HO3:=hid hown';have HB2:=hid hb2;clear hown' hgrow hb2))
    go_roundw
    case rel=>exact ⟨_,k+1,k+1,ds++[(s.data.toList.take k).drop f],rfl,by omega,by go_num,by go_num,by simp;omega,⟨fun h=>by omega,fun _=>HT.out.symm⟩,own_ext HO3.out (by simp) (by rw [strs_snoc,HX.out]),HB2.out⟩
    case measure=>simp [intOf];omega
   ·have hle:decide ((k:Int)≤(s.size:Int))=false:=by simp;omega
    have hle2:decide (k≤s.size)=false:=by simp;omega
    have HE:=hid (HP.out.2 (by omega))
    clear he
    go_wp2_with fail
    go_ret
    exact ⟨_,rfl,by rw [← HE.out];exact HO.out,HB.out⟩
set_option maxRecDepth 100000 in
set_option maxHeartbeats 1000000 in
theorem rcheck_any (s:ByteArray)(w:World)(hs:s.size≤1000000):
 Calls Tryz.prog 115 #[.string s] w fun e' w'=>e'=.returned (.int .i64 (chkE s.data.toList))∧Below w.heap.size w w':=by
 have hne:=ba_nil s
 have HE:=hid (show chkE s.data.toList=if s.data.toList=[] then 3 else if 0∈s.data.toList then 1 else if 200<s.data.toList.length then 11 else if tooLong s.data.toList then 11 else 0 from rfl)
 have HRF:=hid (Below.refl w.heap.size w)
 by_cases h1:s.data.toList=[]
 ·rw [decide_eq_true h1] at hne
  have HF:=hid (show chkE s.data.toList=3 by rw [HE.out,if_pos h1])
  clear h1
  go_enter Tryz.func115,Tryz.ntmps115
  go_wp2_with fail
  go_ret
  exact ⟨ret_i64 HF.out.symm,HRF.out⟩
 ·rw [decide_eq_false h1] at hne
  have H1:=hid h1
  clear h1
  go_enter Tryz.func115,Tryz.ntmps115
  go_wp2_with fail
  go_loop [3] (fun i=>∃ k:Nat,k≤s.size∧i=.int .i64 k∧¬ 0∈s.data.toList.take k) (fun i=>s.size-(intOf i).toNat)
  case atStart=>exact ⟨0,Nat.zero_le _,rfl,by simp⟩
  case round=>
   obtain ⟨k,hk,rfl,hno⟩:=hrel
   have HNO:=hid hno
   clear hno
   by_cases hlt:k<s.size
   ·have hb:=byte_eq s k hlt 0 0 rfl
    have HS:=hid (take_snoc2 s k hlt)
    by_cases h:s[k]=0
    ·rw [decide_eq_true h] at hb
     have HM:=hid (show (0:UInt8)∈s.data.toList from by
      have:s[k]∈s.data.toList:=by
       have h2:s.data.toList[k]'(by rw [size_list];exact hlt)∈s.data.toList:=List.getElem_mem _
       exact h2
      rwa [h] at this)
     have HF:=hid (show chkE s.data.toList=1 by rw [HE.out,if_neg H1.out,if_pos HM.out])
     clear h
     go_wp2
     go_ret
     exact ⟨ret_i64 HF.out.symm,HRF.out⟩
    ·rw [decide_eq_false h] at hb
     have HN:=hid h
     clear h
     go_wp2
     go_round
     case rel=>exact ⟨k+1,by omega,by go_num,by rw [HS.out,List.mem_append];rintro (h|h);exact HNO.out h;simp at h;exact HN.out h.symm⟩
     case measure=>simp [intOf];omega
   ·have H2:=hid (show ¬ 0∈s.data.toList by have:=HNO.out;rwa [List.take_of_length_le (by rw [size_list];omega)] at this)
    by_cases h3:200<s.size
    ·have HF:=hid (show chkE s.data.toList=11 by rw [HE.out,if_neg H1.out,if_neg H2.out,if_pos (by rw [size_list];exact h3)])
     have h3':200<(s.size:Int):=by omega
     go_wp2_with fail
     go_ret
     exact ⟨ret_i64 HF.out.symm,HRF.out⟩
    ·have HF:=hid (chk_eq s.data.toList H1.out H2.out (by rw [size_list];omega))
     have h3':¬ 200<(s.size:Int):=by omega
     go_wp2_with fail
     refine (rpieces_any s _ hs).mono ?_
     rintro e' w1 ⟨v,rfl,ho,hb⟩
     obtain ⟨a9,c9,rfl,hC,_⟩:=own_cel ho
     have HB:=hid hb
     have HC:=hid hC
     have HLC:Hid ((cuts 47 s.data.toList).length≤1000001):=hid (by have:=cst_len 47 s.data.toList;unfold cuts;simp at this ⊢;have h2:s.data.size=s.size:=rfl;omega)
     have hlc:=HLC.out
     clear ho hb hC
     generalize cuts 47 s.data.toList=ds at *
     go_wp2_with fail
     go_loop [5] (fun i=>∃ j:Nat,j≤ds.length∧i=.int .i64 j∧anyLong (ds.take j)=false) (fun i=>ds.length-(intOf i).toNat)
     case atStart=>exact ⟨0,Nat.zero_le _,rfl,rfl⟩
     case round=>
      obtain ⟨j,hj,rfl,hno⟩:=hrel
      have HNL:=hid hno
      clear hno
      by_cases hlt2:j<ds.length
      ·obtain ⟨b1,o1,rfl,hc1⟩:=HC.out.some_of (by simp [strs];omega)
       have hx:=strs_at hc1 hlt2
       have HSZ:=hid (ba_size ds[j])
       have HTS:=hid (show ds.take (j+1)=ds.take j++[ds[j]] from List.take_succ_eq_append_getElem hlt2)
       clear hc1
       by_cases h:32<ds[j].length
       ·have hd:32<((ba ds[j]).size:Int):=by rw [HSZ.out];omega
        have HA:=hid (show anyLong ds=true by
         unfold anyLong;rw [List.any_eq_true];exact ⟨ds[j],List.getElem_mem _,by simpa using h⟩)
        have HF2:=hid (show chkE s.data.toList=11 by rw [HF.out,HA.out];rfl)
        clear h
        go_wp2_with fail
        go_ret
        exact ⟨ret_i64 HF2.out.symm,HB.out⟩
       ·have hd:¬ 32<((ba ds[j]).size:Int):=by rw [HSZ.out];omega
        have HA:=hid (show anyLong (ds.take (j+1))=false by rw [HTS.out,anyLong_snoc,HNL.out];simpa using h)
        clear h
        go_wp2_with fail
        go_round
        case rel=>exact ⟨j+1,by omega,by go_num,HA.out⟩
        case measure=>simp [intOf];omega
      ·have HF2:=hid (show chkE s.data.toList=0 by
        rw [HF.out]
        have:=HNL.out
        rw [List.take_of_length_le (by omega)] at this
        rw [this];rfl)
       go_wp2_with fail
       go_ret
       exact ⟨ret_i64 HF2.out.symm,HB.out⟩
set_option maxRecDepth 100000 in
set_option maxHeartbeats 1000000 in
theorem rparts_any (s:ByteArray)(w:World)(hs:s.size≤1000000):
 Calls Tryz.prog 70 #[.string s] w fun e' w'=>∃ v,e'=.returned (.tuple #[v,.bool (rootF s.data.toList),.int .i64 (chkE s.data.toList)])∧OwnT w' w.heap.size v (partsF s.data.toList)∧Below w.heap.size w w':=by
 obtain ⟨i0,hi,hz0,hz1,hz2⟩:=info_parts infoStr
 go_enter Tryz.func70,Tryz.ntmps70
 go_wp2_with fail
 refine (rcheck_any s _ hs).mono ?_
 rintro e' w1 ⟨rfl,hb⟩
 have HB:=hid hb
 have hbs:=hb.size
 clear hb
 by_cases h:chkE s.data.toList=0
 ·have HP:=hid (parts_good h)
  have HH:=hid h
  have hne:s.data.toList≠[]:=by intro e;rw [e] at h;exact absurd h (by decide)
  have h0:0<s.size:=by rw [← size_list];exact List.length_pos_iff.2 hne
  rw [h]
  clear h hne
  go_wp2_with fail
  refine (rpieces_any s _ hs).mono ?_
  rintro e' w2 ⟨v,rfl,ho,hb⟩
  obtain ⟨a9,c9,rfl,hC,_⟩:=own_cel ho
  have HC:=hid hC
  have HB2:=hid (bthen HB.out hb)
  have hbs2:=hb.size
  have HLC:Hid ((cuts 47 s.data.toList).length≤1000001):=hid (by have:=cst_len 47 s.data.toList;unfold cuts;simp at this ⊢;have h2:s.data.size=s.size:=rfl;omega)
  have hlc:=HLC.out
  clear ho hb hC HB
  generalize cuts 47 s.data.toList=ds at *
  go_wp2_with fail
  go_loopw [6,8] (fun v i wr=>∃ (sv:Value) (j:Nat),sv=v∧j≤ds.length∧i=.int .i64 j∧OwnT wr w2.heap.size sv ((ds.take j).filter goodP)∧Below w2.heap.size w2 wr) (fun _ i _=>ds.length-(intOf i).toNat)
  case atStart=>exact ⟨_,0,rfl,Nat.zero_le _,rfl,World.ownsRow_nil _ _ _ _,Below.refl _ _⟩
  case round=>
   obtain ⟨sv,j,rfl,hj,rfl,ho,hb⟩:=hrel
   have HO:=hid ho
   have HBR:=hid hb
   have hbr:=hb.size
   have HLn:Hid (((ds.take j).filter goodP).length≤1000001):=hid (by have:=List.length_filter_le goodP (ds.take j);simp at this;omega)
   have HL1:=hid (show ((ds.take j).filter goodP).length+1≤maxLen by have:=HLn.out;unfold maxLen;omega)
   have HL2:=hid (show (((ds.take j).filter goodP).length+1)*16≤140737488355328 by have:=HLn.out;omega)
   have HL3:=hid (fun o=>show w2.heap.size≤(wr.alloc o).heap.size by simp only [World.size_alloc];omega)
   have HN1:=hid (fun x=>news_one wr (.string x) 9)
   have HO2:=hid (fun o=>ho.alloc o)
   have HU2:=hid (fun o=>hb.alloc hb.size o)
   have hCr:=HC.out.below' hb
   clear ho hb
   by_cases hlt2:j<ds.length
   ·obtain ⟨b1,o1,rfl,hc1⟩:=hCr.some_of (by simp [strs];omega)
    have hx:=strs_at hc1 hlt2
    have HTS:=hid (show (ds.take (j+1)).filter goodP=if goodP ds[j] then (ds.take j).filter goodP++[ds[j]] else (ds.take j).filter goodP by rw [List.take_succ_eq_append_getElem hlt2,filt_snoc])
    have e1:((ba ds[j]).toList.isEmpty)=decide (ds[j]=[]):=ba_nil (ba ds[j])
    have e2:((ba ds[j]).toList==[46])=decide (ds[j]=[46]):=ba_beq ds[j] [46]
    clear hc1 hCr
    rcases good_cases ds[j] with ⟨h1,hgd⟩|⟨h1,h2,hgd⟩|⟨h1,h2,hgd⟩
    ·have HT2:=hid (show (ds.take (j+1)).filter goodP=(ds.take j).filter goodP by rw [HTS.out,hgd];rfl)
     rw [decide_eq_true h1] at e1
     clear h1 hgd HTS
     go_wp2_with fail
     go_roundw
     case rel=>exact ⟨_,j+1,rfl,by omega,by go_num,by rw [HT2.out];exact HO.out,HBR.out⟩
     case measure=>simp [intOf];omega
    ·have HT2:=hid (show (ds.take (j+1)).filter goodP=(ds.take j).filter goodP by rw [HTS.out,hgd];rfl)
     rw [decide_eq_false h1] at e1
     rw [decide_eq_true h2] at e2
     clear h1 hgd HTS h2
     go_wp2_with fail
     go_roundw
     case rel=>exact ⟨_,j+1,rfl,by omega,by go_num,by rw [HT2.out];exact HO.out,HBR.out⟩
     case measure=>simp [intOf];omega
    ·have HT2:=hid (show (ds.take (j+1)).filter goodP=(ds.take j).filter goodP++[ds[j]] by rw [HTS.out,hgd];rfl)
     rw [decide_eq_false h1] at e1
     rw [decide_eq_false h2] at e2
     clear h1 hgd HTS h2
     go_wp2_with (at_builtin;go_must (refine wpList_append_own _ rfl _ _ 142 rfl w2.heap.size 9 i0 (.string ByteArray.empty) 1 16 Tryz.underlying142 hi hz0 hz1 hz2 rfl (by decide) sv ((ds.take j).filter goodP).length (strs ((ds.take j).filter goodP)) rfl (HO2.out _) ⟨wr.heap.size,0,none⟩ 1 1 [.string (ba ds[j])] rfl rfl (HN1.out _) (str_one _) HL1.out HL2.out (HL3.out _) ?_;intro v' w9 hown' hgrow _;have hb2:=(HU2.out _).grown hgrow (HL3.out _) (fun k hk=>own_low HO.out (Nat.le_refl _) k hk);have HO3:=hid hown';have HB3:=hid hb2;clear hown' hgrow hb2))
     go_roundw
     case rel=>exact ⟨_,j+1,rfl,by omega,by go_num,by rw [HT2.out];exact own_ext HO3.out (by simp) (by rw [strs_snoc]),HB3.out⟩
     case measure=>simp [intOf];omega
   ·have HF:=hid (show (ds.take j).filter goodP=ds.filter goodP by rw [List.take_of_length_le (by omega)])
    have hdl:decide (j<ds.length)=false:=by simp;omega
    have hb:=byte_eq s 0 h0 47 47 rfl
    have HG:=hid (beg_at h0)
    clear hCr
    go_wp2_with fail
    go_quiet (fail)
    go_wp2_with fail
    refine bodyPost_ret (v:=.tuple #[sv,.bool (decide (s[0]=47)),.int .i64 0]) (by simp [results,Tryz.results70,go_sem]) rfl ⟨sv,by rw [HP.out.2,HH.out,HG.out],?_,?_⟩
    ·rw [HP.out.1,← HF.out]
     exact own_from HO.out (by omega)
    ·exact bdN (HB2.out.trans (HBR.out.mono (by omega))) _
 ·have HP:=hid (parts_bad h)
  have hn:(chkE s.data.toList != 0)=true:=by simpa using h
  clear h
  go_wp2_with fail
  refine bodyPost_ret (v:=.tuple #[.slice none 0 0,.bool false,.int .i64 (chkE s.data.toList)]) (by simp [results,Tryz.results70,go_sem]) rfl ⟨_,by rw [HP.out.2],?_,HB.out⟩
  rw [HP.out.1]
  exact World.ownsRow_nil _ _ _ _
end Go.Proofs.YtdjpjfdeeelijaaGreatDoor
