/- Merged: E0 E PM Y PN. Merged: P1 P2a P3 P4. creds.May, with what it needs. Merged: Fm F0 F1 F2 F3 F4. append(nil, x...), x nil or not, at the operation in a region that draws its order; and in a plain one. No program is named. -/
import Derived.Test.YtdjpjfdeeelijaaGreatDoorRows
import Derived.Test.YtdjpjfdeeelijaaGreatDoorKA
import Derived.Deep.QuietTactic
import Derived.BigQuiet
import Derived.Lib.Strings
import Derived.Lib.LastIndexByte
import Derived.Lib.IndexLaws
import Derived.Maps.AppendAt
import Derived.Test.YtdjpjfdeeelijaaGreatDoorShelf
import Derived.Deep.DeepMust
import Derived.Deep.RegionWith
import Derived.Laws.AppendOwnNone
import Derived.Lib.SliceRun
import Derived.Laws.BitsAllLaws
import Derived.Deep.RegionHeld3
import Derived.Maps.OwnSet
import Derived.Maps.Views
import Derived.Laws.EntriesVeiled
import Derived.Laws.OwnMore
import Derived.Deep.RegionLaw
import Derived.Deep.RegionLawGrows
namespace Go.Proofs.YtdjpjfdeeelijaaGreatDoor
open Go.RowKit Go.Sort
def strs (ds:List (List UInt8)):List Value:=ds.map fun l=>.string (ba l)
theorem strs_at {w:World}{b off:Nat}{l:List (List UInt8)}(hc:∀ i (h:i<(strs l).length),w.cell? ⟨b,off+i,none⟩=some (strs l)[i]){k:Nat}(hk:k<l.length):w.cell? ⟨b,off+k,none⟩=some (.string (ba l[k])):=by
 have:=hc k (by simpa [strs] using hk)
 rw [this]
 simp [strs]
theorem ba_beq2 (x y:List UInt8):((ba x).toList==(ba y).toList)=decide (x=y):=by
 rw [Lib.toList_data,Lib.toList_data,ba_list,ba_list,Bool.eq_iff_iff,beq_iff_eq,decide_eq_true_eq]
end Go.Proofs.YtdjpjfdeeelijaaGreatDoor
namespace Go.Proofs.YtdjpjfdeeelijaaGreatDoor
open Go.RowKit
abbrev BL:=List UInt8
def tooLong (l:BL):Bool:=(cuts 47 l).any fun p=>decide (32<p.length)
def chkE (l:BL):Int:=if l=[] then 3 else if 0∈l then 1 else if 200<l.length then 11 else if tooLong l then 11 else 0
def goodP (p:BL):Bool:=decide (p≠[])&&decide (p≠[46])
def partsL (l:BL):List BL:=(cuts 47 l).filter goodP
def begB (l:BL):Bool:=decide (l.head?=some 47)
def tailB (l:BL):Bool:=decide (l≠[])&&decide ((cst 47 l).2=[])
def partsF (l:BL):List BL:=if chkE l=0 then partsL l else []
def rootF (l:BL):Bool:=decide (chkE l=0)&&begB l
theorem cst_no {x:UInt8}{l:BL}(h:∀ c∈l,c≠x):cst x l=([],l):=by
 have:=cst_miss x [] l h
 simpa [cst_nil] using this
theorem cst_split {x:UInt8}(a m:BL)(h:∀ c∈m,c≠x):cst x (a++[x]++m)=(cuts x a,m):=by
 rw [cst_miss x (a++[x]) m h,cst_hit]
 simp [cuts]
/-- Either there is no such letter, or the last one parts the text. -/
theorem last_split (x:UInt8)(l:BL):(∀ c∈l,c≠x)∨∃ a m,l=a++[x]++m∧∀ c∈m,c≠x:=by
 induction l with
 | nil=>left;simp
 | cons c l ih=>
  rcases ih with h|⟨a,m,rfl,h⟩
  ·by_cases e:c=x
   ·subst e;right;exact ⟨[],l,by simp,h⟩
   ·left
    intro d hd
    rcases List.mem_cons.1 hd with rfl|hd
    ·exact e
    ·exact h d hd
  ·right;exact ⟨c::a,m,by simp,h⟩
theorem hasPrefix_47 (l:BL):Lib.hasPrefix l [47]=begB l:=by
 rw [Bool.eq_iff_iff]
 unfold begB Lib.hasPrefix
 rw [List.isPrefixOf_iff_prefix,decide_eq_true_eq]
 cases l with
 | nil=>simp
 | cons c l=>simp [List.cons_prefix_cons,eq_comm]
theorem tail_iff (l:BL):tailB l=true↔∃ a,l=a++[47]:=by
 unfold tailB
 rw [Bool.and_eq_true,decide_eq_true_eq,decide_eq_true_eq]
 rcases last_split 47 l with h|⟨a,m,rfl,h⟩
 ·rw [cst_no h]
  constructor
  ·rintro ⟨h1,h2⟩;exact absurd h2 h1
  ·rintro ⟨a,rfl⟩
   exact absurd rfl (h 47 (by simp))
 ·rw [cst_split a m h]
  constructor
  ·rintro ⟨_,h2⟩
   simp only [] at h2
   subst h2
   exact ⟨a,by simp⟩
  ·rintro ⟨b,hb⟩
   refine ⟨by simp,?_⟩
   rcases List.eq_nil_or_concat m with rfl|⟨m',c,rfl⟩
   ·rfl
   ·exfalso
    have:c=47:=by
     rw [List.concat_eq_append,← List.append_assoc] at hb
     have h2:=List.append_inj_right' hb rfl
     simpa using h2
    exact h c (by simp) this
theorem hasSuffix_47 (l:BL):Lib.hasSuffix l [47]=tailB l:=by
 rw [Bool.eq_iff_iff,tail_iff]
 unfold Lib.hasSuffix
 rw [List.isSuffixOf_iff_suffix]
 constructor
 ·rintro ⟨a,h⟩;exact ⟨a,h.symm⟩
 ·rintro ⟨a,h⟩;exact ⟨a,h.symm⟩
theorem index_nul (l:BL):(0≤Lib.indexByte l 0)↔0∈l:=by
 have hg:=Lib.indexByte_ge l 0
 constructor
 ·intro h
  obtain ⟨o,ho⟩:=Int.eq_ofNat_of_zero_le h
  exact List.mem_of_getElem? (Lib.indexByte_some ho).1
 ·intro h
  by_cases h1:Lib.indexByte l 0=-1
  ·obtain ⟨i,hi,e⟩:=List.getElem_of_mem h
   exact absurd (by rw [List.getElem?_eq_getElem hi,e]) (Lib.indexByte_none h1 i)
  ·omega
theorem ba_nil (s:ByteArray):s.toList.isEmpty=decide (s.data.toList=[]):=by
 rw [Lib.toList_data]
 cases s.data.toList <;> rfl
theorem cfold_shift (x:UInt8)(D:List BL):∀ (m:BL) (st:List BL × BL),m.foldl (cstep x) (D++st.1,st.2)=(D++(m.foldl (cstep x) st).1,(m.foldl (cstep x) st).2)
 | [],st=>rfl
 | c::m,st=>by
  have h:cstep x (D++st.1,st.2) c=(D++(cstep x st c).1,(cstep x st c).2):=by unfold cstep;split <;> simp
  rw [List.foldl_cons,List.foldl_cons,h,cfold_shift x D m]
theorem cuts_mid (x:UInt8)(a m:BL):cuts x (a++[x]++m)=cuts x a++cuts x m:=by
 have h:cst x (a++[x]++m)=(cuts x a++(cst x m).1,(cst x m).2):=by
  have h1:cst x (a++[x]++m)=m.foldl (cstep x) (cst x (a++[x])):=by unfold cst;rw [List.foldl_append]
  rw [h1,cst_hit]
  have:=cfold_shift x (cuts x a) m ([],[])
  simpa [cuts,cst] using this
 unfold cuts at h ⊢
 rw [h]
 simp
theorem cuts_no {x:UInt8}{m:BL}(h:∀ c∈m,c≠x):cuts x m=[m]:=by unfold cuts;rw [cst_no h];rfl
theorem parts_mid (a m:BL):partsL (a++[47]++m)=partsL a++partsL m:=by unfold partsL;rw [cuts_mid,List.filter_append]
theorem long_mid (a m:BL):tooLong (a++[47]++m)=(tooLong a||tooLong m):=by unfold tooLong;rw [cuts_mid,List.any_append]
theorem parts_nil:partsL []=[]:=by decide
theorem chk0 (l:BL):chkE l=0↔l≠[]∧¬ 0∈l∧l.length≤200∧tooLong l=false:=by
 unfold chkE
 constructor
 ·intro h
  by_cases h1:l=[]
  ·rw [if_pos h1] at h;omega
  ·rw [if_neg h1] at h
   by_cases h2:0∈l
   ·rw [if_pos h2] at h;omega
   ·rw [if_neg h2] at h
    by_cases h3:200<l.length
    ·rw [if_pos h3] at h;omega
    ·rw [if_neg h3] at h
     cases h4:tooLong l
     ·exact ⟨h1,h2,by omega,rfl⟩
     ·rw [h4] at h;simp at h
 ·rintro ⟨h1,h2,h3,h4⟩
  rw [if_neg h1,if_neg h2,if_neg (by omega),h4]
  rfl
/-! What is taken apart, and joined by slashes. -/
def jn:List BL→BL
 | []=>[]
 | [p]=>p
 | p::q::r=>p++[47]++jn (q::r)
def tot (ds:List BL):Nat:=(ds.map fun p=>p.length+1).sum
theorem jn_len:∀ ds:List BL,ds≠[]→(jn ds).length+1=tot ds
 | [],h=>absurd rfl h
 | [p],_=>by simp [jn,tot]
 | p::q::r,_=>by
  have:=jn_len (q::r) (by simp)
  simp only [jn,tot,List.map_cons,List.sum_cons,List.length_append,List.length_singleton] at this ⊢
  omega
theorem cuts_jn:∀ ds:List BL,ds≠[]→(∀ p∈ds,∀ c∈p,c≠47)→cuts 47 (jn ds)=ds
 | [],h,_=>absurd rfl h
 | [p],_,hn=>cuts_no (hn p (by simp))
 | p::q::r,_,hn=>by
  rw [jn,cuts_mid,cuts_jn (q::r) (by simp) (fun p' hp'=>hn p' (List.mem_cons_of_mem _ hp')),cuts_no (hn p (by simp))]
  rfl
theorem mem_jn:∀ (ds:List BL) (c:UInt8),c∈jn ds→c=47∨∃ p∈ds,c∈p
 | [],c,h=>by simp [jn] at h
 | [p],c,h=>.inr ⟨p,by simp,h⟩
 | p::q::r,c,h=>by
  simp only [jn,List.mem_append,List.mem_singleton] at h
  rcases h with (h|h)|h
  ·exact .inr ⟨p,by simp,h⟩
  ·exact .inl h
  ·rcases mem_jn (q::r) c h with h|⟨p',h1,h2⟩
   ·exact .inl h
   ·exact .inr ⟨p',List.mem_cons_of_mem _ h1,h2⟩
theorem cfold_tot (x:UInt8):∀ (m:BL) (st:List BL × BL),tot (m.foldl (cstep x) st).1+(m.foldl (cstep x) st).2.length=tot st.1+st.2.length+m.length
 | [],st=>rfl
 | c::m,st=>by
  rw [List.foldl_cons,cfold_tot x m]
  have:tot (cstep x st c).1+(cstep x st c).2.length=tot st.1+st.2.length+1:=by
   unfold cstep
   split
   ·simp [tot];omega
   ·simp;omega
  simp only [List.length_cons]
  omega
theorem tot_cuts (x:UInt8)(l:BL):tot (cuts x l)=l.length+1:=by
 have:=cfold_tot x l ([],[])
 unfold cuts cst
 simp only [tot,List.map_append,List.sum_append,List.map_nil,List.sum_nil,List.length_nil,List.map_cons,List.sum_cons] at this ⊢
 omega
theorem tot_filter (f:BL→Bool):∀ ds:List BL,tot (ds.filter f)≤tot ds
 | []=>Nat.le_refl _
 | p::ds=>by
  have:=tot_filter f ds
  simp only [tot,List.filter_cons,List.map_cons,List.sum_cons] at this ⊢
  split
  ·simp only [List.map_cons,List.sum_cons];omega
  ·omega
theorem cfold_mem (x:UInt8)(L:BL):∀ (m:BL) (st:List BL × BL),(∀ c∈m,c∈L)→(∀ p∈st.1++[st.2],∀ c∈p,c≠x∧c∈L)→∀ p∈(m.foldl (cstep x) st).1++[(m.foldl (cstep x) st).2],∀ c∈p,c≠x∧c∈L
 | [],st,_,h=>h
 | d::m,st,hm,h=>by
  rw [List.foldl_cons]
  refine cfold_mem x L m _ (fun c hc=>hm c (List.mem_cons_of_mem _ hc)) ?_
  unfold cstep
  split
  ·intro p hp c hc
   simp only [List.mem_append,List.mem_singleton] at hp
   rcases hp with hp|hp
   ·exact h p (by simpa using hp) c hc
   ·subst hp;simp at hc
  ·rename_i hdx
   intro p hp c hc
   simp only [List.mem_append,List.mem_singleton] at hp
   rcases hp with hp|hp
   ·exact h p (by simp [hp]) c hc
   ·subst hp
    rcases List.mem_append.1 hc with hc|hc
    ·exact h st.2 (by simp) c hc
    ·simp at hc
     subst hc
     exact ⟨hdx,hm _ (by simp)⟩
theorem cuts_mem (x:UInt8)(l:BL):∀ p∈cuts x l,∀ c∈p,c≠x∧c∈l:=by
 have:=cfold_mem x l l ([],[]) (fun c hc=>hc) (by simp)
 exact this
open Go.Sort
theorem take_more (l:List UInt8)(k n:Nat):l.take (k+n)=l.take k++(l.drop k).take n:=by rw [List.take_add]
theorem cfold_len (x:UInt8)(l:List UInt8):∀ st:List (List UInt8) × List UInt8,(l.foldl (cstep x) st).1.length≤st.1.length+l.length:=by
 induction l with
 | nil=>intro st;simp
 | cons c l ih=>
  intro st
  have h:=ih (cstep x st c)
  have h2:(cstep x st c).1.length≤st.1.length+1:=by unfold cstep;split <;> simp
  simp only [List.foldl_cons,List.length_cons]
  omega
theorem cst_len (x:UInt8)(l:List UInt8):(cst x l).1.length≤l.length:=by
 have:=cfold_len x l ([],[])
 simpa [cst] using this
theorem hit_at {s:ByteArray}{k f:Nat}(hk:k<s.size)(h47:s[k]=47)(hc:(cst 47 (s.data.toList.take k)).2=(s.data.toList.take k).drop f):
 cst 47 (s.data.toList.take (k+1))=((cst 47 (s.data.toList.take k)).1++[(s.data.toList.take k).drop f],[]):=by
 have hl:k<s.data.toList.length:=by rw [size_list];exact hk
 have e:s.data.toList.take (k+1)=s.data.toList.take k++[47]:=by
  rw [List.take_succ_eq_append_getElem hl]
  congr 2
 rw [e,cst_hit,hc]
theorem miss_at {s:ByteArray}{k f n:Nat}(hf:f≤k)(hk:k+n≤s.size)(hno:∀ j (hj:j<s.size),k≤j→j<k+n→s[j]≠47)(hc:(cst 47 (s.data.toList.take k)).2=(s.data.toList.take k).drop f):
 cst 47 (s.data.toList.take (k+n))=((cst 47 (s.data.toList.take k)).1,(s.data.toList.take (k+n)).drop f):=by
 have hl:k+n≤s.data.toList.length:=by rw [size_list];exact hk
 rw [take_more,cst_miss,hc]
 ·rw [List.drop_append_of_le_length (by simp;omega)]
 ·intro c hcm
  obtain ⟨i,hi,e⟩:=List.getElem_of_mem hcm
  simp only [List.length_take,List.length_drop] at hi
  rw [List.getElem_take,List.getElem_drop] at e
  rw [← e]
  exact hno (k+i) (by omega) (by omega) (by omega)
set_option maxHeartbeats 1000000 in
theorem piecesP_any (s:ByteArray)(p:Nat)(J:List (List UInt8)→World→Prop)(w:World)(hs:s.size≤1000000)(h0:J [] (w.iter s 0))
 (hmv:∀ ds wr q q',J ds wr→wr.heap[w.heap.size]?=some (.stringIter s q)→J ds (mvIter wr w.heap.size s q'))
 (hstep:∀ ds (x:List UInt8) wr,J ds wr→x.length≤s.size→ds.length≤s.size→Calls Tryz.prog 133 #[.string (ba x),.pointer (some ⟨p,0,none⟩)] wr fun e w'=>e=.returned (.tuple #[])∧J (ds++[x]) w'∧∀ q,wr.heap[w.heap.size]?=some (.stringIter s q)→w'.heap[w.heap.size]?=some (.stringIter s q)):
 Calls Tryz.prog 132 #[.string s,.func (.func 133) #[] #[.pointer (some ⟨p,0,none⟩)]] w fun e' w'=>e'=.returned (.tuple #[])∧J (cuts 47 s.data.toList) w':=by
 have HMV:=hid hmv
 have HST:=hid hstep
 have H0:=hid h0
 clear hmv hstep h0
 go_enter Tryz.func132,Tryz.ntmps132
 go_wp2_with fail
 have hit0:=World.iter_heap w s 0
 obtain ⟨w0,hw0⟩:∃ w0,w0=w.iter s 0:=⟨_,rfl⟩
 rw [← hw0] at hit0 H0
 rw [← hw0]
 clear hw0
 generalize w.heap.size=g at *
 go_loopw [4] (fun v wr=>∃ k f:Nat,f≤k∧k≤s.size∧v=.int .i64 f∧(cst 47 (s.data.toList.take k)).2=(s.data.toList.take k).drop f∧J (cst 47 (s.data.toList.take k)).1 wr∧wr.heap[g]?=some (.stringIter s k)) (fun _ wr=>s.size-wr.iterPos g)
 case atStart=>exact ⟨0,0,Nat.le_refl _,Nat.zero_le _,rfl,rfl,H0.out,hit0⟩
 case round=>
  clear hit0 H0
  obtain ⟨k,f,hfk,hk,rfl,hc,hJ,hg⟩:=hrel
  have HIP:Hid (wr.iterPos g=k):=hid (by unfold World.iterPos;rw [hg])
  have HC:=hid hc
  have HJ:=hid hJ
  have HCL:Hid ((cst 47 (s.data.toList.take k)).1.length≤s.size):=hid (by have:=cst_len 47 (s.data.toList.take k);simp at this;have h2:s.data.size=s.size:=rfl;omega)
  have HG:=hid hg
  clear hc hJ hg
  by_cases hlt:k<s.size
  ·rcases decode_47 s k hlt with ⟨h47,hd1,hd2⟩|⟨hd1,hd2,hd3,hno⟩
   ·have hnx:=fun ty=>run_next_at (P:=Tryz.prog) ty HG.out hlt
    rw [hd1,hd2] at hnx
    have HG2:=hid (mvIter_at (k+1) HG.out)
    have HJ2:=hid (HMV.out _ _ _ (k+1) HJ.out HG.out)
    have HCC:=hid (hit_at hlt h47 HC.out)
    have hseg:s.extract f k=ba ((s.data.toList.take k).drop f):=ba_extract s f k
    have HSEG:=hid hseg
    have HLEN:Hid (((s.data.toList.take k).drop f).length≤s.size):=hid (by simp;omega)
    clear hseg hd1 hd2 h47
    generalize mvIter wr g s (k+1)=wn at *
    go_wp2_with fail
    rw [HSEG.out]
    refine (HST.out _ _ _ HJ2.out HLEN.out HCL.out).mono ?_
    rintro e' w2 ⟨rfl,hJ3,hG3⟩
    have HJ3:=hid hJ3
    have HG3:=hid (hG3 _ HG2.out)
    clear hJ3 hG3 hnx
    go_wp2_with fail
    go_roundw
    case rel=>exact ⟨k+1,k+1,Nat.le_refl _,by omega,by go_num,by rw [HCC.out];simp,by rw [HCC.out];exact HJ3.out,HG3.out⟩
    case measure=>
     have e1:w2.iterPos g=k+1:=by unfold World.iterPos;rw [HG3.out]
     rw [e1,HIP.out];omega
   ·have hnx:=fun ty=>run_next_at (P:=Tryz.prog) ty HG.out hlt
    have HG2:=hid (mvIter_at (k+(Utf8.decode s k).2) HG.out)
    have HJ2:=hid (HMV.out _ _ _ (k+(Utf8.decode s k).2) HJ.out HG.out)
    have HCC:=hid (miss_at hfk hd3 hno HC.out)
    have hb:(((Utf8.decode s k).1:Int)==47)=false:=by simp;omega
    clear hd1 hno
    generalize mvIter wr g s (k+(Utf8.decode s k).2)=wn at *
    generalize (Utf8.decode s k).1=r at *
    generalize (Utf8.decode s k).2=n at *
    go_wp2_with fail
    go_roundw
    case rel=>exact ⟨k+n,f,by omega,by omega,rfl,by rw [HCC.out],by rw [HCC.out];exact HJ2.out,HG2.out⟩
    case measure=>
     have e1:wn.iterPos g=k+n:=by unfold World.iterPos;rw [HG2.out]
     rw [e1,HIP.out];omega
  ·have hnx:=fun ty=>run_next_no (P:=Tryz.prog) ty HG.out hlt
   have hk2:k=s.size:=by omega
   have HK2:=hid hk2
   have HSEG:Hid (s.extract f s.size=ba (s.data.toList.drop f)):=hid (by rw [ba_extract,List.take_of_length_le (by rw [size_list];exact Nat.le_refl _)])
   have HCC:=hid (show cuts 47 s.data.toList=(cst 47 (s.data.toList.take k)).1++[s.data.toList.drop f] by
    have e:s.data.toList.take k=s.data.toList:=List.take_of_length_le (by rw [size_list];omega)
    unfold cuts
    have:=HC.out
    rw [e] at this ⊢
    rw [this])
   have HLEN:Hid ((s.data.toList.drop f).length≤s.size):=hid (by simp)
   clear hk2
   go_wp2_with fail
   rw [HSEG.out]
   refine (HST.out _ _ _ HJ.out HLEN.out HCL.out).mono ?_
   rintro e' w2 ⟨rfl,hJ3,hG3⟩
   have HJ3:=hid hJ3
   clear hJ3 hG3 hnx
   go_wp2_with fail
   refine bodyPost_end (results_none rfl _ _ _) rfl ⟨rfl,?_⟩
   rw [HCC.out]
   exact HJ3.out
set_option maxHeartbeats 1000000 in
theorem piecesC_any (s:ByteArray)(p:Nat)(J:List (List UInt8)→World→Prop)(w:World)(hs:s.size≤1000000)(h0:J [] (w.iter s 0))
 (hmv:∀ ds wr q q',J ds wr→wr.heap[w.heap.size]?=some (.stringIter s q)→J ds (mvIter wr w.heap.size s q'))
 (hstep:∀ ds (x:List UInt8) wr,J ds wr→x.length≤s.size→ds.length≤s.size→Calls Tryz.prog 139 #[.string (ba x),.pointer (some ⟨p,0,none⟩)] wr fun e w'=>e=.returned (.tuple #[])∧J (ds++[x]) w'∧∀ q,wr.heap[w.heap.size]?=some (.stringIter s q)→w'.heap[w.heap.size]?=some (.stringIter s q)):
 Calls Tryz.prog 132 #[.string s,.func (.func 139) #[] #[.pointer (some ⟨p,0,none⟩)]] w fun e' w'=>e'=.returned (.tuple #[])∧J (cuts 47 s.data.toList) w':=by
 have HMV:=hid hmv
 have HST:=hid hstep
 have H0:=hid h0
 clear hmv hstep h0
 go_enter Tryz.func132,Tryz.ntmps132
 go_wp2_with fail
 have hit0:=World.iter_heap w s 0
 obtain ⟨w0,hw0⟩:∃ w0,w0=w.iter s 0:=⟨_,rfl⟩
 rw [← hw0] at hit0 H0
 rw [← hw0]
 clear hw0
 generalize w.heap.size=g at *
 go_loopw [4] (fun v wr=>∃ k f:Nat,f≤k∧k≤s.size∧v=.int .i64 f∧(cst 47 (s.data.toList.take k)).2=(s.data.toList.take k).drop f∧J (cst 47 (s.data.toList.take k)).1 wr∧wr.heap[g]?=some (.stringIter s k)) (fun _ wr=>s.size-wr.iterPos g)
 case atStart=>exact ⟨0,0,Nat.le_refl _,Nat.zero_le _,rfl,rfl,H0.out,hit0⟩
 case round=>
  clear hit0 H0
  obtain ⟨k,f,hfk,hk,rfl,hc,hJ,hg⟩:=hrel
  have HIP:Hid (wr.iterPos g=k):=hid (by unfold World.iterPos;rw [hg])
  have HC:=hid hc
  have HJ:=hid hJ
  have HCL:Hid ((cst 47 (s.data.toList.take k)).1.length≤s.size):=hid (by have:=cst_len 47 (s.data.toList.take k);simp at this;have h2:s.data.size=s.size:=rfl;omega)
  have HG:=hid hg
  clear hc hJ hg
  by_cases hlt:k<s.size
  ·rcases decode_47 s k hlt with ⟨h47,hd1,hd2⟩|⟨hd1,hd2,hd3,hno⟩
   ·have hnx:=fun ty=>run_next_at (P:=Tryz.prog) ty HG.out hlt
    rw [hd1,hd2] at hnx
    have HG2:=hid (mvIter_at (k+1) HG.out)
    have HJ2:=hid (HMV.out _ _ _ (k+1) HJ.out HG.out)
    have HCC:=hid (hit_at hlt h47 HC.out)
    have hseg:s.extract f k=ba ((s.data.toList.take k).drop f):=ba_extract s f k
    have HSEG:=hid hseg
    have HLEN:Hid (((s.data.toList.take k).drop f).length≤s.size):=hid (by simp;omega)
    clear hseg hd1 hd2 h47
    generalize mvIter wr g s (k+1)=wn at *
    go_wp2_with fail
    rw [HSEG.out]
    refine (HST.out _ _ _ HJ2.out HLEN.out HCL.out).mono ?_
    rintro e' w2 ⟨rfl,hJ3,hG3⟩
    have HJ3:=hid hJ3
    have HG3:=hid (hG3 _ HG2.out)
    clear hJ3 hG3 hnx
    go_wp2_with fail
    go_roundw
    case rel=>exact ⟨k+1,k+1,Nat.le_refl _,by omega,by go_num,by rw [HCC.out];simp,by rw [HCC.out];exact HJ3.out,HG3.out⟩
    case measure=>
     have e1:w2.iterPos g=k+1:=by unfold World.iterPos;rw [HG3.out]
     rw [e1,HIP.out];omega
   ·have hnx:=fun ty=>run_next_at (P:=Tryz.prog) ty HG.out hlt
    have HG2:=hid (mvIter_at (k+(Utf8.decode s k).2) HG.out)
    have HJ2:=hid (HMV.out _ _ _ (k+(Utf8.decode s k).2) HJ.out HG.out)
    have HCC:=hid (miss_at hfk hd3 hno HC.out)
    have hb:(((Utf8.decode s k).1:Int)==47)=false:=by simp;omega
    clear hd1 hno
    generalize mvIter wr g s (k+(Utf8.decode s k).2)=wn at *
    generalize (Utf8.decode s k).1=r at *
    generalize (Utf8.decode s k).2=n at *
    go_wp2_with fail
    go_roundw
    case rel=>exact ⟨k+n,f,by omega,by omega,rfl,by rw [HCC.out],by rw [HCC.out];exact HJ2.out,HG2.out⟩
    case measure=>
     have e1:wn.iterPos g=k+n:=by unfold World.iterPos;rw [HG2.out]
     rw [e1,HIP.out];omega
  ·have hnx:=fun ty=>run_next_no (P:=Tryz.prog) ty HG.out hlt
   have hk2:k=s.size:=by omega
   have HK2:=hid hk2
   have HSEG:Hid (s.extract f s.size=ba (s.data.toList.drop f)):=hid (by rw [ba_extract,List.take_of_length_le (by rw [size_list];exact Nat.le_refl _)])
   have HCC:=hid (show cuts 47 s.data.toList=(cst 47 (s.data.toList.take k)).1++[s.data.toList.drop f] by
    have e:s.data.toList.take k=s.data.toList:=List.take_of_length_le (by rw [size_list];omega)
    unfold cuts
    have:=HC.out
    rw [e] at this ⊢
    rw [this])
   have HLEN:Hid ((s.data.toList.drop f).length≤s.size):=hid (by simp)
   clear hk2
   go_wp2_with fail
   rw [HSEG.out]
   refine (HST.out _ _ _ HJ.out HLEN.out HCL.out).mono ?_
   rintro e' w2 ⟨rfl,hJ3,hG3⟩
   have HJ3:=hid hJ3
   clear hJ3 hG3 hnx
   go_wp2_with fail
   refine bodyPost_end (results_none rfl _ _ _) rfl ⟨rfl,?_⟩
   rw [HCC.out]
   exact HJ3.out
theorem begins_any (s:ByteArray)(w:World):
 Calls Tryz.prog 134 #[.string s] w fun e' w'=>e'=.returned (.bool (begB s.data.toList))∧w=w':=by
 go_enter Tryz.func134,Tryz.ntmps134
 go_wp2_with fail
 refine (Tryz.strings_HasPrefix _ _ _).mono ?_
 rintro e' w1 ⟨rfl,rfl⟩
 rw [show Lib.hasPrefix s.data.toList (ByteArray.mk #[47]).data.toList=begB s.data.toList from hasPrefix_47 _]
 go_wp2_with fail
 go_ret
 exact ⟨rfl,rfl⟩
theorem tail_any (s:ByteArray)(w:World)(hs:s.size≤1000000):
 Calls Tryz.prog 125 #[.string s] w fun e' w'=>e'=.returned (.bool (tailB s.data.toList))∧w=w':=by
 go_enter Tryz.func125,Tryz.ntmps125
 go_wp2_with fail
 refine (Tryz.strings_HasSuffix _ _ _ (by omega)).mono ?_
 rintro e' w1 ⟨rfl,rfl⟩
 rw [show Lib.hasSuffix s.data.toList (ByteArray.mk #[47]).data.toList=tailB s.data.toList from hasSuffix_47 _]
 go_wp2_with fail
 go_ret
 exact ⟨rfl,rfl⟩
def anyLong (ds:List BL):Bool:=ds.any fun p=>decide (32<p.length)
def chkJ (g:Nat)(w0:World)(ds:List BL)(w:World):Prop:=Row w g 32 [.int .i64 (if anyLong ds then 11 else 0)]∧Below w0.heap.size w0 w∧w0.heap.size≤g
theorem anyLong_snoc (ds:List BL)(x:BL):anyLong (ds++[x])=(anyLong ds||decide (32<x.length)):=by simp [anyLong]
set_option maxHeartbeats 1000000 in
theorem check1_any (x:BL)(g:Nat)(ds:List BL)(w0 w:World)(hx:x.length≤1000000)(hJ:chkJ g w0 ds w):
 Calls Tryz.prog 139 #[.string (ba x),.pointer (some ⟨g,0,none⟩)] w fun e w'=>e=.returned (.tuple #[])∧chkJ g w0 (ds++[x]) w'∧(∀ b,b≠g→w'.heap[b]?=w.heap[b]?):=by
 obtain ⟨hr,hb,hg⟩:=hJ
 have HR:=hid hr
 have hf:=hr.frozen 0
 have hc:=hr.cell 0 (by simp)
 have hlt:=hr.lt
 have HB:=hid hb
 have HS:=hid (anyLong_snoc ds x)
 have hsz:=ba_size x
 have hsz1:(ba x).size≤1000000:=by omega
 have HSZ:=hid hsz
 clear hr hb hsz
 by_cases h:32<x.length
 ·have hd:32<((ba x).size:Int):=by rw [HSZ.out];omega
  go_enter Tryz.func139,Tryz.ntmps139
  go_wp2_with fail
  refine bodyPost_end (results_none rfl _ _ _) rfl ⟨rfl,⟨?_,?_,hg⟩,?_⟩
  ·have:=HR.out.set 0 (.int .i64 11)
   rw [HS.out]
   simpa [h] using this
  ·exact bset HB.out hg _
  ·intro b hb;exact heap_setCell_other _ _ _ _ (by simpa using hb)
 ·have hd:¬ 32<((ba x).size:Int):=by rw [HSZ.out];omega
  go_enter Tryz.func139,Tryz.ntmps139
  go_wp2_with fail
  refine bodyPost_end (results_none rfl _ _ _) rfl ⟨rfl,⟨?_,?_,hg⟩,?_⟩
  ·rw [HS.out]
   simpa [h] using HR.out
  ·exact HB.out
  ·intro b hb;rfl
theorem chk_eq (l:BL)(h1:l≠[])(h2:¬ 0∈l)(h3:l.length≤200):chkE l=if anyLong (cuts 47 l) then 11 else 0:=by
 unfold chkE
 rw [if_neg h1,if_neg h2,if_neg (by omega)]
 rfl
set_option maxHeartbeats 1000000 in
theorem check_any (s:ByteArray)(w:World)(hs:s.size≤1000000):
 Calls Tryz.prog 130 #[.string s] w fun e' w'=>e'=.returned (.int .i64 (chkE s.data.toList))∧Below w.heap.size w w':=by
 have hne:=ba_nil s
 have HE:=hid (show chkE s.data.toList=if s.data.toList=[] then 3 else if 0∈s.data.toList then 1 else if 200<s.data.toList.length then 11 else if tooLong s.data.toList then 11 else 0 from rfl)
 have HRF:=hid (Below.refl w.heap.size w)
 by_cases h1:s.data.toList=[]
 ·rw [decide_eq_true h1] at hne
  have HF:=hid (show chkE s.data.toList=3 by rw [HE.out,if_pos h1])
  clear h1
  go_enter Tryz.func130,Tryz.ntmps130
  go_wp2_with fail
  go_ret
  exact ⟨ret_i64 HF.out.symm,HRF.out⟩
 ·rw [decide_eq_false h1] at hne
  have H1:=hid h1
  clear h1
  have hix:=index_nul s.data.toList
  have hge:=Lib.indexByte_ge s.data.toList 0
  by_cases h2:0∈s.data.toList
  ·have h0:0≤Lib.indexByte s.data.toList 0:=hix.2 h2
   have HF:=hid (show chkE s.data.toList=1 by rw [HE.out,if_neg H1.out,if_pos h2])
   clear h2 hix
   go_enter Tryz.func130,Tryz.ntmps130
   go_wp2_with fail
   refine (Tryz.strings_IndexByte _ _ _).mono ?_
   rintro e' w1 ⟨rfl,rfl⟩
   rw [show (0:Int).toNat.toUInt8=0 from rfl]
   generalize Lib.indexByte s.data.toList 0=x at *
   go_wp2_with fail
   go_ret
   exact ⟨ret_i64 HF.out.symm,HRF.out⟩
  ·have h0:Lib.indexByte s.data.toList 0<0:=by
    rcases Int.lt_or_le (Lib.indexByte s.data.toList 0) 0 with h|h
    ·exact h
    ·exact absurd (hix.1 h) h2
   have H2:=hid h2
   clear h2 hix
   by_cases h3:200<s.size
   ·have HF:=hid (show chkE s.data.toList=11 by rw [HE.out,if_neg H1.out,if_neg H2.out,if_pos (by rw [size_list];exact h3)])
    have h3':200<(s.size:Int):=by omega
    go_enter Tryz.func130,Tryz.ntmps130
    go_wp2_with fail
    refine (Tryz.strings_IndexByte _ _ _).mono ?_
    rintro e' w1 ⟨rfl,rfl⟩
    rw [show (0:Int).toNat.toUInt8=0 from rfl]
    generalize Lib.indexByte s.data.toList 0=x at *
    go_wp2_with fail
    go_ret
    exact ⟨ret_i64 HF.out.symm,HRF.out⟩
   ·have HF:=hid (chk_eq s.data.toList H1.out H2.out (by rw [size_list];omega))
    have h3':¬ 200<(s.size:Int):=by omega
    go_enter Tryz.func130,Tryz.ntmps130
    go_wp2_with fail
    refine (Tryz.strings_IndexByte _ _ _).mono ?_
    rintro e' w1 ⟨rfl,rfl⟩
    rw [show (0:Int).toNat.toUInt8=0 from rfl]
    generalize Lib.indexByte s.data.toList 0=x at *
    go_wp2_with fail
    refine (piecesC_any s w1.heap.size (chkJ w1.heap.size w1) _ hs ?_ ?_ ?_).mono ?_
    ·exact ⟨(Row.new w1 32 [.int .i64 0]).alloc _,(bal _).alloc (by simp) _,Nat.le_refl _⟩
    ·rintro ds wr q q' ⟨hr,hb,hg⟩ hit
     exact ⟨mvIter_row hr hit q',mvIter_below hb (by simp) q',hg⟩
    ·intro ds x' wr hJ hx _
     refine (check1_any x' _ ds w1 wr (by omega) hJ).mono ?_
     rintro e w2 ⟨rfl,hJ2,hfr⟩
     refine ⟨rfl,hJ2,fun q hq=>?_⟩
     rw [hfr]
     ·exact hq
     ·intro e
      have:=hJ.1.heap
      rw [← e,hq] at this
      cases this
    ·rintro e' w2 ⟨rfl,hr,hb,_⟩
     have hc:=hr.cell 0 (by simp)
     have HB:=hid hb
     clear hr hb
     simp only [List.getElem_cons_zero] at hc
     rw [← HF.out] at hc
     go_wp2_with fail
     go_ret
     exact ⟨rfl,HB.out⟩
abbrev OwnT (w:World)(base:Nat)(v:Value)(ds:List BL):Prop:=w.ownsRow base 9 1 v ds.length (strs ds)
theorem strs_snoc (ds:List BL)(x:BL):strs (ds++[x])=strs ds++[.string (ba x)]:=by simp [strs]
theorem infoStr:(Tryz.prog.info? 9).map (fun i=>(i.zero,i.size,i.bytes))=some (some (.string ByteArray.empty),1,16):=by kernel_rfl
/-- What Parts' closure keeps: the variable holds the pieces that count. -/
def parJ (g base:Nat)(w0:World)(ds:List BL)(w:World):Prop:=∃ v,Row w g 142 [v]∧OwnT w base v (ds.filter goodP)∧Below w0.heap.size w0 w∧w0.heap.size≤g∧g<base∧base≤w.heap.size∧(ds.filter goodP=[]→v=.slice none 0 0)
theorem good_cases (x:BL):(x=[]∧goodP x=false)∨(x≠[]∧x=[46]∧goodP x=false)∨(x≠[]∧x≠[46]∧goodP x=true):=by
 by_cases h1:x=[]
 ·left;exact ⟨h1,by simp [goodP,h1]⟩
 ·by_cases h2:x=[46]
  ·right;left;exact ⟨h1,h2,by simp [goodP,h2]⟩
  ·right;right;exact ⟨h1,h2,by simp [goodP,h1,h2]⟩
theorem filt_snoc (ds:List BL)(x:BL):(ds++[x]).filter goodP=if goodP x then ds.filter goodP++[x] else ds.filter goodP:=by
 rw [List.filter_append]
 cases h:goodP x <;> simp [h]
theorem ba_beq (x y:BL):((ba x).toList==y)=decide (x=y):=by
 rw [Lib.toList_data,ba_list,Bool.eq_iff_iff,beq_iff_eq,decide_eq_true_eq]
theorem str_one (x:ByteArray):∀ u∈[Value.string x],u.oneCell'=true:=by
 intro u hu
 simp at hu
 subst hu
 rfl
set_option maxHeartbeats 1000000 in
theorem parts1_any (x:BL)(g base:Nat)(ds:List BL)(w0 w:World)(hx:ds.length≤1000000)(hJ:parJ g base w0 ds w):
 Calls Tryz.prog 133 #[.string (ba x),.pointer (some ⟨g,0,none⟩)] w fun e w'=>e=.returned (.tuple #[])∧parJ g base w0 (ds++[x]) w'∧(∀ (b:Nat) (s:ByteArray) (q:Nat),w.heap[b]?=some (Obj.stringIter s q)→w'.heap[b]?=some (Obj.stringIter s q)):=by
 obtain ⟨v,hr,ho,hb,hg,hgb,hbz,hnil⟩:=hJ
 have HNIL:=hid hnil
 clear hnil
 have HFS:=hid (filt_snoc ds x)
 have HR:=hid hr
 have HO:=hid ho
 have HB:=hid hb
 have e1:((ba x).toList.isEmpty)=decide (x=[]):=ba_nil (ba x)
 have e2:((ba x).toList==[46])=decide (x=[46]):=ba_beq x [46]
 rcases good_cases x with ⟨h1,hgd⟩|⟨h1,h2,hgd⟩|⟨h1,h2,hgd⟩
 ·rw [hgd] at HFS
  rw [decide_eq_true h1] at e1
  clear hr ho hb h1 hgd
  go_enter Tryz.func133,Tryz.ntmps133
  go_wp2_with fail
  refine bodyPost_end (results_none rfl _ _ _) rfl ⟨rfl,⟨v,HR.out,?_,HB.out,hg,hgb,hbz,?_⟩,fun _ _ _ h=>h⟩
  ·rw [HFS.out];exact HO.out
  ·rw [HFS.out];exact HNIL.out
 ·rw [hgd] at HFS
  rw [decide_eq_false h1] at e1
  rw [decide_eq_true h2] at e2
  clear hr ho hb h1 hgd h2
  go_enter Tryz.func133,Tryz.ntmps133
  go_wp2_with fail
  refine bodyPost_end (results_none rfl _ _ _) rfl ⟨rfl,⟨v,HR.out,?_,HB.out,hg,hgb,hbz,?_⟩,fun _ _ _ h=>h⟩
  ·rw [HFS.out];exact HO.out
  ·rw [HFS.out];exact HNIL.out
 ·rw [hgd] at HFS
  rw [decide_eq_false h1] at e1
  rw [decide_eq_false h2] at e2
  obtain ⟨i0,hi,hz0,hz1,hz2⟩:=info_parts infoStr
  have hc:=hr.cell 0 (by simp)
  simp only [List.getElem_cons_zero] at hc
  have hlt:=hr.lt
  obtain ⟨a9,c9,rfl,hC9,hn9,hnc,hcm⟩:=own_cel ho
  have HLn:Hid ((ds.filter goodP).length≤1000000):=hid (Nat.le_trans (List.length_filter_le _ _) hx)
  have HL1:=hid (show (ds.filter goodP).length+1≤maxLen by have:=HLn.out;unfold maxLen;omega)
  have HL2:=hid (show ((ds.filter goodP).length+1)*16≤140737488355328 by have:=HLn.out;omega)
  have HL3:=hid (fun o=>show base≤(w.alloc o).heap.size by simp only [World.size_alloc];omega)
  have HN1:=hid (news_one w (.string (ba x)) 9)
  have HO2:=hid (fun o=>ho.alloc o)
  have HR2:=hid (fun o=>hr.alloc o)
  have HU2:=hid (fun o=>hb.alloc hb.size o)
  have HNE:=hid (own_ne ho (.inl hgb))
  have HAL:=hid (fun (o:Obj) (b:Nat) (h:b<w.heap.size)=>heap_alloc_old w o h)
  clear hr ho hb h1 hgd h2 hC9 hn9 hnc hcm
  go_enter Tryz.func133,Tryz.ntmps133
  go_wp2_with (at_builtin;go_must (refine wpList_append_own _ rfl _ _ 142 rfl base 9 i0 (.string ByteArray.empty) 1 16 Tryz.underlying142 hi hz0 hz1 hz2 rfl (by decide) (.slice a9 (ds.filter goodP).length c9) (ds.filter goodP).length (strs (ds.filter goodP)) rfl (HO2.out _) ⟨w.heap.size,0,none⟩ 1 1 [.string (ba x)] rfl rfl HN1.out (str_one _) HL1.out HL2.out (HL3.out _) ?_;intro v' w9 hown' hgrow _;have r8:=(HR2.out _).grown hgrow HNE.out;have hb2:=(HU2.out _).grown hgrow (by simp;omega) (fun k hk=>own_low HO.out (by omega) k hk);have HO3:=hid hown';have HB2:=hid hb2;have HNE2:=hid (own_ne hown' (.inl hgb));obtain ⟨G,c',rfl,hc1,hc2,hc3,hc4⟩:=own_open hown' (Nat.succ_pos _);have HR9:=hid r8;have HG:=hid hgrow;have hf:=r8.frozen 0;have hc:=r8.cell 0 (by simp);have hlt9:=r8.lt;clear hown' hgrow hb2 r8))
  refine bodyPost_end (results_none rfl _ _ _) rfl ⟨rfl,⟨_,HR9.out.set 0 _,?_,bset HB2.out hg _,hg,hgb,by simp;omega,?_⟩,?_⟩
  ·rw [HFS.out]
   simp only [if_true]
   exact own_ext (own_setOther HO3.out HNE2.out _) (by simp) (by rw [strs_snoc])
  ·rw [HFS.out]
   simp
  ·intro b s q h
   have hb:=(Array.getElem?_eq_some_iff.1 h).1
   have hbg:b≠g:=by
    rintro rfl
    have:=HR.out.heap
    rw [h] at this
    cases this
   rw [heap_setCell_other _ _ _ _ (by simpa using hbg),HG.out.block b (by simp;omega) ?_,HAL.out _ _ hb]
   ·exact h
   ·intro e
    rcases own_block HO.out with h1|⟨g2,h1,h2,h3⟩
    ·rw [h1] at e;cases e
    ·rw [h1] at e
     cases e
     rcases HO.out.2 with ⟨h4,_⟩|⟨g3,cap,cur,h4,_,h5,_⟩
     ·rw [h4] at h1;cases h1
     ·rw [h4] at h1
      cases h1
      rw [h] at h5
      cases h5
theorem parts_bad {l:BL}(h:¬ chkE l=0):partsF l=[]∧rootF l=false:=by
 unfold partsF rootF
 rw [if_neg h]
 simp [h]
theorem parts_good {l:BL}(h:chkE l=0):partsF l=(cuts 47 l).filter goodP∧rootF l=begB l:=by
 unfold partsF rootF partsL
 rw [if_pos h]
 simp [h]
set_option maxHeartbeats 1000000 in
theorem parts2_any (s:ByteArray)(w:World)(hs:s.size≤1000000):
 Calls Tryz.prog 126 #[.string s] w fun e' w'=>∃ v,e'=.returned (.tuple #[v,.bool (rootF s.data.toList),.int .i64 (chkE s.data.toList)])∧OwnT w' w.heap.size v (partsF s.data.toList)∧Below w.heap.size w w'∧(partsF s.data.toList=[]→v=.slice none 0 0):=by
 go_enter Tryz.func126,Tryz.ntmps126
 go_wp2_with fail
 refine (check_any s _ hs).mono ?_
 rintro e' w1 ⟨rfl,hb⟩
 have hb0:=bthen (bal _) hb
 have hr:=(Row.new w 142 [.slice none 0 0]).below hb (by simp)
 have hz:=hb.size
 simp only [World.size_alloc] at hz
 have HB:=hid hb0
 have HR:=hid hr
 have hc:=hr.cell 0 (by simp)
 have hf:=hr.frozen 0
 simp only [List.getElem_cons_zero] at hc
 have hlt:w.heap.size<w1.heap.size:=by omega
 clear hb hb0 hr
 by_cases h:chkE s.data.toList=0
 ·have HP:=hid (parts_good h)
  have HH:=hid h
  rw [h]
  clear h
  go_wp2_with fail
  refine (piecesP_any s w.heap.size (parJ w.heap.size (w.heap.size+1) w) _ hs ?_ ?_ ?_).mono ?_
  ·exact ⟨_,HR.out.alloc _,World.ownsRow_nil _ _ _ _,HB.out.alloc (by omega) _,Nat.le_refl _,by omega,by show w.heap.size+1≤(w1.alloc _).heap.size;rw [World.size_alloc];omega,fun _=>rfl⟩
  ·rintro ds wr q q' ⟨v,hr,ho,hb,hg,hgb,hbz,hnil⟩ hit
   exact ⟨v,mvIter_row hr hit q',mvIter_own ho hit q',mvIter_below hb (by omega) q',hg,hgb,by rw [mvIter_size];exact hbz,hnil⟩
  ·intro ds x' wr hJ hx hds
   refine (parts1_any x' _ _ ds w wr (by omega) hJ).mono ?_
   rintro e w2 ⟨rfl,hJ2,hfr⟩
   exact ⟨rfl,hJ2,fun q hq=>hfr _ _ _ hq⟩
  ·rintro e' w2 ⟨rfl,v,hr,ho,hb,_,hgb,hbz,hnil⟩
   have HNIL:=hid hnil
   clear hnil
   have HB2:=hid hb
   have HR2:=hid hr
   have HO2:=hid ho
   obtain ⟨a9,c9,rfl,_⟩:=own_cel ho
   have hc2:=hr.cell 0 (by simp)
   have hf2:=hr.frozen 0
   have hlt2:=hr.lt
   simp only [List.getElem_cons_zero] at hc2
   have HNE:=hid (own_ne ho (.inl hgb))
   clear hb hr ho hc hf hlt HR HB
   go_wp2_with fail
   go_region_with (go_at_call 134;refine (begins_any _ _).mono ?_;rintro e' wx ⟨rfl,rfl⟩)
   all_goals (
    go_wp2_with fail
    refine bodyPost_ret (v:=.tuple #[.slice a9 ((cuts 47 s.data.toList).filter goodP).length c9,.bool (begB s.data.toList),.int .i64 0]) (by simp [results,Tryz.results126,go_sem,hc2]) rfl ⟨_,by rw [HP.out.2,HH.out],?_,?_,?_⟩
    ·rw [HP.out.1]
     exact own_from (own_setOther HO2.out HNE.out _) (by omega)
    ·repeat (first|with_reducible refine bset ?_ (Nat.le_refl _) _|with_reducible refine Below.drew ?_)
     exact HB2.out
    ·rw [HP.out.1];exact HNIL.out)
 ·have HP:=hid (parts_bad h)
  have hn:(chkE s.data.toList != 0)=true:=by simpa using h
  clear h
  go_wp2_with fail
  refine bodyPost_ret (v:=.tuple #[.slice none 0 0,.bool false,  .int .i64 (chkE s.data.toList)]) (by simp [results,Tryz.results126,go_sem,hc]) rfl ⟨_,by rw [HP.out.2],?_,bset HB.out (Nat.le_refl _) _,fun _=>rfl⟩
  rw [HP.out.1]
  exact World.ownsRow_nil _ _ _ _
theorem parts_any (s:ByteArray)(w:World)(hs:s.size≤1000000):
 Calls Tryz.prog 126 #[.string s] w fun e' w'=>∃ v,e'=.returned (.tuple #[v,.bool (rootF s.data.toList),.int .i64 (chkE s.data.toList)])∧OwnT w' w.heap.size v (partsF s.data.toList)∧Below w.heap.size w w':=
 (parts2_any s w hs).mono fun _ _ ⟨v,h1,h2,h3,_⟩=>⟨v,h1,h2,h3⟩
open Go.WideMaps Go.Maps Go.WideShapes
def rdN {H:Type}(v:Value):Option (DataW H × List MemPlace):=match v with
 | .iface T (.pointer (some ⟨b,0,none⟩))=>some (.agg [.lit (.int .i64 (T:Nat)),.lit (.int .i64 (b:Nat))],[])
 | .nilIface=>some (.lit (.bool false),[])
 | _=>none
/-- A node as a value: the type of the pointer, the block. -/
def ndV (p:Nat × Nat):Value:=.iface p.1 (.pointer (some ⟨p.2,0,none⟩))
def ndD {H:Type}(p:Nat × Nat):DataW H:=.agg [.lit (.int .i64 (p.1:Nat)),.lit (.int .i64 (p.2:Nat))]
theorem rdN_nd {H:Type}(p:Nat × Nat):rdN (H:=H) (ndV p)=some (ndD p,[]):=rfl
theorem rdN_nil {H:Type}:rdN (H:=H) .nilIface=some (.lit (.bool false),[]):=rfl
theorem rdN_inv {H:Type}{v:Value}{p:Nat × Nat}{ps:List MemPlace}(h:rdN (H:=H) v=some (ndD p,ps)):v=ndV p:=by
 unfold rdN at h
 split at h
 ·rename_i T b
  simp only [ndD,Option.some.injEq,Prod.mk.injEq,DataW.agg.injEq,List.cons.injEq,DataW.lit.injEq,Lit.int.injEq,true_and,and_true] at h
  obtain ⟨⟨h1,h2⟩,_⟩:=h
  have e1:T=p.1:=by exact_mod_cast h1
  have e2:b=p.2:=by exact_mod_cast h2
  subst e1 e2
  rfl
 ·simp [ndD] at h
 ·cases h
theorem rdN_nil_inv {H:Type}{v:Value}{ps:List MemPlace}(h:rdN (H:=H) v=some (.lit (.bool false),ps)):v=.nilIface:=by
 unfold rdN at h
 split at h
 ·simp at h
 ·rfl
 ·cases h
abbrev NL:=List (BL × (Nat × Nat))
def putN {H:Type}(D:DataW H)(x:BL × (Nat × Nat)):DataW H:=D.put (.string x.1) (ndD x.2)
def mapD {H:Type}(l:NL):DataW H:=l.foldl putN (.map [])
def lookN (l:NL)(n:BL):Option (Nat × Nat):=(l.reverse.find? fun x=>decide (x.1=n)).map (·.2)
theorem lookN_snoc (l:NL)(x:BL × (Nat × Nat))(n:BL):lookN (l++[x]) n=if x.1=n then some x.2 else lookN l n:=by
 unfold lookN
 rw [List.reverse_append,List.reverse_singleton,List.singleton_append,List.find?_cons]
 by_cases h:x.1=n
 ·simp [h]
 ·simp [h]
theorem mapD_snoc {H:Type}(l:NL)(x:BL × (Nat × Nat)):mapD (H:=H) (l++[x])=(mapD l).put (.string x.1) (ndD x.2):=by simp [mapD,putN,List.foldl_append]
theorem mapD_is {H:Type}(l:NL):IsMap (mapD (H:=H) l):=by
 rcases l.eq_nil_or_concat with rfl|⟨e,s,rfl⟩
 ·exact ⟨[],rfl⟩
 ·rw [List.concat_eq_append,mapD_snoc];exact (mapD_is (H:=H) e).put _ _
termination_by l.length
theorem mapD_at {H:Type}(n:BL)(z:DataW H)(l:NL):(mapD (H:=H) l).atKey (.string n) z=(match lookN l n with|some p=>ndD p|none=>z):=by
 rcases l.eq_nil_or_concat with rfl|⟨e,s,rfl⟩
 ·rfl
 ·have ih:=mapD_at (H:=H) n z e
  rw [List.concat_eq_append,mapD_snoc,lookN_snoc]
  by_cases h:s.1=n
  ·rw [if_pos h,← h,atKey_put_same (mapD_is e) (by trivial)]
  ·rw [if_neg h,atKey_put_other (by intro e;cases e;exact h rfl),ih]
termination_by l.length
theorem mapD_has {H:Type}(n:BL)(l:NL):Maps.has (mapD (H:=H) l) (.string n)=(lookN l n).isSome:=by
 rcases l.eq_nil_or_concat with rfl|⟨e,s,rfl⟩
 ·rfl
 ·have ih:=mapD_has (H:=H) n e
  rw [List.concat_eq_append,mapD_snoc,lookN_snoc]
  by_cases h:s.1=n
  ·rw [if_pos h,← h,has_put_same (mapD_is e) (by trivial)];rfl
  ·rw [if_neg h,has_put_other (by intro e;cases e;exact h rfl),ih]
termination_by l.length
theorem keyedS:Keyed Tryz.prog 9:=string_keyed Tryz.underlying9
theorem zeroN (w:World):(zeroValue 191).run Tryz.prog w=.ok .nilIface w:=by kernel_rfl
theorem keyS (l:BL)(h:l.length≤maxLen):keyOf Tryz.prog 9 (.string (ba l))=some (.string l):=by
 have:=keyOf_string_mk (P:=Tryz.prog) Tryz.underlying9 (s:=ba l) (by rw [ba_size];exact h)
 exact this
/-- A map in memory from texts to nodes. -/
def NMap (w:World)(m:Nat)(l:NL):Prop:=w.ownsMap Tryz.prog 9 (rdN (H:=Unit)) m l.length (mapD l)
theorem NMap.made (w:World):NMap (w.alloc (.map #[] 0)) w.heap.size []:=World.ownsMap_made _ _ _ _
theorem NMap.lt {w:World}{m:Nat}{l:NL}(h:NMap w m l):m<w.heap.size:=World.ownsMap.lt h
theorem NMap.same {w w':World}{m:Nat}{l:NL}(h:NMap w m l)(e:w'.heap[m]?=w.heap[m]?):NMap w' m l:=by
 obtain ⟨es,clock,hm,F,hs,hD⟩:=h
 exact ⟨es,clock,e.trans hm,F,hs,hD⟩
theorem NMap.below {w w':World}{m:Nat}{l:NL}(h:NMap w m l)(hb:Below w.heap.size w w'):NMap w' m l:=h.same (hb.block m h.lt)
def lkNV (o:Option (Nat × Nat)):Value:=match o with
 | some p=>ndV p
 | none=>.nilIface
theorem NMap.look {w:World}{m:Nat}{l:NL}(h:NMap w m l)(n:BL)(hn:n.length≤maxLen):
 (Instr.lookup 127 (.map (some m)) (.string (ba n)) true).run Tryz.prog w=.ok (.tuple #[lkNV (lookN l n),.bool (lookN l n).isSome]) w:=by
 obtain ⟨v,ps,hrun,hv⟩:=World.ownsMap.look_ok h keyedS Tryz.underlying127 (zeroN w) rdN_nil (keyS n hn)
 rw [hrun,mapD_has]
 rw [mapD_at] at hv
 cases hl:lookN l n with
 | none=>
  rw [hl] at hv
  rw [rdN_nil_inv hv]
  rfl
 | some p=>
  rw [hl] at hv
  rw [rdN_inv hv]
  rfl
theorem NMap.put {w:World}{m:Nat}{l:NL}(h:NMap w m l)(n:BL)(hn:n.length≤maxLen)(hl:l.length<maxLen)(p:Nat × Nat):
 ∃ w',(Instr.mapUpdate 127 (.map (some m)) (.string (ba n)) (ndV p)).run Tryz.prog w=.ok () w'∧NMap w' m (l++[(n,p)])∧w.grownBy w' (some m):=by
 obtain ⟨w',h1,h2,h3⟩:=World.ownsMap.update h keyedS Tryz.underlying127 hl (keyS n hn) (rdN_nd p)
 refine ⟨w',h1,?_,h3⟩
 unfold NMap
 rw [mapD_snoc,List.length_append]
 exact h2
end Go.Proofs.YtdjpjfdeeelijaaGreatDoor
namespace Go.Proofs.YtdjpjfdeeelijaaGreatDoor
open Go.RowKit Go.Sort
/-- A node: what is known of it, and what is in it. -/
structure ND where
 path:BL
 up:Nat
 kind:Int
 mode:Int
 uid:Int
 gid:Int
 size:Int
 names:List (BL × Nat)
 data:BL
 to:BL
deriving Inhabited,DecidableEq
def ndT (k:Int):Nat:=if k=2 then 116 else if k=3 then 213 else 201
/-- The nodes, and the blocks in which they lie (and their maps). -/
structure FT where
 L:List ND
 bs:List Nat
 ms:List Nat
def FT.nd (t:FT)(i:Nat):ND:=t.L.getD i default
def FT.bk (t:FT)(i:Nat):Nat:=t.bs.getD i 0
def FT.mp (t:FT)(i:Nat):Nat:=t.ms.getD i 0
def FT.pt (t:FT)(i:Nat):Nat × Nat:=(ndT (t.nd i).kind,t.bk i)
def FT.nl (t:FT)(i:Nat):NL:=(t.nd i).names.map fun p=>(p.1,t.pt p.2)
def FT.hd (t:FT)(i:Nat):List Value:=[.int .i64 (i:Nat),.string (ba (t.nd i).path),.pointer (some ⟨t.bk (t.nd i).up,0,none⟩),.int .u8 (t.nd i).kind,.int .u16 (t.nd i).mode,.int .u32 (t.nd i).uid,.int .u32 (t.nd i).gid,.int .i64 (t.nd i).size]
/-- A node in memory. -/
structure NodeAt (w:World)(t:FT)(i:Nat):Prop where
 dir:(t.nd i).kind=2→Row w (t.bk i) 129 (t.hd i++[.map (some (t.mp i))])∧NMap w (t.mp i) (t.nl i)
 link:(t.nd i).kind=3→Row w (t.bk i) 215 (t.hd i++[.string (ba (t.nd i).to)])
 file:(t.nd i).kind≠2→(t.nd i).kind≠3→∃ v,Row w (t.bk i) 204 (t.hd i++[v])∧w.ownsRow 0 5 1 v (t.nd i).data.length ((t.nd i).data.map B8)
/-- What holds of the nodes, whatever memory is. -/
structure Fine (L:List ND):Prop where
 pos:0<L.length
 most:L.length≤65
 root:(L.getD 0 default).kind=2
 up:∀ i,i<L.length→(L.getD i default).up<L.length∧(L.getD (L.getD i default).up default).kind=2
 names:∀ i,i<L.length→∀ p∈(L.getD i default).names,p.2<L.length
 many:∀ i,i<L.length→(L.getD i default).names.length≤L.length
 data:∀ i,i<L.length→(L.getD i default).data.length≤65536∧(L.getD i default).size=((L.getD i default).data.length:Nat)
 mode:∀ i,i<L.length→0≤(L.getD i default).mode∧(L.getD i default).mode≤65535
 path:∀ i,i<L.length→(L.getD i default).path.length≤1000000
 to:∀ i,i<L.length→(L.getD i default).to.length≤200
/-- A file system in memory. -/
structure FSat (w:World)(F:Nat)(t:FT):Prop where
 fine:Fine t.L
 top:∃ v,Row w F 120 [.pointer (some ⟨t.bk 0,0,none⟩),v]∧w.ownsRow 0 191 1 v t.L.length ((List.range t.L.length).map fun i=>ndV (t.pt i))
 node:∀ i,i<t.L.length→NodeAt w t i
theorem own_same {w w':World}{base e size n:Nat}{v:Value}{xs:List Value}(h:w.ownsRow base e size v n xs)(hk:∀ (b:Nat) (cs:Array Value),w.heap[b]?=some (Obj.cells cs e (0,0))→w'.heap[b]?=w.heap[b]?):w'.ownsRow base e size v n xs:=by
 refine ⟨h.1,?_⟩
 rcases h.2 with hn|⟨g,cap,cur,hv,hbg,hg,r⟩
 ·exact .inl hn
 ·exact .inr ⟨g,cap,cur,hv,hbg,by rw [hk g cur hg];exact hg,r⟩
theorem Row.same {w w':World}{g:Nat}{E:TypeId}{cs:List Value}(h:Row w g E cs)(hk:w'.heap[g]?=w.heap[g]?):Row w' g E cs:=⟨by rw [hk];exact h.heap⟩
theorem NodeAt.below {w w':World}{t:FT}{i:Nat}(h:NodeAt w t i)(hb:Below w.heap.size w w'):NodeAt w' t i:=
 ⟨fun k=>⟨(h.dir k).1.below hb (h.dir k).1.lt,(h.dir k).2.below hb⟩,fun k=>(h.link k).below hb (h.link k).lt,fun k k'=>by
  obtain ⟨v,h1,h2⟩:=h.file k k'
  exact ⟨v,h1.below hb h1.lt,own_below h2 hb⟩⟩
theorem FSat.below {w w':World}{F:Nat}{t:FT}(h:FSat w F t)(hb:Below w.heap.size w w'):FSat w' F t:=
 ⟨h.fine,by
  obtain ⟨v,h1,h2⟩:=h.top
  exact ⟨v,h1.below hb h1.lt,own_below h2 hb⟩,fun i hi=>(h.node i hi).below hb⟩
theorem hd_cells {w:World}{t:FT}{i b:Nat}{E:TypeId}{v:Value}(h:Row w b E (t.hd i++[v])):
 (w.cell? ⟨b,0,none⟩=some (.int .i64 (i:Nat))∧w.cell? ⟨b,1,none⟩=some (.string (ba (t.nd i).path))∧w.cell? ⟨b,2,none⟩=some (.pointer (some ⟨t.bk (t.nd i).up,0,none⟩))∧w.cell? ⟨b,3,none⟩=some (.int .u8 (t.nd i).kind)∧w.cell? ⟨b,4,none⟩=some (.int .u16 (t.nd i).mode))∧
 (w.cell? ⟨b,5,none⟩=some (.int .u32 (t.nd i).uid)∧w.cell? ⟨b,6,none⟩=some (.int .u32 (t.nd i).gid)∧w.cell? ⟨b,7,none⟩=some (.int .i64 (t.nd i).size)∧w.cell? ⟨b,8,none⟩=some v):=
 ⟨⟨h.cell 0 (by simp [FT.hd]),h.cell 1 (by simp [FT.hd]),h.cell 2 (by simp [FT.hd]),h.cell 3 (by simp [FT.hd]),h.cell 4 (by simp [FT.hd])⟩,h.cell 5 (by simp [FT.hd]),h.cell 6 (by simp [FT.hd]),h.cell 7 (by simp [FT.hd]),h.cell 8 (by simp [FT.hd])⟩
/-- The node's value in the slice of nodes. -/
theorem FSat.at {w:World}{F:Nat}{t:FT}(h:FSat w F t):∃ a c,w.cell? ⟨F,0,none⟩=some (.pointer (some ⟨t.bk 0,0,none⟩))∧w.cell? ⟨F,1,none⟩=some (.slice a t.L.length c)∧F<w.heap.size∧∃ b off,a=some ⟨b,off,none⟩∧b<w.heap.size∧∀ i,i<t.L.length→w.cell? ⟨b,off+i,none⟩=some (ndV (t.pt i)):=by
 obtain ⟨v,h1,h2⟩:=h.top
 obtain ⟨a,c,rfl,hc,_⟩:=own_cel h2
 obtain ⟨b,off,rfl,hat⟩:=hc.some_of (by simp;exact h.fine.pos)
 have hz:=World.block_lt_of_cell? w _ (hat 0 (by simp;exact h.fine.pos))
 exact ⟨_,c,h1.cell 0 (by simp),h1.cell 1 (by simp),h1.lt,b,off,rfl,hz,fun i hi=>by
  have:=hat i (by simpa using hi)
  simpa using this⟩
theorem ndV_kind (k:Int)(b:Nat):ndV (ndT k,b)=if k=2 then .iface 116 (.pointer (some ⟨b,0,none⟩)) else if k=3 then .iface 213 (.pointer (some ⟨b,0,none⟩)) else .iface 201 (.pointer (some ⟨b,0,none⟩)):=by
 unfold ndV ndT
 split
 ·rfl
 ·split <;> rfl
theorem ta_dd (b:Nat)(w:World):(Instr.typeAssert (.iface 116 (.pointer (some ⟨b,0,none⟩))) 191 116 true).run Tryz.prog w=.ok (.tuple #[.pointer (some ⟨b,0,none⟩),.bool true]) w:=by kernel_rfl
theorem ta_dl (b:Nat)(w:World):(Instr.typeAssert (.iface 213 (.pointer (some ⟨b,0,none⟩))) 191 116 true).run Tryz.prog w=.ok (.tuple #[.pointer none,.bool false]) w:=by kernel_rfl
theorem ta_df (b:Nat)(w:World):(Instr.typeAssert (.iface 201 (.pointer (some ⟨b,0,none⟩))) 191 116 true).run Tryz.prog w=.ok (.tuple #[.pointer none,.bool false]) w:=by kernel_rfl
theorem ta_fl (b:Nat)(w:World):(Instr.typeAssert (.iface 213 (.pointer (some ⟨b,0,none⟩))) 191 201 true).run Tryz.prog w=.ok (.tuple #[.pointer none,.bool false]) w:=by kernel_rfl
theorem ta_ff (b:Nat)(w:World):(Instr.typeAssert (.iface 201 (.pointer (some ⟨b,0,none⟩))) 191 201 true).run Tryz.prog w=.ok (.tuple #[.pointer (some ⟨b,0,none⟩),.bool true]) w:=by kernel_rfl
theorem isDir_any (k:Int)(b:Nat)(w:World):
 Calls Tryz.prog 119 #[ndV (ndT k,b)] w fun e w'=>e=.returned (.bool (decide (k=2)))∧w=w':=by
 rw [ndV_kind]
 by_cases h2:k=2
 ·rw [if_pos h2,decide_eq_true h2]
  clear h2
  have ht:=ta_dd b
  go_enter Tryz.func119,Tryz.ntmps119
  go_wp2_with fail
  go_ret
  exact ⟨rfl,rfl⟩
 ·rw [if_neg h2,decide_eq_false h2]
  clear h2
  by_cases h3:k=3
  ·rw [if_pos h3]
   clear h3
   have ht:=ta_dl b
   go_enter Tryz.func119,Tryz.ntmps119
   go_wp2_with fail
   go_ret
   exact ⟨rfl,rfl⟩
  ·rw [if_neg h3]
   clear h3
   have ht:=ta_df b
   go_enter Tryz.func119,Tryz.ntmps119
   go_wp2_with fail
   go_ret
   exact ⟨rfl,rfl⟩
def nodeE (t:FT)(i:Int):Value:=if 0≤i∧i<(t.L.length:Int) then .tuple #[ndV (t.pt i.toNat),.bool true] else .tuple #[.nilIface,.bool false]
theorem node_any (F:Nat)(t:FT)(i:Int)(w:World)(h:FSat w F t):
 Calls Tryz.prog 118 #[.pointer (some ⟨F,0,none⟩),.int .i64 i] w fun e w'=>e=.returned (nodeE t i)∧w=w':=by
 obtain ⟨a,c,c0,c1,hF,b,off,rfl,hbz,hat⟩:=h.at
 have HAT:=hid hat
 clear hat h
 by_cases h0:i<0
 ·have HN:=hid (show nodeE t i=.tuple #[.nilIface,.bool false] by unfold nodeE;rw [if_neg (by omega)])
  have d0:decide (i<0)=true:=by simpa using h0
  clear h0
  go_enter Tryz.func118,Tryz.ntmps118
  go_wp2_with fail
  go_ret2
  exact ⟨by rw [HN.out];rfl,rfl⟩
 ·have d0:decide (i<0)=false:=by simpa using h0
  by_cases h1:i<(t.L.length:Int)
  ·obtain ⟨k,rfl⟩:∃ k:Nat,i=(k:Int):=⟨i.toNat,by omega⟩
   have HN:=hid (show nodeE t (k:Int)=.tuple #[ndV (t.pt k),.bool true] by unfold nodeE;rw [if_pos (by omega)];rfl)
   have d1:decide ((t.L.length:Int)≤(k:Int))=false:=by simp;omega
   have d1n:decide (t.L.length≤k)=false:=by simp;omega
   have hk:k<t.L.length:=by omega
   have hx:=HAT.out k hk
   clear h0 h1
   generalize ndV (t.pt k)=v at *
   go_enter Tryz.func118,Tryz.ntmps118
   go_wp2_with fail
   go_ret2
   exact ⟨by rw [HN.out];rfl,rfl⟩
  ·have HN:=hid (show nodeE t i=.tuple #[.nilIface,.bool false] by unfold nodeE;rw [if_neg (by omega)])
   have d1:decide ((t.L.length:Int)≤i)=true:=by simp;omega
   clear h0 h1
   go_enter Tryz.func118,Tryz.ntmps118
   go_wp2_with fail
   go_ret2
   exact ⟨by rw [HN.out];rfl,rfl⟩
abbrev metaV (x:ND):Value:=.agg #[.int .u8 x.kind,.int .u16 x.mode,.int .u32 x.uid,.int .u32 x.gid,.int .i64 x.size]
theorem node_in (F:Nat)(t:FT)(i:Nat)(w:World)(h:FSat w F t)(hi:i<t.L.length):
 Calls Tryz.prog 118 #[.pointer (some ⟨F,0,none⟩),.int .i64 i] w fun e w'=>e=.returned (.tuple #[if (t.nd i).kind=2 then .iface 116 (.pointer (some ⟨t.bk i,0,none⟩)) else if (t.nd i).kind=3 then .iface 213 (.pointer (some ⟨t.bk i,0,none⟩)) else .iface 201 (.pointer (some ⟨t.bk i,0,none⟩)),.bool true])∧w=w':=by
 refine (node_any F t i w h).mono ?_
 rintro e w' ⟨rfl,rfl⟩
 refine ⟨?_,rfl⟩
 unfold nodeE
 rw [if_pos (by omega),← ndV_kind]
 rfl
theorem node_out (F:Nat)(t:FT)(i:Int)(w:World)(h:FSat w F t)(hi:¬ (0≤i∧i<(t.L.length:Int))):
 Calls Tryz.prog 118 #[.pointer (some ⟨F,0,none⟩),.int .i64 i] w fun e w'=>e=.returned (.tuple #[.nilIface,.bool false])∧w=w':=by
 refine (node_any F t i w h).mono ?_
 rintro e w' ⟨rfl,rfl⟩
 refine ⟨?_,rfl⟩
 unfold nodeE
 rw [if_neg hi]
def lookI (l:List (BL × Nat))(n:BL):Option Nat:=(l.reverse.find? fun x=>decide (x.1=n)).map (·.2)
theorem lookI_map (f:Nat→Nat × Nat)(l:List (BL × Nat))(n:BL):lookN (l.map fun p=>(p.1,f p.2)) n=(lookI l n).map f:=by
 unfold lookN lookI
 rw [← List.map_reverse,List.find?_map]
 simp only [Option.map_map]
 rfl
theorem lookI_mem {l:List (BL × Nat)}{n:BL}{j:Nat}(h:lookI l n=some j):(n,j)∈l:=by
 unfold lookI at h
 obtain ⟨⟨m,j'⟩,h1,rfl⟩:=Option.map_eq_some_iff.1 h
 have h2:=List.find?_some h1
 have h3:=List.mem_of_find?_eq_some h1
 simp only [decide_eq_true_eq] at h2
 subst h2
 simpa using h3
def dotdot:BL:=[46,46]
theorem strs_app (a b:List BL):strs (a++b)=strs a++strs b:=by simp [strs]
theorem cuts_len (l:BL):(cuts 47 l).length≤l.length+1:=by
 have:=cst_len 47 l
 unfold cuts
 simp only [List.length_append,List.length_singleton]
 omega
theorem parts_count (l:BL):(partsF l).length≤201:=by
 unfold partsF
 split
 ·rename_i h
  have h1:l.length≤200:=by
   unfold chkE at h
   split at h
   ·cases h
   ·split at h
    ·cases h
    ·split at h
     ·cases h
     ·omega
  have h2:=cuts_len l
  have h3:=List.length_filter_le goodP (cuts 47 l)
  unfold partsL
  omega
 ·simp
theorem parts_small (l:BL):∀ p∈partsF l,p.length≤1000:=by
 unfold partsF
 split
 ·rename_i h
  intro p hp
  have h1:tooLong l=false:=by
   unfold chkE at h
   split at h
   ·cases h
   ·split at h
    ·cases h
    ·split at h
     ·cases h
     ·split at h
      ·cases h
      ·rename_i h5;simpa using h5
  unfold tooLong at h1
  rw [List.any_eq_false] at h1
  have:=h1 p (List.mem_filter.1 hp).1
  simp at this
  omega
 ·simp
theorem run_append_nil {P:Program}(w:World)(t ty e:TypeId)(i:TypeInfo)(z:Value)(size bytes:Nat)(ht:P.underlying t=some (.slice e))(hi:P.info? e=some i)(hz:i.zero=some z)(hsize:i.size=size)(hby:i.bytes=bytes)(hzs:z.cells.size=size)(hsz:0<size)
 (src:Option Addr) (m c:Nat) (news:List Value) (hl:news.length=m*size) (hnews:∀ ad,src=some ad→∀ j u,news[j]?=some u→w.cell? (ad.add j)=some u) (hnil:src=none→m=0∧c=0) (h1:∀ u∈news,u.oneCell'=true) (h63:m≤maxLen) (hbytes:m*bytes≤140737488355328):
 ∃ v' w',(Builtin.append_ #[t,t] ty #[.slice none 0 0,.slice src m c]).run P w=.ok v' w'∧w'.ownsRow w.heap.size e size v' m news∧w.grownBy w' none:=by
 cases src with
 | none=>
  obtain ⟨rfl,rfl⟩:=hnil rfl
  obtain rfl:news=[]:=List.eq_nil_of_length_eq_zero (by simpa using hl)
  have hrun:=run_append_owned_none (P:=P) (w:=w) w.heap.size t ty e i size ht hi (.slice none 0 0) 0 [] (World.ownsRow_nil w _ e size)
  exact ⟨_,w,hrun,World.ownsRow_nil w _ e size,⟨rfl,rfl,rfl,Nat.le_refl _,fun _ _ _=>rfl⟩⟩
 | some ad=>
  obtain ⟨v',w',hrun,r1,r2,_⟩:=run_append_own (P:=P) w w.heap.size t ty e i z size bytes ht hi hz hsize hby hzs hsz (.slice none 0 0) 0 [] (World.ownsRow_nil w _ e size) ad m c news hl (hnews ad rfl) h1 (by omega) (by simpa using hbytes) (Nat.le_refl _)
  exact ⟨v',w',hrun,by simpa using r1,r2⟩
theorem step_append_nil {P:Program}{ops:Array Oper}{o:Oper}{a:Act}{w:World}{K:Act→World→Prop}{Q:Exit→Act→World→Prop}{E:Prop}
 (hg:o.guard=none) (s x:Operand) (t:TypeId) (hop:o.op=Op.call { callee:=Callee.builtin Builtin.append,args:=#[s,x],argTypes:=#[t,t] })
 (e:TypeId) (i:TypeInfo) (z:Value) (size bytes:Nat) (ht:P.underlying t=some (.slice e)) (hi:P.info? e=some i) (hz:i.zero=some z) (hsize:i.size=size) (hby:i.bytes=bytes) (hzs:z.cells.size=size) (hsz:0<size)
 (hs:a.eval s=.slice none 0 0) (src:Option Addr) (m c:Nat) (hx:a.eval x=.slice src m c) (news:List Value) (hl:news.length=m*size) (hnews:∀ ad,src=some ad→∀ j u,news[j]?=some u→w.cell? (ad.add j)=some u) (hnil:src=none→m=0∧c=0) (h1:∀ u∈news,u.oneCell'=true) (h63:m≤maxLen) (hbytes:m*bytes≤140737488355328)
 (hK:∀ v' w',w'.ownsRow w.heap.size e size v' m news→w.grownBy w' none→K (a.put o.dst v') w'):
 if Region.wanted o (yielded ops a.tmps)=true then Oper.wp P o a w K Q else E:=by
 have hw:Region.wanted o (yielded ops a.tmps)=true:=by simp [Region.wanted,hg]
 rw [if_pos hw]
 obtain ⟨v',w',hrun,r1,r2⟩:=run_append_nil (P:=P) w t o.type e i z size bytes ht hi hz hsize hby hzs hsz src m c news hl hnews hnil h1 h63 hbytes
 unfold Oper.wp
 simp [execOp,hop,resolve,invoke,builtin,hs,hx,hrun,Result.andThen]
 exact hK v' w' r1 r2
theorem wpList_append_nil {P:Program}{w:World}{ops:Array Oper}{rest:List Oper}{o:Oper}{a:Act}{Q:Exit→Act→World→Prop}(hgd:o.guard=none)(s x:Operand)(t:TypeId)
 (hop:o.op=.call { callee:=.builtin .append,args:=#[s,x],argTypes:=#[t,t] })
 (e:TypeId) (i:TypeInfo) (z:Value) (size bytes:Nat) (ht:P.underlying t=some (.slice e)) (hi:P.info? e=some i) (hz:i.zero=some z) (hsize:i.size=size) (hby:i.bytes=bytes) (hzs:z.cells.size=size) (hsz:0<size)
 (hs:a.eval s=.slice none 0 0) (src:Option Addr) (m c:Nat) (hx:a.eval x=.slice src m c) (news:List Value) (hl:news.length=m*size) (hnews:∀ ad,src=some ad→∀ j u,news[j]?=some u→w.cell? (ad.add j)=some u) (hnil:src=none→m=0∧c=0) (h1:∀ u∈news,u.oneCell'=true) (h63:m≤maxLen) (hbytes:m*bytes≤140737488355328)
 (hK:∀ v' w',w'.ownsRow w.heap.size e size v' m news→w.grownBy w' none→wpList P ops Q rest (a.put o.dst v') w'):wpList P ops Q (o::rest) a w:=by
 refine wpList_plain hgd fun K hK'=>?_
 obtain ⟨v',w',hrun,r1,r2⟩:=run_append_nil (P:=P) w t o.type e i z size bytes ht hi hz hsize hby hzs hsz src m c news hl hnews hnil h1 h63 hbytes
 unfold Oper.wp
 simp [execOp,hop,resolve,invoke,builtin,hs,hx,hrun,Result.andThen]
 exact hK' _ _ (hK v' w' r1 r2)
theorem Byt.news {w:World}{a:Option Addr}{len:Nat}{l:List UInt8}(h:Byt w a len l):∀ ad,a=some ad→∀ j u,(l.map B8)[j]?=some u→w.cell? (ad.add j)=some u:=by
 rintro ad rfl j u hj
 obtain ⟨hj1,rfl⟩:=List.getElem?_eq_some_iff.1 hj
 have hj2:j<l.length:=by simpa using hj1
 obtain ⟨b,off,e,hc⟩:=h.cell j hj2
 cases e
 unfold Addr.add
 by_cases e0:j=0
 ·subst e0;simpa [B8] using hc
 ·simpa [e0,B8] using hc
theorem b8_one (l:List UInt8):∀ u∈l.map B8,u.oneCell'=true:=by
 intro u hu
 obtain ⟨x,_,rfl⟩:=List.mem_map.1 hu
 rfl
end Go.Proofs.YtdjpjfdeeelijaaGreatDoor
