/- Merged: Bc0 Bc1 Bc2. -/
import Derived.Test.YtdjpjfdeeelijaaGreatDoorKJ
namespace Go.Proofs.YtdjpjfdeeelijaaGreatDoor
open Go.RowKit Go.Sort
/-- A slot: file, page, frame, and when it was asked for. -/
structure SLO where
 i:Int
 p:Int
 f:Int
 t:Int
deriving DecidableEq
def loB (fs:List FR)(x:SLO):Bool:=decide (cntF fs x.f=1)
def keyB (i p:Int)(x:SLO):Bool:=decide (x.i=i)&&decide (x.p=p)
theorem keyB_iff {i p:Int}{x:SLO}:keyB i p x=true↔x.i=i∧x.p=p:=by unfold keyB;simp
def lookS (sl:List SLO)(i p:Int):Option SLO:=sl.find? (keyB i p)
def strikeS (sl:List SLO)(i p:Int):List SLO:=sl.filter fun x=>!keyB i p x
/-- A cache: the frames, the slots in the order in which they were asked for, how often that was. -/
structure CC where
 fs:List FR
 sl:List SLO
 tn:Nat
def takC (s:CC):Int × Int × CC:=match lowR s.fs with
 | some k=>((k:Int),0,{ s with fs:=s.fs.set k one0 })
 | none=>match s.sl.find? (loB s.fs) with
  | none=>(0,4,s)
  | some x=>(takeV (downS s.fs x.f),takeE (downS s.fs x.f),{ s with fs:=takeS (downS s.fs x.f),sl:=strikeS s.sl x.i x.p })
def b2i (b:List UInt8):List Int:=b.map fun c=>(c.toNat:Int)
def filC (s:CC)(b:List UInt8):Int × Int × CC:=match takC s with
 | (f,e,s1)=>if e=0 then (f,loadE s1.fs f 0 b.length,{ s1 with fs:=storeS s1.fs f 0 (b2i b) }) else (0,e,s1)
def getC (rd:Int→Int→List UInt8 × Int)(s:CC)(i p:Int):Int × Int × CC:=
 if p<0∨16≤p then (0,1,s) else
 if (rd i p).2≠0 then (0,(rd i p).2,s) else
 match lookS s.sl i p with
 | some x=>(x.f,0,{ s with sl:=strikeS s.sl i p++[⟨i,p,x.f,(s.tn:Int)+1⟩],tn:=s.tn+1 })
 | none=>match filC s (rd i p).1 with
  | (f,e,s1)=>if e=0 then (f,0,{ s1 with sl:=strikeS s1.sl i p++[⟨i,p,f,(s1.tn:Int)+1⟩],tn:=s1.tn+1 }) else (0,e,s1)
/-- What holds of a cache at all times; hx: the frames that are held. -/
structure Good (rd:Int→Int→List UInt8 × Int)(s:CC)(hx:List Nat):Prop where
 cnt:∀ f,(hf:f<s.fs.length)→s.fs[f].cnt=((hx.count f+s.sl.countP (fun x=>decide (x.f=(f:Int))):Nat):Int)
 keys:s.sl.Pairwise fun x y=>¬ (x.i=y.i∧x.p=y.p)
 asked:s.sl.Pairwise fun x y=>x.t<y.t
 last:∀ x∈s.sl,0≤x.t∧x.t≤(s.tn:Int)
 fr:∀ x∈s.sl,∃ f:Nat,x.f=(f:Int)∧f<s.fs.length
 apart:s.sl.Pairwise fun x y=>x.f≠y.f
 hold:∀ f∈hx,f<s.fs.length
 many:s.sl.length≤s.tn
 lens:FsOk s.fs
 page:∀ x∈s.sl,0≤x.p∧x.p<16∧(rd x.i x.p).2=0
 bytes:∀ x∈s.sl,∀ f:Nat,x.f=(f:Int)→(hf:f<s.fs.length)→s.fs[f].bs=b2i (rd x.i x.p).1++List.replicate (4096-(rd x.i x.p).1.length) 0
theorem cntF_at {fs:List FR}{f:Nat}(hf:f<fs.length):cntF fs (f:Int)=fs[f].cnt:=by
 unfold cntF
 rw [if_pos (by omega),Int.toNat_natCast,getF_at _ _ _ hf]
theorem lowC_is {fs:List FR}{k:Nat}(h:lowR fs=some k):∃ hk:k<fs.length,fs[k].cnt=0:=by
 unfold lowR at h
 have h1:=List.find?_some h
 have hk:=free_lt h1
 rw [free_at _ _ hk] at h1
 exact ⟨hk,by simpa using h1⟩
theorem lowC_none {fs:List FR}(h:lowR fs=none):∀ f,(hf:f<fs.length)→fs[f].cnt≠0:=by
 intro f hf e
 unfold lowR at h
 rw [List.find?_eq_none] at h
 have:=h f (List.mem_range.2 hf)
 rw [free_at _ _ hf,e] at this
 simp at this
theorem low_only {fs:List FR}{k:Nat}(hk:k<fs.length)(h0:fs[k].cnt=0)(h:∀ f,(hf:f<fs.length)→f≠k→fs[f].cnt≠0):lowR fs=some k:=by
 refine low_some (by rw [free_at _ _ hk,h0];rfl) fun j hj=>?_
 have hj':j<fs.length:=by omega
 rw [free_at _ _ hj']
 have:=h j hj' (by omega)
 simpa using this
theorem strike_mem {sl:List SLO}{i p:Int}{x:SLO}:x∈strikeS sl i p↔x∈sl∧¬ (x.i=i∧x.p=p):=by
 unfold strikeS
 rw [List.mem_filter]
 have:=@keyB_iff i p x
 cases hb:keyB i p x
 ·simp [hb] at this ⊢;intro _ h;exact this h
 ·simp [hb] at this ⊢;intro _ ;exact this
theorem count_pos_of {hx:List Nat}{f:Nat}(h:f∈hx):1≤hx.count f:=List.count_pos_iff.2 h
section
variable {rd:Int→Int→List UInt8 × Int}{s:CC}{hx:List Nat}
theorem slot_count {sl:List SLO}{x:SLO}{f:Nat}(h:x∈sl)(hf:x.f=(f:Int)):1≤sl.countP (fun y=>decide (y.f=(f:Int))):=
 List.countP_pos_iff.2 ⟨x,h,by simpa using hf⟩
theorem apart_count:∀ {sl:List SLO},(sl.Pairwise fun x y=>x.f≠y.f)→∀ (f:Int),sl.countP (fun y=>decide (y.f=f))≤1
 | [],_,_=>by simp
 | x::sl,h,f=>by
  rw [List.pairwise_cons] at h
  rw [List.countP_cons]
  have:=apart_count h.2 f
  by_cases e:x.f=f
  ·have h0:sl.countP (fun y=>decide (y.f=f))=0:=by
    rw [List.countP_eq_zero]
    intro y hy
    have:=h.1 y hy
    simp only [decide_eq_true_eq]
    intro e2
    exact this (e.trans e2.symm)
   rw [h0]
   split <;> omega
  ·simp [e];exact this
theorem Good.cntF (G:Good rd s hx){x:SLO}(h:x∈s.sl):∃ f:Nat,x.f=(f:Int)∧∃ hf:f<s.fs.length,s.fs[f].cnt=((hx.count f+1:Nat):Int):=by
 obtain ⟨f,e,hf⟩:=G.fr x h
 refine ⟨f,e,hf,?_⟩
 rw [G.cnt f hf]
 have h1:=slot_count h e
 have h2:=apart_count G.apart (f:Int)
 congr 2
 omega
theorem Good.small (G:Good rd s hx):∀ x∈s.fs,x.cnt≤((hx.length+s.tn:Nat):Int):=by
 intro x hx'
 obtain ⟨f,hf,rfl⟩:=List.mem_iff_getElem.1 hx'
 rw [G.cnt f hf]
 have h1:hx.count f≤hx.length:=List.count_le_length
 have h2:s.sl.countP (fun x=>decide (x.f=(f:Int)))≤s.sl.length:=List.countP_le_length
 have:=G.many
 omega
/-- What a taken frame turns. -/
structure Taken (s s':CC)(hx:List Nat)(k:Nat):Prop where
 lt:k<s.fs.length
 fs:s'.fs=s.fs.set k one0
 tn:s'.tn=s.tn
 sub:s'.sl.Sublist s.sl
 no:∀ x∈s'.sl,x.f≠(k:Int)
 held:hx.count k=0
 same:∀ f:Nat,f≠k→s'.sl.countP (fun x=>decide (x.f=(f:Int)))=s.sl.countP (fun x=>decide (x.f=(f:Int)))
 stays:∀ x∈s.sl,∀ f:Nat,x.f=(f:Int)→1≤hx.count f→x∈s'.sl
 room:freeN s'.fs+s'.sl.countP (loB s'.fs)+1=freeN s.fs+s.sl.countP (loB s.fs)
end
theorem countP_strike (q:SLO→Bool){x:SLO}:∀ {sl:List SLO},(sl.Pairwise fun x y=>¬ (x.i=y.i∧x.p=y.p))→x∈sl→(strikeS sl x.i x.p).countP q+(if q x=true then 1 else 0)=sl.countP q
 | [],_,h=>by cases h
 | y::sl,hp,h=>by
  rw [List.pairwise_cons] at hp
  unfold strikeS
  rcases List.mem_cons.1 h with rfl|h
  ·have e:(sl.filter fun z=>!keyB x.i x.p z)=sl:=by
    rw [List.filter_eq_self]
    intro z hz
    have:=hp.1 z hz
    have hk:=@keyB_iff x.i x.p z
    cases hb:keyB x.i x.p z
    ·rfl
    ·exact absurd (let h:=hk.1 hb;⟨h.1.symm,h.2.symm⟩) this
   rw [List.filter_cons,(show (!keyB x.i x.p x)=false by rw [Bool.not_eq_false',keyB_iff];exact ⟨rfl,rfl⟩),e,List.countP_cons]
   rfl
  ·have ih:=countP_strike q hp.2 h
   unfold strikeS at ih
   have hy:(!keyB x.i x.p y)=true:=by
    rw [Bool.not_eq_true']
    cases hb:keyB x.i x.p y
    ·rfl
    ·have:=keyB_iff.1 hb
     exact absurd this (hp.1 x h)
   rw [List.filter_cons,if_pos hy,List.countP_cons,List.countP_cons]
   omega
section
variable {rd:Int→Int→List UInt8 × Int}{s s':CC}{hx:List Nat}
theorem one0_cnt:one0.cnt=1:=rfl
theorem freeN_set (fs:List FR)(k:Nat)(y:FR)(hk:k<fs.length):freeN (fs.set k y)+(if fs[k].cnt==0 then 1 else 0)=freeN fs+(if y.cnt==0 then 1 else 0):=by
 unfold freeN
 rw [List.countP_set hk]
 have h1:(if fs[k].cnt==0 then 1 else 0)≤fs.countP (fun x=>x.cnt==0):=by
  split
  ·rename_i h
   exact List.countP_pos_iff.2 ⟨fs[k],List.getElem_mem hk,h⟩
  ·omega
 omega
theorem cntF_set {fs:List FR}{k:Nat}{y:FR}{f:Int}(h:f≠(k:Int)):cntF (fs.set k y) f=cntF fs f:=by
 unfold cntF
 rw [List.length_set]
 split
 ·rename_i c
  obtain ⟨n,rfl⟩:=Int.eq_ofNat_of_zero_le c.1
  have hn:n<fs.length:=by omega
  rw [Int.toNat_natCast,getF_at _ _ _ (by rw [List.length_set];exact hn),getF_at _ _ _ hn,List.getElem_set_ne (by omega)]
 ·rfl
theorem lo_set {fs:List FR}{k:Nat}{y:FR}{sl:List SLO}(h:∀ x∈sl,x.f≠(k:Int)):sl.countP (loB (fs.set k y))=sl.countP (loB fs):=by
 refine List.countP_congr fun x hx=>?_
 unfold loB
 rw [cntF_set (h x hx)]
theorem Good.oldest (G:Good rd s hx){x:SLO}(h:x∈s.sl)(hl:loB s.fs x=true):∃ f:Nat,x.f=(f:Int)∧∃ hf:f<s.fs.length,s.fs[f].cnt=1∧hx.count f=0:=by
 obtain ⟨f,e,hf,hc⟩:=G.cntF h
 unfold loB at hl
 rw [e,cntF_at hf,hc] at hl
 have:=of_decide_eq_true hl
 exact ⟨f,e,hf,by rw [hc,this],by omega⟩
theorem takC_free {k:Nat}(h:lowR s.fs=some k):takC s=((k:Int),0,{ s with fs:=s.fs.set k one0 }):=by unfold takC;rw [h]
theorem takC_none (h:lowR s.fs=none)(h2:s.sl.find? (loB s.fs)=none):takC s=(0,4,s):=by unfold takC;rw [h];simp only;rw [h2]
theorem takC_old {x:SLO}(h:lowR s.fs=none)(h2:s.sl.find? (loB s.fs)=some x):takC s=(takeV (downS s.fs x.f),takeE (downS s.fs x.f),{ s with fs:=takeS (downS s.fs x.f),sl:=strikeS s.sl x.i x.p }):=by unfold takC;rw [h];simp only;rw [h2]
theorem downS_at {fs:List FR}{k:Nat}(hk:k<fs.length)(h:fs[k].cnt≠0):downS fs (k:Int)=fs.set k ⟨fs[k].bs,fs[k].cnt-1⟩:=by
 unfold downS
 rw [cntF_at hk,if_neg h,Int.toNat_natCast,getF_at _ _ _ hk]
/-- A frame that is down at last is the one that is taken. -/
theorem take_down {fs:List FR}{k:Nat}(hl:lowR fs=none)(hk:k<fs.length)(h1:fs[k].cnt=1):lowR (downS fs (k:Int))=some k∧takeS (downS fs (k:Int))=fs.set k one0∧takeV (downS fs (k:Int))=(k:Int)∧takeE (downS fs (k:Int))=0:=by
 have e:lowR (downS fs (k:Int))=some k:=by
  rw [downS_at hk (by omega)]
  refine low_only (by rw [List.length_set];exact hk) (by rw [List.getElem_set_self];simp [h1]) fun f hf hne=>?_
  rw [List.length_set] at hf
  rw [List.getElem_set_ne (by omega)]
  exact lowC_none hl f hf
 refine ⟨e,?_,?_,?_⟩
 ·unfold takeS;rw [e];simp only;rw [downS_at hk (by omega),List.set_set]
 ·unfold takeV;rw [e]
 ·unfold takeE;rw [e]
theorem takC_case (G:Good rd s hx):(∃ k:Nat,∃ s',takC s=((k:Int),0,s')∧Taken s s' hx k)∨(takC s=(0,4,s)∧freeN s.fs+s.sl.countP (loB s.fs)=0):=by
 cases hl:lowR s.fs with
 | some k=>
  obtain ⟨hk,h0⟩:=lowC_is hl
  have hno:∀ x∈s.sl,x.f≠(k:Int):=fun x hx' e=>by
   have:=slot_count hx' e
   have:=G.cnt k hk
   omega
  refine .inl ⟨k,_,takC_free hl,⟨hk,rfl,rfl,List.Sublist.refl _,hno,by have:=G.cnt k hk;omega,fun _ _=>rfl,fun x hx' _ _ _=>hx',?_⟩⟩
  simp only
  rw [lo_set hno]
  have:=freeN_set s.fs k one0 hk
  rw [h0,one0_cnt] at this
  simp at this
  omega
 | none=>
  cases ho:s.sl.find? (loB s.fs) with
  | none=>
   refine .inr ⟨takC_none hl ho,?_⟩
   have h1:s.sl.countP (loB s.fs)=0:=by
    rw [List.countP_eq_zero]
    exact List.find?_eq_none.1 ho
   have h2:freeN s.fs=0:=by
    unfold freeN
    rw [List.countP_eq_zero]
    intro x hx'
    obtain ⟨f,hf,rfl⟩:=List.mem_iff_getElem.1 hx'
    have:=lowC_none hl f hf
    simpa using this
   omega
  | some x=>
   have hx':=List.mem_of_find?_eq_some ho
   have hlo:=List.find?_some ho
   obtain ⟨k,e,hk,h1,hc⟩:=G.oldest hx' hlo
   obtain ⟨e1,e2,e3,e4⟩:=take_down hl hk h1
   have hno:∀ y∈strikeS s.sl x.i x.p,y.f≠(k:Int):=fun y hy e5=>by
    obtain ⟨h3,h4⟩:=strike_mem.1 hy
    have h5:=apart_count G.apart (k:Int)
    have h6:=countP_strike (fun z=>decide (z.f=(k:Int))) G.keys hx'
    have h7:1≤(strikeS s.sl x.i x.p).countP (fun z=>decide (z.f=(k:Int))):=slot_count hy e5
    rw [if_pos (by simpa using e)] at h6
    omega
   refine .inl ⟨k,{ s with fs:=s.fs.set k one0,sl:=strikeS s.sl x.i x.p },by rw [takC_old hl ho,e,e2,e3,e4],⟨hk,rfl,rfl,List.filter_sublist,hno,hc,?_,?_,?_⟩⟩
   ·intro f hf
    have:=countP_strike (fun z=>decide (z.f=(f:Int))) G.keys hx'
    rw [if_neg (by rw [e];simp;omega)] at this
    exact this
   ·intro y hy f ef h8
    refine strike_mem.2 ⟨hy,fun h9=>?_⟩
    have h5:=apart_count G.apart (f:Int)
    by_cases hfk:f=k
    ·subst hfk;omega
    ·have h6:=G.keys
     have:y=x:=by
      have h7:=countP_strike (fun z=>decide (z=y)) G.keys hx'
      by_cases hyx:y=x
      ·exact hyx
      ·exfalso
       have hy2:=countP_strike (fun z=>keyB x.i x.p z) G.keys hx'
       rw [if_pos (by rw [keyB_iff];exact ⟨rfl,rfl⟩)] at hy2
       have h10:(strikeS s.sl x.i x.p).countP (fun z=>keyB x.i x.p z)=0:=by
        rw [List.countP_eq_zero]
        intro z hz
        rw [keyB_iff]
        exact (strike_mem.1 hz).2
       have h11:2≤s.sl.countP (fun z=>keyB x.i x.p z):=by
        have h12:=(List.filter_sublist (l:=s.sl) (p:=fun z=>keyB x.i x.p z)).length_le
        have hfx:x∈s.sl.filter (fun z=>keyB x.i x.p z):=List.mem_filter.2 ⟨hx',keyB_iff.2 ⟨rfl,rfl⟩⟩
        have hfy:y∈s.sl.filter (fun z=>keyB x.i x.p z):=List.mem_filter.2 ⟨hy,keyB_iff.2 h9⟩
        rw [List.countP_eq_length_filter]
        generalize s.sl.filter (fun z=>keyB x.i x.p z)=l at *
        match l,hfx,hfy with
        | [],h,_=>cases h
        | [a],h,h'=>
         rw [List.mem_singleton] at h h'
         exact absurd (h'.trans h.symm) hyx
        | a::b::l,_,_=>simp
       omega
     rw [this,e] at ef
     omega
   ·simp only
    rw [lo_set hno]
    have h3:=freeN_set s.fs k one0 hk
    rw [h1,one0_cnt] at h3
    simp at h3
    have h4:=countP_strike (loB s.fs) G.keys hx'
    rw [if_pos hlo] at h4
    omega
theorem Taken.good {k:Nat}(T:Taken s s' hx k)(G:Good rd s hx):Good rd s' (k::hx):=by
 have hlen:s'.fs.length=s.fs.length:=by rw [T.fs,List.length_set]
 have hsub:=fun x (h:x∈s'.sl)=>T.sub.subset h
 refine ⟨?_,G.keys.sublist T.sub,G.asked.sublist T.sub,?_,?_,G.apart.sublist T.sub,?_,?_,?_,?_,?_⟩
 ·intro f hf
  have hf':f<s.fs.length:=by omega
  have e:s'.fs[f]=(s.fs.set k one0)[f]'(by rw [List.length_set];exact hf'):=by simp only [T.fs]
  rw [e]
  by_cases h:f=k
  ·subst h
   rw [List.getElem_set_self,List.count_cons_self,T.held]
   have:s'.sl.countP (fun x=>decide (x.f=(f:Int)))=0:=by
    rw [List.countP_eq_zero]
    intro x hx'
    simpa using T.no x hx'
   rw [this]
   rfl
  ·rw [List.getElem_set_ne (by omega),List.count_cons_of_ne (by simpa using fun e=>h e.symm),T.same f h]
   exact G.cnt f hf'
 ·intro x hx'
  rw [T.tn]
  exact G.last x (hsub x hx')
 ·intro x hx'
  rw [hlen]
  exact G.fr x (hsub x hx')
 ·intro f hf
  rw [hlen]
  rcases List.mem_cons.1 hf with rfl|hf
  ·exact T.lt
  ·exact G.hold f hf
 ·rw [T.tn]
  exact Nat.le_trans T.sub.length_le G.many
 ·rw [T.fs]
  exact fun x hx'=>by
   rcases List.mem_or_eq_of_mem_set hx' with h|rfl
   ·exact G.lens x h
   ·exact one0_len
 ·intro x hx'
  exact G.page x (hsub x hx')
 ·intro x hx' f e hf
  have hf':f<s.fs.length:=by omega
  have hne:k≠f:=fun e2=>T.no x hx' (by rw [e,e2])
  have e3:s'.fs[f]=(s.fs.set k one0)[f]'(by rw [List.length_set];exact hf'):=by simp only [T.fs]
  rw [e3,List.getElem_set_ne hne]
  exact G.bytes x (hsub x hx') f e hf'
end
section
variable {rd:Int→Int→List UInt8 × Int}{s s':CC}{hx:List Nat}
theorem Good.perm (G:Good rd s hx){hy:List Nat}(h:hx.Perm hy):Good rd s hy:=
 ⟨fun f hf=>by rw [← h.count_eq];exact G.cnt f hf,G.keys,G.asked,G.last,G.fr,G.apart,fun f hf=>G.hold f (h.mem_iff.2 hf),G.many,G.lens,G.page,G.bytes⟩
theorem strike_apart {sl:List SLO}(hp:sl.Pairwise fun x y=>x.f≠y.f){x y:SLO}(hx:x∈sl)(hy:y∈strikeS sl x.i x.p):y.f≠x.f:=by
 obtain ⟨h1,h2⟩:=strike_mem.1 hy
 intro e
 have:=apart_count hp x.f
 have h3:2≤sl.countP (fun z=>decide (z.f=x.f)):=by
  have hfx:x∈sl.filter (fun z=>decide (z.f=x.f)):=List.mem_filter.2 ⟨hx,by simp⟩
  have hfy:y∈sl.filter (fun z=>decide (z.f=x.f)):=List.mem_filter.2 ⟨h1,by simpa using e⟩
  rw [List.countP_eq_length_filter]
  have hne:y≠x:=fun e2=>h2 ⟨by rw [e2],by rw [e2]⟩
  generalize sl.filter (fun z=>decide (z.f=x.f))=l at *
  match l,hfx,hfy with
  | [],h,_=>cases h
  | [a],h,h'=>
   rw [List.mem_singleton] at h h'
   exact absurd (h'.trans h.symm) hne
  | a::b::l,_,_=>simp
 omega
theorem Good.strike (G:Good rd s hx){x:SLO}(h:x∈s.sl){k:Nat}(e:x.f=(k:Int)):Good rd { s with sl:=strikeS s.sl x.i x.p } (k::hx):=by
 have hs:(strikeS s.sl x.i x.p).Sublist s.sl:=List.filter_sublist
 refine ⟨?_,G.keys.sublist hs,G.asked.sublist hs,fun y hy=>G.last y (hs.subset hy),fun y hy=>G.fr y (hs.subset hy),G.apart.sublist hs,?_,Nat.le_trans hs.length_le G.many,G.lens,fun y hy=>G.page y (hs.subset hy),fun y hy=>G.bytes y (hs.subset hy)⟩
 ·intro f hf
  simp only at hf ⊢
  rw [G.cnt f hf]
  have:=countP_strike (fun z=>decide (z.f=(f:Int))) G.keys h
  by_cases c:f=k
  ·subst c
   rw [if_pos (by simpa using e)] at this
   rw [List.count_cons_self]
   omega
  ·rw [if_neg (by rw [e];simp;omega)] at this
   rw [List.count_cons_of_ne (by simpa using fun e=>c e.symm)]
   omega
 ·intro f hf
  rcases List.mem_cons.1 hf with rfl|hf
  ·obtain ⟨f',e',hf'⟩:=G.fr x h
   simp only
   omega
  ·exact G.hold f hf
theorem Good.push {k:Nat}(G:Good rd s (k::hx)){i p:Int}(hk:∀ x∈s.sl,¬ (x.i=i∧x.p=p))(hf:∀ x∈s.sl,x.f≠(k:Int))(hp:0≤p∧p<16∧(rd i p).2=0)(hb:∀ hk:k<s.fs.length,s.fs[k].bs=b2i (rd i p).1++List.replicate (4096-(rd i p).1.length) 0):
 Good rd { s with sl:=s.sl++[⟨i,p,k,(s.tn:Int)+1⟩],tn:=s.tn+1 } hx:=by
 have hkl:=G.hold k (by simp)
 refine ⟨?_,?_,?_,?_,?_,?_,fun f hf=>G.hold f (List.mem_cons_of_mem _ hf),?_,G.lens,?_,?_⟩
 ·intro f hf
  simp only at hf ⊢
  rw [G.cnt f hf,List.countP_append,List.countP_singleton]
  by_cases c:f=k
  ·subst c
   rw [List.count_cons_self]
   simp
   omega
  ·rw [List.count_cons_of_ne (by simpa using fun e=>c e.symm),if_neg (by simp;omega)]
   rfl
 ·rw [List.pairwise_append]
  exact ⟨G.keys,List.pairwise_singleton _ _,fun x hx' y hy=>by rw [List.mem_singleton.1 hy];exact hk x hx'⟩
 ·rw [List.pairwise_append]
  exact ⟨G.asked,List.pairwise_singleton _ _,fun x hx' y hy=>by rw [List.mem_singleton.1 hy];have:=G.last x hx';simp only;omega⟩
 ·intro x hx'
  rcases List.mem_append.1 hx' with h|h
  ·have:=G.last x h;simp only;omega
  ·rw [List.mem_singleton.1 h];simp only;omega
 ·intro x hx'
  rcases List.mem_append.1 hx' with h|h
  ·exact G.fr x h
  ·rw [List.mem_singleton.1 h];exact ⟨k,rfl,hkl⟩
 ·rw [List.pairwise_append]
  exact ⟨G.apart,List.pairwise_singleton _ _,fun x hx' y hy=>by rw [List.mem_singleton.1 hy];exact hf x hx'⟩
 ·have:=G.many;simp only [List.length_append,List.length_singleton];omega
 ·intro x hx'
  rcases List.mem_append.1 hx' with h|h
  ·exact G.page x h
  ·rw [List.mem_singleton.1 h];exact hp
 ·intro x hx' f e hf'
  rcases List.mem_append.1 hx' with h|h
  ·exact G.bytes x h f e hf'
  ·rw [List.mem_singleton.1 h] at e ⊢
   simp only at e ⊢
   have:f=k:=by omega
   subst this
   exact hb hf'
theorem Good.setFs (G:Good rd s hx){hy:List Nat}{k:Nat}{y:FR}(hk:k<s.fs.length)(hc:y.cnt=((hy.count k+s.sl.countP (fun x=>decide (x.f=(k:Int))):Nat):Int))(hs:∀ f,f≠k→hy.count f=hx.count f)(hm:∀ f∈hy,f<s.fs.length)(hl:y.bs.length=4096)
 (hb:∀ x∈s.sl,x.f=(k:Int)→y.bs=s.fs[k].bs):Good rd { s with fs:=s.fs.set k y } hy:=by
 refine ⟨?_,G.keys,G.asked,G.last,?_,G.apart,?_,G.many,?_,G.page,?_⟩
 ·intro f hf
  simp only [List.length_set] at hf ⊢
  by_cases c:k=f
  ·subst c
   rw [List.getElem_set_self]
   exact hc
  ·rw [List.getElem_set_ne c,hs f (fun e=>c e.symm)]
   exact G.cnt f hf
 ·intro x hx'
  simp only [List.length_set]
  exact G.fr x hx'
 ·intro f hf
  simp only [List.length_set]
  exact hm f hf
 ·intro x hx'
  rcases List.mem_or_eq_of_mem_set hx' with h|rfl
  ·exact G.lens x h
  ·exact hl
 ·intro x hx' f e hf
  simp only [List.length_set] at hf ⊢
  by_cases c:k=f
  ·subst c
   rw [List.getElem_set_self,hb x hx' e]
   exact G.bytes x hx' k e hf
  ·rw [List.getElem_set_ne c]
   exact G.bytes x hx' f e hf
theorem Good.up (G:Good rd s hx){k:Nat}(hk:k<s.fs.length)(h0:s.fs[k].cnt≠0):Good rd { s with fs:=upS s.fs (k:Int) } (k::hx):=by
 have e:upS s.fs (k:Int)=s.fs.set k ⟨s.fs[k].bs,s.fs[k].cnt+1⟩:=by
  unfold upS
  rw [cntF_at hk,if_neg h0,Int.toNat_natCast,getF_at _ _ _ hk]
 rw [e]
 refine G.setFs hk (by simp only;rw [G.cnt k hk,List.count_cons_self];omega) (fun f hf=>by rw [List.count_cons_of_ne (by simpa using fun e=>hf e.symm)]) ?_ (show s.fs[k].bs.length=4096 from G.lens _ (List.getElem_mem hk)) (fun _ _ _=>rfl)
 intro f hf
 rcases List.mem_cons.1 hf with rfl|hf
 ·exact hk
 ·exact G.hold f hf
theorem Good.down {k:Nat}(G:Good rd s (k::hx)):Good rd { s with fs:=downS s.fs (k:Int) } hx:=by
 have hk:=G.hold k (by simp)
 have hc:=G.cnt k hk
 rw [List.count_cons_self] at hc
 rw [downS_at hk (by omega)]
 exact G.setFs hk (by simp only;omega) (fun f hf=>by rw [List.count_cons_of_ne (by simpa using fun e=>hf e.symm)]) (fun f hf=>G.hold f (List.mem_cons_of_mem _ hf)) (show s.fs[k].bs.length=4096 from G.lens _ (List.getElem_mem hk)) (fun _ _ _=>rfl)
theorem look_of (G:Good rd s hx){y:SLO}(h:y∈s.sl):lookS s.sl y.i y.p=some y:=by
 unfold lookS
 cases hf:s.sl.find? (keyB y.i y.p) with
 | none=>
  rw [List.find?_eq_none] at hf
  exact absurd (keyB_iff.2 ⟨rfl,rfl⟩) (hf y h)
 | some z=>
  have hz:=List.mem_of_find?_eq_some hf
  have hk:=keyB_iff.1 (List.find?_some hf)
  by_cases e:z=y
  ·rw [e]
  ·exfalso
   have h2:=countP_strike (fun w=>keyB y.i y.p w) G.keys h
   rw [if_pos (by rw [keyB_iff];exact ⟨rfl,rfl⟩)] at h2
   have h10:(strikeS s.sl y.i y.p).countP (fun w=>keyB y.i y.p w)=0:=by
    rw [List.countP_eq_zero]
    intro w hw
    rw [keyB_iff]
    exact (strike_mem.1 hw).2
   have h11:2≤s.sl.countP (fun w=>keyB y.i y.p w):=by
    have hfx:y∈s.sl.filter (fun w=>keyB y.i y.p w):=List.mem_filter.2 ⟨h,keyB_iff.2 ⟨rfl,rfl⟩⟩
    have hfy:z∈s.sl.filter (fun w=>keyB y.i y.p w):=List.mem_filter.2 ⟨hz,keyB_iff.2 hk⟩
    rw [List.countP_eq_length_filter]
    generalize s.sl.filter (fun w=>keyB y.i y.p w)=l at *
    match l,hfx,hfy with
    | [],h,_=>cases h
    | [a],h,h'=>
     rw [List.mem_singleton] at h h'
     exact absurd (h'.trans h.symm) e
    | a::b::l,_,_=>simp
   omega
theorem look_some {sl:List SLO}{i p:Int}{x:SLO}(h:lookS sl i p=some x):x∈sl∧x.i=i∧x.p=p:=⟨List.mem_of_find?_eq_some h,keyB_iff.1 (List.find?_some h)⟩
theorem look_none {sl:List SLO}{i p:Int}(h:lookS sl i p=none):∀ x∈sl,¬ (x.i=i∧x.p=p):=fun x hx' e=>List.find?_eq_none.1 h x hx' (keyB_iff.2 e)
theorem strike_none {sl:List SLO}{i p:Int}(h:∀ x∈sl,¬ (x.i=i∧x.p=p)):strikeS sl i p=sl:=by
 unfold strikeS
 rw [List.filter_eq_self]
 intro x hx'
 rw [Bool.not_eq_true']
 cases hb:keyB i p x
 ·rfl
 ·exact absurd (keyB_iff.1 hb) (h x hx')
/-- What a page that is got turns. -/
structure Got (rd:Int→Int→List UInt8 × Int)(s s':CC)(hx:List Nat)(i p:Int)(k:Nat):Prop where
 good:Good rd s' hx
 len:s'.fs.length=s.fs.length
 lt:k<s.fs.length
 tn:s'.tn=s.tn+1
 slot:∃ y∈s'.sl,y.i=i∧y.p=p∧y.f=(k:Int)
 stays:∀ x∈s.sl,∀ f:Nat,x.f=(f:Int)→1≤hx.count f→∃ y∈s'.sl,y.i=x.i∧y.p=x.p∧y.f=x.f
 ok:0≤p∧p<16∧(rd i p).2=0
theorem b2i_len (b:List UInt8):(b2i b).length=b.length:=by unfold b2i;rw [List.length_map]
theorem one0_bs:one0.bs=List.replicate 4096 0:=rfl
theorem filC_ok {k:Nat}{s1:CC}(h:takC s=((k:Int),0,s1))(T:Taken s s1 hx k)(b:List UInt8)(hb:b.length≤4096):
 filC s b=((k:Int),0,{ s1 with fs:=s1.fs.set k ⟨b2i b++List.replicate (4096-b.length) 0,1⟩ }):=by
 unfold filC
 rw [h]
 simp only [if_pos]
 have hk:k<s1.fs.length:=by rw [T.fs,List.length_set];exact T.lt
 have e1:s1.fs[k]=one0:=by simp only [T.fs];rw [List.getElem_set_self]
 have ec:cntF s1.fs (k:Int)=1:=by rw [cntF_at hk,e1];rfl
 have hL:loadE s1.fs (k:Int) 0 b.length=0:=by
  unfold loadE takE withinB
  rw [ec]
  simp
  omega
 have hL2:loadE s1.fs (k:Int) 0 (b2i b).length=0:=by rw [b2i_len];exact hL
 rw [hL]
 unfold storeS
 rw [if_pos hL2,Int.toNat_natCast,getF_at _ _ _ hk,e1]
 have e2:splice one0.bs (Int.toNat 0) (b2i b)=b2i b++List.replicate (4096-b.length) 0:=by
  show List.take 0 one0.bs++(b2i b++one0.bs.drop (0+(b2i b).length))=_
  rw [List.take_zero,List.nil_append,Nat.zero_add,b2i_len,one0_bs,List.drop_replicate]
 rw [e2]
 rfl
theorem getC_case (G:Good rd s hx)(i p:Int)(hr:∀ i p,(rd i p).1.length≤4096):(∃ e,getC rd s i p=(0,e,s)∧e≠0∧(e=4→(rd i p).2=4∨freeN s.fs=0))∨(∃ k:Nat,∃ s',getC rd s i p=((k:Int),0,s')∧Got rd s s' hx i p k):=by
 unfold getC
 by_cases h1:p<0∨16≤p
 ·rw [if_pos h1];exact .inl ⟨1,rfl,by decide,fun h=>by cases h⟩
 ·rw [if_neg h1]
  by_cases h2:(rd i p).2≠0
  ·rw [if_pos h2];exact .inl ⟨_,rfl,h2,fun h=>.inl h⟩
  ·rw [if_neg h2]
   have h2:(rd i p).2=0:=by simpa using h2
   have hp:0≤p∧p<16∧(rd i p).2=0:=⟨by omega,by omega,h2⟩
   cases hl:lookS s.sl i p with
   | some x=>
    obtain ⟨hx',rfl,rfl⟩:=look_some hl
    obtain ⟨k,e,hk⟩:=G.fr x hx'
    refine .inr ⟨k,{ s with sl:=strikeS s.sl x.i x.p++[⟨x.i,x.p,(k:Int),(s.tn:Int)+1⟩],tn:=s.tn+1 },by simp only [e],?_,rfl,hk,rfl,⟨_,List.mem_append_right _ (List.mem_singleton.2 rfl),rfl,rfl,rfl⟩,?_,hp⟩
    ·have:=(G.strike hx' e).push (i:=x.i) (p:=x.p) (fun y hy=>(strike_mem.1 hy).2) (fun y hy=>by rw [← e];exact strike_apart G.apart hx' hy) hp (fun hk'=>G.bytes x hx' k e hk)
     exact this
    ·intro y hy f ef hf
     by_cases c:y.i=x.i∧y.p=x.p
     ·have:y=x:=by
       have h3:=look_of G hy
       rw [c.1,c.2,hl] at h3
       exact (Option.some.inj h3).symm
      subst this
      exact ⟨_,List.mem_append_right _ (List.mem_singleton.2 rfl),rfl,rfl,e.symm⟩
     ·exact ⟨y,List.mem_append_left _ (strike_mem.2 ⟨hy,c⟩),rfl,rfl,rfl⟩
   | none=>
    simp only
    rcases takC_case G with ⟨k,s1,ht,T⟩|⟨ht,h0⟩
    ·have hf:=filC_ok ht T (rd i p).1 (hr i p)
     rw [hf]
     simp only [if_pos]
     have hk:k<s1.fs.length:=by rw [T.fs,List.length_set];exact T.lt
     have G1:=T.good G
     have hno:∀ x∈s1.sl,¬ (x.i=i∧x.p=p):=fun x hx'=>look_none hl x (T.sub.subset hx')
     have G2:Good rd { s1 with fs:=s1.fs.set k ⟨b2i (rd i p).1++List.replicate (4096-(rd i p).1.length) 0,1⟩ } (k::hx):=by
      have hz:s1.sl.countP (fun x=>decide (x.f=(k:Int)))=0:=by
       rw [List.countP_eq_zero]
       intro x hx'
       simpa using T.no x hx'
      refine G1.setFs hk (by rw [hz,List.count_cons_self,T.held];rfl) (fun _ _=>rfl) G1.hold ?_ (fun x hx' e=>absurd e (T.no x hx'))
      have:=hr i p
      rw [List.length_append,b2i_len,List.length_replicate]
      omega
     refine .inr ⟨k,{ fs:=s1.fs.set k ⟨b2i (rd i p).1++List.replicate (4096-(rd i p).1.length) 0,1⟩,sl:=strikeS s1.sl i p++[⟨i,p,(k:Int),(s1.tn:Int)+1⟩],tn:=s1.tn+1 },rfl,?_,by simp only [List.length_set,T.fs],T.lt,by simp only [T.tn],⟨_,List.mem_append_right _ (List.mem_singleton.2 rfl),rfl,rfl,rfl⟩,?_,hp⟩
     ·rw [strike_none hno]
      exact G2.push hno T.no hp (fun hk'=>by simp only;rw [List.getElem_set_self])
     ·intro x hx' f ef hf
      have hx1:=T.stays x hx' f ef hf
      exact ⟨x,List.mem_append_left _ (by rw [strike_none hno];exact hx1),rfl,rfl,rfl⟩
    ·unfold filC
     rw [ht]
     exact .inl ⟨4,rfl,by decide,fun _=>.inr (by omega)⟩
end
end Go.Proofs.YtdjpjfdeeelijaaGreatDoor
