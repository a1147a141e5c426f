/- TablePlays, plain: a tree's nodes by level and part, its leaves by address. TablePlays, plain: what Map does, as the document takes and lays. TablePlays, plain: the document's Map does what Map does. TablePlays, plain: Map, whole. TablePlays, plain: what Unmap leaves. -/
import Derived.Test.YtdjpjfdeeelijaaGreatDoorW06
namespace Go.Proofs.YtdjpjfdeeelijaaGreatDoor
open Go.RowKit Go.Sort
/-- A node of the document's: level, part of the addresses, frame. -/
structure ND9 where
 lv:Nat
 pt:Nat
 f:Nat
/-- The nodes of a tree of level k that lies at a part. -/
def prT:Nat→Nat→Tr→List ND9
 | 0,_,_=>[]
 | k+1,pt,.nd f kids=>⟨k+1,pt,f⟩::(List.range 512).flatMap fun i=>prT k (pt*512+i) (kids i)
 | _+1,_,_=>[]
/-- The nodes below the root. -/
abbrev prR (kids:Nat→Tr):List ND9:=(List.range 512).flatMap fun i=>prT 3 i (kids i)
theorem prT_no (k pt:Nat):prT k pt .no=[]:=by cases k <;> rfl
theorem prT_f:∀ (k pt:Nat) (tr:Tr),(prT k pt tr).map (·.f)=nodesT k tr
 | 0,_,_=>by cases ‹Tr› <;> rfl
 | k+1,pt,.no=>rfl
 | k+1,pt,.lf _ _ _=>rfl
 | k+1,pt,.nd f kids=>by
  show f::((List.range 512).flatMap fun i=>prT k (pt*512+i) (kids i)).map (·.f)=f::(List.range 512).flatMap fun i=>nodesT k (kids i)
  rw [List.map_flatMap]
  exact congrArg (List.cons f) (congrArg (fun h=>List.flatMap h (List.range 512)) (funext fun i=>prT_f k _ (kids i)))
theorem prR_f (root:Nat)(kids:Nat→Tr):nodesT 4 (.nd root kids)=root::(prR kids).map (·.f):=by
 show root::_=_
 unfold prR
 rw [List.map_flatMap]
 exact congrArg (List.cons root) (congrArg (fun h=>List.flatMap h (List.range 512)) (funext fun i=>(prT_f 3 _ (kids i)).symm))
theorem prT_key:∀ {k pt:Nat} {tr:Tr} {x:ND9},x∈prT k pt tr→1≤x.lv∧x.lv≤k∧x.pt/512 ^ (k-x.lv)=pt
 | 0,_,_,_,h=>by cases h
 | k+1,pt,.no,_,h=>by cases h
 | k+1,pt,.lf _ _ _,_,h=>by cases h
 | k+1,pt,.nd f kids,x,h=>by
  rcases List.mem_cons.1 h with rfl|h
  ·exact ⟨Nat.succ_pos _,Nat.le_refl _,by show pt/512 ^ (k+1-(k+1))=pt;rw [Nat.sub_self,Nat.pow_zero,Nat.div_one]⟩
  ·obtain ⟨i,hi,hx⟩:=List.mem_flatMap.1 h
   have hi:=List.mem_range.1 hi
   obtain ⟨h1,h2,h3⟩:=prT_key hx
   refine ⟨h1,by omega,?_⟩
   rw [show k+1-x.lv=(k-x.lv)+1 by omega,Nat.pow_succ,← Nat.div_div_eq_div_mul,h3]
   omega
theorem prT_apart:∀ (k pt:Nat) (tr:Tr),(prT k pt tr).Pairwise fun x y=>x.lv≠y.lv∨x.pt≠y.pt
 | 0,_,_=>by cases ‹Tr› <;> exact List.Pairwise.nil
 | k+1,pt,.no=>List.Pairwise.nil
 | k+1,pt,.lf _ _ _=>List.Pairwise.nil
 | k+1,pt,.nd f kids=>by
  refine List.pairwise_cons.2 ⟨fun y hy=>?_,?_⟩
  ·obtain ⟨i,hi,hx⟩:=List.mem_flatMap.1 hy
   have:=(prT_key hx).2.1
   exact .inl (by show k+1≠y.lv;omega)
  ·refine List.pairwise_flatMap.2 ⟨fun i _=>prT_apart k _ (kids i),?_⟩
   refine (List.nodup_range (n:=512)).imp fun {i j} hne x hx y hy=>?_
   by_cases hl:x.lv=y.lv
   ·refine .inr fun e=>hne ?_
    have h1:=(prT_key hx).2.2
    have h2:=(prT_key hy).2.2
    rw [hl,e,h2] at h1
    omega
   ·exact .inl hl
theorem prR_apart (kids:Nat→Tr):(prR kids).Pairwise fun x y=>x.lv≠y.lv∨x.pt≠y.pt:=by
 have h:=prT_apart 4 0 (.nd 0 kids)
 have e:prT 4 0 (.nd 0 kids)=⟨4,0,0⟩::prR kids:=by
  exact congrArg (List.cons (⟨4,0,0⟩:ND9)) (congrArg (fun h=>List.flatMap h (List.range 512)) (funext fun i=>by rw [Nat.zero_mul,Nat.zero_add]))
 rw [e] at h
 exact (List.pairwise_cons.1 h).2
/-- The node of a level on the way that ix tells. -/
def nodeIn (ix:Nat→Nat)(lv:Nat):Nat→Tr→Option (Nat × (Nat→Tr))
 | 0,_=>none
 | k+1,.nd f kids=>if lv=k+1 then some (f,kids) else nodeIn ix lv k (kids (ix k))
 | _+1,_=>none
theorem prT_mem (ad lv g:Nat):∀ (k:Nat) (tr:Tr),(⟨lv,ad/2 ^ (12+9*lv),g⟩:ND9)∈prT k (ad/2 ^ (12+9*k)) tr↔∃ kk,nodeIn (ixOf ad) lv k tr=some (g,kk)
 | 0,tr=>by cases tr <;> exact ⟨fun h=>(by cases h),fun ⟨_,h⟩=>(by cases h)⟩
 | k+1,.no=>⟨fun h=>(by cases h),fun ⟨_,h⟩=>(by cases h)⟩
 | k+1,.lf _ _ _=>⟨fun h=>(by cases h),fun ⟨_,h⟩=>(by cases h)⟩
 | k+1,.nd f kids=>by
  have hpow:(2:Nat) ^ (12+9*(k+1))=2 ^ (12+9*k)*512:=pow_next k
  have hd:ad/2 ^ (12+9*(k+1))*512+ixOf ad k=ad/2 ^ (12+9*k):=by
   unfold ixOf
   rw [hpow,← Nat.div_div_eq_div_mul]
   omega
  constructor
  ·intro h
   rcases List.mem_cons.1 h with h|h
   ·injection h with h1 h2 h3
    subst h1 h3
    exact ⟨kids,by unfold nodeIn;rw [if_pos rfl]⟩
   ·obtain ⟨i,hi,hx⟩:=List.mem_flatMap.1 h
    have hi:=List.mem_range.1 hi
    obtain ⟨h1,h2,h3⟩:=prT_key hx
    have h1:1≤lv:=h1
    have h2:lv≤k:=h2
    have h3:ad/2 ^ (12+9*lv)/512 ^ (k-lv)=ad/2 ^ (12+9*(k+1))*512+i:=h3
    have e:ad/2 ^ (12+9*lv)/512 ^ (k-lv)=ad/2 ^ (12+9*k):=by
     rw [Nat.div_div_eq_div_mul,show (512:Nat)=2 ^ 9 by rfl,← Nat.pow_mul,← Nat.pow_add]
     congr 2
     omega
    have hie:i=ixOf ad k:=by omega
    subst hie
    rw [hd] at hx
    obtain ⟨kk,h4⟩:=(prT_mem ad lv g k (kids (ixOf ad k))).1 hx
    exact ⟨kk,by unfold nodeIn;rw [if_neg (by omega)];exact h4⟩
  ·rintro ⟨kk,h⟩
   unfold nodeIn at h
   split at h
   ·rename_i e
    subst e
    obtain ⟨rfl,rfl⟩:=Prod.mk.inj (Option.some.inj h)
    exact List.mem_cons_self ..
   ·refine List.mem_cons_of_mem _ (List.mem_flatMap.2 ⟨ixOf ad k,List.mem_range.2 (ixOf_lt ad k),?_⟩)
    rw [hd]
    exact (prT_mem ad lv g k (kids (ixOf ad k))).2 ⟨kk,h⟩
/-- The leaves rise. -/
theorem leaves_in:∀ (k c:Nat) (tr:Tr) (y:LF),y∈leavesT k (2 ^ (12+9*k)*c) tr→2 ^ (12+9*k)*c≤y.1∧y.1<2 ^ (12+9*k)*c+2 ^ (12+9*k)∧y.1%4096=0
 | 0,c,.no,y,h=>by cases h
 | 0,c,.nd _ _,y,h=>by cases h
 | 0,c,.lf a q b,y,h=>by
  have e:y=(2 ^ (12+9*0)*c,a,q,b):=List.mem_singleton.1 h
  subst e
  simp only
  rw [show (2:Nat) ^ (12+9*0)=4096 by rfl]
  omega
 | k+1,c,.no,y,h=>by cases h
 | k+1,c,.lf _ _ _,y,h=>by cases h
 | k+1,c,.nd f kids,y,h=>by
  rw [leavesT_nd] at h
  obtain ⟨i,hi,hy⟩:=List.mem_flatMap.1 h
  have hi:=List.mem_range.1 hi
  obtain ⟨M,hM⟩:∃ M,M=2 ^ (12+9*k):=⟨_,rfl⟩
  have hp:(2:Nat) ^ (12+9*(k+1))=M*512:=by rw [pow_next k,hM]
  have hc:2 ^ (12+9*(k+1))*c+i*2 ^ (12+9*k)=2 ^ (12+9*k)*(512*c+i):=by
   rw [hp,← hM,Nat.mul_add,Nat.mul_comm i M,Nat.mul_assoc]
  rw [hc] at hy
  obtain ⟨h1,h2,h3⟩:=leaves_in k _ (kids i) y hy
  rw [← hM] at h1 h2
  have e0:M*(512*c+i)=M*512*c+i*M:=by rw [Nat.mul_add,Nat.mul_comm i M,Nat.mul_assoc]
  rw [e0] at h1 h2
  have hiM:i*M+M≤M*512:=by
   have:(i+1)*M≤512*M:=Nat.mul_le_mul_right M (by omega)
   rw [Nat.add_mul,Nat.one_mul,Nat.mul_comm 512 M] at this
   exact this
  rw [hp]
  exact ⟨by omega,by omega,h3⟩
theorem leaves_rise:∀ (k c:Nat) (tr:Tr),(leavesT k (2 ^ (12+9*k)*c) tr).Pairwise fun x y=>x.1<y.1
 | 0,c,.no=>List.Pairwise.nil
 | 0,c,.nd _ _=>List.Pairwise.nil
 | 0,c,.lf _ _ _=>List.pairwise_singleton _ _
 | k+1,c,.no=>List.Pairwise.nil
 | k+1,c,.lf _ _ _=>List.Pairwise.nil
 | k+1,c,.nd f kids=>by
  rw [leavesT_nd]
  have hc:∀ i,2 ^ (12+9*(k+1))*c+i*2 ^ (12+9*k)=2 ^ (12+9*k)*(512*c+i):=fun i=>by
   rw [pow_next k,Nat.mul_add,Nat.mul_comm i,Nat.mul_assoc]
  simp only [hc]
  refine List.pairwise_flatMap.2 ⟨fun i _=>leaves_rise k _ (kids i),?_⟩
  refine (List.pairwise_lt_range (n:=512)).imp fun {i j} hlt x hx y hy=>?_
  have h1:=(leaves_in k _ _ x hx).2.1
  have h2:=(leaves_in k _ _ y hy).1
  have:2 ^ (12+9*k)*(512*c+i)+2 ^ (12+9*k)≤2 ^ (12+9*k)*(512*c+j):=by
   rw [← Nat.mul_succ]
   exact Nat.mul_le_mul_left _ (by omega)
  omega
theorem all_rise (root:Nat)(kids:Nat→Tr):(allL root kids).Pairwise fun x y=>x.1<y.1:=by
 have:=leaves_rise 4 0 (.nd root kids)
 rwa [Nat.mul_zero] at this
/-- What is looked up is told. -/
theorem look_leaf (ad a p:Nat)(b:Bool):∀ (k f:Nat) (kids:Nat→Tr),lookT (ixOf ad) k kids=.lf a p b→(ad/4096*4096,a,p,b)∈leavesT (k+1) (2 ^ (12+9*(k+1))*(ad/2 ^ (12+9*(k+1)))) (.nd f kids)
 | 0,f,kids,h=>by
  have h:kids (ixOf ad 0)=.lf a p b:=h
  rw [leavesT_nd]
  refine List.mem_flatMap.2 ⟨ixOf ad 0,List.mem_range.2 (ixOf_lt ad 0),?_⟩
  rw [h]
  refine List.mem_singleton.2 ?_
  congr 1
  unfold ixOf
  rw [show (2:Nat) ^ (12+9*(0+1))=2097152 by rfl,show (2:Nat) ^ (12+9*0)=4096 by rfl]
  omega
 | k+1,f,kids,h=>by
  rw [leavesT_nd]
  refine List.mem_flatMap.2 ⟨ixOf ad (k+1),List.mem_range.2 (ixOf_lt ad _),?_⟩
  cases hk:kids (ixOf ad (k+1)) with
  | no=>rw [lookT_no hk] at h;cases h
  | lf a' p' b'=>
   exfalso
   rw [lookT,hk] at h
   cases h
  | nd g kk=>
   rw [lookT_nd hk] at h
   have ih:=look_leaf ad a p b k g kk h
   have e:2 ^ (12+9*(k+1+1))*(ad/2 ^ (12+9*(k+1+1)))+ixOf ad (k+1)*2 ^ (12+9*(k+1))=2 ^ (12+9*(k+1))*(ad/2 ^ (12+9*(k+1))):=by
    unfold ixOf
    rw [pow_next (k+1),← Nat.div_div_eq_div_mul,Nat.mul_assoc,Nat.mul_comm (_%512),← Nat.mul_add]
    congr 1
    omega
   rw [e]
   exact ih
theorem look_all {root ad a p:Nat}{b:Bool}{kids:Nat→Tr}(had:ad<281474976710656)(h:lookT (ixOf ad) 3 kids=.lf a p b):(ad/4096*4096,a,p,b)∈allL root kids:=by
 have:=look_leaf ad a p b 3 root kids h
 rw [show (2:Nat) ^ (12+9*(3+1))=281474976710656 by rfl,Nat.div_eq_of_lt had,Nat.mul_zero] at this
 exact this
theorem flat_upd {α:Type}(H:Nat→Tr→List α)(kids:Nat→Tr)(i:Nat)(hi:i<512):∃ R,∀ c,((List.range 512).flatMap fun j=>H j (updK kids i c j)).Perm (H i c++R):=by
 refine ⟨((List.range 512).erase i).flatMap fun j=>H j (kids j),fun c=>?_⟩
 have p:(List.range 512).Perm (i::(List.range 512).erase i):=List.perm_cons_erase (List.mem_range.2 hi)
 refine (p.flatMap_right _).trans ?_
 rw [List.flatMap_cons,updK_at]
 have e:(((List.range 512).erase i).flatMap fun j=>H j (updK kids i c j))=((List.range 512).erase i).flatMap fun j=>H j (kids j):=by
  rw [List.flatMap_def,List.flatMap_def]
  exact congrArg List.flatten (List.map_congr_left fun j hj=>by rw [updK_ne (((List.nodup_range (n:=512)).mem_erase_iff.1 hj).1)])
 rw [e]
theorem flat_upd2 {α:Type}(H:Nat→Tr→List α)(kids:Nat→Tr)(i:Nat)(hi:i<512){c:Tr}{M:List α}(h:(H i c).Perm (M++H i (kids i))):((List.range 512).flatMap fun j=>H j (updK kids i c j)).Perm (M++(List.range 512).flatMap fun j=>H j (kids j)):=by
 obtain ⟨R,hR⟩:=flat_upd H kids i hi
 have h0:=hR (kids i)
 rw [updK_same] at h0
 refine (hR c).trans ((h.append_right R).trans ?_)
 rw [List.append_assoc]
 exact (h0.symm).append_left M
/-- The frames that Map takes, from above down: of which levels, in which frames. -/
def takesT (ix:Nat→Nat):Nat→CC→Tr→CC × List (Nat × Nat) × Int
 | 0,s,_=>(s,[],0)
 | k+1,s,.nd _ kids=>takesT ix k s (kids (ix k))
 | k+1,s,_=>if (takC s).2.1≠0 then ((takC s).2.2,[],(takC s).2.1)
  else ((takesT ix k (takC s).2.2 .no).1,(k+1,(takC s).1.toNat)::(takesT ix k (takC s).2.2 .no).2.1,(takesT ix k (takC s).2.2 .no).2.2)
/-- The words that are laid: frame, number, word. -/
def laysT (ix:Nat→Nat)(wd:Nat):Nat→Nat→(Nat→Tr)→List (Nat × Nat)→List (Nat × Nat × Nat)
 | 0,f,_,_=>[(f,ix 0,wd)]
 | k+1,f,kids,T=>match kids (ix (k+1)) with
  | .nd g kk=>laysT ix wd k g kk T
  | _=>match T with
   | []=>[]
   | x::T=>(f,ix (k+1),x.2*4096+1)::laysT ix wd k x.2 noK T
theorem takesT_nd (ix:Nat→Nat)(k:Nat)(s:CC)(g:Nat)(kk:Nat→Tr):takesT ix (k+1) s (.nd g kk)=takesT ix k s (kk (ix k)):=rfl
theorem takesT_none {ix:Nat→Nat}{k:Nat}{s:CC}(h:(takC s).2.1≠0):takesT ix (k+1) s .no=((takC s).2.2,[],(takC s).2.1):=by
 show (if (takC s).2.1≠0 then _ else _)=_
 rw [if_pos h]
theorem takesT_took {ix:Nat→Nat}{k:Nat}{s:CC}(h:(takC s).2.1=0):takesT ix (k+1) s .no=((takesT ix k (takC s).2.2 .no).1,(k+1,(takC s).1.toNat)::(takesT ix k (takC s).2.2 .no).2.1,(takesT ix k (takC s).2.2 .no).2.2):=by
 show (if (takC s).2.1≠0 then _ else _)=_
 rw [if_neg (by rw [h];decide)]
theorem laysT_nd {ix:Nat→Nat}{wd k f g:Nat}{kids kk:Nat→Tr}(h:kids (ix (k+1))=.nd g kk)(T:List (Nat × Nat)):laysT ix wd (k+1) f kids T=laysT ix wd k g kk T:=by
 show (match kids (ix (k+1)) with|.nd g kk=>laysT ix wd k g kk T|_=>_)=_
 rw [h]
theorem laysT_no {ix:Nat→Nat}{wd k f:Nat}{kids:Nat→Tr}(h:kids (ix (k+1))=.no)(x:Nat × Nat)(T:List (Nat × Nat)):laysT ix wd (k+1) f kids (x::T)=(f,ix (k+1),x.2*4096+1)::laysT ix wd k x.2 noK T:=by
 show (match kids (ix (k+1)) with|.nd g kk=>laysT ix wd k g kk (x::T)|_=>_)=_
 rw [h]
theorem downT_no0 {v:Vis}{ix:Nat→Nat}{k f:Nat}{s:CC}{kids:Nat→Tr}(h:kids (ix (k+1))=.no)(hg:v.grow=true)(ht:(takC s).2.1≠0):downT v ix (k+1) s f kids=((takC s).2.2,kids,(takC s).2.1):=by
 rw [downT,h]
 simp only
 rw [if_neg (by rw [hg];decide),if_pos ht]
theorem downT_no1 {v:Vis}{ix:Nat→Nat}{k f:Nat}{s:CC}{kids:Nat→Tr}(h:kids (ix (k+1))=.no)(hg:v.grow=true)(ht:(takC s).2.1=0)(h0:(downT v ix k (takC s).2.2 (takC s).1.toNat noK).2.2=0):downT v ix (k+1) s f kids=(layC (downT v ix k (takC s).2.2 (takC s).1.toNat noK).1 f (ix (k+1)) ((takC s).1.toNat*4096+1),updK kids (ix (k+1)) (.nd (takC s).1.toNat (downT v ix k (takC s).2.2 (takC s).1.toNat noK).2.1),0):=by
 rw [downT,h]
 simp only
 rw [if_neg (by rw [hg];decide),if_neg (by rw [ht];decide),if_pos h0]
theorem downT_no2 {v:Vis}{ix:Nat→Nat}{k f:Nat}{s:CC}{kids:Nat→Tr}(h:kids (ix (k+1))=.no)(hg:v.grow=true)(ht:(takC s).2.1=0)(h0:(downT v ix k (takC s).2.2 (takC s).1.toNat noK).2.2≠0):downT v ix (k+1) s f kids=(dnC (downT v ix k (takC s).2.2 (takC s).1.toNat noK).1 (takC s).1.toNat,kids,(downT v ix k (takC s).2.2 (takC s).1.toNat noK).2.2):=by
 rw [downT,h]
 simp only
 rw [if_neg (by rw [hg];decide),if_neg (by rw [ht];decide),if_neg h0]
abbrev layO (s:CC)(x:Nat × Nat × Nat):CC:=layC s x.1 x.2.1 x.2.2
section
variable {ix:Nat→Nat}{a p:Nat}{b:Bool}
theorem map_takes (hix:∀ j,ix j<512):∀ (k:Nat) (s:CC) (f:Nat) (kids:Nat→Tr),Shp (k+1) (.nd f kids)→
 ((takesT ix k s (kids (ix k))).2.2=0→(downT (mapV a p b) ix k s f kids).2.2=0∧(downT (mapV a p b) ix k s f kids).1=(laysT ix (wdT (.lf a p b)) k f kids (takesT ix k s (kids (ix k))).2.1).foldr (fun x s=>layO s x) (takesT ix k s (kids (ix k))).1)∧
 ((takesT ix k s (kids (ix k))).2.2≠0→downT (mapV a p b) ix k s f kids=((takesT ix k s (kids (ix k))).2.1.foldr (fun x s=>dnC s x.2) (takesT ix k s (kids (ix k))).1,kids,(takesT ix k s (kids (ix k))).2.2))
 | 0,s,f,kids,_=>⟨fun _=>⟨rfl,rfl⟩,fun h=>absurd rfl h⟩
 | k+1,s,f,kids,H=>by
  have hh:=H (ix (k+1)) (hix _)
  cases hk:kids (ix (k+1)) with
  | lf a p b=>rw [hk] at hh;exact hh.elim
  | nd g kk=>
   rw [hk] at hh
   obtain ⟨h1,h2⟩:=map_takes hix k s g kk hh
   rw [takesT_nd,downT_nd hk,if_neg (by simp [mapV]),laysT_nd hk]
   refine ⟨h1,fun h=>?_⟩
   rw [h2 h]
   simp only
   rw [← hk,updK_same]
  | no=>
   have hs:Shp (k+1) (.nd ((takC s).1.toNat) noK):=fun i _=>shp_no k
   obtain ⟨h1,h2⟩:=map_takes hix k (takC s).2.2 (takC s).1.toNat noK hs
   rw [show noK (ix k)=Tr.no from rfl] at h1 h2
   by_cases ht:(takC s).2.1=0
   ·rw [takesT_took ht]
    constructor
    ·intro h
     obtain ⟨h3,h4⟩:=h1 h
     rw [downT_no1 hk rfl ht h3,laysT_no hk,List.foldr_cons,← h4]
     exact ⟨rfl,rfl⟩
    ·intro h
     have h3:=h2 h
     rw [downT_no2 hk rfl ht (by rw [h3];exact h),h3,List.foldr_cons]
   ·rw [takesT_none ht,downT_no0 hk rfl ht]
    exact ⟨fun h=>absurd h ht,fun _=>rfl⟩
/-- The tree behind it. -/
theorem map_parts (hix:∀ j,ix j<512):∀ (k:Nat) (s:CC) (f:Nat) (kids:Nat→Tr),Shp (k+1) (.nd f kids)→(takesT ix k s (kids (ix k))).2.2=0→
 ((nodesT (k+1) (.nd f (downT (mapV a p b) ix k s f kids).2.1)).Nodup→((laysT ix (wdT (.lf a p b)) k f kids (takesT ix k s (kids (ix k))).2.1).map (·.1)).Nodup)∧
 ∀ q∈(laysT ix (wdT (.lf a p b)) k f kids (takesT ix k s (kids (ix k))).2.1).map (·.1),q∈nodesT (k+1) (.nd f (downT (mapV a p b) ix k s f kids).2.1)
 | 0,s,f,kids,_,_=>⟨fun _=>List.pairwise_singleton _ _,fun q hq=>by
  rw [List.mem_singleton.1 hq]
  exact List.mem_cons_self ..⟩
 | k+1,s,f,kids,H,h0=>by
  have hh:=H (ix (k+1)) (hix _)
  cases hk:kids (ix (k+1)) with
  | lf a p b=>rw [hk] at hh;exact hh.elim
  | nd g kk=>
   rw [hk] at hh h0
   rw [takesT_nd] at h0 ⊢
   obtain ⟨h1,h2⟩:=map_parts hix k s g kk hh h0
   rw [downT_nd hk,if_neg (by simp [mapV]),laysT_nd hk]
   simp only
   have hsub:∀ q∈nodesT (k+1) (.nd g (downT (mapV a p b) ix k s g kk).2.1),q∈nodesT (k+2) (.nd f (updK kids (ix (k+1)) (.nd g (downT (mapV a p b) ix k s g kk).2.1))):=fun q hq=>kid_nodes (hix (k+1)) (by rw [updK_at];exact hq)
   refine ⟨fun hn=>h1 ?_,fun q hq=>hsub q (h2 q hq)⟩
   have hn2:=(List.nodup_cons.1 hn).2
   have:=(List.pairwise_flatMap.1 hn2).1 (ix (k+1)) (List.mem_range.2 (hix _))
   rw [updK_at] at this
   exact this
  | no=>
   have hs:Shp (k+1) (.nd ((takC s).1.toNat) noK):=fun i _=>shp_no k
   rw [hk] at h0
   by_cases ht:(takC s).2.1=0
   ·rw [takesT_took ht] at h0 ⊢
    simp only at h0 ⊢
    have h0':(takesT ix k (takC s).2.2 (noK (ix k))).2.2=0:=h0
    obtain ⟨h1,h2⟩:=map_parts hix k (takC s).2.2 (takC s).1.toNat noK hs h0'
    have h3:=((map_takes (a:=a) (p:=p) (b:=b) hix k (takC s).2.2 (takC s).1.toNat noK hs).1 h0').1
    rw [show noK (ix k)=Tr.no from rfl] at h1 h2
    rw [downT_no1 hk rfl ht h3,laysT_no hk]
    simp only [List.map_cons]
    have hsub:∀ q∈nodesT (k+1) (.nd (takC s).1.toNat (downT (mapV a p b) ix k (takC s).2.2 (takC s).1.toNat noK).2.1),q∈(List.range 512).flatMap fun i=>nodesT (k+1) (updK kids (ix (k+1)) (.nd (takC s).1.toNat (downT (mapV a p b) ix k (takC s).2.2 (takC s).1.toNat noK).2.1) i):=fun q hq=>
     List.mem_flatMap.2 ⟨ix (k+1),List.mem_range.2 (hix _),by rw [updK_at];exact hq⟩
    refine ⟨fun hn=>?_,fun q hq=>?_⟩
    ·have hn1:=List.nodup_cons.1 hn
     refine List.nodup_cons.2 ⟨fun hm=>hn1.1 (hsub _ (h2 _ hm)),h1 ?_⟩
     have:=(List.pairwise_flatMap.1 hn1.2).1 (ix (k+1)) (List.mem_range.2 (hix _))
     rw [updK_at] at this
     exact this
    ·rcases List.mem_cons.1 hq with rfl|hq
     ·exact List.mem_cons_self ..
     ·exact List.mem_cons_of_mem _ (hsub q (h2 q hq))
   ·rw [takesT_none ht] at h0
    exact absurd h0 ht
theorem leavesT_no (k ad:Nat):leavesT k ad .no=[]:=by unfold leavesT;rw [evT_no];rfl
theorem prT_nd (k pt f:Nat)(kids:Nat→Tr):prT (k+1) pt (.nd f kids)=⟨k+1,pt,f⟩::(List.range 512).flatMap fun i=>prT k (pt*512+i) (kids i):=by rw [prT]
theorem prT_zero (pt:Nat)(tr:Tr):prT 0 pt tr=[]:=by cases tr <;> rfl
theorem flat_nil {α:Type}(H:Nat→List α)(l:List Nat)(h:∀ i,H i=[]):l.flatMap H=[]:=List.flatMap_eq_nil_iff.2 fun i _=>h i
/-- The nodes and the leaves behind it. -/
theorem map_lists (ad:Nat):∀ (k c:Nat) (s:CC) (f:Nat) (kids:Nat→Tr),Shp (k+1) (.nd f kids)→lookT (ixOf ad) k kids=.no→(takesT (ixOf ad) k s (kids (ixOf ad k))).2.2=0→ad/2 ^ (12+9*(k+1))=c→
 (prT (k+1) c (.nd f (downT (mapV a p b) (ixOf ad) k s f kids).2.1)).Perm ((takesT (ixOf ad) k s (kids (ixOf ad k))).2.1.map (fun x=>⟨x.1,ad/2 ^ (12+9*x.1),x.2⟩)++prT (k+1) c (.nd f kids))∧
 (leavesT (k+1) (2 ^ (12+9*(k+1))*c) (.nd f (downT (mapV a p b) (ixOf ad) k s f kids).2.1)).Perm ((ad/4096*4096,a,p,b)::leavesT (k+1) (2 ^ (12+9*(k+1))*c) (.nd f kids)):=by
 intro k
 induction k with
 | zero=>
  intro c s f kids _ hl _ hc
  have hl:kids (ixOf ad 0)=.no:=hl
  rw [show (downT (mapV a p b) (ixOf ad) 0 s f kids).2.1=updK kids (ixOf ad 0) (.lf a p b) from rfl,show (takesT (ixOf ad) 0 s (kids (ixOf ad 0))).2.1=[] from rfl,List.map_nil,List.nil_append]
  refine ⟨?_,?_⟩
  ·rw [prT_nd,prT_nd,flat_nil _ _ (fun i=>prT_zero _ _),flat_nil _ _ (fun i=>prT_zero _ _)]
  ·rw [leavesT_nd,leavesT_nd]
   have:=flat_upd2 (fun j tr=>leavesT 0 (2 ^ (12+9*(0+1))*c+j*2 ^ (12+9*0)) tr) kids (ixOf ad 0) (ixOf_lt ad 0) (c:=.lf a p b) (M:=[(ad/4096*4096,a,p,b)]) (by
    rw [hl]
    show [(2 ^ (12+9*(0+1))*c+ixOf ad 0*2 ^ (12+9*0),a,p,b)].Perm ([(ad/4096*4096,a,p,b)]++[])
    rw [List.append_nil]
    have e:2 ^ (12+9*(0+1))*c+ixOf ad 0*2 ^ (12+9*0)=ad/4096*4096:=by
     rw [← hc]
     unfold ixOf
     rw [show (2:Nat) ^ (12+9*(0+1))=2097152 by rfl,show (2:Nat) ^ (12+9*0)=4096 by rfl]
     omega
    exact List.Perm.of_eq (congrArg (fun z=>[(z,a,p,b)]) e))
   rw [List.singleton_append] at this
   exact this
 | succ k ih=>
  intro c s f kids H hl h0 hc
  have hh:=H (ixOf ad (k+1)) (ixOf_lt ad _)
  have hcd:c*512+ixOf ad (k+1)=ad/2 ^ (12+9*(k+1)):=by
   rw [← hc]
   unfold ixOf
   rw [pow_next (k+1),← Nat.div_div_eq_div_mul]
   omega
  have hcl:2 ^ (12+9*(k+1+1))*c+ixOf ad (k+1)*2 ^ (12+9*(k+1))=2 ^ (12+9*(k+1))*(ad/2 ^ (12+9*(k+1))):=by
   rw [← hcd,pow_next (k+1)]
   generalize 2 ^ (12+9*(k+1))=M
   rw [Nat.mul_add,Nat.mul_comm (ixOf ad (k+1)) M,Nat.mul_comm c 512,Nat.mul_assoc]
  have key:∀ (tr:Tr) (M:List ND9),(prT (k+1) (ad/2 ^ (12+9*(k+1))) tr).Perm (M++prT (k+1) (ad/2 ^ (12+9*(k+1))) (kids (ixOf ad (k+1))))→
   (leavesT (k+1) (2 ^ (12+9*(k+1))*(ad/2 ^ (12+9*(k+1)))) tr).Perm ((ad/4096*4096,a,p,b)::leavesT (k+1) (2 ^ (12+9*(k+1))*(ad/2 ^ (12+9*(k+1)))) (kids (ixOf ad (k+1))))→
   (prT (k+1+1) c (.nd f (updK kids (ixOf ad (k+1)) tr))).Perm (M++prT (k+1+1) c (.nd f kids))∧
   (leavesT (k+1+1) (2 ^ (12+9*(k+1+1))*c) (.nd f (updK kids (ixOf ad (k+1)) tr))).Perm ((ad/4096*4096,a,p,b)::leavesT (k+1+1) (2 ^ (12+9*(k+1+1))*c) (.nd f kids)):=fun tr M h1 h2=>by
   refine ⟨?_,?_⟩
   ·have:=flat_upd2 (fun j tr=>prT (k+1) (c*512+j) tr) kids (ixOf ad (k+1)) (ixOf_lt ad _) (c:=tr) (M:=M) (by rw [hcd];exact h1)
    rw [prT_nd,prT_nd]
    exact (this.cons _).trans List.perm_middle.symm
   ·rw [leavesT_nd,leavesT_nd]
    have:=flat_upd2 (fun j tr=>leavesT (k+1) (2 ^ (12+9*(k+1+1))*c+j*2 ^ (12+9*(k+1))) tr) kids (ixOf ad (k+1)) (ixOf_lt ad _) (c:=tr) (M:=[(ad/4096*4096,a,p,b)]) (by
     simp only [List.singleton_append]
     rw [hcl]
     exact h2)
    rw [List.singleton_append] at this
    exact this
  cases hk:kids (ixOf ad (k+1)) with
  | lf a p b=>rw [hk] at hh;exact hh.elim
  | nd g kk=>
   rw [hk] at hh h0 key
   rw [lookT_nd hk] at hl
   rw [takesT_nd] at h0 ⊢
   obtain ⟨h1,h2⟩:=ih _ s g kk hh hl h0 rfl
   rw [downT_nd hk,if_neg (by simp [mapV])]
   exact key _ _ h1 h2
  | no=>
   have hs:Shp (k+1) (.nd ((takC s).1.toNat) noK):=fun i _=>shp_no k
   rw [hk] at h0 key
   by_cases ht:(takC s).2.1=0
   ·rw [takesT_took ht] at h0 ⊢
    simp only at h0 ⊢
    have h0':(takesT (ixOf ad) k (takC s).2.2 (noK (ixOf ad k))).2.2=0:=h0
    obtain ⟨h1,h2⟩:=ih _ (takC s).2.2 (takC s).1.toNat noK hs (lookT_noK _ _) h0' rfl
    have h3:=((map_takes (a:=a) (p:=p) (b:=b) (fun j=>ixOf_lt ad j) k (takC s).2.2 (takC s).1.toNat noK hs).1 h0').1
    rw [downT_no1 hk rfl ht h3]
    rw [show noK (ixOf ad k)=Tr.no from rfl] at h1
    simp only
    refine key _ _ ?_ ?_
    ·rw [prT_no,List.append_nil,List.map_cons]
     refine h1.trans ?_
     have e9:prT (k+1) (ad/2 ^ (12+9*(k+1))) (.nd (takC s).1.toNat noK)=[⟨k+1,ad/2 ^ (12+9*(k+1)),(takC s).1.toNat⟩]:=by
      rw [prT_nd,flat_nil _ _ (fun i=>show prT k _ (noK i)=[] from prT_no _ _)]
     rw [e9]
     exact List.perm_append_comm
    ·refine h2.trans ?_
     have e9:leavesT (k+1) (2 ^ (12+9*(k+1))*(ad/2 ^ (12+9*(k+1)))) (.nd (takC s).1.toNat noK)=leavesT (k+1) (2 ^ (12+9*(k+1))*(ad/2 ^ (12+9*(k+1)))) .no:=by
      rw [leavesT_nd,flat_nil _ _ (fun i=>show leavesT k _ (noK i)=[] from leavesT_no _ _),leavesT_no]
     rw [e9]
   ·rw [takesT_none ht] at h0
    exact absurd h0 ht
end
/-- The frame of the document's node of a level. -/
def nodeF (root:Nat)(L:List ND9)(ad lv:Nat):Option Nat:=if lv=4 then some root else (L.find? fun x=>decide (x.lv=lv)&&decide (x.pt=ad/2 ^ (12+9*lv))).map (·.f)
theorem nodeIn_nd (ix:Nat→Nat)(lv k f:Nat)(kids:Nat→Tr):nodeIn ix lv (k+1) (.nd f kids)=if lv=k+1 then some (f,kids) else nodeIn ix lv k (kids (ix k)):=rfl
theorem nodeIn_no (ix:Nat→Nat)(lv k:Nat):nodeIn ix lv k .no=none:=by cases k <;> rfl
theorem prT_four (root:Nat)(kids:Nat→Tr):prT 4 0 (.nd root kids)=⟨4,0,root⟩::prR kids:=by
 rw [prT_nd]
 exact congrArg (List.cons (⟨4,0,root⟩:ND9)) (congrArg (fun h=>List.flatMap h (List.range 512)) (funext fun i=>by rw [Nat.zero_mul,Nat.zero_add]))
section
variable {root:Nat}{kids:Nat→Tr}{L:List ND9}
theorem mem_node (R:L.Perm (prR kids)){ad lv:Nat}(had:ad<281474976710656)(h4:lv≠4)(g:Nat):(⟨lv,ad/2 ^ (12+9*lv),g⟩:ND9)∈L↔∃ kk,nodeIn (ixOf ad) lv 4 (.nd root kids)=some (g,kk):=by
 have h:=prT_mem ad lv g 4 (.nd root kids)
 rw [show ad/2 ^ (12+9*4)=0 from Nat.div_eq_of_lt (by rw [show (2:Nat) ^ (12+9*4)=281474976710656 by rfl];exact had),prT_four] at h
 rw [← h,R.mem_iff,List.mem_cons]
 constructor
 ·exact .inr
 ·rintro (e|e)
  ·injection e with e1 _ _
   exact absurd e1 h4
  ·exact e
theorem nodeF_is (R:L.Perm (prR kids)){ad lv:Nat}(had:ad<281474976710656)(h4:lv≤4):nodeF root L ad lv=(nodeIn (ixOf ad) lv 4 (.nd root kids)).map (·.1):=by
 unfold nodeF
 by_cases h:lv=4
 ·subst h
  rw [if_pos rfl,nodeIn_nd,if_pos rfl]
  rfl
 rw [if_neg h]
 have key:∀ x∈L,(decide (x.lv=lv)&&decide (x.pt=ad/2 ^ (12+9*lv)))=true→∃ kk,nodeIn (ixOf ad) lv 4 (.nd root kids)=some (x.f,kk):=fun x hx hk=>by
  rw [Bool.and_eq_true,decide_eq_true_eq,decide_eq_true_eq] at hk
  obtain ⟨h1,h2⟩:=hk
  refine (mem_node R had h x.f).1 ?_
  rw [← h1,← h2] at *
  have:(⟨x.lv,x.pt,x.f⟩:ND9)=x:=rfl
  rw [← h2]
  exact hx
 cases hn:nodeIn (ixOf ad) lv 4 (.nd root kids) with
 | none=>
  rw [List.find?_eq_none.2 fun x hx hk=>by
   obtain ⟨kk,e⟩:=key x hx hk
   rw [hn] at e
   cases e]
  rfl
 | some gk=>
  obtain ⟨g,kk⟩:=gk
  have hm:=(mem_node R had h g).2 ⟨kk,hn⟩
  cases hf:L.find? fun x=>decide (x.lv=lv)&&decide (x.pt=ad/2 ^ (12+9*lv)) with
  | none=>exact absurd (by simp) (List.find?_eq_none.1 hf _ hm)
  | some x=>
   obtain ⟨kk',e⟩:=key x (List.mem_of_find?_eq_some hf) (List.find?_some (p:=fun x:ND9=>decide (x.lv=lv)&&decide (x.pt=ad/2 ^ (12+9*lv))) hf)
   rw [hn] at e
   have e2:=(Prod.mk.inj (Option.some.inj e)).1
   show some x.f=some g
   rw [e2]
end
/-- What the document's Map takes, from above down. -/
def moresR (root:Nat)(L:List ND9)(ad:Nat):Nat→CC→CC × List ND9 × Int
 | 0,s=>(s,[],0)
 | k+1,s=>if (nodeF root L ad (k+1)).isSome then moresR root L ad k s
  else if (takC s).2.1≠0 then ((takC s).2.2,[],(takC s).2.1)
  else ((moresR root L ad k (takC s).2.2).1,⟨k+1,ad/2 ^ (12+9*(k+1)),(takC s).1.toNat⟩::(moresR root L ad k (takC s).2.2).2.1,(moresR root L ad k (takC s).2.2).2.2)
abbrev nd9 (ad:Nat)(x:Nat × Nat):ND9:=⟨x.1,ad/2 ^ (12+9*x.1),x.2⟩
theorem mores_is {root ad:Nat}{L:List ND9}:∀ (k:Nat) (s:CC) (tr:Tr),Shp k tr→(∀ j,1≤j→j≤k→nodeF root L ad j=(nodeIn (ixOf ad) j k tr).map (·.1))→
 moresR root L ad k s=((takesT (ixOf ad) k s tr).1,(takesT (ixOf ad) k s tr).2.1.map (nd9 ad),(takesT (ixOf ad) k s tr).2.2)
 | 0,s,tr,_,_=>by cases tr <;> rfl
 | k+1,s,.lf _ _ _,H,_=>H.elim
 | k+1,s,.nd g kk,H,hn=>by
  have h1:=hn (k+1) (by omega) (Nat.le_refl _)
  rw [nodeIn_nd,if_pos rfl] at h1
  rw [moresR,h1,if_pos (by rfl),takesT_nd]
  refine mores_is k s _ (H _ (ixOf_lt ad k)) fun j h1 h2=>?_
  rw [hn j h1 (by omega),nodeIn_nd,if_neg (by omega)]
 | k+1,s,.no,H,hn=>by
  have h1:=hn (k+1) (by omega) (Nat.le_refl _)
  rw [nodeIn_no] at h1
  rw [moresR,h1,if_neg (by simp)]
  by_cases ht:(takC s).2.1=0
  ·rw [if_neg (by simp [ht]),takesT_took ht,mores_is k (takC s).2.2 .no (shp_no k) fun j h1 h2=>by rw [hn j h1 (by omega),nodeIn_no,nodeIn_no]]
   rfl
  ·rw [if_pos ht,takesT_none ht]
   rfl
theorem look_nodes {ix:Nat→Nat}{a p:Nat}{b:Bool}:∀ (k f:Nat) (kids:Nat→Tr),lookT ix k kids=.lf a p b→∀ j,1≤j→j≤k+1→∃ g kk,nodeIn ix j (k+1) (.nd f kids)=some (g,kk)
 | 0,f,kids,_,j,h1,h2=>⟨f,kids,by rw [nodeIn_nd,if_pos (by omega)]⟩
 | k+1,f,kids,h,j,h1,h2=>by
  by_cases hj:j=k+1+1
  ·exact ⟨f,kids,by rw [nodeIn_nd,if_pos hj]⟩
  ·cases hk:kids (ix (k+1)) with
   | no=>rw [lookT_no hk] at h;cases h
   | lf a' p' b'=>rw [lookT,hk] at h;cases h
   | nd g kk=>
    rw [lookT_nd hk] at h
    rw [nodeIn_nd,if_neg hj,hk]
    exact look_nodes k g kk h j h1 (by omega)
section
variable {ix:Nat→Nat}{a p:Nat}{b:Bool}
theorem lays_is (hix:∀ j,ix j<512)(F:Nat→Nat):∀ (k:Nat) (s:CC) (f:Nat) (kids:Nat→Tr),Shp (k+1) (.nd f kids)→(takesT ix k s (kids (ix k))).2.2=0→
 (∀ j,1≤j→j≤k+1→∃ kk,nodeIn ix j (k+1) (.nd f (downT (mapV a p b) ix k s f kids).2.1)=some (F j,kk))→
 laysT ix (wdT (.lf a p b)) k f kids (takesT ix k s (kids (ix k))).2.1=(takesT ix k s (kids (ix k))).2.1.map (fun x=>(F (x.1+1),ix x.1,x.2*4096+1))++[(F 1,ix 0,wdT (.lf a p b))]
 | 0,s,f,kids,_,_,hF=>by
  obtain ⟨kk,e⟩:=hF 1 (Nat.le_refl _) (Nat.le_refl _)
  rw [nodeIn_nd,if_pos rfl] at e
  rw [← (Prod.mk.inj (Option.some.inj e)).1]
  rfl
 | k+1,s,f,kids,H,h0,hF=>by
  have hh:=H (ix (k+1)) (hix _)
  cases hk:kids (ix (k+1)) with
  | lf a p b=>rw [hk] at hh;exact hh.elim
  | nd g kk=>
   rw [hk] at hh h0
   rw [takesT_nd] at h0 ⊢
   rw [laysT_nd hk]
   refine lays_is hix F k s g kk hh h0 fun j h1 h2=>?_
   obtain ⟨kj,e⟩:=hF j h1 (by omega)
   rw [downT_nd hk,if_neg (by simp [mapV])] at e
   simp only at e
   rw [nodeIn_nd,if_neg (by omega),updK_at] at e
   exact ⟨kj,e⟩
  | no=>
   have hs:Shp (k+1) (.nd ((takC s).1.toNat) noK):=fun i _=>shp_no k
   rw [hk] at h0
   by_cases ht:(takC s).2.1=0
   ·rw [takesT_took ht] at h0 ⊢
    simp only at h0 ⊢
    have h0':(takesT ix k (takC s).2.2 (noK (ix k))).2.2=0:=h0
    have h3:=((map_takes (a:=a) (p:=p) (b:=b) hix k (takC s).2.2 (takC s).1.toNat noK hs).1 h0').1
    rw [downT_no1 hk rfl ht h3] at hF
    simp only at hF
    have ih:=lays_is hix F k (takC s).2.2 (takC s).1.toNat noK hs h0' fun j h1 h2=>by
     obtain ⟨kj,e⟩:=hF j h1 (by omega)
     rw [nodeIn_nd,if_neg (by omega),updK_at] at e
     exact ⟨kj,e⟩
    rw [show noK (ix k)=Tr.no from rfl] at ih
    obtain ⟨kj,e⟩:=hF (k+2) (by omega) (Nat.le_refl _)
    rw [nodeIn_nd,if_pos rfl] at e
    rw [laysT_no hk,ih,List.map_cons,List.cons_append]
    simp only
    rw [← (Prod.mk.inj (Option.some.inj e)).1]
   ·rw [takesT_none ht] at h0
    exact absurd h0 ht
end
/-- The order of what is laid is nothing, where the frames are unlike. -/
theorem loadE_set {fs:List FR}{g:Nat}{r:FR}(hg:g<fs.length)(hc:r.cnt=fs[g].cnt)(f off n:Int):loadE (fs.set g r) f off n=loadE fs f off n:=by
 have e:cntF (fs.set g r) f=cntF fs f:=by
  unfold cntF
  rw [List.length_set]
  split
  ·rename_i h
   rw [getF_at _ _ _ (by rw [List.length_set];omega),getF_at _ _ _ (by omega),List.getElem_set]
   split
   ·rename_i h2
    subst h2
    exact hc
   ·rfl
  ·rfl
 unfold loadE takE
 rw [e]
theorem layS_two {fs:List FR}{f i x:Nat}:(∃ bs,∃ hf:f<fs.length,layS fs f i x=fs.set f ⟨bs,fs[f].cnt⟩∧bs=splice fs[f].bs (8*i) (le8 x))∨layS fs f i x=fs:=by
 unfold layS storeS
 split
 ·by_cases h:f<fs.length
  ·refine .inl ⟨_,h,?_,rfl⟩
   rw [Int.toNat_natCast,Int.toNat_natCast,getF_at _ _ _ h]
  ·right
   rw [Int.toNat_natCast,List.set_eq_of_length_le (by omega)]
 ·exact .inr rfl
theorem layS_set {fs:List FR}{f g i x:Nat}{r:FR}(h:f≠g)(hg:g<fs.length)(hc:r.cnt=fs[g].cnt):layS (fs.set g r) f i x=(layS fs f i x).set g r:=by
 unfold layS storeS
 rw [loadE_set hg hc]
 split
 ·rw [Int.toNat_natCast,List.getD_eq_getElem?_getD,List.getD_eq_getElem?_getD,List.getElem?_set_ne (Ne.symm h),List.set_comm _ _ (Ne.symm h)]
 ·rfl
theorem lay_swap {s:CC}{x y:Nat × Nat × Nat}(h:x.1≠y.1):layO (layO s x) y=layO (layO s y) x:=by
 have e:layS (layS s.fs x.1 x.2.1 x.2.2) y.1 y.2.1 y.2.2=layS (layS s.fs y.1 y.2.1 y.2.2) x.1 x.2.1 x.2.2:=by
  rcases layS_two (fs:=s.fs) (f:=x.1) (i:=x.2.1) (x:=x.2.2) with ⟨bs,hf,e1,_⟩|e1
  ·rw [e1,layS_set (r:=⟨bs,s.fs[x.1].cnt⟩) (Ne.symm h) hf rfl]
   rcases layS_two (fs:=s.fs) (f:=y.1) (i:=y.2.1) (x:=y.2.2) with ⟨bs2,hf2,e2,_⟩|e2
   ·rw [e2,layS_set (r:=⟨bs2,s.fs[y.1].cnt⟩) h hf2 rfl,e1,List.set_comm _ _ h]
   ·rw [e2,e1]
  ·rw [e1]
   rcases layS_two (fs:=s.fs) (f:=y.1) (i:=y.2.1) (x:=y.2.2) with ⟨bs2,hf2,e2,_⟩|e2
   ·rw [e2,layS_set (r:=⟨bs2,s.fs[y.1].cnt⟩) h hf2 rfl,e1]
   ·rw [e2,e1]
 show ({ s with fs:=_ }:CC)={ s with fs:=_ }
 simp only [layC]
 rw [e]
theorem lays_any {s:CC}{l:List (Nat × Nat × Nat)}(h:(l.map (·.1)).Nodup):l.foldr (fun x s=>layO s x) s=l.foldl layO s:=by
 rw [List.foldr_eq_foldl_reverse]
 refine (List.reverse_perm l).foldl_eq' (fun x hx y hy z=>?_) s
 have hx:=List.mem_reverse.1 hx
 have hy:=List.mem_reverse.1 hy
 by_cases e:x=y
 ·rw [e]
 ·refine lay_swap fun e1=>e ?_
  obtain ⟨i,hi,rfl⟩:=List.getElem_of_mem hx
  obtain ⟨j,hj,rfl⟩:=List.getElem_of_mem hy
  have hp:=List.pairwise_iff_getElem.1 h
  rcases Nat.lt_trichotomy i j with hij|rfl|hij
  ·exact absurd (by rw [List.getElem_map,List.getElem_map];exact e1) (hp i j (by simpa using hi) (by simpa using hj) hij)
  ·rfl
  ·exact absurd (by rw [List.getElem_map,List.getElem_map];exact e1.symm) (hp j i (by simpa using hj) (by simpa using hi) hij)
/-- A leaf more, at its place. -/
def insP (y:LF):List LF→List LF
 | []=>[y]
 | z::P=>if z.1<y.1 then z::insP y P else y::z::P
theorem insP_perm (y:LF):∀ P:List LF,(insP y P).Perm (y::P)
 | []=>List.Perm.refl _
 | z::P=>by
  unfold insP
  split
  ·exact ((insP_perm y P).cons z).trans (List.Perm.swap y z P)
  ·exact List.Perm.refl _
theorem insP_rise {y:LF}:∀ {P:List LF},P.Pairwise (fun x y=>x.1<y.1)→(∀ z∈P,z.1≠y.1)→(insP y P).Pairwise fun x y=>x.1<y.1
 | [],_,_=>List.pairwise_singleton _ _
 | z::P,h,hn=>by
  have h0:=hn z (List.mem_cons_self ..)
  rw [List.pairwise_cons] at h
  unfold insP
  split
  ·rename_i hl
   refine List.pairwise_cons.2 ⟨fun x hx=>?_,insP_rise h.2 fun z hz=>hn z (List.mem_cons_of_mem _ hz)⟩
   rcases List.mem_cons.1 ((insP_perm y P).mem_iff.1 hx) with rfl|hx
   ·exact hl
   ·exact h.1 x hx
  ·refine List.pairwise_cons.2 ⟨fun x hx=>?_,List.pairwise_cons.2 h⟩
   rcases List.mem_cons.1 hx with rfl|hx
   ·omega
   ·have:=h.1 x hx
    omega
theorem rise_one:∀ {l m:List LF},l.Perm m→l.Pairwise (fun x y=>x.1<y.1)→m.Pairwise (fun x y=>x.1<y.1)→l=m
 | [],m,h,_,_=>h.nil_eq
 | x::l,[],h,_,_=>absurd h.length_eq (by simp)
 | x::l,y::m,h,hl,hm=>by
  rw [List.pairwise_cons] at hl hm
  have hxy:x=y:=by
   rcases List.mem_cons.1 (h.mem_iff.1 (List.mem_cons_self ..)) with e|hx
   ·exact e
   ·rcases List.mem_cons.1 (h.mem_iff.2 (List.mem_cons_self ..)) with e|hy
    ·exact e.symm
    ·have h1:=hl.1 y hy
     have h2:=hm.1 x hx
     omega
  subst hxy
  rw [rise_one (List.Perm.cons_inv h) hl.2 hm.2]
theorem ix_page (ad k:Nat):ixOf (ad/4096*4096) k=ixOf ad k:=by
 unfold ixOf
 rw [show (2:Nat) ^ (12+9*k)=4096*2 ^ (9*k) from by rw [Nat.pow_add],← Nat.div_div_eq_div_mul,← Nat.div_div_eq_div_mul,Nat.mul_div_cancel _ (by omega)]
/-- Is a leaf told at a page's address? -/
theorem at_look9 {root ad:Nat}{kids:Nat→Tr}(H:Shp 4 (.nd root kids))(had:ad<281474976710656):((allL root kids).any fun y=>decide (y.1=ad/4096*4096))=!isNo (lookT (ixOf ad) 3 kids):=by
 have hix:ixOf (ad/4096*4096)=ixOf ad:=funext fun k=>ix_page ad k
 cases hl:lookT (ixOf ad) 3 kids with
 | no=>
  show _=false
  rw [List.any_eq_false]
  intro y hy
  have h2:=(all_look H hy).2
  intro e
  rw [decide_eq_true_eq] at e
  rw [e,hix,hl] at h2
  cases h2
 | lf a p b=>
  show _=true
  rw [List.any_eq_true]
  exact ⟨_,look_all had hl,by simp⟩
 | nd g kk=>
  exfalso
  have key:∀ (k:Nat) (f:Nat) (K:Nat→Tr),Shp (k+1) (.nd f K)→lookT (ixOf ad) k K≠.nd g kk:=by
   intro k
   induction k with
   | zero=>
    intro f K H e
    have hh:=H (ixOf ad 0) (ixOf_lt ad 0)
    have e:K (ixOf ad 0)=.nd g kk:=e
    rw [e] at hh
    exact hh
   | succ k ih=>
    intro f K H e
    have hh:=H (ixOf ad (k+1)) (ixOf_lt ad _)
    cases hk:K (ixOf ad (k+1)) with
    | no=>rw [lookT_no hk] at e;cases e
    | lf a p b=>rw [hk] at hh;exact hh
    | nd g' k'=>
     rw [hk] at hh
     rw [lookT_nd hk] at e
     exact ih g' k' hh e
  exact key 3 root kids H hl
theorem takes_err {rd:Int→Int→List UInt8 × Int}{ix:Nat→Nat}:∀ (k:Nat) (s:CC) (tr:Tr) (hx:List Nat),Shp k tr→Good rd s hx→(∀ j,ix j<512)→(takesT ix k s tr).2.2=0∨(takesT ix k s tr).2.2=4
 | 0,s,tr,_,_,_,_=>.inl (by cases tr <;> rfl)
 | k+1,s,.lf _ _ _,_,H,_,_=>H.elim
 | k+1,s,.nd g kk,hx,H,G,hix=>by
  rw [takesT_nd]
  exact takes_err k s _ hx (H _ (hix k)) G hix
 | k+1,s,.no,hx,H,G,hix=>by
  rcases takC_case G with ⟨m,s',h1,T⟩|⟨h1,_⟩
  ·rw [takesT_took (by rw [h1])]
   exact takes_err k _ .no (m::hx) (shp_no k) (by rw [h1];exact T.good G) hix
  ·rw [takesT_none (by rw [h1];show (4:Int)≠0;decide),h1]
   exact .inr rfl
theorem downS_set {fs:List FR}{f g:Nat}{r:FR}(h:f≠g):downS (fs.set g r) (f:Int)=(downS fs (f:Int)).set g r:=by
 have e:cntF (fs.set g r) (f:Int)=cntF fs (f:Int):=by
  unfold cntF
  rw [List.length_set,Int.toNat_natCast,List.getD_eq_getElem?_getD,List.getD_eq_getElem?_getD,List.getElem?_set_ne (Ne.symm h)]
 unfold downS
 rw [e]
 split
 ·rfl
 ·rw [Int.toNat_natCast,List.getD_eq_getElem?_getD,List.getD_eq_getElem?_getD,List.getElem?_set_ne (Ne.symm h),List.set_comm _ _ (Ne.symm h)]
theorem downS_two (fs:List FR)(f:Nat):downS fs (f:Int)=fs∨∃ r,downS fs (f:Int)=fs.set f r:=by
 unfold downS
 split
 ·exact .inl rfl
 ·exact .inr ⟨_,rfl⟩
theorem dn_swap (s:CC)(f g:Nat):dnC (dnC s f) g=dnC (dnC s g) f:=by
 by_cases h:f=g
 ·rw [h]
 have e:downS (downS s.fs (f:Int)) (g:Int)=downS (downS s.fs (g:Int)) (f:Int):=by
  rcases downS_two s.fs f with e1|⟨r,e1⟩
  ·rcases downS_two s.fs g with e2|⟨r2,e2⟩
   ·rw [e1,e2,e1]
   ·rw [e1,e2,downS_set h,e1]
  ·rw [e1,downS_set (Ne.symm h)]
   rcases downS_two s.fs g with e2|⟨r2,e2⟩
   ·rw [e2,e1]
   ·rw [e2,downS_set h,e1,List.set_comm _ _ h]
 show ({ s with fs:=_ }:CC)={ s with fs:=_ }
 simp only [dnC]
 rw [e]
theorem dns_any {α:Type}(h:α→Nat)(s:CC){l m:List α}(p:l.Perm m):l.foldl (fun s x=>dnC s (h x)) s=m.foldl (fun s x=>dnC s (h x)) s:=
 p.foldl_eq' (fun x _ y _ z=>dn_swap z (h x) (h y)) s
/-- The document's Map. -/
def mapF (root:Nat)(s:CC)(L:List ND9)(P:List LF)(ad:Nat)(a q:Int)(b:Bool):CC × List ND9 × List LF × Int:=
 if okA s ad a q=false then (s,L,P,1)
 else if (P.any fun y=>decide (y.1=ad/4096*4096))=true then (s,L,P,7)
 else if (moresR root L ad 3 (upC s a.toNat)).2.2=0 then
  (layC ((moresR root L ad 3 (upC s a.toNat)).2.1.foldl (fun z x=>layC z ((nodeF root (L++(moresR root L ad 3 (upC s a.toNat)).2.1) ad (x.lv+1)).getD 0) (ixOf ad x.lv) (x.f*4096+1)) (moresR root L ad 3 (upC s a.toNat)).1) ((nodeF root (L++(moresR root L ad 3 (upC s a.toNat)).2.1) ad 1).getD 0) (ixOf ad 0) (wdT (.lf a.toNat q.toNat b)),
   L++(moresR root L ad 3 (upC s a.toNat)).2.1,insP (ad,a.toNat,q.toNat,b) P,0)
 else (dnC ((moresR root L ad 3 (upC s a.toNat)).2.1.foldl (fun s x=>dnC s x.f) (moresR root L ad 3 (upC s a.toNat)).1) a.toNat,L,P,4)
theorem map_doc {rd:Int→Int→List UInt8 × Int}{root:Nat}{s:CC}{kids:Nat→Tr}{R:List Nat}{L:List ND9}(T:TI rd s 3 root kids R)(RL:L.Perm (prR kids))(ad:Nat)(a q:Int)(b:Bool)(hq0:0≤q):
 ∃ L',mapF root s L (allL root kids) ad a q b=((mapR s root kids ad a q b).1,L',allL root (mapR s root kids ad a q b).2.1,(mapR s root kids ad a q b).2.2)∧L'.Perm (prR (mapR s root kids ad a q b).2.1):=by
 have H:=T.holds.shp
 unfold mapF mapR
 by_cases hok:okA s ad a q=false
 ·rw [if_pos hok,if_pos hok]
  exact ⟨L,rfl,RL⟩
 rw [if_neg hok,if_neg hok]
 have hok:okA s ad a q=true:=by simpa using hok
 unfold okA at hok
 rw [Bool.and_eq_true,Bool.and_eq_true,decide_eq_true_eq,decide_eq_true_eq] at hok
 obtain ⟨had,hal,hri⟩:=hok
 have had8:ad<281474976710656:=by omega
 rw [at_look9 H had8]
 by_cases hno:isNo (lookT (ixOf ad) 3 kids)=false
 ·rw [if_pos (by rw [hno];rfl),if_pos hno]
  exact ⟨L,rfl,RL⟩
 rw [if_neg (by simpa using hno),if_neg hno]
 have hl:lookT (ixOf ad) 3 kids=.no:=by
  cases h:lookT (ixOf ad) 3 kids with
  | no=>rfl
  | lf a p b=>rw [h] at hno;exact absurd rfl hno
  | nd g kk=>rw [h] at hno;exact absurd rfl hno
 obtain ⟨k,r,rfl,rfl,hr7,hk⟩:=rightB_is hri hq0
 simp only [Int.toNat_natCast]
 have hix:∀ j,ixOf ad j<512:=fun j=>ixOf_lt ad j
 have TU:=T.up hk
 have hm:=mores_is (root:=root) (ad:=ad) (L:=L) 3 (upC s k) (kids (ixOf ad 3)) (H _ (hix 3)) fun j h1 h2=>by
  rw [nodeF_is RL had8 (by omega),nodeIn_nd,if_neg (by omega)]
 rw [hm]
 simp only
 obtain ⟨h1,h2⟩:=map_takes (a:=k) (p:=r) (b:=b) hix 3 (upC s k) root kids H
 by_cases h0:(takesT (ixOf ad) 3 (upC s k) (kids (ixOf ad 3))).2.2=0
 ·obtain ⟨h3,h4⟩:=h1 h0
  rw [if_pos h0,if_pos h3]
  obtain ⟨h5,h6⟩:=map_lists (a:=k) (p:=r) (b:=b) ad 3 0 (upC s k) root kids H hl h0 (by rw [show (2:Nat) ^ (12+9*(3+1))=281474976710656 by rfl];exact Nat.div_eq_of_lt had8)
  have h5':(L++(takesT (ixOf ad) 3 (upC s k) (kids (ixOf ad 3))).2.1.map (nd9 ad)).Perm (prR (downT (mapV k r b) (ixOf ad) 3 (upC s k) root kids).2.1):=by
   have e:(prT 4 0 (.nd root (downT (mapV k r b) (ixOf ad) 3 (upC s k) root kids).2.1)).Perm ((takesT (ixOf ad) 3 (upC s k) (kids (ixOf ad 3))).2.1.map (nd9 ad)++prT 4 0 (.nd root kids)):=h5
   rw [prT_four,prT_four] at e
   have e2:=(e.trans List.perm_middle).cons_inv
   exact (List.perm_append_comm.trans ((RL.append_left _).trans e2.symm))
  refine ⟨_,?_,h5'⟩
  have hsh:(mapR s root kids ad (k:Int) (r:Int) b)=downT (mapV k r b) (ixOf ad) 3 (upC s k) root kids:=by
   unfold mapR
   rw [if_neg (by
    unfold okA
    simp [had,hal,hri]),if_neg hno]
   simp only [Int.toNat_natCast]
   rw [if_pos h3]
  have TN:=(mapR_ti T ad (k:Int) (r:Int) b (by omega)).1
  rw [hsh] at TN
  have hlk:=(down_map hix (a:=k) (p:=r) (b:=b) 3 (upC s k) root kids H TU.full hl h3).1
  have hF:=look_nodes (ix:=ixOf ad) 3 root _ hlk
  have hFn:∀ j,1≤j→j≤4→∃ kk,nodeIn (ixOf ad) j 4 (.nd root (downT (mapV k r b) (ixOf ad) 3 (upC s k) root kids).2.1)=some ((nodeF root (L++(takesT (ixOf ad) 3 (upC s k) (kids (ixOf ad 3))).2.1.map (nd9 ad)) ad j).getD 0,kk):=fun j h7 h8=>by
   obtain ⟨g,kk,e⟩:=hF j h7 h8
   rw [nodeF_is h5' had8 h8]
   have e':nodeIn (ixOf ad) j 4 (.nd root (downT (mapV k r b) (ixOf ad) 3 (upC s k) root kids).2.1)=some (g,kk):=e
   rw [e']
   exact ⟨kk,rfl⟩
  have hls:=lays_is (a:=k) (p:=r) (b:=b) hix (fun j=>(nodeF root (L++(takesT (ixOf ad) 3 (upC s k) (kids (ixOf ad 3))).2.1.map (nd9 ad)) ad j).getD 0) 3 (upC s k) root kids H h0 hFn
  have hnd:=(map_parts (a:=k) (p:=r) (b:=b) hix 3 (upC s k) root kids H h0).1 TN.nd
  rw [lays_any hnd,hls,List.foldl_append] at h4
  have hP:insP (ad,k,r,b) (allL root kids)=allL root (downT (mapV k r b) (ixOf ad) 3 (upC s k) root kids).2.1:=by
   have h6':(allL root (downT (mapV k r b) (ixOf ad) 3 (upC s k) root kids).2.1).Perm ((ad,k,r,b)::allL root kids):=by
    rw [Nat.mul_zero,show ad/4096*4096=ad by omega] at h6
    exact h6
   refine rise_one ((insP_perm _ _).trans h6'.symm) (insP_rise (all_rise root kids) fun z hz e=>?_) (all_rise root _)
   have h9:=(all_look H hz).2
   rw [show z.1=ad from e,hl] at h9
   cases h9
  rw [hP]
  refine Prod.ext ?_ (Prod.ext rfl (Prod.ext rfl h3.symm))
  rw [h4]
  simp only [List.foldl_cons,List.foldl_nil,List.foldl_map]
 ·rw [if_neg h0]
  have h3:=h2 h0
  have h4:(takesT (ixOf ad) 3 (upC s k) (kids (ixOf ad 3))).2.2=4:=by
   rcases takes_err 3 (upC s k) (kids (ixOf ad 3)) _ (H _ (hix 3)) TU.good hix with e|e
   ·exact absurd e h0
   ·exact e
  rw [h3]
  simp only
  rw [if_neg h0,h4]
  refine ⟨L,?_,RL⟩
  rw [List.foldr_eq_foldl_reverse,List.foldl_map]
  have e:=dns_any (fun x:Nat × Nat=>x.2) (takesT (ixOf ad) 3 (upC s k) (kids (ixOf ad 3))).1 (List.reverse_perm (takesT (ixOf ad) 3 (upC s k) (kids (ixOf ad 3))).2.1)
  rw [e]
/-- The tree without a leaf, and how many levels of nodes go with it. -/
def unK (ix:Nat→Nat):Nat→(Nat→Tr)→(Nat→Tr) × Nat
 | 0,kids=>(updK kids (ix 0) .no,0)
 | k+1,kids=>match kids (ix (k+1)) with
  | .nd g kk=>if bareK (unK ix k kk).1=true then (updK kids (ix (k+1)) .no,k+1) else (updK kids (ix (k+1)) (.nd g (unK ix k kk).1),(unK ix k kk).2)
  | _=>(kids,0)
theorem unK_bare {ix:Nat→Nat}{k g:Nat}{kids kk:Nat→Tr}(h:kids (ix (k+1))=.nd g kk)(hb:bareK (unK ix k kk).1=true):unK ix (k+1) kids=(updK kids (ix (k+1)) .no,k+1):=by
 rw [unK,h]
 simp only
 rw [if_pos hb]
theorem unK_stay {ix:Nat→Nat}{k g:Nat}{kids kk:Nat→Tr}(h:kids (ix (k+1))=.nd g kk)(hb:¬ bareK (unK ix k kk).1=true):unK ix (k+1) kids=(updK kids (ix (k+1)) (.nd g (unK ix k kk).1),(unK ix k kk).2):=by
 rw [unK,h]
 simp only
 rw [if_neg hb]
/-- Levels 1 to m go, as Unmap does it. -/
def upM (F ix:Nat→Nat)(s:CC):Nat→CC
 | 0=>s
 | m+1=>layC (dnC (upM F ix s m) (F (m+1))) (F (m+2)) (ix (m+1)) 0
section
variable {ix:Nat→Nat}{a p:Nat}{b:Bool}
set_option maxRecDepth 100000 in
theorem un_all (hix:∀ j,ix j<512):∀ (k:Nat) (kids:Nat→Tr),lookT ix k kids=.lf a p b→bareK (unK ix k kids).1=true→(unK ix k kids).2=k
 | 0,kids,_,_=>rfl
 | k+1,kids,hl,hb=>by
  cases hk:kids (ix (k+1)) with
  | no=>rw [lookT_no hk] at hl;cases hl
  | lf a' p' b'=>rw [lookT,hk] at hl;cases hl
  | nd g kk=>
   by_cases h:bareK (unK ix k kk).1=true
   ·rw [unK_bare hk h]
   ·rw [unK_stay hk h] at hb
    have:updK kids (ix (k+1)) (.nd g (unK ix k kk).1) (ix (k+1))=.no:=bareK_iff.1 hb _ (hix (k+1))
    rw [updK_at] at this
    cases this
theorem un_down (hix:∀ j,ix j<512)(F:Nat→Nat):∀ (k:Nat) (s:CC) (f:Nat) (kids:Nat→Tr),lookT ix k kids=.lf a p b→(∀ j,1≤j→j≤k+1→∃ kk,nodeIn ix j (k+1) (.nd f kids)=some (F j,kk))→
 downT unmapV ix k s f kids=(upM F ix (dnC (layC s (F 1) (ix 0) 0) a) (unK ix k kids).2,(unK ix k kids).1,0)
 | 0,s,f,kids,hl,hF=>by
  have hl:kids (ix 0)=.lf a p b:=hl
  obtain ⟨kk,e⟩:=hF 1 (Nat.le_refl _) (Nat.le_refl _)
  rw [nodeIn_nd,if_pos rfl] at e
  have e:=(Prod.mk.inj (Option.some.inj e)).1
  rw [downT,hl,← e]
  rfl
 | k+1,s,f,kids,hl,hF=>by
  cases hk:kids (ix (k+1)) with
  | no=>rw [lookT_no hk] at hl;cases hl
  | lf a' p' b'=>rw [lookT,hk] at hl;cases hl
  | nd g kk=>
   rw [lookT_nd hk] at hl
   have hF2:∀ j,1≤j→j≤k+1→∃ k',nodeIn ix j (k+1) (.nd g kk)=some (F j,k'):=fun j h1 h2=>by
    obtain ⟨kj,e⟩:=hF j h1 (by omega)
    rw [nodeIn_nd,if_neg (by omega),hk] at e
    exact ⟨kj,e⟩
   have ih:=un_down hix F k s g kk hl hF2
   obtain ⟨k2,e2⟩:=hF (k+2) (by omega) (Nat.le_refl _)
   rw [nodeIn_nd,if_pos rfl] at e2
   have e2:=(Prod.mk.inj (Option.some.inj e2)).1
   obtain ⟨k1,e1⟩:=hF2 (k+1) (by omega) (Nat.le_refl _)
   rw [nodeIn_nd,if_pos rfl] at e1
   have e1:=(Prod.mk.inj (Option.some.inj e1)).1
   rw [downT_nd hk,ih]
   simp only
   by_cases h:bareK (unK ix k kk).1=true
   ·rw [if_pos (by rw [h];rfl),unK_bare hk h,un_all hix k kk hl h]
    show _=(layC (dnC (upM F ix _ k) (F (k+1))) (F (k+2)) (ix (k+1)) 0,_,_)
    rw [e1,e2]
   ·rw [if_neg (by rw [Bool.and_eq_true];exact fun e=>h e.2),unK_stay hk h]
set_option maxRecDepth 100000 in
theorem full_leaves:∀ (k c f:Nat) (kids:Nat→Tr),Shp (k+1) (.nd f kids)→FullT k kids→bareK kids=false→leavesT (k+1) c (.nd f kids)≠[]
 | 0,c,f,kids,H,_,hb=>fun e=>by
  obtain ⟨i,hi,hn⟩:=bareK_has hb
  have hh:=H i hi
  rw [leavesT_nd,List.flatMap_eq_nil_iff] at e
  have e:=e i (List.mem_range.2 hi)
  cases hk:kids i with
  | no=>exact hn hk
  | nd g kk=>rw [hk] at hh;exact hh
  | lf a p b=>rw [hk] at e;cases e
 | k+1,c,f,kids,H,HF,hb=>fun e=>by
  obtain ⟨i,hi,hn⟩:=bareK_has hb
  have hh:=H i hi
  rw [leavesT_nd,List.flatMap_eq_nil_iff] at e
  have e:=e i (List.mem_range.2 hi)
  cases hk:kids i with
  | no=>exact hn hk
  | lf a p b=>rw [hk] at hh;exact hh
  | nd g kk=>
   rw [hk] at hh e
   obtain ⟨h1,h2⟩:=HF i hi g kk hk
   exact full_leaves k _ g kk hh h2 h1 e
theorem bare_leaves {k c f:Nat}{kids:Nat→Tr}(h:bareK kids=true):leavesT (k+1) c (.nd f kids)=[]:=by
 rw [leavesT_nd,List.flatMap_eq_nil_iff]
 intro i hi
 rw [bareK_iff.1 h i (List.mem_range.1 hi),leavesT_no]
theorem un_full (hix:∀ j,ix j<512):∀ (k f:Nat) (kids:Nat→Tr),Shp (k+1) (.nd f kids)→FullT k kids→lookT ix k kids=.lf a p b→Shp (k+1) (.nd f (unK ix k kids).1)∧FullT k (unK ix k kids).1
 | 0,f,kids,H,_,hl=>⟨fun i hi=>by
  show Shp 0 (updK kids (ix 0) .no i)
  by_cases e:i=ix 0
  ·rw [e,updK_at];trivial
  ·rw [updK_ne e];exact H i hi,trivial⟩
 | k+1,f,kids,H,HF,hl=>by
  have hh:=H (ix (k+1)) (hix _)
  cases hk:kids (ix (k+1)) with
  | no=>rw [lookT_no hk] at hl;cases hl
  | lf a' p' b'=>rw [lookT,hk] at hl;cases hl
  | nd g kk=>
   rw [lookT_nd hk] at hl
   rw [hk] at hh
   obtain ⟨h1,h2⟩:=un_full hix k g kk hh (HF _ (hix _) g kk hk).2 hl
   by_cases h:bareK (unK ix k kk).1=true
   ·rw [unK_bare hk h]
    refine ⟨fun i hi=>?_,fun i hi g' k' e'=>?_⟩
    ·show Shp (k+1) (updK kids (ix (k+1)) .no i)
     by_cases e:i=ix (k+1)
     ·rw [e,updK_at];trivial
     ·rw [updK_ne e];exact H i hi
    ·by_cases e:i=ix (k+1)
     ·rw [e] at e'
      simp only [updK_at] at e'
      cases e'
     ·simp only [updK_ne e] at e'
      exact HF i hi g' k' e'
   ·rw [unK_stay hk h]
    refine ⟨fun i hi=>?_,fun i hi g' k' e'=>?_⟩
    ·show Shp (k+1) (updK kids (ix (k+1)) (.nd g (unK ix k kk).1) i)
     by_cases e:i=ix (k+1)
     ·rw [e,updK_at];exact h1
     ·rw [updK_ne e];exact H i hi
    ·by_cases e:i=ix (k+1)
     ·rw [e] at e'
      simp only [updK_at] at e'
      injection e' with e1 e2
      subst e1 e2
      exact ⟨by simpa using h,h2⟩
     ·simp only [updK_ne e] at e'
      exact HF i hi g' k' e'
end
/-- The nodes and the leaves behind it. -/
theorem un_lists (ad:Nat){a p:Nat}{b:Bool}(F:Nat→Nat):∀ (k c f:Nat) (kids:Nat→Tr),lookT (ixOf ad) k kids=.lf a p b→(∀ j,1≤j→j≤k+1→∃ kk,nodeIn (ixOf ad) j (k+1) (.nd f kids)=some (F j,kk))→ad/2 ^ (12+9*(k+1))=c→
 (prT (k+1) c (.nd f kids)).Perm ((List.range (unK (ixOf ad) k kids).2).map (fun j=>⟨j+1,ad/2 ^ (12+9*(j+1)),F (j+1)⟩)++prT (k+1) c (.nd f (unK (ixOf ad) k kids).1))∧
 (leavesT (k+1) (2 ^ (12+9*(k+1))*c) (.nd f kids)).Perm ((ad/4096*4096,a,p,b)::leavesT (k+1) (2 ^ (12+9*(k+1))*c) (.nd f (unK (ixOf ad) k kids).1)):=by
 intro k
 induction k with
 | zero=>
  intro c f kids hl _ hc
  have hl:kids (ixOf ad 0)=.lf a p b:=hl
  rw [show (unK (ixOf ad) 0 kids).1=updK kids (ixOf ad 0) .no from rfl,show (unK (ixOf ad) 0 kids).2=0 from rfl,List.range_zero,List.map_nil,List.nil_append]
  refine ⟨?_,?_⟩
  ·rw [prT_nd,prT_nd,flat_nil _ _ (fun i=>prT_zero _ _),flat_nil _ _ (fun i=>prT_zero _ _)]
  ·rw [leavesT_nd,leavesT_nd]
   have:=flat_upd2 (fun j tr=>leavesT 0 (2 ^ (12+9*(0+1))*c+j*2 ^ (12+9*0)) tr) (updK kids (ixOf ad 0) .no) (ixOf ad 0) (ixOf_lt ad 0) (c:=.lf a p b) (M:=[(ad/4096*4096,a,p,b)]) (by
    rw [updK_at]
    show [(2 ^ (12+9*(0+1))*c+ixOf ad 0*2 ^ (12+9*0),a,p,b)].Perm ([(ad/4096*4096,a,p,b)]++[])
    rw [List.append_nil]
    have e:2 ^ (12+9*(0+1))*c+ixOf ad 0*2 ^ (12+9*0)=ad/4096*4096:=by
     rw [← hc]
     unfold ixOf
     rw [show (2:Nat) ^ (12+9*(0+1))=2097152 by rfl,show (2:Nat) ^ (12+9*0)=4096 by rfl]
     omega
    exact List.Perm.of_eq (congrArg (fun z=>[(z,a,p,b)]) e))
   rw [List.singleton_append,updK_twice,← hl,updK_same] at this
   exact this
 | succ k ih=>
  intro c f kids hl hF hc
  have hcd:c*512+ixOf ad (k+1)=ad/2 ^ (12+9*(k+1)):=by
   rw [← hc]
   unfold ixOf
   rw [pow_next (k+1),← Nat.div_div_eq_div_mul]
   omega
  have hcl:2 ^ (12+9*(k+1+1))*c+ixOf ad (k+1)*2 ^ (12+9*(k+1))=2 ^ (12+9*(k+1))*(ad/2 ^ (12+9*(k+1))):=by
   rw [← hcd,pow_next (k+1)]
   generalize 2 ^ (12+9*(k+1))=M
   rw [Nat.mul_add,Nat.mul_comm (ixOf ad (k+1)) M,Nat.mul_comm c 512,Nat.mul_assoc]
  have key:∀ (tr:Tr) (M:List ND9),(prT (k+1) (ad/2 ^ (12+9*(k+1))) (kids (ixOf ad (k+1)))).Perm (M++prT (k+1) (ad/2 ^ (12+9*(k+1))) tr)→
   (leavesT (k+1) (2 ^ (12+9*(k+1))*(ad/2 ^ (12+9*(k+1)))) (kids (ixOf ad (k+1)))).Perm ((ad/4096*4096,a,p,b)::leavesT (k+1) (2 ^ (12+9*(k+1))*(ad/2 ^ (12+9*(k+1)))) tr)→
   (prT (k+1+1) c (.nd f kids)).Perm (M++prT (k+1+1) c (.nd f (updK kids (ixOf ad (k+1)) tr)))∧
   (leavesT (k+1+1) (2 ^ (12+9*(k+1+1))*c) (.nd f kids)).Perm ((ad/4096*4096,a,p,b)::leavesT (k+1+1) (2 ^ (12+9*(k+1+1))*c) (.nd f (updK kids (ixOf ad (k+1)) tr))):=fun tr M h1 h2=>by
   have hu:updK (updK kids (ixOf ad (k+1)) tr) (ixOf ad (k+1)) (kids (ixOf ad (k+1)))=kids:=by rw [updK_twice,updK_same]
   refine ⟨?_,?_⟩
   ·have:=flat_upd2 (fun j tr=>prT (k+1) (c*512+j) tr) (updK kids (ixOf ad (k+1)) tr) (ixOf ad (k+1)) (ixOf_lt ad _) (c:=kids (ixOf ad (k+1))) (M:=M) (by rw [updK_at,hcd];exact h1)
    rw [hu] at this
    rw [prT_nd,prT_nd]
    exact (this.cons _).trans List.perm_middle.symm
   ·rw [leavesT_nd,leavesT_nd]
    have:=flat_upd2 (fun j tr=>leavesT (k+1) (2 ^ (12+9*(k+1+1))*c+j*2 ^ (12+9*(k+1))) tr) (updK kids (ixOf ad (k+1)) tr) (ixOf ad (k+1)) (ixOf_lt ad _) (c:=kids (ixOf ad (k+1))) (M:=[(ad/4096*4096,a,p,b)]) (by
     simp only [List.singleton_append]
     rw [updK_at,hcl]
     exact h2)
    rw [List.singleton_append,hu] at this
    exact this
  cases hk:kids (ixOf ad (k+1)) with
  | no=>rw [lookT_no hk] at hl;cases hl
  | lf a' p' b'=>rw [lookT,hk] at hl;cases hl
  | nd g kk=>
   rw [hk] at key
   rw [lookT_nd hk] at hl
   have hF2:∀ j,1≤j→j≤k+1→∃ k',nodeIn (ixOf ad) j (k+1) (.nd g kk)=some (F j,k'):=fun j h1 h2=>by
    obtain ⟨kj,e⟩:=hF j h1 (by omega)
    rw [nodeIn_nd,if_neg (by omega),hk] at e
    exact ⟨kj,e⟩
   obtain ⟨h1,h2⟩:=ih _ g kk hl hF2 rfl
   obtain ⟨k1,e1⟩:=hF2 (k+1) (by omega) (Nat.le_refl _)
   rw [nodeIn_nd,if_pos rfl] at e1
   have e1:=(Prod.mk.inj (Option.some.inj e1)).1
   by_cases h:bareK (unK (ixOf ad) k kk).1=true
   ·rw [unK_bare hk h]
    simp only
    refine key _ _ ?_ ?_
    ·refine h1.trans ?_
     rw [un_all (fun j=>ixOf_lt ad j) k kk hl h,prT_no,List.append_nil,List.range_succ,List.map_append,e1]
     refine List.Perm.append_left _ ?_
     rw [prT_nd]
     have e9:((List.range 512).flatMap fun i=>prT k (ad/2 ^ (12+9*(k+1))*512+i) ((unK (ixOf ad) k kk).1 i))=[]:=by
      rw [List.flatMap_eq_nil_iff]
      intro i hi
      rw [bareK_iff.1 h i (List.mem_range.1 hi),prT_no]
     rw [e9]
     exact List.Perm.refl _
    ·refine h2.trans ?_
     rw [bare_leaves h,leavesT_no]
   ·rw [unK_stay hk h]
    exact key _ _ h1 h2
end Go.Proofs.YtdjpjfdeeelijaaGreatDoor
