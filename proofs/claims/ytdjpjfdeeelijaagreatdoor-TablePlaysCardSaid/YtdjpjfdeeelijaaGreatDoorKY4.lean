/- Merged: GtJ GtK GtL GtM. -/
import Derived.Test.YtdjpjfdeeelijaaGreatDoorKY3
import Derived.Test.YtdjpjfdeeelijaaGreatDoorKB2
namespace Go.Proofs.YtdjpjfdeeelijaaGreatDoor
open Go.RowKit Go.Sort
structure O9 where
 kind:Int
 ad:Nat
 f:Int
 q:Int
 b:Bool
 n:Int
/-- A table over a cache; which frames are held; was it freed? -/
structure S9 where
 s:CC
 kids:Nat→Tr
 h:List Nat
 fr:Bool
def S9.put (st:S9)(r:RES):S9:={ st with s:=r.1,kids:=r.2.1 }
def atN (l:List Nat)(n:Int):Option Nat:=if n<0 then none else l[n.toNat]?
def does9 (rd:Int→Int→List UInt8 × Int)(root:Nat)(st:S9)(o:O9):S9:=
 if o.kind=0 then (if st.fr then st else st.put (mapR st.s root st.kids o.ad o.f o.q o.b))
 else if o.kind=1 then (if st.fr then st else st.put (unmR st.s root st.kids o.ad))
 else if o.kind=2 then (if st.fr then st else st.put (setR st.s root st.kids o.ad o.f o.q o.b))
 else if o.kind=4 then (if (takC st.s).2.1=0 then { st with s:=(takC st.s).2.2,h:=st.h++[(takC st.s).1.toNat] } else { st with s:=(takC st.s).2.2 })
 else if o.kind=5 then { st with s:=(getC rd st.s 1 o.n).2.2 }
 else if o.kind=6 then (match atN st.h o.n with
  | none=>st
  | some f=>{ st with s:=dnC st.s f,h:=st.h.eraseIdx o.n.toNat })
 else if o.kind=7 then (if st.fr then st else { st with s:=dnL st.s (lfT 4 (.nd root st.kids)++nodL root st.kids),fr:=true })
 else st
/-- What holds at all times. -/
structure Inv9 (rd:Int→Int→List UInt8 × Int)(root:Nat)(st:S9):Prop where
 ti:st.fr=false→TI rd st.s 3 root st.kids st.h
 gd:st.fr=true→Good rd st.s st.h
section
variable {rd:Int→Int→List UInt8 × Int}{root:Nat}
theorem TI.frames {s s':CC}{k f:Nat}{kids:Nat→Tr}{R R':List Nat}(T:TI rd s k f kids R)(G:Good rd s' (hxT k f kids++R'))(hl:s'.fs.length=s.fs.length)(hb:∀ q∈nodesT (k+1) (.nd f kids),SameBs s.fs s'.fs q)(ho:∀ x∈s'.sl,∀ q∈nodesT (k+1) (.nd f kids),x.f≠(q:Int)):TI rd s' k f kids R':=
 ⟨G,T.nd,ho,T.holds.mono hl hb,T.full⟩
theorem hx_nodes {k f:Nat}{kids:Nat→Tr}{R:List Nat}{q:Nat}(h:q∈nodesT (k+1) (.nd f kids)):q∈hxT k f kids++R:=List.mem_append_left _ (List.mem_append_left _ h)
theorem Taken.bs {s s':CC}{hx:List Nat}{k q:Nat}(T:Taken s s' hx k)(h:q∈hx):SameBs s.fs s'.fs q:=by
 intro h1 h2
 have hne:k≠q:=fun e=>by
  have h3:=T.held
  have h4:=mem_cnt h
  rw [e] at h3
  omega
 have:s'.fs[q]=(s.fs.set k one0)[q]'(by rw [List.length_set];exact h1):=by simp only [T.fs]
 rw [this,List.getElem_set_ne hne]
theorem TI.take {s s':CC}{kids:Nat→Tr}{R:List Nat}{k:Nat}(T:TI rd s 3 root kids R)(K:Taken s s' (hxT 3 root kids++R) k):TI rd s' 3 root kids (R++[k]):=
 T.frames ((K.good T.good).perm (perm_of fun a=>by
  simp only [List.count_append,List.count_cons,List.count_nil]
  omega)) (by rw [K.fs,List.length_set]) (fun q hq=>K.bs (hx_nodes hq)) (fun x hx' q hq=>T.off x (K.sub.subset hx') q hq)
/-- A page that is got leaves all held frames' bytes, and its slot has no held frame but that of an old one. -/
theorem getC_keep {s:CC}{hx:List Nat}(G:Good rd s hx)(i pg:Int)(hr:∀ i p,(rd i p).1.length≤4096):
 (∀ q∈hx,SameBs s.fs (getC rd s i pg).2.2.fs q)∧(getC rd s i pg).2.2.fs.length=s.fs.length∧Good rd (getC rd s i pg).2.2 hx∧(getC rd s i pg).2.2.tn≤s.tn+1∧∀ x∈(getC rd s i pg).2.2.sl,(∃ y∈s.sl,y.f=x.f)∨∀ q∈hx,x.f≠(q:Int):=by
 rcases getC_case G i pg hr with ⟨e,h1,_⟩|⟨k,s',h1,GT⟩
 ·rw [h1]
  exact ⟨fun _ _=>SameBs.refl,rfl,G,Nat.le_succ _,fun x hx'=>.inl ⟨x,hx',rfl⟩⟩
 ·have hg:=GT.good
  have hl:=GT.len
  have htn:=GT.tn
  rw [h1]
  refine ⟨?_,hl,hg,by simp only;omega,?_⟩
  all_goals
   unfold getC at h1
   rw [if_neg (by have:=GT.ok;omega),if_neg (by have:=GT.ok.2.2;simpa using this)] at h1
   cases hlk:lookS s.sl i pg with
   | some x=>
    rw [hlk] at h1
    simp only at h1
    have e2:{ s with sl:=strikeS s.sl i pg++[⟨i,pg,x.f,(s.tn:Int)+1⟩],tn:=s.tn+1 }=s':=congrArg (fun x:Int × Int × CC=>x.2.2) h1
    subst e2
    first
    | exact fun _ _=>SameBs.refl
    | (intro y hy
       rcases List.mem_append.1 hy with h2|h2
       ·exact .inl ⟨y,(strike_mem.1 h2).1,rfl⟩
       ·rw [List.mem_singleton.1 h2]
        exact .inl ⟨x,(look_some hlk).1,rfl⟩)
   | none=>
    rw [hlk] at h1
    simp only at h1
    rcases takC_case G with ⟨m,s1,ht,T⟩|⟨ht,_⟩
    ·rw [filC_ok ht T _ (hr i pg)] at h1
     simp only [if_true] at h1
     have e2:=congrArg (fun x:Int × Int × CC=>x.2.2) h1
     simp only at e2
     subst e2
     first
     | (intro q hq
        have hne:m≠q:=fun e=>by
         have h3:=T.held
         have h4:=mem_cnt hq
         rw [e] at h3
         omega
        refine (T.bs hq).trans ?_ (by rw [T.fs,List.length_set])
        intro h5 h6
        rw [List.getElem_set_ne hne])
     | (intro y hy
        rcases List.mem_append.1 hy with h2|h2
        ·exact .inl ⟨y,T.sub.subset (strike_mem.1 h2).1,rfl⟩
        ·rw [List.mem_singleton.1 h2]
         refine .inr fun q hq e=>?_
         have h3:=T.held
         have h4:=mem_cnt hq
         have h5:m=q:=by simp only at e;omega
         rw [h5] at h3
         omega)
    ·have e9:filC s (rd i pg).1=(0,4,s):=by unfold filC;rw [ht];rfl
     rw [e9] at h1
     simp at h1
theorem dnL_len:∀ (l:List Nat) (s:CC),(dnL s l).fs.length=s.fs.length
 | [],_=>rfl
 | a::l,s=>(dnL_len l (dnC s a)).trans dn_len
theorem dnL_sl:∀ (l:List Nat) (s:CC),(dnL s l).sl=s.sl∧(dnL s l).tn=s.tn
 | [],_=>⟨rfl,rfl⟩
 | a::l,s=>dnL_sl l (dnC s a)
theorem erase_perm9 {α:Type}:∀ (l:List α) (j:Nat) (hj:j<l.length),l.Perm (l[j]::l.eraseIdx j)
 | [],_,hj=>by simp at hj
 | x::l,0,_=>by simp
 | x::l,j+1,hj=>by
  have:=erase_perm9 l j (by simpa using hj)
  simp only [List.getElem_cons_succ,List.eraseIdx_cons_succ]
  exact (this.cons x).trans (List.Perm.swap _ _ _)
theorem atN_some {l:List Nat}{n:Int}{f:Nat}(h:atN l n=some f):∃ hj:n.toNat<l.length,0≤n∧l[n.toNat]=f:=by
 unfold atN at h
 split at h
 ·cases h
 ·obtain ⟨h1,h2⟩:=List.getElem?_eq_some_iff.1 h
  exact ⟨h1,by omega,h2⟩
/-- A step of the map's. -/
theorem mapR_ti {s:CC}{kids:Nat→Tr}{R:List Nat}(T:TI rd s 3 root kids R)(ad:Nat)(a q:Int)(b:Bool)(hq:0≤q):
 TI rd (mapR s root kids ad a q b).1 3 root (mapR s root kids ad a q b).2.1 R∧(mapR s root kids ad a q b).1.fs.length=s.fs.length∧(mapR s root kids ad a q b).1.tn=s.tn:=by
 unfold mapR
 split
 ·exact ⟨T,rfl,rfl⟩
 ·rename_i hok
  split
  ·exact ⟨T,rfl,rfl⟩
  ·rename_i hno
   have hr:rightB s a q=true:=by
    have:okA s ad a q=true:=by simpa using hok
    unfold okA at this
    rw [Bool.and_eq_true,Bool.and_eq_true] at this
    exact this.2.2
   obtain ⟨k,r,rfl,rfl,hr7,hTK⟩:=rightB_is hr hq
   have hlk:lookT (ixOf ad) 3 kids=.no:=by
    cases hl:lookT (ixOf ad) 3 kids with
    | no=>rfl
    | lf a b c=>rw [hl] at hno;exact absurd rfl hno
    | nd a b=>rw [hl] at hno;exact absurd rfl hno
   have D:=downT_ok (mapOk (b:=b) hr7) (ixOf_lt ad) 3 (upC s k) root kids R trivial hlk (T.up hTK)
   rw [Int.toNat_natCast,Int.toNat_natCast]
   generalize downT (mapV k r b) (ixOf ad) 3 (upC s k) root kids=D0 at D ⊢
   have hl:D0.1.fs.length=s.fs.length:=D.len.trans up_len
   have ht:D0.1.tn=s.tn:=D.tn
   split
   ·rename_i he
    have h1:=D.ti
    rw [he] at h1
    exact ⟨h1,hl,ht⟩
   ·rename_i he
    have h1:=D.ti
    have hm:mapB k D0.2.2=[k]:=by unfold mapB;rw [if_neg he]
    rw [hm,D.err he] at h1
    refine ⟨h1.frames ((h1.good.perm (perm_of fun q=>?_)).down) dn_len (fun _ _=>dn_bs) h1.off,dn_len.trans hl,ht⟩
    simp only [List.count_append,List.count_cons,List.count_nil]
    omega
theorem unmR_ti {s:CC}{kids:Nat→Tr}{R:List Nat}(T:TI rd s 3 root kids R)(ad:Nat):
 TI rd (unmR s root kids ad).1 3 root (unmR s root kids ad).2.1 R∧(unmR s root kids ad).1.fs.length=s.fs.length∧(unmR s root kids ad).1.tn=s.tn∧(unmR s root kids ad).1.sl=s.sl:=by
 unfold unmR
 split
 ·have D:=downT_ok (unmapOk (rd:=rd)) (ixOf_lt ad) 3 s root kids R trivial trivial T
  exact ⟨D.ti,D.len,D.tn,D.slv rfl⟩
 ·exact ⟨T,rfl,rfl,rfl⟩
theorem setR_ti {s:CC}{kids:Nat→Tr}{R:List Nat}(T:TI rd s 3 root kids R)(ad:Nat)(a q:Int)(b:Bool)(hq:0≤q):
 TI rd (setR s root kids ad a q b).1 3 root (setR s root kids ad a q b).2.1 R∧(setR s root kids ad a q b).1.fs.length=s.fs.length∧(setR s root kids ad a q b).1.tn=s.tn:=by
 unfold setR
 split
 ·rename_i h
  obtain ⟨k,r,rfl,rfl,hr7,hTK⟩:=rightB_is h.2 hq
  have D:=downT_ok (setOk (rd:=rd) (b:=b) hr7) (ixOf_lt ad) 3 s root kids R hTK trivial T
  rw [Int.toNat_natCast,Int.toNat_natCast]
  exact ⟨D.ti,D.len,D.tn⟩
 ·exact ⟨T,rfl,rfl⟩
/-- What a step keeps. -/
structure Did9 (rd:Int→Int→List UInt8 × Int)(root:Nat)(st st':S9):Prop where
 inv:Inv9 rd root st'
 len:st'.s.fs.length=st.s.fs.length
 tn:st'.s.tn≤st.s.tn+1
 hh:st'.h.length≤st.h.length+1
set_option maxRecDepth 100000 in
theorem does9_did {st:S9}(o:O9)(hq:0≤o.q)(I:Inv9 rd root st)(hr:∀ i p,(rd i p).1.length≤4096):Did9 rd root st (does9 rd root st o):=by
 have same:Did9 rd root st st:=⟨I,rfl,Nat.le_succ _,Nat.le_succ _⟩
 have putD:∀ r:RES,st.fr=false→TI rd r.1 3 root r.2.1 st.h→r.1.fs.length=st.s.fs.length→r.1.tn=st.s.tn→Did9 rd root st (st.put r):=fun r hf h1 h2 h3=>⟨⟨fun _=>h1,fun e=>by have e':st.fr=true:=e;rw [hf] at e';cases e'⟩,h2,by show r.1.tn≤_;omega,Nat.le_succ _⟩
 unfold does9
 split
 ·split
  ·exact same
  ·rename_i hf
   have hf:st.fr=false:=by simpa using hf
   obtain ⟨h1,h2,h3⟩:=mapR_ti (I.ti hf) o.ad o.f o.q o.b hq
   exact putD _ hf h1 h2 h3
 split
 ·split
  ·exact same
  ·rename_i hf
   have hf:st.fr=false:=by simpa using hf
   obtain ⟨h1,h2,h3,_⟩:=unmR_ti (I.ti hf) o.ad
   exact putD _ hf h1 h2 h3
 split
 ·split
  ·exact same
  ·rename_i hf
   have hf:st.fr=false:=by simpa using hf
   obtain ⟨h1,h2,h3⟩:=setR_ti (I.ti hf) o.ad o.f o.q o.b hq
   exact putD _ hf h1 h2 h3
 split
 ·have key:∀ hx,Good rd st.s hx→((∃ (k:Nat) (s':CC),takC st.s=((k:Int),0,s')∧Taken st.s s' hx k)∨takC st.s=(0,4,st.s)):=fun hx G=>by
   rcases takC_case G with ⟨k,s',h1,T⟩|⟨h1,_⟩
   ·exact .inl ⟨k,s',h1,T⟩
   ·exact .inr h1
  cases hf:st.fr with
  | false=>
   rcases key _ (I.ti hf).good with ⟨k,s',h1,T⟩|h1
   ·rw [h1]
    simp only [if_true,Int.toNat_natCast]
    exact ⟨⟨fun _=>(I.ti hf).take T,fun e=>(by first|(cases e)|(rw [hf] at e;cases e))⟩,by simp only [T.fs,List.length_set],by simp only [T.tn];omega,by simp⟩
   ·rw [h1,if_neg (show ¬ (4:Int)=0 by decide)]
    exact ⟨⟨fun _=>I.ti hf,fun e=>(by cases e)⟩,rfl,Nat.le_succ _,Nat.le_succ _⟩
  | true=>
   rcases key _ (I.gd hf) with ⟨k,s',h1,T⟩|h1
   ·rw [h1]
    simp only [if_true,Int.toNat_natCast]
    exact ⟨⟨fun e=>(by first|(cases e)|(rw [hf] at e;cases e)),fun _=>(T.good (I.gd hf)).perm (perm_of fun a=>by
     simp only [List.count_append,List.count_cons,List.count_nil]
     omega)⟩,by simp only [T.fs,List.length_set],by simp only [T.tn];omega,by simp⟩
   ·rw [h1,if_neg (show ¬ (4:Int)=0 by decide)]
    exact ⟨⟨fun e=>(by cases e),fun _=>I.gd hf⟩,rfl,Nat.le_succ _,Nat.le_succ _⟩
 split
 ·cases hf:st.fr with
  | false=>
   have T:=I.ti hf
   obtain ⟨h1,h2,h3,h4,h5⟩:=getC_keep T.good 1 o.n hr
   refine ⟨⟨fun _=>T.frames h3 h2 (fun q hq'=>h1 q (hx_nodes hq')) (fun x hx' q hq'=>?_),fun e=>(by first|(cases e)|(rw [hf] at e;cases e))⟩,h2,h4,Nat.le_succ _⟩
   rcases h5 x hx' with ⟨y,hy,e⟩|h6
   ·rw [← e];exact T.off y hy q hq'
   ·exact h6 q (hx_nodes hq')
  | true=>
   obtain ⟨h1,h2,h3,h4,_⟩:=getC_keep (I.gd hf) 1 o.n hr
   exact ⟨⟨fun e=>(by first|(cases e)|(rw [hf] at e;cases e)),fun _=>h3⟩,h2,h4,Nat.le_succ _⟩
 split
 ·cases ha:atN st.h o.n with
  | none=>exact same
  | some f=>
   obtain ⟨hj,_,e⟩:=atN_some ha
   have hp:=erase_perm9 st.h o.n.toNat hj
   rw [e] at hp
   simp only
   refine ⟨⟨fun hf=>?_,fun hf=>((I.gd hf).perm hp).down⟩,dn_len,Nat.le_succ _,?_⟩
   ·have T:=I.ti hf
    refine T.frames ((T.good.perm ?_).down) dn_len (fun _ _=>dn_bs) T.off
    refine perm_of fun a=>?_
    have:=hp.count_eq a
    simp only [List.count_append,List.count_cons] at this ⊢
    omega
   ·simp only [List.length_eraseIdx]
    split <;> omega
 split
 ·split
  ·exact same
  ·rename_i hf
   have hf:st.fr=false:=by simpa using hf
   have T:=I.ti hf
   refine ⟨⟨fun e=>(by cases e),fun _=>dnL_good _ _ _ (T.good.perm (perm_of fun a=>?_))⟩,dnL_len _ _,by rw [(dnL_sl _ _).2];exact Nat.le_succ _,Nat.le_succ _⟩
   have h9:(hxT 3 root st.kids).count a=(nodL root st.kids).count a+(lfT 4 (.nd root st.kids)).count a:=hx_count 3 root st.kids a
   simp only [List.count_append] at h9 ⊢
   omega
 ·exact same
end
open Go.WideMaps Go.Maps Go.WideShapes Go.WideElems Go.MapKept Go.ChangeMaps
attribute [local go_sem] Oper.semAt_some
/-- A table that is nil, or was freed. -/
def GoneAt (tp:Option Addr)(w:World):Prop:=∀ W,Below w.heap.size w W→Calls Tryz.prog 53 #[.pointer tp] W fun e w'=>e=.returned (.bool true)∧W=w'
theorem TW.goneAt {w0 w:World}{F:Nat}{t:FT}{p g h c m tb root:Nat}{s:CC}{ws:List Nat}(H:TW w0 F t p g h c m tb s ws root true w):GoneAt (some ⟨tb,0,none⟩) w:=fun W hb=>tgone_any w0 F t p g h c m tb s ws root true W (H.below hb)
section
set_option maxRecDepth 100000 in
set_option maxHeartbeats 2000000 in
theorem mapG (tp:Option Addr)(w:World)(HG:GoneAt tp w)(ad a q:Int)(b:Bool):Calls Tryz.prog 13 #[.pointer tp,.int .u64 ad,.agg #[.int .i64 a,.int .u8 q,.bool b]] w fun e w'=>e=.returned (.int .i64 2)∧Below w.heap.size w w':=by
 obtain ⟨w1,hw1⟩:∃ w1,w1=(w.alloc (.cells #[.pointer tp] 43)).alloc (.cells #[.int .i64 a,.int .u8 q,.bool b] 31):=⟨_,rfl⟩
 have HB1:=hid (show Below w.heap.size w w1 by rw [hw1];exact bthen (bal _) (bal _))
 have HGO:=hid (HG w1 HB1.out)
 have HW1:=hid hw1
 clear HG hw1
 go_enter Tryz.func13,Tryz.ntmps13
 go_wp2_with fail
 rw [← HW1.out]
 refine (HGO.out).mono ?_
 rintro e wx ⟨rfl,rfl⟩
 go_wp2_with fail
 go_ret
 exact ⟨rfl,HB1.out⟩
set_option maxRecDepth 100000 in
set_option maxHeartbeats 2000000 in
theorem setG (tp:Option Addr)(w:World)(HG:GoneAt tp w)(ad a q:Int)(b:Bool):Calls Tryz.prog 26 #[.pointer tp,.int .u64 ad,.agg #[.int .i64 a,.int .u8 q,.bool b]] w fun e w'=>e=.returned (.int .i64 2)∧Below w.heap.size w w':=by
 obtain ⟨w1,hw1⟩:∃ w1,w1=(w.alloc (.cells #[.pointer tp] 43)).alloc (.cells #[.int .i64 a,.int .u8 q,.bool b] 31):=⟨_,rfl⟩
 have HB1:=hid (show Below w.heap.size w w1 by rw [hw1];exact bthen (bal _) (bal _))
 have HGO:=hid (HG w1 HB1.out)
 have HW1:=hid hw1
 clear HG hw1
 go_enter Tryz.func26,Tryz.ntmps26
 go_wp2_with fail
 rw [← HW1.out]
 refine (HGO.out).mono ?_
 rintro e wx ⟨rfl,rfl⟩
 go_wp2_with fail
 go_ret
 exact ⟨rfl,HB1.out⟩
set_option maxRecDepth 100000 in
set_option maxHeartbeats 2000000 in
theorem unmapG (tp:Option Addr)(w:World)(HG:GoneAt tp w)(ad:Int):Calls Tryz.prog 25 #[.pointer tp,.int .u64 ad] w fun e w'=>e=.returned (.int .i64 2)∧Below w.heap.size w w':=by
 obtain ⟨w1,hw1⟩:∃ w1,w1=w.alloc (.cells #[.pointer tp] 43):=⟨_,rfl⟩
 have HB1:=hid (show Below w.heap.size w w1 by rw [hw1];exact bal _)
 have HGO:=hid (HG w1 HB1.out)
 have HW1:=hid hw1
 clear HG hw1
 go_enter Tryz.func25,Tryz.ntmps25
 go_wp2_with fail
 rw [← HW1.out]
 refine (HGO.out).mono ?_
 rintro e wx ⟨rfl,rfl⟩
 go_wp2_with fail
 go_ret
 exact ⟨rfl,HB1.out⟩
set_option maxRecDepth 100000 in
set_option maxHeartbeats 2000000 in
theorem findG (tp:Option Addr)(w:World)(HG:GoneAt tp w)(ad:Int):Calls Tryz.prog 14 #[.pointer tp,.int .u64 ad] w fun e w'=>e=.returned (.tuple #[lfV 0 0 false,.int .i64 2])∧Below w.heap.size w w':=by
 obtain ⟨w1,hw1⟩:∃ w1,w1=w.alloc (.cells #[.int .i64 0,.int .u8 0,.bool false] 31):=⟨_,rfl⟩
 have HB1:=hid (show Below w.heap.size w w1 by rw [hw1];exact bal _)
 have HR1:=hid (show Row w1 w.heap.size 31 (lfC 0 0 false) by rw [hw1];exact Row.new w _ _)
 have HGO:=hid (HG w1 HB1.out)
 have HW1:=hid hw1
 clear HG hw1
 obtain ⟨g0,g1,g2⟩:w1.cell? ⟨w.heap.size,0,none⟩=some (.int .i64 0)∧w1.cell? ⟨w.heap.size,1,none⟩=some (.int .u8 0)∧w1.cell? ⟨w.heap.size,2,none⟩=some (.bool false):=⟨HR1.out.cell 0 (by simp),HR1.out.cell 1 (by simp),HR1.out.cell 2 (by simp)⟩
 have f0:=HR1.out.frozen 0
 have f1:=HR1.out.frozen 1
 have f2:=HR1.out.frozen 2
 have hrl:=HR1.out.lt
 go_enter Tryz.func14,Tryz.ntmps14
 go_wp2_with fail
 rw [← HW1.out]
 refine (HGO.out).mono ?_
 rintro e wx ⟨rfl,rfl⟩
 go_wp2_with fail
 refine bodyPost_ret (v:=.tuple #[.agg #[.int .i64 0,.int .u8 0,.bool false],.int .i64 2]) (by simp [results,Tryz.f14,go_sem,g0,g1,g2]) rfl ⟨rfl,?_⟩
 exact bset (bset (bset HB1.out (Nat.le_refl _) _) (Nat.le_refl _) _) (Nat.le_refl _) _
set_option maxRecDepth 100000 in
theorem allG (tp:Option Addr)(w:World)(HG:GoneAt tp w):Calls Tryz.prog 42 #[.pointer tp] w fun e w'=>e=.returned (.slice none 0 0)∧w=w':=by
 have HGO:=hid (HG w (Below.refl _ _))
 clear HG
 go_enter Tryz.func42,Tryz.ntmps42
 go_wp2_with fail
 refine (HGO.out).mono ?_
 rintro e wx ⟨rfl,rfl⟩
 go_wp2_with fail
 go_ret
 exact ⟨rfl,rfl⟩
set_option maxRecDepth 100000 in
theorem nodesG (tp:Option Addr)(w:World)(HG:GoneAt tp w):Calls Tryz.prog 45 #[.pointer tp] w fun e w'=>e=.returned (.slice none 0 0)∧w=w':=by
 have HGO:=hid (HG w (Below.refl _ _))
 clear HG
 go_enter Tryz.func45,Tryz.ntmps45
 go_wp2_with fail
 refine (HGO.out).mono ?_
 rintro e wx ⟨rfl,rfl⟩
 go_wp2_with fail
 go_ret
 exact ⟨rfl,rfl⟩
set_option maxRecDepth 100000 in
theorem freeG (tp:Option Addr)(w:World)(HG:GoneAt tp w):Calls Tryz.prog 32 #[.pointer tp] w fun e w'=>e=.returned (.tuple #[])∧w=w':=by
 have HGO:=hid (HG w (Below.refl _ _))
 clear HG
 go_enter Tryz.func32,Tryz.ntmps32
 go_wp2_with fail
 refine (HGO.out).mono ?_
 rintro e wx ⟨rfl,rfl⟩
 go_wp2_with fail
 exact bodyPost_ret (v:=.tuple #[]) (results_none rfl _ _ _) rfl ⟨rfl,rfl⟩
end
section
variable {rd:Int→Int→List UInt8 × Int}
/-- A table without leaves. -/
theorem TI.new {s s':CC}{R:List Nat}{k:Nat}(G:Good rd s R)(K:Taken s s' R k):TI rd s' 3 k noK R:=by
 refine ⟨(K.good G).perm (perm_of fun a=>?_),by rw [nodesT_bare bare_noK];exact nd_one k,fun x hx' q hq=>?_,fun q hq=>⟨?_,holds_no _ _⟩,fun i hi g' kk' hkk=>by cases hkk⟩
 ·rw [List.count_append,hx_count,nodesT_bare bare_noK,lfT_bare bare_noK]
  simp only [List.count_cons,List.count_nil]
  omega
 ·rw [nodesT_bare bare_noK,List.mem_singleton] at hq
  rw [hq]
  exact K.no x hx'
 ·have:=wdAt_zero (fs:=s.fs) K.lt hq
  rw [← K.fs] at this
  exact this
set_option maxRecDepth 100000 in
set_option maxHeartbeats 2000000 in
theorem tnew_any (w0:World)(F:Nat)(t:FT)(p g h c m:Nat)(s s':CC)(ws R:List Nat)(k:Nat)(w:World)(H:CW w0 F t p g h c m s ws w)(hz:Wd.Sizes w0)(G:Good rd s R)(hR:R.length≤1000000000)(ht:takC s=((k:Int),0,s')):
 Calls Tryz.prog 20 #[.pointer (some ⟨c,0,none⟩)] w fun e w'=>∃ tb ws',e=.returned (.tuple #[.pointer (some ⟨tb,0,none⟩),.int .i64 0])∧TW w0 F t p g h c m tb s' ws' k false w'∧EX (cS g h c m) w w'∧w.heap.size≤tb:=by
 have HTK:=hid (ctake_any w0 F t p g h c m s ws rd R w H G hR)
 rw [ht] at HTK
 have HLO:=hid H.low.size
 have HZ:=hid hz
 clear H hz G hR ht
 go_enter Tryz.func20,Tryz.ntmps20
 go_wp2_with fail
 refine (HTK.out).mono ?_
 rintro e w1 ⟨rfl,⟨ws1,hc1⟩,he1⟩
 have HC1:=hid hc1
 have HE1:=hid he1
 clear hc1 he1
 go_wp2_with fail
 go_ret2
 have h1:=HE1.out.size
 have h2:=HLO.out
 exact ⟨w1.heap.size,ws1,rfl,⟨HC1.out.below (bal _),Row.new w1 _ _,HZ.out,by omega⟩,HE1.out.alloc _,h1⟩
end
def VastP9 (n:Int)(len:Nat)(w:World)(e:Ending)(w':World):Prop:=(∃ b,e=.returned (.bool b)∧(b=false→n≤96∧len≤120))∧w=w'
set_option maxRecDepth 100000 in
theorem vast9_any (n:Int)(a:Option Addr)(len cap:Nat)(w:World):Calls Tryz.prog 4 #[.int .i64 n,.slice a len cap] w (VastP9 n len w):=by
 by_cases h1:96<n
 ·have d1:decide (96<n)=true:=decide_eq_true h1
  clear h1
  go_enter Tryz.func4,Tryz.ntmps4
  go_wp2_with fail
  go_ret
  exact ⟨⟨true,rfl,fun h=>by cases h⟩,rfl⟩
 ·have d1:decide (96<n)=false:=decide_eq_false h1
  have HN:=hid h1
  clear h1
  go_enter Tryz.func4,Tryz.ntmps4
  go_wp2_with fail
  go_ret
  refine ⟨⟨_,rfl,fun h=>?_⟩,rfl⟩
  have h2:=HN.out
  have h3:¬ (120:Int)<(len:Int):=by simpa using h
  omega
def atE9 (o:Option Nat):Value:=match o with
 | some k=>.tuple #[.int .i64 (k:Int),.bool true]
 | none=>.tuple #[.int .i64 0,.bool false]
set_option maxRecDepth 100000 in
set_option maxHeartbeats 4000000 in
theorem at9_any (a:Option Addr)(cap:Nat)(l:List Nat)(n:Int)(w:World)(h:Cel w a l.length (l.map nI9)):
 Calls Tryz.prog 29 #[.slice a l.length cap,.int .i64 n] w fun e w'=>e=.returned (atE9 (atN l n))∧w=w':=by
 by_cases h0:n<0
 ·have hR:=hid (show atN l n=none by unfold atN;rw [if_pos h0])
  rw [hR.out]
  have e1:decide (n<0)=true:=decide_eq_true h0
  clear hR h0
  go_enter Tryz.func29,Tryz.ntmps29
  go_wp2_with fail
  go_ret2
  exact ⟨rfl,rfl⟩
 ·have e1:decide (n<0)=false:=decide_eq_false h0
  obtain ⟨q,rfl⟩:=Int.eq_ofNat_of_zero_le (show 0≤n by omega)
  by_cases hq:q<l.length
  ·have hR:=hid (show atN l (q:Int)=some l[q] by unfold atN;rw [if_neg h0,Int.toNat_natCast,List.getElem?_eq_getElem hq])
   rw [hR.out]
   unfold atE9
   have e2:decide ((l.length:Int)≤(q:Int))=false:=by simp;omega
   have e2n:decide (l.length≤q)=false:=by simp;omega
   obtain ⟨b,off,rfl,hat⟩:=h.some_of (by simp;omega)
   have x0:=hat q (by simpa using hq)
   rw [List.getElem_map] at x0
   unfold nI9 at x0
   have hj0:(0:Int)≤(q:Int):=by omega
   have hj1:(q:Int)<(l.length:Int):=by omega
   generalize l[q]=y at *
   clear hR hat h h0
   go_enter Tryz.func29,Tryz.ntmps29
   go_wp2_with fail
   go_ret2
   exact ⟨rfl,rfl⟩
  ·have hR:=hid (show atN l (q:Int)=none by unfold atN;rw [if_neg h0,Int.toNat_natCast,List.getElem?_eq_none (by omega)])
   rw [hR.out]
   have e2:decide ((l.length:Int)≤(q:Int))=true:=by simp;omega
   have e2n:decide (l.length≤q)=true:=by simp;omega
   clear hR h0 h
   go_enter Tryz.func29,Tryz.ntmps29
   go_wp2_with fail
   go_ret2
   exact ⟨rfl,rfl⟩
set_option maxRecDepth 100000 in
set_option maxHeartbeats 4000000 in
theorem less9_any (b cap:Nat)(l:List Nat)(q:Nat)(hq:q<l.length)(hl:l.length≤1000000)(hc:l.length≤cap)(w:World)(h:Cel w (some ⟨b,0,none⟩) l.length (l.map nI9)):
 Calls Tryz.prog 30 #[.slice (some ⟨b,0,none⟩) l.length cap,.int .i64 (q:Int)] w fun e w'=>∃ v,e=.returned v∧w'.ownsRow w.heap.size 3 1 v (l.eraseIdx q).length ((l.eraseIdx q).map nI9)∧Below w.heap.size w w':=by
 have e1:wrap64 ((q:Int)+1)=(q:Int)+1:=by rw [IntWalk.wrap64_in _ ⟨by omega,by omega⟩]
 have HC:=hid h
 have HQ:=hid hq
 have HCAP:=hid hc
 have HOE:=hid (show (w.alloc (.cells #[] 3)).ownsRow w.heap.size 3 1 (.slice (some ⟨w.heap.size,0,none⟩) 0 0) 0 [] from ⟨rfl,.inr ⟨w.heap.size,0,#[],rfl,Nat.le_refl _,heap_alloc_new w _,Nat.le_refl _,Nat.zero_le _,rfl,rfl⟩⟩)
 have HCT:=hid (show Cel (w.alloc (.cells #[] 3)) (some ⟨b,0,none⟩) q ((l.take q).map nI9) from by
  have h2:=h.below' (bal (.cells #[] 3))
  refine ⟨by simp;omega,fun i hi=>?_⟩
  obtain ⟨b',o,e,hc⟩:=h2.cell i (by simp at hi ⊢;omega)
  refine ⟨b',o,e,?_⟩
  rw [hc]
  simp)
 have HON:=hid (show ∀ l:List Nat,∀ u∈l.map nI9,u.oneCell'=true from fun l u hu=>by obtain ⟨x,_,rfl⟩:=List.mem_map.1 hu;rfl)
 have HBW:=hid (show w.heap.size≤(w.alloc (.cells #[] 3)).heap.size by rw [World.size_alloc];exact Nat.le_succ _)
 have HN1:=hid (show 0+q≤1000000000 by omega)
 have HN2:=hid (show q+(l.length-(q+1))≤1000000000 by omega)
 have ez:(0:Int)≤(q:Int):=by omega
 have eb:(q:Int)≤(cap:Int):=by omega
 have ec:(q:Int)+1≤(l.length:Int):=by omega
 by_cases hch:cap=q+1
 ·subst hch
  have HCD:=hid (fun (ww:World) (hb:Cel ww (some ⟨b,0,none⟩) l.length (l.map nI9))=>show Cel ww (some ⟨b,0,none⟩) (l.length-(q+1)) ((l.drop (q+1)).map nI9) from by
   refine ⟨by simp,fun i hi=>?_⟩
   have:=HQ.out;have:=HCAP.out;simp at hi;omega)
  clear h hl hc
  go_enter Tryz.func30,Tryz.ntmps30
  go_wp2_with (at_builtin;go_must (first|(refine wpList_apI9 rfl _ _ rfl w.heap.size (.slice (some ⟨w.heap.size,0,none⟩) 0 0) 0 [] ((l.take q).map nI9) rfl ⟨b,0,none⟩ q _ rfl HOE.out HCT.out (HON.out _) HN1.out HBW.out ?_;intro v' w3 hown0 hgrow hnew;have hown:=own_ext hown0 (Nat.zero_add q) (List.nil_append _);clear hown0;obtain ⟨av,cv,rfl⟩:=own_hd9 hown;have HB3:=hid (((bal (.cells #[] 3):Below w.heap.size w _)).grown hgrow HBW.out (fun k hk=>by have h2:w.heap.size=k:=Option.some.inj hk;omega));have HO3:=hid hown;have HC3:=hid (HC.out.below' HB3.out);have HZ3:=hid (HB3.out.size);clear hown hgrow hnew)|(refine wpList_apI9 rfl _ _ rfl w.heap.size (.slice _ q _) q ((l.take q).map nI9) ((l.drop (q+1)).map nI9) rfl ⟨b,0,none⟩ (l.length-(q+1)) _ rfl HO3.out (HCD.out _ HC3.out) (HON.out _) HN2.out HZ3.out ?_;intro v'' w5 hown hgrow hnew;obtain ⟨av5,cv5,rfl⟩:=own_hd9 hown;have HO5:=hid hown;have HB5:=hid (HB3.out.grown hgrow HZ3.out (fun k hk=>(HO3.out.lt k hk).1));clear hown hgrow hnew)))
  go_ret
  have HER:(l.take q).map nI9++(l.drop (q+1)).map nI9=(l.eraseIdx q).map nI9:=by rw [List.eraseIdx_eq_take_drop_succ,List.map_append]
  have HEL:q+(l.length-(q+1))=(l.eraseIdx q).length:=by
   have:=HQ.out
   rw [List.length_eraseIdx,if_pos HQ.out]
   omega
  exact ⟨_,rfl,own_ext HO5.out HEL HER,HB5.out⟩
 ·have hch2:¬ (cap:Int)=(q:Int)+1:=by omega
  have HCD:=hid (fun (ww:World) (hb:Cel ww (some ⟨b,0,none⟩) l.length (l.map nI9))=>show Cel ww (some ⟨b,q+1,none⟩) (l.length-(q+1)) ((l.drop (q+1)).map nI9) from by
   refine ⟨by simp,fun i hi=>?_⟩
   obtain ⟨b',o,e,hc⟩:=hb.cell (q+1+i) (by simp at hi ⊢;omega)
   cases e
   refine ⟨b,q+1,rfl,?_⟩
   rw [Nat.zero_add] at hc
   rw [hc]
   simp)
  clear h hl hc
  go_enter Tryz.func30,Tryz.ntmps30
  go_wp2_with (at_builtin;go_must (first|(refine wpList_apI9 rfl _ _ rfl w.heap.size (.slice (some ⟨w.heap.size,0,none⟩) 0 0) 0 [] ((l.take q).map nI9) rfl ⟨b,0,none⟩ q _ rfl HOE.out HCT.out (HON.out _) HN1.out HBW.out ?_;intro v' w3 hown0 hgrow hnew;have hown:=own_ext hown0 (Nat.zero_add q) (List.nil_append _);clear hown0;obtain ⟨av,cv,rfl⟩:=own_hd9 hown;have HB3:=hid (((bal (.cells #[] 3):Below w.heap.size w _)).grown hgrow HBW.out (fun k hk=>by have h2:w.heap.size=k:=Option.some.inj hk;omega));have HO3:=hid hown;have HC3:=hid (HC.out.below' HB3.out);have HZ3:=hid (HB3.out.size);clear hown hgrow hnew)|(refine wpList_apI9 rfl _ _ rfl w.heap.size (.slice _ q _) q ((l.take q).map nI9) ((l.drop (q+1)).map nI9) rfl ⟨b,q+1,none⟩ (l.length-(q+1)) _ rfl HO3.out (HCD.out _ HC3.out) (HON.out _) HN2.out HZ3.out ?_;intro v'' w5 hown hgrow hnew;obtain ⟨av5,cv5,rfl⟩:=own_hd9 hown;have HO5:=hid hown;have HB5:=hid (HB3.out.grown hgrow HZ3.out (fun k hk=>(HO3.out.lt k hk).1));clear hown hgrow hnew)))
  go_ret
  have HER:(l.take q).map nI9++(l.drop (q+1)).map nI9=(l.eraseIdx q).map nI9:=by rw [List.eraseIdx_eq_take_drop_succ,List.map_append]
  have HEL:q+(l.length-(q+1))=(l.eraseIdx q).length:=by
   have:=HQ.out
   rw [List.length_eraseIdx,if_pos HQ.out]
   omega
  exact ⟨_,rfl,own_ext HO5.out HEL HER,HB5.out⟩
def enW (M:Nat)(D:BL):EN:=⟨[47,97],1,420,0,0,some ⟨M,0,none⟩,8201,D,[]⟩
theorem new9 (M:Nat)(D:BL)(h:D.length=8201):(newE [root0] 0 [enW M D]).1=0:=by
 have h1:entP (enW M D)=some [[97]]:=by kernel_rfl
 have h2:(addE [root0] (enW M D)).1=0:=by
  unfold addE
  rw [h1]
  simp only
  rw [if_neg (by show ¬ 65536<D.length;omega)]
  kernel_rfl
 rw [newE_go h2]
 rfl
def FileP (w:World)(e:Ending)(w':World):Prop:=∃ E M D,e=.returned (.slice (some ⟨E,0,none⟩) 1 1)∧Ents w' (some ⟨E,0,none⟩) 1 [enW M D]∧D.length=8201∧Below w.heap.size w w'
set_option maxRecDepth 100000 in
set_option maxHeartbeats 4000000 in
theorem file_any (w:World):Calls Tryz.prog 17 #[] w (FileP w):=by
 go_enter Tryz.func17,Tryz.ntmps17
 go_wp2_with (at_make;refine wpList_make_row _ rfl _ _ 89 rfl 5 (.int .u8 0) 1 Tryz.underlying89 infoU8t rfl .i64 .i64 8201 8201 8201 rfl rfl (by omega) (by omega) (by omega) (by omega) ?_;intro w1 hr1 hb1 hs1;have HR1:=hid hr1;have HB1:=hid hb1;clear hr1 hb1 hs1)
 go_loopw [2] (fun i wr=>∃ (k:Nat) (D:BL),k≤8201∧i=.int .i64 k∧D.length=8201∧Row wr w.heap.size 5 (D.map B8)∧Below w.heap.size w wr) (fun i _=>8201-(intOf i).toNat)
 case atStart=>
  refine ⟨0,List.replicate 8201 0,by omega,rfl,List.length_replicate,?_,HB1.out⟩
  have:(List.replicate 8201 (0:UInt8)).map B8=List.replicate 8201 (.int .u8 0):=by rw [List.map_replicate];rfl
  rw [this]
  exact HR1.out
 case round=>
  obtain ⟨k,D,hk,rfl,hD,hr,hb⟩:=hrel
  have HD:=hid hD
  have HR:=hid hr
  have HB:=hid hb
  clear hD hr hb
  by_cases hlt:k<8201
  ·have d1:decide ((k:Int)<8201)=true:=by simp;omega
   have d1n:decide (k<8201)=true:=by simp;omega
   have hf:=HR.out.frozen k
   have hc:=HR.out.cell k (by rw [List.length_map,HD.out];exact hlt)
   have hl:=HR.out.lt
   obtain ⟨y,hy⟩:∃ y:Nat,y=k/4096+1:=⟨_,rfl⟩
   have hy4:y<4:=by omega
   have e1:wrap64 ((k:Int)/4096)=((k/4096:Nat):Int):=by rw [IntWalk.wrap64_in _ ⟨by omega,by omega⟩];omega
   have e1b:(k:Int).tdiv 4096=((k/4096:Nat):Int):=by rw [Int.tdiv_eq_ediv_of_nonneg (by omega)];omega
   obtain ⟨z,hz⟩:∃ z:Nat,z=k/4096:=⟨_,rfl⟩
   rw [← hz] at e1 e1b hy
   have e2:wrap64 ((z:Int)+1)=(y:Int):=by rw [IntWalk.wrap64_in _ ⟨by omega,by omega⟩];omega
   have e3:IntKind.u8.wrap (y:Int)=(y:Int):=by rw [IntKind.wrap_u8];omega
   have ez:(0:Int)≤(k:Int):=by omega
   have HY:=hid (show (.int .u8 (y:Int):Value)=B8 (UInt8.ofNat y) by unfold B8;congr 1;simp;omega)
   have HE5:=hid (show wrap64 (wrap64 (z:Int)+1)%256=(y:Int) by rw [IntWalk.wrap64_in (z:Int) ⟨by omega,by omega⟩,IntWalk.wrap64_in _ ⟨by omega,by omega⟩];omega)
   clear hy hz hy4
   go_wp2_with fail
   go_roundw
   case rel=>
    refine ⟨k+1,D.set k (UInt8.ofNat y),by omega,by go_num,by rw [List.length_set];exact HD.out,?_,bset HB.out (Nat.le_refl _) _⟩
    rw [List.map_set,HE5.out,HY.out]
    exact HR.out.set k _
   case measure=>simp [intOf];omega
  ·have d1:decide ((k:Int)<8201)=false:=by simp;omega
   have d1n:decide (k<8201)=false:=by simp;omega
   obtain ⟨E,hE⟩:∃ E,E=wr.heap.size:=⟨_,rfl⟩
   have HEN:=hid (show Ents (wr.alloc (.cells #[.string (ba [47,97]),.int .u8 1,.int .u16 420,.int .u32 0,.int .u32 0,.slice (some ⟨w.heap.size,0,none⟩) 8201 8201,.string (ba [])] 131)) (some ⟨wr.heap.size,0,none⟩) 1 [enW w.heap.size D] from by
    have h1:=Row.new wr 131 (enW w.heap.size D).cs
    have h2:(enW w.heap.size D).cs=[.string (ba [47,97]),.int .u8 1,.int .u16 420,.int .u32 0,.int .u32 0,.slice (some ⟨w.heap.size,0,none⟩) 8201 8201,.string (ba [])]:=by unfold EN.cs enW;rw [HD.out]
    refine ents_of (xs:=[enW w.heap.size D]) ?_ fun x hx=>?_
    ·rw [h2] at h1
     simpa [h2] using h1
    ·rw [List.mem_singleton.1 hx]
     refine ⟨?_,fun h=>(by cases h),by show (2:Nat)≤_;decide,by show (0:Nat)≤_;decide,by show D.length≤_;rw [HD.out];decide,⟨by show (0:Int)≤420;decide,by show (420:Int)≤65535;decide⟩⟩
     have h3:=HR.out.alloc (.cells #[.string (ba [47,97]),.int .u8 1,.int .u16 420,.int .u32 0,.int .u32 0,.slice (some ⟨w.heap.size,0,none⟩) 8201 8201,.string (ba [])] 131)
     exact Row.byt (l:=D) (rest:=[]) (by rw [List.append_nil];exact h3) rfl)
   go_wp2_with fail
   go_ret
   exact ⟨_,w.heap.size,D,rfl,HEN.out,HD.out,HB.out.alloc HB.out.size _⟩
set_option maxRecDepth 100000 in
set_option maxHeartbeats 4000000 in
theorem cnew9_any (F:Nat)(t:FT)(p g h:Nat)(fs:List FR)(ws:List Nat)(w0 w:World)(hf:FSat w0 F t)(hl:Below w0.heap.size w0 w)(hp:Pl w p g h fs ws)(hg:w0.heap.size≤g)(hh:w0.heap.size≤h)(ht:Tb w0):
 Calls Tryz.prog 19 #[.pointer (some ⟨p,0,none⟩),.pointer (some ⟨F,0,none⟩)] w fun e w'=>∃ c m,e=.returned (.tuple #[.pointer (some ⟨c,0,none⟩),.int .i64 0])∧CW w0 F t p g h c m ⟨fs,[],0⟩ ws w'∧Below w.heap.size w w'∧w.heap.size≤c∧w.heap.size≤m:=by
 have hmm:=@run_makeMap Tryz.prog
 have HCW:=hid (show CW w0 F t p g h (w.heap.size+1) w.heap.size ⟨fs,[],0⟩ ws ((w.alloc (.map #[] 0)).alloc (.cells #[.pointer (some ⟨p,0,none⟩),.pointer (some ⟨F,0,none⟩),.map (some w.heap.size),.int .u64 0] 135)) from by
  have hb:Below w.heap.size w ((w.alloc (.map #[] 0)).alloc (.cells #[.pointer (some ⟨p,0,none⟩),.pointer (some ⟨F,0,none⟩),.map (some w.heap.size),.int .u64 0] 135)):=bthen (bal _) (bal _)
  have hs:=hl.size
  refine ⟨?_,hp.below hb,(CM.made w).below (bal _),hf,hl.trans (hb.mono hs),hg,hh,by omega,by omega,by show 0<1000000000;omega,ht⟩
  have:=Row.new (w.alloc (.map #[] 0)) 135 [.pointer (some ⟨p,0,none⟩),.pointer (some ⟨F,0,none⟩),.map (some w.heap.size),.int .u64 0]
  rw [World.size_alloc] at this
  exact this)
 clear hf hl hp hg hh ht
 go_enter Tryz.func19,Tryz.ntmps19
 go_wp2_with fail
 go_ret2
 exact ⟨w.heap.size+1,w.heap.size,rfl,HCW.out,bthen (bal _) (bal _),by omega,Nat.le_refl _⟩
set_option maxRecDepth 100000 in
theorem poolBad9_any (n:Int)(w:World)(hn:n<1∨1024<n):Calls Tryz.prog 18 #[.int .i64 n] w fun e w'=>e=.returned (.tuple #[.pointer none,.int .i64 1])∧w=w':=by
 by_cases c1:n<1
 ·have d1:decide (n<1)=true:=decide_eq_true c1
  clear c1 hn
  go_enter Tryz.func18,Tryz.ntmps18
  go_wp2_with fail
  go_ret2
  exact ⟨rfl,rfl⟩
 ·have d1:decide (n<1)=false:=decide_eq_false c1
  have d2:decide (1024<n)=true:=by simp;omega
  clear c1 hn
  go_enter Tryz.func18,Tryz.ntmps18
  go_wp2_with fail
  go_ret2
  exact ⟨rfl,rfl⟩
theorem good09 (rd:Int→Int→List UInt8 × Int)(n:Nat):Good rd ⟨List.replicate n fr0,[],0⟩ []:=
 ⟨fun f hf=>by simp only [List.getElem_replicate];rfl,List.Pairwise.nil,List.Pairwise.nil,fun x h=>(by cases h),fun x h=>(by cases h),List.Pairwise.nil,fun f h=>(by cases h),Nat.le_refl _,fun x h=>by
  rw [(List.mem_replicate.1 h).2]
  exact List.length_replicate,fun x h=>(by cases h),fun x h=>(by cases h)⟩
/-- In memory: a table over a cache; what is held. -/
structure OW9 (w0:World)(F:Nat)(t:FT)(p g h c m tb ob root:Nat)(vh:Value)(st:S9)(ws:List Nat)(w:World):Prop where
 own:Row w ob 46 [.pointer (some ⟨p,0,none⟩),.pointer (some ⟨c,0,none⟩),.pointer (some ⟨tb,0,none⟩),vh]
 tw:TW w0 F t p g h c m tb st.s ws root st.fr w
 hh:w.ownsRow w0.heap.size 3 1 vh st.h.length (st.h.map nI9)
 lo:w0.heap.size≤ob
/-- What is known of a table that was made. -/
structure Fresh9 (rd:Int→Int→List UInt8 × Int)(root n:Nat)(st:S9):Prop where
 inv:Inv9 rd root st
 fr:st.fr=false
 h:st.h=[]
 len:st.s.fs.length=n
 tn:st.s.tn=0
 sl:st.s.sl=[]
 room:freeN st.s.fs+1=n
 kids:st.kids=noK
def MadeP9 (n:Int)(w:World)(e:Ending)(w':World):Prop:=(n<1∧e=.returned (.tuple #[.pointer none,.bool true])∧Below w.heap.size w w')∨
 (∃ w0 F t p g h c m tb ob root ws,∃ k:Nat,∃ st:S9,n=(k:Int)∧1≤k∧e=.returned (.tuple #[.pointer (some ⟨ob,0,none⟩),.bool true])∧OW9 w0 F t p g h c m tb ob root (.slice none 0 0) st ws w'∧Fresh9 (rdP16 t.L) root k st∧Below w.heap.size w w0)
theorem free_all (n:Nat):freeN (List.replicate n fr0)=n:=by
 unfold freeN
 rw [List.countP_eq_length.2 ?_,List.length_replicate]
 intro x hx
 rw [(List.mem_replicate.1 hx).2]
 rfl
set_option maxRecDepth 100000 in
set_option maxHeartbeats 8000000 in
theorem made9_any (n:Int)(hn:n≤1024)(w:World)(hT:Tb w)(hZ:Wd.Sizes w):Calls Tryz.prog 6 #[.int .i64 n] w (MadeP9 n w):=by
 have HF:=hid (file_any w)
 have HT:=hid hT
 have HZ:=hid hZ
 have HN:=hid hn
 clear hT hZ hn
 go_enter Tryz.func6,Tryz.ntmps6
 go_wp2_with fail
 refine (HF.out).mono ?_
 rintro e w1 ⟨E,M,D,rfl,hE,hD,hb1⟩
 have HB1:=hid hb1
 have HNW:=hid (new_any (some ⟨E,0,none⟩) 1 1 [enW M D] w1 hE (by omega))
 have HNE:=hid (new9 M D hD)
 clear hE hb1 hD
 go_wp2_with fail
 refine (HNW.out).mono ?_
 rintro e w2 ⟨hb2,hp⟩
 rw [if_neg (by show ¬ 64<1;omega),if_pos HNE.out] at hp
 obtain ⟨FF,t,rfl,_,hfs,_,_⟩:=hp
 have HB2:=hid (HB1.out.trans (hb2.mono HB1.out.size))
 have HFS:=hid hfs
 clear hb2 hfs
 by_cases h1:n<1
 ·have HPN:=hid (poolBad9_any n w2 (.inl h1))
  have HN1:=hid h1
  clear h1
  go_wp2_with fail
  refine (HPN.out).mono ?_
  rintro e w3 ⟨rfl,rfl⟩
  go_wp2_with fail
  go_ret2
  exact .inl ⟨HN1.out,rfl,HB2.out⟩
 ·obtain ⟨k,rfl⟩:=Int.eq_ofNat_of_zero_le (show 0≤n by omega)
  have HK:=hid (show 1≤k∧k≤1024 by have:=HN.out;omega)
  have HPN:=hid (poolNew_any k w2 HK.out.1 HK.out.2)
  clear h1
  go_wp2_with fail
  refine (HPN.out).mono ?_
  rintro e w3 ⟨p,g,h,ws,rfl,hpl,hp1,hg1,hh1,hb3⟩
  have HT2:=hid (show Tb w2 from fun j hj=>St.cell (HT.out j hj) HB2.out)
  have HCN:=hid (cnew9_any FF t p g h (List.replicate k fr0) ws w2 w3 HFS.out hb3 hpl hg1 hh1 HT2.out)
  have HB3:=hid hb3
  clear hpl hp1 hg1 hh1 hb3
  go_wp2_with fail
  refine (HCN.out).mono ?_
  rintro e w4 ⟨c,m,rfl,hcw,hb4,_,_⟩
  have HCW:=hid hcw
  have HB4:=hid (HB3.out.trans (hb4.mono HB3.out.size))
  have HG0:=hid (good09 (rdP16 t.L) k)
  obtain ⟨q,s',ht,TK⟩:∃ (q:Nat) (s':CC),takC ⟨List.replicate k fr0,[],0⟩=((q:Int),0,s')∧Taken ⟨List.replicate k fr0,[],0⟩ s' [] q:=by
   rcases takC_case HG0.out with ⟨q,s',h1,h2⟩|⟨_,h2⟩
   ·exact ⟨q,s',h1,h2⟩
   ·have h3:freeN (List.replicate k fr0)+0=0:=h2
    rw [free_all] at h3
    have:=HK.out
    omega
  have HTW:=hid (tnew_any (rd:=rdP16 t.L) w2 FF t p g h c m _ s' ws [] q w4 HCW.out (HZ.out.below HB2.out) HG0.out (by simp) ht)
  have HSL:=hid (show s'.sl=[] from List.sublist_nil.1 TK.sub)
  have HFR:=hid (show Fresh9 (rdP16 t.L) q k ⟨s',noK,[],false⟩ from ⟨⟨fun _=>TI.new HG0.out TK,fun e=>by cases e⟩,rfl,rfl,by show s'.fs.length=k;rw [TK.fs,List.length_set,List.length_replicate],TK.tn,HSL.out,by
   have h1:=takC_sum HG0.out ht
   have h2:freeN s'.fs+s'.sl.length+1=freeN (List.replicate k fr0)+0:=h1
   rw [HSL.out,free_all] at h2
   exact h2,rfl⟩)
  clear hcw hb4 ht TK
  go_wp2_with fail
  refine (HTW.out).mono ?_
  rintro e w5 ⟨tb,ws5,rfl,htw,he5,htb⟩
  have HT5:=hid htw
  have HE5:=hid he5
  clear htw he5 htb
  go_wp2_with fail
  go_ret2
  have hlow:Below w2.heap.size w2 (w5.alloc (.cells #[.pointer (some ⟨p,0,none⟩),.pointer (some ⟨c,0,none⟩),.pointer (some ⟨tb,0,none⟩),.slice none 0 0] 46)):=HT5.out.cw.low.alloc HT5.out.cw.low.size _
  exact .inr ⟨w2,FF,t,p,g,h,c,m,tb,w5.heap.size,q,ws5,k,⟨s',noK,[],false⟩,rfl,HK.out.1,rfl,⟨Row.new w5 _ _,HT5.out.below (bal _),World.ownsRow_nil _ _ _ _,HT5.out.cw.low.size⟩,HFR.out,HB2.out⟩
end Go.Proofs.YtdjpjfdeeelijaaGreatDoor
