/- Merged: Bd0 Bd1 Bd2 Bd4 Bd3 Bd5. -/
import Derived.Test.YtdjpjfdeeelijaaGreatDoorKB1
import Derived.Test.YtdjpjfdeeelijaaGreatDoorW09
import Derived.BigQuiet
import Derived.Test.YtdjpjfdeeelijaaGreatDoorKM
import Derived.Test.YtdjpjfdeeelijaaGreatDoorKB2
namespace Go.Proofs.YtdjpjfdeeelijaaGreatDoor
open Go.RowKit Go.Sort
/-- Striking the slot at a place: what is without it. -/
theorem strike_erase:∀ {sl:List SLO},(sl.Pairwise fun x y=>¬ (x.i=y.i∧x.p=y.p))→∀ (j:Nat) (hj:j<sl.length),strikeS sl sl[j].i sl[j].p=sl.eraseIdx j
 | [],_,j,hj=>by simp at hj
 | x::sl,h,0,_=>by
  rw [List.pairwise_cons] at h
  show strikeS (x::sl) x.i x.p=sl
  have e1:keyB x.i x.p x=true:=keyB_iff.2 ⟨rfl,rfl⟩
  unfold strikeS
  rw [List.filter_cons,e1]
  simp only [Bool.not_true,Bool.false_eq_true,if_false]
  rw [List.filter_eq_self]
  intro y hy
  rw [Bool.not_eq_true']
  cases hb:keyB x.i x.p y
  ·rfl
  ·have:=keyB_iff.1 hb
   exact absurd ⟨this.1.symm,this.2.symm⟩ (h.1 y hy)
 | x::sl,h,j+1,hj=>by
  rw [List.pairwise_cons] at h
  have hj':j<sl.length:=by simpa using hj
  have ih:=strike_erase h.2 j hj'
  show strikeS (x::sl) sl[j].i sl[j].p=x::sl.eraseIdx j
  have e1:keyB sl[j].i sl[j].p x=false:=by
   cases hb:keyB sl[j].i sl[j].p x
   ·rfl
   ·exact absurd (keyB_iff.1 hb) (h.1 _ (List.getElem_mem hj'))
  unfold strikeS at ih ⊢
  rw [List.filter_cons,e1]
  simp only [Bool.not_false,if_true]
  rw [ih]
/-- The first place at which a test holds, as the reference's loops find it. -/
theorem find_first {α:Type}{q:α→Bool}{l:List α}{j:Nat}(hj:j<l.length)(h:q l[j]=true)(hb:∀ i,(hi:i<j)→q (l[i]'(by omega))=false):l.find? q=some l[j]:=by
 induction l generalizing j with
 | nil=>simp at hj
 | cons x l ih=>
  cases j with
  | zero=>rw [List.find?_cons];simp only [List.getElem_cons_zero] at h ⊢;rw [h]
  | succ j=>
   have h0:=hb 0 (by omega)
   simp only [List.getElem_cons_zero] at h0
   rw [List.find?_cons,h0]
   simp only [List.getElem_cons_succ] at h ⊢
   exact ih (by simpa using hj) h fun i hi=>by
    have:=hb (i+1) (by omega)
    simpa only [List.getElem_cons_succ] using this
theorem find_nowhere {α:Type}{q:α→Bool}{l:List α}(h:∀ i,(hi:i<l.length)→q l[i]=false):l.find? q=none:=by
 rw [List.find?_eq_none]
 intro x hx
 obtain ⟨i,hi,rfl⟩:=List.mem_iff_getElem.1 hx
 rw [h i hi]
 simp
open Go.Shelf
attribute [local go_sem] Oper.semAt_some
/-- Where the first slot is that a test holds of. -/
def AtP (q:SLO→Bool)(sl:List SLO)(r:Int):Prop:=(r=-1∧sl.find? q=none)∨∃ j:Nat,∃ hj:j<sl.length,r=(j:Int)∧q sl[j]=true∧sl.find? q=some sl[j]
set_option maxRecDepth 100000 in
set_option maxHeartbeats 4000000 in
theorem rfind_any (d:Nat)(v0 v1:Value)(a:Option Addr)(cap:Nat)(sl:List SLO)(i p:Int)(w:World)(hr:Row w d 152 [v0,v1,.slice a sl.length cap])(hk:Rk w 3 a sl.length (sl.map slC))(hl:sl.length≤1000000000):
 Calls Tryz.prog 93 #[.pointer (some ⟨d,0,none⟩),.int .i64 i,.int .i64 p] w fun e w'=>(∃ r,e=.returned (.int .i64 r)∧AtP (keyB i p) sl r)∧Below w.heap.size w w':=by
 have HR:=hid hr
 have HK:=hid hk
 have HL:=hid hl
 obtain ⟨c0,c1,c2⟩:=hr.three
 have hdl:=hr.lt
 clear hr hk hl
 go_enter Tryz.func93,Tryz.ntmps93
 go_wp2_with fail
 clear c0 c1 c2 hdl
 go_loopw [7] (fun v wr=>Below w.heap.size w wr∧∃ k:Nat,k≤sl.length∧v=.int .i64 k∧∀ m,(hm:m<sl.length)→m<k→keyB i p sl[m]=false) (fun v _=>sl.length-(intOf v).toNat)
 case atStart=>exact ⟨Below.refl _ _,0,Nat.zero_le _,rfl,fun m _ h=>absurd h (Nat.not_lt_zero m)⟩
 case round=>
  obtain ⟨hb,k,hk,rfl,hno⟩:=hrel
  have HB:=hid hb
  have HNO:=hid hno
  have hll:=HL.out
  have hr1:=HR.out.below hb HR.out.lt
  obtain ⟨c0,c1,c2⟩:=hr1.three
  have hdl:=hr1.lt
  by_cases hlt:k<sl.length
  ·have d1:decide ((k:Int)<(sl.length:Int))=true:=by simp;omega
   have d1n:decide (k<sl.length)=true:=by simp;omega
   have i1:(0:Int)≤(k:Int):=by omega
   have i2:(k:Int)<(sl.length:Int):=by omega
   obtain ⟨b,o,rfl,hcell⟩:=(HK.out.below' hb).some_of (by simp;omega)
   have gq:=fun j hj=>hcell k (by simpa using hlt) j hj
   have e9:(sl.map slC)[k]'(by simpa using hlt)=slC sl[k]:=by simp
   rw [e9] at gq
   have g0:=gq 0 (by simp [slC])
   have g1:=gq 1 (by simp [slC])
   simp only [slC,List.getElem_cons_zero,List.getElem_cons_succ,Nat.add_zero] at g0 g1
   have HKB:=hid (show keyB i p sl[k]=(decide (sl[k].i=i)&&decide (sl[k].p=p)) from rfl)
   have HAT:=hid (fun (h:keyB i p sl[k]=true)=>(show sl.find? (keyB i p)=some sl[k] from find_first hlt h fun m hm=>hno m (by omega) hm))
   have HST:=hid (fun (h:keyB i p sl[k]=false)=>(show ∀ m,(hm:m<sl.length)→m<k+1→keyB i p sl[m]=false from fun m hm h1=>by
    by_cases e:m=k
    ·subst e;exact h
    ·exact hno m hm (by omega)))
   clear gq e9 hcell hno hb hr1
   have hlk:=hlt
   obtain ⟨y,hy⟩:∃ y,y=sl[k]:=⟨_,rfl⟩
   have HY:=hid hy
   rw [← hy] at g0 g1 HKB
   clear hy
   by_cases h1:y.i=i
   ·have e1:(y.i==i)=true:=by simpa using h1
    by_cases h2:y.p=p
    ·have e2:(y.p==p)=true:=by simpa using h2
     have HT:=hid (show keyB i p sl[k]=true by rw [← HY.out,HKB.out];simp [h1,h2])
     clear h1 h2
     go_wp2_with fail
     go_ret
     exact ⟨⟨_,rfl,.inr ⟨k,hlk,rfl,HT.out,HAT.out HT.out⟩⟩,HB.out⟩
    ·have e2:(y.p==p)=false:=by simpa using h2
     have HT:=hid (show keyB i p sl[k]=false by rw [← HY.out,HKB.out];simp [h2])
     clear h1 h2
     go_wp2_with fail
     go_roundw
     case rel=>exact ⟨HB.out,k+1,by omega,by go_num,HST.out HT.out⟩
     case measure=>simp [intOf];omega
   ·have e1:(y.i==i)=false:=by simpa using h1
    have HT:=hid (show keyB i p sl[k]=false by rw [← HY.out,HKB.out];simp [h1])
    clear h1
    go_wp2_with fail
    go_roundw
    case rel=>exact ⟨HB.out,k+1,by omega,by go_num,HST.out HT.out⟩
    case measure=>simp [intOf];omega
  ·have d1:decide ((k:Int)<(sl.length:Int))=false:=by simp;omega
   have d1n:decide (k<sl.length)=false:=by simp;omega
   have HN:=hid (find_nowhere fun m hm=>hno m hm (by omega))
   clear hno
   go_wp2_with fail
   go_ret
   exact ⟨⟨_,rfl,.inl ⟨rfl,HN.out⟩⟩,HB.out⟩
theorem erase_snoc {α:Type}(L:List α)(x:α)(j:Nat):(L++[x]).eraseIdx j=if j=L.length then L else L.eraseIdx j++[x]:=by
 by_cases h:j=L.length
 ·rw [if_pos h,h,List.eraseIdx_append_of_length_le (Nat.le_refl _),Nat.sub_self]
  simp
 ·rw [if_neg h]
  by_cases h2:j<L.length
  ·rw [List.eraseIdx_append_of_lt_length h2]
  ·rw [List.eraseIdx_of_length_le (l:=L) (by omega),List.eraseIdx_of_length_le (by rw [List.length_append,List.length_singleton];omega)]
structure SloF (W:World)(B:Nat)(v:Value)(l:List SLO)(y:SLO)(W1:World):Prop where
 own:W1.ownsRow B 175 3 v l.length (l.map slC).flatten
 rk:Rk W1 3 (some ⟨W.heap.size,0,none⟩) 1 [slC y]
 size:B≤W1.heap.size
theorem slo_f {W:World}{B:Nat}{v:Value}{l:List SLO}(y:SLO)(ho:W.ownsRow B 175 3 v l.length (l.map slC).flatten)(hB:B≤W.heap.size):SloF W B v l y (W.alloc (.cells #[.int .i64 y.i,.int .i64 y.p,.int .i64 y.f] 175)):=
 ⟨ho.alloc _,rk_new W _ (slC y) rfl,by rw [World.size_alloc];exact Nat.le_succ_of_le hB⟩
theorem infoSlotR:(Tryz.prog.info? 175).map (fun i=>(i.zero,i.size,i.bytes))=some (some (.agg #[.int .i64 0,.int .i64 0,.int .i64 0]),3,24):=by kernel_rfl
theorem own_hdR {w:World}{base E k n:Nat}{v:Value}{xs:List Value}(h:w.ownsRow base E k v n xs):∃ a c,v=.slice a n c:=by
 rcases h.2 with ⟨rfl,rfl⟩|⟨g,cap,cur,rfl,_⟩
 ·exact ⟨_,_,rfl⟩
 ·exact ⟨_,_,rfl⟩
set_option maxRecDepth 100000 in
set_option maxHeartbeats 4000000 in
theorem without8_any (a:Option Addr)(cap:Nat)(sl:List SLO)(j:Nat)(w:World)(hk:Rk w 3 a sl.length (sl.map slC))(hl:sl.length≤1000000000):
 Calls Tryz.prog 91 #[.slice a sl.length cap,.int .i64 (j:Int)] w fun e w'=>∃ v,e=.returned v∧w'.ownsRow w.heap.size 175 3 v (sl.eraseIdx j).length ((sl.eraseIdx j).map slC).flatten∧Below w.heap.size w w':=by
 have HK:=hid hk
 have HL:=hid hl
 clear hk hl
 go_enter Tryz.func91,Tryz.ntmps91
 go_wp2_with fail
 go_loopw [5,6] (fun v i wr=>∃ (k:Nat) (vv:Value),vv=v∧k≤sl.length∧i=.int .i64 k∧wr.ownsRow w.heap.size 175 3 vv ((sl.take k).eraseIdx j).length (((sl.take k).eraseIdx j).map slC).flatten∧Below w.heap.size w wr) (fun _ i _=>sl.length-(intOf i).toNat)
 case atStart=>exact ⟨0,_,rfl,Nat.zero_le _,rfl,World.ownsRow_nil _ _ _ _,Below.refl _ _⟩
 case round=>
  obtain ⟨k,vv,rfl,hk,rfl,ho,hb⟩:=hrel
  have HO:=hid ho
  have HB:=hid hb
  have hll:=HL.out
  by_cases hlt:k<sl.length
  ·have d1:decide ((k:Int)<(sl.length:Int))=true:=by simp;omega
   have d1n:decide (k<sl.length)=true:=by simp;omega
   have hlen:(sl.take k).length=k:=by rw [List.length_take];omega
   have hes:(sl.take (k+1)).eraseIdx j=if j=k then sl.take k else (sl.take k).eraseIdx j++[sl[k]]:=by
    rw [List.take_succ_eq_append_getElem hlt,erase_snoc,hlen]
   by_cases hjk:k=j
   ·have e1:((k:Int) != (j:Int))=false:=by simp [hjk]
    rw [if_pos hjk.symm] at hes
    have HES:=hid (show (sl.take (k+1)).eraseIdx j=(sl.take k).eraseIdx j by rw [hes,List.eraseIdx_of_length_le (by omega)])
    clear hes hlen hjk
    go_wp2_with fail
    go_roundw
    case rel=>exact ⟨k+1,vv,rfl,by omega,by go_num,by rw [HES.out];exact HO.out,HB.out⟩
    case measure=>simp [intOf];omega
   ·have e1:((k:Int) != (j:Int))=true:=by simp;omega
    rw [if_neg (fun e=>hjk e.symm)] at hes
    have HES:=hid hes
    obtain ⟨b,o,rfl,hcell⟩:=(HK.out.below' hb).some_of (by simp;omega)
    have gq:=fun j hj=>hcell k (by simpa using hlt) j hj
    have e9:(sl.map slC)[k]'(by simpa using hlt)=slC sl[k]:=by simp
    rw [e9] at gq
    have g0:=gq 0 (by simp [slC])
    have g1:=gq 1 (by simp [slC])
    have g2:=gq 2 (by simp [slC])
    simp only [slC,List.getElem_cons_zero,List.getElem_cons_succ,Nat.add_zero] at g0 g1 g2
    obtain ⟨y,hy⟩:∃ y,y=sl[k]:=⟨_,rfl⟩
    rw [← hy] at g0 g1 g2 HES
    have hel:((sl.take k).eraseIdx j).length≤k:=by
     have:=List.length_eraseIdx_le (sl.take k) j
     omega
    obtain ⟨L,hL⟩:∃ L,L=(sl.take k).eraseIdx j:=⟨_,rfl⟩
    rw [← hL] at HO HES hel
    have HSF:=hid (slo_f y HO.out hb.size)
    have HON:=hid (show ∀ r∈[slC y],∀ u∈r,u.oneCell'=true from fun r hr=>by rw [List.mem_singleton.1 hr];exact slC_one y)
    have HN1:=hid (show (L.length+1)*24≤140737488355328 by omega)
    have HN2:=hid (show L.length+1≤maxLen by unfold maxLen;omega)
    have HBA:=hid (hb.trans ((bal (.cells #[.int .i64 y.i,.int .i64 y.p,.int .i64 y.f] 175)).mono hb.size))
    clear gq e9 hcell hy hL hes hlen ho hb hjk hel
    go_wp2_with (at_builtin;go_must (refine wpList_apK Tryz.underlying150 infoSlotR rfl (by decide) rfl _ _ rfl w.heap.size vv L.length (L.map slC) [slC y] rfl (some ⟨_,0,none⟩) 1 1 rfl HSF.out.own HSF.out.rk HON.out (fun h=>(by cases h)) HN1.out HN2.out HSF.out.size ?_;intro v' w10 hown hgrow hb10;have HO10:=hid hown;have HB10:=hid hb10;clear hown hgrow hb10))
    go_roundw
    case rel=>exact ⟨k+1,_,rfl,by omega,by go_num,by rw [HES.out];exact own_ext HO10.out (by simp) (by simp),HBA.out.trans HB10.out⟩
    case measure=>simp [intOf];omega
  ·have d1:decide ((k:Int)<(sl.length:Int))=false:=by simp;omega
   have d1n:decide (k<sl.length)=false:=by simp;omega
   obtain rfl:k=sl.length:=by omega
   rw [List.take_length] at HO
   clear ho hb
   go_wp2_with fail
   go_ret
   exact ⟨_,rfl,HO.out,HB.out⟩
def looR (cs:List Int)(x:SLO):Bool:=decide (rcnt cs x.f=1)
set_option maxRecDepth 100000 in
set_option maxHeartbeats 4000000 in
theorem loose_any (d q qa qb:Nat)(v1:Value)(cs:List Int)(vs:List Value)(a:Option Addr)(cap:Nat)(sl:List SLO)(w:World)(hP:RP w q qa qb cs vs)(hr:Row w d 152 [.pointer (some ⟨q,0,none⟩),v1,.slice a sl.length cap])(hk:Rk w 3 a sl.length (sl.map slC))(hl:sl.length≤1000000000):
 Calls Tryz.prog 90 #[.pointer (some ⟨d,0,none⟩)] w fun e w'=>(∃ r,e=.returned (.int .i64 r)∧AtP (looR cs) sl r)∧Below w.heap.size w w':=by
 have HR:=hid hr
 have HQ:=hid hP
 have HK:=hid hk
 have HL:=hid hl
 obtain ⟨c0,c1,c2⟩:=hr.three
 have hdl:=hr.lt
 clear hr hk hl hP
 go_enter Tryz.func90,Tryz.ntmps90
 go_wp2_with fail
 clear c0 c1 c2 hdl
 go_loopw [3] (fun v wr=>Below w.heap.size w wr∧∃ k:Nat,k≤sl.length∧v=.int .i64 k∧∀ m,(hm:m<sl.length)→m<k→looR cs sl[m]=false) (fun v _=>sl.length-(intOf v).toNat)
 case atStart=>exact ⟨Below.refl _ _,0,Nat.zero_le _,rfl,fun m _ h=>absurd h (Nat.not_lt_zero m)⟩
 case round=>
  obtain ⟨hb,k,hk,rfl,hno⟩:=hrel
  have HB:=hid hb
  have HNO:=hid hno
  have hll:=HL.out
  have hr1:=HR.out.below hb HR.out.lt
  obtain ⟨c0,c1,c2⟩:=hr1.three
  have hdl:=hr1.lt
  by_cases hlt:k<sl.length
  ·have d1:decide ((k:Int)<(sl.length:Int))=true:=by simp;omega
   have d1n:decide (k<sl.length)=true:=by simp;omega
   have i1:(0:Int)≤(k:Int):=by omega
   have i2:(k:Int)<(sl.length:Int):=by omega
   obtain ⟨b,o,rfl,hcell⟩:=(HK.out.below' hb).some_of (by simp;omega)
   have gq:=fun j hj=>hcell k (by simpa using hlt) j hj
   have e9:(sl.map slC)[k]'(by simpa using hlt)=slC sl[k]:=by simp
   rw [e9] at gq
   have g0:=gq 2 (by simp [slC])
   simp only [slC,List.getElem_cons_zero,List.getElem_cons_succ] at g0
   have HKB:=hid (show looR cs sl[k]=decide (rcnt cs sl[k].f=1) from rfl)
   have HAT:=hid (fun (h:looR cs sl[k]=true)=>(show sl.find? (looR cs)=some sl[k] from find_first hlt h fun m hm=>hno m (by omega) hm))
   have HST:=hid (fun (h:looR cs sl[k]=false)=>(show ∀ m,(hm:m<sl.length)→m<k+1→looR cs sl[m]=false from fun m hm h1=>by
    by_cases e:m=k
    ·subst e;exact h
    ·exact hno m hm (by omega)))
   clear gq e9 hcell hno hb hr1
   have hlk:=hlt
   obtain ⟨y,hy⟩:∃ y,y=sl[k]:=⟨_,rfl⟩
   have HY:=hid hy
   rw [← hy] at g0 HKB
   clear hy
   have HC:=hid (fun nn=>rcount_any q qa qb cs vs y.f _ (HQ.out.below (bdN HB.out nn)))
   obtain ⟨cv,hcv⟩:∃ cv,cv=rcnt cs y.f:=⟨_,rfl⟩
   rw [← hcv] at HC HKB
   clear hcv
   by_cases h1:cv=1
   ·have e1:(cv==1)=true:=by simpa using h1
    have HT:=hid (show looR cs sl[k]=true by rw [← HY.out,HKB.out];simp [h1])
    clear h1
    go_wp2_with fail
    go_quiet ((go_at_call 48;exact Calls.quiet_of_same ((HC.out _).mono (fun _ _ h=>⟨h.1,h.2.symm⟩))))
    go_wp2_with fail
    go_ret
    exact ⟨⟨_,rfl,.inr ⟨k,hlk,rfl,HT.out,HAT.out HT.out⟩⟩,bdN HB.out _⟩
   ·have e1:(cv==1)=false:=by simpa using h1
    have HT:=hid (show looR cs sl[k]=false by rw [← HY.out,HKB.out];simp [h1])
    clear h1
    go_wp2_with fail
    go_quiet ((go_at_call 48;exact Calls.quiet_of_same ((HC.out _).mono (fun _ _ h=>⟨h.1,h.2.symm⟩))))
    go_wp2_with fail
    go_roundw
    case rel=>exact ⟨bdN HB.out _,k+1,by omega,by go_num,HST.out HT.out⟩
    case measure=>simp [intOf];omega
  ·have d1:decide ((k:Int)<(sl.length:Int))=false:=by simp;omega
   have d1n:decide (k<sl.length)=false:=by simp;omega
   have HN:=hid (find_nowhere fun m hm=>hno m hm (by omega))
   clear hno
   go_wp2_with fail
   go_ret
   exact ⟨⟨_,rfl,.inl ⟨rfl,HN.out⟩⟩,HB.out⟩
theorem looR_lo {fs:List FR}(x:SLO):looR (cnts fs) x=loB fs x:=by
 unfold looR loB
 rw [show rcnt (cnts fs) x.f=cntF fs x.f from rcnt_map fs x.f]
structure RCW (w:World)(base q a b G d:Nat)(vL:Value)(s:CC)(vs:List Value)(Ls:List (List Int)):Prop where
 row:Row w d 152 [.pointer (some ⟨q,0,none⟩),.pointer (some ⟨G,0,none⟩),vL]
 own:w.ownsRow base 175 3 vL s.sl.length (s.sl.map slC).flatten
 rs:RS w base q a b (cnts s.fs) vs Ls
 hd:HoldsB s.fs Ls
 lo:base≤d
end Go.Proofs.YtdjpjfdeeelijaaGreatDoor
