/- hostelref09: shift, part, word, gone. hostelref09: at, used. hostelref09: leaf. hostelref09: set. hostelref09: Find. hostelref09: All. -/
import Derived.Test.YtdjpjfdeeelijaaGreatDoorW08
import Derived.Test.YtdjpjfdeeelijaaGreatDoorKBe
namespace Go.Proofs.YtdjpjfdeeelijaaGreatDoor
open Go.RowKit Go.Sort Go.Shelf Go.WideMaps Go.Maps Go.WideShapes Go.WideElems Go.MapKept Go.ChangeMaps
attribute [local go_sem] Oper.semAt_some
def nd9C (x:ND9):List Value:=[.int .i64 (x.lv:Int),.int .u64 (x.pt:Int),.int .i64 (x.f:Int)]
/-- The document's table in memory. -/
structure T9 (w:World)(base tb d root:Nat)(vL vP:Value)(L:List ND9)(P:List LF)(fr:Bool):Prop where
 row:Row w tb 155 [.pointer (some ⟨d,0,none⟩),.int .i64 (root:Int),vL,vP,.bool fr]
 ln:w.ownsRow base 169 3 vL L.length (L.map nd9C).flatten
 pn:w.ownsRow base 166 4 vP P.length (P.map putC).flatten
 lo:base≤tb
theorem T9.below {w w':World}{base tb d root:Nat}{vL vP:Value}{L:List ND9}{P:List LF}{fr:Bool}(H:T9 w base tb d root vL vP L P fr)(hb:Below w.heap.size w w'):T9 w' base tb d root vL vP L P fr:=
 ⟨H.row.below hb H.row.lt,own_below H.ln hb,own_below H.pn hb,H.lo⟩
theorem shift9_any (k:Nat)(hk:k≤8)(w:World):Calls Tryz.prog 120 #[.int .i64 ((k+1:Nat):Int)] w fun e w'=>e=.returned (.int .i64 ((12+9*k:Nat):Int))∧w=w':=by
 have e0:IntKind.i64.wrap (((k+1:Nat):Int)-1)=((k:Nat):Int):=by rw [IntWalk.i64_in _ (by omega)];omega
 have e1:IntKind.i64.wrap (9*((k:Nat):Int))=((9*k:Nat):Int):=by rw [IntWalk.i64_in _ (by omega)];omega
 have e2:IntKind.i64.wrap (12+((9*k:Nat):Int))=((12+9*k:Nat):Int):=by rw [IntWalk.i64_in _ (by omega)];omega
 go_enter Tryz.func120,Tryz.ntmps120
 go_wp2_with fail
 go_ret
 exact ⟨congrArg (fun z=>Ending.returned (.int .i64 z)) (show (12+9*(k:Int))=((12+9*k:Nat):Int) by omega),rfl⟩
theorem part9_any (ad k:Nat)(hk:k≤4)(w:World):Calls Tryz.prog 84 #[.int .u64 (ad:Int),.int .i64 (k:Int)] w fun e w'=>e=.returned (.int .u64 ((ad/2 ^ (12+9*k):Nat):Int))∧w=w':=by
 have e0:IntKind.i64.wrap ((k:Int)+1)=((k+1:Nat):Int):=by rw [IntWalk.i64_in _ (by omega)];omega
 have HS:=hid (shift9_any k (by omega) w)
 go_enter Tryz.func84,Tryz.ntmps84
 go_wp2_with (go_at_call 120;refine (HS.out).mono ?_;rintro e' w' ⟨rfl,rfl⟩)
 go_ret
 exact ⟨congrArg (fun z=>Ending.returned (.int .u64 z)) (show ((ad:Int)/2 ^ (12+9*k))=((ad/2 ^ (12+9*k):Nat):Int) by simp),rfl⟩
theorem word9_any (ad k:Nat)(hk:k≤4)(w:World):Calls Tryz.prog 86 #[.int .u64 (ad:Int),.int .i64 ((k+1:Nat):Int)] w fun e w'=>e=.returned (.int .i64 ((ixOf ad k:Nat):Int))∧w=w':=by
 have HS:=hid (shift9_any k (by omega) w)
 have e1:IntKind.i64.wrap (((ad:Int)/2 ^ (12+9*k)).tmod 512)=((ixOf ad k:Nat):Int):=by
  have e2:(((ad:Int)/2 ^ (12+9*k)).tmod 512)=((ixOf ad k:Nat):Int):=by
   rw [show ((ad:Int)/2 ^ (12+9*k))=((ad/2 ^ (12+9*k):Nat):Int) by simp,Int.tmod_eq_emod_of_nonneg (Int.natCast_nonneg _)]
   unfold ixOf
   omega
  have:=ixOf_lt ad k
  rw [e2,IntWalk.i64_in _ (by omega)]
 go_enter Tryz.func86,Tryz.ntmps86
 go_wp2_with (go_at_call 120;refine (HS.out).mono ?_;rintro e' w' ⟨rfl,rfl⟩)
 go_ret
 exact ⟨rfl,rfl⟩
theorem T9.five {w:World}{base tb d root:Nat}{vL vP:Value}{L:List ND9}{P:List LF}{fr:Bool}(H:T9 w base tb d root vL vP L P fr):w.cell? ⟨tb,0,none⟩=some (.pointer (some ⟨d,0,none⟩))∧w.cell? ⟨tb,1,none⟩=some (.int .i64 (root:Int))∧w.cell? ⟨tb,2,none⟩=some vL∧w.cell? ⟨tb,3,none⟩=some vP∧w.cell? ⟨tb,4,none⟩=some (.bool fr):=
 ⟨H.row.cell 0 (by simp),H.row.cell 1 (by simp),H.row.cell 2 (by simp),H.row.cell 3 (by simp),H.row.cell 4 (by simp)⟩
theorem gone9_any {base tb d root:Nat}{vL vP:Value}{L:List ND9}{P:List LF}{fr:Bool}(w:World)(H:T9 w base tb d root vL vP L P fr):Calls Tryz.prog 80 #[.pointer (some ⟨tb,0,none⟩)] w fun e w'=>e=.returned (.bool fr)∧w=w':=by
 obtain ⟨c0,c1,c2,c3,c4⟩:=H.five
 have hl:=H.row.lt
 clear H
 go_enter Tryz.func80,Tryz.ntmps80
 go_wp2_with fail
 go_ret
 exact ⟨rfl,rfl⟩
set_option maxRecDepth 100000 in
set_option maxHeartbeats 4000000 in
theorem node9_any {base tb d root:Nat}{vL vP:Value}{L:List ND9}{P:List LF}{fr:Bool}(ad lv:Nat)(h4:lv≤4)(w:World)(H:T9 w base tb d root vL vP L P fr)(hl:L.length≤1000000000):
 Calls Tryz.prog 83 #[.pointer (some ⟨tb,0,none⟩),.int .u64 (ad:Int),.int .i64 (lv:Int)] w fun e w'=>e=.returned (.tuple #[.int .i64 (((nodeF root L ad lv).getD 0:Nat):Int),.bool (nodeF root L ad lv).isSome])∧Below w.heap.size w w':=by
 by_cases h44:lv=4
 ·subst h44
  obtain ⟨c0,c1,c2,c3,c4⟩:=H.five
  have htl:=H.row.lt
  clear H
  go_enter Tryz.func83,Tryz.ntmps83
  go_wp2_with fail
  go_ret2
  exact ⟨rfl,Below.refl _ _⟩
 have HF:=hid (show nodeF root L ad lv=(L.find? fun x=>decide (x.lv=lv)&&decide (x.pt=ad/2 ^ (12+9*lv))).map (·.f) by unfold nodeF;rw [if_neg h44])
 have n4:((lv:Int)==4)=false:=by simp;omega
 have HH:=hid H
 have HL:=hid hl
 have H4:=hid h4
 obtain ⟨a,cap,rfl,hrk,_⟩:=own_rk H.ln (by intro r hr;obtain ⟨x,_,rfl⟩:=List.mem_map.1 hr;rfl) (by omega)
 have HK:=hid hrk
 obtain ⟨c0,c1,c2,c3,c4⟩:=H.five
 have htl:=H.row.lt
 clear H hl h4 hrk h44
 go_enter Tryz.func83,Tryz.ntmps83
 go_wp2_with fail
 clear c0 c1 c2 c3 c4 htl
 go_loopw [8] (fun v wr=>Below w.heap.size w wr∧∃ k:Nat,k≤L.length∧v=.int .i64 k∧∀ m,(hm:m<L.length)→m<k→(decide (L[m].lv=lv)&&decide (L[m].pt=ad/2 ^ (12+9*lv)))=false) (fun v _=>L.length-(intOf v).toNat)
 case atStart=>exact ⟨Below.refl _ _,0,Nat.zero_le _,rfl,fun m _ h=>absurd h (Nat.not_lt_zero m)⟩
 case round=>
  obtain ⟨hb,k,hk,rfl,hno⟩:=hrel
  have HB:=hid hb
  have HNO:=hid hno
  have hll:=HL.out
  have h1:=HH.out.below hb
  obtain ⟨c0,c1,c2,c3,c4⟩:=h1.five
  have htl:=h1.row.lt
  have HP:=hid (fun w'=>part9_any ad lv (by have:=H4.out;omega) w')
  by_cases hlt:k<L.length
  ·have d1:decide ((k:Int)<(L.length:Int))=true:=by simp;omega
   have d1n:decide (k<L.length)=true:=by simp;omega
   have i1:(0:Int)≤(k:Int):=by omega
   have i2:(k:Int)<(L.length:Int):=by omega
   obtain ⟨b,o,rfl,hcell⟩:=(HK.out.below' hb).some_of (by simp;omega)
   have gq:=fun j hj=>hcell k (by simpa using hlt) j hj
   have e9:(L.map nd9C)[k]'(by simpa using hlt)=nd9C L[k]:=by simp
   rw [e9] at gq
   have g0:=gq 0 (by simp [nd9C])
   have g1:=gq 1 (by simp [nd9C])
   have g2:=gq 2 (by simp [nd9C])
   simp only [nd9C,List.getElem_cons_zero,List.getElem_cons_succ,Nat.add_zero] at g0 g1 g2
   have hbl:=World.block_lt_of_cell? _ _ g0
   have HAT:=hid (fun (h:(decide (L[k].lv=lv)&&decide (L[k].pt=ad/2 ^ (12+9*lv)))=true)=>(show L.find? (fun x=>decide (x.lv=lv)&&decide (x.pt=ad/2 ^ (12+9*lv)))=some L[k] from find_first hlt h fun m hm=>hno m (by omega) hm))
   have HST:=hid (fun (h:(decide (L[k].lv=lv)&&decide (L[k].pt=ad/2 ^ (12+9*lv)))=false)=>(show ∀ m,(hm:m<L.length)→m<k+1→(decide (L[m].lv=lv)&&decide (L[m].pt=ad/2 ^ (12+9*lv)))=false from fun m hm h1=>by
    by_cases e:m=k
    ·subst e;exact h
    ·exact hno m hm (by omega)))
   clear gq e9 hcell hno hb h1
   obtain ⟨y,hy⟩:∃ y,y=L[k]:=⟨_,rfl⟩
   rw [← hy] at g0 g1 g2 HAT HST
   clear hy
   by_cases q1:y.lv=lv
   ·have e1:((y.lv:Int)==(lv:Int))=true:=by simp [q1]
    have e1':(y.lv==lv)=true:=by simp [q1]
    by_cases q2:y.pt=ad/2 ^ (12+9*lv)
    ·have e2:((y.pt:Int)==((ad/2 ^ (12+9*lv):Nat):Int))=true:=by rw [q2];simp
     have HT:=hid (HAT.out (by simp [q1,q2]))
     generalize ad/2 ^ (12+9*lv)=pt at *
     clear q1 q2
     go_wp2_with fail
     go_quiet ((go_at_call 84;exact Calls.quiet_of_same ((HP.out _).mono (fun _ _ h=>⟨h.1,h.2.symm⟩))))
     go_wp2_with fail
     go_ret2
     rw [HF.out,HT.out]
     exact ⟨rfl,bdN HB.out _⟩
    ·have e2:((y.pt:Int)==((ad/2 ^ (12+9*lv):Nat):Int))=false:=by simp only [beq_eq_false_iff_ne,ne_eq];omega
     have HT:=hid (HST.out (by simp [q2]))
     generalize ad/2 ^ (12+9*lv)=pt at *
     clear q1 q2
     go_wp2_with fail
     go_quiet ((go_at_call 84;exact Calls.quiet_of_same ((HP.out _).mono (fun _ _ h=>⟨h.1,h.2.symm⟩))))
     go_wp2_with fail
     go_roundw
     case rel=>exact ⟨bdN HB.out _,k+1,by omega,by go_num,HT.out⟩
     case measure=>simp [intOf];omega
   ·have e1:((y.lv:Int)==(lv:Int))=false:=by simp only [beq_eq_false_iff_ne,ne_eq];omega
    have e1':(y.lv==lv)=false:=by simpa using q1
    have HT:=hid (HST.out (by simp [q1]))
    generalize ad/2 ^ (12+9*lv)=pt at *
    clear q1
    go_wp2_with fail
    go_quiet ((go_at_call 84;exact Calls.quiet_of_same ((HP.out _).mono (fun _ _ h=>⟨h.1,h.2.symm⟩))))
    go_wp2_with fail
    go_roundw
    case rel=>exact ⟨bdN HB.out _,k+1,by omega,by go_num,HT.out⟩
    case measure=>simp [intOf];omega
  ·have d1:decide ((k:Int)<(L.length:Int))=false:=by simp;omega
   have d1n:decide (k<L.length)=false:=by simp;omega
   have HN:=hid (show nodeF root L ad lv=none by rw [HF.out,find_nowhere fun m hm=>hno m hm (by omega)];rfl)
   clear hno hb h1
   go_wp2_with fail
   go_ret2
   rw [HN.out]
   exact ⟨rfl,HB.out⟩
def atR (P:List LF)(ad:Nat):Int:=match P.findIdx? (fun y=>decide (y.1=ad/4096*4096)) with
 | some j=>(j:Int)
 | none=>-1
theorem idx_first {α:Type}{q:α→Bool}{l:List α}{j:Nat}(hj:j<l.length)(h:q l[j]=true)(hb:∀ i,(hi:i<j)→q (l[i]'(by omega))=false):l.findIdx? q=some j:=by
 rw [List.findIdx?_eq_some_iff_getElem]
 exact ⟨hj,h,fun i hi=>by rw [hb i hi];decide⟩
theorem idx_nowhere {α:Type}{q:α→Bool}{l:List α}(h:∀ i,(hi:i<l.length)→q l[i]=false):l.findIdx? q=none:=by
 rw [List.findIdx?_eq_none_iff]
 intro x hx
 obtain ⟨i,hi,rfl⟩:=List.getElem_of_mem hx
 exact h i hi
set_option maxRecDepth 100000 in
set_option maxHeartbeats 4000000 in
theorem atR_any {base tb d root:Nat}{vL vP:Value}{L:List ND9}{P:List LF}{fr:Bool}(ad:Nat)(had:ad<18446744073709551616)(w:World)(H:T9 w base tb d root vL vP L P fr)(hl:P.length≤1000000000):
 Calls Tryz.prog 81 #[.pointer (some ⟨tb,0,none⟩),.int .u64 (ad:Int)] w fun e w'=>e=.returned (.int .i64 (atR P ad))∧Below w.heap.size w w':=by
 have HH:=hid H
 have HL:=hid hl
 have HA:=hid had
 obtain ⟨a,cap,rfl,hrk,_⟩:=own_rk H.pn (by intro r hr;obtain ⟨x,_,rfl⟩:=List.mem_map.1 hr;rfl) (by omega)
 have HK:=hid hrk
 obtain ⟨c0,c1,c2,c3,c4⟩:=H.five
 have htl:=H.row.lt
 clear H hl had hrk
 go_enter Tryz.func81,Tryz.ntmps81
 go_wp2_with fail
 clear c0 c1 c2 c3 c4 htl
 go_loopw [5] (fun v wr=>Below w.heap.size w wr∧∃ k:Nat,k≤P.length∧v=.int .i64 k∧∀ m,(hm:m<P.length)→m<k→decide (P[m].1=ad/4096*4096)=false) (fun v _=>P.length-(intOf v).toNat)
 case atStart=>exact ⟨Below.refl _ _,0,Nat.zero_le _,rfl,fun m _ h=>absurd h (Nat.not_lt_zero m)⟩
 case round=>
  obtain ⟨hb,k,hk,rfl,hno⟩:=hrel
  have HB:=hid hb
  have hll:=HL.out
  have h1:=HH.out.below hb
  obtain ⟨c0,c1,c2,c3,c4⟩:=h1.five
  have htl:=h1.row.lt
  by_cases hlt:k<P.length
  ·have d1:decide ((k:Int)<(P.length:Int))=true:=by simp;omega
   have d1n:decide (k<P.length)=true:=by simp;omega
   have i1:(0:Int)≤(k:Int):=by omega
   have i2:(k:Int)<(P.length:Int):=by omega
   obtain ⟨b,o,rfl,hcell⟩:=(HK.out.below' hb).some_of (by simp;omega)
   have gq:=fun j hj=>hcell k (by simpa using hlt) j hj
   have e9:(P.map putC)[k]'(by simpa using hlt)=putC P[k]:=by simp
   rw [e9] at gq
   have g0:=gq 0 (by simp [putC])
   simp only [putC,List.getElem_cons_zero,Nat.add_zero] at g0
   have hbl:=World.block_lt_of_cell? _ _ g0
   have HAT:=hid (fun (h:decide (P[k].1=ad/4096*4096)=true)=>(show atR P ad=(k:Int) by unfold atR;rw [idx_first hlt h fun m hm=>hno m (by omega) hm]))
   have HST:=hid (fun (h:decide (P[k].1=ad/4096*4096)=false)=>(show ∀ m,(hm:m<P.length)→m<k+1→decide (P[m].1=ad/4096*4096)=false from fun m hm h1=>by
    by_cases e:m=k
    ·subst e;exact h
    ·exact hno m hm (by omega)))
   clear gq e9 hcell hno hb h1
   obtain ⟨y,hy⟩:∃ y,y=P[k]:=⟨_,rfl⟩
   rw [← hy] at g0 HAT HST
   clear hy
   have had:=HA.out
   by_cases q1:y.1=ad/4096*4096
   ·have HT:=hid (HAT.out (by simp [q1]))
    rw [q1] at g0
    clear q1
    go_wp2_with fail
    go_ret
    rw [HT.out]
    exact ⟨rfl,HB.out⟩
   ·have e2:((y.1:Int)==(ad:Int)/4096*4096)=false:=by simp only [beq_eq_false_iff_ne,ne_eq];omega
    have HT:=hid (HST.out (by simp [q1]))
    clear q1
    go_wp2_with fail
    go_roundw
    case rel=>exact ⟨HB.out,k+1,by omega,by go_num,HT.out⟩
    case measure=>simp [intOf];omega
  ·have d1:decide ((k:Int)<(P.length:Int))=false:=by simp;omega
   have d1n:decide (k<P.length)=false:=by simp;omega
   have HN:=hid (show atR P ad=-1 by unfold atR;rw [idx_nowhere fun m hm=>hno m hm (by omega)])
   clear hno hb h1
   go_wp2_with fail
   go_ret
   rw [HN.out]
   exact ⟨rfl,HB.out⟩
set_option maxRecDepth 100000 in
set_option maxHeartbeats 4000000 in
theorem used9_any {base tb d root:Nat}{vL vP:Value}{L:List ND9}{P:List LF}{fr:Bool}(ad lv:Nat)(h4:lv≤4)(w:World)(H:T9 w base tb d root vL vP L P fr)(hl:P.length≤1000000000):
 Calls Tryz.prog 88 #[.pointer (some ⟨tb,0,none⟩),.int .u64 (ad:Int),.int .i64 (lv:Int)] w fun e w'=>e=.returned (.bool (usedF P ad lv))∧Below w.heap.size w w':=by
 have HH:=hid H
 have HL:=hid hl
 have H4:=hid h4
 obtain ⟨a,cap,rfl,hrk,_⟩:=own_rk H.pn (by intro r hr;obtain ⟨x,_,rfl⟩:=List.mem_map.1 hr;rfl) (by omega)
 have HK:=hid hrk
 obtain ⟨c0,c1,c2,c3,c4⟩:=H.five
 have htl:=H.row.lt
 clear H hl hrk h4
 go_enter Tryz.func88,Tryz.ntmps88
 go_wp2_with fail
 clear c0 c1 c2 c3 c4 htl
 go_loopw [7] (fun v wr=>Below w.heap.size w wr∧∃ k:Nat,k≤P.length∧v=.int .i64 k∧∀ m,(hm:m<P.length)→m<k→decide (P[m].1/2 ^ (12+9*lv)=ad/2 ^ (12+9*lv))=false) (fun v _=>P.length-(intOf v).toNat)
 case atStart=>exact ⟨Below.refl _ _,0,Nat.zero_le _,rfl,fun m _ h=>absurd h (Nat.not_lt_zero m)⟩
 case round=>
  obtain ⟨hb,k,hk,rfl,hno⟩:=hrel
  have HB:=hid hb
  have hll:=HL.out
  have h1:=HH.out.below hb
  obtain ⟨c0,c1,c2,c3,c4⟩:=h1.five
  have htl:=h1.row.lt
  have HP:=hid (fun w'=>part9_any ad lv (by have:=H4.out;omega) w')
  by_cases hlt:k<P.length
  ·have d1:decide ((k:Int)<(P.length:Int))=true:=by simp;omega
   have d1n:decide (k<P.length)=true:=by simp;omega
   have i1:(0:Int)≤(k:Int):=by omega
   have i2:(k:Int)<(P.length:Int):=by omega
   obtain ⟨b,o,rfl,hcell⟩:=(HK.out.below' hb).some_of (by simp;omega)
   have gq:=fun j hj=>hcell k (by simpa using hlt) j hj
   have e9:(P.map putC)[k]'(by simpa using hlt)=putC P[k]:=by simp
   rw [e9] at gq
   have g0:=gq 0 (by simp [putC])
   simp only [putC,List.getElem_cons_zero,Nat.add_zero] at g0
   have hbl:=World.block_lt_of_cell? _ _ g0
   have HAT:=hid (fun (h:decide (P[k].1/2 ^ (12+9*lv)=ad/2 ^ (12+9*lv))=true)=>(show usedF P ad lv=true from List.any_eq_true.2 ⟨P[k],List.getElem_mem hlt,h⟩))
   have HST:=hid (fun (h:decide (P[k].1/2 ^ (12+9*lv)=ad/2 ^ (12+9*lv))=false)=>(show ∀ m,(hm:m<P.length)→m<k+1→decide (P[m].1/2 ^ (12+9*lv)=ad/2 ^ (12+9*lv))=false from fun m hm h1=>by
    by_cases e:m=k
    ·subst e;exact h
    ·exact hno m hm (by omega)))
   clear gq e9 hcell hno hb h1
   obtain ⟨y,hy⟩:∃ y,y=P[k]:=⟨_,rfl⟩
   rw [← hy] at g0 HAT HST
   clear hy
   have HQ:=hid (fun w'=>part9_any y.1 lv (by have:=H4.out;omega) w')
   by_cases q1:y.1/2 ^ (12+9*lv)=ad/2 ^ (12+9*lv)
   ·have HT:=hid (HAT.out (by simp [q1]))
    rw [q1] at HQ
    have e2:(((ad/2 ^ (12+9*lv):Nat):Int)==((ad/2 ^ (12+9*lv):Nat):Int))=true:=by simp
    generalize ad/2 ^ (12+9*lv)=pt at *
    clear q1
    go_wp2_with fail
    refine (HQ.out _).mono ?_
    rintro e' w' ⟨rfl,rfl⟩
    go_wp2_with fail
    refine (HP.out _).mono ?_
    rintro e' w' ⟨rfl,rfl⟩
    go_wp2_with fail
    go_ret
    rw [HT.out]
    exact ⟨rfl,HB.out⟩
   ·have HT:=hid (HST.out (by simp [q1]))
    have e2:(((y.1/2 ^ (12+9*lv):Nat):Int)==((ad/2 ^ (12+9*lv):Nat):Int))=false:=by simp only [beq_eq_false_iff_ne,ne_eq];omega
    generalize ad/2 ^ (12+9*lv)=pt at *
    generalize y.1/2 ^ (12+9*lv)=pu at *
    clear q1
    go_wp2_with fail
    refine (HQ.out _).mono ?_
    rintro e' w' ⟨rfl,rfl⟩
    go_wp2_with fail
    refine (HP.out _).mono ?_
    rintro e' w' ⟨rfl,rfl⟩
    go_wp2_with fail
    go_roundw
    case rel=>exact ⟨HB.out,k+1,by omega,by go_num,HT.out⟩
    case measure=>simp [intOf];omega
  ·have d1:decide ((k:Int)<(P.length:Int))=false:=by simp;omega
   have d1n:decide (k<P.length)=false:=by simp;omega
   have HN:=hid (show usedF P ad lv=false from List.any_eq_false.2 fun y hy=>by
    obtain ⟨m,hm,rfl⟩:=List.getElem_of_mem hy
    rw [hno m hm (by omega)]
    decide)
   clear hno hb h1
   go_wp2_with fail
   go_ret
   rw [HN.out]
   exact ⟨rfl,HB.out⟩
theorem rl_or:∀ p<8,((2*p:Nat) ||| 1)=1+2*p:=by decide
set_option maxRecDepth 100000 in
set_option maxHeartbeats 1000000 in
theorem leaf9_any (f pr:Nat)(cp:Bool)(hf:f<1048576)(hp:pr≤7)(w:World):Calls Tryz.prog 87 #[.agg #[.int .i64 (f:Int),.int .u8 (pr:Int),.bool cp]] w fun r w'=>r=.returned (.int .u64 ((wdT (.lf f pr cp):Nat):Int))∧Below w.heap.size w w':=by
 have e0:IntKind.u64.wrap (f:Int)=(f:Int):=IntWalk.u64_in _ (by omega)
 have e1:IntKind.u64.wrap (pr:Int)=(pr:Int):=IntWalk.u64_in _ (by omega)
 obtain ⟨U,hU⟩:∃ U,U=2*pr:=⟨_,rfl⟩
 have e2:IntKind.u64.wrap ((pr:Int)*2)=(U:Int):=by rw [IntWalk.u64_in _ (by omega)];omega
 obtain ⟨Z,hZ⟩:∃ Z,Z=f*4096:=⟨_,rfl⟩
 have e5:IntKind.u64.wrap ((f:Int)*4096)=(Z:Int):=by rw [IntWalk.u64_in _ (by omega)];omega
 obtain ⟨V,hV⟩:∃ V,V=f*4096+2*pr:=⟨_,rfl⟩
 obtain ⟨Y,hY⟩:∃ Y,Y=f*4096+(1+2*pr):=⟨_,rfl⟩
 obtain ⟨X,hX⟩:∃ X,X=f*4096+(17+2*pr):=⟨_,rfl⟩
 have e3:bits BinOp.or .u64 (Z:Int) (U:Int)=(V:Int):=by
  rw [bits_or_u64_nat _ _ (by omega) (by omega)]
  congr 1
  rw [hZ,hU,hV,show f*4096=2 ^ 12*f by omega,← Nat.two_pow_add_eq_or_of_lt (by omega)]
 have e6:bits BinOp.or .u64 (V:Int) 1=(Y:Int):=by
  rw [show (1:Int)=((1:Nat):Int) from rfl,bits_or_u64_nat _ _ (by omega) (by omega)]
  congr 1
  rw [hV,hY,show f*4096=2 ^ 12*f by omega,Nat.two_pow_add_eq_or_of_lt (by omega),Nat.or_assoc,rl_or pr (by omega),← Nat.two_pow_add_eq_or_of_lt (by omega)]
 have e4:bits BinOp.or .u64 (Y:Int) 16=(X:Int):=by
  rw [show (16:Int)=((16:Nat):Int) from rfl,bits_or_u64_nat _ _ (by omega) (by omega)]
  congr 1
  rw [hY,hX,show f*4096=2 ^ 12*f by omega,Nat.two_pow_add_eq_or_of_lt (by omega),Nat.or_assoc,wd_or16 pr (by omega),← Nat.two_pow_add_eq_or_of_lt (by omega)]
 have HV:=hid (show wdT (.lf f pr cp)=if cp then X else Y by rw [wdT_lf];cases cp <;> simp <;> omega)
 clear hX hY hV hZ hU
 cases cp
 ·go_enter Tryz.func87,Tryz.ntmps87
  go_wp2_with fail
  go_ret
  rw [HV.out]
  exact ⟨rfl,by first|exact Below.refl _ _|exact bal _⟩
 ·go_enter Tryz.func87,Tryz.ntmps87
  go_wp2_with fail
  go_ret
  rw [HV.out]
  exact ⟨rfl,by first|exact Below.refl _ _|exact bal _⟩
theorem le8_get (x k:Nat)(hk:k<8):(le8 x)[k]'(by rw [le8_len];exact hk)=((x/2 ^ (8*k)%256:Nat):Int):=by
 unfold le8 b2i
 rw [List.getElem_map]
 unfold Wd.leB
 rw [List.getElem_map,List.getElem_range,Wd.byteAt_toNat,show (256:Nat)=2 ^ 8 from rfl,← Nat.pow_mul]
section
variable {w0:World}{base q a b G d tb root:Nat}{vS vL vP:Value}{s:CC}{vs:List Value}{Ls:List (List Int)}{L:List ND9}{P:List LF}{fr:Bool}
set_option maxRecDepth 100000 in
set_option maxHeartbeats 8000000 in
theorem set9R_any (f i x:Nat)(hi:i<512)(_hf:f<1048576)(_hx:x<18446744073709551616)(w:World)(H:T9 w base tb d root vL vP L P fr)(R:RCW w base q a b G d vS s vs Ls)(hok:FsOk s.fs)(hbs:base≤w.heap.size):
 Calls Tryz.prog 85 #[.pointer (some ⟨tb,0,none⟩),.int .i64 (f:Int),.int .i64 (i:Int),.int .u64 (x:Int)] w fun e w'=>e=.returned (.tuple #[])∧∃ vs' Ls',RSt base q a b G d vS vs w (layC s f i x) vS vs' Ls' w':=by
 obtain ⟨w1,hw1⟩:∃ w1,w1=w.alloc (.cells (Array.replicate 8 (.int .u8 0)) 5):=⟨_,rfl⟩
 have hmk:∀ w,(Instr.makeSlice 89 (.int .i64 8) (.int .i64 8)).run Tryz.prog w=.ok (.slice (some ⟨w.heap.size,0,none⟩) 8 8) (w.alloc (.cells (Array.replicate 8 (.int .u8 0)) 5)):=fun w=>by kernel_rfl
 have HB1:=hid (show Below w.heap.size w w1 by rw [hw1];exact bal _)
 have HR1:=hid (show Row w1 w.heap.size 5 (List.replicate 8 (Value.int .u8 0)) by rw [hw1];exact Row.new w 5 (List.replicate 8 (Value.int .u8 0)))
 have HH:=hid H
 have HR:=hid R
 have HOK:=hid hok
 have HBS:=hid hbs
 have HW1:=hid hw1
 obtain ⟨be,hbe⟩:∃ be,be=w.heap.size:=⟨_,rfl⟩
 have HBE:=hid hbe
 clear H R hok hbs hw1
 go_enter Tryz.func85,Tryz.ntmps85
 go_wp2_with fail
 rw [← HW1.out,← HBE.out]
 clear hbe
 rw [← HBE.out] at HR1
 go_loopw [9] (fun v wr=>Below w.heap.size w wr∧∃ (k:Nat) (cs:List Value),k≤8∧v=.int .i64 k∧Row wr be 5 cs∧cs.length=8∧∀ m,(h1:m<k)→(h2:m<cs.length)→(h3:m<(le8 x).length)→cs[m]=.int .u8 (le8 x)[m]) (fun v _=>8-(intOf v).toNat)
 case atStart=>exact ⟨HB1.out,0,_,Nat.zero_le _,rfl,HR1.out,by simp,fun m h=>absurd h (Nat.not_lt_zero m)⟩
 case round=>
  obtain ⟨hb,k,cs,hk,rfl,hrow,hcl,hcs⟩:=hrel
  have HB:=hid hb
  have HROW:=hid hrow
  have HCS:=hid hcs
  have hbl:=hrow.lt
  clear hrow hcs hb
  by_cases hlt:k<8
  ·have d1:decide ((k:Int)<8)=true:=by simp;omega
   have d1n:decide (k<8)=true:=by simp;omega
   have i1:(0:Int)≤(k:Int):=by omega
   have i2:(k:Int)<(8:Int):=by omega
   have e1:IntKind.i64.wrap (8*(k:Int))=((8*k:Nat):Int):=by rw [IntWalk.i64_in _ (by omega)];omega
   have e2:IntKind.u8.wrap ((x:Int)/2 ^ (8*k))=((x/2 ^ (8*k)%256:Nat):Int):=by
    rw [show ((x:Int)/2 ^ (8*k))=((x/2 ^ (8*k):Nat):Int) by simp,IntKind.wrap_u8]
    omega
   have hck:=HROW.out.cell k (by rw [hcl];omega)
   have hfk:=HROW.out.frozen k
   go_wp2_with fail
   go_roundw
   case rel=>
    refine ⟨?_,k+1,cs.set k (.int .u8 ((x/2 ^ (8*k)%256:Nat):Int)),by omega,by go_num,HROW.out.set k _,by rw [List.length_set];exact hcl,fun m h1 h2 h3=>?_⟩
    ·exact bset HB.out (by rw [HBE.out];exact Nat.le_refl _) _
    ·by_cases e:m=k
     ·subst e
      rw [List.getElem_set_self,le8_get x m hlt]
     ·rw [List.getElem_set_ne (Ne.symm e)]
      exact HCS.out m (by omega) (by rw [List.length_set] at h2;exact h2) h3
   case measure=>simp [intOf];omega
  ·have d1:decide ((k:Int)<8)=false:=by simp;omega
   have d1n:decide (k<8)=false:=by simp;omega
   obtain rfl:k=8:=by omega
   have hnums:Nums wr .u8 (some ⟨be,0,none⟩) 8 (le8 x):=⟨le8_len x,fun m hm=>⟨be,0,rfl,by
    rw [Nat.zero_add,HROW.out.cell m (by rw [hcl,← le8_len x];exact hm)]
    exact congrArg some (HCS.out m (by rw [← le8_len x];exact hm) _ hm)⟩⟩
   have HN:=hid hnums
   have HRC:=hid (HR.out.below HB.out)
   have HT:=hid (HH.out.below HB.out)
   obtain ⟨c0,c1,c2,c3,c4⟩:=HT.out.five
   have htl:=HT.out.row.lt
   obtain ⟨r0,r1,r2⟩:=HRC.out.row.three
   have hrl:=HRC.out.row.lt
   have e1:IntKind.i64.wrap (8*(i:Int))=((8*i:Nat):Int):=by rw [IntWalk.i64_in _ (by omega)];omega
   have nums_of:∀ W,Row W be 5 cs→Nums W .u8 (some ⟨be,0,none⟩) 8 (le8 x):=fun W hr=>⟨le8_len x,fun m hm=>⟨be,0,rfl,by
    rw [Nat.zero_add,hr.cell m (by rw [hcl,← le8_len x];exact hm)]
    exact congrArg some (HCS.out m (by rw [← le8_len x];exact hm) _ hm)⟩⟩
   have hne:∀ k,k<w.heap.size→be≠k:=fun k h e=>by have:=HBE.out;omega
   have HST:=hid (rstoreR_any base q a b s.fs vs Ls (f:Int) ((8*i:Nat):Int) (some ⟨be,0,none⟩) 8 8 (le8 x) wr HRC.out.rs HOK.out HRC.out.h0 HRC.out.hd hnums
    (fun W X he hX _=>nums_of W (he.row HROW.out (hne a HR.out.rs.rp.cnts.lt) (hne b HR.out.rs.rp.bys.lt) (fun e=>by
     obtain ⟨ds,hd⟩:=old_row HR.out (hX be e.symm)
     exact hne be hd.lt rfl))) (Nat.le_trans HBS.out HB.out.size) (by omega))
   clear hnums nums_of hne
   go_wp2_with fail
   refine (HST.out).mono ?_
   rintro e w4 ⟨rfl,vs4,Ls4,hrs4,hh4,_,_,⟨X,he4,hX4⟩,hal4⟩
   have HR4:=hid (HRC.out.pool hrs4 hh4 he4 hX4 hal4 (layC s f i x) rfl rfl)
   have HR5:=hid (((RSt.refl HR.out).still HB.out).andThen HR4.out)
   clear hrs4 hh4 he4 hX4 hal4
   go_wp2_with fail
   exact bodyPost_end (results_none rfl _ _ _) rfl ⟨rfl,_,_,HR5.out⟩
end
def leafV (y:LF):Value:=.agg #[.int .i64 (y.2.1:Int),.int .u8 (y.2.2.1:Int),.bool y.2.2.2]
def noLF:LF:=(0,0,0,false)
/-- The document's Find. -/
def findF (fr:Bool)(P:List LF)(ad:Nat):LF × Int:=
 if fr=true then (noLF,2) else if ad<140737488355328 then (match P.findIdx? (fun y=>decide (y.1=ad/4096*4096)) with
  | some j=>(P.getD j noLF,0)
  | none=>(noLF,6)) else (noLF,1)
set_option maxRecDepth 100000 in
set_option maxHeartbeats 4000000 in
theorem find9R_any {base tb d root:Nat}{vL vP:Value}{L:List ND9}{P:List LF}{fr:Bool}(ad:Nat)(had:ad<18446744073709551616)(w:World)(H:T9 w base tb d root vL vP L P fr)(hl:P.length≤1000000000):
 Calls Tryz.prog 36 #[.pointer (some ⟨tb,0,none⟩),.int .u64 (ad:Int)] w fun e w'=>e=.returned (.tuple #[leafV (findF fr P ad).1,.int .i64 (findF fr P ad).2])∧Below w.heap.size w w':=by
 obtain ⟨wb,hwb⟩:∃ wb,wb=w.alloc (.cells #[.int .i64 0,.int .u8 0,.bool false] 31):=⟨_,rfl⟩
 have HBB:=hid (show Below w.heap.size w wb by rw [hwb];exact bal _)
 have HRW:=hid (show Row wb w.heap.size 31 [.int .i64 0,.int .u8 0,.bool false] by rw [hwb];exact Row.new w _ _)
 have HWB:=hid hwb
 have HG:=hid (gone9_any wb (H.below HBB.out))
 have HA:=hid (atR_any ad had wb (H.below HBB.out) hl)
 have HH:=hid (H.below HBB.out)
 clear hwb
 cases fr with
 | true=>
  go_enter Tryz.func36,Tryz.ntmps36
  go_wp2_with fail
  rw [← HWB.out]
  refine (HG.out).mono ?_
  rintro e w1 ⟨rfl,rfl⟩
  obtain ⟨z0,z1,z2⟩:=HRW.out.three
  have hzl:=HRW.out.lt
  have y0:=HRW.out.frozen 0
  have y1:=HRW.out.frozen 1
  have y2:=HRW.out.frozen 2
  go_wp2_with fail
  have hb9:Below w.heap.size w (((wb.setCell ⟨w.heap.size,0,none⟩ (.int .i64 0)).setCell ⟨w.heap.size,1,none⟩ (.int .u8 0)).setCell ⟨w.heap.size,2,none⟩ (.bool false)):=bset (bset (bset HBB.out (Nat.le_refl _) _) (Nat.le_refl _) _) (Nat.le_refl _) _
  exact bodyPost_ret (v:=.tuple #[.agg #[.int .i64 0,.int .u8 0,.bool false],.int .i64 2]) (by simp [results,Tryz.f36,go_sem,z0,z1,z2]) rfl ⟨rfl,hb9⟩
 | false=>
  by_cases hu:ad<140737488355328
  ·have d1:decide ((140737488355328:Int)≤(ad:Int))=false:=by simp;omega
   cases hf:P.findIdx? (fun y=>decide (y.1=ad/4096*4096)) with
   | none=>
    have e1:findF false P ad=(noLF,6):=by unfold findF;rw [if_neg (by decide),if_pos hu,hf]
    have e2:atR P ad=-1:=by unfold atR;rw [hf]
    rw [e1]
    rw [e2] at HA
    clear hf e1 e2
    go_enter Tryz.func36,Tryz.ntmps36
    go_wp2_with fail
    rw [← HWB.out]
    refine (HG.out).mono ?_
    rintro e w1 ⟨rfl,rfl⟩
    obtain ⟨z0,z1,z2⟩:=HRW.out.three
    have hzl:=HRW.out.lt
    have y0:=HRW.out.frozen 0
    have y1:=HRW.out.frozen 1
    have y2:=HRW.out.frozen 2
    go_wp2_with fail
    refine (HA.out).mono ?_
    rintro e w1 ⟨rfl,hb⟩
    have HB:=hid (bthen HBB.out hb)
    have hrw:=HRW.out.below hb HRW.out.lt
    clear z0 z1 z2 hzl y0 y1 y2
    obtain ⟨z0,z1,z2⟩:=hrw.three
    have hzl:=hrw.lt
    have y0:=hrw.frozen 0
    have y1:=hrw.frozen 1
    have y2:=hrw.frozen 2
    clear hb hrw
    go_wp2_with fail
    have hb9:Below w.heap.size w (((w1.setCell ⟨w.heap.size,0,none⟩ (.int .i64 0)).setCell ⟨w.heap.size,1,none⟩ (.int .u8 0)).setCell ⟨w.heap.size,2,none⟩ (.bool false)):=bset (bset (bset HB.out (Nat.le_refl _) _) (Nat.le_refl _) _) (Nat.le_refl _) _
    exact bodyPost_ret (v:=.tuple #[.agg #[.int .i64 0,.int .u8 0,.bool false],.int .i64 6]) (by simp [results,Tryz.f36,go_sem,z0,z1,z2]) rfl ⟨rfl,hb9⟩
   | some j=>
    have hj:j<P.length:=(List.findIdx?_eq_some_iff_getElem.1 hf).1
    have e1:findF false P ad=(P[j],0):=by unfold findF;rw [if_neg (by decide),if_pos hu,hf];simp only;rw [getD_at9 hj]
    have e2:atR P ad=(j:Int):=by unfold atR;rw [hf]
    rw [e1]
    rw [e2] at HA
    obtain ⟨a,cap,rfl,hrk,_⟩:=own_rk H.pn (by intro r hr;obtain ⟨x,_,rfl⟩:=List.mem_map.1 hr;rfl) (by omega)
    have HK:=hid hrk
    have d2:decide ((j:Int)<0)=false:=by simp
    have i1:(0:Int)≤(j:Int):=by omega
    have i2:(j:Int)<(P.length:Int):=by omega
    clear hf e1 e2 hrk
    go_enter Tryz.func36,Tryz.ntmps36
    go_wp2_with fail
    rw [← HWB.out]
    refine (HG.out).mono ?_
    rintro e w1 ⟨rfl,rfl⟩
    obtain ⟨z0,z1,z2⟩:=HRW.out.three
    have hzl:=HRW.out.lt
    have y0:=HRW.out.frozen 0
    have y1:=HRW.out.frozen 1
    have y2:=HRW.out.frozen 2
    go_wp2_with fail
    refine (HA.out).mono ?_
    rintro e w1 ⟨rfl,hb⟩
    have HB:=hid (bthen HBB.out hb)
    have hrw:=HRW.out.below hb HRW.out.lt
    clear z0 z1 z2 hzl y0 y1 y2
    obtain ⟨z0,z1,z2⟩:=hrw.three
    have hzl:=hrw.lt
    have y0:=hrw.frozen 0
    have y1:=hrw.frozen 1
    have y2:=hrw.frozen 2
    obtain ⟨c0,c1,c2,c3,c4⟩:=(HH.out.below hb).five
    have htl:=(HH.out.below hb).row.lt
    obtain ⟨bb,o,rfl,hcell⟩:=(HK.out.below' (bthen HBB.out hb)).some_of (by simp;omega)
    have gq:=fun m hm=>hcell j (by simpa using hj) m hm
    have e9:(P.map putC)[j]'(by simpa using hj)=putC P[j]:=by simp
    rw [e9] at gq
    have g1:=gq 1 (by simp [putC])
    have g2:=gq 2 (by simp [putC])
    have g3:=gq 3 (by simp [putC])
    simp only [putC,List.getElem_cons_zero,List.getElem_cons_succ] at g1 g2 g3
    have hbl:=World.block_lt_of_cell? _ _ g1
    clear hb hrw gq e9 hcell
    obtain ⟨y,hy⟩:∃ y,y=P[j]:=⟨_,rfl⟩
    rw [← hy] at g1 g2 g3
    have HY:=hid hy
    clear hy
    go_wp2_with fail
    have hb9:Below w.heap.size w (((w1.setCell ⟨w.heap.size,0,none⟩ (.int .i64 (y.2.1:Int))).setCell ⟨w.heap.size,1,none⟩ (.int .u8 (y.2.2.1:Int))).setCell ⟨w.heap.size,2,none⟩ (.bool y.2.2.2)):=bset (bset (bset HB.out (Nat.le_refl _) _) (Nat.le_refl _) _) (Nat.le_refl _) _
    exact bodyPost_ret (v:=.tuple #[.agg #[.int .i64 (y.2.1:Int),.int .u8 (y.2.2.1:Int),.bool y.2.2.2],.int .i64 0]) (by simp [results,Tryz.f36,go_sem,z0,z1,z2]) rfl ⟨by rw [← HY.out];rfl,hb9⟩
  ·have d1:decide ((140737488355328:Int)≤(ad:Int))=true:=by simp;omega
   have e1:findF false P ad=(noLF,1):=by unfold findF;rw [if_neg (by decide),if_neg hu]
   rw [e1]
   clear e1
   go_enter Tryz.func36,Tryz.ntmps36
   go_wp2_with fail
   rw [← HWB.out]
   refine (HG.out).mono ?_
   rintro e w1 ⟨rfl,rfl⟩
   obtain ⟨z0,z1,z2⟩:=HRW.out.three
   have hzl:=HRW.out.lt
   have y0:=HRW.out.frozen 0
   have y1:=HRW.out.frozen 1
   have y2:=HRW.out.frozen 2
   go_wp2_with fail
   have hb9:Below w.heap.size w (((wb.setCell ⟨w.heap.size,0,none⟩ (.int .i64 0)).setCell ⟨w.heap.size,1,none⟩ (.int .u8 0)).setCell ⟨w.heap.size,2,none⟩ (.bool false)):=bset (bset (bset HBB.out (Nat.le_refl _) _) (Nat.le_refl _) _) (Nat.le_refl _) _
   exact bodyPost_ret (v:=.tuple #[.agg #[.int .i64 0,.int .u8 0,.bool false],.int .i64 1]) (by simp [results,Tryz.f36,go_sem,z0,z1,z2]) rfl ⟨rfl,hb9⟩
def allF (fr:Bool)(P:List LF):List LF:=if fr=true then [] else P
theorem putC_one (y:LF):∀ v∈putC y,v.oneCell'=true:=by
 intro v hv
 simp only [putC,List.mem_cons,List.not_mem_nil,or_false] at hv
 rcases hv with rfl|rfl|rfl|rfl <;> rfl
set_option maxRecDepth 100000 in
set_option maxHeartbeats 4000000 in
theorem all9R_any {base tb d root:Nat}{vL vP:Value}{L:List ND9}{P:List LF}{fr:Bool}(w:World)(H:T9 w base tb d root vL vP L P fr)(hl:P.length≤1000000000):
 Calls Tryz.prog 43 #[.pointer (some ⟨tb,0,none⟩)] w fun e w'=>∃ v,e=.returned v∧w'.ownsRow w.heap.size 166 4 v (allF fr P).length ((allF fr P).map putC).flatten∧Below w.heap.size w w':=by
 have HG:=hid (gone9_any w H)
 obtain ⟨c0,c1,c2,c3,c4⟩:=H.five
 have htl:=H.row.lt
 cases fr with
 | true=>
  clear H
  go_enter Tryz.func43,Tryz.ntmps43
  go_wp2_with fail
  refine (HG.out).mono ?_
  rintro e w1 ⟨rfl,rfl⟩
  go_wp2_with fail
  go_ret
  exact ⟨_,rfl,World.ownsRow_nil _ _ _ _,Below.refl _ _⟩
 | false=>
  obtain ⟨a,cap,rfl,hrk,hnil,_⟩:=own_rk H.pn (by intro r hr;obtain ⟨x,_,rfl⟩:=List.mem_map.1 hr;rfl) (by omega)
  have HNIL:=hid hnil
  have HOE:=hid (show (w.alloc (.cells #[] 166)).ownsRow w.heap.size 166 4 (.slice (some ⟨w.heap.size,0,none⟩) 0 0) 0 ([]:List (List Value)).flatten from ⟨rfl,.inr ⟨w.heap.size,0,#[],rfl,Nat.le_refl _,heap_alloc_new w _,Nat.le_refl _,Nat.zero_le _,rfl,rfl⟩⟩)
  have HRK:=hid (show Rk (w.alloc (.cells #[] 166)) 4 a P.length (P.map putC) from hrk.below' (bal _))
  have HON:=hid (show ∀ r∈P.map putC,∀ u∈r,u.oneCell'=true from fun r hr=>by obtain ⟨y,_,rfl⟩:=List.mem_map.1 hr;exact putC_one y)
  have HN1:=hid (show (0+P.length)*24≤140737488355328 by omega)
  have HN2:=hid (show 0+P.length≤maxLen by unfold maxLen;omega)
  have HN3:=hid (show w.heap.size≤(w.alloc (.cells #[] 166)).heap.size by rw [World.size_alloc];omega)
  have HBL:=hid (show Below w.heap.size w (w.alloc (.cells #[] 166)) from bal _)
  clear H hrk hnil
  go_enter Tryz.func43,Tryz.ntmps43
  go_wp2_with fail
  refine (HG.out).mono ?_
  rintro e w1 ⟨rfl,rfl⟩
  go_wp2_with (at_builtin;go_must (refine wpList_apK Tryz.underlying84 info_put9 rfl (by decide) rfl _ _ rfl w.heap.size (.slice (some ⟨w.heap.size,0,none⟩) 0 0) 0 [] (P.map putC) rfl a P.length cap rfl HOE.out HRK.out HON.out (fun h=>HNIL.out h) HN1.out HN2.out HN3.out ?_;intro v' w2 hown hgr hbw))
  have HO:=hid hown
  have HB:=hid (HBL.out.trans hbw)
  clear hown hgr hbw
  go_wp2_with fail
  go_ret
  refine ⟨_,rfl,?_,HB.out⟩
  have:=HO.out
  rw [List.nil_append,Nat.zero_add] at this
  exact this
end Go.Proofs.YtdjpjfdeeelijaaGreatDoor
