/- hostelref09: below, Nodes. -/
import Derived.Test.YtdjpjfdeeelijaaGreatDoorW12
namespace Go.Proofs.YtdjpjfdeeelijaaGreatDoor
open Go.RowKit Go.Sort Go.Shelf Go.WideMaps Go.Maps Go.WideShapes Go.WideElems Go.MapKept Go.ChangeMaps
attribute [local go_sem] Oper.semAt_some
section
variable {base tb d root:Nat}{vL vP:Value}{L:List ND9}{P:List LF}{fr:Bool}
def BelP (w:World)(l:List Nat)(e:Ending)(w':World):Prop:=∃ v,e=.returned v∧OwnN9 w' w.heap.size v l∧Below w.heap.size w w'
set_option maxRecDepth 100000 in
set_option maxHeartbeats 8000000 in
theorem below9_step (hpt:∀ x∈L,x.pt<1099511627776)(hl:L.length≤1000000)(k lv ab:Nat)(hlv:lv=k+1)(hk:k≤2)(hab:ab<1099511627776)(hlen:(belowF L (k+1) ab).length≤1000000)
 (IH:k≠0→∀ ab',ab'<1099511627776→(belowF L k ab').length≤1000000→∀ (w:World),T9 w base tb d root vL vP L P fr→Calls Tryz.prog 101 #[.pointer (some ⟨tb,0,none⟩),.int .i64 (k:Int),.int .u64 (ab':Int)] w (BelP w (belowF L k ab'))) (w:World) (H:T9 w base tb d root vL vP L P fr):
 Calls Tryz.prog 101 #[.pointer (some ⟨tb,0,none⟩),.int .i64 (lv:Int),.int .u64 (ab:Int)] w (BelP w (belowF L (k+1) ab)):=by
 obtain ⟨c,hc⟩:∃ c,c=ab*512:=⟨_,rfl⟩
 have HLV:=hid hlv
 have e0:IntKind.i64.wrap ((lv:Int)-1)=((k:Nat):Int):=by rw [IntWalk.i64_in _ (by omega)];omega
 have e3:IntKind.u64.wrap ((ab:Int)*512)=(c:Int):=by rw [IntKind.wrap_u64];omega
 have HC:=hid (show c<1099511627776*512∧c=ab*512 by omega)
 have HPT:=hid hpt
 have HLEN:=hid hlen
 have HIH:=hid IH
 have HL:=hid hl
 have HH:=hid H
 have HP1:=hid (show H.row.lt=H.row.lt from rfl)
 obtain ⟨a,cap,rfl,hrk,_⟩:=own_rk H.ln (by intro r hr;obtain ⟨x,_,rfl⟩:=List.mem_map.1 hr;rfl) (by omega)
 have HK:=hid hrk
 have HD1:=hid (show (k=0→decide (1<(lv:Int))=false)∧(k≠0→decide (1<(lv:Int))=true) by constructor <;> intro h <;> simp <;> omega)
 have HD2:=hid (show (k=0→decide (1<lv)=false)∧(k≠0→decide (1<lv)=true) by constructor <;> intro h <;> simp <;> omega)
 clear H hpt hl hlen hk hrk hlv hc hab IH HP1
 go_enter Tryz.func101,Tryz.ntmps101
 go_wp2_with fail
 go_loopw [7,8] (fun v i wr=>∃ n:Nat,n≤512∧i=.int .u64 n∧OwnN9 wr w.heap.size v (belA L k ab n 0)∧Below w.heap.size w wr) (fun _ i _=>512-(intOf i).toNat)
 case atStart=>exact ⟨0,Nat.zero_le _,rfl,World.ownsRow_nil _ _ _ _,Below.refl _ _⟩
 case round=>
  obtain ⟨n,hn,rfl,hno,hb⟩:=hrel
  have HN:=hid hno
  have HB:=hid hb
  clear hno
  by_cases hlt:n<512
  ·have d1:decide ((n:Int)<512)=true:=by simp;omega
   have d1n:decide (n<512)=true:=by simp;omega
   obtain ⟨z,hz⟩:∃ z,z=c+n:=⟨_,rfl⟩
   have e4:IntKind.u64.wrap ((c:Int)+(n:Int))=(z:Int):=by have:=HC.out;rw [IntKind.wrap_u64];omega
   have HZ:=hid (show z=ab*512+n by rw [hz,HC.out.2])
   have HNL:=hid hlt
   clear hz hb
   go_wp2_with fail
   go_loopw [7,9] (fun v i wr=>∃ q:Nat,q≤L.length∧i=.int .i64 q∧OwnN9 wr w.heap.size v (belA L k ab n q)∧Below w.heap.size w wr) (fun _ i _=>L.length-(intOf i).toNat)
   case atStart=>exact ⟨0,Nat.zero_le _,rfl,HN.out,HB.out⟩
   case round=>
    rename World=>wr
    clear HN HB
    obtain ⟨q,hq,rfl,hno,hb⟩:=hrel
    have HN:=hid hno
    have HB:=hid hb
    have hll:=HL.out
    have h1:=HH.out.below hb
    obtain ⟨c0,c1,c2,c3,c4⟩:=h1.five
    have htl:=h1.row.lt
    clear hno h1
    by_cases hqt:q<L.length
    ·have d2:decide ((q:Int)<(L.length:Int))=true:=by simp;omega
     have d2n:decide (q<L.length)=true:=by simp;omega
     have i1:(0:Int)≤(q:Int):=by omega
     have i2:(q:Int)<(L.length:Int):=by omega
     obtain ⟨b,o,rfl,hcell⟩:=(HK.out.below' hb).some_of (by simp;omega)
     have gq:=fun j hj=>hcell q (by simpa using hqt) j hj
     have e9:(L.map nd9C)[q]'(by simpa using hqt)=nd9C L[q]:=by simp
     rw [e9] at gq
     have g0:=gq 0 (by simp [nd9C])
     have g1:=gq 1 (by simp [nd9C])
     have g2:=gq 2 (by simp [nd9C])
     simp only [nd9C,List.getElem_cons_zero,List.getElem_cons_succ,Nat.add_zero] at g0 g1 g2
     have hbl:=World.block_lt_of_cell? _ _ g0
     have HST:=hid (belA_step L k ab n hqt)
     have HLE:=hid (Nat.le_trans (belA_le L k ab HNL.out hqt) HLEN.out)
     have HYP:=hid (HPT.out L[q] (List.getElem_mem hqt))
     have HKQ:=hid (fun wz (hz:Below w.heap.size w wz)=>show wz.cell? ⟨b,o+q*3+1,none⟩=some (.int .u64 (L[q].pt:Int)) by
      obtain ⟨b',o',e,hc'⟩:=(HK.out.below' hz).some_of (by simp;omega)
      cases e
      have:=hc' q (by simpa using hqt) 1 (by rw [e9];simp [nd9C])
      simpa [nd9C] using this)
     clear gq e9 hcell hb
     obtain ⟨y,hy⟩:∃ y,y=L[q]:=⟨_,rfl⟩
     rw [← hy] at g0 g1 g2 HST HLE HYP HKQ
     clear hy
     by_cases q1:y.lv=lv
     ·have e1:((y.lv:Int)==(lv:Int))=true:=by simp [q1]
      have e1':(y.lv==lv)=true:=by simp [q1]
      by_cases q2:y.pt=z
      ·have e2:((y.pt:Int)==(z:Int))=true:=by simp [q2]
       have e2':(y.pt==z)=true:=by simp [q2]
       have HG:=hid (show belG L k ab n y=y.f::belowF L k y.pt by unfold belG;rw [if_pos ⟨by rw [q1,HLV.out],by rw [q2,HZ.out]⟩])
       have HO1:=hid (show (wr.alloc (.cells #[.int .i64 (y.f:Int)] 3)).ownsRow w.heap.size 3 1 _ (belA L k ab n q).length (nR1 (belA L k ab n q)).flatten by rw [nR1_flat];exact own_below HN.out (bal _))
       have HR1:=hid (show Rk (wr.alloc (.cells #[.int .i64 (y.f:Int)] 3)) 1 (some ⟨wr.heap.size,0,none⟩) 1 (nR1 [y.f]) from rk_new wr 3 [nI9 y.f] rfl)
       have HL1:=hid (show (belA L k ab n q).length+1≤1000000 by have:=HLE.out;rw [HG.out,List.length_cons] at this;omega)
       have HS1:=hid (show ((belA L k ab n q).length+1)*8≤140737488355328 by have:=HL1.out;omega)
       have HS2:=hid (show (belA L k ab n q).length+1≤maxLen by have:=HL1.out;unfold maxLen;omega)
       have HS3:=hid (show w.heap.size≤(wr.alloc (.cells #[.int .i64 (y.f:Int)] 3)).heap.size by have:=HB.out.size;rw [World.size_alloc];omega)
       have HBA:=hid (show Below w.heap.size w (wr.alloc (.cells #[.int .i64 (y.f:Int)] 3)) from HB.out.alloc HB.out.size _)
       clear q1 q2
       by_cases hk0:k=0
       ·have hd:=HD1.out.1 hk0
        have HE:=hid (show belowF L k y.pt=[] by rw [hk0];rfl)
        clear hk0
        go_wp2_with (at_builtin;go_must (refine wpList_apK Tryz.underlying44 infoIj rfl (by decide) rfl _ _ rfl w.heap.size _ (belA L k ab n q).length (nR1 (belA L k ab n q)) (nR1 [y.f]) rfl (some ⟨wr.heap.size,0,none⟩) 1 1 rfl HO1.out HR1.out (nR1_one _) (fun h=>by cases h) HS1.out HS2.out HS3.out ?_;intro v2 w2 hown hgr hbw;have HO2:=hid (own9_app hown rfl rfl);have HB2:=hid (HBA.out.trans hbw);have h2:=HH.out.below HB2.out;obtain ⟨k0,k1,k2,k3,k4⟩:=h2.five;have kt:=h2.row.lt;have kc:=HKQ.out w2 HB2.out;have kl:=World.block_lt_of_cell? _ _ kc;clear hown hgr hbw h2))
        go_roundw
        case rel=>exact ⟨q+1,by omega,by go_num,by rw [HST.out,HG.out,HE.out];exact HO2.out,HB2.out⟩
        case measure=>simp [intOf];omega
       ·have hd:=HD1.out.2 hk0
        have HBL:=hid (show (belowF L k y.pt).length≤1000000∧(belA L k ab n q++[y.f]).length+(belowF L k y.pt).length≤1000000 by have:=HLE.out;rw [HG.out,List.length_cons] at this;rw [List.length_append,List.length_singleton];omega)
        have HC0:=hid (fun ww (hb:Below w.heap.size w ww)=>HIH.out hk0 y.pt HYP.out HBL.out.1 ww (HH.out.below hb))
        clear hk0
        go_wp2_with (at_builtin;go_must (refine wpList_apK Tryz.underlying44 infoIj rfl (by decide) rfl _ _ rfl w.heap.size _ (belA L k ab n q).length (nR1 (belA L k ab n q)) (nR1 [y.f]) rfl (some ⟨wr.heap.size,0,none⟩) 1 1 rfl HO1.out HR1.out (nR1_one _) (fun h=>by cases h) HS1.out HS2.out HS3.out ?_;intro v2 w2 hown hgr hbw;have HO2:=hid (own9_app hown rfl rfl);have HB2:=hid (HBA.out.trans hbw);have h2:=HH.out.below HB2.out;obtain ⟨k0,k1,k2,k3,k4⟩:=h2.five;have kt:=h2.row.lt;have kc:=HKQ.out w2 HB2.out;have kl:=World.block_lt_of_cell? _ _ kc;clear hown hgr hbw h2))
        have HC1:=hid (HC0.out w2 HB2.out)
        refine (HC1.out).mono ?_
        rintro e w3 ⟨v3,rfl,ho3,hb3⟩
        obtain ⟨a3,cap3,rfl,hrk3,hn3,_⟩:=own_rk (rows:=nR1 (belowF L k y.pt)) (by rw [nR1_flat];exact ho3) (by intro r hr;obtain ⟨x,_,rfl⟩:=List.mem_map.1 hr;rfl) (by omega)
        have HR3:=hid hrk3
        have HN3:=hid hn3
        have HO3:=hid (show w3.ownsRow w.heap.size 3 1 v2 (belA L k ab n q++[y.f]).length (nR1 (belA L k ab n q++[y.f])).flatten by rw [nR1_flat];exact own_below HO2.out hb3)
        have HB3:=hid (HB2.out.trans (hb3.mono HB2.out.size))
        have HT1:=hid (show ((belA L k ab n q++[y.f]).length+(belowF L k y.pt).length)*8≤140737488355328 by have:=HBL.out.2;omega)
        have HT2:=hid (show (belA L k ab n q++[y.f]).length+(belowF L k y.pt).length≤maxLen by have:=HBL.out.2;unfold maxLen;omega)
        have HT3:=hid (show w.heap.size≤w3.heap.size from HB3.out.size)
        clear ho3 hb3 hrk3 hn3 k0 k1 k2 k3 k4 kt kc kl
        go_wp2_with (at_builtin;go_must (refine wpList_apK Tryz.underlying44 infoIj rfl (by decide) rfl _ _ rfl w.heap.size v2 (belA L k ab n q++[y.f]).length (nR1 (belA L k ab n q++[y.f])) (nR1 (belowF L k y.pt)) rfl a3 (belowF L k y.pt).length cap3 rfl HO3.out HR3.out (nR1_one _) HN3.out HT1.out HT2.out HT3.out ?_;intro v4 w4 hown hgr hbw;have HO4:=hid (own9_app hown rfl rfl);have HB4:=hid (HB3.out.trans hbw);clear hown hgr hbw))
        go_roundw
        case rel=>exact ⟨q+1,by omega,by go_num,by rw [HST.out,HG.out];have:=HO4.out;rw [List.append_assoc] at this;exact this,HB4.out⟩
        case measure=>simp [intOf];omega
      ·have e2:((y.pt:Int)==(z:Int))=false:=by simp only [beq_eq_false_iff_ne,ne_eq];omega
       have HG:=hid (show belG L k ab n y=[] by unfold belG;rw [if_neg fun h=>q2 (by rw [h.2,HZ.out])])
       clear q1 q2
       go_wp2_with fail
       go_roundw
       case rel=>exact ⟨q+1,by omega,by go_num,by rw [HST.out,HG.out,List.append_nil];exact HN.out,HB.out⟩
       case measure=>simp [intOf];omega
     ·have e1:((y.lv:Int)==(lv:Int))=false:=by simp only [beq_eq_false_iff_ne,ne_eq];omega
      have e1':(y.lv==lv)=false:=by simpa using q1
      have HG:=hid (show belG L k ab n y=[] by unfold belG;rw [if_neg fun h=>q1 (by rw [h.1,HLV.out])])
      clear q1
      go_wp2_with fail
      go_roundw
      case rel=>exact ⟨q+1,by omega,by go_num,by rw [HST.out,HG.out,List.append_nil];exact HN.out,HB.out⟩
      case measure=>simp [intOf];omega
    ·have d2:decide ((q:Int)<(L.length:Int))=false:=by simp;omega
     have d2n:decide (q<L.length)=false:=by simp;omega
     obtain rfl:q=L.length:=by omega
     have hn1:(n:Int)+1=((n+1:Nat):Int):=rfl
     clear hn1
     go_wp2_with fail
     go_roundw
     case rel=>exact ⟨n+1,by have:=HNL.out;omega,by go_num,by rw [← belA_next];exact HN.out,HB.out⟩
     case measure=>have:=HNL.out;simp [intOf];omega
  ·have d1:decide ((n:Int)<512)=false:=by simp;omega
   have d1n:decide (n<512)=false:=by simp;omega
   obtain rfl:n=512:=by omega
   go_wp2_with fail
   go_ret
   exact ⟨_,rfl,by rw [belowF_succ];have:=HN.out;unfold belA at this;rw [List.take_zero,List.flatMap_nil,List.append_nil] at this;exact this,HB.out⟩
theorem below9_any (hpt:∀ x∈L,x.pt<1099511627776)(hl:L.length≤1000000):∀ (k ab:Nat),k≤2→ab<1099511627776→(belowF L (k+1) ab).length≤1000000→∀ (w:World),T9 w base tb d root vL vP L P fr→
 Calls Tryz.prog 101 #[.pointer (some ⟨tb,0,none⟩),.int .i64 ((k+1:Nat):Int),.int .u64 (ab:Int)] w (BelP w (belowF L (k+1) ab)):=by
 intro k
 induction k with
 | zero=>exact fun ab _ hab hlen w H=>below9_step hpt hl 0 1 ab rfl (by omega) hab hlen (fun h=>absurd rfl h) w H
 | succ k ih=>exact fun ab hk hab hlen w H=>below9_step hpt hl (k+1) (k+1+1) ab rfl hk hab hlen (fun _ ab' h1 h2 w' H'=>ih ab' (by omega) h1 h2 w' H') w H
set_option maxRecDepth 100000 in
set_option maxHeartbeats 4000000 in
theorem nodes9R_any (hpt:∀ x∈L,x.pt<1099511627776)(hl:L.length≤1000000)(hlen:(belowF L 3 0).length≤100000)(w:World)(H:T9 w base tb d root vL vP L P fr):
 Calls Tryz.prog 46 #[.pointer (some ⟨tb,0,none⟩)] w (BelP w (if fr=true then [] else root::belowF L 3 0)):=by
 have HG:=hid (gone9_any w H)
 obtain ⟨c0,c1,c2,c3,c4⟩:=H.five
 have htl:=H.row.lt
 cases fr with
 | true=>
  rw [if_pos rfl]
  clear H
  go_enter Tryz.func46,Tryz.ntmps46
  go_wp2_with fail
  refine (HG.out).mono ?_
  rintro e w1 ⟨rfl,rfl⟩
  go_wp2_with fail
  go_ret
  exact ⟨_,rfl,World.ownsRow_nil _ _ _ _,Below.refl _ _⟩
 | false=>
  rw [if_neg (by decide)]
  obtain ⟨w1,hw1⟩:∃ w1,w1=w.alloc (.cells #[.int .i64 (root:Int)] 3):=⟨_,rfl⟩
  have HB1:=hid (show Below w.heap.size w w1 by rw [hw1];exact bal _)
  have HH:=hid H
  have HC:=hid (fun ww (hb:Below w.heap.size w ww)=>below9_any hpt hl 2 0 (by omega) (by omega) (show (belowF L 3 0).length≤1000000 by omega) ww (H.below hb))
  have HLEN:=hid hlen
  clear H hw1 hpt hl hlen
  go_enter Tryz.func46,Tryz.ntmps46
  go_wp2_with fail
  refine (HG.out).mono ?_
  rintro e w2 ⟨rfl,rfl⟩
  go_wp2_with fail
  have hS:Below w.heap.size w w.drew:=bdN (Below.refl _ _) 1
  refine region_sk 8 (fun ww:World=>Below w.heap.size w ww) (by kernel_rfl) (fun inv=>?_)
  refine sk_take (i:=0) (v:=?_) (some 5) rfl rfl (by kernel_rfl) (by kernel_rfl) (by decide) (by decide) inv (by kernel_rfl) (by kernel_rfl) (fun _ _ _ h=>h) (Or.inl ⟨by rfl,?_⟩) hS (fun inv=>?_)
  rotate_left
  ·intro ww hSw
   have k1:=(HH.out.below hSw).five.2.1
   have kt:=(HH.out.below hSw).row.lt
   go_simp
   try with_reducible rfl
  simp only [Act.put,List.setIfInBounds_toArray,List.set_cons_zero,List.set_cons_succ]
  refine sk_take (i:=1) (v:=?_) (some 6) rfl rfl (by kernel_rfl) (by kernel_rfl) (by decide) (by decide) inv (by kernel_rfl) (by kernel_rfl) (fun _ _ _ h=>h) (Or.inl ⟨by rfl,?_⟩) hS (fun inv=>?_)
  rotate_left
  ·intro ww hSw
   have k1:=(HH.out.below hSw).five.2.1
   have kt:=(HH.out.below hSw).row.lt
   go_simp
   try with_reducible rfl
  simp only [Act.put,List.setIfInBounds_toArray,List.set_cons_zero,List.set_cons_succ]
  refine sk_take (i:=2) (v:=?_) (some 7) rfl rfl (by kernel_rfl) (by kernel_rfl) (by decide) (by decide) inv (by kernel_rfl) (by kernel_rfl) (fun _ _ _ h=>h) (Or.inl ⟨by rfl,?_⟩) hS (fun inv=>?_)
  rotate_left
  ·intro ww hSw
   have k1:=(HH.out.below hSw).five.2.1
   have kt:=(HH.out.below hSw).row.lt
   go_simp
   try with_reducible rfl
  simp only [Act.put,List.setIfInBounds_toArray,List.set_cons_zero,List.set_cons_succ]
  refine sk_take (i:=3) (v:=?_) (some 8) rfl rfl (by kernel_rfl) (by kernel_rfl) (by decide) (by decide) inv (by kernel_rfl) (by kernel_rfl) (fun _ _ _ h=>h) (Or.inl ⟨by rfl,?_⟩) hS (fun inv=>?_)
  rotate_left
  ·intro ww hSw
   have k1:=(HH.out.below hSw).five.2.1
   have kt:=(HH.out.below hSw).row.lt
   go_simp
   try with_reducible rfl
  simp only [Act.put,List.setIfInBounds_toArray,List.set_cons_zero,List.set_cons_succ]
  refine sk_take (i:=5) (v:=?_) (some 10) rfl rfl (by kernel_rfl) (by kernel_rfl) (by decide) (by decide) inv (by kernel_rfl) (by kernel_rfl) (fun _ _ _ h=>h) (Or.inl ⟨by rfl,?_⟩) hS (fun inv=>?_)
  rotate_left
  ·intro ww hSw
   have k1:=(HH.out.below hSw).five.2.1
   have kt:=(HH.out.below hSw).row.lt
   go_simp
   try with_reducible rfl
  simp only [Act.put,List.setIfInBounds_toArray,List.set_cons_zero,List.set_cons_succ]
  refine sk_two (i:=4) (j:=6) (by kernel_rfl) rfl rfl inv (fun K hK=>?_) (fun K hK=>?_)
  ·rw [if_pos (by rfl)]
   go_simp
   obtain ⟨w2,hw2⟩:∃ w2,w2=(w.alloc (.cells #[.int .i64 (root:Int)] 3)).drew:=⟨_,rfl⟩
   have HB2:=hid (show Below w.heap.size w w2 by rw [hw2];exact bdN (bal _) 1)
   have HO2:=hid (show w2.ownsRow w.heap.size 3 1 (.slice (some ⟨w.heap.size,0,none⟩) 1 1) 1 [nI9 root] by
    rw [hw2]
    exact ⟨rfl,.inr ⟨w.heap.size,1,#[nI9 root],rfl,Nat.le_refl _,heap_alloc_new w _,Nat.le_refl _,by decide,rfl,rfl⟩⟩)
   have hS:Below w.heap.size w w2:=HB2.out
   rw [← hw2]
   clear hw2
   refine hK.out _ _ (fun _=>hS) (fun inv=>?_)
   have inv:=inv (by decide)
   clear hK K
   try simp only [Act.put,List.setIfInBounds_toArray,List.set_cons_zero,List.set_cons_succ]
   refine sk_one (i:=6) (by kernel_rfl) rfl inv (fun K hK=>?_)
   rw [if_pos (by rfl)]
   go_simp
   refine (HC.out w2 HB2.out).mono ?_
   rintro e' w3 ⟨v3,rfl,ho3,hb3⟩
   obtain ⟨a3,cap3,rfl,hrk3,hn3,_⟩:=own_rk (rows:=nR1 (belowF L 3 0)) (by rw [nR1_flat];exact ho3) (by intro r hr;obtain ⟨x,_,rfl⟩:=List.mem_map.1 hr;rfl) (by omega)
   have HBZ:=hid (show Below w.heap.size w w3 from HB2.out.trans (hb3.mono HB2.out.size))
   have HO1:=hid (own_below HO2.out hb3)
   have HN3:=hid (show ∀ ad,a3=some ad→∀ j u,((belowF L 3 0).map nI9)[j]?=some u→w3.cell? (ad.add j)=some u from fun ad e=>by
    subst e
    rw [← nR1_flat]
    exact hrk3.news (by decide))
   have HZ3:=hid (show a3=none→(belowF L 3 0).length=0∧cap3=0 from fun h=>by
    refine ⟨?_,hn3 h⟩
    subst h
    cases hl:belowF L 3 0 with
    | nil=>rfl
    | cons x l=>
     rw [hl] at hrk3
     obtain ⟨_,_,h,_⟩:=hrk3.some_of (by simp [nR1])
     cases h)
   have hS:Below w.heap.size w w3:=HBZ.out
   clear ho3 hb3 hrk3 hn3
   refine hK.out _ _ (fun _=>hS) (fun inv=>?_)
   have inv:=inv (by decide)
   clear hK K
   try simp only [Act.put,List.setIfInBounds_toArray,List.set_cons_zero,List.set_cons_succ]
   obtain ⟨i0,hi0,hz0,hz1,hz2⟩:=info_parts infoIj
   refine sk_one (i:=7) (by kernel_rfl) rfl inv (fun K hK=>?_)
   refine step_apO (by rfl) _ _ 44 (by rfl) w.heap.size 3 i0 _ 1 8 Tryz.underlying44 hi0 hz0 hz1 hz2 rfl (by decide) (.slice (some ⟨w.heap.size,0,none⟩) 1 1) 1 [nI9 root] (by rfl) HO1.out a3 (belowF L 3 0).length cap3 (by rfl) ((belowF L 3 0).map nI9) (by simp) HN3.out (fun h=>HZ3.out h) (by rw [← nR1_flat];exact rk_one (nR1_one _)) (by have:=HLEN.out;unfold maxLen;omega) (by have:=HLEN.out;omega) HBZ.out.size ?_
   intro v4 w4 hown hgrow
   have HO4:=hid hown
   have HB4:=hid ((EX.of_grown hgrow (fun k e _=>e):EX (fun k=>(Value.slice (some ⟨w.heap.size,0,none⟩) 1 1).ownBlock=some k) w3 w4).below HBZ.out (fun k e=>own_low HO1.out (Nat.le_refl _) k e) HBZ.out.size)
   have hS:Below w.heap.size w w4:=HB4.out
   clear hown hgrow
   refine hK.out _ _ (fun _=>hS) (fun inv=>?_)
   have inv:=inv (by decide)
   clear hK K
   try simp only [Act.put,List.setIfInBounds_toArray]
   refine sk_one (i:=8) (by kernel_rfl) rfl inv (fun K hK=>?_)
   rw [if_pos (by rfl)]
   go_simp
   refine hK.out _ _ (fun h=>absurd h (by decide)) (fun _=>?_)
   clear hK K
   refine sk_done (by kernel_rfl) ?_ _
   go_wp2_with fail
   go_ret
   exact ⟨_,rfl,own_ext HO4.out (by rw [List.length_cons];omega) rfl,HB4.out⟩
  ·rw [if_pos (by rfl)]
   go_simp
   refine (HC.out w.drew hS).mono ?_
   rintro e' w3 ⟨v3,rfl,ho3,hb3⟩
   obtain ⟨a3,cap3,rfl,hrk3,hn3,_⟩:=own_rk (rows:=nR1 (belowF L 3 0)) (by rw [nR1_flat];exact ho3) (by intro r hr;obtain ⟨x,_,rfl⟩:=List.mem_map.1 hr;rfl) (by omega)
   have HB3:=hid (show Below w.heap.size w w3 from hS.trans (hb3.mono hS.size))
   have HN2:=hid (show ∀ ad,a3=some ad→∀ j u,((belowF L 3 0).map nI9)[j]?=some u→w3.cell? (ad.add j)=some u from fun ad e=>by
    subst e
    rw [← nR1_flat]
    exact hrk3.news (by decide))
   have HRK:=hid hrk3
   have HZ3:=hid (show a3=none→(belowF L 3 0).length=0∧cap3=0 from fun h=>by
    refine ⟨?_,hn3 h⟩
    subst h
    cases hl:belowF L 3 0 with
    | nil=>rfl
    | cons x l=>
     rw [hl] at hrk3
     obtain ⟨_,_,h,_⟩:=hrk3.some_of (by simp [nR1])
     cases h)
   have hS:Below w.heap.size w w3:=HB3.out
   clear ho3 hb3 hrk3 hn3
   refine hK.out _ _ (fun _=>hS) (fun inv=>?_)
   have inv:=inv (by decide)
   clear hK K
   try simp only [Act.put,List.setIfInBounds_toArray,List.set_cons_zero,List.set_cons_succ]
   refine sk_one (i:=4) (by kernel_rfl) rfl inv (fun K hK=>?_)
   rw [if_pos (by rfl)]
   go_simp
   obtain ⟨w2,hw2⟩:∃ w2,w2=w3.alloc (.cells #[.int .i64 (root:Int)] 3):=⟨_,rfl⟩
   have HBZ:=hid (show Below w.heap.size w w2 by rw [hw2];exact HB3.out.alloc HB3.out.size _)
   have HO1:=hid (show w2.ownsRow w.heap.size 3 1 (.slice (some ⟨w3.heap.size,0,none⟩) 1 1) 1 [nI9 root] by
    rw [hw2]
    exact ⟨rfl,.inr ⟨w3.heap.size,1,#[nI9 root],rfl,HB3.out.size,heap_alloc_new w3 _,Nat.le_refl _,by decide,rfl,rfl⟩⟩)
   have HN3:=hid (show ∀ ad,a3=some ad→∀ j u,((belowF L 3 0).map nI9)[j]?=some u→w2.cell? (ad.add j)=some u from fun ad e=>by
    subst e
    rw [← nR1_flat,hw2]
    exact (HRK.out.below' (bal _)).news (by decide))
   have hS:Below w.heap.size w w2:=HBZ.out
   rw [← hw2]
   clear hw2
   refine hK.out _ _ (fun _=>hS) (fun inv=>?_)
   have inv:=inv (by decide)
   clear hK K
   try simp only [Act.put,List.setIfInBounds_toArray,List.set_cons_zero,List.set_cons_succ]
   obtain ⟨i0,hi0,hz0,hz1,hz2⟩:=info_parts infoIj
   refine sk_one (i:=7) (by kernel_rfl) rfl inv (fun K hK=>?_)
   refine step_apO (by rfl) _ _ 44 (by rfl) w.heap.size 3 i0 _ 1 8 Tryz.underlying44 hi0 hz0 hz1 hz2 rfl (by decide) (.slice (some ⟨w3.heap.size,0,none⟩) 1 1) 1 [nI9 root] (by rfl) HO1.out a3 (belowF L 3 0).length cap3 (by rfl) ((belowF L 3 0).map nI9) (by simp) HN3.out (fun h=>HZ3.out h) (by rw [← nR1_flat];exact rk_one (nR1_one _)) (by have:=HLEN.out;unfold maxLen;omega) (by have:=HLEN.out;omega) HBZ.out.size ?_
   intro v4 w4 hown hgrow
   have HO4:=hid hown
   have HB4:=hid ((EX.of_grown hgrow (fun k e _=>e):EX (fun k=>(Value.slice (some ⟨w3.heap.size,0,none⟩) 1 1).ownBlock=some k) w2 w4).below HBZ.out (fun k e=>own_low HO1.out (Nat.le_refl _) k e) HBZ.out.size)
   have hS:Below w.heap.size w w4:=HB4.out
   clear hown hgrow
   refine hK.out _ _ (fun _=>hS) (fun inv=>?_)
   have inv:=inv (by decide)
   clear hK K
   try simp only [Act.put,List.setIfInBounds_toArray]
   refine sk_one (i:=8) (by kernel_rfl) rfl inv (fun K hK=>?_)
   rw [if_pos (by rfl)]
   go_simp
   refine hK.out _ _ (fun h=>absurd h (by decide)) (fun _=>?_)
   clear hK K
   refine sk_done (by kernel_rfl) ?_ _
   go_wp2_with fail
   go_ret
   exact ⟨_,rfl,own_ext HO4.out (by rw [List.length_cons];omega) rfl,HB4.out⟩
end
end Go.Proofs.YtdjpjfdeeelijaaGreatDoor
