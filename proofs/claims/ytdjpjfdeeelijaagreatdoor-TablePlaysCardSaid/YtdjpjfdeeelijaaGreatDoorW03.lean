/- Merged: F6 F8 F9. vfs: Walk. vfs: the parts of an entry's path. -/
import Derived.Test.YtdjpjfdeeelijaaGreatDoorW02
import Derived.Test.YtdjpjfdeeelijaaGreatDoorShelf
import Derived.Maps.AppendAt
import Derived.Laws.AppendOwnNone
import Derived.BigRegion
import Derived.RegionTactic
import Derived.Deep.RegionWith
namespace Go.Proofs.YtdjpjfdeeelijaaGreatDoor
open Go.RowKit Go.Sort
/-- An entry. -/
structure EN where
 path:BL
 kind:Int
 mode:Int
 uid:Int
 gid:Int
 a:Option Addr
 c:Nat
 data:BL
 to:BL
def EN.cs (x:EN):List Value:=[.string (ba x.path),.int .u8 x.kind,.int .u16 x.mode,.int .u32 x.uid,.int .u32 x.gid,.slice x.a x.data.length x.c,.string (ba x.to)]
structure EnOk (w:World)(x:EN):Prop where
 byt:Byt w x.a x.data.length x.data
 nil:x.a=none→x.c=0
 path:x.path.length≤1000000
 to:x.to.length≤1000000
 data:x.data.length≤1000000
 mode:0≤x.mode∧x.mode≤65535
theorem EnOk.below {w w':World}{x:EN}(h:EnOk w x)(hb:Below w.heap.size w w'):EnOk w' x:=⟨h.byt.below' hb,h.nil,h.path,h.to,h.data,h.mode⟩
theorem Row.seven {w:World}{g:Nat}{E:TypeId}{a b c d e f i:Value}(h:Row w g E [a,b,c,d,e,f,i]):w.cell? ⟨g,0,none⟩=some a∧w.cell? ⟨g,1,none⟩=some b∧w.cell? ⟨g,2,none⟩=some c∧w.cell? ⟨g,3,none⟩=some d∧w.cell? ⟨g,4,none⟩=some e∧w.cell? ⟨g,5,none⟩=some f∧w.cell? ⟨g,6,none⟩=some i:=
 ⟨h.cell 0 (by simp),h.cell 1 (by simp),h.cell 2 (by simp),h.cell 3 (by simp),h.cell 4 (by simp),h.cell 5 (by simp),h.cell 6 (by simp)⟩
def rightK (x:EN):Bool:=if x.kind=1 then decide (x.to=[]) else if x.kind=2 then decide (x.to=[])&&decide (x.data=[]) else if x.kind=3 then decide (x.data=[])&&decide (chkE x.to=0) else false
theorem len_zero {α:Type} [DecidableEq α] (l:List α):((l.length:Int)==0)=decide (l=[]):=by
 cases l with
 | nil=>rfl
 | cons a l=>simp;omega
set_option maxHeartbeats 2000000 in
theorem rightKind_any (x:EN)(w:World)(hx:EnOk w x):
 Calls Tryz.prog 124 #[.agg x.cs.toArray] w fun e w'=>e=.returned (.bool (rightK x))∧Below w.heap.size w w':=by
 have HB0:=hid (show Below w.heap.size w (w.alloc (.cells x.cs.toArray 131)) from bal _)
 have ht:=ba_nil (ba x.to)
 rw [show (ba x.to).data.toList=x.to from rfl] at ht
 have hl:=len_zero x.data
 have HT:=hid hx.to
 obtain ⟨path,kind,mode,uid,gid,a,c,data,to⟩:=x
 unfold EN.cs at HB0 ⊢
 dsimp only at ht hl HT HB0 ⊢
 by_cases h1:kind=1
 ·subst h1
  have HR:=hid (show rightK ⟨path,1,mode,uid,gid,a,c,data,to⟩=decide (to=[]) from rfl)
  clear hl hx
  generalize decide (to=[])=tb at *
  go_enter Tryz.func124,Tryz.ntmps124
  go_wp2_with fail
  go_ret
  exact ⟨ret_bool HR.out.symm,HB0.out⟩
 ·have k1:(kind==1)=false:=by simpa using h1
  by_cases h2:kind=2
  ·subst h2
   have HR:=hid (show rightK ⟨path,2,mode,uid,gid,a,c,data,to⟩=(decide (to=[])&&decide (data=[])) from rfl)
   clear h1 hx
   generalize decide (data=[])=db at *
   cases htb:decide (to=[])
   ·rw [htb] at ht HR
    clear htb
    go_enter Tryz.func124,Tryz.ntmps124
    go_wp2_with fail
    go_ret
    exact ⟨ret_bool HR.out.symm,HB0.out⟩
   ·rw [htb] at ht HR
    clear htb
    go_enter Tryz.func124,Tryz.ntmps124
    go_wp2_with fail
    go_ret
    exact ⟨ret_bool (by rw [HR.out];simp),HB0.out⟩
  ·have k2:(kind==2)=false:=by simpa using h2
   by_cases h3:kind=3
   ·subst h3
    have HR:=hid (show rightK ⟨path,3,mode,uid,gid,a,c,data,to⟩=(decide (data=[])&&decide (chkE to=0)) from rfl)
    have HCK:=hid (fun (wr:World)=>check_any (ba to) wr (by rw [ba_size];exact HT.out))
    clear h1 h2 hx ht
    cases hdb:decide (data=[])
    ·rw [hdb] at hl HR
     clear hdb
     go_enter Tryz.func124,Tryz.ntmps124
     go_wp2_with fail
     go_ret
     exact ⟨ret_bool HR.out.symm,HB0.out⟩
    ·rw [hdb] at hl HR
     clear hdb
     go_enter Tryz.func124,Tryz.ntmps124
     go_wp2_with fail
     refine (HCK.out _).mono ?_
     rintro e' w1 ⟨rfl,hb⟩
     rw [show (ba to).data.toList=to from rfl]
     have HB1:=hid (bthen HB0.out hb)
     clear hb
     by_cases hc:chkE to=0
     ·rw [hc]
      have HD:=hid (decide_eq_true hc)
      clear hc
      go_wp2_with fail
      go_ret
      exact ⟨ret_bool (by rw [HR.out,HD.out];rfl),HB1.out⟩
     ·have hc':(chkE to==0)=false:=by simpa using hc
      have HD:=hid (decide_eq_false hc)
      clear hc
      go_wp2_with fail
      go_ret
      exact ⟨ret_bool (by rw [HR.out,HD.out];rfl),HB1.out⟩
   ·have k3:(kind==3)=false:=by simpa using h3
    have HR:=hid (show rightK ⟨path,kind,mode,uid,gid,a,c,data,to⟩=false by unfold rightK;dsimp only;rw [if_neg h1,if_neg h2,if_neg h3])
    clear h1 h2 h3 hx ht hl
    go_enter Tryz.func124,Tryz.ntmps124
    go_wp2_with fail
    go_ret
    exact ⟨ret_bool HR.out.symm,HB0.out⟩
def pathJ (ds:List BL):BL:=47::Lib.join ds [47]
theorem join_len (ds:List BL)(h:∀ p∈ds,p.length≤1000):(Lib.join ds [47]).length≤ds.length*1001:=by
 induction ds with
 | nil=>simp [Lib.join]
 | cons x l ih=>
  have h1:=h x (List.mem_cons_self ..)
  have h2:=ih (fun p hp=>h p (List.mem_cons_of_mem _ hp))
  cases l with
  | nil=>simp [Lib.join];omega
  | cons y l=>
   rw [Lib.join_cons] at h2 ⊢
   simp only [Lib.joinTail,List.map_cons,List.flatten_cons,List.length_append,List.length_cons,List.length_nil] at h2 ⊢
   omega
theorem pathOf_any (a:Option Addr)(ds:List BL)(c:Nat)(w:World)(hC:Cel w a ds.length (strs ds))(hc:ds.length≤c)(hn:ds.length≤1000)(hs:∀ p∈ds,p.length≤1000):
 Calls Tryz.prog 112 #[.slice a ds.length c] w fun e w'=>e=.returned (.string (ba (pathJ ds)))∧Below w.heap.size w w':=by
 cases hd:ds with
 | nil=>
  subst hd
  have hj:=Tryz.strings_Join_none a c (ByteArray.mk #[47])
  go_enter Tryz.func112,Tryz.ntmps112
  go_wp2_with fail
  refine (hj _).mono ?_
  rintro e' w1 ⟨rfl,rfl⟩
  clear hj
  go_wp2_with fail
  go_ret
  exact ⟨rfl,Below.refl _ _⟩
 | cons p l=>
  rw [← hd]
  obtain ⟨b,o,rfl,hcell⟩:=hC.some_of (by rw [hd];simp [strs])
  have hat:∀ (j:Nat) x,(ds.map ba)[j]?=some x→w.cell? ⟨b,o+j,none⟩=some (.string x):=by
   intro j x hj
   obtain ⟨hj1,rfl⟩:=List.getElem?_eq_some_iff.1 hj
   have:=hcell j (by simpa [strs] using hj1)
   rw [this];simp [strs]
  have hlt:=World.block_lt_of_cell? w _ (hcell 0 (by rw [hd];simp [strs]))
  have e1:(ds.map ba).map (fun s:ByteArray=>s.data.toList)=ds:=by rw [List.map_map];exact List.map_id'' (fun _=>rfl) ds
  have hjl:=join_len ds hs
  have hj:=Tryz.strings_Join b o c (ds.map ba) (ByteArray.mk #[47]) w hat hlt (by simp;omega) (by simpa using hc) (by
   rw [e1];show (Lib.join ds [47]).length≤_
   have:ds.length*1001≤1000*1001:=Nat.mul_le_mul_right _ hn
   omega)
  rw [e1,show (ByteArray.mk #[47]).data.toList=[47] from rfl,List.length_map] at hj
  have HJ:=hid hj
  clear hj hat e1 hcell hC hd
  go_enter Tryz.func112,Tryz.ntmps112
  go_wp2_with fail
  refine (HJ.out).mono ?_
  rintro e' w1 ⟨rfl,hb⟩
  have HB:=hid hb
  clear hb
  go_wp2_with fail
  go_ret
  exact ⟨by unfold pathJ;rfl,HB.out⟩
theorem Row.nine {w:World}{g:Nat}{E:TypeId}{a b c d e f i j k:Value}(h:Row w g E [a,b,c,d,e,f,i,j,k]):(w.cell? ⟨g,0,none⟩=some a∧w.cell? ⟨g,1,none⟩=some b∧w.cell? ⟨g,2,none⟩=some c∧w.cell? ⟨g,3,none⟩=some d∧w.cell? ⟨g,4,none⟩=some e)∧w.cell? ⟨g,5,none⟩=some f∧w.cell? ⟨g,6,none⟩=some i∧w.cell? ⟨g,7,none⟩=some j∧w.cell? ⟨g,8,none⟩=some k:=
 ⟨⟨h.cell 0 (by simp),h.cell 1 (by simp),h.cell 2 (by simp),h.cell 3 (by simp),h.cell 4 (by simp)⟩,h.cell 5 (by simp),h.cell 6 (by simp),h.cell 7 (by simp),h.cell 8 (by simp)⟩
set_option maxHeartbeats 2000000 in
theorem newRoot_any (w:World):
 Calls Tryz.prog 66 #[] w fun e w'=>e=.returned (.pointer (some ⟨w.heap.size+2,0,none⟩))∧Row w' (w.heap.size+2) 129 [.int .i64 0,.string (ba [47]),.pointer (some ⟨w.heap.size+2,0,none⟩),.int .u8 2,.int .u16 493,.int .u32 0,.int .u32 0,.int .i64 0,.map (some (w.heap.size+1))]∧NMap w' (w.heap.size+1) []∧Below w.heap.size w w'∧w'.heap.size=w.heap.size+3:=by
 have hmm:=@run_makeMap Tryz.prog
 have HB1:=hid (show Below w.heap.size w (w.alloc (.cells #[.int .u8 2,.int .u16 493,.int .u32 0,.int .u32 0,.int .i64 0] 124)) from bal _)
 have HM:=hid (NMap.made (w.alloc (.cells #[.int .u8 2,.int .u16 493,.int .u32 0,.int .u32 0,.int .i64 0] 124)))
 have HB2:=hid (HB1.out.alloc (by simp) (.map #[] 0))
 go_enter Tryz.func66,Tryz.ntmps66
 go_wp2_with fail
 go_ret
 have hrow:=Row.new ((w.alloc (.cells #[.int .u8 2,.int .u16 493,.int .u32 0,.int .u32 0,.int .i64 0] 124)).alloc (.map #[] 0)) 129 [.int .i64 0,.string (ba [47]),.pointer (some ⟨w.heap.size+2,0,none⟩),.int .u8 2,.int .u16 493,.int .u32 0,.int .u32 0,.int .i64 0,.map (some (w.heap.size+1))]
 simp only [World.size_alloc] at hrow
 refine ⟨rfl,hrow,?_,?_,?_⟩
 ·have:=HM.out.below ((bal _:Below _ _ ((((w.alloc (.cells #[.int .u8 2,.int .u16 493,.int .u32 0,.int .u32 0,.int .i64 0] 124)).alloc (.map #[] 0))).alloc (.cells #[.int .i64 0,.string (ba [47]),.pointer (some ⟨w.heap.size+2,0,none⟩),.int .u8 2,.int .u16 493,.int .u32 0,.int .u32 0,.int .i64 0,.map (some (w.heap.size+1))] 129))))
  rw [World.size_alloc] at this
  exact this
 ·exact HB2.out.alloc (by simp;omega) _
 ·simp
def headC (x:EN)(i:Int)(path:BL)(pb:Nat):List Value:=[.int .i64 i,.string (ba path),.pointer (some ⟨pb,0,none⟩),.int .u8 x.kind,.int .u16 x.mode,.int .u32 x.uid,.int .u32 x.gid,.int .i64 x.data.length]
structure NewAt (w w':World)(x:EN)(i:Int)(path:BL)(pb b m:Nat):Prop where
 lo:w.heap.size≤b
 hi:b<w'.heap.size
 dir:x.kind=2→Row w' b 129 (headC x i path pb++[.map (some m)])∧NMap w' m []∧w.heap.size≤m
 link:x.kind=3→Row w' b 215 (headC x i path pb++[.string (ba x.to)])
 file:x.kind≠2→x.kind≠3→∃ v,Row w' b 204 (headC x i path pb++[v])∧w'.ownsRow w.heap.size 5 1 v x.data.length (x.data.map B8)
def NewPost (w:World)(x:EN)(i:Int)(path:BL)(pb:Nat)(e:Ending)(w':World):Prop:=∃ b m,e=.returned (ndV (ndT x.kind,b))∧NewAt w w' x i path pb b m∧Below w.heap.size w w'
set_option maxHeartbeats 2000000 in
theorem newNode_dir (x:EN)(i:Int)(path:BL)(pb:Nat)(w:World)(hx:EnOk w x)(hk:x.kind=2):
 Calls Tryz.prog 113 #[.agg x.cs.toArray,.agg #[.int .i64 i,.string (ba path),.pointer (some ⟨pb,0,none⟩),.int .u8 0,.int .u16 0,.int .u32 0,.int .u32 0,.int .i64 0]] w (NewPost w x i path pb):=by
 have hmm:=@run_makeMap Tryz.prog
 have HX:=hid hx
 have HB1:=hid (show Below w.heap.size w (w.alloc (.cells x.cs.toArray 131)) from bal _)
 clear hx
 unfold EN.cs at HB1 ⊢
 have k2:(x.kind==2)=true:=by rw [hk];rfl
 have HK:=hid hk
 clear hk
 go_enter Tryz.func113,Tryz.ntmps113
 go_wp2_with fail
 go_ret
 refine ⟨w.heap.size+1+1+1,w.heap.size+1+1,?_,?_,?_⟩
 ·rw [HK.out];rfl
 ·refine ⟨by omega,by simp,fun _=>⟨?_,?_,by omega⟩,fun h=>(by rw [HK.out] at h;cases h),fun h=>absurd HK.out h⟩
  ·have:=Row.new (((w.alloc (.cells x.cs.toArray 131)).alloc (.cells (headC x i path pb).toArray 126)).alloc (.map #[] 0)) 129 (headC x i path pb++[.map (some (w.heap.size+1+1))])
   simp only [World.size_alloc] at this
   exact this
  ·have h1:=NMap.made ((w.alloc (.cells x.cs.toArray 131)).alloc (.cells (headC x i path pb).toArray 126))
   have h2:=h1.below (bal (.cells (headC x i path pb++[Value.map (some (w.heap.size+1+1))]).toArray 129))
   simp only [World.size_alloc] at h2
   exact h2
 ·exact ((((bal _).alloc (by simp) _).alloc (by simp;omega) _).alloc (by simp;omega) _)
set_option maxHeartbeats 2000000 in
theorem newNode_link (x:EN)(i:Int)(path:BL)(pb:Nat)(w:World)(hx:EnOk w x)(hk:x.kind=3):
 Calls Tryz.prog 113 #[.agg x.cs.toArray,.agg #[.int .i64 i,.string (ba path),.pointer (some ⟨pb,0,none⟩),.int .u8 0,.int .u16 0,.int .u32 0,.int .u32 0,.int .i64 0]] w (NewPost w x i path pb):=by
 have hmm:=@run_makeMap Tryz.prog
 have HX:=hid hx
 have HB1:=hid (show Below w.heap.size w (w.alloc (.cells x.cs.toArray 131)) from bal _)
 clear hx
 unfold EN.cs at HB1 ⊢
 have k2:(x.kind==2)=false:=by rw [hk];rfl
 have k3:(x.kind==3)=true:=by rw [hk];rfl
 have HK:=hid hk
 clear hk
 go_enter Tryz.func113,Tryz.ntmps113
 go_wp2_with fail
 go_ret
 refine ⟨w.heap.size+1+1,0,?_,?_,?_⟩
 ·rw [HK.out];rfl
 ·refine ⟨by omega,by simp,fun h=>(by rw [HK.out] at h;cases h),fun _=>?_,fun _ h=>absurd HK.out h⟩
  have:=Row.new ((w.alloc (.cells x.cs.toArray 131)).alloc (.cells (headC x i path pb).toArray 126)) 215 (headC x i path pb++[.string (ba x.to)])
  simp only [World.size_alloc] at this
  exact this
 ·exact (((bal _).alloc (by simp) _).alloc (by simp;omega) _)
theorem infoU8:(Tryz.prog.info? 5).map (fun i=>(i.zero,i.size,i.bytes))=some (some (.int .u8 0),1,1):=by kernel_rfl
theorem Row.eight {w:World}{g:Nat}{E:TypeId}{a b c d e f i j:Value}(h:Row w g E [a,b,c,d,e,f,i,j]):(w.cell? ⟨g,0,none⟩=some a∧w.cell? ⟨g,1,none⟩=some b∧w.cell? ⟨g,2,none⟩=some c∧w.cell? ⟨g,3,none⟩=some d∧w.cell? ⟨g,4,none⟩=some e)∧w.cell? ⟨g,5,none⟩=some f∧w.cell? ⟨g,6,none⟩=some i∧w.cell? ⟨g,7,none⟩=some j:=
 ⟨⟨h.cell 0 (by simp),h.cell 1 (by simp),h.cell 2 (by simp),h.cell 3 (by simp),h.cell 4 (by simp)⟩,h.cell 5 (by simp),h.cell 6 (by simp),h.cell 7 (by simp)⟩
set_option maxRecDepth 100000 in
set_option maxHeartbeats 4000000 in
theorem newNode_file (x:EN)(i:Int)(path:BL)(pb:Nat)(w:World)(hx:EnOk w x)(hk:x.kind≠2)(hk3:x.kind≠3):
 Calls Tryz.prog 113 #[.agg x.cs.toArray,.agg #[.int .i64 i,.string (ba path),.pointer (some ⟨pb,0,none⟩),.int .u8 0,.int .u16 0,.int .u32 0,.int .u32 0,.int .i64 0]] w (NewPost w x i path pb):=by
 have hmm:=@run_makeMap Tryz.prog
 have HX:=hid hx
 have HB1:=hid (show Below w.heap.size w (w.alloc (.cells x.cs.toArray 131)) from bal _)
 clear hx
 unfold EN.cs at HB1 ⊢
 have k2:(x.kind==2)=false:=by simpa using hk
 have k3:(x.kind==3)=false:=by simpa using hk3
 have HK2:=hid hk
 have HK3:=hid hk3
 clear hk hk3
 go_enter Tryz.func113,Tryz.ntmps113
 go_wp2_with fail
 obtain ⟨W1,hW1⟩:∃ W1,W1=(w.alloc (.cells #[.string (ba x.path),.int .u8 x.kind,.int .u16 x.mode,.int .u32 x.uid,.int .u32 x.gid,.slice x.a x.data.length x.c,.string (ba x.to)] 131)).alloc (.cells #[.int .i64 i,.string (ba path),.pointer (some ⟨pb,0,none⟩),.int .u8 x.kind,.int .u16 x.mode,.int .u32 x.uid,.int .u32 x.gid,.int .i64 (x.data.length:Int)] 126):=⟨_,rfl⟩
 have hr0:Row W1 w.heap.size 131 [.string (ba x.path),.int .u8 x.kind,.int .u16 x.mode,.int .u32 x.uid,.int .u32 x.gid,.slice x.a x.data.length x.c,.string (ba x.to)]:=by
  rw [hW1];exact (Row.new w 131 [.string (ba x.path),.int .u8 x.kind,.int .u16 x.mode,.int .u32 x.uid,.int .u32 x.gid,.slice x.a x.data.length x.c,.string (ba x.to)]).alloc _
 have hr1:Row W1 (w.heap.size+1) 126 [.int .i64 i,.string (ba path),.pointer (some ⟨pb,0,none⟩),.int .u8 x.kind,.int .u16 x.mode,.int .u32 x.uid,.int .u32 x.gid,.int .i64 (x.data.length:Int)]:=by
  have:=Row.new (w.alloc (.cells [.string (ba x.path),.int .u8 x.kind,.int .u16 x.mode,.int .u32 x.uid,.int .u32 x.gid,.slice x.a x.data.length x.c,.string (ba x.to)].toArray 131)) 126 [.int .i64 i,.string (ba path),.pointer (some ⟨pb,0,none⟩),.int .u8 x.kind,.int .u16 x.mode,.int .u32 x.uid,.int .u32 x.gid,.int .i64 (x.data.length:Int)]
  rw [World.size_alloc] at this
  rw [hW1];exact this
 have HW1:=hid (show Below w.heap.size w W1 by rw [hW1];exact (bal _).alloc (by simp) _)
 have hs1:W1.heap.size=w.heap.size+1+1:=by rw [hW1];simp
 have HS1:=hid hs1
 rw [← hW1]
 clear hW1 hs1
 have HX1:=hid (HX.out.below HW1.out)
 have HN1:=hid (show ∀ ad,x.a=some ad→∀ j u,(x.data.map B8)[j]?=some u→W1.drew.cell? (ad.add j)=some u from HX1.out.byt.news)
 have HN2:=hid (show x.a=none→x.data.length=0∧x.c=0 from fun h=>by
  refine ⟨?_,HX1.out.nil h⟩
  rcases Nat.eq_zero_or_pos x.data.length with h0|h0
  ·exact h0
  ·obtain ⟨_,_,e,_⟩:=HX1.out.byt.some_of h0
   rw [h] at e;cases e)
 have HN3:=hid (show (x.data.map B8).length=x.data.length*1 by simp)
 have HN4:=hid (show x.data.length≤maxLen by have:=HX1.out.data;unfold maxLen;omega)
 have HN5:=hid (show x.data.length*1≤140737488355328 by have:=HX1.out.data;omega)
 have HN6:=hid (b8_one x.data)
 have HN7:=hid (show some (w.heap.size+1)≠none from fun e=>by cases e)
 have HR1:=hid hr1
 obtain ⟨i0,hi0,hz0,hz1,hz2⟩:=info_parts infoU8
 have a0:=hr0.cell 5 (by simp)
 have c0:=hr1.cell 0 (by simp)
 have c1:=hr1.cell 1 (by simp)
 have c2:=hr1.cell 2 (by simp)
 have c3:=hr1.cell 3 (by simp)
 have c4:=hr1.cell 4 (by simp)
 have c5:=hr1.cell 5 (by simp)
 have c6:=hr1.cell 6 (by simp)
 have c7:=hr1.cell 7 (by simp)
 simp only [List.getElem_cons_zero,List.getElem_cons_succ] at a0 c0 c1 c2 c3 c4 c5 c6 c7
 have hl0:=hr0.lt
 have hl1:=hr1.lt
 clear hr0 hr1
 go_region_law (refine step_append_nil (by rfl) _ _ 89 (by rfl) 5 i0 (.int .u8 0) 1 1 Tryz.underlying89 hi0 hz0 hz1 hz2 rfl (by decide) (by rfl) x.a x.data.length x.c (by rfl) (x.data.map B8) HN3.out HN1.out HN2.out HN6.out HN4.out HN5.out ?_;intro v2 w2 hown hgrow;obtain ⟨a9,c9,rfl,_⟩:=own_cel hown;have hr2:=HR1.out.drew.grown hgrow HN7.out;obtain ⟨⟨d0,d1,d2,d3,d4⟩,d5,d6,d7⟩:=hr2.eight;have hl2:=hr2.lt;have HO:=hid hown;have HG:=hid hgrow;clear hown hgrow hr2)
 all_goals
  go_wp2_with fail
  go_ret
  have hsz:W1.heap.size≤w2.heap.size:=HG.out.size
  have hs1:=HS1.out
  refine ⟨w2.heap.size,0,?_,⟨by omega,by simp,fun h=>absurd h HK2.out,fun h=>absurd h HK3.out,fun _ _=>⟨.slice a9 x.data.length c9,?_,?_⟩⟩,?_⟩
  ·unfold ndT;rw [if_neg HK2.out,if_neg HK3.out];rfl
  ·exact Row.new w2 204 (headC x i path pb++[.slice a9 x.data.length c9])
  ·exact own_from (HO.out.alloc _) (by show w.heap.size≤W1.heap.size;omega)
  ·have h1:Below w.heap.size w w2:=(HW1.out.drew).grown HG.out (by show w.heap.size≤W1.heap.size;omega) (fun k e=>by cases e)
   exact h1.alloc h1.size _
def dotB (ds:List BL):Bool:=ds.any fun p=>decide (p=[46,46])
def entB (x:EN):Prop:=rightK x=true∧bits .andNot .u16 x.mode 2559=0∧tailB x.path=false∧chkE x.path=0∧rootF x.path=true∧partsF x.path≠[]∧dotB (partsF x.path)=false
instance (x:EN):Decidable (entB x):=by unfold entB;infer_instance
def entP (x:EN):Option (List BL):=if entB x then some (partsF x.path) else none
theorem entP_no {x:EN}(h:¬ entB x):entP x=none:=if_neg h
theorem entP_yes {x:EN}(h:entB x):entP x=some (partsF x.path):=if_pos h
def EntPost (w:World)(x:EN)(e:Ending)(w':World):Prop:=Below w.heap.size w w'∧match entP x with
 | some ds=>∃ v,e=.returned (.tuple #[v,.bool true])∧OwnT w' w.heap.size v ds
 | none=>e=.returned (.tuple #[.slice none 0 0,.bool false])
theorem entPost_none {w w':World}{x:EN}(h:entP x=none)(hb:Below w.heap.size w w'):EntPost w x (.returned (.tuple #[.slice none 0 0,.bool false])) w':=by
 unfold EntPost
 rw [h]
 exact ⟨hb,rfl⟩
theorem entPost_some {w w':World}{x:EN}{ds:List BL}{v:Value}(h:entP x=some ds)(hb:Below w.heap.size w w')(ho:OwnT w' w.heap.size v ds):EntPost w x (.returned (.tuple #[v,.bool true])) w':=by
 unfold EntPost
 rw [h]
 exact ⟨hb,v,rfl,ho⟩
set_option maxRecDepth 100000 in
set_option maxHeartbeats 4000000 in
theorem entryParts_any (x:EN)(w:World)(hx:EnOk w x):
 Calls Tryz.prog 111 #[.agg x.cs.toArray] w (EntPost w x):=by
 have HB0:=hid (show Below w.heap.size w (w.alloc (.cells x.cs.toArray 131)) from bal _)
 have HR0:=hid (Row.new w 131 x.cs)
 have HX:=hid (hx.below HB0.out)
 have HK:=hid (rightKind_any x (w.alloc (.cells x.cs.toArray 131)) HX.out)
 have HPL:=hid hx.path
 clear hx
 unfold EN.cs at HB0 HR0 HX HK ⊢
 go_enter Tryz.func111,Tryz.ntmps111
 go_wp2_with fail
 refine (HK.out).mono ?_
 rintro e' w1 ⟨rfl,hb⟩
 have HR1:=hid (HR0.out.below hb HR0.out.lt)
 have HB1:=hid (bthen HB0.out hb)
 have hr1:=HR1.out.seven
 obtain ⟨c0,c1,c2,c3,c4,c5,c6⟩:=hr1
 have hlr:=HR1.out.lt
 clear hb HK
 cases hk:rightK x
 ·have HN:=hid (entP_no (fun h:entB x=>by rw [h.1] at hk;cases hk))
  have HB9:=hid HB1.out
  clear hk
  go_wp2_with fail
  go_ret2
  exact entPost_none HN.out HB9.out
 ·by_cases hm:bits .andNot .u16 x.mode 2559=0
  ·have hm1:(bits .andNot .u16 x.mode 2559==0)=true:=by simpa using hm
   have hm2:(bits .andNot .u16 x.mode 2559 != 0)=false:=by simpa using hm
   have HM:=hid hm
   have HKK:=hid hk
   clear hm hk
   go_wp2_with fail
   refine (tail_any (ba x.path) w1 (by rw [ba_size];exact HPL.out)).mono ?_
   rintro e' w2 ⟨rfl,rfl⟩
   rw [show (ba x.path).data.toList=x.path from rfl]
   cases ht:tailB x.path
   ·have HT:=hid ht
    clear ht
    go_wp2_with fail
    refine (parts_any (ba x.path) w1 (by rw [ba_size];exact HPL.out)).mono ?_
    rintro e' w2 ⟨v,rfl,ho,hb⟩
    rw [show (ba x.path).data.toList=x.path from rfl] at ho ⊢
    have HB2:=hid (bthen HB1.out hb)
    have HO:=hid (own_from ho HB1.out.size)
    obtain ⟨av,cv,rfl,hcel,_⟩:=own_cel ho
    have HC:=hid hcel
    clear ho hb hcel
    by_cases hc:chkE x.path=0
    ·rw [hc]
     cases hr:rootF x.path
     ·have HN:=hid (entP_no (fun h:entB x=>by rw [h.2.2.2.2.1] at hr;cases hr))
      have HB9:=hid HB2.out
      clear hr hc
      go_wp2_with fail
      go_ret2
      exact entPost_none HN.out HB9.out
     ·have hlz:=len_zero (partsF x.path)
      by_cases hn:partsF x.path=[]
      ·rw [decide_eq_true hn] at hlz
       have HN:=hid (entP_no (fun h:entB x=>h.2.2.2.2.2.1 hn))
       have HB9:=hid HB2.out
       clear hn hr hc
       go_wp2_with fail
       go_ret2
       exact entPost_none HN.out HB9.out
      ·rw [decide_eq_false hn] at hlz
       have HYES:=hid (fun (h:dotB (partsF x.path)=false)=>entP_yes (x:=x) ⟨HKK.out,HM.out,HT.out,hc,hr,hn,h⟩)
       have HNO:=hid (fun (h:dotB (partsF x.path)=true)=>entP_no (fun h':entB x=>by rw [h'.2.2.2.2.2.2] at h;cases h))
       have hdl:=parts_count x.path
       clear hn hr hc
       generalize partsF x.path=ds at *
       go_wp2_with fail
       go_loopw [43] (fun i wr=>∃ k:Nat,k≤ds.length∧i=.int .i64 k∧dotB (ds.take k)=false∧w2=wr) (fun i _=>ds.length-(intOf i).toNat)
       case atStart=>exact ⟨0,Nat.zero_le _,rfl,rfl,rfl⟩
       case round=>
        obtain ⟨k,hkk,rfl,hdb,rfl⟩:=hrel
        have HDB:=hid hdb
        clear hdb
        by_cases hlt:k<ds.length
        ·have d1:decide ((k:Int)<(ds.length:Int))=true:=by simp;omega
         have d1n:decide (k<ds.length)=true:=by simp;omega
         obtain ⟨b,o,rfl,hcell⟩:=HC.out.some_of (by simp [strs];omega)
         have hx':=strs_at hcell hlt
         have hlb:=World.block_lt_of_cell? _ _ hx'
         dsimp only at hlb
         have hq:=ba_beq ds[k] [46,46]
         have HTK:=hid (show dotB (ds.take (k+1))=(dotB (ds.take k)||decide (ds[k]=[46,46])) by unfold dotB;rw [List.take_succ_eq_append_getElem hlt,List.any_append];simp)
         have HALL:=hid (fun (h:ds[k]=[46,46])=>show dotB ds=true from List.any_eq_true.2 ⟨ds[k],List.getElem_mem hlt,by simp [h]⟩)
         generalize ds[k]=p at *
         clear hcell
         by_cases hp:p=[46,46]
         ·have HN:=hid (HNO.out (HALL.out hp))
          have HB9:=hid HB2.out
          rw [decide_eq_true hp] at hq
          clear hp
          go_wp2_with fail
          go_ret2
          exact entPost_none HN.out HB9.out
         ·rw [decide_eq_false hp] at hq HTK
          clear hp
          go_wp2_with fail
          go_roundw
          case rel=>exact ⟨k+1,by omega,by go_num,by rw [HTK.out,HDB.out];rfl,by first|rfl|trivial⟩
          case measure=>simp [intOf];omega
        ·have d1:decide ((k:Int)<(ds.length:Int))=false:=by simp;omega
         have d1n:decide (k<ds.length)=false:=by simp;omega
         obtain rfl:k=ds.length:=by omega
         go_wp2_with fail
         go_ret2
         exact entPost_some (HYES.out (by have:=HDB.out;rwa [List.take_length] at this)) HB2.out HO.out
    ·have hc':(chkE x.path==0)=false:=by simpa using hc
     have hc2:(chkE x.path != 0)=true:=by simpa using hc
     have HN:=hid (entP_no (fun h:entB x=>hc h.2.2.2.1))
     have HB9:=hid HB2.out
     clear hc
     go_wp2_with fail
     go_ret2
     exact entPost_none HN.out HB9.out
   ·have HN:=hid (entP_no (fun h:entB x=>by rw [h.2.2.1] at ht;cases ht))
    have HB9:=hid HB1.out
    clear ht
    go_wp2_with fail
    go_ret2
    exact entPost_none HN.out HB9.out
  ·have hm1:(bits .andNot .u16 x.mode 2559==0)=false:=by simpa using hm
   have hm2:(bits .andNot .u16 x.mode 2559 != 0)=true:=by simpa using hm
   have HN:=hid (entP_no (fun h:entB x=>hm h.2.1))
   have HB9:=hid HB1.out
   clear hm hk
   go_wp2_with fail
   go_ret2
   exact entPost_none HN.out HB9.out
end Go.Proofs.YtdjpjfdeeelijaaGreatDoor
