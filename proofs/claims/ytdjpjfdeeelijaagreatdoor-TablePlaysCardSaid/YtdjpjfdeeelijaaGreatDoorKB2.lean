/- Merged: Bc4 Bc5 Bc6 Bc7 Bc8 Bc9 BcA. -/
import Derived.Test.YtdjpjfdeeelijaaGreatDoorW01
import Derived.Test.YtdjpjfdeeelijaaGreatDoorW04
import Derived.Deep.QuietTactic
import Derived.BigQuiet
import Derived.Test.YtdjpjfdeeelijaaGreatDoorShelf
import Derived.Shelf.SlSortCmp.WholeK
import Derived.Deep.RegionWith
import Derived.Deep.RegionHeld3
namespace Go.Proofs.YtdjpjfdeeelijaaGreatDoor
open Go.RowKit Go.Sort Go.WideMaps Go.Maps Go.WideShapes Go.WideElems Go.MapKept Go.ChangeMaps
attribute [local go_sem] Oper.semAt_some
/-- A cache in memory: its struct in block c, its map in m, its pool in p, g, h; its files were there when w0 was. -/
structure CW (w0:World)(F:Nat)(t:FT)(p g h c m:Nat)(s:CC)(ws:List Nat)(w:World):Prop where
 cache:Row w c 135 [.pointer (some ⟨p,0,none⟩),.pointer (some ⟨F,0,none⟩),.map (some m),.int .u64 (s.tn:Int)]
 pool:Pl w p g h s.fs ws
 map:CM w m s.tn s.sl
 files:FSat w0 F t
 low:Below w0.heap.size w0 w
 lg:w0.heap.size≤g
 lh:w0.heap.size≤h
 lc:w0.heap.size≤c
 lm:w0.heap.size≤m
 few:s.tn<1000000000
 tb:Tb w0
section
variable {w0 w w':World}{F:Nat}{t:FT}{p g h c m:Nat}{s:CC}{ws:List Nat}
theorem CW.below (H:CW w0 F t p g h c m s ws w)(hb:Below w.heap.size w w'):CW w0 F t p g h c m s ws w':=
 ⟨H.cache.below hb H.cache.lt,H.pool.below hb,H.map.below hb,H.files,H.low.trans (hb.mono H.low.size),H.lg,H.lh,H.lc,H.lm,H.few,H.tb⟩
theorem CW.fs (H:CW w0 F t p g h c m s ws w):FSat w F t:=H.files.below H.low
theorem CW.tbl (H:CW w0 F t p g h c m s ws w):Tb w:=fun j hj=>St.cell (H.tb j hj) H.low
theorem CW.ne (H:CW w0 F t p g h c m s ws w):c≠p∧c≠g∧c≠h∧m≠c∧m≠p∧m≠g∧m≠h:=
 ⟨row_tys H.cache H.pool.pool (by decide),row_tys H.cache H.pool.frames (by decide),row_tys H.cache H.pool.words (by decide),H.map.row H.cache,H.map.row H.pool.pool,H.map.row H.pool.frames,H.map.row H.pool.words⟩
theorem CW.cells (H:CW w0 F t p g h c m s ws w):w.cell? ⟨c,0,none⟩=some (.pointer (some ⟨p,0,none⟩))∧w.cell? ⟨c,1,none⟩=some (.pointer (some ⟨F,0,none⟩))∧w.cell? ⟨c,2,none⟩=some (.map (some m))∧w.cell? ⟨c,3,none⟩=some (.int .u64 (s.tn:Int)):=
 ⟨H.cache.cell 0 (by simp),H.cache.cell 1 (by simp),H.cache.cell 2 (by simp),H.cache.cell 3 (by simp)⟩
end
/-- The blocks that a cache may turn. -/
def cS (g h c m:Nat):Nat→Prop:=fun k=>k=c∨k=m∨k=g∨k=h
/-- A step of a range over the map: the next slot. -/
theorem wpList_next_cm {w:World}{ops:Array Oper}{rest:List Oper}{o:Oper}{a:Act}{Q:Exit→Act→World→Prop}(hg:o.guard=none)(it:Operand)(hop:o.op=Op.next it false)(m r N:Nat)(D:DataW Unit)(sl:List SLO)(hv:CMv D sl)(left:Lit→Bool)(cnt:Nat)
 (hit:a.eval it=.pointer (some ⟨r,0,none⟩)) (h:w.ranges Tryz.prog 158 rdK m r N D left cnt)
 (hDone:(∀ kl,left kl=false)→wpList Tryz.prog ops Q rest (a.put o.dst (.tuple #[.bool false])) w)
 (hMore:∀ (x:SLO) (w':World) (cnt':Nat),x∈sl→lookS sl x.i x.p=some x→left (plL x.i x.p)=true→w'.ranges Tryz.prog 158 rdK m r N D (fun z=>left z&&!z.sameKey (plL x.i x.p)) cnt'→cnt'<cnt→
  w.grownBy w' (some r)→w'.heap.size=w.heap.size→(Instr.entry (.pointer (some ⟨r,0,none⟩))).run Tryz.prog w'=.ok (.tuple #[plK x.i x.p,keV x.f x.t]) w'→wpList Tryz.prog ops Q rest (a.put o.dst (.tuple #[.bool true,plK x.i x.p,keV x.f x.t])) w'):
 wpList Tryz.prog ops Q (o::rest) a w:=by
 refine wpList_plain hg fun K' hK'=>?_
 unfold Oper.wp
 rcases h.next keyedPl o.type with ⟨h0,hl,hrun⟩|⟨key,v,kl,y,w',cnt',hkey,hlk,hvv,hat,hrun,hrg,hlt,hgr,hsz,hen⟩
 ·simp [execOp,hop,hit,hrun,Result.andThen]
  exact hK' _ _ (hDone hl)
 ·obtain ⟨x,hx,rfl,hlx⟩:=hv.only kl (has_true_of_atKey hat)
  obtain ⟨hi,hp⟩:=hv.ok x hx
  have e1:=hat (.lit (.bool true))
  rw [hv.at_ x.i x.p hi hp,hlx] at e1
  have e2:key=plK x.i x.p:=keyedPl.inj hkey (key_pl hi hp)
  have e3:v=keV x.f x.t:=rdK_at (f:=x.f) (t:=x.t) (ps:=y.2) (by rw [hvv];exact congrArg some (Prod.ext e1.symm rfl))
  subst e2 e3
  simp [execOp,hop,hit,hrun,Result.andThen]
  exact hK' _ _ (hMore x w' cnt' hx hlx hlk hrg hlt hgr hsz hen)
theorem rg_iter {w:World}{R:Value→Option (DataW Unit × List MemPlace)}{b r n:Nat}{D:DataW Unit}{left:Lit→Bool}{cnt:Nat}(h:w.ranges Tryz.prog 158 R b r n D left cnt):∃ x:Option Nat × Nat × Array Nat × Nat,w.heap[r]?=some (.mapIter x.1 x.2.1 x.2.2.1 x.2.2.2):=by
 obtain ⟨es,clock,since,seen,c0,hb,_,_,_,hr,_⟩:=h
 exact ⟨(some b,since,seen,c0),hr⟩
theorem rg_row {w:World}{R:Value→Option (DataW Unit × List MemPlace)}{b r n:Nat}{D:DataW Unit}{left:Lit→Bool}{cnt:Nat}(h:w.ranges Tryz.prog 158 R b r n D left cnt){g:Nat}{T:TypeId}{cs:List Value}(hr:Row w g T cs):g≠r:=by
 rintro rfl
 obtain ⟨x,hx⟩:=rg_iter h
 have:=hr.heap
 rw [hx] at this
 cases this
theorem cmr_below {w w':World}{R:Value→Option (DataW Unit × List MemPlace)}{b r n:Nat}{D:DataW Unit}{left:Lit→Bool}{cnt:Nat}(h:w.ranges Tryz.prog 158 R b r n D left cnt)(hb:Below w.heap.size w w'):w'.ranges Tryz.prog 158 R b r n D left cnt:=
 h.kept (row:=none) ⟨hb.os,hb.tape,hb.output,hb.size,fun k hk _=>hb.block k hk⟩ (by simp) (by simp)
theorem low_grown {w w1 w':World}{r:Nat}(h:Below w.heap.size w w1)(hg:w1.grownBy w' (some r))(hr:w.heap.size≤r):Below w.heap.size w w':=
 h.trans ⟨hg.os,hg.tape,hg.output,hg.size,fun k hk=>hg.block k (Nat.lt_of_lt_of_le hk h.size) (by simp;omega)⟩
def oldV (o:Option SLO):Value:=match o with
 | some x=>plK x.i x.p
 | none=>plK 0 0
def oI (o:Option SLO):Int:=match o with
 | some x=>x.i
 | none=>0
def oP (o:Option SLO):Int:=match o with
 | some x=>x.p
 | none=>0
def oT (o:Option SLO):Int:=match o with
 | some x=>x.t
 | none=>0
theorem oldV_is (o:Option SLO):oldV o=plK (oI o) (oP o):=by cases o <;> rfl
/-- The best of those that were seen. -/
structure Best (fs:List FR)(sl:List SLO)(left:Lit→Bool)(b:Option SLO):Prop where
 one:∀ x,b=some x→x∈sl∧loB fs x=true
 low:∀ y∈sl,left (plL y.i y.p)=false→loB fs y=true→∃ x,b=some x∧x.t≤y.t
theorem Best.done {fs:List FR}{sl:List SLO}{left:Lit→Bool}{b:Option SLO}(h:Best fs sl left b)(hl:∀ kl,left kl=false)(ha:sl.Pairwise fun x y=>x.t<y.t):sl.find? (loB fs)=b:=by
 cases hb:b with
 | none=>
  rw [List.find?_eq_none]
  intro y hy e
  obtain ⟨x,h1,_⟩:=h.low y hy (hl _) e
  rw [hb] at h1
  cases h1
 | some x=>
  obtain ⟨hx,hlx⟩:=h.one x hb
  cases hf:sl.find? (loB fs) with
  | none=>exact absurd hlx (List.find?_eq_none.1 hf x hx)
  | some z=>
   have hz:=List.mem_of_find?_eq_some hf
   have hlz:=List.find?_some hf
   obtain ⟨x',e,hle⟩:=h.low z hz (hl _) hlz
   rw [hb] at e
   cases e
   obtain ⟨_,l1,l2,rfl,hn⟩:=List.find?_eq_some_iff_append.1 hf
   rw [List.pairwise_append] at ha
   rcases List.mem_append.1 hx with h1|h1
   ·have:=hn x h1
    rw [hlx] at this
    cases this
   ·rcases List.mem_cons.1 h1 with rfl|h1
    ·rfl
    ·have:=(List.pairwise_cons.1 ha.2.1).1 x h1
     omega
theorem Best.next {fs:List FR}{sl:List SLO}{left:Lit→Bool}{b:Option SLO}{x:SLO}(h:Best fs sl left b)(hx:x∈sl)(hu:∀ y∈sl,y.i=x.i→y.p=x.p→y=x)(ho:∀ y∈sl,I64 y.i∧I64 y.p){b':Option SLO}
 (h1:∀ y,b'=some y→b=some y∨(y=x∧loB fs x=true)) (h2:∀ y,b=some y→∃ z,b'=some z∧z.t≤y.t) (h3:loB fs x=true→∃ z,b'=some z∧z.t≤x.t):Best fs sl (fun z=>left z&&!z.sameKey (plL x.i x.p)) b':=by
 refine ⟨fun y hy=>?_,fun y hy hl hlo=>?_⟩
 ·rcases h1 y hy with e|⟨rfl,e⟩
  ·exact h.one y e
  ·exact ⟨hx,e⟩
 ·rw [Bool.and_eq_false_iff] at hl
  rcases hl with hl|hl
  ·obtain ⟨z,e,hz⟩:=h.low y hy hl hlo
   obtain ⟨z',e',hz'⟩:=h2 z e
   exact ⟨z',e',by omega⟩
  ·rw [Bool.not_eq_false'] at hl
   have e1:plL y.i y.p=plL x.i x.p:=WideAt.sameKey_eq hl
   obtain ⟨e2,e3⟩:=plL_inj (ho y hy).1 (ho y hy).2 (ho x hx).1 (ho x hx).2 e1
   obtain rfl:=hu y hy e2 e3
   exact h3 hlo
/-- What oldest keeps. -/
structure OI (w:World)(rb ab m rI N:Nat)(D:DataW Unit)(b:Option SLO)(left:Lit→Bool)(cnt:Nat)(W:World):Prop where
 rg:W.ranges Tryz.prog 158 rdK m rI N D left cnt
 res:Row W rb 158 [.int .i64 0,.int .i64 0]
 at_:Row W ab 158 [.int .i64 (oI b),.int .i64 (oP b)]
 low:Below w.heap.size w W
 ne:rb≠ab
 hr:w.heap.size≤rb
 ha:w.heap.size≤ab
 hI:w.heap.size≤rI
section
variable {w W W':World}{rb ab m rI N:Nat}{D:DataW Unit}{b:Option SLO}{left left':Lit→Bool}{cnt cnt':Nat}
theorem OI.below (h:OI w rb ab m rI N D b left cnt W)(hb:Below W.heap.size W W'):OI w rb ab m rI N D b left cnt W':=
 ⟨cmr_below h.rg hb,h.res.below hb h.res.lt,h.at_.below hb h.at_.lt,h.low.trans (hb.mono h.low.size),h.ne,h.hr,h.ha,h.hI⟩
theorem OI.next (h:OI w rb ab m rI N D b left cnt W)(hr:W'.ranges Tryz.prog 158 rdK m rI N D left' cnt')(hg:W.grownBy W' (some rI)):OI w rb ab m rI N D b left' cnt' W':=
 ⟨hr,h.res.grown hg (by simpa using rg_row h.rg h.res),h.at_.grown hg (by simpa using rg_row h.rg h.at_),low_grown h.low hg h.hI,h.ne,h.hr,h.ha,h.hI⟩
theorem rg_set {R:Value→Option (DataW Unit × List MemPlace)}(h:W.ranges Tryz.prog 158 R m rI N D left cnt){a:Addr}(h1:m≠a.block)(h2:rI≠a.block)(u:Value):(W.setCell a u).ranges Tryz.prog 158 R m rI N D left cnt:=by
 obtain ⟨es,clock,since,seen,c0,hb,F,hs,hD,hr,r⟩:=h
 exact ⟨es,clock,since,seen,c0,by rw [heap_setCell_other W a m u h1];exact hb,F,hs,hD,by rw [heap_setCell_other W a rI u h2];exact hr,r⟩
theorem rg_map {R:Value→Option (DataW Unit × List MemPlace)}(h:W.ranges Tryz.prog 158 R m rI N D left cnt){g:Nat}{T:TypeId}{cs:List Value}(hr:Row W g T cs):m≠g:=by
 rintro rfl
 obtain ⟨es,clock,since,seen,c0,hb,_⟩:=h
 have:=hr.heap
 rw [hb] at this
 cases this
theorem OI.set (h:OI w rb ab m rI N D b left cnt W)(x:SLO):OI w rb ab m rI N D (some x) left cnt ((W.setCell ⟨ab,0,none⟩ (.int .i64 x.i)).setCell ⟨ab,1,none⟩ (.int .i64 x.p)):=by
 have n1:=rg_map h.rg h.at_
 have n2:=Ne.symm (rg_row h.rg h.at_)
 exact ⟨rg_set (rg_set h.rg n1 n2 _) n1 n2 _,(h.res.other h.ne _).other h.ne _,(h.at_.set 0 _).set 1 _,bset (bset h.low h.ha _) h.ha _,h.ne,h.hr,h.ha,h.hI⟩
end
theorem rl_set2 {w W:World}{rb ab m rI N:Nat}{D:DataW Unit}{b:Option SLO}{left:Lit→Bool}{cnt:Nat}(h:OI w rb ab m rI N D b left cnt W)(x:SLO):
 ((W.setCell ⟨ab,0,none⟩ (.int .i64 x.i)).setCell ⟨ab,1,none⟩ (.int .i64 x.p)).rangeLeft m rI=W.rangeLeft m rI:=by
 rw [(h.set x).rg.left_eq,h.rg.left_eq]
theorem rangeLeft_drew (w:World)(n m r:Nat):(w.drewN n).rangeLeft m r=w.rangeLeft m r:=rfl
set_option maxRecDepth 100000 in
set_option maxHeartbeats 8000000 in
theorem oldest_any (w0:World)(F:Nat)(t:FT)(p g h c m:Nat)(s:CC)(ws:List Nat)(rd:Int→Int→List UInt8 × Int)(hx:List Nat)(w:World)(H:CW w0 F t p g h c m s ws w)(G:Good rd s hx):
 Calls Tryz.prog 76 #[.pointer (some ⟨c,0,none⟩)] w fun e w'=>e=.returned (.tuple #[oldV (s.sl.find? (loB s.fs)),.bool (s.sl.find? (loB s.fs)).isSome])∧Below w.heap.size w w':=by
 obtain ⟨W,hW⟩:∃ W,W=(w.alloc (.cells #[.int .i64 0,.int .i64 0] 158)).alloc (.cells #[.int .i64 0,.int .i64 0] 158):=⟨_,rfl⟩
 have HW:=hid hW
 have hb0:Below w.heap.size w W:=by rw [hW];exact bthen (bal _) (bal _)
 have HLOW:=hid hb0
 have HRES:=hid (show Row W w.heap.size 158 [.int .i64 0,.int .i64 0] by rw [hW];exact (Row.new w _ _).alloc _)
 have HAT:=hid (show Row W (w.heap.size+1) 158 [.int .i64 0,.int .i64 0] by
  rw [hW]
  have:=Row.new (w.alloc (.cells #[.int .i64 0,.int .i64 0] 158)) 158 [.int .i64 0,.int .i64 0]
  rw [World.size_alloc] at this
  exact this)
 obtain ⟨c0,c1,c2,c3⟩:=H.cells
 have hlc:=H.cache.lt
 have HH:=hid (fun (w':World) (hb:Below w.heap.size w w')=>H.below hb)
 have HCO:=hid (fun (w':World) (hb:Below w.heap.size w w') (f:Int)=>count_any p g h s.fs ws f w' (H.below hb).pool)
 obtain ⟨D,hD,hv⟩:=(H.below hb0).map
 have HV:=hid hv
 have HD:=hid hD
 have HG:=hid G
 obtain ⟨R,hR⟩:∃ R,R=s.sl.find? (loB s.fs):=⟨_,rfl⟩
 rw [← hR]
 have HR:=hid hR
 obtain ⟨sn,hsn⟩:∃ sn,sn=s.tn:=⟨_,rfl⟩
 clear hW hb0 hD hv H G hR
 go_enter Tryz.func76,Tryz.ntmps76
 have HDX:=hid (show ((w.alloc (.cells #[.int .i64 0,.int .i64 0] 158)).alloc (.cells #[.int .i64 0,.int .i64 0] 158)).ownsMap Tryz.prog 158 rdK m s.tn D by rw [← HW.out];exact HD.out)
 go_wp2_with (at_range;refine wpList_range_own _ rfl _ 133 rfl 158 162 keyedPl Tryz.underlying133 rdK m s.tn D rfl HDX.out ?_;intro w1 hrg0 hg0 hs0)
 go_frame
 rw [← HW.out] at hrg0 hg0 hs0 ⊢
 obtain ⟨rI,hrI⟩:∃ rI,rI=W.heap.size:=⟨_,rfl⟩
 rw [← hrI] at hrg0 ⊢
 have HOI0:=hid (show OI w w.heap.size (w.heap.size+1) m rI s.tn D none (Maps.has D) (Maps.size D) w1 from
  ⟨hrg0,HRES.out.grown hg0 (by simp),HAT.out.grown hg0 (by simp),HLOW.out.trans ⟨hg0.os,hg0.tape,hg0.output,hg0.size,fun k hk=>hg0.block k (Nat.lt_of_lt_of_le hk HLOW.out.size) (by simp)⟩,by omega,Nat.le_refl _,by omega,by rw [hrI];exact HLOW.out.size⟩)
 have HB0:=hid (show Best s.fs s.sl (Maps.has D) none from ⟨fun x h=>(by cases h),fun y hy hl hlo=>by
  have h1:=HV.out.has (HV.out.ok y hy).1 (HV.out.ok y hy).2
  rw [look_of HG.out hy] at h1
  rw [h1] at hl
  cases hl⟩)
 clear hrg0 hg0 hs0 hrI c0 c1 c2 c3 hlc
 go_loopw [5,6] (fun v5 v6 wz=>∃ (b:Option SLO) (left:Lit→Bool) (cnt:Nat),OI w w.heap.size (w.heap.size+1) m rI s.tn D b left cnt wz∧Best s.fs s.sl left b∧v5=.int .u64 (oT b)∧v6=.bool b.isSome) (fun _ _ wz=>wz.rangeLeft m rI)
 case atStart=>exact ⟨none,_,_,HOI0.out,HB0.out,rfl,rfl⟩
 case round=>
  obtain ⟨b,left,cnt,hoi,hbe,rfl,rfl⟩:=hrel
  rename World=>wz
  have HOI:=hid hoi
  have HBE:=hid hbe
  clear hoi hbe
  go_wp2_with (at_next;refine wpList_next_cm rfl _ rfl m rI s.tn D s.sl HV.out left cnt rfl HOI.out.rg ?_ ?_)
  ·intro hl0
   have HF:=hid (show R=b by rw [HR.out];exact HBE.out.done hl0 HG.out.asked)
   have a0:=HOI.out.at_.two
   have r0:=HOI.out.res.two
   obtain ⟨a0,a1⟩:=a0
   obtain ⟨r0,r1⟩:=r0
   have hal:=HOI.out.at_.lt
   have hrl:=HOI.out.res.lt
   have hrf:=HOI.out.res.frozen
   have hrf0:=hrf 0
   have hrf1:=hrf 1
   have hne:=HOI.out.ne
   clear hl0 hrf
   go_wp2_with fail
   refine bodyPost_ret (v:=.tuple #[.agg #[.int .i64 (oI b),.int .i64 (oP b)],.bool b.isSome]) (by simp [results,Tryz.f76,go_sem,r0,r1]) rfl ⟨by rw [HF.out,oldV_is];rfl,?_⟩
   exact bset (bset HOI.out.low (Nat.le_refl _) _) (Nat.le_refl _) _
  ·intro x w8 cnt8 hxm hxl hlk hrg8 hlt8 hg8 hs8 hen
   have HOI8:=hid (HOI.out.next hrg8 hg8)
   have HXM:=hid hxm
   have HXL:=hid hxl
   have HLT8:=hid hlt8
   clear hxm hxl hlk hrg8 hlt8 hg8 hs8
   unfold plK keV at hen ⊢
   obtain ⟨w9,hw9⟩:∃ w9,w9=(w8.alloc (.cells #[.int .i64 x.i,.int .i64 x.p] 158)).alloc (.cells #[.int .i64 x.f,.int .u64 x.t] 162):=⟨_,rfl⟩
   have hb9:Below w8.heap.size w8 w9:=by rw [hw9];exact bthen (bal _) (bal _)
   have HOI9:=hid (HOI8.out.below hb9)
   have HP9:=hid (show Row w9 w8.heap.size 158 [.int .i64 x.i,.int .i64 x.p] by rw [hw9];exact (Row.new w8 _ _).alloc _)
   have HK9:=hid (show Row w9 (w8.heap.size+1) 162 [.int .i64 x.f,.int .u64 x.t] by rw [hw9];exact Row.new1 w8 _ _ _)
   have HC9:=hid (HH.out w9 HOI9.out.low)
   have HUN:=hid (show ∀ y∈s.sl,y.i=x.i→y.p=x.p→y=x from fun y hy e1 e2=>by
    have h1:=look_of HG.out hy
    rw [e1,e2,HXL.out] at h1
    exact (Option.some.inj h1).symm)
   have HOK:=hid (HV.out.ok)
   obtain ⟨c0,c1,c2,c3⟩:=HC9.out.cells
   have hlc:=HC9.out.cache.lt
   obtain ⟨p0,p1⟩:=HP9.out.two
   obtain ⟨k0,k1⟩:=HK9.out.two
   have hpl:=HP9.out.lt
   have hkl:=HK9.out.lt
   have HCN:=hid (fun n=>HCO.out (w9.drewN n) (bdN HOI9.out.low n) x.f)
   obtain ⟨q,hq⟩:∃ q,q=cntF s.fs x.f:=⟨_,rfl⟩
   rw [← hq] at HCN
   have HQ:=hid hq
   go_wp2_with fail
   rw [← hw9]
   clear hw9 hb9 hen hq hsn
   by_cases h1:q=1
   ·have e1:decide (q=1)=true:=decide_eq_true h1
    have e1b:(q==1)=true:=by simp [h1]
    have HLO:=hid (show loB s.fs x=true by unfold loB;rw [← HQ.out];exact e1)
    clear h1
    cases b with
    | none=>
     simp only [oT,Option.isSome_none]
     go_wp2_with fail
     go_quiet ((go_at_call 15;exact Calls.quiet_of_same ((HCN.out _).mono (fun _ _ h=>⟨h.1,h.2.symm⟩))))
     have a0:=HOI9.out.at_.two
     obtain ⟨a0,a1⟩:=a0
     have hal:=HOI9.out.at_.lt
     have hfa0:=HOI9.out.at_.frozen 0
     have hfa1:=HOI9.out.at_.frozen 1
     have hq8:=HOI8.out.at_.lt
     have hne0:¬ w8.heap.size=w.heap.size+1:=by omega
     have hne1:¬ w8.heap.size+1=w.heap.size+1:=by omega
     go_wp2_with fail
     go_region
     go_wp2_with fail
     go_roundw
     case rel=>exact ⟨some x,_,_,(HOI9.out.below (bdN (Below.refl _ _) _)).set x,HBE.out.next HXM.out HUN.out HOK.out (fun z e=>.inr ⟨(Option.some.inj e).symm,HLO.out⟩) (fun z e=>(by cases e)) (fun _=>⟨x,rfl,Int.le_refl _⟩),rfl,rfl⟩
     case measure=>rw [rl_set2 (HOI9.out.below (bdN (Below.refl _ _) _)) x,(HOI9.out.below (bdN (Below.refl _ _) _)).rg.left_eq,HOI.out.rg.left_eq];exact HLT8.out
    | some y=>
     simp only [oT,Option.isSome_some]
     by_cases h2:x.t<y.t
     ·have e2:decide (x.t<y.t)=true:=decide_eq_true h2
      have HT:=hid h2
      clear h2
      go_wp2_with fail
      go_quiet ((go_at_call 15;exact Calls.quiet_of_same ((HCN.out _).mono (fun _ _ h=>⟨h.1,h.2.symm⟩))))
      have a0:=HOI9.out.at_.two
      obtain ⟨a0,a1⟩:=a0
      have hal:=HOI9.out.at_.lt
      have hfa0:=HOI9.out.at_.frozen 0
      have hfa1:=HOI9.out.at_.frozen 1
      have hq8:=HOI8.out.at_.lt
      have hne0:¬ w8.heap.size=w.heap.size+1:=by omega
      have hne1:¬ w8.heap.size+1=w.heap.size+1:=by omega
      go_wp2_with fail
      go_region
      go_wp2_with fail
      go_roundw
      case rel=>exact ⟨some x,_,_,(HOI9.out.below (bdN (Below.refl _ _) _)).set x,HBE.out.next HXM.out HUN.out HOK.out (fun z e=>.inr ⟨(Option.some.inj e).symm,HLO.out⟩) (fun z e=>⟨x,rfl,by cases e;have:=HT.out;omega⟩) (fun _=>⟨x,rfl,Int.le_refl _⟩),rfl,rfl⟩
      case measure=>rw [rl_set2 (HOI9.out.below (bdN (Below.refl _ _) _)) x,(HOI9.out.below (bdN (Below.refl _ _) _)).rg.left_eq,HOI.out.rg.left_eq];exact HLT8.out
     ·have e2:decide (x.t<y.t)=false:=decide_eq_false h2
      have HT:=hid h2
      clear h2
      go_wp2_with fail
      go_quiet ((go_at_call 15;exact Calls.quiet_of_same ((HCN.out _).mono (fun _ _ h=>⟨h.1,h.2.symm⟩))))
      go_wp2_with fail
      go_roundw
      case rel=>exact ⟨some y,_,_,HOI9.out.below (bdN (Below.refl _ _) _),HBE.out.next HXM.out HUN.out HOK.out (fun z e=>.inl e) (fun z e=>⟨z,e,Int.le_refl _⟩) (fun _=>⟨y,rfl,by have:=HT.out;omega⟩),rfl,rfl⟩
      case measure=>rw [(rangeLeft_drew w9 nq m rI),HOI9.out.rg.left_eq,HOI.out.rg.left_eq];exact HLT8.out
   ·have e1:decide (q=1)=false:=decide_eq_false h1
    have e1b:(q==1)=false:=by simp [h1]
    have HLO:=hid (show loB s.fs x=false by unfold loB;rw [← HQ.out];exact e1)
    clear h1
    go_wp2_with fail
    go_quiet ((go_at_call 15;exact Calls.quiet_of_same ((HCN.out _).mono (fun _ _ h=>⟨h.1,h.2.symm⟩))))
    go_wp2_with fail
    go_roundw
    case rel=>exact ⟨b,_,_,HOI9.out.below (bdN (Below.refl _ _) _),HBE.out.next HXM.out HUN.out HOK.out (fun z e=>.inl e) (fun z e=>⟨z,e,Int.le_refl _⟩) (fun e=>by rw [HLO.out] at e;cases e),rfl,rfl⟩
    case measure=>rw [(rangeLeft_drew w9 nq m rI),HOI9.out.rg.left_eq,HOI.out.rg.left_eq];exact HLT8.out
theorem fld_fr (f t:Int)(w:World):(Instr.field 162 (.agg #[.int .i64 f,.int .u64 t]) 0).run Tryz.prog w=.ok (.int .i64 f) w:=by kernel_rfl
section
variable {w0 w w':World}{F:Nat}{t:FT}{p g h c m:Nat}{s:CC}{ws:List Nat}
/-- The pool alone turned. -/
theorem CW.pool' (H:CW w0 F t p g h c m s ws w){fs':List FR}{ws':List Nat}(hp:Pl w' p g h fs' ws')(he:Ex w w' g h):CW w0 F t p g h c m { s with fs:=fs' } ws' w':=
 have n:=H.ne
 ⟨he.row H.cache n.2.1 n.2.2.1,hp,H.map.ex (S:=fun k=>k=g∨k=h) (EX.of_ex he (.inl rfl) (.inr rfl)) (by rintro (e|e);(· exact n.2.2.2.2.2.1 e);(· exact n.2.2.2.2.2.2 e)),H.files,he.below H.low H.lg H.lh H.low.size,H.lg,H.lh,H.lc,H.lm,H.few,H.tb⟩
end
theorem ex_cS {w w':World}{g h c m:Nat}(he:Ex w w' g h):EX (cS g h c m) w w':=EX.of_ex he (.inr (.inr (.inl rfl))) (.inr (.inr (.inr rfl)))
set_option maxRecDepth 100000 in
set_option maxHeartbeats 8000000 in
theorem ctake_any (w0:World)(F:Nat)(t:FT)(p g h c m:Nat)(s:CC)(ws:List Nat)(rd:Int→Int→List UInt8 × Int)(hx:List Nat)(w:World)(H:CW w0 F t p g h c m s ws w)(G:Good rd s hx)(hs:hx.length≤1000000000):
 Calls Tryz.prog 27 #[.pointer (some ⟨c,0,none⟩)] w fun e w'=>e=.returned (.tuple #[.int .i64 (takC s).1,.int .i64 (takC s).2.1])∧(∃ ws',CW w0 F t p g h c m (takC s).2.2 ws' w')∧EX (cS g h c m) w w':=by
 obtain ⟨c0,c1,c2,c3⟩:=H.cells
 have hlc:=H.cache.lt
 have HTK:=hid (take_any p g h s.fs ws w H.pool H.tbl)
 have HM:=hid (show ∀ x∈s.fs,x.cnt<9223372036854775807 from fun x hx'=>by have:=G.small x hx';have:=H.few;omega)
 have HH:=hid H
 have HG:=hid G
 clear H G hs
 cases hl:lowR s.fs with
 | some k=>
  have ht:=takC_free hl
  have e1:takeE s.fs=0:=by unfold takeE;rw [hl]
  have e2:takeV s.fs=(k:Int):=by unfold takeV;rw [hl]
  have e3:takeS s.fs=s.fs.set k one0:=by unfold takeS;rw [hl]
  rw [e1,e2,e3] at HTK
  rw [ht]
  clear ht e1 e2 e3 hl
  go_enter Tryz.func27,Tryz.ntmps27
  go_wp2_with fail
  refine (HTK.out).mono ?_
  rintro e w1 ⟨rfl,⟨ws1,hp1⟩,he1⟩
  have HP1:=hid hp1
  have HE1:=hid he1
  clear hp1 he1
  go_wp2_with fail
  go_ret2
  exact ⟨rfl,⟨ws1,HH.out.pool' HP1.out HE1.out⟩,ex_cS HE1.out⟩
 | none=>
  have e1:takeE s.fs=4:=by unfold takeE;rw [hl]
  have e2:takeV s.fs=0:=by unfold takeV;rw [hl]
  have e3:takeS s.fs=s.fs:=by unfold takeS;rw [hl]
  rw [e1,e2,e3] at HTK
  have HL:=hid hl
  obtain ⟨R,hR⟩:∃ R,R=s.sl.find? (loB s.fs):=⟨_,rfl⟩
  have HR:=hid hR
  obtain ⟨T,hTk⟩:∃ T,T=takC s:=⟨_,rfl⟩
  rw [← hTk]
  have HTC:=hid hTk
  have HOL:=hid (fun (w':World) (ws':List Nat) (hc:CW w0 F t p g h c m s ws' w')=>by
   have:=oldest_any w0 F t p g h c m s ws' rd hx w' hc HG.out
   rw [← hR] at this
   exact this)
  clear e1 e2 e3 hl hR hTk
  go_enter Tryz.func27,Tryz.ntmps27
  go_wp2_with fail
  refine (HTK.out).mono ?_
  rintro e w1 ⟨rfl,⟨ws1,hp1⟩,he1⟩
  have HC1:=hid (show CW w0 F t p g h c m s ws1 w1 from HH.out.pool' hp1 he1)
  have HE1:=hid he1
  clear hp1 he1 c0 c1 c2 c3 hlc
  obtain ⟨c0,c1,c2,c3⟩:=HC1.out.cells
  have hlc:=HC1.out.cache.lt
  cases hRc:R with
  | none=>
   have HRN:=hid hRc
   subst hRc
   go_wp2_with fail
   refine (HOL.out w1 ws1 HC1.out).mono ?_
   rintro e w2 ⟨rfl,hb2⟩
   have HB2:=hid hb2
   simp only [Option.isSome_none,oldV,plK]
   clear hb2
   go_wp2_with fail
   go_ret2
   have ht:T=(0,4,s):=by rw [HTC.out];exact takC_none HL.out HR.out.symm
   rw [ht]
   exact ⟨rfl,⟨ws1,HC1.out.below (HB2.out.trans ((bal _).mono HB2.out.size))⟩,(ex_cS HE1.out).trans ((EX.of_below HB2.out).alloc _)⟩
  | some x=>
   subst hRc
   obtain ⟨k,ek,hk,h1,h0⟩:=HG.out.oldest (List.mem_of_find?_eq_some HR.out.symm) (List.find?_some HR.out.symm)
   have HX:=hid (List.mem_of_find?_eq_some HR.out.symm)
   obtain ⟨D,hD,hv⟩:=HC1.out.map
   have HIP:=hid (hv.ok x HX.out)
   have HLX:=hid (look_of HG.out HX.out)
   have ht:T=((k:Int),0,{ s with fs:=s.fs.set k one0,sl:=strikeS s.sl x.i x.p }):=by
    obtain ⟨e1,e2,e3,e4⟩:=take_down HL.out hk h1
    rw [HTC.out,takC_old HL.out HR.out.symm,ek,e2,e3,e4]
   have HT:=hid ht
   have HTD:=hid (take_down HL.out hk h1)
   have HEK:=hid ek
   clear hD hv ek hk h1 h0 ht
   simp only [Option.isSome_some,oldV] at HOL
   go_wp2_with fail
   refine (HOL.out w1 ws1 HC1.out).mono ?_
   rintro e w2 ⟨rfl,hb2⟩
   have HB2:=hid hb2
   unfold plK
   obtain ⟨w3,hw3⟩:∃ w3,w3=w2.alloc (.cells #[.int .i64 x.i,.int .i64 x.p] 158):=⟨_,rfl⟩
   have HB3:=hid (show Below w1.heap.size w1 w3 by rw [hw3];exact hb2.trans ((bal _).mono hb2.size))
   have HC3:=hid (HC1.out.below HB3.out)
   have HP3:=hid (show Row w3 w2.heap.size 158 [.int .i64 x.i,.int .i64 x.p] by rw [hw3];exact Row.new w2 _ _)
   have HW3:=hid hw3
   clear hb2 hw3 c0 c1 c2 c3 hlc
   go_wp2_with fail
   rw [← HW3.out]
   obtain ⟨c0,c1,c2,c3⟩:=HC3.out.cells
   have hlc:=HC3.out.cache.lt
   obtain ⟨p0,p1⟩:=HP3.out.two
   have hpl:=HP3.out.lt
   have hlk:=(show CM w3.drew m s.tn s.sl from HC3.out.map.same rfl).get HIP.out.1 HIP.out.2 HLX.out
   unfold plK keV at hlk
   have hfld:=fld_fr x.f x.t
   have HDN:=hid (down_any p g h s.fs ws1 x.f w3.drew HC3.out.pool.drew HM.out)
   go_wp2_with fail
   go_still_tail 11,(by kernel_rfl)
   show wpList _ _ _ _ _ w3.drew
   go_wp2_with fail
   refine (HDN.out).mono ?_
   rintro e w4 ⟨rfl,⟨ws4,hp4⟩,he4⟩
   have HE4:=hid (show EX (cS g h c m) w3 w4 from (EX.drew (EX.refl _)).trans (ex_cS he4))
   have HC4:=hid (show CW w0 F t p g h c m { s with fs:=downS s.fs x.f } ws4 w4 from (HC3.out.below (bdN (Below.refl _ _) 1)).pool' hp4 he4)
   have HP4:=hid (he4.row (HP3.out.drew) (fun e=>row_tys HP3.out HC3.out.pool.frames (by decide) e) (fun e=>row_tys HP3.out HC3.out.pool.words (by decide) e))
   clear hp4 he4 c0 c1 c2 c3 hlc p0 p1 hpl hlk hfld
   obtain ⟨w5,hrun,hcm,hg5,hz5⟩:=(show CM w4.drew m s.tn s.sl from HC4.out.map.same rfl).del HIP.out.1 HIP.out.2 0
   have HG5:=hid hg5
   have HCM5:=hid hcm
   clear hg5 hcm
   unfold plK at hrun
   obtain ⟨c0,c1,c2,c3⟩:=HC4.out.cells
   have hlc:=HC4.out.cache.lt
   obtain ⟨p0,p1⟩:=HP4.out.two
   have hpl:=HP4.out.lt
   go_wp2_with fail
   go_region
   clear c0 c1 c2 c3 hlc p0 p1 hpl hrun hz5
   have n:=HC4.out.ne
   have HE5:=hid (show EX (cS g h c m) w4 w5 from (EX.drew (EX.refl _)).trans (EX.of_grown HG5.out (fun k e _=>by cases e;exact .inr (.inl rfl))))
   have HC5:=hid (show CW w0 F t p g h c m { s with fs:=downS s.fs x.f,sl:=strikeS s.sl x.i x.p } ws4 w5 from
    ⟨HC4.out.cache.drew.grown HG5.out (by simpa using fun e=>n.2.2.2.1 e.symm),⟨HC4.out.pool.pool.drew.grown HG5.out (by simpa using fun e=>n.2.2.2.2.1 e.symm),HC4.out.pool.frames.drew.grown HG5.out (by simpa using fun e=>n.2.2.2.2.2.1 e.symm),HC4.out.pool.words.drew.grown HG5.out (by simpa using fun e=>n.2.2.2.2.2.2 e.symm),HC4.out.pool.ok,HC4.out.pool.n1,HC4.out.pool.n2,HC4.out.pool.wl,HC4.out.pool.wb,HC4.out.pool.c0⟩,HCM5.out,HC4.out.files,
     (show EX (cS g h c m) w4 w5 from HE5.out).below HC4.out.low (fun k hk=>by
      have h1:=HC4.out.lg;have h2:=HC4.out.lh;have h3:=HC4.out.lc;have h4:=HC4.out.lm
      rcases hk with rfl|rfl|rfl|rfl <;> assumption) HC4.out.low.size,HC4.out.lg,HC4.out.lh,HC4.out.lc,HC4.out.lm,HC4.out.few,HC4.out.tb⟩)
   clear n
   have HTK5:=hid (take_any p g h (downS s.fs x.f) ws4 w5 HC5.out.pool HC5.out.tbl)
   obtain ⟨c0,c1,c2,c3⟩:=HC5.out.cells
   have hlc:=HC5.out.cache.lt
   go_wp2_with fail
   refine (HTK5.out).mono ?_
   rintro e w6 ⟨rfl,⟨ws6,hp6⟩,he6⟩
   have HP6:=hid hp6
   have HE6:=hid he6
   rw [HEK.out,HTD.out.2.2.1,HTD.out.2.2.2]
   clear hp6 he6
   go_wp2_with fail
   go_ret2
   rw [HT.out]
   refine ⟨rfl,⟨ws6,?_⟩,(((ex_cS HE1.out).trans (EX.of_below HB3.out)).trans HE4.out).trans (HE5.out.trans (ex_cS HE6.out))⟩
   have:=HC5.out.pool' HP6.out HE6.out
   rw [HEK.out,HTD.out.2.1] at this
   exact this
theorem EX.nums {S:Nat→Prop}{w w':World}{k:IntKind}{ad:Option Addr}{len:Nat}{l:List Int}(h:EX S w w')(hb:Nums w k ad len l)(hn:∀ x,ad=some x→¬ S x.block):Nums w' k ad len l:=
 ⟨hb.hlen,fun i hi=>by
  obtain ⟨g,off,e,hc⟩:=hb.cell i hi
  exact ⟨g,off,e,h.cell hc (show ¬ S g from hn _ e)⟩⟩
set_option maxRecDepth 100000 in
set_option maxHeartbeats 8000000 in
theorem fill_any (w0:World)(F:Nat)(t:FT)(p g h c m:Nat)(s:CC)(ws:List Nat)(rd:Int→Int→List UInt8 × Int)(hx:List Nat)(w:World)(H:CW w0 F t p g h c m s ws w)(G:Good rd s hx)(hs:hx.length≤1000000000)
 (b:List UInt8) (ba:Option Addr) (cap:Nat) (hB:Nums w .u8 ba b.length (b2i b)) (hA:∀ x,ba=some x→¬ cS g h c m x.block) (hb:b.length≤4096):
 Calls Tryz.prog 78 #[.pointer (some ⟨c,0,none⟩),.slice ba b.length cap] w fun e w'=>e=.returned (.tuple #[.int .i64 (filC s b).1,.int .i64 (filC s b).2.1])∧(∃ ws',CW w0 F t p g h c m (filC s b).2.2 ws' w')∧EX (cS g h c m) w w':=by
 have HTK:=hid (ctake_any w0 F t p g h c m s ws rd hx w H G hs)
 have HBY:=hid hB
 have HA:=hid hA
 have HBL:=hid hb
 obtain ⟨T,hT⟩:∃ T,T=filC s b:=⟨_,rfl⟩
 rw [← hT]
 have HT:=hid hT
 rcases takC_case G with ⟨k,s1,ht,TT⟩|⟨ht,h0⟩
 ·have hf:=filC_ok ht TT b hb
  rw [ht] at HTK
  have HTT:=hid TT
  have HF:=hid (hT.trans hf)
  clear H G hB hA hb hT ht hf TT
  go_enter Tryz.func78,Tryz.ntmps78
  go_wp2_with fail
  refine (HTK.out).mono ?_
  rintro e w1 ⟨rfl,⟨ws1,hc1⟩,he1⟩
  have HC1:=hid hc1
  have HE1:=hid he1
  have HB1:=hid (he1.nums HBY.out HA.out)
  obtain ⟨c0,c1,c2,c3⟩:=hc1.cells
  have hlc:=hc1.cache.lt
  have hk:k<s1.fs.length:=by rw [HTT.out.fs,List.length_set];exact HTT.out.lt
  have e1:s1.fs[k]=one0:=by simp only [HTT.out.fs];rw [List.getElem_set_self]
  have hL:loadE s1.fs (k:Int) 0 b.length=0:=by
   have ec:cntF s1.fs (k:Int)=1:=by rw [cntF_at hk,e1];rfl
   have:=HBL.out
   unfold loadE takE withinB
   rw [ec]
   simp
   omega
  have HST:=hid (store_any p g h s1.fs ws1 (k:Int) 0 ba b.length cap (b2i b) w1 hc1.pool HB1.out (by have:=HBL.out;omega))
  have hL2:loadE s1.fs (k:Int) 0 (b2i b).length=0:=by rw [b2i_len];exact hL
  have hS:storeS s1.fs (k:Int) 0 (b2i b)=s1.fs.set k ⟨b2i b++List.replicate (4096-b.length) 0,1⟩:=by
   have e2:splice one0.bs (Int.toNat 0) (b2i b)=b2i b++List.replicate (4096-b.length) 0:=by
    show List.take 0 one0.bs++(b2i b++one0.bs.drop (0+(b2i b).length))=_
    rw [List.take_zero,List.nil_append,Nat.zero_add,b2i_len,one0_bs,List.drop_replicate]
   unfold storeS
   rw [if_pos hL2,Int.toNat_natCast,getF_at _ _ _ hk,e1,e2]
   rfl
  rw [hL,hS] at HST
  clear hc1 he1 hk e1 hL hL2 hS
  go_wp2_with fail
  refine (HST.out).mono ?_
  rintro e w2 ⟨rfl,hp2,he2⟩
  have HP2:=hid hp2
  have HE2:=hid he2
  clear hp2 he2
  go_wp2_with fail
  go_ret2
  rw [HF.out]
  exact ⟨rfl,⟨ws1,HC1.out.pool' HP2.out HE2.out⟩,HE1.out.trans (ex_cS HE2.out)⟩
 ·rw [ht] at HTK
  have hf:T=(0,4,s):=by
   rw [hT]
   unfold filC
   rw [ht]
   rfl
  have HF:=hid hf
  clear H G hB hA hb hT ht hf
  go_enter Tryz.func78,Tryz.ntmps78
  go_wp2_with fail
  refine (HTK.out).mono ?_
  rintro e w1 ⟨rfl,hc1,he1⟩
  have HC1:=hid hc1
  have HE1:=hid he1
  clear hc1 he1
  go_wp2_with fail
  go_ret2
  rw [HF.out]
  exact ⟨rfl,HC1.out,HE1.out⟩
def rdP16 (L:List ND)(i pg:Int):List UInt8 × Int:=readL L i (pg*4096) 4096
theorem rdP16_len (L:List ND)(i pg:Int):(rdP16 L i pg).1.length≤4096:=by
 unfold rdP16 readL
 split
 ·simp
 ·split
  ·simp
  ·split
   ·simp
   ·generalize L.getD i.toNat default=x
    unfold rdB
    simp
    omega
theorem b8_b2i (b:List UInt8):b.map B8=(b2i b).map (Value.int .u8):=by
 unfold b2i
 rw [List.map_map]
 rfl
theorem CW.setK {w0 w:World}{F:Nat}{t:FT}{p g h c m:Nat}{s:CC}{ws:List Nat}(H:CW w0 F t p g h c m s ws w){kb:Nat}{cs:List Value}(hr:Row w kb 162 cs)(hk:w0.heap.size≤kb)(o:Nat)(u:Value):CW w0 F t p g h c m s ws (w.setCell ⟨kb,o,none⟩ u):=
 ⟨H.cache.other (row_tys H.cache hr (by decide)) _,⟨H.pool.pool.other (row_tys H.pool.pool hr (by decide)) _,H.pool.frames.other (row_tys H.pool.frames hr (by decide)) _,H.pool.words.other (row_tys H.pool.words hr (by decide)) _,H.pool.ok,H.pool.n1,H.pool.n2,H.pool.wl,H.pool.wb,H.pool.c0⟩,
  H.map.same (heap_setCell_other _ _ m _ (H.map.row hr)),H.files,bset H.low hk _,H.lg,H.lh,H.lc,H.lm,H.few,H.tb⟩
set_option maxRecDepth 100000 in
set_option maxHeartbeats 8000000 in
theorem get_any (w0:World)(F:Nat)(t:FT)(p g h c m:Nat)(s:CC)(ws:List Nat)(hx:List Nat)(i pg:Int)(w:World)(H:CW w0 F t p g h c m s ws w)(G:Good (rdP16 t.L) s hx)(hs:hx.length≤1000000000)(hf:s.tn+1<1000000000)(hi:I64 i)(hp:I64 pg):
 Calls Tryz.prog 28 #[.pointer (some ⟨c,0,none⟩),.int .i64 i,.int .i64 pg] w fun e w'=>e=.returned (.tuple #[.int .i64 (getC (rdP16 t.L) s i pg).1,.int .i64 (getC (rdP16 t.L) s i pg).2.1])∧(∃ ws',CW w0 F t p g h c m (getC (rdP16 t.L) s i pg).2.2 ws' w')∧EX (cS g h c m) w w':=by
 have HH:=hid H
 have HG:=hid G
 have HS:=hid hs
 have HFEW:=hid hf
 have HIP:=hid (show I64 i∧I64 pg from ⟨hi,hp⟩)
 obtain ⟨T,hT⟩:∃ T,T=getC (rdP16 t.L) s i pg:=⟨_,rfl⟩
 rw [← hT]
 have HT:=hid hT
 by_cases h1:pg<0∨16≤pg
 ·have HF:=hid (show T=(0,1,s) by rw [hT];unfold getC;rw [if_pos h1])
  have e1:decide (pg<0)=true∨(decide (pg<0)=false∧decide (16≤pg)=true):=by
   by_cases h2:pg<0
   ·exact .inl (decide_eq_true h2)
   ·exact .inr ⟨decide_eq_false h2,by simp;omega⟩
  clear H G hs hf hi hp hT h1
  rcases e1 with e1|⟨e1,e2⟩
  ·go_enter Tryz.func28,Tryz.ntmps28
   go_wp2_with fail
   go_ret2
   rw [HF.out]
   exact ⟨rfl,⟨ws,HH.out⟩,EX.refl _⟩
  ·go_enter Tryz.func28,Tryz.ntmps28
   go_wp2_with fail
   go_ret2
   rw [HF.out]
   exact ⟨rfl,⟨ws,HH.out⟩,EX.refl _⟩
 have e1:decide (pg<0)=false:=by simp;omega
 have e2:decide (16≤pg)=false:=by simp;omega
 have ew:IntKind.i64.wrap (pg*4096)=pg*4096:=IntWalk.i64_in _ ⟨by omega,by omega⟩
 have HRD:=hid (read_any F t i (pg*4096) 4096 w H.fs)
 have hRR:readL t.L i (pg*4096) 4096=rdP16 t.L i pg:=rfl
 rw [hRR] at HRD
 obtain ⟨c0,c1,c2,c3⟩:=H.cells
 have hlc:=H.cache.lt
 have HPG:=hid h1
 clear H G hs hf hi hp hT h1 hRR
 cases hr:rdP16 t.L i pg with
 | mk bb er=>
 have HRR:=hid hr
 rw [hr] at HRD
 go_enter Tryz.func28,Tryz.ntmps28
 go_wp2_with fail
 refine (HRD.out).mono ?_
 rintro e w1 ⟨v,rfl,ho1,hb1⟩
 simp only at ho1
 rw [b8_b2i] at ho1
 obtain ⟨va,vc,rfl,hcl,hn,_,_,hG⟩:=own_cel2 ho1
 have HBB:=hid (show Nums w1 .u8 va bb.length (b2i bb) from ⟨b2i_len bb,fun i hi=>by
  obtain ⟨g,off,e,hc⟩:=hcl.cell i (by simpa using hi)
  exact ⟨g,off,e,by rw [hc];simp⟩⟩)
 have HVA:=hid (show ∀ x,va=some x→¬ cS g h c m x.block from fun x e hk=>by
  obtain ⟨G,rfl,hG1,_⟩:=hG x e
  have k1:=HH.out.cache.lt
  have k2:=HH.out.map.lt
  have k3:=HH.out.pool.frames.lt
  have k4:=HH.out.pool.words.lt
  simp only at hk
  rcases hk with rfl|rfl|rfl|rfl <;> omega)
 have HB1:=hid hb1
 have HC1:=hid (HH.out.below hb1)
 clear ho1 hcl hn hG hb1 hr ew
 by_cases h2:er=0
 rotate_left
 ·have d1:decide (er=0)=false:=decide_eq_false h2
  have d1b:(er != 0)=true:=by simp [h2]
  have HF:=hid (show T=(0,er,s) by rw [HT.out];unfold getC;rw [if_neg HPG.out,HRR.out,if_pos h2])
  clear h2
  go_wp2_with fail
  go_ret2
  rw [HF.out]
  exact ⟨rfl,⟨ws,HC1.out⟩,EX.of_below HB1.out⟩
 subst h2
 have HR0:=hid (show (rdP16 t.L i pg).2=0 by rw [HRR.out])
 have HRB:=hid (show (rdP16 t.L i pg).1=bb by rw [HRR.out])
 obtain ⟨w2,hw2⟩:∃ w2,w2=w1.alloc (.cells #[.int .i64 i,.int .i64 pg] 158):=⟨_,rfl⟩
 have HB2:=hid (show Below w1.heap.size w1 w2 by rw [hw2];exact bal _)
 have HC2:=hid (HC1.out.below HB2.out)
 have HP2:=hid (show Row w2 w1.heap.size 158 [.int .i64 i,.int .i64 pg] by rw [hw2];exact Row.new w1 _ _)
 have HBB2:=hid (show Nums w2 .u8 va bb.length (b2i bb) from ⟨HBB.out.hlen,fun i hi=>by
  obtain ⟨g,off,e,hc⟩:=HBB.out.cell i hi
  exact ⟨g,off,e,St.cell hc HB2.out⟩⟩)
 have HW2:=hid hw2
 have HZ2:=hid (show w2.heap.size=w1.heap.size+1 by rw [hw2,World.size_alloc])
 go_wp2_with fail
 rw [← HW2.out]
 clear hw2 c0 c1 c2 c3 hlc e1 e2
 have HFE:=hid (show getC (rdP16 t.L) s i pg=match lookS s.sl i pg with
  | some x=>(x.f,0,{ s with sl:=strikeS s.sl i pg++[⟨i,pg,x.f,(s.tn:Int)+1⟩],tn:=s.tn+1 })
  | none=>match filC s bb with
   | (f,e,s1)=>if e=0 then (f,0,{ s1 with sl:=strikeS s1.sl i pg++[⟨i,pg,f,(s1.tn:Int)+1⟩],tn:=s1.tn+1 }) else (0,e,s1) from by
  unfold getC
  rw [if_neg HPG.out,if_neg (by rw [HR0.out];simp),HRB.out]
  rfl)
 cases hlk:lookS s.sl i pg with
 | some x=>
  rw [hlk] at HFE
  have hl0:=(show CM (w2.alloc (.cells #[.int .i64 0,.int .u64 0] 162)).drew m s.tn s.sl from (HC2.out.map.below (bal _)).same rfl).look HIP.out.1 HIP.out.2
  have hl1:=(show CM w2.drew m s.tn s.sl from HC2.out.map.same rfl).look HIP.out.1 HIP.out.2
  rw [hlk] at hl0 hl1
  unfold plK at hl0 hl1
  simp only [Option.isSome_some] at hl0 hl1
  unfold keV at hl0 hl1
  obtain ⟨c0,c1,c2,c3⟩:=HC2.out.cells
  have hlc:=HC2.out.cache.lt
  obtain ⟨p0,p1⟩:=HP2.out.two
  have hpl:=HP2.out.lt
  clear hlk
  go_wp2_with fail
  go_region
  ·clear c0 c1 c2 c3 hlc p0 p1 hpl hl0 hl1
   obtain ⟨w3,hw3⟩:∃ w3,w3=(w2.alloc (.cells #[.int .i64 x.f,.int .u64 x.t] 162)).drew:=⟨_,rfl⟩
   have HB3:=hid (show Below w2.heap.size w2 w3 by rw [hw3];exact bdN (bal _) 1)
   have HC3:=hid (HC2.out.below HB3.out)
   have HK3:=hid (show Row w3 w2.heap.size 162 [.int .i64 x.f,.int .u64 x.t] by rw [hw3];exact (Row.new w2 _ _).drew)
   have HP3:=hid (HP2.out.below HB3.out HP2.out.lt)
   have HE3:=hid (show EX (cS g h c m) w w3 from (EX.of_below HB1.out).trans ((EX.of_below HB2.out).trans (EX.of_below HB3.out)))
   have HKB:=hid (show w.heap.size≤w2.heap.size from Nat.le_trans HB1.out.size HB2.out.size)
   rw [← hw3]
   have HW3:=hid hw3
   clear hw3
   have ePL:=HP3.out.lt
   have eKL:=HK3.out.lt
   have nKP:=row_tys HK3.out HP3.out (by decide)
   have nCK:=row_tys HC3.out.cache HK3.out (by decide)
   have nCP:=row_tys HC3.out.cache HP3.out (by decide)
   obtain ⟨c0,c1,c2,c3⟩:=HC3.out.cells
   have hlc:=HC3.out.cache.lt
   have hcf:=HC3.out.cache.frozen 3
   have hkf:=HK3.out.frozen 1
   have hkf0:=HK3.out.frozen 0
   obtain ⟨p0,p1⟩:=HP3.out.two
   obtain ⟨k0,k1⟩:=HK3.out.two
   have hkl0:=HK3.out.lt
   have hew:IntKind.u64.wrap ((s.tn:Int)+1)=(s.tn:Int)+1:=IntWalk.u64_in _ ⟨by omega,by have:=HC3.out.few;omega⟩
   obtain ⟨t1,ht1⟩:∃ t1:Int,t1=(s.tn:Int)+1:=⟨_,rfl⟩
   have HT1:=hid ht1
   obtain ⟨wq,hwq⟩:∃ wq,wq=(w3.setCell ⟨c,3,none⟩ (.int .u64 ((s.tn:Int)+1))).setCell ⟨w2.heap.size,1,none⟩ (.int .u64 ((s.tn:Int)+1)):=⟨_,rfl⟩
   have HWQ:=hid hwq
   have HCQ:=hid (show Row wq c 135 [.pointer (some ⟨p,0,none⟩),.pointer (some ⟨F,0,none⟩),.map (some m),.int .u64 ((s.tn:Int)+1)] by rw [hwq];exact (HC3.out.cache.set 3 _).other nCK _)
   have HPQ:=hid (show Row wq w1.heap.size 158 [.int .i64 i,.int .i64 pg] by rw [hwq];exact (HP3.out.other (Ne.symm nCP) _).other (Ne.symm nKP) _)
   have HKQ:=hid (show Row wq w2.heap.size 162 [.int .i64 x.f,.int .u64 ((s.tn:Int)+1)] by rw [hwq];exact (HK3.out.other (Ne.symm nCK) _).set 1 _)
   have HEQ:=hid (show EX (cS g h c m) w wq by rw [hwq];exact (HE3.out.set (.inl (.inl rfl)) 3 _).set (.inr HKB.out) 1 _)
   have HMQ:=hid (show CM wq m s.tn s.sl by rw [hwq];exact HC3.out.map.same ((heap_setCell_other _ _ m _ (Ne.symm (Ne.symm (HC3.out.map.row HK3.out)))).trans (heap_setCell_other _ _ m _ (HC3.out.map.row HC3.out.cache))))
   have HPOQ:=hid (show Pl wq p g h s.fs ws by
    have q1:=HC3.out.ne
    have o1:=row_tys HC3.out.pool.pool HK3.out (by decide)
    have o2:=row_tys HC3.out.pool.frames HK3.out (by decide)
    have o3:=row_tys HC3.out.pool.words HK3.out (by decide)
    rw [hwq]
    exact ⟨(HC3.out.pool.pool.other (Ne.symm q1.1) _).other o1 _,(HC3.out.pool.frames.other (Ne.symm q1.2.1) _).other o2 _,(HC3.out.pool.words.other (Ne.symm q1.2.2.1) _).other o3 _,HC3.out.pool.ok,HC3.out.pool.n1,HC3.out.pool.n2,HC3.out.pool.wl,HC3.out.pool.wb,HC3.out.pool.c0⟩)
   clear hwq ht1
   go_wp2_with fail
   rw [← HWQ.out]
   clear hkf0 hkl0 c0 c1 c2 c3 hlc hcf hkf p0 p1 k0 k1 hew ePL eKL nKP nCK nCP
   obtain ⟨wz,hrun,hcm,hgz,hzz⟩:=(show CM wq.drew m s.tn s.sl from HMQ.out.same rfl).put (f:=x.f) (t:=(s.tn:Int)+1) (by have:=HC3.out.few;unfold maxLen;omega) HIP.out.1 HIP.out.2
   unfold plK keV at hrun
   have HCM:=hid hcm
   have HGZ:=hid hgz
   obtain ⟨c0,c1,c2,c3⟩:=HCQ.out.four
   have hlc:=HCQ.out.lt
   obtain ⟨p0,p1⟩:=HPQ.out.two
   have hpl:=HPQ.out.lt
   obtain ⟨k0,k1⟩:=HKQ.out.two
   have hkl:=HKQ.out.lt
   clear hcm hgz
   go_wp2_with fail
   go_region
   clear c0 c1 c2 c3 hlc p0 p1 hpl k0 k1 hkl hrun hzz
   have kz:=(HKQ.out.drew.grown HGZ.out (by simpa using fun e=>(HMQ.out.row HKQ.out) e.symm)).two
   obtain ⟨k0,k1⟩:=kz
   have hkl:=(HKQ.out.drew.grown HGZ.out (by simpa using fun e=>(HMQ.out.row HKQ.out) e.symm)).lt
   go_wp2_with fail
   go_ret2
   rw [HT.out,HFE.out]
   have n1:=fun {gg:Nat} {T:TypeId} {cs:List Value} (hr:Row wq gg T cs)=>hr.drew.grown HGZ.out (by simpa using fun e=>(HMQ.out.row hr) e.symm)
   have hez:EX (cS g h c m) w wz:=(HEQ.out.drew).trans (EX.of_grown HGZ.out (fun k e _=>by cases e;exact .inr (.inl rfl)))
   refine ⟨rfl,⟨ws,n1 HCQ.out,⟨n1 HPOQ.out.pool,n1 HPOQ.out.frames,n1 HPOQ.out.words,HPOQ.out.ok,HPOQ.out.n1,HPOQ.out.n2,HPOQ.out.wl,HPOQ.out.wb,HPOQ.out.c0⟩,HCM.out,HH.out.files,hez.below HH.out.low (fun k hk=>by
    have h1:=HH.out.lg;have h2:=HH.out.lh;have h3:=HH.out.lc;have h4:=HH.out.lm
    rcases hk with rfl|rfl|rfl|rfl <;> assumption) HH.out.low.size,HH.out.lg,HH.out.lh,HH.out.lc,HH.out.lm,HFEW.out,HH.out.tb⟩,hez⟩
  ·clear c0 c1 c2 c3 hlc p0 p1 hpl hl0 hl1
   obtain ⟨w3,hw3⟩:∃ w3,w3=(w2.alloc (.cells #[.int .i64 x.f,.int .u64 x.t] 162)).drew:=⟨_,rfl⟩
   have HB3:=hid (show Below w2.heap.size w2 w3 by rw [hw3];exact bdN (bal _) 1)
   have HC3:=hid (HC2.out.below HB3.out)
   have HK3:=hid (show Row w3 w2.heap.size 162 [.int .i64 x.f,.int .u64 x.t] by rw [hw3];exact (Row.new w2 _ _).drew)
   have HP3:=hid (HP2.out.below HB3.out HP2.out.lt)
   have HE3:=hid (show EX (cS g h c m) w w3 from (EX.of_below HB1.out).trans ((EX.of_below HB2.out).trans (EX.of_below HB3.out)))
   have HKB:=hid (show w.heap.size≤w2.heap.size from Nat.le_trans HB1.out.size HB2.out.size)
   rw [← hw3]
   have HW3:=hid hw3
   clear hw3
   have ePL:=HP3.out.lt
   have eKL:=HK3.out.lt
   have nKP:=row_tys HK3.out HP3.out (by decide)
   have nCK:=row_tys HC3.out.cache HK3.out (by decide)
   have nCP:=row_tys HC3.out.cache HP3.out (by decide)
   obtain ⟨c0,c1,c2,c3⟩:=HC3.out.cells
   have hlc:=HC3.out.cache.lt
   have hcf:=HC3.out.cache.frozen 3
   have hkf:=HK3.out.frozen 1
   have hkf0:=HK3.out.frozen 0
   obtain ⟨p0,p1⟩:=HP3.out.two
   obtain ⟨k0,k1⟩:=HK3.out.two
   have hkl0:=HK3.out.lt
   have hew:IntKind.u64.wrap ((s.tn:Int)+1)=(s.tn:Int)+1:=IntWalk.u64_in _ ⟨by omega,by have:=HC3.out.few;omega⟩
   obtain ⟨t1,ht1⟩:∃ t1:Int,t1=(s.tn:Int)+1:=⟨_,rfl⟩
   have HT1:=hid ht1
   obtain ⟨wq,hwq⟩:∃ wq,wq=(w3.setCell ⟨c,3,none⟩ (.int .u64 ((s.tn:Int)+1))).setCell ⟨w2.heap.size,1,none⟩ (.int .u64 ((s.tn:Int)+1)):=⟨_,rfl⟩
   have HWQ:=hid hwq
   have HCQ:=hid (show Row wq c 135 [.pointer (some ⟨p,0,none⟩),.pointer (some ⟨F,0,none⟩),.map (some m),.int .u64 ((s.tn:Int)+1)] by rw [hwq];exact (HC3.out.cache.set 3 _).other nCK _)
   have HPQ:=hid (show Row wq w1.heap.size 158 [.int .i64 i,.int .i64 pg] by rw [hwq];exact (HP3.out.other (Ne.symm nCP) _).other (Ne.symm nKP) _)
   have HKQ:=hid (show Row wq w2.heap.size 162 [.int .i64 x.f,.int .u64 ((s.tn:Int)+1)] by rw [hwq];exact (HK3.out.other (Ne.symm nCK) _).set 1 _)
   have HEQ:=hid (show EX (cS g h c m) w wq by rw [hwq];exact (HE3.out.set (.inl (.inl rfl)) 3 _).set (.inr HKB.out) 1 _)
   have HMQ:=hid (show CM wq m s.tn s.sl by rw [hwq];exact HC3.out.map.same ((heap_setCell_other _ _ m _ (Ne.symm (Ne.symm (HC3.out.map.row HK3.out)))).trans (heap_setCell_other _ _ m _ (HC3.out.map.row HC3.out.cache))))
   have HPOQ:=hid (show Pl wq p g h s.fs ws by
    have q1:=HC3.out.ne
    have o1:=row_tys HC3.out.pool.pool HK3.out (by decide)
    have o2:=row_tys HC3.out.pool.frames HK3.out (by decide)
    have o3:=row_tys HC3.out.pool.words HK3.out (by decide)
    rw [hwq]
    exact ⟨(HC3.out.pool.pool.other (Ne.symm q1.1) _).other o1 _,(HC3.out.pool.frames.other (Ne.symm q1.2.1) _).other o2 _,(HC3.out.pool.words.other (Ne.symm q1.2.2.1) _).other o3 _,HC3.out.pool.ok,HC3.out.pool.n1,HC3.out.pool.n2,HC3.out.pool.wl,HC3.out.pool.wb,HC3.out.pool.c0⟩)
   clear hwq ht1
   go_wp2_with fail
   rw [← HWQ.out]
   clear hkf0 hkl0 c0 c1 c2 c3 hlc hcf hkf p0 p1 k0 k1 hew ePL eKL nKP nCK nCP
   obtain ⟨wz,hrun,hcm,hgz,hzz⟩:=(show CM wq.drew m s.tn s.sl from HMQ.out.same rfl).put (f:=x.f) (t:=(s.tn:Int)+1) (by have:=HC3.out.few;unfold maxLen;omega) HIP.out.1 HIP.out.2
   unfold plK keV at hrun
   have HCM:=hid hcm
   have HGZ:=hid hgz
   obtain ⟨c0,c1,c2,c3⟩:=HCQ.out.four
   have hlc:=HCQ.out.lt
   obtain ⟨p0,p1⟩:=HPQ.out.two
   have hpl:=HPQ.out.lt
   obtain ⟨k0,k1⟩:=HKQ.out.two
   have hkl:=HKQ.out.lt
   clear hcm hgz
   go_wp2_with fail
   go_region
   clear c0 c1 c2 c3 hlc p0 p1 hpl k0 k1 hkl hrun hzz
   have kz:=(HKQ.out.drew.grown HGZ.out (by simpa using fun e=>(HMQ.out.row HKQ.out) e.symm)).two
   obtain ⟨k0,k1⟩:=kz
   have hkl:=(HKQ.out.drew.grown HGZ.out (by simpa using fun e=>(HMQ.out.row HKQ.out) e.symm)).lt
   go_wp2_with fail
   go_ret2
   rw [HT.out,HFE.out]
   have n1:=fun {gg:Nat} {T:TypeId} {cs:List Value} (hr:Row wq gg T cs)=>hr.drew.grown HGZ.out (by simpa using fun e=>(HMQ.out.row hr) e.symm)
   have hez:EX (cS g h c m) w wz:=(HEQ.out.drew).trans (EX.of_grown HGZ.out (fun k e _=>by cases e;exact .inr (.inl rfl)))
   refine ⟨rfl,⟨ws,n1 HCQ.out,⟨n1 HPOQ.out.pool,n1 HPOQ.out.frames,n1 HPOQ.out.words,HPOQ.out.ok,HPOQ.out.n1,HPOQ.out.n2,HPOQ.out.wl,HPOQ.out.wb,HPOQ.out.c0⟩,HCM.out,HH.out.files,hez.below HH.out.low (fun k hk=>by
    have h1:=HH.out.lg;have h2:=HH.out.lh;have h3:=HH.out.lc;have h4:=HH.out.lm
    rcases hk with rfl|rfl|rfl|rfl <;> assumption) HH.out.low.size,HH.out.lg,HH.out.lh,HH.out.lc,HH.out.lm,HFEW.out,HH.out.tb⟩,hez⟩
 | none=>
  rw [hlk] at HFE
  have hl0:=(show CM (w2.alloc (.cells #[.int .i64 0,.int .u64 0] 162)).drew m s.tn s.sl from (HC2.out.map.below (bal _)).same rfl).look HIP.out.1 HIP.out.2
  have hl1:=(show CM w2.drew m s.tn s.sl from HC2.out.map.same rfl).look HIP.out.1 HIP.out.2
  rw [hlk] at hl0 hl1
  unfold plK at hl0 hl1
  simp only [Option.isSome_none] at hl0 hl1
  unfold keV at hl0 hl1
  obtain ⟨c0,c1,c2,c3⟩:=HC2.out.cells
  have hlc:=HC2.out.cache.lt
  obtain ⟨p0,p1⟩:=HP2.out.two
  have hpl:=HP2.out.lt
  clear hlk
  go_wp2_with fail
  go_region
  ·clear c0 c1 c2 c3 hlc p0 p1 hpl hl0 hl1
   obtain ⟨w3,hw3⟩:∃ w3,w3=(w2.alloc (.cells #[.int .i64 0,.int .u64 0] 162)).drew:=⟨_,rfl⟩
   have HB3:=hid (show Below w2.heap.size w2 w3 by rw [hw3];exact bdN (bal _) 1)
   have HC3:=hid (HC2.out.below HB3.out)
   have HK3:=hid (show Row w3 w2.heap.size 162 [.int .i64 0,.int .u64 0] by rw [hw3];exact (Row.new w2 _ _).drew)
   have HP3:=hid (HP2.out.below HB3.out HP2.out.lt)
   have HE3:=hid (show EX (cS g h c m) w w3 from (EX.of_below HB1.out).trans ((EX.of_below HB2.out).trans (EX.of_below HB3.out)))
   have HKB:=hid (show w.heap.size≤w2.heap.size from Nat.le_trans HB1.out.size HB2.out.size)
   rw [← hw3]
   have HW3:=hid hw3
   clear hw3
   have HFI:=hid (fill_any w0 F t p g h c m s ws (rdP16 t.L) hx w3 HC3.out HG.out HS.out bb va vc ⟨HBB2.out.hlen,fun i hi=>by
    obtain ⟨g,off,e,hc⟩:=HBB2.out.cell i hi
    exact ⟨g,off,e,St.cell hc HB3.out⟩⟩ HVA.out (by rw [← HRB.out];exact rdP16_len _ _ _))
   have hcc:=HC3.out.cache.lt
   go_wp2_with fail
   refine (HFI.out).mono ?_
   rintro e w4 ⟨rfl,⟨ws4,hc4⟩,he4⟩
   have HC4:=hid hc4
   have HE4:=hid he4
   have nS:∀ {gg:Nat} {T:TypeId} {cs:List Value},Row w3 gg T cs→T≠135→T≠96→T≠36→¬ cS g h c m gg:=fun hr h1 h2 h3 hk=>by
    rcases hk with rfl|rfl|rfl|rfl
    ·exact row_tys hr HC3.out.cache h1 rfl
    ·exact HC3.out.map.row hr rfl
    ·exact row_tys hr HC3.out.pool.frames h2 rfl
    ·exact row_tys hr HC3.out.pool.words h3 rfl
   have HK4:=hid (he4.row HK3.out (nS HK3.out (by decide) (by decide) (by decide)))
   have HP4:=hid (he4.row HP3.out (nS HP3.out (by decide) (by decide) (by decide)))
   have hkf:=HK4.out.frozen 0
   obtain ⟨k0,k1⟩:=HK4.out.two
   have hkl:=HK4.out.lt
   clear hc4 he4 nS hcc
   rcases takC_case HG.out with ⟨kk,sa,hta,TT⟩|⟨hta,h0⟩
   ·have hfc:=filC_ok hta TT bb (by rw [← HRB.out];exact rdP16_len _ _ _)
    obtain ⟨sb,hsb⟩:∃ sb:CC,sb={ sa with fs:=sa.fs.set kk ⟨b2i bb++List.replicate (4096-bb.length) 0,1⟩ }:=⟨_,rfl⟩
    rw [← hsb] at hfc
    have HTN:=hid (show sb.tn+1<1000000000 by rw [hsb];simp only [TT.tn];exact HFEW.out)
    rw [hfc] at HC4 HFE
    rw [hfc]
    simp only [if_pos] at HFE
    have HFC:=hid hfc
    clear hfc hta TT hsb
    obtain ⟨w5,hw5⟩:∃ w5,w5=w4.setCell ⟨w2.heap.size,0,none⟩ (.int .i64 (kk:Int)):=⟨_,rfl⟩
    have HW5:=hid hw5
    have HC5:=hid (show CW w0 F t p g h c m sb ws4 w5 by rw [hw5];exact HC4.out.setK HK4.out (Nat.le_trans HH.out.low.size HKB.out) _ _)
    have HK5:=hid (show Row w5 w2.heap.size 162 [.int .i64 (kk:Int),.int .u64 0] by rw [hw5];exact HK4.out.set 0 _)
    have HP5:=hid (show Row w5 w1.heap.size 158 [.int .i64 i,.int .i64 pg] by rw [hw5];exact HP4.out.other (row_tys HP4.out HK4.out (by decide)) _)
    have HE5:=hid (show EX (cS g h c m) w w5 by rw [hw5];exact (HE3.out.trans HE4.out).set (.inr HKB.out) _ _)
    clear hw5 k0 k1 hkl hkf
    have ePL:=HP5.out.lt
    have eKL:=HK5.out.lt
    have nKP:=row_tys HK5.out HP5.out (by decide)
    have nCK:=row_tys HC5.out.cache HK5.out (by decide)
    have nCP:=row_tys HC5.out.cache HP5.out (by decide)
    obtain ⟨c0,c1,c2,c3⟩:=HC4.out.cells
    have hlc:=HC4.out.cache.lt
    have hcf:=HC4.out.cache.frozen 3
    have hkf:=HK4.out.frozen 1
    have hkf0:=HK4.out.frozen 0
    obtain ⟨p0,p1⟩:=HP4.out.two
    obtain ⟨k0,k1⟩:=HK4.out.two
    have hkl0:=HK4.out.lt
    have hew:IntKind.u64.wrap ((sb.tn:Int)+1)=(sb.tn:Int)+1:=IntWalk.u64_in _ ⟨by omega,by have:=HC5.out.few;omega⟩
    obtain ⟨t1,ht1⟩:∃ t1:Int,t1=(sb.tn:Int)+1:=⟨_,rfl⟩
    have HT1:=hid ht1
    obtain ⟨wq,hwq⟩:∃ wq,wq=(w5.setCell ⟨c,3,none⟩ (.int .u64 ((sb.tn:Int)+1))).setCell ⟨w2.heap.size,1,none⟩ (.int .u64 ((sb.tn:Int)+1)):=⟨_,rfl⟩
    have HWQ:=hid hwq
    have HCQ:=hid (show Row wq c 135 [.pointer (some ⟨p,0,none⟩),.pointer (some ⟨F,0,none⟩),.map (some m),.int .u64 ((sb.tn:Int)+1)] by rw [hwq];exact (HC5.out.cache.set 3 _).other nCK _)
    have HPQ:=hid (show Row wq w1.heap.size 158 [.int .i64 i,.int .i64 pg] by rw [hwq];exact (HP5.out.other (Ne.symm nCP) _).other (Ne.symm nKP) _)
    have HKQ:=hid (show Row wq w2.heap.size 162 [.int .i64 (kk:Int),.int .u64 ((sb.tn:Int)+1)] by rw [hwq];exact (HK5.out.other (Ne.symm nCK) _).set 1 _)
    have HEQ:=hid (show EX (cS g h c m) w wq by rw [hwq];exact (HE5.out.set (.inl (.inl rfl)) 3 _).set (.inr HKB.out) 1 _)
    have HMQ:=hid (show CM wq m sb.tn sb.sl by rw [hwq];exact HC5.out.map.same ((heap_setCell_other _ _ m _ (Ne.symm (Ne.symm (HC5.out.map.row HK5.out)))).trans (heap_setCell_other _ _ m _ (HC5.out.map.row HC5.out.cache))))
    have HPOQ:=hid (show Pl wq p g h sb.fs ws4 by
     have q1:=HC5.out.ne
     have o1:=row_tys HC5.out.pool.pool HK5.out (by decide)
     have o2:=row_tys HC5.out.pool.frames HK5.out (by decide)
     have o3:=row_tys HC5.out.pool.words HK5.out (by decide)
     rw [hwq]
     exact ⟨(HC5.out.pool.pool.other (Ne.symm q1.1) _).other o1 _,(HC5.out.pool.frames.other (Ne.symm q1.2.1) _).other o2 _,(HC5.out.pool.words.other (Ne.symm q1.2.2.1) _).other o3 _,HC5.out.pool.ok,HC5.out.pool.n1,HC5.out.pool.n2,HC5.out.pool.wl,HC5.out.pool.wb,HC5.out.pool.c0⟩)
    clear hwq ht1
    go_wp2_with fail
    rw [← HW5.out]
    rw [← HWQ.out]
    clear hkf0 hkl0 c0 c1 c2 c3 hlc hcf hkf p0 p1 k0 k1 hew ePL eKL nKP nCK nCP
    obtain ⟨wz,hrun,hcm,hgz,hzz⟩:=(show CM wq.drew m sb.tn sb.sl from HMQ.out.same rfl).put (f:=(kk:Int)) (t:=(sb.tn:Int)+1) (by have:=HC5.out.few;unfold maxLen;omega) HIP.out.1 HIP.out.2
    unfold plK keV at hrun
    have HCM:=hid hcm
    have HGZ:=hid hgz
    obtain ⟨c0,c1,c2,c3⟩:=HCQ.out.four
    have hlc:=HCQ.out.lt
    obtain ⟨p0,p1⟩:=HPQ.out.two
    have hpl:=HPQ.out.lt
    obtain ⟨k0,k1⟩:=HKQ.out.two
    have hkl:=HKQ.out.lt
    clear hcm hgz
    go_wp2_with fail
    go_region
    clear c0 c1 c2 c3 hlc p0 p1 hpl k0 k1 hkl hrun hzz
    have kz:=(HKQ.out.drew.grown HGZ.out (by simpa using fun e=>(HMQ.out.row HKQ.out) e.symm)).two
    obtain ⟨k0,k1⟩:=kz
    have hkl:=(HKQ.out.drew.grown HGZ.out (by simpa using fun e=>(HMQ.out.row HKQ.out) e.symm)).lt
    go_wp2_with fail
    go_ret2
    rw [HT.out,HFE.out]
    have n1:=fun {gg:Nat} {T:TypeId} {cs:List Value} (hr:Row wq gg T cs)=>hr.drew.grown HGZ.out (by simpa using fun e=>(HMQ.out.row hr) e.symm)
    have hez:EX (cS g h c m) w wz:=(HEQ.out.drew).trans (EX.of_grown HGZ.out (fun k e _=>by cases e;exact .inr (.inl rfl)))
    refine ⟨rfl,⟨ws4,n1 HCQ.out,⟨n1 HPOQ.out.pool,n1 HPOQ.out.frames,n1 HPOQ.out.words,HPOQ.out.ok,HPOQ.out.n1,HPOQ.out.n2,HPOQ.out.wl,HPOQ.out.wb,HPOQ.out.c0⟩,HCM.out,HH.out.files,hez.below HH.out.low (fun k hk=>by
     have h1:=HH.out.lg;have h2:=HH.out.lh;have h3:=HH.out.lc;have h4:=HH.out.lm
     rcases hk with rfl|rfl|rfl|rfl <;> assumption) HH.out.low.size,HH.out.lg,HH.out.lh,HH.out.lc,HH.out.lm,HTN.out,HH.out.tb⟩,hez⟩
   ·have hfc:filC s bb=(0,4,s):=by
     unfold filC
     rw [hta]
     rfl
    rw [hfc] at HC4 HFE
    rw [hfc]
    simp only [show ¬ ((4:Int)=0) by decide,if_false] at HFE
    clear hfc hta h0
    go_wp2_with fail
    go_ret2
    rw [HT.out,HFE.out]
    exact ⟨rfl,⟨ws4,HC4.out.setK HK4.out (Nat.le_trans HH.out.low.size HKB.out) _ _⟩,(HE3.out.trans HE4.out).set (.inr HKB.out) _ _⟩
  ·clear c0 c1 c2 c3 hlc p0 p1 hpl hl0 hl1
   obtain ⟨w3,hw3⟩:∃ w3,w3=(w2.alloc (.cells #[.int .i64 0,.int .u64 0] 162)).drew:=⟨_,rfl⟩
   have HB3:=hid (show Below w2.heap.size w2 w3 by rw [hw3];exact bdN (bal _) 1)
   have HC3:=hid (HC2.out.below HB3.out)
   have HK3:=hid (show Row w3 w2.heap.size 162 [.int .i64 0,.int .u64 0] by rw [hw3];exact (Row.new w2 _ _).drew)
   have HP3:=hid (HP2.out.below HB3.out HP2.out.lt)
   have HE3:=hid (show EX (cS g h c m) w w3 from (EX.of_below HB1.out).trans ((EX.of_below HB2.out).trans (EX.of_below HB3.out)))
   have HKB:=hid (show w.heap.size≤w2.heap.size from Nat.le_trans HB1.out.size HB2.out.size)
   rw [← hw3]
   have HW3:=hid hw3
   clear hw3
   have HFI:=hid (fill_any w0 F t p g h c m s ws (rdP16 t.L) hx w3 HC3.out HG.out HS.out bb va vc ⟨HBB2.out.hlen,fun i hi=>by
    obtain ⟨g,off,e,hc⟩:=HBB2.out.cell i hi
    exact ⟨g,off,e,St.cell hc HB3.out⟩⟩ HVA.out (by rw [← HRB.out];exact rdP16_len _ _ _))
   have hcc:=HC3.out.cache.lt
   go_wp2_with fail
   refine (HFI.out).mono ?_
   rintro e w4 ⟨rfl,⟨ws4,hc4⟩,he4⟩
   have HC4:=hid hc4
   have HE4:=hid he4
   have nS:∀ {gg:Nat} {T:TypeId} {cs:List Value},Row w3 gg T cs→T≠135→T≠96→T≠36→¬ cS g h c m gg:=fun hr h1 h2 h3 hk=>by
    rcases hk with rfl|rfl|rfl|rfl
    ·exact row_tys hr HC3.out.cache h1 rfl
    ·exact HC3.out.map.row hr rfl
    ·exact row_tys hr HC3.out.pool.frames h2 rfl
    ·exact row_tys hr HC3.out.pool.words h3 rfl
   have HK4:=hid (he4.row HK3.out (nS HK3.out (by decide) (by decide) (by decide)))
   have HP4:=hid (he4.row HP3.out (nS HP3.out (by decide) (by decide) (by decide)))
   have hkf:=HK4.out.frozen 0
   obtain ⟨k0,k1⟩:=HK4.out.two
   have hkl:=HK4.out.lt
   clear hc4 he4 nS hcc
   rcases takC_case HG.out with ⟨kk,sa,hta,TT⟩|⟨hta,h0⟩
   ·have hfc:=filC_ok hta TT bb (by rw [← HRB.out];exact rdP16_len _ _ _)
    obtain ⟨sb,hsb⟩:∃ sb:CC,sb={ sa with fs:=sa.fs.set kk ⟨b2i bb++List.replicate (4096-bb.length) 0,1⟩ }:=⟨_,rfl⟩
    rw [← hsb] at hfc
    have HTN:=hid (show sb.tn+1<1000000000 by rw [hsb];simp only [TT.tn];exact HFEW.out)
    rw [hfc] at HC4 HFE
    rw [hfc]
    simp only [if_pos] at HFE
    have HFC:=hid hfc
    clear hfc hta TT hsb
    obtain ⟨w5,hw5⟩:∃ w5,w5=w4.setCell ⟨w2.heap.size,0,none⟩ (.int .i64 (kk:Int)):=⟨_,rfl⟩
    have HW5:=hid hw5
    have HC5:=hid (show CW w0 F t p g h c m sb ws4 w5 by rw [hw5];exact HC4.out.setK HK4.out (Nat.le_trans HH.out.low.size HKB.out) _ _)
    have HK5:=hid (show Row w5 w2.heap.size 162 [.int .i64 (kk:Int),.int .u64 0] by rw [hw5];exact HK4.out.set 0 _)
    have HP5:=hid (show Row w5 w1.heap.size 158 [.int .i64 i,.int .i64 pg] by rw [hw5];exact HP4.out.other (row_tys HP4.out HK4.out (by decide)) _)
    have HE5:=hid (show EX (cS g h c m) w w5 by rw [hw5];exact (HE3.out.trans HE4.out).set (.inr HKB.out) _ _)
    clear hw5 k0 k1 hkl hkf
    have ePL:=HP5.out.lt
    have eKL:=HK5.out.lt
    have nKP:=row_tys HK5.out HP5.out (by decide)
    have nCK:=row_tys HC5.out.cache HK5.out (by decide)
    have nCP:=row_tys HC5.out.cache HP5.out (by decide)
    obtain ⟨c0,c1,c2,c3⟩:=HC4.out.cells
    have hlc:=HC4.out.cache.lt
    have hcf:=HC4.out.cache.frozen 3
    have hkf:=HK4.out.frozen 1
    have hkf0:=HK4.out.frozen 0
    obtain ⟨p0,p1⟩:=HP4.out.two
    obtain ⟨k0,k1⟩:=HK4.out.two
    have hkl0:=HK4.out.lt
    have hew:IntKind.u64.wrap ((sb.tn:Int)+1)=(sb.tn:Int)+1:=IntWalk.u64_in _ ⟨by omega,by have:=HC5.out.few;omega⟩
    obtain ⟨t1,ht1⟩:∃ t1:Int,t1=(sb.tn:Int)+1:=⟨_,rfl⟩
    have HT1:=hid ht1
    obtain ⟨wq,hwq⟩:∃ wq,wq=(w5.setCell ⟨c,3,none⟩ (.int .u64 ((sb.tn:Int)+1))).setCell ⟨w2.heap.size,1,none⟩ (.int .u64 ((sb.tn:Int)+1)):=⟨_,rfl⟩
    have HWQ:=hid hwq
    have HCQ:=hid (show Row wq c 135 [.pointer (some ⟨p,0,none⟩),.pointer (some ⟨F,0,none⟩),.map (some m),.int .u64 ((sb.tn:Int)+1)] by rw [hwq];exact (HC5.out.cache.set 3 _).other nCK _)
    have HPQ:=hid (show Row wq w1.heap.size 158 [.int .i64 i,.int .i64 pg] by rw [hwq];exact (HP5.out.other (Ne.symm nCP) _).other (Ne.symm nKP) _)
    have HKQ:=hid (show Row wq w2.heap.size 162 [.int .i64 (kk:Int),.int .u64 ((sb.tn:Int)+1)] by rw [hwq];exact (HK5.out.other (Ne.symm nCK) _).set 1 _)
    have HEQ:=hid (show EX (cS g h c m) w wq by rw [hwq];exact (HE5.out.set (.inl (.inl rfl)) 3 _).set (.inr HKB.out) 1 _)
    have HMQ:=hid (show CM wq m sb.tn sb.sl by rw [hwq];exact HC5.out.map.same ((heap_setCell_other _ _ m _ (Ne.symm (Ne.symm (HC5.out.map.row HK5.out)))).trans (heap_setCell_other _ _ m _ (HC5.out.map.row HC5.out.cache))))
    have HPOQ:=hid (show Pl wq p g h sb.fs ws4 by
     have q1:=HC5.out.ne
     have o1:=row_tys HC5.out.pool.pool HK5.out (by decide)
     have o2:=row_tys HC5.out.pool.frames HK5.out (by decide)
     have o3:=row_tys HC5.out.pool.words HK5.out (by decide)
     rw [hwq]
     exact ⟨(HC5.out.pool.pool.other (Ne.symm q1.1) _).other o1 _,(HC5.out.pool.frames.other (Ne.symm q1.2.1) _).other o2 _,(HC5.out.pool.words.other (Ne.symm q1.2.2.1) _).other o3 _,HC5.out.pool.ok,HC5.out.pool.n1,HC5.out.pool.n2,HC5.out.pool.wl,HC5.out.pool.wb,HC5.out.pool.c0⟩)
    clear hwq ht1
    go_wp2_with fail
    rw [← HW5.out]
    rw [← HWQ.out]
    clear hkf0 hkl0 c0 c1 c2 c3 hlc hcf hkf p0 p1 k0 k1 hew ePL eKL nKP nCK nCP
    obtain ⟨wz,hrun,hcm,hgz,hzz⟩:=(show CM wq.drew m sb.tn sb.sl from HMQ.out.same rfl).put (f:=(kk:Int)) (t:=(sb.tn:Int)+1) (by have:=HC5.out.few;unfold maxLen;omega) HIP.out.1 HIP.out.2
    unfold plK keV at hrun
    have HCM:=hid hcm
    have HGZ:=hid hgz
    obtain ⟨c0,c1,c2,c3⟩:=HCQ.out.four
    have hlc:=HCQ.out.lt
    obtain ⟨p0,p1⟩:=HPQ.out.two
    have hpl:=HPQ.out.lt
    obtain ⟨k0,k1⟩:=HKQ.out.two
    have hkl:=HKQ.out.lt
    clear hcm hgz
    go_wp2_with fail
    go_region
    clear c0 c1 c2 c3 hlc p0 p1 hpl k0 k1 hkl hrun hzz
    have kz:=(HKQ.out.drew.grown HGZ.out (by simpa using fun e=>(HMQ.out.row HKQ.out) e.symm)).two
    obtain ⟨k0,k1⟩:=kz
    have hkl:=(HKQ.out.drew.grown HGZ.out (by simpa using fun e=>(HMQ.out.row HKQ.out) e.symm)).lt
    go_wp2_with fail
    go_ret2
    rw [HT.out,HFE.out]
    have n1:=fun {gg:Nat} {T:TypeId} {cs:List Value} (hr:Row wq gg T cs)=>hr.drew.grown HGZ.out (by simpa using fun e=>(HMQ.out.row hr) e.symm)
    have hez:EX (cS g h c m) w wz:=(HEQ.out.drew).trans (EX.of_grown HGZ.out (fun k e _=>by cases e;exact .inr (.inl rfl)))
    refine ⟨rfl,⟨ws4,n1 HCQ.out,⟨n1 HPOQ.out.pool,n1 HPOQ.out.frames,n1 HPOQ.out.words,HPOQ.out.ok,HPOQ.out.n1,HPOQ.out.n2,HPOQ.out.wl,HPOQ.out.wb,HPOQ.out.c0⟩,HCM.out,HH.out.files,hez.below HH.out.low (fun k hk=>by
     have h1:=HH.out.lg;have h2:=HH.out.lh;have h3:=HH.out.lc;have h4:=HH.out.lm
     rcases hk with rfl|rfl|rfl|rfl <;> assumption) HH.out.low.size,HH.out.lg,HH.out.lh,HH.out.lc,HH.out.lm,HTN.out,HH.out.tb⟩,hez⟩
   ·have hfc:filC s bb=(0,4,s):=by
     unfold filC
     rw [hta]
     rfl
    rw [hfc] at HC4 HFE
    rw [hfc]
    simp only [show ¬ ((4:Int)=0) by decide,if_false] at HFE
    clear hfc hta h0
    go_wp2_with fail
    go_ret2
    rw [HT.out,HFE.out]
    exact ⟨rfl,⟨ws4,HC4.out.setK HK4.out (Nat.le_trans HH.out.low.size HKB.out) _ _⟩,(HE3.out.trans HE4.out).set (.inr HKB.out) _ _⟩
end Go.Proofs.YtdjpjfdeeelijaaGreatDoor
