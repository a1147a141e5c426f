/- Merged: JB JM JD JEp JK JQ JR JS JV JT JW JX JY. -/
import Derived.Test.YtdjpjfdeeelijaaGreatDoorKJ
import Derived.Laws.AppendOwnNone
import Derived.Deep.RegionHeld3
import Derived.Deep.RegionLaw
import Derived.Deep.AppendLies
import Derived.StillTailTactics
namespace Go.Proofs.YtdjpjfdeeelijaaGreatDoor
open Go.RowKit Go.Sort
abbrev rpC (a b n:Nat):List Value:=[.slice (some ⟨a,0,none⟩) n n,.slice (some ⟨b,0,none⟩) n n]
/-- The reference's pool: the struct in block p, the counts in a, the bytes' slices in b. -/
structure RP (w:World)(p a b:Nat)(cs:List Int)(vs:List Value):Prop where
 pool:Row w p 149 (rpC a b cs.length)
 cnts:Row w a 3 (cs.map (Value.int .i64))
 bys:Row w b 89 vs
 vl:vs.length=cs.length
 n2:cs.length≤1024
theorem RP.below {w w':World}{p a b:Nat}{cs:List Int}{vs:List Value}(H:RP w p a b cs vs)(hb:Below w.heap.size w w'):RP w' p a b cs vs:=
 ⟨H.pool.below hb H.pool.lt,H.cnts.below hb H.cnts.lt,H.bys.below hb H.bys.lt,H.vl,H.n2⟩
theorem RP.cells {w:World}{p a b:Nat}{cs:List Int}{vs:List Value}(H:RP w p a b cs vs):w.cell? ⟨p,0,none⟩=some (.slice (some ⟨a,0,none⟩) cs.length cs.length)∧w.cell? ⟨p,1,none⟩=some (.slice (some ⟨b,0,none⟩) cs.length cs.length):=by
 have p0:=H.pool.cell 0 (by simp)
 have p1:=H.pool.cell 1 (by simp)
 simpa [rpC] using ⟨p0,p1⟩
theorem RP.cnt {w:World}{p a b:Nat}{cs:List Int}{vs:List Value}(H:RP w p a b cs vs)(k:Nat)(hk:k<cs.length):w.cell? ⟨a,k,none⟩=some (.int .i64 cs[k]):=by
 have:=H.cnts.cell k (by simpa using hk)
 simpa using this
def rcnt (cs:List Int)(f:Int):Int:=if 0≤f∧f<cs.length then cs.getD f.toNat 0 else 0
theorem rcnt_map (fs:List FR)(f:Int):rcnt (fs.map (·.cnt)) f=cntF fs f:=by
 unfold rcnt cntF
 rw [List.length_map]
 by_cases c:0≤f∧f<fs.length
 ·rw [if_pos c,if_pos c]
  have hk:f.toNat<fs.length:=by omega
  rw [getF_at _ _ _ hk,getF_at _ _ _ (by rw [List.length_map];exact hk),List.getElem_map]
 ·rw [if_neg c,if_neg c]
theorem rsize_any (p a b:Nat)(cs:List Int)(vs:List Value)(w:World)(H:RP w p a b cs vs):
 Calls Tryz.prog 47 #[.pointer (some ⟨p,0,none⟩)] w fun e w'=>e=.returned (.int .i64 (cs.length:Int))∧w=w':=by
 obtain ⟨p0,p1⟩:=H.cells
 have hlp:=H.pool.lt
 clear H
 go_enter Tryz.func47,Tryz.ntmps47
 go_wp2_with fail
 go_ret
 exact ⟨rfl,rfl⟩
theorem rcount_any (p a b:Nat)(cs:List Int)(vs:List Value)(f:Int)(w:World)(H:RP w p a b cs vs):
 Calls Tryz.prog 48 #[.pointer (some ⟨p,0,none⟩),.int .i64 f] w fun e w'=>e=.returned (.int .i64 (rcnt cs f))∧w=w':=by
 obtain ⟨p0,p1⟩:=H.cells
 have hlp:=H.pool.lt
 have hla:=H.cnts.lt
 by_cases c0:0≤f
 ·by_cases c1:f<cs.length
  ·obtain ⟨k,rfl⟩:=Int.eq_ofNat_of_zero_le c0
   have hk:k<cs.length:=by omega
   have hc:=H.cnt k hk
   have HE:=hid (show rcnt cs (k:Int)=cs[k] by unfold rcnt;rw [if_pos ⟨c0,c1⟩,Int.toNat_natCast,getF_at _ _ _ hk])
   generalize cs[k]=x at *
   have b1:decide ((k:Int)<0)=false:=by simp
   have b2:decide ((cs.length:Int)≤(k:Int))=false:=by simp;omega
   have b3:decide (cs.length≤k)=false:=by simp;omega
   clear H
   go_enter Tryz.func48,Tryz.ntmps48
   go_wp2_with fail
   go_ret
   rw [HE.out]
   exact ⟨rfl,rfl⟩
  ·have HE:=hid (show rcnt cs f=0 by unfold rcnt;rw [if_neg (fun h=>c1 h.2)])
   have b1:decide (f<0)=false:=by simp;omega
   have b2:decide ((cs.length:Int)≤f)=true:=by simp;omega
   clear H
   go_enter Tryz.func48,Tryz.ntmps48
   go_wp2_with fail
   go_ret
   rw [HE.out]
   exact ⟨rfl,rfl⟩
 ·have HE:=hid (show rcnt cs f=0 by unfold rcnt;rw [if_neg (fun h=>c0 h.1)])
  have b1:decide (f<0)=true:=by simp;omega
  clear H
  go_enter Tryz.func48,Tryz.ntmps48
  go_wp2_with fail
  go_ret
  rw [HE.out]
  exact ⟨rfl,rfl⟩
def iZ (n:Nat):List Value:=(List.replicate n 0).map (Value.int .i64)
def sZ (n:Nat):List Value:=List.replicate n (.slice none 0 0)
theorem made_one (z:Value)(n:Nat):madeCells #[z] n=(List.replicate n z).toArray:=by
 apply Array.ext
 ·simp [size_madeCells]
 ·intro i h1 h2
  have e:i%1=0:=Nat.mod_one i
  simp [madeCells,e]
theorem infoIj:(Tryz.prog.info? 3).map (fun i=>(i.zero,i.size,i.bytes))=some (some (.int .i64 0),1,8):=by kernel_rfl
theorem infoSj:(Tryz.prog.info? 89).map (fun i=>(i.zero,i.size,i.bytes))=some (some (.slice none 0 0),1,24):=by kernel_rfl
theorem mk_ints (m:Nat)(hm:m≤1024)(w:World):(Instr.makeSlice 44 (.int .i64 (m:Int)) (.int .i64 (m:Int))).run Tryz.prog w=.ok (.slice (some ⟨w.heap.size,0,none⟩) m m) (w.alloc (.cells (iZ m).toArray 3)):=by
 obtain ⟨i0,hi,hz0,hz1,hz2⟩:=info_parts infoIj
 have:=run_make (P:=Tryz.prog) w 44 3 i0 (.int .i64 0) Tryz.underlying44 hi hz0 .i64 .i64 (m:Int) (m:Int) (by omega) (by omega) (by rw [hz2];omega) (by omega)
 rw [this,hz1]
 simp only [Int.toNat_natCast,Nat.mul_one]
 rw [show (Value.int .i64 0).cells=#[.int .i64 0] from rfl,made_one]
 unfold iZ
 rw [List.map_replicate]
theorem mk_bys (m:Nat)(hm:m≤1024)(w:World):(Instr.makeSlice 147 (.int .i64 (m:Int)) (.int .i64 (m:Int))).run Tryz.prog w=.ok (.slice (some ⟨w.heap.size,0,none⟩) m m) (w.alloc (.cells (sZ m).toArray 89)):=by
 obtain ⟨i0,hi,hz0,hz1,hz2⟩:=info_parts infoSj
 have:=run_make (P:=Tryz.prog) w 147 89 i0 (.slice none 0 0) Tryz.underlying147 hi hz0 .i64 .i64 (m:Int) (m:Int) (by omega) (by omega) (by rw [hz2];omega) (by omega)
 rw [this,hz1]
 simp only [Int.toNat_natCast,Nat.mul_one]
 rw [show (Value.slice none 0 0).cells=#[.slice none 0 0] from rfl,made_one]
 rfl
set_option maxRecDepth 100000 in
set_option maxHeartbeats 1000000 in
theorem rnewP_any (n:Nat)(w:World)(h1:1≤n)(h2:n≤1024):
 Calls Tryz.prog 22 #[.int .i64 (n:Int)] w fun e w'=>∃ p a b,e=.returned (.tuple #[.pointer (some ⟨p,0,none⟩),.int .i64 0])∧RP w' p a b (List.replicate n 0) (sZ n)∧w.heap.size≤p∧w.heap.size≤a∧w.heap.size≤b∧Below w.heap.size w w':=by
 have b1:decide ((n:Int)<1)=false:=by simp;omega
 have b2:decide (1024<(n:Int))=false:=by simp;omega
 have hmk:=mk_ints n h2
 have hmw:=mk_bys n h2
 have HB:=hid (fun o1 o2 o3=>(bdN (bal2 (bal2 (@bal w o1) o2) o3) 1))
 have HA1:=hid (show RP ((((w.alloc (.cells (iZ n).toArray 3)).alloc (.cells (sZ n).toArray 89)).alloc (.cells #[.slice (some ⟨w.heap.size,0,none⟩) n n,.slice (some ⟨w.heap.size+1,0,none⟩) n n] 149)).drew) (w.heap.size+1+1) w.heap.size (w.heap.size+1) (List.replicate n 0) (sZ n) from
  ⟨Row.drew (by rw [List.length_replicate];exact Row.new2 _ _ _ _ _),Row.drew (((Row.new _ _ _).alloc _).alloc _),Row.drew ((Row.new1 _ _ _ _).alloc _),by simp [sZ],by simpa using h2⟩)
 have HA2:=hid (show RP ((((w.alloc (.cells (sZ n).toArray 89)).alloc (.cells (iZ n).toArray 3)).alloc (.cells #[.slice (some ⟨w.heap.size+1,0,none⟩) n n,.slice (some ⟨w.heap.size,0,none⟩) n n] 149)).drew) (w.heap.size+1+1) (w.heap.size+1) w.heap.size (List.replicate n 0) (sZ n) from
  ⟨Row.drew (by rw [List.length_replicate];exact Row.new2 _ _ _ _ _),Row.drew ((Row.new1 _ _ _ _).alloc _),Row.drew (((Row.new _ _ _).alloc _).alloc _),by simp [sZ],by simpa using h2⟩)
 go_enter Tryz.func22,Tryz.ntmps22
 go_wp2_with fail
 go_region_with (fail)
 ·clear hmk hmw
  go_wp2_with fail
  go_ret2
  exact ⟨_,_,_,rfl,HA1.out,by omega,by omega,by omega,HB.out _ _ _⟩
 ·clear hmk hmw
  go_wp2_with fail
  go_ret2
  exact ⟨_,_,_,rfl,HA2.out,by omega,by omega,by omega,HB.out _ _ _⟩
/-- All but two blocks, and one that may be none, stand. -/
structure E3 (w w':World)(a b:Nat)(X:Option Nat):Prop where
 os:w'.os=w.os
 tape:w'.tape=w.tape
 output:w'.output=w.output
 size:w.heap.size≤w'.heap.size
 block:∀ k,k<w.heap.size→k≠a→k≠b→some k≠X→w'.heap[k]?=w.heap[k]?
section
variable {w w' w2:World}{a b:Nat}{X:Option Nat}
theorem E3.refl (w:World)(a b:Nat)(X:Option Nat):E3 w w a b X:=⟨rfl,rfl,rfl,Nat.le_refl _,fun _ _ _ _ _=>rfl⟩
theorem E3.trans (h:E3 w w' a b X)(k:E3 w' w2 a b X):E3 w w2 a b X:=
 ⟨k.os.trans h.os,k.tape.trans h.tape,k.output.trans h.output,Nat.le_trans h.size k.size,fun j hj h1 h2 h3=>(k.block j (Nat.lt_of_lt_of_le hj h.size) h1 h2 h3).trans (h.block j hj h1 h2 h3)⟩
theorem E3.of_below (h:Below w.heap.size w w'):E3 w w' a b X:=⟨h.os,h.tape,h.output,h.size,fun k hk _ _ _=>h.block k hk⟩
theorem E3.of_ex (h:Ex w w' a b):E3 w w' a b X:=⟨h.os,h.tape,h.output,h.size,fun k hk h1 h2 _=>h.block k hk h1 h2⟩
theorem E3.below {B:Nat}{w0:World}(h:E3 w w' a b X)(hb:Below B w0 w)(ha:B≤a)(hb':B≤b)(hX:∀ q,X=some q→B≤q)(hB:B≤w.heap.size):Below B w0 w':=
 hb.trans ⟨h.os,h.tape,h.output,h.size,fun k hk=>h.block k (by omega) (by omega) (by omega) (fun e=>by have:=hX k e.symm;omega)⟩
theorem E3.row {g:Nat}{E:TypeId}{cs:List Value}(h:E3 w w' a b X)(hr:Row w g E cs)(h1:g≠a)(h2:g≠b)(h3:some g≠X):Row w' g E cs:=⟨by rw [h.block g hr.lt h1 h2 h3];exact hr.heap⟩
theorem E3.own {base E size n:Nat}{v:Value}{xs:List Value}(h:E3 w w' a b X)(ho:w.ownsRow base E size v n xs)(h1:v.ownBlock≠some a)(h2:v.ownBlock≠some b)(h3:∀ q,v.ownBlock=some q→X≠some q):w'.ownsRow base E size v n xs:=by
 refine ⟨ho.1,?_⟩
 rcases ho.2 with hn|⟨g,cap,cur,rfl,hb,hg,r⟩
 ·exact .inl hn
 ·exact .inr ⟨g,cap,cur,rfl,hb,by rw [h.block g (Array.getElem?_eq_some_iff.1 hg).1 (by rintro rfl;exact h1 rfl) (by rintro rfl;exact h2 rfl) (fun e=>h3 g rfl e.symm)];exact hg,r⟩
end
/-- The reference's pool, and each frame's bytes in memory of its own, apart from all others'. -/
structure RS (w:World)(base p a b:Nat)(cs:List Int)(vs:List Value)(Ls:List (List Int)):Prop where
 rp:RP w p a b cs vs
 ll:vs.length=Ls.length
 own:∀ i (h:i<vs.length) (h2:i<Ls.length),w.ownsRow base 5 1 vs[i] Ls[i].length (Ls[i].map (Value.int .u8))
 ap:∀ i j (hi:i<vs.length) (hj:j<vs.length),i≠j→∀ q,vs[i].ownBlock=some q→vs[j].ownBlock≠some q
 c0:∀ c∈cs,0≤c
 lim:∀ L∈Ls,L.length≤4096
 pB:base≤p
 aB:base≤a
 bB:base≤b
section
variable {w w':World}{base p a b:Nat}{cs:List Int}{vs:List Value}{Ls:List (List Int)}
theorem RS.ne (H:RS w base p a b cs vs Ls):p≠a∧p≠b∧a≠b:=⟨row_tys H.rp.pool H.rp.cnts (by decide),row_tys H.rp.pool H.rp.bys (by decide),row_tys H.rp.cnts H.rp.bys (by decide)⟩
theorem own_not {w:World}{base E n g T:Nat}{v:Value}{xs cs:List Value}(h:w.ownsRow base E 1 v n xs)(hr:Row w g T cs)(hT:T≠E):v.ownBlock≠some g:=fun e=>own_row_ne h hr hT e.symm
theorem RS.below (H:RS w base p a b cs vs Ls)(hb:Below w.heap.size w w'):RS w' base p a b cs vs Ls:=
 ⟨H.rp.below hb,H.ll,fun i h h2=>own_below (H.own i h h2) hb,H.ap,H.c0,H.lim,H.pB,H.aB,H.bB⟩
/-- A count turned. -/
theorem RS.setCnt (H:RS w base p a b cs vs Ls)(k:Nat)(c:Int)(hc:0≤c):RS (w.setCell ⟨a,k,none⟩ (.int .i64 c)) base p a b (cs.set k c) vs Ls:=by
 obtain ⟨n1,n2,n3⟩:=H.ne
 have hx:Ex w (w.setCell ⟨a,k,none⟩ (.int .i64 c)) a a:=Ex.set w a k _ (.inl rfl)
 refine ⟨⟨by rw [List.length_set];exact hx.row H.rp.pool n1 n1,by rw [List.map_set];exact H.rp.cnts.set k _,hx.row H.rp.bys (Ne.symm n3) (Ne.symm n3),by rw [List.length_set];exact H.rp.vl,by rw [List.length_set];exact H.rp.n2⟩,H.ll,fun i h1 h2=>?_,H.ap,fun x hx=>?_,H.lim,H.pB,H.aB,H.bB⟩
 ·exact hx.own (H.own i h1 h2) (own_not (H.own i h1 h2) H.rp.cnts (by decide)) (own_not (H.own i h1 h2) H.rp.cnts (by decide))
 ·rcases List.mem_or_eq_of_mem_set hx with hx|rfl
  ·exact H.c0 x hx
  ·exact hc
/-- A frame's bytes turned: v' lies in memory of its own. -/
theorem RS.setBy (H:RS w base p a b cs vs Ls)(k:Nat)(_hk:k<vs.length)(v':Value)(L:List Int)(hv:w.ownsRow base 5 1 v' L.length (L.map (Value.int .u8)))(hL:L.length≤4096)
 (hap:∀ j (hj:j<vs.length),j≠k→∀ q,v'.ownBlock=some q→vs[j].ownBlock≠some q):RS (w.setCell ⟨b,k,none⟩ v') base p a b cs (vs.set k v') (Ls.set k L):=by
 obtain ⟨n1,n2,n3⟩:=H.ne
 have hx:Ex w (w.setCell ⟨b,k,none⟩ v') b b:=Ex.set w b k _ (.inl rfl)
 refine ⟨⟨hx.row H.rp.pool n2 n2,hx.row H.rp.cnts n3 n3,H.rp.bys.set k _,by rw [List.length_set];exact H.rp.vl,H.rp.n2⟩,by rw [List.length_set,List.length_set];exact H.ll,fun i h1 h2=>?_,fun i j hi hj hij q=>?_,H.c0,fun x hx=>?_,H.pB,H.aB,H.bB⟩
 ·rw [List.length_set] at h1 h2
  simp only [List.getElem_set]
  by_cases c:k=i
  ·rw [if_pos c,if_pos c]
   exact hx.own hv (own_not hv H.rp.bys (by decide)) (own_not hv H.rp.bys (by decide))
  ·rw [if_neg c,if_neg c]
   exact hx.own (H.own i h1 h2) (own_not (H.own i h1 h2) H.rp.bys (by decide)) (own_not (H.own i h1 h2) H.rp.bys (by decide))
 ·rw [List.length_set] at hi hj
  simp only [List.getElem_set]
  by_cases c:k=i
  ·rw [if_pos c,if_neg (show ¬ k=j from fun e=>hij (by rw [← c,e]))]
   exact hap j hj (fun e=>hij (by rw [← c,e])) q
  ·rw [if_neg c]
   by_cases c2:k=j
   ·rw [if_pos c2]
    intro e e2
    exact hap i hi (fun e3=>c e3.symm) q e2 e
   ·rw [if_neg c2]
    exact H.ap i j hi hj hij q
 ·rcases List.mem_or_eq_of_mem_set hx with hx|rfl
  ·exact H.lim x hx
  ·exact hL
end
def rtk (cs:List Int)(f:Int):Bool:=decide (0<rcnt cs f)
theorem rtaken_any (p a b:Nat)(cs:List Int)(vs:List Value)(f:Int)(w:World)(H:RP w p a b cs vs):
 Calls Tryz.prog 95 #[.pointer (some ⟨p,0,none⟩),.int .i64 f] w fun e w'=>e=.returned (.bool (rtk cs f))∧w=w':=by
 obtain ⟨p0,p1⟩:=H.cells
 have hlp:=H.pool.lt
 have hla:=H.cnts.lt
 by_cases c0:0≤f
 ·by_cases c1:f<cs.length
  ·obtain ⟨k,rfl⟩:=Int.eq_ofNat_of_zero_le c0
   have hk:k<cs.length:=by omega
   have hc:=H.cnt k hk
   have HE:=hid (show rtk cs (k:Int)=decide (0<cs[k]) by unfold rtk rcnt;rw [if_pos ⟨c0,c1⟩,Int.toNat_natCast,getF_at _ _ _ hk])
   generalize cs[k]=x at *
   have b1:decide ((0:Int)≤(k:Int))=true:=by simp
   have b2:decide ((k:Int)<(cs.length:Int))=true:=by simp;omega
   have b3:decide (k<cs.length)=true:=by simp;omega
   clear H
   go_enter Tryz.func95,Tryz.ntmps95
   go_wp2_with fail
   go_ret
   rw [HE.out]
   exact ⟨rfl,rfl⟩
  ·have HE:=hid (show rtk cs f=false by unfold rtk rcnt;rw [if_neg (fun h=>c1 h.2)];rfl)
   have b1:decide (0≤f)=true:=by simp;omega
   have b2:decide (f<(cs.length:Int))=false:=by simp;omega
   clear H
   go_enter Tryz.func95,Tryz.ntmps95
   go_wp2_with fail
   go_ret
   rw [HE.out]
   exact ⟨rfl,rfl⟩
 ·have HE:=hid (show rtk cs f=false by unfold rtk rcnt;rw [if_neg (fun h=>c0 h.1)];rfl)
  have b1:decide (0≤f)=false:=by simp;omega
  clear H
  go_enter Tryz.func95,Tryz.ntmps95
  go_wp2_with fail
  go_ret
  rw [HE.out]
  exact ⟨rfl,rfl⟩
def rupS (cs:List Int)(f d:Int):List Int:=if rtk cs f then cs.set f.toNat (rcnt cs f+d) else cs
theorem rtk_is {cs:List Int}{f:Int}(h:rtk cs f=true):∃ k:Nat,∃ hk:k<cs.length,f=(k:Int)∧rcnt cs f=cs[k]∧0<cs[k]:=by
 unfold rtk rcnt at h
 by_cases c:0≤f∧f<cs.length
 ·obtain ⟨k,rfl⟩:=Int.eq_ofNat_of_zero_le c.1
  have hk:k<cs.length:=by omega
  rw [if_pos c,Int.toNat_natCast,getF_at _ _ _ hk] at h
  exact ⟨k,hk,rfl,by unfold rcnt;rw [if_pos c,Int.toNat_natCast,getF_at _ _ _ hk],by simpa using h⟩
 ·rw [if_neg c] at h;simp at h
set_option maxHeartbeats 1000000 in
theorem rup_any (base p a b:Nat)(cs:List Int)(vs:List Value)(Ls:List (List Int))(f:Int)(w:World)(H:RS w base p a b cs vs Ls)(hM:∀ c∈cs,c<9223372036854775807):
 Calls Tryz.prog 82 #[.pointer (some ⟨p,0,none⟩),.int .i64 f] w fun e w'=>e=.returned (.int .i64 (if rtk cs f then 0 else 1))∧RS w' base p a b (rupS cs f 1) vs Ls∧E3 w w' a b none:=by
 have HH:=hid H
 have HL:=hid (rtaken_any p a b cs vs f w H.rp)
 clear H
 cases ht:rtk cs f with
 | false=>
  have HF:=hid (show rupS cs f 1=cs by unfold rupS;rw [ht];rfl)
  rw [ht] at HL
  go_enter Tryz.func82,Tryz.ntmps82
  go_wp2_with fail
  refine (HL.out).mono ?_
  rintro e' w' ⟨rfl,rfl⟩
  go_wp2_with fail
  go_ret
  rw [HF.out]
  exact ⟨rfl,HH.out,E3.refl _ _ _ _⟩
 | true=>
  rw [ht] at HL
  obtain ⟨k,hk,rfl,hc,hpos⟩:=rtk_is ht
  have HF:=hid (show rupS cs (k:Int) 1=cs.set k (cs[k]+1) by unfold rupS;rw [ht,hc];rfl)
  obtain ⟨p0,p1⟩:=HH.out.rp.cells
  have hlp:=HH.out.rp.pool.lt
  have hla:=HH.out.rp.cnts.lt
  have hx:=HH.out.rp.cnt k hk
  have hfz:=HH.out.rp.cnts.frozen k
  have hx1:=hM _ (List.getElem_mem hk)
  have HS:=hid (HH.out.setCnt k (cs[k]+1) (by omega))
  have ez:(0:Int)≤(k:Int):=by omega
  have eb:(k:Int)<(cs.length:Int):=by omega
  clear ht hc hM
  generalize cs[k]=x at *
  have ew:=IntWalk.wrap64_in (x+1) ⟨by omega,by omega⟩
  go_enter Tryz.func82,Tryz.ntmps82
  go_wp2_with fail
  refine (HL.out).mono ?_
  rintro e' w' ⟨rfl,rfl⟩
  go_wp2_with fail
  go_ret
  rw [HF.out]
  exact ⟨rfl,HS.out,E3.of_ex (Ex.set w a k _ (.inl rfl))⟩
set_option maxHeartbeats 1000000 in
theorem rdown_any (base p a b:Nat)(cs:List Int)(vs:List Value)(Ls:List (List Int))(f:Int)(w:World)(H:RS w base p a b cs vs Ls)(hM:∀ c∈cs,c<9223372036854775807):
 Calls Tryz.prog 39 #[.pointer (some ⟨p,0,none⟩),.int .i64 f] w fun e w'=>e=.returned (.int .i64 (if rtk cs f then 0 else 1))∧RS w' base p a b (rupS cs f (-1)) vs Ls∧E3 w w' a b none:=by
 have HH:=hid H
 have HL:=hid (rtaken_any p a b cs vs f w H.rp)
 clear H
 cases ht:rtk cs f with
 | false=>
  have HF:=hid (show rupS cs f (-1)=cs by unfold rupS;rw [ht];rfl)
  rw [ht] at HL
  go_enter Tryz.func39,Tryz.ntmps39
  go_wp2_with fail
  refine (HL.out).mono ?_
  rintro e' w' ⟨rfl,rfl⟩
  go_wp2_with fail
  go_ret
  rw [HF.out]
  exact ⟨rfl,HH.out,E3.refl _ _ _ _⟩
 | true=>
  rw [ht] at HL
  obtain ⟨k,hk,rfl,hc,hpos⟩:=rtk_is ht
  have HF:=hid (show rupS cs (k:Int) (-1)=cs.set k (cs[k]-1) by unfold rupS;rw [ht,hc];rfl)
  obtain ⟨p0,p1⟩:=HH.out.rp.cells
  have hlp:=HH.out.rp.pool.lt
  have hla:=HH.out.rp.cnts.lt
  have hx:=HH.out.rp.cnt k hk
  have hfz:=HH.out.rp.cnts.frozen k
  have hx1:=hM _ (List.getElem_mem hk)
  have HS:=hid (HH.out.setCnt k (cs[k]-1) (by omega))
  have ez:(0:Int)≤(k:Int):=by omega
  have eb:(k:Int)<(cs.length:Int):=by omega
  clear ht hc hM
  generalize cs[k]=x at *
  have ew:=IntWalk.wrap64_in (x-1) ⟨by omega,by omega⟩
  go_enter Tryz.func39,Tryz.ntmps39
  go_wp2_with fail
  refine (HL.out).mono ?_
  rintro e' w' ⟨rfl,rfl⟩
  go_wp2_with fail
  go_ret
  rw [HF.out]
  exact ⟨rfl,HS.out,E3.of_ex (Ex.set w a k _ (.inl rfl))⟩
abbrev cnts (fs:List FR):List Int:=fs.map (·.cnt)
/-- What a taken frame holds: its bytes, and noughts. -/
def HoldsB (fs:List FR)(Ls:List (List Int)):Prop:=∀ k (hk:k<fs.length) (h2:k<Ls.length),fs[k].cnt≠0→fs[k].bs=Ls[k]++List.replicate (4096-Ls[k].length) 0
def takeVs (fs:List FR)(vs:List Value):List Value:=match lowR fs with
 | some k=>vs.set k (.slice none 0 0)
 | none=>vs
def takeLs (fs:List FR)(Ls:List (List Int)):List (List Int):=match lowR fs with
 | some k=>Ls.set k []
 | none=>Ls
set_option maxHeartbeats 1000000 in
theorem rtake_any (base p a b:Nat)(fs:List FR)(vs:List Value)(Ls:List (List Int))(w:World)(H:RS w base p a b (cnts fs) vs Ls):
 Calls Tryz.prog 89 #[.pointer (some ⟨p,0,none⟩)] w fun e w'=>e=.returned (.tuple #[.int .i64 (takeV fs),.int .i64 (takeE fs)])∧RS w' base p a b (cnts (takeS fs)) (takeVs fs vs) (takeLs fs Ls)∧E3 w w' a b none:=by
 have HH:=hid H
 obtain ⟨p0,p1⟩:=H.rp.cells
 have hlp:=H.rp.pool.lt
 have hla:=H.rp.cnts.lt
 have hlb:=H.rp.bys.lt
 have hcl:(cnts fs).length=fs.length:=List.length_map _
 rw [hcl] at p0 p1
 have hn2:fs.length≤1024:=by have:=H.rp.n2;rw [hcl] at this;exact this
 have HCL:=hid hcl
 clear H hcl
 go_enter Tryz.func89,Tryz.ntmps89
 go_wp2_with fail
 go_loopw [4] (fun i wr=>∃ k:Nat,k≤fs.length∧i=.int .i64 k∧(∀ j,j<k→freeF fs j=false)∧wr=w) (fun i _=>fs.length-(intOf i).toNat)
 case atStart=>exact ⟨0,Nat.zero_le _,rfl,fun j hj=>by omega,rfl⟩
 case round=>
  obtain ⟨k,hk,rfl,hz,rfl⟩:=hrel
  have HZ:=hid hz
  clear hz
  by_cases hlt:k<fs.length
  ·have d1:decide ((k:Int)<(fs.length:Int))=true:=by simp;omega
   have d1n:decide (k<fs.length)=true:=by simp;omega
   have hkc:k<(cnts fs).length:=by rw [HCL.out];exact hlt
   have hc:=HH.out.rp.cnt k hkc
   have he:(cnts fs)[k]=fs[k].cnt:=List.getElem_map _
   rw [he] at hc
   have hfr:=free_at fs k hlt
   have ez:(0:Int)≤(k:Int):=by omega
   have eb:(k:Int)<(fs.length:Int):=by omega
   by_cases c0:fs[k].cnt=0
   ·have q1:(fs[k].cnt==0)=true:=by simpa using c0
    rw [q1] at hfr
    have HL:=hid (low_some (fs:=fs) (f:=k) hfr HZ.out)
    have HV:=hid (show takeV fs=(k:Int)∧takeE fs=0∧takeS fs=fs.set k one0∧takeVs fs vs=vs.set k (.slice none 0 0)∧takeLs fs Ls=Ls.set k [] by unfold takeV takeE takeS takeVs takeLs;rw [HL.out];exact ⟨rfl,rfl,rfl,rfl,rfl⟩)
    have hfa:=HH.out.rp.cnts.frozen k
    have hvk:k<vs.length:=by rw [HH.out.rp.vl];exact hkc
    have hbc:wr.cell? ⟨b,k,none⟩=some vs[k]:=HH.out.rp.bys.cell k hvk
    have hfb:=HH.out.rp.bys.frozen k
    obtain ⟨n1,n2,n3⟩:=HH.out.ne
    have HS1:=hid (HH.out.setCnt k 1 (by omega))
    have HS2:=hid (HS1.out.setBy k hvk (.slice none 0 0) [] own_nil_of (by simp) (fun j hj hne q hq=>by cases hq))
    have HE:=hid (show E3 wr ((wr.setCell ⟨a,k,none⟩ (.int .i64 1)).setCell ⟨b,k,none⟩ (.slice none 0 0)) a b none from (E3.of_ex (Ex.set wr a k _ (.inl rfl))).trans (E3.of_ex (Ex.set _ b k _ (.inr rfl))))
    have HC:=hid (show cnts (fs.set k one0)=(cnts fs).set k 1 by unfold cnts;rw [List.map_set];rfl)
    clear he q1 hfr
    rw [c0] at hc
    clear c0
    go_wp2_with fail
    go_ret2
    rw [HV.out.1,HV.out.2.1,HV.out.2.2.1,HV.out.2.2.2.1,HV.out.2.2.2.2,HC.out]
    exact ⟨rfl,HS2.out,HE.out⟩
   ·have q1:(fs[k].cnt==0)=false:=by simpa using c0
    rw [q1] at hfr
    have HFR:=hid hfr
    generalize fs[k].cnt=x at *
    clear he hfr c0
    go_wp2_with fail
    go_roundw
    case rel=>exact ⟨k+1,by omega,by go_num,fun j hj=>by
     by_cases e:j<k
     ·exact HZ.out j e
     ·obtain rfl:j=k:=by omega
      exact HFR.out,by trivial⟩
    case measure=>simp [intOf];omega
  ·have d1:decide ((k:Int)<(fs.length:Int))=false:=by simp;omega
   have d1n:decide (k<fs.length)=false:=by simp;omega
   have HL:=hid (low_no (fs:=fs) (fun j hj=>HZ.out j (by omega)))
   have HV:=hid (show takeV fs=0∧takeE fs=4∧takeS fs=fs∧takeVs fs vs=vs∧takeLs fs Ls=Ls by unfold takeV takeE takeS takeVs takeLs;rw [HL.out];exact ⟨rfl,rfl,rfl,rfl,rfl⟩)
   go_wp2_with fail
   go_ret2
   rw [HV.out.1,HV.out.2.1,HV.out.2.2.1,HV.out.2.2.2.1,HV.out.2.2.2.2]
   exact ⟨rfl,HH.out,E3.refl _ _ _ _⟩
theorem rtk_tak {fs:List FR}(h0:∀ x∈fs,0≤x.cnt)(f:Int):rtk (cnts fs) f=(takE fs f==0):=by
 unfold rtk takE
 rw [show rcnt (cnts fs) f=cntF fs f from rcnt_map fs f]
 by_cases c:cntF fs f=0
 ·rw [c];rfl
 ·rw [if_neg c]
  obtain ⟨k,hk,_,e⟩:=cnt_is c
  have:=h0 _ (List.getElem_mem hk)
  rw [e] at c ⊢
  simp
  omega
theorem load_bad {fs:List FR}{f off n:Int}(h:takE fs f≠0∨withinB off n=false):loadE fs f off n=1∧loadL fs f off n=[]:=by
 unfold loadE loadL
 by_cases c:takE fs f=0
 ·rcases h with h|h
  ·exact absurd c h
  ·rw [if_pos c,if_pos c,h];exact ⟨rfl,rfl⟩
 ·rw [if_neg c,if_neg c];exact ⟨rfl,rfl⟩
theorem within_no {off n:Int}(h:off<0∨n<0∨4096<off∨4096-off<n):withinB off n=false:=by
 unfold withinB
 simp only [Bool.and_eq_false_iff,decide_eq_false_iff_not]
 omega
set_option maxRecDepth 100000 in
set_option maxHeartbeats 4000000 in
theorem rload_any (base p a b:Nat)(fs:List FR)(vs:List Value)(Ls:List (List Int))(f off n:Int)(w:World)(H:RS w base p a b (cnts fs) vs Ls)(hok:FsOk fs)(h0:∀ x∈fs,0≤x.cnt)(hB:HoldsB fs Ls):
 Calls Tryz.prog 50 #[.pointer (some ⟨p,0,none⟩),.int .i64 f,.int .i64 off,.int .i64 n] w fun e w'=>∃ v,e=.returned (.tuple #[v,.int .i64 (loadE fs f off n)])∧w'.ownsRow w.heap.size 5 1 v (loadL fs f off n).length ((loadL fs f off n).map (Value.int .u8))∧Below w.heap.size w w':=by
 have HH:=hid H
 have HL:=hid (rtaken_any p a b (cnts fs) vs f w H.rp)
 rw [rtk_tak h0] at HL
 have HOK:=hid hok
 have HBY:=hid hB
 clear H hok hB
 by_cases ht:takE fs f=0
 ·have q1:(takE fs f==0)=true:=by simpa using ht
  rw [q1] at HL
  clear q1
  by_cases hbad:off<0∨n<0∨4096<off∨4096-off<n
  ·have HF:=hid (load_bad (fs:=fs) (f:=f) (.inr (within_no hbad)))
   clear ht
   have fin:∀ w':World,w=w'→True:=fun _ _=>trivial
   by_cases c1:off<0
   ·clear hbad fin
    go_enter Tryz.func50,Tryz.ntmps50
    go_wp2_with fail
    refine (HL.out).mono ?_
    rintro e' w' ⟨rfl,rfl⟩
    go_wp2_with fail
    go_ret2
    rw [HF.out.1,HF.out.2]
    exact ⟨_,rfl,own_nil_of,Below.refl _ _⟩
   ·by_cases c2:n<0
    ·clear hbad fin
     go_enter Tryz.func50,Tryz.ntmps50
     go_wp2_with fail
     refine (HL.out).mono ?_
     rintro e' w' ⟨rfl,rfl⟩
     go_wp2_with fail
     go_ret2
     rw [HF.out.1,HF.out.2]
     exact ⟨_,rfl,own_nil_of,Below.refl _ _⟩
    ·by_cases c3:4096<off
     ·clear hbad fin
      go_enter Tryz.func50,Tryz.ntmps50
      go_wp2_with fail
      refine (HL.out).mono ?_
      rintro e' w' ⟨rfl,rfl⟩
      go_wp2_with fail
      go_ret2
      rw [HF.out.1,HF.out.2]
      exact ⟨_,rfl,own_nil_of,Below.refl _ _⟩
     ·have c4:4096-off<n:=by omega
      have ew:=IntWalk.wrap64_in (4096-off) ⟨by omega,by omega⟩
      clear hbad fin
      go_enter Tryz.func50,Tryz.ntmps50
      go_wp2_with fail
      refine (HL.out).mono ?_
      rintro e' w' ⟨rfl,rfl⟩
      go_wp2_with fail
      go_ret2
      rw [HF.out.1,HF.out.2]
      exact ⟨_,rfl,own_nil_of,Below.refl _ _⟩
  ·obtain ⟨o,rfl⟩:=Int.eq_ofNat_of_zero_le (show 0≤off by omega)
   obtain ⟨m,rfl⟩:=Int.eq_ofNat_of_zero_le (show 0≤n by omega)
   have hom:o+m≤4096:=by omega
   have hcz:cntF fs f≠0:=fun e=>by unfold takE at ht;rw [if_pos e] at ht;exact absurd ht (by decide)
   obtain ⟨k,hk,rfl,hc⟩:=cnt_is hcz
   have hcn:fs[k].cnt≠0:=fun e=>hcz (by rw [hc];exact e)
   have hw:withinB (o:Int) (m:Int)=true:=by unfold withinB;simp;omega
   have hcl:(cnts fs).length=fs.length:=List.length_map _
   have hvl:vs.length=fs.length:=by rw [HH.out.rp.vl];exact hcl
   have hkv:k<vs.length:=by omega
   have hkL:k<Ls.length:=by have:=HH.out.ll;omega
   have HF:=hid (show loadE fs k o m=0∧loadL fs k o m=(fs[k].bs.drop o).take m by unfold loadE loadL;rw [ht,hw,Int.toNat_natCast,Int.toNat_natCast,Int.toNat_natCast,getF_at _ _ _ hk];exact ⟨rfl,rfl⟩)
   have hbl:=HOK.out _ (List.getElem_mem hk)
   have hbs:=HBY.out k hk hkL hcn
   have HLM:=hid (HH.out.lim _ (List.getElem_mem hkL))
   obtain ⟨va,vc,ev,hN⟩:=own_nums (HH.out.own k hkv hkL)
   have HT:=hid (show ((fs[k].bs.drop o).take m).length=m by simp;omega)
   have HTi:=hid (show ∀ i (hi:i<((fs[k].bs.drop o).take m).length),((fs[k].bs.drop o).take m)[i]=(Ls[k]).getD (o+i) 0 from fun i hi=>by
    have h1:((fs[k].bs.drop o).take m)[i]?=fs[k].bs[o+i]?:=by
     rw [List.getElem?_take,if_pos (by rw [HT.out] at hi;exact hi),List.getElem?_drop]
    rw [List.getElem?_eq_getElem hi] at h1
    have hi2:i<m:=by rw [HT.out] at hi;exact hi
    replace h1:=h1.trans (congrArg (fun l:List Int=>l[o+i]?) hbs)
    by_cases c:o+i<Ls[k].length
    ·rw [List.getElem?_append_left c,List.getElem?_eq_getElem c] at h1
     rw [getF_at _ _ _ c]
     exact Option.some.inj h1
    ·rw [List.getElem?_append_right (by omega),List.getElem?_replicate,if_pos (by omega)] at h1
     rw [List.getD_eq_getElem?_getD,List.getElem?_eq_none (by omega)]
     exact Option.some.inj h1)
   generalize (fs[k].bs.drop o).take m=T at *
   have hbc:=HH.out.rp.bys.cell k hkv
   rw [ev] at hbc
   have HBC:=hid hbc
   have HN:=hid hN
   obtain ⟨p0,p1⟩:=HH.out.rp.cells
   rw [hcl] at p0 p1
   have HP1:=hid p1
   have hlp:=HH.out.rp.pool.lt
   have hlb:=HH.out.rp.bys.lt
   have hn2:fs.length≤1024:=by have:=HH.out.rp.n2;rw [hcl] at this;exact this
   generalize Ls[k]=L at *
   have ez:(0:Int)≤(k:Int):=by omega
   have eb:(k:Int)<(fs.length:Int):=by omega
   have hm1:1*m≤281474976710656:=by omega
   have hm2:m≤9223372036854775807:=by omega
   have hno1:decide ((o:Int)<0)=false:=by simp
   have hno2:decide ((m:Int)<0)=false:=by simp
   have hno3:decide ((4096:Int)<(o:Int))=false:=by simp;omega
   have hno4:decide ((4096:Int)-(o:Int)<(m:Int))=false:=by simp;omega
   have ewo:=IntWalk.wrap64_in (4096-(o:Int)) ⟨by omega,by omega⟩
   clear hbad ht hcz hc hcn hw hcl hvl hkL hbl hbs ev hN hbc p0 p1
   go_enter Tryz.func50,Tryz.ntmps50
   go_wp2_with fail
   refine (HL.out).mono ?_
   rintro e' w' ⟨rfl,rfl⟩
   go_wp2_with (refine wpList_make_row _ rfl _ _ 89 rfl 5 (.int .u8 0) 1 Tryz.underlying89 infoU8j rfl .i64 .i64 m m m rfl rfl rfl rfl hm1 hm2 ?_;intro w2 hR hb hsz;have HR:=hid hR;have HB:=hid hb;clear hR hb)
   clear ewo
   go_loopw [11] (fun i wr=>∃ t:Nat,t≤m∧i=.int .i64 t∧Row wr w.heap.size 5 (fill (T.map (Value.int .u8)) (.int .u8 0) t)∧Below w.heap.size w wr) (fun i _=>m-(intOf i).toNat)
   case atStart=>exact ⟨0,Nat.zero_le _,rfl,by rw [fill_zero,List.length_map,HT.out];exact HR.out,HB.out⟩
   case round=>
    obtain ⟨t,ht,rfl,hr,hb⟩:=hrel
    have HRr:=hid hr
    have HBr:=hid hb
    have p1:=keepC hb HP1.out
    have hbc:=keepC hb HBC.out
    have hNr:=HN.out.below' hb
    have hlpr:=World.block_lt_of_cell? _ _ p1
    have hlbr:=World.block_lt_of_cell? _ _ hbc
    clear hr hb
    by_cases htm:t<m
    ·have d1:decide ((t:Int)<(m:Int))=true:=by simp;omega
     have d1n:decide (t<m)=true:=by simp;omega
     by_cases htl:o+t<L.length
     ·obtain ⟨vb,vo,rfl,hcv⟩:=hNr.cell (o+t) htl
      have hlv:=World.block_lt_of_cell? _ _ hcv
      have htT:t<T.length:=by rw [HT.out];exact htm
      have hval:=HTi.out t htT
      rw [getF_at _ _ _ htl] at hval
      have HFL:=hid (HRr.out.fill (u:=.int .u8 L[o+t]) (by rw [List.length_map];exact htT) (by rw [List.getElem_map,hval]))
      have hfz:=HRr.out.frozen t
      have hoc:(wr.cell? ⟨w.heap.size,t,none⟩).isSome=true:=by
       rw [HRr.out.cell' t,List.getElem?_eq_getElem (by rw [fill_len _ _ _ (by rw [List.length_map];omega),List.length_map];exact htT)]
       rfl
      obtain ⟨ou,hou⟩:=Option.isSome_iff_exists.1 hoc
      have hlo:=World.block_lt_of_cell? _ _ hou
      have d2:decide ((o:Int)+(t:Int)<(L.length:Int))=true:=by simp;omega
      have ez2:(0:Int)≤(t:Int):=by omega
      have eb2:(t:Int)<(m:Int):=by omega
      have ez3:(0:Int)≤(o:Int)+(t:Int):=by omega
      have eb3:(o:Int)+(t:Int)<(L.length:Int):=by omega
      have etn:((o:Int)+(t:Int)).toNat=o+t:=by omega
      generalize L[o+t]=y at *
      have HBN:=hid (bset HBr.out (b:=w.heap.size) (o:=t) (Nat.le_refl _) (.int .u8 y))
      clear hval hoc hNr
      go_wp2_with fail
      go_roundw
      case rel=>exact ⟨t+1,by omega,by go_num,HFL.out,HBN.out⟩
      case measure=>simp [intOf];omega
     ·have HD:=hid (show fill (T.map (Value.int .u8)) (.int .u8 0) t=T.map (Value.int .u8) by
       apply List.ext_getElem?
       intro i
       unfold fill
       by_cases c:i<t
       ·rw [List.getElem?_append_left (by simp;have:=HT.out;omega),List.getElem?_take,if_pos c]
       ·by_cases c2:i<m
        ·have hiT:i<T.length:=by rw [HT.out];exact c2
         rw [List.getElem?_append_right (by simp;omega),List.getElem?_replicate,if_pos (by simp;have:=HT.out;omega),List.getElem?_map,List.getElem?_eq_getElem hiT,HTi.out i hiT,List.getD_eq_getElem?_getD,List.getElem?_eq_none (by omega)]
         rfl
        ·rw [List.getElem?_eq_none (by simp;have:=HT.out;omega),List.getElem?_eq_none (by simp;have:=HT.out;omega)])
      have d2:decide ((o:Int)+(t:Int)<(L.length:Int))=false:=by simp;omega
      go_wp2_with fail
      go_ret2
      rw [HF.out.1,HF.out.2,HT.out]
      have hr:=HRr.out
      rw [HD.out] at hr
      have:=hr.owns (base:=w.heap.size) (n:=m) (cap:=m) (Nat.le_refl _) (by rw [List.length_map,HT.out]) (Nat.le_refl _) (by unfold maxLen;omega)
      rw [List.take_of_length_le (by rw [List.length_map,HT.out];exact Nat.le_refl _)] at this
      exact ⟨_,rfl,this,HBr.out⟩
    ·have d1:decide ((t:Int)<(m:Int))=false:=by simp;omega
     have d1n:decide (t<m)=false:=by simp;omega
     have etm:t=m:=by omega
     have HD:=hid (show fill (T.map (Value.int .u8)) (.int .u8 0) t=T.map (Value.int .u8) by
      have:=fill_full (T.map (Value.int .u8)) (.int .u8 0)
      rw [List.length_map,HT.out] at this
      rw [etm];exact this)
     go_wp2_with fail
     go_ret2
     rw [HF.out.1,HF.out.2,HT.out]
     have hr:=HRr.out
     rw [HD.out] at hr
     have:=hr.owns (base:=w.heap.size) (n:=m) (cap:=m) (Nat.le_refl _) (by rw [List.length_map,HT.out]) (Nat.le_refl _) (by unfold maxLen;omega)
     rw [List.take_of_length_le (by rw [List.length_map,HT.out];exact Nat.le_refl _)] at this
     exact ⟨_,rfl,this,HBr.out⟩
 ·have q1:(takE fs f==0)=false:=by simpa using ht
  rw [q1] at HL
  have HF:=hid (load_bad (fs:=fs) (f:=f) (off:=off) (n:=n) (.inl ht))
  clear q1 ht
  go_enter Tryz.func50,Tryz.ntmps50
  go_wp2_with fail
  refine (HL.out).mono ?_
  rintro e' w' ⟨rfl,rfl⟩
  go_wp2_with fail
  go_ret2
  rw [HF.out.1,HF.out.2]
  exact ⟨_,rfl,own_nil_of,Below.refl _ _⟩
/-- A list as long as n at least: noughts behind. -/
def upto (L:List Int)(n:Nat):List Int:=L++List.replicate (n-L.length) 0
theorem upto_le {L:List Int}{n:Nat}(h:n≤L.length):upto L n=L:=by unfold upto;rw [Nat.sub_eq_zero_of_le h];simp
theorem upto_len (L:List Int)(n:Nat)(h:L.length≤n):(upto L n).length=n:=by unfold upto;simp;omega
theorem upto_push (L:List Int)(n:Nat)(h:L.length≤n):upto L n++[0]=upto L (n+1):=by
 unfold upto
 rw [show n+1-L.length=(n-L.length)+1 by omega,List.replicate_succ',List.append_assoc]
theorem upto_same (L:List Int)(n:Nat)(h:n≤4096)(hl:L.length≤4096):upto L n++List.replicate (4096-(upto L n).length) 0=L++List.replicate (4096-L.length) 0:=by
 by_cases c:n≤L.length
 ·rw [upto_le c]
 ·rw [upto_len L n (by omega)]
  unfold upto
  rw [List.append_assoc,List.replicate_append_replicate]
  congr 2
  omega
theorem cntF_is2 {fs:List FR}{k:Nat}(hk:k<fs.length):cntF fs (k:Int)=fs[k].cnt:=by
 unfold cntF
 rw [if_pos ⟨by omega,by omega⟩,Int.toNat_natCast,getF_at _ _ _ hk]
/-- A frame's bytes grown: v2 stands in the place of what was there, in its block or in a new one. -/
theorem RS.push {w w1:World}{base p a b:Nat}{cs:List Int}{vs:List Value}{Ls:List (List Int)}(H:RS w base p a b cs vs Ls)(k:Nat)(hk:k<vs.length)(v2:Value)(L2:List Int)
 (hg:w.grownBy w1 vs[k].ownBlock) (hv:w1.ownsRow base 5 1 v2 L2.length (L2.map (Value.int .u8))) (hat:v2.ownBlock=vs[k].ownBlock∨∃ q,v2.ownBlock=some q∧w.heap.size≤q) (hL:L2.length≤4096):
 RS (w1.setCell ⟨b,k,none⟩ v2) base p a b cs (vs.set k v2) (Ls.set k L2):=by
 have hkl:k<Ls.length:=by have:=H.ll;omega
 have hT:∀ {g:Nat} {T:TypeId} {ds:List Value},Row w g T ds→T≠5→Row w1 g T ds:=fun hr hne=>hr.grown hg (fun e=>own_not (H.own k hk hkl) hr hne e.symm)
 have hpo:=hT H.rp.pool (by decide)
 have hcn:=hT H.rp.cnts (by decide)
 have hby:=hT H.rp.bys (by decide)
 obtain ⟨n1,n2,n3⟩:=H.ne
 have hx:Ex w1 (w1.setCell ⟨b,k,none⟩ v2) b b:=Ex.set w1 b k _ (.inl rfl)
 have hoth:∀ i (h:i<vs.length) (h2:i<Ls.length),i≠k→w1.ownsRow base 5 1 vs[i] Ls[i].length (Ls[i].map (Value.int .u8)):=fun i h h2 hne=>(H.own i h h2).kept hg (by
  cases hv':(vs[i]).ownBlock with
  | none=>exact .inl rfl
  | some q=>exact .inr (fun e=>H.ap i k h hk hne q hv' e.symm))
 refine ⟨⟨hx.row hpo n2 n2,hx.row hcn n3 n3,hby.set k _,by rw [List.length_set];exact H.rp.vl,H.rp.n2⟩,by rw [List.length_set,List.length_set];exact H.ll,fun i h1 h2=>?_,fun i j hi hj hij q=>?_,H.c0,fun x hx=>?_,H.pB,H.aB,H.bB⟩
 ·rw [List.length_set] at h1 h2
  simp only [List.getElem_set]
  by_cases c:k=i
  ·rw [if_pos c,if_pos c]
   exact hx.own hv (own_not hv hby (by decide)) (own_not hv hby (by decide))
  ·rw [if_neg c,if_neg c]
   have ho:=hoth i h1 h2 (fun e=>c e.symm)
   exact hx.own ho (own_not ho hby (by decide)) (own_not ho hby (by decide))
 ·rw [List.length_set] at hi hj
  have key:∀ j (hj:j<vs.length),j≠k→∀ q,v2.ownBlock=some q→vs[j].ownBlock≠some q:=fun j hj hne q hq e=>by
   rcases hat with h|⟨q2,h,hlt⟩
   ·rw [h] at hq
    exact H.ap j k hj hk hne q e hq
   ·rw [h] at hq
    obtain rfl:=Option.some.inj hq
    have:=((H.own j hj (by have:=H.ll;omega)).lt _ e).2
    omega
  simp only [List.getElem_set]
  by_cases c:k=i
  ·rw [if_pos c,if_neg (show ¬ k=j from fun e=>hij (by rw [← c,e]))]
   exact key j hj (fun e=>hij (by rw [← c,e])) q
  ·rw [if_neg c]
   by_cases c2:k=j
   ·rw [if_pos c2]
    intro e e2
    exact key i hi (fun e3=>c e3.symm) q e2 e
   ·rw [if_neg c2]
    exact H.ap i j hi hj hij q
 ·rcases List.mem_or_eq_of_mem_set hx with hx|rfl
  ·exact H.lim x hx
  ·exact hL
/-- What was there and stands: a frame's own block, or blocks that are new, turn. -/
theorem E3.push {w0 w w1:World}{a b:Nat}{X row:Option Nat}(h:E3 w0 w a b X)(hg:w.grownBy w1 row)(hr:row=none∨row=X∨∃ q,row=some q∧w0.heap.size≤q)(k:Nat)(u:Value):E3 w0 (w1.setCell ⟨b,k,none⟩ u) a b X:=by
 have h1:E3 w0 w1 a b X:=⟨hg.os.trans h.os,hg.tape.trans h.tape,hg.output.trans h.output,Nat.le_trans h.size hg.size,fun j hj h1 h2 h3=>by
  rw [hg.block j (Nat.lt_of_lt_of_le hj h.size) (fun e=>by
   rcases hr with hr|hr|⟨q,hr,hq⟩
   ·rw [hr] at e;cases e
   ·exact h3 (e.trans hr)
   ·rw [hr] at e;cases e;omega)]
  exact h.block j hj h1 h2 h3⟩
 exact h1.trans (E3.of_ex (Ex.set w1 b k u (.inr rfl)))
/-- The length of the slice in a cell. -/
def lenAt (w:World)(b k:Nat):Nat:=match w.cell? ⟨b,k,none⟩ with
 | some (.slice _ n _)=>n
 | _=>0
theorem lenAt_is {w:World}{b k n c:Nat}{a:Option Addr}(h:w.cell? ⟨b,k,none⟩=some (.slice a n c)):lenAt w b k=n:=by unfold lenAt;rw [h]
/-- The pool while a frame's bytes are being grown. -/
def OldB (vs:List Value)(q:Nat):Prop:=∃ j,∃ hj:j<vs.length,vs[j].ownBlock=some q
structure Grow (w wr:World)(base p a b:Nat)(cs:List Int)(Ls:List (List Int))(k N nv:Nat)(X:Option Nat)(L L':List Int)(vs vs0:List Value):Prop where
 rs:RS wr base p a b cs vs (Ls.set k L')
 vl:vs.length=nv
 is:∃ t,t≤N∧L'=upto L t
 own:∀ (h:k<vs.length),vs[k].ownBlock=none∨vs[k].ownBlock=X∨∃ q,vs[k].ownBlock=some q∧w.heap.size≤q
 e3:E3 w wr a b X
 al:∀ i (h:i<vs.length) q,vs[i].ownBlock=some q→OldB vs0 q∨w.heap.size≤q
theorem hat9 {va:Option Addr}{n vc gg cap m H:Nat}{u:Value}(h:(Value.slice va n vc).ownBlock=some gg∨gg=H)(ev:u=.slice va n vc):(Value.slice (some ⟨gg,0,none⟩) m cap).ownBlock=u.ownBlock∨∃ q,(Value.slice (some ⟨gg,0,none⟩) m cap).ownBlock=some q∧H≤q:=by
 rcases h with h|rfl
 ·left;rw [ev,h];rfl
 ·right;exact ⟨gg,rfl,Nat.le_refl _⟩
theorem upto_again {L L':List Int}{t:Nat}(h:L'=upto L t):upto L L'.length=L'∧L.length≤L'.length:=by
 subst h
 by_cases c:t≤L.length
 ·rw [upto_le c];exact ⟨upto_le (Nat.le_refl _),Nat.le_refl _⟩
 ·rw [upto_len L t (by omega)];exact ⟨rfl,by omega⟩
theorem Grow.push {w wr w1:World}{base p a b:Nat}{cs:List Int}{Ls:List (List Int)}{k N nv:Nat}{X:Option Nat}{L L':List Int}{vs vs0:List Value}(HG:Grow w wr base p a b cs Ls k N nv X L L' vs vs0)(hk:k<vs.length)(_hkL:k<Ls.length)(hlt:L'.length<N)(hN:N≤4096)(o:Obj)(v2:Value)
 (hgrow:(wr.alloc o).drew.grownBy w1 vs[k].ownBlock) (hv:w1.ownsRow base 5 1 v2 (L'.length+1) ((L'++[0]).map (Value.int .u8))) (hat:v2.ownBlock=vs[k].ownBlock∨∃ q,v2.ownBlock=some q∧wr.heap.size+1≤q):
 Grow w (w1.setCell ⟨b,k,none⟩ v2) base p a b cs Ls k N nv X L (L'++[0]) (vs.set k v2) vs0:=by
 have hb:Below wr.heap.size wr (wr.alloc o).drew:=bdN (bal o) 1
 have hR:=HG.rs.below hb
 have hl1:(L'++[0]).length=L'.length+1:=by simp
 have hP:=hR.push k hk v2 (L'++[0]) hgrow (by rw [hl1];exact hv) (by
  rcases hat with h|⟨q,h,hq⟩
  ·exact .inl h
  ·exact .inr ⟨q,h,by show (wr.alloc o).heap.size≤q;rw [World.size_alloc];exact hq⟩) (by rw [hl1];omega)
 rw [List.set_set] at hP
 obtain ⟨t,ht,hup⟩:=HG.is
 obtain ⟨h1,h2⟩:=upto_again hup
 refine ⟨hP,by rw [List.length_set];exact HG.vl,⟨L'.length+1,by omega,by rw [← upto_push L L'.length h2,h1]⟩,fun hk2=>?_,?_,fun i hi q e=>?_⟩
 ·rw [List.getElem_set_self]
  rcases hat with h|⟨q,h,hq⟩
  ·rw [h];exact HG.own hk
  ·exact .inr (.inr ⟨q,h,by have:=HG.e3.size;omega⟩)
 ·refine (HG.e3.trans (E3.of_below hb)).push hgrow ?_ k v2
  rcases HG.own hk with h|h|h
  ·exact .inl h
  ·exact .inr (.inl h)
  ·exact .inr (.inr h)
 ·rw [List.length_set] at hi
  simp only [List.getElem_set] at e
  by_cases c:k=i
  ·rw [if_pos c] at e
   rcases hat with h|⟨q',h,hq⟩
   ·exact HG.al k hk q (by rw [← h];exact e)
   ·rw [h] at e;cases e
    exact .inr (by have:=HG.e3.size;omega)
  ·rw [if_neg c] at e
   exact HG.al i hi q e
theorem RS.setByte {w:World}{base p a b:Nat}{cs:List Int}{vs:List Value}{Ls:List (List Int)}(H:RS w base p a b cs vs Ls)(k i:Nat)(hk:k<vs.length)(hkl:k<Ls.length){q n c:Nat}(hv:vs[k]=.slice (some ⟨q,0,none⟩) n c)(x:Int):
 RS (w.setCell ⟨q,i,none⟩ (.int .u8 x)) base p a b cs vs (Ls.set k (Ls[k].set i x)):=by
 have hown:=H.own k hk hkl
 have hob:(vs[k]).ownBlock=some q:=by rw [hv];rfl
 have hne:∀ {g:Nat} {T:TypeId} {ds:List Value},Row w g T ds→T≠5→g≠q:=fun hr hT e=>own_not hown hr hT (by rw [hob,e])
 have h1:=hne H.rp.pool (by decide)
 have h2:=hne H.rp.cnts (by decide)
 have h3:=hne H.rp.bys (by decide)
 refine ⟨⟨H.rp.pool.other (a:=⟨q,i,none⟩) h1 _,H.rp.cnts.other (a:=⟨q,i,none⟩) h2 _,H.rp.bys.other (a:=⟨q,i,none⟩) h3 _,H.rp.vl,H.rp.n2⟩,by rw [List.length_set];exact H.ll,fun j hj hj2=>?_,H.ap,H.c0,fun L hL=>?_,H.pB,H.aB,H.bB⟩
 ·rw [List.length_set] at hj2
  simp only [List.getElem_set]
  by_cases e:k=j
  ·subst e
   rw [if_pos rfl]
   have hlen:(Ls[k].set i x).length=Ls[k].length:=List.length_set
   rw [hlen,List.map_set,hv]
   rw [hv] at hown
   have hn:n=Ls[k].length:=by
    obtain ⟨a',c',e,_⟩:=own_nums hown
    cases e
    rfl
   subst hn
   exact (hown.stored i (.int .u8 x)).1
  ·rw [if_neg e]
   exact own_setOther (H.own j hj hj2) (fun e2=>H.ap k j hk hj e q hob e2.symm) _
 ·rcases List.mem_or_eq_of_mem_set hL with hL|rfl
  ·exact H.lim L hL
  ·rw [List.length_set];exact H.lim _ (List.getElem_mem hkl)
/-- The first j of l laid at o. -/
theorem splice_step {L l:List Int}{o j:Nat}(hj:j<l.length)(h:o+l.length≤L.length):(splice L o (l.take j)).set (o+j) l[j]=splice L o (l.take (j+1)):=by
 apply List.ext_getElem?
 intro i
 have hl1:(l.take j).length=j:=by rw [List.length_take];omega
 have hl2:(l.take (j+1)).length=j+1:=by rw [List.length_take];omega
 have hs:(splice L o (l.take j)).length=L.length:=length_splice L o _ (by rw [hl1];omega)
 rw [List.getElem?_set,splice_get L _ o i (by rw [hl1];omega),splice_get L _ o i (by rw [hl2];omega),hl1,hl2,hs]
 by_cases c:o+j=i
 ·subst c
  rw [if_pos rfl,if_pos (by omega),if_neg (by omega),if_pos (by omega),show o+j-o=j by omega,List.getElem?_take,if_pos (by omega),List.getElem?_eq_getElem hj]
 ·rw [if_neg c]
  by_cases c1:i<o
  ·rw [if_pos c1,if_pos c1]
  ·rw [if_neg c1,if_neg c1]
   by_cases c2:i<o+j
   ·rw [if_pos c2,if_pos (by omega),List.getElem?_take,List.getElem?_take,if_pos (by omega),if_pos (by omega)]
   ·rw [if_neg c2,if_neg (by omega)]
theorem Grow.done {w wr:World}{base p a b:Nat}{cs:List Int}{Ls:List (List Int)}{k N nv:Nat}{X:Option Nat}{L L':List Int}{vs vs0:List Value}(h:Grow w wr base p a b cs Ls k N nv X L L' vs vs0)(hl:N≤L'.length):L'=upto L N:=by
 obtain ⟨t,ht,rfl⟩:=h.is
 by_cases c:t≤L.length
 ·rw [upto_le c] at hl ⊢
  rw [upto_le hl]
 ·rw [upto_len L t (by omega)] at hl
  have:t=N:=by omega
  rw [this]
/-- While the bytes are being laid. -/
structure Laid (w wr:World)(base p a b:Nat)(cs:List Int)(Ls:List (List Int))(k:Nat)(X:Option Nat)(L2:List Int)(vs:List Value):Prop where
 rs:RS wr base p a b cs vs (Ls.set k L2)
 e3:E3 w wr a b X
theorem Laid.byte {w wr:World}{base p a b:Nat}{cs:List Int}{Ls:List (List Int)}{k:Nat}{X:Option Nat}{L2:List Int}{vs:List Value}(h:Laid w wr base p a b cs Ls k X L2 vs)(hk:k<vs.length)(hkl:k<Ls.length){q n c:Nat}(hv:vs[k]=.slice (some ⟨q,0,none⟩) n c)(hq:X=some q∨w.heap.size≤q)(i:Nat)(x:Int):
 Laid w (wr.setCell ⟨q,i,none⟩ (.int .u8 x)).drew base p a b cs Ls k X (L2.set i x) vs:=by
 have hkl':k<(Ls.set k L2).length:=by rw [List.length_set];exact hkl
 have h1:=h.rs.setByte k i hk hkl' hv x
 rw [List.getElem_set_self,List.set_set] at h1
 have hb:Below (wr.setCell ⟨q,i,none⟩ (.int .u8 x)).heap.size (wr.setCell ⟨q,i,none⟩ (.int .u8 x)) (wr.setCell ⟨q,i,none⟩ (.int .u8 x)).drew:=bdN (Below.refl _ _) 1
 refine ⟨h1.below hb,?_⟩
 have hx:Ex wr (wr.setCell ⟨q,i,none⟩ (.int .u8 x)) q q:=Ex.set wr q i _ (.inl rfl)
 refine ⟨hx.os.trans h.e3.os,hx.tape.trans h.e3.tape,hx.output.trans h.e3.output,Nat.le_trans h.e3.size hx.size,fun j hj n1 n2 n3=>?_⟩
 have hjq:j≠q:=by
  rintro rfl
  rcases hq with e|e
  ·exact n3 e.symm
  ·omega
 show (wr.setCell ⟨q,i,none⟩ (.int .u8 x)).heap[j]?=_
 rw [heap_setCell_other wr ⟨q,i,none⟩ j _ hjq]
 exact h.e3.block j hj n1 n2 n3
theorem own_some {w:World}{base E n:Nat}{v:Value}{xs:List Value}(h:w.ownsRow base E 1 v n xs)(hn:0<n):∃ q c,v=.slice (some ⟨q,0,none⟩) n c:=by
 rcases h.2 with ⟨_,h0⟩|⟨g,cap,cur,rfl,_⟩
 ·omega
 ·exact ⟨g,cap,rfl⟩
set_option maxRecDepth 100000 in
set_option maxHeartbeats 8000000 in
theorem rstore_any (base p a b:Nat)(fs:List FR)(vs:List Value)(Ls:List (List Int))(k o:Nat)(ba:Option Addr)(n cap:Nat)(l:List Int)(w:World)(H:RS w base p a b (cnts fs) vs Ls)(h0:∀ x∈fs,0≤x.cnt)(hk:k<fs.length)(hcn:fs[k].cnt≠0)(hom:o+n≤4096)(hB:Nums w .u8 ba n l)(hbs:base≤w.heap.size)(hkv:k<vs.length)(hkL:k<Ls.length)(hba:∀ W,E3 w W a b vs[k].ownBlock→0<l.length→Nums W .u8 ba n l):
 Calls Tryz.prog 94 #[.pointer (some ⟨p,0,none⟩),.int .i64 (k:Int),.int .i64 (o:Int),.slice ba n cap] w fun e w'=>e=.returned (.int .i64 0)∧∃ vs',vs'.length=vs.length∧RS w' base p a b (cnts fs) vs' (Ls.set k (splice (upto Ls[k] (o+n)) o l))∧E3 w w' a b vs[k].ownBlock∧(∀ i (h:i<vs'.length) q,vs'[i].ownBlock=some q→OldB vs q∨w.heap.size≤q):=by
 have HH:=hid H
 have HL:=hid (rtaken_any p a b (cnts fs) vs (k:Int) w H.rp)
 rw [rtk_tak h0] at HL
 have ht:takE fs (k:Int)=0:=by unfold takE;rw [cntF_is2 hk,if_neg hcn]
 rw [ht] at HL
 obtain ⟨i0,hi,hz0,hz1,hz2⟩:=info_parts infoU8j
 have hcl:(cnts fs).length=fs.length:=List.length_map _
 have hvl:vs.length=fs.length:=by rw [HH.out.rp.vl];exact hcl
 have hn2:fs.length≤1024:=by have:=HH.out.rp.n2;rw [hcl] at this;exact this
 have ez:(0:Int)≤(k:Int):=by omega
 have eb:(k:Int)<(fs.length:Int):=by omega
 have hno1:decide ((o:Int)<0)=false:=by simp
 have hno3:decide ((4096:Int)<(o:Int))=false:=by simp;omega
 have hno4:decide ((4096:Int)-(o:Int)<(n:Int))=false:=by simp;omega
 have HCL:=hid hcl
 have HVL:=hid hvl
 have HBY:=hid hB
 have hself:Ls.set k Ls[k]=Ls:=List.set_getElem_self hkL
 have hu0:upto Ls[k] 0=Ls[k]:=upto_le (Nat.zero_le _)
 have HG0:=hid (show Grow w w base p a b (cnts fs) Ls k (o+n) vs.length vs[k].ownBlock Ls[k] (upto Ls[k] 0) vs vs from ⟨by rw [hu0,hself];exact H,rfl,⟨0,Nat.zero_le _,rfl⟩,fun _=>.inr (.inl rfl),E3.refl _ _ _ _,fun i hi q e=>.inl ⟨i,hi,e⟩⟩)
 have hLl:=HH.out.lim _ (List.getElem_mem hkL)
 have HXB:=hid (fun q (e:vs[k].ownBlock=some q)=>own_low (HH.out.own k hkv hkL) (Nat.le_refl _) q e)
 have HAB:=hid (show base≤a∧base≤b from ⟨HH.out.aB,HH.out.bB⟩)
 have HBA:=hid hba
 have hlen:l.length=n:=hB.hlen
 clear hba
 generalize vs[k].ownBlock=X at *
 generalize hLk:Ls[k]=L at *
 clear H h0 ht hcl hvl hB hcn hself hu0
 go_enter Tryz.func94,Tryz.ntmps94
 go_wp2_with fail
 refine (HL.out).mono ?_
 rintro e' w' ⟨rfl,rfl⟩
 go_wp2_with fail
 go_loopw [35] (fun _ wr=>∃ (vs':List Value) (L':List Int),Grow w wr base p a b (cnts fs) Ls k (o+n) vs.length X L L' vs' vs) (fun _ wr=>o+n-lenAt wr b k)
 case atStart=>exact ⟨vs,_,HG0.out⟩
 case round=>
  obtain ⟨vs',L',hG⟩:=hrel
  have HG:=hid hG
  have hkv':k<vs'.length:=by rw [hG.vl];exact hkv
  have hkL':k<(Ls.set k L').length:=by rw [List.length_set];exact hkL
  have hown:=hG.rs.own k hkv' hkL'
  have hLe:(Ls.set k L')[k]=L':=List.getElem_set_self _
  rw [hLe] at hown
  have hL46:=hG.rs.lim _ (List.getElem_mem hkL')
  rw [hLe] at hL46
  obtain ⟨va,vc,ev,hN⟩:=own_nums hown
  have hbc:=hG.rs.rp.bys.cell k hkv'
  rw [ev] at hbc
  have hcl:(cnts fs).length=fs.length:=HCL.out
  obtain ⟨p0,p1⟩:=hG.rs.rp.cells
  rw [hcl] at p0 p1
  have hlp:=hG.rs.rp.pool.lt
  have hlb:=hG.rs.rp.bys.lt
  have hfz:=hG.rs.rp.bys.frozen k
  have HLA:=hid (lenAt_is hbc)
  clear hcl hG
  by_cases hlt:L'.length<o+n
  ·have d1:decide ((L'.length:Int)<(o:Int)+(n:Int))=true:=by simp;omega
   rw [ev] at hown
   have HOW:=hid (fun ob=>World.ownsRow.drew (hown.alloc ob))
   have HL1:=hid (show L'.length+1≤maxLen by unfold maxLen;omega)
   have HL2:=hid (show (L'.length+1)*1≤140737488355328 by omega)
   have HN1:=hid (show ∀ j u,[Value.int .u8 0][j]?=some u→(wr.alloc (.cells #[.int .u8 0] 5)).drew.cell? ((Addr.mk wr.heap.size 0 none).add j)=some u from fun j u hj=>news_one wr (.int .u8 0) 5 j u hj)
   have hbse:base≤(wr.alloc (.cells #[.int .u8 0] 5)).drew.heap.size:=by
    have:=HG.out.e3.size
    show base≤(wr.alloc _).heap.size
    simp only [World.size_alloc]
    omega
   have HBS:=hid hbse
   have HBR:=hid (show Row (wr.alloc (.cells #[.int .u8 0] 5)).drew b 89 vs' from (HG.out.rs.rp.bys.alloc _).drew)
   have HNB:=hid (own_row_ne hown HG.out.rs.rp.bys (by decide))
   have HKV:=hid hkv'
   have HPR:=hid (show Row (wr.alloc (.cells #[.int .u8 0] 5)).drew p 149 (rpC a b fs.length) from by
    have:=(HG.out.rs.rp.pool.alloc (.cells #[.int .u8 0] 5)).drew
    rw [HCL.out] at this
    exact this)
   have HNP:=hid (own_row_ne hown HG.out.rs.rp.pool (by decide))
   have HPC:=hid (fun (w1:World) (hr:Row w1 p 149 (rpC a b fs.length))=>show w1.cell? ⟨p,1,none⟩=some (.slice (some ⟨b,0,none⟩) fs.length fs.length) by
    have:=hr.cell 1 (by simp)
    simpa [rpC] using this)
   have HEV:=hid ev
   have HP9:=hid (fun (w1:World) (gg cap:Nat)=>HG.out.push (w1:=w1) hkv' hkL hlt hom (.cells #[.int .u8 0] 5) (.slice (some ⟨gg,0,none⟩) (L'.length+1) cap))
   clear hbse hown hN ev
   go_wp2_with fail
   go_region_law (refine step_append_lies _ (by rfl) _ _ 89 (by rfl) base 5 i0 (.int .u8 0) 1 1 Tryz.underlying89 hi hz0 hz1 hz2 rfl (by decide) (.slice va L'.length vc) L'.length (L'.map (Value.int .u8)) (by rfl) (HOW.out _) ⟨wr.heap.size,0,none⟩ 1 1 [.int .u8 0] (by rfl) (by rfl) HN1.out (ones_one _ _) (by decide) HL1.out HL2.out HBS.out (wr.heap.size+1) (by simp) ?_;intro gg cap w1 hown1 hgrow hat hlt;have HB1:=hid (HBR.out.grown hgrow HNB.out);have hbc1:=HB1.out.cell k HKV.out;have hfz1:=HB1.out.frozen k;have hlb1:=HB1.out.lt;have HP1:=hid (HPR.out.grown hgrow HNP.out);have p11:=HPC.out w1 HP1.out;have hlp1:=HP1.out.lt;have HO1:=hid hown1;have HG1:=hid hgrow;have HAT:=hid hat;clear hown1 hgrow hat)
   all_goals
    have HGN:=hid (HP9.out w1 gg cap (by rw [HEV.out];exact HG1.out) (by rw [List.map_append];exact HO1.out) (hat9 HAT.out HEV.out))
    have HLN:=hid (lenAt_is (World.cell?_setCell_same w1 ⟨b,k,none⟩ (.slice (some ⟨gg,0,none⟩) (L'.length+1) cap) hbc1))
    clear hbc1 hfz1 hlb1 p11 hlp1
    go_wp2_with fail
    go_roundw
    case rel=>exact ⟨_,_,HGN.out⟩
    case measure=>have h1:=HLN.out;have h2:=HLA.out;omega
  ·have d1:decide ((L'.length:Int)<(o:Int)+(n:Int))=false:=by simp;omega
   have HDN:=hid (HG.out.done (by omega))
   have HL0:=hid (show Laid w wr base p a b (cnts fs) Ls k X (splice L' o (l.take 0)) vs' from ⟨by rw [List.take_zero,splice_nil];exact HG.out.rs,HG.out.e3⟩)
   have HVV:=hid HG.out.vl
   have HAL:=hid HG.out.al
   have HON:=hid (HG.out.own hkv')
   have hge:o+n≤L'.length:=by omega
   rename World=>wB
   have HEV:=hid ev
   clear hlt hkL' hLe hown hN HLA ev
   go_wp2_with fail
   clear d1 hbc hfz hlp hlb p0 p1
   go_loopw [9] (fun i wr=>∃ j:Nat,j≤n∧i=.int .i64 j∧Laid w wr base p a b (cnts fs) Ls k X (splice L' o (l.take j)) vs') (fun i _=>n-(intOf i).toNat)
   case atStart=>exact ⟨0,Nat.zero_le _,rfl,HL0.out⟩
   case round=>
    obtain ⟨j,hj,rfl,hld⟩:=hrel
    have HLD:=hid hld
    clear hld
    by_cases hjn:j<n
    ·have d2:decide ((j:Int)<(n:Int))=true:=by simp;omega
     have d2n:decide (j<n)=true:=by simp;omega
     have hkl2:k<(Ls.set k (splice L' o (l.take j))).length:=by rw [List.length_set];exact hkL
     have hown:=HLD.out.rs.own k hkv' hkl2
     rw [List.getElem_set_self] at hown
     have hsl:(splice L' o (l.take j)).length=L'.length:=length_splice L' o _ (by rw [List.length_take];omega)
     rw [hsl] at hown
     obtain ⟨q,qc,hvq⟩:=own_some hown (by omega)
     have hev:=HEV.out
     rw [hvq] at hev hown
     cases hev
     have hbc:=HLD.out.rs.rp.bys.cell k hkv'
     rw [hvq] at hbc
     have hcl:(cnts fs).length=fs.length:=HCL.out
     obtain ⟨p0,p1⟩:=HLD.out.rs.rp.cells
     rw [hcl] at p0 p1
     have hlp:=HLD.out.rs.rp.pool.lt
     have hlb:=HLD.out.rs.rp.bys.lt
     have hqc:=hown.cellAt (o+j) (by omega)
     have hqf:=hown.frozenAt (o+j)
     rw [List.getElem?_map,List.getElem?_eq_getElem (show o+j<(splice L' o (l.take j)).length by omega)] at hqc
     have hNb:=HBA.out wr HLD.out.e3 (by omega)
     obtain ⟨bb,bo,hbe,hbcell⟩:=hNb.cell j (by omega)
     have hbl:=World.block_lt_of_cell? wr _ hbcell
     have HQX:=hid (show X=some q∨w.heap.size≤q from by
      rcases HON.out with h|h|⟨q',h,hq'⟩
      ·rw [hvq] at h;cases h
      ·rw [hvq] at h;exact .inl h.symm
      ·rw [hvq] at h;cases h;exact .inr hq')
     have HST:=hid (HLD.out.byte hkv' hkL hvq HQX.out (o+j) l[j])
     rw [splice_step (by omega) (by omega)] at HST
     have gw:IntKind.i64.wrap ((o:Int)+(j:Int))=(o:Int)+(j:Int):=IntWalk.i64_in _ (by omega)
     have gw1:(0:Int)≤(o:Int)+(j:Int):=by omega
     have gw2:(o:Int)+(j:Int)<(L'.length:Int):=by omega
     have gw3:((o:Int)+(j:Int)).toNat=o+j:=by omega
     have gw4:(0:Int)≤(j:Int):=by omega
     have gw5:(j:Int)<(n:Int):=by omega
     have hojl:o+j<L'.length:=by omega
     obtain ⟨z9,hz9⟩:∃ z,wr.cell? ⟨q,o+j,none⟩=some (.int .u8 z):=⟨_,hqc⟩
     clear hqc hown hNb hcl hkl2 hsl
     generalize l[j]=lj at *
     subst hbe
     go_wp2_with fail
     go_still_tail 15,(by kernel_rfl)
     clear gw gw1 gw2 gw3 gw4 gw5
     go_wp2_with fail
     go_roundw
     case rel=>exact ⟨j+1,by omega,by go_num,HST.out⟩
     case measure=>simp [intOf];omega
    ·have d2:decide ((j:Int)<(n:Int))=false:=by simp;omega
     have d2n:decide (j<n)=false:=by simp;omega
     have hjl:l.take j=l:=List.take_of_length_le (by omega)
     rw [hjl] at HLD
     go_wp2_with fail
     go_ret
     refine ⟨rfl,vs',HVV.out,?_,HLD.out.e3,HAL.out⟩
     rw [← HDN.out]
     exact HLD.out.rs
/-- Rows of other types than the reference's pool has stand. -/
def Oth (w w':World):Prop:=∀ g T cs,Row w g T cs→T≠3→T≠89→T≠5→Row w' g T cs
theorem Oth.refl (w:World):Oth w w:=fun _ _ _ h _ _ _=>h
theorem Oth.of_e3 {w w':World}{base p a b:Nat}{cs:List Int}{vs:List Value}{Ls:List (List Int)}(H:RS w base p a b cs vs Ls){X:Option Nat}(h:E3 w w' a b X)(hX:∀ q,X=some q→∃ ds,Row w q 5 ds):Oth w w':=fun g T ds hr h1 h2 h3=>by
 refine h.row hr (row_tys hr H.rp.cnts h1) (row_tys hr H.rp.bys h2) (fun e=>?_)
 obtain ⟨ds',hd⟩:=hX g e.symm
 exact row_tys hr hd h3 rfl
theorem own_blk {w:World}{base E n:Nat}{v:Value}{xs:List Value}(h:w.ownsRow base E 1 v n xs):∀ q,v.ownBlock=some q→∃ ds,Row w q E ds:=by
 intro q hq
 rcases h.2 with ⟨rfl,_⟩|⟨g,cap,cur,rfl,_,hg,_⟩
 ·cases hq
 ·cases hq
  exact ⟨cur.toList,⟨by simpa using hg⟩⟩
theorem holds_store {fs:List FR}{Ls:List (List Int)}(_hok:FsOk fs)(hB:HoldsB fs Ls)(hlim:∀ L∈Ls,L.length≤4096){k o:Nat}{l:List Int}(hk:k<fs.length)(hkL:k<Ls.length)(hcn:fs[k].cnt≠0)(hom:o+l.length≤4096):
 HoldsB (fs.set k ⟨splice fs[k].bs o l,fs[k].cnt⟩) (Ls.set k (splice (upto Ls[k] (o+l.length)) o l)):=by
 intro i hi hi2 hci
 rw [List.length_set] at hi hi2
 simp only [List.getElem_set] at hci ⊢
 by_cases e:k=i
 ·subst e
  rw [if_pos rfl,if_pos rfl]
  have hh:=hB k hk hkL hcn
  have hl:=hlim _ (List.getElem_mem hkL)
  have hu:=upto_same Ls[k] (o+l.length) hom hl
  have hul:o+l.length≤(upto Ls[k] (o+l.length)).length:=by
   by_cases c:o+l.length≤Ls[k].length
   ·rw [upto_le c];exact c
   ·rw [upto_len _ _ (by omega)];exact Nat.le_refl _
  show splice fs[k].bs o l=_
  rw [hh,← hu]
  have hm:=splice_mid [] (upto Ls[k] (o+l.length)) (List.replicate (4096-(upto Ls[k] (o+l.length)).length) 0) l o hul
  rw [List.nil_append,List.nil_append,List.length_nil,Nat.zero_add] at hm
  rw [hm,length_splice _ _ _ hul]
 ·rw [if_neg e] at hci
  rw [if_neg e,if_neg e]
  exact hB i hi hi2 hci
theorem cnts_store (fs:List FR)(k:Nat)(bs:List Int)(hk:k<fs.length):cnts (fs.set k ⟨bs,fs[k].cnt⟩)=cnts fs:=by
 unfold cnts
 rw [List.map_set]
 show (fs.map (·.cnt)).set k (fs[k].cnt)=_
 have:fs[k].cnt=(fs.map (·.cnt))[k]'(by simpa using hk):=by simp
 rw [this,List.set_getElem_self]
set_option maxRecDepth 100000 in
set_option maxHeartbeats 4000000 in
theorem rstoreR_any (base p a b:Nat)(fs:List FR)(vs:List Value)(Ls:List (List Int))(f off:Int)(ba:Option Addr)(n cap:Nat)(l:List Int)(w:World)(H:RS w base p a b (cnts fs) vs Ls)(hok:FsOk fs)(h0:∀ x∈fs,0≤x.cnt)(hB:HoldsB fs Ls)(hN:Nums w .u8 ba n l)(hba:∀ W X,E3 w W a b X→(∀ q,X=some q→OldB vs q)→0<l.length→Nums W .u8 ba n l)(hbs:base≤w.heap.size)(hn:n≤9223372036854775807):
 Calls Tryz.prog 94 #[.pointer (some ⟨p,0,none⟩),.int .i64 f,.int .i64 off,.slice ba n cap] w fun e w'=>e=.returned (.int .i64 (loadE fs f off n))∧∃ vs' Ls',RS w' base p a b (cnts (storeS fs f off l)) vs' Ls'∧HoldsB (storeS fs f off l) Ls'∧Oth w w'∧Below base w w'∧(∃ X,E3 w w' a b X∧(∀ q,X=some q→OldB vs q))∧(∀ i (h:i<vs'.length) q,vs'[i].ownBlock=some q→OldB vs q∨w.heap.size≤q):=by
 obtain rfl:=hN.hlen
 have HH:=hid H
 have HL:=hid (rtaken_any p a b (cnts fs) vs f w H.rp)
 rw [rtk_tak h0] at HL
 have HBY:=hid hB
 by_cases ht:takE fs f=0
 ·by_cases hbad:off<0∨4096<off∨4096-off<(l.length:Int)
  ·have HF:=hid (show loadE fs f off l.length=1∧storeS fs f off l=fs by
    have hw:withinB off l.length=false:=within_no (by omega)
    unfold storeS loadE
    rw [ht,hw]
    exact ⟨rfl,rfl⟩)
   have q1:(takE fs f==0)=true:=by simpa using ht
   rw [q1] at HL
   clear q1 ht H hok hB h0
   by_cases c1:off<0
   ·have d1:decide (off<0)=true:=decide_eq_true c1
    clear hbad c1
    go_enter Tryz.func94,Tryz.ntmps94
    go_wp2_with fail
    refine (HL.out).mono ?_
    rintro e' w' ⟨rfl,rfl⟩
    go_wp2_with fail
    go_ret
    rw [HF.out.1]
    exact ⟨rfl,vs,Ls,by rw [HF.out.2];exact HH.out,by rw [HF.out.2];exact HBY.out,Oth.refl _,Below.refl _ _,⟨none,E3.refl _ _ _ _,fun q e=>by cases e⟩,fun i hi q e=>.inl ⟨i,hi,e⟩⟩
   ·have d1:decide (off<0)=false:=decide_eq_false c1
    by_cases c3:4096<off
    ·have d3:decide (4096<off)=true:=decide_eq_true c3
     clear hbad c3
     go_enter Tryz.func94,Tryz.ntmps94
     go_wp2_with fail
     refine (HL.out).mono ?_
     rintro e' w' ⟨rfl,rfl⟩
     go_wp2_with fail
     go_ret
     rw [HF.out.1]
     exact ⟨rfl,vs,Ls,by rw [HF.out.2];exact HH.out,by rw [HF.out.2];exact HBY.out,Oth.refl _,Below.refl _ _,⟨none,E3.refl _ _ _ _,fun q e=>by cases e⟩,fun i hi q e=>.inl ⟨i,hi,e⟩⟩
    ·have d3:decide (4096<off)=false:=decide_eq_false c3
     have d4:decide (4096-off<(l.length:Int))=true:=decide_eq_true (by omega)
     have ew:=IntWalk.wrap64_in (4096-off) ⟨by omega,by omega⟩
     clear hbad
     go_enter Tryz.func94,Tryz.ntmps94
     go_wp2_with fail
     refine (HL.out).mono ?_
     rintro e' w' ⟨rfl,rfl⟩
     go_wp2_with fail
     go_ret
     rw [HF.out.1]
     exact ⟨rfl,vs,Ls,by rw [HF.out.2];exact HH.out,by rw [HF.out.2];exact HBY.out,Oth.refl _,Below.refl _ _,⟨none,E3.refl _ _ _ _,fun q e=>by cases e⟩,fun i hi q e=>.inl ⟨i,hi,e⟩⟩
  ·obtain ⟨o,rfl⟩:=Int.eq_ofNat_of_zero_le (show 0≤off by omega)
   have hom:o+l.length≤4096:=by omega
   have hcz:cntF fs f≠0:=fun e=>by unfold takE at ht;rw [if_pos e] at ht;exact absurd ht (by decide)
   obtain ⟨k,hk,rfl,hc⟩:=cnt_is hcz
   have hcn:fs[k].cnt≠0:=fun e=>hcz (by rw [hc];exact e)
   have hw:withinB (o:Int) (l.length:Int)=true:=by unfold withinB;simp;omega
   have hcl:(cnts fs).length=fs.length:=List.length_map _
   have hvl:vs.length=fs.length:=by rw [H.rp.vl];exact hcl
   have hkv:k<vs.length:=by omega
   have hkL:k<Ls.length:=by have:=H.ll;omega
   have hle:loadE fs k o l.length=0:=by unfold loadE;rw [ht,hw];rfl
   have hst:storeS fs k o l=fs.set k ⟨splice fs[k].bs o l,fs[k].cnt⟩:=by unfold storeS;rw [hle,if_pos rfl,Int.toNat_natCast,Int.toNat_natCast,getF_at _ _ _ hk]
   refine (rstore_any base p a b fs vs Ls k o ba l.length cap l w H h0 hk hcn hom hN hbs hkv hkL (fun W he h=>hba W _ he (fun q e=>⟨k,hkv,e⟩) h)).mono ?_
   rintro e' w' ⟨rfl,vs',hvl',hrs,he3,hal⟩
   rw [hle,hst]
   refine ⟨rfl,vs',_,by rw [cnts_store fs k _ hk];exact hrs,holds_store hok hB H.lim hk hkL hcn hom,Oth.of_e3 H he3 (own_blk (H.own k hkv hkL)),he3.below (Below.refl base w) H.aB H.bB (fun q e=>own_low (H.own k hkv hkL) (Nat.le_refl _) q e) hbs,⟨_,he3,fun q e=>⟨k,hkv,e⟩⟩,hal⟩
 ·have HF:=hid (show loadE fs f off l.length=1∧storeS fs f off l=fs by unfold storeS loadE;rw [if_neg ht];exact ⟨rfl,rfl⟩)
  have q1:(takE fs f==0)=false:=by simpa using ht
  rw [q1] at HL
  clear q1 ht H hok hB h0
  go_enter Tryz.func94,Tryz.ntmps94
  go_wp2_with fail
  refine (HL.out).mono ?_
  rintro e' w' ⟨rfl,rfl⟩
  go_wp2_with fail
  go_ret
  rw [HF.out.1]
  exact ⟨rfl,vs,Ls,by rw [HF.out.2];exact HH.out,by rw [HF.out.2];exact HBY.out,Oth.refl _,Below.refl _ _,⟨none,E3.refl _ _ _ _,fun q e=>by cases e⟩,fun i hi q e=>.inl ⟨i,hi,e⟩⟩
theorem cnt_at {fs:List FR}{f:Int}(h:cntF fs f≠0):∃ k:Nat,∃ hk:k<fs.length,f=(k:Int)∧cntF fs f=fs[k].cnt∧fs[k].cnt≠0:=by
 obtain ⟨k,hk,e1,e2⟩:=cnt_is h
 exact ⟨k,hk,e1,e2,fun e=>h (by rw [e2];exact e)⟩
theorem rtk_zero {fs:List FR}(h0:∀ x∈fs,0≤x.cnt)(f:Int):(if rtk (cnts fs) f then (0:Int) else 1)=takE fs f:=by
 rw [rtk_tak h0]
 unfold takE
 by_cases c:cntF fs f=0
 ·rw [if_pos c];rfl
 ·rw [if_neg c];rfl
theorem cnts_up {fs:List FR}(h0:∀ x∈fs,0≤x.cnt)(f:Int):rupS (cnts fs) f 1=cnts (upS fs f):=by
 unfold rupS upS
 rw [rtk_tak h0,show rcnt (cnts fs) f=cntF fs f from rcnt_map fs f]
 unfold takE cnts
 by_cases c:cntF fs f=0
 ·rw [if_pos c,if_pos c];rfl
 ·rw [if_neg c,if_neg c,List.map_set];rfl
theorem cnts_down {fs:List FR}(h0:∀ x∈fs,0≤x.cnt)(f:Int):rupS (cnts fs) f (-1)=cnts (downS fs f):=by
 unfold rupS downS
 rw [rtk_tak h0,show rcnt (cnts fs) f=cntF fs f from rcnt_map fs f]
 unfold takE cnts
 by_cases c:cntF fs f=0
 ·rw [if_pos c,if_pos c];rfl
 ·rw [if_neg c,if_neg c,List.map_set];rfl
/-- A count turned: what a taken frame holds stands. -/
theorem holds_turn {fs:List FR}{Ls:List (List Int)}(hB:HoldsB fs Ls){k:Nat}(hk:k<fs.length)(hc:fs[k].cnt≠0)(c:Int):HoldsB (fs.set k ⟨fs[k].bs,c⟩) Ls:=by
 intro i hi hi2 hci
 rw [List.length_set] at hi
 simp only [List.getElem_set] at hci ⊢
 by_cases e:k=i
 ·subst e
  rw [if_pos rfl]
  exact hB k hk hi2 hc
 ·rw [if_neg e] at hci
  rw [if_neg e]
  exact hB i hi hi2 hci
theorem holds_up {fs:List FR}{Ls:List (List Int)}(hB:HoldsB fs Ls)(f:Int):HoldsB (upS fs f) Ls:=by
 unfold upS
 by_cases c:cntF fs f=0
 ·rw [if_pos c];exact hB
 ·rw [if_neg c]
  obtain ⟨k,hk,rfl,_,hc⟩:=cnt_at c
  rw [Int.toNat_natCast,getF_at _ _ _ hk]
  exact holds_turn hB hk hc _
theorem holds_down {fs:List FR}{Ls:List (List Int)}(hB:HoldsB fs Ls)(f:Int):HoldsB (downS fs f) Ls:=by
 unfold downS
 by_cases c:cntF fs f=0
 ·rw [if_pos c];exact hB
 ·rw [if_neg c]
  obtain ⟨k,hk,rfl,_,hc⟩:=cnt_at c
  rw [Int.toNat_natCast,getF_at _ _ _ hk]
  exact holds_turn hB hk hc _
theorem holds_take {fs:List FR}{Ls:List (List Int)}(hB:HoldsB fs Ls):HoldsB (takeS fs) (takeLs fs Ls):=by
 unfold takeS takeLs
 cases hl:lowR fs with
 | none=>exact hB
 | some k=>
  intro i hi hi2 hci
  simp only [List.length_set] at hi hi2
  simp only [List.getElem_set] at hci ⊢
  by_cases e:k=i
  ·rw [if_pos e,if_pos e];rfl
  ·rw [if_neg e] at hci
   rw [if_neg e,if_neg e]
   exact hB i hi hi2 hci
end Go.Proofs.YtdjpjfdeeelijaaGreatDoor
