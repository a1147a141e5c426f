/- What the two listed variables give a walk; closed facts of the program; what is done, as arguments. -/
import Derived.Test.YtdjpjfdeeelijaaGreatDoorW06
import Derived.Test.YtdjpjfdeeelijaaGreatDoorW04
import Derived.Test.YtdjpjfdeeelijaaGreatDoorRows
namespace Go.Proofs.YtdjpjfdeeelijaaGreatDoor
open Go.ChangeShapes Go.WideShapes Go.ChangeAt Go.RowKit Go.Sort
theorem gTab:Tryz.prog.globalNamed "math/bits.deBruijn64tab"=some 0:=by kernel_rfl
theorem tTab:(Tryz.prog.globals[0]?).map (·.type)=some 209:=by kernel_rfl
theorem gSizes:Tryz.prog.globalNamed "hostel/words.sizes"=some 1:=by kernel_rfl
theorem tSizes:(Tryz.prog.globals[1]?).map (·.type)=some 107:=by kernel_rfl
/-- What the rows list. -/
def laidM:List (String × DataW Unit):=[("math/bits.deBruijn64tab",Rows.laid_math_bits_deBruijn64tab),("hostel/words.sizes",Rows.laid_hostel_words_sizes)]
theorem laid_tab:(Rows.laid_math_bits_deBruijn64tab:DataW Unit)=.agg (Lib.deBruijn64tab.map fun (x:Nat)=>DataW.lit (.int .u8 (x:Int))):=by kernel_rfl
theorem door_met (os:Os)(args:Array Value):laidMetH Tryz.prog laidM ((World.doorLaid Tryz.prog 400 os).forCall (fun _ _=>0) ⟨#[],args,[]⟩).memory:=
 laidMetH_of_parts3 (fuel:=8) (laidMet_of_run' 8 (by kernel_rfl) (by kernel_rfl)) (by kernel_rfl) (by kernel_rfl)
theorem two_of_laid {W:World}(h:laidMetH Tryz.prog laidM W):Tb W∧Wd.Sizes W:=by
 rw [MakeChecks.laidMetH_plain _ _ _ (by kernel_rfl)] at h
 obtain ⟨ps,⟨g0,t0,cs0,f0,p0,q0,hg0,ht0,hv0,hd0,⟨g1,t1,cs1,f1,p1,q1,hg1,ht1,hv1,hd1,_,_⟩,_⟩,_,_⟩:=h
 obtain rfl:=Option.some.inj (gTab.symm.trans hg0)
 obtain rfl:=Option.some.inj (tTab.symm.trans ht0)
 obtain rfl:=Option.some.inj (gSizes.symm.trans hg1)
 obtain rfl:=Option.some.inj (tSizes.symm.trans ht1)
 constructor
 ·obtain ⟨xs,m1,rfl,hx1,hlen,hn3,hel⟩:=DataW.trod_array Tryz.underlying209 hd0
  have c1:Tryz.prog.cellsOf 5=1:=by kernel_rfl
  intro j hj
  have h0:=hel j hj
  simp only [Prod.mk.injEq,laid_tab,DataW.agg.injEq] at hx1
  have hjx:j<xs.length:=by omega
  obtain ⟨k,e1,e2,_⟩:=DataW.trod_int Tryz.underlying5 (show DataW.trod _ Tryz.prog W 0 _ false m1 5 _=some xs[j] from by rw [List.getElem?_eq_getElem hjx] at h0;exact h0)
  have hjl:j<Lib.deBruijn64tab.length:=hj
  have hk:k=((Lib.deBruijn64tab.getD j 0:Nat):Int):=by
   have e3:=hx1.1
   have e4:(xs.map (·.1))[j]?=(Lib.deBruijn64tab.map fun (x:Nat)=>(DataW.lit (H:=Unit) (.int .u8 (x:Int))))[j]?:=by rw [← e3]
   rw [List.getElem?_map,List.getElem?_eq_getElem hjx,List.getElem?_map,List.getElem?_eq_getElem hjl] at e4
   simp only [Option.map_some,Option.some.injEq] at e4
   rw [e2] at e4
   simp only [DataW.lit.injEq,Lit.int.injEq,true_and] at e4
   rw [e4,List.getD_eq_getElem?_getD,List.getElem?_eq_getElem hjl]
   rfl
  subst hk
  have:=World.var?_cell hg0 hv0 j
  rw [this]
  rw [c1] at e1
  have e5:(List.take 1 (List.drop (j*1) cs0.toList))[0]?=some (.int .u8 ((Lib.deBruijn64tab.getD j 0:Nat):Int)):=by rw [e1];rfl
  simpa using e5
 ·obtain ⟨xs,m1,rfl,hx1,hlen,hn3,hel⟩:=DataW.trod_array Tryz.underlying107 hd1
  have c3:Tryz.prog.cellsOf 3=1:=by kernel_rfl
  have key:∀ (j:Nat) (k0:Int),j<4→([DataW.lit (H:=Unit) (.int .i64 1),.lit (.int .i64 2),.lit (.int .i64 4),.lit (.int .i64 8)])[j]?=some (.lit (.int .i64 k0))→W.cell? ⟨1,j,none⟩=some (.int .i64 k0):=by
   intro j k0 hj hk0
   have h0:=hel j hj
   simp only [Prod.mk.injEq,Rows.laid_hostel_words_sizes,DataW.agg.injEq] at hx1
   have hjx:j<xs.length:=by omega
   obtain ⟨k,e1,e2,_⟩:=DataW.trod_int Tryz.underlying3 (show DataW.trod _ Tryz.prog W 0 _ false m1 3 _=some xs[j] from by rw [List.getElem?_eq_getElem hjx] at h0;exact h0)
   have hk:k=k0:=by
    have e3:=hx1.1
    have e4:(xs.map (·.1))[j]?=some (.lit (.int .i64 k0)):=by rw [← e3];exact hk0
    rw [List.getElem?_map,List.getElem?_eq_getElem hjx] at e4
    simp only [Option.map_some,Option.some.injEq] at e4
    rw [e2] at e4
    simpa using e4
   subst hk
   have:=World.var?_cell hg1 hv1 j
   rw [this]
   rw [c3] at e1
   have e5:(List.take 1 (List.drop (j*1) cs1.toList))[0]?=some (.int .i64 k):=by rw [e1];rfl
   simpa using e5
  exact ⟨key 0 1 (by decide) rfl,key 1 2 (by decide) rfl,key 2 4 (by decide) rfl,key 3 8 (by decide) rfl⟩
theorem i64_of {n:Int}(h:(Lit.int .i64 n).wf=true):I64 n:=bounds_i64 h
theorem leavesO9:leaves Tryz.prog 2 38=[(0,3),(1,36),(2,3),(3,5),(4,4),(5,3)]:=by kernel_rfl
theorem cellsO9:Tryz.prog.cellsOf 38=6:=by kernel_rfl
section
variable {H:Type}{enc:TypeId × Value→H}{w:World}{held:Bool}
set_option maxRecDepth 100000 in
set_option maxHeartbeats 2000000 in
theorem open_ops9 {r:Reach}{b0:Nat}{v:Value}{d:DataW H}{ps:List MemPlace}(hv:Value.okWide Tryz.prog w r b0 22 v)(h:DataW.Trod enc Tryz.prog w 0 (fun _=>true) held 22 v d ps)(hz:(d.weights Tryz.prog 22).all (·≤reachBytes)=true):
 ∃ a c,∃ l:List O9,v=.slice a l.length c∧Ops9 w a l:=by
 obtain ⟨a,n,c,rfl,hnc,_,hcn,hby,hrow⟩:=open_rows_arg (n:=2) Tryz.underlying22 hv h (small_of hz) (by rw [cellsO9];omega)
 rw [leavesO9,cellsO9] at hrow
 obtain ⟨l,hl,hp⟩:=list_of (fun i (x:O9)=>Op9Ok x∧∃ b off,a=some ⟨b,off,none⟩∧∀ j (hj:j<(opC9 x).length),w.cell? ⟨b,off+i*6+j,none⟩=some (opC9 x)[j]) n (fun i hi=>by
  obtain ⟨b,off,rfl,hc⟩:=hrow i hi
  obtain ⟨v0,m0,y0,c0,t0,s0⟩:=hc 0 3 (by simp) (by kernel_rfl) (by omega)
  obtain ⟨v1,m1,y1,c1,t1,s1⟩:=hc 1 36 (by simp) (by kernel_rfl) (by omega)
  obtain ⟨v2,m2,y2,c2,t2,s2⟩:=hc 2 3 (by simp) (by kernel_rfl) (by omega)
  obtain ⟨v3,m3,y3,c3,t3,s3⟩:=hc 3 5 (by simp) (by kernel_rfl) (by omega)
  obtain ⟨v4,m4,y4,c4,t4,s4⟩:=hc 4 4 (by simp) (by kernel_rfl) (by omega)
  obtain ⟨v5,m5,y5,c5,t5,s5⟩:=hc 5 3 (by simp) (by kernel_rfl) (by omega)
  obtain ⟨x0,rfl,_⟩:=leaf_int Tryz.underlying3 t0
  obtain ⟨x1,rfl,b1⟩:=leaf_int Tryz.underlying36 t1
  obtain ⟨x2,rfl,_⟩:=leaf_int Tryz.underlying3 t2
  obtain ⟨x3,rfl,b3⟩:=leaf_int Tryz.underlying5 t3
  obtain ⟨x4,rfl⟩:=leaf_bool Tryz.underlying4 t4
  obtain ⟨x5,rfl,b5⟩:=leaf_int Tryz.underlying3 t5
  have q1:=bounds_u64 b1
  have q3:=bounds_u8 b3
  obtain ⟨k1,rfl⟩:=Int.eq_ofNat_of_zero_le q1.1
  refine ⟨⟨x0,k1,x2,x3,x4,x5⟩,⟨by show k1<_;omega,q3.1,q3.2,i64_of b5⟩,b,off,rfl,fun j hj=>?_⟩
  have hj':j<6:=hj
  rcases j with _|_|_|_|_|_|j
  ·exact c0
  ·exact c1
  ·exact c2
  ·exact c3
  ·exact c4
  ·exact c5
  ·omega)
 subst hl
 refine ⟨a,c,l,rfl,⟨⟨by simp,fun i hi=>?_⟩,fun x hx=>?_⟩⟩
 ·have hi':i<l.length:=by simpa using hi
  obtain ⟨_,b,off,rfl,hc⟩:=hp i hi'
  have e:(l.map opC9)[i]=opC9 l[i]:=by simp
  rw [e]
  exact ⟨rfl,b,off,rfl,hc⟩
 ·obtain ⟨i,hi,rfl⟩:=List.getElem_of_mem hx
  exact (hp i hi).1
end
end Go.Proofs.YtdjpjfdeeelijaaGreatDoor
