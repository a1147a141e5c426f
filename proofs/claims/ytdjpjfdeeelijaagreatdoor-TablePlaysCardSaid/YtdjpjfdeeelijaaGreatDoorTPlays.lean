/- TablePlays: for every number of frames and all that is done the law returns true, where the table of math/bits and the sizes of words are as their initialisers lay them; the arguments read as they did. -/
import Derived.Test.YtdjpjfdeeelijaaGreatDoorW14
import Derived.Test.YtdjpjfdeeelijaaGreatDoorGtV
import Derived.Test.YtdjpjfdeeelijaaGreatDoorCards
import Derived.Test.YtdjpjfdeeelijaaGreatDoorTie
namespace Go.Proofs.YtdjpjfdeeelijaaGreatDoor.lawTablePlays
open Go.ChangeShapes Go.WideShapes Go.ChangeAt Go.RowKit
set_option maxRecDepth 100000 in
theorem lifted (os:Os)(started:os.Started)(H:Type)(enc:TypeId × Value→H):
 ReturnsInHanded {} Tryz.checked os 3 .any (fun w args=>(Rows.tablePlaysSpec.pre enc Tryz.prog Tryz.f3 [] false w args∧laidMetH Tryz.prog laidM w)∧sizedMet enc Tryz.prog Tryz.f3 (OpenSpec.ofChange Rows.tablePlaysSpec) false w args)
  (Rows.tablePlaysSpec.post enc Tryz.prog Tryz.f3 false true false false):=by
 refine returnsInHanded_of_change_and (C:=Tryz.checked) (X:=fun w _=>laidMetH Tryz.prog laidM w) (fun _ _ _ hh h=>h.of_heap hh) own started (by kernel_rfl) Tryz.func3
  (ChangeSpec.witness_shaped (enc:=enc) (C:=Tryz.checked) (os:=os) (X:=fun w _=>laidMetH Tryz.prog laidM w) false (World.doorLaid Tryz.prog 400 os) #[.int .i64 0,.slice none 0 0] 8 rfl (World.shaped_of_RefB (by kernel_rfl) (by kernel_rfl)) (by kernel_rfl) (by kernel_rfl) (by kernel_rfl) (door_met os _)) ?_
 intro W base args ds gs before hval0 hW _ hsz hL _
 have hval:∀ (j:Nat) t v,Tryz.f3.params[j]?=some t→args[j]?=some v→Value.okWide Tryz.prog W .any base t v:=hval0
 refine law_contract (C:=Tryz.checked) laidOut rfl rfl Tryz.underlying4 (fun ds h=>?_) (by kernel_rfl) hW ?_
 ·have h':ds.length=2:=h
  match ds,h' with
  | [_,_],_=>rfl
 ·obtain ⟨p,q,hA0,hV,rfl,hfz,hnd⟩:=hW
  have hA:DataW.TrodAll enc Tryz.prog W 0 (fun _=>true) true Tryz.f3.params.toList args.toList ds p:=hA0
  rw [Tryz.params3] at hA hval
  obtain ⟨v0,vs0,d0,ds0,p0,q0,hargs,rfl,rfl,h0,r0⟩:=trodAll_cons hA
  obtain ⟨v1,vs1,d1,ds1,p1,q1,rfl,rfl,rfl,h1,r1⟩:=trodAll_cons r0
  obtain ⟨rfl,rfl,rfl⟩:=trodAll_nil r1
  obtain rfl:args=#[v0,v1]:=by cases args;simp_all
  obtain ⟨rfl,rfl⟩:=trodVars_none hV
  have hz:(DataW.weightsEach Tryz.prog [3,22] [d0,d1]).all (·≤reachBytes)=true:=hsz
  simp only [DataW.weightsEach,List.all_append,Bool.and_eq_true] at hz
  have hzi0:=hz.1
  have hz1:=hz.2.1
  obtain ⟨hT,hZ⟩:=two_of_laid hL
  obtain ⟨a0,rfl,rfl,rfl,w0⟩:=open_int Tryz.underlying3 (hval 0 3 v0 rfl rfl) h0
  have b0:=bounds_i64 w0
  obtain ⟨oa1,oc1,l1,rfl,hO1⟩:=open_ops9 (hval 1 22 v1 rfl rfl) h1 hz1
  exact tablePlays_walk a0 oa1 oc1 l1 W hO1 hT hZ
theorem row:Rows.TablePlaysSaid:=
 OpenClaim.holds_of_wide 3 Tryz.f3 rfl rfl rfl rfl rfl rfl rfl ⟨rfl,rfl,rfl,rfl,rfl⟩ rfl rfl rfl rfl rfl (by kernel_rfl) Tryz.func3 (by kernel_rfl)
  (of_decide_eq_true (by kernel_rfl)) (by unfold Func.isWrapper;first|(rw [if_pos (by decide +kernel)];kernel_rfl)|(rw [if_neg (by decide +kernel)];exact ⟨rfl,rfl⟩))
  (fun os started H enc _=>lifted os started H enc)
theorem proved:Rows.TablePlaysCardSaid:=
 Claim7.holds_tied_plain_at .later [] [.data,.data] true Rows.tablePlaysCard.stood.harness true
  row (fun _ h=>by cases h) (by kernel_rfl) (fun _ h=>by cases h) tablePlays_row_tie rfl ⟨rfl,rfl⟩ (by kernel_rfl) rfl
  (fun f fn hf hfn=>by
   obtain rfl:f=3:=Option.some.inj ((show Tryz.prog.funcNamed "hostel/hostellaw09.TablePlays"=some 3 by kernel_rfl).symm.trans hf) |>.symm
   obtain rfl:fn=Tryz.f3:=(Option.some.inj (Tryz.func3.symm.trans hfn)).symm
   refine ⟨by kernel_rfl,fun j t ht=>?_⟩
   have hm:t∈Tryz.f3.params.toList:=by simpa using Array.mem_of_getElem? ht
   have hall:(Tryz.f3.params.toList.all fun u=>!Tryz.prog.wantsStandIn u)=true:=by kernel_rfl
   exact (show Tryz.prog.wantsStandIn t=false by simpa using List.all_eq_true.1 hall t hm))
  (by kernel_rfl)
#print axioms proved
end Go.Proofs.YtdjpjfdeeelijaaGreatDoor.lawTablePlays
