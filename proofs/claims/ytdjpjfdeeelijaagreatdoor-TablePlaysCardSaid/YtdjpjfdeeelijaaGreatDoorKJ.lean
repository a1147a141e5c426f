/- Merged: J0 J1 J2 J3 J4 J5 J6 J7 J8 J9 JA. -/
import Derived.Test.YtdjpjfdeeelijaaGreatDoorKA
import Derived.Deep.MidRow
import Derived.Laws.BitsAllLaws
import Derived.Laws.CopyOwn
import Derived.Lib.TrailingZeros
import Derived.Laws.Bits64
import Derived.Test.YtdjpjfdeeelijaaGreatDoorProg
import Derived.IntWalk
import Derived.Laws.Bits128
import Derived.BigQuiet
import Derived.StillTailTactics
import Derived.BigRegion
import Derived.Laws.MakeOwn
import Derived.Deep.RegionWith
namespace Go.Proofs.YtdjpjfdeeelijaaGreatDoor
open Go.RowKit Go.Sort
/-- All but two blocks stand. -/
structure Ex (w w':World)(a b:Nat):Prop where
 os:w'.os=w.os
 tape:w'.tape=w.tape
 output:w'.output=w.output
 size:w.heap.size≤w'.heap.size
 block:∀ k,k<w.heap.size→k≠a→k≠b→w'.heap[k]?=w.heap[k]?
section
variable {w w' w2:World}{a b:Nat}
theorem Ex.refl (w:World)(a b:Nat):Ex w w a b:=⟨rfl,rfl,rfl,Nat.le_refl _,fun _ _ _ _=>rfl⟩
theorem Ex.trans (h:Ex w w' a b)(k:Ex w' w2 a b):Ex w w2 a b:=
 ⟨k.os.trans h.os,k.tape.trans h.tape,k.output.trans h.output,Nat.le_trans h.size k.size,fun j hj h1 h2=>(k.block j (Nat.lt_of_lt_of_le hj h.size) h1 h2).trans (h.block j hj h1 h2)⟩
theorem Ex.of_below (h:Below w.heap.size w w'):Ex w w' a b:=⟨h.os,h.tape,h.output,h.size,fun k hk _ _=>h.block k hk⟩
theorem Ex.below {B:Nat}{w0:World}(h:Ex w w' a b)(hb:Below B w0 w)(ha:B≤a)(hb':B≤b)(hB:B≤w.heap.size):Below B w0 w':=
 hb.trans ⟨h.os,h.tape,h.output,h.size,fun k hk=>h.block k (by omega) (by omega) (by omega)⟩
theorem Ex.drewN (h:Ex w w' a b)(n:Nat):Ex w (w'.drewN n) a b:=h.trans (Ex.of_below (bdN (Below.refl _ _) n))
theorem Ex.row {g:Nat}{E:TypeId}{cs:List Value}(h:Ex w w' a b)(hr:Row w g E cs)(h1:g≠a)(h2:g≠b):Row w' g E cs:=⟨by rw [h.block g hr.lt h1 h2];exact hr.heap⟩
theorem Ex.own {base E size n:Nat}{v:Value}{xs:List Value}(h:Ex w w' a b)(ho:w.ownsRow base E size v n xs)(h1:v.ownBlock≠some a)(h2:v.ownBlock≠some b):w'.ownsRow base E size v n xs:=by
 refine ⟨ho.1,?_⟩
 rcases ho.2 with hn|⟨g,cap,cur,rfl,hb,hg,r⟩
 ·exact .inl hn
 ·exact .inr ⟨g,cap,cur,rfl,hb,by rw [h.block g (Array.getElem?_eq_some_iff.1 hg).1 (by rintro rfl;exact h1 rfl) (by rintro rfl;exact h2 rfl)];exact hg,r⟩
theorem Ex.set (w:World)(g o:Nat)(u:Value)(h:g=a∨g=b):Ex w (w.setCell ⟨g,o,none⟩ u) a b:=
 ⟨rfl,rfl,rfl,by simp,fun k _ h1 h2=>heap_setCell_other w _ k u (by rcases h with rfl|rfl <;> assumption)⟩
theorem Ex.setRow (w:World)(g:Nat)(cs:Array Value)(h:g=a∨g=b):Ex w (w.setRow g cs) a b:=
 ⟨rfl,rfl,rfl,by simp [World.setRow],fun k _ h1 h2=>setRow_other w g k cs (by rcases h with rfl|rfl <;> assumption)⟩
end
theorem Row.setRow {w:World}{g:Nat}{E:TypeId}{cs cs':List Value}(h:Row w g E cs):Row (w.setRow g cs'.toArray) g E cs':=⟨setRow_heap w g _ _ E _ h.heap⟩
theorem splice_get {α:Type}(L vs:List α)(o i:Nat)(h:o+vs.length≤L.length):(splice L o vs)[i]?=if i<o then L[i]? else if i<o+vs.length then vs[i-o]? else L[i]?:=by
 unfold splice
 have h1:(L.take o).length=o:=by simp;omega
 by_cases c1:i<o
 ·rw [if_pos c1,List.getElem?_append_left (by omega),List.getElem?_take,if_pos c1]
 ·rw [if_neg c1,List.getElem?_append_right (by omega),h1]
  by_cases c2:i<o+vs.length
  ·rw [if_pos c2,List.getElem?_append_left (by omega)]
  ·rw [if_neg c2,List.getElem?_append_right (by omega),List.getElem?_drop]
   congr 1
   omega
theorem set_splice {α:Type}(L:List α)(k:Nat)(v:α)(h:k<L.length):L.set k v=splice L k [v]:=by
 apply List.ext_getElem?
 intro i
 rw [splice_get L [v] k i (by simp;omega),List.getElem?_set]
 by_cases c:k=i
 ·subst c;simp [h]
 ·by_cases c1:i<k
  ·simp [c,c1]
  ·have:¬ i<k+1:=by omega
   simp [c,c1,this]
theorem splice_cons {α:Type}(L:List α)(o:Nat)(v:α)(vs:List α)(h:o+(v::vs).length≤L.length):splice (L.set o v) (o+1) vs=splice L o (v::vs):=by
 simp only [List.length_cons] at h
 apply List.ext_getElem?
 intro i
 rw [splice_get _ vs (o+1) i (by simp;omega),splice_get L (v::vs) o i (by simp;omega),List.getElem?_set]
 simp only [List.length_cons]
 by_cases c0:i<o
 ·have:¬ o=i:=by omega
  simp [c0,this,Nat.lt_succ_of_lt c0]
 ·by_cases c1:i=o
  ·subst c1
   simp
   omega
  ·have e1:¬ i<o+1:=by omega
   have e3:¬ o=i:=by omega
   have e4:i-o=(i-(o+1))+1:=by omega
   by_cases c2:i<o+1+vs.length
   ·have:i<o+(vs.length+1):=by omega
    simp [c0,e1,c2,this,e4]
   ·have:¬ i<o+(vs.length+1):=by omega
    simp [c0,e1,c2,this,e3]
theorem splice_nil {α:Type}(L:List α)(o:Nat):splice L o []=L:=by unfold splice;simp
theorem splice_mid {α:Type}(A M B vs:List α)(o:Nat)(h:o+vs.length≤M.length):splice (A++(M++B)) (A.length+o) vs=A++(splice M o vs++B):=by
 apply List.ext_getElem?
 intro i
 rw [splice_get _ _ _ _ (by simp;omega)]
 by_cases c1:i<A.length
 ·rw [if_pos (by omega),List.getElem?_append_left c1,List.getElem?_append_left c1]
 ·rw [List.getElem?_append_right (l₁:=A) (l₂:=M++B) (by omega),List.getElem?_append_right (l₁:=A) (l₂:=splice M o vs++B) (by omega)]
  have hl:(splice M o vs).length=M.length:=length_splice M o vs h
  by_cases c2:i-A.length<M.length
  ·rw [List.getElem?_append_left c2,List.getElem?_append_left (by omega),splice_get M vs o _ h]
   by_cases c3:i<A.length+o
   ·rw [if_pos c3,if_pos (by omega)]
   ·rw [if_neg c3,if_neg (show ¬ i-A.length<o by omega)]
    by_cases c4:i<A.length+o+vs.length
    ·rw [if_pos c4,if_pos (show i-A.length<o+vs.length by omega)]
     congr 1
     omega
    ·rw [if_neg c4,if_neg (show ¬ i-A.length<o+vs.length by omega)]
  ·rw [List.getElem?_append_right (l₁:=M) (by omega),List.getElem?_append_right (l₁:=splice M o vs) (by omega),if_neg (by omega),if_neg (by omega),hl]
/-- Many cells of a row written. -/
theorem setCells_block (_w:World)(g k:Nat)(h:k≠g):∀ (vs:List Value) (o:Nat) (w:World),(w.setCells g o vs).heap[k]?=w.heap[k]?
 | [],_,_=>rfl
 | v::vs,o,w=>by
  rw [World.setCells,setCells_block w g k h vs]
  exact heap_setCell_other w _ k v h
theorem setCells_size (g:Nat):∀ (vs:List Value) (o:Nat) (w:World),(w.setCells g o vs).heap.size=w.heap.size
 | [],_,_=>rfl
 | v::vs,o,w=>by rw [World.setCells,setCells_size g vs];simp
theorem Row.setCells {g:Nat}{E:TypeId}:∀ (vs:List Value) (o:Nat) (w:World) (cs:List Value),Row w g E cs→o+vs.length≤cs.length→Row (w.setCells g o vs) g E (splice cs o vs)
 | [],o,w,cs,h,_=>by rw [splice_nil];exact h
 | v::vs,o,w,cs,h,hl=>by
  rw [World.setCells,← splice_cons cs o v vs hl]
  exact Row.setCells vs (o+1) _ _ (h.set o v) (by simp at hl ⊢;omega)
theorem setCells_rest (g:Nat):∀ (vs:List Value) (o:Nat) (w:World),(w.setCells g o vs).os=w.os∧(w.setCells g o vs).tape=w.tape∧(w.setCells g o vs).output=w.output
 | [],_,_=>⟨rfl,rfl,rfl⟩
 | v::vs,o,w=>by rw [World.setCells];exact setCells_rest g vs (o+1) _
theorem Ex.setCells {a b:Nat}(w:World)(g o:Nat)(vs:List Value)(h:g=a∨g=b):Ex w (w.setCells g o vs) a b:=by
 obtain ⟨h1,h2,h3⟩:=setCells_rest g vs o w
 exact ⟨h1,h2,h3,by rw [setCells_size];exact Nat.le_refl _,fun k _ k1 k2=>setCells_block w g k (by rcases h with rfl|rfl <;> assumption) vs o w⟩
structure FR where
 bs:List Int
 cnt:Int
instance:Inhabited FR:=⟨⟨[],0⟩⟩
def fr0:FR:=⟨List.replicate 4096 0,0⟩
def frC (x:FR):List Value:=x.bs.map (Value.int .u8)++[.int .i64 x.cnt]
def FsOk (fs:List FR):Prop:=∀ x∈fs,x.bs.length=4096
theorem frC_len {x:FR}(h:x.bs.length=4096):(frC x).length=4097:=by simp [frC,h]
def flatF (fs:List FR):List Value:=fs.flatMap frC
theorem flatF_cons (x:FR)(l:List FR):flatF (x::l)=frC x++flatF l:=rfl
theorem flatF_app (a b:List FR):flatF (a++b)=flatF a++flatF b:=by simp [flatF]
theorem flatF_len:∀ {fs:List FR},FsOk fs→(flatF fs).length=fs.length*4097
 | [],_=>rfl
 | x::fs,h=>by
  rw [flatF_cons,List.length_append,frC_len (h x (by simp)),flatF_len (fun y hy=>h y (List.mem_cons_of_mem _ hy)),List.length_cons]
  omega
theorem flatF_split (fs:List FR)(f:Nat)(hf:f<fs.length):flatF fs=flatF (fs.take f)++(frC fs[f]++flatF (fs.drop (f+1))):=by
 have e:fs=fs.take f++(fs[f]::fs.drop (f+1)):=by simp
 calc flatF fs=flatF (fs.take f++(fs[f]::fs.drop (f+1))):=by rw [← e]
  _=_:=by rw [flatF_app,flatF_cons]
theorem flatF_set (fs:List FR)(f:Nat)(y:FR)(hf:f<fs.length):flatF (fs.set f y)=flatF (fs.take f)++(frC y++flatF (fs.drop (f+1))):=by
 rw [List.set_eq_take_append_cons_drop,if_pos hf,flatF_app,flatF_cons]
theorem FsOk.take {fs:List FR}(h:FsOk fs)(k:Nat):FsOk (fs.take k):=fun x hx=>h x (List.mem_of_mem_take hx)
theorem FsOk.set {fs:List FR}(h:FsOk fs)(k:Nat){y:FR}(hy:y.bs.length=4096):FsOk (fs.set k y):=fun x hx=>by
 rcases List.mem_or_eq_of_mem_set hx with hx|rfl
 ·exact h x hx
 ·exact hy
theorem flatF_pre {fs:List FR}(h:FsOk fs)(f:Nat)(hf:f<fs.length):(flatF (fs.take f)).length=f*4097:=by
 rw [flatF_len (h.take f)];simp;omega
theorem flatF_at {fs:List FR}(h:FsOk fs)(f j:Nat)(hf:f<fs.length)(hj:j<4097):(flatF fs)[f*4097+j]?=(frC fs[f])[j]?:=by
 have h1:=flatF_pre h f hf
 have h2:=frC_len (h _ (List.getElem_mem hf))
 rw [flatF_split fs f hf,List.getElem?_append_right (by omega),h1,List.getElem?_append_left (by omega)]
 congr 1
 omega
theorem flatF_cnt {fs:List FR}(h:FsOk fs)(f:Nat)(hf:f<fs.length):(flatF fs)[f*4097+4096]?=some (.int .i64 fs[f].cnt):=by
 rw [flatF_at h f 4096 hf (by omega)]
 have:=h _ (List.getElem_mem hf)
 simp [frC,this]
theorem flatF_byte {fs:List FR}(h:FsOk fs)(f j:Nat)(hf:f<fs.length)(hj:j<4096):(flatF fs)[f*4097+j]?=(fs[f].bs[j]?).map (Value.int .u8):=by
 rw [flatF_at h f j hf (by omega)]
 have:=h _ (List.getElem_mem hf)
 simp only [frC]
 rw [List.getElem?_append_left (by simp [this];omega),List.getElem?_map]
theorem flatF_splice {fs:List FR}(h:FsOk fs)(f o:Nat)(vs:List Value)(hf:f<fs.length)(ho:o+vs.length≤4097):splice (flatF fs) (f*4097+o) vs=flatF (fs.take f)++(splice (frC fs[f]) o vs++flatF (fs.drop (f+1))):=by
 have h2:=frC_len (h _ (List.getElem_mem hf))
 rw [flatF_split fs f hf,← flatF_pre h f hf]
 exact splice_mid _ _ _ _ _ (by omega)
theorem splice_cnt (x:FR)(h:x.bs.length=4096)(c:Int):splice (frC x) 4096 [.int .i64 c]=frC ⟨x.bs,c⟩:=by
 unfold splice frC
 have:(x.bs.map (Value.int .u8)).length=4096:=by simp [h]
 rw [List.take_append_of_le_length (by omega),List.take_of_length_le (by omega)]
 simp [this]
theorem splice_bytes (x:FR)(h:x.bs.length=4096)(o:Nat)(l:List Int)(ho:o+l.length≤4096):splice (frC x) o (l.map (Value.int .u8))=frC ⟨splice x.bs o l,x.cnt⟩:=by
 have h1:(x.bs.map (Value.int .u8)).length=4096:=by simp [h]
 unfold frC
 have:=splice_mid [] (x.bs.map (Value.int .u8)) [.int .i64 x.cnt] (l.map (Value.int .u8)) o (by simp [h];exact ho)
 simp only [List.nil_append,List.length_nil,Nat.zero_add] at this
 rw [this]
 congr 1
 unfold splice
 simp [List.map_take,List.map_drop]
theorem splice_all {α:Type}(L vs:List α)(h:L.length=vs.length):splice L 0 vs=vs:=by
 unfold splice;simp [← h]
/-- A frame turned. -/
theorem flatF_count {fs:List FR}(h:FsOk fs)(f:Nat)(c:Int)(hf:f<fs.length):(flatF fs).set (f*4097+4096) (.int .i64 c)=flatF (fs.set f ⟨fs[f].bs,c⟩):=by
 have hl:=flatF_len h
 have h2:=h _ (List.getElem_mem hf)
 have:f*4097+4096<(flatF fs).length:=by rw [hl];have:(f+1)*4097≤fs.length*4097:=Nat.mul_le_mul_right _ hf;omega
 rw [set_splice _ _ _ this,flatF_splice h f 4096 _ hf (by simp),splice_cnt _ h2,flatF_set fs f _ hf]
theorem flatF_frame {fs:List FR}(h:FsOk fs)(f:Nat)(y:FR)(hy:y.bs.length=4096)(hf:f<fs.length):splice (flatF fs) (f*4097) (frC y)=flatF (fs.set f y):=by
 have:=flatF_splice h f 0 (frC y) hf (by rw [frC_len hy];omega)
 rw [Nat.add_zero] at this
 rw [this,splice_all _ _ (by rw [frC_len hy,frC_len (h _ (List.getElem_mem hf))]),flatF_set fs f _ hf]
theorem flatF_bytes {fs:List FR}(h:FsOk fs)(f o:Nat)(l:List Int)(ho:o+l.length≤4096)(hf:f<fs.length):splice (flatF fs) (f*4097+o) (l.map (Value.int .u8))=flatF (fs.set f ⟨splice fs[f].bs o l,fs[f].cnt⟩):=by
 rw [flatF_splice h f o _ hf (by simp;omega),splice_bytes _ (h _ (List.getElem_mem hf)) o l ho,flatF_set fs f _ hf]
def upd (fr:Nat→Bool)(f:Nat)(b:Bool):Nat→Bool:=fun g=>if g=f then b else fr g
/-- Bit j of word i says fr (i * 64 + j). -/
def WB (fr:Nat→Bool)(ws:List Nat):Prop:=∀ i (h:i<ws.length),ws[i]<18446744073709551616∧∀ j,j<64→ws[i].testBit j=fr (i*64+j)
theorem wb_set {fr:Nat→Bool}{ws:List Nat}(h:WB fr ws)(f:Nat)(b:Bool)(u:Nat)(hu:u<18446744073709551616)(hb:∀ (h1:f/64<ws.length) j,j<64→u.testBit j=if j=f%64 then b else ws[f/64].testBit j):WB (upd fr f b) (ws.set (f/64) u):=by
 intro i hi
 have hi':i<ws.length:=by simpa using hi
 rw [List.getElem_set]
 by_cases c:f/64=i
 ·subst c
  simp only [if_true]
  refine ⟨hu,fun j hj=>?_⟩
  rw [hb hi' j hj,(h _ hi').2 j hj]
  unfold upd
  by_cases e:j=f%64
  ·rw [if_pos e,if_pos (by omega)]
  ·rw [if_neg e,if_neg (by omega)]
 ·rw [if_neg c]
  refine ⟨(h i hi').1,fun j hj=>?_⟩
  rw [(h i hi').2 j hj]
  unfold upd
  rw [if_neg (by omega)]
theorem wb_mark {fr:Nat→Bool}{ws:List Nat}(h:WB fr ws)(f:Nat)(h1:f/64<ws.length):WB (upd fr f true) (ws.set (f/64) (ws[f/64] ||| 2 ^ (f%64))):=by
 have hm:f%64<64:=Nat.mod_lt _ (by omega)
 refine wb_set h f true _ ?_ fun h2 j hj=>?_
 ·exact Nat.or_lt_two_pow (n:=64) (h _ h1).1 (Nat.pow_lt_pow_right (by omega) hm)
 ·rw [Nat.testBit_or,Nat.testBit_two_pow]
  by_cases e:j=f%64
  ·rw [if_pos e];simp [e]
  ·rw [if_neg e]
   have:¬ f%64=j:=fun h=>e h.symm
   simp [this]
theorem wb_unmark {fr:Nat→Bool}{ws:List Nat}(h:WB fr ws)(f:Nat)(h1:f/64<ws.length):WB (upd fr f false) (ws.set (f/64) (ws[f/64] &&& (18446744073709551615-2 ^ (f%64)))):=by
 have hm:f%64<64:=Nat.mod_lt _ (by omega)
 have hp:2 ^ (f%64)<2 ^ 64:=Nat.pow_lt_pow_right (by omega) hm
 refine wb_set h f false _ (Nat.lt_of_le_of_lt Nat.and_le_left (h _ h1).1) fun h2 j hj=>?_
 have e0:18446744073709551615-2 ^ (f%64)=2 ^ 64-(2 ^ (f%64)+1):=by omega
 rw [Nat.testBit_and,e0,Nat.testBit_two_pow_sub_succ hp,Nat.testBit_two_pow]
 by_cases e:j=f%64
 ·rw [if_pos e];simp [e]
 ·rw [if_neg e]
  have:¬ f%64=j:=fun h=>e h.symm
  simp [this,hj]
/-- The lowest bit of a word. -/
theorem ctz_low (x:Nat)(h0:x≠0)(h:x<18446744073709551616):Lib.ctz 64 x<64∧x.testBit (Lib.ctz 64 x)=true∧∀ j,j<Lib.ctz 64 x→x.testBit j=false:=by
 unfold Lib.ctz
 rw [if_neg h0]
 obtain ⟨m,hm,hk⟩:=Lib.ctzFrom_spec 64 x (by omega) h
 generalize Lib.ctzFrom 64 x=t at *
 subst hm
 refine ⟨hk,?_,fun j hj=>?_⟩
 ·rw [Nat.testBit_two_pow_mul];simp
 ·rw [Nat.testBit_two_pow_mul];simp;omega
theorem zero_bits {fr:Nat→Bool}{ws:List Nat}(h:WB fr ws)(i:Nat)(hi:i<ws.length)(h0:ws[i]=0):∀ g,i*64≤g→g<(i+1)*64→fr g=false:=by
 intro g h1 h2
 have:=(h i hi).2 (g-i*64) (by omega)
 rw [h0,Nat.zero_testBit,show i*64+(g-i*64)=g by omega] at this
 exact this.symm
theorem low_find {fr:Nat→Bool}(n f:Nat)(hf:f<n)(h:fr f=true)(hl:∀ g,g<f→fr g=false):(List.range n).find? fr=some f:=by
 rw [List.find?_eq_some_iff_getElem]
 refine ⟨h,f,by simpa using hf,by simp,fun j hj=>?_⟩
 simp [hl j hj]
theorem low_none {fr:Nat→Bool}(n:Nat)(hl:∀ g,g<n→fr g=false):(List.range n).find? fr=none:=by
 rw [List.find?_eq_none]
 intro x hx
 rw [hl x (List.mem_range.1 hx)]
 simp
/-! How many bits there are. -/
def rep (c:Nat):Nat→Nat
 | 0=>0
 | n+1=>c+256*rep c n
def f1 (n x:Nat):Nat:=((x/2) &&& rep 85 n)+(x &&& rep 85 n)
def f2 (n x:Nat):Nat:=((x/4) &&& rep 51 n)+(x &&& rep 51 n)
def f3 (n x:Nat):Nat:=(x/16+x) &&& rep 15 n
/-- The table of the library's variable. -/
def Tb (w:World):Prop:=∀ j,j<64→w.cell? ⟨0,j,none⟩=some (.int .u8 ((Lib.deBruijn64tab.getD j 0:Nat):Int))
theorem tz_num (x a:Nat)(hx:x<18446744073709551616)(h0:x≠0)(ha:x &&& (18446744073709551616-x)=a):
 IntKind.u64.wrap (bits .and .u64 (x:Int) (IntKind.u64.wrap (-(x:Int)))*285870213051353865)/288230376151711744=((a*285870213051353865%18446744073709551616/288230376151711744:Nat):Int):=by
 have e:IntKind.u64.wrap (-(x:Int))=((18446744073709551616-x:Nat):Int):=by rw [IntKind.wrap_u64];omega
 rw [e,u64_and_nat x _ hx (by omega),ha,IntKind.wrap_u64]
 omega
set_option maxHeartbeats 1000000 in
theorem tz_at (x k idx:Nat)(w:World)(hx0:((x:Int)==0)=false)
 (key:IntKind.u64.wrap (bits .and .u64 (x:Int) (IntKind.u64.wrap (-(x:Int)))*285870213051353865)/288230376151711744=(idx:Int)) (hi:idx<64) (hk:k<64) (hc:w.cell? ⟨0,idx,none⟩=some (.int .u8 (k:Int))):
 Calls Tryz.prog 103 #[.int .u64 (x:Int)] w fun e w'=>e=.returned (.int .i64 (k:Int))∧w=w':=by
 go_enter Tryz.func103,Tryz.ntmps103
 go_wp2_with (simp only [key])
 go_ret
 exact ⟨rfl,rfl⟩
theorem tz_any (x:Nat)(w:World)(hx:x<18446744073709551616)(h0:x≠0)(hT:Tb w):
 Calls Tryz.prog 103 #[.int .u64 (x:Int)] w fun e w'=>e=.returned (.int .i64 ((Lib.ctz 64 x:Nat):Int))∧w=w':=by
 obtain ⟨h1,h2⟩:=Lib.lowest_bit 64 x h0 hx
 obtain ⟨h3,h4⟩:=Lib.deBruijn64_at _ h2
 have hc:=hT _ h3
 rw [h4] at hc
 exact tz_at x _ _ w (by simp;omega) (tz_num x _ hx h0 h1) h3 h2 hc
def W8 (x:Nat):Value:=.int .u64 (x:Int)
abbrev poolC (g h n m:Nat):List Value:=[.slice (some ⟨g,0,none⟩) n n,.slice (some ⟨h,0,none⟩) m m]
theorem row_word {w:World}{h:Nat}{E:TypeId}{ws:List Nat}(hw:Row w h E (ws.map W8))(i:Nat)(hi:i<ws.length):w.cell? ⟨h,i,none⟩=some (.int .u64 (ws[i]:Int)):=by
 have:=hw.cell i (by simpa using hi)
 simpa [W8] using this
theorem row_set_word {w:World}{h:Nat}{E:TypeId}{ws:List Nat}(hw:Row w h E (ws.map W8))(i u:Nat):Row (w.setCell ⟨h,i,none⟩ (.int .u64 (u:Int))) h E ((ws.set i u).map W8):=by
 rw [List.map_set]
 exact hw.set i _
set_option maxRecDepth 100000 in
set_option maxHeartbeats 1000000 in
theorem mark_at (p g h n:Nat)(ws:List Nat)(f i j:Nat)(w:World)(hp:Row w p 100 (poolC g h n ws.length))(hw:Row w h 36 (ws.map W8))(hfi:f=i*64+j)(hj:j<64)(hf:i<ws.length)(hb:ws[i]<18446744073709551616)(hm:ws.length≤1000000):
 Calls Tryz.prog 68 #[.pointer (some ⟨p,0,none⟩),.int .i64 (f:Int)] w fun e w'=>e=.returned (.tuple #[])∧w'=w.drew.setCell ⟨h,i,none⟩ (.int .u64 ((ws[i] ||| 2 ^ j:Nat):Int)):=by
 have p0:=hp.cell 0 (by simp)
 have p1:=hp.cell 1 (by simp)
 simp only [poolC,List.getElem_cons_zero,List.getElem_cons_succ] at p0 p1
 have hc:=row_word hw _ hf
 have hfz:=hw.frozen i
 have hlp:=hp.lt
 have hlh:=hw.lt
 have hp2:2 ^ j<18446744073709551616:=Nat.pow_lt_pow_right (n:=64) (by omega) hj
 have ez:(0:Int)≤(i:Int):=by omega
 have eb:(i:Int)<(ws.length:Int):=by omega
 have q7:=u64_or_nat ws[i] (2 ^ j) hb hp2
 generalize ws[i]=u at *
 have q1:IntKind.i64.wrap ((f:Int)/64)=(i:Int):=by rw [IntWalk.i64_in _ (by omega)];omega
 have q2:(f:Int).tmod 64=(j:Int):=by rw [Int.tmod_eq_emod_of_nonneg (by omega)];omega
 have q5:(0:Int)≤(j:Int):=by omega
 have q6:(2:Int) ^ j=((2 ^ j:Nat):Int):=by simp
 have q8:min j 64=j:=by omega
 generalize 2 ^ j=P at *
 have q4:IntKind.u64.wrap (2 ^ min j 64)=(P:Int):=by rw [q8,q6,IntKind.wrap_u64];omega
 clear hp hw hfi hb hp2 hj q6 q8
 go_enter Tryz.func68,Tryz.ntmps68
 go_wp2_with fail
 go_still_tail 13,(by kernel_rfl)
 go_wp2_with fail
 exact bodyPost_end (results_none rfl _ _ _) rfl ⟨rfl,rfl⟩
set_option maxRecDepth 100000 in
set_option maxHeartbeats 1000000 in
theorem unmark_at (p g h n:Nat)(ws:List Nat)(f i j:Nat)(w:World)(hp:Row w p 100 (poolC g h n ws.length))(hw:Row w h 36 (ws.map W8))(hfi:f=i*64+j)(hj:j<64)(hf:i<ws.length)(hb:ws[i]<18446744073709551616)(hm:ws.length≤1000000):
 Calls Tryz.prog 52 #[.pointer (some ⟨p,0,none⟩),.int .i64 (f:Int)] w fun e w'=>e=.returned (.tuple #[])∧w'=w.drew.setCell ⟨h,i,none⟩ (.int .u64 ((ws[i] &&& (18446744073709551615-2 ^ j):Nat):Int)):=by
 have p0:=hp.cell 0 (by simp)
 have p1:=hp.cell 1 (by simp)
 simp only [poolC,List.getElem_cons_zero,List.getElem_cons_succ] at p0 p1
 have hc:=row_word hw _ hf
 have hfz:=hw.frozen i
 have hlp:=hp.lt
 have hlh:=hw.lt
 have hp2:2 ^ j<18446744073709551616:=Nat.pow_lt_pow_right (n:=64) (by omega) hj
 have ez:(0:Int)≤(i:Int):=by omega
 have eb:(i:Int)<(ws.length:Int):=by omega
 have q7:=u64_andNot_nat ws[i] (2 ^ j) hb hp2
 generalize ws[i]=u at *
 have q1:IntKind.i64.wrap ((f:Int)/64)=(i:Int):=by rw [IntWalk.i64_in _ (by omega)];omega
 have q2:(f:Int).tmod 64=(j:Int):=by rw [Int.tmod_eq_emod_of_nonneg (by omega)];omega
 have q5:(0:Int)≤(j:Int):=by omega
 have q6:(2:Int) ^ j=((2 ^ j:Nat):Int):=by simp
 have q8:min j 64=j:=by omega
 generalize 2 ^ j=P at *
 have q4:IntKind.u64.wrap (2 ^ min j 64)=(P:Int):=by rw [q8,q6,IntKind.wrap_u64];omega
 clear hp hw hfi hb hp2 hj q6 q8
 go_enter Tryz.func52,Tryz.ntmps52
 go_wp2_with fail
 go_still_tail 13,(by kernel_rfl)
 go_wp2_with fail
 exact bodyPost_end (results_none rfl _ _ _) rfl ⟨rfl,rfl⟩
/-- Is f a free frame? -/
def freeF (fs:List FR)(f:Nat):Bool:=match fs[f]? with
 | some x=>x.cnt==0
 | none=>false
/-- A pool: the struct in block p, its frames in g, its words in h. -/
structure Pl (w:World)(p g h:Nat)(fs:List FR)(ws:List Nat):Prop where
 pool:Row w p 100 (poolC g h fs.length ws.length)
 frames:Row w g 96 (flatF fs)
 words:Row w h 36 (ws.map W8)
 ok:FsOk fs
 n1:1≤fs.length
 n2:fs.length≤1024
 wl:ws.length=(fs.length+63)/64
 wb:WB (freeF fs) ws
 c0:∀ x∈fs,0≤x.cnt
theorem Pl.below {w w':World}{p g h:Nat}{fs:List FR}{ws:List Nat}(H:Pl w p g h fs ws)(hb:Below w.heap.size w w'):Pl w' p g h fs ws:=
 ⟨H.pool.below hb H.pool.lt,H.frames.below hb H.frames.lt,H.words.below hb H.words.lt,H.ok,H.n1,H.n2,H.wl,H.wb,H.c0⟩
theorem Pl.drew {w:World}{p g h:Nat}{fs:List FR}{ws:List Nat}(H:Pl w p g h fs ws):Pl w.drew p g h fs ws:=⟨H.pool.drew,H.frames.drew,H.words.drew,H.ok,H.n1,H.n2,H.wl,H.wb,H.c0⟩
theorem Pl.cells {w:World}{p g h:Nat}{fs:List FR}{ws:List Nat}(H:Pl w p g h fs ws):w.cell? ⟨p,0,none⟩=some (.slice (some ⟨g,0,none⟩) fs.length fs.length)∧w.cell? ⟨p,1,none⟩=some (.slice (some ⟨h,0,none⟩) ws.length ws.length):=by
 have p0:=H.pool.cell 0 (by simp)
 have p1:=H.pool.cell 1 (by simp)
 simpa [poolC] using ⟨p0,p1⟩
theorem Pl.count {w:World}{p g h:Nat}{fs:List FR}{ws:List Nat}(H:Pl w p g h fs ws)(f:Nat)(hf:f<fs.length):w.cell? ⟨g,f*4097+4096,none⟩=some (.int .i64 fs[f].cnt):=by
 rw [H.frames.cell',flatF_cnt H.ok f hf]
theorem row_tys {w:World}{a b:Nat}{A B:TypeId}{cs ds:List Value}(h:Row w a A cs)(k:Row w b B ds)(hT:A≠B):a≠b:=by
 rintro rfl
 have:=h.heap
 rw [k.heap] at this
 simp at this
 exact hT this.2.symm
theorem Pl.ne {w:World}{p g h:Nat}{fs:List FR}{ws:List Nat}(H:Pl w p g h fs ws):p≠g∧p≠h∧g≠h:=
 ⟨row_tys H.pool H.frames (by decide),row_tys H.pool H.words (by decide),row_tys H.frames H.words (by decide)⟩
def lowR (fs:List FR):Option Nat:=(List.range fs.length).find? (freeF fs)
theorem free_lt {fs:List FR}{f:Nat}(h:freeF fs f=true):f<fs.length:=by
 unfold freeF at h
 split at h
 ·rename_i x hx;exact (List.getElem?_eq_some_iff.1 hx).1
 ·cases h
theorem low_some {fs:List FR}{f:Nat}(h:freeF fs f=true)(hl:∀ j,j<f→freeF fs j=false):lowR fs=some f:=low_find _ f (free_lt h) h hl
theorem low_no {fs:List FR}(h:∀ j,j<fs.length→freeF fs j=false):lowR fs=none:=low_none _ h
set_option maxHeartbeats 1000000 in
theorem lowest_any (p g h:Nat)(fs:List FR)(ws:List Nat)(w:World)(H:Pl w p g h fs ws)(hT:Tb w):
 Calls Tryz.prog 51 #[.pointer (some ⟨p,0,none⟩)] w fun e w'=>e=.returned (.tuple #[.int .i64 (((lowR fs).getD 0:Nat):Int),.bool (lowR fs).isSome])∧w=w':=by
 obtain ⟨p0,p1⟩:=H.cells
 have hlp:=H.pool.lt
 have hlh:=H.words.lt
 have HH:=hid H
 have HT:=hid hT
 have hwn:ws.length≤16:=by have:=H.wl;have:=H.n2;omega
 clear H hT
 go_enter Tryz.func51,Tryz.ntmps51
 go_wp2_with fail
 go_loopw [11] (fun i wr=>∃ k:Nat,k≤ws.length∧i=.int .i64 k∧(∀ j,j<k*64→freeF fs j=false)∧wr=w) (fun i _=>ws.length-(intOf i).toNat)
 case atStart=>exact ⟨0,Nat.zero_le _,rfl,fun j hj=>by omega,rfl⟩
 case round=>
  obtain ⟨k,hk,rfl,hz,rfl⟩:=hrel
  have HZ:=hid hz
  clear hz
  by_cases hlt:k<ws.length
  ·have d1:decide ((k:Int)<(ws.length:Int))=true:=by simp;omega
   have d1n:decide (k<ws.length)=true:=by simp;omega
   have hc:=row_word HH.out.words k hlt
   have hwb:=HH.out.wb k hlt
   have HW:=hid hwb
   have HZB:=hid (fun h0=>zero_bits HH.out.wb k hlt h0)
   have hu:=hwb.1
   clear hwb
   generalize ws[k]=u at *
   by_cases h0:u=0
   ·subst h0
    go_wp2_with fail
    go_roundw
    case rel=>exact ⟨k+1,by omega,by go_num,fun j hj=>by
     by_cases c:j<k*64
     ·exact HZ.out j c
     ·exact HZB.out rfl j (by omega) hj,trivial⟩
    case measure=>simp [intOf];omega
   ·obtain ⟨h1,h2,h3⟩:=ctz_low u h0 hu
    have HC:=hid (tz_any u _ hu h0 HT.out)
    have q1:((u:Int) != 0)=true:=by rw [bne_iff_ne];omega
    have HL:=hid (low_some (fs:=fs) (f:=k*64+Lib.ctz 64 u) (by rw [← HW.out.2 _ h1];exact h2) (fun j hj=>by
     by_cases c:j<k*64
     ·exact HZ.out j c
     ·have:=HW.out.2 (j-k*64) (by omega)
      rw [show k*64+(j-k*64)=j by omega] at this
      rw [← this]
      exact h3 _ (by omega)))
    generalize Lib.ctz 64 u=t at *
    have ew:=IntWalk.wrap64_in ((k:Int)*64) ⟨by omega,by omega⟩
    have ew2:=IntWalk.wrap64_in ((k:Int)*64+(t:Int)) ⟨by omega,by omega⟩
    clear h2 h3 hu h0
    go_wp2_with fail
    refine (HC.out).mono ?_
    rintro e' w' ⟨rfl,rfl⟩
    go_wp2_with fail
    go_ret2
    rw [HL.out]
    exact ⟨by simp,rfl⟩
  ·have d1:decide ((k:Int)<(ws.length:Int))=false:=by simp;omega
   have d1n:decide (k<ws.length)=false:=by simp;omega
   have HL:=hid (low_no (fs:=fs) (fun j hj=>HZ.out j (by have:=HH.out.wl;omega)))
   go_wp2_with fail
   go_ret2
   rw [HL.out]
   exact ⟨rfl,rfl⟩
/-- How many frames are free; how often one is pointed to. -/
def freeN (fs:List FR):Nat:=fs.countP (fun x=>x.cnt==0)
def cntF (fs:List FR)(f:Int):Int:=if 0≤f∧f<fs.length then (fs.getD f.toNat default).cnt else 0
theorem getF_at {α:Type}(l:List α)(d:α)(k:Nat)(h:k<l.length):l.getD k d=l[k]:=by simp [List.getD_eq_getElem?_getD,h]
theorem count_any (p g h:Nat)(fs:List FR)(ws:List Nat)(f:Int)(w:World)(H:Pl w p g h fs ws):
 Calls Tryz.prog 15 #[.pointer (some ⟨p,0,none⟩),.int .i64 f] w fun e w'=>e=.returned (.int .i64 (cntF fs f))∧w=w':=by
 obtain ⟨p0,p1⟩:=H.cells
 have hlp:=H.pool.lt
 have hlg:=H.frames.lt
 have hn2:=H.n2
 by_cases c0:0≤f
 ·by_cases c1:f<fs.length
  ·obtain ⟨k,rfl⟩:=Int.eq_ofNat_of_zero_le c0
   have hk:k<fs.length:=by omega
   have hc:=H.count k hk
   have HE:=hid (show cntF fs (k:Int)=fs[k].cnt by unfold cntF;rw [if_pos ⟨c0,c1⟩,Int.toNat_natCast,getF_at _ _ _ hk])
   generalize fs[k].cnt=x at *
   have b1:decide ((k:Int)<0)=false:=by simp
   have b2:decide ((fs.length:Int)≤(k:Int))=false:=by simp;omega
   have b3:decide (fs.length≤k)=false:=by simp;omega
   clear H
   go_enter Tryz.func15,Tryz.ntmps15
   go_wp2_with fail
   go_ret
   rw [HE.out]
   exact ⟨rfl,rfl⟩
  ·have HE:=hid (show cntF fs f=0 by unfold cntF;rw [if_neg (fun h=>c1 h.2)])
   have b1:decide (f<0)=false:=by simp;omega
   have b2:decide ((fs.length:Int)≤f)=true:=by simp;omega
   clear H
   go_enter Tryz.func15,Tryz.ntmps15
   go_wp2_with fail
   go_ret
   rw [HE.out]
   exact ⟨rfl,rfl⟩
 ·have HE:=hid (show cntF fs f=0 by unfold cntF;rw [if_neg (fun h=>c0 h.1)])
  have b1:decide (f<0)=true:=by simp;omega
  clear H
  go_enter Tryz.func15,Tryz.ntmps15
  go_wp2_with fail
  go_ret
  rw [HE.out]
  exact ⟨rfl,rfl⟩
def takE (fs:List FR)(f:Int):Int:=if cntF fs f=0 then 1 else 0
theorem taken_any (p g h:Nat)(fs:List FR)(ws:List Nat)(f:Int)(w:World)(H:Pl w p g h fs ws):
 Calls Tryz.prog 79 #[.pointer (some ⟨p,0,none⟩),.int .i64 f] w fun e w'=>e=.returned (.int .i64 (takE fs f))∧w=w':=by
 have HC:=hid (count_any p g h fs ws f w H)
 clear H
 have HE:=hid (show takE fs f=if cntF fs f=0 then 1 else 0 from rfl)
 generalize cntF fs f=c at *
 by_cases h0:c=0
 ·subst h0
  rw [if_pos rfl] at HE
  go_enter Tryz.func79,Tryz.ntmps79
  go_wp2_with fail
  refine (HC.out).mono ?_
  rintro e' w' ⟨rfl,rfl⟩
  go_wp2_with fail
  go_ret
  rw [HE.out]
  exact ⟨rfl,rfl⟩
 ·rw [if_neg h0] at HE
  have q1:(c==0)=false:=by simpa using h0
  go_enter Tryz.func79,Tryz.ntmps79
  go_wp2_with fail
  refine (HC.out).mono ?_
  rintro e' w' ⟨rfl,rfl⟩
  go_wp2_with fail
  go_ret
  rw [HE.out]
  exact ⟨rfl,rfl⟩
def withinB (off n:Int):Bool:=decide (0≤off)&&decide (0≤n)&&decide (off≤4096)&&decide (n≤4096-off)
theorem within_any (off n:Int)(w:World):
 Calls Tryz.prog 102 #[.int .i64 off,.int .i64 n] w fun e w'=>e=.returned (.bool (withinB off n))∧w=w':=by
 have HE:=hid (show withinB off n=(decide (0≤off)&&decide (0≤n)&&decide (off≤4096)&&decide (n≤4096-off)) from rfl)
 by_cases c0:0≤off
 ·by_cases c2:off≤4096
  ·have ew:=IntWalk.wrap64_in (4096-off) ⟨by omega,by omega⟩
   go_enter Tryz.func102,Tryz.ntmps102
   go_wp2_with fail
   all_goals
    go_ret
    rw [HE.out]
    refine ⟨?_,rfl⟩
    simp_all <;> intros <;> omega
  ·go_enter Tryz.func102,Tryz.ntmps102
   go_wp2_with fail
   all_goals
    go_ret
    rw [HE.out]
    refine ⟨?_,rfl⟩
    simp_all <;> intros <;> omega
 ·go_enter Tryz.func102,Tryz.ntmps102
  go_wp2_with fail
  all_goals
   go_ret
   rw [HE.out]
   refine ⟨?_,rfl⟩
   simp_all <;> intros <;> omega
def one0:FR:=⟨List.replicate 4096 0,1⟩
def takeS (fs:List FR):List FR:=match lowR fs with
 | some f=>fs.set f one0
 | none=>fs
def takeE (fs:List FR):Int:=match lowR fs with
 | some _=>0
 | none=>4
def takeV (fs:List FR):Int:=match lowR fs with
 | some f=>(f:Int)
 | none=>0
theorem one0_len:one0.bs.length=4096:=List.length_replicate
theorem sizeFr:(Tryz.prog.info? 96).map (·.size)=some 4097:=by kernel_rfl
def zFr:Array Value:=(frC fr0).toArray
theorem zFr_size:zFr.size=4097:=by kernel_rfl
theorem zero_fr (w:World):(zeroValue 96).run Tryz.prog w=.ok (.agg zFr) w:=by kernel_rfl
theorem zFr_one:zFr.setIfInBounds 4096 (.int .i64 1)=(frC one0).toArray:=by kernel_rfl
theorem frC_one (x:FR):∀ v∈frC x,v.oneCell'=true:=by
 intro v hv
 rcases List.mem_append.1 hv with h|h
 ·obtain ⟨y,_,rfl⟩:=List.mem_map.1 h;rfl
 ·simp only [List.mem_singleton] at h;subst h;rfl
theorem there_row {w:World}{g:Nat}{E:TypeId}{cs:List Value}(h:Row w g E cs)(o n:Nat)(hn:o+n≤cs.length):w.there g o n:=fun j hj=>by
 rw [h.cell',List.getElem?_eq_getElem (by omega)]
 exact ⟨rfl,h.frozen _⟩
theorem fr_end {fs:List FR}(h:FsOk fs)(f:Nat)(hf:f<fs.length):f*4097+4097≤(flatF fs).length:=by
 rw [flatF_len h]
 have:(f+1)*4097≤fs.length*4097:=Nat.mul_le_mul_right _ hf
 omega
theorem free_set (fs:List FR)(f:Nat)(y:FR)(hf:f<fs.length):freeF (fs.set f y)=upd (freeF fs) f (y.cnt==0):=by
 funext j
 unfold freeF upd
 rw [List.getElem?_set]
 by_cases c:f=j
 ·subst c;simp [hf]
 ·have:¬ j=f:=fun h=>c h.symm
  simp [c,this]
theorem low_is {fs:List FR}{f:Nat}(h:lowR fs=some f):f<fs.length∧freeF fs f=true∧∀ j,j<f→freeF fs j=false:=by
 unfold lowR at h
 rw [List.find?_eq_some_iff_getElem] at h
 obtain ⟨h1,i,hi,e,h2⟩:=h
 simp only [List.length_range] at hi
 simp only [List.getElem_range] at e
 subst e
 refine ⟨hi,h1,fun j hj=>?_⟩
 have:=h2 j hj
 simpa using this
set_option maxRecDepth 100000 in
set_option maxHeartbeats 1000000 in
theorem take_any (p g h:Nat)(fs:List FR)(ws:List Nat)(w:World)(H:Pl w p g h fs ws)(hT:Tb w):
 Calls Tryz.prog 12 #[.pointer (some ⟨p,0,none⟩)] w fun e w'=>e=.returned (.tuple #[.int .i64 (takeV fs),.int .i64 (takeE fs)])∧(∃ ws',Pl w' p g h (takeS fs) ws')∧Ex w w' g h:=by
 have HH:=hid H
 have HL:=hid (lowest_any p g h fs ws w H hT)
 clear H hT
 go_enter Tryz.func12,Tryz.ntmps12
 go_wp2_with fail
 refine (HL.out).mono ?_
 rintro e' w' ⟨rfl,rfl⟩
 cases hl:lowR fs with
 | none=>
  have HF:=hid (show takeV fs=0∧takeE fs=4∧takeS fs=fs by unfold takeV takeE takeS;rw [hl];exact ⟨rfl,rfl,rfl⟩)
  go_wp2_with fail
  go_ret2
  rw [HF.out.1,HF.out.2.1,HF.out.2.2]
  exact ⟨rfl,⟨ws,HH.out⟩,Ex.refl _ _ _⟩
 | some f=>
  have HF:=hid (show takeV fs=(f:Int)∧takeE fs=0∧takeS fs=fs.set f one0 by unfold takeV takeE takeS;rw [hl];exact ⟨rfl,rfl,rfl⟩)
  obtain ⟨hf,hfr,_⟩:=low_is hl
  clear hl
  have hf64:f/64<ws.length:=by have:=HH.out.wl;omega
  have HM:=hid (unmark_at p g h fs.length ws f (f/64) (f%64) w HH.out.pool HH.out.words (by omega) (Nat.mod_lt _ (by omega)) hf64 (HH.out.wb _ hf64).1 (by have:=HH.out.wl;have:=HH.out.n2;omega))
  have HWB:=hid (wb_unmark HH.out.wb f hf64)
  go_wp2_with fail
  refine (HM.out).mono ?_
  rintro e' w2 ⟨rfl,hw2⟩
  obtain ⟨n1,n2,n3⟩:=HH.out.ne
  have HP2:=hid (show Row w2 p 100 (poolC g h fs.length ws.length) by rw [hw2];exact HH.out.pool.drew.other n2 _)
  have HF2:=hid (show Row w2 g 96 (flatF fs) by rw [hw2];exact HH.out.frames.drew.other n3 _)
  have HW2:=hid (show Row w2 h 36 ((ws.set (f/64) (ws[f/64] &&& (18446744073709551615-2 ^ (f%64)))).map W8) by rw [hw2];exact row_set_word HH.out.words.drew _ _)
  have HE2:=hid (show Ex w w2 g h by rw [hw2];exact ((Ex.refl w g h).drewN 1).trans (Ex.set _ h _ _ (.inr rfl)))
  have HWL:=hid (show (ws.set (f/64) (ws[f/64] &&& (18446744073709551615-2 ^ (f%64)))).length=ws.length from List.length_set)
  generalize ws.set (f/64) (ws[f/64] &&& (18446744073709551615-2 ^ (f%64)))=ws2 at *
  clear hw2 HM
  have p0:=HP2.out.cell 0 (by simp)
  simp only [poolC,List.getElem_cons_zero] at p0
  have hlp:=HP2.out.lt
  have hlg:=HF2.out.lt
  have ez:(0:Int)≤(f:Int):=by omega
  have eb:(f:Int)<(fs.length:Int):=by omega
  have hz1:=zero_fr
  have hz2:zFr.size=4097:=zFr_size
  have hz3:=zFr_one
  have HTH:=hid (show w2.there g (f*4097) (frC one0).toArray.size from there_row HF2.out _ _ (by rw [List.size_toArray,frC_len one0_len];exact fr_end HH.out.ok f hf))
  have HSZ:=hid (show (Tryz.prog.info? 96).map (·.size)=some (frC one0).toArray.size by rw [List.size_toArray,frC_len one0_len];exact sizeFr)
  have HON:=hid (all_oneCell_toArray (frC_one one0))
  go_wp2_with (refine wpList_store_mid rfl 96 _ _ rfl g (f*4097) (frC one0).toArray rfl rfl HTH.out HSZ.out HON.out ?_)
  go_ret2
  rw [HF.out.1,HF.out.2.1,HF.out.2.2]
  have hX:Ex w2 (w2.setCells g (f*4097) (frC one0)) g h:=Ex.setCells w2 g _ _ (.inl rfl)
  have hfl:=HH.out.ok.set f (y:=one0) one0_len
  refine ⟨rfl,⟨ws2,⟨?_,?_,?_,hfl,by rw [List.length_set];exact HH.out.n1,by rw [List.length_set];exact HH.out.n2,by rw [List.length_set,HWL.out];exact HH.out.wl,?_,?_⟩⟩,HE2.out.trans hX⟩
  ·rw [List.length_set,HWL.out];exact hX.row HP2.out n1 n2
  ·have:=Row.setCells (frC one0) (f*4097) w2 _ HF2.out (by rw [frC_len one0_len];exact fr_end HH.out.ok f hf)
   rw [flatF_frame HH.out.ok f one0 one0_len hf] at this
   exact this
  ·exact ⟨by rw [setCells_block w2 g h (fun e=>n3 e.symm)];exact HW2.out.heap⟩
  ·rw [free_set fs f one0 hf];exact HWB.out
  ·intro x hx
   rcases List.mem_or_eq_of_mem_set hx with hx|rfl
   ·exact HH.out.c0 x hx
   ·decide
def upS (fs:List FR)(f:Int):List FR:=if cntF fs f=0 then fs else fs.set f.toNat ⟨(fs.getD f.toNat default).bs,cntF fs f+1⟩
def downS (fs:List FR)(f:Int):List FR:=if cntF fs f=0 then fs else fs.set f.toNat ⟨(fs.getD f.toNat default).bs,cntF fs f-1⟩
/-- A frame that is counted. -/
theorem cnt_is {fs:List FR}{f:Int}(h:cntF fs f≠0):∃ k:Nat,∃ hk:k<fs.length,f=(k:Int)∧cntF fs f=fs[k].cnt:=by
 unfold cntF at h ⊢
 by_cases c:0≤f∧f<fs.length
 ·rw [if_pos c] at h ⊢
  obtain ⟨k,rfl⟩:=Int.eq_ofNat_of_zero_le c.1
  have hk:k<fs.length:=by omega
  exact ⟨k,hk,rfl,by rw [Int.toNat_natCast,getF_at _ _ _ hk]⟩
 ·rw [if_neg c] at h;exact absurd rfl h
theorem take_upd (fr:Nat→Bool)(f:Nat)(b:Bool)(h:fr f=b):upd fr f b=fr:=by
 funext j
 unfold upd
 by_cases c:j=f
 ·subst c;rw [if_pos rfl,h]
 ·rw [if_neg c]
theorem free_at (fs:List FR)(f:Nat)(hf:f<fs.length):freeF fs f=(fs[f].cnt==0):=by
 unfold freeF;rw [List.getElem?_eq_getElem hf]
theorem both_ne {a b:Int}(h:a≠0)(k:b≠0):(a==0)=(b==0):=by
 rw [beq_eq_false_iff_ne.2 h,beq_eq_false_iff_ne.2 k]
set_option maxRecDepth 100000 in
set_option maxHeartbeats 1000000 in
theorem up_any (p g h:Nat)(fs:List FR)(ws:List Nat)(f:Int)(w:World)(H:Pl w p g h fs ws)(hM:∀ x∈fs,x.cnt<9223372036854775807):
 Calls Tryz.prog 57 #[.pointer (some ⟨p,0,none⟩),.int .i64 f] w fun e w'=>e=.returned (.int .i64 (takE fs f))∧Pl w' p g h (upS fs f) ws∧Ex w w' g h:=by
 have HH:=hid H
 have HL:=hid (taken_any p g h fs ws f w H)
 clear H
 go_enter Tryz.func57,Tryz.ntmps57
 go_wp2_with fail
 refine (HL.out).mono ?_
 rintro e' w' ⟨rfl,rfl⟩
 by_cases h0:cntF fs f=0
 ·have HF:=hid (show takE fs f=1∧upS fs f=fs by unfold takE upS;rw [h0];exact ⟨rfl,rfl⟩)
  rw [HF.out.1]
  clear h0
  go_wp2_with fail
  go_ret
  rw [HF.out.1,HF.out.2]
  exact ⟨rfl,HH.out,Ex.refl _ _ _⟩
 ·obtain ⟨k,hk,rfl,hc⟩:=cnt_is h0
  have HF:=hid (show takE fs (k:Int)=0∧upS fs (k:Int)=fs.set k ⟨fs[k].bs,fs[k].cnt+1⟩ by unfold takE upS;rw [if_neg h0,if_neg h0,hc,Int.toNat_natCast,getF_at _ _ _ hk];exact ⟨rfl,rfl⟩)
  rw [HF.out.1]
  obtain ⟨p0,p1⟩:=HH.out.cells
  have hlp:=HH.out.pool.lt
  have hlg:=HH.out.frames.lt
  have hx:=HH.out.count k hk
  have hfz:=HH.out.frames.frozen (k*4097+4096)
  have hx0:=HH.out.c0 _ (List.getElem_mem hk)
  have hx1:=hM _ (List.getElem_mem hk)
  have HFC:=hid (flatF_count HH.out.ok k (fs[k].cnt+1) hk)
  have hcn:fs[k].cnt≠0:=fun e=>h0 (by rw [hc];exact e)
  have HWF:=hid (take_upd (freeF fs) k (fs[k].cnt+1==0) ((free_at fs k hk).trans (both_ne hcn (by omega))))
  clear hcn
  have HFS:=hid (free_set fs k ⟨fs[k].bs,fs[k].cnt+1⟩ hk)
  have HLN:=hid (HH.out.ok _ (List.getElem_mem hk))
  obtain ⟨n1,n2,n3⟩:=HH.out.ne
  have ez:(0:Int)≤(k:Int):=by omega
  have eb:(k:Int)<(fs.length:Int):=by omega
  clear h0 hc hM
  generalize fs[k]=x at *
  have ew:=IntWalk.wrap64_in (x.cnt+1) ⟨by omega,by omega⟩
  go_wp2_with fail
  go_ret
  rw [HF.out.1,HF.out.2]
  have hX:Ex w (w.setCell ⟨g,k*4097+4096,none⟩ (.int .i64 (x.cnt+1))) g h:=Ex.set w g _ _ (.inl rfl)
  refine ⟨rfl,⟨?_,?_,?_,HH.out.ok.set k HLN.out,by rw [List.length_set];exact HH.out.n1,by rw [List.length_set];exact HH.out.n2,by rw [List.length_set];exact HH.out.wl,?_,?_⟩,hX⟩
  ·rw [List.length_set];exact hX.row HH.out.pool n1 n2
  ·rw [← HFC.out];exact HH.out.frames.set _ _
  ·exact HH.out.words.other (fun e=>n3 e.symm) _
  ·rw [HFS.out,HWF.out];exact HH.out.wb
  ·intro y hy
   rcases List.mem_or_eq_of_mem_set hy with hy|rfl
   ·exact HH.out.c0 y hy
   ·show 0≤x.cnt+1;omega
set_option maxRecDepth 100000 in
set_option maxHeartbeats 1000000 in
theorem down_any (p g h:Nat)(fs:List FR)(ws:List Nat)(f:Int)(w:World)(H:Pl w p g h fs ws)(hM:∀ x∈fs,x.cnt<9223372036854775807):
 Calls Tryz.prog 31 #[.pointer (some ⟨p,0,none⟩),.int .i64 f] w fun e w'=>e=.returned (.int .i64 (takE fs f))∧(∃ ws',Pl w' p g h (downS fs f) ws')∧Ex w w' g h:=by
 have HH:=hid H
 have HL:=hid (taken_any p g h fs ws f w H)
 clear H
 go_enter Tryz.func31,Tryz.ntmps31
 go_wp2_with fail
 refine (HL.out).mono ?_
 rintro e' w' ⟨rfl,rfl⟩
 by_cases h0:cntF fs f=0
 ·have HF:=hid (show takE fs f=1∧downS fs f=fs by unfold takE downS;rw [h0];exact ⟨rfl,rfl⟩)
  rw [HF.out.1]
  clear h0
  go_wp2_with fail
  go_ret
  rw [HF.out.1,HF.out.2]
  exact ⟨rfl,⟨ws,HH.out⟩,Ex.refl _ _ _⟩
 ·obtain ⟨k,hk,rfl,hc⟩:=cnt_is h0
  have HF:=hid (show takE fs (k:Int)=0∧downS fs (k:Int)=fs.set k ⟨fs[k].bs,fs[k].cnt-1⟩ by unfold takE downS;rw [if_neg h0,if_neg h0,hc,Int.toNat_natCast,getF_at _ _ _ hk];exact ⟨rfl,rfl⟩)
  rw [HF.out.1]
  obtain ⟨p0,p1⟩:=HH.out.cells
  have hlp:=HH.out.pool.lt
  have hlg:=HH.out.frames.lt
  have hx:=HH.out.count k hk
  have hfz:=HH.out.frames.frozen (k*4097+4096)
  have hx0:=HH.out.c0 _ (List.getElem_mem hk)
  have hx1:=hM _ (List.getElem_mem hk)
  have HFC:=hid (flatF_count HH.out.ok k (fs[k].cnt-1) hk)
  have hcn:fs[k].cnt≠0:=fun e=>h0 (by rw [hc];exact e)
  have HFR:=hid (free_at fs k hk)
  have HFS:=hid (free_set fs k ⟨fs[k].bs,fs[k].cnt-1⟩ hk)
  have HLN:=hid (HH.out.ok _ (List.getElem_mem hk))
  obtain ⟨n1,n2,n3⟩:=HH.out.ne
  have ez:(0:Int)≤(k:Int):=by omega
  have eb:(k:Int)<(fs.length:Int):=by omega
  clear h0 hc hM
  generalize fs[k]=x at *
  have ew:=IntWalk.wrap64_in (x.cnt-1) ⟨by omega,by omega⟩
  have HX:=hid (show Ex w (w.setCell ⟨g,k*4097+4096,none⟩ (.int .i64 (x.cnt-1))) g h from Ex.set w g _ _ (.inl rfl))
  have HP2:=hid (HX.out.row HH.out.pool n1 n2)
  have HF2:=hid (show Row (w.setCell ⟨g,k*4097+4096,none⟩ (.int .i64 (x.cnt-1))) g 96 (flatF (fs.set k ⟨x.bs,x.cnt-1⟩)) by rw [← HFC.out];exact HH.out.frames.set _ _)
  have HW2:=hid (HH.out.words.other (a:=⟨g,k*4097+4096,none⟩) (fun e=>n3 e.symm) (.int .i64 (x.cnt-1)))
  have HC0:=hid (show ∀ y∈fs.set k ⟨x.bs,x.cnt-1⟩,0≤y.cnt from fun y hy=>by
   rcases List.mem_or_eq_of_mem_set hy with hy|rfl
   ·exact HH.out.c0 y hy
   ·show 0≤x.cnt-1;omega)
  by_cases h1:x.cnt=1
  ·have hk64:k/64<ws.length:=by have:=HH.out.wl;omega
   have HM:=hid (fun w2 (a:Row w2 p 100 (poolC g h fs.length ws.length)) (b:Row w2 h 36 (ws.map W8))=>mark_at p g h fs.length ws k (k/64) (k%64) w2 a b (by omega) (Nat.mod_lt _ (by omega)) hk64 (HH.out.wb _ hk64).1 (by have:=HH.out.wl;have:=HH.out.n2;omega))
   have HWB:=hid (wb_mark HH.out.wb k hk64)
   have hz:x.cnt-1=0:=by omega
   rw [hz] at HX HP2 HF2 HW2 HC0 HFS
   rw [hz] at ew
   rw [hz] at HF
   clear HFC
   go_wp2_with fail
   refine (HM.out _ HP2.out HW2.out).mono ?_
   rintro e' w3 ⟨rfl,hw3⟩
   have hP3:Row w3 p 100 (poolC g h fs.length ws.length):=by rw [hw3];exact HP2.out.drew.other n2 _
   have hF3:Row w3 g 96 (flatF (fs.set k ⟨x.bs,0⟩)):=by rw [hw3];exact HF2.out.drew.other n3 _
   have hW3:Row w3 h 36 ((ws.set (k/64) (ws[k/64] ||| 2 ^ (k%64))).map W8):=by rw [hw3];exact row_set_word HW2.out.drew _ _
   have hX3:Ex w w3 g h:=by rw [hw3];exact (HX.out.drewN 1).trans (Ex.set _ h _ _ (.inr rfl))
   have hPl:Pl w3 p g h (fs.set k ⟨x.bs,0⟩) (ws.set (k/64) (ws[k/64] ||| 2 ^ (k%64))):=by
    refine ⟨?_,hF3,hW3,HH.out.ok.set k HLN.out,by rw [List.length_set];exact HH.out.n1,by rw [List.length_set];exact HH.out.n2,by rw [List.length_set,List.length_set];exact HH.out.wl,?_,HC0.out⟩
    ·rw [List.length_set,List.length_set];exact hP3
    ·rw [HFS.out];exact HWB.out
   have HPl:=hid hPl
   have HX3:=hid hX3
   clear hw3 hP3 hF3 hW3 hX3 hPl
   go_wp2_with fail
   go_ret
   rw [HF.out.1,HF.out.2]
   exact ⟨rfl,⟨_,HPl.out⟩,HX3.out⟩
  ·have hne:x.cnt-1≠0:=by omega
   have q1:(x.cnt-1==0)=false:=by simpa using hne
   have HWF:=hid (take_upd (freeF fs) k (x.cnt-1==0) (HFR.out.trans (both_ne hcn hne)))
   clear hne hcn h1 HFC
   go_wp2_with fail
   go_ret
   rw [HF.out.1,HF.out.2]
   refine ⟨rfl,⟨ws,⟨?_,HF2.out,HW2.out,HH.out.ok.set k HLN.out,by rw [List.length_set];exact HH.out.n1,by rw [List.length_set];exact HH.out.n2,by rw [List.length_set];exact HH.out.wl,?_,HC0.out⟩⟩,HX.out⟩
   ·rw [List.length_set];exact HP2.out
   ·rw [HFS.out,HWF.out];exact HH.out.wb
def loadE (fs:List FR)(f off n:Int):Int:=if takE fs f=0 then (if withinB off n then 0 else 1) else 1
def loadL (fs:List FR)(f off n:Int):List Int:=if takE fs f=0 then (if withinB off n then ((fs.getD f.toNat default).bs.drop off.toNat).take n.toNat else []) else []
theorem within_is {off n:Int}(h:withinB off n=true):∃ o m:Nat,off=(o:Int)∧n=(m:Int)∧o+m≤4096:=by
 unfold withinB at h
 simp only [Bool.and_eq_true,decide_eq_true_eq] at h
 obtain ⟨⟨⟨h1,h2⟩,h3⟩,h4⟩:=h
 obtain ⟨o,rfl⟩:=Int.eq_ofNat_of_zero_le h1
 obtain ⟨m,rfl⟩:=Int.eq_ofNat_of_zero_le h2
 exact ⟨o,m,rfl,rfl,by omega⟩
theorem infoU8j:(Tryz.prog.info? 5).map (fun i=>(i.zero,i.size,i.bytes))=some (some (.int .u8 0),1,1):=by kernel_rfl
theorem sizeU8:(Tryz.prog.info? 5).map (·.size)=some 1:=by kernel_rfl
theorem at_dst {P:Program}{ops:Array Oper}{rest:List Oper}{o:Oper}{a:Act}{w:World}{Q:Exit→Act→World→Prop}(n:Nat)(_:o.dst=some n)(h:wpList P ops Q (o::rest) a w):wpList P ops Q (o::rest) a w:=h
theorem arr_len:Tryz.prog.arrayLen 94=4096:=by kernel_rfl
theorem arr_el:Tryz.prog.elem 94=5:=by kernel_rfl
def cutA (g b o m:Nat):Addr:=if m=0 then ⟨g,b,none⟩ else ⟨g,b+o,none⟩
set_option maxRecDepth 100000 in
/-- A piece of a frame's bytes. -/
theorem cut_at (w:World)(g b o m:Nat)(h:o+m≤4096):
 (Instr.sliceAt 94 (.pointer (some ⟨g,b,none⟩)) (some (.int .i64 (o:Int))) (some (.int .i64 ((o:Int)+(m:Int)))) (some (.int .i64 ((o:Int)+(m:Int))))).run Tryz.prog w=.ok (.slice (some (cutA g b o m)) m m) w:=by
 have hs:(sizeOf (Tryz.prog.elem 94)).run Tryz.prog w=.ok 1 w:=by rw [arr_el];rfl
 rw [run_sliceAt_array_lhm (P:=Tryz.prog) w 94 ⟨g,b,none⟩ (by kernel_rfl) .i64 .i64 .i64 (o:Int) ((o:Int)+(m:Int)) ((o:Int)+(m:Int)) (by omega) (by omega) (by omega) (by rw [arr_len];omega),hs]
 have e:((o:Int)+(m:Int)).toNat=o+m:=by omega
 unfold slicedAt cutA
 rw [e,Int.toNat_natCast]
 simp only [Result.andThen,Result.ok.injEq,Value.slice.injEq,Option.some.injEq,and_true]
 by_cases c:m=0
 ·subst c;simp
 ·rw [if_neg (by omega),if_neg c]
  refine ⟨?_,by omega,by omega⟩
  unfold Addr.add
  by_cases c2:o*1=0
  ·have:o=0:=by omega
   subst this;simp
  ·rw [if_neg c2];simp
set_option maxRecDepth 100000 in
set_option maxHeartbeats 1000000 in
theorem load_any (p g h:Nat)(fs:List FR)(ws:List Nat)(f off n:Int)(w:World)(H:Pl w p g h fs ws):
 Calls Tryz.prog 49 #[.pointer (some ⟨p,0,none⟩),.int .i64 f,.int .i64 off,.int .i64 n] w fun e w'=>∃ v,e=.returned (.tuple #[v,.int .i64 (loadE fs f off n)])∧w'.ownsRow w.heap.size 5 1 v (loadL fs f off n).length ((loadL fs f off n).map (Value.int .u8))∧Below w.heap.size w w':=by
 have HH:=hid H
 have HL:=hid (taken_any p g h fs ws f w H)
 have HWI:=hid (within_any off n w)
 clear H
 go_enter Tryz.func49,Tryz.ntmps49
 go_wp2_with fail
 refine (HL.out).mono ?_
 rintro e' w' ⟨rfl,rfl⟩
 by_cases h0:cntF fs f=0
 ·have HT:=hid (show takE fs f=1 by unfold takE;rw [h0];rfl)
  have HF:=hid (show loadE fs f off n=1∧loadL fs f off n=[] by unfold loadE loadL;rw [HT.out];exact ⟨rfl,rfl⟩)
  rw [HT.out]
  clear h0
  go_wp2_with fail
  go_ret2
  rw [HF.out.1,HF.out.2]
  exact ⟨_,rfl,own_nil_of,Below.refl _ _⟩
 ·have HT:=hid (show takE fs f=0 by unfold takE;rw [if_neg h0])
  rw [HT.out]
  go_wp2_with fail
  refine (HWI.out).mono ?_
  rintro e' w' ⟨rfl,rfl⟩
  cases hw:withinB off n with
  | false=>
   have HF:=hid (show loadE fs f off n=1∧loadL fs f off n=[] by unfold loadE loadL;rw [HT.out,hw];exact ⟨rfl,rfl⟩)
   clear h0
   go_wp2_with fail
   go_ret2
   rw [HF.out.1,HF.out.2]
   exact ⟨_,rfl,own_nil_of,Below.refl _ _⟩
  | true=>
   obtain ⟨o,m,rfl,rfl,hom⟩:=within_is hw
   obtain ⟨k,hk,rfl,hc⟩:=cnt_is h0
   have HF:=hid (show loadE fs k o m=0∧loadL fs k o m=(fs[k].bs.drop o).take m by unfold loadE loadL;rw [HT.out,hw,Int.toNat_natCast,Int.toNat_natCast,Int.toNat_natCast,getF_at _ _ _ hk];exact ⟨rfl,rfl⟩)
   have hlen:=HH.out.ok _ (List.getElem_mem hk)
   have HLN:=hid (show ((fs[k].bs.drop o).take m).length=m by simp;omega)
   have HBY:=hid (fun (j:Nat) (hj:j<m)=>show w.cell? ⟨g,k*4097+o+j,none⟩=(((fs[k].bs.drop o).take m).map (Value.int .u8))[j]? from by
    rw [HH.out.frames.cell',Nat.add_assoc,flatF_byte HH.out.ok k (o+j) hk (by omega),List.getElem?_map,List.getElem?_take,if_pos hj,List.getElem?_drop])
   generalize (fs[k].bs.drop o).take m=L at *
   obtain ⟨p0,p1⟩:=HH.out.cells
   have hlp:=HH.out.pool.lt
   have hlg:=HH.out.frames.lt
   have HP:=hid HH.out.pool
   have ez:(0:Int)≤(k:Int):=by omega
   have eb:(k:Int)<(fs.length:Int):=by omega
   have hm1:1*m≤281474976710656:=by omega
   have hm2:m≤9223372036854775807:=by omega
   have ew:=IntWalk.wrap64_in ((o:Int)+(m:Int)) ⟨by omega,by omega⟩
   have hcut:=fun w=>cut_at w g (k*4097) o m hom
   clear h0 hc hw hlen
   have hmin:(L.map (Value.int .u8)).length=Nat.min m m:=by rw [List.length_map,HLN.out];simp
   have HMIN:=hid hmin
   have HFIT:=hid (show 0+(L.map (Value.int .u8)).length≤(List.replicate m (Value.int .u8 0)).length by simp [HLN.out])
   have HON:=hid (nums_one .u8 L)
   have HSRC:=hid (fun (w2:World) (hb:Below w.heap.size w w2)=>show 0<(L.map (Value.int .u8)).length→∃ ad,some (cutA g (k*4097) o m)=some ad∧∀ j v,(L.map (Value.int .u8))[j]?=some v→w2.cell? (ad.add j)=some v from fun hp=>by
    rw [List.length_map,HLN.out] at hp
    refine ⟨⟨g,k*4097+o,none⟩,by unfold cutA;rw [if_neg (by omega)],fun j v hj=>?_⟩
    have hj1:j<m:=by have:=(List.getElem?_eq_some_iff.1 hj).1;rw [List.length_map,HLN.out] at this;exact this
    have h2:=HBY.out j hj1
    rw [hj] at h2
    have h3:=keepC hb h2
    rw [Addr.add_mid]
    exact h3)
   have HE:=hid (show splice (List.replicate m (Value.int .u8 0)) 0 (L.map (Value.int .u8))=L.map (Value.int .u8) from splice_all _ _ (by simp [HLN.out]))
   clear hmin
   go_wp2_with (first|(refine wpList_make_row _ rfl _ _ 89 rfl 5 (.int .u8 0) 1 Tryz.underlying89 infoU8j rfl .i64 .i64 m m m rfl rfl rfl rfl hm1 hm2 ?_;intro w2 hR hb hsz;have HR:=hid hR;have HB:=hid hb;have p0:=hb.cell (p:=⟨p,0,none⟩) hlp;clear hR hb)|(refine at_dst 40 rfl ?_;go_must (refine wpList_copy_splice rfl _ _ 89 89 rfl 5 Tryz.underlying89 sizeU8 (some ⟨w.heap.size,0,none⟩) (some (cutA g (k*4097) o m)) m m m m rfl rfl w.heap.size 0 (List.replicate m (Value.int .u8 0)) 5 HR.out.heap (L.map (Value.int .u8)) HMIN.out (fun hp=>⟨rfl,HSRC.out w2 HB.out hp⟩) HFIT.out HON.out w.heap.size w HB.out (Nat.le_refl _) ?_;intro w3 hw3 hb3;rw [HE.out] at hw3;have HR3:=hid (show Row w3 w.heap.size 5 (L.map (Value.int .u8)) from ⟨hw3.out⟩);have HB3:=hid hb3;clear hw3 hb3)))
   go_ret2
   rw [HF.out.1,HF.out.2]
   refine ⟨_,rfl,?_,HB3.out⟩
   rw [HLN.out]
   have:=HR3.out.owns (base:=w.heap.size) (n:=m) (cap:=m) (Nat.le_refl _) (by rw [List.length_map,HLN.out]) (Nat.le_refl _) (by unfold maxLen;omega)
   rw [List.take_of_length_le (by rw [List.length_map,HLN.out];exact Nat.le_refl _)] at this
   exact this
/-- copy into a row: the row, and what stands. -/
theorem wpList_copy_in {P:Program}{w:World}{ops:Array Oper}{rest:List Oper}{o:Oper}{a:Act}{Q:Exit→Act→World→Prop}(hgd:o.guard=none)(d s:Operand)(dT sT:TypeId)
 (ho:o.op=.call { callee:=.builtin .copy,args:=#[d,s],argTypes:=#[dT,sT] }) (elem:TypeId) (hu:P.underlying dT=some (.slice elem)) (hsz:(P.info? elem).map (·.size)=some 1)
 (dp sp:Option Addr) (dLen dCap sLen sCap:Nat) (hd:a.eval d=.slice dp dLen dCap) (hs:a.eval s=.slice sp sLen sCap)
 (g off:Nat) (cur:List Value) (t:TypeId) (hg:Row w g t cur) (cs:List Value) (hn:cs.length=Nat.min sLen dLen)
 (hpos:0<cs.length→dp=some ⟨g,off,none⟩∧∃ ad,sp=some ad∧∀ j v,cs[j]?=some v→w.cell? (ad.add j)=some v)
 (hfit:off+cs.length≤cur.length) (h1:∀ v∈cs,v.oneCell'=true) (g2:Nat)
 (h:∀ w',Row w' g t (splice cur off cs)→Ex w w' g g2→wpList P ops Q rest (a.put o.dst (goInt cs.length)) w'):
 wpList P ops Q (o::rest) a w:=by
 by_cases h0:cs.length=0
 ·obtain rfl:cs=[]:=List.eq_nil_of_length_eq_zero h0
  refine wpList_copy_nothing hgd d s dT sT ho elem hu hsz dp sp dLen dCap sLen sCap hd hs (by simpa using hn.symm) ?_
  exact h w (by rw [splice_nil];exact hg) (Ex.refl _ _ _)
 ·obtain ⟨rfl,ad,rfl,hsrc⟩:=hpos (by omega)
  refine wpList_copy_own hgd d s dT sT ho elem hu hsz g off dLen dCap ad sLen sCap hd hs cur.toArray t hg.heap cs hn hsrc (by simpa using hfit) h1 ?_
  exact h _ hg.setRow (Ex.setRow w g _ (.inl rfl))
theorem Ex.weak {w w':World}{a b:Nat}(h:Ex w w' a a):Ex w w' a b:=⟨h.os,h.tape,h.output,h.size,fun k hk h1 _=>h.block k hk h1 h1⟩
def storeS (fs:List FR)(f off:Int)(l:List Int):List FR:=
 if loadE fs f off l.length=0 then fs.set f.toNat ⟨splice (fs.getD f.toNat default).bs off.toNat l,(fs.getD f.toNat default).cnt⟩ else fs
set_option maxRecDepth 100000 in
set_option maxHeartbeats 1000000 in
theorem store_any (p g h:Nat)(fs:List FR)(ws:List Nat)(f off:Int)(ba:Option Addr)(n cap:Nat)(l:List Int)(w:World)(H:Pl w p g h fs ws)(hB:Nums w .u8 ba n l)(hn:n≤9223372036854775807):
 Calls Tryz.prog 109 #[.pointer (some ⟨p,0,none⟩),.int .i64 f,.int .i64 off,.slice ba n cap] w fun e w'=>e=.returned (.int .i64 (loadE fs f off n))∧Pl w' p g h (storeS fs f off l) ws∧Ex w w' g h:=by
 obtain rfl:=hB.hlen
 have HH:=hid H
 have HBY:=hid hB
 have HL:=hid (taken_any p g h fs ws f w H)
 have HWI:=hid (within_any off l.length w)
 clear H hB
 go_enter Tryz.func109,Tryz.ntmps109
 go_wp2_with fail
 refine (HL.out).mono ?_
 rintro e' w' ⟨rfl,rfl⟩
 by_cases h0:cntF fs f=0
 ·have HT:=hid (show takE fs f=1 by unfold takE;rw [h0];rfl)
  have HF:=hid (show loadE fs f off l.length=1∧storeS fs f off l=fs by unfold storeS loadE;rw [HT.out];exact ⟨rfl,rfl⟩)
  rw [HT.out]
  clear h0
  go_wp2_with fail
  go_ret
  rw [HF.out.1,HF.out.2]
  exact ⟨rfl,HH.out,Ex.refl _ _ _⟩
 ·have HT:=hid (show takE fs f=0 by unfold takE;rw [if_neg h0])
  rw [HT.out]
  go_wp2_with fail
  refine (HWI.out).mono ?_
  rintro e' w' ⟨rfl,rfl⟩
  cases hw:withinB off l.length with
  | false=>
   have HF:=hid (show loadE fs f off l.length=1∧storeS fs f off l=fs by unfold storeS loadE;rw [HT.out,hw];exact ⟨rfl,rfl⟩)
   clear h0
   go_wp2_with fail
   go_ret
   rw [HF.out.1,HF.out.2]
   exact ⟨rfl,HH.out,Ex.refl _ _ _⟩
  | true=>
   obtain ⟨o,m,rfl,hm,hom⟩:=within_is hw
   obtain rfl:l.length=m:=by omega
   obtain ⟨k,hk,rfl,hc⟩:=cnt_is h0
   have hle:loadE fs k o l.length=0:=by unfold loadE;rw [HT.out,hw];rfl
   have HF:=hid (show loadE fs k o l.length=0∧storeS fs k o l=fs.set k ⟨splice fs[k].bs o l,fs[k].cnt⟩ from ⟨hle,by unfold storeS;rw [hle,if_pos rfl,Int.toNat_natCast,Int.toNat_natCast,getF_at _ _ _ hk]⟩)
   have hlen:=HH.out.ok _ (List.getElem_mem hk)
   have HFB:=hid (flatF_bytes HH.out.ok k o l hom hk)
   have HSL:=hid (show (splice fs[k].bs o l).length=4096 by rw [length_splice _ _ _ (by omega)];exact hlen)
   have HWF:=hid (take_upd (freeF fs) k (fs[k].cnt==0) (free_at fs k hk))
   have HFS:=hid (free_set fs k ⟨splice fs[k].bs o l,fs[k].cnt⟩ hk)
   have hx0:=HH.out.c0 _ (List.getElem_mem hk)
   obtain ⟨n1,n2,n3⟩:=HH.out.ne
   obtain ⟨p0,p1⟩:=HH.out.cells
   have hlp:=HH.out.pool.lt
   have hlg:=HH.out.frames.lt
   have ez:(0:Int)≤(k:Int):=by omega
   have eb:(k:Int)<(fs.length:Int):=by omega
   have HMIN:=hid (show (l.map (Value.int .u8)).length=Nat.min l.length l.length by rw [List.length_map];simp)
   have HFIT:=hid (show k*4097+o+(l.map (Value.int .u8)).length≤(flatF fs).length by rw [List.length_map];have:=fr_end HH.out.ok k hk;omega)
   have HON:=hid (nums_one .u8 l)
   have HSRC:=hid (show 0<(l.map (Value.int .u8)).length→∃ ad,ba=some ad∧∀ j v,(l.map (Value.int .u8))[j]?=some v→w.cell? (ad.add j)=some v from fun hp=>by
    rw [List.length_map] at hp
    obtain ⟨b,off,rfl,hc⟩:=HBY.out.some_of hp
    exact ⟨_,rfl,HBY.out.news⟩)
   have HDST:=hid (show 0<(l.map (Value.int .u8)).length→cutA g (k*4097) o l.length=⟨g,k*4097+o,none⟩ from fun hp=>by
    rw [List.length_map] at hp
    unfold cutA;rw [if_neg (by omega)])
   clear h0 hc hw hlen hm hle
   generalize fs[k]=x at *
   have hcut:=fun w=>cut_at w g (k*4097) o l.length hom
   have ew:=IntWalk.wrap64_in ((o:Int)+(l.length:Int)) ⟨by omega,by omega⟩
   go_wp2_with (refine at_dst 38 rfl ?_;go_must (refine wpList_copy_in rfl _ _ 89 89 rfl 5 Tryz.underlying89 sizeU8 (some (cutA g (k*4097) o l.length)) ba l.length l.length l.length cap rfl rfl g (k*4097+o) (flatF fs) 96 HH.out.frames (l.map (Value.int .u8)) HMIN.out (fun hp=>⟨by rw [HDST.out hp],HSRC.out hp⟩) HFIT.out HON.out g ?_;intro w2 hR hX;rw [HFB.out] at hR;have HR:=hid hR;have HX:=hid hX;clear hR hX))
   go_ret
   rw [HF.out.1,HF.out.2]
   refine ⟨rfl,⟨?_,HR.out,HX.out.row HH.out.words (fun e=>n3 e.symm) (fun e=>n3 e.symm),HH.out.ok.set k HSL.out,by rw [List.length_set];exact HH.out.n1,by rw [List.length_set];exact HH.out.n2,by rw [List.length_set];exact HH.out.wl,?_,?_⟩,HX.out.weak⟩
   ·rw [List.length_set];exact HX.out.row HH.out.pool n1 n1
   ·rw [HFS.out,HWF.out];exact HH.out.wb
   ·intro y hy
    rcases List.mem_or_eq_of_mem_set hy with hy|rfl
    ·exact HH.out.c0 y hy
    ·exact hx0
theorem fr0_len:fr0.bs.length=4096:=List.length_replicate
theorem ok0 (n:Nat):FsOk (List.replicate n fr0):=fun x hx=>by rw [List.eq_of_mem_replicate hx];exact fr0_len
theorem made_frames (n:Nat):madeCells zFr (n*4097)=(flatF (List.replicate n fr0)).toArray:=by
 have hl:(flatF (List.replicate n fr0)).length=n*4097:=by rw [flatF_len (ok0 n),List.length_replicate]
 apply Array.ext
 ·rw [size_madeCells,List.size_toArray,hl]
 ·intro i h1 h2
  rw [size_madeCells] at h1
  have hq:i/4097<n:=by rw [Nat.div_lt_iff_lt_mul (by omega)];exact h1
  have hr:i%4097<4097:=Nat.mod_lt _ (by omega)
  have hi:i/4097*4097+i%4097=i:=by omega
  have hf:=flatF_at (ok0 n) (i/4097) (i%4097) (by rw [List.length_replicate];exact hq) hr
  rw [hi,List.getElem_replicate] at hf
  have e1:(madeCells zFr (n*4097))[i]'(by rw [size_madeCells];exact h1)=zFr[i%zFr.size]!:=by simp [madeCells]
  rw [e1,zFr_size]
  have hz:i%4097<zFr.size:=by rw [zFr_size];exact hr
  rw [getElem!_pos zFr (i%4097) hz]
  have e2:(flatF (List.replicate n fr0)).toArray[i]?=(frC fr0)[i%4097]?:=by rw [List.getElem?_toArray];exact hf
  rw [Array.getElem?_eq_getElem (by rw [List.size_toArray,hl];exact h1)] at e2
  have e3:(frC fr0)[i%4097]?=some (zFr[i%4097]):=by
   rw [← List.getElem?_toArray]
   exact Array.getElem?_eq_getElem hz
  rw [e3] at e2
  exact (Option.some.inj e2).symm
theorem infoFr:(Tryz.prog.info? 96).map (fun i=>(i.zero,i.size,i.bytes))=some (some (.agg zFr),4097,4104):=by kernel_rfl
theorem made_words (m:Nat):madeCells #[.int .u64 0] m=((List.replicate m 0).map W8).toArray:=by
 apply Array.ext
 ·simp [size_madeCells]
 ·intro i h1 h2
  have e:i%1=0:=Nat.mod_one i
  simp [madeCells,W8,e]
theorem mk_frames (n:Nat)(hn:n≤1024)(w:World):(Instr.makeSlice 97 (.int .i64 (n:Int)) (.int .i64 (n:Int))).run Tryz.prog w=.ok (.slice (some ⟨w.heap.size,0,none⟩) n n) (w.alloc (.cells (flatF (List.replicate n fr0)).toArray 96)):=by
 obtain ⟨i0,hi,hz0,hz1,hz2⟩:=info_parts infoFr
 have:=run_make (P:=Tryz.prog) w 97 96 i0 (.agg zFr) Tryz.underlying97 hi hz0 .i64 .i64 (n:Int) (n:Int) (by omega) (by omega) (by rw [hz2];omega) (by omega)
 rw [this,hz1]
 simp only [Int.toNat_natCast]
 rw [show (Value.agg zFr).cells=zFr from rfl,made_frames]
theorem infoW:(Tryz.prog.info? 36).map (fun i=>(i.zero,i.size,i.bytes))=some (some (.int .u64 0),1,8):=by kernel_rfl
def wZ (m:Nat):List Value:=(List.replicate m 0).map W8
theorem mk_words (m:Nat)(hm:m≤1024)(w:World):(Instr.makeSlice 98 (.int .i64 (m:Int)) (.int .i64 (m:Int))).run Tryz.prog w=.ok (.slice (some ⟨w.heap.size,0,none⟩) m m) (w.alloc (.cells (wZ m).toArray 36)):=by
 obtain ⟨i0,hi,hz0,hz1,hz2⟩:=info_parts infoW
 have:=run_make (P:=Tryz.prog) w 98 36 i0 (.int .u64 0) Tryz.underlying98 hi hz0 .i64 .i64 (m:Int) (m:Int) (by omega) (by omega) (by rw [hz2];omega) (by omega)
 rw [this,hz1]
 simp only [Int.toNat_natCast,Nat.mul_one]
 rw [show (Value.int .u64 0).cells=#[.int .u64 0] from rfl,made_words]
 rfl
/-- The pool while frames are being marked: the first k are. -/
structure Half (w:World)(p g h n k:Nat)(ws:List Nat):Prop where
 pool:Row w p 100 (poolC g h n ws.length)
 frames:Row w g 96 (flatF (List.replicate n fr0))
 words:Row w h 36 (ws.map W8)
 wl:ws.length=(n+63)/64
 wb:WB (fun j=>decide (j<k)) ws
theorem half_done {w:World}{p g h n:Nat}{ws:List Nat}(H:Half w p g h n n ws)(h1:1≤n)(h2:n≤1024):Pl w p g h (List.replicate n fr0) ws:=by
 refine ⟨by rw [List.length_replicate];exact H.pool,H.frames,H.words,ok0 n,by rw [List.length_replicate];exact h1,by rw [List.length_replicate];exact h2,by rw [List.length_replicate];exact H.wl,?_,fun x hx=>by rw [List.eq_of_mem_replicate hx];exact Int.le_refl _⟩
 have:freeF (List.replicate n fr0)=fun j=>decide (j<n):=by
  funext j
  unfold freeF
  by_cases c:j<n
  ·rw [List.getElem?_replicate,if_pos c,decide_eq_true c];rfl
  ·rw [List.getElem?_replicate,if_neg c,decide_eq_false c]
 rw [this]
 exact H.wb
theorem half_zero (m:Nat):WB (fun j=>decide (j<0)) (List.replicate m 0):=fun i hi=>by
 simp
theorem half_step {k:Nat}{ws:List Nat}(h:WB (fun j=>decide (j<k)) ws)(h1:k/64<ws.length):WB (fun j=>decide (j<k+1)) (ws.set (k/64) (ws[k/64] ||| 2 ^ (k%64))):=by
 have:=wb_mark h k h1
 have e:upd (fun j=>decide (j<k)) k true=fun j=>decide (j<k+1):=by
  funext j
  unfold upd
  by_cases c:j=k
  ·subst c;simp
  ·by_cases c2:j<k
   ·simp [c,c2];omega
   ·simp [c,c2];omega
 rw [e] at this
 exact this
theorem half_mark {w:World}{p g h n k:Nat}{ws:List Nat}(H:Half w p g h n k ws)(hk:k/64<ws.length):Half (w.drew.setCell ⟨h,k/64,none⟩ (.int .u64 ((ws[k/64] ||| 2 ^ (k%64):Nat):Int))) p g h n (k+1) (ws.set (k/64) (ws[k/64] ||| 2 ^ (k%64))):=
 ⟨by rw [List.length_set];exact H.pool.drew.other (row_tys H.pool H.words (by decide)) _,H.frames.drew.other (row_tys H.frames H.words (by decide)) _,row_set_word H.words.drew _ _,by rw [List.length_set];exact H.wl,half_step H.wb hk⟩
theorem bal2 {w w':World}(h:Below w.heap.size w w')(o:Obj):Below w.heap.size w (w'.alloc o):=bthen h (bal o)
theorem Row.new1 (w:World)(o:Obj)(E:TypeId)(cs:List Value):Row ((w.alloc o).alloc (.cells cs.toArray E)) (w.heap.size+1) E cs:=by
 have:=Row.new (w.alloc o) E cs
 rwa [World.size_alloc] at this
theorem Row.new2 (w:World)(o1 o2:Obj)(E:TypeId)(cs:List Value):Row (((w.alloc o1).alloc o2).alloc (.cells cs.toArray E)) (w.heap.size+1+1) E cs:=by
 have:=Row.new ((w.alloc o1).alloc o2) E cs
 rwa [World.size_alloc,World.size_alloc] at this
set_option maxRecDepth 100000 in
set_option maxHeartbeats 1000000 in
theorem poolNew_any (n:Nat)(w:World)(h1:1≤n)(h2:n≤1024):
 Calls Tryz.prog 18 #[.int .i64 (n:Int)] w fun e w'=>∃ p g h ws,e=.returned (.tuple #[.pointer (some ⟨p,0,none⟩),.int .i64 0])∧Pl w' p g h (List.replicate n fr0) ws∧w.heap.size≤p∧w.heap.size≤g∧w.heap.size≤h∧Below w.heap.size w w':=by
 obtain ⟨m,hm⟩:∃ m,m=(n+63)/64:=⟨_,rfl⟩
 have hm16:m≤16:=by omega
 have b1:decide ((n:Int)<1)=false:=by simp;omega
 have b2:decide (1024<(n:Int))=false:=by simp;omega
 have hmk:=mk_frames n h2
 have hmw:=mk_words m (by omega)
 have HM:=hid hm
 have HZ:=hid (show (List.replicate m 0:List Nat).length=m from List.length_replicate)
 have HB:=hid (fun o1 o2 o3=>(bdN (bal2 (bal2 (@bal w o1) o2) o3) 1))
 have HA1:=hid (show Half ((((w.alloc (.cells (flatF (List.replicate n fr0)).toArray 96)).alloc (.cells (wZ m).toArray 36)).alloc (.cells #[.slice (some ⟨w.heap.size,0,none⟩) n n,.slice (some ⟨w.heap.size+1,0,none⟩) m m] 100)).drew) (w.heap.size+1+1) w.heap.size (w.heap.size+1) n 0 (List.replicate m 0) from
  ⟨Row.drew (by rw [List.length_replicate];exact Row.new2 _ _ _ _ _),Row.drew (((Row.new _ _ _).alloc _).alloc _),Row.drew ((Row.new1 _ _ _ _).alloc _),by rw [List.length_replicate];exact hm,half_zero m⟩)
 have HA2:=hid (show Half ((((w.alloc (.cells (wZ m).toArray 36)).alloc (.cells (flatF (List.replicate n fr0)).toArray 96)).alloc (.cells #[.slice (some ⟨w.heap.size+1,0,none⟩) n n,.slice (some ⟨w.heap.size,0,none⟩) m m] 100)).drew) (w.heap.size+1+1) (w.heap.size+1) w.heap.size n 0 (List.replicate m 0) from
  ⟨Row.drew (by rw [List.length_replicate];exact Row.new2 _ _ _ _ _),Row.drew ((Row.new1 _ _ _ _).alloc _),Row.drew (((Row.new _ _ _).alloc _).alloc _),by rw [List.length_replicate];exact hm,half_zero m⟩)
 have q1:IntKind.i64.wrap ((n:Int)+64)=(n:Int)+64:=IntWalk.i64_in _ ⟨by omega,by omega⟩
 have q2:IntKind.i64.wrap ((n:Int)+64-1)=(n:Int)+63:=by rw [IntWalk.i64_in _ ⟨by omega,by omega⟩];omega
 have q3:IntKind.i64.wrap (((n:Int)+63)/64)=(m:Int):=by rw [IntWalk.i64_in _ ⟨by omega,by omega⟩];omega
 have q4:IntKind.i64.wrap (((n:Int)+63).tdiv 64)=(m:Int):=by rw [Int.tdiv_eq_ediv_of_nonneg (by omega)];exact q3
 clear hm
 go_enter Tryz.func18,Tryz.ntmps18
 go_wp2_with fail
 go_region_with (fail)
 ·clear q1 q2 q3 q4 hmk hmw
  go_wp2_with fail
  go_loopw [22] (fun i wr=>∃ (k:Nat) (ws:List Nat),k≤n∧i=.int .i64 k∧Half wr (w.heap.size+1+1) w.heap.size (w.heap.size+1) n k ws∧Below w.heap.size w wr) (fun i _=>n-(intOf i).toNat)
  case atStart=>exact ⟨0,_,Nat.zero_le _,rfl,HA1.out,HB.out _ _ _⟩
  case round=>
   obtain ⟨k,ws,hk,rfl,hh,hb⟩:=hrel
   have HH:=hid hh
   have HBr:=hid hb
   have hwl:=hh.wl
   by_cases hlt:k<n
   ·have d1:decide ((k:Int)<(n:Int))=true:=by simp;omega
    have d1n:decide (k<n)=true:=by simp;omega
    have hk64:k/64<ws.length:=by omega
    have HMK:=hid (mark_at (w.heap.size+1+1) w.heap.size (w.heap.size+1) n ws k (k/64) (k%64) wr hh.pool hh.words (by omega) (Nat.mod_lt _ (by omega)) hk64 (hh.wb _ hk64).1 (by omega))
    have HN:=hid (half_mark hh hk64)
    have HBN:=hid (bset (bdN hb 1) (b:=(w.heap.size+1)) (o:=k/64) (by omega) (.int .u64 ((ws[k/64] ||| 2 ^ (k%64):Nat):Int)))
    clear hh hb hwl
    go_wp2_with fail
    refine (HMK.out).mono ?_
    rintro e' w2 ⟨rfl,rfl⟩
    have HN2:=hid (show Half ((wr.drewN 1).setCell ⟨(w.heap.size+1),k/64,none⟩ (.int .u64 ((ws[k/64] ||| 2 ^ (k%64):Nat):Int))) (w.heap.size+1+1) w.heap.size (w.heap.size+1) n (k+1) _ from HN.out)
    generalize ws.set (k/64) (ws[k/64] ||| 2 ^ (k%64))=ws2 at *
    go_wp2_with fail
    go_roundw
    case rel=>exact ⟨k+1,ws2,by omega,by go_num,HN.out,HBN.out⟩
    case measure=>simp [intOf];omega
   ·have d1:decide ((k:Int)<(n:Int))=false:=by simp;omega
    have d1n:decide (k<n)=false:=by simp;omega
    obtain rfl:k=n:=by omega
    clear hh hb hwl
    go_wp2_with fail
    go_ret2
    exact ⟨_,_,_,ws,rfl,half_done HH.out h1 h2,by omega,by omega,by omega,HBr.out⟩
 ·clear q1 q2 q3 q4 hmk hmw
  go_wp2_with fail
  go_loopw [22] (fun i wr=>∃ (k:Nat) (ws:List Nat),k≤n∧i=.int .i64 k∧Half wr (w.heap.size+1+1) (w.heap.size+1) w.heap.size n k ws∧Below w.heap.size w wr) (fun i _=>n-(intOf i).toNat)
  case atStart=>exact ⟨0,_,Nat.zero_le _,rfl,HA2.out,HB.out _ _ _⟩
  case round=>
   obtain ⟨k,ws,hk,rfl,hh,hb⟩:=hrel
   have HH:=hid hh
   have HBr:=hid hb
   have hwl:=hh.wl
   by_cases hlt:k<n
   ·have d1:decide ((k:Int)<(n:Int))=true:=by simp;omega
    have d1n:decide (k<n)=true:=by simp;omega
    have hk64:k/64<ws.length:=by omega
    have HMK:=hid (mark_at (w.heap.size+1+1) (w.heap.size+1) w.heap.size n ws k (k/64) (k%64) wr hh.pool hh.words (by omega) (Nat.mod_lt _ (by omega)) hk64 (hh.wb _ hk64).1 (by omega))
    have HN:=hid (half_mark hh hk64)
    have HBN:=hid (bset (bdN hb 1) (b:=w.heap.size) (o:=k/64) (by omega) (.int .u64 ((ws[k/64] ||| 2 ^ (k%64):Nat):Int)))
    clear hh hb hwl
    go_wp2_with fail
    refine (HMK.out).mono ?_
    rintro e' w2 ⟨rfl,rfl⟩
    have HN2:=hid (show Half ((wr.drewN 1).setCell ⟨w.heap.size,k/64,none⟩ (.int .u64 ((ws[k/64] ||| 2 ^ (k%64):Nat):Int))) (w.heap.size+1+1) (w.heap.size+1) w.heap.size n (k+1) _ from HN.out)
    generalize ws.set (k/64) (ws[k/64] ||| 2 ^ (k%64))=ws2 at *
    go_wp2_with fail
    go_roundw
    case rel=>exact ⟨k+1,ws2,by omega,by go_num,HN.out,HBN.out⟩
    case measure=>simp [intOf];omega
   ·have d1:decide ((k:Int)<(n:Int))=false:=by simp;omega
    have d1n:decide (k<n)=false:=by simp;omega
    obtain rfl:k=n:=by omega
    clear hh hb hwl
    go_wp2_with fail
    go_ret2
    exact ⟨_,_,_,ws,rfl,half_done HH.out h1 h2,by omega,by omega,by omega,HBr.out⟩
end Go.Proofs.YtdjpjfdeeelijaaGreatDoor
