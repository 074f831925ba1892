/- slices.SortFunc over reservations: its bodies and their types are the shelf's. No conditions. Sorting reservations: what order they are put in, and what a sorted row looks like. No conditions. Maps with strings as keys, whatever their elements: entries in the order of their coming. No function of the program. No conditions. Deleting from a map, and going through one, in .. -/
import Derived.Shelf.SlSortCmp.WholeK
import Derived.Shelf.SlLaysF0
import Derived.Test.YtcmponckjkalaaaGreatPUGM
import Derived.WalkKit
import Derived.Below
import Derived.Maps.Keyed
import Derived.Maps.RangeRun
import Derived.Carry
import Derived.MapKept
import Derived.Maps.RangeWalk
import Derived.Test.YtcmponckjkalaaaGreatPUGH
import Derived.Test.YtcmponckjkalaaaGreatPUGI
namespace Go.Proofs.YtcmponckjkalaaaGreat
section
open Go.ChangeShapes Go.WideShapes Go.ChangeAt Go.RowKit Go.Shelf
attribute [local irreducible] Go.Calls
def Tryz.sortRen:Go.Shelf.Ren:=⟨fun | 6=>94 | 14=>122 | 15=>123 | 20=>154 | 21=>155 | 22=>156 | 23=>157 | 24=>158 | 25=>159 | 26=>160 | 27=>161 | 28=>162 | 29=>163 | 46=>190 | 47=>191 | 48=>192 | 49=>193 | 50=>194 | 57=>213 | n=>n,fun | 0=>0 | 3=>3 | 4=>4 | 5=>5 | 9=>9 | 22=>31 | 24=>50 | 25=>158 | 39=>196 | 45=>224 | 46=>225 | 50=>229 | 53=>44 | 55=>233 | 66=>260 | 70=>264 | 76=>280 | 77=>281 | n=>n,fun n=>n⟩
set_option maxRecDepth 100000 in
theorem Tryz.sortLays:Go.Proofs.SlLaysF0.n6 Tryz.prog Tryz.sortRen:={
 mixed:=by kernel_rfl
 f6:=⟨"slices.SortFunc[[]livery/api.Rsv,livery/api.Rsv]",by decide,Tryz.func94.trans (congrArg some (by kernel_rfl))⟩
 f14:=⟨"slices.pdqsortCmpFunc[livery/api.Rsv]",by decide,Tryz.func122.trans (congrArg some (by kernel_rfl))⟩
 f15:=Tryz.func123.trans (congrArg some (by kernel_rfl))
 f20:=⟨"slices.insertionSortCmpFunc[livery/api.Rsv]",by decide,Tryz.func154.trans (congrArg some (by kernel_rfl))⟩
 f21:=⟨"slices.heapSortCmpFunc[livery/api.Rsv]",by decide,Tryz.func155.trans (congrArg some (by kernel_rfl))⟩
 f22:=⟨"slices.breakPatternsCmpFunc[livery/api.Rsv]",by decide,Tryz.func156.trans (congrArg some (by kernel_rfl))⟩
 f23:=⟨"slices.choosePivotCmpFunc[livery/api.Rsv]",by decide,Tryz.func157.trans (congrArg some (by kernel_rfl))⟩
 f24:=⟨"slices.reverseRangeCmpFunc[livery/api.Rsv]",by decide,Tryz.func158.trans (congrArg some (by kernel_rfl))⟩
 f25:=⟨"slices.partialInsertionSortCmpFunc[livery/api.Rsv]",by decide,Tryz.func159.trans (congrArg some (by kernel_rfl))⟩
 f26:=⟨"slices.partitionEqualCmpFunc[livery/api.Rsv]",by decide,Tryz.func160.trans (congrArg some (by kernel_rfl))⟩
 f27:=⟨"slices.partitionCmpFunc[livery/api.Rsv]",by decide,Tryz.func161.trans (congrArg some (by kernel_rfl))⟩
 f28:=Tryz.func162.trans (congrArg some (by kernel_rfl))
 f29:=Tryz.func163.trans (congrArg some (by kernel_rfl))
 f46:=⟨"slices.siftDownCmpFunc[livery/api.Rsv]",by decide,Tryz.func190.trans (congrArg some (by kernel_rfl))⟩
 f47:=Tryz.func191.trans (congrArg some (by kernel_rfl))
 f48:=Tryz.func192.trans (congrArg some (by kernel_rfl))
 f49:=⟨"slices.medianAdjacentCmpFunc[livery/api.Rsv]",by decide,Tryz.func193.trans (congrArg some (by kernel_rfl))⟩
 f50:=⟨"slices.medianCmpFunc[livery/api.Rsv]",by decide,Tryz.func194.trans (congrArg some (by kernel_rfl))⟩
 f57:=⟨"slices.order2CmpFunc[livery/api.Rsv]",by decide,Tryz.func213.trans (congrArg some (by kernel_rfl))⟩
 t0:=Tryz.underlying0
 a0:=Tryz.isAgg0
 z0:=Tryz.sizeOf0
 v0:=Tryz.zeroValue0
 t3:=Tryz.underlying3
 a3:=Tryz.isAgg3
 z3:=Tryz.sizeOf3
 v3:=Tryz.zeroValue3
 t4:=Tryz.underlying4
 a4:=Tryz.isAgg4
 z4:=Tryz.sizeOf4
 v4:=Tryz.zeroValue4
 t5:=Tryz.underlying5
 a5:=Tryz.isAgg5
 z5:=Tryz.sizeOf5
 v5:=Tryz.zeroValue5
 t9:=Tryz.underlying9
 a9:=Tryz.isAgg9
 z9:=Tryz.sizeOf9
 v9:=Tryz.zeroValue9
 t22:=Tryz.underlying31
 a22:=Tryz.isAgg31
 z22:=Tryz.sizeOf31
 v22:=Tryz.zeroValue31
 t25:=Tryz.underlying158
 a25:=Tryz.isAgg158
 z25:=Tryz.sizeOf158
 v25:=Tryz.zeroValue158
 t39:=Tryz.underlying196
 a39:=Tryz.isAgg196
 z39:=Tryz.sizeOf196
 v39:=Tryz.zeroValue196
 t45:=Tryz.underlying224
 a45:=Tryz.isAgg224
 z45:=Tryz.sizeOf224
 v45:=Tryz.zeroValue224
 t46:=Tryz.underlying225
 a46:=Tryz.isAgg225
 z46:=Tryz.sizeOf225
 v46:=Tryz.zeroValue225
 t50:=Tryz.underlying229
 a50:=Tryz.isAgg229
 z50:=Tryz.sizeOf229
 v50:=Tryz.zeroValue229
 t53:=Tryz.underlying44
 a53:=Tryz.isAgg44
 z53:=Tryz.sizeOf44
 v53:=Tryz.zeroValue44
 t55:=Tryz.underlying233
 a55:=Tryz.isAgg233
 z55:=Tryz.sizeOf233
 v55:=Tryz.zeroValue233
 t66:=Tryz.underlying260
 a66:=Tryz.isAgg260
 z66:=Tryz.sizeOf260
 v66:=Tryz.zeroValue260
 t70:=Tryz.underlying264
 a70:=Tryz.isAgg264
 z70:=Tryz.sizeOf264
 v70:=Tryz.zeroValue264
 t76:=Tryz.underlying280
 a76:=Tryz.isAgg280
 z76:=Tryz.sizeOf280
 v76:=Tryz.zeroValue280
 t77:=Tryz.underlying281
 a77:=Tryz.isAgg281
 z77:=Tryz.sizeOf281
 v77:=Tryz.zeroValue281
 }
end
section
open Go.ChangeShapes Go.WideShapes Go.ChangeAt Go.RowKit Go.Sort
attribute [local irreducible] Go.Calls
theorem cmpU_neg {a b:Int}:cmpU a b<0↔a<b:=by
 unfold cmpU
 split
 ·simp;assumption
 ·split<;>simp<;>omega
theorem cmpU_zero {a b:Int}:cmpU a b=0↔a=b:=by
 unfold cmpU
 split
 ·simp;omega
 ·split<;>simp<;>omega
theorem cmpW_neg {x y:Rw}:cmpW x y<0↔x.seq<y.seq∨(x.seq=y.seq∧x.id<y.id):=by
 unfold cmpW orI
 by_cases h:cmpU x.seq y.seq=0
 ·rw[if_neg (by simpa using h),cmpU_neg]
  have:=cmpU_zero.1 h
  omega
 ·rw[if_pos h,cmpU_neg]
  have:x.seq≠y.seq:=fun e=>h (cmpU_zero.2 e)
  omega
abbrev FRw:={ x:Rw // x.fit }
theorem fit0:rw0.fit:=⟨⟨none,0,0,rfl⟩,⟨none,0,0,rfl⟩,⟨none,0,0,rfl⟩,by simp[rw0,maxLen]⟩
instance:Inhabited FRw:=⟨⟨rw0,fit0⟩⟩
def encF (x:FRw):List Value:=x.1.cells
def cmpF (x y:FRw):Int:=cmpW x.1 y.1
theorem swoF:SWO (ltOf cmpF):=by
 refine ⟨fun x => ?_,fun x y z h1 h2 => ?_,fun x y z h1 h2 => ?_⟩
 ·unfold ltOf cmpF
  rw[decide_eq_false_iff_not,cmpW_neg];omega
 ·unfold ltOf cmpF at *
  rw[decide_eq_true_eq,cmpW_neg] at *
  omega
 ·unfold ltOf cmpF at *
  rw[decide_eq_false_iff_not,cmpW_neg] at *
  omega
theorem encF_one (x:FRw):∀ v∈encF x,v.oneCell'=true:=fun v hv=>by
 have:=cellsRw_one [x.1] (by intro y hy;simp at hy;subst hy;exact x.2) v
 exact this (by simpa [encF,cellsRw] using hv)
def rowsF (d:Array FRw):List Rw:=d.toList.map (·.1)
theorem rowsF_len (d:Array FRw):(rowsF d).length=d.size:=by simp[rowsF]
theorem rowsF_get (d:Array FRw) {i:Nat} (h:i<d.size):(rowsF d).getD i rw0=d[i]!.1:=by
 unfold rowsF
 rw[List.getD_eq_getElem?_getD,List.getElem?_map,Array.getElem?_toList,getElem!_pos d i h]
 simp[h]
theorem flat_cells (d:Array FRw) {j:Nat} (h:j<d.size * 8):(cellsRw (rowsF d))[j]? = some ((flatK encF 8 d)[j]!):=by
 have h1:j / 8<d.size:=by omega
 have e:=cellsRw_get (rowsF d) (j / 8) (j % 8) (by rw[rowsF_len];exact h1) (by omega)
 rw[show j / 8 * 8+j % 8=j from by omega,rowsF_get d h1] at e
 rw[e,get_flatK encF 8 d j h]
 unfold encF
 have:j % 8<(d[j / 8]!).1.cells.length:=by show j % 8<8;omega
 rw[List.getElem?_eq_getElem this,getElem!_pos (d[j / 8]!).1.cells (j % 8) this]
end
section
open Go.ChangeShapes Go.WideShapes Go.MapKept Go.RowKit
open Go.ChangeMaps (setBlock modify_eq_set map_eraseIdx)
open Go.Maps (Keyed)
abbrev kyV (l:List UInt8):Value := .string ⟨l.toArray⟩
abbrev Ent:=List UInt8 × Value
def MapU (w:World) (m:Nat) (U:List Ent):Prop :=
 ∃ (es : Array MapEntry) (clock : Nat), w.heap[m]? = some (.map es clock) ∧ es.toList.map (fun e => (e.key, e.val)) = U.map (fun p => (kyV p.1, p.2)) ∧
   (U.map (·.1)).Nodup∧(es.toList.map (·.born)).Nodup∧(∀ e∈es.toList,e.born<clock)∧∀ p∈U,p.1.length≤maxLen
theorem MapU.lt {w:World} {m:Nat} {U:List Ent} (h:MapU w m U):m<w.heap.size:=by
 obtain ⟨es,clock,h1,_⟩:=h
 exact Nat.lt_of_not_le fun hge=>by rw[Array.getElem?_eq_none hge] at h1;cases h1
theorem MapU.keep {w w':World} {m:Nat} {U:List Ent} (h:MapU w m U) (e:w'.heap[m]? = w.heap[m]?):MapU w' m U:=by
 obtain ⟨es,clock,h1,h2⟩:=h
 exact ⟨es,clock,e.trans h1,h2⟩
theorem MapU.below {w w':World} {m B:Nat} {U:List Ent} (h:MapU w m U) (hb:Below B w w') (hm:m<B):MapU w' m U:=h.keep (hb.block m hm)
theorem MapU.past {w w':World} {m:Nat} {U:List Ent} (h:MapU w m U) (hb:Below w.heap.size w w'):MapU w' m U:=h.below hb h.lt
theorem MapU.alloc {w:World} {m:Nat} {U:List Ent} (h:MapU w m U) (o:Obj):MapU (w.alloc o) m U:=h.keep (Below.heap_alloc w o m h.lt)
theorem MapU.other {w:World} {m:Nat} {U:List Ent} (h:MapU w m U) {b i:Nat} (hb:m≠b) (v:Value):MapU (w.setCell ⟨b,i,none⟩ v) m U:=h.keep (Below.heap_setCell w ⟨b,i,none⟩ v m hb)
theorem MapU.made (w:World):MapU (w.alloc (.map #[] 0)) w.heap.size [] :=
 ⟨#[],0,by show (w.heap.push _)[w.heap.size]? = _;simp,rfl,List.nodup_nil,List.nodup_nil,fun e h=>by simp at h,fun p h=>by simp at h⟩
theorem MapU.nodup {w:World} {m:Nat} {U:List Ent} (h:MapU w m U):(U.map (·.1)).Nodup:=by
 obtain ⟨_,_,_,_,h3,_⟩:=h;exact h3
def idxU (U:List Ent) (k:List UInt8):Option Nat:=U.findIdx? fun p=>p.1 == k
def lookU (U:List Ent) (k:List UInt8) (z:Value):Value:=match idxU U k with
 | some j=>(U.getD j (k,z)).2
 | none=>z
def putU (U:List Ent) (k:List UInt8) (v:Value):List Ent:=match idxU U k with
 | some j=>U.set j (k,v)
 | none=>U++[(k,v)]
def delU (U:List Ent) (k:List UInt8):List Ent:=match idxU U k with
 | some j=>U.eraseIdx j
 | none=>U
theorem idx_none {U:List Ent} {k:List UInt8} (h:∀ p∈U,p.1≠k):idxU U k=none:=by
 unfold idxU
 rw[List.findIdx?_eq_none_iff]
 intro p hp
 simpa using h p hp
theorem idx_some {U:List Ent} {k:List UInt8} {j:Nat} {p:Ent} (hn:(U.map (·.1)).Nodup) (hj:U[j]? = some p) (hp:p.1=k):idxU U k=some j:=by
 unfold idxU
 obtain ⟨hlt,he⟩:=List.getElem?_eq_some_iff.1 hj
 rw[List.findIdx?_eq_some_iff_getElem]
 refine ⟨hlt,by rw[he];simpa using hp,fun i hi => ?_⟩
 have:(U.map (·.1))[i]'(by simp;omega)≠(U.map (·.1))[j]'(by simpa using hlt):=fun e=>by
  have:=(List.getElem_inj hn).1 e
  omega
 simp only[List.getElem_map,he,hp] at this
 simpa using this
section
variable {P:Program}
theorem ent_at {es:Array MapEntry} {U:List Ent} (h:es.toList.map (fun e=>(e.key,e.val))=U.map (fun p=>(kyV p.1,p.2))) (j:Nat):(es.toList[j]?).map (fun e=>(e.key,e.val))=(U[j]?).map (fun p=>(kyV p.1,p.2)):=by
 have:=congrArg (fun l=>l[j]?) h
 simpa using this
theorem ent_get {es:Array MapEntry} {U:List Ent} (h:es.toList.map (fun e=>(e.key,e.val))=U.map (fun p=>(kyV p.1,p.2))) {j:Nat} {e:MapEntry} (he:es.toList[j]? = some e):∃ p,U[j]? = some p∧e.key=kyV p.1∧e.val=p.2:=by
 have:=ent_at h j
 rw[he] at this
 simp only[Option.map_some] at this
 cases hu:U[j]? with
 | none=>rw[hu] at this;cases this
 | some p =>
  rw[hu] at this
  simp only[Option.map_some,Option.some.injEq,Prod.mk.injEq] at this
  exact ⟨p,rfl,this.1,this.2⟩
theorem ent_mem {es:Array MapEntry} {U:List Ent} (h:es.toList.map (fun e=>(e.key,e.val))=U.map (fun p=>(kyV p.1,p.2))) {e:MapEntry} (he:e∈es.toList):∃ p∈U,e.key=kyV p.1∧e.val=p.2:=by
 have:(e.key,e.val)∈es.toList.map (fun e=>(e.key,e.val)):=List.mem_map.2 ⟨e,he,rfl⟩
 rw[h,List.mem_map] at this
 obtain ⟨p,hp,e1⟩:=this
 simp only[Prod.mk.injEq] at e1
 exact ⟨p,hp,e1.1.symm,e1.2.symm⟩
theorem ent_of {es:Array MapEntry} {U:List Ent} (h:es.toList.map (fun e=>(e.key,e.val))=U.map (fun p=>(kyV p.1,p.2))) {p:Ent} (hp:p∈U):∃ e∈es.toList,e.key=kyV p.1∧e.val=p.2:=by
 have:(kyV p.1,p.2)∈U.map (fun p=>(kyV p.1,p.2)):=List.mem_map.2 ⟨p,hp,rfl⟩
 rw[←h,List.mem_map] at this
 obtain ⟨e,he,e1⟩:=this
 simp only[Prod.mk.injEq] at e1
 exact ⟨e,he,e1.1,e1.2⟩
theorem ent_keys {k:TypeId} (hk:P.underlying k=some .string) {es:Array MapEntry} {U:List Ent} (h:es.toList.map (fun e=>(e.key,e.val))=U.map (fun p=>(kyV p.1,p.2))) (hs:∀ p∈U,p.1.length≤maxLen):∀ e∈es.toList,∃ l,keyOf P k e.key=some l:=fun e he=>by
 obtain ⟨p,hp,e1,_⟩:=ent_mem h he
 rw[e1]
 exact ⟨_,WideMaps.keyOf_string_mk hk (s:=⟨p.1.toArray⟩) (by simpa [ByteArray.size] using hs p hp)⟩
theorem find_ent {k:TypeId} (hk:P.underlying k=some .string) (w:World) {es:Array MapEntry} {U:List Ent} (h:es.toList.map (fun e=>(e.key,e.val))=U.map (fun p=>(kyV p.1,p.2))) (hn:(U.map (·.1)).Nodup) (hs:∀ p∈U,p.1.length≤maxLen) {s:List UInt8} (hsz:s.length≤maxLen) :
  ((Instr.findKey k (kyV s) es.toList).run P w = .ok none w∧idxU U s=none∧∀ p∈U,p.1≠s) ∨
  ∃ j e v,(Instr.findKey k (kyV s) es.toList).run P w = .ok (some (j,e.val)) w∧es.toList[j]? = some e∧e.key=kyV s∧idxU U s=some j∧U[j]? = some (s,v)∧e.val=v:=by
 have K:=Maps.string_keyed hk
 have hkey:=WideMaps.keyOf_string_mk hk (s:=⟨s.toArray⟩) (by simpa [ByteArray.size] using hsz)
 rcases K.find w hkey es.toList (ent_keys hk h hs) with ⟨h1,h2⟩ | ⟨j,e,h1,h2,h3⟩
 ·have hno:∀ p∈U,p.1≠s:=fun p hp e0=>by
   obtain ⟨e,he,e1,_⟩:=ent_of h hp
   exact h2 e he (by rw[e1,e0])
  exact .inl ⟨h1,idx_none hno,hno⟩
 ·obtain ⟨p,hp,e1,e2⟩:=ent_get h h2
  have e3:p.1=s:=by rw[e1] at h3;simpa using h3
  exact .inr ⟨j,e,p.2,h1,h2,h3,idx_some hn hp e3,by rw[hp,←e3],e2⟩
theorem MapU.lookup {w:World} {m:Nat} {U:List Ent} (h:MapU w m U) {t k e:TypeId} (hk:P.underlying k=some .string) (ht:P.underlying t=some (.map k e)) {z:Value} (hz:(zeroValue e).run P w = .ok z w) {s:List UInt8} (hsz:s.length≤maxLen) :
  (Instr.lookup t (.map (some m)) (kyV s) false).run P w = .ok (lookU U s z) w:=by
 have K:=Maps.string_keyed hk
 have hkey:=WideMaps.keyOf_string_mk hk (s:=⟨s.toArray⟩) (by simpa [ByteArray.size] using hsz)
 obtain ⟨es,clock,hb,he,hn,_,_,hs⟩:=h
 rcases find_ent hk w he hn hs hsz with ⟨h1,h2,_⟩ | ⟨j,e0,v,h1,_,_,h4,h5,h6⟩
 ·simp[Instr.lookup,run_underlying ht,MapKept.run_getObj_map hb,K.check w _ hkey,h1,hz,Result.andThen,lookU,h2]
 ·simp[Instr.lookup,run_underlying ht,MapKept.run_getObj_map hb,K.check w _ hkey,h1,Result.andThen,lookU,h4,List.getD_eq_getElem?_getD,h5,h6]
theorem MapU.update {w:World} {m:Nat} {U:List Ent} (h:MapU w m U) {t k e:TypeId} (hk:P.underlying k=some .string) (ht:P.underlying t=some (.map k e)) {s:List UInt8} (hsz:s.length≤maxLen) (v:Value) :
  ∃ w',(Instr.mapUpdate t (.map (some m)) (kyV s) v).run P w = .ok () w'∧MapU w' m (putU U s v)∧w.grownBy w' (some m)∧w'.heap.size=w.heap.size:=by
 have K:=Maps.string_keyed hk
 have hkey:=WideMaps.keyOf_string_mk hk (s:=⟨s.toArray⟩) (by simpa [ByteArray.size] using hsz)
 obtain ⟨es,clock,hb,he,hn,hst,hcl,hs⟩:=h
 have hgrow:∀ es' clock',w.grownBy (setBlock w m (.map es' clock')) (some m):=fun es' clock'=>⟨rfl,rfl,rfl,by simp[setBlock],fun i _ hi=>ChangeMaps.heap_setBlock_other hb _ (fun e=>hi (by rw[e]))⟩
 rcases find_ent hk w he hn hs hsz with ⟨h1,h2,h3⟩ | ⟨j,e0,v0,h1,h2,h3,h4,h5,h6⟩
 ·refine ⟨setBlock w m (.map (es.push ⟨kyV s,v,clock⟩) (clock+1)), ?_,⟨_,_,ChangeMaps.heap_setBlock_same hb _, ?_, ?_, ?_, ?_, ?_⟩,hgrow _ _,by simp[setBlock]⟩
  ·simp[Instr.mapUpdate,run_underlying ht,MapKept.run_getObj_map hb,K.check w false hkey,h1,MapKept.run_setObj_map _ hb,Result.andThen,setBlock]
  ·unfold putU;rw[h2];simp[he]
  ·unfold putU;rw[h2]
   simp only[List.map_append,List.map_cons,List.map_nil]
   rw[List.nodup_append]
   refine ⟨hn,by simp,fun a ha b hb' => ?_⟩
   obtain ⟨p,hp,rfl⟩:=List.mem_map.1 ha
   simp at hb'
   subst hb'
   exact h3 p hp
  ·simp only[Array.toList_push,List.map_append,List.map_cons,List.map_nil]
   rw[List.nodup_append]
   refine ⟨hst,by simp,fun a ha b hb' => ?_⟩
   obtain ⟨x,hx,rfl⟩:=List.mem_map.1 ha
   simp at hb'
   subst hb'
   exact Nat.ne_of_lt (hcl x hx)
  ·intro x hx
   simp only[Array.toList_push,List.mem_append,List.mem_singleton] at hx
   rcases hx with hx | rfl
   ·have:=hcl x hx;omega
   ·simp
  ·intro p hp
   unfold putU at hp;rw[h2] at hp
   simp only[List.mem_append,List.mem_singleton] at hp
   rcases hp with hp | rfl
   ·exact hs p hp
   ·exact hsz
 ·have hj:es[j]? = some e0:=by simpa using h2
  have hlist:(es.modify j (fun e'=>{ e' with key:=kyV s,val:=v })).toList=es.toList.set j { e0 with key:=kyV s,val:=v }:=by rw[Array.toList_modify,modify_eq_set _ _ _ _ h2]
  have hb1:(es.toList.set j { e0 with key:=kyV s,val:=v }).map (·.born)=es.toList.map (·.born):=by
   rw[List.map_set]
   have:(es.toList.map (·.born))[j]? = some e0.born:=by rw[List.getElem?_map,h2];rfl
   obtain ⟨hlt,hg⟩:=List.getElem?_eq_some_iff.1 this
   show (es.toList.map (·.born)).set j e0.born=_
   rw[←hg,List.set_getElem_self]
  refine ⟨setBlock w m (.map (es.modify j (fun e'=>{ e' with key:=kyV s,val:=v })) clock), ?_,⟨_,_,ChangeMaps.heap_setBlock_same hb _, ?_, ?_, ?_, ?_, ?_⟩,hgrow _ _,by simp[setBlock]⟩
  ·simp[Instr.mapUpdate,run_underlying ht,MapKept.run_getObj_map hb,K.check w false hkey,h1,hj,h3,K.stays w hkey,MapKept.run_setObj_map _ hb,Result.andThen,setBlock]
  ·unfold putU;rw[h4,hlist,List.map_set,List.map_set,he]
  ·unfold putU;rw[h4,List.map_set]
   have:(U.map (·.1))[j]? = some s:=by rw[List.getElem?_map,h5];rfl
   obtain ⟨hlt,hg⟩:=List.getElem?_eq_some_iff.1 this
   show ((U.map (·.1)).set j s).Nodup
   rw[←hg,List.set_getElem_self];exact hn
  ·rw[hlist,hb1];exact hst
  ·intro x hx
   rw[hlist] at hx
   have:x.born∈es.toList.map (·.born):=by rw[←hb1];exact List.mem_map.2 ⟨x,hx,rfl⟩
   obtain ⟨y,hy,ey⟩:=List.mem_map.1 this
   rw[←ey];exact hcl y hy
  ·intro p hp
   unfold putU at hp;rw[h4] at hp
   rcases List.mem_or_eq_of_mem_set hp with hp | rfl
   ·exact hs p hp
   ·exact hsz
end
end
section
open Go.ChangeShapes Go.WideShapes Go.MapKept Go.RowKit
open Go.ChangeMaps (setBlock modify_eq_set map_eraseIdx)
open Go.Maps (Keyed)
section
variable {P:Program}
theorem MapU.delete {w:World} {m:Nat} {U:List Ent} (h:MapU w m U) {t k e:TypeId} (ty:TypeId) (hk:P.underlying k=some .string) (ht:P.underlying t=some (.map k e)) {s:List UInt8} (hsz:s.length≤maxLen) :
  ∃ w',(Builtin.delete_ #[t,k] ty #[.map (some m),kyV s]).run P w = .ok (.tuple #[]) w'∧MapU w' m (delU U s)∧w.grownBy w' (some m)∧w'.heap.size=w.heap.size:=by
 have K:=Maps.string_keyed hk
 have hkey:=WideMaps.keyOf_string_mk hk (s:=⟨s.toArray⟩) (by simpa [ByteArray.size] using hsz)
 obtain ⟨es,clock,hb,he,hn,hst,hcl,hs⟩:=h
 have hgrow:∀ es' clock',w.grownBy (setBlock w m (.map es' clock')) (some m):=fun es' clock'=>⟨rfl,rfl,rfl,by simp[setBlock],fun i _ hi=>ChangeMaps.heap_setBlock_other hb _ (fun e=>hi (by rw[e]))⟩
 rcases find_ent hk w he hn hs hsz with ⟨h1,h2,_⟩ | ⟨j,e0,v0,h1,h2,h3,h4,h5,h6⟩
 ·refine ⟨setBlock w m (.map es clock), ?_,⟨es,clock,ChangeMaps.heap_setBlock_same hb _, ?_, ?_,hst,hcl, ?_⟩,hgrow _ _,by simp[setBlock]⟩
  ·simp[Builtin.delete_,run_underlying ht,MapKept.run_getObj_map hb,K.check w _ hkey,h1,MapKept.run_setObj_map _ hb,Result.andThen,setBlock]
  ·unfold delU;rw[h2];exact he
  ·unfold delU;rw[h2];exact hn
  ·unfold delU;rw[h2];exact hs
 ·have hjl:j<es.toList.length:=(List.getElem?_eq_some_iff.1 h2).1
  have hjs:j<es.size:=by simpa using hjl
  have hsub:(es.eraseIdxIfInBounds j).toList=es.toList.eraseIdx j:=by
   unfold Array.eraseIdxIfInBounds
   rw[dif_pos hjs]
   simp
  refine ⟨setBlock w m (.map (es.eraseIdxIfInBounds j) clock), ?_,⟨_,clock,ChangeMaps.heap_setBlock_same hb _, ?_, ?_, ?_, ?_, ?_⟩,hgrow _ _,by simp[setBlock]⟩
  ·simp[Builtin.delete_,run_underlying ht,MapKept.run_getObj_map hb,K.check w _ hkey,h1,MapKept.run_setObj_map _ hb,Result.andThen,setBlock]
  ·unfold delU;rw[h4,hsub,map_eraseIdx,map_eraseIdx,he]
  ·unfold delU;rw[h4,map_eraseIdx];exact hn.sublist (List.eraseIdx_sublist _ _)
  ·rw[hsub,map_eraseIdx];exact hst.sublist (List.eraseIdx_sublist _ _)
  ·intro x hx;rw[hsub] at hx;exact hcl x ((List.eraseIdx_sublist _ _).subset hx)
  ·intro p hp;unfold delU at hp;rw[h4] at hp;exact hs p ((List.eraseIdx_sublist _ _).subset hp)
def RngU (w:World) (it m:Nat) (U done:List Ent):Prop :=
 ∃ (es : Array MapEntry) (clock since : Nat) (seen : Array Nat) (c0 : Nat), w.heap[m]? = some (.map es clock) ∧ es.toList.map (fun e => (e.key, e.val)) = U.map (fun p => (kyV p.1, p.2)) ∧
   (U.map (·.1)).Nodup∧(es.toList.map (·.born)).Nodup∧(∀ e∈es.toList,e.born<clock)∧(∀ p∈U,p.1.length≤maxLen) ∧
   w.heap[it]? = some (.mapIter (some m) since seen c0)∧(∀ e∈es.toList,e.born<since)∧since≤c0∧since≤clock ∧
   ∃ ds:List MapEntry,seen.toList=ds.map (·.born)∧(∀ d∈ds,d∈es.toList)∧ds.Nodup∧ds.map (fun e=>(e.key,e.val))=done.map (fun p=>(kyV p.1,p.2))
theorem RngU.map {w:World} {it m:Nat} {U done:List Ent} (h:RngU w it m U done):MapU w m U:=by
 obtain ⟨es,clock,_,_,_,h1,h2,h3,h4,h5,h6,_⟩:=h
 exact ⟨es,clock,h1,h2,h3,h4,h5,h6⟩
theorem RngU.ne {w:World} {it m:Nat} {U done:List Ent} (h:RngU w it m U done):it≠m:=by
 obtain ⟨es,clock,_,_,_,h1,_,_,_,_,_,h2,_⟩:=h
 intro e
 rw[e,h1] at h2;cases h2
theorem RngU.lt {w:World} {it m:Nat} {U done:List Ent} (h:RngU w it m U done):it<w.heap.size:=by
 obtain ⟨es,clock,_,_,_,_,_,_,_,_,_,h2,_⟩:=h
 exact Nat.lt_of_not_le fun hge=>by rw[Array.getElem?_eq_none hge] at h2;cases h2
theorem RngU.keep {w w':World} {it m:Nat} {U done:List Ent} (h:RngU w it m U done) (e:w'.heap[m]? = w.heap[m]?) (e2:w'.heap[it]? = w.heap[it]?):RngU w' it m U done:=by
 obtain ⟨es,clock,since,seen,c0,h1,h2,h3,h4,h5,h6,h7,h8⟩:=h
 exact ⟨es,clock,since,seen,c0,e.trans h1,h2,h3,h4,h5,h6,e2.trans h7,h8⟩
theorem RngU.past {w w':World} {it m:Nat} {U done:List Ent} (h:RngU w it m U done) (hb:Below w.heap.size w w'):RngU w' it m U done:=h.keep (hb.block m h.map.lt) (hb.block it h.lt)
theorem kyV_inj {a b:List UInt8} (h:kyV a=kyV b):a=b:=by simpa using h
theorem born_nodup {es:List MapEntry} (h:(es.map (·.born)).Nodup):es.Nodup:=List.Pairwise.of_map (S:=fun a b=>a≠b) MapEntry.born (fun a b h e=>h (by rw[e])) h
theorem nodup_sub {α:Type}:∀ {a b:List α},a.Nodup→(∀ x∈a,x∈b)→∃ c,(a++c).Perm b
 | [],b,_,_=>⟨b,List.Perm.refl _⟩
 | x :: a, b, h, hs => by
   rw[List.nodup_cons] at h
   obtain ⟨s,t,rfl⟩:=List.append_of_mem (hs x (List.mem_cons_self ..))
   have hst:∀ y∈a,y∈s++t:=fun y hy=>by
    have:=hs y (List.mem_cons_of_mem _ hy)
    rcases List.mem_append.1 this with h1 | h1
    ·exact List.mem_append_left _ h1
    ·rcases List.mem_cons.1 h1 with h2 | h2
     ·subst h2;exact absurd hy h.1
     ·exact List.mem_append_right _ h2
   obtain ⟨c,hc⟩:=nodup_sub h.2 hst
   exact ⟨c,(hc.cons x).trans List.perm_middle.symm⟩
theorem nodup_len {α:Type} {a b:List α} (h:a.Nodup) (hs:∀ x∈a,x∈b):a.length≤b.length:=by
 obtain ⟨c,hc⟩:=nodup_sub h hs
 have:=hc.length_eq
 simp at this
 omega
theorem born_inj {es:List MapEntry} (h:(es.map (·.born)).Nodup) {x y:MapEntry} (hx:x∈es) (hy:y∈es) (e:x.born=y.born):x=y:=by
 obtain ⟨i,hi,rfl⟩:=List.getElem_of_mem hx
 obtain ⟨j,hj,rfl⟩:=List.getElem_of_mem hy
 have:(es.map (·.born))[i]'(by simpa using hi)=(es.map (·.born))[j]'(by simpa using hj):=by simpa using e
 have:=(List.getElem_inj h).1 this
 subst this;rfl
theorem RngU.next {w:World} {it m:Nat} {U done:List Ent} (h:RngU w it m U done) (ty:TypeId) :
  (done.Perm U∧(Instr.next (.pointer (some ⟨it,0,none⟩)) false ty).run P w = .ok (.tuple #[.bool false]) w) ∨
  ∃ p w', p ∈ U ∧ done.length < U.length ∧ (Instr.next (.pointer (some ⟨it, 0, none⟩)) false ty).run P w = .ok (.tuple #[.bool true, kyV p.1, p.2]) w' ∧ RngU w' it m U (done ++ [p]) ∧ w.grownBy w' (some it) ∧ w'.heap.size = w.heap.size ∧
    (Instr.entry (.pointer (some ⟨it,0,none⟩))).run P w' = .ok (.tuple #[kyV p.1,p.2]) w':=by
 have hne:=h.ne
 obtain ⟨es,clock,since,seen,c0,hb,he,hn,hst,hcl,hs,hr,hold,hsc,hsk,ds,hseen,hds,hdn,hde⟩:=h
 have hsub:ds.length≤es.toList.length:=nodup_len hdn hds
 have hlenU:es.toList.length=U.length:=by have:=congrArg List.length he;simpa using this
 have hlenD:ds.length=done.length:=by have:=congrArg List.length hde;simpa using this
 have hmem:∀ x∈es.toList,seen.contains x.born=true→x∈ds:=fun x hx hc=>by
  have:x.born∈seen.toList:=by simpa using hc
  rw[hseen] at this
  obtain ⟨d,hd,ed⟩:=List.mem_map.1 this
  rw[born_inj hst hx (hds d hd) ed.symm];exact hd
 rcases run_next_at (P:=P) w ty it m since c0 seen es clock hr hb hold hsc with ⟨h0,hrun⟩ | ⟨e,hel,w1,hal,hrun⟩
 ·refine .inl ⟨?_,hrun⟩
  have hall:∀ x∈es.toList,x∈ds:=fun x hx=>hmem x hx (by
   cases hc:seen.contains x.born
   ·exfalso
    have:x∈(leftOf es seen).toList:=by
     unfold leftOf
     rw[Array.mem_toList_iff,Array.mem_filter]
     exact ⟨by simpa using hx,by rw[hc];rfl⟩
    have e0:leftOf es seen=#[]:=Array.eq_empty_of_size_eq_zero h0
    rw[e0] at this;simp at this
   ·rfl)
  have hp:ds.Perm es.toList:=by
   obtain ⟨c,hc⟩:=nodup_sub hdn hds
   have h1:=hc.length_eq
   have h2:=nodup_len (born_nodup hst) hall
   have:c=[]:=List.eq_nil_of_length_eq_zero (by simp at h1;simp at h2;omega)
   rw[this,List.append_nil] at hc
   exact hc
  have hp2:=hp.map (fun e=>(e.key,e.val))
  rw[he,hde] at hp2
  have key:∀ (A B:List Ent),(A.map (fun p=>(kyV p.1,p.2))).Perm (B.map (fun p=>(kyV p.1,p.2)))→A.Perm B:=fun A B hAB=>by
   have hf:∀ x y:Ent,(kyV x.1,x.2)=(kyV y.1,y.2)→x=y:=fun x y e=>by
    simp only[Prod.mk.injEq] at e
    exact Prod.ext (kyV_inj e.1) e.2
   let g:Value × Value→Ent:=fun q=>(match q.1 with | .string s=>s.data.toList | _=>[],q.2)
   have hg:∀ l:List Ent,(l.map (fun p=>(kyV p.1,p.2))).map g=l:=fun l=>by
    rw[List.map_map]
    conv=>rhs;rw[←List.map_id l]
    apply List.map_congr_left
    intro x _
    simp[g]
   have:=hAB.map g
   rwa [hg,hg] at this
  exact key _ _ hp2
 ·obtain ⟨hem,hes⟩:=mem_left hel
  obtain ⟨p,hp,ek,ev⟩:=ent_mem he hem
  have hr1:w1.heap[it]? = some (.mapIter (some m) since seen c0):=by rcases hal with rfl | rfl<;>exact hr
  have hb1:w1.heap[m]? = some (.map es clock):=by rcases hal with rfl | rfl<;>exact hb
  have hset:∀ o',(setBlock w1 it o').heap[it]? = some o'∧∀ i,i≠it→(setBlock w1 it o').heap[i]? = w1.heap[i]? := fun o'=>by
   have hlt:it<w1.heap.size:=Nat.lt_of_not_le fun hge=>by rw[Array.getElem?_eq_none hge] at hr1;cases hr1
   unfold setBlock
   exact ⟨by simp[hlt],fun i hi=>by simp[Ne.symm hi]⟩
  have hnd:e ∉ ds:=fun hd=>by
   have:e.born∈seen.toList:=by rw[hseen];exact List.mem_map.2 ⟨e,hd,rfl⟩
   have:seen.contains e.born=true:=by simpa using this
   rw[this] at hes;cases hes
  have hds':∀ d∈ds++[e],d∈es.toList:=fun d hd=>by
   rcases List.mem_append.1 hd with hd | hd
   ·exact hds d hd
   ·simp at hd;subst hd;exact hem
  have hdn':(ds++[e]).Nodup:=by
   rw[List.nodup_append]
   exact ⟨hdn,by simp,fun a ha b hb'=>by simp at hb';subst hb';intro e1;subst e1;exact hnd ha⟩
  have hlen:=nodup_len hdn' hds'
  have hb':=((hset (.mapIter (some m) since (seen.push e.born) clock)).2 m hne.symm).trans hb1
  refine .inr ⟨p,_,hp,by simp at hlen;simp at hlenU;omega,by rw[hrun,ek,ev],⟨es,clock,since,seen.push e.born,clock,hb',he,hn,hst,hcl,hs,(hset _).1,hold,hsk,hsk,ds++[e],by simp[hseen],hds',hdn',by simp[hde,ek,ev]⟩, ?_, ?_, ?_⟩
  ·rcases hal with rfl | rfl<;>exact ⟨rfl,rfl,rfl,by simp[setBlock],fun i _ hi=>(hset _).2 i (fun e1=>hi (by rw[e1]))⟩
  ·rcases hal with rfl | rfl<;>simp[setBlock]
  ·rw[run_entry_at _ it m since seen es clock e (hset _).1 hb' hem hst,ek,ev]
end
end
section
open Go.ChangeShapes Go.WideShapes Go.MapKept Go.RowKit
section
variable {P:Program} {ops:Array Oper} {rest:List Oper} {o:Oper} {a:Act} {w:World} {Q:Exit→Act→World→Prop}
theorem MapU.begin {m:Nat} {U:List Ent} (h:MapU w m U) {t k e:TypeId} (ht:P.underlying t=some (.map k e)) :
  ∃ w',(Instr.range t (.map (some m))).run P w = .ok (.pointer (some ⟨w.heap.size,0,none⟩)) w'∧RngU w' w.heap.size m U []∧w.grownBy w' none∧w'.heap.size=w.heap.size+1:=by
 have hlt:=h.lt
 obtain ⟨es,clock,hb,h2,h3,h4,h5,h6⟩:=h
 exact ⟨_,run_range_map w t k e m es clock ht hb,⟨es,clock,clock,#[],clock,((MapKept.heap_alloc w _).2 m hlt).trans hb,h2,h3,h4,h5,h6,(MapKept.heap_alloc w _).1,h5,Nat.le_refl _,Nat.le_refl _,[],rfl,by simp,List.nodup_nil,rfl⟩,World.grownBy_alloc w _ none,by simp⟩
theorem list_range_U (hg:o.guard=none) (mo:Operand) (t k e:TypeId) (hop:o.op=Op.range t mo) (ht:P.underlying t=some (.map k e)) {m:Nat} {U:List Ent} (hm:a.eval mo = .map (some m)) (hU:MapU w m U)
  (hK:∀ w',RngU w' w.heap.size m U []→w.grownBy w' none→w'.heap.size=w.heap.size+1→wpList P ops Q rest (a.put o.dst (.pointer (some ⟨w.heap.size,0,none⟩))) w'):wpList P ops Q (o :: rest) a w:=by
 refine wpList_plain hg fun K' hK' => ?_
 obtain ⟨w',hrun,r1,r2,r3⟩:=hU.begin ht
 unfold Oper.wp
 simp[execOp,hop,hm,hrun,Result.andThen]
 exact hK' _ _ (hK w' r1 r2 r3)
theorem list_next_U (hg:o.guard=none) (it:Operand) (hop:o.op=Op.next it false) {r m:Nat} {U done:List Ent} (hit:a.eval it = .pointer (some ⟨r,0,none⟩)) (h:RngU w r m U done)
  (hDone:done.Perm U→wpList P ops Q rest (a.put o.dst (.tuple #[.bool false])) w)
  (hMore:∀ (p:Ent) (w':World),p∈U→done.length<U.length→RngU w' r m U (done++[p])→w.grownBy w' (some r)→w'.heap.size=w.heap.size→(Instr.entry (.pointer (some ⟨r,0,none⟩))).run P w' = .ok (.tuple #[kyV p.1,p.2]) w' →
   wpList P ops Q rest (a.put o.dst (.tuple #[.bool true,kyV p.1,p.2])) w'):wpList P ops Q (o :: rest) a w:=by
 refine wpList_plain hg fun K' hK' => ?_
 unfold Oper.wp
 rcases h.next (P:=P) o.type with ⟨hp,hrun⟩ | ⟨p,w',h1,h2,hrun,h3,h4,h5,h6⟩
 ·simp[execOp,hop,hit,hrun,Result.andThen]
  exact hK' _ _ (hDone hp)
 ·simp[execOp,hop,hit,hrun,Result.andThen]
  exact hK' _ _ (hMore p w' h1 h2 h3 h4 h5 h6)
end
def seenN (w:World) (it:Nat):Nat:=match w.heap[it]? with
 | some (.mapIter _ _ seen _)=>seen.size
 | _=>0
theorem RngU.seen {w:World} {it m:Nat} {U done:List Ent} (h:RngU w it m U done):seenN w it=done.length:=by
 obtain ⟨es,clock,since,seen,c0,_,_,_,_,_,_,h7,_,_,_,ds,h8,_,_,h9⟩:=h
 unfold seenN
 rw[h7]
 show seen.size=_
 have e1:=congrArg List.length h8
 have e2:=congrArg List.length h9
 simp at e1 e2
 omega
def vlen:Value→Nat
 | .slice _ n _=>n
 | _=>0
def lenU:List Ent→Nat
 | []=>0
 | p :: r=>vlen p.2+lenU r
theorem lenU_app:∀ A B,lenU (A++B)=lenU A+lenU B
 | [],B=>by simp[lenU]
 | p :: A,B=>by simp only[List.cons_append,lenU,lenU_app A B];omega
theorem lenU_perm {A B:List Ent} (h:A.Perm B):lenU A=lenU B:=by
 induction h with
 | nil=>rfl
 | cons x _ ih=>simp only[lenU,ih]
 | swap x y l=>simp only[lenU];omega
 | trans _ _ h1 h2=>exact h1.trans h2
theorem RngU.part {w:World} {it m:Nat} {U done:List Ent} (h:RngU w it m U done):∃ C,(done++C).Perm U:=by
 obtain ⟨es,clock,since,seen,c0,_,he,_,_,_,_,_,_,_,_,ds,_,hds,hdn,hde⟩:=h
 obtain ⟨c,hc⟩:=nodup_sub hdn hds
 have hp:=hc.map (fun e=>(e.key,e.val))
 rw[he,List.map_append,hde] at hp
 let g:Value × Value→Ent:=fun q=>(match q.1 with | .string s=>s.data.toList | _=>[],q.2)
 have hg:∀ l:List Ent,(l.map (fun p=>(kyV p.1,p.2))).map g=l:=fun l=>by
  rw[List.map_map]
  conv=>rhs;rw[←List.map_id l]
  apply List.map_congr_left
  intro x _
  simp[g]
 have h2:=hp.map g
 rw[List.map_append,hg,hg] at h2
 exact ⟨_,h2⟩
theorem RngU.sum_le {w:World} {it m:Nat} {U done:List Ent} (h:RngU w it m U done):lenU done≤lenU U:=by
 obtain ⟨C,hC⟩:=h.part
 rw[←lenU_perm hC,lenU_app];omega
end
section
open Go.ChangeShapes Go.WideShapes Go.ChangeAt Go.RowKit
attribute [local irreducible] Go.Calls
abbrev ctV (vc:Value) (m:Nat):Value := .agg #[vc,.map (some m)]
set_option maxRecDepth 100000 in
theorem count_c {m:Nat} {U:List Ent} (vc:Value) (w:World) (hU:MapU w m U) (hs:∀ p∈U,∃ a n c,p.2 = .slice a n c) (hn:lenU U≤1000000000000) :
  Calls Tryz.prog 165 #[ctV vc m] w fun e w'=>e = .returned (.int .i64 (lenU U))∧Below w.heap.size w w':=by
 obtain ⟨w0,hw0⟩:∃ w0,w0=w.alloc (Obj.cells #[vc,.map (some m)] 104):=⟨_,rfl⟩
 have B1:Blk w0 w.heap.size #[vc,.map (some m)] 104:=by rw[hw0];exact Blk.made _ _ _
 have hb0:Below w.heap.size w w0:=by rw[hw0];(repeat (first | exact Below.refl _ _ | assumption | refine balloc ?_ _ | refine below_drewN ?_ _ | refine bstep (by assumption) ?_ | refine bstep (Past.prop _) ?_ | refine Below.setCell ?_ (by first | exact Nat.le_refl _ | (simp;done) | (simp;omega)) _))
 have hU0:MapU w0 m U:=by rw[hw0];exact hU.alloc _
 have hz0:w0.heap.size=w.heap.size+1:=by rw[hw0];simp
 have HS:=hidE hs;have HU:=hidE hU0;have HN:=hidE hn
 clear hU hs hU0 hn
 go_enter Tryz.func165,Tryz.ntmps165
 go_upto_region 1 with fail
 rw[←hw0]
 clear hw0
 have b1:=B1.cell 1;have bz:=B1.lt
 simp at b1
 clear B1
 go_upto_region 2 with fail
 go_wp2_with (at_range;refine list_range_U rfl _ 102 9 31 rfl Tryz.underlying102 rfl HU.out ?_;intro w1 hr1 hg1 hz1)
 go_frame
 have hb1:Below w.heap.size w w1:=Below.grown hb0 hg1 hb0.size (fun k e=>by cases e)
 rw[hz0] at hr1
 have hge:w.heap.size≤w.heap.size+1:=by omega
 rw[hz0]
 clear hb0 hg1 hz1 HU b1 bz hz0 w0
 go_loopw [3] (fun s wr=>∃ done,s = .int .i64 (lenU done)∧RngU wr (w.heap.size+1) m U done∧Below w.heap.size w wr) (fun _ wr=>U.length - seenN wr (w.heap.size+1))
 case atStart=>exact ⟨[],rfl,hr1,hb1⟩
 case round =>
  obtain ⟨done,rfl,hrg,hb⟩:=hrel
  go_wp2_with (at_next;refine list_next_U rfl _ rfl rfl hrg ?_ ?_)
  ·intro hp
   have E:=hidE (lenU_perm hp)
   clear hp
   go_wp2
   go_ret
   exact ⟨by rw[←E.out];rfl,hb⟩
  ·intro pk pv w2 hpU hlt hrg2 hg2 hz2 hen
   obtain ⟨a,n,c,e⟩:=HS.out (pk,pv) hpU
   simp only at e
   subst e
   have hl2:=hrg2.sum_le
   have hll:lenU (done++[(pk,Value.slice a n c)])=lenU done+n:=by rw[lenU_app];rfl
   have hN:=HN.out
   have hsm:lenU done+n≤1000000000000:=by omega
   have hb2:Below w.heap.size w w2:=Below.grown hb hg2 hb.size (fun k e=>by cases e;omega)
   have hm1:=hrg.seen
   have hm2:=hrg2.seen
   rw[List.length_append,List.length_singleton] at hm2
   have HL:=hidE hll
   clear hg2 hpU HS HN hb hrg hll
   go_wp2
   exact ⟨⟨_,by rw[HL.out];go_num,hrg2,hb2⟩,by rw[hm1,hm2];omega⟩
def RowsOk (w:World) (U:List Ent) (rows:List UInt8→List Rw):Prop:=∀ p∈U,SliRw w p.2 (rows p.1)
theorem RowsOk.past {w w':World} {U:List Ent} {rows:List UInt8→List Rw} (h:RowsOk w U rows) (hb:Below w.heap.size w w'):RowsOk w' U rows:=fun p hp=>(h p hp).past hb
abbrev rvZ:Value := .agg #[.int .u32 0,.int .u32 0,.string ⟨#[]⟩,.int .i64 0,.int .i64 0,.slice none 0 0,.slice none 0 0,.slice none 0 0]
def FindIs (w:World) (U:List Ent) (rows:List UInt8→List Rw) (id:Int) (e:Ending) (w':World):Prop:=Below w.heap.size w w' ∧
 ((∃ p∈U,∃ x∈rows p.1,x.id=id∧e = .returned (.tuple #[rwV x,.bool true]))∨((∀ p∈U,∀ x∈rows p.1,x.id≠id)∧e = .returned (.tuple #[rvZ,.bool false])))
theorem getD_memRw {l:List Rw} {k:Nat} (h:k<l.length):l.getD k rw0∈l:=by
 rw[List.getD_eq_getElem?_getD,List.getElem?_eq_getElem h];exact List.getElem_mem h
set_option maxRecDepth 100000 in
set_option maxHeartbeats 4000000 in
theorem find_c {m:Nat} {U:List Ent} {rows:List UInt8→List Rw} (vc:Value) (id:Int) (w:World) (hU:MapU w m U) (hR:RowsOk w U rows) (hl:∀ p∈U,(rows p.1).length≤1000000) :
  Calls Tryz.prog 64 #[ctV vc m,.int .u32 id] w (FindIs w U rows id):=by
 obtain ⟨w0,hw0⟩:∃ w0,w0=(w.alloc (Obj.cells #[vc,.map (some m)] 104)).alloc (Obj.cells #[.int .u32 0,.int .u32 0,.string ⟨#[]⟩,.int .i64 0,.int .i64 0,.slice none 0 0,.slice none 0 0,.slice none 0 0] 50):=⟨_,rfl⟩
 have B1:Blk w0 w.heap.size #[vc,.map (some m)] 104:=by rw[hw0];exact (Blk.made _ _ _).alloc _
 have B2:Blk w0 (w.heap.size+1) #[.int .u32 0,.int .u32 0,.string ⟨#[]⟩,.int .i64 0,.int .i64 0,.slice none 0 0,.slice none 0 0,.slice none 0 0] 50:=by rw[hw0];exact Blk.made_at _ _ _ _ (by simp)
 have hb0:Below w.heap.size w w0:=by rw[hw0];(repeat (first | exact Below.refl _ _ | assumption | refine balloc ?_ _ | refine below_drewN ?_ _ | refine bstep (by assumption) ?_ | refine bstep (Past.prop _) ?_ | refine Below.setCell ?_ (by first | exact Nat.le_refl _ | (simp;done) | (simp;omega)) _))
 have hU0:MapU w0 m U:=by rw[hw0];exact (hU.alloc _).alloc _
 have hz0:w0.heap.size=w.heap.size+1+1:=by rw[hw0];simp
 have HR:=hidE hR;have HU:=hidE hU0;have HL:=hidE hl;have HB2:=hidE B2
 clear hU hR hU0 hl B2
 go_enter Tryz.func64,Tryz.ntmps64
 go_upto_region 1 with fail
 rw[←hw0]
 clear hw0
 have b1:=B1.cell 1;have bz:=B1.lt
 simp at b1
 clear B1
 go_wp2_with (at_range;refine list_range_U rfl _ 102 9 31 rfl Tryz.underlying102 rfl HU.out ?_;intro w1 hr1 hg1 hz1)
 go_frame
 have hb1:Below w.heap.size w w1:=Below.grown hb0 hg1 hb0.size (fun k e=>by cases e)
 have HB3:=hidE (HB2.out.grown hg1 (by simp))
 rw[hz0] at hr1
 rw[hz0]
 clear hb0 hg1 hz1 HU b1 bz hz0 HB2 w0
 go_loopw [13] (fun _ wr=>∃ done,RngU wr (w.heap.size+1+1) m U done∧Below w.heap.size w wr∧Blk wr (w.heap.size+1) #[.int .u32 0,.int .u32 0,.string ⟨#[]⟩,.int .i64 0,.int .i64 0,.slice none 0 0,.slice none 0 0,.slice none 0 0] 50∧∀ p∈done,∀ x∈rows p.1,x.id≠id) (fun _ wr=>U.length - seenN wr (w.heap.size+1+1))
 case atStart=>exact ⟨[],hr1,hb1,HB3.out,fun p hp=>by simp at hp⟩
 case round =>
  obtain ⟨done,hrg,hb,hB,hno⟩:=hrel
  have HB:=hidE hB;have HNO:=hidE hno
  clear hB hno HB3 hr1 hb1
  go_wp2_with (at_next;refine list_next_U rfl _ rfl rfl hrg ?_ ?_)
  ·intro hp
   have hall:∀ p∈U,∀ x∈rows p.1,x.id≠id:=fun p hpU=>HNO.out p (hp.mem_iff.2 hpU)
   have HALL:=hidE hall
   have hBr:=HB.out
   have b0:=hBr.cell 0;have b1:=hBr.cell 1;have b2:=hBr.cell 2;have b3:=hBr.cell 3;have b4:=hBr.cell 4;have b5:=hBr.cell 5;have b6:=hBr.cell 6;have b7:=hBr.cell 7;have bf:=hBr.free;have bz:=hBr.lt
   simp at b0 b1 b2 b3 b4 b5 b6 b7
   clear hp hall HNO hBr
   go_wp2
   refine bodyPost_ret (v := .tuple #[rvZ,.bool false]) (by simp[results,Tryz.results64,go_sem,b0,b1,b2,b3,b4,b5,b6,b7]) rfl ⟨below_eight hb (by omega) _ _ _ _ _ _ _ _,.inr ⟨HALL.out,rfl⟩⟩
  ·intro pk pv w2 hpU hlt hrg2 hg2 hz2 hen
   have hb2:Below w.heap.size w w2:=Below.grown hb hg2 hb.size (fun k e=>by cases e;omega)
   have HB2:=hidE (HB.out.grown hg2 (by simp))
   have HR2:=hidE (HR.out.past hb2 (pk,pv) hpU)
   have hln:=HL.out (pk,pv) hpU
   have hm1:=hrg.seen
   have hm2:=hrg2.seen
   rw[List.length_append,List.length_singleton] at hm2
   simp only at hln
   have HPU:=hidE hpU
   have HMS:=hidE (show U.length - seenN w2 (w.heap.size+1+1)<U.length - seenN wr (w.heap.size+1+1) from by rw[hm1,hm2];omega)
   obtain ⟨av,cp,ev,hc1,hc2,hc3,hc4,hc5⟩:=HR2.out
   simp only at ev hc1 hc3 hc4 hc5
   subst ev
   have HC4:=hidE hc4
   have HFIT:=hidE hc5
   have HMEM:=hidE (fun k (h:k<(rows pk).length)=>getD_memRw h)
   have HEX:=hidE (fun x (h:x∈rows pk) (e:x.id=id)=>show ∃ p∈U,∃ y∈rows p.1,y.id=id∧y=x from ⟨_,HPU.out,x,h,e,rfl⟩)
   have HFIN:=hidE (fun (h:∀ x∈rows pk,x.id≠id)=>show ∀ p∈done++[(pk,Value.slice av (rows pk).length cp)],∀ x∈rows p.1,x.id≠id from fun p hp=>by
    rcases List.mem_append.1 hp with hp | hp
    ·exact HNO.out p hp
    ·simp only[List.mem_singleton] at hp
     subst hp;exact h)
   have HB2r:=hidE hb2;have HRG:=hidE hrg2
   have hz2:=HB2.out.lt
   clear hg2 hrg hb hm1 hm2 hlt hc3 hc4 hc5 HL HB HR2 hb2 hrg2 HNO HPU hpU HR
   generalize rows pk=l at *
   go_upto_region 5 with fail
   go_loopw [19] (fun s wr=>∃ k:Nat,s = .int .i64 k∧k≤l.length∧Below w2.heap.size w2 wr∧∀ j,j<k→(l.getD j rw0).id≠id) (fun s _=>l.length - (intOf s).toNat)
   case atStart=>exact ⟨0,rfl,Nat.zero_le _,Below.refl _ _,fun j hj=>by omega⟩
   case round =>
    obtain ⟨k,rfl,hk,hbv,hs⟩:=hrel
    have HS:=hidE hs;clear hs
    have HBV:=hidE hbv
    have HBB:=hidE (HB2.out.past hbv)
    have hzv:=Nat.lt_of_lt_of_le hz2 hbv.size
    have hbw:=HB2r.out.trans (hbv.mono HB2r.out.size)
    by_cases hlt:k<l.length
    ·obtain ⟨b,off,rfl,hbz,hcc⟩:=HC4.out (by omega)
     have hbr:b<wr.heap.size:=Nat.lt_of_lt_of_le hbz hbv.size
     obtain ⟨e0,e1,e2,e3,e4,e5,e6,e7⟩:=hcc.get hlt
     rw[←hbv.cell hbz] at e0 e1 e2 e3 e4 e5 e6 e7
     have HME:=hidE (HMEM.out k hlt)
     have hft:=HFIT.out _ HME.out
     have HQ:=hidE (fun h j (hj:j<k+1)=>show (l.getD j rw0).id≠id from by
      by_cases e:j=k
      ·subst e;exact h
      ·exact HS.out j (by omega))
     clear hcc HS HMEM HC4 hbv HFIT
     generalize l.getD k rw0=x at *
     obtain ⟨xi,xq,xu,xf,xt,xT,xW,xA⟩:=x
     obtain ⟨⟨a5,n5,c5,q5⟩,⟨a6,n6,c6,q6⟩,⟨a7,n7,c7,q7⟩,_⟩:=hft
     simp only at q5 q6 q7 e0 e1 e2 e3 e4 e5 e6 e7
     subst q5 q6 q7
     obtain ⟨w4,hw4⟩:∃ w4,w4=wr.alloc (Obj.cells #[.int .u32 xi,.int .u32 xq,nmV xu,.int .i64 xf,.int .i64 xt,.slice a5 n5 c5,.slice a6 n6 c6,.slice a7 n7 c7] 50):=⟨_,rfl⟩
     have B4:Blk w4 wr.heap.size #[.int .u32 xi,.int .u32 xq,nmV xu,.int .i64 xf,.int .i64 xt,.slice a5 n5 c5,.slice a6 n6 c6,.slice a7 n7 c7] 50:=by rw[hw4];exact Blk.made _ _ _
     have hb4:Below wr.heap.size wr w4:=by rw[hw4];exact (Below.refl _ _).alloc (Nat.le_refl _) _
     go_upto_region 7 with fail
     rw[←hw4]
     clear hw4
     have b0:=B4.cell 0;have b1:=B4.cell 1;have b2:=B4.cell 2;have b3:=B4.cell 3;have b4:=B4.cell 4;have b5:=B4.cell 5;have b6:=B4.cell 6;have b7:=B4.cell 7;have bz:=B4.lt
     simp at b0 b1 b2 b3 b4 b5 b6 b7
     clear e0 e1 e2 e3 e4 e5 e6 e7 B4
     have hb5:Below w.heap.size w w4:=hbw.trans (hb4.mono (Nat.le_trans HB2r.out.size HBV.out.size))
     have HB6:=hidE (HBB.out.past hb4)
     have hz4:=hb4.size
     by_cases hid:xi=id
     ·have HX:=hidE (HEX.out _ HME.out hid)
      have d0:(xi == id)=true:=beq_iff_eq.2 hid
      have d1:decide (xi=id)=true:=decide_eq_true hid
      have hBr:=HB6.out
      have z0:=hBr.cell 0;have z1:=hBr.cell 1;have z2:=hBr.cell 2;have z3:=hBr.cell 3;have z4:=hBr.cell 4;have z5:=hBr.cell 5;have z6:=hBr.cell 6;have z7:=hBr.cell 7;have bf:=hBr.free;have bzr:=hBr.lt
      simp at z0 z1 z2 z3 z4 z5 z6 z7
      have HB5:=hidE hb5;have HBR:=hidE hBr
      clear HEX HQ HFIN HMS HRG hBr hb5 hbw hb4 HBV HBB
      go_wp2
      refine bodyPost_ret (v := .tuple #[.agg #[.int .u32 xi,.int .u32 xq,nmV xu,.int .i64 xf,.int .i64 xt,.slice a5 n5 c5,.slice a6 n6 c6,.slice a7 n7 c7],.bool true]) (by simp[results,Tryz.results64,go_sem,z0,z1,z2,z3,z4,z5,z6,z7,hid]) rfl ?_
      obtain ⟨p,hp,y,hy,ey,eq⟩:=HX.out
      exact ⟨below_eight HB5.out (by omega) _ _ _ _ _ _ _ _,.inl ⟨p,hp,y,hy,ey,by rw[eq]⟩⟩
     ·have d0:decide (xi=id)=false:=decide_eq_false hid
      have HF:=hidE (HQ.out hid)
      have HB7:=hidE (HBV.out.trans (hb4.mono HBV.out.size))
      have d1:(xi == id)=false:=beq_eq_false_iff_ne.2 hid
      clear HEX HQ HFIN HMS HRG hb5 hbw hb4 HBV HBB HB6
      go_wp2
      exact ⟨⟨k+1,by go_num,by omega,HB7.out,HF.out⟩,by simp[intOf];omega⟩
    ·have hkl:k=l.length:=by omega
     have HF:=hidE (HFIN.out (fun x hx=>by
      obtain ⟨j,hj,rfl⟩:=List.getElem_of_mem hx
      have:=HS.out j (by omega)
      rwa [List.getD_eq_getElem?_getD,List.getElem?_eq_getElem hj] at this))
     have hrg4:=HRG.out.past hbv
     have hsn:seenN wr (w.heap.size+1+1)=seenN w2 (w.heap.size+1+1):=by rw[hrg4.seen,HRG.out.seen]
     have hms:=HMS.out
     rw[←hsn] at hms
     have HMS2:=hidE hms
     clear hkl HS HFIN HEX HC4 HMEM hms hsn HMS
     go_wp2
     exact ⟨⟨_,hrg4,hbw,HBB.out,HF.out⟩,HMS2.out⟩
set_option maxRecDepth 100000 in
theorem made_c {p m:Nat} {vc:Value} (w:World) (hB:Blk w p #[vc,.map (some m)] 106):Calls Tryz.prog 51 #[.pointer (some ⟨p,0,none⟩)] w fun e w'=>e = .returned (.bool true)∧Below w.heap.size w w':=by
 have b1:=hB.cell 1;have bz:=hB.lt
 simp at b1
 clear hB
 have hne:∀ w,(binOp BinOp.neq 102 (.map (some m)) (.map none)).run Tryz.prog w = .ok (.bool true) w:=fun w=>by kernel_rfl
 go_enter Tryz.func51,Tryz.ntmps51
 go_wp2
 go_ret
 exact ⟨rfl,by (repeat (first | exact Below.refl _ _ | assumption | refine balloc ?_ _ | refine below_drewN ?_ _ | refine bstep (by assumption) ?_ | refine bstep (Past.prop _) ?_ | refine Below.setCell ?_ (by first | exact Nat.le_refl _ | (simp;done) | (simp;omega)) _))⟩
def cpR (B:Nat) (e:TypeId) (sz n:Nat) (ys:List Value):Value→World→Prop:=fun v w=>w.ownsRow B e sz v n ys
theorem stab_cp (B:Nat) (e:TypeId) (sz n:Nat) (ys:List Value):Stab (cpR B e sz n ys):=fun _ _ _ h hb=>own_below h hb
def ApartIs (w:World) (x:Rw) (nT nW nA:Nat) (yT yW yA:List Value) (e:Ending) (w':World):Prop:=∃ vT vW vA,e = .returned (rwV { x with vT:=vT,vW:=vW,vA:=vA })∧Below w.heap.size w w' ∧
 w'.ownsRow w.heap.size 169 5 vT nT yT∧w'.ownsRow w.heap.size 172 2 vW nW yW∧w'.ownsRow w.heap.size 100 3 vA nA yA
set_option maxRecDepth 100000 in
set_option maxHeartbeats 4000000 in
theorem apart_c (x:Rw) (nT nW nA:Nat) (yT yW yA:List Value) (w:World) (hT:SrcV w 5 x.vT nT yT) (hW:SrcV w 2 x.vW nW yW) (hA:SrcV w 3 x.vA nA yA) (lT:nT≤1099511627776) (lW:nW≤1099511627776) (lA:nA≤1099511627776) :
  Calls Tryz.prog 65 #[rwV x] w (ApartIs w x nT nW nA yT yW yA):=by
 obtain ⟨id,seq,u',fr,to',vT,vW,vA⟩:=x
 simp only at hT hW hA
 obtain ⟨w0,hw0⟩:∃ w0,w0=(w.alloc (Obj.cells #[.int .u32 id,.int .u32 seq,nmV u',.int .i64 fr,.int .i64 to',vT,vW,vA] 50)).alloc (Obj.cells #[.int .u32 0,.int .u32 0,.string ⟨#[]⟩,.int .i64 0,.int .i64 0,.slice none 0 0,.slice none 0 0,.slice none 0 0] 50):=⟨_,rfl⟩
 obtain ⟨pb,hpb⟩:∃ pb,pb=w.heap.size:=⟨_,rfl⟩
 have B1:Blk w0 pb #[.int .u32 id,.int .u32 seq,nmV u',.int .i64 fr,.int .i64 to',vT,vW,vA] 50:=by rw[hw0,hpb];exact (Blk.made _ _ _).alloc _
 have B2:Blk w0 (pb+1) #[.int .u32 0,.int .u32 0,.string ⟨#[]⟩,.int .i64 0,.int .i64 0,.slice none 0 0,.slice none 0 0,.slice none 0 0] 50:=by rw[hw0,hpb];exact Blk.made_at _ _ _ _ (by simp)
 have hb0:Below w.heap.size w w0:=by rw[hw0];(repeat (first | exact Below.refl _ _ | assumption | refine balloc ?_ _ | refine below_drewN ?_ _ | refine bstep (by assumption) ?_ | refine bstep (Past.prop _) ?_ | refine Below.setCell ?_ (by first | exact Nat.le_refl _ | (simp;done) | (simp;omega)) _))
 have hz0:w0.heap.size=pb+1+1:=by rw[hw0,hpb];simp
 have HT:=hidE (srcV_below hT hb0);have HW:=hidE (srcV_below hW hb0);have HA:=hidE (srcV_below hA hb0)
 have HB0:=hidE hb0;have HB1:=hidE B1;have HB2:=hidE B2
 go_enter Tryz.func65,Tryz.ntmps65
 go_upto_region 1 with fail
 rw[←hw0,←hpb]
 have b5:=B1.cell 5;have b6:=B1.cell 6;have b7:=B1.cell 7;have bz:=B1.lt
 simp at b5 b6 b7
 have HPB:=hidE hpb;have HZ0:=hidE hz0
 clear hw0 B1 B2 hb0 hT hW hA hpb hz0
 refine wp_region_J 12 [] (nthR [detR (.pointer (some ⟨pb,3,none⟩)),detR (.pointer (some ⟨pb,5,none⟩)),detR vT,cpR w0.heap.size 169 5 nT yT,detR (.pointer (some ⟨pb,6,none⟩)),detR vW,cpR w0.heap.size 172 2 nW yW,detR (.pointer (some ⟨pb,7,none⟩)),detR vA,cpR w0.heap.size 100 3 nA yA,detR (.pointer (some ⟨pb,3,none⟩)),detR (.pointer (some ⟨pb,5,none⟩))]) (fun _=>false) (by kernel_rfl) (by decide) (by kernel_rfl) (stab_nth (by intro r hr;simp only[List.mem_cons,List.not_mem_nil,or_false] at hr;rcases hr with rfl | rfl | rfl | rfl | rfl | rfl | rfl | rfl | rfl | rfl | rfl | rfl<;>first | exact stab_det _ | exact stab_cp _ _ _ _ _)) ?_ ?_ ?_
 ·intro i o hi ho
  match i,hi with
  | 0, _ =>
   obtain rfl:=Option.some.inj ho
   intro u x hd
   have hc:=Past.cell x
   simp[go_sem,gives,frm,Act.put,nthR,detR,Region.wanted,Below.refl]
  | 1, _ =>
   obtain rfl:=Option.some.inj ho
   intro u x hd
   have hc:=Past.cell x
   have d0:=hd 0 (by decide) (by kernel_rfl)
   simp only[nthR,detR,List.getD_cons_zero] at d0
   simp[go_sem,gives,frm,Act.put,nthR,detR,Region.wanted,Below.refl,d0]
  | 2, _ =>
   obtain rfl:=Option.some.inj ho
   intro u x hd
   have hc:=Past.cell x
   have d1:=hd 1 (by decide) (by kernel_rfl)
   simp only[nthR,detR,List.getD_cons_zero,List.getD_cons_succ] at d1
   simp[go_sem,gives,frm,Act.put,nthR,detR,Region.wanted,Below.refl,hc,d1,b5,bz]
  | 3, _ =>
   obtain rfl:=Option.some.inj ho
   intro u x hd
   have hc:=Past.cell x
   have d2:=hd 2 (by decide) (by kernel_rfl)
   simp only[nthR,detR,List.getD_cons_zero,List.getD_cons_succ] at d2
   simp[go_sem,gives,frm,Act.put,nthR,Region.wanted,d2]
   (with_reducible refine (copiedPart_c (srcV_below HT.out (Past.prop x)) lT).mono ?_);rintro e w3 ⟨v,rfl,ho3,hb3⟩;exact ⟨_,rfl,hb3,own_base ho3 (Past.prop x).size⟩
  | 4, _ =>
   obtain rfl:=Option.some.inj ho
   intro u x hd
   have hc:=Past.cell x
   simp[go_sem,gives,frm,Act.put,nthR,detR,Region.wanted,Below.refl]
  | 5, _ =>
   obtain rfl:=Option.some.inj ho
   intro u x hd
   have hc:=Past.cell x
   have d4:=hd 4 (by decide) (by kernel_rfl)
   simp only[nthR,detR,List.getD_cons_zero,List.getD_cons_succ] at d4
   simp[go_sem,gives,frm,Act.put,nthR,detR,Region.wanted,Below.refl,hc,d4,b6,bz]
  | 6, _ =>
   obtain rfl:=Option.some.inj ho
   intro u x hd
   have hc:=Past.cell x
   have d5:=hd 5 (by decide) (by kernel_rfl)
   simp only[nthR,detR,List.getD_cons_zero,List.getD_cons_succ] at d5
   simp[go_sem,gives,frm,Act.put,nthR,Region.wanted,d5]
   (with_reducible refine (copiedPiece_c (srcV_below HW.out (Past.prop x)) lW).mono ?_);rintro e w3 ⟨v,rfl,ho3,hb3⟩;exact ⟨_,rfl,hb3,own_base ho3 (Past.prop x).size⟩
  | 7, _ =>
   obtain rfl:=Option.some.inj ho
   intro u x hd
   have hc:=Past.cell x
   simp[go_sem,gives,frm,Act.put,nthR,detR,Region.wanted,Below.refl]
  | 8, _ =>
   obtain rfl:=Option.some.inj ho
   intro u x hd
   have hc:=Past.cell x
   have d7:=hd 7 (by decide) (by kernel_rfl)
   simp only[nthR,detR,List.getD_cons_zero,List.getD_cons_succ] at d7
   simp[go_sem,gives,frm,Act.put,nthR,detR,Region.wanted,Below.refl,hc,d7,b7,bz]
  | 9, _ =>
   obtain rfl:=Option.some.inj ho
   intro u x hd
   have hc:=Past.cell x
   have d8:=hd 8 (by decide) (by kernel_rfl)
   simp only[nthR,detR,List.getD_cons_zero,List.getD_cons_succ] at d8
   simp[go_sem,gives,frm,Act.put,nthR,Region.wanted,d8]
   (with_reducible refine (copiedSeg_c (srcV_below HA.out (Past.prop x)) lA).mono ?_);rintro e w3 ⟨v,rfl,ho3,hb3⟩;exact ⟨_,rfl,hb3,own_base ho3 (Past.prop x).size⟩
  | 10, _ =>
   obtain rfl:=Option.some.inj ho
   intro u x hd
   have hc:=Past.cell x
   simp[go_sem,gives,frm,Act.put,nthR,detR,Region.wanted,Below.refl]
  | 11, _ =>
   obtain rfl:=Option.some.inj ho
   intro u x hd
   have hc:=Past.cell x
   have d10:=hd 10 (by decide) (by kernel_rfl)
   simp only[nthR,detR,List.getD_cons_zero,List.getD_cons_succ] at d10
   simp[go_sem,gives,frm,Act.put,nthR,detR,Region.wanted,Below.refl,d10]
  | i+12,h=>exact absurd h (by omega)
 ·intro i o hx ho
  simp at hx
 ·intro u x9 hu hne
  have h3:cpR w0.heap.size 169 5 nT yT (u 3) x9.1:=hu 3 (by decide)
  have h6:cpR w0.heap.size 172 2 nW yW (u 6) x9.1:=hu 6 (by decide)
  have h9:cpR w0.heap.size 100 3 nA yA (u 9) x9.1:=hu 9 (by decide)
  have e0:u 0 = .pointer (some ⟨pb,3,none⟩):=hu 0 (by decide)
  have e10:u 10 = .pointer (some ⟨pb,3,none⟩):=hu 10 (by decide)
  have e11:u 11 = .pointer (some ⟨pb,5,none⟩):=hu 11 (by decide)
  obtain ⟨xT,e3⟩:∃ v,u 3=v:=⟨_,rfl⟩
  obtain ⟨xW,e6⟩:∃ v,u 6=v:=⟨_,rfl⟩
  obtain ⟨xA,e9⟩:∃ v,u 9=v:=⟨_,rfl⟩
  rw[e3] at h3;rw[e6] at h6;rw[e9] at h9
  obtain ⟨aT,cT,rfl⟩:=own_sli h3
  obtain ⟨aW,cW,rfl⟩:=own_sli h6
  obtain ⟨aA,cA,rfl⟩:=own_sli h9
  simp only[frm,List.take,Act.put,e3,e6,e9,e10,e11]
  have hB9:=HB0.out.trans (x9.2.mono HB0.out.size)
  have B19:=HB1.out.past x9.2
  have B29:=HB2.out.past x9.2
  have HB19:=hidE B19;have HB29:=hidE B29;have HB9:=hidE hB9;have HO3:=hidE h3;have HO6:=hidE h6;have HO9:=hidE h9
  have c0:=B19.cell 0;have c1:=B19.cell 1;have c2:=B19.cell 2;have c3:=B19.cell 3;have c4:=B19.cell 4;have c5:=B19.cell 5;have c6:=B19.cell 6;have c7:=B19.cell 7;have cf:=B19.free;have cz:=B19.lt
  have r0:=B29.cell 0;have r1:=B29.cell 1;have r2:=B29.cell 2;have r3:=B29.cell 3;have r4:=B29.cell 4;have r5:=B29.cell 5;have r6:=B29.cell 6;have r7:=B29.cell 7;have rf:=B29.free;have rz:=B29.lt
  simp at c0 c1 c2 c3 c4 c5 c6 c7 r0 r1 r2 r3 r4 r5 r6 r7
  clear hu hne e0 e3 e6 e9 e10 e11 B19 B29 HB0 HB1 HB2 HT HW HA b5 b6 b7 bz hB9 h3 h6 h9
  generalize x9.1=w9 at *
  go_wp2
  refine bodyPost_ret (v := .agg #[.int .u32 id,.int .u32 seq,nmV u',.int .i64 fr,.int .i64 to',.slice aT nT cT,.slice aW nW cW,.slice aA nA cA]) (by simp[results,Tryz.results65,go_sem,r0,r1,r2,r3,r4,r5,r6,r7]) rfl ?_
  have hp:=HPB.out
  have hz:=HZ0.out
  have hk:∀ (e:TypeId) (sz n:Nat) (v:Value) (xs:List Value) (W:World),W.ownsRow w0.heap.size e sz v n xs→∀ W':World,(∀ k,pb+1<k→W'.heap[k]? = W.heap[k]?)→W'.ownsRow w.heap.size e sz v n xs:=fun e sz n v xs W ho W' hkk=>own_base (own_kept ho (fun k ek=>hkk k (by have:=own_block ho ek;omega))) (by omega)
  refine ⟨_,_,_,rfl,below_eight (((HB9.out.setCell (Nat.le_of_eq hp.symm) _).setCell (Nat.le_of_eq hp.symm) _).setCell (Nat.le_of_eq hp.symm) _) (by omega) _ _ _ _ _ _ _ _,hk _ _ _ _ _ _ HO3.out _ ?_,hk _ _ _ _ _ _ HO6.out _ ?_,hk _ _ _ _ _ _ HO9.out _ ?_⟩
  all_goals
   intro k hk
   exact (heap_eight (by omega) _ _ _ _ _ _ _ _).trans ((keptS (by omega) _).trans ((keptS (by omega) _).trans (keptS (by omega) _)))
theorem doS_may {k:Int} {F G:List Sg} (h:(doS k F G).2=0):mayB (doS k F G).1=true:=by
 unfold doS at h ⊢
 split
 ·rename_i h1;rw[if_pos h1] at h;exact absurd h (by decide)
 ·rename_i h1
  rw[if_neg h1] at h
  split
  ·rename_i h2
   obtain ⟨a,b⟩:mayB F=true∧mayB G=true:=by simpa using h1
   exact mayB_iff.2 (opL_spec (mayB_iff.1 a) (mayB_iff.1 b) h2).1
  ·rename_i h2;rw[if_neg h2] at h;exact absurd h (by decide)
def ArgQ (w:World) (a:Option Addr) (L:List (List Sg)):Prop:=0<L.length→∃ b off,a=some ⟨b,off,none⟩∧b<w.heap.size∧∀ i,i<L.length→∃ v,w.cell? ⟨b,off+i,none⟩=some v∧SliS w v (L.getD i [])
theorem ArgQ.past {w w':World} {a:Option Addr} {L:List (List Sg)} (h:ArgQ w a L) (hb:Below w.heap.size w w'):ArgQ w' a L:=fun hl=>by
 obtain ⟨b,off,e,h1,h2⟩:=h hl
 refine ⟨b,off,e,Nat.lt_of_lt_of_le h1 hb.size,fun i hi => ?_⟩
 obtain ⟨v,h3,h4⟩:=h2 i hi
 exact ⟨v,(hb.cell (p:=⟨b,_,none⟩) h1).trans h3,h4.past hb⟩
theorem ArgQ.row {w:World} {a:Option Addr} {L:List (List Sg)} (h:ArgQ w a L):ArgR w a L:=fun hl=>by
 obtain ⟨b,off,e,h1,h2⟩:=h hl
 refine ⟨b,off,e,h1,fun i hi => ?_⟩
 obtain ⟨v,h3,a',c,rfl,_,_,h4⟩:=h2 i hi
 exact ⟨a',c,h3,h4⟩
set_option maxRecDepth 100000 in
set_option maxHeartbeats 2000000 in
theorem cadd_c (L:List (List Sg)) (a:Option Addr) (cap:Nat) (w:World) (hn:L.length≤999999990) (hl:lenR L≤999999990) (hA:ArgQ w a L) :
  Calls Tryz.prog 93 #[.slice a L.length cap] w (OfIs w (sumS L).1 (sumS L).2):=by
 have HA:=hidE hA
 have HCN:=hidE (canon_c L a cap w hn hl hA.row)
 clear hA
 cases hm:L.all mayB
 ·have HE:=hidE (show sumS L=([],5) by unfold sumS;rw[if_neg (by rw[hm];decide)])
  rw[hm] at HCN
  rw[HE.out]
  go_enter Tryz.func93,Tryz.ntmps93
  go_wp2_with fail
  ((with_reducible refine (HCN.out).mono ?_);rintro e w1 ⟨rfl,hb1⟩)
  go_wp2
  go_ret2
  exact ⟨_,rfl,sliS_nil _,hb1⟩
 ·have HE:=hidE (show sumS L=sumE L by unfold sumS;rw[if_pos hm])
  have HM:=hidE (fun i (hi:i<L.length)=>show mayB (L.getD i [])=true from by
   rw[getD_get _ _ _ hi];exact List.all_eq_true.1 hm _ (List.getElem_mem hi))
  rw[hm] at HCN
  rw[HE.out]
  clear hm HE
  go_enter Tryz.func93,Tryz.ntmps93
  go_wp2_with fail
  ((with_reducible refine (HCN.out).mono ?_);rintro e w1 ⟨rfl,hb1⟩)
  have HB1:=hidE hb1
  clear hb1 HCN
  go_wp2_with fail
  go_loopg [4,13,6,7] L.length (fun gh vf vi _ _ wr2=>∃ (n:Nat) (v:Value),v=vf∧vi = .int .i64 n∧n≤L.length∧L.length - n≤gh∧(sumE (L.take n)).2=0∧mayB (sumE (L.take n)).1=true∧(sumE (L.take n)).1.length≤lenR (L.take n)∧SliS wr2 v (sumE (L.take n)).1∧Below w.heap.size w wr2)
  case atStart=>exact ⟨0,.slice none 0 0,rfl,rfl,by omega,by omega,rfl,rfl,by simp[sumE],sliS_nil _,HB1.out⟩
  case round =>
   obtain ⟨n,v,rfl,rfl,hnl,hg2,h0,hmay,hlen,hv,hb2⟩:=hrel
   have HB2:=hidE hb2;have H0:=hidE h0
   by_cases hlt:n<L.length
   ·obtain ⟨b,off,rfl,hb,hc⟩:=(HA.out.past hb2) (by omega)
    obtain ⟨vi,d0,ai,ci,rfl,hi1,hi2,hAi⟩:=hc n hlt
    obtain ⟨a1,c1,rfl,hv1,hv2,hA1⟩:=hv
    have HST:=hidE (sumE_step hlt h0)
    have HBD:=hidE (fun h=>sumE_bad (L:=L) (n:=n+1) h)
    have hls:=lenR_step hlt
    have hlt2:=lenR_take L (n+1)
    have hmi:=HM.out n hlt
    have HDL:=hidE (doS_len 0 (sumE (L.take n)).1 (L.getD n []))
    have HDE:=hidE (fun h=>doS_err (k:=0) (F:=(sumE (L.take n)).1) (G:=L.getD n []) h)
    have HDM:=hidE (fun h=>doS_may (k:=0) (F:=(sumE (L.take n)).1) (G:=L.getD n []) h)
    have HDO:=hidE (comb_plus (sumE (L.take n)).1 (L.getD n []) a1 ai c1 ci wr hv1 hv2 hi1 hi2 (by omega) hA1 hAi hmay hmi)
    rw[←HST.out] at HDL HDE HDO HDM
    clear hc hAi hA1 hb2 h0 hmay hmi hi1 hi2 hv1 hv2
    generalize (sumE (L.take n)).1=f at *
    generalize L.getD n []=G at *
    generalize hqq:sumE (L.take (n+1))=q at *
    have HQQ:=hidE hqq
    clear hqq
    by_cases hq:q.2=0
    ·have hd:(q.2 != 0)=false:=by rw[bne_eq_false_iff_eq];exact hq
     have HQ:=hidE hq
     have HQM:=hidE (HDM.out hq)
     clear hq HBD HDE HDM
     go_wp2_with fail
     ((with_reducible refine (HDO.out).mono ?_);rintro e w3 ⟨v3,rfl,hv3,hb3⟩)
     have o1:=bstep hb3 HB2.out
     clear hb3 d0
     go_wp2
     go_roundg (L.length - (n+1))
     case measure=>omega
     case rel=>exact ⟨n+1,v3,rfl,by go_num,by omega,Nat.le_refl _,by rw[HQQ.out];exact HQ.out,by rw[HQQ.out];exact HQM.out,by rw[HQQ.out];have:=HDL.out;omega,by rw[HQQ.out];exact hv3,o1⟩
    ·have hd:(q.2 != 0)=true:=bne_iff_ne.2 hq
     have HD:=hidE (HBD.out hq)
     have HQ1:=hidE (HDE.out hq)
     clear hq HBD HDE HDM
     go_wp2_with fail
     ((with_reducible refine (HDO.out).mono ?_);rintro e w3 ⟨v3,rfl,hv3,hb3⟩)
     have o1:=bstep hb3 HB2.out
     clear hb3 d0
     go_wp2
     go_ret2
     rw[HD.out,HQ1.out]
     exact ⟨_,rfl,sliS_nil _,o1⟩
   ·have hn':n=L.length:=by omega
    subst hn'
    have h0':=H0.out
    rw[List.take_length] at h0' hv
    have HH:=hidE h0';have HV2:=hidE hv
    clear h0' hv h0 H0 hlen hb2 hmay
    go_wp2
    go_ret2
    rw[HH.out]
    exact ⟨_,rfl,HV2.out,HB2.out⟩
end
end Go.Proofs.YtcmponckjkalaaaGreat
