/- Package plan: what a plan has in memory, and what it says; blocks with a number stay where a plan is written. No conditions. Maps with strings as keys: what a store and a removal leave of the entries, and of what hangs on the keys. No function of the program. No conditions. Package plan: a user's row is put, or taken away: what the map says then. No conditions. slices.Grow .. -/
import Derived.Test.YtcmponckjkalaaaGreatPUGP
import Derived.Test.YtcmponckjkalaaaGreatPUGN
import Derived.Test.YtcmponckjkalaaaGreatPUGA
namespace Go.Proofs.YtcmponckjkalaaaGreat
section
open Go.ChangeShapes Go.WideShapes Go.ChangeAt Go.RowKit
attribute [local irreducible] Go.Calls
def KeepI (w w':World):Prop:=w.heap.size≤w'.heap.size∧∀ (b o:Nat) (k:IntKind) (i:Int),w.cell? ⟨b,o,none⟩=some (.int k i)→w'.heap[b]? = w.heap[b]?
theorem KeepI.cell {w w':World} (h:KeepI w w') {b o:Nat} {k:IntKind} {i:Int} (hc:w.cell? ⟨b,o,none⟩=some (.int k i)) (o':Nat):w'.cell? ⟨b,o',none⟩=w.cell? ⟨b,o',none⟩:=cell_block (h.2 b o k i hc) o'
def NoInt (w:World) (q:Nat):Prop:=∀ (o:Nat) (k:IntKind) (i:Int),w.cell? ⟨q,o,none⟩≠some (.int k i)
theorem keepI_grown {w w':World} {q:Nat} (h:w.grownBy w' (some q)) (hn:NoInt w q):KeepI w w':=⟨h.size,fun b o k i hc=>h.block b (World.block_lt_of_cell? w _ hc) (fun e=>by
 cases e
 exact hn o k i hc)⟩
theorem noInt_two {w:World} {q:Nat} {a:Option Addr} {n c:Nat} {m:Option Nat} {t:TypeId} (h:Blk w q #[.slice a n c,.map m] t):NoInt w q:=fun o k i e=>by
 rw[h.cell o] at e
 match o,e with
 | 0,e=>simp at e
 | 1,e=>simp at e
 | o+2,e=>simp at e
theorem noInt_three {w:World} {q:Nat} {a a':Option Addr} {n c n' c':Nat} {m:Option Nat} {t:TypeId} (h:Blk w q #[.slice a n c,.map m,.slice a' n' c'] t):NoInt w q:=fun o k i e=>by
 rw[h.cell o] at e
 match o,e with
 | 0,e=>simp at e
 | 1,e=>simp at e
 | 2,e=>simp at e
 | o+3,e=>simp at e
theorem SliS.keepI {w w':World} {v:Value} {l:List Sg} (h:SliS w v l) (hk:KeepI w w'):SliS w' v l:=by
 obtain ⟨a,cap,e,h1,h2,h3⟩:=h
 refine ⟨a,cap,e,h1,h2,fun hl => ?_⟩
 obtain ⟨b,off,e2,hb,hc⟩:=h3 hl
 refine ⟨b,off,e2,Nat.lt_of_lt_of_le hb hk.1,fun i hi => ?_⟩
 obtain ⟨c1,c2,c3⟩:=hc i hi
 exact ⟨(hk.cell c1 _).trans c1,(hk.cell c1 _).trans c2,(hk.cell c1 _).trans c3⟩
theorem SliP.keepI {w w':World} {v:Value} {l:List Prt} (h:SliP w v l) (hk:KeepI w w'):SliP w' v l:=by
 obtain ⟨a,cap,e,h1,h2,h3⟩:=h
 refine ⟨a,cap,e,h1,h2,fun hl => ?_⟩
 obtain ⟨b,off,e2,hb,hc⟩:=h3 hl
 refine ⟨b,off,e2,Nat.lt_of_lt_of_le hb hk.1,fun i hi => ?_⟩
 obtain ⟨c1,c2,c3,c4,c5⟩:=hc i hi
 exact ⟨(hk.cell c1 _).trans c1,(hk.cell c1 _).trans c2,(hk.cell c1 _).trans c3,(hk.cell c1 _).trans c4,(hk.cell c1 _).trans c5⟩
theorem SliVs.keepI {w w':World} {v:Value} {l:List (Int × Int)} (h:SliVs w v l) (hk:KeepI w w'):SliVs w' v l:=by
 obtain ⟨a,cap,e,h1,h2,h3⟩:=h
 refine ⟨a,cap,e,h1,h2,fun hl => ?_⟩
 obtain ⟨b,off,e2,hb,hc⟩:=h3 hl
 refine ⟨b,off,e2,Nat.lt_of_lt_of_le hb hk.1,fun i hi => ?_⟩
 obtain ⟨c1,c2⟩:=hc i hi
 exact ⟨(hk.cell c1 _).trans c1,(hk.cell c1 _).trans c2⟩
theorem SliRw.keepI {w w':World} {v:Value} {l:List Rw} (h:SliRw w v l) (hk:KeepI w w'):SliRw w' v l:=by
 obtain ⟨a,cap,e,h1,h2,h3,h4,h5⟩:=h
 refine ⟨a,cap,e,h1,h2,h3,fun hl => ?_,h5⟩
 obtain ⟨b,off,e2,hb,hc⟩:=h4 hl
 refine ⟨b,off,e2,Nat.lt_of_lt_of_le hb hk.1,fun i j hi hj => ?_⟩
 exact (hk.cell (hc.get hi).1 _).trans (hc i j hi hj)
theorem add_block (ad:Addr) (j:Nat):(ad.add j).block=ad.block:=by unfold Addr.add;split<;>rfl
theorem srcV_keepI {w w':World} {sz n:Nat} {v:Value} {ys:List Value} (h:SrcV w sz v n ys) (hi:∀ u∈ys,∃ k i,u = .int k i) (hk:KeepI w w'):SrcV w' sz v n ys:=by
 obtain ⟨a,cap,e,h0,h1,h2,h3⟩:=h
 refine ⟨a,cap,e,h0,h1,h2,fun ad ha j u hu => ?_⟩
 have hc:=h3 ad ha j u hu
 obtain ⟨hlt,hg⟩:=List.getElem?_eq_some_iff.1 hu
 obtain ⟨k,i,rfl⟩:=hi u (by rw[←hg];exact List.getElem_mem hlt)
 unfold World.cell? at hc ⊢
 rw[add_block] at hc ⊢
 have hh:w'.heap[ad.block]? = w.heap[ad.block]? := by
  by_cases c:∃ o k i,w.cell? ⟨ad.block,o,none⟩=some (.int k i)
  ·obtain ⟨o,k',i',c⟩:=c
   exact hk.2 _ _ _ _ c
  ·refine absurd ⟨(ad.add j).off,k,i, ?_⟩ c
   unfold World.cell?
   cases hsp:(ad.add j).spot with
   | none =>
    rw[hsp] at hc
    exact hc
   | some s =>
    rw[hsp] at hc
    exfalso
    split at hc
    ·simp at hc
    ·simp at hc
 rw[hh]
 exact hc
theorem cellsOfS_int:∀ l:List Sg,∀ u∈cellsOfS l,∃ k i,u = .int k i
 | [],u,h=>by simp[cellsOfS] at h
 | s :: r, u, h => by
   simp only[cellsOfS,List.mem_cons] at h
   rcases h with rfl | rfl | rfl | h
   ·exact ⟨_,_,rfl⟩
   ·exact ⟨_,_,rfl⟩
   ·exact ⟨_,_,rfl⟩
   ·exact cellsOfS_int r u h
theorem cellsOfP_int:∀ l:List Prt,∀ u∈cellsOfP l,∃ k i,u = .int k i
 | [],u,h=>by simp[cellsOfP] at h
 | s :: r, u, h => by
   simp only[cellsOfP,List.mem_cons] at h
   rcases h with rfl | rfl | rfl | rfl | rfl | h
   ·exact ⟨_,_,rfl⟩
   ·exact ⟨_,_,rfl⟩
   ·exact ⟨_,_,rfl⟩
   ·exact ⟨_,_,rfl⟩
   ·exact ⟨_,_,rfl⟩
   ·exact cellsOfP_int r u h
theorem cellsOfV_int:∀ l:List (Int × Int),∀ u∈cellsOfV l,∃ k i,u = .int k i
 | [],u,h=>by simp[cellsOfV] at h
 | s :: r, u, h => by
   simp only[cellsOfV,List.mem_cons] at h
   rcases h with rfl | rfl | h
   ·exact ⟨_,_,rfl⟩
   ·exact ⟨_,_,rfl⟩
   ·exact cellsOfV_int r u h
theorem SliF3.keepI {w w':World} {v:Value} {F:List Sg} (h:SliF3 w v F) (hk:KeepI w w'):SliF3 w' v F:=⟨h.1.keepI hk,srcV_keepI h.2 (cellsOfS_int F) hk⟩
theorem RwF.keepI {w w':World} {x:Rw} {r:Rv} (h:RwF w x r) (hk:KeepI w w'):RwF w' x r :=
 ⟨h.id,h.seq,h.u,h.fr,h.to',h.t.keepI hk,srcV_keepI h.ts (cellsOfP_int _) hk,h.w'.keepI hk,srcV_keepI h.ws (cellsOfV_int _) hk,⟨h.a.1.keepI hk,srcV_keepI h.a.2 (cellsOfS_int _) hk⟩⟩
theorem RwsF.keepI {w w':World} {l:List Rw} {R:List Rv} (h:RwsF w l R) (hk:KeepI w w'):RwsF w' l R:=⟨h.1,fun i hi=>(h.2 i hi).keepI hk⟩
structure Body (w:World) (m:Nat) (U:List Ent) (rows:List UInt8→List Rw) (rvs:List UInt8→List Rv) (L:List Rv):Prop where
 map:MapU w m U
 ok:RowsOk w U rows
 gone:∀ s,(∀ p∈U,p.1≠s)→rvs s=[]
 full:∀ p∈U,rvs p.1≠[]
 vals:∀ s,RwsF w (rows s) (rvs s)
 user:∀ s,∀ r∈rvs s,r.u=s
 perm:(allRv rvs U).Perm L
 good:GoodL L
 small:∀ r∈L,r.small
theorem Body.past {w w':World} {m:Nat} {U:List Ent} {rows:List UInt8→List Rw} {rvs:List UInt8→List Rv} {L:List Rv} (h:Body w m U rows rvs L) (hb:Below w.heap.size w w'):Body w' m U rows rvs L :=
 ⟨h.map.past hb,h.ok.past hb,h.gone,h.full,fun s=>(h.vals s).past hb,h.user,h.perm,h.good,h.small⟩
theorem MapU.ne_blk {w:World} {m q:Nat} {U:List Ent} {cs:Array Value} {t:TypeId} (h:MapU w m U) (hb:Blk w q cs t):m≠q:=fun e=>by
 subst e
 obtain ⟨es,clock,h1,_⟩:=h
 obtain ⟨fz,h2⟩:∃ fz,w.heap[m]? = some (.cells cs t fz):=⟨_,hb⟩
 rw[h1] at h2;cases h2
theorem Body.keepI {w w':World} {m q:Nat} {U:List Ent} {rows:List UInt8→List Rw} {rvs:List UInt8→List Rv} {L:List Rv} (h:Body w m U rows rvs L) (hg:w.grownBy w' (some q)) (hn:NoInt w q) (hm:m≠q):Body w' m U rows rvs L:=by
 have hk:=keepI_grown hg hn
 exact ⟨h.map.keep (hg.block m h.map.lt (fun e=>hm (by cases e;rfl))),fun p hp=>(h.ok p hp).keepI hk,h.gone,h.full,fun s=>(h.vals s).keepI hk,h.user,h.perm,h.good,h.small⟩
theorem Body.rows_none {w:World} {m:Nat} {U:List Ent} {rows:List UInt8→List Rw} {rvs:List UInt8→List Rv} {L:List Rv} (h:Body w m U rows rvs L) (s:List UInt8) (hs:∀ p∈U,p.1≠s):rows s=[] :=
 List.eq_nil_of_length_eq_zero (by rw[←(h.vals s).1,h.gone s hs];rfl)
theorem allRv_mem {rvs:List UInt8→List Rv} {U:List Ent} {r:Rv}:r∈allRv rvs U↔∃ p∈U,r∈rvs p.1:=by
 unfold allRv;rw[List.mem_flatMap]
theorem Body.key {w:World} {m:Nat} {U:List Ent} {rows:List UInt8→List Rw} {rvs:List UInt8→List Rv} {L:List Rv} (h:Body w m U rows rvs L) {s:List UInt8} {r:Rv} (hr:r∈rvs s):∃ p∈U,p.1=s:=by
 by_cases c:∃ p∈U,p.1=s
 ·exact c
 ·have:=h.gone s (fun p hp e=>c ⟨p,hp,e⟩)
  rw[this] at hr;simp at hr
theorem Body.mem {w:World} {m:Nat} {U:List Ent} {rows:List UInt8→List Rw} {rvs:List UInt8→List Rv} {L:List Rv} (h:Body w m U rows rvs L) {s:List UInt8} {r:Rv} (hr:r∈rvs s):r∈L:=by
 obtain ⟨p,hp,rfl⟩:=h.key hr
 exact h.perm.mem_iff.1 (allRv_mem.2 ⟨p,hp,hr⟩)
theorem sub_all {α:Type} {f:List UInt8→List α}:∀ {U:List Ent} {p:Ent},p∈U→(f p.1).Sublist (U.flatMap fun q=>f q.1)
 | q :: U, p, h => by
   rw[List.flatMap_cons]
   rcases List.mem_cons.1 h with rfl | h
   ·exact List.sublist_append_left _ _
   ·exact (sub_all h).trans (List.sublist_append_right _ _)
theorem fns_all (rvs:List UInt8→List Rv) (U:List Ent):allFs (fun s=>fnsS (rvs s)) U=fnsS (allRv rvs U):=by
 unfold allFs allRv fnsS
 rw[List.map_flatMap]
theorem lenR_le {L:List Rv} (h:∀ r∈L,r.ok=true):lenR (fnsS L)≤L.length * 1024:=by
 induction L with
 | nil=>simp[lenR,fnsS]
 | cons r L ih =>
  have:=ih (fun x hx=>h x (List.mem_cons_of_mem _ hx))
  have:=rok_len (h r (List.mem_cons_self ..))
  unfold lenR fnsS at *
  simp only[List.map_cons,List.sum_cons,List.length_cons]
  omega
theorem Body.all_len {w:World} {m:Nat} {U:List Ent} {rows:List UInt8→List Rw} {rvs:List UInt8→List Rv} {L:List Rv} (h:Body w m U rows rvs L):(allRw rows U).length=L.length:=by
 rw[←h.perm.length_eq]
 exact (rwsF_all h.vals U).1.symm
theorem Body.okv {w:World} {m:Nat} {U:List Ent} {rows:List UInt8→List Rw} {rvs:List UInt8→List Rv} {L:List Rv} (h:Body w m U rows rvs L) (s:List UInt8):∀ r∈rvs s,r.ok=true:=fun r hr=>h.good.ok r (h.mem hr)
theorem Body.inR {w:World} {m:Nat} {U:List Ent} {rows:List UInt8→List Rw} {rvs:List UInt8→List Rv} {L:List Rv} (h:Body w m U rows rvs L):InR (fnsS (allRv rvs U)):=inR_perm ((h.perm.map _).symm) h.good.inR
theorem Body.sub {w:World} {m:Nat} {U:List Ent} {rows:List UInt8→List Rw} {rvs:List UInt8→List Rv} {L:List Rv} (h:Body w m U rows rvs L) (s:List UInt8):(rvs s).Sublist (allRv rvs U):=by
 by_cases c:∃ p∈U,p.1=s
 ·obtain ⟨p,hp,rfl⟩:=c
  exact sub_all hp
 ·rw[h.gone s (fun p hp e=>c ⟨p,hp,e⟩)]
  exact List.nil_sublist _
theorem Body.few {w:World} {m:Nat} {U:List Ent} {rows:List UInt8→List Rw} {rvs:List UInt8→List Rv} {L:List Rv} (h:Body w m U rows rvs L) (s:List UInt8):(rvs s).length≤128:=by
 have:=(h.sub s).length_le
 have h2:=h.perm.length_eq
 have:=h.good.few
 omega
theorem Body.planC {w:World} {m:Nat} {U:List Ent} {rows:List UInt8→List Rw} {rvs:List UInt8→List Rv} {L:List Rv} (h:Body w m U rows rvs L):PlanC w m U rows (fun s=>fnsS (rvs s)) where
 map:=h.map
 ok:=h.ok
 none:=h.rows_none
 fns:=fun s=>(h.vals s).fns
 pos:=fun s=>fns_pos (h.okv s)
 inR:=fun s=>inR_sub (fun r hr=>h.good.ok r (h.perm.mem_iff.1 hr)) (h.sub s) h.inR
 few:=fun s=>by have:=h.few s;have:=(h.vals s).1;omega
 short:=fun s=>by have:=h.few s;have:=lenR_le (h.okv s);omega
theorem Body.lenAll {w:World} {m:Nat} {U:List Ent} {rows:List UInt8→List Rw} {rvs:List UInt8→List Rv} {L:List Rv} (h:Body w m U rows rvs L):lenR (allFs (fun s=>fnsS (rvs s)) U)≤131072:=by
 rw[fns_all,lenR_perm (L:=fnsS (allRv rvs U)) (M:=fnsS L) (h.perm.map _)]
 have:=lenR_le h.good.ok
 have:=h.good.few
 unfold fnsS at *
 omega
theorem Body.smalls {w:World} {m:Nat} {U:List Ent} {rows:List UInt8→List Rw} {rvs:List UInt8→List Rv} {L:List Rv} (h:Body w m U rows rvs L):∀ r∈allRv rvs U,r.small:=fun r hr=>h.small r (h.perm.mem_iff.1 hr)
theorem ord_eq {L R:List Rv} (hL:GoodL L) (hp:R.Perm L) (hs:R.Pairwise ordV):R=L:=by
 have hs2:L.Pairwise ordV:=hL.ord.imp (fun h=>by
  rw[ltV_iff] at h;unfold ordV;omega)
 refine hp.eq_of_pairwise (fun a b ha hb h1 h2 => ?_) hs hs2
 have e:a.id=b.id:=by unfold ordV at h1 h2;omega
 have hb':=hb
 have ha':=hp.mem_iff.1 ha
 obtain ⟨i,hi,rfl⟩:=List.getElem_of_mem ha'
 obtain ⟨j,hj,rfl⟩:=List.getElem_of_mem hb'
 have h3:(L.map (·.id))[i]'(by simpa using hi)=(L.map (·.id))[j]'(by simpa using hj):=by simpa using e
 have:=(List.getElem_inj hL.ids).1 h3
 subst this;rfl
end
section
theorem idx_get {U:List Ent} {k:List UInt8} {j:Nat} (h:idxU U k=some j):∃ hj:j<U.length,U[j].1=k:=by
 unfold idxU at h
 rw[List.findIdx?_eq_some_iff_getElem] at h
 obtain ⟨hj,h1,_⟩:=h
 exact ⟨hj,by simpa using h1⟩
theorem idx_no {U:List Ent} {k:List UInt8} (h:idxU U k=none):∀ p∈U,p.1≠k:=by
 unfold idxU at h
 rw[List.findIdx?_eq_none_iff] at h
 intro p hp e
 have:=h p hp
 simp[e] at this
theorem put_keys (U:List Ent) (k:List UInt8) (v:Value):(putU U k v).map (·.1)=if (idxU U k).isSome then U.map (·.1) else U.map (·.1)++[k]:=by
 unfold putU
 cases h:idxU U k with
 | none=>simp
 | some j =>
  obtain ⟨hj,he⟩:=idx_get h
  simp only[Option.isSome_some,if_true,List.map_set]
  have:(U.map (·.1))[j]'(by simpa using hj)=k:=by simpa using he
  conv=>lhs;rw[←this]
  rw[List.set_getElem_self]
theorem mem_put {U:List Ent} {k:List UInt8} {v:Value} (hn:(U.map (·.1)).Nodup) {p:Ent} (hp:p∈putU U k v):p=(k,v)∨(p∈U∧p.1≠k):=by
 unfold putU at hp
 cases h:idxU U k with
 | none =>
  rw[h] at hp
  simp only[List.mem_append,List.mem_singleton] at hp
  rcases hp with hp | hp
  ·exact .inr ⟨hp,idx_no h p hp⟩
  ·exact .inl hp
 | some j =>
  rw[h] at hp
  obtain ⟨hj,he⟩:=idx_get h
  simp only at hp
  obtain ⟨i,hi,e⟩:=List.getElem_of_mem hp
  rw[List.getElem_set] at e
  by_cases c:j=i
  ·rw[if_pos c] at e;exact .inl e.symm
  ·rw[if_neg c] at e
   have hi':i<U.length:=by simpa using hi
   refine .inr ⟨e ▸ List.getElem_mem hi',fun e2=>c ?_⟩
   have h3:(U.map (·.1))[j]'(by simpa using hj)=(U.map (·.1))[i]'(by simpa using hi'):=by simp[he,e,e2]
   exact (List.getElem_inj hn).1 h3
theorem mem_put_self (U:List Ent) (k:List UInt8) (v:Value):(k,v)∈putU U k v:=by
 unfold putU
 cases h:idxU U k with
 | none=>simp
 | some j =>
  obtain ⟨hj,_⟩:=idx_get h
  exact List.mem_iff_getElem.2 ⟨j,by simpa using hj,by simp⟩
theorem mem_put_old {U:List Ent} {k:List UInt8} {v:Value} {p:Ent} (hp:p∈U) (hk:p.1≠k):p∈putU U k v:=by
 unfold putU
 cases h:idxU U k with
 | none=>exact List.mem_append_left _ hp
 | some j =>
  obtain ⟨hj,he⟩:=idx_get h
  obtain ⟨i,hi,e⟩:=List.getElem_of_mem hp
  refine List.mem_iff_getElem.2 ⟨i,by simpa using hi, ?_⟩
  simp only[List.getElem_set]
  rw[if_neg (fun c=>by subst c;rw[e] at he;exact hk he)]
  exact e
theorem mem_del {U:List Ent} {k:List UInt8} (hn:(U.map (·.1)).Nodup) {p:Ent}:p∈delU U k↔p∈U∧p.1≠k:=by
 unfold delU
 cases h:idxU U k with
 | none=>exact ⟨fun hp=>⟨hp,idx_no h p hp⟩,fun hp=>hp.1⟩
 | some j =>
  obtain ⟨hj,he⟩:=idx_get h
  simp only[List.mem_eraseIdx_iff_getElem]
  constructor
  ·rintro ⟨i,hi,hij,rfl⟩
   refine ⟨List.getElem_mem hi,fun e2=>hij ?_⟩
   have h3:(U.map (·.1))[i]'(by simpa using hi)=(U.map (·.1))[j]'(by simpa using hj):=by simp[he,e2]
   exact (List.getElem_inj hn).1 h3
  ·rintro ⟨hp,hk⟩
   obtain ⟨i,hi,rfl⟩:=List.getElem_of_mem hp
   exact ⟨i,hi,fun c=>by subst c;exact hk he,rfl⟩
theorem erase_filter:∀ (K:List (List UInt8)) (j:Nat) (hj:j<K.length),K.Nodup→K.eraseIdx j=K.filter (fun s=>decide (s≠K[j]))
 | [],j,hj,_=>by simp at hj
 | k :: K, 0, _, hn => by
   obtain ⟨hk,_⟩:=List.nodup_cons.1 hn
   rw[List.eraseIdx_cons_zero,List.getElem_cons_zero,List.filter_cons_of_neg (by simp)]
   symm
   rw[List.filter_eq_self]
   intro s hs
   simp only[decide_eq_true_eq]
   intro e;subst e;exact hk hs
 | k :: K, j + 1, hj, hn => by
   obtain ⟨hk,hn⟩:=List.nodup_cons.1 hn
   have hj':j<K.length:=by simpa using hj
   rw[List.eraseIdx_cons_succ,List.getElem_cons_succ,List.filter_cons_of_pos,erase_filter K j hj' hn]
   simp only[decide_eq_true_eq]
   intro e;exact hk (e ▸ List.getElem_mem hj')
theorem del_keys (U:List Ent) (k:List UInt8) (hn:(U.map (·.1)).Nodup):(delU U k).map (·.1)=(U.map (·.1)).filter (fun s=>decide (s≠k)):=by
 unfold delU
 cases h:idxU U k with
 | none =>
  simp only
  rw[List.filter_eq_self.2]
  intro s hs
  obtain ⟨p,hp,rfl⟩:=List.mem_map.1 hs
  simpa using idx_no h p hp
 | some j =>
  obtain ⟨hj,he⟩:=idx_get h
  simp only
  have hjj:j<(U.map (·.1)).length:=by simpa using hj
  have e2:(U.map (·.1))[j]=k:=by simpa using he
  rw[Go.ChangeMaps.map_eraseIdx,erase_filter _ j hjj hn,e2]
theorem put_filter (U:List Ent) (k:List UInt8) (v:Value):((putU U k v).map (·.1)).filter (fun s=>decide (s≠k))=(U.map (·.1)).filter (fun s=>decide (s≠k)):=by
 rw[put_keys]
 split
 ·rfl
 ·simp
theorem keys_split {α:Type} (f:List UInt8→List α) (u:List UInt8):∀ K:List (List UInt8),K.Nodup→(u∈K∨f u=[])→(K.flatMap f).Perm (f u++(K.filter fun s=>decide (s≠u)).flatMap f)
 | [], _, h => by
   rcases h with h | h
   ·cases h
   ·simp[h]
 | k :: K, hn, h => by
   obtain ⟨hk,hn⟩:=List.nodup_cons.1 hn
   by_cases c:k=u
   ·subst c
    have e:(k :: K).filter (fun s=>decide (s≠k))=K:=by
     rw[List.filter_cons_of_neg (by simp)]
     rw[List.filter_eq_self]
     intro s hs
     simp only[decide_eq_true_eq]
     intro e;subst e;exact hk hs
    rw[e,List.flatMap_cons]
   ·have ih:=keys_split f u K hn (by
     rcases h with h | h
     ·rcases List.mem_cons.1 h with h | h
      ·exact absurd h.symm c
      ·exact .inl h
     ·exact .inr h)
    rw[List.filter_cons_of_pos (by simpa using c),List.flatMap_cons,List.flatMap_cons]
    refine (ih.append_left (f k)).trans ?_
    rw[←List.append_assoc,←List.append_assoc]
    exact (List.perm_append_comm).append_right _
def updF {α:Type} (f:List UInt8→α) (u:List UInt8) (x:α):List UInt8→α:=fun s=>if s=u then x else f s
theorem updF_same {α:Type} (f:List UInt8→α) (u:List UInt8) (x:α):updF f u x u=x:=if_pos rfl
theorem updF_other {α:Type} (f:List UInt8→α) {u s:List UInt8} (x:α) (h:s≠u):updF f u x s=f s:=if_neg h
theorem flat_upd {α:Type} (f:List UInt8→List α) (u:List UInt8) (x:List α) (K:List (List UInt8)):(K.filter fun s=>decide (s≠u)).flatMap (updF f u x)=(K.filter fun s=>decide (s≠u)).flatMap f:=by
 rw[List.flatMap_def,List.flatMap_def]
 congr 1
 apply List.map_congr_left
 intro s hs
 have:=(List.mem_filter.1 hs).2
 exact updF_other f x (by simpa using this)
end
section
open Go.ChangeShapes Go.WideShapes Go.ChangeAt Go.RowKit
attribute [local irreducible] Go.Calls
theorem noInt_map {w:World} {m:Nat} {U:List Ent} (h:MapU w m U):NoInt w m:=fun o k i e=>by
 obtain ⟨es,clock,h1,_⟩:=h
 simp[World.cell?,h1] at e
theorem all_keys (rvs:List UInt8→List Rv) (U:List Ent):allRv rvs U=(U.map (·.1)).flatMap rvs:=by
 unfold allRv
 rw[List.flatMap_map]
def restOf (rvs:List UInt8→List Rv) (U:List Ent) (u:List UInt8):List Rv:=((U.map (·.1)).filter fun s=>decide (s≠u)).flatMap rvs
theorem rest_mem {rvs:List UInt8→List Rv} {U:List Ent} {u:List UInt8} {r:Rv} (h:r∈restOf rvs U u):∃ s,s≠u∧r∈rvs s:=by
 unfold restOf at h
 obtain ⟨s,hs,hr⟩:=List.mem_flatMap.1 h
 have:=(List.mem_filter.1 hs).2
 exact ⟨s,by simpa using this,hr⟩
variable {w w1:World} {m:Nat} {U:List Ent} {rows:List UInt8→List Rw} {rvs:List UInt8→List Rv} {L L':List Rv}
theorem Body.rest (h:Body w m U rows rvs L) (u:List UInt8):(rvs u++restOf rvs U u).Perm L:=by
 refine (keys_split rvs u _ h.map.nodup ?_).symm.trans ?_
 ·by_cases c:u∈U.map (·.1)
  ·exact .inl c
  ·exact .inr (h.gone u (fun p hp e=>c (List.mem_map.2 ⟨p,hp,e⟩)))
 ·rw[←all_keys];exact h.perm
theorem Body.put (h:Body w m U rows rvs L) {u:List UInt8} {v:Value} {X:List Rw} {R:List Rv} (hM:MapU w1 m (putU U u v)) (hg:w.grownBy w1 (some m)) (hX:SliRw w1 v X) (hR:RwsF w1 X R) (hne:R≠[]) (hu:∀ r∈R,r.u=u)
  (hp:(R++restOf rvs U u).Perm L') (hG:GoodL L') (hs:∀ r∈L',r.small):Body w1 m (putU U u v) (updF rows u X) (updF rvs u R) L':=by
 have hk:=keepI_grown hg (noInt_map h.map)
 have hn:=h.map.nodup
 refine ⟨hM,fun p hp => ?_,fun s hs => ?_,fun p hp => ?_,fun s => ?_,fun s r hr => ?_, ?_,hG,hs⟩
 ·rcases mem_put hn hp with rfl | ⟨h1,h2⟩
  ·show SliRw w1 v (updF rows u X u)
   rw[updF_same];exact hX
  ·rw[updF_other _ _ h2];exact (h.ok p h1).keepI hk
 ·have c:s≠u:=fun e=>hs _ (mem_put_self U u v) e.symm
  rw[updF_other _ _ c]
  exact h.gone s (fun p hp e=>hs p (mem_put_old hp (by rw[e];exact c)) e)
 ·rcases mem_put hn hp with rfl | ⟨h1,h2⟩
  ·show updF rvs u R u≠[]
   rw[updF_same];exact hne
  ·rw[updF_other _ _ h2];exact h.full p h1
 ·by_cases c:s=u
  ·subst c
   rw[updF_same,updF_same];exact hR
  ·rw[updF_other _ _ c,updF_other _ _ c];exact (h.vals s).keepI hk
 ·by_cases c:s=u
  ·subst c
   rw[updF_same] at hr;exact hu r hr
  ·rw[updF_other _ _ c] at hr;exact h.user s r hr
 ·rw[all_keys]
  refine (keys_split (updF rvs u R) u _ hM.nodup (.inl (List.mem_map.2 ⟨_,mem_put_self U u v,rfl⟩))).trans ?_
  rw[put_filter,flat_upd,updF_same]
  exact hp
theorem Body.del (h:Body w m U rows rvs L) {u:List UInt8} (hM:MapU w1 m (delU U u)) (hg:w.grownBy w1 (some m)) (hp:(restOf rvs U u).Perm L') (hG:GoodL L') (hs:∀ r∈L',r.small):Body w1 m (delU U u) (updF rows u []) (updF rvs u []) L':=by
 have hk:=keepI_grown hg (noInt_map h.map)
 have hn:=h.map.nodup
 refine ⟨hM,fun p hp => ?_,fun s hs => ?_,fun p hp => ?_,fun s => ?_,fun s r hr => ?_, ?_,hG,hs⟩
 ·obtain ⟨h1,h2⟩:=(mem_del hn).1 hp
  rw[updF_other _ _ h2];exact (h.ok p h1).keepI hk
 ·by_cases c:s=u
  ·subst c;rw[updF_same]
  ·rw[updF_other _ _ c]
   exact h.gone s (fun p hp e=>hs p ((mem_del hn).2 ⟨hp,by rw[e];exact c⟩) e)
 ·obtain ⟨h1,h2⟩:=(mem_del hn).1 hp
  rw[updF_other _ _ h2];exact h.full p h1
 ·by_cases c:s=u
  ·subst c
   rw[updF_same,updF_same];exact rwsF_nil w1
  ·rw[updF_other _ _ c,updF_other _ _ c];exact (h.vals s).keepI hk
 ·by_cases c:s=u
  ·subst c
   rw[updF_same] at hr;simp at hr
  ·rw[updF_other _ _ c] at hr;exact h.user s r hr
 ·rw[all_keys]
  refine (keys_split (updF rvs u []) u _ hM.nodup (.inr (updF_same _ _ _))).trans ?_
  rw[del_keys U u hn,List.filter_filter]
  simp only[Bool.and_self]
  rw[flat_upd,updF_same]
  exact hp
theorem erase_ids {L:List Rv} {id:Int}:∀ {i:Nat},(L.map (·.id)).Nodup→atS L id=some i→L.eraseIdx i=L.filter (fun r=>decide (r.id≠id)):=by
 intro i hn h
 obtain ⟨hi,he,hq⟩:=atS_some h
 clear h hq
 induction L generalizing i with
 | nil=>simp at hi
 | cons x L ih =>
  rw[List.map_cons,List.nodup_cons] at hn
  obtain ⟨hx,hn⟩:=hn
  match i,hi,he with
  | 0, _, he =>
   simp only[List.getElem_cons_zero] at he
   rw[List.eraseIdx_cons_zero,List.filter_cons_of_neg (by simp[he])]
   symm
   rw[List.filter_eq_self]
   intro r hr
   simp only[decide_eq_true_eq]
   intro e
   exact hx (List.mem_map.2 ⟨r,hr,by rw[e,he]⟩)
  | i+1, hi, he =>
   simp only[List.getElem_cons_succ] at he
   have hi':i<L.length:=by simpa using hi
   have hd:decide (x.id≠id)=true:=decide_eq_true fun e=>hx (List.mem_map.2 ⟨L[i],List.getElem_mem hi',by rw[he,e]⟩)
   rw[List.eraseIdx_cons_succ,List.filter_cons_of_pos (by exact hd),ih hn hi' he]
theorem Body.erase (h:Body w m U rows rvs L) {id:Int} {i:Nat} {r:Rv} (hi:atS L id=some i) (hr:L[i]? = some r):r∈rvs r.u∧r.id=id∧(((rvs r.u).filter fun x=>decide (x.id≠id))++restOf rvs U r.u).Perm (L.eraseIdx i):=by
 obtain ⟨hlt,he,_⟩:=atS_some hi
 have e1:L[i]=r:=by rw[List.getElem?_eq_getElem hlt] at hr;exact Option.some.inj hr
 have hm:r∈L:=e1 ▸ List.getElem_mem hlt
 have hid:r.id=id:=by rw[←e1];exact he
 have hru:r∈rvs r.u:=by
  obtain ⟨p,hp,hr2⟩:=allRv_mem.1 (h.perm.mem_iff.2 hm)
  have:=h.user p.1 r hr2
  rw[this];exact hr2
 refine ⟨hru,hid, ?_⟩
 rw[erase_ids h.good.ids hi]
 have hp:=h.rest r.u
 have hpf:=hp.filter (fun x=>decide (x.id≠id))
 rw[List.filter_append] at hpf
 have hrest:(restOf rvs U r.u).filter (fun x=>decide (x.id≠id))=restOf rvs U r.u:=by
  rw[List.filter_eq_self]
  intro x hx
  simp only[decide_eq_true_eq]
  intro e
  have hn:((rvs r.u++restOf rvs U r.u).map (·.id)).Nodup:=((hp.map (·.id)).nodup_iff).2 h.good.ids
  rw[List.map_append,List.nodup_append] at hn
  exact hn.2.2 _ (List.mem_map.2 ⟨r,hru,rfl⟩) _ (List.mem_map.2 ⟨x,hx,rfl⟩) (by rw[hid,e])
 rw[hrest] at hpf
 exact hpf
theorem Body.insert (h:Body w m U rows rvs L) (r:Rv):((rvs r.u++[r])++restOf rvs U r.u).Perm (insS L r):=by
 refine List.Perm.trans ?_ (insS_perm L r).symm
 rw[List.append_assoc,List.singleton_append]
 exact (List.perm_middle).trans ((h.rest r.u).cons r)
end
section
open Go.ChangeShapes Go.WideShapes Go.ChangeAt Go.RowKit
attribute [local irreducible] Go.Calls
theorem sliRw_blk {w:World} {p:Nat} {l:List Rw} {t:TypeId} (h:Blk w p (cellsRw l).toArray t) (hf:∀ x∈l,x.fit) (hl:l.length≤1000000):SliRw w (.slice (some ⟨p,0,none⟩) l.length l.length) l:=by
 refine ⟨_,_,rfl,Nat.le_refl _,by omega,(fun e=>by cases e),fun _=>⟨p,0,rfl,h.lt,fun i j hi hj => ?_⟩,hf⟩
 rw[Nat.zero_add,h.cell,List.getElem?_toArray,cellsRw_get l i j hi hj]
theorem sliRw_new1 (w:World) {x:Rw} (hf:x.fit):SliRw (w.alloc (Obj.cells (cellsRw [x]).toArray 50)) (.slice (some ⟨w.heap.size,0,none⟩) 1 1) [x] :=
 sliRw_blk (l:=[x]) (Blk.made w _ _) (fun y hy=>by rw[List.mem_singleton.1 hy];exact hf) (by simp)
set_option maxRecDepth 100000 in
theorem grow_c (n:Nat) (hn:n≤1000000) (w:World):Calls Tryz.prog 214 #[.slice none 0 0,.int .i64 n] w fun e w'=>∃ v,e = .returned v∧w'.ownsRow w.heap.size 50 8 v 0 []∧Below w.heap.size w w':=by
 obtain ⟨ix,hix,hz0,hz1,hz2⟩:=info_parts Tryz.infoRsv
 have HI:=hidE hix;have HZ0:=hidE hz0;have HZ1:=hidE hz1;have HZ2:=hidE hz2
 clear hix hz0 hz1 hz2
 by_cases h0:n=0
 ·subst h0
  go_enter Tryz.func214,Tryz.ntmps214
  go_wp2
  go_ret
  exact ⟨_,rfl,own_nil _ _ _,Below.refl _ _⟩
 ·have hp:0<n:=by omega
  have d1:decide ((n:Int)<0)=false:=decide_eq_false (by omega)
  have d2:decide ((0:Int)<(n:Int))=true:=decide_eq_true (by omega)
  have HP:=hidE hp
  clear h0 hp
  go_enter Tryz.func214,Tryz.ntmps214
  go_wp2_with (at_builtin;go_loud (refine list_appZ rfl (.tmp 20) (.tmp 21) 31 3 rfl w.heap.size 50 ix _ .i64 8 112 Tryz.underlying31 Tryz.underlying3 HI.out HZ0.out HZ1.out HZ2.out rfl (by decide) n rfl rfl HP.out (by omega) (by omega) (Nat.le_refl _) ?_);intro bb cap w5 own1 hcap hb5)
  have HO:=hidE own1;have HB5:=hidE hb5
  clear own1 hb5
  go_ret
  exact ⟨_,rfl,HO.out,HB5.out⟩
set_option maxRecDepth 100000 in
set_option maxHeartbeats 4000000 in
theorem concat_c {b:Nat} {v1 v2:Value} {X Y:List Rw} {t:TypeId} (w:World) (hB:Blk w b #[v1,v2] t) (h1:SliRw w v1 X) (h2:SliRw w v2 Y) (hl:X.length+Y.length≤1000000) :
  Calls Tryz.prog 195 #[.slice (some ⟨b,0,none⟩) 2 2] w fun e w'=>∃ v,e = .returned v∧SliRw w' v (X++Y)∧Below w.heap.size w w':=by
 obtain ⟨ix,hix,hz0,hz1,hz2⟩:=info_parts Tryz.infoRsv
 have HI:=hidE hix;have HZ0:=hidE hz0;have HZ1:=hidE hz1;have HZ2:=hidE hz2
 clear hix hz0 hz1 hz2
 obtain ⟨a1,c1,rfl,_⟩:=id h1
 obtain ⟨a2,c2,rfl,_⟩:=id h2
 have HB:=hidE hB;have H1:=hidE h1;have H2:=hidE h2;have HL:=hidE hl
 have b0:=hB.cell 0;have b1:=hB.cell 1;have bz:=hB.lt
 simp at b0 b1
 have hnx:decide ((X.length:Int)<0)=false:=decide_eq_false (by omega)
 have hnn:decide ((X.length:Int)+(Y.length:Int)<0)=false:=decide_eq_false (by omega)
 have HG:=hidE (fun w=>(show Calls Tryz.prog 214 #[.slice none 0 0,.int .i64 ((X.length:Int)+(Y.length:Int))] w fun e w'=>∃ v,e = .returned v∧w'.ownsRow w.heap.size 50 8 v 0 []∧Below w.heap.size w w' from by
  have:=grow_c (X.length+Y.length) (by omega) w
  rwa [Int.natCast_add] at this))
 clear hB h1 h2
 go_enter Tryz.func195,Tryz.ntmps195
 go_wp2
 refine wp_loop_rounds 3 ?_
 rw[rounds_succ]
 go_wp2
 rw[rounds_succ]
 go_wp2
 rw[rounds_succ]
 go_wp2_with fail
 ((with_reducible refine (HG.out _).mono ?_);rintro e w1 ⟨v0,rfl,ho1,hb1⟩)
 have hs1:=(H1.out.past hb1).src;have hs2:=H2.out.past hb1
 have hz1:=hb1.size
 have e0:=(hb1.cell bz (p:=⟨b,0,none⟩)).trans b0;have e1:=(hb1.cell bz (p:=⟨b,1,none⟩)).trans b1
 have ez:b<w1.heap.size:=Nat.lt_of_lt_of_le bz hz1
 obtain ⟨a0,c0,rfl⟩:=own_sli ho1
 have HO1:=hidE ho1;have HB1:=hidE hb1;have HS1:=hidE hs1;have HS2:=hidE hs2
 clear ho1 hb1 hs1 hs2 b0 b1 bz
 go_wp2
 refine wp_loop_rounds 3 ?_
 rw[rounds_succ]
 go_wp2_with (at_builtin;go_loud (refine list_appW rfl (.tmp 31) (.tmp 32) 31 rfl w.heap.size 50 ix _ 8 112 Tryz.underlying31 HI.out HZ0.out HZ1.out HZ2.out rfl (by decide) (.slice a0 0 c0) 0 [] rfl HO1.out _ X.length (cellsRw X) rfl HS1.out (by omega) (by omega) hz1 ?_);intro v2 w2 own2 hg2)
 rw[Nat.zero_add,List.nil_append] at own2
 have hb2:Below w.heap.size w w2:=Below.grown HB1.out hg2 hz1 (fun k e=>own_block HO1.out e)
 have hs2:=(H2.out.past hb2).src
 have hz2:=hb2.size
 have f0:=(hb2.cell (p:=⟨b,0,none⟩) HB.out.lt).trans (HB.out.cell 0);have f1:=(hb2.cell (p:=⟨b,1,none⟩) HB.out.lt).trans (HB.out.cell 1)
 have fz:b<w2.heap.size:=Nat.lt_of_lt_of_le HB.out.lt hz2
 simp at f0 f1
 obtain ⟨a2',c2',rfl⟩:=own_sli own2
 have HO2:=hidE own2;have HB2:=hidE hb2;have HS2':=hidE hs2
 clear own2 hg2 hb2 hs2 e0 e1 ez hz1 HO1 HB1 HS1 HS2
 rw[rounds_succ]
 go_wp2_with (at_builtin;go_loud (refine list_appW rfl (.tmp 31) (.tmp 32) 31 rfl w.heap.size 50 ix _ 8 112 Tryz.underlying31 HI.out HZ0.out HZ1.out HZ2.out rfl (by decide) (.slice a2' X.length c2') X.length (cellsRw X) rfl HO2.out _ Y.length (cellsRw Y) rfl HS2'.out (by omega) (by omega) hz2 ?_);intro v3 w3 own3 hg3)
 have hb3:Below w.heap.size w w3:=Below.grown HB2.out hg3 hz2 (fun k e=>own_block HO2.out e)
 have hR:SliRw w3 v3 (X++Y):=by
  refine sliRw_own (B:=w.heap.size) (e:=50) ?_ (fun x hx => ?_)
  ·rw[List.length_append,cellsRw_app];exact own3
  ·rcases List.mem_append.1 hx with hx | hx
   ·obtain ⟨_,_,_,_,_,_,_,hf⟩:=H1.out
    exact hf x hx
   ·obtain ⟨_,_,_,_,_,_,_,hf⟩:=H2.out
    exact hf x hx
 obtain ⟨a3',c3',rfl⟩:=own_sli own3
 have HR:=hidE hR;have HB3:=hidE hb3
 clear own3 hg3 hb3 hR f0 f1 fz hz2 HO2 HB2 HS2'
 rw[rounds_succ]
 go_wp2
 go_ret
 exact ⟨_,rfl,HR.out,HB3.out⟩
def tupR (F:List Sg) (er:Int):Value→World→Prop:=fun v w=>∃ sv,v = .tuple #[sv,.int .i64 er]∧SliS w sv F
theorem stab_tup (F:List Sg) (er:Int):Stab (tupR F er):=fun _ _ _ ⟨sv,e,h⟩ hb=>⟨sv,e,h.past hb⟩
def sliF (F:List Sg):Value→World→Prop:=fun v w=>SliS w v F
theorem stab_sliF (F:List Sg):Stab (sliF F):=fun _ _ _ h hb=>h.past hb
def twoR (v1 v2:Value) (t:TypeId):Value→World→Prop:=fun v w=>∃ p,v = .slice (some ⟨p,0,none⟩) 2 2∧Blk w p #[v1,v2] t
theorem stab_two (v1 v2:Value) (t:TypeId):Stab (twoR v1 v2 t):=fun _ _ _ ⟨p,e,h⟩ hb=>⟨p,e,h.past hb⟩
def rowR (X:List Rw):Value→World→Prop:=fun v w=>SliRw w v X
theorem stab_row (X:List Rw):Stab (rowR X):=fun _ _ _ h hb=>h.past hb
def cpyR (r:Rv):Value→World→Prop:=fun v w=>∃ x,v=rwV x∧RwF w x r∧x.fit
theorem stab_cpy (r:Rv):Stab (cpyR r):=fun _ _ _ ⟨x,e,h,hf⟩ hb=>⟨x,e,h.past hb,hf⟩
def oneR (r:Rv):Value→World→Prop:=fun v w=>∃ x,SliRw w v [x]∧RwF w x r
theorem stab_one (r:Rv):Stab (oneR r):=fun _ _ _ ⟨x,h,hf⟩ hb=>⟨x,h.past hb,hf.past hb⟩
def pairR (X:List Rw) (r:Rv) (t:TypeId):Value→World→Prop:=fun v w=>∃ p v1 v2 x,v = .slice (some ⟨p,0,none⟩) 2 2∧Blk w p #[v1,v2] t∧SliRw w v1 X∧SliRw w v2 [x]∧RwF w x r
theorem stab_pair (X:List Rw) (r:Rv) (t:TypeId):Stab (pairR X r t):=fun _ _ _ ⟨p,v1,v2,x,e,h,h1,h2,h3⟩ hb=>⟨p,v1,v2,x,e,h.past hb,h1.past hb,h2.past hb,h3.past hb⟩
def moreR (X:List Rw) (r:Rv):Value→World→Prop:=fun v w=>∃ x,SliRw w v (X++[x])∧RwF w x r
theorem stab_more (X:List Rw) (r:Rv):Stab (moreR X r):=fun _ _ _ ⟨x,h,hf⟩ hb=>⟨x,h.past hb,hf.past hb⟩
theorem ldR_keepI {M:List (List Sg)} {v:Value} {w w':World} (h:ldR M v w) (hk:KeepI w w'):ldR M v w':=by
 obtain ⟨A,h1,h2⟩:=h
 exact ⟨A,h1.keepI hk,h2⟩
theorem fns_ins (L:List Rv) (r:Rv):(fnsS L++[r.A]).Perm (fnsS (insS L r)):=by
 have:=(insS_perm L r).symm.map (·.A)
 refine List.Perm.trans ?_ this
 rw[List.map_cons]
 exact List.perm_append_comm
theorem cadd_two {w:World} {p:Nat} {v1 v2:Value} {F G R:List Sg} {er:Int} {t:TypeId} (h:Blk w p #[v1,v2] t) (h1:SliS w v1 F) (h2:SliS w v2 G) (he:sumS [F,G]=(R,er)) (hl:lenR [F,G]≤999999990):Calls Tryz.prog 93 #[.slice (some ⟨p,0,none⟩) 2 2] w (OfIs w R er):=by
 have:=cadd_c [F,G] (some ⟨p,0,none⟩) 2 w (by simp) hl (argQ_twoP h h1 h2)
 rw[he] at this
 exact this
structure Dr (w:World) (d m:Nat) (vc:Value) (L:List Rv):Prop where
 has:∃ U rows rvs vs,Blk w d #[vc,.map (some m),vs] 112∧Body w m U rows rvs L∧ldR (fnsS L) vs w
theorem ldR_sli {M:List (List Sg)} {v:Value} {w:World} (h:ldR M v w):∃ a n c,v = .slice a n c:=by
 obtain ⟨A,⟨a,cap,e,_⟩,_⟩:=h
 exact ⟨a,_,cap,e⟩
structure Two (d m:Nat) (w w':World):Prop where
 os:w'.os=w.os
 tape:w'.tape=w.tape
 output:w'.output=w.output
 size:w.heap.size≤w'.heap.size
 block:∀ k,k<w.heap.size→k≠d→k≠m→w'.heap[k]? = w.heap[k]?
theorem Two.trans {d m:Nat} {w w' w'':World} (h:Two d m w w') (h':Two d m w' w''):Two d m w w'' :=
 ⟨h'.os.trans h.os,h'.tape.trans h.tape,h'.output.trans h.output,Nat.le_trans h.size h'.size,fun k hk h1 h2=>(h'.block k (Nat.lt_of_lt_of_le hk h.size) h1 h2).trans (h.block k hk h1 h2)⟩
theorem two_below {d m:Nat} {w w':World} (h:Below w.heap.size w w'):Two d m w w':=⟨h.os,h.tape,h.output,h.size,fun k hk _ _=>h.block k hk⟩
theorem two_fst {d m:Nat} {w w':World} (h:w.grownBy w' (some d)):Two d m w w':=⟨(Below.grown (Below.refl 0 w) h (Nat.zero_le _) (fun _ _=>Nat.zero_le _)).os,(Below.grown (Below.refl 0 w) h (Nat.zero_le _) (fun _ _=>Nat.zero_le _)).tape,(Below.grown (Below.refl 0 w) h (Nat.zero_le _) (fun _ _=>Nat.zero_le _)).output,h.size,fun k hk h1 _=>h.block k hk (fun e=>h1 (by cases e;rfl))⟩
theorem two_snd {d m:Nat} {w w':World} (h:w.grownBy w' (some m)):Two d m w w':=⟨(two_fst (m:=m) h).os,(two_fst (m:=m) h).tape,(two_fst (m:=m) h).output,h.size,fun k hk _ h2=>h.block k hk (fun e=>h2 (by cases e;rfl))⟩
theorem Two.below {B d m:Nat} {w w':World} (h:Two d m w w') (hd:B≤d) (hm:B≤m) (hB:B≤w.heap.size):Below B w w':=⟨h.os,h.tape,h.output,h.size,fun k hk=>h.block k (by omega) (by omega) (by omega)⟩
theorem Two.blk {d m k:Nat} {w w':World} {cs:Array Value} {t:TypeId} (h:Two d m w w') (hb:Blk w k cs t) (h1:k≠d) (h2:k≠m):Blk w' k cs t:=(h.block k hb.lt h1 h2).trans hb
def InsIs (w:World) (d m:Nat) (vc:Value) (L:List Rv) (r:Rv) (e:Ending) (w':World):Prop:=Two d m w w' ∧
 ((sumOk (insS L r)=true∧e = .returned (.int .i64 0)∧Dr w' d m vc (insS L r))∨(sumOk (insS L r)=false∧e = .returned (.int .i64 10)))
set_option maxRecDepth 100000 in
set_option maxHeartbeats 8000000 in
theorem insert_c {d m:Nat} {a n c} {L:List Rv} {x:Rw} {r:Rv} (w:World) (hD:Dr w d m (.slice a n c) L) (hx:RwF w x r) (hr:r.ok=true) (hs:r.small) (hid:∀ y∈L,y.id≠r.id) (hn:L.length<128) :
  Calls Tryz.prog 166 #[.pointer (some ⟨d,0,none⟩),rwV x] w (InsIs w d m (.slice a n c) L r):=by
 obtain ⟨U,rows,rvs,vs,hB,hP,hS⟩:=hD.has
 have hgo:=hP.good
 have hsum:=sumOk_iff (insS_ok hgo hr)
 have hfp:∀ F∈fnsS L++[r.A],posB F=true:=fun F hF=>by
  rcases List.mem_append.1 hF with hF | hF
  ·exact fns_pos hgo.ok F hF
  ·rw[List.mem_singleton.1 hF];exact rok_pos hr
 obtain ⟨A0,hA0,hL0⟩:=id hS
 obtain ⟨F,er,hFe,hcase⟩:∃ F er,sumS [A0,r.A]=(F,er)∧((sumOk (insS L r)=true∧er=0∧Loads (fnsS (insS L r)) F)∨(sumOk (insS L r)=false∧er=10)):=by
  rcases loads_two hfp hL0 (loads_one (rok_pos hr)) with ⟨h1,C,h2,h3⟩ | ⟨h1,h2⟩
  ·exact ⟨C,0,h2,.inl ⟨hsum.2 (inR_perm (fns_ins L r) h1),rfl,loads_perm (fns_ins L r) h3⟩⟩
  ·refine ⟨[],10,h2,.inr ⟨?_,rfl⟩⟩
   cases e:sumOk (insS L r)
   ·rfl
   ·exact absurd (inR_perm (fns_ins L r).symm (hsum.1 e)) h1
 have hlenA:lenR [A0,r.A]≤999999990:=by
  have h1:=hL0.2.2
  have h2:=lenR_le hgo.ok
  have h3:=rok_len hr
  simp only[lenR,List.map_cons,List.map_nil,List.sum_cons,List.sum_nil] at *
  omega
 have hxu:x.u=r.u:=hx.u
 have hul:r.u.length≤maxLen:=by have:=hs.2.2.2;unfold maxLen;omega
 have hfit:=hx.fit hul
 obtain ⟨avs,nvs,cvs,hvs⟩:=ldR_sli hS
 subst hvs
 have hds:=hB.lt
 obtain ⟨xi,xq,xu,xf,xt,xT,xW,xA⟩:=x
 obtain ⟨⟨a5,n5,c5,q5⟩,⟨a6,n6,c6,q6⟩,⟨a7,n7,c7,q7⟩,_⟩:=id hfit
 simp only at q5 q6 q7 hxu
 subst q5 q6 q7 hxu
 obtain ⟨w0,hw0⟩:∃ w0,w0=w.alloc (Obj.cells #[.int .u32 xi,.int .u32 xq,nmV r.u,.int .i64 xf,.int .i64 xt,.slice a5 n5 c5,.slice a6 n6 c6,.slice a7 n7 c7] 50):=⟨_,rfl⟩
 obtain ⟨pb,hpb⟩:∃ pb,pb=w.heap.size:=⟨_,rfl⟩
 have hb0:Below w.heap.size w w0:=by rw[hw0];(repeat (first | exact Below.refl _ _ | assumption | refine balloc ?_ _ | refine below_drewN ?_ _ | refine bstep (by assumption) ?_ | refine bstep (Past.prop _) ?_ | refine Below.setCell ?_ (by first | exact Nat.le_refl _ | (simp;done) | (simp;omega)) _))
 have B0:Blk w0 pb #[.int .u32 xi,.int .u32 xq,nmV r.u,.int .i64 xf,.int .i64 xt,.slice a5 n5 c5,.slice a6 n6 c6,.slice a7 n7 c7] 50:=by rw[hw0,hpb];exact Blk.made _ _ _
 have hBw:=hB.past hb0
 have HBW:=hidE hBw;have HB0:=hidE B0;have HP:=hidE (hP.past hb0);have HX:=hidE (hx.past hb0);have HBB:=hidE hb0
 have HA0:=hidE (hA0.past hb0);have HXA:=hidE (hx.a.1.past hb0)
 have HFE:=hidE hFe;have HCA:=hidE hcase;have HLA:=hidE hlenA;have HGO:=hidE hgo;have HR:=hidE hr;have HSM:=hidE hs;have HID:=hidE hid;have HN:=hidE hn;have HUL:=hidE hul;have HDS:=hidE hds
 have HPB:=hidE hpb
 go_enter Tryz.func166,Tryz.ntmps166
 go_upto_region 1 with fail
 rw[←hw0,←hpb]
 have q0:=hBw.cell 0;have q1:=hBw.cell 1;have q2:=hBw.cell 2;have qz:=hBw.lt
 have b0:=B0.cell 0;have b2:=B0.cell 2;have b7:=B0.cell 7;have bz:=B0.lt
 simp at q0 q1 q2 b0 b2 b7
 clear hw0 hB hP hS hA0 hL0 hsum hfp hFe hcase hlenA hgo hx hr hs hid hn hul hfit hb0 hpb hBw B0 hD hds
 generalize hru:r.u=ru at *
 have HRU:=hidE hru
 clear hru
 refine wp_region_J 13 [] (nthR [detR (.pointer (some ⟨d,0,none⟩)),detR (.pointer (some ⟨d,0,none⟩)),detR (.pointer (some ⟨d,2,none⟩)),detR (.slice avs nvs cvs),detR (.pointer (some ⟨pb,7,none⟩)),detR (.slice a7 n7 c7),twoR (.slice avs nvs cvs) (.slice a7 n7 c7) 22,tupR F er,tupR F er,sliF F,detR (.int .i64 er),sliF F,detR (.int .i64 er)]) (fun _=>false) (by kernel_rfl) (by decide) (by kernel_rfl) (stab_nth (by intro r hr;simp only[List.mem_cons,List.not_mem_nil,or_false] at hr;rcases hr with rfl | rfl | rfl | rfl | rfl | rfl | rfl | rfl | rfl | rfl | rfl | rfl | rfl<;>first | exact stab_det _ | exact stab_two _ _ _ | exact stab_tup _ _ | exact stab_sliF _)) ?_ ?_ ?_
 ·intro i o hi ho
  match i,hi with
  | 0, _ =>
   obtain rfl:=Option.some.inj ho
   intro u x hd
   have hc:=Past.cell x
   simp[go_sem,gives,frm,Act.put,nthR,detR,Region.wanted,Below.refl]
  | 1, _ =>
   obtain rfl:=Option.some.inj ho
   intro u x hd
   have hc:=Past.cell x
   have d0:=hd 0 (by decide) (by kernel_rfl)
   simp only[nthR,detR,List.getD_cons_zero] at d0
   simp[go_sem,gives,frm,Act.put,nthR,detR,Region.wanted,Below.refl,d0]
  | 2, _ =>
   obtain rfl:=Option.some.inj ho
   intro u x hd
   have hc:=Past.cell x
   have d1:=hd 1 (by decide) (by kernel_rfl)
   simp only[nthR,detR,List.getD_cons_zero,List.getD_cons_succ] at d1
   simp[go_sem,gives,frm,Act.put,nthR,detR,Region.wanted,Below.refl,d1]
  | 3, _ =>
   obtain rfl:=Option.some.inj ho
   intro u x hd
   have hc:=Past.cell x
   have d2:=hd 2 (by decide) (by kernel_rfl)
   simp only[nthR,detR,List.getD_cons_zero,List.getD_cons_succ] at d2
   simp[go_sem,gives,frm,Act.put,nthR,detR,Region.wanted,Below.refl,hc,d2,q2,qz]
  | 4, _ =>
   obtain rfl:=Option.some.inj ho
   intro u x hd
   have hc:=Past.cell x
   simp[go_sem,gives,frm,Act.put,nthR,detR,Region.wanted,Below.refl]
  | 5, _ =>
   obtain rfl:=Option.some.inj ho
   intro u x hd
   have hc:=Past.cell x
   have d4:=hd 4 (by decide) (by kernel_rfl)
   simp only[nthR,detR,List.getD_cons_zero,List.getD_cons_succ] at d4
   simp[go_sem,gives,frm,Act.put,nthR,detR,Region.wanted,Below.refl,hc,d4,b7,bz]
  | 6, _ =>
   obtain rfl:=Option.some.inj ho
   intro u x hd
   have hc:=Past.cell x
   have d3:=hd 3 (by decide) (by kernel_rfl)
   have d5:=hd 5 (by decide) (by kernel_rfl)
   simp only[nthR,detR,List.getD_cons_zero,List.getD_cons_succ] at d3 d5
   simp[go_sem,gives,frm,Act.put,nthR,Region.wanted,d3,d5]
   exact ⟨by (repeat (first | exact Below.refl _ _ | assumption | refine balloc ?_ _ | refine below_drewN ?_ _ | refine bstep (by assumption) ?_ | refine bstep (Past.prop _) ?_ | refine Below.setCell ?_ (by first | exact Nat.le_refl _ | (simp;done) | (simp;omega)) _)),_,rfl,Blk.made _ _ _⟩
  | 7, _ =>
   obtain rfl:=Option.some.inj ho
   intro u x hd
   have hc:=Past.cell x
   obtain ⟨p,e6,h6⟩:∃ p,u 6 = .slice (some ⟨p,0,none⟩) 2 2∧Blk x.1 p #[.slice avs nvs cvs,.slice a7 n7 c7] 22:=hd 6 (by decide) (by kernel_rfl)
   simp[go_sem,gives,frm,Act.put,nthR,Region.wanted,e6]
   (with_reducible refine (cadd_two h6 (HA0.out.past (Past.prop x)) (HXA.out.past (Past.prop x)) HFE.out HLA.out).mono ?_);rintro e w3 ⟨v,rfl,hv,hb3⟩;exact ⟨_,rfl,hb3,⟨v,rfl,hv⟩⟩
  | 8, _ =>
   obtain rfl:=Option.some.inj ho
   intro u x hd
   have hc:=Past.cell x
   have h7:tupR F er (u 7) x.1:=hd 7 (by decide) (by kernel_rfl)
   simp[go_sem,gives,frm,Act.put,nthR,Region.wanted,Below.refl]
   exact h7
  | 9, _ =>
   obtain rfl:=Option.some.inj ho
   intro u x hd
   have hc:=Past.cell x
   have h8:∃ sv,u 8 = .tuple #[sv,.int .i64 er]∧SliS x.1 sv F:=hd 8 (by decide) (by kernel_rfl)
   have e8:=h8.choose_spec.1;have hs1:=h8.choose_spec.2;generalize h8.choose=sv at *
   simp[go_sem,gives,frm,Act.put,nthR,Region.wanted,Below.refl,e8]
   exact hs1
  | 10, _ =>
   obtain rfl:=Option.some.inj ho
   intro u x hd
   have hc:=Past.cell x
   have h8:∃ sv,u 8 = .tuple #[sv,.int .i64 er]∧SliS x.1 sv F:=hd 8 (by decide) (by kernel_rfl)
   have e8:=h8.choose_spec.1;have hs1:=h8.choose_spec.2;generalize h8.choose=sv at *
   simp[go_sem,gives,frm,Act.put,nthR,Region.wanted,Below.refl,detR,e8]
  | 11, _ =>
   obtain rfl:=Option.some.inj ho
   intro u x hd
   have hc:=Past.cell x
   have h9:SliS x.1 (u 9) F:=hd 9 (by decide) (by kernel_rfl)
   simp[go_sem,gives,frm,Act.put,nthR,Region.wanted,Below.refl]
   exact h9
  | 12, _ =>
   obtain rfl:=Option.some.inj ho
   intro u x hd
   have hc:=Past.cell x
   have h10:u 10 = .int .i64 er:=hd 10 (by decide) (by kernel_rfl)
   simp[go_sem,gives,frm,Act.put,nthR,Region.wanted,Below.refl,detR,h10]
  | i+13,h=>exact absurd h (by omega)
 ·intro i o hx ho
  simp at hx
 ·intro u x9 hu hne
  have h11:SliS x9.1 (u 11) F:=hu 11 (by decide)
  have e12:u 12 = .int .i64 er:=hu 12 (by decide)
  obtain ⟨vb,e11⟩:∃ vb,u 11=vb:=⟨_,rfl⟩
  rw[e11] at h11
  simp only[frm,List.take,Act.put,e11,e12]
  have hb9:=x9.2
  have HB9:=hidE hb9
  obtain ⟨aF,cF,eF,_⟩:=id h11
  subst eF
  have H11:=hidE h11
  clear hu hne e11 e12 h11 q0 q1 q2 qz b0 b2 b7 bz hb9
  generalize x9.1=w9 at *
  rcases HCA.out with ⟨hok,rfl,hld⟩ | ⟨hno,rfl⟩
  ·have hB9:=HBW.out.past HB9.out
   have hP9:=HP.out.past HB9.out
   obtain ⟨w10,hw10⟩:∃ w10,w10=w9.setCell ⟨d,2,none⟩ (.slice aF F.length cF):=⟨_,rfl⟩
   have hg10:w9.grownBy w10 (some d):=by rw[hw10];exact grown_set _ _ _ _
   have hni:=noInt_three hB9
   have hk10:=keepI_grown hg10 hni
   have hmd:=hP9.map.ne_blk hB9
   have hP10:=hP9.keepI hg10 hni hmd
   have hB10:Blk w10 d #[.slice a n c,.map (some m),.slice aF F.length cF] 112:=by
    rw[hw10]
    simpa using hB9.set 2 (.slice aF F.length cF)
   have hX10:=(HX.out.past HB9.out).keepI hk10
   have hS10:=H11.out.keepI hk10
   have B010:Blk w10 pb #[.int .u32 xi,.int .u32 xq,nmV ru,.int .i64 xf,.int .i64 xt,.slice a5 n5 c5,.slice a6 n6 c6,.slice a7 n7 c7] 50:=(HB0.out.past HB9.out).grown hg10 (by have:=HPB.out;have:=HDS.out;simp;omega)
   have HP10:=hidE hP10;have HB10:=hidE hB10;have HX10:=hidE hX10;have HS10:=hidE hS10;have HB010:=hidE B010;have HG10:=hidE hg10;have HMD:=hidE hmd
   have HOK:=hidE hok;have HLD:=hidE hld
   have hdz9:=hB9.lt
   have df9:=hB9.free 2
   have dc9:=hB9.cell 2
   simp at dc9
   clear hB9 hP9 hg10 hni hk10 hP10 hB10 hX10 hS10 B010 hok hld hmd
   go_upto_region 5 with fail
   rw[←hw10]
   clear hw10 hdz9 df9 dc9
   have q0:=HB10.out.cell 0;have q1:=HB10.out.cell 1;have qz:=HB10.out.lt
   have b0:=HB010.out.cell 0;have b1:=HB010.out.cell 1;have b2:=HB010.out.cell 2;have b3:=HB010.out.cell 3;have b4:=HB010.out.cell 4;have b5:=HB010.out.cell 5;have b6:=HB010.out.cell 6;have b7:=HB010.out.cell 7;have bz:=HB010.out.lt
   simp at q0 q1 b0 b1 b2 b3 b4 b5 b6 b7
   have HFW:=hidE (show ∀ x2:Rw,(rows ru).length+[x2].length≤1000000 from fun x2=>by simp only[List.length_singleton];have:=HP10.out.planC.few ru;have h2:=HP10.out.few ru;have h3:=(HP10.out.vals ru).1;omega)
   refine wp_region_J 20 [] (nthR [detR (.pointer (some ⟨d,0,none⟩)),detR (.pointer (some ⟨d,0,none⟩)),detR (.pointer (some ⟨d,0,none⟩)),detR (.pointer (some ⟨d,1,none⟩)),detR (.map (some m)),detR (.pointer (some ⟨pb,2,none⟩)),detR (nmV ru),detR (.pointer (some ⟨d,0,none⟩)),detR (.pointer (some ⟨d,0,none⟩)),detR (.pointer (some ⟨d,0,none⟩)),detR (.pointer (some ⟨d,1,none⟩)),detR (.map (some m)),detR (.pointer (some ⟨pb,2,none⟩)),detR (nmV ru),rowR (rows ru),detR (rwV ⟨xi,xq,ru,xf,xt,.slice a5 n5 c5,.slice a6 n6 c6,.slice a7 n7 c7⟩),cpyR r,oneR r,pairR (rows ru) r 31,moreR (rows ru) r]) (fun _=>false) (by kernel_rfl) (by decide) (by kernel_rfl) (stab_nth (by intro r hr;simp only[List.mem_cons,List.not_mem_nil,or_false] at hr;rcases hr with rfl | rfl | rfl | rfl | rfl | rfl | rfl | rfl | rfl | rfl | rfl | rfl | rfl | rfl | rfl | rfl | rfl | rfl | rfl | rfl<;>first | exact stab_det _ | exact stab_row _ | exact stab_cpy _ | exact stab_one _ | exact stab_pair _ _ _ | exact stab_more _ _)) ?_ ?_ ?_
   ·intro i o hi ho
    match i,hi with
    | 0, _ =>
     obtain rfl:=Option.some.inj ho
     intro u x hd
     have hc:=Past.cell x
     simp[go_sem,gives,frm,Act.put,nthR,detR,Region.wanted,Below.refl]
    | 1, _ =>
     obtain rfl:=Option.some.inj ho
     intro u x hd
     have hc:=Past.cell x
     have d0:=hd 0 (by decide) (by kernel_rfl)
     simp only[nthR,detR,List.getD_cons_zero] at d0
     simp[go_sem,gives,frm,Act.put,nthR,detR,Region.wanted,Below.refl,d0]
    | 2, _ =>
     obtain rfl:=Option.some.inj ho
     intro u x hd
     have hc:=Past.cell x
     have d1:=hd 1 (by decide) (by kernel_rfl)
     simp only[nthR,detR,List.getD_cons_zero,List.getD_cons_succ] at d1
     simp[go_sem,gives,frm,Act.put,nthR,detR,Region.wanted,Below.refl,d1]
    | 3, _ =>
     obtain rfl:=Option.some.inj ho
     intro u x hd
     have hc:=Past.cell x
     have d2:=hd 2 (by decide) (by kernel_rfl)
     simp only[nthR,detR,List.getD_cons_zero,List.getD_cons_succ] at d2
     simp[go_sem,gives,frm,Act.put,nthR,detR,Region.wanted,Below.refl,d2]
    | 4, _ =>
     obtain rfl:=Option.some.inj ho
     intro u x hd
     have hc:=Past.cell x
     have d3:=hd 3 (by decide) (by kernel_rfl)
     simp only[nthR,detR,List.getD_cons_zero,List.getD_cons_succ] at d3
     simp[go_sem,gives,frm,Act.put,nthR,detR,Region.wanted,Below.refl,hc,d3,q1,qz]
    | 5, _ =>
     obtain rfl:=Option.some.inj ho
     intro u x hd
     have hc:=Past.cell x
     simp[go_sem,gives,frm,Act.put,nthR,detR,Region.wanted,Below.refl]
    | 6, _ =>
     obtain rfl:=Option.some.inj ho
     intro u x hd
     have hc:=Past.cell x
     have d5:=hd 5 (by decide) (by kernel_rfl)
     simp only[nthR,detR,List.getD_cons_zero,List.getD_cons_succ] at d5
     simp[go_sem,gives,frm,Act.put,nthR,detR,Region.wanted,Below.refl,hc,d5,b2,bz]
    | 7, _ =>
     obtain rfl:=Option.some.inj ho
     intro u x hd
     have hc:=Past.cell x
     simp[go_sem,gives,frm,Act.put,nthR,detR,Region.wanted,Below.refl]
    | 8, _ =>
     obtain rfl:=Option.some.inj ho
     intro u x hd
     have hc:=Past.cell x
     have d7:=hd 7 (by decide) (by kernel_rfl)
     simp only[nthR,detR,List.getD_cons_zero,List.getD_cons_succ] at d7
     simp[go_sem,gives,frm,Act.put,nthR,detR,Region.wanted,Below.refl,d7]
    | 9, _ =>
     obtain rfl:=Option.some.inj ho
     intro u x hd
     have hc:=Past.cell x
     have d8:=hd 8 (by decide) (by kernel_rfl)
     simp only[nthR,detR,List.getD_cons_zero,List.getD_cons_succ] at d8
     simp[go_sem,gives,frm,Act.put,nthR,detR,Region.wanted,Below.refl,d8]
    | 10, _ =>
     obtain rfl:=Option.some.inj ho
     intro u x hd
     have hc:=Past.cell x
     have d9:=hd 9 (by decide) (by kernel_rfl)
     simp only[nthR,detR,List.getD_cons_zero,List.getD_cons_succ] at d9
     simp[go_sem,gives,frm,Act.put,nthR,detR,Region.wanted,Below.refl,d9]
    | 11, _ =>
     obtain rfl:=Option.some.inj ho
     intro u x hd
     have hc:=Past.cell x
     have d10:=hd 10 (by decide) (by kernel_rfl)
     simp only[nthR,detR,List.getD_cons_zero,List.getD_cons_succ] at d10
     simp[go_sem,gives,frm,Act.put,nthR,detR,Region.wanted,Below.refl,hc,d10,q1,qz]
    | 12, _ =>
     obtain rfl:=Option.some.inj ho
     intro u x hd
     have hc:=Past.cell x
     simp[go_sem,gives,frm,Act.put,nthR,detR,Region.wanted,Below.refl]
    | 13, _ =>
     obtain rfl:=Option.some.inj ho
     intro u x hd
     have hc:=Past.cell x
     have d12:=hd 12 (by decide) (by kernel_rfl)
     simp only[nthR,detR,List.getD_cons_zero,List.getD_cons_succ] at d12
     simp[go_sem,gives,frm,Act.put,nthR,detR,Region.wanted,Below.refl,hc,d12,b2,bz]
    | 14, _ =>
     obtain rfl:=Option.some.inj ho
     intro u x hd
     have hc:=Past.cell x
     have d11:=hd 11 (by decide) (by kernel_rfl)
     have d13:=hd 13 (by decide) (by kernel_rfl)
     simp only[nthR,detR,List.getD_cons_zero,List.getD_cons_succ] at d11 d13
     have hlk:=((HP10.out.past (Past.prop x)).map).lookup (P:=Tryz.prog) (t:=102) (k:=9) (e:=31) Tryz.underlying9 Tryz.underlying102 (Tryz.zeroRows x.1) HUL.out
     have hsl:=look_rows (HP10.out.past (Past.prop x)).planC ru
     simp[go_sem,gives,frm,Act.put,nthR,Region.wanted,Below.refl,d11,d13,hlk]
     exact hsl
    | 15, _ =>
     obtain rfl:=Option.some.inj ho
     intro u x hd
     have hc:=Past.cell x
     simp[go_sem,gives,frm,Act.put,nthR,detR,Region.wanted,Below.refl,hc,b0,b1,b2,b3,b4,b5,b6,b7,bz]
    | 16, _ =>
     obtain rfl:=Option.some.inj ho
     intro u x hd
     have hc:=Past.cell x
     have d15:=hd 15 (by decide) (by kernel_rfl)
     simp only[nthR,detR,List.getD_cons_zero,List.getD_cons_succ] at d15
     simp[go_sem,gives,frm,Act.put,nthR,Region.wanted,d15]
     (with_reducible refine (apart_f (HX10.out.past (Past.prop x)) HSM.out).mono ?_);rintro e w3 ⟨x2,rfl,h1,_,hb3⟩;exact ⟨_,rfl,hb3,⟨x2,rfl,h1,h1.fit (by have:=HSM.out.2.2.2;unfold maxLen;omega)⟩⟩
    | 17, _ =>
     obtain rfl:=Option.some.inj ho
     intro u x hd
     have hc:=Past.cell x
     have h16:∃ x2,u 16=rwV x2∧RwF x.1 x2 r∧x2.fit:=hd 16 (by decide) (by kernel_rfl)
     have e16:=h16.choose_spec.1;have hf1:=h16.choose_spec.2.1;have hf2:=h16.choose_spec.2.2;generalize h16.choose=x2 at *
     have hsn:=sliRw_new1 x.1 hf2
     have hbn:=Below.alloc (Below.refl x.1.heap.size x.1) (Nat.le_refl _) (Obj.cells (cellsRw [x2]).toArray 50)
     obtain ⟨yi,yq,yu,yf,yt,yT,yW,yA⟩:=x2
     obtain ⟨⟨g5,o5,k5,z5⟩,⟨g6,o6,k6,z6⟩,⟨g7,o7,k7,z7⟩,_⟩:=hf2
     simp only at z5 z6 z7
     subst z5 z6 z7
     simp[go_sem,gives,frm,Act.put,nthR,Region.wanted,e16]
     exact ⟨by (repeat (first | exact Below.refl _ _ | assumption | refine balloc ?_ _ | refine below_drewN ?_ _ | refine bstep (by assumption) ?_ | refine bstep (Past.prop _) ?_ | refine Below.setCell ?_ (by first | exact Nat.le_refl _ | (simp;done) | (simp;omega)) _)),_,hsn,hf1.past hbn⟩
    | 18, _ =>
     obtain rfl:=Option.some.inj ho
     intro u x hd
     have hc:=Past.cell x
     have h14:SliRw x.1 (u 14) (rows ru):=hd 14 (by decide) (by kernel_rfl)
     have h17:∃ x2,SliRw x.1 (u 17) [x2]∧RwF x.1 x2 r:=hd 17 (by decide) (by kernel_rfl)
     have hs17:=h17.choose_spec.1;have hf17:=h17.choose_spec.2;generalize h17.choose=x2 at *
     obtain ⟨g4,k4,e14,_⟩:=id h14
     obtain ⟨g7,k7,e17,_⟩:=id hs17
     rw[e14] at h14;rw[e17] at hs17
     simp[go_sem,gives,frm,Act.put,nthR,Region.wanted,e14,e17]
     have hbn:=Below.alloc (Below.refl x.1.heap.size x.1) (Nat.le_refl _) (Obj.cells #[.slice g4 (rows ru).length k4,.slice g7 [x2].length k7] 31)
     exact ⟨by (repeat (first | exact Below.refl _ _ | assumption | refine balloc ?_ _ | refine below_drewN ?_ _ | refine bstep (by assumption) ?_ | refine bstep (Past.prop _) ?_ | refine Below.setCell ?_ (by first | exact Nat.le_refl _ | (simp;done) | (simp;omega)) _)),_,_,_,x2,rfl,Blk.made _ _ _,h14.past hbn,hs17.past hbn,hf17.past hbn⟩
    | 19, _ =>
     obtain rfl:=Option.some.inj ho
     intro u x hd
     have hc:=Past.cell x
     have h18:pairR (rows ru) r 31 (u 18) x.1:=hd 18 (by decide) (by kernel_rfl)
     obtain ⟨p,v1,v2,x2,e18,hBk,hs1,hs2,hf1⟩:=h18
     simp[go_sem,gives,frm,Act.put,nthR,Region.wanted,e18]
     (with_reducible refine (concat_c _ hBk hs1 hs2 (HFW.out _)).mono ?_);rintro e w3 ⟨v,rfl,hv,hb3⟩;exact ⟨_,rfl,hb3,⟨x2,hv,hf1.past hb3⟩⟩
    | i+20,h=>exact absurd h (by omega)
   ·intro i o hx ho
    simp at hx
   ·intro u x9 hu hne
    have h19:∃ x2,SliRw x9.1 (u 19) (rows ru++[x2])∧RwF x9.1 x2 r:=hu 19 (by decide)
    have e4:u 4 = .map (some m):=hu 4 (by decide)
    have e6:u 6=nmV ru:=hu 6 (by decide)
    obtain ⟨x2,hs2,hf2⟩:=h19
    obtain ⟨vb,e19⟩:∃ vb,u 19=vb:=⟨_,rfl⟩
    rw[e19] at hs2
    simp only[frm,List.take,Act.put,e4,e6,e19]
    have hb11:=x9.2
    have hP11:=HP10.out.past hb11
    have hB11:=HB10.out.past hb11
    have hl11:=HS10.out.past hb11
    obtain ⟨w12,hup,hM12,hg12,hz12⟩:=hP11.map.update (P:=Tryz.prog) (t:=102) (k:=9) (e:=31) Tryz.underlying9 Tryz.underlying102 HUL.out vb
    have q1:Below w.heap.size w w9:=HBB.out.trans (HB9.out.mono HBB.out.size)
    have q5:Two d m w w12:=(((two_below q1).trans (two_fst HG10.out)).trans (two_below hb11)).trans (two_snd hg12)
    have hk12:=keepI_grown hg12 (noInt_map hP11.map)
    have hgood:GoodL (insS L r):=good_ins HGO.out HR.out HID.out (by rw[insS_len];have:=HN.out;omega) ((sumOk_iff (insS_ok HGO.out HR.out)).1 HOK.out)
    have hP12:Body w12 m (putU U ru vb) (updF rows ru (rows ru++[x2])) (updF rvs ru (rvs ru++[r])) (insS L r):=by
     refine hP11.put hM12 hg12 (hs2.keepI hk12) (rwsF_snoc ((hP11.vals ru).keepI hk12) (hf2.keepI hk12)) (by simp) (fun y hy => ?_) ?_ hgood (fun y hy => ?_)
     ·rcases List.mem_append.1 hy with hy | hy
      ·exact hP11.user ru y hy
      ·rw[List.mem_singleton.1 hy];exact HRU.out
     ·have:=hP11.insert r
      rw[HRU.out] at this
      exact this
     ·rcases List.mem_cons.1 ((insS_perm L r).mem_iff.1 hy) with rfl | hy
      ·exact HSM.out
      ·exact hP11.small y hy
    have hD12:Dr w12 d m (.slice a n c) (insS L r):=⟨_,_,_,_,hB11.grown hg12 (fun e=>(hP11.map.ne_blk hB11) (by cases e;rfl)),hP12,ldR_keepI ⟨F,hl11,HLD.out⟩ hk12⟩
    have HQ:=hidE (And.intro q5 (And.intro HOK.out hD12))
    clear hu hne e4 e6 e19 hs2 hf2 hb11 hP11 hB11 hl11 hM12 hg12 hz12 q1 q5 hk12 hgood hP12 hD12
    generalize x9.1=w11 at *
    go_wp2
    go_ret
    exact ⟨HQ.out.1,.inl ⟨HQ.out.2.1,rfl,HQ.out.2.2⟩⟩
  ·have q1:Below w.heap.size w w9:=HBB.out.trans (HB9.out.mono HBB.out.size)
   have HQ:=hidE (And.intro (two_below (d:=d) (m:=m) q1) hno)
   clear q1 hno
   go_wp2
   go_ret
   exact ⟨HQ.out.1,.inr ⟨HQ.out.2,rfl⟩⟩
end
end Go.Proofs.YtcmponckjkalaaaGreat
