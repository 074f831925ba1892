/- Functions made of two functions, time by time. No program. No conditions. What is made of two canonical functions time by time is canonical, and at every time what is made of their values. No program. No conditions. Two functions traversed together: at each time at which one of them has a run, that time and both values. No program. No conditions. What comes of combining two .. -/
import Derived.Test.YtcmponckjkalaaaGreatPUMA
namespace Go.Proofs.YtcmponckjkalaaaGreat
section
theorem vat_step {l:List Sg} {k:Nat} {t:Int} (h:k<l.length):vat (l.take (k+1)) t=if ats l k≤t then vls l k else vat (l.take k) t:=by
 rw[List.take_succ_eq_append_getElem h,vat_snoc]
 unfold ats vls
 rw[getD_get _ _ _ h]
def opV (k:Int) (a b:Int × Int):Int × Int × Int :=
 if k=0 then addS a.1 a.2 b.1 b.2 else if k=1 then subS a.1 a.2 b.1 b.2 else if k=2 then (mn a.1 b.1,mn a.2 b.2,0) else (mx a.1 b.1,mx a.2 b.2,0)
theorem opV_0 (a b c d:Int):opV 0 (a,b) (c,d)=addS a b c d:=rfl
theorem opV_1 (a b c d:Int):opV 1 (a,b) (c,d)=subS a b c d:=rfl
theorem opV_2 (a b c d:Int):opV 2 (a,b) (c,d)=(mn a c,mn b d,0):=rfl
theorem opV_3 {k a b c d:Int} (h0:k≠0) (h1:k≠1) (h2:k≠2):opV k (a,b) (c,d)=(mx a c,mx b d,0):=by unfold opV;rw[if_neg h0,if_neg h1,if_neg h2]
def twoT (f g:List Sg):List Int:=timesL (f.map (·.1)++g.map (·.1))
theorem twoT_len (f g:List Sg):(twoT f g).length≤f.length+g.length:=by
 have:=timesL_len (f.map (·.1)++g.map (·.1))
 simpa [twoT] using this
theorem twoT_up (f g:List Sg):(twoT f g).Pairwise (·<·):=timesL_up _
theorem twoT_mem {f g:List Sg} {t:Int}:t∈twoT f g↔(∃ s∈f,s.1=t)∨∃ s∈g,s.1=t:=by
 unfold twoT;rw[timesL_mem];simp
def opT (k:Int) (f g:List Sg) (t:Int):Int × Int × Int:=opV k (vat f t) (vat g t)
def opW (k:Int) (f g:List Sg) (t:Int):Int × Int:=((opT k f g t).1,(opT k f g t).2.1)
def opOk (k:Int) (f g:List Sg):Bool:=(twoT f g).all fun t=>(opT k f g t).2.2 == 0
def opL (k:Int) (f g:List Sg):List Sg:=buildL (opW k f g) (twoT f g)
def doS (k:Int) (f g:List Sg):List Sg × Int:=if (mayB f && mayB g)=false then ([],5) else if opOk k f g then (opL k f g,0) else ([],10)
theorem doS_form {k:Int} {f g:List Sg} (h:(mayB f && mayB g)=false):doS k f g=([],5):=by unfold doS;rw[if_pos h]
theorem doS_ok {k:Int} {f g:List Sg} (h1:mayB f=true) (h2:mayB g=true) (h:∀ i,i<(twoT f g).length→(opT k f g ((twoT f g).getD i 0)).2.2=0):doS k f g=(opL k f g,0):=by
 unfold doS
 rw[h1,h2,if_neg (by decide),if_pos]
 unfold opOk
 rw[List.all_eq_true]
 intro t ht
 obtain ⟨i,hi,rfl⟩:=List.getElem_of_mem ht
 have:=h i hi
 rw[getD_get _ _ _ hi] at this
 simp[this]
theorem doS_bad {k:Int} {f g:List Sg} {i:Nat} (h1:mayB f=true) (h2:mayB g=true) (hi:i<(twoT f g).length) (h:(opT k f g ((twoT f g).getD i 0)).2.2≠0):doS k f g=([],10):=by
 unfold doS
 rw[h1,h2,if_neg (by decide),if_neg]
 intro c
 unfold opOk at c
 rw[List.all_eq_true] at c
 rw[getD_get _ _ _ hi] at h
 have:=c _ (List.getElem_mem hi)
 exact h (by simpa using this)
def sumE (l:List (List Sg)):List Sg × Int:=l.foldl (fun acc f=>if acc.2=0 then doS 0 acc.1 f else acc) ([],0)
def sumS (l:List (List Sg)):List Sg × Int:=if l.all mayB then sumE l else ([],5)
theorem foldl_same {s t:Int}:∀ (l:List Sg) (acc:Int × Int),(∀ x∈l,x.1≤s↔x.1≤t)→l.foldl (stepV s) acc=l.foldl (stepV t) acc
 | [],_,_=>rfl
 | x :: r, acc, h => by
   have e:stepV s acc x=stepV t acc x:=by
    unfold stepV
    have:=h x (by simp)
    by_cases c:x.1≤s
    ·rw[if_pos c,if_pos (this.1 c)]
    ·rw[if_neg c,if_neg (fun c'=>c (this.2 c'))]
   rw[List.foldl_cons,List.foldl_cons,e]
   exact foldl_same r _ fun y hy=>h y (List.mem_cons_of_mem _ hy)
theorem vat_same {l:List Sg} {s t:Int} (h:∀ x∈l,x.1≤s↔x.1≤t):vat l s=vat l t:=foldl_same l _ h
theorem vat_before {l:List Sg} {t:Int} (h:∀ x∈l,t<x.1):vat l t=(0,0):=foldl_gt t l _ h
theorem lastT {t:Int}:∀ (ts:List Int),(∀ x∈ts,t<x)∨∃ s∈ts,s≤t∧∀ x∈ts,x≤t→x≤s
 | [] => .inl fun x hx=>by simp at hx
 | y :: r => by
   rcases lastT (t:=t) r with h | ⟨s,hs,h1,h2⟩
   ·by_cases c:y≤t
    ·refine .inr ⟨y,by simp,c,fun x hx hxt => ?_⟩
     rcases List.mem_cons.1 hx with e | e
     ·omega
     ·have:=h x e;omega
    ·refine .inl fun x hx => ?_
     rcases List.mem_cons.1 hx with e | e
     ·omega
     ·exact h x e
   ·by_cases c:y≤t∧s<y
    ·refine .inr ⟨y,by simp,c.1,fun x hx hxt => ?_⟩
     rcases List.mem_cons.1 hx with e | e
     ·omega
     ·have:=h2 x e hxt;omega
    ·refine .inr ⟨s,List.mem_cons_of_mem _ hs,h1,fun x hx hxt => ?_⟩
     rcases List.mem_cons.1 hx with e | e
     ·omega
     ·exact h2 x e hxt
theorem vat_ok {f:List Sg} (h:∀ x∈f,okS x=true) (t:Int):okV (vat f t).1 (vat f t).2=true:=by
 have:∀ (l:List Sg) (acc:Int × Int),(∀ x∈l,okS x=true)→okV acc.1 acc.2=true→okV (l.foldl (stepV t) acc).1 (l.foldl (stepV t) acc).2=true:=by
  intro l
  induction l with
  | nil=>intro acc _ h;exact h
  | cons x r ih =>
   intro acc hl ha
   rw[List.foldl_cons]
   refine ih _ (fun y hy=>hl y (List.mem_cons_of_mem _ hy)) ?_
   unfold stepV
   split
   ·have:=hl x (by simp)
    unfold okS at this
    rw[Bool.and_eq_true] at this
    exact this.2
   ·exact ha
 exact this f (0,0) h (by decide)
theorem gate_ok {b:Bool} {x y:Int} (h:(gate b x y).2.2=0):b=true:=by
 unfold gate at h
 cases b
 ·simp at h
 ·rfl
theorem opV_ok {k:Int} {a b:Int × Int} (ha:okV a.1 a.2=true) (hb:okV b.1 b.2=true) (h:(opV k a b).2.2=0):okV (opV k a b).1 (opV k a b).2.1=true:=by
 have A:=okV_iff.1 ha;have B:=okV_iff.1 hb
 unfold opV at h ⊢
 split
 ·rename_i h0
  rw[if_pos h0] at h
  unfold addS at h ⊢
  have hg:=gate_ok h
  rw[gate_true hg]
  simp only[Bool.and_eq_true] at hg
  exact hg.2
 ·rename_i h0
  rw[if_neg h0] at h
  split
  ·rename_i h1
   rw[if_pos h1] at h
   unfold subS at h ⊢
   have hg:=gate_ok h
   rw[gate_true hg]
   simp only[Bool.and_eq_true] at hg
   exact hg.2
  ·split
   ·rw[okV_iff];unfold mn;simp only;split<;>split<;>omega
   ·rw[okV_iff];unfold mx;simp only;split<;>split<;>omega
theorem opV_zero (k:Int):opV k (0,0) (0,0)=(0,0,0):=by
 unfold opV
 split
 ·decide
 ·split
  ·decide
  ·split<;>decide
theorem opT_last (k:Int) (f g:List Sg) (t:Int):((∀ x∈twoT f g,t<x)∧opT k f g t=(0,0,0))∨∃ s∈twoT f g,s≤t∧(∀ x∈twoT f g,x≤t→x≤s)∧opT k f g t=opT k f g s:=by
 rcases lastT (t:=t) (twoT f g) with h | ⟨s,hs,h1,h2⟩
 ·refine .inl ⟨h, ?_⟩
  unfold opT
  rw[vat_before (fun x hx=>h x.1 (twoT_mem.2 (.inl ⟨x,hx,rfl⟩))),vat_before (fun x hx=>h x.1 (twoT_mem.2 (.inr ⟨x,hx,rfl⟩)))]
  exact opV_zero k
 ·refine .inr ⟨s,hs,h1,h2, ?_⟩
  unfold opT
  rw[vat_same (l:=f) (s:=s) (t:=t) (fun x hx=>⟨fun h=>by omega,fun h=>h2 x.1 (twoT_mem.2 (.inl ⟨x,hx,rfl⟩)) h⟩),
   vat_same (l:=g) (s:=s) (t:=t) (fun x hx=>⟨fun h=>by omega,fun h=>h2 x.1 (twoT_mem.2 (.inr ⟨x,hx,rfl⟩)) h⟩)]
theorem opOk_iff {k:Int} {f g:List Sg}:opOk k f g=true↔∀ t,(opT k f g t).2.2=0:=by
 unfold opOk
 rw[List.all_eq_true]
 constructor
 ·intro h t
  rcases opT_last k f g t with ⟨_,e⟩ | ⟨s,hs,_,_,e⟩
  ·rw[e]
  ·rw[e];simpa using h s hs
 ·intro h t _
  simp[h t]
theorem opL_spec {k:Int} {f g:List Sg} (hf:Canon f) (hg:Canon g) (h:opOk k f g=true):Canon (opL k f g)∧∀ t,vat (opL k f g) t=opW k f g t:=by
 have he:=opOk_iff.1 h
 have hok:∀ t∈twoT f g,okS (t,opW k f g t)=true:=fun t ht=>by
  have h1:okV (opW k f g t).1 (opW k f g t).2=true:=opV_ok (vat_ok (CF.ok hf) t) (vat_ok (CF.ok hg) t) (he t)
  have h2:okT t=true:=by
   rcases twoT_mem.1 ht with ⟨x,hx,rfl⟩ | ⟨x,hx,rfl⟩
   ·have:=CF.ok hf x hx
    unfold okS at this
    rw[Bool.and_eq_true] at this
    exact this.1
   ·have:=CF.ok hg x hx
    unfold okS at this
    rw[Bool.and_eq_true] at this
    exact this.1
  unfold okS
  rw[Bool.and_eq_true]
  exact ⟨h2,h1⟩
 obtain ⟨h1,_,h3,_⟩:=buildL_all (opW k f g) _ (twoT f g) rfl (twoT_up f g) hok
 refine ⟨h1,fun t => ?_⟩
 unfold opL
 rw[h3]
 rcases opT_last k f g t with ⟨hn,e⟩ | ⟨s,hs,hst,hl,e⟩
 ·rw[gval_none _ _ rfl hn]
  unfold opW;rw[e]
 ·rw[gval_some _ _ rfl (twoT_up f g) hs hst hl]
  unfold opW;rw[e]
theorem opL_len (k:Int) (f g:List Sg):(opL k f g).length≤f.length+g.length:=by
 have h:∀ (gv:Int→Int × Int) (ts:List Int) (f:List Sg),(ts.foldl (fun f t=>withL f t (gv t)) f).length≤f.length+ts.length:=by
  intro gv ts
  induction ts with
  | nil=>intro f;simp
  | cons t r ih =>
   intro f
   rw[List.foldl_cons]
   have h1:=ih (withL f t (gv t))
   have h2:(withL f t (gv t)).length≤f.length+1:=by unfold withL;split<;>simp
   simp only[List.length_cons]
   omega
 have h1:=h (opW k f g) (twoT f g) []
 have h2:=twoT_len f g
 unfold opL buildL
 simp at h1
 omega
theorem opL_unique {k:Int} {f g F:List Sg} (hf:Canon f) (hg:Canon g) (h:opOk k f g=true) (hF:Canon F) (hv:∀ t,vat F t=opW k f g t):F=opL k f g:=by
 obtain ⟨h1,h2⟩:=opL_spec hf hg h
 exact cf_ext hF h1 fun t=>(hv t).trans (h2 t).symm
abbrev Tg:=Int × (Int × Int) × (Int × Int)
def nextT (f g:List Sg):Int:=if g.length=0∨(0<f.length∧ats f 0<ats g 0) then ats f 0 else ats g 0
def hit (f:List Sg) (t:Int):Bool:=decide (0<f.length∧ats f 0=t)
def passV (f:List Sg) (t:Int) (v:Int × Int):Int × Int:=if hit f t then vls f 0 else v
def passF (f:List Sg) (t:Int):List Sg:=if hit f t then f.drop 1 else f
def tog:Nat→List Sg→List Sg→Int × Int→Int × Int→List Tg
 | 0,_,_,_,_=>[]
 | n + 1, f, g, x, y => if f.length = 0 ∧ g.length = 0 then [] else
   (nextT f g,passV f (nextT f g) x,passV g (nextT f g) y) :: tog n (passF f (nextT f g)) (passF g (nextT f g)) (passV f (nextT f g) x) (passV g (nextT f g) y)
def togL (f g:List Sg):List Tg:=tog (f.length+g.length) f g (0,0) (0,0)
theorem tog_nil {n:Nat} {f g:List Sg} {x y:Int × Int} (hf:f.length=0) (hg:g.length=0):tog n f g x y=[]:=by
 cases n with
 | zero=>rfl
 | succ n=>unfold tog;rw[if_pos ⟨hf,hg⟩]
theorem tog_cons {n:Nat} {f g:List Sg} {x y:Int × Int} (h:¬ (f.length=0∧g.length=0)) :
  tog (n+1) f g x y=(nextT f g,passV f (nextT f g) x,passV g (nextT f g) y) :: tog n (passF f (nextT f g)) (passF g (nextT f g)) (passV f (nextT f g) x) (passV g (nextT f g) y):=by
 conv=>lhs;unfold tog
 rw[if_neg h]
theorem passF_len (f:List Sg) (t:Int):(passF f t).length≤f.length:=by unfold passF;split<;>simp
theorem pass_less {f g:List Sg} (h:¬ (f.length=0∧g.length=0)):(passF f (nextT f g)).length+(passF g (nextT f g)).length+1≤f.length+g.length:=by
 by_cases c:g.length=0∨(0<f.length∧ats f 0<ats g 0)
 ·have e:nextT f g=ats f 0:=by unfold nextT;rw[if_pos c]
  have hl:0<f.length:=by rcases c with c | c<;>omega
  have:passF f (nextT f g)=f.drop 1:=by unfold passF hit;rw[if_pos (decide_eq_true ⟨hl,e.symm⟩)]
  have h2:=passF_len g (nextT f g)
  rw[this,List.length_drop];omega
 ·have e:nextT f g=ats g 0:=by unfold nextT;rw[if_neg c]
  have hl:0<g.length:=by omega
  have:passF g (nextT f g)=g.drop 1:=by unfold passF hit;rw[if_pos (decide_eq_true ⟨hl,e.symm⟩)]
  have h2:=passF_len f (nextT f g)
  rw[this,List.length_drop];omega
def UpT (f:List Sg):Prop:=f.Pairwise fun a b=>a.1<b.1
theorem pass_up {f:List Sg} (h:UpT f) (t:Int):UpT (passF f t):=by
 unfold passF;split
 ·exact h.sublist (List.drop_sublist 1 f)
 ·exact h
theorem pass_spec {f:List Sg} (h:UpT f) {t:Int} (ht:∀ s∈f,t≤s.1) (x:Int × Int):(∀ s∈passF f t,t<s.1)∧(∀ u,t≤u→(passF f t).foldl (stepV u) (passV f t x)=f.foldl (stepV u) x)∧(∀ s,s∈f↔s∈passF f t∨(s∈f∧s.1=t)):=by
 cases f with
 | nil=>exact ⟨fun s hs=>by simp[passF,hit] at hs,fun u hu=>by simp[passF,passV,hit],fun s=>by simp[passF,hit]⟩
 | cons s0 r =>
  unfold UpT at h
  rw[List.pairwise_cons] at h
  have e0:ats (s0 :: r) 0=s0.1:=rfl
  have e1:vls (s0 :: r) 0=s0.2:=rfl
  by_cases c:s0.1=t
  ·have hh:hit (s0 :: r) t=true:=decide_eq_true ⟨by simp,by rw[e0];exact c⟩
   have hF:passF (s0 :: r) t=r:=by unfold passF;rw[if_pos hh];rfl
   have hV:passV (s0 :: r) t x=s0.2:=by unfold passV;rw[if_pos hh,e1]
   rw[hF,hV]
   refine ⟨fun s hs=>by have:=h.1 s hs;omega,fun u hu => ?_,fun s => ?_⟩
   ·rw[List.foldl_cons]
    have:stepV u x s0=s0.2:=by unfold stepV;rw[if_pos (by omega)]
    rw[this]
   ·constructor
    ·intro hs
     rcases List.mem_cons.1 hs with rfl | hs'
     ·exact .inr ⟨hs,c⟩
     ·exact .inl hs'
    ·rintro (hs | hs)
     ·exact List.mem_cons_of_mem _ hs
     ·exact hs.1
  ·have hh:hit (s0 :: r) t=false:=decide_eq_false (fun e=>c (by rw[←e0];exact e.2))
   have hF:passF (s0 :: r) t=s0 :: r:=by unfold passF;rw[if_neg (by rw[hh];decide)]
   have hV:passV (s0 :: r) t x=x:=by unfold passV;rw[if_neg (by rw[hh];decide)]
   rw[hF,hV]
   have ht0:=ht s0 (by simp)
   refine ⟨fun s hs => ?_,fun u hu=>rfl,fun s=>⟨fun hs => .inl hs,fun hs=>hs.elim id (·.1)⟩⟩
   rcases List.mem_cons.1 hs with rfl | hs'
   ·omega
   ·have:=h.1 s hs';omega
theorem up_head {f:List Sg} (h:UpT f):∀ s∈f,ats f 0≤s.1:=by
 cases f with
 | nil=>intro s hs;simp at hs
 | cons s0 r =>
  unfold UpT at h
  rw[List.pairwise_cons] at h
  intro s hs
  have e0:ats (s0 :: r) 0=s0.1:=rfl
  rcases List.mem_cons.1 hs with rfl | hs'
  ·omega
  ·have:=h.1 s hs';omega
theorem next_least {f g:List Sg} (hf:UpT f) (hg:UpT g):(∀ s∈f,nextT f g≤s.1)∧∀ s∈g,nextT f g≤s.1:=by
 have h1:=up_head hf;have h2:=up_head hg
 by_cases c:g.length=0∨(0<f.length∧ats f 0<ats g 0)
 ·have e:nextT f g=ats f 0:=by unfold nextT;rw[if_pos c]
  rw[e]
  refine ⟨h1,fun s hs => ?_⟩
  rcases c with c | c
  ·rw[List.eq_nil_of_length_eq_zero c] at hs;simp at hs
  ·have:=h2 s hs;omega
 ·have e:nextT f g=ats g 0:=by unfold nextT;rw[if_neg c]
  rw[e]
  refine ⟨fun s hs => ?_,h2⟩
  have hl:0<f.length:=List.length_pos_of_mem hs
  have:=h1 s hs;omega
theorem next_mem {f g:List Sg} (h:¬ (f.length=0∧g.length=0)):(∃ s∈f,s.1=nextT f g)∨∃ s∈g,s.1=nextT f g:=by
 by_cases c:g.length=0∨(0<f.length∧ats f 0<ats g 0)
 ·have e:nextT f g=ats f 0:=by unfold nextT;rw[if_pos c]
  have hl:0<f.length:=by rcases c with c | c<;>omega
  refine .inl ⟨f.getD 0 (0,0,0), ?_,by rw[e];rfl⟩
  rw[getD_get _ _ _ hl];exact List.getElem_mem hl
 ·have e:nextT f g=ats g 0:=by unfold nextT;rw[if_neg c]
  have hl:0<g.length:=by omega
  refine .inr ⟨g.getD 0 (0,0,0), ?_,by rw[e];rfl⟩
  rw[getD_get _ _ _ hl];exact List.getElem_mem hl
theorem tog_spec:∀ (n:Nat) (f g:List Sg) (x y:Int × Int),f.length+g.length≤n→UpT f→UpT g →
  ((tog n f g x y).Pairwise fun p q=>p.1<q.1)∧(∀ p∈tog n f g x y,p.2.1=f.foldl (stepV p.1) x∧p.2.2=g.foldl (stepV p.1) y) ∧
  (∀ t,(∃ p∈tog n f g x y,p.1=t)↔(∃ s∈f,s.1=t)∨∃ s∈g,s.1=t)
 | 0, f, g, x, y, hn, _, _ => by
   have e1:f=[]:=List.eq_nil_of_length_eq_zero (by omega)
   have e2:g=[]:=List.eq_nil_of_length_eq_zero (by omega)
   subst e1 e2
   simp[tog]
 | n + 1, f, g, x, y, hn, hf, hg => by
   by_cases h:f.length=0∧g.length=0
   ·have e1:f=[]:=List.eq_nil_of_length_eq_zero h.1
    have e2:g=[]:=List.eq_nil_of_length_eq_zero h.2
    subst e1 e2
    simp[tog]
   ·have hless:=pass_less h
    obtain ⟨l1,l2⟩:=next_least hf hg
    have hm:=next_mem h
    rw[tog_cons h]
    obtain ⟨p1,p2,p3⟩:=pass_spec hf l1 x
    obtain ⟨q1,q2,q3⟩:=pass_spec hg l2 y
    obtain ⟨r1,r2,r3⟩:=tog_spec n (passF f (nextT f g)) (passF g (nextT f g)) (passV f (nextT f g) x) (passV g (nextT f g) y) (by omega) (pass_up hf _) (pass_up hg _)
    generalize nextT f g=t at *
    have late:∀ p∈tog n (passF f t) (passF g t) (passV f t x) (passV g t y),t<p.1:=fun p hp=>by
     rcases (r3 p.1).1 ⟨p,hp,rfl⟩ with ⟨s,hs,e⟩ | ⟨s,hs,e⟩
     ·rw[←e];exact p1 s hs
     ·rw[←e];exact q1 s hs
    refine ⟨List.pairwise_cons.2 ⟨fun p hp=>late p hp,r1⟩,fun p hp => ?_,fun u => ?_⟩
    ·rcases List.mem_cons.1 hp with rfl | hp'
     ·have e1:=p2 t (Int.le_refl _);have e2:=q2 t (Int.le_refl _)
      have f1:(passF f t).foldl (stepV t) (passV f t x)=passV f t x:=foldl_gt t _ _ p1
      have f2:(passF g t).foldl (stepV t) (passV g t y)=passV g t y:=foldl_gt t _ _ q1
      exact ⟨f1.symm.trans e1,f2.symm.trans e2⟩
     ·obtain ⟨e1,e2⟩:=r2 p hp'
      have:=late p hp'
      exact ⟨e1.trans (p2 p.1 (by omega)),e2.trans (q2 p.1 (by omega))⟩
    ·constructor
     ·rintro ⟨p,hp,rfl⟩
      rcases List.mem_cons.1 hp with rfl | hp'
      ·exact hm
      ·rcases (r3 p.1).1 ⟨p,hp',rfl⟩ with ⟨s,hs,e⟩ | ⟨s,hs,e⟩
       ·exact .inl ⟨s,(p3 s).2 (.inl hs),e⟩
       ·exact .inr ⟨s,(q3 s).2 (.inl hs),e⟩
     ·intro hu
      by_cases c:u=t
      ·exact ⟨_,List.mem_cons_self,c.symm⟩
      ·have:(∃ s∈passF f t,s.1=u)∨∃ s∈passF g t,s.1=u:=by
        rcases hu with ⟨s,hs,e⟩ | ⟨s,hs,e⟩
        ·rcases (p3 s).1 hs with h' | h'
         ·exact .inl ⟨s,h',e⟩
         ·exact absurd (e.symm.trans h'.2) c
        ·rcases (q3 s).1 hs with h' | h'
         ·exact .inr ⟨s,h',e⟩
         ·exact absurd (e.symm.trans h'.2) c
       obtain ⟨p,hp,e⟩:=(r3 u).2 this
       exact ⟨p,List.mem_cons_of_mem _ hp,e⟩
theorem tog_len:∀ (n:Nat) (f g:List Sg) (x y:Int × Int),(tog n f g x y).length≤n
 | 0,_,_,_,_=>Nat.le_refl _
 | n + 1, f, g, x, y => by
   unfold tog
   split
   ·simp
   ·have:=tog_len n (passF f (nextT f g)) (passF g (nextT f g)) (passV f (nextT f g) x) (passV g (nextT f g) y)
    simp only[List.length_cons];omega
theorem togL_len (f g:List Sg):(togL f g).length≤f.length+g.length:=tog_len _ _ _ _ _
theorem togL_spec {f g:List Sg} (hf:UpT f) (hg:UpT g):((togL f g).Pairwise fun p q=>p.1<q.1)∧(∀ p∈togL f g,p.2.1=vat f p.1∧p.2.2=vat g p.1)∧∀ t,(∃ p∈togL f g,p.1=t)↔t∈twoT f g:=by
 obtain ⟨h1,h2,h3⟩:=tog_spec (f.length+g.length) f g (0,0) (0,0) (Nat.le_refl _) hf hg
 exact ⟨h1,h2,fun t=>(h3 t).trans twoT_mem.symm⟩
def rawOf (k:Int) (p:Tg):Sg:=(p.1,((opV k p.2.1 p.2.2).1,(opV k p.2.1 p.2.2).2.1))
def errOf (k:Int) (p:Tg):Int:=(opV k p.2.1 p.2.2).2.2
theorem gate_err (b:Bool) (x y:Int):(gate b x y).2.2=0∨(gate b x y).2.2=10:=by unfold gate;cases b<;>simp
theorem errOf_two (k:Int) (p:Tg):errOf k p=0∨errOf k p=10:=by
 unfold errOf opV
 split
 ·exact gate_err _ _ _
 ·split
  ·exact gate_err _ _ _
  ·split<;>simp
theorem canon_up {f:List Sg} (h:Canon f):UpT f:=CF.up h
theorem item_at {k:Int} {f g:List Sg} (hf:Canon f) (hg:Canon g) {p:Tg} (hp:p∈togL f g):opT k f g p.1=opV k p.2.1 p.2.2:=by
 obtain ⟨h1,h2⟩:=(togL_spec (canon_up hf) (canon_up hg)).2.1 p hp
 unfold opT;rw[h1,h2]
theorem comb_bad {k:Int} {f g:List Sg} (hf:mayB f=true) (hg:mayB g=true) {p:Tg} (hp:p∈togL f g) (he:errOf k p≠0):doS k f g=([],errOf k p):=by
 have hf':=mayB_iff.1 hf;have hg':=mayB_iff.1 hg
 have h10:errOf k p=10:=(errOf_two k p).resolve_left he
 have ht:p.1∈twoT f g:=((togL_spec (canon_up hf') (canon_up hg')).2.2 p.1).1 ⟨p,hp,rfl⟩
 obtain ⟨i,hi,hti⟩:=List.getElem_of_mem ht
 rw[h10]
 refine doS_bad (i:=i) hf hg hi ?_
 rw[getD_get _ _ _ hi,hti,item_at hf' hg' hp]
 exact he
theorem comb_ok {k:Int} {f g:List Sg} (hf:mayB f=true) (hg:mayB g=true) (he:∀ p∈togL f g,errOf k p=0) :
  ((togL f g).map (rawOf k)).all okS=true∧∀ r,IsOf ((togL f g).map (rawOf k)) r→doS k f g=(r,0):=by
 have hf':=mayB_iff.1 hf;have hg':=mayB_iff.1 hg
 obtain ⟨s1,s2,s3⟩:=togL_spec (canon_up hf') (canon_up hg')
 have hz:∀ i,i<(twoT f g).length→(opT k f g ((twoT f g).getD i 0)).2.2=0:=fun i hi=>by
  rw[getD_get _ _ _ hi]
  obtain ⟨p,hp,e⟩:=(s3 _).2 (List.getElem_mem hi)
  rw[←e,item_at hf' hg' hp];exact he p hp
 have hok:opOk k f g=true:=by
  unfold opOk
  rw[List.all_eq_true]
  intro t ht
  obtain ⟨p,hp,e⟩:=(s3 t).2 ht
  rw[←e,item_at hf' hg' hp]
  have:=he p hp
  unfold errOf at this
  rw[this];rfl
 have hall:=opOk_iff.1 hok
 constructor
 ·rw[List.all_eq_true]
  intro x hx
  obtain ⟨p,hp,rfl⟩:=List.mem_map.1 hx
  have h1:okV (opV k p.2.1 p.2.2).1 (opV k p.2.1 p.2.2).2.1=true:=by
   obtain ⟨e1,e2⟩:=s2 p hp
   exact opV_ok (by rw[e1];exact vat_ok (CF.ok hf') _) (by rw[e2];exact vat_ok (CF.ok hg') _) (he p hp)
  have h2:okT p.1=true:=by
   rcases twoT_mem.1 ((s3 p.1).1 ⟨p,hp,rfl⟩) with ⟨x,hx,e⟩ | ⟨x,hx,e⟩
   ·have:=CF.ok hf' x hx
    unfold okS at this;rw[Bool.and_eq_true,e] at this;exact this.1
   ·have:=CF.ok hg' x hx
    unfold okS at this;rw[Bool.and_eq_true,e] at this;exact this.1
  unfold okS rawOf
  rw[Bool.and_eq_true]
  exact ⟨h2,h1⟩
 ·intro r hr
  rw[doS_ok hf hg hz,opL_unique hf' hg' hok hr.1 fun t => ?_]
  rw[hr.2.1 t]
  have hmem:∀ (x:Int),x∈twoT f g→∃ j,j<((togL f g).map (rawOf k)).length∧ats ((togL f g).map (rawOf k)) j=x:=fun x hx=>by
   obtain ⟨p,hp,e⟩:=(s3 x).2 hx
   obtain ⟨j,hj,rfl⟩:=List.getElem_of_mem hp
   refine ⟨j,by simpa using hj, ?_⟩
   unfold ats
   rw[getD_get _ _ _ (by simpa using hj),List.getElem_map]
   exact e
  rcases rread_char t _ ((togL f g).map (rawOf k)) rfl with ⟨e,hgt⟩ | ⟨i,htop,e⟩
  ·unfold rv;rw[e]
   have hn:∀ x∈twoT f g,t<x:=fun x hx=>by
    obtain ⟨j,hj,ej⟩:=hmem x hx
    rw[←ej];exact hgt j hj
   unfold opW opT
   rw[vat_before (fun x hx=>hn x.1 (twoT_mem.2 (.inl ⟨x,hx,rfl⟩))),vat_before (fun x hx=>hn x.1 (twoT_mem.2 (.inr ⟨x,hx,rfl⟩))),opV_zero]
  ·unfold rv;rw[e]
   obtain ⟨hi,hle,hbest⟩:=htop
   have hi':i<(togL f g).length:=by simpa using hi
   have hp:(togL f g)[i]∈togL f g:=List.getElem_mem hi'
   have ea:ats ((togL f g).map (rawOf k)) i=(togL f g)[i].1:=by
    unfold ats;rw[getD_get _ _ _ hi,List.getElem_map];rfl
   have ev:vls ((togL f g).map (rawOf k)) i=opW k f g (togL f g)[i].1:=by
    unfold vls;rw[getD_get _ _ _ hi,List.getElem_map]
    unfold opW;rw[item_at hf' hg' hp];rfl
   rw[ea] at hle
   have hlast:∀ x∈twoT f g,x≤t→x≤(togL f g)[i].1:=fun x hx hxt=>by
    obtain ⟨j,hj,ej⟩:=hmem x hx
    have:=hbest j hj (by rw[ej];exact hxt)
    rw[ej,ea] at this
    omega
   show vls _ i=_
   rw[ev]
   unfold opW opT
   rw[vat_same (l:=f) (s:=(togL f g)[i].1) (t:=t) (fun x hx=>⟨fun h=>by omega,fun h=>hlast x.1 (twoT_mem.2 (.inl ⟨x,hx,rfl⟩)) h⟩),
    vat_same (l:=g) (s:=(togL f g)[i].1) (t:=t) (fun x hx=>⟨fun h=>by omega,fun h=>hlast x.1 (twoT_mem.2 (.inr ⟨x,hx,rfl⟩)) h⟩)]
end
end Go.Proofs.YtcmponckjkalaaaGreat
