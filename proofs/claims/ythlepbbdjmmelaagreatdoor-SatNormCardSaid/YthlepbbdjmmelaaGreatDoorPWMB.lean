/- Two functions traversed together: at each time at which one of them has a run, that time and both values. No program. No conditions. What comes of combining two canonical functions at the times at which one of them has a run. No program. No conditions. The tokens of a text by steps that are counted: for texts that the document gives. No program. No conditions. -/
import Derived.Test.YthlepbbdjmmelaaGreatDoorPWMA
namespace Go.Proofs.YthlepbbdjmmelaaGreatDoor
section
abbrev Tg:=Int × (Int × Int) × (Int × Int)
def nextT (f g:List Sg):Int:=if g.length = 0 ∨ (0 < f.length∧ats f 0 < ats g 0) then ats f 0 else ats g 0
def hit (f:List Sg) (t:Int):Bool:=decide (0 < f.length∧ats f 0 = t)
def passV (f:List Sg) (t:Int) (v:Int × Int):Int × Int:=if hit f t then vls f 0 else v
def passF (f:List Sg) (t:Int):List Sg:=if hit f t then f.drop 1 else f
def tog:Nat→List Sg→List Sg→Int × Int→Int × Int→List Tg
  | 0,_,_,_,_ => []
  | n + 1, f, g, x, y => if f.length = 0 ∧ g.length = 0 then [] else
    (nextT f g,passV f (nextT f g) x,passV g (nextT f g) y) :: tog n (passF f (nextT f g)) (passF g (nextT f g)) (passV f (nextT f g) x) (passV g (nextT f g) y)
def togL (f g:List Sg):List Tg:=tog (f.length + g.length) f g (0,0) (0,0)
theorem tog_nil {n:Nat} {f g:List Sg} {x y:Int × Int} (hf:f.length = 0) (hg:g.length = 0):tog n f g x y = []:=by
  cases n with
  | zero => rfl
  | succ n => unfold tog;rw [if_pos ⟨hf,hg⟩]
theorem tog_cons {n:Nat} {f g:List Sg} {x y:Int × Int} (h:¬ (f.length = 0∧g.length = 0)) :
    tog (n + 1) f g x y = (nextT f g,passV f (nextT f g) x,passV g (nextT f g) y) :: tog n (passF f (nextT f g)) (passF g (nextT f g)) (passV f (nextT f g) x) (passV g (nextT f g) y):=by
  conv => lhs;unfold tog
  rw [if_neg h]
theorem passF_len (f:List Sg) (t:Int):(passF f t).length≤f.length:=by unfold passF;split <;> simp
theorem pass_less {f g:List Sg} (h:¬ (f.length = 0∧g.length = 0)):(passF f (nextT f g)).length + (passF g (nextT f g)).length + 1≤f.length + g.length:=by
  by_cases c:g.length = 0 ∨ (0 < f.length∧ats f 0 < ats g 0)
  · have e:nextT f g = ats f 0:=by unfold nextT;rw [if_pos c]
    have hl:0 < f.length:=by rcases c with c | c <;> omega
    have:passF f (nextT f g) = f.drop 1:=by unfold passF hit;rw [if_pos (decide_eq_true ⟨hl,e.symm⟩)]
    have h2:=passF_len g (nextT f g)
    rw [this,List.length_drop];omega
  · have e:nextT f g = ats g 0:=by unfold nextT;rw [if_neg c]
    have hl:0 < g.length:=by omega
    have:passF g (nextT f g) = g.drop 1:=by unfold passF hit;rw [if_pos (decide_eq_true ⟨hl,e.symm⟩)]
    have h2:=passF_len f (nextT f g)
    rw [this,List.length_drop];omega
def UpT (f:List Sg):Prop:=f.Pairwise fun a b => a.1 < b.1
theorem pass_up {f:List Sg} (h:UpT f) (t:Int):UpT (passF f t):=by
  unfold passF;split
  · exact h.sublist (List.drop_sublist 1 f)
  · exact h
theorem pass_spec {f:List Sg} (h:UpT f) {t:Int} (ht:∀ s ∈ f,t≤s.1) (x:Int × Int):(∀ s ∈ passF f t,t < s.1)∧(∀ u,t≤u→(passF f t).foldl (stepV u) (passV f t x) = f.foldl (stepV u) x)∧(∀ s,s ∈ f ↔ s ∈ passF f t ∨ (s ∈ f∧s.1 = t)):=by
  cases f with
  | nil => exact ⟨fun s hs => by simp [passF,hit] at hs,fun u hu => by simp [passF,passV,hit],fun s => by simp [passF,hit]⟩
  | cons s0 r =>
    unfold UpT at h
    rw [List.pairwise_cons] at h
    have e0:ats (s0 :: r) 0 = s0.1:=rfl
    have e1:vls (s0 :: r) 0 = s0.2:=rfl
    by_cases c:s0.1 = t
    · have hh:hit (s0 :: r) t = true:=decide_eq_true ⟨by simp,by rw [e0];exact c⟩
      have hF:passF (s0 :: r) t = r:=by unfold passF;rw [if_pos hh];rfl
      have hV:passV (s0 :: r) t x = s0.2:=by unfold passV;rw [if_pos hh,e1]
      rw [hF,hV]
      refine ⟨fun s hs => by have:=h.1 s hs;omega,fun u hu => ?_,fun s => ?_⟩
      · rw [List.foldl_cons]
        have:stepV u x s0 = s0.2:=by unfold stepV;rw [if_pos (by omega)]
        rw [this]
      · constructor
        · intro hs
          rcases List.mem_cons.1 hs with rfl | hs'
          · exact .inr ⟨hs,c⟩
          · exact .inl hs'
        · rintro (hs | hs)
          · exact List.mem_cons_of_mem _ hs
          · exact hs.1
    · have hh:hit (s0 :: r) t = false:=decide_eq_false (fun e => c (by rw [← e0];exact e.2))
      have hF:passF (s0 :: r) t = s0 :: r:=by unfold passF;rw [if_neg (by rw [hh];decide)]
      have hV:passV (s0 :: r) t x = x:=by unfold passV;rw [if_neg (by rw [hh];decide)]
      rw [hF,hV]
      have ht0:=ht s0 (by simp)
      refine ⟨fun s hs => ?_,fun u hu => rfl,fun s => ⟨fun hs => .inl hs,fun hs => hs.elim id (·.1)⟩⟩
      rcases List.mem_cons.1 hs with rfl | hs'
      · omega
      · have:=h.1 s hs';omega
theorem up_head {f:List Sg} (h:UpT f):∀ s ∈ f,ats f 0≤s.1:=by
  cases f with
  | nil => intro s hs;simp at hs
  | cons s0 r =>
    unfold UpT at h
    rw [List.pairwise_cons] at h
    intro s hs
    have e0:ats (s0 :: r) 0 = s0.1:=rfl
    rcases List.mem_cons.1 hs with rfl | hs'
    · omega
    · have:=h.1 s hs';omega
theorem next_least {f g:List Sg} (hf:UpT f) (hg:UpT g):(∀ s ∈ f,nextT f g≤s.1)∧∀ s ∈ g,nextT f g≤s.1:=by
  have h1:=up_head hf;have h2:=up_head hg
  by_cases c:g.length = 0 ∨ (0 < f.length∧ats f 0 < ats g 0)
  · have e:nextT f g = ats f 0:=by unfold nextT;rw [if_pos c]
    rw [e]
    refine ⟨h1,fun s hs => ?_⟩
    rcases c with c | c
    · rw [List.eq_nil_of_length_eq_zero c] at hs;simp at hs
    · have:=h2 s hs;omega
  · have e:nextT f g = ats g 0:=by unfold nextT;rw [if_neg c]
    rw [e]
    refine ⟨fun s hs => ?_,h2⟩
    have hl:0 < f.length:=List.length_pos_of_mem hs
    have:=h1 s hs;omega
theorem next_mem {f g:List Sg} (h:¬ (f.length = 0∧g.length = 0)):(∃ s ∈ f,s.1 = nextT f g) ∨ ∃ s ∈ g,s.1 = nextT f g:=by
  by_cases c:g.length = 0 ∨ (0 < f.length∧ats f 0 < ats g 0)
  · have e:nextT f g = ats f 0:=by unfold nextT;rw [if_pos c]
    have hl:0 < f.length:=by rcases c with c | c <;> omega
    refine .inl ⟨f.getD 0 (0,0,0), ?_,by rw [e];rfl⟩
    rw [getD_get _ _ _ hl];exact List.getElem_mem hl
  · have e:nextT f g = ats g 0:=by unfold nextT;rw [if_neg c]
    have hl:0 < g.length:=by omega
    refine .inr ⟨g.getD 0 (0,0,0), ?_,by rw [e];rfl⟩
    rw [getD_get _ _ _ hl];exact List.getElem_mem hl
theorem tog_spec:∀ (n:Nat) (f g:List Sg) (x y:Int × Int),f.length + g.length≤n→UpT f→UpT g →
    ((tog n f g x y).Pairwise fun p q => p.1 < q.1)∧(∀ p ∈ tog n f g x y,p.2.1 = f.foldl (stepV p.1) x∧p.2.2 = g.foldl (stepV p.1) y) ∧
    (∀ t,(∃ p ∈ tog n f g x y,p.1 = t) ↔ (∃ s ∈ f,s.1 = t) ∨ ∃ s ∈ g,s.1 = t)
  | 0, f, g, x, y, hn, _, _ => by
    have e1:f = []:=List.eq_nil_of_length_eq_zero (by omega)
    have e2:g = []:=List.eq_nil_of_length_eq_zero (by omega)
    subst e1 e2
    simp [tog]
  | n + 1, f, g, x, y, hn, hf, hg => by
    by_cases h:f.length = 0∧g.length = 0
    · have e1:f = []:=List.eq_nil_of_length_eq_zero h.1
      have e2:g = []:=List.eq_nil_of_length_eq_zero h.2
      subst e1 e2
      simp [tog]
    · have hless:=pass_less h
      obtain ⟨l1,l2⟩:=next_least hf hg
      have hm:=next_mem h
      rw [tog_cons h]
      obtain ⟨p1,p2,p3⟩:=pass_spec hf l1 x
      obtain ⟨q1,q2,q3⟩:=pass_spec hg l2 y
      obtain ⟨r1,r2,r3⟩:=tog_spec n (passF f (nextT f g)) (passF g (nextT f g)) (passV f (nextT f g) x) (passV g (nextT f g) y) (by omega) (pass_up hf _) (pass_up hg _)
      generalize nextT f g = t at *
      have late:∀ p ∈ tog n (passF f t) (passF g t) (passV f t x) (passV g t y),t < p.1:=fun p hp => by
        rcases (r3 p.1).1 ⟨p,hp,rfl⟩ with ⟨s,hs,e⟩ | ⟨s,hs,e⟩
        · rw [← e];exact p1 s hs
        · rw [← e];exact q1 s hs
      refine ⟨List.pairwise_cons.2 ⟨fun p hp => late p hp,r1⟩,fun p hp => ?_,fun u => ?_⟩
      · rcases List.mem_cons.1 hp with rfl | hp'
        · have e1:=p2 t (Int.le_refl _);have e2:=q2 t (Int.le_refl _)
          have f1:(passF f t).foldl (stepV t) (passV f t x) = passV f t x:=foldl_gt t _ _ p1
          have f2:(passF g t).foldl (stepV t) (passV g t y) = passV g t y:=foldl_gt t _ _ q1
          exact ⟨f1.symm.trans e1,f2.symm.trans e2⟩
        · obtain ⟨e1,e2⟩:=r2 p hp'
          have:=late p hp'
          exact ⟨e1.trans (p2 p.1 (by omega)),e2.trans (q2 p.1 (by omega))⟩
      · constructor
        · rintro ⟨p,hp,rfl⟩
          rcases List.mem_cons.1 hp with rfl | hp'
          · exact hm
          · rcases (r3 p.1).1 ⟨p,hp',rfl⟩ with ⟨s,hs,e⟩ | ⟨s,hs,e⟩
            · exact .inl ⟨s,(p3 s).2 (.inl hs),e⟩
            · exact .inr ⟨s,(q3 s).2 (.inl hs),e⟩
        · intro hu
          by_cases c:u = t
          · exact ⟨_,List.mem_cons_self,c.symm⟩
          · have:(∃ s ∈ passF f t,s.1 = u) ∨ ∃ s ∈ passF g t,s.1 = u:=by
              rcases hu with ⟨s,hs,e⟩ | ⟨s,hs,e⟩
              · rcases (p3 s).1 hs with h' | h'
                · exact .inl ⟨s,h',e⟩
                · exact absurd (e.symm.trans h'.2) c
              · rcases (q3 s).1 hs with h' | h'
                · exact .inr ⟨s,h',e⟩
                · exact absurd (e.symm.trans h'.2) c
            obtain ⟨p,hp,e⟩:=(r3 u).2 this
            exact ⟨p,List.mem_cons_of_mem _ hp,e⟩
theorem tog_len:∀ (n:Nat) (f g:List Sg) (x y:Int × Int),(tog n f g x y).length≤n
  | 0,_,_,_,_ => Nat.le_refl _
  | n + 1, f, g, x, y => by
    unfold tog
    split
    · simp
    · have:=tog_len n (passF f (nextT f g)) (passF g (nextT f g)) (passV f (nextT f g) x) (passV g (nextT f g) y)
      simp only [List.length_cons];omega
theorem togL_len (f g:List Sg):(togL f g).length≤f.length + g.length:=tog_len _ _ _ _ _
theorem togL_spec {f g:List Sg} (hf:UpT f) (hg:UpT g):((togL f g).Pairwise fun p q => p.1 < q.1)∧(∀ p ∈ togL f g,p.2.1 = vat f p.1∧p.2.2 = vat g p.1)∧∀ t,(∃ p ∈ togL f g,p.1 = t) ↔ t ∈ twoT f g:=by
  obtain ⟨h1,h2,h3⟩:=tog_spec (f.length + g.length) f g (0,0) (0,0) (Nat.le_refl _) hf hg
  exact ⟨h1,h2,fun t => (h3 t).trans twoT_mem.symm⟩
end
section
def rawOf (k:Int) (p:Tg):Sg:=(p.1,((opV k p.2.1 p.2.2).1,(opV k p.2.1 p.2.2).2.1))
def errOf (k:Int) (p:Tg):Int:=(opV k p.2.1 p.2.2).2.2
theorem gate_err (b:Bool) (x y:Int):(gate b x y).2.2 = 0 ∨ (gate b x y).2.2 = 10:=by unfold gate;cases b <;> simp
theorem errOf_two (k:Int) (p:Tg):errOf k p = 0 ∨ errOf k p = 10:=by
  unfold errOf opV
  split
  · exact gate_err _ _ _
  · split
    · exact gate_err _ _ _
    · split <;> simp
theorem canon_up {f:List Sg} (h:Canon f):UpT f:=CF.up h
theorem item_at {k:Int} {f g:List Sg} (hf:Canon f) (hg:Canon g) {p:Tg} (hp:p ∈ togL f g):opT k f g p.1 = opV k p.2.1 p.2.2:=by
  obtain ⟨h1,h2⟩:=(togL_spec (canon_up hf) (canon_up hg)).2.1 p hp
  unfold opT;rw [h1,h2]
theorem comb_bad {k:Int} {f g:List Sg} (hf:mayB f = true) (hg:mayB g = true) {p:Tg} (hp:p ∈ togL f g) (he:errOf k p ≠ 0):doS k f g = ([],errOf k p):=by
  have hf':=mayB_iff.1 hf;have hg':=mayB_iff.1 hg
  have h10:errOf k p = 10:=(errOf_two k p).resolve_left he
  have ht:p.1 ∈ twoT f g:=((togL_spec (canon_up hf') (canon_up hg')).2.2 p.1).1 ⟨p,hp,rfl⟩
  obtain ⟨i,hi,hti⟩:=List.getElem_of_mem ht
  rw [h10]
  refine doS_bad (i:=i) hf hg hi ?_
  rw [getD_get _ _ _ hi,hti,item_at hf' hg' hp]
  exact he
theorem comb_ok {k:Int} {f g:List Sg} (hf:mayB f = true) (hg:mayB g = true) (he:∀ p ∈ togL f g,errOf k p = 0) :
    ((togL f g).map (rawOf k)).all okS = true∧∀ r,IsOf ((togL f g).map (rawOf k)) r→doS k f g = (r,0):=by
  have hf':=mayB_iff.1 hf;have hg':=mayB_iff.1 hg
  obtain ⟨s1,s2,s3⟩:=togL_spec (canon_up hf') (canon_up hg')
  have hz:∀ i,i < (twoT f g).length→(opT k f g ((twoT f g).getD i 0)).2.2 = 0:=fun i hi => by
    rw [getD_get _ _ _ hi]
    obtain ⟨p,hp,e⟩:=(s3 _).2 (List.getElem_mem hi)
    rw [← e,item_at hf' hg' hp];exact he p hp
  have hok:opOk k f g = true:=by
    unfold opOk
    rw [List.all_eq_true]
    intro t ht
    obtain ⟨p,hp,e⟩:=(s3 t).2 ht
    rw [← e,item_at hf' hg' hp]
    have:=he p hp
    unfold errOf at this
    rw [this];rfl
  have hall:=opOk_iff.1 hok
  constructor
  · rw [List.all_eq_true]
    intro x hx
    obtain ⟨p,hp,rfl⟩:=List.mem_map.1 hx
    have h1:okV (opV k p.2.1 p.2.2).1 (opV k p.2.1 p.2.2).2.1 = true:=by
      obtain ⟨e1,e2⟩:=s2 p hp
      exact opV_ok (by rw [e1];exact vat_ok (CF.ok hf') _) (by rw [e2];exact vat_ok (CF.ok hg') _) (he p hp)
    have h2:okT p.1 = true:=by
      rcases twoT_mem.1 ((s3 p.1).1 ⟨p,hp,rfl⟩) with ⟨x,hx,e⟩ | ⟨x,hx,e⟩
      · have:=CF.ok hf' x hx
        unfold okS at this;rw [Bool.and_eq_true,e] at this;exact this.1
      · have:=CF.ok hg' x hx
        unfold okS at this;rw [Bool.and_eq_true,e] at this;exact this.1
    unfold okS rawOf
    rw [Bool.and_eq_true]
    exact ⟨h2,h1⟩
  · intro r hr
    rw [doS_ok hf hg hz,opL_unique hf' hg' hok hr.1 fun t => ?_]
    rw [hr.2.1 t]
    have hmem:∀ (x:Int),x ∈ twoT f g→∃ j,j < ((togL f g).map (rawOf k)).length∧ats ((togL f g).map (rawOf k)) j = x:=fun x hx => by
      obtain ⟨p,hp,e⟩:=(s3 x).2 hx
      obtain ⟨j,hj,rfl⟩:=List.getElem_of_mem hp
      refine ⟨j,by simpa using hj, ?_⟩
      unfold ats
      rw [getD_get _ _ _ (by simpa using hj),List.getElem_map]
      exact e
    rcases rread_char t _ ((togL f g).map (rawOf k)) rfl with ⟨e,hgt⟩ | ⟨i,htop,e⟩
    · unfold rv;rw [e]
      have hn:∀ x ∈ twoT f g,t < x:=fun x hx => by
        obtain ⟨j,hj,ej⟩:=hmem x hx
        rw [← ej];exact hgt j hj
      unfold opW opT
      rw [vat_before (fun x hx => hn x.1 (twoT_mem.2 (.inl ⟨x,hx,rfl⟩))),vat_before (fun x hx => hn x.1 (twoT_mem.2 (.inr ⟨x,hx,rfl⟩))),opV_zero]
    · unfold rv;rw [e]
      obtain ⟨hi,hle,hbest⟩:=htop
      have hi':i < (togL f g).length:=by simpa using hi
      have hp:(togL f g)[i] ∈ togL f g:=List.getElem_mem hi'
      have ea:ats ((togL f g).map (rawOf k)) i = (togL f g)[i].1:=by
        unfold ats;rw [getD_get _ _ _ hi,List.getElem_map];rfl
      have ev:vls ((togL f g).map (rawOf k)) i = opW k f g (togL f g)[i].1:=by
        unfold vls;rw [getD_get _ _ _ hi,List.getElem_map]
        unfold opW;rw [item_at hf' hg' hp];rfl
      rw [ea] at hle
      have hlast:∀ x ∈ twoT f g,x≤t→x≤(togL f g)[i].1:=fun x hx hxt => by
        obtain ⟨j,hj,ej⟩:=hmem x hx
        have:=hbest j hj (by rw [ej];exact hxt)
        rw [ej,ea] at this
        omega
      show vls _ i = _
      rw [ev]
      unfold opW opT
      rw [vat_same (l:=f) (s:=(togL f g)[i].1) (t:=t) (fun x hx => ⟨fun h => by omega,fun h => hlast x.1 (twoT_mem.2 (.inl ⟨x,hx,rfl⟩)) h⟩),
        vat_same (l:=g) (s:=(togL f g)[i].1) (t:=t) (fun x hx => ⟨fun h => by omega,fun h => hlast x.1 (twoT_mem.2 (.inr ⟨x,hx,rfl⟩)) h⟩)]
end
section
end
end Go.Proofs.YthlepbbdjmmelaaGreatDoor
