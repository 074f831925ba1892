/- Depths of parts, of terms that may be. No program. No conditions. Parts of a term among a list of parts: where they lie, where the children lie; what normalizing them makes. No program. No conditions. What a witness makes of a term: its begin and end, its least length, whether it is satisfied. No program. No conditions. A term's begin and end are those of the pieces among .. -/
import Derived.Test.YthlepbbdjmmelaaGreatDoorPWGB
import Derived.Test.YthlepbbdjmmelaaGreatDoorPWMA
import Derived.Test.YthlepbbdjmmelaaGreatDoorPWGA
import Derived.Maps.AppendAt
namespace Go.Proofs.YthlepbbdjmmelaaGreatDoor
section
def EndsAt (l:List Prt):Nat→Fst→Prop
  | _,.nil => True
  | o,.cons _ K N => endS l o = o + 1 + K.size∧EndsAt l (o + 1) K∧EndsAt l (o + 1 + K.size) N
theorem ends_fit:∀ (F:Fst) (l:List Prt) (o deep ink:Nat),(∀ i,i < F.size→l[o + i]? = F.flat[i]?)→o + F.size≤64→1≤deep→F.fit deep ink→EndsAt l o F
  | .nil,_,_,_,_,_,_,_,_ => trivial
  | .cons x K N, l, o, deep, ink, hl, h64, hd, hf => by
    obtain ⟨h1,h2,h3,h4,h5⟩:=hf
    simp only [Fst.size] at hl h64
    have g1:(Fst.cons x K .nil).fit deep ink:=⟨h1,h2,h3,h4,trivial⟩
    have hs:∀ i,i < (Fst.cons x K .nil).size→l[o + i]? = (Fst.cons x K .nil).flat[i]? := fun i hi => by
      simp only [Fst.size] at hi
      rw [hl i (by omega)]
      simp only [Fst.flat,List.append_nil]
      cases i with
      | zero => rfl
      | succ i =>
        rw [List.getElem?_cons_succ,List.getElem?_cons_succ,List.getElem?_append_left (by rw [flat_len];omega)]
    have hr:=rd_fit (.cons x K .nil) _ l o deep ink (Nat.le_refl _) hs (by simp only [Fst.size];omega) g1
    refine ⟨(end_of hr hd).trans (by simp only [Fst.size];omega),ends_fit K l (o + 1) (deep + 1) x.kind (fun i hi => ?_) (by omega) (by omega) h4,ends_fit N l (o + 1 + K.size) deep ink (fun i hi => ?_) (by omega) hd h5⟩
    · have:=hl (1 + i) (by omega)
      rw [show o + 1 + i = o + (1 + i) by omega,this,Fst.flat,Nat.add_comm 1 i,List.getElem?_cons_succ,List.getElem?_append_left (by rw [flat_len];exact hi)]
    · have:=hl (1 + K.size + i) (by omega)
      rw [show o + 1 + K.size + i = o + (1 + K.size + i) by omega,this,Fst.flat,show 1 + K.size + i = (K.size + i) + 1 by omega,List.getElem?_cons_succ,List.getElem?_append_right (by rw [flat_len];omega),flat_len,Nat.add_sub_cancel_left]
end
section
def AtF (l:List Prt) (o:Nat) (F:Fst):Prop:=(∀ i,i < F.size→l[o + i]? = F.flat[i]?)∧EndsAt l o F
theorem AtF.kids {l:List Prt} {o:Nat} {x:Prt} {K N:Fst} (h:AtF l o (.cons x K N)):AtF l (o + 1) K:=by
  refine ⟨fun i hi => ?_,h.2.2.1⟩
  have:=h.1 (i + 1) (by simp only [Fst.size];omega)
  rw [show o + 1 + i = o + (i + 1) by omega,this]
  simp only [Fst.flat,List.getElem?_cons_succ]
  rw [List.getElem?_append_left (by rw [flat_len];exact hi)]
theorem AtF.next {l:List Prt} {o:Nat} {x:Prt} {K N:Fst} (h:AtF l o (.cons x K N)):AtF l (o + 1 + K.size) N:=by
  refine ⟨fun i hi => ?_,h.2.2.2⟩
  have:=h.1 (1 + K.size + i) (by simp only [Fst.size];omega)
  rw [show o + 1 + K.size + i = o + (1 + K.size + i) by omega,this]
  simp only [Fst.flat]
  rw [show 1 + K.size + i = (K.size + i) + 1 by omega,List.getElem?_cons_succ,List.getElem?_append_right (by rw [flat_len];omega),flat_len]
  congr 1;omega
theorem AtF.head {l:List Prt} {o:Nat} {x:Prt} {K N:Fst} (h:AtF l o (.cons x K N)):l[o]? = some { x with kids:=(K.len:Int) }:=by
  have:=h.1 0 (by simp only [Fst.size];omega)
  simpa [Fst.flat] using this
theorem AtF.lt {l:List Prt} {o:Nat} {x:Prt} {K N:Fst} (h:AtF l o (.cons x K N)):o < l.length:=(List.getElem?_eq_some_iff.1 h.head).1
theorem AtF.one {l:List Prt} {o:Nat} {x:Prt} {K N:Fst} (h:AtF l o (.cons x K N)):AtF l o (.cons x K .nil):=by
  refine ⟨fun i hi => ?_,h.2.1,h.2.2.1,trivial⟩
  have:=h.1 i (by simp only [Fst.size] at hi ⊢;omega)
  rw [this]
  simp only [Fst.size] at hi
  simp only [Fst.flat]
  cases i with
  | zero => rfl
  | succ i =>
    simp only [List.getElem?_cons_succ]
    rw [List.getElem?_append_left (by rw [flat_len];omega),List.getElem?_append_left (by rw [flat_len];omega)]
theorem atF_whole {F:Fst} (h2:F.size≤64) (h3:F.fit 1 0):AtF F.flat 0 F:=by
  refine ⟨fun i _ => by rw [Nat.zero_add],ends_fit F F.flat 0 1 0 (fun i _ => by rw [Nat.zero_add]) (by omega) (Nat.le_refl _) h3⟩
def posF:Fst→Nat→List Nat
  | .nil,_ => []
  | .cons _ K N,o => o :: posF N (o + 1 + K.size)
theorem posF_len:∀ (F:Fst) (o:Nat),(posF F o).length = F.len
  | .nil,_ => rfl
  | .cons x K N,o => by simp only [posF,List.length_cons,Fst.len,posF_len N]
theorem kidsGo_pos (l:List Prt):∀ (F:Fst) (o:Nat),EndsAt l o F→kidsGo l F.len o = posF F o
  | .nil,_,_ => rfl
  | .cons x K N,o,⟨e,_,h⟩ => by rw [Fst.len,kidsGo,posF,e,kidsGo_pos l N _ h]
theorem kidsS_pos {l:List Prt} {o:Nat} {x:Prt} {K N:Fst} (h:AtF l o (.cons x K N)):kidsS l o = posF K (o + 1):=by
  have e:=h.head
  unfold kidsS
  rw [List.getD_eq_getElem?_getD,e]
  exact kidsGo_pos l K _ h.2.2.1
def nzT (x:Prt) (K:Fst) (o:Nat):Tm:=nfT ({ x with kids:=(o:Int) },plainF (lab K (o + 1)))
theorem plain_lab (x:Prt) (K N:Fst) (o:Nat):plainF (lab (.cons x K N) o) = .cons (nzT x K o).1 (nzT x K o).2 (plainF (lab N (o + 1 + K.size))):=by
  rw [lab,plain_cons];rfl
theorem nz_fit {x:Prt} {K N:Fst} {o deep ink:Nat} (h:(Fst.cons x K N).fit deep ink):FitT ({ x with kids:=(o:Int) },plainF (lab K (o + 1))) deep ink:=by
  obtain ⟨h1,h2,h3,h4,h5⟩:=h
  refine ⟨?_,h2,h3,plain_fit _ _ _ (lab_fit K (o + 1) _ _ h4)⟩
  simp only [(plain_siz _).2,(lab_len K _).1];exact h1
theorem nz_siz {x:Prt} {K:Fst} {o n:Nat} (h:K.size + 1≤n):sizT ({ x with kids:=(o:Int) },plainF (lab K (o + 1)))≤n:=by
  have:=(plain_siz (lab K (o + 1))).1
  rw [(lab_len K _).2] at this
  simp only [sizT];omega
theorem toL_plain_cons (x:Prt) (K N:Fst) (o:Nat):toL (plainF (lab (.cons x K N) o)) = nzT x K o :: toL (plainF (lab N (o + 1 + K.size))):=by
  rw [plain_lab,toL]
end
section
abbrev Se:=Option (Int × Int)
def jn:Se→Se→Se
  | none,s => s
  | some a,none => some a
  | some a,some b => some (min a.1 b.1,max a.2 b.2)
@[simp] theorem jn_none (s:Se):jn none s = s:=rfl
@[simp] theorem jn_none' (s:Se):jn s none = s:=by cases s <;> rfl
theorem jn_comm (s t:Se):jn s t = jn t s:=by
  cases s <;> cases t <;> simp only [jn]
  rw [Int.min_comm,Int.max_comm]
theorem jn_assoc (s t u:Se):jn (jn s t) u = jn s (jn t u):=by
  cases s <;> cases t <;> cases u <;> simp only [jn]
  rw [Int.min_assoc,Int.max_assoc]
def seB (s:Se):Int:=match s with
  | none => 0
  | some a => a.1
def seE (s:Se):Int:=match s with
  | none => 0
  | some a => a.2
abbrev Pc:=Int × Int
structure TI where
  x:Prt
  len:Int
  se:Se
  ok:Bool
def placeI (W:List Pc) (o:Nat) (d:Int):Se:=W.foldl (fun s p => if p.1 = (o:Int) then jn s (some (p.2,p.2 + d)) else s) none
def endsI (ks:List TI):Se:=ks.foldl (fun s k => jn s k.se) none
def sumI (ks:List TI):Int:=ks.foldl (fun n k => n + k.len) 0
def minI (ks:List TI):Int:=ks.foldl (fun n k => min n k.len) ((ks.head?.map TI.len).getD 0)
def maxI (ks:List TI):Int:=ks.foldl (fun n k => max n k.len) ((ks.head?.map TI.len).getD 0)
def lenI (x:Prt) (ks:List TI):Int:=if x.kind = 0 then x.d else if x.kind = 3 then minI ks else if x.kind = 4 then maxI ks else sumI ks
def adjI (f:Int→Int→Bool):List TI→Bool
  | [] => true
  | [_] => true
  | a :: b :: r => f (seE a.se) (seB b.se) && adjI f (b :: r)
def allI (ks:List TI):Bool:=ks.all TI.ok
def anyI (ks:List TI):Bool:=match ks.filter fun k => k.se.isSome with
  | [k] => k.ok
  | _ => false
def okI (x:Prt) (s:Se) (ks:List TI):Bool :=
  if x.kind = 0 then s.isSome else if x.kind = 1 then adjI (fun e b => decide (e≤b)) ks && allI ks else if x.kind = 2 then adjI (fun e b => decide (e = b)) ks && allI ks else if x.kind = 3 then anyI ks else allI ks
def mkI (W:List Pc) (x:Prt) (o:Nat) (ks:List TI):TI :=
  ⟨x,lenI x ks,if x.kind = 0 then placeI W o x.d else endsI ks,okI x (if x.kind = 0 then placeI W o x.d else endsI ks) ks⟩
def satF (W:List Pc):Fst→Nat→List TI
  | .nil,_ => []
  | .cons x K N,o => mkI W { x with kids:=(K.len:Int) } o (satF W K (o + 1)) :: satF W N (o + 1 + K.size)
theorem satF_len (W:List Pc):∀ (F:Fst) (o:Nat),(satF W F o).length = F.len
  | .nil,_ => rfl
  | .cons x K N,o => by simp only [satF,List.length_cons,Fst.len,satF_len W N]
def satI (W:List Pc) (x:Prt) (K:Fst) (o:Nat):TI:=mkI W { x with kids:=(K.len:Int) } o (satF W K (o + 1))
theorem satF_cons (W:List Pc) (x:Prt) (K N:Fst) (o:Nat):satF W (.cons x K N) o = satI W x K o :: satF W N (o + 1 + K.size):=rfl
theorem foldl_jn (f:TI→Se):∀ (ks:List TI) (s:Se),ks.foldl (fun s k => jn s (f k)) s = jn s (ks.foldl (fun s k => jn s (f k)) none)
  | [],s => by simp
  | k :: ks, s => by
    rw [List.foldl_cons,List.foldl_cons,foldl_jn f ks (jn s (f k)),foldl_jn f ks (jn none (f k)),jn_none,jn_assoc]
theorem endsI_cons (k:TI) (ks:List TI):endsI (k :: ks) = jn k.se (endsI ks):=by
  unfold endsI
  rw [List.foldl_cons,foldl_jn TI.se ks (jn none k.se),jn_none]
theorem endsI_snoc (k:TI) (ks:List TI):endsI (ks ++ [k]) = jn (endsI ks) k.se:=by
  unfold endsI
  rw [List.foldl_append];rfl
end
section
def Atoms (l:List Prt) (W:List Pc):Prop:=∀ p ∈ W,0≤p.1∧p.1 < (l.length:Int)∧(l.getD p.1.toNat ⟨0,0,0,0,0⟩).kind = 0
theorem endsI_none:∀ {ks:List TI},(∀ k ∈ ks,k.se = none)→endsI ks = none
  | [],_ => rfl
  | k :: ks,h => by rw [endsI_cons,h k (by simp),endsI_none fun q hq => h q (List.mem_cons_of_mem _ hq)];rfl
theorem endsI_some:∀ {ks:List TI} {k:TI},k ∈ ks→k.se ≠ none→endsI ks ≠ none
  | q :: ks, k, hk, h => by
    rw [endsI_cons]
    rcases List.mem_cons.1 hk with rfl | hk
    · cases hq:k.se with
      | none => exact absurd hq h
      | some a => cases endsI ks <;> simp [jn]
    · have:=endsI_some hk h
      cases he:endsI ks with
      | none => exact absurd he this
      | some a => cases q.se <;> simp [jn]
end
section
def lenLs (x:Prt) (ls:List Int):Int:=if x.kind = 0 then x.d else if x.kind = 3 then ls.foldl min (ls.head?.getD 0) else if x.kind = 4 then ls.foldl max (ls.head?.getD 0) else ls.foldl (· + ·) 0
theorem lenI_map (x:Prt) (ks:List TI):lenI x ks = lenLs x (ks.map TI.len):=by
  unfold lenI lenLs minI maxI sumI
  rw [List.foldl_map,List.foldl_map,List.foldl_map,List.head?_map]
def lensF:Fst→List Int
  | .nil => []
  | .cons x K N => lenLs x (lensF K) :: lensF N
def lenW (x:Prt) (K:Fst):Int:=lenLs x (lensF K)
theorem satF_lens (W:List Pc):∀ (F:Fst) (o:Nat),(satF W F o).map TI.len = lensF F
  | .nil,_ => rfl
  | .cons x K N, o => by
    simp only [satF,List.map_cons,lensF,satF_lens W N]
    congr 1
    unfold mkI
    simp only
    rw [lenI_map,satF_lens W K]
    rfl
theorem foldl_min (ls:List Int):∀ a:Int,ls.foldl min a≤a∧(∀ x ∈ ls,ls.foldl min a≤x)∧(ls.foldl min a = a ∨ ls.foldl min a ∈ ls):=by
  induction ls with
  | nil => intro a;simp
  | cons b r ih =>
    intro a
    rw [List.foldl_cons]
    obtain ⟨h1,h2,h3⟩:=ih (min a b)
    refine ⟨by omega,fun x hx => ?_, ?_⟩
    · rcases List.mem_cons.1 hx with rfl | hx
      · omega
      · exact h2 x hx
    · rcases h3 with h | h
      · by_cases c:a≤b
        · left;rw [h];omega
        · right;rw [h];have:min a b = b:=by omega
          rw [this];simp
      · right;simp [h]
theorem foldl_max (ls:List Int):∀ a:Int,a≤ls.foldl max a∧(∀ x ∈ ls,x≤ls.foldl max a)∧(ls.foldl max a = a ∨ ls.foldl max a ∈ ls):=by
  induction ls with
  | nil => intro a;simp
  | cons b r ih =>
    intro a
    rw [List.foldl_cons]
    obtain ⟨h1,h2,h3⟩:=ih (max a b)
    refine ⟨by omega,fun x hx => ?_, ?_⟩
    · rcases List.mem_cons.1 hx with rfl | hx
      · omega
      · exact h2 x hx
    · rcases h3 with h | h
      · by_cases c:b≤a
        · left;rw [h];omega
        · right;rw [h];have:max a b = b:=by omega
          rw [this];simp
      · right;simp [h]
end
section
def sumL (ls:List Int):Int:=ls.foldl (· + ·) 0
theorem foldl_add (ls:List Int):∀ a:Int,ls.foldl (· + ·) a = a + sumL ls:=by
  induction ls with
  | nil => intro a;simp [sumL]
  | cons b r ih =>
    intro a
    unfold sumL
    rw [List.foldl_cons,List.foldl_cons,ih,ih (0 + b)];omega
theorem sumL_cons (b:Int) (r:List Int):sumL (b :: r) = b + sumL r:=by
  conv => lhs;unfold sumL
  rw [List.foldl_cons,foldl_add];omega
theorem sumI_map (ks:List TI):sumI ks = sumL (ks.map TI.len):=by unfold sumI sumL;rw [List.foldl_map]
theorem sumI_cons4 (k:TI) (ks:List TI):sumI (k :: ks) = k.len + sumI ks:=by rw [sumI_map,sumI_map,List.map_cons,sumL_cons]
end
section
end
section
theorem fit_depth:∀ (F:Fst) (deep ink:Nat),F.fit deep ink→F.depth≤9 - deep
  | .nil,_,_,_ => Nat.zero_le _
  | .cons x K N, deep, ink, ⟨h1, h2, h3, h4, h5⟩ => by
    have a:=fit_depth K _ _ h4
    have b:=fit_depth N _ _ h5
    simp only [Fst.depth];omega
theorem bare_depth:∀ F:Fst,(bare F).depth = F.depth
  | .nil => rfl
  | .cons x K N => by simp only [bare,Fst.depth,bare_depth K,bare_depth N]
theorem bare_fit:∀ (F:Fst) (deep ink:Nat),F.fit deep ink→(bare F).fit deep ink
  | .nil,_,_,_ => trivial
  | .cons x K N,deep,ink,⟨h1,h2,h3,h4,h5⟩ => ⟨by rw [(bare_len K).1];exact h1,h2,h3,bare_fit K _ _ h4,bare_fit N _ _ h5⟩
theorem txT_inj {t u:Tm} {d1 d2 i1 i2:Nat} (ht:FitT t d1 i1) (hu:FitT u d2 i2) (h1:1≤d1) (h2:1≤d2) (s1:sizT t≤64) (s2:sizT u≤64) (h:txT t = txT u):bareT t = bareT u:=by
  have go:∀ {t:Tm} {d i:Nat},FitT t d i→1≤d→sizT t≤64→(bare (.cons t.1 t.2 .nil)).wf∧(bare (.cons t.1 t.2 .nil)).len = 1∧(bare (.cons t.1 t.2 .nil)).depth≤8∧(bare (.cons t.1 t.2 .nil)).size≤64:=fun {t d i} ht hd hs => by
    have hf:(Fst.cons t.1 t.2 .nil).fit d i:=⟨ht.1,ht.2.1,ht.2.2.1,ht.2.2.2,trivial⟩
    refine ⟨fit_wf _ d i (bare_kok _ _ _ hf) (bare_fit _ _ _ hf),(bare_len _).1, ?_, ?_⟩
    · rw [bare_depth];have:=fit_depth _ _ _ hf;omega
    · rw [(bare_len _).2];simp only [sizT] at hs;simp only [Fst.size];omega
  obtain ⟨a1,a2,a3,a4⟩:=go ht h1 s1
  obtain ⟨b1,b2,b3,b4⟩:=go hu h2 s2
  have e:=text_inj a1 b1 a2 b2 a3 b3 a4 b4 (by rw [bare_text,bare_text];exact h)
  simp only [bare,Fst.cons.injEq,and_true] at e
  exact Prod.ext e.1 e.2
end
section
def zT:Prt:=⟨0,0,0,0,0⟩
def placeL (W:List Pc) (z d:Int):Se:=W.foldl (fun s p => if p.1 = z then jn s (some (p.2,p.2 + d)) else s) none
def mkL (W:List Pc) (x:Prt) (ks:List TI):TI :=
  ⟨zT,lenI x ks,if x.kind = 0 then placeL W x.kids x.d else endsI ks,okI x (if x.kind = 0 then placeL W x.kids x.d else endsI ks) ks⟩
def semF (W:List Pc):Fst→List TI
  | .nil => []
  | .cons x K N => mkL W x (semF W K) :: semF W N
def semT (W:List Pc) (t:Tm):TI:=mkL W t.1 (semF W t.2)
theorem semF_to (W:List Pc):∀ F:Fst,semF W F = (toL F).map (semT W)
  | .nil => rfl
  | .cons x K N => by simp only [semF,toL,List.map_cons,semF_to W N];rfl
theorem semF_of (W:List Pc) (l:List Tm):semF W (ofL l) = l.map (semT W):=by rw [semF_to,to_of]
theorem semF_lens (W:List Pc):∀ F:Fst,(semF W F).map TI.len = lensF F
  | .nil => rfl
  | .cons x K N => by
    simp only [semF,List.map_cons,lensF,semF_lens W N]
    congr 1
    unfold mkL
    simp only
    rw [lenI_map,semF_lens W K]
theorem semT_len (W:List Pc) (t:Tm):(semT W t).len = lenW t.1 t.2:=by
  unfold semT mkL lenW
  simp only
  rw [lenI_map,semF_lens]
def cZ (z:Int):Fst→Nat
  | .nil => 0
  | .cons x K N => (if x.kids = z then 1 else 0) + cZ z K + cZ z N
def cZT (z:Int) (t:Tm):Nat:=(if t.1.kids = z then 1 else 0) + cZ z t.2
def cZL (z:Int):List Tm→Nat
  | [] => 0
  | t :: l => cZT z t + cZL z l
theorem cZL_to (z:Int):∀ F:Fst,cZL z (toL F) = cZ z F
  | .nil => rfl
  | .cons x K N => by simp only [toL,cZL,cZT,cZ,cZL_to z N]
theorem cZ_of (z:Int) (l:List Tm):cZ z (ofL l) = cZL z l:=by rw [← cZL_to,to_of]
theorem cZL_app (z:Int):∀ a b:List Tm,cZL z (a ++ b) = cZL z a + cZL z b
  | [],b => by simp [cZL]
  | t :: a,b => by simp only [List.cons_append,cZL,cZL_app z a b];omega
theorem cZL_mem {z:Int} {t:Tm}:∀ {l:List Tm},t ∈ l→cZT z t≤cZL z l
  | u :: l, h => by
    simp only [cZL]
    rcases List.mem_cons.1 h with rfl | h
    · omega
    · have:=cZL_mem (z:=z) h;omega
theorem cZL_flat (z:Int) (kind:Nat):∀ (l:List Tm) (n:Nat),cZL z (flatG kind n l)≤cZL z l
  | [],_ => Nat.le_refl _
  | t :: l, n => by
    unfold flatG
    split
    · rw [cZL_app,cZL_to]
      have:=cZL_flat z kind l (n + t.2.len - 1)
      simp only [cZL,cZT];omega
    · have:=cZL_flat z kind l n
      simp only [cZL];omega
theorem cZL_once (z:Int):∀ (l:List Tm) (s:List (List UInt8)),cZL z (onceG s l)≤cZL z l
  | [],_ => Nat.le_refl _
  | t :: l, s => by
    unfold onceG
    split
    · have:=cZL_once z l s;simp only [cZL];omega
    · have:=cZL_once z l (txT t :: s);simp only [cZL];omega
theorem cZL_perm {z:Int} {a b:List Tm} (h:a.Perm b):cZL z a = cZL z b:=by
  induction h with
  | nil => rfl
  | cons x _ ih => simp only [cZL,ih]
  | swap x y l => simp only [cZL];omega
  | trans _ _ ih1 ih2 => exact ih1.trans ih2
theorem oneT_cZ {t u:Tm} (z:Int) (h:oneT t = some u):cZT z u≤cZT z t:=by
  rcases oneT_cases h with h | ⟨_,_,rfl⟩ | ⟨_,_,rfl⟩ | ⟨_,_,rfl⟩
  · have:=cZL_mem (z:=z) (t:=u) (l:=toL t.2) (by rw [h];simp)
    rw [cZL_to] at this
    unfold cZT at this ⊢;omega
  · unfold cZT
    simp only
    rw [cZ_of]
    have:=cZL_flat z t.1.kind (toL t.2) (toL t.2).length
    rw [cZL_to] at this
    omega
  · unfold cZT
    simp only
    rw [cZ_of]
    have:=cZL_once z (toL t.2) []
    rw [cZL_to] at this
    omega
  · unfold cZT
    simp only
    rw [cZ_of,cZL_perm (sortG_perm _),cZL_to]
    exact Nat.le_refl _
theorem loopT_cZ (z:Int):∀ (m:Nat) (t:Tm),cZT z (loopT m t)≤cZT z t
  | 0,t => Nat.le_refl _
  | m + 1, t => by
    rw [loopT]
    split
    · exact Nat.le_refl _
    · rename_i u hu
      exact Nat.le_trans (loopT_cZ z m u) (oneT_cZ z hu)
theorem plain_cZ (z:Int):∀ F:Fst,cZ z (plainF F)≤cZ z F
  | .nil => Nat.le_refl _
  | .cons x K N => by
    have h1:=loopT_cZ z (2 * K.size + 4) (x,plainF K)
    have h2:=plain_cZ z K
    have h3:=plain_cZ z N
    simp only [plainF,cZ]
    unfold cZT at h1
    simp only at h1
    omega
def Fwd (s:Se):Prop:=∀ a b,s = some (a,b)→a≤b
theorem fwd_jn {s t:Se} (h1:Fwd s) (h2:Fwd t):Fwd (jn s t):=by
  intro a b h
  cases s with
  | none => rw [jn_none] at h;exact h2 a b h
  | some p =>
    cases t with
    | none => rw [jn_none'] at h;exact h1 a b h
    | some q =>
      have e1:=h1 p.1 p.2 rfl
      have e2:=h2 q.1 q.2 rfl
      simp only [jn,Option.some.injEq,Prod.mk.injEq] at h
      omega
theorem fwd_ends:∀ {ks:List TI},(∀ k ∈ ks,Fwd k.se)→Fwd (endsI ks)
  | [],_ => fun a b h => by cases h
  | k :: ks, h => by
    rw [endsI_cons]
    exact fwd_jn (h k (by simp)) (fwd_ends fun q hq => h q (List.mem_cons_of_mem _ hq))
theorem fwd_place (W:List Pc) (z:Int) {d:Int} (hd:0≤d):Fwd (placeL W z d):=by
  have:∀ (W:List Pc) (s:Se),Fwd s→Fwd (W.foldl (fun s p => if p.1 = z then jn s (some (p.2,p.2 + d)) else s) s):=by
    intro W
    induction W with
    | nil => intro s h;exact h
    | cons p W ih =>
      intro s h
      rw [List.foldl_cons]
      refine ih _ ?_
      split
      · exact fwd_jn h fun a b e => by simp only [Option.some.injEq,Prod.mk.injEq] at e;omega
      · exact h
  exact this W none fun a b h => by cases h
structure Fine (k:TI):Prop where
  fwd:Fwd k.se
  has:k.ok = true→k.se ≠ none
theorem okI_has {x:Prt} {s:Se} {ks:List TI} (hk:∀ k ∈ ks,Fine k) (_h0:x.kind = 0→True) (hne:x.kind ≠ 0→ks ≠ []) (hs:x.kind ≠ 0→s = endsI ks) (ho:okI x s ks = true):s ≠ none:=by
  unfold okI at ho
  by_cases c:x.kind = 0
  · rw [if_pos c] at ho
    intro e;rw [e] at ho;cases ho
  · rw [if_neg c] at ho
    rw [hs c]
    obtain ⟨k,r,rfl⟩:∃ k r,ks = k :: r:=by
      cases ks with
      | nil => exact absurd rfl (hne c)
      | cons k r => exact ⟨k,r,rfl⟩
    have hall:allI (k :: r) = true→endsI (k :: r) ≠ none:=fun ha => by
      unfold allI at ha
      rw [List.all_eq_true] at ha
      exact endsI_some (k:=k) (by simp) ((hk k (by simp)).has (ha k (by simp)))
    by_cases c1:x.kind = 1
    · rw [if_pos c1,Bool.and_eq_true] at ho;exact hall ho.2
    · rw [if_neg c1] at ho
      by_cases c2:x.kind = 2
      · rw [if_pos c2,Bool.and_eq_true] at ho;exact hall ho.2
      · rw [if_neg c2] at ho
        by_cases c3:x.kind = 3
        · rw [if_pos c3] at ho
          unfold anyI at ho
          split at ho
          · rename_i q hq
            have hm:q ∈ (k :: r).filter fun k => k.se.isSome:=by rw [hq];simp
            rw [List.mem_filter] at hm
            exact endsI_some hm.1 (fun e => by rw [e] at hm;exact absurd hm.2 (by simp))
          · cases ho
        · rw [if_neg c3] at ho;exact hall ho
theorem sem_fine (W:List Pc):∀ (F:Fst) (deep ink:Nat),F.fit deep ink→∀ k ∈ semF W F,Fine k
  | .nil,_,_,_,k,hk => by cases hk
  | .cons x K N, deep, ink, hf, k, hk => by
    obtain ⟨f1,f2,f3,f4,f5⟩:=hf
    have hkk:=badP_kids f1
    have hnum:=badP_num f1
    simp only at hnum
    rw [semF] at hk
    rcases List.mem_cons.1 hk with rfl | hk
    · have ih:=sem_fine W K _ _ f4
      have hne:x.kind ≠ 0→semF W K ≠ []:=fun c e => by
        have:=congrArg List.length e
        rw [semF_to,List.length_map,toL_len] at this
        have:=hkk.2 c
        simp at *;omega
      constructor
      · unfold mkL
        simp only
        split
        · exact fwd_place W _ hnum.2.2.2.1
        · exact fwd_ends fun q hq => (ih q hq).fwd
      · intro ho
        unfold mkL at ho ⊢
        simp only at ho ⊢
        exact okI_has ih (fun _ => trivial) hne (fun c => if_neg c) ho
    · exact sem_fine W N _ _ f5 k hk
theorem semT_fine (W:List Pc) {t:Tm} {deep ink:Nat} (h:FitT t deep ink):Fine (semT W t):=by
  have:=sem_fine W (.cons t.1 t.2 .nil) deep ink ⟨h.1,h.2.1,h.2.2.1,h.2.2.2,trivial⟩ (semT W t) (by rw [semF];exact List.mem_cons_self)
  exact this
theorem sem_off (W:List Pc):∀ (F:Fst) (deep ink:Nat),F.fit deep ink→(∀ p ∈ W,cZ p.1 F = 0)→∀ k ∈ semF W F,k.se = none
  | .nil,_,_,_,_,k,hk => by cases hk
  | .cons x K N, deep, ink, hf, h, k, hk => by
    obtain ⟨f1,f2,f3,f4,f5⟩:=hf
    rw [semF] at hk
    rcases List.mem_cons.1 hk with rfl | hk
    · unfold mkL
      simp only
      split
      · have:∀ (W:List Pc),(∀ p ∈ W,p.1 ≠ x.kids)→placeL W x.kids x.d = none:=by
          intro W hW
          unfold placeL
          induction W with
          | nil => rfl
          | cons p W ih =>
            rw [List.foldl_cons,if_neg (hW p (by simp))]
            exact ih fun q hq => hW q (List.mem_cons_of_mem _ hq)
        refine this W fun p hp e => ?_
        have:=h p hp
        simp only [cZ] at this
        rw [if_pos e.symm] at this
        omega
      · exact endsI_none fun k hk => sem_off W K _ _ f4 (fun p hp => by have:=h p hp;simp only [cZ] at this;omega) k hk
    · exact sem_off W N _ _ f5 (fun p hp => by have:=h p hp;simp only [cZ] at this;omega) k hk
end
section
theorem endsI_app:∀ (a b:List TI),endsI (a ++ b) = jn (endsI a) (endsI b)
  | [], b => by
    have e:endsI [] = none:=rfl
    rw [List.nil_append,e,jn_none]
  | k :: a,b => by rw [List.cons_append,endsI_cons,endsI_cons,endsI_app a b,jn_assoc]
theorem endsI_mid {A C B:List TI} {k:TI} (h:k.se = endsI C):endsI (A ++ C ++ B) = endsI (A ++ [k] ++ B):=by
  have e:endsI [k] = k.se:=by
    rw [endsI_cons]
    have e:endsI [] = none:=rfl
    rw [e,jn_none']
  rw [endsI_app,endsI_app,endsI_app,endsI_app,e,h]
def chk (f:Int→Int→Bool):Option Int→List TI→Bool
  | _,[] => true
  | none,k :: r => chk f (some (seE k.se)) r
  | some e,k :: r => f e (seB k.se) && chk f (some (seE k.se)) r
def lst (p:Option Int) (ks:List TI):Option Int:=match ks.getLast? with
  | none => p
  | some k => some (seE k.se)
theorem adj_chk (f:Int→Int→Bool):∀ ks:List TI,adjI f ks = chk f none ks
  | [] => rfl
  | [_] => rfl
  | a :: b :: r => by
    have ih:=adj_chk f (b :: r)
    simp only [adjI,chk,ih]
theorem chk_cons (f:Int→Int→Bool) (p:Option Int) (k:TI) (r:List TI):chk f p (k :: r) = ((match p with | none => true | some e => f e (seB k.se)) && chk f (some (seE k.se)) r):=by
  cases p <;> simp [chk]
theorem lst_cons (p:Option Int) (k:TI) (r:List TI):lst p (k :: r) = lst (some (seE k.se)) r:=by
  unfold lst
  cases r with
  | nil => rfl
  | cons a r => rw [List.getLast?_cons_cons]; cases h : (a :: r).getLast? with
    | none => simp at h
    | some v => rfl
theorem chk_app (f:Int→Int→Bool):∀ (A B:List TI) (p:Option Int),chk f p (A ++ B) = (chk f p A && chk f (lst p A) B)
  | [],B,p => by simp [chk,lst]
  | k :: A,B,p => by rw [List.cons_append,chk_cons,chk_cons,chk_app f A B,lst_cons,Bool.and_assoc]
theorem allI_app (A B:List TI):allI (A ++ B) = (allI A && allI B):=by unfold allI;rw [List.all_append]
theorem allI_one (k:TI):allI [k] = k.ok:=by unfold allI;simp
def leF:Int→Int→Bool:=fun e b => decide (e≤b)
theorem chain_se:∀ (C:List TI) (k:TI) (r:List TI),C = k :: r→(∀ q ∈ C,Fine q)→allI C = true→chk leF none C = true→∃ e,endsI C = some (seB k.se,e)∧seB k.se≤e∧lst none C = some e
  | _, k, [], rfl, hf, ha, _ => by
    have hk:=hf k (by simp)
    unfold allI at ha
    simp only [List.all_cons,List.all_nil,Bool.and_true] at ha
    have hs:=hk.has ha
    cases hse:k.se with
    | none => exact absurd hse hs
    | some p =>
      refine ⟨p.2, ?_, ?_, ?_⟩
      · rw [endsI_cons]
        have e:endsI [] = none:=rfl
        rw [e,hse];rfl
      · exact hk.fwd p.1 p.2 hse
      · simp [lst,hse,seE]
  | _, k, k2 :: r, rfl, hf, ha, hc => by
    have hk:=hf k (by simp)
    unfold allI at ha
    rw [List.all_cons,Bool.and_eq_true] at ha
    have hs:=hk.has ha.1
    rw [chk,chk_cons,Bool.and_eq_true] at hc
    obtain ⟨e,i1,i2,i3⟩:=chain_se (k2 :: r) k2 r rfl (fun q hq => hf q (List.mem_cons_of_mem _ hq)) ha.2 (by rw [chk];exact hc.2)
    have hle:seE k.se≤seB k2.se:=of_decide_eq_true hc.1
    cases hse:k.se with
    | none => exact absurd hse hs
    | some p =>
      have hfw:=hk.fwd p.1 p.2 hse
      rw [hse] at hle
      simp only [seE] at hle
      refine ⟨e, ?_, ?_, ?_⟩
      · rw [endsI_cons,i1,hse]
        simp only [jn,seB,Option.some.injEq,Prod.mk.injEq]
        simp only [seB] at hle i2
        omega
      · simp only [seB] at hle i2 ⊢;omega
      · rw [lst_cons,← i3]
        rw [lst_cons,lst_cons]
theorem order_mid {A C B:List TI} {k:TI} (hC:C ≠ []) (hf:∀ q ∈ C,Fine q) (h1:k.se = endsI C) (h2:k.ok = (adjI leF C && allI C)) (h3:k.len = sumI C) :
    sumI (A ++ C ++ B) = sumI (A ++ [k] ++ B)∧(adjI leF (A ++ C ++ B) && allI (A ++ C ++ B)) = (adjI leF (A ++ [k] ++ B) && allI (A ++ [k] ++ B)):=by
  have hs:∀ a b:List TI,sumI (a ++ b) = sumI a + sumI b:=fun a b => by
    induction a with
    | nil => simp [sumI]
    | cons x a ih => rw [List.cons_append,sumI_cons4,sumI_cons4,ih];omega
  refine ⟨?_, ?_⟩
  · have e:sumI [k] = k.len:=by rw [sumI_cons4];simp [sumI]
    rw [hs,hs,hs,hs,e,h3]
  · rw [adj_chk,adj_chk,chk_app,chk_app,chk_app,chk_app,allI_app,allI_app,allI_app,allI_app,allI_one,h2,adj_chk]
    obtain ⟨c,r,hcr⟩:∃ c r,C = c :: r:=by
      cases C with
      | nil => exact absurd rfl hC
      | cons c r => exact ⟨c,r,rfl⟩
    have l1:lst none (A ++ C) = lst (lst none A) C:=by
      unfold lst
      rw [hcr,List.getLast?_append]
      cases h:(c :: r).getLast? with
      | none => simp at h
      | some v => rfl
    have l2:lst none (A ++ [k]) = some (seE k.se):=by unfold lst;simp
    rw [l1,l2]
    cases ha:allI C
    · simp
    · cases hc:chk leF none C
      · have:chk leF (lst none A) C = false:=by
          rw [hcr] at hc ⊢
          rw [chk_cons] at hc ⊢
          simp only [Bool.true_and] at hc
          rw [hc,Bool.and_false]
        rw [this];simp
      · obtain ⟨e,g1,g2,g3⟩:=chain_se C c r hcr hf ha hc
        have k1:chk leF (lst none A) C = chk leF (lst none A) [k]:=by
          rw [hcr,chk_cons,chk_cons]
          have:chk leF (some (seE c.se)) r = true:=by
            rw [hcr,chk_cons] at hc
            simpa using hc
          rw [this,h1,g1]
          simp only [seB,chk]
        have k2:lst (lst none A) C = some (seE k.se):=by
          rw [h1,g1]
          simp only [seE]
          rw [← g3]
          rw [hcr,lst_cons,lst_cons]
        rw [k1,k2]
        simp
theorem filt_app (A B:List TI):(A ++ B).filter (fun k => k.se.isSome) = A.filter (fun k => k.se.isSome) ++ B.filter fun k => k.se.isSome:=List.filter_append ..
theorem endsI_filt:∀ C:List TI,(endsI C).isSome = !(C.filter fun k => k.se.isSome).isEmpty
  | [] => rfl
  | k :: C => by
    rw [endsI_cons,List.filter_cons]
    have ih:=endsI_filt C
    cases hs:k.se with
    | none => rw [jn_none,ih];simp
    | some p =>
      simp only [Option.isSome_some,if_true,List.isEmpty_cons,Bool.not_false]
      cases endsI C <;> rfl
theorem anyI_of {ks:List TI} {k:TI} (h:(ks.filter fun k => k.se.isSome) = [k]):anyI ks = k.ok:=by unfold anyI;rw [h]
theorem anyI_not {ks:List TI} (h:(ks.filter fun k => k.se.isSome).length ≠ 1):anyI ks = false:=by
  unfold anyI
  split
  · rename_i q hq;rw [hq] at h;exact absurd rfl h
  · rfl
theorem any_mid {A C B:List TI} {k:TI} (h1:k.se = endsI C) (h2:k.ok = anyI C):anyI (A ++ C ++ B) = anyI (A ++ [k] ++ B):=by
  have e:=endsI_filt C
  rw [← h1] at e
  generalize hfA:(A.filter fun k => k.se.isSome) = fA
  generalize hfB:(B.filter fun k => k.se.isSome) = fB
  generalize hfC:(C.filter fun k => k.se.isSome) = fC at e
  have eL:((A ++ C ++ B).filter fun k => k.se.isSome) = fA ++ fC ++ fB:=by rw [filt_app,filt_app,hfA,hfB,hfC]
  have eR:((A ++ [k] ++ B).filter fun k => k.se.isSome) = fA ++ (if k.se.isSome then [k] else []) ++ fB:=by
    rw [filt_app,filt_app,hfA,hfB]
    congr 2
    rw [List.filter_cons]
    split <;> rfl
  cases fC with
  | nil =>
    simp only [List.isEmpty_nil,Bool.not_true] at e
    rw [e] at eR
    unfold anyI
    rw [eL,eR];rfl
  | cons c r =>
    simp only [List.isEmpty_cons,Bool.not_false] at e
    rw [e] at eR
    simp only [if_true] at eR
    cases r with
    | nil =>
      have hc:anyI C = c.ok:=anyI_of hfC
      by_cases hl:fA.length + fB.length = 0
      · have a1:fA = []:=List.eq_nil_of_length_eq_zero (by omega)
        have a2:fB = []:=List.eq_nil_of_length_eq_zero (by omega)
        rw [a1,a2] at eL eR
        rw [anyI_of eL,anyI_of eR,h2,hc]
      · rw [anyI_not (by rw [eL];simp;omega),anyI_not (by rw [eR];simp;omega)]
    | cons c2 r =>
      have hc:anyI C = false:=anyI_not (by rw [hfC];simp)
      rw [anyI_not (by rw [eL];simp;omega)]
      by_cases hl:fA.length + fB.length = 0
      · have a1:fA = []:=List.eq_nil_of_length_eq_zero (by omega)
        have a2:fB = []:=List.eq_nil_of_length_eq_zero (by omega)
        rw [a1,a2] at eR
        rw [anyI_of eR,h2,hc]
      · rw [anyI_not (by rw [eR];simp;omega)]
def IsMin (ls:List Int) (m:Int):Prop:=m ∈ ls∧∀ x ∈ ls,m≤x
def IsMax (ls:List Int) (m:Int):Prop:=m ∈ ls∧∀ x ∈ ls,x≤m
theorem isMin_eq {ls:List Int} {m n:Int} (h:IsMin ls m) (h2:IsMin ls n):m = n:=by
  have:=h.2 n h2.1
  have:=h2.2 m h.1
  omega
theorem isMax_eq {ls:List Int} {m n:Int} (h:IsMax ls m) (h2:IsMax ls n):m = n:=by
  have:=h.2 n h2.1
  have:=h2.2 m h.1
  omega
theorem minI_is {ks:List TI} (h:ks ≠ []):IsMin (ks.map TI.len) (minI ks):=by
  obtain ⟨k,r,rfl⟩:∃ k r,ks = k :: r:=by
    cases ks with
    | nil => exact absurd rfl h
    | cons k r => exact ⟨k,r,rfl⟩
  have:=foldl_min ((k :: r).map TI.len) k.len
  have e:minI (k :: r) = ((k :: r).map TI.len).foldl min k.len:=by unfold minI;rw [List.foldl_map];rfl
  rw [e]
  obtain ⟨_,h2,h3⟩:=this
  refine ⟨?_,h2⟩
  rcases h3 with h3 | h3
  · rw [h3];simp
  · exact h3
theorem maxI_is {ks:List TI} (h:ks ≠ []):IsMax (ks.map TI.len) (maxI ks):=by
  obtain ⟨k,r,rfl⟩:∃ k r,ks = k :: r:=by
    cases ks with
    | nil => exact absurd rfl h
    | cons k r => exact ⟨k,r,rfl⟩
  have:=foldl_max ((k :: r).map TI.len) k.len
  have e:maxI (k :: r) = ((k :: r).map TI.len).foldl max k.len:=by unfold maxI;rw [List.foldl_map];rfl
  rw [e]
  obtain ⟨_,h2,h3⟩:=this
  refine ⟨?_,h2⟩
  rcases h3 with h3 | h3
  · rw [h3];simp
  · exact h3
theorem min_mid {A C B:List TI} {k:TI} (hC:C ≠ []) (h:k.len = minI C):minI (A ++ C ++ B) = minI (A ++ [k] ++ B):=by
  have hc:=minI_is hC
  rw [← h] at hc
  refine isMin_eq (ls:=(A ++ C ++ B).map TI.len) (minI_is (by simp [hC])) ?_
  obtain ⟨m1,m2⟩:=minI_is (ks:=A ++ [k] ++ B) (by simp)
  constructor
  · simp only [List.map_append,List.map_cons,List.map_nil,List.mem_append,List.mem_singleton] at m1 ⊢
    rcases m1 with (m1 | m1) | m1
    · exact .inl (.inl m1)
    · rw [m1];exact .inl (.inr hc.1)
    · exact .inr m1
  · intro x hx
    simp only [List.map_append,List.mem_append] at hx
    rcases hx with (hx | hx) | hx
    · exact m2 x (by simp only [List.map_append,List.mem_append];exact .inl (.inl hx))
    · have:=m2 k.len (by simp)
      have:=hc.2 x hx
      omega
    · exact m2 x (by simp only [List.map_append,List.mem_append];exact .inr hx)
theorem max_mid {A C B:List TI} {k:TI} (hC:C ≠ []) (h:k.len = maxI C):maxI (A ++ C ++ B) = maxI (A ++ [k] ++ B):=by
  have hc:=maxI_is hC
  rw [← h] at hc
  refine isMax_eq (ls:=(A ++ C ++ B).map TI.len) (maxI_is (by simp [hC])) ?_
  obtain ⟨m1,m2⟩:=maxI_is (ks:=A ++ [k] ++ B) (by simp)
  constructor
  · simp only [List.map_append,List.map_cons,List.map_nil,List.mem_append,List.mem_singleton] at m1 ⊢
    rcases m1 with (m1 | m1) | m1
    · exact .inl (.inl m1)
    · rw [m1];exact .inl (.inr hc.1)
    · exact .inr m1
  · intro x hx
    simp only [List.map_append,List.mem_append] at hx
    rcases hx with (hx | hx) | hx
    · exact m2 x (by simp only [List.map_append,List.mem_append];exact .inl (.inl hx))
    · have:=m2 k.len (by simp)
      have:=hc.2 x hx
      omega
    · exact m2 x (by simp only [List.map_append,List.mem_append];exact .inr hx)
def aggI (kind:Nat) (ks:List TI):Int × Se × Bool :=
  (if kind = 3 then minI ks else if kind = 4 then maxI ks else sumI ks,endsI ks,if kind = 1 then adjI leF ks && allI ks else if kind = 2 then adjI (fun e b => decide (e = b)) ks && allI ks else if kind = 3 then anyI ks else allI ks)
theorem mkL_agg (W:List Pc) {x:Prt} (h:x.kind ≠ 0) (ks:List TI):mkL W x ks = ⟨zT,(aggI x.kind ks).1,(aggI x.kind ks).2.1,(aggI x.kind ks).2.2⟩:=by
  unfold mkL aggI lenI okI leF
  simp only [if_neg h]
theorem agg_mid {kind:Nat} (hk:kind = 1 ∨ kind = 3 ∨ kind = 4) {A C B:List TI} {k:TI} (hC:C ≠ []) (hf:∀ q ∈ C,Fine q) (h:(k.len,k.se,k.ok) = aggI kind C):aggI kind (A ++ C ++ B) = aggI kind (A ++ [k] ++ B):=by
  have h1:=congrArg Prod.fst h
  have h2:=congrArg (fun q => q.2.1) h
  have h3:=congrArg (fun q => q.2.2) h
  unfold aggI at h1 h2 h3 ⊢
  simp only at h1 h2 h3
  have e:=endsI_mid (A:=A) (B:=B) h2
  rcases hk with rfl | rfl | rfl
  · simp only [Nat.reduceEqDiff,if_false,if_true] at h1 h3 ⊢
    obtain ⟨o1,o2⟩:=order_mid (A:=A) (B:=B) hC hf h2 h3 h1
    rw [e,o1,o2]
  · simp only [Nat.reduceEqDiff,if_false,if_true] at h1 h3 ⊢
    rw [e,min_mid hC h1,any_mid h2 h3]
  · simp only [Nat.reduceEqDiff,if_false,if_true] at h1 h3 ⊢
    rw [e,max_mid hC h1,allI_app,allI_app,allI_app,allI_app,allI_one,h3]
theorem semT_agg (W:List Pc) {t:Tm} (h:t.1.kind ≠ 0):((semT W t).len,(semT W t).se,(semT W t).ok) = aggI t.1.kind ((toL t.2).map (semT W)):=by
  have e:semT W t = mkL W t.1 ((toL t.2).map (semT W)):=by rw [← semF_to];rfl
  rw [e,mkL_agg W h]
theorem agg_flat (W:List Pc) {kind:Nat} (hk:kind = 1 ∨ kind = 3 ∨ kind = 4):∀ (l:List Tm) (n:Nat) (A:List TI),(∀ t ∈ l,∃ d i,FitT t d i)→aggI kind (A ++ (flatG kind n l).map (semT W)) = aggI kind (A ++ l.map (semT W))
  | [],_,_,_ => rfl
  | t :: l, n, A, hf => by
    have hf2:∀ t ∈ l,∃ d i,FitT t d i:=fun u hu => hf u (List.mem_cons_of_mem _ hu)
    obtain ⟨d,i,hft⟩:=hf t (by simp)
    unfold flatG
    split
    · rename_i c
      have hne:t.1.kind ≠ 0:=by rw [c.1];omega
      have hkk:=(badP_kids hft.1).2 hne
      have hC:(toL t.2).map (semT W) ≠ []:=fun e => by
        have:=congrArg List.length e
        rw [List.length_map,toL_len] at this
        simp at this;omega
      have hfine:∀ q ∈ (toL t.2).map (semT W),Fine q:=fun q hq => by
        rw [← semF_to] at hq
        exact sem_fine W t.2 _ _ hft.2.2.2 q hq
      rw [List.map_append,← List.append_assoc,agg_flat W hk l _ (A ++ (toL t.2).map (semT W)) hf2]
      have hag:=semT_agg W hne
      rw [c.1] at hag
      have:=agg_mid hk (A:=A) (B:=l.map (semT W)) hC hfine hag
      rw [this]
      simp
    · have:=agg_flat W hk l n (A ++ [semT W t]) hf2
      simp only [List.append_assoc,List.cons_append,List.nil_append] at this
      simp only [List.map_cons]
      exact this
theorem endsI_perm {a b:List TI} (h:a.Perm b):endsI a = endsI b:=by
  induction h with
  | nil => rfl
  | cons x _ ih => rw [endsI_cons,endsI_cons,ih]
  | swap x y l => rw [endsI_cons,endsI_cons,endsI_cons,endsI_cons,← jn_assoc,← jn_assoc,jn_comm y.se]
  | trans _ _ ih1 ih2 => exact ih1.trans ih2
theorem agg_perm {kind:Nat} (hk:kind = 3 ∨ kind = 4) {a b:List TI} (h:a.Perm b) (hne:a ≠ []):aggI kind a = aggI kind b:=by
  have hb:b ≠ []:=fun e => by rw [e] at h;exact hne h.eq_nil
  have hm:=h.map TI.len
  unfold aggI
  rw [endsI_perm h]
  rcases hk with rfl | rfl
  · simp only [Nat.reduceEqDiff,if_false,if_true]
    have e1:minI a = minI b:=isMin_eq (ls:=b.map TI.len) ⟨hm.mem_iff.1 (minI_is hne).1,fun x hx => (minI_is hne).2 x (hm.mem_iff.2 hx)⟩ (minI_is hb)
    have hp:=h.filter fun k => k.se.isSome
    have e2:anyI a = anyI b:=by
      by_cases hl:(a.filter fun k => k.se.isSome).length = 1
      · obtain ⟨q,hq⟩:=List.length_eq_one_iff.1 hl
        rw [hq] at hp
        have:=List.perm_singleton.1 hp.symm
        rw [anyI_of hq,anyI_of this]
      · rw [anyI_not hl,anyI_not (by rw [← hp.length_eq];exact hl)]
    rw [e1,e2]
  · simp only [Nat.reduceEqDiff,if_false,if_true]
    have e1:maxI a = maxI b:=isMax_eq (ls:=b.map TI.len) ⟨hm.mem_iff.1 (maxI_is hne).1,fun x hx => (maxI_is hne).2 x (hm.mem_iff.2 hx)⟩ (maxI_is hb)
    have e2:allI a = allI b:=by
      unfold allI
      rw [Bool.eq_iff_iff,List.all_eq_true,List.all_eq_true]
      exact ⟨fun g x hx => g x (h.mem_iff.2 hx),fun g x hx => g x (h.mem_iff.1 hx)⟩
    rw [e1,e2]
end
section
theorem lens_bare:∀ F:Fst,lensF (bare F) = lensF F
  | .nil => rfl
  | .cons x K N => by
    simp only [bare,lensF,lens_bare K,lens_bare N]
    rfl
theorem lenW_bare {t u:Tm} (h:bareT t = bareT u):lenW t.1 t.2 = lenW u.1 u.2:=by
  have h1:=congrArg Prod.fst h
  have h2:=congrArg Prod.snd h
  unfold bareT at h1 h2
  simp only at h1 h2
  have e:∀ v:Tm,lenW v.1 v.2 = lenLs (bareP v.1) (lensF (bare v.2)):=fun v => by rw [lens_bare];rfl
  rw [e t,e u,h1,h2]
theorem endsI_only:∀ ks:List TI,endsI ks = endsI (ks.filter fun k => k.se.isSome)
  | [] => rfl
  | k :: ks => by
    rw [endsI_cons,List.filter_cons,endsI_only ks]
    cases hs:k.se with
    | none => simp
    | some p => simp [endsI_cons,hs]
theorem once_filt (W:List Pc):∀ (l:List Tm) (s:List (List UInt8)),(∀ t ∈ l,∃ d i,FitT t d i)→(∀ z,cZL z l≤1)→(∀ p ∈ W,1≤cZL p.1 l→1≤cZL p.1 (onceG s l)) →
    (l.map (semT W)).filter (fun k => k.se.isSome) = ((onceG s l).map (semT W)).filter fun k => k.se.isSome
  | [],_,_,_,_ => rfl
  | t :: l, s, hf, hD, hW => by
    have hf2:∀ t ∈ l,∃ d i,FitT t d i:=fun u hu => hf u (List.mem_cons_of_mem _ hu)
    have hD2:∀ z,cZL z l≤1:=fun z => by have:=hD z;simp only [cZL] at this;omega
    unfold onceG at hW ⊢
    split
    · rename_i c
      rw [if_pos c] at hW
      have ih:=once_filt W l s hf2 hD2 fun p hp h => hW p hp (by simp only [cZL];omega)
      have hoff:∀ p ∈ W,cZ p.1 (.cons t.1 t.2 .nil) = 0:=fun p hp => by
        have h0:cZ p.1 (.cons t.1 t.2 .nil) = cZT p.1 t:=by simp [cZ,cZT]
        rw [h0]
        by_cases e:cZT p.1 t = 0
        · exact e
        · exfalso
          have h1:=hW p hp (by simp only [cZL];omega)
          have h2:=cZL_once p.1 l s
          have h3:=hD p.1
          simp only [cZL] at h3
          omega
      obtain ⟨d,i,hft⟩:=hf t (by simp)
      have hn:(semT W t).se = none:=sem_off W (.cons t.1 t.2 .nil) d i ⟨hft.1,hft.2.1,hft.2.2.1,hft.2.2.2,trivial⟩ hoff (semT W t) (by rw [semF];exact List.mem_cons_self)
      rw [List.map_cons,List.filter_cons,hn]
      exact ih
    · rename_i c
      rw [if_neg c] at hW
      have ih:=once_filt W l (txT t :: s) hf2 hD2 fun p hp h => by
        have h1:=hW p hp (by simp only [cZL];omega)
        have h3:=hD p.1
        simp only [cZL] at h1 h3
        omega
      rw [List.map_cons,List.map_cons,List.filter_cons,List.filter_cons,ih]
theorem once_has:∀ (l:List Tm) (s:List (List UInt8)) (t:Tm),t ∈ l→s.contains (txT t) = true ∨ ∃ v ∈ onceG s l,txT v = txT t
  | u :: l, s, t, ht => by
    unfold onceG
    rcases List.mem_cons.1 ht with rfl | ht
    · split
      · rename_i c;exact .inl c
      · exact .inr ⟨t,by simp,rfl⟩
    · split
      · exact once_has l s t ht
      · rcases once_has l (txT u :: s) t ht with h | ⟨v,hv,e⟩
        · rw [List.contains_cons,Bool.or_eq_true] at h
          rcases h with h | h
          · exact .inr ⟨u,by simp,(beq_iff_eq.1 h).symm⟩
          · exact .inl h
        · exact .inr ⟨v,List.mem_cons_of_mem _ hv,e⟩
theorem sizT_mem {t:Tm}:∀ {l:List Tm},t ∈ l→sizT t≤sizL l
  | u :: l, h => by
    simp only [sizL]
    rcases List.mem_cons.1 h with rfl | h
    · omega
    · have:=sizT_mem h;omega
theorem agg_once (W:List Pc) {l:List Tm} {d i:Nat} (hd:1≤d) (hne:l ≠ []) (hf:∀ t ∈ l,FitT t d i) (hs:sizL l≤64) (hD:∀ z,cZL z l≤1) (hW:∀ p ∈ W,1≤cZL p.1 l→1≤cZL p.1 (onceG [] l)) :
    aggI 3 ((onceG [] l).map (semT W)) = aggI 3 (l.map (semT W)):=by
  have hfl:=once_filt W l [] (fun t ht => ⟨d,i,hf t ht⟩) hD hW
  have hhas:∀ t ∈ l,∃ v ∈ onceG [] l,(semT W v).len = (semT W t).len:=fun t ht => by
    rcases once_has l [] t ht with h | ⟨v,hv,e⟩
    · simp at h
    · have hvl:=onceG_mem l [] v hv
      refine ⟨v,hv, ?_⟩
      rw [semT_len,semT_len]
      exact lenW_bare (txT_inj (hf v hvl) (hf t ht) hd hd (Nat.le_trans (sizT_mem hvl) hs) (Nat.le_trans (sizT_mem ht) hs) e)
  have hne2:(onceG [] l).map (semT W) ≠ []:=fun e => by
    obtain ⟨t,r,rfl⟩:∃ t r,l = t :: r:=by
      cases l with
      | nil => exact absurd rfl hne
      | cons t r => exact ⟨t,r,rfl⟩
    obtain ⟨v,hv,_⟩:=hhas t (by simp)
    rw [List.map_eq_nil_iff] at e
    rw [e] at hv;cases hv
  have hne3:l.map (semT W) ≠ []:=fun e => hne (List.map_eq_nil_iff.1 e)
  unfold aggI
  simp only [Nat.reduceEqDiff,if_false,if_true]
  have e1:minI ((onceG [] l).map (semT W)) = minI (l.map (semT W)):=by
    refine isMin_eq (ls:=(l.map (semT W)).map TI.len) ⟨?_,fun x hx => ?_⟩ (minI_is hne3)
    · have:=(minI_is hne2).1
      simp only [List.map_map,List.mem_map,Function.comp] at this ⊢
      obtain ⟨v,hv,e⟩:=this
      exact ⟨v,onceG_mem l [] v hv,e⟩
    · simp only [List.map_map,List.mem_map,Function.comp] at hx
      obtain ⟨t,ht,rfl⟩:=hx
      obtain ⟨v,hv,e⟩:=hhas t ht
      rw [← e]
      exact (minI_is hne2).2 _ (by simp only [List.map_map,List.mem_map,Function.comp];exact ⟨v,hv,rfl⟩)
  have e2:endsI ((onceG [] l).map (semT W)) = endsI (l.map (semT W)):=by rw [endsI_only,← hfl,← endsI_only]
  have e3:anyI ((onceG [] l).map (semT W)) = anyI (l.map (semT W)):=by unfold anyI;rw [hfl]
  rw [e1,e2,e3]
theorem agg_one {kind:Nat} {k:TI} (h:Fine k):aggI kind [k] = (k.len,k.se,k.ok):=by
  have e1:endsI [k] = k.se:=by
    rw [endsI_cons]
    have e:endsI [] = none:=rfl
    rw [e,jn_none']
  have e2:anyI [k] = k.ok:=by
    unfold anyI
    rw [List.filter_cons]
    cases hs:k.se with
    | none =>
      cases ho:k.ok
      · simp
      · exact absurd hs (h.has ho)
    | some p => simp
  have e3:minI [k] = k.len:=by simp [minI]
  have e4:maxI [k] = k.len:=by simp [maxI]
  have e5:sumI [k] = k.len:=by simp [sumI]
  unfold aggI
  rw [e1,e2,e3,e4,e5,allI_one]
  simp only [adjI,Bool.true_and]
  simp only [ite_self]
theorem semT_eta (W:List Pc) (t:Tm):semT W t = ⟨zT,(semT W t).len,(semT W t).se,(semT W t).ok⟩:=rfl
theorem oneT_sem (W:List Pc) {t u:Tm} {d i:Nat} (h:oneT t = some u) (hf:FitT t d i) (hd:1≤d) (hs:sizT t≤64) (hD:∀ z,cZT z t≤1) (hW:∀ p ∈ W,1≤cZT p.1 t→1≤cZT p.1 u):semT W u = semT W t:=by
  have hkids:∀ v ∈ toL t.2,FitT v (d + 1) t.1.kind:=(fit_all _ _ _).1 hf.2.2.2
  have hkk:=badP_kids hf.1
  have hdL:∀ z,cZL z (toL t.2)≤1:=fun z => by
    have:=hD z
    unfold cZT at this
    rw [cZL_to];omega
  have hsL:sizL (toL t.2)≤64:=by rw [sizL_to];unfold sizT at hs;omega
  have key:∀ {l:List Tm},t.1.kind ≠ 0→aggI t.1.kind (l.map (semT W)) = aggI t.1.kind ((toL t.2).map (semT W))→semT W (t.1,ofL l) = semT W t:=fun {l} c e => by
    unfold semT
    simp only
    rw [mkL_agg W c,mkL_agg W c,semF_of,semF_to,e]
  rcases oneT_cases h with h | ⟨hk,_,rfl⟩ | ⟨hk,_,rfl⟩ | ⟨hk,_,rfl⟩
  · have hu:=hkids u (by rw [h];simp)
    have hne:t.1.kind ≠ 0:=fun c => by
      have:=hkk.1 c
      rw [← toL_len,h] at this
      simp at this
    have e:semT W t = mkL W t.1 [semT W u]:=by unfold semT;rw [semF_to,h];rfl
    rw [e,mkL_agg W hne,agg_one (semT_fine W hu)]
    exact semT_eta W u
  · have:=agg_flat W hk (toL t.2) (toL t.2).length [] fun v hv => ⟨_,_,hkids v hv⟩
    exact key (by omega) (by simpa using this)
  · have hne:toL t.2 ≠ []:=fun e => by
      have:=(hkk.2 (by omega)).1
      rw [← toL_len,e] at this
      simp at this
    refine key (by omega) ?_
    rw [hk]
    refine agg_once W (by omega) hne hkids hsL hdL fun p hp h1 => ?_
    have h2:=hW p hp (by unfold cZT;rw [cZL_to] at h1;omega)
    unfold cZT at h2
    simp only at h2
    rw [cZ_of] at h2
    have h3:=hD p.1
    unfold cZT at h3
    rw [cZL_to] at h1
    by_cases c:t.1.kids = p.1
    · rw [if_pos c] at h3;omega
    · rw [if_neg c] at h2;omega
  · have hne:(sortG (toL t.2)).map (semT W) ≠ []:=fun e => by
      have h1:=congrArg List.length e
      rw [List.length_map,(sortG_siz _).2,toL_len] at h1
      have:=(hkk.2 (by omega)).1
      simp at h1;omega
    exact key (by omega) (agg_perm hk ((sortG_perm _).map _) hne)
theorem loopT_sem (W:List Pc) {d i:Nat} (hd:1≤d):∀ (m:Nat) (t:Tm),FitT t d i→sizT t≤64→(∀ z,cZT z t≤1)→(∀ p ∈ W,1≤cZT p.1 t→1≤cZT p.1 (loopT m t))→semT W (loopT m t) = semT W t
  | 0,t,_,_,_,_ => rfl
  | m + 1, t, hf, hs, hD, hW => by
    rw [loopT] at hW ⊢
    cases hu:oneT t with
    | none => rfl
    | some u =>
      rw [hu] at hW
      simp only at hW ⊢
      have hc:=fun z => oneT_cZ z hu
      have hl:=fun z => loopT_cZ z m u
      have ih:=loopT_sem W hd m u (oneT_fit hu hf) (Nat.le_trans (oneT_siz hu).1 hs) (fun z => Nat.le_trans (hc z) (hD z)) fun p hp h1 => hW p hp (Nat.le_trans h1 (hc p.1))
      rw [ih]
      exact oneT_sem W hu hf hd hs hD fun p hp h1 => Nat.le_trans (hW p hp h1) (hl p.1)
theorem plain_sem (W:List Pc):∀ (F:Fst) (d i:Nat),1≤d→F.fit d i→F.size≤64→(∀ z,cZ z F≤1)→(∀ p ∈ W,1≤cZ p.1 F→1≤cZ p.1 (plainF F))→semF W (plainF F) = semF W F
  | .nil,_,_,_,_,_,_,_ => rfl
  | .cons x K N, d, i, hd, hf, hs, hD, hW => by
    obtain ⟨f1,f2,f3,f4,f5⟩:=hf
    simp only [Fst.size] at hs
    have hK:=plain_siz K
    have cK:=fun z => plain_cZ z K
    have cN:=fun z => plain_cZ z N
    have cv:=fun z => loopT_cZ z (2 * K.size + 4) (x,plainF K)
    have hDD:=fun z => hD z
    simp only [cZ] at hDD
    have hpl:∀ z,cZ z (plainF (.cons x K N)) = cZT z (loopT (2 * K.size + 4) (x,plainF K)) + cZ z (plainF N):=fun z => by simp only [plainF,cZ,cZT]
    have h0:∀ z,cZT z (x,plainF K) = (if x.kids = z then 1 else 0) + cZ z (plainF K):=fun z => rfl
    have iK:=plain_sem W K (d + 1) x.kind (by omega) f4 (by omega) (fun z => by have:=hDD z;omega) fun p hp h1 => by
      have h2:=hW p hp (by simp only [cZ];omega)
      rw [hpl] at h2
      have:=cN p.1;have:=hDD p.1;have:=cv p.1
      rw [h0] at this
      by_cases c:x.kids = p.1
      · rw [if_pos c] at *;omega
      · rw [if_neg c] at *;omega
    have iN:=plain_sem W N d i hd f5 (by omega) (fun z => by have:=hDD z;omega) fun p hp h1 => by
      have h2:=hW p hp (by simp only [cZ];omega)
      rw [hpl] at h2
      have:=cK p.1;have:=hDD p.1;have:=cv p.1
      rw [h0] at this
      omega
    have hft:FitT (x,plainF K) d i:=by
      refine ⟨?_,f2,f3,plain_fit K _ _ f4⟩
      simp only
      rw [(plain_siz K).2]
      exact f1
    have iT:=loopT_sem W hd (2 * K.size + 4) (x,plainF K) hft (by unfold sizT;simp only;omega) (fun z => by rw [h0];have:=cK z;have:=hDD z;omega) fun p hp h1 => by
      rw [h0] at h1
      have h2:=hW p hp (by simp only [cZ];have:=cK p.1;omega)
      rw [hpl] at h2
      have:=cK p.1;have:=cN p.1;have:=hDD p.1
      omega
    rw [plainF,semF,semF,iN]
    congr 1
    have e:semT W (x,plainF K) = mkL W x (semF W K):=by unfold semT;rw [iK]
    rw [← e,← iT]
    rfl
end
section
end
section
def nz (k:TI):TI:={ k with x:=zT }
theorem endsI_nz:∀ ks:List TI,endsI (ks.map nz) = endsI ks
  | [] => rfl
  | k :: ks => by rw [List.map_cons,endsI_cons,endsI_cons,endsI_nz ks];rfl
theorem allI_nz (ks:List TI):allI (ks.map nz) = allI ks:=by unfold allI;rw [List.all_map];rfl
theorem adjI_nz (f:Int→Int→Bool):∀ ks:List TI,adjI f (ks.map nz) = adjI f ks
  | [] => rfl
  | [_] => rfl
  | a :: b :: r => by
    have ih:=adjI_nz f (b :: r)
    simp only [List.map_cons] at ih ⊢
    simp only [adjI,ih]
    rfl
theorem anyI_nz (ks:List TI):anyI (ks.map nz) = anyI ks:=by
  unfold anyI
  have e:(ks.map nz).filter (fun k => k.se.isSome) = (ks.filter fun k => k.se.isSome).map nz:=by
    rw [List.filter_map];rfl
  rw [e]
  generalize (ks.filter fun k => k.se.isSome) = u
  match u with
  | [] => rfl
  | [a] => rfl
  | a :: b :: r => rfl
theorem okI_nz {x y:Prt} (h:x.kind = y.kind) (s:Se) (ks:List TI):okI y s (ks.map nz) = okI x s ks:=by
  unfold okI
  rw [h,adjI_nz,adjI_nz,allI_nz,anyI_nz]
theorem satF_link {w B:List Pc} {frm:Nat→Int}:∀ (F:Fst) (o:Nat),(∀ i,i < F.size→∃ x ∈ (prsF F)[i]?,x.kids = frm (o + i))→(∀ i,o≤i→i < o + F.size→∀ d,placeI w i d = placeL B (frm i) d)→(satF w F o).map nz = semF B F
  | .nil,_,_,_ => rfl
  | .cons x K N, o, h1, h2 => by
    simp only [Fst.size] at h1 h2
    have hK:=satF_link K (o + 1) (fun i hi => by
      obtain ⟨y,hy,e⟩:=h1 (i + 1) (by omega)
      simp only [prsF,List.getElem?_cons_succ] at hy
      rw [List.getElem?_append_left (by rw [prsF_len];exact hi)] at hy
      exact ⟨y,hy,by rw [e];congr 1;omega⟩) fun i hi1 hi2 => h2 i (by omega) (by omega)
    have hN:=satF_link N (o + 1 + K.size) (fun i hi => by
      obtain ⟨y,hy,e⟩:=h1 (K.size + i + 1) (by omega)
      simp only [prsF,List.getElem?_cons_succ] at hy
      rw [List.getElem?_append_right (by rw [prsF_len];omega),prsF_len,Nat.add_sub_cancel_left] at hy
      exact ⟨y,hy,by rw [e];congr 1;omega⟩) fun i hi1 hi2 => h2 i (by omega) (by omega)
    obtain ⟨y,hy,e0⟩:=h1 0 (by omega)
    simp only [prsF,List.getElem?_cons_zero,Option.mem_def,Option.some.injEq] at hy
    subst hy
    have hp:=h2 o (Nat.le_refl _) (by omega) x.d
    rw [← Nat.add_zero o,← e0,Nat.add_zero] at hp
    simp only [satF,List.map_cons,semF,hN]
    congr 1
    have e1:lenI { x with kids:=(K.len:Int) } (satF w K (o + 1)) = lenI x (semF B K):=by
      rw [lenI_map,lenI_map,satF_lens,semF_lens];rfl
    have e2:(if x.kind = 0 then placeI w o x.d else endsI (satF w K (o + 1))) = if x.kind = 0 then placeL B x.kids x.d else endsI (semF B K):=by
      rw [hp,← hK,endsI_nz]
    unfold mkI mkL nz
    simp only
    rw [e1,e2,← okI_nz (x:={ x with kids:=(K.len:Int) }) (y:=x) rfl,hK]
theorem satF_lab (w:List Pc):∀ (F:Fst) (o p:Nat),satF w (lab F p) o = satF w F o
  | .nil,_,_ => rfl
  | .cons x K N, o, p => by
    simp only [lab,satF,satF_lab w K,satF_lab w N,(lab_len K (p + 1)).1,(lab_len K (p + 1)).2]
theorem cZ_lab (z:Int):∀ (F:Fst) (o:Nat),cZ z (lab F o)≤1∧(z < (o:Int) ∨ ((o + F.size:Nat):Int)≤z→cZ z (lab F o) = 0)
  | .nil,o => ⟨Nat.zero_le _,fun _ => rfl⟩
  | .cons x K N, o => by
    obtain ⟨a1,a2⟩:=cZ_lab z K (o + 1)
    obtain ⟨b1,b2⟩:=cZ_lab z N (o + 1 + K.size)
    simp only [lab,cZ,Fst.size]
    by_cases c:(o:Int) = z
    · rw [if_pos c,a2 (by omega),b2 (by omega)]
      exact ⟨Nat.le_refl _,fun h => by omega⟩
    · rw [if_neg c]
      by_cases c2:z < ((o + 1 + K.size:Nat):Int)
      · rw [b2 (by omega)]
        exact ⟨by omega,fun h => by rw [a2 (by omega)]⟩
      · rw [a2 (by omega)]
        exact ⟨by omega,fun h => by rw [b2 (by omega)]⟩
theorem cZ_mem {x:Prt}:∀ {F:Fst},x ∈ prsF F→1≤cZ x.kids F
  | .cons y K N, h => by
    simp only [prsF,List.mem_cons,List.mem_append] at h
    simp only [cZ]
    rcases h with rfl | h | h
    · simp;omega
    · have:=cZ_mem h;omega
    · have:=cZ_mem h;omega
theorem placeL_off {B:List Pc} {z d:Int} (h:∀ p ∈ B,p.1 ≠ z):∀ s:Se,B.foldl (fun s p => if p.1 = z then jn s (some (p.2,p.2 + d)) else s) s = s:=by
  induction B with
  | nil => intro s;rfl
  | cons p B ih =>
    intro s
    rw [List.foldl_cons,if_neg (h p (by simp))]
    exact ih (fun q hq => h q (List.mem_cons_of_mem _ hq)) s
theorem placeL_one {z t d:Int}:∀ {B:List Pc},B.Pairwise (fun a b => a.1 ≠ b.1)→(z,t) ∈ B→placeL B z d = some (t,t + d)
  | p :: B, h, hm => by
    obtain ⟨h1,h2⟩:=List.pairwise_cons.1 h
    unfold placeL
    rw [List.foldl_cons]
    rcases List.mem_cons.1 hm with e | hm
    · subst e
      rw [if_pos rfl,placeL_off (fun q hq => (h1 q hq).symm)]
      rfl
    · have hne:=h1 _ hm
      rw [if_neg hne]
      exact placeL_one h2 hm
structure Bk (k:List Nat) (w B:List Pc):Prop where
  ins:∀ p ∈ w,0≤p.1∧p.1 < (k.length:Int)
  dst:w.Pairwise (fun a b => a.1 ≠ b.1)
  prm:B.Perm (w.map fun p => (((k.getD p.1.toNat 0:Nat):Int),p.2))
theorem bk_link {k:List Nat} {w B:List Pc} (h:Bk k w B) (hk:∀ i j,i < k.length→j < k.length→k.getD i 0 = k.getD j 0→i = j) {i:Nat} (hi:i < k.length) (d:Int):placeI w i d = placeL B ((k.getD i 0:Nat):Int) d:=by
  have hd:(w.map fun p => (((k.getD p.1.toNat 0:Nat):Int),p.2)).Pairwise (fun a b => a.1 ≠ b.1):=by
    rw [List.pairwise_map]
    refine h.dst.imp_of_mem fun {a b} ha hb hne e => ?_
    have h1:=h.ins a ha
    have h2:=h.ins b hb
    have:=hk a.1.toNat b.1.toNat (by omega) (by omega) (Int.ofNat.inj e)
    omega
  have hB:B.Pairwise (fun a b => a.1 ≠ b.1):=(h.prm.pairwise_iff (fun {x y} (e:x.1 ≠ y.1) => e.symm)).2 hd
  by_cases c:∃ t,((i:Int),t) ∈ w
  · obtain ⟨t,ht⟩:=c
    have e1:placeI w i d = some (t,t + d):=placeL_one (B:=w) h.dst ht
    have e2:(((k.getD i 0:Nat):Int),t) ∈ B:=h.prm.mem_iff.2 (List.mem_map.2 ⟨((i:Int),t),ht,by simp⟩)
    rw [e1,placeL_one hB e2]
  · have e1:placeI w i d = none:=placeL_off (B:=w) (fun p hp e => c ⟨p.2,by rw [← e];exact hp⟩) none
    have e2:placeL B ((k.getD i 0:Nat):Int) d = none:=placeL_off (fun p hp e => by
      obtain ⟨q,hq,e3⟩:=List.mem_map.1 (h.prm.mem_iff.1 hp)
      have h1:=h.ins q hq
      rw [← e3] at e
      simp only at e
      have:=hk q.1.toNat i (by omega) hi (by omega)
      exact c ⟨q.2,by rw [← this,Int.toNat_of_nonneg h1.1];exact hq⟩) none
    rw [e1,e2]
theorem norm_sem {F:Fst} {w B:List Pc} (_h1:F.len = 1) (h2:F.size≤64) (h3:F.fit 1 0) (hB:Bk (fromF (plainF (lab F 0))) w B) :
    (satF w (plainF (lab F 0)) 0).map nz = (satF B F 0).map nz:=by
  have hinj:∀ i j,i < (fromF (plainF (lab F 0))).length→j < (fromF (plainF (lab F 0))).length→(fromF (plainF (lab F 0))).getD i 0 = (fromF (plainF (lab F 0))).getD j 0→i = j:=fun i j hi hj e => by
    rw [fromF_len] at hi hj
    rcases Nat.lt_trichotomy i j with c | c | c
    · exact absurd e.symm (from_once F c hj)
    · exact c
    · exact absurd e (from_once F c hi)
  have hG:∀ i,i < (plainF (lab F 0)).size→∃ x ∈ (prsF (plainF (lab F 0)))[i]?,x.kids = (((fromF (plainF (lab F 0))).getD (0 + i) 0:Nat):Int):=fun i hi => by
    obtain ⟨x,hx⟩:∃ x,(prsF (plainF (lab F 0)))[i]? = some x:=⟨_,List.getElem?_eq_getElem (by rw [prsF_len];exact hi)⟩
    refine ⟨x,hx, ?_⟩
    have hm:x ∈ prsF (lab F 0):=by
      have a1:=plain_cnt x (lab F 0)
      have a2:0 < (prsF (plainF (lab F 0))).count x:=List.count_pos_iff.2 (List.mem_of_getElem? hx)
      exact List.count_pos_iff.1 (by omega)
    obtain ⟨j,hj⟩:=List.getElem?_of_mem hm
    obtain ⟨y,hy,e⟩:=lab_prs F 0 j (by have:=(List.getElem?_eq_some_iff.1 hj).1;rw [prsF_len,(lab_len F 0).2] at this;exact this)
    rw [hj] at hy
    cases hy
    unfold fromF
    rw [Nat.zero_add,List.getD_eq_getElem?_getD,List.getElem?_map,hx]
    simp only [Option.map_some,Option.getD_some]
    omega
  have e1:=satF_link (w:=w) (B:=B) (frm:=fun i => (((fromF (plainF (lab F 0))).getD i 0:Nat):Int)) (plainF (lab F 0)) 0 hG fun i _ hi d => bk_link hB hinj (by rw [fromF_len];omega) d
  have e2:=satF_link (w:=B) (B:=B) (frm:=fun i => (i:Int)) (lab F 0) 0 (fun i hi => by
    obtain ⟨x,hx,e⟩:=lab_prs F 0 i (by rw [(lab_len F 0).2] at hi;exact hi)
    exact ⟨x,hx,e⟩) fun i _ _ d => rfl
  rw [satF_lab] at e2
  rw [e1,e2]
  refine plain_sem B (lab F 0) 1 0 (Nat.le_refl _) (lab_fit F 0 1 0 h3) (by rw [(lab_len F 0).2];exact h2) (fun z => (cZ_lab z F 0).1) fun p hp _ => ?_
  obtain ⟨q,hq,e⟩:=List.mem_map.1 (hB.prm.mem_iff.1 hp)
  have hqi:=hB.ins q hq
  rw [fromF_len] at hqi
  obtain ⟨x,hx,ex⟩:=hG q.1.toNat (by omega)
  rw [Nat.zero_add] at ex
  rw [← e]
  simp only
  rw [← ex]
  exact cZ_mem (List.mem_of_getElem? hx)
end
section
structure UseOk (l:List Prt) (m c:Int) (W:List Pc):Prop where
  atoms:Atoms l W
  parts:∀ i,i < l.length→0≤(l.getD i pr0).d∧(l.getD i pr0).d≤4096∧(l.getD i pr0).n≤4096
  times:∀ p ∈ W, -1099511627776≤p.2∧p.2≤1099511627776
  len:W.length≤64
  mem:1≤m∧m≤1073741824
  cor:1≤c∧c≤1073741824
def dP (l:List Prt) (p:Pc):Int:=(l.getD p.1.toNat pr0).d
def nP (l:List Prt) (p:Pc):Int:=(l.getD p.1.toNat pr0).n
def onP (l:List Prt) (t:Int) (p:Pc):Bool:=decide (p.2≤t) && decide (t < p.2 + dP l p)
def boxN (l:List Prt) (W:List Pc) (t:Int):Int:=W.foldl (fun n p => if onP l t p then n + nP l p else n) 0
theorem boxN_snoc (l:List Prt) (W:List Pc) (p:Pc) (t:Int):boxN l (W ++ [p]) t = if onP l t p then boxN l W t + nP l p else boxN l W t:=by
  unfold boxN;rw [List.foldl_append];rfl
theorem boxN_congr (l:List Prt) {s t:Int}:∀ (W:List Pc) (n:Int),(∀ p ∈ W,onP l s p = onP l t p)→W.foldl (fun n p => if onP l s p then n + nP l p else n) n = W.foldl (fun n p => if onP l t p then n + nP l p else n) n
  | [],_,_ => rfl
  | p :: W, n, h => by
    rw [List.foldl_cons,List.foldl_cons,h p (by simp)]
    exact boxN_congr l W _ fun q hq => h q (List.mem_cons_of_mem _ hq)
theorem boxN_zero (l:List Prt) {t:Int}:∀ (W:List Pc) (n:Int),(∀ p ∈ W,onP l t p = false)→W.foldl (fun n p => if onP l t p then n + nP l p else n) n = n
  | [],_,_ => rfl
  | p :: W, n, h => by
    rw [List.foldl_cons,h p (by simp)]
    exact boxN_zero l W _ fun q hq => h q (List.mem_cons_of_mem _ hq)
def useV (l:List Prt) (m c:Int) (W:List Pc) (t:Int):Int × Int:=(boxN l W t * m,boxN l W t * c)
def rawTs (l:List Prt) (W:List Pc):List Int:=W.flatMap fun p => [p.2,p.2 + dP l p]
def useTs (l:List Prt) (W:List Pc):List Int:=timesL (rawTs l W)
def useL (l:List Prt) (m c:Int) (W:List Pc):List Sg:=buildL (useV l m c W) (useTs l W)
theorem rawTs_len (l:List Prt) (W:List Pc):(rawTs l W).length = W.length * 2:=by
  unfold rawTs
  induction W with
  | nil => rfl
  | cons p W ih => rw [List.flatMap_cons,List.length_append,ih];simp;omega
section
variable {l:List Prt} {m c:Int} {W:List Pc}
theorem UseOk.np (h:UseOk l m c W) {p:Pc} (hp:p ∈ W):0≤nP l p∧nP l p≤4096∧0≤dP l p∧dP l p≤4096:=by
  obtain ⟨a1,a2,_⟩:=h.atoms p hp
  have:=h.parts p.1.toNat (by omega)
  unfold nP dP
  omega
theorem boxN_bd {t:Int}:∀ (W:List Pc) (n:Int),(∀ p ∈ W,0≤nP l p∧nP l p≤4096)→n≤W.foldl (fun n p => if onP l t p then n + nP l p else n) n∧W.foldl (fun n p => if onP l t p then n + nP l p else n) n≤n + W.length * 4096
  | [],n,_ => by simp
  | p :: W, n, h => by
    rw [List.foldl_cons]
    have h1:=h p (by simp)
    have h2:=boxN_bd (t:=t) W (if onP l t p then n + nP l p else n) fun q hq => h q (List.mem_cons_of_mem _ hq)
    have e:((p :: W).length:Int) * 4096 = W.length * 4096 + 4096:=by simp;omega
    rw [e]
    split at h2 <;> rename_i hc <;> simp only [hc,if_true] <;> first | omega | (simp only [Bool.false_eq_true,if_false];omega)
theorem UseOk.bd (h:UseOk l m c W) (t:Int):0≤boxN l W t∧boxN l W t≤262144:=by
  have:=boxN_bd (t:=t) W 0 fun p hp => ⟨(h.np hp).1,(h.np hp).2.1⟩
  have h2:=h.len
  have h3:(W.length:Int) * 4096≤64 * 4096:=by omega
  unfold boxN
  omega
theorem UseOk.val (h:UseOk l m c W) (t:Int):okV (useV l m c W t).1 (useV l m c W t).2 = true:=by
  have hb:=h.bd t
  have hm:=h.mem;have hc:=h.cor
  have e1:0≤boxN l W t * m:=Int.mul_nonneg hb.1 (by omega)
  have e2:0≤boxN l W t * c:=Int.mul_nonneg hb.1 (by omega)
  have e3:boxN l W t * m≤262144 * 1073741824:=Int.mul_le_mul hb.2 hm.2 (by omega) (by omega)
  have e4:boxN l W t * c≤262144 * 1073741824:=Int.mul_le_mul hb.2 hc.2 (by omega) (by omega)
  unfold okV useV
  simp only
  exact decide_eq_true (by omega)
theorem mem_raw {x:Int}:x ∈ rawTs l W ↔ ∃ p ∈ W,x = p.2 ∨ x = p.2 + dP l p:=by
  unfold rawTs
  rw [List.mem_flatMap]
  constructor
  · rintro ⟨p,hp,hx⟩
    refine ⟨p,hp, ?_⟩
    simpa using hx
  · rintro ⟨p,hp,hx⟩
    exact ⟨p,hp,by simpa using hx⟩
theorem UseOk.time (h:UseOk l m c W) {x:Int} (hx:x ∈ rawTs l W):okT x = true:=by
  obtain ⟨p,hp,hx⟩:=mem_raw.1 hx
  have h1:=h.times p hp
  have h2:=h.np hp
  unfold okT
  exact decide_eq_true (by omega)
theorem last_of (t:Int):∀ ts:List Int,(∀ x ∈ ts,t < x) ∨ ∃ s ∈ ts,s≤t∧∀ x ∈ ts,x≤t→x≤s
  | [] => .inl fun x hx => by cases hx
  | a :: ts => by
    rcases last_of t ts with h | ⟨s,h1,h2,h3⟩
    · by_cases c:a≤t
      · refine .inr ⟨a,by simp,c,fun x hx hxt => ?_⟩
        rcases List.mem_cons.1 hx with rfl | hx
        · exact Int.le_refl _
        · have:=h x hx;omega
      · refine .inl fun x hx => ?_
        rcases List.mem_cons.1 hx with rfl | hx
        · omega
        · exact h x hx
    · by_cases c:a≤t∧s≤a
      · refine .inr ⟨a,by simp,c.1,fun x hx hxt => ?_⟩
        rcases List.mem_cons.1 hx with rfl | hx
        · exact Int.le_refl _
        · have:=h3 x hx hxt;omega
      · refine .inr ⟨s,by simp [h1],h2,fun x hx hxt => ?_⟩
        rcases List.mem_cons.1 hx with rfl | hx
        · omega
        · exact h3 x hx hxt
theorem UseOk.gval (_h:UseOk l m c W) (t:Int):gval (useV l m c W) (useTs l W) t = useV l m c W t:=by
  have hm:∀ x,x ∈ useTs l W ↔ x ∈ rawTs l W:=fun x => timesL_mem
  rcases last_of t (useTs l W) with h1 | ⟨s,h1,h2,h3⟩
  · rw [gval_none _ _ rfl h1]
    have:boxN l W t = 0:=boxN_zero l W 0 fun p hp => by
      have:=h1 p.2 ((hm _).2 (mem_raw.2 ⟨p,hp,.inl rfl⟩))
      unfold onP
      rw [decide_eq_false (show ¬ p.2≤t by omega)];rfl
    unfold useV
    rw [this];simp
  · rw [gval_some _ (useTs l W) rfl (show (useTs l W).Pairwise (· < ·) from timesL_up _) h1 h2 h3]
    have:boxN l W s = boxN l W t:=boxN_congr l W 0 fun p hp => by
      have a1:=h3 p.2 ((hm _).2 (mem_raw.2 ⟨p,hp,.inl rfl⟩))
      have a2:=h3 (p.2 + dP l p) ((hm _).2 (mem_raw.2 ⟨p,hp,.inr rfl⟩))
      unfold onP
      rw [Bool.eq_iff_iff]
      simp only [Bool.and_eq_true,decide_eq_true_eq]
      omega
    unfold useV
    rw [this]
theorem UseOk.spec (h:UseOk l m c W):mayB (useL l m c W) = true∧(∀ t,vat (useL l m c W) t = useV l m c W t)∧(useL l m c W).length≤128:=by
  obtain ⟨h1,_,h3,h4⟩:=buildL_all (useV l m c W) _ (useTs l W) rfl (timesL_up _) fun t ht => by
    unfold okS
    rw [Bool.and_eq_true]
    exact ⟨h.time (timesL_mem.1 ht),h.val t⟩
  refine ⟨mayB_iff.2 h1,fun t => (h3 t).trans (h.gval t), ?_⟩
  have:=timesL_len (rawTs l W)
  rw [rawTs_len] at this
  have h5:=h.len
  unfold useL
  unfold useTs at *
  omega
theorem doS_ofU {k:Int} {F G R:List Sg} (hF:mayB F = true) (hG:mayB G = true) (hR:mayB R = true) (h:∀ t,opT k F G t = ((vat R t).1,(vat R t).2,0)):doS k F G = (R,0):=by
  have hok:opOk k F G = true:=opOk_iff.2 fun t => by rw [h t]
  unfold doS
  rw [hF,hG,if_neg (by decide),if_pos hok]
  rw [opL_unique (mayB_iff.1 hF) (mayB_iff.1 hG) hok (mayB_iff.1 hR) fun t => by unfold opW;rw [h t]]
theorem addS_okU {a b c d:Int} (h1:okV a b = true) (h2:okV c d = true) (h3:okV (a + c) (b + d) = true):addS a b c d = (a + c,b + d,0):=by unfold addS;rw [h1,h2,h3];rfl
theorem may_okU {F:List Sg} (h:mayB F = true) (t:Int):okV (vat F t).1 (vat F t).2 = true:=vat_ok (CF.ok (mayB_iff.1 h)) t
theorem doS_nilU {F:List Sg} (h:mayB F = true):doS 0 [] F = (F,0):=doS_ofU rfl h h fun t => by
  show addS 0 0 (vat F t).1 (vat F t).2 = _
  have:=may_okU h t
  rw [addS_okU (by decide) this (by simpa using this)]
  simp
theorem vat_boxU {x y:Int} {v:Int × Int} (_h:x≤y) (t:Int):vat (boxL x y v) t = if x≤t∧t < y then v else (0,0):=by
  unfold boxL
  by_cases c:x = y ∨ v = (0,0)
  · rw [if_pos c]
    show (0,0) = _
    rcases c with c | c
    · rw [if_neg (by omega)]
    · rw [c];split <;> rfl
  · rw [if_neg c]
    unfold vat
    simp only [List.foldl_cons,List.foldl_nil]
    unfold stepV
    by_cases k2:y≤t
    · rw [if_pos k2,if_neg (by omega)]
    · rw [if_neg k2]
      by_cases k:x≤t
      · rw [if_pos k,if_pos ⟨k,by omega⟩]
      · rw [if_neg k,if_neg (by omega)]
theorem use_step {p:Pc} (h:UseOk l m c (W ++ [p])):∃ B:List Sg,boxS p.2 (p.2 + dP l p) (nP l p * m,nP l p * c) = (B,0)∧B.length≤2∧sumS [B,useL l m c W] = (useL l m c (W ++ [p]),0):=by
  have hW:UseOk l m c W:=⟨fun q hq => h.atoms q (by simp [hq]),h.parts,fun q hq => h.times q (by simp [hq]),by have:=h.len;simp at this;omega,h.mem,h.cor⟩
  have hn:=h.np (p:=p) (by simp)
  have ht:=h.times p (by simp)
  have hm:=h.mem;have hc:=h.cor
  have e1:0≤nP l p * m:=Int.mul_nonneg hn.1 (by omega)
  have e2:0≤nP l p * c:=Int.mul_nonneg hn.1 (by omega)
  have e3:nP l p * m≤4096 * 1073741824:=Int.mul_le_mul hn.2.1 hm.2 (by omega) (by omega)
  have e4:nP l p * c≤4096 * 1073741824:=Int.mul_le_mul hn.2.1 hc.2 (by omega) (by omega)
  have ok1:okS (p.2,(nP l p * m,nP l p * c)) = true:=by
    unfold okS okT okV
    rw [Bool.and_eq_true]
    exact ⟨decide_eq_true (by simp only;omega),decide_eq_true (by simp only;omega)⟩
  have ok2:okS (p.2 + dP l p,(0,0)) = true:=by
    unfold okS okT okV
    rw [Bool.and_eq_true]
    exact ⟨decide_eq_true (by simp only;omega),decide_eq_true (by simp only;omega)⟩
  have hB:=boxL_of (x:=p.2) (y:=p.2 + dP l p) (v:=(nP l p * m,nP l p * c)) (by omega) ok1 ok2
  refine ⟨boxL p.2 (p.2 + dP l p) (nP l p * m,nP l p * c), ?_,hB.2.2, ?_⟩
  · unfold boxS
    rw [if_neg (by omega),ok1,ok2];rfl
  · have hBm:mayB (boxL p.2 (p.2 + dP l p) (nP l p * m,nP l p * c)) = true:=mayB_iff.2 hB.1
    obtain ⟨u1,u2,_⟩:=hW.spec
    obtain ⟨v1,v2,_⟩:=h.spec
    unfold sumS
    rw [if_pos (by simp [hBm,u1])]
    unfold sumE
    simp only [List.foldl_cons,List.foldl_nil,if_true]
    rw [doS_nilU hBm]
    simp only [if_true]
    refine doS_ofU hBm u1 v1 fun t => ?_
    show addS _ _ _ _ = _
    have o1:=may_okU hBm t
    have o2:=may_okU u1 t
    have o3:=may_okU v1 t
    have key:((vat (boxL p.2 (p.2 + dP l p) (nP l p * m,nP l p * c)) t).1 + (vat (useL l m c W) t).1,(vat (boxL p.2 (p.2 + dP l p) (nP l p * m,nP l p * c)) t).2 + (vat (useL l m c W) t).2) = vat (useL l m c (W ++ [p])) t:=by
      rw [vat_boxU (by omega),u2,v2]
      unfold useV
      rw [boxN_snoc]
      unfold onP
      by_cases q1:p.2≤t∧t < p.2 + dP l p
      · rw [if_pos q1,decide_eq_true q1.1,decide_eq_true q1.2]
        simp only [Bool.and_self,if_true,Int.add_mul]
        exact Prod.ext (by simp only;omega) (by simp only;omega)
      · rw [if_neg q1]
        have:(decide (p.2≤t) && decide (t < p.2 + dP l p)) = false:=by
          rw [Bool.eq_false_iff]
          intro hq
          simp only [Bool.and_eq_true,decide_eq_true_eq] at hq
          exact q1 hq
        rw [this]
        simp
    have k1:=congrArg Prod.fst key
    have k2:=congrArg Prod.snd key
    simp only at k1 k2
    rw [addS_okU o1 o2 (by rw [k1,k2];exact o3),k1,k2]
end
end
section
open Go.ChangeShapes Go.WideShapes Go.ChangeAt Go.RowKit
attribute [local irreducible] Go.Calls
theorem ownP_pos {w:World} {B sz n:Nat} {e:TypeId} {v:Value} {xs:List Value} (h:w.ownsRow B e sz v (n + 1) xs):∃ g cap,v = .slice (some ⟨g,0,none⟩) (n + 1) cap∧B≤g∧g < w.heap.size∧n + 1≤cap∧cap≤9223372036854775807:=by
  obtain ⟨_,h2 | ⟨g,cap,cur,rfl,h3,h4,h5,h6,_⟩⟩:=h
  · exact absurd h2.2 (by omega)
  · exact ⟨g,cap,rfl,h3,lt_of_block h4,h5,by unfold maxLen at h6;omega⟩
theorem ownP_cell {w:World} {B g n cap:Nat} {e:TypeId} {sz:Nat} {xs:List Value} (h:w.ownsRow B e sz (.slice (some ⟨g,0,none⟩) n cap) n xs) {j:Nat} {u:Value} (hu:xs[j]? = some u):w.cell? ⟨g,j,none⟩ = some u:=by
  have:=h.cells (g:=g) rfl j u hu
  have e:((⟨g,0,none⟩:Addr).add j) = ⟨g,j,none⟩:=by
    unfold Addr.add
    by_cases c:j = 0
    · subst c;simp
    · simp [c]
  rwa [e] at this
structure Tw (p:Nat) (r:Option Nat) (w w':World):Prop where
  os:w'.os = w.os
  tape:w'.tape = w.tape
  output:w'.output = w.output
  size:w.heap.size≤w'.heap.size
  block:∀ k,k < w.heap.size→k ≠ p→some k ≠ r→w'.heap[k]? = w.heap[k]?
section
variable {p:Nat} {r:Option Nat} {w w' w2:World}
theorem Tw.trans (h:Tw p r w w') (h2:Tw p r w' w2):Tw p r w w2:=⟨h2.os.trans h.os,h2.tape.trans h.tape,h2.output.trans h.output,Nat.le_trans h.size h2.size,fun k a b c => (h2.block k (Nat.lt_of_lt_of_le a h.size) b c).trans (h.block k a b c)⟩
theorem Tw.past (h:Below w.heap.size w w'):Tw p r w w':=⟨h.os,h.tape,h.output,h.size,fun k a _ _ => h.block k a⟩
theorem Tw.row (h:w.grownBy w' r):Tw p r w w':=⟨h.os,h.tape,h.output,h.size,fun k a _ c => h.block k a c⟩
theorem Tw.one (h:w.grownBy w' (some p)):Tw p r w w':=⟨h.os,h.tape,h.output,h.size,fun k a b _ => h.block k a (fun e => b (Option.some.inj e))⟩
theorem Tw.put (w:World) (p i:Nat) (r:Option Nat) (v:Value):Tw p r w (w.setCell ⟨p,i,none⟩ v):=Tw.one (grown_set w p i v)
theorem Tw.below (h:Tw p r w w') {B:Nat} (hB:B≤w.heap.size) (hp:B≤p) (hr:∀ k,r = some k→B≤k):Below B w w' :=
  ⟨h.os,h.tape,h.output,h.size,fun k hk => h.block k (by omega) (by omega) (fun e => by have:=hr k e.symm;omega)⟩
theorem Tw.blk (h:Tw p r w w') {k:Nat} {cs:Array Value} {t:TypeId} (hb:Blk w k cs t) (hp:k ≠ p) (hr:some k ≠ r):Blk w' k cs t:=(h.block k hb.lt hp hr).trans hb
theorem Tw.from {w0:World} {row:Option Nat} (h:Tw p row w w') (hb:Below w0.heap.size w0 w):Tw p row w0 w':=⟨h.os.trans hb.os,h.tape.trans hb.tape,h.output.trans hb.output,Nat.le_trans hb.size h.size,fun k a b c => (h.block k (Nat.lt_of_lt_of_le a hb.size) b c).trans (hb.block k a)⟩
end
theorem step_appT {P:Program} {ops:Array Oper} {o:Oper} {a:Act} {w:World} {K:Act→World→Prop} {Q:Exit→Act→World→Prop} {E:Prop}
    (hg:o.guard = none) (s x:Operand) (t:TypeId) (hop:o.op = Op.call { callee:=Callee.builtin Builtin.append,args:=#[s,x],argTypes:=#[t,t] })
    (base:Nat) (e:TypeId) (i:TypeInfo) (z:Value) (sz by':Nat) (ht:P.underlying t = some (.slice e)) (hi:P.info? e = some i) (hz:i.zero = some z) (hsize:i.size = sz) (hby:i.bytes = by') (hzs:z.cells.size = sz) (hs0:0 < sz)
    (v:Value) (n:Nat) (xs:List Value) (hs:a.eval s = v) (hown:w.ownsRow base e sz v n xs)
    (ad:Addr) (m c:Nat) (ys:List Value) (hx:a.eval x = .slice (some ad) m c) (hl:ys.length = m * sz) (hnews:∀ j u,ys[j]? = some u→w.cell? (ad.add j) = some u) (h1:∀ u ∈ ys,u.oneCell' = true)
    (h63:n + m≤1099511627776) (hb':by'≤100) (hbase:base≤w.heap.size)
    (h:∀ v' w',w'.ownsRow base e sz v' (n + m) (xs ++ ys)→w.grownBy w' v.ownBlock→(v'.ownBlock = v.ownBlock ∨ v'.ownBlock = some w.heap.size)→K (a.put o.dst v') w') :
    if Region.wanted o (yielded ops a.tmps) = true then Oper.wp P o a w K Q else E:=by
  have hw:Region.wanted o (yielded ops a.tmps) = true:=by simp [Region.wanted,hg]
  rw [if_pos hw]
  have hbb:(n + m) * by'≤(n + m) * 100:=Nat.mul_le_mul_left _ hb'
  obtain ⟨v',w',hr,h2,h3,h4,h5⟩:=run_append_own_at (P:=P) w base t o.type e i z sz by' ht hi hz hsize hby hzs hs0 v n xs hown ad m c ys hl hnews h1 (by unfold maxLen;omega) (by omega) hbase
  unfold Oper.wp execOp
  simp only [hop,resolve,invoke,builtin,Sem.run_bind,Sem.run_pure,Result.andThen_ok,List.map_toArray,List.map_cons,List.map_nil,hs,hx,hr]
  exact h v' w' h2 h3 h5
theorem blkT_news {w:World} {p:Nat} {ys:List Value} {t:TypeId} (h:Blk w p ys.toArray t):∀ j u,ys[j]? = some u→w.cell? ((⟨p,0,none⟩:Addr).add j) = some u:=by
  intro j u hu
  have e:((⟨p,0,none⟩:Addr).add j) = ⟨p,j,none⟩:=by
    unfold Addr.add
    by_cases c:j = 0
    · subst c;simp
    · simp [c]
  rw [e,h.cell j,← hu]
  simp
end
end Go.Proofs.YthlepbbdjmmelaaGreatDoor
