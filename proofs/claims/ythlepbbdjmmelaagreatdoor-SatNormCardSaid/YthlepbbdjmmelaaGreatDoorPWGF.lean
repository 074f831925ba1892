/- A region that draws its order: every operation but a forced tail may run in whatever order; each is asked only what its own operands need. No conditions. What is known of a term: lengths are small; the term stored where the answer lies; an atom's term. Conditions: the parts may be, the pieces are within bounds. A term with children. Conditions: the parts may be, the pieces .. -/
import Derived.Test.YthlepbbdjmmelaaGreatDoorPWGA
import Derived.Deep.Quiet
import Derived.Test.YthlepbbdjmmelaaGreatDoorPWGE
namespace Go.Proofs.YthlepbbdjmmelaaGreatDoor
section
open Go.RowKit
def gives (P:Program) (G:Value→World→Prop):Result Next→Prop
  | .ok (.value u) w' => G u w'
  | .ok .skip w' => G undef w'
  | .ok (.enter f args) w' => Calls P f args w' (fun e w'' => ∃ v,e = .returned v∧G v w'')
  | _ => False
theorem upon_of_gives {P:Program} {o:Oper} {a:Act} {next:Act→World→Prop} {Q:Exit→Act→World→Prop} {G:Value→World→Prop} {r:Result Next}
    (h:gives P G r) (hn:∀ v w',G v w'→next (a.put o.dst v) w'):o.upon P a next Q r:=by
  cases r with
  | ok n w' =>
    cases n <;> simp only [gives] at h <;> simp only [Oper.upon]
    case value u => exact hn _ _ h
    case skip => exact hn _ _ h
    case enter f args => exact h.mono fun e w'' ⟨v,he,hg⟩ => by subst he;exact hn _ _ hg
  | halt x w' => simp only [gives] at h
def waits (ops:Array Oper) (i j:Nat):Bool:=match ops[i]? with
  | some o => o.after.any fun e => Region.binds .any e && e.on == j
  | none => false
def cover (ops:Array Oper):Nat→Nat→Nat→Bool
  | 0,i,j => waits ops i j
  | d + 1,i,j => waits ops i j || (List.range i).any fun k => waits ops i k && cover ops d k j
def coverX (ops:Array Oper) (i j:Nat):Bool:=cover ops 3 i j || cover ops 8 i j
def frm (l:List Oper) (u:Nat→Value):Nat→Act→Act
  | k, a => match l with
    | [] => a
    | o :: r => frm r u (k + 1) (a.put o.dst (u k))
def jOk (l:List Oper) (n:Nat) (lax:List Nat):Bool :=
  Region.noSelect l.toArray &&
  ((List.range l.length).all fun i => match l[i]? with
    | some o => o.after.all fun e => !Region.binds .any e || decide (e.on < i)
    | none => true) &&
  ((List.range n).all fun i => match l[i]? with
    | some o => (List.range n).all fun j => match l[j]? with
      | some p => match p.dst with
        | some t => (!(o.looksAt l.toArray).contains t || waits l.toArray i j) && (i == j || o.dst != some t)
        | none => true
      | none => true
    | none => true) &&
  ((List.range l.length).all fun i => decide (i < n) || (List.range i).all fun j => lax.contains j || coverX l.toArray i j) &&
  (lax.all fun i => decide (i < n)) &&
  (lax.all fun i => match l[i]? with
    | some o => (List.range l.length).all fun j => match l[j]? with
      | some p => j == i || (decide (j < n) && !lax.contains j) || waits l.toArray j i || o.apart l.toArray p
      | none => true
    | none => true)
structure Shut (ops:Array Oper) (listed:Array Bool):Prop where
  size:listed.size = ops.size
  deps:∀ i o,ops[i]? = some o→listed.getD i false = true→∀ e ∈ o.after,Region.binds .any e = true→listed.getD e.on false = true
theorem waits_listed {ops:Array Oper} {listed:Array Bool} {i j:Nat} {o:Oper} (ho:ops[i]? = some o)
    (hd:∀ e ∈ o.after,Region.binds .any e = true→listed.getD e.on false = true) (h:waits ops i j = true):listed.getD j false = true:=by
  unfold waits at h
  rw [ho] at h
  obtain ⟨e,he,hb⟩:=Array.any_eq_true'.1 h
  simp only [Bool.and_eq_true,beq_iff_eq] at hb
  exact hb.2 ▸ hd e he hb.1
theorem cover_listed {ops:Array Oper} {listed:Array Bool} (hs:Shut ops listed):∀ (d i j:Nat) (o:Oper),ops[i]? = some o →
    (∀ e ∈ o.after,Region.binds .any e = true→listed.getD e.on false = true)→cover ops d i j = true→listed.getD j false = true:=by
  intro d
  induction d with
  | zero => intro i j o ho hd h;exact waits_listed ho hd h
  | succ d ih =>
    intro i j o ho hd h
    simp only [cover,Bool.or_eq_true,List.any_eq_true,Bool.and_eq_true] at h
    rcases h with h | ⟨k,_,hk,hc⟩
    · exact waits_listed ho hd h
    · have hkl:=waits_listed ho hd hk
      cases hok:ops[k]? with
      | none =>
        have hlt:¬ k < ops.size:=by intro hlt;rw [Array.getElem?_eq_getElem hlt] at hok;cases hok
        rw [← hs.size] at hlt
        simp [Array.getElem?_eq_none (Nat.not_lt.1 hlt)] at hkl
      | some ok => exact ih k j ok hok (hs.deps k ok hok hkl) hc
theorem coverX_listed {ops:Array Oper} {listed:Array Bool} (hs:Shut ops listed) (i j:Nat) (o:Oper) (ho:ops[i]? = some o)
    (hd:∀ e ∈ o.after,Region.binds .any e = true→listed.getD e.on false = true) (h:coverX ops i j = true):listed.getD j false = true:=by
  unfold coverX at h
  rw [Bool.or_eq_true] at h
  rcases h with h | h
  · exact cover_listed hs 3 i j o ho hd h
  · exact cover_listed hs 8 i j o ho hd h
theorem getD_flip {x:Array Bool} {j:Nat} (h:j < x.size) (d e:Bool):x.getD j d = x.getD j e:=by simp [h]
theorem tail_any {P:Program} {l:List Oper} {n:Nat} {Q:Exit→Act→World→Prop}
    (hback:∀ i o,l[i]? = some o→∀ e ∈ o.after,Region.binds .any e = true→e.on < i)
    (hok:∀ i,n≤i→i < l.length→∀ j,n≤j→j < i→coverX l.toArray i j = true) :
    ∀ (fuel k : Nat) (listed : Array Bool) (a : Act) (w : World), n ≤ k → k ≤ l.length → l.length ≤ k + fuel → Shut l.toArray listed →
      (∀ j,j < l.length→listed.getD j false = decide (j < k))→wpList P l.toArray Q (l.drop k) a w→wpAny P .any l.toArray Q fuel listed a w:=by
  have done:∀ (k:Nat) (listed:Array Bool),l.length≤k→Shut l.toArray listed→(∀ j,j < l.length→listed.getD j false = decide (j < k))→Region.ready .any l.toArray listed = []:=by
    intro k listed hk hs hl
    apply List.eq_nil_iff_forall_not_mem.2
    intro j hj
    obtain ⟨h0,o,ho,_⟩:=mem_ready.1 hj
    have hjl:j < l.length:=by
      rcases Nat.lt_or_ge j l.length with h | h
      · exact h
      · simp [List.getElem?_eq_none h] at ho
    have:=hl j hjl
    rw [getD_flip (by rw [hs.size];simp;exact hjl) false true,h0] at this
    simp at this;omega
  intro fuel
  induction fuel with
  | zero =>
    intro k listed a w _ hk1 hk2 hs hl h
    have hk:k = l.length:=by omega
    subst hk
    rw [List.drop_length] at h
    exact ⟨done _ _ (Nat.le_refl _) hs hl,h⟩
  | succ fuel ih =>
    intro k listed a w hnk hk1 hk2 hs hl h
    rcases Nat.lt_or_ge k l.length with hlt | hge
    · have hok':l[k]? = some l[k]:=List.getElem?_eq_getElem hlt
      have hka:l.toArray[k]? = some l[k]:=by simp
      rw [List.drop_eq_getElem_cons hlt] at h
      have hdeps:∀ e ∈ l[k].after,Region.binds .any e = true→listed.getD e.on false = true:=fun e he hb => by
        have:=hback k _ hok' e he hb
        rw [hl e.on (by omega)];simpa using this
      refine ⟨fun h0 => ?_,fun j hj => ?_⟩
      · exfalso
        have:k ∈ Region.ready .any l.toArray listed:=by
          refine mem_ready.2 ⟨?_,l[k],hka,hdeps⟩
          rw [getD_flip (by rw [hs.size];simp;exact hlt) true false,hl k hlt];simp
        rw [h0] at this;cases this
      · obtain ⟨h0,o,ho,hd⟩:=mem_ready.1 hj
        have hjl:j < l.length:=by
          rcases Nat.lt_or_ge j l.length with h | h
          · exact h
          · simp [List.getElem?_eq_none h] at ho
        have hjk:k≤j:=by
          have:=hl j hjl
          rw [getD_flip (by rw [hs.size];simp;exact hjl) false true,h0] at this
          simp at this;exact this
        have hej:j = k:=by
          rcases Nat.lt_or_ge k j with hlt' | hge'
          · have:=coverX_listed hs j k o ho hd (hok j (by omega) hjl k hnk hlt')
            rw [hl k hlt] at this;simp at this
          · omega
        subst hej
        have hwp:wpOp P l.toArray Q j (wpList P l.toArray Q (l.drop (j + 1))) a w:=by
          unfold wpOp;simp only [hka];exact h
        refine wpOp_mono (fun a' w' h' => ih (j + 1) _ a' w' (by omega) (by omega) (by omega) ⟨by simpa using hs.size, ?_⟩ ?_ h') hwp
        · intro i oi hi hli e he hb
          by_cases hij:i = j
          · subst hij
            rw [hka] at hi;cases hi
            exact getD_set_true (hdeps e he hb)
          · rw [getD_set_ne false (Ne.symm hij)] at hli
            exact getD_set_true (hs.deps i oi hi hli e he hb)
        · intro i hi
          by_cases hij:i = j
          · subst hij
            have:i < listed.size:=by rw [hs.size];simpa using hi
            simp [this]
          · rw [getD_set_ne false (Ne.symm hij),hl i hi,decide_eq_decide];omega
    · have hk:k = l.length:=by omega
      subst hk
      rw [List.drop_length] at h
      exact wpAny_done (done _ _ (Nat.le_refl _) hs hl) h _
theorem frm_spec (u:Nat→Value):∀ (l:List Oper) (k:Nat) (a:Act),(frm l u k a).tmps.size = a.tmps.size∧(frm l u k a).defers = a.defers ∧
    (∀ (t:Tmp),(∀ (j:Nat) (o:Oper),l[j]? = some o→o.dst ≠ some t)→(frm l u k a).tmps[t]? = a.tmps[t]?) ∧
    (∀ (j:Nat) (o:Oper) (t:Tmp),l[j]? = some o→o.dst = some t→(∀ (i:Nat) (p:Oper),l[i]? = some p→i ≠ j→p.dst ≠ some t)→t < a.tmps.size→(frm l u k a).tmps[t]? = some (u (k + j))):=by
  intro l
  induction l with
  | nil => intro k a;exact ⟨rfl,rfl,fun _ _ => rfl,fun j o t h => by simp at h⟩
  | cons q r ih =>
    intro k a
    obtain ⟨h1,h2,h3,h4⟩:=ih (k + 1) (a.put q.dst (u k))
    have hs:(a.put q.dst (u k)).tmps.size = a.tmps.size:=by cases q.dst <;> simp [Act.put]
    have hd:(a.put q.dst (u k)).defers = a.defers:=by cases q.dst <;> simp [Act.put]
    refine ⟨by rw [← hs];exact h1,by rw [← hd];exact h2,fun t ht => ?_,fun j o t hj hdst huniq hlt => ?_⟩
    · have e:=h3 t (fun j o hj => ht (j + 1) o (by simpa using hj))
      show (frm r u (k + 1) (a.put q.dst (u k))).tmps[t]? = _
      rw [e]
      have hq:=ht 0 q (by simp)
      cases hqd:q.dst with
      | none => rfl
      | some d =>
        have hne:d ≠ t:=fun e => hq (by rw [hqd,e])
        simp [Act.put,Array.getElem?_setIfInBounds_ne hne]
    · show (frm r u (k + 1) (a.put q.dst (u k))).tmps[t]? = _
      cases j with
      | zero =>
        simp at hj;subst hj
        rw [h3 t (fun i p hi => huniq (i + 1) p (by simpa using hi) (by omega)),hdst]
        simp [Act.put,hlt]
      | succ j =>
        have:=h4 j o t (by simpa using hj) hdst (fun i p hi hne => huniq (i + 1) p (by simpa using hi) (by omega)) (by rw [hs];exact hlt)
        rw [this];congr 2;omega
structure JInv (l:List Oper) (n:Nat) (a0:Act) (w0:World) (R:Nat→Value→World→Prop) (fr:Nat→Bool) (u:Nat→Value) (listed:Array Bool) (a:Act) (w:World):Prop where
  shut:Shut l.toArray listed
  notail:∀ j,n≤j→j < l.length→listed.getD j false = false
  size:a.tmps.size = a0.tmps.size
  defers:a.defers = a0.defers
  mine:∀ (j:Nat) (o:Oper) (t:Tmp),j < n→l[j]? = some o→listed.getD j false = true→o.dst = some t→t < a0.tmps.size→a.tmps[t]? = some (u j)
  rest:∀ (t:Tmp),(∀ (j:Nat) (o:Oper),j < n→l[j]? = some o→listed.getD j false = true→o.dst ≠ some t)→a.tmps[t]? = a0.tmps[t]?
  past:Below w0.heap.size w0 w
  facts:∀ j,j < n→listed.getD j false = true→R j (u j) w
  fresh:∀ j,j < n→listed.getD j false = true→fr j = true→∃ p,u j = .pointer (some ⟨p,0,none⟩)∧p < w.heap.size
  apart:∀ i j,i < n→j < n→i ≠ j→listed.getD i false = true→listed.getD j false = true→fr i = true→fr j = true→u i ≠ u j
def JStep (P:Program) (l:List Oper) (n:Nat) (a0:Act) (w0:World) (R:Nat→Value→World→Prop) (fr:Nat→Bool) (i:Nat) (o:Oper):Prop :=
  ∀ (u : Nat → Value) (x : Past w0), (∀ j, j < n → waits l.toArray i j = true → R j (u j) x.1) →
    if Region.wanted o (yielded l.toArray (frm (l.take n) u 0 a0).tmps) then
      gives P (fun v w' => Below x.1.heap.size x.1 w'∧R i v w'∧(fr i = true→∃ p,v = .pointer (some ⟨p,0,none⟩)∧x.1.heap.size≤p∧p < w'.heap.size)) ((execOp (frm (l.take n) u 0 a0).eval o).run P x.1)
    else R i undef x.1∧fr i = false
structure JOk (l:List Oper) (n:Nat) (lax:List Nat):Prop where
  sel:Region.noSelect l.toArray = true
  back:∀ (i:Nat) (o:Oper),l[i]? = some o→∀ e ∈ o.after,Region.binds .any e = true→e.on < i
  own:∀ (i:Nat) (o:Oper) (j:Nat) (p:Oper) (t:Tmp),i < n→j < n→l[i]? = some o→l[j]? = some p→p.dst = some t→t ∈ o.looksAt l.toArray→waits l.toArray i j = true
  one:∀ (i:Nat) (o:Oper) (j:Nat) (p:Oper) (t:Tmp),i < n→j < n→l[i]? = some o→l[j]? = some p→p.dst = some t→o.dst = some t→i = j
  tail:∀ i,n≤i→i < l.length→∀ j,j < i→j ∉ lax→coverX l.toArray i j = true
  laxLt:∀ i,i ∈ lax→i < n
  laxA:∀ (i j:Nat) (o p:Oper),i ∈ lax→l[i]? = some o→l[j]? = some p→j ≠ i→(n≤j ∨ j ∈ lax)→waits l.toArray j i = true ∨ o.apart l.toArray p = true
theorem jOk_spec {l:List Oper} {n:Nat} {lax:List Nat} (h:jOk l n lax = true):JOk l n lax:=by
  simp only [jOk,Bool.and_eq_true,List.all_eq_true,List.mem_range] at h
  obtain ⟨⟨⟨⟨⟨h1,h2⟩,h3⟩,h4⟩,h5⟩,h6⟩:=h
  refine ⟨h1, ?_, ?_, ?_, ?_,fun i hi => by simpa using h5 i hi, ?_⟩
  rotate_left 4
  · intro i j o p hi ho hp hne hj
    have:=h6 i hi
    rw [ho] at this
    have:=List.all_eq_true.1 this j (List.mem_range.2 (List.getElem?_eq_some_iff.1 hp).1)
    rw [hp] at this
    simp only [Bool.or_eq_true,Bool.and_eq_true,decide_eq_true_eq,beq_iff_eq,Bool.not_eq_true'] at this
    rcases this with ((h | h) | h) | h
    · exact absurd h hne
    · exfalso
      rcases hj with hj | hj
      · omega
      · have:=h.2;simp [hj] at this
    · exact .inl h
    · exact .inr h
  · intro i o ho e he hb
    have:=h2 i (List.getElem?_eq_some_iff.1 ho).1
    rw [ho] at this
    have:=Array.all_eq_true_iff_forall_mem.1 this e he
    simpa [hb] using this
  · intro i o j p t hi hj ho hp ht hl
    have:=h3 i hi
    rw [ho] at this
    have:=List.all_eq_true.1 this j (List.mem_range.2 hj)
    rw [hp] at this
    simp only [ht,Bool.and_eq_true,Bool.or_eq_true,Bool.not_eq_true'] at this
    rcases this.1 with h | h
    · exact absurd hl (by simpa using h)
    · exact h
  · intro i o j p t hi hj ho hp ht hd
    have:=h3 i hi
    rw [ho] at this
    have:=List.all_eq_true.1 this j (List.mem_range.2 hj)
    rw [hp] at this
    simp only [ht,Bool.and_eq_true,Bool.or_eq_true] at this
    rcases this.2 with h | h
    · simpa using h
    · rw [hd] at h;simp at h
  · intro i hi hl j hj hjx
    have:=h4 i hl
    simp only [Bool.or_eq_true,decide_eq_true_eq,List.all_eq_true,List.mem_range] at this
    rcases this with h | h
    · omega
    · rcases h j hj with h | h
      · exact absurd (by simpa using h) hjx
      · exact h
section
variable {P:Program} {l:List Oper} {n:Nat} {lax:List Nat} {a0:Act} {w0:World} {R:Nat→Value→World→Prop} {fr:Nat→Bool}
theorem look_same (_hn:n≤l.length) (hok:JOk l n lax) {u:Nat→Value} {listed:Array Bool} {a:Act} {w:World} (hI:JInv l n a0 w0 R fr u listed a w)
    {i:Nat} {o:Oper} (hi:i < n) (ho:l[i]? = some o) (hd:∀ e ∈ o.after,Region.binds .any e = true→listed.getD e.on false = true) :
    ∀ t,t ∈ o.looksAt l.toArray→a.tmps[t]? = (frm (l.take n) u 0 a0).tmps[t]? := by
  intro t ht
  obtain ⟨f1,_,f3,f4⟩:=frm_spec u (l.take n) 0 a0
  by_cases h:∃ (j:Nat) (p:Oper),j < n∧l[j]? = some p∧p.dst = some t
  · obtain ⟨j,p,hj,hp,hpt⟩:=h
    have hw:=hok.own i o j p t hi hj ho hp hpt ht
    have hl:=waits_listed (ops:=l.toArray) (i:=i) (by simpa using ho) hd hw
    rcases Nat.lt_or_ge t a0.tmps.size with hlt | hge
    · rw [hI.mine j p t hj hp hl hpt hlt,f4 j p t (by rw [List.getElem?_take,if_pos hj];exact hp) hpt (fun k q hq hne => ?_) hlt]
      · simp
      · intro hqt
        rw [List.getElem?_take] at hq
        split at hq
        · rename_i hk;exact hne (hok.one k q j p t hk hj hq hp hpt hqt)
        · cases hq
    · rw [Array.getElem?_eq_none (by rw [hI.size];exact hge),Array.getElem?_eq_none (by rw [f1];exact hge)]
  · rw [hI.rest t (fun j p hj hp _ hpt => h ⟨j,p,hj,hp,hpt⟩),f3 t (fun j p hp hpt => ?_)]
    rw [List.getElem?_take] at hp
    split at hp
    · rename_i hk;exact h ⟨j,p,hk,hp,hpt⟩
    · cases hp
theorem exec_same {a a':Act} {o:Oper} {ops:Array Oper} (hs:∀ cs b,o.op ≠ .select cs b) (h:∀ t,t ∈ o.looksAt ops→a.tmps[t]? = a'.tmps[t]?):execOp a.eval o = execOp a'.eval o:=by
  refine execOp_congr o hs fun x hx => ?_
  cases x with
  | tmp t =>
    have:=h t (List.mem_append_left _ (List.mem_filterMap.2 ⟨.tmp t,by simpa using hx,rfl⟩))
    simp only [Act.eval,Array.getD_eq_getD_getElem?,this]
  | const v => rfl
  | global g => rfl
  | func f => rfl
theorem wanted_same {a a':Act} {o:Oper} {ops:Array Oper} (h:∀ t,t ∈ o.looksAt ops→a.tmps[t]? = a'.tmps[t]?) :
    Region.wanted o (yielded ops a.tmps) = Region.wanted o (yielded ops a'.tmps):=by
  unfold Region.wanted
  cases hg:o.guard with
  | none => rfl
  | some gw =>
    obtain ⟨g,want⟩:=gw
    have hy:yielded ops a.tmps g = yielded ops a'.tmps g:=by
      unfold yielded
      cases ht:(ops[g]?).bind (·.dst) with
      | none => rfl
      | some t => simp only [Option.bind_some,h t (List.mem_append_right _ (by simp [hg,ht]))]
    simp only [hy]
theorem JInv.next (hok:JOk l n lax) (hst:∀ i v w w',R i v w→Below w.heap.size w w'→R i v w') {u:Nat→Value} {listed:Array Bool} {a:Act} {w:World} (hI:JInv l n a0 w0 R fr u listed a w)
    {i:Nat} {o:Oper} (hi:i < n) (hn:n≤l.length) (ho:l[i]? = some o) (hun:listed.getD i false = false) (hd:∀ e ∈ o.after,Region.binds .any e = true→listed.getD e.on false = true)
    {v:Value} {w':World} (hb:Below w.heap.size w w') (hR:R i v w') (hf:fr i = true→∃ p,v = .pointer (some ⟨p,0,none⟩)∧w.heap.size≤p∧p < w'.heap.size) :
    JInv l n a0 w0 R fr (fun j => if j = i then v else u j) (listed.setIfInBounds i true) (a.put o.dst v) w':=by
  have hsz:(a.put o.dst v).tmps.size = a.tmps.size:=by cases o.dst <;> simp [Act.put]
  have hil:i < listed.size:=by rw [hI.shut.size];simp;omega
  have hne:∀ j,j ≠ i→(listed.setIfInBounds i true).getD j false = listed.getD j false:=fun j h => getD_set_ne false (Ne.symm h)
  refine ⟨⟨by simpa using hI.shut.size, ?_⟩, ?_,by rw [hsz];exact hI.size, ?_, ?_, ?_, ?_, ?_, ?_, ?_⟩
  · intro k ok hk hkl e he hbd
    by_cases hki:k = i
    · subst hki
      have : ok = o := by have : l.toArray[k]? = some o := by simpa using ho
                          rw [this] at hk;exact (Option.some.inj hk).symm
      subst this
      exact getD_set_true (hd e he hbd)
    · rw [hne k hki] at hkl
      exact getD_set_true (hI.shut.deps k ok hk hkl e he hbd)
  · intro j hj hjl
    rw [hne j (by omega)];exact hI.notail j hj hjl
  · have:(a.put o.dst v).defers = a.defers:=by cases o.dst <;> rfl
    rw [this];exact hI.defers
  · intro j p t hj hp hl hpt hlt
    by_cases hji:j = i
    · subst hji
      have:p = o:=by rw [ho] at hp;exact (Option.some.inj hp).symm
      subst this
      simp [Act.put,hpt,hI.size,hlt]
    · rw [hne j hji] at hl
      have hdst:o.dst ≠ some t:=fun h => hji (hok.one j p i o t hj hi hp ho h hpt)
      have:(a.put o.dst v).tmps[t]? = a.tmps[t]? := by
        cases hod:o.dst with
        | none => rfl
        | some d => have : d ≠ t := fun e => hdst (by rw [hod, e])
                    simp [Act.put,Array.getElem?_setIfInBounds_ne this]
      rw [this,if_neg hji]
      exact hI.mine j p t hj hp hl hpt hlt
  · intro t ht
    have hdst:o.dst ≠ some t:=ht i o hi ho (by simp [hil])
    have:(a.put o.dst v).tmps[t]? = a.tmps[t]? := by
      cases hod:o.dst with
      | none => rfl
      | some d => have : d ≠ t := fun e => hdst (by rw [hod, e])
                  simp [Act.put,Array.getElem?_setIfInBounds_ne this]
    rw [this]
    exact hI.rest t fun j p hj hp hl => ht j p hj hp (getD_set_true hl)
  · exact hI.past.trans (hb.mono hI.past.size)
  · intro j hj hl
    by_cases hji:j = i
    · subst hji;simpa using hR
    · rw [hne j hji] at hl
      simp only [if_neg hji]
      exact hst _ _ _ _ (hI.facts j hj hl) hb
  · intro j hj hl hfj
    by_cases hji:j = i
    · subst hji
      obtain ⟨p,h1,_,h3⟩:=hf hfj
      exact ⟨p,by simpa using h1,h3⟩
    · rw [hne j hji] at hl
      obtain ⟨p,h1,h2⟩:=hI.fresh j hj hl hfj
      exact ⟨p,by simpa [if_neg hji] using h1,Nat.lt_of_lt_of_le h2 hb.size⟩
  · intro j k hj hk hjk hjl hkl hfj hfk
    by_cases hji:j = i
    · subst hji
      rw [hne k (Ne.symm hjk)] at hkl
      obtain ⟨p,h1,h2,_⟩:=hf hfj
      obtain ⟨q,h3,h4⟩:=hI.fresh k hk hkl hfk
      simp only [if_true,if_neg (Ne.symm hjk),h1,h3]
      intro h;(simp at h <;> omega)
    · by_cases hki:k = i
      · subst hki
        rw [hne j hji] at hjl
        obtain ⟨p,h1,h2,_⟩:=hf hfk
        obtain ⟨q,h3,h4⟩:=hI.fresh j hj hjl hfj
        simp only [if_true,if_neg hji,h1,h3]
        intro h;(simp at h <;> omega)
      · rw [hne j hji] at hjl;rw [hne k hki] at hkl
        simp only [if_neg hji,if_neg hki]
        exact hI.apart j k hj hk hjk hjl hkl hfj hfk
theorem JInv.whole (hok:JOk l n lax) {u:Nat→Value} {listed:Array Bool} {a:Act} {w:World} (hI:JInv l n a0 w0 R fr u listed a w) (_hn:n≤l.length)
    (hall:∀ j,j < n→listed.getD j false = true):a = frm (l.take n) u 0 a0:=by
  obtain ⟨f1,f2,f3,f4⟩:=frm_spec u (l.take n) 0 a0
  have htm:a.tmps = (frm (l.take n) u 0 a0).tmps:=by
    apply Array.ext_getElem?
    intro t
    by_cases h:∃ (j:Nat) (p:Oper),j < n∧l[j]? = some p∧p.dst = some t
    · obtain ⟨j,p,hj,hp,hpt⟩:=h
      rcases Nat.lt_or_ge t a0.tmps.size with hlt | hge
      · rw [hI.mine j p t hj hp (hall j hj) hpt hlt,f4 j p t (by rw [List.getElem?_take,if_pos hj];exact hp) hpt (fun k q hq hne => ?_) hlt]
        · simp
        · intro hqt
          rw [List.getElem?_take] at hq
          split at hq
          · rename_i hk;exact hne (hok.one k q j p t hk hj hq hp hpt hqt)
          · cases hq
      · rw [Array.getElem?_eq_none (by rw [hI.size];exact hge),Array.getElem?_eq_none (by rw [f1];exact hge)]
    · rw [hI.rest t (fun j p hj hp _ hpt => h ⟨j,p,hj,hp,hpt⟩),f3 t (fun j p hp hpt => ?_)]
      rw [List.getElem?_take] at hp
      split at hp
      · rename_i hk;exact h ⟨j,p,hk,hp,hpt⟩
      · cases hp
  have hde:a.defers = (frm (l.take n) u 0 a0).defers:=by rw [f2];exact hI.defers
  cases a;cases hq:frm (l.take n) u 0 a0
  rw [hq] at htm hde
  simp only at htm hde
  rw [htm,hde]
def left (n:Nat) (listed:Array Bool):Nat:=((List.range n).filter fun j => !listed.getD j false).length
theorem left_set {n i:Nat} {listed:Array Bool} (hi:i < n) (hil:i < listed.size) (hun:listed.getD i false = false):left n (listed.setIfInBounds i true) + 1≤left n listed:=by
  unfold left
  have h1:(List.range n).filter (fun j => !(listed.setIfInBounds i true).getD j false) = ((List.range n).filter fun j => !listed.getD j false).filter (fun j => j != i):=by
    rw [List.filter_filter]
    refine List.filter_congr fun j _ => ?_
    by_cases hji:j = i
    · subst hji;simp [hil]
    · rw [getD_set_ne false (Ne.symm hji)];simp [hji]
  rw [h1]
  have hmem:i ∈ (List.range n).filter fun j => !listed.getD j false:=by simp [List.mem_filter,hi];simpa using hun
  have:(((List.range n).filter fun j => !listed.getD j false).filter (fun j => j != i)).length < ((List.range n).filter fun j => !listed.getD j false).length:=by
    apply Nat.lt_of_not_le
    intro hle
    have:=(List.filter_sublist (p:=fun j => j != i) (l:=(List.range n).filter fun j => !listed.getD j false)).eq_of_length_le hle
    rw [← this] at hmem
    simp at hmem
  omega
def JLax (P:Program) (l:List Oper) (n:Nat) (a0:Act) (w0:World) (R:Nat→Value→World→Prop) (fr:Nat→Bool) (Q:Exit→Act→World→Prop) (i:Nat) (o:Oper):Prop :=
  fr i = false ∧
  (∀ c a w v,Q (.panic c) (a.put o.dst v) w→Q (.panic c) a w) ∧
  ∀ (u : Nat → Value) (x : Past w0), (∀ j, j < n → waits l.toArray i j = true → R j (u j) x.1) →
    Region.wanted o (yielded l.toArray (frm (l.take n) u 0 a0).tmps) = true∧∃ v,R i v x.1∧∀ w,(execOp (frm (l.take n) u 0 a0).eval o).run P w = .ok (.value v) w
theorem prefix_any {Q:Exit→Act→World→Prop} (hn:n≤l.length) (hok:JOk l n lax) (hst:∀ i v w w',R i v w→Below w.heap.size w w'→R i v w')
    (hstep:∀ (i:Nat) (o:Oper),i < n→l[i]? = some o→JStep P l n a0 w0 R fr i o)
    (hlax:∀ (i:Nat) (o:Oper),i ∈ lax→l[i]? = some o→JLax P l n a0 w0 R fr Q i o)
    (htail:∀ (u:Nat→Value) (x:Past w0),(∀ i,i < n→R i (u i) x.1)→(∀ i j,i < n→j < n→i ≠ j→fr i = true→fr j = true→u i ≠ u j)→wpList P l.toArray Q (l.drop n) (frm (l.take n) u 0 a0) x.1) :
    ∀ (m fuel:Nat) (u:Nat→Value) (listed:Array Bool) (a:Act) (w:World),left n listed≤m→m + (l.length - n)≤fuel→JInv l n a0 w0 R fr u listed a w→wpAny P .any l.toArray Q fuel listed a w:=by
  have ending:∀ (fuel:Nat) (u:Nat→Value) (listed:Array Bool) (a:Act) (w:World),(l.length - n)≤fuel→JInv l n a0 w0 R fr u listed a w→(∀ j,j < n→listed.getD j false = true)→wpAny P .any l.toArray Q fuel listed a w:=by
    intro fuel u listed a w hf hI hall
    have ha:=hI.whole hok hn hall
    refine tail_any (n:=n) hok.back (fun i h1 h2 j h3 h4 => hok.tail i h1 h2 j h4 (fun hx => by have:=hok.laxLt j hx;omega)) fuel n listed a w (Nat.le_refl _) hn (by omega) hI.shut (fun j hj => ?_) ?_
    · by_cases h:j < n
      · rw [hall j h];simp [h]
      · rw [hI.notail j (by omega) hj];simp [h]
    · rw [ha]
      exact htail u ⟨w,hI.past⟩ (fun i hi => hI.facts i hi (hall i hi)) (fun i j hi hj hij h1 h2 => hI.apart i j hi hj hij (hall i hi) (hall j hj) h1 h2)
  intro m
  induction m with
  | zero =>
    intro fuel u listed a w hm hf hI
    refine ending fuel u listed a w (by omega) hI (fun j hj => ?_)
    cases h:listed.getD j false with
    | true => rfl
    | false =>
      exfalso
      have hmem:j ∈ (List.range n).filter fun j => !listed.getD j false:=by simp [List.mem_filter,hj];simpa using h
      have:(List.range n).filter (fun j => !listed.getD j false) = []:=List.length_eq_zero_iff.1 (by unfold left at hm;omega)
      rw [this] at hmem;cases hmem
  | succ m ih =>
    intro fuel u listed a w hm hf hI
    have hlt:∀ j,j < n→j < listed.size:=fun j hj => by rw [hI.shut.size];simp;omega
    by_cases hall:∀ j,j < n→listed.getD j false = true
    · exact ending fuel u listed a w (by omega) hI hall
    obtain ⟨fuel,rfl⟩:∃ f,fuel = f + 1:=⟨fuel - 1,by omega⟩
    have hex:∃ j,j < n∧listed.getD j false = false∧∀ k,k < j→listed.getD k false = true:=by
      apply Classical.byContradiction
      intro hno
      refine hall fun j => ?_
      induction j using Nat.strongRecOn with
      | ind j ihj =>
        intro hj
        cases h:listed.getD j false with
        | true => rfl
        | false => exact absurd ⟨j,hj,h,fun k hk => ihj k hk (by omega)⟩ hno
    obtain ⟨j0,hj0,hj0l,hj0k⟩:=hex
    have hj0o:l[j0]? = some (l[j0]'(by omega)):=List.getElem?_eq_getElem (by omega)
    have hd0:∀ e ∈ (l[j0]'(by omega)).after,Region.binds .any e = true→listed.getD e.on false = true:=fun e he hb => hj0k _ (hok.back j0 _ hj0o e he hb)
    have hr0:j0 ∈ Region.ready .any l.toArray listed:=mem_ready.2 ⟨by rw [getD_flip (hlt j0 hj0) true false];exact hj0l,_,by rw [List.getElem?_toArray];exact hj0o,hd0⟩
    by_cases hnz:∀ j,j < n→j ∉ lax→listed.getD j false = true
    · -- what is left of the first n need not be waited for: it may be taken first
      have hx:j0 ∈ lax:=Classical.byContradiction fun h => by rw [hnz j0 hj0 h] at hj0l;cases hj0l
      obtain ⟨h1,h3,h4⟩:=hlax j0 _ hx hj0o
      obtain ⟨h5,v,h6,h7⟩:=h4 u ⟨w,hI.past⟩ (fun j hj hw => hI.facts j hj (waits_listed (by rw [List.getElem?_toArray];exact hj0o) hd0 hw))
      have hlook:=look_same hn hok hI hj0 hj0o hd0
      have hsel:=fun cs b => Region.noSelect_spec hok.sel j0 _ cs b (by rw [List.getElem?_toArray];exact hj0o)
      refine wpAny_first (i:=j0) (v:=v) (by rw [List.getElem?_toArray];exact hj0o) (Region.noSelect_spec hok.sel) (fun c a w => h3 c a w v) fuel listed a w ?_ hr0 ?_ ?_
      · intro j oj hoj hne hun hno
        rw [List.getElem?_toArray] at hoj
        have hj:n≤j ∨ j ∈ lax:=by
          rcases Nat.lt_or_ge j n with h | h
          · right
            exact Classical.byContradiction fun hx' => by
              have:=hnz j h hx'
              rw [getD_flip (hlt j h) true false,this] at hun;cases hun
          · exact .inl h
        rcases hok.laxA j0 j _ oj hx hj0o hoj hne hj with h | h
        · exfalso
          unfold waits at h
          rw [List.getElem?_toArray,hoj] at h
          obtain ⟨e,he,hb⟩:=Array.any_eq_true'.1 h
          simp only [Bool.and_eq_true,beq_iff_eq] at hb
          exact hno e he hb.1 hb.2
        · exact h
      · refine .inl ⟨by rw [wanted_same hlook];exact h5,fun w' => ?_⟩
        rw [exec_same hsel hlook];exact h7 w'
      · exact ih fuel _ _ _ _ (by have:=left_set hj0 (hlt j0 hj0) hj0l;omega) (by omega) (hI.next hok hst hj0 hn hj0o hj0l hd0 (Below.refl _ _) h6 (fun h => by rw [h1] at h;cases h))
    · refine ⟨fun h0 => (by rw [h0] at hr0;cases hr0),fun i hi => ?_⟩
      obtain ⟨hun,o,ho,hd⟩:=mem_ready.1 hi
      have hil:i < l.length:=by
        rcases Nat.lt_or_ge i l.length with h | h
        · exact h
        · simp [List.getElem?_eq_none h] at ho
      have hol:l[i]? = some o:=by simpa using ho
      have hun':listed.getD i false = false:=by rw [← getD_flip (by rw [hI.shut.size];simp;exact hil) true false];exact hun
      have hin:i < n:=by
        rcases Nat.lt_or_ge i n with h | h
        · exact h
        · exfalso
          exact hnz fun j hj hx => coverX_listed hI.shut i j o ho hd (hok.tail i h hil j (by omega) hx)
      have hlook:=look_same hn hok hI hin hol hd
      have hs:=hstep i o hin hol u ⟨w,hI.past⟩ (fun j hj hw => hI.facts j hj (waits_listed ho hd hw))
      have hsel:=fun cs b => Region.noSelect_spec hok.sel i o cs b ho
      unfold wpOp
      simp only [ho]
      rw [wanted_same hlook]
      have go:∀ v w',Below w.heap.size w w'→R i v w'→(fr i = true→∃ p,v = .pointer (some ⟨p,0,none⟩)∧w.heap.size≤p∧p < w'.heap.size) →
          wpAny P .any l.toArray Q fuel (listed.setIfInBounds i true) (a.put o.dst v) w':=fun v w' h1 h2 h3 =>
        ih fuel _ _ _ _ (by have:=left_set hin (hlt i hin) hun';omega) (by omega) (hI.next hok hst hin hn hol hun' hd h1 h2 h3)
      split
      · rename_i hwant
        rw [if_pos hwant] at hs
        refine .inl ?_
        unfold Oper.wp
        rw [exec_same hsel hlook]
        exact upon_of_gives hs fun v w' ⟨h1,h2,h3⟩ => go v w' h1 h2 h3
      · rename_i hwant
        rw [if_neg hwant] at hs
        exact go undef w (Below.refl _ _) hs.1 (fun h => by rw [hs.2] at h;cases h)
theorem wp_region_J {id:Nat} {Q:Exit→Act→World→Prop} (n:Nat) (lax:List Nat) (R:Nat→Value→World→Prop) (fr:Nat→Bool) (hm:P.follows .mixedOrders = true) (hn:n≤l.length) (hok:jOk l n lax = true)
    (hst:∀ i v w w',R i v w→Below w.heap.size w w'→R i v w')
    (hstep:∀ (i:Nat) (o:Oper),i < n→l[i]? = some o→JStep P l n a0 w0 R fr i o)
    (hlax:∀ (i:Nat) (o:Oper),i ∈ lax→l[i]? = some o→JLax P l n a0 w0 R fr Q i o)
    (htail:∀ (u:Nat→Value) (x:Past w0),(∀ i,i < n→R i (u i) x.1)→(∀ i j,i < n→j < n→i ≠ j→fr i = true→fr j = true→u i ≠ u j)→wpList P l.toArray Q (l.drop n) (frm (l.take n) u 0 a0) x.1) :
    (Code.region id l.toArray true).wp P Q a0 w0:=by
  have hok':=jOk_spec hok
  refine wp_region_any hm ?_
  have hun:∀ j,(Array.replicate l.toArray.size false).getD j false = false:=fun j => by
    simp only [Array.getD_eq_getD_getElem?,Array.getElem?_replicate];split <;> rfl
  refine prefix_any hn hok' hst hstep hlax htail n l.toArray.size (fun _ => undef) _ a0 _ ?_ (by simp;omega) ?_
  · unfold left
    exact Nat.le_trans (List.length_filter_le _ _) (by simp)
  · have no:∀ (j:Nat) (q:Prop),(Array.replicate l.toArray.size false).getD j false = true→q:=fun j q h => by rw [hun] at h;cases h
    exact {
      shut:=⟨by simp,fun i o _ h => no i _ h⟩
      notail:=fun j _ _ => hun j
      size:=rfl
      defers:=rfl
      mine:=fun j o t _ _ h => no j _ h
      rest:=fun _ _ => rfl
      past:=(Below.refl _ _).drew
      facts:=fun j _ h => no j _ h
      fresh:=fun j _ h => no j _ h
      apart:=fun i j _ _ _ h => no i _ h }
end
def detR (v0:Value):Value→World→Prop:=fun v _ => v = v0
def newR (B:Nat) (cs:Array Value) (t:TypeId):Value→World→Prop:=fun v w => ∃ p,v = .pointer (some ⟨p,0,none⟩)∧B≤p∧Blk w p cs t
def sliR (B n:Nat) (cs:Array Value) (t:TypeId):Value→World→Prop:=fun v w => ∃ p,v = .slice (some ⟨p,0,none⟩) n n∧B≤p∧Blk w p cs t
def Stab (r:Value→World→Prop):Prop:=∀ v w w',r v w→Below w.heap.size w w'→r v w'
theorem stab_det (v0:Value):Stab (detR v0):=fun _ _ _ h _ => h
theorem stab_new (B:Nat) (cs:Array Value) (t:TypeId):Stab (newR B cs t):=fun _ _ _ ⟨p,h1,h2,h3⟩ hb => ⟨p,h1,h2,h3.past hb⟩
theorem stab_sli (B n:Nat) (cs:Array Value) (t:TypeId):Stab (sliR B n cs t):=fun _ _ _ ⟨p,h1,h2,h3⟩ hb => ⟨p,h1,h2,h3.past hb⟩
def nthR (rs:List (Value→World→Prop)) (i:Nat):Value→World→Prop:=rs.getD i (fun _ _ => True)
theorem stab_nth {rs:List (Value→World→Prop)} (h:∀ r ∈ rs,Stab r):∀ i v w w',nthR rs i v w→Below w.heap.size w w'→nthR rs i v w':=by
  intro i v w w' h1 h2
  unfold nthR at *
  rcases Nat.lt_or_ge i rs.length with hl | hl
  · rw [List.getD_eq_getElem?_getD,List.getElem?_eq_getElem hl] at *
    exact h _ (List.getElem_mem hl) v w w' h1 h2
  · rw [List.getD_eq_getElem?_getD,List.getElem?_eq_none hl]
    trivial
end
section
open Go.ChangeShapes Go.WideShapes Go.ChangeAt Go.RowKit
attribute [local irreducible] Go.Calls
attribute [local go_sem] run_store_fnK
theorem min_bd:∀ (ks:List TI) (a B:Int),0≤a→a≤B→(∀ k ∈ ks,0≤k.len∧k.len≤B)→0≤ks.foldl (fun n k => min n k.len) a∧ks.foldl (fun n k => min n k.len) a≤B
  | [],a,B,h0,h1,_ => ⟨h0,h1⟩
  | k :: ks, a, B, h0, h1, h => by
    have:=h k (by simp)
    exact min_bd ks (min a k.len) B (by omega) (by omega) fun q hq => h q (List.mem_cons_of_mem _ hq)
theorem max_bd:∀ (ks:List TI) (a B:Int),0≤a→a≤B→(∀ k ∈ ks,0≤k.len∧k.len≤B)→0≤ks.foldl (fun n k => max n k.len) a∧ks.foldl (fun n k => max n k.len) a≤B
  | [],a,B,h0,h1,_ => ⟨h0,h1⟩
  | k :: ks, a, B, h0, h1, h => by
    have:=h k (by simp)
    exact max_bd ks (max a k.len) B (by omega) (by omega) fun q hq => h q (List.mem_cons_of_mem _ hq)
theorem sumI_from:∀ (ks:List TI) (a:Int),ks.foldl (fun n k => n + k.len) a = a + sumI ks
  | [],a => by simp [sumI]
  | k :: ks, a => by
    have h1:=sumI_from ks (a + k.len)
    have h2:=sumI_from ks (0 + k.len)
    unfold sumI at *
    rw [List.foldl_cons,List.foldl_cons,h1,h2];omega
theorem sumI_cons (k:TI) (ks:List TI):sumI (k :: ks) = k.len + sumI ks:=by
  have:=sumI_from ks (0 + k.len)
  unfold sumI at *
  rw [List.foldl_cons,this];omega
theorem len_bd (W:List Pc):∀ (F:Fst) (o deep ink:Nat),F.fit deep ink→0≤sumI (satF W F o)∧sumI (satF W F o)≤F.size * 4096∧∀ k ∈ satF W F o,0≤k.len∧k.len≤F.size * 4096
  | .nil,o,_,_,_ => ⟨by simp [satF,sumI],by simp [satF,sumI,Fst.size],fun k hk => by cases hk⟩
  | .cons x K N, o, deep, ink, hf => by
    obtain ⟨f1,f2,f3,f4,f5⟩:=hf
    obtain ⟨a1,a2,a3⟩:=len_bd W K (o + 1) _ _ f4
    obtain ⟨b1,b2,b3⟩:=len_bd W N (o + 1 + K.size) _ _ f5
    have hd:=badP_num f1
    have hd1:=hd.2.2.2.1
    have hd2:=hd.2.2.2.2.1
    simp only at hd1 hd2
    have e:((K.size + N.size + 1:Nat):Int) * 4096 = K.size * 4096 + N.size * 4096 + 4096:=by omega
    have hx:0≤(satI W x K o).len∧(satI W x K o).len≤K.size * 4096 + 4096:=by
      unfold satI mkI lenI
      simp only
      have hh:∀ k ∈ satF W K (o + 1),0≤k.len∧k.len≤(K.size:Int) * 4096:=a3
      have hz:0≤(((satF W K (o + 1)).head?.map TI.len).getD 0)∧(((satF W K (o + 1)).head?.map TI.len).getD 0)≤(K.size:Int) * 4096:=by
        cases hq:satF W K (o + 1) with
        | nil => exact ⟨Int.le_refl _,by show (0:Int)≤K.size * 4096;omega⟩
        | cons k r => rw [hq] at hh;exact hh k (by simp)
      split
      · omega
      · split
        · have:=min_bd (satF W K (o + 1)) _ _ hz.1 hz.2 hh
          unfold minI;omega
        · split
          · have:=max_bd (satF W K (o + 1)) _ _ hz.1 hz.2 hh
            unfold maxI;omega
          · omega
    have hx1:=hx.1
    have hx2:=hx.2
    rw [satF_cons,sumI_cons,Fst.size]
    refine ⟨by omega,by rw [e];omega,fun k hk => ?_⟩
    rcases List.mem_cons.1 hk with rfl | hk
    · rw [e];exact ⟨hx1,by omega⟩
    · have:=b3 k hk
      rw [e];exact ⟨this.1,by omega⟩
abbrev put11 (w:World) (p:Nat) (k:TV):World :=
  ((((((((((w.setCell ⟨p,0,none⟩ (.int .u8 k.t.x.kind)).setCell ⟨p,1,none⟩ (.int .u32 k.t.x.n)).setCell ⟨p,2,none⟩ (.int .u32 k.t.x.g)).setCell ⟨p,3,none⟩ (.int .i64 k.t.x.d)).setCell ⟨p,4,none⟩ (.int .i64 k.t.x.kids)).setCell ⟨p,5,none⟩ k.v).setCell ⟨p,6,none⟩ (.int .i64 k.t.len)).setCell ⟨p,7,none⟩ (.bool k.t.se.isSome)).setCell ⟨p,8,none⟩ (.int .i64 (seB k.t.se))).setCell ⟨p,9,none⟩ (.int .i64 (seE k.t.se))).setCell ⟨p,10,none⟩ (.bool k.t.ok)
theorem put11_blk {w:World} {p:Nat} {x:Prt} {v:Value} {n:Int} {s:Se} {b:Bool} {T:TypeId} (h:Blk w p (tiA x v n s b) T) (k:TV):Blk (put11 w p k) p k.arr T:=by
  have h0:=h.set 0 (.int .u8 k.t.x.kind)
  simp only [tiA,List.setIfInBounds_toArray,List.set_cons_zero] at h0
  have h1:=h0.set 1 (.int .u32 k.t.x.n)
  simp only [List.setIfInBounds_toArray,List.set_cons_zero,List.set_cons_succ] at h1
  have h2:=h1.set 2 (.int .u32 k.t.x.g)
  simp only [List.setIfInBounds_toArray,List.set_cons_zero,List.set_cons_succ] at h2
  have h3:=h2.set 3 (.int .i64 k.t.x.d)
  simp only [List.setIfInBounds_toArray,List.set_cons_zero,List.set_cons_succ] at h3
  have h4:=h3.set 4 (.int .i64 k.t.x.kids)
  simp only [List.setIfInBounds_toArray,List.set_cons_zero,List.set_cons_succ] at h4
  have h5:=h4.set 5 k.v
  simp only [List.setIfInBounds_toArray,List.set_cons_zero,List.set_cons_succ] at h5
  have h6:=h5.set 6 (.int .i64 k.t.len)
  simp only [List.setIfInBounds_toArray,List.set_cons_zero,List.set_cons_succ] at h6
  have h7:=h6.set 7 (.bool k.t.se.isSome)
  simp only [List.setIfInBounds_toArray,List.set_cons_zero,List.set_cons_succ] at h7
  have h8:=h7.set 8 (.int .i64 (seB k.t.se))
  simp only [List.setIfInBounds_toArray,List.set_cons_zero,List.set_cons_succ] at h8
  have h9:=h8.set 9 (.int .i64 (seE k.t.se))
  simp only [List.setIfInBounds_toArray,List.set_cons_zero,List.set_cons_succ] at h9
  have h10:=h9.set 10 (.bool k.t.ok)
  simp only [List.setIfInBounds_toArray,List.set_cons_zero,List.set_cons_succ] at h10
  exact h10
theorem put11_grown (w:World) (p:Nat) (k:TV):w.grownBy (put11 w p k) (some p):=by
  refine grown_trans ?_ (grown_set _ p 10 _)
  refine grown_trans ?_ (grown_set _ p 9 _)
  refine grown_trans ?_ (grown_set _ p 8 _)
  refine grown_trans ?_ (grown_set _ p 7 _)
  refine grown_trans ?_ (grown_set _ p 6 _)
  refine grown_trans ?_ (grown_set _ p 5 _)
  refine grown_trans ?_ (grown_set _ p 4 _)
  refine grown_trans ?_ (grown_set _ p 3 _)
  refine grown_trans ?_ (grown_set _ p 2 _)
  refine grown_trans ?_ (grown_set _ p 1 _)
  exact grown_set _ p 0 _
abbrev ti0:Array Value:=#[.int .u8 0,.int .u32 0,.int .u32 0,.int .i64 0,.int .i64 0,.slice none 0 0,.int .i64 0,.bool false,.int .i64 0,.int .i64 0,.bool false]
def p00:Prt:=⟨0,0,0,0,0⟩
set_option maxHeartbeats 4000000 in
set_option maxRecDepth 100000 in
theorem term_0 (l:List Prt) (W:List Pc) (pa wa:Option Addr) (cap wcap:Nat) (y:Prt) (K:Fst) (o deep ink:Nat) (w:World) (hl:l.length≤64) (_ht:(treeS l).2 = 0) (hat:AtF l o (.cons y K .nil)) (hfit:(Fst.cons y K .nil).fit deep ink) (hA:ArgP w pa l) (hW:ArgVs w wa W) (hWl:W.length≤100000) (hPc:PcOk W) (hk:y.kind = 0) :
    Calls Tryz.prog 43 #[witV pa l.length cap wa W.length wcap,.int .i64 o] w (TmPost w (satI W y K o)):=by
  have hol:=hat.lt
  obtain ⟨b,off,rfl,hbb,hc⟩:=hA (by omega)
  have hg0:l.getD o pr0 = { y with kids:=(K.len:Int) }:=by rw [List.getD_eq_getElem?_getD,hat.head];rfl
  have hc0:=hc.get hol
  rw [hg0] at hc0
  obtain ⟨p0,p1,p2,p3,p4⟩:=hc0
  simp only at p0 p1 p2 p3 p4
  have hoz:(o:Int) < (l.length:Int):=by omega
  have HA:=hidE hA;have HW:=hidE hW;have HPC:=hidE hPc;have HAT:=hidE hat;have HFIT:=hidE hfit
  have HBD:=hidE (badP_num hfit.1)
  rw [hk] at p0
  have HKD:=hidE hk
  clear hat hfit hA hW hPc hc hg0 hk
  have i0:∀ w,(Instr.index 143 (.agg kindsV) (.int .u8 0)).run Tryz.prog w = .ok (.agg #[fnV 86,fnV 87]) w:=fun _ => by kernel_rfl
  go_enter Tryz.func43,Tryz.ntmps43
  go_upto_region 2 with fail
  obtain ⟨w1,hw1⟩:∃ w1,w1 = ((w.alloc (.cells #[.slice (some ⟨b,off,none⟩) l.length cap,.slice wa W.length wcap] 100)).alloc (.cells ti0 78)).alloc (.cells #[.int .u8 0,.int .u32 y.n,.int .u32 y.g,.int .i64 y.d,.int .i64 K.len,.slice none 0 0,.int .i64 0,.bool false,.int .i64 0,.int .i64 0,.bool false] 78):=⟨_,rfl⟩
  obtain ⟨p,hp⟩:∃ p,p = w.heap.size + 1 + 1:=⟨_,rfl⟩
  obtain ⟨rb,hr⟩:∃ r,r = w.heap.size + 1:=⟨_,rfl⟩
  rw [← hw1,← hp,← hr]
  have hb1:Below w.heap.size w w1:=by rw [hw1];(repeat (first | exact Below.refl _ _ | assumption | refine balloc ?_ _ | refine below_drewN ?_ _ | refine bstep (by assumption) ?_ | refine bstep (Past.prop _) ?_ | refine Below.setCell ?_ (by first | exact Nat.le_refl _ | (simp;done) | (simp;omega)) _))
  have hs1:w.heap.size < w1.heap.size:=by rw [hw1];simp;omega
  have hwb:Blk w1 w.heap.size #[.slice (some ⟨b,off,none⟩) l.length cap,.slice wa W.length wcap] 100:=by rw [hw1];exact ((Blk.made _ _ _).alloc _).alloc _
  have hrb:Blk w1 rb (tiA p00 (.slice none 0 0) 0 none false) 78:=by rw [hw1,hr];exact (Blk.made_at _ _ _ _ (by simp)).alloc _
  have htb:Blk w1 p (tiA { y with kids:=(K.len:Int) } (.slice none 0 0) 0 none false) 78:=by
    rw [hw1,hp];rw [show ({ y with kids:=(K.len:Int) }:Prt).kind = 0 from HKD.out];exact Blk.made_at _ _ _ _ (by simp)
  have hpw:w.heap.size + 1 < p:=by omega
  have hrw:w.heap.size < rb:=by omega
  have hrp:rb < p:=by omega
  clear hp hr
  have HR1:=hidE hrb;have HT1:=hidE htb;have HB1:=hidE hb1
  have HPL:=hidE (place_c w1 p { y with kids:=(K.len:Int) } (.slice none 0 0) 0 false (some ⟨b,off,none⟩) wa l.length cap wcap o W htb (HW.out.past hb1) (fun h b' off' e => by obtain ⟨b2,off2,e2,h2,_⟩:=HW.out h;rw [e] at e2;cases e2;omega) hWl HPC.out ⟨HBD.out.2.2.2.1,HBD.out.2.2.2.2.1⟩ (by omega))
  have c0:=htb.cell 0;have wz0:=hwb.cell 0;have wz1:=hwb.cell 1;have wz:=hwb.lt;have tz:=htb.lt
  simp at c0 wz0 wz1
  rw [HKD.out] at c0
  clear hw1 hb1 hrb htb hwb p0 p1 p2 p3 p4
  go_wp2_with fail
  ((with_reducible refine HPL.out.mono ?_);rintro e w2 ⟨rfl,hb2,hg2⟩)
  obtain ⟨S,hS⟩:∃ S,placeI W o y.d = S:=⟨_,rfl⟩
  have HSE:=hidE hS
  change Blk w2 p (tiA { y with kids:=(K.len:Int) } (.slice none 0 0) 0 (placeI W o y.d) false) 78 at hb2
  rw [hS] at hb2
  have hsz2:=hg2.size
  have HT:=hidE hb2;have HR:=hidE (HR1.out.grown hg2 (by simp;omega))
  have HB:=hidE (Below.grown HB1.out hg2 HB1.out.size (fun k e => by cases e;omega))
  have HL:=hidE (fun (w':World) (h:Below w2.heap.size w2 w') => itself_c w' p { y with kids:=(K.len:Int) } 0 S false (.slice none 0 0) (HT.out.past h))
  have HQ:=hidE (fun (w':World) (h:Below w2.heap.size w2 w') => isPlaced_c (w'.setCell ⟨p,6,none⟩ (.int .i64 y.d)) p { y with kids:=(K.len:Int) } y.d S false (.slice none 0 0) (tiA_len (HT.out.past h) y.d))
  clear hb2 hg2 HPL c0 wz0 wz1 wz tz HT1 HR1 HB1 hS
  have d0:=HT.out.cell 0;have tz:=HT.out.lt
  simp at d0
  rw [HKD.out] at d0
  go_upto_region 7 with fail
  refine wp_region_J 6 [] (nthR [detR (.agg kindsV),detR (.pointer (some ⟨p,0,none⟩)),detR (.pointer (some ⟨p,0,none⟩)),detR (.int .u8 0),detR (.agg #[.func (.func 86) #[] #[],.func (.func 87) #[] #[]]),newR w2.heap.size #[.nilFunc,.nilFunc] 142]) (fun _ => false) (by kernel_rfl) (by simp) (by kernel_rfl) (stab_nth (by simp [stab_det,stab_new])) ?_ ?_ ?_
  · intro i o hi ho
    match i,hi with
    | 0, _ =>
      obtain rfl:=Option.some.inj ho
      intro u x hd
      have hc:=Past.cell x
      simp [go_sem,gives,frm,Act.put,nthR,detR,Region.wanted]
      exact kinds_c _
    | 1, _ =>
      obtain rfl:=Option.some.inj ho
      intro u x hd
      have hc:=Past.cell x
      simp [go_sem,gives,frm,Act.put,nthR,detR,Region.wanted,Below.refl]
    | 2, _ =>
      obtain rfl:=Option.some.inj ho
      intro u x hd
      have hc:=Past.cell x
      have d1:=hd 1 (by decide) (by kernel_rfl)
      simp only [nthR,detR,List.getD_cons_zero,List.getD_cons_succ] at d1
      simp [go_sem,gives,frm,Act.put,nthR,detR,Region.wanted,Below.refl,d1]
    | 3, _ =>
      obtain rfl:=Option.some.inj ho
      intro u x hd
      have hc:=Past.cell x
      have d2:=hd 2 (by decide) (by kernel_rfl)
      simp only [nthR,detR,List.getD_cons_zero,List.getD_cons_succ] at d2
      simp [go_sem,gives,frm,Act.put,nthR,detR,Region.wanted,Below.refl,hc,d2,d0,tz]
    | 4, _ =>
      obtain rfl:=Option.some.inj ho
      intro u x hd
      have hc:=Past.cell x
      have d0:=hd 0 (by decide) (by kernel_rfl)
      have d3:=hd 3 (by decide) (by kernel_rfl)
      simp only [nthR,detR,List.getD_cons_zero,List.getD_cons_succ] at d0 d3
      simp [go_sem,gives,frm,Act.put,nthR,detR,Region.wanted,Below.refl,d0,d3,i0]
    | 5, _ =>
      obtain rfl:=Option.some.inj ho
      intro u x hd
      have hc:=Past.cell x
      simp [go_sem,gives,nthR,Region.wanted]
      exact ⟨by (repeat (first | exact Below.refl _ _ | assumption | refine balloc ?_ _ | refine below_drewN ?_ _ | refine bstep (by assumption) ?_ | refine bstep (Past.prop _) ?_ | refine Below.setCell ?_ (by first | exact Nat.le_refl _ | (simp;done) | (simp;omega)) _)),⟨_,rfl,by simpa using x.2.size,Blk.made _ _ _⟩⟩
    | i + 6,h => exact absurd h (by omega)
  · intro i o h;cases h
  · intro u x9 hu hne
    have e4:u 4 = .agg #[.func (.func 86) #[] #[],.func (.func 87) #[] #[]]:=hu 4 (by decide)
    obtain ⟨kb,e5,hkz,hkB⟩:newR w2.heap.size #[.nilFunc,.nilFunc] 142 (u 5) x9.1:=hu 5 (by decide)
    simp only [frm,List.take,Act.put,e4,e5]
    have HX9:=hidE x9.2;have HKB:=hidE hkB
    have g0:=hkB.cell 0;have g1:=hkB.cell 1;have gf0:=hkB.free 0;have gf1:=hkB.free 1;have gz:=hkB.lt
    simp at g0 g1
    clear hu hne e4 e5 hkB d0 i0
    generalize x9.1 = w9 at *
    go_upto_region 8 with fail
    obtain ⟨w6,hw6⟩:∃ w6,w6 = (w9.setCell ⟨kb,0,none⟩ (.func (.func 86) #[] #[])).setCell ⟨kb,1,none⟩ (.func (.func 87) #[] #[]):=⟨_,rfl⟩
    rw [← hw6]
    have hk6:Blk w6 kb #[.func (.func 86) #[] #[],.func (.func 87) #[] #[]] 142:=by rw [hw6];simpa using (HKB.out.set 0 (.func (.func 86) #[] #[])).set 1 (.func (.func 87) #[] #[])
    have hb6:Below w2.heap.size w2 w6:=by rw [hw6];exact (HX9.out.setCell (p:=⟨kb,0,none⟩) hkz _).setCell (p:=⟨kb,1,none⟩) hkz _
    have HB6:=hidE hb6;have HK6:=hidE hk6
    have g0:=hk6.cell 0;have g1:=hk6.cell 1;have gz:=hk6.lt
    simp at g0 g1
    clear hw6 HKB gf0 gf1 HX9 hb6 hk6
    go_wp2_with fail
    ((with_reducible refine (HL.out w6 HB6.out).mono ?_);rintro e w7 ⟨rfl,hb7⟩)
    have hb27:Below w2.heap.size w2 w7:=HB6.out.trans (hb7.mono HB6.out.size)
    have hT7:=HT.out.past hb27;have hk7:=HK6.out.past hb7
    have HB7:=hidE hb27;have HK7:=hidE hk7
    have g0:=hk7.cell 0;have g1:=hk7.cell 1;have gz:=hk7.lt;have c6:=hT7.cell 6;have f6:=hT7.free 6;have tz7:=hT7.lt
    simp at g0 g1 c6
    have hkp:¬ kb = p:=by omega
    have hpk:¬ p = kb:=by omega
    clear hb7 hb27 hT7 hk7 HK6 HB6 HL
    go_wp2_with fail
    ((with_reducible refine (HQ.out w7 HB7.out).mono ?_);rintro e w8 ⟨rfl,hb8⟩)
    have hT8:=(tiA_len (HT.out.past HB7.out) (y.d)).past hb8
    have hR8:=((HR.out.past HB7.out).other (by omega) (.int .i64 (y.d))).past hb8
    have HB8:=hidE (show Below w.heap.size w w8 from (HB.out.trans (HB7.out.mono HB.out.size)).setCell (p:=⟨p,6,none⟩) (by show w.heap.size≤p;omega) (.int .i64 (y.d)) |>.trans (hb8.mono (by have:=HB.out.size;have:=HB7.out.size;simp [World.setCell];omega)))
    have HT8:=hidE hT8;have HR8:=hidE hR8;have HW8:=hidE hb8
    have hrp':¬ rb = p:=by omega
    have hpr':¬ p = rb:=by omega
    have q0:=hT8.cell 0;have q1:=hT8.cell 1;have q2:=hT8.cell 2;have q3:=hT8.cell 3;have q4:=hT8.cell 4;have q5:=hT8.cell 5;have q6:=hT8.cell 6;have q7:=hT8.cell 7;have q8:=hT8.cell 8;have q9:=hT8.cell 9;have q10:=hT8.cell 10;have qf:=hT8.free 10;have qz:=hT8.lt
    have r0:=hR8.cell 0;have r1:=hR8.cell 1;have r2:=hR8.cell 2;have r3:=hR8.cell 3;have r4:=hR8.cell 4;have r5:=hR8.cell 5;have r6:=hR8.cell 6;have r7:=hR8.cell 7;have r8:=hR8.cell 8;have r9:=hR8.cell 9;have r10:=hR8.cell 10;have rz:=hR8.lt
    have s0:=hR8.free 0;have s1:=hR8.free 1;have s2:=hR8.free 2;have s3:=hR8.free 3;have s4:=hR8.free 4;have s5:=hR8.free 5;have s6:=hR8.free 6;have s7:=hR8.free 7;have s8:=hR8.free 8;have s9:=hR8.free 9;have s10:=hR8.free 10
    simp at q0 r0 q1 r1 q2 r2 q3 r3 q4 r4 q5 r5 q6 r6 q7 r7 q8 r8 q9 r9 q10 r10
    clear hb8 hT8 hR8 HQ g0 g1 gz c6 f6 tz7 tz HK7
    go_wp2
    have hfin:Blk (put11 (w8.setCell ⟨p,10,none⟩ (.bool (S.isSome))) rb (⟨⟨{ y with kids:=(K.len:Int) },y.d,S,S.isSome⟩,none,0,0⟩:TV)) rb (⟨⟨{ y with kids:=(K.len:Int) },y.d,S,S.isSome⟩,none,0,0⟩:TV).arr 78:=put11_blk (HR8.out.other (by omega) _) (⟨⟨{ y with kids:=(K.len:Int) },y.d,S,S.isSome⟩,none,0,0⟩:TV)
    have HBF:=hidE (show Below w.heap.size w (put11 (w8.setCell ⟨p,10,none⟩ (.bool (S.isSome))) rb (⟨⟨{ y with kids:=(K.len:Int) },y.d,S,S.isSome⟩,none,0,0⟩:TV)) from Below.grown (HB8.out.setCell (p:=⟨p,10,none⟩) (by show w.heap.size≤p;omega) _) (put11_grown _ _ _) (by have:=HB8.out.size;simpa [World.setCell] using this) (fun k e => by cases e;omega))
    have HGF:=hidE (put11_grown (w8.setCell ⟨p,10,none⟩ (.bool (S.isSome))) rb (⟨⟨{ y with kids:=(K.len:Int) },y.d,S,S.isSome⟩,none,0,0⟩:TV))
    have x0:=hfin.cell 0;have x1:=hfin.cell 1;have x2:=hfin.cell 2;have x3:=hfin.cell 3;have x4:=hfin.cell 4;have x5:=hfin.cell 5;have x6:=hfin.cell 6;have x7:=hfin.cell 7;have x8:=hfin.cell 8;have x9:=hfin.cell 9;have x10:=hfin.cell 10
    simp at x0 x1 x2 x3 x4 x5 x6 x7 x8 x9 x10
    change bodyPost _ _ _ _ _ (put11 (w8.setCell ⟨p,10,none⟩ (.bool (S.isSome))) rb (⟨⟨{ y with kids:=(K.len:Int) },y.d,S,S.isSome⟩,none,0,0⟩:TV))
    clear hfin HT8 HR8 HW8 HB8 q0 r0 s0 q1 r1 s1 q2 r2 s2 q3 r3 s3 q4 r4 s4 q5 r5 s5 q6 r6 s6 q7 r7 s7 q8 r8 s8 q9 r9 s9 q10 r10 s10 qf qz rz
    generalize put11 (w8.setCell ⟨p,10,none⟩ (.bool (S.isSome))) rb (⟨⟨{ y with kids:=(K.len:Int) },y.d,S,S.isSome⟩,none,0,0⟩:TV) = wf at *
    exact bodyPost_ret (v := .agg (⟨⟨{ y with kids:=(K.len:Int) },y.d,S,S.isSome⟩,none,0,0⟩:TV).arr) (by simp [results,Tryz.results43,go_sem,x0,x1,x2,x3,x4,x5,x6,x7,x8,x9,x10]) rfl ⟨(⟨⟨{ y with kids:=(K.len:Int) },y.d,S,S.isSome⟩,none,0,0⟩:TV),by unfold satI mkI lenI okI;simp only [HKD.out,if_true,HSE.out],rfl,HBF.out⟩
end
section
open Go.ChangeShapes Go.WideShapes Go.ChangeAt Go.RowKit Go.Shelf
attribute [local irreducible] Go.Calls
attribute [local go_sem] Oper.semAt_some run_store_fnK
structure SatJ (w1:World) (p N:Nat) (x:Prt) (wc:Array Value) (o bw ba:Nat) (pre:List TV) (g:Option (Nat × Nat)) (Wd:World):Prop where
  own:∃ (v:Value) (β:Nat),Blk Wd p (tiA x v 0 (endsI (pre.map TV.t)) false) 78∧Wd.ownsRow β 78 11 v pre.length (cellsT pre)∧N≤β∧β≤Wd.heap.size∧((g = none∧v = .slice none 0 0) ∨ ∃ k,g = some (β,k)∧v.ownBlock = some k)
  wit:Blk Wd bw wc 100
  here:Blk Wd ba #[.int .i64 o] 3
  bel:Below p w1 Wd
section
variable {w1 A B:World} {p N o bw ba:Nat} {x:Prt} {wc:Array Value} {pre:List TV} {g:Option (Nat × Nat)}
theorem SatJ.keep (h:SatJ w1 p N x wc o bw ba pre g A) (hp:p < N) (h1:bw < N) (h2:ba < N) (hb:Below N A B) (hk:∀ b k,g = some (b,k)→B.heap[k]? = A.heap[k]?):SatJ w1 p N x wc o bw ba pre g B:=by
  obtain ⟨v,β,q1,q2,q3,q4,q5⟩:=h.own
  refine ⟨⟨v,β,q1.below hb hp,own_kept q2 (fun k e => ?_),q3,Nat.le_trans q4 hb.size,q5⟩,h.wit.below hb h1,h.here.below hb h2,h.bel.trans (hb.mono (by omega))⟩
  rcases q5 with ⟨_,q⟩ | ⟨k',q,q'⟩
  · rw [q] at e;simp [Value.ownBlock] at e
  · rw [q'] at e;cases e;exact hk _ _ q
theorem SatJ.lies (h:SatJ w1 p N x wc o bw ba pre g A):∀ b k,g = some (b,k)→b≤k∧k < A.heap.size:=by
  obtain ⟨v,β,q1,q2,q3,q4,q5⟩:=h.own
  rintro b k e
  rcases q5 with ⟨q,_⟩ | ⟨k',q,q'⟩
  · rw [q] at e;cases e
  · rw [q] at e;cases e
    exact ⟨own_block q2 q',own_lt q2 q'⟩
theorem SatJ.base (h:SatJ w1 p N x wc o bw ba pre g A) (hN:N≤A.heap.size):∃ (av:Option Addr) (cap γ:Nat),Blk A p (tiA x (.slice av pre.length cap) 0 (endsI (pre.map TV.t)) false) 78∧A.ownsRow γ 78 11 (.slice av pre.length cap) pre.length (cellsT pre)∧N≤γ∧γ≤A.heap.size ∧
    (∀ k,(Value.slice av pre.length cap).ownBlock = some k→g = some (γ,k)∧γ≤k)∧(A.heap.size≤γ ∨ ∃ j,g = some (γ,j)):=by
  obtain ⟨v,β,h1,h3,h4,h5,h6⟩:=h.own
  obtain ⟨a,cap,rfl⟩:=own_sli h3
  rcases h6 with ⟨q,e'⟩ | ⟨k',q,q2⟩
  · have hx:A.ownsRow A.heap.size 78 11 (.slice a pre.length cap) pre.length (cellsT pre):=by
      obtain ⟨q1,q2 | ⟨g',cap',cur,q3,_⟩⟩:=h3
      · exact ⟨q1,.inl q2⟩
      · rw [q3] at e';cases e'
    refine ⟨a,cap,A.heap.size,h1,hx,hN,Nat.le_refl _,fun k hk => ?_,.inl (Nat.le_refl _)⟩
    rw [e'] at hk;simp [Value.ownBlock] at hk
  · exact ⟨a,cap,β,h1,h3,h4,h5,fun k hk => ⟨by rw [q2] at hk;cases hk;exact q,own_block h3 hk⟩,.inr ⟨k',q⟩⟩
theorem SatJ.took {w':World} {av:Option Addr} {cap γ:Nat} {k:TV} {v':Value} {A':World} (h:SatJ w1 p N x wc o bw ba pre g A) (hN:N≤A.heap.size) (hp:p < N) (h1:bw < p ∨ p < bw) (h1N:bw < N) (h2:p < ba) (h2N:ba < N) (hA:Below A.heap.size A A')
    (hi5:∀ k,(Value.slice av pre.length cap).ownBlock = some k→g = some (γ,k)∧γ≤k) (hi6:A.heap.size≤γ ∨ ∃ j,g = some (γ,j)) (hγ:N≤γ) (hγ2:γ≤A.heap.size) (t1:Blk w' p (tiA x v' 0 (jn (endsI (pre.map TV.t)) k.t.se) false) 78) (t2:w'.ownsRow γ 78 11 v' (pre.length + 1) (cellsT pre ++ k.cells)) (t3:Tw p (Value.slice av pre.length cap).ownBlock A' w') :
    ∃ g',SatJ w1 p N x wc o bw ba (pre ++ [k]) g' w'∧Below p A w'∧(∀ j,N≤j→j < A.heap.size→(∀ b,g ≠ some (b,j))→w'.heap[j]? = A.heap[j]?)∧(∀ b j,g' = some (b,j)→A.heap.size≤b ∨ ∃ i,g = some (b,i)):=by
  have hne:v' ≠ .slice none 0 0:=fun e => by
    obtain ⟨g2,cp2,e2,_⟩:=ownP_pos t2
    rw [e] at e2;cases e2
  obtain ⟨k4,hk4⟩:=own_has t2 hne
  have hrow:∀ j,(Value.slice av pre.length cap).ownBlock = some j→γ≤j:=fun j e => (hi5 j e).2
  have hAz:=hA.size
  have T:=t3.from hA
  have hbl:Below p A w':=T.below (by omega) (Nat.le_refl _) fun j e => by have:=hrow j e;omega
  refine ⟨some (γ,k4),⟨⟨v',γ, ?_, ?_,hγ,by have:=T.size;omega,.inr ⟨k4,rfl,hk4⟩⟩,T.blk h.wit (by omega) (fun e => by have:=hrow _ e.symm;omega),T.blk h.here (by omega) (fun e => by have:=hrow _ e.symm;omega),h.bel.trans hbl⟩,hbl,fun j a b c => ?_,fun b j e => ?_⟩
  · rw [List.map_append,List.map_cons,List.map_nil,endsI_snoc];exact t1
  · rw [List.length_append,cellsT_snoc];exact t2
  · exact T.block j b (by omega) (fun e => c _ (hi5 j e.symm).1)
  · cases e;exact hi6
end
end
section
open Go.ChangeShapes Go.WideShapes Go.ChangeAt Go.RowKit Go.Shelf
attribute [local irreducible] Go.Calls
attribute [local go_sem] Oper.semAt_some run_store_fnK
set_option maxHeartbeats 8000000 in
set_option maxRecDepth 100000 in
theorem term_1 (l:List Prt) (W:List Pc) (pa wa:Option Addr) (cap wcap:Nat) (y:Prt) (K:Fst) (o deep ink:Nat) (w:World) (hl:l.length≤64) (ht:(treeS l).2 = 0) (hat:AtF l o (.cons y K .nil)) (hfit:(Fst.cons y K .nil).fit deep ink) (hA:ArgP w pa l) (hW:ArgVs w wa W) (_hWl:W.length≤100000) (hPc:PcOk W) (hk:y.kind = 1) (IH:∀ (x:Prt) (Kx:Fst) (oo deep ink:Nat) (w:World),Kx.size < K.size→AtF l oo (.cons x Kx .nil)→(Fst.cons x Kx .nil).fit deep ink→ArgP w pa l→ArgVs w wa W→Calls Tryz.prog 43 #[witV pa l.length cap wa W.length wcap,.int .i64 oo] w (TmPost w (satI W x Kx oo))) :
    Calls Tryz.prog 43 #[witV pa l.length cap wa W.length wcap,.int .i64 o] w (TmPost w (satI W y K o)):=by
  have hol:=hat.lt
  obtain ⟨b,off,rfl,hbb,hc⟩:=hA (by omega)
  have hg0:l.getD o pr0 = { y with kids:=(K.len:Int) }:=by rw [List.getD_eq_getElem?_getD,hat.head];rfl
  have hc0:=hc.get hol
  rw [hg0] at hc0
  obtain ⟨p0,p1,p2,p3,p4⟩:=hc0
  simp only at p0 p1 p2 p3 p4
  have hoz:(o:Int) < (l.length:Int):=by omega
  have HA:=hidE hA;have HW:=hidE hW;have HPC:=hidE hPc;have HAT:=hidE hat;have HFIT:=hidE hfit
  have HBD:=hidE (badP_num hfit.1)
  rw [hk] at p0
  have HKD:=hidE hk
  have hK0:0 < K.len:=by have:=(badP_kids hfit.1).2 (by omega);omega
  have hK16:K.len≤16:=by have:=(badP_kids hfit.1).2 (by omega);omega
  have hKs:K.size≤64:=by
    have:=hat.1 K.size (by simp only [Fst.size];omega)
    have h2:((Fst.cons y K .nil).flat)[K.size]? ≠ none:=by rw [ne_eq,List.getElem?_eq_none_iff,flat_len];simp only [Fst.size];omega
    rw [← this] at h2
    have:=(List.getElem?_eq_some_iff.1 (Option.ne_none_iff_exists'.1 h2).choose_spec).1
    omega
  have HLB:=hidE (len_bd W K (o + 1) _ _ hfit.2.2.2.1)
  have HSEQ:=hidE (fun bw ba n0 w' => satkids_it l W (some ⟨b,off,none⟩) wa cap wcap bw ba n0 y K o deep ink w' hl ht hat hfit hK0 IH)
  clear hat hfit hA hW hPc hc hg0 hk ht IH
  have i0:∀ w,(Instr.index 143 (.agg kindsV) (.int .u8 1)).run Tryz.prog w = .ok (.agg #[fnV 88,fnV 89]) w:=fun _ => by kernel_rfl
  refine (callsIn_wide (n:=0)).1 (callsIn_of_wp_marks Tryz.func43 rfl trivial ((wpIn_wide (n:=0)).2 ?_))
  simp only [Tryz.ntmps43,List.size_toArray,List.length_cons,List.length_nil,Nat.reduceAdd,Nat.reduceSub,Array.replicate_succ,Array.replicate_zero,List.push_toArray,List.append_toArray,List.nil_append,List.cons_append]
  go_upto_region 2 with fail
  obtain ⟨w1,hw1⟩:∃ w1,w1 = ((w.alloc (.cells #[.slice (some ⟨b,off,none⟩) l.length cap,.slice wa W.length wcap] 100)).alloc (.cells ti0 78)).alloc (.cells #[.int .u8 1,.int .u32 y.n,.int .u32 y.g,.int .i64 y.d,.int .i64 K.len,.slice none 0 0,.int .i64 0,.bool false,.int .i64 0,.int .i64 0,.bool false] 78):=⟨_,rfl⟩
  obtain ⟨p,hp⟩:∃ p,p = w.heap.size + 1 + 1:=⟨_,rfl⟩
  obtain ⟨rb,hr⟩:∃ r,r = w.heap.size + 1:=⟨_,rfl⟩
  rw [← hw1,← hp,← hr]
  have hb1:Below w.heap.size w w1:=by rw [hw1];(repeat (first | exact Below.refl _ _ | assumption | refine balloc ?_ _ | refine below_drewN ?_ _ | refine bstep (by assumption) ?_ | refine bstep (Past.prop _) ?_ | refine Below.setCell ?_ (by first | exact Nat.le_refl _ | (simp;done) | (simp;omega)) _))
  have hs1:w.heap.size < w1.heap.size:=by rw [hw1];simp;omega
  have hwb:Blk w1 w.heap.size #[.slice (some ⟨b,off,none⟩) l.length cap,.slice wa W.length wcap] 100:=by rw [hw1];exact ((Blk.made _ _ _).alloc _).alloc _
  have hrb:Blk w1 rb (tiA p00 (.slice none 0 0) 0 none false) 78:=by rw [hw1,hr];exact (Blk.made_at _ _ _ _ (by simp)).alloc _
  have htb:Blk w1 p (tiA { y with kids:=(K.len:Int) } (.slice none 0 0) 0 none false) 78:=by
    rw [hw1,hp];rw [show ({ y with kids:=(K.len:Int) }:Prt).kind = 1 from HKD.out];exact Blk.made_at _ _ _ _ (by simp)
  have hpw:w.heap.size + 1 < p:=by omega
  have hrw:w.heap.size < rb:=by omega
  have hrp:rb < p:=by omega
  clear hp hr
  have HR1:=hidE hrb;have HT1:=hidE htb;have HB1:=hidE hb1
  have c0:=htb.cell 0;have wz0:=hwb.cell 0;have wz1:=hwb.cell 1;have wz:=hwb.lt;have tz:=htb.lt
  simp at c0 wz0 wz1
  rw [HKD.out] at c0
  have hpz1:=htb.lt
  clear hw1 hb1 hrb htb hwb p0 p1 p2 p3 p4
  go_wp2_with fail
  ((with_reducible refine (wchildren_c _ _ _ _ _ _ _ _).mono ?_);rintro e w3 ⟨rfl,hbw,hba,hb3⟩)
  have hz3:=hba.lt
  have hs3:=hb3.size
  have hJ0:SatJ w1 p w3.heap.size { y with kids:=(K.len:Int) } #[.slice (some ⟨b,off,none⟩) l.length cap,.slice wa W.length wcap] o w1.heap.size (w1.heap.size + 1) [] none w3 :=
    ⟨⟨.slice none 0 0,w3.heap.size,HT1.out.past hb3,own_nil _ _ _,Nat.le_refl _,Nat.le_refl _,.inl ⟨rfl,rfl⟩⟩,hbw,hba,hb3.mono (by omega)⟩
  have HJ0:=hidE hJ0
  have HB3:=hidE hb3
  clear hbw hba hb3 c0 wz0 wz1 wz tz hJ0
  go_wp2
  refine wp_rangeFunc_V (n₀:=p) (S:=satF W K (o + 1)) (key:=TV.t) (encs:=encTm) rfl (enters_of Tryz.func85 (by kernel_rfl) rfl) (by omega) (HSEQ.out w1.heap.size (w1.heap.size + 1) p w3) (fun _ => rfl)
    (SatJ w1 p w3.heap.size { y with kids:=(K.len:Int) } #[.slice (some ⟨b,off,none⟩) l.length cap,.slice wa W.length wcap] o w1.heap.size (w1.heap.size + 1)) (fun s g A B h hb hk => h.keep (by omega) (by omega) (by omega) hb hk) (fun s g A h => h.lies)
    (fun s g A h => ⟨h.wit,h.here,HA.out.past (HB1.out.trans (h.bel.mono (by omega))),HW.out.past (HB1.out.trans (h.bel.mono (by omega)))⟩) HJ0.out
    (fun _ _ => False) (fun s A B h hb => h)
    (fun k a1 W => ∃ (kb:Nat) (u0 u1 u2 u3 u4 u7 u8 u9 u10 u11 u12 u13 u14 u15 u16 u17 u18 u19 u20 u21 u22 u23 u24 u25 u26 u27 u28 u29 u30 u31 u32 u33 u34 u35 u36 u37 u38 u39 u40:Value),Blk W kb k.arr 78∧a1 = { tmps:=#[u0,u1,u2,u3,u4,.pointer (some ⟨p,0,none⟩),.pointer (some ⟨kb,0,none⟩),u7,u8,u9,u10,u11,u12,u13,u14,u15,u16,u17,u18,u19,u20,u21,u22,u23,u24,u25,u26,u27,u28,u29,u30,u31,u32,u33,u34,u35,u36,u37,u38,u39,u40],defers:=[] })
    ?hax ?assign ?body ?done ?stop
  case hax =>
    rintro k a1 A l2 r o2 ⟨kb,u0,u1,u2,u3,u4,u7,u8,u9,u10,u11,u12,u13,u14,u15,u16,u17,u18,u19,u20,u21,u22,u23,u24,u25,u26,u27,u28,u29,u30,u31,u32,u33,u34,u35,u36,u37,u38,u39,u40,h2,h3⟩ hlr
    refine ⟨kb,_,_,_,_,_,_,_,_,_,_,_,_,_,_,_,_,_,_,_,_,_,_,_,_,_,_,_,_,_,_,_,_,_,_,_,_,_,_,_, ?_,h3⟩
    exact (World.putObj_heap_other (fun e => by unfold Blk at h2;rw [← e,h2] at hlr;cases hlr)).trans h2
  case assign =>
    intro l2 pre k g W2 K' hsz hi hK
    dsimp only [encTm]
    gi_wp2
    exact hK _ _ ((Below.refl _ _).alloc (Nat.le_refl _) _) (hi.keep (by omega) (by omega) (by omega) (((Below.refl _ _).alloc (Nat.le_refl _) _).mono hsz) (fun b k e => keptA (hi.lies b k e).2 _)) ⟨W2.heap.size,_,_,_,_,_,_,_,_,_,_,_,_,_,_,_,_,_,_,_,_,_,_,_,_,_,_,_,_,_,_,_,_,_,_,_,_,_,_,_,Blk.made _ _ _,rfl⟩
  case body =>
    rintro l2 pre k g a1 W2 hsz hi ⟨kb,u0,u1,u2,u3,u4,u7,u8,u9,u10,u11,u12,u13,u14,u15,u16,u17,u18,u19,u20,u21,u22,u23,u24,u25,u26,u27,u28,u29,u30,u31,u32,u33,u34,u35,u36,u37,u38,u39,u40,hkb,rfl⟩ hpre
    have hlen:pre.length < 17:=by
      have:=hpre.length_le
      rw [satF_len] at this
      simp only [List.length_map,List.length_append,List.length_cons,List.length_nil] at this
      omega
    obtain ⟨av,cp,γ,i1,i2,i3,i4,i5,i6⟩:=hi.base hsz
    have HTK:=hidE (take_c γ p { y with kids:=(K.len:Int) } (.slice av pre.length cp) (endsI (pre.map TV.t)) pre k W2 i1 i2 (by omega) i4 (by omega))
    have HI:=hidE hi;have HI5:=hidE i5;have HI6:=hidE i6
    have k0:=hkb.cell 0;have k1:=hkb.cell 1;have k2:=hkb.cell 2;have k3:=hkb.cell 3;have k4:=hkb.cell 4;have k5:=hkb.cell 5;have k6:=hkb.cell 6;have k7:=hkb.cell 7;have k8:=hkb.cell 8;have k9:=hkb.cell 9;have k10:=hkb.cell 10;have kz:=hkb.lt
    simp at k0 k1 k2 k3 k4 k5 k6 k7 k8 k9 k10
    clear hpre hi hkb i1 i2 i5 i6
    gi_wp2_with fail
    refine ⟨trivial,rfl,(CallsIn.inRound l2 (callsIn_wide.2 HTK.out)).mono ?_⟩
    rintro e w' ⟨rfl,v',t1,t2,t3, -⟩
    have T1:=hidE t1;have T2:=hidE t2;have T3:=hidE t3
    clear t1 t2 t3 k0 k1 k2 k3 k4 k5 k6 k7 k8 k9 k10 kz HTK
    gi_wp2
    exact HI.out.took hsz (by omega) (by omega) (by omega) (by omega) (by omega) (Below.refl _ _) HI5.out HI6.out i3 i4 T1.out T2.out T3.out
  case done =>
    rintro D full g Wd hD hfull hi hgd hK
    subst hD
    have hDz:w3.heap.size < Wd.heap.size:=(Array.getElem?_eq_some_iff.1 hK).1
    obtain ⟨av,cp,γ,i1,i2,i3,i4,i5,i6⟩:=hi.base (by omega)
    have hfl:full.length = K.len:=by
      have:=congrArg List.length hfull
      rwa [List.length_map,satF_len] at this
    have HFL:=hidE hfl
    have hka:=kidsAt_own i1 i2 (m:=K.len - 1) (by omega) (by omega)
    obtain ⟨gq,cq,eq1,_⟩:=ownP_pos (n:=K.len - 1) (by rw [show K.len - 1 + 1 = full.length by omega];exact i2)
    simp only [Value.slice.injEq] at eq1
    obtain ⟨eq2,eqm,eq3⟩:=eq1
    clear eqm
    subst eq2 eq3
    rw [hfull] at i1 hka
    obtain ⟨S,hS⟩:∃ S,endsI (satF W K (o + 1)) = S:=⟨_,rfl⟩
    rw [hS] at i1 hka
    have HSE:=hidE hS
    have HKA:=hidE hka;have HFU:=hidE hfull
    have HLO:=hidE (show LenOk 1099511627776 full from fun t ht => by
      have:=HLB.out.2.2 t.t (by rw [← HFU.out];exact List.mem_map_of_mem ht)
      omega)
    have HT:=hidE i1;have HR:=hidE (HR1.out.below hi.bel hrp);have HB:=hidE (HB1.out.trans (hi.bel.mono (by omega)))
    have HL:=hidE (fun (w':World) (h:Below Wd.heap.size Wd w') => by
      have:=total_c w' p { y with kids:=(K.len:Int) } 0 S false full (HKA.out.past h) (by rw [HFL.out];omega) HLO.out
      rw [HFU.out] at this
      exact this)
    have HQ:=hidE (fun (w':World) (h:Below Wd.heap.size Wd w') => by
      have:=isOrder_c (w'.setCell ⟨p,6,none⟩ (.int .i64 (sumI (satF W K (o + 1))))) p { y with kids:=(K.len:Int) } (sumI (satF W K (o + 1))) S false full ((HKA.out.past h).len (sumI (satF W K (o + 1)))) (by rw [HFL.out];omega) (by rw [HFL.out];omega)
      rw [HFU.out] at this
      exact this)
    have HD:=hidE hK
    clear i1 i2 i5 i6 hka hfull hi hgd hK hS hfl HKA HFU HLO HFL HR1 HT1 HJ0 HSEQ
    have d0:=HT.out.cell 0;have tz:=HT.out.lt
    simp at d0
    rw [HKD.out] at d0
    go_upto_region 7 with fail
    refine wp_region_J 6 [] (nthR [detR (.agg kindsV),detR (.pointer (some ⟨p,0,none⟩)),detR (.pointer (some ⟨p,0,none⟩)),detR (.int .u8 1),detR (.agg #[.func (.func 88) #[] #[],.func (.func 89) #[] #[]]),newR Wd.heap.size #[.nilFunc,.nilFunc] 142]) (fun _ => false) (by kernel_rfl) (by simp) (by kernel_rfl) (stab_nth (by simp [stab_det,stab_new])) ?_ ?_ ?_
    · intro i o hi ho
      match i,hi with
      | 0, _ =>
        obtain rfl:=Option.some.inj ho
        intro u x hd
        have hc:=Past.cell x
        simp [go_sem,gives,frm,Act.put,nthR,detR,Region.wanted]
        exact kinds_c _
      | 1, _ =>
        obtain rfl:=Option.some.inj ho
        intro u x hd
        have hc:=Past.cell x
        simp [go_sem,gives,frm,Act.put,nthR,detR,Region.wanted,Below.refl]
      | 2, _ =>
        obtain rfl:=Option.some.inj ho
        intro u x hd
        have hc:=Past.cell x
        have d1:=hd 1 (by decide) (by kernel_rfl)
        simp only [nthR,detR,List.getD_cons_zero,List.getD_cons_succ] at d1
        simp [go_sem,gives,frm,Act.put,nthR,detR,Region.wanted,Below.refl,d1]
      | 3, _ =>
        obtain rfl:=Option.some.inj ho
        intro u x hd
        have hc:=Past.cell x
        have d2:=hd 2 (by decide) (by kernel_rfl)
        simp only [nthR,detR,List.getD_cons_zero,List.getD_cons_succ] at d2
        simp [go_sem,gives,frm,Act.put,nthR,detR,Region.wanted,Below.refl,hc,d2,d0,tz]
      | 4, _ =>
        obtain rfl:=Option.some.inj ho
        intro u x hd
        have hc:=Past.cell x
        have d0:=hd 0 (by decide) (by kernel_rfl)
        have d3:=hd 3 (by decide) (by kernel_rfl)
        simp only [nthR,detR,List.getD_cons_zero,List.getD_cons_succ] at d0 d3
        simp [go_sem,gives,frm,Act.put,nthR,detR,Region.wanted,Below.refl,d0,d3,i0]
      | 5, _ =>
        obtain rfl:=Option.some.inj ho
        intro u x hd
        have hc:=Past.cell x
        simp [go_sem,gives,nthR,Region.wanted]
        exact ⟨by (repeat (first | exact Below.refl _ _ | assumption | refine balloc ?_ _ | refine below_drewN ?_ _ | refine bstep (by assumption) ?_ | refine bstep (Past.prop _) ?_ | refine Below.setCell ?_ (by first | exact Nat.le_refl _ | (simp;done) | (simp;omega)) _)),⟨_,rfl,by simpa using x.2.size,Blk.made _ _ _⟩⟩
      | i + 6,h => exact absurd h (by omega)
    · intro i o h;cases h
    · intro u x9 hu hne
      have e4:u 4 = .agg #[.func (.func 88) #[] #[],.func (.func 89) #[] #[]]:=hu 4 (by decide)
      obtain ⟨kb,e5,hkz,hkB⟩:newR Wd.heap.size #[.nilFunc,.nilFunc] 142 (u 5) x9.1:=hu 5 (by decide)
      simp only [frm,List.take,Act.put,e4,e5]
      have HX9:=hidE x9.2;have HKB:=hidE hkB
      have g0:=hkB.cell 0;have g1:=hkB.cell 1;have gf0:=hkB.free 0;have gf1:=hkB.free 1;have gz:=hkB.lt
      simp at g0 g1
      clear hu hne e4 e5 hkB d0 i0
      generalize x9.1 = w9 at *
      go_upto_region 8 with fail
      obtain ⟨w6,hw6⟩:∃ w6,w6 = (w9.setCell ⟨kb,0,none⟩ (.func (.func 88) #[] #[])).setCell ⟨kb,1,none⟩ (.func (.func 89) #[] #[]):=⟨_,rfl⟩
      rw [← hw6]
      have hk6:Blk w6 kb #[.func (.func 88) #[] #[],.func (.func 89) #[] #[]] 142:=by rw [hw6];simpa using (HKB.out.set 0 (.func (.func 88) #[] #[])).set 1 (.func (.func 89) #[] #[])
      have hb6:Below Wd.heap.size Wd w6:=by rw [hw6];exact (HX9.out.setCell (p:=⟨kb,0,none⟩) hkz _).setCell (p:=⟨kb,1,none⟩) hkz _
      have HB6:=hidE hb6;have HK6:=hidE hk6
      have g0:=hk6.cell 0;have g1:=hk6.cell 1;have gz:=hk6.lt
      simp at g0 g1
      clear hw6 HKB gf0 gf1 HX9 hb6 hk6
      go_wp2_with fail
      ((with_reducible refine (HL.out w6 HB6.out).mono ?_);rintro e w7 ⟨rfl,hb7⟩)
      have hb27:Below Wd.heap.size Wd w7:=HB6.out.trans (hb7.mono HB6.out.size)
      have hT7:=HT.out.past hb27;have hk7:=HK6.out.past hb7
      have HB7:=hidE hb27;have HK7:=hidE hk7
      have g0:=hk7.cell 0;have g1:=hk7.cell 1;have gz:=hk7.lt;have c6:=hT7.cell 6;have f6:=hT7.free 6;have tz7:=hT7.lt
      simp at g0 g1 c6
      have hkp:¬ kb = p:=by omega
      have hpk:¬ p = kb:=by omega
      clear hb7 hb27 hT7 hk7 HK6 HB6 HL
      go_wp2_with fail
      ((with_reducible refine (HQ.out w7 HB7.out).mono ?_);rintro e w8 ⟨rfl,hb8⟩)
      have hT8:=(tiA_len (HT.out.past HB7.out) (sumI (satF W K (o + 1)))).past hb8
      have hR8:=((HR.out.past HB7.out).other (by omega) (.int .i64 (sumI (satF W K (o + 1))))).past hb8
      have HB8:=hidE (show Below w.heap.size w w8 from (HB.out.trans (HB7.out.mono HB.out.size)).setCell (p:=⟨p,6,none⟩) (by show w.heap.size≤p;omega) (.int .i64 (sumI (satF W K (o + 1)))) |>.trans (hb8.mono (by have:=HB.out.size;have:=HB7.out.size;simp [World.setCell];omega)))
      have HT8:=hidE hT8;have HR8:=hidE hR8;have HW8:=hidE hb8
      have hrp':¬ rb = p:=by omega
      have hpr':¬ p = rb:=by omega
      have q0:=hT8.cell 0;have q1:=hT8.cell 1;have q2:=hT8.cell 2;have q3:=hT8.cell 3;have q4:=hT8.cell 4;have q5:=hT8.cell 5;have q6:=hT8.cell 6;have q7:=hT8.cell 7;have q8:=hT8.cell 8;have q9:=hT8.cell 9;have q10:=hT8.cell 10;have qf:=hT8.free 10;have qz:=hT8.lt
      have r0:=hR8.cell 0;have r1:=hR8.cell 1;have r2:=hR8.cell 2;have r3:=hR8.cell 3;have r4:=hR8.cell 4;have r5:=hR8.cell 5;have r6:=hR8.cell 6;have r7:=hR8.cell 7;have r8:=hR8.cell 8;have r9:=hR8.cell 9;have r10:=hR8.cell 10;have rz:=hR8.lt
      have s0:=hR8.free 0;have s1:=hR8.free 1;have s2:=hR8.free 2;have s3:=hR8.free 3;have s4:=hR8.free 4;have s5:=hR8.free 5;have s6:=hR8.free 6;have s7:=hR8.free 7;have s8:=hR8.free 8;have s9:=hR8.free 9;have s10:=hR8.free 10
      simp at q0 r0 q1 r1 q2 r2 q3 r3 q4 r4 q5 r5 q6 r6 q7 r7 q8 r8 q9 r9 q10 r10
      clear hb8 hT8 hR8 HQ g0 g1 gz c6 f6 tz7 tz HK7
      go_wp2
      have hfin:Blk (put11 (w8.setCell ⟨p,10,none⟩ (.bool (adjI (fun e b => decide (e≤b)) (satF W K (o + 1)) && allI (satF W K (o + 1))))) rb (⟨⟨{ y with kids:=(K.len:Int) },sumI (satF W K (o + 1)),S,adjI (fun e b => decide (e≤b)) (satF W K (o + 1)) && allI (satF W K (o + 1))⟩,(some ⟨gq,0,none⟩),full.length,cp⟩:TV)) rb (⟨⟨{ y with kids:=(K.len:Int) },sumI (satF W K (o + 1)),S,adjI (fun e b => decide (e≤b)) (satF W K (o + 1)) && allI (satF W K (o + 1))⟩,(some ⟨gq,0,none⟩),full.length,cp⟩:TV).arr 78:=put11_blk (HR8.out.other (by omega) _) (⟨⟨{ y with kids:=(K.len:Int) },sumI (satF W K (o + 1)),S,adjI (fun e b => decide (e≤b)) (satF W K (o + 1)) && allI (satF W K (o + 1))⟩,(some ⟨gq,0,none⟩),full.length,cp⟩:TV)
      have HBF:=hidE (show Below w.heap.size w (put11 (w8.setCell ⟨p,10,none⟩ (.bool (adjI (fun e b => decide (e≤b)) (satF W K (o + 1)) && allI (satF W K (o + 1))))) rb (⟨⟨{ y with kids:=(K.len:Int) },sumI (satF W K (o + 1)),S,adjI (fun e b => decide (e≤b)) (satF W K (o + 1)) && allI (satF W K (o + 1))⟩,(some ⟨gq,0,none⟩),full.length,cp⟩:TV)) from Below.grown (HB8.out.setCell (p:=⟨p,10,none⟩) (by show w.heap.size≤p;omega) _) (put11_grown _ _ _) (by have:=HB8.out.size;simpa [World.setCell] using this) (fun k e => by cases e;omega))
      have HGF:=hidE (put11_grown (w8.setCell ⟨p,10,none⟩ (.bool (adjI (fun e b => decide (e≤b)) (satF W K (o + 1)) && allI (satF W K (o + 1))))) rb (⟨⟨{ y with kids:=(K.len:Int) },sumI (satF W K (o + 1)),S,adjI (fun e b => decide (e≤b)) (satF W K (o + 1)) && allI (satF W K (o + 1))⟩,(some ⟨gq,0,none⟩),full.length,cp⟩:TV))
      have x0:=hfin.cell 0;have x1:=hfin.cell 1;have x2:=hfin.cell 2;have x3:=hfin.cell 3;have x4:=hfin.cell 4;have x5:=hfin.cell 5;have x6:=hfin.cell 6;have x7:=hfin.cell 7;have x8:=hfin.cell 8;have x9:=hfin.cell 9;have x10:=hfin.cell 10
      simp at x0 x1 x2 x3 x4 x5 x6 x7 x8 x9 x10
      have z7:=HB7.out.size
      have z8:=HW8.out.size
      simp [World.setCell] at z8
      have HKF:=hidE (show (put11 (w8.setCell ⟨p,10,none⟩ (.bool (adjI (fun e b => decide (e≤b)) (satF W K (o + 1)) && allI (satF W K (o + 1))))) rb (⟨⟨{ y with kids:=(K.len:Int) },sumI (satF W K (o + 1)),S,adjI (fun e b => decide (e≤b)) (satF W K (o + 1)) && allI (satF W K (o + 1))⟩,(some ⟨gq,0,none⟩),full.length,cp⟩:TV)).heap[w3.heap.size]? = some (.deferred (some [])) from by
        rw [HGF.out.block w3.heap.size (by simp [World.setCell];omega) (by simp;omega),keptS (by omega),HW8.out.block w3.heap.size (by simp [World.setCell];omega),keptS (by omega),HB7.out.block w3.heap.size hDz];exact HD.out)
      change bodyPostM _ _ _ _ _ _ _ (put11 (w8.setCell ⟨p,10,none⟩ (.bool (adjI (fun e b => decide (e≤b)) (satF W K (o + 1)) && allI (satF W K (o + 1))))) rb (⟨⟨{ y with kids:=(K.len:Int) },sumI (satF W K (o + 1)),S,adjI (fun e b => decide (e≤b)) (satF W K (o + 1)) && allI (satF W K (o + 1))⟩,(some ⟨gq,0,none⟩),full.length,cp⟩:TV))
      clear HT8 HR8 HW8 HB8 q0 r0 s0 q1 r1 s1 q2 r2 s2 q3 r3 s3 q4 r4 s4 q5 r5 s5 q6 r6 s6 q7 r7 s7 q8 r8 s8 q9 r9 s9 q10 r10 s10 qf qz rz
      generalize put11 (w8.setCell ⟨p,10,none⟩ (.bool (adjI (fun e b => decide (e≤b)) (satF W K (o + 1)) && allI (satF W K (o + 1))))) rb (⟨⟨{ y with kids:=(K.len:Int) },sumI (satF W K (o + 1)),S,adjI (fun e b => decide (e≤b)) (satF W K (o + 1)) && allI (satF W K (o + 1))⟩,(some ⟨gq,0,none⟩),full.length,cp⟩:TV) = wf at *
      have hfin2:Blk (wf.putObj w3.heap.size (.deferred none)) rb (⟨⟨{ y with kids:=(K.len:Int) },sumI (satF W K (o + 1)),S,adjI (fun e b => decide (e≤b)) (satF W K (o + 1)) && allI (satF W K (o + 1))⟩,(some ⟨gq,0,none⟩),full.length,cp⟩:TV).arr 78:=(World.putObj_heap_other (by omega)).trans hfin
      clear hfin
      have x0:=hfin2.cell 0;have x1:=hfin2.cell 1;have x2:=hfin2.cell 2;have x3:=hfin2.cell 3;have x4:=hfin2.cell 4;have x5:=hfin2.cell 5;have x6:=hfin2.cell 6;have x7:=hfin2.cell 7;have x8:=hfin2.cell 8;have x9:=hfin2.cell 9;have x10:=hfin2.cell 10
      simp at x0 x1 x2 x3 x4 x5 x6 x7 x8 x9 x10
      clear hfin2
      refine ⟨by simp,.inl ⟨_,_,rfl,run_takeDeferred HKF.out, ?_⟩⟩
      refine ⟨.agg (⟨⟨{ y with kids:=(K.len:Int) },sumI (satF W K (o + 1)),S,adjI (fun e b => decide (e≤b)) (satF W K (o + 1)) && allI (satF W K (o + 1))⟩,(some ⟨gq,0,none⟩),full.length,cp⟩:TV).arr,by simp [results,Tryz.results43,go_sem,x0,x1,x2,x3,x4,x5,x6,x7,x8,x9,x10], ?_⟩
      refine ⟨(⟨⟨{ y with kids:=(K.len:Int) },sumI (satF W K (o + 1)),S,adjI (fun e b => decide (e≤b)) (satF W K (o + 1)) && allI (satF W K (o + 1))⟩,(some ⟨gq,0,none⟩),full.length,cp⟩:TV), ?_,rfl,HBF.out.trans (below_putObj _ _ _ (by omega))⟩
      unfold satI mkI lenI okI
      simp only [HKD.out,HSE.out]
      simp
  case stop =>
    rintro D pre W2 hD hpre h hK
    exact h.elim
end
section
open Go.ChangeShapes Go.WideShapes Go.ChangeAt Go.RowKit Go.Shelf
attribute [local irreducible] Go.Calls
attribute [local go_sem] Oper.semAt_some run_store_fnK
set_option maxHeartbeats 8000000 in
set_option maxRecDepth 100000 in
theorem term_2 (l:List Prt) (W:List Pc) (pa wa:Option Addr) (cap wcap:Nat) (y:Prt) (K:Fst) (o deep ink:Nat) (w:World) (hl:l.length≤64) (ht:(treeS l).2 = 0) (hat:AtF l o (.cons y K .nil)) (hfit:(Fst.cons y K .nil).fit deep ink) (hA:ArgP w pa l) (hW:ArgVs w wa W) (_hWl:W.length≤100000) (hPc:PcOk W) (hk:y.kind = 2) (IH:∀ (x:Prt) (Kx:Fst) (oo deep ink:Nat) (w:World),Kx.size < K.size→AtF l oo (.cons x Kx .nil)→(Fst.cons x Kx .nil).fit deep ink→ArgP w pa l→ArgVs w wa W→Calls Tryz.prog 43 #[witV pa l.length cap wa W.length wcap,.int .i64 oo] w (TmPost w (satI W x Kx oo))) :
    Calls Tryz.prog 43 #[witV pa l.length cap wa W.length wcap,.int .i64 o] w (TmPost w (satI W y K o)):=by
  have hol:=hat.lt
  obtain ⟨b,off,rfl,hbb,hc⟩:=hA (by omega)
  have hg0:l.getD o pr0 = { y with kids:=(K.len:Int) }:=by rw [List.getD_eq_getElem?_getD,hat.head];rfl
  have hc0:=hc.get hol
  rw [hg0] at hc0
  obtain ⟨p0,p1,p2,p3,p4⟩:=hc0
  simp only at p0 p1 p2 p3 p4
  have hoz:(o:Int) < (l.length:Int):=by omega
  have HA:=hidE hA;have HW:=hidE hW;have HPC:=hidE hPc;have HAT:=hidE hat;have HFIT:=hidE hfit
  have HBD:=hidE (badP_num hfit.1)
  rw [hk] at p0
  have HKD:=hidE hk
  have hK0:0 < K.len:=by have:=(badP_kids hfit.1).2 (by omega);omega
  have hK16:K.len≤16:=by have:=(badP_kids hfit.1).2 (by omega);omega
  have hKs:K.size≤64:=by
    have:=hat.1 K.size (by simp only [Fst.size];omega)
    have h2:((Fst.cons y K .nil).flat)[K.size]? ≠ none:=by rw [ne_eq,List.getElem?_eq_none_iff,flat_len];simp only [Fst.size];omega
    rw [← this] at h2
    have:=(List.getElem?_eq_some_iff.1 (Option.ne_none_iff_exists'.1 h2).choose_spec).1
    omega
  have HLB:=hidE (len_bd W K (o + 1) _ _ hfit.2.2.2.1)
  have HSEQ:=hidE (fun bw ba n0 w' => satkids_it l W (some ⟨b,off,none⟩) wa cap wcap bw ba n0 y K o deep ink w' hl ht hat hfit hK0 IH)
  clear hat hfit hA hW hPc hc hg0 hk ht IH
  have i0:∀ w,(Instr.index 143 (.agg kindsV) (.int .u8 2)).run Tryz.prog w = .ok (.agg #[fnV 90,fnV 89]) w:=fun _ => by kernel_rfl
  refine (callsIn_wide (n:=0)).1 (callsIn_of_wp_marks Tryz.func43 rfl trivial ((wpIn_wide (n:=0)).2 ?_))
  simp only [Tryz.ntmps43,List.size_toArray,List.length_cons,List.length_nil,Nat.reduceAdd,Nat.reduceSub,Array.replicate_succ,Array.replicate_zero,List.push_toArray,List.append_toArray,List.nil_append,List.cons_append]
  go_upto_region 2 with fail
  obtain ⟨w1,hw1⟩:∃ w1,w1 = ((w.alloc (.cells #[.slice (some ⟨b,off,none⟩) l.length cap,.slice wa W.length wcap] 100)).alloc (.cells ti0 78)).alloc (.cells #[.int .u8 2,.int .u32 y.n,.int .u32 y.g,.int .i64 y.d,.int .i64 K.len,.slice none 0 0,.int .i64 0,.bool false,.int .i64 0,.int .i64 0,.bool false] 78):=⟨_,rfl⟩
  obtain ⟨p,hp⟩:∃ p,p = w.heap.size + 1 + 1:=⟨_,rfl⟩
  obtain ⟨rb,hr⟩:∃ r,r = w.heap.size + 1:=⟨_,rfl⟩
  rw [← hw1,← hp,← hr]
  have hb1:Below w.heap.size w w1:=by rw [hw1];(repeat (first | exact Below.refl _ _ | assumption | refine balloc ?_ _ | refine below_drewN ?_ _ | refine bstep (by assumption) ?_ | refine bstep (Past.prop _) ?_ | refine Below.setCell ?_ (by first | exact Nat.le_refl _ | (simp;done) | (simp;omega)) _))
  have hs1:w.heap.size < w1.heap.size:=by rw [hw1];simp;omega
  have hwb:Blk w1 w.heap.size #[.slice (some ⟨b,off,none⟩) l.length cap,.slice wa W.length wcap] 100:=by rw [hw1];exact ((Blk.made _ _ _).alloc _).alloc _
  have hrb:Blk w1 rb (tiA p00 (.slice none 0 0) 0 none false) 78:=by rw [hw1,hr];exact (Blk.made_at _ _ _ _ (by simp)).alloc _
  have htb:Blk w1 p (tiA { y with kids:=(K.len:Int) } (.slice none 0 0) 0 none false) 78:=by
    rw [hw1,hp];rw [show ({ y with kids:=(K.len:Int) }:Prt).kind = 2 from HKD.out];exact Blk.made_at _ _ _ _ (by simp)
  have hpw:w.heap.size + 1 < p:=by omega
  have hrw:w.heap.size < rb:=by omega
  have hrp:rb < p:=by omega
  clear hp hr
  have HR1:=hidE hrb;have HT1:=hidE htb;have HB1:=hidE hb1
  have c0:=htb.cell 0;have wz0:=hwb.cell 0;have wz1:=hwb.cell 1;have wz:=hwb.lt;have tz:=htb.lt
  simp at c0 wz0 wz1
  rw [HKD.out] at c0
  have hpz1:=htb.lt
  clear hw1 hb1 hrb htb hwb p0 p1 p2 p3 p4
  go_wp2_with fail
  ((with_reducible refine (wchildren_c _ _ _ _ _ _ _ _).mono ?_);rintro e w3 ⟨rfl,hbw,hba,hb3⟩)
  have hz3:=hba.lt
  have hs3:=hb3.size
  have hJ0:SatJ w1 p w3.heap.size { y with kids:=(K.len:Int) } #[.slice (some ⟨b,off,none⟩) l.length cap,.slice wa W.length wcap] o w1.heap.size (w1.heap.size + 1) [] none w3 :=
    ⟨⟨.slice none 0 0,w3.heap.size,HT1.out.past hb3,own_nil _ _ _,Nat.le_refl _,Nat.le_refl _,.inl ⟨rfl,rfl⟩⟩,hbw,hba,hb3.mono (by omega)⟩
  have HJ0:=hidE hJ0
  have HB3:=hidE hb3
  clear hbw hba hb3 c0 wz0 wz1 wz tz hJ0
  go_wp2
  refine wp_rangeFunc_V (n₀:=p) (S:=satF W K (o + 1)) (key:=TV.t) (encs:=encTm) rfl (enters_of Tryz.func85 (by kernel_rfl) rfl) (by omega) (HSEQ.out w1.heap.size (w1.heap.size + 1) p w3) (fun _ => rfl)
    (SatJ w1 p w3.heap.size { y with kids:=(K.len:Int) } #[.slice (some ⟨b,off,none⟩) l.length cap,.slice wa W.length wcap] o w1.heap.size (w1.heap.size + 1)) (fun s g A B h hb hk => h.keep (by omega) (by omega) (by omega) hb hk) (fun s g A h => h.lies)
    (fun s g A h => ⟨h.wit,h.here,HA.out.past (HB1.out.trans (h.bel.mono (by omega))),HW.out.past (HB1.out.trans (h.bel.mono (by omega)))⟩) HJ0.out
    (fun _ _ => False) (fun s A B h hb => h)
    (fun k a1 W => ∃ (kb:Nat) (u0 u1 u2 u3 u4 u7 u8 u9 u10 u11 u12 u13 u14 u15 u16 u17 u18 u19 u20 u21 u22 u23 u24 u25 u26 u27 u28 u29 u30 u31 u32 u33 u34 u35 u36 u37 u38 u39 u40:Value),Blk W kb k.arr 78∧a1 = { tmps:=#[u0,u1,u2,u3,u4,.pointer (some ⟨p,0,none⟩),.pointer (some ⟨kb,0,none⟩),u7,u8,u9,u10,u11,u12,u13,u14,u15,u16,u17,u18,u19,u20,u21,u22,u23,u24,u25,u26,u27,u28,u29,u30,u31,u32,u33,u34,u35,u36,u37,u38,u39,u40],defers:=[] })
    ?hax ?assign ?body ?done ?stop
  case hax =>
    rintro k a1 A l2 r o2 ⟨kb,u0,u1,u2,u3,u4,u7,u8,u9,u10,u11,u12,u13,u14,u15,u16,u17,u18,u19,u20,u21,u22,u23,u24,u25,u26,u27,u28,u29,u30,u31,u32,u33,u34,u35,u36,u37,u38,u39,u40,h2,h3⟩ hlr
    refine ⟨kb,_,_,_,_,_,_,_,_,_,_,_,_,_,_,_,_,_,_,_,_,_,_,_,_,_,_,_,_,_,_,_,_,_,_,_,_,_,_,_, ?_,h3⟩
    exact (World.putObj_heap_other (fun e => by unfold Blk at h2;rw [← e,h2] at hlr;cases hlr)).trans h2
  case assign =>
    intro l2 pre k g W2 K' hsz hi hK
    dsimp only [encTm]
    gi_wp2
    exact hK _ _ ((Below.refl _ _).alloc (Nat.le_refl _) _) (hi.keep (by omega) (by omega) (by omega) (((Below.refl _ _).alloc (Nat.le_refl _) _).mono hsz) (fun b k e => keptA (hi.lies b k e).2 _)) ⟨W2.heap.size,_,_,_,_,_,_,_,_,_,_,_,_,_,_,_,_,_,_,_,_,_,_,_,_,_,_,_,_,_,_,_,_,_,_,_,_,_,_,_,Blk.made _ _ _,rfl⟩
  case body =>
    rintro l2 pre k g a1 W2 hsz hi ⟨kb,u0,u1,u2,u3,u4,u7,u8,u9,u10,u11,u12,u13,u14,u15,u16,u17,u18,u19,u20,u21,u22,u23,u24,u25,u26,u27,u28,u29,u30,u31,u32,u33,u34,u35,u36,u37,u38,u39,u40,hkb,rfl⟩ hpre
    have hlen:pre.length < 17:=by
      have:=hpre.length_le
      rw [satF_len] at this
      simp only [List.length_map,List.length_append,List.length_cons,List.length_nil] at this
      omega
    obtain ⟨av,cp,γ,i1,i2,i3,i4,i5,i6⟩:=hi.base hsz
    have HTK:=hidE (take_c γ p { y with kids:=(K.len:Int) } (.slice av pre.length cp) (endsI (pre.map TV.t)) pre k W2 i1 i2 (by omega) i4 (by omega))
    have HI:=hidE hi;have HI5:=hidE i5;have HI6:=hidE i6
    have k0:=hkb.cell 0;have k1:=hkb.cell 1;have k2:=hkb.cell 2;have k3:=hkb.cell 3;have k4:=hkb.cell 4;have k5:=hkb.cell 5;have k6:=hkb.cell 6;have k7:=hkb.cell 7;have k8:=hkb.cell 8;have k9:=hkb.cell 9;have k10:=hkb.cell 10;have kz:=hkb.lt
    simp at k0 k1 k2 k3 k4 k5 k6 k7 k8 k9 k10
    clear hpre hi hkb i1 i2 i5 i6
    gi_wp2_with fail
    refine ⟨trivial,rfl,(CallsIn.inRound l2 (callsIn_wide.2 HTK.out)).mono ?_⟩
    rintro e w' ⟨rfl,v',t1,t2,t3, -⟩
    have T1:=hidE t1;have T2:=hidE t2;have T3:=hidE t3
    clear t1 t2 t3 k0 k1 k2 k3 k4 k5 k6 k7 k8 k9 k10 kz HTK
    gi_wp2
    exact HI.out.took hsz (by omega) (by omega) (by omega) (by omega) (by omega) (Below.refl _ _) HI5.out HI6.out i3 i4 T1.out T2.out T3.out
  case done =>
    rintro D full g Wd hD hfull hi hgd hK
    subst hD
    have hDz:w3.heap.size < Wd.heap.size:=(Array.getElem?_eq_some_iff.1 hK).1
    obtain ⟨av,cp,γ,i1,i2,i3,i4,i5,i6⟩:=hi.base (by omega)
    have hfl:full.length = K.len:=by
      have:=congrArg List.length hfull
      rwa [List.length_map,satF_len] at this
    have HFL:=hidE hfl
    have hka:=kidsAt_own i1 i2 (m:=K.len - 1) (by omega) (by omega)
    obtain ⟨gq,cq,eq1,_⟩:=ownP_pos (n:=K.len - 1) (by rw [show K.len - 1 + 1 = full.length by omega];exact i2)
    simp only [Value.slice.injEq] at eq1
    obtain ⟨eq2,eqm,eq3⟩:=eq1
    clear eqm
    subst eq2 eq3
    rw [hfull] at i1 hka
    obtain ⟨S,hS⟩:∃ S,endsI (satF W K (o + 1)) = S:=⟨_,rfl⟩
    rw [hS] at i1 hka
    have HSE:=hidE hS
    have HKA:=hidE hka;have HFU:=hidE hfull
    have HLO:=hidE (show LenOk 1099511627776 full from fun t ht => by
      have:=HLB.out.2.2 t.t (by rw [← HFU.out];exact List.mem_map_of_mem ht)
      omega)
    have HT:=hidE i1;have HR:=hidE (HR1.out.below hi.bel hrp);have HB:=hidE (HB1.out.trans (hi.bel.mono (by omega)))
    have HL:=hidE (fun (w':World) (h:Below Wd.heap.size Wd w') => by
      have:=total_c w' p { y with kids:=(K.len:Int) } 0 S false full (HKA.out.past h) (by rw [HFL.out];omega) HLO.out
      rw [HFU.out] at this
      exact this)
    have HQ:=hidE (fun (w':World) (h:Below Wd.heap.size Wd w') => by
      have:=isNext_c (w'.setCell ⟨p,6,none⟩ (.int .i64 (sumI (satF W K (o + 1))))) p { y with kids:=(K.len:Int) } (sumI (satF W K (o + 1))) S false full ((HKA.out.past h).len (sumI (satF W K (o + 1)))) (by rw [HFL.out];omega) (by rw [HFL.out];omega)
      rw [HFU.out] at this
      exact this)
    have HD:=hidE hK
    clear i1 i2 i5 i6 hka hfull hi hgd hK hS hfl HKA HFU HLO HFL HR1 HT1 HJ0 HSEQ
    have d0:=HT.out.cell 0;have tz:=HT.out.lt
    simp at d0
    rw [HKD.out] at d0
    go_upto_region 7 with fail
    refine wp_region_J 6 [] (nthR [detR (.agg kindsV),detR (.pointer (some ⟨p,0,none⟩)),detR (.pointer (some ⟨p,0,none⟩)),detR (.int .u8 2),detR (.agg #[.func (.func 90) #[] #[],.func (.func 89) #[] #[]]),newR Wd.heap.size #[.nilFunc,.nilFunc] 142]) (fun _ => false) (by kernel_rfl) (by simp) (by kernel_rfl) (stab_nth (by simp [stab_det,stab_new])) ?_ ?_ ?_
    · intro i o hi ho
      match i,hi with
      | 0, _ =>
        obtain rfl:=Option.some.inj ho
        intro u x hd
        have hc:=Past.cell x
        simp [go_sem,gives,frm,Act.put,nthR,detR,Region.wanted]
        exact kinds_c _
      | 1, _ =>
        obtain rfl:=Option.some.inj ho
        intro u x hd
        have hc:=Past.cell x
        simp [go_sem,gives,frm,Act.put,nthR,detR,Region.wanted,Below.refl]
      | 2, _ =>
        obtain rfl:=Option.some.inj ho
        intro u x hd
        have hc:=Past.cell x
        have d1:=hd 1 (by decide) (by kernel_rfl)
        simp only [nthR,detR,List.getD_cons_zero,List.getD_cons_succ] at d1
        simp [go_sem,gives,frm,Act.put,nthR,detR,Region.wanted,Below.refl,d1]
      | 3, _ =>
        obtain rfl:=Option.some.inj ho
        intro u x hd
        have hc:=Past.cell x
        have d2:=hd 2 (by decide) (by kernel_rfl)
        simp only [nthR,detR,List.getD_cons_zero,List.getD_cons_succ] at d2
        simp [go_sem,gives,frm,Act.put,nthR,detR,Region.wanted,Below.refl,hc,d2,d0,tz]
      | 4, _ =>
        obtain rfl:=Option.some.inj ho
        intro u x hd
        have hc:=Past.cell x
        have d0:=hd 0 (by decide) (by kernel_rfl)
        have d3:=hd 3 (by decide) (by kernel_rfl)
        simp only [nthR,detR,List.getD_cons_zero,List.getD_cons_succ] at d0 d3
        simp [go_sem,gives,frm,Act.put,nthR,detR,Region.wanted,Below.refl,d0,d3,i0]
      | 5, _ =>
        obtain rfl:=Option.some.inj ho
        intro u x hd
        have hc:=Past.cell x
        simp [go_sem,gives,nthR,Region.wanted]
        exact ⟨by (repeat (first | exact Below.refl _ _ | assumption | refine balloc ?_ _ | refine below_drewN ?_ _ | refine bstep (by assumption) ?_ | refine bstep (Past.prop _) ?_ | refine Below.setCell ?_ (by first | exact Nat.le_refl _ | (simp;done) | (simp;omega)) _)),⟨_,rfl,by simpa using x.2.size,Blk.made _ _ _⟩⟩
      | i + 6,h => exact absurd h (by omega)
    · intro i o h;cases h
    · intro u x9 hu hne
      have e4:u 4 = .agg #[.func (.func 90) #[] #[],.func (.func 89) #[] #[]]:=hu 4 (by decide)
      obtain ⟨kb,e5,hkz,hkB⟩:newR Wd.heap.size #[.nilFunc,.nilFunc] 142 (u 5) x9.1:=hu 5 (by decide)
      simp only [frm,List.take,Act.put,e4,e5]
      have HX9:=hidE x9.2;have HKB:=hidE hkB
      have g0:=hkB.cell 0;have g1:=hkB.cell 1;have gf0:=hkB.free 0;have gf1:=hkB.free 1;have gz:=hkB.lt
      simp at g0 g1
      clear hu hne e4 e5 hkB d0 i0
      generalize x9.1 = w9 at *
      go_upto_region 8 with fail
      obtain ⟨w6,hw6⟩:∃ w6,w6 = (w9.setCell ⟨kb,0,none⟩ (.func (.func 90) #[] #[])).setCell ⟨kb,1,none⟩ (.func (.func 89) #[] #[]):=⟨_,rfl⟩
      rw [← hw6]
      have hk6:Blk w6 kb #[.func (.func 90) #[] #[],.func (.func 89) #[] #[]] 142:=by rw [hw6];simpa using (HKB.out.set 0 (.func (.func 90) #[] #[])).set 1 (.func (.func 89) #[] #[])
      have hb6:Below Wd.heap.size Wd w6:=by rw [hw6];exact (HX9.out.setCell (p:=⟨kb,0,none⟩) hkz _).setCell (p:=⟨kb,1,none⟩) hkz _
      have HB6:=hidE hb6;have HK6:=hidE hk6
      have g0:=hk6.cell 0;have g1:=hk6.cell 1;have gz:=hk6.lt
      simp at g0 g1
      clear hw6 HKB gf0 gf1 HX9 hb6 hk6
      go_wp2_with fail
      ((with_reducible refine (HL.out w6 HB6.out).mono ?_);rintro e w7 ⟨rfl,hb7⟩)
      have hb27:Below Wd.heap.size Wd w7:=HB6.out.trans (hb7.mono HB6.out.size)
      have hT7:=HT.out.past hb27;have hk7:=HK6.out.past hb7
      have HB7:=hidE hb27;have HK7:=hidE hk7
      have g0:=hk7.cell 0;have g1:=hk7.cell 1;have gz:=hk7.lt;have c6:=hT7.cell 6;have f6:=hT7.free 6;have tz7:=hT7.lt
      simp at g0 g1 c6
      have hkp:¬ kb = p:=by omega
      have hpk:¬ p = kb:=by omega
      clear hb7 hb27 hT7 hk7 HK6 HB6 HL
      go_wp2_with fail
      ((with_reducible refine (HQ.out w7 HB7.out).mono ?_);rintro e w8 ⟨rfl,hb8⟩)
      have hT8:=(tiA_len (HT.out.past HB7.out) (sumI (satF W K (o + 1)))).past hb8
      have hR8:=((HR.out.past HB7.out).other (by omega) (.int .i64 (sumI (satF W K (o + 1))))).past hb8
      have HB8:=hidE (show Below w.heap.size w w8 from (HB.out.trans (HB7.out.mono HB.out.size)).setCell (p:=⟨p,6,none⟩) (by show w.heap.size≤p;omega) (.int .i64 (sumI (satF W K (o + 1)))) |>.trans (hb8.mono (by have:=HB.out.size;have:=HB7.out.size;simp [World.setCell];omega)))
      have HT8:=hidE hT8;have HR8:=hidE hR8;have HW8:=hidE hb8
      have hrp':¬ rb = p:=by omega
      have hpr':¬ p = rb:=by omega
      have q0:=hT8.cell 0;have q1:=hT8.cell 1;have q2:=hT8.cell 2;have q3:=hT8.cell 3;have q4:=hT8.cell 4;have q5:=hT8.cell 5;have q6:=hT8.cell 6;have q7:=hT8.cell 7;have q8:=hT8.cell 8;have q9:=hT8.cell 9;have q10:=hT8.cell 10;have qf:=hT8.free 10;have qz:=hT8.lt
      have r0:=hR8.cell 0;have r1:=hR8.cell 1;have r2:=hR8.cell 2;have r3:=hR8.cell 3;have r4:=hR8.cell 4;have r5:=hR8.cell 5;have r6:=hR8.cell 6;have r7:=hR8.cell 7;have r8:=hR8.cell 8;have r9:=hR8.cell 9;have r10:=hR8.cell 10;have rz:=hR8.lt
      have s0:=hR8.free 0;have s1:=hR8.free 1;have s2:=hR8.free 2;have s3:=hR8.free 3;have s4:=hR8.free 4;have s5:=hR8.free 5;have s6:=hR8.free 6;have s7:=hR8.free 7;have s8:=hR8.free 8;have s9:=hR8.free 9;have s10:=hR8.free 10
      simp at q0 r0 q1 r1 q2 r2 q3 r3 q4 r4 q5 r5 q6 r6 q7 r7 q8 r8 q9 r9 q10 r10
      clear hb8 hT8 hR8 HQ g0 g1 gz c6 f6 tz7 tz HK7
      go_wp2
      have hfin:Blk (put11 (w8.setCell ⟨p,10,none⟩ (.bool (adjI (fun e b => decide (e = b)) (satF W K (o + 1)) && allI (satF W K (o + 1))))) rb (⟨⟨{ y with kids:=(K.len:Int) },sumI (satF W K (o + 1)),S,adjI (fun e b => decide (e = b)) (satF W K (o + 1)) && allI (satF W K (o + 1))⟩,(some ⟨gq,0,none⟩),full.length,cp⟩:TV)) rb (⟨⟨{ y with kids:=(K.len:Int) },sumI (satF W K (o + 1)),S,adjI (fun e b => decide (e = b)) (satF W K (o + 1)) && allI (satF W K (o + 1))⟩,(some ⟨gq,0,none⟩),full.length,cp⟩:TV).arr 78:=put11_blk (HR8.out.other (by omega) _) (⟨⟨{ y with kids:=(K.len:Int) },sumI (satF W K (o + 1)),S,adjI (fun e b => decide (e = b)) (satF W K (o + 1)) && allI (satF W K (o + 1))⟩,(some ⟨gq,0,none⟩),full.length,cp⟩:TV)
      have HBF:=hidE (show Below w.heap.size w (put11 (w8.setCell ⟨p,10,none⟩ (.bool (adjI (fun e b => decide (e = b)) (satF W K (o + 1)) && allI (satF W K (o + 1))))) rb (⟨⟨{ y with kids:=(K.len:Int) },sumI (satF W K (o + 1)),S,adjI (fun e b => decide (e = b)) (satF W K (o + 1)) && allI (satF W K (o + 1))⟩,(some ⟨gq,0,none⟩),full.length,cp⟩:TV)) from Below.grown (HB8.out.setCell (p:=⟨p,10,none⟩) (by show w.heap.size≤p;omega) _) (put11_grown _ _ _) (by have:=HB8.out.size;simpa [World.setCell] using this) (fun k e => by cases e;omega))
      have HGF:=hidE (put11_grown (w8.setCell ⟨p,10,none⟩ (.bool (adjI (fun e b => decide (e = b)) (satF W K (o + 1)) && allI (satF W K (o + 1))))) rb (⟨⟨{ y with kids:=(K.len:Int) },sumI (satF W K (o + 1)),S,adjI (fun e b => decide (e = b)) (satF W K (o + 1)) && allI (satF W K (o + 1))⟩,(some ⟨gq,0,none⟩),full.length,cp⟩:TV))
      have x0:=hfin.cell 0;have x1:=hfin.cell 1;have x2:=hfin.cell 2;have x3:=hfin.cell 3;have x4:=hfin.cell 4;have x5:=hfin.cell 5;have x6:=hfin.cell 6;have x7:=hfin.cell 7;have x8:=hfin.cell 8;have x9:=hfin.cell 9;have x10:=hfin.cell 10
      simp at x0 x1 x2 x3 x4 x5 x6 x7 x8 x9 x10
      have z7:=HB7.out.size
      have z8:=HW8.out.size
      simp [World.setCell] at z8
      have HKF:=hidE (show (put11 (w8.setCell ⟨p,10,none⟩ (.bool (adjI (fun e b => decide (e = b)) (satF W K (o + 1)) && allI (satF W K (o + 1))))) rb (⟨⟨{ y with kids:=(K.len:Int) },sumI (satF W K (o + 1)),S,adjI (fun e b => decide (e = b)) (satF W K (o + 1)) && allI (satF W K (o + 1))⟩,(some ⟨gq,0,none⟩),full.length,cp⟩:TV)).heap[w3.heap.size]? = some (.deferred (some [])) from by
        rw [HGF.out.block w3.heap.size (by simp [World.setCell];omega) (by simp;omega),keptS (by omega),HW8.out.block w3.heap.size (by simp [World.setCell];omega),keptS (by omega),HB7.out.block w3.heap.size hDz];exact HD.out)
      change bodyPostM _ _ _ _ _ _ _ (put11 (w8.setCell ⟨p,10,none⟩ (.bool (adjI (fun e b => decide (e = b)) (satF W K (o + 1)) && allI (satF W K (o + 1))))) rb (⟨⟨{ y with kids:=(K.len:Int) },sumI (satF W K (o + 1)),S,adjI (fun e b => decide (e = b)) (satF W K (o + 1)) && allI (satF W K (o + 1))⟩,(some ⟨gq,0,none⟩),full.length,cp⟩:TV))
      clear HT8 HR8 HW8 HB8 q0 r0 s0 q1 r1 s1 q2 r2 s2 q3 r3 s3 q4 r4 s4 q5 r5 s5 q6 r6 s6 q7 r7 s7 q8 r8 s8 q9 r9 s9 q10 r10 s10 qf qz rz
      generalize put11 (w8.setCell ⟨p,10,none⟩ (.bool (adjI (fun e b => decide (e = b)) (satF W K (o + 1)) && allI (satF W K (o + 1))))) rb (⟨⟨{ y with kids:=(K.len:Int) },sumI (satF W K (o + 1)),S,adjI (fun e b => decide (e = b)) (satF W K (o + 1)) && allI (satF W K (o + 1))⟩,(some ⟨gq,0,none⟩),full.length,cp⟩:TV) = wf at *
      have hfin2:Blk (wf.putObj w3.heap.size (.deferred none)) rb (⟨⟨{ y with kids:=(K.len:Int) },sumI (satF W K (o + 1)),S,adjI (fun e b => decide (e = b)) (satF W K (o + 1)) && allI (satF W K (o + 1))⟩,(some ⟨gq,0,none⟩),full.length,cp⟩:TV).arr 78:=(World.putObj_heap_other (by omega)).trans hfin
      clear hfin
      have x0:=hfin2.cell 0;have x1:=hfin2.cell 1;have x2:=hfin2.cell 2;have x3:=hfin2.cell 3;have x4:=hfin2.cell 4;have x5:=hfin2.cell 5;have x6:=hfin2.cell 6;have x7:=hfin2.cell 7;have x8:=hfin2.cell 8;have x9:=hfin2.cell 9;have x10:=hfin2.cell 10
      simp at x0 x1 x2 x3 x4 x5 x6 x7 x8 x9 x10
      clear hfin2
      refine ⟨by simp,.inl ⟨_,_,rfl,run_takeDeferred HKF.out, ?_⟩⟩
      refine ⟨.agg (⟨⟨{ y with kids:=(K.len:Int) },sumI (satF W K (o + 1)),S,adjI (fun e b => decide (e = b)) (satF W K (o + 1)) && allI (satF W K (o + 1))⟩,(some ⟨gq,0,none⟩),full.length,cp⟩:TV).arr,by simp [results,Tryz.results43,go_sem,x0,x1,x2,x3,x4,x5,x6,x7,x8,x9,x10], ?_⟩
      refine ⟨(⟨⟨{ y with kids:=(K.len:Int) },sumI (satF W K (o + 1)),S,adjI (fun e b => decide (e = b)) (satF W K (o + 1)) && allI (satF W K (o + 1))⟩,(some ⟨gq,0,none⟩),full.length,cp⟩:TV), ?_,rfl,HBF.out.trans (below_putObj _ _ _ (by omega))⟩
      unfold satI mkI lenI okI
      simp only [HKD.out,HSE.out]
      simp
  case stop =>
    rintro D pre W2 hD hpre h hK
    exact h.elim
end
section
open Go.ChangeShapes Go.WideShapes Go.ChangeAt Go.RowKit Go.Shelf
attribute [local irreducible] Go.Calls
attribute [local go_sem] Oper.semAt_some run_store_fnK
set_option maxHeartbeats 8000000 in
set_option maxRecDepth 100000 in
theorem term_3 (l:List Prt) (W:List Pc) (pa wa:Option Addr) (cap wcap:Nat) (y:Prt) (K:Fst) (o deep ink:Nat) (w:World) (hl:l.length≤64) (ht:(treeS l).2 = 0) (hat:AtF l o (.cons y K .nil)) (hfit:(Fst.cons y K .nil).fit deep ink) (hA:ArgP w pa l) (hW:ArgVs w wa W) (_hWl:W.length≤100000) (hPc:PcOk W) (hk:y.kind = 3) (IH:∀ (x:Prt) (Kx:Fst) (oo deep ink:Nat) (w:World),Kx.size < K.size→AtF l oo (.cons x Kx .nil)→(Fst.cons x Kx .nil).fit deep ink→ArgP w pa l→ArgVs w wa W→Calls Tryz.prog 43 #[witV pa l.length cap wa W.length wcap,.int .i64 oo] w (TmPost w (satI W x Kx oo))) :
    Calls Tryz.prog 43 #[witV pa l.length cap wa W.length wcap,.int .i64 o] w (TmPost w (satI W y K o)):=by
  have hol:=hat.lt
  obtain ⟨b,off,rfl,hbb,hc⟩:=hA (by omega)
  have hg0:l.getD o pr0 = { y with kids:=(K.len:Int) }:=by rw [List.getD_eq_getElem?_getD,hat.head];rfl
  have hc0:=hc.get hol
  rw [hg0] at hc0
  obtain ⟨p0,p1,p2,p3,p4⟩:=hc0
  simp only at p0 p1 p2 p3 p4
  have hoz:(o:Int) < (l.length:Int):=by omega
  have HA:=hidE hA;have HW:=hidE hW;have HPC:=hidE hPc;have HAT:=hidE hat;have HFIT:=hidE hfit
  have HBD:=hidE (badP_num hfit.1)
  rw [hk] at p0
  have HKD:=hidE hk
  have hK0:0 < K.len:=by have:=(badP_kids hfit.1).2 (by omega);omega
  have hK16:K.len≤16:=by have:=(badP_kids hfit.1).2 (by omega);omega
  have hKs:K.size≤64:=by
    have:=hat.1 K.size (by simp only [Fst.size];omega)
    have h2:((Fst.cons y K .nil).flat)[K.size]? ≠ none:=by rw [ne_eq,List.getElem?_eq_none_iff,flat_len];simp only [Fst.size];omega
    rw [← this] at h2
    have:=(List.getElem?_eq_some_iff.1 (Option.ne_none_iff_exists'.1 h2).choose_spec).1
    omega
  have HLB:=hidE (len_bd W K (o + 1) _ _ hfit.2.2.2.1)
  have HSEQ:=hidE (fun bw ba n0 w' => satkids_it l W (some ⟨b,off,none⟩) wa cap wcap bw ba n0 y K o deep ink w' hl ht hat hfit hK0 IH)
  clear hat hfit hA hW hPc hc hg0 hk ht IH
  have i0:∀ w,(Instr.index 143 (.agg kindsV) (.int .u8 3)).run Tryz.prog w = .ok (.agg #[fnV 91,fnV 92]) w:=fun _ => by kernel_rfl
  refine (callsIn_wide (n:=0)).1 (callsIn_of_wp_marks Tryz.func43 rfl trivial ((wpIn_wide (n:=0)).2 ?_))
  simp only [Tryz.ntmps43,List.size_toArray,List.length_cons,List.length_nil,Nat.reduceAdd,Nat.reduceSub,Array.replicate_succ,Array.replicate_zero,List.push_toArray,List.append_toArray,List.nil_append,List.cons_append]
  go_upto_region 2 with fail
  obtain ⟨w1,hw1⟩:∃ w1,w1 = ((w.alloc (.cells #[.slice (some ⟨b,off,none⟩) l.length cap,.slice wa W.length wcap] 100)).alloc (.cells ti0 78)).alloc (.cells #[.int .u8 3,.int .u32 y.n,.int .u32 y.g,.int .i64 y.d,.int .i64 K.len,.slice none 0 0,.int .i64 0,.bool false,.int .i64 0,.int .i64 0,.bool false] 78):=⟨_,rfl⟩
  obtain ⟨p,hp⟩:∃ p,p = w.heap.size + 1 + 1:=⟨_,rfl⟩
  obtain ⟨rb,hr⟩:∃ r,r = w.heap.size + 1:=⟨_,rfl⟩
  rw [← hw1,← hp,← hr]
  have hb1:Below w.heap.size w w1:=by rw [hw1];(repeat (first | exact Below.refl _ _ | assumption | refine balloc ?_ _ | refine below_drewN ?_ _ | refine bstep (by assumption) ?_ | refine bstep (Past.prop _) ?_ | refine Below.setCell ?_ (by first | exact Nat.le_refl _ | (simp;done) | (simp;omega)) _))
  have hs1:w.heap.size < w1.heap.size:=by rw [hw1];simp;omega
  have hwb:Blk w1 w.heap.size #[.slice (some ⟨b,off,none⟩) l.length cap,.slice wa W.length wcap] 100:=by rw [hw1];exact ((Blk.made _ _ _).alloc _).alloc _
  have hrb:Blk w1 rb (tiA p00 (.slice none 0 0) 0 none false) 78:=by rw [hw1,hr];exact (Blk.made_at _ _ _ _ (by simp)).alloc _
  have htb:Blk w1 p (tiA { y with kids:=(K.len:Int) } (.slice none 0 0) 0 none false) 78:=by
    rw [hw1,hp];rw [show ({ y with kids:=(K.len:Int) }:Prt).kind = 3 from HKD.out];exact Blk.made_at _ _ _ _ (by simp)
  have hpw:w.heap.size + 1 < p:=by omega
  have hrw:w.heap.size < rb:=by omega
  have hrp:rb < p:=by omega
  clear hp hr
  have HR1:=hidE hrb;have HT1:=hidE htb;have HB1:=hidE hb1
  have c0:=htb.cell 0;have wz0:=hwb.cell 0;have wz1:=hwb.cell 1;have wz:=hwb.lt;have tz:=htb.lt
  simp at c0 wz0 wz1
  rw [HKD.out] at c0
  have hpz1:=htb.lt
  clear hw1 hb1 hrb htb hwb p0 p1 p2 p3 p4
  go_wp2_with fail
  ((with_reducible refine (wchildren_c _ _ _ _ _ _ _ _).mono ?_);rintro e w3 ⟨rfl,hbw,hba,hb3⟩)
  have hz3:=hba.lt
  have hs3:=hb3.size
  have hJ0:SatJ w1 p w3.heap.size { y with kids:=(K.len:Int) } #[.slice (some ⟨b,off,none⟩) l.length cap,.slice wa W.length wcap] o w1.heap.size (w1.heap.size + 1) [] none w3 :=
    ⟨⟨.slice none 0 0,w3.heap.size,HT1.out.past hb3,own_nil _ _ _,Nat.le_refl _,Nat.le_refl _,.inl ⟨rfl,rfl⟩⟩,hbw,hba,hb3.mono (by omega)⟩
  have HJ0:=hidE hJ0
  have HB3:=hidE hb3
  clear hbw hba hb3 c0 wz0 wz1 wz tz hJ0
  go_wp2
  refine wp_rangeFunc_V (n₀:=p) (S:=satF W K (o + 1)) (key:=TV.t) (encs:=encTm) rfl (enters_of Tryz.func85 (by kernel_rfl) rfl) (by omega) (HSEQ.out w1.heap.size (w1.heap.size + 1) p w3) (fun _ => rfl)
    (SatJ w1 p w3.heap.size { y with kids:=(K.len:Int) } #[.slice (some ⟨b,off,none⟩) l.length cap,.slice wa W.length wcap] o w1.heap.size (w1.heap.size + 1)) (fun s g A B h hb hk => h.keep (by omega) (by omega) (by omega) hb hk) (fun s g A h => h.lies)
    (fun s g A h => ⟨h.wit,h.here,HA.out.past (HB1.out.trans (h.bel.mono (by omega))),HW.out.past (HB1.out.trans (h.bel.mono (by omega)))⟩) HJ0.out
    (fun _ _ => False) (fun s A B h hb => h)
    (fun k a1 W => ∃ (kb:Nat) (u0 u1 u2 u3 u4 u7 u8 u9 u10 u11 u12 u13 u14 u15 u16 u17 u18 u19 u20 u21 u22 u23 u24 u25 u26 u27 u28 u29 u30 u31 u32 u33 u34 u35 u36 u37 u38 u39 u40:Value),Blk W kb k.arr 78∧a1 = { tmps:=#[u0,u1,u2,u3,u4,.pointer (some ⟨p,0,none⟩),.pointer (some ⟨kb,0,none⟩),u7,u8,u9,u10,u11,u12,u13,u14,u15,u16,u17,u18,u19,u20,u21,u22,u23,u24,u25,u26,u27,u28,u29,u30,u31,u32,u33,u34,u35,u36,u37,u38,u39,u40],defers:=[] })
    ?hax ?assign ?body ?done ?stop
  case hax =>
    rintro k a1 A l2 r o2 ⟨kb,u0,u1,u2,u3,u4,u7,u8,u9,u10,u11,u12,u13,u14,u15,u16,u17,u18,u19,u20,u21,u22,u23,u24,u25,u26,u27,u28,u29,u30,u31,u32,u33,u34,u35,u36,u37,u38,u39,u40,h2,h3⟩ hlr
    refine ⟨kb,_,_,_,_,_,_,_,_,_,_,_,_,_,_,_,_,_,_,_,_,_,_,_,_,_,_,_,_,_,_,_,_,_,_,_,_,_,_,_, ?_,h3⟩
    exact (World.putObj_heap_other (fun e => by unfold Blk at h2;rw [← e,h2] at hlr;cases hlr)).trans h2
  case assign =>
    intro l2 pre k g W2 K' hsz hi hK
    dsimp only [encTm]
    gi_wp2
    exact hK _ _ ((Below.refl _ _).alloc (Nat.le_refl _) _) (hi.keep (by omega) (by omega) (by omega) (((Below.refl _ _).alloc (Nat.le_refl _) _).mono hsz) (fun b k e => keptA (hi.lies b k e).2 _)) ⟨W2.heap.size,_,_,_,_,_,_,_,_,_,_,_,_,_,_,_,_,_,_,_,_,_,_,_,_,_,_,_,_,_,_,_,_,_,_,_,_,_,_,_,Blk.made _ _ _,rfl⟩
  case body =>
    rintro l2 pre k g a1 W2 hsz hi ⟨kb,u0,u1,u2,u3,u4,u7,u8,u9,u10,u11,u12,u13,u14,u15,u16,u17,u18,u19,u20,u21,u22,u23,u24,u25,u26,u27,u28,u29,u30,u31,u32,u33,u34,u35,u36,u37,u38,u39,u40,hkb,rfl⟩ hpre
    have hlen:pre.length < 17:=by
      have:=hpre.length_le
      rw [satF_len] at this
      simp only [List.length_map,List.length_append,List.length_cons,List.length_nil] at this
      omega
    obtain ⟨av,cp,γ,i1,i2,i3,i4,i5,i6⟩:=hi.base hsz
    have HTK:=hidE (take_c γ p { y with kids:=(K.len:Int) } (.slice av pre.length cp) (endsI (pre.map TV.t)) pre k W2 i1 i2 (by omega) i4 (by omega))
    have HI:=hidE hi;have HI5:=hidE i5;have HI6:=hidE i6
    have k0:=hkb.cell 0;have k1:=hkb.cell 1;have k2:=hkb.cell 2;have k3:=hkb.cell 3;have k4:=hkb.cell 4;have k5:=hkb.cell 5;have k6:=hkb.cell 6;have k7:=hkb.cell 7;have k8:=hkb.cell 8;have k9:=hkb.cell 9;have k10:=hkb.cell 10;have kz:=hkb.lt
    simp at k0 k1 k2 k3 k4 k5 k6 k7 k8 k9 k10
    clear hpre hi hkb i1 i2 i5 i6
    gi_wp2_with fail
    refine ⟨trivial,rfl,(CallsIn.inRound l2 (callsIn_wide.2 HTK.out)).mono ?_⟩
    rintro e w' ⟨rfl,v',t1,t2,t3, -⟩
    have T1:=hidE t1;have T2:=hidE t2;have T3:=hidE t3
    clear t1 t2 t3 k0 k1 k2 k3 k4 k5 k6 k7 k8 k9 k10 kz HTK
    gi_wp2
    exact HI.out.took hsz (by omega) (by omega) (by omega) (by omega) (by omega) (Below.refl _ _) HI5.out HI6.out i3 i4 T1.out T2.out T3.out
  case done =>
    rintro D full g Wd hD hfull hi hgd hK
    subst hD
    have hDz:w3.heap.size < Wd.heap.size:=(Array.getElem?_eq_some_iff.1 hK).1
    obtain ⟨av,cp,γ,i1,i2,i3,i4,i5,i6⟩:=hi.base (by omega)
    have hfl:full.length = K.len:=by
      have:=congrArg List.length hfull
      rwa [List.length_map,satF_len] at this
    have HFL:=hidE hfl
    have hka:=kidsAt_own i1 i2 (m:=K.len - 1) (by omega) (by omega)
    obtain ⟨gq,cq,eq1,_⟩:=ownP_pos (n:=K.len - 1) (by rw [show K.len - 1 + 1 = full.length by omega];exact i2)
    simp only [Value.slice.injEq] at eq1
    obtain ⟨eq2,eqm,eq3⟩:=eq1
    clear eqm
    subst eq2 eq3
    rw [hfull] at i1 hka
    obtain ⟨S,hS⟩:∃ S,endsI (satF W K (o + 1)) = S:=⟨_,rfl⟩
    rw [hS] at i1 hka
    have HSE:=hidE hS
    have HKA:=hidE hka;have HFU:=hidE hfull
    have HLO:=hidE (show LenOk 1099511627776 full from fun t ht => by
      have:=HLB.out.2.2 t.t (by rw [← HFU.out];exact List.mem_map_of_mem ht)
      omega)
    have HT:=hidE i1;have HR:=hidE (HR1.out.below hi.bel hrp);have HB:=hidE (HB1.out.trans (hi.bel.mono (by omega)))
    have HL:=hidE (fun (w':World) (h:Below Wd.heap.size Wd w') => by
      have:=shortest_c w' p { y with kids:=(K.len:Int) } 0 S false full (HKA.out.past h) (by rw [HFL.out];omega) (by rw [HFL.out];omega)
      rw [HFU.out] at this
      exact this)
    have HQ:=hidE (fun (w':World) (h:Below Wd.heap.size Wd w') => by
      have:=isOne_c (w'.setCell ⟨p,6,none⟩ (.int .i64 (minI (satF W K (o + 1))))) p { y with kids:=(K.len:Int) } (minI (satF W K (o + 1))) S false full ((HKA.out.past h).len (minI (satF W K (o + 1)))) (by rw [HFL.out];omega)
      rw [HFU.out] at this
      exact this)
    have HD:=hidE hK
    clear i1 i2 i5 i6 hka hfull hi hgd hK hS hfl HKA HFU HLO HFL HR1 HT1 HJ0 HSEQ
    have d0:=HT.out.cell 0;have tz:=HT.out.lt
    simp at d0
    rw [HKD.out] at d0
    go_upto_region 7 with fail
    refine wp_region_J 6 [] (nthR [detR (.agg kindsV),detR (.pointer (some ⟨p,0,none⟩)),detR (.pointer (some ⟨p,0,none⟩)),detR (.int .u8 3),detR (.agg #[.func (.func 91) #[] #[],.func (.func 92) #[] #[]]),newR Wd.heap.size #[.nilFunc,.nilFunc] 142]) (fun _ => false) (by kernel_rfl) (by simp) (by kernel_rfl) (stab_nth (by simp [stab_det,stab_new])) ?_ ?_ ?_
    · intro i o hi ho
      match i,hi with
      | 0, _ =>
        obtain rfl:=Option.some.inj ho
        intro u x hd
        have hc:=Past.cell x
        simp [go_sem,gives,frm,Act.put,nthR,detR,Region.wanted]
        exact kinds_c _
      | 1, _ =>
        obtain rfl:=Option.some.inj ho
        intro u x hd
        have hc:=Past.cell x
        simp [go_sem,gives,frm,Act.put,nthR,detR,Region.wanted,Below.refl]
      | 2, _ =>
        obtain rfl:=Option.some.inj ho
        intro u x hd
        have hc:=Past.cell x
        have d1:=hd 1 (by decide) (by kernel_rfl)
        simp only [nthR,detR,List.getD_cons_zero,List.getD_cons_succ] at d1
        simp [go_sem,gives,frm,Act.put,nthR,detR,Region.wanted,Below.refl,d1]
      | 3, _ =>
        obtain rfl:=Option.some.inj ho
        intro u x hd
        have hc:=Past.cell x
        have d2:=hd 2 (by decide) (by kernel_rfl)
        simp only [nthR,detR,List.getD_cons_zero,List.getD_cons_succ] at d2
        simp [go_sem,gives,frm,Act.put,nthR,detR,Region.wanted,Below.refl,hc,d2,d0,tz]
      | 4, _ =>
        obtain rfl:=Option.some.inj ho
        intro u x hd
        have hc:=Past.cell x
        have d0:=hd 0 (by decide) (by kernel_rfl)
        have d3:=hd 3 (by decide) (by kernel_rfl)
        simp only [nthR,detR,List.getD_cons_zero,List.getD_cons_succ] at d0 d3
        simp [go_sem,gives,frm,Act.put,nthR,detR,Region.wanted,Below.refl,d0,d3,i0]
      | 5, _ =>
        obtain rfl:=Option.some.inj ho
        intro u x hd
        have hc:=Past.cell x
        simp [go_sem,gives,nthR,Region.wanted]
        exact ⟨by (repeat (first | exact Below.refl _ _ | assumption | refine balloc ?_ _ | refine below_drewN ?_ _ | refine bstep (by assumption) ?_ | refine bstep (Past.prop _) ?_ | refine Below.setCell ?_ (by first | exact Nat.le_refl _ | (simp;done) | (simp;omega)) _)),⟨_,rfl,by simpa using x.2.size,Blk.made _ _ _⟩⟩
      | i + 6,h => exact absurd h (by omega)
    · intro i o h;cases h
    · intro u x9 hu hne
      have e4:u 4 = .agg #[.func (.func 91) #[] #[],.func (.func 92) #[] #[]]:=hu 4 (by decide)
      obtain ⟨kb,e5,hkz,hkB⟩:newR Wd.heap.size #[.nilFunc,.nilFunc] 142 (u 5) x9.1:=hu 5 (by decide)
      simp only [frm,List.take,Act.put,e4,e5]
      have HX9:=hidE x9.2;have HKB:=hidE hkB
      have g0:=hkB.cell 0;have g1:=hkB.cell 1;have gf0:=hkB.free 0;have gf1:=hkB.free 1;have gz:=hkB.lt
      simp at g0 g1
      clear hu hne e4 e5 hkB d0 i0
      generalize x9.1 = w9 at *
      go_upto_region 8 with fail
      obtain ⟨w6,hw6⟩:∃ w6,w6 = (w9.setCell ⟨kb,0,none⟩ (.func (.func 91) #[] #[])).setCell ⟨kb,1,none⟩ (.func (.func 92) #[] #[]):=⟨_,rfl⟩
      rw [← hw6]
      have hk6:Blk w6 kb #[.func (.func 91) #[] #[],.func (.func 92) #[] #[]] 142:=by rw [hw6];simpa using (HKB.out.set 0 (.func (.func 91) #[] #[])).set 1 (.func (.func 92) #[] #[])
      have hb6:Below Wd.heap.size Wd w6:=by rw [hw6];exact (HX9.out.setCell (p:=⟨kb,0,none⟩) hkz _).setCell (p:=⟨kb,1,none⟩) hkz _
      have HB6:=hidE hb6;have HK6:=hidE hk6
      have g0:=hk6.cell 0;have g1:=hk6.cell 1;have gz:=hk6.lt
      simp at g0 g1
      clear hw6 HKB gf0 gf1 HX9 hb6 hk6
      go_wp2_with fail
      ((with_reducible refine (HL.out w6 HB6.out).mono ?_);rintro e w7 ⟨rfl,hb7⟩)
      have hb27:Below Wd.heap.size Wd w7:=HB6.out.trans (hb7.mono HB6.out.size)
      have hT7:=HT.out.past hb27;have hk7:=HK6.out.past hb7
      have HB7:=hidE hb27;have HK7:=hidE hk7
      have g0:=hk7.cell 0;have g1:=hk7.cell 1;have gz:=hk7.lt;have c6:=hT7.cell 6;have f6:=hT7.free 6;have tz7:=hT7.lt
      simp at g0 g1 c6
      have hkp:¬ kb = p:=by omega
      have hpk:¬ p = kb:=by omega
      clear hb7 hb27 hT7 hk7 HK6 HB6 HL
      go_wp2_with fail
      ((with_reducible refine (HQ.out w7 HB7.out).mono ?_);rintro e w8 ⟨rfl,hb8⟩)
      have hT8:=(tiA_len (HT.out.past HB7.out) (minI (satF W K (o + 1)))).past hb8
      have hR8:=((HR.out.past HB7.out).other (by omega) (.int .i64 (minI (satF W K (o + 1))))).past hb8
      have HB8:=hidE (show Below w.heap.size w w8 from (HB.out.trans (HB7.out.mono HB.out.size)).setCell (p:=⟨p,6,none⟩) (by show w.heap.size≤p;omega) (.int .i64 (minI (satF W K (o + 1)))) |>.trans (hb8.mono (by have:=HB.out.size;have:=HB7.out.size;simp [World.setCell];omega)))
      have HT8:=hidE hT8;have HR8:=hidE hR8;have HW8:=hidE hb8
      have hrp':¬ rb = p:=by omega
      have hpr':¬ p = rb:=by omega
      have q0:=hT8.cell 0;have q1:=hT8.cell 1;have q2:=hT8.cell 2;have q3:=hT8.cell 3;have q4:=hT8.cell 4;have q5:=hT8.cell 5;have q6:=hT8.cell 6;have q7:=hT8.cell 7;have q8:=hT8.cell 8;have q9:=hT8.cell 9;have q10:=hT8.cell 10;have qf:=hT8.free 10;have qz:=hT8.lt
      have r0:=hR8.cell 0;have r1:=hR8.cell 1;have r2:=hR8.cell 2;have r3:=hR8.cell 3;have r4:=hR8.cell 4;have r5:=hR8.cell 5;have r6:=hR8.cell 6;have r7:=hR8.cell 7;have r8:=hR8.cell 8;have r9:=hR8.cell 9;have r10:=hR8.cell 10;have rz:=hR8.lt
      have s0:=hR8.free 0;have s1:=hR8.free 1;have s2:=hR8.free 2;have s3:=hR8.free 3;have s4:=hR8.free 4;have s5:=hR8.free 5;have s6:=hR8.free 6;have s7:=hR8.free 7;have s8:=hR8.free 8;have s9:=hR8.free 9;have s10:=hR8.free 10
      simp at q0 r0 q1 r1 q2 r2 q3 r3 q4 r4 q5 r5 q6 r6 q7 r7 q8 r8 q9 r9 q10 r10
      clear hb8 hT8 hR8 HQ g0 g1 gz c6 f6 tz7 tz HK7
      go_wp2
      have hfin:Blk (put11 (w8.setCell ⟨p,10,none⟩ (.bool (anyI (satF W K (o + 1))))) rb (⟨⟨{ y with kids:=(K.len:Int) },minI (satF W K (o + 1)),S,anyI (satF W K (o + 1))⟩,(some ⟨gq,0,none⟩),full.length,cp⟩:TV)) rb (⟨⟨{ y with kids:=(K.len:Int) },minI (satF W K (o + 1)),S,anyI (satF W K (o + 1))⟩,(some ⟨gq,0,none⟩),full.length,cp⟩:TV).arr 78:=put11_blk (HR8.out.other (by omega) _) (⟨⟨{ y with kids:=(K.len:Int) },minI (satF W K (o + 1)),S,anyI (satF W K (o + 1))⟩,(some ⟨gq,0,none⟩),full.length,cp⟩:TV)
      have HBF:=hidE (show Below w.heap.size w (put11 (w8.setCell ⟨p,10,none⟩ (.bool (anyI (satF W K (o + 1))))) rb (⟨⟨{ y with kids:=(K.len:Int) },minI (satF W K (o + 1)),S,anyI (satF W K (o + 1))⟩,(some ⟨gq,0,none⟩),full.length,cp⟩:TV)) from Below.grown (HB8.out.setCell (p:=⟨p,10,none⟩) (by show w.heap.size≤p;omega) _) (put11_grown _ _ _) (by have:=HB8.out.size;simpa [World.setCell] using this) (fun k e => by cases e;omega))
      have HGF:=hidE (put11_grown (w8.setCell ⟨p,10,none⟩ (.bool (anyI (satF W K (o + 1))))) rb (⟨⟨{ y with kids:=(K.len:Int) },minI (satF W K (o + 1)),S,anyI (satF W K (o + 1))⟩,(some ⟨gq,0,none⟩),full.length,cp⟩:TV))
      have x0:=hfin.cell 0;have x1:=hfin.cell 1;have x2:=hfin.cell 2;have x3:=hfin.cell 3;have x4:=hfin.cell 4;have x5:=hfin.cell 5;have x6:=hfin.cell 6;have x7:=hfin.cell 7;have x8:=hfin.cell 8;have x9:=hfin.cell 9;have x10:=hfin.cell 10
      simp at x0 x1 x2 x3 x4 x5 x6 x7 x8 x9 x10
      have z7:=HB7.out.size
      have z8:=HW8.out.size
      simp [World.setCell] at z8
      have HKF:=hidE (show (put11 (w8.setCell ⟨p,10,none⟩ (.bool (anyI (satF W K (o + 1))))) rb (⟨⟨{ y with kids:=(K.len:Int) },minI (satF W K (o + 1)),S,anyI (satF W K (o + 1))⟩,(some ⟨gq,0,none⟩),full.length,cp⟩:TV)).heap[w3.heap.size]? = some (.deferred (some [])) from by
        rw [HGF.out.block w3.heap.size (by simp [World.setCell];omega) (by simp;omega),keptS (by omega),HW8.out.block w3.heap.size (by simp [World.setCell];omega),keptS (by omega),HB7.out.block w3.heap.size hDz];exact HD.out)
      change bodyPostM _ _ _ _ _ _ _ (put11 (w8.setCell ⟨p,10,none⟩ (.bool (anyI (satF W K (o + 1))))) rb (⟨⟨{ y with kids:=(K.len:Int) },minI (satF W K (o + 1)),S,anyI (satF W K (o + 1))⟩,(some ⟨gq,0,none⟩),full.length,cp⟩:TV))
      clear HT8 HR8 HW8 HB8 q0 r0 s0 q1 r1 s1 q2 r2 s2 q3 r3 s3 q4 r4 s4 q5 r5 s5 q6 r6 s6 q7 r7 s7 q8 r8 s8 q9 r9 s9 q10 r10 s10 qf qz rz
      generalize put11 (w8.setCell ⟨p,10,none⟩ (.bool (anyI (satF W K (o + 1))))) rb (⟨⟨{ y with kids:=(K.len:Int) },minI (satF W K (o + 1)),S,anyI (satF W K (o + 1))⟩,(some ⟨gq,0,none⟩),full.length,cp⟩:TV) = wf at *
      have hfin2:Blk (wf.putObj w3.heap.size (.deferred none)) rb (⟨⟨{ y with kids:=(K.len:Int) },minI (satF W K (o + 1)),S,anyI (satF W K (o + 1))⟩,(some ⟨gq,0,none⟩),full.length,cp⟩:TV).arr 78:=(World.putObj_heap_other (by omega)).trans hfin
      clear hfin
      have x0:=hfin2.cell 0;have x1:=hfin2.cell 1;have x2:=hfin2.cell 2;have x3:=hfin2.cell 3;have x4:=hfin2.cell 4;have x5:=hfin2.cell 5;have x6:=hfin2.cell 6;have x7:=hfin2.cell 7;have x8:=hfin2.cell 8;have x9:=hfin2.cell 9;have x10:=hfin2.cell 10
      simp at x0 x1 x2 x3 x4 x5 x6 x7 x8 x9 x10
      clear hfin2
      refine ⟨by simp,.inl ⟨_,_,rfl,run_takeDeferred HKF.out, ?_⟩⟩
      refine ⟨.agg (⟨⟨{ y with kids:=(K.len:Int) },minI (satF W K (o + 1)),S,anyI (satF W K (o + 1))⟩,(some ⟨gq,0,none⟩),full.length,cp⟩:TV).arr,by simp [results,Tryz.results43,go_sem,x0,x1,x2,x3,x4,x5,x6,x7,x8,x9,x10], ?_⟩
      refine ⟨(⟨⟨{ y with kids:=(K.len:Int) },minI (satF W K (o + 1)),S,anyI (satF W K (o + 1))⟩,(some ⟨gq,0,none⟩),full.length,cp⟩:TV), ?_,rfl,HBF.out.trans (below_putObj _ _ _ (by omega))⟩
      unfold satI mkI lenI okI
      simp only [HKD.out,HSE.out]
      simp
  case stop =>
    rintro D pre W2 hD hpre h hK
    exact h.elim
end
end Go.Proofs.YthlepbbdjmmelaaGreatDoor
