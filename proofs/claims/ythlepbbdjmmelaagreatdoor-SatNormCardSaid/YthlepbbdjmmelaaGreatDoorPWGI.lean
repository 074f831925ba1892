/- A region that draws its order and has one operation that all before it must precede, and all behind it must follow: that one may write. No conditions. The contract of rle.May. No conditions but the list's size. The contracts of calc.canonical, calc.checked, calc.Sub, Min and Max. No conditions but the lists' sizes, and that the slices' cells read as integers. The contract .. -/
import Derived.Test.YthlepbbdjmmelaaGreatDoorPWGF
import Derived.Test.YthlepbbdjmmelaaGreatDoorPWGH
import Derived.Test.YthlepbbdjmmelaaGreatDoorPWMA
import Derived.Test.YthlepbbdjmmelaaGreatDoorPWGA
import Derived.Test.YthlepbbdjmmelaaGreatDoorPWGC
import Derived.Test.YthlepbbdjmmelaaGreatDoorPWGG
import Derived.Test.YthlepbbdjmmelaaGreatDoorPWGB
import Derived.Test.YthlepbbdjmmelaaGreatDoorPWGE
import Derived.Test.YthlepbbdjmmelaaGreatDoorRows
import Derived.LoopTactic
import Derived.BigRegion
import Derived.Outline
namespace Go.Proofs.YthlepbbdjmmelaaGreatDoor
section
open Go.RowKit
def barOk (l:List Oper) (q:Nat):Bool :=
  Region.noSelect l.toArray && decide (q < l.length) &&
  ((List.range l.length).all fun i => match l[i]? with
    | some o => o.after.all fun e => !Region.binds .any e || decide (e.on < i)
    | none => true) &&
  ((List.range q).all fun i => match l[i]? with
    | some o => match o.guard with
      | some g => decide (g.1 < q)
      | none => true
    | none => true) &&
  ((List.range l.length).all fun i => decide (i≤q) || (List.range i).any fun j => decide (q≤j) && waits l.toArray i j) &&
  ((List.range q).all fun j => (List.range (q + 1)).any fun i => decide (j < i) && waits l.toArray i j) &&
  Region.lexB .any (l.take q).toArray &&
  Region.lexFrom .any l.toArray (l.drop (q + 1)).length (q + 1) (Array.replicate (q + 1) true ++ Array.replicate (l.length - (q + 1)) false)
structure BarOk (l:List Oper) (q:Nat):Prop where
  sel:Region.noSelect l.toArray = true
  lt:q < l.length
  back:∀ i o,l[i]? = some o→∀ e ∈ o.after,Region.binds .any e = true→e.on < i
  guard:∀ i o,i < q→l[i]? = some o→∀ g,o.guard = some g→g.1 < q
  after:∀ i,i < l.length→q < i→∃ j,q≤j∧j < i∧waits l.toArray i j = true
  before:∀ j,j < q→∃ i,j < i∧i≤q∧waits l.toArray i j = true
  lexP:Region.lexB .any (l.take q).toArray = true
  lexS:Region.lexFrom .any l.toArray (l.drop (q + 1)).length (q + 1) (Array.replicate (q + 1) true ++ Array.replicate (l.length - (q + 1)) false) = true
theorem barOk_spec {l:List Oper} {q:Nat} (h:barOk l q = true):BarOk l q:=by
  unfold barOk at h
  simp only [Bool.and_eq_true] at h
  obtain ⟨⟨⟨⟨⟨⟨⟨h1,h2⟩,h3⟩,h4⟩,h5⟩,h6⟩,h7⟩,h8⟩:=h
  rw [decide_eq_true_eq] at h2
  refine ⟨h1,h2, ?_, ?_, ?_, ?_,h7,h8⟩
  · intro i o ho e he hb
    have hi:i < l.length:=(List.getElem?_eq_some_iff.1 ho).1
    have:=List.all_eq_true.1 h3 i (by simpa using hi)
    rw [ho] at this
    have:=Array.all_eq_true'.1 this e he
    rw [hb] at this
    simpa using this
  · intro i o hi ho g hg
    have:=List.all_eq_true.1 h4 i (by simpa using hi)
    rw [ho] at this
    simp only [hg] at this
    simpa using this
  · intro i hi hqi
    have:=List.all_eq_true.1 h5 i (by simpa using hi)
    rw [Bool.or_eq_true,decide_eq_true_eq] at this
    rcases this with c | c
    · omega
    · obtain ⟨j,hj,hc⟩:=List.any_eq_true.1 c
      rw [Bool.and_eq_true,decide_eq_true_eq] at hc
      exact ⟨j,hc.1,by simpa using hj,hc.2⟩
  · intro j hj
    have:=List.all_eq_true.1 h6 j (by simpa using hj)
    obtain ⟨i,hi,hc⟩:=List.any_eq_true.1 this
    rw [Bool.and_eq_true,decide_eq_true_eq] at hc
    have:=List.mem_range.1 hi
    exact ⟨i,hc.1,by omega,hc.2⟩
section
variable {l:List Oper} {q:Nat} (B:BarOk l q)
include B
theorem BarOk.behind {listed:Array Bool} (hs:Shut l.toArray listed):∀ (n i:Nat),i≤n→i < l.length→q < i→(∀ o,l[i]? = some o→∀ e ∈ o.after,Region.binds .any e = true→listed.getD e.on false = true)→listed.getD q false = true:=by
  intro n
  induction n with
  | zero => intro i h1 _ h3;omega
  | succ n ih =>
    intro i h1 h2 h3 hd
    obtain ⟨j,j1,j2,j3⟩:=B.after i h2 h3
    have hoi:l.toArray[i]? = some l[i]:=by simp [h2]
    have hj:=waits_listed hoi (hd l[i] (List.getElem?_eq_getElem h2)) j3
    by_cases c:j = q
    · rw [c] at hj;exact hj
    · refine ih j (by omega) (by omega) (by omega) fun o ho e he hb => ?_
      exact hs.deps j o (by simpa using ho) hj e he hb
theorem BarOk.ahead {listed:Array Bool} (hs:Shut l.toArray listed) (hd:∀ o,l[q]? = some o→∀ e ∈ o.after,Region.binds .any e = true→listed.getD e.on false = true):∀ (n j:Nat),q - j≤n→j < q→listed.getD j false = true:=by
  intro n
  induction n with
  | zero => intro j h1 h2;omega
  | succ n ih =>
    intro j h1 h2
    obtain ⟨i,i1,i2,i3⟩:=B.before j h2
    by_cases c:i = q
    · subst c
      have hll:=B.lt
      have hoi:l.toArray[i]? = some l[i]:=by simp [hll]
      exact waits_listed hoi (hd l[i] (List.getElem?_eq_getElem hll)) i3
    · have hi:=ih i (by omega) (by omega)
      have hil:i < l.length:=by have:=B.lt;omega
      have hoi:l.toArray[i]? = some l[i]:=by simp [hil]
      exact waits_listed hoi (fun e he hb => hs.deps i l[i] hoi hi e he hb) i3
end
theorem wanted_take {l:List Oper} {q:Nat} (o:Oper) (t:Array Value) (hg:∀ g,o.guard = some g→g.1 < q):Region.wanted o (yielded (l.take q).toArray t) = Region.wanted o (yielded l.toArray t):=by
  unfold Region.wanted
  cases h:o.guard with
  | none => rfl
  | some g =>
    have hlt:=hg g h
    have e:yielded (l.take q).toArray t g.1 = yielded l.toArray t g.1:=by
      unfold yielded
      simp [hlt]
    simp only [e]
def todo (q:Nat) (listed:Array Bool):Nat:=((List.range q).filter fun i => !listed.getD i false).length
theorem todo_zero {q:Nat} {listed:Array Bool} (h:todo q listed = 0):∀ i,i < q→listed.getD i false = true:=by
  intro i hi
  unfold todo at h
  have:=List.eq_nil_of_length_eq_zero h
  cases hl:listed.getD i false with
  | true => rfl
  | false =>
    have hm:i ∈ (List.range q).filter fun i => !listed.getD i false:=by
      rw [List.mem_filter];exact ⟨by simpa using hi,by rw [hl];rfl⟩
    rw [this] at hm;cases hm
theorem filter_set (listed:Array Bool) (i:Nat) (hi:i < listed.size) (hl:listed.getD i false = false):∀ (r:List Nat),r.Nodup→i ∈ r→(r.filter fun j => !listed.getD j false).length = (r.filter fun j => !(listed.setIfInBounds i true).getD j false).length + 1:=by
  intro r
  induction r with
  | nil => intro _ h;cases h
  | cons a r ih =>
    intro hn hm
    have hn':=List.nodup_cons.1 hn
    by_cases c:a = i
    · subst c
      have e:(r.filter fun j => !listed.getD j false) = r.filter fun j => !(listed.setIfInBounds a true).getD j false:=by
        refine List.filter_congr fun j hj => ?_
        have:j ≠ a:=fun e => hn'.1 (e ▸ hj)
        rw [getD_set_ne false (Ne.symm this)]
      rw [List.filter_cons_of_pos (by rw [hl];rfl),List.filter_cons_of_neg (by simp [hi]),e]
      rfl
    · have hm':i ∈ r:=by
        rcases List.mem_cons.1 hm with h | h
        · exact absurd h.symm c
        · exact h
      have:=ih hn'.2 hm'
      have e:(listed.setIfInBounds i true).getD a false = listed.getD a false:=getD_set_ne false (Ne.symm c)
      cases hla:listed.getD a false with
      | true => rw [List.filter_cons_of_neg (by rw [hla];simp),List.filter_cons_of_neg (by rw [e,hla];simp)];exact this
      | false => rw [List.filter_cons_of_pos (by rw [hla];rfl),List.filter_cons_of_pos (by rw [e,hla];rfl)];simp only [List.length_cons];omega
theorem todo_set {q:Nat} {listed:Array Bool} {i:Nat} (hi:i < q) (hs:i < listed.size) (hl:listed.getD i false = false):todo q listed = todo q (listed.setIfInBounds i true) + 1 :=
  filter_set listed i hs hl _ List.nodup_range (by simpa using hi)
theorem prefix_bar {P:Program} {l:List Oper} {q:Nat} (B:BarOk l q) {C:World→Prop} {Q':Act→Prop} {Q:Exit→Act→World→Prop} (r:Nat)
    (hK:∀ (listed:Array Bool) a w,listed.size = l.length→(∀ i,i < l.length→listed.getD i false = decide (i < q))→C w→Q' a→wpAny P .any l.toArray Q r listed a w) :
    ∀ (n : Nat) (listed L : Array Bool) (a : Act) (w : World), Shut l.toArray listed → (∀ i, q ≤ i → listed.getD i false = false) → todo q listed = n → L.size = q → (∀ i, i < q → L.getD i false = listed.getD i false) → C w →
      wpAnyQ P .any (l.take q).toArray C Q' n L a→wpAny P .any l.toArray Q (n + r) listed a w:=by
  intro n
  have hql:=B.lt
  induction n with
  | zero =>
    intro listed L a w hs hno ht hL hLe hC h
    rw [Nat.zero_add]
    refine hK listed a w (by simpa using hs.size) (fun i hi => ?_) hC h.2
    by_cases c:i < q
    · rw [todo_zero ht i c];exact (decide_eq_true c).symm
    · rw [hno i (by omega)];exact (decide_eq_false c).symm
  | succ n ih =>
    intro listed L a w hs hno ht hL hLe hC h
    have hsz:listed.size = l.length:=by simpa using hs.size
    have hsome:∃ i,i < q∧listed.getD i false = false:=by
      unfold todo at ht
      cases hf:(List.range q).filter fun i => !listed.getD i false with
      | nil => rw [hf] at ht;simp at ht
      | cons x y =>
        have:x ∈ (List.range q).filter fun i => !listed.getD i false:=by rw [hf];simp
        rw [List.mem_filter] at this
        exact ⟨x,by simpa using this.1,by simpa using this.2⟩
    obtain ⟨j0,hj0,hl0⟩:=hsome
    rw [Nat.succ_add]
    refine ⟨fun h0 => ?_,fun i hi => ?_⟩
    · exfalso
      have key:∀ (m j:Nat),j≤m→j < q→listed.getD j false = false→Region.ready .any l.toArray listed ≠ []:=by
        intro m
        induction m with
        | zero =>
          intro j hjm hjq hjl hnil
          have hj0:j = 0:=by omega
          subst hj0
          have hm:0 ∈ Region.ready .any l.toArray listed:=by
            refine mem_ready.2 ⟨by rw [getD_flip (by rw [hsz];omega) true false];exact hjl,l[0]'(by omega),by simp,fun e he hb => ?_⟩
            have:=B.back 0 _ (List.getElem?_eq_getElem (by omega)) e he hb
            omega
          rw [hnil] at hm;cases hm
        | succ m ihm =>
          intro j hjm hjq hjl hnil
          by_cases hall:∃ k,k < j∧listed.getD k false = false
          · obtain ⟨k,hk,hkl⟩:=hall
            exact ihm k (by omega) (by omega) hkl hnil
          · have hm:j ∈ Region.ready .any l.toArray listed:=by
              refine mem_ready.2 ⟨by rw [getD_flip (by rw [hsz];omega) true false];exact hjl,l[j]'(by omega),by simp,fun e he hb => ?_⟩
              have:=B.back j _ (List.getElem?_eq_getElem (by omega)) e he hb
              cases hx:listed.getD e.on false with
              | true => rfl
              | false => exact absurd ⟨e.on,this,hx⟩ hall
            rw [hnil] at hm;cases hm
      exact key j0 j0 (Nat.le_refl _) hj0 hl0 h0
    · obtain ⟨hil,o,ho,hd⟩:=mem_ready.1 hi
      have hilen:i < l.length:=by
        rcases Nat.lt_or_ge i l.length with h | h
        · exact h
        · simp [List.getElem?_eq_none h] at ho
      have hol:l[i]? = some o:=by simpa using ho
      have hil':listed.getD i false = false:=by rw [getD_flip (by rw [hsz];exact hilen) false true];exact hil
      have hiq:i < q:=by
        rcases Nat.lt_trichotomy i q with c | c | c
        · exact c
        · exfalso
          subst c
          have:=B.ahead hs (fun o' ho' e he hb => by rw [hol] at ho';cases ho';exact hd e he hb) i j0 (by omega) hj0
          rw [hl0] at this;cases this
        · exfalso
          have:=B.behind hs i i (Nat.le_refl _) hilen c (fun o' ho' e he hb => by rw [hol] at ho';cases ho';exact hd e he hb)
          rw [hno q (Nat.le_refl _)] at this;cases this
      have hop:(l.take q).toArray[i]? = some o:=by simp [hiq,hol]
      have hir:i ∈ Region.ready .any (l.take q).toArray L:=by
        refine mem_ready.2 ⟨?_,o,hop,fun e he hb => ?_⟩
        · rw [getD_flip (by rw [hL];exact hiq) true false,hLe i hiq];exact hil'
        · have:=B.back i o hol e he hb
          rw [hLe _ (by omega)];exact hd e he hb
      have hq:=h.2 i hir
      have hwp:=wpOp_of_qOp (Q':=Q) (K':=fun a' w' => wpAny P .any l.toArray Q (n + r) (listed.setIfInBounds i true) a' w') hC (fun a' w' hC' hK' => ih (listed.setIfInBounds i true) (L.setIfInBounds i true) a' w' ⟨by simpa using hs.size, ?_⟩ ?_ ?_ (by simpa using hL) ?_ hC' hK') hq
      · unfold wpOp at hwp ⊢
        simp only [hop] at hwp
        simp only [ho]
        rw [wanted_take o a.tmps (fun g hg => B.guard i o hiq hol g hg)] at hwp
        exact hwp
      · intro k ok hk hkl e he hb
        by_cases hki:k = i
        · subst hki
          rw [ho] at hk;cases hk
          exact getD_set_true (hd e he hb)
        · rw [getD_set_ne false (Ne.symm hki)] at hkl
          exact getD_set_true (hs.deps k ok hk hkl e he hb)
      · intro k hk
        rw [getD_set_ne false (by omega)];exact hno k hk
      · have:=todo_set hiq (by rw [hsz];exact hilen) hil'
        omega
      · intro k hk
        by_cases hki:k = i
        · subst hki
          simp [hL,hsz,hk,hilen]
        · rw [getD_set_ne false (Ne.symm hki),getD_set_ne false (Ne.symm hki)];exact hLe k hk
theorem wp_region_bar {P:Program} {id:Nat} {Q:Exit→Act→World→Prop} {a:Act} {w:World} {l:List Oper} (q:Nat) (o:Oper) (hm:P.follows .mixedOrders = true) (ho:l[q]? = some o) (hok:barOk l q = true) (G:Value→World→Prop)
    (h:wpQuiet P (l.take q).toArray (fun w' => ∃ x:Past w,w' = x.1) (fun a' => ∀ x:Past w,Region.wanted o (yielded l.toArray a'.tmps) = true∧gives P G ((execOp a'.eval o).run P x.1) ∧
      ∀ v w'',G v w''→wpQuiet P l.toArray (fun w' => ∃ y:Past w'',w' = y.1) (fun a3 => ∀ w3,(∃ y:Past w'',w3 = y.1)→Q .normal a3 w3) (l.drop (q + 1)) (a'.put o.dst v)) (l.take q) a):(Code.region id l.toArray true).wp P Q a w:=by
  have B:=barOk_spec hok
  have hql:=B.lt
  refine wp_region_any hm ?_
  have hfuel:l.toArray.size = q + (l.length - q):=by simp;omega
  rw [hfuel]
  have hun:∀ (n j:Nat),(Array.replicate n false).getD j false = false:=fun n j => by
    simp only [Array.getD_eq_getD_getElem?,Array.getElem?_replicate];split <;> rfl
  have hlexP:=B.lexP
  simp only [Region.lexB,Bool.and_eq_true] at hlexP
  have hq0:=wpAnyQ_lex (P:=P) (C:=fun w' => ∃ x:Past w,w' = x.1) (md := .any) hlexP.1 (l.take q) 0 (Array.replicate (l.take q).toArray.size false) a (by simp) (by simpa using hlexP.2) h
  have hlen:(l.take q).length = q:=by rw [List.length_take];omega
  rw [hlen] at hq0
  refine prefix_bar B (l.length - q) ?_ q (Array.replicate (q + (l.length - q)) false) (Array.replicate (l.take q).toArray.size false) a _ ⟨by simp;omega,fun i oi _ hli => by rw [hun] at hli;cases hli⟩ (fun i _ => hun _ _) ?_ (by simp;omega) (fun i _ => by rw [hun,hun]) ⟨⟨_,(Below.refl _ _).drew⟩,rfl⟩ hq0
  · intro listed a' w' hsz hcan ⟨x,hx⟩ hQ'
    subst hx
    obtain ⟨hw,hg,hrest⟩:=hQ' x
    obtain ⟨r,hr⟩:∃ r,l.length - q = r + 1:=⟨l.length - q - 1,by omega⟩
    rw [hr]
    have hs:Shut l.toArray listed:=⟨by simpa using hsz,fun i oi hi hli e he hb => by
      have hil:i < l.length:=by
        rcases Nat.lt_or_ge i l.length with h | h
        · exact h
        · simp [List.getElem?_eq_none h] at hi
      rw [hcan i hil] at hli
      have:=B.back i oi (by simpa using hi) e he hb
      have h1:=of_decide_eq_true hli
      rw [hcan e.on (by omega)];exact decide_eq_true (by omega)⟩
    have hqr:q ∈ Region.ready .any l.toArray listed:=by
      refine mem_ready.2 ⟨by rw [getD_flip (by rw [hsz];exact hql) true false,hcan q hql];simp,o,by simpa using ho,fun e he hb => ?_⟩
      have:=B.back q o ho e he hb
      rw [hcan e.on (by omega)];exact decide_eq_true this
    refine ⟨fun h0 => (by rw [h0] at hqr;cases hqr),fun i hi => ?_⟩
    obtain ⟨hil,oi,hoi,hd⟩:=mem_ready.1 hi
    have hilen:i < l.length:=by
      rcases Nat.lt_or_ge i l.length with h | h
      · exact h
      · simp [List.getElem?_eq_none h] at hoi
    have hil':listed.getD i false = false:=by rw [getD_flip (by rw [hsz];exact hilen) false true];exact hil
    have hiq:i = q:=by
      rcases Nat.lt_trichotomy i q with c | c | c
      · rw [hcan i hilen,decide_eq_true c] at hil';cases hil'
      · exact c
      · exfalso
        have:=B.behind hs i i (Nat.le_refl _) hilen c (fun o' ho' e he hb => by
          have:l[i]? = some oi:=by simpa using hoi
          rw [this] at ho';cases ho';exact hd e he hb)
        rw [hcan q hql] at this;simp at this
    subst hiq
    have hoo:oi = o:=by
      have:l[i]? = some oi:=by simpa using hoi
      rw [this] at ho;cases ho;rfl
    subst hoo
    have hcanon:listed.setIfInBounds i true = Array.replicate (i + 1) true ++ Array.replicate (l.length - (i + 1)) false:=by
      apply Array.ext_getElem?
      intro k
      rw [Array.getElem?_setIfInBounds,Array.getElem?_append,Array.getElem?_replicate,Array.getElem?_replicate]
      simp only [Array.size_replicate]
      have hget:k < l.length→listed[k]? = some (decide (k < i)):=fun hk => by
        have:=hcan k hk
        rw [Array.getD_eq_getD_getElem?,Array.getElem?_eq_getElem (by omega)] at this
        rw [Array.getElem?_eq_getElem (by omega)];simpa using this
      by_cases c1:i = k
      · subst c1
        rw [if_pos rfl,if_pos (by omega),if_pos (by omega),if_pos (by omega)]
      · rw [if_neg c1]
        by_cases c2:k < i + 1
        · rw [if_pos c2,if_pos c2,hget (by omega)]
          congr 1;exact decide_eq_true (by omega)
        · rw [if_neg c2]
          by_cases c3:k < l.length
          · rw [hget c3,if_pos (by omega)]
            congr 1;exact decide_eq_false (by omega)
          · rw [if_neg (by omega),Array.getElem?_eq_none (by omega)]
    unfold wpOp
    simp only [hoi]
    rw [if_pos hw]
    refine .inl ?_
    unfold Oper.wp
    refine upon_of_gives hg fun v w'' hv => ?_
    have hsuf:=hrest v w'' hv
    rw [hcanon]
    have hdl:(l.drop (i + 1)).length = r:=by rw [List.length_drop];omega
    have hq2:=wpAnyQ_lex (P:=P) (C:=fun w' => ∃ y:Past w'',w' = y.1) (md := .any) B.sel (l.drop (i + 1)) (i + 1) (Array.replicate (i + 1) true ++ Array.replicate (l.length - (i + 1)) false) _ (fun j => by simp [List.getElem?_drop]) B.lexS hsuf
    rw [hdl] at hq2
    exact wpAny_of_quiet (C:=fun w' => ∃ y:Past w'',w' = y.1) (fun a3 w3 hw3 h3 => h3 w3 hw3) r _ _ _ ⟨⟨_,Below.refl _ _⟩,rfl⟩ hq2
  · unfold todo
    rw [List.filter_eq_self.2 (fun i _ => by rw [hun];rfl),List.length_range]
end
section
open Go.ChangeShapes Go.WideShapes Go.ChangeAt Go.RowKit
attribute [local irreducible] Go.Calls
set_option maxRecDepth 100000 in
set_option maxHeartbeats 4000000 in
theorem pmay_c (l:List Sg) (a:Option Addr) (cap:Nat) (w:World) (hl:l.length≤1099511627776) (hA:ArgS w a l) :
    Calls Tryz.prog 56 #[.slice a l.length cap] w fun e w' => e = .returned (.bool (mayB l))∧Below w.heap.size w w':=by
  have HA:=hidE hA;clear hA
  go_enter Tryz.func56,Tryz.ntmps56
  go_wp2_with fail
  ((with_reducible refine (changing_c _).mono ?_);rintro e w1 ⟨rfl,rfl⟩)
  have hb0:Below w.heap.size w (w.alloc (.cells #[.int .i64 0,.int .i64 0] 38)):=by (repeat (first | exact Below.refl _ _ | assumption | refine balloc ?_ _ | refine below_drewN ?_ _ | refine bstep (by assumption) ?_ | refine bstep (Past.prop _) ?_ | refine Below.setCell ?_ (by first | exact Nat.le_refl _ | (simp;done) | (simp;omega)) _))
  have B0:Blk (w.alloc (.cells #[.int .i64 0,.int .i64 0] 38)) w.heap.size #[.int .i64 0,.int .i64 0] 38:=Blk.made _ _ _
  have HB0:=hidE hb0;have HBL:=hidE B0
  clear hb0 B0
  obtain ⟨p,hp⟩:∃ p,p = w.heap.size:=⟨_,rfl⟩
  have HP:=hidE hp
  rw [← hp] at HBL ⊢
  generalize w.alloc (.cells #[.int .i64 0,.int .i64 0] 38) = w1 at *
  have hpw:w.heap.size≤p:=by omega
  clear hp
  go_wp2_with fail
  go_loopg [9,4,5] l.length (fun g vi _ _ wr => ∃ k:Nat,k≤l.length∧l.length - k≤g∧vi = .int .i64 k∧(∀ i,i < k→okAt (0,0) l i = true)∧Below w.heap.size w wr∧Blk wr p #[.int .i64 (prevV l k).1,.int .i64 (prevV l k).2] 38)
  case atStart => exact ⟨0,Nat.zero_le _,by omega,rfl,fun i hi => by omega,HB0.out,HBL.out⟩
  case round =>
    clear HB0 HBL
    obtain ⟨k,hk,hg,rfl,hs,hb,hB⟩:=hrel
    have HS:=hidE hs;have HB:=hidE hb;have HBP:=hidE hB;clear hs hb hB
    by_cases hlt:k < l.length
    · obtain ⟨b,off,rfl,hbb,hc⟩:=(HA.out.past HB.out) (by omega)
      have hbw:b < w.heap.size:=by
        obtain ⟨b',off',e,hb',_⟩:=HA.out (by omega)
        simp at e;omega
      obtain ⟨c0,c1,c2⟩:=hc.get hlt
      have hpz:=HBP.out.lt
      have HV:=hidE (fun w => valid_c (l.getD k (0,0,0)) w)
      change Hid (∀ w,Calls _ _ #[S (ats l k) (vls l k).1 (vls l k).2] _ _) at HV
      have HPS:=hidE (prevV_succ l k)
      obtain ⟨wo,rfl⟩:∃ wo:World,wo = wr:=⟨_,rfl⟩
      cases hok:okS (l.getD k (0,0,0))
      · have HX:=hidE (mayB_bad hlt (show okAt (0,0) l k = false by unfold okAt;rw [hok];rfl))
        rw [hok] at HV
        clear hc
        generalize ats l k = u at *
        generalize vls l k = v at *
        go_wp2_with fail
        refine wp_region_past_lit (by kernel_rfl) (by kernel_rfl) ?_
        have hcp:=Past.cell (W:=wo.alloc (.cells #[.int .i64 u,.int .i64 v.1,.int .i64 v.2] 51))
        repeat (go_big_quiet_step ((go_at_call 53;exact Past.call _ (HV.out _))))
        refine wpQuiet_nil ?_
        rintro _ ⟨x',rfl⟩
        have o1:Below w.heap.size w x'.1:=by have:=HB.out;(repeat (first | exact Below.refl _ _ | assumption | refine balloc ?_ _ | refine below_drewN ?_ _ | refine bstep (by assumption) ?_ | refine bstep (Past.prop _) ?_ | refine Below.setCell ?_ (by first | exact Nat.le_refl _ | (simp;done) | (simp;omega)) _))
        clear hcp
        generalize x'.1 = w5 at *
        go_wp2
        go_ret
        exact ⟨ret_bool (by rw [HX.out]),o1⟩
      · rw [hok] at HV
        have HOK:=hidE hok
        have HPV:=hidE (show okAt (0,0) l k = (!(vls l k == prevV l k) && (decide (k = 0) || decide (ats l (k - 1) < ats l k))) by unfold okAt;rw [HOK.out,Bool.true_and];rfl)
        have HQ:Blk (wo.alloc (.cells #[.int .i64 (ats l k),.int .i64 (vls l k).1,.int .i64 (vls l k).2] 51)) wo.heap.size #[.int .i64 (ats l k),.int .i64 (vls l k).1,.int .i64 (vls l k).2] 51:=Blk.made _ _ _
        have hqp:wo.heap.size ≠ p:=by omega
        have HPA:Blk (wo.alloc (.cells #[.int .i64 (ats l k),.int .i64 (vls l k).1,.int .i64 (vls l k).2] 51)) p #[.int .i64 (prevV l k).1,.int .i64 (prevV l k).2] 38:=HBP.out.alloc _
        have HBA:Below w.heap.size w (wo.alloc (.cells #[.int .i64 (ats l k),.int .i64 (vls l k).1,.int .i64 (vls l k).2] 51)):=by have:=HB.out;(repeat (first | exact Below.refl _ _ | assumption | refine balloc ?_ _ | refine below_drewN ?_ _ | refine bstep (by assumption) ?_ | refine bstep (Past.prop _) ?_ | refine Below.setCell ?_ (by first | exact Nat.le_refl _ | (simp;done) | (simp;omega)) _))
        have hqz:=HQ.lt;have hpz2:=HPA.lt
        have HHQ:=hidE HQ;have HHP:=hidE HPA;have HHB:=hidE HBA
        have hbA:b < (wo.alloc (.cells #[.int .i64 (ats l k),.int .i64 (vls l k).1,.int .i64 (vls l k).2] 51)).heap.size:=by simp;omega
        have HCS:=hidE (show CellsS (wo.alloc (.cells #[.int .i64 (ats l k),.int .i64 (vls l k).1,.int .i64 (vls l k).2] 51)) b off l from hc.below ((Below.refl _ _).alloc (Nat.le_refl _) _) hbb)
        have hbp:b ≠ p:=by omega
        clear hc HQ HPA HBA HBP HB
        go_wp2_with fail
        clear c0 c1 c2
        generalize wo.heap.size = q at *
        generalize hWA:wo.alloc (.cells #[.int .i64 (ats l k),.int .i64 (vls l k).1,.int .i64 (vls l k).2] 51) = WA at *
        have q0:=HHQ.out.cell 0;have q1:=HHQ.out.cell 1;have q2:=HHQ.out.cell 2
        simp at q0 q1 q2
        clear hWA
        refine wp_region_bar 7 _ (by kernel_rfl) rfl (by kernel_rfl) (fun v w'' => v = .bool (!((vls l k) == (prevV l k)))∧Blk w'' p #[.int .i64 (vls l k).1,.int .i64 (vls l k).2] 38∧WA.grownBy w'' (some p)) ?_
        simp only [List.take_succ_cons,List.take_zero,List.drop_succ_cons,List.drop_zero]
        have hcp:=Past.cell (W:=WA)
        repeat (go_big_quiet_step ((go_at_call 53;exact Past.call _ (HV.out _))))
        refine wpQuiet_nil ?_
        intro x
        refine ⟨rfl, ?_, ?_⟩
        · simp [go_sem,gives]
          exact (chg_c p (prevV l k).1 (prevV l k).2 (vls l k).1 (vls l k).2 _ (HHP.out.past x.2)).mono fun e w'' ⟨he,h1,h2⟩ => ⟨_,he,rfl,h1,grown_trans (grown_any x.2) h2⟩
        · rintro v w'' ⟨rfl,hBn,hg⟩
          have hbn:Below w.heap.size w w'':=HHB.out.grown hg (by have:=HHB.out.size;omega) (fun k hk => by simp at hk;omega)
          have HG:=hidE hbn;have HBN:=hidE hBn
          have hq'':Blk w'' q #[.int .i64 (ats l k),.int .i64 (vls l k).1,.int .i64 (vls l k).2] 51:=HHQ.out.grown hg (by intro e;simp at e;omega)
          have n0:=hq''.cell 0
          simp at n0
          have hqz'':=hq''.lt
          have hraw:CellsS w'' b off l:=fun i hi => by
            obtain ⟨h1,h2,h3⟩:=HCS.out i hi
            have hblk:=hg.block b hbA (by intro e;simp at e;omega)
            exact ⟨(World.cell?_of_block (w:=WA) (a:=⟨b,_,none⟩) hblk).trans h1,(World.cell?_of_block (w:=WA) (a:=⟨b,_,none⟩) hblk).trans h2,(World.cell?_of_block (w:=WA) (a:=⟨b,_,none⟩) hblk).trans h3⟩
          have hbz'':b < w''.heap.size:=Nat.lt_of_lt_of_le hbA hg.size
          have HRAW:=hidE hraw
          clear hbn hBn hq'' hg q0 q1 q2 hraw
          simp only [Act.put,List.setIfInBounds_toArray,List.set_cons_succ,List.set_cons_zero]
          cases hr:(!(vls l k == prevV l k))
          · have HX:=hidE (mayB_bad hlt (show okAt (0,0) l k = false by rw [HPV.out,hr];rfl))
            clear hcp
            have hcq:=Past.cell (W:=w'')
            repeat (go_big_quiet_step (fail))
            refine wpQuiet_nil ?_
            rintro _ ⟨y,rfl⟩
            have o1:Below w.heap.size w y.1:=bstep y.2 HG.out
            clear hcq
            generalize y.1 = w5 at *
            go_wp2
            go_ret
            exact ⟨ret_bool (by rw [HX.out]),o1⟩
          · have HR:=hidE (show okAt (0,0) l k = (decide (k = 0) || decide (ats l (k - 1) < ats l k)) by rw [HPV.out,hr,Bool.true_and])
            clear hr
            by_cases hk0:k = 0
            · have HX:=hidE (show ∀ i,i < k + 1→okAt (0,0) l i = true from fun i hi => by
                by_cases e:i = k
                · rw [e,HR.out,decide_eq_true hk0];rfl
                · exact HS.out i (by omega))
              have hd:decide ((0:Int) < (k:Int)) = false:=decide_eq_false (by omega)
              clear hcp
              have hcq:=Past.cell (W:=w'')
              repeat (go_big_quiet_step (fail))
              refine wpQuiet_nil ?_
              rintro _ ⟨y,rfl⟩
              have o1:Below w.heap.size w y.1:=bstep y.2 HG.out
              have o2:=HBN.out.past y.2
              clear hcq
              generalize y.1 = w5 at *
              go_wp2
              go_roundg (l.length - (k + 1))
              case measure => omega
              case rel => exact ⟨k + 1,by omega,Nat.le_refl _,by go_num,HX.out,o1,by rw [HPS.out];exact o2⟩
            · obtain ⟨j,rfl⟩:∃ j,k = j + 1:=⟨k - 1,by omega⟩
              have hd:decide ((0:Int) < (j:Int) + 1) = true:=decide_eq_true (by omega)
              obtain ⟨m0,m1,m2⟩:=HRAW.out.get (i:=j) (by omega)
              clear m1 m2
              by_cases hle:ats l (j + 1)≤ats l j
              · have HX:=hidE (mayB_bad hlt (show okAt (0,0) l (j + 1) = false by
                  rw [HR.out,Nat.add_sub_cancel,decide_eq_false hk0,decide_eq_false (by omega)];rfl))
                have hd2:decide (ats l (j + 1)≤ats l j) = true:=decide_eq_true hle
                clear hcp
                have hcq:=Past.cell (W:=w'')
                repeat (go_big_quiet_step (fail))
                refine wpQuiet_nil ?_
                rintro _ ⟨y,rfl⟩
                have o1:Below w.heap.size w y.1:=bstep y.2 HG.out
                clear hcq
                generalize y.1 = w5 at *
                go_wp2
                go_ret
                exact ⟨ret_bool (by rw [HX.out]),o1⟩
              · have HX:=hidE (show ∀ i,i < j + 1 + 1→okAt (0,0) l i = true from fun i hi => by
                  by_cases e:i = j + 1
                  · rw [e,HR.out,Nat.add_sub_cancel,decide_eq_true (show ats l j < ats l (j + 1) by omega),Bool.or_true]
                  · exact HS.out i (by omega))
                have hd2:decide (ats l (j + 1)≤ats l j) = false:=decide_eq_false hle
                clear hcp
                have hcq:=Past.cell (W:=w'')
                repeat (go_big_quiet_step (fail))
                refine wpQuiet_nil ?_
                rintro _ ⟨y,rfl⟩
                have o1:Below w.heap.size w y.1:=bstep y.2 HG.out
                have o2:=HBN.out.past y.2
                clear hcq
                generalize y.1 = w5 at *
                go_wp2
                go_roundg (l.length - (j + 1 + 1))
                case measure => omega
                case rel => exact ⟨j + 1 + 1,by omega,Nat.le_refl _,by go_num,HX.out,o1,by rw [HPS.out];exact o2⟩
    · have hk':k = l.length:=by omega
      subst hk'
      have HX:=hidE (mayB_good HS.out)
      go_wp2
      go_ret
      exact ⟨ret_bool (by rw [HX.out]),HB.out⟩
end
section
open Go.ChangeShapes Go.WideShapes Go.ChangeAt Go.RowKit
attribute [local irreducible] Go.Calls
theorem all_no {L:List (List Sg)} {i:Nat} (hi:i < L.length) (h:mayB (L.getD i []) = false):L.all mayB = false:=by
  rw [getD_get _ _ _ hi] at h
  rw [List.all_eq_false]
  exact ⟨_,List.getElem_mem hi,by rw [h];exact Bool.false_ne_true⟩
theorem all_yes {L:List (List Sg)} (h:∀ i,i < L.length→mayB (L.getD i []) = true):L.all mayB = true:=by
  rw [List.all_eq_true]
  intro x hx
  obtain ⟨i,hi,rfl⟩:=List.getElem_of_mem hx
  have:=h i hi
  rw [getD_get _ _ _ hi] at this;exact this
set_option maxRecDepth 100000 in
set_option maxHeartbeats 1000000 in
theorem canon_c (L:List (List Sg)) (a:Option Addr) (cap:Nat) (w:World) (hn:L.length≤999999990) (hl:lenR L≤999999990) (hA:ArgR w a L) :
    Calls Tryz.prog 40 #[.slice a L.length cap] w fun e w' => e = .returned (.bool (L.all mayB))∧Below w.heap.size w w':=by
  have HA:=hidE hA;clear hA
  go_enter Tryz.func40,Tryz.ntmps40
  go_wp2
  go_loopg [7,4] L.length (fun gh vi _ wr => ∃ n:Nat,vi = .int .i64 n∧n≤L.length∧L.length - n≤gh∧(∀ i,i < n→mayB (L.getD i []) = true)∧Below w.heap.size w wr)
  case atStart => exact ⟨0,rfl,by omega,by omega,fun i hi => by omega,Below.refl _ _⟩
  case round =>
    obtain ⟨n,rfl,hnl,hg,hs,hbr⟩:=hrel
    have HS:=hidE hs;have HBR:=hidE hbr
    clear hs
    by_cases hlt:n < L.length
    · obtain ⟨b,off,rfl,hb,hc⟩:=(HA.out.past hbr) (by omega)
      obtain ⟨ai,ci,d0,hAi⟩:=hc n hlt
      have HAI:=hidE hAi
      have hln:=lenR_get hlt
      have HV:=hidE (fun w hA => pmay_c (L.getD n []) ai ci w (by omega) hA)
      have HF:=hidE (fun h => all_no hlt h)
      have HNS:=hidE (fun (he:mayB (L.getD n []) = true) => show ∀ i,i < n + 1→mayB (L.getD i []) = true from fun i hi => by
        by_cases e:i = n
        · rw [e];exact he
        · exact HS.out i (by omega))
      clear hc hAi hbr
      generalize L.getD n [] = G at *
      cases hm:mayB G
      · have HD:=hidE (HF.out hm)
        rw [hm] at HV
        clear HNS HF hm
        go_wp2_with fail
        ((with_reducible refine (HV.out _ HAI.out).mono ?_);rintro e w1 ⟨rfl,hb1⟩)
        go_wp2
        go_ret
        rw [HD.out]
        exact ⟨rfl,bstep hb1 HBR.out⟩
      · have HN:=hidE (HNS.out hm)
        rw [hm] at HV
        clear HNS HF hm
        go_wp2_with fail
        ((with_reducible refine (HV.out _ HAI.out).mono ?_);rintro e w1 ⟨rfl,hb1⟩)
        have o1:=bstep hb1 HBR.out
        clear hb1 d0
        go_wp2
        go_roundg (L.length - (n + 1))
        case measure => omega
        case rel => exact ⟨n + 1,by go_num,by omega,Nat.le_refl _,HN.out,o1⟩
    · have hn':n = L.length:=by omega
      subst hn'
      have HE:=hidE (all_yes HS.out)
      go_wp2
      go_ret
      rw [HE.out]
      exact ⟨rfl,HBR.out⟩
end
section
open Go.ChangeShapes Go.WideShapes Go.ChangeAt Go.RowKit
attribute [local irreducible] Go.Calls
theorem of_ok {l F:List Sg} {a:Option Addr} {cap:Nat} {w:World} (hl:l.length≤1099511627776) (hA:ArgS w a l) (ho:l.all okS = true) (hF:IsOf l F) :
    Calls Tryz.prog 39 #[.slice a l.length cap] w (OfIs w F 0) :=
  (of_c l a cap w hl hA).mono fun e w' ⟨v,f,er,h1,h2,h3,h4⟩ => by
    rcases h3 with ⟨_,rfl,h5⟩ | ⟨h5,_⟩
    · exact ⟨v,h1,by rw [hF.unique h5];exact h2,h4⟩
    · rw [ho] at h5;cases h5
theorem of_bad {l:List Sg} {a:Option Addr} {cap:Nat} {w:World} (hl:l.length≤1099511627776) (hA:ArgS w a l) (ho:l.all okS = false) :
    Calls Tryz.prog 39 #[.slice a l.length cap] w (OfIs w [] 10) :=
  (of_c l a cap w hl hA).mono fun e w' ⟨v,f,er,h1,h2,h3,h4⟩ => by
    rcases h3 with ⟨h5,_⟩ | ⟨_,rfl,rfl⟩
    · rw [ho] at h5;cases h5
    · exact ⟨v,h1,h2,h4⟩
theorem box_c (x y m c:Int) (w:World):Calls Tryz.prog 25 #[.int .i64 x,.int .i64 y,V m c] w (OfIs w (boxS x y (m,c)).1 (boxS x y (m,c)).2):=by
  by_cases hxy:y < x
  · have HE:=hidE (show boxS x y (m,c) = ([],2) by unfold boxS;rw [if_pos hxy])
    rw [HE.out]
    go_enter Tryz.func25,Tryz.ntmps25
    go_wp2
    go_ret2
    exact ⟨_,rfl,sliS_nil _,by (repeat (first | exact Below.refl _ _ | assumption | refine balloc ?_ _ | refine below_drewN ?_ _ | refine bstep (by assumption) ?_ | refine bstep (Past.prop _) ?_ | refine Below.setCell ?_ (by first | exact Nat.le_refl _ | (simp;done) | (simp;omega)) _))⟩
  · have hz:¬ y < x:=hxy
    have HK:∀ w1 p,Blk w1 p #[.int .i64 x,.int .i64 m,.int .i64 c,.int .i64 y,.int .i64 0,.int .i64 0] 51→Calls Tryz.prog 39 #[.slice (some ⟨p,0,none⟩) 2 2] w1 (OfIs w1 (boxS x y (m,c)).1 (boxS x y (m,c)).2):=by
      intro w1 p hB
      unfold boxS
      rw [if_neg hxy]
      cases ho:(okS (x,(m,c)) && okS (y,(0,0)))
      · exact of_bad (l:=[(x,(m,c)),(y,(0,0))]) (by simp) (argS_blk (t:=51) hB) (by simpa [List.all_cons] using ho)
      · have h2:okS (x,(m,c)) = true∧okS (y,(0,0)) = true:=by simpa using ho
        exact of_ok (l:=[(x,(m,c)),(y,(0,0))]) (by simp) (argS_blk (t:=51) hB) (by simpa [List.all_cons] using ho) (boxL_of (by omega) h2.1 h2.2)
    have HKK:=hidE HK;clear HK hxy
    generalize boxS x y (m,c) = g at *
    go_enter Tryz.func25,Tryz.ntmps25
    go_wp2_with (go_at_call 39;((with_reducible refine (HKK.out _ _ (Blk.made_at _ _ _ _ (by simp))).mono ?_);rintro e w1 ⟨v,rfl,hv,hb⟩))
    go_ret2
    exact ⟨_,rfl,hv,by (repeat (first | exact Below.refl _ _ | assumption | refine balloc ?_ _ | refine below_drewN ?_ _ | refine bstep (by assumption) ?_ | refine bstep (Past.prop _) ?_ | refine Below.setCell ?_ (by first | exact Nat.le_refl _ | (simp;done) | (simp;omega)) _))⟩
end
section
open Go.ChangeShapes Go.WideShapes Go.ChangeAt Go.RowKit
attribute [local irreducible] Go.Calls
end
section
open Go.ChangeShapes Go.WideShapes Go.ChangeAt Go.RowKit
attribute [local irreducible] Go.Calls
theorem doS_may {k:Int} {F G:List Sg} (h:(doS k F G).2 = 0):mayB (doS k F G).1 = true:=by
  unfold doS at h ⊢
  split
  · rename_i h1;rw [if_pos h1] at h;exact absurd h (by decide)
  · rename_i h1
    rw [if_neg h1] at h
    split
    · rename_i h2
      obtain ⟨a,b⟩:mayB F = true∧mayB G = true:=by simpa using h1
      exact mayB_iff.2 (opL_spec (mayB_iff.1 a) (mayB_iff.1 b) h2).1
    · rename_i h2;rw [if_neg h2] at h;exact absurd h (by decide)
def ArgQ (w:World) (a:Option Addr) (L:List (List Sg)):Prop:=0 < L.length→∃ b off,a = some ⟨b,off,none⟩∧b < w.heap.size∧∀ i,i < L.length→∃ v,w.cell? ⟨b,off + i,none⟩ = some v∧SliS w v (L.getD i [])
theorem ArgQ.past {w w':World} {a:Option Addr} {L:List (List Sg)} (h:ArgQ w a L) (hb:Below w.heap.size w w'):ArgQ w' a L:=fun hl => by
  obtain ⟨b,off,e,h1,h2⟩:=h hl
  refine ⟨b,off,e,Nat.lt_of_lt_of_le h1 hb.size,fun i hi => ?_⟩
  obtain ⟨v,h3,h4⟩:=h2 i hi
  exact ⟨v,(hb.cell (p:=⟨b,_,none⟩) h1).trans h3,h4.past hb⟩
theorem ArgQ.row {w:World} {a:Option Addr} {L:List (List Sg)} (h:ArgQ w a L):ArgR w a L:=fun hl => by
  obtain ⟨b,off,e,h1,h2⟩:=h hl
  refine ⟨b,off,e,h1,fun i hi => ?_⟩
  obtain ⟨v,h3,a',c,rfl,_,_,h4⟩:=h2 i hi
  exact ⟨a',c,h3,h4⟩
set_option maxRecDepth 100000 in
set_option maxHeartbeats 2000000 in
theorem cadd_c (L:List (List Sg)) (a:Option Addr) (cap:Nat) (w:World) (hn:L.length≤999999990) (hl:lenR L≤999999990) (hA:ArgQ w a L) :
    Calls Tryz.prog 27 #[.slice a L.length cap] w (OfIs w (sumS L).1 (sumS L).2):=by
  have HA:=hidE hA
  have HCN:=hidE (canon_c L a cap w hn hl hA.row)
  clear hA
  cases hm:L.all mayB
  · have HE:=hidE (show sumS L = ([],5) by unfold sumS;rw [if_neg (by rw [hm];decide)])
    rw [hm] at HCN
    rw [HE.out]
    go_enter Tryz.func27,Tryz.ntmps27
    go_wp2_with fail
    ((with_reducible refine (HCN.out).mono ?_);rintro e w1 ⟨rfl,hb1⟩)
    go_wp2
    go_ret2
    exact ⟨_,rfl,sliS_nil _,hb1⟩
  · have HE:=hidE (show sumS L = sumE L by unfold sumS;rw [if_pos hm])
    have HM:=hidE (fun i (hi:i < L.length) => show mayB (L.getD i []) = true from by
      rw [getD_get _ _ _ hi];exact List.all_eq_true.1 hm _ (List.getElem_mem hi))
    rw [hm] at HCN
    rw [HE.out]
    clear hm HE
    go_enter Tryz.func27,Tryz.ntmps27
    go_wp2_with fail
    ((with_reducible refine (HCN.out).mono ?_);rintro e w1 ⟨rfl,hb1⟩)
    have HB1:=hidE hb1
    clear hb1 HCN
    go_wp2_with fail
    go_loopg [4,13,6,7] L.length (fun gh vf vi _ _ wr2 => ∃ (n:Nat) (v:Value),v = vf∧vi = .int .i64 n∧n≤L.length∧L.length - n≤gh∧(sumE (L.take n)).2 = 0∧mayB (sumE (L.take n)).1 = true∧(sumE (L.take n)).1.length≤lenR (L.take n)∧SliS wr2 v (sumE (L.take n)).1∧Below w.heap.size w wr2)
    case atStart => exact ⟨0,.slice none 0 0,rfl,rfl,by omega,by omega,rfl,rfl,by simp [sumE],sliS_nil _,HB1.out⟩
    case round =>
      obtain ⟨n,v,rfl,rfl,hnl,hg2,h0,hmay,hlen,hv,hb2⟩:=hrel
      have HB2:=hidE hb2;have H0:=hidE h0
      by_cases hlt:n < L.length
      · obtain ⟨b,off,rfl,hb,hc⟩:=(HA.out.past hb2) (by omega)
        obtain ⟨vi,d0,ai,ci,rfl,hi1,hi2,hAi⟩:=hc n hlt
        obtain ⟨a1,c1,rfl,hv1,hv2,hA1⟩:=hv
        have HST:=hidE (sumE_step hlt h0)
        have HBD:=hidE (fun h => sumE_bad (L:=L) (n:=n + 1) h)
        have hls:=lenR_step hlt
        have hlt2:=lenR_take L (n + 1)
        have hmi:=HM.out n hlt
        have HDL:=hidE (doS_len 0 (sumE (L.take n)).1 (L.getD n []))
        have HDE:=hidE (fun h => doS_err (k:=0) (F:=(sumE (L.take n)).1) (G:=L.getD n []) h)
        have HDM:=hidE (fun h => doS_may (k:=0) (F:=(sumE (L.take n)).1) (G:=L.getD n []) h)
        have HDO:=hidE (comb_plus (sumE (L.take n)).1 (L.getD n []) a1 ai c1 ci wr hv1 hv2 hi1 hi2 (by omega) hA1 hAi hmay hmi)
        rw [← HST.out] at HDL HDE HDO HDM
        clear hc hAi hA1 hb2 h0 hmay hmi hi1 hi2 hv1 hv2
        generalize (sumE (L.take n)).1 = f at *
        generalize L.getD n [] = G at *
        generalize hqq:sumE (L.take (n + 1)) = q at *
        have HQQ:=hidE hqq
        clear hqq
        by_cases hq:q.2 = 0
        · have hd:(q.2 != 0) = false:=by rw [bne_eq_false_iff_eq];exact hq
          have HQ:=hidE hq
          have HQM:=hidE (HDM.out hq)
          clear hq HBD HDE HDM
          go_wp2_with fail
          ((with_reducible refine (HDO.out).mono ?_);rintro e w3 ⟨v3,rfl,hv3,hb3⟩)
          have o1:=bstep hb3 HB2.out
          clear hb3 d0
          go_wp2
          go_roundg (L.length - (n + 1))
          case measure => omega
          case rel => exact ⟨n + 1,v3,rfl,by go_num,by omega,Nat.le_refl _,by rw [HQQ.out];exact HQ.out,by rw [HQQ.out];exact HQM.out,by rw [HQQ.out];have:=HDL.out;omega,by rw [HQQ.out];exact hv3,o1⟩
        · have hd:(q.2 != 0) = true:=bne_iff_ne.2 hq
          have HD:=hidE (HBD.out hq)
          have HQ1:=hidE (HDE.out hq)
          clear hq HBD HDE HDM
          go_wp2_with fail
          ((with_reducible refine (HDO.out).mono ?_);rintro e w3 ⟨v3,rfl,hv3,hb3⟩)
          have o1:=bstep hb3 HB2.out
          clear hb3 d0
          go_wp2
          go_ret2
          rw [HD.out,HQ1.out]
          exact ⟨_,rfl,sliS_nil _,o1⟩
      · have hn':n = L.length:=by omega
        subst hn'
        have h0':=H0.out
        rw [List.take_length] at h0' hv
        have HH:=hidE h0';have HV2:=hidE hv
        clear h0' hv h0 H0 hlen hb2 hmay
        go_wp2
        go_ret2
        rw [HH.out]
        exact ⟨_,rfl,HV2.out,HB2.out⟩
end
section
open Go.ChangeShapes Go.WideShapes Go.ChangeAt Go.RowKit
attribute [local irreducible] Go.Calls
def unitB (m c:Int):Bool:=decide (1≤m) && (decide (m≤1073741824) && (decide (1≤c) && decide (c≤1073741824)))
set_option maxRecDepth 100000 in
theorem isUnit_c (m c:Int) (w:World):Calls Tryz.prog 23 #[V m c] w fun e w' => e = .returned (.bool (unitB m c))∧Below w.heap.size w w':=by
  obtain ⟨b1,h1⟩:∃ b,decide (1≤m) = b:=⟨_,rfl⟩
  obtain ⟨b2,h2⟩:∃ b,decide (m≤1073741824) = b:=⟨_,rfl⟩
  obtain ⟨b3,h3⟩:∃ b,decide (1≤c) = b:=⟨_,rfl⟩
  obtain ⟨b4,h4⟩:∃ b,decide (c≤1073741824) = b:=⟨_,rfl⟩
  have HU:=hidE (show unitB m c = (b1 && (b2 && (b3 && b4))) by unfold unitB;rw [h1,h2,h3,h4])
  rw [HU.out]
  cases b1 with
  | false =>
    go_enter Tryz.func23,Tryz.ntmps23
    go_wp2
    go_ret
    exact ⟨rfl,by (repeat (first | exact Below.refl _ _ | assumption | refine balloc ?_ _ | refine below_drewN ?_ _ | refine bstep (by assumption) ?_ | refine bstep (Past.prop _) ?_ | refine Below.setCell ?_ (by first | exact Nat.le_refl _ | (simp;done) | (simp;omega)) _))⟩
  | true =>
    cases b2 with
    | false =>
      go_enter Tryz.func23,Tryz.ntmps23
      go_wp2
      go_ret
      exact ⟨rfl,by (repeat (first | exact Below.refl _ _ | assumption | refine balloc ?_ _ | refine below_drewN ?_ _ | refine bstep (by assumption) ?_ | refine bstep (Past.prop _) ?_ | refine Below.setCell ?_ (by first | exact Nat.le_refl _ | (simp;done) | (simp;omega)) _))⟩
    | true =>
      cases b3 with
      | false =>
        go_enter Tryz.func23,Tryz.ntmps23
        go_wp2
        go_ret
        exact ⟨rfl,by (repeat (first | exact Below.refl _ _ | assumption | refine balloc ?_ _ | refine below_drewN ?_ _ | refine bstep (by assumption) ?_ | refine bstep (Past.prop _) ?_ | refine Below.setCell ?_ (by first | exact Nat.le_refl _ | (simp;done) | (simp;omega)) _))⟩
      | true =>
        cases b4 with
        | false =>
          go_enter Tryz.func23,Tryz.ntmps23
          go_wp2
          go_ret
          exact ⟨rfl,by (repeat (first | exact Below.refl _ _ | assumption | refine balloc ?_ _ | refine below_drewN ?_ _ | refine bstep (by assumption) ?_ | refine bstep (Past.prop _) ?_ | refine Below.setCell ?_ (by first | exact Nat.le_refl _ | (simp;done) | (simp;omega)) _))⟩
        | true =>
          go_enter Tryz.func23,Tryz.ntmps23
          go_wp2
          go_ret
          exact ⟨rfl,by (repeat (first | exact Below.refl _ _ | assumption | refine balloc ?_ _ | refine below_drewN ?_ _ | refine bstep (by assumption) ?_ | refine bstep (Past.prop _) ?_ | refine Below.setCell ?_ (by first | exact Nat.le_refl _ | (simp;done) | (simp;omega)) _))⟩
set_option maxRecDepth 100000 in
theorem units_c (n m c:Int) (w:World) (hn:0≤n∧n≤4096) (hm:1≤m∧m≤1073741824) (hc:1≤c∧c≤1073741824):Calls Tryz.prog 26 #[.int .i64 n,V m c] w fun e w' => e = .returned (.agg #[.int .i64 (n * m),.int .i64 (n * c)])∧Below w.heap.size w w':=by
  have e1:0≤n * m:=Int.mul_nonneg hn.1 (by omega)
  have e2:0≤n * c:=Int.mul_nonneg hn.1 (by omega)
  have e3:n * m≤4096 * 1073741824:=Int.mul_le_mul hn.2 hm.2 (by omega) (by omega)
  have e4:n * c≤4096 * 1073741824:=Int.mul_le_mul hn.2 hc.2 (by omega) (by omega)
  have r1:IntKind.i64.wrap (n * m) = n * m:=IntWalk.i64_in _ (by omega)
  have r2:IntKind.i64.wrap (n * c) = n * c:=IntWalk.i64_in _ (by omega)
  have r3:wrap64 (n * m) = n * m:=by unfold wrap64;omega
  have r4:wrap64 (n * c) = n * c:=by unfold wrap64;omega
  clear hn hm hc e1 e2 e3 e4
  go_enter Tryz.func26,Tryz.ntmps26
  go_wp2
  refine bodyPost_ret (v := .agg #[.int .i64 (n * m),.int .i64 (n * c)]) (by simp [results,Tryz.results26,go_sem]) rfl ⟨rfl,by (repeat (first | exact Below.refl _ _ | assumption | refine balloc ?_ _ | refine below_drewN ?_ _ | refine bstep (by assumption) ?_ | refine bstep (Past.prop _) ?_ | refine Below.setCell ?_ (by first | exact Nat.le_refl _ | (simp;done) | (simp;omega)) _))⟩
theorem argQ_twoU {w:World} {p:Nat} {F G:List Sg} {v1 v2:Value} {t:TypeId} (h:Blk w p #[v1,v2] t) (h1:SliS w v1 F) (h2:SliS w v2 G):ArgQ w (some ⟨p,0,none⟩) [F,G]:=fun _ =>
  ⟨p,0,rfl,h.lt,fun i hi => by
    simp only [List.length_cons,List.length_nil] at hi
    match i,hi with
    | 0,_ => exact ⟨v1,h.cell 0,h1⟩
    | 1,_ => exact ⟨v2,h.cell 1,h2⟩⟩
theorem cadd_twoU {w:World} {p c:Nat} {v1 v2:Value} {F G r:List Sg} {er:Int} {t:TypeId} (h:Blk w p #[v1,v2] t) (h1:SliS w v1 F) (h2:SliS w v2 G) (hl:F.length + G.length≤100000) (he:sumS [F,G] = (r,er)) :
    Calls Tryz.prog 27 #[.slice (some ⟨p,0,none⟩) 2 c] w (OfIs w r er):=by
  have:=cadd_c [F,G] (some ⟨p,0,none⟩) c w (by simp) (by simp [lenR];omega) (argQ_twoU h h1 h2)
  rw [he] at this;exact this
theorem sliS_put {w:World} {v:Value} {F:List Sg} {b:Nat} {x y:Value} {t:TypeId} (h:SliS w v F) (hb:Blk w b #[x] t):SliS (w.setCell ⟨b,0,none⟩ y) v F:=by
  obtain ⟨a,cap,e,h1,h2,h3⟩:=h
  refine ⟨a,cap,e,h1,h2,argS_turn h3 (by simp [World.setCell]) fun k i u hu => Below.heap_setCell _ _ _ _ fun e => ?_⟩
  have:k = b:=e
  subst this
  exact one_cell hb hu
def boxR (F:List Sg) (er:Int):Value→World→Prop:=fun v w => ∃ sv,v = .tuple #[sv,.int .i64 er]∧SliS w sv F
theorem stab_box (F:List Sg) (er:Int):Stab (boxR F er):=fun _ _ _ ⟨sv,e,h⟩ hb => ⟨sv,e,h.past hb⟩
def sliSR (F:List Sg):Value→World→Prop:=fun v w => SliS w v F
theorem stab_sliS (F:List Sg):Stab (sliSR F):=fun _ _ _ h hb => h.past hb
end
section
open Go.ChangeShapes Go.WideShapes Go.ChangeAt Go.RowKit
attribute [local irreducible] Go.Calls
set_option maxHeartbeats 40000000 in
set_option maxRecDepth 100000 in
theorem use1_c (l:List Prt) (m c:Int) (W:List Pc) (q:Pc) (x:Prt) (bu bs:Nat) (sv:Value) (w:World) (hU:UseOk l m c (W ++ [q])) (hx:(x.n:Int) = nP l q∧x.d = dP l q) (hbu:Blk w bu #[.int .i64 m,.int .i64 c] 38) (hbs:Blk w bs #[sv] 34) (hs:SliS w sv (useL l m c W)) :
    Calls Tryz.prog 24 #[prtV x,.int .i64 q.2,.pointer (some ⟨bu,0,none⟩),.pointer (some ⟨bs,0,none⟩)] w fun e w' => e = .returned (.tuple #[])∧(∃ sv',Blk w' bs #[sv'] 34∧SliS w' sv' (useL l m c (W ++ [q])))∧w.grownBy w' (some bs):=by
  obtain ⟨B,hB,hB2,hsum⟩:=use_step hU
  have hnp:=hU.np (p:=q) (by simp)
  have htm:=hU.times q (by simp)
  have hW:UseOk l m c W:=⟨fun p hp => hU.atoms p (by simp [hp]),hU.parts,fun p hp => hU.times p (by simp [hp]),by have:=hU.len;simp at this;omega,hU.mem,hU.cor⟩
  have hul:=hW.spec.2.2
  rw [← hx.1,← hx.2] at hB
  rw [← hx.1,← hx.2] at hnp
  obtain ⟨U,hUU⟩:∃ U,useL l m c W = U:=⟨_,rfl⟩
  rw [hUU] at hs hul hsum
  obtain ⟨asv,csv,rfl,_⟩:=id hs
  obtain ⟨z,tq⟩:=q
  simp only at hB htm
  have HUN:=hidE (fun w' => units_c (x.n:Int) m c w' ⟨hnp.1,hnp.2.1⟩ hU.mem hU.cor)
  have HBX:=hidE (fun w' => by have:=box_c tq (tq + x.d) ((x.n:Int) * m) ((x.n:Int) * c) w';rw [hB] at this;exact this)
  have HSUM:=hidE hsum
  have HBU:=hidE hbu;have HBS:=hidE hbs;have HS:=hidE hs
  have z1:IntKind.i64.wrap (tq + x.d) = tq + x.d:=IntWalk.i64_in _ (by omega)
  have hx1:x.n≤4096:=by omega
  have z2:IntKind.i64.wrap (x.n:Int) = (x.n:Int):=IntWalk.i64_in _ (by omega)
  have hd1:=hnp.2.2.1;have hd2:=hnp.2.2.2
  have ht1:=htm.1;have ht2:=htm.2
  obtain ⟨G,hG⟩:∃ G,useL l m c (W ++ [(z,tq)]) = G:=⟨_,rfl⟩
  rw [hG] at HSUM
  rw [hG]
  clear hU hx hbu hbs hs hB hsum hW hnp htm hG hUU
  go_enter Tryz.func24,Tryz.ntmps24
  go_upto_region 1 with fail
  obtain ⟨w1,hw1⟩:∃ w1,w1 = w.alloc (.cells #[.int .u8 x.kind,.int .u32 x.n,.int .u32 x.g,.int .i64 x.d,.int .i64 x.kids] 59):=⟨_,rfl⟩
  obtain ⟨pb,hpb⟩:∃ pb,pb = w.heap.size:=⟨_,rfl⟩
  rw [← hw1,← hpb]
  have hb1:Below w.heap.size w w1:=by rw [hw1];(repeat (first | exact Below.refl _ _ | assumption | refine balloc ?_ _ | refine below_drewN ?_ _ | refine bstep (by assumption) ?_ | refine bstep (Past.prop _) ?_ | refine Below.setCell ?_ (by first | exact Nat.le_refl _ | (simp;done) | (simp;omega)) _))
  have hP:Blk w1 pb #[.int .u8 x.kind,.int .u32 x.n,.int .u32 x.g,.int .i64 x.d,.int .i64 x.kids] 59:=by rw [hw1,hpb];exact Blk.made _ _ _
  have hu1:=HBU.out.past hb1
  have p1:=hP.cell 1;have p3:=hP.cell 3;have pz:=hP.lt;have u0:=hu1.cell 0;have u1:=hu1.cell 1;have uz:=hu1.lt
  simp at p1 p3 u0 u1
  have HB1:=hidE hb1;have HBU1:=hidE hu1
  clear hw1 hb1 hP hu1 hpb
  refine wp_region_J 14 [13] (nthR [detR (.int .i64 tq),detR (.int .i64 tq),detR (.pointer (some ⟨pb,3,none⟩)),detR (.int .i64 x.d),detR (.int .i64 (tq + x.d)),detR (.pointer (some ⟨pb,1,none⟩)),detR (.int .u32 x.n),detR (.int .i64 x.n),detR (.agg #[.int .i64 m,.int .i64 c]),detR (.agg #[.int .i64 ((x.n:Int) * m),.int .i64 ((x.n:Int) * c)]),boxR B 0,boxR B 0,sliSR B,detR (.int .i64 0)]) (fun _ => false) (by kernel_rfl) (by simp) (by kernel_rfl) (stab_nth (by simp [stab_det,stab_box,stab_sliS])) ?_ ?_ ?_
  · intro i o hi ho
    match i,hi with
    | 0, _ =>
      obtain rfl:=Option.some.inj ho
      intro u x hd
      have hc:=Past.cell x
      simp [go_sem,gives,frm,Act.put,nthR,detR,Region.wanted,Below.refl]
    | 1, _ =>
      obtain rfl:=Option.some.inj ho
      intro u x hd
      have hc:=Past.cell x
      simp [go_sem,gives,frm,Act.put,nthR,detR,Region.wanted,Below.refl]
    | 2, _ =>
      obtain rfl:=Option.some.inj ho
      intro u x hd
      have hc:=Past.cell x
      simp [go_sem,gives,frm,Act.put,nthR,detR,Region.wanted,Below.refl]
    | 3, _ =>
      obtain rfl:=Option.some.inj ho
      intro u x hd
      have hc:=Past.cell x
      have d2:=hd 2 (by decide) (by kernel_rfl)
      simp only [nthR,detR,List.getD_cons_zero,List.getD_cons_succ] at d2
      simp [go_sem,gives,frm,Act.put,nthR,detR,Region.wanted,Below.refl,hc,d2,p3,pz]
    | 4, _ =>
      obtain rfl:=Option.some.inj ho
      intro u x hd
      have hc:=Past.cell x
      have d1:=hd 1 (by decide) (by kernel_rfl)
      have d3:=hd 3 (by decide) (by kernel_rfl)
      simp only [nthR,detR,List.getD_cons_zero,List.getD_cons_succ] at d1 d3
      simp [go_sem,gives,frm,Act.put,nthR,detR,Region.wanted,Below.refl,d1,d3,z1]
    | 5, _ =>
      obtain rfl:=Option.some.inj ho
      intro u x hd
      have hc:=Past.cell x
      simp [go_sem,gives,frm,Act.put,nthR,detR,Region.wanted,Below.refl]
    | 6, _ =>
      obtain rfl:=Option.some.inj ho
      intro u x hd
      have hc:=Past.cell x
      have d5:=hd 5 (by decide) (by kernel_rfl)
      simp only [nthR,detR,List.getD_cons_zero,List.getD_cons_succ] at d5
      simp [go_sem,gives,frm,Act.put,nthR,detR,Region.wanted,Below.refl,hc,d5,p1,pz]
    | 7, _ =>
      obtain rfl:=Option.some.inj ho
      intro u x hd
      have hc:=Past.cell x
      have d6:=hd 6 (by decide) (by kernel_rfl)
      simp only [nthR,detR,List.getD_cons_zero,List.getD_cons_succ] at d6
      simp [go_sem,gives,frm,Act.put,nthR,detR,Region.wanted,Below.refl,d6,z2]
    | 8, _ =>
      obtain rfl:=Option.some.inj ho
      intro u x hd
      have hc:=Past.cell x
      simp [go_sem,gives,frm,Act.put,nthR,detR,Region.wanted,Below.refl,hc,u0,u1,uz]
    | 9, _ =>
      obtain rfl:=Option.some.inj ho
      intro u x hd
      have hc:=Past.cell x
      have d7:=hd 7 (by decide) (by kernel_rfl)
      have d8:=hd 8 (by decide) (by kernel_rfl)
      simp only [nthR,detR,List.getD_cons_zero,List.getD_cons_succ] at d7 d8
      simp [go_sem,gives,frm,Act.put,nthR,detR,Region.wanted,d7,d8]
      exact HUN.out _
    | 10, _ =>
      obtain rfl:=Option.some.inj ho
      intro u x hd
      have hc:=Past.cell x
      have d0:=hd 0 (by decide) (by kernel_rfl)
      have d4:=hd 4 (by decide) (by kernel_rfl)
      have d9:=hd 9 (by decide) (by kernel_rfl)
      simp only [nthR,detR,List.getD_cons_zero,List.getD_cons_succ] at d0 d4 d9
      simp [go_sem,gives,frm,Act.put,nthR,Region.wanted,d0,d4,d9]
      (with_reducible refine (HBX.out _).mono ?_);rintro e w3 ⟨v,rfl,hs3,hb3⟩;exact ⟨_,rfl,hb3,⟨v,rfl,hs3⟩⟩
    | 11, _ =>
      obtain rfl:=Option.some.inj ho
      intro u x hd
      have hc:=Past.cell x
      have h10:boxR B 0 (u 10) x.1:=hd 10 (by decide) (by kernel_rfl)
      obtain ⟨sv1,e10,hs1⟩:=h10
      simp [go_sem,gives,frm,Act.put,nthR,Region.wanted,Below.refl,e10]
      exact ⟨sv1,rfl,hs1⟩
    | 12, _ =>
      obtain rfl:=Option.some.inj ho
      intro u x hd
      have hc:=Past.cell x
      have h11:boxR B 0 (u 11) x.1:=hd 11 (by decide) (by kernel_rfl)
      have e11:=h11.choose_spec.1;have hs1:=h11.choose_spec.2;generalize h11.choose = sv1 at *
      simp [go_sem,gives,frm,Act.put,nthR,Region.wanted,Below.refl,e11]
      exact hs1
    | 13, _ =>
      obtain rfl:=Option.some.inj ho
      intro u x hd
      have hc:=Past.cell x
      have h11:boxR B 0 (u 11) x.1:=hd 11 (by decide) (by kernel_rfl)
      have e11:=h11.choose_spec.1;have hs1:=h11.choose_spec.2;generalize h11.choose = sv1 at *
      simp [go_sem,gives,frm,Act.put,nthR,detR,Region.wanted,Below.refl,e11]
    | i + 14,h => exact absurd h (by omega)
  · intro i o hx ho
    simp only [List.mem_cons,List.not_mem_nil,or_false] at hx
    rcases hx with rfl
    · obtain rfl:=Option.some.inj ho
      refine ⟨rfl,fun _ _ _ _ h => h,fun u x hd => ?_⟩
      have h11:boxR B 0 (u 11) x.1:=hd 11 (by decide) (by kernel_rfl)
      have e11:=h11.choose_spec.1;have hs1:=h11.choose_spec.2;generalize h11.choose = sv1 at *
      refine ⟨rfl,.int .i64 0,rfl,fun w' => ?_⟩
      simp [go_sem,frm,Act.put,e11]
  · intro u x9 hu hne
    have hvb0:SliS x9.1 (u 12) B:=hu 12 (by decide)
    have e13:u 13 = .int .i64 0:=hu 13 (by decide)
    obtain ⟨vb,e12⟩:∃ vb,u 12 = vb:=⟨_,rfl⟩
    rw [e12] at hvb0
    obtain ⟨ab,capb,rfl,hvc⟩:=id hvb0
    have hvb:=hvb0
    simp only [frm,List.take,Act.put,e12,e13]
    have hB9:=HB1.out.trans (x9.2.mono HB1.out.size)
    have hS9:=HS.out.past hB9
    have hbs9:=HBS.out.past hB9
    have b0:=hbs9.cell 0;have bz:=hbs9.lt
    simp at b0
    have HB9:=hidE hB9;have HS9:=hidE hS9;have HBS9:=hidE hbs9;have HVB:=hidE hvb
    clear hu hne e12 e13 hvb0 hvc hvb hB9 hS9 hbs9 p1 p3 pz u0 u1 uz HBU1 HBX HUN
    generalize x9.1 = w9 at *
    go_wp2_with fail
    ((with_reducible refine (cadd_twoU (F:=B) (G:=U) (Blk.made_at _ _ _ _ (by first | rfl | simp)) (HVB.out.past (show Below w9.heap.size w9 (w9.alloc _) from balloc (Below.refl _ _) _)) (HS9.out.past (show Below w9.heap.size w9 (w9.alloc _) from balloc (Below.refl _ _) _)) (by omega) HSUM.out).mono ?_);rintro e w10 ⟨v10,rfl,hv10,hb10⟩)
    obtain ⟨a9,c9,rfl,_⟩:=id hv10
    have hbb:=HB9.out.trans ((show Below w9.heap.size w9 w10 from by (repeat (first | exact Below.refl _ _ | assumption | refine balloc ?_ _ | refine below_drewN ?_ _ | refine bstep (by assumption) ?_ | refine bstep (Past.prop _) ?_ | refine Below.setCell ?_ (by first | exact Nat.le_refl _ | (simp;done) | (simp;omega)) _))).mono HB9.out.size)
    have hbs10:=HBS.out.past hbb
    have b0:=hbs10.cell 0;have bf:=hbs10.free 0;have bz:=hbs10.lt
    simp at b0
    have HV10:=hidE hv10;have HBB:=hidE hbb;have HBS10:=hidE hbs10
    clear hv10 hb10 hbb hbs10 HB9 HS9 HBS9 HVB
    go_wp2
    go_end0
    refine ⟨rfl,⟨_, ?_,sliS_put HV10.out HBS10.out⟩,grown_trans (grown_any HBB.out) (grown_set _ _ _ _)⟩
    have:=HBS10.out.set 0 (.slice a9 G.length c9)
    simpa using this
end
section
open Go.ChangeShapes Go.WideShapes Go.ChangeAt Go.RowKit
attribute [local irreducible] Go.Calls
set_option maxRecDepth 100000 in
set_option maxHeartbeats 4000000 in
theorem rreadL_c (l:List Prt) (a:Option Addr) (cap:Nat) (hl:l.length≤9223372036854775807):∀ (m p deep ink:Nat) (w:World),l.length + 1 - p≤m→ArgP w a l→deep≤1000000000→p≤1000000000 →
    Calls Tryz.prog 51 #[.slice a l.length cap,.int .i64 p,.int .i64 deep,.int .u8 ink] w fun e w' => e = .returned (I3 (rdT (rdS (l.length + 1) l p deep ink 1)))∧Below w.heap.size w w':=by
  intro m
  induction m with
  | zero =>
    intro p deep ink w hm hA hd hp
    have HE:=hidE (rd_stop (stop_out (deep:=deep) (ink:=ink) (show l.length≤p by omega)))
    rw [HE.out]
    have q1:decide ((p:Int) ≥ (l.length:Int)) = true:=decide_eq_true (by omega)
    have q2:decide (l.length≤p) = true:=decide_eq_true (by omega)
    clear HE
    go_enter Tryz.func51,Tryz.ntmps51
    go_wp2
    refine bodyPost_ret (v := .tuple #[.int .i64 0,.int .i64 p,.int .i64 81]) (by simp [results,Tryz.results51,go_sem]) rfl ⟨rfl,Below.refl _ _⟩
  | succ m ih =>
    intro p deep ink w hm hA hd hp
    by_cases hlt:p < l.length
    · obtain ⟨b,off,rfl,hbb,hc⟩:=hA (by omega)
      obtain ⟨c0,c1,c2,c3,c4⟩:=hc.get hlt
      have q1:decide ((p:Int) ≥ (l.length:Int)) = false:=decide_eq_false (by omega)
      have q2:decide (l.length≤p) = false:=decide_eq_false (by omega)
      have HBAD:=hidE (fun w => rbad_c (l.getD p ⟨0,0,0,0,0⟩) w)
      have HC:=hidE hc
      have hHd:=hd
      have HPR:=hidE (show l.getD p pr0 = l.getD p ⟨0,0,0,0,0⟩ from rfl)
      rw [HPR.out] at c0 c1 c2 c3 c4
      by_cases h64:64≤p
      · have HE:=hidE (rd_stop (stop_shape (deep:=deep) (ink:=ink) hlt (.inl h64)))
        rw [HE.out]
        have q3:decide ((p:Int) ≥ 64) = true:=decide_eq_true (by omega)
        have q4:decide (64≤p) = true:=decide_eq_true h64
        clear HE hc c0 c1 c2 c3 c4 ih
        go_enter Tryz.func51,Tryz.ntmps51
        go_wp2
        refine bodyPost_ret (v := .tuple #[.int .i64 0,.int .i64 p,.int .i64 81]) (by simp [results,Tryz.results51,go_sem]) rfl ⟨rfl,Below.refl _ _⟩
      · have q3:decide ((p:Int) ≥ 64) = false:=decide_eq_false (by omega)
        have q4:decide (64≤p) = false:=decide_eq_false h64
        cases hbad:badP (l.getD p ⟨0,0,0,0,0⟩)
        · rw [hbad] at HBAD
          by_cases hin:ink = 2∧(l.getD p ⟨0,0,0,0,0⟩).kind ≠ 0
          · have HE:=hidE (rd_stop (stop_shape (deep:=deep) (ink:=ink) hlt (.inr (.inr hin))))
            rw [HE.out]
            have i1:((ink:Int) == 2) = true:=by simp [hin.1]
            have i2:(((l.getD p ⟨0,0,0,0,0⟩).kind:Int) != 0) = true:=bne_iff_ne.2 (by have:=hin.2;omega)
            clear HE hc ih hbad HPR hin
            generalize (l.getD p ⟨0,0,0,0,0⟩) = x at *
            obtain ⟨kd,n,g,d,ks⟩:=x
            simp only at c0 c1 c2 c3 c4 i2
            go_enter Tryz.func51,Tryz.ntmps51
            go_wp2_with (go_at_call 75;(with_reducible refine (HBAD.out _).mono ?_);rintro e w1 ⟨rfl,hb1⟩;have c5:=(hb1.cell (p:=⟨b,off + p * 5,none⟩) hbb).trans c0)
            refine bodyPost_ret (v := .tuple #[.int .i64 0,.int .i64 p,.int .i64 81]) (by simp [results,Tryz.results51,go_sem]) rfl ⟨rfl,hb1⟩
          · have hst:=stop_deep (deep:=deep) (ink:=ink) hlt (fun h => by
              rcases h with h | h | h
              · exact h64 h
              · rw [hbad] at h;cases h
              · exact hin h)
            have hin2:((ink:Int) == 2) = false ∨ (((ink:Int) == 2) = true∧(((l.getD p ⟨0,0,0,0,0⟩).kind:Int) != 0) = false):=by
              by_cases c:ink = 2
              · refine .inr ⟨by simp [c], ?_⟩
                have:(l.getD p ⟨0,0,0,0,0⟩).kind = 0:=by
                  by_cases c2:(l.getD p ⟨0,0,0,0,0⟩).kind = 0
                  · exact c2
                  · exact absurd ⟨c,c2⟩ hin
                rw [this];rfl
              · exact .inl (by simp;omega)
            by_cases h8:8 < deep
            · rw [if_pos h8] at hst
              have HE:=hidE (rd_stop hst)
              rw [HE.out]
              have d1:decide ((deep:Int) > 8) = true:=decide_eq_true (by omega)
              have d2:decide (8 < deep) = true:=decide_eq_true h8
              clear HE hc ih hbad HPR hin hst
              generalize (l.getD p ⟨0,0,0,0,0⟩) = x at *
              obtain ⟨kd,n,g,d,ks⟩:=x
              simp only at c0 c1 c2 c3 c4 hin2
              rcases hin2 with i1 | ⟨i1,i2⟩
              all_goals
                go_enter Tryz.func51,Tryz.ntmps51
                go_wp2_with (go_at_call 75;(with_reducible refine (HBAD.out _).mono ?_);rintro e w1 ⟨rfl,hb1⟩;have c5:=(hb1.cell (p:=⟨b,off + p * 5,none⟩) hbb).trans c0)
                refine bodyPost_ret (v := .tuple #[.int .i64 0,.int .i64 p,.int .i64 80]) (by simp [results,Tryz.results51,go_sem]) rfl ⟨rfl,hb1⟩
            · rw [if_neg h8] at hst
              have HOP:=hidE (rd_open hst)
              have hks:=bad_kids hbad
              have d1:decide ((deep:Int) > 8) = false:=decide_eq_false (by omega)
              have d2:decide (8 < deep) = false:=decide_eq_false h8
              have w1:IntKind.i64.wrap ((p:Int) + 1) = (p:Int) + 1:=IntWalk.i64_in _ (by omega)
              have w2:IntKind.i64.wrap ((deep:Int) + 1) = (deep:Int) + 1:=IntWalk.i64_in _ (by omega)
              clear hbad HPR hin hst hA
              generalize (l.getD p ⟨0,0,0,0,0⟩) = x at *
              obtain ⟨kd,n,g,d,ks⟩:=x
              simp only at c0 c1 c2 c3 c4 hin2 hks HOP
              obtain ⟨K,rfl⟩:∃ K:Nat,ks = (K:Int):=⟨ks.toNat,by omega⟩
              rw [Int.toNat_natCast] at HOP
              have HA:=hidE (show ArgP w (some ⟨b,off,none⟩) l from fun _ => ⟨b,off,rfl,hbb,HC.out⟩)
              have HI:=hidE ih
              have HM:=hidE (And.intro hm hHd)
              clear ih hc hm hHd hd
              rcases hin2 with i1 | ⟨i1,i2⟩
              all_goals
                go_enter Tryz.func51,Tryz.ntmps51
                go_wp2_with (go_at_call 75;(with_reducible refine (HBAD.out _).mono ?_);rintro e w1 ⟨rfl,hb1⟩;have c5:=(hb1.cell (p:=⟨b,off + p * 5,none⟩) hbb).trans c0)
                go_loopg [11,12] K (fun gh v11 v12 wr => ∃ k q:Nat,k≤K∧K - k≤gh∧v12 = .int .i64 k∧v11 = .int .i64 q∧p < q∧(q≤l.length∧q≤64)∧rdS (l.length + 1) l q (deep + 1) kd (K - k) = rdS (l.length + 1) l (p + 1) (deep + 1) kd K∧Below w.heap.size w wr)
                case atStart => exact ⟨0,p + 1,Nat.zero_le _,Nat.le_refl _,rfl,by simp,by omega,⟨by omega,by omega⟩,rfl,hb1⟩
                case round =>
                  obtain ⟨k,q,hkk,hgh,rfl,rfl,hq1,⟨hq2,hq3⟩,hR,hb⟩:=hrel
                  have HB:=hidE hb;have HR:=hidE hR;have HG:=hidE hgh
                  have f0:=(hb.cell (p:=⟨b,off + p * 5,none⟩) hbb).trans c0
                  have f4:=(hb.cell (p:=⟨b,off + p * 5 + 4,none⟩) hbb).trans c4
                  have fz:=Nat.lt_of_lt_of_le hbb hb.size
                  clear hb hR hgh c5 hb1 c1 c2 c3
                  by_cases hk:k < K
                  · have r1:decide ((k:Int) < (K:Int)) = true:=decide_eq_true (by omega)
                    have r2:decide (k < K) = true:=decide_eq_true hk
                    have HCALL:=hidE (fun w' (hb':Below w.heap.size w w') => show Calls Tryz.prog 51 #[.slice (some ⟨b,off,none⟩) l.length cap,.int .i64 q,.int .i64 ((deep:Int) + 1),.int .u8 kd] w' fun e w'' => e = .returned (I3 (rdT (rdS (l.length + 1) l q (deep + 1) kd 1)))∧Below w'.heap.size w' w'' from by
                      have:=HI.out q (deep + 1) kd w' (by have:=HM.out.1;omega) (HA.out.past hb') (by omega) (by omega)
                      rw [show ((deep + 1:Nat):Int) = (deep:Int) + 1 by omega] at this
                      exact this)
                    have HONE:=hidE (rd_one (m:=l.length + 1) (l:=l) (p:=q) (deep:=deep + 1) (ink:=kd) (n:=K - k - 1) (by omega) (by omega))
                    cases hone:rdS (l.length + 1) l q (deep + 1) kd 1 with
                    | error e =>
                      rw [hone] at HCALL HONE
                      have he:(e.2 == 0) = false∧(e.2 != 0) = true:=by
                        rcases rd_err _ _ _ _ _ _ _ hone with h | h <;> rw [h] <;> decide
                      obtain ⟨he1,he2⟩:=he
                      have HF:=hidE (show rdS (l.length + 1) l p deep ink 1 = .error e by
                        rw [HOP.out,← HR.out,show K - k = K - k - 1 + 1 by omega,HONE.out])
                      rw [show rdT (.error e) = (0,e.1,e.2) from rfl] at HCALL
                      clear hone
                      obtain ⟨ea,eb⟩:=e
                      simp only at he1 he2
                      go_wp2_with (go_at_call 51;(with_reducible refine (HCALL.out _ HB.out).mono ?_);rintro e w2 ⟨rfl,hb2⟩)
                      refine bodyPost_ret (v := .tuple #[.int .i64 0,.int .i64 ea,.int .i64 eb]) (by simp [results,Tryz.results51,go_sem]) rfl ⟨by rw [HF.out];rfl,HB.out.trans (hb2.mono HB.out.size)⟩
                    | ok q' =>
                      rw [hone] at HCALL HONE
                      have hgt:=rd_gt _ _ _ _ _ _ _ hone
                      have hfn:=(rd_fine _ _ _ _ _ _ _ hone (q' - 1) (by omega) (by omega)).2
                      rw [show rdT (.ok q') = (q',0,0) from rfl] at HCALL
                      clear hone
                      go_wp2_with (go_at_call 51;(with_reducible refine (HCALL.out _ HB.out).mono ?_);rintro e w2 ⟨rfl,hb2⟩)
                      go_roundg (K - (k + 1))
                      case measure => have:=HG.out;omega
                      case rel => exact ⟨k + 1,q',by omega,Nat.le_refl _,by go_num,rfl,by omega,⟨by omega,by omega⟩,by rw [← HR.out,show K - k = K - k - 1 + 1 by omega,HONE.out];rfl,HB.out.trans (hb2.mono HB.out.size)⟩
                  · obtain rfl:k = K:=by omega
                    have r1:decide ((k:Int) < (k:Int)) = false:=decide_eq_false (by omega)
                    have r2:decide (k < k) = false:=decide_eq_false (by omega)
                    have HF:=hidE (show rdS (l.length + 1) l p deep ink 1 = .ok q by rw [HOP.out,← HR.out,Nat.sub_self,rd_zero])
                    go_wp2
                    refine bodyPost_ret (v := .tuple #[.int .i64 q,.int .i64 0,.int .i64 0]) (by simp [results,Tryz.results51,go_sem]) rfl ⟨by rw [HF.out];rfl,HB.out⟩
        · have HE:=hidE (rd_stop (stop_shape (deep:=deep) (ink:=ink) hlt (.inr (.inl hbad))))
          rw [HE.out]
          rw [hbad] at HBAD
          clear HE hc ih hbad HPR
          generalize (l.getD p ⟨0,0,0,0,0⟩) = x at *
          obtain ⟨kd,n,g,d,ks⟩:=x
          simp only at c0 c1 c2 c3 c4
          go_enter Tryz.func51,Tryz.ntmps51
          go_wp2_with (go_at_call 75;(with_reducible refine (HBAD.out _).mono ?_);rintro e w1 ⟨rfl,hb1⟩)
          refine bodyPost_ret (v := .tuple #[.int .i64 0,.int .i64 p,.int .i64 81]) (by simp [results,Tryz.results51,go_sem]) rfl ⟨rfl,hb1⟩
    · have HE:=hidE (rd_stop (stop_out (deep:=deep) (ink:=ink) (show l.length≤p by omega)))
      rw [HE.out]
      have q1:decide ((p:Int) ≥ (l.length:Int)) = true:=decide_eq_true (by omega)
      have q2:decide (l.length≤p) = true:=decide_eq_true (by omega)
      clear HE ih
      go_enter Tryz.func51,Tryz.ntmps51
      go_wp2
      refine bodyPost_ret (v := .tuple #[.int .i64 0,.int .i64 p,.int .i64 81]) (by simp [results,Tryz.results51,go_sem]) rfl ⟨rfl,Below.refl _ _⟩
theorem rtreeL_c (l:List Prt) (a:Option Addr) (cap:Nat) (w:World) (hl:l.length≤9223372036854775807) (hA:ArgP w a l) :
    Calls Tryz.prog 35 #[.slice a l.length cap] w fun e w' => e = .returned (.tuple #[.int .i64 (treeS l).1,.int .i64 (treeS l).2])∧Below w.heap.size w w':=by
  have HR:=hidE (show Calls Tryz.prog 51 #[.slice a l.length cap,.int .i64 0,.int .i64 1,.int .u8 0] w _ from rreadL_c l a cap hl (l.length + 1) 0 1 0 w (by omega) hA (by omega) (by omega))
  have HT:=hidE (show treeS l = (match rdS (l.length + 1) l 0 1 0 1 with | .error x => x | .ok e => if e < l.length then (e,81) else (0,0)) from rfl)
  cases hrd:rdS (l.length + 1) l 0 1 0 1 with
  | error x =>
    rw [hrd] at HR HT
    have he:(x.2 == 0) = false∧(x.2 != 0) = true:=by
      rcases rd_err _ _ _ _ _ _ _ hrd with h | h <;> rw [h] <;> decide
    obtain ⟨he1,he2⟩:=he
    obtain ⟨xa,xb⟩:=x
    simp only [rdT] at HR HT he1 he2
    clear hrd hA
    go_enter Tryz.func35,Tryz.ntmps35
    go_wp2_with (go_at_call 51;(with_reducible refine HR.out.mono ?_);rintro e w2 ⟨rfl,hb2⟩)
    go_ret2
    exact ⟨by rw [HT.out];rfl,hb2⟩
  | ok q =>
    rw [hrd] at HR HT
    simp only [rdT] at HR HT
    by_cases hq:q < l.length
    · rw [if_pos hq] at HT
      have r1:decide ((q:Int) < (l.length:Int)) = true:=decide_eq_true (by omega)
      have r2:decide (q < l.length) = true:=decide_eq_true hq
      clear hrd hA
      go_enter Tryz.func35,Tryz.ntmps35
      go_wp2_with (go_at_call 51;(with_reducible refine HR.out.mono ?_);rintro e w2 ⟨rfl,hb2⟩)
      go_ret2
      exact ⟨by rw [HT.out];rfl,hb2⟩
    · rw [if_neg hq] at HT
      have r1:decide ((q:Int) < (l.length:Int)) = false:=decide_eq_false (by omega)
      have r2:decide (q < l.length) = false:=decide_eq_false hq
      clear hrd hA
      go_enter Tryz.func35,Tryz.ntmps35
      go_wp2_with (go_at_call 51;(with_reducible refine HR.out.mono ?_);rintro e w2 ⟨rfl,hb2⟩)
      go_ret2
      exact ⟨by rw [HT.out];rfl,hb2⟩
set_option maxHeartbeats 1000000 in
theorem rchkL_c (fr to':Int) (l:List Prt) (a:Option Addr) (cap:Nat) (w:World) (hl:l.length≤9223372036854775807) (hA:ArgP w a l) (hf : -9223372036854775808≤fr∧fr≤9223372036854775807) (ht : -9223372036854775808≤to'∧to'≤9223372036854775807) :
    Calls Tryz.prog 21 #[def8 fr to' a l.length cap] w fun e w' => e = .returned (.tuple #[.int .i64 (chkS fr to' l).1,.int .i64 (chkS fr to' l).2])∧Below w.heap.size w w':=by
  have HR:=hidE (fun w hA => rtreeL_c l a cap w hl hA)
  have HC:=hidE (show chkS fr to' l = if fr < 0 ∨ to'≤fr ∨ 1099511627776 < to' ∨ 4096 < to' - fr then ((-1,82):Int × Int) else ((((treeS l).1:Nat):Int),(treeS l).2) from rfl)
  have HA:=hidE hA
  clear hA
  generalize treeS l = T at *
  by_cases c1:fr < 0
  · have q1:decide (fr < 0) = true:=decide_eq_true c1
    rw [if_pos (.inl c1)] at HC
    clear c1
    go_enter Tryz.func21,Tryz.ntmps21
    go_wp2
    go_ret2
    exact ⟨by rw [HC.out];rfl,by (repeat (first | exact Below.refl _ _ | assumption | refine balloc ?_ _ | refine below_drewN ?_ _ | refine bstep (by assumption) ?_ | refine bstep (Past.prop _) ?_ | refine Below.setCell ?_ (by first | exact Nat.le_refl _ | (simp;done) | (simp;omega)) _))⟩
  have q1:decide (fr < 0) = false:=decide_eq_false c1
  by_cases c2:to'≤fr
  · have q2:decide (to'≤fr) = true:=decide_eq_true c2
    rw [if_pos (.inr (.inl c2))] at HC
    clear c1 c2
    go_enter Tryz.func21,Tryz.ntmps21
    go_wp2
    go_ret2
    exact ⟨by rw [HC.out];rfl,by (repeat (first | exact Below.refl _ _ | assumption | refine balloc ?_ _ | refine below_drewN ?_ _ | refine bstep (by assumption) ?_ | refine bstep (Past.prop _) ?_ | refine Below.setCell ?_ (by first | exact Nat.le_refl _ | (simp;done) | (simp;omega)) _))⟩
  have q2:decide (to'≤fr) = false:=decide_eq_false c2
  by_cases c3:1099511627776 < to'
  · have q3:decide (to' > 1099511627776) = true:=decide_eq_true c3
    have q3':decide (1099511627776 < to') = true:=decide_eq_true c3
    rw [if_pos (.inr (.inr (.inl c3)))] at HC
    clear c1 c2 c3
    go_enter Tryz.func21,Tryz.ntmps21
    go_wp2
    go_ret2
    exact ⟨by rw [HC.out];rfl,by (repeat (first | exact Below.refl _ _ | assumption | refine balloc ?_ _ | refine below_drewN ?_ _ | refine bstep (by assumption) ?_ | refine bstep (Past.prop _) ?_ | refine Below.setCell ?_ (by first | exact Nat.le_refl _ | (simp;done) | (simp;omega)) _))⟩
  have q3:decide (to' > 1099511627776) = false:=decide_eq_false c3
  have q3':decide (1099511627776 < to') = false:=decide_eq_false c3
  have wr:IntKind.i64.wrap (to' - fr) = to' - fr:=IntWalk.i64_in _ (by omega)
  by_cases c4:4096 < to' - fr
  · have q4:decide (to' - fr > 4096) = true:=decide_eq_true c4
    have q4':decide (4096 < to' - fr) = true:=decide_eq_true c4
    rw [if_pos (.inr (.inr (.inr c4)))] at HC
    clear c1 c2 c3 c4
    go_enter Tryz.func21,Tryz.ntmps21
    go_wp2
    go_ret2
    exact ⟨by rw [HC.out];rfl,by (repeat (first | exact Below.refl _ _ | assumption | refine balloc ?_ _ | refine below_drewN ?_ _ | refine bstep (by assumption) ?_ | refine bstep (Past.prop _) ?_ | refine Below.setCell ?_ (by first | exact Nat.le_refl _ | (simp;done) | (simp;omega)) _))⟩
  have q4:decide (to' - fr > 4096) = false:=decide_eq_false c4
  have q4':decide (4096 < to' - fr) = false:=decide_eq_false c4
  rw [if_neg (by omega)] at HC
  clear c1 c2 c3 c4
  go_enter Tryz.func21,Tryz.ntmps21
  go_wp2_with (go_at_call 35;(with_reducible refine (HR.out _ (HA.out.past (by (repeat (first | exact Below.refl _ _ | assumption | refine balloc ?_ _ | refine below_drewN ?_ _ | refine bstep (by assumption) ?_ | refine bstep (Past.prop _) ?_ | refine Below.setCell ?_ (by first | exact Nat.le_refl _ | (simp;done) | (simp;omega)) _))))).mono ?_);rintro e w2 ⟨rfl,hb2⟩)
  go_ret2
  exact ⟨by rw [HC.out];rfl,by (repeat (first | exact Below.refl _ _ | assumption | refine balloc ?_ _ | refine below_drewN ?_ _ | refine bstep (by assumption) ?_ | refine bstep (Past.prop _) ?_ | refine Below.setCell ?_ (by first | exact Nat.le_refl _ | (simp;done) | (simp;omega)) _))⟩
end
section
open Go.ChangeShapes Go.WideShapes Go.ChangeAt Go.RowKit
attribute [local irreducible] Go.Calls
def lastOf (W:List Pc):Nat→Int
  | 0 => -1
  | k + 1 => (W.getD k (0,0)).1
theorem pcs_step {l:List Prt} {W:List Pc} {k:Nat} {last:Int} (hk:k < W.length):pcsB l last (W.drop k) = (decide (last < (W.getD k (0,0)).1) && (decide ((W.getD k (0,0)).1 < (l.length:Int)) && (decide ((l.getD (W.getD k (0,0)).1.toNat pr0).kind = 0) && pcsB l (lastOf W (k + 1)) (W.drop (k + 1))))):=by
  have hdr:W.drop k = W.getD k (0,0) :: W.drop (k + 1):=by
    rw [List.drop_eq_getElem_cons hk];congr 1
    rw [List.getD_eq_getElem?_getD,List.getElem?_eq_getElem hk];rfl
  rw [hdr,pcsB]
  rfl
set_option maxHeartbeats 8000000 in
set_option maxRecDepth 100000 in
theorem rcheck_c (fr to':Int) (l:List Prt) (W:List Pc) (a wa:Option Addr) (cap wcap:Nat) (z:Int) (w:World) (hl:l.length≤9223372036854775807) (hWl:W.length≤9223372036854775807) (hA:ArgP w a l) (hW:ArgVs w wa W) (hf : -9223372036854775808≤fr∧fr≤9223372036854775807) (ht : -9223372036854775808≤to'∧to'≤9223372036854775807) :
    Calls Tryz.prog 7 #[def8 fr to' a l.length cap,.slice wa W.length wcap,.int .i64 z] w fun e w' => e = .returned (.int .i64 (wrongS fr to' l (decide (0≤z∧z < (l.length:Int))) W))∧Below w.heap.size w w':=by
  have HCH:=hidE (fun (w':World) (h:Below w.heap.size w w') => rchkL_c fr to' l a cap w' hl (hA.past h) hf ht)
  have HS:=hidE (show wrongS fr to' l (decide (0≤z∧z < (l.length:Int))) W = if (chkS fr to' l).2 ≠ 0 then 81 else if decide (0≤z∧z < (l.length:Int)) = false ∨ pcsB l (-1) W = false then 2 else if farB W = true then 10 else 0 from rfl)
  have HA:=hidE hA;have HW:=hidE hW
  clear hA hW
  obtain ⟨c,hc⟩:∃ c,chkS fr to' l = c:=⟨_,rfl⟩
  obtain ⟨c1,c2⟩:=c
  rw [hc] at HCH HS
  clear hc
  obtain ⟨E,hE⟩:∃ E,wrongS fr to' l (decide (0≤z∧z < (l.length:Int))) W = E:=⟨_,rfl⟩
  rw [hE] at HS ⊢
  clear hE
  by_cases h0:c2 = 0
  · subst h0
    by_cases hz:0≤z∧z < (l.length:Int)
    · obtain ⟨z0,z1⟩:=hz
      have q0:decide (z < 0) = false:=decide_eq_false (by omega)
      have q1:decide ((l.length:Int)≤z) = false:=decide_eq_false (by omega)
      have HS2:=hidE (show E = if pcsB l (-1) W = false then 2 else if farB W = true then 10 else 0 by
        rw [HS.out,decide_eq_true (⟨z0,z1⟩:0≤z∧z < (l.length:Int))];simp)
      clear z0 z1 HS
      go_enter Tryz.func7,Tryz.ntmps7
      go_wp2_with fail
      ((with_reducible refine (HCH.out _ (by (repeat (first | exact Below.refl _ _ | assumption | refine balloc ?_ _ | refine below_drewN ?_ _ | refine bstep (by assumption) ?_ | refine bstep (Past.prop _) ?_ | refine Below.setCell ?_ (by first | exact Nat.le_refl _ | (simp;done) | (simp;omega)) _)))).mono ?_);rintro e w1 ⟨rfl,hb1⟩)
      have hb:=(show Below w.heap.size w (w.alloc (.cells #[.int .i64 fr,.int .i64 to',.slice a l.length cap] 24)) from by (repeat (first | exact Below.refl _ _ | assumption | refine balloc ?_ _ | refine below_drewN ?_ _ | refine bstep (by assumption) ?_ | refine bstep (Past.prop _) ?_ | refine Below.setCell ?_ (by first | exact Nat.le_refl _ | (simp;done) | (simp;omega)) _))).trans (hb1.mono (by simp))
      have hd:=(Blk.made w #[.int .i64 fr,.int .i64 to',.slice a l.length cap] 24).past hb1
      have e2:=hd.cell 2;have dz:=hd.lt
      simp at e2
      have HB:=hidE hb;have HD:=hidE hd
      clear hb1 hb hd HCH
      go_wp2_with fail
      go_loopg [9] W.length (fun gh v9 wr => ∃ k:Nat,v9 = .int .i64 k∧k≤W.length∧W.length - k≤gh ∧ -1≤lastOf W k∧pcsB l (-1) W = pcsB l (lastOf W k) (W.drop k)∧Below w1.heap.size w1 wr)
      case atStart => exact ⟨0,rfl,Nat.zero_le _,Nat.le_refl _,by simp [lastOf],rfl,Below.refl _ _⟩
      case round =>
        obtain ⟨k,rfl,hk,hgh,hlast,hpc,hbw⟩:=hrel
        have HGH:=hidE hgh;have HPC:=hidE hpc;have HBW:=hidE hbw
        have HB2:=hidE (HB.out.trans (hbw.mono HB.out.size))
        have HD2:=hidE (HD.out.past hbw)
        clear hgh hpc e2 dz
        have e2:=HD2.out.cell 2;have dz:=HD2.out.lt
        simp at e2
        by_cases hlt:k < W.length
        · have q2:decide ((k:Int) < (W.length:Int)) = true:=decide_eq_true (by omega)
          have q3:decide (k < W.length) = true:=decide_eq_true hlt
          obtain ⟨b,off,rfl,hbz,hc⟩:=HW.out (by omega)
          obtain ⟨m0,m1⟩:=hc k hlt
          have HPS:=hidE (HPC.out.trans (pcs_step hlt))
          have HLS:=hidE (show lastOf W (k + 1) = (W.getD k (0,0)).1 from rfl)
          obtain ⟨q,hq⟩:∃ q,W.getD k (0,0) = q:=⟨_,rfl⟩
          rw [hq] at m0 m1 HPS HLS
          obtain ⟨j,j2⟩:=q
          have k0:=(HB2.out.cell (p:=⟨b,off + k * 2,none⟩) hbz).trans m0
          have k1:=(HB2.out.cell (p:=⟨b,off + k * 2 + 1,none⟩) hbz).trans m1
          have bz:=Nat.lt_of_lt_of_le hbz HB2.out.size
          simp only at k0 k1 HPS HLS
          have HC:=hidE hc
          clear m0 m1 hc hq hbw
          by_cases c1:j < 0
          · have r1:decide (j < 0) = true:=decide_eq_true c1
            have HN:=hidE (show E = 2 by rw [HS2.out,HPS.out,decide_eq_false (show ¬ lastOf W k < j by omega)];rfl)
            clear c1
            go_wp2
            go_quiet (fail)
            go_wp2
            go_ret
            exact ⟨by rw [HN.out];rfl,HB2.out.trans ((show Below wr.heap.size wr _ from by (repeat (first | exact Below.refl _ _ | assumption | refine balloc ?_ _ | refine below_drewN ?_ _ | refine bstep (by assumption) ?_ | refine bstep (Past.prop _) ?_ | refine Below.setCell ?_ (by first | exact Nat.le_refl _ | (simp;done) | (simp;omega)) _))).mono HB2.out.size)⟩
          · have r1:decide (j < 0) = false:=decide_eq_false c1
            by_cases c2:(l.length:Int)≤j
            · have r2:decide ((l.length:Int)≤j) = true:=decide_eq_true c2
              have HN:=hidE (show E = 2 by rw [HS2.out,HPS.out,decide_eq_false (show ¬ j < (l.length:Int) by omega)];simp)
              clear c1 c2
              go_wp2
              go_quiet (fail)
              go_wp2
              go_ret
              exact ⟨by rw [HN.out];rfl,HB2.out.trans ((show Below wr.heap.size wr _ from by (repeat (first | exact Below.refl _ _ | assumption | refine balloc ?_ _ | refine below_drewN ?_ _ | refine bstep (by assumption) ?_ | refine bstep (Past.prop _) ?_ | refine Below.setCell ?_ (by first | exact Nat.le_refl _ | (simp;done) | (simp;omega)) _))).mono HB2.out.size)⟩
            · obtain ⟨j,rfl⟩:∃ i:Nat,j = (i:Int):=⟨j.toNat,by omega⟩
              have hj:j < l.length:=by omega
              have r2:decide ((l.length:Int)≤(j:Int)) = false:=decide_eq_false c2
              have r3:decide (l.length≤j) = false:=decide_eq_false (by omega)
              have hjz:(j:Int) < (l.length:Int):=by omega
              have hj0:(0:Int)≤(j:Int):=by omega
              obtain ⟨ba,offa,rfl,hba,hca⟩:=HA.out (by omega)
              have p0:=(HB2.out.cell (p:=⟨ba,_,none⟩) hba).trans (hca.get hj).1
              have az:=Nat.lt_of_lt_of_le hba HB2.out.size
              rw [Int.toNat_natCast] at HPS
              by_cases c3:(l.getD j pr0).kind = 0
              · rw [c3] at p0
                have HP2:=hidE (show pcsB l (-1) W = (decide (lastOf W k < (j:Int)) && pcsB l (lastOf W (k + 1)) (W.drop (k + 1))) by rw [HPS.out,decide_eq_true hjz,decide_eq_true c3];rfl)
                have hkw:k < W.length:=hlt
                clear c1 c2 c3 hca HPS
                by_cases hk0:k = 0
                · subst hk0
                  have HN:=hidE (show pcsB l (-1) W = pcsB l (lastOf W 1) (W.drop 1) by rw [HP2.out,decide_eq_true (show lastOf W 0 < (j:Int) by show (-1:Int) < j;omega)];rfl)
                  rw [Nat.zero_mul,Nat.add_zero] at k0
                  rw [Nat.zero_mul,Nat.add_zero] at k1
                  have q4:decide ((0:Int) < (W.length:Int)) = true:=decide_eq_true (by omega)
                  have q5:decide (0 < W.length) = true:=decide_eq_true hlt
                  clear hlast
                  go_wp2
                  go_quiet (fail)
                  go_wp2
                  go_roundg (W.length - 1)
                  case measure => have:=HGH.out;omega
                  case rel => exact ⟨1,rfl,by omega,Nat.le_refl _,by rw [HLS.out];omega,HN.out,HBW.out.trans ((show Below wr.heap.size wr _ from by (repeat (first | exact Below.refl _ _ | assumption | refine balloc ?_ _ | refine below_drewN ?_ _ | refine bstep (by assumption) ?_ | refine bstep (Past.prop _) ?_ | refine Below.setCell ?_ (by first | exact Nat.le_refl _ | (simp;done) | (simp;omega)) _))).mono HBW.out.size)⟩
                · obtain ⟨i,rfl⟩:∃ i,k = i + 1:=⟨k - 1,by omega⟩
                  obtain ⟨m0,_⟩:=HC.out i (by omega)
                  have HLI:=hidE (show lastOf W (i + 1) = (W.getD i (0,0)).1 from rfl)
                  obtain ⟨q,hq⟩:∃ q,(W.getD i (0,0)).1 = q:=⟨_,rfl⟩
                  rw [hq] at m0 HLI
                  rw [HLI.out] at HP2 hlast
                  have n0:=(HB2.out.cell (p:=⟨b,off + i * 2,none⟩) hbz).trans m0
                  have r4:decide ((0:Int) < ((i + 1:Nat):Int)) = true:=decide_eq_true (by omega)
                  have r5:decide ((0:Int) < (i:Int) + 1) = true:=decide_eq_true (by omega)
                  have r6:decide (0 < i + 1) = true:=decide_eq_true (by omega)
                  have z1:IntKind.i64.wrap ((i:Int) + 1 - 1) = (i:Int):=by rw [IntWalk.i64_in _ (by omega)];omega
                  have z2:(0:Int)≤(i:Int) + 1:=by omega
                  have z3:((i:Int) + 1).toNat = i + 1:=by omega
                  have z4:(i:Int) + 1 < (W.length:Int):=by omega
                  have z5:(i:Int) < (W.length:Int):=by omega
                  clear m0 hq
                  by_cases c4:(j:Int)≤q
                  · have r7:decide ((j:Int)≤q) = true:=decide_eq_true c4
                    have HN:=hidE (show E = 2 by rw [HS2.out,HP2.out,decide_eq_false (show ¬ q < (j:Int) by omega)];rfl)
                    clear c4
                    go_wp2
                    go_quiet (fail)
                    go_wp2
                    go_ret
                    exact ⟨by rw [HN.out];rfl,HB2.out.trans ((show Below wr.heap.size wr _ from by (repeat (first | exact Below.refl _ _ | assumption | refine balloc ?_ _ | refine below_drewN ?_ _ | refine bstep (by assumption) ?_ | refine bstep (Past.prop _) ?_ | refine Below.setCell ?_ (by first | exact Nat.le_refl _ | (simp;done) | (simp;omega)) _))).mono HB2.out.size)⟩
                  · have r7:decide ((j:Int)≤q) = false:=decide_eq_false c4
                    have HN:=hidE (show pcsB l (-1) W = pcsB l (lastOf W (i + 1 + 1)) (W.drop (i + 1 + 1)) by rw [HP2.out,decide_eq_true (show q < (j:Int) by omega)];rfl)
                    clear c4
                    go_wp2
                    go_quiet (fail)
                    go_wp2
                    go_roundg (W.length - (i + 1 + 1))
                    case measure => have:=HGH.out;omega
                    case rel => exact ⟨i + 1 + 1,by go_num,by omega,Nat.le_refl _,by rw [HLS.out];omega,HN.out,HBW.out.trans ((show Below wr.heap.size wr _ from by (repeat (first | exact Below.refl _ _ | assumption | refine balloc ?_ _ | refine below_drewN ?_ _ | refine bstep (by assumption) ?_ | refine bstep (Past.prop _) ?_ | refine Below.setCell ?_ (by first | exact Nat.le_refl _ | (simp;done) | (simp;omega)) _))).mono HBW.out.size)⟩
              · obtain ⟨kd,hkd⟩:∃ kd,(l.getD j pr0).kind = kd:=⟨_,rfl⟩
                rw [hkd] at p0
                have r5:((kd:Int) != 0) = true:=by simp;omega
                have r6:(kd != 0) = true:=by simp;omega
                have HN:=hidE (show E = 2 by rw [HS2.out,HPS.out,decide_eq_false c3];simp)
                clear c1 c2 c3 hca hkd
                go_wp2
                go_quiet (fail)
                go_wp2
                go_ret
                exact ⟨by rw [HN.out];rfl,HB2.out.trans ((show Below wr.heap.size wr _ from by (repeat (first | exact Below.refl _ _ | assumption | refine balloc ?_ _ | refine below_drewN ?_ _ | refine bstep (by assumption) ?_ | refine bstep (Past.prop _) ?_ | refine Below.setCell ?_ (by first | exact Nat.le_refl _ | (simp;done) | (simp;omega)) _))).mono HB2.out.size)⟩
        · obtain rfl:k = W.length:=by omega
          have q2:decide ((W.length:Int) < (W.length:Int)) = false:=decide_eq_false (by omega)
          have q3:decide (W.length < W.length) = false:=decide_eq_false (by omega)
          have HPT:=hidE (show pcsB l (-1) W = true by have:=HPC.out;rw [List.drop_length] at this;rw [this];cases lastOf W W.length <;> rfl)
          have HS3:=hidE (show E = if farB W = true then 10 else 0 by rw [HS2.out,HPT.out];rfl)
          clear hbw hlast HPC e2 dz
          obtain ⟨wo,rfl⟩:∃ wo:World,wo = wr:=⟨_,rfl⟩
          go_wp2
          go_loopg [11] W.length (fun gh v11 wr => ∃ k:Nat,v11 = .int .i64 k∧k≤W.length∧W.length - k≤gh∧(∀ i,i < k→isFarB (W.getD i (0,0)) = false)∧Below w.heap.size w wr)
          case atStart => exact ⟨0,rfl,Nat.zero_le _,Nat.le_refl _,fun i hi => by omega,HB2.out⟩
          case round =>
            obtain ⟨k,rfl,hk2,hgh,hno,hbw⟩:=hrel
            have HG2:=hidE hgh;have HNO:=hidE hno;have HBX:=hidE hbw
            clear hgh hno q2 q3
            by_cases hlt:k < W.length
            · have q2:decide ((k:Int) < (W.length:Int)) = true:=decide_eq_true (by omega)
              have q3:decide (k < W.length) = true:=decide_eq_true hlt
              obtain ⟨b,off,rfl,hbz,hc⟩:=HW.out (by omega)
              obtain ⟨m0,m1⟩:=hc k hlt
              have hgk:W.getD k (0,0) = W[k]:=by rw [List.getD_eq_getElem?_getD,List.getElem?_eq_getElem hlt];rfl
              obtain ⟨q,hq⟩:∃ q,W.getD k (0,0) = q:=⟨_,rfl⟩
              rw [hq] at m0 m1 hgk
              obtain ⟨j,j2⟩:=q
              have k1:=(hbw.cell (p:=⟨b,off + k * 2 + 1,none⟩) hbz).trans m1
              have bz:=Nat.lt_of_lt_of_le hbz hbw.size
              simp only at k1
              have HQ:=hidE hq;have HGK:=hidE hgk
              clear hc m0 m1 hbw hq hgk
              have HYES:=hidE (fun (h:isFarB (j,j2) = true) => show E = 10 by
                rw [HS3.out,if_pos]
                unfold farB
                exact List.any_eq_true.2 ⟨_,List.getElem_mem hlt,by rw [← HGK.out];exact h⟩)
              by_cases c1:j2 < -1099511627776
              · have r1:decide (j2 < -1099511627776) = true:=decide_eq_true c1
                have HN:=hidE (HYES.out (by unfold isFarB;simp only;rw [r1];rfl))
                clear c1 HYES
                go_wp2
                go_ret
                exact ⟨by rw [HN.out];rfl,HBX.out⟩
              · have r1:decide (j2 < -1099511627776) = false:=decide_eq_false c1
                by_cases c2:1099511627776 < j2
                · have r2:decide (1099511627776 < j2) = true:=decide_eq_true c2
                  have HN:=hidE (HYES.out (by unfold isFarB;simp only;rw [r1,r2];rfl))
                  clear c1 c2 HYES
                  go_wp2
                  go_ret
                  exact ⟨by rw [HN.out];rfl,HBX.out⟩
                · have r2:decide (1099511627776 < j2) = false:=decide_eq_false c2
                  have HN:=hidE (show ∀ i,i < k + 1→isFarB (W.getD i (0,0)) = false from fun i hi => by
                    by_cases e:i = k
                    · rw [e,HQ.out];unfold isFarB;simp only;rw [r1,r2];rfl
                    · exact HNO.out i (by omega))
                  clear c1 c2 HYES
                  go_wp2
                  go_roundg (W.length - (k + 1))
                  case measure => have:=HG2.out;omega
                  case rel => exact ⟨k + 1,by go_num,by omega,Nat.le_refl _,HN.out,HBX.out⟩
            · obtain rfl:k = W.length:=by omega
              have q2:decide ((W.length:Int) < (W.length:Int)) = false:=decide_eq_false (by omega)
              have q3:decide (W.length < W.length) = false:=decide_eq_false (by omega)
              have HN:=hidE (show E = 0 by
                rw [HS3.out,if_neg]
                intro h
                unfold farB at h
                obtain ⟨x,hx,hxf⟩:=List.any_eq_true.1 h
                obtain ⟨i,hi,rfl⟩:=List.mem_iff_getElem.1 hx
                have:=HNO.out i hi
                rw [List.getD_eq_getElem?_getD,List.getElem?_eq_getElem hi] at this
                rw [show (some W[i]).getD (0,0) = W[i] from rfl] at this
                rw [this] at hxf;cases hxf)
              clear hbw
              go_wp2
              go_ret
              exact ⟨by rw [HN.out];rfl,HBX.out⟩
    · have HN:=hidE (show E = 2 by rw [HS.out,decide_eq_false hz];rfl)
      by_cases z0:z < 0
      · have q0:decide (z < 0) = true:=decide_eq_true z0
        clear hz z0 HS
        go_enter Tryz.func7,Tryz.ntmps7
        go_wp2_with (go_at_call 21;((with_reducible refine (HCH.out _ (by (repeat (first | exact Below.refl _ _ | assumption | refine balloc ?_ _ | refine below_drewN ?_ _ | refine bstep (by assumption) ?_ | refine bstep (Past.prop _) ?_ | refine Below.setCell ?_ (by first | exact Nat.le_refl _ | (simp;done) | (simp;omega)) _)))).mono ?_);rintro e w1 ⟨rfl,hb1⟩))
        go_ret
        exact ⟨by rw [HN.out];rfl,by (repeat (first | exact Below.refl _ _ | assumption | refine balloc ?_ _ | refine below_drewN ?_ _ | refine bstep (by assumption) ?_ | refine bstep (Past.prop _) ?_ | refine Below.setCell ?_ (by first | exact Nat.le_refl _ | (simp;done) | (simp;omega)) _))⟩
      · have q0:decide (z < 0) = false:=decide_eq_false z0
        have q1:decide ((l.length:Int)≤z) = true:=decide_eq_true (by omega)
        clear hz z0 HS
        go_enter Tryz.func7,Tryz.ntmps7
        go_wp2_with fail
        ((with_reducible refine (HCH.out _ (by (repeat (first | exact Below.refl _ _ | assumption | refine balloc ?_ _ | refine below_drewN ?_ _ | refine bstep (by assumption) ?_ | refine bstep (Past.prop _) ?_ | refine Below.setCell ?_ (by first | exact Nat.le_refl _ | (simp;done) | (simp;omega)) _)))).mono ?_);rintro e w1 ⟨rfl,hb1⟩)
        have hd:=(Blk.made w #[.int .i64 fr,.int .i64 to',.slice a l.length cap] 24).past hb1
        have e2:=hd.cell 2;have dz:=hd.lt
        simp at e2
        clear hd
        go_wp2
        go_ret
        exact ⟨by rw [HN.out];rfl,by (repeat (first | exact Below.refl _ _ | assumption | refine balloc ?_ _ | refine below_drewN ?_ _ | refine bstep (by assumption) ?_ | refine bstep (Past.prop _) ?_ | refine Below.setCell ?_ (by first | exact Nat.le_refl _ | (simp;done) | (simp;omega)) _))⟩
  · have r1:(c2 != 0) = true:=bne_iff_ne.2 h0
    have HN:=hidE (show E = 81 by rw [HS.out];exact if_pos h0)
    clear h0 HS
    go_enter Tryz.func7,Tryz.ntmps7
    go_wp2_with (go_at_call 21;((with_reducible refine (HCH.out _ (by (repeat (first | exact Below.refl _ _ | assumption | refine balloc ?_ _ | refine below_drewN ?_ _ | refine bstep (by assumption) ?_ | refine bstep (Past.prop _) ?_ | refine Below.setCell ?_ (by first | exact Nat.le_refl _ | (simp;done) | (simp;omega)) _)))).mono ?_);rintro e w1 ⟨rfl,hb1⟩))
    go_ret
    exact ⟨by rw [HN.out];rfl,by (repeat (first | exact Below.refl _ _ | assumption | refine balloc ?_ _ | refine below_drewN ?_ _ | refine bstep (by assumption) ?_ | refine bstep (Past.prop _) ?_ | refine Below.setCell ?_ (by first | exact Nat.le_refl _ | (simp;done) | (simp;omega)) _))⟩
end
section
open Go.ChangeShapes Go.WideShapes Go.ChangeAt Go.RowKit
attribute [local irreducible] Go.Calls
def DOk (l:List Prt):Prop:=∀ i,i < l.length→0≤(l.getD i pr0).d∧(l.getD i pr0).d≤4096∧(l.getD i pr0).n≤4096
theorem dOk_tree {l:List Prt} (h:(treeS l).2 = 0):DOk l:=fun i hi => by
  have:=badP_num (tree_part h hi).1
  exact ⟨this.2.2.2.1,this.2.2.2.2.1,this.2.1⟩
end
section
open Go.ChangeShapes Go.WideShapes Go.ChangeAt Go.RowKit
attribute [local irreducible] Go.Calls
end
section
open Go.ChangeShapes Go.WideShapes Go.ChangeAt Go.RowKit
attribute [local irreducible] Go.Calls
theorem pcs_atoms {l:List Prt}:∀ {W:List Pc} {last:Int}, -1≤last→pcsB l last W = true→Atoms l W
  | [],_,_,_,p,hp => by cases hp
  | q :: W, last, hl, h, p, hp => by
    simp only [pcsB,Bool.and_eq_true,decide_eq_true_eq] at h
    obtain ⟨h1,h2,h3,h4⟩:=h
    rcases List.mem_cons.1 hp with rfl | hp
    · exact ⟨by omega,h2,h3⟩
    · exact pcs_atoms (by omega) h4 p hp
end
section
theorem pcs_len {l:List Prt}:∀ {W:List Pc} {last:Int}, -1≤last→pcsB l last W = true→(W.length:Int)≤(l.length:Int) - 1 - last ∨ W = []
  | [],_,_,_ => .inr rfl
  | q :: W, last, hl, h => by
    simp only [pcsB,Bool.and_eq_true,decide_eq_true_eq] at h
    obtain ⟨h1,h2,h3,h4⟩:=h
    rcases pcs_len (last:=q.1) (by omega) h4 with e | e
    · left;simp only [List.length_cons];omega
    · left;subst e;simp only [List.length_cons,List.length_nil];omega
theorem useOk_of {fr to' m c:Int} {l:List Prt} {W:List Pc} (h:wrongS fr to' l (unitB m c) W = 0):UseOk l m c W:=by
  obtain ⟨h1,h2,h3,h4⟩:=wrong_zero h
  have hck:=chk_ok h1
  have hu:(1≤m∧m≤1073741824)∧1≤c∧c≤1073741824:=by
    unfold unitB at h2
    simp only [Bool.and_eq_true,decide_eq_true_eq] at h2
    exact ⟨⟨h2.1,h2.2.1⟩,h2.2.2.1,h2.2.2.2⟩
  exact {
    atoms:=pcs_atoms (by omega) h3
    parts:=dOk_tree hck.2.2.1
    times:=fun p hp => far_ok h4 p hp
    len:=by
      have h64:=hck.2.2.2.2
      rcases pcs_len (by omega) h3 with e | e
      · omega
      · subst e;simp
    mem:=hu.1
    cor:=hu.2 }
theorem UseOk.take {l:List Prt} {m c:Int} {W:List Pc} (h:UseOk l m c W) (k:Nat):UseOk l m c (W.take k) :=
  ⟨fun p hp => h.atoms p (List.mem_of_mem_take hp),h.parts,fun p hp => h.times p (List.mem_of_mem_take hp),by have:=h.len;rw [List.length_take];omega,h.mem,h.cor⟩
theorem take_snoc {α:Type} {W:List α} {k:Nat} {q:α} (h:W[k]? = some q):W.take (k + 1) = W.take k ++ [q]:=by rw [List.take_add_one,h];rfl
theorem useL_nil (l:List Prt) (m c:Int):useL l m c [] = []:=by
  unfold useL useTs rawTs;rfl
end
section
open Go.ChangeShapes Go.WideShapes Go.ChangeAt Go.RowKit
attribute [local irreducible] Go.Calls
end
section
end
end Go.Proofs.YthlepbbdjmmelaaGreatDoor
namespace Go.Proofs.YthlepbbdjmmelaaGreatDoor.Pcs
open Go.ChangeShapes Go.WideShapes Go.ChangeAt Go.RowKit
def rowL (E:Nat→Int × Int) (d:Nat→Nat):Nat→List Value
  | 0 => []
  | n + 1 => rowL E d n ++ [.int .i64 (E (d n)).1,.int .i64 (E (d n)).2]
theorem rowL_len (E:Nat→Int × Int) (d:Nat→Nat):∀ n,(rowL E d n).length = n * 2
  | 0 => rfl
  | n + 1 => by simp only [rowL,List.length_append,rowL_len E d n,List.length_cons,List.length_nil];omega
def rowC (E:Nat→Int × Int) (n:Nat) (d:Nat→Nat):Array Value:=(rowL E d n).toArray
theorem rowL_get (E:Nat→Int × Int) (d:Nat→Nat):∀ (n i:Nat),i < n→(rowL E d n)[i * 2]? = some (.int .i64 (E (d i)).1)∧(rowL E d n)[i * 2 + 1]? = some (.int .i64 (E (d i)).2)
  | n + 1, i, h => by
    simp only [rowL]
    by_cases c:i = n
    · subst c
      rw [List.getElem?_append_right (by rw [rowL_len];omega),List.getElem?_append_right (by rw [rowL_len];omega),rowL_len]
      simp
    · obtain ⟨h1,h2⟩:=rowL_get E d n i (by omega)
      rw [List.getElem?_append_left (by rw [rowL_len];omega),List.getElem?_append_left (by rw [rowL_len];omega)]
      exact ⟨h1,h2⟩
theorem rowC_size (E:Nat→Int × Int) (n:Nat) (d:Nat→Nat):(rowC E n d).size = n * 2:=by unfold rowC;rw [List.size_toArray,rowL_len]
theorem rowC_get {E:Nat→Int × Int} {n:Nat} {d:Nat→Nat} {i:Nat} (h:i < n):(rowC E n d)[i * 2]? = some (.int .i64 (E (d i)).1)∧(rowC E n d)[i * 2 + 1]? = some (.int .i64 (E (d i)).2):=by
  obtain ⟨h1,h2⟩:=rowL_get E d n i h
  unfold rowC
  rw [List.getElem?_toArray,List.getElem?_toArray]
  exact ⟨h1,h2⟩
theorem rowC_ext {E:Nat→Int × Int} {n:Nat} {d d':Nat→Nat} (h:∀ i,i < n→d i = d' i):rowC E n d = rowC E n d':=by
  unfold rowC
  congr 1
  induction n with
  | zero => rfl
  | succ n ih => simp only [rowL];rw [ih fun i hi => h i (by omega),h n (by omega)]
theorem rowC_set {E:Nat→Int × Int} {n:Nat} {d:Nat→Nat} {i:Nat} (v:Nat):((rowC E n d).setIfInBounds (i * 2) (.int .i64 (E v).1)).setIfInBounds (i * 2 + 1) (.int .i64 (E v).2) = rowC E n (fun k => if k = i then v else d k):=by
  apply Array.ext_getElem?
  intro k
  rw [Array.getElem?_setIfInBounds,Array.getElem?_setIfInBounds,Array.size_setIfInBounds,rowC_size]
  by_cases hk:k < n * 2
  · have hq:k / 2 < n:=by omega
    obtain ⟨a1,a2⟩:=rowC_get (E:=E) (d:=d) hq
    obtain ⟨b1,b2⟩:=rowC_get (E:=E) (d:=fun k => if k = i then v else d k) hq
    by_cases hp:k % 2 = 0
    · have e:k / 2 * 2 = k:=by omega
      rw [e] at a1 b1
      rw [b1,a1,if_neg (by omega)]
      by_cases c:k / 2 = i
      · rw [if_pos (by omega),if_pos c,if_pos (by omega)]
      · rw [if_neg (by omega),if_neg c]
    · have e:k / 2 * 2 + 1 = k:=by omega
      rw [e] at a2 b2
      rw [b2,a2]
      by_cases c:k / 2 = i
      · rw [if_pos (by omega),if_pos c,if_pos (by omega)]
      · rw [if_neg (by omega),if_neg c,if_neg (by omega)]
  · have e1:(rowC E n d)[k]? = none:=Array.getElem?_eq_none (by rw [rowC_size];omega)
    have e2:(rowC E n fun k => if k = i then v else d k)[k]? = none:=Array.getElem?_eq_none (by rw [rowC_size];omega)
    rw [e1,e2]
    by_cases c:i * 2 + 1 = k
    · rw [if_pos c,if_neg (by omega)]
    · rw [if_neg c]
      by_cases c2:i * 2 = k
      · rw [if_pos c2,if_neg (by omega)]
      · rw [if_neg c2]
theorem app_set (A tl:Array Value) (p:Nat) (v:Value):∃ tl',(A ++ tl).setIfInBounds p v = A.setIfInBounds p v ++ tl':=by
  by_cases h:p < A.size
  · refine ⟨tl, ?_⟩
    apply Array.ext_getElem?
    intro k
    rw [Array.getElem?_setIfInBounds,Array.getElem?_append,Array.getElem?_append,Array.size_setIfInBounds,Array.getElem?_setIfInBounds,Array.size_append]
    by_cases c:p = k
    · subst c
      rw [if_pos rfl,if_pos h,if_pos h,if_pos rfl,if_pos (by omega)]
    · rw [if_neg c,if_neg c]
  · refine ⟨tl.setIfInBounds (p - A.size) v, ?_⟩
    apply Array.ext_getElem?
    intro k
    rw [Array.getElem?_setIfInBounds,Array.getElem?_append,Array.getElem?_append,Array.size_setIfInBounds,Array.getElem?_setIfInBounds,Array.getElem?_setIfInBounds,Array.size_append]
    by_cases c:p = k
    · subst c
      rw [if_pos rfl,if_neg h,if_pos rfl]
      by_cases c2:p < A.size + tl.size
      · rw [if_pos c2,if_pos (by omega)]
      · rw [if_neg c2,if_neg (by omega)]
    · rw [if_neg c,if_neg c]
      by_cases c2:k < A.size
      · rw [if_pos c2,if_pos c2]
      · rw [if_neg c2,if_neg c2,if_neg (by omega)]
structure RowW (E:Nat→Int × Int) (w0:World) (blk n:Nat) (t:TypeId) (d:Nat→Nat) (w:World):Prop where
  here:∃ tl:Array Value,Blk w blk (rowC E n d ++ tl) t
  low:Below blk w0 w
variable {E:Nat→Int × Int} {w0 w w':World} {blk n:Nat} {t:TypeId} {d:Nat→Nat}
theorem RowW.lt (h:RowW E w0 blk n t d w):blk < w.heap.size:=by obtain ⟨tl,e⟩:=h.here;exact e.lt
theorem RowW.cellA (h:RowW E w0 blk n t d w) {i:Nat} (hi:i < n):w.cell? ⟨blk,i * 2,none⟩ = some (.int .i64 (E (d i)).1):=by
  obtain ⟨tl,e⟩:=h.here
  rw [e.cell,Array.getElem?_append_left (by rw [rowC_size];omega)]
  exact (rowC_get hi).1
theorem RowW.cellB (h:RowW E w0 blk n t d w) {i:Nat} (hi:i < n):w.cell? ⟨blk,i * 2 + 1,none⟩ = some (.int .i64 (E (d i)).2):=by
  obtain ⟨tl,e⟩:=h.here
  rw [e.cell,Array.getElem?_append_left (by rw [rowC_size];omega)]
  exact (rowC_get hi).2
theorem RowW.freeA (h:RowW E w0 blk n t d w) (i:Nat):w.frozen? ⟨blk,i * 2,none⟩ = false:=by obtain ⟨tl,e⟩:=h.here;exact e.free _
theorem RowW.freeB (h:RowW E w0 blk n t d w) (i:Nat):w.frozen? ⟨blk,i * 2 + 1,none⟩ = false:=by obtain ⟨tl,e⟩:=h.here;exact e.free _
theorem RowW.past (h:RowW E w0 blk n t d w) (hb:Below w.heap.size w w'):RowW E w0 blk n t d w':=by
  obtain ⟨tl,e⟩:=h.here
  exact ⟨⟨tl,e.past hb⟩,h.low.trans (hb.mono (Nat.le_of_lt e.lt))⟩
theorem RowW.set (h:RowW E w0 blk n t d w) (i v:Nat):RowW E w0 blk n t (fun k => if k = i then v else d k) ((w.setCell ⟨blk,i * 2,none⟩ (.int .i64 (E v).1)).setCell ⟨blk,i * 2 + 1,none⟩ (.int .i64 (E v).2)):=by
  obtain ⟨tl,e⟩:=h.here
  obtain ⟨t1,e1⟩:=app_set (rowC E n d) tl (i * 2) (.int .i64 (E v).1)
  obtain ⟨t2,e2⟩:=app_set ((rowC E n d).setIfInBounds (i * 2) (.int .i64 (E v).1)) t1 (i * 2 + 1) (.int .i64 (E v).2)
  refine ⟨⟨t2, ?_⟩,(h.low.setCell (Nat.le_refl _) _).setCell (Nat.le_refl _) _⟩
  rw [← rowC_set,← e2,← e1]
  exact (e.set _ _).set _ _
theorem RowW.ext (h:RowW E w0 blk n t d w) {d':Nat→Nat} (e:d = d'):RowW E w0 blk n t d' w:=e ▸ h
theorem RowW.swap (h:RowW E w0 blk n t d w) (i j:Nat):RowW E w0 blk n t (sw d i j) ((((w.setCell ⟨blk,i * 2,none⟩ (.int .i64 (E (d j)).1)).setCell ⟨blk,i * 2 + 1,none⟩ (.int .i64 (E (d j)).2)).setCell ⟨blk,j * 2,none⟩ (.int .i64 (E (d i)).1)).setCell ⟨blk,j * 2 + 1,none⟩ (.int .i64 (E (d i)).2)):=by
  refine ((h.set i (d j)).set j (d i)).ext ?_
  funext k
  unfold sw
  by_cases c1:k = j
  · by_cases c2:k = i
    · rw [if_pos c1,if_pos c2,← c1,← c2]
    · rw [if_pos c1,if_neg c2,if_pos c1]
  · rw [if_neg c1,if_neg c1]
theorem RowW.drew (h:RowW E w0 blk n t d w):RowW E w0 blk n t d w.drew:=by
  obtain ⟨tl,e⟩:=h.here
  exact ⟨⟨tl,e.drew 1⟩,h.low.drew⟩
theorem RowW.c2A (h:RowW E w0 blk n t d w) (i j:Nat) (hj:j < n) (v:Nat):((w.setCell ⟨blk,i * 2,none⟩ (.int .i64 (E v).1)).setCell ⟨blk,i * 2 + 1,none⟩ (.int .i64 (E v).2)).cell? ⟨blk,j * 2,none⟩ = some (.int .i64 (E (if j = i then v else d j)).1) :=
  (h.set i v).cellA hj
theorem RowW.c2B (h:RowW E w0 blk n t d w) (i j:Nat) (hj:j < n) (v:Nat):((w.setCell ⟨blk,i * 2,none⟩ (.int .i64 (E v).1)).setCell ⟨blk,i * 2 + 1,none⟩ (.int .i64 (E v).2)).cell? ⟨blk,j * 2 + 1,none⟩ = some (.int .i64 (E (if j = i then v else d j)).2) :=
  (h.set i v).cellB hj
end Go.Proofs.YthlepbbdjmmelaaGreatDoor.Pcs
namespace Go.Proofs.YthlepbbdjmmelaaGreatDoor.Pcs
open Go.ChangeShapes Go.WideShapes Go.ChangeAt Go.RowKit
variable {E:Nat→Int × Int}
attribute [local irreducible] Go.Calls
set_option maxHeartbeats 1000000 in
theorem swapRange_c (w0 w:World) (blk n cap a b m:Nat) (t:TypeId) (d:Nat→Nat) (fv:Value) (h:RowW E w0 blk n t d w) (hab:a + m≤b) (hb:b + m≤n) (hn:n≤4611686018427387904) :
    Calls Tryz.prog 99 #[.slice (some ⟨blk,0,none⟩) n cap,.int .i64 a,.int .i64 b,.int .i64 m,fv] w fun e w' => e = .returned (.tuple #[])∧RowW E w0 blk n t (swr d a b m) w':=by
  have H:=hidE h;clear h
  go_enter Tryz.func99,Tryz.ntmps99
  go_wp2
  go_loopw [10] (fun i wr => ∃ k:Nat,k≤m∧i = .int .i64 k∧RowW E w0 blk n t (swr d a b k) wr) (fun i _ => m - (intOf i).toNat)
  case atStart => exact ⟨0,Nat.zero_le _,rfl,H.out.ext (swr_zero _ _ _).symm⟩
  case round =>
    obtain ⟨k,hk,rfl,hr⟩:=hrel
    by_cases hlt:k < m
    · have c1:=hr.cellA (i:=a + k) (by omega);have c1b:=hr.cellB (i:=a + k) (by omega)
      have c2:=hr.cellA (i:=b + k) (by omega);have c2b:=hr.cellB (i:=b + k) (by omega)
      have c3:=hr.c2A (a + k) (b + k) (by omega) (swr d a b k (b + k));have c3b:=hr.c2B (a + k) (b + k) (by omega) (swr d a b k (b + k))
      have f1:=hr.freeA (a + k);have f1b:=hr.freeB (a + k)
      have f2:=hr.freeA (b + k);have f2b:=hr.freeB (b + k)
      have hS:=hidE ((hr.swap (a + k) (b + k)).drew.ext (swr_step d a b k (by omega)))
      rw [if_neg (by omega)] at c3 c3b
      clear hr
      generalize swr d a b k (b + k) = y at *
      generalize swr d a b k (a + k) = x at *
      go_wp2
      go_region
      go_wp2
      go_roundw
      case rel => exact ⟨k + 1,by omega,by go_num,hS.out⟩
      case measure => simp [intOf];omega
    · go_wp2
      have:k = m:=by omega
      subst this
      go_end0
      exact ⟨rfl,hr⟩
end Go.Proofs.YthlepbbdjmmelaaGreatDoor.Pcs
namespace Go.Proofs.YthlepbbdjmmelaaGreatDoor.Pcs
open Go.ChangeShapes Go.WideShapes Go.ChangeAt Go.RowKit
variable {E:Nat→Int × Int}
attribute [local irreducible] Go.Calls
theorem swapRange_eq {w0 w:World} {blk n cap a b m:Nat} {x y z:Int} {t:TypeId} {d d':Nat→Nat} {fv:Value} (h:RowW E w0 blk n t d w) (hx:x = a) (hy:y = b) (hz:z = m) (hab:a + m≤b) (hb:b + m≤n) (hn:n≤4611686018427387904) (hd:swr d a b m = d') :
    Calls Tryz.prog 99 #[.slice (some ⟨blk,0,none⟩) n cap,.int .i64 x,.int .i64 y,.int .i64 z,fv] w fun e w' => e = .returned (.tuple #[])∧RowW E w0 blk n t d' w':=by
  subst hx;subst hy;subst hz;subst hd
  exact swapRange_c w0 w blk n cap a b m t d fv h hab hb hn
set_option maxHeartbeats 1000000 in
theorem rotate_c (w0 w:World) (blk n cap a m b:Nat) (t:TypeId) (d:Nat→Nat) (fv:Value) (h:RowW E w0 blk n t d w) (ham:a < m) (hmb:m < b) (hb:b≤n) (hn:n≤4611686018427387904) :
    Calls Tryz.prog 74 #[.slice (some ⟨blk,0,none⟩) n cap,.int .i64 a,.int .i64 m,.int .i64 b,fv] w fun e w' => e = .returned (.tuple #[])∧RowW E w0 blk n t (rot d a m b) w':=by
  have H:=hidE h;clear h
  go_enter Tryz.func74,Tryz.ntmps74
  go_wp2
  go_loopw [10,11] (fun vi vj wr => ∃ (i j:Nat) (dk:Nat→Nat),vi = .int .i64 i∧vj = .int .i64 j∧0 < i∧i≤m∧0 < j∧m + j≤n∧rot dk (m - i) m (m + j) = rot d a m b∧RowW E w0 blk n t dk wr) (fun vi vj _ => (intOf vi).toNat + (intOf vj).toNat)
  case atStart => exact ⟨m - a,b - m,d,by go_num,by go_num,by omega,by omega,by omega,by omega,by rw [show m - (m - a) = a by omega,show m + (b - m) = b by omega],H.out⟩
  case round =>
    obtain ⟨i,j,dk,rfl,rfl,hi0,him,hj0,hjn,hrot,hr⟩:=hrel
    have HR:=hidE hrot;have HW:=hidE hr
    clear hrot hr
    rcases Nat.lt_trichotomy i j with c | c | c
    · have e1:((i:Int) == (j:Int)) = false:=beq_eq_false_iff_ne.2 (by omega)
      have e2:((i:Int) != (j:Int)) = true:=bne_iff_ne.2 (by omega)
      have e3:¬ (j:Int) < (i:Int):=by omega
      go_wp2_with (go_at_call 99;((with_reducible refine (swapRange_eq (a:=m - i) (b:=m + j - i) (m:=i) HW.out (by omega) (by omega) rfl (by omega) (by omega) hn rfl).mono ?_);rintro e w' ⟨rfl,hr2⟩))
      go_roundw
      case rel => exact ⟨i,j - i,_,rfl,by go_num,hi0,him,by omega,by omega,(rot_lt dk m i j him c).trans HR.out,hr2⟩
      case measure => simp [intOf];omega
    · subst c
      go_wp2_with (go_at_call 99;((with_reducible refine (swapRange_eq (a:=m - i) (b:=m) (m:=i) HW.out (by omega) rfl rfl (by omega) (by omega) hn rfl).mono ?_);rintro e w' ⟨rfl,hr2⟩))
      go_end0
      exact ⟨rfl,hr2.ext ((rot_eq dk m i him).trans HR.out)⟩
    · have e1:((i:Int) == (j:Int)) = false:=beq_eq_false_iff_ne.2 (by omega)
      have e2:((i:Int) != (j:Int)) = true:=bne_iff_ne.2 (by omega)
      have e3:(j:Int) < (i:Int):=by omega
      go_wp2_with (go_at_call 99;((with_reducible refine (swapRange_eq (a:=m - i) (b:=m) (m:=j) HW.out (by omega) rfl rfl (by omega) (by omega) hn rfl).mono ?_);rintro e w' ⟨rfl,hr2⟩))
      go_roundw
      case rel => exact ⟨i - j,j,_,by go_num,rfl,by omega,by omega,hj0,hjn,(rot_gt dk m i j him c).trans HR.out,hr2⟩
      case measure => simp [intOf];omega
end Go.Proofs.YthlepbbdjmmelaaGreatDoor.Pcs
namespace Go.Proofs.YthlepbbdjmmelaaGreatDoor.Pcs
open Go.ChangeShapes Go.WideShapes Go.ChangeAt Go.RowKit
attribute [local irreducible] Go.Calls
def cmpI (a b:Int):Int:=if a < b then -1 else if b < a then 1 else 0
theorem cmpI_lt {a b:Int} (h:a < b):cmpI a b = -1:=by unfold cmpI;rw [if_pos h]
theorem cmpI_neg {a b:Int}:decide (cmpI a b < 0) = decide (a < b):=by unfold cmpI;split <;> simp_all;split <;> simp_all
theorem isNaN_c (x:Int) (w:World):Calls Tryz.prog 34 #[.int .i64 x] w fun e w' => e = .returned (.bool false)∧w' = w:=by
  go_enter Tryz.func34,Tryz.ntmps34
  go_wp2
  go_ret
  exact ⟨rfl,rfl⟩
theorem compareI (a b:Int) (w:World):Calls Tryz.prog 20 #[.int .i64 a,.int .i64 b] w fun e w' => e = .returned (.int .i64 (cmpI a b))∧w' = w:=by
  rcases Int.lt_trichotomy a b with c | c | c
  · have hv:cmpI a b = -1:=cmpI_lt c
    have HV:=hidE hv;clear hv
    go_enter Tryz.func20,Tryz.ntmps20
    go_wp2_with (go_at_call 34;((with_reducible refine (isNaN_c _ _).mono ?_);rintro e w' ⟨rfl,rfl⟩))
    go_ret
    exact ⟨ret_int HV.out.symm,rfl⟩
  · have hv:cmpI a b = 0:=by unfold cmpI;rw [if_neg (by omega),if_neg (by omega)]
    have HV:=hidE hv;clear hv
    subst c
    go_enter Tryz.func20,Tryz.ntmps20
    go_wp2_with (go_at_call 34;((with_reducible refine (isNaN_c _ _).mono ?_);rintro e w' ⟨rfl,rfl⟩))
    go_ret
    exact ⟨ret_int HV.out.symm,rfl⟩
  · have hv:cmpI a b = 1:=by unfold cmpI;rw [if_neg (by omega),if_pos (by omega)]
    have HV:=hidE hv;clear hv
    have c':¬ a < b:=by omega
    go_enter Tryz.func20,Tryz.ntmps20
    go_wp2_with (go_at_call 34;((with_reducible refine (isNaN_c _ _).mono ?_);rintro e w' ⟨rfl,rfl⟩))
    go_ret
    exact ⟨ret_int HV.out.symm,rfl⟩
theorem back1_c (a b c d:Int) (w:World):Calls Tryz.prog 19 #[.agg #[.int .i64 a,.int .i64 b],.agg #[.int .i64 c,.int .i64 d]] w fun e w' => e = .returned (.int .i64 (cmpI a c))∧Below w.heap.size w w':=by
  go_enter Tryz.func19,Tryz.ntmps19
  go_wp2_with (go_at_call 20;((with_reducible refine (compareI _ _ _).mono ?_);rintro e w' ⟨rfl,rfl⟩))
  go_ret
  exact ⟨rfl,by (repeat (first | exact Below.refl _ _ | assumption | refine balloc ?_ _ | refine below_drewN ?_ _ | refine bstep (by assumption) ?_ | refine bstep (Past.prop _) ?_ | refine Below.setCell ?_ (by first | exact Nat.le_refl _ | (simp;done) | (simp;omega)) _))⟩
end Go.Proofs.YthlepbbdjmmelaaGreatDoor.Pcs
