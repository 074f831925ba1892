/- Lists of parts that are trees; parts in another one's stead; the text of a definition, byte by byte. No program. No conditions. The normal form of terms: the rules, on a term and the list of its children; that they end, and that what they end in stays. No program. No conditions. The normal form: it is reached, it stays, it is no greater and no deeper, its parts are parts .. -/
import Derived.Test.YthlepbbdjmmelaaGreatDoorPWGA
import Derived.Test.YthlepbbdjmmelaaGreatDoorPWMA
import Derived.Test.YthlepbbdjmmelaaGreatDoorRows
import Derived.LoopTactic
import Derived.Deep.LoopGhost
import Derived.WalkMore
import Derived.ScopeJumps
import Derived.Deep.DeepCutAuto
import Derived.Outline
import Derived.BigRegion
import Derived.Laws.AppendOwn
import Derived.Laws.OwnMore
import Derived.Laws.IdiomStrings
namespace Go.Proofs.YthlepbbdjmmelaaGreatDoor
section
def Fst.kok:Fst→Prop
  | .nil => True
  | .cons x kids next => x.kind≤4∧x.kids = 0∧kids.kok∧next.kok
def endF:List Prt→Nat→Option (List Prt)
  | l,0 => some l
  | [],_ + 1 => none
  | x :: l,n + 1 => if 4 < x.kind ∨ x.kids < 0 then none else endF l (n + x.kids.toNat)
theorem endF_zero (l:List Prt):endF l 0 = some l:=by cases l <;> rfl
theorem endF_cons (x:Prt) (l:List Prt) (n:Nat):endF (x :: l) (n + 1) = if 4 < x.kind ∨ x.kids < 0 then none else endF l (n + x.kids.toNat):=rfl
theorem endF_flat:∀ (F:Fst) (r:List Prt) (n:Nat),F.kok→endF (F.flat ++ r) (F.len + n) = endF r n
  | .nil,r,n,_ => by simp [Fst.flat,Fst.len]
  | .cons x kids next, r, n, ⟨h1, h2, h3, h4⟩ => by
    simp only [Fst.flat,Fst.len,List.cons_append,List.append_assoc]
    rw [show next.len + 1 + n = next.len + n + 1 by omega,endF_cons,if_neg (by simp only;omega)]
    simp only [Int.toNat_natCast]
    rw [show next.len + n + kids.len = kids.len + (next.len + n) by omega,endF_flat kids _ _ h3,endF_flat next r n h4]
theorem fst_split:∀ (a b:Nat) (G:Fst),G.kok→G.len = a + b→∃ K N:Fst,K.kok∧N.kok∧K.len = a∧N.len = b∧G.flat = K.flat ++ N.flat
  | 0,b,G,hG,h => ⟨.nil,G,trivial,hG,rfl,by omega,rfl⟩
  | a + 1,b,.nil,_,h => by simp [Fst.len] at h;omega
  | a + 1, b, .cons x kids next, ⟨h1, h2, h3, h4⟩, h => by
    simp only [Fst.len] at h
    obtain ⟨K,N,k1,k2,k3,k4,k5⟩:=fst_split a b next h4 (by omega)
    refine ⟨.cons x kids K,N,⟨h1,h2,h3,k1⟩,k2,by simp only [Fst.len];omega,k4, ?_⟩
    simp only [Fst.flat,k5,List.cons_append,List.append_assoc]
theorem unflat:∀ (m:Nat) (l r:List Prt) (n:Nat),l.length≤m→endF l n = some r→∃ F:Fst,F.kok∧F.len = n∧l = F.flat ++ r
  | m, l, r, 0, _, h => by
    rw [endF_zero] at h
    cases h
    exact ⟨.nil,trivial,rfl,rfl⟩
  | m,[],r,n + 1,_,h => by cases h
  | 0,x :: l,r,n + 1,hm,_ => by simp at hm
  | m + 1, x :: l, r, n + 1, hm, h => by
    rw [endF_cons] at h
    by_cases c:4 < x.kind ∨ x.kids < 0
    · rw [if_pos c] at h;cases h
    · rw [if_neg c] at h
      obtain ⟨G,g1,g2,g3⟩:=unflat m l r _ (by simpa using hm) h
      obtain ⟨K,N,k1,k2,k3,k4,k5⟩:=fst_split x.kids.toNat n G g1 (by omega)
      refine ⟨.cons { x with kids:=0 } K N,⟨by show x.kind≤4;omega,rfl,k1,k2⟩,by simp only [Fst.len];omega, ?_⟩
      simp only [Fst.flat,List.cons_append,List.append_assoc]
      rw [g3,k5,List.append_assoc]
      congr 1
      obtain ⟨k,n',g,d,kd⟩:=x
      simp only at c k3 ⊢
      rw [k3]
      congr 1
      omega
def treeB (l:List Prt):Bool:=decide (l ≠ []) && decide (endF l 1 = some [])
theorem tree_iff {l:List Prt}:treeB l = true ↔ ∃ F:Fst,F.kok∧F.len = 1∧l = F.flat:=by
  unfold treeB
  rw [Bool.and_eq_true,decide_eq_true_iff,decide_eq_true_iff]
  constructor
  · rintro ⟨_,h⟩
    obtain ⟨F,h1,h2,h3⟩:=unflat l.length l [] 1 (Nat.le_refl _) h
    exact ⟨F,h1,h2,by rw [h3,List.append_nil]⟩
  · rintro ⟨F,h1,h2,rfl⟩
    refine ⟨fun e => ?_, ?_⟩
    · have:=congrArg List.length e
      rw [flat_len] at this
      have:=len_size F
      simp at *
      omega
    · have:=endF_flat F [] 0 h1
      rw [List.append_nil,h2] at this
      rw [this]
      rfl
theorem len_nil {F:Fst}:F.len = 0 ↔ F = .nil:=by
  cases F with
  | nil => exact ⟨fun _ => rfl,fun _ => rfl⟩
  | cons x k n => exact ⟨fun h => by simp [Fst.len] at h,fun h => by cases h⟩
def decS (n:Int):List UInt8:=if n < 0 then 45 :: digG (-n).toNat else digG n.toNat
def textF:Fst→List UInt8
  | .nil => []
  | .cons x kids next => 32 :: 40 :: (wordK x.kind ++ ((if x.kind = 0 then 32 :: (decS x.n ++ 32 :: (decS x.g ++ 32 :: decS x.d)) else []) ++ (textF kids ++ 41 :: textF next)))
def printF (fr to':Int) (F:Fst):List UInt8:=wFrom ++ 32 :: (decS fr ++ 32 :: (wTo ++ 32 :: (decS to' ++ 58 :: textF F)))
def tailG (t:Tok):List Tok→List UInt8
  | [] => []
  | u :: l => (if gapB t u then [32] else []) ++ (u.text ++ tailG u l)
theorem textG_tail:∀ (t:Tok) (l:List Tok),textG (t :: l) = t.text ++ tailG t l
  | t,[] => by simp [textG,tailG]
  | t, u :: l => by
    show t.text ++ (if gapB t u then 32 :: textG (u :: l) else textG (u :: l)) = _
    rw [textG_tail u l,tailG]
    split <;> simp
theorem decS_of {n:Int} (h:0≤n):decS n = digG n.toNat:=by unfold decS;rw [if_neg (by omega)]
theorem tail_toks:∀ (F:Fst) (t:Tok) (l:List Tok),F.wf→t.kind ≠ 2→tailG t (F.toks ++ tokC :: l) = textF F ++ 41 :: tailG tokC l
  | .nil, t, l, _, ht => by
    simp only [Fst.toks,textF,List.nil_append,tailG]
    rw [show gapB t tokC = false by unfold gapB;rw [show (tokC.kind != 3) = false from rfl,Bool.and_false,Bool.false_and]]
    rfl
  | .cons x kids next, t, l, ⟨hx, hk, h1, h2⟩, ht => by
    have g1:gapB t tokO = true:=by
      unfold gapB
      rw [show (t.kind != 2) = true from bne_iff_ne.2 ht]
      rfl
    have g2:gapB tokO (tokW (wordK x.kind)) = false:=rfl
    simp only [Fst.toks,textF,List.cons_append,List.append_assoc]
    rw [tailG,g1,if_pos rfl,tailG,g2,if_neg (by decide)]
    have hT:∀ u:Tok,u.kind ≠ 2→tailG u (kids.toks ++ tokC :: (next.toks ++ tokC :: l)) = textF kids ++ 41 :: (textF next ++ 41 :: tailG tokC l):=fun u hu => by
      rw [tail_toks kids u (next.toks ++ tokC :: l) h1 hu,tail_toks next tokC l h2 (by decide)]
    by_cases c:x.kind = 0
    · rw [if_pos c,if_pos c]
      rcases hx with ⟨_,a1,a2,a3,a4,_⟩ | ⟨a,_⟩
      · simp only [List.cons_append,List.nil_append]
        rw [tailG,show gapB (tokW (wordK x.kind)) (tokN x.n) = true from rfl,if_pos rfl,tailG,show gapB (tokN x.n) (tokN x.g) = true from rfl,if_pos rfl,tailG,show gapB (tokN x.g) (tokN x.d) = true from rfl,if_pos rfl,hT (tokN x.d) (by show (1:Nat) ≠ 2;decide)]
        rw [decS_of (Int.natCast_nonneg _),decS_of (Int.natCast_nonneg _),decS_of a3]
        simp [tokO,tokW,tokN]
      · omega
    · rw [if_neg c,if_neg c,List.nil_append,List.nil_append,hT _ (by show (0:Nat) ≠ 2;decide)]
      simp [tokO,tokW]
theorem tail_end:∀ (F:Fst) (t:Tok),F.wf→t.kind ≠ 2→tailG t F.toks = textF F
  | .nil,t,_,_ => rfl
  | .cons x kids next, t, ⟨hx, hk, h1, h2⟩, ht => by
    have g1:gapB t tokO = true:=by
      unfold gapB
      rw [show (t.kind != 2) = true from bne_iff_ne.2 ht]
      rfl
    have g2:gapB tokO (tokW (wordK x.kind)) = false:=rfl
    simp only [Fst.toks,textF]
    rw [tailG,g1,if_pos rfl,tailG,g2,if_neg (by decide)]
    have hT:∀ u:Tok,u.kind ≠ 2→tailG u (kids.toks ++ tokC :: next.toks) = textF kids ++ 41 :: textF next:=fun u hu => by
      rw [tail_toks kids u next.toks h1 hu,tail_end next tokC h2 (by decide)]
    by_cases c:x.kind = 0
    · rw [if_pos c,if_pos c]
      rcases hx with ⟨_,a1,a2,a3,a4,_⟩ | ⟨a,_⟩
      · simp only [List.cons_append,List.nil_append]
        rw [tailG,show gapB (tokW (wordK x.kind)) (tokN x.n) = true from rfl,if_pos rfl,tailG,show gapB (tokN x.n) (tokN x.g) = true from rfl,if_pos rfl,tailG,show gapB (tokN x.g) (tokN x.d) = true from rfl,if_pos rfl,hT (tokN x.d) (by show (1:Nat) ≠ 2;decide)]
        rw [decS_of (Int.natCast_nonneg _),decS_of (Int.natCast_nonneg _),decS_of a3]
        simp [tokO,tokW,tokN]
      · omega
    · rw [if_neg c,if_neg c,List.nil_append,List.nil_append,hT _ (by show (0:Nat) ≠ 2;decide)]
      simp [tokO,tokW]
theorem print_text {fr to':Int} {F:Fst} (h1:okN fr) (h2:okN to') (h3:F.wf):printF fr to' F = textD fr to' F:=by
  unfold textD tokD printF
  rw [textG_tail,tailG,show gapB (tokW wFrom) (tokN fr) = true from rfl,if_pos rfl,tailG,show gapB (tokN fr) (tokW wTo) = true from rfl,if_pos rfl,tailG,show gapB (tokW wTo) (tokN to') = true from rfl,if_pos rfl,tailG,show gapB (tokN to') tokL = false from rfl,if_neg (by decide),tail_end F tokL h3 (by decide)]
  rw [decS_of h1.1,decS_of h2.1]
  simp [tokW,tokN,tokL]
theorem kok_kind:∀ (F:Fst),F.kok→∀ x ∈ F.flat,x.kind≤4
  | .nil,_,x,hx => by cases hx
  | .cons y K N, ⟨h1, _, h3, h4⟩, x, hx => by
    simp only [Fst.flat,List.mem_cons,List.mem_append] at hx
    rcases hx with rfl | hx | hx
    · exact h1
    · exact kok_kind K h3 x hx
    · exact kok_kind N h4 x hx
theorem kok_kids:∀ (F:Fst),F.kok→∀ x ∈ F.flat,0≤x.kids∧x.kids≤(F.size:Int)
  | .nil,_,x,hx => by cases hx
  | .cons y K N, ⟨h1, _, h3, h4⟩, x, hx => by
    simp only [Fst.flat,List.mem_cons,List.mem_append] at hx
    simp only [Fst.size]
    rcases hx with rfl | hx | hx
    · have:=len_size K;show 0≤(K.len:Int)∧(K.len:Int)≤_;omega
    · have:=kok_kids K h3 x hx;omega
    · have:=kok_kids N h4 x hx;omega
end
section
abbrev Tm:=Prt × Fst
def toL:Fst→List Tm
  | .nil => []
  | .cons x K N => (x,K) :: toL N
def ofL:List Tm→Fst
  | [] => .nil
  | t :: l => .cons t.1 t.2 (ofL l)
theorem of_to:∀ F:Fst,ofL (toL F) = F
  | .nil => rfl
  | .cons x K N => by simp only [toL,ofL,of_to N]
theorem to_of:∀ l:List Tm,toL (ofL l) = l
  | [] => rfl
  | t :: l => by simp only [toL,ofL,to_of l]
theorem toL_len:∀ F:Fst,(toL F).length = F.len
  | .nil => rfl
  | .cons x K N => by simp only [toL,Fst.len,List.length_cons,toL_len N]
theorem ofL_len (l:List Tm):(ofL l).len = l.length:=by rw [← toL_len,to_of]
def sizT (t:Tm):Nat:=t.2.size + 1
def sizL:List Tm→Nat
  | [] => 0
  | t :: l => sizT t + sizL l
theorem sizL_to:∀ F:Fst,sizL (toL F) = F.size
  | .nil => rfl
  | .cons x K N => by simp only [toL,sizL,sizT,Fst.size,sizL_to N];omega
theorem sizL_of (l:List Tm):(ofL l).size = sizL l:=by rw [← sizL_to,to_of]
theorem sizL_app:∀ a b:List Tm,sizL (a ++ b) = sizL a + sizL b
  | [],b => by simp [sizL]
  | t :: a,b => by simp only [List.cons_append,sizL,sizL_app a b];omega
def txT (t:Tm):List UInt8:=textF (.cons t.1 t.2 .nil)
def ltB:List UInt8→List UInt8→Bool
  | _,[] => false
  | [],_ :: _ => true
  | a :: r,b :: s => decide (a < b) || (decide (a = b) && ltB r s)
def flatG (kind:Nat):Nat→List Tm→List Tm
  | _,[] => []
  | n,t :: l => if t.1.kind = kind∧n + t.2.len≤17 then toL t.2 ++ flatG kind (n + t.2.len - 1) l else t :: flatG kind n l
def onceG (seen:List (List UInt8)):List Tm→List Tm
  | [] => []
  | t :: l => if seen.contains (txT t) then onceG seen l else t :: onceG (txT t :: seen) l
def insG (t:Tm):List Tm→List Tm
  | [] => [t]
  | u :: l => if ltB (txT t) (txT u) then t :: u :: l else u :: insG t l
def sortG:List Tm→List Tm:=List.foldl (fun a t => insG t a) []
def oneT (t:Tm):Option Tm :=
  let l:=toL t.2
  if l.length = 1 then l.head?
  else if (t.1.kind = 1 ∨ t.1.kind = 3 ∨ t.1.kind = 4)∧(flatG t.1.kind l.length l).length ≠ l.length then some (t.1,ofL (flatG t.1.kind l.length l))
  else if t.1.kind = 3∧(onceG [] l).length ≠ l.length then some (t.1,ofL (onceG [] l))
  else if (t.1.kind = 3 ∨ t.1.kind = 4)∧l.map txT ≠ (sortG l).map txT then some (t.1,ofL (sortG l))
  else none
def loopT:Nat→Tm→Tm
  | 0,t => t
  | m + 1, t => match oneT t with
    | none => t
    | some u => loopT m u
def plainF:Fst→Fst
  | .nil => .nil
  | .cons x K N => .cons (loopT (2 * K.size + 4) (x,plainF K)).1 (loopT (2 * K.size + 4) (x,plainF K)).2 (plainF N)
def Nrm:Fst→Prop
  | .nil => True
  | .cons x K N => oneT (x,K) = none∧Nrm K∧Nrm N
theorem loopT_fix {t:Tm} (h:oneT t = none):∀ m,loopT m t = t
  | 0 => rfl
  | m + 1 => by rw [loopT,h]
theorem nrm_all:∀ F:Fst,Nrm F ↔ ∀ t ∈ toL F,oneT t = none∧Nrm t.2
  | .nil => by simp [Nrm,toL]
  | .cons x K N => by simp only [Nrm,toL,List.mem_cons,forall_eq_or_imp,nrm_all N,and_assoc]
theorem nrm_of {l:List Tm} (h:∀ t ∈ l,oneT t = none∧Nrm t.2):Nrm (ofL l):=by rw [nrm_all,to_of];exact h
theorem insG_mem (t u:Tm):∀ l:List Tm,u ∈ insG t l ↔ u = t ∨ u ∈ l
  | [] => by simp [insG]
  | v :: l => by
    rw [insG]
    split
    · simp
    · simp only [List.mem_cons,insG_mem t u l]
      constructor
      · rintro (h | h | h)
        · exact .inr (.inl h)
        · exact .inl h
        · exact .inr (.inr h)
      · rintro (h | h | h)
        · exact .inr (.inl h)
        · exact .inl h
        · exact .inr (.inr h)
theorem sort_fold:∀ (l a:List Tm) (u:Tm),u ∈ l.foldl (fun a t => insG t a) a ↔ u ∈ l ∨ u ∈ a
  | [],a,u => by simp
  | t :: l, a, u => by
    rw [List.foldl_cons,sort_fold l,insG_mem]
    simp only [List.mem_cons]
    constructor
    · rintro (h | h | h)
      · exact .inl (.inr h)
      · exact .inl (.inl h)
      · exact .inr h
    · rintro ((h | h) | h)
      · exact .inr (.inl h)
      · exact .inl h
      · exact .inr (.inr h)
theorem sortG_mem (l:List Tm) (u:Tm):u ∈ sortG l ↔ u ∈ l:=by unfold sortG;rw [sort_fold];simp
theorem onceG_mem:∀ (l:List Tm) (s:List (List UInt8)) (u:Tm),u ∈ onceG s l→u ∈ l
  | [],_,_,h => by cases h
  | t :: l, s, u, h => by
    rw [onceG] at h
    split at h
    · exact List.mem_cons_of_mem _ (onceG_mem l s u h)
    · rcases List.mem_cons.1 h with h | h
      · exact List.mem_cons.2 (.inl h)
      · exact List.mem_cons_of_mem _ (onceG_mem l _ u h)
theorem flatG_mem (kind:Nat):∀ (l:List Tm) (n:Nat) (u:Tm),u ∈ flatG kind n l→u ∈ l ∨ ∃ t ∈ l,t.1.kind = kind∧u ∈ toL t.2
  | [],_,_,h => by cases h
  | t :: l, n, u, h => by
    rw [flatG] at h
    split at h
    · rename_i c
      rcases List.mem_append.1 h with h | h
      · exact .inr ⟨t,by simp,c.1,h⟩
      · rcases flatG_mem kind l _ u h with h | ⟨v,hv,hk⟩
        · exact .inl (List.mem_cons_of_mem _ h)
        · exact .inr ⟨v,List.mem_cons_of_mem _ hv,hk⟩
    · rcases List.mem_cons.1 h with h | h
      · exact .inl (List.mem_cons.2 (.inl h))
      · rcases flatG_mem kind l _ u h with h | ⟨v,hv,hk⟩
        · exact .inl (List.mem_cons_of_mem _ h)
        · exact .inr ⟨v,List.mem_cons_of_mem _ hv,hk⟩
theorem oneT_cases {t u:Tm} (h:oneT t = some u) :
    (toL t.2 = [u]) ∨ ((t.1.kind = 1 ∨ t.1.kind = 3 ∨ t.1.kind = 4)∧(flatG t.1.kind (toL t.2).length (toL t.2)).length ≠ (toL t.2).length∧u = (t.1,ofL (flatG t.1.kind (toL t.2).length (toL t.2)))) ∨
    (t.1.kind = 3∧(onceG [] (toL t.2)).length ≠ (toL t.2).length∧u = (t.1,ofL (onceG [] (toL t.2)))) ∨
    ((t.1.kind = 3 ∨ t.1.kind = 4)∧(toL t.2).map txT ≠ (sortG (toL t.2)).map txT∧u = (t.1,ofL (sortG (toL t.2)))):=by
  unfold oneT at h
  simp only at h
  split at h
  · rename_i c
    left
    match hl:toL t.2,c with
    | [v],_ => rw [hl] at h;cases h;rfl
  · split at h
    · rename_i c;cases h;exact .inr (.inl ⟨c.1,c.2,rfl⟩)
    · split at h
      · rename_i c;cases h;exact .inr (.inr (.inl ⟨c.1,c.2,rfl⟩))
      · split at h
        · rename_i c;cases h;exact .inr (.inr (.inr ⟨c.1,c.2,rfl⟩))
        · cases h
theorem oneT_nrm {t u:Tm} (h:oneT t = some u) (hn:Nrm t.2):Nrm u.2:=by
  rw [nrm_all] at hn
  rcases oneT_cases h with h | ⟨_,_,rfl⟩ | ⟨_,_,rfl⟩ | ⟨_,_,rfl⟩
  · exact (hn u (by rw [h];simp)).2
  · refine nrm_of fun v hv => ?_
    rcases flatG_mem _ _ _ _ hv with hv | ⟨s,hs,_,hv⟩
    · exact hn v hv
    · exact (nrm_all s.2).1 (hn s hs).2 v hv
  · exact nrm_of fun v hv => hn v (onceG_mem _ _ _ hv)
  · exact nrm_of fun v hv => hn v ((sortG_mem _ _).1 hv)
theorem flatG_siz (kind:Nat):∀ (l:List Tm) (n:Nat),flatG kind n l = l ∨ sizL (flatG kind n l) < sizL l
  | [],_ => .inl rfl
  | t :: l, n => by
    rw [flatG]
    split
    · right
      rw [sizL_app,sizL_to]
      simp only [sizL,sizT]
      rcases flatG_siz kind l (n + t.2.len - 1) with h | h
      · rw [h];omega
      · omega
    · rcases flatG_siz kind l n with h | h
      · exact .inl (by rw [h])
      · right;simp only [sizL];omega
theorem onceG_siz:∀ (l:List Tm) (s:List (List UInt8)),sizL (onceG s l) + (l.length - (onceG s l).length)≤sizL l∧(onceG s l).length≤l.length
  | [],_ => ⟨Nat.le_refl _,Nat.le_refl _⟩
  | t :: l, s => by
    rw [onceG]
    split
    · have:=onceG_siz l s
      simp only [sizL,sizT,List.length_cons];omega
    · have:=onceG_siz l (txT t :: s)
      simp only [sizL,sizT,List.length_cons];omega
theorem insG_siz (t:Tm):∀ l:List Tm,sizL (insG t l) = sizT t + sizL l∧(insG t l).length = l.length + 1
  | [] => ⟨rfl,rfl⟩
  | u :: l => by
    rw [insG]
    split
    · exact ⟨rfl,rfl⟩
    · have:=insG_siz t l
      simp only [sizL,List.length_cons];omega
theorem sort_fold_siz:∀ (l a:List Tm),sizL (l.foldl (fun a t => insG t a) a) = sizL l + sizL a∧(l.foldl (fun a t => insG t a) a).length = l.length + a.length
  | [],a => by simp [sizL]
  | t :: l, a => by
    have:=sort_fold_siz l (insG t a)
    have h2:=insG_siz t a
    simp only [List.foldl_cons,sizL,List.length_cons];omega
theorem sortG_siz (l:List Tm):sizL (sortG l) = sizL l∧(sortG l).length = l.length:=by
  have:=sort_fold_siz l []
  simpa [sortG,sizL] using this
end
section
theorem ltB_irr:∀ a:List UInt8,ltB a a = false
  | [] => rfl
  | a :: r => by simp [ltB,ltB_irr r]
theorem ltB_trans:∀ a b c:List UInt8,ltB a b = true→ltB b c = true→ltB a c = true
  | [],[],_,h,_ => by cases h
  | _ :: _,[],_,h,_ => by cases h
  | _,_ :: _,[],_,h => by cases h
  | [],_ :: _,_ :: _,_,_ => rfl
  | a :: r, b :: s, c :: t, h, h2 => by
    simp only [ltB,Bool.or_eq_true,Bool.and_eq_true,decide_eq_true_eq] at h h2 ⊢
    rcases h with h | ⟨rfl,h⟩
    · rcases h2 with h2 | ⟨rfl,h2⟩
      · exact .inl (UInt8.lt_trans h h2)
      · exact .inl h
    · rcases h2 with h2 | ⟨rfl,h2⟩
      · exact .inl h2
      · exact .inr ⟨rfl,ltB_trans r s t h h2⟩
theorem ltB_total:∀ a b:List UInt8,ltB a b = false→ltB b a = false→a = b
  | [],[],_,_ => rfl
  | [],_ :: _,h,_ => by cases h
  | _ :: _,[],_,h => by cases h
  | a :: r, b :: s, h, h2 => by
    simp only [ltB,Bool.or_eq_false_iff,decide_eq_false_iff_not,Bool.and_eq_false_iff] at h h2
    have e:a = b:=by
      rcases Nat.lt_trichotomy a.toNat b.toNat with c | c | c
      · exact absurd (UInt8.lt_iff_toNat_lt.2 c) h.1
      · exact UInt8.toNat_inj.1 c
      · exact absurd (UInt8.lt_iff_toNat_lt.2 c) h2.1
    subst e
    have h3:ltB r s = false:=by
      rcases h.2 with c | c
      · exact absurd rfl c
      · exact c
    have h4:ltB s r = false:=by
      rcases h2.2 with c | c
      · exact absurd rfl c
      · exact c
    rw [ltB_total r s h3 h4]
theorem leB_trans {a b c:List UInt8} (h:ltB b a = false) (h2:ltB c b = false):ltB c a = false:=by
  cases h3:ltB c a
  · rfl
  · cases h4:ltB a b
    · have:=ltB_total a b h4 h
      subst this
      rw [h3] at h2;cases h2
    · have:=ltB_trans c a b h3 h4
      rw [this] at h2;cases h2
def SrtL:List Tm→Prop:=List.Pairwise fun u v => ltB (txT v) (txT u) = false
theorem insG_srt (t:Tm):∀ l:List Tm,SrtL l→SrtL (insG t l)
  | [],_ => List.pairwise_singleton _ _
  | u :: l, h => by
    obtain ⟨h1,h2⟩:=List.pairwise_cons.1 h
    rw [insG]
    split
    · rename_i c
      refine List.pairwise_cons.2 ⟨fun v hv => ?_,h⟩
      have hc:ltB (txT u) (txT t) = false:=by
        cases h3:ltB (txT u) (txT t)
        · rfl
        · have:=ltB_trans _ _ _ c h3
          rw [ltB_irr] at this;cases this
      rcases List.mem_cons.1 hv with rfl | hv
      · exact hc
      · exact leB_trans hc (h1 v hv)
    · rename_i c
      refine List.pairwise_cons.2 ⟨fun v hv => ?_,insG_srt t l h2⟩
      rcases (insG_mem t v l).1 hv with rfl | hv
      · simpa using c
      · exact h1 v hv
theorem sort_fold_srt:∀ (l a:List Tm),SrtL a→SrtL (l.foldl (fun a t => insG t a) a)
  | [],_,h => h
  | t :: l,a,h => sort_fold_srt l (insG t a) (insG_srt t a h)
theorem sortG_srt (l:List Tm):SrtL (sortG l):=sort_fold_srt l [] List.Pairwise.nil
theorem insG_last (t:Tm):∀ a:List Tm,(∀ u ∈ a,ltB (txT t) (txT u) = false)→insG t a = a ++ [t]
  | [],_ => rfl
  | u :: a, h => by
    rw [insG,if_neg (by rw [h u (by simp)];decide),insG_last t a (fun v hv => h v (List.mem_cons_of_mem _ hv))]
    rfl
theorem sort_fold_fix:∀ (l a:List Tm),SrtL (a ++ l)→l.foldl (fun a t => insG t a) a = a ++ l
  | [],a,_ => by simp
  | t :: l, a, h => by
    have h2:∀ u ∈ a,ltB (txT t) (txT u) = false:=fun u hu => (List.pairwise_append.1 h).2.2 u hu t (by simp)
    rw [List.foldl_cons,insG_last t a h2,sort_fold_fix l (a ++ [t]) (by simpa using h)]
    simp
theorem sortG_fix {l:List Tm} (h:SrtL l):sortG l = l:=by
  have:=sort_fold_fix l [] (by simpa using h)
  simpa [sortG] using this
def mu (t:Tm):Nat:=2 * sizT t + (if (t.1.kind = 3 ∨ t.1.kind = 4)∧(toL t.2).map txT ≠ (sortG (toL t.2)).map txT then 1 else 0)
theorem mu_le (t:Tm):2 * sizT t≤mu t∧mu t≤2 * sizT t + 1:=by
  unfold mu
  split <;> omega
theorem oneT_siz {t u:Tm} (h:oneT t = some u):sizT u≤sizT t∧mu u < mu t:=by
  have h1:=mu_le t;have h2:=mu_le u
  rcases oneT_cases h with h | ⟨_,hl,rfl⟩ | ⟨_,hl,rfl⟩ | ⟨hk,hl,rfl⟩
  · have:t.2.size = sizT u:=by rw [← sizL_to,h];simp [sizL]
    simp only [sizT] at *;omega
  · have hs:sizL (flatG t.1.kind (toL t.2).length (toL t.2)) < sizL (toL t.2):=by
      rcases flatG_siz t.1.kind (toL t.2) (toL t.2).length with e | e
      · rw [e] at hl;exact absurd rfl hl
      · exact e
    rw [sizL_to] at hs
    simp only [sizT,sizL_of] at *;omega
  · have hs:=onceG_siz (toL t.2) []
    rw [sizL_to] at hs
    simp only [sizT,sizL_of] at *;omega
  · have hs:=(sortG_siz (toL t.2)).1
    rw [sizL_to] at hs
    have e1:sizT (t.1,ofL (sortG (toL t.2))) = sizT t:=by simp only [sizT,sizL_of,hs]
    refine ⟨by omega, ?_⟩
    unfold mu
    rw [e1,if_neg,if_pos ⟨hk,hl⟩]
    · omega
    · rintro ⟨_,c⟩
      simp only [to_of,sortG_fix (sortG_srt _)] at c
      exact c rfl
theorem loopT_end:∀ (m:Nat) (t:Tm),mu t≤m→oneT (loopT m t) = none
  | 0,t,h => by have:=mu_le t;simp only [sizT] at this;omega
  | m + 1, t, h => by
    rw [loopT]
    cases h1:oneT t with
    | none => exact h1
    | some u => exact loopT_end m u (by have:=(oneT_siz h1).2;omega)
theorem loopT_keep {I:Tm→Prop} (hI:∀ t u,I t→oneT t = some u→I u):∀ (m:Nat) (t:Tm),I t→I (loopT m t)
  | 0,_,h => h
  | m + 1, t, h => by
    rw [loopT]
    cases h1:oneT t with
    | none => exact h
    | some u => exact loopT_keep hI m u (hI t u h h1)
theorem plain_siz:∀ F:Fst,(plainF F).size≤F.size∧(plainF F).len = F.len
  | .nil => ⟨Nat.le_refl _,rfl⟩
  | .cons x K N => by
    have h1:=plain_siz K;have h2:=plain_siz N
    have h3:=loopT_keep (I:=fun t => sizT t≤K.size + 1) (fun t u h e => Nat.le_trans (oneT_siz e).1 h) (2 * K.size + 4) (x,plainF K) (by simp only [sizT];omega)
    simp only [sizT] at h3
    simp only [plainF,Fst.size,Fst.len];omega
theorem plain_nrm:∀ F:Fst,Nrm (plainF F)
  | .nil => trivial
  | .cons x K N => by
    rw [plainF]
    refine ⟨loopT_end _ _ ?_,loopT_keep (I:=fun t => Nrm t.2) (fun t u h e => oneT_nrm e h) _ _ (plain_nrm K),plain_nrm N⟩
    have h1:=(mu_le (x,plainF K)).2
    have h2:=(plain_siz K).1
    simp only [sizT] at h1;omega
def prsF:Fst→List Prt
  | .nil => []
  | .cons x K N => x :: (prsF K ++ prsF N)
theorem prsF_len:∀ F:Fst,(prsF F).length = F.size
  | .nil => rfl
  | .cons x K N => by simp only [prsF,Fst.size,List.length_cons,List.length_append,prsF_len K,prsF_len N]
def cT (p:Prt) (t:Tm):Nat:=(prsF (.cons t.1 t.2 .nil)).count p
def cL (p:Prt):List Tm→Nat
  | [] => 0
  | t :: l => cT p t + cL p l
theorem cL_to (p:Prt):∀ F:Fst,cL p (toL F) = (prsF F).count p
  | .nil => rfl
  | .cons x K N => by
    simp only [toL,cL,cT,prsF,List.append_nil,cL_to p N,List.count_cons,List.count_append];omega
theorem cL_of (p:Prt) (l:List Tm):(prsF (ofL l)).count p = cL p l:=by rw [← cL_to,to_of]
theorem cL_app (p:Prt):∀ a b:List Tm,cL p (a ++ b) = cL p a + cL p b
  | [],b => by simp [cL]
  | t :: a,b => by simp only [List.cons_append,cL,cL_app p a b];omega
theorem cT_eq (p:Prt) (t:Tm):cT p t = (if t.1 = p then 1 else 0) + (prsF t.2).count p:=by
  simp only [cT,prsF,List.append_nil,List.count_cons]
  by_cases c:t.1 = p
  · simp [c];omega
  · simp [c]
theorem cL_flat (p:Prt) (kind:Nat):∀ (l:List Tm) (n:Nat),cL p (flatG kind n l)≤cL p l
  | [],_ => Nat.le_refl _
  | t :: l, n => by
    rw [flatG]
    split
    · have:=cL_flat p kind l (n + t.2.len - 1)
      have h2:=cT_eq p t
      rw [cL_app,cL_to]
      simp only [cL];omega
    · have:=cL_flat p kind l n
      simp only [cL];omega
theorem cL_once (p:Prt):∀ (l:List Tm) (s:List (List UInt8)),cL p (onceG s l)≤cL p l
  | [],_ => Nat.le_refl _
  | t :: l, s => by
    rw [onceG]
    split
    · have:=cL_once p l s;simp only [cL];omega
    · have:=cL_once p l (txT t :: s);simp only [cL];omega
theorem cL_ins (p:Prt) (t:Tm):∀ l:List Tm,cL p (insG t l) = cT p t + cL p l
  | [] => rfl
  | u :: l => by
    rw [insG]
    split
    · rfl
    · have:=cL_ins p t l;simp only [cL];omega
theorem cL_fold (p:Prt):∀ (l a:List Tm),cL p (l.foldl (fun a t => insG t a) a) = cL p l + cL p a
  | [],a => by simp [cL]
  | t :: l, a => by
    have:=cL_fold p l (insG t a);have h2:=cL_ins p t a
    simp only [List.foldl_cons,cL];omega
theorem oneT_cnt {t u:Tm} (p:Prt) (h:oneT t = some u):cT p u≤cT p t:=by
  have e:=cT_eq p t
  have key:∀ l:List Tm,cL p l≤cL p (toL t.2)→cT p (t.1,ofL l)≤cT p t:=fun l hl => by
    have e2:=cT_eq p (t.1,ofL l)
    rw [cL_to] at hl
    simp only [cL_of] at e2
    omega
  rcases oneT_cases h with h | ⟨_,_,rfl⟩ | ⟨_,_,rfl⟩ | ⟨_,_,rfl⟩
  · have h2:=cL_to p t.2
    rw [h] at h2
    simp only [cL] at h2
    omega
  · exact key _ (cL_flat p _ _ _)
  · exact key _ (cL_once p _ _)
  · refine key _ ?_
    have:=cL_fold p (toL t.2) []
    simp only [cL] at this
    unfold sortG
    omega
theorem plain_cnt (p:Prt):∀ F:Fst,(prsF (plainF F)).count p≤(prsF F).count p
  | .nil => Nat.le_refl _
  | .cons x K N => by
    have h1:=plain_cnt p K;have h2:=plain_cnt p N
    have h3:=loopT_keep (I:=fun t => cT p t≤cT p (x,plainF K)) (fun t u h e => Nat.le_trans (oneT_cnt p e) h) (2 * K.size + 4) (x,plainF K) (Nat.le_refl _)
    have e1:=cT_eq p (x,plainF K)
    have e2:=cT_eq p (loopT (2 * K.size + 4) (x,plainF K))
    have e3:(prsF (plainF (.cons x K N))).count p = cT p (loopT (2 * K.size + 4) (x,plainF K)) + (prsF (plainF N)).count p:=by
      rw [plainF,e2]
      simp only [prsF,List.count_cons,List.count_append,beq_iff_eq]
      omega
    rw [e3]
    simp only [prsF,List.count_cons,List.count_append,beq_iff_eq]
    simp only at e1 h3
    omega
end
section
def Fst.fit:Fst→Nat→Nat→Prop
  | .nil,_,_ => True
  | .cons x K N,deep,ink => badP { x with kids:=K.len } = false∧(ink = 2→x.kind = 0)∧deep≤8∧K.fit (deep + 1) x.kind∧N.fit deep ink
theorem rd_fit:∀ (F:Fst) (m:Nat) (l:List Prt) (o deep ink:Nat),F.size≤m→(∀ i,i < F.size→l[o + i]? = F.flat[i]?)→o + F.size≤64→F.fit deep ink→rdS m l o deep ink F.len = .ok (o + F.size)
  | .nil,m,l,o,deep,ink,_,_,_,_ => by rw [Fst.len,rd_zero];rfl
  | .cons x K N, m, l, o, deep, ink, hm, hl, h64, ⟨h1, h2, h3, h4, h5⟩ => by
    simp only [Fst.size] at hm hl h64
    obtain ⟨m,rfl⟩:∃ k,m = k + 1:=⟨m - 1,by omega⟩
    have h0:l[o]? = some { x with kids:=(K.len:Int) }:=by
      have:=hl 0 (by omega)
      rw [Nat.add_zero] at this
      rw [this];rfl
    have hlt:=(List.getElem?_eq_some_iff.1 h0).1
    have hd:l.getD o ⟨0,0,0,0,0⟩ = { x with kids:=(K.len:Int) }:=by rw [List.getD_eq_getElem?_getD,h0];rfl
    have hst:stopS l o deep ink = none:=by
      rw [stop_deep hlt (by
        rw [hd]
        rintro (c | c | ⟨c,c2⟩)
        · omega
        · rw [h1] at c;cases c
        · exact c2 (h2 c))]
      exact if_neg (by omega)
    have hK:=rd_fit K m l (o + 1) (deep + 1) x.kind (by omega) (fun i hi => by
      have:=hl (1 + i) (by omega)
      rw [show o + 1 + i = o + (1 + i) by omega,this,Fst.flat,Nat.add_comm 1 i,List.getElem?_cons_succ,List.getElem?_append_left (by rw [flat_len];exact hi)]) (by omega) h4
    have hN:=rd_fit N m l (o + 1 + K.size) deep ink (by omega) (fun i hi => by
      have:=hl (1 + K.size + i) (by omega)
      rw [show o + 1 + K.size + i = o + (1 + K.size + i) by omega,this,Fst.flat,show 1 + K.size + i = (K.size + i) + 1 by omega,List.getElem?_cons_succ,List.getElem?_append_right (by rw [flat_len];omega),flat_len,Nat.add_sub_cancel_left]) (by omega) h5
    rw [Fst.len,rd_cons,hst]
    simp only [hd,Int.toNat_natCast,hK,hN,Fst.size]
    congr 1;omega
theorem tree_fit {F:Fst} (h1:F.len = 1) (h2:F.size≤64) (h3:F.fit 1 0):treeS F.flat = (0,0):=by
  have h:=rd_fit F (F.flat.length + 1) F.flat 0 1 0 (by rw [flat_len];omega) (fun i _ => by rw [Nat.zero_add]) (by omega) h3
  unfold treeS
  rw [h1] at h
  rw [h,flat_len]
  simp
theorem badP_kind {x:Prt} (h:badP x = false):x.kind≤4:=by
  unfold badP at h
  split at h
  · omega
  · have:=of_decide_eq_false h;omega
theorem rd_unflat:∀ (m:Nat) (l:List Prt) (p deep ink n e:Nat),rdS m l p deep ink n = .ok e→∃ F:Fst,F.kok∧F.len = n∧F.fit deep ink∧e = p + F.size∧∀ i,i < F.size→l[p + i]? = F.flat[i]?
  | m, l, p, deep, ink, 0, e, h => by
    rw [rd_zero] at h;cases h
    exact ⟨.nil,trivial,rfl,trivial,rfl,fun i hi => by simp [Fst.size] at hi⟩
  | 0,l,p,deep,ink,n + 1,e,h => by cases h
  | m + 1, l, p, deep, ink, n + 1, e, h => by
    rw [rd_cons] at h
    cases hst:stopS l p deep ink with
    | some x => rw [hst] at h;cases h
    | none =>
      rw [hst] at h
      simp only at h
      obtain ⟨s1,s2,s3,s4,s5⟩:=stop_none hst
      cases hk:rdS m l (p + 1) (deep + 1) (l.getD p ⟨0,0,0,0,0⟩).kind (l.getD p ⟨0,0,0,0,0⟩).kids.toNat with
      | error x => rw [hk] at h;cases h
      | ok q =>
        rw [hk] at h
        simp only at h
        obtain ⟨K,k1,k2,k3,k4,k5⟩:=rd_unflat m l _ _ _ _ _ hk
        obtain ⟨N,n1,n2,n3,n4,n5⟩:=rd_unflat m l _ _ _ _ _ h
        have hx:l[p]? = some (l.getD p ⟨0,0,0,0,0⟩):=by
          rw [List.getD_eq_getElem?_getD,List.getElem?_eq_getElem s1];rfl
        generalize l.getD p ⟨0,0,0,0,0⟩ = x at *
        have hk0:=(bad_kids s3).1
        have e1:({ x with kids:=(K.len:Int) }:Prt) = x:=by
          obtain ⟨a,b,c,d,f⟩:=x
          simp only at k2 hk0 ⊢
          rw [k2];congr 1;omega
        refine ⟨.cons { x with kids:=0 } K N,⟨(badP_kind s3:x.kind≤4),rfl,k1,n1⟩,by simp only [Fst.len,n2],⟨?_,s4,s5,k3,n3⟩,by simp only [Fst.size];omega,fun i hi => ?_⟩
        · exact (congrArg badP e1).trans s3
        · simp only [Fst.size] at hi
          have e2:(Fst.cons { x with kids:=0 } K N).flat = x :: (K.flat ++ N.flat):=by
            simp only [Fst.flat]
            exact congrArg (· :: _) e1
          rw [e2]
          match i with
          | 0 => exact hx
          | i + 1 =>
            rw [List.getElem?_cons_succ]
            by_cases c:i < K.size
            · rw [List.getElem?_append_left (by rw [flat_len];exact c),← k5 i c]
              congr 1;omega
            · rw [List.getElem?_append_right (by rw [flat_len];omega),flat_len,← n5 (i - K.size) (by omega)]
              congr 1;omega
theorem fit_tree {l:List Prt} (h:(treeS l).2 = 0):∃ F:Fst,F.kok∧F.len = 1∧l = F.flat∧F.fit 1 0∧F.size≤64:=by
  obtain ⟨F,h1,h2,h3,h4,h5⟩:=rd_unflat _ _ _ _ _ _ _ (tree_fine h)
  have e:l = F.flat:=by
    apply List.ext_getElem?
    intro i
    by_cases c:i < F.size
    · rw [← h5 i c,Nat.zero_add]
    · rw [List.getElem?_eq_none (by omega),List.getElem?_eq_none (by rw [flat_len];omega)]
  refine ⟨F,h1,h2,e,h3, ?_⟩
  by_cases c:F.size≤64
  · exact c
  · have:=(tree_part h (i:=64) (by omega)).2;omega
def FitT (t:Tm) (deep ink:Nat):Prop:=badP { t.1 with kids:=t.2.len } = false∧(ink = 2→t.1.kind = 0)∧deep≤8∧t.2.fit (deep + 1) t.1.kind
theorem fit_all:∀ (F:Fst) (deep ink:Nat),F.fit deep ink ↔ ∀ t ∈ toL F,FitT t deep ink
  | .nil,_,_ => by simp [Fst.fit,toL]
  | .cons x K N, deep, ink => by
    rw [toL,List.forall_mem_cons,← fit_all N]
    simp only [Fst.fit,FitT,and_assoc]
theorem fit_of {l:List Tm} {deep ink:Nat} (h:∀ t ∈ l,FitT t deep ink):(ofL l).fit deep ink:=by rw [fit_all,to_of];exact h
theorem fit_up:∀ (F:Fst) (deep deep' ink:Nat),F.fit deep ink→deep'≤deep→F.fit deep' ink
  | .nil,_,_,_,_,_ => trivial
  | .cons x K N,deep,deep',ink,⟨h1,h2,h3,h4,h5⟩,hd => ⟨h1,h2,by omega,fit_up K _ _ _ h4 (by omega),fit_up N _ _ _ h5 hd⟩
theorem fitT_up {t:Tm} {deep deep' ink ink':Nat} (h:FitT t deep ink) (hd:deep'≤deep) (hi:ink' = 2→t.1.kind = 0):FitT t deep' ink' :=
  ⟨h.1,hi,by have:=h.2.2.1;omega,fit_up _ _ _ _ h.2.2.2 (by omega)⟩
theorem badP_len {x:Prt} {a b:Nat} (h:badP { x with kids:=(a:Int) } = false) (hk:x.kind ≠ 0) (h1:1≤b) (h2:b≤16):badP { x with kids:=(b:Int) } = false:=by
  unfold badP at h ⊢
  simp only at h ⊢
  rw [if_neg hk] at h ⊢
  have:=of_decide_eq_false h
  exact decide_eq_false (by omega)
theorem badP_kids {x:Prt} {a:Nat} (h:badP { x with kids:=(a:Int) } = false):(x.kind = 0→a = 0)∧(x.kind ≠ 0→1≤a∧a≤16):=by
  unfold badP at h
  simp only at h
  constructor
  · intro hk
    rw [if_pos hk] at h
    have:=of_decide_eq_false h
    omega
  · intro hk
    rw [if_neg hk] at h
    have:=of_decide_eq_false h
    omega
theorem flatG_len (kind:Nat):∀ (l:List Tm) (n:Nat),(∀ t ∈ l,t.1.kind = kind→1≤t.2.len)→l.length≤(flatG kind n l).length∧(l.length≤n→n≤16→n - l.length + (flatG kind n l).length≤16)
  | [],n,_ => ⟨Nat.le_refl _,fun _ h => by simp [flatG];omega⟩
  | t :: l, n, h => by
    rw [flatG]
    split
    · rename_i c
      have h1:=h t (by simp) c.1
      have ih:=flatG_len kind l (n + t.2.len - 1) (fun u hu => h u (List.mem_cons_of_mem _ hu))
      simp only [List.length_append,List.length_cons,toL_len]
      refine ⟨by omega,fun a b => ?_⟩
      have:=ih.2 (by omega) (by omega)
      omega
    · have ih:=flatG_len kind l n (fun u hu => h u (List.mem_cons_of_mem _ hu))
      simp only [List.length_cons]
      refine ⟨by omega,fun a b => ?_⟩
      have:=ih.2 (by omega) b
      omega
theorem onceG_pos:∀ (l:List Tm),1≤l.length→1≤(onceG [] l).length
  | [],h => by simp at h
  | t :: l, _ => by
    rw [onceG,if_neg (by simp)]
    simp
theorem oneT_fit {t u:Tm} {deep ink:Nat} (h:oneT t = some u) (hf:FitT t deep ink):FitT u deep ink:=by
  obtain ⟨h1,h2,h3,h4⟩:=hf
  have hk:=badP_kids h1
  have hall:=(fit_all _ _ _).1 h4
  have key:∀ l:List Tm,t.1.kind ≠ 0→1≤l.length→l.length≤16→(∀ v ∈ l,FitT v (deep + 1) t.1.kind)→FitT (t.1,ofL l) deep ink:=fun l k0 a b c =>
    ⟨by simp only [ofL_len];exact badP_len h1 k0 a b,h2,h3,fit_of c⟩
  rcases oneT_cases h with h | ⟨hk2,_,rfl⟩ | ⟨hk2,_,rfl⟩ | ⟨hk2,_,rfl⟩
  · have hu:=hall u (by rw [h];simp)
    have hlen:t.2.len = 1:=by rw [← toL_len,h];rfl
    exact fitT_up hu (by omega) fun c => absurd (hk.1 (h2 c)) (by omega)
  · have k0:t.1.kind ≠ 0:=by omega
    have hn:=hk.2 k0
    rw [← toL_len] at hn
    have hl:=flatG_len t.1.kind (toL t.2) (toL t.2).length (fun v hv e => ((badP_kids (hall v hv).1).2 (by omega)).1)
    refine key _ k0 (by omega) (by have:=hl.2 (Nat.le_refl _) hn.2;omega) fun v hv => ?_
    rcases flatG_mem _ _ _ _ hv with hv | ⟨s,hs,e,hv⟩
    · exact hall v hv
    · have:=(fit_all _ _ _).1 (hall s hs).2.2.2 v hv
      exact fitT_up this (by omega) (by omega)
  · have k0:t.1.kind ≠ 0:=by omega
    have hn:=hk.2 k0
    rw [← toL_len] at hn
    exact key _ k0 (onceG_pos _ hn.1) (by have:=(onceG_siz (toL t.2) []).2;omega) fun v hv => hall v (onceG_mem _ _ _ hv)
  · have k0:t.1.kind ≠ 0:=by omega
    have hn:=hk.2 k0
    rw [← toL_len,← (sortG_siz (toL t.2)).2] at hn
    exact key _ k0 hn.1 hn.2 fun v hv => hall v ((sortG_mem _ _).1 hv)
theorem plain_fit:∀ (F:Fst) (deep ink:Nat),F.fit deep ink→(plainF F).fit deep ink
  | .nil,_,_,_ => trivial
  | .cons x K N, deep, ink, ⟨h1, h2, h3, h4, h5⟩ => by
    have hI:FitT (x,plainF K) deep ink:=⟨by simp only [(plain_siz K).2];exact h1,h2,h3,plain_fit K _ _ h4⟩
    have h:=loopT_keep (I:=fun t => FitT t deep ink) (fun t u h e => oneT_fit e h) (2 * K.size + 4) (x,plainF K) hI
    exact ⟨h.1,h.2.1,h.2.2.1,h.2.2.2,plain_fit N _ _ h5⟩
end
section
theorem loop_eq:∀ (m m':Nat) (t:Tm),mu t≤m→mu t≤m'→loopT m t = loopT m' t
  | 0,_,t,h,_ => by have:=mu_le t;simp only [sizT] at this;omega
  | _,0,t,_,h => by have:=mu_le t;simp only [sizT] at this;omega
  | m + 1, m' + 1, t, h, h' => by
    rw [loopT,loopT]
    cases h1:oneT t with
    | none => rfl
    | some u => exact loop_eq m m' u (by have:=(oneT_siz h1).2;omega) (by have:=(oneT_siz h1).2;omega)
def nfT (t:Tm):Tm:=loopT (mu t) t
theorem nf_none {t:Tm} (h:oneT t = none):nfT t = t:=loopT_fix h _
theorem nf_some {t u:Tm} (h:oneT t = some u):nfT t = nfT u:=by
  have hm:=(oneT_siz h).2
  unfold nfT
  obtain ⟨m,hm2⟩:∃ m,mu t = m + 1:=⟨mu t - 1,by omega⟩
  rw [hm2,loopT,h]
  exact loop_eq _ _ u (by omega) (Nat.le_refl _)
theorem plain_cons (x:Prt) (K N:Fst):plainF (.cons x K N) = .cons (nfT (x,plainF K)).1 (nfT (x,plainF K)).2 (plainF N):=by
  rw [plainF]
  have:loopT (2 * K.size + 4) (x,plainF K) = nfT (x,plainF K):=by
    refine loop_eq _ _ _ ?_ (Nat.le_refl _)
    have h1:=(mu_le (x,plainF K)).2
    have h2:=(plain_siz K).1
    simp only [sizT] at h1;omega
  rw [this]
theorem flatG_id {k:Nat}:∀ (l:List Tm) (n:Nat),(∀ v ∈ l,v.1.kind ≠ k)→flatG k n l = l
  | [],_,_ => rfl
  | t :: l, n, h => by
    rw [flatG,if_neg (fun c => h t (by simp) c.1),flatG_id l n fun v hv => h v (List.mem_cons_of_mem _ hv)]
theorem onceG_sub:∀ (l:List Tm) (s:List (List UInt8)),(onceG s l).Sublist l
  | [],_ => List.Sublist.refl _
  | t :: l, s => by
    rw [onceG]
    split
    · exact (onceG_sub l s).cons _
    · exact (onceG_sub l _).cons_cons _
theorem insG_perm (t:Tm):∀ l:List Tm,(insG t l).Perm (t :: l)
  | [] => List.Perm.refl _
  | u :: l => by
    rw [insG]
    split
    · exact List.Perm.refl _
    · exact ((insG_perm t l).cons u).trans (List.Perm.swap t u l)
theorem sort_fold_perm:∀ (l a:List Tm),(l.foldl (fun a t => insG t a) a).Perm (l ++ a)
  | [],a => List.Perm.refl _
  | t :: l, a => by
    rw [List.foldl_cons]
    refine (sort_fold_perm l (insG t a)).trans (((insG_perm t a).append_left l).trans ?_)
    exact List.perm_middle
theorem sortG_perm (l:List Tm):(sortG l).Perm l:=by
  have:=sort_fold_perm l []
  rwa [List.append_nil] at this
theorem one_len {t:Tm} (h:oneT t = none):t.2.len ≠ 1:=fun c => by
  unfold oneT at h
  simp only at h
  rw [← toL_len] at c
  rw [if_pos c] at h
  obtain ⟨v,hv⟩:=List.length_eq_one_iff.1 c
  rw [hv] at h;cases h
theorem text_inj {F G:Fst} (hf:F.wf) (hg:G.wf) (f1:F.len = 1) (g1:G.len = 1) (f8:F.depth≤8) (g8:G.depth≤8) (f64:F.size≤64) (g64:G.size≤64) (h:textF F = textF G):F = G:=by
  have h0:okN 0:=⟨by omega,by omega⟩
  have hp:printF 0 0 F = printF 0 0 G:=by unfold printF;rw [h]
  rw [print_text h0 h0 hf,print_text h0 h0 hg] at hp
  have hl:=textD_lex h0 h0 hf
  rw [hp,textD_lex h0 h0 hg] at hl
  have hm:∀ H:Fst,(placeG 0 (tokD 0 0 H)).map noPos = tokD 0 0 H:=fun H => by
    rw [place_same]
    unfold tokD
    simp only [List.map_cons,toks_pos]
    rfl
  have d1:=defP_toks (hm F) h0 h0 hf f1
  have d2:=defP_toks (hm G) h0 h0 hg g1
  rw [badI_none F 8 0 f8 (fun _ => by omega)] at d1
  rw [badI_none G 8 0 g8 (fun _ => by omega)] at d2
  have he:placeG 0 (tokD 0 0 G) = placeG 0 (tokD 0 0 F):=by
    injection hl
  rw [he,d1] at d2
  simp only [Except.ok.injEq,Prod.mk.injEq,true_and] at d2
  exact d2
theorem fit_wf:∀ (F:Fst) (deep ink:Nat),F.kok→F.fit deep ink→F.wf
  | .nil,_,_,_,_ => trivial
  | .cons x K N, deep, ink, ⟨h1, h2, h3, h4⟩, ⟨f1, _, _, f4, f5⟩ => by
    refine ⟨?_,h2,fit_wf K _ _ h3 f4,fit_wf N _ _ h4 f5⟩
    have hz:((K.len:Nat):Int) = 0 ↔ K = .nil:=by rw [← len_nil];omega
    unfold badP at f1
    simp only at f1
    by_cases c:x.kind = 0
    · rw [if_pos c] at f1
      have:=of_decide_eq_false f1
      exact .inl ⟨c,by omega,by omega,by omega,by omega,hz.1 (by omega)⟩
    · rw [if_neg c] at f1
      have:=of_decide_eq_false f1
      exact .inr ⟨by omega,h1,by omega,by omega,by omega,fun e => by have:=hz.2 e;omega⟩
end
section
def lab:Fst→Nat→Fst
  | .nil,_ => .nil
  | .cons x K N,o => .cons { x with kids:=(o:Int) } (lab K (o + 1)) (lab N (o + 1 + K.size))
def bareP (x:Prt):Prt:={ x with kids:=0 }
def bare:Fst→Fst
  | .nil => .nil
  | .cons x K N => .cons (bareP x) (bare K) (bare N)
def bareT (t:Tm):Tm:=(bareP t.1,bare t.2)
theorem bare_len:∀ F:Fst,(bare F).len = F.len∧(bare F).size = F.size
  | .nil => ⟨rfl,rfl⟩
  | .cons x K N => by simp only [bare,Fst.len,Fst.size,bare_len K,bare_len N,and_self]
theorem bare_flat:∀ F:Fst,(bare F).flat = F.flat
  | .nil => rfl
  | .cons x K N => by simp only [bare,Fst.flat,bare_flat K,bare_flat N,bareP,bare_len K]
theorem bare_kok:∀ (F:Fst) (deep ink:Nat),F.fit deep ink→(bare F).kok
  | .nil,_,_,_ => trivial
  | .cons x K N,_deep,_ink,⟨h1,_,_,h4,h5⟩ => ⟨badP_kind (x:={ x with kids:=(K.len:Int) }) h1,rfl,bare_kok K _ _ h4,bare_kok N _ _ h5⟩
theorem bare_text:∀ F:Fst,textF (bare F) = textF F
  | .nil => rfl
  | .cons x K N => by simp only [bare,textF,bareP,bare_text K,bare_text N]
theorem lab_len:∀ (F:Fst) (o:Nat),(lab F o).len = F.len∧(lab F o).size = F.size
  | .nil,_ => ⟨rfl,rfl⟩
  | .cons x K N,o => by simp only [lab,Fst.len,Fst.size,lab_len K,lab_len N,and_self]
theorem lab_flat:∀ (F:Fst) (o:Nat),(lab F o).flat = F.flat
  | .nil,_ => rfl
  | .cons x K N,o => by simp only [lab,Fst.flat,lab_flat K,lab_flat N,(lab_len K _).1]
theorem lab_fit:∀ (F:Fst) (o deep ink:Nat),F.fit deep ink→(lab F o).fit deep ink
  | .nil,_,_,_,_ => trivial
  | .cons x K N,o,deep,ink,⟨h1,h2,h3,h4,h5⟩ => ⟨by simp only [(lab_len K _).1];exact h1,h2,h3,lab_fit K _ _ _ h4,lab_fit N _ _ _ h5⟩
theorem prsF_get:∀ (F:Fst) (i:Nat),i < F.size→∃ x ∈ (prsF F)[i]?,∃ y ∈ F.flat[i]?,y.kind = x.kind∧y.n = x.n∧y.g = x.g∧y.d = x.d
  | .nil,i,h => by simp [Fst.size] at h
  | .cons x K N,0,_ => ⟨x,rfl,{ x with kids:=(K.len:Int) },rfl,rfl,rfl,rfl,rfl⟩
  | .cons x K N, i + 1, h => by
    simp only [Fst.size] at h
    simp only [prsF,Fst.flat,List.getElem?_cons_succ]
    by_cases c:i < K.size
    · rw [List.getElem?_append_left (by rw [prsF_len];exact c),List.getElem?_append_left (by rw [flat_len];exact c)]
      exact prsF_get K i c
    · rw [List.getElem?_append_right (by rw [prsF_len];omega),List.getElem?_append_right (by rw [flat_len];omega),flat_len,prsF_len]
      exact prsF_get N _ (by omega)
theorem lab_prs:∀ (F:Fst) (o i:Nat),i < F.size→∃ x ∈ (prsF (lab F o))[i]?,x.kids = ((o + i:Nat):Int)
  | .nil,_,i,h => by simp [Fst.size] at h
  | .cons x K N,o,0,_ => ⟨{ x with kids:=(o:Int) },rfl,rfl⟩
  | .cons x K N, o, i + 1, h => by
    simp only [Fst.size] at h
    simp only [lab,prsF,List.getElem?_cons_succ]
    have e:=(lab_len K (o + 1)).2
    by_cases c:i < K.size
    · rw [List.getElem?_append_left (by rw [prsF_len,e];exact c)]
      obtain ⟨y,h1,h2⟩:=lab_prs K (o + 1) i c
      exact ⟨y,h1,by rw [h2];congr 1;omega⟩
    · rw [List.getElem?_append_right (by rw [prsF_len,e];omega),prsF_len,e]
      obtain ⟨y,h1,h2⟩:=lab_prs N (o + 1 + K.size) (i - K.size) (by omega)
      exact ⟨y,h1,by rw [h2];congr 1;omega⟩
def fromF (F:Fst):List Nat:=(prsF F).map fun x => x.kids.toNat
theorem fromF_len (F:Fst):(fromF F).length = F.size:=by simp only [fromF,List.length_map,prsF_len]
theorem from_plain (F:Fst) (i:Nat) (h:i < (plainF (lab F 0)).size):(fromF (plainF (lab F 0))).getD i 0 < F.size ∧
    ∃ y ∈ (plainF (lab F 0)).flat[i]?,∃ z ∈ F.flat[(fromF (plainF (lab F 0))).getD i 0]?,y.kind = z.kind∧y.n = z.n∧y.g = z.g∧y.d = z.d:=by
  obtain ⟨x,hx,y,hy,e1,e2,e3,e4⟩:=prsF_get _ i h
  have hm:x ∈ prsF (lab F 0):=by
    have h1:=plain_cnt x (lab F 0)
    have h2:0 < (prsF (plainF (lab F 0))).count x:=List.count_pos_iff.2 (List.mem_of_getElem? hx)
    exact List.count_pos_iff.1 (by omega)
  obtain ⟨j,hj⟩:=List.getElem?_of_mem hm
  have hjl:j < F.size:=by
    have:=(List.getElem?_eq_some_iff.1 hj).1
    rw [prsF_len,(lab_len F 0).2] at this;exact this
  obtain ⟨x',h1,h2⟩:=lab_prs F 0 j hjl
  rw [hj] at h1;cases h1
  have e:(fromF (plainF (lab F 0))).getD i 0 = j:=by
    unfold fromF
    rw [List.getD_eq_getElem?_getD,List.getElem?_map,hx,Option.map_some,h2]
    simp only [Option.getD_some,Int.toNat_natCast,Nat.zero_add]
  rw [e]
  obtain ⟨x',h3,z,hz,f1,f2,f3,f4⟩:=prsF_get (lab F 0) j (by rw [(lab_len F 0).2];exact hjl)
  rw [hj] at h3;cases h3
  rw [lab_flat] at hz
  exact ⟨hjl,y,hy,z,hz,by rw [e1,f1],by rw [e2,f2],by rw [e3,f3],by rw [e4,f4]⟩
theorem count_two {α} [DecidableEq α] {l:List α} {i j:Nat} {x:α} (hij:j < i) (hi:l[i]? = some x) (hj:l[j]? = some x):2≤l.count x:=by
  rw [← List.take_append_drop (j + 1) l,List.count_append]
  have h1:x ∈ l.take (j + 1):=List.mem_of_getElem? (i:=j) (by rw [List.getElem?_take,if_pos (by omega)];exact hj)
  have h2:x ∈ l.drop (j + 1):=List.mem_of_getElem? (i:=i - (j + 1)) (by rw [List.getElem?_drop,show j + 1 + (i - (j + 1)) = i by omega];exact hi)
  have:=List.count_pos_iff.2 h1
  have:=List.count_pos_iff.2 h2
  omega
theorem from_once (F:Fst) {i j:Nat} (hij:j < i) (hi:i < (plainF (lab F 0)).size):(fromF (plainF (lab F 0))).getD i 0 ≠ (fromF (plainF (lab F 0))).getD j 0:=by
  intro he
  obtain ⟨x,hx,_⟩:=prsF_get _ i hi
  obtain ⟨y,hy,_⟩:=prsF_get _ j (by omega:j < (plainF (lab F 0)).size)
  have mem:∀ x ∈ prsF (plainF (lab F 0)),x ∈ prsF (lab F 0):=fun x hx => by
    have h1:=plain_cnt x (lab F 0)
    have h2:=List.count_pos_iff.2 hx
    exact List.count_pos_iff.1 (by omega)
  obtain ⟨a,ha⟩:=List.getElem?_of_mem (mem x (List.mem_of_getElem? hx))
  obtain ⟨b,hb⟩:=List.getElem?_of_mem (mem y (List.mem_of_getElem? hy))
  have lt:∀ {a:Nat} {x:Prt},(prsF (lab F 0))[a]? = some x→a < F.size∧x.kids = (a:Int):=fun {a x} h => by
    have hl:=(List.getElem?_eq_some_iff.1 h).1
    rw [prsF_len,(lab_len F 0).2] at hl
    obtain ⟨x',h1,h2⟩:=lab_prs F 0 a hl
    rw [h] at h1;cases h1
    rw [Nat.zero_add] at h2
    exact ⟨hl,h2⟩
  have hab:a = b:=by
    unfold fromF at he
    rw [List.getD_eq_getElem?_getD,List.getD_eq_getElem?_getD,List.getElem?_map,List.getElem?_map,hx,hy] at he
    simp only [Option.map_some,Option.getD_some,(lt ha).2,(lt hb).2,Int.toNat_natCast] at he
    exact he
  subst hab
  have hxy:x = y:=by rw [ha] at hb;exact Option.some.inj hb
  subst hxy
  have h2:=count_two hij hx hy
  have h3:=plain_cnt x (lab F 0)
  have h4:(prsF (lab F 0)).count x≤1:=by
    refine Nat.le_of_not_lt fun c => ?_
    obtain ⟨A,B,hAB⟩:=List.append_of_mem (List.mem_of_getElem? ha)
    rw [hAB,List.count_append,List.count_cons_self] at c
    have:x ∈ A ∨ x ∈ B:=by
      by_cases cA:0 < A.count x
      · exact .inl (List.count_pos_iff.1 cA)
      · exact .inr (List.count_pos_iff.1 (by omega))
    have ex:∃ i j:Nat,i ≠ j∧(prsF (lab F 0))[i]? = some x∧(prsF (lab F 0))[j]? = some x:=by
      have hA:(prsF (lab F 0))[A.length]? = some x:=by rw [hAB,List.getElem?_append_right (Nat.le_refl _),Nat.sub_self];rfl
      rcases this with hm | hm
      · obtain ⟨k,hk⟩:=List.getElem?_of_mem hm
        have hkl:=(List.getElem?_eq_some_iff.1 hk).1
        exact ⟨k,A.length,by omega,by rw [hAB,List.getElem?_append_left hkl];exact hk,hA⟩
      · obtain ⟨k,hk⟩:=List.getElem?_of_mem hm
        exact ⟨A.length + (k + 1),A.length,by omega,by rw [hAB,List.getElem?_append_right (by omega),Nat.add_sub_cancel_left,List.getElem?_cons_succ];exact hk,hA⟩
    obtain ⟨i',j',hne,q1,q2⟩:=ex
    have r1:=(lt q1).2;have r2:=(lt q2).2
    omega
  omega
end
section
def PnW (x:Prt):Prop:=x.n≤4294967295∧x.g≤4294967295∧0≤x.d∧x.d≤9223372036854775807
def Fst.num:Fst→Prop
  | .nil => True
  | .cons x K N => PnW x∧K.num∧N.num
def GdP (x:Prt):Prop:=x.kind≤4∧PnW x
def gdF (F:Fst):Prop:=∀ x ∈ prsF F,GdP x
def gdT (t:Tm):Prop:=GdP t.1∧gdF t.2
theorem gdF_cons {x:Prt} {K N:Fst}:gdF (.cons x K N) ↔ GdP x∧gdF K∧gdF N:=by
  unfold gdF
  simp only [prsF,List.mem_cons,List.mem_append]
  exact ⟨fun h => ⟨h x (.inl rfl),fun y hy => h y (.inr (.inl hy)),fun y hy => h y (.inr (.inr hy))⟩,fun ⟨h1,h2,h3⟩ y hy => by
    rcases hy with rfl | hy | hy
    · exact h1
    · exact h2 y hy
    · exact h3 y hy⟩
theorem gd_kok:∀ F:Fst,gdF F→(bare F).kok∧(bare F).num
  | .nil,_ => ⟨trivial,trivial⟩
  | .cons x K N, h => by
    obtain ⟨h1,h2,h3⟩:=gdF_cons.1 h
    obtain ⟨a1,a2⟩:=gd_kok K h2
    obtain ⟨b1,b2⟩:=gd_kok N h3
    exact ⟨⟨h1.1,rfl,a1,b1⟩,⟨h1.2,a2,b2⟩⟩
def flT (t:Tm):List Prt:=(Fst.cons t.1 t.2 .nil).flat
theorem flT_len (t:Tm):(flT t).length = sizT t:=by simp [flT,flat_len,Fst.size,sizT]
def tm0:Tm:=(⟨0,0,0,0,0⟩,.nil)
theorem badP_num {x:Prt} (h:badP x = false):x.kind≤4∧x.n≤4096∧x.g≤4096∧0≤x.d∧x.d≤4096∧0≤x.kids∧x.kids≤16:=by
  unfold badP at h
  split at h
  · have:=of_decide_eq_false h;omega
  · have:=of_decide_eq_false h;omega
theorem fit_gdP {x:Prt} {n:Nat} (h:badP { x with kids:=(n:Int) } = false):GdP x:=by
  have:=badP_num h
  simp only at this
  exact ⟨this.1,by omega,by omega,this.2.2.2.1,by omega⟩
theorem fit_gd:∀ (F:Fst) (deep ink:Nat),F.fit deep ink→gdF F
  | .nil,_,_,_ => fun x h => by first | (simp [prsF] at h;done) | cases h
  | .cons x K N,deep,ink,⟨h1,_,_,h4,h5⟩ => gdF_cons.2 ⟨fit_gdP h1,fit_gd K _ _ h4,fit_gd N _ _ h5⟩
theorem fitT_gd {t:Tm} {deep ink:Nat} (h:FitT t deep ink):gdT t:=⟨fit_gdP h.1,fit_gd _ _ _ h.2.2.2⟩
theorem fitT_len {t:Tm} {deep ink:Nat} (h:FitT t deep ink):t.2.len≤16:=by
  have:=badP_num h.1
  simp only at this;omega
theorem fit_flat:∀ (F:Fst) (deep ink:Nat),F.fit deep ink→∀ x ∈ F.flat,x.kind≤4∧x.n≤4096∧x.g≤4096∧0≤x.d∧x.d≤4096∧0≤x.kids∧x.kids≤16
  | .nil,_,_,_ => fun x h => by first | (simp [prsF] at h;done) | cases h
  | .cons y K N, deep, ink, ⟨h1, _, _, h4, h5⟩ => fun x hx => by
    simp only [Fst.flat,List.mem_cons,List.mem_append] at hx
    rcases hx with rfl | hx | hx
    · exact badP_num h1
    · exact fit_flat K _ _ h4 x hx
    · exact fit_flat N _ _ h5 x hx
theorem fitT_flat {t:Tm} {deep ink:Nat} (h:FitT t deep ink):∀ x ∈ flT t,PrtW x:=fun x hx => by
  have:=fit_flat (.cons t.1 t.2 .nil) deep ink ⟨h.1,h.2.1,h.2.2.1,h.2.2.2,trivial⟩ x hx
  unfold PrtW;omega
theorem fitT_kok {t:Tm} {deep ink:Nat} (h:FitT t deep ink):(bare (.cons t.1 t.2 .nil)).kok :=
  (gd_kok _ (gdF_cons.2 ⟨(fitT_gd h).1,(fitT_gd h).2,fun x hx => by simp [prsF] at hx⟩)).1
theorem fitT_kid {t u:Tm} {deep ink:Nat} (h:FitT t deep ink) (hu:u ∈ toL t.2):FitT u (deep + 1) t.1.kind:=(fit_all _ _ _).1 h.2.2.2 u hu
theorem siz_mem {u:Tm}:∀ {l:List Tm},u ∈ l→sizT u≤sizL l
  | t :: l, h => by
    simp only [sizL]
    rcases List.mem_cons.1 h with rfl | h
    · omega
    · have:=siz_mem h;omega
theorem siz_kid {t u:Tm} (h:u ∈ toL t.2):sizT u < sizT t:=by
  have:=siz_mem h
  rw [sizL_to] at this
  simp only [sizT] at this ⊢;omega
def oneR (t:Tm):Option Tm:=if (toL t.2).length = 1 then (toL t.2).head? else none
def flatC (kind:Nat):Nat→List Tm→Bool
  | _,[] => false
  | n,t :: l => if t.1.kind = kind∧n + t.2.len≤17 then true else flatC kind n l
def flatR (t:Tm):Option Tm:=if flatC t.1.kind (toL t.2).length (toL t.2) then some (t.1,ofL (flatG t.1.kind (toL t.2).length (toL t.2))) else none
def onceR (t:Tm):Option Tm:=if t.1.kind = 3∧(onceG [] (toL t.2)).length < (toL t.2).length then some (t.1,ofL (onceG [] (toL t.2))) else none
def srtB (l:List Tm):Bool:=decide (l.map txT = (sortG l).map txT)
def sortR (t:Tm):Option Tm:=if (t.1.kind = 3 ∨ t.1.kind = 4)∧srtB (toL t.2) = false then some (t.1,ofL (sortG (toL t.2))) else none
theorem flatC_id (kind:Nat):∀ (l:List Tm) (n:Nat),flatC kind n l = false→flatG kind n l = l
  | [],_,_ => rfl
  | t :: l, n, h => by
    rw [flatC] at h
    rw [flatG]
    split at h
    · cases h
    · rename_i c
      rw [if_neg c,flatC_id kind l n h]
theorem flatG_more (kind:Nat):∀ (l:List Tm) (n:Nat),(∀ t ∈ l,t.1.kind = kind→2≤t.2.len)→l.length≤(flatG kind n l).length
  | [],_,_ => Nat.le_refl _
  | t :: l, n, h => by
    rw [flatG]
    have ih:=fun n => flatG_more kind l n (fun u hu => h u (List.mem_cons_of_mem _ hu))
    split
    · rename_i c
      have:=h t (by simp) c.1
      have:=ih (n + t.2.len - 1)
      rw [List.length_append,toL_len,List.length_cons];omega
    · have:=ih n
      simp only [List.length_cons];omega
theorem flatC_len (kind:Nat):∀ (l:List Tm) (n:Nat),(∀ t ∈ l,t.1.kind = kind→2≤t.2.len)→flatC kind n l = true→l.length < (flatG kind n l).length
  | [],_,_,h => by cases h
  | t :: l, n, h, hc => by
    rw [flatC] at hc
    rw [flatG]
    split at hc
    · rename_i c
      rw [if_pos c]
      have:=h t (by simp) c.1
      have:=flatG_more kind l (n + t.2.len - 1) (fun u hu => h u (List.mem_cons_of_mem _ hu))
      rw [List.length_append,toL_len,List.length_cons];omega
    · rename_i c
      rw [if_neg c]
      have:=flatC_len kind l n (fun u hu => h u (List.mem_cons_of_mem _ hu)) hc
      simp only [List.length_cons];omega
theorem oneT_rules {t:Tm} {deep ink:Nat} (hf:FitT t deep ink) (hn:Nrm t.2) :
    oneT t = match oneR t with | some u => some u | none => match flatR t with | some u => some u | none => match onceR t with | some u => some u | none => sortR t:=by
  have hkid:=fun u hu => fitT_kid (u:=u) hf hu
  have hnk:=(nrm_all _).1 hn
  unfold oneT oneR
  simp only
  by_cases c1:(toL t.2).length = 1
  · rw [if_pos c1,if_pos c1]
    match h:toL t.2,c1 with
    | [u],_ => rfl
  · rw [if_neg c1,if_neg c1]
    simp only
    unfold flatR
    have h2:∀ u ∈ toL t.2,u.1.kind = t.1.kind→2≤u.2.len:=fun u hu e => by
      have hb:=badP_kids (hkid u hu).1
      have hk0:t.1.kind ≠ 0:=fun c => by
        have:=(badP_kids hf.1).1 c
        rw [← toL_len] at this
        have:toL t.2 = []:=List.eq_nil_of_length_eq_zero this
        rw [this] at hu;cases hu
      have:=hb.2 (by omega)
      have h3:=(hnk u hu).1
      have h4:=one_len h3
      omega
    by_cases c2:flatC t.1.kind (toL t.2).length (toL t.2) = true
    · rw [if_pos c2]
      have hl:=flatC_len _ _ _ h2 c2
      have hk:t.1.kind = 1 ∨ t.1.kind = 3 ∨ t.1.kind = 4:=by
        have hk4:=badP_kind hf.1
        simp only at hk4
        have:∃ u ∈ toL t.2,u.1.kind = t.1.kind:=by
          by_cases c:∃ u ∈ toL t.2,u.1.kind = t.1.kind
          · exact c
          · exfalso
            rw [flatG_id _ _ (fun v hv e => c ⟨v,hv,e⟩)] at hl;omega
        obtain ⟨u,hu,e⟩:=this
        have hu2:=h2 u hu e
        have hub:=(badP_kids (hkid u hu).1).1
        have hi:=(hkid u hu).2.1
        have:t.1.kind ≠ 0:=fun c => by have:=hub (by omega);omega
        have:t.1.kind ≠ 2:=fun c => by have:=hi c;omega
        omega
      rw [if_pos ⟨hk,by omega⟩]
    · have e:=flatC_id _ _ _ (by simpa using c2)
      rw [if_neg c2,if_neg (by rw [e];omega)]
      simp only
      unfold onceR
      have hle:=(onceG_siz (toL t.2) []).2
      by_cases c3:t.1.kind = 3∧(onceG [] (toL t.2)).length < (toL t.2).length
      · rw [if_pos c3,if_pos ⟨c3.1,by omega⟩]
      · rw [if_neg c3,if_neg (fun q => c3 ⟨q.1,by omega⟩)]
        simp only
        unfold sortR srtB
        simp only [decide_eq_false_iff_not]
end
section
open Go.ChangeShapes Go.WideShapes Go.ChangeAt Go.RowKit
attribute [local irreducible] Go.Calls
set_option maxHeartbeats 1000000 in
theorem rbad_c (x:Prt) (w:World):Calls Tryz.prog 75 #[prtV x] w fun e w' => e = .returned (.bool (badP x))∧Below w.heap.size w w':=by
  obtain ⟨kd,n,g,d,ks⟩:=x
  by_cases hk:kd = 0
  · have HE:=hidE (show badP ⟨kd,n,g,d,ks⟩ = decide (ks ≠ 0 ∨ n = 0 ∨ 4096 < n ∨ g = 0 ∨ n < g ∨ n % g ≠ 0 ∨ d < 1 ∨ 4096 < d) by unfold badP;rw [if_pos hk])
    rw [HE.out]
    have k1:((kd:Int) == 0) = true:=by simp [hk]
    have hmod:(n:Int).tmod (g:Int) = ((n % g:Nat):Int):=by rw [Int.tmod_eq_emod_of_nonneg (by omega)];omega
    clear HE hk
    go_enter Tryz.func75,Tryz.ntmps75
    go_wp2
    all_goals
      go_ret
      refine ⟨ret_bool ?_,by (repeat (first | exact Below.refl _ _ | assumption | refine balloc ?_ _ | refine below_drewN ?_ _ | refine bstep (by assumption) ?_ | refine bstep (Past.prop _) ?_ | refine Below.setCell ?_ (by first | exact Nat.le_refl _ | (simp;done) | (simp;omega)) _))⟩
      first
        | (symm;apply decide_eq_true;omega)
        | (symm;apply decide_eq_false;omega)
        | (simp_all;done)
        | (rw [Bool.eq_iff_iff];simp_all;omega)
  · have HE:=hidE (show badP ⟨kd,n,g,d,ks⟩ = decide (4 < kd ∨ ks < 1 ∨ 16 < ks ∨ n ≠ 0 ∨ g ≠ 0 ∨ d ≠ 0) by unfold badP;rw [if_neg hk])
    rw [HE.out]
    have k1:((kd:Int) == 0) = false:=by simp;omega
    clear HE hk
    go_enter Tryz.func75,Tryz.ntmps75
    go_wp2
    all_goals
      go_ret
      refine ⟨ret_bool ?_,by (repeat (first | exact Below.refl _ _ | assumption | refine balloc ?_ _ | refine below_drewN ?_ _ | refine bstep (by assumption) ?_ | refine bstep (Past.prop _) ?_ | refine Below.setCell ?_ (by first | exact Nat.le_refl _ | (simp;done) | (simp;omega)) _))⟩
      first
        | (symm;apply decide_eq_true;omega)
        | (symm;apply decide_eq_false;omega)
        | (simp_all;done)
        | (rw [Bool.eq_iff_iff];simp_all;omega)
abbrev I3 (r:Nat × Nat × Int):Value := .tuple #[.int .i64 r.1,.int .i64 r.2.1,.int .i64 r.2.2]
end
section
open Go.ChangeShapes Go.WideShapes Go.ChangeAt Go.RowKit
attribute [local irreducible] Go.Calls
def CellsK (k:IntKind) (w:World) (b off:Nat) (l:List Int):Prop:=∀ i,i < l.length→w.cell? ⟨b,off + i,none⟩ = some (.int k (l.getD i 0))
def ArgK (k:IntKind) (w:World) (a:Option Addr) (l:List Int):Prop:=0 < l.length→∃ b off,a = some ⟨b,off,none⟩∧b < w.heap.size∧CellsK k w b off l
theorem CellsK.below {k:IntKind} {w w':World} {b off B:Nat} {l:List Int} (h:CellsK k w b off l) (hb:Below B w w') (hB:b < B):CellsK k w' b off l:=fun i hi => (hb.cell (p:=⟨b,_,none⟩) hB).trans (h i hi)
theorem ArgK.past {k:IntKind} {w w':World} {a:Option Addr} {l:List Int} (h:ArgK k w a l) (hb:Below w.heap.size w w'):ArgK k w' a l:=fun hl => by
  obtain ⟨b,off,e,h1,h2⟩:=h hl
  exact ⟨b,off,e,Nat.lt_of_lt_of_le h1 hb.size,h2.below hb h1⟩
def cellsK (k:IntKind) (l:List Int):List Value:=l.map (.int k)
theorem cellsK_app (k:IntKind) (l r:List Int):cellsK k (l ++ r) = cellsK k l ++ cellsK k r:=by unfold cellsK;rw [List.map_append]
theorem kgetD (l:List Int) (i:Nat) (h:i < l.length):l.getD i 0 = l[i]:=by rw [List.getD_eq_getElem?_getD,List.getElem?_eq_getElem h];rfl
theorem cellsK_get {k:IntKind} {l:List Int} {i:Nat} (h:i < l.length):(cellsK k l)[i]? = some (.int k (l.getD i 0)):=by
  unfold cellsK
  rw [List.getElem?_map,List.getElem?_eq_getElem h,kgetD _ _ h];rfl
theorem argK_own {k:IntKind} {w:World} {base:Nat} {e:TypeId} {v:Value} {l:List Int} (h:w.ownsRow base e 1 v l.length (cellsK k l)):∃ a cap,v = .slice a l.length cap∧ArgK k w a l:=by
  obtain ⟨h1,h2 | ⟨g,cap,cur,rfl,h3,h4,h5,h6,h7,h8⟩⟩:=h
  · obtain ⟨rfl,h2⟩:=h2
    have:l = []:=List.eq_nil_of_length_eq_zero h2
    subst this
    exact ⟨none,0,rfl,fun h => by simp at h⟩
  · refine ⟨some ⟨g,0,none⟩,cap,rfl,fun _ => ⟨g,0,rfl,lt_of_block h4,fun i hi => ?_⟩⟩
    have hg:=cellsK_get (k:=k) hi
    have e:w.cell? ⟨g,0 + i,none⟩ = cur[i]? := by simp [World.cell?,h4]
    rw [e,← Array.getElem?_toList]
    rw [← h8,List.getElem?_take,if_pos (by omega)] at hg
    exact hg
end
section
open Go.ChangeShapes Go.WideShapes Go.ChangeAt Go.RowKit
attribute [local irreducible] Go.Calls
abbrev def8 (fr to':Int) (a:Option Addr) (n cap:Nat):Value := .agg #[.int .i64 fr,.int .i64 to',.slice a n cap]
theorem Tryz.infoIntL:(Tryz.prog.info? 3).map (fun i => (i.zero,i.size,i.bytes)) = some (some (.int .i64 0),1,8):=by kernel_rfl
def natsI (l:List Nat):List Int:=l.map fun (n:Nat) => (n:Int)
theorem natsI_len (l:List Nat):(natsI l).length = l.length:=by unfold natsI;rw [List.length_map]
theorem natsI_app (l r:List Nat):natsI (l ++ r) = natsI l ++ natsI r:=by unfold natsI;rw [List.map_append]
def SliN (w:World) (v:Value) (l:List Nat):Prop:=∃ (a:Option Addr) (cap:Nat),v = .slice a l.length cap∧l.length≤cap∧cap≤9223372036854775807∧ArgK .i64 w a (natsI l)
theorem sliN_own {w:World} {base:Nat} {e:TypeId} {v:Value} {l:List Nat} (h:w.ownsRow base e 1 v l.length (cellsK .i64 (natsI l))):SliN w v l:=by
  obtain ⟨a,cap,hv,hA⟩:=argK_own (l:=natsI l) (by rw [natsI_len];exact h)
  rw [natsI_len] at hv
  obtain ⟨h1,h2 | ⟨g,cp,cur,h3,h4,h5,h6,h7,h8⟩⟩:=h
  · obtain ⟨rfl,h2⟩:=h2
    have e:=List.eq_nil_of_length_eq_zero h2
    subst e
    exact ⟨none,0,rfl,Nat.le_refl _,by omega,fun hh => by simp [natsI] at hh⟩
  · rw [hv] at h3
    cases h3
    exact ⟨_,cap,hv,h6,by unfold maxLen at h7;omega,hA⟩
theorem kidsGo_len (l:List Prt):∀ (n p:Nat),(kidsGo l n p).length = n
  | 0,_ => rfl
  | n + 1,p => by simp only [kidsGo,List.length_cons,kidsGo_len l n]
def kidAt (l:List Prt) (p:Nat):Nat→Nat
  | 0 => p
  | k + 1 => endS l (kidAt l p k)
end
section
open Go.ChangeShapes Go.WideShapes Go.ChangeAt Go.RowKit
attribute [local irreducible] Go.Calls
end
section
abbrev prN (l:List Prt) (i:Nat):Prt:=l.getD i ⟨0,0,0,0,0⟩
theorem stop_le {l:List Prt} {p deep deep' ink ink':Nat} (h:stopS l p deep ink = none) (hd:deep'≤deep) (hi:ink' = 2→ink = 2):stopS l p deep' ink' = none:=by
  obtain ⟨h1,h2,h3,h4,h5⟩:=stop_none h
  rw [stop_deep h1 (by
    rintro (c | c | ⟨c,c2⟩)
    · omega
    · rw [h3] at c;cases c
    · exact c2 (h4 (hi c)))]
  exact if_neg (by omega)
theorem rd_mono:∀ (m:Nat) (l:List Prt) (p deep deep' ink ink' n e:Nat),rdS m l p deep ink n = .ok e→deep'≤deep→(ink' = 2→ink = 2)→rdS m l p deep' ink' n = .ok e
  | m,l,p,deep,deep',ink,ink',0,e,h,_,_ => by rw [rd_zero] at h ⊢;exact h
  | 0,l,p,deep,deep',ink,ink',n + 1,e,h,_,_ => by cases h
  | m + 1, l, p, deep, deep', ink, ink', n + 1, e, h, hd, hi => by
    rw [rd_cons] at h ⊢
    cases hst:stopS l p deep ink with
    | some x => rw [hst] at h;cases h
    | none =>
      rw [hst] at h
      rw [stop_le hst hd hi]
      simp only at h ⊢
      cases hk:rdS m l (p + 1) (deep + 1) (prN l p).kind (prN l p).kids.toNat with
      | error x => rw [hk] at h;cases h
      | ok q =>
        rw [hk] at h
        rw [rd_mono m l _ _ (deep' + 1) _ _ _ _ hk (by omega) id]
        exact rd_mono m l _ _ _ _ _ _ _ h hd hi
theorem end_of {m:Nat} {l:List Prt} {p deep ink e:Nat} (h:rdS m l p deep ink 1 = .ok e) (hd:1≤deep):endS l p = e:=by
  have h1:=rd_ext m (l.length + 1) l l p deep ink 1 e h (fun _ _ => rfl) (by omega) (by omega)
  unfold endS
  rw [rd_mono _ _ _ _ 1 _ 0 _ _ h1 hd (fun c => by cases c)]
  rfl
theorem kidAt_next (l:List Prt) (p:Nat):∀ k,kidAt l p (k + 1) = kidAt l (endS l p) k
  | 0 => rfl
  | k + 1 => by
    rw [kidAt,kidAt_next l p k]
    rfl
theorem chain_of:∀ (n m:Nat) (l:List Prt) (p deep ink e:Nat),rdS m l p deep ink n = .ok e→1≤deep→kidAt l p n = e∧∀ k,k < n→kidAt l p k < e
  | 0,m,l,p,deep,ink,e,h,_ => by rw [rd_zero] at h;cases h;exact ⟨rfl,fun k hk => by omega⟩
  | n + 1, m, l, p, deep, ink, e, h, hd => by
    have h':=rd_ext m (l.length + 1) l l p deep ink (n + 1) e h (fun _ _ => rfl) (by omega) (by omega)
    rw [rd_one (by omega) (by omega)] at h'
    cases h1:rdS (l.length + 1) l p deep ink 1 with
    | error x => rw [h1] at h';cases h'
    | ok q =>
      rw [h1] at h'
      simp only at h'
      have hq:=end_of h1 hd
      have g1:=rd_gt _ _ _ _ _ _ _ h1
      have g2:=rd_gt _ _ _ _ _ _ _ h'
      obtain ⟨c1,c2⟩:=chain_of n _ l q deep ink e h' hd
      refine ⟨by rw [kidAt_next,hq];exact c1,fun k hk => ?_⟩
      cases k with
      | zero => show p < e;omega
      | succ k => rw [kidAt_next,hq];exact c2 k (by omega)
def ancS (l:List Prt) (i:Nat):Nat→Nat→Nat
  | _,0 => 0
  | p,n + 1 => (if i < endS l p then 1 else 0) + ancS l i (p + 1) n
theorem anc_none (l:List Prt) (i:Nat):∀ (n p:Nat),(∀ a,p≤a→a < p + n→endS l a≤i)→ancS l i p n = 0
  | 0,p,_ => rfl
  | n + 1, p, h => by
    rw [ancS,if_neg (by have:=h p (Nat.le_refl _) (by omega);omega),anc_none l i n (p + 1) (fun a h1 h2 => h a (by omega) (by omega))]
theorem anc_add (l:List Prt) (i:Nat):∀ (n m p:Nat),ancS l i p (n + m) = ancS l i p n + ancS l i (p + n) m
  | 0,m,p => by simp [ancS]
  | n + 1, m, p => by
    rw [show n + 1 + m = (n + m) + 1 by omega,ancS,ancS,anc_add l i n m (p + 1),show p + 1 + n = p + (n + 1) by omega]
    omega
theorem rd_hang:∀ (m:Nat) (l:List Prt) (p deep ink n e:Nat),rdS m l p deep ink n = .ok e→1≤deep→∀ i,p≤i→i < e →
    i < endS l i∧endS l i≤e∧(∀ a,i≤a→a < endS l i→endS l a≤endS l i)∧kidAt l (i + 1) (prN l i).kids.toNat = endS l i∧(∀ k,k < (prN l i).kids.toNat→kidAt l (i + 1) k < endS l i)∧deep + ancS l i p (i - p)≤8
  | m,l,p,deep,ink,0,e,h,_,i,h1,h2 => by rw [rd_zero] at h;cases h;omega
  | 0,l,p,deep,ink,n + 1,e,h,_,i,h1,h2 => by cases h
  | m + 1, l, p, deep, ink, n + 1, e, h, hd, i, h1, h2 => by
    rw [rd_cons] at h
    cases hst:stopS l p deep ink with
    | some x => rw [hst] at h;cases h
    | none =>
      rw [hst] at h
      simp only at h
      cases hk:rdS m l (p + 1) (deep + 1) (prN l p).kind (prN l p).kids.toNat with
      | error x => rw [hk] at h;cases h
      | ok q =>
        rw [hk] at h
        simp only at h
        have gk:=rd_gt _ _ _ _ _ _ _ hk
        have gn:=rd_gt _ _ _ _ _ _ _ h
        have hEp:endS l p = q:=end_of (m:=m + 1) (deep:=deep) (ink:=ink) (by rw [rd_cons,hst];simp only [hk,rd_zero]) hd
        have IHk:=rd_hang m l _ _ _ _ _ hk (by omega)
        have IHn:=rd_hang m l _ _ _ _ _ h hd
        by_cases c:i = p
        · subst c
          obtain ⟨c1,c2⟩:=chain_of _ _ _ _ _ _ _ hk (by omega)
          refine ⟨by omega,by omega,fun a ha1 ha2 => ?_,by rw [hEp];exact c1,fun k hk2 => by rw [hEp];exact c2 k hk2, ?_⟩
          · by_cases ca:a = i
            · rw [ca];exact Nat.le_refl _
            · rw [hEp] at ha2 ⊢
              exact (IHk a (by omega) ha2).2.1
          · rw [Nat.sub_self];exact (stop_none hst).2.2.2.2
        · by_cases c2:i < q
          · obtain ⟨a1,a2,a3,a4,a5,a6⟩:=IHk i (by omega) c2
            refine ⟨a1,by omega,a3,a4,a5, ?_⟩
            rw [show i - p = (i - (p + 1)) + 1 by omega,ancS,if_pos (by omega)]
            omega
          · obtain ⟨a1,a2,a3,a4,a5,a6⟩:=IHn i (by omega) h2
            refine ⟨a1,a2,a3,a4,a5, ?_⟩
            rw [show i - p = (q - p) + (i - q) by omega,anc_add,show p + (q - p) = q by omega]
            have hz:ancS l i p (q - p) = 0:=anc_none l i _ _ (fun a ha1 ha2 => by
              by_cases ca:a = p
              · rw [ca,hEp];omega
              · have:=(IHk a (by omega) (by omega)).2.1;omega)
            omega
structure Hang (l:List Prt):Prop where
  up:∀ i,i < l.length→i < endS l i∧endS l i≤l.length
  inn:∀ i a,i < l.length→i≤a→a < endS l i→endS l a≤endS l i
  chain:∀ i,i < l.length→kidAt l (i + 1) (prN l i).kids.toNat = endS l i
  kid:∀ i k,i < l.length→k < (prN l i).kids.toNat→kidAt l (i + 1) k < endS l i
  deep:∀ i,i < l.length→1 + ancS l i 0 i≤8
  all:endS l 0 = l.length
theorem tree_hang {l:List Prt} (h:(treeS l).2 = 0):Hang l:=by
  have hr:=tree_fine h
  have hh:=rd_hang _ _ _ _ _ _ _ hr (Nat.le_refl _)
  exact ⟨fun i hi => ⟨(hh i (Nat.zero_le _) hi).1,(hh i (Nat.zero_le _) hi).2.1⟩,fun i a hi => (hh i (Nat.zero_le _) hi).2.2.1 a,fun i hi => (hh i (Nat.zero_le _) hi).2.2.2.1,fun i k hi => (hh i (Nat.zero_le _) hi).2.2.2.2.1 k,fun i hi => by have:=(hh i (Nat.zero_le _) hi).2.2.2.2.2;simpa using this,end_of hr (Nat.le_refl _)⟩
end
section
theorem kidAt_ge {l:List Prt} (h:Hang l) {i:Nat} (hi:i < l.length):∀ k,k≤(prN l i).kids.toNat→i + 1 + k≤kidAt l (i + 1) k
  | 0,_ => Nat.le_refl _
  | k + 1, hk => by
    have h1:=kidAt_ge h hi k (by omega)
    have h2:=h.kid i k hi (by omega)
    have h3:=(h.up i hi).2
    have h4:=(h.up (kidAt l (i + 1) k) (by omega)).1
    show i + 1 + (k + 1)≤endS l (kidAt l (i + 1) k)
    omega
end
end Go.Proofs.YthlepbbdjmmelaaGreatDoor
