/- Parts, and forests of parts: their number, their depth, their list. No program. No conditions. What the functions of package vec come to, as plain functions of integers, and the facts on them. No conditions. Arrangements of a row by a key, as functions of places: what insertions, rotations and merges come to. No program. No conditions. Step functions as lists of runs: .. -/
import Derived.WalkKit
namespace Go.Proofs.YtcmponckjkalaaaGreat
section
structure Prt where
 kind:Nat
 n:Nat
 g:Nat
 d:Int
 kids:Int
deriving DecidableEq
def okV (x y:Int):Bool:=decide (-1125899906842624≤x∧x≤1125899906842624 ∧ -1125899906842624≤y∧y≤1125899906842624)
def leB (a b c d:Int):Bool:=decide (a≤c∧b≤d)
def mn (a b:Int):Int:=if a≤b then a else b
def mx (a b:Int):Int:=if a≤b then b else a
def gate (b:Bool) (x y:Int):Int × Int × Int:=if b then (x,y,0) else (0,0,10)
def addS (a b c d:Int):Int × Int × Int:=gate (okV a b && okV c d && okV (a+c) (b+d)) (a+c) (b+d)
def subS (a b c d:Int):Int × Int × Int:=gate (okV a b && okV c d && okV (a - c) (b - d)) (a - c) (b - d)
theorem okV_iff {x y:Int}:okV x y=true↔(-1125899906842624≤x∧x≤1125899906842624 ∧ -1125899906842624≤y∧y≤1125899906842624):=by
 unfold okV;exact decide_eq_true_iff
theorem okV_parts (a b:Int):(leB (-1125899906842624) (-1125899906842624) a b && leB a b 1125899906842624 1125899906842624)=okV a b:=by
 unfold leB okV
 rw[Bool.eq_iff_iff]
 simp only[Bool.and_eq_true,decide_eq_true_eq]
 omega
theorem gate_true {b:Bool} {x y:Int} (h:b=true):gate b x y=(x,y,0):=by unfold gate;rw[if_pos h]
theorem gate_false {b:Bool} {x y:Int} (h:b=false):gate b x y=(0,0,10):=by unfold gate;rw[h];rfl
abbrev V (m c:Int):Value := .agg #[.int .i64 m,.int .i64 c]
abbrev VE (g:Int × Int × Int):Value := .tuple #[V g.1 g.2.1,.int .i64 g.2.2]
theorem gate_no {a b c:Bool} {x y:Int} (h:(a && b)=false):gate (a && b && c) x y=(0,0,10):=by rw[h];rfl
end
section
def sw (d:Nat→Nat) (i j:Nat):Nat→Nat:=fun k=>if k=i then d j else if k=j then d i else d k
theorem sw_l (d:Nat→Nat) (i j:Nat):sw d i j i=d j:=by unfold sw;rw[if_pos rfl]
theorem sw_r (d:Nat→Nat) (i j:Nat):sw d i j j=d i:=by
 unfold sw
 by_cases h:j=i
 ·rw[if_pos h,h]
 ·rw[if_neg h,if_pos rfl]
theorem sw_o (d:Nat→Nat) (i j k:Nat) (h1:k≠i) (h2:k≠j):sw d i j k=d k:=by unfold sw;rw[if_neg h1,if_neg h2]
def Mv (a b:Nat) (d d':Nat→Nat):Prop :=
 ∃ p q:Nat→Nat,(∀ k,d' k=d (p k))∧(∀ k,p (q k)=k)∧(∀ k,q (p k)=k)∧(∀ k,(k<a∨b≤k)→p k=k)
theorem Mv.refl (a b:Nat) (d:Nat→Nat):Mv a b d d:=⟨id,id,fun _=>rfl,fun _=>rfl,fun _=>rfl,fun _ _=>rfl⟩
theorem Mv.trans {a b:Nat} {d d' d'':Nat→Nat} (h:Mv a b d d') (h':Mv a b d' d''):Mv a b d d'':=by
 obtain ⟨p,q,h1,h2,h3,h4⟩:=h
 obtain ⟨p',q',g1,g2,g3,g4⟩:=h'
 exact ⟨fun k=>p (p' k),fun k=>q' (q k),fun k=>by rw[g1,h1],fun k=>by simp only[g2,h2],fun k=>by simp only[h3,g3],fun k hk=>by show p (p' k)=k;rw[g4 k hk,h4 k hk]⟩
theorem Mv.mono {a b a' b':Nat} {d d':Nat→Nat} (h:Mv a b d d') (ha:a'≤a) (hb:b≤b'):Mv a' b' d d':=by
 obtain ⟨p,q,h1,h2,h3,h4⟩:=h
 exact ⟨p,q,h1,h2,h3,fun k hk=>h4 k (by omega)⟩
theorem Mv.out {a b:Nat} {d d':Nat→Nat} (h:Mv a b d d') (k:Nat) (hk:k<a∨b≤k):d' k=d k:=by
 obtain ⟨p,q,h1,_,_,h4⟩:=h
 rw[h1,h4 k hk]
theorem Mv.inn {a b:Nat} {d d':Nat→Nat} (h:Mv a b d d') (k:Nat) (h0:a≤k) (h1:k<b):∃ k',a≤k'∧k'<b∧d' k=d k':=by
 obtain ⟨p,q,g1,g2,g3,g4⟩:=h
 refine ⟨p k, ?_⟩
 by_cases hp:p k<a∨b≤p k
 ·have e:=g4 _ hp
  have e2:p k=k:=by
   have:=congrArg q e
   rw[g3,g3] at this;exact this
  omega
 ·exact ⟨by omega,by omega,g1 k⟩
theorem Mv.back {a b:Nat} {d d':Nat→Nat} (h:Mv a b d d') (k:Nat) (h0:a≤k) (h1:k<b):∃ k',a≤k'∧k'<b∧d k=d' k':=by
 obtain ⟨p,q,g1,g2,g3,g4⟩:=h
 refine ⟨q k, ?_⟩
 have e:d k=d' (q k):=by rw[g1,g2]
 by_cases hp:q k<a∨b≤q k
 ·have e2:=g4 _ hp
  rw[g2] at e2
  omega
 ·exact ⟨by omega,by omega,e⟩
theorem Mv.swap {a b:Nat} (d:Nat→Nat) (i j:Nat) (hi:a≤i∧i<b) (hj:a≤j∧j<b):Mv a b d (sw d i j):=by
 have hp:∀ k,(fun k=>if k=i then j else if k=j then i else k) ((fun k=>if k=i then j else if k=j then i else k) k)=k:=by
  intro k
  show (if (if k=i then j else if k=j then i else k)=i then j else if (if k=i then j else if k=j then i else k)=j then i else (if k=i then j else if k=j then i else k))=k
  by_cases h1:k=i
  ·simp[h1]
  ·by_cases h2:k=j
   ·subst h2;simp[h1]
   ·simp[h1,h2]
 refine ⟨fun k=>if k=i then j else if k=j then i else k,fun k=>if k=i then j else if k=j then i else k, ?_,hp,hp, ?_⟩
 ·intro k
  unfold sw
  by_cases h1:k=i
  ·simp only[h1,if_true]
  ·by_cases h2:k=j
   ·simp only[h2,if_true]
    by_cases h3:j=i
    ·rw[if_pos h3,if_pos h3,h3]
    ·rw[if_neg h3,if_neg h3]
   ·simp only[h1,h2,if_false]
 ·intro k hk
  show (if k=i then j else if k=j then i else k)=k
  rw[if_neg (by omega),if_neg (by omega)]
section
variable (K:Nat→Int)
def Lx (x y:Nat):Prop:=K x<K y∨(K x=K y∧x<y)
def Inv (n:Nat) (d:Nat→Nat):Prop:=∀ k k',k<k'→k'<n→K (d k)≠K (d k')∨d k<d k'
def Srt (a b:Nat) (d:Nat→Nat):Prop:=∀ k k',a≤k→k<k'→k'<b→Lx K (d k) (d k')
variable {K}
theorem Lx.trans {x y z:Nat} (h:Lx K x y) (h':Lx K y z):Lx K x z:=by unfold Lx at *;omega
theorem Lx.of {x y:Nat} (h:K x<K y):Lx K x y:=Or.inl h
theorem Lx.le {x y:Nat} (h:Lx K x y):K x≤K y:=by unfold Lx at h;omega
theorem Inv.lx {n:Nat} {d:Nat→Nat} (h:Inv K n d) {k k':Nat} (h1:k<k') (h2:k'<n) (h3:¬ K (d k')<K (d k)):Lx K (d k) (d k'):=by
 have:=h k k' h1 h2
 unfold Lx;omega
theorem Srt.mono {a b a' b':Nat} {d:Nat→Nat} (h:Srt K a b d) (ha:a≤a') (hb:b'≤b):Srt K a' b' d:=fun k k' h1 h2 h3=>h k k' (by omega) h2 (by omega)
theorem Srt.congr {a b:Nat} {d d':Nat→Nat} (h:Srt K a b d) (e:∀ k,a≤k→k<b→d' k=d k):Srt K a b d':=fun k k' h1 h2 h3=>by
 rw[e k h1 (by omega),e k' (by omega) h3];exact h k k' h1 h2 h3
theorem Srt.le {a b:Nat} {d:Nat→Nat} (h:Srt K a b d) {k k':Nat} (h1:a≤k) (h2:k≤k') (h3:k'<b):K (d k)≤K (d k'):=by
 rcases Nat.lt_or_ge k k' with h4 | h4
 ·exact (h k k' h1 h4 h3).le
 ·have:k=k':=by omega
  subst this;exact Int.le_refl _
theorem srt_one (a b:Nat) (d:Nat→Nat) (h:b≤a+1):Srt K a b d:=fun k k' h1 h2 h3=>by omega
theorem Inv.swap {n:Nat} {d:Nat→Nat} (h:Inv K n d) (j:Nat) (hj:j+1<n) (hk:K (d (j+1))<K (d j)):Inv K n (sw d j (j+1)):=by
 intro k k' h1 h2
 by_cases e1:k=j
 ·subst e1
  rw[sw_l]
  by_cases e2:k'=k+1
  ·subst e2;rw[sw_r];omega
  ·rw[sw_o _ _ _ _ (by omega) e2];exact h _ _ (by omega) h2
 ·by_cases e2:k=j+1
  ·subst e2
   rw[sw_r,sw_o _ _ _ _ (by omega) (by omega)];exact h _ _ (by omega) h2
  ·rw[sw_o _ _ _ k e1 e2]
   by_cases e3:k'=j
   ·subst e3;rw[sw_l];exact h _ _ (by omega) (by omega)
   ·by_cases e4:k'=j+1
    ·subst e4;rw[sw_r];exact h _ _ (by omega) (by omega)
    ·rw[sw_o _ _ _ _ e3 e4];exact h _ _ h1 h2
theorem Inv.swap' {n:Nat} {d:Nat→Nat} (h:Inv K n d) (j:Nat) (hj:j+1<n) (hk:K (d (j+1))<K (d j)):Inv K n (sw d (j+1) j):=by
 have e:sw d (j+1) j=sw d j (j+1):=by
  funext k;unfold sw
  by_cases h1:k=j
  ·subst h1;simp
  ·simp[h1]
 rw[e];exact h.swap j hj hk
def InsR (K:Nat→Int) (a i j:Nat) (d:Nat→Nat):Prop:=∀ k k',a≤k→k<k'→k'≤i→k'≠j→Lx K (d k) (d k')
theorem InsR.start {a i:Nat} {d:Nat→Nat} (h:Srt K a i d):InsR K a i i d:=fun k k' h1 h2 h3 h4=>h k k' h1 h2 (by omega)
theorem InsR.step {a i j:Nat} {d:Nat→Nat} (h:InsR K a i (j+1) d) (ha:a≤j) (hj:j+1≤i) (hk:K (d (j+1))<K (d j)):InsR K a i j (sw d (j+1) j):=by
 intro k k' h1 h2 h3 h4
 by_cases e1:k'=j+1
 ·subst e1
  rw[sw_l]
  by_cases e2:k=j
  ·subst e2;rw[sw_r];exact .of hk
  ·rw[sw_o _ _ _ _ (by omega) e2];exact h _ _ h1 (by omega) (by omega) (by omega)
 ·rw[sw_o _ _ _ k' e1 h4]
  by_cases e2:k=j+1
  ·subst e2;rw[sw_l];exact h _ _ ha (by omega) h3 e1
  ·by_cases e3:k=j
   ·subst e3;rw[sw_r];exact h _ _ (by omega) (by omega) h3 e1
   ·rw[sw_o _ _ _ _ e2 e3];exact h _ _ h1 h2 h3 e1
theorem InsR.done {n a i j:Nat} {d:Nat→Nat} (h:InsR K a i j d) (hI:Inv K n d) (hn:i<n) (haj:a≤j) (hji:j≤i) (hs:j=a∨¬ K (d j)<K (d (j - 1))):Srt K a (i+1) d:=by
 intro k k' h1 h2 h3
 by_cases e:k'=j
 ·subst e
  rcases hs with hs | hs
  ·omega
  ·have hl:Lx K (d (k' - 1)) (d k'):=hI.lx (by omega) (by omega) hs
   by_cases e2:k=k' - 1
   ·rw[e2];exact hl
   ·exact (h k (k' - 1) h1 (by omega) (by omega) (by omega)).trans hl
 ·exact h k k' h1 h2 (by omega) e
structure BubU (K:Nat→Int) (a b k i:Nat) (d:Nat→Nat):Prop where
 rest:∀ x y,a≤x→x<y→y<b→x≠k→y≠k→Lx K (d x) (d y)
 low:∀ x,a≤x→x<k→Lx K (d x) (d k)
 mid:∀ y,k<y→y<i→K (d y)<K (d k)
 high:∀ y,i≤y→k<y→y<b→Lx K (d k) (d y)
theorem BubU.start {n a b i:Nat} {d:Nat→Nat} (hI:Inv K n d) (hbn:b≤n) (h:Srt K (a+1) b d) (_hi:i≤b) (h1:∀ y,a+1≤y→y<i→K (d y)<K (d a)) (h2:∀ y,i≤y→y<b→¬ K (d y)<K (d a)):BubU K a b a i d where
 rest:=fun x y hx hxy hy hxa _=>h x y (by omega) hxy hy
 low:=fun x hx hx'=>by omega
 mid:=fun y hy hyi=>h1 y (by omega) hyi
 high:=fun y hy hay hyb=>hI.lx (by omega) (by omega) (h2 y hy hyb)
theorem BubU.step {a b k i:Nat} {d:Nat→Nat} (h:BubU K a b k i d) (hak:a≤k) (hk:k+1<i) (hib:i≤b):BubU K a b (k+1) i (sw d k (k+1)) where
 rest:=fun x y hx hxy hy h1 h2=>by
  by_cases e1:x=k
  ·subst e1
   rw[sw_l,sw_o _ _ _ _ (by omega) h2];exact h.rest _ _ (by omega) (by omega) hy (by omega) (by omega)
  ·rw[sw_o _ _ _ x e1 h1]
   by_cases e2:y=k
   ·subst e2;rw[sw_l];exact h.rest _ _ hx (by omega) (by omega) e1 (by omega)
   ·rw[sw_o _ _ _ _ e2 h2];exact h.rest _ _ hx hxy hy e1 e2
 low:=fun x hx hx'=>by
  rw[sw_r]
  by_cases e1:x=k
  ·subst e1;rw[sw_l];exact .of (h.mid _ (by omega) hk)
  ·rw[sw_o _ _ _ _ e1 (by omega)];exact h.low _ hx (by omega)
 mid:=fun y hy hyi=>by rw[sw_r,sw_o _ _ _ _ (by omega) (by omega)];exact h.mid _ (by omega) hyi
 high:=fun y hy hky hyb=>by rw[sw_r,sw_o _ _ _ _ (by omega) (by omega)];exact h.high _ hy (by omega) hyb
theorem BubU.done {a b k i:Nat} {d:Nat→Nat} (h:BubU K a b k i d) (hk:i≤k+1):Srt K a b d:=fun x y hx hxy hy=>by
 by_cases e1:x=k
 ·subst e1;exact h.high _ (by omega) hxy hy
 ·by_cases e2:y=k
  ·subst e2;exact h.low _ hx hxy
  ·exact h.rest _ _ hx hxy hy e1 e2
structure BubD (K:Nat→Int) (a b k i:Nat) (d:Nat→Nat):Prop where
 rest:∀ x y,a≤x→x<y→y<b→x≠k→y≠k→Lx K (d x) (d y)
 low:∀ x,a≤x→x<i→x<k→Lx K (d x) (d k)
 mid:∀ x,i≤x→x<k→K (d k)<K (d x)
 high:∀ y,k<y→y<b→Lx K (d k) (d y)
theorem BubD.start {n a m i:Nat} {d:Nat→Nat} (hI:Inv K n d) (hbn:m<n) (h:Srt K a m d) (h1:∀ x,a≤x→x<i→x<m→¬ K (d m)<K (d x)) (h2:∀ x,i≤x→x<m→K (d m)<K (d x)):BubD K a (m+1) m i d where
 rest:=fun x y hx hxy hy hxm hym=>h x y hx hxy (by omega)
 low:=fun x hx hxi hxm=>hI.lx hxm hbn (h1 x hx hxi hxm)
 mid:=fun x hx hxm=>h2 x hx hxm
 high:=fun y hy hyb=>by omega
theorem BubD.step {a b k i:Nat} {d:Nat→Nat} (h:BubD K a b (k+1) i d) (hak:a≤i) (hk:i≤k) (hib:k+1<b):BubD K a b k i (sw d (k+1) k) where
 rest:=fun x y hx hxy hy h1 h2=>by
  by_cases e1:x=k+1
  ·subst e1
   rw[sw_l,sw_o _ _ _ _ (by omega) h2];exact h.rest _ _ (by omega) (by omega) hy (by omega) (by omega)
  ·rw[sw_o _ _ _ x e1 h1]
   by_cases e2:y=k+1
   ·subst e2;rw[sw_l];exact h.rest _ _ hx (by omega) (by omega) e1 (by omega)
   ·rw[sw_o _ _ _ _ e2 h2];exact h.rest _ _ hx hxy hy e1 e2
 low:=fun x hx hxi hxk=>by rw[sw_r,sw_o _ _ _ _ (by omega) (by omega)];exact h.low _ hx hxi (by omega)
 mid:=fun x hx hxk=>by rw[sw_r,sw_o _ _ _ _ (by omega) (by omega)];exact h.mid _ hx (by omega)
 high:=fun y hy hyb=>by
  rw[sw_r]
  by_cases e1:y=k+1
  ·subst e1;rw[sw_l];exact .of (h.mid _ hk (by omega))
  ·rw[sw_o _ _ _ _ e1 (by omega)];exact h.high _ (by omega) hyb
theorem BubD.done {a b k i:Nat} {d:Nat→Nat} (h:BubD K a b k i d) (hk:k≤i):Srt K a b d:=fun x y hx hxy hy=>by
 by_cases e1:x=k
 ·subst e1;exact h.high _ hxy hy
 ·by_cases e2:y=k
  ·subst e2;exact h.low _ hx (by omega) hxy
  ·exact h.rest _ _ hx hxy hy e1 e2
def rot (d:Nat→Nat) (s m e:Nat):Nat→Nat:=fun k=>if s≤k∧k<s+(e - m) then d (k+(m - s)) else if s+(e - m)≤k∧k<e then d (k - (e - m)) else d k
theorem rot_1 {d:Nat→Nat} {s m e k:Nat} (h:s≤k∧k<s+(e - m)):rot d s m e k=d (k+(m - s)):=by unfold rot;rw[if_pos h]
theorem rot_2 {d:Nat→Nat} {s m e k:Nat} (h:s+(e - m)≤k∧k<e):rot d s m e k=d (k - (e - m)):=by unfold rot;rw[if_neg (by omega),if_pos h]
theorem rot_3 {d:Nat→Nat} {s m e k:Nat} (h:k<s∨(e≤k∧s+(e - m)≤k)):rot d s m e k=d k:=by unfold rot;rw[if_neg (by omega),if_neg (by omega)]
theorem rot_none {d:Nat→Nat} {s m e:Nat} (hs:s≤m) (he:m≤e) (h:s=m∨e=m):rot d s m e=d:=by
 funext k
 unfold rot
 split
 ·congr 1;omega
 ·split
  ·congr 1;omega
  ·rfl
theorem Mv.rot (d:Nat→Nat) {s m e:Nat} (hs:s≤m) (he:m≤e):Mv s e d (rot d s m e):=by
 refine ⟨fun k=>if s≤k∧k<s+(e - m) then k+(m - s) else if s+(e - m)≤k∧k<e then k - (e - m) else k,
  fun k=>if s≤k∧k<m then k+(e - m) else if m≤k∧k<e then k - (m - s) else k, ?_, ?_, ?_, ?_⟩
 ·intro k
  unfold YtcmponckjkalaaaGreat.rot
  dsimp only
  split
  ·rfl
  ·split<;>rfl
 ·intro k;dsimp only;repeat' split
  all_goals omega
 ·intro k;dsimp only;repeat' split
  all_goals omega
 ·intro k hk;dsimp only;rw[if_neg (by omega),if_neg (by omega)]
theorem Inv.rot {n s m e:Nat} {d:Nat→Nat} (h:Inv K n d) (hs:s≤m) (he:m≤e) (hn:e≤n) (hx:∀ x y,s≤x→x<m→m≤y→y<e→K (d y)<K (d x)):Inv K n (rot d s m e):=by
 intro k k' h1 h2
 by_cases c1:s≤k∧k<s+(e - m)
 ·rw[rot_1 c1]
  by_cases c2:s≤k'∧k'<s+(e - m)
  ·rw[rot_1 c2];exact h _ _ (by omega) (by omega)
  ·by_cases c3:s+(e - m)≤k'∧k'<e
   ·rw[rot_2 c3]
    have:=hx (k' - (e - m)) (k+(m - s)) (by omega) (by omega) (by omega) (by omega)
    omega
   ·rw[rot_3 (by omega)];exact h _ _ (by omega) (by omega)
 ·by_cases c2:s+(e - m)≤k∧k<e
  ·rw[rot_2 c2]
   by_cases c3:s+(e - m)≤k'∧k'<e
   ·rw[rot_2 c3];exact h _ _ (by omega) (by omega)
   ·rw[rot_3 (by omega)];exact h _ _ (by omega) (by omega)
  ·rw[rot_3 (k:=k) (by omega)]
   by_cases c3:s≤k'∧k'<s+(e - m)
   ·rw[rot_1 c3];exact h _ _ (by omega) (by omega)
   ·by_cases c4:s+(e - m)≤k'∧k'<e
    ·rw[rot_2 c4];exact h _ _ (by omega) (by omega)
    ·rw[rot_3 (by omega)];exact h _ _ (by omega) (by omega)
def swr (d:Nat→Nat) (a b n:Nat):Nat→Nat:=fun k=>if a≤k∧k<a+n then d (k+b - a) else if b≤k∧k<b+n then d (k+a - b) else d k
theorem swr_zero (d:Nat→Nat) (a b:Nat):swr d a b 0=d:=by funext k;unfold swr;rw[if_neg (by omega),if_neg (by omega)]
theorem swr_1 {d:Nat→Nat} {a b n k:Nat} (h:a≤k∧k<a+n):swr d a b n k=d (k+b - a):=by unfold swr;rw[if_pos h]
theorem swr_2 {d:Nat→Nat} {a b n k:Nat} (h:b≤k∧k<b+n) (h':k<a∨a+n≤k):swr d a b n k=d (k+a - b):=by unfold swr;rw[if_neg (by omega),if_pos h]
theorem swr_3 {d:Nat→Nat} {a b n k:Nat} (h:k<b∨b+n≤k) (h':k<a∨a+n≤k):swr d a b n k=d k:=by unfold swr;rw[if_neg (by omega),if_neg (by omega)]
theorem at_eq {d:Nat→Nat} {x y:Nat} (h:x=y):d x=d y:=by rw[h]
theorem swr_step (d:Nat→Nat) (a b n:Nat) (h:a+n<b):sw (swr d a b n) (a+n) (b+n)=swr d a b (n+1):=by
 funext k
 by_cases e1:k=a+n
 ·subst e1
  rw[sw_l,swr_3 (by omega) (by omega),swr_1 (by omega)];exact at_eq (by omega)
 by_cases e2:k=b+n
 ·subst e2
  rw[sw_r,swr_3 (by omega) (by omega),swr_2 (by omega) (by omega)];first | done | exact at_eq (by omega)
 rw[sw_o _ _ _ _ e1 e2]
 by_cases c1:a≤k∧k<a+n
 ·rw[swr_1 c1,swr_1 (by omega)]
 ·by_cases c2:b≤k∧k<b+n
  ·rw[swr_2 c2 (by omega),swr_2 (by omega) (by omega)]
  ·rw[swr_3 (by omega) (by omega),swr_3 (by omega) (by omega)]
theorem rot_gt (d:Nat→Nat) (m i j:Nat) (him:i≤m) (h:j<i):rot (swr d (m - i) m j) (m - (i - j)) m (m+j)=rot d (m - i) m (m+j):=by
 funext k
 by_cases c0:m - i≤k∧k<m - i+j
 ·rw[rot_3 (by omega),swr_1 (by omega),rot_1 (by omega)];exact at_eq (by omega)
 by_cases c1:m - i+j≤k∧k<m - i+j+j
 ·rw[rot_1 (by omega),swr_2 (by omega) (by omega),rot_2 (by omega)];exact at_eq (by omega)
 by_cases c2:m - i+j+j≤k∧k<m+j
 ·rw[rot_2 (by omega),swr_3 (by omega) (by omega),rot_2 (by omega)]
 rw[rot_3 (by omega),swr_3 (by omega) (by omega),rot_3 (by omega)]
theorem rot_lt (d:Nat→Nat) (m i j:Nat) (him:i≤m) (h:i<j):rot (swr d (m - i) (m+j - i) i) (m - i) m (m+(j - i))=rot d (m - i) m (m+j):=by
 funext k
 by_cases c0:m - i≤k∧k<m - i+(j - i)
 ·rw[rot_1 (by omega),swr_3 (by omega) (by omega),rot_1 (by omega)];first | done | exact at_eq (by omega)
 by_cases c1:m - i+(j - i)≤k∧k<m+j - i
 ·rw[rot_2 (by omega),swr_1 (by omega),rot_1 (by omega)];exact at_eq (by omega)
 by_cases c2:m+j - i≤k∧k<m+j
 ·rw[rot_3 (by omega),swr_2 (by omega) (by omega),rot_2 (by omega)];exact at_eq (by omega)
 rw[rot_3 (by omega),swr_3 (by omega) (by omega),rot_3 (by omega)]
theorem rot_eq (d:Nat→Nat) (m i:Nat) (him:i≤m):swr d (m - i) m i=rot d (m - i) m (m+i):=by
 funext k
 by_cases c0:m - i≤k∧k<m
 ·rw[swr_1 (by omega),rot_1 (by omega)];exact at_eq (by omega)
 by_cases c1:m≤k∧k<m+i
 ·rw[swr_2 (by omega) (by omega),rot_2 (by omega)];exact at_eq (by omega)
 rw[swr_3 (by omega) (by omega),rot_3 (by omega)]
structure Cut (K:Nat→Int) (a m b s:Nat) (d:Nat→Nat):Prop where
 as:a≤s
 sm:s≤m
 smid:s≤(a+b) / 2
 me:m≤(a+b) / 2+m - s
 eb:(a+b) / 2+m - s≤b
 up:a<s→(a+b) / 2+m - s<b→¬ K (d ((a+b) / 2+m - s))<K (d (s - 1))
 dn:s<m→m<(a+b) / 2+m - s→K (d ((a+b) / 2+m - s - 1))<K (d s)
theorem Cut.rotated {n a m b s:Nat} {d:Nat→Nat} (h:Cut K a m b s d) (hI:Inv K n d) (hb:b≤n) (h1:Srt K a m d) (h2:Srt K m b d) :
  Inv K n (rot d s m ((a+b) / 2+m - s))∧Srt K a s (rot d s m ((a+b) / 2+m - s))∧Srt K s ((a+b) / 2) (rot d s m ((a+b) / 2+m - s)) ∧
  Srt K ((a+b) / 2) ((a+b) / 2+m - s) (rot d s m ((a+b) / 2+m - s))∧Srt K ((a+b) / 2+m - s) b (rot d s m ((a+b) / 2+m - s)) ∧
  ∀ x y,a≤x→x<(a+b) / 2→(a+b) / 2≤y→y<b→Lx K (rot d s m ((a+b) / 2+m - s) x) (rot d s m ((a+b) / 2+m - s) y):=by
 obtain ⟨as,sm,smid,me,eb,up,dn⟩:=h
 generalize hM:(a+b) / 2=M at *
 generalize he:M+m - s=e at *
 have hx:∀ x y,s≤x→x<m→m≤y→y<e→K (d y)<K (d x):=fun x y q1 q2 q3 q4=>by
  have z:=dn (by omega) (by omega)
  have z1:=h1.le (k:=s) (k':=x) as q1 q2
  have z2:=h2.le (k:=y) (k':=e - 1) q3 (by omega) (by omega)
  omega
 have hc:∀ x y,a≤x→x<s→e≤y→y<b→Lx K (d x) (d y):=fun x y q1 q2 q3 q4=>by
  have z:Lx K (d (s - 1)) (d e):=hI.lx (by omega) (by omega) (up (by omega) (by omega))
  have z1:Lx K (d x) (d e):=by
   rcases Nat.lt_or_ge x (s - 1) with c | c
   ·exact (h1 x (s - 1) q1 c (by omega)).trans z
   ·rw[show x=s - 1 by omega];exact z
  rcases Nat.lt_or_ge e y with c | c
  ·exact z1.trans (h2 e y me c q4)
  ·rw[show y=e by omega];exact z1
 refine ⟨hI.rot sm me (by omega) hx, ?_, ?_, ?_, ?_, ?_⟩
 ·exact (h1.mono (Nat.le_refl _) sm).congr fun k q1 q2=>rot_3 (by omega)
 ·intro k k' q1 q2 q3
  rw[rot_1 (by omega),rot_1 (by omega)];exact h2 _ _ (by omega) (by omega) (by omega)
 ·intro k k' q1 q2 q3
  rw[rot_2 (by omega),rot_2 (by omega)];exact h1 _ _ (by omega) (by omega) (by omega)
 ·exact (h2.mono me (Nat.le_refl _)).congr fun k q1 q2=>rot_3 (by omega)
 ·intro x y q1 q2 q3 q4
  by_cases c1:x<s
  ·rw[rot_3 (k:=x) (by omega)]
   by_cases c2:y<e
   ·rw[rot_2 (by omega)];exact h1 _ _ q1 (by omega) (by omega)
   ·rw[rot_3 (by omega)];exact hc _ _ q1 c1 (by omega) q4
  ·rw[rot_1 (k:=x) (by omega)]
   by_cases c2:y<e
   ·rw[rot_2 (by omega)];exact .of (hx _ _ (by omega) (by omega) (by omega) (by omega))
   ·rw[rot_3 (by omega)];exact h2 _ _ (by omega) (by omega) q4
theorem srt_join {a M b:Nat} {d:Nat→Nat} (h1:Srt K a M d) (h2:Srt K M b d) (hx:∀ x y,a≤x→x<M→M≤y→y<b→Lx K (d x) (d y)):Srt K a b d:=fun k k' q1 q2 q3=>by
 by_cases c:k'<M
 ·exact h1 _ _ q1 q2 c
 ·by_cases c2:M≤k
  ·exact h2 _ _ c2 q2 q3
  ·exact hx _ _ q1 (by omega) (by omega) q3
theorem cross_mv {a M b:Nat} {d d':Nat→Nat} (hx:∀ x y,a≤x→x<M→M≤y→y<b→Lx K (d x) (d y)) (h:Mv a M d d'∨Mv M b d d'):∀ x y,a≤x→x<M→M≤y→y<b→Lx K (d' x) (d' y):=fun x y q1 q2 q3 q4=>by
 rcases h with h | h
 ·obtain ⟨x',r1,r2,e⟩:=h.inn x q1 q2
  rw[e,h.out y (by omega)];exact hx _ _ r1 r2 q3 q4
 ·obtain ⟨y',r1,r2,e⟩:=h.inn y q3 q4
  rw[e,h.out x (by omega)];exact hx _ _ q1 q2 r1 r2
end
end
section
abbrev Sg:=Int × Int × Int
def ats (l:List Sg) (i:Nat):Int:=(l.getD i (0,0,0)).1
def vls (l:List Sg) (i:Nat):Int × Int:=(l.getD i (0,0,0)).2
def stepV (t:Int) (acc:Int × Int) (s:Sg):Int × Int:=if s.1≤t then s.2 else acc
def vat (l:List Sg) (t:Int):Int × Int:=l.foldl (stepV t) (0,0)
theorem vat_snoc (l:List Sg) (s:Sg) (t:Int):vat (l++[s]) t=if s.1≤t then s.2 else vat l t:=by
 unfold vat;rw[List.foldl_append];rfl
theorem foldl_gt (t:Int):∀ (r:List Sg) (acc:Int × Int),(∀ s∈r,t<s.1)→r.foldl (stepV t) acc=acc
 | [],_,_=>rfl
 | s :: r, acc, h => by
   have h1:stepV t acc s=acc:=by
    unfold stepV
    have:=h s (by simp)
    rw[if_neg (by omega)]
   rw[List.foldl_cons,h1]
   exact foldl_gt t r acc fun x hx=>h x (by simp[hx])
theorem vat_gt (l r:List Sg) (t:Int) (h:∀ s∈r,t<s.1):vat (l++r) t=vat l t:=by
 unfold vat;rw[List.foldl_append];exact foldl_gt t r _ h
theorem getD_get {α:Type} (l:List α) (i:Nat) (d:α) (h:i<l.length):l.getD i d=l[i]:=by
 rw[List.getD_eq_getElem?_getD,List.getElem?_eq_getElem h];rfl
theorem vat_of {l:List Sg} {t:Int} {n:Nat} (hn:n≤l.length) (h1:n=0∨ats l (n - 1)≤t) (h2:∀ i,n≤i→i<l.length→t<ats l i):vat l t=if n=0 then (0,0) else vls l (n - 1):=by
 have e:l=l.take n++l.drop n:=(List.take_append_drop n l).symm
 have hd:vat l t=vat (l.take n) t:=by
  conv=>lhs;rw[e]
  refine vat_gt _ _ _ fun s hs => ?_
  obtain ⟨i,hi,rfl⟩:=List.getElem_of_mem hs
  rw[List.length_drop] at hi
  rw[List.getElem_drop]
  have:=h2 (n+i) (by omega) (by omega)
  unfold ats at this
  rw[getD_get _ _ _ (by omega)] at this
  exact this
 rw[hd]
 by_cases c:n=0
 ·subst c;simp[vat]
 ·rw[if_neg c]
  have ht:l.take n=l.take (n - 1)++[l[n - 1]]:=by
   have:=List.take_succ_eq_append_getElem (l:=l) (i:=n - 1) (by omega)
   rw[show n - 1+1=n by omega] at this
   exact this
  rw[ht,vat_snoc]
  have h3:=h1.resolve_left c
  unfold ats at h3
  rw[getD_get _ _ _ (by omega)] at h3
  rw[if_pos h3]
  unfold vls
  rw[getD_get _ _ _ (by omega)]
def okT (x:Int):Bool:=decide (-1125899906842624≤x∧x≤1125899906842624)
def okS (s:Sg):Bool:=okT s.1 && okV s.2.1 s.2.2
theorem okT_iff {x:Int}:okT x=true↔(-1125899906842624≤x∧x≤1125899906842624):=by unfold okT;exact decide_eq_true_iff
def cmpr:Int × Int→List Sg→List Sg
 | _,[]=>[]
 | last,[s]=>if s.2=last then [] else [s]
 | last,s :: t :: r=>if t.1=s.1 then cmpr last (t :: r) else if s.2=last then cmpr last (t :: r) else s :: cmpr s.2 (t :: r)
theorem cmpr_mem:∀ (r:List Sg) (last:Int × Int) (x:Sg),x∈cmpr last r→x∈r
 | [],_,_,h=>by simp[cmpr] at h
 | [s], last, x, h => by
   unfold cmpr at h
   split at h
   ·simp at h
   ·exact h
 | s :: t :: r, last, x, h => by
   unfold cmpr at h
   split at h
   ·exact List.mem_cons_of_mem _ (cmpr_mem (t :: r) last x h)
   ·split at h
    ·exact List.mem_cons_of_mem _ (cmpr_mem (t :: r) last x h)
    ·rcases List.mem_cons.1 h with h | h
     ·exact h ▸ List.mem_cons_self
     ·exact List.mem_cons_of_mem _ (cmpr_mem (t :: r) _ x h)
theorem cmpr_len:∀ (r:List Sg) (last:Int × Int),(cmpr last r).length≤r.length
 | [],_=>by simp[cmpr]
 | [s],last=>by unfold cmpr;split<;>simp
 | s :: t :: r, last => by
   have h1:=cmpr_len (t :: r) last
   have h2:=cmpr_len (t :: r) s.2
   unfold cmpr
   simp only[List.length_cons] at *
   split
   ·omega
   ·split
    ·omega
    ·simp only[List.length_cons];omega
def Up (r:List Sg):Prop:=r.Pairwise fun a b=>a.1≤b.1
theorem foldl_c {t:Int} {last:Int × Int} {s:Sg} {r:List Sg}:(s :: r).foldl (stepV t) last=r.foldl (stepV t) (stepV t last s):=rfl
theorem cmpr_val (t:Int):∀ (r:List Sg) (last:Int × Int),Up r→(cmpr last r).foldl (stepV t) last=r.foldl (stepV t) last
 | [],_,_=>rfl
 | [s], last, _ => by
   unfold cmpr
   split
   ·rename_i h
    show last=stepV t last s
    unfold stepV;split
    ·exact h.symm
    ·rfl
   ·rfl
 | s :: u :: r, last, h => by
   have hu:Up (u :: r):=(List.pairwise_cons.1 h).2
   have hs:=(List.pairwise_cons.1 h).1
   unfold cmpr
   split
   ·rename_i e
    rw[cmpr_val t (u :: r) last hu,List.foldl_cons,List.foldl_cons,List.foldl_cons]
    congr 1
    unfold stepV
    rw[e]
    split<;>rfl
   ·rename_i e
    split
    ·rename_i e2
     rw[cmpr_val t (u :: r) last hu,foldl_c (s:=s) (r:=u :: r)]
     congr 1
     unfold stepV
     split
     ·exact e2.symm
     ·rfl
    ·rw[foldl_c (s:=s) (r:=cmpr s.2 (u :: r)),foldl_c (s:=s) (r:=u :: r)]
     by_cases c:s.1≤t
     ·have e3:stepV t last s=s.2:=by unfold stepV;rw[if_pos c]
      rw[e3]
      exact cmpr_val t (u :: r) s.2 hu
     ·have e3:stepV t last s=last:=by unfold stepV;rw[if_neg c]
      rw[e3,foldl_gt t _ _ (fun x hx => ?_),foldl_gt t _ _ (fun x hx => ?_)]
      ·have:=hs x hx;omega
      ·have:=hs x (cmpr_mem _ _ _ hx);omega
def CF:Int × Int→List Sg→Prop
 | _,[]=>True
 | last,s :: r=>okS s=true∧s.2≠last∧(∀ x∈r,s.1<x.1)∧CF s.2 r
theorem cmpr_cf:∀ (r:List Sg) (last:Int × Int),Up r→(∀ x∈r,okS x=true)→CF last (cmpr last r)
 | [],_,_,_=>trivial
 | [s], last, _, ho => by
   unfold cmpr
   split
   ·trivial
   ·rename_i h
    exact ⟨ho s (by simp),h,fun x hx=>by simp at hx,trivial⟩
 | s :: u :: r, last, h, ho => by
   have hu:Up (u :: r):=(List.pairwise_cons.1 h).2
   have hs:=(List.pairwise_cons.1 h).1
   have ho':∀ x∈u :: r,okS x=true:=fun x hx=>ho x (List.mem_cons_of_mem _ hx)
   unfold cmpr
   split
   ·exact cmpr_cf (u :: r) last hu ho'
   ·rename_i e
    split
    ·exact cmpr_cf (u :: r) last hu ho'
    ·rename_i e2
     refine ⟨ho s (by simp),e2,fun x hx => ?_,cmpr_cf (u :: r) s.2 hu ho'⟩
     have h1:=hs u (by simp)
     have hx':=cmpr_mem _ _ _ hx
     rcases List.mem_cons.1 hx' with h2 | h2
     ·rw[h2];omega
     ·have:=(List.pairwise_cons.1 hu).1 x h2
      omega
theorem cf_unique:∀ (f g:List Sg) (last:Int × Int),CF last f→CF last g→(∀ s∈f,g.foldl (stepV s.1) last=s.2)→(∀ s∈g,f.foldl (stepV s.1) last=s.2)→f=g
 | [],[],_,_,_,_,_=>rfl
 | [], s :: r, last, _, hg, _, h2 => by
   have:=h2 s (by simp)
   exact absurd this.symm hg.2.1
 | s :: r, [], last, hf, _, h1, _ => by
   have:=h1 s (by simp)
   exact absurd this.symm hf.2.1
 | s :: r, s' :: r', last, hf, hg, h1, h2 => by
   obtain ⟨_,f2,f3,f4⟩:=hf
   obtain ⟨_,g2,g3,g4⟩:=hg
   have k1:=h1 s (by simp)
   have k2:=h2 s' (by simp)
   have et:s.1=s'.1:=by
    rcases Int.lt_trichotomy s.1 s'.1 with c | c | c
    ·rw[foldl_gt _ _ _ (fun x hx=>by
      rcases List.mem_cons.1 hx with hx | hx
      ·rw[hx];exact c
      ·have:=g3 x hx;omega)] at k1
     exact absurd k1.symm f2
    ·exact c
    ·rw[foldl_gt _ _ _ (fun x hx=>by
      rcases List.mem_cons.1 hx with hx | hx
      ·rw[hx];exact c
      ·have:=f3 x hx;omega)] at k2
     exact absurd k2.symm g2
   have ev:s.2=s'.2:=by
    rw[List.foldl_cons,foldl_gt _ _ _ (fun x hx=>by have:=g3 x hx;omega)] at k1
    unfold stepV at k1
    rw[if_pos (by omega)] at k1
    exact k1.symm
   have es:s=s':=Prod.ext et ev
   subst es
   have:r=r':=cf_unique r r' s.2 f4 g4 (fun x hx=>by
    have:=h1 x (List.mem_cons_of_mem _ hx)
    rw[List.foldl_cons] at this
    have e:stepV x.1 last s=s.2:=by unfold stepV;rw[if_pos (Int.le_of_lt (f3 x hx))]
    rw[e] at this;exact this) (fun x hx=>by
    have:=h2 x (List.mem_cons_of_mem _ hx)
    rw[List.foldl_cons] at this
    have e:stepV x.1 last s=s.2:=by unfold stepV;rw[if_pos (Int.le_of_lt (g3 x hx))]
    rw[e] at this;exact this)
   rw[this]
theorem cf_own:∀ (f:List Sg) (last:Int × Int),CF last f→∀ s∈f,f.foldl (stepV s.1) last=s.2
 | [],_,_,s,hs=>by simp at hs
 | x :: r, last, h, s, hs => by
   obtain ⟨_,_,f3,f4⟩:=h
   rw[List.foldl_cons]
   rcases List.mem_cons.1 hs with e | e
   ·subst e
    rw[foldl_gt _ _ _ (fun y hy=>by have:=f3 y hy;omega)]
    unfold stepV;rw[if_pos (Int.le_refl _)]
   ·have:stepV s.1 last x=x.2:=by unfold stepV;rw[if_pos (Int.le_of_lt (f3 s e))]
    rw[this];exact cf_own r x.2 f4 s e
theorem cf_ext {f g:List Sg} {last:Int × Int} (hf:CF last f) (hg:CF last g) (h:∀ t,f.foldl (stepV t) last=g.foldl (stepV t) last):f=g :=
 cf_unique f g last hf hg (fun s hs=>by rw[←h];exact cf_own f last hf s hs) (fun s hs=>by rw[h];exact cf_own g last hg s hs)
theorem CF.up:∀ {f:List Sg} {last:Int × Int},CF last f→f.Pairwise fun a b=>a.1<b.1
 | [],_,_=>List.Pairwise.nil
 | _ :: _,_,h=>List.pairwise_cons.2 ⟨h.2.2.1,h.2.2.2.up⟩
theorem CF.ok:∀ {f:List Sg} {last:Int × Int},CF last f→∀ x∈f,okS x=true
 | [],_,_,_,hx=>by simp at hx
 | s :: r, _, h, x, hx => by
   rcases List.mem_cons.1 hx with e | e
   ·subst e;exact h.1
   ·exact h.2.2.2.ok x e
def Canon (f:List Sg):Prop:=CF (0,0) f
def rstep (t:Int) (st:(Int × Int) × Int × Bool) (s:Sg):(Int × Int) × Int × Bool:=if s.1≤t∧(st.2.2=false∨st.2.1≤s.1) then (s.2,s.1,true) else st
def rread (l:List Sg) (t:Int):(Int × Int) × Int × Bool:=l.foldl (rstep t) ((0,0),0,false)
def rv (l:List Sg) (t:Int):Int × Int:=(rread l t).1
def Top (l:List Sg) (t:Int) (i:Nat):Prop:=i<l.length∧ats l i≤t∧∀ j,j<l.length→ats l j≤t→ats l j<ats l i∨(ats l j=ats l i∧j≤i)
theorem Top.unique {l:List Sg} {t:Int} {i j:Nat} (h:Top l t i) (h':Top l t j):i=j:=by
 have h1:=h.2.2 j h'.1 h'.2.1
 have h2:=h'.2.2 i h.1 h.2.1
 omega
theorem getD_app_l {l:List Sg} {s:Sg} {i:Nat} (h:i<l.length):(l++[s]).getD i (0,0,0)=l.getD i (0,0,0):=by
 rw[getD_get _ _ _ (by simp;omega),getD_get _ _ _ h,List.getElem_append_left h]
theorem getD_app_r {l:List Sg} {s:Sg}:(l++[s]).getD l.length (0,0,0)=s:=by
 rw[getD_get _ _ _ (by simp),List.getElem_append_right (Nat.le_refl _)];simp
theorem rread_char (t:Int):∀ (n:Nat) (l:List Sg),l.length=n→(rread l t=((0,0),0,false)∧∀ j,j<l.length→t<ats l j)∨∃ i,Top l t i∧rread l t=(vls l i,ats l i,true)
 | 0, l, h => by
   have:l=[]:=List.eq_nil_of_length_eq_zero h
   subst this
   exact .inl ⟨rfl,fun j hj=>by simp at hj⟩
 | n + 1, l, h => by
   obtain ⟨l',s,rfl⟩:∃ l' s,l=l'++[s]:=⟨l.dropLast,l.getLast (by intro e;subst e;simp at h),(List.dropLast_concat_getLast _).symm⟩
   have hl:l'.length=n:=by simp at h;omega
   have ih:=rread_char t n l' hl
   have hr:rread (l'++[s]) t=rstep t (rread l' t) s:=by unfold rread;rw[List.foldl_append];rfl
   have aL:∀ i,i<l'.length→ats (l'++[s]) i=ats l' i:=fun i hi=>by unfold ats;rw[getD_app_l hi]
   have vL:∀ i,i<l'.length→vls (l'++[s]) i=vls l' i:=fun i hi=>by unfold vls;rw[getD_app_l hi]
   have aR:ats (l'++[s]) l'.length=s.1:=by unfold ats;rw[getD_app_r]
   have vR:vls (l'++[s]) l'.length=s.2:=by unfold vls;rw[getD_app_r]
   have hlen:(l'++[s]).length=l'.length+1:=by simp
   rw[hr]
   rcases ih with ⟨e,hgt⟩ | ⟨i,ht,e⟩
   ·rw[e]
    unfold rstep
    by_cases c:s.1≤t
    ·rw[if_pos ⟨c,.inl rfl⟩]
     refine .inr ⟨l'.length,⟨by omega,by rw[aR];exact c,fun j hj hjt => ?_⟩,by rw[vR,aR]⟩
     by_cases hj':j<l'.length
     ·rw[aL j hj'] at hjt
      have:=hgt j hj'
      omega
     ·have:j=l'.length:=by omega
      subst this;omega
    ·rw[if_neg (by intro h;exact c h.1)]
     refine .inl ⟨rfl,fun j hj => ?_⟩
     by_cases hj':j<l'.length
     ·rw[aL j hj'];exact hgt j hj'
     ·have:j=l'.length:=by omega
      subst this;rw[aR];omega
   ·rw[e]
    unfold rstep
    by_cases c:s.1≤t∧ats l' i≤s.1
    ·rw[if_pos ⟨c.1,.inr c.2⟩]
     refine .inr ⟨l'.length,⟨by omega,by rw[aR];exact c.1,fun j hj hjt => ?_⟩,by rw[vR,aR]⟩
     by_cases hj':j<l'.length
     ·rw[aL j hj'] at hjt ⊢
      have:=ht.2.2 j hj' hjt
      rw[aR];omega
     ·have:j=l'.length:=by omega
      subst this;omega
    ·rw[if_neg (by
      rintro ⟨h1,h2⟩
      rcases h2 with h2 | h2
      ·exact Bool.noConfusion h2
      ·exact c ⟨h1,h2⟩)]
     refine .inr ⟨i,⟨by have:=ht.1;omega,by rw[aL i ht.1];exact ht.2.1,fun j hj hjt => ?_⟩,by rw[vL i ht.1,aL i ht.1]⟩
     rw[aL i ht.1]
     by_cases hj':j<l'.length
     ·rw[aL j hj'] at hjt ⊢
      exact ht.2.2 j hj' hjt
     ·have:j=l'.length:=by omega
      subst this
      rw[aR] at hjt ⊢
      omega
def ordL (l:List Sg) (d:Nat→Nat):List Sg:=(List.range l.length).map fun k=>l.getD (d k) (0,0,0)
theorem ordL_len (l:List Sg) (d:Nat→Nat):(ordL l d).length=l.length:=by simp[ordL]
theorem ordL_get {l:List Sg} {d:Nat→Nat} {k:Nat} (h:k<l.length):(ordL l d).getD k (0,0,0)=l.getD (d k) (0,0,0):=by
 rw[getD_get _ _ _ (by rw[ordL_len];exact h)];simp[ordL]
theorem ordL_ats {l:List Sg} {d:Nat→Nat} {k:Nat} (h:k<l.length):ats (ordL l d) k=ats l (d k):=by unfold ats;rw[ordL_get h]
theorem ordL_vls {l:List Sg} {d:Nat→Nat} {k:Nat} (h:k<l.length):vls (ordL l d) k=vls l (d k):=by unfold vls;rw[ordL_get h]
theorem cutAt (l:List Sg) (t:Int):∀ N,N≤l.length→∃ m,m≤N∧(m=0∨ats l (m - 1)≤t)∧∀ i,m≤i→i<N→t<ats l i
 | 0,_=>⟨0,Nat.le_refl _,.inl rfl,fun i _ h=>by omega⟩
 | N + 1, h => by
   obtain ⟨m,h1,h2,h3⟩:=cutAt l t N (by omega)
   by_cases c:ats l N≤t
   ·exact ⟨N+1,Nat.le_refl _,.inr (by rw[Nat.add_sub_cancel];exact c),fun i _ h=>by omega⟩
   ·refine ⟨m,by omega,h2,fun i q1 q2 => ?_⟩
    by_cases e:i=N
    ·rw[e];omega
    ·exact h3 i q1 (by omega)
theorem ordL_val {l:List Sg} {d:Nat→Nat} (hm:Mv 0 l.length id d) (hs:Srt (ats l) 0 l.length d) (t:Int):vat (ordL l d) t=rv l t:=by
 obtain ⟨m,h1,h2,h3⟩:=cutAt (ordL l d) t _ (Nat.le_refl _)
 rw[vat_of h1 h2 h3]
 rw[ordL_len] at h1 h3
 have hok:∀ k,k<l.length→d k<l.length:=fun k hk=>by
  obtain ⟨k',_,q2,e⟩:=hm.inn k (Nat.zero_le _) hk
  rw[e];exact q2
 rcases rread_char t _ l rfl with ⟨e,hgt⟩ | ⟨i,ht,e⟩
 ·unfold rv;rw[e]
  by_cases c:m=0
  ·rw[if_pos c]
  ·have q:=h2.resolve_left c
   rw[ordL_ats (by omega)] at q
   have:=hgt _ (hok (m - 1) (by omega))
   omega
 ·unfold rv;rw[e]
  have hback:=hm.back i (Nat.zero_le _) ht.1
  obtain ⟨k,_,hk,ek⟩:=hback
  simp only[id] at ek
  have hkm:k<m:=by
   rcases Nat.lt_or_ge k m with c | c
   ·exact c
   ·have:=h3 k c hk
    rw[ordL_ats hk,←ek] at this
    have:=ht.2.1
    omega
  have c:m≠0:=by omega
  rw[if_neg c,ordL_vls (by omega)]
  have q:=h2.resolve_left c
  rw[ordL_ats (by omega)] at q
  have htop:Top l t (d (m - 1)):=by
   refine ⟨hok _ (by omega),q,fun j hj hjt => ?_⟩
   obtain ⟨k',_,hk',ek'⟩:=hm.back j (Nat.zero_le _) hj
   simp only[id] at ek'
   have hk'm:k'<m:=by
    rcases Nat.lt_or_ge k' m with c | c
    ·exact c
    ·have:=h3 k' c hk'
     rw[ordL_ats hk',←ek'] at this
     omega
   rw[ek']
   by_cases e2:k'=m - 1
   ·rw[e2];omega
   ·have:=hs k' (m - 1) (Nat.zero_le _) (by omega) (by omega)
    unfold Lx at this
    omega
  rw[ht.unique htop]
theorem ordL_up {l:List Sg} {d:Nat→Nat} (hs:Srt (ats l) 0 l.length d):Up (ordL l d):=by
 unfold Up
 rw[List.pairwise_iff_getElem]
 intro i j hi hj hij
 rw[ordL_len] at hi hj
 have h1:=hs.le (Nat.zero_le i) (Nat.le_of_lt hij) hj
 have e1:=ordL_ats (l:=l) (d:=d) hi
 have e2:=ordL_ats (l:=l) (d:=d) hj
 unfold ats at e1 e2
 rw[getD_get _ _ _ (by rw[ordL_len];exact hi)] at e1
 rw[getD_get _ _ _ (by rw[ordL_len];exact hj)] at e2
 rw[e1,e2];exact h1
theorem ordL_ok {l:List Sg} {d:Nat→Nat} (hm:Mv 0 l.length id d) (ho:∀ x∈l,okS x=true):∀ x∈ordL l d,okS x=true:=by
 intro x hx
 unfold ordL at hx
 rw[List.mem_map] at hx
 obtain ⟨k,hk,rfl⟩:=hx
 rw[List.mem_range] at hk
 obtain ⟨k',_,q2,e⟩:=hm.inn k (Nat.zero_le _) hk
 rw[e,id,getD_get _ _ _ q2]
 exact ho _ (List.getElem_mem q2)
def IsOf (l f:List Sg):Prop:=Canon f∧(∀ t,vat f t=rv l t)∧f.length≤l.length
theorem isOf_cmpr {l:List Sg} {d:Nat→Nat} (hm:Mv 0 l.length id d) (hs:Srt (ats l) 0 l.length d) (ho:∀ x∈l,okS x=true):IsOf l (cmpr (0,0) (ordL l d)):=by
 refine ⟨cmpr_cf _ _ (ordL_up hs) (ordL_ok hm ho),fun t => ?_, ?_⟩
 ·have:=cmpr_val t (ordL l d) (0,0) (ordL_up hs)
  unfold vat
  rw[this]
  exact ordL_val hm hs t
 ·have:=cmpr_len (ordL l d) (0,0)
  rw[ordL_len] at this;exact this
def okAt (last:Int × Int) (l:List Sg) (i:Nat):Bool:=okS (l.getD i (0,0,0)) && !(vls l i == (if i=0 then last else vls l (i - 1))) && (decide (i=0) || decide (ats l (i - 1)<ats l i))
theorem okAt_succ (last:Int × Int) (s:Sg) (r:List Sg) (i:Nat):okAt last (s :: r) (i+1)=true↔okAt s.2 r i=true∧(i=0→s.1<ats r 0):=by
 unfold okAt
 cases i with
 | zero=>simp[ats,vls]
 | succ i=>simp[ats,vls]
theorem cf_okAt:∀ (l:List Sg) (last:Int × Int),CF last l↔∀ i,i<l.length→okAt last l i=true
 | [],_=>⟨fun _ i h=>by simp at h,fun _=>trivial⟩
 | s :: r, last => by
   have ih:=cf_okAt r s.2
   constructor
   ·rintro ⟨a1,a2,a3,a4⟩ i hi
    cases i with
    | zero=>unfold okAt;simp[vls,a1,a2]
    | succ i =>
     rw[okAt_succ]
     have hi':i<r.length:=by simpa using hi
     refine ⟨ih.1 a4 i hi',fun e => ?_⟩
     subst e
     unfold ats
     rw[getD_get _ _ _ hi']
     exact a3 _ (List.getElem_mem hi')
   ·intro h
    have h0:=h 0 (by simp)
    unfold okAt at h0
    simp[vls] at h0
    have hr:CF s.2 r:=ih.2 fun i hi=>((okAt_succ last s r i).1 (h (i+1) (by simp;omega))).1
    refine ⟨h0.1,h0.2,fun x hx => ?_,hr⟩
    cases r with
    | nil=>simp at hx
    | cons u r' =>
     have h1:=((okAt_succ last s (u :: r') 0).1 (h 1 (by simp))).2 rfl
     simp[ats] at h1
     rcases List.mem_cons.1 hx with e | e
     ·rw[e];exact h1
     ·have:=hr.2.2.1 x e
      omega
def mayB (l:List Sg):Bool:=(List.range l.length).all fun i=>okAt (0,0) l i
theorem mayB_iff {l:List Sg}:mayB l=true↔Canon l:=by
 unfold mayB Canon
 rw[cf_okAt,List.all_eq_true]
 simp only[List.mem_range]
theorem mayB_bad {l:List Sg} {i:Nat} (hi:i<l.length) (h:okAt (0,0) l i=false):mayB l=false:=by
 unfold mayB
 rw[List.all_eq_false]
 exact ⟨i,by simpa using hi,by rw[h];exact Bool.false_ne_true⟩
theorem mayB_good {l:List Sg} (h:∀ i,i<l.length→okAt (0,0) l i=true):mayB l=true:=by
 unfold mayB
 rw[List.all_eq_true]
 intro i hi
 exact h i (by simpa using hi)
def prevV (l:List Sg) (i:Nat):Int × Int:=if i=0 then (0,0) else vls l (i - 1)
theorem prevV_succ (l:List Sg) (i:Nat):prevV l (i+1)=vls l i:=by unfold prevV;rw[if_neg (by omega),Nat.add_sub_cancel]
def lastV (f:List Sg):Int × Int:=if f.length=0 then (0,0) else vls f (f.length - 1)
def withL (f:List Sg) (t:Int) (v:Int × Int):List Sg:=if v=lastV f then f else f++[(t,v)]
def insT (x:Int):List Int→List Int
 | []=>[x]
 | y :: r=>if y<x then y :: insT x r else if y=x then y :: r else x :: y :: r
def timesL (l:List Int):List Int:=l.foldl (fun o x=>insT x o) []
theorem insT_at {x:Int}:∀ {o:List Int} {k:Nat},k≤o.length→(∀ i,i<k→o.getD i 0<x)→(k<o.length→¬ o.getD k 0<x) →
  insT x o=if k<o.length∧o.getD k 0=x then o else o.take k++x :: o.drop k
 | [], k, hk, _, _ => by
   have:k=0:=by simp at hk;exact hk
   subst this
   simp[insT]
 | y :: r, 0, _, _, h2 => by
   have h:=h2 (by simp)
   simp at h
   unfold insT
   rw[if_neg (by omega)]
   by_cases e:y=x
   ·rw[if_pos e,if_pos ⟨by simp,by simpa using e⟩]
   ·rw[if_neg e,if_neg (by intro q;exact e (by simpa using q.2))]
    rfl
 | y :: r, k + 1, hk, h1, h2 => by
   have h:=h1 0 (by omega)
   simp at h
   unfold insT
   rw[if_pos h]
   have ih:=insT_at (x:=x) (o:=r) (k:=k) (by simp at hk;omega) (fun i hi=>by have:=h1 (i+1) (by omega);simpa using this) (fun hk'=>by have:=h2 (by simp;omega);simpa using this)
   rw[ih]
   by_cases c:k<r.length∧r.getD k 0=x
   ·rw[if_pos c,if_pos ⟨by simp;omega,by simpa using c.2⟩]
   ·rw[if_neg c,if_neg (by intro q;exact c ⟨by simp at q;omega,by simpa using q.2⟩)]
    rfl
theorem insT_mem {x y:Int}:∀ {o:List Int},y∈insT x o↔y=x∨y∈o
 | []=>by simp[insT]
 | z :: r => by
   unfold insT
   split
   ·rw[List.mem_cons,insT_mem (o:=r),List.mem_cons]
    constructor
    ·rintro (h | h | h)
     ·exact .inr (.inl h)
     ·exact .inl h
     ·exact .inr (.inr h)
    ·rintro (h | h | h)
     ·exact .inr (.inl h)
     ·exact .inl h
     ·exact .inr (.inr h)
   ·split
    ·rename_i e
     rw[List.mem_cons]
     constructor
     ·rintro (h | h)
      ·exact .inl (h.trans e)
      ·exact .inr (.inr h)
     ·rintro (h | h)
      ·exact .inl (h.trans e.symm)
      ·exact h
    ·rw[List.mem_cons]
theorem insT_up {x:Int}:∀ {o:List Int},o.Pairwise (·<·)→(insT x o).Pairwise (·<·)
 | [],_=>by simp[insT]
 | z :: r, h => by
   have hz:=List.pairwise_cons.1 h
   unfold insT
   split
   ·rename_i c
    refine List.pairwise_cons.2 ⟨fun y hy => ?_,insT_up hz.2⟩
    rcases insT_mem.1 hy with e | e
    ·rw[e];exact c
    ·exact hz.1 y e
   ·split
    ·exact h
    ·rename_i c1 c2
     refine List.pairwise_cons.2 ⟨fun y hy => ?_,h⟩
     rcases List.mem_cons.1 hy with e | e
     ·rw[e];omega
     ·have:=hz.1 y e;omega
theorem insT_len {x:Int}:∀ {o:List Int},(insT x o).length≤o.length+1
 | []=>by simp[insT]
 | z :: r => by
   unfold insT
   split
   ·have:=insT_len (x:=x) (o:=r)
    simp only[List.length_cons];omega
   ·split<;>simp
theorem times_aux:∀ (l o:List Int),o.Pairwise (·<·)→(l.foldl (fun o x=>insT x o) o).Pairwise (·<·)∧(∀ y,y∈l.foldl (fun o x=>insT x o) o↔y∈l∨y∈o)∧(l.foldl (fun o x=>insT x o) o).length≤l.length+o.length
 | [],o,h=>⟨h,fun y=>by simp,by simp⟩
 | x :: l, o, h => by
   obtain ⟨h1,h2,h3⟩:=times_aux l (insT x o) (insT_up h)
   refine ⟨h1,fun y => ?_, ?_⟩
   ·rw[List.foldl_cons,h2,insT_mem,List.mem_cons]
    constructor
    ·rintro (h | h | h)
     ·exact .inl (.inr h)
     ·exact .inl (.inl h)
     ·exact .inr h
    ·rintro ((h | h) | h)
     ·exact .inr (.inl h)
     ·exact .inl h
     ·exact .inr (.inr h)
   ·have:=insT_len (x:=x) (o:=o)
    rw[List.foldl_cons]
    simp only[List.length_cons];omega
theorem timesL_up (l:List Int):(timesL l).Pairwise (·<·):=(times_aux l [] List.Pairwise.nil).1
theorem timesL_mem {l:List Int} {y:Int}:y∈timesL l↔y∈l:=by
 have:=(times_aux l [] List.Pairwise.nil).2.1 y
 unfold timesL;rw[this];simp
theorem timesL_len (l:List Int):(timesL l).length≤l.length:=by
 have:=(times_aux l [] List.Pairwise.nil).2.2
 unfold timesL;simpa using this
theorem timesL_step {l:List Int} {k:Nat} (h:k<l.length):timesL (l.take (k+1))=insT (l.getD k 0) (timesL (l.take k)):=by
 unfold timesL
 rw[List.take_succ_eq_append_getElem h,List.foldl_append,getD_get _ _ _ h];rfl
def buildL (g:Int→Int × Int) (ts:List Int):List Sg:=ts.foldl (fun f t=>withL f t (g t)) []
theorem buildL_snoc (g:Int→Int × Int) (ts:List Int) (t:Int):buildL g (ts++[t])=withL (buildL g ts) t (g t):=by unfold buildL;rw[List.foldl_append];rfl
def gval (g:Int→Int × Int) (ts:List Int) (t:Int):Int × Int:=ts.foldl (fun acc t'=>if t'≤t then g t' else acc) (0,0)
theorem gval_snoc (g:Int→Int × Int) (ts:List Int) (t t0:Int):gval g (ts++[t0]) t=if t0≤t then g t0 else gval g ts t:=by unfold gval;rw[List.foldl_append];rfl
theorem cf_snoc:∀ {f:List Sg} {last:Int × Int} {t:Int} {v:Int × Int},CF last f→(∀ x∈f,x.1<t)→okS (t,v)=true→v≠(if f=[] then last else lastV f)→CF last (f++[(t,v)])
 | [],last,t,v,_,_,h3,h4=>⟨h3,by rw[if_pos rfl] at h4;exact h4,fun x hx=>by simp at hx,trivial⟩
 | s :: r, last, t, v, h1, h2, h3, h4 => by
   obtain ⟨a1,a2,a3,a4⟩:=h1
   refine ⟨a1,a2,fun x hx => ?_,cf_snoc a4 (fun x hx=>h2 x (List.mem_cons_of_mem _ hx)) h3 ?_⟩
   ·rcases List.mem_append.1 hx with h | h
    ·exact a3 x h
    ·simp at h;subst h;exact h2 s (by simp)
   ·rw[if_neg (by simp)] at h4
    unfold lastV at h4
    rw[if_neg (by simp)] at h4
    cases r with
    | nil=>simpa [vls] using h4
    | cons u r' =>
     rw[if_neg (by simp)]
     unfold lastV
     rw[if_neg (by simp)]
     simpa [vls] using h4
theorem lastV_snoc (f:List Sg) (s:Sg):lastV (f++[s])=s.2:=by
 unfold lastV vls
 rw[if_neg (by simp)]
 have e:(f++[s]).length - 1=f.length:=by simp
 rw[e,getD_app_r]
theorem vat_all:∀ (n:Nat) (f:List Sg) (t:Int),f.length=n→(∀ x∈f,x.1≤t)→vat f t=lastV f
 | 0, f, t, h, _ => by
   have:f=[]:=List.eq_nil_of_length_eq_zero h
   subst this;rfl
 | n + 1, f, t, h, hx => by
   obtain ⟨f',s,rfl⟩:∃ l' s,f=l'++[s]:=⟨f.dropLast,f.getLast (by intro e;subst e;simp at h),(List.dropLast_concat_getLast _).symm⟩
   rw[vat_snoc,lastV_snoc,if_pos (hx s (by simp))]
theorem buildL_all (g:Int→Int × Int):∀ (n:Nat) (ts:List Int),ts.length=n→ts.Pairwise (·<·)→(∀ t∈ts,okS (t,g t)=true) →
  CF (0,0) (buildL g ts)∧(∀ x∈buildL g ts,x.1∈ts)∧(∀ t,vat (buildL g ts) t=gval g ts t)∧(buildL g ts).length≤ts.length
 | 0, ts, h, _, _ => by
   have:ts=[]:=List.eq_nil_of_length_eq_zero h
   subst this
   exact ⟨trivial,fun x hx=>by simp[buildL] at hx,fun t=>rfl,Nat.le_refl _⟩
 | n + 1, ts, h, hu, ho => by
   obtain ⟨ts',t0,rfl⟩:∃ l' s,ts=l'++[s]:=⟨ts.dropLast,ts.getLast (by intro e;subst e;simp at h),(List.dropLast_concat_getLast _).symm⟩
   have hu':=List.pairwise_append.1 hu
   obtain ⟨i1,i2,i3,i4⟩:=buildL_all g n ts' (by simp at h;omega) hu'.1 (fun t ht=>ho t (by simp[ht]))
   have hlt:∀ x∈buildL g ts',x.1<t0:=fun x hx=>hu'.2.2 x.1 (i2 x hx) t0 (by simp)
   rw[buildL_snoc]
   unfold withL
   by_cases c:g t0=lastV (buildL g ts')
   ·rw[if_pos c]
    refine ⟨i1,fun x hx=>by simp[i2 x hx],fun t => ?_,by simp;omega⟩
    rw[gval_snoc]
    by_cases k:t0≤t
    ·rw[if_pos k,c]
     exact vat_all _ _ t rfl (fun x hx=>by have:=hlt x hx;omega)
    ·rw[if_neg k];exact i3 t
   ·rw[if_neg c]
    refine ⟨cf_snoc i1 hlt (ho t0 (by simp)) ?_,fun x hx => ?_,fun t => ?_,by simp;omega⟩
    ·split
     ·rename_i e
      rw[e] at c;exact c
     ·exact c
    ·rcases List.mem_append.1 hx with q | q
     ·simp[i2 x q]
     ·simp at q;subst q;simp
    ·rw[vat_snoc,gval_snoc,i3]
theorem gval_none {g:Int→Int × Int} {t:Int}:∀ (n:Nat) (ts:List Int),ts.length=n→(∀ x∈ts,t<x)→gval g ts t=(0,0)
 | 0, ts, h, _ => by
   have:ts=[]:=List.eq_nil_of_length_eq_zero h
   subst this;rfl
 | n + 1, ts, h, hx => by
   obtain ⟨ts',t0,rfl⟩:∃ l' s,ts=l'++[s]:=⟨ts.dropLast,ts.getLast (by intro e;subst e;simp at h),(List.dropLast_concat_getLast _).symm⟩
   have:=hx t0 (by simp)
   rw[gval_snoc,if_neg (by omega)]
   exact gval_none n ts' (by simp at h;omega) fun x hx'=>hx x (by simp[hx'])
theorem gval_some {g:Int→Int × Int} {t s:Int}:∀ (n:Nat) (ts:List Int),ts.length=n→ts.Pairwise (·<·)→s∈ts→s≤t→(∀ x∈ts,x≤t→x≤s)→gval g ts t=g s
 | 0, ts, h, _, hm, _, _ => by
   have:ts=[]:=List.eq_nil_of_length_eq_zero h
   subst this;simp at hm
 | n + 1, ts, h, hu, hm, hs, hx => by
   obtain ⟨ts',t0,rfl⟩:∃ l' s,ts=l'++[s]:=⟨ts.dropLast,ts.getLast (by intro e;subst e;simp at h),(List.dropLast_concat_getLast _).symm⟩
   have hu':=List.pairwise_append.1 hu
   rw[gval_snoc]
   rcases List.mem_append.1 hm with q | q
   ·have h1:=hu'.2.2 s q t0 (by simp)
    have h2:¬ t0≤t:=fun h2=>by have:=hx t0 (by simp) h2;omega
    rw[if_neg h2]
    exact gval_some n ts' (by simp at h;omega) hu'.1 q hs fun x hx'=>hx x (by simp[hx'])
   ·simp at q;subst q
    rw[if_pos hs]
end
end Go.Proofs.YtcmponckjkalaaaGreat
