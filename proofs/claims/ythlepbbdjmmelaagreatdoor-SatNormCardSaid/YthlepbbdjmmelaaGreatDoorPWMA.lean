/- Parts, and forests of parts: their number, their depth, their list. No program. No conditions. What the functions of package vec come to, as plain functions of integers, and the facts on them. No conditions. Arrangements of a row by a key, as functions of places: what insertions, rotations and merges come to. No program. No conditions. Step functions as lists of runs: .. -/
import Derived.WalkKit
namespace Go.Proofs.YthlepbbdjmmelaaGreatDoor
section
structure Prt where
  kind:Nat
  n:Nat
  g:Nat
  d:Int
  kids:Int
deriving DecidableEq
inductive Fst where
  | nil:Fst
  | cons (x:Prt) (kids next:Fst):Fst
def Fst.len:Fst→Nat
  | .nil => 0
  | .cons _ _ next => next.len + 1
def Fst.size:Fst→Nat
  | .nil => 0
  | .cons _ kids next => kids.size + next.size + 1
def Fst.depth:Fst→Nat
  | .nil => 0
  | .cons _ kids next => max (kids.depth + 1) next.depth
def Fst.flat:Fst→List Prt
  | .nil => []
  | .cons x kids next => { x with kids:=kids.len } :: (kids.flat ++ next.flat)
theorem flat_len:∀ F:Fst,F.flat.length = F.size
  | .nil => rfl
  | .cons x kids next => by simp only [Fst.flat,Fst.size,List.length_cons,List.length_append,flat_len kids,flat_len next]
theorem len_size:∀ F:Fst,F.len≤F.size
  | .nil => Nat.le_refl _
  | .cons x kids next => by simp only [Fst.len,Fst.size];have:=len_size next;omega
def PrtW (x:Prt):Prop:=x.kind≤255∧x.n≤4294967295∧x.g≤4294967295∧(-9223372036854775808≤x.d∧x.d≤9223372036854775807) ∧ -9223372036854775808≤x.kids∧x.kids≤9223372036854775807
end
section
def okV (x y:Int):Bool:=decide (-1125899906842624≤x∧x≤1125899906842624 ∧ -1125899906842624≤y∧y≤1125899906842624)
def leB (a b c d:Int):Bool:=decide (a≤c∧b≤d)
def mn (a b:Int):Int:=if a≤b then a else b
def mx (a b:Int):Int:=if a≤b then b else a
def gate (b:Bool) (x y:Int):Int × Int × Int:=if b then (x,y,0) else (0,0,10)
def addS (a b c d:Int):Int × Int × Int:=gate (okV a b && okV c d && okV (a + c) (b + d)) (a + c) (b + d)
def subS (a b c d:Int):Int × Int × Int:=gate (okV a b && okV c d && okV (a - c) (b - d)) (a - c) (b - d)
theorem okV_iff {x y:Int}:okV x y = true ↔ (-1125899906842624≤x∧x≤1125899906842624 ∧ -1125899906842624≤y∧y≤1125899906842624):=by
  unfold okV;exact decide_eq_true_iff
theorem okV_parts (a b:Int):(leB (-1125899906842624) (-1125899906842624) a b && leB a b 1125899906842624 1125899906842624) = okV a b:=by
  unfold leB okV
  rw [Bool.eq_iff_iff]
  simp only [Bool.and_eq_true,decide_eq_true_eq]
  omega
theorem gate_true {b:Bool} {x y:Int} (h:b = true):gate b x y = (x,y,0):=by unfold gate;rw [if_pos h]
theorem gate_false {b:Bool} {x y:Int} (h:b = false):gate b x y = (0,0,10):=by unfold gate;rw [h];rfl
abbrev V (m c:Int):Value := .agg #[.int .i64 m,.int .i64 c]
abbrev VE (g:Int × Int × Int):Value := .tuple #[V g.1 g.2.1,.int .i64 g.2.2]
theorem gate_no {a b c:Bool} {x y:Int} (h:(a && b) = false):gate (a && b && c) x y = (0,0,10):=by rw [h];rfl
end
section
def sw (d:Nat→Nat) (i j:Nat):Nat→Nat:=fun k => if k = i then d j else if k = j then d i else d k
theorem sw_l (d:Nat→Nat) (i j:Nat):sw d i j i = d j:=by unfold sw;rw [if_pos rfl]
theorem sw_r (d:Nat→Nat) (i j:Nat):sw d i j j = d i:=by
  unfold sw
  by_cases h:j = i
  · rw [if_pos h,h]
  · rw [if_neg h,if_pos rfl]
theorem sw_o (d:Nat→Nat) (i j k:Nat) (h1:k ≠ i) (h2:k ≠ j):sw d i j k = d k:=by unfold sw;rw [if_neg h1,if_neg h2]
def Mv (a b:Nat) (d d':Nat→Nat):Prop :=
  ∃ p q:Nat→Nat,(∀ k,d' k = d (p k))∧(∀ k,p (q k) = k)∧(∀ k,q (p k) = k)∧(∀ k,(k < a ∨ b≤k)→p k = k)
theorem Mv.refl (a b:Nat) (d:Nat→Nat):Mv a b d d:=⟨id,id,fun _ => rfl,fun _ => rfl,fun _ => rfl,fun _ _ => rfl⟩
theorem Mv.trans {a b:Nat} {d d' d'':Nat→Nat} (h:Mv a b d d') (h':Mv a b d' d''):Mv a b d d'':=by
  obtain ⟨p,q,h1,h2,h3,h4⟩:=h
  obtain ⟨p',q',g1,g2,g3,g4⟩:=h'
  exact ⟨fun k => p (p' k),fun k => q' (q k),fun k => by rw [g1,h1],fun k => by simp only [g2,h2],fun k => by simp only [h3,g3],fun k hk => by show p (p' k) = k;rw [g4 k hk,h4 k hk]⟩
theorem Mv.mono {a b a' b':Nat} {d d':Nat→Nat} (h:Mv a b d d') (ha:a'≤a) (hb:b≤b'):Mv a' b' d d':=by
  obtain ⟨p,q,h1,h2,h3,h4⟩:=h
  exact ⟨p,q,h1,h2,h3,fun k hk => h4 k (by omega)⟩
theorem Mv.out {a b:Nat} {d d':Nat→Nat} (h:Mv a b d d') (k:Nat) (hk:k < a ∨ b≤k):d' k = d k:=by
  obtain ⟨p,q,h1,_,_,h4⟩:=h
  rw [h1,h4 k hk]
theorem Mv.inn {a b:Nat} {d d':Nat→Nat} (h:Mv a b d d') (k:Nat) (h0:a≤k) (h1:k < b):∃ k',a≤k'∧k' < b∧d' k = d k':=by
  obtain ⟨p,q,g1,g2,g3,g4⟩:=h
  refine ⟨p k, ?_⟩
  by_cases hp:p k < a ∨ b≤p k
  · have e:=g4 _ hp
    have e2:p k = k:=by
      have:=congrArg q e
      rw [g3,g3] at this;exact this
    omega
  · exact ⟨by omega,by omega,g1 k⟩
theorem Mv.back {a b:Nat} {d d':Nat→Nat} (h:Mv a b d d') (k:Nat) (h0:a≤k) (h1:k < b):∃ k',a≤k'∧k' < b∧d k = d' k':=by
  obtain ⟨p,q,g1,g2,g3,g4⟩:=h
  refine ⟨q k, ?_⟩
  have e:d k = d' (q k):=by rw [g1,g2]
  by_cases hp:q k < a ∨ b≤q k
  · have e2:=g4 _ hp
    rw [g2] at e2
    omega
  · exact ⟨by omega,by omega,e⟩
theorem Mv.swap {a b:Nat} (d:Nat→Nat) (i j:Nat) (hi:a≤i∧i < b) (hj:a≤j∧j < b):Mv a b d (sw d i j):=by
  have hp:∀ k,(fun k => if k = i then j else if k = j then i else k) ((fun k => if k = i then j else if k = j then i else k) k) = k:=by
    intro k
    show (if (if k = i then j else if k = j then i else k) = i then j else if (if k = i then j else if k = j then i else k) = j then i else (if k = i then j else if k = j then i else k)) = k
    by_cases h1:k = i
    · simp [h1]
    · by_cases h2:k = j
      · subst h2;simp [h1]
      · simp [h1,h2]
  refine ⟨fun k => if k = i then j else if k = j then i else k,fun k => if k = i then j else if k = j then i else k, ?_,hp,hp, ?_⟩
  · intro k
    unfold sw
    by_cases h1:k = i
    · simp only [h1,if_true]
    · by_cases h2:k = j
      · simp only [h2,if_true]
        by_cases h3:j = i
        · rw [if_pos h3,if_pos h3,h3]
        · rw [if_neg h3,if_neg h3]
      · simp only [h1,h2,if_false]
  · intro k hk
    show (if k = i then j else if k = j then i else k) = k
    rw [if_neg (by omega),if_neg (by omega)]
section
variable (K:Nat→Int)
def Lx (x y:Nat):Prop:=K x < K y ∨ (K x = K y∧x < y)
def Inv (n:Nat) (d:Nat→Nat):Prop:=∀ k k',k < k'→k' < n→K (d k) ≠ K (d k') ∨ d k < d k'
def Srt (a b:Nat) (d:Nat→Nat):Prop:=∀ k k',a≤k→k < k'→k' < b→Lx K (d k) (d k')
variable {K}
theorem Lx.trans {x y z:Nat} (h:Lx K x y) (h':Lx K y z):Lx K x z:=by unfold Lx at *;omega
theorem Lx.of {x y:Nat} (h:K x < K y):Lx K x y:=Or.inl h
theorem Lx.le {x y:Nat} (h:Lx K x y):K x≤K y:=by unfold Lx at h;omega
theorem Inv.lx {n:Nat} {d:Nat→Nat} (h:Inv K n d) {k k':Nat} (h1:k < k') (h2:k' < n) (h3:¬ K (d k') < K (d k)):Lx K (d k) (d k'):=by
  have:=h k k' h1 h2
  unfold Lx;omega
theorem Srt.mono {a b a' b':Nat} {d:Nat→Nat} (h:Srt K a b d) (ha:a≤a') (hb:b'≤b):Srt K a' b' d:=fun k k' h1 h2 h3 => h k k' (by omega) h2 (by omega)
theorem Srt.congr {a b:Nat} {d d':Nat→Nat} (h:Srt K a b d) (e:∀ k,a≤k→k < b→d' k = d k):Srt K a b d':=fun k k' h1 h2 h3 => by
  rw [e k h1 (by omega),e k' (by omega) h3];exact h k k' h1 h2 h3
theorem Srt.le {a b:Nat} {d:Nat→Nat} (h:Srt K a b d) {k k':Nat} (h1:a≤k) (h2:k≤k') (h3:k' < b):K (d k)≤K (d k'):=by
  rcases Nat.lt_or_ge k k' with h4 | h4
  · exact (h k k' h1 h4 h3).le
  · have:k = k':=by omega
    subst this;exact Int.le_refl _
theorem srt_one (a b:Nat) (d:Nat→Nat) (h:b≤a + 1):Srt K a b d:=fun k k' h1 h2 h3 => by omega
theorem Inv.swap {n:Nat} {d:Nat→Nat} (h:Inv K n d) (j:Nat) (hj:j + 1 < n) (hk:K (d (j + 1)) < K (d j)):Inv K n (sw d j (j + 1)):=by
  intro k k' h1 h2
  by_cases e1:k = j
  · subst e1
    rw [sw_l]
    by_cases e2:k' = k + 1
    · subst e2;rw [sw_r];omega
    · rw [sw_o _ _ _ _ (by omega) e2];exact h _ _ (by omega) h2
  · by_cases e2:k = j + 1
    · subst e2
      rw [sw_r,sw_o _ _ _ _ (by omega) (by omega)];exact h _ _ (by omega) h2
    · rw [sw_o _ _ _ k e1 e2]
      by_cases e3:k' = j
      · subst e3;rw [sw_l];exact h _ _ (by omega) (by omega)
      · by_cases e4:k' = j + 1
        · subst e4;rw [sw_r];exact h _ _ (by omega) (by omega)
        · rw [sw_o _ _ _ _ e3 e4];exact h _ _ h1 h2
theorem Inv.swap' {n:Nat} {d:Nat→Nat} (h:Inv K n d) (j:Nat) (hj:j + 1 < n) (hk:K (d (j + 1)) < K (d j)):Inv K n (sw d (j + 1) j):=by
  have e:sw d (j + 1) j = sw d j (j + 1):=by
    funext k;unfold sw
    by_cases h1:k = j
    · subst h1;simp
    · simp [h1]
  rw [e];exact h.swap j hj hk
def InsR (K:Nat→Int) (a i j:Nat) (d:Nat→Nat):Prop:=∀ k k',a≤k→k < k'→k'≤i→k' ≠ j→Lx K (d k) (d k')
theorem InsR.start {a i:Nat} {d:Nat→Nat} (h:Srt K a i d):InsR K a i i d:=fun k k' h1 h2 h3 h4 => h k k' h1 h2 (by omega)
theorem InsR.step {a i j:Nat} {d:Nat→Nat} (h:InsR K a i (j + 1) d) (ha:a≤j) (hj:j + 1≤i) (hk:K (d (j + 1)) < K (d j)):InsR K a i j (sw d (j + 1) j):=by
  intro k k' h1 h2 h3 h4
  by_cases e1:k' = j + 1
  · subst e1
    rw [sw_l]
    by_cases e2:k = j
    · subst e2;rw [sw_r];exact .of hk
    · rw [sw_o _ _ _ _ (by omega) e2];exact h _ _ h1 (by omega) (by omega) (by omega)
  · rw [sw_o _ _ _ k' e1 h4]
    by_cases e2:k = j + 1
    · subst e2;rw [sw_l];exact h _ _ ha (by omega) h3 e1
    · by_cases e3:k = j
      · subst e3;rw [sw_r];exact h _ _ (by omega) (by omega) h3 e1
      · rw [sw_o _ _ _ _ e2 e3];exact h _ _ h1 h2 h3 e1
theorem InsR.done {n a i j:Nat} {d:Nat→Nat} (h:InsR K a i j d) (hI:Inv K n d) (hn:i < n) (haj:a≤j) (hji:j≤i) (hs:j = a ∨ ¬ K (d j) < K (d (j - 1))):Srt K a (i + 1) d:=by
  intro k k' h1 h2 h3
  by_cases e:k' = j
  · subst e
    rcases hs with hs | hs
    · omega
    · have hl:Lx K (d (k' - 1)) (d k'):=hI.lx (by omega) (by omega) hs
      by_cases e2:k = k' - 1
      · rw [e2];exact hl
      · exact (h k (k' - 1) h1 (by omega) (by omega) (by omega)).trans hl
  · exact h k k' h1 h2 (by omega) e
structure BubU (K:Nat→Int) (a b k i:Nat) (d:Nat→Nat):Prop where
  rest:∀ x y,a≤x→x < y→y < b→x ≠ k→y ≠ k→Lx K (d x) (d y)
  low:∀ x,a≤x→x < k→Lx K (d x) (d k)
  mid:∀ y,k < y→y < i→K (d y) < K (d k)
  high:∀ y,i≤y→k < y→y < b→Lx K (d k) (d y)
theorem BubU.start {n a b i:Nat} {d:Nat→Nat} (hI:Inv K n d) (hbn:b≤n) (h:Srt K (a + 1) b d) (_hi:i≤b) (h1:∀ y,a + 1≤y→y < i→K (d y) < K (d a)) (h2:∀ y,i≤y→y < b→¬ K (d y) < K (d a)):BubU K a b a i d where
  rest:=fun x y hx hxy hy hxa _ => h x y (by omega) hxy hy
  low:=fun x hx hx' => by omega
  mid:=fun y hy hyi => h1 y (by omega) hyi
  high:=fun y hy hay hyb => hI.lx (by omega) (by omega) (h2 y hy hyb)
theorem BubU.step {a b k i:Nat} {d:Nat→Nat} (h:BubU K a b k i d) (hak:a≤k) (hk:k + 1 < i) (hib:i≤b):BubU K a b (k + 1) i (sw d k (k + 1)) where
  rest:=fun x y hx hxy hy h1 h2 => by
    by_cases e1:x = k
    · subst e1
      rw [sw_l,sw_o _ _ _ _ (by omega) h2];exact h.rest _ _ (by omega) (by omega) hy (by omega) (by omega)
    · rw [sw_o _ _ _ x e1 h1]
      by_cases e2:y = k
      · subst e2;rw [sw_l];exact h.rest _ _ hx (by omega) (by omega) e1 (by omega)
      · rw [sw_o _ _ _ _ e2 h2];exact h.rest _ _ hx hxy hy e1 e2
  low:=fun x hx hx' => by
    rw [sw_r]
    by_cases e1:x = k
    · subst e1;rw [sw_l];exact .of (h.mid _ (by omega) hk)
    · rw [sw_o _ _ _ _ e1 (by omega)];exact h.low _ hx (by omega)
  mid:=fun y hy hyi => by rw [sw_r,sw_o _ _ _ _ (by omega) (by omega)];exact h.mid _ (by omega) hyi
  high:=fun y hy hky hyb => by rw [sw_r,sw_o _ _ _ _ (by omega) (by omega)];exact h.high _ hy (by omega) hyb
theorem BubU.done {a b k i:Nat} {d:Nat→Nat} (h:BubU K a b k i d) (hk:i≤k + 1):Srt K a b d:=fun x y hx hxy hy => by
  by_cases e1:x = k
  · subst e1;exact h.high _ (by omega) hxy hy
  · by_cases e2:y = k
    · subst e2;exact h.low _ hx hxy
    · exact h.rest _ _ hx hxy hy e1 e2
structure BubD (K:Nat→Int) (a b k i:Nat) (d:Nat→Nat):Prop where
  rest:∀ x y,a≤x→x < y→y < b→x ≠ k→y ≠ k→Lx K (d x) (d y)
  low:∀ x,a≤x→x < i→x < k→Lx K (d x) (d k)
  mid:∀ x,i≤x→x < k→K (d k) < K (d x)
  high:∀ y,k < y→y < b→Lx K (d k) (d y)
theorem BubD.start {n a m i:Nat} {d:Nat→Nat} (hI:Inv K n d) (hbn:m < n) (h:Srt K a m d) (h1:∀ x,a≤x→x < i→x < m→¬ K (d m) < K (d x)) (h2:∀ x,i≤x→x < m→K (d m) < K (d x)):BubD K a (m + 1) m i d where
  rest:=fun x y hx hxy hy hxm hym => h x y hx hxy (by omega)
  low:=fun x hx hxi hxm => hI.lx hxm hbn (h1 x hx hxi hxm)
  mid:=fun x hx hxm => h2 x hx hxm
  high:=fun y hy hyb => by omega
theorem BubD.step {a b k i:Nat} {d:Nat→Nat} (h:BubD K a b (k + 1) i d) (hak:a≤i) (hk:i≤k) (hib:k + 1 < b):BubD K a b k i (sw d (k + 1) k) where
  rest:=fun x y hx hxy hy h1 h2 => by
    by_cases e1:x = k + 1
    · subst e1
      rw [sw_l,sw_o _ _ _ _ (by omega) h2];exact h.rest _ _ (by omega) (by omega) hy (by omega) (by omega)
    · rw [sw_o _ _ _ x e1 h1]
      by_cases e2:y = k + 1
      · subst e2;rw [sw_l];exact h.rest _ _ hx (by omega) (by omega) e1 (by omega)
      · rw [sw_o _ _ _ _ e2 h2];exact h.rest _ _ hx hxy hy e1 e2
  low:=fun x hx hxi hxk => by rw [sw_r,sw_o _ _ _ _ (by omega) (by omega)];exact h.low _ hx hxi (by omega)
  mid:=fun x hx hxk => by rw [sw_r,sw_o _ _ _ _ (by omega) (by omega)];exact h.mid _ hx (by omega)
  high:=fun y hy hyb => by
    rw [sw_r]
    by_cases e1:y = k + 1
    · subst e1;rw [sw_l];exact .of (h.mid _ hk (by omega))
    · rw [sw_o _ _ _ _ e1 (by omega)];exact h.high _ (by omega) hyb
theorem BubD.done {a b k i:Nat} {d:Nat→Nat} (h:BubD K a b k i d) (hk:k≤i):Srt K a b d:=fun x y hx hxy hy => by
  by_cases e1:x = k
  · subst e1;exact h.high _ hxy hy
  · by_cases e2:y = k
    · subst e2;exact h.low _ hx (by omega) hxy
    · exact h.rest _ _ hx hxy hy e1 e2
def rot (d:Nat→Nat) (s m e:Nat):Nat→Nat:=fun k => if s≤k∧k < s + (e - m) then d (k + (m - s)) else if s + (e - m)≤k∧k < e then d (k - (e - m)) else d k
theorem rot_1 {d:Nat→Nat} {s m e k:Nat} (h:s≤k∧k < s + (e - m)):rot d s m e k = d (k + (m - s)):=by unfold rot;rw [if_pos h]
theorem rot_2 {d:Nat→Nat} {s m e k:Nat} (h:s + (e - m)≤k∧k < e):rot d s m e k = d (k - (e - m)):=by unfold rot;rw [if_neg (by omega),if_pos h]
theorem rot_3 {d:Nat→Nat} {s m e k:Nat} (h:k < s ∨ (e≤k∧s + (e - m)≤k)):rot d s m e k = d k:=by unfold rot;rw [if_neg (by omega),if_neg (by omega)]
theorem rot_none {d:Nat→Nat} {s m e:Nat} (hs:s≤m) (he:m≤e) (h:s = m ∨ e = m):rot d s m e = d:=by
  funext k
  unfold rot
  split
  · congr 1;omega
  · split
    · congr 1;omega
    · rfl
theorem Mv.rot (d:Nat→Nat) {s m e:Nat} (hs:s≤m) (he:m≤e):Mv s e d (rot d s m e):=by
  refine ⟨fun k => if s≤k∧k < s + (e - m) then k + (m - s) else if s + (e - m)≤k∧k < e then k - (e - m) else k,
    fun k => if s≤k∧k < m then k + (e - m) else if m≤k∧k < e then k - (m - s) else k, ?_, ?_, ?_, ?_⟩
  · intro k
    unfold YthlepbbdjmmelaaGreatDoor.rot
    dsimp only
    split
    · rfl
    · split <;> rfl
  · intro k;dsimp only;repeat' split
    all_goals omega
  · intro k;dsimp only;repeat' split
    all_goals omega
  · intro k hk;dsimp only;rw [if_neg (by omega),if_neg (by omega)]
theorem Inv.rot {n s m e:Nat} {d:Nat→Nat} (h:Inv K n d) (hs:s≤m) (he:m≤e) (hn:e≤n) (hx:∀ x y,s≤x→x < m→m≤y→y < e→K (d y) < K (d x)):Inv K n (rot d s m e):=by
  intro k k' h1 h2
  by_cases c1:s≤k∧k < s + (e - m)
  · rw [rot_1 c1]
    by_cases c2:s≤k'∧k' < s + (e - m)
    · rw [rot_1 c2];exact h _ _ (by omega) (by omega)
    · by_cases c3:s + (e - m)≤k'∧k' < e
      · rw [rot_2 c3]
        have:=hx (k' - (e - m)) (k + (m - s)) (by omega) (by omega) (by omega) (by omega)
        omega
      · rw [rot_3 (by omega)];exact h _ _ (by omega) (by omega)
  · by_cases c2:s + (e - m)≤k∧k < e
    · rw [rot_2 c2]
      by_cases c3:s + (e - m)≤k'∧k' < e
      · rw [rot_2 c3];exact h _ _ (by omega) (by omega)
      · rw [rot_3 (by omega)];exact h _ _ (by omega) (by omega)
    · rw [rot_3 (k:=k) (by omega)]
      by_cases c3:s≤k'∧k' < s + (e - m)
      · rw [rot_1 c3];exact h _ _ (by omega) (by omega)
      · by_cases c4:s + (e - m)≤k'∧k' < e
        · rw [rot_2 c4];exact h _ _ (by omega) (by omega)
        · rw [rot_3 (by omega)];exact h _ _ (by omega) (by omega)
def swr (d:Nat→Nat) (a b n:Nat):Nat→Nat:=fun k => if a≤k∧k < a + n then d (k + b - a) else if b≤k∧k < b + n then d (k + a - b) else d k
theorem swr_zero (d:Nat→Nat) (a b:Nat):swr d a b 0 = d:=by funext k;unfold swr;rw [if_neg (by omega),if_neg (by omega)]
theorem swr_1 {d:Nat→Nat} {a b n k:Nat} (h:a≤k∧k < a + n):swr d a b n k = d (k + b - a):=by unfold swr;rw [if_pos h]
theorem swr_2 {d:Nat→Nat} {a b n k:Nat} (h:b≤k∧k < b + n) (h':k < a ∨ a + n≤k):swr d a b n k = d (k + a - b):=by unfold swr;rw [if_neg (by omega),if_pos h]
theorem swr_3 {d:Nat→Nat} {a b n k:Nat} (h:k < b ∨ b + n≤k) (h':k < a ∨ a + n≤k):swr d a b n k = d k:=by unfold swr;rw [if_neg (by omega),if_neg (by omega)]
theorem at_eq {d:Nat→Nat} {x y:Nat} (h:x = y):d x = d y:=by rw [h]
theorem swr_step (d:Nat→Nat) (a b n:Nat) (h:a + n < b):sw (swr d a b n) (a + n) (b + n) = swr d a b (n + 1):=by
  funext k
  by_cases e1:k = a + n
  · subst e1
    rw [sw_l,swr_3 (by omega) (by omega),swr_1 (by omega)];exact at_eq (by omega)
  by_cases e2:k = b + n
  · subst e2
    rw [sw_r,swr_3 (by omega) (by omega),swr_2 (by omega) (by omega)];first | done | exact at_eq (by omega)
  rw [sw_o _ _ _ _ e1 e2]
  by_cases c1:a≤k∧k < a + n
  · rw [swr_1 c1,swr_1 (by omega)]
  · by_cases c2:b≤k∧k < b + n
    · rw [swr_2 c2 (by omega),swr_2 (by omega) (by omega)]
    · rw [swr_3 (by omega) (by omega),swr_3 (by omega) (by omega)]
theorem rot_gt (d:Nat→Nat) (m i j:Nat) (him:i≤m) (h:j < i):rot (swr d (m - i) m j) (m - (i - j)) m (m + j) = rot d (m - i) m (m + j):=by
  funext k
  by_cases c0:m - i≤k∧k < m - i + j
  · rw [rot_3 (by omega),swr_1 (by omega),rot_1 (by omega)];exact at_eq (by omega)
  by_cases c1:m - i + j≤k∧k < m - i + j + j
  · rw [rot_1 (by omega),swr_2 (by omega) (by omega),rot_2 (by omega)];exact at_eq (by omega)
  by_cases c2:m - i + j + j≤k∧k < m + j
  · rw [rot_2 (by omega),swr_3 (by omega) (by omega),rot_2 (by omega)]
  rw [rot_3 (by omega),swr_3 (by omega) (by omega),rot_3 (by omega)]
theorem rot_lt (d:Nat→Nat) (m i j:Nat) (him:i≤m) (h:i < j):rot (swr d (m - i) (m + j - i) i) (m - i) m (m + (j - i)) = rot d (m - i) m (m + j):=by
  funext k
  by_cases c0:m - i≤k∧k < m - i + (j - i)
  · rw [rot_1 (by omega),swr_3 (by omega) (by omega),rot_1 (by omega)];first | done | exact at_eq (by omega)
  by_cases c1:m - i + (j - i)≤k∧k < m + j - i
  · rw [rot_2 (by omega),swr_1 (by omega),rot_1 (by omega)];exact at_eq (by omega)
  by_cases c2:m + j - i≤k∧k < m + j
  · rw [rot_3 (by omega),swr_2 (by omega) (by omega),rot_2 (by omega)];exact at_eq (by omega)
  rw [rot_3 (by omega),swr_3 (by omega) (by omega),rot_3 (by omega)]
theorem rot_eq (d:Nat→Nat) (m i:Nat) (him:i≤m):swr d (m - i) m i = rot d (m - i) m (m + i):=by
  funext k
  by_cases c0:m - i≤k∧k < m
  · rw [swr_1 (by omega),rot_1 (by omega)];exact at_eq (by omega)
  by_cases c1:m≤k∧k < m + i
  · rw [swr_2 (by omega) (by omega),rot_2 (by omega)];exact at_eq (by omega)
  rw [swr_3 (by omega) (by omega),rot_3 (by omega)]
structure Cut (K:Nat→Int) (a m b s:Nat) (d:Nat→Nat):Prop where
  as:a≤s
  sm:s≤m
  smid:s≤(a + b) / 2
  me:m≤(a + b) / 2 + m - s
  eb:(a + b) / 2 + m - s≤b
  up:a < s→(a + b) / 2 + m - s < b→¬ K (d ((a + b) / 2 + m - s)) < K (d (s - 1))
  dn:s < m→m < (a + b) / 2 + m - s→K (d ((a + b) / 2 + m - s - 1)) < K (d s)
theorem Cut.rotated {n a m b s:Nat} {d:Nat→Nat} (h:Cut K a m b s d) (hI:Inv K n d) (hb:b≤n) (h1:Srt K a m d) (h2:Srt K m b d) :
    Inv K n (rot d s m ((a + b) / 2 + m - s))∧Srt K a s (rot d s m ((a + b) / 2 + m - s))∧Srt K s ((a + b) / 2) (rot d s m ((a + b) / 2 + m - s)) ∧
    Srt K ((a + b) / 2) ((a + b) / 2 + m - s) (rot d s m ((a + b) / 2 + m - s))∧Srt K ((a + b) / 2 + m - s) b (rot d s m ((a + b) / 2 + m - s)) ∧
    ∀ x y,a≤x→x < (a + b) / 2→(a + b) / 2≤y→y < b→Lx K (rot d s m ((a + b) / 2 + m - s) x) (rot d s m ((a + b) / 2 + m - s) y):=by
  obtain ⟨as,sm,smid,me,eb,up,dn⟩:=h
  generalize hM:(a + b) / 2 = M at *
  generalize he:M + m - s = e at *
  have hx:∀ x y,s≤x→x < m→m≤y→y < e→K (d y) < K (d x):=fun x y q1 q2 q3 q4 => by
    have z:=dn (by omega) (by omega)
    have z1:=h1.le (k:=s) (k':=x) as q1 q2
    have z2:=h2.le (k:=y) (k':=e - 1) q3 (by omega) (by omega)
    omega
  have hc:∀ x y,a≤x→x < s→e≤y→y < b→Lx K (d x) (d y):=fun x y q1 q2 q3 q4 => by
    have z:Lx K (d (s - 1)) (d e):=hI.lx (by omega) (by omega) (up (by omega) (by omega))
    have z1:Lx K (d x) (d e):=by
      rcases Nat.lt_or_ge x (s - 1) with c | c
      · exact (h1 x (s - 1) q1 c (by omega)).trans z
      · rw [show x = s - 1 by omega];exact z
    rcases Nat.lt_or_ge e y with c | c
    · exact z1.trans (h2 e y me c q4)
    · rw [show y = e by omega];exact z1
  refine ⟨hI.rot sm me (by omega) hx, ?_, ?_, ?_, ?_, ?_⟩
  · exact (h1.mono (Nat.le_refl _) sm).congr fun k q1 q2 => rot_3 (by omega)
  · intro k k' q1 q2 q3
    rw [rot_1 (by omega),rot_1 (by omega)];exact h2 _ _ (by omega) (by omega) (by omega)
  · intro k k' q1 q2 q3
    rw [rot_2 (by omega),rot_2 (by omega)];exact h1 _ _ (by omega) (by omega) (by omega)
  · exact (h2.mono me (Nat.le_refl _)).congr fun k q1 q2 => rot_3 (by omega)
  · intro x y q1 q2 q3 q4
    by_cases c1:x < s
    · rw [rot_3 (k:=x) (by omega)]
      by_cases c2:y < e
      · rw [rot_2 (by omega)];exact h1 _ _ q1 (by omega) (by omega)
      · rw [rot_3 (by omega)];exact hc _ _ q1 c1 (by omega) q4
    · rw [rot_1 (k:=x) (by omega)]
      by_cases c2:y < e
      · rw [rot_2 (by omega)];exact .of (hx _ _ (by omega) (by omega) (by omega) (by omega))
      · rw [rot_3 (by omega)];exact h2 _ _ (by omega) (by omega) q4
theorem srt_join {a M b:Nat} {d:Nat→Nat} (h1:Srt K a M d) (h2:Srt K M b d) (hx:∀ x y,a≤x→x < M→M≤y→y < b→Lx K (d x) (d y)):Srt K a b d:=fun k k' q1 q2 q3 => by
  by_cases c:k' < M
  · exact h1 _ _ q1 q2 c
  · by_cases c2:M≤k
    · exact h2 _ _ c2 q2 q3
    · exact hx _ _ q1 (by omega) (by omega) q3
theorem cross_mv {a M b:Nat} {d d':Nat→Nat} (hx:∀ x y,a≤x→x < M→M≤y→y < b→Lx K (d x) (d y)) (h:Mv a M d d' ∨ Mv M b d d'):∀ x y,a≤x→x < M→M≤y→y < b→Lx K (d' x) (d' y):=fun x y q1 q2 q3 q4 => by
  rcases h with h | h
  · obtain ⟨x',r1,r2,e⟩:=h.inn x q1 q2
    rw [e,h.out y (by omega)];exact hx _ _ r1 r2 q3 q4
  · obtain ⟨y',r1,r2,e⟩:=h.inn y q3 q4
    rw [e,h.out x (by omega)];exact hx _ _ q1 q2 r1 r2
end
end
section
abbrev Sg:=Int × Int × Int
def ats (l:List Sg) (i:Nat):Int:=(l.getD i (0,0,0)).1
def vls (l:List Sg) (i:Nat):Int × Int:=(l.getD i (0,0,0)).2
def stepV (t:Int) (acc:Int × Int) (s:Sg):Int × Int:=if s.1≤t then s.2 else acc
def vat (l:List Sg) (t:Int):Int × Int:=l.foldl (stepV t) (0,0)
theorem vat_snoc (l:List Sg) (s:Sg) (t:Int):vat (l ++ [s]) t = if s.1≤t then s.2 else vat l t:=by
  unfold vat;rw [List.foldl_append];rfl
theorem foldl_gt (t:Int):∀ (r:List Sg) (acc:Int × Int),(∀ s ∈ r,t < s.1)→r.foldl (stepV t) acc = acc
  | [],_,_ => rfl
  | s :: r, acc, h => by
    have h1:stepV t acc s = acc:=by
      unfold stepV
      have:=h s (by simp)
      rw [if_neg (by omega)]
    rw [List.foldl_cons,h1]
    exact foldl_gt t r acc fun x hx => h x (by simp [hx])
theorem vat_gt (l r:List Sg) (t:Int) (h:∀ s ∈ r,t < s.1):vat (l ++ r) t = vat l t:=by
  unfold vat;rw [List.foldl_append];exact foldl_gt t r _ h
theorem getD_get {α:Type} (l:List α) (i:Nat) (d:α) (h:i < l.length):l.getD i d = l[i]:=by
  rw [List.getD_eq_getElem?_getD,List.getElem?_eq_getElem h];rfl
theorem vat_of {l:List Sg} {t:Int} {n:Nat} (hn:n≤l.length) (h1:n = 0 ∨ ats l (n - 1)≤t) (h2:∀ i,n≤i→i < l.length→t < ats l i):vat l t = if n = 0 then (0,0) else vls l (n - 1):=by
  have e:l = l.take n ++ l.drop n:=(List.take_append_drop n l).symm
  have hd:vat l t = vat (l.take n) t:=by
    conv => lhs;rw [e]
    refine vat_gt _ _ _ fun s hs => ?_
    obtain ⟨i,hi,rfl⟩:=List.getElem_of_mem hs
    rw [List.length_drop] at hi
    rw [List.getElem_drop]
    have:=h2 (n + i) (by omega) (by omega)
    unfold ats at this
    rw [getD_get _ _ _ (by omega)] at this
    exact this
  rw [hd]
  by_cases c:n = 0
  · subst c;simp [vat]
  · rw [if_neg c]
    have ht:l.take n = l.take (n - 1) ++ [l[n - 1]]:=by
      have:=List.take_succ_eq_append_getElem (l:=l) (i:=n - 1) (by omega)
      rw [show n - 1 + 1 = n by omega] at this
      exact this
    rw [ht,vat_snoc]
    have h3:=h1.resolve_left c
    unfold ats at h3
    rw [getD_get _ _ _ (by omega)] at h3
    rw [if_pos h3]
    unfold vls
    rw [getD_get _ _ _ (by omega)]
end
section
def okT (x:Int):Bool:=decide (-1125899906842624≤x∧x≤1125899906842624)
def okS (s:Sg):Bool:=okT s.1 && okV s.2.1 s.2.2
theorem okT_iff {x:Int}:okT x = true ↔ (-1125899906842624≤x∧x≤1125899906842624):=by unfold okT;exact decide_eq_true_iff
def cmpr:Int × Int→List Sg→List Sg
  | _,[] => []
  | last,[s] => if s.2 = last then [] else [s]
  | last,s :: t :: r => if t.1 = s.1 then cmpr last (t :: r) else if s.2 = last then cmpr last (t :: r) else s :: cmpr s.2 (t :: r)
theorem cmpr_mem:∀ (r:List Sg) (last:Int × Int) (x:Sg),x ∈ cmpr last r→x ∈ r
  | [],_,_,h => by simp [cmpr] at h
  | [s], last, x, h => by
    unfold cmpr at h
    split at h
    · simp at h
    · exact h
  | s :: t :: r, last, x, h => by
    unfold cmpr at h
    split at h
    · exact List.mem_cons_of_mem _ (cmpr_mem (t :: r) last x h)
    · split at h
      · exact List.mem_cons_of_mem _ (cmpr_mem (t :: r) last x h)
      · rcases List.mem_cons.1 h with h | h
        · exact h ▸ List.mem_cons_self
        · exact List.mem_cons_of_mem _ (cmpr_mem (t :: r) _ x h)
theorem cmpr_len:∀ (r:List Sg) (last:Int × Int),(cmpr last r).length≤r.length
  | [],_ => by simp [cmpr]
  | [s],last => by unfold cmpr;split <;> simp
  | s :: t :: r, last => by
    have h1:=cmpr_len (t :: r) last
    have h2:=cmpr_len (t :: r) s.2
    unfold cmpr
    simp only [List.length_cons] at *
    split
    · omega
    · split
      · omega
      · simp only [List.length_cons];omega
def Up (r:List Sg):Prop:=r.Pairwise fun a b => a.1≤b.1
theorem foldl_c {t:Int} {last:Int × Int} {s:Sg} {r:List Sg}:(s :: r).foldl (stepV t) last = r.foldl (stepV t) (stepV t last s):=rfl
theorem cmpr_val (t:Int):∀ (r:List Sg) (last:Int × Int),Up r→(cmpr last r).foldl (stepV t) last = r.foldl (stepV t) last
  | [],_,_ => rfl
  | [s], last, _ => by
    unfold cmpr
    split
    · rename_i h
      show last = stepV t last s
      unfold stepV;split
      · exact h.symm
      · rfl
    · rfl
  | s :: u :: r, last, h => by
    have hu:Up (u :: r):=(List.pairwise_cons.1 h).2
    have hs:=(List.pairwise_cons.1 h).1
    unfold cmpr
    split
    · rename_i e
      rw [cmpr_val t (u :: r) last hu,List.foldl_cons,List.foldl_cons,List.foldl_cons]
      congr 1
      unfold stepV
      rw [e]
      split <;> rfl
    · rename_i e
      split
      · rename_i e2
        rw [cmpr_val t (u :: r) last hu,foldl_c (s:=s) (r:=u :: r)]
        congr 1
        unfold stepV
        split
        · exact e2.symm
        · rfl
      · rw [foldl_c (s:=s) (r:=cmpr s.2 (u :: r)),foldl_c (s:=s) (r:=u :: r)]
        by_cases c:s.1≤t
        · have e3:stepV t last s = s.2:=by unfold stepV;rw [if_pos c]
          rw [e3]
          exact cmpr_val t (u :: r) s.2 hu
        · have e3:stepV t last s = last:=by unfold stepV;rw [if_neg c]
          rw [e3,foldl_gt t _ _ (fun x hx => ?_),foldl_gt t _ _ (fun x hx => ?_)]
          · have:=hs x hx;omega
          · have:=hs x (cmpr_mem _ _ _ hx);omega
def CF:Int × Int→List Sg→Prop
  | _,[] => True
  | last,s :: r => okS s = true∧s.2 ≠ last∧(∀ x ∈ r,s.1 < x.1)∧CF s.2 r
theorem cmpr_cf:∀ (r:List Sg) (last:Int × Int),Up r→(∀ x ∈ r,okS x = true)→CF last (cmpr last r)
  | [],_,_,_ => trivial
  | [s], last, _, ho => by
    unfold cmpr
    split
    · trivial
    · rename_i h
      exact ⟨ho s (by simp),h,fun x hx => by simp at hx,trivial⟩
  | s :: u :: r, last, h, ho => by
    have hu:Up (u :: r):=(List.pairwise_cons.1 h).2
    have hs:=(List.pairwise_cons.1 h).1
    have ho':∀ x ∈ u :: r,okS x = true:=fun x hx => ho x (List.mem_cons_of_mem _ hx)
    unfold cmpr
    split
    · exact cmpr_cf (u :: r) last hu ho'
    · rename_i e
      split
      · exact cmpr_cf (u :: r) last hu ho'
      · rename_i e2
        refine ⟨ho s (by simp),e2,fun x hx => ?_,cmpr_cf (u :: r) s.2 hu ho'⟩
        have h1:=hs u (by simp)
        have hx':=cmpr_mem _ _ _ hx
        rcases List.mem_cons.1 hx' with h2 | h2
        · rw [h2];omega
        · have:=(List.pairwise_cons.1 hu).1 x h2
          omega
theorem cf_unique:∀ (f g:List Sg) (last:Int × Int),CF last f→CF last g→(∀ s ∈ f,g.foldl (stepV s.1) last = s.2)→(∀ s ∈ g,f.foldl (stepV s.1) last = s.2)→f = g
  | [],[],_,_,_,_,_ => rfl
  | [], s :: r, last, _, hg, _, h2 => by
    have:=h2 s (by simp)
    exact absurd this.symm hg.2.1
  | s :: r, [], last, hf, _, h1, _ => by
    have:=h1 s (by simp)
    exact absurd this.symm hf.2.1
  | s :: r, s' :: r', last, hf, hg, h1, h2 => by
    obtain ⟨_,f2,f3,f4⟩:=hf
    obtain ⟨_,g2,g3,g4⟩:=hg
    have k1:=h1 s (by simp)
    have k2:=h2 s' (by simp)
    have et:s.1 = s'.1:=by
      rcases Int.lt_trichotomy s.1 s'.1 with c | c | c
      · rw [foldl_gt _ _ _ (fun x hx => by
          rcases List.mem_cons.1 hx with hx | hx
          · rw [hx];exact c
          · have:=g3 x hx;omega)] at k1
        exact absurd k1.symm f2
      · exact c
      · rw [foldl_gt _ _ _ (fun x hx => by
          rcases List.mem_cons.1 hx with hx | hx
          · rw [hx];exact c
          · have:=f3 x hx;omega)] at k2
        exact absurd k2.symm g2
    have ev:s.2 = s'.2:=by
      rw [List.foldl_cons,foldl_gt _ _ _ (fun x hx => by have:=g3 x hx;omega)] at k1
      unfold stepV at k1
      rw [if_pos (by omega)] at k1
      exact k1.symm
    have es:s = s':=Prod.ext et ev
    subst es
    have:r = r':=cf_unique r r' s.2 f4 g4 (fun x hx => by
        have:=h1 x (List.mem_cons_of_mem _ hx)
        rw [List.foldl_cons] at this
        have e:stepV x.1 last s = s.2:=by unfold stepV;rw [if_pos (Int.le_of_lt (f3 x hx))]
        rw [e] at this;exact this) (fun x hx => by
        have:=h2 x (List.mem_cons_of_mem _ hx)
        rw [List.foldl_cons] at this
        have e:stepV x.1 last s = s.2:=by unfold stepV;rw [if_pos (Int.le_of_lt (g3 x hx))]
        rw [e] at this;exact this)
    rw [this]
theorem cf_own:∀ (f:List Sg) (last:Int × Int),CF last f→∀ s ∈ f,f.foldl (stepV s.1) last = s.2
  | [],_,_,s,hs => by simp at hs
  | x :: r, last, h, s, hs => by
    obtain ⟨_,_,f3,f4⟩:=h
    rw [List.foldl_cons]
    rcases List.mem_cons.1 hs with e | e
    · subst e
      rw [foldl_gt _ _ _ (fun y hy => by have:=f3 y hy;omega)]
      unfold stepV;rw [if_pos (Int.le_refl _)]
    · have:stepV s.1 last x = x.2:=by unfold stepV;rw [if_pos (Int.le_of_lt (f3 s e))]
      rw [this];exact cf_own r x.2 f4 s e
theorem cf_ext {f g:List Sg} {last:Int × Int} (hf:CF last f) (hg:CF last g) (h:∀ t,f.foldl (stepV t) last = g.foldl (stepV t) last):f = g :=
  cf_unique f g last hf hg (fun s hs => by rw [← h];exact cf_own f last hf s hs) (fun s hs => by rw [h];exact cf_own g last hg s hs)
theorem CF.up:∀ {f:List Sg} {last:Int × Int},CF last f→f.Pairwise fun a b => a.1 < b.1
  | [],_,_ => List.Pairwise.nil
  | _ :: _,_,h => List.pairwise_cons.2 ⟨h.2.2.1,h.2.2.2.up⟩
theorem CF.ok:∀ {f:List Sg} {last:Int × Int},CF last f→∀ x ∈ f,okS x = true
  | [],_,_,_,hx => by simp at hx
  | s :: r, _, h, x, hx => by
    rcases List.mem_cons.1 hx with e | e
    · subst e;exact h.1
    · exact h.2.2.2.ok x e
def Canon (f:List Sg):Prop:=CF (0,0) f
def rstep (t:Int) (st:(Int × Int) × Int × Bool) (s:Sg):(Int × Int) × Int × Bool:=if s.1≤t∧(st.2.2 = false ∨ st.2.1≤s.1) then (s.2,s.1,true) else st
def rread (l:List Sg) (t:Int):(Int × Int) × Int × Bool:=l.foldl (rstep t) ((0,0),0,false)
def rv (l:List Sg) (t:Int):Int × Int:=(rread l t).1
def Top (l:List Sg) (t:Int) (i:Nat):Prop:=i < l.length∧ats l i≤t∧∀ j,j < l.length→ats l j≤t→ats l j < ats l i ∨ (ats l j = ats l i∧j≤i)
theorem Top.unique {l:List Sg} {t:Int} {i j:Nat} (h:Top l t i) (h':Top l t j):i = j:=by
  have h1:=h.2.2 j h'.1 h'.2.1
  have h2:=h'.2.2 i h.1 h.2.1
  omega
theorem getD_app_l {l:List Sg} {s:Sg} {i:Nat} (h:i < l.length):(l ++ [s]).getD i (0,0,0) = l.getD i (0,0,0):=by
  rw [getD_get _ _ _ (by simp;omega),getD_get _ _ _ h,List.getElem_append_left h]
theorem getD_app_r {l:List Sg} {s:Sg}:(l ++ [s]).getD l.length (0,0,0) = s:=by
  rw [getD_get _ _ _ (by simp),List.getElem_append_right (Nat.le_refl _)];simp
theorem rread_char (t:Int):∀ (n:Nat) (l:List Sg),l.length = n→(rread l t = ((0,0),0,false)∧∀ j,j < l.length→t < ats l j) ∨ ∃ i,Top l t i∧rread l t = (vls l i,ats l i,true)
  | 0, l, h => by
    have:l = []:=List.eq_nil_of_length_eq_zero h
    subst this
    exact .inl ⟨rfl,fun j hj => by simp at hj⟩
  | n + 1, l, h => by
    obtain ⟨l',s,rfl⟩:∃ l' s,l = l' ++ [s]:=⟨l.dropLast,l.getLast (by intro e;subst e;simp at h),(List.dropLast_concat_getLast _).symm⟩
    have hl:l'.length = n:=by simp at h;omega
    have ih:=rread_char t n l' hl
    have hr:rread (l' ++ [s]) t = rstep t (rread l' t) s:=by unfold rread;rw [List.foldl_append];rfl
    have aL:∀ i,i < l'.length→ats (l' ++ [s]) i = ats l' i:=fun i hi => by unfold ats;rw [getD_app_l hi]
    have vL:∀ i,i < l'.length→vls (l' ++ [s]) i = vls l' i:=fun i hi => by unfold vls;rw [getD_app_l hi]
    have aR:ats (l' ++ [s]) l'.length = s.1:=by unfold ats;rw [getD_app_r]
    have vR:vls (l' ++ [s]) l'.length = s.2:=by unfold vls;rw [getD_app_r]
    have hlen:(l' ++ [s]).length = l'.length + 1:=by simp
    rw [hr]
    rcases ih with ⟨e,hgt⟩ | ⟨i,ht,e⟩
    · rw [e]
      unfold rstep
      by_cases c:s.1≤t
      · rw [if_pos ⟨c,.inl rfl⟩]
        refine .inr ⟨l'.length,⟨by omega,by rw [aR];exact c,fun j hj hjt => ?_⟩,by rw [vR,aR]⟩
        by_cases hj':j < l'.length
        · rw [aL j hj'] at hjt
          have:=hgt j hj'
          omega
        · have:j = l'.length:=by omega
          subst this;omega
      · rw [if_neg (by intro h;exact c h.1)]
        refine .inl ⟨rfl,fun j hj => ?_⟩
        by_cases hj':j < l'.length
        · rw [aL j hj'];exact hgt j hj'
        · have:j = l'.length:=by omega
          subst this;rw [aR];omega
    · rw [e]
      unfold rstep
      by_cases c:s.1≤t∧ats l' i≤s.1
      · rw [if_pos ⟨c.1,.inr c.2⟩]
        refine .inr ⟨l'.length,⟨by omega,by rw [aR];exact c.1,fun j hj hjt => ?_⟩,by rw [vR,aR]⟩
        by_cases hj':j < l'.length
        · rw [aL j hj'] at hjt ⊢
          have:=ht.2.2 j hj' hjt
          rw [aR];omega
        · have:j = l'.length:=by omega
          subst this;omega
      · rw [if_neg (by
          rintro ⟨h1,h2⟩
          rcases h2 with h2 | h2
          · exact Bool.noConfusion h2
          · exact c ⟨h1,h2⟩)]
        refine .inr ⟨i,⟨by have:=ht.1;omega,by rw [aL i ht.1];exact ht.2.1,fun j hj hjt => ?_⟩,by rw [vL i ht.1,aL i ht.1]⟩
        rw [aL i ht.1]
        by_cases hj':j < l'.length
        · rw [aL j hj'] at hjt ⊢
          exact ht.2.2 j hj' hjt
        · have:j = l'.length:=by omega
          subst this
          rw [aR] at hjt ⊢
          omega
def ordL (l:List Sg) (d:Nat→Nat):List Sg:=(List.range l.length).map fun k => l.getD (d k) (0,0,0)
theorem ordL_len (l:List Sg) (d:Nat→Nat):(ordL l d).length = l.length:=by simp [ordL]
theorem ordL_get {l:List Sg} {d:Nat→Nat} {k:Nat} (h:k < l.length):(ordL l d).getD k (0,0,0) = l.getD (d k) (0,0,0):=by
  rw [getD_get _ _ _ (by rw [ordL_len];exact h)];simp [ordL]
theorem ordL_ats {l:List Sg} {d:Nat→Nat} {k:Nat} (h:k < l.length):ats (ordL l d) k = ats l (d k):=by unfold ats;rw [ordL_get h]
theorem ordL_vls {l:List Sg} {d:Nat→Nat} {k:Nat} (h:k < l.length):vls (ordL l d) k = vls l (d k):=by unfold vls;rw [ordL_get h]
theorem cutAt (l:List Sg) (t:Int):∀ N,N≤l.length→∃ m,m≤N∧(m = 0 ∨ ats l (m - 1)≤t)∧∀ i,m≤i→i < N→t < ats l i
  | 0,_ => ⟨0,Nat.le_refl _,.inl rfl,fun i _ h => by omega⟩
  | N + 1, h => by
    obtain ⟨m,h1,h2,h3⟩:=cutAt l t N (by omega)
    by_cases c:ats l N≤t
    · exact ⟨N + 1,Nat.le_refl _,.inr (by rw [Nat.add_sub_cancel];exact c),fun i _ h => by omega⟩
    · refine ⟨m,by omega,h2,fun i q1 q2 => ?_⟩
      by_cases e:i = N
      · rw [e];omega
      · exact h3 i q1 (by omega)
theorem ordL_val {l:List Sg} {d:Nat→Nat} (hm:Mv 0 l.length id d) (hs:Srt (ats l) 0 l.length d) (t:Int):vat (ordL l d) t = rv l t:=by
  obtain ⟨m,h1,h2,h3⟩:=cutAt (ordL l d) t _ (Nat.le_refl _)
  rw [vat_of h1 h2 h3]
  rw [ordL_len] at h1 h3
  have hok:∀ k,k < l.length→d k < l.length:=fun k hk => by
    obtain ⟨k',_,q2,e⟩:=hm.inn k (Nat.zero_le _) hk
    rw [e];exact q2
  rcases rread_char t _ l rfl with ⟨e,hgt⟩ | ⟨i,ht,e⟩
  · unfold rv;rw [e]
    by_cases c:m = 0
    · rw [if_pos c]
    · have q:=h2.resolve_left c
      rw [ordL_ats (by omega)] at q
      have:=hgt _ (hok (m - 1) (by omega))
      omega
  · unfold rv;rw [e]
    have hback:=hm.back i (Nat.zero_le _) ht.1
    obtain ⟨k,_,hk,ek⟩:=hback
    simp only [id] at ek
    have hkm:k < m:=by
      rcases Nat.lt_or_ge k m with c | c
      · exact c
      · have:=h3 k c hk
        rw [ordL_ats hk,← ek] at this
        have:=ht.2.1
        omega
    have c:m ≠ 0:=by omega
    rw [if_neg c,ordL_vls (by omega)]
    have q:=h2.resolve_left c
    rw [ordL_ats (by omega)] at q
    have htop:Top l t (d (m - 1)):=by
      refine ⟨hok _ (by omega),q,fun j hj hjt => ?_⟩
      obtain ⟨k',_,hk',ek'⟩:=hm.back j (Nat.zero_le _) hj
      simp only [id] at ek'
      have hk'm:k' < m:=by
        rcases Nat.lt_or_ge k' m with c | c
        · exact c
        · have:=h3 k' c hk'
          rw [ordL_ats hk',← ek'] at this
          omega
      rw [ek']
      by_cases e2:k' = m - 1
      · rw [e2];omega
      · have:=hs k' (m - 1) (Nat.zero_le _) (by omega) (by omega)
        unfold Lx at this
        omega
    rw [ht.unique htop]
theorem ordL_up {l:List Sg} {d:Nat→Nat} (hs:Srt (ats l) 0 l.length d):Up (ordL l d):=by
  unfold Up
  rw [List.pairwise_iff_getElem]
  intro i j hi hj hij
  rw [ordL_len] at hi hj
  have h1:=hs.le (Nat.zero_le i) (Nat.le_of_lt hij) hj
  have e1:=ordL_ats (l:=l) (d:=d) hi
  have e2:=ordL_ats (l:=l) (d:=d) hj
  unfold ats at e1 e2
  rw [getD_get _ _ _ (by rw [ordL_len];exact hi)] at e1
  rw [getD_get _ _ _ (by rw [ordL_len];exact hj)] at e2
  rw [e1,e2];exact h1
theorem ordL_ok {l:List Sg} {d:Nat→Nat} (hm:Mv 0 l.length id d) (ho:∀ x ∈ l,okS x = true):∀ x ∈ ordL l d,okS x = true:=by
  intro x hx
  unfold ordL at hx
  rw [List.mem_map] at hx
  obtain ⟨k,hk,rfl⟩:=hx
  rw [List.mem_range] at hk
  obtain ⟨k',_,q2,e⟩:=hm.inn k (Nat.zero_le _) hk
  rw [e,id,getD_get _ _ _ q2]
  exact ho _ (List.getElem_mem q2)
def IsOf (l f:List Sg):Prop:=Canon f∧(∀ t,vat f t = rv l t)∧f.length≤l.length
theorem isOf_cmpr {l:List Sg} {d:Nat→Nat} (hm:Mv 0 l.length id d) (hs:Srt (ats l) 0 l.length d) (ho:∀ x ∈ l,okS x = true):IsOf l (cmpr (0,0) (ordL l d)):=by
  refine ⟨cmpr_cf _ _ (ordL_up hs) (ordL_ok hm ho),fun t => ?_, ?_⟩
  · have:=cmpr_val t (ordL l d) (0,0) (ordL_up hs)
    unfold vat
    rw [this]
    exact ordL_val hm hs t
  · have:=cmpr_len (ordL l d) (0,0)
    rw [ordL_len] at this;exact this
theorem IsOf.unique {l f g:List Sg} (hf:IsOf l f) (hg:IsOf l g):f = g:=cf_ext hf.1 hg.1 fun t => (hf.2.1 t).trans (hg.2.1 t).symm
end
section
def whiteB (c:UInt8):Bool:=c == 32 || c == 9 || c == 10 || c == 13
def letterB (c:UInt8):Bool:=decide (97≤c) && decide (c≤122)
def digitB (c:UInt8):Bool:=decide (48≤c) && decide (c≤57)
def alnumB (c:UInt8):Bool:=letterB c || digitB c
theorem white_not {c:UInt8} (h:whiteB c = true):alnumB c = false:=by
  unfold whiteB at h
  simp only [Bool.or_eq_true,beq_iff_eq] at h
  rcases h with ((rfl | rfl) | rfl) | rfl <;> decide
def valD (s:List UInt8):Int:=s.foldl (fun n c => 10 * n + ((c.toNat:Int) - 48)) 0
def isNum (s:List UInt8):Bool:=!s.isEmpty && s.all digitB && (s.length == 1 || s.head? != some 48) && decide (valD s≤1099511627776)
def isWord (s:List UInt8):Bool:=!s.isEmpty && s.all letterB
def kindOf (s:List UInt8):Option (Nat × Int) :=
  if isNum s then some (1,valD s) else if s = [40] then some (2,0) else if s = [41] then some (3,0) else if s = [58] then some (4,0) else if isWord s then some (0,0) else none
structure Tok where
  kind:Nat
  text:List UInt8
  num:Int
  pos:Nat
deriving DecidableEq
def lexG (p:Nat):List UInt8→Except Nat (List Tok)
  | [] => .ok []
  | c :: r =>
    if whiteB c then lexG (p + 1) r
    else if alnumB c then
      match kindOf (c :: r.takeWhile alnumB) with
      | none => .error p
      | some (k,n) => (lexG (p + 1 + (r.takeWhile alnumB).length) (r.dropWhile alnumB)).map (⟨k,c :: r.takeWhile alnumB,n,p⟩ :: ·)
    else
      match kindOf [c] with
      | none => .error p
      | some (k,n) => (lexG (p + 1) r).map (⟨k,[c],n,p⟩ :: ·)
termination_by s => s.length
decreasing_by
  all_goals simp only [List.length_cons]
  · omega
  · have:=(List.dropWhile_sublist alnumB (l:=r)).length_le;omega
  · omega
theorem lexG_nil (p:Nat):lexG p [] = .ok []:=by rw [lexG]
theorem lexG_white {p:Nat} {c:UInt8} {r:List UInt8} (h:whiteB c = true):lexG p (c :: r) = lexG (p + 1) r:=by rw [lexG,if_pos h]
def okTok (t:List UInt8) (k:Nat) (n:Int):Prop:=kindOf t = some (k,n)∧((∃ c,t = [c]∧alnumB c = false∧whiteB c = false) ∨ (t ≠ []∧t.all alnumB = true))
theorem takeWhile_app {p:UInt8→Bool} {a b:List UInt8} (h:a.all p = true) (hb:b = [] ∨ ∃ c r,b = c :: r∧p c = false):(a ++ b).takeWhile p = a∧(a ++ b).dropWhile p = b:=by
  induction a with
  | nil =>
    rcases hb with rfl | ⟨c,r,rfl,hc⟩
    · simp
    · simp [hc]
  | cons x a ih =>
    simp only [List.all_cons,Bool.and_eq_true] at h
    obtain ⟨i1,i2⟩:=ih h.2
    simp only [List.cons_append,List.takeWhile_cons,List.dropWhile_cons,h.1,if_true,i1,i2,and_self]
theorem lexG_tok {p:Nat} {t r:List UInt8} {k:Nat} {n:Int} (h:okTok t k n) (hr:t.all alnumB = true→r = [] ∨ ∃ c r',r = c :: r'∧alnumB c = false) :
    lexG p (t ++ r) = (lexG (p + t.length) r).map (⟨k,t,n,p⟩ :: ·):=by
  obtain ⟨hk,⟨c,rfl,h1,h2⟩ | ⟨hne,ha⟩⟩:=h
  · rw [List.cons_append,List.nil_append,lexG,if_neg (by rw [h2];decide),if_neg (by rw [h1];decide),hk]
    rfl
  · obtain ⟨c,t',rfl⟩:=List.exists_cons_of_ne_nil hne
    have ha':=ha
    simp only [List.all_cons,Bool.and_eq_true] at ha'
    have hw:whiteB c = false:=by
      cases hw:whiteB c
      · rfl
      · rw [white_not hw] at ha';exact absurd ha'.1 (by decide)
    obtain ⟨e1,e2⟩:=takeWhile_app ha'.2 (hr ha)
    rw [List.cons_append,lexG,if_neg (by rw [hw];decide),if_pos ha'.1,e1,e2,hk]
    simp only [List.length_cons]
    rw [show p + 1 + t'.length = p + (t'.length + 1) by omega]
def Spells (p:Nat):List UInt8→List Tok→Prop
  | s,[] => s.all whiteB = true
  | s,t :: l => ∃ w r,s = w ++ t.text ++ r∧w.all whiteB = true∧t.pos = p + w.length∧okTok t.text t.kind t.num∧(t.text.all alnumB = true→r = [] ∨ ∃ c r',r = c :: r'∧alnumB c = false)∧Spells (p + w.length + t.text.length) r l
theorem lexG_allwhite:∀ (w:List UInt8) (p:Nat) (r:List UInt8),w.all whiteB = true→lexG p (w ++ r) = lexG (p + w.length) r
  | [],p,r,_ => rfl
  | c :: w, p, r, h => by
    rw [List.all_cons,Bool.and_eq_true] at h
    rw [List.cons_append,lexG_white h.1,lexG_allwhite w (p + 1) r h.2,List.length_cons]
    congr 1;omega
theorem spells_lexG:∀ (l:List Tok) (p:Nat) (s:List UInt8),Spells p s l→lexG p s = .ok l
  | [], p, s, h => by
    have h':s.all whiteB = true:=h
    have:=lexG_allwhite s p [] h'
    rw [List.append_nil,lexG_nil] at this
    exact this
  | t :: l, p, s, ⟨w, r, e, h1, h2, h3, h4, h5⟩ => by
    subst e
    rw [List.append_assoc,lexG_allwhite w p _ h1,lexG_tok h3 h4,spells_lexG l _ r h5]
    simp only [Except.map]
    rw [← h2]
def gapB (a b:Tok):Bool:=a.kind != 2 && b.kind != 3 && b.kind != 4
def textG:List Tok→List UInt8
  | [] => []
  | [t] => t.text
  | t :: u :: l => t.text ++ (if gapB t u then 32 :: textG (u :: l) else textG (u :: l))
def placeG (p:Nat):List Tok→List Tok
  | [] => []
  | [t] => [{ t with pos:=p }]
  | t :: u :: l => { t with pos:=p } :: placeG (p + t.text.length + (if gapB t u then 1 else 0)) (u :: l)
theorem kind_punct {t:List UInt8} {k:Nat} {n:Int} (h:okTok t k n) (hk:k = 2 ∨ k = 3 ∨ k = 4):∃ c,t = [c]∧alnumB c = false:=by
  obtain ⟨h1,_⟩:=h
  unfold kindOf at h1
  split at h1
  · cases h1;omega
  · split at h1
    · rename_i e;exact ⟨40,e,by decide⟩
    · split at h1
      · rename_i e;exact ⟨41,e,by decide⟩
      · split at h1
        · rename_i e;exact ⟨58,e,by decide⟩
        · split at h1
          · cases h1;omega
          · cases h1
theorem textG_head {u:Tok} {l:List Tok}:∃ r,textG (u :: l) = u.text ++ r:=by
  cases l with
  | nil => exact ⟨[],by simp [textG]⟩
  | cons v l => exact ⟨_,rfl⟩
theorem text_spells:∀ (l:List Tok) (p:Nat),(∀ t ∈ l,okTok t.text t.kind t.num)→Spells p (textG l) (placeG p l)
  | [],p,_ => rfl
  | [t],p,h => ⟨[],[],by simp [textG],rfl,rfl,h t (by simp),fun _ => .inl rfl,rfl⟩
  | t :: u :: l, p, h => by
    have ht:=h t (by simp)
    have hu:=h u (by simp)
    have ih:=text_spells (u :: l) (p + t.text.length + (if gapB t u then 1 else 0)) fun x hx => h x (List.mem_cons_of_mem _ hx)
    refine ⟨[],if gapB t u then 32 :: textG (u :: l) else textG (u :: l),by simp [textG],rfl,rfl,ht,fun ha => ?_, ?_⟩
    · cases hg:gapB t u
      · rw [if_neg (by decide)]
        refine .inr ?_
        have hk:u.kind = 3 ∨ u.kind = 4:=by
          unfold gapB at hg
          have h2:t.kind ≠ 2:=fun e => by
            obtain ⟨c,e2,hc⟩:=kind_punct ht (.inl e)
            rw [e2] at ha
            simp [hc] at ha
          simp only [Bool.and_eq_false_iff,bne_eq_false_iff_eq] at hg
          rcases hg with (hg | hg) | hg
          · exact absurd hg h2
          · exact .inl hg
          · exact .inr hg
        obtain ⟨c,e2,hc⟩:=kind_punct hu (.inr hk)
        obtain ⟨r,e3⟩:=textG_head (u:=u) (l:=l)
        rw [e3,e2]
        exact ⟨c,r,rfl,hc⟩
      · rw [if_pos rfl]
        exact .inr ⟨32,_,rfl,by decide⟩
    · show Spells _ _ (placeG _ (u :: l))
      simp only [List.length_nil,Nat.add_zero]
      cases hg:gapB t u
      · rw [hg] at ih
        simpa using ih
      · rw [hg] at ih
        simp only [if_true] at ih ⊢
        cases l with
        | nil =>
          obtain ⟨w,r,e,h1,h2,h3⟩:=ih
          refine ⟨32 :: w,r,by rw [e];simp,by rw [List.all_cons,h1];decide,by rw [h2];simp only [List.length_cons];omega, ?_⟩
          simp only [List.length_cons]
          rw [show p + t.text.length + (w.length + 1) = p + t.text.length + 1 + w.length by omega]
          exact h3
        | cons v l =>
          obtain ⟨w,r,e,h1,h2,h3⟩:=ih
          refine ⟨32 :: w,r,by rw [e];simp,by rw [List.all_cons,h1];decide,by rw [h2];simp only [List.length_cons];omega, ?_⟩
          simp only [List.length_cons]
          rw [show p + t.text.length + (w.length + 1) = p + t.text.length + 1 + w.length by omega]
          exact h3
def digG (n:Nat):List UInt8:=if n < 10 then [UInt8.ofNat (48 + n)] else digG (n / 10) ++ [UInt8.ofNat (48 + n % 10)]
theorem digit_of {d:Nat} (h:d < 10):digitB (UInt8.ofNat (48 + d)) = true∧(UInt8.ofNat (48 + d)).toNat = 48 + d:=by
  have e:(UInt8.ofNat (48 + d)).toNat = 48 + d:=by rw [UInt8.toNat_ofNat'];omega
  refine ⟨?_,e⟩
  unfold digitB
  rw [Bool.and_eq_true,decide_eq_true_iff,decide_eq_true_iff,UInt8.le_iff_toNat_le,UInt8.le_iff_toNat_le,e]
  simp
  omega
theorem valD_snoc (a:List UInt8) (c:UInt8):valD (a ++ [c]) = 10 * valD a + ((c.toNat:Int) - 48):=by
  unfold valD
  rw [List.foldl_append]
  rfl
theorem dig_facts:∀ (m n:Nat),n≤m→valD (digG n) = n∧(digG n).all digitB = true∧0 < (digG n).length∧(0 < n→(digG n).head? ≠ some 48)∧(n < 10→(digG n).length = 1)
  | m, n, hm => by
    by_cases h:n < 10
    · rw [digG,if_pos h]
      have ⟨h1,h2⟩:=digit_of h
      refine ⟨?_,by rw [List.all_cons,h1];rfl,by simp,fun h0 e => ?_,fun _ => rfl⟩
      · show 10 * 0 + (((UInt8.ofNat (48 + n)).toNat:Int) - 48) = n
        rw [h2];omega
      · simp only [List.head?_cons,Option.some.injEq] at e
        rw [e] at h2
        have:(48:UInt8).toNat = 48:=rfl
        omega
    · cases m with
      | zero => omega
      | succ m =>
        obtain ⟨i1,i2,i3,i4,_⟩:=dig_facts m (n / 10) (by omega)
        have ⟨h1,h2⟩:=digit_of (d:=n % 10) (by omega)
        rw [digG,if_neg h]
        refine ⟨?_, ?_,by simp,fun _ => ?_,fun h' => absurd h' h⟩
        · rw [valD_snoc,i1,h2];omega
        · rw [List.all_append,i2,List.all_cons,h1];rfl
        · cases hd:digG (n / 10) with
          | nil => rw [hd] at i3;simp at i3
          | cons x r =>
            have:=i4 (by omega)
            rw [hd] at this
            simpa using this
theorem dig_num {n:Nat} (h:n≤1099511627776):isNum (digG n) = true:=by
  obtain ⟨i1,i2,i3,i4,i5⟩:=dig_facts n n (Nat.le_refl _)
  unfold isNum
  simp only [Bool.and_eq_true,Bool.or_eq_true,decide_eq_true_iff,i1,i2]
  refine ⟨⟨⟨?_,trivial⟩, ?_⟩,by omega⟩
  · cases hd:digG n with
    | nil => rw [hd] at i3;simp at i3
    | cons x r => rfl
  · by_cases h0:0 < n
    · right;simpa using i4 h0
    · left;simpa using i5 (by omega)
theorem dig_ok {n:Nat} (h:n≤1099511627776):okTok (digG n) 1 n:=by
  obtain ⟨i1,i2,i3,_⟩:=dig_facts n n (Nat.le_refl _)
  refine ⟨?_,.inr ⟨List.length_pos_iff.1 i3, ?_⟩⟩
  · unfold kindOf
    rw [if_pos (dig_num h),i1]
  · rw [List.all_eq_true] at i2 ⊢
    intro x hx
    unfold alnumB
    rw [i2 x hx,Bool.or_true]
end
section
def badP (x:Prt):Bool:=if x.kind = 0 then decide (x.kids ≠ 0 ∨ x.n = 0 ∨ 4096 < x.n ∨ x.g = 0 ∨ x.n < x.g ∨ x.n % x.g ≠ 0 ∨ x.d < 1 ∨ 4096 < x.d) else decide (4 < x.kind ∨ x.kids < 1 ∨ 16 < x.kids ∨ x.n ≠ 0 ∨ x.g ≠ 0 ∨ x.d ≠ 0)
theorem bad_kids {x:Prt} (h:badP x = false):0≤x.kids∧x.kids≤16:=by
  unfold badP at h
  split at h
  · have:=of_decide_eq_false h;omega
  · have:=of_decide_eq_false h;omega
def stopS (l:List Prt) (p deep ink:Nat):Option (Nat × Int):=match l[p]? with
  | none => some (p,81)
  | some x => if 64≤p ∨ badP x = true ∨ (ink = 2∧x.kind ≠ 0) then some (p,81) else if 8 < deep then some (p,80) else none
def rdS:Nat→List Prt→Nat→Nat→Nat→Nat→Except (Nat × Int) Nat
  | _,_,p,_,_,0 => .ok p
  | 0,_,p,_,_,_ + 1 => .error (p,81)
  | m + 1, l, p, deep, ink, n + 1 => match stopS l p deep ink with
    | some e => .error e
    | none => match rdS m l (p + 1) (deep + 1) (l.getD p ⟨0, 0, 0, 0, 0⟩).kind (l.getD p ⟨0, 0, 0, 0, 0⟩).kids.toNat with
      | .error e => .error e
      | .ok q => rdS m l q deep ink n
theorem rd_zero (m:Nat) (l:List Prt) (p deep ink:Nat):rdS m l p deep ink 0 = .ok p:=by cases m <;> rfl
theorem rd_cons (m:Nat) (l:List Prt) (p deep ink n:Nat):rdS (m + 1) l p deep ink (n + 1) = match stopS l p deep ink with
    | some e => .error e
    | none => match rdS m l (p + 1) (deep + 1) (l.getD p ⟨0, 0, 0, 0, 0⟩).kind (l.getD p ⟨0, 0, 0, 0, 0⟩).kids.toNat with
      | .error e => .error e
      | .ok q => rdS m l q deep ink n:=rfl
theorem stop_out {l:List Prt} {p deep ink:Nat} (h:l.length≤p):stopS l p deep ink = some (p,81):=by
  unfold stopS
  rw [List.getElem?_eq_none h]
theorem stop_none {l:List Prt} {p deep ink:Nat} (h:stopS l p deep ink = none):p < l.length∧p < 64∧badP (l.getD p ⟨0,0,0,0,0⟩) = false∧(ink = 2→(l.getD p ⟨0,0,0,0,0⟩).kind = 0)∧deep≤8:=by
  unfold stopS at h
  cases hx:l[p]? with
  | none => rw [hx] at h;cases h
  | some x =>
    have hlt:=(List.getElem?_eq_some_iff.1 hx).1
    have e:l.getD p ⟨0,0,0,0,0⟩ = x:=by rw [List.getD_eq_getElem?_getD,hx];rfl
    rw [hx] at h
    simp only at h
    split at h
    · cases h
    · rename_i h1
      split at h
      · cases h
      · rename_i h2
        rw [e]
        refine ⟨hlt, ?_, ?_, ?_,by omega⟩
        · exact Nat.lt_of_not_le fun c => h1 (.inl c)
        · cases hb:badP x
          · rfl
          · exact absurd (.inr (.inl hb)) h1
        · intro hi
          by_cases c:x.kind = 0
          · exact c
          · exact absurd (.inr (.inr ⟨hi,c⟩)) h1
theorem rd_gt:∀ (m:Nat) (l:List Prt) (p deep ink n e:Nat),rdS m l p deep ink n = .ok e→p + n≤e∧(0 < n→e≤l.length)
  | m,l,p,deep,ink,0,e,h => by rw [rd_zero] at h;cases h;exact ⟨Nat.le_refl _,fun h => by omega⟩
  | 0,l,p,deep,ink,n + 1,e,h => by cases h
  | m + 1, l, p, deep, ink, n + 1, e, h => by
    rw [rd_cons] at h
    cases hs:stopS l p deep ink with
    | some x => rw [hs] at h;cases h
    | none =>
      rw [hs] at h
      simp only at h
      have hp:=(stop_none hs).1
      cases hk:rdS m l (p + 1) (deep + 1) (l.getD p ⟨0,0,0,0,0⟩).kind (l.getD p ⟨0,0,0,0,0⟩).kids.toNat with
      | error x => rw [hk] at h;cases h
      | ok q =>
        rw [hk] at h
        simp only at h
        have h1:=rd_gt m l (p + 1) _ _ _ q hk
        have h2:=rd_gt m l q deep ink n e h
        refine ⟨by omega,fun _ => ?_⟩
        by_cases c:0 < n
        · exact h2.2 c
        · obtain rfl:n = 0:=by omega
          rw [rd_zero] at h
          cases h
          by_cases c2:0 < (l.getD p ⟨0,0,0,0,0⟩).kids.toNat
          · exact h1.2 c2
          · rw [show (l.getD p ⟨0,0,0,0,0⟩).kids.toNat = 0 by omega,rd_zero] at hk
            cases hk
            omega
theorem rd_fuel:∀ (m m':Nat) (l:List Prt) (p deep ink n:Nat),l.length + 1 - p≤m→l.length + 1 - p≤m'→0 < m→0 < m'→rdS m l p deep ink n = rdS m' l p deep ink n
  | m,m',l,p,deep,ink,0,_,_,_,_ => by rw [rd_zero,rd_zero]
  | 0,_,_,_,_,_,n + 1,_,_,h,_ => by omega
  | _,0,_,_,_,_,n + 1,_,_,_,h => by omega
  | m + 1, m' + 1, l, p, deep, ink, n + 1, h1, h2, _, _ => by
    rw [rd_cons,rd_cons]
    cases hs:stopS l p deep ink with
    | some x => rfl
    | none =>
      simp only
      have hp:=(stop_none hs).1
      have e1:=rd_fuel m m' l (p + 1) (deep + 1) (l.getD p ⟨0,0,0,0,0⟩).kind (l.getD p ⟨0,0,0,0,0⟩).kids.toNat (by omega) (by omega) (by omega) (by omega)
      rw [e1]
      cases hk:rdS m' l (p + 1) (deep + 1) (l.getD p ⟨0,0,0,0,0⟩).kind (l.getD p ⟨0,0,0,0,0⟩).kids.toNat with
      | error x => rfl
      | ok q =>
        have h3:=rd_gt m' l (p + 1) _ _ _ q hk
        exact rd_fuel m m' l q deep ink n (by omega) (by omega) (by omega) (by omega)
theorem rd_one {m:Nat} {l:List Prt} {p deep ink n:Nat} (h1:l.length + 1 - p≤m) (h0:0 < m):rdS m l p deep ink (n + 1) = match rdS m l p deep ink 1 with
    | .error e => .error e
    | .ok q => rdS m l q deep ink n:=by
  obtain ⟨m,rfl⟩:∃ k,m = k + 1:=⟨m - 1,by omega⟩
  rw [rd_cons,rd_cons]
  cases hs:stopS l p deep ink with
  | some x => rfl
  | none =>
    simp only
    have hp:=(stop_none hs).1
    cases hk:rdS m l (p + 1) (deep + 1) (l.getD p ⟨0,0,0,0,0⟩).kind (l.getD p ⟨0,0,0,0,0⟩).kids.toNat with
    | error x => rfl
    | ok q =>
      have h3:=rd_gt m l (p + 1) _ _ _ q hk
      simp only [rd_zero]
      exact rd_fuel m (m + 1) l q deep ink n (by omega) (by omega) (by omega) (by omega)
theorem rd_open {l:List Prt} {p deep ink:Nat} (h:stopS l p deep ink = none):rdS (l.length + 1) l p deep ink 1 = rdS (l.length + 1) l (p + 1) (deep + 1) (l.getD p ⟨0,0,0,0,0⟩).kind (l.getD p ⟨0,0,0,0,0⟩).kids.toNat:=by
  have hp:=(stop_none h).1
  rw [rd_cons,h]
  simp only [rd_zero]
  rw [rd_fuel l.length (l.length + 1) l (p + 1) (deep + 1) _ _ (by omega) (by omega) (by omega) (by omega)]
  split
  · rename_i e he;rw [he]
  · rename_i q he;rw [he]
theorem rd_stop {l:List Prt} {p deep ink:Nat} {e:Nat × Int} (h:stopS l p deep ink = some e):rdS (l.length + 1) l p deep ink 1 = .error e:=by
  rw [rd_cons,h]
theorem stop_shape {l:List Prt} {p deep ink:Nat} (h:p < l.length) (h2:64≤p ∨ badP (l.getD p ⟨0,0,0,0,0⟩) = true ∨ (ink = 2∧(l.getD p ⟨0,0,0,0,0⟩).kind ≠ 0)):stopS l p deep ink = some (p,81):=by
  unfold stopS
  rw [List.getElem?_eq_getElem h]
  rw [List.getD_eq_getElem?_getD,List.getElem?_eq_getElem h] at h2
  exact if_pos h2
theorem stop_deep {l:List Prt} {p deep ink:Nat} (h:p < l.length) (h2:¬ (64≤p ∨ badP (l.getD p ⟨0,0,0,0,0⟩) = true ∨ (ink = 2∧(l.getD p ⟨0,0,0,0,0⟩).kind ≠ 0))):stopS l p deep ink = if 8 < deep then some (p,80) else none:=by
  unfold stopS
  rw [List.getElem?_eq_getElem h]
  rw [List.getD_eq_getElem?_getD,List.getElem?_eq_getElem h] at h2
  exact if_neg h2
def rdT:Except (Nat × Int) Nat→Nat × Nat × Int
  | .ok e => (e,0,0)
  | .error x => (0,x.1,x.2)
def treeS (l:List Prt):Nat × Int:=match rdS (l.length + 1) l 0 1 0 1 with
  | .error x => x
  | .ok e => if e < l.length then (e,81) else (0,0)
def chkS (fr to':Int) (l:List Prt):Int × Int:=if fr < 0 ∨ to'≤fr ∨ 1099511627776 < to' ∨ 4096 < to' - fr then (-1,82) else ((treeS l).1,(treeS l).2)
def endS (l:List Prt) (p:Nat):Nat:=(rdT (rdS (l.length + 1) l p 1 0 1)).1
def kidsGo (l:List Prt):Nat→Nat→List Nat
  | 0,_ => []
  | n + 1,p => p :: kidsGo l n (endS l p)
def kidsS (l:List Prt) (p:Nat):List Nat:=kidsGo l (l.getD p ⟨0,0,0,0,0⟩).kids.toNat (p + 1)
def mayS (l:List Prt) (z:Int):Int:=if (treeS l).2 ≠ 0 then 81 else if z < 0 ∨ (l.length:Int)≤z then 2 else 0
theorem stop_err {l:List Prt} {p deep ink:Nat} {e:Nat × Int} (h:stopS l p deep ink = some e):e.2 = 81 ∨ e.2 = 80:=by
  unfold stopS at h
  split at h
  · cases h;exact .inl rfl
  · split at h
    · cases h;exact .inl rfl
    · split at h
      · cases h;exact .inr rfl
      · cases h
theorem rd_err:∀ (m:Nat) (l:List Prt) (p deep ink n:Nat) (e:Nat × Int),rdS m l p deep ink n = .error e→e.2 = 81 ∨ e.2 = 80
  | m,l,p,deep,ink,0,e,h => by rw [rd_zero] at h;cases h
  | 0,l,p,deep,ink,n + 1,e,h => by cases h;exact .inl rfl
  | m + 1, l, p, deep, ink, n + 1, e, h => by
    rw [rd_cons] at h
    cases hs:stopS l p deep ink with
    | some x => rw [hs] at h;cases h;exact stop_err hs
    | none =>
      rw [hs] at h
      simp only at h
      cases hk:rdS m l (p + 1) (deep + 1) (l.getD p ⟨0,0,0,0,0⟩).kind (l.getD p ⟨0,0,0,0,0⟩).kids.toNat with
      | error x => rw [hk] at h;cases h;exact rd_err m l _ _ _ _ _ hk
      | ok q => rw [hk] at h;exact rd_err m l _ _ _ _ _ h
end
section
theorem rd_fine:∀ (m:Nat) (l:List Prt) (p deep ink n e:Nat),rdS m l p deep ink n = .ok e→∀ i,p≤i→i < e→badP (l.getD i ⟨0,0,0,0,0⟩) = false∧i < 64
  | m,l,p,deep,ink,0,e,h,i,h1,h2 => by rw [rd_zero] at h;cases h;omega
  | 0,l,p,deep,ink,n + 1,e,h,i,h1,h2 => by cases h
  | m + 1, l, p, deep, ink, n + 1, e, h, i, h1, h2 => by
    rw [rd_cons] at h
    cases hs:stopS l p deep ink with
    | some x => rw [hs] at h;cases h
    | none =>
      rw [hs] at h
      simp only at h
      have hp:=stop_none hs
      cases hk:rdS m l (p + 1) (deep + 1) (l.getD p ⟨0,0,0,0,0⟩).kind (l.getD p ⟨0,0,0,0,0⟩).kids.toNat with
      | error x => rw [hk] at h;cases h
      | ok q =>
        rw [hk] at h
        simp only at h
        by_cases c:i = p
        · rw [c];exact ⟨hp.2.2.1,hp.2.1⟩
        · by_cases c2:i < q
          · exact rd_fine m l _ _ _ _ _ hk i (by omega) c2
          · exact rd_fine m l _ _ _ _ _ h i (by omega) h2
theorem tree_fine {l:List Prt} (h:(treeS l).2 = 0):rdS (l.length + 1) l 0 1 0 1 = .ok l.length:=by
  unfold treeS at h
  cases hr:rdS (l.length + 1) l 0 1 0 1 with
  | error x =>
    rw [hr] at h
    rcases rd_err _ _ _ _ _ _ _ hr with e | e <;> rw [e] at h <;> cases h
  | ok e =>
    rw [hr] at h
    simp only at h
    have:=(rd_gt _ _ _ _ _ _ _ hr).2 (by omega)
    split at h
    · cases h
    · rw [show e = l.length by omega]
theorem may_tree {l:List Prt} {z:Int} (h:mayS l z = 0):(treeS l).2 = 0∧0≤z∧z < (l.length:Int):=by
  unfold mayS at h
  split at h
  · cases h
  · rename_i h0
    split at h
    · cases h
    · exact ⟨Decidable.not_not.1 h0,by omega,by omega⟩
theorem tree_part {l:List Prt} (h:(treeS l).2 = 0) {i:Nat} (hi:i < l.length):badP (l.getD i ⟨0,0,0,0,0⟩) = false∧i < 64:=rd_fine _ _ _ _ _ _ _ (tree_fine h) i (Nat.zero_le _) hi
theorem tree_kids {l:List Prt} (h:(treeS l).2 = 0) {i:Nat} (hi:i < l.length):0≤(l.getD i ⟨0,0,0,0,0⟩).kids∧(l.getD i ⟨0,0,0,0,0⟩).kids≤16:=bad_kids (tree_part h hi).1
end
section
theorem stop_same {l l':List Prt} {p:Nat} (h:l'[p]? = l[p]?) (deep ink:Nat):stopS l' p deep ink = stopS l p deep ink:=by
  unfold stopS;rw [h]
theorem getD_same {l l':List Prt} {p:Nat} (h:l'[p]? = l[p]?):l'.getD p ⟨0,0,0,0,0⟩ = l.getD p ⟨0,0,0,0,0⟩:=by
  rw [List.getD_eq_getElem?_getD,List.getD_eq_getElem?_getD,h]
theorem lt_same {l l':List Prt} {p:Nat} (h:l'[p]? = l[p]?) (hp:p < l.length):p < l'.length:=by
  rw [List.getElem?_eq_getElem hp] at h
  exact (List.getElem?_eq_some_iff.1 h).1
theorem rd_ext:∀ (m m':Nat) (l l':List Prt) (p deep ink n e:Nat),rdS m l p deep ink n = .ok e→(∀ i,i < e→l'[i]? = l[i]?)→l'.length + 1 - p≤m'→0 < m'→rdS m' l' p deep ink n = .ok e
  | m,m',l,l',p,deep,ink,0,e,h,_,_,_ => by rw [rd_zero] at h ⊢;exact h
  | 0,m',l,l',p,deep,ink,n + 1,e,h,_,_,_ => by cases h
  | m + 1,0,l,l',p,deep,ink,n + 1,e,h,_,_,h0 => by omega
  | m + 1, m' + 1, l, l', p, deep, ink, n + 1, e, h, hs, hm, _ => by
    have hgt:=rd_gt _ _ _ _ _ _ _ h
    have hp:=hs p (by omega)
    rw [rd_cons] at h ⊢
    rw [stop_same hp,getD_same hp]
    cases hst:stopS l p deep ink with
    | some x => rw [hst] at h;cases h
    | none =>
      rw [hst] at h
      simp only at h ⊢
      have hpl:=lt_same hp (stop_none hst).1
      cases hk:rdS m l (p + 1) (deep + 1) (l.getD p ⟨0,0,0,0,0⟩).kind (l.getD p ⟨0,0,0,0,0⟩).kids.toNat with
      | error x => rw [hk] at h;cases h
      | ok q =>
        rw [hk] at h
        simp only at h
        have h1:=rd_gt _ _ _ _ _ _ _ hk
        have h2:=rd_gt _ _ _ _ _ _ _ h
        rw [rd_ext m m' l l' _ _ _ _ _ hk (fun i hi => hs i (by omega)) (by omega) (by omega)]
        exact rd_ext m m' l l' _ _ _ _ _ h hs (by omega) (by omega)
theorem chk_ok {fr to':Int} {l:List Prt} (h:(chkS fr to' l).2 = 0):chkS fr to' l = (0,0)∧¬ (fr < 0 ∨ to'≤fr ∨ 1099511627776 < to' ∨ 4096 < to' - fr)∧(treeS l).2 = 0∧0 < l.length∧l.length≤64:=by
  have hw:¬ (fr < 0 ∨ to'≤fr ∨ 1099511627776 < to' ∨ 4096 < to' - fr):=fun c => by unfold chkS at h;rw [if_pos c] at h;cases h
  have ht:(treeS l).2 = 0:=by unfold chkS at h;rw [if_neg hw] at h;exact h
  have hr:=tree_fine ht
  have hl:=rd_gt _ _ _ _ _ _ _ hr
  have hz:treeS l = (0,0):=by unfold treeS;rw [hr];simp
  have h64:l.length≤64:=by
    by_cases c:l.length≤64
    · exact c
    · have:=(rd_fine _ _ _ _ _ _ _ hr 64 (by omega) (by omega)).2
      omega
  refine ⟨?_,hw,ht,by omega,h64⟩
  unfold chkS
  rw [if_neg hw,hz]
  rfl
end
section
def lastV (f:List Sg):Int × Int:=if f.length = 0 then (0,0) else vls f (f.length - 1)
def withL (f:List Sg) (t:Int) (v:Int × Int):List Sg:=if v = lastV f then f else f ++ [(t,v)]
end
section
def insT (x:Int):List Int→List Int
  | [] => [x]
  | y :: r => if y < x then y :: insT x r else if y = x then y :: r else x :: y :: r
def timesL (l:List Int):List Int:=l.foldl (fun o x => insT x o) []
theorem insT_mem {x y:Int}:∀ {o:List Int},y ∈ insT x o ↔ y = x ∨ y ∈ o
  | [] => by simp [insT]
  | z :: r => by
    unfold insT
    split
    · rw [List.mem_cons,insT_mem (o:=r),List.mem_cons]
      constructor
      · rintro (h | h | h)
        · exact .inr (.inl h)
        · exact .inl h
        · exact .inr (.inr h)
      · rintro (h | h | h)
        · exact .inr (.inl h)
        · exact .inl h
        · exact .inr (.inr h)
    · split
      · rename_i e
        rw [List.mem_cons]
        constructor
        · rintro (h | h)
          · exact .inl (h.trans e)
          · exact .inr (.inr h)
        · rintro (h | h)
          · exact .inl (h.trans e.symm)
          · exact h
      · rw [List.mem_cons]
theorem insT_up {x:Int}:∀ {o:List Int},o.Pairwise (· < ·)→(insT x o).Pairwise (· < ·)
  | [],_ => by simp [insT]
  | z :: r, h => by
    have hz:=List.pairwise_cons.1 h
    unfold insT
    split
    · rename_i c
      refine List.pairwise_cons.2 ⟨fun y hy => ?_,insT_up hz.2⟩
      rcases insT_mem.1 hy with e | e
      · rw [e];exact c
      · exact hz.1 y e
    · split
      · exact h
      · rename_i c1 c2
        refine List.pairwise_cons.2 ⟨fun y hy => ?_,h⟩
        rcases List.mem_cons.1 hy with e | e
        · rw [e];omega
        · have:=hz.1 y e;omega
theorem insT_len {x:Int}:∀ {o:List Int},(insT x o).length≤o.length + 1
  | [] => by simp [insT]
  | z :: r => by
    unfold insT
    split
    · have:=insT_len (x:=x) (o:=r)
      simp only [List.length_cons];omega
    · split <;> simp
theorem times_aux:∀ (l o:List Int),o.Pairwise (· < ·)→(l.foldl (fun o x => insT x o) o).Pairwise (· < ·)∧(∀ y,y ∈ l.foldl (fun o x => insT x o) o ↔ y ∈ l ∨ y ∈ o)∧(l.foldl (fun o x => insT x o) o).length≤l.length + o.length
  | [],o,h => ⟨h,fun y => by simp,by simp⟩
  | x :: l, o, h => by
    obtain ⟨h1,h2,h3⟩:=times_aux l (insT x o) (insT_up h)
    refine ⟨h1,fun y => ?_, ?_⟩
    · rw [List.foldl_cons,h2,insT_mem,List.mem_cons]
      constructor
      · rintro (h | h | h)
        · exact .inl (.inr h)
        · exact .inl (.inl h)
        · exact .inr h
      · rintro ((h | h) | h)
        · exact .inr (.inl h)
        · exact .inl h
        · exact .inr (.inr h)
    · have:=insT_len (x:=x) (o:=o)
      rw [List.foldl_cons]
      simp only [List.length_cons];omega
theorem timesL_up (l:List Int):(timesL l).Pairwise (· < ·):=(times_aux l [] List.Pairwise.nil).1
theorem timesL_mem {l:List Int} {y:Int}:y ∈ timesL l ↔ y ∈ l:=by
  have:=(times_aux l [] List.Pairwise.nil).2.1 y
  unfold timesL;rw [this];simp
theorem timesL_len (l:List Int):(timesL l).length≤l.length:=by
  have:=(times_aux l [] List.Pairwise.nil).2.2
  unfold timesL;simpa using this
def buildL (g:Int→Int × Int) (ts:List Int):List Sg:=ts.foldl (fun f t => withL f t (g t)) []
theorem buildL_snoc (g:Int→Int × Int) (ts:List Int) (t:Int):buildL g (ts ++ [t]) = withL (buildL g ts) t (g t):=by unfold buildL;rw [List.foldl_append];rfl
def gval (g:Int→Int × Int) (ts:List Int) (t:Int):Int × Int:=ts.foldl (fun acc t' => if t'≤t then g t' else acc) (0,0)
theorem gval_snoc (g:Int→Int × Int) (ts:List Int) (t t0:Int):gval g (ts ++ [t0]) t = if t0≤t then g t0 else gval g ts t:=by unfold gval;rw [List.foldl_append];rfl
theorem cf_snoc:∀ {f:List Sg} {last:Int × Int} {t:Int} {v:Int × Int},CF last f→(∀ x ∈ f,x.1 < t)→okS (t,v) = true→v ≠ (if f = [] then last else lastV f)→CF last (f ++ [(t,v)])
  | [],last,t,v,_,_,h3,h4 => ⟨h3,by rw [if_pos rfl] at h4;exact h4,fun x hx => by simp at hx,trivial⟩
  | s :: r, last, t, v, h1, h2, h3, h4 => by
    obtain ⟨a1,a2,a3,a4⟩:=h1
    refine ⟨a1,a2,fun x hx => ?_,cf_snoc a4 (fun x hx => h2 x (List.mem_cons_of_mem _ hx)) h3 ?_⟩
    · rcases List.mem_append.1 hx with h | h
      · exact a3 x h
      · simp at h;subst h;exact h2 s (by simp)
    · rw [if_neg (by simp)] at h4
      unfold lastV at h4
      rw [if_neg (by simp)] at h4
      cases r with
      | nil => simpa [vls] using h4
      | cons u r' =>
        rw [if_neg (by simp)]
        unfold lastV
        rw [if_neg (by simp)]
        simpa [vls] using h4
theorem lastV_snoc (f:List Sg) (s:Sg):lastV (f ++ [s]) = s.2:=by
  unfold lastV vls
  rw [if_neg (by simp)]
  have e:(f ++ [s]).length - 1 = f.length:=by simp
  rw [e,getD_app_r]
theorem vat_all:∀ (n:Nat) (f:List Sg) (t:Int),f.length = n→(∀ x ∈ f,x.1≤t)→vat f t = lastV f
  | 0, f, t, h, _ => by
    have:f = []:=List.eq_nil_of_length_eq_zero h
    subst this;rfl
  | n + 1, f, t, h, hx => by
    obtain ⟨f',s,rfl⟩:∃ l' s,f = l' ++ [s]:=⟨f.dropLast,f.getLast (by intro e;subst e;simp at h),(List.dropLast_concat_getLast _).symm⟩
    rw [vat_snoc,lastV_snoc,if_pos (hx s (by simp))]
theorem buildL_all (g:Int→Int × Int):∀ (n:Nat) (ts:List Int),ts.length = n→ts.Pairwise (· < ·)→(∀ t ∈ ts,okS (t,g t) = true) →
    CF (0,0) (buildL g ts)∧(∀ x ∈ buildL g ts,x.1 ∈ ts)∧(∀ t,vat (buildL g ts) t = gval g ts t)∧(buildL g ts).length≤ts.length
  | 0, ts, h, _, _ => by
    have:ts = []:=List.eq_nil_of_length_eq_zero h
    subst this
    exact ⟨trivial,fun x hx => by simp [buildL] at hx,fun t => rfl,Nat.le_refl _⟩
  | n + 1, ts, h, hu, ho => by
    obtain ⟨ts',t0,rfl⟩:∃ l' s,ts = l' ++ [s]:=⟨ts.dropLast,ts.getLast (by intro e;subst e;simp at h),(List.dropLast_concat_getLast _).symm⟩
    have hu':=List.pairwise_append.1 hu
    obtain ⟨i1,i2,i3,i4⟩:=buildL_all g n ts' (by simp at h;omega) hu'.1 (fun t ht => ho t (by simp [ht]))
    have hlt:∀ x ∈ buildL g ts',x.1 < t0:=fun x hx => hu'.2.2 x.1 (i2 x hx) t0 (by simp)
    rw [buildL_snoc]
    unfold withL
    by_cases c:g t0 = lastV (buildL g ts')
    · rw [if_pos c]
      refine ⟨i1,fun x hx => by simp [i2 x hx],fun t => ?_,by simp;omega⟩
      rw [gval_snoc]
      by_cases k:t0≤t
      · rw [if_pos k,c]
        exact vat_all _ _ t rfl (fun x hx => by have:=hlt x hx;omega)
      · rw [if_neg k];exact i3 t
    · rw [if_neg c]
      refine ⟨cf_snoc i1 hlt (ho t0 (by simp)) ?_,fun x hx => ?_,fun t => ?_,by simp;omega⟩
      · split
        · rename_i e
          rw [e] at c;exact c
        · exact c
      · rcases List.mem_append.1 hx with q | q
        · simp [i2 x q]
        · simp at q;subst q;simp
      · rw [vat_snoc,gval_snoc,i3]
theorem gval_none {g:Int→Int × Int} {t:Int}:∀ (n:Nat) (ts:List Int),ts.length = n→(∀ x ∈ ts,t < x)→gval g ts t = (0,0)
  | 0, ts, h, _ => by
    have:ts = []:=List.eq_nil_of_length_eq_zero h
    subst this;rfl
  | n + 1, ts, h, hx => by
    obtain ⟨ts',t0,rfl⟩:∃ l' s,ts = l' ++ [s]:=⟨ts.dropLast,ts.getLast (by intro e;subst e;simp at h),(List.dropLast_concat_getLast _).symm⟩
    have:=hx t0 (by simp)
    rw [gval_snoc,if_neg (by omega)]
    exact gval_none n ts' (by simp at h;omega) fun x hx' => hx x (by simp [hx'])
theorem gval_some {g:Int→Int × Int} {t s:Int}:∀ (n:Nat) (ts:List Int),ts.length = n→ts.Pairwise (· < ·)→s ∈ ts→s≤t→(∀ x ∈ ts,x≤t→x≤s)→gval g ts t = g s
  | 0, ts, h, _, hm, _, _ => by
    have:ts = []:=List.eq_nil_of_length_eq_zero h
    subst this;simp at hm
  | n + 1, ts, h, hu, hm, hs, hx => by
    obtain ⟨ts',t0,rfl⟩:∃ l' s,ts = l' ++ [s]:=⟨ts.dropLast,ts.getLast (by intro e;subst e;simp at h),(List.dropLast_concat_getLast _).symm⟩
    have hu':=List.pairwise_append.1 hu
    rw [gval_snoc]
    rcases List.mem_append.1 hm with q | q
    · have h1:=hu'.2.2 s q t0 (by simp)
      have h2:¬ t0≤t:=fun h2 => by have:=hx t0 (by simp) h2;omega
      rw [if_neg h2]
      exact gval_some n ts' (by simp at h;omega) hu'.1 q hs fun x hx' => hx x (by simp [hx'])
    · simp at q;subst q
      rw [if_pos hs]
end
section
def okAt (last:Int × Int) (l:List Sg) (i:Nat):Bool:=okS (l.getD i (0,0,0)) && !(vls l i == (if i = 0 then last else vls l (i - 1))) && (decide (i = 0) || decide (ats l (i - 1) < ats l i))
theorem okAt_succ (last:Int × Int) (s:Sg) (r:List Sg) (i:Nat):okAt last (s :: r) (i + 1) = true ↔ okAt s.2 r i = true∧(i = 0→s.1 < ats r 0):=by
  unfold okAt
  cases i with
  | zero => simp [ats,vls]
  | succ i => simp [ats,vls]
theorem cf_okAt:∀ (l:List Sg) (last:Int × Int),CF last l ↔ ∀ i,i < l.length→okAt last l i = true
  | [],_ => ⟨fun _ i h => by simp at h,fun _ => trivial⟩
  | s :: r, last => by
    have ih:=cf_okAt r s.2
    constructor
    · rintro ⟨a1,a2,a3,a4⟩ i hi
      cases i with
      | zero => unfold okAt;simp [vls,a1,a2]
      | succ i =>
        rw [okAt_succ]
        have hi':i < r.length:=by simpa using hi
        refine ⟨ih.1 a4 i hi',fun e => ?_⟩
        subst e
        unfold ats
        rw [getD_get _ _ _ hi']
        exact a3 _ (List.getElem_mem hi')
    · intro h
      have h0:=h 0 (by simp)
      unfold okAt at h0
      simp [vls] at h0
      have hr:CF s.2 r:=ih.2 fun i hi => ((okAt_succ last s r i).1 (h (i + 1) (by simp;omega))).1
      refine ⟨h0.1,h0.2,fun x hx => ?_,hr⟩
      cases r with
      | nil => simp at hx
      | cons u r' =>
        have h1:=((okAt_succ last s (u :: r') 0).1 (h 1 (by simp))).2 rfl
        simp [ats] at h1
        rcases List.mem_cons.1 hx with e | e
        · rw [e];exact h1
        · have:=hr.2.2.1 x e
          omega
def mayB (l:List Sg):Bool:=(List.range l.length).all fun i => okAt (0,0) l i
theorem mayB_iff {l:List Sg}:mayB l = true ↔ Canon l:=by
  unfold mayB Canon
  rw [cf_okAt,List.all_eq_true]
  simp only [List.mem_range]
theorem mayB_bad {l:List Sg} {i:Nat} (hi:i < l.length) (h:okAt (0,0) l i = false):mayB l = false:=by
  unfold mayB
  rw [List.all_eq_false]
  exact ⟨i,by simpa using hi,by rw [h];exact Bool.false_ne_true⟩
theorem mayB_good {l:List Sg} (h:∀ i,i < l.length→okAt (0,0) l i = true):mayB l = true:=by
  unfold mayB
  rw [List.all_eq_true]
  intro i hi
  exact h i (by simpa using hi)
def prevV (l:List Sg) (i:Nat):Int × Int:=if i = 0 then (0,0) else vls l (i - 1)
theorem prevV_succ (l:List Sg) (i:Nat):prevV l (i + 1) = vls l i:=by unfold prevV;rw [if_neg (by omega),Nat.add_sub_cancel]
end
section
def opV (k:Int) (a b:Int × Int):Int × Int × Int :=
  if k = 0 then addS a.1 a.2 b.1 b.2 else if k = 1 then subS a.1 a.2 b.1 b.2 else if k = 2 then (mn a.1 b.1,mn a.2 b.2,0) else (mx a.1 b.1,mx a.2 b.2,0)
theorem opV_0 (a b c d:Int):opV 0 (a,b) (c,d) = addS a b c d:=rfl
def twoT (f g:List Sg):List Int:=timesL (f.map (·.1) ++ g.map (·.1))
theorem twoT_len (f g:List Sg):(twoT f g).length≤f.length + g.length:=by
  have:=timesL_len (f.map (·.1) ++ g.map (·.1))
  simpa [twoT] using this
theorem twoT_up (f g:List Sg):(twoT f g).Pairwise (· < ·):=timesL_up _
theorem twoT_mem {f g:List Sg} {t:Int}:t ∈ twoT f g ↔ (∃ s ∈ f,s.1 = t) ∨ ∃ s ∈ g,s.1 = t:=by
  unfold twoT;rw [timesL_mem];simp
def opT (k:Int) (f g:List Sg) (t:Int):Int × Int × Int:=opV k (vat f t) (vat g t)
def opW (k:Int) (f g:List Sg) (t:Int):Int × Int:=((opT k f g t).1,(opT k f g t).2.1)
def opOk (k:Int) (f g:List Sg):Bool:=(twoT f g).all fun t => (opT k f g t).2.2 == 0
def opL (k:Int) (f g:List Sg):List Sg:=buildL (opW k f g) (twoT f g)
def doS (k:Int) (f g:List Sg):List Sg × Int:=if (mayB f && mayB g) = false then ([],5) else if opOk k f g then (opL k f g,0) else ([],10)
theorem doS_ok {k:Int} {f g:List Sg} (h1:mayB f = true) (h2:mayB g = true) (h:∀ i,i < (twoT f g).length→(opT k f g ((twoT f g).getD i 0)).2.2 = 0):doS k f g = (opL k f g,0):=by
  unfold doS
  rw [h1,h2,if_neg (by decide),if_pos]
  unfold opOk
  rw [List.all_eq_true]
  intro t ht
  obtain ⟨i,hi,rfl⟩:=List.getElem_of_mem ht
  have:=h i hi
  rw [getD_get _ _ _ hi] at this
  simp [this]
theorem doS_bad {k:Int} {f g:List Sg} {i:Nat} (h1:mayB f = true) (h2:mayB g = true) (hi:i < (twoT f g).length) (h:(opT k f g ((twoT f g).getD i 0)).2.2 ≠ 0):doS k f g = ([],10):=by
  unfold doS
  rw [h1,h2,if_neg (by decide),if_neg]
  intro c
  unfold opOk at c
  rw [List.all_eq_true] at c
  rw [getD_get _ _ _ hi] at h
  have:=c _ (List.getElem_mem hi)
  exact h (by simpa using this)
def sumE (l:List (List Sg)):List Sg × Int:=l.foldl (fun acc f => if acc.2 = 0 then doS 0 acc.1 f else acc) ([],0)
def sumS (l:List (List Sg)):List Sg × Int:=if l.all mayB then sumE l else ([],5)
end
section
theorem foldl_same {s t:Int}:∀ (l:List Sg) (acc:Int × Int),(∀ x ∈ l,x.1≤s ↔ x.1≤t)→l.foldl (stepV s) acc = l.foldl (stepV t) acc
  | [],_,_ => rfl
  | x :: r, acc, h => by
    have e:stepV s acc x = stepV t acc x:=by
      unfold stepV
      have:=h x (by simp)
      by_cases c:x.1≤s
      · rw [if_pos c,if_pos (this.1 c)]
      · rw [if_neg c,if_neg (fun c' => c (this.2 c'))]
    rw [List.foldl_cons,List.foldl_cons,e]
    exact foldl_same r _ fun y hy => h y (List.mem_cons_of_mem _ hy)
theorem vat_same {l:List Sg} {s t:Int} (h:∀ x ∈ l,x.1≤s ↔ x.1≤t):vat l s = vat l t:=foldl_same l _ h
theorem vat_before {l:List Sg} {t:Int} (h:∀ x ∈ l,t < x.1):vat l t = (0,0):=foldl_gt t l _ h
theorem lastT {t:Int}:∀ (ts:List Int),(∀ x ∈ ts,t < x) ∨ ∃ s ∈ ts,s≤t∧∀ x ∈ ts,x≤t→x≤s
  | [] => .inl fun x hx => by simp at hx
  | y :: r => by
    rcases lastT (t:=t) r with h | ⟨s,hs,h1,h2⟩
    · by_cases c:y≤t
      · refine .inr ⟨y,by simp,c,fun x hx hxt => ?_⟩
        rcases List.mem_cons.1 hx with e | e
        · omega
        · have:=h x e;omega
      · refine .inl fun x hx => ?_
        rcases List.mem_cons.1 hx with e | e
        · omega
        · exact h x e
    · by_cases c:y≤t∧s < y
      · refine .inr ⟨y,by simp,c.1,fun x hx hxt => ?_⟩
        rcases List.mem_cons.1 hx with e | e
        · omega
        · have:=h2 x e hxt;omega
      · refine .inr ⟨s,List.mem_cons_of_mem _ hs,h1,fun x hx hxt => ?_⟩
        rcases List.mem_cons.1 hx with e | e
        · omega
        · exact h2 x e hxt
theorem vat_ok {f:List Sg} (h:∀ x ∈ f,okS x = true) (t:Int):okV (vat f t).1 (vat f t).2 = true:=by
  have:∀ (l:List Sg) (acc:Int × Int),(∀ x ∈ l,okS x = true)→okV acc.1 acc.2 = true→okV (l.foldl (stepV t) acc).1 (l.foldl (stepV t) acc).2 = true:=by
    intro l
    induction l with
    | nil => intro acc _ h;exact h
    | cons x r ih =>
      intro acc hl ha
      rw [List.foldl_cons]
      refine ih _ (fun y hy => hl y (List.mem_cons_of_mem _ hy)) ?_
      unfold stepV
      split
      · have:=hl x (by simp)
        unfold okS at this
        rw [Bool.and_eq_true] at this
        exact this.2
      · exact ha
  exact this f (0,0) h (by decide)
theorem gate_ok {b:Bool} {x y:Int} (h:(gate b x y).2.2 = 0):b = true:=by
  unfold gate at h
  cases b
  · simp at h
  · rfl
theorem opV_ok {k:Int} {a b:Int × Int} (ha:okV a.1 a.2 = true) (hb:okV b.1 b.2 = true) (h:(opV k a b).2.2 = 0):okV (opV k a b).1 (opV k a b).2.1 = true:=by
  have A:=okV_iff.1 ha;have B:=okV_iff.1 hb
  unfold opV at h ⊢
  split
  · rename_i h0
    rw [if_pos h0] at h
    unfold addS at h ⊢
    have hg:=gate_ok h
    rw [gate_true hg]
    simp only [Bool.and_eq_true] at hg
    exact hg.2
  · rename_i h0
    rw [if_neg h0] at h
    split
    · rename_i h1
      rw [if_pos h1] at h
      unfold subS at h ⊢
      have hg:=gate_ok h
      rw [gate_true hg]
      simp only [Bool.and_eq_true] at hg
      exact hg.2
    · split
      · rw [okV_iff];unfold mn;simp only;split <;> split <;> omega
      · rw [okV_iff];unfold mx;simp only;split <;> split <;> omega
theorem opV_zero (k:Int):opV k (0,0) (0,0) = (0,0,0):=by
  unfold opV
  split
  · decide
  · split
    · decide
    · split <;> decide
theorem opT_last (k:Int) (f g:List Sg) (t:Int):((∀ x ∈ twoT f g,t < x)∧opT k f g t = (0,0,0)) ∨ ∃ s ∈ twoT f g,s≤t∧(∀ x ∈ twoT f g,x≤t→x≤s)∧opT k f g t = opT k f g s:=by
  rcases lastT (t:=t) (twoT f g) with h | ⟨s,hs,h1,h2⟩
  · refine .inl ⟨h, ?_⟩
    unfold opT
    rw [vat_before (fun x hx => h x.1 (twoT_mem.2 (.inl ⟨x,hx,rfl⟩))),vat_before (fun x hx => h x.1 (twoT_mem.2 (.inr ⟨x,hx,rfl⟩)))]
    exact opV_zero k
  · refine .inr ⟨s,hs,h1,h2, ?_⟩
    unfold opT
    rw [vat_same (l:=f) (s:=s) (t:=t) (fun x hx => ⟨fun h => by omega,fun h => h2 x.1 (twoT_mem.2 (.inl ⟨x,hx,rfl⟩)) h⟩),
      vat_same (l:=g) (s:=s) (t:=t) (fun x hx => ⟨fun h => by omega,fun h => h2 x.1 (twoT_mem.2 (.inr ⟨x,hx,rfl⟩)) h⟩)]
theorem opOk_iff {k:Int} {f g:List Sg}:opOk k f g = true ↔ ∀ t,(opT k f g t).2.2 = 0:=by
  unfold opOk
  rw [List.all_eq_true]
  constructor
  · intro h t
    rcases opT_last k f g t with ⟨_,e⟩ | ⟨s,hs,_,_,e⟩
    · rw [e]
    · rw [e];simpa using h s hs
  · intro h t _
    simp [h t]
theorem opL_spec {k:Int} {f g:List Sg} (hf:Canon f) (hg:Canon g) (h:opOk k f g = true):Canon (opL k f g)∧∀ t,vat (opL k f g) t = opW k f g t:=by
  have he:=opOk_iff.1 h
  have hok:∀ t ∈ twoT f g,okS (t,opW k f g t) = true:=fun t ht => by
    have h1:okV (opW k f g t).1 (opW k f g t).2 = true:=opV_ok (vat_ok (CF.ok hf) t) (vat_ok (CF.ok hg) t) (he t)
    have h2:okT t = true:=by
      rcases twoT_mem.1 ht with ⟨x,hx,rfl⟩ | ⟨x,hx,rfl⟩
      · have:=CF.ok hf x hx
        unfold okS at this
        rw [Bool.and_eq_true] at this
        exact this.1
      · have:=CF.ok hg x hx
        unfold okS at this
        rw [Bool.and_eq_true] at this
        exact this.1
    unfold okS
    rw [Bool.and_eq_true]
    exact ⟨h2,h1⟩
  obtain ⟨h1,_,h3,_⟩:=buildL_all (opW k f g) _ (twoT f g) rfl (twoT_up f g) hok
  refine ⟨h1,fun t => ?_⟩
  unfold opL
  rw [h3]
  rcases opT_last k f g t with ⟨hn,e⟩ | ⟨s,hs,hst,hl,e⟩
  · rw [gval_none _ _ rfl hn]
    unfold opW;rw [e]
  · rw [gval_some _ _ rfl (twoT_up f g) hs hst hl]
    unfold opW;rw [e]
theorem opL_len (k:Int) (f g:List Sg):(opL k f g).length≤f.length + g.length:=by
  have h:∀ (gv:Int→Int × Int) (ts:List Int) (f:List Sg),(ts.foldl (fun f t => withL f t (gv t)) f).length≤f.length + ts.length:=by
    intro gv ts
    induction ts with
    | nil => intro f;simp
    | cons t r ih =>
      intro f
      rw [List.foldl_cons]
      have h1:=ih (withL f t (gv t))
      have h2:(withL f t (gv t)).length≤f.length + 1:=by unfold withL;split <;> simp
      simp only [List.length_cons]
      omega
  have h1:=h (opW k f g) (twoT f g) []
  have h2:=twoT_len f g
  unfold opL buildL
  simp at h1
  omega
theorem opL_unique {k:Int} {f g F:List Sg} (hf:Canon f) (hg:Canon g) (h:opOk k f g = true) (hF:Canon F) (hv:∀ t,vat F t = opW k f g t):F = opL k f g:=by
  obtain ⟨h1,h2⟩:=opL_spec hf hg h
  exact cf_ext hF h1 fun t => (hv t).trans (h2 t).symm
end
section
def contS (l:List Prt):List (Nat × Nat)→Nat→Except (Nat × Int) Nat
  | [],p => .ok p
  | x :: st, p => match rdS (l.length + 1) l p (st.length + 2) x.1 x.2 with
    | .error e => .error e
    | .ok q => contS l st q
def treeOf (l:List Prt):Except (Nat × Int) Nat→Nat × Int
  | .error x => x
  | .ok e => if e < l.length then (e,81) else (0,0)
theorem tree_of (l:List Prt):treeS l = treeOf l (rdS (l.length + 1) l 0 1 0 1):=by
  unfold treeS treeOf
  rfl
theorem of_first {l:List Prt} (h:stopS l 0 1 0 = none):treeS l = treeOf l (contS l [((l.getD 0 ⟨0,0,0,0,0⟩).kind,(l.getD 0 ⟨0,0,0,0,0⟩).kids.toNat)] 1):=by
  rw [tree_of,rd_open h]
  simp only [contS,List.length_nil]
  split
  · rename_i e he;rw [he]
  · rename_i q hq;rw [hq]
theorem of_first_stop {l:List Prt} {e:Nat × Int} (h:stopS l 0 1 0 = some e):treeS l = e:=by
  rw [tree_of,rd_stop h];rfl
theorem cont_zero (l:List Prt) (k:Nat) (st:List (Nat × Nat)) (p:Nat):contS l ((k,0) :: st) p = contS l st p:=by
  simp only [contS,rd_zero]
theorem cont_stop {l:List Prt} {k n p:Nat} {st:List (Nat × Nat)} {e:Nat × Int} (h:stopS l p (st.length + 2) k = some e):contS l ((k,n + 1) :: st) p = .error e:=by
  simp only [contS]
  rw [rd_cons,h]
theorem cont_open {l:List Prt} {k n p:Nat} {st:List (Nat × Nat)} (h:stopS l p (st.length + 2) k = none) :
    contS l ((k,n + 1) :: st) p = contS l (((l.getD p ⟨0,0,0,0,0⟩).kind,(l.getD p ⟨0,0,0,0,0⟩).kids.toNat) :: (k,n) :: st) (p + 1):=by
  simp only [contS,List.length_cons]
  rw [rd_one (by omega) (by omega),rd_open h]
  rw [show st.length + 1 + 2 = st.length + 2 + 1 by omega]
  cases rdS (l.length + 1) l (p + 1) (st.length + 2 + 1) (l.getD p ⟨0,0,0,0,0⟩).kind (l.getD p ⟨0,0,0,0,0⟩).kids.toNat <;> rfl
def stk (O:Nat→Nat × Nat):Nat→List (Nat × Nat)
  | 0 => []
  | d + 1 => O d :: stk O d
theorem stk_len (O:Nat→Nat × Nat):∀ d,(stk O d).length = d
  | 0 => rfl
  | d + 1 => by rw [stk,List.length_cons,stk_len O d]
def putO (O:Nat→Nat × Nat) (i:Nat) (x:Nat × Nat):Nat→Nat × Nat:=fun j => if j = i then x else O j
theorem putO_eq (O:Nat→Nat × Nat) (i:Nat) (x:Nat × Nat):putO O i x i = x:=if_pos rfl
theorem putO_ne (O:Nat→Nat × Nat) {i j:Nat} (x:Nat × Nat) (h:j ≠ i):putO O i x j = O j:=if_neg h
theorem stk_put (O:Nat→Nat × Nat) (i:Nat) (x:Nat × Nat):∀ d,d≤i→stk (putO O i x) d = stk O d
  | 0,_ => rfl
  | d + 1,h => by rw [stk,stk,stk_put O i x d (by omega),putO_ne O x (by omega)]
def popN (O:Nat→Nat × Nat):Nat→Nat
  | 0 => 0
  | d + 1 => if (O d).2 = 0 then popN O d else d + 1
theorem popN_le (O:Nat→Nat × Nat):∀ d,popN O d≤d
  | 0 => Nat.le_refl _
  | d + 1 => by
    unfold popN
    have:=popN_le O d
    split <;> omega
theorem popN_top (O:Nat→Nat × Nat):∀ d,popN O d = 0 ∨ (O (popN O d - 1)).2 ≠ 0
  | 0 => .inl rfl
  | d + 1 => by
    unfold popN
    split
    · exact popN_top O d
    · rename_i h;exact .inr h
theorem cont_pop (l:List Prt) (O:Nat→Nat × Nat) (p:Nat):∀ d,contS l (stk O (popN O d)) p = contS l (stk O d) p
  | 0 => rfl
  | d + 1 => by
    unfold popN
    split
    · rename_i h
      rw [cont_pop l O p d]
      show _ = contS l (O d :: stk O d) p
      rw [show O d = ((O d).1,0) by rw [← h],cont_zero]
    · rfl
def rowO (d:Nat) (O:Nat→Nat × Nat):Nat→Nat × Nat:=if d = 0 then O else putO O (d - 1) ((O (d - 1)).1,(O (d - 1)).2 - 1)
def nextO (d:Nat) (O:Nat→Nat × Nat) (x:Prt):Nat→Nat × Nat:=if x.kind = 0 then rowO d O else putO (rowO d O) d (x.kind,x.kids.toNat)
def nextD (d:Nat) (x:Prt):Nat:=if x.kind = 0 then d else d + 1
def reasS (p d:Nat) (O:Nat→Nat × Nat) (x:Prt):Nat→Bool
  | 0 => decide (0 < p) && decide (d = 0)
  | 1 => decide (64≤p)
  | 2 => badP x
  | 3 => decide (0 < d) && (decide ((O (d - 1)).1 = 2) && decide (x.kind ≠ 0))
  | 4 => decide (8≤d)
  | _ => false
structure AtS (l:List Prt) (p d:Nat) (O:Nat→Nat × Nat):Prop where
  le:d≤8
  first:p = 0→d = 0
  top:d = 0 ∨ (O (d - 1)).2 ≠ 0
  num:∀ i,(O i).2≤16
  kin:∀ i,(O i).1≤4
  eq:0 < p→treeS l = treeOf l (contS l (stk O d) p)
theorem at_start (l:List Prt):AtS l 0 0 (fun _ => (0,0)):=⟨by omega,fun _ => rfl,.inl rfl,fun _ => by simp,fun _ => by simp,fun h => by omega⟩
theorem at_err {l:List Prt} {p d:Nat} {O:Nat→Nat × Nat} (h:AtS l p d O) (hd:0 < d) {e:Nat × Int} (hs:stopS l p (d + 1) (O (d - 1)).1 = some e):treeS l = e:=by
  have h0:0 < p:=Nat.pos_of_ne_zero fun c => by have:=h.first c;omega
  obtain ⟨d,rfl⟩:∃ k,d = k + 1:=⟨d - 1,by omega⟩
  simp only [Nat.add_sub_cancel] at hs
  have ht:=h.top
  simp only [Nat.add_sub_cancel] at ht
  obtain ⟨n,hn⟩:∃ n,(O d).2 = n + 1:=⟨(O d).2 - 1,by omega⟩
  rw [h.eq h0,stk,show O d = ((O d).1,n + 1) by rw [← hn],cont_stop (by rw [stk_len];exact hs)]
  rfl
theorem at_end {l:List Prt} {p d:Nat} {O:Nat→Nat × Nat} (h:AtS l p d O) (hp:l.length = p):treeS l = if p = 0 ∨ 0 < d then (p,81) else (0,0):=by
  by_cases h0:p = 0
  · rw [if_pos (.inl h0),of_first_stop (stop_out (by omega)),h0]
  · by_cases hd:0 < d
    · rw [if_pos (.inr hd)]
      exact at_err h hd (stop_out (by omega))
    · rw [if_neg (by omega),h.eq (by omega),show d = 0 by omega]
      show treeOf l (.ok p) = _
      unfold treeOf
      simp only
      rw [if_neg (by omega)]
theorem at_reas {l:List Prt} {p d:Nat} {O:Nat→Nat × Nat} (h:AtS l p d O) (hp:p < l.length):∀ k,k < 5→(∀ j,j < k→reasS p d O (l.getD p ⟨0,0,0,0,0⟩) j = false)→reasS p d O (l.getD p ⟨0,0,0,0,0⟩) k = true→treeS l = (p,if k = 4 then 80 else 81):=by
  intro k hk hj ht
  have shape:0 < d ∨ p = 0→(64≤p ∨ badP (l.getD p ⟨0,0,0,0,0⟩) = true ∨ (0 < d∧(O (d - 1)).1 = 2∧(l.getD p ⟨0,0,0,0,0⟩).kind ≠ 0))→treeS l = (p,81):=by
    intro h1 h2
    by_cases hd:0 < d
    · exact at_err h hd (stop_shape hp (by rcases h2 with h2 | h2 | h2;exact .inl h2;exact .inr (.inl h2);exact .inr (.inr h2.2)))
    · have hp0:p = 0:=by omega
      subst hp0
      exact of_first_stop (stop_shape hp (by rcases h2 with h2 | h2 | h2;exact .inl h2;exact .inr (.inl h2);omega))
  have out:∀ j,k = j + 1→0 < d ∨ p = 0:=fun j hj' => by
    have:=hj 0 (by omega)
    simp only [reasS,Bool.and_eq_false_iff,decide_eq_false_iff_not] at this
    omega
  rcases (show k = 0 ∨ k = 1 ∨ k = 2 ∨ k = 3 ∨ k = 4 by omega) with rfl | rfl | rfl | rfl | rfl
  · simp only [reasS,Bool.and_eq_true,decide_eq_true_eq] at ht
    rw [h.eq ht.1,ht.2]
    show treeOf l (.ok p) = _
    unfold treeOf
    simp only
    rw [if_pos hp,if_neg (by omega)]
  · simp only [reasS,decide_eq_true_eq] at ht
    rw [shape (out 0 rfl) (.inl ht)];rfl
  · simp only [reasS] at ht
    rw [shape (out 1 rfl) (.inr (.inl ht))];rfl
  · simp only [reasS,Bool.and_eq_true,decide_eq_true_eq] at ht
    rw [shape (out 2 rfl) (.inr (.inr ⟨ht.1,ht.2.1,ht.2.2⟩))];rfl
  · simp only [reasS,decide_eq_true_eq] at ht
    have h1:=hj 1 (by omega)
    have h2:=hj 2 (by omega)
    have h3:=hj 3 (by omega)
    simp only [reasS] at h1 h2 h3
    have h1':=of_decide_eq_false h1
    refine at_err h (by omega) ?_
    rw [stop_deep hp (by
      rintro (c | c | c)
      · exact h1' c
      · rw [h2] at c;cases c
      · rw [decide_eq_true (by omega),decide_eq_true c.1,decide_eq_true c.2] at h3;cases h3),if_pos (by omega)]
    rfl
theorem at_next {l:List Prt} {p d:Nat} {O:Nat→Nat × Nat} (h:AtS l p d O) (hp:p < l.length) (hr:∀ j,j < 5→reasS p d O (l.getD p ⟨0,0,0,0,0⟩) j = false) :
    p < 64∧d < 8∧AtS l (p + 1) (popN (nextO d O (l.getD p ⟨0,0,0,0,0⟩)) (nextD d (l.getD p ⟨0,0,0,0,0⟩))) (nextO d O (l.getD p ⟨0,0,0,0,0⟩)):=by
  have h0:=hr 0 (by omega)
  have h1:=hr 1 (by omega)
  have h2:=hr 2 (by omega)
  have h3:=hr 3 (by omega)
  have h4:=hr 4 (by omega)
  simp only [reasS] at h0 h1 h2 h3 h4
  have h1':=of_decide_eq_false h1
  have h4':=of_decide_eq_false h4
  have hks:=bad_kids h2
  have hkind:(l.getD p ⟨0,0,0,0,0⟩).kind≤4:=by
    unfold badP at h2
    split at h2
    · omega
    · have:=of_decide_eq_false h2;omega
  have hk0:(l.getD p ⟨0,0,0,0,0⟩).kind = 0→(l.getD p ⟨0,0,0,0,0⟩).kids.toNat = 0:=fun c => by
    unfold badP at h2
    rw [if_pos c] at h2
    have:=of_decide_eq_false h2;omega
  have hrn:∀ i,(rowO d O i).2≤16:=fun i => by
    unfold rowO
    split
    · exact h.num i
    · unfold putO
      split
      · have:=h.num (d - 1);simp only;omega
      · exact h.num i
  have hrk:∀ i,(rowO d O i).1≤4:=fun i => by
    unfold rowO
    split
    · exact h.kin i
    · unfold putO
      split
      · exact h.kin (d - 1)
      · exact h.kin i
  refine ⟨by omega,by omega, ?_,fun c => by omega,popN_top _ _, ?_, ?_,fun _ => ?_⟩
  · refine Nat.le_trans (popN_le _ _) ?_
    unfold nextD
    split <;> omega
  · intro i
    unfold nextO
    split
    · exact hrn i
    · unfold putO
      split
      · simp only;omega
      · exact hrn i
  · intro i
    unfold nextO
    split
    · exact hrk i
    · unfold putO
      split
      · simp only;omega
      · exact hrk i
  · rw [cont_pop]
    generalize hx:l.getD p ⟨0,0,0,0,0⟩ = x at *
    have hcont:contS l (stk (nextO d O x) (nextD d x)) (p + 1) = contS l ((x.kind,x.kids.toNat) :: stk (rowO d O) d) (p + 1):=by
      unfold nextO nextD
      by_cases c:x.kind = 0
      · rw [if_pos c,if_pos c,hk0 c,cont_zero]
      · rw [if_neg c,if_neg c,stk,putO_eq,stk_put _ _ _ _ (Nat.le_refl _)]
    rw [hcont]
    by_cases hd:d = 0
    · have hp0:p = 0:=by
        simp only [Bool.and_eq_false_iff,decide_eq_false_iff_not] at h0
        omega
      subst hp0
      have hs:stopS l 0 1 0 = none:=by
        rw [stop_deep hp (by
          rw [hx]
          rintro (c | c | c)
          · omega
          · rw [h2] at c;cases c
          · omega)]
        rfl
      rw [of_first hs,hx,hd]
      rfl
    · have hs:stopS l p (d + 1) (O (d - 1)).1 = none:=by
        rw [stop_deep hp (by
          rw [hx]
          rintro (c | c | c)
          · omega
          · rw [h2] at c;cases c
          · rw [decide_eq_true (show 0 < d by omega),decide_eq_true c.1,decide_eq_true c.2] at h3;cases h3)]
        rw [if_neg (by omega)]
      have hp0:0 < p:=Nat.pos_of_ne_zero fun c => by have:=h.first c;omega
      obtain ⟨d,rfl⟩:∃ k,d = k + 1:=⟨d - 1,by omega⟩
      simp only [Nat.add_sub_cancel] at hs
      have ht:=h.top
      simp only [Nat.add_sub_cancel] at ht
      obtain ⟨n,hn⟩:∃ n,(O d).2 = n + 1:=⟨(O d).2 - 1,by omega⟩
      rw [h.eq hp0,stk,show O d = ((O d).1,n + 1) by rw [← hn],cont_open (by rw [stk_len];exact hs),hx]
      unfold rowO
      rw [if_neg (by omega),Nat.add_sub_cancel,stk,putO_eq,stk_put _ _ _ _ (Nat.le_refl _),hn]
      rfl
end
end Go.Proofs.YthlepbbdjmmelaaGreatDoor
