/- The normal form of terms: the rules, on a term and the list of its children; that they end, and that what they end in stays. No program. No conditions. The normal form: it is reached, it stays, it is no greater and no deeper, its parts are parts that were there, and it may be. No program. No conditions. Terms that may be, as terms and as lists of parts; the normal form of one that may be may be. No program. No conditions. Terms that say the same have the same normal form. No program. No conditions. Terms whose parts are numbered: the numbers hinder no rule; the normal form's parts bear numbers of parts that were there, each once. No program. No conditions. Parts that may have a text; the text of a term among others; what the rules ask of a term that may be. No program. No conditions. Terms of package norm while they are normalized: seven cells each, slices of them, in blocks that are told by a property. No function of the program. No conditions. The contracts of the document's own answers of layer 8: bad, read, Tree, Check, End, May. No conditions but sizes, and that the slice's cells read as parts. Slices that read as lists of integers of one kind (uint8, uint64 ..). No function of the program. No conditions. The contracts of the document's own answers of layer 8: Tree, Check, End, May, Kids, Depth, Atoms, Same. No conditions but sizes, and that the slices' cells read as parts, as places. The parts of a term, one behind the other: (*list).add. Conditions: the list's rows lie apart from the term, sizes. -/
import Derived.Test.YtkjpmhmlakmglaaDoorP9GA
import Derived.Test.YtkjpmhmlakmglaaDoorP9MA
import Derived.Test.YtkjpmhmlakmglaaDoorRows
import Derived.LoopTactic
import Derived.Deep.LoopGhost
import Derived.WalkMore
import Derived.ScopeJumps
import Derived.Deep.DeepCutAuto
import Derived.Outline
import Derived.BigRegion
import Derived.Laws.AppendOwn
import Derived.Laws.OwnMore
import Derived.Laws.IdiomStrings
import Derived.Deep.RegionLaw
namespace Go.Proofs.YtkjpmhmlakmglaaDoor

/-- A term: its part, its children. -/
abbrev Tm := Prt × Fst
def toL : Fst → List Tm
  | .nil => []
  | .cons x K N => (x, K) :: toL N
def ofL : List Tm → Fst
  | [] => .nil
  | t :: l => .cons t.1 t.2 (ofL l)
theorem of_to : ∀ F : Fst, ofL (toL F) = F
  | .nil => rfl
  | .cons x K N => by simp only [toL, ofL, of_to N]
theorem to_of : ∀ l : List Tm, toL (ofL l) = l
  | [] => rfl
  | t :: l => by simp only [toL, ofL, to_of l]
theorem toL_len : ∀ F : Fst, (toL F).length = F.len
  | .nil => rfl
  | .cons x K N => by simp only [toL, Fst.len, List.length_cons, toL_len N]
theorem ofL_len (l : List Tm) : (ofL l).len = l.length := by rw [← toL_len, to_of]
def sizT (t : Tm) : Nat := t.2.size + 1
def sizL : List Tm → Nat
  | [] => 0
  | t :: l => sizT t + sizL l
theorem sizL_to : ∀ F : Fst, sizL (toL F) = F.size
  | .nil => rfl
  | .cons x K N => by simp only [toL, sizL, sizT, Fst.size, sizL_to N]; omega
theorem sizL_of (l : List Tm) : (ofL l).size = sizL l := by rw [← sizL_to, to_of]
theorem sizL_app : ∀ a b : List Tm, sizL (a ++ b) = sizL a + sizL b
  | [], b => by simp [sizL]
  | t :: a, b => by simp only [List.cons_append, sizL, sizL_app a b]; omega
theorem sizL_len : ∀ l : List Tm, l.length ≤ sizL l
  | [] => Nat.le_refl _
  | t :: l => by simp only [sizL, sizT, List.length_cons]; have := sizL_len l; omega
/-- A term's text, a blank ahead of it. -/
def txT (t : Tm) : List UInt8 := textF (.cons t.1 t.2 .nil)
/-- Byte by byte; a proper prefix comes first. -/
def ltB : List UInt8 → List UInt8 → Bool
  | _, [] => false
  | [], _ :: _ => true
  | a :: r, b :: s => decide (a < b) || (decide (a = b) && ltB r s)
/-- Children of the kind give way to theirs, as far as there are at most 16: n of them are there. -/
def flatG (kind : Nat) : Nat → List Tm → List Tm
  | _, [] => []
  | n, t :: l => if t.1.kind = kind ∧ n + t.2.len ≤ 17 then toL t.2 ++ flatG kind (n + t.2.len - 1) l else t :: flatG kind n l
/-- Children whose text was there already are left out. -/
def onceG (seen : List (List UInt8)) : List Tm → List Tm
  | [] => []
  | t :: l => if seen.contains (txT t) then onceG seen l else t :: onceG (txT t :: seen) l
def insG (t : Tm) : List Tm → List Tm
  | [] => [t]
  | u :: l => if ltB (txT t) (txT u) then t :: u :: l else u :: insG t l
/-- Sorted by text; equal ones keep their order. -/
def sortG : List Tm → List Tm := List.foldl (fun a t => insG t a) []
/-- The first rule that changes a term. -/
def oneT (t : Tm) : Option Tm :=
  let l := toL t.2
  if l.length = 1 then l.head?
  else if (t.1.kind = 1 ∨ t.1.kind = 3 ∨ t.1.kind = 4) ∧ (flatG t.1.kind l.length l).length ≠ l.length then some (t.1, ofL (flatG t.1.kind l.length l))
  else if t.1.kind = 3 ∧ (onceG [] l).length ≠ l.length then some (t.1, ofL (onceG [] l))
  else if (t.1.kind = 3 ∨ t.1.kind = 4) ∧ l.map txT ≠ (sortG l).map txT then some (t.1, ofL (sortG l))
  else none
/-- Till none does. -/
def loopT : Nat → Tm → Tm
  | 0, t => t
  | m + 1, t => match oneT t with
    | none => t
    | some u => loopT m u
def plainF : Fst → Fst
  | .nil => .nil
  | .cons x K N => .cons (loopT (2 * K.size + 4) (x, plainF K)).1 (loopT (2 * K.size + 4) (x, plainF K)).2 (plainF N)
/-- Nothing changes it any more. -/
def Nrm : Fst → Prop
  | .nil => True
  | .cons x K N => oneT (x, K) = none ∧ Nrm K ∧ Nrm N
theorem loopT_fix {t : Tm} (h : oneT t = none) : ∀ m, loopT m t = t
  | 0 => rfl
  | m + 1 => by rw [loopT, h]
theorem plain_fix : ∀ F : Fst, Nrm F → plainF F = F
  | .nil, _ => rfl
  | .cons x K N, ⟨h1, h2, h3⟩ => by rw [plainF, plain_fix K h2, plain_fix N h3, loopT_fix h1]
theorem nrm_all : ∀ F : Fst, Nrm F ↔ ∀ t ∈ toL F, oneT t = none ∧ Nrm t.2
  | .nil => by simp [Nrm, toL]
  | .cons x K N => by simp only [Nrm, toL, List.mem_cons, forall_eq_or_imp, nrm_all N, and_assoc]
theorem nrm_of {l : List Tm} (h : ∀ t ∈ l, oneT t = none ∧ Nrm t.2) : Nrm (ofL l) := by rw [nrm_all, to_of]; exact h
theorem insG_mem (t u : Tm) : ∀ l : List Tm, u ∈ insG t l ↔ u = t ∨ u ∈ l
  | [] => by simp [insG]
  | v :: l => by
    rw [insG]
    split
    · simp
    · simp only [List.mem_cons, insG_mem t u l]
      constructor
      · rintro (h | h | h)
        · exact .inr (.inl h)
        · exact .inl h
        · exact .inr (.inr h)
      · rintro (h | h | h)
        · exact .inr (.inl h)
        · exact .inl h
        · exact .inr (.inr h)
theorem sort_fold : ∀ (l a : List Tm) (u : Tm), u ∈ l.foldl (fun a t => insG t a) a ↔ u ∈ l ∨ u ∈ a
  | [], a, u => by simp
  | t :: l, a, u => by
    rw [List.foldl_cons, sort_fold l, insG_mem]
    simp only [List.mem_cons]
    constructor
    · rintro (h | h | h)
      · exact .inl (.inr h)
      · exact .inl (.inl h)
      · exact .inr h
    · rintro ((h | h) | h)
      · exact .inr (.inl h)
      · exact .inl h
      · exact .inr (.inr h)
theorem sortG_mem (l : List Tm) (u : Tm) : u ∈ sortG l ↔ u ∈ l := by unfold sortG; rw [sort_fold]; simp
theorem onceG_mem : ∀ (l : List Tm) (s : List (List UInt8)) (u : Tm), u ∈ onceG s l → u ∈ l
  | [], _, _, h => by cases h
  | t :: l, s, u, h => by
    rw [onceG] at h
    split at h
    · exact List.mem_cons_of_mem _ (onceG_mem l s u h)
    · rcases List.mem_cons.1 h with h | h
      · exact List.mem_cons.2 (.inl h)
      · exact List.mem_cons_of_mem _ (onceG_mem l _ u h)
theorem flatG_mem (kind : Nat) : ∀ (l : List Tm) (n : Nat) (u : Tm), u ∈ flatG kind n l → u ∈ l ∨ ∃ t ∈ l, t.1.kind = kind ∧ u ∈ toL t.2
  | [], _, _, h => by cases h
  | t :: l, n, u, h => by
    rw [flatG] at h
    split at h
    · rename_i c
      rcases List.mem_append.1 h with h | h
      · exact .inr ⟨t, by simp, c.1, h⟩
      · rcases flatG_mem kind l _ u h with h | ⟨v, hv, hk⟩
        · exact .inl (List.mem_cons_of_mem _ h)
        · exact .inr ⟨v, List.mem_cons_of_mem _ hv, hk⟩
    · rcases List.mem_cons.1 h with h | h
      · exact .inl (List.mem_cons.2 (.inl h))
      · rcases flatG_mem kind l _ u h with h | ⟨v, hv, hk⟩
        · exact .inl (List.mem_cons_of_mem _ h)
        · exact .inr ⟨v, List.mem_cons_of_mem _ hv, hk⟩
/-- What a rule makes of a term: the rules, one by one. -/
theorem oneT_cases {t u : Tm} (h : oneT t = some u) :
    (toL t.2 = [u]) ∨ ((t.1.kind = 1 ∨ t.1.kind = 3 ∨ t.1.kind = 4) ∧ (flatG t.1.kind (toL t.2).length (toL t.2)).length ≠ (toL t.2).length ∧ u = (t.1, ofL (flatG t.1.kind (toL t.2).length (toL t.2)))) ∨
    (t.1.kind = 3 ∧ (onceG [] (toL t.2)).length ≠ (toL t.2).length ∧ u = (t.1, ofL (onceG [] (toL t.2)))) ∨
    ((t.1.kind = 3 ∨ t.1.kind = 4) ∧ (toL t.2).map txT ≠ (sortG (toL t.2)).map txT ∧ u = (t.1, ofL (sortG (toL t.2)))) := by
  unfold oneT at h
  simp only at h
  split at h
  · rename_i c
    left
    match hl : toL t.2, c with
    | [v], _ => rw [hl] at h; cases h; rfl
  · split at h
    · rename_i c; cases h; exact .inr (.inl ⟨c.1, c.2, rfl⟩)
    · split at h
      · rename_i c; cases h; exact .inr (.inr (.inl ⟨c.1, c.2, rfl⟩))
      · split at h
        · rename_i c; cases h; exact .inr (.inr (.inr ⟨c.1, c.2, rfl⟩))
        · cases h
theorem oneT_nrm {t u : Tm} (h : oneT t = some u) (hn : Nrm t.2) : Nrm u.2 := by
  rw [nrm_all] at hn
  rcases oneT_cases h with h | ⟨_, _, rfl⟩ | ⟨_, _, rfl⟩ | ⟨_, _, rfl⟩
  · exact (hn u (by rw [h]; simp)).2
  · refine nrm_of fun v hv => ?_
    rcases flatG_mem _ _ _ _ hv with hv | ⟨s, hs, _, hv⟩
    · exact hn v hv
    · exact (nrm_all s.2).1 (hn s hs).2 v hv
  · exact nrm_of fun v hv => hn v (onceG_mem _ _ _ hv)
  · exact nrm_of fun v hv => hn v ((sortG_mem _ _).1 hv)
theorem flatG_siz (kind : Nat) : ∀ (l : List Tm) (n : Nat), flatG kind n l = l ∨ sizL (flatG kind n l) < sizL l
  | [], _ => .inl rfl
  | t :: l, n => by
    rw [flatG]
    split
    · right
      rw [sizL_app, sizL_to]
      simp only [sizL, sizT]
      rcases flatG_siz kind l (n + t.2.len - 1) with h | h
      · rw [h]; omega
      · omega
    · rcases flatG_siz kind l n with h | h
      · exact .inl (by rw [h])
      · right; simp only [sizL]; omega
theorem onceG_siz : ∀ (l : List Tm) (s : List (List UInt8)), sizL (onceG s l) + (l.length - (onceG s l).length) ≤ sizL l ∧ (onceG s l).length ≤ l.length
  | [], _ => ⟨Nat.le_refl _, Nat.le_refl _⟩
  | t :: l, s => by
    rw [onceG]
    split
    · have := onceG_siz l s
      simp only [sizL, sizT, List.length_cons]; omega
    · have := onceG_siz l (txT t :: s)
      simp only [sizL, sizT, List.length_cons]; omega
theorem insG_siz (t : Tm) : ∀ l : List Tm, sizL (insG t l) = sizT t + sizL l ∧ (insG t l).length = l.length + 1
  | [] => ⟨rfl, rfl⟩
  | u :: l => by
    rw [insG]
    split
    · exact ⟨rfl, rfl⟩
    · have := insG_siz t l
      simp only [sizL, List.length_cons]; omega
theorem sort_fold_siz : ∀ (l a : List Tm), sizL (l.foldl (fun a t => insG t a) a) = sizL l + sizL a ∧ (l.foldl (fun a t => insG t a) a).length = l.length + a.length
  | [], a => by simp [sizL]
  | t :: l, a => by
    have := sort_fold_siz l (insG t a)
    have h2 := insG_siz t a
    simp only [List.foldl_cons, sizL, List.length_cons]; omega
theorem sortG_siz (l : List Tm) : sizL (sortG l) = sizL l ∧ (sortG l).length = l.length := by
  have := sort_fold_siz l []
  simpa [sortG, sizL] using this
end Go.Proofs.YtkjpmhmlakmglaaDoor

namespace Go.Proofs.YtkjpmhmlakmglaaDoor

theorem ltB_irr : ∀ a : List UInt8, ltB a a = false
  | [] => rfl
  | a :: r => by simp [ltB, ltB_irr r]
theorem ltB_trans : ∀ a b c : List UInt8, ltB a b = true → ltB b c = true → ltB a c = true
  | [], [], _, h, _ => by cases h
  | _ :: _, [], _, h, _ => by cases h
  | _, _ :: _, [], _, h => by cases h
  | [], _ :: _, _ :: _, _, _ => rfl
  | a :: r, b :: s, c :: t, h, h2 => by
    simp only [ltB, Bool.or_eq_true, Bool.and_eq_true, decide_eq_true_eq] at h h2 ⊢
    rcases h with h | ⟨rfl, h⟩
    · rcases h2 with h2 | ⟨rfl, h2⟩
      · exact .inl (UInt8.lt_trans h h2)
      · exact .inl h
    · rcases h2 with h2 | ⟨rfl, h2⟩
      · exact .inl h2
      · exact .inr ⟨rfl, ltB_trans r s t h h2⟩
theorem ltB_total : ∀ a b : List UInt8, ltB a b = false → ltB b a = false → a = b
  | [], [], _, _ => rfl
  | [], _ :: _, h, _ => by cases h
  | _ :: _, [], _, h => by cases h
  | a :: r, b :: s, h, h2 => by
    simp only [ltB, Bool.or_eq_false_iff, decide_eq_false_iff_not, Bool.and_eq_false_iff] at h h2
    have e : a = b := by
      rcases Nat.lt_trichotomy a.toNat b.toNat with c | c | c
      · exact absurd (UInt8.lt_iff_toNat_lt.2 c) h.1
      · exact UInt8.toNat_inj.1 c
      · exact absurd (UInt8.lt_iff_toNat_lt.2 c) h2.1
    subst e
    have h3 : ltB r s = false := by
      rcases h.2 with c | c
      · exact absurd rfl c
      · exact c
    have h4 : ltB s r = false := by
      rcases h2.2 with c | c
      · exact absurd rfl c
      · exact c
    rw [ltB_total r s h3 h4]
theorem leB_trans {a b c : List UInt8} (h : ltB b a = false) (h2 : ltB c b = false) : ltB c a = false := by
  cases h3 : ltB c a
  · rfl
  · cases h4 : ltB a b
    · have := ltB_total a b h4 h
      subst this
      rw [h3] at h2; cases h2
    · have := ltB_trans c a b h3 h4
      rw [this] at h2; cases h2
/-- In order. -/
def SrtL : List Tm → Prop := List.Pairwise fun u v => ltB (txT v) (txT u) = false
theorem insG_srt (t : Tm) : ∀ l : List Tm, SrtL l → SrtL (insG t l)
  | [], _ => List.pairwise_singleton _ _
  | u :: l, h => by
    obtain ⟨h1, h2⟩ := List.pairwise_cons.1 h
    rw [insG]
    split
    · rename_i c
      refine List.pairwise_cons.2 ⟨fun v hv => ?_, h⟩
      have hc : ltB (txT u) (txT t) = false := by
        cases h3 : ltB (txT u) (txT t)
        · rfl
        · have := ltB_trans _ _ _ c h3
          rw [ltB_irr] at this; cases this
      rcases List.mem_cons.1 hv with rfl | hv
      · exact hc
      · exact leB_trans hc (h1 v hv)
    · rename_i c
      refine List.pairwise_cons.2 ⟨fun v hv => ?_, insG_srt t l h2⟩
      rcases (insG_mem t v l).1 hv with rfl | hv
      · simpa using c
      · exact h1 v hv
theorem sort_fold_srt : ∀ (l a : List Tm), SrtL a → SrtL (l.foldl (fun a t => insG t a) a)
  | [], _, h => h
  | t :: l, a, h => sort_fold_srt l (insG t a) (insG_srt t a h)
theorem sortG_srt (l : List Tm) : SrtL (sortG l) := sort_fold_srt l [] List.Pairwise.nil
theorem insG_last (t : Tm) : ∀ a : List Tm, (∀ u ∈ a, ltB (txT t) (txT u) = false) → insG t a = a ++ [t]
  | [], _ => rfl
  | u :: a, h => by
    rw [insG, if_neg (by rw [h u (by simp)]; decide), insG_last t a (fun v hv => h v (List.mem_cons_of_mem _ hv))]
    rfl
theorem sort_fold_fix : ∀ (l a : List Tm), SrtL (a ++ l) → l.foldl (fun a t => insG t a) a = a ++ l
  | [], a, _ => by simp
  | t :: l, a, h => by
    have h2 : ∀ u ∈ a, ltB (txT t) (txT u) = false := fun u hu => (List.pairwise_append.1 h).2.2 u hu t (by simp)
    rw [List.foldl_cons, insG_last t a h2, sort_fold_fix l (a ++ [t]) (by simpa using h)]
    simp
theorem sortG_fix {l : List Tm} (h : SrtL l) : sortG l = l := by
  have := sort_fold_fix l [] (by simpa using h)
  simpa [sortG] using this
def mu (t : Tm) : Nat := 2 * sizT t + (if (t.1.kind = 3 ∨ t.1.kind = 4) ∧ (toL t.2).map txT ≠ (sortG (toL t.2)).map txT then 1 else 0)
theorem mu_le (t : Tm) : 2 * sizT t ≤ mu t ∧ mu t ≤ 2 * sizT t + 1 := by
  unfold mu
  split <;> omega
theorem oneT_siz {t u : Tm} (h : oneT t = some u) : sizT u ≤ sizT t ∧ mu u < mu t := by
  have h1 := mu_le t; have h2 := mu_le u
  rcases oneT_cases h with h | ⟨_, hl, rfl⟩ | ⟨_, hl, rfl⟩ | ⟨hk, hl, rfl⟩
  · have : t.2.size = sizT u := by rw [← sizL_to, h]; simp [sizL]
    simp only [sizT] at *; omega
  · have hs : sizL (flatG t.1.kind (toL t.2).length (toL t.2)) < sizL (toL t.2) := by
      rcases flatG_siz t.1.kind (toL t.2) (toL t.2).length with e | e
      · rw [e] at hl; exact absurd rfl hl
      · exact e
    rw [sizL_to] at hs
    simp only [sizT, sizL_of] at *; omega
  · have hs := onceG_siz (toL t.2) []
    rw [sizL_to] at hs
    simp only [sizT, sizL_of] at *; omega
  · have hs := (sortG_siz (toL t.2)).1
    rw [sizL_to] at hs
    have e1 : sizT (t.1, ofL (sortG (toL t.2))) = sizT t := by simp only [sizT, sizL_of, hs]
    refine ⟨by omega, ?_⟩
    unfold mu
    rw [e1, if_neg, if_pos ⟨hk, hl⟩]
    · omega
    · rintro ⟨_, c⟩
      simp only [to_of, sortG_fix (sortG_srt _)] at c
      exact c rfl
theorem loopT_end : ∀ (m : Nat) (t : Tm), mu t ≤ m → oneT (loopT m t) = none
  | 0, t, h => by have := mu_le t; simp only [sizT] at this; omega
  | m + 1, t, h => by
    rw [loopT]
    cases h1 : oneT t with
    | none => exact h1
    | some u => exact loopT_end m u (by have := (oneT_siz h1).2; omega)
/-- What the rules keep, the loop keeps. -/
theorem loopT_keep {I : Tm → Prop} (hI : ∀ t u, I t → oneT t = some u → I u) : ∀ (m : Nat) (t : Tm), I t → I (loopT m t)
  | 0, _, h => h
  | m + 1, t, h => by
    rw [loopT]
    cases h1 : oneT t with
    | none => exact h
    | some u => exact loopT_keep hI m u (hI t u h h1)
theorem plain_siz : ∀ F : Fst, (plainF F).size ≤ F.size ∧ (plainF F).len = F.len
  | .nil => ⟨Nat.le_refl _, rfl⟩
  | .cons x K N => by
    have h1 := plain_siz K; have h2 := plain_siz N
    have h3 := loopT_keep (I := fun t => sizT t ≤ K.size + 1) (fun t u h e => Nat.le_trans (oneT_siz e).1 h) (2 * K.size + 4) (x, plainF K) (by simp only [sizT]; omega)
    simp only [sizT] at h3
    simp only [plainF, Fst.size, Fst.len]; omega
theorem plain_nrm : ∀ F : Fst, Nrm (plainF F)
  | .nil => trivial
  | .cons x K N => by
    rw [plainF]
    refine ⟨loopT_end _ _ ?_, loopT_keep (I := fun t => Nrm t.2) (fun t u h e => oneT_nrm e h) _ _ (plain_nrm K), plain_nrm N⟩
    have h1 := (mu_le (x, plainF K)).2
    have h2 := (plain_siz K).1
    simp only [sizT] at h1; omega
/-- The normal form of a normal form is it. -/
theorem plain_plain (F : Fst) : plainF (plainF F) = plainF F := plain_fix _ (plain_nrm F)
theorem dep_all : ∀ (F : Fst) (d : Nat), F.depth ≤ d ↔ ∀ t ∈ toL F, t.2.depth + 1 ≤ d
  | .nil, d => by simp [Fst.depth, toL]
  | .cons x K N, d => by
    simp only [Fst.depth, toL, List.mem_cons, forall_eq_or_imp, ← dep_all N d]
    omega
theorem oneT_dep {t u : Tm} {d : Nat} (h : oneT t = some u) (hd : t.2.depth + 1 ≤ d) : u.2.depth + 1 ≤ d := by
  have hm := (dep_all t.2 t.2.depth).1 (Nat.le_refl _)
  have key : ∀ l : List Tm, (∀ v ∈ l, v.2.depth + 1 ≤ t.2.depth) → (ofL l).depth + 1 ≤ d := fun l hl => by
    have := (dep_all (ofL l) t.2.depth).2 (by rw [to_of]; exact hl)
    omega
  rcases oneT_cases h with h | ⟨_, _, rfl⟩ | ⟨_, _, rfl⟩ | ⟨_, _, rfl⟩
  · have := hm u (by rw [h]; simp); omega
  · refine key _ fun v hv => ?_
    rcases flatG_mem _ _ _ _ hv with hv | ⟨s, hs, _, hv⟩
    · exact hm v hv
    · have h1 := hm s hs
      have h2 := (dep_all s.2 s.2.depth).1 (Nat.le_refl _) v hv
      omega
  · exact key _ fun v hv => hm v (onceG_mem _ _ _ hv)
  · exact key _ fun v hv => hm v ((sortG_mem _ _).1 hv)
theorem plain_dep : ∀ F : Fst, (plainF F).depth ≤ F.depth
  | .nil => Nat.le_refl _
  | .cons x K N => by
    have h1 := plain_dep K; have h2 := plain_dep N
    have h3 := loopT_keep (I := fun t => t.2.depth + 1 ≤ K.depth + 1) (fun t u h e => oneT_dep e h) (2 * K.size + 4) (x, plainF K) (by simp only; omega)
    simp only [plainF, Fst.depth]; omega
/-- The parts, as they stand, with what is kept beside them. -/
def prsF : Fst → List Prt
  | .nil => []
  | .cons x K N => x :: (prsF K ++ prsF N)
theorem prsF_len : ∀ F : Fst, (prsF F).length = F.size
  | .nil => rfl
  | .cons x K N => by simp only [prsF, Fst.size, List.length_cons, List.length_append, prsF_len K, prsF_len N]
def cT (p : Prt) (t : Tm) : Nat := (prsF (.cons t.1 t.2 .nil)).count p
def cL (p : Prt) : List Tm → Nat
  | [] => 0
  | t :: l => cT p t + cL p l
theorem cL_to (p : Prt) : ∀ F : Fst, cL p (toL F) = (prsF F).count p
  | .nil => rfl
  | .cons x K N => by
    simp only [toL, cL, cT, prsF, List.append_nil, cL_to p N, List.count_cons, List.count_append]; omega
theorem cL_of (p : Prt) (l : List Tm) : (prsF (ofL l)).count p = cL p l := by rw [← cL_to, to_of]
theorem cL_app (p : Prt) : ∀ a b : List Tm, cL p (a ++ b) = cL p a + cL p b
  | [], b => by simp [cL]
  | t :: a, b => by simp only [List.cons_append, cL, cL_app p a b]; omega
theorem cT_eq (p : Prt) (t : Tm) : cT p t = (if t.1 = p then 1 else 0) + (prsF t.2).count p := by
  simp only [cT, prsF, List.append_nil, List.count_cons]
  by_cases c : t.1 = p
  · simp [c]; omega
  · simp [c]
theorem cL_flat (p : Prt) (kind : Nat) : ∀ (l : List Tm) (n : Nat), cL p (flatG kind n l) ≤ cL p l
  | [], _ => Nat.le_refl _
  | t :: l, n => by
    rw [flatG]
    split
    · have := cL_flat p kind l (n + t.2.len - 1)
      have h2 := cT_eq p t
      rw [cL_app, cL_to]
      simp only [cL]; omega
    · have := cL_flat p kind l n
      simp only [cL]; omega
theorem cL_once (p : Prt) : ∀ (l : List Tm) (s : List (List UInt8)), cL p (onceG s l) ≤ cL p l
  | [], _ => Nat.le_refl _
  | t :: l, s => by
    rw [onceG]
    split
    · have := cL_once p l s; simp only [cL]; omega
    · have := cL_once p l (txT t :: s); simp only [cL]; omega
theorem cL_ins (p : Prt) (t : Tm) : ∀ l : List Tm, cL p (insG t l) = cT p t + cL p l
  | [] => rfl
  | u :: l => by
    rw [insG]
    split
    · rfl
    · have := cL_ins p t l; simp only [cL]; omega
theorem cL_fold (p : Prt) : ∀ (l a : List Tm), cL p (l.foldl (fun a t => insG t a) a) = cL p l + cL p a
  | [], a => by simp [cL]
  | t :: l, a => by
    have := cL_fold p l (insG t a); have h2 := cL_ins p t a
    simp only [List.foldl_cons, cL]; omega
theorem oneT_cnt {t u : Tm} (p : Prt) (h : oneT t = some u) : cT p u ≤ cT p t := by
  have e := cT_eq p t
  have key : ∀ l : List Tm, cL p l ≤ cL p (toL t.2) → cT p (t.1, ofL l) ≤ cT p t := fun l hl => by
    have e2 := cT_eq p (t.1, ofL l)
    rw [cL_to] at hl
    simp only [cL_of] at e2
    omega
  rcases oneT_cases h with h | ⟨_, _, rfl⟩ | ⟨_, _, rfl⟩ | ⟨_, _, rfl⟩
  · have h2 := cL_to p t.2
    rw [h] at h2
    simp only [cL] at h2
    omega
  · exact key _ (cL_flat p _ _ _)
  · exact key _ (cL_once p _ _)
  · refine key _ ?_
    have := cL_fold p (toL t.2) []
    simp only [cL] at this
    unfold sortG
    omega
/-- Each part of the normal form was there, and none more often. -/
theorem plain_cnt (p : Prt) : ∀ F : Fst, (prsF (plainF F)).count p ≤ (prsF F).count p
  | .nil => Nat.le_refl _
  | .cons x K N => by
    have h1 := plain_cnt p K; have h2 := plain_cnt p N
    have h3 := loopT_keep (I := fun t => cT p t ≤ cT p (x, plainF K)) (fun t u h e => Nat.le_trans (oneT_cnt p e) h) (2 * K.size + 4) (x, plainF K) (Nat.le_refl _)
    have e1 := cT_eq p (x, plainF K)
    have e2 := cT_eq p (loopT (2 * K.size + 4) (x, plainF K))
    have e3 : (prsF (plainF (.cons x K N))).count p = cT p (loopT (2 * K.size + 4) (x, plainF K)) + (prsF (plainF N)).count p := by
      rw [plainF, e2]
      simp only [prsF, List.count_cons, List.count_append, beq_iff_eq]
      omega
    rw [e3]
    simp only [prsF, List.count_cons, List.count_append, beq_iff_eq]
    simp only at e1 h3
    omega
end Go.Proofs.YtkjpmhmlakmglaaDoor

namespace Go.Proofs.YtkjpmhmlakmglaaDoor

/-- Terms that may be, at a depth, in a part of a kind. -/
def Fst.fit : Fst → Nat → Nat → Prop
  | .nil, _, _ => True
  | .cons x K N, deep, ink => badP { x with kids := K.len } = false ∧ (ink = 2 → x.kind = 0) ∧ deep ≤ 8 ∧ K.fit (deep + 1) x.kind ∧ N.fit deep ink
theorem rd_fit : ∀ (F : Fst) (m : Nat) (l : List Prt) (o deep ink : Nat), F.size ≤ m → (∀ i, i < F.size → l[o + i]? = F.flat[i]?) → o + F.size ≤ 64 → F.fit deep ink → rdS m l o deep ink F.len = .ok (o + F.size)
  | .nil, m, l, o, deep, ink, _, _, _, _ => by rw [Fst.len, rd_zero]; rfl
  | .cons x K N, m, l, o, deep, ink, hm, hl, h64, ⟨h1, h2, h3, h4, h5⟩ => by
    simp only [Fst.size] at hm hl h64
    obtain ⟨m, rfl⟩ : ∃ k, m = k + 1 := ⟨m - 1, by omega⟩
    have h0 : l[o]? = some { x with kids := (K.len : Int) } := by
      have := hl 0 (by omega)
      rw [Nat.add_zero] at this
      rw [this]; rfl
    have hlt := (List.getElem?_eq_some_iff.1 h0).1
    have hd : l.getD o ⟨0, 0, 0, 0, 0⟩ = { x with kids := (K.len : Int) } := by rw [List.getD_eq_getElem?_getD, h0]; rfl
    have hst : stopS l o deep ink = none := by
      rw [stop_deep hlt (by
        rw [hd]
        rintro (c | c | ⟨c, c2⟩)
        · omega
        · rw [h1] at c; cases c
        · exact c2 (h2 c))]
      exact if_neg (by omega)
    have hK := rd_fit K m l (o + 1) (deep + 1) x.kind (by omega) (fun i hi => by
      have := hl (1 + i) (by omega)
      rw [show o + 1 + i = o + (1 + i) by omega, this, Fst.flat, Nat.add_comm 1 i, List.getElem?_cons_succ, List.getElem?_append_left (by rw [flat_len]; exact hi)]) (by omega) h4
    have hN := rd_fit N m l (o + 1 + K.size) deep ink (by omega) (fun i hi => by
      have := hl (1 + K.size + i) (by omega)
      rw [show o + 1 + K.size + i = o + (1 + K.size + i) by omega, this, Fst.flat, show 1 + K.size + i = (K.size + i) + 1 by omega, List.getElem?_cons_succ, List.getElem?_append_right (by rw [flat_len]; omega), flat_len, Nat.add_sub_cancel_left]) (by omega) h5
    rw [Fst.len, rd_cons, hst]
    simp only [hd, Int.toNat_natCast, hK, hN, Fst.size]
    congr 1; omega
theorem tree_fit {F : Fst} (h1 : F.len = 1) (h2 : F.size ≤ 64) (h3 : F.fit 1 0) : treeS F.flat = (0, 0) := by
  have h := rd_fit F (F.flat.length + 1) F.flat 0 1 0 (by rw [flat_len]; omega) (fun i _ => by rw [Nat.zero_add]) (by omega) h3
  unfold treeS
  rw [h1] at h
  rw [h, flat_len]
  simp
theorem badP_kind {x : Prt} (h : badP x = false) : x.kind ≤ 4 := by
  unfold badP at h
  split at h
  · omega
  · have := of_decide_eq_false h; omega
theorem rd_unflat : ∀ (m : Nat) (l : List Prt) (p deep ink n e : Nat), rdS m l p deep ink n = .ok e → ∃ F : Fst, F.kok ∧ F.len = n ∧ F.fit deep ink ∧ e = p + F.size ∧ ∀ i, i < F.size → l[p + i]? = F.flat[i]?
  | m, l, p, deep, ink, 0, e, h => by
    rw [rd_zero] at h; cases h
    exact ⟨.nil, trivial, rfl, trivial, rfl, fun i hi => by simp [Fst.size] at hi⟩
  | 0, l, p, deep, ink, n + 1, e, h => by cases h
  | m + 1, l, p, deep, ink, n + 1, e, h => by
    rw [rd_cons] at h
    cases hst : stopS l p deep ink with
    | some x => rw [hst] at h; cases h
    | none =>
      rw [hst] at h
      simp only at h
      obtain ⟨s1, s2, s3, s4, s5⟩ := stop_none hst
      cases hk : rdS m l (p + 1) (deep + 1) (l.getD p ⟨0, 0, 0, 0, 0⟩).kind (l.getD p ⟨0, 0, 0, 0, 0⟩).kids.toNat with
      | error x => rw [hk] at h; cases h
      | ok q =>
        rw [hk] at h
        simp only at h
        obtain ⟨K, k1, k2, k3, k4, k5⟩ := rd_unflat m l _ _ _ _ _ hk
        obtain ⟨N, n1, n2, n3, n4, n5⟩ := rd_unflat m l _ _ _ _ _ h
        have hx : l[p]? = some (l.getD p ⟨0, 0, 0, 0, 0⟩) := by
          rw [List.getD_eq_getElem?_getD, List.getElem?_eq_getElem s1]; rfl
        generalize l.getD p ⟨0, 0, 0, 0, 0⟩ = x at *
        have hk0 := (bad_kids s3).1
        have e1 : ({ x with kids := (K.len : Int) } : Prt) = x := by
          obtain ⟨a, b, c, d, f⟩ := x
          simp only at k2 hk0 ⊢
          rw [k2]; congr 1; omega
        refine ⟨.cons { x with kids := 0 } K N, ⟨(badP_kind s3 : x.kind ≤ 4), rfl, k1, n1⟩, by simp only [Fst.len, n2], ⟨?_, s4, s5, k3, n3⟩, by simp only [Fst.size]; omega, fun i hi => ?_⟩
        · exact (congrArg badP e1).trans s3
        · simp only [Fst.size] at hi
          have e2 : (Fst.cons { x with kids := 0 } K N).flat = x :: (K.flat ++ N.flat) := by
            simp only [Fst.flat]
            exact congrArg (· :: _) e1
          rw [e2]
          match i with
          | 0 => exact hx
          | i + 1 =>
            rw [List.getElem?_cons_succ]
            by_cases c : i < K.size
            · rw [List.getElem?_append_left (by rw [flat_len]; exact c), ← k5 i c]
              congr 1; omega
            · rw [List.getElem?_append_right (by rw [flat_len]; omega), flat_len, ← n5 (i - K.size) (by omega)]
              congr 1; omega
/-- Parts that may be are a term that may be. -/
theorem fit_tree {l : List Prt} (h : (treeS l).2 = 0) : ∃ F : Fst, F.kok ∧ F.len = 1 ∧ l = F.flat ∧ F.fit 1 0 ∧ F.size ≤ 64 := by
  obtain ⟨F, h1, h2, h3, h4, h5⟩ := rd_unflat _ _ _ _ _ _ _ (tree_fine h)
  have e : l = F.flat := by
    apply List.ext_getElem?
    intro i
    by_cases c : i < F.size
    · rw [← h5 i c, Nat.zero_add]
    · rw [List.getElem?_eq_none (by omega), List.getElem?_eq_none (by rw [flat_len]; omega)]
  refine ⟨F, h1, h2, e, h3, ?_⟩
  by_cases c : F.size ≤ 64
  · exact c
  · have := (tree_part h (i := 64) (by omega)).2; omega
def FitT (t : Tm) (deep ink : Nat) : Prop := badP { t.1 with kids := t.2.len } = false ∧ (ink = 2 → t.1.kind = 0) ∧ deep ≤ 8 ∧ t.2.fit (deep + 1) t.1.kind
theorem fit_all : ∀ (F : Fst) (deep ink : Nat), F.fit deep ink ↔ ∀ t ∈ toL F, FitT t deep ink
  | .nil, _, _ => by simp [Fst.fit, toL]
  | .cons x K N, deep, ink => by
    rw [toL, List.forall_mem_cons, ← fit_all N]
    simp only [Fst.fit, FitT, and_assoc]
theorem fit_of {l : List Tm} {deep ink : Nat} (h : ∀ t ∈ l, FitT t deep ink) : (ofL l).fit deep ink := by rw [fit_all, to_of]; exact h
theorem fit_up : ∀ (F : Fst) (deep deep' ink : Nat), F.fit deep ink → deep' ≤ deep → F.fit deep' ink
  | .nil, _, _, _, _, _ => trivial
  | .cons x K N, deep, deep', ink, ⟨h1, h2, h3, h4, h5⟩, hd => ⟨h1, h2, by omega, fit_up K _ _ _ h4 (by omega), fit_up N _ _ _ h5 hd⟩
theorem fitT_up {t : Tm} {deep deep' ink ink' : Nat} (h : FitT t deep ink) (hd : deep' ≤ deep) (hi : ink' = 2 → t.1.kind = 0) : FitT t deep' ink' :=
  ⟨h.1, hi, by have := h.2.2.1; omega, fit_up _ _ _ _ h.2.2.2 (by omega)⟩
theorem badP_len {x : Prt} {a b : Nat} (h : badP { x with kids := (a : Int) } = false) (hk : x.kind ≠ 0) (h1 : 1 ≤ b) (h2 : b ≤ 16) : badP { x with kids := (b : Int) } = false := by
  unfold badP at h ⊢
  simp only at h ⊢
  rw [if_neg hk] at h ⊢
  have := of_decide_eq_false h
  exact decide_eq_false (by omega)
theorem badP_kids {x : Prt} {a : Nat} (h : badP { x with kids := (a : Int) } = false) : (x.kind = 0 → a = 0) ∧ (x.kind ≠ 0 → 1 ≤ a ∧ a ≤ 16) := by
  unfold badP at h
  simp only at h
  constructor
  · intro hk
    rw [if_pos hk] at h
    have := of_decide_eq_false h
    omega
  · intro hk
    rw [if_neg hk] at h
    have := of_decide_eq_false h
    omega
theorem flatG_len (kind : Nat) : ∀ (l : List Tm) (n : Nat), (∀ t ∈ l, t.1.kind = kind → 1 ≤ t.2.len) → l.length ≤ (flatG kind n l).length ∧ (l.length ≤ n → n ≤ 16 → n - l.length + (flatG kind n l).length ≤ 16)
  | [], n, _ => ⟨Nat.le_refl _, fun _ h => by simp [flatG]; omega⟩
  | t :: l, n, h => by
    rw [flatG]
    split
    · rename_i c
      have h1 := h t (by simp) c.1
      have ih := flatG_len kind l (n + t.2.len - 1) (fun u hu => h u (List.mem_cons_of_mem _ hu))
      simp only [List.length_append, List.length_cons, toL_len]
      refine ⟨by omega, fun a b => ?_⟩
      have := ih.2 (by omega) (by omega)
      omega
    · have ih := flatG_len kind l n (fun u hu => h u (List.mem_cons_of_mem _ hu))
      simp only [List.length_cons]
      refine ⟨by omega, fun a b => ?_⟩
      have := ih.2 (by omega) b
      omega
theorem onceG_pos : ∀ (l : List Tm), 1 ≤ l.length → 1 ≤ (onceG [] l).length
  | [], h => by simp at h
  | t :: l, _ => by
    rw [onceG, if_neg (by simp)]
    simp
/-- A rule keeps what may be. -/
theorem oneT_fit {t u : Tm} {deep ink : Nat} (h : oneT t = some u) (hf : FitT t deep ink) : FitT u deep ink := by
  obtain ⟨h1, h2, h3, h4⟩ := hf
  have hk := badP_kids h1
  have hall := (fit_all _ _ _).1 h4
  have key : ∀ l : List Tm, t.1.kind ≠ 0 → 1 ≤ l.length → l.length ≤ 16 → (∀ v ∈ l, FitT v (deep + 1) t.1.kind) → FitT (t.1, ofL l) deep ink := fun l k0 a b c =>
    ⟨by simp only [ofL_len]; exact badP_len h1 k0 a b, h2, h3, fit_of c⟩
  rcases oneT_cases h with h | ⟨hk2, _, rfl⟩ | ⟨hk2, _, rfl⟩ | ⟨hk2, _, rfl⟩
  · have hu := hall u (by rw [h]; simp)
    have hlen : t.2.len = 1 := by rw [← toL_len, h]; rfl
    exact fitT_up hu (by omega) fun c => absurd (hk.1 (h2 c)) (by omega)
  · have k0 : t.1.kind ≠ 0 := by omega
    have hn := hk.2 k0
    rw [← toL_len] at hn
    have hl := flatG_len t.1.kind (toL t.2) (toL t.2).length (fun v hv e => ((badP_kids (hall v hv).1).2 (by omega)).1)
    refine key _ k0 (by omega) (by have := hl.2 (Nat.le_refl _) hn.2; omega) fun v hv => ?_
    rcases flatG_mem _ _ _ _ hv with hv | ⟨s, hs, e, hv⟩
    · exact hall v hv
    · have := (fit_all _ _ _).1 (hall s hs).2.2.2 v hv
      exact fitT_up this (by omega) (by omega)
  · have k0 : t.1.kind ≠ 0 := by omega
    have hn := hk.2 k0
    rw [← toL_len] at hn
    exact key _ k0 (onceG_pos _ hn.1) (by have := (onceG_siz (toL t.2) []).2; omega) fun v hv => hall v (onceG_mem _ _ _ hv)
  · have k0 : t.1.kind ≠ 0 := by omega
    have hn := hk.2 k0
    rw [← toL_len, ← (sortG_siz (toL t.2)).2] at hn
    exact key _ k0 hn.1 hn.2 fun v hv => hall v ((sortG_mem _ _).1 hv)
/-- The normal form of what may be may be. -/
theorem plain_fit : ∀ (F : Fst) (deep ink : Nat), F.fit deep ink → (plainF F).fit deep ink
  | .nil, _, _, _ => trivial
  | .cons x K N, deep, ink, ⟨h1, h2, h3, h4, h5⟩ => by
    have hI : FitT (x, plainF K) deep ink := ⟨by simp only [(plain_siz K).2]; exact h1, h2, h3, plain_fit K _ _ h4⟩
    have h := loopT_keep (I := fun t => FitT t deep ink) (fun t u h e => oneT_fit e h) (2 * K.size + 4) (x, plainF K) hI
    exact ⟨h.1, h.2.1, h.2.2.1, h.2.2.2, plain_fit N _ _ h5⟩
theorem plain_tree {F : Fst} (h1 : F.len = 1) (h2 : F.size ≤ 64) (h3 : F.fit 1 0) : treeS (plainF F).flat = (0, 0) :=
  tree_fit ((plain_siz F).2.trans h1) (Nat.le_trans (plain_siz F).1 h2) (plain_fit F 1 0 h3)
end Go.Proofs.YtkjpmhmlakmglaaDoor

namespace Go.Proofs.YtkjpmhmlakmglaaDoor

theorem loop_eq : ∀ (m m' : Nat) (t : Tm), mu t ≤ m → mu t ≤ m' → loopT m t = loopT m' t
  | 0, _, t, h, _ => by have := mu_le t; simp only [sizT] at this; omega
  | _, 0, t, _, h => by have := mu_le t; simp only [sizT] at this; omega
  | m + 1, m' + 1, t, h, h' => by
    rw [loopT, loopT]
    cases h1 : oneT t with
    | none => rfl
    | some u => exact loop_eq m m' u (by have := (oneT_siz h1).2; omega) (by have := (oneT_siz h1).2; omega)
/-- What a term becomes whose children are plain. -/
def nfT (t : Tm) : Tm := loopT (mu t) t
theorem nf_none {t : Tm} (h : oneT t = none) : nfT t = t := loopT_fix h _
theorem nf_some {t u : Tm} (h : oneT t = some u) : nfT t = nfT u := by
  have hm := (oneT_siz h).2
  unfold nfT
  obtain ⟨m, hm2⟩ : ∃ m, mu t = m + 1 := ⟨mu t - 1, by omega⟩
  rw [hm2, loopT, h]
  exact loop_eq _ _ u (by omega) (Nat.le_refl _)
theorem plain_cons (x : Prt) (K N : Fst) : plainF (.cons x K N) = .cons (nfT (x, plainF K)).1 (nfT (x, plainF K)).2 (plainF N) := by
  rw [plainF]
  have : loopT (2 * K.size + 4) (x, plainF K) = nfT (x, plainF K) := by
    refine loop_eq _ _ _ ?_ (Nat.le_refl _)
    have h1 := (mu_le (x, plainF K)).2
    have h2 := (plain_siz K).1
    simp only [sizT] at h1; omega
  rw [this]
theorem nf_end (t : Tm) : oneT (nfT t) = none := loopT_end _ _ (Nat.le_refl _)
/-! What the rules leave alone. -/
theorem flatG_id {k : Nat} : ∀ (l : List Tm) (n : Nat), (∀ v ∈ l, v.1.kind ≠ k) → flatG k n l = l
  | [], _, _ => rfl
  | t :: l, n, h => by
    rw [flatG, if_neg (fun c => h t (by simp) c.1), flatG_id l n fun v hv => h v (List.mem_cons_of_mem _ hv)]
theorem flatG_grow {k : Nat} : ∀ (l : List Tm) (n : Nat), (∀ v ∈ l, v.1.kind = k → 2 ≤ v.2.len ∧ n + v.2.len ≤ 17) → (∃ v ∈ l, v.1.kind = k) → l.length < (flatG k n l).length
  | [], _, _, ⟨v, hv, _⟩ => by cases hv
  | t :: l, n, h, hex => by
    rw [flatG]
    by_cases c : t.1.kind = k
    · have h2 := h t (by simp) c
      rw [if_pos ⟨c, h2.2⟩]
      have := (flatG_len k l (n + t.2.len - 1) fun v hv e => by have := (h v (List.mem_cons_of_mem _ hv) e).1; omega).1
      simp only [List.length_append, List.length_cons, toL_len]; omega
    · rw [if_neg (fun d => c d.1)]
      have := flatG_grow l n (fun v hv => h v (List.mem_cons_of_mem _ hv)) (by
        obtain ⟨v, hv, e⟩ := hex
        rcases List.mem_cons.1 hv with rfl | hv
        · exact absurd e c
        · exact ⟨v, hv, e⟩)
      simp only [List.length_cons]; omega
theorem onceG_sub : ∀ (l : List Tm) (s : List (List UInt8)), (onceG s l).Sublist l
  | [], _ => List.Sublist.refl _
  | t :: l, s => by
    rw [onceG]
    split
    · exact (onceG_sub l s).cons _
    · exact (onceG_sub l _).cons_cons _
theorem onceG_text : ∀ (l : List Tm) (s : List (List UInt8)) (t : Tm), t ∈ l → txT t ∈ s ∨ ∃ u ∈ onceG s l, txT u = txT t
  | [], _, _, h => by cases h
  | v :: l, s, t, h => by
    rw [onceG]
    by_cases c : s.contains (txT v) = true
    · rw [if_pos c]
      rcases List.mem_cons.1 h with rfl | h
      · exact .inl (by simpa using c)
      · exact onceG_text l s t h
    · rw [if_neg c]
      rcases List.mem_cons.1 h with rfl | h
      · exact .inr ⟨t, by simp, rfl⟩
      · rcases onceG_text l (txT v :: s) t h with e | ⟨u, hu, e⟩
        · rcases List.mem_cons.1 e with e | e
          · exact .inr ⟨v, by simp, e.symm⟩
          · exact .inl e
        · exact .inr ⟨u, List.mem_cons_of_mem _ hu, e⟩
theorem onceG_new : ∀ (l : List Tm) (s : List (List UInt8)), (∀ u ∈ onceG s l, txT u ∉ s) ∧ ((onceG s l).map txT).Nodup
  | [], _ => ⟨fun u hu => (by cases hu), List.nodup_nil⟩
  | v :: l, s => by
    rw [onceG]
    by_cases c : s.contains (txT v) = true
    · rw [if_pos c]; exact onceG_new l s
    · rw [if_neg c]
      obtain ⟨h1, h2⟩ := onceG_new l (txT v :: s)
      refine ⟨fun u hu => ?_, ?_⟩
      · rcases List.mem_cons.1 hu with rfl | hu
        · simpa using c
        · exact fun d => h1 u hu (List.mem_cons_of_mem _ d)
      · rw [List.map_cons, List.nodup_cons]
        refine ⟨fun d => ?_, h2⟩
        obtain ⟨u, hu, e⟩ := List.mem_map.1 d
        exact h1 u hu (by rw [e]; simp)
theorem onceG_keep : ∀ (l : List Tm) (s : List (List UInt8)), (∀ u ∈ l, txT u ∉ s) → (l.map txT).Nodup → onceG s l = l
  | [], _, _, _ => rfl
  | v :: l, s, h, hn => by
    rw [List.map_cons, List.nodup_cons] at hn
    rw [onceG, if_neg (by simpa using h v (by simp)), onceG_keep l (txT v :: s) (fun u hu d => ?_) hn.2]
    rcases List.mem_cons.1 d with e | e
    · exact hn.1 (by rw [← e]; exact List.mem_map.2 ⟨u, hu, rfl⟩)
    · exact h u (List.mem_cons_of_mem _ hu) e
theorem insG_perm (t : Tm) : ∀ l : List Tm, (insG t l).Perm (t :: l)
  | [] => List.Perm.refl _
  | u :: l => by
    rw [insG]
    split
    · exact List.Perm.refl _
    · exact ((insG_perm t l).cons u).trans (List.Perm.swap t u l)
theorem sort_fold_perm : ∀ (l a : List Tm), (l.foldl (fun a t => insG t a) a).Perm (l ++ a)
  | [], a => List.Perm.refl _
  | t :: l, a => by
    rw [List.foldl_cons]
    refine (sort_fold_perm l (insG t a)).trans (((insG_perm t a).append_left l).trans ?_)
    exact List.perm_middle
theorem sortG_perm (l : List Tm) : (sortG l).Perm l := by
  have := sort_fold_perm l []
  rwa [List.append_nil] at this
/-- Texts tell these terms apart. -/
def Inj (l : List Tm) : Prop := ∀ u ∈ l, ∀ v ∈ l, txT u = txT v → u = v
theorem sort_same {l r : List Tm} (h : l.Perm r) (hi : Inj l) : sortG l = sortG r := by
  have hp : (sortG l).Perm (sortG r) := (sortG_perm l).trans (h.trans (sortG_perm r).symm)
  refine List.Perm.eq_of_pairwise (le := fun u v => ltB (txT v) (txT u) = false) (fun u v hu hv h1 h2 => ?_) (sortG_srt l) (sortG_srt r) hp
  refine hi u ((sortG_mem l u).1 hu) v (h.mem_iff.2 ((sortG_mem r v).1 hv)) (ltB_total _ _ h2 h1)
theorem map_same : ∀ (l r : List Tm), (∀ u ∈ l, ∀ v ∈ r, txT u = txT v → u = v) → l.map txT = r.map txT → l = r
  | [], [], _, _ => rfl
  | [], _ :: _, _, h => by simp at h
  | _ :: _, [], _, h => by simp at h
  | u :: l, v :: r, hi, h => by
    rw [List.map_cons, List.map_cons, List.cons.injEq] at h
    rw [hi u (by simp) v (by simp) h.1, map_same l r (fun a ha b hb => hi a (List.mem_cons_of_mem _ ha) b (List.mem_cons_of_mem _ hb)) h.2]
theorem sort_fix_of {l : List Tm} (hi : Inj l) (h : l.map txT = (sortG l).map txT) : sortG l = l :=
  (map_same l (sortG l) (fun u hu v hv => hi u hu v ((sortG_mem l v).1 hv)) h).symm
/-! One term by its rules. -/
theorem one_single (w : Prt) (p : Tm) : oneT (w, ofL [p]) = some p := by
  unfold oneT
  simp only [to_of, List.length_singleton, if_true, List.head?_cons]
theorem nf_single {w : Prt} {p : Tm} (h : oneT p = none) : nfT (w, ofL [p]) = p := by rw [nf_some (one_single w p), nf_none h]
/-- No rule but the last may change it. -/
theorem nf_sort {w : Prt} {l : List Tm} (hw : w.kind = 3 ∨ w.kind = 4) (h1 : l.length ≠ 1) (hk : ∀ v ∈ l, v.1.kind ≠ w.kind) (ho : w.kind = 3 → (l.map txT).Nodup) (hi : Inj l) : nfT (w, ofL l) = (w, ofL (sortG l)) := by
  have key : ∀ r : List Tm, r.Perm l → oneT (w, ofL r) = if r.map txT ≠ (sortG r).map txT then some (w, ofL (sortG r)) else none := fun r hr => by
    have hl := hr.length_eq
    unfold oneT
    simp only [to_of]
    rw [if_neg (by omega), flatG_id r _ (fun v hv => hk v (hr.mem_iff.1 hv)), if_neg (fun c => c.2 rfl)]
    have h3 : ¬ (w.kind = 3 ∧ (onceG [] r).length ≠ r.length) := fun c => by
      rw [onceG_keep r [] (by simp) ((hr.map txT).nodup_iff.2 (ho c.1))] at c
      exact c.2 rfl
    rw [if_neg h3]
    by_cases c : r.map txT ≠ (sortG r).map txT
    · rw [if_pos ⟨hw, c⟩, if_pos c]
    · rw [if_neg (fun d => c d.2), if_neg c]
  by_cases c : l.map txT = (sortG l).map txT
  · rw [nf_none (by rw [key l (List.Perm.refl _), if_neg (fun d => d c)]), sort_fix_of hi c]
  · rw [nf_some (by rw [key l (List.Perm.refl _), if_pos c])]
    refine nf_none ?_
    rw [key _ (sortG_perm l), if_neg (by rw [sortG_fix (sortG_srt l)]; exact fun d => d rfl)]
/-- What an any becomes of children that are no any. -/
def anyR (w : Prt) : List Tm → Tm
  | [v] => v
  | l => (w, ofL (sortG l))
theorem anyR_one (w : Prt) (v : Tm) : anyR w [v] = v := rfl
theorem anyR_more {w : Prt} {l : List Tm} (h : l.length ≠ 1) : anyR w l = (w, ofL (sortG l)) := by
  match l, h with
  | [], _ => rfl
  | [_], h => exact absurd rfl h
  | _ :: _ :: _, _ => rfl
theorem nf_any {w : Prt} {l : List Tm} (hw : w.kind = 3) (h1 : l.length ≠ 1) (hk : ∀ v ∈ l, v.1.kind ≠ 3) (hn : ∀ v ∈ l, oneT v = none) (hi : Inj l) : nfT (w, ofL l) = anyR w (onceG [] l) := by
  by_cases c : (onceG [] l).length = l.length
  · have e := (onceG_sub l []).eq_of_length c
    rw [e, anyR_more h1]
    exact nf_sort (.inl hw) h1 (by rw [hw]; exact hk) (fun _ => by rw [← e]; exact (onceG_new l []).2) hi
  · have h2 : oneT (w, ofL l) = some (w, ofL (onceG [] l)) := by
      unfold oneT
      simp only [to_of]
      rw [if_neg h1, hw, flatG_id l _ hk, if_neg (fun d => d.2 rfl), if_pos ⟨rfl, c⟩]
    rw [nf_some h2]
    have hm : ∀ v ∈ onceG [] l, v ∈ l := fun v hv => onceG_mem _ _ _ hv
    by_cases c1 : (onceG [] l).length = 1
    · obtain ⟨v, hv⟩ := List.length_eq_one_iff.1 c1
      rw [hv, anyR_one]
      exact nf_single (hn v (hm v (by rw [hv]; simp)))
    · rw [anyR_more c1]
      exact nf_sort (.inl hw) c1 (fun v hv => by rw [hw]; exact hk v (hm v hv)) (fun _ => (onceG_new l []).2) (fun u hu v hv => hi u (hm u hu) v (hm v hv))
theorem nf_all {w : Prt} {l : List Tm} (hw : w.kind = 4) (h1 : l.length ≠ 1) (hk : ∀ v ∈ l, v.1.kind ≠ 4) (hi : Inj l) : nfT (w, ofL l) = (w, ofL (sortG l)) :=
  nf_sort (.inr hw) h1 (by rw [hw]; exact hk) (fun c => by omega) hi
theorem once_iff {l : List Tm} (hi : Inj l) (u : Tm) : u ∈ onceG [] l ↔ u ∈ l := by
  refine ⟨onceG_mem _ _ _, fun h => ?_⟩
  rcases onceG_text l [] u h with e | ⟨v, hv, e⟩
  · cases e
  · rw [← hi v (onceG_mem _ _ _ hv) u h e]; exact hv
theorem once_perm {l r : List Tm} (hi : Inj l) (hj : Inj r) (h : ∀ u, u ∈ l ↔ u ∈ r) : (onceG [] l).Perm (onceG [] r) := by
  have nd : ∀ l : List Tm, (onceG [] l).Nodup := fun l => List.Pairwise.of_map txT (fun a b h e => h (by rw [e])) (onceG_new l []).2
  exact (List.perm_ext_iff_of_nodup (nd l) (nd r)).2 fun u => by rw [once_iff hi, once_iff hj, h u]
theorem anyR_perm {w : Prt} {l r : List Tm} (h : l.Perm r) (hi : Inj l) : anyR w l = anyR w r := by
  have hl := h.length_eq
  by_cases c : l.length = 1
  · obtain ⟨v, rfl⟩ := List.length_eq_one_iff.1 c
    obtain ⟨u, rfl⟩ := List.length_eq_one_iff.1 (hl.symm.trans c)
    have := List.perm_singleton.1 h.symm
    simp at this
    rw [this]
  · rw [anyR_more c, anyR_more (by omega), sort_same h hi]
/-- A plain term that is not wide. -/
structure Pl (t : Tm) : Prop where
  one : oneT t = none
  kids : ∀ v ∈ toL t.2, oneT v = none
  pos : t.1.kind ≠ 0 → 1 ≤ t.2.len
  kpos : ∀ v ∈ toL t.2, v.1.kind ≠ 0 → 1 ≤ v.2.len
  wide : t.2.len ≤ 7
  kwide : ∀ v ∈ toL t.2, v.2.len ≤ 7
theorem one_len {t : Tm} (h : oneT t = none) : t.2.len ≠ 1 := fun c => by
  unfold oneT at h
  simp only at h
  rw [← toL_len] at c
  rw [if_pos c] at h
  obtain ⟨v, hv⟩ := List.length_eq_one_iff.1 c
  rw [hv] at h; cases h
theorem one_flat {t : Tm} (h : oneT t = none) (hk : t.1.kind = 1 ∨ t.1.kind = 3 ∨ t.1.kind = 4) : (flatG t.1.kind (toL t.2).length (toL t.2)).length = (toL t.2).length := by
  have hl := one_len h
  rw [← toL_len] at hl
  unfold oneT at h
  simp only at h
  rw [if_neg hl] at h
  by_cases c : (flatG t.1.kind (toL t.2).length (toL t.2)).length = (toL t.2).length
  · exact c
  · rw [if_pos ⟨hk, c⟩] at h; cases h
theorem one_any {t : Tm} (h : oneT t = none) (hk : t.1.kind = 3) : onceG [] (toL t.2) = toL t.2 := by
  have hl := one_len h
  have hf := one_flat h (by omega)
  rw [← toL_len] at hl
  unfold oneT at h
  simp only at h
  rw [if_neg hl, if_neg (fun c => c.2 hf)] at h
  by_cases c : (onceG [] (toL t.2)).length = (toL t.2).length
  · exact (onceG_sub _ _).eq_of_length c
  · rw [if_pos ⟨hk, c⟩] at h; cases h
theorem one_sort {t : Tm} (h : oneT t = none) (hk : t.1.kind = 3 ∨ t.1.kind = 4) : (toL t.2).map txT = (sortG (toL t.2)).map txT := by
  have hl := one_len h
  have hf := one_flat h (by omega)
  have ho : ¬ (t.1.kind = 3 ∧ (onceG [] (toL t.2)).length ≠ (toL t.2).length) := fun c => c.2 (by rw [one_any h c.1])
  rw [← toL_len] at hl
  unfold oneT at h
  simp only at h
  rw [if_neg hl, if_neg (fun c => c.2 hf), if_neg ho] at h
  by_cases c : (toL t.2).map txT = (sortG (toL t.2)).map txT
  · exact c
  · rw [if_pos ⟨hk, c⟩] at h; cases h
theorem Pl.none {t : Tm} (h : Pl t) (hk : t.1.kind = 1 ∨ t.1.kind = 3 ∨ t.1.kind = 4) : ∀ v ∈ toL t.2, v.1.kind ≠ t.1.kind := fun v hv e => by
  have hf := one_flat h.one hk
  have := flatG_grow (k := t.1.kind) (toL t.2) (toL t.2).length (fun u hu e => by
    have h1 := h.kpos u hu (by omega)
    have h2 := one_len (h.kids u hu)
    have h3 := h.kwide u hu
    have h4 := h.wide
    rw [toL_len]; omega) ⟨v, hv, e⟩
  omega
/-- What a child gives to a term of the kind. -/
def unF (k : Nat) (t : Tm) : List Tm := if t.1.kind = k then toL t.2 else [t]
theorem un_pos {k : Nat} {t : Tm} (h : Pl t) (hk : k ≠ 0) : 1 ≤ (unF k t).length ∧ (unF k t).length ≤ 7 ∧ (t.1.kind = k → 2 ≤ (unF k t).length) := by
  unfold unF
  split
  · rename_i c
    rw [toL_len]
    have h1 := h.pos (by omega)
    have h2 := one_len h.one
    have := h.wide
    exact ⟨h1, this, fun _ => by omega⟩
  · rename_i c
    exact ⟨Nat.le_refl _, by simp, fun d => absurd d c⟩
theorem un_kind {k : Nat} {t : Tm} (h : Pl t) (hk : k = 1 ∨ k = 3 ∨ k = 4) : ∀ v ∈ unF k t, v.1.kind ≠ k ∧ oneT v = none := fun v hv => by
  unfold unF at hv
  split at hv
  · rename_i c
    exact ⟨by rw [← c]; exact h.none (by omega) v hv, h.kids v hv⟩
  · rename_i c
    simp at hv
    subst hv
    exact ⟨c, h.one⟩
theorem nf_two {w : Prt} {p q : Tm} (hw : w.kind = 1 ∨ w.kind = 3 ∨ w.kind = 4) (hp : Pl p) (hq : Pl q) : nfT (w, ofL [p, q]) = nfT (w, ofL (unF w.kind p ++ unF w.kind q)) := by
  have h1 := un_pos (k := w.kind) hp (by omega)
  have h2 := un_pos (k := w.kind) hq (by omega)
  have hf : flatG w.kind 2 [p, q] = unF w.kind p ++ unF w.kind q := by
    have hp7 := hp.wide; have hq7 := hq.wide
    unfold unF
    rw [flatG]
    by_cases c : p.1.kind = w.kind
    · rw [if_pos ⟨c, by omega⟩, if_pos c, flatG]
      by_cases d : q.1.kind = w.kind
      · rw [if_pos ⟨d, by omega⟩, if_pos d, flatG, List.append_nil]
      · rw [if_neg (fun e => d e.1), if_neg d, flatG]
    · rw [if_neg (fun e => c e.1), if_neg c, flatG]
      by_cases d : q.1.kind = w.kind
      · rw [if_pos ⟨d, by omega⟩, if_pos d, flatG, List.append_nil]; rfl
      · rw [if_neg (fun e => d e.1), if_neg d, flatG]; rfl
  by_cases c : p.1.kind = w.kind ∨ q.1.kind = w.kind
  · refine nf_some ?_
    unfold oneT
    simp only [to_of]
    have h3 : 2 < (unF w.kind p).length + (unF w.kind q).length := by
      rcases c with c | c
      · have := h1.2.2 c; omega
      · have := h2.2.2 c; omega
    rw [if_neg (by simp), show ([p, q] : List Tm).length = 2 from rfl, hf, if_pos ⟨hw, by rw [List.length_append]; omega⟩]
  · have e1 : unF w.kind p = [p] := if_neg fun d => c (.inl d)
    have e2 : unF w.kind q = [q] := if_neg fun d => c (.inr d)
    rw [e1, e2]; rfl
/-- The children of an any, or an all, the other way round. -/
theorem nf_swap {w : Prt} {p q : Tm} (hw : w.kind = 3 ∨ w.kind = 4) (hp : Pl p) (hq : Pl q) (hi : Inj (unF w.kind p ++ unF w.kind q)) : nfT (w, ofL [p, q]) = nfT (w, ofL [q, p]) := by
  rw [nf_two (by omega) hp hq, nf_two (by omega) hq hp]
  have h1 := un_pos (k := w.kind) hp (by omega)
  have h2 := un_pos (k := w.kind) hq (by omega)
  have hk : ∀ v ∈ unF w.kind p ++ unF w.kind q, v.1.kind ≠ w.kind ∧ oneT v = none := fun v hv => by
    rcases List.mem_append.1 hv with hv | hv
    · exact un_kind hp (by omega) v hv
    · exact un_kind hq (by omega) v hv
  have hperm : (unF w.kind p ++ unF w.kind q).Perm (unF w.kind q ++ unF w.kind p) := List.perm_append_comm
  have hk' : ∀ v ∈ unF w.kind q ++ unF w.kind p, v.1.kind ≠ w.kind ∧ oneT v = none := fun v hv => hk v (hperm.mem_iff.2 hv)
  have hi' : Inj (unF w.kind q ++ unF w.kind p) := fun u hu v hv => hi u (hperm.mem_iff.2 hu) v (hperm.mem_iff.2 hv)
  have hl : (unF w.kind p ++ unF w.kind q).length ≠ 1 := by rw [List.length_append]; omega
  have hl' : (unF w.kind q ++ unF w.kind p).length ≠ 1 := by rw [List.length_append]; omega
  rcases hw with hw | hw
  · rw [nf_any hw hl (fun v hv => by rw [← hw]; exact (hk v hv).1) (fun v hv => (hk v hv).2) hi, nf_any hw hl' (fun v hv => by rw [← hw]; exact (hk' v hv).1) (fun v hv => (hk' v hv).2) hi']
    exact anyR_perm (once_perm hi hi' fun u => hperm.mem_iff) fun u hu v hv => hi u (onceG_mem _ _ _ hu) v (onceG_mem _ _ _ hv)
  · rw [nf_all hw hl (fun v hv => by rw [← hw]; exact (hk v hv).1) hi, nf_all hw hl' (fun v hv => by rw [← hw]; exact (hk' v hv).1) hi', sort_same hperm hi]
/-- One twice in an any. -/
theorem nf_twice {w : Prt} {p : Tm} (hw : w.kind = 3) (hp : Pl p) (he : p.1.kind = 3 → p.1 = w) (hi : Inj (unF 3 p)) : nfT (w, ofL [p, p]) = p := by
  rw [nf_two (by omega) hp hp, hw]
  have h1 := un_pos (k := 3) hp (by omega)
  have hmem : ∀ u, u ∈ unF 3 p ++ unF 3 p ↔ u ∈ unF 3 p := fun u => by simp
  have hi2 : Inj (unF 3 p ++ unF 3 p) := fun u hu v hv => hi u ((hmem u).1 hu) v ((hmem v).1 hv)
  have hk := un_kind (k := 3) hp (by omega)
  rw [nf_any hw (by rw [List.length_append]; omega) (fun v hv => (hk v ((hmem v).1 hv)).1) (fun v hv => (hk v ((hmem v).1 hv)).2) hi2]
  rw [anyR_perm (once_perm hi2 hi hmem) fun u hu v hv => hi2 u (onceG_mem _ _ _ hu) v (onceG_mem _ _ _ hv)]
  by_cases c : p.1.kind = 3
  · have e : unF 3 p = toL p.2 := if_pos c
    rw [e] at hi ⊢
    have hl := one_len hp.one
    rw [← toL_len] at hl
    rw [one_any hp.one c, anyR_more hl, sort_fix_of hi (one_sort hp.one (.inl c)), of_to, ← he c]
  · have e : unF 3 p = [p] := if_neg c
    rw [e, onceG_keep [p] [] (by simp) (by simp), anyR_one]
/-! Texts tell terms apart. -/
theorem text_inj {F G : Fst} (hf : F.wf) (hg : G.wf) (f1 : F.len = 1) (g1 : G.len = 1) (f8 : F.depth ≤ 8) (g8 : G.depth ≤ 8) (f64 : F.size ≤ 64) (g64 : G.size ≤ 64) (h : textF F = textF G) : F = G := by
  have h0 : okN 0 := ⟨by omega, by omega⟩
  have hp : printF 0 0 F = printF 0 0 G := by unfold printF; rw [h]
  rw [print_text h0 h0 hf, print_text h0 h0 hg] at hp
  have hl := textD_lex h0 h0 hf
  rw [hp, textD_lex h0 h0 hg] at hl
  have hm : ∀ H : Fst, (placeG 0 (tokD 0 0 H)).map noPos = tokD 0 0 H := fun H => by
    rw [place_same]
    unfold tokD
    simp only [List.map_cons, toks_pos]
    rfl
  have d1 := defP_toks (hm F) h0 h0 hf f1
  have d2 := defP_toks (hm G) h0 h0 hg g1
  rw [badI_none F 8 0 f8 (fun _ => by omega)] at d1
  rw [badI_none G 8 0 g8 (fun _ => by omega)] at d2
  have he : placeG 0 (tokD 0 0 G) = placeG 0 (tokD 0 0 F) := by
    injection hl
  rw [he, d1] at d2
  simp only [Except.ok.injEq, Prod.mk.injEq, true_and] at d2
  exact d2
theorem fit_wf : ∀ (F : Fst) (deep ink : Nat), F.kok → F.fit deep ink → F.wf
  | .nil, _, _, _, _ => trivial
  | .cons x K N, deep, ink, ⟨h1, h2, h3, h4⟩, ⟨f1, _, _, f4, f5⟩ => by
    refine ⟨?_, h2, fit_wf K _ _ h3 f4, fit_wf N _ _ h4 f5⟩
    have hz : ((K.len : Nat) : Int) = 0 ↔ K = .nil := by rw [← len_nil]; omega
    unfold badP at f1
    simp only at f1
    by_cases c : x.kind = 0
    · rw [if_pos c] at f1
      have := of_decide_eq_false f1
      exact .inl ⟨c, by omega, by omega, by omega, by omega, hz.1 (by omega)⟩
    · rw [if_neg c] at f1
      have := of_decide_eq_false f1
      exact .inr ⟨by omega, h1, by omega, by omega, by omega, fun e => by have := hz.2 e; omega⟩
end Go.Proofs.YtkjpmhmlakmglaaDoor

namespace Go.Proofs.YtkjpmhmlakmglaaDoor

/-- Each part's place is kept with it. -/
def lab : Fst → Nat → Fst
  | .nil, _ => .nil
  | .cons x K N, o => .cons { x with kids := (o : Int) } (lab K (o + 1)) (lab N (o + 1 + K.size))
def bareP (x : Prt) : Prt := { x with kids := 0 }
def bare : Fst → Fst
  | .nil => .nil
  | .cons x K N => .cons (bareP x) (bare K) (bare N)
def bareT (t : Tm) : Tm := (bareP t.1, bare t.2)
theorem bare_len : ∀ F : Fst, (bare F).len = F.len ∧ (bare F).size = F.size
  | .nil => ⟨rfl, rfl⟩
  | .cons x K N => by simp only [bare, Fst.len, Fst.size, bare_len K, bare_len N, and_self]
theorem bare_flat : ∀ F : Fst, (bare F).flat = F.flat
  | .nil => rfl
  | .cons x K N => by simp only [bare, Fst.flat, bare_flat K, bare_flat N, bareP, bare_len K]
theorem bare_lab : ∀ (F : Fst) (o : Nat), F.kok → bare (lab F o) = F
  | .nil, _, _ => rfl
  | .cons x K N, o, ⟨_, h2, h3, h4⟩ => by
    obtain ⟨a, b, c, d, e⟩ := x
    simp only at h2; subst h2
    simp only [lab, bare, bareP, bare_lab K _ h3, bare_lab N _ h4]
theorem bare_kok : ∀ (F : Fst) (deep ink : Nat), F.fit deep ink → (bare F).kok
  | .nil, _, _, _ => trivial
  | .cons x K N, _deep, _ink, ⟨h1, _, _, h4, h5⟩ => ⟨badP_kind (x := { x with kids := (K.len : Int) }) h1, rfl, bare_kok K _ _ h4, bare_kok N _ _ h5⟩
theorem bare_text : ∀ F : Fst, textF (bare F) = textF F
  | .nil => rfl
  | .cons x K N => by simp only [bare, textF, bareP, bare_text K, bare_text N]
theorem bare_toL : ∀ F : Fst, toL (bare F) = (toL F).map bareT
  | .nil => rfl
  | .cons x K N => by simp only [bare, toL, List.map_cons, bare_toL N, bareT]
theorem bare_ofL : ∀ l : List Tm, bare (ofL l) = ofL (l.map bareT)
  | [] => rfl
  | t :: l => by simp only [ofL, bare, List.map_cons, bare_ofL l, bareT]
theorem bare_txT (t : Tm) : txT (bareT t) = txT t := by
  have := bare_text (.cons t.1 t.2 .nil)
  exact this
theorem bare_txs (l : List Tm) : (l.map bareT).map txT = l.map txT := by
  rw [List.map_map]
  exact List.map_congr_left fun t _ => bare_txT t
theorem bare_flatG (kind : Nat) : ∀ (l : List Tm) (n : Nat), flatG kind n (l.map bareT) = (flatG kind n l).map bareT
  | [], _ => rfl
  | t :: l, n => by
    simp only [List.map_cons, flatG, bareT, bare_len]
    have e : (bareP t.1).kind = t.1.kind := rfl
    rw [e]
    split
    · rw [bare_flatG kind l, bare_toL, List.map_append]
    · rw [bare_flatG kind l, List.map_cons]; rfl
theorem bare_onceG : ∀ (l : List Tm) (s : List (List UInt8)), onceG s (l.map bareT) = (onceG s l).map bareT
  | [], _ => rfl
  | t :: l, s => by
    simp only [List.map_cons, onceG, bare_txT]
    split
    · exact bare_onceG l s
    · rw [bare_onceG l, List.map_cons]
theorem bare_insG (t : Tm) : ∀ l : List Tm, insG (bareT t) (l.map bareT) = (insG t l).map bareT
  | [] => rfl
  | u :: l => by
    simp only [List.map_cons, insG, bare_txT]
    split
    · rfl
    · rw [bare_insG t l, List.map_cons]
theorem bare_fold : ∀ (l a : List Tm), (l.map bareT).foldl (fun a t => insG t a) (a.map bareT) = (l.foldl (fun a t => insG t a) a).map bareT
  | [], a => rfl
  | t :: l, a => by
    simp only [List.map_cons, List.foldl_cons, bare_insG]
    exact bare_fold l _
theorem bare_sortG (l : List Tm) : sortG (l.map bareT) = (sortG l).map bareT := bare_fold l []
theorem bare_oneT (t : Tm) : oneT (bareT t) = (oneT t).map bareT := by
  have e1 : toL (bareT t).2 = (toL t.2).map bareT := bare_toL t.2
  have e2 : (bareT t).1.kind = t.1.kind := rfl
  unfold oneT
  simp only [e1, e2, List.length_map, bare_flatG, bare_onceG, bare_sortG, bare_txs]
  split
  · cases toL t.2 <;> rfl
  · split
    · simp only [Option.map_some, bareT, bare_ofL]
    · split
      · simp only [Option.map_some, bareT, bare_ofL]
      · split
        · simp only [Option.map_some, bareT, bare_ofL]
        · rfl
theorem bare_loopT : ∀ (m : Nat) (t : Tm), loopT m (bareT t) = bareT (loopT m t)
  | 0, _ => rfl
  | m + 1, t => by
    rw [loopT, loopT, bare_oneT]
    cases oneT t with
    | none => rfl
    | some u => exact bare_loopT m u
theorem bare_plain : ∀ F : Fst, plainF (bare F) = bare (plainF F)
  | .nil => rfl
  | .cons x K N => by
    have h := bare_loopT (2 * K.size + 4) (x, plainF K)
    simp only [bareT] at h
    simp only [bare, plainF, bare_plain K, bare_plain N, bare_len K, h]
theorem bare_nrm : ∀ F : Fst, Nrm (bare F) ↔ Nrm F
  | .nil => Iff.rfl
  | .cons x K N => by
    have h := bare_oneT (x, K)
    have e : bareT (x, K) = (bareP x, bare K) := rfl
    rw [e] at h
    simp only [bare, Nrm, bare_nrm K, bare_nrm N, h, Option.map_eq_none_iff]
theorem lab_len : ∀ (F : Fst) (o : Nat), (lab F o).len = F.len ∧ (lab F o).size = F.size
  | .nil, _ => ⟨rfl, rfl⟩
  | .cons x K N, o => by simp only [lab, Fst.len, Fst.size, lab_len K, lab_len N, and_self]
theorem lab_flat : ∀ (F : Fst) (o : Nat), (lab F o).flat = F.flat
  | .nil, _ => rfl
  | .cons x K N, o => by simp only [lab, Fst.flat, lab_flat K, lab_flat N, (lab_len K _).1]
theorem lab_fit : ∀ (F : Fst) (o deep ink : Nat), F.fit deep ink → (lab F o).fit deep ink
  | .nil, _, _, _, _ => trivial
  | .cons x K N, o, deep, ink, ⟨h1, h2, h3, h4, h5⟩ => ⟨by simp only [(lab_len K _).1]; exact h1, h2, h3, lab_fit K _ _ _ h4, lab_fit N _ _ _ h5⟩
theorem prsF_get : ∀ (F : Fst) (i : Nat), i < F.size → ∃ x ∈ (prsF F)[i]?, ∃ y ∈ F.flat[i]?, y.kind = x.kind ∧ y.n = x.n ∧ y.g = x.g ∧ y.d = x.d
  | .nil, i, h => by simp [Fst.size] at h
  | .cons x K N, 0, _ => ⟨x, rfl, { x with kids := (K.len : Int) }, rfl, rfl, rfl, rfl, rfl⟩
  | .cons x K N, i + 1, h => by
    simp only [Fst.size] at h
    simp only [prsF, Fst.flat, List.getElem?_cons_succ]
    by_cases c : i < K.size
    · rw [List.getElem?_append_left (by rw [prsF_len]; exact c), List.getElem?_append_left (by rw [flat_len]; exact c)]
      exact prsF_get K i c
    · rw [List.getElem?_append_right (by rw [prsF_len]; omega), List.getElem?_append_right (by rw [flat_len]; omega), flat_len, prsF_len]
      exact prsF_get N _ (by omega)
theorem lab_prs : ∀ (F : Fst) (o i : Nat), i < F.size → ∃ x ∈ (prsF (lab F o))[i]?, x.kids = ((o + i : Nat) : Int)
  | .nil, _, i, h => by simp [Fst.size] at h
  | .cons x K N, o, 0, _ => ⟨{ x with kids := (o : Int) }, rfl, rfl⟩
  | .cons x K N, o, i + 1, h => by
    simp only [Fst.size] at h
    simp only [lab, prsF, List.getElem?_cons_succ]
    have e := (lab_len K (o + 1)).2
    by_cases c : i < K.size
    · rw [List.getElem?_append_left (by rw [prsF_len, e]; exact c)]
      obtain ⟨y, h1, h2⟩ := lab_prs K (o + 1) i c
      exact ⟨y, h1, by rw [h2]; congr 1; omega⟩
    · rw [List.getElem?_append_right (by rw [prsF_len, e]; omega), prsF_len, e]
      obtain ⟨y, h1, h2⟩ := lab_prs N (o + 1 + K.size) (i - K.size) (by omega)
      exact ⟨y, h1, by rw [h2]; congr 1; omega⟩
/-- Where the parts come from. -/
def fromF (F : Fst) : List Nat := (prsF F).map fun x => x.kids.toNat
theorem fromF_len (F : Fst) : (fromF F).length = F.size := by simp only [fromF, List.length_map, prsF_len]
theorem from_lab (F : Fst) (o i : Nat) (h : i < F.size) : (fromF (lab F o)).getD i 0 = o + i := by
  obtain ⟨x, h1, h2⟩ := lab_prs F o i h
  unfold fromF
  rw [List.getD_eq_getElem?_getD, List.getElem?_map, h1, Option.map_some, h2]
  simp only [Option.getD_some, Int.toNat_natCast]
/-- A part of the normal form comes from one of its kind. -/
theorem from_plain (F : Fst) (i : Nat) (h : i < (plainF (lab F 0)).size) : (fromF (plainF (lab F 0))).getD i 0 < F.size ∧
    ∃ y ∈ (plainF (lab F 0)).flat[i]?, ∃ z ∈ F.flat[(fromF (plainF (lab F 0))).getD i 0]?, y.kind = z.kind ∧ y.n = z.n ∧ y.g = z.g ∧ y.d = z.d := by
  obtain ⟨x, hx, y, hy, e1, e2, e3, e4⟩ := prsF_get _ i h
  have hm : x ∈ prsF (lab F 0) := by
    have h1 := plain_cnt x (lab F 0)
    have h2 : 0 < (prsF (plainF (lab F 0))).count x := List.count_pos_iff.2 (List.mem_of_getElem? hx)
    exact List.count_pos_iff.1 (by omega)
  obtain ⟨j, hj⟩ := List.getElem?_of_mem hm
  have hjl : j < F.size := by
    have := (List.getElem?_eq_some_iff.1 hj).1
    rw [prsF_len, (lab_len F 0).2] at this; exact this
  obtain ⟨x', h1, h2⟩ := lab_prs F 0 j hjl
  rw [hj] at h1; cases h1
  have e : (fromF (plainF (lab F 0))).getD i 0 = j := by
    unfold fromF
    rw [List.getD_eq_getElem?_getD, List.getElem?_map, hx, Option.map_some, h2]
    simp only [Option.getD_some, Int.toNat_natCast, Nat.zero_add]
  rw [e]
  obtain ⟨x', h3, z, hz, f1, f2, f3, f4⟩ := prsF_get (lab F 0) j (by rw [(lab_len F 0).2]; exact hjl)
  rw [hj] at h3; cases h3
  rw [lab_flat] at hz
  exact ⟨hjl, y, hy, z, hz, by rw [e1, f1], by rw [e2, f2], by rw [e3, f3], by rw [e4, f4]⟩
theorem count_two {α} [DecidableEq α] {l : List α} {i j : Nat} {x : α} (hij : j < i) (hi : l[i]? = some x) (hj : l[j]? = some x) : 2 ≤ l.count x := by
  rw [← List.take_append_drop (j + 1) l, List.count_append]
  have h1 : x ∈ l.take (j + 1) := List.mem_of_getElem? (i := j) (by rw [List.getElem?_take, if_pos (by omega)]; exact hj)
  have h2 : x ∈ l.drop (j + 1) := List.mem_of_getElem? (i := i - (j + 1)) (by rw [List.getElem?_drop, show j + 1 + (i - (j + 1)) = i by omega]; exact hi)
  have := List.count_pos_iff.2 h1
  have := List.count_pos_iff.2 h2
  omega
/-- No two parts of the normal form come from one. -/
theorem from_once (F : Fst) {i j : Nat} (hij : j < i) (hi : i < (plainF (lab F 0)).size) : (fromF (plainF (lab F 0))).getD i 0 ≠ (fromF (plainF (lab F 0))).getD j 0 := by
  intro he
  obtain ⟨x, hx, _⟩ := prsF_get _ i hi
  obtain ⟨y, hy, _⟩ := prsF_get _ j (by omega : j < (plainF (lab F 0)).size)
  have mem : ∀ x ∈ prsF (plainF (lab F 0)), x ∈ prsF (lab F 0) := fun x hx => by
    have h1 := plain_cnt x (lab F 0)
    have h2 := List.count_pos_iff.2 hx
    exact List.count_pos_iff.1 (by omega)
  obtain ⟨a, ha⟩ := List.getElem?_of_mem (mem x (List.mem_of_getElem? hx))
  obtain ⟨b, hb⟩ := List.getElem?_of_mem (mem y (List.mem_of_getElem? hy))
  have lt : ∀ {a : Nat} {x : Prt}, (prsF (lab F 0))[a]? = some x → a < F.size ∧ x.kids = (a : Int) := fun {a x} h => by
    have hl := (List.getElem?_eq_some_iff.1 h).1
    rw [prsF_len, (lab_len F 0).2] at hl
    obtain ⟨x', h1, h2⟩ := lab_prs F 0 a hl
    rw [h] at h1; cases h1
    rw [Nat.zero_add] at h2
    exact ⟨hl, h2⟩
  have hab : a = b := by
    unfold fromF at he
    rw [List.getD_eq_getElem?_getD, List.getD_eq_getElem?_getD, List.getElem?_map, List.getElem?_map, hx, hy] at he
    simp only [Option.map_some, Option.getD_some, (lt ha).2, (lt hb).2, Int.toNat_natCast] at he
    exact he
  subst hab
  have hxy : x = y := by rw [ha] at hb; exact Option.some.inj hb
  subst hxy
  have h2 := count_two hij hx hy
  have h3 := plain_cnt x (lab F 0)
  have h4 : (prsF (lab F 0)).count x ≤ 1 := by
    refine Nat.le_of_not_lt fun c => ?_
    obtain ⟨A, B, hAB⟩ := List.append_of_mem (List.mem_of_getElem? ha)
    rw [hAB, List.count_append, List.count_cons_self] at c
    have : x ∈ A ∨ x ∈ B := by
      by_cases cA : 0 < A.count x
      · exact .inl (List.count_pos_iff.1 cA)
      · exact .inr (List.count_pos_iff.1 (by omega))
    have ex : ∃ i j : Nat, i ≠ j ∧ (prsF (lab F 0))[i]? = some x ∧ (prsF (lab F 0))[j]? = some x := by
      have hA : (prsF (lab F 0))[A.length]? = some x := by rw [hAB, List.getElem?_append_right (Nat.le_refl _), Nat.sub_self]; rfl
      rcases this with hm | hm
      · obtain ⟨k, hk⟩ := List.getElem?_of_mem hm
        have hkl := (List.getElem?_eq_some_iff.1 hk).1
        exact ⟨k, A.length, by omega, by rw [hAB, List.getElem?_append_left hkl]; exact hk, hA⟩
      · obtain ⟨k, hk⟩ := List.getElem?_of_mem hm
        exact ⟨A.length + (k + 1), A.length, by omega, by rw [hAB, List.getElem?_append_right (by omega), Nat.add_sub_cancel_left, List.getElem?_cons_succ]; exact hk, hA⟩
    obtain ⟨i', j', hne, q1, q2⟩ := ex
    have r1 := (lt q1).2; have r2 := (lt q2).2
    omega
  omega
/-- The normal form of a normal form, numbered anew: it, each part from itself. -/
theorem again {F : Fst} (hk : F.kok) : ∃ H : Fst, H.kok ∧ H.flat = (plainF (lab F 0)).flat ∧ plainF (lab H 0) = lab H 0 ∧ H.len = F.len ∧ H = plainF F := by
  have e : bare (plainF (lab F 0)) = plainF F := by rw [← bare_plain, bare_lab F 0 hk]
  have hb : ∀ G : Fst, (∀ x ∈ G.flat, x.kind ≤ 4) → (bare G).kok := by
    intro G
    induction G with
    | nil => intro _; trivial
    | cons x K N ihK ihN =>
      intro h
      simp only [Fst.flat, List.mem_cons, List.mem_append] at h
      exact ⟨h { x with kids := (K.len : Int) } (.inl rfl), rfl, ihK fun y hy => h y (.inr (.inl hy)), ihN fun y hy => h y (.inr (.inr hy))⟩
  have hkok : (plainF F).kok := by
    rw [← e]
    refine hb _ fun x hx => ?_
    obtain ⟨i, hi⟩ := List.getElem?_of_mem hx
    have hlt : i < (plainF (lab F 0)).size := by rw [← flat_len]; exact (List.getElem?_eq_some_iff.1 hi).1
    obtain ⟨_, y, hy, z, hz, e1, _⟩ := from_plain F i hlt
    rw [hi] at hy; cases hy
    rw [e1]
    exact kok_kind F hk z (List.mem_of_getElem? hz)
  refine ⟨plainF F, hkok, by rw [← e, bare_flat], ?_, (plain_siz F).2, rfl⟩
  exact plain_fix _ ((bare_nrm _).1 (by rw [bare_lab _ 0 hkok]; exact plain_nrm F))
end Go.Proofs.YtkjpmhmlakmglaaDoor

namespace Go.Proofs.YtkjpmhmlakmglaaDoor

/-- A part's numbers are of their kinds, none below nought. -/
def PnW (x : Prt) : Prop := x.n ≤ 4294967295 ∧ x.g ≤ 4294967295 ∧ 0 ≤ x.d ∧ x.d ≤ 9223372036854775807
def Fst.num : Fst → Prop
  | .nil => True
  | .cons x K N => PnW x ∧ K.num ∧ N.num
def GdP (x : Prt) : Prop := x.kind ≤ 4 ∧ PnW x
def gdF (F : Fst) : Prop := ∀ x ∈ prsF F, GdP x
def gdT (t : Tm) : Prop := GdP t.1 ∧ gdF t.2
theorem gdF_cons {x : Prt} {K N : Fst} : gdF (.cons x K N) ↔ GdP x ∧ gdF K ∧ gdF N := by
  unfold gdF
  simp only [prsF, List.mem_cons, List.mem_append]
  exact ⟨fun h => ⟨h x (.inl rfl), fun y hy => h y (.inr (.inl hy)), fun y hy => h y (.inr (.inr hy))⟩, fun ⟨h1, h2, h3⟩ y hy => by
    rcases hy with rfl | hy | hy
    · exact h1
    · exact h2 y hy
    · exact h3 y hy⟩
theorem gd_kok : ∀ F : Fst, gdF F → (bare F).kok ∧ (bare F).num
  | .nil, _ => ⟨trivial, trivial⟩
  | .cons x K N, h => by
    obtain ⟨h1, h2, h3⟩ := gdF_cons.1 h
    obtain ⟨a1, a2⟩ := gd_kok K h2
    obtain ⟨b1, b2⟩ := gd_kok N h3
    exact ⟨⟨h1.1, rfl, a1, b1⟩, ⟨h1.2, a2, b2⟩⟩
theorem gd_all : ∀ F : Fst, gdF F ↔ ∀ t ∈ toL F, gdT t
  | .nil => by simp [gdF, prsF, toL]
  | .cons x K N => by
    rw [gdF_cons, gd_all N]
    simp only [toL, List.mem_cons, forall_eq_or_imp, gdT, and_assoc]
/-- A term's parts, and where they come from. -/
def flT (t : Tm) : List Prt := (Fst.cons t.1 t.2 .nil).flat
def frT (t : Tm) : List Nat := fromF (.cons t.1 t.2 .nil)
theorem flT_len (t : Tm) : (flT t).length = sizT t := by simp [flT, flat_len, Fst.size, sizT]
theorem frT_len (t : Tm) : (frT t).length = sizT t := by simp [frT, fromF_len, Fst.size, sizT]
def tm0 : Tm := (⟨0, 0, 0, 0, 0⟩, .nil)
theorem badP_num {x : Prt} (h : badP x = false) : x.kind ≤ 4 ∧ x.n ≤ 4096 ∧ x.g ≤ 4096 ∧ 0 ≤ x.d ∧ x.d ≤ 4096 ∧ 0 ≤ x.kids ∧ x.kids ≤ 16 := by
  unfold badP at h
  split at h
  · have := of_decide_eq_false h; omega
  · have := of_decide_eq_false h; omega
theorem fit_gdP {x : Prt} {n : Nat} (h : badP { x with kids := (n : Int) } = false) : GdP x := by
  have := badP_num h
  simp only at this
  exact ⟨this.1, by omega, by omega, this.2.2.2.1, by omega⟩
theorem fit_gd : ∀ (F : Fst) (deep ink : Nat), F.fit deep ink → gdF F
  | .nil, _, _, _ => fun x h => by first | (simp [prsF] at h; done) | cases h
  | .cons x K N, deep, ink, ⟨h1, _, _, h4, h5⟩ => gdF_cons.2 ⟨fit_gdP h1, fit_gd K _ _ h4, fit_gd N _ _ h5⟩
theorem fitT_gd {t : Tm} {deep ink : Nat} (h : FitT t deep ink) : gdT t := ⟨fit_gdP h.1, fit_gd _ _ _ h.2.2.2⟩
theorem fitT_len {t : Tm} {deep ink : Nat} (h : FitT t deep ink) : t.2.len ≤ 16 := by
  have := badP_num h.1
  simp only at this; omega
/-- The numbers of a valid term's parts are of their fields' kinds. -/
theorem fit_flat : ∀ (F : Fst) (deep ink : Nat), F.fit deep ink → ∀ x ∈ F.flat, x.kind ≤ 4 ∧ x.n ≤ 4096 ∧ x.g ≤ 4096 ∧ 0 ≤ x.d ∧ x.d ≤ 4096 ∧ 0 ≤ x.kids ∧ x.kids ≤ 16
  | .nil, _, _, _ => fun x h => by first | (simp [prsF] at h; done) | cases h
  | .cons y K N, deep, ink, ⟨h1, _, _, h4, h5⟩ => fun x hx => by
    simp only [Fst.flat, List.mem_cons, List.mem_append] at hx
    rcases hx with rfl | hx | hx
    · exact badP_num h1
    · exact fit_flat K _ _ h4 x hx
    · exact fit_flat N _ _ h5 x hx
theorem fitT_flat {t : Tm} {deep ink : Nat} (h : FitT t deep ink) : ∀ x ∈ flT t, PrtW x := fun x hx => by
  have := fit_flat (.cons t.1 t.2 .nil) deep ink ⟨h.1, h.2.1, h.2.2.1, h.2.2.2, trivial⟩ x hx
  unfold PrtW; omega
theorem fitT_kok {t : Tm} {deep ink : Nat} (h : FitT t deep ink) : (bare (.cons t.1 t.2 .nil)).kok :=
  (gd_kok _ (gdF_cons.2 ⟨(fitT_gd h).1, (fitT_gd h).2, fun x hx => by simp [prsF] at hx⟩)).1
theorem fitT_kid {t u : Tm} {deep ink : Nat} (h : FitT t deep ink) (hu : u ∈ toL t.2) : FitT u (deep + 1) t.1.kind := (fit_all _ _ _).1 h.2.2.2 u hu
theorem siz_mem {u : Tm} : ∀ {l : List Tm}, u ∈ l → sizT u ≤ sizL l
  | t :: l, h => by
    simp only [sizL]
    rcases List.mem_cons.1 h with rfl | h
    · omega
    · have := siz_mem h; omega
theorem siz_kid {t u : Tm} (h : u ∈ toL t.2) : sizT u < sizT t := by
  have := siz_mem h
  rw [sizL_to] at this
  simp only [sizT] at this ⊢; omega

/-! The rules, as the program tries them, one by one. -/
def oneR (t : Tm) : Option Tm := if (toL t.2).length = 1 then (toL t.2).head? else none
/-- Whether a child gives way. -/
def flatC (kind : Nat) : Nat → List Tm → Bool
  | _, [] => false
  | n, t :: l => if t.1.kind = kind ∧ n + t.2.len ≤ 17 then true else flatC kind n l
def flatR (t : Tm) : Option Tm := if flatC t.1.kind (toL t.2).length (toL t.2) then some (t.1, ofL (flatG t.1.kind (toL t.2).length (toL t.2))) else none
def onceR (t : Tm) : Option Tm := if t.1.kind = 3 ∧ (onceG [] (toL t.2)).length < (toL t.2).length then some (t.1, ofL (onceG [] (toL t.2))) else none
def srtB (l : List Tm) : Bool := decide (l.map txT = (sortG l).map txT)
def sortR (t : Tm) : Option Tm := if (t.1.kind = 3 ∨ t.1.kind = 4) ∧ srtB (toL t.2) = false then some (t.1, ofL (sortG (toL t.2))) else none
theorem flatC_id (kind : Nat) : ∀ (l : List Tm) (n : Nat), flatC kind n l = false → flatG kind n l = l
  | [], _, _ => rfl
  | t :: l, n, h => by
    rw [flatC] at h
    rw [flatG]
    split at h
    · cases h
    · rename_i c
      rw [if_neg c, flatC_id kind l n h]
theorem flatG_more (kind : Nat) : ∀ (l : List Tm) (n : Nat), (∀ t ∈ l, t.1.kind = kind → 2 ≤ t.2.len) → l.length ≤ (flatG kind n l).length
  | [], _, _ => Nat.le_refl _
  | t :: l, n, h => by
    rw [flatG]
    have ih := fun n => flatG_more kind l n (fun u hu => h u (List.mem_cons_of_mem _ hu))
    split
    · rename_i c
      have := h t (by simp) c.1
      have := ih (n + t.2.len - 1)
      rw [List.length_append, toL_len, List.length_cons]; omega
    · have := ih n
      simp only [List.length_cons]; omega
theorem flatC_len (kind : Nat) : ∀ (l : List Tm) (n : Nat), (∀ t ∈ l, t.1.kind = kind → 2 ≤ t.2.len) → flatC kind n l = true → l.length < (flatG kind n l).length
  | [], _, _, h => by cases h
  | t :: l, n, h, hc => by
    rw [flatC] at hc
    rw [flatG]
    split at hc
    · rename_i c
      rw [if_pos c]
      have := h t (by simp) c.1
      have := flatG_more kind l (n + t.2.len - 1) (fun u hu => h u (List.mem_cons_of_mem _ hu))
      rw [List.length_append, toL_len, List.length_cons]; omega
    · rename_i c
      rw [if_neg c]
      have := flatC_len kind l n (fun u hu => h u (List.mem_cons_of_mem _ hu)) hc
      simp only [List.length_cons]; omega
/-- Of a term whose children are plain the first rule that changes it is the rules' own. -/
theorem oneT_rules {t : Tm} {deep ink : Nat} (hf : FitT t deep ink) (hn : Nrm t.2) :
    oneT t = match oneR t with | some u => some u | none => match flatR t with | some u => some u | none => match onceR t with | some u => some u | none => sortR t := by
  have hkid := fun u hu => fitT_kid (u := u) hf hu
  have hnk := (nrm_all _).1 hn
  unfold oneT oneR
  simp only
  by_cases c1 : (toL t.2).length = 1
  · rw [if_pos c1, if_pos c1]
    match h : toL t.2, c1 with
    | [u], _ => rfl
  · rw [if_neg c1, if_neg c1]
    simp only
    unfold flatR
    have h2 : ∀ u ∈ toL t.2, u.1.kind = t.1.kind → 2 ≤ u.2.len := fun u hu e => by
      have hb := badP_kids (hkid u hu).1
      have hk0 : t.1.kind ≠ 0 := fun c => by
        have := (badP_kids hf.1).1 c
        rw [← toL_len] at this
        have : toL t.2 = [] := List.eq_nil_of_length_eq_zero this
        rw [this] at hu; cases hu
      have := hb.2 (by omega)
      have h3 := (hnk u hu).1
      have h4 := one_len h3
      omega
    by_cases c2 : flatC t.1.kind (toL t.2).length (toL t.2) = true
    · rw [if_pos c2]
      have hl := flatC_len _ _ _ h2 c2
      have hk : t.1.kind = 1 ∨ t.1.kind = 3 ∨ t.1.kind = 4 := by
        have hk4 := badP_kind hf.1
        simp only at hk4
        have : ∃ u ∈ toL t.2, u.1.kind = t.1.kind := by
          by_cases c : ∃ u ∈ toL t.2, u.1.kind = t.1.kind
          · exact c
          · exfalso
            rw [flatG_id _ _ (fun v hv e => c ⟨v, hv, e⟩)] at hl; omega
        obtain ⟨u, hu, e⟩ := this
        have hu2 := h2 u hu e
        have hub := (badP_kids (hkid u hu).1).1
        have hi := (hkid u hu).2.1
        have : t.1.kind ≠ 0 := fun c => by have := hub (by omega); omega
        have : t.1.kind ≠ 2 := fun c => by have := hi c; omega
        omega
      rw [if_pos ⟨hk, by omega⟩]
    · have e := flatC_id _ _ _ (by simpa using c2)
      rw [if_neg c2, if_neg (by rw [e]; omega)]
      simp only
      unfold onceR
      have hle := (onceG_siz (toL t.2) []).2
      by_cases c3 : t.1.kind = 3 ∧ (onceG [] (toL t.2)).length < (toL t.2).length
      · rw [if_pos c3, if_pos ⟨c3.1, by omega⟩]
      · rw [if_neg c3, if_neg (fun q => c3 ⟨q.1, by omega⟩)]
        simp only
        unfold sortR srtB
        simp only [decide_eq_false_iff_not]
end Go.Proofs.YtkjpmhmlakmglaaDoor

namespace Go.Proofs.YtkjpmhmlakmglaaDoor
open Go.ChangeShapes Go.WideShapes Go.ChangeAt Go.RowKit
attribute [local irreducible] Go.Calls

/-- A term's cells: its part (with whatever number of children), where it comes from, its children. -/
abbrev tcV (x : Prt) (z : Int) (v : Value) : List Value := [.int .u8 x.kind, .int .u32 x.n, .int .u32 x.g, .int .i64 x.d, .int .i64 z, .int .i64 x.kids, v]
abbrev tcA (x : Prt) (z : Int) (v : Value) : Array Value := #[.int .u8 x.kind, .int .u32 x.n, .int .u32 x.g, .int .i64 x.d, .int .i64 z, .int .i64 x.kids, v]
abbrev trV (x : Prt) (z : Int) (v : Value) : Value := .agg #[.int .u8 x.kind, .int .u32 x.n, .int .u32 x.g, .int .i64 x.d, .int .i64 z, .int .i64 x.kids, v]
/-- The blocks of the property stay; none goes. -/
structure Sam (S : Nat → Prop) (w w' : World) : Prop where
  size : w.heap.size ≤ w'.heap.size
  block : ∀ k, S k → k < w.heap.size → w'.heap[k]? = w.heap[k]?
section
variable {S S' : Nat → Prop} {w w' w2 : World}
theorem Sam.refl (S : Nat → Prop) (w : World) : Sam S w w := ⟨Nat.le_refl _, fun _ _ _ => rfl⟩
theorem Sam.trans (h : Sam S w w') (h2 : Sam S w' w2) : Sam S w w2 := ⟨Nat.le_trans h.size h2.size, fun k hs hk => (h2.block k hs (Nat.lt_of_lt_of_le hk h.size)).trans (h.block k hs hk)⟩
theorem Sam.past (hb : Below w.heap.size w w') : Sam S w w' := ⟨hb.size, fun k _ hk => hb.block k hk⟩
theorem Sam.below {B : Nat} (hb : Below B w w') (hS : ∀ k, S k → k < B) : Sam S w w' := ⟨hb.size, fun k hs _ => hb.block k (hS k hs)⟩
theorem Sam.grown {r : Option Nat} (hg : w.grownBy w' r) (hS : ∀ k, S k → some k ≠ r) : Sam S w w' := ⟨hg.size, fun k hs hk => hg.block k hk (hS k hs)⟩
theorem Sam.mono (h : Sam S w w') (hS : ∀ k, S' k → k < w.heap.size → S k) : Sam S' w w' := ⟨h.size, fun k hs hk => h.block k (hS k hs hk) hk⟩
theorem Sam.cell (h : Sam S w w') {b : Nat} (hs : S b) (hb : b < w.heap.size) (o : Nat) : w'.cell? ⟨b, o, none⟩ = w.cell? ⟨b, o, none⟩ := World.cell?_of_block (w := w) (h.block b hs hb)
end
/-- A slice value of so many elements whose cells are such. -/
def SlcT (S : Nat → Prop) (w : World) (v : Value) (n : Nat) (R : List Value → Prop) : Prop :=
  ∃ (a : Option Addr) (cap : Nat), v = .slice a n cap ∧ n ≤ cap ∧ cap ≤ 9223372036854775807 ∧ (a = none → cap = 0) ∧ (0 < n → ∃ b off, a = some ⟨b, off, none⟩ ∧ S b ∧ b < w.heap.size ∧ ∃ xs, R xs ∧ ∀ j u, xs[j]? = some u → w.cell? ⟨b, off + j, none⟩ = some u)
/-- The cells of terms. -/
def CelF (S : Nat → Prop) (w : World) : Fst → List Value → Prop
  | .nil => fun xs => xs = []
  | .cons x K N => fun xs => ∃ (z : Int) (v : Value) (ys : List Value), xs = tcV x z v ++ ys ∧ SlcT S w v K.len (CelF S w K) ∧ CelF S w N ys
abbrev SliF (S : Nat → Prop) (w : World) (v : Value) (F : Fst) : Prop := SlcT S w v F.len (CelF S w F)
theorem SlcT.imp {S S' : Nat → Prop} {w w' : World} {v : Value} {n : Nat} {R R' : List Value → Prop} (h : SlcT S w v n R) (hs : w.heap.size ≤ w'.heap.size) (hS : ∀ k, S k → k < w.heap.size → S' k ∧ w'.heap[k]? = w.heap[k]?) (hR : ∀ xs, R xs → R' xs) : SlcT S' w' v n R' := by
  obtain ⟨a, cap, e, h1, h2, h3, h4⟩ := h
  refine ⟨a, cap, e, h1, h2, h3, fun hn => ?_⟩
  obtain ⟨b, off, e2, g1, g2, xs, g3, g4⟩ := h4 hn
  obtain ⟨q1, q2⟩ := hS b g1 g2
  exact ⟨b, off, e2, q1, Nat.lt_of_lt_of_le g2 hs, xs, hR xs g3, fun j u hu => (World.cell?_of_block (w := w) (a := ⟨b, off + j, none⟩) q2).trans (g4 j u hu)⟩
theorem CelF.imp {S S' : Nat → Prop} {w w' : World} (hs : w.heap.size ≤ w'.heap.size) (hS : ∀ k, S k → k < w.heap.size → S' k ∧ w'.heap[k]? = w.heap[k]?) : ∀ (F : Fst) (xs : List Value), CelF S w F xs → CelF S' w' F xs
  | .nil, _, h => h
  | .cons _x K N, _, ⟨z, v, ys, e, h1, h2⟩ => ⟨z, v, ys, e, h1.imp hs hS (CelF.imp hs hS K), CelF.imp hs hS N ys h2⟩
section
variable {S S' : Nat → Prop} {w w' : World} {F : Fst} {xs ys : List Value} {v : Value}
theorem CelF.sam (h : CelF S w F xs) (hb : Sam S w w') : CelF S w' F xs := CelF.imp hb.size (fun k a b => ⟨a, hb.block k a b⟩) F xs h
theorem CelF.mono (h : CelF S w F xs) (hS : ∀ k, S k → k < w.heap.size → S' k) : CelF S' w F xs := CelF.imp (Nat.le_refl _) (fun k a b => ⟨hS k a b, rfl⟩) F xs h
theorem SlcT.sam (h : SliF S w v F) (hb : Sam S w w') : SliF S w' v F := SlcT.imp h hb.size (fun k a b => ⟨a, hb.block k a b⟩) fun _ q => q.sam hb
theorem SlcT.mono (h : SliF S w v F) (hS : ∀ k, S k → k < w.heap.size → S' k) : SliF S' w v F := SlcT.imp h (Nat.le_refl _) (fun k a b => ⟨hS k a b, rfl⟩) fun _ q => q.mono hS
theorem sliF_nil (S : Nat → Prop) (w : World) : SliF S w (.slice none 0 0) .nil := ⟨none, 0, rfl, Nat.le_refl _, by omega, fun _ => rfl, fun h => by cases h⟩
end
theorem CelF.len {S : Nat → Prop} {w : World} : ∀ {F : Fst} {xs : List Value}, CelF S w F xs → xs.length = F.len * 7
  | .nil, _, h => by cases h; rfl
  | .cons x K N, _, ⟨z, v, ys, e, h1, h2⟩ => by
    have := CelF.len h2
    rw [e, List.length_append, this]
    simp only [List.length_cons, List.length_nil, Fst.len]; omega
theorem CelF.one {S : Nat → Prop} {w : World} : ∀ {F : Fst} {xs : List Value}, CelF S w F xs → ∀ u ∈ xs, u.oneCell' = true
  | .nil, _, h => by cases h; exact fun u hu => by cases hu
  | .cons x K N, _, ⟨z, v, ys, e, ⟨a, cap, ev, _⟩, h2⟩ => fun u hu => by
    subst e ev
    simp only [tcV, List.cons_append, List.nil_append, List.mem_cons] at hu
    rcases hu with rfl | rfl | rfl | rfl | rfl | rfl | rfl | hu
    all_goals first | rfl | exact CelF.one h2 u hu
theorem CelF.app {S : Nat → Prop} {w : World} {r : List Tm} {ys : List Value} (h2 : CelF S w (ofL r) ys) : ∀ {l : List Tm} {xs : List Value}, CelF S w (ofL l) xs → CelF S w (ofL (l ++ r)) (xs ++ ys)
  | [], _, h => by cases h; exact h2
  | t :: l, _, ⟨z, v, zs, e, h1, h3⟩ => ⟨z, v, zs ++ ys, by rw [e, List.append_assoc], h1, CelF.app h2 h3⟩
theorem celF_one {S : Nat → Prop} {w : World} {t : Tm} {z : Int} {v : Value} (h : SliF S w v t.2) : CelF S w (ofL [t]) (tcV t.1 z v) := ⟨z, v, [], by simp, h, rfl⟩
theorem CelF.get {S : Nat → Prop} {w : World} : ∀ {F : Fst} {xs : List Value}, CelF S w F xs → ∀ i, i < F.len → ∃ z v, (∀ j u, (tcV ((toL F).getD i tm0).1 z v)[j]? = some u → xs[i * 7 + j]? = some u) ∧ SliF S w v ((toL F).getD i tm0).2
  | .nil, _, _ => fun i hi => by simp [Fst.len] at hi
  | .cons x K N, _, ⟨z, v, ys, e, h1, h2⟩ => fun i hi => by
    cases i with
    | zero =>
      refine ⟨z, v, fun j u hu => ?_, h1⟩
      have hj := (List.getElem?_eq_some_iff.1 hu).1
      rw [e, Nat.zero_mul, Nat.zero_add, List.getElem?_append_left (by simpa using hj)]; exact hu
    | succ i =>
      obtain ⟨z', v', g1, g2⟩ := CelF.get h2 i (by simpa [Fst.len] using hi)
      refine ⟨z', v', fun j u hu => ?_, by simpa [toL] using g2⟩
      rw [e, List.getElem?_append_right (by simp; omega)]
      have := g1 j u (by simpa [toL] using hu)
      rw [← this]
      congr 1
      simp; omega
/-- A term in a slice: its cells, one by one. -/
theorem SlcT.get {S : Nat → Prop} {w : World} {v : Value} {F : Fst} (h : SliF S w v F) {i : Nat} (hi : i < F.len) : ∃ b off cap z vk, v = .slice (some ⟨b, off, none⟩) F.len cap ∧ F.len ≤ cap ∧ b < w.heap.size ∧ S b ∧ SliF S w vk ((toL F).getD i tm0).2 ∧
    w.cell? ⟨b, off + i * 7, none⟩ = some (.int .u8 ((toL F).getD i tm0).1.kind) ∧ w.cell? ⟨b, off + i * 7 + 1, none⟩ = some (.int .u32 ((toL F).getD i tm0).1.n) ∧ w.cell? ⟨b, off + i * 7 + 2, none⟩ = some (.int .u32 ((toL F).getD i tm0).1.g) ∧ w.cell? ⟨b, off + i * 7 + 3, none⟩ = some (.int .i64 ((toL F).getD i tm0).1.d) ∧
    w.cell? ⟨b, off + i * 7 + 4, none⟩ = some (.int .i64 z) ∧ w.cell? ⟨b, off + i * 7 + 5, none⟩ = some (.int .i64 ((toL F).getD i tm0).1.kids) ∧ w.cell? ⟨b, off + i * 7 + 6, none⟩ = some vk := by
  obtain ⟨a, cap, e, h1, _, _, h4⟩ := h
  obtain ⟨b, off, rfl, g1, g2, xs, g3, g4⟩ := h4 (by omega)
  obtain ⟨z, vk, q1, q2⟩ := g3.get i hi
  have c : ∀ j u, (tcV ((toL F).getD i tm0).1 z vk)[j]? = some u → w.cell? ⟨b, off + i * 7 + j, none⟩ = some u := fun j u hu => by rw [Nat.add_assoc]; exact g4 _ u (q1 j u hu)
  exact ⟨b, off, cap, z, vk, e, h1, g2, g1, q2, c 0 _ rfl, c 1 _ rfl, c 2 _ rfl, c 3 _ rfl, c 4 _ rfl, c 5 _ rfl, c 6 _ rfl⟩
theorem SlcT.shape {S : Nat → Prop} {w : World} {v : Value} {n : Nat} {R : List Value → Prop} (h : SlcT S w v n R) : ∃ a cap, v = .slice a n cap ∧ n ≤ cap ∧ cap ≤ 9223372036854775807 := by
  obtain ⟨a, cap, e, h1, h2, _⟩ := h
  exact ⟨a, cap, e, h1, h2⟩
/-- What an append reads of a slice of terms. -/
theorem SlcT.src {S : Nat → Prop} {w : World} {v : Value} {F : Fst} (h : SliF S w v F) : ∃ ys, SrcV w 7 v F.len ys ∧ CelF S w F ys := by
  obtain ⟨a, cap, rfl, h1, h2, h3, h4⟩ := h
  by_cases hl : 0 < F.len
  · obtain ⟨b, off, rfl, g1, g2, xs, g3, g4⟩ := h4 hl
    refine ⟨xs, ⟨_, cap, rfl, fun e => (by simp at e), g3.len, g3.one, ?_⟩, g3⟩
    rintro ad ⟨⟩ j u hu
    have ad : (⟨b, off, none⟩ : Addr).add j = ⟨b, off + j, none⟩ := by
      unfold Addr.add
      by_cases c : j = 0
      · subst c; simp
      · simp [c]
    rw [ad]; exact g4 j u hu
  · cases F with
    | nil => exact ⟨[], ⟨a, cap, rfl, fun e => ⟨rfl, h3 e⟩, rfl, fun u hu => by simp at hu, fun ad _ j u hu => by simp at hu⟩, rfl⟩
    | cons x K N => simp [Fst.len] at hl
/-- A row of the call's own that reads as terms. -/
def OwnN (B : Nat) (S : Nat → Prop) (w : World) (v : Value) (l : List Tm) : Prop := ∃ xs, w.ownsRow B 54 7 v l.length xs ∧ CelF S w (ofL l) xs
theorem ownN_nil (B : Nat) (S : Nat → Prop) (w : World) : OwnN B S w (.slice none 0 0) [] := ⟨[], own_nil _ _ _, rfl⟩
/-- The blocks that were there. -/
def Old (S : Nat → Prop) (w : World) : Nat → Prop := fun k => S k ∧ k < w.heap.size
theorem SlcT.old {S : Nat → Prop} {w : World} {v : Value} {F : Fst} (h : SliF S w v F) : SliF (Old S w) w v F := h.mono fun _ a b => ⟨a, b⟩
theorem Sam.old {S : Nat → Prop} {w a b : World} (h : Below w.heap.size a b) : Sam (Old S w) a b := Sam.below h fun _ q => q.2
theorem OwnN.sli {B : Nat} {S S' : Nat → Prop} {w : World} {v : Value} {l : List Tm} (h : OwnN B S w v l) (hS : ∀ k, B ≤ k → S' k) (hS' : ∀ k, S k → S' k) : SliF S' w v (ofL l) := by
  obtain ⟨xs, ⟨h1, h2 | ⟨g, cap, cur, rfl, h3, h4, h5, h6, h7, h8⟩⟩, hr⟩ := h
  · obtain ⟨rfl, h2⟩ := h2
    have : l = [] := List.eq_nil_of_length_eq_zero h2
    subst this
    exact sliF_nil _ _
  · refine ⟨some ⟨g, 0, none⟩, cap, by rw [ofL_len], by rw [ofL_len]; exact h5, by unfold maxLen at h6; omega, fun e => (by simp at e), fun _ => ⟨g, 0, rfl, hS g h3, lt_of_block h4, xs, hr.mono (fun k a _ => hS' k a), fun j u hu => ?_⟩⟩
    have hj : j < l.length * 7 := by have := (List.getElem?_eq_some_iff.1 hu).1; have := hr.len; rw [ofL_len] at this; omega
    have e : w.cell? ⟨g, 0 + j, none⟩ = cur[j]? := by simp [World.cell?, h4]
    rw [e, ← Array.getElem?_toList]
    rw [← h8, List.getElem?_take, if_pos hj] at hu
    exact hu
theorem OwnN.past {B : Nat} {S : Nat → Prop} {w w' : World} {v : Value} {l : List Tm} (h : OwnN B S w v l) (hb : Below w.heap.size w w') : OwnN B S w' v l := by
  obtain ⟨xs, h1, h2⟩ := h
  exact ⟨xs, own_below h1 hb, h2.sam (Sam.past hb)⟩
/-- A term in a block. -/
def TermB (S : Nat → Prop) (w : World) (p : Nat) (t : Tm) : Prop := ∃ z v, Blk w p (tcA t.1 z v) 54 ∧ SliF S w v t.2
theorem TermB.sam {S : Nat → Prop} {w w' : World} {p : Nat} {t : Tm} (h : TermB S w p t) (hb : Sam S w w') (hp : w'.heap[p]? = w.heap[p]?) : TermB S w' p t := by
  obtain ⟨z, v, h1, h2⟩ := h
  exact ⟨z, v, hp.trans h1, h2.sam hb⟩
theorem TermB.past {S : Nat → Prop} {w w' : World} {p : Nat} {t : Tm} (h : TermB S w p t) (hb : Below w.heap.size w w') : TermB S w' p t := by
  obtain ⟨z, v, h1, h2⟩ := id h
  exact h.sam (Sam.past hb) (hb.block p h1.lt)
theorem TermB.lt {S : Nat → Prop} {w : World} {p : Nat} {t : Tm} (h : TermB S w p t) : p < w.heap.size := by
  obtain ⟨z, v, h1, h2⟩ := h
  exact h1.lt
/-- A term is stored into a block. -/
abbrev put7 (w : World) (p : Nat) (x : Prt) (z : Int) (v : Value) : World :=
  ((((((w.setCell ⟨p, 0, none⟩ (.int .u8 x.kind)).setCell ⟨p, 1, none⟩ (.int .u32 x.n)).setCell ⟨p, 2, none⟩ (.int .u32 x.g)).setCell ⟨p, 3, none⟩ (.int .i64 x.d)).setCell ⟨p, 4, none⟩ (.int .i64 z)).setCell ⟨p, 5, none⟩ (.int .i64 x.kids)).setCell ⟨p, 6, none⟩ v
theorem put7_blk {w : World} {p : Nat} {y : Prt} {q : Int} {u : Value} {T : TypeId} (h : Blk w p (tcA y q u) T) (x : Prt) (z : Int) (v : Value) : Blk (put7 w p x z v) p (tcA x z v) T := by
  have h0 := h.set 0 (.int .u8 x.kind)
  simp only [tcA, List.setIfInBounds_toArray, List.set_cons_zero] at h0
  have h1 := h0.set 1 (.int .u32 x.n)
  simp only [List.setIfInBounds_toArray, List.set_cons_zero, List.set_cons_succ] at h1
  have h2 := h1.set 2 (.int .u32 x.g)
  simp only [List.setIfInBounds_toArray, List.set_cons_zero, List.set_cons_succ] at h2
  have h3 := h2.set 3 (.int .i64 x.d)
  simp only [List.setIfInBounds_toArray, List.set_cons_zero, List.set_cons_succ] at h3
  have h4 := h3.set 4 (.int .i64 z)
  simp only [List.setIfInBounds_toArray, List.set_cons_zero, List.set_cons_succ] at h4
  have h5 := h4.set 5 (.int .i64 x.kids)
  simp only [List.setIfInBounds_toArray, List.set_cons_zero, List.set_cons_succ] at h5
  have h6 := h5.set 6 v
  simp only [List.setIfInBounds_toArray, List.set_cons_zero, List.set_cons_succ] at h6
  exact h6
theorem put7_grown (w : World) (p : Nat) (x : Prt) (z : Int) (v : Value) : w.grownBy (put7 w p x z v) (some p) := by
  refine grown_trans ?_ (grown_set _ p 6 _)
  refine grown_trans ?_ (grown_set _ p 5 _)
  refine grown_trans ?_ (grown_set _ p 4 _)
  refine grown_trans ?_ (grown_set _ p 3 _)
  refine grown_trans ?_ (grown_set _ p 2 _)
  refine grown_trans ?_ (grown_set _ p 1 _)
  exact grown_set _ p 0 _
theorem SlcT.off {S : Nat → Prop} {w w' : World} {v : Value} {F : Fst} (h : SliF S w v F) {p : Nat} (hS : ¬ S p) (hg : w.grownBy w' (some p)) : SliF S w' v F :=
  h.sam (Sam.grown hg fun k hk e => hS (by cases e; exact hk))
theorem Tryd.infoTermN : (Tryd.prog.info? 54).map (fun i => (i.zero, i.size, i.bytes)) = some (some (.agg #[.int .u8 0, .int .u32 0, .int .u32 0, .int .i64 0, .int .i64 0, .int .i64 0, .slice none 0 0]), 7, 64) := by kernel_rfl
end Go.Proofs.YtkjpmhmlakmglaaDoor

namespace Go.Proofs.YtkjpmhmlakmglaaDoor
open Go.ChangeShapes Go.WideShapes Go.ChangeAt Go.RowKit
attribute [local irreducible] Go.Calls

set_option maxHeartbeats 1000000 in
theorem rbad_c (x : Prt) (w : World) : Calls Tryd.prog 35 #[prtV x] w fun e w' => e = .returned (.bool (badP x)) ∧ Below w.heap.size w w' := by
  obtain ⟨kd, n, g, d, ks⟩ := x
  by_cases hk : kd = 0
  · have HE := hidE (show badP ⟨kd, n, g, d, ks⟩ = decide (ks ≠ 0 ∨ n = 0 ∨ 4096 < n ∨ g = 0 ∨ n < g ∨ n % g ≠ 0 ∨ d < 1 ∨ 4096 < d) by unfold badP; rw [if_pos hk])
    rw [HE.out]
    have k1 : ((kd : Int) == 0) = true := by simp [hk]
    have hmod : (n : Int).tmod (g : Int) = ((n % g : Nat) : Int) := by rw [Int.tmod_eq_emod_of_nonneg (by omega)]; omega
    clear HE hk
    go_enter Tryd.func35, Tryd.ntmps35
    go_wp2
    all_goals
      go_ret
      refine ⟨ret_bool ?_, by (repeat (first | exact Below.refl _ _ | assumption | refine balloc ?_ _ | refine below_drewN ?_ _ | refine bstep (by assumption) ?_ | refine bstep (Past.prop _) ?_ | refine Below.setCell ?_ (by first | exact Nat.le_refl _ | (simp; done) | (simp; omega)) _))⟩
      first
        | (symm; apply decide_eq_true; omega)
        | (symm; apply decide_eq_false; omega)
        | (simp_all; done)
        | (rw [Bool.eq_iff_iff]; simp_all; omega)
  · have HE := hidE (show badP ⟨kd, n, g, d, ks⟩ = decide (4 < kd ∨ ks < 1 ∨ 16 < ks ∨ n ≠ 0 ∨ g ≠ 0 ∨ d ≠ 0) by unfold badP; rw [if_neg hk])
    rw [HE.out]
    have k1 : ((kd : Int) == 0) = false := by simp; omega
    clear HE hk
    go_enter Tryd.func35, Tryd.ntmps35
    go_wp2
    all_goals
      go_ret
      refine ⟨ret_bool ?_, by (repeat (first | exact Below.refl _ _ | assumption | refine balloc ?_ _ | refine below_drewN ?_ _ | refine bstep (by assumption) ?_ | refine bstep (Past.prop _) ?_ | refine Below.setCell ?_ (by first | exact Nat.le_refl _ | (simp; done) | (simp; omega)) _))⟩
      first
        | (symm; apply decide_eq_true; omega)
        | (symm; apply decide_eq_false; omega)
        | (simp_all; done)
        | (rw [Bool.eq_iff_iff]; simp_all; omega)
/-- Three integers. -/
abbrev I3 (r : Nat × Nat × Int) : Value := .tuple #[.int .i64 r.1, .int .i64 r.2.1, .int .i64 r.2.2]
set_option maxRecDepth 100000 in
set_option maxHeartbeats 4000000 in
theorem rread_c (l : List Prt) (a : Option Addr) (cap : Nat) (hl : l.length ≤ 1000000000) : ∀ (m p deep ink : Nat) (w : World), l.length + 1 - p ≤ m → ArgP w a l → deep ≤ 1000000000 → p ≤ 1000000000 →
    Calls Tryd.prog 27 #[.slice a l.length cap, .int .i64 p, .int .i64 deep, .int .u8 ink] w fun e w' => e = .returned (I3 (rdT (rdS (l.length + 1) l p deep ink 1))) ∧ Below w.heap.size w w' := by
  intro m
  induction m with
  | zero =>
    intro p deep ink w hm hA hd hp
    have HE := hidE (rd_stop (stop_out (deep := deep) (ink := ink) (show l.length ≤ p by omega)))
    rw [HE.out]
    have q1 : decide ((p : Int) ≥ (l.length : Int)) = true := decide_eq_true (by omega)
    have q2 : decide (l.length ≤ p) = true := decide_eq_true (by omega)
    clear HE
    go_enter Tryd.func27, Tryd.ntmps27
    go_wp2
    refine bodyPost_ret (v := .tuple #[.int .i64 0, .int .i64 p, .int .i64 81]) (by simp [results, Tryd.results27, go_sem]) rfl ⟨rfl, Below.refl _ _⟩
  | succ m ih =>
    intro p deep ink w hm hA hd hp
    by_cases hlt : p < l.length
    · obtain ⟨b, off, rfl, hbb, hc⟩ := hA (by omega)
      obtain ⟨c0, c1, c2, c3, c4⟩ := hc.get hlt
      have q1 : decide ((p : Int) ≥ (l.length : Int)) = false := decide_eq_false (by omega)
      have q2 : decide (l.length ≤ p) = false := decide_eq_false (by omega)
      have HBAD := hidE (fun w => rbad_c (l.getD p ⟨0, 0, 0, 0, 0⟩) w)
      have HC := hidE hc
      have hHd := hd
      have HPR := hidE (show l.getD p pr0 = l.getD p ⟨0, 0, 0, 0, 0⟩ from rfl)
      rw [HPR.out] at c0 c1 c2 c3 c4
      by_cases h64 : 64 ≤ p
      · have HE := hidE (rd_stop (stop_shape (deep := deep) (ink := ink) hlt (.inl h64)))
        rw [HE.out]
        have q3 : decide ((p : Int) ≥ 64) = true := decide_eq_true (by omega)
        have q4 : decide (64 ≤ p) = true := decide_eq_true h64
        clear HE hc c0 c1 c2 c3 c4 ih
        go_enter Tryd.func27, Tryd.ntmps27
        go_wp2
        refine bodyPost_ret (v := .tuple #[.int .i64 0, .int .i64 p, .int .i64 81]) (by simp [results, Tryd.results27, go_sem]) rfl ⟨rfl, Below.refl _ _⟩
      · have q3 : decide ((p : Int) ≥ 64) = false := decide_eq_false (by omega)
        have q4 : decide (64 ≤ p) = false := decide_eq_false h64
        cases hbad : badP (l.getD p ⟨0, 0, 0, 0, 0⟩)
        · rw [hbad] at HBAD
          by_cases hin : ink = 2 ∧ (l.getD p ⟨0, 0, 0, 0, 0⟩).kind ≠ 0
          · have HE := hidE (rd_stop (stop_shape (deep := deep) (ink := ink) hlt (.inr (.inr hin))))
            rw [HE.out]
            have i1 : ((ink : Int) == 2) = true := by simp [hin.1]
            have i2 : (((l.getD p ⟨0, 0, 0, 0, 0⟩).kind : Int) != 0) = true := bne_iff_ne.2 (by have := hin.2; omega)
            clear HE hc ih hbad HPR hin
            generalize (l.getD p ⟨0, 0, 0, 0, 0⟩) = x at *
            obtain ⟨kd, n, g, d, ks⟩ := x
            simp only at c0 c1 c2 c3 c4 i2
            go_enter Tryd.func27, Tryd.ntmps27
            go_wp2_with (go_at_call 35; (with_reducible refine (HBAD.out _).mono ?_); rintro e w1 ⟨rfl, hb1⟩; have c5 := (hb1.cell (p := ⟨b, off + p * 5, none⟩) hbb).trans c0)
            refine bodyPost_ret (v := .tuple #[.int .i64 0, .int .i64 p, .int .i64 81]) (by simp [results, Tryd.results27, go_sem]) rfl ⟨rfl, hb1⟩
          · have hst := stop_deep (deep := deep) (ink := ink) hlt (fun h => by
              rcases h with h | h | h
              · exact h64 h
              · rw [hbad] at h; cases h
              · exact hin h)
            have hin2 : ((ink : Int) == 2) = false ∨ (((ink : Int) == 2) = true ∧ (((l.getD p ⟨0, 0, 0, 0, 0⟩).kind : Int) != 0) = false) := by
              by_cases c : ink = 2
              · refine .inr ⟨by simp [c], ?_⟩
                have : (l.getD p ⟨0, 0, 0, 0, 0⟩).kind = 0 := by
                  by_cases c2 : (l.getD p ⟨0, 0, 0, 0, 0⟩).kind = 0
                  · exact c2
                  · exact absurd ⟨c, c2⟩ hin
                rw [this]; rfl
              · exact .inl (by simp; omega)
            by_cases h8 : 8 < deep
            · rw [if_pos h8] at hst
              have HE := hidE (rd_stop hst)
              rw [HE.out]
              have d1 : decide ((deep : Int) > 8) = true := decide_eq_true (by omega)
              have d2 : decide (8 < deep) = true := decide_eq_true h8
              clear HE hc ih hbad HPR hin hst
              generalize (l.getD p ⟨0, 0, 0, 0, 0⟩) = x at *
              obtain ⟨kd, n, g, d, ks⟩ := x
              simp only at c0 c1 c2 c3 c4 hin2
              rcases hin2 with i1 | ⟨i1, i2⟩
              all_goals
                go_enter Tryd.func27, Tryd.ntmps27
                go_wp2_with (go_at_call 35; (with_reducible refine (HBAD.out _).mono ?_); rintro e w1 ⟨rfl, hb1⟩; have c5 := (hb1.cell (p := ⟨b, off + p * 5, none⟩) hbb).trans c0)
                refine bodyPost_ret (v := .tuple #[.int .i64 0, .int .i64 p, .int .i64 80]) (by simp [results, Tryd.results27, go_sem]) rfl ⟨rfl, hb1⟩
            · rw [if_neg h8] at hst
              have HOP := hidE (rd_open hst)
              have hks := bad_kids hbad
              have d1 : decide ((deep : Int) > 8) = false := decide_eq_false (by omega)
              have d2 : decide (8 < deep) = false := decide_eq_false h8
              have w1 : IntKind.i64.wrap ((p : Int) + 1) = (p : Int) + 1 := IntWalk.i64_in _ (by omega)
              have w2 : IntKind.i64.wrap ((deep : Int) + 1) = (deep : Int) + 1 := IntWalk.i64_in _ (by omega)
              clear hbad HPR hin hst hA
              generalize (l.getD p ⟨0, 0, 0, 0, 0⟩) = x at *
              obtain ⟨kd, n, g, d, ks⟩ := x
              simp only at c0 c1 c2 c3 c4 hin2 hks HOP
              obtain ⟨K, rfl⟩ : ∃ K : Nat, ks = (K : Int) := ⟨ks.toNat, by omega⟩
              rw [Int.toNat_natCast] at HOP
              have HA := hidE (show ArgP w (some ⟨b, off, none⟩) l from fun _ => ⟨b, off, rfl, hbb, HC.out⟩)
              have HI := hidE ih
              have HM := hidE (And.intro hm hHd)
              clear ih hc hm hHd hd
              rcases hin2 with i1 | ⟨i1, i2⟩
              all_goals
                go_enter Tryd.func27, Tryd.ntmps27
                go_wp2_with (go_at_call 35; (with_reducible refine (HBAD.out _).mono ?_); rintro e w1 ⟨rfl, hb1⟩; have c5 := (hb1.cell (p := ⟨b, off + p * 5, none⟩) hbb).trans c0)
                go_loopg [11, 12] K (fun gh v11 v12 wr => ∃ k q : Nat, k ≤ K ∧ K - k ≤ gh ∧ v12 = .int .i64 k ∧ v11 = .int .i64 q ∧ p < q ∧ q ≤ l.length ∧ rdS (l.length + 1) l q (deep + 1) kd (K - k) = rdS (l.length + 1) l (p + 1) (deep + 1) kd K ∧ Below w.heap.size w wr)
                case atStart => exact ⟨0, p + 1, Nat.zero_le _, Nat.le_refl _, rfl, by simp, by omega, by omega, rfl, hb1⟩
                case round =>
                  obtain ⟨k, q, hkk, hgh, rfl, rfl, hq1, hq2, hR, hb⟩ := hrel
                  have HB := hidE hb; have HR := hidE hR; have HG := hidE hgh
                  have f0 := (hb.cell (p := ⟨b, off + p * 5, none⟩) hbb).trans c0
                  have f4 := (hb.cell (p := ⟨b, off + p * 5 + 4, none⟩) hbb).trans c4
                  have fz := Nat.lt_of_lt_of_le hbb hb.size
                  clear hb hR hgh c5 hb1 c1 c2 c3
                  by_cases hk : k < K
                  · have r1 : decide ((k : Int) < (K : Int)) = true := decide_eq_true (by omega)
                    have r2 : decide (k < K) = true := decide_eq_true hk
                    have HCALL := hidE (fun w' (hb' : Below w.heap.size w w') => show Calls Tryd.prog 27 #[.slice (some ⟨b, off, none⟩) l.length cap, .int .i64 q, .int .i64 ((deep : Int) + 1), .int .u8 kd] w' fun e w'' => e = .returned (I3 (rdT (rdS (l.length + 1) l q (deep + 1) kd 1))) ∧ Below w'.heap.size w' w'' from by
                      have := HI.out q (deep + 1) kd w' (by have := HM.out.1; omega) (HA.out.past hb') (by omega) (by omega)
                      rw [show ((deep + 1 : Nat) : Int) = (deep : Int) + 1 by omega] at this
                      exact this)
                    have HONE := hidE (rd_one (m := l.length + 1) (l := l) (p := q) (deep := deep + 1) (ink := kd) (n := K - k - 1) (by omega) (by omega))
                    cases hone : rdS (l.length + 1) l q (deep + 1) kd 1 with
                    | error e =>
                      rw [hone] at HCALL HONE
                      have he : (e.2 == 0) = false ∧ (e.2 != 0) = true := by
                        rcases rd_err _ _ _ _ _ _ _ hone with h | h <;> rw [h] <;> decide
                      obtain ⟨he1, he2⟩ := he
                      have HF := hidE (show rdS (l.length + 1) l p deep ink 1 = .error e by
                        rw [HOP.out, ← HR.out, show K - k = K - k - 1 + 1 by omega, HONE.out])
                      rw [show rdT (.error e) = (0, e.1, e.2) from rfl] at HCALL
                      clear hone
                      obtain ⟨ea, eb⟩ := e
                      simp only at he1 he2
                      go_wp2_with (go_at_call 27; (with_reducible refine (HCALL.out _ HB.out).mono ?_); rintro e w2 ⟨rfl, hb2⟩)
                      refine bodyPost_ret (v := .tuple #[.int .i64 0, .int .i64 ea, .int .i64 eb]) (by simp [results, Tryd.results27, go_sem]) rfl ⟨by rw [HF.out]; rfl, HB.out.trans (hb2.mono HB.out.size)⟩
                    | ok q' =>
                      rw [hone] at HCALL HONE
                      have hgt := rd_gt _ _ _ _ _ _ _ hone
                      rw [show rdT (.ok q') = (q', 0, 0) from rfl] at HCALL
                      clear hone
                      go_wp2_with (go_at_call 27; (with_reducible refine (HCALL.out _ HB.out).mono ?_); rintro e w2 ⟨rfl, hb2⟩)
                      go_roundg (K - (k + 1))
                      case measure => have := HG.out; omega
                      case rel => exact ⟨k + 1, q', by omega, Nat.le_refl _, by go_num, rfl, by omega, by omega, by rw [← HR.out, show K - k = K - k - 1 + 1 by omega, HONE.out]; rfl, HB.out.trans (hb2.mono HB.out.size)⟩
                  · obtain rfl : k = K := by omega
                    have r1 : decide ((k : Int) < (k : Int)) = false := decide_eq_false (by omega)
                    have r2 : decide (k < k) = false := decide_eq_false (by omega)
                    have HF := hidE (show rdS (l.length + 1) l p deep ink 1 = .ok q by rw [HOP.out, ← HR.out, Nat.sub_self, rd_zero])
                    go_wp2
                    refine bodyPost_ret (v := .tuple #[.int .i64 q, .int .i64 0, .int .i64 0]) (by simp [results, Tryd.results27, go_sem]) rfl ⟨by rw [HF.out]; rfl, HB.out⟩
        · have HE := hidE (rd_stop (stop_shape (deep := deep) (ink := ink) hlt (.inr (.inl hbad))))
          rw [HE.out]
          rw [hbad] at HBAD
          clear HE hc ih hbad HPR
          generalize (l.getD p ⟨0, 0, 0, 0, 0⟩) = x at *
          obtain ⟨kd, n, g, d, ks⟩ := x
          simp only at c0 c1 c2 c3 c4
          go_enter Tryd.func27, Tryd.ntmps27
          go_wp2_with (go_at_call 35; (with_reducible refine (HBAD.out _).mono ?_); rintro e w1 ⟨rfl, hb1⟩)
          refine bodyPost_ret (v := .tuple #[.int .i64 0, .int .i64 p, .int .i64 81]) (by simp [results, Tryd.results27, go_sem]) rfl ⟨rfl, hb1⟩
    · have HE := hidE (rd_stop (stop_out (deep := deep) (ink := ink) (show l.length ≤ p by omega)))
      rw [HE.out]
      have q1 : decide ((p : Int) ≥ (l.length : Int)) = true := decide_eq_true (by omega)
      have q2 : decide (l.length ≤ p) = true := decide_eq_true (by omega)
      clear HE ih
      go_enter Tryd.func27, Tryd.ntmps27
      go_wp2
      refine bodyPost_ret (v := .tuple #[.int .i64 0, .int .i64 p, .int .i64 81]) (by simp [results, Tryd.results27, go_sem]) rfl ⟨rfl, Below.refl _ _⟩
end Go.Proofs.YtkjpmhmlakmglaaDoor

namespace Go.Proofs.YtkjpmhmlakmglaaDoor
open Go.ChangeShapes Go.WideShapes Go.ChangeAt Go.RowKit
attribute [local irreducible] Go.Calls

/-- The numbers that a slice's cells hold. -/
def CellsK (k : IntKind) (w : World) (b off : Nat) (l : List Int) : Prop := ∀ i, i < l.length → w.cell? ⟨b, off + i, none⟩ = some (.int k (l.getD i 0))
def ArgK (k : IntKind) (w : World) (a : Option Addr) (l : List Int) : Prop := 0 < l.length → ∃ b off, a = some ⟨b, off, none⟩ ∧ b < w.heap.size ∧ CellsK k w b off l
theorem CellsK.below {k : IntKind} {w w' : World} {b off B : Nat} {l : List Int} (h : CellsK k w b off l) (hb : Below B w w') (hB : b < B) : CellsK k w' b off l := fun i hi => (hb.cell (p := ⟨b, _, none⟩) hB).trans (h i hi)
theorem ArgK.past {k : IntKind} {w w' : World} {a : Option Addr} {l : List Int} (h : ArgK k w a l) (hb : Below w.heap.size w w') : ArgK k w' a l := fun hl => by
  obtain ⟨b, off, e, h1, h2⟩ := h hl
  exact ⟨b, off, e, Nat.lt_of_lt_of_le h1 hb.size, h2.below hb h1⟩
/-- The cells of a list of numbers. -/
def cellsK (k : IntKind) (l : List Int) : List Value := l.map (.int k)
theorem cellsK_app (k : IntKind) (l r : List Int) : cellsK k (l ++ r) = cellsK k l ++ cellsK k r := by unfold cellsK; rw [List.map_append]
theorem kgetD (l : List Int) (i : Nat) (h : i < l.length) : l.getD i 0 = l[i] := by rw [List.getD_eq_getElem?_getD, List.getElem?_eq_getElem h]; rfl
theorem cellsK_get {k : IntKind} {l : List Int} {i : Nat} (h : i < l.length) : (cellsK k l)[i]? = some (.int k (l.getD i 0)) := by
  unfold cellsK
  rw [List.getElem?_map, List.getElem?_eq_getElem h, kgetD _ _ h]; rfl
/-- What a call has appended to reads as a slice. -/
theorem argK_own {k : IntKind} {w : World} {base : Nat} {e : TypeId} {v : Value} {l : List Int} (h : w.ownsRow base e 1 v l.length (cellsK k l)) : ∃ a cap, v = .slice a l.length cap ∧ ArgK k w a l := by
  obtain ⟨h1, h2 | ⟨g, cap, cur, rfl, h3, h4, h5, h6, h7, h8⟩⟩ := h
  · obtain ⟨rfl, h2⟩ := h2
    have : l = [] := List.eq_nil_of_length_eq_zero h2
    subst this
    exact ⟨none, 0, rfl, fun h => by simp at h⟩
  · refine ⟨some ⟨g, 0, none⟩, cap, rfl, fun _ => ⟨g, 0, rfl, lt_of_block h4, fun i hi => ?_⟩⟩
    have hg := cellsK_get (k := k) hi
    have e : w.cell? ⟨g, 0 + i, none⟩ = cur[i]? := by simp [World.cell?, h4]
    rw [e, ← Array.getElem?_toList]
    rw [← h8, List.getElem?_take, if_pos (by omega)] at hg
    exact hg
end Go.Proofs.YtkjpmhmlakmglaaDoor

namespace Go.Proofs.YtkjpmhmlakmglaaDoor
open Go.ChangeShapes Go.WideShapes Go.ChangeAt Go.RowKit
attribute [local irreducible] Go.Calls

theorem rtree_c (l : List Prt) (a : Option Addr) (cap : Nat) (w : World) (hl : l.length ≤ 1000000000) (hA : ArgP w a l) :
    Calls Tryd.prog 17 #[.slice a l.length cap] w fun e w' => e = .returned (.tuple #[.int .i64 (treeS l).1, .int .i64 (treeS l).2]) ∧ Below w.heap.size w w' := by
  have HR := hidE (show Calls Tryd.prog 27 #[.slice a l.length cap, .int .i64 0, .int .i64 1, .int .u8 0] w _ from rread_c l a cap hl (l.length + 1) 0 1 0 w (by omega) hA (by omega) (by omega))
  have HT := hidE (show treeS l = (match rdS (l.length + 1) l 0 1 0 1 with | .error x => x | .ok e => if e < l.length then (e, 81) else (0, 0)) from rfl)
  cases hrd : rdS (l.length + 1) l 0 1 0 1 with
  | error x =>
    rw [hrd] at HR HT
    have he : (x.2 == 0) = false ∧ (x.2 != 0) = true := by
      rcases rd_err _ _ _ _ _ _ _ hrd with h | h <;> rw [h] <;> decide
    obtain ⟨he1, he2⟩ := he
    obtain ⟨xa, xb⟩ := x
    simp only [rdT] at HR HT he1 he2
    clear hrd hA
    go_enter Tryd.func17, Tryd.ntmps17
    go_wp2_with (go_at_call 27; (with_reducible refine HR.out.mono ?_); rintro e w2 ⟨rfl, hb2⟩)
    go_ret2
    exact ⟨by rw [HT.out]; rfl, hb2⟩
  | ok q =>
    rw [hrd] at HR HT
    simp only [rdT] at HR HT
    by_cases hq : q < l.length
    · rw [if_pos hq] at HT
      have r1 : decide ((q : Int) < (l.length : Int)) = true := decide_eq_true (by omega)
      have r2 : decide (q < l.length) = true := decide_eq_true hq
      clear hrd hA
      go_enter Tryd.func17, Tryd.ntmps17
      go_wp2_with (go_at_call 27; (with_reducible refine HR.out.mono ?_); rintro e w2 ⟨rfl, hb2⟩)
      go_ret2
      exact ⟨by rw [HT.out]; rfl, hb2⟩
    · rw [if_neg hq] at HT
      have r1 : decide ((q : Int) < (l.length : Int)) = false := decide_eq_false (by omega)
      have r2 : decide (q < l.length) = false := decide_eq_false hq
      clear hrd hA
      go_enter Tryd.func17, Tryd.ntmps17
      go_wp2_with (go_at_call 27; (with_reducible refine HR.out.mono ?_); rintro e w2 ⟨rfl, hb2⟩)
      go_ret2
      exact ⟨by rw [HT.out]; rfl, hb2⟩
/-- A definition's value. -/
abbrev def8 (fr to' : Int) (a : Option Addr) (n cap : Nat) : Value := .agg #[.int .i64 fr, .int .i64 to', .slice a n cap]
set_option maxHeartbeats 1000000 in
theorem rchk_c (fr to' : Int) (l : List Prt) (a : Option Addr) (cap : Nat) (w : World) (hl : l.length ≤ 1000000000) (hA : ArgP w a l) (hf : -9223372036854775808 ≤ fr ∧ fr ≤ 9223372036854775807) (ht : -9223372036854775808 ≤ to' ∧ to' ≤ 9223372036854775807) :
    Calls Tryd.prog 6 #[def8 fr to' a l.length cap] w fun e w' => e = .returned (.tuple #[.int .i64 (chkS fr to' l).1, .int .i64 (chkS fr to' l).2]) ∧ Below w.heap.size w w' := by
  have HR := hidE (fun w hA => rtree_c l a cap w hl hA)
  have HC := hidE (show chkS fr to' l = if fr < 0 ∨ to' ≤ fr ∨ 1099511627776 < to' ∨ 4096 < to' - fr then ((-1, 82) : Int × Int) else ((((treeS l).1 : Nat) : Int), (treeS l).2) from rfl)
  have HA := hidE hA
  clear hA
  generalize treeS l = T at *
  by_cases c1 : fr < 0
  · have q1 : decide (fr < 0) = true := decide_eq_true c1
    rw [if_pos (.inl c1)] at HC
    clear c1
    go_enter Tryd.func6, Tryd.ntmps6
    go_wp2
    go_ret2
    exact ⟨by rw [HC.out]; rfl, by (repeat (first | exact Below.refl _ _ | assumption | refine balloc ?_ _ | refine below_drewN ?_ _ | refine bstep (by assumption) ?_ | refine bstep (Past.prop _) ?_ | refine Below.setCell ?_ (by first | exact Nat.le_refl _ | (simp; done) | (simp; omega)) _))⟩
  have q1 : decide (fr < 0) = false := decide_eq_false c1
  by_cases c2 : to' ≤ fr
  · have q2 : decide (to' ≤ fr) = true := decide_eq_true c2
    rw [if_pos (.inr (.inl c2))] at HC
    clear c1 c2
    go_enter Tryd.func6, Tryd.ntmps6
    go_wp2
    go_ret2
    exact ⟨by rw [HC.out]; rfl, by (repeat (first | exact Below.refl _ _ | assumption | refine balloc ?_ _ | refine below_drewN ?_ _ | refine bstep (by assumption) ?_ | refine bstep (Past.prop _) ?_ | refine Below.setCell ?_ (by first | exact Nat.le_refl _ | (simp; done) | (simp; omega)) _))⟩
  have q2 : decide (to' ≤ fr) = false := decide_eq_false c2
  by_cases c3 : 1099511627776 < to'
  · have q3 : decide (to' > 1099511627776) = true := decide_eq_true c3
    have q3' : decide (1099511627776 < to') = true := decide_eq_true c3
    rw [if_pos (.inr (.inr (.inl c3)))] at HC
    clear c1 c2 c3
    go_enter Tryd.func6, Tryd.ntmps6
    go_wp2
    go_ret2
    exact ⟨by rw [HC.out]; rfl, by (repeat (first | exact Below.refl _ _ | assumption | refine balloc ?_ _ | refine below_drewN ?_ _ | refine bstep (by assumption) ?_ | refine bstep (Past.prop _) ?_ | refine Below.setCell ?_ (by first | exact Nat.le_refl _ | (simp; done) | (simp; omega)) _))⟩
  have q3 : decide (to' > 1099511627776) = false := decide_eq_false c3
  have q3' : decide (1099511627776 < to') = false := decide_eq_false c3
  have wr : IntKind.i64.wrap (to' - fr) = to' - fr := IntWalk.i64_in _ (by omega)
  by_cases c4 : 4096 < to' - fr
  · have q4 : decide (to' - fr > 4096) = true := decide_eq_true c4
    have q4' : decide (4096 < to' - fr) = true := decide_eq_true c4
    rw [if_pos (.inr (.inr (.inr c4)))] at HC
    clear c1 c2 c3 c4
    go_enter Tryd.func6, Tryd.ntmps6
    go_wp2
    go_ret2
    exact ⟨by rw [HC.out]; rfl, by (repeat (first | exact Below.refl _ _ | assumption | refine balloc ?_ _ | refine below_drewN ?_ _ | refine bstep (by assumption) ?_ | refine bstep (Past.prop _) ?_ | refine Below.setCell ?_ (by first | exact Nat.le_refl _ | (simp; done) | (simp; omega)) _))⟩
  have q4 : decide (to' - fr > 4096) = false := decide_eq_false c4
  have q4' : decide (4096 < to' - fr) = false := decide_eq_false c4
  rw [if_neg (by omega)] at HC
  clear c1 c2 c3 c4
  go_enter Tryd.func6, Tryd.ntmps6
  go_wp2_with (go_at_call 17; (with_reducible refine (HR.out _ (HA.out.past (by (repeat (first | exact Below.refl _ _ | assumption | refine balloc ?_ _ | refine below_drewN ?_ _ | refine bstep (by assumption) ?_ | refine bstep (Past.prop _) ?_ | refine Below.setCell ?_ (by first | exact Nat.le_refl _ | (simp; done) | (simp; omega)) _))))).mono ?_); rintro e w2 ⟨rfl, hb2⟩)
  go_ret2
  exact ⟨by rw [HC.out]; rfl, by (repeat (first | exact Below.refl _ _ | assumption | refine balloc ?_ _ | refine below_drewN ?_ _ | refine bstep (by assumption) ?_ | refine bstep (Past.prop _) ?_ | refine Below.setCell ?_ (by first | exact Nat.le_refl _ | (simp; done) | (simp; omega)) _))⟩
theorem rend_c (l : List Prt) (p : Nat) (a : Option Addr) (cap : Nat) (w : World) (hl : l.length ≤ 1000000000) (hp : p ≤ 1000000000) (hA : ArgP w a l) :
    Calls Tryd.prog 18 #[.slice a l.length cap, .int .i64 p] w fun e w' => e = .returned (.int .i64 (endS l p)) ∧ Below w.heap.size w w' := by
  have HR := hidE (show Calls Tryd.prog 27 #[.slice a l.length cap, .int .i64 p, .int .i64 1, .int .u8 0] w _ from rread_c l a cap hl (l.length + 1) p 1 0 w (by omega) hA (by omega) hp)
  have HE := hidE (show endS l p = (rdT (rdS (l.length + 1) l p 1 0 1)).1 from rfl)
  rw [HE.out]
  generalize rdT (rdS (l.length + 1) l p 1 0 1) = R at *
  obtain ⟨x, y, z⟩ := R
  clear HE hA
  go_enter Tryd.func18, Tryd.ntmps18
  go_wp2_with (go_at_call 27; (with_reducible refine HR.out.mono ?_); rintro e w2 ⟨rfl, hb2⟩)
  go_ret
  exact ⟨rfl, hb2⟩
theorem Tryd.infoIntL : (Tryd.prog.info? 3).map (fun i => (i.zero, i.size, i.bytes)) = some (some (.int .i64 0), 1, 8) := by kernel_rfl
/-- Places, as integers. -/
def natsI (l : List Nat) : List Int := l.map fun (n : Nat) => (n : Int)
theorem natsI_len (l : List Nat) : (natsI l).length = l.length := by unfold natsI; rw [List.length_map]
theorem natsI_app (l r : List Nat) : natsI (l ++ r) = natsI l ++ natsI r := by unfold natsI; rw [List.map_append]
/-- A slice value that reads as the list of places. -/
def SliN (w : World) (v : Value) (l : List Nat) : Prop := ∃ (a : Option Addr) (cap : Nat), v = .slice a l.length cap ∧ l.length ≤ cap ∧ cap ≤ 9223372036854775807 ∧ ArgK .i64 w a (natsI l)
theorem SliN.past {w w' : World} {v : Value} {l : List Nat} (h : SliN w v l) (hb : Below w.heap.size w w') : SliN w' v l := by
  obtain ⟨a, cap, h1, h2, h3, h4⟩ := h
  exact ⟨a, cap, h1, h2, h3, h4.past hb⟩
theorem sliN_own {w : World} {base : Nat} {e : TypeId} {v : Value} {l : List Nat} (h : w.ownsRow base e 1 v l.length (cellsK .i64 (natsI l))) : SliN w v l := by
  obtain ⟨a, cap, hv, hA⟩ := argK_own (l := natsI l) (by rw [natsI_len]; exact h)
  rw [natsI_len] at hv
  obtain ⟨h1, h2 | ⟨g, cp, cur, h3, h4, h5, h6, h7, h8⟩⟩ := h
  · obtain ⟨rfl, h2⟩ := h2
    have e := List.eq_nil_of_length_eq_zero h2
    subst e
    exact ⟨none, 0, rfl, Nat.le_refl _, by omega, fun hh => by simp [natsI] at hh⟩
  · rw [hv] at h3
    cases h3
    exact ⟨_, cap, hv, h6, by unfold maxLen at h7; omega, hA⟩
theorem kidsGo_len (l : List Prt) : ∀ (n p : Nat), (kidsGo l n p).length = n
  | 0, _ => rfl
  | n + 1, p => by simp only [kidsGo, List.length_cons, kidsGo_len l n]
/-- Where the child behind so many begins. -/
def kidAt (l : List Prt) (p : Nat) : Nat → Nat
  | 0 => p
  | k + 1 => endS l (kidAt l p k)
theorem kidsGo_snoc (l : List Prt) : ∀ (n p : Nat), kidsGo l (n + 1) p = kidsGo l n p ++ [kidAt l p n]
  | 0, p => rfl
  | n + 1, p => by
    have h : ∀ k, kidAt l (endS l p) k = kidAt l p (k + 1) := fun k => by
      induction k with
      | zero => rfl
      | succ k ih => simp only [kidAt] at ih ⊢; rw [ih]
    rw [kidsGo, kidsGo_snoc l n (endS l p), h]
    rfl
theorem endS_le (l : List Prt) (p : Nat) : endS l p ≤ l.length := by
  unfold endS
  cases h : rdS (l.length + 1) l p 1 0 1 with
  | error x => simp [rdT]
  | ok q => exact (rd_gt _ _ _ _ _ _ _ h).2 (by omega)
theorem kidAt_le {l : List Prt} {p : Nat} (hp : p ≤ l.length) : ∀ k, kidAt l p k ≤ l.length
  | 0 => hp
  | _k + 1 => endS_le l _
end Go.Proofs.YtkjpmhmlakmglaaDoor

namespace Go.Proofs.YtkjpmhmlakmglaaDoor
open Go.ChangeShapes Go.WideShapes Go.ChangeAt Go.RowKit
attribute [local irreducible] Go.Calls

/-- Where a term's parts come from, as numbers. -/
def frI (t : Tm) : List Int := t.1.kids :: (prsF t.2).map (·.kids)
theorem ofL_flat : ∀ l r : List Tm, (ofL (l ++ r)).flat = (ofL l).flat ++ (ofL r).flat
  | [], _ => rfl
  | t :: l, r => by simp only [List.cons_append, ofL, Fst.flat, ofL_flat l r, List.append_assoc, List.cons_append]
theorem ofL_prs : ∀ l r : List Tm, prsF (ofL (l ++ r)) = prsF (ofL l) ++ prsF (ofL r)
  | [], _ => rfl
  | t :: l, r => by simp only [List.cons_append, ofL, prsF, ofL_prs l r, List.append_assoc, List.cons_append]
theorem flT_snoc (A : List Tm) (u : Tm) : (ofL (A ++ [u])).flat = (ofL A).flat ++ flT u := by rw [ofL_flat]; rfl
theorem frI_snoc (A : List Tm) (u : Tm) : (prsF (ofL (A ++ [u]))).map (·.kids) = (prsF (ofL A)).map (·.kids) ++ frI u := by
  rw [ofL_prs, List.map_append]
  simp [ofL, prsF, frI]
theorem flT_eq (t : Tm) : flT t = { t.1 with kids := (t.2.len : Int) } :: t.2.flat := by simp [flT, Fst.flat]
/-- Below B all but one block stays. -/
structure Bar (B g : Nat) (w w' : World) : Prop where
  os : w'.os = w.os
  tape : w'.tape = w.tape
  output : w'.output = w.output
  size : w.heap.size ≤ w'.heap.size
  block : ∀ k, k < B → k ≠ g → w'.heap[k]? = w.heap[k]?
section
variable {B g : Nat} {w w' w2 : World}
theorem Bar.refl (B g : Nat) (w : World) : Bar B g w w := ⟨rfl, rfl, rfl, Nat.le_refl _, fun _ _ _ => rfl⟩
theorem Bar.trans (h : Bar B g w w') (h2 : Bar B g w' w2) : Bar B g w w2 := ⟨h2.os.trans h.os, h2.tape.trans h.tape, h2.output.trans h.output, Nat.le_trans h.size h2.size, fun k a b => (h2.block k a b).trans (h.block k a b)⟩
theorem Bar.of (h : Below B w w') : Bar B g w w' := ⟨h.os, h.tape, h.output, h.size, fun k a _ => h.block k a⟩
theorem Bar.put (w : World) (g i : Nat) (v : Value) : Bar B g w (w.setCell ⟨g, i, none⟩ v) := ⟨rfl, rfl, rfl, by simp [World.setCell], fun k _ hk => Below.heap_setCell _ _ _ _ hk⟩
theorem Bar.sam {S : Nat → Prop} (h : Bar B g w w') (hS : ∀ k, S k → k < B ∧ k ≠ g) : Sam S w w' := ⟨h.size, fun k q _ => h.block k (hS k q).1 (hS k q).2⟩
/-- Nothing but that block is turned: below it all stays. -/
theorem Bar.below (h : Bar B g w w') (hg : g ≤ B) : Below g w w' := ⟨h.os, h.tape, h.output, h.size, fun k hk => h.block k (by omega) (by omega)⟩
end
theorem Tryd.infoIntN : (Tryd.prog.info? 3).map (fun i => (i.zero, i.size, i.bytes)) = some (some (.int .i64 0), 1, 8) := by kernel_rfl
/-- A list in block g: its rows lie from B on. -/
def ListAt (B g : Nat) (w : World) (P : List Prt) (R : List Int) : Prop :=
  ∃ vp vf, Blk w g #[vp, vf] 50 ∧ w.ownsRow B 36 5 vp P.length (cellsOfP P) ∧ w.ownsRow B 3 1 vf R.length (cellsK .i64 R)
theorem own_apart {w : World} {B sz sz' : Nat} {e e' : TypeId} {v v' : Value} {n n' : Nat} {xs ys : List Value} (h : w.ownsRow B e sz v n xs) (h' : w.ownsRow B e' sz' v' n' ys) (hne : e ≠ e') {k : Nat} (hk : v.ownBlock = some k) : v'.ownBlock ≠ some k := by
  obtain ⟨_, h2 | ⟨g, cap, cur, rfl, _, h4, _⟩⟩ := h
  · rw [h2.1] at hk; simp [Value.ownBlock] at hk
  · obtain ⟨_, h2 | ⟨g', cap', cur', rfl, _, h4', _⟩⟩ := h'
    · rw [h2.1]; simp [Value.ownBlock]
    · simp only [Value.ownBlock, Option.some.injEq] at hk ⊢
      subst hk
      intro e
      obtain rfl := Option.some.inj e
      rw [h4] at h4'
      simp only [Option.some.injEq, Obj.cells.injEq] at h4'
      exact hne h4'.2.1
/-- Both rows stay where what turns is a new block, or the list's own. -/
theorem ListAt.past {B g : Nat} {w w' : World} {P : List Prt} {R : List Int} (h : ListAt B g w P R) (hb : Below w.heap.size w w') : ListAt B g w' P R := by
  obtain ⟨vp, vf, h1, h2, h3⟩ := h
  exact ⟨vp, vf, h1.past hb, own_below h2 hb, own_below h3 hb⟩
/-- Within add: the list, and the term that was handed in. -/
def AddI (B g : Nat) (w : World) (x : Prt) (z : Int) (v : Value) (P : List Prt) (R : List Int) (W : World) : Prop := ListAt B g W P R ∧ Bar B g w W ∧ Blk W w.heap.size (tcA x z v) 54
theorem AddI.grown {B g : Nat} {w W w' : World} {x : Prt} {z : Int} {v : Value} {P : List Prt} {R : List Int} {vp vf : Value} (hgB : g < B) (hBw : B ≤ w.heap.size) (hB : Blk W g #[vp, vf] 50) (hop : W.ownsRow B 36 5 vp P.length (cellsOfP P)) (hof : W.ownsRow B 3 1 vf R.length (cellsK .i64 R)) (hbar : Bar B g w W) (hx : Blk W w.heap.size (tcA x z v) 54)
    (w1 : World) (h1 : Below W.heap.size W w1) :
    (∀ (v' : Value) (y : Prt), w'.ownsRow B 36 5 v' (P.length + 1) (cellsOfP P ++ [.int .u8 y.kind, .int .u32 y.n, .int .u32 y.g, .int .i64 y.d, .int .i64 y.kids]) → w1.grownBy w' vp.ownBlock → AddI B g w x z v (P ++ [y]) R (w'.setCell ⟨g, 0, none⟩ v')) ∧
    (∀ (v' : Value) (y : Int), w'.ownsRow B 3 1 v' (R.length + 1) (cellsK .i64 R ++ [.int .i64 y]) → w1.grownBy w' vf.ownBlock → AddI B g w x z v P (R ++ [y]) (w'.setCell ⟨g, 1, none⟩ v')) := by
  have hsz := h1.size
  have ne : ∀ {sz n : Nat} {e : TypeId} {v' : Value} {xs : List Value}, w'.ownsRow B e sz v' n xs → ∀ k, v'.ownBlock = some k → k ≠ g := fun h k hk => by have := own_block h hk; omega
  have ltw : Bar B g w w1 := hbar.trans (Bar.of (h1.mono (Nat.le_trans hBw hbar.size)))
  have bar : ∀ {r : Option Nat}, (∀ k, r = some k → B ≤ k) → w1.grownBy w' r → Bar B g w w' := fun hr hg => ltw.trans ⟨hg.os, hg.tape, hg.output, hg.size, fun k hk _ => hg.block k (by have := ltw.size; omega) (fun e => by have := hr k e.symm; omega)⟩
  have box : ∀ {sz n : Nat} {e : TypeId} {v' : Value} {xs : List Value}, W.ownsRow B e sz v' n xs → e ≠ 54 → w1.grownBy w' v'.ownBlock → Blk w' w.heap.size (tcA x z v) 54 := fun ho he hg => by
    refine (hx.past h1).grown hg fun e => ?_
    obtain ⟨_, h2 | ⟨q, cap, cur, rfl, _, h4, _⟩⟩ := ho
    · rw [h2.1] at e; simp [Value.ownBlock] at e
    · simp only [Value.ownBlock, Option.some.injEq] at e
      subst e
      unfold Blk at hx
      rw [hx] at h4
      simp only [Option.some.injEq, Obj.cells.injEq] at h4
      exact he h4.2.1.symm
  have lst : ∀ {r : Option Nat}, (∀ k, r = some k → B ≤ k) → w1.grownBy w' r → Blk w' g #[vp, vf] 50 := fun hr hg => (hB.past h1).grown hg fun e => by have := hr g e.symm; omega
  have oth : ∀ {sz n : Nat} {e : TypeId} {v' : Value} {xs : List Value} {r : Option Nat}, W.ownsRow B e sz v' n xs → (∀ k, r = some k → v'.ownBlock ≠ some k) → w1.grownBy w' r → w'.ownsRow B e sz v' n xs := fun ho hr hg => (own_below ho h1).kept hg (by
    cases hv : Value.ownBlock _ with
    | none => exact .inl rfl
    | some k => exact .inr fun e => (hr k e.symm) hv)
  constructor
  · intro v' y ho hg
    have hb := lst (fun k e => own_block hop e) hg
    have hs := hb.set 0 v'
    simp only [List.setIfInBounds_toArray, List.set_cons_zero] at hs
    refine ⟨⟨v', vf, hs, ?_, ?_⟩, (bar (fun k e => own_block hop e) hg).trans (Bar.put _ _ _ _), (box hop (by decide) hg).other (by omega) _⟩
    · refine own_kept ?_ (fun k e => keptS (ne ho k e) _)
      rw [List.length_append, cellsOfP_app]; exact ho
    · have := oth hof (fun k e => own_apart hop hof (by decide) e) hg
      exact own_kept this (fun k e => keptS (ne this k e) _)
  · intro v' y ho hg
    have hb := lst (fun k e => own_block hof e) hg
    have hs := hb.set 1 v'
    simp only [List.setIfInBounds_toArray, List.set_cons_zero, List.set_cons_succ] at hs
    refine ⟨⟨vp, v', hs, ?_, ?_⟩, (bar (fun k e => own_block hof e) hg).trans (Bar.put _ _ _ _), (box hof (by decide) hg).other (by omega) _⟩
    · have := oth hop (fun k e => own_apart hof hop (by decide) e) hg
      exact own_kept this (fun k e => keptS (ne this k e) _)
    · refine own_kept ?_ (fun k e => keptS (ne ho k e) _)
      rw [List.length_append, cellsK_app]; exact ho
set_option maxHeartbeats 4000000 in
set_option maxRecDepth 100000 in
theorem add_c (Sn : Nat → Prop) (B g : Nat) (hgB : g < B) (hSn : ∀ k, Sn k → k < B ∧ k ≠ g) : ∀ (m : Nat) (t : Tm) (z : Int) (v : Value) (P : List Prt) (R : List Int) (w : World), sizT t ≤ m → B ≤ w.heap.size → ListAt B g w P R → SliF Sn w v t.2 → P.length + sizT t ≤ 100000 → R.length = P.length →
    Calls Tryd.prog 15 #[.pointer (some ⟨g, 0, none⟩), trV t.1 z v] w fun e w' => e = .returned (.tuple #[]) ∧ ListAt B g w' (P ++ flT t) (R ++ frI t) ∧ Bar B g w w' := by
  intro m
  induction m with
  | zero => intro t z v P R w h; simp only [sizT] at h; omega
  | succ m ih =>
    intro t z v P R w hm hBw hL hv hsz hRP
    obtain ⟨av, cap, rfl, hc1, hc2⟩ := hv.shape
    obtain ⟨vp, vf, hb, hop, hof⟩ := hL
    have HB := hidE hb; have HOP := hidE hop; have HOF := hidE hof; have HV := hidE hv; have IH := hidE ih
    obtain ⟨ap, cp, rfl⟩ := own_sli hop
    obtain ⟨af, cf, rfl⟩ := own_sli hof
    obtain ⟨ip, hip, hpz0, hpz1, hpz2⟩ := info_parts Tryd.infoPart
    obtain ⟨ii, hii, hiz0, hiz1, hiz2⟩ := info_parts Tryd.infoIntN
    have HI := hidE hip; have HZ0 := hidE hpz0; have HZ1 := hidE hpz1; have HZ2 := hidE hpz2
    have JI := hidE hii; have JZ0 := hidE hiz0; have JZ1 := hidE hiz1; have JZ2 := hidE hiz2
    have c0 := hb.cell 0; have c1 := hb.cell 1; have gz := hb.lt; have f0 := hb.free 0; have f1 := hb.free 1
    simp at c0 c1
    have HRP := hidE hRP
    have hrz : R.length + sizT t ≤ 100000 := by omega
    clear hb hop hof hv hRP hip hpz0 hpz1 hpz2 hii hiz0 hiz1 hiz2 ih
    obtain ⟨part, hpart⟩ : ∃ part : Prt, part = { t.1 with kids := (t.2.len : Int) } := ⟨_, rfl⟩
    have HPART := hidE hpart
    clear hpart
    go_enter Tryd.func15, Tryd.ntmps15
    go_upto_region 3 with fail
    obtain ⟨w1, hw1⟩ : ∃ w1, w1 = (w.alloc (.cells (tcA t.1 z (.slice av t.2.len cap)) 54)).alloc (.cells #[.int .u8 t.1.kind, .int .u32 t.1.n, .int .u32 t.1.g, .int .i64 t.1.d, .int .i64 t.2.len] 36) := ⟨_, rfl⟩
    rw [← hw1]
    have hb1 : Below w.heap.size w w1 := by rw [hw1]; (repeat (first | exact Below.refl _ _ | assumption | refine balloc ?_ _ | refine below_drewN ?_ _ | refine bstep (by assumption) ?_ | refine bstep (Past.prop _) ?_ | refine Below.setCell ?_ (by first | exact Nat.le_refl _ | (simp; done) | (simp; omega)) _))
    have hbox : Blk w1 w.heap.size (tcA t.1 z (.slice av t.2.len cap)) 54 := by
      rw [hw1]; exact (Blk.made w _ _).alloc _
    have hprt : Blk w1 (w.heap.size + 1) #[.int .u8 part.kind, .int .u32 part.n, .int .u32 part.g, .int .i64 part.d, .int .i64 part.kids] 36 := by
      rw [hw1, HPART.out]
      exact Blk.made_at _ _ _ _ (by simp)
    have HB1 := hidE hb1; have HBOX := hidE hbox
    have L1 := hidE (HB.out.past hb1); have P1 := hidE (own_below HOP.out hb1); have F1 := hidE (own_below HOF.out hb1)
    have p0 := hprt.cell 0; have p1 := hprt.cell 1; have p2 := hprt.cell 2; have p3 := hprt.cell 3; have p4 := hprt.cell 4; have pz := hprt.lt
    simp at p0 p1 p2 p3 p4
    have c0 := L1.out.cell 0; have gz := L1.out.lt
    simp at c0
    have hB1 : B ≤ w1.heap.size := Nat.le_trans hBw hb1.size
    clear hw1 hb1 hbox hprt c1 f0 f1
    go_cut [] (fun wx => AddI B g w t.1 z (.slice av t.2.len cap) (P ++ [part]) R wx)
    case first =>
      go_region_law ((refine step_appV rfl (.tmp 17) (.tmp 19) 22 rfl B 36 ip _ 5 32 Tryd.underlying22 HI.out HZ0.out HZ1.out HZ2.out rfl (by decide) (.slice ap P.length cp) P.length (cellsOfP P) rfl (own_below P1.out (by (repeat (first | exact Below.refl _ _ | assumption | refine balloc ?_ _ | refine below_drewN ?_ _ | refine bstep (by assumption) ?_ | refine bstep (Past.prop _) ?_ | refine Below.setCell ?_ (by first | exact Nat.le_refl _ | (simp; done) | (simp; omega)) _)))) _ 1 [.int .u8 part.kind, .int .u32 part.n, .int .u32 part.g, .int .i64 part.d, .int .i64 part.kids] rfl (srcV_new (Blk.made_at _ _ _ _ (by first | rfl | (simp; done))) rfl (by intro y hy; simp at hy; rcases hy with rfl | rfl | rfl | rfl | rfl <;> rfl)) (by simp only [sizT] at hsz; omega) (by omega) (by simp; omega) ?_; intro v' w' own' hg'; obtain ⟨av', cp', rfl⟩ := own_sli own'; have hB2 := (L1.out.past (show Below w1.heap.size w1 _ from by (repeat (first | exact Below.refl _ _ | assumption | refine balloc ?_ _ | refine below_drewN ?_ _ | refine bstep (by assumption) ?_ | refine bstep (Past.prop _) ?_ | refine Below.setCell ?_ (by first | exact Nat.le_refl _ | (simp; done) | (simp; omega)) _)))).grown hg' (fun e => by have := own_block P1.out e.symm; omega); have e0 := hB2.cell 0; have ef := hB2.free 0; have ez := hB2.lt; simp at e0; clear hB2))
      all_goals
        go_wp2
        go_meet
        case rel =>
          exact (AddI.grown (w' := w') hgB hBw L1.out P1.out F1.out (Bar.of (HB1.out.mono hBw)) HBOX.out _ (by (repeat (first | exact Below.refl _ _ | assumption | refine balloc ?_ _ | refine below_drewN ?_ _ | refine bstep (by assumption) ?_ | refine bstep (Past.prop _) ?_ | refine Below.setCell ?_ (by first | exact Nat.le_refl _ | (simp; done) | (simp; omega)) _)))).1 _ part own' hg'
    case rest =>
      obtain ⟨⟨vp, vf, hl2, hp2, hf2⟩, hbar2, hbox2⟩ := hcut
      clear P1 F1 L1 HBOX HB1 c0 gz p0 p1 p2 p3 p4 pz hB1
      obtain ⟨ap2, cp2, rfl⟩ := own_sli hp2
      obtain ⟨af2, cf2, rfl⟩ := own_sli hf2
      have L2 := hidE hl2; have P2 := hidE hp2; have F2 := hidE hf2; have HBAR := hidE hbar2; have HBOX := hidE hbox2
      have c1 := hl2.cell 1; have gz := hl2.lt
      have p5 := hbox2.cell 5; have pz := hbox2.lt
      simp at c1 p5
      have hB1 : B ≤ wc.heap.size := Nat.le_trans hBw hbar2.size
      obtain ⟨w2, hw2⟩ : ∃ w2, w2 = wc := ⟨_, rfl⟩
      subst hw2
      clear hl2 hp2 hf2 hbar2 hbox2
      go_upto_region 4 with fail
      go_cut [] (fun wx => AddI B g w t.1 z (.slice av t.2.len cap) (P ++ [part]) (R ++ [t.1.kids]) wx)
      case first =>
        go_region_law ((refine step_appV rfl (.tmp 27) (.tmp 30) 26 rfl B 3 ii _ 1 8 Tryd.underlying26 JI.out JZ0.out JZ1.out JZ2.out rfl (by decide) (.slice af2 R.length cf2) R.length (cellsK .i64 R) rfl (own_below F2.out (by (repeat (first | exact Below.refl _ _ | assumption | refine balloc ?_ _ | refine below_drewN ?_ _ | refine bstep (by assumption) ?_ | refine bstep (Past.prop _) ?_ | refine Below.setCell ?_ (by first | exact Nat.le_refl _ | (simp; done) | (simp; omega)) _)))) _ 1 [.int .i64 t.1.kids] rfl (srcV_new (Blk.made_at _ _ _ _ (by first | rfl | (simp; done))) rfl (by intro y hy; simp at hy; subst hy; rfl)) (by simp only [sizT] at hrz; omega) (by omega) (by simp; omega) ?_; intro v' w' own' hg'; obtain ⟨av', cp', rfl⟩ := own_sli own'; have hB2 := (L2.out.past (show Below w2.heap.size w2 _ from by (repeat (first | exact Below.refl _ _ | assumption | refine balloc ?_ _ | refine below_drewN ?_ _ | refine bstep (by assumption) ?_ | refine bstep (Past.prop _) ?_ | refine Below.setCell ?_ (by first | exact Nat.le_refl _ | (simp; done) | (simp; omega)) _)))).grown hg' (fun e => by have := own_block F2.out e.symm; omega); have e0 := hB2.cell 1; have ef := hB2.free 1; have ez := hB2.lt; simp at e0; clear hB2))
        all_goals
          go_wp2
          go_meet
          case rel =>
            exact (AddI.grown (w' := w') hgB hBw L2.out P2.out F2.out HBAR.out HBOX.out _ (by (repeat (first | exact Below.refl _ _ | assumption | refine balloc ?_ _ | refine below_drewN ?_ _ | refine bstep (by assumption) ?_ | refine bstep (Past.prop _) ?_ | refine Below.setCell ?_ (by first | exact Nat.le_refl _ | (simp; done) | (simp; omega)) _)))).2 _ t.1.kids own' hg'
      case rest =>
        obtain ⟨hl3, hbar3, hbox3⟩ := hcut
        clear P2 F2 L2 HBOX c1 gz p5 pz hB1
        have L3 := hidE hl3; have HBAR3 := hidE hbar3
        have p6 := hbox3.cell 6; have pz := hbox3.lt
        simp at p6
        have HN := hidE (rfl : t.2.len = t.2.len)
        clear hl3 hbar3 hbox3 HBAR
        go_wp2_with fail
        go_loopg [37] t.2.len (fun gh v37 wr => ∃ (A C : List Tm), v37 = .int .i64 A.length ∧ A ++ C = toL t.2 ∧ C.length ≤ gh ∧ ListAt B g wr (P ++ part :: (ofL A).flat) (R ++ t.1.kids :: (prsF (ofL A)).map (·.kids)) ∧ Bar B g w wr)
        case atStart => exact ⟨[], toL t.2, rfl, rfl, by rw [toL_len]; exact Nat.le_refl _, L3.out, HBAR3.out⟩
        case round =>
          obtain ⟨A, C, rfl, hAC, hgh, hla, hba⟩ := hrel
          have HAC := hidE hAC; have HGH := hidE hgh; have HLA := hidE hla; have HBA := hidE hba
          have hAn : A.length + C.length = t.2.len := by rw [← toL_len, ← hAC, List.length_append]
          clear hgh hla hba
          cases C with
          | nil =>
            have q1 : decide ((A.length : Int) < (t.2.len : Int)) = false := decide_eq_false (by simp at hAn; omega)
            have q2 : ¬ A.length < t.2.len := by simp at hAn; omega
            have hA : A = toL t.2 := by simpa using hAC
            have hfin : ListAt B g wr (P ++ flT t) (R ++ frI t) := by
              have h := HLA.out
              rw [hA, of_to] at h
              rw [flT_eq, ← HPART.out]; exact h
            have HF := hidE hfin
            clear hAC hA hfin
            go_wp2
            go_end0
            exact ⟨rfl, HF.out, HBA.out⟩
          | cons u C =>
            have q1 : decide ((A.length : Int) < (t.2.len : Int)) = true := decide_eq_true (by simp at hAn; omega)
            have q2 : A.length < t.2.len := by simp at hAn; omega
            obtain ⟨b, off, cap', z', vk, e, _, hbz, hSb, hk, d0, d1, d2, d3, d4, d5, d6⟩ := (HV.out.sam (HBA.out.sam hSn)).get (i := A.length) q2
            cases e
            have hu : u ∈ toL t.2 := by rw [← hAC]; simp
            have hsu := siz_kid hu
            have hsA : sizL A + sizT u + 1 ≤ sizT t := by
              have := sizL_to t.2
              rw [← hAC, sizL_app] at this
              simp only [sizL] at this
              simp only [sizT] at this ⊢; omega
            have hge : (toL t.2).getD A.length tm0 = u := by rw [← hAC, List.getD_eq_getElem?_getD, List.getElem?_append_right (Nat.le_refl _), Nat.sub_self]; rfl
            rw [hge] at d0 d1 d2 d3 d5 hk
            obtain ⟨ak, ck, rfl, hk1, hk2⟩ := hk.shape
            have HK := hidE hk; have HSA := hidE hsA
            have hBr : B ≤ wr.heap.size := Nat.le_trans hBw HBA.out.size
            have HCALL := hidE (fun (w' : World) (hb : Below wr.heap.size wr w') => IH.out u z' (.slice ak u.2.len ck) _ _ w' (by omega) (Nat.le_trans hBr hb.size) (HLA.out.past hb) (HK.out.sam (Sam.past hb)) (by
              rw [List.length_append, List.length_cons, flat_len, sizL_of]; omega) (by
              simp only [List.length_append, List.length_cons, List.length_map, prsF_len, flat_len]; have := HRP.out; omega))
            clear hk hAC hge hsA hsu hu
            go_wp2_with (go_at_call 15; ((with_reducible refine (HCALL.out _ ?below).mono ?_); (case below => (repeat (first | exact Below.refl _ _ | assumption | refine balloc ?_ _ | refine below_drewN ?_ _ | refine bstep (by assumption) ?_ | refine bstep (Past.prop _) ?_ | refine Below.setCell ?_ (by first | exact Nat.le_refl _ | (simp; done) | (simp; omega)) _))); rintro e w4 ⟨rfl, hla4, hba4⟩; have HLA4 := hidE hla4; have HBA4 := hidE hba4; clear hla4 hba4))
            go_roundg C.length
            case measure => have := HGH.out; simp only [List.length_cons] at this; omega
            case rel =>
              refine ⟨A ++ [u], C, by simp, by rw [← HAC.out]; simp, Nat.le_refl _, ?_, (HBA.out.trans (Bar.of ((show Below wr.heap.size wr _ from by (repeat (first | exact Below.refl _ _ | assumption | refine balloc ?_ _ | refine below_drewN ?_ _ | refine bstep (by assumption) ?_ | refine bstep (Past.prop _) ?_ | refine Below.setCell ?_ (by first | exact Nat.le_refl _ | (simp; done) | (simp; omega)) _))).mono hBr))).trans HBA4.out⟩
              have h := HLA4.out
              simp only [List.append_assoc, List.cons_append] at h
              rw [flT_snoc, frI_snoc]; exact h
end Go.Proofs.YtkjpmhmlakmglaaDoor
