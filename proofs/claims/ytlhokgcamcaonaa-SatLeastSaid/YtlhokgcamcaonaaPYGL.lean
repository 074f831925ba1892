/- Least lengths, the pieces of a shortest term, what a term knows of pieces elsewhere. No program. No conditions. A shortest term is satisfied in its least length; what is satisfied is not shorter; a piece more or less and it is not satisfied; all of it later. No program. No conditions. A range over a function whose body keeps a block of its own, made in an earlier round (a slice that it appends to): an iterator's contract with that block named, and the law for its caller. Program-free. No conditions. The contract of the iterator (span.window).stretches: it hands on the stretches of the window, one after the other. No conditions but that the slice's cells read as integers, and sizes. A row of runs that is appended to by a function value, round by round: where it lies, and what turns of memory leave it as it is. No function of the program. No conditions. A row of cells that is appended to by a function value, round by round: where it lies, and what turns of memory leave it as it is: for any kind of element. No function of the program. No conditions. The statements' own pieces of a shortest term: least. Conditions: the slice reads as parts that may be; sizes. What is satisfied is not shorter than its least length; all of it later. No program. No conditions. A shortest term with a piece more, or one less, is not satisfied. No program. No conditions. The walk of the statement on least lengths. No conditions but sizes, and that the slices read as parts, as pieces. -/
import Derived.Test.YtlhokgcamcaonaaPYGI
import Derived.Test.YtlhokgcamcaonaaPYGC
import Derived.Test.YtlhokgcamcaonaaPYGA
import Derived.Test.YtlhokgcamcaonaaPYMB
import Derived.OwnWalkIn
import Derived.Test.YtlhokgcamcaonaaPYGJ
import Derived.Test.YtlhokgcamcaonaaPYGG
import Derived.Test.YtlhokgcamcaonaaPYGE
namespace Go.Proofs.Ytlhokgcamcaonaa

def lenLs (x : Prt) (ls : List Int) : Int := if x.kind = 0 then x.d else if x.kind = 3 then ls.foldl min (ls.head?.getD 0) else if x.kind = 4 then ls.foldl max (ls.head?.getD 0) else ls.foldl (· + ·) 0
theorem lenI_map (x : Prt) (ks : List TI) : lenI x ks = lenLs x (ks.map TI.len) := by
  unfold lenI lenLs minI maxI sumI
  rw [List.foldl_map, List.foldl_map, List.foldl_map, List.head?_map]
def lensF : Fst → List Int
  | .nil => []
  | .cons x K N => lenLs x (lensF K) :: lensF N
theorem lensF_len : ∀ F : Fst, (lensF F).length = F.len
  | .nil => rfl
  | .cons x K N => by simp only [lensF, List.length_cons, Fst.len, lensF_len N]
/-- A term's least length hangs on no witness. -/
def lenW (x : Prt) (K : Fst) : Int := lenLs x (lensF K)
theorem satF_lens (W : List Pc) : ∀ (F : Fst) (o : Nat), (satF W F o).map TI.len = lensF F
  | .nil, _ => rfl
  | .cons x K N, o => by
    simp only [satF, List.map_cons, lensF, satF_lens W N]
    congr 1
    unfold mkI
    simp only
    rw [lenI_map, satF_lens W K]
    rfl
theorem satI_len (W : List Pc) (x : Prt) (K : Fst) (o : Nat) : (satI W x K o).len = lenW x K := by
  unfold satI mkI lenW
  simp only
  rw [lenI_map, satF_lens]
  rfl
/-- The place of the first least number among the first k. -/
def argT (ls : List Int) : Nat → Nat
  | 0 => 0
  | k + 1 => if ls.getD k 0 < ls.getD (argT ls k) 0 then k else argT ls k
def argm (ls : List Int) : Nat := argT ls ls.length
theorem argT_le (ls : List Int) : ∀ k, 0 < k → argT ls k < k
  | k + 1, _ => by
    unfold argT
    split
    · omega
    · by_cases h : k = 0
      · subst h; simp [argT]
      · have := argT_le ls k (by omega); omega
theorem argT_min (ls : List Int) : ∀ k, ∀ i, i < k → ls.getD (argT ls k) 0 ≤ ls.getD i 0
  | k + 1, i, hi => by
    unfold argT
    split
    · rename_i h
      by_cases e : i = k
      · subst e; exact Int.le_refl _
      · have := argT_min ls k i (by omega); omega
    · rename_i h
      by_cases e : i = k
      · subst e; omega
      · exact argT_min ls k i (by omega)
theorem argm_lt {ls : List Int} (h : 0 < ls.length) : argm ls < ls.length := argT_le ls ls.length h
theorem foldl_min (ls : List Int) : ∀ a : Int, ls.foldl min a ≤ a ∧ (∀ x ∈ ls, ls.foldl min a ≤ x) ∧ (ls.foldl min a = a ∨ ls.foldl min a ∈ ls) := by
  induction ls with
  | nil => intro a; simp
  | cons b r ih =>
    intro a
    rw [List.foldl_cons]
    obtain ⟨h1, h2, h3⟩ := ih (min a b)
    refine ⟨by omega, fun x hx => ?_, ?_⟩
    · rcases List.mem_cons.1 hx with rfl | hx
      · omega
      · exact h2 x hx
    · rcases h3 with h | h
      · by_cases c : a ≤ b
        · left; rw [h]; omega
        · right; rw [h]; have : min a b = b := by omega
          rw [this]; simp
      · right; simp [h]
theorem foldl_max (ls : List Int) : ∀ a : Int, a ≤ ls.foldl max a ∧ (∀ x ∈ ls, x ≤ ls.foldl max a) ∧ (ls.foldl max a = a ∨ ls.foldl max a ∈ ls) := by
  induction ls with
  | nil => intro a; simp
  | cons b r ih =>
    intro a
    rw [List.foldl_cons]
    obtain ⟨h1, h2, h3⟩ := ih (max a b)
    refine ⟨by omega, fun x hx => ?_, ?_⟩
    · rcases List.mem_cons.1 hx with rfl | hx
      · omega
      · exact h2 x hx
    · rcases h3 with h | h
      · by_cases c : b ≤ a
        · left; rw [h]; omega
        · right; rw [h]; have : max a b = b := by omega
          rw [this]; simp
      · right; simp [h]
theorem getD_memI {ls : List Int} {i : Nat} (h : i < ls.length) : ls.getD i 0 ∈ ls := by
  rw [List.getD_eq_getElem?_getD, List.getElem?_eq_getElem h]; exact List.getElem_mem h
theorem argm_min {ls : List Int} (h : 0 < ls.length) : ls.getD (argm ls) 0 = ls.foldl min (ls.head?.getD 0) := by
  obtain ⟨h1, h2, h3⟩ := foldl_min ls (ls.head?.getD 0)
  have ha := argm_lt h
  have hm := getD_memI ha
  have e1 := h2 _ hm
  have e2 : ls.getD (argm ls) 0 ≤ ls.foldl min (ls.head?.getD 0) := by
    have key : ∀ x ∈ ls, ls.getD (argm ls) 0 ≤ x := fun x hx => by
      obtain ⟨i, hi, rfl⟩ := List.getElem_of_mem hx
      have := argT_min ls ls.length i hi
      rw [show ls.getD i 0 = ls[i] by rw [List.getD_eq_getElem?_getD, List.getElem?_eq_getElem hi]; rfl] at this
      exact this
    rcases h3 with h3 | h3
    · rw [h3]
      cases ls with
      | nil => simp at h
      | cons b r => exact key b (by simp)
    · exact key _ h3
  omega
/-- The pieces of shortest terms: beside each other, one behind the other, or of the j-th alone. -/
def leastO (x : Prt) (o : Nat) (own : List Pc) (fr : Int) : List Pc := if x.kind = 0 then [((o : Int), fr)] else own
def leastF : Fst → Nat → Nat → Nat → Int → List Pc
  | .nil, _, _, _, _ => []
  | .cons x K N, o, md, j, fr =>
    if md = 3 then (if j = 0 then leastO x o (leastF K (o + 1) x.kind (argm (lensF K)) fr) fr else leastF N (o + 1 + K.size) 3 (j - 1) fr)
    else leastO x o (leastF K (o + 1) x.kind (argm (lensF K)) fr) fr ++ leastF N (o + 1 + K.size) md j (if md = 4 then fr else fr + lenW x K)
def leastI (x : Prt) (K : Fst) (o : Nat) (fr : Int) : List Pc := leastO x o (leastF K (o + 1) x.kind (argm (lensF K)) fr) fr
theorem leastF_one (x : Prt) (K N : Fst) (o md : Nat) (j : Nat) (fr : Int) (h : md ≠ 3) : leastF (.cons x K N) o md j fr = leastI x K o fr ++ leastF N (o + 1 + K.size) md j (if md = 4 then fr else fr + lenW x K) := by
  simp only [leastF, leastI]; rw [if_neg h]
theorem leastF_any0 (x : Prt) (K N : Fst) (o : Nat) (fr : Int) : leastF (.cons x K N) o 3 0 fr = leastI x K o fr := by
  simp only [leastF, leastI, if_true]
theorem leastF_anyS (x : Prt) (K N : Fst) (o j : Nat) (fr : Int) : leastF (.cons x K N) o 3 (j + 1) fr = leastF N (o + 1 + K.size) 3 j fr := by
  simp only [leastF, if_true]; rw [if_neg (by omega)]; rfl
/-- What the parts outside of a term have is nothing to it. -/
theorem filter_sub {W : List Pc} {a b c d : Nat} (h1 : a ≤ c) (h2 : d ≤ b) : (W.filter (inR a b)).filter (inR c d) = W.filter (inR c d) := by
  rw [List.filter_filter]
  congr 1
  funext p
  unfold inR
  rw [Bool.eq_iff_iff]; simp only [Bool.and_eq_true, decide_eq_true_eq]; omega
theorem place_filter (W : List Pc) (o : Nat) (d : Int) : placeI (W.filter (inR o (o + 1))) o d = placeI W o d := by
  unfold placeI
  have : ∀ (W : List Pc) (s : Se), (W.filter (inR o (o + 1))).foldl (fun s p => if p.1 = (o : Int) then jn s (some (p.2, p.2 + d)) else s) s = W.foldl (fun s p => if p.1 = (o : Int) then jn s (some (p.2, p.2 + d)) else s) s := by
    intro W
    induction W with
    | nil => intro s; rfl
    | cons p W ih =>
      intro s
      by_cases c : p.1 = (o : Int)
      · rw [List.filter_cons_of_pos (by unfold inR; simp only [Bool.and_eq_true, decide_eq_true_eq]; omega), List.foldl_cons, List.foldl_cons, ih]
      · rw [List.filter_cons_of_neg (by unfold inR; simp only [Bool.and_eq_true, decide_eq_true_eq]; omega), List.foldl_cons, ih, if_neg c]
  exact this W none
/-- The pieces of a shortest term are atoms among its parts, in order. -/
theorem leastF_in : ∀ (F : Fst) (o md j : Nat) (fr : Int), (∀ p ∈ leastF F o md j fr, (o : Int) ≤ p.1 ∧ p.1 < ((o + F.size : Nat) : Int)) ∧ (leastF F o md j fr).Pairwise (fun a b => a.1 < b.1)
  | .nil, o, md, j, fr => by simp [leastF]
  | .cons x K N, o, md, j, fr => by
    have own : (∀ p ∈ leastI x K o fr, (o : Int) ≤ p.1 ∧ p.1 < ((o + 1 + K.size : Nat) : Int)) ∧ (leastI x K o fr).Pairwise (fun a b => a.1 < b.1) := by
      unfold leastI leastO
      split
      · refine ⟨fun p hp => ?_, List.pairwise_singleton _ _⟩
        simp only [List.mem_singleton] at hp
        subst hp
        constructor <;> simp only <;> omega
      · obtain ⟨h1, h2⟩ := leastF_in K (o + 1) x.kind (argm (lensF K)) fr
        exact ⟨fun p hp => by have := h1 p hp; omega, h2⟩
    by_cases h3 : md = 3
    · subst h3
      cases j with
      | zero =>
        rw [leastF_any0]
        exact ⟨fun p hp => by have := own.1 p hp; simp only [Fst.size]; omega, own.2⟩
      | succ j =>
        rw [leastF_anyS]
        obtain ⟨h1, h2⟩ := leastF_in N (o + 1 + K.size) 3 j fr
        exact ⟨fun p hp => by have := h1 p hp; simp only [Fst.size]; omega, h2⟩
    · rw [leastF_one _ _ _ _ _ _ _ h3]
      obtain ⟨h1, h2⟩ := leastF_in N (o + 1 + K.size) md j (if md = 4 then fr else fr + lenW x K)
      refine ⟨fun p hp => ?_, List.pairwise_append.2 ⟨own.2, h2, fun p hp q hq => ?_⟩⟩
      · rcases List.mem_append.1 hp with hp | hp
        · have := own.1 p hp; simp only [Fst.size]; omega
        · have := h1 p hp; simp only [Fst.size]; omega
      · have := own.1 p hp
        have := h1 q hq
        omega
theorem leastI_in (x : Prt) (K : Fst) (o : Nat) (fr : Int) : (∀ p ∈ leastI x K o fr, (o : Int) ≤ p.1 ∧ p.1 < ((o + 1 + K.size : Nat) : Int)) ∧ (leastI x K o fr).Pairwise (fun a b => a.1 < b.1) := by
  have := leastF_in (.cons x K .nil) o 3 0 fr
  rw [leastF_any0] at this
  simp only [Fst.size] at this
  rw [show o + (K.size + 0 + 1) = o + 1 + K.size by omega] at this
  exact this
/-- No piece of a shortest forest lies elsewhere. -/
theorem filter_all {V : List Pc} {a b : Nat} (h : ∀ p ∈ V, (a : Int) ≤ p.1 ∧ p.1 < (b : Int)) : V.filter (inR a b) = V := by
  rw [List.filter_eq_self]
  intro p hp
  have := h p hp
  unfold inR; simp only [Bool.and_eq_true, decide_eq_true_eq]; omega
theorem filter_none {V : List Pc} {a b : Nat} (h : ∀ p ∈ V, p.1 < (a : Int) ∨ (b : Int) ≤ p.1) : V.filter (inR a b) = [] := by
  rw [List.filter_eq_nil_iff]
  intro p hp
  have := h p hp
  unfold inR; simp only [Bool.and_eq_true, decide_eq_true_eq]; omega
theorem filter_left {V U : List Pc} {a b c : Nat} (h1 : ∀ p ∈ V, (a : Int) ≤ p.1 ∧ p.1 < (b : Int)) (h2 : ∀ p ∈ U, (b : Int) ≤ p.1 ∧ p.1 < (c : Int)) : (V ++ U).filter (inR a b) = V := by
  rw [List.filter_append, filter_all h1, filter_none (fun p hp => .inr (h2 p hp).1), List.append_nil]
theorem filter_right {V U : List Pc} {a b c : Nat} (h1 : ∀ p ∈ V, (a : Int) ≤ p.1 ∧ p.1 < (b : Int)) (h2 : ∀ p ∈ U, (b : Int) ≤ p.1 ∧ p.1 < (c : Int)) : (V ++ U).filter (inR b c) = U := by
  rw [List.filter_append, filter_all h2, filter_none (fun p hp => .inl (h1 p hp).2), List.nil_append]
end Go.Proofs.Ytlhokgcamcaonaa

namespace Go.Proofs.Ytlhokgcamcaonaa

def sumL (ls : List Int) : Int := ls.foldl (· + ·) 0
theorem foldl_add (ls : List Int) : ∀ a : Int, ls.foldl (· + ·) a = a + sumL ls := by
  induction ls with
  | nil => intro a; simp [sumL]
  | cons b r ih =>
    intro a
    unfold sumL
    rw [List.foldl_cons, List.foldl_cons, ih, ih (0 + b)]; omega
theorem sumL_cons (b : Int) (r : List Int) : sumL (b :: r) = b + sumL r := by
  conv => lhs; unfold sumL
  rw [List.foldl_cons, foldl_add]; omega
theorem sumL_ge {ls : List Int} (h : ∀ x ∈ ls, 1 ≤ x) : 0 ≤ sumL ls ∧ ∀ x ∈ ls, x ≤ sumL ls := by
  induction ls with
  | nil => simp [sumL]
  | cons b r ih =>
    obtain ⟨h1, h2⟩ := ih fun x hx => h x (List.mem_cons_of_mem _ hx)
    have hb := h b (by simp)
    rw [sumL_cons]
    refine ⟨by omega, fun x hx => ?_⟩
    rcases List.mem_cons.1 hx with rfl | hx
    · omega
    · have := h2 x hx; omega
theorem lens_pos : ∀ (F : Fst) (deep ink : Nat), F.fit deep ink → (∀ n ∈ lensF F, 1 ≤ n) ∧ sumL (lensF F) ≤ 4096 * (F.size : Int)
  | .nil, _, _, _ => by simp [lensF, sumL, Fst.size]
  | .cons x K N, deep, ink, hf => by
    obtain ⟨f1, f2, f3, f4, f5⟩ := hf
    obtain ⟨k1, k2⟩ := lens_pos K _ _ f4
    obtain ⟨n1, n2⟩ := lens_pos N _ _ f5
    have hkk := badP_kids f1
    obtain ⟨s1, s2⟩ := sumL_ge k1
    have own : 1 ≤ lenLs x (lensF K) ∧ lenLs x (lensF K) ≤ 4096 * ((K.size : Int) + 1) := by
      unfold lenLs
      by_cases c : x.kind = 0
      · rw [if_pos c]
        unfold badP at f1
        simp only [if_pos c] at f1
        have := of_decide_eq_false f1
        omega
      · rw [if_neg c]
        have hl : 0 < (lensF K).length := by rw [lensF_len]; have := hkk.2 c; omega
        obtain ⟨b, r, hbr⟩ : ∃ b r, lensF K = b :: r := by
          cases hq : lensF K with
          | nil => rw [hq] at hl; simp at hl
          | cons b r => exact ⟨b, r, rfl⟩
        rw [hbr] at k1 s1 s2 k2 ⊢
        simp only [List.head?_cons, Option.getD_some]
        have hb := k1 b (by simp)
        have hb2 := s2 b (by simp)
        by_cases c3 : x.kind = 3
        · rw [if_pos c3]
          obtain ⟨m1, m2, m3⟩ := foldl_min (b :: r) b
          rcases m3 with m3 | m3
          · omega
          · have := k1 _ m3; have := s2 _ m3; omega
        · rw [if_neg c3]
          by_cases c4 : x.kind = 4
          · rw [if_pos c4]
            obtain ⟨m1, m2, m3⟩ := foldl_max (b :: r) b
            rcases m3 with m3 | m3
            · omega
            · have := k1 _ m3; have := s2 _ m3; omega
          · rw [if_neg c4]
            change 1 ≤ sumL (b :: r) ∧ sumL (b :: r) ≤ _
            omega
    simp only [lensF, Fst.size]
    refine ⟨fun n hn => ?_, ?_⟩
    · rcases List.mem_cons.1 hn with rfl | hn
      · exact own.1
      · exact n1 n hn
    · rw [sumL_cons]; omega
theorem lenW_pos {x : Prt} {K : Fst} {deep ink : Nat} (hf : (Fst.cons x K .nil).fit deep ink) : 1 ≤ lenW x K ∧ lenW x K ≤ 4096 * ((K.size : Int) + 1) := by
  obtain ⟨h1, h2⟩ := lens_pos _ _ _ hf
  simp only [lensF, Fst.size] at h1 h2
  rw [sumL_cons] at h2
  have e : sumL [] = 0 := rfl
  have := h1 (lenLs x (lensF K)) (by simp)
  unfold lenW
  omega
theorem sat_lens_pos {W : List Pc} {F : Fst} {o deep ink : Nat} (hf : F.fit deep ink) : ∀ k ∈ satF W F o, 1 ≤ k.len := fun k hk => by
  have := (lens_pos F _ _ hf).1 k.len (by rw [← satF_lens W F o]; exact List.mem_map_of_mem hk)
  exact this
theorem sumI_map (ks : List TI) : sumI ks = sumL (ks.map TI.len) := by unfold sumI sumL; rw [List.foldl_map]
theorem sumI_cons4 (k : TI) (ks : List TI) : sumI (k :: ks) = k.len + sumI ks := by rw [sumI_map, sumI_map, List.map_cons, sumL_cons]

/-- One behind the other, without a gap. -/
def SeqI : List TI → Int → Prop
  | [], _ => True
  | k :: r, fr => k.ok = true ∧ k.se = some (fr, fr + k.len) ∧ SeqI r (fr + k.len)
def AllI (ks : List TI) (fr : Int) : Prop := ∀ k ∈ ks, k.ok = true ∧ k.se = some (fr, fr + k.len)
theorem seq_ends : ∀ (ks : List TI) (fr : Int), SeqI ks fr → ks ≠ [] → (∀ k ∈ ks, 1 ≤ k.len) → endsI ks = some (fr, fr + sumI ks) ∧ adjI (fun e b => decide (e ≤ b)) ks = true ∧ adjI (fun e b => decide (e = b)) ks = true ∧ allI ks = true
  | [], _, _, h, _ => absurd rfl h
  | [k], fr, h, _, _ => by
    obtain ⟨h1, h2, _⟩ := h
    refine ⟨?_, rfl, rfl, ?_⟩
    · rw [endsI_cons, h2, sumI_cons4]
      have e : endsI [] = none := rfl
      have e2 : sumI [] = 0 := rfl
      rw [e, e2, jn_none']; simp
    · simp [allI, h1]
  | k :: k2 :: r, fr, h, _, hp => by
    obtain ⟨h1, h2, h3⟩ := h
    obtain ⟨i1, i2, i3, i4⟩ := seq_ends (k2 :: r) (fr + k.len) h3 (by simp) fun q hq => hp q (List.mem_cons_of_mem _ hq)
    obtain ⟨g1, g2, _⟩ := h3
    have hk := hp k (by simp)
    have hs : 0 ≤ sumI (k2 :: r) := by
      rw [sumI_map]
      exact (sumL_ge fun x hx => by
        obtain ⟨q, hq, rfl⟩ := List.mem_map.1 hx
        exact hp q (List.mem_cons_of_mem _ hq)).1
    refine ⟨?_, ?_, ?_, ?_⟩
    · rw [endsI_cons, h2, i1, sumI_cons4 k (k2 :: r)]
      simp only [jn, Option.some.injEq, Prod.mk.injEq]
      omega
    · simp only [adjI, h2, g2, seE, seB, i2, Bool.and_true, decide_eq_true_eq]; omega
    · simp only [adjI, h2, g2, seE, seB, i3, Bool.and_true, decide_eq_true_eq]
    · unfold allI at i4 ⊢
      rw [List.all_cons, h1, i4]; rfl
theorem all_ends : ∀ (ks : List TI) (fr : Int), AllI ks fr → ks ≠ [] → endsI ks = some (fr, fr + maxI ks) ∧ allI ks = true := by
  intro ks fr h hne
  have hall : allI ks = true := by unfold allI; rw [List.all_eq_true]; exact fun k hk => (h k hk).1
  refine ⟨?_, hall⟩
  have key : ∀ (ks : List TI) (m : Int), (∀ k ∈ ks, k.se = some (fr, fr + k.len)) → ks.foldl (fun s k => jn s k.se) (some (fr, fr + m)) = some (fr, fr + (ks.map TI.len).foldl max m) := by
    intro ks
    induction ks with
    | nil => intro m _; rfl
    | cons k r ih =>
      intro m hk
      rw [List.foldl_cons, List.map_cons, List.foldl_cons, hk k (by simp)]
      have : jn (some (fr, fr + m)) (some (fr, fr + k.len)) = some (fr, fr + max m k.len) := by
        simp only [jn, Option.some.injEq, Prod.mk.injEq]; omega
      rw [this]
      exact ih _ fun q hq => hk q (List.mem_cons_of_mem _ hq)
  cases ks with
  | nil => exact absurd rfl hne
  | cons k r =>
    unfold endsI maxI
    rw [List.foldl_cons, jn_none, (h k (by simp)).2, key r k.len fun q hq => (h q (List.mem_cons_of_mem _ hq)).2]
    simp only [List.head?_cons, Option.map_some, Option.getD_some, List.foldl_cons]
    rw [List.foldl_map, show max k.len k.len = k.len by omega]
/-- Just one child has pieces. -/
theorem any_ends : ∀ (ks : List TI) (q : TI), (ks.filter fun k => k.se.isSome) = [q] → endsI ks = q.se
  | [], q, h => by simp at h
  | k :: r, q, h => by
    rw [endsI_cons]
    cases hs : k.se with
    | none =>
      rw [List.filter_cons_of_neg (by rw [hs]; simp)] at h
      rw [jn_none]; exact any_ends r q h
    | some p =>
      rw [List.filter_cons_of_pos (by rw [hs]; rfl)] at h
      obtain ⟨rfl, h2⟩ := List.cons.inj h
      have : endsI r = none := endsI_none fun u hu => by
        have : u ∉ r.filter fun k => k.se.isSome := by rw [h2]; simp
        rw [List.mem_filter] at this
        cases hu2 : u.se with
        | none => rfl
        | some v => exact absurd ⟨hu, by rw [hu2]; rfl⟩ this
      rw [this, hs, jn_none']
theorem satF_none {W : List Pc} : ∀ (F : Fst) (o deep ink : Nat), F.fit deep ink → W.filter (inR o (o + F.size)) = [] → ∀ k ∈ satF W F o, k.se = none
  | .nil, _, _, _, _, _, k, hk => by cases hk
  | .cons x K N, o, deep, ink, hf, h, k, hk => by
    obtain ⟨f1, f2, f3, f4, f5⟩ := hf
    simp only [Fst.size] at h
    have hK := satF_none K (o + 1) _ _ f4 (by rw [← filter_sub (a := o) (b := o + (K.size + N.size + 1)) (by omega) (by omega), h]; rfl)
    have hN := satF_none N (o + 1 + K.size) _ _ f5 (by rw [← filter_sub (a := o) (b := o + (K.size + N.size + 1)) (by omega) (by omega), h]; rfl)
    rw [satF] at hk
    rcases List.mem_cons.1 hk with rfl | hk
    · unfold mkI
      simp only
      split
      · have : W.filter (inR o (o + 1)) = [] := by rw [← filter_sub (a := o) (b := o + (K.size + N.size + 1)) (by omega) (by omega), h]; rfl
        rw [← place_filter, this]; rfl
      · exact endsI_none hK
    · exact hN k hk
/-- The pieces of a shortest term satisfy it, in its least length. -/
theorem least_ok : ∀ (F : Fst) (o deep ink : Nat), F.fit deep ink → ∀ (W : List Pc) (md j : Nat) (fr : Int), W.filter (inR o (o + F.size)) = leastF F o md j fr →
    (md = 1 ∨ md = 2 → SeqI (satF W F o) fr) ∧ (md = 4 → AllI (satF W F o) fr) ∧ (md = 3 → j < F.len → ∃ q, ((satF W F o).filter fun k => k.se.isSome) = [q] ∧ q.ok = true ∧ q.se = some (fr, fr + (lensF F).getD j 0))
  | .nil, o, _, _, _, W, md, j, fr, _ => ⟨fun _ => trivial, fun _ => (fun k hk => by cases hk), fun _ h => by simp [Fst.len] at h⟩
  | .cons x K N, o, deep, ink, hf, W, md, j, fr, h => by
    have hf0 : (Fst.cons x K .nil).fit deep ink := ⟨hf.1, hf.2.1, hf.2.2.1, hf.2.2.2.1, trivial⟩
    obtain ⟨f1, f2, f3, f4, f5⟩ := hf
    have hkk := badP_kids f1
    simp only [Fst.size] at h
    have own : ∀ fr, W.filter (inR o (o + 1 + K.size)) = leastI x K o fr → (satI W x K o).ok = true ∧ (satI W x K o).se = some (fr, fr + lenW x K) := by
      intro fr hw
      have hlen := satI_len W x K o
      unfold leastI leastO at hw
      by_cases c : x.kind = 0
      · rw [if_pos c] at hw
        have hK : K.size = 0 := by
          have := hkk.1 c
          cases K with
          | nil => rfl
          | cons _ _ _ => simp only [Fst.len] at this; omega
        rw [hK, Nat.add_zero] at hw
        have e : placeI W o x.d = some (fr, fr + x.d) := by
          rw [← place_filter, hw]
          unfold placeI
          simp
        have e2 : lenW x K = x.d := by unfold lenW lenLs; rw [if_pos c]
        unfold satI mkI okI
        simp only [if_pos c, e, e2]
        exact ⟨rfl, trivial⟩
      · rw [if_neg c] at hw
        obtain ⟨i1, i2, i3⟩ := least_ok K (o + 1) _ _ f4 W x.kind (argm (lensF K)) fr (by rw [← filter_sub (a := o) (b := o + 1 + K.size) (by omega) (by omega), hw, filter_all (leastF_in _ _ _ _ _).1])
        have hne : satF W K (o + 1) ≠ [] := fun e => by
          have := satF_len W K (o + 1)
          rw [e] at this
          have := hkk.2 c
          simp at *; omega
        have hp := sat_lens_pos (W := W) (o := o + 1) f4
        have hnum := badP_num f1
        have hlen2 : lenI { x with kids := (K.len : Int) } (satF W K (o + 1)) = lenW x K := by rw [lenI_map, satF_lens]; rfl
        unfold satI mkI okI
        simp only [if_neg c]
        unfold lenI at hlen2
        simp only [if_neg c] at hlen2
        by_cases c1 : x.kind = 1
        · obtain ⟨s1, s2, s3, s4⟩ := seq_ends _ _ (i1 (.inl c1)) hne hp
          rw [if_neg (by omega), if_neg (by omega)] at hlen2
          rw [if_pos c1, s1, s2, s4, hlen2]
          exact ⟨rfl, rfl⟩
        · rw [if_neg c1]
          by_cases c2 : x.kind = 2
          · obtain ⟨s1, s2, s3, s4⟩ := seq_ends _ _ (i1 (.inr c2)) hne hp
            rw [if_neg (by omega), if_neg (by omega)] at hlen2
            rw [if_pos c2, s1, s3, s4, hlen2]
            exact ⟨rfl, rfl⟩
          · rw [if_neg c2]
            by_cases c3 : x.kind = 3
            · have hl : 0 < (lensF K).length := by rw [lensF_len]; have := hkk.2 c; omega
              obtain ⟨q, q1, q2, q3⟩ := i3 c3 (by rw [← lensF_len]; exact argm_lt hl)
              rw [if_pos c3, any_ends _ _ q1, q3, argm_min hl]
              unfold anyI
              rw [q1]
              refine ⟨q2, ?_⟩
              unfold lenW lenLs
              rw [if_neg c, if_pos c3]
            · rw [if_neg c3]
              have c4 : x.kind = 4 := by have := hnum.1; simp only at this; omega
              obtain ⟨s1, s2⟩ := all_ends _ _ (i2 c4) hne
              rw [if_neg c3, if_pos c4] at hlen2
              rw [s1, s2, hlen2]
              exact ⟨rfl, rfl⟩
    by_cases h3 : md = 3
    · subst h3
      refine ⟨fun hh => by omega, fun hh => by omega, fun _ hj => ?_⟩
      cases j with
      | zero =>
        rw [leastF_any0] at h
        have e1 : W.filter (inR o (o + 1 + K.size)) = leastI x K o fr := by rw [← filter_sub (a := o) (b := o + (K.size + N.size + 1)) (by omega) (by omega), h, filter_all (leastI_in _ _ _ _).1]
        have e2 : W.filter (inR (o + 1 + K.size) (o + 1 + K.size + N.size)) = [] := by
          rw [← filter_sub (a := o) (b := o + (K.size + N.size + 1)) (by omega) (by omega), h, filter_none fun p hp => .inl ((leastI_in _ _ _ _).1 p hp).2]
        obtain ⟨o1, o2⟩ := own fr e1
        have hN := satF_none N _ _ _ f5 e2
        refine ⟨satI W x K o, ?_, o1, ?_⟩
        · rw [satF_cons, List.filter_cons_of_pos (by rw [o2]; rfl)]
          congr 1
          rw [List.filter_eq_nil_iff]
          intro k hk; rw [hN k hk]; simp
        · rw [o2]; simp [lensF, lenW]
      | succ j =>
        rw [leastF_anyS] at h
        have e1 : W.filter (inR o (o + 1 + K.size)) = [] := by
          rw [← filter_sub (a := o) (b := o + (K.size + N.size + 1)) (by omega) (by omega), h, filter_none fun p hp => .inr ((leastF_in _ _ _ _ _).1 p hp).1]
        have e2 : W.filter (inR (o + 1 + K.size) (o + 1 + K.size + N.size)) = leastF N (o + 1 + K.size) 3 j fr := by
          rw [← filter_sub (a := o) (b := o + (K.size + N.size + 1)) (by omega) (by omega), h, filter_all (leastF_in _ _ _ _ _).1]
        have hX := satF_none (.cons x K .nil) o _ _ hf0 (by simp only [Fst.size]; rw [show o + (K.size + 0 + 1) = o + 1 + K.size by omega]; exact e1) (satI W x K o) (by rw [satF_cons]; simp)
        obtain ⟨_, _, i3⟩ := least_ok N (o + 1 + K.size) _ _ f5 W 3 j fr e2
        obtain ⟨q, q1, q2, q3⟩ := i3 rfl (by simp only [Fst.len] at hj; omega)
        refine ⟨q, ?_, q2, ?_⟩
        · rw [satF_cons, List.filter_cons_of_neg (by rw [hX]; simp), q1]
        · rw [q3]; simp [lensF]
    · rw [leastF_one _ _ _ _ _ _ _ h3] at h
      have ea := (leastI_in x K o fr).1
      have eb := (leastF_in N (o + 1 + K.size) md j (if md = 4 then fr else fr + lenW x K)).1
      have e1 : W.filter (inR o (o + 1 + K.size)) = leastI x K o fr := by rw [← filter_sub (a := o) (b := o + (K.size + N.size + 1)) (by omega) (by omega), h, filter_left ea eb]
      have e2 : W.filter (inR (o + 1 + K.size) (o + 1 + K.size + N.size)) = leastF N (o + 1 + K.size) md j (if md = 4 then fr else fr + lenW x K) := by
        rw [← filter_sub (a := o) (b := o + (K.size + N.size + 1)) (by omega) (by omega), h, filter_right ea eb]
      obtain ⟨o1, o2⟩ := own fr e1
      obtain ⟨i1, i2, i3⟩ := least_ok N _ _ _ f5 W md j _ e2
      refine ⟨fun hh => ?_, fun hh => ?_, fun hh => absurd hh h3⟩
      · rw [satF_cons]
        rw [if_neg (by omega)] at i1
        have hl := satI_len W x K o
        exact ⟨o1, by rw [o2, hl], by rw [hl]; exact i1 hh⟩
      · rw [satF_cons]
        rw [if_pos hh] at i2
        intro k hk
        rcases List.mem_cons.1 hk with rfl | hk
        · exact ⟨o1, by rw [o2, satI_len]⟩
        · exact i2 hh k hk
/-- The same of one term. -/
theorem leastI_ok {W : List Pc} {x : Prt} {K : Fst} {o deep ink : Nat} {fr : Int} (hf : (Fst.cons x K .nil).fit deep ink) (h : W.filter (inR o (o + 1 + K.size)) = leastI x K o fr) : (satI W x K o).ok = true ∧ (satI W x K o).se = some (fr, fr + lenW x K) := by
  obtain ⟨_, i2, _⟩ := least_ok (.cons x K .nil) o deep ink hf W 4 0 fr (by
    rw [leastF_one _ _ _ _ _ _ _ (by omega)]
    simp only [Fst.size, leastF, List.append_nil]
    rw [show o + (K.size + 0 + 1) = o + 1 + K.size by omega]; exact h)
  have := i2 rfl (satI W x K o) (by rw [satF_cons]; simp)
  rw [satI_len] at this
  exact this
end Go.Proofs.Ytlhokgcamcaonaa

namespace Go.Proofs.Ytlhokgcamcaonaa
open Go.RowKit

end Go.Proofs.Ytlhokgcamcaonaa

namespace Go.Proofs.Ytlhokgcamcaonaa
open Go.ChangeShapes Go.WideShapes Go.ChangeAt Go.RowKit
attribute [local irreducible] Go.Calls

end Go.Proofs.Ytlhokgcamcaonaa

namespace Go.Proofs.Ytlhokgcamcaonaa
open Go.ChangeShapes Go.WideShapes Go.ChangeAt Go.RowKit
attribute [local irreducible] Go.Calls

end Go.Proofs.Ytlhokgcamcaonaa

namespace Go.Proofs.Ytlhokgcamcaonaa
open Go.ChangeShapes Go.WideShapes Go.ChangeAt Go.RowKit
attribute [local irreducible] Go.Calls

/-- The cells of a list of vectors. -/
def cellsOfV : List (Int × Int) → List Value
  | [] => []
  | s :: r => .int .i64 s.1 :: .int .i64 s.2 :: cellsOfV r
theorem cellsOfV_len : ∀ l, (cellsOfV l).length = l.length * 2
  | [] => rfl
  | s :: r => by simp only [cellsOfV, List.length_cons, cellsOfV_len r]; omega
theorem cellsOfV_app : ∀ l r, cellsOfV (l ++ r) = cellsOfV l ++ cellsOfV r
  | [], _ => rfl
  | s :: l, r => by simp only [cellsOfV, List.cons_append, cellsOfV_app l r]
theorem cellsOfV_get : ∀ (l : List (Int × Int)) (i : Nat), i < l.length → (cellsOfV l)[i * 2]? = some (.int .i64 (l.getD i (0, 0)).1) ∧ (cellsOfV l)[i * 2 + 1]? = some (.int .i64 (l.getD i (0, 0)).2)
  | [], i, h => by simp at h
  | s :: l, 0, _ => ⟨rfl, rfl⟩
  | s :: l, i + 1, h => by
    obtain ⟨h1, h2⟩ := cellsOfV_get l i (by simp at h; omega)
    have e : ∀ j, (cellsOfV (s :: l))[(i + 1) * 2 + j]? = (cellsOfV l)[i * 2 + j]? := fun j => by
      simp only [cellsOfV]
      rw [show (i + 1) * 2 + j = i * 2 + j + 1 + 1 by omega]
      simp only [List.getElem?_cons_succ]
    exact ⟨(e 0).trans h1, (e 1).trans h2⟩
/-- What a call has appended to reads as a slice of vectors. -/
theorem sliVs_own {w : World} {base : Nat} {e : TypeId} {v : Value} {l : List (Int × Int)} (h : w.ownsRow base e 2 v l.length (cellsOfV l)) : SliVs w v l := by
  obtain ⟨h1, h2 | ⟨g, cap, cur, rfl, h3, h4, h5, h6, h7, h8⟩⟩ := h
  · obtain ⟨rfl, h2⟩ := h2
    have : l = [] := List.eq_nil_of_length_eq_zero h2
    subst this
    exact ⟨none, 0, rfl, Nat.le_refl _, by omega, fun h => by simp at h⟩
  · refine ⟨some ⟨g, 0, none⟩, cap, rfl, h5, by unfold maxLen at h6; omega, fun _ => ⟨g, 0, rfl, lt_of_block h4, fun i hi => ?_⟩⟩
    have hg := cellsOfV_get l i hi
    have hc : ∀ j x, j < l.length * 2 → (cellsOfV l)[j]? = some x → w.cell? ⟨g, j, none⟩ = some x := fun j x hj hx => by
      have e : w.cell? ⟨g, j, none⟩ = cur[j]? := by simp [World.cell?, h4]
      rw [e, ← Array.getElem?_toList]
      rw [← h8, List.getElem?_take, if_pos hj] at hx
      exact hx
    simp only [Nat.zero_add]
    exact ⟨hc _ _ (by omega) hg.1, hc _ _ (by omega) hg.2⟩
end Go.Proofs.Ytlhokgcamcaonaa

namespace Go.Proofs.Ytlhokgcamcaonaa
open Go.ChangeShapes Go.WideShapes Go.ChangeAt Go.RowKit
attribute [local irreducible] Go.Calls

set_option maxRecDepth 100000 in
theorem Try.infoPc : (Try.prog.info? 54).map (fun i => (i.zero, i.size, i.bytes)) = some (some (.agg #[.int .i64 0, .int .i64 0]), 2, 16) := by kernel_rfl
/-- The i-th term of a forest. -/
theorem kid_nth {l : List Prt} : ∀ (F : Fst) (o deep ink : Nat), AtF l o F → F.fit deep ink → ∀ i, i < F.len → ∃ (x : Prt) (Kx : Fst) (oo : Nat), (natsI (posF F o)).getD i 0 = (oo : Int) ∧ AtF l oo (.cons x Kx .nil) ∧ (Fst.cons x Kx .nil).fit deep ink ∧ (lensF F).getD i 0 = lenW x Kx ∧ Kx.size < F.size ∧ ∀ fr, leastF F o 3 i fr = leastI x Kx oo fr
  | .nil, _, _, _, _, _, i, h => by simp [Fst.len] at h
  | .cons x K N, o, deep, ink, hat, hf, i, h => by
    cases i with
    | zero => exact ⟨x, K, o, rfl, hat.one, ⟨hf.1, hf.2.1, hf.2.2.1, hf.2.2.2.1, trivial⟩, rfl, by simp only [Fst.size]; omega, fun fr => leastF_any0 _ _ _ _ _⟩
    | succ i =>
      obtain ⟨x', K', oo, h1, h2, h3, h4, h5, h6⟩ := kid_nth N _ _ _ hat.next hf.2.2.2.2 i (by simp only [Fst.len] at h; omega)
      exact ⟨x', K', oo, h1, h2, h3, h4, by simp only [Fst.size]; omega, fun fr => by rw [leastF_anyS, h6]⟩
theorem leastF_len : ∀ (F : Fst) (o md j : Nat) (fr : Int), (leastF F o md j fr).length ≤ F.size
  | .nil, _, _, _, _ => by simp [leastF]
  | .cons x K N, o, md, j, fr => by
    have own : (leastI x K o fr).length ≤ K.size + 1 := by
      unfold leastI leastO
      split
      · simp
      · have := leastF_len K (o + 1) x.kind (argm (lensF K)) fr; omega
    by_cases h3 : md = 3
    · subst h3
      cases j with
      | zero => rw [leastF_any0]; simp only [Fst.size]; omega
      | succ j => rw [leastF_anyS]; have := leastF_len N (o + 1 + K.size) 3 j fr; simp only [Fst.size]; omega
    · rw [leastF_one _ _ _ _ _ _ _ h3, List.length_append]
      have := leastF_len N (o + 1 + K.size) md j (if md = 4 then fr else fr + lenW x K)
      simp only [Fst.size]; omega
theorem leastI_len (x : Prt) (K : Fst) (o : Nat) (fr : Int) : (leastI x K o fr).length ≤ K.size + 1 := by
  have := leastF_len (.cons x K .nil) o 3 0 fr
  rw [leastF_any0] at this
  simp only [Fst.size] at this; omega
theorem wrong_nil {fr to' : Int} {l : List Prt} (h : (chkS fr to' l).2 = 0) {b : Bool} (hb : b = true) : wrongS fr to' l b [] = 0 := by
  unfold wrongS
  rw [if_neg (by omega), if_neg (by rw [hb]; simp [pcsB]), if_neg (by simp [farB])]
/-- The least length of the part at a place. -/
theorem short_at (fr to' : Int) (l : List Prt) (a : Option Addr) (cap : Nat) (hl : l.length ≤ 64) (hck : (chkS fr to' l).2 = 0) (hf : -9223372036854775808 ≤ fr ∧ fr ≤ 9223372036854775807) (ht : -9223372036854775808 ≤ to' ∧ to' ≤ 9223372036854775807) {x : Prt} {Kx : Fst} {oo deep ink : Nat} (hat : AtF l oo (.cons x Kx .nil)) (hfit : (Fst.cons x Kx .nil).fit deep ink) (w : World) (hA : ArgP w a l) :
    Calls Try.prog 13 #[def8 fr to' a l.length cap, .int .i64 oo] w fun e w' => e = .returned (.tuple #[.int .i64 (lenW x Kx), .int .i64 0]) ∧ Below w.heap.size w w' := by
  have hlt := hat.lt
  have := satShort_c fr to' l a cap (oo : Int) 0 (satI [] x Kx oo) w (by omega) hA hf ht (by omega) (wrong_nil hck (decide_eq_true ⟨by omega, by omega⟩)) (fun _ => ⟨x, Kx, deep, ink, oo, hat, hfit, rfl, rfl⟩)
  rw [look_0, satI_len] at this
  exact this
theorem cellsOfV_one : ∀ (l : List (Int × Int)), ∀ u ∈ cellsOfV l, u.oneCell' = true
  | [], u, h => by cases h
  | s :: r, u, h => by
    simp only [cellsOfV, List.mem_cons] at h
    rcases h with rfl | rfl | h
    · rfl
    · rfl
    · exact cellsOfV_one r u h
theorem SliVs.src {w : World} {v : Value} {l : List (Int × Int)} (h : SliVs w v l) (hne : l ≠ []) : SrcV w 2 v l.length (cellsOfV l) := by
  obtain ⟨a, cap, rfl, h1, h2, h3⟩ := h
  obtain ⟨b, off, rfl, hb, hc⟩ := h3 (List.length_pos_iff.2 hne)
  refine ⟨_, cap, rfl, fun e => (by cases e), cellsOfV_len l, cellsOfV_one l, ?_⟩
  rintro ad ⟨⟩ j u hu
  have hj : j < l.length * 2 := by
    have := (List.getElem?_eq_some_iff.1 hu).1
    rwa [cellsOfV_len] at this
  have ad : ∀ x y : Nat, (⟨b, x, none⟩ : Addr).add y = ⟨b, x + y, none⟩ := fun x y => by
    unfold Addr.add
    by_cases c : y = 0
    · subst c; simp
    · simp [c]
  rw [ad]
  obtain ⟨g1, g2⟩ := cellsOfV_get l (j / 2) (by omega)
  obtain ⟨k1, k2⟩ := hc (j / 2) (by omega)
  by_cases c : j % 2 = 0
  · rw [show j / 2 * 2 = j by omega, hu] at g1
    rw [show off + j / 2 * 2 = off + j by omega] at k1
    rw [k1, ← Option.some.inj g1]
  · rw [show j / 2 * 2 + 1 = j by omega, hu] at g2
    rw [show off + j / 2 * 2 + 1 = off + j by omega] at k2
    rw [k2, ← Option.some.inj g2]
theorem leastI_ne {x : Prt} {K : Fst} {o deep ink : Nat} {fr : Int} (hf : (Fst.cons x K .nil).fit deep ink) : leastI x K o fr ≠ [] := fun e => by
  have h := leastI_ok (W := leastI x K o fr) (o := o) (fr := fr) hf (filter_all (leastI_in x K o fr).1)
  have h2 := satF_none (W := leastI x K o fr) (.cons x K .nil) o deep ink hf (by rw [e]; rfl) (satI (leastI x K o fr) x K o) (by rw [satF_cons]; simp)
  rw [h2] at h
  cases h.2
set_option maxHeartbeats 8000000 in
set_option maxRecDepth 100000 in
theorem least_c (fr to' : Int) (l : List Prt) (a : Option Addr) (cap : Nat) (hl : l.length ≤ 64) (hck : (chkS fr to' l).2 = 0) (hf : -9223372036854775808 ≤ fr ∧ fr ≤ 9223372036854775807) (ht : -9223372036854775808 ≤ to' ∧ to' ≤ 9223372036854775807) : ∀ (m : Nat) (y : Prt) (K : Fst) (o deep ink : Nat) (fm : Int) (w : World), K.size < m → AtF l o (.cons y K .nil) → (Fst.cons y K .nil).fit deep ink → (-4611686018427387904 ≤ fm ∧ fm + 4096 * ((K.size : Int) + 1) ≤ 4611686018427387904) → ArgP w a l →
    Calls Try.prog 21 #[def8 fr to' a l.length cap, .int .i64 o, .int .i64 fm] w fun e w' => ∃ v, e = .returned v ∧ SliVs w' v (leastI y K o fm) ∧ Below w.heap.size w w' := by
  intro m
  induction m with
  | zero => intro y K o deep ink fm w h; omega
  | succ m ih =>
    intro y K o deep ink fm w hm hat hfit hfm hA
    have hol := hat.lt
    have htr := (chk_ok hck).2.2.1
    have hkz := tree_kids htr hol
    have HKI := hidE (fun (w' : World) (h : Below w.heap.size w w') => rkids_c l o a cap w' (by omega) hol (by omega) (hA.past h))
    rw [kidsS_pos hat] at HKI
    obtain ⟨b, off, rfl, hbb, hc⟩ := hA (by omega)
    have hg0 : l.getD o pr0 = { y with kids := (K.len : Int) } := by rw [List.getD_eq_getElem?_getD, hat.head]; rfl
    have hc0 := hc.get hol
    rw [hg0] at hc0
    obtain ⟨p0, p1, p2, p3, p4⟩ := hc0
    simp only at p0 p1 p2 p3 p4
    have hoz : (o : Int) < (l.length : Int) := by omega
    have hp16 : K.len ≤ 16 := fitT_len (t := (y, K)) (deep := deep) (ink := ink) ⟨hfit.1, hfit.2.1, hfit.2.2.1, hfit.2.2.2.1⟩
    have hkk := badP_kids hfit.1
    have hkd := (badP_num hfit.1).1
    simp only at hkd
    by_cases c0 : y.kind = 0
    · have HR := hidE (show leastI y K o fm = [((o : Int), fm)] by unfold leastI leastO; rw [if_pos c0])
      rw [c0] at p0
      clear ih hat hfit hkz HKI hc hg0 hkk hkd c0 hA htr
      rw [HR.out]
      clear HR
      go_enter Try.func21, Try.ntmps21
      go_wp2
      go_ret
      refine ⟨_, rfl, ⟨_, 1, rfl, by simp, by omega, argVs_g (Blk.made_at _ _ _ _ (by simp))⟩, by (repeat (first | exact Below.refl _ _ | assumption | refine balloc ?_ _ | refine below_drewN ?_ _ | refine bstep (by assumption) ?_ | refine bstep (Past.prop _) ?_ | refine Below.setCell ?_ (by first | exact Nat.le_refl _ | (simp; done) | (simp; omega)) _))⟩
    · have hz0 : ((y.kind : Int) == 0) = false := by simp; exact c0
      have hz0' : (y.kind == 0) = false := by simp; exact c0
      have h1len := (hkk.2 c0).1
      have HS := hidE (fun (i : Nat) (hi : i < K.len) (w' : World) (h : Below w.heap.size w w') => show Calls Try.prog 13 #[def8 fr to' (some ⟨b, off, none⟩) l.length cap, .int .i64 ((natsI (posF K (o + 1))).getD i 0)] w' fun e w'' => e = .returned (.tuple #[.int .i64 ((lensF K).getD i 0), .int .i64 0]) ∧ Below w'.heap.size w' w'' from by
        obtain ⟨x, Kx, oo, q1, q2, q3, q4, q5, q6⟩ := kid_nth K (o + 1) _ _ hat.kids hfit.2.2.2.1 i hi
        rw [q1, q4]
        exact short_at fr to' l _ cap hl hck hf ht q2 q3 w' (hA.past h))
      have hall := (lens_pos K _ _ hfit.2.2.2.1)
      by_cases c3 : y.kind = 3
      · have HI := hidE (fun (w' : World) (h : Below w.heap.size w w') => show Calls Try.prog 21 #[def8 fr to' (some ⟨b, off, none⟩) l.length cap, .int .i64 ((natsI (posF K (o + 1))).getD (argT (lensF K) K.len) 0), .int .i64 fm] w' fun e w'' => ∃ v, e = .returned v ∧ SliVs w'' v (leastI y K o fm) ∧ Below w'.heap.size w' w'' from by
          have hal : argT (lensF K) K.len < K.len := argT_le _ _ (by omega)
          obtain ⟨x, Kx, oo, q1, q2, q3, q4, q5, q6⟩ := kid_nth K (o + 1) _ _ hat.kids hfit.2.2.2.1 _ hal
          have e : leastI y K o fm = leastI x Kx oo fm := by
            rw [← q6]
            conv => lhs; unfold leastI leastO
            rw [if_neg c0, c3]
            unfold argm
            rw [lensF_len]
          rw [q1, e]
          exact ih x Kx oo _ _ fm w' (by omega) q2 q3 (by omega) (hA.past h))
        have hz3 : ((y.kind : Int) == 3) = true := by simp; omega
        have hz3' : (y.kind == 3) = true := by simp; exact c3
        have hcz : 0 < K.len := by omega
        clear ih hat hfit hkz hc hg0 hkk hkd hA htr hall c0 hfm hck hf ht
        have hy : y.kind = 3 := c3
        rw [c3] at p0
        clear hz0 hz0' hz3 hz3' c3 hy
        have HN := hidE (natsI_len (posF K (o + 1)) |>.trans (posF_len K (o + 1)))
        go_enter Try.func21, Try.ntmps21
        go_wp2_with fail
        ((with_reducible refine (HKI.out _ (by (repeat (first | exact Below.refl _ _ | assumption | refine balloc ?_ _ | refine below_drewN ?_ _ | refine bstep (by assumption) ?_ | refine bstep (Past.prop _) ?_ | refine Below.setCell ?_ (by first | exact Nat.le_refl _ | (simp; done) | (simp; omega)) _)))).mono ?_); rintro e w1 ⟨vk, rfl, hsn, hb1⟩)
        obtain ⟨ak, ck, rfl, hk1, hk2, hKc⟩ := hsn
        rw [posF_len] at hk1 ⊢
        obtain ⟨bk, ok, rfl, hbkz, hkc⟩ := hKc (by rw [HN.out]; exact hcz)
        have hbA := (show Below w.heap.size w ((w.alloc (.cells #[.int .i64 fr, .int .i64 to', .slice (some ⟨b, off, none⟩) l.length cap] 24)).alloc (.cells #[.int .u8 3, .int .u32 y.n, .int .u32 y.g, .int .i64 y.d, .int .i64 K.len] 57)) from by (repeat (first | exact Below.refl _ _ | assumption | refine balloc ?_ _ | refine below_drewN ?_ _ | refine bstep (by assumption) ?_ | refine bstep (Past.prop _) ?_ | refine Below.setCell ?_ (by first | exact Nat.le_refl _ | (simp; done) | (simp; omega)) _))).trans (hb1.mono (by simp; omega))
        have hd := ((Blk.made w #[.int .i64 fr, .int .i64 to', .slice (some ⟨b, off, none⟩) l.length cap] 24).alloc (.cells #[.int .u8 3, .int .u32 y.n, .int .u32 y.g, .int .i64 y.d, .int .i64 K.len] 57)).past hb1
        have hx := (Blk.made_at (w.alloc (.cells #[.int .i64 fr, .int .i64 to', .slice (some ⟨b, off, none⟩) l.length cap] 24)) #[.int .u8 3, .int .u32 y.n, .int .u32 y.g, .int .i64 y.d, .int .i64 K.len] 57 (w.heap.size + 1) (by simp)).past hb1
        have x0 := hx.cell 0; have xz := hx.lt
        simp at x0
        have HB := hidE hbA; have HD := hidE hd; have HX := hidE hx; have HKC := hidE hkc
        have k0 := hkc 0 (by rw [HN.out]; exact hcz)
        rw [Nat.add_zero] at k0
        clear hbA hd hx hb1 hKc hkc HKI p0 p1 p2 p3 p4 hk1 hk2
        generalize natsI (posF K (o + 1)) = ns at *
        generalize hls : lensF K = ls at *
        clear hls
        obtain ⟨z0, hz0⟩ : ∃ z0, ns.getD 0 0 = z0 := ⟨_, rfl⟩
        have HZ := hidE hz0
        rw [hz0] at k0
        clear hz0
        go_wp2_with fail
        go_loopg [9, 10, 11, 12, 13, 14] K.len (fun gh v9 v10 v11 v12 v13 v14 wr => ∃ (i : Nat) (zb : Int) (z1 z2 z3 z4 : Value), z1 = v11 ∧ z2 = v12 ∧ z3 = v13 ∧ z4 = v14 ∧ v10 = .int .i64 i ∧ v9 = .int .i64 zb ∧ zb = ns.getD (argT ls i) 0 ∧ 1 ≤ i ∧ i ≤ K.len ∧ K.len - i ≤ gh ∧ Below w1.heap.size w1 wr)
        case atStart => exact ⟨1, z0, undef, undef, undef, undef, rfl, rfl, rfl, rfl, rfl, rfl, by rw [← HZ.out]; simp [argT], Nat.le_refl _, hcz, by omega, Below.refl _ _⟩
        case round =>
          obtain ⟨i, zb, z1, z2, z3, z4, rfl, rfl, rfl, rfl, rfl, rfl, hzb, hi1, hi2, hgh, hbw⟩ := hrel
          have HBW := hidE hbw
          have HB2 := hidE (HB.out.trans (hbw.mono HB.out.size))
          have HD2 := hidE (HD.out.past hbw)
          have e0 := HD2.out.cell 0; have e1 := HD2.out.cell 1; have e2 := HD2.out.cell 2; have dz := HD2.out.lt
          simp at e0 e1 e2
          clear k0 x0 xz
          by_cases hlt : i < K.len
          · have ki := (hbw.cell (p := ⟨bk, ok + i, none⟩) hbkz).trans (HKC.out i (by rw [HN.out]; exact hlt))
            have kz := Nat.lt_of_lt_of_le hbkz hbw.size
            have HS1 := hidE (fun (w' : World) (h : Below w.heap.size w w') => HS.out i hlt w' h)
            have HS2 := hidE (fun (w' : World) (h : Below w.heap.size w w') => HS.out (argT ls i) (by have := argT_le ls i hi1; omega) w' h)
            rw [← hzb] at HS2
            have HZB := hidE hzb
            clear hzb
            have HAR := hidE (show argT ls (i + 1) = if ls.getD i 0 < ls.getD (argT ls i) 0 then i else argT ls i from rfl)
            clear hbw HS
            generalize ls.getD i 0 = n at *
            generalize ls.getD (argT ls i) 0 = mm at *
            obtain ⟨zi, hzi⟩ : ∃ zi, ns.getD i 0 = zi := ⟨_, rfl⟩
            have HZI := hidE hzi
            rw [hzi] at ki HS1
            clear hzi
            go_upto_region 10 with fail
            refine wp_region_past_lit (by kernel_rfl) (by kernel_rfl) ?_
            have hcp := Past.cell (W := wr)
            repeat (go_big_quiet_step ((go_at_call 13; exact Past.call _ (HS1.out _ (HB2.out.trans ((Past.prop _).mono HB2.out.size))))))
            refine wpQuiet_nil ?_
            rintro _ ⟨x', rfl⟩
            replace HD2 := hidE (HD2.out.past x'.2)
            replace HB2 := hidE (HB2.out.trans (x'.2.mono HB2.out.size))
            replace HBW := hidE (HBW.out.trans (x'.2.mono HBW.out.size))
            replace ki := (x'.2.cell (p := ⟨bk, ok + i, none⟩) kz).trans ki
            replace kz := Nat.lt_of_lt_of_le kz x'.2.size
            clear hcp e0 e1 e2 dz HS1
            generalize x'.1 = w6 at *
            have e0 := HD2.out.cell 0; have e1 := HD2.out.cell 1; have e2 := HD2.out.cell 2; have dz := HD2.out.lt
            simp at e0 e1 e2
            go_wp2_with fail
            ((with_reducible refine (HS2.out _ HB2.out).mono ?_); rintro e w7 ⟨rfl, hb7⟩)
            replace HB2 := hidE (HB2.out.trans (hb7.mono HB2.out.size))
            replace HBW := hidE (HBW.out.trans (hb7.mono HBW.out.size))
            replace ki := (hb7.cell (p := ⟨bk, ok + i, none⟩) kz).trans ki
            replace kz := Nat.lt_of_lt_of_le kz hb7.size
            clear hb7 e0 e1 e2 dz HS2 HD2
            by_cases hq : n < mm
            · have q1 : decide (n < mm) = true := decide_eq_true hq
              rw [if_pos hq] at HAR
              clear hq
              go_wp2
              go_roundg (K.len - (i + 1))
              case measure => omega
              case rel => exact ⟨i + 1, _, _, _, _, _, rfl, rfl, rfl, rfl, by go_num, rfl, by rw [HAR.out, HZI.out], by omega, by omega, Nat.le_refl _, HBW.out⟩
            · have q1 : decide (n < mm) = false := decide_eq_false hq
              rw [if_neg hq] at HAR
              clear hq
              go_wp2
              go_roundg (K.len - (i + 1))
              case measure => omega
              case rel => exact ⟨i + 1, _, _, _, _, _, rfl, rfl, rfl, rfl, by go_num, rfl, by rw [HAR.out, HZB.out], by omega, by omega, Nat.le_refl _, HBW.out⟩
          · have hik : i = K.len := by omega
            subst hik
            rw [← hzb] at HI
            clear hbw hlt HS hzb
            have q1 : decide ((K.len : Int) < (K.len : Int)) = false := decide_eq_false (by omega)
            go_wp2_with fail
            ((with_reducible refine (HI.out _ HB2.out).mono ?_); rintro e w7 ⟨v7, rfl, hv7, hb7⟩)
            go_wp2
            go_ret
            exact ⟨v7, rfl, hv7, HB2.out.trans (hb7.mono HB2.out.size)⟩
      · have HSI := hidE (ShI.start (W := []) hat hfit)
        have hz3 : ((y.kind : Int) == 3) = false := by simp; omega
        have hz3' : (y.kind == 3) = false := by simp; exact c3
        have hcz : 0 < K.len := by omega
        have hjj : ∃ j, argm (lensF K) = j := ⟨_, rfl⟩
        obtain ⟨j, hj⟩ := hjj
        have HLI := hidE (show leastI y K o fm = leastF K (o + 1) y.kind j fm by unfold leastI leastO; rw [if_neg c0, hj])
        have HT := hidE (leastF_len K (o + 1) y.kind j fm)
        have IH := hidE ih
        have HA := hidE hA
        have HCH := hidE (fun (x : Prt) (Kx : Fst) (oo deep' ink' : Nat) (h1 : AtF l oo (.cons x Kx .nil)) (h2 : (Fst.cons x Kx .nil).fit deep' ink') (w' : World) (h : Below w.heap.size w w') => short_at fr to' l (some ⟨b, off, none⟩) cap hl hck hf ht h1 h2 w' (hA.past h))
        have hkl : K.size < 64 := by have := at_size hat; omega
        clear ih hat hfit hkz hc hg0 hkk hA htr hall c0 hck hf ht HS hj
        obtain ⟨kd, hkk⟩ : ∃ kd, y.kind = kd := ⟨_, rfl⟩
        rw [hkk] at p0 hz0 hz0' hz3 hz3' c3 HLI HT hkd
        have HFM := hidE hfm
        clear hkk hfm
        rw [HLI.out]
        clear HLI
        have HN := hidE (natsI_len (posF K (o + 1)) |>.trans (posF_len K (o + 1)))
        obtain ⟨ip, hip, hzp0, hzp1, hzp2⟩ := info_parts Try.infoPc
        have HIP := hidE hip; have HZ0 := hidE hzp0; have HZ1 := hidE hzp1; have HZ2 := hidE hzp2
        clear hip hzp0 hzp1 hzp2
        go_enter Try.func21, Try.ntmps21
        go_wp2_with fail
        ((with_reducible refine (HKI.out _ (by (repeat (first | exact Below.refl _ _ | assumption | refine balloc ?_ _ | refine below_drewN ?_ _ | refine bstep (by assumption) ?_ | refine bstep (Past.prop _) ?_ | refine Below.setCell ?_ (by first | exact Nat.le_refl _ | (simp; done) | (simp; omega)) _)))).mono ?_); rintro e w1 ⟨vk, rfl, hsn, hb1⟩)
        obtain ⟨ak, ck, rfl, hk1, hk2, hKc⟩ := hsn
        rw [posF_len] at hk1 ⊢
        obtain ⟨bk, ok, rfl, hbkz, hkc⟩ := hKc (by rw [HN.out]; exact hcz)
        have hbA := (show Below w.heap.size w ((w.alloc (.cells #[.int .i64 fr, .int .i64 to', .slice (some ⟨b, off, none⟩) l.length cap] 24)).alloc (.cells #[.int .u8 kd, .int .u32 y.n, .int .u32 y.g, .int .i64 y.d, .int .i64 K.len] 57)) from by (repeat (first | exact Below.refl _ _ | assumption | refine balloc ?_ _ | refine below_drewN ?_ _ | refine bstep (by assumption) ?_ | refine bstep (Past.prop _) ?_ | refine Below.setCell ?_ (by first | exact Nat.le_refl _ | (simp; done) | (simp; omega)) _))).trans (hb1.mono (by simp; omega))
        have hd := ((Blk.made w #[.int .i64 fr, .int .i64 to', .slice (some ⟨b, off, none⟩) l.length cap] 24).alloc (.cells #[.int .u8 kd, .int .u32 y.n, .int .u32 y.g, .int .i64 y.d, .int .i64 K.len] 57)).past hb1
        have hx := (Blk.made_at (w.alloc (.cells #[.int .i64 fr, .int .i64 to', .slice (some ⟨b, off, none⟩) l.length cap] 24)) #[.int .u8 kd, .int .u32 y.n, .int .u32 y.g, .int .i64 y.d, .int .i64 K.len] 57 (w.heap.size + 1) (by simp)).past hb1
        have x0 := hx.cell 0; have xz := hx.lt
        simp at x0
        have HB := hidE hbA; have HD := hidE hd; have HX := hidE hx; have HKC := hidE hkc
        have k0 := hkc 0 (by rw [HN.out]; exact hcz)
        rw [Nat.add_zero] at k0
        clear hbA hd hx hb1 hKc hkc HKI p0 p1 p2 p3 p4 hk1 hk2
        clear k0
        go_wp2_with fail
        go_loopg [2, 15, 16, 17, 18] K.len (fun gh v2 v15 v16 v17 v18 wr => ∃ (D : List TI) (C : Fst) (oo : Nat) (X : List Pc) (fc : Int) (z0 z1 z2 : Value), z0 = v15 ∧ z1 = v17 ∧ z2 = v18 ∧ v16 = .int .i64 D.length ∧ v2 = .int .i64 fc ∧ C.len ≤ gh ∧ ShI l [] y K o D C oo ∧ X ++ leastF C oo kd j fc = leastF K (o + 1) kd j fm ∧ (-4611686018427387904 ≤ fc ∧ fc + 4096 * ((C.size : Int) + 1) ≤ 4611686018427387904) ∧ Below w1.heap.size w1 wr ∧ wr.ownsRow w1.heap.size 54 2 z0 X.length (cellsOfV X))
        case atStart => exact ⟨[], K, o + 1, [], fm, .slice none 0 0, undef, undef, rfl, rfl, rfl, rfl, rfl, Nat.le_refl _, HSI.out, rfl, HFM.out, Below.refl _ _, own_nil _ _ _⟩
        case round =>
          clear HSI x0 xz
          obtain ⟨D, C, oo, X, fc, z0, z1, z2, rfl, rfl, rfl, rfl, rfl, hgh, hI, hX, hfc, hbw, hown⟩ := hrel
          have HGH := hidE hgh; have HI := hidE hI; have HBW := hidE hbw; have HXX := hidE hX; have HFC := hidE hfc; have HO := hidE hown
          have HB2 := hidE (HB.out.trans (hbw.mono HB.out.size))
          have HD2 := hidE (HD.out.past hbw)
          have HX2 := hidE (HX.out.past hbw)
          have e0 := HD2.out.cell 0; have e1 := HD2.out.cell 1; have e2 := HD2.out.cell 2; have dz := HD2.out.lt
          have x0 := HX2.out.cell 0; have xz := HX2.out.lt
          simp at e0 e1 e2 x0
          have hDC := hI.len
          clear hX hown hfc
          cases C with
          | nil =>
            have q1 : decide ((D.length : Int) < (K.len : Int)) = false := decide_eq_false (by simp only [Fst.len] at hDC; omega)
            have q2 : decide (D.length < K.len) = false := decide_eq_false (by simp only [Fst.len] at hDC; omega)
            have HXN := hidE (show X = leastF K (o + 1) kd j fm by have := HXX.out; simpa [leastF] using this)
            clear hgh hI hbw hDC HXX
            go_wp2
            go_ret
            exact ⟨_, rfl, by rw [← HXN.out]; exact sliVs_own HO.out, HB2.out⟩
          | cons x Kx N =>
            simp only [Fst.len] at hDC
            have q1 : decide ((D.length : Int) < (K.len : Int)) = true := decide_eq_true (by omega)
            have q2 : decide (D.length < K.len) = true := decide_eq_true (by omega)
            have q3 : D.length < K.len := by omega
            have k0 := (hbw.cell (p := ⟨bk, ok + D.length, none⟩) hbkz).trans (HKC.out D.length (by rw [HN.out]; exact q3))
            rw [hI.place] at k0
            have kz := Nat.lt_of_lt_of_le hbkz hbw.size
            obtain ⟨deep', ink', hfc⟩ := hI.fit
            have hf1 : (Fst.cons x Kx .nil).fit deep' ink' := ⟨hfc.1, hfc.2.1, hfc.2.2.1, hfc.2.2.2.1, trivial⟩
            have hsk := hI.siz
            have hfcb := HFC.out
            simp only [Fst.size] at hsk hfcb
            have HC := hidE (fun (w' : World) (h : Below w.heap.size w w') => IH.out x Kx oo deep' ink' fc w' (by omega) hI.atf.one hf1 (by omega) (HA.out.past h))
            have HSH := hidE (fun (w' : World) (h : Below w.heap.size w w') => HCH.out x Kx oo deep' ink' hI.atf.one hf1 w' h)
            have HIN := hidE hI.next
            have hlw := lenW_pos hf1
            have HNE := hidE (leastI_ne (o := oo) (fr := fc) hf1)
            have HX3 := hidE (show (X ++ leastI x Kx oo fc) ++ leastF N (oo + 1 + Kx.size) kd j (if kd = 4 then fc else fc + lenW x Kx) = leastF K (o + 1) kd j fm by rw [List.append_assoc, ← leastF_one _ _ _ _ _ _ _ c3]; exact HXX.out)
            have hxl : X.length + (leastI x Kx oo fc).length ≤ 64 := by
              have h1 := congrArg List.length HX3.out
              rw [List.length_append, List.length_append] at h1
              have h2 := HT.out
              omega
            have HXL := hidE hxl
            obtain ⟨lw, hlww⟩ : ∃ lw, lenW x Kx = lw := ⟨_, rfl⟩
            rw [hlww] at HSH hlw HX3
            have hw1 : -9223372036854775808 ≤ fc + lw := by omega
            have hw2 : fc + lw ≤ 9223372036854775807 := by omega
            have HF4 := hidE (show -4611686018427387904 ≤ fc ∧ fc + 4096 * ((N.size : Int) + 1) ≤ 4611686018427387904 by omega)
            have HF5 := hidE (show -4611686018427387904 ≤ fc + lw ∧ fc + lw + 4096 * ((N.size : Int) + 1) ≤ 4611686018427387904 by omega)
            obtain ⟨Lx, hLx⟩ : ∃ Lx, leastI x Kx oo fc = Lx := ⟨_, rfl⟩
            rw [hLx] at HC HNE HX3 HXL
            clear hgh hI hfc hf1 hlww hLx HXX HFC hfcb hsk hlw hxl hbw
            obtain ⟨wo, rfl⟩ : ∃ wo : World, wo = wr := ⟨_, rfl⟩
            have hzw := HB2.out.size
            go_wp2_with fail
            refine wp_region_J 7 [0] (nthR [detR z0, detR (.agg #[.int .i64 fr, .int .i64 to', .slice (some ⟨b, off, none⟩) l.length cap]), detR (.slice (some ⟨bk, ok, none⟩) K.len ck), detR (.int .i64 D.length), detR (.pointer (some ⟨bk, ok + D.length, none⟩)), detR (.int .i64 oo), detR (.int .i64 fc)]) (fun _ => false) (by kernel_rfl) (by simp) (by kernel_rfl) (stab_nth (by simp [stab_det])) ?_ ?_ ?_
            · intro i o hi ho
              match i, hi with
              | 0, _ =>
                obtain rfl := Option.some.inj ho
                intro u x hd
                have hc := Past.cell x
                simp [go_sem, gives, frm, Act.put, nthR, detR, Region.wanted, Below.refl]
              | 1, _ =>
                obtain rfl := Option.some.inj ho
                intro u x hd
                have hc := Past.cell x
                simp [go_sem, gives, frm, Act.put, nthR, detR, Region.wanted, Below.refl, hc, e0, e1, e2, dz]
              | 2, _ =>
                obtain rfl := Option.some.inj ho
                intro u x hd
                have hc := Past.cell x
                simp [go_sem, gives, frm, Act.put, nthR, detR, Region.wanted, Below.refl]
              | 3, _ =>
                obtain rfl := Option.some.inj ho
                intro u x hd
                have hc := Past.cell x
                simp [go_sem, gives, frm, Act.put, nthR, detR, Region.wanted, Below.refl]
              | 4, _ =>
                obtain rfl := Option.some.inj ho
                intro u x hd
                have hc := Past.cell x
                have d2 := hd 2 (by decide) (by kernel_rfl)
                have d3 := hd 3 (by decide) (by kernel_rfl)
                simp only [nthR, detR, List.getD_cons_zero, List.getD_cons_succ] at d2 d3
                simp [go_sem, gives, frm, Act.put, nthR, detR, Region.wanted, Below.refl, d2, d3, q3]
              | 5, _ =>
                obtain rfl := Option.some.inj ho
                intro u x hd
                have hc := Past.cell x
                have d4 := hd 4 (by decide) (by kernel_rfl)
                simp only [nthR, detR, List.getD_cons_zero, List.getD_cons_succ] at d4
                simp [go_sem, gives, frm, Act.put, nthR, detR, Region.wanted, Below.refl, hc, d4, k0, kz]
              | 6, _ =>
                obtain rfl := Option.some.inj ho
                intro u x hd
                have hc := Past.cell x
                simp [go_sem, gives, frm, Act.put, nthR, detR, Region.wanted, Below.refl]
              | i + 7, h => exact absurd h (by omega)
            · intro i o hx ho
              simp only [List.mem_cons, List.not_mem_nil, or_false] at hx
              rcases hx with rfl
              · obtain rfl := Option.some.inj ho
                refine ⟨rfl, fun _ _ _ _ h => h, fun u x hd => ?_⟩
                refine ⟨rfl, z0, rfl, fun w' => ?_⟩
                simp [go_sem, frm, Act.put]
            · intro u x' hu hne
              have d0 := hu 0 (by decide); have d1 := hu 1 (by decide); have d5 := hu 5 (by decide); have d6 := hu 6 (by decide)
              simp only [nthR, detR, List.getD_cons_zero, List.getD_cons_succ] at d0 d1 d5 d6
              have HY := hidE (x'.2)
              clear hu hne e0 e1 e2 dz x0 xz
              simp only [frm, List.take, Act.put, d0, d1, d5, d6]
              clear d0 d1 d5 d6
              replace k0 := (HY.out.cell (p := ⟨bk, ok + D.length, none⟩) kz).trans k0
              replace kz := Nat.lt_of_lt_of_le kz HY.out.size
              replace HBW := hidE (HBW.out.trans (HY.out.mono HBW.out.size))
              replace HB2 := hidE (HB2.out.trans (HY.out.mono HB2.out.size))
              replace HD2 := hidE (HD2.out.past HY.out)
              replace HX2 := hidE (HX2.out.past HY.out)
              replace HO := hidE (own_below HO.out HY.out)
              clear HY
              generalize x'.1 = w5 at *
              by_cases c4 : kd = 4
              · have s4 : ((kd : Int) != 4) = false := by simp; omega
                have s4' : (kd != 4) = false := by simp; exact c4
                rw [if_pos c4] at HX3
                clear c4
                go_wp2_with fail
                ((with_reducible refine (HC.out _ HB2.out).mono ?_); rintro e w6 ⟨v6, rfl, hv6, hb6⟩)
                replace k0 := (hb6.cell (p := ⟨bk, ok + D.length, none⟩) kz).trans k0
                replace kz := Nat.lt_of_lt_of_le kz hb6.size
                replace HBW := hidE (HBW.out.trans (hb6.mono HBW.out.size))
                replace HB2 := hidE (HB2.out.trans (hb6.mono HB2.out.size))
                replace HD2 := hidE (HD2.out.past hb6)
                replace HX2 := hidE (HX2.out.past hb6)
                replace HO := hidE (own_below HO.out hb6)
                have HSV := hidE (hv6.src HNE.out)
                clear hb6 hv6 HC
                have hsz := HBW.out.size
                go_wp2_with (at_builtin; refine list_appV rfl (.tmp 79) (.tmp 86) 25 rfl w1.heap.size 54 ip (.agg #[.int .i64 0, .int .i64 0]) 2 16 Try.underlying25 HIP.out HZ0.out HZ1.out HZ2.out rfl (by decide) _ _ _ rfl HO.out _ _ _ rfl HSV.out (by have := HXL.out; omega) (by omega) hsz ?_; intro v7 w7 hown7 hgrow7; (have hb7 : Below w1.heap.size w1 w7 := Below.grown HBW.out hgrow7 hsz (fun k hk => own_block HO.out hk)); (rw [← cellsOfV_app, ← List.length_append] at hown7); (have hdx : ∀ {q : Nat} {cs : Array Value} {t : TypeId}, Blk w6 q cs t → q < w1.heap.size → Blk w7 q cs t := fun h hq => h.grown hgrow7 (fun e => by have := own_block HO.out e.symm; omega)); (have HD3 := hidE (hdx HD2.out HD.out.lt)); (have HX4 := hidE (hdx HX2.out HX.out.lt)); (have HB7 := hidE hb7; have HO7 := hidE hown7); (have HB8 := hidE (HB.out.trans (hb7.mono HB.out.size))); (have k7 : w7.cell? ⟨bk, ok + D.length, none⟩ = some (.int .i64 oo) := (hb7.cell (p := ⟨bk, ok + D.length, none⟩) hbkz).trans ((HBW.out.cell (p := ⟨bk, ok + D.length, none⟩) hbkz).symm.trans k0)); (have kz7 := Nat.lt_of_lt_of_le hbkz hb7.size); (have e0 := HD3.out.cell 0; have e1 := HD3.out.cell 1; have e2 := HD3.out.cell 2; have dz := HD3.out.lt); (have x0 := HX4.out.cell 0; have xz := HX4.out.lt); (simp at e0 e1 e2 x0))
                clear hb7 hown7 hgrow7 hdx k0 kz HD2 HX2 HO HBW HB2
                go_wp2
                go_roundg N.len
                case measure => have := HGH.out; simp only [Fst.len] at this; omega
                case rel => exact ⟨D ++ [satI [] x Kx oo], N, _, X ++ Lx, fc, _, _, _, rfl, rfl, rfl, by simp, rfl, Nat.le_refl _, HIN.out, HX3.out, HF4.out, HB7.out, HO7.out⟩
              · have s4 : ((kd : Int) != 4) = true := by simp; omega
                have s4' : (kd != 4) = true := by simp; exact c4
                rw [if_neg c4] at HX3
                clear c4
                go_wp2_with fail
                ((with_reducible refine (HC.out _ HB2.out).mono ?_); rintro e w6 ⟨v6, rfl, hv6, hb6⟩)
                replace k0 := (hb6.cell (p := ⟨bk, ok + D.length, none⟩) kz).trans k0
                replace kz := Nat.lt_of_lt_of_le kz hb6.size
                replace HBW := hidE (HBW.out.trans (hb6.mono HBW.out.size))
                replace HB2 := hidE (HB2.out.trans (hb6.mono HB2.out.size))
                replace HD2 := hidE (HD2.out.past hb6)
                replace HX2 := hidE (HX2.out.past hb6)
                replace HO := hidE (own_below HO.out hb6)
                have HSV := hidE (hv6.src HNE.out)
                clear hb6 hv6 HC
                have hsz := HBW.out.size
                go_wp2_with (at_builtin; refine list_appV rfl (.tmp 79) (.tmp 86) 25 rfl w1.heap.size 54 ip (.agg #[.int .i64 0, .int .i64 0]) 2 16 Try.underlying25 HIP.out HZ0.out HZ1.out HZ2.out rfl (by decide) _ _ _ rfl HO.out _ _ _ rfl HSV.out (by have := HXL.out; omega) (by omega) hsz ?_; intro v7 w7 hown7 hgrow7; (have hb7 : Below w1.heap.size w1 w7 := Below.grown HBW.out hgrow7 hsz (fun k hk => own_block HO.out hk)); (rw [← cellsOfV_app, ← List.length_append] at hown7); (have hdx : ∀ {q : Nat} {cs : Array Value} {t : TypeId}, Blk w6 q cs t → q < w1.heap.size → Blk w7 q cs t := fun h hq => h.grown hgrow7 (fun e => by have := own_block HO.out e.symm; omega)); (have HD3 := hidE (hdx HD2.out HD.out.lt)); (have HX4 := hidE (hdx HX2.out HX.out.lt)); (have HB7 := hidE hb7; have HO7 := hidE hown7); (have HB8 := hidE (HB.out.trans (hb7.mono HB.out.size))); (have k7 : w7.cell? ⟨bk, ok + D.length, none⟩ = some (.int .i64 oo) := (hb7.cell (p := ⟨bk, ok + D.length, none⟩) hbkz).trans ((HBW.out.cell (p := ⟨bk, ok + D.length, none⟩) hbkz).symm.trans k0)); (have kz7 := Nat.lt_of_lt_of_le hbkz hb7.size); (have e0 := HD3.out.cell 0; have e1 := HD3.out.cell 1; have e2 := HD3.out.cell 2; have dz := HD3.out.lt); (have x0 := HX4.out.cell 0; have xz := HX4.out.lt); (simp at e0 e1 e2 x0))
                clear hb7 hown7 hgrow7 hdx k0 kz HD2 HX2 HO HBW HB2
                go_upto_region 21 with fail
                refine wp_region_past_lit (by kernel_rfl) (by kernel_rfl) ?_
                have hcp := Past.cell (W := w7)
                repeat (go_big_quiet_step ((go_at_call 13; exact Past.call _ (HSH.out _ (HB8.out.trans ((Past.prop _).mono HB8.out.size))))))
                refine wpQuiet_nil ?_
                rintro _ ⟨x', rfl⟩
                replace HO7 := hidE (own_below HO7.out x'.2)
                replace HB7 := hidE (HB7.out.trans (x'.2.mono HB7.out.size))
                clear hcp e0 e1 e2 dz x0 xz k7 kz7 HSH
                generalize x'.1 = w8 at *
                go_wp2
                go_roundg N.len
                case measure => have := HGH.out; simp only [Fst.len] at this; omega
                case rel => exact ⟨D ++ [satI [] x Kx oo], N, _, X ++ Lx, fc + lw, _, _, _, rfl, rfl, rfl, by simp, by go_num, Nat.le_refl _, HIN.out, HX3.out, HF5.out, HB7.out, HO7.out⟩
end Go.Proofs.Ytlhokgcamcaonaa

namespace Go.Proofs.Ytlhokgcamcaonaa

def Long (k : TI) : Prop := ∃ s e, k.se = some (s, e) ∧ k.len ≤ e - s
theorem place_long (W : List Pc) (o : Nat) (d : Int) : ∀ s e, placeI W o d = some (s, e) → d ≤ e - s := by
  have : ∀ (W : List Pc) (a : Se), (∀ s e, a = some (s, e) → d ≤ e - s) → ∀ s e, W.foldl (fun s p => if p.1 = (o : Int) then jn s (some (p.2, p.2 + d)) else s) a = some (s, e) → d ≤ e - s := by
    intro W
    induction W with
    | nil => intro a h; exact h
    | cons p W ih =>
      intro a h s e
      rw [List.foldl_cons]
      refine ih _ ?_ s e
      intro s e
      split
      · cases a with
        | none => simp only [jn_none, Option.some.injEq, Prod.mk.injEq]; omega
        | some q =>
          have := h q.1 q.2 rfl
          simp only [jn, Option.some.injEq, Prod.mk.injEq]; omega
      · exact h s e
  exact this W none (fun s e h => by cases h)
/-- Children in order: from the first one's begin. -/
theorem chain_long : ∀ (ks : List TI), ks ≠ [] → (∀ k ∈ ks, Long k ∧ 1 ≤ k.len) → adjI (fun e b => decide (e ≤ b)) ks = true → ∃ e, endsI ks = some (seB ((ks.head?.map TI.se).getD none), e) ∧ sumI ks ≤ e - seB ((ks.head?.map TI.se).getD none)
  | [], h, _, _ => absurd rfl h
  | [k], _, h, _ => by
    obtain ⟨⟨s, e, h1, h2⟩, h3⟩ := h k (by simp)
    refine ⟨e, ?_, ?_⟩
    · rw [endsI_cons]
      have e0 : endsI [] = none := rfl
      simp [e0, h1, seB]
    · rw [sumI_cons4]
      have e2 : sumI [] = 0 := rfl
      simp [h1, seB, e2]; omega
  | k :: k2 :: r, _, h, ha => by
    simp only [adjI, Bool.and_eq_true, decide_eq_true_eq] at ha
    obtain ⟨e', i1, i2⟩ := chain_long (k2 :: r) (by simp) (fun q hq => h q (List.mem_cons_of_mem _ hq)) ha.2
    obtain ⟨⟨s, e, h1, h2⟩, h3⟩ := h k (by simp)
    have hs : 0 ≤ sumI (k2 :: r) := by
      rw [sumI_map]
      exact (sumL_ge fun x hx => by
        obtain ⟨q, hq, rfl⟩ := List.mem_map.1 hx
        exact (h q (List.mem_cons_of_mem _ hq)).2).1
    simp only [List.head?_cons, Option.map_some, Option.getD_some] at i1 i2 ⊢
    have hk := ha.1
    rw [h1] at hk
    simp only [seE] at hk
    refine ⟨e', ?_, ?_⟩
    · rw [endsI_cons, i1, h1]
      simp only [jn, seB, Option.some.injEq, Prod.mk.injEq]
      simp only [seB] at i2 hk
      omega
    · rw [sumI_cons4, h1]
      simp only [seB] at i2 hk ⊢
      omega
theorem jn_in {a : Se} {s e s' e' : Int} (h : jn (some (s, e)) a = some (s', e')) : s' ≤ s ∧ e ≤ e' := by
  cases a with
  | none => simp only [jn_none', Option.some.injEq, Prod.mk.injEq] at h; omega
  | some q => simp only [jn, Option.some.injEq, Prod.mk.injEq] at h; omega
theorem ends_inI : ∀ {ks : List TI} {k : TI} {s e : Int}, k ∈ ks → k.se = some (s, e) → ∃ s' e', endsI ks = some (s', e') ∧ s' ≤ s ∧ e ≤ e'
  | q :: ks, k, s, e, hk, hs => by
    rw [endsI_cons]
    rcases List.mem_cons.1 hk with rfl | hk
    · rw [hs]
      cases hj : jn (some (s, e)) (endsI ks) with
      | none => cases h2 : endsI ks <;> rw [h2] at hj <;> simp [jn] at hj
      | some p => exact ⟨p.1, p.2, rfl, jn_in hj⟩
    · obtain ⟨s', e', h1, h2, h3⟩ := ends_inI hk hs
      rw [h1, jn_comm]
      cases hj : jn (some (s', e')) q.se with
      | none => cases h2 : q.se <;> rw [h2] at hj <;> simp [jn] at hj
      | some p =>
        have := jn_in hj
        exact ⟨p.1, p.2, rfl, by omega, by omega⟩
theorem adj_le : ∀ (ks : List TI), adjI (fun e b => decide (e = b)) ks = true → adjI (fun e b => decide (e ≤ b)) ks = true
  | [], _ => rfl
  | [_], _ => rfl
  | a :: b :: r, h => by
    simp only [adjI, Bool.and_eq_true, decide_eq_true_eq] at h ⊢
    exact ⟨by omega, adj_le (b :: r) h.2⟩
theorem ok_long (W : List Pc) : ∀ (F : Fst) (o deep ink : Nat), F.fit deep ink → ∀ k ∈ satF W F o, k.ok = true → Long k
  | .nil, _, _, _, _, k, hk, _ => by cases hk
  | .cons x K N, o, deep, ink, hf, k, hk, ho => by
    obtain ⟨f1, f2, f3, f4, f5⟩ := hf
    rw [satF] at hk
    rcases List.mem_cons.1 hk with rfl | hk
    · have hkk := badP_kids f1
      have hnum := badP_num f1
      have ih := ok_long W K (o + 1) _ _ f4
      have hp := sat_lens_pos (W := W) (o := o + 1) f4
      have hl : x.kind ≠ 0 → satF W K (o + 1) ≠ [] := fun c e => by
        have := satF_len W K (o + 1)
        rw [e] at this
        have := hkk.2 c
        simp at *; omega
      generalize satF W K (o + 1) = ks at *
      unfold Long mkI lenI
      simp only
      unfold mkI okI at ho
      simp only at ho
      by_cases c : x.kind = 0
      · simp only [if_pos c] at ho ⊢
        cases hs : placeI W o x.d with
        | none => rw [hs] at ho; cases ho
        | some p => exact ⟨p.1, p.2, rfl, place_long _ _ _ _ _ hs⟩
      · simp only [if_neg c] at ho ⊢
        have hne := hl c
        have hall : allI ks = true → ∀ k ∈ ks, Long k ∧ 1 ≤ k.len := fun ha k hk => by
          unfold allI at ha; rw [List.all_eq_true] at ha
          exact ⟨ih k hk (ha k hk), hp k hk⟩
        by_cases c1 : x.kind = 1
        · rw [if_pos c1, Bool.and_eq_true] at ho
          obtain ⟨e, h1, h2⟩ := chain_long ks hne (hall ho.2) ho.1
          rw [if_neg (by omega), if_neg (by omega)]
          exact ⟨_, _, h1, h2⟩
        · rw [if_neg c1] at ho
          by_cases c2 : x.kind = 2
          · rw [if_pos c2, Bool.and_eq_true] at ho
            obtain ⟨e, h1, h2⟩ := chain_long ks hne (hall ho.2) (adj_le _ ho.1)
            rw [if_neg (by omega), if_neg (by omega)]
            exact ⟨_, _, h1, h2⟩
          · rw [if_neg c2] at ho
            by_cases c3 : x.kind = 3
            · rw [if_pos c3] at ho ⊢
              unfold anyI at ho
              split at ho
              · rename_i q hq
                have hm : q ∈ ks.filter fun k => k.se.isSome := by rw [hq]; simp
                rw [List.mem_filter] at hm
                obtain ⟨s, e, h1, h2⟩ := ih q hm.1 ho
                refine ⟨s, e, (any_ends _ _ hq).trans h1, ?_⟩
                have : minI ks ≤ q.len := by
                  unfold minI
                  have := (foldl_min (ks.map TI.len) ((ks.head?.map TI.len).getD 0)).2.1 q.len (List.mem_map_of_mem hm.1)
                  rw [List.foldl_map] at this
                  exact this
                omega
              · cases ho
            · rw [if_neg c3] at ho ⊢
              have c4 : x.kind = 4 := by have := hnum.1; simp only at this; omega
              rw [if_pos c4]
              obtain ⟨b, r, rfl⟩ : ∃ b r, ks = b :: r := by
                cases ks with
                | nil => exact absurd rfl hne
                | cons b r => exact ⟨b, r, rfl⟩
              have hm : ∃ k ∈ b :: r, maxI (b :: r) = k.len := by
                unfold maxI
                have := (foldl_max ((b :: r).map TI.len) (((b :: r).head?.map TI.len).getD 0)).2.2
                rw [List.foldl_map] at this
                rcases this with h | h
                · exact ⟨b, by simp, h⟩
                · obtain ⟨k, hk, e⟩ := List.mem_map.1 h
                  exact ⟨k, hk, e.symm⟩
              obtain ⟨k, hk, e⟩ := hm
              obtain ⟨⟨s, t, h1, h2⟩, _⟩ := hall ho k hk
              obtain ⟨s', e', h3, h4, h5⟩ := ends_inI hk h1
              exact ⟨s', e', h3, by omega⟩
    · exact ok_long W N (o + 1 + K.size) _ _ f5 k hk ho

def shP (d : Int) (p : Pc) : Pc := (p.1, p.2 + d)
def shS (d : Int) (s : Se) : Se := s.map fun a => (a.1 + d, a.2 + d)
theorem shS_jn (d : Int) (s t : Se) : shS d (jn s t) = jn (shS d s) (shS d t) := by
  cases s with
  | none => simp [shS]
  | some a =>
    cases t with
    | none => simp [shS]
    | some b => simp only [shS, jn, Option.map_some, Option.some.injEq, Prod.mk.injEq]; omega
theorem place_sh (d : Int) (o : Nat) (n : Int) (W : List Pc) : placeI (W.map (shP d)) o n = shS d (placeI W o n) := by
  have : ∀ (W : List Pc) (s : Se), (W.map (shP d)).foldl (fun s p => if p.1 = (o : Int) then jn s (some (p.2, p.2 + n)) else s) (shS d s) = shS d (W.foldl (fun s p => if p.1 = (o : Int) then jn s (some (p.2, p.2 + n)) else s) s) := by
    intro W
    induction W with
    | nil => intro s; rfl
    | cons p W ih =>
      intro s
      rw [List.map_cons, List.foldl_cons, List.foldl_cons, ← ih]
      congr 1
      unfold shP
      simp only
      split
      · rw [shS_jn]
        congr 1
        show some (p.2 + d, p.2 + d + n) = some (p.2 + d, p.2 + n + d)
        rw [show p.2 + d + n = p.2 + n + d by omega]
      · rfl
  exact this W none
/-- The same, later. -/
structure ShE (d : Int) (k k' : TI) : Prop where
  len : k'.len = k.len
  se : k'.se = shS d k.se
  ok : k'.ok = k.ok
inductive ShL (d : Int) : List TI → List TI → Prop
  | nil : ShL d [] []
  | cons {k k' : TI} {r r' : List TI} : ShE d k k' → ShL d r r' → ShL d (k :: r) (k' :: r')
theorem shl_ends {d : Int} {ks ks' : List TI} (h : ShL d ks ks') : endsI ks' = shS d (endsI ks) := by
  induction h with
  | nil => rfl
  | cons h1 _ ih => rw [endsI_cons, endsI_cons, ih, h1.se, shS_jn]
theorem shl_lens {d : Int} {ks ks' : List TI} (h : ShL d ks ks') : ks'.map TI.len = ks.map TI.len := by
  induction h with
  | nil => rfl
  | cons h1 _ ih => rw [List.map_cons, List.map_cons, ih, h1.len]
theorem shl_all {d : Int} {ks ks' : List TI} (h : ShL d ks ks') : allI ks' = allI ks := by
  unfold allI
  induction h with
  | nil => rfl
  | cons h1 _ ih => rw [List.all_cons, List.all_cons, ih, h1.ok]
theorem shl_any {d : Int} {ks ks' : List TI} (h : ShL d ks ks') : ShL d (ks.filter fun k => k.se.isSome) (ks'.filter fun k => k.se.isSome) := by
  induction h with
  | nil => exact .nil
  | cons h1 _ ih =>
    have e : ∀ s : Se, (shS d s).isSome = s.isSome := fun s => by cases s <;> rfl
    rw [List.filter_cons, List.filter_cons, h1.se, e]
    split
    · exact .cons h1 ih
    · exact ih
theorem shl_adj {d : Int} {f : Int → Int → Bool} (hf : ∀ x y, f (x + d) (y + d) = f x y) {ks ks' : List TI} (h : ShL d ks ks') : (∀ k ∈ ks, k.se ≠ none) → adjI f ks' = adjI f ks := by
  induction h with
  | nil => intro _; rfl
  | @cons k k' r r' h1 h2 ih =>
    intro hs
    have ih := ih fun q hq => hs q (List.mem_cons_of_mem _ hq)
    cases h2 with
    | nil => rfl
    | @cons q q' s s' g1 g2 =>
      simp only [adjI]
      rw [ih, h1.se, g1.se]
      have a1 := hs k (by simp)
      have a2 := hs q (by simp)
      cases e1 : k.se with
      | none => exact absurd e1 a1
      | some u =>
        cases e2 : q.se with
        | none => exact absurd e2 a2
        | some v => simp only [shS, Option.map_some, seE, seB, hf]
theorem satF_sh (d : Int) (W : List Pc) : ∀ (F : Fst) (o deep ink : Nat), F.fit deep ink → ShL d (satF W F o) (satF (W.map (shP d)) F o)
  | .nil, _, _, _, _ => .nil
  | .cons x K N, o, deep, ink, hf => by
    obtain ⟨f1, f2, f3, f4, f5⟩ := hf
    have hK := satF_sh d W K (o + 1) _ _ f4
    have hN := satF_sh d W N (o + 1 + K.size) _ _ f5
    have hse := ok_se W K (o + 1) _ _ f4
    rw [satF, satF]
    refine .cons ?_ hN
    generalize satF W K (o + 1) = ks at *
    generalize satF (W.map (shP d)) K (o + 1) = ks' at *
    have he := shl_ends hK
    have hl := shl_lens hK
    have ha := shl_all hK
    refine ⟨?_, ?_, ?_⟩
    · unfold mkI; simp only
      rw [lenI_map, lenI_map, hl]
    · unfold mkI; simp only
      rw [he, place_sh]; split <;> rfl
    · unfold mkI okI; simp only
      rw [he, place_sh, ha]
      by_cases c : x.kind = 0
      · simp only [if_pos c]
        cases placeI W o x.d <;> rfl
      · simp only [if_neg c]
        have adj : ∀ f : Int → Int → Bool, (∀ x y, f (x + d) (y + d) = f x y) → (adjI f ks' && allI ks) = (adjI f ks && allI ks) := fun f hf => by
          cases h : allI ks
          · simp
          · rw [shl_adj hf hK fun k hk => hse k hk (by unfold allI at h; rw [List.all_eq_true] at h; exact h k hk)]
        by_cases c1 : x.kind = 1
        · simp only [if_pos c1]
          exact adj _ fun x y => by rw [decide_eq_decide]; omega
        · simp only [if_neg c1]
          by_cases c2 : x.kind = 2
          · simp only [if_pos c2]
            exact adj _ fun x y => by rw [decide_eq_decide]; omega
          · simp only [if_neg c2]
            by_cases c3 : x.kind = 3
            · simp only [if_pos c3]
              have h := shl_any hK
              unfold anyI
              revert h
              generalize (ks.filter fun k => k.se.isSome) = u
              generalize (ks'.filter fun k => k.se.isSome) = u'
              intro h
              cases h with
              | nil => rfl
              | cons g1 g2 =>
                cases g2 with
                | nil => simp only [g1.ok]
                | cons _ _ => rfl
            · simp only [if_neg c3]
theorem satI_sh (d : Int) (W : List Pc) {x : Prt} {K : Fst} {o deep ink : Nat} (hf : (Fst.cons x K .nil).fit deep ink) : ShE d (satI W x K o) (satI (W.map (shP d)) x K o) := by
  have := satF_sh d W (.cons x K .nil) o deep ink hf
  rw [satF_cons, satF_cons] at this
  cases this with
  | cons h _ => exact h
end Go.Proofs.Ytlhokgcamcaonaa

namespace Go.Proofs.Ytlhokgcamcaonaa

theorem least_atoms {l : List Prt} : ∀ (F : Fst) (o deep ink : Nat), AtF l o F → F.fit deep ink → ∀ (md j : Nat) (fr : Int), Atoms l (leastF F o md j fr)
  | .nil, _, _, _, _, _, _, _, _ => fun p hp => by simp [leastF] at hp
  | .cons x K N, o, deep, ink, hat, hf, md, j, fr => by
    obtain ⟨f1, f2, f3, f4, f5⟩ := hf
    have own : ∀ fr, Atoms l (leastI x K o fr) := fun fr => by
      unfold leastI leastO
      split
      · rename_i c
        intro p hp
        simp only [List.mem_singleton] at hp
        subst hp
        have h1 := hat.lt
        have h2 := hat.head
        refine ⟨by simp only; omega, by simp only; omega, ?_⟩
        simp only [Int.toNat_natCast]
        rw [List.getD_eq_getElem?_getD, h2]
        exact c
      · exact least_atoms K (o + 1) _ _ hat.kids f4 _ _ _
    by_cases h3 : md = 3
    · subst h3
      cases j with
      | zero => rw [leastF_any0]; exact own fr
      | succ j => rw [leastF_anyS]; exact least_atoms N _ _ _ hat.next f5 _ _ _
    · rw [leastF_one _ _ _ _ _ _ _ h3]
      intro p hp
      rcases List.mem_append.1 hp with hp | hp
      · exact own fr p hp
      · exact least_atoms N _ _ _ hat.next f5 _ _ _ p hp
end Go.Proofs.Ytlhokgcamcaonaa

namespace Go.Proofs.Ytlhokgcamcaonaa
open Go.ChangeShapes Go.WideShapes Go.ChangeAt Go.RowKit
attribute [local irreducible] Go.Calls

theorem far_moved {W : List Pc} {d : Int} (h : ∀ p ∈ W, -1099511627776 ≤ p.2 + d ∧ p.2 + d ≤ 1099511627776) : farB (W.map (shP d)) = false := by
  unfold farB
  rw [List.any_eq_false]
  intro p hp
  obtain ⟨q, hq, rfl⟩ := List.mem_map.1 hp
  have := h q hq
  unfold isFarB shP
  simp only [Bool.or_eq_true, decide_eq_true_eq]
  omega
theorem pcs_moved {l : List Prt} {d : Int} : ∀ {W : List Pc} {last : Int}, pcsB l last (W.map (shP d)) = pcsB l last W
  | [], _ => rfl
  | p :: W, last => by
    simp only [List.map_cons, pcsB]
    rw [pcs_moved (W := W)]
    rfl
theorem wrong_moved {fr to' : Int} {l : List Prt} {W : List Pc} {d : Int} {b : Bool} (h : wrongS fr to' l b W = 0) (hm : ∀ p ∈ W, -1099511627776 ≤ p.2 + d ∧ p.2 + d ≤ 1099511627776) : wrongS fr to' l b (W.map (shP d)) = 0 := by
  obtain ⟨h1, h2, h3, h4⟩ := wrong_zero h
  unfold wrongS
  rw [if_neg (by omega), if_neg (by rw [h2, pcs_moved, h3]; simp), if_neg (by rw [far_moved hm]; simp)]
theorem pcs_of {l : List Prt} : ∀ {W : List Pc} {last : Int}, Atoms l W → W.Pairwise (fun a b => a.1 < b.1) → (∀ p ∈ W, last < p.1) → pcsB l last W = true
  | [], _, _, _, _ => rfl
  | p :: W, last, hA, hP, hl => by
    obtain ⟨a1, a2, a3⟩ := hA p (by simp)
    obtain ⟨b1, b2⟩ := List.pairwise_cons.1 hP
    simp only [pcsB, Bool.and_eq_true, decide_eq_true_eq]
    exact ⟨hl p (by simp), a2, a3, pcs_of (fun q hq => hA q (List.mem_cons_of_mem _ hq)) b2 fun q hq => b1 q hq⟩
/-- The times of the pieces of shortest terms. -/
theorem least_times : ∀ (F : Fst) (o deep ink : Nat), F.fit deep ink → ∀ (md j : Nat) (fr : Int), ∀ p ∈ leastF F o md j fr, fr ≤ p.2 ∧ p.2 ≤ fr + 4096 * (F.size : Int)
  | .nil, _, _, _, _, _, _, _, p, hp => by simp [leastF] at hp
  | .cons x K N, o, deep, ink, hf, md, j, fr, p, hp => by
    have hf0 : (Fst.cons x K .nil).fit deep ink := ⟨hf.1, hf.2.1, hf.2.2.1, hf.2.2.2.1, trivial⟩
    obtain ⟨f1, f2, f3, f4, f5⟩ := hf
    have hw := lenW_pos hf0
    have own : ∀ fr, ∀ p ∈ leastI x K o fr, fr ≤ p.2 ∧ p.2 ≤ fr + 4096 * (K.size : Int) := fun fr p hp => by
      unfold leastI leastO at hp
      split at hp
      · simp only [List.mem_singleton] at hp
        subst hp
        simp only; omega
      · exact least_times K (o + 1) _ _ f4 _ _ _ p hp
    simp only [Fst.size]
    by_cases h3 : md = 3
    · subst h3
      cases j with
      | zero => rw [leastF_any0] at hp; have := own fr p hp; omega
      | succ j => rw [leastF_anyS] at hp; have := least_times N _ _ _ f5 3 j fr p hp; omega
    · rw [leastF_one _ _ _ _ _ _ _ h3] at hp
      rcases List.mem_append.1 hp with hp | hp
      · have := own fr p hp; omega
      · have := least_times N _ _ _ f5 md j _ p hp
        split at this <;> omega
theorem leastI_times {x : Prt} {K : Fst} {o deep ink : Nat} {fr : Int} (hf : (Fst.cons x K .nil).fit deep ink) : ∀ p ∈ leastI x K o fr, fr ≤ p.2 ∧ p.2 ≤ fr + 4096 * ((K.size : Int) + 1) := fun p hp => by
  rw [← leastF_any0 x K .nil] at hp
  have := least_times _ _ _ _ hf _ _ _ p hp
  simp only [Fst.size] at this
  omega
/-- The pieces of the shortest whole can be looked at. -/
theorem wrong_least {fr to' : Int} {l : List Prt} {y : Prt} {K : Fst} {deep ink : Nat} {fm : Int} (hck : (chkS fr to' l).2 = 0) (hat : AtF l 0 (.cons y K .nil)) (hf : (Fst.cons y K .nil).fit deep ink) (hfm : -1000000000000 ≤ fm ∧ fm ≤ 1000000000000) {b : Bool} (hb : b = true) : wrongS fr to' l b (leastI y K 0 fm) = 0 := by
  have hl := (chk_ok hck).2.2.2.2
  have hs := at_size hat
  have hA : Atoms l (leastI y K 0 fm) := by rw [← leastF_any0 y K .nil]; exact least_atoms _ _ _ _ hat hf _ _ _
  have hin := leastI_in y K 0 fm
  unfold wrongS
  rw [if_neg (by omega), if_neg (by rw [hb, pcs_of hA hin.2 fun p hp => by have := (hin.1 p hp).1; omega]; simp), if_neg]
  rw [Bool.not_eq_true]
  unfold farB
  rw [List.any_eq_false]
  intro p hp
  have := leastI_times hf p hp
  unfold isFarB
  simp only [Bool.or_eq_true, decide_eq_true_eq]
  omega

end Go.Proofs.Ytlhokgcamcaonaa
