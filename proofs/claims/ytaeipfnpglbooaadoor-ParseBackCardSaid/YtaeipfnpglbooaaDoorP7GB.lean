/- The reader of tokens: what it holds, and the contracts of its small methods (take, word, number, nothing). No conditions. Terms as the program reads them: what follows a term goes on just where a bracket opens; that the answers are the same. No program. No conditions. The contract of the reader's method kind: the kind that a word says. No conditions. The contracts of the reader's operands, some and term: terms are read as the document says, or abandoned. No conditions. The contract of the reader's method term: a term is read as the document says, or abandoned. No conditions. The deferred closure of definition: what it does of a panic (it lays the results), and where there is none (nothing). No conditions. The contracts of package lex's functions of one byte: isLetter, isDigit, class, inRun; and apart. No conditions. The contracts of package lex's functions of one run: Word, Number, behind. No conditions but the text's length. -/
import Derived.Test.YtaeipfnpglbooaaDoorP7GA
import Derived.WalkLawsBesides
import Derived.Maps.AppendAt
import Derived.Defers
import Derived.Recover
import Derived.Test.YtaeipfnpglbooaaDoorP7MA
namespace Go.Proofs.YtaeipfnpglbooaaDoor
open Go.ChangeShapes Go.WideShapes Go.ChangeAt Go.RowKit
attribute [local irreducible] Go.Calls

/-- Tokens that lie below a base. -/
def TokB (w : World) (B : Nat) (a : Option Addr) (l : List Tok) : Prop := 0 < l.length → ∃ b off, a = some ⟨b, off, none⟩ ∧ b < B ∧ CellsT w b off l
theorem TokB.below {w w' : World} {B : Nat} {a : Option Addr} {l : List Tok} (h : TokB w B a l) (hb : Below B w w') : TokB w' B a l := fun hl => by
  obtain ⟨b, off, e, h1, h2⟩ := h hl
  exact ⟨b, off, e, h1, h2.below hb h1⟩
theorem cellsT_tail {w : World} {b off : Nat} {t : Tok} {l : List Tok} (h : CellsT w b off (t :: l)) : CellsT w b (off + 4) l := fun i hi => by
  have := h (i + 1) (by simpa using hi)
  have e : ∀ j, off + (i + 1) * 4 + j = off + 4 + i * 4 + j := fun j => by omega
  rw [e 1, e 2, e 3, show off + (i + 1) * 4 = off + 4 + i * 4 by omega] at this
  exact this
/-- A reader in block r: the tokens left, the text's end, the depth, the parts so far. -/
structure RdI (B r : Nat) (l : List Tok) (en dep : Nat) (v : Value) (P : List Prt) (a : Option Addr) (cap : Nat) (w : World) : Prop where
  blk : Blk w r #[.slice a l.length cap, .int .i64 en, .int .i64 dep, v] 48
  tok : TokB w B a l
  cap1 : l.length ≤ cap
  cap2 : cap ≤ 9223372036854775807
  own : w.ownsRow B 41 5 v P.length (cellsOfP P)
  base : B ≤ r
  words : WordsAre w
  wlt : 0 < B
  nn : ∀ t ∈ l, 0 ≤ t.num
def Rd (B r : Nat) (l : List Tok) (en dep : Nat) (v : Value) (P : List Prt) (w : World) : Prop := ∃ a cap, RdI B r l en dep v P a cap w
/-- What a small method leaves: all but the reader's block. -/
def K1 (B r : Nat) (W w : World) : Prop := Below B W w ∧ ∀ k, k < W.heap.size → k ≠ r → w.heap[k]? = W.heap[k]?
theorem K1.refl (B r : Nat) (W : World) : K1 B r W W := ⟨Below.refl B W, fun _ _ _ => rfl⟩
theorem K1.trans {B r : Nat} {a b c : World} (h : K1 B r a b) (h2 : K1 B r b c) : K1 B r a c := ⟨h.1.trans h2.1, fun k hk hr => (h2.2 k (Nat.lt_of_lt_of_le hk h.1.size) hr).trans (h.2 k hk hr)⟩
theorem K1.blk {B r k : Nat} {W w : World} {cs : Array Value} {t : TypeId} (h : K1 B r W w) (hb : Blk W k cs t) (hk : k ≠ r) : Blk w k cs t := (h.2 k hb.lt hk).trans hb
theorem K1.size {B r : Nat} {W w : World} (h : K1 B r W w) : W.heap.size ≤ w.heap.size := h.1.size
theorem K1.of {B r : Nat} {W w : World} (h : Below W.heap.size W w) (hB : B ≤ W.heap.size) : K1 B r W w := ⟨h.mono hB, fun k hk _ => h.block k hk⟩
theorem K1.alloc {B r : Nat} {W w : World} (h : K1 B r W w) (hB : B ≤ W.heap.size) (o : Obj) : K1 B r W (w.alloc o) :=
  h.trans (K1.of (balloc (Below.refl _ _) o) (Nat.le_trans hB h.size))
theorem own_ne {w : World} {B r : Nat} {v : Value} {n : Nat} {xs : List Value} {cs : Array Value} (h : w.ownsRow B 41 5 v n xs) (hb : Blk w r cs 48) : v.ownBlock ≠ some r := by
  intro e
  obtain ⟨_, h2 | ⟨g, cap, cur, h3, h4, h5, _⟩⟩ := h
  · rw [h2.1] at e; simp [Value.ownBlock] at e
  · rw [h3] at e
    simp only [Value.ownBlock, Option.some.injEq] at e
    subst e
    have := h5.symm.trans hb
    simp at this
/-- A reader stays what it is where nothing of it is written. -/
theorem RdI.k1 {B r : Nat} {l : List Tok} {en dep : Nat} {v : Value} {P : List Prt} {a : Option Addr} {cap : Nat} {w w' : World} (h : RdI B r l en dep v P a cap w) (hk : K1 B r w w') {l' : List Tok} {a' : Option Addr} {cap' dep' : Nat}
    (hb : Blk w' r #[.slice a' l'.length cap', .int .i64 en, .int .i64 dep', v] 48) (ht : TokB w B a' l') (h1 : l'.length ≤ cap') (h2 : cap' ≤ 9223372036854775807) (hn : ∀ t ∈ l', 0 ≤ t.num) : RdI B r l' en dep' v P a' cap' w' :=
  ⟨hb, ht.below hk.1, h1, h2, own_kept h.own (fun k e => hk.2 k (own_lt h.own e) (fun e2 => own_ne h.own h.blk (by rw [e, e2]))), h.base, h.words.below hk.1 h.wlt, h.wlt, hn⟩

theorem k1_set {B r i : Nat} {W w : World} (h : K1 B r W w) (hr : B ≤ r) (v : Value) : K1 B r W (w.setCell ⟨r, i, none⟩ v) :=
  ⟨h.1.setCell (p := ⟨r, i, none⟩) hr v, fun k hk hkr => (keptS hkr v).trans (h.2 k hk hkr)⟩
theorem RdI.took {B r : Nat} {t : Tok} {l : List Tok} {en dep : Nat} {v : Value} {P : List Prt} {a a' : Option Addr} {cap cap' : Nat} {w : World} (h : RdI B r (t :: l) en dep v P a cap w) (hB : B ≤ w.heap.size) (ht : TokB w B a' l)
    (h1 : l.length ≤ cap') (h2 : cap' ≤ cap) (o o2 : Obj) : Rd B r l en dep v P (((w.setCell ⟨r, 0, none⟩ (.slice a' l.length cap')).alloc o).alloc o2) ∧ K1 B r w (((w.setCell ⟨r, 0, none⟩ (.slice a' l.length cap')).alloc o).alloc o2) := by
  have hk : K1 B r w (((w.setCell ⟨r, 0, none⟩ (.slice a' l.length cap')).alloc o).alloc o2) := ((k1_set (K1.refl B r w) h.base _).alloc hB o).alloc hB o2
  have hc2 := h.cap2
  have hbk : Blk (((w.setCell ⟨r, 0, none⟩ (.slice a' l.length cap')).alloc o).alloc o2) r #[.slice a' l.length cap', .int .i64 en, .int .i64 dep, v] 48 := by
    have := ((h.blk.set 0 (.slice a' l.length cap')).alloc o).alloc o2
    simpa using this
  exact ⟨⟨_, cap', h.k1 hk hbk (ht) h1 (by omega) (fun t ht => h.nn t (List.mem_cons_of_mem _ ht))⟩, hk⟩
theorem Rd.past {B r : Nat} {l : List Tok} {en dep : Nat} {v : Value} {P : List Prt} {w w' : World} (h : Rd B r l en dep v P w) (hB : B ≤ w.heap.size) (hb : Below w.heap.size w w') : Rd B r l en dep v P w' := by
  obtain ⟨a, cap, h⟩ := h
  exact ⟨a, cap, h.k1 (K1.of hb hB) (h.blk.past hb) h.tok h.cap1 h.cap2 h.nn⟩
theorem Rd.alloc {B r : Nat} {l : List Tok} {en dep : Nat} {v : Value} {P : List Prt} {w : World} (h : Rd B r l en dep v P w) (hB : B ≤ w.heap.size) (o : Obj) : Rd B r l en dep v P (w.alloc o) := h.past hB (balloc (Below.refl _ _) o)
/-- A token that can't be where it is. -/
abbrev pan (p e : Int) : Ending := .panicked [{ v := .iface 75 (.agg #[.int .i64 p, .int .i64 e]), recovered := false }]
theorem take_ok {B r : Nat} {t : Tok} {l : List Tok} {en dep : Nat} {v : Value} {P : List Prt} {w : World} (h : Rd B r (t :: l) en dep v P w) (hB : B ≤ w.heap.size) (k : Int) (hk : k = t.kind) :
    Calls Tryd.prog 28 #[.pointer (some ⟨r, 0, none⟩), .int .u8 k] w fun e w' => e = .returned (tokV t) ∧ Rd B r l en dep v P w' ∧ K1 B r w w' := by
  obtain ⟨a, cap, hI⟩ := h
  obtain ⟨b, off, rfl, hbB, hc⟩ := hI.tok (by simp)
  have c0 := hI.blk.cell 0; have c1 := hI.blk.cell 1; have z := hI.blk.lt; have f0 := hI.blk.free 0
  obtain ⟨g0, g1, g2, g3⟩ := hc 0 (by simp)
  have hbr : b < w.heap.size := by omega
  simp at c0 c1 g0 g1 g2 g3
  subst hk
  have hcap := hI.cap1; have hcap2 := hI.cap2
  simp only [List.length_cons] at hcap
  have HI := hidE hI; have HC := hidE (cellsT_tail hc)
  clear hI hc
  go_enter Tryd.func28, Tryd.ntmps28
  go_wp2
  · refine bodyPost_ret (v := tokV t) (by simp [results, Tryd.results28, go_sem]) rfl ⟨rfl, HI.out.took (a' := some ⟨b, off, none⟩) (cap' := 0) hB (fun h => absurd h (by omega)) (by omega) (by omega) (.cells #[.int .u8 t.kind, strV t.text, .int .i64 t.num, .int .i64 t.pos] 73) (.cells #[.int .u8 t.kind, strV t.text, .int .i64 t.num, .int .i64 t.pos] 73)⟩
  · refine bodyPost_ret (v := tokV t) (by simp [results, Tryd.results28, go_sem]) rfl ⟨rfl, HI.out.took (a' := some ⟨b, off + 4, none⟩) (cap' := cap - 1) hB (fun _ => ⟨b, off + 4, rfl, hbB, HC.out⟩) (by omega) (by omega) (.cells #[.int .u8 t.kind, strV t.text, .int .i64 t.num, .int .i64 t.pos] 73) (.cells #[.int .u8 t.kind, strV t.text, .int .i64 t.num, .int .i64 t.pos] 73)⟩
theorem take_no {B r : Nat} {l : List Tok} {en dep : Nat} {v : Value} {P : List Prt} {w : World} (h : Rd B r l en dep v P w) (hB : B ≤ w.heap.size) (k : Nat) (z : Int) (hz : z = k) (x : PErr) (hx : takeT k l = .error x) :
    Calls Tryd.prog 28 #[.pointer (some ⟨r, 0, none⟩), .int .u8 z] w fun e w' => e = pan ((x.2.getD en : Nat) : Int) x.1 ∧ K1 B r w w' := by
  obtain ⟨a, cap, hI⟩ := h
  have c0 := hI.blk.cell 0; have c1 := hI.blk.cell 1; have z' := hI.blk.lt
  cases l with
  | nil =>
    simp at c0 c1
    cases hx
    have HI := hidE hI; clear hI
    go_enter Tryd.func28, Tryd.ntmps28
    go_wp2
    exact ⟨rfl, rfl, (K1.refl B r w).alloc hB _⟩
  | cons t l =>
    rw [takeT_cons] at hx
    by_cases c : t.kind = k
    · rw [if_pos c] at hx; cases hx
    · rw [if_neg c] at hx
      cases hx
      obtain ⟨b, off, rfl, hbB, hc⟩ := hI.tok (by simp)
      obtain ⟨g0, g1, g2, g3⟩ := hc 0 (by simp)
      have hbr : b < w.heap.size := by omega
      simp at g0 g1 g2 g3
      have hcap := hI.cap1; have hcap2 := hI.cap2
      simp only [List.length_cons] at hcap
      simp at c0 c1
      have HI := hidE hI; clear hI hc
      have q : ((t.kind : Int) != z) = true := bne_iff_ne.2 (by omega)
      go_enter Tryd.func28, Tryd.ntmps28
      go_wp2
      exact ⟨rfl, rfl, ((K1.refl B r w).alloc hB _).alloc hB _⟩
theorem word_ok {B r : Nat} {l l' : List Tok} {en dep : Nat} {v : Value} {P : List Prt} {w : World} (h : Rd B r l en dep v P w) (hB : B ≤ w.heap.size) (s : List UInt8) (hx : takeW s l = .ok l') :
    Calls Tryd.prog 26 #[.pointer (some ⟨r, 0, none⟩), strV s] w fun e w' => e = .returned (.tuple #[]) ∧ Rd B r l' en dep v P w' ∧ K1 B r w w' := by
  cases l with
  | nil => cases hx
  | cons t l =>
    rw [takeW_cons] at hx
    by_cases c : t.kind = 0 ∧ t.text = s
    · rw [if_pos c] at hx
      cases hx
      obtain ⟨c1, rfl⟩ := c
      have HC := hidE (take_ok h hB 0 (by omega))
      clear h
      go_enter Tryd.func26, Tryd.ntmps26
      go_wp2_with fail
      ((with_reducible refine HC.out.mono ?_); rintro e w1 ⟨rfl, hr1, hk1⟩)
      have HR := hidE hr1; have HK := hidE hk1; clear hr1 hk1
      go_wp2
      go_end0
      exact ⟨rfl, HR.out.alloc (Nat.le_trans hB HK.out.size) _, HK.out.alloc hB _⟩
    · rw [if_neg c] at hx; cases hx
theorem word_no {B r : Nat} {l : List Tok} {en dep : Nat} {v : Value} {P : List Prt} {w : World} (h : Rd B r l en dep v P w) (hB : B ≤ w.heap.size) (s : List UInt8) (x : PErr) (hx : takeW s l = .error x) :
    Calls Tryd.prog 26 #[.pointer (some ⟨r, 0, none⟩), strV s] w fun e w' => e = pan ((x.2.getD en : Nat) : Int) x.1 ∧ K1 B r w w' := by
  by_cases hk : ∃ t l', l = t :: l' ∧ t.kind = 0
  · obtain ⟨t, l', rfl, c⟩ := hk
    rw [takeW_cons] at hx
    have c2 : t.text ≠ s := fun e => by rw [if_pos ⟨c, e⟩] at hx; cases hx
    rw [if_neg (fun e => c2 e.2)] at hx
    cases hx
    have HC := hidE (take_ok h hB 0 (by omega))
    have q : (t.text == s) = false := beq_eq_false_iff_ne.2 c2
    clear h
    go_enter Tryd.func26, Tryd.ntmps26
    go_wp2_with fail
    ((with_reducible refine HC.out.mono ?_); rintro e w1 ⟨rfl, hr1, hk1⟩)
    have HK := hidE hk1; clear hr1 hk1
    go_wp2
    exact ⟨rfl, rfl, HK.out.alloc hB _⟩
  · have hz : takeT 0 l = .error x := by
      cases l with
      | nil => cases hx; rfl
      | cons t l =>
        have c : ¬ t.kind = 0 := fun c => hk ⟨t, l, rfl, c⟩
        rw [takeW_cons, if_neg (fun e => c e.1)] at hx
        rw [takeT_cons, if_neg c, hx]
    have HC := hidE (take_no h hB 0 0 rfl x hz)
    clear h hx
    go_enter Tryd.func26, Tryd.ntmps26
    go_wp2_with fail
    ((with_reducible refine HC.out.mono ?_); rintro e w1 ⟨rfl, hk1⟩)
    go_wp2
    exact ⟨rfl, rfl, hk1⟩
theorem num_ok {B r : Nat} {l l' : List Tok} {en dep : Nat} {v : Value} {P : List Prt} {w : World} (h : Rd B r l en dep v P w) (hB : B ≤ w.heap.size) (lim n : Int) (hx : numT lim l = .ok (n, l')) :
    Calls Tryd.prog 27 #[.pointer (some ⟨r, 0, none⟩), .int .i64 lim] w fun e w' => e = .returned (.int .i64 n) ∧ Rd B r l' en dep v P w' ∧ K1 B r w w' := by
  cases l with
  | nil => cases hx
  | cons t l =>
    rw [numT_cons] at hx
    by_cases c : t.kind = 1 ∧ t.num ≤ lim
    · rw [if_pos c] at hx
      cases hx
      obtain ⟨c1, c2⟩ := c
      have HC := hidE (take_ok h hB 1 (by omega))
      have q : decide (t.num > lim) = false := decide_eq_false (by omega)
      have q2 : decide (lim < t.num) = false := decide_eq_false (by omega)
      clear h
      go_enter Tryd.func27, Tryd.ntmps27
      go_wp2_with fail
      ((with_reducible refine HC.out.mono ?_); rintro e w1 ⟨rfl, hr1, hk1⟩)
      have HR := hidE hr1; have HK := hidE hk1; clear hr1 hk1
      go_wp2
      go_ret
      exact ⟨rfl, HR.out.alloc (Nat.le_trans hB HK.out.size) _, HK.out.alloc hB _⟩
    · rw [if_neg c] at hx; cases hx
theorem num_no {B r : Nat} {l : List Tok} {en dep : Nat} {v : Value} {P : List Prt} {w : World} (h : Rd B r l en dep v P w) (hB : B ≤ w.heap.size) (lim : Int) (x : PErr) (hx : numT lim l = .error x) :
    Calls Tryd.prog 27 #[.pointer (some ⟨r, 0, none⟩), .int .i64 lim] w fun e w' => e = pan ((x.2.getD en : Nat) : Int) x.1 ∧ K1 B r w w' := by
  by_cases hk : ∃ t l', l = t :: l' ∧ t.kind = 1
  · obtain ⟨t, l', rfl, c⟩ := hk
    rw [numT_cons] at hx
    have c2 : ¬ t.num ≤ lim := fun e => by rw [if_pos ⟨c, e⟩] at hx; cases hx
    rw [if_neg (fun e => c2 e.2)] at hx
    cases hx
    have HC := hidE (take_ok h hB 1 (by omega))
    have q : decide (t.num > lim) = true := decide_eq_true (by omega)
    have q2 : decide (lim < t.num) = true := decide_eq_true (by omega)
    clear h
    go_enter Tryd.func27, Tryd.ntmps27
    go_wp2_with fail
    ((with_reducible refine HC.out.mono ?_); rintro e w1 ⟨rfl, hr1, hk1⟩)
    have HK := hidE hk1; clear hr1 hk1
    go_wp2
    exact ⟨rfl, rfl, HK.out.alloc hB _⟩
  · have hz : takeT 1 l = .error x := by
      cases l with
      | nil => cases hx; rfl
      | cons t l =>
        have c : ¬ t.kind = 1 := fun c => hk ⟨t, l, rfl, c⟩
        rw [numT_cons, if_neg (fun e => c e.1)] at hx
        rw [takeT_cons, if_neg c]
        cases hx
        rfl
    have HC := hidE (take_no h hB 1 1 rfl x hz)
    clear h hx
    go_enter Tryd.func27, Tryd.ntmps27
    go_wp2_with fail
    ((with_reducible refine HC.out.mono ?_); rintro e w1 ⟨rfl, hk1⟩)
    go_wp2
    exact ⟨rfl, rfl, hk1⟩
theorem nothing_ok {B r : Nat} {en dep : Nat} {v : Value} {P : List Prt} {w : World} (h : Rd B r [] en dep v P w) :
    Calls Tryd.prog 30 #[.pointer (some ⟨r, 0, none⟩)] w fun e w' => e = .returned (.tuple #[]) ∧ w' = w := by
  obtain ⟨a, cap, hI⟩ := h
  have c0 := hI.blk.cell 0
  simp at c0
  clear hI
  go_enter Tryd.func30, Tryd.ntmps30
  go_wp2
  go_end0
  exact ⟨rfl, rfl⟩
theorem nothing_no {B r : Nat} {t : Tok} {l : List Tok} {en dep : Nat} {v : Value} {P : List Prt} {w : World} (h : Rd B r (t :: l) en dep v P w) (hB : B ≤ w.heap.size) :
    Calls Tryd.prog 30 #[.pointer (some ⟨r, 0, none⟩)] w fun e w' => e = pan t.pos 70 ∧ w' = w := by
  obtain ⟨a, cap, hI⟩ := h
  obtain ⟨b, off, rfl, hbB, hc⟩ := hI.tok (by simp)
  have c0 := hI.blk.cell 0
  obtain ⟨g0, g1, g2, g3⟩ := hc 0 (by simp)
  have hbr : b < w.heap.size := by omega
  simp at c0 g0 g1 g2 g3
  have q : decide ((l.length : Int) + 1 > 0) = true := decide_eq_true (by omega)
  have q2 : decide ((0 : Int) < (l.length : Int) + 1) = true := decide_eq_true (by omega)
  clear hI hc
  go_enter Tryd.func30, Tryd.ntmps30
  go_wp2
  exact ⟨rfl, rfl, rfl⟩
end Go.Proofs.YtaeipfnpglbooaaDoor

namespace Go.Proofs.YtaeipfnpglbooaaDoor

/-- Do the terms go on, as the program asks? -/
def goesP (mode : Nat) : List Tok → Bool
  | [] => mode != 2
  | t :: _ => mode != 2 || t.kind == 2
/-- parS with that question. -/
def parP : Nat → Nat → Nat → Nat → List Tok → Except PErr (Fst × List Tok)
  | 0, _, _, _, _ => .error (70, none)
  | m + 1, f, cnt, mode, l =>
    if goesP mode l = false then .ok (.nil, l) else
    match l with
    | [] => .error (70, none)
    | t :: l1 =>
      if t.kind ≠ 2 then .error (70, some t.pos) else
      if f = 0 ∨ 64 ≤ cnt then .error (80, some t.pos) else
      match l1 with
      | [] => .error (70, none)
      | w :: l2 =>
        match kindW w with
        | none => .error (70, some w.pos)
        | some k =>
          if k = 0 then
            match atomT l2 with
            | .error e => .error e
            | .ok p => if mode = 0 then .ok (.cons p.1 .nil .nil, p.2) else
              match parP m f (cnt + 1) 2 p.2 with
              | .error e => .error e
              | .ok q => .ok (.cons p.1 .nil q.1, q.2)
          else
            match parP m (f - 1) (cnt + 1) 1 l2 with
            | .error e => .error e
            | .ok p =>
              match takeT 3 p.2 with
              | .error e => .error e
              | .ok l4 => if mode = 0 then .ok (.cons ⟨k, 0, 0, 0, 0⟩ p.1 .nil, l4) else
                match parP m f (cnt + 1 + p.1.size) 2 l4 with
                | .error e => .error e
                | .ok q => .ok (.cons ⟨k, 0, 0, 0, 0⟩ p.1 q.1, q.2)
/-- What closes the terms. -/
def closeR : Except PErr (Fst × List Tok) → Except PErr (Fst × List Tok)
  | .error e => .error e
  | .ok p => match takeT 3 p.2 with
    | .error e => .error e
    | .ok l => .ok (p.1, l)
/-- A part ahead of the others. -/
def consR (x : Prt) (K : Fst) : Except PErr (Fst × List Tok) → Except PErr (Fst × List Tok)
  | .error e => .error e
  | .ok q => .ok (.cons x K q.1, q.2)
theorem close_cons (x : Prt) (K : Fst) (R : Except PErr (Fst × List Tok)) : closeR (consR x K R) = consR x K (closeR R) := by
  cases R with
  | error e => rfl
  | ok q =>
    simp only [consR, closeR]
    cases takeT 3 q.2 <;> rfl
/-- One term's beginning and what it holds; what follows it is a matter of its own. -/
def headT (m f cnt : Nat) (one : Nat → Nat → Nat → List Tok → Except PErr (Fst × List Tok)) : List Tok → Except PErr (Prt × Fst × List Tok)
  | [] => .error (70, none)
  | t :: l1 =>
    if t.kind ≠ 2 then .error (70, some t.pos) else
    if f = 0 ∨ 64 ≤ cnt then .error (80, some t.pos) else
    match l1 with
    | [] => .error (70, none)
    | w :: l2 =>
      match kindW w with
      | none => .error (70, some w.pos)
      | some k =>
        if k = 0 then
          match atomT l2 with
          | .error e => .error e
          | .ok p => .ok (p.1, .nil, p.2)
        else
          match closeR (one m (f - 1) (cnt + 1) l2) with
          | .error e => .error e
          | .ok p => .ok (⟨k, 0, 0, 0, 0⟩, p.1, p.2)
/-- A term, and the others if there may be some. -/
def restR (mode : Nat) (next : Nat → List Tok → Except PErr (Fst × List Tok)) : Except PErr (Prt × Fst × List Tok) → Except PErr (Fst × List Tok)
  | .error e => .error e
  | .ok (x, K, l) => if mode = 0 then .ok (.cons x K .nil, l) else consR x K (next K.size l)
theorem parS_step (m f cnt mode : Nat) (l : List Tok) (hg : goesOn mode l = true) : parS (m + 1) f cnt mode l = restR mode (fun k r => parS m f (cnt + 1 + k) 2 r) (headT m f cnt (fun m f cnt l => parS m f cnt 1 l) l) := by
  rw [parS.eq_def]
  simp only
  rw [if_neg (by rw [hg]; decide)]
  cases l with
  | nil => rfl
  | cons t l1 =>
    simp only [headT]
    by_cases c1 : t.kind ≠ 2
    · rw [if_pos c1, if_pos c1]; rfl
    · rw [if_neg c1, if_neg c1]
      by_cases c2 : f = 0 ∨ 64 ≤ cnt
      · rw [if_pos c2, if_pos c2]; rfl
      · rw [if_neg c2, if_neg c2]
        cases l1 with
        | nil => rfl
        | cons w l2 =>
          simp only
          cases kindW w with
          | none => rfl
          | some k =>
            simp only
            by_cases c3 : k = 0
            · rw [if_pos c3, if_pos c3]
              cases atomT l2 with
              | error e => rfl
              | ok p =>
                simp only [restR, Fst.size, Nat.add_zero]
                by_cases c4 : mode = 0
                · rw [if_pos c4, if_pos c4]
                · rw [if_neg c4, if_neg c4]
                  cases parS m f (cnt + 1) 2 p.2 <;> rfl
            · rw [if_neg c3, if_neg c3]
              cases parS m (f - 1) (cnt + 1) 1 l2 with
              | error e => rfl
              | ok p =>
                simp only [closeR]
                cases takeT 3 p.2 with
                | error e => rfl
                | ok l4 =>
                  simp only [restR]
                  by_cases c4 : mode = 0
                  · rw [if_pos c4, if_pos c4]
                  · rw [if_neg c4, if_neg c4]
                    cases parS m f (cnt + 1 + p.1.size) 2 l4 <;> rfl
theorem parP_step (m f cnt mode : Nat) (l : List Tok) (hg : goesP mode l = true) : parP (m + 1) f cnt mode l = restR mode (fun k r => parP m f (cnt + 1 + k) 2 r) (headT m f cnt (fun m f cnt l => parP m f cnt 1 l) l) := by
  rw [parP.eq_def]
  simp only
  rw [if_neg (by rw [hg]; decide)]
  cases l with
  | nil => rfl
  | cons t l1 =>
    simp only [headT]
    by_cases c1 : t.kind ≠ 2
    · rw [if_pos c1, if_pos c1]; rfl
    · rw [if_neg c1, if_neg c1]
      by_cases c2 : f = 0 ∨ 64 ≤ cnt
      · rw [if_pos c2, if_pos c2]; rfl
      · rw [if_neg c2, if_neg c2]
        cases l1 with
        | nil => rfl
        | cons w l2 =>
          simp only
          cases kindW w with
          | none => rfl
          | some k =>
            simp only
            by_cases c3 : k = 0
            · rw [if_pos c3, if_pos c3]
              cases atomT l2 with
              | error e => rfl
              | ok p =>
                simp only [restR, Fst.size, Nat.add_zero]
                by_cases c4 : mode = 0
                · rw [if_pos c4, if_pos c4]
                · rw [if_neg c4, if_neg c4]
                  cases parP m f (cnt + 1) 2 p.2 <;> rfl
            · rw [if_neg c3, if_neg c3]
              cases parP m (f - 1) (cnt + 1) 1 l2 with
              | error e => rfl
              | ok p =>
                simp only [closeR]
                cases takeT 3 p.2 with
                | error e => rfl
                | ok l4 =>
                  simp only [restR]
                  by_cases c4 : mode = 0
                  · rw [if_pos c4, if_pos c4]
                  · rw [if_neg c4, if_neg c4]
                    cases parP m f (cnt + 1 + p.1.size) 2 l4 <;> rfl
theorem restR_err {mode : Nat} {next : Nat → List Tok → Except PErr (Fst × List Tok)} {e : PErr} : restR mode next (.error e) = .error e := rfl
theorem head_same {m f cnt : Nat} {A B : Nat → Nat → Nat → List Tok → Except PErr (Fst × List Tok)} (h : ∀ m f cnt l, closeR (A m f cnt l) = closeR (B m f cnt l)) (l : List Tok) : headT m f cnt A l = headT m f cnt B l := by
  cases l with
  | nil => rfl
  | cons t l1 =>
    simp only [headT]
    cases l1 with
    | nil => rfl
    | cons w l2 =>
      simp only [h m (f - 1) (cnt + 1) l2]
theorem parP_close : ∀ (m f cnt mode : Nat) (l : List Tok), closeR (parP m f cnt mode l) = closeR (parS m f cnt mode l)
  | 0, _, _, _, _ => rfl
  | m + 1, f, cnt, mode, l => by
    have hh : headT m f cnt (fun m f cnt l => parP m f cnt 1 l) l = headT m f cnt (fun m f cnt l => parS m f cnt 1 l) l := by
      cases l with
      | nil => rfl
      | cons t l1 =>
        simp only [headT]
        cases l1 with
        | nil => rfl
        | cons w l2 => simp only [parP_close m (f - 1) (cnt + 1) 1 l2]
    cases hg : goesP mode l with
    | true =>
      have hg2 : goesOn mode l = true := by
        cases l with
        | nil => exact hg
        | cons t l1 =>
          have h1 : (mode != 2 || t.kind == 2) = true := hg
          show (mode != 2 || t.kind != 3) = true
          rw [Bool.or_eq_true] at h1 ⊢
          rcases h1 with h1 | h1
          · exact .inl h1
          · exact .inr (bne_iff_ne.2 (by have := beq_iff_eq.1 h1; omega))
      rw [parP_step _ _ _ _ _ hg, parS_step _ _ _ _ _ hg2, hh]
      cases headT m f cnt (fun m f cnt l => parS m f cnt 1 l) l with
      | error e => rfl
      | ok y =>
        obtain ⟨x, K, r⟩ := y
        simp only [restR]
        by_cases c : mode = 0
        · rw [if_pos c, if_pos c]
        · rw [if_neg c, if_neg c, close_cons, close_cons, parP_close m f (cnt + 1 + K.size) 2 r]
    | false =>
      have e1 : parP (m + 1) f cnt mode l = .ok (.nil, l) := by
        rw [parP.eq_def]; simp only; rw [if_pos hg]
      cases hg2 : goesOn mode l with
      | false =>
        have e2 : parS (m + 1) f cnt mode l = .ok (.nil, l) := by
          rw [parS.eq_def]; simp only; rw [if_pos hg2]
        rw [e1, e2]
      | true =>
        rw [e1, parS_step _ _ _ _ _ hg2]
        cases l with
        | nil => rw [show goesOn mode [] = goesP mode [] from rfl, hg] at hg2; cases hg2
        | cons t l1 =>
          have h1 : (mode != 2 || t.kind == 2) = false := hg
          have h2 : (mode != 2 || t.kind != 3) = true := hg2
          rw [Bool.or_eq_false_iff] at h1
          rw [h1.1, Bool.false_or] at h2
          have n2 : t.kind ≠ 2 := beq_eq_false_iff_ne.1 h1.2
          have n3 : t.kind ≠ 3 := bne_iff_ne.1 h2
          have e3 : headT m f cnt (fun m f cnt l => parS m f cnt 1 l) (t :: l1) = .error (70, some t.pos) := by
            simp only [headT]; rw [if_pos n2]
          rw [e3]
          show closeR (.ok (.nil, t :: l1)) = closeR (.error (70, some t.pos))
          simp only [closeR, takeT_cons]
          rw [if_neg n3]
/-- One term, as the program reads it. -/
theorem parP_zero (m f cnt : Nat) (l : List Tok) : parP m f cnt 0 l = parS m f cnt 0 l := by
  cases m with
  | zero => rfl
  | succ m =>
    have hg : ∀ l : List Tok, goesP 0 l = true ∧ goesOn 0 l = true := fun l => by cases l <;> exact ⟨rfl, rfl⟩
    rw [parP_step _ _ _ _ _ (hg l).1, parS_step _ _ _ _ _ (hg l).2]
    have hh : headT m f cnt (fun m f cnt l => parP m f cnt 1 l) l = headT m f cnt (fun m f cnt l => parS m f cnt 1 l) l := by
      cases l with
      | nil => rfl
      | cons t l1 =>
        simp only [headT]
        cases l1 with
        | nil => rfl
        | cons w l2 => simp only [parP_close m (f - 1) (cnt + 1) 1 l2]
    rw [hh]
    cases headT m f cnt (fun m f cnt l => parS m f cnt 1 l) l with
    | error e => rfl
    | ok y => rfl
/-- One term and what follows. -/
theorem parP_more (m f cnt mode : Nat) (l : List Tok) (hm : mode ≠ 0) (hg : goesP mode l = true) :
    parP (m + 1) f cnt mode l = match parP (m + 1) f cnt 0 l with
      | .error e => .error e
      | .ok p => match p.1 with
        | .nil => .error (70, none)
        | .cons x K _ => consR x K (parP m f (cnt + 1 + K.size) 2 p.2) := by
  have hg0 : goesP 0 l = true := by cases l <;> rfl
  rw [parP_step _ _ _ _ _ hg, parP_step _ _ _ _ _ hg0]
  cases headT m f cnt (fun m f cnt l => parP m f cnt 1 l) l with
  | error e => rfl
  | ok y =>
    obtain ⟨x, K, r⟩ := y
    simp only [restR]
    rw [if_neg hm, if_pos trivial]
/-- Something is read. -/
theorem atomT_shorter {l r : List Tok} {x : Prt} (h : atomT l = .ok (x, r)) : r.length < l.length := by
  have nt : ∀ {lim n : Int} {l r : List Tok}, numT lim l = .ok (n, r) → r.length < l.length := by
    intro lim n l r h
    cases l with
    | nil => cases h
    | cons t l =>
      rw [numT_cons] at h
      split at h
      · cases h; simp
      · cases h
  have tt : ∀ {k : Nat} {l r : List Tok}, takeT k l = .ok r → r.length < l.length := by
    intro k l r h
    obtain ⟨t, rfl⟩ := takeT_ok h
    simp
  unfold atomT at h
  cases h1 : numT 4294967295 l with
  | error e => rw [h1] at h; cases h
  | ok p =>
    obtain ⟨n, l1⟩ := p
    rw [h1] at h
    simp only at h
    cases h2 : numT 4294967295 l1 with
    | error e => rw [h2] at h; cases h
    | ok p =>
      obtain ⟨g, l2⟩ := p
      rw [h2] at h
      simp only at h
      cases h3 : numT 1099511627776 l2 with
      | error e => rw [h3] at h; cases h
      | ok p =>
        obtain ⟨d, l3⟩ := p
        rw [h3] at h
        simp only at h
        cases h4 : takeT 3 l3 with
        | error e => rw [h4] at h; cases h
        | ok l4 =>
          rw [h4] at h
          cases h
          have := nt h1; have := nt h2; have := nt h3; have := tt h4
          omega
theorem parP_shorter : ∀ (m f cnt mode : Nat) (l r : List Tok) (F : Fst), parP m f cnt mode l = .ok (F, r) → r.length ≤ l.length ∧ (mode ≠ 2 → r.length < l.length ∧ F ≠ .nil)
  | 0, _, _, _, _, _, _, h => by cases h
  | m + 1, f, cnt, mode, l, r, F, h => by
    cases hg : goesP mode l with
    | false =>
      rw [parP.eq_def] at h; simp only at h; rw [if_pos hg] at h
      cases h
      refine ⟨Nat.le_refl _, fun hm => ?_⟩
      have : goesP mode l = true := by cases l <;> simp [goesP, hm]
      rw [hg] at this; cases this
    | true =>
      rw [parP_step _ _ _ _ _ hg] at h
      cases hh : headT m f cnt (fun m f cnt l => parP m f cnt 1 l) l with
      | error e => rw [hh] at h; cases h
      | ok y =>
        obtain ⟨x, K, r1⟩ := y
        rw [hh] at h
        have hlt : r1.length < l.length := by
          cases l with
          | nil => cases hh
          | cons t l1 =>
            simp only [headT] at hh
            split at hh
            · cases hh
            · split at hh
              · cases hh
              · cases l1 with
                | nil => cases hh
                | cons w l2 =>
                  simp only at hh
                  cases hk : kindW w with
                  | none => rw [hk] at hh; cases hh
                  | some k =>
                    rw [hk] at hh
                    simp only at hh
                    split at hh
                    · cases ha : atomT l2 with
                      | error e => rw [ha] at hh; cases hh
                      | ok p =>
                        rw [ha] at hh
                        obtain ⟨x2, r2⟩ := p
                        cases hh
                        have := atomT_shorter ha
                        simp only [List.length_cons]; omega
                    · cases hp : parP m (f - 1) (cnt + 1) 1 l2 with
                      | error e => rw [hp] at hh; cases hh
                      | ok p =>
                        obtain ⟨K2, l3⟩ := p
                        rw [hp] at hh
                        simp only [closeR] at hh
                        have h1 := (parP_shorter m (f - 1) (cnt + 1) 1 l2 l3 K2 hp).1
                        cases ht : takeT 3 l3 with
                        | error e => rw [ht] at hh; cases hh
                        | ok l4 =>
                          rw [ht] at hh
                          cases hh
                          obtain ⟨t2, rfl⟩ := takeT_ok ht
                          simp only [List.length_cons] at *; omega
        simp only [restR] at h
        by_cases c : mode = 0
        · rw [if_pos c] at h
          cases h
          exact ⟨by omega, fun _ => ⟨hlt, fun e => by cases e⟩⟩
        · rw [if_neg c] at h
          cases hq : parP m f (cnt + 1 + K.size) 2 r1 with
          | error e => rw [hq] at h; cases h
          | ok q =>
            obtain ⟨F2, r2⟩ := q
            rw [hq] at h
            cases h
            have h1 := (parP_shorter m f (cnt + 1 + K.size) 2 r1 _ F2 hq).1
            exact ⟨Nat.le_of_lt (Nat.lt_of_le_of_lt h1 hlt), fun _ => ⟨Nat.lt_of_le_of_lt h1 hlt, fun e => by cases e⟩⟩
/-- Forests one behind the other. -/
def Fst.app : Fst → Fst → Fst
  | .nil, G => G
  | .cons x K N, G => .cons x K (N.app G)
theorem app_flat : ∀ F G : Fst, (F.app G).flat = F.flat ++ G.flat
  | .nil, _ => rfl
  | .cons x K N, G => by simp only [Fst.app, Fst.flat, app_flat N G, List.cons_append, List.append_assoc]
theorem app_len : ∀ F G : Fst, (F.app G).len = F.len + G.len
  | .nil, G => by simp [Fst.app, Fst.len]
  | .cons x K N, G => by simp only [Fst.app, Fst.len, app_len N G]; omega
theorem app_size : ∀ F G : Fst, (F.app G).size = F.size + G.size
  | .nil, G => by simp [Fst.app, Fst.size]
  | .cons x K N, G => by simp only [Fst.app, Fst.size, app_size N G]; omega
theorem app_assoc : ∀ F G H : Fst, (F.app G).app H = F.app (G.app H)
  | .nil, _, _ => rfl
  | .cons x K N, G, H => by simp only [Fst.app, app_assoc N G H]
theorem app_nil : ∀ F : Fst, F.app .nil = F
  | .nil => rfl
  | .cons x K N => by simp only [Fst.app, app_nil N]
def appR (F : Fst) : Except PErr (Fst × List Tok) → Except PErr (Fst × List Tok)
  | .error e => .error e
  | .ok q => .ok (F.app q.1, q.2)
theorem appR_app (F G : Fst) (R : Except PErr (Fst × List Tok)) : appR F (appR G R) = appR (F.app G) R := by
  cases R with
  | error e => rfl
  | ok q => simp only [appR, app_assoc]
/-- One term is one tree. -/
theorem parP_tree {m f cnt : Nat} {l r : List Tok} {F : Fst} (h : parP m f cnt 0 l = .ok (F, r)) : ∃ x K, F = .cons x K .nil := by
  cases m with
  | zero => cases h
  | succ m =>
    have hg : goesP 0 l = true := by cases l <;> rfl
    rw [parP_step _ _ _ _ _ hg] at h
    cases hh : headT m f cnt (fun m f cnt l => parP m f cnt 1 l) l with
    | error e => rw [hh] at h; cases h
    | ok y =>
      obtain ⟨x, K, r1⟩ := y
      rw [hh] at h
      simp only [restR] at h
      rw [if_pos trivial] at h
      cases h
      exact ⟨x, K, rfl⟩
/-- What goes on is a term and the others. -/
theorem parP_go {m f cnt mode : Nat} {l : List Tok} (hm : mode ≠ 0) (hg : goesP mode l = true) : parP (m + 1) f cnt mode l = match parP (m + 1) f cnt 0 l with
      | .error e => .error e
      | .ok p => appR p.1 (parP m f (cnt + p.1.size) 2 p.2) := by
  rw [parP_more m f cnt mode l hm hg]
  cases h : parP (m + 1) f cnt 0 l with
  | error e => rfl
  | ok p =>
    obtain ⟨F, r⟩ := p
    obtain ⟨x, K, rfl⟩ := parP_tree h
    simp only [Fst.size, Nat.add_zero]
    rw [show cnt + (K.size + 1) = cnt + 1 + K.size by omega]
    cases parP m f (cnt + 1 + K.size) 2 r <;> rfl
theorem parP_stop {m f cnt mode : Nat} {l : List Tok} (hg : goesP mode l = false) : parP (m + 1) f cnt mode l = .ok (.nil, l) := by
  rw [parP.eq_def]; simp only; rw [if_pos hg]
/-- An atom's numbers. -/
def numsT (l : List Tok) : Except PErr (Prt × List Tok) :=
  match numT 4294967295 l with
  | .error e => .error e
  | .ok (n, l1) => match numT 4294967295 l1 with
    | .error e => .error e
    | .ok (g, l2) => match numT 1099511627776 l2 with
      | .error e => .error e
      | .ok (d, l3) => .ok (⟨0, n.toNat, g.toNat, d, 0⟩, l3)
theorem atomT_nums (l : List Tok) : atomT l = match numsT l with
    | .error e => .error e
    | .ok p => match takeT 3 p.2 with
      | .error e => .error e
      | .ok l4 => .ok (p.1, l4) := by
  unfold atomT numsT
  cases numT 4294967295 l with
  | error e => rfl
  | ok p =>
    simp only
    cases numT 4294967295 p.2 with
    | error e => rfl
    | ok q =>
      simp only
      cases numT 1099511627776 q.2 with
      | error e => rfl
      | ok d =>
        simp only
        cases takeT 3 d.2 <;> rfl
/-- The kind that the next word says. -/
def kindT : List Tok → Except PErr (Nat × List Tok)
  | [] => .error (70, none)
  | t :: l => match kindW t with
    | none => .error (70, some t.pos)
    | some k => .ok (k, l)
/-- What belongs to a word. -/
def opT (m f cnt k : Nat) (l : List Tok) : Except PErr (Prt × Fst × List Tok) :=
  if k = 0 then match numsT l with
    | .error e => .error e
    | .ok p => .ok (p.1, .nil, p.2)
  else match parP m f cnt 1 l with
    | .error e => .error e
    | .ok p => .ok (⟨k, 0, 0, 0, 0⟩, p.1, p.2)
/-- A term behind its bracket. -/
def afterT (m f cnt : Nat) (l1 : List Tok) : Except PErr (Fst × List Tok) := match kindT l1 with
      | .error e => .error e
      | .ok q => match opT m (f - 1) (cnt + 1) q.1 q.2 with
        | .error e => .error e
        | .ok y => match takeT 3 y.2.2 with
          | .error e => .error e
          | .ok l4 => .ok (.cons y.1 y.2.1 .nil, l4)
/-- One term, step by step. -/
theorem parP_term (m f cnt : Nat) (l : List Tok) : parP (m + 1) f cnt 0 l = match takeT 2 l with
    | .error e => .error e
    | .ok l1 => if f = 0 ∨ 64 ≤ cnt then .error (80, (l.head?).map Tok.pos) else afterT m f cnt l1 := by
  unfold afterT
  have hg : goesP 0 l = true := by cases l <;> rfl
  rw [parP_step _ _ _ _ _ hg]
  cases l with
  | nil => rfl
  | cons t l1 =>
    rw [takeT_cons]
    simp only [headT]
    by_cases c1 : t.kind ≠ 2
    · rw [if_pos c1, if_neg (show ¬ t.kind = 2 from c1)]; rfl
    · rw [if_neg c1, if_pos (show t.kind = 2 by simpa using c1)]
      simp only
      by_cases c2 : f = 0 ∨ 64 ≤ cnt
      · rw [if_pos c2, if_pos c2]; rfl
      · rw [if_neg c2, if_neg c2]
        cases l1 with
        | nil => rfl
        | cons w l2 =>
          simp only [kindT]
          cases kindW w with
          | none => rfl
          | some k =>
            simp only [opT]
            by_cases c3 : k = 0
            · rw [if_pos c3, if_pos c3, atomT_nums]
              cases numsT l2 with
              | error e => rfl
              | ok p =>
                simp only
                cases takeT 3 p.2 with
                | error e => rfl
                | ok l4 => simp only [restR]; rfl
            · rw [if_neg c3, if_neg c3]
              cases parP m (f - 1) (cnt + 1) 1 l2 with
              | error e => rfl
              | ok p =>
                simp only [closeR]
                cases takeT 3 p.2 with
                | error e => rfl
                | ok l4 => simp only [restR]; rfl
end Go.Proofs.YtaeipfnpglbooaaDoor

namespace Go.Proofs.YtaeipfnpglbooaaDoor
open Go.ChangeShapes Go.WideShapes Go.ChangeAt Go.RowKit
attribute [local irreducible] Go.Calls

theorem run_ix5 (vs : Array Value) (i : Nat) (x : Value) (h5 : i < 5) (h : vs[i]? = some x) (w : World) : (Instr.index 81 (.agg vs) (.int .i64 i)).run Tryd.prog w = .ok x w := by
  simp [Instr.index, run_underlying Tryd.underlying81, asIntOf, go_sem, part, h5, h]
theorem kindW_iff {t : Tok} {k : Nat} (hk : k ≤ 4) : kindW t = some k ↔ t.kind = 0 ∧ t.text = wordK k ∧ ∀ i, i < k → t.text ≠ wordK i := by
  have hne : ∀ i j, i ≤ 4 → j ≤ 4 → wordK i = wordK j → i = j := by
    intro i j hi hj e
    have a : i = 0 ∨ i = 1 ∨ i = 2 ∨ i = 3 ∨ i = 4 := by omega
    have b : j = 0 ∨ j = 1 ∨ j = 2 ∨ j = 3 ∨ j = 4 := by omega
    rcases a with rfl | rfl | rfl | rfl | rfl <;> rcases b with rfl | rfl | rfl | rfl | rfl <;> first | rfl | (exact absurd e (by decide))
  constructor
  · intro h
    unfold kindW at h
    split at h
    · cases h
    · rename_i h0
      refine ⟨by simpa using h0, ?_⟩
      have key : t.text = wordK k := by
        split at h
        · rename_i c; cases h; exact c
        · split at h
          · rename_i c; cases h; exact c
          · split at h
            · rename_i c; cases h; exact c
            · split at h
              · rename_i c; cases h; exact c
              · split at h
                · rename_i c; cases h; exact c
                · cases h
      exact ⟨key, fun i hi e => by have := hne i k (by omega) hk (e.symm.trans key); omega⟩
  · rintro ⟨h0, h1, h2⟩
    unfold kindW
    rw [if_neg (by simpa using h0), h1]
    have b : k = 0 ∨ k = 1 ∨ k = 2 ∨ k = 3 ∨ k = 4 := by omega
    rcases b with rfl | rfl | rfl | rfl | rfl <;> rfl
theorem kindW_none {t : Tok} (h0 : t.kind = 0) : kindW t = none ↔ ∀ i, i < 5 → t.text ≠ wordK i := by
  constructor
  · intro h i hi e
    unfold kindW at h
    rw [if_neg (by simpa using h0), e] at h
    have b : i = 0 ∨ i = 1 ∨ i = 2 ∨ i = 3 ∨ i = 4 := by omega
    rcases b with rfl | rfl | rfl | rfl | rfl <;> cases h
  · intro h
    unfold kindW
    rw [if_neg (by simpa using h0), if_neg (h 0 (by omega)), if_neg (h 1 (by omega)), if_neg (h 2 (by omega)), if_neg (h 3 (by omega)), if_neg (h 4 (by omega))]
/-- What kind leaves of a word. -/
def KindOut (B r : Nat) (l : List Tok) (en dep : Nat) (v : Value) (P : List Prt) (w : World) (p : Nat) (x : Option Nat) (e : Ending) (w' : World) : Prop :=
  match x with
  | some k => e = .returned (.int .u8 k) ∧ Rd B r l en dep v P w' ∧ K1 B r w w'
  | none => e = pan p 70 ∧ K1 B r w w'
set_option maxRecDepth 100000 in
set_option maxHeartbeats 1000000 in
theorem kind_word {B r : Nat} {t : Tok} {l : List Tok} {en dep : Nat} {v : Value} {P : List Prt} {w : World} (h : Rd B r (t :: l) en dep v P w) (hB : B ≤ w.heap.size) (h0 : t.kind = 0) :
    Calls Tryd.prog 42 #[.pointer (some ⟨r, 0, none⟩)] w (KindOut B r l en dep v P w t.pos (kindW t)) := by
  have HC := hidE (take_ok h hB 0 (by omega))
  have HK0 := hidE h0
  clear h h0
  go_enter Tryd.func42, Tryd.ntmps42
  go_wp2_with fail
  ((with_reducible refine HC.out.mono ?_); rintro e w1 ⟨rfl, hr1, hk1⟩)
  have hw : WordsAre (w1.alloc (.cells #[.int .u8 t.kind, strV t.text, .int .i64 t.num, .int .i64 t.pos] 73)) := by
    obtain ⟨a, cap, hI⟩ := hr1
    exact hI.words.past (balloc (Below.refl _ _) _)
  have c0 := hw.cell (i := 0) rfl; have c1 := hw.cell (i := 1) rfl; have c2 := hw.cell (i := 2) rfl; have c3 := hw.cell (i := 3) rfl; have c4 := hw.cell (i := 4) rfl
  have t1 := (Blk.made w1 #[.int .u8 t.kind, strV t.text, .int .i64 t.num, .int .i64 t.pos] 73).cell 1
  have t3 := (Blk.made w1 #[.int .u8 t.kind, strV t.text, .int .i64 t.num, .int .i64 t.pos] 73).cell 3
  have hR2 := hr1.alloc (Nat.le_trans hB hk1.size) (.cells #[.int .u8 t.kind, strV t.text, .int .i64 t.num, .int .i64 t.pos] 73)
  have hK2 := hk1.alloc hB (.cells #[.int .u8 t.kind, strV t.text, .int .i64 t.num, .int .i64 t.pos] 73)
  have HR := hidE hR2; have HK := hidE hK2
  have T1 := hidE t1; have T3 := hidE t3; clear t1 t3
  clear hr1 hk1 hw hR2 hK2
  go_wp2_with fail
  clear HC
  generalize w1.alloc (.cells #[.int .u8 t.kind, strV t.text, .int .i64 t.num, .int .i64 t.pos] 73) = w2 at *
  generalize w1.heap.size = tb at *
  have t1 := T1.out; have t3 := T3.out
  simp at t1 t3
  go_loopg [9] 5 (fun g v wr => ∃ j : Nat, 5 - j ≤ g ∧ j ≤ 5 ∧ v = .int .i64 j ∧ wr = w2 ∧ ∀ i, i < j → t.text ≠ wordK i)
  case atStart => exact ⟨0, by omega, by omega, rfl, rfl, fun i hi => by omega⟩
  case round =>
    obtain ⟨j, hg, hj, rfl, rfl, hn⟩ := hrel
    have HG := hidE hg; have HN := hidE hn
    clear hg hn
    have hj5 : j = 0 ∨ j = 1 ∨ j = 2 ∨ j = 3 ∨ j = 4 ∨ j = 5 := by omega
    rcases hj5 with rfl | rfl | rfl | rfl | rfl | rfl
    · have ix := run_ix5 #[.string ⟨#[97, 116, 111, 109]⟩, .string ⟨#[111, 114, 100, 101, 114]⟩, .string ⟨#[110, 101, 120, 116]⟩, .string ⟨#[97, 110, 121]⟩, .string ⟨#[97, 108, 108]⟩] 0 _ (by omega) rfl
      simp only [Int.cast_ofNat_Int] at ix
      by_cases c : t.text = wordK 0
      · have hk := (kindW_iff (t := t) (k := 0) (by omega)).2 ⟨HK0.out, c, HN.out⟩
        have q : (t.text == wordK 0) = true := beq_iff_eq.2 c
        simp only [wordK] at q
        rw [hk]
        clear hk c
        go_wp2
        go_ret
        exact ⟨rfl, HR.out, HK.out⟩
      · have q : (t.text == wordK 0) = false := beq_eq_false_iff_ne.2 c
        simp only [wordK] at q
        have HN2 := hidE (show ∀ i, i < 0 + 1 → t.text ≠ wordK i from fun i hi => by
          by_cases e : i = 0
          · rw [e]; exact c
          · exact HN.out i (by omega))
        clear c HN
        go_wp2
        go_roundg (5 - 0 - 1)
        case measure => have := HG.out; omega
        case rel => exact ⟨0 + 1, by omega, by omega, rfl, rfl, HN2.out⟩
    · have ix := run_ix5 #[.string ⟨#[97, 116, 111, 109]⟩, .string ⟨#[111, 114, 100, 101, 114]⟩, .string ⟨#[110, 101, 120, 116]⟩, .string ⟨#[97, 110, 121]⟩, .string ⟨#[97, 108, 108]⟩] 1 _ (by omega) rfl
      simp only [Int.cast_ofNat_Int] at ix
      by_cases c : t.text = wordK 1
      · have hk := (kindW_iff (t := t) (k := 1) (by omega)).2 ⟨HK0.out, c, HN.out⟩
        have q : (t.text == wordK 1) = true := beq_iff_eq.2 c
        simp only [wordK] at q
        rw [hk]
        clear hk c
        go_wp2
        go_ret
        exact ⟨rfl, HR.out, HK.out⟩
      · have q : (t.text == wordK 1) = false := beq_eq_false_iff_ne.2 c
        simp only [wordK] at q
        have HN2 := hidE (show ∀ i, i < 1 + 1 → t.text ≠ wordK i from fun i hi => by
          by_cases e : i = 1
          · rw [e]; exact c
          · exact HN.out i (by omega))
        clear c HN
        go_wp2
        go_roundg (5 - 1 - 1)
        case measure => have := HG.out; omega
        case rel => exact ⟨1 + 1, by omega, by omega, rfl, rfl, HN2.out⟩
    · have ix := run_ix5 #[.string ⟨#[97, 116, 111, 109]⟩, .string ⟨#[111, 114, 100, 101, 114]⟩, .string ⟨#[110, 101, 120, 116]⟩, .string ⟨#[97, 110, 121]⟩, .string ⟨#[97, 108, 108]⟩] 2 _ (by omega) rfl
      simp only [Int.cast_ofNat_Int] at ix
      by_cases c : t.text = wordK 2
      · have hk := (kindW_iff (t := t) (k := 2) (by omega)).2 ⟨HK0.out, c, HN.out⟩
        have q : (t.text == wordK 2) = true := beq_iff_eq.2 c
        simp only [wordK] at q
        rw [hk]
        clear hk c
        go_wp2
        go_ret
        exact ⟨rfl, HR.out, HK.out⟩
      · have q : (t.text == wordK 2) = false := beq_eq_false_iff_ne.2 c
        simp only [wordK] at q
        have HN2 := hidE (show ∀ i, i < 2 + 1 → t.text ≠ wordK i from fun i hi => by
          by_cases e : i = 2
          · rw [e]; exact c
          · exact HN.out i (by omega))
        clear c HN
        go_wp2
        go_roundg (5 - 2 - 1)
        case measure => have := HG.out; omega
        case rel => exact ⟨2 + 1, by omega, by omega, rfl, rfl, HN2.out⟩
    · have ix := run_ix5 #[.string ⟨#[97, 116, 111, 109]⟩, .string ⟨#[111, 114, 100, 101, 114]⟩, .string ⟨#[110, 101, 120, 116]⟩, .string ⟨#[97, 110, 121]⟩, .string ⟨#[97, 108, 108]⟩] 3 _ (by omega) rfl
      simp only [Int.cast_ofNat_Int] at ix
      by_cases c : t.text = wordK 3
      · have hk := (kindW_iff (t := t) (k := 3) (by omega)).2 ⟨HK0.out, c, HN.out⟩
        have q : (t.text == wordK 3) = true := beq_iff_eq.2 c
        simp only [wordK] at q
        rw [hk]
        clear hk c
        go_wp2
        go_ret
        exact ⟨rfl, HR.out, HK.out⟩
      · have q : (t.text == wordK 3) = false := beq_eq_false_iff_ne.2 c
        simp only [wordK] at q
        have HN2 := hidE (show ∀ i, i < 3 + 1 → t.text ≠ wordK i from fun i hi => by
          by_cases e : i = 3
          · rw [e]; exact c
          · exact HN.out i (by omega))
        clear c HN
        go_wp2
        go_roundg (5 - 3 - 1)
        case measure => have := HG.out; omega
        case rel => exact ⟨3 + 1, by omega, by omega, rfl, rfl, HN2.out⟩
    · have ix := run_ix5 #[.string ⟨#[97, 116, 111, 109]⟩, .string ⟨#[111, 114, 100, 101, 114]⟩, .string ⟨#[110, 101, 120, 116]⟩, .string ⟨#[97, 110, 121]⟩, .string ⟨#[97, 108, 108]⟩] 4 _ (by omega) rfl
      simp only [Int.cast_ofNat_Int] at ix
      by_cases c : t.text = wordK 4
      · have hk := (kindW_iff (t := t) (k := 4) (by omega)).2 ⟨HK0.out, c, HN.out⟩
        have q : (t.text == wordK 4) = true := beq_iff_eq.2 c
        simp only [wordK] at q
        rw [hk]
        clear hk c
        go_wp2
        go_ret
        exact ⟨rfl, HR.out, HK.out⟩
      · have q : (t.text == wordK 4) = false := beq_eq_false_iff_ne.2 c
        simp only [wordK] at q
        have HN2 := hidE (show ∀ i, i < 4 + 1 → t.text ≠ wordK i from fun i hi => by
          by_cases e : i = 4
          · rw [e]; exact c
          · exact HN.out i (by omega))
        clear c HN
        go_wp2
        go_roundg (5 - 4 - 1)
        case measure => have := HG.out; omega
        case rel => exact ⟨4 + 1, by omega, by omega, rfl, rfl, HN2.out⟩
    · have hk := (kindW_none HK0.out).2 HN.out
      have HH := hidE hk; clear hk
      go_wp2
      refine ⟨rfl, ?_⟩
      show KindOut B r l en dep v P w t.pos (kindW t) _ _
      rw [HH.out]
      exact ⟨rfl, HK.out⟩
theorem kind_ok {B r : Nat} {l l' : List Tok} {en dep k : Nat} {v : Value} {P : List Prt} {w : World} (h : Rd B r l en dep v P w) (hB : B ≤ w.heap.size) (hx : kindT l = .ok (k, l')) :
    Calls Tryd.prog 42 #[.pointer (some ⟨r, 0, none⟩)] w fun e w' => e = .returned (.int .u8 k) ∧ Rd B r l' en dep v P w' ∧ K1 B r w w' := by
  cases l with
  | nil => cases hx
  | cons t l =>
    unfold kindT at hx
    cases hk : kindW t with
    | none => simp only [hk] at hx; cases hx
    | some k' =>
      simp only [hk] at hx
      cases hx
      have h0 : t.kind = 0 := ((kindW_iff (kindW_le hk)).1 hk).1
      have := kind_word h hB h0
      rw [hk] at this
      exact this
theorem kind_no {B r : Nat} {l : List Tok} {en dep : Nat} {v : Value} {P : List Prt} {w : World} (h : Rd B r l en dep v P w) (hB : B ≤ w.heap.size) (x : PErr) (hx : kindT l = .error x) :
    Calls Tryd.prog 42 #[.pointer (some ⟨r, 0, none⟩)] w fun e w' => e = pan ((x.2.getD en : Nat) : Int) x.1 ∧ K1 B r w w' := by
  by_cases hk : ∃ t l', l = t :: l' ∧ t.kind = 0
  · obtain ⟨t, l', rfl, c⟩ := hk
    unfold kindT at hx
    cases hk : kindW t with
    | some k' => simp only [hk] at hx; cases hx
    | none =>
      simp only [hk] at hx
      cases hx
      have := kind_word h hB c
      rw [hk] at this
      exact this
  · have hz : takeT 0 l = .error x := by
      cases l with
      | nil => cases hx; rfl
      | cons t l =>
        have c : ¬ t.kind = 0 := fun c => hk ⟨t, l, rfl, c⟩
        have : kindW t = none := by unfold kindW; rw [if_pos c]
        unfold kindT at hx
        simp only [this] at hx
        rw [takeT_cons, if_neg c]
        cases hx
        rfl
    have HC := hidE (take_no h hB 0 0 rfl x hz)
    clear h hx
    go_enter Tryd.func42, Tryd.ntmps42
    go_wp2_with fail
    ((with_reducible refine HC.out.mono ?_); rintro e w1 ⟨rfl, hk1⟩)
    go_wp2
    exact ⟨rfl, rfl, hk1⟩
end Go.Proofs.YtaeipfnpglbooaaDoor

namespace Go.Proofs.YtaeipfnpglbooaaDoor
open Go.ChangeShapes Go.WideShapes Go.ChangeAt Go.RowKit
attribute [local irreducible] Go.Calls

/-- What a method leaves that may append to the parts: all but the reader's block and the parts' own. -/
def Kp (B r : Nat) (v : Value) (W w : World) : Prop := Below B W w ∧ ∀ k, k < W.heap.size → k ≠ r → v.ownBlock ≠ some k → w.heap[k]? = W.heap[k]?
/-- Where the parts lie behind it: where they lay, or in a new block. -/
def Loc (v v' : Value) (W : World) : Prop := v'.ownBlock = v.ownBlock ∨ ∀ k, v'.ownBlock = some k → W.heap.size ≤ k
theorem Kp.size {B r : Nat} {v : Value} {W w : World} (h : Kp B r v W w) : W.heap.size ≤ w.heap.size := h.1.size
theorem K1.kp {B r : Nat} {W w : World} (h : K1 B r W w) (v : Value) : Kp B r v W w := ⟨h.1, fun k hk hr _ => h.2 k hk hr⟩
theorem Loc.refl (v : Value) (W : World) : Loc v v W := .inl rfl
theorem Loc.trans {v v1 v2 : Value} {W w : World} (h : Loc v v1 W) (h2 : Loc v1 v2 w) (hs : W.heap.size ≤ w.heap.size) : Loc v v2 W := by
  rcases h2 with h2 | h2
  · rcases h with h | h
    · exact .inl (h2.trans h)
    · exact .inr (fun k e => h k (h2 ▸ e))
  · exact .inr (fun k e => Nat.le_trans hs (h2 k e))
theorem Kp.trans {B r : Nat} {v v1 : Value} {W w1 w2 : World} (h : Kp B r v W w1) (hl : Loc v v1 W) (h2 : Kp B r v1 w1 w2) : Kp B r v W w2 :=
  ⟨h.1.trans h2.1, fun k hk hr hv => by
    rw [h2.2 k (Nat.lt_of_lt_of_le hk h.size) hr (fun e => by
      rcases hl with hl | hl
      · exact hv (hl ▸ e)
      · have := hl k e; omega)]
    exact h.2 k hk hr hv⟩
theorem Kp.k1 {B r : Nat} {v : Value} {W w1 w2 : World} (h : Kp B r v W w1) (h2 : K1 B r w1 w2) : Kp B r v W w2 :=
  h.trans (Loc.refl v W) (h2.kp v)
theorem Kp.blk {B r k : Nat} {v : Value} {W w : World} {cs : Array Value} {t : TypeId} (h : Kp B r v W w) (hb : Blk W k cs t) (hk : k ≠ r) (hv : v.ownBlock ≠ some k) : Blk w k cs t := (h.2 k hb.lt hk hv).trans hb
/-- What reading terms leaves. -/
def TermOut (B r en dep : Nat) (v : Value) (P : List Prt) (W : World) (R : Except PErr (Fst × List Tok)) (q : Fst → Value) (e : Ending) (w' : World) : Prop :=
  match R with
  | .ok p => e = .returned (q p.1) ∧ ∃ v', Rd B r p.2 en dep v' (P ++ p.1.flat) w' ∧ Kp B r v W w' ∧ Loc v v' W ∧ (P ++ p.1.flat).length ≤ 64
  | .error x => e = pan ((x.2.getD en : Nat) : Int) x.1 ∧ Kp B r v W w'
def TermC (m : Nat) : Prop := ∀ (B r en f : Nat) (v : Value) (P : List Prt) (l : List Tok) (w : World), l.length < m → f ≤ 8 → P.length ≤ 64 → B ≤ w.heap.size → Rd B r l en (8 - f) v P w →
  Calls Tryd.prog 29 #[.pointer (some ⟨r, 0, none⟩)] w (TermOut B r en (8 - f) v P w (parP m f P.length 0 l) fun _ => .tuple #[])
theorem rd_own {B r : Nat} {l : List Tok} {en dep : Nat} {v : Value} {P : List Prt} {w : World} (h : Rd B r l en dep v P w) {k : Nat} (e : v.ownBlock = some k) : k < w.heap.size ∧ k ≠ r := by
  obtain ⟨a, cap, hI⟩ := h
  exact ⟨own_lt hI.own e, fun e2 => own_ne hI.own hI.blk (by rw [e, e2])⟩
theorem rd_lt {B r : Nat} {l : List Tok} {en dep : Nat} {v : Value} {P : List Prt} {w : World} (h : Rd B r l en dep v P w) : r < w.heap.size := by
  obtain ⟨a, cap, hI⟩ := h
  exact hI.blk.lt
set_option maxRecDepth 100000 in
set_option maxHeartbeats 1000000 in
theorem some_c (m : Nat) (hT : ∀ j, j ≤ m → TermC j) (B r en f : Nat) (v : Value) (P : List Prt) (l : List Tok) (w : World) (hl : l.length < m) (hf : f ≤ 8) (hP : P.length ≤ 64) (hB : B ≤ w.heap.size) (h : Rd B r l en (8 - f) v P w) :
    Calls Tryd.prog 49 #[.pointer (some ⟨r, 0, none⟩), .func (.func 29) #[.pointer (some ⟨r, 0, none⟩)] #[]] w (TermOut B r en (8 - f) v P w (parP m f P.length 1 l) fun F => .int .i64 F.len) := by
  obtain ⟨m, rfl⟩ : ∃ k, m = k + 1 := ⟨m - 1, by omega⟩
  have hg : goesP 1 l = true := by cases l <;> rfl
  have HC := hidE (hT (m + 1) (Nat.le_refl _) B r en f v P l w hl hf hP hB h)
  have HT := hidE hT
  have HR := hidE (parP_go (m := m) (f := f) (cnt := P.length) (by decide : (1 : Nat) ≠ 0) hg)
  have hsh := parP_shorter (m + 1) f P.length 0 l
  rw [HR.out]
  clear HR h hT
  cases hp : parP (m + 1) f P.length 0 l with
  | error x =>
    rw [hp] at HC
    simp only
    go_enter Tryd.func49, Tryd.ntmps49
    go_wp2_with fail
    ((with_reducible refine HC.out.mono ?_); rintro e w1 ⟨rfl, hk1⟩)
    go_wp2
    exact ⟨rfl, rfl, hk1⟩
  | ok p =>
    obtain ⟨F, l1⟩ := p
    rw [hp] at HC
    simp only
    have hl1 := (hsh l1 F hp).2 (by decide)
    have hF1 : F.len = 1 := by obtain ⟨x, K, rfl⟩ := parP_tree hp; rfl
    obtain ⟨R, hR⟩ : ∃ R, R = appR F (parP m f (P.length + F.size) 2 l1) := ⟨_, rfl⟩
    rw [← hR]
    have HRR := hidE hR; clear hR
    go_enter Tryd.func49, Tryd.ntmps49
    go_wp2_with fail
    ((with_reducible refine HC.out.mono ?_); rintro e w1 ⟨rfl, v1, hr1, hk1, ho1, hp1⟩)
    simp only at hr1 hp1
    have hrd1 := hidE hr1; have hkp1 := hidE hk1; have hlo1 := hidE ho1; have hpl1 := hidE hp1
    have HL1 := hidE hl1.1; have HF1 := hidE hF1
    clear hr1 hk1 ho1 hp1 hl1 HC hp hsh hF1
    go_wp2_with fail
    go_loopg [5] l1.length (fun gh v5 wr => ∃ (mm : Nat) (Fd : Fst) (l' : List Tok) (v' : Value), l'.length ≤ gh ∧ v5 = .int .i64 Fd.len ∧ R = appR Fd (parP mm f (P.length + Fd.size) 2 l') ∧ Rd B r l' en (8 - f) v' (P ++ Fd.flat) wr ∧ Kp B r v w wr ∧ Loc v v' w ∧ (P ++ Fd.flat).length ≤ 64 ∧ l'.length < mm ∧ mm ≤ m)
    case atStart =>
      exact ⟨m, F, l1, v1, Nat.le_refl _, by rw [HF1.out]; rfl, HRR.out, hrd1.out, hkp1.out, hlo1.out, hpl1.out, by have := HL1.out; omega, Nat.le_refl _⟩
    case round =>
      obtain ⟨mm, Fd, l', v', hgh, rfl, hRe, hrd, hkp, hlo, hpl, hmm, hmm2⟩ := hrel
      have hlen : (P ++ Fd.flat).length = P.length + Fd.size := by rw [List.length_append, flat_len]
      have hfl : Fd.len ≤ 64 := by have := len_size Fd; omega
      have hBr : B ≤ wr.heap.size := Nat.le_trans hB hkp.size
      have HGH := hidE hgh; have HRE := hidE hRe; have HRD := hidE hrd; have HKP := hidE hkp; have HLO := hidE hlo; have HPL := hidE hpl; have HLEN := hidE hlen
      obtain ⟨mm, rfl⟩ : ∃ k, mm = k + 1 := ⟨mm - 1, by omega⟩
      obtain ⟨a, cap, hI⟩ := hrd
      have c0 := hI.blk.cell 0; have z := hI.blk.lt; have htok := hI.tok; have hbase := hI.base
      have hcap := hI.cap1; have hcap2 := hI.cap2
      clear hI hgh hRe hkp hlo hpl hlen hrd1 hkp1 hlo1 hpl1 HL1 HRR HF1
      have stop : goesP 2 l' = false → R = .ok (Fd, l') := fun hst => by rw [HRE.out, parP_stop hst]; simp only [appR, app_nil]
      have fin : ∀ w', w' = wr → R = .ok (Fd, l') → TermOut B r en (8 - f) v P w R (fun F => .int .i64 F.len) (.returned (.int .i64 Fd.len)) w' := by
        rintro w' rfl hR2
        rw [hR2]
        exact ⟨rfl, v', HRD.out, HKP.out, HLO.out, HPL.out⟩
      cases l' with
      | nil =>
        simp at c0
        have HST := hidE (stop rfl); have FIN := hidE fin; clear htok stop fin
        go_wp2
        go_ret
        exact FIN.out _ rfl HST.out
      | cons t l2 =>
        obtain ⟨b, off, rfl, hbB, hc⟩ := htok (by simp)
        have g0 := (hc 0 (by simp)).1
        simp at c0 g0
        have hbr : b < wr.heap.size := by omega
        simp only [List.length_cons] at hcap
        have q2 : decide ((l2.length : Int) + 1 > 0) = true := decide_eq_true (by omega)
        have q3 : decide ((0 : Int) < (l2.length : Int) + 1) = true := decide_eq_true (by omega)
        by_cases ht : t.kind = 2
        · have q : ((t.kind : Int) == 2) = true := beq_iff_eq.2 (by omega)
          have hgt : goesP 2 (t :: l2) = true := by show (2 != 2 || t.kind == 2) = true; rw [ht]; rfl
          have hgo := parP_go (m := mm) (f := f) (cnt := P.length + Fd.size) (by decide : (2 : Nat) ≠ 0) hgt
          have HC2 := hidE (HT.out (mm + 1) (by omega) B r en f v' (P ++ Fd.flat) (t :: l2) wr hmm hf HPL.out hBr HRD.out)
          rw [HLEN.out] at HC2
          have hsh2 := parP_shorter (mm + 1) f (P.length + Fd.size) 0 (t :: l2)
          have HGO := hidE hgo; clear hgo stop fin hc
          cases hp2 : parP (mm + 1) f (P.length + Fd.size) 0 (t :: l2) with
          | error x =>
            rw [hp2] at HC2
            have hR3 := HRE.out
            rw [HGO.out, hp2] at hR3
            have HR3 := hidE hR3; clear hR3 HGO HRE hp2 hsh2
            go_wp2_with fail
            ((with_reducible refine HC2.out.mono ?_); rintro e w1 ⟨rfl, hk1⟩)
            have HK1 := hidE hk1; clear hk1
            go_wp2
            refine ⟨rfl, ?_⟩
            show TermOut B r en (8 - f) v P w R _ _ _
            rw [HR3.out]
            exact ⟨rfl, HKP.out.trans HLO.out HK1.out⟩
          | ok p2 =>
            obtain ⟨F2, l3⟩ := p2
            rw [hp2] at HC2
            have hl3 := ((hsh2 l3 F2 hp2).2 (by decide)).1
            have hF2 : F2.len = 1 := by obtain ⟨x, K, rfl⟩ := parP_tree hp2; rfl
            have hR3 := HRE.out
            rw [HGO.out, hp2] at hR3
            simp only [appR_app] at hR3
            have HR3 := hidE hR3; have HL3 := hidE hl3; have HF2 := hidE hF2; clear hR3 HGO HRE hp2 hsh2 hl3 hF2
            have w64 : IntKind.i64.wrap ((Fd.len : Int) + 1) = (Fd.len : Int) + 1 := IntWalk.i64_in _ (by omega)
            go_wp2_with fail
            ((with_reducible refine HC2.out.mono ?_); rintro e w1 ⟨rfl, v2, hr2, hk2, ho2, hp2⟩)
            simp only at hr2 hp2
            have HR2 := hidE hr2; have HK2 := hidE hk2; have HO2 := hidE ho2; have HP2 := hidE hp2; clear hr2 hk2 ho2 hp2
            go_wp2
            go_roundg l3.length
            case measure => have := HGH.out; have := HL3.out; simp only [List.length_cons] at *; omega
            case rel =>
              refine ⟨mm, Fd.app F2, l3, v2, Nat.le_refl _, by rw [app_len, HF2.out]; rfl, ?_, ?_, HKP.out.trans HLO.out HK2.out, HLO.out.trans HO2.out HKP.out.size, ?_, by have := HL3.out; simp only [List.length_cons] at *; omega, by omega⟩
              · rw [HR3.out, app_size, Nat.add_assoc]
              · rw [app_flat, ← List.append_assoc]; exact HR2.out
              · rw [app_flat, ← List.append_assoc]; exact HP2.out
        · have q : ((t.kind : Int) == 2) = false := beq_eq_false_iff_ne.2 (by omega)
          have HST := hidE (stop (by show (2 != 2 || t.kind == 2) = false; rw [show (t.kind == 2) = false from beq_eq_false_iff_ne.2 ht]; rfl)); have FIN := hidE fin; clear stop fin hc
          go_wp2
          go_ret
          exact FIN.out _ rfl HST.out
/-- What operands leaves. -/
def OpOut (B r en dep : Nat) (v : Value) (P : List Prt) (W : World) (R : Except PErr (Prt × Fst × List Tok)) (e : Ending) (w' : World) : Prop :=
  match R with
  | .ok p => e = .returned (prtV { p.1 with kids := p.2.1.len }) ∧ ∃ v', Rd B r p.2.2 en dep v' (P ++ p.2.1.flat) w' ∧ Kp B r v W w' ∧ Loc v v' W ∧ (P ++ p.2.1.flat).length ≤ 64
  | .error x => e = pan ((x.2.getD en : Nat) : Int) x.1 ∧ Kp B r v W w'
theorem numT_bd {lim n : Int} {l l' : List Tok} (h : numT lim l = .ok (n, l')) (hn : ∀ t ∈ l, 0 ≤ t.num) : 0 ≤ n ∧ n ≤ lim := by
  obtain ⟨a, b, _⟩ := numT_ok hn h
  exact ⟨a, b⟩
theorem rd_nn {B r : Nat} {l : List Tok} {en dep : Nat} {v : Value} {P : List Prt} {w : World} (h : Rd B r l en dep v P w) : ∀ t ∈ l, 0 ≤ t.num := by
  obtain ⟨a, cap, hI⟩ := h
  exact hI.nn
theorem rd_base {B r : Nat} {l : List Tok} {en dep : Nat} {v : Value} {P : List Prt} {w : World} (h : Rd B r l en dep v P w) : B ≤ r := by
  obtain ⟨a, cap, hI⟩ := h
  exact hI.base
/-- A store beside the reader. -/
theorem k1_other {B r p i : Nat} {W w : World} (h : K1 B r W w) (hp : W.heap.size ≤ p) (hB : B ≤ W.heap.size) (v : Value) : K1 B r W (w.setCell ⟨p, i, none⟩ v) :=
  ⟨h.1.setCell (p := ⟨p, i, none⟩) (Nat.le_trans hB hp) v, fun k hk hkr => (keptS (by omega) v).trans (h.2 k hk hkr)⟩
theorem rd_other {B r : Nat} {l : List Tok} {en dep : Nat} {v : Value} {P : List Prt} {w : World} (h : Rd B r l en dep v P w) {p : Nat} (hB : B ≤ p) (hr : p ≠ r) (hv : v.ownBlock ≠ some p) (i : Nat) (x : Value) : Rd B r l en dep v P (w.setCell ⟨p, i, none⟩ x) := by
  obtain ⟨a, cap, hI⟩ := h
  have hb : Below B w (w.setCell ⟨p, i, none⟩ x) := (Below.refl B w).setCell (p := ⟨p, i, none⟩) hB x
  exact ⟨a, cap, hI.blk.other (fun e => hr e.symm) x, hI.tok.below hb, hI.cap1, hI.cap2, own_kept hI.own (fun k e => keptS (fun e2 => hv (by rw [e, e2])) x), hI.base, hI.words.below hb hI.wlt, hI.wlt, hI.nn⟩
theorem kp_new {B r p i : Nat} {v : Value} {W w : World} (h : Kp B r v W w) (hp : W.heap.size ≤ p) (hB : B ≤ W.heap.size) (x : Value) : Kp B r v W (w.setCell ⟨p, i, none⟩ x) :=
  ⟨h.1.setCell (p := ⟨p, i, none⟩) (Nat.le_trans hB hp) x, fun k hk hkr hv => (keptS (by omega) x).trans (h.2 k hk hkr hv)⟩
set_option maxRecDepth 100000 in
set_option maxHeartbeats 1000000 in
theorem op_group (m : Nat) (hT : ∀ j, j ≤ m → TermC j) (B r en f : Nat) (v : Value) (P : List Prt) (l : List Tok) (w : World) (hl : l.length < m) (hf : f ≤ 8) (hP : P.length ≤ 64) (hB : B ≤ w.heap.size) (h : Rd B r l en (8 - f) v P w) (k : Nat) (hk0 : k ≠ 0) :
    Calls Tryd.prog 41 #[.pointer (some ⟨r, 0, none⟩), .int .u8 k] w (OpOut B r en (8 - f) v P w (opT m f P.length k l)) := by
  have q : ((k : Int) == 0) = false := beq_eq_false_iff_ne.2 (by omega)
  have hrl := rd_lt h
  have hvo := fun k e => rd_own h (k := k) e
  have HS := hidE (fun w' (hb : Below w.heap.size w w') => some_c m hT B r en f v P l w' hl hf hP (Nat.le_trans hB hb.size) (h.past hB hb))
  have HR := hidE h
  unfold opT
  rw [if_neg hk0]
  clear hT h hk0
  cases hp : parP m f P.length 1 l with
  | error x =>
    rw [hp] at HS
    clear hp
    go_enter Tryd.func41, Tryd.ntmps41
    go_wp2_with fail
    ((with_reducible refine (HS.out _ (by (repeat (first | exact Below.refl _ _ | assumption | refine balloc ?_ _ | refine below_drewN ?_ _ | refine bstep (by assumption) ?_ | refine bstep (Past.prop _) ?_ | refine Below.setCell ?_ (by first | exact Nat.le_refl _ | (simp; done) | (simp; omega)) _)))).mono ?_); rintro e w1 ⟨rfl, hk1⟩)
    have HK := hidE (((((K1.refl B r w).alloc hB _).alloc hB _).kp v).trans (Loc.refl v w) hk1); clear hk1
    go_wp2
    exact ⟨rfl, rfl, HK.out⟩
  | ok p =>
    obtain ⟨F, l1⟩ := p
    rw [hp] at HS
    clear hp
    go_enter Tryd.func41, Tryd.ntmps41
    go_wp2_with fail
    ((with_reducible refine (HS.out _ (by (repeat (first | exact Below.refl _ _ | assumption | refine balloc ?_ _ | refine below_drewN ?_ _ | refine bstep (by assumption) ?_ | refine bstep (Past.prop _) ?_ | refine Below.setCell ?_ (by first | exact Nat.le_refl _ | (simp; done) | (simp; omega)) _)))).mono ?_); rintro e w1 ⟨rfl, v', hr1, hk1, hlo, hpl⟩)
    simp only at hr1 hpl
    have b0 := hk1.blk ((Blk.made w #[.int .u8 0, .int .u32 0, .int .u32 0, .int .i64 0, .int .i64 0] 41).alloc _) (by omega) (fun e => by have := (hvo _ e).1; omega)
    have b1 := hk1.blk (Blk.made_at (w.alloc (.cells #[.int .u8 0, .int .u32 0, .int .u32 0, .int .i64 0, .int .i64 0] 41)) #[.int .u8 k, .int .u32 0, .int .u32 0, .int .i64 0, .int .i64 0] 41 (w.heap.size + 1) (by simp)) (by omega) (fun e => by have := (hvo _ e).1; omega)
    have hk2 := ((((K1.refl B r w).alloc hB _).alloc hB _).kp v).trans (Loc.refl v w) hk1
    have hlo2 : Loc v v' w := by
      rcases hlo with hlo | hlo
      · exact .inl hlo
      · exact .inr (fun k e => by have := hlo k e; simp at this; omega)
    have hv1 : ∀ p, w.heap.size ≤ p → p < w.heap.size + 2 → v'.ownBlock ≠ some p := fun p h1 h2 e => by
      rcases hlo with hlo | hlo
      · have := (hvo _ (hlo ▸ e)).1; omega
      · have := hlo p e; simp at this; omega
    have HK := hidE hk2; have HL := hidE hlo2; have HRD := hidE hr1; have HPL := hidE hpl; have HV := hidE hv1
    have HB0 := hidE b0; have HB1 := hidE b1
    have z0 := b0.lt; have z1 := b1.lt
    have c0 := b1.cell 0; have c1 := b1.cell 1; have c2 := b1.cell 2; have c3 := b1.cell 3; have c4 := b1.cell 4
    have f1 := b1.free; have f0 := b0.free
    simp at c0 c1 c2 c3 c4
    have d0 := b0.cell 0; have d1 := b0.cell 1; have d2 := b0.cell 2; have d3 := b0.cell 3; have d4 := b0.cell 4
    simp at d0 d1 d2 d3 d4
    clear hk1 hlo hpl hk2 hlo2 hr1 hv1 b0 b1 HS hvo
    go_wp2
    refine bodyPost_ret (v := prtV ⟨k, 0, 0, 0, F.len⟩) (by simp [results, Tryd.results41, go_sem, *]) rfl ⟨rfl, v', ?_, ?_, HL.out, HPL.out⟩
    · have hbr : B ≤ w.heap.size := hB
      have v0 := HV.out w.heap.size (Nat.le_refl _) (by omega); have v1 := HV.out (w.heap.size + 1) (by omega) (by omega)
      exact rd_other (rd_other (rd_other (rd_other (rd_other (rd_other HRD.out (by omega) (by omega) v1 _ _) hB (by omega) v0 _ _) hB (by omega) v0 _ _) hB (by omega) v0 _ _) hB (by omega) v0 _ _) hB (by omega) v0 _ _
    · exact kp_new (kp_new (kp_new (kp_new (kp_new (kp_new HK.out (by omega) hB _) (Nat.le_refl _) hB _) (Nat.le_refl _) hB _) (Nat.le_refl _) hB _) (Nat.le_refl _) hB _) (Nat.le_refl _) hB _
/-- What is kept between an atom's numbers. -/
def AtSt (B r : Nat) (l : List Tok) (en dep : Nat) (v : Value) (P : List Prt) (n g d : Int) (W w : World) : Prop :=
  Rd B r l en dep v P w ∧ K1 B r W w ∧ Blk w W.heap.size #[.int .u8 0, .int .u32 0, .int .u32 0, .int .i64 0, .int .i64 0] 41 ∧ Blk w (W.heap.size + 1) #[.int .u8 0, .int .u32 n, .int .u32 g, .int .i64 d, .int .i64 0] 41
theorem AtSt.step {B r : Nat} {l l' : List Tok} {en dep : Nat} {v : Value} {P : List Prt} {n g d : Int} {W w w' : World} (h : AtSt B r l en dep v P n g d W w) (hr : r < W.heap.size) (hR : Rd B r l' en dep v P w') (hk : K1 B r w w') : AtSt B r l' en dep v P n g d W w' :=
  ⟨hR, h.2.1.trans hk, hk.blk h.2.2.1 (by omega), hk.blk h.2.2.2 (by omega)⟩
theorem AtSt.set {B r : Nat} {l : List Tok} {en dep : Nat} {v : Value} {P : List Prt} {n g d n' g' d' : Int} {W w : World} (h : AtSt B r l en dep v P n g d W w) (hr : r < W.heap.size) (hB : B ≤ W.heap.size) (hv : v.ownBlock ≠ some (W.heap.size + 1)) {i : Nat} {x : Value}
    (hx : (#[.int .u8 0, .int .u32 n, .int .u32 g, .int .i64 d, .int .i64 0] : Array Value).setIfInBounds i x = #[.int .u8 0, .int .u32 n', .int .u32 g', .int .i64 d', .int .i64 0]) : AtSt B r l en dep v P n' g' d' W (w.setCell ⟨W.heap.size + 1, i, none⟩ x) :=
  ⟨rd_other h.1 (by omega) (by omega) hv _ _, k1_other h.2.1 (by omega) hB _, h.2.2.1.other (by omega) _, hx ▸ h.2.2.2.set i x⟩
set_option maxRecDepth 100000 in
set_option maxHeartbeats 1000000 in
theorem op_atom (m : Nat) (B r en dep f : Nat) (v : Value) (P : List Prt) (l : List Tok) (w : World) (hP : P.length ≤ 64) (hB : B ≤ w.heap.size) (h : Rd B r l en dep v P w) :
    Calls Tryd.prog 41 #[.pointer (some ⟨r, 0, none⟩), .int .u8 0] w (OpOut B r en dep v P w (opT m f P.length 0 l)) := by
  have hrl := rd_lt h
  have hvo := fun k e => rd_own h (k := k) e
  have hv1 : v.ownBlock ≠ some (w.heap.size + 1) := fun e => by have := (hvo _ e).1; omega
  have hv0 : v.ownBlock ≠ some w.heap.size := fun e => by have := (hvo _ e).1; omega
  have hnn := rd_nn h
  unfold opT
  rw [if_pos rfl]
  have hS : AtSt B r l en dep v P 0 0 0 w ((w.alloc (.cells #[.int .u8 0, .int .u32 0, .int .u32 0, .int .i64 0, .int .i64 0] 41)).alloc (.cells #[.int .u8 0, .int .u32 0, .int .u32 0, .int .i64 0, .int .i64 0] 41)) :=
    ⟨(h.alloc hB _).alloc (by simp; omega) _, ((K1.refl B r w).alloc hB _).alloc hB _, (Blk.made _ _ _).alloc _, Blk.made_at _ _ _ _ (by simp)⟩
  have HS := hidE hS
  clear hvo h hS
  unfold numsT
  cases h1 : numT 4294967295 l with
  | error x =>
    go_enter Tryd.func41, Tryd.ntmps41
    go_wp2_with fail
    generalize World.alloc _ _ = w1 at *
    have HC := hidE (num_no HS.out.1 (Nat.le_trans hB HS.out.2.1.size) 4294967295 x h1)
    ((with_reducible refine HC.out.mono ?_); rintro e w2 ⟨rfl, hk⟩)
    have HK := hidE (HS.out.2.1.trans hk); clear hk
    go_wp2
    exact ⟨rfl, rfl, HK.out.kp v⟩
  | ok p =>
    obtain ⟨n, l1⟩ := p
    have hn := numT_bd h1 hnn
    have wn : IntKind.u32.wrap n = n := IntWalk.u32_in _ (by omega)
    have HC := hidE (fun w' (h : AtSt B r l en dep v P 0 0 0 w w') => num_ok h.1 (Nat.le_trans hB h.2.1.size) 4294967295 n h1)
    simp only
    have hnn1 : ∀ t ∈ l1, 0 ≤ t.num := fun t ht => by
      obtain ⟨_, _, t0, e⟩ := numT_ok hnn h1
      exact hnn t (by rw [e]; exact List.mem_cons_of_mem _ ht)
    clear hnn h1
    cases h2 : numT 4294967295 l1 with
    | error x =>
      simp only
      go_enter Tryd.func41, Tryd.ntmps41
      go_wp2_with fail
      generalize World.alloc _ _ = w1 at *
      ((with_reducible refine (HC.out _ HS.out).mono ?_); rintro e w2 ⟨rfl, hr2, hk2⟩)
      have hS2 := HS.out.step hrl hr2 hk2
      have z1 := hS2.2.2.2.lt; have f1 := hS2.2.2.2.free; have cz := hS2.2.2.2.cell 1
      simp at cz
      have HS2 := hidE hS2; clear hr2 hk2 hS2 HS
      go_wp2_with fail
      have hS3 := HS2.out.set (i := 1) (x := .int .u32 n) hrl hB hv1 rfl
      have HC2 := hidE (num_no hS3.1 (Nat.le_trans hB hS3.2.1.size) 4294967295 x h2)
      ((with_reducible refine HC2.out.mono ?_); rintro e w3 ⟨rfl, hk⟩)
      have HK := hidE (hS3.2.1.trans hk); clear hk
      go_wp2
      exact ⟨rfl, rfl, HK.out.kp v⟩
    | ok p =>
      obtain ⟨g, l2⟩ := p
      have hg := numT_bd h2 hnn1
      have wg : IntKind.u32.wrap g = g := IntWalk.u32_in _ (by omega)
      have HC2 := hidE (fun w' (h : AtSt B r l1 en dep v P n 0 0 w w') => num_ok h.1 (Nat.le_trans hB h.2.1.size) 4294967295 g h2)
      simp only
      have hnn2 : ∀ t ∈ l2, 0 ≤ t.num := fun t ht => by
        obtain ⟨_, _, t0, e⟩ := numT_ok hnn1 h2
        exact hnn1 t (by rw [e]; exact List.mem_cons_of_mem _ ht)
      clear hnn1 h2
      cases h3 : numT 1099511627776 l2 with
      | error x =>
        simp only
        go_enter Tryd.func41, Tryd.ntmps41
        go_wp2_with fail
        generalize World.alloc _ _ = w1 at *
        ((with_reducible refine (HC.out _ HS.out).mono ?_); rintro e w2 ⟨rfl, hr2, hk2⟩)
        have hS2 := HS.out.step hrl hr2 hk2
        have z1 := hS2.2.2.2.lt; have f1 := hS2.2.2.2.free; have cz := hS2.2.2.2.cell 1
        simp at cz
        have HS2 := hidE hS2; clear hr2 hk2 hS2 HS
        go_wp2_with fail
        have hS3 := HS2.out.set (i := 1) (x := .int .u32 n) hrl hB hv1 rfl
        ((with_reducible refine (HC2.out _ hS3).mono ?_); rintro e w3 ⟨rfl, hr3, hk3⟩)
        have hS4 := hS3.step hrl hr3 hk3
        clear z1 f1 cz hr3 hk3 hS3 HS2
        have z1 := hS4.2.2.2.lt; have f1 := hS4.2.2.2.free; have cz := hS4.2.2.2.cell 2
        simp at cz
        have HS4 := hidE hS4; clear hS4
        go_wp2_with fail
        have hS5 := HS4.out.set (i := 2) (x := .int .u32 g) hrl hB hv1 rfl
        have HC3 := hidE (num_no hS5.1 (Nat.le_trans hB hS5.2.1.size) 1099511627776 x h3)
        ((with_reducible refine HC3.out.mono ?_); rintro e w5 ⟨rfl, hk⟩)
        have HK := hidE (hS5.2.1.trans hk); clear hk
        go_wp2
        exact ⟨rfl, rfl, HK.out.kp v⟩
      | ok p =>
        obtain ⟨d, l3⟩ := p
        have HC3 := hidE (fun w' (h : AtSt B r l2 en dep v P n g 0 w w') => num_ok h.1 (Nat.le_trans hB h.2.1.size) 1099511627776 d h3)
        simp only
        clear hnn2 h3
        go_enter Tryd.func41, Tryd.ntmps41
        go_wp2_with fail
        generalize World.alloc _ _ = w1 at *
        ((with_reducible refine (HC.out _ HS.out).mono ?_); rintro e w2 ⟨rfl, hr2, hk2⟩)
        have hS2 := HS.out.step hrl hr2 hk2
        have z1 := hS2.2.2.2.lt; have f1 := hS2.2.2.2.free; have cz := hS2.2.2.2.cell 1
        simp at cz
        have HS2 := hidE hS2; clear hr2 hk2 hS2 HS
        go_wp2_with fail
        have hS3 := HS2.out.set (i := 1) (x := .int .u32 n) hrl hB hv1 rfl
        ((with_reducible refine (HC2.out _ hS3).mono ?_); rintro e w3 ⟨rfl, hr3, hk3⟩)
        have hS4 := hS3.step hrl hr3 hk3
        clear z1 f1 cz hr3 hk3 hS3 HS2
        have z1 := hS4.2.2.2.lt; have f1 := hS4.2.2.2.free; have cz := hS4.2.2.2.cell 2
        simp at cz
        have HS4 := hidE hS4; clear hS4
        go_wp2_with fail
        have hS5 := HS4.out.set (i := 2) (x := .int .u32 g) hrl hB hv1 rfl
        ((with_reducible refine (HC3.out _ hS5).mono ?_); rintro e w5 ⟨rfl, hr5, hk5⟩)
        have hS6 := hS5.step hrl hr5 hk5
        clear z1 f1 cz hr5 hk5 hS5 HS4
        have z1 := hS6.2.2.2.lt; have f1 := hS6.2.2.2.free
        have c0 := hS6.2.2.2.cell 0; have c1 := hS6.2.2.2.cell 1; have c2 := hS6.2.2.2.cell 2; have c3 := hS6.2.2.2.cell 3; have c4 := hS6.2.2.2.cell 4
        have z0 := hS6.2.2.1.lt; have f0 := hS6.2.2.1.free
        have d0 := hS6.2.2.1.cell 0; have d1 := hS6.2.2.1.cell 1; have d2 := hS6.2.2.1.cell 2; have d3 := hS6.2.2.1.cell 3; have d4 := hS6.2.2.1.cell 4
        simp at c0 c1 c2 c3 c4 d0 d1 d2 d3 d4
        have HS6 := hidE hS6; clear hS6
        go_wp2
        have n1 : ((n.toNat : Nat) : Int) = n := Int.toNat_of_nonneg hn.1
        have n2 : ((g.toNat : Nat) : Int) = g := Int.toNat_of_nonneg hg.1
        refine bodyPost_ret (v := prtV ⟨0, n.toNat, g.toNat, d, 0⟩) (by simp [results, Tryd.results41, go_sem, *]) rfl ⟨rfl, v, ?_, ?_, Loc.refl _ _, by simpa [Fst.flat] using hP⟩
        · rw [show P ++ Fst.nil.flat = P from List.append_nil P]
          exact rd_other (rd_other (rd_other (rd_other (rd_other (rd_other HS6.out.1 (by omega) (by omega) hv1 _ _) hB (by omega) hv0 _ _) hB (by omega) hv0 _ _) hB (by omega) hv0 _ _) hB (by omega) hv0 _ _) hB (by omega) hv0 _ _
        · exact kp_new (kp_new (kp_new (kp_new (kp_new (kp_new (HS6.out.2.1.kp v) (by omega) hB _) (Nat.le_refl _) hB _) (Nat.le_refl _) hB _) (Nat.le_refl _) hB _) (Nat.le_refl _) hB _) (Nat.le_refl _) hB _
end Go.Proofs.YtaeipfnpglbooaaDoor

namespace Go.Proofs.YtaeipfnpglbooaaDoor
open Go.ChangeShapes Go.WideShapes Go.ChangeAt Go.RowKit
attribute [local irreducible] Go.Calls

theorem set_getD (l : List Prt) (_i : Nat) (x y : Prt) (r : List Prt) : (l ++ y :: r).set l.length x = l ++ x :: r := by
  induction l with
  | nil => rfl
  | cons z l ih => simp only [List.cons_append, List.length_cons, List.set_cons_succ, ih]
theorem cells_set : ∀ (l : List Prt) (i : Nat) (x : Prt), i < l.length →
    ((((cellsOfP l |>.set (i * 5) (.int .u8 x.kind)).set (i * 5 + 1) (.int .u32 x.n)).set (i * 5 + 2) (.int .u32 x.g)).set (i * 5 + 3) (.int .i64 x.d)).set (i * 5 + 4) (.int .i64 x.kids) = cellsOfP (l.set i x)
  | [], i, x, h => by simp at h
  | y :: l, 0, x, _ => rfl
  | y :: l, i + 1, x, h => by
    have ih := cells_set l i x (by simpa using h)
    have e : ∀ j, (i + 1) * 5 + j = i * 5 + j + 1 + 1 + 1 + 1 + 1 := fun j => by omega
    rw [e 1, e 2, e 3, e 4, show (i + 1) * 5 = i * 5 + 1 + 1 + 1 + 1 + 1 by omega]
    simp only [cellsOfP, List.set_cons_succ, ih]
/-- A part that is stored into the call's own parts. -/
theorem own_setP {w : World} {B g n cap : Nat} {l : List Prt} (h : w.ownsRow B 41 5 (.slice (some ⟨g, 0, none⟩) n cap) n (cellsOfP l)) {i : Nat} (hi : i < l.length) (x : Prt) :
    (((((w.setCell ⟨g, i * 5, none⟩ (.int .u8 x.kind)).setCell ⟨g, i * 5 + 1, none⟩ (.int .u32 x.n)).setCell ⟨g, i * 5 + 2, none⟩ (.int .u32 x.g)).setCell ⟨g, i * 5 + 3, none⟩ (.int .i64 x.d)).setCell ⟨g, i * 5 + 4, none⟩ (.int .i64 x.kids)).ownsRow B 41 5 (.slice (some ⟨g, 0, none⟩) n cap) n (cellsOfP (l.set i x)) := by
  rw [← cells_set l i x hi]
  exact (((((h.stored _ _).1.stored _ _).1.stored _ _).1.stored _ _).1.stored _ _).1
/-- The cells of an empty part. -/
abbrev zeroP : List Value := [.int .u8 0, .int .u32 0, .int .u32 0, .int .i64 0, .int .i64 0]
theorem new_at (w : World) (cs : Array Value) (t : TypeId) (k : Nat) (h : k = w.heap.size) : ∀ j u, cs.toList[j]? = some u → (w.alloc (.cells cs t)).cell? ((⟨k, 0, none⟩ : Addr).add j) = some u := h ▸ new_cellsB w cs t
theorem zeroP_one : ∀ u ∈ zeroP, u.oneCell' = true := by
  intro y hy
  simp only [zeroP, List.mem_cons, List.not_mem_nil, or_false] at hy
  rcases hy with rfl | rfl | rfl | rfl | rfl <;> rfl
theorem blk_pushed {B r : Nat} {l : List Tok} {en dep : Nat} {v : Value} {P : List Prt} {a : Option Addr} {cap : Nat} {W w2 : World} (hI : RdI B r l en dep v P a cap W) (o : Obj) (hg : ((W.setCell ⟨r, 2, none⟩ (.int .i64 ((dep : Int) + 1))).alloc o).grownBy w2 v.ownBlock) :
    Blk w2 r #[.slice a l.length cap, .int .i64 en, .int .i64 ((dep : Int) + 1), v] 48 := by
  have h1 : Blk ((W.setCell ⟨r, 2, none⟩ (.int .i64 ((dep : Int) + 1))).alloc o) r #[.slice a l.length cap, .int .i64 en, .int .i64 ((dep : Int) + 1), v] 48 := by
    have := (hI.blk.set 2 (.int .i64 ((dep : Int) + 1))).alloc o
    simpa using this
  exact h1.grown hg (fun e => own_ne hI.own hI.blk e.symm)
theorem own_deeper {B r : Nat} {l : List Tok} {en dep : Nat} {v : Value} {P : List Prt} {a : Option Addr} {cap : Nat} {W : World} (hI : RdI B r l en dep v P a cap W) (x : Value) (o : Obj) : ((W.setCell ⟨r, 2, none⟩ x).alloc o).ownsRow B 41 5 v P.length (cellsOfP P) :=
  World.ownsRow.alloc (own_kept hI.own (fun k e => keptS (fun e2 => own_ne hI.own hI.blk (by rw [e, e2])) x)) o
/-- An empty part is appended, one level deeper. -/
theorem pushed {B r : Nat} {l : List Tok} {en dep : Nat} {v v' : Value} {P : List Prt} {a : Option Addr} {cap : Nat} {w0 W w2 : World} (hI : RdI B r l en dep v P a cap W) (hK : K1 B r w0 W) (hB : B ≤ w0.heap.size) (o : Obj)
    (ho : w2.ownsRow B 41 5 v' (P.length + 1) (cellsOfP P ++ zeroP)) (hg : ((W.setCell ⟨r, 2, none⟩ (.int .i64 ((dep : Int) + 1))).alloc o).grownBy w2 v.ownBlock)
    (hat : v'.ownBlock = v.ownBlock ∨ v'.ownBlock = some ((W.setCell ⟨r, 2, none⟩ (.int .i64 ((dep : Int) + 1))).alloc o).heap.size) :
    Rd B r l en (dep + 1) v' (P ++ [pr0]) (w2.setCell ⟨r, 3, none⟩ v') ∧ Kp B r v w0 (w2.setCell ⟨r, 3, none⟩ v') ∧ Loc v v' w0 := by
  have hb2 := blk_pushed hI o hg
  have hbk : Blk (w2.setCell ⟨r, 3, none⟩ v') r #[.slice a l.length cap, .int .i64 en, .int .i64 ((dep : Int) + 1), v'] 48 := by
    have := hb2.set 3 v'
    simpa using this
  have hKA : K1 B r w0 ((W.setCell ⟨r, 2, none⟩ (.int .i64 ((dep : Int) + 1))).alloc o) := (k1_set hK hI.base _).alloc hB o
  have hbA : Below B w0 w2 := hKA.1.grown hg (Nat.le_trans hB hKA.size) (fun k hk => own_block hI.own hk)
  have hb3 : Below B w0 (w2.setCell ⟨r, 3, none⟩ v') := hbA.setCell (p := ⟨r, 3, none⟩) hI.base v'
  have hbW : Below B W (w2.setCell ⟨r, 3, none⟩ v') := by
    have h1 : Below B W ((W.setCell ⟨r, 2, none⟩ (.int .i64 ((dep : Int) + 1))).alloc o) := ((k1_set (K1.refl B r W) hI.base _).alloc (Nat.le_trans hB hK.size) o).1
    exact (h1.grown hg (by have := hKA.size; omega) (fun k hk => own_block hI.own hk)).setCell (p := ⟨r, 3, none⟩) hI.base v'
  refine ⟨⟨a, cap, ?_⟩, ⟨hb3, fun k hk hkr hv => ?_⟩, ?_⟩
  · refine ⟨by simpa using hbk, hI.tok.below hbW, hI.cap1, hI.cap2, ?_, hI.base, hI.words.below hbW hI.wlt, hI.wlt, hI.nn⟩
    have e : cellsOfP (P ++ [pr0]) = cellsOfP P ++ zeroP := cellsOfP_app P [pr0]
    rw [e, List.length_append]
    exact own_kept ho (fun k e => keptS (fun e2 => own_ne ho hb2 (by rw [e, e2])) v')
  · rw [keptS hkr v', hg.block k (Nat.lt_of_lt_of_le hk hKA.size) (fun e => hv e.symm)]
    exact hKA.2 k hk hkr
  · rcases hat with hat | hat
    · exact .inl hat
    · exact .inr (fun k e => by rw [hat] at e; cases e; exact hKA.size)
/-- A part that is stored among the reader's parts. -/
theorem rd_stored {B r : Nat} {l : List Tok} {en dep g n cg : Nat} {P : List Prt} {a : Option Addr} {cap : Nat} {W : World} (hI : RdI B r l en dep (.slice (some ⟨g, 0, none⟩) n cg) P a cap W) (hn : n = P.length) (hg : B ≤ g) {i : Nat} (hi : i < P.length) (x : Prt) {z : Int} (hz : z = x.kids) :
    Rd B r l en dep (.slice (some ⟨g, 0, none⟩) n cg) (P.set i x) (((((W.setCell ⟨g, i * 5, none⟩ (.int .u8 x.kind)).setCell ⟨g, i * 5 + 1, none⟩ (.int .u32 x.n)).setCell ⟨g, i * 5 + 2, none⟩ (.int .u32 x.g)).setCell ⟨g, i * 5 + 3, none⟩ (.int .i64 x.d)).setCell ⟨g, i * 5 + 4, none⟩ (.int .i64 z)) := by
  subst hn hz
  have hne : r ≠ g := fun e => own_ne hI.own hI.blk (by rw [e]; rfl)
  have hb : Below B W (((((W.setCell ⟨g, i * 5, none⟩ (.int .u8 x.kind)).setCell ⟨g, i * 5 + 1, none⟩ (.int .u32 x.n)).setCell ⟨g, i * 5 + 2, none⟩ (.int .u32 x.g)).setCell ⟨g, i * 5 + 3, none⟩ (.int .i64 x.d)).setCell ⟨g, i * 5 + 4, none⟩ (.int .i64 x.kids)) :=
    (((((Below.refl B W).setCell (p := ⟨g, _, none⟩) hg _).setCell (p := ⟨g, _, none⟩) hg _).setCell (p := ⟨g, _, none⟩) hg _).setCell (p := ⟨g, _, none⟩) hg _).setCell (p := ⟨g, _, none⟩) hg _
  have ho := own_setP hI.own hi x
  exact ⟨a, cap, ((((hI.blk.other hne _).other hne _).other hne _).other hne _).other hne _, hI.tok.below hb, hI.cap1, hI.cap2, by rw [List.length_set]; exact ho, hI.base, hI.words.below hb hI.wlt, hI.wlt, hI.nn⟩
theorem kp_own {B r g i n cg : Nat} {v : Value} {W w : World} (h : Kp B r v W w) (hl : Loc v (.slice (some ⟨g, 0, none⟩) n cg) W) (hg : B ≤ g) (x : Value) : Kp B r v W (w.setCell ⟨g, i, none⟩ x) :=
  ⟨h.1.setCell (p := ⟨g, i, none⟩) hg x, fun k hk hkr hv => (keptS (fun e => by
    subst e
    rcases hl with hl | hl
    · exact hv (hl ▸ rfl)
    · have := hl k rfl; omega) x).trans (h.2 k hk hkr hv)⟩
theorem rd_depth {B r : Nat} {l : List Tok} {en dep dep' : Nat} {v : Value} {P : List Prt} {W : World} (h : Rd B r l en dep v P W) (z : Int) (hz : z = dep') : Rd B r l en dep' v P (W.setCell ⟨r, 2, none⟩ (.int .i64 z)) ∧ K1 B r W (W.setCell ⟨r, 2, none⟩ (.int .i64 z)) := by
  obtain ⟨a, cap, hI⟩ := h
  subst hz
  have hk := k1_set (i := 2) (K1.refl B r W) hI.base (.int .i64 (dep' : Int))
  have hb : Blk (W.setCell ⟨r, 2, none⟩ (.int .i64 (dep' : Int))) r #[.slice a l.length cap, .int .i64 en, .int .i64 dep', v] 48 := by
    have := hI.blk.set 2 (.int .i64 (dep' : Int))
    simpa using this
  exact ⟨⟨a, cap, hI.k1 hk hb hI.tok hI.cap1 hI.cap2 hI.nn⟩, hk⟩
set_option maxRecDepth 100000 in
set_option maxHeartbeats 1000000 in
theorem term_step (m : Nat) (hT : ∀ j, j ≤ m → TermC j) : TermC (m + 1) := by
  intro B r en f v P l w hl hf hP hB h
  rw [parP_term]
  have hrl := rd_lt h
  have hbr := rd_base h
  cases l with
  | nil =>
    have HC := hidE (take_no h hB 2 2 rfl (70, none) rfl)
    show Calls _ _ _ _ (TermOut B r en (8 - f) v P w (.error (70, none)) _)
    go_enter Tryd.func29, Tryd.ntmps29
    go_wp2_with fail
    ((with_reducible refine HC.out.mono ?_); rintro e w1 ⟨rfl, hk1⟩)
    go_wp2
    exact ⟨rfl, rfl, hk1.kp v⟩
  | cons t l1 =>
    by_cases ht : t.kind = 2
    · rw [takeT_cons, if_pos ht]
      simp only [List.head?_cons, Option.map_some]
      have HC := hidE (take_ok h hB 2 (by omega))
      clear ht
      obtain ⟨dep, hdep⟩ : ∃ dep, dep = 8 - f := ⟨_, rfl⟩
      rw [← hdep] at HC ⊢
      by_cases hd : f = 0 ∨ 64 ≤ P.length
      · rw [if_pos hd]
        clear h
        go_enter Tryd.func29, Tryd.ntmps29
        go_wp2_with fail
        ((with_reducible refine HC.out.mono ?_); rintro e w1 ⟨rfl, hr1, hk1⟩)
        have hr2 := hr1.alloc (Nat.le_trans hB hk1.size) (.cells #[.int .u8 t.kind, strV t.text, .int .i64 t.num, .int .i64 t.pos] 73)
        have HK := hidE (hk1.alloc hB (.cells #[.int .u8 t.kind, strV t.text, .int .i64 t.num, .int .i64 t.pos] 73))
        obtain ⟨a, cap, hI⟩ := hr2
        obtain ⟨av, cv, rfl⟩ := own_sli hI.own
        have c2 := hI.blk.cell 2; have c3 := hI.blk.cell 3; have z := hI.blk.lt
        simp at c2 c3
        have q : ((dep : Int) == 8) = decide (f = 0) := by
          by_cases e : f = 0
          · rw [decide_eq_true e]; exact beq_iff_eq.2 (by omega)
          · rw [decide_eq_false e]; exact beq_eq_false_iff_ne.2 (by omega)
        by_cases e : f = 0
        · rw [decide_eq_true e] at q
          clear hI hr1 hk1 HC
          go_wp2
          exact ⟨rfl, rfl, HK.out.kp _⟩
        · rw [decide_eq_false e] at q
          have q2 : ((P.length : Int) == 64) = true := beq_iff_eq.2 (by omega)
          clear hI hr1 hk1 HC
          go_wp2
          exact ⟨rfl, rfl, HK.out.kp _⟩
      · rw [if_neg hd]
        clear h
        obtain ⟨R, hR⟩ : ∃ R, R = afterT m f P.length l1 := ⟨_, rfl⟩
        rw [← hR]
        unfold afterT at hR
        have HR := hidE hR; clear hR
        go_enter Tryd.func29, Tryd.ntmps29
        go_wp2_with fail
        ((with_reducible refine HC.out.mono ?_); rintro e w1 ⟨rfl, hr1, hk1⟩)
        have hr2 := hr1.alloc (Nat.le_trans hB hk1.size) (.cells #[.int .u8 t.kind, strV t.text, .int .i64 t.num, .int .i64 t.pos] 73)
        have HK := hidE (hk1.alloc hB (.cells #[.int .u8 t.kind, strV t.text, .int .i64 t.num, .int .i64 t.pos] 73))
        obtain ⟨a, cap, hI⟩ := hr2
        obtain ⟨av, cv, rfl⟩ := own_sli hI.own
        have c2 := hI.blk.cell 2; have c3 := hI.blk.cell 3; have z := hI.blk.lt; have f3 := hI.blk.free
        simp at c2 c3
        have q : ((dep : Int) == 8) = false := beq_eq_false_iff_ne.2 (by omega)
        have q2 : ((P.length : Int) == 64) = false := beq_eq_false_iff_ne.2 (by omega)
        have w64 : IntKind.i64.wrap ((dep : Int) + 1) = (dep : Int) + 1 := IntWalk.i64_in _ (by omega)
        obtain ⟨i0, hi, hz0, hz1, hz2⟩ := info_parts Tryd.infoPart
        have hs1 := Nat.le_trans hB hk1.size
        have HI := hidE hI; have HN := hidE hi; have HZ0 := hidE hz0; have HZ1 := hidE hz1; have HZ2 := hidE hz2
        have HO := hidE (own_deeper hI (.int .i64 ((dep : Int) + 1)) (.cells #[.int .u8 0, .int .u32 0, .int .u32 0, .int .i64 0, .int .i64 0] 41))
        clear hI hr1 hk1 HC hi hz0 hz1 hz2
        subst hdep
        go_wp2_with (at_builtin; go_loud (refine wpList_append_own_at _ rfl _ _ 22 rfl B 41 i0 _ 5 32 Tryd.underlying22 HN.out HZ0.out HZ1.out HZ2.out rfl (by decide) _ _ _ rfl HO.out ⟨w1.heap.size + 1, 0, none⟩ 1 1 zeroP rfl rfl (new_at _ #[.int .u8 0, .int .u32 0, .int .u32 0, .int .i64 0, .int .i64 0] 41 _ (by simp)) zeroP_one (by unfold maxLen; omega) (by omega) (by simp; omega) ?_; intro v' w2 hown' hgrow _ hat; obtain ⟨a', c', rfl⟩ := own_sli hown'; have hb2 := blk_pushed HI.out _ hgrow; have e3 := hb2.cell 3; have ez := hb2.lt; have ef := hb2.free; simp at e3; have HG := hidE hgrow; have HO2 := hidE hown'; have HAT := hidE hat; clear hgrow hown' hat hb2))
        obtain ⟨hr3, hk3, hl3⟩ := pushed HI.out HK.out hB _ HO2.out HG.out HAT.out
        have hs3 := Nat.le_trans hB hk3.size
        clear e3 ez ef HG HO2 HAT HO HI HK c2 c3 z f3 q q2 w64 hs1
        generalize w2.setCell _ _ = w3 at *
        rw [show 8 - f + 1 = 8 - (f - 1) by omega] at hr3
        have HR3 := hidE hr3; have HK3 := hidE hk3; have HL3 := hidE hl3
        cases hk : kindT l1 with
        | error x =>
          have HC := hidE (kind_no hr3 hs3 x hk)
          clear hr3 hk3 hl3
          ((with_reducible refine HC.out.mono ?_); rintro e w4 ⟨rfl, hk4⟩)
          go_wp2
          refine ⟨rfl, ?_⟩
          show TermOut B r en (8 - f) _ P w R _ _ _
          rw [HR.out, hk]
          exact ⟨rfl, HK3.out.k1 hk4⟩
        | ok q =>
          obtain ⟨k, l2⟩ := q
          have HC := hidE (kind_ok hr3 hs3 hk)
          have hl2 : l2.length < m := by
            cases l1 with
            | nil => cases hk
            | cons u l1 =>
              unfold kindT at hk
              simp only at hk
              split at hk
              · cases hk
              · cases hk; simp only [List.length_cons] at hl; omega
          rw [hk] at HR
          simp only at HR
          clear hr3 hk3 hl3 hk
          ((with_reducible refine HC.out.mono ?_); rintro e w4 ⟨rfl, hr4, hk4⟩)
          have hK4 := HK3.out.k1 hk4
          have hs4 := Nat.le_trans hB hK4.size
          have hop : Calls Tryd.prog 41 #[.pointer (some ⟨r, 0, none⟩), .int .u8 k] w4 (OpOut B r en (8 - (f - 1)) (.slice a' (P.length + 1) c') (P ++ [pr0]) w4 (opT m (f - 1) (P.length + 1) k l2)) := by
            have hl1 : (P ++ [pr0]).length = P.length + 1 := by simp
            by_cases hk0 : k = 0
            · subst hk0
              have := op_atom m B r en (8 - (f - 1)) (f - 1) _ (P ++ [pr0]) l2 w4 (by omega) hs4 hr4
              rw [hl1] at this
              exact this
            · have := op_group m hT B r en (f - 1) _ (P ++ [pr0]) l2 w4 hl2 (by omega) (by omega) hs4 hr4 k hk0
              rw [hl1] at this
              exact this
          have HOP := hidE hop; have HK4 := hidE hK4
          clear hr4 hk4 hK4 hop HR3 HK3
          cases ho : opT m (f - 1) (P.length + 1) k l2 with
          | error x =>
            rw [ho] at HOP
            go_wp2_with fail
            ((with_reducible refine HOP.out.mono ?_); rintro e w5 ⟨rfl, hk5⟩)
            go_wp2
            refine ⟨rfl, ?_⟩
            show TermOut B r en (8 - f) _ P w R _ _ _
            rw [HR.out, ho]
            exact ⟨rfl, HK4.out.trans HL3.out hk5⟩
          | ok y =>
            obtain ⟨x, K, l3⟩ := y
            rw [ho] at HOP HR
            simp only at HR
            clear ho
            go_wp2_with fail
            ((with_reducible refine HOP.out.mono ?_); rintro e w5 ⟨rfl, v5, hr5, hk5, hl5, hp5⟩)
            simp only at hr5 hp5
            have hK5 := HK4.out.trans HL3.out hk5
            have hL5 := HL3.out.trans hl5 HK4.out.size
            have hs5 := Nat.le_trans hB hK5.size
            obtain ⟨a5, cap5, hI5⟩ := hr5.alloc hs5 (.cells #[.int .u8 x.kind, .int .u32 x.n, .int .u32 x.g, .int .i64 x.d, .int .i64 K.len] 41)
            have hne : 0 < (P ++ [pr0] ++ K.flat).length := by simp only [List.length_append, List.length_cons, List.length_nil]; omega
            obtain ⟨g, cg, hbg, hv5⟩ : ∃ g cg, B ≤ g ∧ v5 = .slice (some ⟨g, 0, none⟩) (P ++ [pr0] ++ K.flat).length cg := by
              obtain ⟨_, h2 | ⟨g, cg, cur, h3, h4, _⟩⟩ := hI5.own
              · rw [h2.2] at hne; cases hne
              · exact ⟨g, cg, h4, h3⟩
            subst hv5
            have c3 := hI5.blk.cell 3; have z := hI5.blk.lt
            simp at c3
            have hj : ∀ j, j < 5 → P.length * 5 + j < (P ++ [pr0] ++ K.flat).length * 5 := fun j hj => by simp only [List.length_append, List.length_cons, List.length_nil]; omega
            obtain ⟨e0, e1, e2, e3, e4⟩ := cellsOfP_get (P ++ [pr0] ++ K.flat) P.length (by simp only [List.length_append, List.length_cons, List.length_nil]; omega)
            have o0 := (hI5.own.cellAt (P.length * 5) (hj 0 (by omega))).trans e0
            have o1 := (hI5.own.cellAt (P.length * 5 + 1) (hj 1 (by omega))).trans e1
            have o2 := (hI5.own.cellAt (P.length * 5 + 2) (hj 2 (by omega))).trans e2
            have o3 := (hI5.own.cellAt (P.length * 5 + 3) (hj 3 (by omega))).trans e3
            have o4 := (hI5.own.cellAt (P.length * 5 + 4) (hj 4 (by omega))).trans e4
            have of := hI5.own.frozenAt
            have hgl : g < w5.heap.size + 1 := by have := own_lt hI5.own (k := g) rfl; simpa using this
            clear e0 e1 e2 e3 e4 hj
            have hlt : (P.length : Int) < ((P ++ [pr0] ++ K.flat).length : Int) := by simp only [List.length_append, List.length_cons, List.length_nil]; omega
            have HI5 := hidE hI5; have HK5 := hidE hK5; have HL5 := hidE hL5; have HP5 := hidE hp5
            clear hI5 hK5 hL5 hp5 hr5 hk5 hl5 HOP HK4 HL3
            generalize hPL : (P ++ [pr0] ++ K.flat).length = pl at *
            go_wp2_with fail
            go_region
            have hset : (P ++ [pr0] ++ K.flat).set P.length { x with kids := K.len } = P ++ (Fst.cons x K .nil).flat := by
              rw [show P ++ [pr0] ++ K.flat = P ++ pr0 :: K.flat by simp, set_getD P 0 { x with kids := K.len } pr0 K.flat]
              simp [Fst.flat]
            have hr6 := rd_stored HI5.out hPL.symm hbg (i := P.length) (by rw [hPL]; omega) { x with kids := K.len } rfl
            rw [hset] at hr6
            have hk6 := kp_own (i := P.length * 5 + 4) (kp_own (i := P.length * 5 + 3) (kp_own (i := P.length * 5 + 2) (kp_own (i := P.length * 5 + 1) (kp_own (i := P.length * 5) (HK5.out.k1 ((K1.refl B r w5).alloc hs5 (.cells #[.int .u8 x.kind, .int .u32 x.n, .int .u32 x.g, .int .i64 x.d, .int .i64 K.len] 41))) HL5.out hbg (.int .u8 x.kind)) HL5.out hbg (.int .u32 x.n)) HL5.out hbg (.int .u32 x.g)) HL5.out hbg (.int .i64 x.d)) HL5.out hbg (.int .i64 K.len)
            simp only at hr6
            have hlen : (P ++ (Fst.cons x K .nil).flat).length ≤ 64 := by
              have := HP5.out
              rw [← hPL] at this
              simp only [Fst.flat, List.length_append, List.length_cons, List.length_nil, List.append_nil] at *
              omega
            clear hset o0 o1 o2 o3 o4 of c3 z
            generalize World.setCell _ _ (.int .i64 K.len) = w6 at *
            have hd6 : Below w6.heap.size w6 w6.drew := ⟨rfl, rfl, rfl, Nat.le_refl _, fun _ _ => rfl⟩
            have hs6 := Nat.le_trans hB hk6.size
            have hr7 := hr6.past hs6 hd6
            have hk7 := hk6.k1 (K1.of hd6 hs6)
            have hs7 := Nat.le_trans hB hk7.size
            clear hr6 hk6 hd6 hs6
            generalize w6.drew = w7 at *
            cases hc : takeT 3 l3 with
            | error x' =>
              have HC3 := hidE (take_no hr7 hs7 3 3 rfl x' hc)
              have HK7 := hidE hk7
              clear hr7 hk7
              go_wp2_with fail
              ((with_reducible refine HC3.out.mono ?_); rintro e w8 ⟨rfl, hk8⟩)
              go_wp2
              refine ⟨rfl, ?_⟩
              show TermOut B r en (8 - f) _ P w R _ _ _
              rw [HR.out, hc]
              exact ⟨rfl, HK7.out.k1 hk8⟩
            | ok l4 =>
              rw [hc] at HR
              simp only at HR
              obtain ⟨t4, rfl⟩ := takeT_ok hc
              have ht4 : t4.kind = 3 := by
                rw [takeT_cons] at hc
                by_cases c : t4.kind = 3
                · exact c
                · rw [if_neg c] at hc; cases hc
              have HC3 := hidE (take_ok hr7 hs7 3 (by omega))
              have HK7 := hidE hk7
              clear hr7 hk7 hc ht4
              go_wp2_with fail
              ((with_reducible refine HC3.out.mono ?_); rintro e w8 ⟨rfl, hr8, hk8⟩)
              have c2 : w8.cell? ⟨r, 2, none⟩ = some (.int .i64 ((8 - (f - 1) : Nat) : Int)) ∧ r < w8.heap.size ∧ ∀ i, w8.frozen? ⟨r, i, none⟩ = false := by
                obtain ⟨a8, cap8, hI8⟩ := hr8
                exact ⟨by simpa using hI8.blk.cell 2, hI8.blk.lt, hI8.blk.free⟩
              obtain ⟨c2, z8, f8⟩ := c2
              have w64 : IntKind.i64.wrap (((8 - (f - 1) : Nat) : Int) - 1) = ((8 - f : Nat) : Int) := by
                rw [IntWalk.i64_in _ (by omega)]; omega
              have hr9 := rd_depth hr8 ((8 - f : Nat) : Int) rfl
              have HR9 := hidE hr9.1
              have HK9 := hidE ((HK7.out.k1 hk8).k1 hr9.2)
              clear hr9 hr8 hk8
              go_wp2
              go_end0
              show TermOut B r en (8 - f) _ P w R _ _ _
              rw [HR.out]
              exact ⟨rfl, _, HR9.out, HK9.out, HL5.out, hlen⟩
    · have hx : takeT 2 (t :: l1) = .error (70, some t.pos) := by rw [takeT_cons, if_neg ht]
      have HC := hidE (take_no h hB 2 2 rfl _ hx)
      rw [hx]
      show Calls _ _ _ _ (TermOut B r en (8 - f) v P w (.error (70, some t.pos)) _)
      go_enter Tryd.func29, Tryd.ntmps29
      go_wp2_with fail
      ((with_reducible refine HC.out.mono ?_); rintro e w1 ⟨rfl, hk1⟩)
      go_wp2
      exact ⟨rfl, rfl, hk1.kp v⟩
theorem term_all : ∀ m, TermC m := fun m => by
  induction m using Nat.strongRecOn with
  | ind m ih =>
    cases m with
    | zero => intro B r en f v P l w hl; exact absurd hl (by omega)
    | succ m => exact term_step m (fun j hj => ih j (by omega))
theorem term_c (m B r en f : Nat) (v : Value) (P : List Prt) (l : List Tok) (w : World) (hl : l.length < m) (hf : f ≤ 8) (hP : P.length ≤ 64) (hB : B ≤ w.heap.size) (h : Rd B r l en (8 - f) v P w) :
    Calls Tryd.prog 29 #[.pointer (some ⟨r, 0, none⟩)] w (TermOut B r en (8 - f) v P w (parS m f P.length 0 l) fun _ => .tuple #[]) := by
  rw [← parP_zero]
  exact term_all m B r en f v P l w hl hf hP hB h
end Go.Proofs.YtaeipfnpglbooaaDoor

namespace Go.Proofs.YtaeipfnpglbooaaDoor
open Go.ChangeShapes Go.WideShapes Go.ChangeAt Go.RowKit
attribute [local irreducible] Go.Calls

section
variable {P : Program} {ops : Array Oper} {i : Nat} {rest : List Nat} {o : Oper} {a a' : Act} {cs cs' : List Frame} {w w' : World} {v : Value} {Q : Exit → Act → List Frame → World → Prop}
theorem wpOpsS_value (ho : ops[i]? = some o) (hw : Region.wanted o (yielded ops a.tmps) = true) (hr : (execOp a.eval o).run P w = .ok (.value v) w') (ha : a.put o.dst v = a') (h : wpOpsS P ops Q rest a' cs w') : wpOpsS P ops Q (i :: rest) a cs w := by
  subst ha
  simp only [wpOpsS, ho]
  rw [if_pos hw, hr]
  exact h
theorem wpOpsS_skip (ho : ops[i]? = some o) (hw : Region.wanted o (yielded ops a.tmps) = true) (hr : (execOp a.eval o).run P w = .ok .skip w') (ha : a.put o.dst undef = a') (h : wpOpsS P ops Q rest a' cs w') : wpOpsS P ops Q (i :: rest) a cs w := by
  subst ha
  simp only [wpOpsS, ho]
  rw [if_pos hw, hr]
  exact h
theorem wpOpsS_recover (ho : ops[i]? = some o) (hw : Region.wanted o (yielded ops a.tmps) = true) (hr : (execOp a.eval o).run P w = .ok .recover w') (hc : recoverD cs = some (v, cs')) (ha : a.put o.dst v = a') (h : wpOpsS P ops Q rest a' cs' w') : wpOpsS P ops Q (i :: rest) a cs w := by
  subst ha
  simp only [wpOpsS, ho]
  rw [if_pos hw, hr]
  simp only [hc]
  exact h
theorem wpOpsS_idle (ho : ops[i]? = some o) (hw : Region.wanted o (yielded ops a.tmps) = true) (hr : (execOp a.eval o).run P w = .ok .recover w') (hc : recoverD cs = none) (ha : a.put o.dst .nilIface = a') (h : wpOpsS P ops Q rest a' cs w') : wpOpsS P ops Q (i :: rest) a cs w := by
  subst ha
  simp only [wpOpsS, ho]
  rw [if_pos hw, hr]
  simp only [hc]
  exact h
theorem wpOpsS_nil (h : Q .normal a cs w) : wpOpsS P ops Q [] a cs w := h
end
attribute [local irreducible] wpOpsS Code.wpS
theorem blk_drew {w : World} {k : Nat} {cs : Array Value} {t : TypeId} (h : Blk w k cs t) : Blk w.drew k cs t := h
/-- The results' variables. -/
structure ResI (p : Nat) (d : Array Value) (w : World) : Prop where
  d : Blk w p d 24
  n : Blk w (p + 1) #[.int .i64 0] 3
  e : Blk w (p + 2) #[.int .i64 0] 26
set_option maxRecDepth 100000 in
set_option maxHeartbeats 1000000 in
theorem catch_panic (p : Nat) (a b c : Value) (n er : Int) (older : List PanicEntry) (w : World) (h : ResI p #[a, b, c] w) :
    CallsD Tryd.prog 25 #[.pointer (some ⟨p, 0, none⟩), .pointer (some ⟨p + 1, 0, none⟩), .pointer (some ⟨p + 2, 0, none⟩)] (.panicking ({ v := .iface 75 (.agg #[.int .i64 n, .int .i64 er]), recovered := false } :: older)) w fun e u' w' =>
      e = .returned (.tuple #[]) ∧ u' = .panicking ({ v := .iface 75 (.agg #[.int .i64 n, .int .i64 er]), recovered := true } :: older) ∧
      Blk w' p #[.int .i64 0, .int .i64 0, .slice none 0 0] 24 ∧ Blk w' (p + 1) #[.int .i64 n] 3 ∧ Blk w' (p + 2) #[.int .i64 er] 26 ∧ Below p w w' := by
  have hta : ∀ w, (Instr.typeAssert (.iface 75 (.agg #[.int .i64 n, .int .i64 er])) 20 75 true).run Tryd.prog w = .ok (.tuple #[.agg #[.int .i64 n, .int .i64 er], .bool true]) w := fun w => by kernel_rfl
  refine callsD_of_wpS Tryd.func25 rfl fun c₀ cs hu => ?_
  have hrec : recoverD (c₀ :: cs) = some (.iface 75 (.agg #[.int .i64 n, .int .i64 er]), { c₀ with mode := .panicking ({ v := .iface 75 (.agg #[.int .i64 n, .int .i64 er]), recovered := true } :: older) } :: cs) := by simp [recoverD, hu]
  apply wpS_seq
  apply wpS_region
  show wpOpsS _ _ _ [0, 1, 2, 3, 4, 5, 6, 7] { tmps := #[.pointer (some ⟨p, 0, none⟩), .pointer (some ⟨p + 1, 0, none⟩), .pointer (some ⟨p + 2, 0, none⟩), undef, undef, undef, undef, undef, undef, undef, undef, undef, undef, undef, undef, undef], defers := [] } _ _
  refine wpOpsS_recover rfl (by rfl) (w' := w) (by simp [execOp, go_sem]) hrec (a' := { tmps := #[.pointer (some ⟨p, 0, none⟩), .pointer (some ⟨p + 1, 0, none⟩), .pointer (some ⟨p + 2, 0, none⟩), undef, undef, undef, .iface 75 (.agg #[.int .i64 n, .int .i64 er]), undef, undef, undef, undef, undef, undef, undef, undef, undef], defers := [] }) (by simp [Act.put]) ?_
  refine wpOpsS_value rfl (by simp [Region.wanted]) (v := .tuple #[.agg #[.int .i64 n, .int .i64 er], .bool true]) (w' := w) (by simp [execOp, go_sem, hta]) (a' := { tmps := #[.pointer (some ⟨p, 0, none⟩), .pointer (some ⟨p + 1, 0, none⟩), .pointer (some ⟨p + 2, 0, none⟩), undef, undef, undef, .iface 75 (.agg #[.int .i64 n, .int .i64 er]), .tuple #[.agg #[.int .i64 n, .int .i64 er], .bool true], undef, undef, undef, undef, undef, undef, undef, undef], defers := [] }) (by simp [Act.put]) ?_
  refine wpOpsS_value rfl (by simp [Region.wanted]) (v := .tuple #[.agg #[.int .i64 n, .int .i64 er], .bool true]) (w' := w) (by simp [execOp, go_sem]) (a' := { tmps := #[.pointer (some ⟨p, 0, none⟩), .pointer (some ⟨p + 1, 0, none⟩), .pointer (some ⟨p + 2, 0, none⟩), undef, undef, .tuple #[.agg #[.int .i64 n, .int .i64 er], .bool true], .iface 75 (.agg #[.int .i64 n, .int .i64 er]), .tuple #[.agg #[.int .i64 n, .int .i64 er], .bool true], undef, undef, undef, undef, undef, undef, undef, undef], defers := [] }) (by simp [Act.put]) ?_
  refine wpOpsS_value rfl (by simp [Region.wanted]) (v := .agg #[.int .i64 n, .int .i64 er]) (w' := w) (by simp [execOp, go_sem]) (a' := { tmps := #[.pointer (some ⟨p, 0, none⟩), .pointer (some ⟨p + 1, 0, none⟩), .pointer (some ⟨p + 2, 0, none⟩), undef, undef, .tuple #[.agg #[.int .i64 n, .int .i64 er], .bool true], .iface 75 (.agg #[.int .i64 n, .int .i64 er]), .tuple #[.agg #[.int .i64 n, .int .i64 er], .bool true], .agg #[.int .i64 n, .int .i64 er], undef, undef, undef, undef, undef, undef, undef], defers := [] }) (by simp [Act.put]) ?_
  refine wpOpsS_value rfl (by simp [Region.wanted]) (v := .bool true) (w' := w) (by simp [execOp, go_sem]) (a' := { tmps := #[.pointer (some ⟨p, 0, none⟩), .pointer (some ⟨p + 1, 0, none⟩), .pointer (some ⟨p + 2, 0, none⟩), undef, undef, .tuple #[.agg #[.int .i64 n, .int .i64 er], .bool true], .iface 75 (.agg #[.int .i64 n, .int .i64 er]), .tuple #[.agg #[.int .i64 n, .int .i64 er], .bool true], .agg #[.int .i64 n, .int .i64 er], .bool true, undef, undef, undef, undef, undef, undef], defers := [] }) (by simp [Act.put]) ?_
  refine wpOpsS_value rfl (by simp [Region.wanted]) (v := .pointer (some ⟨w.heap.size, 0, none⟩)) (w' := w.alloc (.cells #[.int .i64 0, .int .i64 0] 75)) (by simp [execOp, go_sem]) (a' := { tmps := #[.pointer (some ⟨p, 0, none⟩), .pointer (some ⟨p + 1, 0, none⟩), .pointer (some ⟨p + 2, 0, none⟩), .pointer (some ⟨w.heap.size, 0, none⟩), undef, .tuple #[.agg #[.int .i64 n, .int .i64 er], .bool true], .iface 75 (.agg #[.int .i64 n, .int .i64 er]), .tuple #[.agg #[.int .i64 n, .int .i64 er], .bool true], .agg #[.int .i64 n, .int .i64 er], .bool true, undef, undef, undef, undef, undef, undef], defers := [] }) (by simp [Act.put]) ?_
  refine wpOpsS_skip rfl (by simp [Region.wanted]) (w' := w.alloc (.cells #[.int .i64 n, .int .i64 er] 75)) (by simp [execOp, go_sem]) (a' := { tmps := #[.pointer (some ⟨p, 0, none⟩), .pointer (some ⟨p + 1, 0, none⟩), .pointer (some ⟨p + 2, 0, none⟩), .pointer (some ⟨w.heap.size, 0, none⟩), undef, .tuple #[.agg #[.int .i64 n, .int .i64 er], .bool true], .iface 75 (.agg #[.int .i64 n, .int .i64 er]), .tuple #[.agg #[.int .i64 n, .int .i64 er], .bool true], .agg #[.int .i64 n, .int .i64 er], .bool true, undef, undef, undef, undef, undef, undef], defers := [] }) (by simp [Act.put]) ?_
  refine wpOpsS_value rfl (by simp [Region.wanted]) (v := .bool true) (w' := w.alloc (.cells #[.int .i64 n, .int .i64 er] 75)) (by simp [execOp, go_sem]) (a' := { tmps := #[.pointer (some ⟨p, 0, none⟩), .pointer (some ⟨p + 1, 0, none⟩), .pointer (some ⟨p + 2, 0, none⟩), .pointer (some ⟨w.heap.size, 0, none⟩), .bool true, .tuple #[.agg #[.int .i64 n, .int .i64 er], .bool true], .iface 75 (.agg #[.int .i64 n, .int .i64 er]), .tuple #[.agg #[.int .i64 n, .int .i64 er], .bool true], .agg #[.int .i64 n, .int .i64 er], .bool true, undef, undef, undef, undef, undef, undef], defers := [] }) (by simp [Act.put]) ?_
  refine wpOpsS_nil ?_
  simp only [Exit.thenS]
  have b0 := h.d.alloc (.cells #[.int .i64 n, .int .i64 er] 75); have b1 := h.n.alloc (.cells #[.int .i64 n, .int .i64 er] 75); have b2 := h.e.alloc (.cells #[.int .i64 n, .int .i64 er] 75)
  have bf := Blk.made w #[.int .i64 n, .int .i64 er] 75
  have hpw := h.d.lt
  have hB0 := hidE b0; have hB1 := hidE b1; have hB2 := hidE b2
  have hBw := hidE ((Below.refl p w).alloc (by omega) (.cells #[.int .i64 n, .int .i64 er] 75))
  clear h hta hrec
  generalize w.alloc (.cells #[.int .i64 n, .int .i64 er] 75) = w1 at *
  have c0 := b0.cell 0; have c1 := b0.cell 1; have c2 := b0.cell 2; have c3 := b1.cell 0; have c4 := b2.cell 0; have g0 := bf.cell 0; have g1 := bf.cell 1
  have f0 := b0.free; have f1 := b1.free; have f2 := b2.free
  have z0 := b0.lt; have z1 := b1.lt; have z2 := b2.lt; have z3 := bf.lt
  simp at c0 c1 c2 c3 c4 g0 g1
  clear b0 b1 b2 bf
  refine wpS_of_wp ?_
  go_wp2
  go_region
  refine ⟨rfl, _, rfl, .tuple #[], by simp [results, Tryd.results25], rfl, rfl, ?_, ?_, ?_, ?_⟩
  · have := (((((hB0.out.set 0 (.int .i64 0)).set 1 (.int .i64 0)).set 2 (.slice none 0 0)).other (b := p + 1) (i := 0) (by omega) (.int .i64 n)).other (b := p + 2) (i := 0) (by omega) (.int .i64 er))
    refine blk_drew ?_
    simpa using this
  · have := (((((hB1.out.other (b := p) (i := 0) (by omega) (.int .i64 0)).other (b := p) (i := 1) (by omega) (.int .i64 0)).other (b := p) (i := 2) (by omega) (.slice none 0 0)).set 0 (.int .i64 n)).other (b := p + 2) (i := 0) (by omega) (.int .i64 er))
    refine blk_drew ?_
    simpa using this
  · have := (((((hB2.out.other (b := p) (i := 0) (by omega) (.int .i64 0)).other (b := p) (i := 1) (by omega) (.int .i64 0)).other (b := p) (i := 2) (by omega) (.slice none 0 0)).other (b := p + 1) (i := 0) (by omega) (.int .i64 n)).set 0 (.int .i64 er))
    refine blk_drew ?_
    simpa using this
  · exact (((((hBw.out.setCell (p := ⟨p, 0, none⟩) (Nat.le_refl _) _).setCell (p := ⟨p, 1, none⟩) (Nat.le_refl _) _).setCell (p := ⟨p, 2, none⟩) (Nat.le_refl _) _).setCell (p := ⟨p + 1, 0, none⟩) (by simp) _).setCell (p := ⟨p + 2, 0, none⟩) (by simp) _).drew
set_option maxRecDepth 100000 in
set_option maxHeartbeats 1000000 in
theorem catch_idle (p : Nat) (w : World) :
    CallsD Tryd.prog 25 #[.pointer (some ⟨p, 0, none⟩), .pointer (some ⟨p + 1, 0, none⟩), .pointer (some ⟨p + 2, 0, none⟩)] .returning w fun e u' w' => e = .returned (.tuple #[]) ∧ u' = .returning ∧ Below w.heap.size w w' := by
  have hta : ∀ w, (Instr.typeAssert .nilIface 20 75 true).run Tryd.prog w = .ok (.tuple #[.agg #[.int .i64 0, .int .i64 0], .bool false]) w := fun w => by kernel_rfl
  refine callsD_of_wpS Tryd.func25 rfl fun c₀ cs hu => ?_
  have hrec : recoverD (c₀ :: cs) = none := by simp [recoverD, hu]
  apply wpS_seq
  apply wpS_region
  show wpOpsS _ _ _ [0, 1, 2, 3, 4, 5, 6, 7] { tmps := #[.pointer (some ⟨p, 0, none⟩), .pointer (some ⟨p + 1, 0, none⟩), .pointer (some ⟨p + 2, 0, none⟩), undef, undef, undef, undef, undef, undef, undef, undef, undef, undef, undef, undef, undef], defers := [] } _ _
  refine wpOpsS_idle rfl (by rfl) (w' := w) (by simp [execOp, go_sem]) hrec (a' := { tmps := #[.pointer (some ⟨p, 0, none⟩), .pointer (some ⟨p + 1, 0, none⟩), .pointer (some ⟨p + 2, 0, none⟩), undef, undef, undef, .nilIface, undef, undef, undef, undef, undef, undef, undef, undef, undef], defers := [] }) (by simp [Act.put]) ?_
  refine wpOpsS_value rfl (by simp [Region.wanted]) (v := .tuple #[.agg #[.int .i64 0, .int .i64 0], .bool false]) (w' := w) (by simp [execOp, go_sem, hta]) (a' := { tmps := #[.pointer (some ⟨p, 0, none⟩), .pointer (some ⟨p + 1, 0, none⟩), .pointer (some ⟨p + 2, 0, none⟩), undef, undef, undef, .nilIface, .tuple #[.agg #[.int .i64 0, .int .i64 0], .bool false], undef, undef, undef, undef, undef, undef, undef, undef], defers := [] }) (by simp [Act.put]) ?_
  refine wpOpsS_value rfl (by simp [Region.wanted]) (v := .tuple #[.agg #[.int .i64 0, .int .i64 0], .bool false]) (w' := w) (by simp [execOp, go_sem]) (a' := { tmps := #[.pointer (some ⟨p, 0, none⟩), .pointer (some ⟨p + 1, 0, none⟩), .pointer (some ⟨p + 2, 0, none⟩), undef, undef, .tuple #[.agg #[.int .i64 0, .int .i64 0], .bool false], .nilIface, .tuple #[.agg #[.int .i64 0, .int .i64 0], .bool false], undef, undef, undef, undef, undef, undef, undef, undef], defers := [] }) (by simp [Act.put]) ?_
  refine wpOpsS_value rfl (by simp [Region.wanted]) (v := .agg #[.int .i64 0, .int .i64 0]) (w' := w) (by simp [execOp, go_sem]) (a' := { tmps := #[.pointer (some ⟨p, 0, none⟩), .pointer (some ⟨p + 1, 0, none⟩), .pointer (some ⟨p + 2, 0, none⟩), undef, undef, .tuple #[.agg #[.int .i64 0, .int .i64 0], .bool false], .nilIface, .tuple #[.agg #[.int .i64 0, .int .i64 0], .bool false], .agg #[.int .i64 0, .int .i64 0], undef, undef, undef, undef, undef, undef, undef], defers := [] }) (by simp [Act.put]) ?_
  refine wpOpsS_value rfl (by simp [Region.wanted]) (v := .bool false) (w' := w) (by simp [execOp, go_sem]) (a' := { tmps := #[.pointer (some ⟨p, 0, none⟩), .pointer (some ⟨p + 1, 0, none⟩), .pointer (some ⟨p + 2, 0, none⟩), undef, undef, .tuple #[.agg #[.int .i64 0, .int .i64 0], .bool false], .nilIface, .tuple #[.agg #[.int .i64 0, .int .i64 0], .bool false], .agg #[.int .i64 0, .int .i64 0], .bool false, undef, undef, undef, undef, undef, undef], defers := [] }) (by simp [Act.put]) ?_
  refine wpOpsS_value rfl (by simp [Region.wanted]) (v := .pointer (some ⟨w.heap.size, 0, none⟩)) (w' := w.alloc (.cells #[.int .i64 0, .int .i64 0] 75)) (by simp [execOp, go_sem]) (a' := { tmps := #[.pointer (some ⟨p, 0, none⟩), .pointer (some ⟨p + 1, 0, none⟩), .pointer (some ⟨p + 2, 0, none⟩), .pointer (some ⟨w.heap.size, 0, none⟩), undef, .tuple #[.agg #[.int .i64 0, .int .i64 0], .bool false], .nilIface, .tuple #[.agg #[.int .i64 0, .int .i64 0], .bool false], .agg #[.int .i64 0, .int .i64 0], .bool false, undef, undef, undef, undef, undef, undef], defers := [] }) (by simp [Act.put]) ?_
  refine wpOpsS_skip rfl (by simp [Region.wanted]) (w' := w.alloc (.cells #[.int .i64 0, .int .i64 0] 75)) (by simp [execOp, go_sem]) (a' := { tmps := #[.pointer (some ⟨p, 0, none⟩), .pointer (some ⟨p + 1, 0, none⟩), .pointer (some ⟨p + 2, 0, none⟩), .pointer (some ⟨w.heap.size, 0, none⟩), undef, .tuple #[.agg #[.int .i64 0, .int .i64 0], .bool false], .nilIface, .tuple #[.agg #[.int .i64 0, .int .i64 0], .bool false], .agg #[.int .i64 0, .int .i64 0], .bool false, undef, undef, undef, undef, undef, undef], defers := [] }) (by simp [Act.put]) ?_
  refine wpOpsS_value rfl (by simp [Region.wanted]) (v := .bool false) (w' := w.alloc (.cells #[.int .i64 0, .int .i64 0] 75)) (by simp [execOp, go_sem]) (a' := { tmps := #[.pointer (some ⟨p, 0, none⟩), .pointer (some ⟨p + 1, 0, none⟩), .pointer (some ⟨p + 2, 0, none⟩), .pointer (some ⟨w.heap.size, 0, none⟩), .bool false, .tuple #[.agg #[.int .i64 0, .int .i64 0], .bool false], .nilIface, .tuple #[.agg #[.int .i64 0, .int .i64 0], .bool false], .agg #[.int .i64 0, .int .i64 0], .bool false, undef, undef, undef, undef, undef, undef], defers := [] }) (by simp [Act.put]) ?_
  refine wpOpsS_nil ?_
  simp only [Exit.thenS]
  have hBw := hidE ((Below.refl w.heap.size w).alloc (Nat.le_refl _) (.cells #[.int .i64 0, .int .i64 0] 75))
  clear hta hrec
  generalize w.alloc (.cells #[.int .i64 0, .int .i64 0] 75) = w1 at *
  refine wpS_of_wp ?_
  go_wp2
  refine ⟨rfl, .returning, ?_, .tuple #[], by simp [results, Tryd.results25], rfl, rfl, hBw.out⟩
  rw [← hu]
end Go.Proofs.YtaeipfnpglbooaaDoor

namespace Go.Proofs.YtaeipfnpglbooaaDoor
open Go.ChangeShapes Go.WideShapes Go.ChangeAt Go.RowKit
attribute [local irreducible] Go.Calls

def ltrI (x : Int) : Bool := decide (97 ≤ x ∧ x ≤ 122)
def dgtI (x : Int) : Bool := decide (48 ≤ x ∧ x ≤ 57)
def whtI (x : Int) : Bool := decide (x = 32 ∨ x = 9 ∨ x = 10 ∨ x = 13)
theorem ltrI_of (c : UInt8) : ltrI c.toNat = letterB c := by
  unfold ltrI letterB
  rw [Bool.eq_iff_iff, Bool.and_eq_true, decide_eq_true_iff, decide_eq_true_iff, decide_eq_true_iff, UInt8.le_iff_toNat_le, UInt8.le_iff_toNat_le, show (97 : UInt8).toNat = 97 from rfl, show (122 : UInt8).toNat = 122 from rfl]
  omega
theorem dgtI_of (c : UInt8) : dgtI c.toNat = digitB c := by
  unfold dgtI digitB
  rw [Bool.eq_iff_iff, Bool.and_eq_true, decide_eq_true_iff, decide_eq_true_iff, decide_eq_true_iff, UInt8.le_iff_toNat_le, UInt8.le_iff_toNat_le, show (48 : UInt8).toNat = 48 from rfl, show (57 : UInt8).toNat = 57 from rfl]
  omega
theorem whtI_of (c : UInt8) : whtI c.toNat = whiteB c := by
  unfold whtI whiteB
  rw [Bool.eq_iff_iff]
  simp only [decide_eq_true_iff, Bool.or_eq_true, beq_iff_eq, ← UInt8.toNat_inj]
  simp only [show (32 : UInt8).toNat = 32 from rfl, show (9 : UInt8).toNat = 9 from rfl, show (10 : UInt8).toNat = 10 from rfl, show (13 : UInt8).toNat = 13 from rfl]
  omega
theorem ltrI_c (x : Int) (w : World) : Calls Tryd.prog 45 #[.int .u8 x] w fun e w' => e = .returned (.bool (ltrI x)) ∧ w' = w := by
  by_cases h1 : 97 ≤ x
  · have HE := hidE (show ltrI x = decide (x ≤ 122) by unfold ltrI; rw [decide_eq_decide]; omega)
    have d1 : decide (97 ≤ x) = true := decide_eq_true h1
    rw [HE.out]
    clear h1
    go_enter Tryd.func45, Tryd.ntmps45
    go_wp2
    go_ret
    exact ⟨rfl, rfl⟩
  · have HE := hidE (show ltrI x = false by unfold ltrI; exact decide_eq_false (by omega))
    have d1 : decide (97 ≤ x) = false := decide_eq_false h1
    rw [HE.out]
    clear h1
    go_enter Tryd.func45, Tryd.ntmps45
    go_wp2
    go_ret
    exact ⟨rfl, rfl⟩
theorem dgtI_c (x : Int) (w : World) : Calls Tryd.prog 46 #[.int .u8 x] w fun e w' => e = .returned (.bool (dgtI x)) ∧ w' = w := by
  by_cases h1 : 48 ≤ x
  · have HE := hidE (show dgtI x = decide (x ≤ 57) by unfold dgtI; rw [decide_eq_decide]; omega)
    have d1 : decide (48 ≤ x) = true := decide_eq_true h1
    rw [HE.out]
    clear h1
    go_enter Tryd.func46, Tryd.ntmps46
    go_wp2
    go_ret
    exact ⟨rfl, rfl⟩
  · have HE := hidE (show dgtI x = false by unfold dgtI; exact decide_eq_false (by omega))
    have d1 : decide (48 ≤ x) = false := decide_eq_false h1
    rw [HE.out]
    clear h1
    go_enter Tryd.func46, Tryd.ntmps46
    go_wp2
    go_ret
    exact ⟨rfl, rfl⟩
/-- Whether a run ends ahead of a byte, and whether it is white. -/
theorem class_i (x : Int) (w : World) : Calls Tryd.prog 40 #[.int .u8 x] w fun e w' => e = .returned (.tuple #[.bool (!(ltrI x || dgtI x)), .bool (whtI x)]) ∧ w' = w := by
  by_cases h1 : x = 32
  · subst h1
    rw [show ltrI 32 = false from rfl, show dgtI 32 = false from rfl]
    have HE : Hid (whtI 32 = decide (32 ≠ (40 : Nat) ∧ 32 ≠ (41 : Nat) ∧ 32 ≠ (58 : Nat))) := hidE (by decide)
    rw [HE.out]
    go_enter Tryd.func40, Tryd.ntmps40
    go_wp2
    go_ret2
    exact ⟨rfl, rfl⟩
  by_cases h2 : x = 9
  · subst h2
    rw [show ltrI 9 = false from rfl, show dgtI 9 = false from rfl]
    have HE : Hid (whtI 9 = decide (9 ≠ (40 : Nat) ∧ 9 ≠ (41 : Nat) ∧ 9 ≠ (58 : Nat))) := hidE (by decide)
    rw [HE.out]
    go_enter Tryd.func40, Tryd.ntmps40
    go_wp2
    go_ret2
    exact ⟨rfl, rfl⟩
  by_cases h3 : x = 10
  · subst h3
    rw [show ltrI 10 = false from rfl, show dgtI 10 = false from rfl]
    have HE : Hid (whtI 10 = decide (10 ≠ (40 : Nat) ∧ 10 ≠ (41 : Nat) ∧ 10 ≠ (58 : Nat))) := hidE (by decide)
    rw [HE.out]
    go_enter Tryd.func40, Tryd.ntmps40
    go_wp2
    go_ret2
    exact ⟨rfl, rfl⟩
  by_cases h4 : x = 13
  · subst h4
    rw [show ltrI 13 = false from rfl, show dgtI 13 = false from rfl]
    have HE : Hid (whtI 13 = decide (13 ≠ (40 : Nat) ∧ 13 ≠ (41 : Nat) ∧ 13 ≠ (58 : Nat))) := hidE (by decide)
    rw [HE.out]
    go_enter Tryd.func40, Tryd.ntmps40
    go_wp2
    go_ret2
    exact ⟨rfl, rfl⟩
  by_cases h5 : x = 40
  · subst h5
    rw [show ltrI 40 = false from rfl, show dgtI 40 = false from rfl]
    have HE : Hid (whtI 40 = decide (40 ≠ (40 : Nat) ∧ 40 ≠ (41 : Nat) ∧ 40 ≠ (58 : Nat))) := hidE (by decide)
    rw [HE.out]
    go_enter Tryd.func40, Tryd.ntmps40
    go_wp2
    go_ret2
    exact ⟨rfl, rfl⟩
  by_cases h6 : x = 41
  · subst h6
    rw [show ltrI 41 = false from rfl, show dgtI 41 = false from rfl]
    have HE : Hid (whtI 41 = decide (41 ≠ (40 : Nat) ∧ 41 ≠ (41 : Nat) ∧ 41 ≠ (58 : Nat))) := hidE (by decide)
    rw [HE.out]
    go_enter Tryd.func40, Tryd.ntmps40
    go_wp2
    go_ret2
    exact ⟨rfl, rfl⟩
  by_cases h7 : x = 58
  · subst h7
    rw [show ltrI 58 = false from rfl, show dgtI 58 = false from rfl]
    have HE : Hid (whtI 58 = decide (58 ≠ (40 : Nat) ∧ 58 ≠ (41 : Nat) ∧ 58 ≠ (58 : Nat))) := hidE (by decide)
    rw [HE.out]
    go_enter Tryd.func40, Tryd.ntmps40
    go_wp2
    go_ret2
    exact ⟨rfl, rfl⟩
  have HE := hidE (show whtI x = false by unfold whtI; exact decide_eq_false (by omega))
  have HL := hidE (fun w => ltrI_c x w); have HD := hidE (fun w => dgtI_c x w)
  have e1 : (x == 32) = false := beq_eq_false_iff_ne.2 h1
  have e2 : (x == 9) = false := beq_eq_false_iff_ne.2 h2
  have e3 : (x == 10) = false := beq_eq_false_iff_ne.2 h3
  have e4 : (x == 13) = false := beq_eq_false_iff_ne.2 h4
  have e5 : (x == 40) = false := beq_eq_false_iff_ne.2 h5
  have e6 : (x == 41) = false := beq_eq_false_iff_ne.2 h6
  have e7 : (x == 58) = false := beq_eq_false_iff_ne.2 h7
  rw [HE.out]
  clear h1 h2 h3 h4 h5 h6 h7
  generalize ltrI x = bl at *
  generalize dgtI x = bd at *
  cases bl
  · cases bd
    all_goals
      go_enter Tryd.func40, Tryd.ntmps40
      go_wp2_with (first | (go_at_call 45; (with_reducible refine (HL.out _).mono ?_); rintro e w' ⟨rfl, rfl⟩) | (go_at_call 46; (with_reducible refine (HD.out _).mono ?_); rintro e w' ⟨rfl, rfl⟩))
      go_ret2
      exact ⟨rfl, rfl⟩
  · go_enter Tryd.func40, Tryd.ntmps40
    go_wp2_with (first | (go_at_call 45; (with_reducible refine (HL.out _).mono ?_); rintro e w' ⟨rfl, rfl⟩) | (go_at_call 46; (with_reducible refine (HD.out _).mono ?_); rintro e w' ⟨rfl, rfl⟩))
    go_ret2
    exact ⟨rfl, rfl⟩
theorem class_c (c : UInt8) (w : World) : Calls Tryd.prog 40 #[.int .u8 c.toNat] w fun e w' => e = .returned (.tuple #[.bool (!alnumB c), .bool (whiteB c)]) ∧ w' = w := by
  have := class_i c.toNat w
  rw [ltrI_of, dgtI_of, whtI_of] at this
  exact this
theorem inrun_c (c : UInt8) (w : World) : Calls Tryd.prog 48 #[.int .u8 c.toNat] w fun e w' => e = .returned (.bool (alnumB c)) ∧ w' = w := by
  have HC := hidE (fun w => class_c c w)
  have HE := hidE (Bool.not_not (alnumB c))
  generalize alnumB c = b at *
  cases b
  all_goals
    go_enter Tryd.func48, Tryd.ntmps48
    go_wp2_with (go_at_call 40; (with_reducible refine (HC.out _).mono ?_); rintro e w' ⟨rfl, rfl⟩)
    go_ret
    exact ⟨rfl, rfl⟩
theorem letter_c (c : UInt8) (w : World) : Calls Tryd.prog 45 #[.int .u8 c.toNat] w fun e w' => e = .returned (.bool (letterB c)) ∧ w' = w := by
  rw [← ltrI_of]; exact ltrI_c _ w
theorem digit_c (c : UInt8) (w : World) : Calls Tryd.prog 46 #[.int .u8 c.toNat] w fun e w' => e = .returned (.bool (digitB c)) ∧ w' = w := by
  rw [← dgtI_of]; exact dgtI_c _ w
/-- Whether there is a blank between two kinds. -/
def apI (x y : Nat) : Bool := x != 2 && y != 3 && y != 4
end Go.Proofs.YtaeipfnpglbooaaDoor

namespace Go.Proofs.YtaeipfnpglbooaaDoor
open Go.ChangeShapes Go.WideShapes Go.ChangeAt Go.RowKit
attribute [local irreducible] Go.Calls

theorem tw_at (p : UInt8 → Bool) : ∀ (l : List UInt8) (j : Nat), j < (l.takeWhile p).length → j < l.length ∧ p (l.getD j 0) = true
  | [], j, h => by simp at h
  | c :: r, j, h => by
    rw [List.takeWhile_cons] at h
    cases hc : p c
    · rw [hc] at h; simp at h
    · rw [hc, if_pos rfl] at h
      cases j with
      | zero => exact ⟨by simp, hc⟩
      | succ j =>
        have := tw_at p r j (by simp only [List.length_cons] at h; omega)
        exact ⟨by simp only [List.length_cons]; omega, this.2⟩
theorem tw_end (p : UInt8 → Bool) : ∀ (l : List UInt8), (l.takeWhile p).length < l.length → p (l.getD (l.takeWhile p).length 0) = false
  | [], h => by simp at h
  | c :: r, h => by
    rw [List.takeWhile_cons] at h ⊢
    cases hc : p c
    · simpa using hc
    · rw [hc, if_pos rfl] at h
      rw [if_pos rfl]
      exact tw_end p r (by simp only [List.length_cons] at h; omega)
theorem getD_drop (s : List UInt8) (k j : Nat) : (s.drop k).getD j 0 = s.getD (k + j) 0 := by
  rw [List.getD_eq_getElem?_getD, List.getElem?_drop, ← List.getD_eq_getElem?_getD]
/-- How far a run goes. -/
def rlen (s : List UInt8) (k : Nat) : Nat := ((s.drop k).takeWhile alnumB).length
theorem rlen_in {s : List UInt8} {k j : Nat} (h : j < rlen s k) : k + j < s.length ∧ alnumB (s.getD (k + j) 0) = true := by
  have := tw_at alnumB (s.drop k) j h
  rw [getD_drop, List.length_drop] at this
  exact ⟨by omega, this.2⟩
theorem rlen_end {s : List UInt8} {k : Nat} (h : k + rlen s k < s.length) : alnumB (s.getD (k + rlen s k) 0) = false := by
  have := tw_end alnumB (s.drop k) (by rw [List.length_drop]; unfold rlen at h; omega)
  rw [getD_drop] at this
  exact this
theorem rlen_le {s : List UInt8} {k : Nat} (h : k ≤ s.length) : k + rlen s k ≤ s.length := by
  have := takeWhile_len (p := alnumB) (s.drop k)
  rw [List.length_drop] at this
  unfold rlen; omega
set_option maxHeartbeats 1000000 in
theorem behind_c (s : List UInt8) (k : Nat) (w : World) (hs : s.length ≤ 1000000000) (hk : k < s.length) : Calls Tryd.prog 39 #[strV s, .int .i64 k] w fun e w' => e = .returned (.int .i64 (bhd s k)) ∧ w' = w := by
  have slen : (⟨s.toArray⟩ : ByteArray).size = s.length := by simp [ByteArray.size]
  have HRL := hidE (rlen_le (s := s) (k := k) (by omega))
  have HBD := hidE (show bhd s k = max (k + rlen s k) (k + 1) from rfl)
  go_enter Tryd.func39, Tryd.ntmps39
  go_wp2
  go_loopg [5] (s.length - k) (fun gh v5 wr => ∃ j : Nat, j ≤ rlen s k ∧ rlen s k - j ≤ gh ∧ v5 = .int .i64 ((k + j : Nat) : Int) ∧ wr = w)
  case atStart => exact ⟨0, Nat.zero_le _, by have := HRL.out; omega, by simp, rfl⟩
  case round =>
    obtain ⟨j, hj, hgh, rfl, rfl⟩ := hrel
    by_cases hlt : j < rlen s k
    · obtain ⟨q1, q2⟩ := rlen_in hlt
      have HIN := hidE (fun (h : k + j < (⟨s.toArray⟩ : ByteArray).size) w => show Calls Tryd.prog 48 #[.int .u8 ((⟨s.toArray⟩ : ByteArray)[k + j]'h).toNat] w fun e w' => e = .returned (.bool true) ∧ w' = w from by
        have := inrun_c ((⟨s.toArray⟩ : ByteArray)[k + j]'h) w
        rw [byte_at s h, q2] at this
        rw [byte_at s h]
        exact this)
      generalize hm : k + j = m at *
      have d1 : decide ((m : Int) < (s.length : Int)) = true := decide_eq_true (by omega)
      have d1' : decide (m < s.length) = true := decide_eq_true q1
      clear q2
      go_wp2_with (go_at_call 48; (with_reducible refine (HIN.out _ _).mono ?_); rintro e w' ⟨rfl, rfl⟩)
      go_roundg (rlen s k - (j + 1))
      case measure => omega
      case rel => exact ⟨j + 1, by omega, Nat.le_refl _, by rw [← Nat.add_assoc, hm]; go_num, rfl⟩
    · obtain rfl : j = rlen s k := by omega
      have hmax : ((bhd s k : Nat) : Int) = if ((k + rlen s k : Nat) : Int) < (k : Int) + 1 then (k : Int) + 1 else ((k + rlen s k : Nat) : Int) := by
        rw [HBD.out]
        split <;> omega
      have HMX := hidE hmax
      by_cases hlt2 : k + rlen s k < s.length
      · have q2 := rlen_end hlt2
        have HIN := hidE (fun (h : k + rlen s k < (⟨s.toArray⟩ : ByteArray).size) w => show Calls Tryd.prog 48 #[.int .u8 ((⟨s.toArray⟩ : ByteArray)[k + rlen s k]'h).toNat] w fun e w' => e = .returned (.bool false) ∧ w' = w from by
          have := inrun_c ((⟨s.toArray⟩ : ByteArray)[k + rlen s k]'h) w
          rw [byte_at s h, q2] at this
          rw [byte_at s h]
          exact this)
        clear hmax HRL HBD hlt hgh hj q2
        generalize k + rlen s k = m at *
        have d1 : decide ((m : Int) < (s.length : Int)) = true := decide_eq_true (by omega)
        have d1' : decide (m < s.length) = true := decide_eq_true hlt2
        go_wp2_with (go_at_call 48; (with_reducible refine (HIN.out _ _).mono ?_); rintro e w' ⟨rfl, rfl⟩)
        all_goals
          go_ret
          refine ⟨?_, rfl⟩
          rw [HMX.out]
          first | (rw [if_pos (by omega)]; rfl) | (rw [if_neg (by omega)]; rfl) | exact congrArg (fun x => Ending.returned (Value.int IntKind.i64 x)) (by split <;> omega)
      · clear hmax HRL HBD hlt hgh hj
        generalize k + rlen s k = m at *
        have d1 : decide ((m : Int) < (s.length : Int)) = false := decide_eq_false (by omega)
        have d1' : decide (m < s.length) = false := decide_eq_false hlt2
        go_wp2
        all_goals
          go_ret
          refine ⟨?_, rfl⟩
          rw [HMX.out]
          first | (rw [if_pos (by omega)]; rfl) | (rw [if_neg (by omega)]; rfl) | exact congrArg (fun x => Ending.returned (Value.int IntKind.i64 x)) (by split <;> omega)
set_option maxHeartbeats 1000000 in
theorem word_c (s : List UInt8) (w : World) (hs : s.length ≤ 1000000000) : Calls Tryd.prog 35 #[strV s] w fun e w' => e = .returned (.bool (isWord s)) ∧ Below w.heap.size w w' := by
  have slen : (⟨s.toArray⟩ : ByteArray).size = s.length := by simp [ByteArray.size]
  go_enter Tryd.func35, Tryd.ntmps35
  go_wp2
  go_loopg [6] s.length (fun gh v6 wr => ∃ i : Nat, i ≤ s.length ∧ s.length - i ≤ gh ∧ v6 = .int .i64 i ∧ (∀ j, j < i → letterB (s.getD j 0) = true) ∧ wr = w)
  case atStart => exact ⟨0, Nat.zero_le _, Nat.le_refl _, rfl, fun j h => by omega, rfl⟩
  case round =>
    obtain ⟨i, hi, hgh, rfl, hall, rfl⟩ := hrel
    have HA := hidE hall
    clear hall
    by_cases hlt : i < s.length
    · have d1 : decide ((i : Int) < (s.length : Int)) = true := decide_eq_true (by omega)
      have d1' : decide (i < s.length) = true := decide_eq_true hlt
      cases hl : letterB (s.getD i 0)
      · have HIN := hidE (fun (h : i < (⟨s.toArray⟩ : ByteArray).size) w => show Calls Tryd.prog 45 #[.int .u8 ((⟨s.toArray⟩ : ByteArray)[i]'h).toNat] w fun e w' => e = .returned (.bool false) ∧ w' = w from by
          have := letter_c ((⟨s.toArray⟩ : ByteArray)[i]'h) w
          rw [byte_at s h, hl] at this
          rw [byte_at s h]
          exact this)
        have HE := hidE (show isWord s = false by
          unfold isWord
          rw [Bool.and_eq_false_iff]; right
          rw [List.all_eq_false]
          rw [List.getD_eq_getElem?_getD, List.getElem?_eq_getElem hlt] at hl
          exact ⟨_, List.getElem_mem hlt, by rw [show letterB s[i] = false from hl]; decide⟩)
        clear hl
        go_wp2_with (go_at_call 45; (with_reducible refine (HIN.out _ _).mono ?_); rintro e w' ⟨rfl, rfl⟩)
        go_ret
        exact ⟨by rw [HE.out]; rfl, Below.refl _ _⟩
      · have HIN := hidE (fun (h : i < (⟨s.toArray⟩ : ByteArray).size) w => show Calls Tryd.prog 45 #[.int .u8 ((⟨s.toArray⟩ : ByteArray)[i]'h).toNat] w fun e w' => e = .returned (.bool true) ∧ w' = w from by
          have := letter_c ((⟨s.toArray⟩ : ByteArray)[i]'h) w
          rw [byte_at s h, hl] at this
          rw [byte_at s h]
          exact this)
        have HL := hidE hl
        clear hl
        go_wp2_with (go_at_call 45; (with_reducible refine (HIN.out _ _).mono ?_); rintro e w' ⟨rfl, rfl⟩)
        go_roundg (s.length - (i + 1))
        case measure => omega
        case rel => exact ⟨i + 1, by omega, Nat.le_refl _, by go_num, fun j hj => by
          by_cases e : j = i
          · subst e; exact HL.out
          · exact HA.out j (by omega), rfl⟩
    · have d1 : decide ((i : Int) < (s.length : Int)) = false := decide_eq_false (by omega)
      have d1' : decide (i < s.length) = false := decide_eq_false hlt
      obtain rfl : i = s.length := by omega
      have hw : isWord s = !s.isEmpty := by
        unfold isWord
        rw [show s.all letterB = true from by
          rw [List.all_eq_true]
          intro x hx
          obtain ⟨j, hj, e⟩ := List.getElem_of_mem hx
          have := HA.out j hj
          rw [List.getD_eq_getElem?_getD, List.getElem?_eq_getElem hj] at this
          rw [← e]; exact this, Bool.and_true]
      have HW := hidE hw
      clear hw HA
      cases s with
      | nil =>
        go_wp2
        go_ret
        exact ⟨by rw [HW.out]; rfl, Below.refl _ _⟩
      | cons c r =>
        go_wp2
        go_ret
        refine ⟨?_, Below.refl _ _⟩
        rw [HW.out]
        first | rfl | (simp; done)
end Go.Proofs.YtaeipfnpglbooaaDoor
