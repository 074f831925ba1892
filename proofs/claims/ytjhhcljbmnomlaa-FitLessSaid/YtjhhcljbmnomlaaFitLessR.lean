/- A region that draws its order: operations by an invariant of what has run, then a call that waits for all of them, then what is read out of its answer. No function of the program. No conditions. The walk of the statement on what frees no more. Conditions: that the slices read as functions and policies. FitLess: for every case, function and policy, the statement's function answers true and leaves its arguments alone. No conditions. -/
import Derived.Test.YtjhhcljbmnomlaaPFGG
import Derived.Test.YtjhhcljbmnomlaaPFGA
namespace Go.Proofs.Ytjhhcljbmnomlaa
open Go.RowKit

/-- What an operation waits for has run. -/
def ShutL (l : List Oper) (n : Nat) (L : Nat → Bool) : Prop := ∀ j k, j < n → waits l.toArray j k = true → L j = true → L k = true
theorem cov_listed {l : List Oper} {n : Nat} {L : Nat → Bool} (hs : ShutL l n L) : ∀ (d i j : Nat), i < n → (∀ k, waits l.toArray i k = true → L k = true) → cover l.toArray d i j = true → L j = true := by
  intro d
  induction d with
  | zero => intro i j _ h hc; exact h j hc
  | succ d ih =>
    intro i j hi h hc
    simp only [cover, Bool.or_eq_true, List.any_eq_true, Bool.and_eq_true, List.mem_range] at hc
    rcases hc with hc | ⟨k, hk, hw, hc⟩
    · exact h j hc
    · exact ih k j (by omega) (fun q hq => hs k q (by omega) hq (h k hw)) hc
theorem covX_listed {l : List Oper} {n : Nat} {L : Nat → Bool} (hs : ShutL l n L) {i j : Nat} (hi : i < n) (h : ∀ k, waits l.toArray i k = true → L k = true) (hc : coverX l.toArray i j = true) : L j = true := by
  unfold coverX at hc
  rw [Bool.or_eq_true] at hc
  rcases hc with hc | hc
  · exact cov_listed hs 3 i j hi h hc
  · exact cov_listed hs 8 i j hi h hc
theorem gives_mono {P : Program} {G G' : Value → World → Prop} {r : Result Next} (h : gives P G r) (hm : ∀ v w, G v w → G' v w) : gives P G' r := by
  cases r with
  | ok n w' =>
    cases n <;> simp only [gives] at h <;> simp only [gives]
    case value u => exact hm _ _ h
    case skip => exact hm _ _ h
    case enter f args => exact h.mono fun e w'' ⟨v, he, hg⟩ => ⟨v, he, hm _ _ hg⟩
  | halt x w' => simp only [gives] at h
section
variable {P : Program} {l : List Oper} {n q : Nat} {a0 : Act} {w0 : World}
/-- Before the call: the invariant; behind it: what it left, and what has been read out of its answer. -/
def CkI (l : List Oper) (n q : Nat) (I : (Nat → Bool) → (Nat → Value) → World → Prop) (Post : Value → World → Prop) (fs : Nat → Value → Value) (L : Nat → Bool) (u : Nat → Value) (w : World) : Prop :=
  (ShutL l n L ∧ ∀ k, n ≤ k → L k = false) ∧ (L q = false → I L u w ∧ ∀ j, q < j → L j = false) ∧ (L q = true → Post (u q) w ∧ ∀ j, q < j → L j = true → u j = fs j (u q))
theorem shut_up {L : Nat → Bool} (h : ShutL l n L) {i : Nat} (hw : ∀ j, waits l.toArray i j = true → L j = true) : ShutL l n (fun j => if j = i then true else L j) := fun j k hj hk h1 => by
  by_cases c : k = i
  · simp [c]
  · simp only [if_neg c]
    by_cases c2 : j = i
    · subst c2; exact hw k hk
    · simp only [if_neg c2] at h1
      exact h j k hj hk h1
/-- THE LAW. -/
theorem wp_region_CK {id : Nat} {Q : Exit → Act → World → Prop} (n q : Nat) (I : (Nat → Bool) → (Nat → Value) → World → Prop) (Post : Value → World → Prop) (fs : Nat → Value → Value) (hm : P.follows .mixedOrders = true) (hn : n ≤ l.length) (hok : jOk l n [] = true)
    (hq : q < n) (hcov : ((List.range q).all fun j => coverX l.toArray q j) = true) (hcov2 : ((List.range n).all fun i => decide (i ≤ q) || coverX l.toArray i q) = true) (hb : ((List.range n).all fun i => (List.range l.length).all fun j => !(waits l.toArray i j) || decide (j < i)) = true)
    (hstart : I (fun _ => false) (fun _ => undef) w0.drew)
    (hstep : ∀ (i : Nat) (o : Oper), i < q → l[i]? = some o → CStep P l n a0 I i o)
    (hcall : ∀ (o : Oper), l[q]? = some o → o.guard = none ∧ ∀ (E : Operand → Value) (L : Nat → Bool) (u : Nat → Value) (w : World), (∀ t j, dstOnly (l.take n) t j = true → t < a0.tmps.size → E (.tmp t) = u j) → (∀ t, dstNone (l.take n) t = true → E (.tmp t) = a0.eval (.tmp t)) → (∀ v, E (.const v) = v) → (∀ f, E (.func f) = .func (.func f) #[] #[]) →
      (∀ j, j < q → L j = true) → I L u w → gives P Post ((execOp E o).run P w))
    (hrest : ∀ (i : Nat) (o : Oper), q < i → i < n → l[i]? = some o → o.guard = none ∧ ∀ (E : Operand → Value) (u : Nat → Value) (w : World), (∀ t j, dstOnly (l.take n) t j = true → t < a0.tmps.size → E (.tmp t) = u j) → (∀ t, dstNone (l.take n) t = true → E (.tmp t) = a0.eval (.tmp t)) →
      (∀ j, q < j → waits l.toArray i j = true → u j = fs j (u q)) → Post (u q) w → gives P (fun v w' => v = fs i (u q) ∧ w' = w) ((execOp E o).run P w))
    (htail : ∀ (u : Nat → Value) (w : World), (∀ j, q < j → j < n → u j = fs j (u q)) → Post (u q) w → wpList P l.toArray Q (l.drop n) (frm (l.take n) u 0 a0) w) :
    (Code.region id l.toArray true).wp P Q a0 w0 := by
  have hcov' : ∀ j, j < q → coverX l.toArray q j = true := fun j hj => List.all_eq_true.1 hcov j (List.mem_range.2 hj)
  have hcov2' : ∀ i, i < n → q < i → coverX l.toArray i q = true := fun i hi hqi => by
    have := List.all_eq_true.1 hcov2 i (List.mem_range.2 hi)
    rw [Bool.or_eq_true] at this
    rcases this with h | h
    · have := of_decide_eq_true h; omega
    · exact h
  refine wp_region_C n (CkI l n q I Post fs) hm hn hok ⟨⟨fun j k _ _ h => (by cases h), fun _ _ => rfl⟩, fun _ => ⟨hstart, fun _ _ => rfl⟩, fun h => (by cases h)⟩ ?_ ?_
  · intro i o hi ho
    have wlt : ∀ j, waits l.toArray i j = true → j < n := fun j hj => by
      by_cases c : j < l.length
      · have := List.all_eq_true.1 (List.all_eq_true.1 hb i (List.mem_range.2 hi)) j (List.mem_range.2 c)
        rw [hj] at this
        have := of_decide_eq_true (by simpa using this : decide (j < i) = true)
        omega
      · exfalso
        have hok' := jOk_spec hok
        have hil : l[i]? = some o := ho
        unfold waits at hj
        have hka : l.toArray[i]? = some o := by simpa using ho
        rw [hka] at hj
        obtain ⟨e, he, hb⟩ := Array.any_eq_true'.1 hj
        simp only [Bool.and_eq_true, beq_iff_eq] at hb
        have := hok'.back i o ho e he hb.1
        rw [hb.2] at this
        have hlt : i < l.length := (List.getElem?_eq_some_iff.1 ho).1
        omega
    rcases Nat.lt_trichotomy i q with hiq | rfl | hiq
    · have hs := hstep i o hiq ho
      intro L u w hl hw hI
      obtain ⟨⟨h1, h1n⟩, h2, h3⟩ := hI
      have hLq : L q = false := by
        cases e : L q with
        | false => rfl
        | true =>
          have := covX_listed h1 hq (fun k hk => h1 q k hq hk e) (hcov' i hiq)
          rw [this] at hl; cases hl
      obtain ⟨hIL, hno⟩ := h2 hLq
      have hs := hs L u w hl hw hIL
      have hqi : ¬ q = i := by omega
      have fin : ∀ v w', I (fun j => if j = i then true else L j) (fun j => if j = i then v else u j) w' → CkI l n q I Post fs (fun j => if j = i then true else L j) (fun j => if j = i then v else u j) w' := fun v w' hv =>
        ⟨⟨shut_up h1 (fun j hj => hw j (wlt j hj) hj), fun k hk => by simp only [if_neg (show ¬ k = i by omega)]; exact h1n k hk⟩, fun _ => ⟨hv, fun j hj => by simp only [if_neg (show ¬ j = i by omega)]; exact hno j hj⟩, fun h => by simp only [if_neg hqi, hLq] at h; cases h⟩
      split
      · rename_i hwd
        rw [if_pos hwd] at hs
        exact gives_mono hs fin
      · rename_i hwd
        rw [if_neg hwd] at hs
        exact fin _ _ hs
    · obtain ⟨hg, hc⟩ := hcall o ho
      refine cstep_evF hg ?_
      intro E L u w E1 E0 EC EF hl hw hI
      obtain ⟨⟨h1, h1n⟩, h2, h3⟩ := hI
      obtain ⟨hIL, hno⟩ := h2 hl
      have hall : ∀ j, j < i → L j = true := fun j hj => covX_listed h1 hi (fun k hk => hw k (wlt k hk) hk) (hcov' j hj)
      have hs := hc E L u w E1 E0 EC EF hall hIL
      have fin : ∀ v w', Post v w' → CkI l n i I Post fs (fun j => if j = i then true else L j) (fun j => if j = i then v else u j) w' := fun v w' hv =>
        ⟨⟨shut_up h1 (fun j hj => hw j (wlt j hj) hj), fun k hk => by simp only [if_neg (show ¬ k = i by omega)]; exact h1n k hk⟩, fun h => by simp at h, fun _ => ⟨by simpa using hv, fun j hj h => by simp only [if_neg (show ¬ j = i by omega)] at h; rw [hno j hj] at h; cases h⟩⟩
      exact gives_mono hs fin
    · obtain ⟨hg, hc⟩ := hrest i o hiq hi ho
      refine cstep_evF hg ?_
      intro E L u w E1 E0 EC EF hl hw hI
      obtain ⟨⟨h1, h1n⟩, h2, h3⟩ := hI
      have hLq : L q = true := covX_listed h1 hi (fun k hk => hw k (wlt k hk) hk) (hcov2' i hi hiq)
      obtain ⟨hP, hf⟩ := h3 hLq
      have hs := hc E u w E1 E0 (fun j hj hwj => hf j hj (hw j (wlt j hwj) hwj)) hP
      have hqi : ¬ q = i := by omega
      have fin : ∀ v w', v = fs i (u q) ∧ w' = w → CkI l n q I Post fs (fun j => if j = i then true else L j) (fun j => if j = i then v else u j) w' := fun v w' ⟨hv, hw'⟩ => by
        subst hw'
        refine ⟨⟨shut_up h1 (fun j hj => hw j (wlt j hj) hj), fun k hk => by simp only [if_neg (show ¬ k = i by omega)]; exact h1n k hk⟩, fun h => (by simp only [if_neg hqi, hLq] at h; cases h), fun _ => ⟨by simp only [if_neg hqi]; exact hP, fun j hj h => ?_⟩⟩
        simp only [if_neg hqi]
        by_cases c : j = i
        · subst c; simpa using hv
        · simp only [if_neg c] at h ⊢
          exact hf j hj h
      exact gives_mono hs fin
  · intro L u w hall hI
    obtain ⟨_, _, h3⟩ := hI
    obtain ⟨hP, hf⟩ := h3 (hall q hq)
    exact htail u w (fun j h1 h2 => hf j h1 (hall j h2)) hP
end
end Go.Proofs.Ytjhhcljbmnomlaa

namespace Go.Proofs.Ytjhhcljbmnomlaa
open Go.ChangeShapes Go.WideShapes Go.ChangeAt Go.RowKit
attribute [local irreducible] Go.Calls

theorem Try.infoPol : (Try.prog.info? 41).map (fun i => (i.zero, i.size, i.bytes)) = some (some (.agg #[.int .u8 0, .int .i64 0, .int .i64 0, .int .i64 0]), 4, 32) := by kernel_rfl
/-- What stays in memory. -/
structure FlI (C L O M : List Sg) (P : List Pol) (a1 a2 a3 a4 a5 : Option Addr) (n1 c1 n2 c2 n3 c3 n4 c4 n5 c5 : Nat) (x k m c nn : Int) (w W : World) : Prop where
  b1 : Blk W w.heap.size #[.slice a1 n1 c1, .slice a2 n2 c2, .slice a3 n3 c3, .slice a4 n4 c4, .int .i64 x] 25
  b2 : Blk W (w.heap.size + 1) #[.int .u8 k, .int .i64 m, .int .i64 c, .int .i64 nn] 41
  s1 : SliS W (.slice a1 n1 c1) C
  s2 : SliS W (.slice a2 n2 c2) L
  s3 : SliS W (.slice a3 n3 c3) O
  s5 : SliS W (.slice a5 n5 c5) M
  sp : ArgPs W a4 P
  bel : Below w.heap.size w W
section
variable {C L O M : List Sg} {P : List Pol} {a1 a2 a3 a4 a5 : Option Addr} {n1 c1 n2 c2 n3 c3 n4 c4 n5 c5 : Nat} {x k m c nn : Int}
theorem FlI.past {w W W' : World} (h : FlI C L O M P a1 a2 a3 a4 a5 n1 c1 n2 c2 n3 c3 n4 c4 n5 c5 x k m c nn w W) (hb : Below W.heap.size W W') : FlI C L O M P a1 a2 a3 a4 a5 n1 c1 n2 c2 n3 c3 n4 c4 n5 c5 x k m c nn w W' :=
  ⟨h.b1.past hb, h.b2.past hb, h.s1.past hb, h.s2.past hb, h.s3.past hb, h.s5.past hb, h.sp.past hb, bstep hb h.bel⟩
/-- The answer is an error and nothing, or the free function. -/
theorem freeIs_cases {P : List Pol} {C L O f : List Sg} {x er : Int} (h : FreeIs P C L O x f er) : (er ≠ 0 ∧ f = []) ∨ (er = 0 ∧ FreeF P C L O x f ∧ mayB C = true ∧ mayB L = true ∧ mayB O = true) := by
  rcases h with ⟨_, rfl, rfl⟩ | ⟨hm, ⟨_, rfl, rfl⟩ | ⟨_, ⟨_, rfl, rfl⟩ | ⟨_, ⟨_, rfl, rfl⟩ | ⟨_, rfl, h⟩⟩⟩⟩
  · exact .inl ⟨by decide, rfl⟩
  · exact .inl ⟨by decide, rfl⟩
  · exact .inl ⟨by decide, rfl⟩
  · exact .inl ⟨by decide, rfl⟩
  · have : (mayB C = true ∧ mayB L = true) ∧ mayB O = true := by simpa using hm
    exact .inr ⟨rfl, h, this.1.1, this.1.2, this.2⟩
theorem FreeF.may {P : List Pol} {C L O f : List Sg} {x : Int} (h : FreeF P C L O x f) : mayB f = true := h.1
/-- What a call that answers a function and an error leaves. -/
def FlR (P : List Pol) (C L O : List Sg) (x : Int) (w : World) (v : Value) (w' : World) : Prop :=
  ∃ (a : Option Addr) (n cap : Nat) (f : List Sg) (er : Int), v = .tuple #[.slice a n cap, .int .i64 er] ∧ SliS w' (.slice a n cap) f ∧ FreeIs P C L O x f er ∧ f.length ≤ 400000 ∧ Below w.heap.size w w'
def tupAt (k : Nat) (v : Value) : Value := match v with
  | .tuple cs => cs.getD k undef
  | _ => undef
def fsF (i : Nat) (v : Value) : Value := if i = 16 then v else if i = 18 then tupAt 1 v else tupAt 0 v
theorem leB_self (v : Int × Int) : leB v.1 v.2 v.1 v.2 = true := leB_iff.2 ⟨Int.le_refl _, Int.le_refl _⟩
theorem rev_step {P : List Pol} {k : Nat} (h : k < P.length) : P.reverse.take (k + 1) = P.reverse.take k ++ [P.getD (P.length - 1 - k) (0, (0, 0), 0)] := by
  have hr : k < P.reverse.length := by simpa using h
  rw [List.take_succ_eq_append_getElem hr, List.getElem_reverse, getD_get _ _ _ (by omega)]
/-- More load. -/
theorem max_load {L M H : List Sg} {j : Int} (h : doS 3 L M = (H, j)) : H.length ≤ L.length + M.length ∧ (j = 0 → ∀ t, leB (vat L t).1 (vat L t).2 (vat H t).1 (vat H t).2 = true) := by
  constructor
  · unfold doS at h
    split at h
    · cases h; simp
    · split at h
      · cases h; exact opL_len _ _ _
      · cases h; simp
  · intro hj
    subst hj
    obtain ⟨q1, q2, _, hv⟩ := doS_vals h
    obtain ⟨H', e, _, hv'⟩ := high_is q1 q2
    rw [h] at e
    cases e
    intro t
    rw [hv' t, leB_iff, mx_max, mx_max]
    omega
theorem min_cap {C M H : List Sg} {j : Int} (h : doS 2 C M = (H, j)) : H.length ≤ C.length + M.length ∧ (j = 0 → ∀ t, leB (vat H t).1 (vat H t).2 (vat C t).1 (vat C t).2 = true) := by
  constructor
  · unfold doS at h
    split at h
    · cases h; simp
    · split at h
      · cases h; exact opL_len _ _ _
      · cases h; simp
  · intro hj
    subst hj
    obtain ⟨q1, q2, _, hv⟩ := doS_vals h
    obtain ⟨H', e, _, hv'⟩ := low_is q1 q2
    rw [h] at e
    cases e
    intro t
    rw [hv' t, leB_iff, mn_min, mn_min]
    omega
set_option maxRecDepth 100000 in
set_option maxHeartbeats 16000000 in
theorem fless_c (w : World) (S1 : SliS w (.slice a1 n1 c1) C) (S2 : SliS w (.slice a2 n2 c2) L) (S3 : SliS w (.slice a3 n3 c3) O) (S4 : ArgPs w a4 P) (hn4 : n4 = P.length) (h0 : a4 = none → P.length = 0 ∧ c4 = 0) (S5 : SliS w (.slice a5 n5 c5) M) :
    Calls Try.prog 4 #[.agg #[.slice a1 n1 c1, .slice a2 n2 c2, .slice a3 n3 c3, .slice a4 n4 c4, .int .i64 x], .slice a5 n5 c5, .agg #[.int .u8 k, .int .i64 m, .int .i64 c, .int .i64 nn]] w fun e w' => e = .returned (.bool true) ∧ Below w.heap.size w w' := by
  obtain ⟨w0, hw0⟩ : ∃ w0, w0 = (w.alloc (Obj.cells #[.slice a1 n1 c1, .slice a2 n2 c2, .slice a3 n3 c3, .slice a4 n4 c4, .int .i64 x] 25)).alloc (Obj.cells #[.int .u8 k, .int .i64 m, .int .i64 c, .int .i64 nn] 41) := ⟨_, rfl⟩
  have hb0 : Below w.heap.size w w0 := by rw [hw0]; (repeat (first | exact Below.refl _ _ | assumption | refine balloc ?_ _ | refine below_drewN ?_ _ | refine bstep (by assumption) ?_ | refine bstep (Past.prop _) ?_ | refine Below.setCell ?_ (by first | exact Nat.le_refl _ | (simp; done) | (simp; omega)) _))
  have HI := hidE (show FlI C L O M P a1 a2 a3 a4 a5 n1 c1 n2 c2 n3 c3 n4 c4 n5 c5 x k m c nn w w0 from ⟨by rw [hw0]; exact (Blk.made _ _ _).alloc _, by rw [hw0]; exact Blk.made_at _ _ _ _ (by simp), S1.past hb0, S2.past hb0, S3.past hb0, S5.past hb0, S4.past hb0, hb0⟩)
  have HH := hidE (fun w => fhead_c w)
  have HG := hidE (fun w => fgreat_c a1 a2 a3 a4 n1 c1 n2 c2 n3 c3 n4 c4 x w)
  have H4 := hidE hn4; have H0 := hidE h0
  clear S1 S2 S3 S4 S5 hb0 hn4 h0
  obtain ⟨p, hp⟩ : ∃ p, p = w.heap.size := ⟨_, rfl⟩
  cases hg : greatF n1 n2 n3 n4
  · rw [hg] at HG
    have NL := hidE (greatF_no hg)
    clear hg
    by_cases h5 : n5 ≤ 40
    · have d5 : decide ((40 : Int) < (n5 : Int)) = false := decide_eq_false (by omega)
      have d5' : decide (40 < n5) = false := decide_eq_false (by omega)
      have N5 := hidE h5
      clear h5
      go_enter Try.func4, Try.ntmps4
      go_upto_region 1 with fail
      rw [← hw0]
      clear hw0
      have b0 := HI.out.b1.cell 0; have b1 := HI.out.b1.cell 1; have b2 := HI.out.b1.cell 2; have b3 := HI.out.b1.cell 3; have b4 := HI.out.b1.cell 4; have bz := HI.out.b1.lt; have d0 := HI.out.b2.cell 0; have d1 := HI.out.b2.cell 1; have d2 := HI.out.b2.cell 2; have d3 := HI.out.b2.cell 3; have dz := HI.out.b2.lt
      simp at b0 b1 b2 b3 b4 d0 d1 d2 d3
      go_wp2_with fail
      ((with_reducible refine (HG.out _).mono ?_); rintro e w1 ⟨rfl, hb⟩)
      have HX := hidE (show Below w0.heap.size w0 w1 from hb)
      have HI := hidE (HI.out.past HX.out)
      clear hb HX b0 b1 b2 b3 b4 bz d0 d1 d2 d3 dz
      have b0 := HI.out.b1.cell 0; have b1 := HI.out.b1.cell 1; have b2 := HI.out.b1.cell 2; have b3 := HI.out.b1.cell 3; have b4 := HI.out.b1.cell 4; have bz := HI.out.b1.lt; have d0 := HI.out.b2.cell 0; have d1 := HI.out.b2.cell 1; have d2 := HI.out.b2.cell 2; have d3 := HI.out.b2.cell 3; have dz := HI.out.b2.lt
      simp at b0 b1 b2 b3 b4 d0 d1 d2 d3
      go_wp2_with fail
      (with_reducible refine (free_s (P := P) (C := C) (L := L) (O := O) (x := x) ?q1 ?q2 ?q3 ?q4 ?q5 ?q6 ?q7 ?q8 ?q9).mono ?_)
      case q1 => exact HI.out.s1
      case q2 => exact HI.out.s2
      case q3 => exact HI.out.s3
      case q4 => exact HI.out.sp
      case q5 => exact H4.out
      case q6 => have := NL.out; omega
      case q7 => have := NL.out; omega
      case q8 => have := NL.out; omega
      case q9 => have := NL.out; omega
      rintro e w2 ⟨af, nf, cf, F, er, rfl, hs, hi, hl, hb⟩
      have SF := hidE hs; have HF := hidE hi
      have NF := hidE (show nf ≤ 400000 by have := hs.len.1; omega)
      have HX := hidE (show Below w1.heap.size w1 w2 from hb)
      have HI := hidE (HI.out.past HX.out)
      clear hb HX b0 b1 b2 b3 b4 bz d0 d1 d2 d3 dz
      clear hs hl
      rcases freeIs_cases hi with ⟨he, rfl⟩ | ⟨rfl, hff, mC, mL, mO⟩
      · have e1 : (er != 0) = true := bne_iff_ne.2 he
        have e2 : (er == 0) = false := beq_eq_false_iff_ne.2 he
        have hnf : nf = 0 := SF.out.len.1
        subst hnf
        clear he hi
        go_wp2_with fail
        ((with_reducible refine (HH.out _).mono ?_); rintro e w3 ⟨rfl, hb⟩)
        go_wp2
        go_ret
        exact ⟨rfl, bstep hb HI.out.bel⟩
      · have HFF := hidE hff; have HMC := hidE mC; have HML := hidE mL; have HMO := hidE mO
        clear hff mC mL mO hi
        have b0 := HI.out.b1.cell 0; have b1 := HI.out.b1.cell 1; have b2 := HI.out.b1.cell 2; have b3 := HI.out.b1.cell 3; have b4 := HI.out.b1.cell 4; have bz := HI.out.b1.lt; have d0 := HI.out.b2.cell 0; have d1 := HI.out.b2.cell 1; have d2 := HI.out.b2.cell 2; have d3 := HI.out.b2.cell 3; have dz := HI.out.b2.lt
        simp at b0 b1 b2 b3 b4 d0 d1 d2 d3
        obtain ⟨ix, hix, hz0, hz1, hz2⟩ := info_parts Try.infoPol
        have IX := hidE hix; have IZ0 := hidE hz0; have IZ1 := hidE hz1; have IZ2 := hidE hz2
        clear hix hz0 hz1 hz2
        have hn10 : n4 ≤ 10 := NL.out.2.2.2
        have HN10 := hidE hn10
        go_wp2_with fail
        go_loopg [9, 10] n4 (fun g v9 v10 wr => ∃ (j : Nat) (z : Int) (av : Option Addr) (cv : Nat), v9 = .slice av j cv ∧ v10 = .int .i64 z ∧ z = (n4 : Int) - 1 - j ∧ j ≤ n4 ∧ n4 - j ≤ g ∧ wr.ownsRow w2.heap.size 41 4 (.slice av j cv) j (cellsOfPo (P.reverse.take j)) ∧ Below w2.heap.size w2 wr)
        case atStart => exact ⟨0, _, none, 0, rfl, rfl, by omega, Nat.zero_le _, Nat.le_refl _, own_nil _ _ _, by (repeat (first | exact Below.refl _ _ | assumption | refine balloc ?_ _ | refine below_drewN ?_ _ | refine bstep (by assumption) ?_ | refine bstep (Past.prop _) ?_ | refine Below.setCell ?_ (by first | exact Nat.le_refl _ | (simp; done) | (simp; omega)) _))⟩
        case round =>
          obtain ⟨j, z, av, cv, rfl, rfl, hz, hj, hg, ho, hb⟩ := hrel
          have HO := hidE ho; have HB := hidE hb; have HGK := hidE hg
          have HI3 := hidE (HI.out.past hb)
          clear ho hg b0 b1 b2 b3 b4 bz d0 d1 d2 d3 dz
          have b3 := HI3.out.b1.cell 3; have bz := HI3.out.b1.lt
          simp at b3
          by_cases hlt : j < n4
          · obtain ⟨i, hi⟩ : ∃ i : Nat, z = i := ⟨n4 - 1 - j, by omega⟩
            subst hi
            have hiP : i < P.length := by have := H4.out; omega
            obtain ⟨b, off, rfl, hbz, hcp⟩ := HI3.out.sp (by omega)
            obtain ⟨e0, e1, e2, e3⟩ := hcp i hiP
            have HS := hidE (show cellsOfPo (P.reverse.take (j + 1)) = cellsOfPo (P.reverse.take j) ++ [.int .u8 (P.getD i (0, (0, 0), 0)).1, .int .i64 (P.getD i (0, (0, 0), 0)).2.1.1, .int .i64 (P.getD i (0, (0, 0), 0)).2.1.2, .int .i64 (P.getD i (0, (0, 0), 0)).2.2] by
              have h4 := H4.out
              rw [rev_step (by omega), cellsOfPo_app, show P.length - 1 - j = i by omega]
              rfl)
            generalize P.getD i (0, (0, 0), 0) = s at *
            obtain ⟨sk, ⟨sm, sc⟩, sn⟩ := s
            simp only at e0 e1 e2 e3
            have hwz := hb.size
            have hin : (i : Int) < n4 := by omega
            have HZI := hidE hz; have HLT := hidE hlt
            clear hcp hz hb hlt hiP
            go_wp2_with (at_builtin; refine wpList_append_own _ rfl (.tmp 61) (.tmp 67) 23 rfl w2.heap.size 41 ix (.agg #[.int .u8 0, .int .i64 0, .int .i64 0, .int .i64 0]) 4 32 Try.underlying23 IX.out IZ0.out IZ1.out IZ2.out rfl (by decide) _ _ _ rfl (HO.out.alloc _) ⟨_, 0, none⟩ 1 1 [.int .u8 sk, .int .i64 sm, .int .i64 sc, .int .i64 sn] rfl rfl (new_cells_atF _ #[.int .u8 sk, .int .i64 sm, .int .i64 sc, .int .i64 sn] 41 _ (by simp)) (by intro x hx; simp at hx; rcases hx with rfl | rfl | rfl | rfl <;> rfl) (by unfold maxLen; omega) (by omega) (by simp; omega) ?_; intro v4 w4 hown4 hgrow4 _; obtain ⟨a7, c7, rfl⟩ := own_sli hown4)
            have HB4 := hidE (show Below w2.heap.size w2 w4 from Below.grown (HB.out.alloc hwz _) hgrow4 (by simp; omega) (fun k hk => own_block HO.out hk))
            have HO4 := hidE hown4
            rw [← HS.out] at HO4
            clear hown4 hgrow4 e0 e1 e2 e3 b3 bz hwz hin
            go_wp2
            go_roundg (n4 - (j + 1))
            case measure => have := HGK.out; have := HLT.out; omega
            case rel => exact ⟨j + 1, _, a7, c7, rfl, rfl, by have := HZI.out; have := HLT.out; omega, HLT.out, Nat.le_refl _, HO4.out, HB4.out⟩
          · have hjn : n4 = j := by omega
            subst hjn
            have hzn : decide (0 ≤ z) = false := decide_eq_false (by omega)
            have HT := hidE (show n4 = P.reverse.length ∧ ArgPs wr av P.reverse from by
              have h1 := HO.out
              rw [show P.reverse.take n4 = P.reverse by rw [List.take_of_length_le]; simp; exact Nat.le_of_eq H4.out.symm] at h1
              have hl : n4 = P.reverse.length := by simp; exact H4.out
              refine ⟨hl, ?_⟩
              have h2 : wr.ownsRow w2.heap.size 41 4 (.slice av n4 cv) P.reverse.length (cellsOfPo P.reverse) := by rw [← hl]; exact h1
              exact (argPs_own h2).2)
            have SF := hidE (SF.out.past hb)
            have HI := HI3
            clear hz hj hb b3 bz HO HB HGK HI3
            have b0 := HI.out.b1.cell 0; have b1 := HI.out.b1.cell 1; have b2 := HI.out.b1.cell 2; have b3 := HI.out.b1.cell 3; have b4 := HI.out.b1.cell 4; have bz := HI.out.b1.lt; have d0 := HI.out.b2.cell 0; have d1 := HI.out.b2.cell 1; have d2 := HI.out.b2.cell 2; have d3 := HI.out.b2.cell 3; have dz := HI.out.b2.lt
            simp at b0 b1 b2 b3 b4 d0 d1 d2 d3
            go_wp2_with fail
            (with_reducible refine (free_s (P := P.reverse) (C := C) (L := L) (O := O) (x := x) ?r1 ?r2 ?r3 ?r4 ?r5 ?r6 ?r7 ?r8 ?r9).mono ?_)
            case r1 => exact HI.out.s1
            case r2 => exact HI.out.s2
            case r3 => exact HI.out.s3
            case r4 => exact HT.out.2
            case r5 => exact HT.out.1
            case r6 => have := NL.out; omega
            case r7 => have := NL.out; omega
            case r8 => have := NL.out; omega
            case r9 => have := NL.out; omega
            rintro e w3 ⟨ag, ng, cg, G, er, rfl, hs, hi, hl, hb⟩
            obtain ⟨q1, q2⟩ := hi.unique HF.out (fun q => List.mem_reverse)
            have q1 := q1.symm
            subst q1; subst q2
            have SG := hidE hs
            have HX := hidE (show Below wr.heap.size wr w3 from hb)
            have HI := hidE (HI.out.past HX.out); have SF := hidE (SF.out.past HX.out)
            clear hb HX b0 b1 b2 b3 b4 bz d0 d1 d2 d3 dz
            clear hs hi hl HT
            have b0 := HI.out.b1.cell 0; have b1 := HI.out.b1.cell 1; have b2 := HI.out.b1.cell 2; have b3 := HI.out.b1.cell 3; have b4 := HI.out.b1.cell 4; have bz := HI.out.b1.lt; have d0 := HI.out.b2.cell 0; have d1 := HI.out.b2.cell 1; have d2 := HI.out.b2.cell 2; have d3 := HI.out.b2.cell 3; have dz := HI.out.b2.lt
            simp at b0 b1 b2 b3 b4 d0 d1 d2 d3
            go_wp2_with fail
            (with_reducible refine (rsame_f (F := F) (G := F) (b := true) ?t1 ?t2 (sameB_selfQ F)).mono ?_)
            case t1 => exact SF.out
            case t2 => exact SG.out
            rintro e w4 ⟨rfl, hb⟩
            have HX := hidE (show Below w3.heap.size w3 w4 from hb)
            have HI := hidE (HI.out.past HX.out); have SF := hidE (SF.out.past HX.out)
            clear hb HX b0 b1 b2 b3 b4 bz d0 d1 d2 d3 dz
            clear SG
            have b0 := HI.out.b1.cell 0; have b1 := HI.out.b1.cell 1; have b2 := HI.out.b1.cell 2; have b3 := HI.out.b1.cell 3; have b4 := HI.out.b1.cell 4; have bz := HI.out.b1.lt; have d0 := HI.out.b2.cell 0; have d1 := HI.out.b2.cell 1; have d2 := HI.out.b2.cell 2; have d3 := HI.out.b2.cell 3; have dz := HI.out.b2.lt
            simp at b0 b1 b2 b3 b4 d0 d1 d2 d3
            go_upto_region 14 with fail
            have HOK : ChOk (fun i => ([some (.pointer (some ⟨w.heap.size, 0, none⟩)), some (.slice a1 n1 c1), some (.pointer (some ⟨w.heap.size, 1, none⟩)), some (.slice a2 n2 c2), some (.pointer (some ⟨w.heap.size, 2, none⟩)), some (.slice a3 n3 c3), none, some (.pointer (some ⟨w.heap.size, 3, none⟩)), some (.slice a4 n4 c4), none, some (.agg #[.int .u8 k, .int .i64 m, .int .i64 c, .int .i64 nn]), none, none, some (.pointer (some ⟨w.heap.size, 4, none⟩)), some (.int .i64 x)] : List (Option Value)).getD i none) (fun i => [6, 9, 12].getD i 900) (fun j => [901, 902, 11].getD j 903) 2 := by
              refine ⟨fun i hi => ?_, fun j => ?_, fun i k hi hk e => ?_, fun i j hi e => ?_⟩
              · match i, hi with
                | 0, _ => rfl
                | 1, _ => rfl
                | 2, _ => rfl
              · match j with
                | 0 => rfl
                | 1 => rfl
                | 2 => rfl
                | j + 3 => rfl
              · match i, k, hi, hk with
                | 0, 0, _, _ => first | rfl | (simp at e)
                | 0, 1, _, _ => first | rfl | (simp at e)
                | 0, 2, _, _ => first | rfl | (simp at e)
                | 1, 0, _, _ => first | rfl | (simp at e)
                | 1, 1, _, _ => first | rfl | (simp at e)
                | 1, 2, _, _ => first | rfl | (simp at e)
                | 2, 0, _, _ => first | rfl | (simp at e)
                | 2, 1, _, _ => first | rfl | (simp at e)
                | 2, 2, _, _ => first | rfl | (simp at e)
              · match i, j, hi with
                | 0, 0, _ => simp at e
                | 0, 1, _ => simp at e
                | 0, 2, _ => simp at e
                | 0, j + 3, _ => simp at e
                | 1, 0, _ => simp at e
                | 1, 1, _ => simp at e
                | 1, 2, _ => simp at e
                | 1, j + 3, _ => simp at e
                | 2, 0, _ => simp at e
                | 2, 1, _ => simp at e
                | 2, 2, _ => simp at e
                | 2, j + 3, _ => simp at e
            have HINJ : ∀ q, q ≤ 2 → (fun j => [901, 902, 11].getD j 903) q = (fun j => [901, 902, 11].getD j 903) 2 → q = 2 := fun q hq e => by
              match q, hq with
              | 0, _ => simp at e
              | 1, _ => simp at e
              | 2, _ => rfl
            refine wp_region_CK 20 15 (ChI 41 4 w4 (fun i => ([some (.pointer (some ⟨w.heap.size, 0, none⟩)), some (.slice a1 n1 c1), some (.pointer (some ⟨w.heap.size, 1, none⟩)), some (.slice a2 n2 c2), some (.pointer (some ⟨w.heap.size, 2, none⟩)), some (.slice a3 n3 c3), none, some (.pointer (some ⟨w.heap.size, 3, none⟩)), some (.slice a4 n4 c4), none, some (.agg #[.int .u8 k, .int .i64 m, .int .i64 c, .int .i64 nn]), none, none, some (.pointer (some ⟨w.heap.size, 4, none⟩)), some (.int .i64 x)] : List (Option Value)).getD i none) (fun i => [6, 9, 12].getD i 900) (fun j => [901, 902, 11].getD j 903) 2 (fun i => [0, 0 + n4, 0 + n4 + 1].getD i 0) (fun j => [0, n4, 1].getD j 0) (fun i => [[], [] ++ cellsOfPo P, [] ++ cellsOfPo P ++ cellsOfPo [(k, (m, c), nn)]].getD i []) (fun j => [[], cellsOfPo P, cellsOfPo [(k, (m, c), nn)]].getD j [])) (FlR (P ++ [(k, (m, c), nn)]) C L O x w4) fsF (by kernel_rfl) (by decide) (by kernel_rfl) (by decide) (by kernel_rfl) (by kernel_rfl) (by kernel_rfl) (chI_start (Below.refl _ _).drew) ?_ ?_ ?_ ?_
            · intro i o hi ho
              match i, hi with
              | 0, _ =>
                have eo := Option.some.inj ho
                have hg : o.guard = none := by rw [← eo]
                refine cstep_evF hg ?_
                intro E L u w9 E1 E0 EC EF hl hw hI
                subst eo
                have a3 := (E0 3 (by kernel_rfl)).trans (show _ = Value.pointer (some ⟨w.heap.size, 0, none⟩) from rfl)
                refine gives_ok (v := .pointer (some ⟨w.heap.size, 0, none⟩)) (w' := w9) (by simp [execOp, go_sem, a3]) ?_
                exact hI.ndet HOK rfl (Below.refl _ _)
              | 1, _ =>
                have eo := Option.some.inj ho
                have hg : o.guard = none := by rw [← eo]
                refine cstep_evF hg ?_
                intro E L u w9 E1 E0 EC EF hl hw hI
                subst eo
                have a91 := (E1 91 0 (by kernel_rfl) (by simp)).trans (hI.det 0 _ rfl (hw 0 (by decide) (by kernel_rfl)))
                have hbx := (HI.out.b1.below hI.bel HI.out.b1.lt)
                have g0 := hbx.cell 0; have g1 := hbx.cell 1; have g2 := hbx.cell 2; have g3 := hbx.cell 3; have g4 := hbx.cell 4; have gz := hbx.lt
                simp at g0 g1 g2 g3 g4
                refine gives_ok (v := .slice a1 n1 c1) (w' := w9) (by simp [execOp, go_sem, a91, g0]) ?_
                exact hI.ndet HOK rfl (Below.refl _ _)
              | 2, _ =>
                have eo := Option.some.inj ho
                have hg : o.guard = none := by rw [← eo]
                refine cstep_evF hg ?_
                intro E L u w9 E1 E0 EC EF hl hw hI
                subst eo
                have a3 := (E0 3 (by kernel_rfl)).trans (show _ = Value.pointer (some ⟨w.heap.size, 0, none⟩) from rfl)
                refine gives_ok (v := .pointer (some ⟨w.heap.size, 1, none⟩)) (w' := w9) (by simp [execOp, go_sem, a3]) ?_
                exact hI.ndet HOK rfl (Below.refl _ _)
              | 3, _ =>
                have eo := Option.some.inj ho
                have hg : o.guard = none := by rw [← eo]
                refine cstep_evF hg ?_
                intro E L u w9 E1 E0 EC EF hl hw hI
                subst eo
                have a93 := (E1 93 2 (by kernel_rfl) (by simp)).trans (hI.det 2 _ rfl (hw 2 (by decide) (by kernel_rfl)))
                have hbx := (HI.out.b1.below hI.bel HI.out.b1.lt)
                have g0 := hbx.cell 0; have g1 := hbx.cell 1; have g2 := hbx.cell 2; have g3 := hbx.cell 3; have g4 := hbx.cell 4; have gz := hbx.lt
                simp at g0 g1 g2 g3 g4
                refine gives_ok (v := .slice a2 n2 c2) (w' := w9) (by simp [execOp, go_sem, a93, g1]) ?_
                exact hI.ndet HOK rfl (Below.refl _ _)
              | 4, _ =>
                have eo := Option.some.inj ho
                have hg : o.guard = none := by rw [← eo]
                refine cstep_evF hg ?_
                intro E L u w9 E1 E0 EC EF hl hw hI
                subst eo
                have a3 := (E0 3 (by kernel_rfl)).trans (show _ = Value.pointer (some ⟨w.heap.size, 0, none⟩) from rfl)
                refine gives_ok (v := .pointer (some ⟨w.heap.size, 2, none⟩)) (w' := w9) (by simp [execOp, go_sem, a3]) ?_
                exact hI.ndet HOK rfl (Below.refl _ _)
              | 5, _ =>
                have eo := Option.some.inj ho
                have hg : o.guard = none := by rw [← eo]
                refine cstep_evF hg ?_
                intro E L u w9 E1 E0 EC EF hl hw hI
                subst eo
                have a95 := (E1 95 4 (by kernel_rfl) (by simp)).trans (hI.det 4 _ rfl (hw 4 (by decide) (by kernel_rfl)))
                have hbx := (HI.out.b1.below hI.bel HI.out.b1.lt)
                have g0 := hbx.cell 0; have g1 := hbx.cell 1; have g2 := hbx.cell 2; have g3 := hbx.cell 3; have g4 := hbx.cell 4; have gz := hbx.lt
                simp at g0 g1 g2 g3 g4
                refine gives_ok (v := .slice a3 n3 c3) (w' := w9) (by simp [execOp, go_sem, a95, g2]) ?_
                exact hI.ndet HOK rfl (Below.refl _ _)
              | 6, _ =>
                have eo := Option.some.inj ho
                have hg : o.guard = none := by rw [← eo]
                refine cstep_evF hg ?_
                intro E L u w9 E1 E0 EC EF hl hw hI
                subst eo
                refine gives_ok (v := .slice (some ⟨w9.heap.size, 0, none⟩) 0 0) (w' := w9.alloc (.cells #[] 41)) (by simp [execOp, go_sem]) ?_
                exact hI.nbase HOK hl (own_emptyF (Blk.made _ _ _) hI.bel.size) ((Below.refl _ w9).alloc (Nat.le_refl _) _) (fun b hb => by simp [Value.ownBlock] at hb; omega)
              | 7, _ =>
                have eo := Option.some.inj ho
                have hg : o.guard = none := by rw [← eo]
                refine cstep_evF hg ?_
                intro E L u w9 E1 E0 EC EF hl hw hI
                subst eo
                have a3 := (E0 3 (by kernel_rfl)).trans (show _ = Value.pointer (some ⟨w.heap.size, 0, none⟩) from rfl)
                refine gives_ok (v := .pointer (some ⟨w.heap.size, 3, none⟩)) (w' := w9) (by simp [execOp, go_sem, a3]) ?_
                exact hI.ndet HOK rfl (Below.refl _ _)
              | 8, _ =>
                have eo := Option.some.inj ho
                have hg : o.guard = none := by rw [← eo]
                refine cstep_evF hg ?_
                intro E L u w9 E1 E0 EC EF hl hw hI
                subst eo
                have a98 := (E1 98 7 (by kernel_rfl) (by simp)).trans (hI.det 7 _ rfl (hw 7 (by decide) (by kernel_rfl)))
                have hbx := (HI.out.b1.below hI.bel HI.out.b1.lt)
                have g0 := hbx.cell 0; have g1 := hbx.cell 1; have g2 := hbx.cell 2; have g3 := hbx.cell 3; have g4 := hbx.cell 4; have gz := hbx.lt
                simp at g0 g1 g2 g3 g4
                refine gives_ok (v := .slice a4 n4 c4) (w' := w9) (by simp [execOp, go_sem, a98, g3]) ?_
                exact hI.ndet HOK rfl (Below.refl _ _)
              | 9, _ =>
                have eo := Option.some.inj ho
                have hg : o.guard = none := by rw [← eo]
                refine cstep_evF hg ?_
                intro E L u w9 E1 E0 EC EF hl hw hI
                subst eo
                have a97 := E1 97 6 (by kernel_rfl) (by simp)
                have a99 := (E1 99 8 (by kernel_rfl) (by simp)).trans (hI.det 8 _ rfl (hw 8 (by decide) (by kernel_rfl)))
                have hpw := hw 6 (by decide) (by kernel_rfl)
                refine gives_appC (.tmp 97) (.tmp 99) 23 rfl w4.heap.size 41 ix _ 4 32 Try.underlying23 IX.out IZ0.out IZ1.out IZ2.out rfl (by decide) _ _ (by rw [a97]; exact hI.row 0 (by decide) hpw (fun _ => hl)) n4 (cellsOfPo P) (by rw [a99]; exact (by have h4 := H4.out; have h5 := srcV_Po (cap := c4) (HI.out.sp.past hI.bel) H0.out; rw [← h4] at h5; exact h5)) (by have := NL.out; simp; omega) (by omega) hI.bel.size ?_
                intro v' w' ho hg hat
                rw [a97] at hg hat
                exact hI.napp (i := 0) HOK (by decide) hl hpw ho hg hat
              | 10, _ =>
                have eo := Option.some.inj ho
                have hg : o.guard = none := by rw [← eo]
                refine cstep_evF hg ?_
                intro E L u w9 E1 E0 EC EF hl hw hI
                subst eo
                have a5 := (E0 5 (by kernel_rfl)).trans (show _ = Value.pointer (some ⟨w.heap.size + 1, 0, none⟩) from rfl)
                have hbx := (HI.out.b2.below hI.bel HI.out.b2.lt)
                have g0 := hbx.cell 0; have g1 := hbx.cell 1; have g2 := hbx.cell 2; have g3 := hbx.cell 3; have gz := hbx.lt
                simp at g0 g1 g2 g3
                refine gives_ok (v := .agg #[.int .u8 k, .int .i64 m, .int .i64 c, .int .i64 nn]) (w' := w9) (by simp [execOp, go_sem, a5, g0, g1, g2, g3]) ?_
                exact hI.ndet HOK rfl (Below.refl _ _)
              | 11, _ =>
                have eo := Option.some.inj ho
                have hg : o.guard = none := by rw [← eo]
                refine cstep_evF hg ?_
                intro E L u w9 E1 E0 EC EF hl hw hI
                subst eo
                have a101 := (E1 101 10 (by kernel_rfl) (by simp)).trans (hI.det 10 _ rfl (hw 10 (by decide) (by kernel_rfl)))
                refine gives_ok (v := .slice (some ⟨w9.heap.size, 0, none⟩) 1 1) (w' := w9.alloc (.cells #[.int .u8 k, .int .i64 m, .int .i64 c, .int .i64 nn] 41)) (by simp [execOp, go_sem, a101]) ?_
                exact hI.nsrc (j := 2) HOK HINJ (srcV_new (ys := cellsOfPo [(k, (m, c), nn)]) (Blk.made _ _ _) rfl (cellsOfPo_one _)) (fun b hb => by simp [Value.ownBlock] at hb; subst hb; simp) ((Below.refl _ w9).alloc (Nat.le_refl _) _)
              | 12, _ =>
                have eo := Option.some.inj ho
                have hg : o.guard = none := by rw [← eo]
                refine cstep_evF hg ?_
                intro E L u w9 E1 E0 EC EF hl hw hI
                subst eo
                have a100 := E1 100 9 (by kernel_rfl) (by simp)
                have a102 := E1 102 11 (by kernel_rfl) (by simp)
                have hpw := hw 9 (by decide) (by kernel_rfl)
                have hxw := hw 11 (by decide) (by kernel_rfl)
                refine gives_appC (.tmp 100) (.tmp 102) 23 rfl w4.heap.size 41 ix _ 4 32 Try.underlying23 IX.out IZ0.out IZ1.out IZ2.out rfl (by decide) _ _ (by rw [a100]; exact hI.row 1 (by decide) hpw (fun _ => hl)) 1 (cellsOfPo [(k, (m, c), nn)]) (by rw [a102]; exact (hI.src 2 (by decide) hxw hl).1) (by have := NL.out; simp; omega) (by omega) hI.bel.size ?_
                intro v' w' ho hg hat
                rw [a100] at hg hat
                exact hI.napp (i := 1) HOK (by decide) hl hpw ho hg hat
              | 13, _ =>
                have eo := Option.some.inj ho
                have hg : o.guard = none := by rw [← eo]
                refine cstep_evF hg ?_
                intro E L u w9 E1 E0 EC EF hl hw hI
                subst eo
                have a3 := (E0 3 (by kernel_rfl)).trans (show _ = Value.pointer (some ⟨w.heap.size, 0, none⟩) from rfl)
                refine gives_ok (v := .pointer (some ⟨w.heap.size, 4, none⟩)) (w' := w9) (by simp [execOp, go_sem, a3]) ?_
                exact hI.ndet HOK rfl (Below.refl _ _)
              | 14, _ =>
                have eo := Option.some.inj ho
                have hg : o.guard = none := by rw [← eo]
                refine cstep_evF hg ?_
                intro E L u w9 E1 E0 EC EF hl hw hI
                subst eo
                have a104 := (E1 104 13 (by kernel_rfl) (by simp)).trans (hI.det 13 _ rfl (hw 13 (by decide) (by kernel_rfl)))
                have hbx := (HI.out.b1.below hI.bel HI.out.b1.lt)
                have g0 := hbx.cell 0; have g1 := hbx.cell 1; have g2 := hbx.cell 2; have g3 := hbx.cell 3; have g4 := hbx.cell 4; have gz := hbx.lt
                simp at g0 g1 g2 g3 g4
                refine gives_ok (v := .int .i64 x) (w' := w9) (by simp [execOp, go_sem, a104, g4]) ?_
                exact hI.ndet HOK rfl (Below.refl _ _)
              | i + 15, h => exact absurd h (by omega)
            · intro o ho
              have eo := Option.some.inj ho
              refine ⟨by rw [← eo], ?_⟩
              intro E L u w9 E1 E0 EC EF hall hI
              subst eo
              have a92 := (E1 92 1 (by kernel_rfl) (by simp)).trans (hI.det 1 _ rfl (hall 1 (by decide)))
              have a94 := (E1 94 3 (by kernel_rfl) (by simp)).trans (hI.det 3 _ rfl (hall 3 (by decide)))
              have a96 := (E1 96 5 (by kernel_rfl) (by simp)).trans (hI.det 5 _ rfl (hall 5 (by decide)))
              have a105 := (E1 105 14 (by kernel_rfl) (by simp)).trans (hI.det 14 _ rfl (hall 14 (by decide)))
              have a103 := E1 103 12 (by kernel_rfl) (by simp)
              have hrow := hI.row 2 (by decide) (hall 12 (by decide)) (fun h => absurd h (by decide))
              obtain ⟨a7, c7, e12⟩ := own_sli hrow
              change u 12 = .slice a7 (0 + n4 + 1) c7 at e12
              rw [show u ((fun i => [6, 9, 12].getD i 900) 2) = u 12 from rfl, e12] at hrow
              rw [e12, show (0 + n4 + 1 : Nat) = n4 + 1 by omega] at a103
              have h4 := H4.out
              have hl : n4 + 1 = (P ++ [(k, (m, c), nn)]).length := by simp; exact h4
              have hsp : ArgPs w9 a7 (P ++ [(k, (m, c), nn)]) := by
                have h2 : w9.ownsRow w4.heap.size 41 4 (.slice a7 (0 + n4 + 1) c7) (P ++ [(k, (m, c), nn)]).length (cellsOfPo (P ++ [(k, (m, c), nn)])) := by
                  rw [← hl, cellsOfPo_app]
                  have : n4 + 1 = 0 + n4 + 1 := by omega
                  rw [this]
                  exact hrow
                exact (argPs_own h2).2
              have hfi := HI.out.past hI.bel
              have hnl := NL.out
              refine gives_call (f := 8) (args := #[.slice a1 n1 c1, .slice a2 n2 c2, .slice a3 n3 c3, .slice a7 (n4 + 1) c7, .int .i64 x]) (w' := w9) (by simp [execOp, go_sem, EF, a92, a94, a96, a103, a105]) (free_s (P := P ++ [(k, (m, c), nn)]) hfi.s1 hfi.s2 hfi.s3 hsp hl (by omega) (by omega) (by omega) (by omega)) (fun e w2 q => ?_)
              obtain ⟨a, n, cap, f, er, rfl, h1, h2, h3, h5⟩ := q
              exact ⟨_, rfl, a, n, cap, f, er, rfl, h1, h2, h3, bstep h5 hI.bel⟩
            · intro i o hqi hin ho
              match i, hqi, hin with
              | 16, _, _ =>
                have eo := Option.some.inj ho
                refine ⟨by rw [← eo], ?_⟩
                intro E u w9 E1 E0 hf hP
                subst eo
                have a106 := E1 106 15 (by kernel_rfl) (by simp)
                simp [execOp, go_sem, gives, a106, fsF]
              | 17, _, _ =>
                have eo := Option.some.inj ho
                refine ⟨by rw [← eo], ?_⟩
                intro E u w9 E1 E0 hf hP
                subst eo
                obtain ⟨a, n, cap, f, er, e15, _⟩ := hP
                have a90 := (E1 90 16 (by kernel_rfl) (by simp)).trans ((hf 16 (by decide) (by kernel_rfl)).trans e15)
                simp [execOp, go_sem, gives, a90, fsF, tupAt, e15]
              | 18, _, _ =>
                have eo := Option.some.inj ho
                refine ⟨by rw [← eo], ?_⟩
                intro E u w9 E1 E0 hf hP
                subst eo
                obtain ⟨a, n, cap, f, er, e15, _⟩ := hP
                have a90 := (E1 90 16 (by kernel_rfl) (by simp)).trans ((hf 16 (by decide) (by kernel_rfl)).trans e15)
                simp [execOp, go_sem, gives, a90, fsF, tupAt, e15]
              | 19, _, _ =>
                have eo := Option.some.inj ho
                refine ⟨by rw [← eo], ?_⟩
                intro E u w9 E1 E0 hf hP
                subst eo
                obtain ⟨a, n, cap, f, er, e15, _⟩ := hP
                have a107 := (E1 107 17 (by kernel_rfl) (by simp)).trans (hf 17 (by decide) (by kernel_rfl))
                simp [execOp, go_sem, gives, a107, fsF, tupAt, e15]
              | i + 20, _, h => exact absurd h (by omega)
            · intro u w9 hu hP
              obtain ⟨au, nu, cu, U, eu, e15, hsu, hiu, hlu, hbu⟩ := hP
              have e17 : u 17 = .slice au nu cu := by rw [hu 17 (by decide) (by decide), e15]; rfl
              have e19 : u 19 = .slice au nu cu := by rw [hu 19 (by decide) (by decide), e15]; rfl
              have e18 : u 18 = .int .i64 eu := by rw [hu 18 (by decide) (by decide), e15]; rfl
              simp only [frm, List.take, Act.put, e17, e18, e19]
              clear hu e15 e17 e18 e19 HOK HINJ
              generalize u 0 = z0 at *; generalize u 1 = z1 at *; generalize u 2 = z2 at *; generalize u 3 = z3 at *; generalize u 4 = z4 at *; generalize u 5 = z5 at *; generalize u 6 = z6 at *; generalize u 7 = z7 at *; generalize u 8 = z8 at *; generalize u 9 = z9 at *; generalize u 10 = z10 at *; generalize u 11 = z11 at *; generalize u 12 = z12 at *; generalize u 13 = z13 at *; generalize u 14 = z14 at *; generalize u 15 = z15 at *; generalize u 16 = z16 at *
              have SU := hidE hsu; have HU := hidE hiu
              have NU := hidE (show nu ≤ 400000 by have := hsu.len.1; omega)
              have hb := hbu
              have HX := hidE (show Below w4.heap.size w4 w9 from hb)
              have HI := hidE (HI.out.past HX.out); have SF := hidE (SF.out.past HX.out)
              clear hb HX b0 b1 b2 b3 b4 bz d0 d1 d2 d3 dz
              clear hsu hiu hlu hbu
              have b0 := HI.out.b1.cell 0; have b1 := HI.out.b1.cell 1; have b2 := HI.out.b1.cell 2; have b3 := HI.out.b1.cell 3; have b4 := HI.out.b1.cell 4; have bz := HI.out.b1.lt; have d0 := HI.out.b2.cell 0; have d1 := HI.out.b2.cell 1; have d2 := HI.out.b2.cell 2; have d3 := HI.out.b2.cell 3; have dz := HI.out.b2.lt
              simp at b0 b1 b2 b3 b4 d0 d1 d2 d3
              go_upto_region 15 with fail
              go_cut [116] (fun s116 wx => s116 = .bool false ∧ FlI C L O M P a1 a2 a3 a4 a5 n1 c1 n2 c2 n3 c3 n4 c4 n5 c5 x k m c nn w wx ∧ SliS wx (.slice af nf cf) F)
              case first =>
                rcases freeIs_cases HU.out with ⟨he, _⟩ | ⟨rfl, hff, _⟩
                · have e0 : (eu == 0) = false := beq_eq_false_iff_ne.2 he
                  have e0' : (eu != 0) = true := bne_iff_ne.2 he
                  clear he
                  go_wp2_with fail
                  go_meet
                  case rel => exact ⟨rfl, HI.out, SF.out⟩
                · have HLE := hidE (fun t => free_less HFF.out hff (fun q hq => by simp [hq]) (fun t => leB_self _) (fun t => leB_self _) t)
                  have HMU := hidE hff.1
                  clear hff
                  go_wp2_with fail
                  (with_reducible refine (fbelow_c (F := U) (G := F) ?v1 ?v2 ?v3 HMU.out (FreeF.may HFF.out) HLE.out).mono ?_)
                  case v1 => exact SU.out
                  case v2 => exact SF.out
                  case v3 => have := NU.out; have := NF.out; omega
                  rintro e w5 ⟨rfl, hb⟩
                  have HX := hidE hb
                  have HI := hidE (HI.out.past HX.out); have SF := hidE (SF.out.past HX.out)
                  clear hb b0 b1 b2 b3 b4 bz d0 d1 d2 d3 dz
                  go_wp2_with fail
                  go_meet
                  case rel => exact ⟨rfl, HI.out, SF.out⟩
              clear HI SF SU HU NU b0 b1 b2 b3 b4 bz d0 d1 d2 d3 dz
              obtain ⟨rfl, hI5, hS5⟩ := hcut
              have HI := hidE hI5; have SF := hidE hS5
              clear hI5 hS5
              have b0 := HI.out.b1.cell 0; have b1 := HI.out.b1.cell 1; have b2 := HI.out.b1.cell 2; have b3 := HI.out.b1.cell 3; have b4 := HI.out.b1.cell 4; have bz := HI.out.b1.lt; have d0 := HI.out.b2.cell 0; have d1 := HI.out.b2.cell 1; have d2 := HI.out.b2.cell 2; have d3 := HI.out.b2.cell 3; have dz := HI.out.b2.lt
              simp at b0 b1 b2 b3 b4 d0 d1 d2 d3
              obtain ⟨⟨H, jm⟩, hmx⟩ : ∃ r, doS 3 L M = r := ⟨_, rfl⟩
              have HMX := hidE hmx; have HML2 := hidE (max_load hmx)
              clear hmx
              go_wp2_with fail
              (with_reducible refine (cmx_f (F := L) (G := M) ?x1 ?x2 ?x3 HMX.out).mono ?_)
              case x1 => exact HI.out.s2
              case x2 => exact HI.out.s5
              case x3 => have := NL.out; have := N5.out; omega
              rintro e w6 ⟨v6, rfl, hv6, hb⟩
              obtain ⟨aH, cH, rfl, g1, g2, g3⟩ := hv6
              have SH := hidE (show SliS w6 (.slice aH H.length cH) H from ⟨aH, cH, rfl, g1, g2, g3⟩)
              have NH := hidE (show H.length ≤ 80 by have h1 := HML2.out.1; have h2 := HI.out.s2.len.1; have h3 := HI.out.s5.len.1; have h4 := NL.out; have h5 := N5.out; omega)
              have HX := hidE hb
              have HI := hidE (HI.out.past HX.out); have SF := hidE (SF.out.past HX.out)
              clear hb HX g1 g2 g3 b0 b1 b2 b3 b4 bz d0 d1 d2 d3 dz
              have b0 := HI.out.b1.cell 0; have b1 := HI.out.b1.cell 1; have b2 := HI.out.b1.cell 2; have b3 := HI.out.b1.cell 3; have b4 := HI.out.b1.cell 4; have bz := HI.out.b1.lt; have d0 := HI.out.b2.cell 0; have d1 := HI.out.b2.cell 1; have d2 := HI.out.b2.cell 2; have d3 := HI.out.b2.cell 3; have dz := HI.out.b2.lt
              simp at b0 b1 b2 b3 b4 d0 d1 d2 d3
              go_wp2_with fail
              (with_reducible refine (free_s (P := P) (C := C) (L := H) (O := O) (x := x) ?y1 ?y2 ?y3 ?y4 ?y5 ?y6 ?y7 ?y8 ?y9).mono ?_)
              case y1 => exact HI.out.s1
              case y2 => exact SH.out
              case y3 => exact HI.out.s3
              case y4 => exact HI.out.sp
              case y5 => exact H4.out
              case y6 => have := NL.out; omega
              case y7 => have := NH.out; omega
              case y8 => have := NL.out; omega
              case y9 => have := NL.out; omega
              rintro e w7 ⟨avv, nv, cvv, VV, ev, rfl, hs, hi, hl, hb⟩
              have SV := hidE hs; have HV := hidE hi
              have NV := hidE (show nv ≤ 400000 by have := hs.len.1; omega)
              have HX := hidE (show Below w6.heap.size w6 w7 from hb)
              have HI := hidE (HI.out.past HX.out); have SF := hidE (SF.out.past HX.out)
              clear hb HX b0 b1 b2 b3 b4 bz d0 d1 d2 d3 dz
              clear hs hi hl
              have b0 := HI.out.b1.cell 0; have b1 := HI.out.b1.cell 1; have b2 := HI.out.b1.cell 2; have b3 := HI.out.b1.cell 3; have b4 := HI.out.b1.cell 4; have bz := HI.out.b1.lt; have d0 := HI.out.b2.cell 0; have d1 := HI.out.b2.cell 1; have d2 := HI.out.b2.cell 2; have d3 := HI.out.b2.cell 3; have dz := HI.out.b2.lt
              simp at b0 b1 b2 b3 b4 d0 d1 d2 d3
              go_upto_region 19 with fail
              go_cut [148] (fun s148 wx => s148 = .bool false ∧ FlI C L O M P a1 a2 a3 a4 a5 n1 c1 n2 c2 n3 c3 n4 c4 n5 c5 x k m c nn w wx ∧ SliS wx (.slice af nf cf) F)
              case first =>
                by_cases hjm : jm = 0
                · rcases freeIs_cases HV.out with ⟨he, _⟩ | ⟨rfl, hff, _⟩
                  · have e0 : (ev == 0) = false := beq_eq_false_iff_ne.2 he
                    have j0 : (jm == 0) = true := by rw [hjm]; rfl
                    clear he hjm
                    go_wp2_with fail
                    go_meet
                    case rel => exact ⟨rfl, HI.out, SF.out⟩
                  · have HLE := hidE (fun t => free_less HFF.out hff (fun q hq => hq) (fun t => leB_self _) (HML2.out.2 hjm) t)
                    have HMU := hidE hff.1
                    have j0 : (jm == 0) = true := by rw [hjm]; rfl
                    clear hff hjm
                    go_wp2_with fail
                    (with_reducible refine (fbelow_c (F := VV) (G := F) ?z1 ?z2 ?z3 HMU.out (FreeF.may HFF.out) HLE.out).mono ?_)
                    case z1 => exact SV.out
                    case z2 => exact SF.out
                    case z3 => have := NV.out; have := NF.out; omega
                    rintro e w8 ⟨rfl, hb⟩
                    have HX := hidE hb
                    have HI := hidE (HI.out.past HX.out); have SF := hidE (SF.out.past HX.out)
                    clear hb b0 b1 b2 b3 b4 bz d0 d1 d2 d3 dz
                    go_wp2_with fail
                    go_meet
                    case rel => exact ⟨rfl, HI.out, SF.out⟩
                · have j0 : (jm == 0) = false := beq_eq_false_iff_ne.2 hjm
                  clear hjm
                  go_wp2_with fail
                  go_meet
                  case rel => exact ⟨rfl, HI.out, SF.out⟩
              clear HI SF SV HV NV SH NH HMX HML2 b0 b1 b2 b3 b4 bz d0 d1 d2 d3 dz
              obtain ⟨rfl, hI8, hS8⟩ := hcut
              have HI := hidE hI8; have SF := hidE hS8
              clear hI8 hS8
              have b0 := HI.out.b1.cell 0; have b1 := HI.out.b1.cell 1; have b2 := HI.out.b1.cell 2; have b3 := HI.out.b1.cell 3; have b4 := HI.out.b1.cell 4; have bz := HI.out.b1.lt; have d0 := HI.out.b2.cell 0; have d1 := HI.out.b2.cell 1; have d2 := HI.out.b2.cell 2; have d3 := HI.out.b2.cell 3; have dz := HI.out.b2.lt
              simp at b0 b1 b2 b3 b4 d0 d1 d2 d3
              obtain ⟨⟨K, jn⟩, hmn⟩ : ∃ r, doS 2 C M = r := ⟨_, rfl⟩
              have HMN := hidE hmn; have HMC2 := hidE (min_cap hmn)
              clear hmn
              go_wp2_with fail
              (with_reducible refine (cmn_f (F := C) (G := M) ?k1 ?k2 ?k3 HMN.out).mono ?_)
              case k1 => exact HI.out.s1
              case k2 => exact HI.out.s5
              case k3 => have := NL.out; have := N5.out; omega
              rintro e wr2 ⟨v6, rfl, hv6, hb⟩
              obtain ⟨aK, cK, rfl, g1, g2, g3⟩ := hv6
              have SK := hidE (show SliS wr2 (.slice aK K.length cK) K from ⟨aK, cK, rfl, g1, g2, g3⟩)
              have NK := hidE (show K.length ≤ 80 by have h1 := HMC2.out.1; have h2 := HI.out.s1.len.1; have h3 := HI.out.s5.len.1; have h4 := NL.out; have h5 := N5.out; omega)
              have HX := hidE hb
              have HI := hidE (HI.out.past HX.out); have SF := hidE (SF.out.past HX.out)
              clear hb HX g1 g2 g3 b0 b1 b2 b3 b4 bz d0 d1 d2 d3 dz
              have b0 := HI.out.b1.cell 0; have b1 := HI.out.b1.cell 1; have b2 := HI.out.b1.cell 2; have b3 := HI.out.b1.cell 3; have b4 := HI.out.b1.cell 4; have bz := HI.out.b1.lt; have d0 := HI.out.b2.cell 0; have d1 := HI.out.b2.cell 1; have d2 := HI.out.b2.cell 2; have d3 := HI.out.b2.cell 3; have dz := HI.out.b2.lt
              simp at b0 b1 b2 b3 b4 d0 d1 d2 d3
              go_wp2_with fail
              (with_reducible refine (free_s (P := P) (C := K) (L := L) (O := O) (x := x) ?o1 ?o2 ?o3 ?o4 ?o5 ?o6 ?o7 ?o8 ?o9).mono ?_)
              case o1 => exact SK.out
              case o2 => exact HI.out.s2
              case o3 => exact HI.out.s3
              case o4 => exact HI.out.sp
              case o5 => exact H4.out
              case o6 => have := NK.out; omega
              case o7 => have := NL.out; omega
              case o8 => have := NL.out; omega
              case o9 => have := NL.out; omega
              rintro e wr3 ⟨avv, nv, cvv, VV, ev, rfl, hs, hi, hl, hb⟩
              have SV := hidE hs; have HV := hidE hi
              have NV := hidE (show nv ≤ 400000 by have := hs.len.1; omega)
              have HX := hidE (show Below wr2.heap.size wr2 wr3 from hb)
              have HI := hidE (HI.out.past HX.out); have SF := hidE (SF.out.past HX.out)
              clear hb HX b0 b1 b2 b3 b4 bz d0 d1 d2 d3 dz
              clear hs hi hl
              by_cases hjn : jn = 0
              · rcases freeIs_cases HV.out with ⟨he, _⟩ | ⟨rfl, hff, _⟩
                · have e0 : (ev != 0) = true := bne_iff_ne.2 he
                  have j0 : (jn != 0) = false := by rw [hjn]; rfl
                  clear he hjn
                  go_wp2_with fail
                  ((with_reducible refine (HH.out _).mono ?_); rintro e wr4 ⟨rfl, hb⟩)
                  go_wp2
                  go_ret
                  exact ⟨rfl, bstep hb HI.out.bel⟩
                · have HLE := hidE (fun t => free_less HFF.out hff (fun q hq => hq) (HMC2.out.2 hjn) (fun t => leB_self _) t)
                  have HMU := hidE hff.1
                  have j0 : (jn != 0) = false := by rw [hjn]; rfl
                  clear hff hjn
                  go_wp2_with fail
                  (with_reducible refine (fbelow_c (F := VV) (G := F) ?l1 ?l2 ?l3 HMU.out (FreeF.may HFF.out) HLE.out).mono ?_)
                  case l1 => exact SV.out
                  case l2 => exact SF.out
                  case l3 => have := NV.out; have := NF.out; omega
                  rintro e wr4 ⟨rfl, hb⟩
                  have HI := hidE (HI.out.past hb)
                  clear hb
                  go_wp2_with fail
                  ((with_reducible refine (HH.out _).mono ?_); rintro e wr5 ⟨rfl, hb⟩)
                  go_wp2
                  go_ret
                  exact ⟨rfl, bstep hb HI.out.bel⟩
              · have j0 : (jn != 0) = true := bne_iff_ne.2 hjn
                clear hjn
                go_wp2_with fail
                ((with_reducible refine (HH.out _).mono ?_); rintro e wr4 ⟨rfl, hb⟩)
                go_wp2
                go_ret
                exact ⟨rfl, bstep hb HI.out.bel⟩
    · have d5 : decide ((40 : Int) < (n5 : Int)) = true := decide_eq_true (by omega)
      have d5' : decide (40 < n5) = true := decide_eq_true (by omega)
      clear h5
      go_enter Try.func4, Try.ntmps4
      go_upto_region 1 with fail
      rw [← hw0]
      clear hw0
      have b0 := HI.out.b1.cell 0; have b1 := HI.out.b1.cell 1; have b2 := HI.out.b1.cell 2; have b3 := HI.out.b1.cell 3; have b4 := HI.out.b1.cell 4; have bz := HI.out.b1.lt; have d0 := HI.out.b2.cell 0; have d1 := HI.out.b2.cell 1; have d2 := HI.out.b2.cell 2; have d3 := HI.out.b2.cell 3; have dz := HI.out.b2.lt
      simp at b0 b1 b2 b3 b4 d0 d1 d2 d3
      go_wp2_with fail
      ((with_reducible refine (HG.out _).mono ?_); rintro e w1 ⟨rfl, hb⟩)
      have HX := hidE (show Below w0.heap.size w0 w1 from hb)
      have HI := hidE (HI.out.past HX.out)
      clear hb HX b0 b1 b2 b3 b4 bz d0 d1 d2 d3 dz
      go_wp2_with fail
      ((with_reducible refine (HH.out _).mono ?_); rintro e w2 ⟨rfl, hb⟩)
      go_wp2
      go_ret
      exact ⟨rfl, bstep hb HI.out.bel⟩
  · rw [hg] at HG
    clear hg
    go_enter Try.func4, Try.ntmps4
    go_upto_region 1 with fail
    rw [← hw0]
    clear hw0
    have b0 := HI.out.b1.cell 0; have b1 := HI.out.b1.cell 1; have b2 := HI.out.b1.cell 2; have b3 := HI.out.b1.cell 3; have b4 := HI.out.b1.cell 4; have bz := HI.out.b1.lt; have d0 := HI.out.b2.cell 0; have d1 := HI.out.b2.cell 1; have d2 := HI.out.b2.cell 2; have d3 := HI.out.b2.cell 3; have dz := HI.out.b2.lt
    simp at b0 b1 b2 b3 b4 d0 d1 d2 d3
    go_wp2_with fail
    ((with_reducible refine (HG.out _).mono ?_); rintro e w1 ⟨rfl, hb⟩)
    have HX := hidE (show Below w0.heap.size w0 w1 from hb)
    have HI := hidE (HI.out.past HX.out)
    clear hb HX b0 b1 b2 b3 b4 bz d0 d1 d2 d3 dz
    go_wp2_with fail
    ((with_reducible refine (HH.out _).mono ?_); rintro e w2 ⟨rfl, hb⟩)
    go_wp2
    go_ret
    exact ⟨rfl, bstep hb HI.out.bel⟩
end
end Go.Proofs.Ytjhhcljbmnomlaa

namespace Go.Proofs.Ytjhhcljbmnomlaa
open Go.ChangeShapes Go.WideShapes Go.ChangeAt Go.RowKit

set_option maxRecDepth 100000 in
theorem fitLess_lifted (os : Os) (started : os.Started) (H : Type) (enc : TypeId × Value → H) :
    ReturnsInHanded {} Try.checked os 4 .any (Rows.fitLessSpec.pre6 enc Try.prog Try.f4 Rows.fitLessRow.domain false) (Rows.fitLessSpec.post enc Try.prog Try.f4 false true false false) := by
  refine returnsInHanded_of_change (C := Try.checked) own started (by kernel_rfl) Try.func4
    (ChangeSpec.witness6 (enc := enc) (C := Try.checked) false ⟨#[], #[.agg #[.slice none 0 0, .slice none 0 0, .slice none 0 0, .slice none 0 0, .int .i64 0], .slice none 0 0, .agg #[.int .u8 0, .int .i64 0, .int .i64 0, .int .i64 0]], []⟩ 8 (by kernel_rfl) (by kernel_rfl) (by kernel_rfl) (by kernel_rfl)) ?_
  intro W base args ds gs before hval0 hW _ _
  have hval : ∀ (j : Nat) t v, Try.f4.params[j]? = some t → args[j]? = some v → Value.okWide Try.prog W .any base t v := hval0
  have hW' := hW
  obtain ⟨p, q, hA0, hV, rfl, hfz, hnd⟩ := hW
  have hA : DataW.TrodAll enc Try.prog W 0 (fun _ => true) true Try.f4.params.toList args.toList ds p := hA0
  rw [Try.params4] at hA hval
  obtain ⟨v0, vs0, d0, ds0, p0, q0, hargs, rfl, rfl, h0, r0⟩ := trodAll_cons hA
  obtain ⟨v1, vs1, d1, ds1, p1, q1, rfl, rfl, rfl, h1, r1⟩ := trodAll_cons r0
  obtain ⟨v2, vs2, d2, ds2, p2, q2, rfl, rfl, rfl, h2, r2⟩ := trodAll_cons r1
  obtain ⟨rfl, rfl, rfl⟩ := trodAll_nil r2
  obtain rfl : args = #[v0, v1, v2] := by cases args; simp_all
  obtain ⟨F0, G0, K0, l0, a0, b0, e0, o0, n0, m0, k0, j0, x0, rfl, SF0, SG0, SK0, SP0, hx0⟩ := open_fcaseP (hval 0 25 v0 rfl rfl) h0
  obtain ⟨l1, o1, c1, rfl, hl1, hA1', hS1⟩ := open_slisP (hval 1 22 v1 rfl rfl) h1
  obtain ⟨x2, rfl, hx2⟩ := open_polP (hval 2 41 v2 rfl rfl) h2
  clear hA0 hval0
  refine (fless_c (P := l0) (x := x0) (k := x2.1) (m := x2.2.1.1) (c := x2.2.1.2) (nn := x2.2.2) W SF0 SG0 SK0 SP0.1 rfl SP0.2.2.1 hA1').mono fun e W' ⟨he, hb⟩ => ?_
  subst he
  exact ⟨_, rfl, law_post laidOut (readOk_spec (by kernel_rfl)) rfl Try.underlying4 rfl ⟨rfl, rfl, rfl⟩ hW' hb⟩

theorem fitLess_holds : Rows.FitLessSaid :=
  OpenClaim.holds_of_wide 4 Try.f4 rfl rfl rfl rfl rfl rfl rfl ⟨rfl, rfl, rfl, rfl, rfl⟩ rfl rfl rfl rfl rfl (by kernel_rfl) Try.func4 (by kernel_rfl)
    (of_decide_eq_true (by kernel_rfl)) (by unfold Func.isWrapper; first | (rw [if_pos (by decide +kernel)]; kernel_rfl) | (rw [if_neg (by decide +kernel)]; exact ⟨rfl, rfl⟩))
    (fun os started H enc _ => fitLess_lifted os started H enc)
end Go.Proofs.Ytjhhcljbmnomlaa
