/- The walk of the statement on definitions that say the same. Conditions: sizes, that the slices read as parts, the tables. -/
import Derived.Test.YtioalnncjahlnaaGreatDoorPAGI
import Derived.Test.YtioalnncjahlnaaGreatDoorPAGG
import Derived.Test.YtioalnncjahlnaaGreatDoorPAGJ
namespace Go.Proofs.YtioalnncjahlnaaGreatDoor
open Go.ChangeShapes Go.WideShapes Go.ChangeAt Go.RowKit
attribute [local irreducible] Go.Calls

/-- The two definitions, boxed, and their parts. -/
structure A2 (W : World) (f1 t1 : Int) (a1 : Option Addr) (l1 : List Prt) (n1 c1 : Nat) (f2 t2 : Int) (a2 : Option Addr) (l2 : List Prt) (n2 c2 : Nat) (w : World) : Prop where
  bel : Below W.heap.size W w
  d1 : Blk w W.heap.size #[.int .i64 f1, .int .i64 t1, .slice a1 n1 c1] 24
  d2 : Blk w (W.heap.size + 1) #[.int .i64 f2, .int .i64 t2, .slice a2 n2 c2] 24
  T1 : ArgP w a1 l1
  T2 : ArgP w a2 l2
  z1 : 0 < l1.length → ∀ x, a1 = some x → x.block < W.heap.size
  z2 : 0 < l2.length → ∀ x, a2 = some x → x.block < W.heap.size
theorem A2.past {W : World} {f1 t1 : Int} {a1 : Option Addr} {l1 : List Prt} {n1 c1 : Nat} {f2 t2 : Int} {a2 : Option Addr} {l2 : List Prt} {n2 c2 : Nat} {w w' : World} (h : A2 W f1 t1 a1 l1 n1 c1 f2 t2 a2 l2 n2 c2 w) (hb : Below w.heap.size w w') : A2 W f1 t1 a1 l1 n1 c1 f2 t2 a2 l2 n2 c2 w' :=
  ⟨h.bel.trans (hb.mono h.bel.size), h.d1.past hb, h.d2.past hb, h.T1.past hb, h.T2.past hb, h.z1, h.z2⟩
theorem blk_drw9 {w : World} {k : Nat} {cs : Array Value} {t : TypeId} (h : Blk w k cs t) : Blk w.drew k cs t := h
theorem argP_storeZ {W : World} {a : Option Addr} {l : List Prt} {p : Nat} (h : ArgP W a l) (hp : 0 < l.length → ∀ x, a = some x → x.block ≠ p) (i : Nat) (v : Value) : ArgP (W.setCell ⟨p, i, none⟩ v) a l := fun hl => argP_store h (hp hl) i v hl
theorem A2.put {W : World} {f1 t1 : Int} {a1 : Option Addr} {l1 : List Prt} {n1 c1 : Nat} {f2 t2 : Int} {a2 : Option Addr} {l2 : List Prt} {n2 c2 : Nat} {w : World} (h : A2 W f1 t1 a1 l1 n1 c1 f2 t2 a2 l2 n2 c2 w) {p : Nat} (hp : W.heap.size + 2 ≤ p) (i : Nat) (v : Value) : A2 W f1 t1 a1 l1 n1 c1 f2 t2 a2 l2 n2 c2 (w.setCell ⟨p, i, none⟩ v) :=
  ⟨h.bel.setCell (p := ⟨p, i, none⟩) (by simp; omega) v, h.d1.other (by omega) v, h.d2.other (by omega) v, argP_storeZ h.T1 (fun hl x hx => by have := h.z1 hl x hx; omega) i v, argP_storeZ h.T2 (fun hl x hx => by have := h.z2 hl x hx; omega) i v, h.z1, h.z2⟩
theorem argP_lt {W : World} {a : Option Addr} {l : List Prt} (h : ArgP W a l) : 0 < l.length → ∀ x, a = some x → x.block < W.heap.size := fun hl x hx => by
  obtain ⟨b, off, e, hb, _⟩ := h hl
  rw [e] at hx; cases hx; exact hb
/-- What a statement `x.T = append(..)` leaves. -/
theorem app_end {W : World} {f1 t1 : Int} {a1 : Option Addr} {l1 : List Prt} {n1 c1 : Nat} {f2 t2 : Int} {a2 : Option Addr} {l2 : List Prt} {n2 c2 : Nat} {w w5 : World} {l l' : List Prt} {tot p : Nat} {a5 : Option Addr} {c5 : Nat} {xs : List Value} {g1 g2 : Int} {v : Value} {e : TypeId}
    (hl : l.length = tot) (ho : w5.ownsRow w.heap.size e 5 (.slice a5 tot c5) tot xs) (hx : xs = cellsOfP l) (hp : Blk w5 p #[.int .i64 g1, .int .i64 g2, v] 24) (hpw : p < w.heap.size) (hpz : W.heap.size + 2 ≤ p) (hS : A2 W f1 t1 a1 l1 n1 c1 f2 t2 a2 l2 n2 c2 w) (hb : Below w.heap.size w w5) (hll : l = l') {p' : Nat} (hp' : p' < w.heap.size) :
    (∃ (a : Option Addr) (c : Nat), Blk (w5.setCell ⟨p, 2, none⟩ (.slice a5 tot c5)) p #[.int .i64 g1, .int .i64 g2, .slice a tot c] 24 ∧ ArgP (w5.setCell ⟨p, 2, none⟩ (.slice a5 tot c5)) a l' ∧ (∀ xx, a = some xx → xx.block ≠ p')) ∧ A2 W f1 t1 a1 l1 n1 c1 f2 t2 a2 l2 n2 c2 (w5.setCell ⟨p, 2, none⟩ (.slice a5 tot c5)) := by
  subst hll
  subst hl
  have harg : ArgP w5 a5 l := (argP_of (hx ▸ ho)).1
  have hne : ∀ xx, a5 = some xx → xx.block ≠ p := fun xx hx => by subst hx; have h8 := own_block ho (k := xx.block) rfl; omega
  refine ⟨⟨a5, c5, ?_, argP_store harg hne 2 _, fun xx hx => by subst hx; have h8 := own_block ho (k := xx.block) rfl; omega⟩, (hS.past hb).put hpz 2 _⟩
  have := hp.set 2 (.slice a5 l.length c5)
  simpa using this
theorem step_callC {P : Program} {ops : Array Oper} {o : Oper} {a : Act} {w : World} {K : Act → World → Prop} {Q : Exit → Act → World → Prop} {E : Prop} (hg : o.guard = none) {f : Nat} {args : Array Value} {C : Ending → World → Prop}
    (hrun : (execOp a.eval o).run P w = .ok (.enter f args) w) (hc : Calls P f args w C) (h : ∀ e w', C e w' → ∃ v, e = .returned v ∧ K (a.put o.dst v) w') :
    if Region.wanted o (yielded ops a.tmps) = true then Oper.wp P o a w K Q else E := by
  have hw : Region.wanted o (yielded ops a.tmps) = true := by simp [Region.wanted, hg]
  rw [if_pos hw]
  unfold Oper.wp
  rw [hrun]
  exact hc.mono fun e w' q => by
    obtain ⟨v, rfl, hk⟩ := h e w' q
    exact hk
theorem own_blkP {w : World} {B p : Nat} {x : Prt} {e : TypeId} (h : Blk w p #[.int .u8 x.kind, .int .u32 x.n, .int .u32 x.g, .int .i64 x.d, .int .i64 x.kids] e) (hp : B ≤ p) : w.ownsRow B e 5 (.slice (some ⟨p, 0, none⟩) 1 1) 1 (cellsOfP [x]) :=
  ⟨rfl, .inr ⟨p, 1, _, rfl, hp, h, Nat.le_refl _, by unfold maxLen; omega, rfl, rfl⟩⟩
set_option maxRecDepth 100000 in
set_option maxHeartbeats 4000000 in
theorem alike_no (f1 t1 : Int) (a1 : Option Addr) (l1 : List Prt) (n1 c1 : Nat) (f2 t2 : Int) (a2 : Option Addr) (l2 : List Prt) (n2 c2 : Nat) (kd : Int) (W : World) (hn1 : n1 = l1.length) (hn2 : n2 = l2.length) (hl1 : n1 ≤ 9223372036854775807) (hl2 : n2 ≤ 9223372036854775807) (hA1 : ArgP W a1 l1) (hA2 : ArgP W a2 l2) (hf1 : -9223372036854775808 ≤ f1 ∧ f1 ≤ 9223372036854775807) (ht1 : -9223372036854775808 ≤ t1 ∧ t1 ≤ 9223372036854775807) (hf2 : -9223372036854775808 ≤ f2 ∧ f2 ≤ 9223372036854775807) (ht2 : -9223372036854775808 ≤ t2 ∧ t2 ≤ 9223372036854775807) (hTab : Tab W) (h : ¬ ((chkS f1 t1 l1).2 = 0 ∧ (chkS f2 t2 l2).2 = 0 ∧ n1 ≤ 30 ∧ n2 ≤ 30)) :
    Calls Tryz.prog 3 #[defV f1 t1 a1 n1 c1, defV f2 t2 a2 n2 c2, .int .u8 kd] W fun e w' => e = .returned (.bool true) ∧ Below W.heap.size W w' := by
  have HS0 := hidE (show A2 W f1 t1 a1 l1 n1 c1 f2 t2 a2 l2 n2 c2 ((W.alloc (.cells #[.int .i64 f1, .int .i64 t1, .slice a1 n1 c1] 24)).alloc (.cells #[.int .i64 f2, .int .i64 t2, .slice a2 n2 c2] 24)) from ⟨by (repeat (first | exact Below.refl _ _ | assumption | refine balloc ?_ _ | refine below_drewN ?_ _ | refine bstep (by assumption) ?_ | refine bstep (Past.prop _) ?_ | refine Below.setCell ?_ (by first | exact Nat.le_refl _ | (simp; done) | (simp; omega)) _)), (Blk.made _ _ _).alloc _, Blk.made_at _ _ _ _ (by simp), hA1.past (by (repeat (first | exact Below.refl _ _ | assumption | refine balloc ?_ _ | refine below_drewN ?_ _ | refine bstep (by assumption) ?_ | refine bstep (Past.prop _) ?_ | refine Below.setCell ?_ (by first | exact Nat.le_refl _ | (simp; done) | (simp; omega)) _))), hA2.past (by (repeat (first | exact Below.refl _ _ | assumption | refine balloc ?_ _ | refine below_drewN ?_ _ | refine bstep (by assumption) ?_ | refine bstep (Past.prop _) ?_ | refine Below.setCell ?_ (by first | exact Nat.le_refl _ | (simp; done) | (simp; omega)) _))), argP_lt hA1, argP_lt hA2⟩)
  have HTAB := hidE hTab
  have HN1 := hidE hn1; have HN2 := hidE hn2
  have CH1 := hidE (fun w (h : ArgP w a1 l1) => show Calls Tryz.prog 5 #[defV f1 t1 a1 n1 c1] w _ from (by rw [hn1]; exact rchkL_c f1 t1 l1 a1 c1 w (by omega) h hf1 ht1))
  have CH2 := hidE (fun w (h : ArgP w a2 l2) => show Calls Tryz.prog 5 #[defV f2 t2 a2 n2 c2] w _ from (by rw [hn2]; exact rchkL_c f2 t2 l2 a2 c2 w (by omega) h hf2 ht2))
  clear hA1 hA2 hTab hn1 hn2 hf1 ht1 hf2 ht2
  generalize chkS f1 t1 l1 = C1 at *
  generalize chkS f2 t2 l2 = C2 at *
  obtain ⟨i1, e1⟩ := C1
  obtain ⟨i2, e2⟩ := C2
  simp only at h CH1 CH2
  by_cases h1 : e1 = 0
  · by_cases h2 : e2 = 0
    · by_cases h3 : n1 ≤ 30
      · have h4 : ¬ n2 ≤ 30 := fun c => h ⟨h1, h2, h3, c⟩
        subst h1; subst h2
        have r3 : decide ((n1 : Int) > 30) = false := decide_eq_false (by omega)
        have r4 : decide ((n2 : Int) > 30) = true := decide_eq_true (by omega)
        have r3' : decide (30 < n1) = false := decide_eq_false (by omega)
        have r4' : decide (30 < n2) = true := decide_eq_true (by omega)
        clear h
        go_enter Tryz.func3, Tryz.ntmps3
        go_wp2_with fail
        obtain ⟨w0, hw0⟩ : ∃ w0, w0 = (W.alloc (.cells #[.int .i64 f1, .int .i64 t1, .slice a1 n1 c1] 24)).alloc (.cells #[.int .i64 f2, .int .i64 t2, .slice a2 n2 c2] 24) := ⟨_, rfl⟩
        rw [← hw0]; rw [← hw0] at HS0; clear hw0
        ((with_reducible refine (CH1.out _ HS0.out.T1).mono ?_); rintro e w1 ⟨rfl, hb1⟩)
        have HS1 := hidE (HS0.out.past hb1); clear HS0 hb1
        have x0 := HS1.out.d1.cell 0; have x1 := HS1.out.d1.cell 1; have x2 := HS1.out.d1.cell 2; have xz := HS1.out.d1.lt; have y0 := HS1.out.d2.cell 0; have y1 := HS1.out.d2.cell 1; have y2 := HS1.out.d2.cell 2; have yz := HS1.out.d2.lt
        simp at x0 x1 x2 y0 y1 y2
        go_wp2_with fail
        ((with_reducible refine (CH2.out _ HS1.out.T2).mono ?_); rintro e w2 ⟨rfl, hb2⟩)
        have HS := hidE (HS1.out.past hb2); clear HS1 hb2 x0 x1 x2 xz y0 y1 y2 yz
        have x0 := HS.out.d1.cell 0; have x1 := HS.out.d1.cell 1; have x2 := HS.out.d1.cell 2; have xz := HS.out.d1.lt; have y0 := HS.out.d2.cell 0; have y1 := HS.out.d2.cell 1; have y2 := HS.out.d2.cell 2; have yz := HS.out.d2.lt
        simp at x0 x1 x2 y0 y1 y2
        go_wp2_with fail
        ((with_reducible refine (head9_c _ (HTAB.out.past HS.out.bel)).mono ?_); rintro e w9 ⟨rfl, hb9⟩)
        have HB9 := hidE (HS.out.bel.trans (hb9.mono HS.out.bel.size))
        clear hb9 x0 x1 x2 xz y0 y1 y2 yz
        go_wp2
        try rw [Exit.noGoto_ret]
        go_ret
        exact ⟨rfl, HB9.out⟩
      · subst h1; subst h2
        have r3 : decide ((n1 : Int) > 30) = true := decide_eq_true (by omega)
        have r3' : decide (30 < n1) = true := decide_eq_true (by omega)
        clear h
        go_enter Tryz.func3, Tryz.ntmps3
        go_wp2_with fail
        obtain ⟨w0, hw0⟩ : ∃ w0, w0 = (W.alloc (.cells #[.int .i64 f1, .int .i64 t1, .slice a1 n1 c1] 24)).alloc (.cells #[.int .i64 f2, .int .i64 t2, .slice a2 n2 c2] 24) := ⟨_, rfl⟩
        rw [← hw0]; rw [← hw0] at HS0; clear hw0
        ((with_reducible refine (CH1.out _ HS0.out.T1).mono ?_); rintro e w1 ⟨rfl, hb1⟩)
        have HS1 := hidE (HS0.out.past hb1); clear HS0 hb1
        have x0 := HS1.out.d1.cell 0; have x1 := HS1.out.d1.cell 1; have x2 := HS1.out.d1.cell 2; have xz := HS1.out.d1.lt; have y0 := HS1.out.d2.cell 0; have y1 := HS1.out.d2.cell 1; have y2 := HS1.out.d2.cell 2; have yz := HS1.out.d2.lt
        simp at x0 x1 x2 y0 y1 y2
        go_wp2_with fail
        ((with_reducible refine (CH2.out _ HS1.out.T2).mono ?_); rintro e w2 ⟨rfl, hb2⟩)
        have HS := hidE (HS1.out.past hb2); clear HS1 hb2 x0 x1 x2 xz y0 y1 y2 yz
        have x0 := HS.out.d1.cell 0; have x1 := HS.out.d1.cell 1; have x2 := HS.out.d1.cell 2; have xz := HS.out.d1.lt; have y0 := HS.out.d2.cell 0; have y1 := HS.out.d2.cell 1; have y2 := HS.out.d2.cell 2; have yz := HS.out.d2.lt
        simp at x0 x1 x2 y0 y1 y2
        go_wp2_with fail
        ((with_reducible refine (head9_c _ (HTAB.out.past HS.out.bel)).mono ?_); rintro e w9 ⟨rfl, hb9⟩)
        have HB9 := hidE (HS.out.bel.trans (hb9.mono HS.out.bel.size))
        clear hb9 x0 x1 x2 xz y0 y1 y2 yz
        go_wp2
        try rw [Exit.noGoto_ret]
        go_ret
        exact ⟨rfl, HB9.out⟩
    · subst h1
      have r2 : (e2 != 0) = true := by simpa using h2
      clear h
      go_enter Tryz.func3, Tryz.ntmps3
      go_wp2_with fail
      obtain ⟨w0, hw0⟩ : ∃ w0, w0 = (W.alloc (.cells #[.int .i64 f1, .int .i64 t1, .slice a1 n1 c1] 24)).alloc (.cells #[.int .i64 f2, .int .i64 t2, .slice a2 n2 c2] 24) := ⟨_, rfl⟩
      rw [← hw0]; rw [← hw0] at HS0; clear hw0
      ((with_reducible refine (CH1.out _ HS0.out.T1).mono ?_); rintro e w1 ⟨rfl, hb1⟩)
      have HS1 := hidE (HS0.out.past hb1); clear HS0 hb1
      have x0 := HS1.out.d1.cell 0; have x1 := HS1.out.d1.cell 1; have x2 := HS1.out.d1.cell 2; have xz := HS1.out.d1.lt; have y0 := HS1.out.d2.cell 0; have y1 := HS1.out.d2.cell 1; have y2 := HS1.out.d2.cell 2; have yz := HS1.out.d2.lt
      simp at x0 x1 x2 y0 y1 y2
      go_wp2_with fail
      ((with_reducible refine (CH2.out _ HS1.out.T2).mono ?_); rintro e w2 ⟨rfl, hb2⟩)
      have HS := hidE (HS1.out.past hb2); clear HS1 hb2 x0 x1 x2 xz y0 y1 y2 yz
      have x0 := HS.out.d1.cell 0; have x1 := HS.out.d1.cell 1; have x2 := HS.out.d1.cell 2; have xz := HS.out.d1.lt; have y0 := HS.out.d2.cell 0; have y1 := HS.out.d2.cell 1; have y2 := HS.out.d2.cell 2; have yz := HS.out.d2.lt
      simp at x0 x1 x2 y0 y1 y2
      go_wp2_with fail
      ((with_reducible refine (head9_c _ (HTAB.out.past HS.out.bel)).mono ?_); rintro e w9 ⟨rfl, hb9⟩)
      have HB9 := hidE (HS.out.bel.trans (hb9.mono HS.out.bel.size))
      clear hb9 x0 x1 x2 xz y0 y1 y2 yz
      go_wp2
      try rw [Exit.noGoto_ret]
      go_ret
      exact ⟨rfl, HB9.out⟩
  · have r1 : (e1 != 0) = true := by simpa using h1
    clear h
    go_enter Tryz.func3, Tryz.ntmps3
    go_wp2_with fail
    obtain ⟨w0, hw0⟩ : ∃ w0, w0 = (W.alloc (.cells #[.int .i64 f1, .int .i64 t1, .slice a1 n1 c1] 24)).alloc (.cells #[.int .i64 f2, .int .i64 t2, .slice a2 n2 c2] 24) := ⟨_, rfl⟩
    rw [← hw0]; rw [← hw0] at HS0; clear hw0
    ((with_reducible refine (CH1.out _ HS0.out.T1).mono ?_); rintro e w1 ⟨rfl, hb1⟩)
    have HS1 := hidE (HS0.out.past hb1); clear HS0 hb1
    have x0 := HS1.out.d1.cell 0; have x1 := HS1.out.d1.cell 1; have x2 := HS1.out.d1.cell 2; have xz := HS1.out.d1.lt; have y0 := HS1.out.d2.cell 0; have y1 := HS1.out.d2.cell 1; have y2 := HS1.out.d2.cell 2; have yz := HS1.out.d2.lt
    simp at x0 x1 x2 y0 y1 y2
    go_wp2_with fail
    ((with_reducible refine (CH2.out _ HS1.out.T2).mono ?_); rintro e w2 ⟨rfl, hb2⟩)
    have HS := hidE (HS1.out.past hb2); clear HS1 hb2 x0 x1 x2 xz y0 y1 y2 yz
    have x0 := HS.out.d1.cell 0; have x1 := HS.out.d1.cell 1; have x2 := HS.out.d1.cell 2; have xz := HS.out.d1.lt; have y0 := HS.out.d2.cell 0; have y1 := HS.out.d2.cell 1; have y2 := HS.out.d2.cell 2; have yz := HS.out.d2.lt
    simp at x0 x1 x2 y0 y1 y2
    go_wp2_with fail
    ((with_reducible refine (head9_c _ (HTAB.out.past HS.out.bel)).mono ?_); rintro e w9 ⟨rfl, hb9⟩)
    have HB9 := hidE (HS.out.bel.trans (hb9.mono HS.out.bel.size))
    clear hb9 x0 x1 x2 xz y0 y1 y2 yz
    go_wp2
    try rw [Exit.noGoto_ret]
    go_ret
    exact ⟨rfl, HB9.out⟩
set_option maxRecDepth 100000 in
set_option maxHeartbeats 8000000 in
theorem alike_deep (f1 t1 : Int) (a1 : Option Addr) (l1 : List Prt) (n1 c1 : Nat) (f2 t2 : Int) (a2 : Option Addr) (l2 : List Prt) (n2 c2 : Nat) (kd : Int) (W : World) (hn1 : n1 = l1.length) (hn2 : n2 = l2.length) (hl1 : n1 ≤ 9223372036854775807) (hl2 : n2 ≤ 9223372036854775807) (hA1 : ArgP W a1 l1) (hA2 : ArgP W a2 l2) (hf1 : -9223372036854775808 ≤ f1 ∧ f1 ≤ 9223372036854775807) (ht1 : -9223372036854775808 ≤ t1 ∧ t1 ≤ 9223372036854775807) (hf2 : -9223372036854775808 ≤ f2 ∧ f2 ≤ 9223372036854775807) (ht2 : -9223372036854775808 ≤ t2 ∧ t2 ≤ 9223372036854775807) (hTab : Tab W) (hc1 : n1 ≤ c1 ∧ c1 ≤ 9223372036854775807) (hc2 : n2 ≤ c2 ∧ c2 ≤ 9223372036854775807) (_hk : 0 ≤ kd ∧ kd ≤ 255) (h1 : (chkS f1 t1 l1).2 = 0) (h2 : (chkS f2 t2 l2).2 = 0) (h3 : n1 ≤ 30) (h4 : n2 ≤ 30) (hdeep : (∃ j, j < n1 ∧ 6 < depthS l1 j) ∨ ∃ j, j < n2 ∧ 6 < depthS l2 j) :
    Calls Tryz.prog 3 #[defV f1 t1 a1 n1 c1, defV f2 t2 a2 n2 c2, .int .u8 kd] W fun e w' => e = .returned (.bool true) ∧ Below W.heap.size W w' := by
  have HS0 := hidE (show A2 W f1 t1 a1 l1 n1 c1 f2 t2 a2 l2 n2 c2 ((W.alloc (.cells #[.int .i64 f1, .int .i64 t1, .slice a1 n1 c1] 24)).alloc (.cells #[.int .i64 f2, .int .i64 t2, .slice a2 n2 c2] 24)) from ⟨by (repeat (first | exact Below.refl _ _ | assumption | refine balloc ?_ _ | refine below_drewN ?_ _ | refine bstep (by assumption) ?_ | refine bstep (Past.prop _) ?_ | refine Below.setCell ?_ (by first | exact Nat.le_refl _ | (simp; done) | (simp; omega)) _)), (Blk.made _ _ _).alloc _, Blk.made_at _ _ _ _ (by simp), hA1.past (by (repeat (first | exact Below.refl _ _ | assumption | refine balloc ?_ _ | refine below_drewN ?_ _ | refine bstep (by assumption) ?_ | refine bstep (Past.prop _) ?_ | refine Below.setCell ?_ (by first | exact Nat.le_refl _ | (simp; done) | (simp; omega)) _))), hA2.past (by (repeat (first | exact Below.refl _ _ | assumption | refine balloc ?_ _ | refine below_drewN ?_ _ | refine bstep (by assumption) ?_ | refine bstep (Past.prop _) ?_ | refine Below.setCell ?_ (by first | exact Nat.le_refl _ | (simp; done) | (simp; omega)) _))), argP_lt hA1, argP_lt hA2⟩)
  have HTAB := hidE hTab
  have HN1 := hidE hn1; have HN2 := hidE hn2
  have CH1 := hidE (fun w (h : ArgP w a1 l1) => show Calls Tryz.prog 5 #[defV f1 t1 a1 n1 c1] w _ from (by rw [hn1]; exact rchkL_c f1 t1 l1 a1 c1 w (by omega) h hf1 ht1))
  have CH2 := hidE (fun w (h : ArgP w a2 l2) => show Calls Tryz.prog 5 #[defV f2 t2 a2 n2 c2] w _ from (by rw [hn2]; exact rchkL_c f2 t2 l2 a2 c2 w (by omega) h hf2 ht2))
  obtain ⟨hok1, _, htr1, _, _⟩ := chk_ok h1
  obtain ⟨hok2, _, htr2, _, _⟩ := chk_ok h2
  rw [hok1] at CH1
  rw [hok2] at CH2
  obtain ⟨F, hkF, hlF, hFl, hfF, hsF⟩ := fit_tree htr1
  obtain ⟨G, hkG, hlG, hGl, hfG, hsG⟩ := fit_tree htr2
  have HFF := hidE (show Fine f1 t1 F from ⟨by rw [← hFl]; exact hok1, hkF, hlF, hfF, hsF, hf1, ht1⟩)
  have HFG := hidE (show Fine f2 t2 G from ⟨by rw [← hGl]; exact hok2, hkG, hlG, hfG, hsG, hf2, ht2⟩)
  have HFl := hidE hFl; have HGl := hidE hGl
  have HZF := hidE (show F.size = n1 by rw [hn1, hFl, flat_len])
  have HZG := hidE (show G.size = n2 by rw [hn2, hGl, flat_len])
  have DP1 := hidE (fun i (hi : i < n1) w (h : ArgP w a1 l1) => show Calls Tryz.prog 7 #[.slice a1 n1 c1, .int .i64 i] w _ from (by rw [hn1]; exact rdepth_c l1 i a1 c1 w (by omega) (by omega) h))
  have DP2 := hidE (fun i (hi : i < n2) w (h : ArgP w a2 l2) => show Calls Tryz.prog 7 #[.slice a2 n2 c2, .int .i64 i] w _ from (by rw [hn2]; exact rdepth_c l2 i a2 c2 w (by omega) (by omega) h))
  have NM1 := hidE (fun w (h : ArgP w a1 l1) => norm9_c f1 t1 F a1 c1 n1 (by rw [← hFl]; exact hn1) w (by rw [← hFl]; exact h) hc1 HFF.out.chk hlF hfF hsF hf1 ht1)
  have NM2 := hidE (fun w (h : ArgP w a2 l2) => norm9_c f2 t2 G a2 c2 n2 (by rw [← hGl]; exact hn2) w (by rw [← hGl]; exact h) hc2 HFG.out.chk hlG hfG hsG hf2 ht2)
  have r3 : decide ((n1 : Int) > 30) = false := decide_eq_false (by omega)
  have r4 : decide ((n2 : Int) > 30) = false := decide_eq_false (by omega)
  have r3' : decide (30 < n1) = false := decide_eq_false (by omega)
  have r4' : decide (30 < n2) = false := decide_eq_false (by omega)
  clear hA1 hA2 hTab hn1 hn2 hf1 ht1 hf2 ht2 hok1 hok2 htr1 htr2 h1 h2 hkF hlF hFl hfF hsF hkG hlG hGl hfG hsG hc1 hc2
  have HDEEP := hidE hdeep
  clear hdeep
  go_enter Tryz.func3, Tryz.ntmps3
  go_wp2_with fail
  obtain ⟨w0, hw0⟩ : ∃ w0, w0 = (W.alloc (.cells #[.int .i64 f1, .int .i64 t1, .slice a1 n1 c1] 24)).alloc (.cells #[.int .i64 f2, .int .i64 t2, .slice a2 n2 c2] 24) := ⟨_, rfl⟩
  rw [← hw0]; rw [← hw0] at HS0; clear hw0
  ((with_reducible refine (CH1.out _ HS0.out.T1).mono ?_); rintro e w1 ⟨rfl, hb1⟩)
  have HS1 := hidE (HS0.out.past hb1); clear HS0 hb1
  have x0 := HS1.out.d1.cell 0; have x1 := HS1.out.d1.cell 1; have x2 := HS1.out.d1.cell 2; have xz := HS1.out.d1.lt; have y0 := HS1.out.d2.cell 0; have y1 := HS1.out.d2.cell 1; have y2 := HS1.out.d2.cell 2; have yz := HS1.out.d2.lt
  simp at x0 x1 x2 y0 y1 y2
  go_wp2_with fail
  ((with_reducible refine (CH2.out _ HS1.out.T2).mono ?_); rintro e w2 ⟨rfl, hb2⟩)
  have HS := hidE (HS1.out.past hb2); clear HS1 hb2 x0 x1 x2 xz y0 y1 y2 yz
  have x0 := HS.out.d1.cell 0; have x1 := HS.out.d1.cell 1; have x2 := HS.out.d1.cell 2; have xz := HS.out.d1.lt; have y0 := HS.out.d2.cell 0; have y1 := HS.out.d2.cell 1; have y2 := HS.out.d2.cell 2; have yz := HS.out.d2.lt
  simp at x0 x1 x2 y0 y1 y2
  clear CH1 CH2
  go_upto_region 5 with fail
  clear r3 r4 r3' r4' x0 x1 x2 xz y0 y1 y2 yz
  go_wp2
  go_loopg [11] (n1 + n2) (fun gh v11 wr => ∃ i : Nat, v11 = .int .i64 i ∧ n1 + n2 - i ≤ gh ∧ i ≤ n1 + n2 ∧ (∀ j, j < i → j < n1 → depthS l1 j ≤ 6) ∧ (∀ j, j < i → j < n2 → depthS l2 j ≤ 6) ∧ A2 W f1 t1 a1 l1 n1 c1 f2 t2 a2 l2 n2 c2 wr)
  case atStart => exact ⟨0, rfl, Nat.le_refl _, Nat.zero_le _, fun j hj => by omega, fun j hj => by omega, HS.out⟩
  case round =>
    clear HS
    obtain ⟨i, rfl, hgh, hii, hd1, hd2, hs⟩ := hrel
    have HGH := hidE hgh; have HD1 := hidE hd1; have HD2 := hidE hd2; have HS := hidE hs
    clear hgh hd1 hd2 hs
    by_cases hm : i < max n1 n2
    · by_cases hmx : n1 < n2
      · have v0 : True := trivial
        have v1 : decide ((n1 : Int) < (n2 : Int)) = true := decide_eq_true (by omega)
        have v2 : decide ((i : Int) < (n2 : Int)) = true := decide_eq_true (by omega)
        have v3 : ¬ (n2 : Int) ≤ (n1 : Int) := by omega
        have x0 := HS.out.d1.cell 0; have x1 := HS.out.d1.cell 1; have x2 := HS.out.d1.cell 2; have xz := HS.out.d1.lt; have y0 := HS.out.d2.cell 0; have y1 := HS.out.d2.cell 1; have y2 := HS.out.d2.cell 2; have yz := HS.out.d2.lt
        simp at x0 x1 x2 y0 y1 y2
        by_cases hi1 : i < n1
        · have s1 : decide ((i : Int) < (n1 : Int)) = true := decide_eq_true (by omega)
          obtain ⟨d1, hd1⟩ : ∃ d, depthS l1 i = d := ⟨_, rfl⟩
          have HE1 := hidE hd1
          have hcall := DP1.out i hi1 
          rw [hd1] at hcall
          have HC1 := hidE hcall
          clear hcall hd1
          by_cases hg1 : 6 < d1
          · have u1 : decide ((d1 : Int) > 6) = true := decide_eq_true (by omega)
            go_wp2_with fail
            ((with_reducible refine (HC1.out _ HS.out.T1).mono ?_); rintro e w5 ⟨rfl, hb5⟩)
            have HS' := hidE (HS.out.past hb5)
            clear HS hb5 x0 x1 x2 xz y0 y1 y2 yz
            have HS := HS'
            clear HS'
            have x0 := HS.out.d1.cell 0; have x1 := HS.out.d1.cell 1; have x2 := HS.out.d1.cell 2; have xz := HS.out.d1.lt; have y0 := HS.out.d2.cell 0; have y1 := HS.out.d2.cell 1; have y2 := HS.out.d2.cell 2; have yz := HS.out.d2.lt
            simp at x0 x1 x2 y0 y1 y2
            go_wp2_with fail
            ((with_reducible refine (head9_c _ (HTAB.out.past HS.out.bel)).mono ?_); rintro e w9 ⟨rfl, hb9⟩)
            have HB9 := hidE (HS.out.bel.trans (hb9.mono HS.out.bel.size))
            clear hb9 x0 x1 x2 xz y0 y1 y2 yz
            go_wp2
            try rw [Exit.noGoto_ret]
            go_ret
            exact ⟨rfl, HB9.out⟩
          · have u1 : decide ((d1 : Int) > 6) = false := decide_eq_false (by omega)
            by_cases hi2 : i < n2
            · have s2 : decide ((i : Int) < (n2 : Int)) = true := decide_eq_true (by omega)
              obtain ⟨d2, hd2⟩ : ∃ d, depthS l2 i = d := ⟨_, rfl⟩
              have HE2 := hidE hd2
              have hcall := DP2.out i hi2 
              rw [hd2] at hcall
              have HC2 := hidE hcall
              clear hcall hd2
              by_cases hg2 : 6 < d2
              · have u2 : decide ((d2 : Int) > 6) = true := decide_eq_true (by omega)
                go_wp2_with fail
                ((with_reducible refine (HC1.out _ HS.out.T1).mono ?_); rintro e w5 ⟨rfl, hb5⟩)
                have HS' := hidE (HS.out.past hb5)
                clear HS hb5 x0 x1 x2 xz y0 y1 y2 yz
                have HS := HS'
                clear HS'
                have x0 := HS.out.d1.cell 0; have x1 := HS.out.d1.cell 1; have x2 := HS.out.d1.cell 2; have xz := HS.out.d1.lt; have y0 := HS.out.d2.cell 0; have y1 := HS.out.d2.cell 1; have y2 := HS.out.d2.cell 2; have yz := HS.out.d2.lt
                simp at x0 x1 x2 y0 y1 y2
                go_wp2_with fail
                ((with_reducible refine (HC2.out _ HS.out.T2).mono ?_); rintro e w5 ⟨rfl, hb5⟩)
                have HS' := hidE (HS.out.past hb5)
                clear HS hb5 x0 x1 x2 xz y0 y1 y2 yz
                have HS := HS'
                clear HS'
                have x0 := HS.out.d1.cell 0; have x1 := HS.out.d1.cell 1; have x2 := HS.out.d1.cell 2; have xz := HS.out.d1.lt; have y0 := HS.out.d2.cell 0; have y1 := HS.out.d2.cell 1; have y2 := HS.out.d2.cell 2; have yz := HS.out.d2.lt
                simp at x0 x1 x2 y0 y1 y2
                go_wp2_with fail
                ((with_reducible refine (head9_c _ (HTAB.out.past HS.out.bel)).mono ?_); rintro e w9 ⟨rfl, hb9⟩)
                have HB9 := hidE (HS.out.bel.trans (hb9.mono HS.out.bel.size))
                clear hb9 x0 x1 x2 xz y0 y1 y2 yz
                go_wp2
                try rw [Exit.noGoto_ret]
                go_ret
                exact ⟨rfl, HB9.out⟩
              · have u2 : decide ((d2 : Int) > 6) = false := decide_eq_false (by omega)
                go_wp2_with fail
                ((with_reducible refine (HC1.out _ HS.out.T1).mono ?_); rintro e w5 ⟨rfl, hb5⟩)
                have HS' := hidE (HS.out.past hb5)
                clear HS hb5 x0 x1 x2 xz y0 y1 y2 yz
                have HS := HS'
                clear HS'
                have x0 := HS.out.d1.cell 0; have x1 := HS.out.d1.cell 1; have x2 := HS.out.d1.cell 2; have xz := HS.out.d1.lt; have y0 := HS.out.d2.cell 0; have y1 := HS.out.d2.cell 1; have y2 := HS.out.d2.cell 2; have yz := HS.out.d2.lt
                simp at x0 x1 x2 y0 y1 y2
                go_wp2_with fail
                ((with_reducible refine (HC2.out _ HS.out.T2).mono ?_); rintro e w5 ⟨rfl, hb5⟩)
                have HS' := hidE (HS.out.past hb5)
                clear HS hb5 x0 x1 x2 xz y0 y1 y2 yz
                have HS := HS'
                clear HS'
                have x0 := HS.out.d1.cell 0; have x1 := HS.out.d1.cell 1; have x2 := HS.out.d1.cell 2; have xz := HS.out.d1.lt; have y0 := HS.out.d2.cell 0; have y1 := HS.out.d2.cell 1; have y2 := HS.out.d2.cell 2; have yz := HS.out.d2.lt
                simp at x0 x1 x2 y0 y1 y2
                go_wp2
                go_roundg (n1 + n2 - (i + 1))
                case measure => have := HGH.out; omega
                case rel =>
                  refine ⟨i + 1, by go_num, Nat.le_refl _, by omega, fun j hj hj2 => ?_, fun j hj hj2 => ?_, HS.out⟩
                  · by_cases c : j < i
                    · exact HD1.out j c hj2
                    · rw [show j = i by omega, HE1.out]; omega
                  · by_cases c : j < i
                    · exact HD2.out j c hj2
                    · rw [show j = i by omega, HE2.out]; omega
            · exact absurd hm (by omega)
        · have s1 : decide ((i : Int) < (n1 : Int)) = false := decide_eq_false (by omega)
          by_cases hi2 : i < n2
          · have s2 : decide ((i : Int) < (n2 : Int)) = true := decide_eq_true (by omega)
            obtain ⟨d2, hd2⟩ : ∃ d, depthS l2 i = d := ⟨_, rfl⟩
            have HE2 := hidE hd2
            have hcall := DP2.out i hi2 
            rw [hd2] at hcall
            have HC2 := hidE hcall
            clear hcall hd2
            by_cases hg2 : 6 < d2
            · have u2 : decide ((d2 : Int) > 6) = true := decide_eq_true (by omega)
              go_wp2_with fail
              ((with_reducible refine (HC2.out _ HS.out.T2).mono ?_); rintro e w5 ⟨rfl, hb5⟩)
              have HS' := hidE (HS.out.past hb5)
              clear HS hb5 x0 x1 x2 xz y0 y1 y2 yz
              have HS := HS'
              clear HS'
              have x0 := HS.out.d1.cell 0; have x1 := HS.out.d1.cell 1; have x2 := HS.out.d1.cell 2; have xz := HS.out.d1.lt; have y0 := HS.out.d2.cell 0; have y1 := HS.out.d2.cell 1; have y2 := HS.out.d2.cell 2; have yz := HS.out.d2.lt
              simp at x0 x1 x2 y0 y1 y2
              go_wp2_with fail
              ((with_reducible refine (head9_c _ (HTAB.out.past HS.out.bel)).mono ?_); rintro e w9 ⟨rfl, hb9⟩)
              have HB9 := hidE (HS.out.bel.trans (hb9.mono HS.out.bel.size))
              clear hb9 x0 x1 x2 xz y0 y1 y2 yz
              go_wp2
              try rw [Exit.noGoto_ret]
              go_ret
              exact ⟨rfl, HB9.out⟩
            · have u2 : decide ((d2 : Int) > 6) = false := decide_eq_false (by omega)
              go_wp2_with fail
              ((with_reducible refine (HC2.out _ HS.out.T2).mono ?_); rintro e w5 ⟨rfl, hb5⟩)
              have HS' := hidE (HS.out.past hb5)
              clear HS hb5 x0 x1 x2 xz y0 y1 y2 yz
              have HS := HS'
              clear HS'
              have x0 := HS.out.d1.cell 0; have x1 := HS.out.d1.cell 1; have x2 := HS.out.d1.cell 2; have xz := HS.out.d1.lt; have y0 := HS.out.d2.cell 0; have y1 := HS.out.d2.cell 1; have y2 := HS.out.d2.cell 2; have yz := HS.out.d2.lt
              simp at x0 x1 x2 y0 y1 y2
              go_wp2
              go_roundg (n1 + n2 - (i + 1))
              case measure => have := HGH.out; omega
              case rel =>
                refine ⟨i + 1, by go_num, Nat.le_refl _, by omega, fun j hj hj2 => ?_, fun j hj hj2 => ?_, HS.out⟩
                · by_cases c : j < i
                  · exact HD1.out j c hj2
                  · omega
                · by_cases c : j < i
                  · exact HD2.out j c hj2
                  · rw [show j = i by omega, HE2.out]; omega
          · exact absurd hm (by omega)
      · have v0 : True := trivial
        have v1 : decide ((n1 : Int) < (n2 : Int)) = false := decide_eq_false (by omega)
        have hm : i < n1 := by omega
        have v2 : decide ((i : Int) < (n1 : Int)) = true := decide_eq_true (by omega)
        have x0 := HS.out.d1.cell 0; have x1 := HS.out.d1.cell 1; have x2 := HS.out.d1.cell 2; have xz := HS.out.d1.lt; have y0 := HS.out.d2.cell 0; have y1 := HS.out.d2.cell 1; have y2 := HS.out.d2.cell 2; have yz := HS.out.d2.lt
        simp at x0 x1 x2 y0 y1 y2
        have hi1 : i < n1 := hm
        have s1 : decide ((i : Int) < (n1 : Int)) = true := decide_eq_true (by omega)
        obtain ⟨d1, hd1⟩ : ∃ d, depthS l1 i = d := ⟨_, rfl⟩
        have HE1 := hidE hd1
        have hcall := DP1.out i hi1 
        rw [hd1] at hcall
        have HC1 := hidE hcall
        clear hcall hd1
        by_cases hg1 : 6 < d1
        · have u1 : decide ((d1 : Int) > 6) = true := decide_eq_true (by omega)
          go_wp2_with fail
          ((with_reducible refine (HC1.out _ HS.out.T1).mono ?_); rintro e w5 ⟨rfl, hb5⟩)
          have HS' := hidE (HS.out.past hb5)
          clear HS hb5 x0 x1 x2 xz y0 y1 y2 yz
          have HS := HS'
          clear HS'
          have x0 := HS.out.d1.cell 0; have x1 := HS.out.d1.cell 1; have x2 := HS.out.d1.cell 2; have xz := HS.out.d1.lt; have y0 := HS.out.d2.cell 0; have y1 := HS.out.d2.cell 1; have y2 := HS.out.d2.cell 2; have yz := HS.out.d2.lt
          simp at x0 x1 x2 y0 y1 y2
          go_wp2_with fail
          ((with_reducible refine (head9_c _ (HTAB.out.past HS.out.bel)).mono ?_); rintro e w9 ⟨rfl, hb9⟩)
          have HB9 := hidE (HS.out.bel.trans (hb9.mono HS.out.bel.size))
          clear hb9 x0 x1 x2 xz y0 y1 y2 yz
          go_wp2
          try rw [Exit.noGoto_ret]
          go_ret
          exact ⟨rfl, HB9.out⟩
        · have u1 : decide ((d1 : Int) > 6) = false := decide_eq_false (by omega)
          by_cases hi2 : i < n2
          · have s2 : decide ((i : Int) < (n2 : Int)) = true := decide_eq_true (by omega)
            obtain ⟨d2, hd2⟩ : ∃ d, depthS l2 i = d := ⟨_, rfl⟩
            have HE2 := hidE hd2
            have hcall := DP2.out i hi2 
            rw [hd2] at hcall
            have HC2 := hidE hcall
            clear hcall hd2
            by_cases hg2 : 6 < d2
            · have u2 : decide ((d2 : Int) > 6) = true := decide_eq_true (by omega)
              go_wp2_with fail
              ((with_reducible refine (HC1.out _ HS.out.T1).mono ?_); rintro e w5 ⟨rfl, hb5⟩)
              have HS' := hidE (HS.out.past hb5)
              clear HS hb5 x0 x1 x2 xz y0 y1 y2 yz
              have HS := HS'
              clear HS'
              have x0 := HS.out.d1.cell 0; have x1 := HS.out.d1.cell 1; have x2 := HS.out.d1.cell 2; have xz := HS.out.d1.lt; have y0 := HS.out.d2.cell 0; have y1 := HS.out.d2.cell 1; have y2 := HS.out.d2.cell 2; have yz := HS.out.d2.lt
              simp at x0 x1 x2 y0 y1 y2
              go_wp2_with fail
              ((with_reducible refine (HC2.out _ HS.out.T2).mono ?_); rintro e w5 ⟨rfl, hb5⟩)
              have HS' := hidE (HS.out.past hb5)
              clear HS hb5 x0 x1 x2 xz y0 y1 y2 yz
              have HS := HS'
              clear HS'
              have x0 := HS.out.d1.cell 0; have x1 := HS.out.d1.cell 1; have x2 := HS.out.d1.cell 2; have xz := HS.out.d1.lt; have y0 := HS.out.d2.cell 0; have y1 := HS.out.d2.cell 1; have y2 := HS.out.d2.cell 2; have yz := HS.out.d2.lt
              simp at x0 x1 x2 y0 y1 y2
              go_wp2_with fail
              ((with_reducible refine (head9_c _ (HTAB.out.past HS.out.bel)).mono ?_); rintro e w9 ⟨rfl, hb9⟩)
              have HB9 := hidE (HS.out.bel.trans (hb9.mono HS.out.bel.size))
              clear hb9 x0 x1 x2 xz y0 y1 y2 yz
              go_wp2
              try rw [Exit.noGoto_ret]
              go_ret
              exact ⟨rfl, HB9.out⟩
            · have u2 : decide ((d2 : Int) > 6) = false := decide_eq_false (by omega)
              go_wp2_with fail
              ((with_reducible refine (HC1.out _ HS.out.T1).mono ?_); rintro e w5 ⟨rfl, hb5⟩)
              have HS' := hidE (HS.out.past hb5)
              clear HS hb5 x0 x1 x2 xz y0 y1 y2 yz
              have HS := HS'
              clear HS'
              have x0 := HS.out.d1.cell 0; have x1 := HS.out.d1.cell 1; have x2 := HS.out.d1.cell 2; have xz := HS.out.d1.lt; have y0 := HS.out.d2.cell 0; have y1 := HS.out.d2.cell 1; have y2 := HS.out.d2.cell 2; have yz := HS.out.d2.lt
              simp at x0 x1 x2 y0 y1 y2
              go_wp2_with fail
              ((with_reducible refine (HC2.out _ HS.out.T2).mono ?_); rintro e w5 ⟨rfl, hb5⟩)
              have HS' := hidE (HS.out.past hb5)
              clear HS hb5 x0 x1 x2 xz y0 y1 y2 yz
              have HS := HS'
              clear HS'
              have x0 := HS.out.d1.cell 0; have x1 := HS.out.d1.cell 1; have x2 := HS.out.d1.cell 2; have xz := HS.out.d1.lt; have y0 := HS.out.d2.cell 0; have y1 := HS.out.d2.cell 1; have y2 := HS.out.d2.cell 2; have yz := HS.out.d2.lt
              simp at x0 x1 x2 y0 y1 y2
              go_wp2
              go_roundg (n1 + n2 - (i + 1))
              case measure => have := HGH.out; omega
              case rel =>
                refine ⟨i + 1, by go_num, Nat.le_refl _, by omega, fun j hj hj2 => ?_, fun j hj hj2 => ?_, HS.out⟩
                · by_cases c : j < i
                  · exact HD1.out j c hj2
                  · rw [show j = i by omega, HE1.out]; omega
                · by_cases c : j < i
                  · exact HD2.out j c hj2
                  · rw [show j = i by omega, HE2.out]; omega
          · have s2 : decide ((i : Int) < (n2 : Int)) = false := decide_eq_false (by omega)
            go_wp2_with fail
            ((with_reducible refine (HC1.out _ HS.out.T1).mono ?_); rintro e w5 ⟨rfl, hb5⟩)
            have HS' := hidE (HS.out.past hb5)
            clear HS hb5 x0 x1 x2 xz y0 y1 y2 yz
            have HS := HS'
            clear HS'
            have x0 := HS.out.d1.cell 0; have x1 := HS.out.d1.cell 1; have x2 := HS.out.d1.cell 2; have xz := HS.out.d1.lt; have y0 := HS.out.d2.cell 0; have y1 := HS.out.d2.cell 1; have y2 := HS.out.d2.cell 2; have yz := HS.out.d2.lt
            simp at x0 x1 x2 y0 y1 y2
            go_wp2
            go_roundg (n1 + n2 - (i + 1))
            case measure => have := HGH.out; omega
            case rel =>
              refine ⟨i + 1, by go_num, Nat.le_refl _, by omega, fun j hj hj2 => ?_, fun j hj hj2 => ?_, HS.out⟩
              · by_cases c : j < i
                · exact HD1.out j c hj2
                · rw [show j = i by omega, HE1.out]; omega
              · by_cases c : j < i
                · exact HD2.out j c hj2
                · omega
    · exfalso
      rcases HDEEP.out with ⟨j, hj, h⟩ | ⟨j, hj, h⟩
      · have := HD1.out j (by omega) hj; omega
      · have := HD2.out j (by omega) hj; omega
/-- The statements from a region on. -/
def sufC (id : Nat) : Code → Option Code
  | .seq a b => match sufC id a with
    | some a' => some (.seq a' b)
    | none => sufC id b
  | .region i o d => if i = id then some (.region i o d) else none
  | _ => none
set_option maxRecDepth 100000 in
set_option maxHeartbeats 8000000 in
theorem alike_tail {f1 t1 f2 t2 kd : Int} {l1 l2 : List Prt} {n1 c1 n2 c2 b1 o1 b2 o2 k p18 : Nat} {W wc : World} {F G : Fst} {y z : Prt} {K L : Fst} {p q : Tm} {a5 : Option Addr} {c5 : Nat} {x0 x1 x5 x6 x7 x8 x9 x10 x11 x12 x13 x14 x15 x16 x17 x19 x20 x21 x22 x23 x24 x25 x26 x27 x28 x29 x30 x31 x32 x33 x34 x35 x36 x37 x38 x39 x40 x41 x42 x43 x44 x45 x46 x47 x48 x49 x50 x51 x52 x53 x54 x55 x56 x57 x58 x59 x60 x61 x62 x63 x64 x65 x66 x67 x68 x69 x70 x71 x72 x73 x74 x75 x76 x77 x78 x79 x80 x81 x82 x83 x84 x85 x86 x87 x88 x89 x90 x91 x92 x93 x94 x95 x96 x97 x98 x99 x100 x101 x102 x103 x104 x105 x106 x107 x108 x109 x110 x111 x112 x113 x114 x115 x116 x117 x118 x119 x120 x121 x122 x123 x124 x125 x126 x127 x128 x129 x130 x131 x132 x133 x134 x135 x136 x137 x138 x139 x140 x141 x142 x143 x144 x145 x146 x147 x148 x149 x150 x151 x152 x153 x154 x155 x156 x157 x158 x159 x160 x161 x162 x163 x164 x165 x166 x167 x168 x169 x170 x171 x172 x173 x174 x175 x176 x177 x178 x179 x180 x181 x182 x183 x184 x185 x186 x187 x188 x189 x190 x191 x192 x193 x194 x195 x196 x197 x198 x199 x200 x201 x202 x203 x204 x205 x206 x207 x208 x209 x210 x211 : Value} (c : Code) (hc : (Tryz.f3.body.bind (sufC 19)) = some c) (HTAB : Hid (Tab W)) (HN1 : Hid (n1 = l1.length)) (HN2 : Hid (n2 = l2.length)) (HFF : Hid (Fine f1 t1 F)) (HFG : Hid (Fine f2 t2 G)) (HFl : Hid (l1 = F.flat)) (HGl : Hid (l2 = G.flat)) (HZF : Hid (F.size = n1)) (HZG : Hid (G.size = n2)) (HDF : Hid (F.depth ≤ 6)) (HDG : Hid (G.depth ≤ 6)) (HF0 : Hid (F = .cons y K .nil)) (HG0 : Hid (G = .cons z L .nil)) (HPp : Hid (Pn y K p)) (HPq : Hid (Pn z L q)) (HKK : Hid (1 ≤ k ∧ k ≤ 4 ∧ (k = 2 → y.kind = 0))) (hn0 : 0 < n1) (hn02 : 0 < n2) (h3 : n1 ≤ 30) (h4 : n2 ≤ 30) (hk : 0 ≤ kd ∧ kd ≤ 255) (hS5 : A2 W f1 t1 (some ⟨b1, o1, none⟩) l1 n1 c1 f2 t2 (some ⟨b2, o2, none⟩) l2 n2 c2 wc) (hB5 : Blk wc p18 #[.int .i64 f1, .int .i64 t1, .slice a5 (1 + n1) c5] 24) (hA5 : ArgP wc a5 (⟨k, 0, 0, 0, 1⟩ :: l1)) :
    c.wp Tryz.prog (bodyPost Tryz.prog Tryz.f3 fun e w' => e = .returned (.bool true) ∧ Below W.heap.size W w') { tmps := #[x0, x1, .int .u8 kd, .pointer (some ⟨W.heap.size, 0, none⟩), .pointer (some ⟨W.heap.size + 1, 0, none⟩), x5, x6, x7, x8, x9, x10, x11, x12, x13, x14, x15, x16, x17, .pointer (some ⟨p18, 0, none⟩), x19, x20, x21, x22, x23, x24, x25, x26, x27, x28, x29, x30, x31, x32, x33, x34, x35, x36, x37, x38, x39, x40, x41, x42, x43, x44, x45, x46, x47, x48, x49, x50, x51, x52, x53, x54, x55, x56, x57, x58, x59, x60, x61, x62, x63, x64, x65, x66, x67, x68, x69, x70, x71, x72, x73, x74, x75, x76, x77, x78, x79, x80, x81, x82, x83, x84, x85, x86, x87, x88, x89, x90, x91, x92, x93, x94, x95, x96, x97, x98, x99, x100, x101, x102, x103, x104, x105, x106, x107, x108, x109, x110, x111, x112, x113, x114, x115, x116, x117, x118, x119, x120, x121, x122, x123, x124, x125, x126, x127, x128, x129, x130, x131, x132, x133, x134, x135, x136, x137, x138, x139, x140, x141, x142, x143, x144, x145, x146, x147, x148, x149, x150, x151, x152, x153, x154, x155, x156, x157, x158, x159, x160, x161, x162, x163, x164, x165, x166, x167, x168, x169, x170, x171, x172, x173, x174, x175, x176, x177, x178, x179, x180, x181, x182, x183, x184, x185, x186, x187, x188, x189, x190, x191, x192, x193, x194, x195, x196, x197, x198, x199, x200, x201, x202, x203, x204, x205, x206, x207, x208, x209, x210, x211], defers := [] } wc := by
  simp only [sufC, Option.bind, Tryz.f3, Option.some.injEq, reduceIte, Nat.reduceEqDiff] at hc
  subst hc
  obtain ⟨iP, hiP, hP0, hP1, hP2⟩ := info_parts Tryz.infoPart
  have HIP := hidE hiP; have HP0 := hidE hP0; have HP1 := hidE hP1; have HP2 := hidE hP2
  have HPZ : True := trivial
  have HOFK : True := trivial
  clear hiP hP0 hP1 hP2
  have HPX := hidE hB5; have HA5 := hidE hA5; have HS := hidE hS5
  clear hB5 hA5 hS5
  have hlenF : F.flat.length = n1 := by rw [flat_len]; exact HZF.out
  have hlenG : G.flat.length = n2 := by rw [flat_len]; exact HZG.out
  have hyk2 : ∀ t ∈ toL F, k = 2 → t.1.kind = 0 := fun t ht e => by
    rw [HF0.out] at ht
    simp [toL] at ht
    rw [ht]; exact HKK.out.2.2 e
  have hsz1 : F.size ≤ 60 := by rw [HZF.out]; omega
  have NS1 := hidE (fun (V : World) (a6 : Option Addr) (c6 : Nat) (h : ArgP V (some ⟨b1, o1, none⟩) l1) (h6 : ArgP V a6 (⟨k, 0, 0, 0, 1⟩ :: l1)) (hT : Tab V) => show Calls Tryz.prog 11 #[defV f1 t1 (some ⟨b1, o1, none⟩) n1 c1, defV f1 t1 a6 (1 + n1) c6] V (fun e w' => e = .returned (.tuple #[.bool true, .int .i64 0]) ∧ Below V.heap.size V w') from by
    have hflat := oneF_flat k HFF.out.len
    have := nsame_c f1 t1 f1 t1 F (oneF k F) (some ⟨b1, o1, none⟩) a6 c1 c6 n1 (1 + n1) hlenF.symm (by rw [hflat, List.length_cons, hlenF]; omega) V HFF.out (fine_one HFF.out HKK.out.1 HKK.out.2.1 (fun e t ht => hyk2 t ht e) hsz1 HDF.out) (by rw [← HFl.out]; exact h) (by rw [hflat, ← HFl.out]; exact h6) hT
    rw [show sameD ⟨f1, t1, (plainF (lab F 0)).flat⟩ ⟨f1, t1, (plainF (lab (oneF k F) 0)).flat⟩ = true from by
      rw [plain_lab_flat HFF.out.kok, plain_lab_flat (fine_one HFF.out HKK.out.1 HKK.out.2.1 (fun e t ht => hyk2 t ht e) hsz1 HDF.out).kok, HF0.out, same_one k HPp.out]
      exact decide_eq_true rfl] at this
    exact this)
  clear hyk2
  have x0 := HS.out.d1.cell 0; have x1 := HS.out.d1.cell 1; have x2 := HS.out.d1.cell 2; have xz := HS.out.d1.lt; have y0 := HS.out.d2.cell 0; have y1 := HS.out.d2.cell 1; have y2 := HS.out.d2.cell 2; have yz := HS.out.d2.lt
  simp at x0 x1 x2 y0 y1 y2
  have px0 := HPX.out.cell 0; have px1 := HPX.out.cell 1; have px2 := HPX.out.cell 2; have pxz := HPX.out.lt
  simp at px0 px1 px2
  go_wp2_with fail
  ((with_reducible refine (NS1.out _ _ _ HS.out.T1 HA5.out (HTAB.out.past HS.out.bel)).mono ?_); rintro e w11 ⟨rfl, hb11⟩)
  have HS' := hidE (HS.out.past hb11)
  clear HS HPX HA5 NS1 hb11 px0 px1 px2 pxz x0 x1 x2 xz y0 y1 y2 yz
  have HS := HS'
  clear HS'
  have x0 := HS.out.d1.cell 0; have x1 := HS.out.d1.cell 1; have x2 := HS.out.d1.cell 2; have xz := HS.out.d1.lt; have y0 := HS.out.d2.cell 0; have y1 := HS.out.d2.cell 1; have y2 := HS.out.d2.cell 2; have yz := HS.out.d2.lt
  simp at x0 x1 x2 y0 y1 y2
  go_upto_region 21 with fail
  clear HPZ HOFK
  obtain ⟨wy, hwy⟩ : ∃ wx, wx = w11.alloc (.cells #[.int .i64 f1, .int .i64 t1, .slice (some ⟨b1, o1, none⟩) n1 c1] 24) := ⟨_, rfl⟩
  have hby : Below w11.heap.size w11 wy := by rw [hwy]; (repeat (first | exact Below.refl _ _ | assumption | refine balloc ?_ _ | refine below_drewN ?_ _ | refine bstep (by assumption) ?_ | refine bstep (Past.prop _) ?_ | refine Below.setCell ?_ (by first | exact Nat.le_refl _ | (simp; done) | (simp; omega)) _))
  have hPq : Blk wy w11.heap.size #[.int .i64 f1, .int .i64 t1, .slice (some ⟨b1, o1, none⟩) n1 c1] 24 := by rw [hwy]; exact Blk.made _ _ _
  have hqz : W.heap.size + 2 ≤ w11.heap.size := by have := HS.out.d2.lt; omega
  rw [← hwy]
  obtain ⟨p22, hq⟩ : ∃ p, p = w11.heap.size := ⟨_, rfl⟩
  rw [← hq] at hPq hqz
  rw [← hq]
  have HPX := hidE hPq; have HPZ := hidE hqz
  have HS' := hidE (HS.out.past hby)
  clear HS hby hwy hPq hq hqz x0 x1 x2 xz y0 y1 y2 yz
  have HS := HS'
  clear HS'
  obtain ⟨wc, hwc⟩ : ∃ wc, wc = wy := ⟨_, rfl⟩
  rw [← hwc] at HS HPX
  rw [← hwc]
  clear hwc
  have HOFK := hidE (fun V : World => show Calls Tryz.prog 10 #[.int .u8 3, .int .i64 2] V _ from ofl9_3_2 V)
  go_cut [] (fun wz => ((∃ (a5 : Option Addr) (c5 : Nat), Blk wz p22 #[.int .i64 f1, .int .i64 t1, .slice a5 (1 + n1 + n1) c5] 24 ∧ ArgP wz a5 (⟨3, 0, 0, 0, 2⟩ :: (l1 ++ l1)) ∧ (∀ xx, a5 = some xx → xx.block ≠ p22)) ∧ A2 W f1 t1 (some ⟨b1, o1, none⟩) l1 n1 c1 f2 t2 (some ⟨b2, o2, none⟩) l2 n2 c2 wz))
  case first =>
    have x0 := HS.out.d1.cell 0; have x1 := HS.out.d1.cell 1; have x2 := HS.out.d1.cell 2; have xz := HS.out.d1.lt; have y0 := HS.out.d2.cell 0; have y1 := HS.out.d2.cell 1; have y2 := HS.out.d2.cell 2; have yz := HS.out.d2.lt
    simp at x0 x1 x2 y0 y1 y2
    have SR1 := hidE (srcV_P (cap := c1) HS.out.T1 HN1.out.symm hn0)
    have SR2 := hidE (srcV_P (cap := c2) HS.out.T2 HN2.out.symm hn02)
    have HOK : ApOk (fun i => ([some (prtV ⟨3, 0, 0, 0, 2⟩), none, some (.pointer (some ⟨W.heap.size, 2, none⟩)), some (.slice (some ⟨b1, o1, none⟩) n1 c1), none, some (.pointer (some ⟨W.heap.size, 2, none⟩)), some (.slice (some ⟨b1, o1, none⟩) n1 c1), none, some (.pointer (some ⟨p22, 2, none⟩))] : List (Option Value)).getD i none) 1 4 7 := ⟨by decide, rfl, rfl, rfl⟩
    refine wp_region_C 9 (ApI 35 5 wc (fun i => ([some (prtV ⟨3, 0, 0, 0, 2⟩), none, some (.pointer (some ⟨W.heap.size, 2, none⟩)), some (.slice (some ⟨b1, o1, none⟩) n1 c1), none, some (.pointer (some ⟨W.heap.size, 2, none⟩)), some (.slice (some ⟨b1, o1, none⟩) n1 c1), none, some (.pointer (some ⟨p22, 2, none⟩))] : List (Option Value)).getD i none) 1 4 7 1 n1 n1 (cellsOfP [⟨3, 0, 0, 0, 2⟩]) (cellsOfP l1) (cellsOfP l1)) (by kernel_rfl) (by simp) (by kernel_rfl) (apI_start (Below.refl _ _).drew) ?_ ?_
    · intro i o hi ho
      match i, hi with
      | 0, _ =>
        have eo := Option.some.inj ho
        have hg : o.guard = none := by rw [← eo]
        refine cstep_evF hg ?_
        intro E L u w9 E1 E0 EC EF hl hw hI
        subst eo
        have e : True := trivial
        refine gives_call (f := 10) (args := #[.int .u8 3, .int .i64 2]) (w' := w9) (by simp [execOp, go_sem, EC, EF]) (HOFK.out w9) (fun e w2 q => by obtain ⟨rfl, hb⟩ := q; exact ⟨_, rfl, hI.ndet HOK rfl hb⟩)
      | 1, _ =>
        have eo := Option.some.inj ho
        have hg : o.guard = none := by rw [← eo]
        refine cstep_evF hg ?_
        intro E L u w9 E1 E0 EC EF hl hw hI
        subst eo
        have e := (E1 144 0 (by kernel_rfl) (by simp)).trans (hI.det 0 _ rfl (hw 0 (by decide) (by kernel_rfl)))
        refine gives_ok (v := .slice (some ⟨w9.heap.size, 0, none⟩) 1 1) (w' := w9.alloc (.cells #[.int .u8 3, .int .u32 0, .int .u32 0, .int .i64 0, .int .i64 2] 35)) (by simp [execOp, go_sem, e]) ?_
        exact hI.nbuild HOK hl (own_blkP (x := ⟨3, 0, 0, 0, 2⟩) (Blk.made _ _ _) hI.bel.size) ((Below.refl _ w9).alloc (Nat.le_refl _) _)
      | 2, _ =>
        have eo := Option.some.inj ho
        have hg : o.guard = none := by rw [← eo]
        refine cstep_evF hg ?_
        intro E L u w9 E1 E0 EC EF hl hw hI
        subst eo
        have e := (E0 3 (by kernel_rfl)).trans (show _ = Value.pointer (some ⟨W.heap.size, 0, none⟩) from rfl)
        refine gives_ok (v := .pointer (some ⟨W.heap.size, 2, none⟩)) (w' := w9) (by simp [execOp, go_sem, e]) ?_
        exact hI.ndet HOK rfl (Below.refl _ _)
      | 3, _ =>
        have eo := Option.some.inj ho
        have hg : o.guard = none := by rw [← eo]
        refine cstep_evF hg ?_
        intro E L u w9 E1 E0 EC EF hl hw hI
        subst eo
        have e := (E1 146 2 (by kernel_rfl) (by simp)).trans (hI.det 2 _ rfl (hw 2 (by decide) (by kernel_rfl)))
        have c := (hI.bel.cell (p := ⟨W.heap.size, 2, none⟩) xz).trans x2
        refine gives_ok (v := .slice (some ⟨b1, o1, none⟩) n1 c1) (w' := w9) (by simp [execOp, go_sem, e, c]) ?_
        exact hI.ndet HOK rfl (Below.refl _ _)
      | 4, _ =>
        have eo := Option.some.inj ho
        have hg : o.guard = none := by rw [← eo]
        refine cstep_evF hg ?_
        intro E L u w9 E1 E0 EC EF hl hw hI
        subst eo
        have e := E1 145 1 (by kernel_rfl) (by simp)
        have e2 := (E1 147 3 (by kernel_rfl) (by simp)).trans (hI.det 3 _ rfl (hw 3 (by decide) (by kernel_rfl)))
        have hpw := hw 1 (by decide) (by kernel_rfl)
        refine gives_appV (.tmp 145) (.tmp 147) 22 rfl wc.heap.size 35 iP _ 5 32 Tryz.underlying22 HIP.out HP0.out HP1.out HP2.out rfl (by decide) 1 (cellsOfP [⟨3, 0, 0, 0, 2⟩]) (by rw [e]; exact hI.rB hpw hl) n1 (cellsOfP l1) (by rw [e2]; exact srcV_pastN SR1.out hI.bel) (by omega) (by omega) hI.bel.size ?_
        intro v' w' ho hg
        rw [e] at hg
        exact hI.napp1 HOK hl hpw ho hg
      | 5, _ =>
        have eo := Option.some.inj ho
        have hg : o.guard = none := by rw [← eo]
        refine cstep_evF hg ?_
        intro E L u w9 E1 E0 EC EF hl hw hI
        subst eo
        have e := (E0 3 (by kernel_rfl)).trans (show _ = Value.pointer (some ⟨W.heap.size, 0, none⟩) from rfl)
        refine gives_ok (v := .pointer (some ⟨W.heap.size, 2, none⟩)) (w' := w9) (by simp [execOp, go_sem, e]) ?_
        exact hI.ndet HOK rfl (Below.refl _ _)
      | 6, _ =>
        have eo := Option.some.inj ho
        have hg : o.guard = none := by rw [← eo]
        refine cstep_evF hg ?_
        intro E L u w9 E1 E0 EC EF hl hw hI
        subst eo
        have e := (E1 149 5 (by kernel_rfl) (by simp)).trans (hI.det 5 _ rfl (hw 5 (by decide) (by kernel_rfl)))
        have c := (hI.bel.cell (p := ⟨W.heap.size, 2, none⟩) xz).trans x2
        refine gives_ok (v := .slice (some ⟨b1, o1, none⟩) n1 c1) (w' := w9) (by simp [execOp, go_sem, e, c]) ?_
        exact hI.ndet HOK rfl (Below.refl _ _)
      | 7, _ =>
        have eo := Option.some.inj ho
        have hg : o.guard = none := by rw [← eo]
        refine cstep_evF hg ?_
        intro E L u w9 E1 E0 EC EF hl hw hI
        subst eo
        have e := E1 148 4 (by kernel_rfl) (by simp)
        have e2 := (E1 150 6 (by kernel_rfl) (by simp)).trans (hI.det 6 _ rfl (hw 6 (by decide) (by kernel_rfl)))
        have hpw := hw 4 (by decide) (by kernel_rfl)
        refine gives_appV (.tmp 148) (.tmp 150) 22 rfl wc.heap.size 35 iP _ 5 32 Tryz.underlying22 HIP.out HP0.out HP1.out HP2.out rfl (by decide) (1 + n1) (cellsOfP [⟨3, 0, 0, 0, 2⟩] ++ cellsOfP l1) (by rw [e]; exact hI.r1 hpw hl) n1 (cellsOfP l1) (by rw [e2]; exact srcV_pastN SR1.out hI.bel) (by omega) (by omega) hI.bel.size ?_
        intro v' w' ho hg
        rw [e] at hg
        exact hI.napp2 HOK hl hpw ho hg
      | 8, _ =>
        have eo := Option.some.inj ho
        have hg : o.guard = none := by rw [← eo]
        refine cstep_evF hg ?_
        intro E L u w9 E1 E0 EC EF hl hw hI
        subst eo
        have e := (E0 22 (by kernel_rfl)).trans (show _ = Value.pointer (some ⟨p22, 0, none⟩) from rfl)
        refine gives_ok (v := .pointer (some ⟨p22, 2, none⟩)) (w' := w9) (by simp [execOp, go_sem, e]) ?_
        exact hI.ndet HOK rfl (Below.refl _ _)
      | i + 9, h => exact absurd h (by omega)
    · intro L u w9 hall hI
      have eZ := hI.det 8 _ rfl (hall 8 (by decide))
      have ho := hI.r2 (hall 7 (by decide))
      obtain ⟨a6, c6, e6⟩ := own_sli ho
      rw [e6] at ho
      have hb9 := hI.bel
      have hp9 := HPX.out.past hb9
      have hq9 := hp9.lt; have hf9 := hp9.free 2; have hc9 := hp9.cell 2
      simp at hc9
      simp only [frm, List.take, Act.put, eZ, e6]
      have HO := hidE ho; have HPP := hidE hp9; have HBW := hidE hb9
      clear eZ e6 ho hp9 hb9 hI hall HOK x0 x1 x2 xz y0 y1 y2 yz
      go_wp2
      go_meet
      case rel =>
        exact app_end (l := [⟨3, 0, 0, 0, 2⟩] ++ l1 ++ l1) (tot := 1 + n1 + n1) (by have hl1 := HN1.out; have hl2 := HN2.out; simp only [List.length_append, List.length_cons, List.length_nil]; omega) HO.out (by simp only [cellsOfP_app]) HPP.out HPX.out.lt HPZ.out HS.out HBW.out (by simp) HPX.out.lt
  case rest =>
  obtain ⟨⟨a5, c5, hB5, hA5, hN5⟩, hS5⟩ := hcut
  clear HS HPX
  have HPX := hidE hB5; have HA5 := hidE hA5; have HS := hidE hS5
  clear hB5 hA5 hS5 hN5
  have hdF : (Fst.cons y K .nil).depth ≤ 6 := by rw [← HF0.out]; exact HDF.out
  have hdG : (Fst.cons z L .nil).depth ≤ 6 := by rw [← HG0.out]; exact HDG.out
  have hzF : (Fst.cons y K .nil).size ≤ 30 := by rw [← HF0.out, HZF.out]; exact h3
  have hzG : (Fst.cons z L .nil).size ≤ 30 := by rw [← HG0.out, HZG.out]; exact h4
  have hfF : Fine f1 t1 (Fst.cons y K .nil) := by rw [← HF0.out]; exact HFF.out
  have hfG : Fine f2 t2 (Fst.cons z L .nil) := by rw [← HG0.out]; exact HFG.out
  have he1 : (Fst.cons y K .nil).flat = l1 := by rw [← HF0.out]; exact HFl.out.symm
  have he2 : (Fst.cons z L .nil).flat = l2 := by rw [← HG0.out]; exact HGl.out.symm
  have hsT : ∀ (X Y : Fst), plainF X = plainF Y → X.kok → Y.kok → sameD ⟨f1, t1, (plainF (lab X 0)).flat⟩ ⟨f1, t1, (plainF (lab Y 0)).flat⟩ = true := fun X Y h hx hy => by
    rw [plain_lab_flat hx, plain_lab_flat hy, h]; exact decide_eq_true rfl
  have NS2 := hidE (fun (V : World) (a6 : Option Addr) (c6 : Nat) (h : ArgP V (some ⟨b1, o1, none⟩) l1) (h6 : ArgP V a6 (⟨3, 0, 0, 0, 2⟩ :: (l1 ++ l1))) (hT : Tab V) => show Calls Tryz.prog 11 #[defV f1 t1 (some ⟨b1, o1, none⟩) n1 c1, defV f1 t1 a6 (1 + n1 + n1) c6] V (fun e w' => e = .returned (.tuple #[.bool true, .int .i64 0]) ∧ Below V.heap.size V w') from by
    have hflat := twoF_flat 3 y y K K
    rw [he1] at hflat
    have hfine := fine_two hfF hfF hfF (.inl rfl) hzF hzF hdF hdF
    have := nsame_c f1 t1 f1 t1 (Fst.cons y K .nil) (twoF 3 y K (.cons y K .nil)) (some ⟨b1, o1, none⟩) a6 c1 c6 n1 (1 + n1 + n1) (by rw [he1]; exact HN1.out) (by rw [hflat, List.length_cons, List.length_append, ← HN1.out]; omega) V hfF hfine (by rw [he1]; exact h) (by rw [hflat]; exact h6) hT
    rw [hsT _ _ (same_twice HPp.out).symm hfF.kok hfine.kok] at this
    exact this)
  have NS3 := hidE (fun (k2 : Nat) (hk2 : k2 = 3 ∨ k2 = 4) (V : World) (a6 a7 : Option Addr) (c6 c7 : Nat) (h6 : ArgP V a6 (⟨k2, 0, 0, 0, 2⟩ :: (l1 ++ l2))) (h7 : ArgP V a7 (⟨k2, 0, 0, 0, 2⟩ :: (l2 ++ l1))) (hT : Tab V) => show Calls Tryz.prog 11 #[defV f1 t1 a6 (1 + n1 + n2) c6, defV f1 t1 a7 (1 + n2 + n1) c7] V (fun e w' => e = .returned (.tuple #[.bool true, .int .i64 0]) ∧ Below V.heap.size V w') from by
    have hflat := twoF_flat k2 y z K L
    have hflat2 := twoF_flat k2 z y L K
    rw [he1, he2] at hflat hflat2
    have hfine := fine_two hfF hfF hfG hk2 hzF hzG hdF hdG
    have hfine2 := fine_two hfF hfG hfF hk2 hzG hzF hdG hdF
    have := nsame_c f1 t1 f1 t1 (twoF k2 y K (.cons z L .nil)) (twoF k2 z L (.cons y K .nil)) a6 a7 c6 c7 (1 + n1 + n2) (1 + n2 + n1) (by rw [hflat, List.length_cons, List.length_append, ← HN1.out, ← HN2.out]; omega) (by rw [hflat2, List.length_cons, List.length_append, ← HN1.out, ← HN2.out]; omega) V hfine hfine2 (by rw [hflat]; exact h6) (by rw [hflat2]; exact h7) hT
    rw [hsT _ _ (same_swap HPp.out HPq.out hk2) hfine.kok hfine2.kok] at this
    exact this)
  clear hdF hdG hzF hzG hfF hfG he1 he2 hsT HOFK HPZ hlenF hlenG
  have x0 := HS.out.d1.cell 0; have x1 := HS.out.d1.cell 1; have x2 := HS.out.d1.cell 2; have xz := HS.out.d1.lt; have y0 := HS.out.d2.cell 0; have y1 := HS.out.d2.cell 1; have y2 := HS.out.d2.cell 2; have yz := HS.out.d2.lt
  simp at x0 x1 x2 y0 y1 y2
  have px0 := HPX.out.cell 0; have px1 := HPX.out.cell 1; have px2 := HPX.out.cell 2; have pxz := HPX.out.lt
  simp at px0 px1 px2
  go_wp2_with fail
  ((with_reducible refine (NS2.out _ _ _ HS.out.T1 HA5.out (HTAB.out.past HS.out.bel)).mono ?_); rintro e w12 ⟨rfl, hb11⟩)
  have HS' := hidE (HS.out.past hb11)
  clear HS HPX HA5 NS2 hb11 px0 px1 px2 pxz x0 x1 x2 xz y0 y1 y2 yz
  have HS := HS'
  clear HS'
  have x0 := HS.out.d1.cell 0; have x1 := HS.out.d1.cell 1; have x2 := HS.out.d1.cell 2; have xz := HS.out.d1.lt; have y0 := HS.out.d2.cell 0; have y1 := HS.out.d2.cell 1; have y2 := HS.out.d2.cell 2; have yz := HS.out.d2.lt
  simp at x0 x1 x2 y0 y1 y2
  go_upto_region 23 with fail
  go_cut [25] from 159 to 161 (fun v25 wy => ∃ k2 : Nat, v25 = .int .u8 k2 ∧ (k2 = 3 ∨ k2 = 4) ∧ wy = w12)
  case first =>
    rcases (show kd % 2 = 0 ∨ kd % 2 = 1 by omega) with h | h
    · have m1 : Int.tmod kd 2 = 0 := by rw [Int.tmod_eq_emod_of_nonneg hk.1]; exact h
      go_wp2
      go_meet
      case rel => exact ⟨3, by first | rfl | simp, by omega, rfl⟩
    · have m1 : Int.tmod kd 2 = 1 := by rw [Int.tmod_eq_emod_of_nonneg hk.1]; exact h
      go_wp2
      go_meet
      case rel => exact ⟨4, by first | rfl | simp, by omega, rfl⟩
  case rest =>
  obtain ⟨k2, rfl, hk2, hwy⟩ := hcut
  subst hwy
  go_upto_region 24 with fail
  have HWZ := hidE (show W.heap.size + 2 ≤ wc.heap.size from by have := HS.out.d2.lt; omega)
  go_cut [26, 27] (fun v26 v27 wz => ∃ p26 p27 : Nat, v26 = .pointer (some ⟨p26, 0, none⟩) ∧ v27 = .pointer (some ⟨p27, 0, none⟩) ∧ Blk wz p26 #[.int .i64 f1, .int .i64 t1, .slice (some ⟨b1, o1, none⟩) n1 c1] 24 ∧ Blk wz p27 #[.int .i64 f1, .int .i64 t1, .slice (some ⟨b1, o1, none⟩) n1 c1] 24 ∧ p26 ≠ p27 ∧ W.heap.size + 2 ≤ p26 ∧ W.heap.size + 2 ≤ p27 ∧ A2 W f1 t1 (some ⟨b1, o1, none⟩) l1 n1 c1 f2 t2 (some ⟨b2, o2, none⟩) l2 n2 c2 wz)
  case first =>
    go_region
    all_goals
      go_wp2_with fail
      go_meet
      case rel =>
        have hz := HWZ.out
        first
        | exact ⟨_, _, rfl, rfl, blk_drw9 ((Blk.made _ _ _).alloc _), blk_drw9 (Blk.made_at _ _ _ _ (by simp)), by omega, by omega, by omega, HS.out.past (by (repeat (first | exact Below.refl _ _ | assumption | refine balloc ?_ _ | refine below_drewN ?_ _ | refine bstep (by assumption) ?_ | refine bstep (Past.prop _) ?_ | refine Below.setCell ?_ (by first | exact Nat.le_refl _ | (simp; done) | (simp; omega)) _)))⟩
        | exact ⟨_, _, rfl, rfl, blk_drw9 (Blk.made_at _ _ _ _ (by simp)), blk_drw9 ((Blk.made _ _ _).alloc _), by omega, by omega, by omega, HS.out.past (by (repeat (first | exact Below.refl _ _ | assumption | refine balloc ?_ _ | refine below_drewN ?_ _ | refine bstep (by assumption) ?_ | refine bstep (Past.prop _) ?_ | refine Below.setCell ?_ (by first | exact Nat.le_refl _ | (simp; done) | (simp; omega)) _)))⟩
  case rest =>
  obtain ⟨p26, p27, rfl, rfl, hP26, hP27, hne, hz26, hz27, hS5⟩ := hcut
  clear HS HWZ x0 x1 x2 xz y0 y1 y2 yz
  have HPX := hidE hP26; have HPY := hidE hP27; have HNE := hidE hne; have HPZ := hidE hz26; have HPZ2 := hidE hz27; have HS := hidE hS5
  have HK2 := hidE hk2
  have HOFK := hidE (fun V : World => show Calls Tryz.prog 10 #[.int .u8 k2, .int .i64 2] V _ from ofl9_c k2 2 V)
  clear hP26 hP27 hne hz26 hz27 hS5 hk2
  go_upto_region 25 with fail
  go_cut [] (fun wz => ((∃ (a5 : Option Addr) (c5 : Nat), Blk wz p26 #[.int .i64 f1, .int .i64 t1, .slice a5 (1 + n1 + n2) c5] 24 ∧ ArgP wz a5 (⟨k2, 0, 0, 0, 2⟩ :: (l1 ++ l2)) ∧ (∀ xx, a5 = some xx → xx.block ≠ p27)) ∧ A2 W f1 t1 (some ⟨b1, o1, none⟩) l1 n1 c1 f2 t2 (some ⟨b2, o2, none⟩) l2 n2 c2 wz) ∧ Blk wz p27 #[.int .i64 f1, .int .i64 t1, .slice (some ⟨b1, o1, none⟩) n1 c1] 24)
  case first =>
    have x0 := HS.out.d1.cell 0; have x1 := HS.out.d1.cell 1; have x2 := HS.out.d1.cell 2; have xz := HS.out.d1.lt; have y0 := HS.out.d2.cell 0; have y1 := HS.out.d2.cell 1; have y2 := HS.out.d2.cell 2; have yz := HS.out.d2.lt
    simp at x0 x1 x2 y0 y1 y2
    have SR1 := hidE (srcV_P (cap := c1) HS.out.T1 HN1.out.symm hn0)
    have SR2 := hidE (srcV_P (cap := c2) HS.out.T2 HN2.out.symm hn02)
    have HOK : ApOk (fun i => ([some (.int .u8 k2), some (prtV ⟨k2, 0, 0, 0, 2⟩), none, some (.pointer (some ⟨W.heap.size, 2, none⟩)), some (.slice (some ⟨b1, o1, none⟩) n1 c1), none, some (.pointer (some ⟨W.heap.size + 1, 2, none⟩)), some (.slice (some ⟨b2, o2, none⟩) n2 c2), none, some (.pointer (some ⟨p26, 2, none⟩))] : List (Option Value)).getD i none) 2 5 8 := ⟨by decide, rfl, rfl, rfl⟩
    refine wp_region_C 10 (ApI 35 5 wc (fun i => ([some (.int .u8 k2), some (prtV ⟨k2, 0, 0, 0, 2⟩), none, some (.pointer (some ⟨W.heap.size, 2, none⟩)), some (.slice (some ⟨b1, o1, none⟩) n1 c1), none, some (.pointer (some ⟨W.heap.size + 1, 2, none⟩)), some (.slice (some ⟨b2, o2, none⟩) n2 c2), none, some (.pointer (some ⟨p26, 2, none⟩))] : List (Option Value)).getD i none) 2 5 8 1 n1 n2 (cellsOfP [⟨k2, 0, 0, 0, 2⟩]) (cellsOfP l1) (cellsOfP l2)) (by kernel_rfl) (by simp) (by kernel_rfl) (apI_start (Below.refl _ _).drew) ?_ ?_
    · intro i o hi ho
      match i, hi with
      | 0, _ =>
        have eo := Option.some.inj ho
        have hg : o.guard = none := by rw [← eo]
        refine cstep_evF hg ?_
        intro E L u w9 E1 E0 EC EF hl hw hI
        subst eo
        have e := (E0 25 (by kernel_rfl)).trans (show _ = Value.int .u8 k2 from rfl)
        refine gives_ok (v := .int .u8 k2) (w' := w9) (by simp [execOp, go_sem, e]) ?_
        exact hI.ndet HOK rfl (Below.refl _ _)
      | 1, _ =>
        have eo := Option.some.inj ho
        have hg : o.guard = none := by rw [← eo]
        refine cstep_evF hg ?_
        intro E L u w9 E1 E0 EC EF hl hw hI
        subst eo
        have e := (E1 164 0 (by kernel_rfl) (by simp)).trans (hI.det 0 _ rfl (hw 0 (by decide) (by kernel_rfl)))
        refine gives_call (f := 10) (args := #[.int .u8 k2, .int .i64 2]) (w' := w9) (by simp [execOp, go_sem, e, EC, EF]) (HOFK.out w9) (fun e w2 q => by obtain ⟨rfl, hb⟩ := q; exact ⟨_, rfl, hI.ndet HOK rfl hb⟩)
      | 2, _ =>
        have eo := Option.some.inj ho
        have hg : o.guard = none := by rw [← eo]
        refine cstep_evF hg ?_
        intro E L u w9 E1 E0 EC EF hl hw hI
        subst eo
        have e := (E1 165 1 (by kernel_rfl) (by simp)).trans (hI.det 1 _ rfl (hw 1 (by decide) (by kernel_rfl)))
        refine gives_ok (v := .slice (some ⟨w9.heap.size, 0, none⟩) 1 1) (w' := w9.alloc (.cells #[.int .u8 k2, .int .u32 0, .int .u32 0, .int .i64 0, .int .i64 2] 35)) (by simp [execOp, go_sem, e]) ?_
        exact hI.nbuild HOK hl (own_blkP (x := ⟨k2, 0, 0, 0, 2⟩) (Blk.made _ _ _) hI.bel.size) ((Below.refl _ w9).alloc (Nat.le_refl _) _)
      | 3, _ =>
        have eo := Option.some.inj ho
        have hg : o.guard = none := by rw [← eo]
        refine cstep_evF hg ?_
        intro E L u w9 E1 E0 EC EF hl hw hI
        subst eo
        have e := (E0 3 (by kernel_rfl)).trans (show _ = Value.pointer (some ⟨W.heap.size, 0, none⟩) from rfl)
        refine gives_ok (v := .pointer (some ⟨W.heap.size, 2, none⟩)) (w' := w9) (by simp [execOp, go_sem, e]) ?_
        exact hI.ndet HOK rfl (Below.refl _ _)
      | 4, _ =>
        have eo := Option.some.inj ho
        have hg : o.guard = none := by rw [← eo]
        refine cstep_evF hg ?_
        intro E L u w9 E1 E0 EC EF hl hw hI
        subst eo
        have e := (E1 167 3 (by kernel_rfl) (by simp)).trans (hI.det 3 _ rfl (hw 3 (by decide) (by kernel_rfl)))
        have c := (hI.bel.cell (p := ⟨W.heap.size, 2, none⟩) xz).trans x2
        refine gives_ok (v := .slice (some ⟨b1, o1, none⟩) n1 c1) (w' := w9) (by simp [execOp, go_sem, e, c]) ?_
        exact hI.ndet HOK rfl (Below.refl _ _)
      | 5, _ =>
        have eo := Option.some.inj ho
        have hg : o.guard = none := by rw [← eo]
        refine cstep_evF hg ?_
        intro E L u w9 E1 E0 EC EF hl hw hI
        subst eo
        have e := E1 166 2 (by kernel_rfl) (by simp)
        have e2 := (E1 168 4 (by kernel_rfl) (by simp)).trans (hI.det 4 _ rfl (hw 4 (by decide) (by kernel_rfl)))
        have hpw := hw 2 (by decide) (by kernel_rfl)
        refine gives_appV (.tmp 166) (.tmp 168) 22 rfl wc.heap.size 35 iP _ 5 32 Tryz.underlying22 HIP.out HP0.out HP1.out HP2.out rfl (by decide) 1 (cellsOfP [⟨k2, 0, 0, 0, 2⟩]) (by rw [e]; exact hI.rB hpw hl) n1 (cellsOfP l1) (by rw [e2]; exact srcV_pastN SR1.out hI.bel) (by omega) (by omega) hI.bel.size ?_
        intro v' w' ho hg
        rw [e] at hg
        exact hI.napp1 HOK hl hpw ho hg
      | 6, _ =>
        have eo := Option.some.inj ho
        have hg : o.guard = none := by rw [← eo]
        refine cstep_evF hg ?_
        intro E L u w9 E1 E0 EC EF hl hw hI
        subst eo
        have e := (E0 4 (by kernel_rfl)).trans (show _ = Value.pointer (some ⟨W.heap.size + 1, 0, none⟩) from rfl)
        refine gives_ok (v := .pointer (some ⟨W.heap.size + 1, 2, none⟩)) (w' := w9) (by simp [execOp, go_sem, e]) ?_
        exact hI.ndet HOK rfl (Below.refl _ _)
      | 7, _ =>
        have eo := Option.some.inj ho
        have hg : o.guard = none := by rw [← eo]
        refine cstep_evF hg ?_
        intro E L u w9 E1 E0 EC EF hl hw hI
        subst eo
        have e := (E1 170 6 (by kernel_rfl) (by simp)).trans (hI.det 6 _ rfl (hw 6 (by decide) (by kernel_rfl)))
        have c := (hI.bel.cell (p := ⟨W.heap.size + 1, 2, none⟩) yz).trans y2
        refine gives_ok (v := .slice (some ⟨b2, o2, none⟩) n2 c2) (w' := w9) (by simp [execOp, go_sem, e, c]) ?_
        exact hI.ndet HOK rfl (Below.refl _ _)
      | 8, _ =>
        have eo := Option.some.inj ho
        have hg : o.guard = none := by rw [← eo]
        refine cstep_evF hg ?_
        intro E L u w9 E1 E0 EC EF hl hw hI
        subst eo
        have e := E1 169 5 (by kernel_rfl) (by simp)
        have e2 := (E1 171 7 (by kernel_rfl) (by simp)).trans (hI.det 7 _ rfl (hw 7 (by decide) (by kernel_rfl)))
        have hpw := hw 5 (by decide) (by kernel_rfl)
        refine gives_appV (.tmp 169) (.tmp 171) 22 rfl wc.heap.size 35 iP _ 5 32 Tryz.underlying22 HIP.out HP0.out HP1.out HP2.out rfl (by decide) (1 + n1) (cellsOfP [⟨k2, 0, 0, 0, 2⟩] ++ cellsOfP l1) (by rw [e]; exact hI.r1 hpw hl) n2 (cellsOfP l2) (by rw [e2]; exact srcV_pastN SR2.out hI.bel) (by omega) (by omega) hI.bel.size ?_
        intro v' w' ho hg
        rw [e] at hg
        exact hI.napp2 HOK hl hpw ho hg
      | 9, _ =>
        have eo := Option.some.inj ho
        have hg : o.guard = none := by rw [← eo]
        refine cstep_evF hg ?_
        intro E L u w9 E1 E0 EC EF hl hw hI
        subst eo
        have e := (E0 26 (by kernel_rfl)).trans (show _ = Value.pointer (some ⟨p26, 0, none⟩) from rfl)
        refine gives_ok (v := .pointer (some ⟨p26, 2, none⟩)) (w' := w9) (by simp [execOp, go_sem, e]) ?_
        exact hI.ndet HOK rfl (Below.refl _ _)
      | i + 10, h => exact absurd h (by omega)
    · intro L u w9 hall hI
      have eZ := hI.det 9 _ rfl (hall 9 (by decide))
      have ho := hI.r2 (hall 8 (by decide))
      obtain ⟨a6, c6, e6⟩ := own_sli ho
      rw [e6] at ho
      have hb9 := hI.bel
      have hp9 := HPX.out.past hb9
      have hq9 := hp9.lt; have hf9 := hp9.free 2; have hc9 := hp9.cell 2
      simp at hc9
      simp only [frm, List.take, Act.put, eZ, e6]
      have HO := hidE ho; have HPP := hidE hp9; have HBW := hidE hb9
      clear eZ e6 ho hp9 hb9 hI hall HOK x0 x1 x2 xz y0 y1 y2 yz
      go_wp2
      go_meet
      case rel =>
        exact ⟨app_end (l := [⟨k2, 0, 0, 0, 2⟩] ++ l1 ++ l2) (tot := 1 + n1 + n2) (by have hl1 := HN1.out; have hl2 := HN2.out; simp only [List.length_append, List.length_cons, List.length_nil]; omega) HO.out (by simp only [cellsOfP_app]) HPP.out HPX.out.lt HPZ.out HS.out HBW.out (by simp) HPY.out.lt, (HPY.out.past HBW.out).other (Ne.symm HNE.out) _⟩
  case rest =>
  obtain ⟨⟨⟨aX, cX, hB5, hA5, hN5⟩, hS5⟩, hP27⟩ := hcut
  clear HS HPX HPY HPZ
  have HPW := hidE hB5; have HAX := hidE hA5; have HNX := hidE hN5; have HPX := hidE hP27; have HPZ := hidE HPZ2.out; have HS := hidE hS5
  clear hB5 hA5 hN5 hS5 hP27 HPZ2
  go_upto_region 26 with fail
  go_cut [] (fun wz => ((∃ (a5 : Option Addr) (c5 : Nat), Blk wz p27 #[.int .i64 f1, .int .i64 t1, .slice a5 (1 + n2 + n1) c5] 24 ∧ ArgP wz a5 (⟨k2, 0, 0, 0, 2⟩ :: (l2 ++ l1)) ∧ (∀ xx, a5 = some xx → xx.block ≠ p27)) ∧ A2 W f1 t1 (some ⟨b1, o1, none⟩) l1 n1 c1 f2 t2 (some ⟨b2, o2, none⟩) l2 n2 c2 wz) ∧ Blk wz p26 #[.int .i64 f1, .int .i64 t1, .slice aX (1 + n1 + n2) cX] 24 ∧ ArgP wz aX (⟨k2, 0, 0, 0, 2⟩ :: (l1 ++ l2)))
  case first =>
    have x0 := HS.out.d1.cell 0; have x1 := HS.out.d1.cell 1; have x2 := HS.out.d1.cell 2; have xz := HS.out.d1.lt; have y0 := HS.out.d2.cell 0; have y1 := HS.out.d2.cell 1; have y2 := HS.out.d2.cell 2; have yz := HS.out.d2.lt
    simp at x0 x1 x2 y0 y1 y2
    have SR1 := hidE (srcV_P (cap := c1) HS.out.T1 HN1.out.symm hn0)
    have SR2 := hidE (srcV_P (cap := c2) HS.out.T2 HN2.out.symm hn02)
    have HOK : ApOk (fun i => ([some (.int .u8 k2), some (prtV ⟨k2, 0, 0, 0, 2⟩), none, some (.pointer (some ⟨W.heap.size + 1, 2, none⟩)), some (.slice (some ⟨b2, o2, none⟩) n2 c2), none, some (.pointer (some ⟨W.heap.size, 2, none⟩)), some (.slice (some ⟨b1, o1, none⟩) n1 c1), none, some (.pointer (some ⟨p27, 2, none⟩))] : List (Option Value)).getD i none) 2 5 8 := ⟨by decide, rfl, rfl, rfl⟩
    refine wp_region_C 10 (ApI 35 5 wc (fun i => ([some (.int .u8 k2), some (prtV ⟨k2, 0, 0, 0, 2⟩), none, some (.pointer (some ⟨W.heap.size + 1, 2, none⟩)), some (.slice (some ⟨b2, o2, none⟩) n2 c2), none, some (.pointer (some ⟨W.heap.size, 2, none⟩)), some (.slice (some ⟨b1, o1, none⟩) n1 c1), none, some (.pointer (some ⟨p27, 2, none⟩))] : List (Option Value)).getD i none) 2 5 8 1 n2 n1 (cellsOfP [⟨k2, 0, 0, 0, 2⟩]) (cellsOfP l2) (cellsOfP l1)) (by kernel_rfl) (by simp) (by kernel_rfl) (apI_start (Below.refl _ _).drew) ?_ ?_
    · intro i o hi ho
      match i, hi with
      | 0, _ =>
        have eo := Option.some.inj ho
        have hg : o.guard = none := by rw [← eo]
        refine cstep_evF hg ?_
        intro E L u w9 E1 E0 EC EF hl hw hI
        subst eo
        have e := (E0 25 (by kernel_rfl)).trans (show _ = Value.int .u8 k2 from rfl)
        refine gives_ok (v := .int .u8 k2) (w' := w9) (by simp [execOp, go_sem, e]) ?_
        exact hI.ndet HOK rfl (Below.refl _ _)
      | 1, _ =>
        have eo := Option.some.inj ho
        have hg : o.guard = none := by rw [← eo]
        refine cstep_evF hg ?_
        intro E L u w9 E1 E0 EC EF hl hw hI
        subst eo
        have e := (E1 174 0 (by kernel_rfl) (by simp)).trans (hI.det 0 _ rfl (hw 0 (by decide) (by kernel_rfl)))
        refine gives_call (f := 10) (args := #[.int .u8 k2, .int .i64 2]) (w' := w9) (by simp [execOp, go_sem, e, EC, EF]) (HOFK.out w9) (fun e w2 q => by obtain ⟨rfl, hb⟩ := q; exact ⟨_, rfl, hI.ndet HOK rfl hb⟩)
      | 2, _ =>
        have eo := Option.some.inj ho
        have hg : o.guard = none := by rw [← eo]
        refine cstep_evF hg ?_
        intro E L u w9 E1 E0 EC EF hl hw hI
        subst eo
        have e := (E1 175 1 (by kernel_rfl) (by simp)).trans (hI.det 1 _ rfl (hw 1 (by decide) (by kernel_rfl)))
        refine gives_ok (v := .slice (some ⟨w9.heap.size, 0, none⟩) 1 1) (w' := w9.alloc (.cells #[.int .u8 k2, .int .u32 0, .int .u32 0, .int .i64 0, .int .i64 2] 35)) (by simp [execOp, go_sem, e]) ?_
        exact hI.nbuild HOK hl (own_blkP (x := ⟨k2, 0, 0, 0, 2⟩) (Blk.made _ _ _) hI.bel.size) ((Below.refl _ w9).alloc (Nat.le_refl _) _)
      | 3, _ =>
        have eo := Option.some.inj ho
        have hg : o.guard = none := by rw [← eo]
        refine cstep_evF hg ?_
        intro E L u w9 E1 E0 EC EF hl hw hI
        subst eo
        have e := (E0 4 (by kernel_rfl)).trans (show _ = Value.pointer (some ⟨W.heap.size + 1, 0, none⟩) from rfl)
        refine gives_ok (v := .pointer (some ⟨W.heap.size + 1, 2, none⟩)) (w' := w9) (by simp [execOp, go_sem, e]) ?_
        exact hI.ndet HOK rfl (Below.refl _ _)
      | 4, _ =>
        have eo := Option.some.inj ho
        have hg : o.guard = none := by rw [← eo]
        refine cstep_evF hg ?_
        intro E L u w9 E1 E0 EC EF hl hw hI
        subst eo
        have e := (E1 177 3 (by kernel_rfl) (by simp)).trans (hI.det 3 _ rfl (hw 3 (by decide) (by kernel_rfl)))
        have c := (hI.bel.cell (p := ⟨W.heap.size + 1, 2, none⟩) yz).trans y2
        refine gives_ok (v := .slice (some ⟨b2, o2, none⟩) n2 c2) (w' := w9) (by simp [execOp, go_sem, e, c]) ?_
        exact hI.ndet HOK rfl (Below.refl _ _)
      | 5, _ =>
        have eo := Option.some.inj ho
        have hg : o.guard = none := by rw [← eo]
        refine cstep_evF hg ?_
        intro E L u w9 E1 E0 EC EF hl hw hI
        subst eo
        have e := E1 176 2 (by kernel_rfl) (by simp)
        have e2 := (E1 178 4 (by kernel_rfl) (by simp)).trans (hI.det 4 _ rfl (hw 4 (by decide) (by kernel_rfl)))
        have hpw := hw 2 (by decide) (by kernel_rfl)
        refine gives_appV (.tmp 176) (.tmp 178) 22 rfl wc.heap.size 35 iP _ 5 32 Tryz.underlying22 HIP.out HP0.out HP1.out HP2.out rfl (by decide) 1 (cellsOfP [⟨k2, 0, 0, 0, 2⟩]) (by rw [e]; exact hI.rB hpw hl) n2 (cellsOfP l2) (by rw [e2]; exact srcV_pastN SR2.out hI.bel) (by omega) (by omega) hI.bel.size ?_
        intro v' w' ho hg
        rw [e] at hg
        exact hI.napp1 HOK hl hpw ho hg
      | 6, _ =>
        have eo := Option.some.inj ho
        have hg : o.guard = none := by rw [← eo]
        refine cstep_evF hg ?_
        intro E L u w9 E1 E0 EC EF hl hw hI
        subst eo
        have e := (E0 3 (by kernel_rfl)).trans (show _ = Value.pointer (some ⟨W.heap.size, 0, none⟩) from rfl)
        refine gives_ok (v := .pointer (some ⟨W.heap.size, 2, none⟩)) (w' := w9) (by simp [execOp, go_sem, e]) ?_
        exact hI.ndet HOK rfl (Below.refl _ _)
      | 7, _ =>
        have eo := Option.some.inj ho
        have hg : o.guard = none := by rw [← eo]
        refine cstep_evF hg ?_
        intro E L u w9 E1 E0 EC EF hl hw hI
        subst eo
        have e := (E1 180 6 (by kernel_rfl) (by simp)).trans (hI.det 6 _ rfl (hw 6 (by decide) (by kernel_rfl)))
        have c := (hI.bel.cell (p := ⟨W.heap.size, 2, none⟩) xz).trans x2
        refine gives_ok (v := .slice (some ⟨b1, o1, none⟩) n1 c1) (w' := w9) (by simp [execOp, go_sem, e, c]) ?_
        exact hI.ndet HOK rfl (Below.refl _ _)
      | 8, _ =>
        have eo := Option.some.inj ho
        have hg : o.guard = none := by rw [← eo]
        refine cstep_evF hg ?_
        intro E L u w9 E1 E0 EC EF hl hw hI
        subst eo
        have e := E1 179 5 (by kernel_rfl) (by simp)
        have e2 := (E1 181 7 (by kernel_rfl) (by simp)).trans (hI.det 7 _ rfl (hw 7 (by decide) (by kernel_rfl)))
        have hpw := hw 5 (by decide) (by kernel_rfl)
        refine gives_appV (.tmp 179) (.tmp 181) 22 rfl wc.heap.size 35 iP _ 5 32 Tryz.underlying22 HIP.out HP0.out HP1.out HP2.out rfl (by decide) (1 + n2) (cellsOfP [⟨k2, 0, 0, 0, 2⟩] ++ cellsOfP l2) (by rw [e]; exact hI.r1 hpw hl) n1 (cellsOfP l1) (by rw [e2]; exact srcV_pastN SR1.out hI.bel) (by omega) (by omega) hI.bel.size ?_
        intro v' w' ho hg
        rw [e] at hg
        exact hI.napp2 HOK hl hpw ho hg
      | 9, _ =>
        have eo := Option.some.inj ho
        have hg : o.guard = none := by rw [← eo]
        refine cstep_evF hg ?_
        intro E L u w9 E1 E0 EC EF hl hw hI
        subst eo
        have e := (E0 27 (by kernel_rfl)).trans (show _ = Value.pointer (some ⟨p27, 0, none⟩) from rfl)
        refine gives_ok (v := .pointer (some ⟨p27, 2, none⟩)) (w' := w9) (by simp [execOp, go_sem, e]) ?_
        exact hI.ndet HOK rfl (Below.refl _ _)
      | i + 10, h => exact absurd h (by omega)
    · intro L u w9 hall hI
      have eZ := hI.det 9 _ rfl (hall 9 (by decide))
      have ho := hI.r2 (hall 8 (by decide))
      obtain ⟨a6, c6, e6⟩ := own_sli ho
      rw [e6] at ho
      have hb9 := hI.bel
      have hp9 := HPX.out.past hb9
      have hq9 := hp9.lt; have hf9 := hp9.free 2; have hc9 := hp9.cell 2
      simp at hc9
      simp only [frm, List.take, Act.put, eZ, e6]
      have HO := hidE ho; have HPP := hidE hp9; have HBW := hidE hb9
      clear eZ e6 ho hp9 hb9 hI hall HOK x0 x1 x2 xz y0 y1 y2 yz
      go_wp2
      go_meet
      case rel =>
        exact ⟨app_end (l := [⟨k2, 0, 0, 0, 2⟩] ++ l2 ++ l1) (tot := 1 + n2 + n1) (by have hl1 := HN1.out; have hl2 := HN2.out; simp only [List.length_append, List.length_cons, List.length_nil]; omega) HO.out (by simp only [cellsOfP_app]) HPP.out HPX.out.lt HPZ.out HS.out HBW.out (by simp) HPX.out.lt, (HPW.out.past HBW.out).other HNE.out _, argP_store (HAX.out.past HBW.out) HNX.out 2 _⟩
  case rest =>
  obtain ⟨⟨⟨a5, c5, hB5, hA5, hN5⟩, hS5⟩, hP26, hAX⟩ := hcut
  clear HS HPX HPW HAX
  have HPX := hidE hB5; have HA5 := hidE hA5; have HS := hidE hS5; have HPW := hidE hP26; have HAX := hidE hAX
  clear hB5 hA5 hN5 hS5 hP26 hAX
  have x0 := HS.out.d1.cell 0; have x1 := HS.out.d1.cell 1; have x2 := HS.out.d1.cell 2; have xz := HS.out.d1.lt; have y0 := HS.out.d2.cell 0; have y1 := HS.out.d2.cell 1; have y2 := HS.out.d2.cell 2; have yz := HS.out.d2.lt
  simp at x0 x1 x2 y0 y1 y2
  have px0 := HPX.out.cell 0; have px1 := HPX.out.cell 1; have px2 := HPX.out.cell 2; have pxz := HPX.out.lt; have qx0 := HPW.out.cell 0; have qx1 := HPW.out.cell 1; have qx2 := HPW.out.cell 2; have qxz := HPW.out.lt
  simp at px0 px1 px2 qx0 qx1 qx2
  go_wp2_with fail
  ((with_reducible refine (NS3.out _ HK2.out _ _ _ _ _ HAX.out HA5.out (HTAB.out.past HS.out.bel)).mono ?_); rintro e w13 ⟨rfl, hb11⟩)
  have HS' := hidE (HS.out.past hb11)
  clear HS HPX HPW HA5 HAX NS3 hb11 px0 px1 px2 pxz qx0 qx1 qx2 qxz x0 x1 x2 xz y0 y1 y2 yz
  have HS := HS'
  clear HS'
  have x0 := HS.out.d1.cell 0; have x1 := HS.out.d1.cell 1; have x2 := HS.out.d1.cell 2; have xz := HS.out.d1.lt; have y0 := HS.out.d2.cell 0; have y1 := HS.out.d2.cell 1; have y2 := HS.out.d2.cell 2; have yz := HS.out.d2.lt
  simp at x0 x1 x2 y0 y1 y2
  go_wp2_with fail
  ((with_reducible refine (head9_c _ (HTAB.out.past HS.out.bel)).mono ?_); rintro e w9 ⟨rfl, hb9⟩)
  have HB9 := hidE (HS.out.bel.trans (hb9.mono HS.out.bel.size))
  clear hb9 x0 x1 x2 xz y0 y1 y2 yz
  go_wp2
  try rw [Exit.noGoto_ret]
  go_ret
  exact ⟨rfl, HB9.out⟩
set_option maxRecDepth 100000 in
set_option maxHeartbeats 8000000 in
theorem alike_yes (f1 t1 : Int) (a1 : Option Addr) (l1 : List Prt) (n1 c1 : Nat) (f2 t2 : Int) (a2 : Option Addr) (l2 : List Prt) (n2 c2 : Nat) (kd : Int) (W : World) (hn1 : n1 = l1.length) (hn2 : n2 = l2.length) (hl1 : n1 ≤ 9223372036854775807) (hl2 : n2 ≤ 9223372036854775807) (hA1 : ArgP W a1 l1) (hA2 : ArgP W a2 l2) (hf1 : -9223372036854775808 ≤ f1 ∧ f1 ≤ 9223372036854775807) (ht1 : -9223372036854775808 ≤ t1 ∧ t1 ≤ 9223372036854775807) (hf2 : -9223372036854775808 ≤ f2 ∧ f2 ≤ 9223372036854775807) (ht2 : -9223372036854775808 ≤ t2 ∧ t2 ≤ 9223372036854775807) (hTab : Tab W) (hc1 : n1 ≤ c1 ∧ c1 ≤ 9223372036854775807) (hc2 : n2 ≤ c2 ∧ c2 ≤ 9223372036854775807) (hk : 0 ≤ kd ∧ kd ≤ 255) (h1 : (chkS f1 t1 l1).2 = 0) (h2 : (chkS f2 t2 l2).2 = 0) (h3 : n1 ≤ 30) (h4 : n2 ≤ 30) (hdp1 : ∀ j, j < n1 → depthS l1 j ≤ 6) (hdp2 : ∀ j, j < n2 → depthS l2 j ≤ 6) :
    Calls Tryz.prog 3 #[defV f1 t1 a1 n1 c1, defV f2 t2 a2 n2 c2, .int .u8 kd] W fun e w' => e = .returned (.bool true) ∧ Below W.heap.size W w' := by
  have HS0 := hidE (show A2 W f1 t1 a1 l1 n1 c1 f2 t2 a2 l2 n2 c2 ((W.alloc (.cells #[.int .i64 f1, .int .i64 t1, .slice a1 n1 c1] 24)).alloc (.cells #[.int .i64 f2, .int .i64 t2, .slice a2 n2 c2] 24)) from ⟨by (repeat (first | exact Below.refl _ _ | assumption | refine balloc ?_ _ | refine below_drewN ?_ _ | refine bstep (by assumption) ?_ | refine bstep (Past.prop _) ?_ | refine Below.setCell ?_ (by first | exact Nat.le_refl _ | (simp; done) | (simp; omega)) _)), (Blk.made _ _ _).alloc _, Blk.made_at _ _ _ _ (by simp), hA1.past (by (repeat (first | exact Below.refl _ _ | assumption | refine balloc ?_ _ | refine below_drewN ?_ _ | refine bstep (by assumption) ?_ | refine bstep (Past.prop _) ?_ | refine Below.setCell ?_ (by first | exact Nat.le_refl _ | (simp; done) | (simp; omega)) _))), hA2.past (by (repeat (first | exact Below.refl _ _ | assumption | refine balloc ?_ _ | refine below_drewN ?_ _ | refine bstep (by assumption) ?_ | refine bstep (Past.prop _) ?_ | refine Below.setCell ?_ (by first | exact Nat.le_refl _ | (simp; done) | (simp; omega)) _))), argP_lt hA1, argP_lt hA2⟩)
  have HTAB := hidE hTab
  have HN1 := hidE hn1; have HN2 := hidE hn2
  have CH1 := hidE (fun w (h : ArgP w a1 l1) => show Calls Tryz.prog 5 #[defV f1 t1 a1 n1 c1] w _ from (by rw [hn1]; exact rchkL_c f1 t1 l1 a1 c1 w (by omega) h hf1 ht1))
  have CH2 := hidE (fun w (h : ArgP w a2 l2) => show Calls Tryz.prog 5 #[defV f2 t2 a2 n2 c2] w _ from (by rw [hn2]; exact rchkL_c f2 t2 l2 a2 c2 w (by omega) h hf2 ht2))
  obtain ⟨hok1, _, htr1, _, _⟩ := chk_ok h1
  obtain ⟨hok2, _, htr2, _, _⟩ := chk_ok h2
  rw [hok1] at CH1
  rw [hok2] at CH2
  obtain ⟨F, hkF, hlF, hFl, hfF, hsF⟩ := fit_tree htr1
  obtain ⟨G, hkG, hlG, hGl, hfG, hsG⟩ := fit_tree htr2
  have HFF := hidE (show Fine f1 t1 F from ⟨by rw [← hFl]; exact hok1, hkF, hlF, hfF, hsF, hf1, ht1⟩)
  have HFG := hidE (show Fine f2 t2 G from ⟨by rw [← hGl]; exact hok2, hkG, hlG, hfG, hsG, hf2, ht2⟩)
  have HFl := hidE hFl; have HGl := hidE hGl
  have HZF := hidE (show F.size = n1 by rw [hn1, hFl, flat_len])
  have HZG := hidE (show G.size = n2 by rw [hn2, hGl, flat_len])
  have DP1 := hidE (fun i (hi : i < n1) w (h : ArgP w a1 l1) => show Calls Tryz.prog 7 #[.slice a1 n1 c1, .int .i64 i] w _ from (by rw [hn1]; exact rdepth_c l1 i a1 c1 w (by omega) (by omega) h))
  have DP2 := hidE (fun i (hi : i < n2) w (h : ArgP w a2 l2) => show Calls Tryz.prog 7 #[.slice a2 n2 c2, .int .i64 i] w _ from (by rw [hn2]; exact rdepth_c l2 i a2 c2 w (by omega) (by omega) h))
  have NM1 := hidE (fun w (h : ArgP w a1 l1) => norm9_c f1 t1 F a1 c1 n1 (by rw [← hFl]; exact hn1) w (by rw [← hFl]; exact h) hc1 HFF.out.chk hlF hfF hsF hf1 ht1)
  have NM2 := hidE (fun w (h : ArgP w a2 l2) => norm9_c f2 t2 G a2 c2 n2 (by rw [← hGl]; exact hn2) w (by rw [← hGl]; exact h) hc2 HFG.out.chk hlG hfG hsG hf2 ht2)
  have r3 : decide ((n1 : Int) > 30) = false := decide_eq_false (by omega)
  have r4 : decide ((n2 : Int) > 30) = false := decide_eq_false (by omega)
  have r3' : decide (30 < n1) = false := decide_eq_false (by omega)
  have r4' : decide (30 < n2) = false := decide_eq_false (by omega)
  clear hA1 hA2 hTab hn1 hn2 hf1 ht1 hf2 ht2 hok1 hok2 htr1 htr2 h1 h2 hkF hlF hFl hfF hsF hkG hlG hGl hfG hsG hc1 hc2
  have HDP1 := hidE hdp1; have HDP2 := hidE hdp2
  clear hdp1 hdp2
  go_enter Tryz.func3, Tryz.ntmps3
  go_wp2_with fail
  obtain ⟨w0, hw0⟩ : ∃ w0, w0 = (W.alloc (.cells #[.int .i64 f1, .int .i64 t1, .slice a1 n1 c1] 24)).alloc (.cells #[.int .i64 f2, .int .i64 t2, .slice a2 n2 c2] 24) := ⟨_, rfl⟩
  rw [← hw0]; rw [← hw0] at HS0; clear hw0
  ((with_reducible refine (CH1.out _ HS0.out.T1).mono ?_); rintro e w1 ⟨rfl, hb1⟩)
  have HS1 := hidE (HS0.out.past hb1); clear HS0 hb1
  have x0 := HS1.out.d1.cell 0; have x1 := HS1.out.d1.cell 1; have x2 := HS1.out.d1.cell 2; have xz := HS1.out.d1.lt; have y0 := HS1.out.d2.cell 0; have y1 := HS1.out.d2.cell 1; have y2 := HS1.out.d2.cell 2; have yz := HS1.out.d2.lt
  simp at x0 x1 x2 y0 y1 y2
  go_wp2_with fail
  ((with_reducible refine (CH2.out _ HS1.out.T2).mono ?_); rintro e w2 ⟨rfl, hb2⟩)
  have HS := hidE (HS1.out.past hb2); clear HS1 hb2 x0 x1 x2 xz y0 y1 y2 yz
  have x0 := HS.out.d1.cell 0; have x1 := HS.out.d1.cell 1; have x2 := HS.out.d1.cell 2; have xz := HS.out.d1.lt; have y0 := HS.out.d2.cell 0; have y1 := HS.out.d2.cell 1; have y2 := HS.out.d2.cell 2; have yz := HS.out.d2.lt
  simp at x0 x1 x2 y0 y1 y2
  clear CH1 CH2
  go_upto_region 5 with fail
  clear r3 r4 r3' r4' x0 x1 x2 xz y0 y1 y2 yz
  go_wp2
  go_loopg [11] (n1 + n2) (fun gh v11 wr => ∃ i : Nat, v11 = .int .i64 i ∧ n1 + n2 - i ≤ gh ∧ i ≤ n1 + n2 ∧ (∀ j, j < i → j < n1 → depthS l1 j ≤ 6) ∧ (∀ j, j < i → j < n2 → depthS l2 j ≤ 6) ∧ A2 W f1 t1 a1 l1 n1 c1 f2 t2 a2 l2 n2 c2 wr)
  case atStart => exact ⟨0, rfl, Nat.le_refl _, Nat.zero_le _, fun j hj => by omega, fun j hj => by omega, HS.out⟩
  case round =>
    clear HS
    obtain ⟨i, rfl, hgh, hii, hd1, hd2, hs⟩ := hrel
    have HGH := hidE hgh; have HD1 := hidE hd1; have HD2 := hidE hd2; have HS := hidE hs
    clear hgh hd1 hd2 hs
    by_cases hm : i < max n1 n2
    · by_cases hmx : n1 < n2
      · have v0 : True := trivial
        have v1 : decide ((n1 : Int) < (n2 : Int)) = true := decide_eq_true (by omega)
        have v2 : decide ((i : Int) < (n2 : Int)) = true := decide_eq_true (by omega)
        have v3 : ¬ (n2 : Int) ≤ (n1 : Int) := by omega
        have x0 := HS.out.d1.cell 0; have x1 := HS.out.d1.cell 1; have x2 := HS.out.d1.cell 2; have xz := HS.out.d1.lt; have y0 := HS.out.d2.cell 0; have y1 := HS.out.d2.cell 1; have y2 := HS.out.d2.cell 2; have yz := HS.out.d2.lt
        simp at x0 x1 x2 y0 y1 y2
        by_cases hi1 : i < n1
        · have s1 : decide ((i : Int) < (n1 : Int)) = true := decide_eq_true (by omega)
          obtain ⟨d1, hd1⟩ : ∃ d, depthS l1 i = d := ⟨_, rfl⟩
          have HE1 := hidE hd1
          have hcall := DP1.out i hi1 
          rw [hd1] at hcall
          have HC1 := hidE hcall
          clear hcall hd1
          have hg1 : ¬ 6 < d1 := by have h8 := HDP1.out i hi1; rw [HE1.out] at h8; omega
          · have u1 : decide ((d1 : Int) > 6) = false := decide_eq_false (by omega)
            by_cases hi2 : i < n2
            · have s2 : decide ((i : Int) < (n2 : Int)) = true := decide_eq_true (by omega)
              obtain ⟨d2, hd2⟩ : ∃ d, depthS l2 i = d := ⟨_, rfl⟩
              have HE2 := hidE hd2
              have hcall := DP2.out i hi2 
              rw [hd2] at hcall
              have HC2 := hidE hcall
              clear hcall hd2
              have hg2 : ¬ 6 < d2 := by have h8 := HDP2.out i hi2; rw [HE2.out] at h8; omega
              · have u2 : decide ((d2 : Int) > 6) = false := decide_eq_false (by omega)
                go_wp2_with fail
                ((with_reducible refine (HC1.out _ HS.out.T1).mono ?_); rintro e w5 ⟨rfl, hb5⟩)
                have HS' := hidE (HS.out.past hb5)
                clear HS hb5 x0 x1 x2 xz y0 y1 y2 yz
                have HS := HS'
                clear HS'
                have x0 := HS.out.d1.cell 0; have x1 := HS.out.d1.cell 1; have x2 := HS.out.d1.cell 2; have xz := HS.out.d1.lt; have y0 := HS.out.d2.cell 0; have y1 := HS.out.d2.cell 1; have y2 := HS.out.d2.cell 2; have yz := HS.out.d2.lt
                simp at x0 x1 x2 y0 y1 y2
                go_wp2_with fail
                ((with_reducible refine (HC2.out _ HS.out.T2).mono ?_); rintro e w5 ⟨rfl, hb5⟩)
                have HS' := hidE (HS.out.past hb5)
                clear HS hb5 x0 x1 x2 xz y0 y1 y2 yz
                have HS := HS'
                clear HS'
                have x0 := HS.out.d1.cell 0; have x1 := HS.out.d1.cell 1; have x2 := HS.out.d1.cell 2; have xz := HS.out.d1.lt; have y0 := HS.out.d2.cell 0; have y1 := HS.out.d2.cell 1; have y2 := HS.out.d2.cell 2; have yz := HS.out.d2.lt
                simp at x0 x1 x2 y0 y1 y2
                go_wp2
                go_roundg (n1 + n2 - (i + 1))
                case measure => have := HGH.out; omega
                case rel =>
                  refine ⟨i + 1, by go_num, Nat.le_refl _, by omega, fun j hj hj2 => ?_, fun j hj hj2 => ?_, HS.out⟩
                  · by_cases c : j < i
                    · exact HD1.out j c hj2
                    · rw [show j = i by omega, HE1.out]; omega
                  · by_cases c : j < i
                    · exact HD2.out j c hj2
                    · rw [show j = i by omega, HE2.out]; omega
            · exact absurd hm (by omega)
        · have s1 : decide ((i : Int) < (n1 : Int)) = false := decide_eq_false (by omega)
          by_cases hi2 : i < n2
          · have s2 : decide ((i : Int) < (n2 : Int)) = true := decide_eq_true (by omega)
            obtain ⟨d2, hd2⟩ : ∃ d, depthS l2 i = d := ⟨_, rfl⟩
            have HE2 := hidE hd2
            have hcall := DP2.out i hi2 
            rw [hd2] at hcall
            have HC2 := hidE hcall
            clear hcall hd2
            have hg2 : ¬ 6 < d2 := by have h8 := HDP2.out i hi2; rw [HE2.out] at h8; omega
            · have u2 : decide ((d2 : Int) > 6) = false := decide_eq_false (by omega)
              go_wp2_with fail
              ((with_reducible refine (HC2.out _ HS.out.T2).mono ?_); rintro e w5 ⟨rfl, hb5⟩)
              have HS' := hidE (HS.out.past hb5)
              clear HS hb5 x0 x1 x2 xz y0 y1 y2 yz
              have HS := HS'
              clear HS'
              have x0 := HS.out.d1.cell 0; have x1 := HS.out.d1.cell 1; have x2 := HS.out.d1.cell 2; have xz := HS.out.d1.lt; have y0 := HS.out.d2.cell 0; have y1 := HS.out.d2.cell 1; have y2 := HS.out.d2.cell 2; have yz := HS.out.d2.lt
              simp at x0 x1 x2 y0 y1 y2
              go_wp2
              go_roundg (n1 + n2 - (i + 1))
              case measure => have := HGH.out; omega
              case rel =>
                refine ⟨i + 1, by go_num, Nat.le_refl _, by omega, fun j hj hj2 => ?_, fun j hj hj2 => ?_, HS.out⟩
                · by_cases c : j < i
                  · exact HD1.out j c hj2
                  · omega
                · by_cases c : j < i
                  · exact HD2.out j c hj2
                  · rw [show j = i by omega, HE2.out]; omega
          · exact absurd hm (by omega)
      · have v0 : True := trivial
        have v1 : decide ((n1 : Int) < (n2 : Int)) = false := decide_eq_false (by omega)
        have hm : i < n1 := by omega
        have v2 : decide ((i : Int) < (n1 : Int)) = true := decide_eq_true (by omega)
        have x0 := HS.out.d1.cell 0; have x1 := HS.out.d1.cell 1; have x2 := HS.out.d1.cell 2; have xz := HS.out.d1.lt; have y0 := HS.out.d2.cell 0; have y1 := HS.out.d2.cell 1; have y2 := HS.out.d2.cell 2; have yz := HS.out.d2.lt
        simp at x0 x1 x2 y0 y1 y2
        have hi1 : i < n1 := hm
        have s1 : decide ((i : Int) < (n1 : Int)) = true := decide_eq_true (by omega)
        obtain ⟨d1, hd1⟩ : ∃ d, depthS l1 i = d := ⟨_, rfl⟩
        have HE1 := hidE hd1
        have hcall := DP1.out i hi1 
        rw [hd1] at hcall
        have HC1 := hidE hcall
        clear hcall hd1
        have hg1 : ¬ 6 < d1 := by have h8 := HDP1.out i hi1; rw [HE1.out] at h8; omega
        · have u1 : decide ((d1 : Int) > 6) = false := decide_eq_false (by omega)
          by_cases hi2 : i < n2
          · have s2 : decide ((i : Int) < (n2 : Int)) = true := decide_eq_true (by omega)
            obtain ⟨d2, hd2⟩ : ∃ d, depthS l2 i = d := ⟨_, rfl⟩
            have HE2 := hidE hd2
            have hcall := DP2.out i hi2 
            rw [hd2] at hcall
            have HC2 := hidE hcall
            clear hcall hd2
            have hg2 : ¬ 6 < d2 := by have h8 := HDP2.out i hi2; rw [HE2.out] at h8; omega
            · have u2 : decide ((d2 : Int) > 6) = false := decide_eq_false (by omega)
              go_wp2_with fail
              ((with_reducible refine (HC1.out _ HS.out.T1).mono ?_); rintro e w5 ⟨rfl, hb5⟩)
              have HS' := hidE (HS.out.past hb5)
              clear HS hb5 x0 x1 x2 xz y0 y1 y2 yz
              have HS := HS'
              clear HS'
              have x0 := HS.out.d1.cell 0; have x1 := HS.out.d1.cell 1; have x2 := HS.out.d1.cell 2; have xz := HS.out.d1.lt; have y0 := HS.out.d2.cell 0; have y1 := HS.out.d2.cell 1; have y2 := HS.out.d2.cell 2; have yz := HS.out.d2.lt
              simp at x0 x1 x2 y0 y1 y2
              go_wp2_with fail
              ((with_reducible refine (HC2.out _ HS.out.T2).mono ?_); rintro e w5 ⟨rfl, hb5⟩)
              have HS' := hidE (HS.out.past hb5)
              clear HS hb5 x0 x1 x2 xz y0 y1 y2 yz
              have HS := HS'
              clear HS'
              have x0 := HS.out.d1.cell 0; have x1 := HS.out.d1.cell 1; have x2 := HS.out.d1.cell 2; have xz := HS.out.d1.lt; have y0 := HS.out.d2.cell 0; have y1 := HS.out.d2.cell 1; have y2 := HS.out.d2.cell 2; have yz := HS.out.d2.lt
              simp at x0 x1 x2 y0 y1 y2
              go_wp2
              go_roundg (n1 + n2 - (i + 1))
              case measure => have := HGH.out; omega
              case rel =>
                refine ⟨i + 1, by go_num, Nat.le_refl _, by omega, fun j hj hj2 => ?_, fun j hj hj2 => ?_, HS.out⟩
                · by_cases c : j < i
                  · exact HD1.out j c hj2
                  · rw [show j = i by omega, HE1.out]; omega
                · by_cases c : j < i
                  · exact HD2.out j c hj2
                  · rw [show j = i by omega, HE2.out]; omega
          · have s2 : decide ((i : Int) < (n2 : Int)) = false := decide_eq_false (by omega)
            go_wp2_with fail
            ((with_reducible refine (HC1.out _ HS.out.T1).mono ?_); rintro e w5 ⟨rfl, hb5⟩)
            have HS' := hidE (HS.out.past hb5)
            clear HS hb5 x0 x1 x2 xz y0 y1 y2 yz
            have HS := HS'
            clear HS'
            have x0 := HS.out.d1.cell 0; have x1 := HS.out.d1.cell 1; have x2 := HS.out.d1.cell 2; have xz := HS.out.d1.lt; have y0 := HS.out.d2.cell 0; have y1 := HS.out.d2.cell 1; have y2 := HS.out.d2.cell 2; have yz := HS.out.d2.lt
            simp at x0 x1 x2 y0 y1 y2
            go_wp2
            go_roundg (n1 + n2 - (i + 1))
            case measure => have := HGH.out; omega
            case rel =>
              refine ⟨i + 1, by go_num, Nat.le_refl _, by omega, fun j hj hj2 => ?_, fun j hj hj2 => ?_, HS.out⟩
              · by_cases c : j < i
                · exact HD1.out j c hj2
                · rw [show j = i by omega, HE1.out]; omega
              · by_cases c : j < i
                · exact HD2.out j c hj2
                · omega
    · have v2 : decide ((i : Int) < max (n1 : Int) (n2 : Int)) = false := decide_eq_false (by omega)
      have HDF := hidE (show F.depth ≤ 6 from by
        obtain ⟨p, hp, e⟩ := (depth_fit HFF.out.len HFF.out.siz HFF.out.fit).2
        rw [flat_len, HZF.out] at hp
        rw [← e, ← HFl.out]; exact HD1.out p (by omega) hp)
      have HDG := hidE (show G.depth ≤ 6 from by
        obtain ⟨p, hp, e⟩ := (depth_fit HFG.out.len HFG.out.siz HFG.out.fit).2
        rw [flat_len, HZG.out] at hp
        rw [← e, ← HGl.out]; exact HD2.out p (by omega) hp)
      clear HD1 HD2 HGH DP1 DP2
      have x0 := HS.out.d1.cell 0; have x1 := HS.out.d1.cell 1; have x2 := HS.out.d1.cell 2; have xz := HS.out.d1.lt; have y0 := HS.out.d2.cell 0; have y1 := HS.out.d2.cell 1; have y2 := HS.out.d2.cell 2; have yz := HS.out.d2.lt
      simp at x0 x1 x2 y0 y1 y2
      go_upto_region 10 with fail
      clear v2 hm hii
      go_wp2_with fail
      ((with_reducible refine (NM1.out _ HS.out.T1).mono ?_); rintro e w5 ⟨a13, c13, a14, c14, rfl, hN1, hb5⟩)
      obtain ⟨w6, hw6⟩ : ∃ w6, w6 = w5.alloc (.cells #[.int .i64 f1, .int .i64 t1, .slice a13 (plainF (lab F 0)).size c13] 24) := ⟨_, rfl⟩
      have hb6 : Below w5.heap.size w5 w6 := by rw [hw6]; (repeat (first | exact Below.refl _ _ | assumption | refine balloc ?_ _ | refine below_drewN ?_ _ | refine bstep (by assumption) ?_ | refine bstep (Past.prop _) ?_ | refine Below.setCell ?_ (by first | exact Nat.le_refl _ | (simp; done) | (simp; omega)) _))
      have hP1 : Blk w6 w5.heap.size #[.int .i64 f1, .int .i64 t1, .slice a13 (plainF (lab F 0)).size c13] 24 := by rw [hw6]; exact Blk.made _ _ _
      have HS' := hidE ((HS.out.past hb5).past hb6)
      have HX1 := hidE (hN1.past hb6); have HP1 := hidE hP1
      have HW6 := hidE hw6
      clear HS hb5 hb6 hw6 hN1 hP1 x0 x1 x2 xz y0 y1 y2 yz
      have HS := HS'
      clear HS'
      have x0 := HS.out.d1.cell 0; have x1 := HS.out.d1.cell 1; have x2 := HS.out.d1.cell 2; have xz := HS.out.d1.lt; have y0 := HS.out.d2.cell 0; have y1 := HS.out.d2.cell 1; have y2 := HS.out.d2.cell 2; have yz := HS.out.d2.lt
      simp at x0 x1 x2 y0 y1 y2
      go_upto_region 11 with fail
      rw [← HW6.out]
      obtain ⟨q1, hq1⟩ : ∃ q, q = w5.heap.size := ⟨_, rfl⟩
      rw [← hq1] at HP1
      rw [← hq1]
      clear HW6 hq1
      go_wp2_with fail
      ((with_reducible refine (NM2.out _ HS.out.T2).mono ?_); rintro e w5 ⟨a23, c23, a24, c24, rfl, hN2, hb5⟩)
      obtain ⟨w6, hw6⟩ : ∃ w6, w6 = w5.alloc (.cells #[.int .i64 f2, .int .i64 t2, .slice a23 (plainF (lab G 0)).size c23] 24) := ⟨_, rfl⟩
      have hb6 : Below w5.heap.size w5 w6 := by rw [hw6]; (repeat (first | exact Below.refl _ _ | assumption | refine balloc ?_ _ | refine below_drewN ?_ _ | refine bstep (by assumption) ?_ | refine bstep (Past.prop _) ?_ | refine Below.setCell ?_ (by first | exact Nat.le_refl _ | (simp; done) | (simp; omega)) _))
      have hP2 : Blk w6 w5.heap.size #[.int .i64 f2, .int .i64 t2, .slice a23 (plainF (lab G 0)).size c23] 24 := by rw [hw6]; exact Blk.made _ _ _
      have HS' := hidE ((HS.out.past hb5).past hb6)
      have HX2 := hidE (hN2.past hb6); have HP2 := hidE hP2
      have HX1' := hidE ((HX1.out.past hb5).past hb6); have HP1' := hidE ((HP1.out.past hb5).past hb6)
      have HW6 := hidE hw6
      clear HS hb5 hb6 hw6 hN2 hP2 x0 x1 x2 xz y0 y1 y2 yz HX1 HP1
      have HS := HS'
      clear HS'
      have HX1 := HX1'; have HP1 := HP1'
      clear HX1' HP1'
      have x0 := HS.out.d1.cell 0; have x1 := HS.out.d1.cell 1; have x2 := HS.out.d1.cell 2; have xz := HS.out.d1.lt; have y0 := HS.out.d2.cell 0; have y1 := HS.out.d2.cell 1; have y2 := HS.out.d2.cell 2; have yz := HS.out.d2.lt
      simp at x0 x1 x2 y0 y1 y2
      go_upto_region 12 with fail
      rw [← HW6.out]
      obtain ⟨q2, hq2⟩ : ∃ q, q = w5.heap.size := ⟨_, rfl⟩
      rw [← hq2] at HP2
      rw [← hq2]
      clear HW6 hq2
      obtain ⟨wc, hwc⟩ : ∃ b, wideB (plainF (lab F 0)).flat = b := ⟨_, rfl⟩
      obtain ⟨wd, hwd⟩ : ∃ b, wideB (plainF (lab G 0)).flat = b := ⟨_, rfl⟩
      have HWC := hidE hwc; have HWD := hidE hwd
      have CW1 := hidE (fun (V : World) (h : ArgP V a13 (plainF (lab F 0)).flat) => wide9_c f1 t1 (plainF (lab F 0)).flat a13 c13 (plainF (lab F 0)).size (flat_len _).symm V (by have := HFF.out.nz; rw [flat_len] at this; omega) h)
      have CW2 := hidE (fun (V : World) (h : ArgP V a23 (plainF (lab G 0)).flat) => wide9_c f2 t2 (plainF (lab G 0)).flat a23 c23 (plainF (lab G 0)).size (flat_len _).symm V (by have := HFG.out.nz; rw [flat_len] at this; omega) h)
      rw [hwc] at CW1
      rw [hwd] at CW2
      clear hwc hwd
      have p0 := HP1.out.cell 0; have p1 := HP1.out.cell 1; have p2 := HP1.out.cell 2; have pz := HP1.out.lt; have z0 := HP2.out.cell 0; have z1 := HP2.out.cell 1; have z2 := HP2.out.cell 2; have zz := HP2.out.lt
      simp at p0 p1 p2 z0 z1 z2
      go_wp2_with fail
      ((with_reducible refine (CW1.out _ HX1.out).mono ?_); rintro e w7 ⟨rfl, hb7⟩)
      have HS' := hidE (HS.out.past hb7); have HX2' := hidE (HX2.out.past hb7); have HP1' := hidE (HP1.out.past hb7); have HP2' := hidE (HP2.out.past hb7)
      clear HS HX1 HX2 HP1 HP2 hb7 p0 p1 p2 pz z0 z1 z2 zz x0 x1 x2 xz y0 y1 y2 yz CW1
      have HS := HS'; have HX2 := HX2'; have HP1 := HP1'; have HP2 := HP2'
      clear HS' HX2' HP1' HP2'
      have x0 := HS.out.d1.cell 0; have x1 := HS.out.d1.cell 1; have x2 := HS.out.d1.cell 2; have xz := HS.out.d1.lt; have y0 := HS.out.d2.cell 0; have y1 := HS.out.d2.cell 1; have y2 := HS.out.d2.cell 2; have yz := HS.out.d2.lt
      simp at x0 x1 x2 y0 y1 y2
      cases wc with
      | true =>
        go_wp2_with fail
        ((with_reducible refine (head9_c _ (HTAB.out.past HS.out.bel)).mono ?_); rintro e w9 ⟨rfl, hb9⟩)
        have HB9 := hidE (HS.out.bel.trans (hb9.mono HS.out.bel.size))
        clear hb9 x0 x1 x2 xz y0 y1 y2 yz
        go_wp2
        try rw [Exit.noGoto_ret]
        go_ret
        exact ⟨rfl, HB9.out⟩
      | false =>
        have p0 := HP1.out.cell 0; have p1 := HP1.out.cell 1; have p2 := HP1.out.cell 2; have pz := HP1.out.lt; have z0 := HP2.out.cell 0; have z1 := HP2.out.cell 1; have z2 := HP2.out.cell 2; have zz := HP2.out.lt
        simp at p0 p1 p2 z0 z1 z2
        go_wp2_with fail
        ((with_reducible refine (CW2.out _ HX2.out).mono ?_); rintro e w8 ⟨rfl, hb8⟩)
        have HS' := hidE (HS.out.past hb8)
        clear HS HX2 HP1 HP2 hb8 p0 p1 p2 pz z0 z1 z2 zz x0 x1 x2 xz y0 y1 y2 yz CW2
        have HS := HS'
        clear HS'
        have x0 := HS.out.d1.cell 0; have x1 := HS.out.d1.cell 1; have x2 := HS.out.d1.cell 2; have xz := HS.out.d1.lt; have y0 := HS.out.d2.cell 0; have y1 := HS.out.d2.cell 1; have y2 := HS.out.d2.cell 2; have yz := HS.out.d2.lt
        simp at x0 x1 x2 y0 y1 y2
        cases wd with
        | true =>
          go_wp2_with fail
          ((with_reducible refine (head9_c _ (HTAB.out.past HS.out.bel)).mono ?_); rintro e w9 ⟨rfl, hb9⟩)
          have HB9 := hidE (HS.out.bel.trans (hb9.mono HS.out.bel.size))
          clear hb9 x0 x1 x2 xz y0 y1 y2 yz
          go_wp2
          try rw [Exit.noGoto_ret]
          go_ret
          exact ⟨rfl, HB9.out⟩
        | false =>
          obtain ⟨y, K, hF⟩ := one_cons HFF.out.len
          obtain ⟨z, L, hG⟩ := one_cons HFG.out.len
          obtain ⟨p, hp⟩ : ∃ p, Pn y K p := ⟨_, pn_of (by have := HFF.out; rw [hF] at this; exact this) (by rw [← hF, ← plain_lab_flat HFF.out.kok]; exact HWC.out)⟩
          obtain ⟨q, hq⟩ : ∃ q, Pn z L q := ⟨_, pn_of (by have := HFG.out; rw [hG] at this; exact this) (by rw [← hG, ← plain_lab_flat HFG.out.kok]; exact HWD.out)⟩
          have HF0 := hidE hF; have HG0 := hidE hG; have HPp := hidE hp; have HPq := hidE hq
          have hy : ∀ V : World, ArgP V a1 l1 → ∃ b off, a1 = some ⟨b, off, none⟩ ∧ b < V.heap.size ∧ V.cell? ⟨b, off, none⟩ = some (.int .u8 y.kind) := fun V h => by
            have e : l1 = { y with kids := (K.len : Int) } :: K.flat := by rw [HFl.out, hF]; simp [Fst.flat]
            obtain ⟨b, off, e1, e2, e3⟩ := h (by rw [e]; simp)
            have := (e3 0 (by rw [e]; simp)).1
            rw [e] at this
            exact ⟨b, off, e1, e2, by simpa using this⟩
          have HY := hidE hy
          have hn0 : 0 < n1 := by rw [← HZF.out, hF]; simp only [Fst.size]; omega
          have hn0' : (0 : Int) < (n1 : Int) := by omega
          clear hF hG hp hq hy HWC HWD
          obtain ⟨b1, o1, hab, hbz, hky⟩ := HY.out _ HS.out.T1
          subst hab
          obtain ⟨b2, o2, hab2, hbz2, -⟩ := HS.out.T2 (by rw [HGl.out, flat_len, HG0.out]; simp only [Fst.size]; omega)
          subst hab2
          clear HY
          go_upto_region 15 with fail
          obtain ⟨wx, hwx⟩ : ∃ wx, wx = w8.alloc (.cells #[.int .i64 f1, .int .i64 t1, .slice (some ⟨b1, o1, none⟩) n1 c1] 24) := ⟨_, rfl⟩
          have hbx : Below w8.heap.size w8 wx := by rw [hwx]; (repeat (first | exact Below.refl _ _ | assumption | refine balloc ?_ _ | refine below_drewN ?_ _ | refine bstep (by assumption) ?_ | refine bstep (Past.prop _) ?_ | refine Below.setCell ?_ (by first | exact Nat.le_refl _ | (simp; done) | (simp; omega)) _))
          have hP18 : Blk wx w8.heap.size #[.int .i64 f1, .int .i64 t1, .slice (some ⟨b1, o1, none⟩) n1 c1] 24 := by rw [hwx]; exact Blk.made _ _ _
          rw [← hwx]
          have HPZ0 := hidE (show W.heap.size + 2 ≤ w8.heap.size from by have := HS.out.d2.lt; omega)
          obtain ⟨p18, hp18⟩ : ∃ p, p = w8.heap.size := ⟨_, rfl⟩
          rw [← hp18] at hP18
          rw [← hp18]
          have hyk := (hbx.cell (p := ⟨b1, o1, none⟩) hbz).trans hky
          have hyz := Nat.lt_of_lt_of_le hbz hbx.size
          have HPX := hidE hP18; have HP18 := hidE hp18
          have HS' := hidE (HS.out.past hbx)
          clear HS hbx hwx hP18 hp18 x0 x1 x2 xz y0 y1 y2 yz hky hbz hbz2
          have HS := HS'
          clear HS'
          have x0 := HS.out.d1.cell 0; have x1 := HS.out.d1.cell 1; have x2 := HS.out.d1.cell 2; have xz := HS.out.d1.lt; have y0 := HS.out.d2.cell 0; have y1 := HS.out.d2.cell 1; have y2 := HS.out.d2.cell 2; have yz := HS.out.d2.lt
          simp at x0 x1 x2 y0 y1 y2
          go_cut [19] from 117 to 119 (fun v19 wy => ∃ k : Nat, v19 = .int .u8 k ∧ 1 ≤ k ∧ k ≤ 4 ∧ wy = wx)
          case first =>
            rcases (show kd % 4 = 0 ∨ kd % 4 = 1 ∨ kd % 4 = 2 ∨ kd % 4 = 3 by omega) with h | h | h | h
            · have m1 : Int.tmod kd 4 = 0 := by rw [Int.tmod_eq_emod_of_nonneg hk.1]; exact h
              go_wp2
              go_meet
              case rel => exact ⟨1, by first | rfl | simp, by omega, by omega, rfl⟩
            · have m1 : Int.tmod kd 4 = 1 := by rw [Int.tmod_eq_emod_of_nonneg hk.1]; exact h
              go_wp2
              go_meet
              case rel => exact ⟨2, by first | rfl | simp, by omega, by omega, rfl⟩
            · have m1 : Int.tmod kd 4 = 2 := by rw [Int.tmod_eq_emod_of_nonneg hk.1]; exact h
              go_wp2
              go_meet
              case rel => exact ⟨3, by first | rfl | simp, by omega, by omega, rfl⟩
            · have m1 : Int.tmod kd 4 = 3 := by rw [Int.tmod_eq_emod_of_nonneg hk.1]; exact h
              go_wp2
              go_meet
              case rel => exact ⟨4, by first | rfl | simp, by omega, by omega, rfl⟩
          case rest =>
          obtain ⟨k0, rfl, hk1, hk4, hwy⟩ := hcut
          subst hwy
          go_upto_region 16 with fail
          go_cut [129] from 120 to 129 (fun v129 wy => ∃ c : Bool, v129 = .bool c ∧ (c = false → k0 = 2 → y.kind = 0) ∧ wy = wc)
          case first =>
            by_cases hk2 : k0 = 2
            · have r1 : (k0 == 2) = true := by simp [hk2]
              have r2 : ((k0 : Int) == 2) = true := by simp [hk2]
              have HK2 := hidE hk2
              clear hk2
              by_cases hy0 : y.kind = 0
              · have r0 : ((y.kind : Int) != 0) = false := by simp [hy0]
                go_wp2
                all_goals first
                  | (exfalso; have := HK2.out; omega)
                  | (go_meet; exact ⟨_, rfl, fun _ _ => hy0, rfl⟩)
              · have r0 : ((y.kind : Int) != 0) = true := by simp; omega
                go_wp2
                all_goals first
                  | (exfalso; have := HK2.out; omega)
                  | (go_meet; exact ⟨true, by first | rfl | simp, fun e => (by cases e), rfl⟩)
            · have r0 : ((k0 : Int) == 2) = false := by simp; omega
              have r1 : (k0 == 2) = false := by simp; omega
              go_wp2
              go_meet
              case rel => exact ⟨_, rfl, fun _ e => absurd e hk2, rfl⟩
          case rest =>
          obtain ⟨cb, rfl, hcb, hwy⟩ := hcut
          subst hwy
          go_upto_if 129 with fail
          go_cut [19] (fun v19 wy => ∃ k : Nat, v19 = .int .u8 k ∧ 1 ≤ k ∧ k ≤ 4 ∧ (k = 2 → y.kind = 0) ∧ wy = wc)
          case first =>
            cases cb with
            | false =>
              go_wp2
              go_meet
              case rel => exact ⟨k0, rfl, hk1, hk4, hcb (by simp), rfl⟩
            | true =>
              go_wp2
              go_meet
              case rel => exact ⟨3, rfl, by omega, by omega, fun e => by omega, rfl⟩
          case rest =>
          obtain ⟨k, rfl, hk1', hk4', hk2, hwy⟩ := hcut
          subst hwy
          obtain ⟨iP, hiP, hP0, hP1, hP2⟩ := info_parts Tryz.infoPart
          have HIP := hidE hiP; have HP0 := hidE hP0; have HP1 := hidE hP1; have HP2 := hidE hP2
          have HKK := hidE (show 1 ≤ k ∧ k ≤ 4 ∧ (k = 2 → y.kind = 0) from ⟨hk1', hk4', hk2⟩)
          have HOFK := hidE (fun V : World => show Calls Tryz.prog 10 #[.int .u8 k, .int .i64 1] V _ from ofl9_c k 1 V)
          clear hiP hP0 hP1 hP2 hk1 hk4 hcb hk1' hk4' hk2 hn0'
          go_upto_region 18 with fail
          have hn02 : 0 < n2 := by rw [← HZG.out, HG0.out]; simp only [Fst.size]; omega
          have HPZ := hidE (show W.heap.size + 2 ≤ p18 from by rw [HP18.out]; exact HPZ0.out)
          go_cut [] (fun wz => ((∃ (a5 : Option Addr) (c5 : Nat), Blk wz p18 #[.int .i64 f1, .int .i64 t1, .slice a5 (1 + n1) c5] 24 ∧ ArgP wz a5 (⟨k, 0, 0, 0, 1⟩ :: l1) ∧ (∀ xx, a5 = some xx → xx.block ≠ p18)) ∧ A2 W f1 t1 (some ⟨b1, o1, none⟩) l1 n1 c1 f2 t2 (some ⟨b2, o2, none⟩) l2 n2 c2 wz))
          case first =>
            have x0 := HS.out.d1.cell 0; have x1 := HS.out.d1.cell 1; have x2 := HS.out.d1.cell 2; have xz := HS.out.d1.lt; have y0 := HS.out.d2.cell 0; have y1 := HS.out.d2.cell 1; have y2 := HS.out.d2.cell 2; have yz := HS.out.d2.lt
            simp at x0 x1 x2 y0 y1 y2
            have SR1 := hidE (srcV_P (cap := c1) HS.out.T1 HN1.out.symm hn0)
            have SR2 := hidE (srcV_P (cap := c2) HS.out.T2 HN2.out.symm hn02)
            have HOK : ApOk (fun i => ([some (.int .u8 k), some (prtV ⟨k, 0, 0, 0, 1⟩), none, some (.pointer (some ⟨W.heap.size, 2, none⟩)), some (.slice (some ⟨b1, o1, none⟩) n1 c1), none, some (.pointer (some ⟨p18, 2, none⟩))] : List (Option Value)).getD i none) 2 5 999 := ⟨by decide, rfl, rfl, rfl⟩
            refine wp_region_C 7 (Ap1 35 5 wc (fun i => ([some (.int .u8 k), some (prtV ⟨k, 0, 0, 0, 1⟩), none, some (.pointer (some ⟨W.heap.size, 2, none⟩)), some (.slice (some ⟨b1, o1, none⟩) n1 c1), none, some (.pointer (some ⟨p18, 2, none⟩))] : List (Option Value)).getD i none) 2 5 1 n1 (cellsOfP [⟨k, 0, 0, 0, 1⟩]) (cellsOfP l1)) (by kernel_rfl) (by simp) (by kernel_rfl) (ap1_start (Below.refl _ _).drew) ?_ ?_
            · intro i o hi ho
              match i, hi with
              | 0, _ =>
                have eo := Option.some.inj ho
                have hg : o.guard = none := by rw [← eo]
                refine cstep_evF hg ?_
                intro E L u w9 E1 E0 EC EF hl hw hI
                subst eo
                have e := (E0 19 (by kernel_rfl)).trans (show _ = Value.int .u8 k from rfl)
                refine gives_ok (v := .int .u8 k) (w' := w9) (by simp [execOp, go_sem, e]) ?_
                exact hI.ndet HOK rfl (Below.refl _ _)
              | 1, _ =>
                have eo := Option.some.inj ho
                have hg : o.guard = none := by rw [← eo]
                refine cstep_evF hg ?_
                intro E L u w9 E1 E0 EC EF hl hw hI
                subst eo
                have e := (E1 130 0 (by kernel_rfl) (by simp)).trans (hI.det 0 _ rfl (hw 0 (by decide) (by kernel_rfl)))
                refine gives_call (f := 10) (args := #[.int .u8 k, .int .i64 1]) (w' := w9) (by simp [execOp, go_sem, e, EC, EF]) (HOFK.out w9) (fun e w2 q => by obtain ⟨rfl, hb⟩ := q; exact ⟨_, rfl, hI.ndet HOK rfl hb⟩)
              | 2, _ =>
                have eo := Option.some.inj ho
                have hg : o.guard = none := by rw [← eo]
                refine cstep_evF hg ?_
                intro E L u w9 E1 E0 EC EF hl hw hI
                subst eo
                have e := (E1 131 1 (by kernel_rfl) (by simp)).trans (hI.det 1 _ rfl (hw 1 (by decide) (by kernel_rfl)))
                refine gives_ok (v := .slice (some ⟨w9.heap.size, 0, none⟩) 1 1) (w' := w9.alloc (.cells #[.int .u8 k, .int .u32 0, .int .u32 0, .int .i64 0, .int .i64 1] 35)) (by simp [execOp, go_sem, e]) ?_
                exact hI.nbuild HOK hl (own_blkP (x := ⟨k, 0, 0, 0, 1⟩) (Blk.made _ _ _) hI.bel.size) ((Below.refl _ w9).alloc (Nat.le_refl _) _)
              | 3, _ =>
                have eo := Option.some.inj ho
                have hg : o.guard = none := by rw [← eo]
                refine cstep_evF hg ?_
                intro E L u w9 E1 E0 EC EF hl hw hI
                subst eo
                have e := (E0 3 (by kernel_rfl)).trans (show _ = Value.pointer (some ⟨W.heap.size, 0, none⟩) from rfl)
                refine gives_ok (v := .pointer (some ⟨W.heap.size, 2, none⟩)) (w' := w9) (by simp [execOp, go_sem, e]) ?_
                exact hI.ndet HOK rfl (Below.refl _ _)
              | 4, _ =>
                have eo := Option.some.inj ho
                have hg : o.guard = none := by rw [← eo]
                refine cstep_evF hg ?_
                intro E L u w9 E1 E0 EC EF hl hw hI
                subst eo
                have e := (E1 133 3 (by kernel_rfl) (by simp)).trans (hI.det 3 _ rfl (hw 3 (by decide) (by kernel_rfl)))
                have c := (hI.bel.cell (p := ⟨W.heap.size, 2, none⟩) xz).trans x2
                refine gives_ok (v := .slice (some ⟨b1, o1, none⟩) n1 c1) (w' := w9) (by simp [execOp, go_sem, e, c]) ?_
                exact hI.ndet HOK rfl (Below.refl _ _)
              | 5, _ =>
                have eo := Option.some.inj ho
                have hg : o.guard = none := by rw [← eo]
                refine cstep_evF hg ?_
                intro E L u w9 E1 E0 EC EF hl hw hI
                subst eo
                have e := E1 132 2 (by kernel_rfl) (by simp)
                have e2 := (E1 134 4 (by kernel_rfl) (by simp)).trans (hI.det 4 _ rfl (hw 4 (by decide) (by kernel_rfl)))
                have hpw := hw 2 (by decide) (by kernel_rfl)
                refine gives_appV (.tmp 132) (.tmp 134) 22 rfl wc.heap.size 35 iP _ 5 32 Tryz.underlying22 HIP.out HP0.out HP1.out HP2.out rfl (by decide) 1 (cellsOfP [⟨k, 0, 0, 0, 1⟩]) (by rw [e]; exact hI.rB hpw hl) n1 (cellsOfP l1) (by rw [e2]; exact srcV_pastN SR1.out hI.bel) (by omega) (by omega) hI.bel.size ?_
                intro v' w' ho hg
                rw [e] at hg
                exact hI.napp1 HOK hl hpw ho hg
              | 6, _ =>
                have eo := Option.some.inj ho
                have hg : o.guard = none := by rw [← eo]
                refine cstep_evF hg ?_
                intro E L u w9 E1 E0 EC EF hl hw hI
                subst eo
                have e := (E0 18 (by kernel_rfl)).trans (show _ = Value.pointer (some ⟨p18, 0, none⟩) from rfl)
                refine gives_ok (v := .pointer (some ⟨p18, 2, none⟩)) (w' := w9) (by simp [execOp, go_sem, e]) ?_
                exact hI.ndet HOK rfl (Below.refl _ _)
              | i + 7, h => exact absurd h (by omega)
            · intro L u w9 hall hI
              have eZ := hI.det 6 _ rfl (hall 6 (by decide))
              have ho := hI.r1 (hall 5 (by decide))
              obtain ⟨a6, c6, e6⟩ := own_sli ho
              rw [e6] at ho
              have hb9 := hI.bel
              have hp9 := HPX.out.past hb9
              have hq9 := hp9.lt; have hf9 := hp9.free 2; have hc9 := hp9.cell 2
              simp at hc9
              simp only [frm, List.take, Act.put, eZ, e6]
              have HO := hidE ho; have HPP := hidE hp9; have HBW := hidE hb9
              clear eZ e6 ho hp9 hb9 hI hall HOK x0 x1 x2 xz y0 y1 y2 yz
              go_wp2
              go_meet
              case rel =>
                exact app_end (l := [⟨k, 0, 0, 0, 1⟩] ++ l1) (tot := 1 + n1) (by have hl1 := HN1.out; have hl2 := HN2.out; simp only [List.length_append, List.length_cons, List.length_nil]; omega) HO.out (by simp only [cellsOfP_app]) HPP.out HPX.out.lt HPZ.out HS.out HBW.out (by simp) HPX.out.lt
          case rest =>
          obtain ⟨⟨a5, c5, hB5, hA5, _⟩, hS5⟩ := hcut
          apply_assumption
          exact alike_tail _ (by kernel_rfl) HTAB HN1 HN2 HFF HFG HFl HGl HZF HZG HDF HDG HF0 HG0 HPp HPq HKK hn0 hn02 h3 h4 hk hS5 hB5 hA5
theorem alike_walk (f1 t1 : Int) (a1 : Option Addr) (l1 : List Prt) (n1 c1 : Nat) (f2 t2 : Int) (a2 : Option Addr) (l2 : List Prt) (n2 c2 : Nat) (kd : Int) (W : World) (hn1 : n1 = l1.length) (hn2 : n2 = l2.length) (hl1 : n1 ≤ 9223372036854775807) (hl2 : n2 ≤ 9223372036854775807) (hA1 : ArgP W a1 l1) (hA2 : ArgP W a2 l2) (hf1 : -9223372036854775808 ≤ f1 ∧ f1 ≤ 9223372036854775807) (ht1 : -9223372036854775808 ≤ t1 ∧ t1 ≤ 9223372036854775807) (hf2 : -9223372036854775808 ≤ f2 ∧ f2 ≤ 9223372036854775807) (ht2 : -9223372036854775808 ≤ t2 ∧ t2 ≤ 9223372036854775807) (hTab : Tab W) (hc1 : n1 ≤ c1 ∧ c1 ≤ 9223372036854775807) (hc2 : n2 ≤ c2 ∧ c2 ≤ 9223372036854775807) (hk : 0 ≤ kd ∧ kd ≤ 255) :
    Calls Tryz.prog 3 #[defV f1 t1 a1 n1 c1, defV f2 t2 a2 n2 c2, .int .u8 kd] W fun e w' => e = .returned (.bool true) ∧ Below W.heap.size W w' := by
  by_cases h : (chkS f1 t1 l1).2 = 0 ∧ (chkS f2 t2 l2).2 = 0 ∧ n1 ≤ 30 ∧ n2 ≤ 30
  · by_cases hd : (∃ j, j < n1 ∧ 6 < depthS l1 j) ∨ ∃ j, j < n2 ∧ 6 < depthS l2 j
    · exact alike_deep f1 t1 a1 l1 n1 c1 f2 t2 a2 l2 n2 c2 kd W hn1 hn2 hl1 hl2 hA1 hA2 hf1 ht1 hf2 ht2 hTab hc1 hc2 hk h.1 h.2.1 h.2.2.1 h.2.2.2 hd
    · exact alike_yes f1 t1 a1 l1 n1 c1 f2 t2 a2 l2 n2 c2 kd W hn1 hn2 hl1 hl2 hA1 hA2 hf1 ht1 hf2 ht2 hTab hc1 hc2 hk h.1 h.2.1 h.2.2.1 h.2.2.2 (fun j hj => Nat.le_of_not_lt fun c => hd (.inl ⟨j, hj, c⟩)) (fun j hj => Nat.le_of_not_lt fun c => hd (.inr ⟨j, hj, c⟩))
  · exact alike_no f1 t1 a1 l1 n1 c1 f2 t2 a2 l2 n2 c2 kd W hn1 hn2 hl1 hl2 hA1 hA2 hf1 ht1 hf2 ht2 hTab h
end Go.Proofs.YtioalnncjahlnaaGreatDoor
