/- What is made of two functions, told by values. No program. No conditions. What the statement on averages and limits rests on. No program. No conditions. A number's last twelve bits. No conditions. The walk of the statement on averages and limits. Conditions: that the slices read as policies, as a function. PolicyKinds: for every row of policies, every time and any function, the statement's function answers true and leaves its arguments alone. No conditions. -/
import Derived.Test.YthlepbbdjmmelaaGreatPPMA
import Derived.Test.YthlepbbdjmmelaaGreatPPMB
import Derived.WalkKit
import Derived.WalkSmall
import Derived.Test.YthlepbbdjmmelaaGreatPPGG
import Derived.Test.YthlepbbdjmmelaaGreatPPGD
import Derived.Test.YthlepbbdjmmelaaGreatPPGA
namespace Go.Proofs.YthlepbbdjmmelaaGreat

theorem doS_vals {k : Int} {F G D : List Sg} (h : doS k F G = (D, 0)) : mayB F = true ∧ mayB G = true ∧ mayB D = true ∧ ∀ t, opT k F G t = ((vat D t).1, (vat D t).2, 0) := by
  unfold doS at h
  split at h
  · cases h
  · rename_i h1
    obtain ⟨a, b⟩ : mayB F = true ∧ mayB G = true := by simpa using h1
    split at h
    · rename_i h2
      cases h
      obtain ⟨c1, c2⟩ := opL_spec (mayB_iff.1 a) (mayB_iff.1 b) h2
      refine ⟨a, b, mayB_iff.2 c1, fun t => ?_⟩
      rw [c2 t]
      have := opOk_iff.1 h2 t
      unfold opW
      exact Prod.ext rfl (Prod.ext rfl this)
    · cases h
theorem doS_of {k : Int} {F G R : List Sg} (hF : mayB F = true) (hG : mayB G = true) (hR : mayB R = true) (h : ∀ t, opT k F G t = ((vat R t).1, (vat R t).2, 0)) : doS k F G = (R, 0) := by
  have hok : opOk k F G = true := opOk_iff.2 fun t => by rw [h t]
  unfold doS
  rw [hF, hG, if_neg (by decide), if_pos hok]
  rw [opL_unique (mayB_iff.1 hF) (mayB_iff.1 hG) hok (mayB_iff.1 hR) fun t => by unfold opW; rw [h t]]
theorem doS_ext {k : Int} {F G F' G' : List Sg} (hF : mayB F = true) (hG : mayB G = true) (hF' : mayB F' = true) (hG' : mayB G' = true) (h : ∀ t, opT k F G t = opT k F' G' t) : doS k F G = doS k F' G' := by
  by_cases hok : opOk k F G = true
  · have e : doS k F G = (opL k F G, 0) := by unfold doS; rw [hF, hG, if_neg (by decide), if_pos hok]
    rw [e]
    obtain ⟨_, _, hm, hv⟩ := doS_vals e
    exact (doS_of hF' hG' hm fun t => by rw [← h t, hv t]).symm
  · have hok' : ¬ opOk k F' G' = true := fun h' => hok (opOk_iff.2 fun t => by rw [h t]; exact opOk_iff.1 h' t)
    unfold doS
    rw [hF, hG, hF', hG', if_neg (by decide), if_neg hok, if_neg (by decide), if_neg hok']
/-- A function's least with itself. -/
theorem min_self {F : List Sg} (h : mayB F = true) : doS 2 F F = (F, 0) := doS_of h h h fun t => by
  unfold opT
  obtain ⟨a, b⟩ := vat F t
  rw [opV_2]
  unfold mn
  simp
end Go.Proofs.YthlepbbdjmmelaaGreat

namespace Go.Proofs.YthlepbbdjmmelaaGreat

theorem chk_user {c : Int × Int} {now : Int} {H : List Sg} (hc : capB c = true) (hn : nowB now = true) (hH : mayB H = true) : chkP (1, c, 0) now [] [] H = ((ansP (1, c, 0) now [] [] H).1, atMost H now c, 0) :=
  chk_now (by unfold polB; simp [hc]) hn rfl rfl hH
/-- What is known of a limit, of an average over one time, and of any other average. -/
theorem kinds_known {c : Int × Int} {now n : Int} {H : List Sg} (hc : capB c = true) (hn : nowB now = true) (h1 : 1 ≤ n) (h2 : n ≤ 4096) (hH : mayB H = true) :
    ∃ t t2 b2, chkP (1, c, 0) now [] [] H = (t, atMost H now c, 0) ∧ chkP (2, c, 1) now [] [] H = (t, atMost H now c, 0) ∧ chkP (2, c, n) now [] [] H = (t2, b2, 0) ∧ (atMost H now c = true → b2 = true) := by
  have ha : nowB now = true := hn
  refine ⟨_, _, _, chk_user hc hn hH, ?_, chk_now (by unfold polB; simp [hc, h1, h2]) hn rfl rfl hH, fun h => ?_⟩
  · rw [chk_now (by unfold polB; simp [hc]) hn rfl rfl hH, ← ans_one hc hn rfl rfl hH]; rfl
  · rw [ans_wide hc hn h1 h2 rfl rfl hH h]
theorem everyB_step {H : List Sg} {now : Int} {l : List Pol} {k : Nat} (h : k < l.length) : everyB H now (l.take (k + 1)) = (everyB H now (l.take k) && (!(userB (l.getD k (0, (0, 0), 0))) || atMost H now (l.getD k (0, (0, 0), 0)).2.1)) := by
  rw [← everyB_snoc]
  congr 1
  rw [List.take_add_one, List.getElem?_eq_getElem h]
  simp [List.getD_eq_getElem?_getD, h]
end Go.Proofs.YthlepbbdjmmelaaGreat

namespace Go.Proofs.YthlepbbdjmmelaaGreat
theorem and_4095 (x : Int) : 0 ≤ bits BinOp.and IntKind.i64 x 4095 ∧ bits BinOp.and IntKind.i64 x 4095 ≤ 4095 := by
  have h : (BitVec.ofInt 64 x &&& BitVec.ofInt 64 4095).toNat ≤ 4095 := by
    rw [BitVec.toNat_and]
    exact Nat.le_trans Nat.and_le_right (by decide)
  have e : bits BinOp.and IntKind.i64 x 4095 = IntKind.i64.wrap ((BitVec.ofInt 64 x &&& BitVec.ofInt 64 4095).toNat : Int) := rfl
  rw [e]
  generalize (BitVec.ofInt 64 x &&& BitVec.ofInt 64 4095).toNat = m at h
  simp [IntKind.wrap, IntKind.bits, IntKind.signed]
  omega
end Go.Proofs.YthlepbbdjmmelaaGreat

namespace Go.Proofs.YthlepbbdjmmelaaGreat
open Go.ChangeShapes Go.WideShapes Go.ChangeAt Go.RowKit
attribute [local irreducible] Go.Calls

theorem rdo13_s {k : Int} {w : World} {n m c1 c2 : Nat} {a1 a2 : Option Addr} {F G r : List Sg} {er : Int} (h1 : SliS w (.slice a1 n c1) F) (h2 : SliS w (.slice a2 m c2) G) (hl : n + m ≤ 100000) (he : doS k F G = (r, er)) :
    Calls Tryz.prog 51 #[.int .i64 k, .slice a1 n c1, .slice a2 m c2] w (OfIs w r er) := by
  obtain ⟨e1, q1, q2, q3⟩ := h1.len; obtain ⟨e2, s1, s2, s3⟩ := h2.len
  subst e1; subst e2
  have := rdo_c k F G a1 a2 c1 c2 w (by omega) q3 s3
  rw [he] at this; exact this
/-- What the walk keeps: the three functions in their block. -/
def KdI (p : Nat) (aF : Option Addr) (nF cF : Nat) (w wx : World) : Prop := Blk wx p #[.slice none 0 0, .slice none 0 0, .slice aF nF cF] 85 ∧ Below w.heap.size w wx
theorem KdI.past {p nF cF : Nat} {aF : Option Addr} {w wx wy : World} (h : KdI p aF nF cF w wx) (hb : Below wx.heap.size wx wy) : KdI p aF nF cF w wy := ⟨h.1.past hb, bstep hb h.2⟩
set_option maxRecDepth 100000 in
set_option maxHeartbeats 8000000 in
theorem pokinds_c {f : List Sg} (l : List Pol) (al : Option Addr) (cl : Nat) (now : Int) (aF : Option Addr) (nF cF : Nat) (w : World) (hA : ArgPs w al l) (h64 : ∀ x ∈ l, P64 x) (S : SliS w (.slice aF nF cF) f) :
    Calls Tryz.prog 11 #[.slice al l.length cl, .int .i64 now, .slice aF nF cF] w fun e w' => e = .returned (.bool true) ∧ Below w.heap.size w w' := by
  have HA := hidE hA; have H64 := hidE h64; have HSF := hidE S
  clear hA h64 S
  by_cases h0 : 8 < l.length
  · skip
    have e0 : decide ((8 : Int) < (l.length : Int)) = true := decide_eq_true (by omega)
    clear h0
    go_enter Tryz.func11, Tryz.ntmps11
    go_wp2_with (go_at_call 37; ((with_reducible refine (pohead_c _).mono ?_); rintro e w9 ⟨rfl, hb9⟩))
    go_ret
    exact ⟨rfl, by (repeat (first | exact Below.refl _ _ | assumption | refine balloc ?_ _ | refine below_drewN ?_ _ | refine bstep (by assumption) ?_ | refine bstep (Past.prop _) ?_ | refine Below.setCell ?_ (by first | exact Nat.le_refl _ | (simp; done) | (simp; omega)) _))⟩
  by_cases h1 : 30 < nF
  · skip
    have e0 : decide ((8 : Int) < (l.length : Int)) = false := decide_eq_false (by omega)
    have e1 : decide ((30 : Int) < (nF : Int)) = true := decide_eq_true (by omega)
    clear h0 h1
    go_enter Tryz.func11, Tryz.ntmps11
    go_wp2_with (go_at_call 37; ((with_reducible refine (pohead_c _).mono ?_); rintro e w9 ⟨rfl, hb9⟩))
    go_ret
    exact ⟨rfl, by (repeat (first | exact Below.refl _ _ | assumption | refine balloc ?_ _ | refine below_drewN ?_ _ | refine bstep (by assumption) ?_ | refine bstep (Past.prop _) ?_ | refine Below.setCell ?_ (by first | exact Nat.le_refl _ | (simp; done) | (simp; omega)) _))⟩
  by_cases h2 : now < -1099511627776
  · skip
    have e0 : decide ((8 : Int) < (l.length : Int)) = false := decide_eq_false (by omega)
    have e1 : decide ((30 : Int) < (nF : Int)) = false := decide_eq_false (by omega)
    have e2 : decide (now < -1099511627776) = true := decide_eq_true (by omega)
    clear h0 h1 h2
    go_enter Tryz.func11, Tryz.ntmps11
    go_wp2_with (go_at_call 37; ((with_reducible refine (pohead_c _).mono ?_); rintro e w9 ⟨rfl, hb9⟩))
    go_ret
    exact ⟨rfl, by (repeat (first | exact Below.refl _ _ | assumption | refine balloc ?_ _ | refine below_drewN ?_ _ | refine bstep (by assumption) ?_ | refine bstep (Past.prop _) ?_ | refine Below.setCell ?_ (by first | exact Nat.le_refl _ | (simp; done) | (simp; omega)) _))⟩
  by_cases h3 : 1099511627776 < now
  · skip
    have e0 : decide ((8 : Int) < (l.length : Int)) = false := decide_eq_false (by omega)
    have e1 : decide ((30 : Int) < (nF : Int)) = false := decide_eq_false (by omega)
    have e2 : decide (now < -1099511627776) = false := decide_eq_false (by omega)
    have e3 : decide (1099511627776 < now) = true := decide_eq_true (by omega)
    clear h0 h1 h2 h3
    go_enter Tryz.func11, Tryz.ntmps11
    go_wp2_with (go_at_call 37; ((with_reducible refine (pohead_c _).mono ?_); rintro e w9 ⟨rfl, hb9⟩))
    go_ret
    exact ⟨rfl, by (repeat (first | exact Below.refl _ _ | assumption | refine balloc ?_ _ | refine below_drewN ?_ _ | refine bstep (by assumption) ?_ | refine bstep (Past.prop _) ?_ | refine Below.setCell ?_ (by first | exact Nat.le_refl _ | (simp; done) | (simp; omega)) _))⟩
  have e0 : decide ((8 : Int) < (l.length : Int)) = false := decide_eq_false (by omega)
  have e1 : decide ((30 : Int) < (nF : Int)) = false := decide_eq_false (by omega)
  have e2 : decide (now < -1099511627776) = false := decide_eq_false (by omega)
  have e3 : decide (1099511627776 < now) = false := decide_eq_false (by omega)
  cases hm : mayB f
  · go_enter Tryz.func11, Tryz.ntmps11
    go_upto_region 1 with fail
    go_wp2_with fail
    ((with_reducible refine (rmay_s HSF.out (by omega) hm).mono ?_); rintro e w1 ⟨rfl, hb1⟩)
    go_wp2_with (go_at_call 37; ((with_reducible refine (pohead_c _).mono ?_); rintro e w9 ⟨rfl, hb9⟩))
    go_ret
    exact ⟨rfl, by (repeat (first | exact Below.refl _ _ | assumption | refine balloc ?_ _ | refine below_drewN ?_ _ | refine bstep (by assumption) ?_ | refine bstep (Past.prop _) ?_ | refine Below.setCell ?_ (by first | exact Nat.le_refl _ | (simp; done) | (simp; omega)) _))⟩
  have hn : nowB now = true := nowB_iff.2 ⟨by omega, by omega⟩
  have HKN := hidE (fun (c : Int × Int) (n : Int) (hc : capB c = true) (h1 : 1 ≤ n) (h2 : n ≤ 4096) => kinds_known (H := f) hc hn h1 h2 hm)
  have HLE := hidE (least_every hn hm l)
  have HCL := hidE (chk_user (leastV_cap l) hn hm)
  have HCM := hidE (chk_user (c := mostV) most_cap hn hm)
  have HMS := hidE (min_self hm)
  have HLM := hidE (leastV_cap l)
  go_enter Tryz.func11, Tryz.ntmps11
  go_upto_region 1 with fail
  go_wp2_with fail
  ((with_reducible refine (rmay_s HSF.out (by omega) hm).mono ?_); rintro e w1 ⟨rfl, hb1⟩)
  have hl8 : l.length ≤ 8 := by omega
  have hn30 : nF ≤ 30 := by omega
  clear h0 h1 h2 h3 hm hn
  go_upto_region 5 with fail
  obtain ⟨w2, hw2⟩ : ∃ w2, w2 = w1.alloc (Obj.cells #[.slice none 0 0, .slice none 0 0, .slice aF nF cF] 85) := ⟨_, rfl⟩
  rw [← hw2]
  have HI0 : KdI w1.heap.size aF nF cF w w2 := by rw [hw2]; exact ⟨Blk.made _ _ _, hb1.alloc hb1.size _⟩
  have hpz : w.heap.size ≤ w1.heap.size := hb1.size
  clear hw2 hb1 e0 e1 e2 e3
  generalize w1.heap.size = p7 at *
  go_wp2
  go_loopw [8, 9] (fun ev i wr => ∃ k : Nat, k ≤ l.length ∧ i = .int .i64 k ∧ ev = .bool (everyB f now (l.take k)) ∧ KdI p7 aF nF cF w wr) (fun _ i _ => l.length - (intOf i).toNat)
  case atStart => exact ⟨0, Nat.zero_le _, rfl, rfl, HI0⟩
  case round =>
    obtain ⟨k, hk, rfl, rfl, HI⟩ := hrel
    obtain ⟨B7, hB⟩ := HI
    have HB := hidE hB
    have hp7 := B7.lt
    clear HI0
    by_cases hlt : k < l.length
    · obtain ⟨b, off, rfl, hbz, hc⟩ := HA.out (by omega)
      have hbr : b < wr.heap.size := Nat.lt_of_lt_of_le hbz hB.size
      obtain ⟨c0, c1, c2, c3⟩ := hc k hlt
      rw [← hB.cell hbz] at c0 c1 c2 c3
      have HST := hidE (everyB_step (H := f) (now := now) hlt)
      have hq : P64 (l.getD k (0, (0, 0), 0)) := by
        rw [List.getD_eq_getElem?_getD, List.getElem?_eq_getElem hlt]; exact H64.out _ (List.getElem_mem hlt)
      generalize l.getD k (0, (0, 0), 0) = q at *
      obtain ⟨qk, ⟨qa, qb⟩, qn⟩ := q
      simp only at c0 c1 c2 c3
      have hq1 : 0 ≤ qk ∧ qk ≤ 255 := hq.1
      clear hq hc
      generalize everyB f now (l.take k) = ev at *
      by_cases k1 : qk = 1
      rotate_left
      · have z1 : (qk == 1) = false := beq_eq_false_iff_ne.2 k1
        have z2 : (qk != 1) = true := bne_iff_ne.2 k1
        have hu : userB (qk, (qa, qb), qn) = false := by unfold userB; simp [k1]
        have HN := HST.out
        rw [hu, Bool.not_false, Bool.true_or, Bool.and_true] at HN
        have HN := hidE HN
        clear hu HST k1
        go_wp2
        exact ⟨⟨k + 1, by omega, by go_num, by rw [HN.out], B7.alloc _, by have := HB.out; (repeat (first | exact Below.refl _ _ | assumption | refine balloc ?_ _ | refine below_drewN ?_ _ | refine bstep (by assumption) ?_ | refine bstep (Past.prop _) ?_ | refine Below.setCell ?_ (by first | exact Nat.le_refl _ | (simp; done) | (simp; omega)) _))⟩, by simp [intOf]; omega⟩
      subst k1
      cases hp : polB (1, (qa, qb), qn)
      · have hu : userB (1, (qa, qb), qn) = false := by unfold userB; rw [hp]; rfl
        have HN := HST.out
        rw [hu, Bool.not_false, Bool.true_or, Bool.and_true] at HN
        have HN := hidE HN
        clear hu HST
        go_wp2_with fail
        ((with_reducible refine (pomay_eq hq1 hp).mono ?_); rintro e w3 ⟨rfl, hb3⟩)
        go_wp2
        exact ⟨⟨k + 1, by omega, by go_num, by rw [HN.out], (B7.alloc _).past hb3, by have := HB.out; (repeat (first | exact Below.refl _ _ | assumption | refine balloc ?_ _ | refine below_drewN ?_ _ | refine bstep (by assumption) ?_ | refine bstep (Past.prop _) ?_ | refine Below.setCell ?_ (by first | exact Nat.le_refl _ | (simp; done) | (simp; omega)) _))⟩, by simp [intOf]; omega⟩
      have hu : userB (1, (qa, qb), qn) = true := by unfold userB; rw [hp]; rfl
      have HN := HST.out
      rw [hu, Bool.not_true, Bool.false_or] at HN
      simp only at HN
      have HN := hidE HN
      obtain ⟨hqq, hcap⟩ := userB_cap hu
      simp only [Prod.mk.injEq] at hqq
      obtain ⟨_, _, hqn⟩ := hqq
      simp only at hcap
      subst hqn
      clear hu HST
      go_wp2_with fail
      ((with_reducible refine (pomay_eq hq1 hp).mono ?_); rintro e w3 ⟨rfl, hb3⟩)
      have B10 := (Blk.made wr #[.int .u8 1, .int .i64 qa, .int .i64 qb, .int .i64 0] 84).past hb3
      have B7 := (B7.alloc (.cells #[.int .u8 1, .int .i64 qa, .int .i64 qb, .int .i64 0] 84)).past hb3
      have hB3 : Below w.heap.size w w3 := by have := HB.out; (repeat (first | exact Below.refl _ _ | assumption | refine balloc ?_ _ | refine below_drewN ?_ _ | refine bstep (by assumption) ?_ | refine bstep (Past.prop _) ?_ | refine Below.setCell ?_ (by first | exact Nat.le_refl _ | (simp; done) | (simp; omega)) _))
      have HB3 := hidE hB3
      have hrz : w.heap.size ≤ wr.heap.size := HB.out.size
      clear hb3 c0 c1 c2 c3 hB hB3
      have HK1 := hidE (fun n h1 h2 => HKN.out (qa, qb) n hcap h1 h2)
      obtain ⟨ux, hux⟩ : ∃ ux, ux = 1 + bits BinOp.and IntKind.i64 (bits BinOp.and IntKind.i64 now 4095 + 4096) 4095 := ⟨_, rfl⟩
      have hux1 : 1 ≤ ux ∧ ux ≤ 4096 := by have := and_4095 (bits BinOp.and IntKind.i64 now 4095 + 4096); omega
      obtain ⟨t, t2, av, hk1, hk2, hk3, hav⟩ := HK1.out ux hux1.1 hux1.2
      have HC1 := hidE hk1; have HC2 := hidE hk2; have HC3 := hidE hk3; have HAV := hidE hav
      have HUX := hidE hux
      have hand := and_4095 now
      clear hk1 hk2 hk3 hav HK1 hcap hux
      generalize atMost f now (qa, qb) = is at *
      have c0 := B10.cell 0; have c1 := B10.cell 1; have c2 := B10.cell 2; have c3 := B10.cell 3; have cf := B10.free; have cz := B10.lt
      simp at c0 c1 c2 c3
      have d0 := B7.cell 0; have d1 := B7.cell 1; have d2 := B7.cell 2; have dz := B7.lt
      simp at d0 d1 d2
      go_wp2_with fail
      ((with_reducible refine (pchk_eq (F := []) (G := []) (H := f) (by omega) (sliS_nil _) (sliS_nil _) (HSF.out.past (by have := HB3.out; (repeat (first | exact Below.refl _ _ | assumption | refine balloc ?_ _ | refine below_drewN ?_ _ | refine bstep (by assumption) ?_ | refine bstep (Past.prop _) ?_ | refine Below.setCell ?_ (by first | exact Nat.le_refl _ | (simp; done) | (simp; omega)) _)))) (by omega) (by omega) (by omega) HC1.out).mono ?_); rintro e w4 ⟨rfl, hb4⟩)
      have B10 := B10.past hb4; have B7 := B7.past hb4
      have hB4 : Below w.heap.size w w4 := by have := HB3.out; (repeat (first | exact Below.refl _ _ | assumption | refine balloc ?_ _ | refine below_drewN ?_ _ | refine bstep (by assumption) ?_ | refine bstep (Past.prop _) ?_ | refine Below.setCell ?_ (by first | exact Nat.le_refl _ | (simp; done) | (simp; omega)) _))
      have HB4 := hidE hB4
      clear hb4 c0 c1 c2 c3 cf cz d0 d1 d2 dz HB3 hB4
      have c0 := B10.cell 0; have c1 := B10.cell 1; have c2 := B10.cell 2; have c3 := B10.cell 3; have cf := B10.free; have cz := B10.lt
      simp at c0 c1 c2 c3
      have d0 := B7.cell 0; have d1 := B7.cell 1; have d2 := B7.cell 2; have dz := B7.lt
      simp at d0 d1 d2
      go_upto_region 11 with fail
      have HX := hidE (show ∀ wz : World, wz = ((w4.alloc (.cells #[.int .u8 1, .int .i64 qa, .int .i64 qb, .int .i64 0] 84)).alloc (.cells #[.int .u8 1, .int .i64 qa, .int .i64 qb, .int .i64 0] 84)).drew → Blk wz w4.heap.size #[.int .u8 1, .int .i64 qa, .int .i64 qb, .int .i64 0] 84 ∧ Blk wz (w4.heap.size + 1) #[.int .u8 1, .int .i64 qa, .int .i64 qb, .int .i64 0] 84 ∧ Below w4.heap.size w4 wz from fun wz hz => by
        subst hz
        exact ⟨(Blk.made _ _ _).alloc _, Blk.made_at _ _ _ _ (by simp), (((Below.refl _ _).alloc (Nat.le_refl _) _).alloc (by simp) _).drew⟩)
      go_cut [14, 15] (fun s14 s15 wx => ∃ x1 x2 : Nat, s14 = .pointer (some ⟨x1, 0, none⟩) ∧ s15 = .pointer (some ⟨x2, 0, none⟩) ∧ x1 ≠ x2 ∧ w4.heap.size ≤ x1 ∧ w4.heap.size ≤ x2 ∧ Blk wx x1 #[.int .u8 1, .int .i64 qa, .int .i64 qb, .int .i64 0] 84 ∧ Blk wx x2 #[.int .u8 1, .int .i64 qa, .int .i64 qb, .int .i64 0] 84 ∧ Below w4.heap.size w4 wx)
      case first =>
        go_region
        all_goals
          go_wp2_with fail
          go_meet
          case rel =>
            first
            | exact ⟨_, _, rfl, rfl, by omega, by omega, by omega, (HX.out _ rfl).1, (HX.out _ rfl).2.1, (HX.out _ rfl).2.2⟩
            | exact ⟨_, _, rfl, rfl, by omega, by omega, by omega, (HX.out _ rfl).2.1, (HX.out _ rfl).1, (HX.out _ rfl).2.2⟩
      obtain ⟨x1, x2, rfl, rfl, hne, hx1, hx2, BX1, BX2, hb5⟩ := hcut
      have B7 := B7.past hb5
      have hB5 : Below w.heap.size w wc := by have := HB4.out; (repeat (first | exact Below.refl _ _ | assumption | refine balloc ?_ _ | refine below_drewN ?_ _ | refine bstep (by assumption) ?_ | refine bstep (Past.prop _) ?_ | refine Below.setCell ?_ (by first | exact Nat.le_refl _ | (simp; done) | (simp; omega)) _))
      have hw4 : w.heap.size ≤ w4.heap.size := HB4.out.size
      have h74 : p7 < w4.heap.size := dz
      have HB5 := hidE hB5
      clear c0 c1 c2 c3 cf cz d0 d1 d2 dz HX hb5 hB5 B10
      have hand2 := and_4095 (bits BinOp.and IntKind.i64 now 4095 + 4096)
      have c0 := BX1.cell 0; have c1 := BX1.cell 1; have c2 := BX1.cell 2; have c3 := BX1.cell 3; have cf := BX1.free; have cz := BX1.lt
      simp at c0 c1 c2 c3
      have g0 := BX2.cell 0; have g1 := BX2.cell 1; have g2 := BX2.cell 2; have g3 := BX2.cell 3; have gf := BX2.free; have gz := BX2.lt
      simp at g0 g1 g2 g3
      go_upto_region 16 with fail
      rw [← HUX.out]
      clear hand hand2
      obtain ⟨w6, hw6⟩ : ∃ w6, w6 = (((wc.setCell ⟨x1, 0, none⟩ (.int .u8 2)).setCell ⟨x1, 3, none⟩ (.int .i64 1)).setCell ⟨x2, 0, none⟩ (.int .u8 2)).setCell ⟨x2, 3, none⟩ (.int .i64 ux) := ⟨_, rfl⟩
      have BX1 := (((BX1.set 0 (.int .u8 2)).set 3 (.int .i64 1)).other (b := x2) (i := 0) hne (.int .u8 2)).other (b := x2) (i := 3) hne (.int .i64 ux)
      have BX2 := (((BX2.other (b := x1) (i := 0) hne.symm (.int .u8 2)).other (b := x1) (i := 3) hne.symm (.int .i64 1)).set 0 (.int .u8 2)).set 3 (.int .i64 ux)
      have B7 := (((B7.other (b := x1) (i := 0) (by omega) (.int .u8 2)).other (b := x1) (i := 3) (by omega) (.int .i64 1)).other (b := x2) (i := 0) (by omega) (.int .u8 2)).other (b := x2) (i := 3) (by omega) (.int .i64 ux)
      have hB6 : Below w.heap.size w w6 := by
        rw [hw6]
        exact (((HB5.out.setCell (by show _ ≤ x1; omega) _).setCell (by show _ ≤ x1; omega) _).setCell (by show _ ≤ x2; omega) _).setCell (by show _ ≤ x2; omega) _
      rw [← hw6] at BX1 BX2 B7
      rw [← hw6]
      have HB6 := hidE hB6
      clear hw6 c0 c1 c2 c3 cf cz g0 g1 g2 g3 gf gz HB5 hB6 HUX
      simp at BX1 BX2
      have c0 := BX1.cell 0; have c1 := BX1.cell 1; have c2 := BX1.cell 2; have c3 := BX1.cell 3; have cf := BX1.free; have cz := BX1.lt
      simp at c0 c1 c2 c3
      have d0 := B7.cell 0; have d1 := B7.cell 1; have d2 := B7.cell 2; have dz := B7.lt
      simp at d0 d1 d2
      go_wp2_with fail
      ((with_reducible refine (pchk_eq (F := []) (G := []) (H := f) (by omega) (sliS_nil _) (sliS_nil _) (HSF.out.past (by have := HB6.out; (repeat (first | exact Below.refl _ _ | assumption | refine balloc ?_ _ | refine below_drewN ?_ _ | refine bstep (by assumption) ?_ | refine bstep (Past.prop _) ?_ | refine Below.setCell ?_ (by first | exact Nat.le_refl _ | (simp; done) | (simp; omega)) _)))) (by omega) (by omega) (by omega) HC2.out).mono ?_); rintro e w7 ⟨rfl, hb7⟩)
      have BX2 := BX2.past hb7; have B7 := B7.past hb7
      have hB7 : Below w.heap.size w w7 := by have := HB6.out; (repeat (first | exact Below.refl _ _ | assumption | refine balloc ?_ _ | refine below_drewN ?_ _ | refine bstep (by assumption) ?_ | refine bstep (Past.prop _) ?_ | refine Below.setCell ?_ (by first | exact Nat.le_refl _ | (simp; done) | (simp; omega)) _))
      have HB7 := hidE hB7
      clear hb7 c0 c1 c2 c3 cf cz d0 d1 d2 dz HB6 hB7 BX1
      have c0 := BX2.cell 0; have c1 := BX2.cell 1; have c2 := BX2.cell 2; have c3 := BX2.cell 3; have cf := BX2.free; have cz := BX2.lt
      simp at c0 c1 c2 c3
      have d0 := B7.cell 0; have d1 := B7.cell 1; have d2 := B7.cell 2; have dz := B7.lt
      simp at d0 d1 d2
      go_wp2_with fail
      ((with_reducible refine (pchk_eq (F := []) (G := []) (H := f) (by omega) (sliS_nil _) (sliS_nil _) (HSF.out.past (by have := HB7.out; (repeat (first | exact Below.refl _ _ | assumption | refine balloc ?_ _ | refine below_drewN ?_ _ | refine bstep (by assumption) ?_ | refine bstep (Past.prop _) ?_ | refine Below.setCell ?_ (by first | exact Nat.le_refl _ | (simp; done) | (simp; omega)) _)))) (by omega) (by omega) (by omega) HC3.out).mono ?_); rintro e w8 ⟨rfl, hb8⟩)
      have B7 := B7.past hb8
      have hB8 : Below w.heap.size w w8 := by have := HB7.out; (repeat (first | exact Below.refl _ _ | assumption | refine balloc ?_ _ | refine below_drewN ?_ _ | refine bstep (by assumption) ?_ | refine bstep (Past.prop _) ?_ | refine Below.setCell ?_ (by first | exact Nat.le_refl _ | (simp; done) | (simp; omega)) _))
      clear hb8 c0 c1 c2 c3 cf cz d0 d1 d2 dz HB7 BX2 HC1 HC2 HC3
      cases is
      · clear HAV
        cases ev
        all_goals
          go_wp2
          exact ⟨⟨k + 1, by omega, by go_num, by rw [HN.out]; rfl, B7, hB8⟩, by simp [intOf]; omega⟩
      · have ha := HAV.out rfl
        subst ha
        clear HAV
        cases ev
        all_goals
          go_wp2
          exact ⟨⟨k + 1, by omega, by go_num, by rw [HN.out]; rfl, B7, hB8⟩, by simp [intOf]; omega⟩

    · have hkl : k = l.length := by omega
      rw [show everyB f now (l.take k) = everyB f now l by rw [hkl, List.take_length]]
      clear hkl
      have HLST := hidE (fun w' (hb : Below w.heap.size w w') => least_c l al cl w' (by omega) (HA.out.past hb) H64.out)
      generalize everyB f now l = ev at *
      generalize leastV l = m at *
      obtain ⟨m1, m2⟩ := m
      have HPO := hidE (show polB (1, (m1, m2), 0) = true by unfold polB; simp [HLM.out])
      simp only at HLST
      generalize atMost f now (m1, m2) = low at *
      generalize atMost f now mostV = none at *
      unfold mostV at HCM
      clear HKN HLM H64
      have HIw := hidE hB
      clear hB
      have d0 := B7.cell 0; have d1 := B7.cell 1; have d2 := B7.cell 2; have dz := B7.lt
      simp at d0 d1 d2
      go_wp2_with fail
      ((with_reducible refine (HLST.out _ HB.out).mono ?_); rintro e w3 ⟨rfl, hb3⟩)
      have B7 := B7.past hb3
      have hB3 : Below w.heap.size w w3 := by have := HB.out; (repeat (first | exact Below.refl _ _ | assumption | refine balloc ?_ _ | refine below_drewN ?_ _ | refine bstep (by assumption) ?_ | refine bstep (Past.prop _) ?_ | refine Below.setCell ?_ (by first | exact Nat.le_refl _ | (simp; done) | (simp; omega)) _))
      obtain ⟨w4, hw4⟩ : ∃ w4, w4 = w3.alloc (Obj.cells #[.int .u8 1, .int .i64 m1, .int .i64 m2, .int .i64 0] 84) := ⟨_, rfl⟩
      have BM : Blk w4 w3.heap.size #[.int .u8 1, .int .i64 m1, .int .i64 m2, .int .i64 0] 84 := by rw [hw4]; exact Blk.made _ _ _
      have B7 := B7.alloc (.cells #[.int .u8 1, .int .i64 m1, .int .i64 m2, .int .i64 0] 84)
      rw [← hw4] at B7
      have hB4 : Below w.heap.size w w4 := by rw [hw4]; exact hB3.alloc hB3.size _
      have HB4 := hidE hB4
      clear hb3 d0 d1 d2 dz hB3 hB4 HLST
      go_upto_region 22 with fail
      rw [← hw4]
      clear hw4
      generalize w3.heap.size = pm at *
      have c0 := BM.cell 0; have c1 := BM.cell 1; have c2 := BM.cell 2; have c3 := BM.cell 3; have cf := BM.free; have cz := BM.lt
      simp at c0 c1 c2 c3
      have d0 := B7.cell 0; have d1 := B7.cell 1; have d2 := B7.cell 2; have dz := B7.lt
      simp at d0 d1 d2
      go_wp2_with fail
      ((with_reducible refine (pchk_eq (F := []) (G := []) (H := f) (by omega) (sliS_nil _) (sliS_nil _) (HSF.out.past (by have := HB4.out; (repeat (first | exact Below.refl _ _ | assumption | refine balloc ?_ _ | refine below_drewN ?_ _ | refine bstep (by assumption) ?_ | refine bstep (Past.prop _) ?_ | refine Below.setCell ?_ (by first | exact Nat.le_refl _ | (simp; done) | (simp; omega)) _)))) (by omega) (by omega) (by omega) HCL.out).mono ?_); rintro e w5 ⟨rfl, hb5⟩)
      have BM := BM.past hb5; have B7 := B7.past hb5
      have hB5 : Below w.heap.size w w5 := by have := HB4.out; (repeat (first | exact Below.refl _ _ | assumption | refine balloc ?_ _ | refine below_drewN ?_ _ | refine bstep (by assumption) ?_ | refine bstep (Past.prop _) ?_ | refine Below.setCell ?_ (by first | exact Nat.le_refl _ | (simp; done) | (simp; omega)) _))
      have HB5 := hidE hB5
      clear hb5 c0 c1 c2 c3 cf cz d0 d1 d2 dz HB4 hB5
      have c0 := BM.cell 0; have c1 := BM.cell 1; have c2 := BM.cell 2; have c3 := BM.cell 3; have cf := BM.free; have cz := BM.lt
      simp at c0 c1 c2 c3
      have d0 := B7.cell 0; have d1 := B7.cell 1; have d2 := B7.cell 2; have dz := B7.lt
      simp at d0 d1 d2
      go_upto_region 23 with fail
      refine wp_region_past_lit (by kernel_rfl) (by kernel_rfl) ?_
      have hcell := Past.cell (W := w5)
      repeat (go_big_quiet_step ((first | (go_at_call 50; exact Past.call _ (least_nil _)) | (go_at_call 38; exact Past.call _ (pchk_eq (F := []) (G := []) (H := f) (by omega) (sliS_nil _) (sliS_nil _) (HSF.out.past (HB5.out.trans ((Past.prop _).mono HB5.out.size))) (by omega) (by omega) (by omega) HCM.out)))))
      refine wpQuiet_nil ?_
      rintro _ ⟨x, rfl⟩
      have hbx := x.2
      generalize x.1 = w6 at *
      have BM := BM.past hbx; have B7 := B7.past hbx
      have hB6 : Below w.heap.size w w6 := by have := HB5.out; (repeat (first | exact Below.refl _ _ | assumption | refine balloc ?_ _ | refine below_drewN ?_ _ | refine bstep (by assumption) ?_ | refine bstep (Past.prop _) ?_ | refine Below.setCell ?_ (by first | exact Nat.le_refl _ | (simp; done) | (simp; omega)) _))
      have HB6 := hidE hB6
      clear hbx c0 c1 c2 c3 cf cz d0 d1 d2 dz HB5 hB6 hcell
      go_upto_region 24 with fail
      go_wp2_with fail
      ((with_reducible refine (rdo13_s (F := f) (G := f) (HSF.out.past HB6.out) (HSF.out.past HB6.out) (by omega) HMS.out).mono ?_); rintro e w7 ⟨v, rfl, hs7, hb7⟩)
      obtain ⟨aD, cD, rfl, qd1, qd2, qd3⟩ := hs7
      have HSD := hidE (sliS_mk qd1 qd2 qd3)
      have BM := BM.past hb7
      have hB7 : Below w.heap.size w w7 := by have := HB6.out; (repeat (first | exact Below.refl _ _ | assumption | refine balloc ?_ _ | refine below_drewN ?_ _ | refine bstep (by assumption) ?_ | refine bstep (Past.prop _) ?_ | refine Below.setCell ?_ (by first | exact Nat.le_refl _ | (simp; done) | (simp; omega)) _))
      have HB7 := hidE hB7
      have HL := hidE HLE.out
      clear hb7 HB6 hB7 qd1 qd2 qd3 HLE HMS HCM HCL
      have c0 := BM.cell 0; have c1 := BM.cell 1; have c2 := BM.cell 2; have c3 := BM.cell 3; have cf := BM.free; have cz := BM.lt
      simp at c0 c1 c2 c3
      have hl := HL.out
      subst hl
      have HSB := hidE (show sameB f f = true from decide_eq_true rfl)
      cases ev
      all_goals
        cases none
        all_goals
          go_wp2_with (first | (go_at_call 40; ((with_reducible refine (pomay_eq (by omega) HPO.out).mono ?_); rintro e w8 ⟨rfl, hb8⟩)) | (go_at_call 33; ((with_reducible refine (rsame_s (F := f) (G := f) (HSD.out.past (by (repeat (first | exact Below.refl _ _ | assumption | refine balloc ?_ _ | refine below_drewN ?_ _ | refine bstep (by assumption) ?_ | refine bstep (Past.prop _) ?_ | refine Below.setCell ?_ (by first | exact Nat.le_refl _ | (simp; done) | (simp; omega)) _)))) (HSF.out.past (by have := HB7.out; (repeat (first | exact Below.refl _ _ | assumption | refine balloc ?_ _ | refine below_drewN ?_ _ | refine bstep (by assumption) ?_ | refine bstep (Past.prop _) ?_ | refine Below.setCell ?_ (by first | exact Nat.le_refl _ | (simp; done) | (simp; omega)) _)))) HSB.out).mono ?_); rintro e w9 ⟨rfl, hb9⟩)) | (go_at_call 37; ((with_reducible refine (pohead_c _).mono ?_); rintro e w10 ⟨rfl, hb10⟩)))
          go_ret
          exact ⟨by simp, by have := HB7.out; (repeat (first | exact Below.refl _ _ | assumption | refine balloc ?_ _ | refine below_drewN ?_ _ | refine bstep (by assumption) ?_ | refine bstep (Past.prop _) ?_ | refine Below.setCell ?_ (by first | exact Nat.le_refl _ | (simp; done) | (simp; omega)) _))⟩
end Go.Proofs.YthlepbbdjmmelaaGreat

namespace Go.Proofs.YthlepbbdjmmelaaGreat
open Go.ChangeShapes Go.WideShapes Go.ChangeAt Go.RowKit

set_option maxRecDepth 100000 in
theorem policyKinds_lifted (os : Os) (started : os.Started) (H : Type) (enc : TypeId × Value → H) :
    ReturnsInHanded {} Tryz.checked os 11 .any (Rows.policyKindsSpec.pre6 enc Tryz.prog Tryz.f11 Rows.policyKindsRow.domain false) (Rows.policyKindsSpec.post enc Tryz.prog Tryz.f11 false true false false) := by
  refine returnsInHanded_of_change (C := Tryz.checked) own started (by kernel_rfl) Tryz.func11
    (ChangeSpec.witness6 (enc := enc) (C := Tryz.checked) false ⟨#[], #[.slice none 0 0, .int .i64 0, .slice none 0 0], []⟩ 8 (by kernel_rfl) (by kernel_rfl) (by kernel_rfl) (by kernel_rfl)) ?_
  intro W base args ds gs before hval0 hW _ _
  have hval : ∀ (j : Nat) t v, Tryz.f11.params[j]? = some t → args[j]? = some v → Value.okWide Tryz.prog W .any base t v := hval0
  have hW' := hW
  obtain ⟨p, q, hA0, hV, rfl, hfz, hnd⟩ := hW
  have hA : DataW.TrodAll enc Tryz.prog W 0 (fun _ => true) true Tryz.f11.params.toList args.toList ds p := hA0
  rw [Tryz.params11] at hA hval
  obtain ⟨v0, vs0, d0, ds0, p0, q0, hargs, rfl, rfl, h0, r0⟩ := trodAll_cons hA
  obtain ⟨v1, vs1, d1, ds1, p1, q1, rfl, rfl, rfl, h1, r1⟩ := trodAll_cons r0
  obtain ⟨v2, vs2, d2, ds2, p2, q2, rfl, rfl, rfl, h2, r2⟩ := trodAll_cons r1
  obtain ⟨rfl, rfl, rfl⟩ := trodAll_nil r2
  obtain rfl : args = #[v0, v1, v2] := by cases args; simp_all
  obtain ⟨l0, o0, c0, rfl, hl0, hA0', hP0⟩ := open_polsP (hval 0 106 v0 rfl rfl) h0
  obtain ⟨a1, rfl, rfl, rfl, wa1⟩ := open_int Tryz.underlying2 (hval 1 2 v1 rfl rfl) h1
  have ha1 : -9223372036854775808 ≤ a1 ∧ a1 ≤ 9223372036854775807 := by simpa [Lit.wf, IntKind.min, IntKind.max, IntKind.signed, IntKind.bits] using wa1
  obtain ⟨l2, o2, c2, rfl, hl2, hA2', hS2⟩ := open_slisP (hval 2 22 v2 rfl rfl) h2
  clear hA0 hval0
  refine (pokinds_c l0 o0 c0 a1 o2 l2.length c2 W hA0' hP0 hA2').mono fun e W' ⟨he, hb⟩ => ?_
  subst he
  exact ⟨_, rfl, law_post laidOut (readOk_spec (by kernel_rfl)) rfl Tryz.underlying4 rfl ⟨rfl, rfl, rfl⟩ hW' hb⟩

theorem policyKinds_holds : Rows.PolicyKindsSaid :=
  OpenClaim.holds_of_wide 11 Tryz.f11 rfl rfl rfl rfl rfl rfl rfl ⟨rfl, rfl, rfl, rfl, rfl⟩ rfl rfl rfl rfl rfl (by kernel_rfl) Tryz.func11 (by kernel_rfl)
    (of_decide_eq_true (by kernel_rfl)) (by unfold Func.isWrapper; first | (rw [if_pos (by decide +kernel)]; kernel_rfl) | (rw [if_neg (by decide +kernel)]; exact ⟨rfl, rfl⟩))
    (fun os started H enc _ => policyKinds_lifted os started H enc)
end Go.Proofs.YthlepbbdjmmelaaGreat
