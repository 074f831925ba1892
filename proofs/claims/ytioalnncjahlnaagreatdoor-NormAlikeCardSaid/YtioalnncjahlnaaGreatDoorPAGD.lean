/- The contract of the document's own term of a part and children: liveryref09.of. No conditions but sizes. The rule of a single child: (*term).unwrap. No conditions but that the block reads as a term. The rule of children of the kind: (*term).flatten. Conditions: the block reads as a term of at most 16 children. The contracts of strings.Builder's WriteByte, WriteString and String, where the builder is the call's own. No conditions but that what it holds is at most 2^47 bytes. The contracts of strings.Builder's methods where the builder is the first field of parse's writer. No conditions but that what it holds is at most 2^47 bytes. How parts are written one behind the other, with a stack of how many children are still due. No program. No conditions. What strconv.FormatInt answers at base 10: the library's contract at this program's numbers. Conditions: the number is an int64, the table of powers of ten holds them. A region that draws its order and has one operation that all before it must precede, and all behind it must follow: that one may write. No conditions. The contract of the writer's method part. Conditions: the part's numbers are of its fields' kinds, its kind is known, the stack is one between two parts. The contracts of Tree and of Same. Conditions: the lists' lengths, that kinds are bytes. -/
import Derived.Test.YtioalnncjahlnaaGreatDoorPAGC
import Derived.Deep.RegionLaw
import Derived.Deep.DeepCutAuto
import Derived.Shelf.Strings.BuilderK
import Derived.Test.YtioalnncjahlnaaGreatDoorProg
import Derived.Test.YtioalnncjahlnaaGreatDoorPAGA
import Derived.Test.YtioalnncjahlnaaGreatDoorPAGB
import Derived.Shelf.LaysM
import Derived.Shelf.Strconv.Itoa4
import Derived.Maps.AppendAt
import Derived.Deep.RegionHeld3
namespace Go.Proofs.YtioalnncjahlnaaGreatDoor
open Go.ChangeShapes Go.WideShapes Go.ChangeAt Go.RowKit
attribute [local irreducible] Go.Calls

def flatL : List Tm → List Prt
  | [] => []
  | t :: l => flT t ++ flatL l
def fromL : List Tm → List Nat
  | [] => []
  | t :: l => frT t ++ fromL l
theorem flatL_of : ∀ l : List Tm, (ofL l).flat = flatL l
  | [] => rfl
  | t :: l => by simp only [ofL, Fst.flat, flatL, flatL_of l, flT, List.append_nil, List.cons_append]
theorem fromL_of : ∀ l : List Tm, fromF (ofL l) = fromL l
  | [] => rfl
  | t :: l => by
    simp only [ofL, fromF_cons, fromL, fromL_of l, frT]
    simp [fromF, prsF]
theorem flatL_app : ∀ a b : List Tm, flatL (a ++ b) = flatL a ++ flatL b
  | [], _ => rfl
  | t :: l, b => by simp only [List.cons_append, flatL, flatL_app l b, List.append_assoc]
theorem fromL_app : ∀ a b : List Tm, fromL (a ++ b) = fromL a ++ fromL b
  | [], _ => rfl
  | t :: l, b => by simp only [List.cons_append, fromL, fromL_app l b, List.append_assoc]
theorem flatL_len : ∀ l : List Tm, (flatL l).length = sizL l ∧ (fromL l).length = sizL l
  | [] => ⟨rfl, rfl⟩
  | t :: l => by
    have := flatL_len l
    simp only [flatL, fromL, List.length_append, flT_len, frT_len, sizL, this.1, this.2, and_self]
/-- Two rows of the call's own, as a term. -/
theorem tmAt_own {B : Nat} {w : World} {eP eI : TypeId} {vL vF : Value} {t : Tm} (h1 : w.ownsRow B eP 5 vL (sizT t) (cellsOfP (flT t))) (h2 : w.ownsRow B eI 1 vF (sizT t) (cellsK .i64 (natsI (frT t)))) :
    ∃ a c a2 c2, vL = .slice a (sizT t) c ∧ vF = .slice a2 (sizT t) c2 ∧ TmAt (fun k => B ≤ k) w t a c a2 c2 := by
  have hP := sliP_own (l := flT t) (by rw [flT_len]; exact h1)
  have hF := sliN_own (l := frT t) (by rw [frT_len]; exact h2)
  obtain ⟨a, c, e1, p1, p2, p3⟩ := hP
  obtain ⟨a2, c2, e2, q1, q2, q3⟩ := hF
  rw [flT_len] at e1 p1
  rw [frT_len] at e2 q1
  refine ⟨a, c, a2, c2, e1, e2, p1, p2, q1, q2, p3, q3, fun x hx => ?_, fun x hx => ?_⟩
  · subst hx; exact own_block h1 (by rw [e1]; rfl)
  · subst hx; exact own_block h2 (by rw [e2]; rfl)
theorem add_at (b off j : Nat) : (⟨b, off, none⟩ : Addr).add j = ⟨b, off + j, none⟩ := by
  unfold Addr.add
  by_cases c : j = 0
  · subst c; simp
  · simp [c]
theorem srcV_P {w : World} {a : Option Addr} {l : List Prt} {n cap : Nat} (h : ArgP w a l) (hn : l.length = n) (h0 : 0 < n) : SrcV w 5 (.slice a n cap) n (cellsOfP l) := by
  obtain ⟨b, off, rfl, _, hc⟩ := h (by omega)
  refine ⟨_, cap, rfl, fun e => (by simp at e), by rw [cellsOfP_len, hn], cellsP_one l, ?_⟩
  rintro ad ⟨⟩ j u hu
  exact srcP hc j u hu
theorem srcV_K {k : IntKind} {w : World} {a : Option Addr} {l : List Int} {n cap : Nat} (h : ArgK k w a l) (hn : l.length = n) (h0 : 0 < n) : SrcV w 1 (.slice a n cap) n (cellsK k l) := by
  obtain ⟨b, off, rfl, _, hc⟩ := h (by omega)
  refine ⟨_, cap, rfl, fun e => (by simp at e), by simp [cellsK, hn], fun u hu => ?_, ?_⟩
  · obtain ⟨z, _, rfl⟩ := List.mem_map.1 hu; rfl
  rintro ad ⟨⟩ j u hu
  have hj := (List.getElem?_eq_some_iff.1 hu).1
  have hj2 : j < l.length := by simpa [cellsK] using hj
  rw [add_at, hc j hj2, ← hu, cellsK_get hj2]
theorem srcV_pastN {w w' : World} {sz : Nat} {v : Value} {n : Nat} {ys : List Value} (h : SrcV w sz v n ys) (hb : Below w.heap.size w w') : SrcV w' sz v n ys := by
  obtain ⟨a, cap, e, h1, h2, h3, h4⟩ := h
  refine ⟨a, cap, e, h1, h2, h3, fun ad ha j u hu => ?_⟩
  have := h4 ad ha j u hu
  exact (hb.cell (World.block_lt_of_cell? w _ this)).trans this
theorem own_blk {w : World} {B sz n p : Nat} {e T : TypeId} {v : Value} {xs : List Value} {cs : Array Value} (h : w.ownsRow B e sz v n xs) (hb : Blk w p cs T) (hne : e ≠ T) : v.ownBlock ≠ some p := by
  obtain ⟨_, h2 | ⟨g, cap, cur, rfl, _, h4, _⟩⟩ := h
  · rw [h2.1]; simp [Value.ownBlock]
  · intro e
    have e : g = p := Option.some.inj e
    subst e
    unfold Blk at hb
    rw [h4] at hb
    simp only [Option.some.injEq, Obj.cells.injEq] at hb
    exact hne hb.2.1
/-- What `of` has so far: two rows, in the struct at p; the answer's place is empty yet. -/
def OfI (w : World) (r p : Nat) (P : List Prt) (F : List Int) (W : World) : Prop :=
  ∃ vP vF, Blk W p #[vP, vF] 63 ∧ Blk W r #[.slice none 0 0, .slice none 0 0] 63 ∧ W.ownsRow w.heap.size 35 5 vP P.length (cellsOfP P) ∧ W.ownsRow w.heap.size 3 1 vF F.length (cellsK .i64 F) ∧ Below w.heap.size w W
theorem OfI.grown {w W w1 w' : World} {r p : Nat} {P : List Prt} {F : List Int} {vP vF : Value} (hrp : r ≠ p) (hwp : w.heap.size ≤ p) (hb : Blk W p #[vP, vF] 63) (hr : Blk W r #[.slice none 0 0, .slice none 0 0] 63) (hP : W.ownsRow w.heap.size 35 5 vP P.length (cellsOfP P)) (hF : W.ownsRow w.heap.size 3 1 vF F.length (cellsK .i64 F)) (hw : Below w.heap.size w W) (h1 : Below W.heap.size W w1) :
    (∀ (v' : Value) (Q : List Prt), w'.ownsRow w.heap.size 35 5 v' (P.length + Q.length) (cellsOfP P ++ cellsOfP Q) → w1.grownBy w' vP.ownBlock → OfI w r p (P ++ Q) F (w'.setCell ⟨p, 0, none⟩ v')) ∧
    (∀ (v' : Value) (Q : List Int), w'.ownsRow w.heap.size 3 1 v' (F.length + Q.length) (cellsK .i64 F ++ cellsK .i64 Q) → w1.grownBy w' vF.ownBlock → OfI w r p P (F ++ Q) (w'.setCell ⟨p, 1, none⟩ v')) := by
  have s1 := h1.size; have s0 := hw.size
  have hz : ∀ {e : TypeId} {sz n : Nat} {v : Value} {xs : List Value}, W.ownsRow w.heap.size e sz v n xs → e ≠ 63 → w1.grownBy w' v.ownBlock → Blk w' p #[vP, vF] 63 ∧ Blk w' r #[.slice none 0 0, .slice none 0 0] 63 ∧ Below w.heap.size w w' := fun ho he hg =>
    ⟨(hb.past h1).grown hg (own_blk ho hb he).symm, (hr.past h1).grown hg (own_blk ho hr he).symm, Below.grown (hw.trans (h1.mono s0)) hg (by omega) (fun k e => own_block ho e)⟩
  constructor
  · intro v' Q ho hg
    obtain ⟨b1, b2, b3⟩ := hz hP (by decide) hg
    have hs := b1.set 0 v'
    simp only [List.setIfInBounds_toArray, List.set_cons_zero] at hs
    have hF' : w'.ownsRow w.heap.size 3 1 vF F.length (cellsK .i64 F) := (own_below hF h1).kept hg (by
      cases hv : vF.ownBlock with
      | none => exact .inl rfl
      | some k => exact .inr fun e => own_apart hF hP (by decide) hv e.symm)
    refine ⟨v', vF, hs, b2.other (by omega) _, ?_, own_kept hF' (fun k e => keptS (fun q => own_blk hF' b1 (by decide) (by rw [e, q])) _), b3.setCell (p := ⟨p, 0, none⟩) hwp _⟩
    refine own_kept ?_ (fun k e => keptS (fun q => own_blk ho b1 (by decide) (by rw [e, q])) _)
    rw [List.length_append, cellsOfP_app]; exact ho
  · intro v' Q ho hg
    obtain ⟨b1, b2, b3⟩ := hz hF (by decide) hg
    have hs := b1.set 1 v'
    simp only [List.setIfInBounds_toArray, List.set_cons_zero, List.set_cons_succ] at hs
    have hP' : w'.ownsRow w.heap.size 35 5 vP P.length (cellsOfP P) := (own_below hP h1).kept hg (by
      cases hv : vP.ownBlock with
      | none => exact .inl rfl
      | some k => exact .inr fun e => own_apart hP hF (by decide) hv e.symm)
    refine ⟨vP, v', hs, b2.other (by omega) _, own_kept hP' (fun k e => keptS (fun q => own_blk hP' b1 (by decide) (by rw [e, q])) _), ?_, b3.setCell (p := ⟨p, 1, none⟩) hwp _⟩
    refine own_kept ?_ (fun k e => keptS (fun q => own_blk ho b1 (by decide) (by rw [e, q])) _)
    rw [List.length_append, cellsK_app]; exact ho
theorem take_snoc {α} (l : List α) (d : α) {k : Nat} (h : k < l.length) : l.take (k + 1) = l.take k ++ [l.getD k d] := by
  rw [List.take_add_one, List.getD_eq_getElem?_getD, List.getElem?_eq_getElem h]; rfl
theorem natsI_len9 {l : List Nat} {n : Nat} (h : l.length = n) : (natsI l).length = n := by
  simp only [natsI, List.length_map, h]
set_option maxRecDepth 100000 in
set_option maxHeartbeats 4000000 in
theorem of9_c (lo : Nat → Prop) (x : Prt) (yk : Int) (l : List Tm) (a : Option Addr) (cap n : Nat) (hn : n = l.length) (w : World) (hs : sizL l ≤ 100000) (hx : 0 ≤ x.kids) (hM : SliM lo w (.slice a n cap) l) :
    Calls Tryz.prog 47 #[prtV { x with kids := yk }, .int .i64 x.kids, .slice a n cap] w fun e w' => ∃ a c a2 c2, e = .returned (tmV (sizT (x, ofL l)) a c a2 c2) ∧ TmAt (fun k => w.heap.size ≤ k) w' (x, ofL l) a c a2 c2 ∧ Below w.heap.size w w' := by
  have hll := sizL_len l
  obtain ⟨iP, hiP, hP0, hP1, hP2⟩ := info_parts Tryz.infoPart
  obtain ⟨iI, hiI, hI0, hI1, hI2⟩ := info_parts Tryz.infoIntN
  have HIP := hidE hiP; have HP0 := hidE hP0; have HP1 := hidE hP1; have HP2 := hidE hP2
  have HII := hidE hiI; have HI0 := hidE hI0; have HI1 := hidE hI1; have HI2 := hidE hI2
  have HM := hidE hM
  have HN := hidE hn
  have hn6 : n ≤ 100000 := by omega
  clear hiP hP0 hP1 hP2 hiI hI0 hI1 hI2 hM hn
  go_enter Tryz.func47, Tryz.ntmps47
  go_wp2
  obtain ⟨xp, hxp⟩ : ∃ xp : Prt, xp = { x with kids := (n : Int) } := ⟨_, rfl⟩
  have HXP := hidE hxp
  obtain ⟨w2, hw2⟩ : ∃ w2, w2 = (w.alloc (.cells #[.int .u8 x.kind, .int .u32 x.n, .int .u32 x.g, .int .i64 x.d, .int .i64 n] 35)).alloc (.cells #[.slice none 0 0, .slice none 0 0] 63) := ⟨_, rfl⟩
  have hz2 : w2.heap.size = w.heap.size + 1 + 1 := by rw [hw2]; simp
  have hI0 : OfI w (w.heap.size + 1) (w.heap.size + 1 + 1 + 1 + 1) [xp] [x.kids] (((w2.alloc (.cells #[.int .u8 x.kind, .int .u32 x.n, .int .u32 x.g, .int .i64 x.d, .int .i64 n] 35)).alloc (.cells #[.int .i64 x.kids] 3)).alloc (.cells #[.slice (some ⟨w.heap.size + 1 + 1, 0, none⟩) 1 1, .slice (some ⟨w.heap.size + 1 + 1 + 1, 0, none⟩) 1 1] 63)) := by
    refine ⟨_, _, Blk.made_at _ _ _ _ (by simp [hz2]), ?_, ?_, ?_, ?_⟩
    · rw [hw2]
      exact (((Blk.made_at _ _ _ _ (by simp)).alloc _).alloc _).alloc _
    · have := World.ownsRow_lit (base := w.heap.size) (e := 35) (size := 5) w2 #[.int .u8 x.kind, .int .u32 x.n, .int .u32 x.g, .int .i64 x.d, .int .i64 n] 1 (by omega) (by unfold maxLen; omega) rfl
      rw [hz2] at this
      have e : (#[.int .u8 x.kind, .int .u32 x.n, .int .u32 x.g, .int .i64 x.d, .int .i64 n] : Array Value).toList = cellsOfP [xp] := by rw [hxp]; rfl
      rw [e] at this
      exact (this.alloc _).alloc _
    · have := World.ownsRow_lit (base := w.heap.size) (e := 3) (size := 1) (w2.alloc (.cells #[.int .u8 x.kind, .int .u32 x.n, .int .u32 x.g, .int .i64 x.d, .int .i64 n] 35)) #[.int .i64 x.kids] 1 (by simp; omega) (by unfold maxLen; omega) rfl
      have e2 : (w2.alloc (.cells #[.int .u8 x.kind, .int .u32 x.n, .int .u32 x.g, .int .i64 x.d, .int .i64 n] 35)).heap.size = w.heap.size + 1 + 1 + 1 := by simp [hz2]
      rw [e2] at this
      exact this.alloc _
    · rw [hw2]; (repeat (first | exact Below.refl _ _ | assumption | refine balloc ?_ _ | refine below_drewN ?_ _ | refine bstep (by assumption) ?_ | refine bstep (Past.prop _) ?_ | refine Below.setCell ?_ (by first | exact Nat.le_refl _ | (simp; done) | (simp; omega)) _))
  rw [← hw2]
  have HI0' := hidE hI0
  generalize (((w2.alloc (.cells #[.int .u8 x.kind, .int .u32 x.n, .int .u32 x.g, .int .i64 x.d, .int .i64 n] 35)).alloc (.cells #[.int .i64 x.kids] 3)).alloc (.cells #[.slice (some ⟨w.heap.size + 1 + 1, 0, none⟩) 1 1, .slice (some ⟨w.heap.size + 1 + 1 + 1, 0, none⟩) 1 1] 63)) = w5 at *
  obtain ⟨r, hr⟩ : ∃ r, r = w.heap.size + 1 := ⟨_, rfl⟩
  obtain ⟨p, hp⟩ : ∃ p, p = w.heap.size + 1 + 1 + 1 + 1 := ⟨_, rfl⟩
  rw [← hp, ← hr] at HI0'
  rw [← hp, ← hr]
  have HR := hidE hr; have HP := hidE hp
  clear hI0 hw2 hz2 hr hp hxp
  go_loopg [8] n (fun gh v8 wr => ∃ k : Nat, v8 = .int .i64 k ∧ k ≤ n ∧ n - k ≤ gh ∧ OfI w r p (xp :: flatL (l.take k)) (x.kids :: natsI (fromL (l.take k))) wr)
  case atStart => exact ⟨0, rfl, Nat.zero_le _, Nat.le_refl _, HI0'.out⟩
  case round =>
    clear HI0'
    obtain ⟨k, rfl, hkn, hgk, hI⟩ := hrel
    have HGK := hidE hgk
    obtain ⟨vP, vF, hbp, hbr, hoP, hoF, hb⟩ := hI
    have hpz := HP.out; have hrz := HR.out
    have HRP := hidE (show r ≠ p ∧ w.heap.size ≤ p from by omega)
    clear hgk hpz hrz
    obtain ⟨aL, cL, rfl⟩ := own_sli hoP
    obtain ⟨aF, cF, rfl⟩ := own_sli hoF
    have HB := hidE hb; have HBP := hidE hbp; have HBR := hidE hbr; have HOP := hidE hoP; have HOF := hidE hoF
    have hsk : sizL (l.take k) ≤ sizL l := by
      have := sizL_app (l.take k) (l.drop k)
      rw [List.take_append_drop] at this; omega
    by_cases hk : k < n
    · have q1 : decide ((k : Int) < (n : Int)) = true := decide_eq_true (by omega)
      have q2 : k < n := hk
      obtain ⟨aM, capM, eM, hcM, hM1, hM2, hMA⟩ := HM.out.past HB.out
      cases eM
      obtain ⟨bM, oM, eM, hbM, hMC⟩ := hMA (by have := HN.out; omega)
      cases eM
      have hkl : k < l.length := by have := HN.out; omega
      obtain ⟨ak, ck, ak2, ck2, d0, d1, hT⟩ := hMC.get hkl
      obtain ⟨u, hu⟩ : ∃ u, u = l.getD k tm0 := ⟨_, rfl⟩
      rw [← hu] at d0 d1 hT
      have HU := hidE hu; have HT := hidE hT
      have hsu : sizL (l.take k) + sizT u ≤ sizL l := by
        have e := sizL_app (l.take (k + 1)) (l.drop (k + 1))
        rw [List.take_append_drop, take_snoc l tm0 hkl, sizL_app, ← hu] at e
        simp only [sizL] at e; omega
      have h0u : 0 < sizT u := by cases u; simp only [sizT]; omega
      have HSU := hidE hsu
      have gp := HBP.out.lt
      have p0 := HBP.out.cell 0; have pf := HBP.out.free 0
      simp at p0
      clear hu hT hMA hMC hkl hsu hM2
      go_upto_region 6 with fail
      go_cut [] (fun wx => OfI w r p (xp :: flatL (l.take k) ++ flT u) (x.kids :: natsI (fromL (l.take k))) wx)
      case first =>
        have hSV := srcV_P (cap := ck) HT.out.L (flT_len u) h0u
        go_region_law ((refine step_appV rfl (.tmp 24) (.tmp 29) 22 rfl w.heap.size 35 iP _ 5 32 Tryz.underlying22 HIP.out HP0.out HP1.out HP2.out rfl (by decide) (.slice aL (xp :: flatL (l.take k)).length cL) (xp :: flatL (l.take k)).length (cellsOfP (xp :: flatL (l.take k))) rfl (own_below HOP.out (by (repeat (first | exact Below.refl _ _ | assumption | refine balloc ?_ _ | refine below_drewN ?_ _ | refine bstep (by assumption) ?_ | refine bstep (Past.prop _) ?_ | refine Below.setCell ?_ (by first | exact Nat.le_refl _ | (simp; done) | (simp; omega)) _)))) _ (sizT u) (cellsOfP (flT u)) rfl (srcV_pastN hSV (by (repeat (first | exact Below.refl _ _ | assumption | refine balloc ?_ _ | refine below_drewN ?_ _ | refine bstep (by assumption) ?_ | refine bstep (Past.prop _) ?_ | refine Below.setCell ?_ (by first | exact Nat.le_refl _ | (simp; done) | (simp; omega)) _)))) (by simp only [List.length_cons, (flatL_len _).1]; have := HSU.out; omega) (by omega) (Nat.le_trans HB.out.size (by simp)) ?_; intro v' w' own' hg'; obtain ⟨av', cp', rfl⟩ := own_sli own'; have hB2 := (HBP.out.past (show Below wr.heap.size wr _ from by (repeat (first | exact Below.refl _ _ | assumption | refine balloc ?_ _ | refine below_drewN ?_ _ | refine bstep (by assumption) ?_ | refine bstep (Past.prop _) ?_ | refine Below.setCell ?_ (by first | exact Nat.le_refl _ | (simp; done) | (simp; omega)) _)))).grown hg' (fun e => own_blk HOP.out HBP.out (by decide) e.symm); have e0 := hB2.cell 0; have ef := hB2.free 0; have ez := hB2.lt; simp at e0; clear hB2))
        all_goals
          go_wp2
          go_meet
          case rel =>
            refine (OfI.grown HRP.out.1 HRP.out.2 HBP.out HBR.out HOP.out HOF.out HB.out (by (repeat (first | exact Below.refl _ _ | assumption | refine balloc ?_ _ | refine below_drewN ?_ _ | refine bstep (by assumption) ?_ | refine bstep (Past.prop _) ?_ | refine Below.setCell ?_ (by first | exact Nat.le_refl _ | (simp; done) | (simp; omega)) _)))).1 _ (flT u) ?_ hg'
            rw [flT_len]; exact own'
      case rest =>
        obtain ⟨vP2, vF2, hbp2, hbr2, hoP2, hoF2, hb2⟩ := hcut
        clear p0 pf gp HOP HOF HBP HBR HB
        obtain ⟨aL2, cL2, rfl⟩ := own_sli hoP2
        obtain ⟨aF2, cF2, rfl⟩ := own_sli hoF2
        have HB := hidE hb2; have HBP := hidE hbp2; have HBR := hidE hbr2; have HOP := hidE hoP2; have HOF := hidE hoF2
        obtain ⟨aM, capM, eM, hcM, hM1, hM2, hMA⟩ := HM.out.past HB.out
        obtain ⟨bM2, oM2, eM2, hbM, hMC⟩ := hMA (by have := HN.out; omega)
        cases eM
        cases eM2
        have hkl : k < l.length := by have := HN.out; omega
        obtain ⟨ak2, ck2, ak, ck, d0, d1, hT⟩ := hMC.get hkl
        rw [← HU.out] at d0 d1 hT
        have HT := hidE hT
        have gp := HBP.out.lt
        have p0 := HBP.out.cell 1; have pf := HBP.out.free 1
        simp at p0
        clear hT hMA hMC hkl hM2 hbp2 hbr2 hoP2 hoF2 hb2
        go_upto_region 7 with fail
        have hSV := srcV_K (cap := ck) HT.out.F (natsI_len9 (frT_len u)) h0u
        go_region_law ((refine step_appV rfl (.tmp 33) (.tmp 38) 29 rfl w.heap.size 3 iI _ 1 8 Tryz.underlying29 HII.out HI0.out HI1.out HI2.out rfl (by decide) (.slice aF2 (x.kids :: natsI (fromL (l.take k))).length cF2) (x.kids :: natsI (fromL (l.take k))).length (cellsK .i64 (x.kids :: natsI (fromL (l.take k)))) rfl (own_below HOF.out (by (repeat (first | exact Below.refl _ _ | assumption | refine balloc ?_ _ | refine below_drewN ?_ _ | refine bstep (by assumption) ?_ | refine bstep (Past.prop _) ?_ | refine Below.setCell ?_ (by first | exact Nat.le_refl _ | (simp; done) | (simp; omega)) _)))) _ (sizT u) (cellsK .i64 (natsI (frT u))) rfl (srcV_pastN hSV (by (repeat (first | exact Below.refl _ _ | assumption | refine balloc ?_ _ | refine below_drewN ?_ _ | refine bstep (by assumption) ?_ | refine bstep (Past.prop _) ?_ | refine Below.setCell ?_ (by first | exact Nat.le_refl _ | (simp; done) | (simp; omega)) _)))) (by simp only [List.length_cons, natsI_len9 rfl, (flatL_len _).2]; have := HSU.out; omega) (by omega) (Nat.le_trans HB.out.size (by simp)) ?_; intro v' w' own' hg'; obtain ⟨av', cp', rfl⟩ := own_sli own'; have hB2 := (HBP.out.past (show Below wc.heap.size wc _ from by (repeat (first | exact Below.refl _ _ | assumption | refine balloc ?_ _ | refine below_drewN ?_ _ | refine bstep (by assumption) ?_ | refine bstep (Past.prop _) ?_ | refine Below.setCell ?_ (by first | exact Nat.le_refl _ | (simp; done) | (simp; omega)) _)))).grown hg' (fun e => own_blk HOF.out HBP.out (by decide) e.symm); have e0 := hB2.cell 1; have ef := hB2.free 1; have ez := hB2.lt; simp at e0; clear hB2))
        all_goals
          have HR2 := hidE ((OfI.grown (w' := w') HRP.out.1 HRP.out.2 HBP.out HBR.out HOP.out HOF.out HB.out (show Below wc.heap.size wc _ from by (repeat (first | exact Below.refl _ _ | assumption | refine balloc ?_ _ | refine below_drewN ?_ _ | refine bstep (by assumption) ?_ | refine bstep (Past.prop _) ?_ | refine Below.setCell ?_ (by first | exact Nat.le_refl _ | (simp; done) | (simp; omega)) _)))).2 _ (natsI (frT u)) (by rw [natsI_len9 (frT_len u)]; exact own') hg')
          go_wp2
          go_roundg (l.length - (k + 1))
          case measure => have := HGK.out; omega
          case rel =>
            refine ⟨k + 1, by simp, by omega, Nat.le_refl _, ?_⟩
            have h := HR2.out
            simp only [natsI, List.cons_append, ← List.map_append] at h
            rw [take_snoc l tm0 (by have := HN.out; omega), ← HU.out, flatL_app, fromL_app]
            simp only [flatL, fromL, List.append_nil, natsI]
            exact h
    · have hkn' : k = n := by omega
      subst hkn'
      have q1 : decide ((k : Int) < (k : Int)) = false := decide_eq_false (by omega)
      have q2 : decide (k < k) = false := decide_eq_false (by omega)
      have htake : l.take k = l := by rw [HN.out]; exact List.take_length
      rw [htake] at HOP HOF HBP
      have p0 := HBP.out.cell 0; have p1 := HBP.out.cell 1; have gp := HBP.out.lt
      have r0 := HBR.out.free 0; have r1 := HBR.out.free 1; have gr := HBR.out.lt
      have s0 := HBR.out.cell 0; have s1 := HBR.out.cell 1
      simp at p0 p1 s0 s1
      have e1 := (flatL_len l).1
      have e2 := natsI_len9 (flatL_len l).2
      have e3 : sizT (x, ofL l) = sizL l + 1 := by simp only [sizT, sizL_of]
      have hsz : (flatL l).length + 1 = sizT (x, ofL l) ∧ (natsI (fromL l)).length + 1 = sizT (x, ofL l) := ⟨by rw [e1, e3], by rw [e2, e3]⟩
      have hfl : flT (x, ofL l) = xp :: flatL l := by
        rw [HXP.out, flT_eq, flatL_of, HN.out]
        simp only [ofL_len]
      have hfr : natsI (frT (x, ofL l)) = x.kids :: natsI (fromL l) := by
        simp only [frT, natsI, fromF_cons, fromL_of, List.map_cons, List.map_append]
        rw [Int.toNat_of_nonneg hx]
        simp [fromF, prsF]
      have hb3 : Blk ((wr.setCell ⟨r, 0, none⟩ (.slice aL ((flatL l).length + 1) cL)).setCell ⟨r, 1, none⟩ (.slice aF ((natsI (fromL l)).length + 1) cF)) r #[.slice aL ((flatL l).length + 1) cL, .slice aF ((natsI (fromL l)).length + 1) cF] 63 := by
        have h := (HBR.out.set 0 (.slice aL ((flatL l).length + 1) cL)).set 1 (.slice aF ((natsI (fromL l)).length + 1) cF)
        simpa using h
      have HB3 := hidE hb3; have HFL := hidE hfl; have HFR := hidE hfr; have HSZ := hidE hsz
      have hk2 : ∀ {e : TypeId} {sz n : Nat} {v : Value} {xs : List Value} (u0 u1 : Value), wr.ownsRow w.heap.size e sz v n xs → e ≠ 63 → ((wr.setCell ⟨r, 0, none⟩ u0).setCell ⟨r, 1, none⟩ u1).ownsRow w.heap.size e sz v n xs := fun u0 u1 ho he => by
        have h1 := own_kept ho (fun k e => keptS (fun q => own_blk ho HBR.out he (by rw [e, q])) u0 (i := 0))
        exact own_kept h1 (fun k e => keptS (fun q => own_blk h1 (HBR.out.set 0 u0) he (by rw [e, q])) u1)
      have hd : ∃ a c a2 c2, Ending.returned (.agg #[.slice aL ((flatL l).length + 1) cL, .slice aF ((natsI (fromL l)).length + 1) cF]) = .returned (tmV (sizT (x, ofL l)) a c a2 c2) ∧ TmAt (fun k => w.heap.size ≤ k) ((wr.setCell ⟨r, 0, none⟩ (.slice aL ((flatL l).length + 1) cL)).setCell ⟨r, 1, none⟩ (.slice aF ((natsI (fromL l)).length + 1) cF)) (x, ofL l) a c a2 c2 ∧ Below w.heap.size w ((wr.setCell ⟨r, 0, none⟩ (.slice aL ((flatL l).length + 1) cL)).setCell ⟨r, 1, none⟩ (.slice aF ((natsI (fromL l)).length + 1) cF)) := by
        have hp := hk2 (.slice aL ((flatL l).length + 1) cL) (.slice aF ((natsI (fromL l)).length + 1) cF) HOP.out (by decide)
        have hf := hk2 (.slice aL ((flatL l).length + 1) cL) (.slice aF ((natsI (fromL l)).length + 1) cF) HOF.out (by decide)
        obtain ⟨a, c, a2, c2, q1, q2, q3⟩ := tmAt_own (t := (x, ofL l)) (by rw [hfl, ← hsz.1]; exact hp) (by rw [hfr, ← hsz.2]; exact hf)
        refine ⟨a, c, a2, c2, ?_, q3, (HB.out.setCell (p := ⟨r, 0, none⟩) (by have := HR.out; simp; omega) _).setCell (p := ⟨r, 1, none⟩) (by have := HR.out; simp; omega) _⟩
        have e4 : Value.slice aL ((flatL l).length + 1) cL = .slice a (sizT (x, ofL l)) c := q1
        have e5 : Value.slice aF ((natsI (fromL l)).length + 1) cF = .slice a2 (sizT (x, ofL l)) c2 := q2
        rw [e4, e5]
      have HD := hidE hd
      clear htake hsk e1 e2 e3 hb3 hfl hfr hsz hk2 hd
      go_wp2
      have c0 := HB3.out.cell 0; have c1 := HB3.out.cell 1
      simp at c0 c1
      clear HB3
      refine bodyPost_ret (v := .agg #[.slice aL ((flatL l).length + 1) cL, .slice aF ((natsI (fromL l)).length + 1) cF]) ?_ rfl HD.out
      generalize ((wr.setCell ⟨r, 0, none⟩ (.slice aL ((flatL l).length + 1) cL)).setCell ⟨r, 1, none⟩ (.slice aF ((natsI (fromL l)).length + 1) cF)) = w8 at *
      simp [results, Tryz.results47, go_sem, c0, c1]
end Go.Proofs.YtioalnncjahlnaaGreatDoor

namespace Go.Proofs.YtioalnncjahlnaaGreatDoor
open Go.ChangeShapes Go.WideShapes Go.ChangeAt Go.RowKit
attribute [local irreducible] Go.Calls

/-- What a rule leaves: whether it has changed the term, and the term. -/
def RuleTo (S : Nat → Prop) (p : Nat) (r : Option Tm) (t : Tm) (w : World) (e : Ending) (w' : World) : Prop :=
  e = .returned (.bool r.isSome) ∧ TermB S w' p (r.getD t) ∧ w.grownBy w' (some p)
set_option maxHeartbeats 2000000 in
set_option maxRecDepth 100000 in
theorem unwrap_c (S : Nat → Prop) (p : Nat) (t : Tm) (w : World) (hS : ¬ S p) (hT : TermB S w p t) :
    Calls Tryz.prog 96 #[.pointer (some ⟨p, 0, none⟩)] w (RuleTo S p (oneR t) t w) := by
  obtain ⟨z, v, hb, hv⟩ := hT
  obtain ⟨av, cap, rfl, hc1, hc2⟩ := hv.shape
  have c0 := hb.cell 0; have c1 := hb.cell 1; have c2 := hb.cell 2; have c3 := hb.cell 3; have c4 := hb.cell 4; have c5 := hb.cell 5; have c6 := hb.cell 6
  have pz := hb.lt
  simp at c0 c1 c2 c3 c4 c5 c6
  by_cases h1 : t.2.len = 1
  · obtain ⟨b, off, cap', z', vk, e, _, hbz, hSb, hk, d0, d1, d2, d3, d4, d5, d6⟩ := hv.get (i := 0) (by omega)
    cases e
    obtain ⟨ak, ck, rfl, _, _⟩ := hk.shape
    simp only [Nat.zero_mul, Nat.add_zero] at d0 d1 d2 d3 d4 d5 d6
    have q1 : decide ((t.2.len : Int) ≠ 1) = false := decide_eq_false (by omega)
    have f0 := hb.free 0; have f1 := hb.free 1; have f2 := hb.free 2; have f3 := hb.free 3; have f4 := hb.free 4; have f5 := hb.free 5; have f6 := hb.free 6
    have ho : oneR t = some ((toL t.2).getD 0 tm0) := by
      unfold oneR
      rw [if_pos (by rw [toL_len]; exact h1)]
      match h : toL t.2, (toL_len t.2).trans h1 with
      | [u], _ => rfl
    generalize (toL t.2).getD 0 tm0 = u at *
    have HB := hidE hb; have HK := hidE hk; have HO := hidE ho
    clear hb hv hk ho
    go_enter Tryz.func96, Tryz.ntmps96
    go_wp2
    go_ret
    refine ⟨by rw [HO.out]; rfl, ?_, put7_grown w p u.1 z' _⟩
    rw [HO.out]
    exact ⟨z', _, put7_blk HB.out u.1 z' _, HK.out.off hS (put7_grown w p u.1 z' _)⟩
  · have q1 : decide ((t.2.len : Int) ≠ 1) = true := decide_eq_true (by omega)
    have HB := hidE hb; have HV := hidE hv
    have HO := hidE (show oneR t = none from by unfold oneR; rw [if_neg (by rw [toL_len]; exact h1)])
    clear hb hv
    go_enter Tryz.func96, Tryz.ntmps96
    go_wp2
    go_ret
    exact ⟨by rw [HO.out]; rfl, by rw [HO.out]; exact ⟨z, _, HB.out, HV.out⟩, grown_refl _ _⟩
end Go.Proofs.YtioalnncjahlnaaGreatDoor

namespace Go.Proofs.YtioalnncjahlnaaGreatDoor
open Go.ChangeShapes Go.WideShapes Go.ChangeAt Go.RowKit
attribute [local irreducible] Go.Calls

theorem getD_toL {F : Fst} {A R : List Tm} {u : Tm} (h : A ++ u :: R = toL F) : (toL F).getD A.length tm0 = u := by
  rw [← h, List.getD_eq_getElem?_getD, List.getElem?_append_right (Nat.le_refl _), Nat.sub_self]; rfl
theorem srcV_past {w w' : World} {sz : Nat} {v : Value} {n : Nat} {ys : List Value} (h : SrcV w sz v n ys) (hb : Below w.heap.size w w') : SrcV w' sz v n ys := by
  obtain ⟨a, cap, e, h1, h2, h3, h4⟩ := h
  refine ⟨a, cap, e, h1, h2, h3, fun ad ha j u hu => ?_⟩
  have := h4 ad ha j u hu
  exact (hb.cell (World.block_lt_of_cell? w _ this)).trans this
theorem flat_fin {t : Tm} {n kd : Nat} {c : Bool} {D : List Tm} (hn : (toL t.2).length = n) (hk : t.1.kind = kd) (hc : c = flatC kd n (toL t.2)) (hD : D = flatG kd n (toL t.2)) : (flatR t).isSome = c ∧ (flatR t).getD t = (t.1, ofL D) := by
  subst hn hk hc hD
  unfold flatR
  by_cases h : flatC t.1.kind (toL t.2).length (toL t.2) = true
  · rw [if_pos h]; exact ⟨h.symm, rfl⟩
  · rw [if_neg h]
    refine ⟨(by simpa using h : _ = false).symm, ?_⟩
    rw [flatC_id _ _ _ (by simpa using h), of_to]; rfl
set_option maxHeartbeats 4000000 in
set_option maxRecDepth 100000 in
theorem flatten_c (S : Nat → Prop) (p : Nat) (t : Tm) (w : World) (hS : ¬ S p) (hS2 : ∀ k, w.heap.size ≤ k → S k) (hT : TermB S w p t) (hl : t.2.len ≤ 16) (hlk : ∀ u ∈ toL t.2, u.2.len ≤ 16) :
    Calls Tryz.prog 97 #[.pointer (some ⟨p, 0, none⟩)] w (RuleTo S p (flatR t) t w) := by
  obtain ⟨z, v, hb, hv⟩ := hT
  obtain ⟨av, cap, rfl, hc1, hc2⟩ := hv.shape
  obtain ⟨kd, hkd⟩ : ∃ kd, t.1.kind = kd := ⟨_, rfl⟩
  have pz := hb.lt
  have HB := hidE hb; have HV := hidE hv; have HL := hidE hl; have HLK := hidE hlk; have HKD := hidE hkd
  obtain ⟨ix, hix, hz0, hzz, hz4⟩ := info_parts Tryz.infoTermN
  have HI := hidE hix; have HZ0 := hidE hz0; have HZ1 := hidE hzz; have HZ2 := hidE hz4
  have c6 := hb.cell 6; have c0 := hb.cell 0
  simp at c6 c0
  clear hix hz0 hzz hz4 hb hv hl hlk
  obtain ⟨n, hn⟩ : ∃ n, t.2.len = n := ⟨_, rfl⟩
  rw [hn] at c6 HL hc1
  rw [hkd] at c0
  have HN := hidE hn; clear hn hkd
  go_enter Tryz.func97, Tryz.ntmps97
  go_wp2
  go_loopg [3, 4, 5, 19] n (fun gh v3 v4 v5 v19 wr => ∃ (A D R : List Tm) (m : Nat) (c : Bool), v4 = .int .i64 m ∧ v5 = .bool c ∧ v19 = .int .i64 A.length ∧ A ++ R = toL t.2 ∧ R.length ≤ gh ∧ D.length + R.length = m ∧ m ≤ 16 ∧ D ++ flatG kd m R = flatG kd n (toL t.2) ∧ (c || flatC kd m R) = flatC kd n (toL t.2) ∧ OwnN w.heap.size (Old S w) wr v3 D ∧ Below w.heap.size w wr)
  case atStart => exact ⟨[], [], toL t.2, n, false, rfl, rfl, rfl, rfl, by rw [toL_len, HN.out]; exact Nat.le_refl _, by rw [toL_len, HN.out]; simp, HL.out, rfl, by simp, ownN_nil _ _ _, Below.refl _ _⟩
  case round =>
    obtain ⟨A, D, R, m, c, rfl, rfl, rfl, hAR, hgh, hDR, hm, hG, hC, hO, hbl⟩ := hrel
    have HBL := hidE hbl; have HG := hidE hG; have HC := hidE hC; have HO := hidE hO; have HAR := hidE hAR; have HGH := hidE hgh; have HDR := hidE hDR
    have e6 := (hbl.cell (p := ⟨p, 6, none⟩) pz).trans c6
    have e0 := (hbl.cell (p := ⟨p, 0, none⟩) pz).trans c0
    have ez := Nat.lt_of_lt_of_le pz hbl.size
    have hAn : A.length + R.length = n := by rw [← HN.out, ← toL_len, ← hAR, List.length_append]
    clear hG hC hO hbl hgh hDR
    cases R with
    | nil =>
      have q1 : decide ((A.length : Int) < (n : Int)) = false := decide_eq_false (by simp at hAn; omega)
      have q2 : ¬ A.length < n := by simp at hAn; omega
      have hcc : c = flatC kd n (toL t.2) := by have := HC.out; simpa [flatC] using this
      have hDD : D = flatG kd n (toL t.2) := by have := HG.out; simpa [flatG] using this
      have hfin := flat_fin (t := t) (n := n) (by rw [toL_len]; exact HN.out) HKD.out hcc hDD
      have pf := (HB.out.past HBL.out).free 6
      obtain ⟨a3, c3, hv3⟩ : ∃ a3 c3, u3 = .slice a3 D.length c3 := by obtain ⟨xs, ho, _⟩ := HO.out; exact own_sli ho
      subst hv3
      have HF := hidE hfin
      clear hcc hDD hfin
      go_wp2
      go_ret
      refine ⟨by rw [HF.out.1]; rfl, ?_, grown_trans (grown_any HBL.out) (grown_set _ _ _ _)⟩
      rw [HF.out.2]
      have hs := (HB.out.past HBL.out).set 6 (.slice a3 D.length c3)
      simp only [tcA, List.setIfInBounds_toArray, List.set_cons_zero, List.set_cons_succ] at hs
      exact ⟨z, _, hs, (HO.out.sli hS2 (fun k q => q.1)).off hS (grown_set _ _ _ _)⟩
    | cons u R =>
      have q1 : decide ((A.length : Int) < (n : Int)) = true := decide_eq_true (by simp at hAn; omega)
      have q2 : A.length < n := by simp at hAn; omega
      obtain ⟨b, off, cap', z', vk, e, _, hbz, hSb, hk, d0, d1, d2, d3, d4, d5, d6⟩ := (HV.out.old.sam (Sam.old HBL.out)).get (i := A.length) (by rw [HN.out]; simp at hAn; omega)
      cases e
      rw [getD_toL hAR] at d0 d1 d2 d3 d5 hk
      obtain ⟨ak, ck, rfl, hk1, hk2⟩ := hk.shape
      have HK := hidE hk
      have hul := HLK.out u (by rw [← hAR]; simp)
      clear hk hAR
      have r3 : wrap64 ((m : Int) - 1 + u.2.len) = (m : Int) - 1 + u.2.len := by unfold wrap64; omega
      obtain ⟨xs, ho, hrx⟩ := HO.out
      obtain ⟨a3, c3, hv3⟩ : ∃ a3 c3, u3 = .slice a3 D.length c3 := own_sli ho
      subst hv3
      have hob : ∀ j, (Value.slice a3 D.length c3).ownBlock = some j → w.heap.size ≤ j := fun j hj => own_block ho hj
      have HOB := hidE hob; have HOW := hidE ho; have HRX := hidE hrx
      have hws := HBL.out.size
      have hd16 : D.length ≤ 16 := by have := HDR.out; omega
      clear HO ho hrx hob
      by_cases hgo : u.1.kind = kd ∧ m + u.2.len ≤ 17
      · have hG2 : flatG kd m (u :: R) = toL u.2 ++ flatG kd (m + u.2.len - 1) R := by rw [flatG, if_pos hgo]
        have hC2 : flatC kd m (u :: R) = true := by rw [flatC, if_pos hgo]
        have HG2 := hidE hG2; have HC2 := hidE hC2
        have r1 : ((u.1.kind : Int) != (kd : Int)) = false := by simp; omega
        have r2 : decide ((16 : Int) < (m : Int) - 1 + u.2.len) = false := by simp; omega
        have hm2 := hgo.2
        clear hG2 hC2 hgo
        go_wp2
        go_quiet (fail)
        obtain ⟨ys, hsrc, hys⟩ := HK.out.src
        have HSRC := hidE hsrc; have HYS := hidE hys
        clear hsrc hys
        go_wp2_with (at_builtin; go_loud (refine list_appV rfl (.tmp 46) (.tmp 48) 77 rfl w.heap.size 79 ix _ 7 64 Tryz.underlying77 HI.out HZ0.out HZ1.out HZ2.out rfl (by decide) (.slice a3 D.length c3) D.length xs rfl (own_below HOW.out (by (repeat (first | exact Below.refl _ _ | assumption | refine balloc ?_ _ | refine below_drewN ?_ _ | refine bstep (by assumption) ?_ | refine bstep (Past.prop _) ?_ | refine Below.setCell ?_ (by first | exact Nat.le_refl _ | (simp; done) | (simp; omega)) _)))) _ u.2.len ys rfl (srcV_past HSRC.out (by (repeat (first | exact Below.refl _ _ | assumption | refine balloc ?_ _ | refine below_drewN ?_ _ | refine bstep (by assumption) ?_ | refine bstep (Past.prop _) ?_ | refine Below.setCell ?_ (by first | exact Nat.le_refl _ | (simp; done) | (simp; omega)) _)))) (by omega) (by omega) (by simp; omega) ?_); intro v' w2 own' hg'; obtain ⟨av', cp', rfl⟩ := own_sli own')
        go_roundg R.length
        case measure => have := HGH.out; simp only [List.length_cons] at this; omega
        case rel =>
          have hbl3 := (show Below w.heap.size wr w2 from Below.grown ((show Below wr.heap.size wr _ from by (repeat (first | exact Below.refl _ _ | assumption | refine balloc ?_ _ | refine below_drewN ?_ _ | refine bstep (by assumption) ?_ | refine bstep (Past.prop _) ?_ | refine Below.setCell ?_ (by first | exact Nat.le_refl _ | (simp; done) | (simp; omega)) _))).mono hws) hg' (by simp; omega) (fun j hj => HOB.out j hj))
          have hsm := Sam.old (S := S) hbl3
          have hdr := HDR.out
          simp only [List.length_cons] at hdr
          refine ⟨A ++ [u], D ++ toL u.2, R, m + u.2.len - 1, true, by congr 1; omega, rfl, by simp, by rw [← HAR.out]; simp, Nat.le_refl _, by rw [List.length_append, toL_len]; omega, by omega, by rw [← HG.out, HG2.out]; simp, by rw [← HC.out, HC2.out]; simp, ⟨_, by rw [List.length_append, toL_len]; exact own', CelF.app (by rw [of_to]; exact HYS.out.sam hsm) (HRX.out.sam hsm)⟩, HBL.out.trans hbl3⟩
      · have hG2 : flatG kd m (u :: R) = u :: flatG kd m R := by rw [flatG, if_neg hgo]
        have hC2 : flatC kd m (u :: R) = flatC kd m R := by rw [flatC, if_neg hgo]
        have HG2 := hidE hG2; have HC2 := hidE hC2
        clear hG2 hC2
        have hcase : (((u.1.kind : Int) != (kd : Int)) = true ∧ (u.1.kind != kd) = true) ∨ (((u.1.kind : Int) != (kd : Int)) = false ∧ decide ((16 : Int) < (m : Int) - 1 + u.2.len) = true) := by
          by_cases hkk : u.1.kind = kd
          · exact .inr ⟨by simp; omega, by simp; omega⟩
          · exact .inl ⟨by simp; omega, by simpa using hkk⟩
        clear hgo
        rcases hcase with ⟨r1, r2⟩ | ⟨r1, r2⟩
        all_goals
          go_wp2
          go_quiet (fail)
          go_wp2_with (at_builtin; go_loud (refine list_appV rfl (.tmp 42) (.tmp 44) 77 rfl w.heap.size 79 ix _ 7 64 Tryz.underlying77 HI.out HZ0.out HZ1.out HZ2.out rfl (by decide) (.slice a3 D.length c3) D.length xs rfl (own_below HOW.out (by (repeat (first | exact Below.refl _ _ | assumption | refine balloc ?_ _ | refine below_drewN ?_ _ | refine bstep (by assumption) ?_ | refine bstep (Past.prop _) ?_ | refine Below.setCell ?_ (by first | exact Nat.le_refl _ | (simp; done) | (simp; omega)) _)))) _ 1 (tcV u.1 z' _) rfl (srcV_new (Blk.made_at _ _ _ _ (by first | rfl | (simp; done) | (simp [World.drewN]; done))) rfl (by intro y hy; simp at hy; rcases hy with rfl | rfl | rfl | rfl | rfl | rfl | rfl <;> rfl)) (by omega) (by omega) (by simp; omega) ?_); intro v' w2 own' hg'; obtain ⟨av', cp', rfl⟩ := own_sli own')
          go_roundg R.length
          case measure => have := HGH.out; simp only [List.length_cons] at this; omega
          case rel =>
            have hbl2 := HBL.out.trans (Below.grown ((show Below wr.heap.size wr _ from by (repeat (first | exact Below.refl _ _ | assumption | refine balloc ?_ _ | refine below_drewN ?_ _ | refine bstep (by assumption) ?_ | refine bstep (Past.prop _) ?_ | refine Below.setCell ?_ (by first | exact Nat.le_refl _ | (simp; done) | (simp; omega)) _))).mono hws) hg' (by simp; omega) (fun j hj => HOB.out j hj))
            have hsm := Sam.old (S := S) ((show Below w.heap.size wr w2 from Below.grown ((show Below wr.heap.size wr _ from by (repeat (first | exact Below.refl _ _ | assumption | refine balloc ?_ _ | refine below_drewN ?_ _ | refine bstep (by assumption) ?_ | refine bstep (Past.prop _) ?_ | refine Below.setCell ?_ (by first | exact Nat.le_refl _ | (simp; done) | (simp; omega)) _))).mono hws) hg' (by simp; omega) (fun j hj => HOB.out j hj)))
            refine ⟨A ++ [u], D ++ [u], R, m, c, rfl, rfl, by simp, by rw [← HAR.out]; simp, Nat.le_refl _, by have := HDR.out; simp only [List.length_append, List.length_cons, List.length_nil] at this ⊢; omega, hm, by rw [← HG.out, HG2.out]; simp, by rw [← HC.out, HC2.out], ⟨_, by rw [List.length_append]; exact own', CelF.app ((celF_one HK.out).sam hsm) (HRX.out.sam hsm)⟩, hbl2⟩
end Go.Proofs.YtioalnncjahlnaaGreatDoor

namespace Go.Proofs.YtioalnncjahlnaaGreatDoor
open Go.ChangeShapes Go.WideShapes Go.ChangeAt Go.RowKit Go.Shelf
attribute [local irreducible] Go.Calls

def Tryz.bren : Go.Shelf.Ren := ⟨fun | 169 => 146 | n => n, fun | 70 => 210 | 9 => 9 | 0 => 0 | 72 => 212 | 37 => 207 | 127 => 226 | 3 => 3 | 5 => 5 | n => n, fun | n => n⟩
theorem Tryz.blays : Go.Proofs.Lays.n169 Tryz.prog Tryz.bren := {
  mixed := by kernel_rfl
  f169 := Tryz.func146.trans (congrArg some (by kernel_rfl))
  t0 := Tryz.underlying0
  a0 := Tryz.isAgg0
  z0 := Tryz.sizeOf0
  v0 := Tryz.zeroValue0
  t3 := Tryz.underlying3
  a3 := Tryz.isAgg3
  z3 := Tryz.sizeOf3
  v3 := Tryz.zeroValue3
  t9 := Tryz.underlying9
  a9 := Tryz.isAgg9
  z9 := Tryz.sizeOf9
  v9 := Tryz.zeroValue9
  t37 := Tryz.underlying207
  a37 := Tryz.isAgg207
  z37 := Tryz.sizeOf207
  v37 := Tryz.zeroValue207
  t70 := Tryz.underlying210
  a70 := Tryz.isAgg210
  z70 := Tryz.sizeOf210
  v70 := Tryz.zeroValue210
  t72 := Tryz.underlying212
  a72 := Tryz.isAgg212
  z72 := Tryz.sizeOf212
  v72 := Tryz.zeroValue212
  t127 := Tryz.underlying226
  a127 := Tryz.isAgg226
  z127 := Tryz.sizeOf226
  v127 := Tryz.zeroValue226
  }
theorem Tryz.bextra : Builder.Extra Tryz.prog Tryz.bren := {
  sizeBuilder := by kernel_rfl
  liesBuilder := by kernel_rfl
  t5 := Tryz.underlying5
  a5 := Tryz.isAgg5
  z5 := Tryz.sizeOf5
  v5 := Tryz.zeroValue5
  infoByte := by kernel_rfl
  cellsByte := by kernel_rfl
  sizeByte := by kernel_rfl
  neB5 := by decide }
/-- A builder that the call has made, in block b, with its bytes. -/
abbrev BldI (B b : Nat) (l : List UInt8) (w : World) : Prop := Lib.IsBuilderF 212 5 B b (Lib.byteCells l) w
theorem bld_string (B b : Nat) (l : List UInt8) (w : World) (h : BldI B b l w) (hB : B ≤ w.heap.size) :
    Calls Tryz.prog 146 #[.pointer (some ⟨b, 0, none⟩)] w fun e w' => e = .returned (strV l) ∧ Below B w w' :=
  (Any.Builder_String_any_k Tryz.blays Tryz.bextra B b l w h hB).mono fun _ _ ⟨h1, _, h2, _⟩ => ⟨h1, h2⟩
theorem Tryz.infoBld : (Tryz.prog.info? 212).map (·.size) = some 2 := by kernel_rfl
theorem Tryz.infoU8 : (Tryz.prog.info? 5).map (fun i => (i.zero, i.size, i.bytes)) = some (some (.int .u8 0), 1, 1) := by kernel_rfl
set_option maxHeartbeats 1000000 in
set_option maxRecDepth 100000 in
theorem bld_check (B b : Nat) (bs : List Value) (w : World) (h : Lib.IsBuilderF 212 5 B b bs w) :
    Calls Tryz.prog 151 #[.pointer (some ⟨b, 0, none⟩)] w fun e w' => e = .returned (.tuple #[]) ∧ Lib.BuilderAtF 212 5 B b (.pointer (some ⟨b, 0, none⟩)) bs w' ∧ Below B w w' ∧ Lib.OthersKept 5 (some b) w w' := by
  obtain ⟨j, hj, hjs⟩ := Option.map_eq_some_iff.1 Tryz.infoBld
  rcases h with h | h
  · have h0 := h.cell0; have hz := h.frozen0; have hsh := h.shape
    have HB := hidE h
    clear h
    have e1 := fun w hsh => Lib.run_to_unsafe (P := Tryz.prog) (e := 212) (cells := 2) w ⟨b, 0, none⟩ Tryz.underlying210 Tryz.underlying227 hj (by rw [hjs]; decide) hsh (Nat.zero_lt_succ 1)
    have e2 := fun w hsh => Lib.run_from_unsafe (P := Tryz.prog) (e := 212) (cells := 2) w ⟨b, 0, none⟩ Tryz.underlying227 Tryz.underlying210 hj hsh Tryz.bextra.liesBuilder
    go_enter Tryz.func151, Tryz.ntmps151
    go_wp2
    rw [run_callFunc_extern Tryz.func155 (by kernel_rfl) (by kernel_rfl) (by kernel_rfl) (e := Extern.AbiNoEscape.same) (by kernel_rfl)]
    rw [Lib.run_noEscape]
    simp only [Result.andThen]
    rw [Oper.upon_value]
    go_wp2
    go_end0
    exact ⟨rfl, HB.out.used _, (Below.refl B w).setCell (p := ⟨b, 0, none⟩) HB.out.1 _, (Lib.OthersKept.refl _ _ w).setCell ⟨b, 0, none⟩ rfl _⟩
  · have h0 := h.cell0
    have HB := hidE h
    have e1 := fun w => Lib.run_neq_ptr_same (P := Tryz.prog) w ⟨b, 0, none⟩ Tryz.underlying210 hj
    clear h
    go_enter Tryz.func151, Tryz.ntmps151
    go_wp2
    go_end0
    exact ⟨rfl, HB.out, Below.refl B _, Lib.OthersKept.refl _ _ _⟩
theorem bld_cells {B b : Nat} {p : Value} {bs : List Value} {w : World} (h : Lib.BuilderAtF 212 5 B b p bs w) : ∃ v, w.heap[b]? = some (.cells #[p, v] 212 (0, 0)) ∧ w.ownsRowF B 5 1 v bs.length bs ∧ v.ownBlock ≠ some b ∧ b < w.heap.size ∧ B ≤ b ∧ w.cell? ⟨b, 0, none⟩ = some p ∧ w.cell? ⟨b, 1, none⟩ = some v ∧ w.frozen? ⟨b, 1, none⟩ = false := by
  have hlt := h.lt
  obtain ⟨hB, v, hbk, hown, hne⟩ := h
  exact ⟨v, hbk, hown, hne, hlt, hB, by rw [Lib.cell_of_heap hbk]; rfl, by rw [Lib.cell_of_heap hbk]; rfl, Lib.frozen_of_heap hbk 1⟩
theorem ownF_sli {A : World} {β sz n : Nat} {e : TypeId} {v : Value} {xs : List Value} (h : A.ownsRowF β e sz v n xs) : ∃ a cap, v = .slice a n cap := by
  rcases h.2 with ⟨hv, h0⟩ | ⟨g, cap, cur, fz, hv, _⟩
  · exact ⟨none, 0, by rw [hv, h0]⟩
  · exact ⟨_, cap, hv⟩
/-- What the writing methods leave. -/
def Wrote (B b : Nat) (l : List UInt8) (w w' : World) : Prop := BldI B b l w' ∧ Below B w w' ∧ Lib.OthersKept 5 (some b) w w'
set_option maxHeartbeats 2000000 in
set_option maxRecDepth 100000 in
theorem bld_byte (B b : Nat) (l : List UInt8) (c : UInt8) (w : World) (h : BldI B b l w) (hl : l.length + 1 ≤ 140737488355328) (hBw : B ≤ w.heap.size) (z : Int) (hz : z = c.toNat) :
    Calls Tryz.prog 153 #[.pointer (some ⟨b, 0, none⟩), .int .u8 z] w fun e w' => e = .returned .nilIface ∧ Wrote B b (l ++ [c]) w w' := by
  obtain ⟨i0, hi, hz0, hz1, hz2⟩ := info_parts Tryz.infoU8
  have HI := hidE hi; have HZ0 := hidE hz0; have HZ1 := hidE hz1; have HZ2 := hidE hz2
  have HC := hidE (bld_check B b (Lib.byteCells l) w h)
  have hbl := Lib.byteCells_length l
  have HZ := hidE (show Lib.byteCells l ++ [.int .u8 z] = Lib.byteCells (l ++ [c]) by rw [Lib.byteCells_append, hz]; rfl)
  clear h hi hz0 hz1 hz2 hz
  generalize Lib.byteCells l = bs at *
  go_enter Tryz.func153, Tryz.ntmps153
  go_wp2_with (go_at_call 151; (with_reducible refine HC.out.mono ?_))
  rintro e w1 ⟨rfl, h1, hb1, hk1⟩
  obtain ⟨v, hbk, hown, hne, hlt, hBb, c0, c1, _⟩ := bld_cells h1
  have hw1 := hb1.size
  have HO := hidE hown; have HB1 := hidE hb1; have HK1 := hidE hk1; have HBK := hidE hbk
  clear h1 hown hb1 hk1 hbk
  go_wp2_with (at_builtin; refine wpList_append_ownF _ rfl _ _ 207 rfl B 5 i0 (.int .u8 0) 1 1 Tryz.underlying207 HI.out HZ0.out HZ1.out HZ2.out rfl (by decide) _ _ _ rfl (HO.out.alloc _) ⟨w1.heap.size, 0, none⟩ 1 1 [.int .u8 z] rfl rfl (new_cellsT _ #[.int .u8 z] 5) (by intro y hy; simp at hy; subst hy; rfl) (by unfold maxLen; omega) (by omega) (by simp; omega) ?_; intro v' w2 hown' hgrow _; have hb2 : w2.heap[b]? = some (.cells #[.pointer (some ⟨b, 0, none⟩), v] 212 (0, 0)) := (by rw [hgrow.block b (by simp; omega) (fun e => hne e.symm), Lib.alloc_old w1 _ b hlt]; exact HBK.out); have d0 : w2.cell? ⟨b, 0, none⟩ = some (.pointer (some ⟨b, 0, none⟩)) := (by rw [Lib.cell_of_heap hb2]; rfl); have d1 : w2.cell? ⟨b, 1, none⟩ = some v := (by rw [Lib.cell_of_heap hb2]; rfl); have f1 : w2.frozen? ⟨b, 1, none⟩ = false := Lib.frozen_of_heap hb2 1; obtain ⟨ao, cap, rfl⟩ := ownF_sli hown'; have HG := hidE hgrow; have HO2 := hidE hown'; have HB2 := hidE hb2; clear hgrow hown' hb2)
  go_ret
  refine ⟨rfl, ?_, ?_, ((HK1.out.alloc _).grown HG.out (Lib.ownsRowF_kind (HO.out.alloc _))).setCell ⟨b, 1, none⟩ rfl _⟩
  · show Lib.IsBuilderF _ _ _ _ _ _
    rw [← HZ.out]
    exact .inr (Lib.BuilderAtF.put (T := 212) (e := 5) hBb HB2.out (bs' := bs ++ [.int .u8 z]) (by have := HO2.out; rw [hbl] at this; simpa [hbl] using this) (by decide))
  · exact ((HB1.out.alloc (by omega) _).grown HG.out (by simp; omega) (fun k hk => (HO.out.lt k hk).1)).setCell (p := ⟨b, 1, none⟩) hBb _
set_option maxHeartbeats 2000000 in
set_option maxRecDepth 100000 in
theorem bld_str (B b : Nat) (l t : List UInt8) (w : World) (h : BldI B b l w) (hl : l.length + t.length ≤ 140737488355328) (hBw : B ≤ w.heap.size) :
    Calls Tryz.prog 143 #[.pointer (some ⟨b, 0, none⟩), strV t] w fun e w' => e = .returned (.tuple #[.int .i64 t.length, .nilIface]) ∧ Wrote B b (l ++ t) w w' := by
  obtain ⟨i0, hi, hz0, hz1, hz2⟩ := info_parts Tryz.infoU8
  have HI := hidE hi; have HZ0 := hidE hz0; have HZ1 := hidE hz1; have HZ2 := hidE hz2
  have HC := hidE (bld_check B b (Lib.byteCells l) w h)
  have hbl := Lib.byteCells_length l
  have slen : (⟨t.toArray⟩ : ByteArray).size = t.length := by simp [ByteArray.size]
  have HZ := hidE (show Lib.byteCells l ++ Lib.strCells ⟨t.toArray⟩ = Lib.byteCells (l ++ t) by rw [Lib.byteCells_append]; rfl)
  clear h hi hz0 hz1 hz2
  generalize Lib.byteCells l = bs at *
  go_enter Tryz.func143, Tryz.ntmps143
  go_wp2_with (go_at_call 151; (with_reducible refine HC.out.mono ?_))
  rintro e w1 ⟨rfl, h1, hb1, hk1⟩
  obtain ⟨v, hbk, hown, hne, hlt, hBb, c0, c1, _⟩ := bld_cells h1
  have hw1 := hb1.size
  have HO := hidE hown; have HB1 := hidE hb1; have HK1 := hidE hk1; have HBK := hidE hbk
  clear h1 hown hb1 hk1 hbk
  go_wp2_with (at_builtin; refine Lib.wpList_append_own_stringF _ rfl _ _ 207 9 rfl B 5 i0 Tryz.underlying207 Tryz.underlying9 HI.out HZ0.out HZ1.out HZ2.out _ _ _ rfl HO.out ⟨t.toArray⟩ rfl (by unfold maxLen; rw [slen]; omega) (by rw [slen]; omega) (by omega) ?_; intro v' w2 hown' hgrow _; have hb2 : w2.heap[b]? = some (.cells #[.pointer (some ⟨b, 0, none⟩), v] 212 (0, 0)) := (by rw [hgrow.block b hlt (fun e => hne e.symm)]; exact HBK.out); have d0 : w2.cell? ⟨b, 0, none⟩ = some (.pointer (some ⟨b, 0, none⟩)) := (by rw [Lib.cell_of_heap hb2]; rfl); have d1 : w2.cell? ⟨b, 1, none⟩ = some v := (by rw [Lib.cell_of_heap hb2]; rfl); have f1 : w2.frozen? ⟨b, 1, none⟩ = false := Lib.frozen_of_heap hb2 1; obtain ⟨ao, cap, rfl⟩ := ownF_sli hown'; have HG := hidE hgrow; have HO2 := hidE hown'; have HB2 := hidE hb2; clear hgrow hown' hb2)
  go_ret2
  refine ⟨by simp, ?_, ?_, (HK1.out.grown HG.out (Lib.ownsRowF_kind HO.out)).setCell ⟨b, 1, none⟩ rfl _⟩
  · show Lib.IsBuilderF _ _ _ _ _ _
    rw [← HZ.out]
    exact .inr (Lib.BuilderAtF.put (T := 212) (e := 5) hBb HB2.out (bs' := bs ++ Lib.strCells ⟨t.toArray⟩) (by have := HO2.out; rw [hbl, slen] at this; simpa [Lib.strCells_length, hbl, slen] using this) (by decide))
  · exact (HB1.out.grown HG.out (by omega) (fun k hk => (HO.out.lt k hk).1)).setCell (p := ⟨b, 1, none⟩) hBb _
end Go.Proofs.YtioalnncjahlnaaGreatDoor

namespace Go.Proofs.YtioalnncjahlnaaGreatDoor
open Go.ChangeShapes Go.WideShapes Go.ChangeAt Go.RowKit Go.Shelf
attribute [local irreducible] Go.Calls

/-- A writer in block b: its builder's mark, its bytes, its stack. -/
def WrAt (B b : Nat) (pv : Value) (l : List UInt8) (o : Value) (w : World) : Prop := B ≤ b ∧ ∃ v, Blk w b #[pv, v, o] 214 ∧ w.ownsRowF B 5 1 v l.length (Lib.byteCells l)
def Wr (B b : Nat) (l : List UInt8) (o : Value) (w : World) : Prop := WrAt B b (.pointer none) l o w ∨ WrAt B b (.pointer (some ⟨b, 0, none⟩)) l o w
theorem Tryz.infoWr : (Tryz.prog.info? 212).map (·.size) = some 2 := by kernel_rfl
theorem Tryz.liesWr : liesAt Tryz.prog Tryz.prog.depth 214 (3 / Tryz.prog.cellsOf 214) 0 212 1 = true := by kernel_rfl
theorem Tryz.cellsByte : Tryz.prog.cellsOf 5 = 1 := by kernel_rfl
theorem wr_out {B b : Nat} {pv : Value} {l : List UInt8} {o : Value} {w : World} (h : WrAt B b pv l o w) : ∃ v, Blk w b #[pv, v, o] 214 ∧ w.ownsRowF B 5 1 v l.length (Lib.byteCells l) ∧ v.ownBlock ≠ some b ∧ b < w.heap.size ∧ B ≤ b := by
  obtain ⟨hB, v, hb, ho⟩ := h
  exact ⟨v, hb, ho, Lib.ownBlock_neF ho hb (by decide), hb.lt, hB⟩
theorem wr_set0 {B b : Nat} {pv q : Value} {l : List UInt8} {o : Value} {w : World} (h : WrAt B b pv l o w) : WrAt B b q l o (w.setCell ⟨b, 0, none⟩ q) := by
  obtain ⟨v, hb, ho, hne, hlt, hB⟩ := wr_out h
  have hs := hb.set 0 q
  exact ⟨hB, v, by simpa using hs, ho.kept (grown_set w b 0 q) (.inr hne)⟩
theorem wr_set1 {B b : Nat} {pv v v' : Value} {l : List UInt8} {o : Value} {w : World} (hB : B ≤ b) (hb : Blk w b #[pv, v, o] 214) (ho : w.ownsRowF B 5 1 v' l.length (Lib.byteCells l)) : WrAt B b pv l o (w.setCell ⟨b, 1, none⟩ v') := by
  have hs := hb.set 1 v'
  exact ⟨hB, v', by simpa using hs, ho.kept (grown_set w b 1 v') (.inr (Lib.ownBlock_neF ho hb (by decide)))⟩
set_option maxHeartbeats 1000000 in
set_option maxRecDepth 100000 in
theorem wr_check (B b : Nat) (l : List UInt8) (o : Value) (w : World) (h : Wr B b l o w) :
    Calls Tryz.prog 151 #[.pointer (some ⟨b, 0, none⟩)] w fun e w' => e = .returned (.tuple #[]) ∧ WrAt B b (.pointer (some ⟨b, 0, none⟩)) l o w' ∧ Below B w w' ∧ Lib.OthersKept 5 (some b) w w' := by
  obtain ⟨j, hj, hjs⟩ := Option.map_eq_some_iff.1 Tryz.infoWr
  rcases h with h | h
  · obtain ⟨v, hb, ho, hne, hlt, hB⟩ := wr_out h
    have h0 := hb.cell 0; have hz := hb.free 0
    have hsh : w.shape? b = some (214, 3) := by
      have : w.heap[b]? = some (.cells #[.pointer none, v, o] 214 (0, 0)) := hb
      simp [World.shape?, this]
    simp at h0
    have HW := hidE h; have HLT := hidE hlt; have HBB := hidE hB
    clear h hb ho hne
    have e1 := fun w hsh => Lib.run_to_unsafe (P := Tryz.prog) (e := 214) (cells := 3) w ⟨b, 0, none⟩ Tryz.underlying210 Tryz.underlying227 hj (by rw [hjs]; decide) hsh (Nat.zero_lt_succ 2)
    have e2 := fun w hsh => Lib.run_from_unsafe (P := Tryz.prog) (e := 214) (cells := 3) w ⟨b, 0, none⟩ Tryz.underlying227 Tryz.underlying210 hj hsh Tryz.liesWr
    go_enter Tryz.func151, Tryz.ntmps151
    go_wp2
    rw [run_callFunc_extern Tryz.func155 (by kernel_rfl) (by kernel_rfl) (by kernel_rfl) (e := Extern.AbiNoEscape.same) (by kernel_rfl)]
    rw [Lib.run_noEscape]
    simp only [Result.andThen]
    rw [Oper.upon_value]
    go_wp2
    go_end0
    exact ⟨rfl, wr_set0 HW.out, (Below.refl B w).setCell (p := ⟨b, 0, none⟩) HBB.out _, (Lib.OthersKept.refl _ _ w).setCell ⟨b, 0, none⟩ rfl _⟩
  · obtain ⟨v, hb, ho, hne, hlt, hB⟩ := wr_out h
    have h0 := hb.cell 0
    simp at h0
    have HW := hidE h
    clear h hb ho hne
    have e1 := fun w => Lib.run_neq_ptr_same (P := Tryz.prog) w ⟨b, 0, none⟩ Tryz.underlying210 hj
    go_enter Tryz.func151, Tryz.ntmps151
    go_wp2
    go_end0
    exact ⟨rfl, HW.out, Below.refl B _, Lib.OthersKept.refl _ _ _⟩
/-- What the writing methods leave. -/
def WroteW (B b : Nat) (l : List UInt8) (o : Value) (w w' : World) : Prop := Wr B b l o w' ∧ Below B w w' ∧ Lib.OthersKept 5 (some b) w w'
set_option maxHeartbeats 2000000 in
set_option maxRecDepth 100000 in
theorem wr_byte (B b : Nat) (l : List UInt8) (o : Value) (c : UInt8) (w : World) (h : Wr B b l o w) (hl : l.length + 1 ≤ 140737488355328) (hBw : B ≤ w.heap.size) (z : Int) (hz : z = c.toNat) :
    Calls Tryz.prog 153 #[.pointer (some ⟨b, 0, none⟩), .int .u8 z] w fun e w' => e = .returned .nilIface ∧ WroteW B b (l ++ [c]) o w w' := by
  obtain ⟨i0, hi, hz0, hz1, hz2⟩ := info_parts Tryz.infoU8
  have HI := hidE hi; have HZ0 := hidE hz0; have HZ1 := hidE hz1; have HZ2 := hidE hz2
  have HC := hidE (wr_check B b l o w h)
  have hbl := Lib.byteCells_length l
  have HZ := hidE (show Lib.byteCells l ++ [.int .u8 z] = Lib.byteCells (l ++ [c]) by rw [Lib.byteCells_append, hz]; rfl)
  clear h hi hz0 hz1 hz2 hz
  go_enter Tryz.func153, Tryz.ntmps153
  go_wp2_with (go_at_call 151; (with_reducible refine HC.out.mono ?_))
  rintro e w1 ⟨rfl, h1, hb1, hk1⟩
  obtain ⟨v, hbk, hown, hne, hlt, hBb⟩ := wr_out h1
  have c0 := hbk.cell 0; have c1 := hbk.cell 1; have c2 := hbk.cell 2
  simp at c0 c1 c2
  have hw1 := hb1.size
  have HO := hidE hown; have HB1 := hidE hb1; have HK1 := hidE hk1; have HBK := hidE hbk
  clear h1 hown hb1 hk1 hbk
  go_wp2_with (at_builtin; refine wpList_append_ownF _ rfl _ _ 207 rfl B 5 i0 (.int .u8 0) 1 1 Tryz.underlying207 HI.out HZ0.out HZ1.out HZ2.out rfl (by decide) _ _ _ rfl (HO.out.alloc _) ⟨w1.heap.size, 0, none⟩ 1 1 [.int .u8 z] rfl rfl (new_cellsT _ #[.int .u8 z] 5) (by intro y hy; simp at hy; subst hy; rfl) (by unfold maxLen; omega) (by omega) (by simp; omega) ?_; intro v' w2 hown' hgrow _; have hb2 : Blk w2 b #[.pointer (some ⟨b, 0, none⟩), v, o] 214 := (by refine (hgrow.block b (by simp; omega) (fun e => hne e.symm)).trans ?_; exact HBK.out.alloc _); have d0 := hb2.cell 0; have d1 := hb2.cell 1; have d2 := hb2.cell 2; have f1 := hb2.free 1; have z2 := hb2.lt; simp at d0 d1 d2; obtain ⟨ao, cap, rfl⟩ := ownF_sli hown'; have HG := hidE hgrow; have HO2 := hidE hown'; have HB2 := hidE hb2; clear hgrow hown' hb2)
  go_ret
  refine ⟨rfl, .inr ?_, ?_, ((HK1.out.alloc _).grown HG.out (Lib.ownsRowF_kind (HO.out.alloc _))).setCell ⟨b, 1, none⟩ rfl _⟩
  · refine wr_set1 hBb HB2.out ?_
    rw [← HZ.out, List.length_append]
    exact HO2.out
  · exact ((HB1.out.alloc (by omega) _).grown HG.out (by simp; omega) (fun k hk => (HO.out.lt k hk).1)).setCell (p := ⟨b, 1, none⟩) hBb _
set_option maxHeartbeats 2000000 in
set_option maxRecDepth 100000 in
theorem wr_str (B b : Nat) (l t : List UInt8) (o : Value) (w : World) (h : Wr B b l o w) (hl : l.length + t.length ≤ 140737488355328) (hBw : B ≤ w.heap.size) :
    Calls Tryz.prog 143 #[.pointer (some ⟨b, 0, none⟩), strV t] w fun e w' => e = .returned (.tuple #[.int .i64 t.length, .nilIface]) ∧ WroteW B b (l ++ t) o w w' := by
  obtain ⟨i0, hi, hz0, hz1, hz2⟩ := info_parts Tryz.infoU8
  have HI := hidE hi; have HZ0 := hidE hz0; have HZ1 := hidE hz1; have HZ2 := hidE hz2
  have HC := hidE (wr_check B b l o w h)
  have hbl := Lib.byteCells_length l
  have slen : (⟨t.toArray⟩ : ByteArray).size = t.length := by simp [ByteArray.size]
  have HZ := hidE (show Lib.byteCells l ++ Lib.strCells ⟨t.toArray⟩ = Lib.byteCells (l ++ t) by rw [Lib.byteCells_append]; rfl)
  clear h hi hz0 hz1 hz2
  go_enter Tryz.func143, Tryz.ntmps143
  go_wp2_with (go_at_call 151; (with_reducible refine HC.out.mono ?_))
  rintro e w1 ⟨rfl, h1, hb1, hk1⟩
  obtain ⟨v, hbk, hown, hne, hlt, hBb⟩ := wr_out h1
  have c0 := hbk.cell 0; have c1 := hbk.cell 1; have c2 := hbk.cell 2
  simp at c0 c1 c2
  have hw1 := hb1.size
  have HO := hidE hown; have HB1 := hidE hb1; have HK1 := hidE hk1; have HBK := hidE hbk
  clear h1 hown hb1 hk1 hbk
  go_wp2_with (at_builtin; refine Lib.wpList_append_own_stringF _ rfl _ _ 207 9 rfl B 5 i0 Tryz.underlying207 Tryz.underlying9 HI.out HZ0.out HZ1.out HZ2.out _ _ _ rfl HO.out ⟨t.toArray⟩ rfl (by unfold maxLen; rw [slen]; omega) (by rw [slen]; omega) (by omega) ?_; intro v' w2 hown' hgrow _; have hb2 : Blk w2 b #[.pointer (some ⟨b, 0, none⟩), v, o] 214 := (hgrow.block b hlt (fun e => hne e.symm)).trans HBK.out; have d0 := hb2.cell 0; have d1 := hb2.cell 1; have d2 := hb2.cell 2; have f1 := hb2.free 1; have z2 := hb2.lt; simp at d0 d1 d2; obtain ⟨ao, cap, rfl⟩ := ownF_sli hown'; have HG := hidE hgrow; have HO2 := hidE hown'; have HB2 := hidE hb2; clear hgrow hown' hb2)
  go_ret2
  refine ⟨by simp, .inr ?_, ?_, (HK1.out.grown HG.out (Lib.ownsRowF_kind HO.out)).setCell ⟨b, 1, none⟩ rfl _⟩
  · refine wr_set1 hBb HB2.out ?_
    rw [← HZ.out, List.length_append, ← slen]
    exact HO2.out
  · exact (HB1.out.grown HG.out (by omega) (fun k hk => (HO.out.lt k hk).1)).setCell (p := ⟨b, 1, none⟩) hBb _
set_option maxHeartbeats 2000000 in
set_option maxRecDepth 100000 in
theorem wr_string (B b : Nat) (l : List UInt8) (o : Value) (w : World) (h : Wr B b l o w) (h0 : l ≠ []) (hl : l.length ≤ 140737488355328) :
    Calls Tryz.prog 146 #[.pointer (some ⟨b, 0, none⟩)] w fun e w' => e = .returned (strV l) ∧ Below B w w' := by
  obtain ⟨pv, h⟩ : ∃ pv, WrAt B b pv l o w := by rcases h with h | h <;> exact ⟨_, h⟩
  obtain ⟨v, hbk, hown, hne, hlt, hBb⟩ := wr_out h
  have hl0 : l.length ≠ 0 := by simpa using h0
  obtain ⟨g, cap, cur, fz, rfl, hbg, hg, hfz, hnc, hcm, hcs, htake⟩ : ∃ g cap cur fz, v = .slice (some ⟨g, 0, none⟩) l.length cap ∧ B ≤ g ∧ w.heap[g]? = some (.cells cur 5 fz) ∧ fz.2 ≤ l.length * 1 ∧ l.length ≤ cap ∧ cap ≤ maxLen ∧ cur.size = cap * 1 ∧ cur.toList.take (l.length * 1) = Lib.byteCells l := by
    rcases hown.2 with ⟨_, hz⟩ | ⟨g, cap, cur, fz, hv, r⟩
    · exact absurd hz hl0
    · exact ⟨g, cap, cur, fz, hv, r⟩
  have c1 : w.drew.cell? ⟨b, 1, none⟩ = some (.slice (some ⟨g, 0, none⟩) l.length cap) := by
    have : Blk w.drew b #[pv, .slice (some ⟨g, 0, none⟩) l.length cap, o] 214 := hbk
    simpa using this.cell 1
  have hSD : (Builtin.unsafeSliceData_ #[207] 226 #[.slice (some ⟨g, 0, none⟩) l.length cap]).run Tryz.prog w.drew = .ok (.pointer (some ⟨g, 0, none⟩)) w.drew :=
    Lib.run_unsafeSliceData_row _ _ _ _ _ _ (by omega)
  have hUS : (Builtin.unsafeString_ #[226, 3] 9 #[.pointer (some ⟨g, 0, none⟩), .int .i64 l.length]).run Tryz.prog w.drew = .ok (.string ⟨l.toArray⟩) (w.drew.freeze ⟨g, 0, none⟩ l.length) := by
    refine Lib.run_unsafeString_row w.drew 226 3 9 5 Tryz.underlying226 Tryz.cellsByte g cur.size (by have hg' : w.drew.heap[g]? = some (.cells cur 5 fz) := hg; simp [World.shape?, hg']) l h0 (by omega) (by omega) ?_
    intro j x hx
    have := hown.cells (g := g) rfl j (.int .u8 x.toNat) (by simp [Lib.byteCells, hx])
    exact this
  have HBG := hidE hbg
  clear h hbk hown hne hg htake hcs hfz
  go_enter Tryz.func146, Tryz.ntmps146
  go_wp2
  go_region
  all_goals (go_wp2; go_ret; exact ⟨rfl, Lib.below_freeze (Below.drew (Below.refl B w)) (p := ⟨g, 0, none⟩) HBG.out _⟩)
end Go.Proofs.YtioalnncjahlnaaGreatDoor

namespace Go.Proofs.YtioalnncjahlnaaGreatDoor

/-- An atom's numbers. -/
def numsS (x : Prt) : List UInt8 := if x.kind = 0 then 32 :: (decS x.n ++ 32 :: (decS x.g ++ 32 :: decS x.d)) else []
/-- What a part begins with. -/
def headS (x : Prt) : List UInt8 := 32 :: 40 :: wordK x.kind
def closeW : List UInt8 → List Int → List UInt8 × List Int
  | s, [] => (s, [])
  | s, c :: st => if c = 0 then closeW (s ++ [41]) st else (s, c :: st)
def decTop : List Int → List Int
  | [] => []
  | c :: st => (c - 1) :: st
def partW (a : List UInt8 × List Int) (x : Prt) : List UInt8 × List Int := closeW (a.1 ++ headS x ++ numsS x) (x.kids :: decTop a.2)
def partsW (a : List UInt8 × List Int) (l : List Prt) : List UInt8 × List Int := l.foldl partW a
theorem closeW_zero (s : List UInt8) (st : List Int) : closeW s (0 :: st) = closeW (s ++ [41]) st := by rw [closeW]; simp
theorem closeW_pos (s : List UInt8) (c : Int) (st : List Int) (h : c ≠ 0) : closeW s (c :: st) = (s, c :: st) := by rw [closeW, if_neg h]
theorem textF_cons (x : Prt) (K N : Fst) : textF (.cons x K N) = headS x ++ (numsS x ++ (textF K ++ 41 :: textF N)) := by
  rw [textF]; rfl
theorem numsS_kids (x : Prt) (k : Int) : numsS { x with kids := k } = numsS x := rfl
theorem partsW_app (a : List UInt8 × List Int) (l r : List Prt) : partsW a (l ++ r) = partsW (partsW a l) r := List.foldl_append
theorem len_pos {F : Fst} (h : F ≠ .nil) : 1 ≤ F.len := by
  cases F with
  | nil => exact absurd rfl h
  | cons x K N => simp [Fst.len]
/-- Terms that are due. -/
theorem partsW_fst : ∀ (F : Fst) (s : List UInt8) (c : Int) (st : List Int), F ≠ .nil → (F.len : Int) ≤ c → partsW (s, c :: st) F.flat = closeW (s ++ textF F) ((c - F.len) :: st)
  | .nil, _, _, _, h, _ => absurd rfl h
  | .cons x K N, s, c, st, _, hc => by
    have rest : ∀ (s1 : List UInt8), partsW (closeW (s1 ++ [41]) ((c - 1) :: st)) N.flat = closeW (s1 ++ 41 :: textF N) ((c - (Fst.cons x K N).len) :: st) := by
      intro s1
      by_cases hN : N = .nil
      · subst hN
        show closeW _ _ = closeW _ _
        simp [textF, Fst.len]
      · have h1 := len_pos hN
        simp only [Fst.len] at hc ⊢
        rw [closeW_pos _ _ _ (by omega), partsW_fst N (s1 ++ [41]) (c - 1) st hN (by omega)]
        simp only [List.append_assoc, List.singleton_append]
        rw [show c - 1 - (N.len : Int) = c - ((N.len + 1 : Nat) : Int) by omega]
    rw [Fst.flat, textF_cons]
    show partsW (partW (s, c :: st) { x with kids := (K.len : Int) }) (K.flat ++ N.flat) = _
    have e : partW (s, c :: st) { x with kids := (K.len : Int) } = closeW (s ++ headS x ++ numsS x) ((K.len : Int) :: (c - 1) :: st) := rfl
    rw [e, partsW_app]
    by_cases hK : K = .nil
    · subst hK
      rw [show ((Fst.nil.len : Nat) : Int) = 0 from rfl, closeW_zero]
      show partsW (closeW _ _) N.flat = _
      rw [rest]
      simp [textF]
    · have h1 := len_pos hK
      rw [closeW_pos _ _ _ (by omega), partsW_fst K _ _ _ hK (Int.le_refl _), Int.sub_self, closeW_zero, rest]
      simp [List.append_assoc]
/-- One term, with nothing due. -/
theorem partsW_one {F : Fst} (h : F.len = 1) (s : List UInt8) : partsW (s, []) F.flat = (s ++ textF F, []) := by
  cases F with
  | nil => simp [Fst.len] at h
  | cons x K N =>
    have hN : N = .nil := by
      cases N with
      | nil => rfl
      | cons y a b => simp [Fst.len] at h
    subst hN
    rw [Fst.flat, textF_cons]
    show partsW (closeW (s ++ headS x ++ numsS x) [(K.len : Int)]) (K.flat ++ []) = _
    rw [List.append_nil]
    by_cases hK : K = .nil
    · subst hK
      rw [show ((Fst.nil.len : Nat) : Int) = 0 from rfl, closeW_zero]
      show (_, _) = _
      simp [textF]
    · have h1 := len_pos hK
      rw [closeW_pos _ _ _ (by omega), partsW_fst K _ _ _ hK (Int.le_refl _), Int.sub_self, closeW_zero]
      simp [closeW, textF, List.append_assoc]
theorem closeW_len : ∀ (s : List UInt8) (st : List Int), (closeW s st).1.length + (closeW s st).2.length = s.length + st.length
  | s, [] => rfl
  | s, c :: st => by
    rw [closeW]
    by_cases h : c = 0
    · rw [if_pos h, closeW_len]; simp; omega
    · rw [if_neg h]
theorem digG_len (k : Nat) : ∀ n, n < 10 ^ (k + 1) → (digG n).length ≤ k + 1 := by
  induction k with
  | zero => intro n h; rw [digG, if_pos (by simpa using h)]; simp
  | succ k ih =>
    intro n h
    rw [digG]
    by_cases c : n < 10
    · rw [if_pos c]; simp
    · rw [if_neg c, List.length_append]
      have := ih (n / 10) (by rw [Nat.div_lt_iff_lt_mul (by decide)]; rw [Nat.pow_succ] at h; exact h)
      simp; omega
theorem decS_len {n : Int} (h : -9223372036854775808 ≤ n ∧ n ≤ 9223372036854775807) : (decS n).length ≤ 21 := by
  unfold decS
  by_cases c : n < 0
  · rw [if_pos c]
    have := digG_len 19 (-n).toNat (by omega)
    simp; omega
  · rw [if_neg c]
    have := digG_len 19 n.toNat (by omega)
    omega
theorem wordK_len (k : Nat) : (wordK k).length ≤ 5 := by
  match k with
  | 0 => decide
  | 1 => decide
  | 2 => decide
  | 3 => decide
  | k + 4 => show ([97, 108, 108] : List UInt8).length ≤ 5; decide
theorem numsS_len {x : Prt} (h : PrtW x) : (numsS x).length ≤ 66 := by
  unfold numsS
  by_cases c : x.kind = 0
  · rw [if_pos c]
    have h1 := decS_len (n := x.n) (by obtain ⟨_, a, _⟩ := h; omega)
    have h2 := decS_len (n := x.g) (by obtain ⟨_, _, a, _⟩ := h; omega)
    have h3 := decS_len (n := x.d) h.2.2.2.1
    simp only [List.length_cons, List.length_append]; omega
  · rw [if_neg c]; simp
/-- A stack as it is between two parts. -/
def StOk (st : List Int) : Prop := (∀ y ∈ st, 0 ≤ y ∧ y ≤ 1000000) ∧ ∀ c r, st = c :: r → c ≠ 0
theorem closeW_ok : ∀ (s : List UInt8) (st : List Int), (∀ y ∈ st, 0 ≤ y ∧ y ≤ 1000000) → StOk (closeW s st).2
  | s, [], h => ⟨h, fun c r e => by cases e⟩
  | s, c :: st, h => by
    rw [closeW]
    by_cases e : c = 0
    · rw [if_pos e]; exact closeW_ok _ st (fun y hy => h y (List.mem_cons_of_mem _ hy))
    · rw [if_neg e]; exact ⟨h, fun c' r e' => by cases e'; exact e⟩
theorem decTop_ok {st : List Int} (h : StOk st) : ∀ y ∈ decTop st, 0 ≤ y ∧ y ≤ 1000000 := by
  cases st with
  | nil => intro y hy; cases hy
  | cons c r =>
    intro y hy
    simp only [decTop, List.mem_cons] at hy
    rcases hy with rfl | hy
    · have h1 := h.1 c (by simp); have h2 := h.2 c r rfl; omega
    · exact h.1 y (List.mem_cons_of_mem _ hy)
theorem decTop_len (st : List Int) : (decTop st).length = st.length := by cases st <;> rfl
theorem partW_ok {a : List UInt8 × List Int} {x : Prt} (h : StOk a.2) (hx : 0 ≤ x.kids ∧ x.kids ≤ 1000000) : StOk (partW a x).2 := by
  refine closeW_ok _ _ (fun y hy => ?_)
  simp only [List.mem_cons] at hy
  rcases hy with rfl | hy
  · exact hx
  · exact decTop_ok h y hy
theorem partW_len {a : List UInt8 × List Int} {x : Prt} (hx : PrtW x) : (partW a x).1.length + (partW a x).2.length ≤ a.1.length + a.2.length + 100 := by
  unfold partW
  rw [closeW_len]
  have h1 := numsS_len hx
  have h2 := wordK_len x.kind
  simp only [List.length_append, List.length_cons, headS, decTop_len]; omega
theorem partsW_ok : ∀ (l : List Prt) (a : List UInt8 × List Int), StOk a.2 → (∀ x ∈ l, PrtW x ∧ 0 ≤ x.kids ∧ x.kids ≤ 1000000) → StOk (partsW a l).2 ∧ (partsW a l).1.length + (partsW a l).2.length ≤ a.1.length + a.2.length + 100 * l.length
  | [], a, h, _ => ⟨h, by simp [partsW]⟩
  | x :: l, a, h, hx => by
    have h1 := hx x (by simp)
    have := partsW_ok l (partW a x) (partW_ok h h1.2) (fun y hy => hx y (List.mem_cons_of_mem _ hy))
    have h2 := partW_len (a := a) h1.1
    refine ⟨this.1, ?_⟩
    have h3 := this.2
    simp only [List.length_cons]
    show (partsW (partW a x) l).1.length + (partsW (partW a x) l).2.length ≤ _
    omega
theorem partsW_succ (a : List UInt8 × List Int) (l : List Prt) (k : Nat) (h : k < l.length) : partsW a (l.take (k + 1)) = partW (partsW a (l.take k)) (l.getD k ⟨0, 0, 0, 0, 0⟩) := by
  rw [List.take_add_one, partsW_app, List.getElem?_eq_getElem h, List.getD_eq_getElem?_getD, List.getElem?_eq_getElem h]
  rfl
end Go.Proofs.YtioalnncjahlnaaGreatDoor

namespace Go.Proofs.YtioalnncjahlnaaGreatDoor
open Go.RowKit Go.Shelf

def Tryz.iren : Go.Shelf.Ren := ⟨fun | 173 => 152 | 246 => 156 | 283 => 157 | 284 => 158 | 285 => 159 | 286 => 160 | 129 => 162 | 317 => 161 | 318 => 163 | 319 => 164 | 320 => 165 | 337 => 166 | 338 => 167 | n => n, fun | 2 => 2 | 3 => 3 | 9 => 9 | 4 => 4 | 171 => 230 | 0 => 0 | 53 => 198 | 37 => 207 | 5 => 5 | 173 => 233 | 212 => 237 | 51 => 33 | 20 => 20 | 213 => 238 | 46 => 171 | 232 => 241 | 233 => 242 | n => n, fun | 17 => 2 | 18 => 3 | 19 => 4 | n => n⟩
theorem Tryz.ilays : Go.Proofs.LaysM.n173 Tryz.prog Tryz.iren := {
  mixed := by kernel_rfl
  f129 := Tryz.func162.trans (congrArg some (by kernel_rfl))
  f173 := Tryz.func152.trans (congrArg some (by kernel_rfl))
  f246 := Tryz.func156.trans (congrArg some (by kernel_rfl))
  f283 := Tryz.func157.trans (congrArg some (by kernel_rfl))
  f284 := Tryz.func158.trans (congrArg some (by kernel_rfl))
  f285 := Tryz.func159.trans (congrArg some (by kernel_rfl))
  f286 := Tryz.func160.trans (congrArg some (by kernel_rfl))
  f317 := Tryz.func161.trans (congrArg some (by kernel_rfl))
  f318 := Tryz.func163.trans (congrArg some (by kernel_rfl))
  f319 := Tryz.func164.trans (congrArg some (by kernel_rfl))
  f320 := Tryz.func165.trans (congrArg some (by kernel_rfl))
  f337 := Tryz.func166.trans (congrArg some (by kernel_rfl))
  f338 := Tryz.func167.trans (congrArg some (by kernel_rfl))
  t0 := Tryz.underlying0
  a0 := Tryz.isAgg0
  z0 := Tryz.sizeOf0
  v0 := Tryz.zeroValue0
  t2 := Tryz.underlying2
  a2 := Tryz.isAgg2
  z2 := Tryz.sizeOf2
  v2 := Tryz.zeroValue2
  t3 := Tryz.underlying3
  a3 := Tryz.isAgg3
  z3 := Tryz.sizeOf3
  v3 := Tryz.zeroValue3
  t4 := Tryz.underlying4
  a4 := Tryz.isAgg4
  z4 := Tryz.sizeOf4
  v4 := Tryz.zeroValue4
  t5 := Tryz.underlying5
  a5 := Tryz.isAgg5
  z5 := Tryz.sizeOf5
  v5 := Tryz.zeroValue5
  t9 := Tryz.underlying9
  a9 := Tryz.isAgg9
  z9 := Tryz.sizeOf9
  v9 := Tryz.zeroValue9
  t20 := Tryz.underlying20
  a20 := Tryz.isAgg20
  z20 := Tryz.sizeOf20
  v20 := Tryz.zeroValue20
  t37 := Tryz.underlying207
  a37 := Tryz.isAgg207
  z37 := Tryz.sizeOf207
  v37 := Tryz.zeroValue207
  t46 := Tryz.underlying171
  a46 := Tryz.isAgg171
  z46 := Tryz.sizeOf171
  v46 := Tryz.zeroValue171
  t51 := Tryz.underlying33
  a51 := Tryz.isAgg33
  z51 := Tryz.sizeOf33
  v51 := Tryz.zeroValue33
  t53 := Tryz.underlying198
  a53 := Tryz.isAgg198
  z53 := Tryz.sizeOf198
  v53 := Tryz.zeroValue198
  t171 := Tryz.underlying230
  a171 := Tryz.isAgg230
  z171 := Tryz.sizeOf230
  v171 := Tryz.zeroValue230
  t173 := Tryz.underlying233
  a173 := Tryz.isAgg233
  z173 := Tryz.sizeOf233
  v173 := Tryz.zeroValue233
  t212 := Tryz.underlying237
  a212 := Tryz.isAgg237
  z212 := Tryz.sizeOf237
  v212 := Tryz.zeroValue237
  t213 := Tryz.underlying238
  a213 := Tryz.isAgg238
  z213 := Tryz.sizeOf238
  t232 := Tryz.underlying241
  a232 := Tryz.isAgg241
  z232 := Tryz.sizeOf241
  v232 := Tryz.zeroValue241
  t233 := Tryz.underlying242
  a233 := Tryz.isAgg242
  z233 := Tryz.sizeOf242
  v233 := Tryz.zeroValue242
  g17 := by kernel_rfl
  g18 := by kernel_rfl
  g19 := by kernel_rfl
  i0 := by kernel_rfl
  i2 := by kernel_rfl
  i3 := by kernel_rfl
  i4 := by kernel_rfl
  i5 := by kernel_rfl
  i9 := by kernel_rfl
  i20 := by kernel_rfl
  i37 := by kernel_rfl
  i46 := by kernel_rfl
  i51 := by kernel_rfl
  i53 := by kernel_rfl
  i171 := by kernel_rfl
  i173 := by kernel_rfl
  i212 := by kernel_rfl
  i232 := by kernel_rfl
  i233 := by kernel_rfl
  m17 := by kernel_rfl
  m18 := by kernel_rfl
  m19 := by kernel_rfl }
theorem decDigits_eq (m : Nat) : ∀ u, u ≤ m → Lib.decDigits u = digG u := by
  induction m with
  | zero => intro u hu; rw [Lib.decDigits, digG]; simp [show u < 10 by omega]
  | succ m ih =>
    intro u hu
    rw [Lib.decDigits, digG]
    by_cases c : u < 10
    · simp [c]
    · rw [dif_neg c, if_neg c, ih (u / 10) (by omega)]
theorem itoa_eq (n : Int) : Lib.itoa n = decS n := by
  unfold Lib.itoa decS
  by_cases c : n < 0
  · rw [if_pos c, if_pos c, decDigits_eq _ _ (Nat.le_refl _), show n.natAbs = (-n).toNat by omega]
  · rw [if_neg c, if_neg c, decDigits_eq _ _ (Nat.le_refl _)]
theorem itoa_c (n : Int) (h0 : -9223372036854775808 ≤ n) (h1 : n ≤ 9223372036854775807) (w : World) (hT : PowTab w) :
    Calls Tryz.prog 152 #[.int .i64 n, .int .i64 10] w fun e w' => e = .returned (strV (decS n)) ∧ Below w.heap.size w w' := by
  refine (Any.strconv_FormatInt_10 Tryz.ilays n h0 h1 w hT).mono ?_
  rintro e w' ⟨rfl, k, os, rfl⟩
  refine ⟨by rw [itoa_eq], ?_⟩
  exact ⟨rfl, rfl, rfl, by show w.heap.size ≤ (w.heap ++ os).size; simp, fun k hk => by show (w.heap ++ os)[k]? = _; rw [Array.getElem?_append_left hk]⟩
end Go.Proofs.YtioalnncjahlnaaGreatDoor

namespace Go.Proofs.YtioalnncjahlnaaGreatDoor
open Go.RowKit

def barOk (l : List Oper) (q : Nat) : Bool :=
  Region.noSelect l.toArray && decide (q < l.length) &&
  ((List.range l.length).all fun i => match l[i]? with
    | some o => o.after.all fun e => !Region.binds .any e || decide (e.on < i)
    | none => true) &&
  ((List.range q).all fun i => match l[i]? with
    | some o => match o.guard with
      | some g => decide (g.1 < q)
      | none => true
    | none => true) &&
  ((List.range l.length).all fun i => decide (i ≤ q) || (List.range i).any fun j => decide (q ≤ j) && waits l.toArray i j) &&
  ((List.range q).all fun j => (List.range (q + 1)).any fun i => decide (j < i) && waits l.toArray i j) &&
  Region.lexB .any (l.take q).toArray &&
  Region.lexFrom .any l.toArray (l.drop (q + 1)).length (q + 1) (Array.replicate (q + 1) true ++ Array.replicate (l.length - (q + 1)) false)

structure BarOk (l : List Oper) (q : Nat) : Prop where
  sel : Region.noSelect l.toArray = true
  lt : q < l.length
  back : ∀ i o, l[i]? = some o → ∀ e ∈ o.after, Region.binds .any e = true → e.on < i
  guard : ∀ i o, i < q → l[i]? = some o → ∀ g, o.guard = some g → g.1 < q
  after : ∀ i, i < l.length → q < i → ∃ j, q ≤ j ∧ j < i ∧ waits l.toArray i j = true
  before : ∀ j, j < q → ∃ i, j < i ∧ i ≤ q ∧ waits l.toArray i j = true
  lexP : Region.lexB .any (l.take q).toArray = true
  lexS : Region.lexFrom .any l.toArray (l.drop (q + 1)).length (q + 1) (Array.replicate (q + 1) true ++ Array.replicate (l.length - (q + 1)) false) = true

theorem barOk_spec {l : List Oper} {q : Nat} (h : barOk l q = true) : BarOk l q := by
  unfold barOk at h
  simp only [Bool.and_eq_true] at h
  obtain ⟨⟨⟨⟨⟨⟨⟨h1, h2⟩, h3⟩, h4⟩, h5⟩, h6⟩, h7⟩, h8⟩ := h
  rw [decide_eq_true_eq] at h2
  refine ⟨h1, h2, ?_, ?_, ?_, ?_, h7, h8⟩
  · intro i o ho e he hb
    have hi : i < l.length := (List.getElem?_eq_some_iff.1 ho).1
    have := List.all_eq_true.1 h3 i (by simpa using hi)
    rw [ho] at this
    have := Array.all_eq_true'.1 this e he
    rw [hb] at this
    simpa using this
  · intro i o hi ho g hg
    have := List.all_eq_true.1 h4 i (by simpa using hi)
    rw [ho] at this
    simp only [hg] at this
    simpa using this
  · intro i hi hqi
    have := List.all_eq_true.1 h5 i (by simpa using hi)
    rw [Bool.or_eq_true, decide_eq_true_eq] at this
    rcases this with c | c
    · omega
    · obtain ⟨j, hj, hc⟩ := List.any_eq_true.1 c
      rw [Bool.and_eq_true, decide_eq_true_eq] at hc
      exact ⟨j, hc.1, by simpa using hj, hc.2⟩
  · intro j hj
    have := List.all_eq_true.1 h6 j (by simpa using hj)
    obtain ⟨i, hi, hc⟩ := List.any_eq_true.1 this
    rw [Bool.and_eq_true, decide_eq_true_eq] at hc
    have := List.mem_range.1 hi
    exact ⟨i, hc.1, by omega, hc.2⟩

section
variable {l : List Oper} {q : Nat} (B : BarOk l q)
include B
/-- Whoever stands behind the bar waits for it. -/
theorem BarOk.behind {listed : Array Bool} (hs : Shut l.toArray listed) : ∀ (n i : Nat), i ≤ n → i < l.length → q < i → (∀ o, l[i]? = some o → ∀ e ∈ o.after, Region.binds .any e = true → listed.getD e.on false = true) → listed.getD q false = true := by
  intro n
  induction n with
  | zero => intro i h1 _ h3; omega
  | succ n ih =>
    intro i h1 h2 h3 hd
    obtain ⟨j, j1, j2, j3⟩ := B.after i h2 h3
    have hoi : l.toArray[i]? = some l[i] := by simp [h2]
    have hj := waits_listed hoi (hd l[i] (List.getElem?_eq_getElem h2)) j3
    by_cases c : j = q
    · rw [c] at hj; exact hj
    · refine ih j (by omega) (by omega) (by omega) fun o ho e he hb => ?_
      exact hs.deps j o (by simpa using ho) hj e he hb
/-- The bar waits for all ahead of it. -/
theorem BarOk.ahead {listed : Array Bool} (hs : Shut l.toArray listed) (hd : ∀ o, l[q]? = some o → ∀ e ∈ o.after, Region.binds .any e = true → listed.getD e.on false = true) : ∀ (n j : Nat), q - j ≤ n → j < q → listed.getD j false = true := by
  intro n
  induction n with
  | zero => intro j h1 h2; omega
  | succ n ih =>
    intro j h1 h2
    obtain ⟨i, i1, i2, i3⟩ := B.before j h2
    by_cases c : i = q
    · subst c
      have hll := B.lt
      have hoi : l.toArray[i]? = some l[i] := by simp [hll]
      exact waits_listed hoi (hd l[i] (List.getElem?_eq_getElem hll)) i3
    · have hi := ih i (by omega) (by omega)
      have hil : i < l.length := by have := B.lt; omega
      have hoi : l.toArray[i]? = some l[i] := by simp [hil]
      exact waits_listed hoi (fun e he hb => hs.deps i l[i] hoi hi e he hb) i3
end

theorem wanted_take {l : List Oper} {q : Nat} (o : Oper) (t : Array Value) (hg : ∀ g, o.guard = some g → g.1 < q) : Region.wanted o (yielded (l.take q).toArray t) = Region.wanted o (yielded l.toArray t) := by
  unfold Region.wanted
  cases h : o.guard with
  | none => rfl
  | some g =>
    have hlt := hg g h
    have e : yielded (l.take q).toArray t g.1 = yielded l.toArray t g.1 := by
      unfold yielded
      simp [hlt]
    simp only [e]

/-- The number of those ahead of the bar that are still to come. -/
def todo (q : Nat) (listed : Array Bool) : Nat := ((List.range q).filter fun i => !listed.getD i false).length
theorem todo_zero {q : Nat} {listed : Array Bool} (h : todo q listed = 0) : ∀ i, i < q → listed.getD i false = true := by
  intro i hi
  unfold todo at h
  have := List.eq_nil_of_length_eq_zero h
  cases hl : listed.getD i false with
  | true => rfl
  | false =>
    have hm : i ∈ (List.range q).filter fun i => !listed.getD i false := by
      rw [List.mem_filter]; exact ⟨by simpa using hi, by rw [hl]; rfl⟩
    rw [this] at hm; cases hm
theorem filter_set (listed : Array Bool) (i : Nat) (hi : i < listed.size) (hl : listed.getD i false = false) : ∀ (r : List Nat), r.Nodup → i ∈ r → (r.filter fun j => !listed.getD j false).length = (r.filter fun j => !(listed.setIfInBounds i true).getD j false).length + 1 := by
  intro r
  induction r with
  | nil => intro _ h; cases h
  | cons a r ih =>
    intro hn hm
    have hn' := List.nodup_cons.1 hn
    by_cases c : a = i
    · subst c
      have e : (r.filter fun j => !listed.getD j false) = r.filter fun j => !(listed.setIfInBounds a true).getD j false := by
        refine List.filter_congr fun j hj => ?_
        have : j ≠ a := fun e => hn'.1 (e ▸ hj)
        rw [getD_set_ne false (Ne.symm this)]
      rw [List.filter_cons_of_pos (by rw [hl]; rfl), List.filter_cons_of_neg (by simp [hi]), e]
      rfl
    · have hm' : i ∈ r := by
        rcases List.mem_cons.1 hm with h | h
        · exact absurd h.symm c
        · exact h
      have := ih hn'.2 hm'
      have e : (listed.setIfInBounds i true).getD a false = listed.getD a false := getD_set_ne false (Ne.symm c)
      cases hla : listed.getD a false with
      | true => rw [List.filter_cons_of_neg (by rw [hla]; simp), List.filter_cons_of_neg (by rw [e, hla]; simp)]; exact this
      | false => rw [List.filter_cons_of_pos (by rw [hla]; rfl), List.filter_cons_of_pos (by rw [e, hla]; rfl)]; simp only [List.length_cons]; omega
theorem todo_set {q : Nat} {listed : Array Bool} {i : Nat} (hi : i < q) (hs : i < listed.size) (hl : listed.getD i false = false) : todo q listed = todo q (listed.setIfInBounds i true) + 1 :=
  filter_set listed i hs hl _ List.nodup_range (by simpa using hi)

theorem prefix_bar {P : Program} {l : List Oper} {q : Nat} (B : BarOk l q) {C : World → Prop} {Q' : Act → Prop} {Q : Exit → Act → World → Prop} (r : Nat)
    (hK : ∀ (listed : Array Bool) a w, listed.size = l.length → (∀ i, i < l.length → listed.getD i false = decide (i < q)) → C w → Q' a → wpAny P .any l.toArray Q r listed a w) :
    ∀ (n : Nat) (listed L : Array Bool) (a : Act) (w : World), Shut l.toArray listed → (∀ i, q ≤ i → listed.getD i false = false) → todo q listed = n → L.size = q → (∀ i, i < q → L.getD i false = listed.getD i false) → C w →
      wpAnyQ P .any (l.take q).toArray C Q' n L a → wpAny P .any l.toArray Q (n + r) listed a w := by
  intro n
  have hql := B.lt
  induction n with
  | zero =>
    intro listed L a w hs hno ht hL hLe hC h
    rw [Nat.zero_add]
    refine hK listed a w (by simpa using hs.size) (fun i hi => ?_) hC h.2
    by_cases c : i < q
    · rw [todo_zero ht i c]; exact (decide_eq_true c).symm
    · rw [hno i (by omega)]; exact (decide_eq_false c).symm
  | succ n ih =>
    intro listed L a w hs hno ht hL hLe hC h
    have hsz : listed.size = l.length := by simpa using hs.size
    have hsome : ∃ i, i < q ∧ listed.getD i false = false := by
      unfold todo at ht
      cases hf : (List.range q).filter fun i => !listed.getD i false with
      | nil => rw [hf] at ht; simp at ht
      | cons x y =>
        have : x ∈ (List.range q).filter fun i => !listed.getD i false := by rw [hf]; simp
        rw [List.mem_filter] at this
        exact ⟨x, by simpa using this.1, by simpa using this.2⟩
    obtain ⟨j0, hj0, hl0⟩ := hsome
    rw [Nat.succ_add]
    refine ⟨fun h0 => ?_, fun i hi => ?_⟩
    · exfalso
      -- the least that is still to come may come
      have key : ∀ (m j : Nat), j ≤ m → j < q → listed.getD j false = false → Region.ready .any l.toArray listed ≠ [] := by
        intro m
        induction m with
        | zero =>
          intro j hjm hjq hjl hnil
          have hj0 : j = 0 := by omega
          subst hj0
          have hm : 0 ∈ Region.ready .any l.toArray listed := by
            refine mem_ready.2 ⟨by rw [getD_flip (by rw [hsz]; omega) true false]; exact hjl, l[0]'(by omega), by simp, fun e he hb => ?_⟩
            have := B.back 0 _ (List.getElem?_eq_getElem (by omega)) e he hb
            omega
          rw [hnil] at hm; cases hm
        | succ m ihm =>
          intro j hjm hjq hjl hnil
          by_cases hall : ∃ k, k < j ∧ listed.getD k false = false
          · obtain ⟨k, hk, hkl⟩ := hall
            exact ihm k (by omega) (by omega) hkl hnil
          · have hm : j ∈ Region.ready .any l.toArray listed := by
              refine mem_ready.2 ⟨by rw [getD_flip (by rw [hsz]; omega) true false]; exact hjl, l[j]'(by omega), by simp, fun e he hb => ?_⟩
              have := B.back j _ (List.getElem?_eq_getElem (by omega)) e he hb
              cases hx : listed.getD e.on false with
              | true => rfl
              | false => exact absurd ⟨e.on, this, hx⟩ hall
            rw [hnil] at hm; cases hm
      exact key j0 j0 (Nat.le_refl _) hj0 hl0 h0
    · obtain ⟨hil, o, ho, hd⟩ := mem_ready.1 hi
      have hilen : i < l.length := by
        rcases Nat.lt_or_ge i l.length with h | h
        · exact h
        · simp [List.getElem?_eq_none h] at ho
      have hol : l[i]? = some o := by simpa using ho
      have hil' : listed.getD i false = false := by rw [getD_flip (by rw [hsz]; exact hilen) false true]; exact hil
      have hiq : i < q := by
        rcases Nat.lt_trichotomy i q with c | c | c
        · exact c
        · exfalso
          subst c
          have := B.ahead hs (fun o' ho' e he hb => by rw [hol] at ho'; cases ho'; exact hd e he hb) i j0 (by omega) hj0
          rw [hl0] at this; cases this
        · exfalso
          have := B.behind hs i i (Nat.le_refl _) hilen c (fun o' ho' e he hb => by rw [hol] at ho'; cases ho'; exact hd e he hb)
          rw [hno q (Nat.le_refl _)] at this; cases this
      have hop : (l.take q).toArray[i]? = some o := by simp [hiq, hol]
      have hir : i ∈ Region.ready .any (l.take q).toArray L := by
        refine mem_ready.2 ⟨?_, o, hop, fun e he hb => ?_⟩
        · rw [getD_flip (by rw [hL]; exact hiq) true false, hLe i hiq]; exact hil'
        · have := B.back i o hol e he hb
          rw [hLe _ (by omega)]; exact hd e he hb
      have hq := h.2 i hir
      have hwp := wpOp_of_qOp (Q' := Q) (K' := fun a' w' => wpAny P .any l.toArray Q (n + r) (listed.setIfInBounds i true) a' w') hC (fun a' w' hC' hK' => ih (listed.setIfInBounds i true) (L.setIfInBounds i true) a' w' ⟨by simpa using hs.size, ?_⟩ ?_ ?_ (by simpa using hL) ?_ hC' hK') hq
      · unfold wpOp at hwp ⊢
        simp only [hop] at hwp
        simp only [ho]
        rw [wanted_take o a.tmps (fun g hg => B.guard i o hiq hol g hg)] at hwp
        exact hwp
      · intro k ok hk hkl e he hb
        by_cases hki : k = i
        · subst hki
          rw [ho] at hk; cases hk
          exact getD_set_true (hd e he hb)
        · rw [getD_set_ne false (Ne.symm hki)] at hkl
          exact getD_set_true (hs.deps k ok hk hkl e he hb)
      · intro k hk
        rw [getD_set_ne false (by omega)]; exact hno k hk
      · have := todo_set hiq (by rw [hsz]; exact hilen) hil'
        omega
      · intro k hk
        by_cases hki : k = i
        · subst hki
          simp [hL, hsz, hk, hilen]
        · rw [getD_set_ne false (Ne.symm hki), getD_set_ne false (Ne.symm hki)]; exact hLe k hk

/-- The region's law. -/
theorem wp_region_bar {P : Program} {id : Nat} {Q : Exit → Act → World → Prop} {a : Act} {w : World} {l : List Oper} (q : Nat) (o : Oper) (hm : P.follows .mixedOrders = true) (ho : l[q]? = some o) (hok : barOk l q = true) (G : Value → World → Prop)
    (h : wpQuiet P (l.take q).toArray (fun w' => ∃ x : Past w, w' = x.1) (fun a' => ∀ x : Past w, Region.wanted o (yielded l.toArray a'.tmps) = true ∧ gives P G ((execOp a'.eval o).run P x.1) ∧
      ∀ v w'', G v w'' → wpQuiet P l.toArray (fun w' => ∃ y : Past w'', w' = y.1) (fun a3 => ∀ w3, (∃ y : Past w'', w3 = y.1) → Q .normal a3 w3) (l.drop (q + 1)) (a'.put o.dst v)) (l.take q) a) : (Code.region id l.toArray true).wp P Q a w := by
  have B := barOk_spec hok
  have hql := B.lt
  refine wp_region_any hm ?_
  have hfuel : l.toArray.size = q + (l.length - q) := by simp; omega
  rw [hfuel]
  have hun : ∀ (n j : Nat), (Array.replicate n false).getD j false = false := fun n j => by
    simp only [Array.getD_eq_getD_getElem?, Array.getElem?_replicate]; split <;> rfl
  have hlexP := B.lexP
  simp only [Region.lexB, Bool.and_eq_true] at hlexP
  have hq0 := wpAnyQ_lex (P := P) (C := fun w' => ∃ x : Past w, w' = x.1) (md := .any) hlexP.1 (l.take q) 0 (Array.replicate (l.take q).toArray.size false) a (by simp) (by simpa using hlexP.2) h
  have hlen : (l.take q).length = q := by rw [List.length_take]; omega
  rw [hlen] at hq0
  refine prefix_bar B (l.length - q) ?_ q (Array.replicate (q + (l.length - q)) false) (Array.replicate (l.take q).toArray.size false) a _ ⟨by simp; omega, fun i oi _ hli => by rw [hun] at hli; cases hli⟩ (fun i _ => hun _ _) ?_ (by simp; omega) (fun i _ => by rw [hun, hun]) ⟨⟨_, (Below.refl _ _).drew⟩, rfl⟩ hq0
  · intro listed a' w' hsz hcan ⟨x, hx⟩ hQ'
    subst hx
    obtain ⟨hw, hg, hrest⟩ := hQ' x
    obtain ⟨r, hr⟩ : ∃ r, l.length - q = r + 1 := ⟨l.length - q - 1, by omega⟩
    rw [hr]
    have hs : Shut l.toArray listed := ⟨by simpa using hsz, fun i oi hi hli e he hb => by
      have hil : i < l.length := by
        rcases Nat.lt_or_ge i l.length with h | h
        · exact h
        · simp [List.getElem?_eq_none h] at hi
      rw [hcan i hil] at hli
      have := B.back i oi (by simpa using hi) e he hb
      have h1 := of_decide_eq_true hli
      rw [hcan e.on (by omega)]; exact decide_eq_true (by omega)⟩
    have hqr : q ∈ Region.ready .any l.toArray listed := by
      refine mem_ready.2 ⟨by rw [getD_flip (by rw [hsz]; exact hql) true false, hcan q hql]; simp, o, by simpa using ho, fun e he hb => ?_⟩
      have := B.back q o ho e he hb
      rw [hcan e.on (by omega)]; exact decide_eq_true this
    refine ⟨fun h0 => (by rw [h0] at hqr; cases hqr), fun i hi => ?_⟩
    obtain ⟨hil, oi, hoi, hd⟩ := mem_ready.1 hi
    have hilen : i < l.length := by
      rcases Nat.lt_or_ge i l.length with h | h
      · exact h
      · simp [List.getElem?_eq_none h] at hoi
    have hil' : listed.getD i false = false := by rw [getD_flip (by rw [hsz]; exact hilen) false true]; exact hil
    have hiq : i = q := by
      rcases Nat.lt_trichotomy i q with c | c | c
      · rw [hcan i hilen, decide_eq_true c] at hil'; cases hil'
      · exact c
      · exfalso
        have := B.behind hs i i (Nat.le_refl _) hilen c (fun o' ho' e he hb => by
          have : l[i]? = some oi := by simpa using hoi
          rw [this] at ho'; cases ho'; exact hd e he hb)
        rw [hcan q hql] at this; simp at this
    subst hiq
    have hoo : oi = o := by
      have : l[i]? = some oi := by simpa using hoi
      rw [this] at ho; cases ho; rfl
    subst hoo
    have hcanon : listed.setIfInBounds i true = Array.replicate (i + 1) true ++ Array.replicate (l.length - (i + 1)) false := by
      apply Array.ext_getElem?
      intro k
      rw [Array.getElem?_setIfInBounds, Array.getElem?_append, Array.getElem?_replicate, Array.getElem?_replicate]
      simp only [Array.size_replicate]
      have hget : k < l.length → listed[k]? = some (decide (k < i)) := fun hk => by
        have := hcan k hk
        rw [Array.getD_eq_getD_getElem?, Array.getElem?_eq_getElem (by omega)] at this
        rw [Array.getElem?_eq_getElem (by omega)]; simpa using this
      by_cases c1 : i = k
      · subst c1
        rw [if_pos rfl, if_pos (by omega), if_pos (by omega), if_pos (by omega)]
      · rw [if_neg c1]
        by_cases c2 : k < i + 1
        · rw [if_pos c2, if_pos c2, hget (by omega)]
          congr 1; exact decide_eq_true (by omega)
        · rw [if_neg c2]
          by_cases c3 : k < l.length
          · rw [hget c3, if_pos (by omega)]
            congr 1; exact decide_eq_false (by omega)
          · rw [if_neg (by omega), Array.getElem?_eq_none (by omega)]
    unfold wpOp
    simp only [hoi]
    rw [if_pos hw]
    refine .inl ?_
    unfold Oper.wp
    refine upon_of_gives hg fun v w'' hv => ?_
    have hsuf := hrest v w'' hv
    rw [hcanon]
    have hdl : (l.drop (i + 1)).length = r := by rw [List.length_drop]; omega
    have hq2 := wpAnyQ_lex (P := P) (C := fun w' => ∃ y : Past w'', w' = y.1) (md := .any) B.sel (l.drop (i + 1)) (i + 1) (Array.replicate (i + 1) true ++ Array.replicate (l.length - (i + 1)) false) _ (fun j => by simp [List.getElem?_drop]) B.lexS hsuf
    rw [hdl] at hq2
    exact wpAny_of_quiet (C := fun w' => ∃ y : Past w'', w' = y.1) (fun a3 w3 hw3 h3 => h3 w3 hw3) r _ _ _ ⟨⟨_, Below.refl _ _⟩, rfl⟩ hq2
  · unfold todo
    rw [List.filter_eq_self.2 (fun i _ => by rw [hun]; rfl), List.length_range]
end Go.Proofs.YtioalnncjahlnaaGreatDoor

namespace Go.Proofs.YtioalnncjahlnaaGreatDoor
open Go.ChangeShapes Go.WideShapes Go.ChangeAt Go.RowKit Go.Shelf
attribute [local irreducible] Go.Calls

/-- The tables, below a base. -/
structure Tb (B : Nat) (w : World) : Prop where
  pow : PowTab w
  words : WordsAre w
  plt : 2 < B
  wlt : 1 < B
theorem Tb.below {B : Nat} {w w' : World} (h : Tb B w) (hb : Below B w w') : Tb B w' :=
  ⟨var_below (g := 2) (by kernel_rfl) h.pow hb h.plt, h.words.below hb h.wlt, h.plt, h.wlt⟩
theorem Tb.of {w : World} (h : Tab w) {B : Nat} (hB : w.heap.size ≤ B) : Tb B w :=
  ⟨h.1, h.2, Nat.lt_of_lt_of_le (var_lt (by kernel_rfl) h.1) hB, Nat.lt_of_lt_of_le h.2.lt hB⟩
theorem dec_c (n : Int) (h : -9223372036854775808 ≤ n ∧ n ≤ 9223372036854775807) (w : World) (hT : PowTab w) :
    Calls Tryz.prog 144 #[.int .i64 n] w fun e w' => e = .returned (strV (decS n)) ∧ Below w.heap.size w w' := by
  have HC := hidE (itoa_c n h.1 h.2 w hT)
  clear hT
  go_enter Tryz.func144, Tryz.ntmps144
  go_wp2_with fail
  ((with_reducible refine HC.out.mono ?_); rintro e w1 ⟨rfl, hb⟩)
  go_wp2
  go_ret
  exact ⟨rfl, hb⟩
theorem word_cell {B : Nat} {w : World} (h : Tb B w) {k : Nat} (hk : k ≤ 4) : w.cell? ⟨1, k, none⟩ = some (strV (wordK k)) := by
  have b : k = 0 ∨ k = 1 ∨ k = 2 ∨ k = 3 ∨ k = 4 := by omega
  rcases b with rfl | rfl | rfl | rfl | rfl
  · exact h.words.cell (i := 0) rfl
  · exact h.words.cell (i := 1) rfl
  · exact h.words.cell (i := 2) rfl
  · exact h.words.cell (i := 3) rfl
  · exact h.words.cell (i := 4) rfl
def intsV (l : List Int) : List Value := l.map fun x => .int .i64 x
/-- The writer and its stack. -/
def WrI (B b : Nat) (s : List UInt8) (st : List Int) (w : World) : Prop := ∃ o, Wr B b s o w ∧ w.ownsRow B 3 1 o st.length (intsV st.reverse)
theorem Wr.past {B b : Nat} {l : List UInt8} {o : Value} {w w' : World} (h : Wr B b l o w) (hb : Below w.heap.size w w') : Wr B b l o w' := by
  have key : ∀ pv, WrAt B b pv l o w → WrAt B b pv l o w' := fun pv h => by
    obtain ⟨v, hbk, ho, hne, hlt, hB⟩ := wr_out h
    exact ⟨hB, v, hbk.past hb, ho.kept (grown_any (r := none) hb) (by cases v.ownBlock <;> simp)⟩
  rcases h with h | h
  · exact .inl (key _ h)
  · exact .inr (key _ h)
theorem own_others {B b n sz : Nat} {o : Value} {xs : List Value} {w w' : World} {e : TypeId} (he : e ≠ 5) (h : w.ownsRow B e sz o n xs) (hne : o.ownBlock ≠ some b) (hk : Lib.OthersKept 5 (some b) w w') : w'.ownsRow B e sz o n xs := by
  obtain ⟨h1, h2 | ⟨g, cap, cur, h3, h4, h5, h6⟩⟩ := h
  · exact ⟨h1, .inl h2⟩
  · refine ⟨h1, .inr ⟨g, cap, cur, h3, h4, hk g _ h5 (fun e => hne (by rw [h3]; simp [Value.ownBlock]; simpa using e)) (fun c fz e => ?_), h6⟩⟩
    cases e
    exact he rfl
theorem row_ne {B b n : Nat} {o : Value} {xs : List Value} {w : World} {cs : Array Value} (h : w.ownsRow B 3 1 o n xs) (hb : Blk w b cs 214) : o.ownBlock ≠ some b := by
  intro e
  obtain ⟨_, h2 | ⟨g, cap, cur, h3, h4, h5, _⟩⟩ := h
  · rw [h2.1] at e; simp [Value.ownBlock] at e
  · rw [h3] at e
    simp only [Value.ownBlock, Option.some.injEq] at e
    subst e
    have := h5.symm.trans hb
    simp at this
theorem wr_blk {B b : Nat} {l : List UInt8} {o : Value} {w : World} (h : Wr B b l o w) : ∃ pv v, Blk w b #[pv, v, o] 214 ∧ B ≤ b := by
  rcases h with h | h
  · obtain ⟨v, hb, _, _, _, hB⟩ := wr_out h; exact ⟨_, v, hb, hB⟩
  · obtain ⟨v, hb, _, _, _, hB⟩ := wr_out h; exact ⟨_, v, hb, hB⟩
/-- What is kept while a part is written. -/
structure PtSt (B b pb : Nat) (s : List UInt8) (o : Value) (st : List Int) (x : Prt) (w0 w : World) : Prop where
  wr : Wr B b s o w
  row : w.ownsRow B 3 1 o st.length (intsV st.reverse)
  box : Blk w pb #[.int .u8 x.kind, .int .u32 x.n, .int .u32 x.g, .int .i64 x.d, .int .i64 x.kids] 35
  bel : Below B w0 w
  tb : Tb B w
  ne : pb ≠ b
  sz : B ≤ w0.heap.size
theorem PtSt.past {B b pb : Nat} {s : List UInt8} {o : Value} {st : List Int} {x : Prt} {w0 w w' : World} (h : PtSt B b pb s o st x w0 w) (hb : Below w.heap.size w w') : PtSt B b pb s o st x w0 w' :=
  have hB := Nat.le_trans h.sz h.bel.size
  ⟨h.wr.past hb, own_below h.row hb, h.box.past hb, h.bel.trans (hb.mono hB), h.tb.below (hb.mono hB), h.ne, h.sz⟩
theorem PtSt.wrote {B b pb : Nat} {s s' : List UInt8} {o : Value} {st : List Int} {x : Prt} {w0 w w' : World} (h : PtSt B b pb s o st x w0 w) (hw : WroteW B b s' o w w') : PtSt B b pb s' o st x w0 w' := by
  obtain ⟨pv, v, hb, hB⟩ := wr_blk h.wr
  refine ⟨hw.1, own_others (by decide) h.row (row_ne h.row hb) hw.2.2, hw.2.2 pb _ h.box (fun e => h.ne (by simpa using e)) (fun c fz e => ?_), h.bel.trans hw.2.1, h.tb.below hw.2.1, h.ne, h.sz⟩
  cases e
theorem others_past {e : TypeId} {bo : Option Nat} {w w' : World} (hb : Below w.heap.size w w') : Lib.OthersKept e bo w w' := fun k _x hk _ _ => (hb.block k (Array.getElem?_eq_some_iff.1 hk).1).trans hk
theorem str_cat (a b : List UInt8) : (⟨a.toArray⟩ : ByteArray) ++ ⟨b.toArray⟩ = ⟨(a ++ b).toArray⟩ := by
  rw [ByteArray.ext_iff, ByteArray.data_append]
  simp
theorem rows_ne {B n m : Nat} {o v : Value} {xs ys : List Value} {w : World} (h : w.ownsRow B 3 1 o n xs) (h2 : w.ownsRowF B 5 1 v m ys) {g : Nat} (hg : o.ownBlock = some g) : v.ownBlock ≠ some g := by
  obtain ⟨_, h3 | ⟨g', cap, cur, h3, _, h5, _⟩⟩ := h
  · rw [h3.1] at hg; simp [Value.ownBlock] at hg
  · rw [h3] at hg
    simp only [Value.ownBlock, Option.some.injEq] at hg
    subst hg
    exact Lib.ownBlock_neF h2 h5 (by decide)
/-- A store into the stack's row leaves the writer as it is. -/
theorem Wr.row {B b n g i : Nat} {l : List UInt8} {o : Value} {xs : List Value} {w : World} (h : Wr B b l o w) (ho : w.ownsRow B 3 1 o n xs) (hg : o.ownBlock = some g) (x : Value) : Wr B b l o (w.setCell ⟨g, i, none⟩ x) := by
  have key : ∀ pv, WrAt B b pv l o w → WrAt B b pv l o (w.setCell ⟨g, i, none⟩ x) := fun pv h => by
    obtain ⟨v, hbk, hv, hne, hlt, hB⟩ := wr_out h
    exact ⟨hB, v, hbk.other (fun e => row_ne ho hbk (by rw [hg, e])) x, hv.kept (grown_set w g i x) (.inr (rows_ne ho hv hg))⟩
  rcases h with h | h
  · exact .inl (key _ h)
  · exact .inr (key _ h)
theorem intsV_len (l : List Int) : (intsV l).length = l.length := List.length_map ..
theorem row_top {B g n cap : Nat} {c : Int} {r : List Int} {w : World} (h : w.ownsRow B 3 1 (.slice (some ⟨g, 0, none⟩) n cap) n (intsV (c :: r).reverse)) (hn : n = r.length + 1) : w.cell? ⟨g, r.length, none⟩ = some (.int .i64 c) := by
  rw [h.cellAt r.length (by omega)]
  simp [intsV]
theorem row_set {B g n cap : Nat} {c d : Int} {r : List Int} {w : World} (h : w.ownsRow B 3 1 (.slice (some ⟨g, 0, none⟩) n cap) n (intsV (c :: r).reverse)) : (w.setCell ⟨g, r.length, none⟩ (.int .i64 d)).ownsRow B 3 1 (.slice (some ⟨g, 0, none⟩) n cap) n (intsV (d :: r).reverse) := by
  have h2 := (h.stored r.length (.int .i64 d)).1
  have e : (intsV (c :: r).reverse).set r.length (.int .i64 d) = intsV (d :: r).reverse := by
    simp only [intsV, List.reverse_cons, List.map_append, List.map_cons, List.map_nil]
    rw [List.set_append_right _ _ (by simp)]
    simp
  rwa [e] at h2
theorem row_pop {B g n cap : Nat} {c : Int} {r : List Int} {w : World} (h : w.ownsRow B 3 1 (.slice (some ⟨g, 0, none⟩) n cap) n (intsV (c :: r).reverse)) (hn : n = r.length + 1) : w.ownsRow B 3 1 (.slice (some ⟨g, 0, none⟩) r.length cap) r.length (intsV r.reverse) := by
  subst hn
  obtain ⟨h1, h2 | ⟨g', cap', cur, h3, h4, h5, h6, h7, h8, h9⟩⟩ := h
  · simp at h2
  · cases h3
    refine ⟨by rw [intsV_len]; simp, .inr ⟨g, cap, cur, rfl, h4, h5, by omega, h7, h8, ?_⟩⟩
    have := congrArg (List.take (r.length * 1)) h9
    rw [List.take_take, Nat.min_eq_left (by omega)] at this
    rw [this]
    simp only [intsV, List.reverse_cons, List.map_append]
    rw [List.take_append_of_le_length (by simp), List.take_of_length_le (by simp)]
theorem row_push {l : List Int} {x : Int} : intsV l.reverse ++ [.int .i64 x] = intsV (x :: l).reverse := by simp [intsV]
/-- Where the stack lies, where it isn't empty. -/
theorem row_at {B n : Nat} {o : Value} {xs : List Value} {w : World} (h : w.ownsRow B 3 1 o n xs) (hn : 0 < n) : ∃ g cap, o = .slice (some ⟨g, 0, none⟩) n cap ∧ B ≤ g ∧ g < w.heap.size ∧ n ≤ cap ∧ cap ≤ 9223372036854775807 := by
  obtain ⟨_, h2 | ⟨g, cap, cur, h3, h4, h5, h6, h7, _⟩⟩ := h
  · omega
  · exact ⟨g, cap, h3, h4, lt_of_block h5, h6, by unfold maxLen at h7; omega⟩
theorem step_appI {P : Program} {ops : Array Oper} {o : Oper} {a : Act} {w : World} {K : Act → World → Prop} {Q : Exit → Act → World → Prop} {E : Prop}
    (hg : o.guard = none) (s x : Operand) (t : TypeId) (hop : o.op = Op.call { callee := Callee.builtin Builtin.append, args := #[s, x], argTypes := #[t, t] })
    (B : Nat) (e : TypeId) (i : TypeInfo) (z : Value) (ht : P.underlying t = some (.slice e)) (hi : P.info? e = some i) (hz : i.zero = some z) (hsize : i.size = 1) (hby : i.bytes = 8) (hzs : z.cells.size = 1)
    (v : Value) (n : Nat) (xs : List Value) (hs : a.eval s = v) (hown : w.ownsRow B e 1 v n xs)
    (p : Nat) (y : Int) (hx : a.eval x = .slice (some ⟨p, 0, none⟩) 1 1) (hc : w.cell? ⟨p, 0, none⟩ = some (.int .i64 y))
    (h63 : n ≤ 1000000000) (hB : B ≤ w.heap.size)
    (h : ∀ v' w', w'.ownsRow B e 1 v' (n + 1) (xs ++ [.int .i64 y]) → w.grownBy w' v.ownBlock → K (a.put o.dst v') w') :
    if Region.wanted o (yielded ops a.tmps) = true then Oper.wp P o a w K Q else E := by
  have hw : Region.wanted o (yielded ops a.tmps) = true := by simp [Region.wanted, hg]
  rw [if_pos hw]
  refine wp_append_own w s x t hop B e i z 1 8 ht hi hz hsize hby hzs (by decide) v n xs hs hown ⟨p, 0, none⟩ 1 1 [.int .i64 y] hx rfl ?_ (by intro u hu; simp at hu; subst hu; rfl) (by unfold maxLen; omega) (by omega) hB fun v' w' h1 h2 _ => h v' w' h1 h2
  intro j u hj
  have hj0 : j = 0 := by have := (List.getElem?_eq_some_iff.1 hj).1; simpa using this
  subst hj0
  simp at hj
  subst hj
  simpa [Addr.add] using hc
theorem Tryz.infoI64 : (Tryz.prog.info? 3).map (fun i => (i.zero, i.size, i.bytes)) = some (some (.int .i64 0), 1, 8) := by kernel_rfl
/-- The stack's row gets a new number; the writer's bytes stay. -/
theorem Wr.push {B b n : Nat} {l : List UInt8} {o o' : Value} {xs : List Value} {w w' : World} (h : Wr B b l o w) (ho : w.ownsRow B 3 1 o n xs) (ob : Obj) (hg : (w.drew.alloc ob).grownBy w' o.ownBlock) : Wr B b l o' (w'.setCell ⟨b, 2, none⟩ o') := by
  have key : ∀ pv, WrAt B b pv l o w → WrAt B b pv l o' (w'.setCell ⟨b, 2, none⟩ o') := fun pv h => by
    obtain ⟨v, hbk, hv, hne, hlt, hB⟩ := wr_out h
    have hd : Below w.heap.size w (w.drew.alloc ob) := balloc (Below.drew (Below.refl _ _)) ob
    have hb2 : Blk w' b #[pv, v, o] 214 := (hbk.past hd).grown hg (fun e => row_ne ho hbk e.symm)
    have hv2 : w'.ownsRowF B 5 1 v l.length (Lib.byteCells l) := by
      have h1 : (w.drew.alloc ob).ownsRowF B 5 1 v l.length (Lib.byteCells l) := hv.kept (grown_any (r := none) hd) (by cases v.ownBlock <;> simp)
      refine h1.kept hg ?_
      cases e : o.ownBlock with
      | none =>
        cases v.ownBlock with
        | none => exact .inl rfl
        | some k => exact .inr (by simp)
      | some g => exact .inr (rows_ne ho hv e)
    have hs := hb2.set 2 o'
    exact ⟨hB, v, by simpa using hs, hv2.kept (grown_set w' b 2 o') (.inr hne)⟩
  rcases h with h | h
  · exact .inl (key _ h)
  · exact .inr (key _ h)
theorem Wr.stack {B b : Nat} {l : List UInt8} {o o' : Value} {w : World} (h : Wr B b l o w) : Wr B b l o' (w.setCell ⟨b, 2, none⟩ o') := by
  have key : ∀ pv, WrAt B b pv l o w → WrAt B b pv l o' (w.setCell ⟨b, 2, none⟩ o') := fun pv h => by
    obtain ⟨v, hbk, hv, hne, hlt, hB⟩ := wr_out h
    have hs := hbk.set 2 o'
    exact ⟨hB, v, by simpa using hs, hv.kept (grown_set w b 2 o') (.inr hne)⟩
  rcases h with h | h
  · exact .inl (key _ h)
  · exact .inr (key _ h)
set_option maxRecDepth 100000 in
set_option maxHeartbeats 2000000 in
theorem part_c (B b : Nat) (s : List UInt8) (st : List Int) (x : Prt) (w : World) (hB : B ≤ w.heap.size) (hw : WrI B b s st w) (hst : StOk st) (hs : s.length + st.length ≤ 100000000) (hx : PrtW x) (hk : x.kind ≤ 4) (hkids : 0 ≤ x.kids ∧ x.kids ≤ 1000000) (hT : Tb B w) :
    Calls Tryz.prog 145 #[.pointer (some ⟨b, 0, none⟩), prtV x] w fun e w' => e = .returned (.tuple #[]) ∧ WrI B b (partW (s, st) x).1 (partW (s, st) x).2 w' ∧ Below B w w' := by
  obtain ⟨o, hwr, hro⟩ := hw
  have hS : PtSt B b w.heap.size s o st x w (w.alloc (.cells #[.int .u8 x.kind, .int .u32 x.n, .int .u32 x.g, .int .i64 x.d, .int .i64 x.kids] 35)) := by
    obtain ⟨pv, v, hb, _⟩ := wr_blk hwr
    have hba : Below w.heap.size w (w.alloc (.cells #[.int .u8 x.kind, .int .u32 x.n, .int .u32 x.g, .int .i64 x.d, .int .i64 x.kids] 35)) := balloc (Below.refl _ _) _
    exact ⟨hwr.past hba, own_below hro hba, Blk.made _ _ _, hba.mono hB, hT.below (hba.mono hB), by have := hb.lt; omega, hB⟩
  have HS := hidE hS
  clear hS hwr hro hT
  have hkl : (x.kind : Int) < 5 := by omega
  have hwl := wordK_len x.kind
  go_enter Tryz.func145, Tryz.ntmps145
  go_wp2_with fail
  generalize w.alloc (.cells #[.int .u8 x.kind, .int .u32 x.n, .int .u32 x.g, .int .i64 x.d, .int .i64 x.kids] 35) = w1 at *
  generalize w.heap.size = pb at *
  have hwc := word_cell HS.out.tb hk
  have hgl := HS.out.tb.words.lt
  have c0 := HS.out.box.cell 0; have z := HS.out.box.lt
  simp at c0
  have hcp := Past.cell (W := w1)
  refine wp_region_bar 8 _ (by kernel_rfl) rfl (by kernel_rfl) (fun v w'' => v = .tuple #[.int .i64 (headS x).length, .nilIface] ∧ WroteW B b (s ++ headS x) o w1 w'') ?_
  simp only [List.take_succ_cons, List.take_zero, List.drop_succ_cons, List.drop_zero]
  repeat (go_big_quiet_step (fail))
  refine wpQuiet_nil ?_
  intro y
  refine ⟨rfl, ?_, ?_⟩
  · simp [go_sem, gives]
    rw [show (⟨#[32, 40]⟩ : ByteArray) ++ ⟨(wordK x.kind).toArray⟩ = ⟨(headS x).toArray⟩ from str_cat [32, 40] (wordK x.kind)]
    refine (wr_str B b s (headS x) o y.1 (HS.out.wr.past y.2) (by simp only [headS, List.length_cons]; omega) (by have := HS.out.sz; have := HS.out.bel.size; have := y.2.size; omega)).mono ?_
    rintro e w'' ⟨rfl, h1, h2, h3⟩
    have hy := y.2
    exact ⟨_, rfl, rfl, h1, (hy.mono (Nat.le_trans HS.out.sz HS.out.bel.size)).trans h2, Lib.OthersKept.trans (others_past hy) h3⟩
  · rintro v w2 ⟨rfl, hw2⟩
    have HS2 := hidE (HS.out.wrote hw2)
    clear hw2 c0 z hwc hgl hcp
    refine wpQuiet_nil ?_
    rintro _ ⟨y, rfl⟩
    have HS3 := hidE (HS2.out.past y.2)
    clear HS2 HS
    generalize y.1 = w3 at *
    clear y
    have c0 := HS3.out.box.cell 0; have c1 := HS3.out.box.cell 1; have c2 := HS3.out.box.cell 2; have c3 := HS3.out.box.cell 3; have z := HS3.out.box.lt
    simp at c0 c1 c2 c3
    simp only [Act.put, List.setIfInBounds_toArray, List.set_cons_succ, List.set_cons_zero]
    go_upto_if 15 with fail
    go_cut [] (fun wx => PtSt B b pb (s ++ headS x ++ numsS x) o st x w wx)
    case first =>
      by_cases e0 : x.kind = 0
      · have q : ((x.kind : Int) == 0) = true := beq_iff_eq.2 (by omega)
        have hn : numsS x = 32 :: (decS x.n ++ 32 :: (decS x.g ++ 32 :: decS x.d)) := by unfold numsS; rw [if_pos e0]
        have hnl := numsS_len hx
        have wn : IntKind.i64.wrap (x.n : Int) = x.n := IntWalk.i64_in _ (by have := hx.2.1; omega)
        have wg : IntKind.i64.wrap (x.g : Int) = x.g := IntWalk.i64_in _ (by have := hx.2.2.1; omega)
        have HD1 := hidE (fun (y : Past w3) => dec_c x.n (by have := hx.2.1; omega) y.1 (HS3.out.past y.2).tb.pow)
        have HD2 := hidE (fun (y : Past w3) => dec_c x.g (by have := hx.2.2.1; omega) y.1 (HS3.out.past y.2).tb.pow)
        have HD3 := hidE (fun (y : Past w3) => dec_c x.d hx.2.2.2.1 y.1 (HS3.out.past y.2).tb.pow)
        have HN := hidE hn; clear hn
        have hl1 := decS_len (n := (x.n : Int)) (by have := hx.2.1; omega)
        have hl2 := decS_len (n := (x.g : Int)) (by have := hx.2.2.1; omega)
        have hl3 := decS_len (n := x.d) hx.2.2.2.1
        go_upto_region 3 with fail
        have hcp := Past.cell (W := w3)
        refine wp_region_bar 19 _ (by kernel_rfl) rfl (by kernel_rfl) (fun v w'' => v = .tuple #[.int .i64 (numsS x).length, .nilIface] ∧ WroteW B b (s ++ headS x ++ numsS x) o w3 w'') ?_
        simp only [List.take_succ_cons, List.take_zero, List.drop_succ_cons, List.drop_zero]
        repeat (go_big_quiet_step ((go_at_call 144; first | exact Past.call _ (HD1.out _) | exact Past.call _ (HD2.out _) | exact Past.call _ (HD3.out _))))
        refine wpQuiet_nil ?_
        intro y
        refine ⟨rfl, ?_, ?_⟩
        · simp [go_sem, gives]
          rw [show (⟨#[32]⟩ : ByteArray) ++ ⟨(decS x.n).toArray⟩ ++ ⟨#[32]⟩ ++ ⟨(decS x.g).toArray⟩ ++ ⟨#[32]⟩ ++ ⟨(decS x.d).toArray⟩ = ⟨(numsS x).toArray⟩ from by
            rw [show (⟨#[32]⟩ : ByteArray) = ⟨([32] : List UInt8).toArray⟩ from rfl, str_cat, str_cat, str_cat, str_cat, str_cat, HN.out]
            simp]
          have hlen2 : (s ++ headS x).length + (numsS x).length ≤ 140737488355328 := by simp only [headS, List.length_cons, List.length_append]; omega
          refine (wr_str B b (s ++ headS x) (numsS x) o y.1 (HS3.out.wr.past y.2) hlen2 (by have := HS3.out.sz; have := HS3.out.bel.size; have := y.2.size; omega)).mono ?_
          rintro e w'' ⟨rfl, h1, h2, h3⟩
          have hy := y.2
          rw [← List.append_assoc]
          exact ⟨_, rfl, rfl, h1, (hy.mono (Nat.le_trans HS3.out.sz HS3.out.bel.size)).trans h2, Lib.OthersKept.trans (others_past hy) h3⟩
        · rintro v w4 ⟨rfl, hw4⟩
          have HS4 := hidE (HS3.out.wrote hw4)
          clear hw4 c0 c1 c2 c3 z hcp HD1 HD2 HD3
          refine wpQuiet_nil ?_
          rintro _ ⟨y, rfl⟩
          have HS5 := hidE (HS4.out.past y.2)
          clear HS4
          generalize y.1 = w5 at *
          clear y
          simp only [Act.put, List.setIfInBounds_toArray, List.set_cons_succ, List.set_cons_zero]
          go_wp2
          go_meet
          case rel => exact HS5.out
      · have q : ((x.kind : Int) == 0) = false := beq_eq_false_iff_ne.2 (by omega)
        have hn : numsS x = [] := by unfold numsS; rw [if_neg e0]
        go_wp2
        go_meet
        case rel => rw [hn, List.append_nil]; exact HS3.out
    case rest =>
      have hcut2 := hcut
      obtain ⟨s2, hs2⟩ : ∃ s2, s2 = s ++ headS x ++ numsS x := ⟨_, rfl⟩
      rw [← hs2] at hcut2
      have hl2 : s2.length + st.length ≤ 100000100 := by
        rw [hs2]
        have := numsS_len hx
        simp only [headS, List.length_cons, List.length_append]; omega
      have HPW := hidE (show partW (s, st) x = closeW s2 (x.kids :: decTop st) by rw [hs2]; rfl)
      have HS4 := hidE hcut2
      clear hcut hcut2 hs2 HS3 c0 c1 c2 c3 z hkl hwl
      have hro := HS4.out.row
      obtain ⟨ao, co, rfl⟩ := own_sli hro
      obtain ⟨pv, v, hbk, hBb⟩ := wr_blk HS4.out.wr
      obtain ⟨n, hn⟩ : ∃ n, n = st.length := ⟨_, rfl⟩
      rw [← hn] at HS4 hbk hro
      have d2 := hbk.cell 2; have z2 := hbk.lt
      simp at d2
      have HBK := hidE hbk; have HRO := hidE hro; have HN := hidE hn; have HST := hidE hst; have HL2 := hidE hl2
      clear hbk hro hn hst hl2
      go_upto_if 41 with fail
      go_cut [] (fun wx => PtSt B b pb s2 (.slice ao n co) (decTop st) x w wx)
      case first =>
        by_cases hz : n = 0
        · have hd : decTop st = st := by
            have := HN.out
            cases st with
            | nil => rfl
            | cons c r => simp at this; omega
          clear HPW
          subst hz
          go_wp2
          go_meet
          case rel => rw [hd]; exact HS4.out
        · obtain ⟨m, rfl⟩ : ∃ m, n = m + 1 := ⟨n - 1, by omega⟩
          obtain ⟨c, r, hcr, hrm⟩ : ∃ c r, st = c :: r ∧ r.length = m := by
            have := HN.out
            cases st with
            | nil => simp at this
            | cons c r => simp at this; exact ⟨c, r, rfl, by omega⟩
          have hm2 : m < 100000200 := by have := HL2.out; have := HN.out; omega
          have HCR := hidE hcr; have HRM := hidE hrm
          obtain ⟨g, cg, hg1, hg2, hg3, hg4, hg5⟩ := row_at HRO.out (by omega)
          cases hg1
          have t1 : wc.cell? ⟨g, m, none⟩ = some (.int .i64 c) := by
            have h0 := HRO.out
            rw [HCR.out] at h0
            have := row_top h0 (by rw [HRM.out])
            rwa [HRM.out] at this
          have q : decide ((0 : Int) < (m : Int) + 1) = true := decide_eq_true (by omega)
          have q' : decide ((m : Int) + 1 > 0) = true := decide_eq_true (by omega)
          have hc1 := HST.out.1 c (by rw [HCR.out]; simp)
          have w1 : IntKind.i64.wrap (c - 1) = c - 1 := IntWalk.i64_in _ (by omega)
          have hf := HRO.out.frozenAt
          have hof := hf m
          have HB3 := hidE hBb
          clear HPW hf hcr hrm hz
          go_wp2
          go_region
          go_wp2
          go_meet
          case rel =>
            have hgB : B ≤ g := hg2
            have hne : g ≠ b := fun e => row_ne HRO.out HBK.out (by rw [e]; rfl)
            have hpb : g ≠ pb := fun e => by
              have h1 := HS4.out.box
              obtain ⟨_, h2 | ⟨g', cap, cur, h3, h4, h5, _⟩⟩ := HRO.out
              · simp at h2
              · cases h3
                have := h5.symm.trans (e ▸ h1)
                simp at this
            have hd : Below wc.heap.size wc wc.drew := Below.drew (Below.refl _ _)
            have hS := HS4.out.past hd
            have hwr := hS.wr.row hS.row rfl (i := m) (.int .i64 (c - 1))
            have hro2 := hS.row
            rw [HCR.out, show (c :: r).length = m + 1 by simp [HRM.out]] at hro2
            have hrow := row_set (d := c - 1) hro2
            rw [HRM.out] at hrow
            exact ⟨hwr, by rw [HCR.out]; show World.ownsRow _ _ _ _ _ (r.length + 1) _; rw [HRM.out]; exact hrow, hS.box.other (fun e => hpb e.symm) _, hS.bel.setCell (p := ⟨g, m, none⟩) hgB _, hS.tb.below ((Below.refl B _).setCell (p := ⟨g, m, none⟩) hgB _), hS.ne, hS.sz⟩
      case rest =>
        have hnd : n = (decTop st).length := HN.out.trans (decTop_len st).symm
        subst hnd
        have HS5 := hidE hcut
        clear hcut HS4 d2 z2 HBK HRO
        have HSD := hidE (decTop_ok HST.out)
        have hs2l : s2.length + (decTop st).length ≤ 100000100 := by rw [decTop_len]; exact HL2.out
        clear HST HL2 HN
        generalize decTop st = dt at *
        have hro := HS5.out.row
        obtain ⟨pv, v, hbk, hBb⟩ := wr_blk HS5.out.wr
        have d2 := hbk.cell 2; have z2 := hbk.lt; have f2 := hbk.free 2
        have k4 := HS5.out.box.cell 4; have zk := HS5.out.box.lt
        simp at d2 k4
        have HBK := hidE hbk; have HRO := hidE hro
        obtain ⟨i0, hi, hz0, hz1, hz2⟩ := info_parts Tryz.infoI64
        have HI := hidE hi; have HZ0 := hidE hz0; have HZ1 := hidE hz1; have HZ2 := hidE hz2
        have hsB : B ≤ wc.heap.size := Nat.le_trans HS5.out.sz HS5.out.bel.size
        clear hbk hro hi hz0 hz1 hz2
        have HRD := hidE (show wc.drew.ownsRow B 3 1 (.slice ao dt.length co) dt.length (intsV dt.reverse) from HRO.out)
        have hcell : (wc.drew.alloc (.cells #[.int .i64 x.kids] 3)).cell? ⟨wc.heap.size, 0, none⟩ = some (.int .i64 x.kids) := by
          have := (Blk.made wc.drew #[.int .i64 x.kids] 3).cell 0
          simpa using this
        have HCL := hidE hcell; clear hcell
        go_upto_region 6 with fail
        go_cut [] (fun wx => ∃ o', Wr B b s2 o' wx ∧ wx.ownsRow B 3 1 o' (dt.length + 1) (intsV (x.kids :: dt).reverse) ∧ Below B w wx)
        case first =>
          go_region_law ((refine step_appI rfl (.tmp 60) (.tmp 63) 29 rfl B 3 i0 _ Tryz.underlying29 HI.out HZ0.out HZ1.out HZ2.out rfl _ _ _ rfl (World.ownsRow.alloc HRD.out _) _ _ rfl HCL.out (by omega) (by simp; omega) ?_; intro v' w' own' hg'; obtain ⟨ao', co', rfl⟩ := own_sli own'; have hb' : Blk w' b #[pv, v, .slice ao dt.length co] 214 := (HBK.out.past (balloc (Below.drew (Below.refl _ _)) _)).grown hg' (fun e => row_ne HRO.out HBK.out e.symm); have e2 := hb'.cell 2; have ez := hb'.lt; have ef := hb'.free 2; simp at e2; have HB' := hidE hb'; clear hb'))
          all_goals
            go_wp2
            go_meet
            case rel =>
              have hne := row_ne own' HB'.out
              have hba : Below B wc (wc.drew.alloc (.cells #[.int .i64 x.kids] 3)) := (Below.drew (Below.refl B wc)).alloc hsB _
              rw [row_push] at own'
              exact ⟨_, HS5.out.wr.push HRO.out _ hg', own_kept own' (fun k e => keptS (fun e2 => hne (by rw [e, e2])) _), ((HS5.out.bel.trans hba).grown hg' (by simp; omega) (fun k hk => own_block HRO.out hk)).setCell (p := ⟨b, 2, none⟩) hBb _⟩
        case rest =>
          obtain ⟨o1, hw1, hr1, hb1⟩ := hcut
          have HW1 := hidE hw1; have HR1 := hidE hr1; have HB1 := hidE hb1
          have HSZ := hidE HS5.out.sz
          clear hw1 hr1 hb1 HS5 HBK HRO HRD HCL d2 z2 f2 k4 zk HI HZ0 HZ1 HZ2 hsB
          go_wp2_with fail
          go_loopg [] (dt.length + 1) (fun gh wr => ∃ (s' : List UInt8) (st' : List Int) (o' : Value), st'.length ≤ gh ∧ closeW s2 (x.kids :: dt) = closeW s' st' ∧ s'.length + st'.length ≤ 100000101 ∧ (∀ y ∈ st', 0 ≤ y ∧ y ≤ 1000000) ∧ Wr B b s' o' wr ∧ wr.ownsRow B 3 1 o' st'.length (intsV st'.reverse) ∧ Below B w wr)
          case atStart => exact ⟨s2, x.kids :: dt, o1, by simp, rfl, by simp only [List.length_cons]; omega, fun y hy => by
            simp only [List.mem_cons] at hy
            rcases hy with rfl | hy
            · exact hkids
            · exact HSD.out y hy, HW1.out, HR1.out, HB1.out⟩
          case round =>
            obtain ⟨s', st', o', hgh, hcl, hlen, hall, hwr, hrow, hbel⟩ := hrel
            have HGH := hidE hgh; have HCLW := hidE hcl; have HLEN := hidE hlen; have HALL := hidE hall; have HWR := hidE hwr; have HROW := hidE hrow; have HBEL := hidE hbel
            clear HW1 HR1 HB1
            obtain ⟨ao', co', rfl⟩ := own_sli hrow
            obtain ⟨pv', v', hbk', hBb'⟩ := wr_blk hwr
            obtain ⟨n, hn⟩ : ∃ n, n = st'.length := ⟨_, rfl⟩
            rw [← hn] at HWR HROW hbk'
            have d2 := hbk'.cell 2; have z2 := hbk'.lt; have f2 := hbk'.free 2
            simp at d2
            have HBK := hidE hbk'; have HN := hidE hn
            have hsB : B ≤ wr.heap.size := Nat.le_trans HSZ.out hbel.size
            clear hgh hcl hlen hall hwr hrow hbel hbk' hn
            by_cases hz : n = 0
            · have hst0 : st' = [] := List.eq_nil_of_length_eq_zero (by have := HN.out; omega)
              have HZ := hidE (show partW (s, st) x = (s', []) by rw [HPW.out, HCLW.out, hst0]; rfl)
              have HZR := hidE hst0
              subst hz
              clear hst0
              go_wp2_with fail
              refine wp_region_past_lit (by kernel_rfl) (by kernel_rfl) ?_
              have hcp := Past.cell (W := wr)
              repeat (go_big_quiet_step (fail))
              refine wpQuiet_nil ?_
              rintro _ ⟨y, rfl⟩
              have hy := y.2
              have hfw := HWR.out.past hy
              have hfr := own_below HROW.out hy
              have hfb := HBEL.out.trans (hy.mono hsB)
              have F := hidE (And.intro hfw (And.intro hfr hfb))
              clear hfw hfr hfb hcp d2 z2 f2
              generalize y.1 = w9 at *
              clear y hy
              go_wp2
              go_end0
              refine ⟨rfl, ?_, F.out.2.2⟩
              rw [HZ.out]
              have hfin := F.out.2.1
              rw [HZR.out] at hfin
              exact ⟨_, F.out.1, hfin⟩
            · obtain ⟨m, rfl⟩ : ∃ m, n = m + 1 := ⟨n - 1, by omega⟩
              obtain ⟨c, r, hcr, hrm⟩ : ∃ c r, st' = c :: r ∧ r.length = m := by
                have := HN.out
                cases st' with
                | nil => simp at this
                | cons c r => simp at this; exact ⟨c, r, rfl, by omega⟩
              have hm2 : m < 100000200 := by have := HLEN.out; have := HN.out; omega
              have HCR := hidE hcr; have HRM := hidE hrm
              obtain ⟨g, cg, hg1, hg2, hg3, hg4, hg5⟩ := row_at HROW.out (by omega)
              cases hg1
              have t1 : wr.cell? ⟨g, m, none⟩ = some (.int .i64 c) := by
                have h0 := HROW.out
                rw [HCR.out] at h0
                have := row_top h0 (by rw [HRM.out])
                rwa [HRM.out] at this
              have q : decide ((0 : Int) < (m : Int) + 1) = true := decide_eq_true (by omega)
              have q' : decide ((m : Int) + 1 > 0) = true := decide_eq_true (by omega)
              clear hcr hrm hz
              by_cases hc0 : c = 0
              · subst hc0
                have HCL2 := hidE (show closeW s2 (x.kids :: dt) = closeW (s' ++ [41]) r by rw [HCLW.out, HCR.out, closeW_zero])
                go_wp2_with fail
                refine wp_region_past_lit (by kernel_rfl) (by kernel_rfl) ?_
                have hcp := Past.cell (W := wr)
                repeat (go_big_quiet_step (fail))
                refine wpQuiet_nil ?_
                rintro _ ⟨y, rfl⟩
                have hy := y.2
                have HW9 := hidE (HWR.out.past hy)
                have HR9 := hidE (own_below HROW.out hy)
                have HB9 := hidE (HBEL.out.trans (hy.mono hsB))
                have hs9 : B ≤ y.1.heap.size := Nat.le_trans hsB hy.size
                clear hcp d2 z2 f2 t1 q q' HCLW
                generalize y.1 = w9 at *
                clear y hy
                have HWB := hidE (wr_byte B b s' _ 41 w9 HW9.out (by have := HLEN.out; have := HN.out; omega) hs9 41 rfl)
                go_wp2_with fail
                ((with_reducible refine HWB.out.mono ?_); rintro e w10 ⟨rfl, hw10⟩)
                have hne := row_ne HR9.out (wr_blk HW9.out).choose_spec.choose_spec.1
                have HR10 := hidE (own_others (by decide) HR9.out hne hw10.2.2)
                have HW10 := hidE hw10.1
                have HB10 := hidE (HB9.out.trans hw10.2.1)
                obtain ⟨pv2, v2, hbk2, _⟩ := wr_blk hw10.1
                have e2 := hbk2.cell 2; have ez := hbk2.lt; have ef := hbk2.free 2
                simp at e2
                have wm : IntKind.i64.wrap ((m : Int) + 1 - 1) = (m : Int) := (IntWalk.i64_in _ (by omega)).trans (by omega)
                have hmc : m ≤ co' := by omega
                have hmc2 : (m : Int) ≤ (co' : Int) := by omega
                clear hw10 hbk2 hne HWB
                go_wp2_with fail
                go_region
                go_wp2
                go_roundg r.length
                case measure => have := HGH.out; have := HN.out; have := HRM.out; omega
                case rel =>
                  have hd : Below w10.heap.size w10 w10.drew := Below.drew (Below.refl _ _)
                  have hro := HR10.out
                  rw [HCR.out] at hro
                  have hro2 := row_pop hro (by rw [HRM.out])
                  rw [HRM.out] at hro2
                  have hk : ∀ k, (Value.slice (some ⟨g, 0, none⟩) m co').ownBlock = some k → (w10.setCell ⟨b, 2, none⟩ (.slice (some ⟨g, 0, none⟩) m co')).heap[k]? = w10.heap[k]? := fun k e => by
                    cases e
                    obtain ⟨pv3, v3, hb3, _⟩ := wr_blk HW10.out
                    exact keptS (fun e => row_ne HR10.out hb3 (show some g = some b from congrArg some e)) _
                  refine ⟨s' ++ [41], r, .slice (some ⟨g, 0, none⟩) m co', Nat.le_refl _, HCL2.out, by have := HLEN.out; have := HN.out; simp only [List.length_append, List.length_cons, List.length_nil]; have := HRM.out; omega, fun y hy => HALL.out y (by rw [HCR.out]; exact List.mem_cons_of_mem _ hy), HW10.out.stack.past (Below.drew (Below.refl _ _)), ?_, (HB10.out.setCell (p := ⟨b, 2, none⟩) hBb _).drew⟩
                  rw [HRM.out]
                  exact own_below (own_kept hro2 hk) (Below.drew (Below.refl _ _))
              · have q2 : (c == 0) = false := beq_eq_false_iff_ne.2 hc0
                have HZ := hidE (show partW (s, st) x = (s', c :: r) by rw [HPW.out, HCLW.out, HCR.out, closeW_pos _ _ _ hc0])
                clear hc0
                go_wp2_with fail
                refine wp_region_past_lit (by kernel_rfl) (by kernel_rfl) ?_
                have hcp := Past.cell (W := wr)
                repeat (go_big_quiet_step (fail))
                refine wpQuiet_nil ?_
                rintro _ ⟨y, rfl⟩
                have hy := y.2
                have hfw := HWR.out.past hy
                have hfr := own_below HROW.out hy
                have hfb := HBEL.out.trans (hy.mono hsB)
                have F := hidE (And.intro hfw (And.intro hfr hfb))
                clear hfw hfr hfb hcp d2 z2 f2 t1 q q'
                generalize y.1 = w9 at *
                clear y hy
                go_wp2
                go_end0
                refine ⟨rfl, ?_, F.out.2.2⟩
                rw [HZ.out]
                have hfin := F.out
                rw [HCR.out] at hfin
                refine ⟨_, hfin.1, ?_⟩
                rw [show (c :: r).length = m + 1 by simp [HRM.out]]
                exact hfin.2.1
end Go.Proofs.YtioalnncjahlnaaGreatDoor

namespace Go.Proofs.YtioalnncjahlnaaGreatDoor
open Go.ChangeShapes Go.WideShapes Go.ChangeAt Go.RowKit
attribute [local irreducible] Go.Calls

theorem endF_big : ∀ (l : List Prt) (n : Nat), l.length < n → endF l n = none
  | [], n + 1, _ => rfl
  | x :: l, n + 1, h => by
    rw [endF_cons]
    by_cases c : 4 < x.kind ∨ x.kids < 0
    · rw [if_pos c]
    · rw [if_neg c, endF_big l _ (by simp only [List.length_cons] at h; omega)]
theorem treeB_end (l : List Prt) : treeB l = decide (endF l 1 = some []) := by
  unfold treeB
  cases l with
  | nil => rfl
  | cons x l => rw [decide_eq_true (by simp : x :: l ≠ []), Bool.true_and]
set_option maxHeartbeats 1000000 in
theorem tree_c (T : List Prt) (hW : ∀ x ∈ T, x.kind ≤ 255) (a : Option Addr) (cap : Nat) (w : World) (hl : T.length ≤ 100000) (hA : ArgP w a T) : Calls Tryz.prog 142 #[.slice a T.length cap] w fun e w' => e = .returned (.bool (treeB T)) ∧ Below w.heap.size w w' := by
  have HA := hidE hA; have HW := hidE hW
  have HT := hidE (treeB_end T)
  clear hA hW
  obtain ⟨b0, hb0⟩ : ∃ b0, b0 = treeB T := ⟨_, rfl⟩
  rw [← hb0] at HT ⊢
  clear hb0
  go_enter Tryz.func142, Tryz.ntmps142
  go_wp2
  go_loopg [3, 9] T.length (fun g v3 v9 wr => ∃ (k D : Nat), k ≤ T.length ∧ T.length - k ≤ g ∧ v3 = .int .i64 D ∧ v9 = .int .i64 k ∧ (D ≤ T.length - k ∨ (k = 0 ∧ D = 1)) ∧ b0 = decide (endF (T.drop k) D = some []) ∧ Below w.heap.size w wr)
  case atStart => exact ⟨0, 1, Nat.zero_le _, Nat.le_refl _, rfl, rfl, .inr ⟨rfl, rfl⟩, HT.out, Below.refl _ _⟩
  case round =>
    obtain ⟨k, D, hk, hg, rfl, rfl, hD, he, hb⟩ := hrel
    have HG := hidE hg; have HE := hidE he; have HB := hidE hb
    clear hg he hb HT
    by_cases hlt : k < T.length
    · obtain ⟨p, off, rfl, hp, hc⟩ := (HA.out.past HB.out) (by omega)
      obtain ⟨c0, c1, c2, c3, c4⟩ := hc.get hlt
      have hdr : T.drop k = T.getD k pr0 :: T.drop (k + 1) := by
        rw [List.drop_eq_getElem_cons hlt, pgetD _ _ hlt]
      have hkd : (T.getD k pr0).kind ≤ 255 := HW.out _ (by rw [pgetD _ _ hlt]; exact List.getElem_mem hlt)
      have hdl : (T.drop (k + 1)).length = T.length - (k + 1) := by simp
      rw [hdr] at HE
      clear hdr hc
      generalize T.getD k pr0 = x at *
      generalize hTL : T.drop (k + 1) = R at *
      have q1 : decide ((k : Int) < (T.length : Int)) = true := decide_eq_true (by omega)
      have q2 : decide (k < T.length) = true := decide_eq_true hlt
      have w1 : IntKind.i64.wrap ((T.length : Int) - (k : Int)) = (T.length : Int) - (k : Int) := IntWalk.i64_in _ (by omega)
      have w2 : IntKind.i64.wrap ((T.length : Int) - (k : Int) - 1) = (T.length : Int) - (k : Int) - 1 := IntWalk.i64_in _ (by omega)
      have w3 : IntKind.i64.wrap ((D : Int) - 1) = (D : Int) - 1 := IntWalk.i64_in _ (by omega)
      have w4 : IntKind.i64.wrap ((T.length : Int) - (k : Int) - 1 - ((D : Int) - 1)) = (T.length : Int) - (k : Int) - 1 - ((D : Int) - 1) := IntWalk.i64_in _ (by omega)
      by_cases n0 : D = 0
      · have HX := hidE (show b0 = false by rw [HE.out, n0]; exact decide_eq_false (by intro h; cases h))
        have q3 : ((D : Int) == 0) = true := beq_iff_eq.2 (by omega)
        clear n0 hD w3 w4
        go_wp2
        go_ret
        exact ⟨ret_bool HX.out.symm, by have := HB.out; (repeat (first | exact Below.refl _ _ | assumption | refine balloc ?_ _ | refine below_drewN ?_ _ | refine bstep (by assumption) ?_ | refine bstep (Past.prop _) ?_ | refine Below.setCell ?_ (by first | exact Nat.le_refl _ | (simp; done) | (simp; omega)) _))⟩
      · have q3 : ((D : Int) == 0) = false := beq_eq_false_iff_ne.2 (by omega)
        obtain ⟨n, rfl⟩ : ∃ n, D = n + 1 := ⟨D - 1, by omega⟩
        have hn' : n ≤ 100000 := by omega
        have q3' : ((n : Int) + 1 == 0) = false := beq_eq_false_iff_ne.2 (by omega)
        have w4' : IntKind.i64.wrap ((T.length : Int) - (k : Int) - 1 - (n : Int)) = (T.length : Int) - (k : Int) - 1 - (n : Int) := IntWalk.i64_in _ (by omega)
        have HE2 := hidE (by have := HE.out; rw [endF_cons] at this; exact this)
        clear HE n0
        by_cases n1 : 4 < x.kind
        · have HX := hidE (show b0 = false by rw [HE2.out, if_pos (.inl n1)]; rfl)
          have q4 : decide ((x.kind : Int) ≥ 5) = true := decide_eq_true (by omega)
          have q5 : decide ((5 : Int) ≤ (x.kind : Int)) = true := decide_eq_true (by omega)
          have q6 : decide (5 ≤ x.kind) = true := decide_eq_true (by omega)
          have q7 : decide (x.kind ≥ 5) = true := decide_eq_true (by omega)
          clear hD w3 w4 HE2
          go_wp2
          go_ret
          exact ⟨ret_bool HX.out.symm, by have := HB.out; (repeat (first | exact Below.refl _ _ | assumption | refine balloc ?_ _ | refine below_drewN ?_ _ | refine bstep (by assumption) ?_ | refine bstep (Past.prop _) ?_ | refine Below.setCell ?_ (by first | exact Nat.le_refl _ | (simp; done) | (simp; omega)) _))⟩
        · have q4 : decide ((x.kind : Int) ≥ 5) = false := decide_eq_false (by omega)
          have q5 : decide ((5 : Int) ≤ (x.kind : Int)) = false := decide_eq_false (by omega)
          have q6 : decide (5 ≤ x.kind) = false := decide_eq_false (by omega)
          have q7 : decide (x.kind ≥ 5) = false := decide_eq_false (by omega)
          by_cases n2 : x.kids < 0
          · have HX := hidE (show b0 = false by rw [HE2.out, if_pos (.inr n2)]; rfl)
            have q8 : decide (x.kids < 0) = true := decide_eq_true n2
            clear hD w3 w4 HE2 n2
            go_wp2
            go_ret
            exact ⟨ret_bool HX.out.symm, by have := HB.out; (repeat (first | exact Below.refl _ _ | assumption | refine balloc ?_ _ | refine below_drewN ?_ _ | refine bstep (by assumption) ?_ | refine bstep (Past.prop _) ?_ | refine Below.setCell ?_ (by first | exact Nat.le_refl _ | (simp; done) | (simp; omega)) _))⟩
          · have q8 : decide (x.kids < 0) = false := decide_eq_false n2
            by_cases n3 : x.kids > (T.length : Int) - (k : Int) - 1 - (n : Int)
            · have HX := hidE (show b0 = false by
                rw [HE2.out, if_neg (by omega), endF_big R _ (by rw [hdl]; omega)]; rfl)
              have q9 := decide_eq_true n3
              have q10 : decide ((T.length : Int) - (k : Int) - 1 - (n : Int) < x.kids) = true := decide_eq_true n3
              clear hD HE2
              go_wp2
              go_ret
              exact ⟨ret_bool HX.out.symm, by have := HB.out; (repeat (first | exact Below.refl _ _ | assumption | refine balloc ?_ _ | refine below_drewN ?_ _ | refine bstep (by assumption) ?_ | refine bstep (Past.prop _) ?_ | refine Below.setCell ?_ (by first | exact Nat.le_refl _ | (simp; done) | (simp; omega)) _))⟩
            · have q9 := decide_eq_false n3
              have q10 : decide ((T.length : Int) - (k : Int) - 1 - (n : Int) < x.kids) = false := decide_eq_false n3
              have HX := hidE (show b0 = decide (endF R (n + x.kids.toNat) = some []) by rw [HE2.out, if_neg (by omega)])
              have w5 : IntKind.i64.wrap (x.kids - 1) = x.kids - 1 := IntWalk.i64_in _ (by omega)
              have w6 : IntKind.i64.wrap ((n : Int) + 1 + (x.kids - 1)) = (n : Int) + 1 + (x.kids - 1) := IntWalk.i64_in _ (by omega)
              clear HE2
              go_wp2
              go_roundg (T.length - (k + 1))
              case measure => have := HG.out; omega
              case rel =>
                refine ⟨k + 1, n + x.kids.toNat, by omega, Nat.le_refl _, ?_, rfl, .inl (by omega), by rw [hTL]; exact HX.out, by have := HB.out; (repeat (first | exact Below.refl _ _ | assumption | refine balloc ?_ _ | refine below_drewN ?_ _ | refine bstep (by assumption) ?_ | refine bstep (Past.prop _) ?_ | refine Below.setCell ?_ (by first | exact Nat.le_refl _ | (simp; done) | (simp; omega)) _))⟩
                congr 1
                omega
    · have q1 : decide ((k : Int) < (T.length : Int)) = false := decide_eq_false (by omega)
      have q2 : decide (k < T.length) = false := decide_eq_false hlt
      have HX := hidE (show b0 = ((D : Int) == 0) by
        rw [HE.out, List.drop_eq_nil_of_le (by omega)]
        cases D with
        | zero => rfl
        | succ n => rw [show endF [] (n + 1) = none from rfl]; simp; omega)
      go_wp2
      go_ret
      exact ⟨ret_bool HX.out.symm, HB.out⟩
end Go.Proofs.YtioalnncjahlnaaGreatDoor
