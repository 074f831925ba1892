/- The document's own answer of layer 10: Ends. Conditions: the slices read as parts that may be, as pieces; sizes. The document's own answer of layer 10: Short. Conditions: the slices read as parts that may be; sizes. The document's own answer of layer 10: Term. Conditions: the slices read as parts that may be, as pieces that may be; sizes. The document's own answer of layer 10: Term, of one kind. Conditions: the slices read as parts that may be, as pieces that may be; sizes. The document's own answer of layer 10: Term, of one kind. Conditions: the slices read as parts that may be, as pieces that may be; sizes. The document's own answer of layer 10: Term, of one kind. Conditions: the slices read as parts that may be, as pieces that may be; sizes. The document's own answer of layer 10: Term, of one kind. Conditions: the slices read as parts that may be, as pieces that may be; sizes. The document's own answer of layer 10: Term. Conditions: the slices read as parts that may be, as pieces that may be; sizes. What a witness uses at each time, as one canonical function; a piece more. No program. No conditions. Package sat's look, Sat, Term, Ends, Short. Conditions: the slices read as parts, as pieces; sizes. Package sat's Sat, Term, Ends, Short. Conditions: the slices read as parts, as pieces; sizes. -/
import Derived.Test.YtlhokgcamcaonaaPXGF
import Derived.Test.YtlhokgcamcaonaaPXGB
import Derived.Test.YtlhokgcamcaonaaPXGE
import Derived.Test.YtlhokgcamcaonaaPXGC
import Derived.Test.YtlhokgcamcaonaaPXMA
import Derived.Test.YtlhokgcamcaonaaPXGA
namespace Go.Proofs.Ytlhokgcamcaonaa
open Go.ChangeShapes Go.WideShapes Go.ChangeAt Go.RowKit
attribute [local irreducible] Go.Calls

theorem endsR_take (l : List Prt) (W : List Pc) (lo hi : Nat) {k : Nat} {q : Pc} (h : W[k]? = some q) : endsR l (W.take (k + 1)) lo hi = if inR lo hi q then jn (endsR l (W.take k) lo hi) (some (lastP l q)) else endsR l (W.take k) lo hi := by
  unfold endsR
  rw [List.take_add_one, h]
  exact jnP_snoc _ _ _ _
/-- The parts' ticks are few. -/
def DOk (l : List Prt) : Prop := ∀ i, i < l.length → 0 ≤ (l.getD i pr0).d ∧ (l.getD i pr0).d ≤ 4096 ∧ (l.getD i pr0).n ≤ 4096
theorem dOk_tree {l : List Prt} (h : (treeS l).2 = 0) : DOk l := fun i hi => by
  have := badP_num (tree_part h hi).1
  exact ⟨this.2.2.2.1, this.2.2.2.2.1, this.2.1⟩
set_option maxHeartbeats 8000000 in
set_option maxRecDepth 100000 in
theorem rends_c (fr to' : Int) (l : List Prt) (W : List Pc) (a wa : Option Addr) (cap wcap p : Nat) (w : World) (hl : l.length ≤ 1000000000) (hp : p < l.length) (hWl : W.length ≤ 9223372036854775807) (hA : ArgP w a l) (hW : ArgVs w wa W) (hPc : PcOk W) (hD : DOk l) :
    Calls Try.prog 18 #[def8 fr to' a l.length cap, .slice wa W.length wcap, .int .i64 p] w fun e w' => e = .returned (.tuple #[.int .i64 (seB (endsR l W p (endS l p))), .int .i64 (seE (endsR l W p (endS l p))), .bool (endsR l W p (endS l p)).isSome]) ∧ Below w.heap.size w w' := by
  have HE := hidE (fun (w' : World) (h : Below w.heap.size w w') => rend_c l p a cap w' hl (by omega) (hA.past h))
  have HEL := hidE (endS_le l p)
  have HA := hidE hA; have HW := hidE hW; have HPC := hidE hPc; have HDO := hidE hD
  clear hA hW hPc hD
  generalize endS l p = q at *
  go_enter Try.func18, Try.ntmps18
  go_wp2_with fail
  ((with_reducible refine (HE.out _ (by (repeat (first | exact Below.refl _ _ | assumption | refine balloc ?_ _ | refine below_drewN ?_ _ | refine bstep (by assumption) ?_ | refine bstep (Past.prop _) ?_ | refine Below.setCell ?_ (by first | exact Nat.le_refl _ | (simp; done) | (simp; omega)) _)))).mono ?_); rintro e w1 ⟨rfl, hb1⟩)
  have hb := (show Below w.heap.size w (w.alloc (.cells #[.int .i64 fr, .int .i64 to', .slice a l.length cap] 24)) from by (repeat (first | exact Below.refl _ _ | assumption | refine balloc ?_ _ | refine below_drewN ?_ _ | refine bstep (by assumption) ?_ | refine bstep (Past.prop _) ?_ | refine Below.setCell ?_ (by first | exact Nat.le_refl _ | (simp; done) | (simp; omega)) _))).trans (hb1.mono (by simp))
  have hd := (Blk.made w #[.int .i64 fr, .int .i64 to', .slice a l.length cap] 24).past hb1
  have HB := hidE hb; have HDB := hidE hd
  clear hb1 hb hd HE
  go_wp2
  go_loopg [10, 11, 12, 13, 14] W.length (fun gh v10 v11 v12 v13 v14 wr => ∃ (k : Nat) (s : Se) (z : Value), v14 = z ∧ v13 = .int .i64 k ∧ v10 = .int .i64 (seB s) ∧ v11 = .int .i64 (seE s) ∧ v12 = .bool s.isSome ∧ k ≤ W.length ∧ W.length - k ≤ gh ∧ endsR l (W.take k) p q = s ∧ Below w1.heap.size w1 wr)
  case atStart => exact ⟨0, none, undef, rfl, rfl, rfl, rfl, rfl, Nat.zero_le _, Nat.le_refl _, rfl, Below.refl _ _⟩
  case round =>
    obtain ⟨k, s, v14, rfl, rfl, rfl, rfl, rfl, hk, hgh, hs, hbw⟩ := hrel
    have HGH := hidE hgh; have HS := hidE hs; have HBW := hidE hbw
    have HB2 := hidE (HB.out.trans (hbw.mono HB.out.size))
    have HD2 := hidE (HDB.out.past hbw)
    have e2 := HD2.out.cell 2; have dz := HD2.out.lt
    simp at e2
    clear hgh hs
    by_cases hlt : k < W.length
    · have q1 : decide ((k : Int) < (W.length : Int)) = true := decide_eq_true (by omega)
      have q2 : decide (k < W.length) = true := decide_eq_true hlt
      obtain ⟨b, off, rfl, hbz, hc⟩ := HW.out (by omega)
      obtain ⟨m0, m1⟩ := hc k hlt
      obtain ⟨x, hx⟩ : ∃ x, W[k]? = some x := ⟨W[k], by rw [List.getElem?_eq_getElem hlt]⟩
      have hgd : W.getD k (0, 0) = x := by rw [List.getD_eq_getElem?_getD, hx]; rfl
      rw [hgd] at m0 m1
      have HT := hidE (endsR_take l W p q hx)
      have hpc := HPC.out x (List.mem_of_getElem? hx)
      obtain ⟨j, at'⟩ := x
      have k0 := (HB2.out.cell (p := ⟨b, off + k * 2, none⟩) hbz).trans m0
      have k1 := (HB2.out.cell (p := ⟨b, off + k * 2 + 1, none⟩) hbz).trans m1
      have bz := Nat.lt_of_lt_of_le hbz HB2.out.size
      simp only at k0 k1
      have pc1 : -1099511627776 ≤ at' := hpc.1
      have pc2 : at' ≤ 1099511627776 := hpc.2
      rw [HS.out] at HT
      clear m0 m1 hc hx hgd hbw hpc
      by_cases c1 : j < (p : Int)
      · have r1 : decide (j < (p : Int)) = true := decide_eq_true c1
        have HN := hidE (show endsR l (W.take (k + 1)) p q = s by rw [HT.out, if_neg]; unfold inR; rw [decide_eq_false (show ¬ (p : Int) ≤ j by omega)]; simp)
        clear c1
        go_wp2
        go_roundg (W.length - (k + 1))
        case measure => have := HGH.out; omega
        case rel => exact ⟨k + 1, s, _, rfl, by go_num, rfl, rfl, rfl, by omega, Nat.le_refl _, HN.out, HBW.out⟩
      · have r1 : decide (j < (p : Int)) = false := decide_eq_false c1
        by_cases c2 : (q : Int) ≤ j
        · have r2 : decide ((q : Int) ≤ j) = true := decide_eq_true c2
          have HN := hidE (show endsR l (W.take (k + 1)) p q = s by rw [HT.out, if_neg]; unfold inR; rw [decide_eq_false (show ¬ j < (q : Int) by omega)]; simp)
          clear c1 c2
          go_wp2
          go_roundg (W.length - (k + 1))
          case measure => have := HGH.out; omega
          case rel => exact ⟨k + 1, s, _, rfl, by go_num, rfl, rfl, rfl, by omega, Nat.le_refl _, HN.out, HBW.out⟩
        · obtain ⟨j, rfl⟩ : ∃ i : Nat, j = (i : Int) := ⟨j.toNat, by omega⟩
          have r2 : decide ((q : Int) ≤ (j : Int)) = false := decide_eq_false c2
          have r3 : decide (q ≤ j) = false := decide_eq_false (by omega)
          have r4 : decide (j < p) = false := decide_eq_false (by omega)
          have hjl : j < l.length := by have := HEL.out; omega
          have hjz : (j : Int) < (l.length : Int) := by omega
          have hj0 : (0 : Int) ≤ (j : Int) := by omega
          obtain ⟨ba, offa, rfl, hba, hca⟩ := HA.out (by omega)
          have p3 := (HB2.out.cell (p := ⟨ba, _, none⟩) hba).trans (hca.get hjl).2.2.2.1
          have az := Nat.lt_of_lt_of_le hba HB2.out.size
          obtain ⟨dd1, dd2, _⟩ := HDO.out j hjl
          have HN := hidE (show endsR l (W.take (k + 1)) p q = jn s (some (at', at' + (l.getD j pr0).d)) by
            rw [HT.out, if_pos]
            · unfold lastP; simp only [Int.toNat_natCast]; rfl
            · unfold inR; rw [decide_eq_true (show (p : Int) ≤ (j : Int) by omega), decide_eq_true (show (j : Int) < (q : Int) by omega)]; rfl)
          obtain ⟨d, hd⟩ : ∃ d, (l.getD j pr0).d = d := ⟨_, rfl⟩
          rw [hd] at p3 dd1 dd2 HN
          have z1 : IntKind.i64.wrap (at' + d) = at' + d := IntWalk.i64_in _ (by omega)
          clear c1 c2 hca hd
          cases s with
          | none =>
            have HS2 := hidE (show jn none (some (at', at' + d)) = some (at', at' + d) from rfl)
            go_wp2
            go_quiet (fail)
            go_wp2
            go_roundg (W.length - (k + 1))
            case measure => have := HGH.out; omega
            case rel => exact ⟨k + 1, some (at', at' + d), _, rfl, by go_num, rfl, rfl, rfl, by omega, Nat.le_refl _, HN.out, HBW.out.trans ((show Below wr.heap.size wr _ from by (repeat (first | exact Below.refl _ _ | assumption | refine balloc ?_ _ | refine below_drewN ?_ _ | refine bstep (by assumption) ?_ | refine bstep (Past.prop _) ?_ | refine Below.setCell ?_ (by first | exact Nat.le_refl _ | (simp; done) | (simp; omega)) _))).mono HBW.out.size)⟩
          | some se =>
            obtain ⟨sb, sE⟩ := se
            have hcs : (at' < sb ∧ sE < at' + d) ∨ (at' < sb ∧ ¬ sE < at' + d) ∨ (¬ at' < sb ∧ sE < at' + d) ∨ (¬ at' < sb ∧ ¬ sE < at' + d) := by omega
            rcases hcs with hcs | hcs | hcs | hcs
            · obtain ⟨h1, h2⟩ := hcs
              have t1 : decide (at' < seB (some (sb, sE))) = true := decide_eq_true h1
              have t2 : decide (seE (some (sb, sE)) < at' + d) = true := decide_eq_true h2
              have HM := hidE (show jn (some (sb, sE)) (some (at', at' + d)) = some (at', at' + d) by
                unfold jn
                simp only
                rw [show min sb at' = at' by omega, show max sE (at' + d) = at' + d by omega])
              clear h1 h2
              go_wp2
              go_quiet (fail)
              go_wp2
              go_roundg (W.length - (k + 1))
              case measure => have := HGH.out; omega
              case rel => exact ⟨k + 1, some (at', at' + d), _, rfl, by go_num, rfl, rfl, rfl, by omega, Nat.le_refl _, HN.out.trans HM.out, HBW.out.trans ((show Below wr.heap.size wr _ from by (repeat (first | exact Below.refl _ _ | assumption | refine balloc ?_ _ | refine below_drewN ?_ _ | refine bstep (by assumption) ?_ | refine bstep (Past.prop _) ?_ | refine Below.setCell ?_ (by first | exact Nat.le_refl _ | (simp; done) | (simp; omega)) _))).mono HBW.out.size)⟩
            · obtain ⟨h1, h2⟩ := hcs
              have t1 : decide (at' < seB (some (sb, sE))) = true := decide_eq_true h1
              have t2 : decide (seE (some (sb, sE)) < at' + d) = false := decide_eq_false h2
              have HM := hidE (show jn (some (sb, sE)) (some (at', at' + d)) = some (at', sE) by
                unfold jn
                simp only
                rw [show min sb at' = at' by omega, show max sE (at' + d) = sE by omega])
              clear h1 h2
              go_wp2
              go_quiet (fail)
              go_wp2
              go_roundg (W.length - (k + 1))
              case measure => have := HGH.out; omega
              case rel => exact ⟨k + 1, some (at', sE), _, rfl, by go_num, rfl, rfl, rfl, by omega, Nat.le_refl _, HN.out.trans HM.out, HBW.out.trans ((show Below wr.heap.size wr _ from by (repeat (first | exact Below.refl _ _ | assumption | refine balloc ?_ _ | refine below_drewN ?_ _ | refine bstep (by assumption) ?_ | refine bstep (Past.prop _) ?_ | refine Below.setCell ?_ (by first | exact Nat.le_refl _ | (simp; done) | (simp; omega)) _))).mono HBW.out.size)⟩
            · obtain ⟨h1, h2⟩ := hcs
              have t1 : decide (at' < seB (some (sb, sE))) = false := decide_eq_false h1
              have t2 : decide (seE (some (sb, sE)) < at' + d) = true := decide_eq_true h2
              have HM := hidE (show jn (some (sb, sE)) (some (at', at' + d)) = some (sb, at' + d) by
                unfold jn
                simp only
                rw [show min sb at' = sb by omega, show max sE (at' + d) = at' + d by omega])
              clear h1 h2
              go_wp2
              go_quiet (fail)
              go_wp2
              go_roundg (W.length - (k + 1))
              case measure => have := HGH.out; omega
              case rel => exact ⟨k + 1, some (sb, at' + d), _, rfl, by go_num, rfl, rfl, rfl, by omega, Nat.le_refl _, HN.out.trans HM.out, HBW.out.trans ((show Below wr.heap.size wr _ from by (repeat (first | exact Below.refl _ _ | assumption | refine balloc ?_ _ | refine below_drewN ?_ _ | refine bstep (by assumption) ?_ | refine bstep (Past.prop _) ?_ | refine Below.setCell ?_ (by first | exact Nat.le_refl _ | (simp; done) | (simp; omega)) _))).mono HBW.out.size)⟩
            · obtain ⟨h1, h2⟩ := hcs
              have t1 : decide (at' < seB (some (sb, sE))) = false := decide_eq_false h1
              have t2 : decide (seE (some (sb, sE)) < at' + d) = false := decide_eq_false h2
              have HM := hidE (show jn (some (sb, sE)) (some (at', at' + d)) = some (sb, sE) by
                unfold jn
                simp only
                rw [show min sb at' = sb by omega, show max sE (at' + d) = sE by omega])
              clear h1 h2
              go_wp2
              go_quiet (fail)
              go_wp2
              go_roundg (W.length - (k + 1))
              case measure => have := HGH.out; omega
              case rel => exact ⟨k + 1, some (sb, sE), _, rfl, by go_num, rfl, rfl, rfl, by omega, Nat.le_refl _, HN.out.trans HM.out, HBW.out.trans ((show Below wr.heap.size wr _ from by (repeat (first | exact Below.refl _ _ | assumption | refine balloc ?_ _ | refine below_drewN ?_ _ | refine bstep (by assumption) ?_ | refine bstep (Past.prop _) ?_ | refine Below.setCell ?_ (by first | exact Nat.le_refl _ | (simp; done) | (simp; omega)) _))).mono HBW.out.size)⟩
    · obtain rfl : k = W.length := by omega
      have q1 : decide ((W.length : Int) < (W.length : Int)) = false := decide_eq_false (by omega)
      have q2 : decide (W.length < W.length) = false := decide_eq_false (by omega)
      rw [List.take_length] at HS
      clear hbw
      go_wp2
      refine bodyPost_ret (v := .tuple #[.int .i64 (seB s), .int .i64 (seE s), .bool s.isSome]) (by simp [results, Try.results18, go_sem]) rfl ?_
      exact ⟨by rw [HS.out], HB2.out⟩
end Go.Proofs.Ytlhokgcamcaonaa

namespace Go.Proofs.Ytlhokgcamcaonaa
open Go.ChangeShapes Go.WideShapes Go.ChangeAt Go.RowKit
attribute [local irreducible] Go.Calls

/-- What is kept of the children's lengths. -/
def lenP (kind : Nat) (d : Int) (ks : List TI) : Int := if ks = [] then d else if kind = 3 then minI ks else if kind = 4 then maxI ks else sumI ks
theorem lenP_one (kind : Nat) (d : Int) (k : TI) : lenP kind d [k] = k.len := by
  unfold lenP
  rw [if_neg (by simp)]
  simp [minI, maxI, sumI]
theorem head_app {ks : List TI} {k : TI} (h : ks ≠ []) : (ks ++ [k]).head?.map TI.len = ks.head?.map TI.len := by
  cases ks with
  | nil => exact absurd rfl h
  | cons a r => rfl
theorem sumI_snoc (ks : List TI) (k : TI) : sumI (ks ++ [k]) = sumI ks + k.len := by unfold sumI; rw [List.foldl_append]; rfl
theorem sumI_app : ∀ (a b : List TI), sumI (a ++ b) = sumI a + sumI b
  | [], b => by simp [sumI]
  | x :: a, b => by rw [List.cons_append, sumI_cons, sumI_cons, sumI_app a b]; omega
theorem lenP_snoc {kind : Nat} {d : Int} {ks : List TI} {k : TI} (h : ks ≠ []) : lenP kind d (ks ++ [k]) = if kind = 3 then min (lenP kind d ks) k.len else if kind = 4 then max (lenP kind d ks) k.len else lenP kind d ks + k.len := by
  have e1 : lenP kind d ks = if kind = 3 then minI ks else if kind = 4 then maxI ks else sumI ks := by unfold lenP; rw [if_neg h]
  rw [e1]
  unfold lenP
  rw [if_neg (by simp)]
  by_cases c3 : kind = 3
  · simp only [c3, if_true]
    unfold minI
    rw [head_app h, List.foldl_append]; rfl
  · rw [if_neg c3, if_neg c3]
    by_cases c4 : kind = 4
    · simp only [c4, if_true]
      simp
      unfold maxI
      rw [head_app h, List.foldl_append]; rfl
    · rw [if_neg c4, if_neg c4, if_neg c3, if_neg c4, sumI_snoc]
/-- Between two children. -/
structure ShI (l : List Prt) (W : List Pc) (y : Prt) (K : Fst) (o : Nat) (D : List TI) (C : Fst) (oo : Nat) : Prop where
  tot : D ++ satF W C oo = satF W K (o + 1)
  pos : ∃ pre, posF K (o + 1) = pre ++ posF C oo ∧ pre.length = D.length
  atf : AtF l oo C
  fit : ∃ deep ink, C.fit deep ink
  siz : C.size ≤ K.size
  len : D.length + C.len = K.len
theorem ShI.start {l : List Prt} {W : List Pc} {y : Prt} {K : Fst} {o deep ink : Nat} (hat : AtF l o (.cons y K .nil)) (hfit : (Fst.cons y K .nil).fit deep ink) : ShI l W y K o [] K (o + 1) :=
  ⟨rfl, ⟨[], rfl, rfl⟩, hat.kids, ⟨_, _, hfit.2.2.2.1⟩, Nat.le_refl _, by simp⟩
theorem ShI.next {l : List Prt} {W : List Pc} {y : Prt} {K : Fst} {o : Nat} {D : List TI} {x : Prt} {Kx N : Fst} {oo : Nat} (h : ShI l W y K o D (.cons x Kx N) oo) : ShI l W y K o (D ++ [satI W x Kx oo]) N (oo + 1 + Kx.size) := by
  obtain ⟨pre, h1, h2⟩ := h.pos
  obtain ⟨deep, ink, hf⟩ := h.fit
  refine ⟨by rw [← h.tot, satF_cons]; simp, ⟨pre ++ [oo], by rw [h1, posF]; simp, by simp [h2]⟩, h.atf.next, ⟨deep, ink, hf.2.2.2.2⟩, by have := h.siz; simp only [Fst.size] at this; omega, by have := h.len; simp only [Fst.len] at this; simp; omega⟩
theorem ShI.place {l : List Prt} {W : List Pc} {y : Prt} {K : Fst} {o : Nat} {D : List TI} {x : Prt} {Kx N : Fst} {oo : Nat} (h : ShI l W y K o D (.cons x Kx N) oo) : (natsI (posF K (o + 1))).getD D.length 0 = (oo : Int) := by
  obtain ⟨pre, h1, h2⟩ := h.pos
  rw [h1, posF, natsI_app, List.getD_eq_getElem?_getD, List.getElem?_append_right (by rw [natsI_len]; omega), natsI_len, h2, Nat.sub_self]; rfl
theorem at_size {l : List Prt} {o : Nat} {y : Prt} {K : Fst} (hat : AtF l o (.cons y K .nil)) : o + K.size < l.length := by
  have := hat.1 K.size (by simp only [Fst.size]; omega)
  have h2 : ((Fst.cons y K .nil).flat)[K.size]? ≠ none := by rw [ne_eq, List.getElem?_eq_none_iff, flat_len]; simp only [Fst.size]; omega
  rw [← this] at h2
  exact (List.getElem?_eq_some_iff.1 (Option.ne_none_iff_exists'.1 h2).choose_spec).1
theorem len_fin {W : List Pc} {y : Prt} {K : Fst} {o deep ink : Nat} (hf : (Fst.cons y K .nil).fit deep ink) : lenP y.kind y.d (satF W K (o + 1)) = (satI W y K o).len := by
  have hk := badP_kids hf.1
  unfold satI mkI lenI lenP
  simp only
  by_cases c : y.kind = 0
  · have : K.len = 0 := hk.1 c
    have e : satF W K (o + 1) = [] := List.eq_nil_of_length_eq_zero (by rw [satF_len]; exact this)
    rw [e, if_pos rfl, if_pos c]
  · have : 1 ≤ K.len := (hk.2 c).1
    have e : satF W K (o + 1) ≠ [] := fun e => by have := congrArg List.length e; rw [satF_len] at this; simp at this; omega
    rw [if_neg e, if_neg c]
set_option maxHeartbeats 8000000 in
set_option maxRecDepth 100000 in
theorem rshort_c (fr to' : Int) (l : List Prt) (W : List Pc) (a : Option Addr) (cap : Nat) (hl : l.length ≤ 64) (ht : (treeS l).2 = 0) : ∀ (m : Nat) (y : Prt) (K : Fst) (o deep ink : Nat) (w : World), K.size < m → AtF l o (.cons y K .nil) → (Fst.cons y K .nil).fit deep ink → ArgP w a l →
    Calls Try.prog 17 #[def8 fr to' a l.length cap, .int .i64 o] w fun e w' => e = .returned (.int .i64 (satI W y K o).len) ∧ Below w.heap.size w w' := by
  intro m
  induction m with
  | zero => intro y K o deep ink w h; omega
  | succ m ih =>
    intro y K o deep ink w hm hat hfit hA
    have hol := hat.lt
    have hkz := tree_kids ht hol
    have HKI := hidE (fun (w' : World) (h : Below w.heap.size w w') => rkids_c l o a cap w' (by omega) hol (by omega) (hA.past h))
    rw [kidsS_pos hat] at HKI
    obtain ⟨b, off, rfl, hbb, hc⟩ := hA (by omega)
    have hg0 : l.getD o pr0 = { y with kids := (K.len : Int) } := by rw [List.getD_eq_getElem?_getD, hat.head]; rfl
    have hc0 := hc.get hol
    rw [hg0] at hc0
    obtain ⟨p0, _, _, p3, _⟩ := hc0
    simp only at p0 p3
    have hoz : (o : Int) < (l.length : Int) := by omega
    have hsz := at_size hat
    have hp16 : K.len ≤ 16 := fitT_len (t := (y, K)) (deep := deep) (ink := ink) ⟨hfit.1, hfit.2.1, hfit.2.2.1, hfit.2.2.2.1⟩
    have HA := hidE hA; have HI0 := hidE (ShI.start (W := W) hat hfit); have HFIN := hidE (len_fin (W := W) (o := o) hfit); have HLB := hidE (len_bd W K (o + 1) _ _ hfit.2.2.2.1); have IH := hidE ih
    have hkd := (badP_num hfit.1).1
    simp only at hkd
    clear hat hfit hA hc hg0 ih ht hkz
    obtain ⟨kd, hkk⟩ : ∃ kd, y.kind = kd := ⟨_, rfl⟩
    obtain ⟨dd, hdd⟩ : ∃ dd, y.d = dd := ⟨_, rfl⟩
    rw [hkk] at p0 HFIN hkd
    rw [hdd] at p3 HFIN
    clear hkk hdd
    rw [← HFIN.out]
    clear HFIN
    go_enter Try.func17, Try.ntmps17
    go_wp2_with fail
    ((with_reducible refine (HKI.out _ (by (repeat (first | exact Below.refl _ _ | assumption | refine balloc ?_ _ | refine below_drewN ?_ _ | refine bstep (by assumption) ?_ | refine bstep (Past.prop _) ?_ | refine Below.setCell ?_ (by first | exact Nat.le_refl _ | (simp; done) | (simp; omega)) _)))).mono ?_); rintro e w1 ⟨vk, rfl, hsn, hb1⟩)
    obtain ⟨ak, ck, rfl, hk1, hk2, hKc⟩ := hsn
    rw [posF_len] at hk1 ⊢
    have hb := (show Below w.heap.size w (w.alloc (.cells #[.int .i64 fr, .int .i64 to', .slice (some ⟨b, off, none⟩) l.length cap] 24)) from by (repeat (first | exact Below.refl _ _ | assumption | refine balloc ?_ _ | refine below_drewN ?_ _ | refine bstep (by assumption) ?_ | refine bstep (Past.prop _) ?_ | refine Below.setCell ?_ (by first | exact Nat.le_refl _ | (simp; done) | (simp; omega)) _))).trans (hb1.mono (by simp))
    have hd := (Blk.made w #[.int .i64 fr, .int .i64 to', .slice (some ⟨b, off, none⟩) l.length cap] 24).past hb1
    have e2 := hd.cell 2; have dz := hd.lt
    simp at e2
    have p3' := (hb.cell (p := ⟨b, _, none⟩) hbb).trans p3
    have bz := Nat.lt_of_lt_of_le hbb hb.size
    have HB := hidE hb; have HD := hidE hd; have HKC := hidE hKc
    clear hb1 hb hd HKI hKc p3
    go_wp2_with fail
    go_loopg [6, 7, 8] K.len (fun gh v6 v7 v8 wr => ∃ (D : List TI) (C : Fst) (oo : Nat) (z : Value), v8 = z ∧ v7 = .int .i64 D.length ∧ v6 = .int .i64 (lenP kd dd D) ∧ C.len ≤ gh ∧ ShI l W y K o D C oo ∧ Below w1.heap.size w1 wr)
    case atStart => exact ⟨[], K, o + 1, undef, rfl, rfl, rfl, Nat.le_refl _, HI0.out, Below.refl _ _⟩
    case round =>
      clear HI0 e2 dz p3' bz
      obtain ⟨D, C, oo, v8, rfl, rfl, rfl, hgh, hI, hbw⟩ := hrel
      have HGH := hidE hgh; have HI := hidE hI; have HBW := hidE hbw
      have HB2 := hidE (HB.out.trans (hbw.mono HB.out.size))
      have HD2 := hidE (HD.out.past hbw)
      have e0 := HD2.out.cell 0; have e1 := HD2.out.cell 1; have e2 := HD2.out.cell 2; have dz := HD2.out.lt
      simp at e0 e1 e2
      have hDC := hI.len
      cases C with
      | nil =>
        have q1 : decide ((D.length : Int) < (K.len : Int)) = false := decide_eq_false (by simp only [Fst.len] at hDC; omega)
        have q2 : decide (D.length < K.len) = false := decide_eq_false (by simp only [Fst.len] at hDC; omega)
        have HN := hidE (show D = satF W K (o + 1) by have := hI.tot; simpa [satF] using this)
        clear hgh hI hbw hDC
        go_wp2
        go_ret
        exact ⟨by rw [← HN.out]; rfl, HB2.out⟩
      | cons x Kx N =>
        simp only [Fst.len] at hDC
        have q1 : decide ((D.length : Int) < (K.len : Int)) = true := decide_eq_true (by omega)
        have q2 : decide (D.length < K.len) = true := decide_eq_true (by omega)
        have q3 : D.length < K.len := by omega
        obtain ⟨bk, ok, rfl, hbkz, hkc⟩ := HKC.out (by rw [natsI_len, posF_len]; omega)
        have k0 := (hbw.cell (p := ⟨bk, ok + D.length, none⟩) hbkz).trans (hkc D.length (by rw [natsI_len, posF_len]; exact q3))
        rw [hI.place] at k0
        have kz := Nat.lt_of_lt_of_le hbkz hbw.size
        obtain ⟨deep', ink', hfc⟩ := hI.fit
        have hsk := hI.siz
        simp only [Fst.size] at hsk
        have HC := hidE (fun (w' : World) (h : Below wr.heap.size wr w') => IH.out x Kx oo deep' ink' w' (by omega) hI.atf.one ⟨hfc.1, hfc.2.1, hfc.2.2.1, hfc.2.2.2.1, trivial⟩ (HA.out.past (HB2.out.trans (h.mono HB2.out.size))))
        have HIN := hidE hI.next
        have hbd := HLB.out.2.2 (satI W x Kx oo) (by rw [← hI.tot, satF_cons]; simp)
        have hsumD : 0 ≤ sumI D ∧ sumI D ≤ 64 * 4096 := by
          have h1 := HLB.out.2.1
          have h2 : sumI (satF W K (o + 1)) = sumI D + sumI (satF W (.cons x Kx N) oo) := by rw [← hI.tot, sumI_app]
          have h3 := (len_bd W (.cons x Kx N) oo _ _ hfc).1
          have h4 : 0 ≤ sumI D := by
            have : ∀ (E : List TI), (∀ k ∈ E, 0 ≤ k.len) → 0 ≤ sumI E := fun E => by
              induction E with
              | nil => intro _; simp [sumI]
              | cons a r ih2 => intro h; rw [sumI_cons]; have := h a (by simp); have := ih2 fun k hk => h k (List.mem_cons_of_mem _ hk); omega
            exact this D fun k hk => (HLB.out.2.2 k (by rw [← hI.tot]; simp [hk])).1
          omega
        obtain ⟨t, htt⟩ : ∃ t, satI W x Kx oo = t := ⟨_, rfl⟩
        rw [htt] at HC HIN hbd
        have HSD := hidE hsumD
        have hb1 := hbd.1
        have hb2 : t.len ≤ 64 * 4096 := by have := hbd.2; omega
        clear hgh hI hbw hkc hfc hbd hsumD htt
        have ph0 := (HB2.out.cell (p := ⟨b, _, none⟩) hbb).trans p0
        have bz := Nat.lt_of_lt_of_le hbb HB2.out.size
        go_upto_region 6 with fail
        refine wp_region_past_lit (by kernel_rfl) (by kernel_rfl) ?_
        have hcp := Past.cell (W := wr)
        repeat (go_big_quiet_step ((go_at_call 17; exact Past.call _ (HC.out _ (Past.prop _)))))
        refine wpQuiet_nil ?_
        rintro _ ⟨x', rfl⟩
        replace HD2 := hidE (HD2.out.past x'.2)
        replace HB2 := hidE (HB2.out.trans (x'.2.mono HB2.out.size))
        replace HBW := hidE (HBW.out.trans (x'.2.mono HBW.out.size))
        replace ph0 := (x'.2.cell (p := ⟨b, _, none⟩) bz).trans ph0
        replace bz := Nat.lt_of_lt_of_le bz x'.2.size
        clear hcp e0 e1 e2 dz k0 kz HC
        generalize x'.1 = w6 at *
        have e2 := HD2.out.cell 2; have dz := HD2.out.lt
        simp at e2
        by_cases h0 : D.length = 0
        · have hD0 : D = [] := List.eq_nil_of_length_eq_zero h0
          have r1 : ((D.length : Int) == 0) = true := by simp; omega
          have r2 : (D.length == 0) = true := by simp; omega
          have HN := hidE (show lenP kd dd (D ++ [t]) = t.len by rw [hD0]; exact lenP_one _ _ _)
          clear h0 hD0
          go_wp2
          go_roundg N.len
          case measure => have := HGH.out; simp only [Fst.len] at this; omega
          case rel => exact ⟨D ++ [t], N, _, _, rfl, by simp, by rw [HN.out], Nat.le_refl _, HIN.out, HBW.out⟩
        · have hD0 : D ≠ [] := fun e => h0 (by rw [e]; rfl)
          have r1 : ((D.length : Int) == 0) = false := by simp; omega
          have r2 : (D.length == 0) = false := by simp; omega
          have HN := hidE (lenP_snoc (kind := kd) (d := dd) (k := t) hD0)
          have hcs : kd = 3 ∨ kd = 4 ∨ (kd ≠ 3 ∧ kd ≠ 4) := by omega
          rcases hcs with rfl | rfl | ⟨c3, c4⟩
          · have HN2 := hidE (show lenP 3 dd (D ++ [t]) = min (lenP 3 dd D) t.len by rw [HN.out]; simp)
            clear HN h0 hD0
            generalize lenP 3 dd D = r at *
            by_cases hm2 : t.len < r
            · have HN3 := hidE (show lenP 3 dd (D ++ [t]) = t.len by rw [HN2.out]; omega)
              go_wp2
              go_roundg N.len
              case measure => have := HGH.out; simp only [Fst.len] at this; omega
              case rel => exact ⟨D ++ [t], N, _, _, rfl, by simp, by rw [HN3.out], Nat.le_refl _, HIN.out, HBW.out⟩
            · have HN3 := hidE (show lenP 3 dd (D ++ [t]) = r by rw [HN2.out]; omega)
              go_wp2
              go_roundg N.len
              case measure => have := HGH.out; simp only [Fst.len] at this; omega
              case rel => exact ⟨D ++ [t], N, _, _, rfl, by simp, by rw [HN3.out], Nat.le_refl _, HIN.out, HBW.out⟩
          · have HN2 := hidE (show lenP 4 dd (D ++ [t]) = max (lenP 4 dd D) t.len by rw [HN.out]; simp)
            clear HN h0 hD0
            generalize lenP 4 dd D = r at *
            by_cases hm2 : r < t.len
            · have HN3 := hidE (show lenP 4 dd (D ++ [t]) = t.len by rw [HN2.out]; omega)
              go_wp2
              go_roundg N.len
              case measure => have := HGH.out; simp only [Fst.len] at this; omega
              case rel => exact ⟨D ++ [t], N, _, _, rfl, by simp, by rw [HN3.out], Nat.le_refl _, HIN.out, HBW.out⟩
            · have HN3 := hidE (show lenP 4 dd (D ++ [t]) = r by rw [HN2.out]; omega)
              go_wp2
              go_roundg N.len
              case measure => have := HGH.out; simp only [Fst.len] at this; omega
              case rel => exact ⟨D ++ [t], N, _, _, rfl, by simp, by rw [HN3.out], Nat.le_refl _, HIN.out, HBW.out⟩
          · have HN2 := hidE (show lenP kd dd (D ++ [t]) = sumI D + t.len by rw [HN.out, if_neg c3, if_neg c4]; unfold lenP; rw [if_neg hD0, if_neg c3, if_neg c4])
            have HLP := hidE (show lenP kd dd D = sumI D by unfold lenP; rw [if_neg hD0, if_neg c3, if_neg c4])
            have s3 : ((kd : Int) == 3) = false := by simp; omega
            have s3' : (kd == 3) = false := by simp; omega
            have s4 : ((kd : Int) == 4) = false := by simp; omega
            have s4' : (kd == 4) = false := by simp; omega
            have hs1 := HSD.out.1
            have hs2 := HSD.out.2
            rw [HLP.out]
            clear HN h0 hD0 c3 c4 HLP
            generalize sumI D = r at *
            go_wp2
            go_roundg N.len
            case measure => have := HGH.out; simp only [Fst.len] at this; omega
            case rel => exact ⟨D ++ [t], N, _, _, rfl, by simp, by rw [HN2.out], Nat.le_refl _, HIN.out, HBW.out⟩
end Go.Proofs.Ytlhokgcamcaonaa

namespace Go.Proofs.Ytlhokgcamcaonaa
open Go.ChangeShapes Go.WideShapes Go.ChangeAt Go.RowKit
attribute [local irreducible] Go.Calls

theorem pcs_atoms {l : List Prt} : ∀ {W : List Pc} {last : Int}, -1 ≤ last → pcsB l last W = true → Atoms l W
  | [], _, _, _, p, hp => by cases hp
  | q :: W, last, hl, h, p, hp => by
    simp only [pcsB, Bool.and_eq_true, decide_eq_true_eq] at h
    obtain ⟨h1, h2, h3, h4⟩ := h
    rcases List.mem_cons.1 hp with rfl | hp
    · exact ⟨by omega, h2, h3⟩
    · exact pcs_atoms (by omega) h4 p hp
theorem end_at {l : List Prt} {x : Prt} {Kx N : Fst} {oo : Nat} (h : AtF l oo (.cons x Kx N)) : endS l oo = oo + 1 + Kx.size := h.2.1
/-- What the pieces of a part are. -/
theorem se_ends {l : List Prt} {W : List Pc} (hW : Atoms l W) {x : Prt} {K : Fst} {o deep ink : Nat} (h : AtF l o (.cons x K .nil)) (hf : (Fst.cons x K .nil).fit deep ink) : endsR l W o (endS l o) = (satI W x K o).se := by
  rw [end_at h, se_R hW h hf]
theorem ok_has {W : List Pc} {x : Prt} {K : Fst} {o deep ink : Nat} (hf : (Fst.cons x K .nil).fit deep ink) (h : (satI W x K o).se = none) : (satI W x K o).ok = false := by
  cases ho : (satI W x K o).ok
  · rfl
  · exact absurd h (ok_se W (.cons x K .nil) o deep ink hf _ (by rw [satF_cons]; simp) ho)
def lastE (D : List TI) : Int := match D.getLast? with
  | none => 0
  | some k => seE k.se
theorem lastE_snoc (D : List TI) (k : TI) : lastE (D ++ [k]) = seE k.se := by unfold lastE; rw [List.getLast?_concat]
theorem allI_snoc (D : List TI) (k : TI) : allI (D ++ [k]) = (allI D && k.ok) := by unfold allI; rw [List.all_append]; simp
theorem adj_last (f : Int → Int → Bool) : ∀ (D : List TI) (k : TI), D ≠ [] → adjI f (D ++ [k]) = (adjI f D && f (lastE D) (seB k.se)) := by
  intro D k h
  obtain ⟨E, a, rfl⟩ : ∃ E a, D = E ++ [a] := ⟨D.dropLast, D.getLast h, (List.dropLast_concat_getLast h).symm⟩
  rw [List.append_assoc, lastE_snoc]
  exact adj_snoc f a k E
theorem adjI_pre {f : Int → Int → Bool} {D R : List TI} (h : adjI f D = false) : adjI f (D ++ R) = false := by
  cases hq : adjI f (D ++ R)
  · rfl
  · rw [adj_pre f D R hq] at h; cases h
def plI (D : List TI) : List TI := D.filter fun k => k.se.isSome
theorem any_bad {D R : List TI} {k : TI} (h1 : k.se.isSome = true) (h2 : k.ok = false) : anyI (D ++ k :: R) = false := by
  unfold anyI
  rw [List.filter_append, List.filter_cons, if_pos h1]
  split
  · rename_i q hq
    have : k ∈ List.filter (fun k => k.se.isSome) D ++ k :: List.filter (fun k => k.se.isSome) R := by simp
    rw [hq] at this
    obtain rfl : k = q := by simpa using this
    exact h2
  · rfl
theorem any_fin {D : List TI} (h : ∀ k ∈ D, k.se.isSome = true → k.ok = true) : anyI D = ((plI D).length == 1) := by
  unfold anyI plI
  cases hd : D.filter fun k => k.se.isSome with
  | nil => rfl
  | cons a r =>
    cases r with
    | nil =>
      have : a ∈ D.filter fun k => k.se.isSome := by rw [hd]; simp
      rw [List.mem_filter] at this
      simpa using h a this.1 this.2
    | cons b r => simp
set_option maxHeartbeats 4000000 in
set_option maxRecDepth 100000 in
theorem rterm_0 (fr to' : Int) (l : List Prt) (W : List Pc) (a wa : Option Addr) (cap wcap : Nat) (hl : l.length ≤ 64) (ht : (treeS l).2 = 0) (hWl : W.length ≤ 9223372036854775807) (hPc : PcOk W) (hAt : Atoms l W) (y : Prt) (K : Fst) (o deep ink : Nat) (w : World) (hat : AtF l o (.cons y K .nil)) (hfit : (Fst.cons y K .nil).fit deep ink) (hA : ArgP w a l) (hW : ArgVs w wa W) (hk : y.kind = 0 ∨ (satI W y K o).se = none) :
    Calls Try.prog 19 #[def8 fr to' a l.length cap, .slice wa W.length wcap, .int .i64 o] w fun e w' => e = .returned (.bool (satI W y K o).ok) ∧ Below w.heap.size w w' := by
  have hol := hat.lt
  have HEN := hidE (fun (w' : World) (h : Below w.heap.size w w') => rends_c fr to' l W a wa cap wcap o w' (by omega) hol hWl (hA.past h) (hW.past h) hPc (dOk_tree ht))
  rw [se_ends hAt hat hfit] at HEN
  obtain ⟨b, off, rfl, hbb, hc⟩ := hA (by omega)
  have hg0 : l.getD o pr0 = { y with kids := (K.len : Int) } := by rw [List.getD_eq_getElem?_getD, hat.head]; rfl
  have hc0 := (hc.get hol).1
  rw [hg0] at hc0
  simp only at hc0
  have hoz : (o : Int) < (l.length : Int) := by omega
  have HF := hidE (show (satI W y K o).ok = (satI W y K o).se.isSome by
    rcases hk with h | h
    · show okI _ _ _ = _
      unfold okI
      simp only
      rw [if_pos h]
      unfold satI mkI
      simp only
    · rw [ok_has hfit h, h]; rfl)
  have hcs : y.kind = 0 ∨ (y.kind ≠ 0 ∧ (satI W y K o).se = none) := by
    by_cases c : y.kind = 0
    · exact .inl c
    · rcases hk with h | h
      · exact absurd h c
      · exact .inr ⟨c, h⟩
  rw [HF.out]
  obtain ⟨kd, hkk⟩ : ∃ kd, y.kind = kd := ⟨_, rfl⟩
  obtain ⟨se, hse⟩ : ∃ se, (satI W y K o).se = se := ⟨_, rfl⟩
  rw [hkk, hse] at hcs
  rw [hkk] at hc0
  rw [hse] at HEN ⊢
  clear hat hfit hA hW hc hg0 hk ht hPc hAt hkk hse HF
  rcases hcs with rfl | ⟨c, rfl⟩
  · go_enter Try.func19, Try.ntmps19
    go_wp2_with fail
    ((with_reducible refine (HEN.out _ (by (repeat (first | exact Below.refl _ _ | assumption | refine balloc ?_ _ | refine below_drewN ?_ _ | refine bstep (by assumption) ?_ | refine bstep (Past.prop _) ?_ | refine Below.setCell ?_ (by first | exact Nat.le_refl _ | (simp; done) | (simp; omega)) _)))).mono ?_); rintro e w1 ⟨rfl, hb1⟩)
    go_wp2
    go_ret
    exact ⟨rfl, by (repeat (first | exact Below.refl _ _ | assumption | refine balloc ?_ _ | refine below_drewN ?_ _ | refine bstep (by assumption) ?_ | refine bstep (Past.prop _) ?_ | refine Below.setCell ?_ (by first | exact Nat.le_refl _ | (simp; done) | (simp; omega)) _))⟩
  · have r1 : ((kd : Int) == 0) = false := by simp; omega
    have r2 : (kd == 0) = false := by simp; omega
    have HEN2 := hidE (fun (w' : World) (h : Below w.heap.size w w') => (show Calls Try.prog 18 #[def8 fr to' (some ⟨b, off, none⟩) l.length cap, .slice wa W.length wcap, .int .i64 o] w' fun e w'' => e = .returned (.tuple #[.int .i64 0, .int .i64 0, .bool false]) ∧ Below w'.heap.size w' w'' from HEN.out w' h))
    clear c HEN
    go_enter Try.func19, Try.ntmps19
    go_wp2_with fail
    ((with_reducible refine (HEN2.out _ (by (repeat (first | exact Below.refl _ _ | assumption | refine balloc ?_ _ | refine below_drewN ?_ _ | refine bstep (by assumption) ?_ | refine bstep (Past.prop _) ?_ | refine Below.setCell ?_ (by first | exact Nat.le_refl _ | (simp; done) | (simp; omega)) _)))).mono ?_); rintro e w1 ⟨rfl, hb1⟩)
    go_wp2
    go_ret
    exact ⟨rfl, by (repeat (first | exact Below.refl _ _ | assumption | refine balloc ?_ _ | refine below_drewN ?_ _ | refine bstep (by assumption) ?_ | refine bstep (Past.prop _) ?_ | refine Below.setCell ?_ (by first | exact Nat.le_refl _ | (simp; done) | (simp; omega)) _))⟩
end Go.Proofs.Ytlhokgcamcaonaa

namespace Go.Proofs.Ytlhokgcamcaonaa
open Go.ChangeShapes Go.WideShapes Go.ChangeAt Go.RowKit
attribute [local irreducible] Go.Calls

set_option maxHeartbeats 8000000 in
set_option maxRecDepth 100000 in
theorem rterm_1 (fr to' : Int) (l : List Prt) (W : List Pc) (a wa : Option Addr) (cap wcap : Nat) (hl : l.length ≤ 64) (ht : (treeS l).2 = 0) (hWl : W.length ≤ 9223372036854775807) (hPc : PcOk W) (hAt : Atoms l W) (y : Prt) (K : Fst) (o deep ink : Nat) (w : World) (hat : AtF l o (.cons y K .nil)) (hfit : (Fst.cons y K .nil).fit deep ink) (hA : ArgP w a l) (hW : ArgVs w wa W) (hk : y.kind = 1) (hs : (satI W y K o).se ≠ none)
    (IH : ∀ (x : Prt) (Kx : Fst) (oo deep ink : Nat) (w : World), Kx.size < K.size → AtF l oo (.cons x Kx .nil) → (Fst.cons x Kx .nil).fit deep ink → ArgP w a l → ArgVs w wa W → Calls Try.prog 19 #[def8 fr to' a l.length cap, .slice wa W.length wcap, .int .i64 oo] w fun e w' => e = .returned (.bool (satI W x Kx oo).ok) ∧ Below w.heap.size w w') :
    Calls Try.prog 19 #[def8 fr to' a l.length cap, .slice wa W.length wcap, .int .i64 o] w fun e w' => e = .returned (.bool (satI W y K o).ok) ∧ Below w.heap.size w w' := by
  have hol := hat.lt
  have hkz := tree_kids ht hol
  have HEND := hidE (fun (x : Prt) (Kx : Fst) (oo deep ink : Nat) (w' : World) (h : Below w.heap.size w w') (hax : AtF l oo (.cons x Kx .nil)) (hfx : (Fst.cons x Kx .nil).fit deep ink) => by
    have := rends_c fr to' l W a wa cap wcap oo w' (by omega) hax.lt hWl (hA.past h) (hW.past h) hPc (dOk_tree ht)
    rw [se_ends hAt hax hfx] at this
    exact this)
  have HEN := hidE (fun (w' : World) (h : Below w.heap.size w w') => HEND.out y K o deep ink w' h hat hfit)
  have HKI := hidE (fun (w' : World) (h : Below w.heap.size w w') => rkids_c l o a cap w' (by omega) hol (by omega) (hA.past h))
  rw [kidsS_pos hat] at HKI
  obtain ⟨b, off, rfl, hbb, hc⟩ := hA (by omega)
  have hg0 : l.getD o pr0 = { y with kids := (K.len : Int) } := by rw [List.getD_eq_getElem?_getD, hat.head]; rfl
  have p0 := (hc.get hol).1
  rw [hg0] at p0
  simp only at p0
  have hoz : (o : Int) < (l.length : Int) := by omega
  have hsz := at_size hat
  have hp16 : K.len ≤ 16 := fitT_len (t := (y, K)) (deep := deep) (ink := ink) ⟨hfit.1, hfit.2.1, hfit.2.2.1, hfit.2.2.2.1⟩
  have HA := hidE hA; have HW := hidE hW; have HI0 := hidE (ShI.start (W := W) hat hfit); have HIH := hidE IH
  have HF := hidE (show (satI W y K o).ok = (adjI (fun e b => decide (e ≤ b)) (satF W K (o + 1)) && allI (satF W K (o + 1))) by
    unfold satI mkI okI
    simp only [hk]
    rfl)
  rw [HF.out]
  obtain ⟨se, hse⟩ : ∃ se, (satI W y K o).se = se := ⟨_, rfl⟩
  rw [hse] at HEN hs
  rw [hk] at p0
  clear hat hfit hA hW hc hg0 ht hkz hk hse HF hPc hAt
  cases se with
  | none => exact absurd rfl hs
  | some q =>
    have HEN2 := hidE (fun (w' : World) (h : Below w.heap.size w w') => (show Calls Try.prog 18 #[def8 fr to' (some ⟨b, off, none⟩) l.length cap, .slice wa W.length wcap, .int .i64 o] w' fun e w'' => e = .returned (.tuple #[.int .i64 q.1, .int .i64 q.2, .bool true]) ∧ Below w'.heap.size w' w'' from HEN.out w' h))
    clear hs HEN
    go_enter Try.func19, Try.ntmps19
    go_wp2_with fail
    ((with_reducible refine (HEN2.out _ (by (repeat (first | exact Below.refl _ _ | assumption | refine balloc ?_ _ | refine below_drewN ?_ _ | refine bstep (by assumption) ?_ | refine bstep (Past.prop _) ?_ | refine Below.setCell ?_ (by first | exact Nat.le_refl _ | (simp; done) | (simp; omega)) _)))).mono ?_); rintro e w1 ⟨rfl, hb1⟩)
    have hb := (show Below w.heap.size w (w.alloc (.cells #[.int .i64 fr, .int .i64 to', .slice (some ⟨b, off, none⟩) l.length cap] 24)) from by (repeat (first | exact Below.refl _ _ | assumption | refine balloc ?_ _ | refine below_drewN ?_ _ | refine bstep (by assumption) ?_ | refine bstep (Past.prop _) ?_ | refine Below.setCell ?_ (by first | exact Nat.le_refl _ | (simp; done) | (simp; omega)) _))).trans (hb1.mono (by simp))
    have hd := (Blk.made w #[.int .i64 fr, .int .i64 to', .slice (some ⟨b, off, none⟩) l.length cap] 24).past hb1
    have e2 := hd.cell 2; have dz := hd.lt
    simp at e2
    have HB := hidE hb; have HD := hidE hd
    clear hb1 hb hd HEN2 p0
    go_wp2_with fail
    ((with_reducible refine (HKI.out _ HB.out).mono ?_); rintro e w2 ⟨vk, rfl, hsn, hb2⟩)
    obtain ⟨ak, ck, rfl, hk1, hk2, hKc⟩ := hsn
    rw [posF_len] at hk1 ⊢
    have HB2 := hidE (HB.out.trans (hb2.mono HB.out.size)); have HDD := hidE (HD.out.past hb2); have HKC := hidE hKc
    clear hb2 HKI hKc e2 dz HD HB
    go_wp2
    go_loopg [12, 13, 14, 15, 16, 17] K.len (fun gh v12 v13 v14 v15 v16 v17 wr => ∃ (D : List TI) (C : Fst) (oo : Nat) (z15 z16 z17 : Value), v15 = z15 ∧ v16 = z16 ∧ v17 = z17 ∧ v14 = .int .i64 D.length ∧ v13 = .int .i64 D.length ∧ v12 = .int .i64 (lastE D) ∧ C.len ≤ gh ∧ allI D = true ∧ adjI (fun e b => decide (e ≤ b)) D = true ∧ ShI l W y K o D C oo ∧ Below w2.heap.size w2 wr)
    case atStart => exact ⟨[], K, o + 1, undef, undef, undef, rfl, rfl, rfl, rfl, rfl, rfl, Nat.le_refl _, rfl, rfl, HI0.out, Below.refl _ _⟩
    case round =>
      clear HI0
      obtain ⟨D, C, oo, v15, v16, v17, rfl, rfl, rfl, rfl, rfl, rfl, hgh, hall, hadj, hI, hbw⟩ := hrel
      have HGH := hidE hgh; have HI := hidE hI; have HBW := hidE hbw; have HALL := hidE hall; have HADJ := hidE hadj
      have HB3 := hidE (HB2.out.trans (hbw.mono HB2.out.size))
      have HD2 := hidE (HDD.out.past hbw)
      have e0 := HD2.out.cell 0; have e1 := HD2.out.cell 1; have e2 := HD2.out.cell 2; have dz := HD2.out.lt
      simp at e0 e1 e2
      have hDC := hI.len
      clear hall hadj
      cases C with
      | nil =>
        have q1 : decide ((D.length : Int) < (K.len : Int)) = false := decide_eq_false (by simp only [Fst.len] at hDC; omega)
        have q2 : decide (D.length < K.len) = false := decide_eq_false (by simp only [Fst.len] at hDC; omega)
        have HN := hidE (show D = satF W K (o + 1) by have := hI.tot; simpa [satF] using this)
        have HV := hidE (show (adjI (fun e b => decide (e ≤ b)) (satF W K (o + 1)) && allI (satF W K (o + 1))) = true by rw [← HN.out, HALL.out, HADJ.out]; rfl)
        clear hgh hI hbw hDC
        go_wp2
        go_ret
        exact ⟨by rw [HV.out]; rfl, HB3.out⟩
      | cons x Kx N =>
        simp only [Fst.len] at hDC
        have q1 : decide ((D.length : Int) < (K.len : Int)) = true := decide_eq_true (by omega)
        have q2 : decide (D.length < K.len) = true := decide_eq_true (by omega)
        have q3 : D.length < K.len := by omega
        obtain ⟨bk, ok, rfl, hbkz, hkc⟩ := HKC.out (by rw [natsI_len, posF_len]; omega)
        have k0 := (hbw.cell (p := ⟨bk, ok + D.length, none⟩) hbkz).trans (hkc D.length (by rw [natsI_len, posF_len]; exact q3))
        rw [hI.place] at k0
        have kz := Nat.lt_of_lt_of_le hbkz hbw.size
        obtain ⟨deep', ink', hfc⟩ := hI.fit
        have hsk := hI.siz
        simp only [Fst.size] at hsk
        have HC := hidE (fun (w' : World) (h : Below w2.heap.size w2 w') => HIH.out x Kx oo deep' ink' w' (by omega) hI.atf.one ⟨hfc.1, hfc.2.1, hfc.2.2.1, hfc.2.2.2.1, trivial⟩ (HA.out.past (HB2.out.trans (h.mono HB2.out.size))) (HW.out.past (HB2.out.trans (h.mono HB2.out.size))))
        have HEK := hidE (fun (w' : World) (h : Below wr.heap.size wr w') => HEND.out x Kx oo deep' ink' w' (HB3.out.trans (h.mono HB3.out.size)) hI.atf.one ⟨hfc.1, hfc.2.1, hfc.2.2.1, hfc.2.2.2.1, trivial⟩)
        have HIN := hidE hI.next
        have HTT := hidE (show satF W K (o + 1) = D ++ satI W x Kx oo :: satF W N (oo + 1 + Kx.size) by rw [← hI.tot, satF_cons])
        obtain ⟨t, htt⟩ : ∃ t, satI W x Kx oo = t := ⟨_, rfl⟩
        rw [htt] at HC HIN HEK HTT
        clear hgh hI hbw hkc hfc htt
        go_upto_region 10 with fail
        refine wp_region_past_lit (by kernel_rfl) (by kernel_rfl) ?_
        have hcp := Past.cell (W := wr)
        repeat (go_big_quiet_step ((go_at_call 18; exact Past.call _ (HEK.out _ (Past.prop _)))))
        refine wpQuiet_nil ?_
        rintro _ ⟨x', rfl⟩
        replace HD2 := hidE (HD2.out.past x'.2)
        replace HB3 := hidE (HB3.out.trans (x'.2.mono HB3.out.size))
        replace HBW := hidE (HBW.out.trans (x'.2.mono HBW.out.size))
        replace k0 := (x'.2.cell (p := ⟨bk, ok + D.length, none⟩) kz).trans k0
        replace kz := Nat.lt_of_lt_of_le kz x'.2.size
        clear hcp e0 e1 e2 dz HEK
        generalize x'.1 = w6 at *
        have e0 := HD2.out.cell 0; have e1 := HD2.out.cell 1; have e2 := HD2.out.cell 2; have dz := HD2.out.lt
        simp at e0 e1 e2
        obtain ⟨tok, htok⟩ : ∃ b, t.ok = b := ⟨_, rfl⟩
        rw [htok] at HC
        have HTK := hidE htok
        clear htok
        have HLE := hidE (lastE_snoc D t)
        cases tok with
        | false =>
          have HC2 := hidE (fun (w' : World) (h : Below w6.heap.size w6 w') => HC.out w' (HBW.out.trans (h.mono HBW.out.size)))
          go_upto_region 12 with fail
          refine wp_region_past_lit (by kernel_rfl) (by kernel_rfl) ?_
          have hcp := Past.cell (W := w6)
          repeat (go_big_quiet_step ((go_at_call 19; exact Past.call _ (HC2.out _ (Past.prop _)))))
          refine wpQuiet_nil ?_
          rintro _ ⟨x2, rfl⟩
          replace HD2 := hidE (HD2.out.past x2.2)
          replace HB3 := hidE (HB3.out.trans (x2.2.mono HB3.out.size))
          replace HBW := hidE (HBW.out.trans (x2.2.mono HBW.out.size))
          clear hcp e0 e1 e2 dz k0 kz HC2 HC
          generalize x2.1 = w7 at *
          have HV := hidE (show (adjI (fun e b => decide (e ≤ b)) (satF W K (o + 1)) && allI (satF W K (o + 1))) = false by rw [HTT.out]; rw [show allI (D ++ t :: satF W N (oo + 1 + Kx.size)) = false by unfold allI; rw [List.all_append, List.all_cons, HTK.out]; simp]; simp)
          go_wp2
          go_ret
          exact ⟨by rw [HV.out]; rfl, HB3.out⟩
        | true =>
          have HAL2 := hidE (show allI (D ++ [t]) = true by rw [allI_snoc, HALL.out, HTK.out]; rfl)
          by_cases h0 : D.length = 0
          · have hD0 : D = [] := List.eq_nil_of_length_eq_zero h0
            have r3 : decide ((0 : Int) < (D.length : Int)) = false := decide_eq_false (by omega)
            have r4 : decide (0 < D.length) = false := decide_eq_false (by omega)
            have HAD2 := hidE (show adjI (fun e b => decide (e ≤ b)) (D ++ [t]) = true by rw [hD0]; rfl)
            clear h0 hD0
            have HC2 := hidE (fun (w' : World) (h : Below w6.heap.size w6 w') => HC.out w' (HBW.out.trans (h.mono HBW.out.size)))
            go_upto_region 12 with fail
            refine wp_region_past_lit (by kernel_rfl) (by kernel_rfl) ?_
            have hcp := Past.cell (W := w6)
            repeat (go_big_quiet_step ((go_at_call 19; exact Past.call _ (HC2.out _ (Past.prop _)))))
            refine wpQuiet_nil ?_
            rintro _ ⟨x2, rfl⟩
            replace HD2 := hidE (HD2.out.past x2.2)
            replace HB3 := hidE (HB3.out.trans (x2.2.mono HB3.out.size))
            replace HBW := hidE (HBW.out.trans (x2.2.mono HBW.out.size))
            clear hcp e0 e1 e2 dz k0 kz HC2 HC
            generalize x2.1 = w7 at *
            go_wp2
            go_roundg N.len
            case measure => have := HGH.out; simp only [Fst.len] at this; omega
            case rel => exact ⟨D ++ [t], N, _, _, _, _, rfl, rfl, rfl, by simp, by simp, by rw [HLE.out], Nat.le_refl _, HAL2.out, HAD2.out, HIN.out, HBW.out⟩
          · have hD0 : D ≠ [] := fun e => h0 (by rw [e]; rfl)
            have r3 : decide ((0 : Int) < (D.length : Int)) = true := decide_eq_true (by omega)
            have r4 : decide (0 < D.length) = true := decide_eq_true (by omega)
            have HAL := hidE (adj_last (fun e b => decide (e ≤ b)) D t hD0)
            clear h0 hD0
            by_cases hcd : lastE D ≤ seB t.se
            · have r5 : decide (seB t.se < lastE D) = false := decide_eq_false (by omega)
              have HAD2 := hidE (show adjI (fun e b => decide (e ≤ b)) (D ++ [t]) = true by rw [HAL.out, HADJ.out]; simpa using hcd)
              clear hcd
              have HC2 := hidE (fun (w' : World) (h : Below w6.heap.size w6 w') => HC.out w' (HBW.out.trans (h.mono HBW.out.size)))
              go_upto_region 12 with fail
              refine wp_region_past_lit (by kernel_rfl) (by kernel_rfl) ?_
              have hcp := Past.cell (W := w6)
              repeat (go_big_quiet_step ((go_at_call 19; exact Past.call _ (HC2.out _ (Past.prop _)))))
              refine wpQuiet_nil ?_
              rintro _ ⟨x2, rfl⟩
              replace HD2 := hidE (HD2.out.past x2.2)
              replace HB3 := hidE (HB3.out.trans (x2.2.mono HB3.out.size))
              replace HBW := hidE (HBW.out.trans (x2.2.mono HBW.out.size))
              clear hcp e0 e1 e2 dz k0 kz HC2 HC
              generalize x2.1 = w7 at *
              go_wp2
              go_roundg N.len
              case measure => have := HGH.out; simp only [Fst.len] at this; omega
              case rel => exact ⟨D ++ [t], N, _, _, _, _, rfl, rfl, rfl, by simp, by simp, by rw [HLE.out], Nat.le_refl _, HAL2.out, HAD2.out, HIN.out, HBW.out⟩
            · have r5 : decide (seB t.se < lastE D) = true := decide_eq_true (by omega)
              have HAD2 := hidE (show adjI (fun e b => decide (e ≤ b)) (D ++ [t]) = false by rw [HAL.out, HADJ.out]; simpa using hcd)
              clear hcd
              have HC2 := hidE (fun (w' : World) (h : Below w6.heap.size w6 w') => HC.out w' (HBW.out.trans (h.mono HBW.out.size)))
              go_upto_region 12 with fail
              refine wp_region_past_lit (by kernel_rfl) (by kernel_rfl) ?_
              have hcp := Past.cell (W := w6)
              repeat (go_big_quiet_step ((go_at_call 19; exact Past.call _ (HC2.out _ (Past.prop _)))))
              refine wpQuiet_nil ?_
              rintro _ ⟨x2, rfl⟩
              replace HD2 := hidE (HD2.out.past x2.2)
              replace HB3 := hidE (HB3.out.trans (x2.2.mono HB3.out.size))
              replace HBW := hidE (HBW.out.trans (x2.2.mono HBW.out.size))
              clear hcp e0 e1 e2 dz k0 kz HC2 HC
              generalize x2.1 = w7 at *
              have HV := hidE (show (adjI (fun e b => decide (e ≤ b)) (satF W K (o + 1)) && allI (satF W K (o + 1))) = false by rw [HTT.out, show D ++ t :: satF W N (oo + 1 + Kx.size) = (D ++ [t]) ++ satF W N (oo + 1 + Kx.size) by simp, adjI_pre HAD2.out]; rfl)
              go_wp2
              go_ret
              exact ⟨by rw [HV.out]; rfl, HB3.out⟩
end Go.Proofs.Ytlhokgcamcaonaa

namespace Go.Proofs.Ytlhokgcamcaonaa
open Go.ChangeShapes Go.WideShapes Go.ChangeAt Go.RowKit
attribute [local irreducible] Go.Calls

set_option maxHeartbeats 8000000 in
set_option maxRecDepth 100000 in
theorem rterm_2 (fr to' : Int) (l : List Prt) (W : List Pc) (a wa : Option Addr) (cap wcap : Nat) (hl : l.length ≤ 64) (ht : (treeS l).2 = 0) (hWl : W.length ≤ 9223372036854775807) (hPc : PcOk W) (hAt : Atoms l W) (y : Prt) (K : Fst) (o deep ink : Nat) (w : World) (hat : AtF l o (.cons y K .nil)) (hfit : (Fst.cons y K .nil).fit deep ink) (hA : ArgP w a l) (hW : ArgVs w wa W) (hk : y.kind = 2) (hs : (satI W y K o).se ≠ none)
    (IH : ∀ (x : Prt) (Kx : Fst) (oo deep ink : Nat) (w : World), Kx.size < K.size → AtF l oo (.cons x Kx .nil) → (Fst.cons x Kx .nil).fit deep ink → ArgP w a l → ArgVs w wa W → Calls Try.prog 19 #[def8 fr to' a l.length cap, .slice wa W.length wcap, .int .i64 oo] w fun e w' => e = .returned (.bool (satI W x Kx oo).ok) ∧ Below w.heap.size w w') :
    Calls Try.prog 19 #[def8 fr to' a l.length cap, .slice wa W.length wcap, .int .i64 o] w fun e w' => e = .returned (.bool (satI W y K o).ok) ∧ Below w.heap.size w w' := by
  have hol := hat.lt
  have hkz := tree_kids ht hol
  have HEND := hidE (fun (x : Prt) (Kx : Fst) (oo deep ink : Nat) (w' : World) (h : Below w.heap.size w w') (hax : AtF l oo (.cons x Kx .nil)) (hfx : (Fst.cons x Kx .nil).fit deep ink) => by
    have := rends_c fr to' l W a wa cap wcap oo w' (by omega) hax.lt hWl (hA.past h) (hW.past h) hPc (dOk_tree ht)
    rw [se_ends hAt hax hfx] at this
    exact this)
  have HEN := hidE (fun (w' : World) (h : Below w.heap.size w w') => HEND.out y K o deep ink w' h hat hfit)
  have HKI := hidE (fun (w' : World) (h : Below w.heap.size w w') => rkids_c l o a cap w' (by omega) hol (by omega) (hA.past h))
  rw [kidsS_pos hat] at HKI
  obtain ⟨b, off, rfl, hbb, hc⟩ := hA (by omega)
  have hg0 : l.getD o pr0 = { y with kids := (K.len : Int) } := by rw [List.getD_eq_getElem?_getD, hat.head]; rfl
  have p0 := (hc.get hol).1
  rw [hg0] at p0
  simp only at p0
  have hoz : (o : Int) < (l.length : Int) := by omega
  have hsz := at_size hat
  have hp16 : K.len ≤ 16 := fitT_len (t := (y, K)) (deep := deep) (ink := ink) ⟨hfit.1, hfit.2.1, hfit.2.2.1, hfit.2.2.2.1⟩
  have HA := hidE hA; have HW := hidE hW; have HI0 := hidE (ShI.start (W := W) hat hfit); have HIH := hidE IH
  have HF := hidE (show (satI W y K o).ok = (adjI (fun e b => decide (e = b)) (satF W K (o + 1)) && allI (satF W K (o + 1))) by
    unfold satI mkI okI
    simp only [hk]
    rfl)
  rw [HF.out]
  obtain ⟨se, hse⟩ : ∃ se, (satI W y K o).se = se := ⟨_, rfl⟩
  rw [hse] at HEN hs
  rw [hk] at p0
  clear hat hfit hA hW hc hg0 ht hkz hk hse HF hPc hAt
  cases se with
  | none => exact absurd rfl hs
  | some q =>
    have HEN2 := hidE (fun (w' : World) (h : Below w.heap.size w w') => (show Calls Try.prog 18 #[def8 fr to' (some ⟨b, off, none⟩) l.length cap, .slice wa W.length wcap, .int .i64 o] w' fun e w'' => e = .returned (.tuple #[.int .i64 q.1, .int .i64 q.2, .bool true]) ∧ Below w'.heap.size w' w'' from HEN.out w' h))
    clear hs HEN
    go_enter Try.func19, Try.ntmps19
    go_wp2_with fail
    ((with_reducible refine (HEN2.out _ (by (repeat (first | exact Below.refl _ _ | assumption | refine balloc ?_ _ | refine below_drewN ?_ _ | refine bstep (by assumption) ?_ | refine bstep (Past.prop _) ?_ | refine Below.setCell ?_ (by first | exact Nat.le_refl _ | (simp; done) | (simp; omega)) _)))).mono ?_); rintro e w1 ⟨rfl, hb1⟩)
    have hb := (show Below w.heap.size w (w.alloc (.cells #[.int .i64 fr, .int .i64 to', .slice (some ⟨b, off, none⟩) l.length cap] 24)) from by (repeat (first | exact Below.refl _ _ | assumption | refine balloc ?_ _ | refine below_drewN ?_ _ | refine bstep (by assumption) ?_ | refine bstep (Past.prop _) ?_ | refine Below.setCell ?_ (by first | exact Nat.le_refl _ | (simp; done) | (simp; omega)) _))).trans (hb1.mono (by simp))
    have hd := (Blk.made w #[.int .i64 fr, .int .i64 to', .slice (some ⟨b, off, none⟩) l.length cap] 24).past hb1
    have e2 := hd.cell 2; have dz := hd.lt
    simp at e2
    have HB := hidE hb; have HD := hidE hd
    clear hb1 hb hd HEN2 p0
    go_wp2_with fail
    ((with_reducible refine (HKI.out _ HB.out).mono ?_); rintro e w2 ⟨vk, rfl, hsn, hb2⟩)
    obtain ⟨ak, ck, rfl, hk1, hk2, hKc⟩ := hsn
    rw [posF_len] at hk1 ⊢
    have HB2 := hidE (HB.out.trans (hb2.mono HB.out.size)); have HDD := hidE (HD.out.past hb2); have HKC := hidE hKc
    clear hb2 HKI hKc e2 dz HD HB
    go_wp2
    go_loopg [12, 13, 14, 15, 16, 17] K.len (fun gh v12 v13 v14 v15 v16 v17 wr => ∃ (D : List TI) (C : Fst) (oo : Nat) (z15 z16 z17 : Value), v15 = z15 ∧ v16 = z16 ∧ v17 = z17 ∧ v14 = .int .i64 D.length ∧ v13 = .int .i64 D.length ∧ v12 = .int .i64 (lastE D) ∧ C.len ≤ gh ∧ allI D = true ∧ adjI (fun e b => decide (e = b)) D = true ∧ ShI l W y K o D C oo ∧ Below w2.heap.size w2 wr)
    case atStart => exact ⟨[], K, o + 1, undef, undef, undef, rfl, rfl, rfl, rfl, rfl, rfl, Nat.le_refl _, rfl, rfl, HI0.out, Below.refl _ _⟩
    case round =>
      clear HI0
      obtain ⟨D, C, oo, v15, v16, v17, rfl, rfl, rfl, rfl, rfl, rfl, hgh, hall, hadj, hI, hbw⟩ := hrel
      have HGH := hidE hgh; have HI := hidE hI; have HBW := hidE hbw; have HALL := hidE hall; have HADJ := hidE hadj
      have HB3 := hidE (HB2.out.trans (hbw.mono HB2.out.size))
      have HD2 := hidE (HDD.out.past hbw)
      have e0 := HD2.out.cell 0; have e1 := HD2.out.cell 1; have e2 := HD2.out.cell 2; have dz := HD2.out.lt
      simp at e0 e1 e2
      have hDC := hI.len
      clear hall hadj
      cases C with
      | nil =>
        have q1 : decide ((D.length : Int) < (K.len : Int)) = false := decide_eq_false (by simp only [Fst.len] at hDC; omega)
        have q2 : decide (D.length < K.len) = false := decide_eq_false (by simp only [Fst.len] at hDC; omega)
        have HN := hidE (show D = satF W K (o + 1) by have := hI.tot; simpa [satF] using this)
        have HV := hidE (show (adjI (fun e b => decide (e = b)) (satF W K (o + 1)) && allI (satF W K (o + 1))) = true by rw [← HN.out, HALL.out, HADJ.out]; rfl)
        clear hgh hI hbw hDC
        go_wp2
        go_ret
        exact ⟨by rw [HV.out]; rfl, HB3.out⟩
      | cons x Kx N =>
        simp only [Fst.len] at hDC
        have q1 : decide ((D.length : Int) < (K.len : Int)) = true := decide_eq_true (by omega)
        have q2 : decide (D.length < K.len) = true := decide_eq_true (by omega)
        have q3 : D.length < K.len := by omega
        obtain ⟨bk, ok, rfl, hbkz, hkc⟩ := HKC.out (by rw [natsI_len, posF_len]; omega)
        have k0 := (hbw.cell (p := ⟨bk, ok + D.length, none⟩) hbkz).trans (hkc D.length (by rw [natsI_len, posF_len]; exact q3))
        rw [hI.place] at k0
        have kz := Nat.lt_of_lt_of_le hbkz hbw.size
        obtain ⟨deep', ink', hfc⟩ := hI.fit
        have hsk := hI.siz
        simp only [Fst.size] at hsk
        have HC := hidE (fun (w' : World) (h : Below w2.heap.size w2 w') => HIH.out x Kx oo deep' ink' w' (by omega) hI.atf.one ⟨hfc.1, hfc.2.1, hfc.2.2.1, hfc.2.2.2.1, trivial⟩ (HA.out.past (HB2.out.trans (h.mono HB2.out.size))) (HW.out.past (HB2.out.trans (h.mono HB2.out.size))))
        have HEK := hidE (fun (w' : World) (h : Below wr.heap.size wr w') => HEND.out x Kx oo deep' ink' w' (HB3.out.trans (h.mono HB3.out.size)) hI.atf.one ⟨hfc.1, hfc.2.1, hfc.2.2.1, hfc.2.2.2.1, trivial⟩)
        have HIN := hidE hI.next
        have HTT := hidE (show satF W K (o + 1) = D ++ satI W x Kx oo :: satF W N (oo + 1 + Kx.size) by rw [← hI.tot, satF_cons])
        obtain ⟨t, htt⟩ : ∃ t, satI W x Kx oo = t := ⟨_, rfl⟩
        rw [htt] at HC HIN HEK HTT
        clear hgh hI hbw hkc hfc htt
        go_upto_region 10 with fail
        refine wp_region_past_lit (by kernel_rfl) (by kernel_rfl) ?_
        have hcp := Past.cell (W := wr)
        repeat (go_big_quiet_step ((go_at_call 18; exact Past.call _ (HEK.out _ (Past.prop _)))))
        refine wpQuiet_nil ?_
        rintro _ ⟨x', rfl⟩
        replace HD2 := hidE (HD2.out.past x'.2)
        replace HB3 := hidE (HB3.out.trans (x'.2.mono HB3.out.size))
        replace HBW := hidE (HBW.out.trans (x'.2.mono HBW.out.size))
        replace k0 := (x'.2.cell (p := ⟨bk, ok + D.length, none⟩) kz).trans k0
        replace kz := Nat.lt_of_lt_of_le kz x'.2.size
        clear hcp e0 e1 e2 dz HEK
        generalize x'.1 = w6 at *
        have e0 := HD2.out.cell 0; have e1 := HD2.out.cell 1; have e2 := HD2.out.cell 2; have dz := HD2.out.lt
        simp at e0 e1 e2
        obtain ⟨tok, htok⟩ : ∃ b, t.ok = b := ⟨_, rfl⟩
        rw [htok] at HC
        have HTK := hidE htok
        clear htok
        have HLE := hidE (lastE_snoc D t)
        cases tok with
        | false =>
          have HC2 := hidE (fun (w' : World) (h : Below w6.heap.size w6 w') => HC.out w' (HBW.out.trans (h.mono HBW.out.size)))
          go_upto_region 12 with fail
          refine wp_region_past_lit (by kernel_rfl) (by kernel_rfl) ?_
          have hcp := Past.cell (W := w6)
          repeat (go_big_quiet_step ((go_at_call 19; exact Past.call _ (HC2.out _ (Past.prop _)))))
          refine wpQuiet_nil ?_
          rintro _ ⟨x2, rfl⟩
          replace HD2 := hidE (HD2.out.past x2.2)
          replace HB3 := hidE (HB3.out.trans (x2.2.mono HB3.out.size))
          replace HBW := hidE (HBW.out.trans (x2.2.mono HBW.out.size))
          clear hcp e0 e1 e2 dz k0 kz HC2 HC
          generalize x2.1 = w7 at *
          have HV := hidE (show (adjI (fun e b => decide (e = b)) (satF W K (o + 1)) && allI (satF W K (o + 1))) = false by rw [HTT.out]; rw [show allI (D ++ t :: satF W N (oo + 1 + Kx.size)) = false by unfold allI; rw [List.all_append, List.all_cons, HTK.out]; simp]; simp)
          go_wp2
          go_ret
          exact ⟨by rw [HV.out]; rfl, HB3.out⟩
        | true =>
          have HAL2 := hidE (show allI (D ++ [t]) = true by rw [allI_snoc, HALL.out, HTK.out]; rfl)
          by_cases h0 : D.length = 0
          · have hD0 : D = [] := List.eq_nil_of_length_eq_zero h0
            have r3 : decide ((0 : Int) < (D.length : Int)) = false := decide_eq_false (by omega)
            have r4 : decide (0 < D.length) = false := decide_eq_false (by omega)
            have HAD2 := hidE (show adjI (fun e b => decide (e = b)) (D ++ [t]) = true by rw [hD0]; rfl)
            clear h0 hD0
            have HC2 := hidE (fun (w' : World) (h : Below w6.heap.size w6 w') => HC.out w' (HBW.out.trans (h.mono HBW.out.size)))
            go_upto_region 12 with fail
            refine wp_region_past_lit (by kernel_rfl) (by kernel_rfl) ?_
            have hcp := Past.cell (W := w6)
            repeat (go_big_quiet_step ((go_at_call 19; exact Past.call _ (HC2.out _ (Past.prop _)))))
            refine wpQuiet_nil ?_
            rintro _ ⟨x2, rfl⟩
            replace HD2 := hidE (HD2.out.past x2.2)
            replace HB3 := hidE (HB3.out.trans (x2.2.mono HB3.out.size))
            replace HBW := hidE (HBW.out.trans (x2.2.mono HBW.out.size))
            clear hcp e0 e1 e2 dz k0 kz HC2 HC
            generalize x2.1 = w7 at *
            go_wp2
            go_roundg N.len
            case measure => have := HGH.out; simp only [Fst.len] at this; omega
            case rel => exact ⟨D ++ [t], N, _, _, _, _, rfl, rfl, rfl, by simp, by simp, by rw [HLE.out], Nat.le_refl _, HAL2.out, HAD2.out, HIN.out, HBW.out⟩
          · have hD0 : D ≠ [] := fun e => h0 (by rw [e]; rfl)
            have r3 : decide ((0 : Int) < (D.length : Int)) = true := decide_eq_true (by omega)
            have r4 : decide (0 < D.length) = true := decide_eq_true (by omega)
            have HAL := hidE (adj_last (fun e b => decide (e = b)) D t hD0)
            clear h0 hD0
            by_cases hcd : lastE D = seB t.se
            · have r5 : (lastE D != seB t.se) = false := by simpa using hcd
              have HAD2 := hidE (show adjI (fun e b => decide (e = b)) (D ++ [t]) = true by rw [HAL.out, HADJ.out]; simpa using hcd)
              clear hcd
              have HC2 := hidE (fun (w' : World) (h : Below w6.heap.size w6 w') => HC.out w' (HBW.out.trans (h.mono HBW.out.size)))
              go_upto_region 12 with fail
              refine wp_region_past_lit (by kernel_rfl) (by kernel_rfl) ?_
              have hcp := Past.cell (W := w6)
              repeat (go_big_quiet_step ((go_at_call 19; exact Past.call _ (HC2.out _ (Past.prop _)))))
              refine wpQuiet_nil ?_
              rintro _ ⟨x2, rfl⟩
              replace HD2 := hidE (HD2.out.past x2.2)
              replace HB3 := hidE (HB3.out.trans (x2.2.mono HB3.out.size))
              replace HBW := hidE (HBW.out.trans (x2.2.mono HBW.out.size))
              clear hcp e0 e1 e2 dz k0 kz HC2 HC
              generalize x2.1 = w7 at *
              go_wp2
              go_roundg N.len
              case measure => have := HGH.out; simp only [Fst.len] at this; omega
              case rel => exact ⟨D ++ [t], N, _, _, _, _, rfl, rfl, rfl, by simp, by simp, by rw [HLE.out], Nat.le_refl _, HAL2.out, HAD2.out, HIN.out, HBW.out⟩
            · have r5 : (lastE D != seB t.se) = true := by simpa using hcd
              have HAD2 := hidE (show adjI (fun e b => decide (e = b)) (D ++ [t]) = false by rw [HAL.out, HADJ.out]; simpa using hcd)
              clear hcd
              have HC2 := hidE (fun (w' : World) (h : Below w6.heap.size w6 w') => HC.out w' (HBW.out.trans (h.mono HBW.out.size)))
              go_upto_region 12 with fail
              refine wp_region_past_lit (by kernel_rfl) (by kernel_rfl) ?_
              have hcp := Past.cell (W := w6)
              repeat (go_big_quiet_step ((go_at_call 19; exact Past.call _ (HC2.out _ (Past.prop _)))))
              refine wpQuiet_nil ?_
              rintro _ ⟨x2, rfl⟩
              replace HD2 := hidE (HD2.out.past x2.2)
              replace HB3 := hidE (HB3.out.trans (x2.2.mono HB3.out.size))
              replace HBW := hidE (HBW.out.trans (x2.2.mono HBW.out.size))
              clear hcp e0 e1 e2 dz k0 kz HC2 HC
              generalize x2.1 = w7 at *
              have HV := hidE (show (adjI (fun e b => decide (e = b)) (satF W K (o + 1)) && allI (satF W K (o + 1))) = false by rw [HTT.out, show D ++ t :: satF W N (oo + 1 + Kx.size) = (D ++ [t]) ++ satF W N (oo + 1 + Kx.size) by simp, adjI_pre HAD2.out]; rfl)
              go_wp2
              go_ret
              exact ⟨by rw [HV.out]; rfl, HB3.out⟩
end Go.Proofs.Ytlhokgcamcaonaa

namespace Go.Proofs.Ytlhokgcamcaonaa
open Go.ChangeShapes Go.WideShapes Go.ChangeAt Go.RowKit
attribute [local irreducible] Go.Calls

set_option maxHeartbeats 8000000 in
set_option maxRecDepth 100000 in
theorem rterm_3 (fr to' : Int) (l : List Prt) (W : List Pc) (a wa : Option Addr) (cap wcap : Nat) (hl : l.length ≤ 64) (ht : (treeS l).2 = 0) (hWl : W.length ≤ 9223372036854775807) (hPc : PcOk W) (hAt : Atoms l W) (y : Prt) (K : Fst) (o deep ink : Nat) (w : World) (hat : AtF l o (.cons y K .nil)) (hfit : (Fst.cons y K .nil).fit deep ink) (hA : ArgP w a l) (hW : ArgVs w wa W) (hk : y.kind = 3) (hs : (satI W y K o).se ≠ none)
    (IH : ∀ (x : Prt) (Kx : Fst) (oo deep ink : Nat) (w : World), Kx.size < K.size → AtF l oo (.cons x Kx .nil) → (Fst.cons x Kx .nil).fit deep ink → ArgP w a l → ArgVs w wa W → Calls Try.prog 19 #[def8 fr to' a l.length cap, .slice wa W.length wcap, .int .i64 oo] w fun e w' => e = .returned (.bool (satI W x Kx oo).ok) ∧ Below w.heap.size w w') :
    Calls Try.prog 19 #[def8 fr to' a l.length cap, .slice wa W.length wcap, .int .i64 o] w fun e w' => e = .returned (.bool (satI W y K o).ok) ∧ Below w.heap.size w w' := by
  have hol := hat.lt
  have hkz := tree_kids ht hol
  have HEND := hidE (fun (x : Prt) (Kx : Fst) (oo deep ink : Nat) (w' : World) (h : Below w.heap.size w w') (hax : AtF l oo (.cons x Kx .nil)) (hfx : (Fst.cons x Kx .nil).fit deep ink) => by
    have := rends_c fr to' l W a wa cap wcap oo w' (by omega) hax.lt hWl (hA.past h) (hW.past h) hPc (dOk_tree ht)
    rw [se_ends hAt hax hfx] at this
    exact this)
  have HEN := hidE (fun (w' : World) (h : Below w.heap.size w w') => HEND.out y K o deep ink w' h hat hfit)
  have HKI := hidE (fun (w' : World) (h : Below w.heap.size w w') => rkids_c l o a cap w' (by omega) hol (by omega) (hA.past h))
  rw [kidsS_pos hat] at HKI
  obtain ⟨b, off, rfl, hbb, hc⟩ := hA (by omega)
  have hg0 : l.getD o pr0 = { y with kids := (K.len : Int) } := by rw [List.getD_eq_getElem?_getD, hat.head]; rfl
  have p0 := (hc.get hol).1
  rw [hg0] at p0
  simp only at p0
  have hoz : (o : Int) < (l.length : Int) := by omega
  have hsz := at_size hat
  have hp16 : K.len ≤ 16 := fitT_len (t := (y, K)) (deep := deep) (ink := ink) ⟨hfit.1, hfit.2.1, hfit.2.2.1, hfit.2.2.2.1⟩
  have HA := hidE hA; have HW := hidE hW; have HI0 := hidE (ShI.start (W := W) hat hfit); have HIH := hidE IH
  have HF := hidE (show (satI W y K o).ok = (anyI (satF W K (o + 1))) by
    unfold satI mkI okI
    simp only [hk]
    rfl)
  rw [HF.out]
  obtain ⟨se, hse⟩ : ∃ se, (satI W y K o).se = se := ⟨_, rfl⟩
  rw [hse] at HEN hs
  rw [hk] at p0
  clear hat hfit hA hW hc hg0 ht hkz hk hse HF hPc hAt
  cases se with
  | none => exact absurd rfl hs
  | some q =>
    have HEN2 := hidE (fun (w' : World) (h : Below w.heap.size w w') => (show Calls Try.prog 18 #[def8 fr to' (some ⟨b, off, none⟩) l.length cap, .slice wa W.length wcap, .int .i64 o] w' fun e w'' => e = .returned (.tuple #[.int .i64 q.1, .int .i64 q.2, .bool true]) ∧ Below w'.heap.size w' w'' from HEN.out w' h))
    clear hs HEN
    go_enter Try.func19, Try.ntmps19
    go_wp2_with fail
    ((with_reducible refine (HEN2.out _ (by (repeat (first | exact Below.refl _ _ | assumption | refine balloc ?_ _ | refine below_drewN ?_ _ | refine bstep (by assumption) ?_ | refine bstep (Past.prop _) ?_ | refine Below.setCell ?_ (by first | exact Nat.le_refl _ | (simp; done) | (simp; omega)) _)))).mono ?_); rintro e w1 ⟨rfl, hb1⟩)
    have hb := (show Below w.heap.size w (w.alloc (.cells #[.int .i64 fr, .int .i64 to', .slice (some ⟨b, off, none⟩) l.length cap] 24)) from by (repeat (first | exact Below.refl _ _ | assumption | refine balloc ?_ _ | refine below_drewN ?_ _ | refine bstep (by assumption) ?_ | refine bstep (Past.prop _) ?_ | refine Below.setCell ?_ (by first | exact Nat.le_refl _ | (simp; done) | (simp; omega)) _))).trans (hb1.mono (by simp))
    have hd := (Blk.made w #[.int .i64 fr, .int .i64 to', .slice (some ⟨b, off, none⟩) l.length cap] 24).past hb1
    have e2 := hd.cell 2; have dz := hd.lt
    simp at e2
    have HB := hidE hb; have HD := hidE hd
    clear hb1 hb hd HEN2 p0
    go_wp2_with fail
    ((with_reducible refine (HKI.out _ HB.out).mono ?_); rintro e w2 ⟨vk, rfl, hsn, hb2⟩)
    obtain ⟨ak, ck, rfl, hk1, hk2, hKc⟩ := hsn
    rw [posF_len] at hk1 ⊢
    have HB2 := hidE (HB.out.trans (hb2.mono HB.out.size)); have HDD := hidE (HD.out.past hb2); have HKC := hidE hKc
    clear hb2 HKI hKc e2 dz HD HB
    go_wp2
    go_loopg [12, 13, 14, 15, 16, 17] K.len (fun gh v12 v13 v14 v15 v16 v17 wr => ∃ (D : List TI) (C : Fst) (oo : Nat) (z : Int) (z15 z16 z17 : Value), v15 = z15 ∧ v16 = z16 ∧ v17 = z17 ∧ v14 = .int .i64 D.length ∧ v13 = .int .i64 (plI D).length ∧ v12 = .int .i64 z ∧ C.len ≤ gh ∧ (∀ k ∈ D, k.se.isSome = true → k.ok = true) ∧ ShI l W y K o D C oo ∧ Below w2.heap.size w2 wr)
    case atStart => exact ⟨[], K, o + 1, 0, undef, undef, undef, rfl, rfl, rfl, rfl, rfl, rfl, Nat.le_refl _, (fun k hk => by cases hk), HI0.out, Below.refl _ _⟩
    case round =>
      clear HI0
      obtain ⟨D, C, oo, z, v15, v16, v17, rfl, rfl, rfl, rfl, rfl, rfl, hgh, hok, hI, hbw⟩ := hrel
      have HGH := hidE hgh; have HI := hidE hI; have HBW := hidE hbw; have HOK := hidE hok
      have HB3 := hidE (HB2.out.trans (hbw.mono HB2.out.size))
      have HD2 := hidE (HDD.out.past hbw)
      have e0 := HD2.out.cell 0; have e1 := HD2.out.cell 1; have e2 := HD2.out.cell 2; have dz := HD2.out.lt
      simp at e0 e1 e2
      have hDC := hI.len
      clear hok
      cases C with
      | nil =>
        have q1 : decide ((D.length : Int) < (K.len : Int)) = false := decide_eq_false (by simp only [Fst.len] at hDC; omega)
        have q2 : decide (D.length < K.len) = false := decide_eq_false (by simp only [Fst.len] at hDC; omega)
        have HN := hidE (show D = satF W K (o + 1) by have := hI.tot; simpa [satF] using this)
        have HV := hidE (show anyI (satF W K (o + 1)) = ((plI D).length == 1) by rw [← HN.out]; exact any_fin HOK.out)
        obtain ⟨n1, hn1⟩ : ∃ n1, (plI D).length = n1 := ⟨_, rfl⟩
        rw [hn1] at HV ⊢
        clear hgh hI hbw hDC hn1
        have hcs : n1 = 1 ∨ n1 ≠ 1 := by omega
        rcases hcs with rfl | hne
        · go_wp2
          go_ret
          exact ⟨by rw [HV.out]; rfl, HB3.out⟩
        · have r1 : ((n1 : Int) == 1) = false := by simp; omega
          have r2 : (n1 == 1) = false := by simp; omega
          clear hne
          go_wp2
          go_ret
          exact ⟨by rw [HV.out, r2]; rfl, HB3.out⟩
      | cons x Kx N =>
        simp only [Fst.len] at hDC
        have q1 : decide ((D.length : Int) < (K.len : Int)) = true := decide_eq_true (by omega)
        have q2 : decide (D.length < K.len) = true := decide_eq_true (by omega)
        have q3 : D.length < K.len := by omega
        obtain ⟨bk, ok, rfl, hbkz, hkc⟩ := HKC.out (by rw [natsI_len, posF_len]; omega)
        have k0 := (hbw.cell (p := ⟨bk, ok + D.length, none⟩) hbkz).trans (hkc D.length (by rw [natsI_len, posF_len]; exact q3))
        rw [hI.place] at k0
        have kz := Nat.lt_of_lt_of_le hbkz hbw.size
        obtain ⟨deep', ink', hfc⟩ := hI.fit
        have hsk := hI.siz
        simp only [Fst.size] at hsk
        have HC := hidE (fun (w' : World) (h : Below w2.heap.size w2 w') => HIH.out x Kx oo deep' ink' w' (by omega) hI.atf.one ⟨hfc.1, hfc.2.1, hfc.2.2.1, hfc.2.2.2.1, trivial⟩ (HA.out.past (HB2.out.trans (h.mono HB2.out.size))) (HW.out.past (HB2.out.trans (h.mono HB2.out.size))))
        have HEK := hidE (fun (w' : World) (h : Below wr.heap.size wr w') => HEND.out x Kx oo deep' ink' w' (HB3.out.trans (h.mono HB3.out.size)) hI.atf.one ⟨hfc.1, hfc.2.1, hfc.2.2.1, hfc.2.2.2.1, trivial⟩)
        have HIN := hidE hI.next
        have HTT := hidE (show satF W K (o + 1) = D ++ satI W x Kx oo :: satF W N (oo + 1 + Kx.size) by rw [← hI.tot, satF_cons])
        obtain ⟨t, htt⟩ : ∃ t, satI W x Kx oo = t := ⟨_, rfl⟩
        rw [htt] at HC HIN HEK HTT
        clear hgh hI hbw hkc hfc htt
        go_upto_region 10 with fail
        refine wp_region_past_lit (by kernel_rfl) (by kernel_rfl) ?_
        have hcp := Past.cell (W := wr)
        repeat (go_big_quiet_step ((go_at_call 18; exact Past.call _ (HEK.out _ (Past.prop _)))))
        refine wpQuiet_nil ?_
        rintro _ ⟨x', rfl⟩
        replace HD2 := hidE (HD2.out.past x'.2)
        replace HB3 := hidE (HB3.out.trans (x'.2.mono HB3.out.size))
        replace HBW := hidE (HBW.out.trans (x'.2.mono HBW.out.size))
        replace k0 := (x'.2.cell (p := ⟨bk, ok + D.length, none⟩) kz).trans k0
        replace kz := Nat.lt_of_lt_of_le kz x'.2.size
        clear hcp e0 e1 e2 dz HEK
        generalize x'.1 = w6 at *
        have e0 := HD2.out.cell 0; have e1 := HD2.out.cell 1; have e2 := HD2.out.cell 2; have dz := HD2.out.lt
        simp at e0 e1 e2
        obtain ⟨hs, hhs⟩ : ∃ b, t.se.isSome = b := ⟨_, rfl⟩
        rw [hhs]
        have HHS := hidE hhs
        clear hhs
        cases hs with
        | false =>
          have HPL := hidE (show plI (D ++ [t]) = plI D by unfold plI; rw [List.filter_append, List.filter_cons, if_neg (by rw [HHS.out]; simp)]; simp)
          have HOK2 := hidE (show ∀ k ∈ D ++ [t], k.se.isSome = true → k.ok = true from fun k hk h => by
            rcases List.mem_append.1 hk with hk | hk
            · exact HOK.out k hk h
            · obtain rfl : k = t := by simpa using hk
              rw [HHS.out] at h; cases h)
          go_wp2
          go_roundg N.len
          case measure => have := HGH.out; simp only [Fst.len] at this; omega
          case rel => exact ⟨D ++ [t], N, _, _, _, _, _, rfl, rfl, rfl, by simp, by rw [HPL.out], rfl, Nat.le_refl _, HOK2.out, HIN.out, HBW.out⟩
        | true =>
          obtain ⟨tok, htok⟩ : ∃ b, t.ok = b := ⟨_, rfl⟩
          rw [htok] at HC
          have HTK := hidE htok
          clear htok
          cases tok with
          | false =>
            have HC2 := hidE (fun (w' : World) (h : Below w6.heap.size w6 w') => HC.out w' (HBW.out.trans (h.mono HBW.out.size)))
            go_upto_region 12 with fail
            refine wp_region_past_lit (by kernel_rfl) (by kernel_rfl) ?_
            have hcp := Past.cell (W := w6)
            repeat (go_big_quiet_step ((go_at_call 19; exact Past.call _ (HC2.out _ (Past.prop _)))))
            refine wpQuiet_nil ?_
            rintro _ ⟨x2, rfl⟩
            replace HD2 := hidE (HD2.out.past x2.2)
            replace HB3 := hidE (HB3.out.trans (x2.2.mono HB3.out.size))
            replace HBW := hidE (HBW.out.trans (x2.2.mono HBW.out.size))
            clear hcp e0 e1 e2 dz k0 kz HC2 HC
            generalize x2.1 = w7 at *
            have HV := hidE (show (anyI (satF W K (o + 1))) = false by rw [HTT.out]; exact any_bad HHS.out HTK.out)
            go_wp2
            go_ret
            exact ⟨by rw [HV.out]; rfl, HB3.out⟩
          | true =>
            have HPL := hidE (show (plI (D ++ [t])).length = (plI D).length + 1 by unfold plI; rw [List.filter_append, List.filter_cons, if_pos HHS.out]; simp)
            have hpl : (plI D).length ≤ D.length := List.length_filter_le _ _
            have HOK2 := hidE (show ∀ k ∈ D ++ [t], k.se.isSome = true → k.ok = true from fun k hk h => by
              rcases List.mem_append.1 hk with hk | hk
              · exact HOK.out k hk h
              · obtain rfl : k = t := by simpa using hk
                exact HTK.out)
            obtain ⟨n1, hn1⟩ : ∃ n1, (plI D).length = n1 := ⟨_, rfl⟩
            rw [hn1] at HPL hpl ⊢
            clear hn1
            have HC2 := hidE (fun (w' : World) (h : Below w6.heap.size w6 w') => HC.out w' (HBW.out.trans (h.mono HBW.out.size)))
            go_upto_region 12 with fail
            refine wp_region_past_lit (by kernel_rfl) (by kernel_rfl) ?_
            have hcp := Past.cell (W := w6)
            repeat (go_big_quiet_step ((go_at_call 19; exact Past.call _ (HC2.out _ (Past.prop _)))))
            refine wpQuiet_nil ?_
            rintro _ ⟨x2, rfl⟩
            replace HD2 := hidE (HD2.out.past x2.2)
            replace HB3 := hidE (HB3.out.trans (x2.2.mono HB3.out.size))
            replace HBW := hidE (HBW.out.trans (x2.2.mono HBW.out.size))
            clear hcp e0 e1 e2 dz k0 kz HC2 HC
            generalize x2.1 = w7 at *
            go_wp2
            go_roundg N.len
            case measure => have := HGH.out; simp only [Fst.len] at this; omega
            case rel => exact ⟨D ++ [t], N, _, _, _, _, _, rfl, rfl, rfl, by simp, by rw [HPL.out]; go_num, rfl, Nat.le_refl _, HOK2.out, HIN.out, HBW.out⟩
end Go.Proofs.Ytlhokgcamcaonaa

namespace Go.Proofs.Ytlhokgcamcaonaa
open Go.ChangeShapes Go.WideShapes Go.ChangeAt Go.RowKit
attribute [local irreducible] Go.Calls

set_option maxHeartbeats 8000000 in
set_option maxRecDepth 100000 in
theorem rterm_4 (fr to' : Int) (l : List Prt) (W : List Pc) (a wa : Option Addr) (cap wcap : Nat) (hl : l.length ≤ 64) (ht : (treeS l).2 = 0) (hWl : W.length ≤ 9223372036854775807) (hPc : PcOk W) (hAt : Atoms l W) (y : Prt) (K : Fst) (o deep ink : Nat) (w : World) (hat : AtF l o (.cons y K .nil)) (hfit : (Fst.cons y K .nil).fit deep ink) (hA : ArgP w a l) (hW : ArgVs w wa W) (hk : y.kind = 4) (hs : (satI W y K o).se ≠ none)
    (IH : ∀ (x : Prt) (Kx : Fst) (oo deep ink : Nat) (w : World), Kx.size < K.size → AtF l oo (.cons x Kx .nil) → (Fst.cons x Kx .nil).fit deep ink → ArgP w a l → ArgVs w wa W → Calls Try.prog 19 #[def8 fr to' a l.length cap, .slice wa W.length wcap, .int .i64 oo] w fun e w' => e = .returned (.bool (satI W x Kx oo).ok) ∧ Below w.heap.size w w') :
    Calls Try.prog 19 #[def8 fr to' a l.length cap, .slice wa W.length wcap, .int .i64 o] w fun e w' => e = .returned (.bool (satI W y K o).ok) ∧ Below w.heap.size w w' := by
  have hol := hat.lt
  have hkz := tree_kids ht hol
  have HEND := hidE (fun (x : Prt) (Kx : Fst) (oo deep ink : Nat) (w' : World) (h : Below w.heap.size w w') (hax : AtF l oo (.cons x Kx .nil)) (hfx : (Fst.cons x Kx .nil).fit deep ink) => by
    have := rends_c fr to' l W a wa cap wcap oo w' (by omega) hax.lt hWl (hA.past h) (hW.past h) hPc (dOk_tree ht)
    rw [se_ends hAt hax hfx] at this
    exact this)
  have HEN := hidE (fun (w' : World) (h : Below w.heap.size w w') => HEND.out y K o deep ink w' h hat hfit)
  have HKI := hidE (fun (w' : World) (h : Below w.heap.size w w') => rkids_c l o a cap w' (by omega) hol (by omega) (hA.past h))
  rw [kidsS_pos hat] at HKI
  obtain ⟨b, off, rfl, hbb, hc⟩ := hA (by omega)
  have hg0 : l.getD o pr0 = { y with kids := (K.len : Int) } := by rw [List.getD_eq_getElem?_getD, hat.head]; rfl
  have p0 := (hc.get hol).1
  rw [hg0] at p0
  simp only at p0
  have hoz : (o : Int) < (l.length : Int) := by omega
  have hsz := at_size hat
  have hp16 : K.len ≤ 16 := fitT_len (t := (y, K)) (deep := deep) (ink := ink) ⟨hfit.1, hfit.2.1, hfit.2.2.1, hfit.2.2.2.1⟩
  have HA := hidE hA; have HW := hidE hW; have HI0 := hidE (ShI.start (W := W) hat hfit); have HIH := hidE IH
  have HF := hidE (show (satI W y K o).ok = (allI (satF W K (o + 1))) by
    unfold satI mkI okI
    simp only [hk]
    rfl)
  rw [HF.out]
  obtain ⟨se, hse⟩ : ∃ se, (satI W y K o).se = se := ⟨_, rfl⟩
  rw [hse] at HEN hs
  rw [hk] at p0
  clear hat hfit hA hW hc hg0 ht hkz hk hse HF hPc hAt
  cases se with
  | none => exact absurd rfl hs
  | some q =>
    have HEN2 := hidE (fun (w' : World) (h : Below w.heap.size w w') => (show Calls Try.prog 18 #[def8 fr to' (some ⟨b, off, none⟩) l.length cap, .slice wa W.length wcap, .int .i64 o] w' fun e w'' => e = .returned (.tuple #[.int .i64 q.1, .int .i64 q.2, .bool true]) ∧ Below w'.heap.size w' w'' from HEN.out w' h))
    clear hs HEN
    go_enter Try.func19, Try.ntmps19
    go_wp2_with fail
    ((with_reducible refine (HEN2.out _ (by (repeat (first | exact Below.refl _ _ | assumption | refine balloc ?_ _ | refine below_drewN ?_ _ | refine bstep (by assumption) ?_ | refine bstep (Past.prop _) ?_ | refine Below.setCell ?_ (by first | exact Nat.le_refl _ | (simp; done) | (simp; omega)) _)))).mono ?_); rintro e w1 ⟨rfl, hb1⟩)
    have hb := (show Below w.heap.size w (w.alloc (.cells #[.int .i64 fr, .int .i64 to', .slice (some ⟨b, off, none⟩) l.length cap] 24)) from by (repeat (first | exact Below.refl _ _ | assumption | refine balloc ?_ _ | refine below_drewN ?_ _ | refine bstep (by assumption) ?_ | refine bstep (Past.prop _) ?_ | refine Below.setCell ?_ (by first | exact Nat.le_refl _ | (simp; done) | (simp; omega)) _))).trans (hb1.mono (by simp))
    have hd := (Blk.made w #[.int .i64 fr, .int .i64 to', .slice (some ⟨b, off, none⟩) l.length cap] 24).past hb1
    have e2 := hd.cell 2; have dz := hd.lt
    simp at e2
    have HB := hidE hb; have HD := hidE hd
    clear hb1 hb hd HEN2 p0
    go_wp2_with fail
    ((with_reducible refine (HKI.out _ HB.out).mono ?_); rintro e w2 ⟨vk, rfl, hsn, hb2⟩)
    obtain ⟨ak, ck, rfl, hk1, hk2, hKc⟩ := hsn
    rw [posF_len] at hk1 ⊢
    have HB2 := hidE (HB.out.trans (hb2.mono HB.out.size)); have HDD := hidE (HD.out.past hb2); have HKC := hidE hKc
    clear hb2 HKI hKc e2 dz HD HB
    go_wp2
    go_loopg [12, 13, 14, 15, 16, 17] K.len (fun gh v12 v13 v14 v15 v16 v17 wr => ∃ (D : List TI) (C : Fst) (oo : Nat) (z15 z16 z17 : Value), v15 = z15 ∧ v16 = z16 ∧ v17 = z17 ∧ v14 = .int .i64 D.length ∧ v13 = .int .i64 D.length ∧ v12 = .int .i64 (lastE D) ∧ C.len ≤ gh ∧ allI D = true ∧ ShI l W y K o D C oo ∧ Below w2.heap.size w2 wr)
    case atStart => exact ⟨[], K, o + 1, undef, undef, undef, rfl, rfl, rfl, rfl, rfl, rfl, Nat.le_refl _, rfl, HI0.out, Below.refl _ _⟩
    case round =>
      clear HI0
      obtain ⟨D, C, oo, v15, v16, v17, rfl, rfl, rfl, rfl, rfl, rfl, hgh, hall, hI, hbw⟩ := hrel
      have HGH := hidE hgh; have HI := hidE hI; have HBW := hidE hbw; have HALL := hidE hall
      have HB3 := hidE (HB2.out.trans (hbw.mono HB2.out.size))
      have HD2 := hidE (HDD.out.past hbw)
      have e0 := HD2.out.cell 0; have e1 := HD2.out.cell 1; have e2 := HD2.out.cell 2; have dz := HD2.out.lt
      simp at e0 e1 e2
      have hDC := hI.len
      clear hall
      cases C with
      | nil =>
        have q1 : decide ((D.length : Int) < (K.len : Int)) = false := decide_eq_false (by simp only [Fst.len] at hDC; omega)
        have q2 : decide (D.length < K.len) = false := decide_eq_false (by simp only [Fst.len] at hDC; omega)
        have HN := hidE (show D = satF W K (o + 1) by have := hI.tot; simpa [satF] using this)
        have HV := hidE (show (allI (satF W K (o + 1))) = true by rw [← HN.out, HALL.out])
        clear hgh hI hbw hDC
        go_wp2
        go_ret
        exact ⟨by rw [HV.out]; rfl, HB3.out⟩
      | cons x Kx N =>
        simp only [Fst.len] at hDC
        have q1 : decide ((D.length : Int) < (K.len : Int)) = true := decide_eq_true (by omega)
        have q2 : decide (D.length < K.len) = true := decide_eq_true (by omega)
        have q3 : D.length < K.len := by omega
        obtain ⟨bk, ok, rfl, hbkz, hkc⟩ := HKC.out (by rw [natsI_len, posF_len]; omega)
        have k0 := (hbw.cell (p := ⟨bk, ok + D.length, none⟩) hbkz).trans (hkc D.length (by rw [natsI_len, posF_len]; exact q3))
        rw [hI.place] at k0
        have kz := Nat.lt_of_lt_of_le hbkz hbw.size
        obtain ⟨deep', ink', hfc⟩ := hI.fit
        have hsk := hI.siz
        simp only [Fst.size] at hsk
        have HC := hidE (fun (w' : World) (h : Below w2.heap.size w2 w') => HIH.out x Kx oo deep' ink' w' (by omega) hI.atf.one ⟨hfc.1, hfc.2.1, hfc.2.2.1, hfc.2.2.2.1, trivial⟩ (HA.out.past (HB2.out.trans (h.mono HB2.out.size))) (HW.out.past (HB2.out.trans (h.mono HB2.out.size))))
        have HEK := hidE (fun (w' : World) (h : Below wr.heap.size wr w') => HEND.out x Kx oo deep' ink' w' (HB3.out.trans (h.mono HB3.out.size)) hI.atf.one ⟨hfc.1, hfc.2.1, hfc.2.2.1, hfc.2.2.2.1, trivial⟩)
        have HIN := hidE hI.next
        have HTT := hidE (show satF W K (o + 1) = D ++ satI W x Kx oo :: satF W N (oo + 1 + Kx.size) by rw [← hI.tot, satF_cons])
        obtain ⟨t, htt⟩ : ∃ t, satI W x Kx oo = t := ⟨_, rfl⟩
        rw [htt] at HC HIN HEK HTT
        clear hgh hI hbw hkc hfc htt
        go_upto_region 10 with fail
        refine wp_region_past_lit (by kernel_rfl) (by kernel_rfl) ?_
        have hcp := Past.cell (W := wr)
        repeat (go_big_quiet_step ((go_at_call 18; exact Past.call _ (HEK.out _ (Past.prop _)))))
        refine wpQuiet_nil ?_
        rintro _ ⟨x', rfl⟩
        replace HD2 := hidE (HD2.out.past x'.2)
        replace HB3 := hidE (HB3.out.trans (x'.2.mono HB3.out.size))
        replace HBW := hidE (HBW.out.trans (x'.2.mono HBW.out.size))
        replace k0 := (x'.2.cell (p := ⟨bk, ok + D.length, none⟩) kz).trans k0
        replace kz := Nat.lt_of_lt_of_le kz x'.2.size
        clear hcp e0 e1 e2 dz HEK
        generalize x'.1 = w6 at *
        have e0 := HD2.out.cell 0; have e1 := HD2.out.cell 1; have e2 := HD2.out.cell 2; have dz := HD2.out.lt
        simp at e0 e1 e2
        obtain ⟨tok, htok⟩ : ∃ b, t.ok = b := ⟨_, rfl⟩
        rw [htok] at HC
        have HTK := hidE htok
        clear htok
        have HLE := hidE (lastE_snoc D t)
        cases tok with
        | false =>
          have HC2 := hidE (fun (w' : World) (h : Below w6.heap.size w6 w') => HC.out w' (HBW.out.trans (h.mono HBW.out.size)))
          go_upto_region 12 with fail
          refine wp_region_past_lit (by kernel_rfl) (by kernel_rfl) ?_
          have hcp := Past.cell (W := w6)
          repeat (go_big_quiet_step ((go_at_call 19; exact Past.call _ (HC2.out _ (Past.prop _)))))
          refine wpQuiet_nil ?_
          rintro _ ⟨x2, rfl⟩
          replace HD2 := hidE (HD2.out.past x2.2)
          replace HB3 := hidE (HB3.out.trans (x2.2.mono HB3.out.size))
          replace HBW := hidE (HBW.out.trans (x2.2.mono HBW.out.size))
          clear hcp e0 e1 e2 dz k0 kz HC2 HC
          generalize x2.1 = w7 at *
          have HV := hidE (show (allI (satF W K (o + 1))) = false by rw [HTT.out]; rw [show allI (D ++ t :: satF W N (oo + 1 + Kx.size)) = false by unfold allI; rw [List.all_append, List.all_cons, HTK.out]; simp])
          go_wp2
          go_ret
          exact ⟨by rw [HV.out]; rfl, HB3.out⟩
        | true =>
          have HAL2 := hidE (show allI (D ++ [t]) = true by rw [allI_snoc, HALL.out, HTK.out]; rfl)
          have HC2 := hidE (fun (w' : World) (h : Below w6.heap.size w6 w') => HC.out w' (HBW.out.trans (h.mono HBW.out.size)))
          go_upto_region 12 with fail
          refine wp_region_past_lit (by kernel_rfl) (by kernel_rfl) ?_
          have hcp := Past.cell (W := w6)
          repeat (go_big_quiet_step ((go_at_call 19; exact Past.call _ (HC2.out _ (Past.prop _)))))
          refine wpQuiet_nil ?_
          rintro _ ⟨x2, rfl⟩
          replace HD2 := hidE (HD2.out.past x2.2)
          replace HB3 := hidE (HB3.out.trans (x2.2.mono HB3.out.size))
          replace HBW := hidE (HBW.out.trans (x2.2.mono HBW.out.size))
          clear hcp e0 e1 e2 dz k0 kz HC2 HC
          generalize x2.1 = w7 at *
          go_wp2
          go_roundg N.len
          case measure => have := HGH.out; simp only [Fst.len] at this; omega
          case rel => exact ⟨D ++ [t], N, _, _, _, _, rfl, rfl, rfl, by simp, by simp, by rw [HLE.out], Nat.le_refl _, HAL2.out, HIN.out, HBW.out⟩
end Go.Proofs.Ytlhokgcamcaonaa

namespace Go.Proofs.Ytlhokgcamcaonaa
open Go.ChangeShapes Go.WideShapes Go.ChangeAt Go.RowKit
attribute [local irreducible] Go.Calls

theorem rterm_c (fr to' : Int) (l : List Prt) (W : List Pc) (a wa : Option Addr) (cap wcap : Nat) (hl : l.length ≤ 64) (ht : (treeS l).2 = 0) (hWl : W.length ≤ 9223372036854775807) (hPc : PcOk W) (hAt : Atoms l W) : ∀ (m : Nat) (y : Prt) (K : Fst) (o deep ink : Nat) (w : World), K.size < m → AtF l o (.cons y K .nil) → (Fst.cons y K .nil).fit deep ink → ArgP w a l → ArgVs w wa W →
    Calls Try.prog 19 #[def8 fr to' a l.length cap, .slice wa W.length wcap, .int .i64 o] w fun e w' => e = .returned (.bool (satI W y K o).ok) ∧ Below w.heap.size w w' := by
  intro m
  induction m with
  | zero => intro y K o deep ink w h; omega
  | succ m ih =>
    intro y K o deep ink w hm hat hfit hA hW
    have IH : ∀ (x : Prt) (Kx : Fst) (oo deep ink : Nat) (w : World), Kx.size < K.size → AtF l oo (.cons x Kx .nil) → (Fst.cons x Kx .nil).fit deep ink → ArgP w a l → ArgVs w wa W → Calls Try.prog 19 #[def8 fr to' a l.length cap, .slice wa W.length wcap, .int .i64 oo] w fun e w' => e = .returned (.bool (satI W x Kx oo).ok) ∧ Below w.heap.size w w' :=
      fun x Kx oo d i w' h h1 h2 h3 h4 => ih x Kx oo d i w' (by omega) h1 h2 h3 h4
    by_cases hs : (satI W y K o).se = none
    · exact rterm_0 fr to' l W a wa cap wcap hl ht hWl hPc hAt y K o deep ink w hat hfit hA hW (.inr hs)
    · have hk := (badP_num hfit.1).1
      have hc : y.kind = 0 ∨ y.kind = 1 ∨ y.kind = 2 ∨ y.kind = 3 ∨ y.kind = 4 := by simp only at hk; omega
      rcases hc with c | c | c | c | c
      · exact rterm_0 fr to' l W a wa cap wcap hl ht hWl hPc hAt y K o deep ink w hat hfit hA hW (.inl c)
      · exact rterm_1 fr to' l W a wa cap wcap hl ht hWl hPc hAt y K o deep ink w hat hfit hA hW c hs IH
      · exact rterm_2 fr to' l W a wa cap wcap hl ht hWl hPc hAt y K o deep ink w hat hfit hA hW c hs IH
      · exact rterm_3 fr to' l W a wa cap wcap hl ht hWl hPc hAt y K o deep ink w hat hfit hA hW c hs IH
      · exact rterm_4 fr to' l W a wa cap wcap hl ht hWl hPc hAt y K o deep ink w hat hfit hA hW c hs IH
end Go.Proofs.Ytlhokgcamcaonaa

namespace Go.Proofs.Ytlhokgcamcaonaa

/-- The pieces and the unit are within bounds. -/
structure UseOk (l : List Prt) (m c : Int) (W : List Pc) : Prop where
  atoms : Atoms l W
  parts : ∀ i, i < l.length → 0 ≤ (l.getD i pr0).d ∧ (l.getD i pr0).d ≤ 4096 ∧ (l.getD i pr0).n ≤ 4096
  times : ∀ p ∈ W, -1099511627776 ≤ p.2 ∧ p.2 ≤ 1099511627776
  len : W.length ≤ 64
  mem : 1 ≤ m ∧ m ≤ 1073741824
  cor : 1 ≤ c ∧ c ≤ 1073741824
def dP (l : List Prt) (p : Pc) : Int := (l.getD p.1.toNat pr0).d
def nP (l : List Prt) (p : Pc) : Int := (l.getD p.1.toNat pr0).n
def onP (l : List Prt) (t : Int) (p : Pc) : Bool := decide (p.2 ≤ t) && decide (t < p.2 + dP l p)
/-- How many units are used at a time. -/
def boxN (l : List Prt) (W : List Pc) (t : Int) : Int := W.foldl (fun n p => if onP l t p then n + nP l p else n) 0
theorem boxN_snoc (l : List Prt) (W : List Pc) (p : Pc) (t : Int) : boxN l (W ++ [p]) t = if onP l t p then boxN l W t + nP l p else boxN l W t := by
  unfold boxN; rw [List.foldl_append]; rfl
theorem boxN_congr (l : List Prt) {s t : Int} : ∀ (W : List Pc) (n : Int), (∀ p ∈ W, onP l s p = onP l t p) → W.foldl (fun n p => if onP l s p then n + nP l p else n) n = W.foldl (fun n p => if onP l t p then n + nP l p else n) n
  | [], _, _ => rfl
  | p :: W, n, h => by
    rw [List.foldl_cons, List.foldl_cons, h p (by simp)]
    exact boxN_congr l W _ fun q hq => h q (List.mem_cons_of_mem _ hq)
theorem boxN_zero (l : List Prt) {t : Int} : ∀ (W : List Pc) (n : Int), (∀ p ∈ W, onP l t p = false) → W.foldl (fun n p => if onP l t p then n + nP l p else n) n = n
  | [], _, _ => rfl
  | p :: W, n, h => by
    rw [List.foldl_cons, h p (by simp)]
    exact boxN_zero l W _ fun q hq => h q (List.mem_cons_of_mem _ hq)
def useV (l : List Prt) (m c : Int) (W : List Pc) (t : Int) : Int × Int := (boxN l W t * m, boxN l W t * c)
def rawTs (l : List Prt) (W : List Pc) : List Int := W.flatMap fun p => [p.2, p.2 + dP l p]
def useTs (l : List Prt) (W : List Pc) : List Int := timesL (rawTs l W)
def useL (l : List Prt) (m c : Int) (W : List Pc) : List Sg := buildL (useV l m c W) (useTs l W)
theorem rawTs_len (l : List Prt) (W : List Pc) : (rawTs l W).length = W.length * 2 := by
  unfold rawTs
  induction W with
  | nil => rfl
  | cons p W ih => rw [List.flatMap_cons, List.length_append, ih]; simp; omega
section
variable {l : List Prt} {m c : Int} {W : List Pc}
theorem UseOk.np (h : UseOk l m c W) {p : Pc} (hp : p ∈ W) : 0 ≤ nP l p ∧ nP l p ≤ 4096 ∧ 0 ≤ dP l p ∧ dP l p ≤ 4096 := by
  obtain ⟨a1, a2, _⟩ := h.atoms p hp
  have := h.parts p.1.toNat (by omega)
  unfold nP dP
  omega
theorem boxN_bd {t : Int} : ∀ (W : List Pc) (n : Int), (∀ p ∈ W, 0 ≤ nP l p ∧ nP l p ≤ 4096) → n ≤ W.foldl (fun n p => if onP l t p then n + nP l p else n) n ∧ W.foldl (fun n p => if onP l t p then n + nP l p else n) n ≤ n + W.length * 4096
  | [], n, _ => by simp
  | p :: W, n, h => by
    rw [List.foldl_cons]
    have h1 := h p (by simp)
    have h2 := boxN_bd (t := t) W (if onP l t p then n + nP l p else n) fun q hq => h q (List.mem_cons_of_mem _ hq)
    have e : ((p :: W).length : Int) * 4096 = W.length * 4096 + 4096 := by simp; omega
    rw [e]
    split at h2 <;> rename_i hc <;> simp only [hc, if_true] <;> first | omega | (simp only [Bool.false_eq_true, if_false]; omega)
theorem UseOk.bd (h : UseOk l m c W) (t : Int) : 0 ≤ boxN l W t ∧ boxN l W t ≤ 262144 := by
  have := boxN_bd (t := t) W 0 fun p hp => ⟨(h.np hp).1, (h.np hp).2.1⟩
  have h2 := h.len
  have h3 : (W.length : Int) * 4096 ≤ 64 * 4096 := by omega
  unfold boxN
  omega
theorem UseOk.val (h : UseOk l m c W) (t : Int) : okV (useV l m c W t).1 (useV l m c W t).2 = true := by
  have hb := h.bd t
  have hm := h.mem; have hc := h.cor
  have e1 : 0 ≤ boxN l W t * m := Int.mul_nonneg hb.1 (by omega)
  have e2 : 0 ≤ boxN l W t * c := Int.mul_nonneg hb.1 (by omega)
  have e3 : boxN l W t * m ≤ 262144 * 1073741824 := Int.mul_le_mul hb.2 hm.2 (by omega) (by omega)
  have e4 : boxN l W t * c ≤ 262144 * 1073741824 := Int.mul_le_mul hb.2 hc.2 (by omega) (by omega)
  unfold okV useV
  simp only
  exact decide_eq_true (by omega)
theorem mem_raw {x : Int} : x ∈ rawTs l W ↔ ∃ p ∈ W, x = p.2 ∨ x = p.2 + dP l p := by
  unfold rawTs
  rw [List.mem_flatMap]
  constructor
  · rintro ⟨p, hp, hx⟩
    refine ⟨p, hp, ?_⟩
    simpa using hx
  · rintro ⟨p, hp, hx⟩
    exact ⟨p, hp, by simpa using hx⟩
theorem UseOk.time (h : UseOk l m c W) {x : Int} (hx : x ∈ rawTs l W) : okT x = true := by
  obtain ⟨p, hp, hx⟩ := mem_raw.1 hx
  have h1 := h.times p hp
  have h2 := h.np hp
  unfold okT
  exact decide_eq_true (by omega)
/-- The greatest of them that is not behind a time. -/
theorem last_of (t : Int) : ∀ ts : List Int, (∀ x ∈ ts, t < x) ∨ ∃ s ∈ ts, s ≤ t ∧ ∀ x ∈ ts, x ≤ t → x ≤ s
  | [] => .inl fun x hx => by cases hx
  | a :: ts => by
    rcases last_of t ts with h | ⟨s, h1, h2, h3⟩
    · by_cases c : a ≤ t
      · refine .inr ⟨a, by simp, c, fun x hx hxt => ?_⟩
        rcases List.mem_cons.1 hx with rfl | hx
        · exact Int.le_refl _
        · have := h x hx; omega
      · refine .inl fun x hx => ?_
        rcases List.mem_cons.1 hx with rfl | hx
        · omega
        · exact h x hx
    · by_cases c : a ≤ t ∧ s ≤ a
      · refine .inr ⟨a, by simp, c.1, fun x hx hxt => ?_⟩
        rcases List.mem_cons.1 hx with rfl | hx
        · exact Int.le_refl _
        · have := h3 x hx hxt; omega
      · refine .inr ⟨s, by simp [h1], h2, fun x hx hxt => ?_⟩
        rcases List.mem_cons.1 hx with rfl | hx
        · omega
        · exact h3 x hx hxt
theorem UseOk.gval (_h : UseOk l m c W) (t : Int) : gval (useV l m c W) (useTs l W) t = useV l m c W t := by
  have hm : ∀ x, x ∈ useTs l W ↔ x ∈ rawTs l W := fun x => timesL_mem
  rcases last_of t (useTs l W) with h1 | ⟨s, h1, h2, h3⟩
  · rw [gval_none _ _ rfl h1]
    have : boxN l W t = 0 := boxN_zero l W 0 fun p hp => by
      have := h1 p.2 ((hm _).2 (mem_raw.2 ⟨p, hp, .inl rfl⟩))
      unfold onP
      rw [decide_eq_false (show ¬ p.2 ≤ t by omega)]; rfl
    unfold useV
    rw [this]; simp
  · rw [gval_some _ (useTs l W) rfl (show (useTs l W).Pairwise (· < ·) from timesL_up _) h1 h2 h3]
    have : boxN l W s = boxN l W t := boxN_congr l W 0 fun p hp => by
      have a1 := h3 p.2 ((hm _).2 (mem_raw.2 ⟨p, hp, .inl rfl⟩))
      have a2 := h3 (p.2 + dP l p) ((hm _).2 (mem_raw.2 ⟨p, hp, .inr rfl⟩))
      unfold onP
      rw [Bool.eq_iff_iff]
      simp only [Bool.and_eq_true, decide_eq_true_eq]
      omega
    unfold useV
    rw [this]
/-- What is used is one canonical function of these values. -/
theorem UseOk.spec (h : UseOk l m c W) : mayB (useL l m c W) = true ∧ (∀ t, vat (useL l m c W) t = useV l m c W t) ∧ (useL l m c W).length ≤ 128 := by
  obtain ⟨h1, _, h3, h4⟩ := buildL_all (useV l m c W) _ (useTs l W) rfl (timesL_up _) fun t ht => by
    unfold okS
    rw [Bool.and_eq_true]
    exact ⟨h.time (timesL_mem.1 ht), h.val t⟩
  refine ⟨mayB_iff.2 h1, fun t => (h3 t).trans (h.gval t), ?_⟩
  have := timesL_len (rawTs l W)
  rw [rawTs_len] at this
  have h5 := h.len
  unfold useL
  unfold useTs at *
  omega
theorem doS_ofU {k : Int} {F G R : List Sg} (hF : mayB F = true) (hG : mayB G = true) (hR : mayB R = true) (h : ∀ t, opT k F G t = ((vat R t).1, (vat R t).2, 0)) : doS k F G = (R, 0) := by
  have hok : opOk k F G = true := opOk_iff.2 fun t => by rw [h t]
  unfold doS
  rw [hF, hG, if_neg (by decide), if_pos hok]
  rw [opL_unique (mayB_iff.1 hF) (mayB_iff.1 hG) hok (mayB_iff.1 hR) fun t => by unfold opW; rw [h t]]
theorem addS_okU {a b c d : Int} (h1 : okV a b = true) (h2 : okV c d = true) (h3 : okV (a + c) (b + d) = true) : addS a b c d = (a + c, b + d, 0) := by unfold addS; rw [h1, h2, h3]; rfl
theorem may_okU {F : List Sg} (h : mayB F = true) (t : Int) : okV (vat F t).1 (vat F t).2 = true := vat_ok (CF.ok (mayB_iff.1 h)) t
theorem doS_nilU {F : List Sg} (h : mayB F = true) : doS 0 [] F = (F, 0) := doS_ofU rfl h h fun t => by
  show addS 0 0 (vat F t).1 (vat F t).2 = _
  have := may_okU h t
  rw [addS_okU (by decide) this (by simpa using this)]
  simp
theorem vat_boxU {x y : Int} {v : Int × Int} (_h : x ≤ y) (t : Int) : vat (boxL x y v) t = if x ≤ t ∧ t < y then v else (0, 0) := by
  unfold boxL
  by_cases c : x = y ∨ v = (0, 0)
  · rw [if_pos c]
    show (0, 0) = _
    rcases c with c | c
    · rw [if_neg (by omega)]
    · rw [c]; split <;> rfl
  · rw [if_neg c]
    unfold vat
    simp only [List.foldl_cons, List.foldl_nil]
    unfold stepV
    by_cases k2 : y ≤ t
    · rw [if_pos k2, if_neg (by omega)]
    · rw [if_neg k2]
      by_cases k : x ≤ t
      · rw [if_pos k, if_pos ⟨k, by omega⟩]
      · rw [if_neg k, if_neg (by omega)]
/-- A piece more. -/
theorem use_step {p : Pc} (h : UseOk l m c (W ++ [p])) : ∃ B : List Sg, boxS p.2 (p.2 + dP l p) (nP l p * m, nP l p * c) = (B, 0) ∧ B.length ≤ 2 ∧ sumS [B, useL l m c W] = (useL l m c (W ++ [p]), 0) := by
  have hW : UseOk l m c W := ⟨fun q hq => h.atoms q (by simp [hq]), h.parts, fun q hq => h.times q (by simp [hq]), by have := h.len; simp at this; omega, h.mem, h.cor⟩
  have hn := h.np (p := p) (by simp)
  have ht := h.times p (by simp)
  have hm := h.mem; have hc := h.cor
  have e1 : 0 ≤ nP l p * m := Int.mul_nonneg hn.1 (by omega)
  have e2 : 0 ≤ nP l p * c := Int.mul_nonneg hn.1 (by omega)
  have e3 : nP l p * m ≤ 4096 * 1073741824 := Int.mul_le_mul hn.2.1 hm.2 (by omega) (by omega)
  have e4 : nP l p * c ≤ 4096 * 1073741824 := Int.mul_le_mul hn.2.1 hc.2 (by omega) (by omega)
  have ok1 : okS (p.2, (nP l p * m, nP l p * c)) = true := by
    unfold okS okT okV
    rw [Bool.and_eq_true]
    exact ⟨decide_eq_true (by simp only; omega), decide_eq_true (by simp only; omega)⟩
  have ok2 : okS (p.2 + dP l p, (0, 0)) = true := by
    unfold okS okT okV
    rw [Bool.and_eq_true]
    exact ⟨decide_eq_true (by simp only; omega), decide_eq_true (by simp only; omega)⟩
  have hB := boxL_of (x := p.2) (y := p.2 + dP l p) (v := (nP l p * m, nP l p * c)) (by omega) ok1 ok2
  refine ⟨boxL p.2 (p.2 + dP l p) (nP l p * m, nP l p * c), ?_, hB.2.2, ?_⟩
  · unfold boxS
    rw [if_neg (by omega), ok1, ok2]; rfl
  · have hBm : mayB (boxL p.2 (p.2 + dP l p) (nP l p * m, nP l p * c)) = true := mayB_iff.2 hB.1
    obtain ⟨u1, u2, _⟩ := hW.spec
    obtain ⟨v1, v2, _⟩ := h.spec
    unfold sumS
    rw [if_pos (by simp [hBm, u1])]
    unfold sumE
    simp only [List.foldl_cons, List.foldl_nil, if_true]
    rw [doS_nilU hBm]
    simp only [if_true]
    refine doS_ofU hBm u1 v1 fun t => ?_
    show addS _ _ _ _ = _
    have o1 := may_okU hBm t
    have o2 := may_okU u1 t
    have o3 := may_okU v1 t
    have key : ((vat (boxL p.2 (p.2 + dP l p) (nP l p * m, nP l p * c)) t).1 + (vat (useL l m c W) t).1, (vat (boxL p.2 (p.2 + dP l p) (nP l p * m, nP l p * c)) t).2 + (vat (useL l m c W) t).2) = vat (useL l m c (W ++ [p])) t := by
      rw [vat_boxU (by omega), u2, v2]
      unfold useV
      rw [boxN_snoc]
      unfold onP
      by_cases q1 : p.2 ≤ t ∧ t < p.2 + dP l p
      · rw [if_pos q1, decide_eq_true q1.1, decide_eq_true q1.2]
        simp only [Bool.and_self, if_true, Int.add_mul]
        exact Prod.ext (by simp only; omega) (by simp only; omega)
      · rw [if_neg q1]
        have : (decide (p.2 ≤ t) && decide (t < p.2 + dP l p)) = false := by
          rw [Bool.eq_false_iff]
          intro hq
          simp only [Bool.and_eq_true, decide_eq_true_eq] at hq
          exact q1 hq
        rw [this]
        simp
    have k1 := congrArg Prod.fst key
    have k2 := congrArg Prod.snd key
    simp only at k1 k2
    rw [addS_okU o1 o2 (by rw [k1, k2]; exact o3), k1, k2]
end
end Go.Proofs.Ytlhokgcamcaonaa

namespace Go.Proofs.Ytlhokgcamcaonaa
open Go.ChangeShapes Go.WideShapes Go.ChangeAt Go.RowKit
attribute [local irreducible] Go.Calls

def tiZ : TI := ⟨p00, 0, none, false⟩
def lookT (er : Int) (t : TI) : TI := if er = 0 then t else tiZ
def LkPost (w : World) (t : TI) (er : Int) (e : Ending) (w' : World) : Prop := ∃ k : TV, k.t = t ∧ e = .returned (.tuple #[.agg k.arr, .int .i64 er]) ∧ Below w.heap.size w w'
/-- What is known of the part at a place. -/
def Here (l : List Prt) (W : List Pc) (z : Int) (t : TI) : Prop := ∃ (y : Prt) (K : Fst) (deep ink o : Nat), AtF l o (.cons y K .nil) ∧ (Fst.cons y K .nil).fit deep ink ∧ t = satI W y K o ∧ z = (o : Int)
theorem wrong_zero {fr to' : Int} {l : List Prt} {fits : Bool} {W : List Pc} (h : wrongS fr to' l fits W = 0) : (chkS fr to' l).2 = 0 ∧ fits = true ∧ pcsB l (-1) W = true ∧ farB W = false := by
  unfold wrongS at h
  split at h
  · cases h
  · rename_i h1
    split at h
    · cases h
    · rename_i h2
      split at h
      · cases h
      · rename_i h3
        refine ⟨by omega, ?_, ?_, by simpa using h3⟩
        · cases fits
          · exact absurd (.inl rfl) h2
          · rfl
        · cases hp : pcsB l (-1) W
          · exact absurd (.inr hp) h2
          · rfl
theorem far_ok {W : List Pc} (h : farB W = false) : PcOk W := by
  intro p hp
  unfold farB at h
  rw [List.any_eq_false] at h
  have := h p hp
  unfold isFarB at this
  simp at this
  omega
set_option maxHeartbeats 4000000 in
set_option maxRecDepth 100000 in
theorem look_c (fr to' : Int) (l : List Prt) (W : List Pc) (a wa : Option Addr) (cap wcap : Nat) (z : Int) (t : TI) (w : World) (hl : l.length ≤ 9223372036854775807) (hWl : W.length ≤ 100000) (hA : ArgP w a l) (hW : ArgVs w wa W) (hf : -9223372036854775808 ≤ fr ∧ fr ≤ 9223372036854775807) (ht : -9223372036854775808 ≤ to' ∧ to' ≤ 9223372036854775807) (hz : -9223372036854775808 ≤ z ∧ z ≤ 9223372036854775807) (hh : wrongS fr to' l (decide (0 ≤ z ∧ z < (l.length : Int))) W = 0 → Here l W z t) :
    Calls Try.prog 24 #[def8 fr to' a l.length cap, .slice wa W.length wcap, .int .i64 z] w (LkPost w (lookT (wrongS fr to' l (decide (0 ≤ z ∧ z < (l.length : Int))) W) t) (wrongS fr to' l (decide (0 ≤ z ∧ z < (l.length : Int))) W)) := by
  obtain ⟨E, hE⟩ : ∃ E, wrongS fr to' l (decide (0 ≤ z ∧ z < (l.length : Int))) W = E := ⟨_, rfl⟩
  have HER := hidE hE
  rw [hE] at hh ⊢
  have HH := hidE hh
  clear hE hh
  by_cases z0 : 0 ≤ z
  · have q0 : decide (0 ≤ z) = true := decide_eq_true z0
    by_cases z1 : z < (l.length : Int)
    · have q1 : decide (z < (l.length : Int)) = true := decide_eq_true z1
      have hfit : decide (0 ≤ z ∧ z < (l.length : Int)) = true := decide_eq_true ⟨z0, z1⟩
      have HWR := hidE (fun (w' : World) (h : Below w.heap.size w w') => wrong_c fr to' l W a wa cap wcap true w' hl (by omega) (hA.past h) (hW.past h) hf ht)
      rw [hfit] at HER
      clear hfit
      obtain ⟨er, her⟩ : ∃ er, wrongS fr to' l true W = er := ⟨_, rfl⟩
      rw [her] at HWR HER
      have HE2 := hidE her
      have HA := hidE hA; have HW := hidE hW
      obtain rfl : er = E := HER.out
      clear her hA hW
      go_enter Try.func24, Try.ntmps24
      go_wp2_with fail
      ((with_reducible refine (HWR.out _ (by (repeat (first | exact Below.refl _ _ | assumption | refine balloc ?_ _ | refine below_drewN ?_ _ | refine bstep (by assumption) ?_ | refine bstep (Past.prop _) ?_ | refine Below.setCell ?_ (by first | exact Nat.le_refl _ | (simp; done) | (simp; omega)) _)))).mono ?_); rintro e w1 ⟨rfl, hb1⟩)
      have hd := ((Blk.made w #[.int .i64 fr, .int .i64 to', .slice a l.length cap] 24).alloc (.cells ti0 69)).past hb1
      have hr := (Blk.made_at (w.alloc (.cells #[.int .i64 fr, .int .i64 to', .slice a l.length cap] 24)) ti0 69 (w.heap.size + 1) (by simp)).past hb1
      have hb := (show Below w.heap.size w ((w.alloc (.cells #[.int .i64 fr, .int .i64 to', .slice a l.length cap] 24)).alloc (.cells ti0 69)) from by (repeat (first | exact Below.refl _ _ | assumption | refine balloc ?_ _ | refine below_drewN ?_ _ | refine bstep (by assumption) ?_ | refine bstep (Past.prop _) ?_ | refine Below.setCell ?_ (by first | exact Nat.le_refl _ | (simp; done) | (simp; omega)) _))).trans (hb1.mono (by simp; omega))
      obtain ⟨rb, hrb⟩ : ∃ r, r = w.heap.size + 1 := ⟨_, rfl⟩
      rw [← hrb] at hr ⊢
      have hrz : w.heap.size < rb := by omega
      have e2 := hd.cell 2; have dz := hd.lt
      simp at e2
      have HB := hidE hb; have HR := hidE hr
      clear hb1 hd hb hr hrb
      by_cases h0 : er = 0
      · subst h0
        obtain ⟨y, K, deep, ink, o, hat, hfit, rfl, hzo⟩ := HH.out rfl
        subst hzo
        have hwz := wrong_zero HE2.out
        have hck := chk_ok hwz.1
        have HT := hidE (term_c l W a wa cap wcap hck.2.2.2.2 hck.2.2.1 hWl (far_ok hwz.2.2.2) (K.size + 1) y K o deep ink w1 (Nat.lt_succ_self _) hat hfit (HA.out.past HB.out) (HW.out.past HB.out))
        clear hat hfit hwz hck
        go_wp2_with fail
        ((with_reducible refine HT.out.mono ?_); rintro e w2 ⟨k, hk, rfl, hb2⟩)
        have HK := hidE hk
        have hr2 := HR.out.past hb2
        have s0 := hr2.free 0; have s1 := hr2.free 1; have s2 := hr2.free 2; have s3 := hr2.free 3; have s4 := hr2.free 4; have s5 := hr2.free 5; have s6 := hr2.free 6; have s7 := hr2.free 7; have s8 := hr2.free 8; have s9 := hr2.free 9; have s10 := hr2.free 10
        have r0 := hr2.cell 0; have r1 := hr2.cell 1; have r2 := hr2.cell 2; have r3 := hr2.cell 3; have r4 := hr2.cell 4; have r5 := hr2.cell 5; have r6 := hr2.cell 6; have r7 := hr2.cell 7; have r8 := hr2.cell 8; have r9 := hr2.cell 9; have r10 := hr2.cell 10; have rz := hr2.lt
        simp at r0 r1 r2 r3 r4 r5 r6 r7 r8 r9 r10
        have HR2 := hidE hr2; have HB2 := hidE (HB.out.trans (hb2.mono HB.out.size))
        clear hk hr2 hb2 HT e2 dz
        go_wp2
        have hfin : Blk (put11 w2 rb k) rb k.arr 69 := put11_blk (x := p00) (v := .slice none 0 0) (n := 0) (s := none) (b := false) HR2.out k
        have HBF := hidE (Below.grown HB2.out (put11_grown w2 rb k) HB2.out.size (fun q e => by cases e; omega))
        have x0 := hfin.cell 0; have x1 := hfin.cell 1; have x2 := hfin.cell 2; have x3 := hfin.cell 3; have x4 := hfin.cell 4; have x5 := hfin.cell 5; have x6 := hfin.cell 6; have x7 := hfin.cell 7; have x8 := hfin.cell 8; have x9 := hfin.cell 9; have x10 := hfin.cell 10
        simp at x0 x1 x2 x3 x4 x5 x6 x7 x8 x9 x10
        change bodyPost _ _ _ _ _ (put11 w2 rb k)
        clear hfin HR2 HB2 r0 s0 r1 s1 r2 s2 r3 s3 r4 s4 r5 s5 r6 s6 r7 s7 r8 s8 r9 s9 r10 s10 rz
        generalize put11 w2 rb k = wf at *
        exact bodyPost_ret (v := .tuple #[.agg k.arr, .int .i64 0]) (by simp [results, Try.results24, go_sem, x0, x1, x2, x3, x4, x5, x6, x7, x8, x9, x10]) rfl ⟨k, by unfold lookT; rw [if_pos rfl]; exact HK.out, rfl, HBF.out⟩
      · have r0 : (er != 0) = true := bne_iff_ne.2 h0
        have HN := hidE (show lookT er t = tiZ by unfold lookT; rw [if_neg h0])
        have s0 := HR.out.free 0; have s1 := HR.out.free 1; have s2 := HR.out.free 2; have s3 := HR.out.free 3; have s4 := HR.out.free 4; have s5 := HR.out.free 5; have s6 := HR.out.free 6; have s7 := HR.out.free 7; have s8 := HR.out.free 8; have s9 := HR.out.free 9; have s10 := HR.out.free 10
        have r0 := HR.out.cell 0; have r1 := HR.out.cell 1; have r2 := HR.out.cell 2; have r3 := HR.out.cell 3; have r4 := HR.out.cell 4; have r5 := HR.out.cell 5; have r6 := HR.out.cell 6; have r7 := HR.out.cell 7; have r8 := HR.out.cell 8; have r9 := HR.out.cell 9; have r10 := HR.out.cell 10; have rz := HR.out.lt
        simp at r0 r1 r2 r3 r4 r5 r6 r7 r8 r9 r10
        clear h0 e2 dz
        go_wp2
        have hfin : Blk (put11 w1 rb (⟨tiZ, none, 0, 0⟩ : TV)) rb (⟨tiZ, none, 0, 0⟩ : TV).arr 69 := put11_blk (x := p00) (v := .slice none 0 0) (n := 0) (s := none) (b := false) HR.out (⟨tiZ, none, 0, 0⟩ : TV)
        have HBF := hidE (Below.grown HB.out (put11_grown w1 rb (⟨tiZ, none, 0, 0⟩ : TV)) HB.out.size (fun q e => by cases e; omega))
        have x0 := hfin.cell 0; have x1 := hfin.cell 1; have x2 := hfin.cell 2; have x3 := hfin.cell 3; have x4 := hfin.cell 4; have x5 := hfin.cell 5; have x6 := hfin.cell 6; have x7 := hfin.cell 7; have x8 := hfin.cell 8; have x9 := hfin.cell 9; have x10 := hfin.cell 10
        simp at x0 x1 x2 x3 x4 x5 x6 x7 x8 x9 x10
        change bodyPost _ _ _ _ _ (put11 w1 rb (⟨tiZ, none, 0, 0⟩ : TV))
        clear hfin HR HB r0 s0 r1 s1 r2 s2 r3 s3 r4 s4 r5 s5 r6 s6 r7 s7 r8 s8 r9 s9 r10 s10 rz
        generalize put11 w1 rb (⟨tiZ, none, 0, 0⟩ : TV) = wf at *
        exact bodyPost_ret (v := .tuple #[.agg (⟨tiZ, none, 0, 0⟩ : TV).arr, .int .i64 er]) (by simp [results, Try.results24, go_sem, x0, x1, x2, x3, x4, x5, x6, x7, x8, x9, x10]) rfl ⟨(⟨tiZ, none, 0, 0⟩ : TV), by rw [HN.out], rfl, HBF.out⟩

    · have q1 : decide (z < (l.length : Int)) = false := decide_eq_false z1
      have hfit : decide (0 ≤ z ∧ z < (l.length : Int)) = false := decide_eq_false fun h => z1 h.2
      have HWR := hidE (fun (w' : World) (h : Below w.heap.size w w') => wrong_c fr to' l W a wa cap wcap false w' hl (by omega) (hA.past h) (hW.past h) hf ht)
      rw [hfit] at HER
      clear hfit
      obtain ⟨er, her⟩ : ∃ er, wrongS fr to' l false W = er := ⟨_, rfl⟩
      rw [her] at HWR HER
      have HE2 := hidE her
      have HA := hidE hA; have HW := hidE hW
      obtain rfl : er = E := HER.out
      clear her hA hW
      go_enter Try.func24, Try.ntmps24
      go_wp2_with fail
      ((with_reducible refine (HWR.out _ (by (repeat (first | exact Below.refl _ _ | assumption | refine balloc ?_ _ | refine below_drewN ?_ _ | refine bstep (by assumption) ?_ | refine bstep (Past.prop _) ?_ | refine Below.setCell ?_ (by first | exact Nat.le_refl _ | (simp; done) | (simp; omega)) _)))).mono ?_); rintro e w1 ⟨rfl, hb1⟩)
      have hd := ((Blk.made w #[.int .i64 fr, .int .i64 to', .slice a l.length cap] 24).alloc (.cells ti0 69)).past hb1
      have hr := (Blk.made_at (w.alloc (.cells #[.int .i64 fr, .int .i64 to', .slice a l.length cap] 24)) ti0 69 (w.heap.size + 1) (by simp)).past hb1
      have hb := (show Below w.heap.size w ((w.alloc (.cells #[.int .i64 fr, .int .i64 to', .slice a l.length cap] 24)).alloc (.cells ti0 69)) from by (repeat (first | exact Below.refl _ _ | assumption | refine balloc ?_ _ | refine below_drewN ?_ _ | refine bstep (by assumption) ?_ | refine bstep (Past.prop _) ?_ | refine Below.setCell ?_ (by first | exact Nat.le_refl _ | (simp; done) | (simp; omega)) _))).trans (hb1.mono (by simp; omega))
      obtain ⟨rb, hrb⟩ : ∃ r, r = w.heap.size + 1 := ⟨_, rfl⟩
      rw [← hrb] at hr ⊢
      have hrz : w.heap.size < rb := by omega
      have e2 := hd.cell 2; have dz := hd.lt
      simp at e2
      have HB := hidE hb; have HR := hidE hr
      clear hb1 hd hb hr hrb
      by_cases h0 : er = 0
      · subst h0
        exact absurd (wrong_zero HE2.out).2.1 (by decide)
      · have r0 : (er != 0) = true := bne_iff_ne.2 h0
        have HN := hidE (show lookT er t = tiZ by unfold lookT; rw [if_neg h0])
        have s0 := HR.out.free 0; have s1 := HR.out.free 1; have s2 := HR.out.free 2; have s3 := HR.out.free 3; have s4 := HR.out.free 4; have s5 := HR.out.free 5; have s6 := HR.out.free 6; have s7 := HR.out.free 7; have s8 := HR.out.free 8; have s9 := HR.out.free 9; have s10 := HR.out.free 10
        have r0 := HR.out.cell 0; have r1 := HR.out.cell 1; have r2 := HR.out.cell 2; have r3 := HR.out.cell 3; have r4 := HR.out.cell 4; have r5 := HR.out.cell 5; have r6 := HR.out.cell 6; have r7 := HR.out.cell 7; have r8 := HR.out.cell 8; have r9 := HR.out.cell 9; have r10 := HR.out.cell 10; have rz := HR.out.lt
        simp at r0 r1 r2 r3 r4 r5 r6 r7 r8 r9 r10
        clear h0 e2 dz
        go_wp2
        have hfin : Blk (put11 w1 rb (⟨tiZ, none, 0, 0⟩ : TV)) rb (⟨tiZ, none, 0, 0⟩ : TV).arr 69 := put11_blk (x := p00) (v := .slice none 0 0) (n := 0) (s := none) (b := false) HR.out (⟨tiZ, none, 0, 0⟩ : TV)
        have HBF := hidE (Below.grown HB.out (put11_grown w1 rb (⟨tiZ, none, 0, 0⟩ : TV)) HB.out.size (fun q e => by cases e; omega))
        have x0 := hfin.cell 0; have x1 := hfin.cell 1; have x2 := hfin.cell 2; have x3 := hfin.cell 3; have x4 := hfin.cell 4; have x5 := hfin.cell 5; have x6 := hfin.cell 6; have x7 := hfin.cell 7; have x8 := hfin.cell 8; have x9 := hfin.cell 9; have x10 := hfin.cell 10
        simp at x0 x1 x2 x3 x4 x5 x6 x7 x8 x9 x10
        change bodyPost _ _ _ _ _ (put11 w1 rb (⟨tiZ, none, 0, 0⟩ : TV))
        clear hfin HR HB r0 s0 r1 s1 r2 s2 r3 s3 r4 s4 r5 s5 r6 s6 r7 s7 r8 s8 r9 s9 r10 s10 rz
        generalize put11 w1 rb (⟨tiZ, none, 0, 0⟩ : TV) = wf at *
        exact bodyPost_ret (v := .tuple #[.agg (⟨tiZ, none, 0, 0⟩ : TV).arr, .int .i64 er]) (by simp [results, Try.results24, go_sem, x0, x1, x2, x3, x4, x5, x6, x7, x8, x9, x10]) rfl ⟨(⟨tiZ, none, 0, 0⟩ : TV), by rw [HN.out], rfl, HBF.out⟩

  · have q0 : decide (0 ≤ z) = false := decide_eq_false z0
    have hfit : decide (0 ≤ z ∧ z < (l.length : Int)) = false := decide_eq_false fun h => z0 h.1
    have HWR := hidE (fun (w' : World) (h : Below w.heap.size w w') => wrong_c fr to' l W a wa cap wcap false w' hl (by omega) (hA.past h) (hW.past h) hf ht)
    rw [hfit] at HER
    clear hfit
    obtain ⟨er, her⟩ : ∃ er, wrongS fr to' l false W = er := ⟨_, rfl⟩
    rw [her] at HWR HER
    have HE2 := hidE her
    have HA := hidE hA; have HW := hidE hW
    obtain rfl : er = E := HER.out
    clear her hA hW
    go_enter Try.func24, Try.ntmps24
    go_wp2_with fail
    ((with_reducible refine (HWR.out _ (by (repeat (first | exact Below.refl _ _ | assumption | refine balloc ?_ _ | refine below_drewN ?_ _ | refine bstep (by assumption) ?_ | refine bstep (Past.prop _) ?_ | refine Below.setCell ?_ (by first | exact Nat.le_refl _ | (simp; done) | (simp; omega)) _)))).mono ?_); rintro e w1 ⟨rfl, hb1⟩)
    have hd := ((Blk.made w #[.int .i64 fr, .int .i64 to', .slice a l.length cap] 24).alloc (.cells ti0 69)).past hb1
    have hr := (Blk.made_at (w.alloc (.cells #[.int .i64 fr, .int .i64 to', .slice a l.length cap] 24)) ti0 69 (w.heap.size + 1) (by simp)).past hb1
    have hb := (show Below w.heap.size w ((w.alloc (.cells #[.int .i64 fr, .int .i64 to', .slice a l.length cap] 24)).alloc (.cells ti0 69)) from by (repeat (first | exact Below.refl _ _ | assumption | refine balloc ?_ _ | refine below_drewN ?_ _ | refine bstep (by assumption) ?_ | refine bstep (Past.prop _) ?_ | refine Below.setCell ?_ (by first | exact Nat.le_refl _ | (simp; done) | (simp; omega)) _))).trans (hb1.mono (by simp; omega))
    obtain ⟨rb, hrb⟩ : ∃ r, r = w.heap.size + 1 := ⟨_, rfl⟩
    rw [← hrb] at hr ⊢
    have hrz : w.heap.size < rb := by omega
    have e2 := hd.cell 2; have dz := hd.lt
    simp at e2
    have HB := hidE hb; have HR := hidE hr
    clear hb1 hd hb hr hrb
    by_cases h0 : er = 0
    · subst h0
      exact absurd (wrong_zero HE2.out).2.1 (by decide)
    · have r0 : (er != 0) = true := bne_iff_ne.2 h0
      have HN := hidE (show lookT er t = tiZ by unfold lookT; rw [if_neg h0])
      have s0 := HR.out.free 0; have s1 := HR.out.free 1; have s2 := HR.out.free 2; have s3 := HR.out.free 3; have s4 := HR.out.free 4; have s5 := HR.out.free 5; have s6 := HR.out.free 6; have s7 := HR.out.free 7; have s8 := HR.out.free 8; have s9 := HR.out.free 9; have s10 := HR.out.free 10
      have r0 := HR.out.cell 0; have r1 := HR.out.cell 1; have r2 := HR.out.cell 2; have r3 := HR.out.cell 3; have r4 := HR.out.cell 4; have r5 := HR.out.cell 5; have r6 := HR.out.cell 6; have r7 := HR.out.cell 7; have r8 := HR.out.cell 8; have r9 := HR.out.cell 9; have r10 := HR.out.cell 10; have rz := HR.out.lt
      simp at r0 r1 r2 r3 r4 r5 r6 r7 r8 r9 r10
      clear h0 e2 dz
      go_wp2
      have hfin : Blk (put11 w1 rb (⟨tiZ, none, 0, 0⟩ : TV)) rb (⟨tiZ, none, 0, 0⟩ : TV).arr 69 := put11_blk (x := p00) (v := .slice none 0 0) (n := 0) (s := none) (b := false) HR.out (⟨tiZ, none, 0, 0⟩ : TV)
      have HBF := hidE (Below.grown HB.out (put11_grown w1 rb (⟨tiZ, none, 0, 0⟩ : TV)) HB.out.size (fun q e => by cases e; omega))
      have x0 := hfin.cell 0; have x1 := hfin.cell 1; have x2 := hfin.cell 2; have x3 := hfin.cell 3; have x4 := hfin.cell 4; have x5 := hfin.cell 5; have x6 := hfin.cell 6; have x7 := hfin.cell 7; have x8 := hfin.cell 8; have x9 := hfin.cell 9; have x10 := hfin.cell 10
      simp at x0 x1 x2 x3 x4 x5 x6 x7 x8 x9 x10
      change bodyPost _ _ _ _ _ (put11 w1 rb (⟨tiZ, none, 0, 0⟩ : TV))
      clear hfin HR HB r0 s0 r1 s1 r2 s2 r3 s3 r4 s4 r5 s5 r6 s6 r7 s7 r8 s8 r9 s9 r10 s10 rz
      generalize put11 w1 rb (⟨tiZ, none, 0, 0⟩ : TV) = wf at *
      exact bodyPost_ret (v := .tuple #[.agg (⟨tiZ, none, 0, 0⟩ : TV).arr, .int .i64 er]) (by simp [results, Try.results24, go_sem, x0, x1, x2, x3, x4, x5, x6, x7, x8, x9, x10]) rfl ⟨(⟨tiZ, none, 0, 0⟩ : TV), by rw [HN.out], rfl, HBF.out⟩

end Go.Proofs.Ytlhokgcamcaonaa

namespace Go.Proofs.Ytlhokgcamcaonaa
open Go.ChangeShapes Go.WideShapes Go.ChangeAt Go.RowKit
attribute [local irreducible] Go.Calls

set_option maxHeartbeats 2000000 in
set_option maxRecDepth 100000 in
theorem satTerm_c (fr to' : Int) (l : List Prt) (W : List Pc) (a wa : Option Addr) (cap wcap : Nat) (z er : Int) (t : TI) (w : World) (hl : l.length ≤ 9223372036854775807) (hWl : W.length ≤ 100000) (hA : ArgP w a l) (hW : ArgVs w wa W) (hf : -9223372036854775808 ≤ fr ∧ fr ≤ 9223372036854775807) (ht : -9223372036854775808 ≤ to' ∧ to' ≤ 9223372036854775807) (hz : -9223372036854775808 ≤ z ∧ z ≤ 9223372036854775807) (her : wrongS fr to' l (decide (0 ≤ z ∧ z < (l.length : Int))) W = er) (hh : er = 0 → Here l W z t) : Calls Try.prog 9 #[def8 fr to' a l.length cap, .slice wa W.length wcap, .int .i64 z] w fun e w' => e = .returned (.tuple #[.bool (lookT er t).ok, .int .i64 er]) ∧ Below w.heap.size w w' := by
  have HLK := hidE (fun (w' : World) (h : Below w.heap.size w w') => by
    have := look_c fr to' l W a wa cap wcap z t w' hl hWl (hA.past h) (hW.past h) hf ht hz (by rw [her]; exact hh)
    rw [her] at this
    exact this)
  clear hA hW her hh
  generalize lookT er t = t2 at *
  go_enter Try.func9, Try.ntmps9
  go_wp2_with fail
  ((with_reducible refine (HLK.out _ (by (repeat (first | exact Below.refl _ _ | assumption | refine balloc ?_ _ | refine below_drewN ?_ _ | refine bstep (by assumption) ?_ | refine bstep (Past.prop _) ?_ | refine Below.setCell ?_ (by first | exact Nat.le_refl _ | (simp; done) | (simp; omega)) _)))).mono ?_); rintro e w1 ⟨k, hk, rfl, hb1⟩)
  have HK := hidE hk
  have hb := (show Below w.heap.size w (w.alloc (.cells #[.int .i64 fr, .int .i64 to', .slice a l.length cap] 24)) from by (repeat (first | exact Below.refl _ _ | assumption | refine balloc ?_ _ | refine below_drewN ?_ _ | refine bstep (by assumption) ?_ | refine bstep (Past.prop _) ?_ | refine Below.setCell ?_ (by first | exact Nat.le_refl _ | (simp; done) | (simp; omega)) _))).trans (hb1.mono (by simp))
  have hd := (Blk.made w #[.int .i64 fr, .int .i64 to', .slice a l.length cap] 24).past hb1
  have e0 := hd.cell 0; have e1 := hd.cell 1; have dz := hd.lt
  simp at e0 e1
  have HB := hidE hb
  clear hb1 hd hb hk
  go_wp2
  go_ret2
  exact ⟨by rw [← HK.out]; rfl, HB.out.trans ((show Below w1.heap.size w1 _ from by (repeat (first | exact Below.refl _ _ | assumption | refine balloc ?_ _ | refine below_drewN ?_ _ | refine bstep (by assumption) ?_ | refine bstep (Past.prop _) ?_ | refine Below.setCell ?_ (by first | exact Nat.le_refl _ | (simp; done) | (simp; omega)) _))).mono HB.out.size)⟩
set_option maxHeartbeats 2000000 in
set_option maxRecDepth 100000 in
theorem satEnds_c (fr to' : Int) (l : List Prt) (W : List Pc) (a wa : Option Addr) (cap wcap : Nat) (z er : Int) (t : TI) (w : World) (hl : l.length ≤ 9223372036854775807) (hWl : W.length ≤ 100000) (hA : ArgP w a l) (hW : ArgVs w wa W) (hf : -9223372036854775808 ≤ fr ∧ fr ≤ 9223372036854775807) (ht : -9223372036854775808 ≤ to' ∧ to' ≤ 9223372036854775807) (hz : -9223372036854775808 ≤ z ∧ z ≤ 9223372036854775807) (her : wrongS fr to' l (decide (0 ≤ z ∧ z < (l.length : Int))) W = er) (hh : er = 0 → Here l W z t) : Calls Try.prog 10 #[def8 fr to' a l.length cap, .slice wa W.length wcap, .int .i64 z] w fun e w' => e = .returned (.tuple #[.int .i64 (seB (lookT er t).se), .int .i64 (seE (lookT er t).se), .bool (lookT er t).se.isSome, .int .i64 er]) ∧ Below w.heap.size w w' := by
  have HLK := hidE (fun (w' : World) (h : Below w.heap.size w w') => by
    have := look_c fr to' l W a wa cap wcap z t w' hl hWl (hA.past h) (hW.past h) hf ht hz (by rw [her]; exact hh)
    rw [her] at this
    exact this)
  clear hA hW her hh
  generalize lookT er t = t2 at *
  go_enter Try.func10, Try.ntmps10
  go_wp2_with fail
  ((with_reducible refine (HLK.out _ (by (repeat (first | exact Below.refl _ _ | assumption | refine balloc ?_ _ | refine below_drewN ?_ _ | refine bstep (by assumption) ?_ | refine bstep (Past.prop _) ?_ | refine Below.setCell ?_ (by first | exact Nat.le_refl _ | (simp; done) | (simp; omega)) _)))).mono ?_); rintro e w1 ⟨k, hk, rfl, hb1⟩)
  have HK := hidE hk
  have hb := (show Below w.heap.size w (w.alloc (.cells #[.int .i64 fr, .int .i64 to', .slice a l.length cap] 24)) from by (repeat (first | exact Below.refl _ _ | assumption | refine balloc ?_ _ | refine below_drewN ?_ _ | refine bstep (by assumption) ?_ | refine bstep (Past.prop _) ?_ | refine Below.setCell ?_ (by first | exact Nat.le_refl _ | (simp; done) | (simp; omega)) _))).trans (hb1.mono (by simp))
  have hd := (Blk.made w #[.int .i64 fr, .int .i64 to', .slice a l.length cap] 24).past hb1
  have e0 := hd.cell 0; have e1 := hd.cell 1; have dz := hd.lt
  simp at e0 e1
  have HB := hidE hb
  clear hb1 hd hb hk
  go_wp2
  go_quiet (fail)
  go_wp2
  refine bodyPost_ret (v := .tuple #[.int .i64 (seB k.t.se), .int .i64 (seE k.t.se), .bool k.t.se.isSome, .int .i64 er]) (by simp [results, Try.results10, go_sem]) rfl ?_
  exact ⟨by rw [← HK.out], HB.out.trans ((show Below w1.heap.size w1 _ from by (repeat (first | exact Below.refl _ _ | assumption | refine balloc ?_ _ | refine below_drewN ?_ _ | refine bstep (by assumption) ?_ | refine bstep (Past.prop _) ?_ | refine Below.setCell ?_ (by first | exact Nat.le_refl _ | (simp; done) | (simp; omega)) _))).mono HB.out.size)⟩
set_option maxHeartbeats 2000000 in
set_option maxRecDepth 100000 in
theorem satShort_c (fr to' : Int) (l : List Prt) (a : Option Addr) (cap : Nat) (z er : Int) (t : TI) (w : World) (hl : l.length ≤ 9223372036854775807) (hA : ArgP w a l) (hf : -9223372036854775808 ≤ fr ∧ fr ≤ 9223372036854775807) (ht : -9223372036854775808 ≤ to' ∧ to' ≤ 9223372036854775807) (hz : -9223372036854775808 ≤ z ∧ z ≤ 9223372036854775807) (her : wrongS fr to' l (decide (0 ≤ z ∧ z < (l.length : Int))) [] = er) (hh : er = 0 → Here l [] z t) :
    Calls Try.prog 13 #[def8 fr to' a l.length cap, .int .i64 z] w fun e w' => e = .returned (.tuple #[.int .i64 (lookT er t).len, .int .i64 er]) ∧ Below w.heap.size w w' := by
  have HLK := hidE (fun (w' : World) (h : Below w.heap.size w w') => by
    have := look_c fr to' l [] a none cap 0 z t w' hl (by simp) (hA.past h) (fun h => by simp at h) hf ht hz (by rw [her]; exact hh)
    rw [her, List.length_nil] at this
    exact this)
  clear hA her hh
  generalize lookT er t = t2 at *
  go_enter Try.func13, Try.ntmps13
  go_wp2_with fail
  ((with_reducible refine (HLK.out _ (by (repeat (first | exact Below.refl _ _ | assumption | refine balloc ?_ _ | refine below_drewN ?_ _ | refine bstep (by assumption) ?_ | refine bstep (Past.prop _) ?_ | refine Below.setCell ?_ (by first | exact Nat.le_refl _ | (simp; done) | (simp; omega)) _)))).mono ?_); rintro e w1 ⟨k, hk, rfl, hb1⟩)
  have HK := hidE hk
  have hb := (show Below w.heap.size w (w.alloc (.cells #[.int .i64 fr, .int .i64 to', .slice a l.length cap] 24)) from by (repeat (first | exact Below.refl _ _ | assumption | refine balloc ?_ _ | refine below_drewN ?_ _ | refine bstep (by assumption) ?_ | refine bstep (Past.prop _) ?_ | refine Below.setCell ?_ (by first | exact Nat.le_refl _ | (simp; done) | (simp; omega)) _))).trans (hb1.mono (by simp))
  have hd := (Blk.made w #[.int .i64 fr, .int .i64 to', .slice a l.length cap] 24).past hb1
  have e0 := hd.cell 0; have e1 := hd.cell 1; have dz := hd.lt
  simp at e0 e1
  have HB := hidE hb
  clear hb1 hd hb hk
  go_wp2
  go_ret2
  exact ⟨by rw [← HK.out]; rfl, HB.out.trans ((show Below w1.heap.size w1 _ from by (repeat (first | exact Below.refl _ _ | assumption | refine balloc ?_ _ | refine below_drewN ?_ _ | refine bstep (by assumption) ?_ | refine bstep (Past.prop _) ?_ | refine Below.setCell ?_ (by first | exact Nat.le_refl _ | (simp; done) | (simp; omega)) _))).mono HB.out.size)⟩
set_option maxHeartbeats 2000000 in
set_option maxRecDepth 100000 in
theorem satSat_c (fr to' : Int) (l : List Prt) (W : List Pc) (a wa : Option Addr) (cap wcap : Nat) (er : Int) (t : TI) (w : World) (hl : l.length ≤ 9223372036854775807) (hWl : W.length ≤ 100000) (hA : ArgP w a l) (hW : ArgVs w wa W) (hf : -9223372036854775808 ≤ fr ∧ fr ≤ 9223372036854775807) (ht : -9223372036854775808 ≤ to' ∧ to' ≤ 9223372036854775807) (her : wrongS fr to' l (decide ((0 : Int) ≤ 0 ∧ 0 < (l.length : Int))) W = er) (hh : er = 0 → Here l W 0 t) :
    Calls Try.prog 15 #[def8 fr to' a l.length cap, .slice wa W.length wcap] w fun e w' => e = .returned (.bool ((lookT er t).ok && (decide (fr ≤ seB (lookT er t).se) && decide (seE (lookT er t).se ≤ to')))) ∧ Below w.heap.size w w' := by
  have HLK := hidE (fun (w' : World) (h : Below w.heap.size w w') => by
    have := look_c fr to' l W a wa cap wcap 0 t w' hl hWl (hA.past h) (hW.past h) hf ht (by omega) (by rw [her]; exact hh)
    rw [her] at this
    exact this)
  clear hA hW her hh
  generalize lookT er t = t2 at *
  go_enter Try.func15, Try.ntmps15
  go_wp2_with fail
  ((with_reducible refine (HLK.out _ (by (repeat (first | exact Below.refl _ _ | assumption | refine balloc ?_ _ | refine below_drewN ?_ _ | refine bstep (by assumption) ?_ | refine bstep (Past.prop _) ?_ | refine Below.setCell ?_ (by first | exact Nat.le_refl _ | (simp; done) | (simp; omega)) _)))).mono ?_); rintro e w1 ⟨k, hk, rfl, hb1⟩)
  have HK := hidE hk
  have hb := (show Below w.heap.size w (w.alloc (.cells #[.int .i64 fr, .int .i64 to', .slice a l.length cap] 24)) from by (repeat (first | exact Below.refl _ _ | assumption | refine balloc ?_ _ | refine below_drewN ?_ _ | refine bstep (by assumption) ?_ | refine bstep (Past.prop _) ?_ | refine Below.setCell ?_ (by first | exact Nat.le_refl _ | (simp; done) | (simp; omega)) _))).trans (hb1.mono (by simp))
  have hd := (Blk.made w #[.int .i64 fr, .int .i64 to', .slice a l.length cap] 24).past hb1
  have e0 := hd.cell 0; have e1 := hd.cell 1; have dz := hd.lt
  simp at e0 e1
  have HB := hidE hb
  clear hb1 hd hb hk
  obtain ⟨v, hv⟩ : ∃ v, v = (k.t.ok && (decide (fr ≤ seB k.t.se) && decide (seE k.t.se ≤ to'))) := ⟨_, rfl⟩
  have HV := hidE (show (t2.ok && (decide (fr ≤ seB t2.se) && decide (seE t2.se ≤ to'))) = v by rw [← HK.out, hv])
  obtain ⟨ok, hok⟩ : ∃ ok, k.t.ok = ok := ⟨_, rfl⟩
  obtain ⟨b1, hb1⟩ : ∃ b1, decide (fr ≤ seB k.t.se) = b1 := ⟨_, rfl⟩
  obtain ⟨b2, hb2⟩ : ∃ b2, decide (seE k.t.se ≤ to') = b2 := ⟨_, rfl⟩
  rw [hok, hb1, hb2] at hv
  have HVV := hidE hv
  clear hv
  cases ok with
  | false =>
    go_wp2
    go_ret
    exact ⟨by rw [HV.out, HVV.out]; rfl, HB.out.trans ((show Below w1.heap.size w1 _ from by (repeat (first | exact Below.refl _ _ | assumption | refine balloc ?_ _ | refine below_drewN ?_ _ | refine bstep (by assumption) ?_ | refine bstep (Past.prop _) ?_ | refine Below.setCell ?_ (by first | exact Nat.le_refl _ | (simp; done) | (simp; omega)) _))).mono HB.out.size)⟩
  | true =>
    cases b1 with
    | false =>
      go_wp2
      go_ret
      exact ⟨by rw [HV.out, HVV.out]; rfl, HB.out.trans ((show Below w1.heap.size w1 _ from by (repeat (first | exact Below.refl _ _ | assumption | refine balloc ?_ _ | refine below_drewN ?_ _ | refine bstep (by assumption) ?_ | refine bstep (Past.prop _) ?_ | refine Below.setCell ?_ (by first | exact Nat.le_refl _ | (simp; done) | (simp; omega)) _))).mono HB.out.size)⟩
    | true =>
      go_wp2
      go_ret
      exact ⟨by rw [HV.out, HVV.out, ← hb2]; rfl, HB.out.trans ((show Below w1.heap.size w1 _ from by (repeat (first | exact Below.refl _ _ | assumption | refine balloc ?_ _ | refine below_drewN ?_ _ | refine bstep (by assumption) ?_ | refine bstep (Past.prop _) ?_ | refine Below.setCell ?_ (by first | exact Nat.le_refl _ | (simp; done) | (simp; omega)) _))).mono HB.out.size)⟩
end Go.Proofs.Ytlhokgcamcaonaa
